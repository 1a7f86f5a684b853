/-
  The contract of firstOf, which makes the closure that tells what is hashed first, and of that closure.
-/
import Derived.Test.YtnifhgcdpgokhaaHex
import Derived.Test.YtnifhgcdpgokhaaMask
import Derived.Outline
namespace Go.Proofs.Ytnifhgcdpgokhaa
open Go.RowKit

/-- The closure over block g. -/
def firstV (g : Nat) : Value := .func (.func 28) #[] #[.pointer (some ⟨g, 0, none⟩)]
theorem key_splice (l : List UInt8) : splice (List.replicate 64 (Value.int .u8 0)) 0 ((shortK l).map bv) = (keyL l).map bv := by
  have h := shortK_len l
  have e := splice_zero ((shortK l).map bv) (shortK l).length (64 - (shortK l).length) (Value.int .u8 0) (by simp)
  rw [show (shortK l).length + (64 - (shortK l).length) = 64 by omega] at e
  rw [e, keyL, List.map_append, List.map_replicate]
  rfl

theorem row_at {w : World} {g t : Nat} {L : List Value} {fr : Nat × Nat} (h : w.heap[g]? = some (.cells L.toArray t fr)) : ∀ (j : Nat) (v : Value), L[j]? = some v → w.cell? ((⟨g, 0, none⟩ : Addr).add j) = some v := by
  intro j v hv
  rw [Addr.add_lit, Nat.zero_add, cell_of_row w g j _ t fr h, List.getElem?_toArray, hv]
theorem first_copy {w W : World} (l x : List UInt8) (hx : x = shortK l) (hb : Below w.heap.size w W) : ∀ w', Hid (w'.heap[w.heap.size]? = some (.cells (splice (List.replicate 64 (Value.int .u8 0)) 0 (x.map bv)).toArray 46 (0, 0))) → Below w.heap.size w w' → KeyAt w' w.heap.size (keyL l) := by
  intro w' h1 _
  subst hx
  have e := h1.out
  rw [key_splice] at e
  exact ⟨keyL_len l, e⟩

set_option maxRecDepth 10000 in
set_option maxHeartbeats 1000000 in
theorem firstOf_any (A : Option Addr) (l : List UInt8) (n c : Nat) (w : World) (h : IsBB w w.heap.size A n c l) :
    Calls Try.prog 18 #[.slice A n c] w fun e w' => ∃ g, e = .returned (firstV g) ∧ KeyAt w' g (keyL l) ∧ Below w.heap.size w w' ∧ w.heap.size ≤ g := by
  have hlen := hid h.len
  have H := hid h
  have zv := zero46
  have hnm : (n : Int) ≤ 140737488355328 := by have := h.small; omega
  have r0 : (w.alloc (.cells zb64 46)).heap[w.heap.size]? = some (.cells (List.replicate 64 (Value.int .u8 0)).toArray 46 (0, 0)) := by rw [← zb64_list]; exact heap_alloc_new w _
  have b0 : Below w.heap.size w (w.alloc (.cells zb64 46)) := (Below.refl w.heap.size w).alloc (Nat.le_refl _) (.cells zb64 46)
  have hA := h.on b0
  have s0 : (w.alloc (.cells zb64 46)).heap.size = w.heap.size + 1 := by simp
  clear h
  by_cases hb : 64 < n
  · have hz : (64 : Int) < n := by omega
    have hx : sha l = shortK l := by unfold shortK; rw [if_pos (by rw [hlen.out]; exact hb)]
    have Hx := hid hx
    have Hr0 := hid r0
    have HA := hid hA
    have Hb0 := hid b0
    have Hs0 := hid s0
    clear r0 hA b0 s0 hx
    go_enter Try.func18, Try.ntmps18
    go_wp2_with fail
    change Calls _ _ _ (w.alloc (.cells zb64 46)) _
    generalize w.alloc (.cells zb64 46) = W0 at Hr0 HA Hb0 Hs0 ⊢
    refine (Of_any _ l _ _ _ HA.out).mono ?_
    rintro e W1 ⟨rfl, hb1⟩
    have Hb1 := hid hb1
    clear hb1 zv
    go_upto_region 4 with (refine wpList_store_row (o := ⟨none, .store 30 (.tmp 4) (.tmp 9), _, _, _, _⟩) rfl 30 (.tmp 4) (.tmp 9) rfl W1.heap.size ((sha l).map bv).toArray rfl rfl 30 z32 (heap_alloc_new W1 _) (size32 _ (map_len32 (sha_len l))) (z32_size _ (map_len32 (sha_len l))) (bv_all _) ?_)
    have r2 : ((W1.alloc (.cells z32 30)).setRow W1.heap.size ((sha l).map bv).toArray).heap[W1.heap.size]? = some (.cells ((sha l).map bv).toArray 30 (0, 0)) := setRow_heap _ _ _ _ _ _ (heap_alloc_new W1 _)
    have b1 : Below w.heap.size w W1 := Hb0.out.trans (Hb1.out.mono (by have := Hs0.out; omega))
    have b2 : Below w.heap.size w ((W1.alloc (.cells z32 30)).setRow W1.heap.size ((sha l).map bv).toArray) := below_setRow (b1.alloc b1.size _) b1.size _
    have r3 : ((W1.alloc (.cells z32 30)).setRow W1.heap.size ((sha l).map bv).toArray).heap[w.heap.size]? = some (.cells (List.replicate 64 (.int .u8 0)).toArray 46 (0, 0)) := by
      have e1 := Hb1.out.size
      have e2 := Hs0.out
      rw [setRow_other _ _ _ _ (by omega), heap_alloc_old _ _ (by omega), Hb1.out.block _ (by omega)]
      exact Hr0.out
    have Hr2 := hid r2
    have Hb2 := hid b2
    have Hr3 := hid r3
    have Hsh := hid (sha_len l)
    clear r2 b1 b2 r3
    change Code.wp _ _ _ _ ((W1.alloc (.cells z32 30)).setRow W1.heap.size ((sha l).map bv).toArray)
    generalize ((W1.alloc (.cells z32 30)).setRow W1.heap.size ((sha l).map bv).toArray) = W2 at Hr2 Hb2 Hr3 ⊢
    generalize W1.heap.size = g2 at Hr2 ⊢
    generalize sha l = x at Hx Hr2 Hsh ⊢
    have Hn : Hid ((x.map bv).length = Nat.min 32 64) := by show _ = _; rw [List.length_map, Hsh.out]; rfl
    have Hf : Hid (0 + (x.map bv).length ≤ (List.replicate 64 (Value.int .u8 0)).length) := by show _ ≤ _; rw [List.length_map, Hsh.out]; simp
    go_wp2_with (refine wpList_copy_splice rfl (.tmp 11) (.tmp 12) 22 22 rfl 5 Try.underlying22 Try.size5 (some ⟨w.heap.size, 0, none⟩) (some ⟨g2, 0, none⟩) 64 64 32 32 rfl rfl w.heap.size 0 (List.replicate 64 (.int .u8 0)) 46 Hr3.out (x.map bv) Hn.out (fun _ => ⟨rfl, _, rfl, row_at Hr2.out⟩) Hf.out (bv_one _) w.heap.size w Hb2.out (Nat.le_refl _) ?_; intro W3 hk3 hb3)
    go_ret
    exact ⟨w.heap.size, rfl, first_copy l x Hx.out Hb2.out W3 hk3 hb3, hb3, Nat.le_refl _⟩
  · have hz : (n : Int) ≤ 64 := by omega
    have hx : l = shortK l := by unfold shortK; rw [if_neg (by rw [hlen.out]; exact hb)]
    have Hx := hid hx
    have Hr0 := hid r0
    have HA := hid hA
    have Hb0 := hid b0
    have Hs0 := hid s0
    have Hn : Hid ((l.map bv).length = Nat.min n 64) := by show _ = min n 64; rw [List.length_map, hlen.out]; omega
    have Hf : Hid (0 + (l.map bv).length ≤ (List.replicate 64 (Value.int .u8 0)).length) := by show _ ≤ _; rw [List.length_map, hlen.out]; simp; omega
    have Hp : Hid (0 < (l.map bv).length → (some (⟨w.heap.size, 0, none⟩ : Addr) = some (⟨w.heap.size, 0, none⟩ : Addr)) ∧ ∃ ad, A = some ad ∧ ∀ j v, (l.map bv)[j]? = some v → (w.alloc (.cells zb64 46)).cell? (ad.add j) = some v) := fun hp => ⟨rfl, H.out.src b0 hp⟩
    clear r0 hA b0 s0 hx
    go_enter Try.func18, Try.ntmps18
    go_wp2_with (refine wpList_copy_splice rfl (.tmp 11) (.tmp 12) 22 22 rfl 5 Try.underlying22 Try.size5 (some ⟨w.heap.size, 0, none⟩) A 64 64 n c rfl rfl w.heap.size 0 (List.replicate 64 (.int .u8 0)) 46 Hr0.out (l.map bv) Hn.out Hp.out Hf.out (bv_one _) w.heap.size w Hb0.out (Nat.le_refl _) ?_; intro W3 hk3 hb3)
    go_ret
    exact ⟨w.heap.size, rfl, first_copy l l Hx.out Hb0.out W3 hk3 hb3, hb3, Nat.le_refl _⟩
end Go.Proofs.Ytnifhgcdpgokhaa
