/-
  The contracts of under and Hmac.
-/
import Derived.Test.YtnifhgcdpgokhaaHash
import Derived.Deep.RegionWith
namespace Go.Proofs.Ytnifhgcdpgokhaa
open Go.RowKit

theorem mask54 (g : Nat) (K : List UInt8) (w : World) (h : KeyAt w g K) :
    Calls Try.prog 28 #[.int .u8 54, .pointer (some ⟨g, 0, none⟩)] w fun e w' => e = .returned (.agg ((maskL 54 K).map bv).toArray) ∧ Below w.heap.size w w' := mask_any g K 54 w h
theorem mask92 (g : Nat) (K : List UInt8) (w : World) (h : KeyAt w g K) :
    Calls Try.prog 28 #[.int .u8 92, .pointer (some ⟨g, 0, none⟩)] w fun e w' => e = .returned (.agg ((maskL 92 K).map bv).toArray) ∧ Below w.heap.size w w' := mask_any g K 92 w h
/-- A slice of one slice, in a block of its own. -/
theorem parts_one {w : World} {g n c t : Nat} {A : Option Addr} {l : List UInt8} (hg : w.heap[g]? = some (.cells #[.slice A n c] t (0, 0))) (h : IsBB w w.heap.size A n c l) : PartsIn w w.heap.size ⟨g, 0, none⟩ [l] := by
  intro k hk
  obtain rfl : k = 0 := by simp at hk; omega
  exact ⟨lt_of_heap hg, A, n, c, by rw [Addr.add_lit, Nat.zero_add, cell_of_row w g 0 _ t (0, 0) hg]; rfl, h⟩
theorem store32 {w : World} {g : Nat} {l : List UInt8} {old : Array Value} (hg : w.heap[g]? = some (.cells old 30 (0, 0))) (ho : old.size = 32) (hl : l.length = 32) : (storeCells ⟨g, 0, none⟩ (l.map bv)).run Try.prog w = .ok () (w.setRow g (l.map bv).toArray) := by
  have e := run_storeCells_from (P := Try.prog) g 30 (l.map bv) 0 old w hg (by simp [hl, ho]) (bv_one l)
  simpa using e
theorem hashed_one (K : List UInt8) (ad : Addr) (x : List UInt8) (w : World) (hK : K.length = 64) (h : PartsIn w w.heap.size ad [x]) (ht : x.length ≤ 800000000000000) :
    Calls Try.prog 29 #[.agg (K.map bv).toArray, .slice (some ad) 1 1] w fun e w' => e = .returned (.agg ((sha (K ++ x)).map bv).toArray) ∧ Below w.heap.size w w' := by
  have e : [x].flatten = x := by simp
  have q := hashed_any K ad [x] 1 1 w hK rfl (by omega) h (by rw [e]; exact ht)
  rw [e] at q
  exact q
theorem after_draw {w w' : World} (h : Below w.drew.heap.size w.drew w') : Below w.heap.size w w' := ⟨h.os, h.tape, h.output, h.size, h.block⟩
theorem parts_a {W3 W4 : World} {A : Option Addr} {n c : Nat} {x : List UInt8} (hi : IsBB W3 W3.heap.size A n c x) (h : Below W3.heap.size W3 W4) : PartsIn (W4.alloc (.cells #[.slice A n c] 22)) (W4.alloc (.cells #[.slice A n c] 22)).heap.size ⟨W4.heap.size, 0, none⟩ [x] :=
  parts_one (heap_alloc_new W4 _) ((hi.on h).on ((Below.refl _ _).alloc (Nat.le_refl _) _))
theorem parts_b {W3 W4 : World} {A : Option Addr} {n c : Nat} {x : List UInt8} (hi : IsBB W3 W3.heap.size A n c x) (h : Below (W3.alloc (.cells #[.slice A n c] 22)).heap.size (W3.alloc (.cells #[.slice A n c] 22)) W4) : PartsIn W4 W4.heap.size ⟨W3.heap.size, 0, none⟩ [x] :=
  parts_one ((h.block _ (lt_of_heap (heap_alloc_new W3 _))).trans (heap_alloc_new W3 _)) ((hi.on ((Below.refl _ _).alloc (Nat.le_refl _) _)).on h)
theorem late_a {W3 W4 W5 : World} {o : Obj} (h : Below W3.heap.size W3 W4) (h5 : Below (W4.alloc o).heap.size (W4.alloc o) W5) : Below W3.heap.size W3 W5 := by
  have q := h.alloc h.size o
  exact q.trans (h5.mono q.size)
theorem late_b {W3 W4 W5 : World} {o : Obj} (h : Below (W3.alloc o).heap.size (W3.alloc o) W4) (h5 : Below W4.heap.size W4 W5) : Below W3.heap.size W3 W5 := by
  have q := (Below.refl W3.heap.size W3).alloc (Nat.le_refl _) o
  have q2 := q.trans (h.mono q.size)
  exact q2.trans (h5.mono q2.size)
theorem flat_one (l : List UInt8) : [l].flatten = l := by simp

set_option maxRecDepth 10000 in
set_option maxHeartbeats 1000000 in
theorem under_any (g : Nat) (K : List UInt8) (ad : Addr) (Ls : List (List UInt8)) (n c : Nat) (w : World) (hk : KeyAt w g K) (hn : Ls.length = n) (hm : n ≤ 1000) (h : PartsIn w w.heap.size ad Ls) (ht : Ls.flatten.length ≤ 700000000000000) :
    Calls Try.prog 22 #[firstV g, .slice (some ad) n c] w fun e w' => e = .returned (.agg ((hmacK K Ls.flatten).map bv).toArray) ∧ Below w.heap.size w w' := by
  have H := hid h
  have HK := hid hk
  have Hn := hid (And.intro hn (And.intro hm ht))
  clear h hk hn hm ht
  have r0 : (w.alloc (.cells z32 30)).heap[w.heap.size]? = some (.cells z32 30 (0, 0)) := heap_alloc_new w _
  have b0 : Below w.heap.size w (w.alloc (.cells z32 30)) := (Below.refl w.heap.size w).alloc (Nat.le_refl _) _
  have s0 : (w.alloc (.cells z32 30)).heap.size = w.heap.size + 1 := by simp
  have Hr0 := hid r0
  have Hb0 := hid b0
  have Hs0 := hid s0
  clear r0 b0 s0
  unfold firstV
  go_enter Try.func22, Try.ntmps22
  go_upto_region 1 with (fail)
  change Code.wp _ _ _ _ (w.alloc (.cells z32 30))
  generalize (w.alloc (.cells z32 30)) = W0 at Hr0 Hb0 Hs0 ⊢
  go_wp2_with fail
  refine (mask54 g K _ (HK.out.on (Hb0.out))).mono ?_
  rintro e W1 ⟨rfl, hb1⟩
  have q1 : Below w.heap.size w W1 := Hb0.out.trans (hb1.mono Hb0.out.size)
  have HP := hid (H.out.on q1)
  have Hl := hid (maskL_len 54 K)
  have HQ1 := hid q1
  have HS1 : Hid (w.heap.size + 1 ≤ W1.heap.size) := by show _ ≤ _; have := Hs0.out; have := hb1.size; omega
  have HR1 : Hid (W1.heap[w.heap.size]? = some (.cells z32 30 (0, 0))) := (hb1.block _ (lt_of_heap Hr0.out)).trans Hr0.out
  clear hb1 q1 Hr0 Hb0 Hs0
  go_wp2_with fail
  refine (hashed_any (maskL 54 K) ad Ls n c _ (by rw [Hl.out]; exact HK.out.1) Hn.out.1 Hn.out.2.1 HP.out (by have := Hn.out.2.2; omega)).mono ?_
  rintro e W2 ⟨rfl, hb2⟩
  have q2 : Below w.heap.size w W2 := HQ1.out.trans (hb2.mono HQ1.out.size)
  have HR2 : Hid (W2.heap[w.heap.size]? = some (.cells z32 30 (0, 0))) := (hb2.block _ (by have := HS1.out; omega)).trans HR1.out
  have HS2 : Hid (w.heap.size + 1 ≤ W2.heap.size) := Nat.le_trans HS1.out hb2.size
  have HQ2 := hid q2
  have Hx := hid (sha_len (maskL 54 K ++ Ls.flatten))
  obtain ⟨x, hx⟩ : ∃ x, x = sha (maskL 54 K ++ Ls.flatten) := ⟨_, rfl⟩
  rw [← hx] at Hx
  rw [← hx]
  have Hxx := hid hx
  clear hx hb2 q2 HQ1 HS1 HR1 HP Hl
  go_upto_region 2 with (refine wpList_store_row (o := ⟨none, .store 30 (.tmp 5) (.tmp 9), _, _, _, _⟩) rfl 30 (.tmp 5) (.tmp 9) rfl W2.heap.size (x.map bv).toArray rfl rfl 30 z32 (heap_alloc_new W2 _) (size32 _ (map_len32 Hx.out)) (z32_size _ (map_len32 Hx.out)) (bv_all _) ?_)
  have r3 : ((W2.alloc (.cells z32 30)).setRow W2.heap.size (x.map bv).toArray).heap[W2.heap.size]? = some (.cells (x.map bv).toArray 30 (0, 0)) := setRow_heap _ _ _ _ _ _ (heap_alloc_new W2 _)
  have q3 : Below w.heap.size w ((W2.alloc (.cells z32 30)).setRow W2.heap.size (x.map bv).toArray) := below_setRow (HQ2.out.alloc HQ2.out.size _) HQ2.out.size _
  have r4 : ((W2.alloc (.cells z32 30)).setRow W2.heap.size (x.map bv).toArray).heap[w.heap.size]? = some (.cells z32 30 (0, 0)) := by
    have e := HS2.out
    rw [setRow_other _ _ _ _ (by omega), heap_alloc_old _ _ (by omega)]; exact HR2.out
  change Code.wp _ _ _ _ ((W2.alloc (.cells z32 30)).setRow W2.heap.size (x.map bv).toArray)
  generalize ((W2.alloc (.cells z32 30)).setRow W2.heap.size (x.map bv).toArray) = W3 at r3 q3 r4 ⊢
  generalize W2.heap.size = g3 at r3 ⊢
  have HR3 := hid r3
  have HQ3 := hid q3
  have HR4 := hid r4
  have HI := hid (arr_isBB r3 (by rw [Hx.out]; omega))
  clear r3 q3 r4 HR2 HS2 HQ2
  have HK3 := hid (HK.out.on HQ3.out)
  have b4 : Below W3.heap.size W3 (W3.alloc (.cells #[.slice (some ⟨g3, 0, none⟩) 32 32] 22)) := (Below.refl _ _).alloc (Nat.le_refl _) _
  rw [Hx.out] at HI
  have HK4 := hid (HK3.out.on b4)
  clear b4
  have HL9 : Hid ((maskL 92 K).length = 64) := by show _ = _; rw [maskL_len]; exact HK.out.1
  have HF9 : Hid (x.length ≤ 800000000000000) := by show _ ≤ _; rw [Hx.out]; omega
  have HY := hid (sha_len (maskL 92 K ++ x))
  go_region_with (first
    | (go_at_call 28; refine (mask92 g K _ (by first | exact HK3.out | exact HK4.out)).mono ?_; rintro e W4 ⟨rfl, hb4⟩; have HW4 := hid (by first | exact after_draw hb4 | exact hb4); clear hb4)
    | (go_at_call 29; refine (hashed_one (maskL 92 K) _ x _ HL9.out (by first | exact parts_a HI.out HW4.out | exact parts_b HI.out HW4.out) HF9.out).mono ?_; rintro e W5 ⟨rfl, hb5⟩; have HW5 : Hid (Below W3.heap.size W3 W5) := (by first | exact late_a HW4.out hb5 | exact late_b HW4.out hb5); clear hb5 HW4; have HR5 : Hid (W5.heap[w.heap.size]? = some (.cells z32 30 (0, 0))) := ((HW5.out.block _ (lt_of_heap HR4.out)).trans HR4.out); have hst := store32 (l := sha (maskL 92 K ++ x)) HR5.out (by kernel_rfl) HY.out))
  all_goals
    clear hst
    go_wp2
    refine bodyPost_ret (results_cell_row (by kernel_rfl : Try.f22.results = #[.cell 4 30]) _ _ w.heap.size 30 ((sha (maskL 92 K ++ x)).map bv).toArray (0, 0) _ rfl (setRow_heap _ _ _ _ _ _ HR5.out) Try.underlying30 rfl (size32 _ (map_len32 HY.out))) rfl ⟨?_, ?_⟩
    · rw [Hxx.out]; rfl
    · exact below_setRow (HQ3.out.trans (HW5.out.mono HQ3.out.size)) (Nat.le_refl _) _
end Go.Proofs.Ytnifhgcdpgokhaa
