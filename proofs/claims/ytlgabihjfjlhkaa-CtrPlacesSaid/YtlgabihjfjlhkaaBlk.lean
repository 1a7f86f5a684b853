/-
  The contract of blockOf: a block of the stream.
-/
import Derived.Test.YtlgabihjfjlhkaaStr
import Derived.Outline
namespace Go.Proofs.Ytlgabihjfjlhkaa
open Go.RowKit

/-- The nonce, and the first t bytes of the number; noughts behind. -/
def nbP (non : List UInt8) (i t : Nat) : List UInt8 := non ++ be8P i t ++ List.replicate (8 - t) 0
theorem nbP_len (non : List UInt8) (i t : Nat) (h : non.length = 8) (ht : t ≤ 8) : (nbP non i t).length = 16 := by
  unfold nbP; rw [List.length_append, List.length_append, h, be8P_len, List.length_replicate]; omega
theorem nbP_zero (non : List UInt8) (i : Nat) : nbP non i 0 = non ++ List.replicate 8 0 := by simp [nbP, be8P]
theorem nbP_all (non : List UInt8) (i : Nat) : nbP non i 8 = non ++ be8L i := by simp [nbP, be8P_end]
theorem nbP_next (non : List UInt8) (i t : Nat) (h : non.length = 8) (ht : t < 8) : (nbP non i t).set (8 + t) (UInt8.ofNat (i / 2 ^ (8 * (7 - t)) % 256)) = nbP non i (t + 1) := by
  have e : 8 - t = (8 - (t + 1)) + 1 := by omega
  have hp : (non ++ be8P i t).length = 8 + t := by rw [List.length_append, h, be8P_len]
  unfold nbP
  rw [← be8P_next, e, List.replicate_succ, List.set_append_right _ _ (by omega), hp, show 8 + t - (8 + t) = 0 by omega, List.set_cons_zero]
  simp
/-- Block g holds these bytes (an array of sixteen). -/
def ArAt (w : World) (g : Nat) (l : List UInt8) : Prop := w.heap[g]? = some (.cells (l.map bv).toArray 52 (0, 0))
theorem ArAt.lt {w : World} {g : Nat} {l : List UInt8} (h : ArAt w g l) : g < w.heap.size := lt_of_heap h
theorem ArAt.isBB {w : World} {g : Nat} {l : List UInt8} (h : ArAt w g l) (hl : l.length = 16) : IsBB w w.heap.size (some ⟨g, 0, none⟩) 16 16 l := by
  refine ⟨⟨hl, by omega, by unfold maxLen; omega, by omega, fun _ => ⟨_, rfl, fun j hj => ?_⟩⟩, fun _ ad e => by cases e; exact h.lt⟩
  rw [ad_add, Nat.zero_add, row_cell h j, List.getElem?_toArray, map_bv_getElem? l j hj]
theorem ArAt.cell {w : World} {g : Nat} {l : List UInt8} (h : ArAt w g l) (j : Nat) (hj : j < l.length) : w.cell? ⟨g, j, none⟩ = some (.int .u8 (l[j].toNat : Int)) := by
  rw [row_cell h j, List.getElem?_toArray, map_bv_getElem? l j hj]
theorem ArAt.free {w : World} {g : Nat} {l : List UInt8} (h : ArAt w g l) (j : Nat) : w.frozen? ⟨g, j, none⟩ = false := row_free h j
theorem ArAt.set {w : World} {g : Nat} {l : List UInt8} (h : ArAt w g l) (j v : Nat) (hv : v < 256) : ArAt (w.setCell ⟨g, j, none⟩ (.int .u8 (v : Nat))) g (l.set j (UInt8.ofNat v)) := by
  unfold ArAt
  rw [row_set h j, set_toArray, List.map_set, show bv (UInt8.ofNat v) = Value.int .u8 (v : Nat) by unfold bv; simp; omega]
theorem zero52 (w : World) : (zeroValue 52).run Try.prog w = .ok (.agg zb16) w := by kernel_rfl
theorem zb16_list : zb16 = (List.replicate 16 (Value.int .u8 0)).toArray := by kernel_rfl
/-- What blockOf works on. -/
structure BkSt (w wr : World) (l : List UInt8) : Prop where
  ar : ArAt wr w.heap.size l
  bel : Below w.heap.size w wr
theorem BkSt.set {w wr : World} {l : List UInt8} (h : BkSt w wr l) (j v : Nat) (hv : v < 256) : BkSt w (wr.setCell ⟨w.heap.size, j, none⟩ (.int .u8 (v : Nat))) (l.set j (UInt8.ofNat v)) :=
  ⟨h.ar.set j v hv, ((But.refl w.heap.size wr).set j _).below h.bel (Nat.le_refl _) h.bel.size⟩
set_option maxRecDepth 10000 in
set_option maxHeartbeats 1000000 in
theorem blockOf_any (gc : Nat) (K : Nat → Nat) (A : Option Addr) (c : Nat) (non : List UInt8) (i : Nat) (w : World) (hc : Ci w gc K) (hk : ∀ j, j < 32 → K j < 256) (hn : IsBB w w.heap.size A 8 c non) (hi : i < 18446744073709551616) :
    Calls Try.prog 37 #[.pointer (some ⟨gc, 0, none⟩), .slice A 8 c, .int .u64 i] w fun e w' => ∃ g, e = .returned (.slice (some ⟨g, 0, none⟩) 16 16) ∧ IsBB w' w'.heap.size (some ⟨g, 0, none⟩) 16 16 (blkS K non i) ∧ Below w.heap.size w w' ∧ w.heap.size ≤ g := by
  have zv := zero52
  have hlen := hn.len
  have r0 : (w.alloc (.cells zb16 52)).heap[w.heap.size]? = some (.cells (List.replicate 16 (Value.int .u8 0)).toArray 52 (0, 0)) := by rw [← zb16_list]; exact heap_alloc_new w _
  have b0 : Below w.heap.size w (w.alloc (.cells zb16 52)) := (Below.refl w.heap.size w).alloc (Nat.le_refl _) _
  have Hr0 := hid r0
  have Hb0 := hid b0
  have Hn : Hid ((non.map bv).length = Nat.min 8 16) := by show _ = 8; rw [List.length_map, hlen]
  have Hf : Hid (0 + (non.map bv).length ≤ (List.replicate 16 (Value.int .u8 0)).length) := by show _ ≤ _; rw [List.length_map, hlen]; simp
  have Hp : Hid (0 < (non.map bv).length → (some (⟨w.heap.size, 0, none⟩ : Addr) = some (⟨w.heap.size, 0, none⟩ : Addr)) ∧ ∃ ad, A = some ad ∧ ∀ j v, (non.map bv)[j]? = some v → (w.alloc (.cells zb16 52)).cell? (ad.add j) = some v) := fun hp => ⟨rfl, hn.src b0 hp⟩
  have HC := hid hc
  have HL := hid hlen
  clear r0 b0 hc hn hlen
  go_enter Try.func37, Try.ntmps37
  go_wp2_with (refine wpList_copy_splice rfl (.tmp 11) (.tmp 12) 26 26 rfl 5 Try.underlying26 Try.size5 (some ⟨w.heap.size, 0, none⟩) A 16 16 8 c rfl rfl w.heap.size 0 (List.replicate 16 (.int .u8 0)) 52 Hr0.out (non.map bv) Hn.out Hp.out Hf.out (bv_one _) w.heap.size w Hb0.out (Nat.le_refl _) ?_; intro W3 hk3 hb3)
  have S0 : Hid (BkSt w W3 (nbP non i 0)) := by
    refine ⟨?_, hb3⟩
    unfold ArAt
    have e := hk3.out
    have e2 := splice_zero (non.map bv) 8 8 (Value.int .u8 0) (by rw [List.length_map, HL.out])
    rw [show 8 + 8 = 16 from rfl] at e2
    rw [e2] at e
    rw [nbP_zero, List.map_append, List.map_replicate]
    exact e
  clear hk3 hb3 Hr0 Hb0 Hn Hf Hp
  go_loopw [8] (fun vj wr => ∃ t : Nat, t ≤ 8 ∧ vj = .int .i64 ((8 + t : Nat) : Int) ∧ Hid (BkSt w wr (nbP non i t))) (fun vj _ => 16 - (intOf vj).toNat)
  case atStart => exact ⟨0, Nat.zero_le _, rfl, S0⟩
  case round =>
    obtain ⟨t, ht, rfl, hs⟩ := hrel
    clear S0
    by_cases hlt : t < 8
    · have hlz : ((8 + t : Nat) : Int) < 16 := by omega
      have hz : ((i : Int) / 2 ^ (8 * (15 - (8 + t))) % 256) = ((i / 2 ^ (8 * (7 - t)) % 256 : Nat) : Int) := by
        rw [show 15 - (8 + t) = 7 - t by omega]
        push_cast
        rfl
      have hzl : i / 2 ^ (8 * (7 - t)) % 256 < 256 := Nat.mod_lt _ (by decide)
      have HN := hid (nbP_next non i t HL.out hlt)
      obtain ⟨y, c1⟩ : ∃ y : Int, wr.cell? ⟨w.heap.size, 8 + t, none⟩ = some (.int .u8 y) := ⟨_, hs.out.ar.cell (8 + t) (by rw [nbP_len _ _ _ HL.out (by omega)]; omega)⟩
      have f1 := hs.out.ar.free (8 + t)
      have HS := hid (hs.out.set (8 + t) (i / 2 ^ (8 * (7 - t)) % 256) hzl)
      rw [HN.out] at HS
      generalize i / 2 ^ (8 * (7 - t)) % 256 = z at hz hzl HS
      clear HN
      go_wp2_with fail
      go_roundw
      case rel => exact ⟨t + 1, by omega, by go_num, HS⟩
      case measure => simp [intOf]; omega
    · obtain rfl : t = 8 := by omega
      rw [show ((8 + 8 : Nat) : Int) = 16 from rfl]
      have hl := hs.out.ar.isBB (nbP_len non i 8 HL.out (Nat.le_refl _))
      rw [nbP_all] at hl
      have hb := hs.out.bel
      have hc := HC.out.onB hb HC.out.lt
      have HE := hid (encrypt_any gc K _ 16 _ wr hc hk hl)
      have HB := hid hb
      clear hs hl hb hc HC
      go_wp2_with (go_at_call 9; refine HE.out.mono ?_; rintro e W4 ⟨g4, rfl, hI4, hB4, hg4⟩)
      go_ret
      exact ⟨g4, rfl, hI4, bel_trans HB.out hB4, Nat.le_trans HB.out.size hg4⟩
end Go.Proofs.Ytlgabihjfjlhkaa
