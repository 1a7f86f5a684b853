/-
  Strings and bytes; the contracts of abc and crashed.
-/
import Derived.Test.YtgccjclloomfgaaCrs
import Derived.Test.YtgccjclloomfgaaCpy
import Derived.Test.YtgccjclloomfgaaRda
import Derived.Test.YtgccjclloomfgaaTru
import Derived.Lib.ConvBytes
import Derived.Lib.SlBytesConst
import Derived.Laws.BytesArg
namespace Go.Proofs.Ytgccjclloomfgaa
open Go.RowKit

theorem Try.isStr9 : Try.prog.underlying 9 = some .string := by kernel_rfl
theorem Try.isU8 : Try.prog.underlying 5 = some (.int .u8) := by kernel_rfl
theorem Try.isSl27 : Try.prog.underlying 27 = some (.slice 5) := by kernel_rfl
theorem run_string_zero (w : World) (A : Option Addr) (c : Nat) : (convert 27 9 (.slice A 0 c)).run Try.prog w = .ok (.string ⟨#[]⟩) w := by
  cases A with
  | none => exact run_convert_bytes_nil w 27 5 Try.isSl27 Try.isU8 0 c 9 Try.isStr9
  | some a => exact run_convert_bytes_back w 27 9 5 a c [] Try.isSl27 Try.isU8 Try.isStr9 (fun j hj => absurd hj (by simp))
/-- 'string(b)'. -/
theorem IsB.conv {w : World} {A : Option Addr} {n c : Nat} {l : List UInt8} (h : IsB w A n c l) : (convert 27 9 (.slice A n c)).run Try.prog w = .ok (.string ⟨l.toArray⟩) w := by
  obtain rfl := h.len
  rcases Nat.eq_zero_or_pos l.length with h0 | h0
  · obtain rfl := List.eq_nil_of_length_eq_zero h0
    exact run_string_zero w A c
  · obtain ⟨ad, rfl, hc⟩ := h.lies h0
    exact run_convert_bytes_back w 27 9 5 ad c l Try.isSl27 Try.isU8 Try.isStr9 hc
/-- '[]byte(s)'. -/
theorem str_conv (l : List UInt8) (hl : l.length ≤ 1000) (w : World) : ∃ c w', (convert 9 27 (.string ⟨l.toArray⟩)).run Try.prog w = .ok (.slice (some ⟨w.heap.size, 0, none⟩) l.length c) w' ∧ IsBB w' w'.heap.size (some ⟨w.heap.size, 0, none⟩) l.length c l ∧ Below w.heap.size w w' ∧ w'.heap.size = w.heap.size + 1 := by
  have hsz : (⟨l.toArray⟩ : ByteArray).size = l.length := by simp [ByteArray.size]
  have hr := Lib.run_convert_string_bytes (P := Try.prog) w 9 27 5 ⟨l.toArray⟩ Try.isStr9 Try.isSl27 Try.isU8
  rw [hsz] at hr
  refine ⟨_, _, hr, ⟨⟨rfl, ?_, ?_, by omega, fun hp => ⟨_, rfl, fun j hj => ?_⟩⟩, fun hp ad e => ?_⟩, ?_, Lib.bytesWorld_size _ _ _⟩
  · exact grownCap_ge w _ _ _
  · exact grownCap_le_maxLen w _ _ _ (by unfold maxLen; omega)
  · have := Lib.bytesWorld_cell w 5 ⟨l.toArray⟩ j (by rw [hsz]; exact hj)
    rw [Addr.add_lit, Nat.zero_add, this]
    simp [List.getD, hj]
  · cases e
    rw [Lib.bytesWorld_size]
    show w.heap.size < _
    omega
  · exact ⟨rfl, rfl, rfl, by rw [Lib.bytesWorld_size]; omega, fun i hi => Lib.bytesWorld_at_old w 5 _ i hi⟩
/-- A written-out list of bytes, turned to its own type. -/
theorem lit_isBB (w : World) (l : List UInt8) (hl : l.length ≤ 1000) (k : Nat) : IsBB (w.alloc (.cells (l.map bv).toArray 5 (k, k + 1))) (w.alloc (.cells (l.map bv).toArray 5 (k, k + 1))).heap.size (some ⟨w.heap.size, 0, none⟩) l.length l.length l := by
  have hr := heap_alloc_new w (.cells (l.map bv).toArray 5 (k, k + 1))
  refine ⟨⟨rfl, Nat.le_refl _, by unfold maxLen; omega, by omega, fun hp => ⟨_, rfl, fun j hj => ?_⟩⟩, fun hp ad e => ?_⟩
  · rw [Addr.add_lit, Nat.zero_add, cell_of_row _ _ _ _ _ _ hr]
    simp [bv, hj]
  · cases e
    rw [World.size_alloc]
    exact Nat.lt_succ_self _
def abcL : List UInt8 := [97, 98, 99]
/-- abc's disk. -/
def abcD (l : List UInt8) : Dk := { most := 1000, now := abcL ++ l, old := abcL, floor := 3, down := false, armed := 0, fails := 0, err := 0 }
theorem abc_1 : (Dk.load 1000 []).app abcL = ({ Dk.load 1000 [] with now := abcL }, 0) := rfl
theorem abc_2 : ((Dk.load 1000 []).app abcL).1.syn = (abcD [], 0) := by rfl
theorem abc_3 (l : List UInt8) (hl : l.length ≤ 997) : (abcD []).app l = (abcD l, 0) := by
  have h1 : (abcD []).op = (abcD [], 0) := rfl
  unfold Dk.app
  rw [h1]
  rw [if_neg (by simp), if_neg (by show ¬ (abcL ++ []).length + l.length > 1000; simp [abcL]; omega)]
  rfl
set_option maxRecDepth 10000 in
set_option maxHeartbeats 2000000 in
theorem abc_any (l : List UInt8) (hl : l.length ≤ 997) (w : World) :
    Calls Try.prog 8 #[.string ⟨l.toArray⟩] w fun r w' => ∃ g S F L, r = .returned (.pointer (some ⟨g, 0, none⟩)) ∧ DkAt w.heap.size S w' g F L (abcD l) 0 ∧ Below w.heap.size w w' := by
  have kc := fun (w : World) (C : Array Value) (n c : Nat) => Lib.run_convert_bytes_const (P := Try.prog) w 27 5 C n c Try.isSl27 Try.isU8
  have HN := hid (New_any 1000 w (by omega))
  have Hl := hid hl
  clear hl
  go_enter Try.func8, Try.ntmps8
  go_upto_region 2 with (go_at_call 13; refine HN.out.mono ?_; rintro r w1 ⟨g, S, F, rfl, h1, b1⟩; have H1 := hid h1; have B1 := hid b1; clear h1 b1)
  have hbl : Below w1.heap.size w1 (w1.alloc (.cells #[.int .u8 97, .int .u8 98, .int .u8 99] 5 (3, 4))) := (Below.refl _ w1).alloc (Nat.le_refl _) _
  have HL : Hid (DkAt w.heap.size S (w1.alloc (.cells #[.int .u8 97, .int .u8 98, .int .u8 99] 5 (3, 4))) g F (.slice none 0 0) (Dk.load 1000 []) 0 ∧ Out S (w1.alloc (.cells #[.int .u8 97, .int .u8 98, .int .u8 99] 5 (3, 4))) (some ⟨w1.heap.size, 0, none⟩) 3 3 abcL ∧ Below w.heap.size w (w1.alloc (.cells #[.int .u8 97, .int .u8 98, .int .u8 99] 5 (3, 4)))) :=
    ⟨H1.out.below hbl, IsBB.out_new (w := w1) (lit_isBB w1 abcL (by decide) 3) (fun _ ad e => by cases e; exact Nat.le_refl _) (fun i hi => (H1.out.lt i hi).2), bel_trans B1.out hbl⟩
  clear hbl H1 B1 HN
  go_wp2_with (first
    | (go_at_call 10; with_reducible refine (Append_any (some ⟨w1.heap.size, 0, none⟩) 3 3 abcL HL.out.1 HL.out.2.1).mono ?_; rintro r w2 ⟨rfl, F2, S2, h2, s2⟩; rw [abc_1] at h2; have H2 := hid h2; have B2 := hid (HL.out.2.2.trans (s2.but.below (B := w.heap.size) (fun i hi => (HL.out.1.lt i hi).1) HL.out.2.2.size)); clear h2 s2)
    | (go_at_call 18; refine (Sync_any H2.out).mono ?_; rintro r w3 ⟨rfl, ⟨L3, h3⟩, s3⟩; have H3 : Hid (DkAt w.heap.size S2 w3 g F2 L3 (abcD []) 0) := (by have := abc_2; rw [abc_1] at this; rw [this] at h3; exact h3); have B3 := hid (B2.out.trans (s3.below (B := w.heap.size) (fun i hi => (H2.out.lt i hi).1) B2.out.size)); obtain ⟨c4, w4, kx, hI4, hb4, hz4⟩ := str_conv l (by have := Hl.out; omega) w3; have H4 := hid (H3.out.below hb4); have I4 : Hid (Out S2 w4 (some ⟨w3.heap.size, 0, none⟩) l.length c4 l) := IsBB.out_new (w := w3) hI4 (fun _ ad e => by cases e; exact Nat.le_refl _) (fun i hi => (H3.out.lt i hi).2); have B4 := hid (bel_trans B3.out hb4); clear h3 s3 hI4 hb4 H2 B2 H3 B3)
    | (go_at_call 10; with_reducible refine (Append_any (some ⟨w3.heap.size, 0, none⟩) l.length c4 l H4.out I4.out).mono ?_; rintro r w5 ⟨rfl, F5, S5, h5, s5⟩; rw [abc_3 l Hl.out] at h5; have H5 := hid h5; have B5 := hid (B4.out.trans (s5.but.below (B := w.heap.size) (fun i hi => (H4.out.lt i hi).1) B4.out.size)); clear h5 s5))
  go_ret
  exact ⟨_, _, _, _, rfl, H5.out, B5.out⟩
set_option maxRecDepth 10000 in
set_option maxHeartbeats 2000000 in
theorem crashed_any {B : Nat} {S : Nat → Prop} {w : World} {g : Nat} {F L : Value} {d : Dk} {e : Int} (k : Int) (junk : List UInt8) (h : DkAt B S w g F L d e) (hk : k ≤ 9223372036854775807) (hj : junk.length ≤ 1000) :
    Calls Try.prog 12 #[.pointer (some ⟨g, 0, none⟩), .int .i64 k, .string ⟨junk.toArray⟩] w fun r w' => r = .returned (.string ⟨(d.crash k junk).now.toArray⟩) ∧ Below w.heap.size w w' := by
  have HC := hid (Copy_any h)
  clear h
  go_enter Try.func12, Try.ntmps12
  go_wp2_with (first
    | (go_at_call 31; refine HC.out.mono ?_; rintro r w1 ⟨g2, S2, F2, L2, rfl, h1, b1⟩; obtain ⟨c4, w4, kx, hI4, hb4, hz4⟩ := str_conv junk hj w1; have H4 := hid (h1.below hb4); have I4 : Hid (Out S2 w4 (some ⟨w1.heap.size, 0, none⟩) junk.length c4 junk) := IsBB.out_new (w := w1) hI4 (fun _ ad e => by cases e; exact Nat.le_refl _) (fun i hi => (h1.lt i hi).2); have B4 := hid (bel_trans b1 hb4); clear h1 b1 hI4 hb4 HC)
    | (go_at_call 20; refine (Crash_any k (some ⟨w1.heap.size, 0, none⟩) junk.length c4 junk H4.out I4.out hk).mono ?_; rintro r w5 ⟨rfl, F5, S5, h5, s5⟩; have HI := hid (Image_any h5); have hmx := h5.ok.mx; have hm4 := h5.ok.m4; have B5 := hid (B4.out.trans (s5.but.below (B := w.heap.size) (fun i hi => (H4.out.lt i hi).1) B4.out.size)); clear h5 s5)
    | (go_at_call 35; refine HI.out.mono ?_; rintro r w6 ⟨v, rfl, ho, hb6⟩; obtain ⟨A6, c6, rfl, hI6⟩ := own_isBB ho (by omega); have kz := hI6.toIsB.conv; have B6 := hid (bel_trans B5.out hb6); clear ho hb6 hI6))
  go_ret
  exact ⟨rfl, B6.out⟩
end Go.Proofs.Ytgccjclloomfgaa
