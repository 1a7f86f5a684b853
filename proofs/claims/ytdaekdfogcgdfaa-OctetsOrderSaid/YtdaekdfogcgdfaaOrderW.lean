/-
  The walk of OctetsOrder.
-/
import Derived.Test.YtdaekdfogcgdfaaFrame
import Derived.Test.YtdaekdfogcgdfaaOrderN
import Derived.Deep.RegionWith
namespace Go.Proofs.Ytdaekdfogcgdfaa
open Go.RowKit

theorem New.bel2 {w0 w w' : World} {g n c : Nat} {l : List UInt8} (h : New w w' g n c l) (hb : Below w0.heap.size w0 w) : Below w0.heap.size w0 w' := hb.trans (h.bel.mono hb.size)

/-- Is a text's bytes, its length ahead, less than another's? -/
def lessB (s t : ByteArray) : Bool := decide (s.size < t.size) || (s.size == t.size && Op.bytesLess s.toList t.toList)
theorem lessB_lt (s t : ByteArray) (h : s.size < t.size) : lessB s t = true := by simp [lessB, h]
theorem lessB_eq (s t : ByteArray) (h : s.size = t.size) : lessB s t = Op.bytesLess s.toList t.toList := by simp [lessB, h]
theorem lessB_gt (s t : ByteArray) (h : t.size < s.size) : lessB s t = false := by
  have h1 : ¬ s.size < t.size := by omega
  have h2 : (s.size == t.size) = false := beq_eq_false_iff_ne.2 (by omega)
  simp [lessB, h1, h2]
theorem text_lessB (s t : ByteArray) (hs : s.size < 65536) (ht : t.size < 65536) : Op.bytesLess (bytesN 2 s.size ++ s.data.toList) (bytesN 2 t.size ++ t.data.toList) = lessB s t := by
  unfold lessB
  rw [ByteArray.toList_eq, ByteArray.toList_eq]
  exact text_less s.data.toList t.data.toList hs ht
theorem text_eqB (s t : ByteArray) : (bytesN 2 s.size ++ s.data.toList == bytesN 2 t.size ++ t.data.toList) = (s.toList == t.toList) := by
  rw [ByteArray.toList_eq, ByteArray.toList_eq]
  exact text_eq s.data.toList t.data.toList

set_option maxRecDepth 10000 in
set_option maxHeartbeats 4000000 in
theorem order_long (a b : Int) (s t : ByteArray) (w : World) (h : 300 < s.size ∨ 300 < t.size) (hs : s.size ≤ maxLen) (ht : t.size ≤ maxLen) :
    Calls Try.prog 8 #[.int .u64 a, .int .u64 b, .string s, .string t] w fun e w' => e = .returned (.bool true) ∧ Below w.heap.size w w' := by
  unfold maxLen at hs ht
  by_cases h1 : 300 < s.size
  all_goals
    go_enter Try.func8, Try.ntmps8
    go_wp2_with (go_at_call 19; refine (awake_any _).mono ?_; rintro e w' ⟨rfl, hb⟩)
    go_ret
    exact ⟨rfl, hb⟩
set_option maxRecDepth 10000 in
set_option maxHeartbeats 4000000 in
theorem order_walk (a b : Nat) (s t : ByteArray) (w : World) (ha : a < 18446744073709551616) (hb : b < 18446744073709551616) (hs : s.size ≤ 300) (ht : t.size ≤ 300) :
    Calls Try.prog 8 #[.int .u64 a, .int .u64 b, .string s, .string t] w fun e w' => e = .returned (.bool true) ∧ Below w.heap.size w w' := by
  have HA := hid ha
  have HB := hid hb
  clear ha hb
  go_enter Try.func8, Try.ntmps8
  go_wp2_with fail
  go_region_with (first
    | (go_at_call_of 15 ((b : Nat) : Int); refine (Add64_any _ _ _ _ b _ (isBB_nil _ _) HB.out (by omega)).mono ?_; rintro e w2 ⟨g2, c2, rfl, N2⟩; have k1 := (N1.isBB.below N2.bel).toIsB.conv; have k2 := N2.isB.conv; have b2 := N2.bel2 b1; clear b1)
    | (go_at_call_of 15 ((a : Nat) : Int); refine (Add64_any _ _ _ _ a _ (isBB_nil _ _) HA.out (by omega)).mono ?_; rintro e w1 ⟨g1, c1, rfl, N1⟩; have k0 := N1.isB.conv; have b1 : Below w.heap.size w w1 := (by first | exact N1.bel | exact ((Below.refl _ w).drew).trans N1.bel)))
  all_goals
    clear N1 N2 k0 k1 k2
    have E1 := less_bytesN 8 a b HA.out HB.out
    have E2 := eq_bytesN 8 a b HA.out HB.out
    go_wp2_with fail
    refine (AddText_any none [] 0 0 s _ (isBB_nil _ _) (by omega) (by omega)).mono ?_
    rintro e w3 ⟨g3, c3, rfl, N3⟩
    have b3 := N3.bel2 b2
    go_wp2_with fail
    refine (AddText_any none [] 0 0 t _ (isBB_nil _ _) (by omega) (by omega)).mono ?_
    rintro e w4 ⟨g4, c4, rfl, N4⟩
    have b4 := N4.bel2 b3
    have k3 := (N3.isBB.below N4.bel).toIsB.conv
    have k4 := N4.isB.conv
    have L := text_lessB s t (by omega) (by omega)
    have M := text_eqB s t
    clear E1 E2 N3 N4 b2 b3
    rcases (show s.size < t.size ∨ s.size = t.size ∨ t.size < s.size by omega) with hc | hc | hc
    · rw [lessB_lt s t hc] at L
      go_wp2_with (go_at_call 19; refine (awake_any _).mono ?_; rintro e w5 ⟨rfl, hb⟩)
      go_ret
      exact ⟨rfl, b4.trans (hb.mono b4.size)⟩
    · have q1 : (decide ((s.size : Int) < (t.size : Int))) = false := decide_eq_false (by omega)
      have q2 : ((s.size : Int) == (t.size : Int)) = true := by simp [hc]
      have q3 : decide (s.size < t.size) = false := decide_eq_false (by omega)
      rw [lessB_eq s t hc] at L
      clear hc
      go_wp2_with (go_at_call 19; refine (awake_any _).mono ?_; rintro e w5 ⟨rfl, hb⟩)
      go_ret
      exact ⟨rfl, b4.trans (hb.mono b4.size)⟩
    · have q3 : decide (s.size < t.size) = false := decide_eq_false (by omega)
      rw [lessB_gt s t hc] at L
      go_wp2_with (go_at_call 19; refine (awake_any _).mono ?_; rintro e w5 ⟨rfl, hb⟩)
      go_ret
      exact ⟨rfl, b4.trans (hb.mono b4.size)⟩
end Go.Proofs.Ytdaekdfogcgdfaa
