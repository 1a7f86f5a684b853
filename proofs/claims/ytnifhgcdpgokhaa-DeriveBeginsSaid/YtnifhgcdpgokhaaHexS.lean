/-
  The contracts of hex and of SameBytes.
-/
import Derived.Test.YtnifhgcdpgokhaaHex
import Derived.Test.YtnifhgcdpgokhaaLent
import Derived.Outline
namespace Go.Proofs.Ytnifhgcdpgokhaa
open Go.RowKit

set_option maxRecDepth 10000 in
set_option maxHeartbeats 1000000 in
theorem hex_any (A : Option Addr) (l : List UInt8) (n c : Nat) (w : World) (h : IsBB w w.heap.size A n c l) (hn : n ≤ 32) :
    Calls Try.prog 8 #[.slice A n c] w fun e w' => e = .returned (.string ⟨(hexL l).toArray⟩) ∧ Below w.heap.size w w' := by
  have H := hid h
  have hnz : (n : Int) ≤ 32 := by omega
  clear h
  go_enter Try.func8, Try.ntmps8
  go_wp2_with fail
  go_loopw [3, 4] (fun s i wr => ∃ k j : Nat, k ≤ n ∧ i = .int .i64 k ∧ s = .string ⟨(hexL (l.take k)).toArray⟩ ∧ wr = w.drewN j) (fun _ i _ => n - (intOf i).toNat)
  case atStart => exact ⟨0, 0, Nat.zero_le _, rfl, rfl, rfl⟩
  case round =>
    obtain ⟨k, j, hk, rfl, rfl, rfl⟩ := hrel
    by_cases hlt : k < n
    · have hkz : (k : Int) < n := by omega
      have hkl : k < l.length := by rw [H.out.len]; exact hlt
      obtain ⟨ad, rfl, hc0⟩ := H.out.lies (by omega)
      have hcell := hc0 k hkl
      have hsn := hexL_snoc (l.take k) l[k]
      rw [← List.take_succ_eq_append_getElem hkl] at hsn
      have hx : l[k].toNat < 256 := UInt8.toNat_lt _
      generalize l[k].toNat = x at hcell hsn hx
      clear hc0
      have q1 : (x : Int) / 16 = ((x / 16 : Nat) : Int) := by omega
      have q2 := low_eq x hx
      have l1 : x / 16 < 16 := by omega
      have l2 : x % 16 < 16 := by omega
      generalize x / 16 = hi at *
      generalize x % 16 = lo at *
      have q3 : IntKind.u8.wrap ((hi : Int) + 1) = (hi : Int) + 1 := by rw [IntKind.wrap_u8]; omega
      have q4 : IntKind.u8.wrap ((lo : Int) + 1) = (lo : Int) + 1 := by rw [IntKind.wrap_u8]; omega
      have d1 := cut_digit hi l1
      have d2 := cut_digit lo l2
      have Hsn := hid hsn
      have hal : (hexL (l.take k)).length ≤ 64 := by rw [hexL_len, List.length_take]; omega
      generalize hexL (l.take k) = acc at *
      clear hsn
      have a1 := fun w => cat_bytes acc (dig hi) (by omega) w
      have a2 := fun w => cat_bytes (acc ++ [dig hi]) (dig lo) (by simp; omega) w
      generalize acc ++ [dig hi] = acc2 at *
      generalize acc2 ++ [dig lo] = acc3 at *
      clear hal
      go_wp2_with fail
      go_quiet (fail)
      go_wp2_with fail
      go_roundw
      case rel => exact ⟨k + 1, _, by omega, by go_num, by rw [Hsn.out], rfl⟩
      case measure => simp [intOf]; omega
    · obtain rfl : k = n := by omega
      go_wp2_with fail
      go_ret
      rw [List.take_of_length_le (by rw [H.out.len]; omega)]
      exact ⟨rfl, below_drewN (Below.refl _ w) j⟩

set_option maxHeartbeats 400000 in
theorem SameBytes_true (A B : Option Addr) (l : List UInt8) (n c d : Nat) (w : World) (h1 : IsB w A n c l) (h2 : IsB w B n d l) :
    Calls Try.prog 9 #[.slice A n c, .slice B n d] w fun e w' => e = .returned (.bool true) ∧ ∃ k, w' = w.drewN k := by
  go_enter Try.func9, Try.ntmps9
  go_wp2_with (go_at_call 20; refine (Equal_same _ _ _ _ _ _ _ h1 h2).mono ?_; rintro e w' ⟨rfl, k, rfl⟩)
  go_ret
  exact ⟨rfl, k, rfl⟩
end Go.Proofs.Ytnifhgcdpgokhaa
