/-
  The contracts of SameBytes and CopyBytes.
-/
import Derived.Test.YtaogileaeflnfaaApp
import Derived.BigQuiet
import Derived.Deep.RegionHeld3
namespace Go.Proofs.Ytaogileaeflnfaa
open Go.RowKit

set_option maxHeartbeats 1000000 in
set_option maxRecDepth 10000 in
theorem SameBytes_true (A B : Option Addr) (l : List UInt8) (n c d : Nat) (w : World) (h1 : IsB w A n c l) (h2 : IsB w B n d l) :
    Calls Try.prog 18 #[.slice A n c, .slice B n d] w fun e w' => e = .returned (.bool true) ∧ ∃ k, w' = w.drewN k := by
  have hx := h1.max
  have hs := h1.small
  have hnc := h1.cap
  have hnd := h2.cap
  have L1 := hid h1.len
  unfold maxLen at hx
  go_enter Try.func18, Try.ntmps18
  go_wp2_with fail
  go_loopw [5] (fun i wr => ∃ k j : Nat, k ≤ n ∧ i = .int .i64 k ∧ wr = w.drewN j) (fun i _ => n - (intOf i).toNat)
  case atStart => exact ⟨0, 0, Nat.zero_le _, rfl, rfl⟩
  case round =>
    obtain ⟨k, j, hk, rfl, rfl⟩ := hrel
    by_cases hlt : k < n
    · have hk1 : k < l.length := by rw [L1.out]; exact hlt
      obtain ⟨ad, rfl, ha⟩ := h1.lies (by rw [h1.len]; omega)
      obtain ⟨bd, rfl, hb⟩ := h2.lies (by rw [h2.len]; omega)
      have ca := ha k hk1
      have cb := hb k hk1
      clear ha hb h1 h2
      have hkz : (k : Int) < (n : Int) := by omega
      generalize l[k].toNat = y at ca cb
      go_wp2_with fail
      go_quiet (fail)
      go_wp2
      go_roundw
      case rel => exact ⟨k + 1, _, by omega, by go_num, rfl⟩
      case measure => simp [intOf]; omega
    · obtain rfl : k = n := by omega
      go_wp2
      go_ret
      exact ⟨rfl, j, rfl⟩
theorem copy_next {l : List UInt8} {i : Nat} (h : i < l.length) : l.take i ++ [UInt8.ofNat l[i].toNat] = l.take (i + 1) := by
  rw [List.take_succ_eq_append_getElem h]
  simp
end Go.Proofs.Ytaogileaeflnfaa
