/-
  The contract of the document's Table.
-/
import Derived.Test.YtlgabihjfjlhkaaRow
namespace Go.Proofs.Ytlgabihjfjlhkaa
open Go.RowKit

def tabL (n : Nat) : List UInt8 := (List.range n).map (fun i => UInt8.ofNat (subN i))
theorem tabL_len (n : Nat) : (tabL n).length = n := by simp [tabL]
theorem tabL_next (n : Nat) : tabL n ++ [UInt8.ofNat (subN n)] = tabL (n + 1) := by simp [tabL, List.range_succ]
set_option maxRecDepth 10000 in
set_option maxHeartbeats 1000000 in
theorem Table_any (w : World) : Calls Try.prog 27 #[] w fun e w' => ∃ v, e = .returned v ∧ OwnB w w' v (tabL 256) := by
  have S0 : Hid (OwnB w w (.slice none 0 0) (tabL 0)) := OwnB.nil w w (Below.refl _ w)
  go_enter Try.func27, Try.ntmps27
  go_wp2_with fail
  go_loopw [1, 2] (fun vv i wr => ∃ (v : Value) (k : Nat), k ≤ 256 ∧ i = .int .i64 k ∧ v = vv ∧ Hid (OwnB w wr v (tabL k))) (fun _ i _ => 256 - (intOf i).toNat)
  case atStart => exact ⟨_, 0, Nat.zero_le _, rfl, rfl, S0⟩
  case round =>
    obtain ⟨v, k, hk, rfl, rfl, hs⟩ := hrel
    clear S0
    by_cases hlt : k < 256
    · have hkz : (k : Int) < 256 := by omega
      have hln := tabL_len k
      have hnx := hid (tabL_next k)
      have hzl := sub_lt k hlt
      have RS := hid (fun w => RefSub_any k hlt w)
      generalize subN k = z at hnx hzl RS
      go_wp2_with (first
        | (go_at_call 39; refine (RS.out _).mono ?_; rintro e w' ⟨rfl, rfl⟩)
        | (at_builtin; refine wpList_app1 rfl (.tmp 7) (.tmp 11) rfl w wr v (tabL k) z rfl rfl hs.out (by omega) hzl ?_; intro v2 W2 hv2))
      rw [hnx.out] at hv2
      go_roundw
      case rel => exact ⟨v2, k + 1, by omega, by go_num, rfl, hv2⟩
      case measure => simp [intOf]; omega
    · obtain rfl : k = 256 := by omega
      go_wp2_with fail
      go_ret
      exact ⟨_, rfl, hs.out⟩
end Go.Proofs.Ytlgabihjfjlhkaa
