/-
  The same tokens, but for their lines (same) (written by tools/stage18/gen_sai.py).
-/
import Derived.Test.YtnjknjbffgjelaaDoorSpn
import Derived.BigQuiet
import Derived.Deep.QuietTactic
set_option linter.unusedVariables false
set_option linter.unusedSimpArgs false
namespace Go.Proofs.YtnjknjbffgjelaaDoor
open Go.RowKit

set_option maxRecDepth 10000 in
set_option maxHeartbeats 8000000 in
theorem same_true (w : World) (L M : List TD) (g1 g2 n m c1 c2 : Nat) (hn : L.length = n) (hm : M.length = m) (hs : n ≤ 1000000) (ha : Alike L M) (t1 : TkAt w g1 L) (t2 : TkAt w g2 M) :
    Calls Tryd.prog 10 #[.slice (some ⟨g1, 0, none⟩) n c1, .slice (some ⟨g2, 0, none⟩) m c2] w fun e w' => e = .returned (.bool true) ∧ Below w.heap.size w w' := by
  obtain ⟨hl, he⟩ := ha
  obtain rfl : m = n := by omega
  replace t1 := hid t1
  replace t2 := hid t2
  replace he := hid he
  go_enter Tryd.func10, Tryd.ntmps10
  go_upto_region 4 with fail
  go_loopw [13] (fun v wr => ∃ k : Nat, k ≤ m ∧ v = .int .i64 (k : Int) ∧ Hid (∃ q, wr = w.drewN q)) (fun v _ => m - (intOf v).toNat)
  case atStart => exact ⟨0, by omega, rfl, hid ⟨0, rfl⟩⟩
  case round =>
    obtain ⟨k, hk, rfl, HW⟩ := hrel
    have HB : Hid (Below w.heap.size w wr) := hid (by obtain ⟨q, e⟩ := HW.out; rw [e]; exact ⟨rfl, rfl, rfl, Nat.le_refl _, fun _ _ => rfl⟩)
    by_cases hlt : k < m
    · have hz : (k : Int) < (m : Int) := by omega
      obtain ⟨a0, a1, a2, a3⟩ := (t1.out.below HB.out).cells k (by omega)
      obtain ⟨b0, b1, b2, b3⟩ := (t2.out.below HB.out).cells k (by omega)
      have HW2 : Hid (∀ m, ∃ q, wr.drewN m = w.drewN q) := hid (fun m => by obtain ⟨q, e⟩ := HW.out; exact ⟨q + m, by rw [e, World.drewN_drewN]⟩)
      obtain ⟨e0, e1, e2⟩ := he.out k (by omega) (by omega)
      rw [← e0] at b0
      rw [← e1] at b1
      rw [← e2] at b2
      clear e0 e1 e2
      generalize (L[k]'(by omega)).k = x0 at *
      generalize str (L[k]'(by omega)).s = x1 at *
      generalize (L[k]'(by omega)).n = x2 at *
      clear a3 b3
      clear HW HB
      go_upto_region 6 with fail
      go_quiet (fail)
      go_wp2_with fail
      go_roundw
      case rel => exact ⟨k + 1, by omega, by go_num, HW2.out _⟩
      case measure => simp [intOf]; omega
    · obtain rfl : k = m := by omega
      go_wp2_with fail
      go_ret
      exact ⟨rfl, HB.out⟩
end Go.Proofs.YtnjknjbffgjelaaDoor
