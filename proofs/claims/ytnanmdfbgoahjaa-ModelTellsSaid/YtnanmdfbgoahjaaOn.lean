/-
  The document's 'one': what is asked of it.
-/
import Derived.Test.YtnanmdfbgoahjaaFd
import Derived.Test.YtnanmdfbgoahjaaFt
namespace Go.Proofs.Ytnanmdfbgoahjaa
open Go.RowKit

theorem within_T (n a b : Int) (T : Bool) (hT : decide (inn n a b) = T) (w : World) : Calls Try.prog 41 #[.int .i64 n, .int .i64 a, .int .i64 b] w fun e w' => e = .returned (.bool T) ∧ w' = w := by
  rw [← hT]; exact within_any n a b w
theorem plI7 (s b : Int) (h : 0 < plI 7 s b) : 1 ≤ b ∧ b ≤ 8 := by
  unfold plI at h
  split at h
  · simp only [show ¬ (7 : Int) = 3 from by decide, show ¬ (7 : Int) = 4 from by decide, if_false, if_true] at h
    split at h
    next hb => exact hb
    · omega
  · omega
end Go.Proofs.Ytnanmdfbgoahjaa
