/-
  The program's 'fits', kind by kind.
-/
import Derived.Test.YtnanmdfbgoahjaaLs
import Derived.Deep.RegionHeld3
namespace Go.Proofs.Ytnanmdfbgoahjaa
open Go.RowKit

instance (k s a b c r m k' s' a' b' c' r' m' : Int) : Decidable (vP k s a b c r m = vP k' s' a' b' c' r' m') :=
  decidable_of_iff (k = k' ∧ s = s' ∧ a = a' ∧ b = b' ∧ c = c' ∧ r = r' ∧ m = m') (by unfold vP; simp)
theorem asks_T (w : World) (g1 g2 : Nat) (a b n : Int) (T : Bool) (hT : decide (inn n a b) = T) (h1 : w.cell? ⟨g1, 0, none⟩ = some (.int .i64 a)) (h2 : w.cell? ⟨g2, 0, none⟩ = some (.int .i64 b)) :
    Calls Try.prog 42 #[.int .i64 n, .pointer (some ⟨g1, 0, none⟩), .pointer (some ⟨g2, 0, none⟩)] w fun e w' => e = .returned (.bool T) ∧ w' = w := by
  rw [← hT]; exact asks_any w g1 g2 a b n h1 h2
theorem asks_Q (W : World) (g1 g2 : Nat) (a b n : Int) (T : Bool) (hT : decide (inn n a b) = T) (h1 : W.cell? ⟨g1, 0, none⟩ = some (.int .i64 a)) (h2 : W.cell? ⟨g2, 0, none⟩ = some (.int .i64 b)) (q : Nat) :
    Calls Try.prog 42 #[.int .i64 n, .pointer (some ⟨g1, 0, none⟩), .pointer (some ⟨g2, 0, none⟩)] (W.drewN q) fun e w' => e = .returned (.bool T) ∧ ∃ m, w' = W.drewN m :=
  (asks_T (W.drewN q) g1 g2 a b n T hT h1 h2).mono fun _ _ h => ⟨h.1, q, h.2⟩
end Go.Proofs.Ytnanmdfbgoahjaa
