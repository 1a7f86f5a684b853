/-
  The contract of Pick: a number below k.
-/
import Derived.Test.YtaogileaeflnfaaMem
import Derived.IntWalk
import Derived.Outline
namespace Go.Proofs.Ytaogileaeflnfaa
open Go.RowKit

theorem pick_nat (x k : Int) (h1 : 1 ≤ k) (h2 : k ≤ 4611686018427387904) : ∃ p : Nat, (wrap64 (x.tmod k + k)).tmod k = (p : Int) ∧ (p : Int) < k := by
  have a1 := Int.tmod_lt_of_pos x (show 0 < k by omega)
  have a2 := Int.lt_tmod_of_pos x (show 0 < k by omega)
  generalize x.tmod k = q at a1 a2
  have e : wrap64 (q + k) = q + k := by unfold wrap64; omega
  rw [e, Int.tmod_eq_emod_of_nonneg (by omega)]
  have b1 := Int.emod_nonneg (q + k) (show k ≠ 0 by omega)
  have b2 := Int.emod_lt_of_pos (q + k) (show 0 < k by omega)
  exact ⟨((q + k) % k).toNat, by omega, by omega⟩

end Go.Proofs.Ytaogileaeflnfaa
