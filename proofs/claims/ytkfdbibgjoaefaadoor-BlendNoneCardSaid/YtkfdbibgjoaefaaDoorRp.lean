/-
  The document's places: within, most, power, Places.
-/
import Derived.Test.YtkfdbibgjoaefaaDoorPl
namespace Go.Proofs.YtkfdbibgjoaefaaDoor
open Go.RowKit

def mostR (k : Int) : Int := if k = 2 ∨ k = 3 ∨ k = 4 ∨ k = 6 ∨ k = 8 then 16 else if k = 7 then 12 else if k = 9 then 10 else -1
theorem pow2_nat (i : Nat) : pow2 ((i : Nat) : Int) = 2 ^ i := by unfold pow2; rw [Int.toNat_natCast]
end Go.Proofs.YtkfdbibgjoaefaaDoor
