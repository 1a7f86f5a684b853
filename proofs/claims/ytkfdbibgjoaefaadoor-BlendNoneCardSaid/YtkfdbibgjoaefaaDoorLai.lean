/-
  From the row's condition to what the walks ask: the table holds the knots.
-/
import Derived.Test.YtkfdbibgjoaefaaDoorRows
import Derived.Test.YtkfdbibgjoaefaaDoorSq
import Derived.Lib.LaidTab
namespace Go.Proofs.YtkfdbibgjoaefaaDoor
open Go.RowKit

theorem gKnots : Tryd.prog.globalNamed "quillpress/squash.knots" = some 0 := by kernel_rfl
theorem tKnots : (Tryd.prog.globals[0]?).map (·.type) = some 65 := by kernel_rfl
theorem kn_zs : ∀ i, i < 33 → (knL.map Int.ofNat).getD i 0 = ((kn i : Nat) : Int) := by decide +kernel
theorem knIs_of_laid {W : World} (h : laidMet Tryd.prog [("quillpress/squash.knots", Rows.laid_quillpress_squash_knots)] W) : KnIs W := by
  have hT := Lib.tabIs_of_head (k := .i64) (zs := knL.map Int.ofNat) (rest := []) gKnots tKnots Tryd.underlying65 Tryd.underlying3 (by kernel_rfl) (by kernel_rfl) h
  intro i hi
  have := hT.cell gKnots i (by simpa [knL] using hi)
  rw [kn_zs i hi] at this
  exact this
end Go.Proofs.YtkfdbibgjoaefaaDoor
