/-
  Lists of whole numbers of the call's own; the closure of Starts, to which each start is told.
-/
import Derived.Test.YtaogileaeflnfaaGtd
import Derived.Test.YtaogileaeflnfaaVdn
import Derived.Maps.OwnSet
import Derived.Maps.AppendAt
namespace Go.Proofs.Ytaogileaeflnfaa
open Go.RowKit Go.Maps
set_option linter.unusedVariables false
set_option linter.unusedSimpArgs false

/-- A whole number as the model has it. -/
def iv (x : Int) : Value := .int .i64 x
theorem Try.info3 : (Try.prog.info? 3).map (fun i => (i.zero, i.size, i.bytes)) = some (some (.int .i64 0), 1, 8) := by kernel_rfl
theorem below_set {B : Nat} {w w' : World} (h : Below B w w') (a : Addr) (u : Value) (ha : B ≤ a.block) : Below B w (w'.setCell a u) := by
  refine ⟨h.os, h.tape, h.output, ?_, fun b hb => ?_⟩
  · have e : (w'.setCell a u).heap.size = w'.heap.size := by simp [World.setCell]
    rw [e]
    exact h.size
  · rw [RowKit.Below.heap_setCell _ _ _ _ (by omega)]
    exact h.block b hb
/-- What the closure of Starts keeps: block g has the list's slice, its numbers lie in blocks behind g. -/
structure Lst (w : World) (g : Nat) (X : List Int) : Prop where
  row : ∃ v, w.heap[g]? = some (.cells #[v] 62 (0, 0)) ∧ w.ownsRow (g + 1) 3 1 v X.length (X.map iv)
theorem Lst.below {w w' : World} {g : Nat} {X : List Int} (h : Lst w g X) (hb : Below w.heap.size w w') : Lst w' g X := by
  obtain ⟨v, hg, ho⟩ := h.row
  refine ⟨v, (hb.block g (lt_of_heap hg)).trans hg, ho.1, ?_⟩
  rcases ho.2 with h2 | ⟨g2, cap, cur, rfl, hge, hh, r⟩
  · exact .inl h2
  · exact .inr ⟨g2, cap, cur, rfl, hge, (hb.block g2 (lt_of_heap hh)).trans hh, r⟩
theorem keep_row2 {w w2 : World} {g : Nat} {row : Option Nat} {X o1 o2 : Obj} (hgs : g < w.heap.size) (hg : w.heap[g]? = some X) (h : ((w.alloc o1).alloc o2).grownBy w2 row) (hne : row ≠ some g) : w2.heap[g]? = some X := by
  have h1 := heap_alloc_old w o1 hgs
  have h2 := heap_alloc_old (w.alloc o1) o2 (r := g) (by simp; omega)
  exact (h.block g (by simp; omega) (fun e => hne e.symm)).trans (h2.trans (h1.trans hg))
theorem own_setCell {w : World} {base n : Nat} {v : Value} {xs : List Value} (h : w.ownsRow base 3 1 v n xs) (a : Addr) (u : Value) (ha : a.block < base) : (w.setCell a u).ownsRow base 3 1 v n xs := by
  refine ⟨h.1, ?_⟩
  rcases h.2 with h2 | ⟨g2, cap, cur, rfl, hge, hh, r⟩
  · exact .inl h2
  · exact .inr ⟨g2, cap, cur, rfl, hge, by rw [RowKit.Below.heap_setCell _ _ _ _ (by omega)]; exact hh, r⟩
/-- A slice of whole numbers of the call's own is one. -/
theorem own_ints {w : World} {base n : Nat} {v : Value} {xs : List Value} (h : w.ownsRow base 3 1 v n xs) : ∃ A c, v = .slice A n c := by
  rcases h.2 with ⟨rfl, rfl⟩ | ⟨g, cap, cur, rfl, _⟩
  · exact ⟨none, 0, rfl⟩
  · exact ⟨_, _, rfl⟩
end Go.Proofs.Ytaogileaeflnfaa
