/-
  Small laws of memory that all texts of this seat stand on.
-/
import Derived.Test.YtdachagkhjhggaaProg
import Derived.WalkKit
import Derived.WalkSpells
import Derived.WalkLawsBesides
import Derived.Laws.CopyOwn
import Derived.Laws.Rows
import Derived.OpenShut
import Derived.IntWalk
import Derived.Outline
import Derived.BigQuiet
import Derived.Deep.RegionHeld3
import Derived.StillTailTactics
namespace Go.Proofs.Ytdachagkhjhggaa
open Go.RowKit

theorem hid {p : Prop} (h : p) : RowKit.Hid p := h
theorem add_of_add (a : Addr) (i j : Nat) : (a.add i).add j = a.add (i + j) := by
  unfold Addr.add
  by_cases hi : i = 0 <;> by_cases hj : j = 0 <;> simp [hi, hj, Nat.add_assoc]
theorem block_of_add (a : Addr) (n : Nat) : (a.add n).block = a.block := by unfold Addr.add; split <;> rfl
theorem row_cell {w : World} {g : Nat} {t : TypeId} {cs : Array Value} (h : w.heap[g]? = some (.cells cs t (0, 0))) (i : Nat) : w.cell? ⟨g, i, none⟩ = cs[i]? := cell_of_row w g i cs t (0, 0) h
theorem row_set {w : World} {g : Nat} {t : TypeId} {cs : Array Value} (h : w.heap[g]? = some (.cells cs t (0, 0))) (i : Nat) (u : Value) :
    (w.setCell ⟨g, i, none⟩ u).heap[g]? = some (.cells (cs.setIfInBounds i u) t (0, 0)) := by
  simp [World.setCell, Array.getElem?_modify, h]
theorem row_free {w : World} {g : Nat} {t : TypeId} {cs : Array Value} (h : w.heap[g]? = some (.cells cs t (0, 0))) (i : Nat) : w.frozen? ⟨g, i, none⟩ = false := by
  simp [World.frozen?, h]
theorem lt_of_heap {w : World} {g : Nat} {o : Obj} (h : w.heap[g]? = some o) : g < w.heap.size := by
  rcases Nat.lt_or_ge g w.heap.size with hlt | hge
  · exact hlt
  · rw [Array.getElem?_eq_none hge] at h; cases h
theorem below_set {B : Nat} {w w' : World} (h : Below B w w') (a : Addr) (u : Value) (ha : B ≤ a.block) : Below B w (w'.setCell a u) := by
  refine ⟨h.os, h.tape, h.output, ?_, fun b hb => ?_⟩
  · have e : (w'.setCell a u).heap.size = w'.heap.size := by simp [World.setCell]
    rw [e]
    exact h.size
  · rw [RowKit.Below.heap_setCell _ _ _ _ (by omega)]
    exact h.block b hb
end Go.Proofs.Ytdachagkhjhggaa
