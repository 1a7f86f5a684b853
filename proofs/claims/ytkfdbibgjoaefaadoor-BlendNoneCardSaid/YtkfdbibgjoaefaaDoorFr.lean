/-
  What stays and what may turn: blocks told by a predicate; a row of cells told by its places.
-/
import Derived.Test.YtkfdbibgjoaefaaDoorStr
import Derived.Test.YtkfdbibgjoaefaaDoorBls
import Derived.Test.YtkfdbibgjoaefaaDoorLs
import Derived.BigRegion
namespace Go.Proofs.YtkfdbibgjoaefaaDoor
open Go.RowKit

theorem lt_of_heap {w : World} {g : Nat} {o : Obj} (d : w.heap[g]? = some o) : g < w.heap.size := by
  rcases Nat.lt_or_ge g w.heap.size with hlt | hge
  · exact hlt
  · rw [Array.getElem?_eq_none hge] at d; cases d
/-- All but the blocks of S stays. -/
structure But (S : Nat → Prop) (w w' : World) : Prop where
  os : w'.os = w.os
  tape : w'.tape = w.tape
  output : w'.output = w.output
  size : w.heap.size ≤ w'.heap.size
  block : ∀ i, i < w.heap.size → ¬ S i → w'.heap[i]? = w.heap[i]?
theorem But.refl (S : Nat → Prop) (w : World) : But S w w := ⟨rfl, rfl, rfl, Nat.le_refl _, fun _ _ _ => rfl⟩
theorem But.trans {S : Nat → Prop} {a b c : World} (h : But S a b) (k : But S b c) : But S a c :=
  ⟨k.os.trans h.os, k.tape.trans h.tape, k.output.trans h.output, Nat.le_trans h.size k.size, fun i hi hn => (k.block i (Nat.lt_of_lt_of_le hi h.size) hn).trans (h.block i hi hn)⟩
theorem But.mono {S S' : Nat → Prop} {a b : World} (h : But S a b) (hs : ∀ i, S i → S' i ∨ a.heap.size ≤ i) : But S' a b :=
  ⟨h.os, h.tape, h.output, h.size, fun i hi hn => h.block i hi (fun e => by rcases hs i e with h1 | h1; exact hn h1; omega)⟩
theorem But.of_below {S : Nat → Prop} {a b : World} (h : Below a.heap.size a b) : But S a b := ⟨h.os, h.tape, h.output, h.size, fun i hi _ => h.block i hi⟩
theorem But.below {S : Nat → Prop} {B : Nat} {a b : World} (h : But S a b) (hs : ∀ i, S i → B ≤ i) (hB : B ≤ a.heap.size) : Below B a b :=
  ⟨h.os, h.tape, h.output, h.size, fun i hi => h.block i (by omega) (fun e => by have := hs i e; omega)⟩
theorem But.drew {S : Nat → Prop} {a b : World} (h : But S a b) : But S a b.drew := ⟨h.os, h.tape, h.output, h.size, h.block⟩
theorem But.drewN {S : Nat → Prop} {a b : World} (h : But S a b) (n : Nat) : But S a (b.drewN n) := ⟨h.os, h.tape, h.output, h.size, h.block⟩
theorem But.set {S : Nat → Prop} {a b : World} (h : But S a b) (p : Addr) (u : Value) (hp : S p.block ∨ a.heap.size ≤ p.block) : But S a (b.setCell p u) :=
  ⟨h.os, h.tape, h.output, by rw [World.size_setCell]; exact h.size, fun i hi hn => (Below.heap_setCell b p u i (fun e => by subst e; rcases hp with h1 | h1; exact hn h1; omega)).trans (h.block i hi hn)⟩
theorem But.alloc {S : Nat → Prop} {a b : World} (h : But S a b) (o : Obj) : But S a (b.alloc o) :=
  h.trans (But.of_below ((Below.refl _ b).alloc (Nat.le_refl _) o))
theorem But.grown {S : Nat → Prop} {a b c : World} {row : Option Nat} (h : But S a b) (hg : b.grownBy c row) (hr : ∀ k, row = some k → S k ∨ a.heap.size ≤ k) : But S a c :=
  ⟨hg.os.trans h.os, hg.tape.trans h.tape, hg.output.trans h.output, Nat.le_trans h.size hg.size, fun i hi hn => (hg.block i (Nat.lt_of_lt_of_le hi h.size) (fun e => by rcases hr i e.symm with h1 | h1; exact hn h1; omega)).trans (h.block i hi hn)⟩
theorem But.cell {S : Nat → Prop} {a b : World} (h : But S a b) {p : Addr} {v : Value} (hc : a.cell? p = some v) (hn : ¬ S p.block) : b.cell? p = some v :=
  (World.cell?_of_block (h.block p.block (lt_cell hc) hn)).trans hc
theorem But.heap {S : Nat → Prop} {a b : World} (h : But S a b) {g : Nat} {o : Obj} (hc : a.heap[g]? = some o) (hn : ¬ S g) : b.heap[g]? = some o := (h.block g (lt_of_heap hc) hn).trans hc
theorem KnIs.but {S : Nat → Prop} {w w' : World} (h : KnIs w) (b : But S w w') (hn : ¬ S 0) : KnIs w' := fun i hi => b.cell (h i hi) hn
theorem row_free {w : World} {g : Nat} {t : TypeId} {cs : Array Value} (h : w.heap[g]? = some (.cells cs t (0, 0))) (i : Nat) : w.frozen? ⟨g, i, none⟩ = false := by
  simp [World.frozen?, h]
theorem row_set {w : World} {g : Nat} {t : TypeId} {cs : Array Value} (h : w.heap[g]? = some (.cells cs t (0, 0))) (i : Nat) (u : Value) :
    (w.setCell ⟨g, i, none⟩ u).heap[g]? = some (.cells (cs.setIfInBounds i u) t (0, 0)) := by
  simp [World.setCell, Array.getElem?_modify, h]
theorem set_toArray (L : List Value) (m : Nat) (u : Value) : L.toArray.setIfInBounds m u = (L.set m u).toArray := by simp
/-- n cells, told by their places. -/
def fL (n : Nat) (F : Nat → Value) : List Value := (List.range n).map F
theorem fL_len (n : Nat) (F : Nat → Value) : (fL n F).length = n := by simp [fL]
theorem fL_get (n : Nat) (F : Nat → Value) (j : Nat) (h : j < n) : (fL n F)[j]? = some (F j) := by simp [fL, h]
theorem fL_same {n : Nat} {F G : Nat → Value} (h : ∀ j, j < n → F j = G j) : fL n F = fL n G := by
  unfold fL
  exact List.map_congr_left fun j hj => h j (List.mem_range.1 hj)
theorem fL_set (n : Nat) (F : Nat → Value) (j : Nat) (v : Value) : (fL n F).set j v = fL n (fun i => if i = j then v else F i) := by
  apply List.ext_getElem?
  intro i
  rw [List.getElem?_set, fL_len]
  by_cases hi : i < n
  · rw [fL_get _ _ i hi, fL_get _ _ i hi]
    by_cases e : j = i
    · subst e; simp [hi]
    · rw [if_neg e, if_neg (Ne.symm e)]
  · have e1 : ∀ G, (fL n G)[i]? = none := fun G => List.getElem?_eq_none (by rw [fL_len]; omega)
    rw [e1, e1]
    by_cases e : j = i
    · subst e; simp; omega
    · rw [if_neg e]
theorem fL_of (l : List Value) (d : Value) : l = fL l.length (fun i => l.getD i d) := by
  apply List.ext_getElem?
  intro i
  by_cases hi : i < l.length
  · rw [fL_get _ _ i hi, List.getElem?_eq_getElem hi, List.getD_eq_getElem?_getD, List.getElem?_eq_getElem hi]
    rfl
  · rw [List.getElem?_eq_none (by omega), List.getElem?_eq_none (by rw [fL_len]; omega)]
/-- Block d holds them. -/
def Ro (w : World) (d : Nat) (T : TypeId) (n : Nat) (F : Nat → Value) : Prop := w.heap[d]? = some (.cells (fL n F).toArray T (0, 0))
section
variable {w w' : World} {d : Nat} {T : TypeId} {n : Nat} {F : Nat → Value} {S : Nat → Prop}
theorem Ro.lt (h : Ro w d T n F) : d < w.heap.size := lt_of_heap h
theorem Ro.cell (h : Ro w d T n F) (j : Nat) (hj : j < n) : w.cell? ⟨d, j, none⟩ = some (F j) := by
  rw [row_cell h j, List.getElem?_toArray, fL_get _ _ j hj]
theorem Ro.free (h : Ro w d T n F) (j : Nat) : w.frozen? ⟨d, j, none⟩ = false := row_free h j
theorem Ro.set (h : Ro w d T n F) (j : Nat) (v : Value) : Ro (w.setCell ⟨d, j, none⟩ v) d T n (fun i => if i = j then v else F i) := by
  unfold Ro
  rw [row_set h j, set_toArray, fL_set]
theorem Ro.same (h : Ro w d T n F) {G : Nat → Value} (e : ∀ j, j < n → F j = G j) : Ro w d T n G := by
  unfold Ro
  rw [← fL_same e]
  exact h
theorem Ro.on (h : Ro w d T n F) (b : But S w w') (hn : ¬ S d) : Ro w' d T n F := b.heap h hn
theorem Ro.below (h : Ro w d T n F) (b : Below w.heap.size w w') : Ro w' d T n F := (b.block d h.lt).trans h
theorem Ro.drew (h : Ro w d T n F) : Ro w.drew d T n F := h
theorem Ro.drewN (h : Ro w d T n F) (q : Nat) : Ro (w.drewN q) d T n F := h
end
end Go.Proofs.YtkfdbibgjoaefaaDoor
