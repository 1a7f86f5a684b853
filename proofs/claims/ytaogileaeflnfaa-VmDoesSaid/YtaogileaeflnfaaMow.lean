/-
  A machine of one's own in memory; what stays beside it.
-/
import Derived.Test.YtaogileaeflnfaaTll
import Derived.StillTailTactics
set_option linter.unusedVariables false
set_option linter.unusedSimpArgs false
namespace Go.Proofs.Ytaogileaeflnfaa
open Go.RowKit

/-- All but the blocks of S stays. -/
structure But (S : Nat → Prop) (w w' : World) : Prop where
  os : w'.os = w.os
  tape : w'.tape = w.tape
  output : w'.output = w.output
  size : w.heap.size ≤ w'.heap.size
  block : ∀ i, i < w.heap.size → ¬ S i → w'.heap[i]? = w.heap[i]?
theorem But.refl (S : Nat → Prop) (w : World) : But S w w := ⟨rfl, rfl, rfl, Nat.le_refl _, fun _ _ _ => rfl⟩
theorem But.trans {S S' : Nat → Prop} {a b c : World} (h : But S a b) (k : But S' b c) (hs : ∀ i, S' i → S i ∨ a.heap.size ≤ i) : But S a c :=
  ⟨k.os.trans h.os, k.tape.trans h.tape, k.output.trans h.output, Nat.le_trans h.size k.size, fun i hi hn => (k.block i (Nat.lt_of_lt_of_le hi h.size) (fun e => by rcases hs i e with h1 | h1; exact hn h1; omega)).trans (h.block i hi hn)⟩
theorem But.mono {S S' : Nat → Prop} {a b : World} (h : But S a b) (hs : ∀ i, S i → S' i ∨ a.heap.size ≤ i) : But S' a b :=
  ⟨h.os, h.tape, h.output, h.size, fun i hi hn => h.block i hi (fun e => by rcases hs i e with h1 | h1; exact hn h1; omega)⟩
theorem But.of_below {S : Nat → Prop} {a b : World} (h : Below a.heap.size a b) : But S a b := ⟨h.os, h.tape, h.output, h.size, fun i hi _ => h.block i hi⟩
theorem But.below {S : Nat → Prop} {B : Nat} {a b : World} (h : But S a b) (hs : ∀ i, S i → B ≤ i) (hB : B ≤ a.heap.size) : Below B a b :=
  ⟨h.os, h.tape, h.output, h.size, fun i hi => h.block i (by omega) (fun e => by have := hs i e; omega)⟩
theorem But.drew {S : Nat → Prop} {a b : World} (h : But S a b) : But S a b.drew := ⟨h.os, h.tape, h.output, h.size, h.block⟩
theorem But.drewN {S : Nat → Prop} {a b : World} (h : But S a b) (n : Nat) : But S a (b.drewN n) := ⟨h.os, h.tape, h.output, h.size, h.block⟩
theorem But.set {S : Nat → Prop} {a b : World} (h : But S a b) (p : Addr) (u : Value) (hp : S p.block ∨ a.heap.size ≤ p.block) : But S a (b.setCell p u) :=
  ⟨h.os, h.tape, h.output, by rw [World.size_setCell]; exact h.size, fun i hi hn => (Below.heap_setCell b p u i (fun e => by subst e; rcases hp with h1 | h1; exact hn h1; omega)).trans (h.block i hi hn)⟩
theorem But.alloc {S : Nat → Prop} {a b : World} (h : But S a b) (o : Obj) : But S a (b.alloc o) :=
  h.trans (S' := S) (But.of_below ((Below.refl _ b).alloc (Nat.le_refl _) o)) (fun _i e => .inl e)
theorem But.grown {S : Nat → Prop} {a b c : World} {row : Option Nat} (h : But S a b) (hg : b.grownBy c row) (hr : ∀ k, row = some k → S k ∨ a.heap.size ≤ k) : But S a c :=
  ⟨hg.os.trans h.os, hg.tape.trans h.tape, hg.output.trans h.output, Nat.le_trans h.size hg.size, fun i hi hn => (hg.block i (Nat.lt_of_lt_of_le hi h.size) (fun e => by rcases hr i e.symm with h1 | h1; exact hn h1; omega)).trans (h.block i hi hn)⟩
theorem But.cell {S : Nat → Prop} {a b : World} (h : But S a b) {p : Addr} {v : Value} (hc : a.cell? p = some v) (hn : ¬ S p.block) : b.cell? p = some v :=
  (World.cell?_of_block (h.block p.block (lt_of_cell hc) hn)).trans hc
theorem ownsRow_but {S : Nat → Prop} {w w' : World} {base e s n : Nat} {v : Value} {xs : List Value} (h : w.ownsRow base e s v n xs) (hb : But S w w') (hn : ∀ k, v.ownBlock = some k → ¬ S k) : w'.ownsRow base e s v n xs := by
  obtain ⟨h1, h2⟩ := h
  refine ⟨h1, ?_⟩
  rcases h2 with h2 | ⟨g, cap, cur, rfl, hg, hh, r⟩
  · exact .inl h2
  · exact .inr ⟨g, cap, cur, rfl, hg, (hb.block g (lt_of_heap hh) (hn g rfl)).trans hh, r⟩
theorem own_put {W : World} {B E n c gt i : Nat} {X : List Value} (h : W.ownsRow B E 1 (.slice (some ⟨gt, 0, none⟩) n c) n X) (hi : i < n) (u : Value) :
    (W.setCell ⟨gt, i, none⟩ u).ownsRow B E 1 (.slice (some ⟨gt, 0, none⟩) n c) n (X.set i u) := by
  rcases h.2 with ⟨h1, _⟩ | ⟨g, cap, cur, hv, hg, hh, hn, hm, hs, ht⟩
  · cases h1
  · injection hv with e1 e2 e3
    injection e1 with e1
    injection e1 with e1
    subst e1 e3
    refine ⟨by rw [List.length_set]; exact h.1, .inr ⟨gt, c, cur.setIfInBounds i u, rfl, hg, by simp [World.setCell, Array.getElem?_modify, hh], hn, hm, by simpa using hs, ?_⟩⟩
    rw [← ht, Array.toList_setIfInBounds, List.take_set]
theorem own_off {W : World} {B E n : Nat} {v : Value} {X : List Value} (h : W.ownsRow B E 1 v n X) (a : Addr) (u : Value) (hne : v.ownBlock ≠ some a.block) : (W.setCell a u).ownsRow B E 1 v n X := by
  refine ⟨h.1, ?_⟩
  rcases h.2 with h2 | ⟨g, cap, cur, rfl, hge, hh, r⟩
  · exact .inl h2
  · exact .inr ⟨g, cap, cur, rfl, hge, by rw [RowKit.Below.heap_setCell _ _ _ _ (fun e => hne (by rw [← e]; rfl))]; exact hh, r⟩
theorem own_free {W : World} {B E n c gt i : Nat} {X : List Value} (h : W.ownsRow B E 1 (.slice (some ⟨gt, 0, none⟩) n c) n X) : W.frozen? ⟨gt, i, none⟩ = false := by
  rcases h.2 with ⟨h1, _⟩ | ⟨g, cap, cur, hv, hg, hh, hn, hm, hs, ht⟩
  · cases h1
  · injection hv with e1 e2 e3
    injection e1 with e1
    injection e1 with e1
    subst e1
    simp [World.frozen?, hh]
theorem off_cell {W : World} {a b : Addr} {u v : Value} (h : W.cell? b = some v) (hne : b.block ≠ a.block) : (W.setCell a u).cell? b = some v := by
  unfold World.cell? at h ⊢
  rw [RowKit.Below.heap_setCell _ _ _ _ hne]
  exact h
theorem own_ng {w : World} {base E g n : Nat} {v : Value} {xs : List Value} {cs : Array Value} {t : TypeId} {fz : Nat × Nat} (h : w.ownsRow base E 1 v n xs) (hg : w.heap[g]? = some (.cells cs t fz)) (ht : t ≠ E) : v.ownBlock ≠ some g := by
  rcases h.2 with ⟨rfl, _⟩ | ⟨g', cap', cur', rfl, _, hh', _⟩
  · intro e; cases e
  · intro e
    have e2 : g' = g := by simpa [Value.ownBlock] using e
    subst e2
    rw [hg] at hh'
    injection hh' with hh'
    injection hh' with _ h2
    exact ht h2
theorem map_set {α : Type} (f : α → Value) (l : List α) (i : Nat) (x : α) : (l.map f).set i (f x) = (l.set i x).map f := (List.map_set).symm
/-- A machine of one's own: block g, its numbers in block hb, its bytes in block mb. -/
structure MO (w : World) (B g hb mb nH cH nM cM : Nat) (x : Mn) : Prop where
  row : w.heap[g]? = some (.cells (mcL x (.slice (some ⟨hb, 0, none⟩) nH cH) (.slice (some ⟨mb, 0, none⟩) nM cM)).toArray 30 (0, 0))
  h : w.ownsRow B 25 1 (.slice (some ⟨hb, 0, none⟩) nH cH) nH (x.h.map U.bv)
  m : w.ownsRow B 5 1 (.slice (some ⟨mb, 0, none⟩) nM cM) nM (x.m.map bv)
  ge : B ≤ g
  sm : nH ≤ 1000000 ∧ nM ≤ 1000000
section
variable {w w' : World} {B g hb mb nH cH nM cM : Nat} {x : Mn}
theorem MO.mr (h : MO w B g hb mb nH cH nM cM x) : MR w g x (some ⟨hb, 0, none⟩) nH cH (some ⟨mb, 0, none⟩) nM cM :=
  ⟨h.row, U.own_isB2 h.h (by have := h.sm; omega), own_isB2 h.m (by have := h.sm; omega)⟩
theorem MO.nh (h : MO w B g hb mb nH cH nM cM x) : x.h.length = nH := by simpa using h.h.1
theorem MO.nm (h : MO w B g hb mb nH cH nM cM x) : x.m.length = nM := by simpa using h.m.1
theorem MO.lt (h : MO w B g hb mb nH cH nM cM x) : g < w.heap.size := lt_of_heap h.row
theorem MO.hlt (h : MO w B g hb mb nH cH nM cM x) : B ≤ hb ∧ hb < w.heap.size := h.h.lt hb rfl
theorem MO.mlt (h : MO w B g hb mb nH cH nM cM x) : B ≤ mb ∧ mb < w.heap.size := h.m.lt mb rfl
theorem MO.ghb (h : MO w B g hb mb nH cH nM cM x) : g ≠ hb := fun e => own_ng h.h h.row (by decide) (by rw [e]; rfl)
theorem MO.gmb (h : MO w B g hb mb nH cH nM cM x) : g ≠ mb := fun e => own_ng h.m h.row (by decide) (by rw [e]; rfl)
theorem MO.hmb (h : MO w B g hb mb nH cH nM cM x) : hb ≠ mb := by
  intro e
  rcases h.h.2 with ⟨h1, _⟩ | ⟨g', cap, cur, hv, hg, hh, _⟩
  · cases h1
  · injection hv with e1
    injection e1 with e1
    injection e1 with e1
    subst e1
    exact own_ng h.m hh (by decide) (by rw [e]; rfl)
theorem MO.below (h : MO w B g hb mb nH cH nM cM x) (b : Below w.heap.size w w') : MO w' B g hb mb nH cH nM cM x :=
  ⟨(b.block _ h.lt).trans h.row, own_below h.h b, own_below h.m b, h.ge, h.sm⟩
theorem MO.drew (h : MO w B g hb mb nH cH nM cM x) : MO w.drew B g hb mb nH cH nM cM x := ⟨h.row, h.h, h.m, h.ge, h.sm⟩
theorem MO.drewN (h : MO w B g hb mb nH cH nM cM x) (n : Nat) : MO (w.drewN n) B g hb mb nH cH nM cM x := ⟨h.row, h.h, h.m, h.ge, h.sm⟩
theorem MO.put (h : MO w B g hb mb nH cH nM cM x) (i : Nat) (u : Value) (y : Mn) (hy : (mcL x (.slice (some ⟨hb, 0, none⟩) nH cH) (.slice (some ⟨mb, 0, none⟩) nM cM)).set i u = mcL y (.slice (some ⟨hb, 0, none⟩) nH cH) (.slice (some ⟨mb, 0, none⟩) nM cM)) (h1 : y.h = x.h) (h2 : y.m = x.m) :
    MO (w.setCell ⟨g, i, none⟩ u) B g hb mb nH cH nM cM y := by
  refine ⟨?_, ?_, ?_, h.ge, h.sm⟩
  · rw [row_set h.row i u, set_toArray, hy]
  · rw [h1]; exact own_off h.h _ _ (own_ng h.h h.row (by decide))
  · rw [h2]; exact own_off h.m _ _ (own_ng h.m h.row (by decide))
theorem MO.put_h (h : MO w B g hb mb nH cH nM cM x) (j : Nat) (hj : j < nH) (v : UInt32) : MO (w.setCell ⟨hb, j, none⟩ (U.bv v)) B g hb mb nH cH nM cM { x with h := x.h.set j v } := by
  refine ⟨?_, ?_, ?_, h.ge, h.sm⟩
  · rw [Below.heap_setCell _ _ _ _ (show g ≠ hb from h.ghb)]; exact h.row
  · have := own_put h.h hj (U.bv v)
    rw [map_set] at this
    exact this
  · exact own_off h.m _ _ (fun e => h.hmb (by injection e with e; exact e.symm))
theorem MO.put_m (h : MO w B g hb mb nH cH nM cM x) (j : Nat) (hj : j < nM) (v : UInt8) : MO (w.setCell ⟨mb, j, none⟩ (bv v)) B g hb mb nH cH nM cM { x with m := x.m.set j v } := by
  refine ⟨?_, ?_, ?_, h.ge, h.sm⟩
  · rw [Below.heap_setCell _ _ _ _ (show g ≠ mb from h.gmb)]; exact h.row
  · exact own_off h.h _ _ (fun e => h.hmb (by injection e with e))
  · have := own_put h.m hj (bv v)
    rw [map_set] at this
    exact this
/-- What a machine's instruction may change. -/
def Its (g hb mb : Nat) : Nat → Prop := fun i => i = g ∨ i = hb ∨ i = mb
end
end Go.Proofs.Ytaogileaeflnfaa
