/-
  Merged: Zc Rc Rd0.
-/
import Derived.Test.YtkfdbibgjoaefaaGreatDoorMg00
import Derived.Test.YtkfdbibgjoaefaaGreatDoorMg01
import Derived.Test.YtkfdbibgjoaefaaGreatDoorMg05
import Derived.BigRegion
import Derived.Laws.Sem
import Derived.LaidEqlPtr
import Derived.Deep.RegionHeld3
import Derived.Deep.DeepMust
import Derived.Laws.Rows
import Derived.Lib.Tables
import Derived.Lib.BitFns
import Derived.Laws.OwnMore
/-
  Merged: Fr Um Od Mt Bx Kf Ask Le.
-/
/-
  What stays and what may turn: blocks told by a predicate; a row of cells told by its places.
-/
namespace Go.Proofs.YtkfdbibgjoaefaaGreatDoor
open Go.RowKit

theorem lt_of_heap {w : World} {g : Nat} {o : Obj} (d : w.heap[g]? = some o) : g < w.heap.size := by
  rcases Nat.lt_or_ge g w.heap.size with hlt | hge
  · exact hlt
  · rw [Array.getElem?_eq_none hge] at d; cases d
/-- All but the blocks of S stays. -/
structure But (S : Nat → Prop) (w w' : World) : Prop where
  os : w'.os = w.os
  tape : w'.tape = w.tape
  output : w'.output = w.output
  size : w.heap.size ≤ w'.heap.size
  block : ∀ i, i < w.heap.size → ¬ S i → w'.heap[i]? = w.heap[i]?
theorem But.refl (S : Nat → Prop) (w : World) : But S w w := ⟨rfl, rfl, rfl, Nat.le_refl _, fun _ _ _ => rfl⟩
theorem But.trans {S : Nat → Prop} {a b c : World} (h : But S a b) (k : But S b c) : But S a c :=
  ⟨k.os.trans h.os, k.tape.trans h.tape, k.output.trans h.output, Nat.le_trans h.size k.size, fun i hi hn => (k.block i (Nat.lt_of_lt_of_le hi h.size) hn).trans (h.block i hi hn)⟩
theorem But.mono {S S' : Nat → Prop} {a b : World} (h : But S a b) (hs : ∀ i, S i → S' i ∨ a.heap.size ≤ i) : But S' a b :=
  ⟨h.os, h.tape, h.output, h.size, fun i hi hn => h.block i hi (fun e => by rcases hs i e with h1 | h1; exact hn h1; omega)⟩
theorem But.of_below {S : Nat → Prop} {a b : World} (h : Below a.heap.size a b) : But S a b := ⟨h.os, h.tape, h.output, h.size, fun i hi _ => h.block i hi⟩
theorem But.below {S : Nat → Prop} {B : Nat} {a b : World} (h : But S a b) (hs : ∀ i, S i → B ≤ i) (hB : B ≤ a.heap.size) : Below B a b :=
  ⟨h.os, h.tape, h.output, h.size, fun i hi => h.block i (by omega) (fun e => by have := hs i e; omega)⟩
theorem But.drew {S : Nat → Prop} {a b : World} (h : But S a b) : But S a b.drew := ⟨h.os, h.tape, h.output, h.size, h.block⟩
theorem But.drewN {S : Nat → Prop} {a b : World} (h : But S a b) (n : Nat) : But S a (b.drewN n) := ⟨h.os, h.tape, h.output, h.size, h.block⟩
theorem But.set {S : Nat → Prop} {a b : World} (h : But S a b) (p : Addr) (u : Value) (hp : S p.block ∨ a.heap.size ≤ p.block) : But S a (b.setCell p u) :=
  ⟨h.os, h.tape, h.output, by rw [World.size_setCell]; exact h.size, fun i hi hn => (Below.heap_setCell b p u i (fun e => by subst e; rcases hp with h1 | h1; exact hn h1; omega)).trans (h.block i hi hn)⟩
theorem But.alloc {S : Nat → Prop} {a b : World} (h : But S a b) (o : Obj) : But S a (b.alloc o) :=
  h.trans (But.of_below ((Below.refl _ b).alloc (Nat.le_refl _) o))
theorem But.grown {S : Nat → Prop} {a b c : World} {row : Option Nat} (h : But S a b) (hg : b.grownBy c row) (hr : ∀ k, row = some k → S k ∨ a.heap.size ≤ k) : But S a c :=
  ⟨hg.os.trans h.os, hg.tape.trans h.tape, hg.output.trans h.output, Nat.le_trans h.size hg.size, fun i hi hn => (hg.block i (Nat.lt_of_lt_of_le hi h.size) (fun e => by rcases hr i e.symm with h1 | h1; exact hn h1; omega)).trans (h.block i hi hn)⟩
theorem But.cell {S : Nat → Prop} {a b : World} (h : But S a b) {p : Addr} {v : Value} (hc : a.cell? p = some v) (hn : ¬ S p.block) : b.cell? p = some v :=
  (World.cell?_of_block (h.block p.block (lt_cell hc) hn)).trans hc
theorem But.heap {S : Nat → Prop} {a b : World} (h : But S a b) {g : Nat} {o : Obj} (hc : a.heap[g]? = some o) (hn : ¬ S g) : b.heap[g]? = some o := (h.block g (lt_of_heap hc) hn).trans hc
theorem KnIs.but {S : Nat → Prop} {w w' : World} (h : KnIs w) (b : But S w w') (hn : ¬ S 0) : KnIs w' := fun i hi => b.cell (h i hi) hn
theorem row_free {w : World} {g : Nat} {t : TypeId} {cs : Array Value} (h : w.heap[g]? = some (.cells cs t (0, 0))) (i : Nat) : w.frozen? ⟨g, i, none⟩ = false := by
  simp [World.frozen?, h]
theorem row_set {w : World} {g : Nat} {t : TypeId} {cs : Array Value} (h : w.heap[g]? = some (.cells cs t (0, 0))) (i : Nat) (u : Value) :
    (w.setCell ⟨g, i, none⟩ u).heap[g]? = some (.cells (cs.setIfInBounds i u) t (0, 0)) := by
  simp [World.setCell, Array.getElem?_modify, h]
theorem set_toArray (L : List Value) (m : Nat) (u : Value) : L.toArray.setIfInBounds m u = (L.set m u).toArray := by simp
/-- n cells, told by their places. -/
def fL (n : Nat) (F : Nat → Value) : List Value := (List.range n).map F
theorem fL_len (n : Nat) (F : Nat → Value) : (fL n F).length = n := by simp [fL]
theorem fL_get (n : Nat) (F : Nat → Value) (j : Nat) (h : j < n) : (fL n F)[j]? = some (F j) := by simp [fL, h]
theorem fL_same {n : Nat} {F G : Nat → Value} (h : ∀ j, j < n → F j = G j) : fL n F = fL n G := by
  unfold fL
  exact List.map_congr_left fun j hj => h j (List.mem_range.1 hj)
theorem fL_set (n : Nat) (F : Nat → Value) (j : Nat) (v : Value) : (fL n F).set j v = fL n (fun i => if i = j then v else F i) := by
  apply List.ext_getElem?
  intro i
  rw [List.getElem?_set, fL_len]
  by_cases hi : i < n
  · rw [fL_get _ _ i hi, fL_get _ _ i hi]
    by_cases e : j = i
    · subst e; simp [hi]
    · rw [if_neg e, if_neg (Ne.symm e)]
  · have e1 : ∀ G, (fL n G)[i]? = none := fun G => List.getElem?_eq_none (by rw [fL_len]; omega)
    rw [e1, e1]
    by_cases e : j = i
    · subst e; simp; omega
    · rw [if_neg e]
theorem fL_of (l : List Value) (d : Value) : l = fL l.length (fun i => l.getD i d) := by
  apply List.ext_getElem?
  intro i
  by_cases hi : i < l.length
  · rw [fL_get _ _ i hi, List.getElem?_eq_getElem hi, List.getD_eq_getElem?_getD, List.getElem?_eq_getElem hi]
    rfl
  · rw [List.getElem?_eq_none (by omega), List.getElem?_eq_none (by rw [fL_len]; omega)]
/-- Block d holds them. -/
def Ro (w : World) (d : Nat) (T : TypeId) (n : Nat) (F : Nat → Value) : Prop := w.heap[d]? = some (.cells (fL n F).toArray T (0, 0))
section
variable {w w' : World} {d : Nat} {T : TypeId} {n : Nat} {F : Nat → Value} {S : Nat → Prop}
theorem Ro.lt (h : Ro w d T n F) : d < w.heap.size := lt_of_heap h
theorem Ro.cell (h : Ro w d T n F) (j : Nat) (hj : j < n) : w.cell? ⟨d, j, none⟩ = some (F j) := by
  rw [row_cell h j, List.getElem?_toArray, fL_get _ _ j hj]
theorem Ro.free (h : Ro w d T n F) (j : Nat) : w.frozen? ⟨d, j, none⟩ = false := row_free h j
theorem Ro.set (h : Ro w d T n F) (j : Nat) (v : Value) : Ro (w.setCell ⟨d, j, none⟩ v) d T n (fun i => if i = j then v else F i) := by
  unfold Ro
  rw [row_set h j, set_toArray, fL_set]
theorem Ro.same (h : Ro w d T n F) {G : Nat → Value} (e : ∀ j, j < n → F j = G j) : Ro w d T n G := by
  unfold Ro
  rw [← fL_same e]
  exact h
theorem Ro.on (h : Ro w d T n F) (b : But S w w') (hn : ¬ S d) : Ro w' d T n F := b.heap h hn
theorem Ro.below (h : Ro w d T n F) (b : Below w.heap.size w w') : Ro w' d T n F := (b.block d h.lt).trans h
theorem Ro.drew (h : Ro w d T n F) : Ro w.drew d T n F := h
theorem Ro.drewN (h : Ro w d T n F) (q : Nat) : Ro (w.drewN q) d T n F := h
end
end Go.Proofs.YtkfdbibgjoaefaaGreatDoor
/-
  A part at work as it lies in memory: its value, its struct, its table; S: the blocks that are its own.
-/
namespace Go.Proofs.YtkfdbibgjoaefaaGreatDoor
open Go.RowKit

def iv (n : Int) : Value := .int .i64 n
def oddsF (ch co : List Int) : Nat → Value := fun k => .int .i32 (if k % 2 = 0 then ch.getD (k / 2) 0 else co.getD (k / 2) 0)
def intsF (l : List Int) : Nat → Value := fun k => .int .i64 (l.getD k 0)
def natsF (l : List Nat) : Nat → Value := fun k => .int .i64 (l.getD k 0 : Nat)
def bytesF (l : List Nat) : Nat → Value := fun k => .int .u8 (l.getD k 0 : Nat)
def sl (d n : Nat) : Value := .slice (some ⟨d, 0, none⟩) n n
def pt (g : Nat) : Value := .pointer (some ⟨g, 0, none⟩)
def icF (size : Int) (d n : Nat) (ch : List Int) : Nat → Value := fun k => if k = 0 then .int .i64 size else if k = 1 then .int .i64 1 else if k = 2 then sl d n else .int .i64 (ch.getD (k - 3) 0)
def isF (size a : Int) (d n : Nat) (we : List Int) : Nat → Value := fun k => if k = 0 then .int .i64 size else if k = 1 then .int .i64 1 else if k = 2 then sl d n else if k = 515 then .int .i64 a else .int .i64 (we.getD (k - 3) 0)
def maF (size : Int) (dr n ds : Nat) (whole pos len : Nat) : Nat → Value := fun k => if k = 0 then sl dr n else if k = 1 then .int .i64 size else if k = 2 then .int .i64 1 else if k = 3 then sl ds n else if k = 4 then .int .i64 whole else if k = 5 then .int .i64 pos else .int .i64 len
/-- The part u lies at value v. -/
inductive UnAt (w : World) (S : Nat → Prop) (v : Value) (u : Un) (whole : Nat) : Prop
  | cst (k : u.p.kind = 1) (hv : v = .iface 88 (.agg #[.int .i64 u.p.c]))
  | avg (k : u.p.kind = 5) (hv : v = .iface 109 (.agg #[.int .i64 u.p.a, .int .i64 u.p.b, .int .i64 u.p.c]))
  | cm (k : u.p.kind = 2) (g d : Nat) (hv : v = .iface 89 (pt g)) (sg : S g) (sd : S d) (ne : g ≠ d)
      (hg : w.heap[g]? = some (.cells #[.int .i64 u.p.size, .int .i64 1, sl d (pw u.p.size), .int .i64 u.p.limit] 98 (0, 0))) (hd : Ro w d 95 (2 * pw u.p.size) (oddsF u.chance u.count))
  | icm (k : u.p.kind = 3) (g d : Nat) (hv : v = .iface 99 (pt g)) (sg : S g) (sd : S d) (ne : g ≠ d)
      (hg : Ro w g 140 259 (icF u.p.size d (pw u.p.size) u.chance)) (hd : Ro w d 5 (pw u.p.size) (bytesF u.state))
  | mch (k : u.p.kind = 4) (g dr ds : Nat) (hv : v = .iface 101 (pt g)) (sg : S g) (sr : S dr) (ss : S ds) (n1 : g ≠ dr) (n2 : g ≠ ds) (n3 : dr ≠ ds)
      (hg : Ro w g 107 7 (maF u.p.size dr (pw u.p.size) ds whole u.pos u.len)) (hr : Ro w dr 5 (pw u.p.size) (bytesF u.ring)) (hs : Ro w ds 3 (pw u.p.size) (natsF u.number))
  | mix2 (k : u.p.kind = 6) (g d : Nat) (hv : v = .iface 110 (pt g)) (sg : S g) (sd : S d) (ne : g ≠ d)
      (hg : w.heap[g]? = some (.cells #[.int .i64 u.p.size, .int .i64 1, sl d (pw u.p.size), .int .i64 u.p.a, .int .i64 u.p.b, .int .i64 u.p.rate] 112 (0, 0))) (hd : Ro w d 3 (pw u.p.size) (intsF u.weight))
  | mix (k : u.p.kind = 7) (g d : Nat) (hv : v = .iface 113 (pt g)) (sg : S g) (sd : S d) (ne : g ≠ d)
      (hg : w.heap[g]? = some (.cells #[.int .i64 u.p.size, .int .i64 u.p.b, sl d (pw u.p.size * u.p.b.toNat), .int .i64 u.p.a, .int .i64 u.p.rate] 115 (0, 0))) (hd : Ro w d 3 (pw u.p.size * u.p.b.toNat) (intsF u.weight))
  | isse (k : u.p.kind = 8) (g d : Nat) (hv : v = .iface 116 (pt g)) (sg : S g) (sd : S d) (ne : g ≠ d)
      (hg : Ro w g 144 516 (isF u.p.size u.p.a d (pw u.p.size) u.weight)) (hd : Ro w d 5 (pw u.p.size) (bytesF u.state))
  | sse (k : u.p.kind = 9) (g d : Nat) (hv : v = .iface 118 (pt g)) (sg : S g) (sd : S d) (ne : g ≠ d)
      (hg : w.heap[g]? = some (.cells #[.int .i64 u.p.size, .int .i64 32, sl d (pw u.p.size * 32), .int .i64 u.p.a, .int .i64 u.p.limit] 120 (0, 0))) (hd : Ro w d 95 (2 * (pw u.p.size * 32)) (oddsF u.chance u.count))
theorem UnAt.on {w w' : World} {S X : Nat → Prop} {v : Value} {u : Un} {n : Nat} (h : UnAt w S v u n) (b : But X w w') (hn : ∀ i, S i → ¬ X i) : UnAt w' S v u n := by
  cases h with
  | cst k hv => exact .cst k hv
  | avg k hv => exact .avg k hv
  | cm k g d hv sg sd ne hg hd => exact .cm k g d hv sg sd ne (b.heap hg (hn _ sg)) (hd.on b (hn _ sd))
  | icm k g d hv sg sd ne hg hd => exact .icm k g d hv sg sd ne (hg.on b (hn _ sg)) (hd.on b (hn _ sd))
  | mch k g dr ds hv sg sr ss n1 n2 n3 hg hr hs => exact .mch k g dr ds hv sg sr ss n1 n2 n3 (hg.on b (hn _ sg)) (hr.on b (hn _ sr)) (hs.on b (hn _ ss))
  | mix2 k g d hv sg sd ne hg hd => exact .mix2 k g d hv sg sd ne (b.heap hg (hn _ sg)) (hd.on b (hn _ sd))
  | mix k g d hv sg sd ne hg hd => exact .mix k g d hv sg sd ne (b.heap hg (hn _ sg)) (hd.on b (hn _ sd))
  | isse k g d hv sg sd ne hg hd => exact .isse k g d hv sg sd ne (hg.on b (hn _ sg)) (hd.on b (hn _ sd))
  | sse k g d hv sg sd ne hg hd => exact .sse k g d hv sg sd ne (b.heap hg (hn _ sg)) (hd.on b (hn _ sd))
theorem UnAt.mono {w : World} {S S' : Nat → Prop} {v : Value} {u : Un} {n : Nat} (h : UnAt w S v u n) (hs : ∀ i, S i → S' i) : UnAt w S' v u n := by
  cases h with
  | cst k hv => exact .cst k hv
  | avg k hv => exact .avg k hv
  | cm k g d hv sg sd ne hg hd => exact .cm k g d hv (hs _ sg) (hs _ sd) ne hg hd
  | icm k g d hv sg sd ne hg hd => exact .icm k g d hv (hs _ sg) (hs _ sd) ne hg hd
  | mch k g dr ds hv sg sr ss n1 n2 n3 hg hr hs' => exact .mch k g dr ds hv (hs _ sg) (hs _ sr) (hs _ ss) n1 n2 n3 hg hr hs'
  | mix2 k g d hv sg sd ne hg hd => exact .mix2 k g d hv (hs _ sg) (hs _ sd) ne hg hd
  | mix k g d hv sg sd ne hg hd => exact .mix k g d hv (hs _ sg) (hs _ sd) ne hg hd
  | isse k g d hv sg sd ne hg hd => exact .isse k g d hv (hs _ sg) (hs _ sd) ne hg hd
  | sse k g d hv sg sd ne hg hd => exact .sse k g d hv (hs _ sg) (hs _ sd) ne hg hd
theorem UnAt.drewN {w : World} {S : Nat → Prop} {v : Value} {u : Un} {n : Nat} (h : UnAt w S v u n) (q : Nat) : UnAt (w.drewN q) S v u n := h.on ((But.refl (fun _ => False) w).drewN q) (fun _ _ h => h)
theorem UnAt.below {w w' : World} {S : Nat → Prop} {v : Value} {u : Un} {n : Nat} (h : UnAt w S v u n) (b : Below w.heap.size w w') : UnAt w' S v u n := h.on (But.of_below (S := fun _ => False) b) (fun _ _ h => h)
end Go.Proofs.YtkfdbibgjoaefaaGreatDoor
/-
  The contracts of odds: how far they lean, what they learn.
-/
namespace Go.Proofs.YtkfdbibgjoaefaaGreatDoor
open Go.RowKit

theorem but_set1 (w : World) (d o : Nat) (u : Value) : But (· = d) w (w.setCell ⟨d, o, none⟩ u) := (But.refl (· = d) w).set ⟨d, o, none⟩ u (.inl rfl)
theorem but_set2 (w : World) (d o p : Nat) (u v : Value) : But (· = d) w ((w.setCell ⟨d, o, none⟩ u).setCell ⟨d, p, none⟩ v) := (but_set1 w d o u).set ⟨d, p, none⟩ v (.inl rfl)
set_option maxRecDepth 10000 in
set_option maxHeartbeats 1000000 in
theorem odds_lean (d o : Nat) (ch : Int) (w : World) (hk : KnIs w) (hc : w.cell? ⟨d, o, none⟩ = some (.int .i32 ch)) (h0 : 0 ≤ ch) (h1 : ch ≤ 4194303) :
    Calls Tryz.prog 102 #[.pointer (some ⟨d, o, none⟩)] w fun e w' => e = .returned (.int .i64 (stz (ch / 1024))) ∧ Below w.heap.size w w' := by
  go_enter Tryz.func102, Tryz.ntmps102
  go_wp2_with fail
  refine (stretch_any (ch / 1024) _ (by first | exact hk | exact hk.drewN _)).mono ?_
  rintro e w' ⟨rfl, b⟩
  go_wp2_with fail
  go_ret
  exact ⟨rfl, b⟩
set_option maxRecDepth 10000 in
set_option maxHeartbeats 1000000 in
theorem odds_learn (d o i n : Nat) (chance count : List Int) (limit : Int) (one : Bool) (w : World) (hd : Ro w d 95 (2 * n) (oddsF chance count)) (hi : i < n) (ho : o = 2 * i)
    (l1 : chance.length = n) (l2 : count.length = n) (h0 : 0 ≤ chance.getD i 0 ∧ chance.getD i 0 ≤ 4194303) (h1 : 0 ≤ count.getD i 0 ∧ count.getD i 0 ≤ 1023) (hl : 0 ≤ limit ∧ limit ≤ 1023) :
    Calls Tryz.prog 103 #[.pointer (some ⟨d, o, none⟩), .int .i64 (if one then 1 else 0), .int .i64 limit] w fun e w' => e = .returned (.tuple #[]) ∧
      Ro w' d 95 (2 * n) (oddsF (chance.set i (chance.getD i 0 + Int.tdiv ((if one then 4194303 else 0) - chance.getD i 0) (count.getD i 0 + 2))) (count.set i (into (count.getD i 0 + 1) 0 limit))) ∧ But (· = d) w w' := by
  have c0 := hd.cell o (by omega)
  have c1 := hd.cell (o + 1) (by omega)
  have f0 := hd.free o
  have f1 := hd.free (o + 1)
  have e0 : oddsF chance count o = .int .i32 (chance.getD i 0) := by unfold oddsF; rw [if_pos (by omega), show o / 2 = i from by omega]
  have e1 : oddsF chance count (o + 1) = .int .i32 (count.getD i 0) := by unfold oddsF; rw [if_neg (by omega), show (o + 1) / 2 = i from by omega]
  rw [e0] at c0
  rw [e1] at c1
  have hr := step_range (chance.getD i 0) (if one then 4194303 else 0) (count.getD i 0 + 2) 4194303 h0 (by cases one <;> decide) (by omega)
  have hin := into_range (count.getD i 0 + 1) 0 limit hl.1
  have fin : ∀ W' : World, ∀ x y : Int, x = chance.getD i 0 + Int.tdiv ((if one then 4194303 else 0) - chance.getD i 0) (count.getD i 0 + 2) → y = into (count.getD i 0 + 1) 0 limit → Ro W' d 95 (2 * n) (fun k => if k = o + 1 then .int .i32 y else if k = o then .int .i32 x else oddsF chance count k) →
      Ro W' d 95 (2 * n) (oddsF (chance.set i (chance.getD i 0 + Int.tdiv ((if one then 4194303 else 0) - chance.getD i 0) (count.getD i 0 + 2))) (count.set i (into (count.getD i 0 + 1) 0 limit))) := by
    intro W' x y hx hy h
    refine h.same fun k hk => ?_
    rw [← hx, ← hy]
    unfold oddsF
    rw [getD_set _ _ _ _ _ (by omega), getD_set _ _ _ _ _ (by omega)]
    by_cases k1 : k = o + 1
    · rw [if_pos k1, if_neg (by omega), if_pos (by omega)]
    · rw [if_neg k1]
      by_cases k0 : k = o
      · rw [if_pos k0, if_pos (by omega), if_pos (by omega)]
      · rw [if_neg k0]
        by_cases km : k % 2 = 0
        · rw [if_pos km, if_pos km, if_neg (by omega)]
        · rw [if_neg km, if_neg km, if_neg (by omega)]
  have HF := hid fin
  have HD := hid hd
  clear fin hd e0 e1
  generalize chance.getD i 0 = ch at *
  generalize count.getD i 0 = co at *
  clear ho
  have hne : co + 2 ≠ 0 := by omega
  obtain ⟨h01, h02⟩ := h0
  obtain ⟨h11, h12⟩ := h1
  obtain ⟨hl1, hl2⟩ := hl
  cases one
  · simp only [Bool.false_eq_true, if_false] at hr HF ⊢
    obtain ⟨q, hq⟩ : ∃ q, (0 - ch).tdiv (co + 2) = q := ⟨_, rfl⟩
    rw [hq] at hr HF
    have hq2 : (-ch).tdiv (co + 2) = q := by rw [← hq]; congr 1; omega
    obtain ⟨hr1, hr2⟩ := hr
    go_enter Tryz.func103, Tryz.ntmps103
    go_wp2_with fail
    go_region
    go_wp2_with fail
    all_goals
      refine bodyPost_end (results_none rfl _ _ _) rfl ⟨rfl, ?_, ?_⟩
      · refine HF.out _ (ch + q) _ rfl ?_ ((HD.out.set o _).set (o + 1) _)
        unfold into
        rw [if_neg (by omega)]
        first | rw [if_pos (by omega)] | rw [if_neg (by omega)]
      · exact (but_set2 w d o (o + 1) _ _).drew
  · simp only [if_true] at hr HF ⊢
    obtain ⟨q, hq⟩ : ∃ q, (4194303 - ch).tdiv (co + 2) = q := ⟨_, rfl⟩
    rw [hq] at hr HF
    obtain ⟨hr1, hr2⟩ := hr
    go_enter Tryz.func103, Tryz.ntmps103
    go_wp2_with fail
    go_region
    go_wp2_with fail
    all_goals
      refine bodyPost_end (results_none rfl _ _ _) rfl ⟨rfl, ?_, ?_⟩
      · refine HF.out _ (ch + q) _ rfl ?_ ((HD.out.set o _).set (o + 1) _)
        unfold into
        rw [if_neg (by omega)]
        first | rw [if_pos (by omega)] | rw [if_neg (by omega)]
      · exact (but_set2 w d o (o + 1) _ _).drew
end Go.Proofs.YtkfdbibgjoaefaaGreatDoor
/-
  What a part's value answers for each of its methods: whose function it is, and what it is called on.
-/
namespace Go.Proofs.YtkfdbibgjoaefaaGreatDoor
open Go.RowKit

/-- A method of an interface's value: function K, called on R. -/
structure Mth (w : World) (T : TypeId) (x : Value) (name : String) (K : FuncId) (R : Value) : Prop where
  nil : (nilAhead 273 T x name).run Tryz.prog w = .ok (some false) w
  row : (method 273 T x name).run Tryz.prog w = .ok (K, R) w
theorem byte0 (T g : Nat) (w : World) (cs : Array Value) (h : w.heap[g]? = some (.cells cs T (0, 0))) (h0 : Tryz.prog.cellsOf T ≠ 0) (h1 : byteOfCell Tryz.prog Tryz.prog.depth T 0 = some 0) :
    (byteOf ⟨g, 0, none⟩).run Tryz.prog w = .ok 0 w := by
  have hs : w.shape? g = some (T, cs.size) := by unfold World.shape?; rw [h]
  unfold byteOf noView viewAt
  simp [hs, h0, h1]
theorem place0 (T g : Nat) (w : World) (cs : Array Value) (h : w.heap[g]? = some (.cells cs T (0, 0))) (h0 : Tryz.prog.cellsOf T ≠ 0) (h1 : byteOfCell Tryz.prog Tryz.prog.depth T 0 = some 0) :
    (partAt ⟨g, 0, none⟩ 0 0).run Tryz.prog w = .ok ⟨g, 0, none⟩ w := by
  unfold partAt
  simp [byte0 T g w cs h h0 h1]
noncomputable def rowM (P : TypeId) (name : String) := (Tryz.prog.info? P).map fun i => (i.methods.find? (·.name == name)).map fun m => (m.path, m.func)
noncomputable def rowF (T : TypeId) : Option (TypeId × Nat × Nat) := match Tryz.prog.underlying T with
  | some (.struct fields) => (fields[0]?).map fun f => (f.type, f.offset, f.byteOffset)
  | _ => none
theorem rowM_some {P : TypeId} {name : String} {x : Array FieldStep × Option (FuncId × Bool)} (h : rowM P name = some (some x)) : ∃ i m, Tryz.prog.info? P = some i ∧ i.methods.find? (·.name == name) = some m ∧ m.path = x.1 ∧ m.func = x.2 := by
  unfold rowM at h
  generalize Tryz.prog.info? P = o at h ⊢
  cases o with
  | none => simp at h
  | some i =>
    simp at h
    obtain ⟨m, h1, h2⟩ := h
    exact ⟨i, m, rfl, h1, by rw [← h2], by rw [← h2]⟩
theorem rowF_some {T : TypeId} {x : TypeId × Nat × Nat} (h : rowF T = some x) : ∃ fs f, Tryz.prog.underlying T = some (.struct fs) ∧ fs[0]? = some f ∧ f.type = x.1 ∧ f.offset = x.2.1 ∧ f.byteOffset = x.2.2 := by
  unfold rowF at h
  generalize Tryz.prog.underlying T = o at h ⊢
  match o, h with
  | some (.struct fs), h =>
    simp at h
    obtain ⟨f, h1, h2⟩ := h
    exact ⟨fs, f, rfl, h1, by rw [← h2], by rw [← h2], by rw [← h2]⟩
/-- A method that an empty first field has. -/
theorem promo (P T E g : TypeId) (name : String) (K : FuncId) (w : World) (cs : Array Value) (h : w.heap[g]? = some (.cells cs T (0, 0)))
    (hM : rowM P name = some (some (#[⟨T, 0, true⟩], some (K, false)))) (hF : rowF T = some (E, 0, 0)) (hE : ∀ w, (sizeOf E).run Tryz.prog w = .ok 0 w) (h0 : Tryz.prog.cellsOf T ≠ 0) (h1 : byteOfCell Tryz.prog Tryz.prog.depth T 0 = some 0)
    (hR : ∀ a w, (receiverAt E (.var a) false none).run Tryz.prog w = .ok (.agg #[]) w) :
    (method 273 P (.pointer (some ⟨g, 0, none⟩)) name).run Tryz.prog w = .ok (K, .agg #[]) w := by
  obtain ⟨i, m, e1, e2, e3, e4⟩ := rowM_some hM
  obtain ⟨fs, f, e5, e6, e7, e8, e9⟩ := rowF_some hF
  simp only at e3 e4 e7 e8 e9
  unfold method
  simp [typeInfo, e1, e2, e3, e4, follow, underlying, e5, e6, Place.get, asAddr, fieldPlace, e7, e8, e9, hE, place0 T g w cs h h0 h1, hR]

theorem m_cm_lean (g : Nat) (w : World) : Mth w 89 (pt g) "quillpress/blend.lean" 99 (pt g) := ⟨by kernel_rfl, by kernel_rfl⟩
theorem m_cm_learn (g : Nat) (w : World) : Mth w 89 (pt g) "quillpress/blend.learn" 100 (pt g) := ⟨by kernel_rfl, by kernel_rfl⟩
theorem m_cm_begin (g : Nat) (w : World) (cs : Array Value) (h : w.heap[g]? = some (.cells cs 98 (0, 0))) : Mth w 89 (pt g) "quillpress/blend.begin" 95 (.agg #[]) :=
  ⟨by kernel_rfl, promo 89 98 85 g "quillpress/blend.begin" 95 w cs h (by kernel_rfl) (by kernel_rfl) (fun _ => by kernel_rfl) (by decide +kernel) (by kernel_rfl) (fun _ _ => by kernel_rfl)⟩
theorem m_cm_end (g : Nat) (w : World) (cs : Array Value) (h : w.heap[g]? = some (.cells cs 98 (0, 0))) : Mth w 89 (pt g) "quillpress/blend.end" 96 (.agg #[]) :=
  ⟨by kernel_rfl, promo 89 98 85 g "quillpress/blend.end" 96 w cs h (by kernel_rfl) (by kernel_rfl) (fun _ => by kernel_rfl) (by decide +kernel) (by kernel_rfl) (fun _ _ => by kernel_rfl)⟩
theorem m_icm_lean (g : Nat) (w : World) : Mth w 99 (pt g) "quillpress/blend.lean" 104 (pt g) := ⟨by kernel_rfl, by kernel_rfl⟩
theorem m_icm_learn (g : Nat) (w : World) : Mth w 99 (pt g) "quillpress/blend.learn" 105 (pt g) := ⟨by kernel_rfl, by kernel_rfl⟩
theorem m_icm_begin (g : Nat) (w : World) (cs : Array Value) (h : w.heap[g]? = some (.cells cs 140 (0, 0))) : Mth w 99 (pt g) "quillpress/blend.begin" 95 (.agg #[]) :=
  ⟨by kernel_rfl, promo 99 140 85 g "quillpress/blend.begin" 95 w cs h (by kernel_rfl) (by kernel_rfl) (fun _ => by kernel_rfl) (by decide +kernel) (by kernel_rfl) (fun _ _ => by kernel_rfl)⟩
theorem m_icm_end (g : Nat) (w : World) (cs : Array Value) (h : w.heap[g]? = some (.cells cs 140 (0, 0))) : Mth w 99 (pt g) "quillpress/blend.end" 96 (.agg #[]) :=
  ⟨by kernel_rfl, promo 99 140 85 g "quillpress/blend.end" 96 w cs h (by kernel_rfl) (by kernel_rfl) (fun _ => by kernel_rfl) (by decide +kernel) (by kernel_rfl) (fun _ _ => by kernel_rfl)⟩
theorem m_mix2_lean (g : Nat) (w : World) : Mth w 110 (pt g) "quillpress/blend.lean" 117 (pt g) := ⟨by kernel_rfl, by kernel_rfl⟩
theorem m_mix2_learn (g : Nat) (w : World) : Mth w 110 (pt g) "quillpress/blend.learn" 118 (pt g) := ⟨by kernel_rfl, by kernel_rfl⟩
theorem m_mix2_begin (g : Nat) (w : World) (cs : Array Value) (h : w.heap[g]? = some (.cells cs 112 (0, 0))) : Mth w 110 (pt g) "quillpress/blend.begin" 95 (.agg #[]) :=
  ⟨by kernel_rfl, promo 110 112 85 g "quillpress/blend.begin" 95 w cs h (by kernel_rfl) (by kernel_rfl) (fun _ => by kernel_rfl) (by decide +kernel) (by kernel_rfl) (fun _ _ => by kernel_rfl)⟩
theorem m_mix2_end (g : Nat) (w : World) (cs : Array Value) (h : w.heap[g]? = some (.cells cs 112 (0, 0))) : Mth w 110 (pt g) "quillpress/blend.end" 96 (.agg #[]) :=
  ⟨by kernel_rfl, promo 110 112 85 g "quillpress/blend.end" 96 w cs h (by kernel_rfl) (by kernel_rfl) (fun _ => by kernel_rfl) (by decide +kernel) (by kernel_rfl) (fun _ _ => by kernel_rfl)⟩
theorem m_mix_lean (g : Nat) (w : World) : Mth w 113 (pt g) "quillpress/blend.lean" 120 (pt g) := ⟨by kernel_rfl, by kernel_rfl⟩
theorem m_mix_learn (g : Nat) (w : World) : Mth w 113 (pt g) "quillpress/blend.learn" 121 (pt g) := ⟨by kernel_rfl, by kernel_rfl⟩
theorem m_mix_begin (g : Nat) (w : World) (cs : Array Value) (h : w.heap[g]? = some (.cells cs 115 (0, 0))) : Mth w 113 (pt g) "quillpress/blend.begin" 95 (.agg #[]) :=
  ⟨by kernel_rfl, promo 113 115 85 g "quillpress/blend.begin" 95 w cs h (by kernel_rfl) (by kernel_rfl) (fun _ => by kernel_rfl) (by decide +kernel) (by kernel_rfl) (fun _ _ => by kernel_rfl)⟩
theorem m_mix_end (g : Nat) (w : World) (cs : Array Value) (h : w.heap[g]? = some (.cells cs 115 (0, 0))) : Mth w 113 (pt g) "quillpress/blend.end" 96 (.agg #[]) :=
  ⟨by kernel_rfl, promo 113 115 85 g "quillpress/blend.end" 96 w cs h (by kernel_rfl) (by kernel_rfl) (fun _ => by kernel_rfl) (by decide +kernel) (by kernel_rfl) (fun _ _ => by kernel_rfl)⟩
theorem m_isse_lean (g : Nat) (w : World) : Mth w 116 (pt g) "quillpress/blend.lean" 123 (pt g) := ⟨by kernel_rfl, by kernel_rfl⟩
theorem m_isse_learn (g : Nat) (w : World) : Mth w 116 (pt g) "quillpress/blend.learn" 124 (pt g) := ⟨by kernel_rfl, by kernel_rfl⟩
theorem m_isse_begin (g : Nat) (w : World) (cs : Array Value) (h : w.heap[g]? = some (.cells cs 144 (0, 0))) : Mth w 116 (pt g) "quillpress/blend.begin" 95 (.agg #[]) :=
  ⟨by kernel_rfl, promo 116 144 85 g "quillpress/blend.begin" 95 w cs h (by kernel_rfl) (by kernel_rfl) (fun _ => by kernel_rfl) (by decide +kernel) (by kernel_rfl) (fun _ _ => by kernel_rfl)⟩
theorem m_isse_end (g : Nat) (w : World) (cs : Array Value) (h : w.heap[g]? = some (.cells cs 144 (0, 0))) : Mth w 116 (pt g) "quillpress/blend.end" 96 (.agg #[]) :=
  ⟨by kernel_rfl, promo 116 144 85 g "quillpress/blend.end" 96 w cs h (by kernel_rfl) (by kernel_rfl) (fun _ => by kernel_rfl) (by decide +kernel) (by kernel_rfl) (fun _ _ => by kernel_rfl)⟩
theorem m_sse_lean (g : Nat) (w : World) : Mth w 118 (pt g) "quillpress/blend.lean" 125 (pt g) := ⟨by kernel_rfl, by kernel_rfl⟩
theorem m_sse_learn (g : Nat) (w : World) : Mth w 118 (pt g) "quillpress/blend.learn" 126 (pt g) := ⟨by kernel_rfl, by kernel_rfl⟩
theorem m_sse_begin (g : Nat) (w : World) (cs : Array Value) (h : w.heap[g]? = some (.cells cs 120 (0, 0))) : Mth w 118 (pt g) "quillpress/blend.begin" 95 (.agg #[]) :=
  ⟨by kernel_rfl, promo 118 120 85 g "quillpress/blend.begin" 95 w cs h (by kernel_rfl) (by kernel_rfl) (fun _ => by kernel_rfl) (by decide +kernel) (by kernel_rfl) (fun _ _ => by kernel_rfl)⟩
theorem m_sse_end (g : Nat) (w : World) (cs : Array Value) (h : w.heap[g]? = some (.cells cs 120 (0, 0))) : Mth w 118 (pt g) "quillpress/blend.end" 96 (.agg #[]) :=
  ⟨by kernel_rfl, promo 118 120 85 g "quillpress/blend.end" 96 w cs h (by kernel_rfl) (by kernel_rfl) (fun _ => by kernel_rfl) (by decide +kernel) (by kernel_rfl) (fun _ _ => by kernel_rfl)⟩
theorem m_mch_lean (g : Nat) (w : World) : Mth w 101 (pt g) "quillpress/blend.lean" 112 (pt g) := ⟨by kernel_rfl, by kernel_rfl⟩
theorem m_mch_begin (g : Nat) (w : World) : Mth w 101 (pt g) "quillpress/blend.begin" 110 (pt g) := ⟨by kernel_rfl, by kernel_rfl⟩
theorem m_mch_end (g : Nat) (w : World) : Mth w 101 (pt g) "quillpress/blend.end" 111 (pt g) := ⟨by kernel_rfl, by kernel_rfl⟩
theorem m_mch_learn (g : Nat) (w : World) (cs : Array Value) (h : w.heap[g]? = some (.cells cs 107 (0, 0))) : Mth w 101 (pt g) "quillpress/blend.learn" 97 (.agg #[]) :=
  ⟨by kernel_rfl, promo 101 107 86 g "quillpress/blend.learn" 97 w cs h (by kernel_rfl) (by kernel_rfl) (fun _ => by kernel_rfl) (by decide +kernel) (by kernel_rfl) (fun _ _ => by kernel_rfl)⟩
theorem m_cst_lean (c : Int) (w : World) : Mth w 88 (.agg #[.int .i64 c]) "quillpress/blend.lean" 98 (.agg #[.int .i64 c]) := ⟨by kernel_rfl, by kernel_rfl⟩
theorem m_cst_learn (c : Int) (w : World) : Mth w 88 (.agg #[.int .i64 c]) "quillpress/blend.learn" 97 (.agg #[]) := ⟨by kernel_rfl, by kernel_rfl⟩
theorem m_cst_begin (c : Int) (w : World) : Mth w 88 (.agg #[.int .i64 c]) "quillpress/blend.begin" 95 (.agg #[]) := ⟨by kernel_rfl, by kernel_rfl⟩
theorem m_cst_end (c : Int) (w : World) : Mth w 88 (.agg #[.int .i64 c]) "quillpress/blend.end" 96 (.agg #[]) := ⟨by kernel_rfl, by kernel_rfl⟩
theorem m_avg_lean (a b c : Int) (w : World) : Mth w 109 (.agg #[.int .i64 a, .int .i64 b, .int .i64 c]) "quillpress/blend.lean" 116 (.agg #[.int .i64 a, .int .i64 b, .int .i64 c]) := ⟨by kernel_rfl, by kernel_rfl⟩
theorem m_avg_learn (a b c : Int) (w : World) : Mth w 109 (.agg #[.int .i64 a, .int .i64 b, .int .i64 c]) "quillpress/blend.learn" 97 (.agg #[]) := ⟨by kernel_rfl, by kernel_rfl⟩
theorem m_avg_begin (a b c : Int) (w : World) : Mth w 109 (.agg #[.int .i64 a, .int .i64 b, .int .i64 c]) "quillpress/blend.begin" 95 (.agg #[]) := ⟨by kernel_rfl, by kernel_rfl⟩
theorem m_avg_end (a b c : Int) (w : World) : Mth w 109 (.agg #[.int .i64 a, .int .i64 b, .int .i64 c]) "quillpress/blend.end" 96 (.agg #[]) := ⟨by kernel_rfl, by kernel_rfl⟩
end Go.Proofs.YtkfdbibgjoaefaaGreatDoor
/-
  A blend's own struct and lists in memory; what all walks of a part's functions share.
-/
namespace Go.Proofs.YtkfdbibgjoaefaaGreatDoor
open Go.RowKit

/-- What a part sees. -/
def mo (h c le n : Nat) : Value := .agg #[.int .u32 h, .int .u32 c, sl le n]
theorem undrew {B : Nat} {w w' : World} (h : Below B w.drew w') : Below B w w' := ⟨h.os, h.tape, h.output, h.size, h.block⟩
theorem unbut {S : Nat → Prop} {w w' : World} (h : But S w.drew w') : But S w w' := ⟨h.os, h.tape, h.output, h.size, h.block⟩
theorem bel2 {w W w1 : World} (b0 : Below w.heap.size w W) (b1 : Below W.heap.size W w1) : Below w.heap.size w w1 := b0.trans (b1.mono b0.size)
theorem bel3 {w W w1 w2 : World} (b0 : Below w.heap.size w W) (b1 : Below W.heap.size W w1) (b2 : Below w1.heap.size w1 w2) : Below w.heap.size w w2 := (b0.trans (b1.mono b0.size)).trans (b2.mono (Nat.le_trans b0.size b1.size))
theorem knk {w w' : World} (b : Below w.heap.size w w') (h : KnIs w) : KnIs w' := h.below b
theorem rok {w w' : World} {d : Nat} {T : TypeId} {n : Nat} {F : Nat → Value} (b : Below w.heap.size w w') (h : Ro w d T n F) : Ro w' d T n F := h.below b
def u32F (h : List Nat) : Nat → Value := fun k => .int .u32 (h.getD k 0 : Nat)
/-- A blend's struct: block g; its parts from pa on, its contexts in ct, its leans in le. -/
structure Bx (w : World) (g pa ct le n cap c : Nat) (v : Nat → Value) (h : List Nat) (L : List Int) : Prop where
  row : w.heap[g]? = some (.cells #[pt g, .slice (some ⟨pa, 0, none⟩) n cap, sl ct n, sl le n, .int .u32 (c : Nat)] 59 (0, 0))
  part : ∀ i, i < n → w.cell? ⟨pa, i, none⟩ = some (v i)
  ctx : Ro w ct 56 n (u32F h)
  lea : Ro w le 3 n (intsF L)
  lenL : L.length = n
  lenH : h.length = n
  one : 1 ≤ n
  most : n ≤ 16
  ne : g ≠ pa ∧ g ≠ ct ∧ g ≠ le ∧ pa ≠ ct ∧ pa ≠ le ∧ ct ≠ le ∧ g ≠ 0 ∧ pa ≠ 0 ∧ ct ≠ 0 ∧ le ≠ 0
section
variable {w w' : World} {g pa ct le n cap c : Nat} {v : Nat → Value} {h : List Nat} {L : List Int} {S : Nat → Prop}
theorem Bx.but (b : Bx w g pa ct le n cap c v h L) (x : But S w w') (h1 : ¬ S g) (h2 : ¬ S pa) (h3 : ¬ S ct) (h4 : ¬ S le) : Bx w' g pa ct le n cap c v h L :=
  ⟨x.heap b.row h1, fun i hi => x.cell (b.part i hi) h2, b.ctx.on x h3, b.lea.on x h4, b.lenL, b.lenH, b.one, b.most, b.ne⟩
theorem Bx.below (b : Bx w g pa ct le n cap c v h L) (x : Below w.heap.size w w') : Bx w' g pa ct le n cap c v h L := b.but (But.of_below (S := fun _ => False) x) id id id id
theorem Bx.drew (b : Bx w g pa ct le n cap c v h L) : Bx w.drew g pa ct le n cap c v h L := b.but ((But.refl (fun _ => False) w).drew) id id id id
theorem Bx.c0 (b : Bx w g pa ct le n cap c v h L) : w.cell? ⟨g, 0, none⟩ = some (.pointer (some ⟨g, 0, none⟩)) := row_cell b.row 0
theorem Bx.c1 (b : Bx w g pa ct le n cap c v h L) : w.cell? ⟨g, 1, none⟩ = some (.slice (some ⟨pa, 0, none⟩) n cap) := row_cell b.row 1
theorem Bx.c2 (b : Bx w g pa ct le n cap c v h L) : w.cell? ⟨g, 2, none⟩ = some (.slice (some ⟨ct, 0, none⟩) n n) := row_cell b.row 2
theorem Bx.c3 (b : Bx w g pa ct le n cap c v h L) : w.cell? ⟨g, 3, none⟩ = some (.slice (some ⟨le, 0, none⟩) n n) := row_cell b.row 3
theorem Bx.c4 (b : Bx w g pa ct le n cap c v h L) : w.cell? ⟨g, 4, none⟩ = some (.int .u32 (c : Nat)) := row_cell b.row 4
theorem Bx.setC (b : Bx w g pa ct le n cap c v h L) (c' : Nat) : Bx (w.setCell ⟨g, 4, none⟩ (.int .u32 (c' : Nat))) g pa ct le n cap c' v h L := by
  have x : But (· = g) w (w.setCell ⟨g, 4, none⟩ (.int .u32 (c' : Nat))) := (But.refl (· = g) w).set ⟨g, 4, none⟩ _ (.inl rfl)
  obtain ⟨n1, n2, n3, _⟩ := b.ne
  exact ⟨row_set b.row 4 _, fun i hi => x.cell (b.part i hi) (Ne.symm n1), b.ctx.on x (Ne.symm n2), b.lea.on x (Ne.symm n3), b.lenL, b.lenH, b.one, b.most, b.ne⟩
theorem Bx.setL (b : Bx w g pa ct le n cap c v h L) {L' : List Int} (x : But (· = le) w w') (r : Ro w' le 3 n (intsF L')) (hl : L'.length = n) : Bx w' g pa ct le n cap c v h L' := by
  obtain ⟨n1, n2, n3, n4, n5, n6, _⟩ := b.ne
  exact ⟨x.heap b.row n3, fun i hi => x.cell (b.part i hi) n5, b.ctx.on x n6, r, hl, b.lenH, b.one, b.most, b.ne⟩
end
theorem Tryz.isPtr23 : Tryz.prog.underlying 27 = some (.pointer 59) := by kernel_rfl
theorem Tryz.has28 : (Tryz.prog.info? 59).isSome = true := by kernel_rfl
theorem ptr_self (a : Addr) (w : World) : (binOp BinOp.eql 27 (.pointer (some a)) (.pointer (some a))).run Tryz.prog w = .ok (.bool true) w := by
  obtain ⟨j, hj⟩ := Option.isSome_iff_exists.1 Tryz.has28
  exact run_eql_ptr_same w a Tryz.isPtr23 hj
theorem ptr_none (a : Addr) (w : World) : (binOp BinOp.eql 27 (.pointer none) (.pointer (some a))).run Tryz.prog w = .ok (.bool false) w := by kernel_rfl
set_option maxRecDepth 10000 in
set_option maxHeartbeats 1000000 in
theorem made_yes (g : Nat) (w : World) (c0 : w.cell? ⟨g, 0, none⟩ = some (.pointer (some ⟨g, 0, none⟩))) : Calls Tryz.prog 30 #[.pointer (some ⟨g, 0, none⟩)] w fun r w' => r = .returned (.bool true) ∧ w = w' := by
  have hp := ptr_self ⟨g, 0, none⟩
  go_enter Tryz.func30, Tryz.ntmps30
  go_wp2_with fail
  go_ret
  exact ⟨rfl, rfl⟩
set_option maxRecDepth 10000 in
set_option maxHeartbeats 1000000 in
theorem made_nil (w : World) : Calls Tryz.prog 30 #[.pointer none] w fun r w' => r = .returned (.bool false) ∧ w = w' := by
  go_enter Tryz.func30, Tryz.ntmps30
  go_wp2_with fail
  go_ret
  exact ⟨rfl, rfl⟩
set_option maxRecDepth 10000 in
set_option maxHeartbeats 1000000 in
theorem made_zero (g : Nat) (w : World) (c0 : w.cell? ⟨g, 0, none⟩ = some (.pointer none)) : Calls Tryz.prog 30 #[.pointer (some ⟨g, 0, none⟩)] w fun r w' => r = .returned (.bool false) ∧ w = w' := by
  have hp := ptr_none ⟨g, 0, none⟩
  go_enter Tryz.func30, Tryz.ntmps30
  go_wp2_with fail
  go_ret
  exact ⟨rfl, rfl⟩
set_option maxRecDepth 10000 in
set_option maxHeartbeats 1000000 in
theorem moment_any {w : World} {g pa ct le n cap c : Nat} {v : Nat → Value} {h : List Nat} {L : List Int} (b : Bx w g pa ct le n cap c v h L) (i : Nat) (hi : i < n) :
    Calls Tryz.prog 33 #[pt g, .int .i64 (i : Nat)] w fun e w' => e = .returned (mo (h.getD i 0) c le n) ∧ Below w.heap.size w w' := by
  have c2 : ∀ o, (w.alloc o).cell? ⟨g, 2, none⟩ = some (.slice (some ⟨ct, 0, none⟩) n n) := fun o => keeps ((Below.refl _ _).alloc (Nat.le_refl _) o) b.c2
  have c3 : ∀ o, (w.alloc o).cell? ⟨g, 3, none⟩ = some (.slice (some ⟨le, 0, none⟩) n n) := fun o => keeps ((Below.refl _ _).alloc (Nat.le_refl _) o) b.c3
  have c4 : ∀ o, (w.alloc o).cell? ⟨g, 4, none⟩ = some (.int .u32 (c : Nat)) := fun o => keeps ((Below.refl _ _).alloc (Nat.le_refl _) o) b.c4
  have x0 : ∀ o, (w.alloc o).cell? ⟨ct, i, none⟩ = some (.int .u32 (h.getD i 0 : Nat)) := fun o => keeps ((Below.refl _ _).alloc (Nat.le_refl _) o) (b.ctx.cell i hi)
  have i0 : (i : Int) < (n : Int) := by omega
  have n16 := b.most
  have n0 : (n : Int) ≤ 16 := by omega
  generalize h.getD i 0 = hh at *
  unfold mo pt sl
  clear b
  go_enter Tryz.func33, Tryz.ntmps33
  go_wp2_with fail
  go_region
  go_wp2_with fail
  refine bodyPost_ret (results_cell_row (by kernel_rfl : Tryz.f33.results = #[.cell 4 72]) _ _ w.heap.size 72 #[.int .u32 hh, .int .u32 c, .slice (some ⟨le, 0, none⟩) n n] (0, 0) _ rfl ?_ Tryz.underlying72 rfl rfl) rfl ⟨rfl, ?_⟩
  · exact heap_alloc_new w _
  · have := (Below.refl w.heap.size w).alloc (Nat.le_refl _) (.cells #[.int .u32 hh, .int .u32 c, .slice (some ⟨le, 0, none⟩) n n] 72)
    exact ⟨this.os, this.tape, this.output, this.size, this.block⟩
end Go.Proofs.YtkfdbibgjoaefaaGreatDoor
/-
  What a right part's numbers are, kind by kind.
-/
namespace Go.Proofs.YtkfdbibgjoaefaaGreatDoor

theorem size_of {p : Pt} (h : 0 < p.places) : leastP p.kind ≤ p.size ∧ p.size ≤ mostP p.kind := by
  unfold Pt.places at h
  by_cases e : leastP p.kind ≤ p.size ∧ p.size ≤ mostP p.kind
  · exact e
  · rw [if_neg e] at h; omega
theorem one_cst {p : Pt} {i : Int} (h : p.one i) (k : p.kind = 1) : -2047 ≤ p.c ∧ p.c ≤ 2047 := by
  have h := h.2; unfold Pt.fit at h; rw [if_pos k] at h; exact h
theorem one_cm {p : Pt} {i : Int} (h : p.one i) (k : p.kind = 2) : 0 ≤ p.size ∧ p.size ≤ 16 ∧ 1 ≤ p.limit ∧ p.limit ≤ 1023 := by
  have h := h.2; unfold Pt.fit at h; rw [if_neg (by omega), if_pos k] at h
  have := size_of h.1
  rw [k] at this
  exact ⟨this.1, this.2, h.2⟩
theorem one_icm {p : Pt} {i : Int} (h : p.one i) (k : p.kind = 3) : 0 ≤ p.size ∧ p.size ≤ 16 := by
  have h := h.2; unfold Pt.fit at h; rw [if_neg (by omega), if_neg (by omega), if_pos (by omega)] at h
  have := size_of h
  rw [k] at this
  exact this
theorem one_mch {p : Pt} {i : Int} (h : p.one i) (k : p.kind = 4) : 4 ≤ p.size ∧ p.size ≤ 16 := by
  have h := h.2; unfold Pt.fit at h; rw [if_neg (by omega), if_neg (by omega), if_pos (by omega)] at h
  have := size_of h
  rw [k] at this
  exact this
theorem one_avg {p : Pt} {i : Int} (h : p.one i) (k : p.kind = 5) : (0 ≤ p.a ∧ p.a < i) ∧ (0 ≤ p.b ∧ p.b < i) ∧ 0 ≤ p.c ∧ p.c ≤ 256 := by
  have h := h.2; unfold Pt.fit inn at h; rw [if_neg (by omega), if_neg (by omega), if_neg (by omega), if_pos k] at h
  omega
theorem one_mix2 {p : Pt} {i : Int} (h : p.one i) (k : p.kind = 6) : (0 ≤ p.size ∧ p.size ≤ 16) ∧ (0 ≤ p.a ∧ p.a < i) ∧ (0 ≤ p.b ∧ p.b < i) ∧ 1 ≤ p.rate ∧ p.rate ≤ 64 := by
  have h := h.2; unfold Pt.fit inn at h; rw [if_neg (by omega), if_neg (by omega), if_neg (by omega), if_neg (by omega), if_pos k] at h
  have := size_of h.1
  rw [k] at this
  exact ⟨this, by omega, by omega, h.2.2.2⟩
theorem one_mix {p : Pt} {i : Int} (h : p.one i) (k : p.kind = 7) : (0 ≤ p.size ∧ p.size ≤ 12) ∧ (1 ≤ p.b ∧ p.b ≤ 8) ∧ 0 ≤ p.a ∧ p.a + p.b ≤ i ∧ 1 ≤ p.rate ∧ p.rate ≤ 64 := by
  have h := h.2; unfold Pt.fit inn at h; rw [if_neg (by omega), if_neg (by omega), if_neg (by omega), if_neg (by omega), if_neg (by omega), if_pos k] at h
  have hs := size_of h.1
  have hb : 1 ≤ p.b ∧ p.b ≤ 8 := by
    have h0 := h.1
    unfold Pt.places at h0
    rw [if_pos hs, if_neg (by omega), if_neg (by omega), if_pos k] at h0
    by_cases e : 1 ≤ p.b ∧ p.b ≤ 8
    · exact e
    · rw [if_neg e] at h0; omega
  rw [k] at hs
  exact ⟨hs, hb, h.2.1.1, h.2.2⟩
theorem one_isse {p : Pt} {i : Int} (h : p.one i) (k : p.kind = 8) : (0 ≤ p.size ∧ p.size ≤ 16) ∧ 0 ≤ p.a ∧ p.a < i := by
  have h := h.2; unfold Pt.fit inn at h; rw [if_neg (by omega), if_neg (by omega), if_neg (by omega), if_neg (by omega), if_neg (by omega), if_neg (by omega), if_pos k] at h
  have := size_of h.1
  rw [k] at this
  exact ⟨this, by omega⟩
theorem one_sse {p : Pt} {i : Int} (h : p.one i) (k : p.kind = 9) : (0 ≤ p.size ∧ p.size ≤ 10) ∧ (0 ≤ p.a ∧ p.a < i) ∧ 1 ≤ p.limit ∧ p.limit ≤ 1023 := by
  have h := h.2; unfold Pt.fit inn at h; rw [if_neg (by omega), if_neg (by omega), if_neg (by omega), if_neg (by omega), if_neg (by omega), if_neg (by omega), if_neg (by omega), if_pos k] at h
  have := size_of h.1
  rw [k] at this
  exact ⟨this, by omega, h.2.2⟩
theorem one_kinds {p : Pt} {i : Int} (h : p.one i) : 1 ≤ p.kind ∧ p.kind ≤ 9 := by
  have h := h.2; unfold Pt.fit at h
  by_cases e : 1 ≤ p.kind ∧ p.kind ≤ 9
  · exact e
  · rw [if_neg (by omega), if_neg (by omega), if_neg (by omega), if_neg (by omega), if_neg (by omega), if_neg (by omega), if_neg (by omega), if_neg (by omega)] at h
    exact h.elim
end Go.Proofs.YtkfdbibgjoaefaaGreatDoor
/-
  ask: all parts lean, in order.
-/
namespace Go.Proofs.YtkfdbibgjoaefaaGreatDoor
open Go.RowKit

set_option maxRecDepth 10000 in
set_option maxHeartbeats 1000000 in
theorem ask_any {w : World} {g pa ct le n cap c : Nat} {v : Nat → Value} {h : List Nat} {L : List Int} (b : Bx w g pa ct le n cap c v h L) (T : Nat → TypeId) (x : Nat → Value) (K : Nat → FuncId) (R : Nat → Value)
    (hv : ∀ i, i < n → v i = .iface (T i) (x i)) (he : ∀ i, i < n → ∀ a w, (callFunc (K i) a).run Tryz.prog w = .ok (.enter (K i) a) w) (M : Nat → List Int) (hm0 : M 0 = L)
    (hm : ∀ i, i < n → ∀ w', Mth w' (T i) (x i) "quillpress/blend.lean" (K i) (R i))
    (hc : ∀ i, i < n → ∀ w', But (· = le) w w' → Ro w' le 3 n (intsF (M i)) → Calls Tryz.prog (K i) #[R i, mo (h.getD i 0) c le n] w' fun e w'' => e = .returned (.int .i64 ((M (i + 1)).getD i 0)) ∧ Below w'.heap.size w' w'')
    (hM : ∀ i, i < n → (M (i + 1)).length = n ∧ ∀ j, j < n → (M (i + 1)).getD j 0 = if j = i then (M (i + 1)).getD i 0 else (M i).getD j 0) :
    Calls Tryz.prog 27 #[pt g] w fun e w' => e = .returned (.tuple #[]) ∧ But (· = le) w w' ∧ Ro w' le 3 n (intsF (M n)) := by
  have c1 := b.c1
  have n1 : ¬ g = le := b.ne.2.2.1
  have n2 : ¬ le = g := Ne.symm n1
  have nmost := b.most
  unfold pt
  go_enter Tryz.func27, Tryz.ntmps27
  go_wp2_with fail
  go_loopw [9] (fun vi wr => ∃ i : Nat, i ≤ n ∧ vi = .int .i64 i ∧ But (· = le) w wr ∧ Ro wr le 3 n (intsF (M i))) (fun vi _ => n - (intOf vi).toNat)
  case atStart => exact ⟨0, Nat.zero_le _, rfl, But.refl _ _, by rw [hm0]; exact b.lea⟩
  case round =>
    obtain ⟨i, hi, rfl, hw, hr⟩ := hrel
    by_cases hgo : i < n
    · have hz : (i : Int) < (n : Int) := by omega
      have hl := hM i hgo
      have b' : Bx wr g pa ct le n cap c v h (M i) := by
        refine b.setL hw hr ?_
        rcases Nat.eq_zero_or_pos i with rfl | h0
        · rw [hm0]; exact b.lenL
        · obtain ⟨k, rfl⟩ : ∃ k, i = k + 1 := ⟨i - 1, by omega⟩
          exact (hM k (by omega)).1
      have pc : wr.cell? ⟨pa, i, none⟩ = some (.iface (T i) (x i)) := by rw [b'.part i hgo, hv i hgo]
      have HM := hid (fun w' (k : Below wr.heap.size wr w') => moment_any (b'.below k) i hgo)
      have HC := hid (fun w' k1 k2 => hc i hgo w' k1 k2)
      have nn : ∀ w', _ := fun w' => (hm i hgo w').nil
      have mm : ∀ w', _ := fun w' => (hm i hgo w').row
      have ee := he i hgo
      have g3 := b'.c3
      have HR := hid hr
      have HL := hid hl.2
      clear b' hc hm he hr hl hM
      generalize T i = t at *
      generalize x i = y at *
      generalize K i = f at *
      generalize R i = r at *
      generalize h.getD i 0 = hh at *
      unfold pt at *
      unfold mo sl at *
      go_wp2_with fail
      go_region_held3 (fun w' => w'.cell? ⟨g, 3, none⟩ = some (.slice (some ⟨le, 0, none⟩) n n))
        (first | exact g3 | exact k3 | go_keep)
        (first
        | (go_at_call 33; go_must ((refine (HM.out _ (Below.drewN _ _ 1)).mono ?_); rintro r w1 ⟨rfl, b1⟩; have k3 := keeps b1 g3; have q1 := hw.trans (But.of_below (undrew b1)); have Q1 := hid q1; have R1 := hid (rok (undrew b1) HR.out)))
        | (((refine (HC.out _ Q1.out R1.out).mono ?_); rintro r w2 ⟨rfl, b2⟩; have k3 := keeps b2 k3; have Q2 := hid (Q1.out.trans (But.of_below b2)); have R2 := hid (R1.out.below b2); have f2 := R2.out.free i; have cc2 := R2.out.cell i hgo)))
      all_goals
        go_wp2_with fail
        go_roundw
        case rel => exact ⟨i + 1, by omega, by go_num, (Q2.out.set ⟨le, i, none⟩ _ (.inl rfl)), (R2.out.set i _).same fun j hj => by
          unfold intsF
          rw [HL.out j hj]
          split <;> rfl⟩
        case measure => simp [intOf]; omega
    · obtain rfl : i = n := by omega
      clear hc hm he hM
      go_wp2_with fail
      refine bodyPost_end (results_none rfl _ _ _) rfl ⟨rfl, hw, hr⟩
end Go.Proofs.YtkfdbibgjoaefaaGreatDoor
/-
  How many bits a number below 512 has; Bits.
-/
namespace Go.Proofs.YtkfdbibgjoaefaaGreatDoor
open Go.RowKit

theorem tab8 : ∀ j : Fin 256, (Lib.len8tab[j.val]'(by rw [Lib.len8tab_size]; exact j.isLt)).toNat = Lib.bitLen j.val := by decide +kernel
theorem tab8_at (c : Nat) (h : c < Lib.len8tab.size) : (Lib.len8tab[c]'h).toNat = Lib.bitLen c := tab8 ⟨c, by rw [Lib.len8tab_size] at h; exact h⟩
theorem bl_le : ∀ c : Fin 512, Lib.bitLen c.val ≤ 9 ∧ (256 ≤ c.val → Lib.bitLen c.val = 9) := by decide +kernel
theorem bl_at : ∀ b : Fin 9, ∀ c : Fin 512, 2 ^ b.val ≤ c.val → c.val < 2 ^ (b.val + 1) → Lib.bitLen c.val = b.val + 1 := by decide +kernel
theorem w64_small : ∀ j : Fin 10, wrap64 (wrap64 ((j.val : Nat) : Int)) = (j.val : Nat) := by decide +kernel
theorem w64_at (k : Nat) (h : k ≤ 9) : wrap64 (wrap64 (k : Int)) = (k : Int) := w64_small ⟨k, by omega⟩
set_option maxRecDepth 1000000 in
set_option maxHeartbeats 4000000 in
theorem len_any (c : Nat) (h : c < 512) (w : World) : Calls Tryz.prog 40 #[.int .u32 (c : Nat)] w fun e w' => e = .returned (.int .i64 (Lib.bitLen c : Nat)) ∧ w = w' := by
  have hb := bl_le ⟨c, h⟩
  simp only at hb
  by_cases h8 : c < 256
  · have z1 : ¬ (65536 : Int) ≤ (c : Int) := by omega
    have z2 : ¬ (256 : Int) ≤ (c : Int) := by omega
    have z3 : (c : Int) % 256 = (c : Int) := by omega
    have z4 : (c : Int) < 256 := by omega
    have z5 : c < Lib.len8tab.size := by rw [Lib.len8tab_size]; exact h8
    go_enter Tryz.func40, Tryz.ntmps40
    go_wp2_with fail
    go_ret
    exact ⟨by show Ending.returned (Value.int .i64 (wrap64 (wrap64 _))) = _; rw [tab8_at, w64_at _ hb.1], rfl⟩
  · have z1 : ¬ (65536 : Int) ≤ (c : Int) := by omega
    have z2 : (256 : Int) ≤ (c : Int) := by omega
    have z3 : (c : Int) / 256 = 1 := by omega
    have z5 : Lib.bitLen c = 9 := hb.2 (by omega)
    rw [z5]
    have z6 : Lib.len8tab[1]!.toNat = 1 := by decide +kernel
    go_enter Tryz.func40, Tryz.ntmps40
    go_wp2_with fail
    go_ret
    exact ⟨by rw [show wrap64 (8 + wrap64 (Lib.len8 1)) = 9 from by decide +kernel]; rfl, rfl⟩
set_option maxRecDepth 10000 in
set_option maxHeartbeats 1000000 in
theorem Bits_any {w : World} {g pa ct le n cap c : Nat} {v : Nat → Value} {h : List Nat} {L : List Int} (b : Bx w g pa ct le n cap c v h L) (hc : c < 512) (k : Nat) (hk : k ≤ 8) (h1 : 2 ^ k ≤ c) (h2 : c < 2 ^ (k + 1)) :
    Calls Tryz.prog 21 #[pt g] w fun e w' => e = .returned (.int .i64 (k : Nat)) ∧ w = w' := by
  have c0 := b.c0
  have c4 := b.c4
  have HM := hid (made_yes g w c0)
  have HL := hid (len_any c hc w)
  have hb := bl_at ⟨k, by omega⟩ ⟨c, hc⟩ h1 h2
  simp only at hb
  rw [hb] at HL
  have e : ((k + 1 : Nat) : Int) - 1 = (k : Int) := by omega
  clear b hb h1 h2
  unfold pt
  go_enter Tryz.func21, Tryz.ntmps21
  go_wp2_with fail
  refine HM.out.mono ?_
  rintro r w1 ⟨rfl, rfl⟩
  go_wp2_with fail
  refine HL.out.mono ?_
  rintro r w1 ⟨rfl, rfl⟩
  go_wp2_with fail
  go_ret
  refine ⟨?_, rfl⟩
  congr 2
end Go.Proofs.YtkfdbibgjoaefaaGreatDoor
/-
  The document's blend: a unit with its tables in memory; how it leans.
-/
namespace Go.Proofs.YtkfdbibgjoaefaaGreatDoor
open Go.RowKit
set_option linter.unusedVariables false
set_option linter.unusedSimpArgs false

def nv (x : Nat) : Value := .int .i64 (x : Int)
def bn (x : Nat) : Value := .int .u8 (x : Int)
/-- Where a slice lies. -/
structure Sw where
  a : Option Addr
  n : Nat
  c : Nat
/-- A unit's slices. -/
structure Vs where
  c : Sw
  k : Sw
  s : Sw
  w : Sw
  n : Sw
  r : Sw
/-- The cells of a unit from ⟨g, o⟩ on. -/
structure RC (W : World) (g o : Nat) (u : Un) (V : Vs) : Prop where
  p0 : W.cell? ⟨g, o, none⟩ = some (.int .u8 u.p.kind)
  p1 : W.cell? ⟨g, o + 1, none⟩ = some (.int .i64 u.p.size)
  p2 : W.cell? ⟨g, o + 2, none⟩ = some (.int .i64 u.p.a)
  p3 : W.cell? ⟨g, o + 3, none⟩ = some (.int .i64 u.p.b)
  p4 : W.cell? ⟨g, o + 4, none⟩ = some (.int .i64 u.p.c)
  p5 : W.cell? ⟨g, o + 5, none⟩ = some (.int .i64 u.p.rate)
  p6 : W.cell? ⟨g, o + 6, none⟩ = some (.int .i64 u.p.limit)
  h : W.cell? ⟨g, o + 7, none⟩ = some (.int .u32 (u.h : Nat))
  c : W.cell? ⟨g, o + 8, none⟩ = some (.slice V.c.a V.c.n V.c.c)
  k : W.cell? ⟨g, o + 9, none⟩ = some (.slice V.k.a V.k.n V.k.c)
  s : W.cell? ⟨g, o + 10, none⟩ = some (.slice V.s.a V.s.n V.s.c)
  w : W.cell? ⟨g, o + 11, none⟩ = some (.slice V.w.a V.w.n V.w.c)
  n : W.cell? ⟨g, o + 12, none⟩ = some (.slice V.n.a V.n.n V.n.c)
  r : W.cell? ⟨g, o + 13, none⟩ = some (.slice V.r.a V.r.n V.r.c)
  pos : W.cell? ⟨g, o + 14, none⟩ = some (.int .i64 (u.pos : Nat))
  len : W.cell? ⟨g, o + 15, none⟩ = some (.int .i64 (u.len : Nat))
/-- Its tables. -/
structure RT (W : World) (B : Nat) (u : Un) (V : Vs) : Prop where
  c : W.ownsRow B 3 1 (.slice V.c.a V.c.n V.c.c) u.chance.length (u.chance.map iv)
  k : W.ownsRow B 3 1 (.slice V.k.a V.k.n V.k.c) u.count.length (u.count.map iv)
  s : W.ownsRow B 5 1 (.slice V.s.a V.s.n V.s.c) u.state.length (u.state.map bn)
  w : W.ownsRow B 3 1 (.slice V.w.a V.w.n V.w.c) u.weight.length (u.weight.map iv)
  n : W.ownsRow B 3 1 (.slice V.n.a V.n.n V.n.c) u.number.length (u.number.map nv)
  r : W.ownsRow B 5 1 (.slice V.r.a V.r.n V.r.c) u.ring.length (u.ring.map bn)
theorem own_below {w w' : World} {b n e : Nat} {v : Value} {xs : List Value} (h : w.ownsRow b e 1 v n xs) (hb : Below w.heap.size w w') : w'.ownsRow b e 1 v n xs := by
  refine ⟨h.1, ?_⟩
  rcases h.2 with h2 | ⟨g2, cap, cur, rfl, hge, hh, r⟩
  · exact .inl h2
  · have hlt : g2 < w.heap.size := by
      rcases Nat.lt_or_ge g2 w.heap.size with h1 | h1
      · exact h1
      · rw [Array.getElem?_eq_none h1] at hh
        cases hh
    exact .inr ⟨g2, cap, cur, rfl, hge, (hb.block g2 hlt).trans hh, r⟩
theorem RC.below {W W' : World} {g o : Nat} {u : Un} {V : Vs} (h : RC W g o u V) (b : Below W.heap.size W W') : RC W' g o u V :=
  ⟨keeps b h.p0, keeps b h.p1, keeps b h.p2, keeps b h.p3, keeps b h.p4, keeps b h.p5, keeps b h.p6, keeps b h.h, keeps b h.c, keeps b h.k, keeps b h.s, keeps b h.w, keeps b h.n, keeps b h.r, keeps b h.pos, keeps b h.len⟩
theorem RT.below {W W' : World} {B : Nat} {u : Un} {V : Vs} (h : RT W B u V) (b : Below W.heap.size W W') : RT W' B u V :=
  ⟨own_below h.c b, own_below h.k b, own_below h.s b, own_below h.w b, own_below h.n b, own_below h.r b⟩
/-- A place of a table. -/
theorem tab_at {W : World} {B E n : Nat} {v : Value} {X : List Value} (h : W.ownsRow B E 1 v n X) (i : Nat) (hi : i < n) (d : Value) : ∃ g c, v = .slice (some ⟨g, 0, none⟩) n c ∧ n ≤ c ∧ W.cell? ⟨g, i, none⟩ = some (X.getD i d) := by
  have hX : X.length = n := by have := h.1; simpa using this
  rcases h.2 with ⟨h1, h2⟩ | ⟨g, cap, cur, rfl, hge, hh, hn, hr⟩
  · subst h1
    cases h2
    omega
  · refine ⟨g, cap, rfl, hn, ?_⟩
    have := h.cells (g := g) rfl i (X.getD i d) (by rw [List.getD_eq_getElem?_getD, List.getElem?_eq_getElem (by omega)]; rfl)
    rw [Addr.add_lit, Nat.zero_add] at this
    exact this
def cellsU (u : Un) (V : Vs) : Array Value := #[.int .u8 u.p.kind, .int .i64 u.p.size, .int .i64 u.p.a, .int .i64 u.p.b, .int .i64 u.p.c, .int .i64 u.p.rate, .int .i64 u.p.limit, .int .u32 (u.h : Nat), .slice V.c.a V.c.n V.c.c, .slice V.k.a V.k.n V.k.c, .slice V.s.a V.s.n V.s.c, .slice V.w.a V.w.n V.w.c, .slice V.n.a V.n.n V.n.c, .slice V.r.a V.r.n V.r.c, .int .i64 (u.pos : Nat), .int .i64 (u.len : Nat)]
theorem rc_row {W : World} {g : Nat} {u : Un} {V : Vs} {t : TypeId} (h : W.heap[g]? = some (.cells (cellsU u V) t (0, 0))) : RC W g 0 u V :=
  ⟨row_cell h 0, row_cell h 1, row_cell h 2, row_cell h 3, row_cell h 4, row_cell h 5, row_cell h 6, row_cell h 7, row_cell h 8, row_cell h 9, row_cell h 10, row_cell h 11, row_cell h 12, row_cell h 13, row_cell h 14, row_cell h 15⟩
/-- The document's blend's own cells. -/
structure RB (W : World) (r g N cap C bits whole : Nat) : Prop where
  l : W.cell? ⟨r, 0, none⟩ = some (.slice (some ⟨g, 0, none⟩) N cap)
  c : W.cell? ⟨r, 1, none⟩ = some (.int .i64 (C : Nat))
  bits : W.cell? ⟨r, 2, none⟩ = some (.int .i64 (bits : Nat))
  whole : W.cell? ⟨r, 3, none⟩ = some (.int .i64 (whole : Nat))
theorem RB.below {W W' : World} {r g N cap C bits whole : Nat} (h : RB W r g N cap C bits whole) (b : Below W.heap.size W W') : RB W' r g N cap C bits whole := ⟨keeps b h.l, keeps b h.c, keeps b h.bits, keeps b h.whole⟩
/-- What is at hand once a unit and its part lie in boxes of their own: U and U + 1. -/
structure Hnd (w W : World) (U : Nat) (u : Un) (V : Vs) : Prop where
  bel : Below w.heap.size w W
  un : RC W U 0 u V
  p0 : W.cell? ⟨U + 1, 0, none⟩ = some (.int .u8 u.p.kind)
  p1 : W.cell? ⟨U + 1, 1, none⟩ = some (.int .i64 u.p.size)
  p2 : W.cell? ⟨U + 1, 2, none⟩ = some (.int .i64 u.p.a)
  p3 : W.cell? ⟨U + 1, 3, none⟩ = some (.int .i64 u.p.b)
  p4 : W.cell? ⟨U + 1, 4, none⟩ = some (.int .i64 u.p.c)
  p5 : W.cell? ⟨U + 1, 5, none⟩ = some (.int .i64 u.p.rate)
  p6 : W.cell? ⟨U + 1, 6, none⟩ = some (.int .i64 u.p.limit)
end Go.Proofs.YtkfdbibgjoaefaaGreatDoor
/-
  The document's blend: how a unit leans.
-/
namespace Go.Proofs.YtkfdbibgjoaefaaGreatDoor
open Go.RowKit
set_option linter.unusedVariables false
set_option linter.unusedSimpArgs false

theorem hnd_made {w : World} (u : Un) (V : Vs) (t1 t2 : TypeId) :
    Hnd w ((w.alloc (.cells (cellsU u V) t1)).alloc (.cells #[.int .u8 u.p.kind, .int .i64 u.p.size, .int .i64 u.p.a, .int .i64 u.p.b, .int .i64 u.p.c, .int .i64 u.p.rate, .int .i64 u.p.limit] t2)) w.heap.size u V := by
  have h2 := heap_alloc_new (w.alloc (.cells (cellsU u V) t1)) (.cells #[.int .u8 u.p.kind, .int .i64 u.p.size, .int .i64 u.p.a, .int .i64 u.p.b, .int .i64 u.p.c, .int .i64 u.p.rate, .int .i64 u.p.limit] t2)
  rw [show (w.alloc (.cells (cellsU u V) t1)).heap.size = w.heap.size + 1 by simp] at h2
  have h1 := (heap_alloc2_old w (.cells (cellsU u V) t1) (.cells #[.int .u8 u.p.kind, .int .i64 u.p.size, .int .i64 u.p.a, .int .i64 u.p.b, .int .i64 u.p.c, .int .i64 u.p.rate, .int .i64 u.p.limit] t2))
  exact ⟨((Below.refl _ w).alloc (Nat.le_refl _) _).alloc (by simp) _, rc_row h1, row_cell h2 0, row_cell h2 1, row_cell h2 2, row_cell h2 3, row_cell h2 4, row_cell h2 5, row_cell h2 6⟩
theorem drewN_add (w : World) : ∀ (n m : Nat), (w.drewN n).drewN m = w.drewN (n + m) := fun n m => World.drewN_drewN w n m
/-- A call that leaves the world as it is, at any draws. -/
theorem still {f : FuncId} {args : Array Value} {v : Value} (h : ∀ w, Calls Tryz.prog f args w fun e w' => e = .returned v ∧ w' = w) (W : World) : Hid (∀ n, Calls Tryz.prog f args (W.drewN n) fun e w'' => e = .returned v ∧ ∃ m, w'' = W.drewN m) :=
  fun n => (h (W.drewN n)).mono fun _ _ hh => ⟨hh.1, n, hh.2⟩
theorem Hnd.later {w W W' : World} {U : Nat} {u : Un} {V : Vs} (h : Hnd w W U u V) (b : Below W.heap.size W W') : Hnd w W' U u V :=
  ⟨h.bel.trans (b.mono h.bel.size), h.un.below b, keeps b h.p0, keeps b h.p1, keeps b h.p2, keeps b h.p3, keeps b h.p4, keeps b h.p5, keeps b h.p6⟩
theorem bel_on {w w1 w2 : World} (h : Below w.heap.size w w1) (b : Below w1.heap.size w1 w2) : Below w.heap.size w w2 := h.trans (b.mono h.size)
theorem iv_get (l : List Int) (i : Nat) : (l.map iv).getD i (iv 0) = iv (l.getD i 0) := by
  rw [List.getD_eq_getElem?_getD, List.getElem?_map, List.getD_eq_getElem?_getD]
  cases l[i]? <;> rfl
theorem bn_get (l : List Nat) (i : Nat) : (l.map bn).getD i (bn 0) = bn (l.getD i 0) := by
  rw [List.getD_eq_getElem?_getD, List.getElem?_map, List.getD_eq_getElem?_getD]
  cases l[i]? <;> rfl
theorem nv_get (l : List Nat) (i : Nat) : (l.map nv).getD i (nv 0) = nv (l.getD i 0) := by
  rw [List.getD_eq_getElem?_getD, List.getElem?_map, List.getD_eq_getElem?_getD]
  cases l[i]? <;> rfl
theorem mul_in (a b m n : Int) (ha : -m ≤ a ∧ a ≤ m) (hb : -n ≤ b ∧ b ≤ n) : -(m * n) ≤ a * b ∧ a * b ≤ m * n := by
  have h1 : (a * b).natAbs ≤ (m * n).natAbs := by
    rw [Int.natAbs_mul, Int.natAbs_mul]
    exact Nat.mul_le_mul (by omega) (by omega)
  have h2 : 0 ≤ m * n := Int.mul_nonneg (by omega) (by omega)
  omega
theorem wr_in (x : Int) (h : -1000000000000 ≤ x ∧ x ≤ 1000000000000) : Hid (IntKind.i64.wrap x = x) := by
  refine hid ?_
  rw [IntKind.wrap_i64]
  omega
theorem wr_in64 (x : Int) (h : -1000000000000 ≤ x ∧ x ≤ 1000000000000) : Hid (wrap64 x = x) := by
  refine hid ?_
  unfold wrap64
  omega
theorem un5 {u : Un} {c bits : Nat} {l : List Int} (hk : u.p.kind = 5) : u.lean c bits l = (u.p.c * at0 l u.p.a + (256 - u.p.c) * at0 l u.p.b) / 256 := by unfold Un.lean; simp [hk]
theorem un6 {u : Un} {c bits : Nat} {l : List Int} (hk : u.p.kind = 6) : u.lean c bits l = (u.weight.getD (placeN u.h c u.p.size) 0 * at0 l u.p.a + (65536 - u.weight.getD (placeN u.h c u.p.size) 0) * at0 l u.p.b) / 65536 := by unfold Un.lean; simp [hk]
theorem un7 {u : Un} {c bits : Nat} {l : List Int} (hk : u.p.kind = 7) : u.lean c bits l = into (mixSum u.weight (placeN u.h c u.p.size * u.p.b.toNat) l u.p.a u.p.b.toNat / 65536) (-2047) 2047 := by unfold Un.lean; simp [hk]
theorem un8 {u : Un} {c bits : Nat} {l : List Int} (hk : u.p.kind = 8) : u.lean c bits l = into ((u.weight.getD (2 * u.state.getD (placeN u.h c u.p.size) 0) 0 * at0 l u.p.a + u.weight.getD (2 * u.state.getD (placeN u.h c u.p.size) 0 + 1) 0 * 64) / 65536) (-2047) 2047 := by unfold Un.lean; simp [hk]
theorem un9 {u : Un} {c bits : Nat} {l : List Int} (hk : u.p.kind = 9) : u.lean c bits l = stz (u.chance.getD (placeN u.h c u.p.size * 32 + ((at0 l u.p.a + 2047) / 128).toNat) 0 / 1024) := by unfold Un.lean; simp [hk]
end Go.Proofs.YtkfdbibgjoaefaaGreatDoor
