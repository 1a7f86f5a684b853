/-
  Merged: Rf Rl0 Rw Rln.
-/
import Derived.Test.YtkfdbibgjoaefaaGreatDoorMg06
import Derived.Test.YtkfdbibgjoaefaaGreatDoorMg15
import Derived.StillTailTactics
/-
  The document's blend: tables that are written; a chance with its count.
-/
namespace Go.Proofs.YtkfdbibgjoaefaaGreatDoor
open Go.RowKit
set_option linter.unusedVariables false
set_option linter.unusedSimpArgs false

theorem own_put {W : World} {B E n c gt i : Nat} {X : List Value} (h : W.ownsRow B E 1 (.slice (some ⟨gt, 0, none⟩) n c) n X) (hi : i < n) (u : Value) :
    (W.setCell ⟨gt, i, none⟩ u).ownsRow B E 1 (.slice (some ⟨gt, 0, none⟩) n c) n (X.set i u) := by
  rcases h.2 with ⟨h1, _⟩ | ⟨g, cap, cur, hv, hg, hh, hn, hm, hs, ht⟩
  · cases h1
  · injection hv with e1 e2 e3
    injection e1 with e1
    injection e1 with e1
    subst e1 e3
    refine ⟨by rw [List.length_set]; exact h.1, .inr ⟨gt, c, cur.setIfInBounds i u, rfl, hg, by simp [World.setCell, Array.getElem?_modify, hh], hn, hm, by simpa using hs, ?_⟩⟩
    rw [← ht, Array.toList_setIfInBounds, List.take_set]
theorem own_off {W : World} {B E n : Nat} {v : Value} {X : List Value} (h : W.ownsRow B E 1 v n X) (a : Addr) (u : Value) (hne : v.ownBlock ≠ some a.block) : (W.setCell a u).ownsRow B E 1 v n X := by
  refine ⟨h.1, ?_⟩
  rcases h.2 with h2 | ⟨g, cap, cur, rfl, hge, hh, r⟩
  · exact .inl h2
  · exact .inr ⟨g, cap, cur, rfl, hge, by rw [RowKit.Below.heap_setCell _ _ _ _ (fun e => hne (by rw [← e]; rfl))]; exact hh, r⟩
theorem own_free {W : World} {B E n c gt i : Nat} {X : List Value} (h : W.ownsRow B E 1 (.slice (some ⟨gt, 0, none⟩) n c) n X) : W.frozen? ⟨gt, i, none⟩ = false := by
  rcases h.2 with ⟨h1, _⟩ | ⟨g, cap, cur, hv, hg, hh, hn, hm, hs, ht⟩
  · cases h1
  · injection hv with e1 e2 e3
    injection e1 with e1
    injection e1 with e1
    subst e1
    simp [World.frozen?, hh]
theorem off_cell {W : World} {a b : Addr} {u v : Value} (h : W.cell? b = some v) (hne : b.block ≠ a.block) : (W.setCell a u).cell? b = some v := by
  unfold World.cell? at h ⊢
  rw [RowKit.Below.heap_setCell _ _ _ _ hne]
  exact h
theorem RC.off {W : World} {g o : Nat} {u : Un} {V : Vs} (h : RC W g o u V) (a : Addr) (x : Value) (hne : g ≠ a.block) : RC (W.setCell a x) g o u V :=
  ⟨off_cell h.p0 hne, off_cell h.p1 hne, off_cell h.p2 hne, off_cell h.p3 hne, off_cell h.p4 hne, off_cell h.p5 hne, off_cell h.p6 hne, off_cell h.h hne, off_cell h.c hne, off_cell h.k hne, off_cell h.s hne, off_cell h.w hne, off_cell h.n hne, off_cell h.r hne, off_cell h.pos hne, off_cell h.len hne⟩
theorem RC.as {W : World} {g o : Nat} {u u' : Un} {V : Vs} (h : RC W g o u V) (h1 : u'.p = u.p) (h2 : u'.h = u.h) (h3 : u'.pos = u.pos) (h4 : u'.len = u.len) : RC W g o u' V :=
  ⟨by rw [h1]; exact h.p0, by rw [h1]; exact h.p1, by rw [h1]; exact h.p2, by rw [h1]; exact h.p3, by rw [h1]; exact h.p4, by rw [h1]; exact h.p5, by rw [h1]; exact h.p6, by rw [h2]; exact h.h, h.c, h.k, h.s, h.w, h.n, h.r, by rw [h3]; exact h.pos, by rw [h4]; exact h.len⟩
theorem map_set {α : Type} (f : α → Value) (l : List α) (i : Nat) (x : α) : (l.map f).set i (f x) = (l.set i x).map f := (List.map_set).symm
set_option maxRecDepth 10000 in
set_option maxHeartbeats 8000000 in
theorem slow_any (g o ix B gc gk nc nk cc kc : Nat) (u : Un) (vs vw vn vr : Sw) (one : Bool) (w : World) (hc : RC w g o u ⟨⟨some ⟨gc, 0, none⟩, nc, cc⟩, ⟨some ⟨gk, 0, none⟩, nk, kc⟩, vs, vw, vn, vr⟩) (ht : RT w B u ⟨⟨some ⟨gc, 0, none⟩, nc, cc⟩, ⟨some ⟨gk, 0, none⟩, nk, kc⟩, vs, vw, vn, vr⟩)
    (hnc : nc = u.chance.length) (hnk : nk = u.count.length) (hix : ix < nc) (hix2 : ix < nk) (h1 : 0 ≤ u.chance.getD ix 0 ∧ u.chance.getD ix 0 ≤ 4194303) (h2 : 0 ≤ u.count.getD ix 0 ∧ u.count.getD ix 0 ≤ 1023) (hl : 1 ≤ u.p.limit ∧ u.p.limit ≤ 1023) (hck : gc ≠ gk) (hgc : g ≠ gc) (hgk : g ≠ gk) :
    Calls Tryz.prog 57 #[.pointer (some ⟨g, o, none⟩), .int .i64 (ix : Int), .int .i64 (if one then 1 else 0)] w fun e w' => e = .returned (.tuple #[]) ∧
      w' = ((w.drew.setCell ⟨gc, ix, none⟩ (.int .i64 (u.chance.getD ix 0 + Int.tdiv ((if one then 4194303 else 0) - u.chance.getD ix 0) (u.count.getD ix 0 + 2)))).drew.setCell ⟨gk, ix, none⟩ (.int .i64 (into (u.count.getD ix 0 + 1) 0 u.p.limit))) := by
  obtain ⟨x, hx⟩ : ∃ x, u.chance.getD ix 0 = x := ⟨_, rfl⟩
  obtain ⟨n, hn⟩ : ∃ n, u.count.getD ix 0 = n := ⟨_, rfl⟩
  rw [hx] at h1 ⊢
  rw [hn] at h2 ⊢
  obtain ⟨t, htt⟩ : ∃ t : Int, (if one then 4194303 else 0) = t := ⟨_, rfl⟩
  have htr : 0 ≤ t ∧ t ≤ 4194303 := by rw [← htt]; cases one <;> simp
  rw [htt]
  obtain ⟨z1, hz1⟩ : ∃ z, t - x = z := ⟨_, rfl⟩
  obtain ⟨z2, hz2⟩ : ∃ z, n + 2 = z := ⟨_, rfl⟩
  obtain ⟨z3, hz3⟩ : ∃ z, z1.tdiv z2 = z := ⟨_, rfl⟩
  obtain ⟨z4, hz4⟩ : ∃ z, x + z3 = z := ⟨_, rfl⟩
  obtain ⟨z5, hz5⟩ : ∃ z, n + 1 = z := ⟨_, rfl⟩
  have sr := step_range x t z2 4194303 ⟨by omega, by omega⟩ htr (by omega)
  rw [hz1, hz3, hz4] at sr
  rw [hz1, hz2, hz3, hz4, hz5]
  obtain ⟨lim, hlim⟩ : ∃ lim, u.p.limit = lim := ⟨_, rfl⟩
  rw [hlim] at hl ⊢
  have HN := hid (fun w => r_into z5 0 lim w)
  obtain ⟨z6, hz6⟩ : ∃ z, into z5 0 lim = z := ⟨_, rfl⟩
  rw [hz6] at HN ⊢
  obtain ⟨g2, c2, ev, hle, cellc⟩ := tab_at ht.c ix (by omega) (iv 0)
  injection ev with e1 e2 e3
  injection e1 with e1
  injection e1 with e1
  subst e1 e3
  obtain ⟨g3, c3, ev, hle2, cellk⟩ := tab_at ht.k ix (by omega) (iv 0)
  injection ev with e1 e2 e3
  injection e1 with e1
  injection e1 with e1
  subst e1 e3
  rw [iv_get, hx] at cellc
  rw [iv_get, hn] at cellk
  have c2 : w.cell? ⟨gc, ix, none⟩ = some (.int .i64 x) := cellc
  have c3 : w.cell? ⟨gk, ix, none⟩ = some (.int .i64 n) := cellk
  have f2 : w.frozen? ⟨gc, ix, none⟩ = false := by rw [hnc] at ht; exact own_free ht.c
  have f3 : w.frozen? ⟨gk, ix, none⟩ = false := by rw [hnk] at ht; exact own_free ht.k
  have q8 := hc.c
  have q9 := hc.k
  have q6 := hc.p6
  rw [hlim] at q6
  dsimp only at q8 q9
  have E1 := wr_in z1 (by omega)
  have E2 := wr_in z2 (by omega)
  have E4 := wr_in z4 (by omega)
  have E5 := wr_in z5 (by omega)
  have F1 := wr_in64 z1 (by omega)
  have F2 := wr_in64 z2 (by omega)
  have F4 := wr_in64 z4 (by omega)
  have F5 := wr_in64 z5 (by omega)
  have hz3r : -8388608 ≤ z3 ∧ z3 ≤ 8388608 := by omega
  have E3 := wr_in z3 (by omega)
  have F3 := wr_in64 z3 (by omega)
  have hl1 : (ix : Int) < (nc : Int) := by omega
  have hl2 : (ix : Int) < (nk : Int) := by omega
  have hz20 : ¬ z2 = 0 := by omega
  have hzq : (z2 == 0) = false := by simpa using hz20
  clear hx hn hz6 sr h1 h2 htr hl hz3r ht hnc hnk cellc cellk
  obtain ⟨p0, p1, p2, p3, p4, p5, p6, p7, p8, p9, p10, p11, p12, p13, p14, p15⟩ := hc
  cases one
  · simp only [Bool.false_eq_true, if_false] at htt
    subst htt
    rw [Int.zero_sub] at hz1
    go_enter Tryz.func57, Tryz.ntmps57
    go_upto_region 3 with fail
    clear p0 p1 p2 p3 p4 p5 p7 p8 p9 p10 p11 p12 p13 p14 p15
    have e1 := E1.out
    have e2 := E2.out
    have e3 := E3.out
    have e4 := E4.out
    go_still_tail 32, (by kernel_rfl)
    change wpList _ _ _ _ _ w.drew
    have f2 : w.drew.frozen? ⟨gc, ix, none⟩ = false := f2
    have c2 : w.drew.cell? ⟨gc, ix, none⟩ = some (.int .i64 x) := c2
    have c3 : (w.setCell ⟨gc, ix, none⟩ (.int .i64 z4)).drew.cell? ⟨gk, ix, none⟩ = some (.int .i64 n) := off_cell (W := w) c3 (fun e => hck e.symm)
    have f3 : (w.setCell ⟨gc, ix, none⟩ (.int .i64 z4)).drew.frozen? ⟨gk, ix, none⟩ = false := by
      show (w.setCell ⟨gc, ix, none⟩ (.int .i64 z4)).frozen? ⟨gk, ix, none⟩ = false
      unfold World.frozen? at f3 ⊢; rw [RowKit.Below.heap_setCell _ _ _ _ (fun e => hck e.symm)]; exact f3
    have q9 : (w.setCell ⟨gc, ix, none⟩ (.int .i64 z4)).drew.cell? ⟨g, o + 9, none⟩ = some (.slice (some ⟨gk, 0, none⟩) nk kc) := off_cell (W := w) q9 hgc
    have q6 : (w.setCell ⟨gc, ix, none⟩ (.int .i64 z4)).drew.cell? ⟨g, o + 6, none⟩ = some (.int .i64 lim) := off_cell (W := w) q6 hgc
    go_upto_region 4 with fail
    show Code.wp _ _ _ _ (w.setCell ⟨gc, ix, none⟩ (.int .i64 z4)).drew
    clear f2 c2 q8 e1 e2 e3 e4
    generalize hW : (w.setCell ⟨gc, ix, none⟩ (.int .i64 z4)).drew = W at c3 f3 q9 q6 ⊢
    have HW := hid hW
    clear hW
    have e5 := E5.out
    go_still_tail 20, (by kernel_rfl)
    refine wpStill_step (fun K hK => ?_)
    go_simp
    refine ⟨_, (HN.out _).mono (fun e w' h => ⟨h.1, h.2⟩), hK _ ?_⟩
    clear hK K
    repeat still_step
    refine wpStill_nil ?_
    change wpList _ _ _ _ _ W.drew
    have f3 : W.drew.frozen? ⟨gk, ix, none⟩ = false := f3
    have c3 : W.drew.cell? ⟨gk, ix, none⟩ = some (.int .i64 n) := c3
    go_wp2_with fail
    go_end0
    exact ⟨rfl, by rw [← HW.out]; rfl⟩
  · simp only [if_true] at htt
    subst htt
    go_enter Tryz.func57, Tryz.ntmps57
    go_upto_region 3 with fail
    clear p0 p1 p2 p3 p4 p5 p7 p8 p9 p10 p11 p12 p13 p14 p15
    have e1 := E1.out
    have e2 := E2.out
    have e3 := E3.out
    have e4 := E4.out
    go_still_tail 32, (by kernel_rfl)
    change wpList _ _ _ _ _ w.drew
    have f2 : w.drew.frozen? ⟨gc, ix, none⟩ = false := f2
    have c2 : w.drew.cell? ⟨gc, ix, none⟩ = some (.int .i64 x) := c2
    have c3 : (w.setCell ⟨gc, ix, none⟩ (.int .i64 z4)).drew.cell? ⟨gk, ix, none⟩ = some (.int .i64 n) := off_cell (W := w) c3 (fun e => hck e.symm)
    have f3 : (w.setCell ⟨gc, ix, none⟩ (.int .i64 z4)).drew.frozen? ⟨gk, ix, none⟩ = false := by
      show (w.setCell ⟨gc, ix, none⟩ (.int .i64 z4)).frozen? ⟨gk, ix, none⟩ = false
      unfold World.frozen? at f3 ⊢; rw [RowKit.Below.heap_setCell _ _ _ _ (fun e => hck e.symm)]; exact f3
    have q9 : (w.setCell ⟨gc, ix, none⟩ (.int .i64 z4)).drew.cell? ⟨g, o + 9, none⟩ = some (.slice (some ⟨gk, 0, none⟩) nk kc) := off_cell (W := w) q9 hgc
    have q6 : (w.setCell ⟨gc, ix, none⟩ (.int .i64 z4)).drew.cell? ⟨g, o + 6, none⟩ = some (.int .i64 lim) := off_cell (W := w) q6 hgc
    go_upto_region 4 with fail
    show Code.wp _ _ _ _ (w.setCell ⟨gc, ix, none⟩ (.int .i64 z4)).drew
    clear f2 c2 q8 e1 e2 e3 e4
    generalize hW : (w.setCell ⟨gc, ix, none⟩ (.int .i64 z4)).drew = W at c3 f3 q9 q6 ⊢
    have HW := hid hW
    clear hW
    have e5 := E5.out
    go_still_tail 20, (by kernel_rfl)
    refine wpStill_step (fun K hK => ?_)
    go_simp
    refine ⟨_, (HN.out _).mono (fun e w' h => ⟨h.1, h.2⟩), hK _ ?_⟩
    clear hK K
    repeat still_step
    refine wpStill_nil ?_
    change wpList _ _ _ _ _ W.drew
    have f3 : W.drew.frozen? ⟨gk, ix, none⟩ = false := f3
    have c3 : W.drew.cell? ⟨gk, ix, none⟩ = some (.int .i64 n) := c3
    go_wp2_with fail
    go_end0
    exact ⟨rfl, by rw [← HW.out]; rfl⟩
end Go.Proofs.YtkfdbibgjoaefaaGreatDoor
/-
  The document's blend: how a unit learns (what is at hand).
-/
namespace Go.Proofs.YtkfdbibgjoaefaaGreatDoor
open Go.RowKit
set_option linter.unusedVariables false
set_option linter.unusedSimpArgs false

/-- What is at hand once a unit's part lies in a box of its own: U. -/
structure Hnp (w W : World) (U : Nat) (u : Un) : Prop where
  bel : Below w.heap.size w W
  p0 : W.cell? ⟨U, 0, none⟩ = some (.int .u8 u.p.kind)
  p1 : W.cell? ⟨U, 1, none⟩ = some (.int .i64 u.p.size)
  p2 : W.cell? ⟨U, 2, none⟩ = some (.int .i64 u.p.a)
  p3 : W.cell? ⟨U, 3, none⟩ = some (.int .i64 u.p.b)
  p4 : W.cell? ⟨U, 4, none⟩ = some (.int .i64 u.p.c)
  p5 : W.cell? ⟨U, 5, none⟩ = some (.int .i64 u.p.rate)
  p6 : W.cell? ⟨U, 6, none⟩ = some (.int .i64 u.p.limit)
theorem hnp_made {w : World} (u : Un) (t : TypeId) : Hnp w (w.alloc (.cells #[.int .u8 u.p.kind, .int .i64 u.p.size, .int .i64 u.p.a, .int .i64 u.p.b, .int .i64 u.p.c, .int .i64 u.p.rate, .int .i64 u.p.limit] t)) w.heap.size u := by
  have h1 := heap_alloc_new w (.cells #[.int .u8 u.p.kind, .int .i64 u.p.size, .int .i64 u.p.a, .int .i64 u.p.b, .int .i64 u.p.c, .int .i64 u.p.rate, .int .i64 u.p.limit] t)
  exact ⟨(Below.refl _ w).alloc (Nat.le_refl _) _, row_cell h1 0, row_cell h1 1, row_cell h1 2, row_cell h1 3, row_cell h1 4, row_cell h1 5, row_cell h1 6⟩
theorem Hnp.later {w W W' : World} {U : Nat} {u : Un} (h : Hnp w W U u) (b : Below W.heap.size W W') : Hnp w W' U u :=
  ⟨h.bel.trans (b.mono h.bel.size), keeps b h.p0, keeps b h.p1, keeps b h.p2, keeps b h.p3, keeps b h.p4, keeps b h.p5, keeps b h.p6⟩
def Sw.b (s : Sw) : Option Nat := (Value.slice s.a s.n s.c).ownBlock
/-- Two blocks, where there are any, are not one. -/
def Apt (p q : Option Nat) : Prop := ∀ b, p = some b → q ≠ some b
theorem Apt.symm {p q : Option Nat} (h : Apt p q) : Apt q p := fun b hq hp => h b hp hq
/-- A unit's tables lie apart from one another and from the units. -/
structure Sep (V : Vs) (g : Nat) : Prop where
  gc : V.c.b ≠ some g
  gk : V.k.b ≠ some g
  gs : V.s.b ≠ some g
  gw : V.w.b ≠ some g
  gn : V.n.b ≠ some g
  gr : V.r.b ≠ some g
  ck : Apt V.c.b V.k.b
  cs : Apt V.c.b V.s.b
  cw : Apt V.c.b V.w.b
  cn : Apt V.c.b V.n.b
  cr : Apt V.c.b V.r.b
  ks : Apt V.k.b V.s.b
  kw : Apt V.k.b V.w.b
  kn : Apt V.k.b V.n.b
  kr : Apt V.k.b V.r.b
  sw : Apt V.s.b V.w.b
  sn : Apt V.s.b V.n.b
  sr : Apt V.s.b V.r.b
  wn : Apt V.w.b V.n.b
  wr : Apt V.w.b V.r.b
  nr : Apt V.n.b V.r.b
def Vs.has (V : Vs) (i : Nat) : Prop := V.c.b = some i ∨ V.k.b = some i ∨ V.s.b = some i ∨ V.w.b = some i ∨ V.n.b = some i ∨ V.r.b = some i
theorem RC.to {W : World} {g o : Nat} {u u' : Un} {V : Vs} (h : RC W g o u V) (h1 : u'.p = u.p) (h2 : u'.h = u.h) (h3 : u'.pos = u.pos) (h4 : u'.len = u.len) : RC W g o u' V := h.as h1 h2 h3 h4
/-- On the way of learning: the unit's cells stay, its tables are the learnt one's, all else stays. -/
structure Lrn (w W : World) (g o : Nat) (u : Un) (V : Vs) (B : Nat) : Prop where
  c : RC W g o u V
  t : RT W B u V
  b : But V.has w W
theorem Lrn.start {w : World} {g o : Nat} {u : Un} {V : Vs} {B : Nat} (c : RC w g o u V) (t : RT w B u V) : Lrn w w g o u V B := ⟨c, t, But.refl _ _⟩
theorem Lrn.on {w W W' : World} {g o : Nat} {u : Un} {V : Vs} {B : Nat} (h : Lrn w W g o u V B) (b : Below W.heap.size W W') : Lrn w W' g o u V B := ⟨h.c.below b, h.t.below b, h.b.trans (But.of_below b)⟩
theorem Lrn.drew {w W : World} {g o : Nat} {u : Un} {V : Vs} {B : Nat} (h : Lrn w W g o u V B) : Lrn w W.drew g o u V B := h.on (Below.refl _ W).drew
theorem Lrn.put_c {w W : World} {g o gt i : Nat} {u : Un} {V : Vs} {B : Nat} (h : Lrn w W g o u V B) (hs : Sep V g) (hv : V.c.a = some ⟨gt, 0, none⟩) (hi : i < u.chance.length) (x : Int) :
    Lrn w (W.setCell ⟨gt, i, none⟩ (iv x)) g o { u with chance := u.chance.set i x } V B := by
  have hb : V.c.b = some gt := by unfold Sw.b; rw [hv]; rfl
  obtain ⟨g2, c2, ev, hle, _⟩ := tab_at h.t.c i hi (iv 0)
  have K : (W.setCell ⟨gt, i, none⟩ (iv x)).ownsRow B 3 1 (.slice V.c.a V.c.n V.c.c) (u.chance.set i x).length ((u.chance.set i x).map iv) := by
    have ht := h.t.c
    injection ev with e1 e2 e3
    rw [hv, e2] at ht ⊢
    rw [List.length_set, ← map_set]
    exact own_put ht hi _
  exact ⟨(h.c.off _ _ (fun e => hs.gc (by rw [hb]; exact congrArg some e.symm))).as rfl rfl rfl rfl, ⟨K, own_off h.t.k _ _ (hs.ck _ hb), own_off h.t.s _ _ (hs.cs _ hb), own_off h.t.w _ _ (hs.cw _ hb), own_off h.t.n _ _ (hs.cn _ hb), own_off h.t.r _ _ (hs.cr _ hb)⟩, h.b.set _ _ (.inl (.inl hb))⟩
theorem Lrn.put_k {w W : World} {g o gt i : Nat} {u : Un} {V : Vs} {B : Nat} (h : Lrn w W g o u V B) (hs : Sep V g) (hv : V.k.a = some ⟨gt, 0, none⟩) (hi : i < u.count.length) (x : Int) :
    Lrn w (W.setCell ⟨gt, i, none⟩ (iv x)) g o { u with count := u.count.set i x } V B := by
  have hb : V.k.b = some gt := by unfold Sw.b; rw [hv]; rfl
  obtain ⟨g2, c2, ev, hle, _⟩ := tab_at h.t.k i hi (iv 0)
  have K : (W.setCell ⟨gt, i, none⟩ (iv x)).ownsRow B 3 1 (.slice V.k.a V.k.n V.k.c) (u.count.set i x).length ((u.count.set i x).map iv) := by
    have ht := h.t.k
    injection ev with e1 e2 e3
    rw [hv, e2] at ht ⊢
    rw [List.length_set, ← map_set]
    exact own_put ht hi _
  exact ⟨(h.c.off _ _ (fun e => hs.gk (by rw [hb]; exact congrArg some e.symm))).as rfl rfl rfl rfl, ⟨own_off h.t.c _ _ (hs.ck.symm _ hb), K, own_off h.t.s _ _ (hs.ks _ hb), own_off h.t.w _ _ (hs.kw _ hb), own_off h.t.n _ _ (hs.kn _ hb), own_off h.t.r _ _ (hs.kr _ hb)⟩, h.b.set _ _ (.inl (.inr (.inl hb)))⟩
theorem Lrn.put_s {w W : World} {g o gt i : Nat} {u : Un} {V : Vs} {B : Nat} (h : Lrn w W g o u V B) (hs : Sep V g) (hv : V.s.a = some ⟨gt, 0, none⟩) (hi : i < u.state.length) (x : Nat) :
    Lrn w (W.setCell ⟨gt, i, none⟩ (bn x)) g o { u with state := u.state.set i x } V B := by
  have hb : V.s.b = some gt := by unfold Sw.b; rw [hv]; rfl
  obtain ⟨g2, c2, ev, hle, _⟩ := tab_at h.t.s i hi (bn 0)
  have K : (W.setCell ⟨gt, i, none⟩ (bn x)).ownsRow B 5 1 (.slice V.s.a V.s.n V.s.c) (u.state.set i x).length ((u.state.set i x).map bn) := by
    have ht := h.t.s
    injection ev with e1 e2 e3
    rw [hv, e2] at ht ⊢
    rw [List.length_set, ← map_set]
    exact own_put ht hi _
  exact ⟨(h.c.off _ _ (fun e => hs.gs (by rw [hb]; exact congrArg some e.symm))).as rfl rfl rfl rfl, ⟨own_off h.t.c _ _ (hs.cs.symm _ hb), own_off h.t.k _ _ (hs.ks.symm _ hb), K, own_off h.t.w _ _ (hs.sw _ hb), own_off h.t.n _ _ (hs.sn _ hb), own_off h.t.r _ _ (hs.sr _ hb)⟩, h.b.set _ _ (.inl (.inr (.inr (.inl hb))))⟩
theorem Lrn.put_w {w W : World} {g o gt i : Nat} {u : Un} {V : Vs} {B : Nat} (h : Lrn w W g o u V B) (hs : Sep V g) (hv : V.w.a = some ⟨gt, 0, none⟩) (hi : i < u.weight.length) (x : Int) :
    Lrn w (W.setCell ⟨gt, i, none⟩ (iv x)) g o { u with weight := u.weight.set i x } V B := by
  have hb : V.w.b = some gt := by unfold Sw.b; rw [hv]; rfl
  obtain ⟨g2, c2, ev, hle, _⟩ := tab_at h.t.w i hi (iv 0)
  have K : (W.setCell ⟨gt, i, none⟩ (iv x)).ownsRow B 3 1 (.slice V.w.a V.w.n V.w.c) (u.weight.set i x).length ((u.weight.set i x).map iv) := by
    have ht := h.t.w
    injection ev with e1 e2 e3
    rw [hv, e2] at ht ⊢
    rw [List.length_set, ← map_set]
    exact own_put ht hi _
  exact ⟨(h.c.off _ _ (fun e => hs.gw (by rw [hb]; exact congrArg some e.symm))).as rfl rfl rfl rfl, ⟨own_off h.t.c _ _ (hs.cw.symm _ hb), own_off h.t.k _ _ (hs.kw.symm _ hb), own_off h.t.s _ _ (hs.sw.symm _ hb), K, own_off h.t.n _ _ (hs.wn _ hb), own_off h.t.r _ _ (hs.wr _ hb)⟩, h.b.set _ _ (.inl (.inr (.inr (.inr (.inl hb)))))⟩
theorem Lrn.put_n {w W : World} {g o gt i : Nat} {u : Un} {V : Vs} {B : Nat} (h : Lrn w W g o u V B) (hs : Sep V g) (hv : V.n.a = some ⟨gt, 0, none⟩) (hi : i < u.number.length) (x : Nat) :
    Lrn w (W.setCell ⟨gt, i, none⟩ (nv x)) g o { u with number := u.number.set i x } V B := by
  have hb : V.n.b = some gt := by unfold Sw.b; rw [hv]; rfl
  obtain ⟨g2, c2, ev, hle, _⟩ := tab_at h.t.n i hi (nv 0)
  have K : (W.setCell ⟨gt, i, none⟩ (nv x)).ownsRow B 3 1 (.slice V.n.a V.n.n V.n.c) (u.number.set i x).length ((u.number.set i x).map nv) := by
    have ht := h.t.n
    injection ev with e1 e2 e3
    rw [hv, e2] at ht ⊢
    rw [List.length_set, ← map_set]
    exact own_put ht hi _
  exact ⟨(h.c.off _ _ (fun e => hs.gn (by rw [hb]; exact congrArg some e.symm))).as rfl rfl rfl rfl, ⟨own_off h.t.c _ _ (hs.cn.symm _ hb), own_off h.t.k _ _ (hs.kn.symm _ hb), own_off h.t.s _ _ (hs.sn.symm _ hb), own_off h.t.w _ _ (hs.wn.symm _ hb), K, own_off h.t.r _ _ (hs.nr _ hb)⟩, h.b.set _ _ (.inl (.inr (.inr (.inr (.inr (.inl hb))))))⟩
theorem Lrn.put_r {w W : World} {g o gt i : Nat} {u : Un} {V : Vs} {B : Nat} (h : Lrn w W g o u V B) (hs : Sep V g) (hv : V.r.a = some ⟨gt, 0, none⟩) (hi : i < u.ring.length) (x : Nat) :
    Lrn w (W.setCell ⟨gt, i, none⟩ (bn x)) g o { u with ring := u.ring.set i x } V B := by
  have hb : V.r.b = some gt := by unfold Sw.b; rw [hv]; rfl
  obtain ⟨g2, c2, ev, hle, _⟩ := tab_at h.t.r i hi (bn 0)
  have K : (W.setCell ⟨gt, i, none⟩ (bn x)).ownsRow B 5 1 (.slice V.r.a V.r.n V.r.c) (u.ring.set i x).length ((u.ring.set i x).map bn) := by
    have ht := h.t.r
    injection ev with e1 e2 e3
    rw [hv, e2] at ht ⊢
    rw [List.length_set, ← map_set]
    exact own_put ht hi _
  exact ⟨(h.c.off _ _ (fun e => hs.gr (by rw [hb]; exact congrArg some e.symm))).as rfl rfl rfl rfl, ⟨own_off h.t.c _ _ (hs.cr.symm _ hb), own_off h.t.k _ _ (hs.kr.symm _ hb), own_off h.t.s _ _ (hs.sr.symm _ hb), own_off h.t.w _ _ (hs.wr.symm _ hb), own_off h.t.n _ _ (hs.nr.symm _ hb), K⟩, h.b.set _ _ (.inl (.inr (.inr (.inr (.inr (.inr hb))))))⟩
theorem RT.has_c {W : World} {u : Un} {V : Vs} {B i : Nat} (h : RT W B u V) (hi : i < u.chance.length) : ∃ gt, V.c.a = some ⟨gt, 0, none⟩ ∧ V.c.n = u.chance.length := by
  obtain ⟨g2, c2, ev, hle, _⟩ := tab_at h.c i hi (iv 0)
  injection ev with e1 e2 e3
  exact ⟨g2, e1, e2⟩
theorem RT.at_c {W : World} {u : Un} {V : Vs} {B i gt : Nat} (h : RT W B u V) (hv : V.c.a = some ⟨gt, 0, none⟩) (hi : i < u.chance.length) :
    W.cell? ⟨gt, i, none⟩ = some (iv (u.chance.getD i 0)) ∧ W.frozen? ⟨gt, i, none⟩ = false := by
  obtain ⟨g2, c2, ev, hle, cell⟩ := tab_at h.c i hi (iv 0)
  injection ev with e1 e2 e3
  rw [hv] at e1
  injection e1 with e1
  injection e1 with e1
  subst e1
  rw [iv_get] at cell
  have h2 := h.c
  rw [hv, e2] at h2
  exact ⟨cell, own_free h2⟩
theorem RT.has_k {W : World} {u : Un} {V : Vs} {B i : Nat} (h : RT W B u V) (hi : i < u.count.length) : ∃ gt, V.k.a = some ⟨gt, 0, none⟩ ∧ V.k.n = u.count.length := by
  obtain ⟨g2, c2, ev, hle, _⟩ := tab_at h.k i hi (iv 0)
  injection ev with e1 e2 e3
  exact ⟨g2, e1, e2⟩
theorem RT.at_k {W : World} {u : Un} {V : Vs} {B i gt : Nat} (h : RT W B u V) (hv : V.k.a = some ⟨gt, 0, none⟩) (hi : i < u.count.length) :
    W.cell? ⟨gt, i, none⟩ = some (iv (u.count.getD i 0)) ∧ W.frozen? ⟨gt, i, none⟩ = false := by
  obtain ⟨g2, c2, ev, hle, cell⟩ := tab_at h.k i hi (iv 0)
  injection ev with e1 e2 e3
  rw [hv] at e1
  injection e1 with e1
  injection e1 with e1
  subst e1
  rw [iv_get] at cell
  have h2 := h.k
  rw [hv, e2] at h2
  exact ⟨cell, own_free h2⟩
theorem RT.has_s {W : World} {u : Un} {V : Vs} {B i : Nat} (h : RT W B u V) (hi : i < u.state.length) : ∃ gt, V.s.a = some ⟨gt, 0, none⟩ ∧ V.s.n = u.state.length := by
  obtain ⟨g2, c2, ev, hle, _⟩ := tab_at h.s i hi (bn 0)
  injection ev with e1 e2 e3
  exact ⟨g2, e1, e2⟩
theorem RT.at_s {W : World} {u : Un} {V : Vs} {B i gt : Nat} (h : RT W B u V) (hv : V.s.a = some ⟨gt, 0, none⟩) (hi : i < u.state.length) :
    W.cell? ⟨gt, i, none⟩ = some (bn (u.state.getD i 0)) ∧ W.frozen? ⟨gt, i, none⟩ = false := by
  obtain ⟨g2, c2, ev, hle, cell⟩ := tab_at h.s i hi (bn 0)
  injection ev with e1 e2 e3
  rw [hv] at e1
  injection e1 with e1
  injection e1 with e1
  subst e1
  rw [bn_get] at cell
  have h2 := h.s
  rw [hv, e2] at h2
  exact ⟨cell, own_free h2⟩
theorem RT.has_w {W : World} {u : Un} {V : Vs} {B i : Nat} (h : RT W B u V) (hi : i < u.weight.length) : ∃ gt, V.w.a = some ⟨gt, 0, none⟩ ∧ V.w.n = u.weight.length := by
  obtain ⟨g2, c2, ev, hle, _⟩ := tab_at h.w i hi (iv 0)
  injection ev with e1 e2 e3
  exact ⟨g2, e1, e2⟩
theorem RT.at_w {W : World} {u : Un} {V : Vs} {B i gt : Nat} (h : RT W B u V) (hv : V.w.a = some ⟨gt, 0, none⟩) (hi : i < u.weight.length) :
    W.cell? ⟨gt, i, none⟩ = some (iv (u.weight.getD i 0)) ∧ W.frozen? ⟨gt, i, none⟩ = false := by
  obtain ⟨g2, c2, ev, hle, cell⟩ := tab_at h.w i hi (iv 0)
  injection ev with e1 e2 e3
  rw [hv] at e1
  injection e1 with e1
  injection e1 with e1
  subst e1
  rw [iv_get] at cell
  have h2 := h.w
  rw [hv, e2] at h2
  exact ⟨cell, own_free h2⟩
theorem RT.has_n {W : World} {u : Un} {V : Vs} {B i : Nat} (h : RT W B u V) (hi : i < u.number.length) : ∃ gt, V.n.a = some ⟨gt, 0, none⟩ ∧ V.n.n = u.number.length := by
  obtain ⟨g2, c2, ev, hle, _⟩ := tab_at h.n i hi (nv 0)
  injection ev with e1 e2 e3
  exact ⟨g2, e1, e2⟩
theorem RT.at_n {W : World} {u : Un} {V : Vs} {B i gt : Nat} (h : RT W B u V) (hv : V.n.a = some ⟨gt, 0, none⟩) (hi : i < u.number.length) :
    W.cell? ⟨gt, i, none⟩ = some (nv (u.number.getD i 0)) ∧ W.frozen? ⟨gt, i, none⟩ = false := by
  obtain ⟨g2, c2, ev, hle, cell⟩ := tab_at h.n i hi (nv 0)
  injection ev with e1 e2 e3
  rw [hv] at e1
  injection e1 with e1
  injection e1 with e1
  subst e1
  rw [nv_get] at cell
  have h2 := h.n
  rw [hv, e2] at h2
  exact ⟨cell, own_free h2⟩
theorem RT.has_r {W : World} {u : Un} {V : Vs} {B i : Nat} (h : RT W B u V) (hi : i < u.ring.length) : ∃ gt, V.r.a = some ⟨gt, 0, none⟩ ∧ V.r.n = u.ring.length := by
  obtain ⟨g2, c2, ev, hle, _⟩ := tab_at h.r i hi (bn 0)
  injection ev with e1 e2 e3
  exact ⟨g2, e1, e2⟩
theorem RT.at_r {W : World} {u : Un} {V : Vs} {B i gt : Nat} (h : RT W B u V) (hv : V.r.a = some ⟨gt, 0, none⟩) (hi : i < u.ring.length) :
    W.cell? ⟨gt, i, none⟩ = some (bn (u.ring.getD i 0)) ∧ W.frozen? ⟨gt, i, none⟩ = false := by
  obtain ⟨g2, c2, ev, hle, cell⟩ := tab_at h.r i hi (bn 0)
  injection ev with e1 e2 e3
  rw [hv] at e1
  injection e1 with e1
  injection e1 with e1
  subst e1
  rw [bn_get] at cell
  have h2 := h.r
  rw [hv, e2] at h2
  exact ⟨cell, own_free h2⟩
theorem ul3 {u : Un} {c : Nat} {l : List Int} {d : Int} {one : Bool} (hk : u.p.kind = 3) : u.learn c l d one = { u with chance := u.chance.set (u.state.getD (placeN u.h c u.p.size) 0) (u.chance.getD (u.state.getD (placeN u.h c u.p.size) 0) 0 + Int.tdiv ((if one then 65535 else 0) - u.chance.getD (u.state.getD (placeN u.h c u.p.size) 0) 0) 64), state := u.state.set (placeN u.h c u.p.size) (nxN (u.state.getD (placeN u.h c u.p.size) 0) one) } := by unfold Un.learn; simp [hk]
theorem ul6 {u : Un} {c : Nat} {l : List Int} {d : Int} {one : Bool} (hk : u.p.kind = 6) : u.learn c l d one = { u with weight := u.weight.set (placeN u.h c u.p.size) (into (u.weight.getD (placeN u.h c u.p.size) 0 + (((if one then 4095 else 0) - sq d) * u.p.rate * (at0 l u.p.a - at0 l u.p.b) + 512) / 1024) 0 65535) } := by unfold Un.learn; simp [hk]
theorem ul9 {u : Un} {c : Nat} {l : List Int} {d : Int} {one : Bool} (hk : u.p.kind = 9) : u.learn c l d one = u.slow (placeN u.h c u.p.size * 32 + ((at0 l u.p.a + 2047) / 128).toNat) one := by unfold Un.learn; simp [hk]
theorem ul8 {u : Un} {c : Nat} {l : List Int} {d : Int} {one : Bool} (hk : u.p.kind = 8) : u.learn c l d one = { u with weight := (u.weight.set (2 * u.state.getD (placeN u.h c u.p.size) 0) (into (u.weight.getD (2 * u.state.getD (placeN u.h c u.p.size) 0) 0 + (((if one then 4095 else 0) - sq d) * at0 l u.p.a + 4096) / 8192) (-1048576) 1048576)).set (2 * u.state.getD (placeN u.h c u.p.size) 0 + 1) (into (u.weight.getD (2 * u.state.getD (placeN u.h c u.p.size) 0 + 1) 0 + (((if one then 4095 else 0) - sq d) + 16) / 32) (-1048576) 1048576), state := u.state.set (placeN u.h c u.p.size) (nxN (u.state.getD (placeN u.h c u.p.size) 0) one) } := by unfold Un.learn; simp [hk]
theorem getD_set_ne {l : List Int} {i j : Nat} {x : Int} (h : i ≠ j) : (l.set i x).getD j 0 = l.getD j 0 := by rw [List.getD_eq_getElem?_getD, List.getElem?_set_ne h, List.getD_eq_getElem?_getD]
theorem ul7 {u : Un} {c : Nat} {l : List Int} {d : Int} {one : Bool} (hk : u.p.kind = 7) : u.learn c l d one = { u with weight := mixLearn u.weight (placeN u.h c u.p.size * u.p.b.toNat) l u.p.a (((if one then 4095 else 0) - sq d) * u.p.rate) u.p.b.toNat } := by unfold Un.learn; simp [hk]
theorem mixLearn_get (w : List Int) (a : Nat) (l : List Int) (b e : Int) (j : Nat) : ∀ k, k ≤ j → (mixLearn w a l b e k).getD (a + j) 0 = w.getD (a + j) 0
  | 0, _ => by unfold mixLearn; rfl
  | k + 1, h => by
    unfold mixLearn
    rw [getD_set_ne (by omega)]
    exact mixLearn_get w a l b e j k (by omega)
/-- A unit learns. -/
def LearnsIn (w : World) (g o : Nat) (u' : Un) (V : Vs) (B : Nat) (e : Ending) (w' : World) : Prop := e = .returned (.tuple #[]) ∧ Lrn w w' g o u' V B
/-- A chance with its count, in a unit that learns. -/
theorem slow_in {w W : World} {g o : Nat} {u : Un} {V : Vs} {B : Nat} (h : Lrn w W g o u V B) (hs : Sep V g) (ix : Nat) (one : Bool) (hi : ix < u.chance.length) (hj : ix < u.count.length)
    (h1 : 0 ≤ u.chance.getD ix 0 ∧ u.chance.getD ix 0 ≤ 4194303) (h2 : 0 ≤ u.count.getD ix 0 ∧ u.count.getD ix 0 ≤ 1023) (hl : 1 ≤ u.p.limit ∧ u.p.limit ≤ 1023) :
    Calls Tryz.prog 57 #[.pointer (some ⟨g, o, none⟩), .int .i64 (ix : Int), .int .i64 (if one then 1 else 0)] W (LearnsIn w g o (u.slow ix one) V B) := by
  obtain ⟨gc, xc, ec, hlec, _⟩ := tab_at h.t.c ix hi (iv 0)
  obtain ⟨gk, xk, ek, hlek, _⟩ := tab_at h.t.k ix hj (iv 0)
  obtain ⟨⟨ca, cn, cc⟩, ⟨ka, kn1, kc⟩, vs, vw, vn, vr⟩ := V
  injection ec with e1 e2 e3
  subst e1 e2 e3
  injection ek with e1 e2 e3
  subst e1 e2 e3
  refine (slow_any g o ix B gc gk _ _ _ _ u vs vw vn vr one W h.c h.t rfl rfl hi hj h1 h2 hl (fun e => hs.ck gc rfl (congrArg some e.symm)) (fun e => hs.gc (congrArg some e.symm)) (fun e => hs.gk (congrArg some e.symm))).mono ?_
  rintro e w' ⟨he, rfl⟩
  exact ⟨he, ((h.drew.put_c hs rfl hi _).drew.put_k hs rfl hj _)⟩
end Go.Proofs.YtkfdbibgjoaefaaGreatDoor
/-
  The document's blend: a unit at a byte's end.
-/
namespace Go.Proofs.YtkfdbibgjoaefaaGreatDoor
open Go.RowKit
set_option linter.unusedVariables false
set_option linter.unusedSimpArgs false

theorem oth {W : World} {a b : Addr} {u v : Value} (h : W.cell? b = some v) (hne : a ≠ b) : (W.setCell a u).cell? b = some v := (by first | exact (World.cell?_setCell_other _ _ hne).trans h | exact (World.cell?_setCell_other _ _ _ _ hne).trans h | exact (World.cell?_setCell_other _ _ _ hne).trans h | exact (World.cell?_setCell_other _ hne).trans h)
theorem sme {W : World} {a : Addr} {u v : Value} (h : W.cell? a = some u) : (W.setCell a v).cell? a = some v := by
  first | exact World.cell?_setCell_same _ _ h | exact World.cell?_setCell_same _ _ _ h | exact World.cell?_setCell_same _ _ _ _ h | exact World.cell?_setCell_same' _ _ _ (by rw [h]; rfl)
/-- On the way through a byte's end (and a match that is looked for): all but the unit's ring, its place and its length stays. -/
structure Wh (w W : World) (g o : Nat) (u : Un) (V : Vs) (B : Nat) : Prop where
  c : RC W g o u V
  t : RT W B u V
  b : But (fun i => V.has i ∨ i = g) w W
  k : ∀ p : Addr, p.block = g → p ≠ ⟨g, o + 14, none⟩ → p ≠ ⟨g, o + 15, none⟩ → ∀ x, w.cell? p = some x → W.cell? p = some x
  f : ∀ j, w.frozen? ⟨g, j, none⟩ = false → W.frozen? ⟨g, j, none⟩ = false
theorem Wh.start {w : World} {g o : Nat} {u : Un} {V : Vs} {B : Nat} (c : RC w g o u V) (t : RT w B u V) : Wh w w g o u V B := ⟨c, t, But.refl _ _, fun _ _ _ _ _ h => h, fun _ h => h⟩
theorem Wh.on {w W W' : World} {g o : Nat} {u : Un} {V : Vs} {B : Nat} (h : Wh w W g o u V B) (b : Below W.heap.size W W') : Wh w W' g o u V B :=
  ⟨h.c.below b, h.t.below b, h.b.trans (But.of_below b), fun p hp h1 h2 x hx => keeps b (h.k p hp h1 h2 x hx), fun j hj => (b.frozen (p := ⟨g, j, none⟩) (show g < W.heap.size from lt_cell h.c.p0)).trans (h.f j hj)⟩
theorem Wh.drew {w W : World} {g o : Nat} {u : Un} {V : Vs} {B : Nat} (h : Wh w W g o u V B) : Wh w W.drew g o u V B := h.on (Below.refl _ W).drew
theorem Wh.put_r {w W : World} {g o gt i : Nat} {u : Un} {V : Vs} {B : Nat} (h : Wh w W g o u V B) (hs : Sep V g) (hv : V.r.a = some ⟨gt, 0, none⟩) (hi : i < u.ring.length) (x : Nat) :
    Wh w (W.setCell ⟨gt, i, none⟩ (bn x)) g o { u with ring := u.ring.set i x } V B := by
  have L := (Lrn.start h.c h.t).put_r hs hv hi x
  have hb : V.r.b = some gt := by unfold Sw.b; rw [hv]; rfl
  refine ⟨L.c, L.t, h.b.set _ _ (.inl (.inl (.inr (.inr (.inr (.inr (.inr hb))))))), fun p hp h1 h2 y hy => oth (h.k p hp h1 h2 y hy) (fun e => hs.gr ?_), fun j hj => by rw [World.frozen?_setCell]; exact h.f j hj⟩
  rw [hb, show gt = p.block from congrArg Addr.block e, hp]
theorem Wh.put_pos {w W : World} {g o : Nat} {u : Un} {V : Vs} {B : Nat} (h : Wh w W g o u V B) (hs : Sep V g) (x : Nat) : Wh w (W.setCell ⟨g, o + 14, none⟩ (.int .i64 (x : Nat))) g o { u with pos := x } V B :=
  ⟨⟨oth h.c.p0 (by intro e; injection e; omega), oth h.c.p1 (by intro e; injection e; omega), oth h.c.p2 (by intro e; injection e; omega), oth h.c.p3 (by intro e; injection e; omega), oth h.c.p4 (by intro e; injection e; omega), oth h.c.p5 (by intro e; injection e; omega), oth h.c.p6 (by intro e; injection e; omega), oth h.c.h (by intro e; injection e; omega), oth h.c.c (by intro e; injection e; omega), oth h.c.k (by intro e; injection e; omega), oth h.c.s (by intro e; injection e; omega), oth h.c.w (by intro e; injection e; omega), oth h.c.n (by intro e; injection e; omega), oth h.c.r (by intro e; injection e; omega), sme h.c.pos, oth h.c.len (by intro e; injection e; omega)⟩, ⟨own_off h.t.c _ _ hs.gc, own_off h.t.k _ _ hs.gk, own_off h.t.s _ _ hs.gs, own_off h.t.w _ _ hs.gw, own_off h.t.n _ _ hs.gn, own_off h.t.r _ _ hs.gr⟩, h.b.set _ _ (.inl (.inr rfl)), fun p hp h1 h2 y hy => oth (h.k p hp h1 h2 y hy) (fun e => h1 e.symm), fun j hj => by rw [World.frozen?_setCell]; exact h.f j hj⟩
theorem Wh.put_len {w W : World} {g o : Nat} {u : Un} {V : Vs} {B : Nat} (h : Wh w W g o u V B) (hs : Sep V g) (x : Nat) : Wh w (W.setCell ⟨g, o + 15, none⟩ (.int .i64 (x : Nat))) g o { u with len := x } V B :=
  ⟨⟨oth h.c.p0 (by intro e; injection e; omega), oth h.c.p1 (by intro e; injection e; omega), oth h.c.p2 (by intro e; injection e; omega), oth h.c.p3 (by intro e; injection e; omega), oth h.c.p4 (by intro e; injection e; omega), oth h.c.p5 (by intro e; injection e; omega), oth h.c.p6 (by intro e; injection e; omega), oth h.c.h (by intro e; injection e; omega), oth h.c.c (by intro e; injection e; omega), oth h.c.k (by intro e; injection e; omega), oth h.c.s (by intro e; injection e; omega), oth h.c.w (by intro e; injection e; omega), oth h.c.n (by intro e; injection e; omega), oth h.c.r (by intro e; injection e; omega), oth h.c.pos (by intro e; injection e; omega), sme h.c.len⟩, ⟨own_off h.t.c _ _ hs.gc, own_off h.t.k _ _ hs.gk, own_off h.t.s _ _ hs.gs, own_off h.t.w _ _ hs.gw, own_off h.t.n _ _ hs.gn, own_off h.t.r _ _ hs.gr⟩, h.b.set _ _ (.inl (.inr rfl)), fun p hp h1 h2 y hy => oth (h.k p hp h1 h2 y hy) (fun e => h2 e.symm), fun j hj => by rw [World.frozen?_setCell]; exact h.f j hj⟩
/-- A byte's end. -/
def WholeIn (w : World) (g o : Nat) (u' : Un) (V : Vs) (B : Nat) (e : Ending) (w' : World) : Prop := e = .returned (.tuple #[]) ∧ Wh w w' g o u' V B

set_option maxRecDepth 10000 in
theorem whole_no (r g o C whole : Nat) (u : Un) (V : Vs) (B : Nat) (w : World) (hc : RC w g o u V) (ht : RT w B u V) (hkr : 1 ≤ u.p.kind ∧ u.p.kind ≤ 9) (hk : u.p.kind ≠ 4) :
    Calls Tryz.prog 36 #[.pointer (some ⟨r, 0, none⟩), .pointer (some ⟨g, o, none⟩)] w (WholeIn w g o (u.whole C whole) V B) := by
  have hres : u.whole C whole = u := by unfold Un.whole; simp [hk]
  rw [hres]
  have H := hid (Wh.start hc ht)
  have p0 := hc.p0
  have n4 : ((u.p.kind : Int) != 4) = true := by simp only [bne_iff_ne, ne_eq]; omega
  clear hc ht hkr
  go_enter Tryz.func36, Tryz.ntmps36
  go_wp2_with fail
  refine bodyPost_ret (results_none rfl _ _ _) rfl ?_
  exact ⟨rfl, H.out⟩
end Go.Proofs.YtkfdbibgjoaefaaGreatDoor
/-
  The document's blend in memory; Leans, Guess (written by tools/stage12/gen_rln.py).
-/
namespace Go.Proofs.YtkfdbibgjoaefaaGreatDoor
open Go.RowKit
set_option linter.unusedVariables false
set_option linter.unusedSimpArgs false

theorem rinfo3 : (Tryz.prog.info? 3).map (fun i => (i.zero, i.size, i.bytes)) = some (some (.int .i64 0), 1, 8) := by kernel_rfl
theorem one_size (p : Pt) (i : Int) (h : p.one i) : ∃ sz : Nat, p.size = (sz : Int) ∧ sz ≤ 16 := by
  have hz : p.fields.size = p.size := by rw [h.1]
  have hf := h.2
  unfold Pt.fields at hz
  unfold Pt.fit at hf
  have big : 0 < p.places → ∃ sz : Nat, p.size = (sz : Int) ∧ sz ≤ 16 := fun hp => by
    obtain ⟨a, b⟩ := places_size p hp
    exact ⟨p.size.toNat, by omega, by omega⟩
  by_cases h1 : p.kind = 1
  · rw [if_pos h1] at hz; exact ⟨0, by rw [← hz]; rfl, by omega⟩
  rw [if_neg h1] at hz hf
  by_cases h2 : p.kind = 2
  · rw [if_pos h2] at hf; exact big hf.1
  rw [if_neg h2] at hz hf
  by_cases h3 : p.kind = 3 ∨ p.kind = 4
  · rw [if_pos h3] at hf; exact big hf
  rw [if_neg h3] at hz hf
  by_cases h5 : p.kind = 5
  · rw [if_pos h5] at hz; exact ⟨0, by rw [← hz]; rfl, by omega⟩
  rw [if_neg h5] at hz hf
  by_cases h6 : p.kind = 6
  · rw [if_pos h6] at hf; exact big hf.1
  rw [if_neg h6] at hf
  by_cases h7 : p.kind = 7
  · rw [if_pos h7] at hf; exact big hf.1
  rw [if_neg h7] at hf
  by_cases h8 : p.kind = 8
  · rw [if_pos h8] at hf; exact big hf.1
  rw [if_neg h8] at hf
  by_cases h9 : p.kind = 9
  · rw [if_pos h9] at hf; exact big hf.1
  rw [if_neg h9] at hf
  exact hf.elim
theorem leansGo_app (c bits : Nat) : ∀ (x y : List Un) (a : List Int), leansGo c bits (x ++ y) a = leansGo c bits y (leansGo c bits x a)
  | [], y, a => rfl
  | u :: x, y, a => by
    show leansGo c bits (x ++ y) _ = leansGo c bits y (leansGo c bits x _)
    exact leansGo_app c bits x y _
theorem rleans_snoc (c bits : Nat) (l : List Un) (i : Nat) (h : i < l.length) : leansGo c bits (l.take (i + 1)) [] = leansGo c bits (l.take i) [] ++ [l[i].lean c bits (leansGo c bits (l.take i) [])] := by
  rw [List.take_succ_eq_append_getElem h, leansGo_app]
  rfl
/-- Where the units' tables lie: apart from one another, from the units and from the blend. -/
structure Lay (Vf : Nat → Vs) (r g N : Nat) : Prop where
  sep : ∀ i, i < N → Sep (Vf i) g
  apt : ∀ i j, i < N → j < N → i ≠ j → ∀ x, (Vf i).has x → ¬ (Vf j).has x
  rs : ∀ i, i < N → ¬ (Vf i).has r
  rg : r ≠ g
/-- The document's blend in memory. -/
structure BM (W : World) (r g N cap : Nat) (b : Bl) (Vf : Nat → Vs) (B : Nat) : Prop where
  rb : RB W r g N cap b.c b.bits b.whole
  n : b.l.length = N
  nc : N ≤ cap
  c : ∀ i (h : i < b.l.length), RC W g (i * 16) b.l[i] (Vf i)
  t : ∀ i (h : i < b.l.length), RT W B b.l[i] (Vf i)
  fg : ∀ k, W.frozen? ⟨g, k, none⟩ = false
  fr : ∀ k, W.frozen? ⟨r, k, none⟩ = false
  hh : ∀ i (h : i < b.l.length), b.l[i].h < 4294967296
  ok : b.Ok
theorem lt_frozen {w : World} {g : Nat} {v : Value} {k : Nat} (h : w.cell? ⟨g, k, none⟩ = some v) : g < w.heap.size := lt_cell h
theorem BM.below {W W' : World} {r g N cap : Nat} {b : Bl} {Vf : Nat → Vs} {B : Nat} (h : BM W r g N cap b Vf B) (k : Below W.heap.size W W') (hg : g < W.heap.size) : BM W' r g N cap b Vf B :=
  ⟨h.rb.below k, h.n, h.nc, fun i hi => (h.c i hi).below k, fun i hi => (h.t i hi).below k, fun j => (k.frozen (p := ⟨g, j, none⟩) hg).trans (h.fg j), fun j => (k.frozen (p := ⟨r, j, none⟩) (show r < W.heap.size from lt_cell h.rb.l)).trans (h.fr j), h.hh, h.ok⟩
theorem Bl.Ok.n16 {b : Bl} (h : b.Ok) : 1 ≤ b.l.length ∧ b.l.length ≤ 16 := by
  have := ((rightP_ok _).1 h.parts).1
  rw [List.length_map] at this
  exact this
theorem BM.inside {W : World} {r g N cap : Nat} {b : Bl} {Vf : Nat → Vs} {B : Nat} (h : BM W r g N cap b Vf B) : g < W.heap.size := by have := h.ok.n16; exact lt_cell (h.c 0 (by omega)).p0
theorem Bl.Ok.cr {b : Bl} (h : b.Ok) : 1 ≤ b.c ∧ b.c ≤ 255 := by
  have h1 := h.c
  have h2 := h.bits
  have h3 : 2 ^ (b.bits + 1) ≤ 2 ^ 8 := Nat.pow_le_pow_right (by decide) (by omega)
  have h4 : 1 ≤ 2 ^ b.bits := Nat.one_le_two_pow
  have h5 : (2 : Nat) ^ 8 = 256 := by decide
  omega
theorem one_cell (w : World) (v : Value) (t : TypeId) (n : Nat) : ∀ (j : Nat) (u : Value), [v][j]? = some u → (w.alloc (.cells #[v] t)).cell? (Addr.add ⟨w.heap.size, 0, none⟩ j) = some u := by
  intro j u hj
  cases j with
  | zero =>
    have := row_cell (heap_alloc_new w (.cells #[v] t)) 0
    simp only [List.getElem?_cons_zero, Option.some.injEq] at hj
    subst hj
    exact this
  | succ j => simp at hj
theorem getLast_at (l : List Int) (h : 0 < l.length) : l[l.length - 1]? = some (l.getLastD 0) := by
  rw [List.getLastD_eq_getLast?, List.getLast?_eq_getElem?]
  have : l.length - 1 < l.length := by omega
  rw [List.getElem?_eq_getElem this]
  rfl
set_option maxRecDepth 10000 in
set_option maxHeartbeats 4000000 in
theorem rLeans_any (r g N cap : Nat) (b : Bl) (Vf : Nat → Vs) (B : Nat) (w : World) (h : BM w r g N cap b Vf B) :
    Calls Tryz.prog 19 #[.pointer (some ⟨r, 0, none⟩)] w fun e w' => ∃ A c, e = .returned (.slice A N c) ∧ w'.ownsRow w.heap.size 3 1 (.slice A N c) N (b.leans.map iv) ∧ Below w.heap.size w w' := by
  obtain ⟨i3, hi3, hz3, hs3, hb3⟩ := info_parts rinfo3
  have hN := h.ok.n16
  rw [h.n] at hN
  have hbn := h.n
  have hl0 := h.rb.l
  have HL : Hid (∀ W, Below w.heap.size w W → W.cell? ⟨r, 0, none⟩ = some (.slice (some ⟨g, 0, none⟩) N cap)) := hid (fun W k => keeps k hl0)
  have HLN : Hid (∀ W, Below w.heap.size w W → ∀ i (hi : i < N) la lc (l : List Int), l = leansGo b.c b.bits (b.l.take i) [] → W.ownsRow w.heap.size 3 1 (.slice la i lc) i (l.map iv) → Calls Tryz.prog 38 #[.pointer (some ⟨r, 0, none⟩), .int .i64 (i : Int), .slice la i lc] W fun e w' => e = .returned (.int .i64 ((b.l[i]'(by rw [hbn]; exact hi)).lean b.c b.bits l)) ∧ Below W.heap.size W w') := hid (fun W k i hi la lc l hl ho => by
    have hi' : i < b.l.length := by rw [h.n]; exact hi
    have hm := h.below k h.inside
    obtain ⟨sz, e1, e2⟩ := one_size _ _ (h.ok.one i hi')
    refine lean_any r g N cap i b.c b.bits b.whole b.l[i] (Vf i) B w.heap.size l la lc W hm.rb (hm.c i hi') (hm.t i hi') hi hN.2 h.nc sz e1 e2 h.ok.cr h.ok.bits (h.hh i hi') (h.ok.each _ (List.getElem_mem hi')) (h.ok.one i hi') ?_ ho ?_
    · rw [hl, leansGo_len, List.length_take, List.length_nil]; omega
    · rw [hl]
      exact leansGo_range b.c b.bits b.whole _ [] (fun _ h => absurd h List.not_mem_nil) (fun u hu => by
        obtain ⟨j, hj, rfl⟩ := List.getElem_of_mem (List.mem_of_mem_take hu)
        exact ⟨h.ok.each _ (List.getElem_mem hj), j, h.ok.one j hj⟩))
  have HSN : Hid (∀ i (hi : i < N), leansGo b.c b.bits (b.l.take (i + 1)) [] = leansGo b.c b.bits (b.l.take i) [] ++ [(b.l[i]'(by rw [hbn]; exact hi)).lean b.c b.bits (leansGo b.c b.bits (b.l.take i) [])]) := hid (fun i hi => rleans_snoc _ _ _ i (by rw [h.n]; exact hi))
  have HEND : Hid (leansGo b.c b.bits (b.l.take N) [] = b.leans) := hid (by rw [List.take_of_length_le (by omega)]; rfl)
  clear h hl0
  go_enter Tryz.func19, Tryz.ntmps19
  go_upto_region 3 with fail
  go_loopw [3, 4] (fun v3 v4 wr => ∃ (i : Nat) (l : List Int), i ≤ N ∧ v4 = .int .i64 (i : Int) ∧ Hid (l = leansGo b.c b.bits (b.l.take i) []) ∧ Hid (wr.ownsRow w.heap.size 3 1 v3 i (l.map iv)) ∧ Hid (Below w.heap.size w wr)) (fun _ v4 _ => N - (intOf v4).toNat)
  case atStart => exact ⟨0, [], by omega, rfl, hid rfl, hid (World.ownsRow_nil _ _ _ _), hid (Below.refl _ _)⟩
  case round =>
    obtain ⟨i, l, hi, rfl, HE, HO, HB⟩ := hrel
    obtain ⟨Ao, co, rfl, hoc, hom⟩ := own_slice HO.out
    have hl0 := HL.out wr HB.out
    by_cases hlt : i < N
    · have hz : (i : Int) < (N : Int) := by omega
      have HC := hid (HLN.out wr HB.out i hlt Ao co l HE.out HO.out)
      have hsn := HSN.out i hlt
      rw [← HE.out] at hsn
      obtain ⟨d, hd⟩ : ∃ d, (b.l[i]'(by omega)).lean b.c b.bits l = d := ⟨_, rfl⟩
      rw [hd] at hsn HC
      replace hsn := hid hsn
      clear HE hd
      go_wp2_with (first
        | (go_at_call 38; refine HC.out.mono ?_; rintro e W2 ⟨rfl, b2⟩; have O2 := hid (own_below HO.out b2); have BB := hid (HB.out.trans (b2.mono HB.out.size)); clear b2)
        | (at_builtin; refine wpList_append_own _ rfl (.tmp 14) (.tmp 19) 46 rfl w.heap.size 3 i3 _ 1 8 Tryz.underlying46 hi3 hz3 hs3 hb3 rfl (by decide) (.slice Ao i co) i (l.map iv) rfl (O2.out.alloc _) ⟨W2.heap.size, 0, none⟩ 1 1 [.int .i64 d] rfl rfl (one_cell W2 _ _ 0) (by intro u hu; simp at hu; subst hu; rfl) (by unfold maxLen; omega) (by omega) (by have := BB.out.size; simp; omega) ?_
           intro v1 w3 hown1 hg1 _
           have bl2 : Hid (Below w.heap.size w w3) := hid ((BB.out.alloc BB.out.size _).grown hg1 (by have := BB.out.size; simp; omega) (fun g hg => (O2.out.lt g hg).1))
           replace hown1 := hid hown1))
      go_roundw
      case rel => exact ⟨i + 1, l ++ [d], by omega, by go_num, hid hsn.out.symm, hid (by rw [List.map_append]; exact hown1.out), bl2⟩
      case measure => simp [intOf]; omega
    · obtain rfl : i = N := by omega
      have e := HE.out.trans HEND.out
      clear HE
      subst e
      go_wp2_with fail
      go_ret
      exact ⟨_, _, rfl, HO.out, HB.out⟩
set_option maxRecDepth 10000 in
set_option maxHeartbeats 4000000 in
theorem rGuess_any (r g N cap : Nat) (b : Bl) (Vf : Nat → Vs) (B : Nat) (w : World) (h : BM w r g N cap b Vf B) :
    Calls Tryz.prog 20 #[.pointer (some ⟨r, 0, none⟩)] w fun e w' => e = .returned (.int .i64 b.guess) ∧ Below w.heap.size w w' := by
  have hN := h.ok.n16
  rw [h.n] at hN
  have HL := hid (rLeans_any r g N cap b Vf B w h)
  have hll : b.leans.length = N := by rw [b.leans_len, h.n]
  have hlast := getLast_at b.leans (by omega)
  have hrl := h.ok.range (b.leans.getLastD 0) (List.mem_of_getElem? hlast)
  unfold Lean1 at hrl
  have HQ := hid (fun W => refSquash_any (b.leans.getLastD 0) W (by omega) (by omega))
  have hg : Hid (b.guess = 16 * sq (b.leans.getLastD 0)) := hid rfl
  have hsq := b.guess_range
  rw [hg.out] at hsq
  rw [hll] at hlast
  obtain ⟨m, hm⟩ : ∃ m, N - 1 = m := ⟨_, rfl⟩
  rw [hm] at hlast
  have em : IntKind.i64.wrap ((N : Int) - 1) = (m : Int) := by rw [(wr_in ((N : Int) - 1) (by omega)).out]; omega
  have hmN : (m : Int) < (N : Int) := by omega
  generalize b.leans.getLastD 0 = d at *
  generalize b.leans = L at *
  rw [hg.out]
  obtain ⟨sd, hsd⟩ : ∃ x, sq d = x := ⟨_, rfl⟩
  rw [hsd] at HQ hsq ⊢
  have ew := (wr_in (16 * sd) (by omega)).out
  have hcell : Hid (∀ (W : World) A c Bb, W.ownsRow Bb 3 1 (.slice A N c) N (L.map iv) → ∃ gl, A = some ⟨gl, 0, none⟩ ∧ W.cell? ⟨gl, m, none⟩ = some (.int .i64 d)) := hid (fun W A c Bb ho => by
    obtain ⟨g2, c2, ev, hle, cell⟩ := tab_at ho m (by omega) (iv 0)
    injection ev with e1 e2 e3
    refine ⟨g2, e1, ?_⟩
    rw [cell, List.getD_eq_getElem?_getD, List.getElem?_map, hlast]
    rfl)
  clear h hrl hsd hlast hll hg
  go_enter Tryz.func20, Tryz.ntmps20
  go_upto_region 2 with (go_at_call 19; refine HL.out.mono ?_; rintro e W1 ⟨A, c, rfl, o1, b1⟩)
  obtain ⟨gl, rfl, hc⟩ := hcell.out W1 A c _ o1
  replace b1 := hid b1
  clear o1 HL hcell
  go_wp2_with (go_at_call 39; refine (HQ.out W1).mono ?_; rintro e W2 ⟨rfl, b2⟩)
  go_ret
  exact ⟨ret_i64 (by first | rfl | exact ew | simp [ew]), bel_on b1.out b2⟩
end Go.Proofs.YtkfdbibgjoaefaaGreatDoor
