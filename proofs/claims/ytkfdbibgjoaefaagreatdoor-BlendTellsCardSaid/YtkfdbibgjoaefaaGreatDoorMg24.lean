/-
  Merged: Rl9 Rm Rmu Rlr Rcx.
-/
import Derived.Test.YtkfdbibgjoaefaaGreatDoorMg16
import Derived.Test.YtkfdbibgjoaefaaGreatDoorMg20
import Derived.Test.YtkfdbibgjoaefaaGreatDoorMg21
import Derived.Test.YtkfdbibgjoaefaaGreatDoorMg22
import Derived.Test.YtkfdbibgjoaefaaGreatDoorMg23
import Derived.Test.YtkfdbibgjoaefaaGreatDoorMg19
import Derived.StillTailTactics
/-
  The document's blend: how a unit learns (a chance in a row of 32).
-/
namespace Go.Proofs.YtkfdbibgjoaefaaGreatDoor
open Go.RowKit
set_option linter.unusedVariables false
set_option linter.unusedSimpArgs false

set_option maxRecDepth 10000 in
set_option maxHeartbeats 16000000 in
theorem learn_9 (r g N cap o C bits whole : Nat) (u : Un) (V : Vs) (B : Nat) (l : List Int) (vl : Value) (d : Int) (one : Bool) (w : World)
    (hb : RB w r g N cap C bits whole) (hc : RC w g o u V) (ht : RT w B u V) (hs : Sep V g) (sz : Nat) (hsz : u.p.size = (sz : Int)) (hs16 : sz ≤ 16) (hC : 1 ≤ C ∧ C ≤ 255) (hh : u.h < 4294967296)
    (hok : u.ok whole) (hd : -9223372036854775808 ≤ d ∧ d ≤ 9223372036854775807) (hsq : 0 ≤ sq d ∧ sq d ≤ 4095)
    (i : Nat) (hone : u.p.one (i : Int)) (Bl : Nat) (la : Option Addr) (ln lc : Nat) (hvl : vl = .slice la ln lc) (hlv : w.ownsRow Bl 3 1 (.slice la ln lc) l.length (l.map iv)) (hil : i ≤ l.length) (hlr : ∀ d ∈ l, Lean1 d) (hk : u.p.kind = 9) :
    Calls Tryz.prog 35 #[.pointer (some ⟨r, 0, none⟩), .pointer (some ⟨g, o, none⟩), vl, .int .i64 d, .int .i64 (if one then 1 else 0)] w (LearnsIn w g o (u.learn C l d one) V B) := by
  have HP := hid (fun w => r_place u.h C sz hh (by omega) hs16 w)
  obtain ⟨pl, hpl⟩ : ∃ pl, placeN u.h C (sz : Int) = pl := ⟨_, rfl⟩
  have hplt : pl < pw u.p.size := by rw [← hpl, hsz]; exact placeN_lt _ _ _ (by omega) (by omega)
  rw [hpl] at HP
  have HS := hid (fun w => refSquash_any d w hd.1 hd.2)
  obtain ⟨sd, hsd⟩ : ∃ x, sq d = x := ⟨_, rfl⟩
  rw [hsd] at HS hsq
  obtain ⟨bt, hbt⟩ : ∃ x : Int, (if one then 1 else 0) = x := ⟨_, rfl⟩
  have hbr : 0 ≤ bt ∧ bt ≤ 1 := by rw [← hbt]; cases one <;> simp
  obtain ⟨er0, her0⟩ : ∃ x : Int, 4095 * bt = x := ⟨_, rfl⟩
  obtain ⟨er, her⟩ : ∃ x : Int, er0 - sd = x := ⟨_, rfl⟩
  have herv : Hid (er = (if one then 4095 else 0) - sq d) := hid (by rw [← her, ← her0, ← hbt, hsd]; cases one <;> simp)
  have herr : -4095 ≤ er ∧ er ≤ 4095 := by omega
  have E1 := wr_in er0 (by omega)
  have E2 := wr_in er (by omega)
  rw [hbt]
  have HC := hid hc
  have HT := hid ht
  have HB := hid hb
  have HM := hid (fun w => hnp_made (w := w) u 38)
  obtain ⟨p0, p1, p2, p3, p4, p5, p6, p7, p8, p9, p10, p11, p12, p13, p14, p15⟩ := hc
  obtain ⟨b0, b1, b2, b3⟩ := hb
  rw [hsz] at HM p1
  subst hvl
  have hok2 := hok
  unfold Un.ok at hok2
  simp [hk] at hok2
  obtain ⟨o1, o2, o3, o4⟩ := hok2
  have hf := hone.2
  simp [Pt.fit, inn, hk] at hf
  obtain ⟨fp, ⟨fa1, fa2⟩, fl1, fl2⟩ := hf
  obtain ⟨a, ha⟩ : ∃ a : Nat, u.p.a = (a : Int) := ⟨u.p.a.toNat, by omega⟩
  have hal : a < l.length := by omega
  obtain ⟨xa, hxa⟩ : ∃ x, l.getD a 0 = x := ⟨_, rfl⟩
  have hra : Lean1 xa := by have := at0_lean l hlr (a : Int); unfold at0 at this; rw [Int.toNat_natCast, hxa] at this; exact this
  have haa : at0 l (a : Int) = xa := by unfold at0; rw [Int.toNat_natCast, hxa]
  obtain ⟨gla, xla, ela, hlea, cla⟩ := tab_at hlv a hal (iv 0)
  rw [iv_get, hxa] at cla
  have hba : (a : Int) < (l.length : Int) := by omega
  injection ela with e1 e2 e3
  subst e1 e2 e3
  have Ta := hid cla
  obtain ⟨q, hq⟩ : ∃ q : Nat, (xa + 2047) / 128 = (q : Int) := ⟨((xa + 2047) / 128).toNat, by have := hra.1; omega⟩
  obtain ⟨hra1, hra2⟩ := hra
  have hq31 : q ≤ 31 := by omega
  obtain ⟨ix, hix⟩ : ∃ ix, pl * 32 + q = ix := ⟨_, rfl⟩
  have hixl : ix < u.chance.length := by rw [o1]; omega
  have hixk : ix < u.count.length := by rw [o2]; omega
  have hplz : pl ≤ 65536 := by
    have := Nat.pow_le_pow_right (n := 2) (by decide) hs16
    have e2 : pw u.p.size = 2 ^ sz := by unfold pw; rw [hsz]; rfl
    rw [e2] at hplt
    omega
  have hres : u.learn C l d one = u.slow ix one := by rw [ul9 hk, hsz, hpl, ha, haa, hq, Int.toNat_natCast, hix]
  rw [hres]
  have HSL := hid (fun W (h : Lrn w W g o u V B) => slow_in h hs ix one hixl hixk (o3.get ix hixl) (o4.get ix hixk) ⟨fl1, fl2⟩)
  rw [hbt] at HSL
  have HD := hid (fun w => r_down (xa + 2047) 128 (by omega) (by omega) (by omega) w)
  obtain ⟨z1, hz1⟩ : ∃ z, xa + 2047 = z := ⟨_, rfl⟩
  rw [hz1, ← hz1, hq, hz1] at HD
  obtain ⟨z2, hz2⟩ : ∃ z : Int, (pl : Int) * 32 = z := ⟨_, rfl⟩
  have hz3 : z2 + (q : Int) = (ix : Int) := by omega
  have F1 := wr_in z1 (by omega)
  have F2 := wr_in z2 (by omega)
  have F3 := wr_in (ix : Int) (by omega)
  rw [ha] at HM p2
  clear o1 o2 o3 o4 fp fl1 fl2 cla hlv hlr hixl hixk hplz hra1 hra2 fa1 fa2 hq
  have hkk : (u.p.kind : Int) = 9 := by omega
  rw [hkk] at p0 HM
  clear ht hok hplt hsq hd hbr hsd hbt
  go_enter Tryz.func35, Tryz.ntmps35
  go_upto_region 1 with fail
  have H1 := hid (HM.out w)
  clear p0 p1 p2 p3 p4 p5 p6 p7 p8 p9 p10 p11 p12 p13 p14 p15 HM b0 b1 b2 b3
  generalize (w.alloc (.cells #[.int .u8 9, .int .i64 (sz : Int), .int .i64 (a : Int), .int .i64 u.p.b, .int .i64 u.p.c, .int .i64 u.p.rate, .int .i64 u.p.limit] 38)) = W at H1 ⊢
  have HB1 := hid (HB.out.below H1.out.bel)
  have HC1 := hid (HC.out.below H1.out.bel)
  have HPq := still HP.out W
  have q1 := HB1.out.c
  have q2 := HC1.out.h
  have q3 := H1.out.p1
  rw [hsz] at q3
  generalize hU : w.heap.size = U at *
  go_quiet (with_reducible exact HPq.out _)
  have hbd := hid (below_drewN H1.out.bel nq)
  have H2 := hid (H1.out.later (show Below W.heap.size W (W.drewN nq) from below_drewN (Below.refl _ W) nq))
  clear H1 HPq q1 q2 q3 HB1 HC1
  generalize W.drewN nq = W at *
  have e1 := E1.out
  have e2 := E2.out
  go_upto_region 3 with (go_at_call 39; refine (HS.out _).mono ?_; rintro rj w5 ⟨rfl, b5⟩)
  have H3 := hid (H2.out.later b5)
  clear b5 H2 e1 e2 hbd
  generalize w5 = W at *
  have HL := hid ((Lrn.start HC.out HT.out).on H3.out.bel)
  have q0 := H3.out.p0
  rw [hkk] at q0
  have f1 := F1.out
  have f2 := F2.out
  have f3 := F3.out
  have q2 := H3.out.p2
  rw [ha] at q2
  have cl : W.cell? ⟨gla, a, none⟩ = some (.int .i64 xa) := keeps H3.out.bel Ta.out
  go_wp2_with (first | (go_at_call 60; (with_reducible refine (HD.out _).mono ?_); rintro rj wj ⟨rfl, ej⟩; rw [ej]; clear ej wj) | (go_at_call 57; refine (HSL.out _ HL.out).mono ?_; rintro rj w6 ⟨rfl, HL2⟩))
  go_end0
  exact ⟨rfl, HL2⟩
end Go.Proofs.YtkfdbibgjoaefaaGreatDoor
/-
  The document's blend: how any unit learns.
-/
namespace Go.Proofs.YtkfdbibgjoaefaaGreatDoor
open Go.RowKit
set_option linter.unusedVariables false
set_option linter.unusedSimpArgs false

theorem learn_any (r g N cap o C bits whole : Nat) (u : Un) (V : Vs) (B : Nat) (l : List Int) (d : Int) (one : Bool) (w : World)
    (hb : RB w r g N cap C bits whole) (hc : RC w g o u V) (ht : RT w B u V) (hs : Sep V g) (sz : Nat) (hsz : u.p.size = (sz : Int)) (hs16 : sz ≤ 16) (hC : 1 ≤ C ∧ C ≤ 255) (hh : u.h < 4294967296)
    (hok : u.ok whole) (hd : -9223372036854775808 ≤ d ∧ d ≤ 9223372036854775807) (hsq : 0 ≤ sq d ∧ sq d ≤ 4095)
    (i : Nat) (hone : u.p.one (i : Int)) (Bl : Nat) (la : Option Addr) (ln lc : Nat) (hlv : w.ownsRow Bl 3 1 (.slice la ln lc) l.length (l.map iv)) (hil : i ≤ l.length) (hlr : ∀ d ∈ l, Lean1 d)
    (hlV : ∀ x, (Value.slice la ln lc).ownBlock = some x → V.w.b ≠ some x) (hi16 : i ≤ 16) :
    Calls Tryz.prog 35 #[.pointer (some ⟨r, 0, none⟩), .pointer (some ⟨g, o, none⟩), .slice la ln lc, .int .i64 d, .int .i64 (if one then 1 else 0)] w (LearnsIn w g o (u.learn C l d one) V B) := by
  by_cases h2 : u.p.kind = 2
  · exact learn_2 r g N cap o C bits whole u V B l _ d one w hb hc ht hs sz hsz hs16 hC hh hok hd hsq i hone h2
  by_cases h3 : u.p.kind = 3
  · exact learn_3 r g N cap o C bits whole u V B l _ d one w hb hc ht hs sz hsz hs16 hC hh hok hd hsq h3
  by_cases h6 : u.p.kind = 6
  · exact learn_6 r g N cap o C bits whole u V B l _ d one w hb hc ht hs sz hsz hs16 hC hh hok hd hsq i hone Bl la ln lc rfl hlv hil hlr h6
  by_cases h7 : u.p.kind = 7
  · exact learn_7 r g N cap o C bits whole u V B l _ d one w hb hc ht hs sz hsz hs16 hC hh hok hd hsq i hone Bl la ln lc rfl hlv hil hlr hlV hi16 h7
  by_cases h8 : u.p.kind = 8
  · exact learn_8 r g N cap o C bits whole u V B l _ d one w hb hc ht hs sz hsz hs16 hC hh hok hd hsq i hone Bl la ln lc rfl hlv hil hlr h8
  by_cases h9 : u.p.kind = 9
  · exact learn_9 r g N cap o C bits whole u V B l _ d one w hb hc ht hs sz hsz hs16 hC hh hok hd hsq i hone Bl la ln lc rfl hlv hil hlr h9
  exact learn_no r g N cap o C bits whole u V B l _ d one w hb hc ht hs sz hsz hs16 hC hh hok hd hsq h2 h3 h6 h7 h8 h9
end Go.Proofs.YtkfdbibgjoaefaaGreatDoor
/-
  The document's blend in memory: one unit after another turns (written by tools/stage12/gen_rmu.py).
-/
namespace Go.Proofs.YtkfdbibgjoaefaaGreatDoor
open Go.RowKit
set_option linter.unusedVariables false
set_option linter.unusedSimpArgs false

theorem own_but {w w' : World} {S : Nat → Prop} {b n e : Nat} {v : Value} {xs : List Value} (h : w.ownsRow b e 1 v n xs) (k : But S w w') (hn : ∀ x, v.ownBlock = some x → ¬ S x) : w'.ownsRow b e 1 v n xs := by
  refine ⟨h.1, ?_⟩
  rcases h.2 with h2 | ⟨g2, cap, cur, rfl, hge, hh, r⟩
  · exact .inl h2
  · exact .inr ⟨g2, cap, cur, rfl, hge, (k.block g2 (lt_of_heap hh) (hn g2 rfl)).trans hh, r⟩
theorem RT.but {W W' : World} {S : Nat → Prop} {B : Nat} {u : Un} {V : Vs} (h : RT W B u V) (k : But S W W') (hn : ∀ x, V.has x → ¬ S x) : RT W' B u V :=
  ⟨own_but h.c k (fun x hx => hn x (.inl hx)), own_but h.k k (fun x hx => hn x (.inr (.inl hx))), own_but h.s k (fun x hx => hn x (.inr (.inr (.inl hx)))), own_but h.w k (fun x hx => hn x (.inr (.inr (.inr (.inl hx))))), own_but h.n k (fun x hx => hn x (.inr (.inr (.inr (.inr (.inl hx)))))), own_but h.r k (fun x hx => hn x (.inr (.inr (.inr (.inr (.inr hx))))))⟩
theorem RC.but {W W' : World} {S : Nat → Prop} {g o : Nat} {u : Un} {V : Vs} (h : RC W g o u V) (k : But S W W') (hn : ¬ S g) : RC W' g o u V :=
  ⟨k.cell h.p0 hn, k.cell h.p1 hn, k.cell h.p2 hn, k.cell h.p3 hn, k.cell h.p4 hn, k.cell h.p5 hn, k.cell h.p6 hn, k.cell h.h hn, k.cell h.c hn, k.cell h.k hn, k.cell h.s hn, k.cell h.w hn, k.cell h.n hn, k.cell h.r hn, k.cell h.pos hn, k.cell h.len hn⟩
theorem RB.but {W W' : World} {S : Nat → Prop} {r g N cap c bits whole : Nat} (h : RB W r g N cap c bits whole) (k : But S W W') (hn : ¬ S r) : RB W' r g N cap c bits whole :=
  ⟨k.cell h.l hn, k.cell h.c hn, k.cell h.bits hn, k.cell h.whole hn⟩
theorem but_frozen {W W' : World} {S : Nat → Prop} {g : Nat} (k : But S W W') (hg : g < W.heap.size) (hn : ¬ S g) (j : Nat) (h : W.frozen? ⟨g, j, none⟩ = false) : W'.frozen? ⟨g, j, none⟩ = false :=
  (World.frozen?_of_block (w := W) (k.block g hg hn)).trans h
theorem Sep.no {V : Vs} {g : Nat} (h : Sep V g) : ¬ V.has g := by
  rintro (e | e | e | e | e | e)
  · exact h.gc e
  · exact h.gk e
  · exact h.gs e
  · exact h.gw e
  · exact h.gn e
  · exact h.gr e
/-- The document's blend in memory, on its way. -/
structure MU (W : World) (r g N cap c bits whole : Nat) (L : List Un) (Vf : Nat → Vs) (B : Nat) : Prop where
  rb : RB W r g N cap c bits whole
  n : L.length = N
  c : ∀ i (h : i < L.length), RC W g (i * 16) L[i] (Vf i)
  t : ∀ i (h : i < L.length), RT W B L[i] (Vf i)
  fg : ∀ k, W.frozen? ⟨g, k, none⟩ = false
  fr : ∀ k, W.frozen? ⟨r, k, none⟩ = false
theorem BM.mu {W : World} {r g N cap : Nat} {b : Bl} {Vf : Nat → Vs} {B : Nat} (h : BM W r g N cap b Vf B) : MU W r g N cap b.c b.bits b.whole b.l Vf B := ⟨h.rb, h.n, h.c, h.t, h.fg, h.fr⟩
/-- What a turn of the blend may touch. -/
def Mine (Vf : Nat → Vs) (r g N : Nat) (x : Nat) : Prop := (∃ j, j < N ∧ (Vf j).has x) ∨ x = g ∨ x = r
theorem MU.below {W W' : World} {r g N cap c bits whole : Nat} {L : List Un} {Vf : Nat → Vs} {B : Nat} (h : MU W r g N cap c bits whole L Vf B) (k : Below W.heap.size W W') (hg : g < W.heap.size) : MU W' r g N cap c bits whole L Vf B :=
  ⟨h.rb.below k, h.n, fun i hi => (h.c i hi).below k, fun i hi => (h.t i hi).below k, fun j => (k.frozen (p := ⟨g, j, none⟩) hg).trans (h.fg j), fun j => (k.frozen (p := ⟨r, j, none⟩) (show r < W.heap.size from lt_cell h.rb.l)).trans (h.fr j)⟩
theorem MU.learnt {w W : World} {r g N cap c bits whole i : Nat} {L : List Un} {Vf : Nat → Vs} {B : Nat} {u' : Un} (h : MU w r g N cap c bits whole L Vf B) (lay : Lay Vf r g N) (hi : i < N) (hL : Lrn w W g (i * 16) u' (Vf i) B) :
    MU W r g N cap c bits whole (L.set i u') Vf B ∧ But (Mine Vf r g N) w W := by
  have hg : ¬ (Vf i).has g := (lay.sep i hi).no
  refine ⟨⟨h.rb.but hL.b (lay.rs i hi), by rw [List.length_set]; exact h.n, fun j hj => ?_, fun j hj => ?_, fun k => but_frozen hL.b (show g < w.heap.size from lt_cell (h.c i (by rw [h.n]; exact hi)).p0) hg k (h.fg k), fun k => but_frozen hL.b (show r < w.heap.size from lt_cell h.rb.l) (lay.rs i hi) k (h.fr k)⟩, hL.b.mono (fun x hx => .inl (.inl ⟨i, hi, hx⟩))⟩
  · by_cases e : i = j
    · subst e
      rw [List.getElem_set_self]
      exact hL.c
    · rw [List.getElem_set_ne e]
      exact (h.c j (by rw [List.length_set] at hj; exact hj)).but hL.b hg
  · by_cases e : i = j
    · subst e
      rw [List.getElem_set_self]
      exact hL.t
    · rw [List.getElem_set_ne e]
      rw [List.length_set] at hj
      exact (h.t j hj).but hL.b (fun x hx hy => lay.apt i j hi (by rw [← h.n]; exact hj) e x hy hx)
theorem MU.turned {w W : World} {r g N cap c bits whole i : Nat} {L : List Un} {Vf : Nat → Vs} {B : Nat} {u' : Un} (h : MU w r g N cap c bits whole L Vf B) (lay : Lay Vf r g N) (hi : i < N) (hL : Wh w W g (i * 16) u' (Vf i) B) :
    MU W r g N cap c bits whole (L.set i u') Vf B ∧ But (Mine Vf r g N) w W := by
  have hr : ¬ ((Vf i).has r ∨ r = g) := fun e => by
    rcases e with e | e
    · exact lay.rs i hi e
    · exact lay.rg e
  refine ⟨⟨h.rb.but hL.b hr, by rw [List.length_set]; exact h.n, fun j hj => ?_, fun j hj => ?_, fun k => hL.f k (h.fg k), fun k => but_frozen hL.b (show r < w.heap.size from lt_cell h.rb.l) hr k (h.fr k)⟩, hL.b.mono (fun x hx => by
    rcases hx with hx | hx
    · exact .inl (.inl ⟨i, hi, hx⟩)
    · exact .inl (.inr (.inl hx)))⟩
  · by_cases e : i = j
    · subst e
      rw [List.getElem_set_self]
      exact hL.c
    · rw [List.getElem_set_ne e]
      have q := h.c j (by rw [List.length_set] at hj; exact hj)
      exact ⟨hL.k _ rfl (by intro e2; injection e2; omega) (by intro e2; injection e2; omega) _ q.p0, hL.k _ rfl (by intro e2; injection e2; omega) (by intro e2; injection e2; omega) _ q.p1, hL.k _ rfl (by intro e2; injection e2; omega) (by intro e2; injection e2; omega) _ q.p2, hL.k _ rfl (by intro e2; injection e2; omega) (by intro e2; injection e2; omega) _ q.p3, hL.k _ rfl (by intro e2; injection e2; omega) (by intro e2; injection e2; omega) _ q.p4, hL.k _ rfl (by intro e2; injection e2; omega) (by intro e2; injection e2; omega) _ q.p5, hL.k _ rfl (by intro e2; injection e2; omega) (by intro e2; injection e2; omega) _ q.p6, hL.k _ rfl (by intro e2; injection e2; omega) (by intro e2; injection e2; omega) _ q.h, hL.k _ rfl (by intro e2; injection e2; omega) (by intro e2; injection e2; omega) _ q.c, hL.k _ rfl (by intro e2; injection e2; omega) (by intro e2; injection e2; omega) _ q.k, hL.k _ rfl (by intro e2; injection e2; omega) (by intro e2; injection e2; omega) _ q.s, hL.k _ rfl (by intro e2; injection e2; omega) (by intro e2; injection e2; omega) _ q.w, hL.k _ rfl (by intro e2; injection e2; omega) (by intro e2; injection e2; omega) _ q.n, hL.k _ rfl (by intro e2; injection e2; omega) (by intro e2; injection e2; omega) _ q.r, hL.k _ rfl (by intro e2; injection e2; omega) (by intro e2; injection e2; omega) _ q.pos, hL.k _ rfl (by intro e2; injection e2; omega) (by intro e2; injection e2; omega) _ q.len⟩
  · by_cases e : i = j
    · subst e
      rw [List.getElem_set_self]
      exact hL.t
    · rw [List.getElem_set_ne e]
      rw [List.length_set] at hj
      refine (h.t j hj).but hL.b (fun x hx hy => ?_)
      rcases hy with hy | hy
      · exact lay.apt i j hi (by rw [← h.n]; exact hj) e x hy hx
      · exact (lay.sep j (by rw [← h.n]; exact hj)).no (hy ▸ hx)
/-- A cell of the blend's own. -/
theorem MU.put {w : World} {r g N cap c bits whole c' bits' whole' : Nat} {L : List Un} {Vf : Nat → Vs} {B : Nat} {k : Nat} {v : Value} (h : MU w r g N cap c bits whole L Vf B) (lay : Lay Vf r g N) (hrb : RB (w.setCell ⟨r, k, none⟩ v) r g N cap c' bits' whole') :
    MU (w.setCell ⟨r, k, none⟩ v) r g N cap c' bits' whole' L Vf B ∧ But (Mine Vf r g N) w (w.setCell ⟨r, k, none⟩ v) := by
  have hb : But (fun x => x = r) w (w.setCell ⟨r, k, none⟩ v) := (But.refl _ w).set _ _ (.inl rfl)
  have hgr : ¬ g = r := fun e => lay.rg e.symm
  exact ⟨⟨hrb, h.n, fun i hi => (h.c i hi).but hb hgr, fun i hi => (h.t i hi).but hb (fun x hx e => lay.rs i (by rw [← h.n]; exact hi) (e ▸ hx)), fun j => by rw [World.frozen?_setCell]; exact h.fg j, fun j => by rw [World.frozen?_setCell]; exact h.fr j⟩, hb.mono (fun x hx => .inl (.inr (.inr hx)))⟩
theorem RB.put_c {w : World} {r g N cap c bits whole : Nat} (h : RB w r g N cap c bits whole) (c' : Nat) : RB (w.setCell ⟨r, 1, none⟩ (.int .i64 (c' : Nat))) r g N cap c' bits whole :=
  ⟨oth h.l (by intro e; injection e; omega), sme h.c, oth h.bits (by intro e; injection e; omega), oth h.whole (by intro e; injection e; omega)⟩
theorem RB.put_bits {w : World} {r g N cap c bits whole : Nat} (h : RB w r g N cap c bits whole) (b' : Nat) : RB (w.setCell ⟨r, 2, none⟩ (.int .i64 (b' : Nat))) r g N cap c b' whole :=
  ⟨oth h.l (by intro e; injection e; omega), oth h.c (by intro e; injection e; omega), sme h.bits, oth h.whole (by intro e; injection e; omega)⟩
theorem RB.put_whole {w : World} {r g N cap c bits whole : Nat} (h : RB w r g N cap c bits whole) (b' : Nat) : RB (w.setCell ⟨r, 3, none⟩ (.int .i64 (b' : Nat))) r g N cap c bits b' :=
  ⟨oth h.l (by intro e; injection e; omega), oth h.c (by intro e; injection e; omega), oth h.bits (by intro e; injection e; omega), sme h.whole⟩
/-- The first i of M, then those of L. -/
def mixed (L M : List Un) (i : Nat) : List Un := M.take i ++ L.drop i
theorem mixed_zero (L M : List Un) : mixed L M 0 = L := by simp [mixed]
theorem mixed_all (L M : List Un) (i : Nat) (h1 : L.length ≤ i) (h2 : M.length ≤ i) : mixed L M i = M := by
  unfold mixed
  rw [List.take_of_length_le h2, List.drop_of_length_le h1, List.append_nil]
theorem mixed_len (L M : List Un) (h : L.length = M.length) (i : Nat) : (mixed L M i).length = L.length := by
  unfold mixed
  rw [List.length_append, List.length_take, List.length_drop]
  omega
theorem mixed_set (L M : List Un) (h : L.length = M.length) (i : Nat) (hi : i < L.length) (h' : i < M.length) : (mixed L M i).set i M[i] = mixed L M (i + 1) := by
  unfold mixed
  rw [List.drop_eq_getElem_cons hi, List.set_append_right _ _ (by rw [List.length_take]; omega), List.length_take, Nat.min_eq_left (by omega), Nat.sub_self, List.set_cons_zero, List.take_succ_eq_append_getElem h', List.append_assoc]
  rfl
theorem mixed_at (L M : List Un) (i : Nat) (h : L.length = M.length) (hi : i < L.length) (hj : i < (mixed L M i).length) : (mixed L M i)[i] = L[i] := by
  have h1 : (mixed L M i)[i]? = some L[i] := by
    unfold mixed
    rw [List.getElem?_append_right (by rw [List.length_take]; omega), List.length_take, Nat.min_eq_left (by omega : i ≤ M.length), Nat.sub_self, List.getElem?_drop, Nat.add_zero, List.getElem?_eq_getElem hi]
  rw [List.getElem?_eq_getElem hj] at h1
  injection h1
end Go.Proofs.YtkfdbibgjoaefaaGreatDoor
/-
  The document's blend: Learn (written by tools/stage12/gen_rlr.py).
-/
namespace Go.Proofs.YtkfdbibgjoaefaaGreatDoor
open Go.RowKit
set_option linter.unusedVariables false
set_option linter.unusedSimpArgs false

theorem own_lt {w : World} {b n e x : Nat} {v : Value} {xs : List Value} (h : w.ownsRow b e 1 v n xs) (hx : v.ownBlock = some x) : b ≤ x ∧ x < w.heap.size := by
  rcases h.2 with ⟨h2, _⟩ | ⟨g2, cap, cur, rfl, hge, hh, r⟩
  · rw [h2] at hx
    have e : (Value.slice none 0 0).ownBlock = none := rfl
    rw [e] at hx
    cases hx
  · have e : g2 = x := by
      have : (Value.slice (some ⟨g2, 0, none⟩) n cap).ownBlock = some g2 := rfl
      rw [this] at hx
      injection hx
    subst e
    exact ⟨hge, lt_of_heap hh⟩
theorem RT.lt {w : World} {B x : Nat} {u : Un} {V : Vs} (h : RT w B u V) (hx : V.has x) : x < w.heap.size := by
  rcases hx with e | e | e | e | e | e
  · exact (own_lt h.c e).2
  · exact (own_lt h.k e).2
  · exact (own_lt h.s e).2
  · exact (own_lt h.w e).2
  · exact (own_lt h.n e).2
  · exact (own_lt h.r e).2
theorem MU.mine_lt {w : World} {r g N cap c bits whole : Nat} {L : List Un} {Vf : Nat → Vs} {B : Nat} (h : MU w r g N cap c bits whole L Vf B) (h0 : 0 < N) {x : Nat} (hx : Mine Vf r g N x) : x < w.heap.size := by
  rcases hx with ⟨j, hj, hx⟩ | rfl | rfl
  · exact (h.t j (by rw [h.n]; exact hj)).lt hx
  · exact (show x < w.heap.size from lt_cell (h.c 0 (by rw [h.n]; exact h0)).p0)
  · exact (show x < w.heap.size from lt_cell h.rb.l)
theorem rwhole_h (u : Un) (c w : Nat) : (u.whole c w).h = u.h := by
  unfold Un.whole
  split <;> rfl
theorem ok_bits (b : Bl) (h : b.Ok) : b.bits ≤ 7 := h.bits
theorem reach_len (b : Bl) (one : Bool) : (b.each one).length = b.l.length := by simp [Bl.each]
theorem each_at (b : Bl) (one : Bool) (i : Nat) (h : i < b.l.length) (h' : i < (b.each one).length) : (b.each one)[i] = b.l[i].learn b.c b.leans (b.leans.getD i 0) one := by simp [Bl.each]
/-- One unit learns, on the way. -/
theorem learn_step {w : World} {r g N cap : Nat} {b : Bl} {Vf : Nat → Vs} {B : Nat} (h : BM w r g N cap b Vf B) (lay : Lay Vf r g N) (one : Bool) (W : World) (i : Nat) (hi : i < N) (la : Option Addr) (lc : Nat)
    (hm : MU W r g N cap b.c b.bits b.whole (mixed b.l (b.each one) i) Vf B) (ho : W.ownsRow w.heap.size 3 1 (.slice la N lc) N (b.leans.map iv)) :
    Calls Tryz.prog 35 #[.pointer (some ⟨r, 0, none⟩), .pointer (some ⟨g, i * 16, none⟩), .slice la N lc, .int .i64 (b.leans.getD i 0), .int .i64 (if one then 1 else 0)] W fun e w' => e = .returned (.tuple #[]) ∧
      MU w' r g N cap b.c b.bits b.whole (mixed b.l (b.each one) (i + 1)) Vf B ∧ But (Mine Vf r g N) W w' ∧ w'.ownsRow w.heap.size 3 1 (.slice la N lc) N (b.leans.map iv) := by
  have hbn := h.n
  have hi' : i < b.l.length := by rw [hbn]; exact hi
  have hN := h.ok.n16
  have hel := reach_len b one
  have hml := mixed_len b.l (b.each one) hel.symm i
  have hij : i < (mixed b.l (b.each one) i).length := by rw [hml]; exact hi'
  have ema := mixed_at b.l (b.each one) i hel.symm hi' hij
  have hc := hm.c i hij
  have ht := hm.t i hij
  rw [ema] at hc ht
  obtain ⟨sz, e1, e2⟩ := one_size _ _ (h.ok.one i hi')
  have hll : b.leans.length = N := by rw [b.leans_len, hbn]
  have hdr := h.ok.range (b.leans.getD i 0) (by rw [gD_in _ _ (by omega)]; exact List.getElem_mem _)
  unfold Lean1 at hdr
  have hsq : 0 ≤ sq (b.leans.getD i 0) ∧ sq (b.leans.getD i 0) ≤ 4095 := by have := sq_range (b.leans.getD i 0); omega
  have hnot : ∀ x, (Value.slice la N lc).ownBlock = some x → ¬ Mine Vf r g N x := fun x hx hy => by
    have h1 := (own_lt ho hx).1
    have h2 := h.mu.mine_lt (by omega) hy
    omega
  have hil : i ≤ b.leans.length := by omega
  rw [← hll] at ho hnot ⊢
  refine (learn_any r g b.leans.length cap (i * 16) b.c b.bits b.whole b.l[i] (Vf i) B b.leans (b.leans.getD i 0) one W (by rw [hll]; exact hm.rb) hc ht (lay.sep i hi) sz e1 e2 h.ok.cr (h.hh i hi') (h.ok.each _ (List.getElem_mem hi')) ⟨by omega, by omega⟩ hsq i (h.ok.one i hi') w.heap.size la b.leans.length lc ho hil h.ok.range
    (fun x hx hy => hnot x hx (.inl ⟨i, by omega, .inr (.inr (.inr (.inl hy)))⟩)) (by omega)).mono ?_
  rintro e w' ⟨rfl, hL⟩
  obtain ⟨m1, m2⟩ := hm.learnt lay hi hL
  rw [← each_at b one i hi' (by rw [hel]; exact hi'), mixed_set b.l (b.each one) hel.symm i hi' (by rw [hel]; exact hi')] at m1
  rw [← hll] at m1 m2
  exact ⟨rfl, m1, m2, own_but ho m2 hnot⟩
/-- One unit at a byte's end, on the way. -/
theorem whole_step {w : World} {r g N cap : Nat} {b : Bl} {Vf : Nat → Vs} {B : Nat} (h : BM w r g N cap b Vf B) (lay : Lay Vf r g N) (one : Bool) (c2 : Nat) (hc2 : c2 ≤ 511) (hw : b.whole ≤ 1000000000) (W : World) (i : Nat) (hi : i < N)
    (hm : MU W r g N cap c2 8 b.whole (mixed (b.each one) ((b.each one).map (fun u => u.whole c2 b.whole)) i) Vf B) :
    Calls Tryz.prog 36 #[.pointer (some ⟨r, 0, none⟩), .pointer (some ⟨g, i * 16, none⟩)] W fun e w' => e = .returned (.tuple #[]) ∧
      MU w' r g N cap c2 8 b.whole (mixed (b.each one) ((b.each one).map (fun u => u.whole c2 b.whole)) (i + 1)) Vf B ∧ But (Mine Vf r g N) W w' := by
  have hbn := h.n
  have hi' : i < b.l.length := by rw [hbn]; exact hi
  have hel := reach_len b one
  have hi2 : i < (b.each one).length := by rw [hel]; exact hi'
  have hml2 : (b.each one).length = ((b.each one).map (fun u => u.whole c2 b.whole)).length := by rw [List.length_map]
  have hml := mixed_len (b.each one) _ hml2 i
  have hij : i < (mixed (b.each one) ((b.each one).map (fun u => u.whole c2 b.whole)) i).length := by rw [hml]; exact hi2
  have ema := mixed_at (b.each one) _ i hml2 hi2 hij
  have hc := hm.c i hij
  have ht := hm.t i hij
  rw [ema] at hc ht
  have ep : (b.each one)[i].p = b.l[i].p := by rw [each_at b one i hi' hi2, learn_p]
  have hone := h.ok.one i hi'
  obtain ⟨sz, e1, e2⟩ := one_size _ _ hone
  refine (whole_any r g N cap (i * 16) c2 8 b.whole (b.each one)[i] (Vf i) B W hm.rb hc ht (lay.sep i hi) sz (by rw [ep]; exact e1) e2 hc2 hw (each_ok b one h.ok _ (List.getElem_mem hi2)) lay.rg hm.fg (by rw [ep]; exact one_kind _ _ hone)).mono ?_
  rintro e w' ⟨rfl, hL⟩
  obtain ⟨m1, m2⟩ := hm.turned lay hi hL
  have hi3 : i < ((b.each one).map (fun u => u.whole c2 b.whole)).length := by rw [List.length_map]; exact hi2
  have em : (b.each one)[i].whole c2 b.whole = ((b.each one).map (fun u => u.whole c2 b.whole))[i] := by rw [List.getElem_map]
  rw [em, mixed_set _ _ hml2 i hi2 hi3] at m1
  exact ⟨rfl, m1, m2⟩
theorem learn_l_neg (b : Bl) (one : Bool) (h : ¬ b.bits = 7) : b.learn one = { l := b.each one, c := b.c * 2 + (if one then 1 else 0), bits := b.bits + 1, whole := b.whole } := by unfold Bl.learn; rw [if_neg h]
theorem learn_l_pos (b : Bl) (one : Bool) (h : b.bits = 7) : b.learn one = { l := (b.each one).map (fun u => u.whole (b.c * 2 + if one then 1 else 0) b.whole), c := 1, bits := 0, whole := b.whole + 1 } := by unfold Bl.learn; rw [if_pos h]
theorem bm_learnt {w W : World} {r g N cap : Nat} {b : Bl} {Vf : Nat → Vs} {B : Nat} (h : BM w r g N cap b Vf B) (one : Bool) (hm : MU W r g N cap (b.learn one).c (b.learn one).bits (b.learn one).whole (b.learn one).l Vf B) : BM W r g N cap (b.learn one) Vf B := by
  refine ⟨hm.rb, hm.n, h.nc, hm.c, hm.t, hm.fg, hm.fr, fun i hi => ?_, Bl.learn_ok b one h.ok⟩
  have hin : i < b.l.length := by rw [h.n, ← hm.n]; exact hi
  have hie : i < (b.each one).length := by rw [reach_len]; exact hin
  have h2 := h.hh i hin
  have eh : (b.each one)[i].h = b.l[i].h := by rw [each_at b one i hin hie, learn_h]
  by_cases h7 : b.bits = 7
  · have e := learn_l_pos b one h7
    have el : (b.learn one).l = (b.each one).map (fun u => u.whole (b.c * 2 + if one then 1 else 0) b.whole) := by rw [e]
    simp only [el, List.getElem_map, rwhole_h, eh]
    exact h2
  · have e := learn_l_neg b one h7
    have el : (b.learn one).l = b.each one := by rw [e]
    simp only [el, eh]
    exact h2
set_option maxRecDepth 10000 in
theorem rLearn_bad (r : Nat) (bit : Int) (w : World) (h0 : bit ≠ 0) (h1 : bit ≠ 1) : Calls Tryz.prog 16 #[.pointer (some ⟨r, 0, none⟩), .int .i64 bit] w fun e w' => e = .returned (.int .i64 2) ∧ Below w.heap.size w w' := by
  have n0 : (bit != 0) = true := by simp only [bne_iff_ne, ne_eq]; exact h0
  have n1 : (bit != 1) = true := by simp only [bne_iff_ne, ne_eq]; exact h1
  clear h0 h1
  go_enter Tryz.func16, Tryz.ntmps16
  go_wp2_with fail
  go_ret
  exact ⟨rfl, Below.refl _ _⟩
set_option maxRecDepth 10000 in
set_option maxHeartbeats 8000000 in
theorem rLearn_true (r g N cap : Nat) (b : Bl) (Vf : Nat → Vs) (B : Nat) (w : World) (h : BM w r g N cap b Vf B) (lay : Lay Vf r g N) (hw : b.whole ≤ 1000000) :
    Calls Tryz.prog 16 #[.pointer (some ⟨r, 0, none⟩), .int .i64 1] w fun e w' => e = .returned (.int .i64 0) ∧ BM w' r g N cap (b.learn true) Vf B ∧ But (Mine Vf r g N) w w' := by
  have hN := h.ok.n16
  rw [h.n] at hN
  have hll : b.leans.length = N := by rw [b.leans_len, h.n]
  have HL := hid (rLeans_any r g N cap b Vf B w h)
  have HS := hid (fun W i hi la lc hm ho => learn_step h lay true W i hi la lc hm ho)
  obtain ⟨c2, hc2⟩ : ∃ c2, b.c * 2 + 1 = c2 := ⟨_, rfl⟩
  have hcr := h.ok.cr
  have hc5 : c2 ≤ 511 := by omega
  have HW := hid (fun W i hi hm => whole_step h lay true c2 hc5 (by omega) W i hi hm)
  have H0 := hid h.mu
  have HF := hid (fun W hm => bm_learnt (W := W) h true hm)
  have HE : Hid (mixed b.l (b.each true) 0 = b.l) := hid (mixed_zero _ _)
  have HE2 : Hid (mixed b.l (b.each true) N = b.each true) := hid (mixed_all _ _ _ (by rw [h.n]; omega) (by rw [reach_len, h.n]; omega))
  have HE3 : Hid (mixed (b.each true) ((b.each true).map (fun u => u.whole c2 b.whole)) 0 = b.each true) := hid (mixed_zero _ _)
  have HE4 : Hid (mixed (b.each true) ((b.each true).map (fun u => u.whole c2 b.whole)) N = (b.each true).map (fun u => u.whole c2 b.whole)) := hid (mixed_all _ _ _ (by rw [reach_len, h.n]; omega) (by rw [List.length_map, reach_len, h.n]; omega))
  have HN : Hid (¬ b.bits = 7 → b.learn true = { l := b.each true, c := c2, bits := b.bits + 1, whole := b.whole }) := hid (fun h7 => by rw [learn_l_neg b _ h7, ← hc2]; rfl)
  have HP : Hid (b.bits = 7 → b.learn true = { l := (b.each true).map (fun u => u.whole c2 b.whole), c := 1, bits := 0, whole := b.whole + 1 }) := hid (fun h7 => by rw [learn_l_pos b _ h7, ← hc2]; rfl)
  have hb7 := h.ok.bits
  have LAY := hid lay
  have hlist : Hid (∀ (W : World) A c i, i < N → W.ownsRow w.heap.size 3 1 (.slice A N c) N (b.leans.map iv) → ∃ gl, A = some ⟨gl, 0, none⟩ ∧ W.cell? ⟨gl, i, none⟩ = some (.int .i64 (b.leans.getD i 0))) := hid (fun W A c i hi ho => by
    obtain ⟨g2, c2, ev, hle, cell⟩ := tab_at ho i hi (iv 0)
    injection ev with e1 e2 e3
    refine ⟨g2, e1, ?_⟩
    rw [cell, iv_get]
    rfl)
  have k1 := (wr_in ((b.c : Int) * 2) (by omega)).out
  have k2 := (wr_in ((b.c : Int) * 2 + 1) (by omega)).out
  have k3 := (wr_in ((b.bits : Int) + 1) (by omega)).out
  have k4 := (wr_in ((b.whole : Int) + 1) (by omega)).out
  have ec2 : (c2 : Int) = (b.c : Int) * 2 + 1 := by omega
  generalize b.learn true = b' at *
  generalize b.each true = M at *
  generalize b.leans = LE at *
  clear h lay hcr
  go_enter Tryz.func16, Tryz.ntmps16
  go_upto_region 5 with (go_at_call 19; refine HL.out.mono ?_; rintro e W1 ⟨A, cA, rfl, o1, b1⟩)
  obtain ⟨gl, rfl, _⟩ := hlist.out W1 A cA 0 (by omega) o1
  have S1 : Hid (MU W1 r g N cap b.c b.bits b.whole (mixed b.l M 0) Vf B) := hid (by rw [HE.out]; exact H0.out.below b1 (show g < w.heap.size from lt_cell (H0.out.c 0 (by rw [H0.out.n]; omega)).p0))
  have O1 := hid o1
  have B1 : Hid (But (Mine Vf r g N) w W1) := hid (But.of_below b1)
  clear o1 b1 HL HE
  go_loopw [6] (fun v wr => ∃ i : Nat, i ≤ N ∧ v = .int .i64 (i : Int) ∧ Hid (MU wr r g N cap b.c b.bits b.whole (mixed b.l M i) Vf B) ∧ Hid (wr.ownsRow w.heap.size 3 1 (.slice (some ⟨gl, 0, none⟩) N cA) N (LE.map iv)) ∧ Hid (But (Mine Vf r g N) w wr)) (fun v _ => N - (intOf v).toNat)
  case atStart => exact ⟨0, by omega, rfl, S1, O1, B1⟩
  case round =>
    obtain ⟨i, hi, rfl, SI, OI, BI⟩ := hrel
    clear S1 O1 B1
    have hl0 := SI.out.rb.l
    by_cases hlt : i < N
    · have hz : (i : Int) < (N : Int) := by omega
      obtain ⟨gl2, eg, hcell⟩ := hlist.out wr _ cA i hlt OI.out
      obtain rfl : gl = gl2 := by injection eg with eg; injection eg
      clear eg
      have HC := hid (fun W (k : Below wr.heap.size wr W) => HS.out W i hlt (some ⟨gl, 0, none⟩) cA (SI.out.below k (show g < wr.heap.size from lt_cell (SI.out.c 0 (by rw [SI.out.n]; omega)).p0)) (own_below OI.out k))
      generalize LE.getD i 0 = d at *
      simp only [if_true, Bool.false_eq_true, if_false] at HC
      go_upto_region 7 with fail
      go_still_tail 13, (by kernel_rfl)
      go_wp2_with (go_at_call 35; refine (HC.out _ (Below.refl _ _).drew).mono ?_; rintro e W3 ⟨rfl, m3, b3, o3⟩)
      go_roundw
      case rel => exact ⟨i + 1, by omega, by go_num, hid m3, hid o3, hid (BI.out.trans ((But.refl _ _).drew.trans b3))⟩
      case measure => simp [intOf]; omega
    · obtain rfl : i = N := by omega
      rw [HE2.out] at SI
      clear HS HE2 OI hlist
      have b1 := SI.out.rb.c
      have b2 := SI.out.rb.bits
      have f1 := SI.out.fr 1
      have f2 := SI.out.fr 2
      have P1 := hid (SI.out.put (k := 1) LAY.out (SI.out.rb.put_c c2))
      have P2 := hid (P1.out.1.put (k := 2) LAY.out (P1.out.1.rb.put_bits (b.bits + 1)))
      have b2' := P1.out.1.rb.bits
      have f2' := P1.out.1.fr 2
      have b2'' := P2.out.1.rb.bits
      have BB := hid (BI.out.trans (P1.out.2.trans P2.out.2))
      rw [ec2] at P1 P2 b2' f2' b2'' BB
      rw [show ((b.bits + 1 : Nat) : Int) = (b.bits : Int) + 1 by omega] at P2 b2'' BB
      by_cases h7 : b.bits = 7
      · have d8 : ((b.bits : Int) + 1 == 8) = true := by simp only [beq_iff_eq]; omega
        go_upto_region 12 with fail
        have S2 : Hid (MU ((wr.setCell ⟨r, 1, none⟩ (.int .i64 ((b.c : Int) * 2 + 1))).setCell ⟨r, 2, none⟩ (.int .i64 8)) r g i cap c2 8 b.whole (mixed M (M.map (fun u => u.whole c2 b.whole)) 0) Vf B) := hid (by
          rw [HE3.out]
          have q := P2.out.1
          rw [h7] at q
          exact q)
        have BB2 : Hid (But (Mine Vf r g i) w ((wr.setCell ⟨r, 1, none⟩ (.int .i64 ((b.c : Int) * 2 + 1))).setCell ⟨r, 2, none⟩ (.int .i64 8))) := hid (by
          have q := BB.out
          rw [h7] at q
          exact q)
        have e := HP.out h7
        clear P1 P2 b1 b2 f1 f2 b2' f2' b2'' HN HP HE3 d8 hl0 SI BI BB
        generalize ((wr.setCell ⟨r, 1, none⟩ (.int .i64 ((b.c : Int) * 2 + 1))).setCell ⟨r, 2, none⟩ (.int .i64 8)) = W2 at *
        go_loopw [7] (fun v wr => ∃ j : Nat, j ≤ i ∧ v = .int .i64 (j : Int) ∧ Hid (MU wr r g i cap c2 8 b.whole (mixed M (M.map (fun u => u.whole c2 b.whole)) j) Vf B) ∧ Hid (But (Mine Vf r g i) w wr)) (fun v _ => i - (intOf v).toNat)
        case atStart => exact ⟨0, by omega, rfl, S2, BB2⟩
        case round =>
          obtain ⟨j, hj, rfl, SJ, BJ⟩ := hrel
          clear S2 BB2
          have hl0 := SJ.out.rb.l
          by_cases hlt : j < i
          · have hz : (j : Int) < (i : Int) := by omega
            have HC := hid (HW.out wr j hlt SJ.out)
            go_wp2_with (go_at_call 36; refine HC.out.mono ?_; rintro e3 W3 ⟨rfl, m3, b3⟩)
            go_roundw
            case rel => exact ⟨j + 1, by omega, by go_num, hid m3, hid (BJ.out.trans b3)⟩
            case measure => simp [intOf]; omega
          · obtain rfl : j = i := by omega
            rw [HE4.out] at SJ
            clear HW HE4
            have P4 : Hid (MU (wr.setCell ⟨r, 1, none⟩ (.int .i64 1)) r g j cap 1 8 b.whole (M.map (fun u => u.whole c2 b.whole)) Vf B ∧ But (Mine Vf r g j) wr (wr.setCell ⟨r, 1, none⟩ (.int .i64 1))) := hid (SJ.out.put (k := 1) LAY.out (SJ.out.rb.put_c 1))
            have P5 : Hid (MU ((wr.setCell ⟨r, 1, none⟩ (.int .i64 1)).setCell ⟨r, 2, none⟩ (.int .i64 0)) r g j cap 1 0 b.whole (M.map (fun u => u.whole c2 b.whole)) Vf B ∧ But (Mine Vf r g j) (wr.setCell ⟨r, 1, none⟩ (.int .i64 1)) ((wr.setCell ⟨r, 1, none⟩ (.int .i64 1)).setCell ⟨r, 2, none⟩ (.int .i64 0))) := hid (P4.out.1.put (k := 2) LAY.out (P4.out.1.rb.put_bits 0))
            have P6 := hid (P5.out.1.put (k := 3) LAY.out (P5.out.1.rb.put_whole (b.whole + 1)))
            rw [show ((b.whole + 1 : Nat) : Int) = (b.whole : Int) + 1 by omega] at P6
            have b1 := SJ.out.rb.c
            have f1 := SJ.out.fr 1
            have b2 := P4.out.1.rb.bits
            have f2 := P4.out.1.fr 2
            have b3 := P5.out.1.rb.whole
            have f3 := P5.out.1.fr 3
            have BB := hid (BJ.out.trans (P4.out.2.trans (P5.out.2.trans P6.out.2)))
            go_wp2_with fail
            go_ret
            refine ⟨rfl, HF.out _ ?_, BB.out⟩
            rw [e]
            exact P6.out.1
      · have d8 : ((b.bits : Int) + 1 == 8) = false := by simp only [beq_eq_false_iff_ne, ne_eq]; omega
        have e := HN.out h7
        clear HN HP HW HE3 HE4
        go_wp2_with fail
        go_ret
        refine ⟨rfl, HF.out _ ?_, BB.out⟩
        rw [e]
        exact P2.out.1
set_option maxRecDepth 10000 in
set_option maxHeartbeats 8000000 in
theorem rLearn_false (r g N cap : Nat) (b : Bl) (Vf : Nat → Vs) (B : Nat) (w : World) (h : BM w r g N cap b Vf B) (lay : Lay Vf r g N) (hw : b.whole ≤ 1000000) :
    Calls Tryz.prog 16 #[.pointer (some ⟨r, 0, none⟩), .int .i64 0] w fun e w' => e = .returned (.int .i64 0) ∧ BM w' r g N cap (b.learn false) Vf B ∧ But (Mine Vf r g N) w w' := by
  have hN := h.ok.n16
  rw [h.n] at hN
  have hll : b.leans.length = N := by rw [b.leans_len, h.n]
  have HL := hid (rLeans_any r g N cap b Vf B w h)
  have HS := hid (fun W i hi la lc hm ho => learn_step h lay false W i hi la lc hm ho)
  obtain ⟨c2, hc2⟩ : ∃ c2, b.c * 2 + 0 = c2 := ⟨_, rfl⟩
  have hcr := h.ok.cr
  have hc5 : c2 ≤ 511 := by omega
  have HW := hid (fun W i hi hm => whole_step h lay false c2 hc5 (by omega) W i hi hm)
  have H0 := hid h.mu
  have HF := hid (fun W hm => bm_learnt (W := W) h false hm)
  have HE : Hid (mixed b.l (b.each false) 0 = b.l) := hid (mixed_zero _ _)
  have HE2 : Hid (mixed b.l (b.each false) N = b.each false) := hid (mixed_all _ _ _ (by rw [h.n]; omega) (by rw [reach_len, h.n]; omega))
  have HE3 : Hid (mixed (b.each false) ((b.each false).map (fun u => u.whole c2 b.whole)) 0 = b.each false) := hid (mixed_zero _ _)
  have HE4 : Hid (mixed (b.each false) ((b.each false).map (fun u => u.whole c2 b.whole)) N = (b.each false).map (fun u => u.whole c2 b.whole)) := hid (mixed_all _ _ _ (by rw [reach_len, h.n]; omega) (by rw [List.length_map, reach_len, h.n]; omega))
  have HN : Hid (¬ b.bits = 7 → b.learn false = { l := b.each false, c := c2, bits := b.bits + 1, whole := b.whole }) := hid (fun h7 => by rw [learn_l_neg b _ h7, ← hc2]; rfl)
  have HP : Hid (b.bits = 7 → b.learn false = { l := (b.each false).map (fun u => u.whole c2 b.whole), c := 1, bits := 0, whole := b.whole + 1 }) := hid (fun h7 => by rw [learn_l_pos b _ h7, ← hc2]; rfl)
  have hb7 := h.ok.bits
  have LAY := hid lay
  have hlist : Hid (∀ (W : World) A c i, i < N → W.ownsRow w.heap.size 3 1 (.slice A N c) N (b.leans.map iv) → ∃ gl, A = some ⟨gl, 0, none⟩ ∧ W.cell? ⟨gl, i, none⟩ = some (.int .i64 (b.leans.getD i 0))) := hid (fun W A c i hi ho => by
    obtain ⟨g2, c2, ev, hle, cell⟩ := tab_at ho i hi (iv 0)
    injection ev with e1 e2 e3
    refine ⟨g2, e1, ?_⟩
    rw [cell, iv_get]
    rfl)
  have k1 := (wr_in ((b.c : Int) * 2) (by omega)).out
  have k2 := (wr_in ((b.c : Int) * 2 + 0) (by omega)).out
  have k3 := (wr_in ((b.bits : Int) + 1) (by omega)).out
  have k4 := (wr_in ((b.whole : Int) + 1) (by omega)).out
  have ec2 : (c2 : Int) = (b.c : Int) * 2 + 0 := by omega
  generalize b.learn false = b' at *
  generalize b.each false = M at *
  generalize b.leans = LE at *
  clear h lay hcr
  go_enter Tryz.func16, Tryz.ntmps16
  go_upto_region 5 with (go_at_call 19; refine HL.out.mono ?_; rintro e W1 ⟨A, cA, rfl, o1, b1⟩)
  obtain ⟨gl, rfl, _⟩ := hlist.out W1 A cA 0 (by omega) o1
  have S1 : Hid (MU W1 r g N cap b.c b.bits b.whole (mixed b.l M 0) Vf B) := hid (by rw [HE.out]; exact H0.out.below b1 (show g < w.heap.size from lt_cell (H0.out.c 0 (by rw [H0.out.n]; omega)).p0))
  have O1 := hid o1
  have B1 : Hid (But (Mine Vf r g N) w W1) := hid (But.of_below b1)
  clear o1 b1 HL HE
  go_loopw [6] (fun v wr => ∃ i : Nat, i ≤ N ∧ v = .int .i64 (i : Int) ∧ Hid (MU wr r g N cap b.c b.bits b.whole (mixed b.l M i) Vf B) ∧ Hid (wr.ownsRow w.heap.size 3 1 (.slice (some ⟨gl, 0, none⟩) N cA) N (LE.map iv)) ∧ Hid (But (Mine Vf r g N) w wr)) (fun v _ => N - (intOf v).toNat)
  case atStart => exact ⟨0, by omega, rfl, S1, O1, B1⟩
  case round =>
    obtain ⟨i, hi, rfl, SI, OI, BI⟩ := hrel
    clear S1 O1 B1
    have hl0 := SI.out.rb.l
    by_cases hlt : i < N
    · have hz : (i : Int) < (N : Int) := by omega
      obtain ⟨gl2, eg, hcell⟩ := hlist.out wr _ cA i hlt OI.out
      obtain rfl : gl = gl2 := by injection eg with eg; injection eg
      clear eg
      have HC := hid (fun W (k : Below wr.heap.size wr W) => HS.out W i hlt (some ⟨gl, 0, none⟩) cA (SI.out.below k (show g < wr.heap.size from lt_cell (SI.out.c 0 (by rw [SI.out.n]; omega)).p0)) (own_below OI.out k))
      generalize LE.getD i 0 = d at *
      simp only [if_true, Bool.false_eq_true, if_false] at HC
      go_upto_region 7 with fail
      go_still_tail 13, (by kernel_rfl)
      go_wp2_with (go_at_call 35; refine (HC.out _ (Below.refl _ _).drew).mono ?_; rintro e W3 ⟨rfl, m3, b3, o3⟩)
      go_roundw
      case rel => exact ⟨i + 1, by omega, by go_num, hid m3, hid o3, hid (BI.out.trans ((But.refl _ _).drew.trans b3))⟩
      case measure => simp [intOf]; omega
    · obtain rfl : i = N := by omega
      rw [HE2.out] at SI
      clear HS HE2 OI hlist
      have b1 := SI.out.rb.c
      have b2 := SI.out.rb.bits
      have f1 := SI.out.fr 1
      have f2 := SI.out.fr 2
      have P1 := hid (SI.out.put (k := 1) LAY.out (SI.out.rb.put_c c2))
      have P2 := hid (P1.out.1.put (k := 2) LAY.out (P1.out.1.rb.put_bits (b.bits + 1)))
      have b2' := P1.out.1.rb.bits
      have f2' := P1.out.1.fr 2
      have b2'' := P2.out.1.rb.bits
      have BB := hid (BI.out.trans (P1.out.2.trans P2.out.2))
      rw [ec2] at P1 P2 b2' f2' b2'' BB
      rw [show ((b.bits + 1 : Nat) : Int) = (b.bits : Int) + 1 by omega] at P2 b2'' BB
      by_cases h7 : b.bits = 7
      · have d8 : ((b.bits : Int) + 1 == 8) = true := by simp only [beq_iff_eq]; omega
        go_upto_region 12 with fail
        have S2 : Hid (MU ((wr.setCell ⟨r, 1, none⟩ (.int .i64 ((b.c : Int) * 2))).setCell ⟨r, 2, none⟩ (.int .i64 8)) r g i cap c2 8 b.whole (mixed M (M.map (fun u => u.whole c2 b.whole)) 0) Vf B) := hid (by
          rw [HE3.out]
          have q := P2.out.1
          rw [h7] at q
          rw [Int.add_zero] at q
          exact q)
        have BB2 : Hid (But (Mine Vf r g i) w ((wr.setCell ⟨r, 1, none⟩ (.int .i64 ((b.c : Int) * 2))).setCell ⟨r, 2, none⟩ (.int .i64 8))) := hid (by
          have q := BB.out
          rw [h7] at q
          rw [Int.add_zero] at q
          exact q)
        have e := HP.out h7
        clear P1 P2 b1 b2 f1 f2 b2' f2' b2'' HN HP HE3 d8 hl0 SI BI BB
        generalize ((wr.setCell ⟨r, 1, none⟩ (.int .i64 ((b.c : Int) * 2))).setCell ⟨r, 2, none⟩ (.int .i64 8)) = W2 at *
        go_loopw [7] (fun v wr => ∃ j : Nat, j ≤ i ∧ v = .int .i64 (j : Int) ∧ Hid (MU wr r g i cap c2 8 b.whole (mixed M (M.map (fun u => u.whole c2 b.whole)) j) Vf B) ∧ Hid (But (Mine Vf r g i) w wr)) (fun v _ => i - (intOf v).toNat)
        case atStart => exact ⟨0, by omega, rfl, S2, BB2⟩
        case round =>
          obtain ⟨j, hj, rfl, SJ, BJ⟩ := hrel
          clear S2 BB2
          have hl0 := SJ.out.rb.l
          by_cases hlt : j < i
          · have hz : (j : Int) < (i : Int) := by omega
            have HC := hid (HW.out wr j hlt SJ.out)
            go_wp2_with (go_at_call 36; refine HC.out.mono ?_; rintro e3 W3 ⟨rfl, m3, b3⟩)
            go_roundw
            case rel => exact ⟨j + 1, by omega, by go_num, hid m3, hid (BJ.out.trans b3)⟩
            case measure => simp [intOf]; omega
          · obtain rfl : j = i := by omega
            rw [HE4.out] at SJ
            clear HW HE4
            have P4 : Hid (MU (wr.setCell ⟨r, 1, none⟩ (.int .i64 1)) r g j cap 1 8 b.whole (M.map (fun u => u.whole c2 b.whole)) Vf B ∧ But (Mine Vf r g j) wr (wr.setCell ⟨r, 1, none⟩ (.int .i64 1))) := hid (SJ.out.put (k := 1) LAY.out (SJ.out.rb.put_c 1))
            have P5 : Hid (MU ((wr.setCell ⟨r, 1, none⟩ (.int .i64 1)).setCell ⟨r, 2, none⟩ (.int .i64 0)) r g j cap 1 0 b.whole (M.map (fun u => u.whole c2 b.whole)) Vf B ∧ But (Mine Vf r g j) (wr.setCell ⟨r, 1, none⟩ (.int .i64 1)) ((wr.setCell ⟨r, 1, none⟩ (.int .i64 1)).setCell ⟨r, 2, none⟩ (.int .i64 0))) := hid (P4.out.1.put (k := 2) LAY.out (P4.out.1.rb.put_bits 0))
            have P6 := hid (P5.out.1.put (k := 3) LAY.out (P5.out.1.rb.put_whole (b.whole + 1)))
            rw [show ((b.whole + 1 : Nat) : Int) = (b.whole : Int) + 1 by omega] at P6
            have b1 := SJ.out.rb.c
            have f1 := SJ.out.fr 1
            have b2 := P4.out.1.rb.bits
            have f2 := P4.out.1.fr 2
            have b3 := P5.out.1.rb.whole
            have f3 := P5.out.1.fr 3
            have BB := hid (BJ.out.trans (P4.out.2.trans (P5.out.2.trans P6.out.2)))
            go_wp2_with fail
            go_ret
            refine ⟨rfl, HF.out _ ?_, BB.out⟩
            rw [e]
            exact P6.out.1
      · have d8 : ((b.bits : Int) + 1 == 8) = false := by simp only [beq_eq_false_iff_ne, ne_eq]; omega
        have e := HN.out h7
        clear HN HP HW HE3 HE4
        go_wp2_with fail
        go_ret
        refine ⟨rfl, HF.out _ ?_, BB.out⟩
        rw [e]
        exact P2.out.1
end Go.Proofs.YtkfdbibgjoaefaaGreatDoor
/-
  The document's blend: Contexts (written by tools/stage12/gen_rcx.py).
-/
namespace Go.Proofs.YtkfdbibgjoaefaaGreatDoor
open Go.RowKit
set_option linter.unusedVariables false
set_option linter.unusedSimpArgs false

theorem MU.put_h {w : World} {r g N cap c bits whole i : Nat} {L : List Un} {Vf : Nat → Vs} {B : Nat} (h : MU w r g N cap c bits whole L Vf B) (lay : Lay Vf r g N) (hi : i < N) (u : Un) (x : Nat) (hu : L[i]? = some u) :
    MU (w.setCell ⟨g, i * 16 + 7, none⟩ (.int .u32 (x : Nat))) r g N cap c bits whole (L.set i { u with h := x }) Vf B ∧ But (Mine Vf r g N) w (w.setCell ⟨g, i * 16 + 7, none⟩ (.int .u32 (x : Nat))) := by
  have hL : i < L.length := by rw [h.n]; exact hi
  obtain rfl : L[i] = u := by rw [List.getElem?_eq_getElem hL] at hu; injection hu
  have hgr : g ≠ r := fun e => lay.rg e.symm
  have hb : ∀ k x2, w.cell? ⟨r, k, none⟩ = some x2 → (w.setCell ⟨g, i * 16 + 7, none⟩ (.int .u32 (x : Nat))).cell? ⟨r, k, none⟩ = some x2 := fun k x2 hx => oth hx (fun e => hgr (congrArg Addr.block e))
  refine ⟨⟨⟨hb _ _ h.rb.l, hb _ _ h.rb.c, hb _ _ h.rb.bits, hb _ _ h.rb.whole⟩, by rw [List.length_set]; exact h.n, fun j hj => ?_, fun j hj => ?_, fun k => by rw [World.frozen?_setCell]; exact h.fg k, fun k => by rw [World.frozen?_setCell]; exact h.fr k⟩, (But.refl _ w).set _ _ (.inl (.inr (.inl rfl)))⟩
  · by_cases e : i = j
    · subst e
      rw [List.getElem_set_self]
      have q := h.c i hL
      exact ⟨oth q.p0 (by intro e2; injection e2; omega), oth q.p1 (by intro e2; injection e2; omega), oth q.p2 (by intro e2; injection e2; omega), oth q.p3 (by intro e2; injection e2; omega), oth q.p4 (by intro e2; injection e2; omega), oth q.p5 (by intro e2; injection e2; omega), oth q.p6 (by intro e2; injection e2; omega), sme q.h, oth q.c (by intro e2; injection e2; omega), oth q.k (by intro e2; injection e2; omega), oth q.s (by intro e2; injection e2; omega), oth q.w (by intro e2; injection e2; omega), oth q.n (by intro e2; injection e2; omega), oth q.r (by intro e2; injection e2; omega), oth q.pos (by intro e2; injection e2; omega), oth q.len (by intro e2; injection e2; omega)⟩
    · rw [List.getElem_set_ne e]
      have q := h.c j (by rw [List.length_set] at hj; exact hj)
      exact ⟨oth q.p0 (by intro e2; injection e2; omega), oth q.p1 (by intro e2; injection e2; omega), oth q.p2 (by intro e2; injection e2; omega), oth q.p3 (by intro e2; injection e2; omega), oth q.p4 (by intro e2; injection e2; omega), oth q.p5 (by intro e2; injection e2; omega), oth q.p6 (by intro e2; injection e2; omega), oth q.h (by intro e2; injection e2; omega), oth q.c (by intro e2; injection e2; omega), oth q.k (by intro e2; injection e2; omega), oth q.s (by intro e2; injection e2; omega), oth q.w (by intro e2; injection e2; omega), oth q.n (by intro e2; injection e2; omega), oth q.r (by intro e2; injection e2; omega), oth q.pos (by intro e2; injection e2; omega), oth q.len (by intro e2; injection e2; omega)⟩
  · have hj' : j < L.length := by rw [List.length_set] at hj; exact hj
    have hs := lay.sep j (by rw [← h.n]; exact hj')
    have q := h.t j hj'
    have q2 : RT (w.setCell ⟨g, i * 16 + 7, none⟩ (.int .u32 (x : Nat))) B L[j] (Vf j) := ⟨own_off q.c _ _ hs.gc, own_off q.k _ _ hs.gk, own_off q.s _ _ hs.gs, own_off q.w _ _ hs.gw, own_off q.n _ _ hs.gn, own_off q.r _ _ hs.gr⟩
    by_cases e : i = j
    · subst e
      rw [List.getElem_set_self]
      exact ⟨q2.c, q2.k, q2.s, q2.w, q2.n, q2.r⟩
    · rw [List.getElem_set_ne e]
      exact q2
/-- The caller's numbers (as WsAt of the program's side). -/
structure RWs (w : World) (B : Nat) (A : Option Addr) (m mc : Nat) (hs : List Nat) : Prop where
  len : hs.length = m
  lies : 0 < m → ∃ ad, A = some ad ∧ ad.block < B ∧ ∀ j, j < m → w.cell? (ad.add j) = some (.int .u32 (hs.getD j 0 : Nat))
  small : ∀ x ∈ hs, x < 4294967296
theorem rctx_len (b : Bl) (hs : List Nat) : (b.contexts hs).l.length = b.l.length := by unfold Bl.contexts; simp
theorem rhs_in {hs : List Nat} (h : ∀ x ∈ hs, x < 4294967296) (i : Nat) : hs.getD i 0 < 4294967296 := by
  by_cases hi : i < hs.length
  · rw [gD_in _ _ hi]
    exact h _ (List.getElem_mem hi)
  · rw [gD_out _ _ (by omega)]
    decide
theorem ctx_at (b : Bl) (hs : List Nat) (i : Nat) (hi : i < b.l.length) (hi' : i < (b.contexts hs).l.length) : (b.contexts hs).l[i] = if b.l[i].p.kind = 4 then ({ b.l[i] with h := hs.getD i 0 } : Un).find b.whole else { b.l[i] with h := hs.getD i 0 } := by
  simp [Bl.contexts]
theorem find_h (u : Un) (w : Nat) : (u.find w).h = u.h := rfl
theorem bm_begun {w W : World} {r g N cap : Nat} {b : Bl} {Vf : Nat → Vs} {B : Nat} (h : BM w r g N cap b Vf B) (hs : List Nat) (hsm : ∀ i, hs.getD i 0 < 4294967296) (hm : MU W r g N cap b.c b.bits b.whole (b.contexts hs).l Vf B) : BM W r g N cap (b.contexts hs) Vf B := by
  refine ⟨hm.rb, hm.n, h.nc, hm.c, hm.t, hm.fg, hm.fr, fun i hi => ?_, contexts_ok b hs h.ok⟩
  have hin : i < b.l.length := by rw [← rctx_len b hs]; exact hi
  rw [ctx_at b hs i hin hi]
  split
  · exact hsm i
  · exact hsm i
set_option maxRecDepth 10000 in
theorem rContexts_no (r g N cap : Nat) (b : Bl) (Vf : Nat → Vs) (B : Nat) (w : World) (hv : Value) (h : BM w r g N cap b Vf B) (hb : b.bits ≠ 0) :
    Calls Tryz.prog 13 #[.pointer (some ⟨r, 0, none⟩), hv] w fun e w' => e = .returned (.int .i64 2) ∧ Below w.heap.size w w' := by
  have b2 := h.rb.bits
  have n0 : ((b.bits : Int) != 0) = true := by simp only [bne_iff_ne, ne_eq]; omega
  clear h hb
  go_enter Tryz.func13, Tryz.ntmps13
  go_wp2_with fail
  go_ret
  exact ⟨rfl, Below.refl _ _⟩
set_option maxRecDepth 10000 in
set_option maxHeartbeats 8000000 in
theorem rContexts_any (r g N cap : Nat) (b : Bl) (Vf : Nat → Vs) (B : Nat) (w : World) (h : BM w r g N cap b Vf B) (lay : Lay Vf r g N) (hw : b.whole ≤ 1000000) (hb0 : b.bits = 0) (A : Option Addr) (m mc : Nat) (hs : List Nat) (ws : RWs w w.heap.size A m mc hs)
    (hd : ∀ ad, A = some ad → 0 < m → ¬ Mine Vf r g N ad.block) :
    Calls Tryz.prog 13 #[.pointer (some ⟨r, 0, none⟩), .slice A m mc] w fun e w' => e = .returned (.int .i64 0) ∧ BM w' r g N cap (b.contexts hs) Vf B ∧ But (Mine Vf r g N) w w' := by
  have hN := h.ok.n16
  rw [h.n] at hN
  have hbn := h.n
  have hml : hs.length = m := ws.len
  have hsm := rhs_in ws.small
  have H0 := hid h.mu
  have LAY := hid lay
  have HF := hid (fun W hm => bm_begun (W := W) h hs hsm hm)
  obtain ⟨M, hM⟩ : ∃ M, (b.contexts hs).l = M := ⟨_, rfl⟩
  have hMl : M.length = b.l.length := by rw [← hM, rctx_len]
  have HM : Hid (∀ i (hi : i < N), M[i]? = some (if (b.l[i]'(by omega)).p.kind = 4 then ({ (b.l[i]'(by omega)) with h := hs.getD i 0 } : Un).find b.whole else { (b.l[i]'(by omega)) with h := hs.getD i 0 })) := hid (fun i hi => by
    have hi2 : i < (b.contexts hs).l.length := by rw [rctx_len]; omega
    rw [← ctx_at b hs i (by omega) hi2, ← hM, List.getElem?_eq_getElem hi2])
  have HW : Hid (∀ V, But (Mine Vf r g N) w V → ∀ i, i < m → ∃ ad, A = some ad ∧ V.cell? (ad.add i) = some (.int .u32 (hs.getD i 0 : Nat))) := hid (fun V k i hi => by
    obtain ⟨ad, e, hlt, hc⟩ := ws.lies (by omega)
    exact ⟨ad, e, k.cell (hc i hi) (by rw [block_of_add]; exact hd ad e (by omega))⟩)
  have HOK : Hid (∀ i (hi : i < N) (x : Nat), ({ (b.l[i]'(by omega)) with h := x } : Un).ok b.whole ∧ (∃ sz : Nat, (b.l[i]'(by omega)).p.size = (sz : Int) ∧ sz ≤ 16)) := hid (fun i hi x => ⟨(show (b.l[i]'(by omega)).ok b.whole from h.ok.each _ (List.getElem_mem (by omega : i < b.l.length))), one_size _ _ (h.ok.one i (by omega))⟩)
  have HE : Hid (mixed b.l M 0 = b.l) := hid (mixed_zero _ _)
  have HE2 : Hid (mixed b.l M N = M) := hid (mixed_all _ _ _ (by omega) (by omega))
  rw [hM] at HF
  have b2 := h.rb.bits
  rw [hb0] at b2
  have hl0 := h.rb.l
  clear h lay ws hd hM
  go_enter Tryz.func13, Tryz.ntmps13
  go_upto_region 4 with fail
  clear b2 hl0
  go_loopw [5] (fun v wr => ∃ i : Nat, i ≤ N ∧ v = .int .i64 (i : Int) ∧ Hid (MU wr r g N cap b.c b.bits b.whole (mixed b.l M i) Vf B) ∧ Hid (But (Mine Vf r g N) w wr)) (fun v _ => N - (intOf v).toNat)
  case atStart => exact ⟨0, by omega, rfl, hid (by rw [HE.out]; exact H0.out), hid (But.refl _ _)⟩
  case round =>
    obtain ⟨i, hi, rfl, SI, BI⟩ := hrel
    have hl0 := SI.out.rb.l
    by_cases hlt : i < N
    · have hz : (i : Int) < (N : Int) := by omega
      have hi' : i < b.l.length := by omega
      have hiM : i < M.length := by omega
      have hij : i < (mixed b.l M i).length := by rw [mixed_len _ _ hMl.symm]; exact hi'
      have eat : (mixed b.l M i)[i]? = some b.l[i] := by rw [List.getElem?_eq_getElem hij, mixed_at b.l M i hMl.symm hi' hij]
      have hMi := HM.out i hlt
      obtain ⟨u, hu⟩ : ∃ u, b.l[i] = u := ⟨_, rfl⟩
      have hok := HOK.out i hlt (hs.getD i 0)
      rw [hu] at hMi eat hok
      have hset : ∀ v, M[i]? = some v → (mixed b.l M i).set i v = mixed b.l M (i + 1) := fun v hv => by
        rw [← mixed_set b.l M hMl.symm i hi' hiM]
        rw [List.getElem?_eq_getElem hiM] at hv
        injection hv with hv
        rw [hv]
      have q7 := (SI.out.c i hij).h
      have f7 := SI.out.fg (i * 16 + 7)
      have P1 : Hid (MU (wr.setCell ⟨g, i * 16 + 7, none⟩ (.int .u32 0)) r g N cap b.c b.bits b.whole ((mixed b.l M i).set i { u with h := 0 }) Vf B ∧ But (Mine Vf r g N) wr (wr.setCell ⟨g, i * 16 + 7, none⟩ (.int .u32 0))) := hid (SI.out.put_h LAY.out hlt u 0 eat)
      have hxs : (mixed b.l M i).length = N := SI.out.n
      replace hset := hid hset
      replace hMi := hid hMi
      replace hok := hid hok
      clear eat hu
      generalize mixed b.l M i = X at *
      go_upto_region 8 with fail
      have B1 := hid (BI.out.trans P1.out.2)
      generalize wr.setCell ⟨g, i * 16 + 7, none⟩ (.int .u32 0) = W1 at *
      clear q7 f7 hl0 SI BI
      have hi3 : i < (X.set i { u with h := 0 }).length := by rw [List.length_set, hxs]; exact hlt
      have hend : ∀ W2, MU W2 r g N cap b.c b.bits b.whole (X.set i { u with h := hs.getD i 0 }) Vf B → But (Mine Vf r g N) w W2 → Hid (W2.cell? ⟨g, i * 16, none⟩ = some (.int .u8 u.p.kind) ∧ (u.p.kind = 4 → Calls Tryz.prog 32 #[.pointer (some ⟨r, 0, none⟩), .pointer (some ⟨g, i * 16, none⟩)] W2 fun e w' => e = .returned (.tuple #[]) ∧ MU w' r g N cap b.c b.bits b.whole (mixed b.l M (i + 1)) Vf B ∧ But (Mine Vf r g N) w w') ∧ (u.p.kind ≠ 4 → MU W2 r g N cap b.c b.bits b.whole (mixed b.l M (i + 1)) Vf B)) := fun W2 m2 k2 => hid (by
        have hi4 : i < (X.set i { u with h := hs.getD i 0 }).length := by rw [List.length_set, hxs]; exact hlt
        have eu : (X.set i { u with h := hs.getD i 0 })[i]'hi4 = { u with h := hs.getD i 0 } := List.getElem_set_self _
        have hc := m2.c i hi4
        have ht := m2.t i hi4
        rw [eu] at hc ht
        refine ⟨hc.p0, fun h4 => ?_, fun h4 => ?_⟩
        · obtain ⟨ok1, sz, e1, e2⟩ := hok.out
          refine (find_any r g N cap (i * 16) b.c b.bits b.whole { u with h := hs.getD i 0 } (Vf i) B W2 m2.rb hc ht (LAY.out.sep i hlt) sz e1 e2 (hsm i) (by omega) ok1 LAY.out.rg m2.fg h4).mono ?_
          rintro e w' ⟨rfl, hL⟩
          obtain ⟨n1, n2⟩ := m2.turned LAY.out hlt hL
          rw [List.set_set, hset.out _ (by rw [hMi.out, if_pos h4])] at n1
          exact ⟨rfl, n1, k2.trans n2⟩
        · rw [hset.out _ (by rw [hMi.out, if_neg h4])] at m2
          exact m2)
      by_cases him : i < m
      · have hmz : (i : Int) < (m : Int) := by omega
        obtain ⟨ad, rfl, hwc⟩ := HW.out W1 B1.out i him
        have q7 : W1.cell? ⟨g, i * 16 + 7, none⟩ = some (.int .u32 0) := by
          have q := (P1.out.1.c i hi3).h
          rw [List.getElem_set_self] at q
          exact q
        have f7 := P1.out.1.fg (i * 16 + 7)
        have P2 := hid (P1.out.1.put_h LAY.out hlt { u with h := 0 } (hs.getD i 0) (by rw [List.getElem?_eq_getElem hi3, List.getElem_set_self]))
        have HEND := hend _ (by have q := P2.out.1; rw [List.set_set] at q; exact q) (B1.out.trans P2.out.2)
        have B2 := hid (B1.out.trans P2.out.2)
        clear hend P1 B1 P2
        generalize hs.getD i 0 = x at *
        go_upto_region 10 with fail
        generalize W1.setCell ⟨g, i * 16 + 7, none⟩ (.int .u32 (x : Nat)) = W2 at *
        clear q7 f7 hwc
        obtain ⟨k0, k4, kn⟩ := HEND.out
        clear HEND
        by_cases h4 : u.p.kind = 4
        · have e4 : ((u.p.kind : Int) == 4) = true := by simp only [beq_iff_eq]; omega
          have HC := hid (k4 h4)
          clear k4 kn
          go_wp2_with (go_at_call 32; refine HC.out.mono ?_; rintro e3 W3 ⟨rfl, m3, b3⟩)
          go_roundw
          case rel => exact ⟨i + 1, by omega, by go_num, hid m3, hid b3⟩
          case measure => simp [intOf]; omega
        · have e4 : ((u.p.kind : Int) == 4) = false := by simp only [beq_eq_false_iff_ne, ne_eq]; omega
          have m3 := hid (kn h4)
          clear k4 kn
          go_wp2_with fail
          go_roundw
          case rel => exact ⟨i + 1, by omega, by go_num, hid m3.out, B2⟩
          case measure => simp [intOf]; omega
      · have hmz : ¬ (i : Int) < (m : Int) := by omega
        have d0 : hs.getD i 0 = 0 := gD_out _ _ (by omega)
        have HEND := hend W1 (by rw [d0]; exact P1.out.1) B1.out
        clear hend P1
        obtain ⟨k0, k4, kn⟩ := HEND.out
        clear HEND
        by_cases h4 : u.p.kind = 4
        · have e4 : ((u.p.kind : Int) == 4) = true := by simp only [beq_iff_eq]; omega
          have HC := hid (k4 h4)
          clear k4 kn
          go_wp2_with (go_at_call 32; refine HC.out.mono ?_; rintro e3 W3 ⟨rfl, m3, b3⟩)
          go_roundw
          case rel => exact ⟨i + 1, by omega, by go_num, hid m3, hid b3⟩
          case measure => simp [intOf]; omega
        · have e4 : ((u.p.kind : Int) == 4) = false := by simp only [beq_eq_false_iff_ne, ne_eq]; omega
          have m3 := hid (kn h4)
          clear k4 kn
          go_wp2_with fail
          go_roundw
          case rel => exact ⟨i + 1, by omega, by go_num, hid m3.out, B1⟩
          case measure => simp [intOf]; omega
    · obtain rfl : i = N := by omega
      rw [HE2.out] at SI
      go_wp2_with fail
      go_ret
      exact ⟨rfl, HF.out _ SI.out, BI.out⟩
end Go.Proofs.YtkfdbibgjoaefaaGreatDoor
