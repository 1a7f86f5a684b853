/-
  Merged: Rl8.
-/
import Derived.Test.YtkfdbibgjoaefaaGreatDoorMg16
import Derived.StillTailTactics
/-
  The document's blend: how a unit learns (a lean moved by a state).
-/
namespace Go.Proofs.YtkfdbibgjoaefaaGreatDoor
open Go.RowKit
set_option linter.unusedVariables false
set_option linter.unusedSimpArgs false

set_option maxRecDepth 10000 in
set_option maxHeartbeats 16000000 in
theorem learn_8 (r g N cap o C bits whole : Nat) (u : Un) (V : Vs) (B : Nat) (l : List Int) (vl : Value) (d : Int) (one : Bool) (w : World)
    (hb : RB w r g N cap C bits whole) (hc : RC w g o u V) (ht : RT w B u V) (hs : Sep V g) (sz : Nat) (hsz : u.p.size = (sz : Int)) (hs16 : sz ≤ 16) (hC : 1 ≤ C ∧ C ≤ 255) (hh : u.h < 4294967296)
    (hok : u.ok whole) (hd : -9223372036854775808 ≤ d ∧ d ≤ 9223372036854775807) (hsq : 0 ≤ sq d ∧ sq d ≤ 4095)
    (i : Nat) (hone : u.p.one (i : Int)) (Bl : Nat) (la : Option Addr) (ln lc : Nat) (hvl : vl = .slice la ln lc) (hlv : w.ownsRow Bl 3 1 (.slice la ln lc) l.length (l.map iv)) (hil : i ≤ l.length) (hlr : ∀ d ∈ l, Lean1 d) (hk : u.p.kind = 8) :
    Calls Tryz.prog 35 #[.pointer (some ⟨r, 0, none⟩), .pointer (some ⟨g, o, none⟩), vl, .int .i64 d, .int .i64 (if one then 1 else 0)] w (LearnsIn w g o (u.learn C l d one) V B) := by
  have HP := hid (fun w => r_place u.h C sz hh (by omega) hs16 w)
  obtain ⟨pl, hpl⟩ : ∃ pl, placeN u.h C (sz : Int) = pl := ⟨_, rfl⟩
  have hplt : pl < pw u.p.size := by rw [← hpl, hsz]; exact placeN_lt _ _ _ (by omega) (by omega)
  rw [hpl] at HP
  have HS := hid (fun w => refSquash_any d w hd.1 hd.2)
  obtain ⟨sd, hsd⟩ : ∃ x, sq d = x := ⟨_, rfl⟩
  rw [hsd] at HS hsq
  obtain ⟨bt, hbt⟩ : ∃ x : Int, (if one then 1 else 0) = x := ⟨_, rfl⟩
  have hbr : 0 ≤ bt ∧ bt ≤ 1 := by rw [← hbt]; cases one <;> simp
  obtain ⟨er0, her0⟩ : ∃ x : Int, 4095 * bt = x := ⟨_, rfl⟩
  obtain ⟨er, her⟩ : ∃ x : Int, er0 - sd = x := ⟨_, rfl⟩
  have herv : Hid (er = (if one then 4095 else 0) - sq d) := hid (by rw [← her, ← her0, ← hbt, hsd]; cases one <;> simp)
  have herr : -4095 ≤ er ∧ er ≤ 4095 := by omega
  have E1 := wr_in er0 (by omega)
  have E2 := wr_in er (by omega)
  rw [hbt]
  have HC := hid hc
  have HT := hid ht
  have HB := hid hb
  have HM := hid (fun w => hnp_made (w := w) u 38)
  obtain ⟨p0, p1, p2, p3, p4, p5, p6, p7, p8, p9, p10, p11, p12, p13, p14, p15⟩ := hc
  obtain ⟨b0, b1, b2, b3⟩ := hb
  rw [hsz] at HM p1
  subst hvl
  have hok2 := hok
  unfold Un.ok at hok2
  simp [hk] at hok2
  obtain ⟨o1, o2, o3, o4⟩ := hok2
  have hf := hone.2
  simp [Pt.fit, inn, hk] at hf
  obtain ⟨fp, ⟨fa1, fa2⟩⟩ := hf
  obtain ⟨a, ha⟩ : ∃ a : Nat, u.p.a = (a : Int) := ⟨u.p.a.toNat, by omega⟩
  have hal : a < l.length := by omega
  obtain ⟨xa, hxa⟩ : ∃ x, l.getD a 0 = x := ⟨_, rfl⟩
  have hra : Lean1 xa := by have := at0_lean l hlr (a : Int); unfold at0 at this; rw [Int.toNat_natCast, hxa] at this; exact this
  have haa : at0 l (a : Int) = xa := by unfold at0; rw [Int.toNat_natCast, hxa]
  obtain ⟨gla, xla, ela, hlea, cla⟩ := tab_at hlv a hal (iv 0)
  rw [iv_get, hxa] at cla
  have hba : (a : Int) < (l.length : Int) := by omega
  injection ela with e1 e2 e3
  subst e1 e2 e3
  have Ta := hid cla
  obtain ⟨hra1, hra2⟩ := hra
  obtain ⟨st, hst⟩ : ∃ st, u.state.getD pl 0 = st := ⟨_, rfl⟩
  have hst2 : st ≤ 255 := by rw [← hst]; exact o2 pl
  obtain ⟨i0, hi0⟩ : ∃ i, 2 * st = i := ⟨_, rfl⟩
  obtain ⟨i1, hi1'⟩ : ∃ i, i0 + 1 = i := ⟨_, rfl⟩
  obtain ⟨x, hx⟩ : ∃ x, u.weight.getD i0 0 = x := ⟨_, rfl⟩
  have hxr : -1048576 ≤ x ∧ x ≤ 1048576 := by rw [← hx]; exact o4.get i0 (by omega)
  obtain ⟨y, hy⟩ : ∃ y, u.weight.getD i1 0 = y := ⟨_, rfl⟩
  have hyr : -1048576 ≤ y ∧ y ≤ 1048576 := by rw [← hy]; exact o4.get i1 (by omega)
  obtain ⟨z1, hz1⟩ : ∃ z, er * xa = z := ⟨_, rfl⟩
  have hz1r := mul_in er xa 4095 2047 herr ⟨by omega, by omega⟩
  rw [hz1] at hz1r
  obtain ⟨z2, hz2⟩ : ∃ z, z1 + 4096 = z := ⟨_, rfl⟩
  obtain ⟨z3, hz3⟩ : ∃ z, z2 / 8192 = z := ⟨_, rfl⟩
  obtain ⟨z4, hz4⟩ : ∃ z, x + z3 = z := ⟨_, rfl⟩
  obtain ⟨z5, hz5⟩ : ∃ z, into z4 (-1048576) 1048576 = z := ⟨_, rfl⟩
  obtain ⟨y1, hy1⟩ : ∃ z, er + 16 = z := ⟨_, rfl⟩
  obtain ⟨y2, hy2⟩ : ∃ z, y1 / 32 = z := ⟨_, rfl⟩
  obtain ⟨y3, hy3⟩ : ∃ z, y + y2 = z := ⟨_, rfl⟩
  obtain ⟨y5, hy5⟩ : ∃ z, into y3 (-1048576) 1048576 = z := ⟨_, rfl⟩
  have F1 := wr_in z1 (by omega)
  have F2 := wr_in z2 (by omega)
  have F4 := wr_in z4 (by omega)
  have F5 := wr_in y1 (by omega)
  have F6 := wr_in y3 (by omega)
  have G0 := wr_in (i0 : Int) (by omega)
  have G1 := wr_in (i1 : Int) (by omega)
  have G2 := wr_in (st : Int) (by omega)
  have J0 := hid (show (2 : Int) * (st : Int) = (i0 : Int) by omega)
  have J1 := hid (show (i0 : Int) + 1 = (i1 : Int) by omega)
  have HD := hid (fun w => r_down z2 8192 (by omega) (by omega) (by omega) w)
  rw [hz3] at HD
  have HI := hid (fun w => r_into z4 (-1048576) 1048576 w)
  rw [hz5] at HI
  have HD2 := hid (fun w => r_down y1 32 (by omega) (by omega) (by omega) w)
  rw [hy2] at HD2
  have HI2 := hid (fun w => r_into y3 (-1048576) 1048576 w)
  rw [hy5] at HI2
  obtain ⟨nx, hnx⟩ : ∃ nx, nxN st one = nx := ⟨_, rfl⟩
  have hnxr : nx ≤ 255 := by rw [← hnx]; exact Nat.le_of_lt_succ (nxN_lt st (by omega) one)
  have hone2 : oneB bt = one := by rw [← hbt]; cases one <;> rfl
  have HN := hid (fun w => refNext_any st bt (by omega) w)
  rw [hone2, hnx] at HN
  have hres : u.learn C l d one = { ({ ({ u with weight := u.weight.set i0 z5 } : Un) with weight := (u.weight.set i0 z5).set i1 y5 } : Un) with state := u.state.set pl nx } := by rw [ul8 hk, hsz, hpl, hst, hi0, hi1', ha, haa, hx, hy, ← herv.out, hz1, hz2, hz3, hz4, hz5, hy1, hy2, hy3, hy5, hnx]
  rw [hres]
  obtain ⟨gw, hgw, nw⟩ := ht.has_w (i := i0) (by omega)
  obtain ⟨gs, hgs, ns⟩ := ht.has_s (i := pl) (by omega)
  have hl1 : (pl : Int) < (u.state.length : Int) := by omega
  have hl2 : (i0 : Int) < (u.weight.length : Int) := by omega
  have hl3 : (i1 : Int) < (u.weight.length : Int) := by omega
  have hp1 : pl < u.state.length := by omega
  have hp2 : i0 < u.weight.length := by omega
  have hp3 : i1 < u.weight.length := by omega
  have hl4 : (st : Int) ≤ 255 := by omega
  have hl5 : (nx : Int) ≤ 255 := by omega
  have hi01 : i0 ≠ i1 := by omega
  have hgn : g ≠ gs := fun e => hs.gs (by unfold Sw.b; rw [hgs, ← e]; rfl)
  have HV := hid (And.intro hgw (And.intro nw (And.intro hgs ns)))
  have HX := hid (And.intro hst (And.intro hx hy))
  rw [ha] at HM p2
  clear o1 o2 o3 o4 fp cla hlv hlr hra1 hra2 fa1 fa2 hgw nw hgs ns hxr hyr hz1r hz3 hz5 hy2 hy5 hx hy hst hst2 hnxr hone2 hi0 hi1'
  have hkk : (u.p.kind : Int) = 8 := by omega
  rw [hkk] at p0 HM
  clear ht hok hplt hsq hd hbr hsd hbt
  go_enter Tryz.func35, Tryz.ntmps35
  go_upto_region 1 with fail
  have H1 := hid (HM.out w)
  clear p0 p1 p2 p3 p4 p5 p6 p7 p8 p9 p10 p11 p12 p13 p14 p15 HM b0 b1 b2 b3
  generalize (w.alloc (.cells #[.int .u8 8, .int .i64 (sz : Int), .int .i64 (a : Int), .int .i64 u.p.b, .int .i64 u.p.c, .int .i64 u.p.rate, .int .i64 u.p.limit] 38)) = W at H1 ⊢
  have HB1 := hid (HB.out.below H1.out.bel)
  have HC1 := hid (HC.out.below H1.out.bel)
  have HPq := still HP.out W
  have q1 := HB1.out.c
  have q2 := HC1.out.h
  have q3 := H1.out.p1
  rw [hsz] at q3
  generalize hU : w.heap.size = U at *
  go_quiet (with_reducible exact HPq.out _)
  have hbd := hid (below_drewN H1.out.bel nq)
  have H2 := hid (H1.out.later (show Below W.heap.size W (W.drewN nq) from below_drewN (Below.refl _ W) nq))
  clear H1 HPq q1 q2 q3 HB1 HC1
  generalize W.drewN nq = W at *
  have e1 := E1.out
  have e2 := E2.out
  go_upto_region 3 with (go_at_call 39; refine (HS.out _).mono ?_; rintro rj w5 ⟨rfl, b5⟩)
  have H3 := hid (H2.out.later b5)
  clear b5 H2 e1 e2 hbd
  generalize w5 = W at *
  have HL := hid ((Lrn.start HC.out HT.out).on H3.out.bel)
  have q0 := H3.out.p0
  rw [hkk] at q0
  have f1 := F1.out
  have f2 := F2.out
  have f4 := F4.out
  have g0 := G0.out
  have g1 := G1.out
  have g2 := G2.out
  have j0 := J0.out
  have j1 := J1.out
  have q2 := H3.out.p2
  rw [ha] at q2
  have cl1 : W.cell? ⟨gla, a, none⟩ = some (.int .i64 xa) := keeps H3.out.bel Ta.out
  have cs := (HL.out.t.at_s HV.out.2.2.1 hp1).1
  rw [HX.out.1] at cs
  replace cs : W.cell? ⟨gs, pl, none⟩ = some (.int .u8 (st : Nat)) := cs
  obtain ⟨cw, fw⟩ := HL.out.t.at_w HV.out.1 hp2
  rw [HX.out.2.1] at cw
  replace cw : W.cell? ⟨gw, i0, none⟩ = some (.int .i64 x) := cw
  have q11 := HL.out.c.w
  rw [HV.out.1, HV.out.2.1] at q11
  have q10 := HL.out.c.s
  rw [HV.out.2.2.1, HV.out.2.2.2] at q10
  go_upto_region 20 with fail
  go_still_tail 28, (by kernel_rfl)
  refine wpStill_step (fun K hK => ?_)
  go_simp
  refine ⟨_, (HD.out _).mono (fun e w' h => ⟨h.1, h.2⟩), hK _ ?_⟩
  clear hK K
  repeat still_step
  refine wpStill_step (fun K hK => ?_)
  go_simp
  refine ⟨_, (HI.out _).mono (fun e w' h => ⟨h.1, h.2⟩), hK _ ?_⟩
  clear hK K
  repeat still_step
  refine wpStill_nil ?_
  change wpList _ _ _ _ _ W.drew
  replace fw : W.drew.frozen? ⟨gw, i0, none⟩ = false := fw
  replace cw : W.drew.cell? ⟨gw, i0, none⟩ = some (.int .i64 x) := cw
  go_upto_region 21 with fail
  have HL2 := hid ((HL.out.put_w hs HV.out.1 hp2 z5).drew)
  clear f1 f2 f4 cs cw fw q2 q10 q11 q0 H3 HL cl1
  generalize hW : (W.setCell ⟨gw, i0, none⟩ (.int .i64 z5)).drew = W2
  have HL3 : Hid (Lrn w W2 g o { u with weight := u.weight.set i0 z5 } V B) := by rw [← hW]; exact HL2
  clear hW HL2
  have hp4 : i1 < ({ u with weight := u.weight.set i0 z5 } : Un).weight.length := by rw [show ({ u with weight := u.weight.set i0 z5 } : Un).weight = u.weight.set i0 z5 from rfl, List.length_set]; exact hp3
  obtain ⟨cw, fw⟩ := HL3.out.t.at_w HV.out.1 hp4
  rw [show ({ u with weight := u.weight.set i0 z5 } : Un).weight = u.weight.set i0 z5 from rfl, getD_set_ne hi01, HX.out.2.2] at cw
  replace cw : W2.cell? ⟨gw, i1, none⟩ = some (.int .i64 y) := cw
  have q11 := HL3.out.c.w
  rw [HV.out.1, HV.out.2.1] at q11
  have f5 := F5.out
  have f6 := F6.out
  go_still_tail 24, (by kernel_rfl)
  refine wpStill_step (fun K hK => ?_)
  go_simp
  refine ⟨_, (HD2.out _).mono (fun e w' h => ⟨h.1, h.2⟩), hK _ ?_⟩
  clear hK K
  repeat still_step
  refine wpStill_step (fun K hK => ?_)
  go_simp
  refine ⟨_, (HI2.out _).mono (fun e w' h => ⟨h.1, h.2⟩), hK _ ?_⟩
  clear hK K
  repeat still_step
  refine wpStill_nil ?_
  change wpList _ _ _ _ _ W2.drew
  replace fw : W2.drew.frozen? ⟨gw, i1, none⟩ = false := fw
  replace cw : W2.drew.cell? ⟨gw, i1, none⟩ = some (.int .i64 y) := cw
  go_upto_region 22 with fail
  have HL4 := hid ((HL3.out.put_w hs HV.out.1 hp4 y5).drew)
  clear f5 f6 cw fw q11 HL3
  generalize hW : (W2.setCell ⟨gw, i1, none⟩ (.int .i64 y5)).drew = W3
  have HL5 : Hid (Lrn w W3 g o { ({ u with weight := u.weight.set i0 z5 } : Un) with weight := (u.weight.set i0 z5).set i1 y5 } V B) := by rw [← hW]; exact HL4
  clear hW HL4
  have q10 := HL5.out.c.s
  rw [HV.out.2.2.1, HV.out.2.2.2] at q10
  replace HL5 := hid HL5.out.drew
  go_region_held3 (fun w' => w'.cell? ⟨g, o + 10, none⟩ = some (.slice (some ⟨gs, 0, none⟩) u.state.length V.s.c)) (first | exact q11 | exact q10 | exact off_cell q11 hgn | go_keep)
    (first | (go_at_call 58; (refine (HN.out _).mono ?_); rintro rj w6 ⟨rfl, b6⟩; have HL6 := hid (HL5.out.on b6); have fs := (HL6.out.t.at_s HV.out.2.2.1 hp1).2; have q11 := HL6.out.c.s; rw [HV.out.2.2.1, HV.out.2.2.2] at q11; have cs : w6.cell? ⟨gs, pl, none⟩ = some (.int .u8 (st : Nat)) := by (have h1 := (HL6.out.t.at_s HV.out.2.2.1 hp1).1; rw [show ({ ({ u with weight := u.weight.set i0 z5 } : Un) with weight := (u.weight.set i0 z5).set i1 y5 } : Un).state = u.state from rfl, HX.out.1] at h1; exact h1)))
  go_end0
  exact ⟨rfl, HL6.out.put_s hs HV.out.2.2.1 hp1 nx⟩
end Go.Proofs.YtkfdbibgjoaefaaGreatDoor
