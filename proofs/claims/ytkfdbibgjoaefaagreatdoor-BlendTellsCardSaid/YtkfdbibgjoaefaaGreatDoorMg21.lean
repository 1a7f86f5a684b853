/-
  Merged: Rl6.
-/
import Derived.Test.YtkfdbibgjoaefaaGreatDoorMg16
import Derived.StillTailTactics
/-
  The document's blend: how a unit learns (two leans mixed).
-/
namespace Go.Proofs.YtkfdbibgjoaefaaGreatDoor
open Go.RowKit
set_option linter.unusedVariables false
set_option linter.unusedSimpArgs false

set_option maxRecDepth 10000 in
set_option maxHeartbeats 16000000 in
theorem learn_6 (r g N cap o C bits whole : Nat) (u : Un) (V : Vs) (B : Nat) (l : List Int) (vl : Value) (d : Int) (one : Bool) (w : World)
    (hb : RB w r g N cap C bits whole) (hc : RC w g o u V) (ht : RT w B u V) (hs : Sep V g) (sz : Nat) (hsz : u.p.size = (sz : Int)) (hs16 : sz ≤ 16) (hC : 1 ≤ C ∧ C ≤ 255) (hh : u.h < 4294967296)
    (hok : u.ok whole) (hd : -9223372036854775808 ≤ d ∧ d ≤ 9223372036854775807) (hsq : 0 ≤ sq d ∧ sq d ≤ 4095)
    (i : Nat) (hone : u.p.one (i : Int)) (Bl : Nat) (la : Option Addr) (ln lc : Nat) (hvl : vl = .slice la ln lc) (hlv : w.ownsRow Bl 3 1 (.slice la ln lc) l.length (l.map iv)) (hil : i ≤ l.length) (hlr : ∀ d ∈ l, Lean1 d) (hk : u.p.kind = 6) :
    Calls Tryz.prog 35 #[.pointer (some ⟨r, 0, none⟩), .pointer (some ⟨g, o, none⟩), vl, .int .i64 d, .int .i64 (if one then 1 else 0)] w (LearnsIn w g o (u.learn C l d one) V B) := by
  have HP := hid (fun w => r_place u.h C sz hh (by omega) hs16 w)
  obtain ⟨pl, hpl⟩ : ∃ pl, placeN u.h C (sz : Int) = pl := ⟨_, rfl⟩
  have hplt : pl < pw u.p.size := by rw [← hpl, hsz]; exact placeN_lt _ _ _ (by omega) (by omega)
  rw [hpl] at HP
  have HS := hid (fun w => refSquash_any d w hd.1 hd.2)
  obtain ⟨sd, hsd⟩ : ∃ x, sq d = x := ⟨_, rfl⟩
  rw [hsd] at HS hsq
  obtain ⟨bt, hbt⟩ : ∃ x : Int, (if one then 1 else 0) = x := ⟨_, rfl⟩
  have hbr : 0 ≤ bt ∧ bt ≤ 1 := by rw [← hbt]; cases one <;> simp
  obtain ⟨er0, her0⟩ : ∃ x : Int, 4095 * bt = x := ⟨_, rfl⟩
  obtain ⟨er, her⟩ : ∃ x : Int, er0 - sd = x := ⟨_, rfl⟩
  have herv : Hid (er = (if one then 4095 else 0) - sq d) := hid (by rw [← her, ← her0, ← hbt, hsd]; cases one <;> simp)
  have herr : -4095 ≤ er ∧ er ≤ 4095 := by omega
  have E1 := wr_in er0 (by omega)
  have E2 := wr_in er (by omega)
  rw [hbt]
  have HC := hid hc
  have HT := hid ht
  have HB := hid hb
  have HM := hid (fun w => hnp_made (w := w) u 38)
  obtain ⟨p0, p1, p2, p3, p4, p5, p6, p7, p8, p9, p10, p11, p12, p13, p14, p15⟩ := hc
  obtain ⟨b0, b1, b2, b3⟩ := hb
  rw [hsz] at HM p1
  subst hvl
  have hok2 := hok
  unfold Un.ok at hok2
  simp [hk] at hok2
  obtain ⟨o1, o2⟩ := hok2
  have hf := hone.2
  simp [Pt.fit, inn, hk] at hf
  obtain ⟨fp, ⟨fa1, fa2⟩, ⟨fb1, fb2⟩, fr1, fr2⟩ := hf
  obtain ⟨a, ha⟩ : ∃ a : Nat, u.p.a = (a : Int) := ⟨u.p.a.toNat, by omega⟩
  have hal : a < l.length := by omega
  obtain ⟨xa, hxa⟩ : ∃ x, l.getD a 0 = x := ⟨_, rfl⟩
  have hra : Lean1 xa := by have := at0_lean l hlr (a : Int); unfold at0 at this; rw [Int.toNat_natCast, hxa] at this; exact this
  have haa : at0 l (a : Int) = xa := by unfold at0; rw [Int.toNat_natCast, hxa]
  obtain ⟨gla, xla, ela, hlea, cla⟩ := tab_at hlv a hal (iv 0)
  rw [iv_get, hxa] at cla
  have hba : (a : Int) < (l.length : Int) := by omega
  obtain ⟨b, hb⟩ : ∃ b : Nat, u.p.b = (b : Int) := ⟨u.p.b.toNat, by omega⟩
  have hbl : b < l.length := by omega
  obtain ⟨xb, hxb⟩ : ∃ x, l.getD b 0 = x := ⟨_, rfl⟩
  have hrb : Lean1 xb := by have := at0_lean l hlr (b : Int); unfold at0 at this; rw [Int.toNat_natCast, hxb] at this; exact this
  have hab : at0 l (b : Int) = xb := by unfold at0; rw [Int.toNat_natCast, hxb]
  obtain ⟨glb, xlb, elb, hleb, clb⟩ := tab_at hlv b hbl (iv 0)
  rw [iv_get, hxb] at clb
  have hbb : (b : Int) < (l.length : Int) := by omega
  injection ela with e1 e2 e3
  subst e1 e2 e3
  injection elb with e1 e2 e3
  injection e1 with e1
  injection e1 with e1
  subst e1
  have Ta := hid cla
  have Tb := hid clb
  obtain ⟨hra1, hra2⟩ := hra
  obtain ⟨hrb1, hrb2⟩ := hrb
  obtain ⟨x, hx⟩ : ∃ x, u.weight.getD pl 0 = x := ⟨_, rfl⟩
  have hxr : 0 ≤ x ∧ x ≤ 65535 := by rw [← hx]; exact o2.get pl (by omega)
  obtain ⟨rt, hrt⟩ : ∃ x, u.p.rate = x := ⟨_, rfl⟩
  rw [hrt] at fr1 fr2
  obtain ⟨z1, hz1⟩ : ∃ z, er * rt = z := ⟨_, rfl⟩
  have hz1r := mul_in er rt 4095 64 herr ⟨by omega, by omega⟩
  rw [hz1] at hz1r
  obtain ⟨z2, hz2⟩ : ∃ z, xa - xb = z := ⟨_, rfl⟩
  obtain ⟨z3, hz3⟩ : ∃ z, z1 * z2 = z := ⟨_, rfl⟩
  have hz3r := mul_in z1 z2 262080 4094 ⟨by omega, by omega⟩ ⟨by omega, by omega⟩
  rw [hz3] at hz3r
  obtain ⟨z4, hz4⟩ : ∃ z, z3 + 512 = z := ⟨_, rfl⟩
  obtain ⟨z5, hz5⟩ : ∃ z, z4 / 1024 = z := ⟨_, rfl⟩
  obtain ⟨z6, hz6⟩ : ∃ z, x + z5 = z := ⟨_, rfl⟩
  obtain ⟨z7, hz7⟩ : ∃ z, into z6 0 65535 = z := ⟨_, rfl⟩
  have F1 := wr_in z1 (by omega)
  have F2 := wr_in z2 (by omega)
  have F3 := wr_in z3 (by omega)
  have F4 := wr_in z4 (by omega)
  have F6 := wr_in z6 (by omega)
  have HD := hid (fun w => r_down z4 1024 (by omega) (by omega) (by omega) w)
  rw [hz5] at HD
  have HI := hid (fun w => r_into z6 0 65535 w)
  rw [hz7] at HI
  have hres : u.learn C l d one = { u with weight := u.weight.set pl z7 } := by rw [ul6 hk, hsz, hpl, ha, hb, haa, hab, hx, ← herv.out, hrt, hz1, hz2, hz3, hz4, hz5, hz6, hz7]
  rw [hres]
  obtain ⟨gw, hgw, nw⟩ := ht.has_w (i := pl) (by omega)
  have hl1 : (pl : Int) < (u.weight.length : Int) := by omega
  have hi1 : pl < u.weight.length := by omega
  have HV := hid (And.intro hgw nw)
  rw [ha, hb, hrt] at HM
  rw [ha] at p2
  rw [hb] at p3
  rw [hrt] at p5
  clear o1 o2 fp fr1 fr2 cla clb hlv hlr hra1 hra2 hrb1 hrb2 fa1 fa2 fb1 fb2 hgw nw hxr hz1r hz3r hz5 hz7
  have HX := hid hx
  clear hx
  have hkk : (u.p.kind : Int) = 6 := by omega
  rw [hkk] at p0 HM
  clear ht hok hplt hsq hd hbr hsd hbt
  go_enter Tryz.func35, Tryz.ntmps35
  go_upto_region 1 with fail
  have H1 := hid (HM.out w)
  clear p0 p1 p2 p3 p4 p5 p6 p7 p8 p9 p10 p11 p12 p13 p14 p15 HM b0 b1 b2 b3
  generalize (w.alloc (.cells #[.int .u8 6, .int .i64 (sz : Int), .int .i64 (a : Int), .int .i64 (b : Int), .int .i64 u.p.c, .int .i64 rt, .int .i64 u.p.limit] 38)) = W at H1 ⊢
  have HB1 := hid (HB.out.below H1.out.bel)
  have HC1 := hid (HC.out.below H1.out.bel)
  have HPq := still HP.out W
  have q1 := HB1.out.c
  have q2 := HC1.out.h
  have q3 := H1.out.p1
  rw [hsz] at q3
  generalize hU : w.heap.size = U at *
  go_quiet (with_reducible exact HPq.out _)
  have hbd := hid (below_drewN H1.out.bel nq)
  have H2 := hid (H1.out.later (show Below W.heap.size W (W.drewN nq) from below_drewN (Below.refl _ W) nq))
  clear H1 HPq q1 q2 q3 HB1 HC1
  generalize W.drewN nq = W at *
  have e1 := E1.out
  have e2 := E2.out
  go_upto_region 3 with (go_at_call 39; refine (HS.out _).mono ?_; rintro rj w5 ⟨rfl, b5⟩)
  have H3 := hid (H2.out.later b5)
  clear b5 H2 e1 e2 hbd
  generalize w5 = W at *
  have HL := hid ((Lrn.start HC.out HT.out).on H3.out.bel)
  have q0 := H3.out.p0
  rw [hkk] at q0
  have f1 := F1.out
  have f2 := F2.out
  have f3 := F3.out
  have f4 := F4.out
  have f6 := F6.out
  have q2 := H3.out.p2
  have q3 := H3.out.p3
  have q5 := H3.out.p5
  rw [ha] at q2
  rw [hb] at q3
  rw [hrt] at q5
  have cl1 : W.cell? ⟨gla, a, none⟩ = some (.int .i64 xa) := keeps H3.out.bel Ta.out
  have cl2 : W.cell? ⟨gla, b, none⟩ = some (.int .i64 xb) := keeps H3.out.bel Tb.out
  obtain ⟨cw, fw⟩ := HL.out.t.at_w HV.out.1 hi1
  rw [HX.out] at cw
  replace cw : W.cell? ⟨gw, pl, none⟩ = some (.int .i64 x) := cw
  have q11 := HL.out.c.w
  rw [HV.out.1, HV.out.2] at q11
  go_upto_region 11 with fail
  go_still_tail 33, (by kernel_rfl)
  refine wpStill_step (fun K hK => ?_)
  go_simp
  refine ⟨_, (HD.out _).mono (fun e w' h => ⟨h.1, h.2⟩), hK _ ?_⟩
  clear hK K
  repeat still_step
  refine wpStill_step (fun K hK => ?_)
  go_simp
  refine ⟨_, (HI.out _).mono (fun e w' h => ⟨h.1, h.2⟩), hK _ ?_⟩
  clear hK K
  repeat still_step
  refine wpStill_nil ?_
  change wpList _ _ _ _ _ W.drew
  replace fw : W.drew.frozen? ⟨gw, pl, none⟩ = false := fw
  replace cw : W.drew.cell? ⟨gw, pl, none⟩ = some (.int .i64 x) := cw
  go_wp2_with fail
  go_end0
  exact ⟨rfl, (HL.out.put_w hs HV.out.1 hi1 z7).drew⟩
end Go.Proofs.YtkfdbibgjoaefaaGreatDoor
