/-
  Merged: Rl7.
-/
import Derived.Test.YtkfdbibgjoaefaaGreatDoorMg16
import Derived.StillTailTactics
/-
  The document's blend: how a unit learns (a row of weights).
-/
namespace Go.Proofs.YtkfdbibgjoaefaaGreatDoor
open Go.RowKit
set_option linter.unusedVariables false
set_option linter.unusedSimpArgs false

set_option maxRecDepth 10000 in
set_option maxHeartbeats 16000000 in
theorem learn_7 (r g N cap o C bits whole : Nat) (u : Un) (V : Vs) (B : Nat) (l : List Int) (vl : Value) (d : Int) (one : Bool) (w : World)
    (hb : RB w r g N cap C bits whole) (hc : RC w g o u V) (ht : RT w B u V) (hs : Sep V g) (sz : Nat) (hsz : u.p.size = (sz : Int)) (hs16 : sz ≤ 16) (hC : 1 ≤ C ∧ C ≤ 255) (hh : u.h < 4294967296)
    (hok : u.ok whole) (hd : -9223372036854775808 ≤ d ∧ d ≤ 9223372036854775807) (hsq : 0 ≤ sq d ∧ sq d ≤ 4095)
    (i : Nat) (hone : u.p.one (i : Int)) (Bl : Nat) (la : Option Addr) (ln lc : Nat) (hvl : vl = .slice la ln lc) (hlv : w.ownsRow Bl 3 1 (.slice la ln lc) l.length (l.map iv)) (hil : i ≤ l.length) (hlr : ∀ d ∈ l, Lean1 d) (hlV : ∀ x, (Value.slice la ln lc).ownBlock = some x → V.w.b ≠ some x) (hi16 : i ≤ 16) (hk : u.p.kind = 7) :
    Calls Tryz.prog 35 #[.pointer (some ⟨r, 0, none⟩), .pointer (some ⟨g, o, none⟩), vl, .int .i64 d, .int .i64 (if one then 1 else 0)] w (LearnsIn w g o (u.learn C l d one) V B) := by
  have HP := hid (fun w => r_place u.h C sz hh (by omega) hs16 w)
  obtain ⟨pl, hpl⟩ : ∃ pl, placeN u.h C (sz : Int) = pl := ⟨_, rfl⟩
  have hplt : pl < pw u.p.size := by rw [← hpl, hsz]; exact placeN_lt _ _ _ (by omega) (by omega)
  rw [hpl] at HP
  have HS := hid (fun w => refSquash_any d w hd.1 hd.2)
  obtain ⟨sd, hsd⟩ : ∃ x, sq d = x := ⟨_, rfl⟩
  rw [hsd] at HS hsq
  obtain ⟨bt, hbt⟩ : ∃ x : Int, (if one then 1 else 0) = x := ⟨_, rfl⟩
  have hbr : 0 ≤ bt ∧ bt ≤ 1 := by rw [← hbt]; cases one <;> simp
  obtain ⟨er0, her0⟩ : ∃ x : Int, 4095 * bt = x := ⟨_, rfl⟩
  obtain ⟨er, her⟩ : ∃ x : Int, er0 - sd = x := ⟨_, rfl⟩
  have herv : Hid (er = (if one then 4095 else 0) - sq d) := hid (by rw [← her, ← her0, ← hbt, hsd]; cases one <;> simp)
  have herr : -4095 ≤ er ∧ er ≤ 4095 := by omega
  have E1 := wr_in er0 (by omega)
  have E2 := wr_in er (by omega)
  rw [hbt]
  have HC := hid hc
  have HT := hid ht
  have HB := hid hb
  have HM := hid (fun w => hnp_made (w := w) u 38)
  obtain ⟨p0, p1, p2, p3, p4, p5, p6, p7, p8, p9, p10, p11, p12, p13, p14, p15⟩ := hc
  obtain ⟨b0, b1, b2, b3⟩ := hb
  rw [hsz] at HM p1
  subst hvl
  have hok2 := hok
  unfold Un.ok at hok2
  simp [hk] at hok2
  obtain ⟨o1, o2⟩ := hok2
  have hf := hone.2
  simp [Pt.fit, inn, hk] at hf
  obtain ⟨fp, ⟨fa1, fa2⟩, fab, fr1, fr2⟩ := hf
  have hle := one_leans u.p i hone
  have hb0 : 1 ≤ u.p.b := by rcases hle with h | h | h <;> omega
  obtain ⟨a, ha⟩ : ∃ a : Nat, u.p.a = (a : Int) := ⟨u.p.a.toNat, by omega⟩
  obtain ⟨b, hb5⟩ : ∃ b : Nat, u.p.b = (b : Int) := ⟨u.p.b.toNat, by omega⟩
  have hbn : a + b ≤ l.length := by omega
  have hb1 : 1 ≤ b := by omega
  obtain ⟨gl0, xl0, el0, hlel0, cell0⟩ := tab_at hlv a (by omega) (iv 0)
  injection el0 with e1 e2 e3
  subst e1 e2 e3
  obtain ⟨pb, hpb⟩ : ∃ pb, pl * b = pb := ⟨_, rfl⟩
  have hwl : pb + b ≤ u.weight.length := by
    rw [o1, ← hpb, show u.p.b.toNat = b by omega, ← Nat.succ_mul]
    exact Nat.mul_le_mul_right _ hplt
  have LC : Hid (∀ k, k < b → w.cell? ⟨gl0, a + k, none⟩ = some (.int .i64 (l.getD (a + k) 0)) ∧ Lean1 (l.getD (a + k) 0)) := hid fun k hk => by
    obtain ⟨g2, x2, e, _, c2⟩ := tab_at hlv (a + k) (by omega) (iv 0)
    injection e with e1
    injection e1 with e1
    injection e1 with e1
    subst e1
    rw [iv_get] at c2
    refine ⟨c2, ?_⟩
    have := at0_lean l hlr ((a + k : Nat) : Int)
    unfold at0 at this
    rw [Int.toNat_natCast] at this
    exact this
  have WR : Hid (∀ k, k < b → -1048576 ≤ u.weight.getD (pb + k) 0 ∧ u.weight.getD (pb + k) 0 ≤ 1048576) := hid fun k hk => o2.get _ (by omega)
  have hplz : pl ≤ 65536 := by
    have := Nat.pow_le_pow_right (n := 2) (by decide) hs16
    have e2 : pw u.p.size = 2 ^ sz := by unfold pw; rw [hsz]; rfl
    rw [e2] at hplt
    omega
  have hai : a ≤ 16 := by omega
  have hb16 : b ≤ l.length := by omega
  obtain ⟨gw, hgw, nw⟩ := ht.has_w (i := pb) (by omega)
  have hgU : gw < w.heap.size := by
    have h1 := (ht.at_w (i := pb) hgw (by omega)).1
    rcases Nat.lt_or_ge gw w.heap.size with h2 | h2
    · exact h2
    · unfold World.cell? at h1
      rw [Array.getElem?_eq_none h2] at h1
      cases h1
  have hgl : gl0 ≠ gw := fun e => hlV gl0 rfl (by unfold Sw.b; rw [hgw, ← e]; rfl)
  obtain ⟨rt, hrt⟩ : ∃ x, u.p.rate = x := ⟨_, rfl⟩
  rw [hrt] at fr1 fr2
  obtain ⟨z1, hz1⟩ : ∃ z, er * rt = z := ⟨_, rfl⟩
  have hz1r := mul_in er rt 4095 64 herr ⟨by omega, by omega⟩
  rw [hz1] at hz1r
  have hres : u.learn C l d one = { u with weight := mixLearn u.weight pb l (a : Int) z1 b } := by rw [ul7 hk, hsz, hpl, ha, hb5, Int.toNat_natCast, hpb, ← herv.out, hrt, hz1]
  rw [hres]
  have epb : (pl : Int) * (b : Int) = (pb : Int) := by rw [← hpb, Int.natCast_mul]
  have hpbz : (pb : Int) ≤ 65536 * 16 := by
    have := Nat.mul_le_mul hplz (show b ≤ 16 by omega)
    omega
  have HV := hid (And.intro hgw nw)
  have HZ := hid hz1r
  have HG := hid (And.intro hgU hgl)
  have HWL := hid hwl
  have HBN := hid hbn
  have HBZ := hid (And.intro hpbz (And.intro hai (show b ≤ 16 by omega)))
  have X0 := wr_in (pb : Int) (by omega)
  have X1 := wr_in z1 (by omega)
  rw [ha, hb5, hrt] at HM
  rw [ha] at p2
  rw [hb5] at p3
  rw [hrt] at p5
  clear o1 o2 fp fr1 fr2 hlv hlr fa1 fa2 fab hgw nw hz1r cell0 hle hb0 hwl hgU hgl hplz hpb hlV hbn hb16
  have hkk : (u.p.kind : Int) = 7 := by omega
  rw [hkk] at p0 HM
  clear ht hok hplt hsq hd hbr hsd hbt
  go_enter Tryz.func35, Tryz.ntmps35
  go_upto_region 1 with fail
  have H1 := hid (HM.out w)
  clear p0 p1 p2 p3 p4 p5 p6 p7 p8 p9 p10 p11 p12 p13 p14 p15 HM b0 b1 b2 b3
  generalize (w.alloc (.cells #[.int .u8 7, .int .i64 (sz : Int), .int .i64 (a : Int), .int .i64 (b : Int), .int .i64 u.p.c, .int .i64 rt, .int .i64 u.p.limit] 38)) = W at H1 ⊢
  have HB1 := hid (HB.out.below H1.out.bel)
  have HC1 := hid (HC.out.below H1.out.bel)
  have HPq := still HP.out W
  have q1 := HB1.out.c
  have q2 := HC1.out.h
  have q3 := H1.out.p1
  rw [hsz] at q3
  generalize hU : w.heap.size = U at *
  go_quiet (with_reducible exact HPq.out _)
  have hbd := hid (below_drewN H1.out.bel nq)
  have H2 := hid (H1.out.later (show Below W.heap.size W (W.drewN nq) from below_drewN (Below.refl _ W) nq))
  clear H1 HPq q1 q2 q3 HB1 HC1
  generalize W.drewN nq = W at *
  have e1 := E1.out
  have e2 := E2.out
  go_upto_region 3 with (go_at_call 39; refine (HS.out _).mono ?_; rintro rj w5 ⟨rfl, b5⟩)
  have H3 := hid (H2.out.later b5)
  clear b5 H2 e1 e2 hbd
  generalize w5 = W at *
  have HL := hid ((Lrn.start HC.out HT.out).on H3.out.bel)
  have q0 := H3.out.p0
  rw [hkk] at q0
  have q2 := H3.out.p2
  have q3 := H3.out.p3
  have q5 := H3.out.p5
  rw [ha] at q2
  rw [hb5] at q3
  rw [hrt] at q5
  have HQ := hid (And.intro q2 (And.intro q3 q5))
  have HLC : Hid (∀ k, k < b → W.cell? ⟨gl0, a + k, none⟩ = some (.int .i64 (l.getD (a + k) 0))) := hid fun k hk => keeps H3.out.bel (LC.out k hk).1
  have HUW : Hid (U ≠ gw) := hid (fun e => by have := HG.out.1; omega)
  go_wp2_with fail
  clear q2 q3 q5 q0
  go_loopw [14, 15] (fun v14 v15 wr => ∃ k : Nat, k ≤ b ∧ v14 = .int .i64 (k : Nat) ∧ Lrn w wr g o { u with weight := mixLearn u.weight pb l (a : Int) z1 k } V B ∧ But (· = gw) W wr) (fun v14 _ _ => b - (intOf v14).toNat)
  case atStart => exact ⟨0, Nat.zero_le _, rfl, HL.out, But.refl _ _⟩
  case round =>
    obtain ⟨k, hkb, rfl, hL, hB⟩ := hrel
    obtain ⟨q2, q3, q5⟩ := HQ.out
    have q2 := hB.cell q2 HUW.out
    have q3 := hB.cell q3 HUW.out
    have q5 := hB.cell q5 HUW.out
    have HLr := hid hL
    have HBr := hid hB
    clear hL hB
    by_cases hlt : k < b
    · have hltz : (k : Int) < (b : Int) := by omega
      have r1 := (LC.out k hlt).2
      have r2 := WR.out k hlt
      have d1 := HBr.out.cell (HLC.out k hlt) HG.out.2
      have hwl := HWL.out
      have hbn := HBN.out
      have hz := HZ.out
      obtain ⟨hz7, hz8, hz9⟩ := HBZ.out
      have hlen : ({ u with weight := mixLearn u.weight pb l (a : Int) z1 k } : Un).weight.length = u.weight.length := mixLearn_len _ _ _ _ _ _
      obtain ⟨d2, fw⟩ := HLr.out.t.at_w (i := pb + k) HV.out.1 (by rw [hlen]; omega)
      rw [show ({ u with weight := mixLearn u.weight pb l (a : Int) z1 k } : Un).weight = mixLearn u.weight pb l (a : Int) z1 k from rfl, mixLearn_get _ _ _ _ _ _ _ (Nat.le_refl _)] at d2
      have en : Hid (mixLearn u.weight pb l (a : Int) z1 (k + 1) = (mixLearn u.weight pb l (a : Int) z1 k).set (pb + k) (into (u.weight.getD (pb + k) 0 + (z1 * l.getD (a + k) 0 + 8192) / 16384) (-1048576) 1048576)) := hid (by
        show (mixLearn u.weight pb l (a : Int) z1 k).set (pb + k) (into (u.weight.getD (pb + k) 0 + (z1 * at0 l ((a : Int) + (k : Int)) + 8192) / 16384) (-1048576) 1048576) = _
        unfold at0
        rw [show ((a : Int) + (k : Int)).toNat = a + k by omega])
      generalize l.getD (a + k) 0 = xk at d1 r1 en
      generalize u.weight.getD (pb + k) 0 = wk at d2 r2 en
      unfold Lean1 at r1
      obtain ⟨z2, hz2⟩ : ∃ z, z1 * xk = z := ⟨_, rfl⟩
      have b1 := mul_in z1 xk 262080 2047 ⟨by omega, by omega⟩ ⟨by omega, by omega⟩
      rw [hz2] at b1 en
      obtain ⟨z3, hz3⟩ : ∃ z, z2 + 8192 = z := ⟨_, rfl⟩
      rw [hz3] at en
      obtain ⟨z4, hz4⟩ : ∃ z, z3 / 16384 = z := ⟨_, rfl⟩
      rw [hz4] at en
      obtain ⟨z5, hz5⟩ : ∃ z, wk + z4 = z := ⟨_, rfl⟩
      rw [hz5] at en
      obtain ⟨z6, hz6⟩ : ∃ z, into z5 (-1048576) 1048576 = z := ⟨_, rfl⟩
      rw [hz6] at en
      have HD := hid (fun w => r_down z3 16384 (by omega) (by omega) (by omega) w)
      rw [hz4] at HD
      have HI := hid (fun w => r_into z5 (-1048576) 1048576 w)
      rw [hz6] at HI
      obtain ⟨ik, hik⟩ : ∃ ik : Nat, pb + k = ik := ⟨_, rfl⟩
      obtain ⟨jk, hjk⟩ : ∃ jk : Nat, a + k = jk := ⟨_, rfl⟩
      rw [hjk] at d1
      rw [hik] at d2 fw en
      replace d2 : wr.cell? ⟨gw, ik, none⟩ = some (.int .i64 wk) := d2
      have y1 : (pb : Int) + (k : Int) = (ik : Int) := by omega
      have y2 : (a : Int) + (k : Int) = (jk : Int) := by omega
      have y3 : (ik : Int) < (u.weight.length : Int) := by omega
      have y4 : (jk : Int) < (l.length : Int) := by omega
      have hik2 : Hid (ik < ({ u with weight := mixLearn u.weight pb l (a : Int) z1 k } : Un).weight.length) := hid (by rw [hlen]; omega)
      have F2 := wr_in z2 (by omega)
      have F3 := wr_in z3 (by omega)
      have F5 := wr_in z5 (by omega)
      have F6 := wr_in (ik : Int) (by omega)
      have F7 := wr_in (jk : Int) (by omega)
      have F8 := wr_in ((k : Int) + 1) (by omega)
      have q11 := HLr.out.c.w
      rw [HV.out.1, HV.out.2] at q11
      have HLT := hid (And.intro hlt hkb)
      have hk1 := hid (show k + 1 ≤ b from hlt)
      clear hlt hkb r1 r2 b1 hik hjk hwl hbn hz hlen hz4 hz6 hz7 hz8 hz9
      have x0 := X0.out
      have x1 := X1.out
      have f2 := F2.out
      have f3 := F3.out
      have f5 := F5.out
      have f6 := F6.out
      have f7 := F7.out
      have f8 := F8.out
      go_wp2_with fail
      go_quiet (fail)
      have HB2 := hid (HBr.out.drewN nq)
      have HL2 := hid (HLr.out.on (below_drewN (Below.refl _ wr) nq))
      replace d1 : (wr.drewN nq).cell? ⟨gl0, jk, none⟩ = some (.int .i64 xk) := d1
      replace d2 : (wr.drewN nq).cell? ⟨gw, ik, none⟩ = some (.int .i64 wk) := d2
      replace fw : (wr.drewN nq).frozen? ⟨gw, ik, none⟩ = false := fw
      replace q2 : (wr.drewN nq).cell? ⟨U, 2, none⟩ = some (.int .i64 (a : Int)) := q2
      replace q3 : (wr.drewN nq).cell? ⟨U, 3, none⟩ = some (.int .i64 (b : Int)) := q3
      replace q5 : (wr.drewN nq).cell? ⟨U, 5, none⟩ = some (.int .i64 rt) := q5
      clear HBr HLr q11
      generalize wr.drewN nq = wr at *
      go_upto_region 17 with fail
      go_still_tail 21, (by kernel_rfl)
      refine wpStill_step (fun K hK => ?_)
      go_simp
      refine ⟨_, (HD.out _).mono (fun e w' h => ⟨h.1, h.2⟩), hK _ ?_⟩
      clear hK K
      repeat still_step
      refine wpStill_step (fun K hK => ?_)
      go_simp
      refine ⟨_, (HI.out _).mono (fun e w' h => ⟨h.1, h.2⟩), hK _ ?_⟩
      clear hK K
      repeat still_step
      refine wpStill_nil ?_
      change wpList _ _ _ _ _ wr.drew
      replace fw : wr.drew.frozen? ⟨gw, ik, none⟩ = false := fw
      replace d2 : wr.drew.cell? ⟨gw, ik, none⟩ = some (.int .i64 wk) := d2
      go_wp2_with fail
      go_roundw
      case rel =>
        refine ⟨k + 1, hk1.out, by go_num, ?_, (HB2.out.set _ _ (.inl rfl)).drew⟩
        rw [en.out]
        exact (HL2.out.put_w hs HV.out.1 hik2.out z6).drew
      case measure => have := HLT.out; simp [intOf]; omega
    · obtain rfl : k = b := by omega
      go_wp2_with fail
      go_end0
      exact ⟨rfl, HLr.out⟩
end Go.Proofs.YtkfdbibgjoaefaaGreatDoor
