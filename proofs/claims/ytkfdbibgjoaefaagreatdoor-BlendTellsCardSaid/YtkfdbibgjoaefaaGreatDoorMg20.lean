/-
  Merged: Rlno Rl2 Rl3.
-/
import Derived.Test.YtkfdbibgjoaefaaGreatDoorMg16
import Derived.StillTailTactics
/-
  The document's blend: how a unit learns (kinds that learn nothing).
-/
namespace Go.Proofs.YtkfdbibgjoaefaaGreatDoor
open Go.RowKit
set_option linter.unusedVariables false
set_option linter.unusedSimpArgs false

set_option maxRecDepth 10000 in
set_option maxHeartbeats 16000000 in
theorem learn_no (r g N cap o C bits whole : Nat) (u : Un) (V : Vs) (B : Nat) (l : List Int) (vl : Value) (d : Int) (one : Bool) (w : World)
    (hb : RB w r g N cap C bits whole) (hc : RC w g o u V) (ht : RT w B u V) (hs : Sep V g) (sz : Nat) (hsz : u.p.size = (sz : Int)) (hs16 : sz ≤ 16) (hC : 1 ≤ C ∧ C ≤ 255) (hh : u.h < 4294967296)
    (hok : u.ok whole) (hd : -9223372036854775808 ≤ d ∧ d ≤ 9223372036854775807) (hsq : 0 ≤ sq d ∧ sq d ≤ 4095)
    (h2 : u.p.kind ≠ 2) (h3 : u.p.kind ≠ 3) (h6 : u.p.kind ≠ 6) (h7 : u.p.kind ≠ 7) (h8 : u.p.kind ≠ 8) (h9 : u.p.kind ≠ 9) :
    Calls Tryz.prog 35 #[.pointer (some ⟨r, 0, none⟩), .pointer (some ⟨g, o, none⟩), vl, .int .i64 d, .int .i64 (if one then 1 else 0)] w (LearnsIn w g o (u.learn C l d one) V B) := by
  have HP := hid (fun w => r_place u.h C sz hh (by omega) hs16 w)
  obtain ⟨pl, hpl⟩ : ∃ pl, placeN u.h C (sz : Int) = pl := ⟨_, rfl⟩
  have hplt : pl < pw u.p.size := by rw [← hpl, hsz]; exact placeN_lt _ _ _ (by omega) (by omega)
  rw [hpl] at HP
  have HS := hid (fun w => refSquash_any d w hd.1 hd.2)
  obtain ⟨sd, hsd⟩ : ∃ x, sq d = x := ⟨_, rfl⟩
  rw [hsd] at HS hsq
  obtain ⟨bt, hbt⟩ : ∃ x : Int, (if one then 1 else 0) = x := ⟨_, rfl⟩
  have hbr : 0 ≤ bt ∧ bt ≤ 1 := by rw [← hbt]; cases one <;> simp
  obtain ⟨er0, her0⟩ : ∃ x : Int, 4095 * bt = x := ⟨_, rfl⟩
  obtain ⟨er, her⟩ : ∃ x : Int, er0 - sd = x := ⟨_, rfl⟩
  have herv : Hid (er = (if one then 4095 else 0) - sq d) := hid (by rw [← her, ← her0, ← hbt, hsd]; cases one <;> simp)
  have herr : -4095 ≤ er ∧ er ≤ 4095 := by omega
  have E1 := wr_in er0 (by omega)
  have E2 := wr_in er (by omega)
  rw [hbt]
  have HC := hid hc
  have HT := hid ht
  have HB := hid hb
  have HM := hid (fun w => hnp_made (w := w) u 38)
  obtain ⟨p0, p1, p2, p3, p4, p5, p6, p7, p8, p9, p10, p11, p12, p13, p14, p15⟩ := hc
  obtain ⟨b0, b1, b2, b3⟩ := hb
  rw [hsz] at HM p1
  have hres : u.learn C l d one = u := by unfold Un.learn; simp [h2, h3, h6, h7, h8, h9]
  rw [hres]
  have n2 : ((u.p.kind : Int) == 2) = false := by simp only [beq_eq_false_iff_ne, ne_eq]; omega
  have n3 : ((u.p.kind : Int) == 3) = false := by simp only [beq_eq_false_iff_ne, ne_eq]; omega
  have n6 : ((u.p.kind : Int) == 6) = false := by simp only [beq_eq_false_iff_ne, ne_eq]; omega
  have n7 : ((u.p.kind : Int) == 7) = false := by simp only [beq_eq_false_iff_ne, ne_eq]; omega
  have n8 : ((u.p.kind : Int) == 8) = false := by simp only [beq_eq_false_iff_ne, ne_eq]; omega
  have n9 : ((u.p.kind : Int) == 9) = false := by simp only [beq_eq_false_iff_ne, ne_eq]; omega
  clear ht hok hplt hsq hd hbr hsd hbt
  go_enter Tryz.func35, Tryz.ntmps35
  go_upto_region 1 with fail
  have H1 := hid (HM.out w)
  clear p0 p1 p2 p3 p4 p5 p6 p7 p8 p9 p10 p11 p12 p13 p14 p15 HM b0 b1 b2 b3
  generalize (w.alloc (.cells #[.int .u8 (u.p.kind : Nat), .int .i64 (sz : Int), .int .i64 u.p.a, .int .i64 u.p.b, .int .i64 u.p.c, .int .i64 u.p.rate, .int .i64 u.p.limit] 38)) = W at H1 ⊢
  have HB1 := hid (HB.out.below H1.out.bel)
  have HC1 := hid (HC.out.below H1.out.bel)
  have HPq := still HP.out W
  have q1 := HB1.out.c
  have q2 := HC1.out.h
  have q3 := H1.out.p1
  rw [hsz] at q3
  generalize hU : w.heap.size = U at *
  go_quiet (with_reducible exact HPq.out _)
  have hbd := hid (below_drewN H1.out.bel nq)
  have H2 := hid (H1.out.later (show Below W.heap.size W (W.drewN nq) from below_drewN (Below.refl _ W) nq))
  clear H1 HPq q1 q2 q3 HB1 HC1
  generalize W.drewN nq = W at *
  have e1 := E1.out
  have e2 := E2.out
  go_upto_region 3 with (go_at_call 39; refine (HS.out _).mono ?_; rintro rj w5 ⟨rfl, b5⟩)
  have H3 := hid (H2.out.later b5)
  clear b5 H2 e1 e2 hbd
  generalize w5 = W at *
  have HL := hid ((Lrn.start HC.out HT.out).on H3.out.bel)
  have q0 := H3.out.p0
  go_wp2_with fail
  go_end0
  exact ⟨rfl, HL.out⟩
end Go.Proofs.YtkfdbibgjoaefaaGreatDoor
/-
  The document's blend: how a unit learns (a chance with its count).
-/
namespace Go.Proofs.YtkfdbibgjoaefaaGreatDoor
open Go.RowKit
set_option linter.unusedVariables false
set_option linter.unusedSimpArgs false

set_option maxRecDepth 10000 in
set_option maxHeartbeats 16000000 in
theorem learn_2 (r g N cap o C bits whole : Nat) (u : Un) (V : Vs) (B : Nat) (l : List Int) (vl : Value) (d : Int) (one : Bool) (w : World)
    (hb : RB w r g N cap C bits whole) (hc : RC w g o u V) (ht : RT w B u V) (hs : Sep V g) (sz : Nat) (hsz : u.p.size = (sz : Int)) (hs16 : sz ≤ 16) (hC : 1 ≤ C ∧ C ≤ 255) (hh : u.h < 4294967296)
    (hok : u.ok whole) (hd : -9223372036854775808 ≤ d ∧ d ≤ 9223372036854775807) (hsq : 0 ≤ sq d ∧ sq d ≤ 4095)
    (i : Nat) (hone : u.p.one (i : Int)) (hk : u.p.kind = 2) :
    Calls Tryz.prog 35 #[.pointer (some ⟨r, 0, none⟩), .pointer (some ⟨g, o, none⟩), vl, .int .i64 d, .int .i64 (if one then 1 else 0)] w (LearnsIn w g o (u.learn C l d one) V B) := by
  have HP := hid (fun w => r_place u.h C sz hh (by omega) hs16 w)
  obtain ⟨pl, hpl⟩ : ∃ pl, placeN u.h C (sz : Int) = pl := ⟨_, rfl⟩
  have hplt : pl < pw u.p.size := by rw [← hpl, hsz]; exact placeN_lt _ _ _ (by omega) (by omega)
  rw [hpl] at HP
  have HS := hid (fun w => refSquash_any d w hd.1 hd.2)
  obtain ⟨sd, hsd⟩ : ∃ x, sq d = x := ⟨_, rfl⟩
  rw [hsd] at HS hsq
  obtain ⟨bt, hbt⟩ : ∃ x : Int, (if one then 1 else 0) = x := ⟨_, rfl⟩
  have hbr : 0 ≤ bt ∧ bt ≤ 1 := by rw [← hbt]; cases one <;> simp
  obtain ⟨er0, her0⟩ : ∃ x : Int, 4095 * bt = x := ⟨_, rfl⟩
  obtain ⟨er, her⟩ : ∃ x : Int, er0 - sd = x := ⟨_, rfl⟩
  have herv : Hid (er = (if one then 4095 else 0) - sq d) := hid (by rw [← her, ← her0, ← hbt, hsd]; cases one <;> simp)
  have herr : -4095 ≤ er ∧ er ≤ 4095 := by omega
  have E1 := wr_in er0 (by omega)
  have E2 := wr_in er (by omega)
  rw [hbt]
  have HC := hid hc
  have HT := hid ht
  have HB := hid hb
  have HM := hid (fun w => hnp_made (w := w) u 38)
  obtain ⟨p0, p1, p2, p3, p4, p5, p6, p7, p8, p9, p10, p11, p12, p13, p14, p15⟩ := hc
  obtain ⟨b0, b1, b2, b3⟩ := hb
  rw [hsz] at HM p1
  have hok2 := hok
  unfold Un.ok at hok2
  simp [hk] at hok2
  obtain ⟨o1, o2, o3, o4⟩ := hok2
  have hf := hone.2
  simp [Pt.fit, inn, hk] at hf
  obtain ⟨fp, fl1, fl2⟩ := hf
  have hres : u.learn C l d one = u.slow pl one := by unfold Un.learn; simp [hk, hsz, hpl]
  rw [hres]
  have HSL := hid (fun W (h : Lrn w W g o u V B) => slow_in h hs pl one (by omega) (by omega) (o3.get pl (by omega)) (o4.get pl (by omega)) ⟨fl1, fl2⟩)
  rw [hbt] at HSL
  clear o1 o2 o3 o4 fp fl1 fl2
  have hkk : (u.p.kind : Int) = 2 := by omega
  rw [hkk] at p0 HM
  clear ht hok hplt hsq hd hbr hsd hbt
  go_enter Tryz.func35, Tryz.ntmps35
  go_upto_region 1 with fail
  have H1 := hid (HM.out w)
  clear p0 p1 p2 p3 p4 p5 p6 p7 p8 p9 p10 p11 p12 p13 p14 p15 HM b0 b1 b2 b3
  generalize (w.alloc (.cells #[.int .u8 2, .int .i64 (sz : Int), .int .i64 u.p.a, .int .i64 u.p.b, .int .i64 u.p.c, .int .i64 u.p.rate, .int .i64 u.p.limit] 38)) = W at H1 ⊢
  have HB1 := hid (HB.out.below H1.out.bel)
  have HC1 := hid (HC.out.below H1.out.bel)
  have HPq := still HP.out W
  have q1 := HB1.out.c
  have q2 := HC1.out.h
  have q3 := H1.out.p1
  rw [hsz] at q3
  generalize hU : w.heap.size = U at *
  go_quiet (with_reducible exact HPq.out _)
  have hbd := hid (below_drewN H1.out.bel nq)
  have H2 := hid (H1.out.later (show Below W.heap.size W (W.drewN nq) from below_drewN (Below.refl _ W) nq))
  clear H1 HPq q1 q2 q3 HB1 HC1
  generalize W.drewN nq = W at *
  have e1 := E1.out
  have e2 := E2.out
  go_upto_region 3 with (go_at_call 39; refine (HS.out _).mono ?_; rintro rj w5 ⟨rfl, b5⟩)
  have H3 := hid (H2.out.later b5)
  clear b5 H2 e1 e2 hbd
  generalize w5 = W at *
  have HL := hid ((Lrn.start HC.out HT.out).on H3.out.bel)
  have q0 := H3.out.p0
  rw [hkk] at q0
  go_wp2_with (go_at_call 57; refine (HSL.out _ HL.out).mono ?_; rintro rj w6 ⟨rfl, HL2⟩)
  go_end0
  exact ⟨rfl, HL2⟩
end Go.Proofs.YtkfdbibgjoaefaaGreatDoor
/-
  The document's blend: how a unit learns (a state with its chance).
-/
namespace Go.Proofs.YtkfdbibgjoaefaaGreatDoor
open Go.RowKit
set_option linter.unusedVariables false
set_option linter.unusedSimpArgs false

set_option maxRecDepth 10000 in
set_option maxHeartbeats 16000000 in
theorem learn_3 (r g N cap o C bits whole : Nat) (u : Un) (V : Vs) (B : Nat) (l : List Int) (vl : Value) (d : Int) (one : Bool) (w : World)
    (hb : RB w r g N cap C bits whole) (hc : RC w g o u V) (ht : RT w B u V) (hs : Sep V g) (sz : Nat) (hsz : u.p.size = (sz : Int)) (hs16 : sz ≤ 16) (hC : 1 ≤ C ∧ C ≤ 255) (hh : u.h < 4294967296)
    (hok : u.ok whole) (hd : -9223372036854775808 ≤ d ∧ d ≤ 9223372036854775807) (hsq : 0 ≤ sq d ∧ sq d ≤ 4095)
    (hk : u.p.kind = 3) :
    Calls Tryz.prog 35 #[.pointer (some ⟨r, 0, none⟩), .pointer (some ⟨g, o, none⟩), vl, .int .i64 d, .int .i64 (if one then 1 else 0)] w (LearnsIn w g o (u.learn C l d one) V B) := by
  have HP := hid (fun w => r_place u.h C sz hh (by omega) hs16 w)
  obtain ⟨pl, hpl⟩ : ∃ pl, placeN u.h C (sz : Int) = pl := ⟨_, rfl⟩
  have hplt : pl < pw u.p.size := by rw [← hpl, hsz]; exact placeN_lt _ _ _ (by omega) (by omega)
  rw [hpl] at HP
  have HS := hid (fun w => refSquash_any d w hd.1 hd.2)
  obtain ⟨sd, hsd⟩ : ∃ x, sq d = x := ⟨_, rfl⟩
  rw [hsd] at HS hsq
  obtain ⟨bt, hbt⟩ : ∃ x : Int, (if one then 1 else 0) = x := ⟨_, rfl⟩
  have hbr : 0 ≤ bt ∧ bt ≤ 1 := by rw [← hbt]; cases one <;> simp
  obtain ⟨er0, her0⟩ : ∃ x : Int, 4095 * bt = x := ⟨_, rfl⟩
  obtain ⟨er, her⟩ : ∃ x : Int, er0 - sd = x := ⟨_, rfl⟩
  have herv : Hid (er = (if one then 4095 else 0) - sq d) := hid (by rw [← her, ← her0, ← hbt, hsd]; cases one <;> simp)
  have herr : -4095 ≤ er ∧ er ≤ 4095 := by omega
  have E1 := wr_in er0 (by omega)
  have E2 := wr_in er (by omega)
  rw [hbt]
  have HC := hid hc
  have HT := hid ht
  have HB := hid hb
  have HM := hid (fun w => hnp_made (w := w) u 38)
  obtain ⟨p0, p1, p2, p3, p4, p5, p6, p7, p8, p9, p10, p11, p12, p13, p14, p15⟩ := hc
  obtain ⟨b0, b1, b2, b3⟩ := hb
  rw [hsz] at HM p1
  have hok2 := hok
  unfold Un.ok at hok2
  simp [hk] at hok2
  obtain ⟨o1, o2, o3, o4⟩ := hok2
  obtain ⟨st, hst⟩ : ∃ st, u.state.getD pl 0 = st := ⟨_, rfl⟩
  have hst2 : st ≤ 255 := by rw [← hst]; exact o2 pl
  obtain ⟨x, hx⟩ : ∃ x, u.chance.getD st 0 = x := ⟨_, rfl⟩
  have hxr : 0 ≤ x ∧ x ≤ 65535 := by rw [← hx]; exact o4.get st (by omega)
  obtain ⟨z0, hz0⟩ : ∃ z, 65535 * bt = z := ⟨_, rfl⟩
  have hz0r : 0 ≤ z0 ∧ z0 ≤ 65535 := by omega
  obtain ⟨z1, hz1⟩ : ∃ z, z0 - x = z := ⟨_, rfl⟩
  obtain ⟨z2, hz2⟩ : ∃ z, z1.tdiv 64 = z := ⟨_, rfl⟩
  obtain ⟨z3, hz3⟩ : ∃ z, x + z2 = z := ⟨_, rfl⟩
  have sr := step_range x z0 64 65535 hxr hz0r (by omega)
  rw [hz1, hz2, hz3] at sr
  have hz2r : -65535 ≤ z2 ∧ z2 ≤ 65535 := by omega
  have F0 := wr_in z0 (by omega)
  have F1 := wr_in z1 (by omega)
  have F2 := wr_in z2 (by omega)
  have F3 := wr_in z3 (by omega)
  have hz0v : z0 = (if one then 65535 else 0) := by rw [← hz0, ← hbt]; cases one <;> simp
  obtain ⟨nx, hnx⟩ : ∃ nx, nxN st one = nx := ⟨_, rfl⟩
  have hnxr : nx ≤ 255 := by rw [← hnx]; exact Nat.le_of_lt_succ (nxN_lt st (by omega) one)
  have hone : oneB bt = one := by rw [← hbt]; cases one <;> rfl
  have HN := hid (fun w => refNext_any st bt (by omega) w)
  rw [hone, hnx] at HN
  have hres : u.learn C l d one = { ({ u with chance := u.chance.set st z3 } : Un) with state := u.state.set pl nx } := by
    rw [ul3 hk, hsz, hpl, hst, hx, hnx, ← hz0v, hz1, hz2, hz3]
  rw [hres]
  obtain ⟨gs, hgs, ns⟩ := ht.has_s (i := pl) (by omega)
  obtain ⟨gc, hgc, nc⟩ := ht.has_c (i := st) (by omega)
  have hl1 : (pl : Int) < (u.state.length : Int) := by omega
  have hl2 : (st : Int) < (u.chance.length : Int) := by omega
  have hi1 : pl < u.state.length := by omega
  have hi2 : st < u.chance.length := by omega
  have hl3 : (st : Int) ≤ 255 := by omega
  have hl4 : (nx : Int) ≤ 255 := by omega
  have hgn : g ≠ gs := fun e => hs.gs (by unfold Sw.b; rw [hgs, ← e]; rfl)
  have hsc : gs ≠ gc := fun e => hs.cs gc (by unfold Sw.b; rw [hgc]; rfl) (by unfold Sw.b; rw [hgs, e]; rfl)
  have HV := hid (And.intro hgs (And.intro ns (And.intro hgc nc)))
  clear o1 o2 o3 o4 hone hz0v hz0r hz2r hxr sr hnxr hst2 hgs ns hgc nc
  have hkk : (u.p.kind : Int) = 3 := by omega
  rw [hkk] at p0 HM
  clear ht hok hplt hsq hd hbr hsd hbt
  go_enter Tryz.func35, Tryz.ntmps35
  go_upto_region 1 with fail
  have H1 := hid (HM.out w)
  clear p0 p1 p2 p3 p4 p5 p6 p7 p8 p9 p10 p11 p12 p13 p14 p15 HM b0 b1 b2 b3
  generalize (w.alloc (.cells #[.int .u8 3, .int .i64 (sz : Int), .int .i64 u.p.a, .int .i64 u.p.b, .int .i64 u.p.c, .int .i64 u.p.rate, .int .i64 u.p.limit] 38)) = W at H1 ⊢
  have HB1 := hid (HB.out.below H1.out.bel)
  have HC1 := hid (HC.out.below H1.out.bel)
  have HPq := still HP.out W
  have q1 := HB1.out.c
  have q2 := HC1.out.h
  have q3 := H1.out.p1
  rw [hsz] at q3
  generalize hU : w.heap.size = U at *
  go_quiet (with_reducible exact HPq.out _)
  have hbd := hid (below_drewN H1.out.bel nq)
  have H2 := hid (H1.out.later (show Below W.heap.size W (W.drewN nq) from below_drewN (Below.refl _ W) nq))
  clear H1 HPq q1 q2 q3 HB1 HC1
  generalize W.drewN nq = W at *
  have e1 := E1.out
  have e2 := E2.out
  go_upto_region 3 with (go_at_call 39; refine (HS.out _).mono ?_; rintro rj w5 ⟨rfl, b5⟩)
  have H3 := hid (H2.out.later b5)
  clear b5 H2 e1 e2 hbd
  generalize w5 = W at *
  have HL := hid ((Lrn.start HC.out HT.out).on H3.out.bel)
  have q0 := H3.out.p0
  rw [hkk] at q0
  obtain ⟨hgs, ns, hgc, nc⟩ := HV.out
  have cs := (HL.out.t.at_s hgs hi1).1
  obtain ⟨cc, fc⟩ := HL.out.t.at_c hgc hi2
  have q8 := HL.out.c.c
  have q10 := HL.out.c.s
  rw [hgs, ns] at q10
  rw [hgc, nc] at q8
  rw [hst] at cs
  rw [hx] at cc
  replace cs : W.cell? ⟨gs, pl, none⟩ = some (.int .u8 (st : Nat)) := cs
  replace cc : W.cell? ⟨gc, st, none⟩ = some (.int .i64 x) := cc
  clear hgs ns hgc nc
  go_upto_region 8 with fail
  have f0 := F0.out
  have f1 := F1.out
  have f2 := F2.out
  have f3 := F3.out
  go_still_tail 25, (by kernel_rfl)
  change wpList _ _ _ _ _ W.drew
  replace fc : W.drew.frozen? ⟨gc, st, none⟩ = false := fc
  replace cc : W.drew.cell? ⟨gc, st, none⟩ = some (.int .i64 x) := cc
  go_upto_region 9 with fail
  have HL2 := hid ((HL.out.put_c hs HV.out.2.2.1 hi2 z3).drew)
  clear f0 f1 f2 f3 cs cc fc q8 q10 q0 H3 HL
  generalize hW : (W.setCell ⟨gc, st, none⟩ (.int .i64 z3)).drew = W2
  have HL3 : Hid (Lrn w W2 g o { u with chance := u.chance.set st z3 } V B) := by rw [← hW]; exact HL2
  clear hW HL2
  have q10 := HL3.out.c.s
  rw [HV.out.1, HV.out.2.1] at q10
  have HL5 := hid HL3.out.drew
  go_region_held3 (fun w' => w'.cell? ⟨g, o + 10, none⟩ = some (.slice (some ⟨gs, 0, none⟩) u.state.length V.s.c)) (first | exact q11 | exact q10 | exact off_cell q11 hgn | go_keep)
    (first | (go_at_call 58; (refine (HN.out _).mono ?_); rintro rj w6 ⟨rfl, b6⟩; have HL4 := hid (HL5.out.on b6); have fs := (HL4.out.t.at_s HV.out.1 hi1).2; have q11 := HL4.out.c.s; rw [HV.out.1, HV.out.2.1] at q11; have cs : w6.cell? ⟨gs, pl, none⟩ = some (.int .u8 (st : Nat)) := by (have h1 := (HL4.out.t.at_s HV.out.1 hi1).1; rw [show ({ u with chance := u.chance.set st z3 } : Un).state = u.state from rfl, hst] at h1; exact h1)))
  go_end0
  exact ⟨rfl, HL4.out.put_s hs HV.out.1 hi1 nx⟩
end Go.Proofs.YtkfdbibgjoaefaaGreatDoor
