/-
  Merged: Rd8.
-/
import Derived.Test.YtkfdbibgjoaefaaGreatDoorMg06
import Derived.StillTailTactics
/-
  The document's blend: how a unit of kind 8 leans.
-/
namespace Go.Proofs.YtkfdbibgjoaefaaGreatDoor
open Go.RowKit
set_option linter.unusedVariables false
set_option linter.unusedSimpArgs false

set_option maxRecDepth 10000 in
set_option maxHeartbeats 16000000 in
theorem lean_8 (r g N cap i C bits whole : Nat) (u : Un) (V : Vs) (B Bl : Nat) (l : List Int) (la : Option Addr) (lc : Nat) (w : World)
    (hb : RB w r g N cap C bits whole) (hc : RC w g (i * 16) u V) (ht : RT w B u V) (hi : i < N) (hN : N ≤ 16) (hNc : N ≤ cap) (sz : Nat) (hsz : u.p.size = (sz : Int)) (hs16 : sz ≤ 16) (hC : 1 ≤ C ∧ C ≤ 255) (hbits : bits ≤ 7) (hh : u.h < 4294967296)
    (hok : u.ok whole) (hone : u.p.one (i : Int)) (hl : l.length = i) (hlv : w.ownsRow Bl 3 1 (.slice la i lc) i (l.map iv)) (hlr : ∀ d ∈ l, Lean1 d) (hk : u.p.kind = 8) :
    Calls Tryz.prog 38 #[.pointer (some ⟨r, 0, none⟩), .int .i64 (i : Int), .slice la i lc] w fun e w' => e = .returned (.int .i64 (u.lean C bits l)) ∧ Below w.heap.size w w' := by
  have hiz : (i : Int) < (N : Int) := by omega
  have hNz : (N : Int) ≤ 16 := by omega
  have HP := hid (fun w => r_place u.h C sz hh (by omega) hs16 w)
  obtain ⟨pl, hpl⟩ : ∃ pl, placeN u.h C (sz : Int) = pl := ⟨_, rfl⟩
  have hplt : pl < pw u.p.size := by rw [← hpl, hsz]; exact placeN_lt _ _ _ (by omega) (by omega)
  rw [hpl] at HP
  obtain ⟨⟨ca, cn, cc⟩, ⟨ka, kn1, kc⟩, ⟨sa, sn, sc⟩, ⟨wa, wn, wc⟩, ⟨na, nn1, nc⟩, ⟨ra, rn, rc⟩⟩ := V
  have hok2 := hok
  unfold Un.ok at hok2
  simp [hk] at hok2
  have hf := hone.2
  simp [Pt.fit, inn, hk] at hf
  obtain ⟨fp, fa1, fa2⟩ := hf
  obtain ⟨o1, o2, o3, o4⟩ := hok2
  obtain ⟨a, ha⟩ : ∃ a : Nat, u.p.a = (a : Int) := ⟨u.p.a.toNat, by omega⟩
  obtain ⟨gl0, xl0, el0, hlel0, cella⟩ := tab_at hlv a (by omega) (iv 0)
  injection el0 with e1 e2 e3
  subst e1 e3
  rw [iv_get] at cella
  obtain ⟨xa, hxa⟩ : ∃ xa, l.getD a 0 = xa := ⟨_, rfl⟩
  have hra : Lean1 xa := by have := at0_lean l hlr (a : Int); unfold at0 at this; rw [Int.toNat_natCast, hxa] at this; exact this
  rw [hxa] at cella
  have Ta := hid cella
  obtain ⟨hra1, hra2⟩ := hra
  clear cella
  obtain ⟨st, hst⟩ : ∃ st, u.state.getD pl 0 = st := ⟨_, rfl⟩
  have hst2 : st ≤ 255 := by rw [← hst]; exact o2 pl
  obtain ⟨wt, hwt⟩ : ∃ z, u.weight.getD (2 * st) 0 = z := ⟨_, rfl⟩
  obtain ⟨wu, hwu⟩ : ∃ z, u.weight.getD (2 * st + 1) 0 = z := ⟨_, rfl⟩
  have hwr : -1048576 ≤ wt ∧ wt ≤ 1048576 := by rw [← hwt]; exact o4.get _ (by omega)
  have hur : -1048576 ≤ wu ∧ wu ≤ 1048576 := by rw [← hwu]; exact o4.get _ (by omega)
  obtain ⟨hwr1, hwr2⟩ := hwr
  obtain ⟨hur1, hur2⟩ := hur
  obtain ⟨gs, xs, es, hles, cells⟩ := tab_at ht.s pl (by omega) (bn 0)
  injection es with e1 e2 e3
  subst e1 e2 e3
  have Ts := hid cells
  clear cells
  obtain ⟨gw, xw, ew, hlew, cellw⟩ := tab_at ht.w (2 * st) (by omega) (iv 0)
  injection ew with e1 e2 e3
  subst e1 e2 e3
  have Tw := hid cellw
  clear cellw
  obtain ⟨gv, xv, ev, hlev, cellv⟩ := tab_at ht.w (2 * st + 1) (by omega) (iv 0)
  injection ev with e1 e2 e3
  injection e1 with e1
  injection e1 with e1
  subst e1 e3
  have Tv := hid cellv
  rw [bn_get, hst] at Ts
  rw [iv_get, hwt] at Tw
  rw [iv_get, hwu] at Tv
  have hl1 : (pl : Int) < (u.state.length : Int) := by omega
  have hl2 : (2 : Int) * (st : Int) + 1 < (u.weight.length : Int) := by omega
  have hl4 : (2 : Int) * (st : Int) < (u.weight.length : Int) := by omega
  have hl3 : (st : Int) ≤ 255 := by omega
  obtain ⟨i2, hi2⟩ : ∃ i2 : Nat, i2 = 2 * st := ⟨_, rfl⟩
  obtain ⟨z1, hz1⟩ : ∃ z, wt * xa = z := ⟨_, rfl⟩
  obtain ⟨z2, hz2⟩ : ∃ z, wu * 64 = z := ⟨_, rfl⟩
  obtain ⟨z4, hz4⟩ : ∃ z, z1 + z2 = z := ⟨_, rfl⟩
  have b1 := mul_in wt xa 1048576 2047 (by omega) (by omega)
  rw [hz1] at b1
  obtain ⟨z5, hz5⟩ : ∃ z, z4 / 65536 = z := ⟨_, rfl⟩
  have HD := hid (fun w => r_down z4 65536 (by omega) (by omega) (by omega) w)
  rw [hz5] at HD
  have HN := hid (fun w => r_into z5 (-2047) 2047 w)
  have E1 := wr_in z1 (by omega)
  have F1 := wr_in64 z1 (by omega)
  have E2 := wr_in z2 (by omega)
  have F2 := wr_in64 z2 (by omega)
  have E3 := wr_in z4 (by omega)
  have F3 := wr_in64 z4 (by omega)
  have hai : (a : Int) < (i : Int) := by omega
  have ei2 : (2 : Int) * (st : Int) = (i2 : Int) := by omega
  have hi2l : (i2 : Int) < (u.weight.length : Int) := by omega
  have hi2m : (i2 : Int) + 1 < (u.weight.length : Int) := by omega
  have hi2n : (i2 : Int) ≤ 510 := by omega
  have hres : u.lean C bits l = into z5 (-2047) 2047 := by rw [un8 hk, ha, hsz, hpl, hst, hwt, hwu]; unfold at0; rw [Int.toNat_natCast, hxa, hz1, hz2, hz4, hz5]
  rw [← hi2] at Tw Tv
  clear o1 o2 o3 o4 hwt hwu hst hi2 hl2 hl4
  obtain ⟨p0, p1, p2, p3, p4, p5, p6, p7, p8, p9, p10, p11, p12, p13, p14, p15⟩ := hc
  have HB := hid hb
  have HM := hid (fun w => hnd_made (w := w) u ⟨⟨ca, cn, cc⟩, ⟨ka, kn1, kc⟩, ⟨some ⟨gs, 0, none⟩, u.state.length, sc⟩, ⟨some ⟨gw, 0, none⟩, u.weight.length, wc⟩, ⟨na, nn1, nc⟩, ⟨ra, rn, rc⟩⟩ 65 38)
  obtain ⟨b0, b1, b2, b3⟩ := hb
  unfold cellsU at HM
  dsimp only at *
  rw [hsz] at HM p1
  rw [ha] at HM p2
  have hkk : (u.p.kind : Int) = 8 := by omega
  rw [hkk] at p0 HM
  have HT := hid ht
  clear ht hlv hok hone hlr hplt
  go_enter Tryz.func38, Tryz.ntmps38
  go_upto_region 3 with fail
  have H1 := hid (HM.out w)
  clear p0 p1 p2 p3 p4 p5 p6 p7 p8 p9 p10 p11 p12 p13 p14 p15 HM b0 b1 b2 b3
  generalize (w.alloc (.cells #[.int .u8 8, .int .i64 (sz : Int), .int .i64 (a : Int), .int .i64 u.p.b, .int .i64 u.p.c, .int .i64 u.p.rate, .int .i64 u.p.limit, .int .u32 (u.h : Nat), .slice ca cn cc, .slice ka kn1 kc, .slice (some ⟨gs, 0, none⟩) u.state.length sc, .slice (some ⟨gw, 0, none⟩) u.weight.length wc, .slice na nn1 nc, .slice ra rn rc, .int .i64 (u.pos : Nat), .int .i64 (u.len : Nat)] 65)).alloc (.cells #[.int .u8 8, .int .i64 (sz : Int), .int .i64 (a : Int), .int .i64 u.p.b, .int .i64 u.p.c, .int .i64 u.p.rate, .int .i64 u.p.limit] 38) = W at H1 ⊢
  have HB1 := hid (HB.out.below H1.out.bel)
  have HPq := still HP.out W
  have q1 := HB1.out.c
  have q2 := H1.out.un.h
  have q3 := H1.out.p1
  rw [hsz] at q3
  generalize hU : w.heap.size = U at *
  go_quiet (with_reducible exact HPq.out _)
  have hbd := hid (below_drewN H1.out.bel nq)
  have H2 := hid (H1.out.later (show Below W.heap.size W (W.drewN nq) from below_drewN (Below.refl _ W) nq))
  clear H1 HPq q1 q2 q3 HB1
  have q0 : (W.drewN nq).cell? ⟨U + 1, 0, none⟩ = some (.int .u8 8) := by rw [← hU]; have := H2.out.p0; rw [hU]; rw [hkk] at this; exact this
  generalize W.drewN nq = W at *
  have q6 := H2.out.p2
  have q10 := H2.out.un.s
  have q11 := H2.out.un.w
  rw [ha] at q6
  have aW : W.cell? ⟨gl0, a, none⟩ = some (.int .i64 xa) := keeps H2.out.bel Ta.out
  have sW : W.cell? ⟨gs, pl, none⟩ = some (.int .u8 (st : Int)) := keeps H2.out.bel Ts.out
  have wW : W.cell? ⟨gw, i2, none⟩ = some (.int .i64 wt) := keeps H2.out.bel Tw.out
  have vW : W.cell? ⟨gw, i2 + 1, none⟩ = some (.int .i64 wu) := keeps H2.out.bel Tv.out
  have HDq := still HD.out W
  have HNq := still HN.out W
  have e1 := E1.out
  have f1 := F1.out
  have e2 := E2.out
  have f2 := F2.out
  have e3 := E3.out
  have f3 := F3.out
  go_wp2_with fail
  go_quiet (first | (with_reducible exact HDq.out _) | (with_reducible exact HNq.out _))
  go_wp2_with fail
  go_ret
  exact ⟨ret_i64 hres.symm, below_drewN hbd.out _⟩
end Go.Proofs.YtkfdbibgjoaefaaGreatDoor
