/-
  Merged: Rd5.
-/
import Derived.Test.YtkfdbibgjoaefaaGreatDoorMg06
import Derived.StillTailTactics
/-
  The document's blend: how a unit of kind 5 leans.
-/
namespace Go.Proofs.YtkfdbibgjoaefaaGreatDoor
open Go.RowKit
set_option linter.unusedVariables false
set_option linter.unusedSimpArgs false

set_option maxRecDepth 10000 in
set_option maxHeartbeats 16000000 in
theorem lean_5 (r g N cap i C bits whole : Nat) (u : Un) (V : Vs) (B Bl : Nat) (l : List Int) (la : Option Addr) (lc : Nat) (w : World)
    (hb : RB w r g N cap C bits whole) (hc : RC w g (i * 16) u V) (ht : RT w B u V) (hi : i < N) (hN : N ≤ 16) (hNc : N ≤ cap) (sz : Nat) (hsz : u.p.size = (sz : Int)) (hs16 : sz ≤ 16) (hC : 1 ≤ C ∧ C ≤ 255) (hbits : bits ≤ 7) (hh : u.h < 4294967296)
    (hok : u.ok whole) (hone : u.p.one (i : Int)) (hl : l.length = i) (hlv : w.ownsRow Bl 3 1 (.slice la i lc) i (l.map iv)) (hlr : ∀ d ∈ l, Lean1 d) (hk : u.p.kind = 5) :
    Calls Tryz.prog 38 #[.pointer (some ⟨r, 0, none⟩), .int .i64 (i : Int), .slice la i lc] w fun e w' => e = .returned (.int .i64 (u.lean C bits l)) ∧ Below w.heap.size w w' := by
  have hiz : (i : Int) < (N : Int) := by omega
  have hNz : (N : Int) ≤ 16 := by omega
  have HP := hid (fun w => r_place u.h C sz hh (by omega) hs16 w)
  obtain ⟨pl, hpl⟩ : ∃ pl, placeN u.h C (sz : Int) = pl := ⟨_, rfl⟩
  have hplt : pl < pw u.p.size := by rw [← hpl, hsz]; exact placeN_lt _ _ _ (by omega) (by omega)
  rw [hpl] at HP
  obtain ⟨⟨ca, cn, cc⟩, ⟨ka, kn1, kc⟩, ⟨sa, sn, sc⟩, ⟨wa, wn, wc⟩, ⟨na, nn1, nc⟩, ⟨ra, rn, rc⟩⟩ := V
  have hf := hone.2
  simp [Pt.fit, inn, hk] at hf
  obtain ⟨⟨fa1, fa2⟩, ⟨fb1, fb2⟩, fc1, fc2⟩ := hf
  obtain ⟨a, ha⟩ : ∃ a : Nat, u.p.a = (a : Int) := ⟨u.p.a.toNat, by omega⟩
  obtain ⟨b, hb5⟩ : ∃ b : Nat, u.p.b = (b : Int) := ⟨u.p.b.toNat, by omega⟩
  obtain ⟨gl0, xl0, el0, hlel0, cella⟩ := tab_at hlv a (by omega) (iv 0)
  injection el0 with e1 e2 e3
  subst e1 e3
  rw [iv_get] at cella
  obtain ⟨xa, hxa⟩ : ∃ xa, l.getD a 0 = xa := ⟨_, rfl⟩
  have hra : Lean1 xa := by have := at0_lean l hlr (a : Int); unfold at0 at this; rw [Int.toNat_natCast, hxa] at this; exact this
  rw [hxa] at cella
  have Ta := hid cella
  obtain ⟨hra1, hra2⟩ := hra
  clear cella
  obtain ⟨gl1, xl1, el1, hlel1, cellb⟩ := tab_at hlv b (by omega) (iv 0)
  injection el1 with e1 e2 e3
  injection e1 with e1
  injection e1 with e1
  subst e1 e3
  rw [iv_get] at cellb
  obtain ⟨xb, hxb⟩ : ∃ xb, l.getD b 0 = xb := ⟨_, rfl⟩
  have hrb : Lean1 xb := by have := at0_lean l hlr (b : Int); unfold at0 at this; rw [Int.toNat_natCast, hxb] at this; exact this
  rw [hxb] at cellb
  have Tb := hid cellb
  obtain ⟨hrb1, hrb2⟩ := hrb
  clear cellb
  obtain ⟨cc5, hc5⟩ : ∃ z, u.p.c = z := ⟨_, rfl⟩
  rw [hc5] at fc1 fc2
  obtain ⟨z1, hz1⟩ : ∃ z, cc5 * xa = z := ⟨_, rfl⟩
  obtain ⟨z3, hz3⟩ : ∃ z, 256 - cc5 = z := ⟨_, rfl⟩
  obtain ⟨z2, hz2⟩ : ∃ z, z3 * xb = z := ⟨_, rfl⟩
  obtain ⟨z4, hz4⟩ : ∃ z, z1 + z2 = z := ⟨_, rfl⟩
  have b1 := mul_in cc5 xa 256 2047 (by omega) (by omega)
  have b2 := mul_in z3 xb 256 2047 (by omega) (by omega)
  rw [hz1] at b1
  rw [hz2] at b2
  have HD := hid (fun w => r_down z4 256 (by omega) (by omega) (by omega) w)
  have E1 := wr_in z1 (by omega)
  have E2 := wr_in z2 (by omega)
  have E3 := wr_in z3 (by omega)
  have E4 := wr_in z4 (by omega)
  have F1 := wr_in64 z1 (by omega)
  have F2 := wr_in64 z2 (by omega)
  have F3 := wr_in64 z3 (by omega)
  have F4 := wr_in64 z4 (by omega)
  have hai : (a : Int) < (i : Int) := by omega
  have hbi : (b : Int) < (i : Int) := by omega
  have hres : u.lean C bits l = z4 / 256 := by rw [un5 hk, ha, hb5, hc5]; unfold at0; rw [Int.toNat_natCast, Int.toNat_natCast, hxa, hxb, hz1, hz3, hz2, hz4]
  obtain ⟨p0, p1, p2, p3, p4, p5, p6, p7, p8, p9, p10, p11, p12, p13, p14, p15⟩ := hc
  have HB := hid hb
  have HM := hid (fun w => hnd_made (w := w) u ⟨⟨ca, cn, cc⟩, ⟨ka, kn1, kc⟩, ⟨sa, sn, sc⟩, ⟨wa, wn, wc⟩, ⟨na, nn1, nc⟩, ⟨ra, rn, rc⟩⟩ 65 38)
  obtain ⟨b0, b1, b2, b3⟩ := hb
  unfold cellsU at HM
  dsimp only at *
  rw [hsz] at HM p1
  rw [ha] at HM p2
  rw [hb5] at HM p3
  rw [hc5] at HM p4
  have hkk : (u.p.kind : Int) = 5 := by omega
  rw [hkk] at p0 HM
  have HT := hid ht
  clear ht hlv hok hone hlr hplt
  go_enter Tryz.func38, Tryz.ntmps38
  go_upto_region 3 with fail
  have H1 := hid (HM.out w)
  clear p0 p1 p2 p3 p4 p5 p6 p7 p8 p9 p10 p11 p12 p13 p14 p15 HM b0 b1 b2 b3
  generalize (w.alloc (.cells #[.int .u8 5, .int .i64 (sz : Int), .int .i64 (a : Int), .int .i64 (b : Int), .int .i64 cc5, .int .i64 u.p.rate, .int .i64 u.p.limit, .int .u32 (u.h : Nat), .slice ca cn cc, .slice ka kn1 kc, .slice sa sn sc, .slice wa wn wc, .slice na nn1 nc, .slice ra rn rc, .int .i64 (u.pos : Nat), .int .i64 (u.len : Nat)] 65)).alloc (.cells #[.int .u8 5, .int .i64 (sz : Int), .int .i64 (a : Int), .int .i64 (b : Int), .int .i64 cc5, .int .i64 u.p.rate, .int .i64 u.p.limit] 38) = W at H1 ⊢
  have HB1 := hid (HB.out.below H1.out.bel)
  have HPq := still HP.out W
  have q1 := HB1.out.c
  have q2 := H1.out.un.h
  have q3 := H1.out.p1
  rw [hsz] at q3
  generalize hU : w.heap.size = U at *
  go_quiet (with_reducible exact HPq.out _)
  have hbd := hid (below_drewN H1.out.bel nq)
  have H2 := hid (H1.out.later (show Below W.heap.size W (W.drewN nq) from below_drewN (Below.refl _ W) nq))
  clear H1 HPq q1 q2 q3 HB1
  have q0 : (W.drewN nq).cell? ⟨U + 1, 0, none⟩ = some (.int .u8 5) := by rw [← hU]; have := H2.out.p0; rw [hU]; rw [hkk] at this; exact this
  generalize W.drewN nq = W at *
  have q5 := H2.out.p4
  have q6 := H2.out.p2
  have q7 := H2.out.p3
  rw [ha] at q6
  rw [hb5] at q7
  rw [hc5] at q5
  have aW : W.cell? ⟨gl0, a, none⟩ = some (.int .i64 xa) := keeps H2.out.bel Ta.out
  have bW : W.cell? ⟨gl0, b, none⟩ = some (.int .i64 xb) := keeps H2.out.bel Tb.out
  have HDq := still HD.out W
  have e1 := E1.out
  have e2 := E2.out
  have e3 := E3.out
  have e4 := E4.out
  have f1 := F1.out
  have f2 := F2.out
  have f3 := F3.out
  have f4 := F4.out
  go_wp2_with fail
  go_quiet (with_reducible exact HDq.out _)
  go_wp2_with fail
  go_ret
  exact ⟨ret_i64 hres.symm, below_drewN hbd.out _⟩
end Go.Proofs.YtkfdbibgjoaefaaGreatDoor
