/-
  Merged: Rd7.
-/
import Derived.Test.YtkfdbibgjoaefaaGreatDoorMg06
import Derived.StillTailTactics
/-
  The document's blend: how a unit of kind 7 leans.
-/
namespace Go.Proofs.YtkfdbibgjoaefaaGreatDoor
open Go.RowKit
set_option linter.unusedVariables false
set_option linter.unusedSimpArgs false

set_option maxRecDepth 10000 in
set_option maxHeartbeats 16000000 in
theorem lean_7 (r g N cap i C bits whole : Nat) (u : Un) (V : Vs) (B Bl : Nat) (l : List Int) (la : Option Addr) (lc : Nat) (w : World)
    (hb : RB w r g N cap C bits whole) (hc : RC w g (i * 16) u V) (ht : RT w B u V) (hi : i < N) (hN : N ≤ 16) (hNc : N ≤ cap) (sz : Nat) (hsz : u.p.size = (sz : Int)) (hs16 : sz ≤ 16) (hC : 1 ≤ C ∧ C ≤ 255) (hbits : bits ≤ 7) (hh : u.h < 4294967296)
    (hok : u.ok whole) (hone : u.p.one (i : Int)) (hl : l.length = i) (hlv : w.ownsRow Bl 3 1 (.slice la i lc) i (l.map iv)) (hlr : ∀ d ∈ l, Lean1 d) (hk : u.p.kind = 7) :
    Calls Tryz.prog 38 #[.pointer (some ⟨r, 0, none⟩), .int .i64 (i : Int), .slice la i lc] w fun e w' => e = .returned (.int .i64 (u.lean C bits l)) ∧ Below w.heap.size w w' := by
  have hiz : (i : Int) < (N : Int) := by omega
  have hNz : (N : Int) ≤ 16 := by omega
  have HP := hid (fun w => r_place u.h C sz hh (by omega) hs16 w)
  obtain ⟨pl, hpl⟩ : ∃ pl, placeN u.h C (sz : Int) = pl := ⟨_, rfl⟩
  have hplt : pl < pw u.p.size := by rw [← hpl, hsz]; exact placeN_lt _ _ _ (by omega) (by omega)
  rw [hpl] at HP
  obtain ⟨⟨ca, cn, cc⟩, ⟨ka, kn1, kc⟩, ⟨sa, sn, sc⟩, ⟨wa, wn, wc⟩, ⟨na, nn1, nc⟩, ⟨ra, rn, rc⟩⟩ := V
  have hok2 := hok
  unfold Un.ok at hok2
  simp [hk] at hok2
  have hf := hone.2
  simp [Pt.fit, inn, hk] at hf
  obtain ⟨fp, ⟨fa1, fa2⟩, fab, fr1, fr2⟩ := hf
  obtain ⟨o1, o2⟩ := hok2
  have hle := one_leans u.p i hone
  have hb0 : 1 ≤ u.p.b := by rcases hle with h | h | h <;> omega
  obtain ⟨a, ha⟩ : ∃ a : Nat, u.p.a = (a : Int) := ⟨u.p.a.toNat, by omega⟩
  obtain ⟨b, hb5⟩ : ∃ b : Nat, u.p.b = (b : Int) := ⟨u.p.b.toNat, by omega⟩
  have hbn : a + b ≤ i := by omega
  have hb1 : 1 ≤ b := by omega
  obtain ⟨gl0, xl0, el0, hlel0, cell0⟩ := tab_at hlv a (by omega) (iv 0)
  injection el0 with e1 e2 e3
  subst e1 e3
  obtain ⟨pb, hpb⟩ : ∃ pb, pl * b = pb := ⟨_, rfl⟩
  have hwl : pb + b ≤ u.weight.length := by
    rw [o1, ← hpb, show u.p.b.toNat = b by omega, ← Nat.succ_mul]
    exact Nat.mul_le_mul_right _ hplt
  obtain ⟨gw, xw, ew, hlew, cellw⟩ := tab_at ht.w pb (by omega) (iv 0)
  injection ew with e1 e2 e3
  subst e1 e2 e3
  have Tw := hid cellw
  clear cellw
  have LC : Hid (∀ k, k < b → w.cell? ⟨gl0, a + k, none⟩ = some (.int .i64 (l.getD (a + k) 0)) ∧ Lean1 (l.getD (a + k) 0)) := hid fun k hk => by
    obtain ⟨g2, x2, e, _, c2⟩ := tab_at hlv (a + k) (by omega) (iv 0)
    injection e with e1
    injection e1 with e1
    injection e1 with e1
    subst e1
    rw [iv_get] at c2
    refine ⟨c2, ?_⟩
    have := at0_lean l hlr ((a + k : Nat) : Int)
    unfold at0 at this
    rw [Int.toNat_natCast] at this
    exact this
  have WC : Hid (∀ k, k < b → w.cell? ⟨gw, pb + k, none⟩ = some (.int .i64 (u.weight.getD (pb + k) 0)) ∧ -1048576 ≤ u.weight.getD (pb + k) 0 ∧ u.weight.getD (pb + k) 0 ≤ 1048576) := hid fun k hk => by
    obtain ⟨g2, x2, e, _, c2⟩ := tab_at ht.w (pb + k) (by omega) (iv 0)
    injection e with e1
    injection e1 with e1
    injection e1 with e1
    subst e1
    rw [iv_get] at c2
    exact ⟨c2, o2.get _ (by omega)⟩
  have hplz : pl ≤ 65536 := by
    have := Nat.pow_le_pow_right (n := 2) (by decide) hs16
    have e2 : pw u.p.size = 2 ^ sz := by unfold pw; rw [hsz]; rfl
    rw [e2] at hplt
    omega
  have hpbz : pb ≤ 1048576 := by
    have := Nat.mul_le_mul hplz (show b ≤ 16 by omega)
    omega
  have epb : (pl : Int) * (b : Int) = (pb : Int) := by rw [← hpb, Int.natCast_mul]
  have SB : Hid (∀ k, k ≤ b → -(16 * 2146435072) ≤ mixSum u.weight pb l a k ∧ mixSum u.weight pb l a k ≤ 16 * 2146435072) := hid fun k hk => by
    have h : -((k : Int) * 2146435072) ≤ mixSum u.weight pb l a k ∧ mixSum u.weight pb l a k ≤ (k : Int) * 2146435072 := by
      induction k with
      | zero => exact ⟨by unfold mixSum; omega, by unfold mixSum; omega⟩
      | succ k ih =>
        have h1 := ih (by omega)
        have h2 := (WC.out k (by omega)).2
        have h3 := (LC.out k (by omega)).2
        have h4 := mul_in (u.weight.getD (pb + k) 0) (l.getD (a + k) 0) 1048576 2047 (by omega) (by unfold Lean1 at h3; omega)
        have e : at0 l ((a : Int) + (k : Int)) = l.getD (a + k) 0 := by unfold at0; rw [show ((a : Int) + (k : Int)).toNat = a + k by omega]
        show -(((k + 1 : Nat) : Int) * 2146435072) ≤ mixSum u.weight pb l a k + u.weight.getD (pb + k) 0 * at0 l ((a : Int) + (k : Int)) ∧ mixSum u.weight pb l a k + u.weight.getD (pb + k) 0 * at0 l ((a : Int) + (k : Int)) ≤ ((k + 1 : Nat) : Int) * 2146435072
        rw [e]
        omega
    omega
  have hSb := hid (SB.out b (Nat.le_refl _))
  obtain ⟨sm, hsm⟩ : ∃ sm, mixSum u.weight pb l a b = sm := ⟨_, rfl⟩
  have hres : u.lean C bits l = into (sm / 65536) (-2047) 2047 := by rw [un7 hk, ha, hb5, hsz, hpl, Int.toNat_natCast, hpb, hsm]
  have HD := hid (fun w => r_down sm 65536 (by omega) (by omega) (by have := hSb.out; rw [hsm] at this; omega) w)
  obtain ⟨z5, hz5⟩ : ∃ z, sm / 65536 = z := ⟨_, rfl⟩
  rw [hz5] at HD hres
  have HN := hid (fun w => r_into z5 (-2047) 2047 w)
  have HSM := hid hsm
  have hbi : (b : Int) ≤ 16 := by omega
  have hab : (a : Int) + (b : Int) ≤ (i : Int) := by omega
  have hwz : (pb : Int) + (b : Int) ≤ (u.weight.length : Int) := by omega
  have hpz : (pb : Int) ≤ 1048576 := by omega
  have E1 := wr_in (pb : Int) (by omega)
  have F1 := wr_in64 (pb : Int) (by omega)
  clear o1 o2 hpb hle cell0 Tw hsm hz5
  obtain ⟨p0, p1, p2, p3, p4, p5, p6, p7, p8, p9, p10, p11, p12, p13, p14, p15⟩ := hc
  have HB := hid hb
  have HM := hid (fun w => hnd_made (w := w) u ⟨⟨ca, cn, cc⟩, ⟨ka, kn1, kc⟩, ⟨sa, sn, sc⟩, ⟨some ⟨gw, 0, none⟩, u.weight.length, wc⟩, ⟨na, nn1, nc⟩, ⟨ra, rn, rc⟩⟩ 65 38)
  obtain ⟨b0, b1, b2, b3⟩ := hb
  unfold cellsU at HM
  dsimp only at *
  rw [hsz] at HM p1
  rw [ha] at HM p2
  rw [hb5] at HM p3
  have hkk : (u.p.kind : Int) = 7 := by omega
  rw [hkk] at p0 HM
  have HT := hid ht
  clear ht hlv hok hone hlr hplt
  go_enter Tryz.func38, Tryz.ntmps38
  go_upto_region 3 with fail
  have H1 := hid (HM.out w)
  clear p0 p1 p2 p3 p4 p5 p6 p7 p8 p9 p10 p11 p12 p13 p14 p15 HM b0 b1 b2 b3
  generalize (w.alloc (.cells #[.int .u8 7, .int .i64 (sz : Int), .int .i64 (a : Int), .int .i64 (b : Int), .int .i64 u.p.c, .int .i64 u.p.rate, .int .i64 u.p.limit, .int .u32 (u.h : Nat), .slice ca cn cc, .slice ka kn1 kc, .slice sa sn sc, .slice (some ⟨gw, 0, none⟩) u.weight.length wc, .slice na nn1 nc, .slice ra rn rc, .int .i64 (u.pos : Nat), .int .i64 (u.len : Nat)] 65)).alloc (.cells #[.int .u8 7, .int .i64 (sz : Int), .int .i64 (a : Int), .int .i64 (b : Int), .int .i64 u.p.c, .int .i64 u.p.rate, .int .i64 u.p.limit] 38) = W at H1 ⊢
  have HB1 := hid (HB.out.below H1.out.bel)
  have HPq := still HP.out W
  have q1 := HB1.out.c
  have q2 := H1.out.un.h
  have q3 := H1.out.p1
  rw [hsz] at q3
  generalize hU : w.heap.size = U at *
  go_quiet (with_reducible exact HPq.out _)
  have hbd := hid (below_drewN H1.out.bel nq)
  have H2 := hid (H1.out.later (show Below W.heap.size W (W.drewN nq) from below_drewN (Below.refl _ W) nq))
  clear H1 HPq q1 q2 q3 HB1
  have q0 : (W.drewN nq).cell? ⟨U + 1, 0, none⟩ = some (.int .u8 7) := by rw [← hU]; have := H2.out.p0; rw [hU]; rw [hkk] at this; exact this
  generalize W.drewN nq = W at *
  have q6 := H2.out.p2
  have q7 := H2.out.p3
  have q11 := H2.out.un.w
  rw [ha] at q6
  rw [hb5] at q7
  have H2b := hid H2.out.bel
  go_wp2_with fail
  go_loopw [10, 11] (fun v10 v11 wr => ∃ k m : Nat, k ≤ b ∧ v11 = .int .i64 (k : Nat) ∧ v10 = .int .i64 (mixSum u.weight pb l (a : Int) k) ∧ wr = W.drewN m) (fun _ v11 _ => b - (intOf v11).toNat)
  case atStart => exact ⟨0, 0, Nat.zero_le _, rfl, rfl, rfl⟩
  case round =>
    obtain ⟨k, m, hkb, rfl, rfl, hwr⟩ := hrel
    by_cases hlt : k < b
    · have hltz : (k : Int) < (b : Int) := by omega
      obtain ⟨c1, r1⟩ := LC.out k hlt
      obtain ⟨c2, r2⟩ := WC.out k hlt
      have d1 := keeps H2b.out c1
      have d2 := keeps H2b.out c2
      have hs := SB.out k hkb
      have en : Hid (mixSum u.weight pb l (a : Int) (k + 1) = mixSum u.weight pb l (a : Int) k + u.weight.getD (pb + k) 0 * l.getD (a + k) 0) := hid (by
        show mixSum u.weight pb l (a : Int) k + u.weight.getD (pb + k) 0 * at0 l ((a : Int) + (k : Int)) = _
        unfold at0
        rw [show ((a : Int) + (k : Int)).toNat = a + k by omega])
      generalize l.getD (a + k) 0 = xk at d1 r1 en
      generalize u.weight.getD (pb + k) 0 = wk at d2 r2 en
      generalize mixSum u.weight pb l (a : Int) k = sk at hs en
      obtain ⟨z1, hz1⟩ : ∃ z, wk * xk = z := ⟨_, rfl⟩
      have b1 := mul_in wk xk 1048576 2047 (by omega) (by unfold Lean1 at r1; omega)
      rw [hz1] at b1 en
      obtain ⟨z2, hz2⟩ : ∃ z, sk + z1 = z := ⟨_, rfl⟩
      rw [hz2] at en
      obtain ⟨ik, hik⟩ : ∃ ik : Nat, pb + k = ik := ⟨_, rfl⟩
      obtain ⟨jk, hjk⟩ : ∃ jk : Nat, a + k = jk := ⟨_, rfl⟩
      rw [hjk] at d1
      rw [hik] at d2
      have y1 : (pb : Int) + (k : Int) = (ik : Int) := by omega
      have y2 : (a : Int) + (k : Int) = (jk : Int) := by omega
      have y3 : (ik : Int) < (u.weight.length : Int) := by omega
      have y4 : (jk : Int) < (i : Int) := by omega
      have X1 := wr_in z1 (by omega)
      have Y1 := wr_in64 z1 (by omega)
      have X2 := wr_in z2 (by omega)
      have Y2 := wr_in64 z2 (by omega)
      have X3 := wr_in (ik : Int) (by omega)
      have Y3 := wr_in64 (ik : Int) (by omega)
      have X4 := wr_in (jk : Int) (by omega)
      have Y4 := wr_in64 (jk : Int) (by omega)
      have HLT := hid (And.intro hlt hkb)
      clear hlt hkb c1 c2 r1 r2 hs b1 hik hjk
      have e1 := E1.out
      have f1 := F1.out
      have x1 := X1.out
      have x2 := X2.out
      have x3 := X3.out
      have x4 := X4.out
      have t1 := Y1.out
      have t2 := Y2.out
      have t3 := Y3.out
      have t4 := Y4.out
      subst hwr
      have hk1 := hid (show k + 1 ≤ b from HLT.out.1)
      go_wp2_with fail
      go_quiet (fail)
      clear e1 f1 x1 x2 x3 x4 t1 t2 t3 t4
      go_wp2
      go_roundw
      case rel => exact ⟨k + 1, _, hk1.out, by go_num, by rw [en.out], rfl⟩
      case measure => have := HLT.out; simp [intOf]; omega
    · obtain rfl : k = b := by omega
      rw [HSM.out]
      subst hwr
      have hbq := hid (below_drewN hbd.out m)
      go_wp2_with (first
        | (go_at_call 60; (with_reducible refine (HD.out _).mono ?_); rintro rj wj ⟨rfl, ej⟩; rw [ej]; clear ej wj)
        | (go_at_call 59; (with_reducible refine (HN.out _).mono ?_); rintro rj wj ⟨rfl, ej⟩; rw [ej]; clear ej wj))
      go_ret
      exact ⟨ret_i64 hres.symm, hbq.out⟩
end Go.Proofs.YtkfdbibgjoaefaaGreatDoor
