/-
  Merged: Rd9 Rn.
-/
import Derived.Test.YtkfdbibgjoaefaaGreatDoorMg06
import Derived.Test.YtkfdbibgjoaefaaGreatDoorMg07
import Derived.Test.YtkfdbibgjoaefaaGreatDoorMg08
import Derived.Test.YtkfdbibgjoaefaaGreatDoorMg09
import Derived.Test.YtkfdbibgjoaefaaGreatDoorMg10
import Derived.Test.YtkfdbibgjoaefaaGreatDoorMg11
import Derived.Test.YtkfdbibgjoaefaaGreatDoorMg12
import Derived.Test.YtkfdbibgjoaefaaGreatDoorMg13
import Derived.Test.YtkfdbibgjoaefaaGreatDoorMg14
import Derived.StillTailTactics
/-
  The document's blend: how a unit of kind 9 leans.
-/
namespace Go.Proofs.YtkfdbibgjoaefaaGreatDoor
open Go.RowKit
set_option linter.unusedVariables false
set_option linter.unusedSimpArgs false

set_option maxRecDepth 10000 in
set_option maxHeartbeats 16000000 in
theorem lean_9 (r g N cap i C bits whole : Nat) (u : Un) (V : Vs) (B Bl : Nat) (l : List Int) (la : Option Addr) (lc : Nat) (w : World)
    (hb : RB w r g N cap C bits whole) (hc : RC w g (i * 16) u V) (ht : RT w B u V) (hi : i < N) (hN : N ≤ 16) (hNc : N ≤ cap) (sz : Nat) (hsz : u.p.size = (sz : Int)) (hs16 : sz ≤ 16) (hC : 1 ≤ C ∧ C ≤ 255) (hbits : bits ≤ 7) (hh : u.h < 4294967296)
    (hok : u.ok whole) (hone : u.p.one (i : Int)) (hl : l.length = i) (hlv : w.ownsRow Bl 3 1 (.slice la i lc) i (l.map iv)) (hlr : ∀ d ∈ l, Lean1 d) (hk : u.p.kind = 9) :
    Calls Tryz.prog 38 #[.pointer (some ⟨r, 0, none⟩), .int .i64 (i : Int), .slice la i lc] w fun e w' => e = .returned (.int .i64 (u.lean C bits l)) ∧ Below w.heap.size w w' := by
  have hiz : (i : Int) < (N : Int) := by omega
  have hNz : (N : Int) ≤ 16 := by omega
  have HP := hid (fun w => r_place u.h C sz hh (by omega) hs16 w)
  obtain ⟨pl, hpl⟩ : ∃ pl, placeN u.h C (sz : Int) = pl := ⟨_, rfl⟩
  have hplt : pl < pw u.p.size := by rw [← hpl, hsz]; exact placeN_lt _ _ _ (by omega) (by omega)
  rw [hpl] at HP
  obtain ⟨⟨ca, cn, cc⟩, ⟨ka, kn1, kc⟩, ⟨sa, sn, sc⟩, ⟨wa, wn, wc⟩, ⟨na, nn1, nc⟩, ⟨ra, rn, rc⟩⟩ := V
  have hok2 := hok
  unfold Un.ok at hok2
  simp [hk] at hok2
  have hf := hone.2
  simp [Pt.fit, inn, hk] at hf
  obtain ⟨fp, ⟨fa1, fa2⟩, fl1, fl2⟩ := hf
  obtain ⟨o1, o2, o3, o4⟩ := hok2
  obtain ⟨a, ha⟩ : ∃ a : Nat, u.p.a = (a : Int) := ⟨u.p.a.toNat, by omega⟩
  obtain ⟨gl0, xl0, el0, hlel0, cella⟩ := tab_at hlv a (by omega) (iv 0)
  injection el0 with e1 e2 e3
  subst e1 e3
  rw [iv_get] at cella
  obtain ⟨xa, hxa⟩ : ∃ xa, l.getD a 0 = xa := ⟨_, rfl⟩
  have hra : Lean1 xa := by have := at0_lean l hlr (a : Int); unfold at0 at this; rw [Int.toNat_natCast, hxa] at this; exact this
  rw [hxa] at cella
  have Ta := hid cella
  obtain ⟨hra1, hra2⟩ := hra
  clear cella
  obtain ⟨q, hq⟩ : ∃ q : Nat, (xa + 2047) / 128 = (q : Int) := ⟨((xa + 2047) / 128).toNat, by omega⟩
  have hq31 : q ≤ 31 := by omega
  obtain ⟨ix, hix⟩ : ∃ ix, pl * 32 + q = ix := ⟨_, rfl⟩
  have hixl : ix < u.chance.length := by rw [o1]; omega
  obtain ⟨x, hx⟩ : ∃ x, u.chance.getD ix 0 = x := ⟨_, rfl⟩
  have hxr : 0 ≤ x ∧ x ≤ 4194303 := by rw [← hx]; exact o3.get ix hixl
  obtain ⟨gc, xc, ec, hlec, cellc⟩ := tab_at ht.c ix hixl (iv 0)
  injection ec with e1 e2 e3
  subst e1 e2 e3
  have Tc := hid cellc
  clear cellc
  rw [iv_get, hx] at Tc
  have hl2 : (ix : Int) < (u.chance.length : Int) := by omega
  have hplz : pl ≤ 65536 := by
    have := Nat.pow_le_pow_right (n := 2) (by decide) hs16
    have e2 : pw u.p.size = 2 ^ sz := by unfold pw; rw [hsz]; rfl
    rw [e2] at hplt
    omega
  have HD := hid (fun w => r_down (xa + 2047) 128 (by omega) (by omega) (by omega) w)
  rw [hq] at HD
  obtain ⟨x7, hx7⟩ : ∃ x7, xa + 2047 = x7 := ⟨_, rfl⟩
  rw [hx7] at HD
  obtain ⟨p32, hp32⟩ : ∃ p32 : Nat, pl * 32 = p32 := ⟨_, rfl⟩
  have ep : (pl : Int) * 32 = (p32 : Int) := by omega
  have eq : (p32 : Int) + (q : Int) = (ix : Int) := by omega
  have E1 := wr_in x7 (by omega)
  have F1 := wr_in64 x7 (by omega)
  have E2 := wr_in (p32 : Int) (by omega)
  have F2 := wr_in64 (p32 : Int) (by omega)
  have E3 := wr_in (ix : Int) (by omega)
  have F3 := wr_in64 (ix : Int) (by omega)
  have hai : (a : Int) < (i : Int) := by omega
  have hres : u.lean C bits l = stz (x / 1024) := by
    rw [un9 hk, ha, hsz, hpl]
    unfold at0
    rw [Int.toNat_natCast, hxa, hx7, show x7 / 128 = (q : Int) by rw [← hx7]; exact hq, Int.toNat_natCast, hix, hx]
  clear o1 o2 o3 o4 hx hq hix hp32 hixl
  obtain ⟨p0, p1, p2, p3, p4, p5, p6, p7, p8, p9, p10, p11, p12, p13, p14, p15⟩ := hc
  have HB := hid hb
  have HM := hid (fun w => hnd_made (w := w) u ⟨⟨some ⟨gc, 0, none⟩, u.chance.length, cc⟩, ⟨ka, kn1, kc⟩, ⟨sa, sn, sc⟩, ⟨wa, wn, wc⟩, ⟨na, nn1, nc⟩, ⟨ra, rn, rc⟩⟩ 65 38)
  obtain ⟨b0, b1, b2, b3⟩ := hb
  unfold cellsU at HM
  dsimp only at *
  rw [hsz] at HM p1
  rw [ha] at HM p2
  have hkk : (u.p.kind : Int) = 9 := by omega
  rw [hkk] at p0 HM
  have HT := hid ht
  clear ht hlv hok hone hlr hplt
  go_enter Tryz.func38, Tryz.ntmps38
  go_upto_region 3 with fail
  have H1 := hid (HM.out w)
  clear p0 p1 p2 p3 p4 p5 p6 p7 p8 p9 p10 p11 p12 p13 p14 p15 HM b0 b1 b2 b3
  generalize (w.alloc (.cells #[.int .u8 9, .int .i64 (sz : Int), .int .i64 (a : Int), .int .i64 u.p.b, .int .i64 u.p.c, .int .i64 u.p.rate, .int .i64 u.p.limit, .int .u32 (u.h : Nat), .slice (some ⟨gc, 0, none⟩) u.chance.length cc, .slice ka kn1 kc, .slice sa sn sc, .slice wa wn wc, .slice na nn1 nc, .slice ra rn rc, .int .i64 (u.pos : Nat), .int .i64 (u.len : Nat)] 65)).alloc (.cells #[.int .u8 9, .int .i64 (sz : Int), .int .i64 (a : Int), .int .i64 u.p.b, .int .i64 u.p.c, .int .i64 u.p.rate, .int .i64 u.p.limit] 38) = W at H1 ⊢
  have HB1 := hid (HB.out.below H1.out.bel)
  have HPq := still HP.out W
  have q1 := HB1.out.c
  have q2 := H1.out.un.h
  have q3 := H1.out.p1
  rw [hsz] at q3
  generalize hU : w.heap.size = U at *
  go_quiet (with_reducible exact HPq.out _)
  have hbd := hid (below_drewN H1.out.bel nq)
  have H2 := hid (H1.out.later (show Below W.heap.size W (W.drewN nq) from below_drewN (Below.refl _ W) nq))
  clear H1 HPq q1 q2 q3 HB1
  have q0 : (W.drewN nq).cell? ⟨U + 1, 0, none⟩ = some (.int .u8 9) := by rw [← hU]; have := H2.out.p0; rw [hU]; rw [hkk] at this; exact this
  generalize W.drewN nq = W at *
  have q6 := H2.out.p2
  have q8 := H2.out.un.c
  rw [ha] at q6
  have aW : W.cell? ⟨gl0, a, none⟩ = some (.int .i64 xa) := keeps H2.out.bel Ta.out
  have cW : W.cell? ⟨gc, ix, none⟩ = some (.int .i64 x) := keeps H2.out.bel Tc.out
  have hx0 := hxr.1
  have hx1 := hxr.2
  have HS := hid (fun w => refStretch_any (x / 1024) w)
  have d1 : x.tdiv 1024 = x / 1024 := Int.tdiv_eq_ediv_of_nonneg hx0
  have e1 := E1.out
  have f1 := F1.out
  have e2 := E2.out
  have f2 := F2.out
  have e3 := E3.out
  have f3 := F3.out
  go_wp2_with fail
  go_still_tail 15, (by kernel_rfl)
  refine wpStill_step (fun K hK => ?_)
  go_simp
  refine ⟨_, (HD.out _).mono (fun e w' h => ⟨h.1, h.2⟩), hK _ ?_⟩
  clear hK K
  repeat still_step
  refine wpStill_nil ?_
  change wpList _ _ _ _ _ W.drew
  go_wp2_with (go_at_call 61; refine (HS.out _).mono ?_; rintro rj w5 ⟨rfl, b5⟩)
  go_ret
  exact ⟨ret_i64 hres.symm, bel_on hbd.out.drew b5⟩
end Go.Proofs.YtkfdbibgjoaefaaGreatDoor
/-
  The document's blend: how any unit leans.
-/
namespace Go.Proofs.YtkfdbibgjoaefaaGreatDoor
open Go.RowKit
set_option linter.unusedVariables false
set_option linter.unusedSimpArgs false

theorem lean_any (r g N cap i C bits whole : Nat) (u : Un) (V : Vs) (B Bl : Nat) (l : List Int) (la : Option Addr) (lc : Nat) (w : World)
    (hb : RB w r g N cap C bits whole) (hc : RC w g (i * 16) u V) (ht : RT w B u V) (hi : i < N) (hN : N ≤ 16) (hNc : N ≤ cap) (sz : Nat) (hsz : u.p.size = (sz : Int)) (hs16 : sz ≤ 16) (hC : 1 ≤ C ∧ C ≤ 255) (hbits : bits ≤ 7) (hh : u.h < 4294967296)
    (hok : u.ok whole) (hone : u.p.one (i : Int)) (hl : l.length = i) (hlv : w.ownsRow Bl 3 1 (.slice la i lc) i (l.map iv)) (hlr : ∀ d ∈ l, Lean1 d) :
    Calls Tryz.prog 38 #[.pointer (some ⟨r, 0, none⟩), .int .i64 (i : Int), .slice la i lc] w fun e w' => e = .returned (.int .i64 (u.lean C bits l)) ∧ Below w.heap.size w w' := by
  have hk := one_kind u.p i hone
  rcases (show u.p.kind = 1 ∨ u.p.kind = 2 ∨ u.p.kind = 3 ∨ u.p.kind = 4 ∨ u.p.kind = 5 ∨ u.p.kind = 6 ∨ u.p.kind = 7 ∨ u.p.kind = 8 ∨ u.p.kind = 9 by omega) with h | h | h | h | h | h | h | h | h
  · exact lean_1 r g N cap i C bits whole u V B Bl l la lc w hb hc ht hi hN hNc sz hsz hs16 hC hbits hh hok hone hl hlv hlr h
  · exact lean_2 r g N cap i C bits whole u V B Bl l la lc w hb hc ht hi hN hNc sz hsz hs16 hC hbits hh hok hone hl hlv hlr h
  · exact lean_3 r g N cap i C bits whole u V B Bl l la lc w hb hc ht hi hN hNc sz hsz hs16 hC hbits hh hok hone hl hlv hlr h
  · exact lean_4 r g N cap i C bits whole u V B Bl l la lc w hb hc ht hi hN hNc sz hsz hs16 hC hbits hh hok hone hl hlv hlr h
  · exact lean_5 r g N cap i C bits whole u V B Bl l la lc w hb hc ht hi hN hNc sz hsz hs16 hC hbits hh hok hone hl hlv hlr h
  · exact lean_6 r g N cap i C bits whole u V B Bl l la lc w hb hc ht hi hN hNc sz hsz hs16 hC hbits hh hok hone hl hlv hlr h
  · exact lean_7 r g N cap i C bits whole u V B Bl l la lc w hb hc ht hi hN hNc sz hsz hs16 hC hbits hh hok hone hl hlv hlr h
  · exact lean_8 r g N cap i C bits whole u V B Bl l la lc w hb hc ht hi hN hNc sz hsz hs16 hC hbits hh hok hone hl hlv hlr h
  · exact lean_9 r g N cap i C bits whole u V B Bl l la lc w hb hc ht hi hN hNc sz hsz hs16 hC hbits hh hok hone hl hlv hlr h
end Go.Proofs.YtkfdbibgjoaefaaGreatDoor
