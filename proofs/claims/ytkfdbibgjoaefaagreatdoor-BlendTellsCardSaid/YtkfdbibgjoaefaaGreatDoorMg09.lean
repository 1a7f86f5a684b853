/-
  Merged: Rd3 Re.
-/
import Derived.Test.YtkfdbibgjoaefaaGreatDoorMg06
import Derived.StillTailTactics
/-
  The document's blend: how a unit of kind 3 leans.
-/
namespace Go.Proofs.YtkfdbibgjoaefaaGreatDoor
open Go.RowKit
set_option linter.unusedVariables false
set_option linter.unusedSimpArgs false

set_option maxRecDepth 10000 in
set_option maxHeartbeats 16000000 in
theorem lean_3 (r g N cap i C bits whole : Nat) (u : Un) (V : Vs) (B Bl : Nat) (l : List Int) (la : Option Addr) (lc : Nat) (w : World)
    (hb : RB w r g N cap C bits whole) (hc : RC w g (i * 16) u V) (ht : RT w B u V) (hi : i < N) (hN : N ≤ 16) (hNc : N ≤ cap) (sz : Nat) (hsz : u.p.size = (sz : Int)) (hs16 : sz ≤ 16) (hC : 1 ≤ C ∧ C ≤ 255) (hbits : bits ≤ 7) (hh : u.h < 4294967296)
    (hok : u.ok whole) (hone : u.p.one (i : Int)) (hl : l.length = i) (hlv : w.ownsRow Bl 3 1 (.slice la i lc) i (l.map iv)) (hlr : ∀ d ∈ l, Lean1 d) (hk : u.p.kind = 3) :
    Calls Tryz.prog 38 #[.pointer (some ⟨r, 0, none⟩), .int .i64 (i : Int), .slice la i lc] w fun e w' => e = .returned (.int .i64 (u.lean C bits l)) ∧ Below w.heap.size w w' := by
  have hiz : (i : Int) < (N : Int) := by omega
  have hNz : (N : Int) ≤ 16 := by omega
  have HP := hid (fun w => r_place u.h C sz hh (by omega) hs16 w)
  obtain ⟨pl, hpl⟩ : ∃ pl, placeN u.h C (sz : Int) = pl := ⟨_, rfl⟩
  have hplt : pl < pw u.p.size := by rw [← hpl, hsz]; exact placeN_lt _ _ _ (by omega) (by omega)
  rw [hpl] at HP
  obtain ⟨⟨ca, cn, cc⟩, ⟨ka, kn1, kc⟩, ⟨sa, sn, sc⟩, ⟨wa, wn, wc⟩, ⟨na, nn1, nc⟩, ⟨ra, rn, rc⟩⟩ := V
  have hok2 := hok
  unfold Un.ok at hok2
  simp [hk] at hok2
  obtain ⟨o1, o2, o3, o4⟩ := hok2
  obtain ⟨st, hst⟩ : ∃ st, u.state.getD pl 0 = st := ⟨_, rfl⟩
  have hst2 : st ≤ 255 := by rw [← hst]; exact o2 pl
  obtain ⟨x, hx⟩ : ∃ x, u.chance.getD st 0 = x := ⟨_, rfl⟩
  have hxr : 0 ≤ x ∧ x ≤ 65535 := by rw [← hx]; exact o4.get st (by omega)
  obtain ⟨gs, xs, es, hles, cells⟩ := tab_at ht.s pl (by omega) (bn 0)
  injection es with e1 e2 e3
  subst e1 e2 e3
  have Ts := hid cells
  clear cells
  obtain ⟨gc, xc, ec, hlec, cellc⟩ := tab_at ht.c st (by omega) (iv 0)
  injection ec with e1 e2 e3
  subst e1 e2 e3
  have Tc := hid cellc
  clear cellc
  rw [bn_get, hst] at Ts
  rw [iv_get, hx] at Tc
  have hl1 : (pl : Int) < (u.state.length : Int) := by omega
  have hl2 : (st : Int) < (u.chance.length : Int) := by omega
  have hl3 : (st : Int) ≤ 255 := by omega
  have hres : u.lean C bits l = stz (x / 16) := by unfold Un.lean; simp [hk, hpl, hsz, ← hx, ← hst]
  clear o1 o2 o3 o4 hst hx
  obtain ⟨p0, p1, p2, p3, p4, p5, p6, p7, p8, p9, p10, p11, p12, p13, p14, p15⟩ := hc
  have HB := hid hb
  have HM := hid (fun w => hnd_made (w := w) u ⟨⟨some ⟨gc, 0, none⟩, u.chance.length, cc⟩, ⟨ka, kn1, kc⟩, ⟨some ⟨gs, 0, none⟩, u.state.length, sc⟩, ⟨wa, wn, wc⟩, ⟨na, nn1, nc⟩, ⟨ra, rn, rc⟩⟩ 65 38)
  obtain ⟨b0, b1, b2, b3⟩ := hb
  unfold cellsU at HM
  dsimp only at *
  rw [hsz] at HM p1
  have hkk : (u.p.kind : Int) = 3 := by omega
  rw [hkk] at p0 HM
  have HT := hid ht
  clear ht hlv hok hone hlr hplt
  go_enter Tryz.func38, Tryz.ntmps38
  go_upto_region 3 with fail
  have H1 := hid (HM.out w)
  clear p0 p1 p2 p3 p4 p5 p6 p7 p8 p9 p10 p11 p12 p13 p14 p15 HM b0 b1 b2 b3
  generalize (w.alloc (.cells #[.int .u8 3, .int .i64 (sz : Int), .int .i64 u.p.a, .int .i64 u.p.b, .int .i64 u.p.c, .int .i64 u.p.rate, .int .i64 u.p.limit, .int .u32 (u.h : Nat), .slice (some ⟨gc, 0, none⟩) u.chance.length cc, .slice ka kn1 kc, .slice (some ⟨gs, 0, none⟩) u.state.length sc, .slice wa wn wc, .slice na nn1 nc, .slice ra rn rc, .int .i64 (u.pos : Nat), .int .i64 (u.len : Nat)] 65)).alloc (.cells #[.int .u8 3, .int .i64 (sz : Int), .int .i64 u.p.a, .int .i64 u.p.b, .int .i64 u.p.c, .int .i64 u.p.rate, .int .i64 u.p.limit] 38) = W at H1 ⊢
  have HB1 := hid (HB.out.below H1.out.bel)
  have HPq := still HP.out W
  have q1 := HB1.out.c
  have q2 := H1.out.un.h
  have q3 := H1.out.p1
  rw [hsz] at q3
  generalize hU : w.heap.size = U at *
  go_quiet (with_reducible exact HPq.out _)
  have hbd := hid (below_drewN H1.out.bel nq)
  have H2 := hid (H1.out.later (show Below W.heap.size W (W.drewN nq) from below_drewN (Below.refl _ W) nq))
  clear H1 HPq q1 q2 q3 HB1
  have q0 : (W.drewN nq).cell? ⟨U + 1, 0, none⟩ = some (.int .u8 3) := by rw [← hU]; have := H2.out.p0; rw [hU]; rw [hkk] at this; exact this
  generalize W.drewN nq = W at *
  have q8 := H2.out.un.c
  have q10 := H2.out.un.s
  have cW : W.cell? ⟨gc, st, none⟩ = some (.int .i64 x) := keeps H2.out.bel Tc.out
  have sW : W.cell? ⟨gs, pl, none⟩ = some (.int .u8 (st : Int)) := keeps H2.out.bel Ts.out
  have hx0 := hxr.1
  have hx1 := hxr.2
  have HS := hid (fun w => refStretch_any (x / 16) w)
  have e1 : x.tdiv 16 = x / 16 := Int.tdiv_eq_ediv_of_nonneg hx0
  go_wp2_with fail
  go_still_tail 10, (by kernel_rfl)
  change wpList _ _ _ _ _ W.drew
  go_wp2_with (go_at_call 61; refine (HS.out _).mono ?_; rintro rj w5 ⟨rfl, b5⟩)
  go_ret
  exact ⟨ret_i64 hres.symm, bel_on hbd.out.drew b5⟩
end Go.Proofs.YtkfdbibgjoaefaaGreatDoor
/-
  The document's blend: what a match foretells.
-/
namespace Go.Proofs.YtkfdbibgjoaefaaGreatDoor
open Go.RowKit
set_option linter.unusedVariables false
set_option linter.unusedSimpArgs false

theorem into_min (n : Nat) : into (n : Int) 0 15 = ((min n 15 : Nat) : Int) := by
  unfold into
  rw [if_neg (by omega)]
  split <;> omega
set_option maxRecDepth 10000 in
set_option maxHeartbeats 8000000 in
theorem foretold_any (r g N cap C bits whole : Nat) (y0 y1 y2 y3 y4 y5 y6 : Int) (h pos len : Nat) (ring : List Nat) (c1 c2 c3 c4 c5 : Value) (rg rc : Nat) (B : Nat) (w : World) (hb : RB w r g N cap C bits whole) (hr : w.ownsRow B 5 1 (.slice (some ⟨rg, 0, none⟩) ring.length rc) ring.length (ring.map bn))
    (hpos : pos < ring.length) (hlen : len ≤ 32) (hin : ring.getD pos 0 ≤ 255) (hbits : bits ≤ 7) (hC : C ≤ 255) (u : Un) (hu : u.ring = ring ∧ u.pos = pos ∧ u.len = len)
    (hv1 : ∃ a n c, c1 = .slice a n c) (hv2 : ∃ a n c, c2 = .slice a n c) (hv3 : ∃ a n c, c3 = .slice a n c) (hv4 : ∃ a n c, c4 = .slice a n c) (hv5 : ∃ a n c, c5 = .slice a n c) :
    Calls Tryz.prog 62 #[.pointer (some ⟨r, 0, none⟩), .agg #[.int .u8 y0, .int .i64 y1, .int .i64 y2, .int .i64 y3, .int .i64 y4, .int .i64 y5, .int .i64 y6, .int .u32 (h : Nat), c1, c2, c3, c4, c5, .slice (some ⟨rg, 0, none⟩) ring.length rc, .int .i64 (pos : Nat), .int .i64 (len : Nat)]] w fun e w' =>
      e = .returned (.int .i64 (u.foretold C bits)) ∧ Below w.heap.size w w' := by
  obtain ⟨a1, n1, x1, rfl⟩ := hv1
  obtain ⟨a2, n2, x2, rfl⟩ := hv2
  obtain ⟨a3, n3, x3, rfl⟩ := hv3
  obtain ⟨a4, n4, x4, rfl⟩ := hv4
  obtain ⟨a5, n5, x5, rfl⟩ := hv5
  obtain ⟨e, he⟩ : ∃ e, ring.getD pos 0 = e := ⟨_, rfl⟩
  rw [he] at hin
  obtain ⟨g2, xc, ev, hle, cell⟩ := tab_at hr pos hpos (bn 0)
  injection ev with e1 e2 e3
  injection e1 with e1
  injection e1 with e1
  subst e1 e3
  rw [bn_get, he] at cell
  have T := hid cell
  have hposz : (pos : Int) < (ring.length : Int) := by omega
  obtain ⟨pw8, hp8⟩ : ∃ p, 2 ^ (8 - bits) = p := ⟨_, rfl⟩
  obtain ⟨pw7, hp7⟩ : ∃ p, 2 ^ (7 - bits) = p := ⟨_, rfl⟩
  have h81 : 1 ≤ pw8 := by rw [← hp8]; exact Nat.one_le_two_pow
  have h71 : 1 ≤ pw7 := by rw [← hp7]; exact Nat.one_le_two_pow
  have HP8 := hid (fun w => r_power (8 - bits) (by omega) w)
  have HP7 := hid (fun w => r_power (7 - bits) (by omega) w)
  rw [hp8] at HP8
  rw [hp7] at HP7
  obtain ⟨b8, hb8⟩ : ∃ b8 : Nat, 8 - bits = b8 := ⟨_, rfl⟩
  obtain ⟨b7, hb7⟩ : ∃ b7 : Nat, 7 - bits = b7 := ⟨_, rfl⟩
  rw [hb8] at HP8
  rw [hb7] at HP7
  have w8 : (8 : Int) - (bits : Int) = (b8 : Int) := by omega
  have w7 : (7 : Int) - (bits : Int) = (b7 : Int) := by omega
  obtain ⟨d8, hd8⟩ : ∃ d, (e + 256) / pw8 = d := ⟨_, rfl⟩
  obtain ⟨d7, hd7⟩ : ∃ d, e / pw7 = d := ⟨_, rfl⟩
  have z8 : ((e : Int) + 256).tdiv (pw8 : Int) = (d8 : Int) := by rw [Int.tdiv_eq_ediv_of_nonneg (by omega), ← hd8, Int.natCast_ediv]; rfl
  have z8' : ((e : Int) + 256) / (pw8 : Int) = (d8 : Int) := by rw [← hd8, Int.natCast_ediv]; rfl
  have z7 : (e : Int).tdiv (pw7 : Int) = (d7 : Int) := by rw [Int.tdiv_eq_ediv_of_nonneg (by omega), ← hd7, Int.natCast_ediv]
  have z7' : (e : Int) / (pw7 : Int) = (d7 : Int) := by rw [← hd7, Int.natCast_ediv]
  have hd8l : d8 ≤ 511 := by rw [← hd8]; exact Nat.le_trans (Nat.div_le_self _ _) (by omega)
  have hd7l : d7 ≤ 255 := by rw [← hd7]; exact Nat.le_trans (Nat.div_le_self _ _) (by omega)
  obtain ⟨m, hm⟩ : ∃ m : Nat, min len 15 = m := ⟨_, rfl⟩
  have HN := hid (fun w => r_into (len : Int) 0 15 w)
  rw [into_min, hm] at HN
  have hml : m ≤ 15 := by omega
  have hres : u.foretold C bits = (if len = 0 then 0 else if C ≠ d8 then 0 else if d7 % 2 = 0 then -((m * 64 : Nat) : Int) else ((m * 64 : Nat) : Int)) := by
    unfold Un.foretold
    rw [hu.1, hu.2.1, hu.2.2, he, hp8, hp7, hd8, hd7, hm]
  rw [hres]
  obtain ⟨rr, hrr⟩ : ∃ rr, (if len = 0 then 0 else if C ≠ d8 then 0 else if d7 % 2 = 0 then -((m * 64 : Nat) : Int) else ((m * 64 : Nat) : Int)) = rr := ⟨_, rfl⟩
  rw [hrr]
  have HR := hid hrr
  have p80 : ¬ ((pw8 : Int) = 0) := by omega
  have p70 : ¬ ((pw7 : Int) = 0) := by omega
  have B1 := hid ((Below.refl _ w).alloc (Nat.le_refl _) (.cells #[.int .u8 y0, .int .i64 y1, .int .i64 y2, .int .i64 y3, .int .i64 y4, .int .i64 y5, .int .i64 y6, .int .u32 (h : Nat), .slice a1 n1 x1, .slice a2 n2 x2, .slice a3 n3 x3, .slice a4 n4 x4, .slice a5 n5 x5, .slice (some ⟨rg, 0, none⟩) ring.length rc, .int .i64 (pos : Nat), .int .i64 (len : Nat)] 65))
  have HBB := hid (hb.below B1.out)
  have HNW := hid (heap_alloc_new w (.cells #[.int .u8 y0, .int .i64 y1, .int .i64 y2, .int .i64 y3, .int .i64 y4, .int .i64 y5, .int .i64 y6, .int .u32 (h : Nat), .slice a1 n1 x1, .slice a2 n2 x2, .slice a3 n3 x3, .slice a4 n4 x4, .slice a5 n5 x5, .slice (some ⟨rg, 0, none⟩) ring.length rc, .int .i64 (pos : Nat), .int .i64 (len : Nat)] 65))
  have hmz : (m : Int) ≤ 15 := by omega
  have hd7z : (d7 : Int) ≤ 255 := by omega
  have hez : (e : Int) ≤ 255 := by omega
  clear hb hr hp8 hp7 hb8 hb7 hd8 hd7 he hm h81 h71 hu hres cell hrr
  go_enter Tryz.func62, Tryz.ntmps62
  go_upto_region 1 with fail
  have k7 := row_cell HNW.out 13
  have k14 := row_cell HNW.out 14
  have k15 := row_cell HNW.out 15
  have cr : (w.alloc (.cells #[.int .u8 y0, .int .i64 y1, .int .i64 y2, .int .i64 y3, .int .i64 y4, .int .i64 y5, .int .i64 y6, .int .u32 (h : Nat), .slice a1 n1 x1, .slice a2 n2 x2, .slice a3 n3 x3, .slice a4 n4 x4, .slice a5 n5 x5, .slice (some ⟨rg, 0, none⟩) ring.length rc, .int .i64 (pos : Nat), .int .i64 (len : Nat)] 65)).cell? ⟨rg, pos, none⟩ = some (.int .u8 (e : Int)) := keeps B1.out T.out
  have qc := HBB.out.c
  have qb := HBB.out.bits
  generalize w.alloc (.cells #[.int .u8 y0, .int .i64 y1, .int .i64 y2, .int .i64 y3, .int .i64 y4, .int .i64 y5, .int .i64 y6, .int .u32 (h : Nat), .slice a1 n1 x1, .slice a2 n2 x2, .slice a3 n3 x3, .slice a4 n4 x4, .slice a5 n5 x5, .slice (some ⟨rg, 0, none⟩) ring.length rc, .int .i64 (pos : Nat), .int .i64 (len : Nat)] 65) = W at *
  by_cases h0 : len = 0
  · subst h0
    go_wp2_with fail
    go_ret
    exact ⟨ret_i64 (by rw [← HR.out]; simp), B1.out⟩
  have h0b : ((len : Int) == 0) = false := by simpa using h0
  have H0 := hid h0
  clear h0
  have HP8q := still HP8.out W
  by_cases h8 : C ≠ d8
  · have h8b : ((C : Int) != (d8 : Int)) = true := by simp only [bne_iff_ne, ne_eq]; omega
    have H8 := hid h8
    clear h8
    go_wp2_with fail
    go_quiet (with_reducible exact HP8q.out _)
    go_wp2_with fail
    go_ret
    exact ⟨ret_i64 (by rw [← HR.out, if_neg H0.out, if_pos H8.out]), below_drewN B1.out _⟩
  have h8b : ((C : Int) != (d8 : Int)) = false := by simp only [bne_eq_false_iff_eq]; omega
  have H8 := hid h8
  clear h8
  by_cases h7 : d7 % 2 = 0
  · have H7 := hid h7
    have h7b : ((d7 : Int) % 2 == 0) = true := by simp only [beq_iff_eq]; omega
    clear h7
    go_wp2_with fail
    go_quiet (with_reducible exact HP8q.out _)
    go_wp2_with (first
      | (go_at_call 59; (with_reducible refine (HN.out _).mono ?_); rintro rj wj ⟨rfl, ej⟩; rw [ej]; clear ej wj)
      | (go_at_call 54; (with_reducible refine (HP7.out _).mono ?_); rintro rj wj ⟨rfl, ej⟩; rw [ej]; clear ej wj))
    go_ret
    exact ⟨ret_i64 (by rw [← HR.out, if_neg H0.out, if_neg H8.out, if_pos H7.out]; omega), below_drewN B1.out _⟩
  · have H7 := hid h7
    have h7b : ((d7 : Int) % 2 == 0) = false := by simp only [beq_eq_false_iff_ne, ne_eq]; omega
    clear h7
    go_wp2_with fail
    go_quiet (with_reducible exact HP8q.out _)
    go_wp2_with (first
      | (go_at_call 59; (with_reducible refine (HN.out _).mono ?_); rintro rj wj ⟨rfl, ej⟩; rw [ej]; clear ej wj)
      | (go_at_call 54; (with_reducible refine (HP7.out _).mono ?_); rintro rj wj ⟨rfl, ej⟩; rw [ej]; clear ej wj))
    go_ret
    exact ⟨ret_i64 (by rw [← HR.out, if_neg H0.out, if_neg H8.out, if_neg H7.out]; omega), below_drewN B1.out _⟩
end Go.Proofs.YtkfdbibgjoaefaaGreatDoor
