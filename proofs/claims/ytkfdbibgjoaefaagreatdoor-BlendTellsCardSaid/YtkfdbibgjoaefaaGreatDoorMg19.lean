/-
  Merged: Rz.
-/
import Derived.Test.YtkfdbibgjoaefaaGreatDoorMg17
import Derived.Test.YtkfdbibgjoaefaaGreatDoorMg18
/-
  The document's blend: a byte's end of any unit; a match that is looked for (written by tools/stage12/gen_rz.py).
-/
namespace Go.Proofs.YtkfdbibgjoaefaaGreatDoor
open Go.RowKit
set_option linter.unusedVariables false
set_option linter.unusedSimpArgs false

theorem whole_any (r g N cap o C bits whole : Nat) (u : Un) (V : Vs) (B : Nat) (w : World) (hb : RB w r g N cap C bits whole) (hc : RC w g o u V) (ht : RT w B u V) (hs : Sep V g) (sz : Nat) (hsz : u.p.size = (sz : Int)) (hs16 : sz ≤ 16) (hC : C ≤ 511) (hw : whole ≤ 1000000000) (hok : u.ok whole) (hrg : r ≠ g) (hgf : ∀ k, w.frozen? ⟨g, k, none⟩ = false) (hkr : 1 ≤ u.p.kind ∧ u.p.kind ≤ 9) :
    Calls Tryz.prog 36 #[.pointer (some ⟨r, 0, none⟩), .pointer (some ⟨g, o, none⟩)] w (WholeIn w g o (u.whole C whole) V B) := by
  by_cases hk : u.p.kind = 4
  · by_cases hl : u.len = 0
    · exact whole_4a r g N cap o C bits whole u V B w hb hc ht hs sz hsz hs16 hC hw hok hrg hgf hk hl
    by_cases he : u.ring.getD u.pos 0 = C % 256
    · exact whole_4c r g N cap o C bits whole u V B w hb hc ht hs sz hsz hs16 hC hw hok hrg hgf hk (by omega) he
    · exact whole_4b r g N cap o C bits whole u V B w hb hc ht hs sz hsz hs16 hC hw hok hrg hgf hk (by omega) he
  · exact whole_no r g o C whole u V B w hc ht hkr hk
theorem Wh.put_n {w W : World} {g o gt i : Nat} {u : Un} {V : Vs} {B : Nat} (h : Wh w W g o u V B) (hs : Sep V g) (hv : V.n.a = some ⟨gt, 0, none⟩) (hi : i < u.number.length) (x : Nat) :
    Wh w (W.setCell ⟨gt, i, none⟩ (nv x)) g o { u with number := u.number.set i x } V B := by
  have L := (Lrn.start h.c h.t).put_n hs hv hi x
  have hb : V.n.b = some gt := by unfold Sw.b; rw [hv]; rfl
  refine ⟨L.c, L.t, h.b.set _ _ (.inl (.inl (.inr (.inr (.inr (.inr (.inl hb))))))), fun p hp h1 h2 y hy => oth (h.k p hp h1 h2 y hy) (fun e => hs.gn ?_), fun j hj => by rw [World.frozen?_setCell]; exact h.f j hj⟩
  rw [hb, show gt = p.block from congrArg Addr.block e, hp]

set_option maxRecDepth 10000 in
set_option maxHeartbeats 8000000 in
theorem find_no (r g N cap o C bits whole : Nat) (u : Un) (V : Vs) (B : Nat) (w : World) (hb : RB w r g N cap C bits whole) (hc : RC w g o u V) (ht : RT w B u V) (hs : Sep V g) (sz : Nat) (hsz : u.p.size = (sz : Int)) (hs16 : sz ≤ 16) (hh : u.h < 4294967296) (hw : whole ≤ 1000000000) (hok : u.ok whole) (hrg : r ≠ g) (hgf : ∀ k, w.frozen? ⟨g, k, none⟩ = false) (hk : u.p.kind = 4) (hn : ¬ (u.len = 0 ∧ u.number.getD (placeN u.h 1 u.p.size) 0 ≠ 0)) :
    Calls Tryz.prog 32 #[.pointer (some ⟨r, 0, none⟩), .pointer (some ⟨g, o, none⟩)] w (WholeIn w g o (u.find whole) V B) := by
  have hok2 := hok
  unfold Un.ok at hok2
  simp [hk] at hok2
  obtain ⟨o1, o2, o3, o4, o5, o6⟩ := hok2
  obtain ⟨pn, hpn⟩ : ∃ pn, 2 ^ sz = pn := ⟨_, rfl⟩
  have epw : pw u.p.size = pn := by unfold pw; rw [hsz, ← hpn]; rfl
  have hpn1 : 1 ≤ pn := by rw [← hpn]; exact Nat.one_le_two_pow
  have hpn2 : pn ≤ 65536 := by rw [← hpn]; exact Nat.pow_le_pow_right (n := 2) (by decide) hs16
  have HPW := hid (fun w => r_power sz (by omega) w)
  rw [hpn] at HPW
  have HP : Hid (∀ w, Calls Tryz.prog 56 #[.int .u32 (u.h : Int), .int .i64 1, .int .i64 (sz : Int)] w fun e w' => e = .returned (.int .i64 (placeN u.h 1 (sz : Int) : Nat)) ∧ w' = w) := hid (fun w => r_place u.h 1 sz hh (by omega) hs16 w)
  obtain ⟨pl, hpl⟩ : ∃ pl, placeN u.h 1 (sz : Int) = pl := ⟨_, rfl⟩
  have hplt : pl < pw u.p.size := by rw [← hpl, hsz]; exact placeN_lt _ _ _ (by omega) (by omega)
  rw [hpl] at HP
  rw [epw] at o1 o2 o5 hplt
  have H := hid (Wh.start hc ht)
  have p1 := hc.p1
  rw [hsz] at p1
  have ph := hc.h
  have b3 := hb.whole
  have q14 := hc.pos
  have q15 := hc.len
  have q13 := hc.r
  have q12 := hc.n
  obtain ⟨gr, hgr, nr⟩ := ht.has_r (i := u.pos) (by omega)
  rw [hgr, nr] at q13
  have hpl2 : pl < u.number.length := by omega
  obtain ⟨gn, hgn, nn⟩ := ht.has_n hpl2
  rw [hgn, nn] at q12
  obtain ⟨cp, fp⟩ := ht.at_n hgn hpl2
  obtain ⟨q, hq⟩ : ∃ x, u.number.getD pl 0 = x := ⟨_, rfl⟩
  have hqr : q ≤ whole := by rw [← hq]; exact o4 _
  rw [hq] at cp
  replace cp : w.cell? ⟨gn, pl, none⟩ = some (.int .i64 (q : Nat)) := cp
  have hplz : (pl : Int) < (u.number.length : Int) := by omega
  have hpn0 : ((pn : Int) == 0) = false := by simp only [beq_eq_false_iff_ne, ne_eq]; omega
  have hpn00 : ¬ pn = 0 := by omega
  have HPq := still HP.out w
  clear hc ht hok
  go_enter Tryz.func32, Tryz.ntmps32
  go_upto_region 1 with (go_at_call 54; (with_reducible refine (HPW.out _).mono ?_); rintro rj wj ⟨rfl, ej⟩; rw [ej]; clear ej wj)
  go_quiet (with_reducible exact HPq.out _)
  have H1 := hid (H.out.on (below_drewN (Below.refl _ w) nq))
  replace b3 : (w.drewN nq).cell? ⟨r, 3, none⟩ = some (.int .i64 (whole : Nat)) := b3
  replace q15 : (w.drewN nq).cell? ⟨g, o + 15, none⟩ = some (.int .i64 (u.len : Nat)) := q15
  replace q14 : (w.drewN nq).cell? ⟨g, o + 14, none⟩ = some (.int .i64 (u.pos : Nat)) := q14
  replace q12 : (w.drewN nq).cell? ⟨g, o + 12, none⟩ = some (.slice (some ⟨gn, 0, none⟩) u.number.length V.n.c) := q12
  replace cp : (w.drewN nq).cell? ⟨gn, pl, none⟩ = some (.int .i64 (q : Nat)) := cp
  have hgf1 : ∀ k, (w.drewN nq).frozen? ⟨g, k, none⟩ = false := hgf
  clear HPq H fp p1 ph q13
  generalize w.drewN nq = W1 at *
  have hres : u.find whole = { u with number := u.number.set pl whole } := by
    unfold Un.find
    dsimp only
    rw [if_neg hn, if_neg hn, hsz, hpl]
  rw [hres]
  rw [hsz, hpl, hq] at hn
  have HW := H1
  by_cases hl : u.len = 0
  · have hq0 : q = 0 := by omega
    have e1 : ((u.len : Int) == 0) = true := by simp only [beq_iff_eq]; omega
    have e2 : ((q : Int) != 0) = false := by simp only [bne_eq_false_iff_eq]; omega
    go_upto_region 7 with fail
    clear q15 q14 q12 cp e1 e2
    have q12 := HW.out.c.n
    rw [hgn, nn] at q12
    obtain ⟨ci, fi⟩ := HW.out.t.at_n hgn hpl2
    have HV := hid hgn
    clear hgn nn
    go_still_tail 10, (by kernel_rfl)
    change wpList _ _ _ _ _ W1.drew
    replace fi : W1.drew.frozen? ⟨gn, pl, none⟩ = false := fi
    have ci : ∃ x, W1.drew.cell? ⟨gn, pl, none⟩ = some x := ⟨_, ci⟩
    obtain ⟨xi, ci⟩ := ci
    go_wp2_with fail
    go_end0
    first | exact ⟨rfl, (HW.out.put_n hs HV.out hpl2 whole).drew⟩ | (rw [hres]; exact ⟨rfl, (HW.out.put_n hs HV.out hpl2 whole).drew⟩)
  · have e1 : ((u.len : Int) == 0) = false := by simp only [beq_eq_false_iff_ne, ne_eq]; omega
    go_upto_region 7 with fail
    clear q15 q14 q12 cp e1
    have q12 := HW.out.c.n
    rw [hgn, nn] at q12
    obtain ⟨ci, fi⟩ := HW.out.t.at_n hgn hpl2
    have HV := hid hgn
    clear hgn nn
    go_still_tail 10, (by kernel_rfl)
    change wpList _ _ _ _ _ W1.drew
    replace fi : W1.drew.frozen? ⟨gn, pl, none⟩ = false := fi
    have ci : ∃ x, W1.drew.cell? ⟨gn, pl, none⟩ = some x := ⟨_, ci⟩
    obtain ⟨xi, ci⟩ := ci
    go_wp2_with fail
    go_end0
    first | exact ⟨rfl, (HW.out.put_n hs HV.out hpl2 whole).drew⟩ | (rw [hres]; exact ⟨rfl, (HW.out.put_n hs HV.out hpl2 whole).drew⟩)

set_option maxRecDepth 10000 in
set_option maxHeartbeats 8000000 in
theorem find_yes (r g N cap o C bits whole : Nat) (u : Un) (V : Vs) (B : Nat) (w : World) (hb : RB w r g N cap C bits whole) (hc : RC w g o u V) (ht : RT w B u V) (hs : Sep V g) (sz : Nat) (hsz : u.p.size = (sz : Int)) (hs16 : sz ≤ 16) (hh : u.h < 4294967296) (hw : whole ≤ 1000000000) (hok : u.ok whole) (hrg : r ≠ g) (hgf : ∀ k, w.frozen? ⟨g, k, none⟩ = false) (hk : u.p.kind = 4) (hn : u.len = 0 ∧ u.number.getD (placeN u.h 1 u.p.size) 0 ≠ 0) :
    Calls Tryz.prog 32 #[.pointer (some ⟨r, 0, none⟩), .pointer (some ⟨g, o, none⟩)] w (WholeIn w g o (u.find whole) V B) := by
  have hok2 := hok
  unfold Un.ok at hok2
  simp [hk] at hok2
  obtain ⟨o1, o2, o3, o4, o5, o6⟩ := hok2
  obtain ⟨pn, hpn⟩ : ∃ pn, 2 ^ sz = pn := ⟨_, rfl⟩
  have epw : pw u.p.size = pn := by unfold pw; rw [hsz, ← hpn]; rfl
  have hpn1 : 1 ≤ pn := by rw [← hpn]; exact Nat.one_le_two_pow
  have hpn2 : pn ≤ 65536 := by rw [← hpn]; exact Nat.pow_le_pow_right (n := 2) (by decide) hs16
  have HPW := hid (fun w => r_power sz (by omega) w)
  rw [hpn] at HPW
  have HP : Hid (∀ w, Calls Tryz.prog 56 #[.int .u32 (u.h : Int), .int .i64 1, .int .i64 (sz : Int)] w fun e w' => e = .returned (.int .i64 (placeN u.h 1 (sz : Int) : Nat)) ∧ w' = w) := hid (fun w => r_place u.h 1 sz hh (by omega) hs16 w)
  obtain ⟨pl, hpl⟩ : ∃ pl, placeN u.h 1 (sz : Int) = pl := ⟨_, rfl⟩
  have hplt : pl < pw u.p.size := by rw [← hpl, hsz]; exact placeN_lt _ _ _ (by omega) (by omega)
  rw [hpl] at HP
  rw [epw] at o1 o2 o5 hplt
  have H := hid (Wh.start hc ht)
  have p1 := hc.p1
  rw [hsz] at p1
  have ph := hc.h
  have b3 := hb.whole
  have q14 := hc.pos
  have q15 := hc.len
  have q13 := hc.r
  have q12 := hc.n
  obtain ⟨gr, hgr, nr⟩ := ht.has_r (i := u.pos) (by omega)
  rw [hgr, nr] at q13
  have hpl2 : pl < u.number.length := by omega
  obtain ⟨gn, hgn, nn⟩ := ht.has_n hpl2
  rw [hgn, nn] at q12
  obtain ⟨cp, fp⟩ := ht.at_n hgn hpl2
  obtain ⟨q, hq⟩ : ∃ x, u.number.getD pl 0 = x := ⟨_, rfl⟩
  have hqr : q ≤ whole := by rw [← hq]; exact o4 _
  rw [hq] at cp
  replace cp : w.cell? ⟨gn, pl, none⟩ = some (.int .i64 (q : Nat)) := cp
  have hplz : (pl : Int) < (u.number.length : Int) := by omega
  have hpn0 : ((pn : Int) == 0) = false := by simp only [beq_eq_false_iff_ne, ne_eq]; omega
  have hpn00 : ¬ pn = 0 := by omega
  have HPq := still HP.out w
  clear hc ht hok
  go_enter Tryz.func32, Tryz.ntmps32
  go_upto_region 1 with (go_at_call 54; (with_reducible refine (HPW.out _).mono ?_); rintro rj wj ⟨rfl, ej⟩; rw [ej]; clear ej wj)
  go_quiet (with_reducible exact HPq.out _)
  have H1 := hid (H.out.on (below_drewN (Below.refl _ w) nq))
  replace b3 : (w.drewN nq).cell? ⟨r, 3, none⟩ = some (.int .i64 (whole : Nat)) := b3
  replace q15 : (w.drewN nq).cell? ⟨g, o + 15, none⟩ = some (.int .i64 (u.len : Nat)) := q15
  replace q14 : (w.drewN nq).cell? ⟨g, o + 14, none⟩ = some (.int .i64 (u.pos : Nat)) := q14
  replace q12 : (w.drewN nq).cell? ⟨g, o + 12, none⟩ = some (.slice (some ⟨gn, 0, none⟩) u.number.length V.n.c) := q12
  replace cp : (w.drewN nq).cell? ⟨gn, pl, none⟩ = some (.int .i64 (q : Nat)) := cp
  have hgf1 : ∀ k, (w.drewN nq).frozen? ⟨g, k, none⟩ = false := hgf
  clear HPq H fp p1 ph q13
  generalize w.drewN nq = W1 at *
  obtain ⟨K, hK⟩ : ∃ K, mlen u.ring pn q whole 32 0 = K := ⟨_, rfl⟩
  have hres : u.find whole = { u with len := K, pos := q % pn, number := u.number.set pl whole } := by
    unfold Un.find
    dsimp only
    rw [if_pos hn, if_pos hn, hsz, hpl, hq, ← hK]
    rw [hsz] at epw
    rw [epw]
  rw [hres]
  rw [hsz, hpl, hq] at hn
  obtain ⟨hl, hq0⟩ := hn
  have e1 : ((u.len : Int) == 0) = true := by simp only [beq_iff_eq]; omega
  have e2 : ((q : Int) != 0) = true := by simp only [bne_iff_ne, ne_eq]; omega
  obtain ⟨ps, hps⟩ : ∃ x, q % pn = x := ⟨_, rfl⟩
  have eps : (q : Int).tmod (pn : Int) = (ps : Int) := by rw [Int.tmod_eq_emod_of_nonneg (by omega), ← hps, Int.natCast_emod]
  have eps2 : (q : Int) % (pn : Int) = (ps : Int) := by rw [← hps, Int.natCast_emod]
  have hpsr : ps < pn := by rw [← hps]; exact Nat.mod_lt _ (by omega)
  rw [hps]
  have V3 := wr_in (ps : Int) (by omega)
  have v3 := V3.out
  have f14 : W1.frozen? ⟨g, o + 14, none⟩ = false := hgf1 _
  have H2 := hid ((H1.out.put_pos hs ps).on (Below.refl _ _))
  have hgf2 : Hid (∀ k, (W1.setCell ⟨g, o + 14, none⟩ (.int .i64 (ps : Nat))).frozen? ⟨g, k, none⟩ = false) := hid (fun k => by rw [World.frozen?_setCell]; exact hgf1 k)
  have b4 : Hid ((W1.setCell ⟨g, o + 14, none⟩ (.int .i64 (ps : Nat))).cell? ⟨r, 3, none⟩ = some (.int .i64 (whole : Nat))) := hid (oth b3 (fun e => hrg (congrArg Addr.block e).symm))
  go_upto_region 5 with fail
  clear q15 q14 q12 cp e1 e2 v3 f14 H1 hgf1 b3
  generalize W1.setCell ⟨g, o + 14, none⟩ (.int .i64 (ps : Nat)) = W2 at *
  go_loopw [] (fun wr => ∃ k : Nat, k ≤ 32 ∧ Hid (Wh w wr g o { ({ u with len := k } : Un) with pos := ps } V B) ∧ Hid (∀ j, wr.frozen? ⟨g, j, none⟩ = false) ∧ Hid (wr.cell? ⟨r, 3, none⟩ = some (.int .i64 (whole : Nat))) ∧ Hid (mlen u.ring pn q whole (32 - k) k = K)) (fun wr => 32 - (intOf ((wr.cell? ⟨g, o + 15, none⟩).getD undef)).toNat)
  case atStart => exact ⟨0, by omega, hid (by
    have := H2.out
    rw [show ({ ({ u with len := 0 } : Un) with pos := ps } : Un) = { u with pos := ps } by rw [← hl]]
    exact this), hgf2, b4, hid hK⟩
  case round =>
    obtain ⟨k, hk32, HW, HF, HB, HM⟩ := hrel
    clear H2 hgf2 b4
    have q15 := HW.out.c.len
    have hme : (intOf ((wr.cell? ⟨g, o + 15, none⟩).getD undef)).toNat = k := by rw [q15]; simp [intOf]
    have q13 := HW.out.c.r
    rw [hgr, nr] at q13
    have b3 := HB.out
    dsimp only at q15
    by_cases hgo : k < 32 ∧ k < q
    · obtain ⟨h32, hkq⟩ := hgo
      obtain ⟨d, hd⟩ : ∃ d : Nat, q - k = d := ⟨_, rfl⟩
      obtain ⟨d2, hd2⟩ : ∃ d2 : Nat, q - k - 1 = d2 := ⟨_, rfl⟩
      obtain ⟨c, hcc⟩ : ∃ d : Nat, whole - k = d := ⟨_, rfl⟩
      obtain ⟨c2, hc2⟩ : ∃ d2 : Nat, whole - k - 1 = d2 := ⟨_, rfl⟩
      have x1 : IntKind.i64.wrap ((q : Int) - (k : Int)) = (d : Int) := by rw [(wr_in ((q : Int) - (k : Int)) (by omega)).out]; omega
      have x2 : IntKind.i64.wrap ((d : Int) - 1) = (d2 : Int) := by rw [(wr_in ((d : Int) - 1) (by omega)).out]; omega
      have x3 : IntKind.i64.wrap ((whole : Int) - (k : Int)) = (c : Int) := by rw [(wr_in ((whole : Int) - (k : Int)) (by omega)).out]; omega
      have x4 : IntKind.i64.wrap ((c : Int) - 1) = (c2 : Int) := by rw [(wr_in ((c : Int) - 1) (by omega)).out]; omega
      obtain ⟨ia, hia⟩ : ∃ x, d2 % pn = x := ⟨_, rfl⟩
      obtain ⟨ib, hib⟩ : ∃ x, c2 % pn = x := ⟨_, rfl⟩
      have ial : ia < pn := by rw [← hia]; exact Nat.mod_lt _ (by omega)
      have ibl : ib < pn := by rw [← hib]; exact Nat.mod_lt _ (by omega)
      have ya : (d2 : Int).tmod (pn : Int) = (ia : Int) := by rw [Int.tmod_eq_emod_of_nonneg (by omega), ← hia, Int.natCast_emod]
      have yb : (c2 : Int).tmod (pn : Int) = (ib : Int) := by rw [Int.tmod_eq_emod_of_nonneg (by omega), ← hib, Int.natCast_emod]
      have ya2 : (d2 : Int) % (pn : Int) = (ia : Int) := by rw [← hia, Int.natCast_emod]
      have yb2 : (c2 : Int) % (pn : Int) = (ib : Int) := by rw [← hib, Int.natCast_emod]
      have za := (wr_in (ia : Int) (by omega)).out
      have zb := (wr_in (ib : Int) (by omega)).out
      have ial2 : (ia : Int) < (u.ring.length : Int) := by omega
      have ibl2 : (ib : Int) < (u.ring.length : Int) := by omega
      obtain ⟨ca, _⟩ := HW.out.t.at_r (i := ia) hgr (by show ia < u.ring.length; omega)
      obtain ⟨cb, _⟩ := HW.out.t.at_r (i := ib) hgr (by show ib < u.ring.length; omega)
      replace ca : wr.cell? ⟨gr, ia, none⟩ = some (.int .u8 (u.ring.getD ia 0 : Nat)) := ca
      replace cb : wr.cell? ⟨gr, ib, none⟩ = some (.int .u8 (u.ring.getD ib 0 : Nat)) := cb
      have hstep : mlen u.ring pn q whole (32 - k) k = if u.ring.getD ia 0 = u.ring.getD ib 0 then mlen u.ring pn q whole (32 - (k + 1)) (k + 1) else k := by
        rw [show 32 - k = (32 - (k + 1)) + 1 by omega]
        conv => lhs; unfold mlen
        rw [hd2, hia, hc2, hib]
        by_cases h : u.ring.getD ia 0 = u.ring.getD ib 0
        · rw [if_pos ⟨hkq, h⟩, if_pos h]
        · rw [if_neg (fun x => h x.2), if_neg h]
      rw [HM.out] at hstep
      generalize u.ring.getD ia 0 = ra at *
      generalize u.ring.getD ib 0 = rb at *
      have l1 : decide ((k : Int) < 32) = true := decide_eq_true (by omega)
      have l2 : decide ((k : Int) < (q : Int)) = true := decide_eq_true (by omega)
      have l1b : (k : Int) < 32 := by omega
      have l2b : (k : Int) < (q : Int) := by omega
      have l1c : k < 32 := h32
      have l2c : k < q := hkq
      clear hia hib hd hd2 hcc hc2 ial ibl HM
      by_cases heq : ra = rb
      · rw [if_pos heq] at hstep
        have e5 : ((ra : Int) == (rb : Int)) = true := by simp only [beq_iff_eq]; omega
        have v5 := (wr_in ((k : Int) + 1) (by omega)).out
        go_upto_region 5 with fail
        go_quiet (fail)
        have HW2 := hid ((HW.out.on (below_drewN (Below.refl _ wr) nq)).put_len hs (k + 1))
        have HB2 : Hid (((wr.drewN nq).setCell ⟨g, o + 15, none⟩ (.int .i64 ((k + 1 : Nat) : Int))).cell? ⟨r, 3, none⟩ = some (.int .i64 (whole : Nat))) := hid (oth (W := wr.drewN nq) HB.out (fun e => hrg (congrArg Addr.block e).symm))
        have HF2 : Hid (∀ j, ((wr.drewN nq).setCell ⟨g, o + 15, none⟩ (.int .i64 ((k + 1 : Nat) : Int))).frozen? ⟨g, j, none⟩ = false) := hid (fun j => by rw [World.frozen?_setCell]; exact HF.out j)
        have q5 : (wr.drewN nq).cell? ⟨g, o + 15, none⟩ = some (.int .i64 (k : Nat)) := q15
        have f5 : (wr.drewN nq).frozen? ⟨g, o + 15, none⟩ = false := HF.out _
        have hm2 : (intOf ((((wr.drewN nq).setCell ⟨g, o + 15, none⟩ (.int .i64 ((k + 1 : Nat) : Int))).cell? ⟨g, o + 15, none⟩).getD undef)).toNat = k + 1 := by rw [HW2.out.c.len]; simp [intOf]
        clear q15 q13 b3 ca cb x1 x2 x3 x4 ya yb ya2 yb2 za zb e5
        have ek : ((k + 1 : Nat) : Int) = (k : Int) + 1 := by omega
        rw [ek] at hm2 HW2 HB2 HF2
        go_wp2_with fail
        go_roundw
        case rel => exact ⟨k + 1, by omega, HW2, HF2, HB2, hid hstep.symm⟩
        case measure => rw [hme, hm2]; omega
      · rw [if_neg heq] at hstep
        subst hstep
        have e5 : ((ra : Int) == (rb : Int)) = false := by simp only [beq_eq_false_iff_ne, ne_eq]; omega
        go_upto_region 5 with fail
        go_quiet (fail)
        replace HW := hid (HW.out.on (below_drewN (Below.refl _ wr) nq))
        replace b3 : (wr.drewN nq).cell? ⟨r, 3, none⟩ = some (.int .i64 (whole : Nat)) := b3
        clear q15 q13 ca cb x1 x2 x3 x4 ya yb ya2 yb2 za zb e5 hme HB HF
        generalize wr.drewN nq = W1 at *
        go_upto_region 7 with fail
        have q12 := HW.out.c.n
        rw [hgn, nn] at q12
        obtain ⟨ci, fi⟩ := HW.out.t.at_n hgn hpl2
        have HV := hid hgn
        clear hgn nn
        go_still_tail 10, (by kernel_rfl)
        change wpList _ _ _ _ _ W1.drew
        replace fi : W1.drew.frozen? ⟨gn, pl, none⟩ = false := fi
        have ci : ∃ x, W1.drew.cell? ⟨gn, pl, none⟩ = some x := ⟨_, ci⟩
        obtain ⟨xi, ci⟩ := ci
        go_wp2_with fail
        go_end0
        first | exact ⟨rfl, (HW.out.put_n hs HV.out hpl2 whole).drew⟩ | (rw [hres]; exact ⟨rfl, (HW.out.put_n hs HV.out hpl2 whole).drew⟩)
    · have hKk : K = k := by
        rw [← HM.out]
        by_cases h32 : k < 32
        · rw [show 32 - k = (32 - (k + 1)) + 1 by omega]
          unfold mlen
          rw [if_neg (fun x => hgo ⟨h32, x.1⟩)]
        · rw [show 32 - k = 0 by omega]
          rfl
      subst hKk
      replace b3 : wr.cell? ⟨r, 3, none⟩ = some (.int .i64 (whole : Nat)) := b3
      clear HM
      by_cases h32 : K < 32
      · have l1 : decide ((K : Int) < 32) = true := decide_eq_true (by omega)
        have l2 : decide ((K : Int) < (q : Int)) = false := decide_eq_false (by omega)
        have l1b : (K : Int) < 32 := by omega
        have l2b : ¬ (K : Int) < (q : Int) := by omega
        have l2c : ¬ K < q := by omega
        go_upto_region 5 with fail
        go_quiet (fail)
        replace HW := hid (HW.out.on (below_drewN (Below.refl _ wr) nq))
        replace b3 : (wr.drewN nq).cell? ⟨r, 3, none⟩ = some (.int .i64 (whole : Nat)) := b3
        clear q15 q13 hme HB HF
        generalize wr.drewN nq = W1 at *
        go_upto_region 7 with fail
        have q12 := HW.out.c.n
        rw [hgn, nn] at q12
        obtain ⟨ci, fi⟩ := HW.out.t.at_n hgn hpl2
        have HV := hid hgn
        clear hgn nn
        go_still_tail 10, (by kernel_rfl)
        change wpList _ _ _ _ _ W1.drew
        replace fi : W1.drew.frozen? ⟨gn, pl, none⟩ = false := fi
        have ci : ∃ x, W1.drew.cell? ⟨gn, pl, none⟩ = some x := ⟨_, ci⟩
        obtain ⟨xi, ci⟩ := ci
        go_wp2_with fail
        go_end0
        first | exact ⟨rfl, (HW.out.put_n hs HV.out hpl2 whole).drew⟩ | (rw [hres]; exact ⟨rfl, (HW.out.put_n hs HV.out hpl2 whole).drew⟩)
      · have l1 : decide ((K : Int) < 32) = false := decide_eq_false (by omega)
        have l1b : ¬ (K : Int) < 32 := by omega
        go_upto_region 5 with fail
        go_quiet (fail)
        replace HW := hid (HW.out.on (below_drewN (Below.refl _ wr) nq))
        replace b3 : (wr.drewN nq).cell? ⟨r, 3, none⟩ = some (.int .i64 (whole : Nat)) := b3
        clear q15 q13 hme HB HF
        generalize wr.drewN nq = W1 at *
        go_upto_region 7 with fail
        have q12 := HW.out.c.n
        rw [hgn, nn] at q12
        obtain ⟨ci, fi⟩ := HW.out.t.at_n hgn hpl2
        have HV := hid hgn
        clear hgn nn
        go_still_tail 10, (by kernel_rfl)
        change wpList _ _ _ _ _ W1.drew
        replace fi : W1.drew.frozen? ⟨gn, pl, none⟩ = false := fi
        have ci : ∃ x, W1.drew.cell? ⟨gn, pl, none⟩ = some x := ⟨_, ci⟩
        obtain ⟨xi, ci⟩ := ci
        go_wp2_with fail
        go_end0
        first | exact ⟨rfl, (HW.out.put_n hs HV.out hpl2 whole).drew⟩ | (rw [hres]; exact ⟨rfl, (HW.out.put_n hs HV.out hpl2 whole).drew⟩)
theorem find_any (r g N cap o C bits whole : Nat) (u : Un) (V : Vs) (B : Nat) (w : World) (hb : RB w r g N cap C bits whole) (hc : RC w g o u V) (ht : RT w B u V) (hs : Sep V g) (sz : Nat) (hsz : u.p.size = (sz : Int)) (hs16 : sz ≤ 16) (hh : u.h < 4294967296) (hw : whole ≤ 1000000000) (hok : u.ok whole) (hrg : r ≠ g) (hgf : ∀ k, w.frozen? ⟨g, k, none⟩ = false) (hk : u.p.kind = 4) :
    Calls Tryz.prog 32 #[.pointer (some ⟨r, 0, none⟩), .pointer (some ⟨g, o, none⟩)] w (WholeIn w g o (u.find whole) V B) := by
  by_cases hn : u.len = 0 ∧ u.number.getD (placeN u.h 1 u.p.size) 0 ≠ 0
  · exact find_yes r g N cap o C bits whole u V B w hb hc ht hs sz hsz hs16 hh hw hok hrg hgf hk hn
  · exact find_no r g N cap o C bits whole u V B w hb hc ht hs sz hsz hs16 hh hw hok hrg hgf hk hn
end Go.Proofs.YtkfdbibgjoaefaaGreatDoor
