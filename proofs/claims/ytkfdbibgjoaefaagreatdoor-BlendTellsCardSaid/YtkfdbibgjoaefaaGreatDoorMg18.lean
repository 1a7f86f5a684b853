/-
  Merged: Ry.
-/
import Derived.Test.YtkfdbibgjoaefaaGreatDoorMg16
import Derived.StillTailTactics
import Derived.BigRegion
import Derived.Deep.RegionHeld3
/-
  The document's blend: a match at a byte's end.
-/
namespace Go.Proofs.YtkfdbibgjoaefaaGreatDoor
open Go.RowKit
set_option linter.unusedVariables false
set_option linter.unusedSimpArgs false

set_option maxRecDepth 10000 in
set_option maxHeartbeats 8000000 in
theorem whole_4c (r g N cap o C bits whole : Nat) (u : Un) (V : Vs) (B : Nat) (w : World) (hb : RB w r g N cap C bits whole) (hc : RC w g o u V) (ht : RT w B u V) (hs : Sep V g) (sz : Nat) (hsz : u.p.size = (sz : Int)) (hs16 : sz ≤ 16) (hC : C ≤ 511) (hw : whole ≤ 1000000000) (hok : u.ok whole) (hrg : r ≠ g) (hgf : ∀ k, w.frozen? ⟨g, k, none⟩ = false) (hk : u.p.kind = 4) (h0 : 0 < u.len) (hme : u.ring.getD u.pos 0 = C % 256) :
    Calls Tryz.prog 36 #[.pointer (some ⟨r, 0, none⟩), .pointer (some ⟨g, o, none⟩)] w (WholeIn w g o (u.whole C whole) V B) := by
  have hok2 := hok
  unfold Un.ok at hok2
  simp [hk] at hok2
  obtain ⟨o1, o2, o3, o4, o5, o6⟩ := hok2
  obtain ⟨pn, hpn⟩ : ∃ pn, 2 ^ sz = pn := ⟨_, rfl⟩
  have epw : pw u.p.size = pn := by unfold pw; rw [hsz, ← hpn]; rfl
  rw [epw] at o1 o2 o5
  have hpn1 : 1 ≤ pn := by rw [← hpn]; exact Nat.one_le_two_pow
  have hpn2 : pn ≤ 65536 := by rw [← hpn]; exact Nat.pow_le_pow_right (n := 2) (by decide) hs16
  have HPW := hid (fun w => r_power sz (by omega) w)
  rw [hpn] at HPW
  have H := hid (Wh.start hc ht)
  have p0 := hc.p0
  have p1 := hc.p1
  rw [hsz] at p1
  rw [hk] at p0
  obtain ⟨b0, b1, b2, b3⟩ := hb
  have q14 := hc.pos
  have q15 := hc.len
  have q13 := hc.r
  obtain ⟨gr, hgr, nr⟩ := ht.has_r (i := u.pos) (by omega)
  rw [hgr, nr] at q13
  obtain ⟨cp, fp⟩ := ht.at_r (i := u.pos) hgr (by omega)
  obtain ⟨rc, hrc⟩ : ∃ x, u.ring.getD u.pos 0 = x := ⟨_, rfl⟩
  have hrcr : rc ≤ 255 := by rw [← hrc]; exact o3 _
  rw [hrc] at cp
  replace cp : w.cell? ⟨gr, u.pos, none⟩ = some (.int .u8 (rc : Nat)) := cp
  obtain ⟨cb, hcb⟩ : ∃ x, C % 256 = x := ⟨_, rfl⟩
  have ecb : (C : Int) % 256 = (cb : Int) := by omega
  have ecb2 : (C : Int).tmod 256 = (cb : Int) := by rw [Int.tmod_eq_emod_of_nonneg (by omega)]; exact ecb
  have hcbr : cb ≤ 255 := by omega
  have hpos : (u.pos : Int) < (u.ring.length : Int) := by omega
  obtain ⟨iw, hiw⟩ : ∃ x, whole % pn = x := ⟨_, rfl⟩
  have hiw1 : iw < pn := by rw [← hiw]; exact Nat.mod_lt _ (by omega)
  have eiw : (whole : Int) % (pn : Int) = (iw : Int) := by rw [← hiw, Int.natCast_emod]
  have eiw2 : (whole : Int).tmod (pn : Int) = (iw : Int) := by rw [Int.tmod_eq_emod_of_nonneg (by omega)]; exact eiw
  have hiwl : (iw : Int) < (u.ring.length : Int) := by omega
  have hiw2 : iw < u.ring.length := by omega
  have hpn0 : ((pn : Int) == 0) = false := by simp only [beq_eq_false_iff_ne, ne_eq]; omega
  have hpn00 : ¬ pn = 0 := by omega
  have W1 := wr_in (iw : Int) (by omega)
  have w1 := W1.out
  clear hc ht hok o3 o4
  go_enter Tryz.func36, Tryz.ntmps36
  go_upto_region 3 with (go_at_call 54; (with_reducible refine (HPW.out _).mono ?_); rintro rj wj ⟨rfl, ej⟩; rw [ej]; clear ej wj)
  obtain ⟨ln, hln⟩ : ∃ x, min (u.len + 1) 32 = x := ⟨_, rfl⟩
  obtain ⟨ps, hps⟩ : ∃ x, (u.pos + 1) % pn = x := ⟨_, rfl⟩
  have hres : u.whole C whole = { ({ ({ u with len := ln } : Un) with pos := ps } : Un) with ring := u.ring.set iw cb } := by
    have hn : (0 < u.len ∧ u.ring.getD u.pos 0 = C % 256) := ⟨h0, hme⟩
    unfold Un.whole
    rw [if_pos hk, if_pos hn, if_pos hn, epw, hiw, hcb, hln, hps]
  rw [hres]
  have d0 : decide ((0 : Int) < (u.len : Int)) = true := decide_eq_true (by omega)
  have hne2 : rc = cb := by rw [← hrc, ← hcb]; exact hme
  have d1 : ((rc : Int) == (cb : Int)) = true := by simp only [beq_iff_eq]; omega
  have HI := hid (fun w => r_into ((u.len : Int) + 1) 0 32 w)
  rw [show into ((u.len : Int) + 1) 0 32 = (ln : Int) by unfold into; rw [if_neg (by omega)]; split <;> omega] at HI
  have eps : ((u.pos : Int) + 1).tmod (pn : Int) = (ps : Int) := by rw [Int.tmod_eq_emod_of_nonneg (by omega), ← hps, Int.natCast_emod]; rfl
  have hpsr : ps < pn := by rw [← hps]; exact Nat.mod_lt _ (by omega)
  have V1 := wr_in ((u.len : Int) + 1) (by omega)
  have V2 := wr_in ((u.pos : Int) + 1) (by omega)
  have V3 := wr_in (ps : Int) (by omega)
  go_quiet (fail)
  have HW0 := hid (((H.out.on (below_drewN (Below.refl _ w) nq)).put_len hs ln).put_pos hs ps)
  replace q15 : (w.drewN nq).cell? ⟨g, o + 15, none⟩ = some (.int .i64 (u.len : Nat)) := q15
  replace q14 : (w.drewN nq).cell? ⟨g, o + 14, none⟩ = some (.int .i64 (u.pos : Nat)) := q14
  have f15 : (w.drewN nq).frozen? ⟨g, o + 15, none⟩ = false := hgf _
  have f14 : (w.drewN nq).frozen? ⟨g, o + 14, none⟩ = false := hgf _
  go_upto_region 4 with fail
  clear p0 p1 b0 b1 b2 cp fp q13 d0 d1
  have v1 := V1.out
  have v2 := V2.out
  have v3 := V3.out
  generalize hq : w.drewN nq = wq at *
  go_region_with (go_at_call 59; (with_reducible refine (HI.out _).mono ?_); rintro rj wj ⟨rfl, ej⟩; rw [ej]; clear ej wj)
  all_goals
    have b3 : ((wq.setCell ⟨g, o + 15, none⟩ (.int .i64 (ln : Int))).setCell ⟨g, o + 14, none⟩ (.int .i64 (ps : Int))).drew.cell? ⟨r, 3, none⟩ = some (.int .i64 (whole : Nat)) := oth (W := wq.setCell ⟨g, o + 15, none⟩ (.int .i64 (ln : Int))) (oth (W := wq) (by rw [← hq]; exact b3) (fun e => hrg (congrArg Addr.block e).symm)) (fun e => hrg (congrArg Addr.block e).symm)
    go_upto_region 6 with fail
    clear f15 f14 q15 q14 v1 v2 v3
    generalize hW : ((wq.setCell ⟨g, o + 15, none⟩ (.int .i64 (ln : Int))).setCell ⟨g, o + 14, none⟩ (.int .i64 (ps : Int))).drew = W at b3 ⊢
    have HW : Hid (Wh w W g o { ({ u with len := ln } : Un) with pos := ps } V B) := by rw [← hW]; exact HW0.out.drew
    clear hW HW0
    have q13 := HW.out.c.r
    rw [hgr, nr] at q13
    obtain ⟨ci, fi⟩ := HW.out.t.at_r (i := iw) hgr hiw2
    have HV := hid hgr
    clear hgr nr
    go_still_tail 12, (by kernel_rfl)
    change wpList _ _ _ _ _ W.drew
    replace fi : W.drew.frozen? ⟨gr, iw, none⟩ = false := fi
    have ci : ∃ x, W.drew.cell? ⟨gr, iw, none⟩ = some x := ⟨_, ci⟩
    obtain ⟨xi, ci⟩ := ci
    go_wp2_with fail
    go_end0
    first | exact ⟨rfl, (HW.out.put_r hs HV.out hiw2 cb).drew⟩ | (rw [hres]; exact ⟨rfl, (HW.out.put_r hs HV.out hiw2 cb).drew⟩)
end Go.Proofs.YtkfdbibgjoaefaaGreatDoor
