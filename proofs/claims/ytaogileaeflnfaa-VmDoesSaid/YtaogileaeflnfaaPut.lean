/-
  The contract of put (written by tools/stage17/gen_putm.py).
-/
import Derived.Test.YtaogileaeflnfaaMow
set_option linter.unusedVariables false
set_option linter.unusedSimpArgs false
namespace Go.Proofs.Ytaogileaeflnfaa
open Go.RowKit

set_option maxRecDepth 10000 in
set_option maxHeartbeats 8000000 in
theorem put_any (w : World) (B g hb mb nH cH nM cM : Nat) (x : Mn) (p : Int) (v : UInt32) (h : MO w B g hb mb nH cH nM cM x) (hok : x.ok) :
    Calls Try.prog 45 #[.pointer (some ⟨g, 0, none⟩), .int .i64 p, U.bv v] w fun e w' => e = .returned (.tuple #[]) ∧ MO w' B g hb mb nH cH nM cM (putM x p v) ∧ But (Its g hb mb) w w' := by
  have hr := h.mr
  have HM := hid h
  by_cases e0 : p = 0
  · subst e0
    have f1 := hr.free 0
    have c1 := hr.ca
    have HQ := hid (HM.out.put 0 (U.bv v) { x with a := v } (ms_0 _ _ _ _) rfl rfl)
    unfold U.bv at *
    clear h hr
    go_enter Try.func45, Try.ntmps45
    go_wp2_with fail
    go_end0
    exact ⟨rfl, HQ.out, (But.refl _ _).set _ _ (.inl (.inl rfl))⟩
  by_cases e1 : p = 1
  · subst e1
    have f1 := hr.free 1
    have c1 := hr.cb
    have HQ := hid (HM.out.put 1 (U.bv v) { x with b := v } (ms_1 _ _ _ _) rfl rfl)
    unfold U.bv at *
    clear h hr
    go_enter Try.func45, Try.ntmps45
    go_wp2_with fail
    go_end0
    exact ⟨rfl, HQ.out, (But.refl _ _).set _ _ (.inl (.inl rfl))⟩
  by_cases e2 : p = 2
  · subst e2
    have f1 := hr.free 2
    have c1 := hr.cc
    have HQ := hid (HM.out.put 2 (U.bv v) { x with c := v } (ms_2 _ _ _ _) rfl rfl)
    unfold U.bv at *
    clear h hr
    go_enter Try.func45, Try.ntmps45
    go_wp2_with fail
    go_end0
    exact ⟨rfl, HQ.out, (But.refl _ _).set _ _ (.inl (.inl rfl))⟩
  by_cases e3 : p = 3
  · subst e3
    have f1 := hr.free 3
    have c1 := hr.cd
    have HQ := hid (HM.out.put 3 (U.bv v) { x with d := v } (ms_3 _ _ _ _) rfl rfl)
    unfold U.bv at *
    clear h hr
    go_enter Try.func45, Try.ntmps45
    go_wp2_with fail
    go_end0
    exact ⟨rfl, HQ.out, (But.refl _ _).set _ _ (.inl (.inl rfl))⟩
  by_cases e4 : p = 4
  · subst e4
    have f1 := hr.free 262
    have c1 := hr.cb
    have c2 := hr.cm
    obtain ⟨k, hk, hk2⟩ := hok.2
    rw [HM.out.nm] at hk2
    have hn0 : 0 < nM := by rw [hk2]; exact Nat.two_pow_pos k
    have HW := hid (fun w => within_any x.b.toNat nM k (by omega) hk2 x.b.toNat_lt w)
    have hjl := Nat.mod_lt x.b.toNat hn0
    obtain ⟨ad, e, c3⟩ := hr.m.toIsB.at _ hjl
    injection e with e
    subst e
    rw [Addr.add_lit, Nat.zero_add] at c3
    have f3 : w.frozen? ⟨mb, x.b.toNat % nM, none⟩ = false := own_free HM.out.m
    have HQ := hid (HM.out.put_m (x.b.toNat % nM) hjl v.toUInt8)
    have HE : Hid (putM x 4 v = { x with m := x.m.set (x.b.toNat % nM) v.toUInt8 }) := by
      show { x with m := x.m.set (x.b.toNat % x.m.length) v.toUInt8 } = _
      rw [HM.out.nm]
    have E : ((v.toNat : Int)) % 256 = ((v.toUInt8.toNat : Nat) : Int) := by simp
    unfold bv at HQ
    unfold U.bv at *
    clear hr h hk2 hn0 hok
    generalize (x.m.getD (x.b.toNat % nM) 0).toNat = y at *
    generalize x.b.toNat % nM = j at *
    generalize x.b.toNat = bb at *
    generalize v.toUInt8.toNat = z at *
    generalize v.toNat = vv at *
    rw [← E] at HQ
    clear E
    have hjz : (j : Int) < (nM : Int) := by omega
    go_enter Try.func45, Try.ntmps45
    go_upto_region 10 with fail
    go_still_tail 17, (by kernel_rfl)
    refine wpStill_step (fun K hK => ?_)
    go_simp
    refine ⟨_, (HW.out _).mono (fun e w' h => ⟨h.1, h.2⟩), hK _ ?_⟩
    clear hK K
    repeat still_step
    refine wpStill_nil ?_
    change wpList _ _ _ _ _ w.drew
    replace f3 : w.drew.frozen? ⟨mb, j, none⟩ = false := f3
    replace c3 : w.drew.cell? ⟨mb, j, none⟩ = some (.int .u8 y) := c3
    go_wp2_with fail
    go_end0
    rw [HE.out]
    exact ⟨rfl, HQ.out.drew, ((But.refl _ _).set _ _ (.inl (.inr (.inr rfl)))).drew⟩
  by_cases e5 : p = 5
  · subst e5
    have f1 := hr.free 262
    have c1 := hr.cc
    have c2 := hr.cm
    obtain ⟨k, hk, hk2⟩ := hok.2
    rw [HM.out.nm] at hk2
    have hn0 : 0 < nM := by rw [hk2]; exact Nat.two_pow_pos k
    have HW := hid (fun w => within_any x.c.toNat nM k (by omega) hk2 x.c.toNat_lt w)
    have hjl := Nat.mod_lt x.c.toNat hn0
    obtain ⟨ad, e, c3⟩ := hr.m.toIsB.at _ hjl
    injection e with e
    subst e
    rw [Addr.add_lit, Nat.zero_add] at c3
    have f3 : w.frozen? ⟨mb, x.c.toNat % nM, none⟩ = false := own_free HM.out.m
    have HQ := hid (HM.out.put_m (x.c.toNat % nM) hjl v.toUInt8)
    have HE : Hid (putM x 5 v = { x with m := x.m.set (x.c.toNat % nM) v.toUInt8 }) := by
      show { x with m := x.m.set (x.c.toNat % x.m.length) v.toUInt8 } = _
      rw [HM.out.nm]
    have E : ((v.toNat : Int)) % 256 = ((v.toUInt8.toNat : Nat) : Int) := by simp
    unfold bv at HQ
    unfold U.bv at *
    clear hr h hk2 hn0 hok
    generalize (x.m.getD (x.c.toNat % nM) 0).toNat = y at *
    generalize x.c.toNat % nM = j at *
    generalize x.c.toNat = bb at *
    generalize v.toUInt8.toNat = z at *
    generalize v.toNat = vv at *
    rw [← E] at HQ
    clear E
    have hjz : (j : Int) < (nM : Int) := by omega
    go_enter Try.func45, Try.ntmps45
    go_upto_region 12 with fail
    go_still_tail 17, (by kernel_rfl)
    refine wpStill_step (fun K hK => ?_)
    go_simp
    refine ⟨_, (HW.out _).mono (fun e w' h => ⟨h.1, h.2⟩), hK _ ?_⟩
    clear hK K
    repeat still_step
    refine wpStill_nil ?_
    change wpList _ _ _ _ _ w.drew
    replace f3 : w.drew.frozen? ⟨mb, j, none⟩ = false := f3
    replace c3 : w.drew.cell? ⟨mb, j, none⟩ = some (.int .u8 y) := c3
    go_wp2_with fail
    go_end0
    rw [HE.out]
    exact ⟨rfl, HQ.out.drew, ((But.refl _ _).set _ _ (.inl (.inr (.inr rfl)))).drew⟩
  by_cases e6 : p = 6
  · subst e6
    have f1 := hr.free 261
    have c1 := hr.cd
    have c2 := hr.ch
    obtain ⟨k, hk, hk2⟩ := hok.1
    rw [HM.out.nh] at hk2
    have hn0 : 0 < nH := by rw [hk2]; exact Nat.two_pow_pos k
    have HW := hid (fun w => within_any x.d.toNat nH k (by omega) hk2 x.d.toNat_lt w)
    have hjl := Nat.mod_lt x.d.toNat hn0
    obtain ⟨ad, e, c3⟩ := hr.h.toIsB.at _ hjl
    injection e with e
    subst e
    rw [Addr.add_lit, Nat.zero_add] at c3
    have f3 : w.frozen? ⟨hb, x.d.toNat % nH, none⟩ = false := own_free HM.out.h
    have HQ := hid (HM.out.put_h (x.d.toNat % nH) hjl v)
    have HE : Hid (putM x 6 v = { x with h := x.h.set (x.d.toNat % nH) v }) := by
      show { x with h := x.h.set (x.d.toNat % x.h.length) v } = _
      rw [HM.out.nh]
    unfold U.bv at *
    clear hr h hk2 hn0 hok
    generalize (x.h.getD (x.d.toNat % nH) 0).toNat = y at *
    generalize x.d.toNat % nH = j at *
    generalize x.d.toNat = bb at *
    generalize v.toNat = vv at *
    have hjz : (j : Int) < (nH : Int) := by omega
    go_enter Try.func45, Try.ntmps45
    go_upto_region 14 with fail
    go_still_tail 16, (by kernel_rfl)
    refine wpStill_step (fun K hK => ?_)
    go_simp
    refine ⟨_, (HW.out _).mono (fun e w' h => ⟨h.1, h.2⟩), hK _ ?_⟩
    clear hK K
    repeat still_step
    refine wpStill_nil ?_
    change wpList _ _ _ _ _ w.drew
    replace f3 : w.drew.frozen? ⟨hb, j, none⟩ = false := f3
    replace c3 : w.drew.cell? ⟨hb, j, none⟩ = some (.int .u32 y) := c3
    go_wp2_with fail
    go_end0
    rw [HE.out]
    exact ⟨rfl, HQ.out.drew, ((But.refl _ _).set _ _ (.inl (.inr (.inl rfl)))).drew⟩
  have HE : Hid (putM x p v = x) := by
    unfold Hid putM
    repeat rw [if_neg (by omega)]
  have n0 : (p == 0) = false := by simp only [beq_eq_false_iff_ne, ne_eq]; omega
  have n1 : (p == 1) = false := by simp only [beq_eq_false_iff_ne, ne_eq]; omega
  have n2 : (p == 2) = false := by simp only [beq_eq_false_iff_ne, ne_eq]; omega
  have n3 : (p == 3) = false := by simp only [beq_eq_false_iff_ne, ne_eq]; omega
  have n4 : (p == 4) = false := by simp only [beq_eq_false_iff_ne, ne_eq]; omega
  have n5 : (p == 5) = false := by simp only [beq_eq_false_iff_ne, ne_eq]; omega
  have n6 : (p == 6) = false := by simp only [beq_eq_false_iff_ne, ne_eq]; omega
  unfold U.bv
  clear hr h hok
  go_enter Try.func45, Try.ntmps45
  go_wp2_with fail
  go_end0
  rw [HE.out]
  exact ⟨rfl, HM.out, But.refl _ _⟩
end Go.Proofs.Ytaogileaeflnfaa
