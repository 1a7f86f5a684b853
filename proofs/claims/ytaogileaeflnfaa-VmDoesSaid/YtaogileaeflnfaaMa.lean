/-
  Merged: Rfx Rfp Vda Vdb.
-/
import Derived.Test.YtaogileaeflnfaaMow
import Derived.Test.YtaogileaeflnfaaApt
import Derived.Test.YtaogileaeflnfaaMp
/-
  The document's index.
-/
set_option linter.unusedVariables false
set_option linter.unusedSimpArgs false
namespace Go.Proofs.Ytaogileaeflnfaa
open Go.RowKit

set_option maxRecDepth 10000 in
set_option maxHeartbeats 4000000 in
theorem index_any (x n : Nat) (k : Nat) (hk : k ≤ 31) (hn : n = 2 ^ k) (hx : x < 4294967296) (w : World) : Calls Try.prog 51 #[.int .u32 (x : Int), .int .i64 (n : Int)] w fun e w' => e = .returned (.int .i64 ((x % n : Nat) : Int)) ∧ w' = w := by
  have h1 : 1 ≤ n := by rw [hn]; exact Nat.one_le_two_pow
  have h2 : n ≤ 2147483648 := by rw [hn]; exact Nat.pow_le_pow_right (n := 2) (by omega) hk
  have E : ((x % n : Nat) : Int) = (x : Int) % (n : Int) := by rw [Int.natCast_emod]
  have hz : ((n : Int) == 0) = false := by simp only [beq_eq_false_iff_ne, ne_eq]; omega
  clear hn hk
  generalize x % n = z at *
  go_enter Try.func51, Try.ntmps51
  go_wp2_with fail
  go_ret
  refine ⟨?_, rfl⟩
  first | rfl | (rw [E]; rfl) | (congr 2; omega)
end Go.Proofs.Ytaogileaeflnfaa
/-
  The contract of put (written by tools/stage17/gen_putm.py).
-/
set_option linter.unusedVariables false
set_option linter.unusedSimpArgs false
namespace Go.Proofs.Ytaogileaeflnfaa
open Go.RowKit

set_option maxRecDepth 10000 in
set_option maxHeartbeats 8000000 in
theorem rput_any (w : World) (B g hb mb nH cH nM cM : Nat) (x : Mn) (p : Int) (v : UInt32) (h : MO w B g hb mb nH cH nM cM x) (hok : x.ok) :
    Calls Try.prog 30 #[.pointer (some ⟨g, 0, none⟩), .int .i64 p, U.bv v] w fun e w' => e = .returned (.tuple #[]) ∧ MO w' B g hb mb nH cH nM cM (putM x p v) ∧ But (Its g hb mb) w w' := by
  have hr := h.mr
  have HM := hid h
  by_cases e0 : p = 0
  · subst e0
    have f1 := hr.free 0
    have c1 := hr.ca
    have HQ := hid (HM.out.put 0 (U.bv v) { x with a := v } (ms_0 _ _ _ _) rfl rfl)
    unfold U.bv at *
    clear h hr
    go_enter Try.func30, Try.ntmps30
    go_wp2_with fail
    go_end0
    exact ⟨rfl, HQ.out, (But.refl _ _).set _ _ (.inl (.inl rfl))⟩
  by_cases e1 : p = 1
  · subst e1
    have f1 := hr.free 1
    have c1 := hr.cb
    have HQ := hid (HM.out.put 1 (U.bv v) { x with b := v } (ms_1 _ _ _ _) rfl rfl)
    unfold U.bv at *
    clear h hr
    go_enter Try.func30, Try.ntmps30
    go_wp2_with fail
    go_end0
    exact ⟨rfl, HQ.out, (But.refl _ _).set _ _ (.inl (.inl rfl))⟩
  by_cases e2 : p = 2
  · subst e2
    have f1 := hr.free 2
    have c1 := hr.cc
    have HQ := hid (HM.out.put 2 (U.bv v) { x with c := v } (ms_2 _ _ _ _) rfl rfl)
    unfold U.bv at *
    clear h hr
    go_enter Try.func30, Try.ntmps30
    go_wp2_with fail
    go_end0
    exact ⟨rfl, HQ.out, (But.refl _ _).set _ _ (.inl (.inl rfl))⟩
  by_cases e3 : p = 3
  · subst e3
    have f1 := hr.free 3
    have c1 := hr.cd
    have HQ := hid (HM.out.put 3 (U.bv v) { x with d := v } (ms_3 _ _ _ _) rfl rfl)
    unfold U.bv at *
    clear h hr
    go_enter Try.func30, Try.ntmps30
    go_wp2_with fail
    go_end0
    exact ⟨rfl, HQ.out, (But.refl _ _).set _ _ (.inl (.inl rfl))⟩
  by_cases e4 : p = 4
  · subst e4
    have f1 := hr.free 262
    have c1 := hr.cb
    have c2 := hr.cm
    obtain ⟨k, hk, hk2⟩ := hok.2
    rw [HM.out.nm] at hk2
    have hn0 : 0 < nM := by rw [hk2]; exact Nat.two_pow_pos k
    have HW := hid (fun w => index_any x.b.toNat nM k (by omega) hk2 x.b.toNat_lt w)
    have hjl := Nat.mod_lt x.b.toNat hn0
    obtain ⟨ad, e, c3⟩ := hr.m.toIsB.at _ hjl
    injection e with e
    subst e
    rw [Addr.add_lit, Nat.zero_add] at c3
    have f3 : w.frozen? ⟨mb, x.b.toNat % nM, none⟩ = false := own_free HM.out.m
    have HQ := hid (HM.out.put_m (x.b.toNat % nM) hjl v.toUInt8)
    have HE : Hid (putM x 4 v = { x with m := x.m.set (x.b.toNat % nM) v.toUInt8 }) := by
      show { x with m := x.m.set (x.b.toNat % x.m.length) v.toUInt8 } = _
      rw [HM.out.nm]
    have E : ((v.toNat : Int)) % 256 = ((v.toUInt8.toNat : Nat) : Int) := by simp
    unfold bv at HQ
    unfold U.bv at *
    clear hr h hk2 hn0 hok
    generalize (x.m.getD (x.b.toNat % nM) 0).toNat = y at *
    generalize x.b.toNat % nM = j at *
    generalize x.b.toNat = bb at *
    generalize v.toUInt8.toNat = z at *
    generalize v.toNat = vv at *
    rw [← E] at HQ
    clear E
    have hjz : (j : Int) < (nM : Int) := by omega
    go_enter Try.func30, Try.ntmps30
    go_upto_region 10 with fail
    go_still_tail 17, (by kernel_rfl)
    refine wpStill_step (fun K hK => ?_)
    go_simp
    refine ⟨_, (HW.out _).mono (fun e w' h => ⟨h.1, h.2⟩), hK _ ?_⟩
    clear hK K
    repeat still_step
    refine wpStill_nil ?_
    change wpList _ _ _ _ _ w.drew
    replace f3 : w.drew.frozen? ⟨mb, j, none⟩ = false := f3
    replace c3 : w.drew.cell? ⟨mb, j, none⟩ = some (.int .u8 y) := c3
    go_wp2_with fail
    go_end0
    rw [HE.out]
    exact ⟨rfl, HQ.out.drew, ((But.refl _ _).set _ _ (.inl (.inr (.inr rfl)))).drew⟩
  by_cases e5 : p = 5
  · subst e5
    have f1 := hr.free 262
    have c1 := hr.cc
    have c2 := hr.cm
    obtain ⟨k, hk, hk2⟩ := hok.2
    rw [HM.out.nm] at hk2
    have hn0 : 0 < nM := by rw [hk2]; exact Nat.two_pow_pos k
    have HW := hid (fun w => index_any x.c.toNat nM k (by omega) hk2 x.c.toNat_lt w)
    have hjl := Nat.mod_lt x.c.toNat hn0
    obtain ⟨ad, e, c3⟩ := hr.m.toIsB.at _ hjl
    injection e with e
    subst e
    rw [Addr.add_lit, Nat.zero_add] at c3
    have f3 : w.frozen? ⟨mb, x.c.toNat % nM, none⟩ = false := own_free HM.out.m
    have HQ := hid (HM.out.put_m (x.c.toNat % nM) hjl v.toUInt8)
    have HE : Hid (putM x 5 v = { x with m := x.m.set (x.c.toNat % nM) v.toUInt8 }) := by
      show { x with m := x.m.set (x.c.toNat % x.m.length) v.toUInt8 } = _
      rw [HM.out.nm]
    have E : ((v.toNat : Int)) % 256 = ((v.toUInt8.toNat : Nat) : Int) := by simp
    unfold bv at HQ
    unfold U.bv at *
    clear hr h hk2 hn0 hok
    generalize (x.m.getD (x.c.toNat % nM) 0).toNat = y at *
    generalize x.c.toNat % nM = j at *
    generalize x.c.toNat = bb at *
    generalize v.toUInt8.toNat = z at *
    generalize v.toNat = vv at *
    rw [← E] at HQ
    clear E
    have hjz : (j : Int) < (nM : Int) := by omega
    go_enter Try.func30, Try.ntmps30
    go_upto_region 12 with fail
    go_still_tail 17, (by kernel_rfl)
    refine wpStill_step (fun K hK => ?_)
    go_simp
    refine ⟨_, (HW.out _).mono (fun e w' h => ⟨h.1, h.2⟩), hK _ ?_⟩
    clear hK K
    repeat still_step
    refine wpStill_nil ?_
    change wpList _ _ _ _ _ w.drew
    replace f3 : w.drew.frozen? ⟨mb, j, none⟩ = false := f3
    replace c3 : w.drew.cell? ⟨mb, j, none⟩ = some (.int .u8 y) := c3
    go_wp2_with fail
    go_end0
    rw [HE.out]
    exact ⟨rfl, HQ.out.drew, ((But.refl _ _).set _ _ (.inl (.inr (.inr rfl)))).drew⟩
  by_cases e6 : p = 6
  · subst e6
    have f1 := hr.free 261
    have c1 := hr.cd
    have c2 := hr.ch
    obtain ⟨k, hk, hk2⟩ := hok.1
    rw [HM.out.nh] at hk2
    have hn0 : 0 < nH := by rw [hk2]; exact Nat.two_pow_pos k
    have HW := hid (fun w => index_any x.d.toNat nH k (by omega) hk2 x.d.toNat_lt w)
    have hjl := Nat.mod_lt x.d.toNat hn0
    obtain ⟨ad, e, c3⟩ := hr.h.toIsB.at _ hjl
    injection e with e
    subst e
    rw [Addr.add_lit, Nat.zero_add] at c3
    have f3 : w.frozen? ⟨hb, x.d.toNat % nH, none⟩ = false := own_free HM.out.h
    have HQ := hid (HM.out.put_h (x.d.toNat % nH) hjl v)
    have HE : Hid (putM x 6 v = { x with h := x.h.set (x.d.toNat % nH) v }) := by
      show { x with h := x.h.set (x.d.toNat % x.h.length) v } = _
      rw [HM.out.nh]
    unfold U.bv at *
    clear hr h hk2 hn0 hok
    generalize (x.h.getD (x.d.toNat % nH) 0).toNat = y at *
    generalize x.d.toNat % nH = j at *
    generalize x.d.toNat = bb at *
    generalize v.toNat = vv at *
    have hjz : (j : Int) < (nH : Int) := by omega
    go_enter Try.func30, Try.ntmps30
    go_upto_region 14 with fail
    go_still_tail 16, (by kernel_rfl)
    refine wpStill_step (fun K hK => ?_)
    go_simp
    refine ⟨_, (HW.out _).mono (fun e w' h => ⟨h.1, h.2⟩), hK _ ?_⟩
    clear hK K
    repeat still_step
    refine wpStill_nil ?_
    change wpList _ _ _ _ _ w.drew
    replace f3 : w.drew.frozen? ⟨hb, j, none⟩ = false := f3
    replace c3 : w.drew.cell? ⟨hb, j, none⟩ = some (.int .u32 y) := c3
    go_wp2_with fail
    go_end0
    rw [HE.out]
    exact ⟨rfl, HQ.out.drew, ((But.refl _ _).set _ _ (.inl (.inr (.inl rfl)))).drew⟩
  have HE : Hid (putM x p v = x) := by
    unfold Hid putM
    repeat rw [if_neg (by omega)]
  have n0 : (p == 0) = false := by simp only [beq_eq_false_iff_ne, ne_eq]; omega
  have n1 : (p == 1) = false := by simp only [beq_eq_false_iff_ne, ne_eq]; omega
  have n2 : (p == 2) = false := by simp only [beq_eq_false_iff_ne, ne_eq]; omega
  have n3 : (p == 3) = false := by simp only [beq_eq_false_iff_ne, ne_eq]; omega
  have n4 : (p == 4) = false := by simp only [beq_eq_false_iff_ne, ne_eq]; omega
  have n5 : (p == 5) = false := by simp only [beq_eq_false_iff_ne, ne_eq]; omega
  have n6 : (p == 6) = false := by simp only [beq_eq_false_iff_ne, ne_eq]; omega
  unfold U.bv
  clear hr h hok
  go_enter Try.func30, Try.ntmps30
  go_wp2_with fail
  go_end0
  rw [HE.out]
  exact ⟨rfl, HM.out, But.refl _ _⟩
end Go.Proofs.Ytaogileaeflnfaa
/-
  The document's power, Right; the law's large.
-/
set_option linter.unusedVariables false
set_option linter.unusedSimpArgs false
namespace Go.Proofs.Ytaogileaeflnfaa
open Go.RowKit

set_option maxRecDepth 10000 in
set_option maxHeartbeats 8000000 in
theorem rpower_any (n k : Nat) (hn : n ≤ 5000) (hk : k ≤ 12) (w : World) : Calls Try.prog 48 #[.int .i64 (n : Int), .int .i64 (k : Int)] w fun e w' => e = .returned (.bool (decide (pw2 n k))) ∧ w' = w := by
  have hkz : (k : Int) ≤ 12 := by omega
  obtain ⟨q, hq⟩ : ∃ q, decide (pw2 n k) = q := ⟨_, rfl⟩
  rw [hq]
  replace hq := hid hq
  go_enter Try.func48, Try.ntmps48
  go_wp2_with fail
  go_loopw [5, 6] (fun vp vi wr => ∃ i p : Nat, i ≤ k + 1 ∧ p ≤ 8192 ∧ Hid (p = 2 ^ i) ∧ Hid (∀ j, j < i → n ≠ 2 ^ j) ∧ vp = .int .i64 (p : Int) ∧ vi = .int .i64 (i : Int) ∧ wr = w) (fun _ vi _ => 14 - (intOf vi).toNat)
  case atStart => exact ⟨0, 1, by omega, by omega, rfl, fun j hj => absurd hj (Nat.not_lt_zero _), rfl, rfl, rfl⟩
  case round =>
    obtain ⟨i, p, hi, hp, HP, HN, rfl, rfl, rfl⟩ := hrel
    by_cases h : i ≤ k
    · have hz : (i : Int) ≤ (k : Int) := by omega
      by_cases e : n = p
      · have T : decide (pw2 n k) = true := decide_eq_true ⟨i, h, by rw [e]; exact HP.out⟩
        obtain rfl : q = true := hq.out.symm.trans T
        subst e
        clear T HP HN hq
        go_wp2_with fail
        go_ret
        exact ⟨rfl, rfl⟩
      · have ez : ((n : Int) == (p : Int)) = false := by simp only [beq_eq_false_iff_ne, ne_eq]; omega
        have HP2 : Hid (p * 2 = 2 ^ (i + 1)) := by
          have := HP.out
          rw [Nat.pow_succ, ← this]
          exact rfl
        have hp2 : p * 2 ≤ 8192 := by
          have := HP2.out
          rw [this]
          exact Nat.pow_le_pow_right (n := 2) (by omega) (show i + 1 ≤ 13 by omega)
        have HN2 : Hid (∀ j, j < i + 1 → n ≠ 2 ^ j) := fun j hj => by
          by_cases hji : j = i
          · subst hji
            rw [← HP.out]
            exact e
          · exact HN.out j (by omega)
        clear HP HN e
        go_wp2_with fail
        go_roundw
        case rel => exact ⟨i + 1, p * 2, by omega, hp2, HP2, HN2, by go_num, by go_num, trivial⟩
        case measure => simp [intOf]; omega
    · have T : decide (pw2 n k) = false := decide_eq_false (fun ⟨j, hj, e⟩ => HN.out j (by omega) e)
      have hz : decide ((i : Int) ≤ (k : Int)) = false := decide_eq_false (by omega)
      obtain rfl : q = false := hq.out.symm.trans T
      clear T HP HN hq
      go_wp2_with fail
      go_ret
      exact ⟨rfl, rfl⟩
/-- A machine as an argument: its own new block. -/
theorem mr_box {w : World} {x : Mn} {AH AM : Option Addr} {nH cH nM cM : Nat} (h : U.IsBB w w.heap.size AH nH cH x.h) (hm : IsBB w w.heap.size AM nM cM x.m) : MR (w.alloc (.cells (mcL x (.slice AH nH cH) (.slice AM nM cM)).toArray 30)) w.heap.size x AH nH cH AM nM cM :=
  ⟨heap_alloc_new _ _, h.on ((Below.refl _ w).alloc (Nat.le_refl _) _), hm.on ((Below.refl _ w).alloc (Nat.le_refl _) _)⟩
set_option maxRecDepth 10000 in
set_option maxHeartbeats 8000000 in
theorem rright_any (w : World) (x : Mn) (AH AM : Option Addr) (nH cH nM cM : Nat) (h : U.IsBB w w.heap.size AH nH cH x.h) (hm : IsBB w w.heap.size AM nM cM x.m) (h1 : nH ≤ 5000) (h2 : nM ≤ 5000) :
    Calls Try.prog 27 #[vM x (.slice AH nH cH) (.slice AM nM cM)] w fun e w' => e = .returned (.bool (decide x.ok)) ∧ Below w.heap.size w w' := by
  have e : decide x.ok = (decide (pw2 nH 8) && decide (pw2 nM 12)) := by
    rw [← h.len, ← hm.len]
    exact Bool.decide_and _ _
  rw [e]
  have hr := mr_box h hm
  have c1 := hr.ch
  have c2 := hr.cm
  have HB : Hid (Below w.heap.size w (w.alloc (.cells (mcL x (.slice AH nH cH) (.slice AM nM cM)).toArray 30))) := (Below.refl _ w).alloc (Nat.le_refl _) _
  have H1 : Hid (∀ w, Calls Try.prog 48 #[.int .i64 (nH : Int), .int .i64 8] w fun e w' => e = .returned (.bool (decide (pw2 nH 8))) ∧ w' = w) := fun w => rpower_any nH 8 h1 (by omega) w
  have H2 : Hid (∀ w, Calls Try.prog 48 #[.int .i64 (nM : Int), .int .i64 12] w fun e w' => e = .returned (.bool (decide (pw2 nM 12))) ∧ w' = w) := fun w => rpower_any nM 12 h2 (by omega) w
  unfold vM
  clear h hm e hr
  generalize mcL x (.slice AH nH cH) (.slice AM nM cM) = L at *
  generalize decide (pw2 nH 8) = p at *
  generalize decide (pw2 nM 12) = q at *
  go_enter Try.func27, Try.ntmps27
  go_upto_region 1 with fail
  generalize w.alloc (.cells L.toArray 30) = W at *
  cases p
  · go_wp2_with (go_at_call 48; with_reducible refine (H1.out _).mono ?_; rintro r w' ⟨rfl, rfl⟩)
    go_ret
    exact ⟨rfl, HB.out⟩
  · go_wp2_with (go_at_call 48; first | (with_reducible refine (H1.out _).mono ?_; rintro r w' ⟨rfl, rfl⟩) | (with_reducible refine (H2.out _).mono ?_; rintro r w' ⟨rfl, rfl⟩))
    go_ret
    exact ⟨rfl, HB.out⟩
def largeN (nH nM : Nat) : Bool := decide (300 < nH) || decide (5000 < nM)
set_option maxRecDepth 10000 in
set_option maxHeartbeats 8000000 in
theorem large_any (w : World) (x : Mn) (AH AM : Option Addr) (nH cH nM cM : Nat) (h1 : nH ≤ 9223372036854775807) (h2 : nM ≤ 9223372036854775807) :
    Calls Try.prog 5 #[vM x (.slice AH nH cH) (.slice AM nM cM)] w fun e w' => e = .returned (.bool (largeN nH nM)) ∧ Below w.heap.size w w' := by
  have hr := heap_alloc_new w (.cells (mcL x (.slice AH nH cH) (.slice AM nM cM)).toArray 30)
  have c1 : (w.alloc (.cells (mcL x (.slice AH nH cH) (.slice AM nM cM)).toArray 30)).cell? ⟨w.heap.size, 261, none⟩ = some (.slice AH nH cH) := (row_get hr 261).trans (mc_h _ _ _)
  have c2 : (w.alloc (.cells (mcL x (.slice AH nH cH) (.slice AM nM cM)).toArray 30)).cell? ⟨w.heap.size, 262, none⟩ = some (.slice AM nM cM) := (row_get hr 262).trans (mc_m _ _ _)
  have HB : Hid (Below w.heap.size w (w.alloc (.cells (mcL x (.slice AH nH cH) (.slice AM nM cM)).toArray 30))) := (Below.refl _ w).alloc (Nat.le_refl _) _
  unfold vM
  obtain ⟨q, hq⟩ : ∃ q, largeN nH nM = q := ⟨_, rfl⟩
  rw [hq]
  unfold largeN at hq
  clear hr
  generalize mcL x (.slice AH nH cH) (.slice AM nM cM) = L at *
  go_enter Try.func5, Try.ntmps5
  go_upto_region 1 with fail
  generalize w.alloc (.cells L.toArray 30) = W at *
  by_cases a : 300 < nH
  · have d1 : decide ((300 : Int) < (nH : Int)) = true := decide_eq_true (by omega)
    rw [decide_eq_true a] at hq
    simp only [Bool.true_or] at hq
    subst hq
    go_wp2_with fail
    go_ret
    exact ⟨rfl, HB.out⟩
  · have d1 : decide ((300 : Int) < (nH : Int)) = false := decide_eq_false (by omega)
    rw [decide_eq_false a, Bool.false_or] at hq
    by_cases b : 5000 < nM
    · have d2 : decide ((5000 : Int) < (nM : Int)) = true := decide_eq_true (by omega)
      rw [decide_eq_true b] at hq
      subst hq
      go_wp2_with fail
      go_ret
      exact ⟨rfl, HB.out⟩
    · have d2 : decide ((5000 : Int) < (nM : Int)) = false := decide_eq_false (by omega)
      rw [decide_eq_false b] at hq
      subst hq
      go_wp2_with fail
      go_ret
      exact ⟨rfl, HB.out⟩
end Go.Proofs.Ytaogileaeflnfaa
/-
  The document's calc, at (written by tools/stage17/gen_vdb.py).
-/
set_option linter.unusedVariables false
set_option linter.unusedSimpArgs false
namespace Go.Proofs.Ytaogileaeflnfaa
open Go.RowKit

set_option maxRecDepth 10000 in
set_option maxHeartbeats 4000000 in
theorem rcalc_8 (a x : UInt32) (w : World) : Calls Try.prog 31 #[.int .u8 8, U.bv a, U.bv x] w fun e w' => e = .returned (U.bv (calcM 8 a x)) ∧ w' = w := by
  have E := calc_8 a x
  unfold U.bv
  generalize (calcM 8 a x).toNat = z at *
  generalize a.toNat = a at *
  generalize x.toNat = x at *
  go_enter Try.func31, Try.ntmps31
  go_wp2_with fail
  go_ret
  first | exact ⟨rfl, rfl⟩ | exact ⟨ret_u32 E, rfl⟩ | exact ⟨ret_u32 (by omega), rfl⟩
set_option maxRecDepth 10000 in
set_option maxHeartbeats 4000000 in
theorem rcalc_9 (a x : UInt32) (w : World) : Calls Try.prog 31 #[.int .u8 9, U.bv a, U.bv x] w fun e w' => e = .returned (U.bv (calcM 9 a x)) ∧ w' = w := by
  have E := calc_9 a x
  unfold U.bv
  generalize (calcM 9 a x).toNat = z at *
  generalize a.toNat = a at *
  generalize x.toNat = x at *
  go_enter Try.func31, Try.ntmps31
  go_wp2_with fail
  go_ret
  first | exact ⟨rfl, rfl⟩ | exact ⟨ret_u32 E, rfl⟩ | exact ⟨ret_u32 (by omega), rfl⟩
set_option maxRecDepth 10000 in
set_option maxHeartbeats 4000000 in
theorem rcalc_10 (a x : UInt32) (w : World) : Calls Try.prog 31 #[.int .u8 10, U.bv a, U.bv x] w fun e w' => e = .returned (U.bv (calcM 10 a x)) ∧ w' = w := by
  have E := calc_10 a x
  unfold U.bv
  generalize (calcM 10 a x).toNat = z at *
  generalize a.toNat = a at *
  generalize x.toNat = x at *
  go_enter Try.func31, Try.ntmps31
  go_wp2_with fail
  go_ret
  first | exact ⟨rfl, rfl⟩ | exact ⟨ret_u32 E, rfl⟩ | exact ⟨ret_u32 (by omega), rfl⟩
set_option maxRecDepth 10000 in
set_option maxHeartbeats 4000000 in
theorem rcalc_11 (a x : UInt32) (w : World) : Calls Try.prog 31 #[.int .u8 11, U.bv a, U.bv x] w fun e w' => e = .returned (U.bv (calcM 11 a x)) ∧ w' = w := by
  have E := calc_11 a x
  unfold U.bv
  by_cases h : x.toNat = 0
  · have hd : decide ((x.toNat : Int) = 0) = true := by simpa using h
    have E2 := E.1 h
    clear E
    generalize (calcM 11 a x).toNat = z at *
    generalize a.toNat = a at *
    generalize x.toNat = x at *
    go_enter Try.func31, Try.ntmps31
    go_wp2_with fail
    go_ret
    first | exact ⟨rfl, rfl⟩ | exact ⟨ret_u32 E2, rfl⟩ | exact ⟨ret_u32 (by omega), rfl⟩
  · have hd : decide ((x.toNat : Int) = 0) = false := by simpa using h
    have hz : ((x.toNat : Int) == 0) = false := by simpa using h
    have E2 := E.2 h
    have q0 := (calcM 11 a x).toNat_lt
    have q1 := a.toNat_lt
    have q2 := x.toNat_lt
    clear E
    generalize (calcM 11 a x).toNat = z at *
    generalize a.toNat = a at *
    generalize x.toNat = x at *
    go_enter Try.func31, Try.ntmps31
    go_wp2_with fail
    go_ret
    first | exact ⟨rfl, rfl⟩ | exact ⟨ret_u32 E2, rfl⟩ | exact ⟨ret_u32 (by omega), rfl⟩
set_option maxRecDepth 10000 in
set_option maxHeartbeats 4000000 in
theorem rcalc_12 (a x : UInt32) (w : World) : Calls Try.prog 31 #[.int .u8 12, U.bv a, U.bv x] w fun e w' => e = .returned (U.bv (calcM 12 a x)) ∧ w' = w := by
  have E := calc_12 a x
  unfold U.bv
  by_cases h : x.toNat = 0
  · have hd : decide ((x.toNat : Int) = 0) = true := by simpa using h
    have E2 := E.1 h
    clear E
    generalize (calcM 12 a x).toNat = z at *
    generalize a.toNat = a at *
    generalize x.toNat = x at *
    go_enter Try.func31, Try.ntmps31
    go_wp2_with fail
    go_ret
    first | exact ⟨rfl, rfl⟩ | exact ⟨ret_u32 E2, rfl⟩ | exact ⟨ret_u32 (by omega), rfl⟩
  · have hd : decide ((x.toNat : Int) = 0) = false := by simpa using h
    have hz : ((x.toNat : Int) == 0) = false := by simpa using h
    have E2 := E.2 h
    have q0 := (calcM 12 a x).toNat_lt
    have q1 := a.toNat_lt
    have q2 := x.toNat_lt
    clear E
    generalize (calcM 12 a x).toNat = z at *
    generalize a.toNat = a at *
    generalize x.toNat = x at *
    go_enter Try.func31, Try.ntmps31
    go_wp2_with fail
    go_ret
    first | exact ⟨rfl, rfl⟩ | exact ⟨ret_u32 E2, rfl⟩ | exact ⟨ret_u32 (by omega), rfl⟩
set_option maxRecDepth 10000 in
set_option maxHeartbeats 4000000 in
theorem rcalc_13 (a x : UInt32) (w : World) : Calls Try.prog 31 #[.int .u8 13, U.bv a, U.bv x] w fun e w' => e = .returned (U.bv (calcM 13 a x)) ∧ w' = w := by
  have E := calc_13 a x
  unfold U.bv
  generalize (calcM 13 a x).toNat = z at *
  generalize a.toNat = a at *
  generalize x.toNat = x at *
  go_enter Try.func31, Try.ntmps31
  go_wp2_with fail
  go_ret
  first | exact ⟨rfl, rfl⟩ | exact ⟨ret_u32 E, rfl⟩ | exact ⟨ret_u32 (by omega), rfl⟩
set_option maxRecDepth 10000 in
set_option maxHeartbeats 4000000 in
theorem rcalc_14 (a x : UInt32) (w : World) : Calls Try.prog 31 #[.int .u8 14, U.bv a, U.bv x] w fun e w' => e = .returned (U.bv (calcM 14 a x)) ∧ w' = w := by
  have E := calc_14d a x
  unfold U.bv
  generalize (calcM 14 a x).toNat = z at *
  generalize a.toNat = a at *
  generalize x.toNat = x at *
  go_enter Try.func31, Try.ntmps31
  go_wp2_with fail
  go_ret
  first | exact ⟨rfl, rfl⟩ | exact ⟨ret_u32 E, rfl⟩ | exact ⟨ret_u32 (by omega), rfl⟩
set_option maxRecDepth 10000 in
set_option maxHeartbeats 4000000 in
theorem rcalc_15 (a x : UInt32) (w : World) : Calls Try.prog 31 #[.int .u8 15, U.bv a, U.bv x] w fun e w' => e = .returned (U.bv (calcM 15 a x)) ∧ w' = w := by
  have E := calc_15 a x
  unfold U.bv
  generalize (calcM 15 a x).toNat = z at *
  generalize a.toNat = a at *
  generalize x.toNat = x at *
  go_enter Try.func31, Try.ntmps31
  go_wp2_with fail
  go_ret
  first | exact ⟨rfl, rfl⟩ | exact ⟨ret_u32 E, rfl⟩ | exact ⟨ret_u32 (by omega), rfl⟩
set_option maxRecDepth 10000 in
set_option maxHeartbeats 4000000 in
theorem rcalc_16 (a x : UInt32) (w : World) : Calls Try.prog 31 #[.int .u8 16, U.bv a, U.bv x] w fun e w' => e = .returned (U.bv (calcM 16 a x)) ∧ w' = w := by
  have E := calc_16 a x
  unfold U.bv
  generalize (calcM 16 a x).toNat = z at *
  generalize a.toNat = a at *
  generalize x.toNat = x at *
  go_enter Try.func31, Try.ntmps31
  go_wp2_with fail
  go_ret
  first | exact ⟨rfl, rfl⟩ | exact ⟨ret_u32 E, rfl⟩ | exact ⟨ret_u32 (by omega), rfl⟩
set_option maxRecDepth 10000 in
set_option maxHeartbeats 4000000 in
theorem rcalc_17 (a x : UInt32) (w : World) : Calls Try.prog 31 #[.int .u8 17, U.bv a, U.bv x] w fun e w' => e = .returned (U.bv (calcM 17 a x)) ∧ w' = w := by
  have E := calc_17 a x
  unfold U.bv
  generalize (calcM 17 a x).toNat = z at *
  generalize a.toNat = a at *
  generalize x.toNat = x at *
  go_enter Try.func31, Try.ntmps31
  go_wp2_with fail
  go_ret
  first | exact ⟨rfl, rfl⟩ | exact ⟨ret_u32 E, rfl⟩ | exact ⟨ret_u32 (by omega), rfl⟩
set_option maxRecDepth 10000 in
set_option maxHeartbeats 4000000 in
theorem rcalc_18 (a x : UInt32) (w : World) : Calls Try.prog 31 #[.int .u8 18, U.bv a, U.bv x] w fun e w' => e = .returned (U.bv (calcM 18 a x)) ∧ w' = w := by
  have E := calc_18 a x
  unfold U.bv
  generalize (calcM 18 a x).toNat = z at *
  generalize a.toNat = a at *
  generalize x.toNat = x at *
  go_enter Try.func31, Try.ntmps31
  go_wp2_with fail
  go_ret
  first | exact ⟨rfl, rfl⟩ | exact ⟨ret_u32 E, rfl⟩ | exact ⟨ret_u32 (by omega), rfl⟩
theorem rcalc_any (o : Int) (ho : 8 ≤ o ∧ o ≤ 18) (a x : UInt32) (w : World) : Calls Try.prog 31 #[.int .u8 o, U.bv a, U.bv x] w fun e w' => e = .returned (U.bv (calcM o a x)) ∧ w' = w := by
  rcases (by omega : o = 8 ∨ o = 9 ∨ o = 10 ∨ o = 11 ∨ o = 12 ∨ o = 13 ∨ o = 14 ∨ o = 15 ∨ o = 16 ∨ o = 17 ∨ o = 18) with rfl | rfl | rfl | rfl | rfl | rfl | rfl | rfl | rfl | rfl | rfl
  · exact rcalc_8 a x w
  · exact rcalc_9 a x w
  · exact rcalc_10 a x w
  · exact rcalc_11 a x w
  · exact rcalc_12 a x w
  · exact rcalc_13 a x w
  · exact rcalc_14 a x w
  · exact rcalc_15 a x w
  · exact rcalc_16 a x w
  · exact rcalc_17 a x w
  · exact rcalc_18 a x w
set_option maxRecDepth 10000 in
set_option maxHeartbeats 8000000 in
theorem rat_any (w : World) (x : Mn) (p n : Int) (AH AM : Option Addr) (nH cH nM cM : Nat) (h : U.IsBB w w.heap.size AH nH cH x.h) (hm : IsBB w w.heap.size AM nM cM x.m) (hok : x.ok) :
    Calls Try.prog 29 #[vM x (.slice AH nH cH) (.slice AM nM cM), .int .i64 p, .int .i64 n] w fun e w' => e = .returned (U.bv (atM x p n)) ∧ Below w.heap.size w w' := by
  have hr := mr_box h hm
  have hlh := h.len
  have hlm := hm.len
  have HB : Hid (Below w.heap.size w (w.alloc (.cells (mcL x (.slice AH nH cH) (.slice AM nM cM)).toArray 30))) := (Below.refl _ w).alloc (Nat.le_refl _) _
  unfold vM
  by_cases e0 : p = 0
  · subst e0
    rw [at_0]
    have c3 := hr.ca
    clear h hm hr hok hlh hlm
    unfold U.bv at *
    generalize mcL x _ _ = L at *
    go_enter Try.func29, Try.ntmps29
    go_upto_region 1 with fail
    generalize w.alloc (.cells L.toArray 30) = W at *
    go_wp2_with fail
    go_ret
    exact ⟨rfl, HB.out⟩
  by_cases e1 : p = 1
  · subst e1
    rw [at_1]
    have c3 := hr.cb
    clear h hm hr hok hlh hlm
    unfold U.bv at *
    generalize mcL x _ _ = L at *
    go_enter Try.func29, Try.ntmps29
    go_upto_region 1 with fail
    generalize w.alloc (.cells L.toArray 30) = W at *
    go_wp2_with fail
    go_ret
    exact ⟨rfl, HB.out⟩
  by_cases e2 : p = 2
  · subst e2
    rw [at_2]
    have c3 := hr.cc
    clear h hm hr hok hlh hlm
    unfold U.bv at *
    generalize mcL x _ _ = L at *
    go_enter Try.func29, Try.ntmps29
    go_upto_region 1 with fail
    generalize w.alloc (.cells L.toArray 30) = W at *
    go_wp2_with fail
    go_ret
    exact ⟨rfl, HB.out⟩
  by_cases e3 : p = 3
  · subst e3
    rw [at_3]
    have c3 := hr.cd
    clear h hm hr hok hlh hlm
    unfold U.bv at *
    generalize mcL x _ _ = L at *
    go_enter Try.func29, Try.ntmps29
    go_upto_region 1 with fail
    generalize w.alloc (.cells L.toArray 30) = W at *
    go_wp2_with fail
    go_ret
    exact ⟨rfl, HB.out⟩
  by_cases e4 : p = 4
  · subst e4
    rw [at_4, hlm]
    have c3 := hr.cb
    have c4 := hr.cm
    obtain ⟨k, hk, hk2⟩ := hok.2
    rw [hlm] at hk2
    have hn0 : 0 < nM := by rw [hk2]; exact Nat.two_pow_pos k
    have HW := hid (fun w => index_any x.b.toNat nM k (by omega) hk2 x.b.toNat_lt w)
    have hjl := Nat.mod_lt x.b.toNat hn0
    obtain ⟨ad, rfl, c5⟩ := hr.m.toIsB.at _ hjl
    unfold U.bv at *
    have E : ((x.m.getD (x.b.toNat % nM) 0).toNat : Int) = ((x.m.getD (x.b.toNat % nM) 0).toUInt32.toNat : Int) := by simp
    have q1 := (x.m.getD (x.b.toNat % nM) 0).toUInt32.toNat_lt
    clear h hm hr hok hlh hlm hk2 hn0
    generalize (x.m.getD (x.b.toNat % nM) 0).toUInt32.toNat = z at *
    generalize (x.m.getD (x.b.toNat % nM) 0).toNat = y at *
    generalize x.b.toNat % nM = j at *
    generalize x.b.toNat = bb at *
    have hjz : (j : Int) < (nM : Int) := by omega
    generalize mcL x _ _ = L at *
    go_enter Try.func29, Try.ntmps29
    go_upto_region 1 with fail
    generalize w.alloc (.cells L.toArray 30) = W at *
    go_wp2_with fail
    go_quiet ((go_at_call 51; exact Calls.quiet_of_same (HW.out _)))
    go_wp2_with fail
    go_ret
    exact ⟨ret_u32 (by omega), below_drewN HB.out nq⟩
  by_cases e5 : p = 5
  · subst e5
    rw [at_5, hlm]
    have c3 := hr.cc
    have c4 := hr.cm
    obtain ⟨k, hk, hk2⟩ := hok.2
    rw [hlm] at hk2
    have hn0 : 0 < nM := by rw [hk2]; exact Nat.two_pow_pos k
    have HW := hid (fun w => index_any x.c.toNat nM k (by omega) hk2 x.c.toNat_lt w)
    have hjl := Nat.mod_lt x.c.toNat hn0
    obtain ⟨ad, rfl, c5⟩ := hr.m.toIsB.at _ hjl
    unfold U.bv at *
    have E : ((x.m.getD (x.c.toNat % nM) 0).toNat : Int) = ((x.m.getD (x.c.toNat % nM) 0).toUInt32.toNat : Int) := by simp
    have q1 := (x.m.getD (x.c.toNat % nM) 0).toUInt32.toNat_lt
    clear h hm hr hok hlh hlm hk2 hn0
    generalize (x.m.getD (x.c.toNat % nM) 0).toUInt32.toNat = z at *
    generalize (x.m.getD (x.c.toNat % nM) 0).toNat = y at *
    generalize x.c.toNat % nM = j at *
    generalize x.c.toNat = bb at *
    have hjz : (j : Int) < (nM : Int) := by omega
    generalize mcL x _ _ = L at *
    go_enter Try.func29, Try.ntmps29
    go_upto_region 1 with fail
    generalize w.alloc (.cells L.toArray 30) = W at *
    go_wp2_with fail
    go_quiet ((go_at_call 51; exact Calls.quiet_of_same (HW.out _)))
    go_wp2_with fail
    go_ret
    exact ⟨ret_u32 (by omega), below_drewN HB.out nq⟩
  by_cases e6 : p = 6
  · subst e6
    rw [at_6, hlh]
    have c3 := hr.cd
    have c4 := hr.ch
    obtain ⟨k, hk, hk2⟩ := hok.1
    rw [hlh] at hk2
    have hn0 : 0 < nH := by rw [hk2]; exact Nat.two_pow_pos k
    have HW := hid (fun w => index_any x.d.toNat nH k (by omega) hk2 x.d.toNat_lt w)
    have hjl := Nat.mod_lt x.d.toNat hn0
    obtain ⟨ad, rfl, c5⟩ := hr.h.toIsB.at _ hjl
    unfold U.bv at *
    clear h hm hr hok hlh hlm hk2 hn0
    generalize (x.h.getD (x.d.toNat % nH) 0).toNat = z at *
    generalize x.d.toNat % nH = j at *
    generalize x.d.toNat = bb at *
    have hjz : (j : Int) < (nH : Int) := by omega
    generalize mcL x _ _ = L at *
    go_enter Try.func29, Try.ntmps29
    go_upto_region 1 with fail
    generalize w.alloc (.cells L.toArray 30) = W at *
    go_wp2_with fail
    go_quiet ((go_at_call 51; exact Calls.quiet_of_same (HW.out _)))
    go_wp2_with fail
    go_ret
    exact ⟨rfl, below_drewN HB.out nq⟩
  rw [at_else x p n (by omega)]
  have n0 : (p == 0) = false := by simp only [beq_eq_false_iff_ne, ne_eq]; omega
  have n1 : (p == 1) = false := by simp only [beq_eq_false_iff_ne, ne_eq]; omega
  have n2 : (p == 2) = false := by simp only [beq_eq_false_iff_ne, ne_eq]; omega
  have n3 : (p == 3) = false := by simp only [beq_eq_false_iff_ne, ne_eq]; omega
  have n4 : (p == 4) = false := by simp only [beq_eq_false_iff_ne, ne_eq]; omega
  have n5 : (p == 5) = false := by simp only [beq_eq_false_iff_ne, ne_eq]; omega
  have n6 : (p == 6) = false := by simp only [beq_eq_false_iff_ne, ne_eq]; omega
  have E := u32_nat n
  unfold U.bv
  generalize (u32 n).toNat = z at *
  clear h hm hr hok hlh hlm
  generalize mcL x _ _ = L at *
  go_enter Try.func29, Try.ntmps29
  go_upto_region 1 with fail
  generalize w.alloc (.cells L.toArray 30) = W at *
  go_wp2_with fail
  go_ret
  exact ⟨ret_u32 (by first | rfl | omega), HB.out⟩
end Go.Proofs.Ytaogileaeflnfaa
