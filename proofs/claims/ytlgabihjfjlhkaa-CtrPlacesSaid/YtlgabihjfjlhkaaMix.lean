/-
  The contract of 'mix': the columns mixed, in memory.
-/
import Derived.Test.YtlgabihjfjlhkaaBox
import Derived.Outline
import Derived.StillTailTactics
namespace Go.Proofs.Ytlgabihjfjlhkaa
open Go.RowKit

theorem xt_mix (a b c d : Nat) (ha : a < 256) (hb : b < 256) (_hc : c < 256) (_hd : d < 256) : (a ^^^ (((a ^^^ b) ^^^ c) ^^^ d)) ^^^ xtN (a ^^^ b) = mixN a b c d := by
  have e2 := all1 gf_two_all a ha
  have e3 := all1 gf_two_all b hb
  simp only [Bool.and_eq_true, beq_iff_eq] at e2 e3
  have g2 : gf 2 a = xtN a := by rw [gf_comm 2 a (by omega) ha, e2.1]
  have g3 : gf 3 b = xtN b ^^^ b := by rw [gf_comm 3 b (by omega) hb, e3.2]
  unfold mixN
  rw [g2, g3, xtN_xor a b ha hb]
  have e : (a ^^^ (((a ^^^ b) ^^^ c) ^^^ d)) ^^^ (xtN a ^^^ xtN b) = (a ^^^ a) ^^^ (((xtN a ^^^ (xtN b ^^^ b)) ^^^ c) ^^^ d) := by ac_rfl
  rw [e, Nat.xor_self, Nat.zero_xor]
theorem all_turn (a b c d : Nat) : (((a ^^^ b) ^^^ c) ^^^ d) = (((b ^^^ c) ^^^ d) ^^^ a) := by ac_rfl
/-- The first n columns mixed. -/
def mixP (f : Blk16) (n : Nat) : Blk16 := fun j => if j < 4 * n then mixF f j else f j
theorem mixP_next (f : Blk16) (n : Nat) : Same
    (upd (upd (upd (upd (mixP f n) (4 * n) (mixN (f (4 * n)) (f (4 * n + 1)) (f (4 * n + 2)) (f (4 * n + 3)))) (4 * n + 1) (mixN (f (4 * n + 1)) (f (4 * n + 2)) (f (4 * n + 3)) (f (4 * n)))) (4 * n + 2) (mixN (f (4 * n + 2)) (f (4 * n + 3)) (f (4 * n)) (f (4 * n + 1)))) (4 * n + 3) (mixN (f (4 * n + 3)) (f (4 * n)) (f (4 * n + 1)) (f (4 * n + 2))))
    (mixP f (n + 1)) := by
  intro j _
  unfold upd mixP
  by_cases e3 : j = 4 * n + 3
  · subst e3
    rw [if_pos rfl, if_pos (by omega)]
    unfold mixF
    rw [show inCol (4 * n + 3) 1 = 4 * n by unfold inCol; omega, show inCol (4 * n + 3) 2 = 4 * n + 1 by unfold inCol; omega, show inCol (4 * n + 3) 3 = 4 * n + 2 by unfold inCol; omega]
  rw [if_neg e3]
  by_cases e2 : j = 4 * n + 2
  · subst e2
    rw [if_pos rfl, if_pos (by omega)]
    unfold mixF
    rw [show inCol (4 * n + 2) 1 = 4 * n + 3 by unfold inCol; omega, show inCol (4 * n + 2) 2 = 4 * n by unfold inCol; omega, show inCol (4 * n + 2) 3 = 4 * n + 1 by unfold inCol; omega]
  rw [if_neg e2]
  by_cases e1 : j = 4 * n + 1
  · subst e1
    rw [if_pos rfl, if_pos (by omega)]
    unfold mixF
    rw [show inCol (4 * n + 1) 1 = 4 * n + 2 by unfold inCol; omega, show inCol (4 * n + 1) 2 = 4 * n + 3 by unfold inCol; omega, show inCol (4 * n + 1) 3 = 4 * n by unfold inCol; omega]
  rw [if_neg e1]
  by_cases e0 : j = 4 * n
  · subst e0
    rw [if_pos rfl, if_pos (by omega)]
    unfold mixF
    rw [show inCol (4 * n) 1 = 4 * n + 1 by unfold inCol; omega, show inCol (4 * n) 2 = 4 * n + 2 by unfold inCol; omega, show inCol (4 * n) 3 = 4 * n + 3 by unfold inCol; omega]
  rw [if_neg e0]
  by_cases h : j < 4 * n
  · rw [if_pos h, if_pos (by omega)]
  · rw [if_neg h, if_neg (by omega)]
theorem mixP_at (f : Blk16) (n i : Nat) (h : 4 * n ≤ i) : mixP f n i = f i := by unfold mixP; rw [if_neg (by omega)]
structure MixSt (w wr : World) (g : Nat) (f : Blk16) : Prop where
  blk : BlkAt wr g f
  but : But g w wr
theorem MixSt.drewN {w wr : World} {g : Nat} {f : Blk16} (s : MixSt w wr g f) (n : Nat) : MixSt w (wr.drewN n) g f := ⟨s.blk, s.but.drewN n⟩
theorem MixSt.drew {w wr : World} {g : Nat} {f : Blk16} (s : MixSt w wr g f) : MixSt w wr.drew g f := ⟨s.blk, s.but.drew⟩
theorem MixSt.set {w wr : World} {g : Nat} {f : Blk16} (s : MixSt w wr g f) (j v : Nat) (hj : j < 16) : MixSt w (wr.setCell ⟨g, j, none⟩ (.int .u8 (v : Nat))) g (upd f j v) := ⟨s.blk.set j v hj, s.but.set j _⟩
/-- What a column's four bytes come to, as the walk spells it. -/
structure ColEq (a b c d : Nat) : Prop where
  la : a < 256
  lb : b < 256
  lc : c < 256
  ld : d < 256

set_option maxRecDepth 10000 in
set_option maxHeartbeats 2000000 in
theorem mix_any (g : Nat) (f : Blk16) (w : World) (h : BlkAt w g f) (hf : Low f) :
    Calls Try.prog 26 #[.pointer (some ⟨g, 0, none⟩)] w fun e w' => e = .returned (.tuple #[]) ∧ BlkAt w' g (mixF f) ∧ But g w w' := by
  have S0 : Hid (MixSt w w g (mixP f 0)) := ⟨h.same (fun j _ => by unfold mixP; rw [if_neg (by omega)]), But.refl g w⟩
  clear h
  go_enter Try.func26, Try.ntmps26
  go_wp2_with fail
  go_loopw [2] (fun i wr => ∃ t : Nat, t ≤ 4 ∧ i = .int .i64 ((4 * t : Nat) : Int) ∧ Hid (MixSt w wr g (mixP f t))) (fun i _ => 16 - (intOf i).toNat)
  case atStart => exact ⟨0, Nat.zero_le _, rfl, S0⟩
  case round =>
    obtain ⟨t, ht, rfl, hs⟩ := hrel
    clear S0
    by_cases hlt : t < 4
    · have hlz : ((4 * t : Nat) : Int) < 16 := by omega
      have Hnx := hid (mixP_next f t)
      have c0 := hs.out.blk.cell (4 * t) (by omega)
      have c1 := hs.out.blk.cell (4 * t + 1) (by omega)
      have c2 := hs.out.blk.cell (4 * t + 2) (by omega)
      have c3 := hs.out.blk.cell (4 * t + 3) (by omega)
      rw [mixP_at f t _ (by omega)] at c0 c1 c2 c3
      have la := hf (4 * t) (by omega)
      have lb := hf (4 * t + 1) (by omega)
      have lc := hf (4 * t + 2) (by omega)
      have ld := hf (4 * t + 3) (by omega)
      generalize mixP f t = F at hs Hnx
      generalize f (4 * t) = a at c0 la Hnx
      generalize f (4 * t + 1) = b at c1 lb Hnx
      generalize f (4 * t + 2) = c at c2 lc Hnx
      generalize f (4 * t + 3) = d at c3 ld Hnx
      obtain ⟨i, hi⟩ : ∃ i, i = 4 * t := ⟨_, rfl⟩
      rw [← hi] at hlz c0 c1 c2 c3 Hnx ⊢
      have Hi := hid hi
      have hi16 : i + 3 < 16 := by omega
      have hii : (i : Int) + 3 < 16 := by omega
      have m0 := xt_mix a b c d la lb lc ld
      have m1 := xt_mix b c d a lb lc ld la
      have m2 := xt_mix c d a b lc ld la lb
      have m3 := xt_mix d a b c ld la lb lc
      rw [← all_turn a b c d] at m1
      rw [← all_turn b c d a, ← all_turn a b c d] at m2
      rw [← all_turn c d a b, ← all_turn b c d a, ← all_turn a b c d] at m3
      have p0 := u8_xor_nat _ _ la lb
      have p1 := u8_xor_nat _ _ lb lc
      have p2 := u8_xor_nat _ _ lc ld
      have p3 := u8_xor_nat _ _ ld la
      have s0 := xor8 la lb
      have s1 := xor8 lb lc
      have s2 := xor8 lc ld
      have s3 := xor8 ld la
      have q1 := u8_xor_nat _ _ s0 lc
      have q2 := u8_xor_nat _ _ (xor8 s0 lc) ld
      have lz := xor8 (xor8 s0 lc) ld
      generalize ((a ^^^ b) ^^^ c) ^^^ d = z at q2 lz m0 m1 m2 m3
      generalize (a ^^^ b) ^^^ c = y at q1 q2
      generalize a ^^^ b = ab at p0 s0 q1 m0
      generalize b ^^^ c = bc at p1 s1 m1
      generalize c ^^^ d = cd at p2 s2 m2
      generalize d ^^^ a = da at p3 s3 m3
      have r0 := u8_xor_nat _ _ la lz
      have r1 := u8_xor_nat _ _ lb lz
      have r2 := u8_xor_nat _ _ lc lz
      have r3 := u8_xor_nat _ _ ld lz
      have t0 := u8_xor_nat _ _ (xor8 la lz) (xtN_lt ab s0)
      have t1 := u8_xor_nat _ _ (xor8 lb lz) (xtN_lt bc s1)
      have t2 := u8_xor_nat _ _ (xor8 lc lz) (xtN_lt cd s2)
      have t3 := u8_xor_nat _ _ (xor8 ld lz) (xtN_lt da s3)
      rw [m0] at t0
      rw [m1] at t1
      rw [m2] at t2
      rw [m3] at t3
      clear m0 m1 m2 m3
      generalize mixN a b c d = v0 at t0 Hnx
      generalize mixN b c d a = v1 at t1 Hnx
      generalize mixN c d a b = v2 at t2 Hnx
      generalize mixN d a b c = v3 at t3 Hnx
      generalize a ^^^ z = az at r0 t0
      generalize b ^^^ z = bz at r1 t1
      generalize c ^^^ z = cz at r2 t2
      generalize d ^^^ z = dz at r3 t3
      have D0 := hid (double_any ab s0)
      have D1 := hid (double_any bc s1)
      have D2 := hid (double_any cd s2)
      have D3 := hid (double_any da s3)
      generalize xtN ab = xa at t0 D0
      generalize xtN bc = xb at t1 D1
      generalize xtN cd = xc at t2 D2
      generalize xtN da = xd at t3 D3
      clear hi s0 s1 s2 s3 lz
      have f0 := hs.out.blk.free i
      have f1 := hs.out.blk.free (i + 1)
      have f2 := hs.out.blk.free (i + 2)
      have f3 := hs.out.blk.free (i + 3)
      go_wp2_with fail
      go_quiet (fail)
      go_wp2_with fail
      clear c0 c1 c2 c3 f0 f1 f2 f3
      have S0 := hid (hs.out.drewN nq)
      generalize wr.drewN nq = W0 at S0 ⊢
      have c0 := S0.out.blk.cell (i) (by omega)
      have f0 := S0.out.blk.free (i)
      have S1 := hid ((S0.out.set (i) v0 (by omega)).drew)
      generalize (F) (i) = o0 at c0
      go_still_tail 12, (by kernel_rfl)
      refine wpStill_step (fun K hK => ?_)
      go_simp
      refine ⟨_, (D0.out _).mono (fun e w' h => ⟨h.1, h.2.symm⟩), hK _ ?_⟩
      clear hK K
      repeat still_step
      refine wpStill_nil ?_
      change wpList _ _ _ _ _ W0.drew
      go_wp2_with fail
      clear c0 f0 S0 D0 t0
      generalize (W0.setCell ⟨g, i, none⟩ (.int .u8 (v0 : Nat))).drew = W1 at S1 ⊢
      have c1 := S1.out.blk.cell (i + 1) (by omega)
      have f1 := S1.out.blk.free (i + 1)
      have iw1 : IntKind.i64.wrap ((i : Int) + 1) = (i : Int) + 1 := IntWalk.i64_in _ (by omega)
      have in1 : ((i : Int) + 1).toNat = i + 1 := by omega
      have ip1 : 0 ≤ (i : Int) + 1 := by omega
      have il1 : (i : Int) + 1 < 16 := by omega
      have S2 := hid ((S1.out.set (i + 1) v1 (by omega)).drew)
      generalize (upd (F) (i) v0) (i + 1) = o1 at c1
      go_still_tail 13, (by kernel_rfl)
      refine wpStill_step (fun K hK => ?_)
      go_simp
      refine ⟨_, (D1.out _).mono (fun e w' h => ⟨h.1, h.2.symm⟩), hK _ ?_⟩
      clear hK K
      repeat still_step
      refine wpStill_nil ?_
      change wpList _ _ _ _ _ W1.drew
      go_wp2_with fail
      clear c1 f1 S1 D1 t1
      generalize (W1.setCell ⟨g, i + 1, none⟩ (.int .u8 (v1 : Nat))).drew = W2 at S2 ⊢
      have c2 := S2.out.blk.cell (i + 2) (by omega)
      have f2 := S2.out.blk.free (i + 2)
      have iw2 : IntKind.i64.wrap ((i : Int) + 2) = (i : Int) + 2 := IntWalk.i64_in _ (by omega)
      have in2 : ((i : Int) + 2).toNat = i + 2 := by omega
      have ip2 : 0 ≤ (i : Int) + 2 := by omega
      have il2 : (i : Int) + 2 < 16 := by omega
      have S3 := hid ((S2.out.set (i + 2) v2 (by omega)).drew)
      generalize (upd (upd (F) (i) v0) (i + 1) v1) (i + 2) = o2 at c2
      go_still_tail 13, (by kernel_rfl)
      refine wpStill_step (fun K hK => ?_)
      go_simp
      refine ⟨_, (D2.out _).mono (fun e w' h => ⟨h.1, h.2.symm⟩), hK _ ?_⟩
      clear hK K
      repeat still_step
      refine wpStill_nil ?_
      change wpList _ _ _ _ _ W2.drew
      go_wp2_with fail
      clear c2 f2 S2 D2 t2
      generalize (W2.setCell ⟨g, i + 2, none⟩ (.int .u8 (v2 : Nat))).drew = W3 at S3 ⊢
      have c3 := S3.out.blk.cell (i + 3) (by omega)
      have f3 := S3.out.blk.free (i + 3)
      have iw3 : IntKind.i64.wrap ((i : Int) + 3) = (i : Int) + 3 := IntWalk.i64_in _ (by omega)
      have in3 : ((i : Int) + 3).toNat = i + 3 := by omega
      have ip3 : 0 ≤ (i : Int) + 3 := by omega
      have il3 : (i : Int) + 3 < 16 := by omega
      have S4 := hid ((S3.out.set (i + 3) v3 (by omega)).drew)
      generalize (upd (upd (upd (F) (i) v0) (i + 1) v1) (i + 2) v2) (i + 3) = o3 at c3
      go_still_tail 13, (by kernel_rfl)
      refine wpStill_step (fun K hK => ?_)
      go_simp
      refine ⟨_, (D3.out _).mono (fun e w' h => ⟨h.1, h.2.symm⟩), hK _ ?_⟩
      clear hK K
      repeat still_step
      refine wpStill_nil ?_
      change wpList _ _ _ _ _ W3.drew
      go_wp2_with fail
      clear c3 f3 S3 D3 t3
      go_roundw
      case rel => exact ⟨t + 1, by omega, by rw [Hi.out]; go_num, hid ⟨S4.out.blk.same Hnx.out, S4.out.but⟩⟩
      case measure => simp [intOf]; omega
    · obtain rfl : t = 4 := by omega
      have e : Same (mixP f 4) (mixF f) := fun j hj => by unfold mixP; rw [if_pos (by omega)]
      go_wp2_with fail
      refine bodyPost_end (results_none rfl _ _ _) rfl ⟨rfl, hs.out.blk.same e, hs.out.but⟩
end Go.Proofs.Ytlgabihjfjlhkaa
