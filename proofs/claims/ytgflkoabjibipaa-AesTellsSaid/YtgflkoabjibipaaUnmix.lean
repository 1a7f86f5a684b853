/-
  The contract of 'unmix': the columns unmixed, in memory.
-/
import Derived.Test.YtgflkoabjibipaaMix
import Derived.BigQuiet
namespace Go.Proofs.Ytgflkoabjibipaa
open Go.RowKit

theorem coef3_all : ((List.range 256).all fun x =>
    (gf 2 (x ^^^ xtN (xtN x)) ^^^ xtN (xtN x)) == gf 14 x && (gf 3 (x ^^^ xtN (xtN x)) ^^^ xtN (xtN x)) == gf 11 x &&
    (gf 2 (xtN (xtN x)) ^^^ (x ^^^ xtN (xtN x))) == gf 13 x && (gf 3 (xtN (xtN x)) ^^^ (x ^^^ xtN (xtN x))) == gf 9 x) = true := by kernel_rfl
theorem xt2_xor (a b : Nat) (ha : a < 256) (hb : b < 256) : xtN (xtN (a ^^^ b)) = xtN (xtN a) ^^^ xtN (xtN b) := by
  rw [xtN_xor a b ha hb, xtN_xor _ _ (xtN_lt a ha) (xtN_lt b hb)]
theorem mix_pre (a b c d : Nat) (ha : a < 256) (hb : b < 256) (hc : c < 256) (hd : d < 256) :
    mixN (a ^^^ xtN (xtN (a ^^^ c))) (b ^^^ xtN (xtN (b ^^^ d))) (c ^^^ xtN (xtN (c ^^^ a))) (d ^^^ xtN (xtN (d ^^^ b))) = unmixN a b c d := by
  have h1 := all1 coef3_all a ha
  have h2 := all1 coef3_all b hb
  have h3 := all1 coef3_all c hc
  have h4 := all1 coef3_all d hd
  simp only [Bool.and_eq_true, beq_iff_eq] at h1 h2 h3 h4
  unfold unmixN mixN
  rw [← h1.1.1.1, ← h2.1.1.2, ← h3.1.2, ← h4.2, xt2_xor a c ha hc, xt2_xor b d hb hd, xt2_xor c a hc ha, xt2_xor d b hd hb]
  simp only [gf_xor_right]
  ac_rfl
def preF (f : Blk16) : Blk16 := fun j => f j ^^^ xtN (xtN (f j ^^^ f (inCol j 2)))
theorem Low.pre {f : Blk16} (h : Low f) : Low (preF f) := fun j hj => xor8 (h j hj) (xtN_lt _ (xtN_lt _ (xor8 (h j hj) (h _ (inCol_lt j 2 hj)))))
theorem mix_preF {f : Blk16} (h : Low f) : Same (mixF (preF f)) (unmixF f) := fun j hj => by
  have e := mix_pre (f j) (f (inCol j 1)) (f (inCol j 2)) (f (inCol j 3)) (h j hj) (h _ (inCol_lt j 1 hj)) (h _ (inCol_lt j 2 hj)) (h _ (inCol_lt j 3 hj))
  unfold unmixF mixF preF
  simp only [inCol_in j _ _ hj, Nat.reduceAdd, inCol_four, show inCol j 5 = inCol j 1 from inCol_mod j 1]
  exact e
def preP (f : Blk16) (n : Nat) : Blk16 := fun j => if j < 4 * n then preF f j else f j
theorem preP_at (f : Blk16) (n i : Nat) (h : 4 * n ≤ i) : preP f n i = f i := by unfold preP; rw [if_neg (by omega)]
theorem preP_next (f : Blk16) (n : Nat) : Same
    (upd (upd (upd (upd (preP f n) (4 * n) (f (4 * n) ^^^ xtN (xtN (f (4 * n) ^^^ f (4 * n + 2))))) (4 * n + 1) (f (4 * n + 1) ^^^ xtN (xtN (f (4 * n + 1) ^^^ f (4 * n + 3))))) (4 * n + 2) (f (4 * n + 2) ^^^ xtN (xtN (f (4 * n) ^^^ f (4 * n + 2))))) (4 * n + 3) (f (4 * n + 3) ^^^ xtN (xtN (f (4 * n + 1) ^^^ f (4 * n + 3)))))
    (preP f (n + 1)) := by
  intro j _
  unfold upd preP
  by_cases e3 : j = 4 * n + 3
  · subst e3
    rw [if_pos rfl, if_pos (by omega)]
    unfold preF
    rw [show inCol (4 * n + 3) 2 = 4 * n + 1 by unfold inCol; omega, Nat.xor_comm (f (4 * n + 1)) (f (4 * n + 3))]
  rw [if_neg e3]
  by_cases e2 : j = 4 * n + 2
  · subst e2
    rw [if_pos rfl, if_pos (by omega)]
    unfold preF
    rw [show inCol (4 * n + 2) 2 = 4 * n by unfold inCol; omega, Nat.xor_comm (f (4 * n)) (f (4 * n + 2))]
  rw [if_neg e2]
  by_cases e1 : j = 4 * n + 1
  · subst e1
    rw [if_pos rfl, if_pos (by omega)]
    unfold preF
    rw [show inCol (4 * n + 1) 2 = 4 * n + 3 by unfold inCol; omega]
  rw [if_neg e1]
  by_cases e0 : j = 4 * n
  · subst e0
    rw [if_pos rfl, if_pos (by omega)]
    unfold preF
    rw [show inCol (4 * n) 2 = 4 * n + 2 by unfold inCol; omega]
  rw [if_neg e0]
  by_cases h : j < 4 * n
  · rw [if_pos h, if_pos (by omega)]
  · rw [if_neg h, if_neg (by omega)]
theorem double_z (x : Nat) (hx : x < 256) (w : World) (n : Nat) : Calls Try.prog 34 #[.int .u8 x] (w.drewN n) fun e w' => e = .returned (.int .u8 (xtN x : Nat)) ∧ ∃ m, w' = w.drewN m :=
  (double_any x hx _).mono (fun _ _ h => ⟨h.1, n, h.2.symm⟩)
theorem upd_other (f : Blk16) (i j v : Nat) (h : j ≠ i) : upd f i v j = f j := by unfold upd; rw [if_neg h]

set_option maxRecDepth 10000 in
set_option maxHeartbeats 2000000 in
theorem unmix_any (g : Nat) (f : Blk16) (w : World) (h : BlkAt w g f) (hf : Low f) :
    Calls Try.prog 30 #[.pointer (some ⟨g, 0, none⟩)] w fun e w' => e = .returned (.tuple #[]) ∧ BlkAt w' g (unmixF f) ∧ But g w w' := by
  have S0 : Hid (MixSt w w g (preP f 0)) := ⟨h.same (fun j _ => by unfold preP; rw [if_neg (by omega)]), But.refl g w⟩
  clear h
  go_enter Try.func30, Try.ntmps30
  go_wp2_with fail
  go_loopw [2] (fun i wr => ∃ t : Nat, t ≤ 4 ∧ i = .int .i64 ((4 * t : Nat) : Int) ∧ Hid (MixSt w wr g (preP f t))) (fun i _ => 16 - (intOf i).toNat)
  case atStart => exact ⟨0, Nat.zero_le _, rfl, S0⟩
  case round =>
    obtain ⟨t, ht, rfl, hs⟩ := hrel
    clear S0
    by_cases hlt : t < 4
    · have hlz : ((4 * t : Nat) : Int) < 16 := by omega
      have Hnx := hid (preP_next f t)
      have e0 := preP_at f t (4 * t) (by omega)
      have e1 := preP_at f t (4 * t + 1) (by omega)
      have e2 := preP_at f t (4 * t + 2) (by omega)
      have e3 := preP_at f t (4 * t + 3) (by omega)
      have la := hf (4 * t) (by omega)
      have lb := hf (4 * t + 1) (by omega)
      have lc := hf (4 * t + 2) (by omega)
      have ld := hf (4 * t + 3) (by omega)
      generalize preP f t = F at hs Hnx e0 e1 e2 e3
      generalize f (4 * t) = a at e0 la Hnx
      generalize f (4 * t + 1) = b at e1 lb Hnx
      generalize f (4 * t + 2) = c at e2 lc Hnx
      generalize f (4 * t + 3) = d at e3 ld Hnx
      obtain ⟨i, hi⟩ : ∃ i, i = 4 * t := ⟨_, rfl⟩
      rw [← hi] at hlz e0 e1 e2 e3 Hnx ⊢
      have Hi := hid hi
      have hi16 : i + 3 < 16 := by omega
      have hii : (i : Int) + 3 < 16 := by omega
      have c0 := hs.out.blk.cell i (by omega)
      have c1 := hs.out.blk.cell (i + 1) (by omega)
      have c2 := hs.out.blk.cell (i + 2) (by omega)
      have c3 := hs.out.blk.cell (i + 3) (by omega)
      rw [e0] at c0
      rw [e1] at c1
      rw [e2] at c2
      rw [e3] at c3
      have He := hid (And.intro (And.intro e0 e1) (And.intro e2 e3))
      have p0 := u8_xor_nat _ _ la lc
      have p1 := u8_xor_nat _ _ lb ld
      have s0 := xor8 la lc
      have s1 := xor8 lb ld
      generalize a ^^^ c = ac at p0 s0 Hnx
      generalize b ^^^ d = bd at p1 s1 Hnx
      have t0 := xtN_lt ac s0
      have t1 := xtN_lt bd s1
      have u0 := xtN_lt _ t0
      have u1 := xtN_lt _ t1
      have D0 := hid (double_z ac s0)
      have D1 := hid (double_z bd s1)
      have E0 := hid (double_z _ t0)
      have E1 := hid (double_z _ t1)
      generalize xtN (xtN ac) = ev at u0 E0 Hnx
      generalize xtN ac = ac2 at D0 E0
      generalize xtN (xtN bd) = od at u1 E1 Hnx
      generalize xtN bd = bd2 at D1 E1
      clear t0 t1 s0 s1 e0 e1 e2 e3
      have q0 := u8_xor_nat _ _ la u0
      have q1 := u8_xor_nat _ _ lb u1
      have q2 := u8_xor_nat _ _ lc u0
      have q3 := u8_xor_nat _ _ ld u1
      generalize a ^^^ ev = v0 at q0 Hnx
      generalize b ^^^ od = v1 at q1 Hnx
      generalize c ^^^ ev = v2 at q2 Hnx
      generalize d ^^^ od = v3 at q3 Hnx
      clear hi
      go_wp2_with fail
      go_quiet ((first
        | (go_at_call 34; with_reducible exact D0.out _ _)
        | (go_at_call 34; with_reducible exact E0.out _ _)))
      have S0 := hid (hs.out.drewN nq)
      generalize wr.drewN nq = W0 at S0 ⊢
      clear c0 c1 c2 c3 D0 E0 p0
      have c1 := S0.out.blk.cell (i + 1) (by omega)
      have c3 := S0.out.blk.cell (i + 3) (by omega)
      rw [He.out.1.2] at c1
      rw [He.out.2.2] at c3
      go_wp2_with fail
      go_quiet ((first
        | (go_at_call 34; with_reducible exact D1.out _ _)
        | (go_at_call 34; with_reducible exact E1.out _ _)))
      have S1 := hid (S0.out.drewN nq)
      generalize W0.drewN nq = W1 at S1 ⊢
      clear c1 c3 D1 E1 p1 S0 hs
      have c0 := S1.out.blk.cell (i) (by omega)
      rw [He.out.1.1] at c0
      have f0 := S1.out.blk.free (i)
      have S2 := hid ((S1.out.set (i) v0 (by omega)).drew)
      go_wp2_with fail
      go_region
      go_wp2_with fail
      clear c0 f0 S1 q0
      generalize (W1.setCell ⟨g, i, none⟩ (.int .u8 (v0 : Nat))).drew = W2 at S2 ⊢
      have c1 := S2.out.blk.cell (i + 1) (by omega)
      rw [upd_other _ (i) _ _ (by omega), He.out.1.2] at c1
      have f1 := S2.out.blk.free (i + 1)
      have S3 := hid ((S2.out.set (i + 1) v1 (by omega)).drew)
      go_wp2_with fail
      go_region
      go_wp2_with fail
      clear c1 f1 S2 q1
      generalize (W2.setCell ⟨g, i + 1, none⟩ (.int .u8 (v1 : Nat))).drew = W3 at S3 ⊢
      have c2 := S3.out.blk.cell (i + 2) (by omega)
      rw [upd_other _ (i + 1) _ _ (by omega), upd_other _ (i) _ _ (by omega), He.out.2.1] at c2
      have f2 := S3.out.blk.free (i + 2)
      have S4 := hid ((S3.out.set (i + 2) v2 (by omega)).drew)
      go_wp2_with fail
      go_region
      go_wp2_with fail
      clear c2 f2 S3 q2
      generalize (W3.setCell ⟨g, i + 2, none⟩ (.int .u8 (v2 : Nat))).drew = W4 at S4 ⊢
      have c3 := S4.out.blk.cell (i + 3) (by omega)
      rw [upd_other _ (i + 2) _ _ (by omega), upd_other _ (i + 1) _ _ (by omega), upd_other _ (i) _ _ (by omega), He.out.2.2] at c3
      have f3 := S4.out.blk.free (i + 3)
      have S5 := hid ((S4.out.set (i + 3) v3 (by omega)).drew)
      go_wp2_with fail
      go_region
      go_wp2_with fail
      clear c3 f3 S4 q3
      go_roundw
      case rel => exact ⟨t + 1, by omega, by rw [Hi.out]; go_num, hid ⟨S5.out.blk.same Hnx.out, S5.out.but⟩⟩
      case measure => simp [intOf]; omega
    · obtain rfl : t = 4 := by omega
      have e : Same (preP f 4) (preF f) := fun j hj => by unfold preP; rw [if_pos (by omega)]
      have hb := hs.out.blk.same e
      go_wp2_with (refine (mix_any g _ wr hb hf.pre).mono ?_; rintro e w' ⟨rfl, hb2, hu2⟩)
      refine bodyPost_end (results_none rfl _ _ _) rfl ⟨rfl, hb2.same (mix_preF hf), hs.out.but.trans hu2⟩
end Go.Proofs.Ytgflkoabjibipaa
