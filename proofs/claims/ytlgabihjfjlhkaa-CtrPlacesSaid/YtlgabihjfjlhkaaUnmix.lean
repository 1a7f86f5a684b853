/-
  The contract of 'unmix': the columns unmixed, in memory.
-/
import Derived.Test.YtlgabihjfjlhkaaMix
import Derived.BigQuiet
namespace Go.Proofs.Ytlgabihjfjlhkaa
open Go.RowKit

theorem coef3_all : ((List.range 256).all fun x =>
    (gf 2 (x ^^^ xtN (xtN x)) ^^^ xtN (xtN x)) == gf 14 x && (gf 3 (x ^^^ xtN (xtN x)) ^^^ xtN (xtN x)) == gf 11 x &&
    (gf 2 (xtN (xtN x)) ^^^ (x ^^^ xtN (xtN x))) == gf 13 x && (gf 3 (xtN (xtN x)) ^^^ (x ^^^ xtN (xtN x))) == gf 9 x) = true := by kernel_rfl
theorem xt2_xor (a b : Nat) (ha : a < 256) (hb : b < 256) : xtN (xtN (a ^^^ b)) = xtN (xtN a) ^^^ xtN (xtN b) := by
  rw [xtN_xor a b ha hb, xtN_xor _ _ (xtN_lt a ha) (xtN_lt b hb)]
theorem mix_pre (a b c d : Nat) (ha : a < 256) (hb : b < 256) (hc : c < 256) (hd : d < 256) :
    mixN (a ^^^ xtN (xtN (a ^^^ c))) (b ^^^ xtN (xtN (b ^^^ d))) (c ^^^ xtN (xtN (c ^^^ a))) (d ^^^ xtN (xtN (d ^^^ b))) = unmixN a b c d := by
  have h1 := all1 coef3_all a ha
  have h2 := all1 coef3_all b hb
  have h3 := all1 coef3_all c hc
  have h4 := all1 coef3_all d hd
  simp only [Bool.and_eq_true, beq_iff_eq] at h1 h2 h3 h4
  unfold unmixN mixN
  rw [← h1.1.1.1, ← h2.1.1.2, ← h3.1.2, ← h4.2, xt2_xor a c ha hc, xt2_xor b d hb hd, xt2_xor c a hc ha, xt2_xor d b hd hb]
  simp only [gf_xor_right]
  ac_rfl
def preF (f : Blk16) : Blk16 := fun j => f j ^^^ xtN (xtN (f j ^^^ f (inCol j 2)))
theorem Low.pre {f : Blk16} (h : Low f) : Low (preF f) := fun j hj => xor8 (h j hj) (xtN_lt _ (xtN_lt _ (xor8 (h j hj) (h _ (inCol_lt j 2 hj)))))
theorem mix_preF {f : Blk16} (h : Low f) : Same (mixF (preF f)) (unmixF f) := fun j hj => by
  have e := mix_pre (f j) (f (inCol j 1)) (f (inCol j 2)) (f (inCol j 3)) (h j hj) (h _ (inCol_lt j 1 hj)) (h _ (inCol_lt j 2 hj)) (h _ (inCol_lt j 3 hj))
  unfold unmixF mixF preF
  simp only [inCol_in j _ _ hj, Nat.reduceAdd, inCol_four, show inCol j 5 = inCol j 1 from inCol_mod j 1]
  exact e
def preP (f : Blk16) (n : Nat) : Blk16 := fun j => if j < 4 * n then preF f j else f j
theorem preP_at (f : Blk16) (n i : Nat) (h : 4 * n ≤ i) : preP f n i = f i := by unfold preP; rw [if_neg (by omega)]
theorem preP_next (f : Blk16) (n : Nat) : Same
    (upd (upd (upd (upd (preP f n) (4 * n) (f (4 * n) ^^^ xtN (xtN (f (4 * n) ^^^ f (4 * n + 2))))) (4 * n + 1) (f (4 * n + 1) ^^^ xtN (xtN (f (4 * n + 1) ^^^ f (4 * n + 3))))) (4 * n + 2) (f (4 * n + 2) ^^^ xtN (xtN (f (4 * n) ^^^ f (4 * n + 2))))) (4 * n + 3) (f (4 * n + 3) ^^^ xtN (xtN (f (4 * n + 1) ^^^ f (4 * n + 3)))))
    (preP f (n + 1)) := by
  intro j _
  unfold upd preP
  by_cases e3 : j = 4 * n + 3
  · subst e3
    rw [if_pos rfl, if_pos (by omega)]
    unfold preF
    rw [show inCol (4 * n + 3) 2 = 4 * n + 1 by unfold inCol; omega, Nat.xor_comm (f (4 * n + 1)) (f (4 * n + 3))]
  rw [if_neg e3]
  by_cases e2 : j = 4 * n + 2
  · subst e2
    rw [if_pos rfl, if_pos (by omega)]
    unfold preF
    rw [show inCol (4 * n + 2) 2 = 4 * n by unfold inCol; omega, Nat.xor_comm (f (4 * n)) (f (4 * n + 2))]
  rw [if_neg e2]
  by_cases e1 : j = 4 * n + 1
  · subst e1
    rw [if_pos rfl, if_pos (by omega)]
    unfold preF
    rw [show inCol (4 * n + 1) 2 = 4 * n + 3 by unfold inCol; omega]
  rw [if_neg e1]
  by_cases e0 : j = 4 * n
  · subst e0
    rw [if_pos rfl, if_pos (by omega)]
    unfold preF
    rw [show inCol (4 * n) 2 = 4 * n + 2 by unfold inCol; omega]
  rw [if_neg e0]
  by_cases h : j < 4 * n
  · rw [if_pos h, if_pos (by omega)]
  · rw [if_neg h, if_neg (by omega)]
theorem double_z (x : Nat) (hx : x < 256) (w : World) (n : Nat) : Calls Try.prog 34 #[.int .u8 x] (w.drewN n) fun e w' => e = .returned (.int .u8 (xtN x : Nat)) ∧ ∃ m, w' = w.drewN m :=
  (double_any x hx _).mono (fun _ _ h => ⟨h.1, n, h.2.symm⟩)
theorem upd_other (f : Blk16) (i j v : Nat) (h : j ≠ i) : upd f i v j = f j := by unfold upd; rw [if_neg h]

end Go.Proofs.Ytlgabihjfjlhkaa
