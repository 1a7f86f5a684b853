/-
  Right, of a model: the document's.
-/
import Derived.Test.YtnanmdfbgoahjaaRgm
import Derived.Test.YtnanmdfbgoahjaaRgd
set_option linter.unusedVariables false
set_option linter.unusedSimpArgs false
namespace Go.Proofs.Ytnanmdfbgoahjaa
open Go.RowKit

set_option maxRecDepth 10000 in
theorem rwthn_any (a b : Int) (r : Bool) (hr : decide (0 ≤ a ∧ a ≤ b) = r) (w : World) : Calls Try.prog 29 #[.int .i64 a, .int .i64 0, .int .i64 b] w fun e w' => e = .returned (.bool r) ∧ w' = w := by
  subst hr
  by_cases h1 : 0 ≤ a
  · by_cases h2 : a ≤ b
    · go_enter Try.func29, Try.ntmps29
      go_wp2_with fail
      go_ret
      exact ⟨by simp [h1, h2], rfl⟩
    · go_enter Try.func29, Try.ntmps29
      go_wp2_with fail
      go_ret
      exact ⟨by simp [h1, h2], rfl⟩
  · go_enter Try.func29, Try.ntmps29
    go_wp2_with fail
    go_ret
    exact ⟨by rw [show decide (0 ≤ a) = false from decide_eq_false (by omega)]; rfl, rfl⟩
theorem pow2_two (k : Nat) (hk : k ≤ 8) : wrap64 (pow2 (k : Nat) * 2) = pow2 ((k : Int) + 1) := by
  have e : pow2 ((k : Int) + 1) = pow2 (k : Nat) * 2 := by
    unfold pow2
    rw [show ((k : Int) + 1).toNat = k + 1 by omega, show ((k : Int)).toNat = k by omega, Int.pow_succ]
  have h1 := pow2_pos (k : Int)
  have h2 := pow2_le (k : Int) 8 (by omega)
  rw [e]; exact wrap64_in _ (by omega) (by omega)
set_option maxRecDepth 10000 in
set_option maxHeartbeats 40000000 in
theorem refRight_md (w : World) (x : Md) (P C Q : Sl) (a : MdAt w w.heap.size x P C Q) : Calls Try.prog 13 #[vMd x P C Q] w fun e w' => e = .returned (.int .i64 x.right) ∧ Below w.heap.size w w' := by
  have HR := hid (md_right x)
  unfold vMd vMdl
  obtain ⟨n, hn⟩ : ∃ n, x.parts.length = n := ⟨_, rfl⟩
  obtain ⟨i, hi⟩ : ∃ n, x.code.length = n := ⟨_, rfl⟩
  obtain ⟨j, hj⟩ : ∃ n, x.post.length = n := ⟨_, rfl⟩
  have hP := a.parts
  rw [hn] at hP
  rw [hn, hi, hj]
  rw [hn, hi, hj] at HR
  clear a hi hj
  have HP := hid hP
  have hpc := hP.cap
  have hpm := hP.max
  unfold maxLen at hpm
  clear hP
  obtain ⟨h, m, ph, pm, L, Cl, Ql⟩ := x
  simp only at HR HP hn ⊢
  clear hn
  have L1 := fun r hr w => rwthn_any h 8 r hr w
  have L2 := fun r hr w => rwthn_any ph 8 r hr w
  have L3 := fun r hr w => rwthn_any m 12 r hr w
  have L4 := fun r hr w => rwthn_any pm 12 r hr w
  by_cases c1 : 0 ≤ h ∧ h ≤ 8
  rotate_left
  · have K1 := hid (L1 false (decide_eq_false c1))
    clear L1 L2 L3 L4
    have hr : ({ h := h, m := m, ph := ph, pm := pm, parts := L, code := Cl, post := Ql } : Md).right = 131 := by
      rw [HR.out, if_pos]
      intro hh
      unfold inn at hh
      omega
    rw [hr]
    clear HR HP hr c1
    go_enter Try.func13, Try.ntmps13
    go_wp2_with (go_at_call 29; (first | (with_reducible refine (K1.out _).mono ?_)); rintro e w' ⟨rfl, rfl⟩)
    go_ret
    exact ⟨rfl, (Below.refl _ _).alloc (Nat.le_refl _) _⟩
  have K1 := hid (L1 true (decide_eq_true c1))
  by_cases c2 : 0 ≤ ph ∧ ph ≤ 8
  rotate_left
  · have K2 := hid (L2 false (decide_eq_false c2))
    clear L1 L2 L3 L4
    have hr : ({ h := h, m := m, ph := ph, pm := pm, parts := L, code := Cl, post := Ql } : Md).right = 131 := by
      rw [HR.out, if_pos]
      intro hh
      unfold inn at hh
      omega
    rw [hr]
    clear HR HP hr c1 c2
    go_enter Try.func13, Try.ntmps13
    go_wp2_with (go_at_call 29; (first | (with_reducible refine (K1.out _).mono ?_) | (with_reducible refine (K2.out _).mono ?_)); rintro e w' ⟨rfl, rfl⟩)
    go_ret
    exact ⟨rfl, (Below.refl _ _).alloc (Nat.le_refl _) _⟩
  have K2 := hid (L2 true (decide_eq_true c2))
  by_cases c3 : 0 ≤ m ∧ m ≤ 12
  rotate_left
  · have K3 := hid (L3 false (decide_eq_false c3))
    clear L1 L2 L3 L4
    have hr : ({ h := h, m := m, ph := ph, pm := pm, parts := L, code := Cl, post := Ql } : Md).right = 131 := by
      rw [HR.out, if_pos]
      intro hh
      unfold inn at hh
      omega
    rw [hr]
    clear HR HP hr c1 c2 c3
    go_enter Try.func13, Try.ntmps13
    go_wp2_with (go_at_call 29; (first | (with_reducible refine (K1.out _).mono ?_) | (with_reducible refine (K2.out _).mono ?_) | (with_reducible refine (K3.out _).mono ?_)); rintro e w' ⟨rfl, rfl⟩)
    go_ret
    exact ⟨rfl, (Below.refl _ _).alloc (Nat.le_refl _) _⟩
  have K3 := hid (L3 true (decide_eq_true c3))
  by_cases c4 : 0 ≤ pm ∧ pm ≤ 12
  rotate_left
  · have K4 := hid (L4 false (decide_eq_false c4))
    clear L1 L2 L3 L4
    have hr : ({ h := h, m := m, ph := ph, pm := pm, parts := L, code := Cl, post := Ql } : Md).right = 131 := by
      rw [HR.out, if_pos]
      intro hh
      unfold inn at hh
      omega
    rw [hr]
    clear HR HP hr c1 c2 c3 c4
    go_enter Try.func13, Try.ntmps13
    go_wp2_with (go_at_call 29; (first | (with_reducible refine (K1.out _).mono ?_) | (with_reducible refine (K2.out _).mono ?_) | (with_reducible refine (K3.out _).mono ?_) | (with_reducible refine (K4.out _).mono ?_)); rintro e w' ⟨rfl, rfl⟩)
    go_ret
    exact ⟨rfl, (Below.refl _ _).alloc (Nat.le_refl _) _⟩
  have K4 := hid (L4 true (decide_eq_true c4))
  by_cases c5 : (4096 : Int) < (i : Int)
  · have hr : ({ h := h, m := m, ph := ph, pm := pm, parts := L, code := Cl, post := Ql } : Md).right = 131 := by
      rw [HR.out, if_pos]
      intro hh
      unfold inn at hh
      omega
    rw [hr]
    clear L1 L2 L3 L4 HR HP hr c1 c2 c3 c4
    go_enter Try.func13, Try.ntmps13
    go_wp2_with (go_at_call 29; (first | (with_reducible refine (K1.out _).mono ?_) | (with_reducible refine (K2.out _).mono ?_) | (with_reducible refine (K3.out _).mono ?_) | (with_reducible refine (K4.out _).mono ?_)); rintro e w' ⟨rfl, rfl⟩)
    go_ret
    exact ⟨rfl, (Below.refl _ _).alloc (Nat.le_refl _) _⟩
  by_cases c6 : (4096 : Int) < (j : Int)
  · have hr : ({ h := h, m := m, ph := ph, pm := pm, parts := L, code := Cl, post := Ql } : Md).right = 131 := by
      rw [HR.out, if_pos]
      intro hh
      unfold inn at hh
      omega
    rw [hr]
    clear L1 L2 L3 L4 HR HP hr c1 c2 c3 c4
    go_enter Try.func13, Try.ntmps13
    go_wp2_with (go_at_call 29; (first | (with_reducible refine (K1.out _).mono ?_) | (with_reducible refine (K2.out _).mono ?_) | (with_reducible refine (K3.out _).mono ?_) | (with_reducible refine (K4.out _).mono ?_)); rintro e w' ⟨rfl, rfl⟩)
    go_ret
    exact ⟨rfl, (Below.refl _ _).alloc (Nat.le_refl _) _⟩
  clear L1 L2 L3 L4
  have hf : inn h 0 8 ∧ inn ph 0 8 ∧ inn m 0 12 ∧ inn pm 0 12 ∧ i ≤ 4096 ∧ j ≤ 4096 := by unfold inn; omega
  replace HR := hid (HR.out.trans (if_neg (not_not_intro hf)))
  clear hf
  clear c2 c3 c4
  by_cases z : j = 0
  · obtain rfl : j = 0 := z
    clear c6
    by_cases z2 : ph = 0
    rotate_left
    · skip
      have hr : ({ h := h, m := m, ph := ph, pm := pm, parts := L, code := Cl, post := Ql } : Md).right = 131 := by
        rw [HR.out]; exact if_pos ⟨rfl, .inl z2⟩
      rw [hr]
      clear HR HP hr
      go_enter Try.func13, Try.ntmps13
      go_wp2_with (go_at_call 29; (first | (with_reducible refine (K1.out _).mono ?_) | (with_reducible refine (K2.out _).mono ?_) | (with_reducible refine (K3.out _).mono ?_) | (with_reducible refine (K4.out _).mono ?_)); rintro e w' ⟨rfl, rfl⟩)
      go_ret
      exact ⟨rfl, (Below.refl _ _).alloc (Nat.le_refl _) _⟩
    subst z2
    by_cases z3 : pm = 0
    rotate_left
    · skip
      have hr : ({ h := h, m := m, ph := 0, pm := pm, parts := L, code := Cl, post := Ql } : Md).right = 131 := by
        rw [HR.out]; exact if_pos ⟨rfl, .inr z3⟩
      rw [hr]
      clear HR HP hr
      go_enter Try.func13, Try.ntmps13
      go_wp2_with (go_at_call 29; (first | (with_reducible refine (K1.out _).mono ?_) | (with_reducible refine (K2.out _).mono ?_) | (with_reducible refine (K3.out _).mono ?_) | (with_reducible refine (K4.out _).mono ?_)); rintro e w' ⟨rfl, rfl⟩)
      go_ret
      exact ⟨rfl, (Below.refl _ _).alloc (Nat.le_refl _) _⟩
    subst z3
    have HX := hid (HR.out.trans (if_neg (by omega)))
    clear HR
    go_enter Try.func13, Try.ntmps13
    go_wp2_with (go_at_call 29; (first | (with_reducible refine (K1.out _).mono ?_) | (with_reducible refine (K2.out _).mono ?_) | (with_reducible refine (K3.out _).mono ?_) | (with_reducible refine (K4.out _).mono ?_)); rintro e w' ⟨rfl, rfl⟩)
    go_loopw [3, 4] (fun pv iv wr => ∃ k : Nat, (k : Int) ≤ h ∧ pv = .int .i64 (pow2 (k : Nat)) ∧ iv = .int .i64 k ∧ wr = w.alloc (.cells #[.int .i64 h, .int .i64 m, .int .i64 0, .int .i64 0, .slice P.a n P.c, .slice C.a i C.c, .slice Q.a 0 Q.c] 25)) (fun _ iv _ => h.toNat - (intOf iv).toNat)
    case atStart => exact ⟨0, by omega, rfl, rfl, rfl⟩
    case round =>
      obtain ⟨k, hk, rfl, rfl, rfl⟩ := hrel
      by_cases hg : (k : Int) < h
      · have hp := pow2_two k (by omega)
        go_wp2_with fail
        rw [hp]
        go_roundw
        case rel => exact ⟨k + 1, by omega, by go_num, by go_num, by first | rfl | trivial⟩
        case measure => simp [intOf]; omega
      · obtain rfl : h = (k : Int) := by omega
        obtain ⟨t, ht⟩ : ∃ t, pow2 (k : Int) = t := ⟨_, rfl⟩
        rw [ht] at HX ⊢
        by_cases hq : t < (n : Int)
        · have hr := hid (HX.out.trans (if_pos hq))
          clear HX HP
          go_wp2_with fail
          go_ret
          exact ⟨by rw [hr.out]; rfl, (Below.refl _ _).alloc (Nat.le_refl _) _⟩
        · have hr := hid (HX.out.trans (if_neg hq))
          clear HX
          go_wp2_with ((go_at_call 30; refine (refRight_any _ _ _ _ _ (HP.out.later ((Below.refl _ _).alloc (Nat.le_refl _) _))).mono ?_; rintro e w' ⟨rfl, b2⟩))
          go_ret
          exact ⟨by rw [hr.out]; rfl, ((Below.refl _ _).alloc (Nat.le_refl _) _).trans (b2.mono (by simp))⟩
  · have zi : ¬ (j : Int) = 0 := by omega
    have zb : ((j : Int) == 0) = false := beq_eq_false_iff_ne.2 zi
    have HX := hid (HR.out.trans (if_neg (by omega)))
    clear HR
    go_enter Try.func13, Try.ntmps13
    go_wp2_with (go_at_call 29; (first | (with_reducible refine (K1.out _).mono ?_) | (with_reducible refine (K2.out _).mono ?_) | (with_reducible refine (K3.out _).mono ?_) | (with_reducible refine (K4.out _).mono ?_)); rintro e w' ⟨rfl, rfl⟩)
    go_loopw [3, 4] (fun pv iv wr => ∃ k : Nat, (k : Int) ≤ h ∧ pv = .int .i64 (pow2 (k : Nat)) ∧ iv = .int .i64 k ∧ wr = w.alloc (.cells #[.int .i64 h, .int .i64 m, .int .i64 ph, .int .i64 pm, .slice P.a n P.c, .slice C.a i C.c, .slice Q.a j Q.c] 25)) (fun _ iv _ => h.toNat - (intOf iv).toNat)
    case atStart => exact ⟨0, by omega, rfl, rfl, rfl⟩
    case round =>
      obtain ⟨k, hk, rfl, rfl, rfl⟩ := hrel
      by_cases hg : (k : Int) < h
      · have hp := pow2_two k (by omega)
        go_wp2_with fail
        rw [hp]
        go_roundw
        case rel => exact ⟨k + 1, by omega, by go_num, by go_num, by first | rfl | trivial⟩
        case measure => simp [intOf]; omega
      · obtain rfl : h = (k : Int) := by omega
        obtain ⟨t, ht⟩ : ∃ t, pow2 (k : Int) = t := ⟨_, rfl⟩
        rw [ht] at HX ⊢
        by_cases hq : t < (n : Int)
        · have hr := hid (HX.out.trans (if_pos hq))
          clear HX HP
          go_wp2_with fail
          go_ret
          exact ⟨by rw [hr.out]; rfl, (Below.refl _ _).alloc (Nat.le_refl _) _⟩
        · have hr := hid (HX.out.trans (if_neg hq))
          clear HX
          go_wp2_with ((go_at_call 30; refine (refRight_any _ _ _ _ _ (HP.out.later ((Below.refl _ _).alloc (Nat.le_refl _) _))).mono ?_; rintro e w' ⟨rfl, b2⟩))
          go_ret
          exact ⟨by rw [hr.out]; rfl, ((Below.refl _ _).alloc (Nat.le_refl _) _).trans (b2.mono (by simp))⟩
end Go.Proofs.Ytnanmdfbgoahjaa
