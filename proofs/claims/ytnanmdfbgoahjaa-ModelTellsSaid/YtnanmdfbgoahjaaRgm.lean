/-
  Right, of a model: the program's.
-/
import Derived.Test.YtnanmdfbgoahjaaKit
namespace Go.Proofs.Ytnanmdfbgoahjaa
open Go.RowKit

set_option maxRecDepth 10000 in
theorem wthn_any (a b : Int) (r : Bool) (hr : decide (0 ≤ a ∧ a ≤ b) = r) (w : World) : Calls Try.prog 27 #[.int .i64 a, .int .i64 b] w fun e w' => e = .returned (.bool r) ∧ w' = w := by
  subst hr
  by_cases h1 : 0 ≤ a
  · by_cases h2 : a ≤ b
    · go_enter Try.func27, Try.ntmps27
      go_wp2_with fail
      go_ret
      exact ⟨by simp [h1, h2], rfl⟩
    · go_enter Try.func27, Try.ntmps27
      go_wp2_with fail
      go_ret
      exact ⟨by simp [h2], rfl⟩
  · go_enter Try.func27, Try.ntmps27
    go_wp2_with fail
    go_ret
    exact ⟨by rw [show decide (0 ≤ a) = false from decide_eq_false (by omega)]; rfl, rfl⟩
theorem md_right (x : Md) : x.right = if ¬ (inn x.h 0 8 ∧ inn x.ph 0 8 ∧ inn x.m 0 12 ∧ inn x.pm 0 12 ∧ x.code.length ≤ 4096 ∧ x.post.length ≤ 4096) then 131
  else if x.post.length = 0 ∧ (x.ph ≠ 0 ∨ x.pm ≠ 0) then 131
  else if pow2 x.h < x.parts.length then 131
  else rightP x.parts := rfl
set_option maxRecDepth 10000 in
set_option maxHeartbeats 40000000 in
theorem Right_md (w : World) (x : Md) (P C Q : Sl) (a : MdAt w w.heap.size x P C Q) : Calls Try.prog 12 #[vMd x P C Q] w fun e w' => e = .returned (.int .i64 x.right) ∧ Below w.heap.size w w' := by
  have HR := hid (md_right x)
  unfold vMd vMdl
  obtain ⟨n, hn⟩ : ∃ n, x.parts.length = n := ⟨_, rfl⟩
  obtain ⟨i, hi⟩ : ∃ n, x.code.length = n := ⟨_, rfl⟩
  obtain ⟨j, hj⟩ : ∃ n, x.post.length = n := ⟨_, rfl⟩
  have hP := a.parts
  rw [hn] at hP
  rw [hn, hi, hj]
  rw [hn, hi, hj] at HR
  clear a hi hj
  have HP := hid hP
  have hpc := hP.cap
  have hpm := hP.max
  unfold maxLen at hpm
  clear hP
  obtain ⟨h, m, ph, pm, L, Cl, Ql⟩ := x
  simp only at HR HP hn ⊢
  clear hn
  have i0 : (0 : Int) ≤ (i : Int) := by omega
  have j0 : (0 : Int) ≤ (j : Int) := by omega
  have L1 := fun r hr w => wthn_any h 8 r hr w
  have L2 := fun r hr w => wthn_any ph 8 r hr w
  have L3 := fun r hr w => wthn_any m 12 r hr w
  have L4 := fun r hr w => wthn_any pm 12 r hr w
  have L5 := fun r hr w => wthn_any (i : Int) 4096 r hr w
  have L6 := fun r hr w => wthn_any (j : Int) 4096 r hr w
  by_cases c1 : 0 ≤ h ∧ h ≤ 8
  rotate_left
  · have K1 := hid (L1 false (decide_eq_false c1))
    clear L1 L2 L3 L4 L5 L6
    have hr : ({ h := h, m := m, ph := ph, pm := pm, parts := L, code := Cl, post := Ql } : Md).right = 131 := by
      rw [HR.out, if_pos]
      intro hh
      unfold inn at hh
      omega
    rw [hr]
    clear HR HP hr c1
    go_enter Try.func12, Try.ntmps12
    go_wp2_with (go_at_call 27; (first | (with_reducible refine (K1.out _).mono ?_)); rintro e w' ⟨rfl, rfl⟩)
    go_quiet (fail)
    go_wp2_with fail
    go_ret
    exact ⟨rfl, below_drewN ((Below.refl _ _).alloc (Nat.le_refl _) _) _⟩
  have K1 := hid (L1 true (decide_eq_true c1))
  by_cases c2 : 0 ≤ ph ∧ ph ≤ 8
  rotate_left
  · have K2 := hid (L2 false (decide_eq_false c2))
    clear L1 L2 L3 L4 L5 L6
    have hr : ({ h := h, m := m, ph := ph, pm := pm, parts := L, code := Cl, post := Ql } : Md).right = 131 := by
      rw [HR.out, if_pos]
      intro hh
      unfold inn at hh
      omega
    rw [hr]
    clear HR HP hr c1 c2
    go_enter Try.func12, Try.ntmps12
    go_wp2_with (go_at_call 27; (first | (with_reducible refine (K1.out _).mono ?_) | (with_reducible refine (K2.out _).mono ?_)); rintro e w' ⟨rfl, rfl⟩)
    go_quiet (fail)
    go_wp2_with fail
    go_ret
    exact ⟨rfl, below_drewN ((Below.refl _ _).alloc (Nat.le_refl _) _) _⟩
  have K2 := hid (L2 true (decide_eq_true c2))
  by_cases c3 : 0 ≤ m ∧ m ≤ 12
  rotate_left
  · have K3 := hid (L3 false (decide_eq_false c3))
    clear L1 L2 L3 L4 L5 L6
    have hr : ({ h := h, m := m, ph := ph, pm := pm, parts := L, code := Cl, post := Ql } : Md).right = 131 := by
      rw [HR.out, if_pos]
      intro hh
      unfold inn at hh
      omega
    rw [hr]
    clear HR HP hr c1 c2 c3
    go_enter Try.func12, Try.ntmps12
    go_wp2_with (go_at_call 27; (first | (with_reducible refine (K1.out _).mono ?_) | (with_reducible refine (K2.out _).mono ?_) | (with_reducible refine (K3.out _).mono ?_)); rintro e w' ⟨rfl, rfl⟩)
    go_quiet (fail)
    go_wp2_with fail
    go_ret
    exact ⟨rfl, below_drewN ((Below.refl _ _).alloc (Nat.le_refl _) _) _⟩
  have K3 := hid (L3 true (decide_eq_true c3))
  by_cases c4 : 0 ≤ pm ∧ pm ≤ 12
  rotate_left
  · have K4 := hid (L4 false (decide_eq_false c4))
    clear L1 L2 L3 L4 L5 L6
    have hr : ({ h := h, m := m, ph := ph, pm := pm, parts := L, code := Cl, post := Ql } : Md).right = 131 := by
      rw [HR.out, if_pos]
      intro hh
      unfold inn at hh
      omega
    rw [hr]
    clear HR HP hr c1 c2 c3 c4
    go_enter Try.func12, Try.ntmps12
    go_wp2_with (go_at_call 27; (first | (with_reducible refine (K1.out _).mono ?_) | (with_reducible refine (K2.out _).mono ?_) | (with_reducible refine (K3.out _).mono ?_) | (with_reducible refine (K4.out _).mono ?_)); rintro e w' ⟨rfl, rfl⟩)
    go_quiet (fail)
    go_wp2_with fail
    go_ret
    exact ⟨rfl, below_drewN ((Below.refl _ _).alloc (Nat.le_refl _) _) _⟩
  have K4 := hid (L4 true (decide_eq_true c4))
  by_cases c5 : (0 : Int) ≤ (i : Int) ∧ (i : Int) ≤ 4096
  rotate_left
  · have K5 := hid (L5 false (decide_eq_false c5))
    clear L1 L2 L3 L4 L5 L6
    have hr : ({ h := h, m := m, ph := ph, pm := pm, parts := L, code := Cl, post := Ql } : Md).right = 131 := by
      rw [HR.out, if_pos]
      intro hh
      unfold inn at hh
      omega
    rw [hr]
    clear HR HP hr c1 c2 c3 c4 c5
    go_enter Try.func12, Try.ntmps12
    go_wp2_with (go_at_call 27; (first | (with_reducible refine (K1.out _).mono ?_) | (with_reducible refine (K2.out _).mono ?_) | (with_reducible refine (K3.out _).mono ?_) | (with_reducible refine (K4.out _).mono ?_) | (with_reducible refine (K5.out _).mono ?_)); rintro e w' ⟨rfl, rfl⟩)
    go_quiet (fail)
    go_wp2_with fail
    go_ret
    exact ⟨rfl, below_drewN ((Below.refl _ _).alloc (Nat.le_refl _) _) _⟩
  have K5 := hid (L5 true (decide_eq_true c5))
  by_cases c6 : (0 : Int) ≤ (j : Int) ∧ (j : Int) ≤ 4096
  rotate_left
  · have K6 := hid (L6 false (decide_eq_false c6))
    clear L1 L2 L3 L4 L5 L6
    have hr : ({ h := h, m := m, ph := ph, pm := pm, parts := L, code := Cl, post := Ql } : Md).right = 131 := by
      rw [HR.out, if_pos]
      intro hh
      unfold inn at hh
      omega
    rw [hr]
    clear HR HP hr c1 c2 c3 c4 c5 c6
    go_enter Try.func12, Try.ntmps12
    go_wp2_with (go_at_call 27; (first | (with_reducible refine (K1.out _).mono ?_) | (with_reducible refine (K2.out _).mono ?_) | (with_reducible refine (K3.out _).mono ?_) | (with_reducible refine (K4.out _).mono ?_) | (with_reducible refine (K5.out _).mono ?_) | (with_reducible refine (K6.out _).mono ?_)); rintro e w' ⟨rfl, rfl⟩)
    go_quiet (fail)
    go_wp2_with fail
    go_ret
    exact ⟨rfl, below_drewN ((Below.refl _ _).alloc (Nat.le_refl _) _) _⟩
  have K6 := hid (L6 true (decide_eq_true c6))
  clear L1 L2 L3 L4 L5 L6
  have hf : inn h 0 8 ∧ inn ph 0 8 ∧ inn m 0 12 ∧ inn pm 0 12 ∧ i ≤ 4096 ∧ j ≤ 4096 := by unfold inn; omega
  replace HR := hid (HR.out.trans (if_neg (not_not_intro hf)))
  clear hf
  clear c2 c3 c4 c5
  have t1 : 1 ≤ pow2 h := pow2_pos h
  have t2 : pow2 h ≤ 256 := pow2_le h 8 (by omega)
  have hw : wrap64 (2 ^ h.toNat) = pow2 h := by
    have : (2 : Int) ^ h.toNat = pow2 h := rfl
    rw [this]; exact wrap64_in _ (by omega) (by omega)
  obtain ⟨t, ht⟩ : ∃ t, pow2 h = t := ⟨_, rfl⟩
  rw [ht] at hw HR t1 t2
  clear ht
  by_cases z : j = 0
  · obtain rfl : j = 0 := z
    rw [show ((0 : Nat) : Int) = 0 from rfl] at K6
    clear c6 j0
    by_cases z2 : ph = 0
    rotate_left
    · skip
      have hr : ({ h := h, m := m, ph := ph, pm := pm, parts := L, code := Cl, post := Ql } : Md).right = 131 := by
        rw [HR.out]; exact if_pos ⟨rfl, .inl z2⟩
      rw [hr]
      clear HR HP hr
      go_enter Try.func12, Try.ntmps12
      go_wp2_with (go_at_call 27; (first | (with_reducible refine (K1.out _).mono ?_) | (with_reducible refine (K2.out _).mono ?_) | (with_reducible refine (K3.out _).mono ?_) | (with_reducible refine (K4.out _).mono ?_) | (with_reducible refine (K5.out _).mono ?_) | (with_reducible refine (K6.out _).mono ?_)); rintro e w' ⟨rfl, rfl⟩)
      go_quiet (fail)
      go_wp2_with fail
      go_ret
      exact ⟨rfl, below_drewN ((Below.refl _ _).alloc (Nat.le_refl _) _) _⟩

    subst z2
    by_cases z3 : pm = 0
    rotate_left
    · skip
      have hr : ({ h := h, m := m, ph := 0, pm := pm, parts := L, code := Cl, post := Ql } : Md).right = 131 := by
        rw [HR.out]; exact if_pos ⟨rfl, .inr z3⟩
      rw [hr]
      clear HR HP hr
      go_enter Try.func12, Try.ntmps12
      go_wp2_with (go_at_call 27; (first | (with_reducible refine (K1.out _).mono ?_) | (with_reducible refine (K2.out _).mono ?_) | (with_reducible refine (K3.out _).mono ?_) | (with_reducible refine (K4.out _).mono ?_) | (with_reducible refine (K5.out _).mono ?_) | (with_reducible refine (K6.out _).mono ?_)); rintro e w' ⟨rfl, rfl⟩)
      go_quiet (fail)
      go_wp2_with fail
      go_ret
      exact ⟨rfl, below_drewN ((Below.refl _ _).alloc (Nat.le_refl _) _) _⟩

    subst z3
    by_cases hq : t < (n : Int)
    · have hr : ({ h := h, m := m, ph := 0, pm := 0, parts := L, code := Cl, post := Ql } : Md).right = 131 := by
        rw [HR.out, if_neg (by omega), if_pos hq]
      rw [hr]
      clear HR HP hr
      go_enter Try.func12, Try.ntmps12
      go_wp2_with (go_at_call 27; (first | (with_reducible refine (K1.out _).mono ?_) | (with_reducible refine (K2.out _).mono ?_) | (with_reducible refine (K3.out _).mono ?_) | (with_reducible refine (K4.out _).mono ?_) | (with_reducible refine (K5.out _).mono ?_) | (with_reducible refine (K6.out _).mono ?_)); rintro e w' ⟨rfl, rfl⟩)
      go_quiet (fail)
      go_wp2_with fail
      go_ret
      exact ⟨rfl, below_drewN ((Below.refl _ _).alloc (Nat.le_refl _) _) _⟩
    · have hr : ({ h := h, m := m, ph := 0, pm := 0, parts := L, code := Cl, post := Ql } : Md).right = rightP L := by
        rw [HR.out, if_neg (by omega), if_neg hq]
      rw [hr]
      clear HR hr
      go_enter Try.func12, Try.ntmps12
      go_wp2_with (go_at_call 27; (first | (with_reducible refine (K1.out _).mono ?_) | (with_reducible refine (K2.out _).mono ?_) | (with_reducible refine (K3.out _).mono ?_) | (with_reducible refine (K4.out _).mono ?_) | (with_reducible refine (K5.out _).mono ?_) | (with_reducible refine (K6.out _).mono ?_)); rintro e w' ⟨rfl, rfl⟩)
      go_quiet (fail)
      go_wp2_with ((go_at_call 28; refine (Right_any _ _ _ _ _ (HP.out.later (below_drewN ((Below.refl _ _).alloc (Nat.le_refl _) _) _))).mono ?_; rintro e w' ⟨rfl, b2⟩))
      go_ret
      exact ⟨rfl, (below_drewN ((Below.refl _ _).alloc (Nat.le_refl _) _) _).trans (b2.mono (by simp))⟩
  · have zi : ¬ (j : Int) = 0 := by omega
    have zb : ((j : Int) == 0) = false := beq_eq_false_iff_ne.2 zi
    by_cases hq : t < (n : Int)
    · have hr : ({ h := h, m := m, ph := ph, pm := pm, parts := L, code := Cl, post := Ql } : Md).right = 131 := by
        rw [HR.out, if_neg (by omega), if_pos hq]
      rw [hr]
      clear HR HP hr
      go_enter Try.func12, Try.ntmps12
      go_wp2_with (go_at_call 27; (first | (with_reducible refine (K1.out _).mono ?_) | (with_reducible refine (K2.out _).mono ?_) | (with_reducible refine (K3.out _).mono ?_) | (with_reducible refine (K4.out _).mono ?_) | (with_reducible refine (K5.out _).mono ?_) | (with_reducible refine (K6.out _).mono ?_)); rintro e w' ⟨rfl, rfl⟩)
      go_quiet (fail)
      go_wp2_with fail
      go_ret
      exact ⟨rfl, below_drewN ((Below.refl _ _).alloc (Nat.le_refl _) _) _⟩
    · have hr : ({ h := h, m := m, ph := ph, pm := pm, parts := L, code := Cl, post := Ql } : Md).right = rightP L := by
        rw [HR.out, if_neg (by omega), if_neg hq]
      rw [hr]
      clear HR hr
      go_enter Try.func12, Try.ntmps12
      go_wp2_with (go_at_call 27; (first | (with_reducible refine (K1.out _).mono ?_) | (with_reducible refine (K2.out _).mono ?_) | (with_reducible refine (K3.out _).mono ?_) | (with_reducible refine (K4.out _).mono ?_) | (with_reducible refine (K5.out _).mono ?_) | (with_reducible refine (K6.out _).mono ?_)); rintro e w' ⟨rfl, rfl⟩)
      go_quiet (fail)
      go_wp2_with ((go_at_call 28; refine (Right_any _ _ _ _ _ (HP.out.later (below_drewN ((Below.refl _ _).alloc (Nat.le_refl _) _) _))).mono ?_; rintro e w' ⟨rfl, b2⟩))
      go_ret
      exact ⟨rfl, (below_drewN ((Below.refl _ _).alloc (Nat.le_refl _) _) _).trans (b2.mono (by simp))⟩
end Go.Proofs.Ytnanmdfbgoahjaa
