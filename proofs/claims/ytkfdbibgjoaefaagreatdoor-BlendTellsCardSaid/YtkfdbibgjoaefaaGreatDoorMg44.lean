/-
  Merged: XOne XRt XRgd Rnx Lwa.
-/
import Derived.Test.YtkfdbibgjoaefaaGreatDoorMg42
import Derived.Test.YtkfdbibgjoaefaaGreatDoorMg43
import Derived.Test.YtkfdbibgjoaefaaGreatDoorMgC
import Derived.Test.YtkfdbibgjoaefaaGreatDoorMg36
import Derived.Test.YtkfdbibgjoaefaaGreatDoorMg29
import Derived.Test.YtkfdbibgjoaefaaGreatDoorMg40
import Derived.BigQuiet
/-
  What the document's side wants of stage texts, for this seat (One).
-/

namespace Go.Proofs.YtkfdbibgjoaefaaGreatDoor
open Go.RowKit

set_option maxRecDepth 10000 in
set_option maxHeartbeats 8000000 in
theorem one_no_8 (s a b c r m i : Int) (w : World) (hs : ¬ vP 8 s a b c r m = vP 8 s a 0 0 0 0) :
    Calls Tryz.prog 52 #[vP 8 s a b c r m, .int .i64 i] w fun e w' => e = .returned (.bool false) ∧ Below w.heap.size w w' := by
  have HS := hid hs
  clear hs
  have B := boxed w 8 s a b c r m
  obtain ⟨W, hW⟩ : ∃ W, W = w.alloc (.cells #[.int .u8 8, .int .i64 s, .int .i64 a, .int .i64 b, .int .i64 c, .int .i64 r, .int .i64 m] 38) := ⟨_, rfl⟩
  have b0 := hid (show Below w.heap.size w W by rw [hW]; exact (Below.refl _ _).alloc (Nat.le_refl _) _)
  rw [← hW] at B
  have HF := hid (fun w => fields_8 s a b c r m w)
  have HB := hid (B.below (Below.refl _ W).drew)
  have hneq : ∀ w, (binOp BinOp.neq 38 (.agg #[.int .u8 8, .int .i64 s, .int .i64 a, .int .i64 0, .int .i64 0, .int .i64 0, .int .i64 0]) (.agg #[.int .u8 8, .int .i64 s, .int .i64 a, .int .i64 b, .int .i64 c, .int .i64 r, .int .i64 m])).run Tryz.prog w = .ok (.bool true) w := by
    intro w
    go_simp
    intros
    intro hlast
    refine HS.out ?_
    unfold vP
    simp
    omega
  unfold vP
  clear B
  go_enter Tryz.func52, Tryz.ntmps52
  go_wp2_with fail
  rw [← hW]
  clear hW
  go_region_held3 (fun w' => w'.cell? ⟨w.heap.size, 0, none⟩ = some (.int .u8 8) ∧ w'.cell? ⟨w.heap.size, 1, none⟩ = some (.int .i64 s) ∧ w'.cell? ⟨w.heap.size, 2, none⟩ = some (.int .i64 a) ∧ w'.cell? ⟨w.heap.size, 3, none⟩ = some (.int .i64 b) ∧ w'.cell? ⟨w.heap.size, 4, none⟩ = some (.int .i64 c) ∧ w'.cell? ⟨w.heap.size, 5, none⟩ = some (.int .i64 r) ∧ w'.cell? ⟨w.heap.size, 6, none⟩ = some (.int .i64 m)) (first | exact ⟨HB7.out.c0, HB7.out.c1, HB7.out.c2, HB7.out.c3, HB7.out.c4, HB7.out.c5, HB7.out.c6⟩ | exact ⟨HB.out.c0, HB.out.c1, HB.out.c2, HB.out.c3, HB.out.c4, HB.out.c5, HB.out.c6⟩ | go_keep)
    (first | (go_at_call 70; (refine (HF.out _).mono ?_); rintro e w7 ⟨rfl, b7⟩; have HB7 := hid (HB.out.below b7); have bw7 := hid (b0.out.drew.trans (b7.mono b0.out.size))))
  go_wp2_with fail
  go_ret
  exact ⟨rfl, bw7.out⟩
set_option maxRecDepth 10000 in
set_option maxHeartbeats 8000000 in
theorem one_yes_8 (s a i : Int) (hi : 0 ≤ i) (hi2 : i ≤ 16) (w : World) (T1 T2 : Bool) (e1 : decide (0 < plI 8 s 0) = T1) (e2 : decide (inn a 0 (i - 1)) = T2) :
    Calls Tryz.prog 52 #[vP 8 s a 0 0 0 0, .int .i64 i] w fun e w' => e = .returned (.bool (T1 && T2)) ∧ Below w.heap.size w w' := by
  have e1 := hid e1
  have e2 := hid e2
  have B := boxed w 8 s a 0 0 0 0
  obtain ⟨W, hW⟩ : ∃ W, W = w.alloc (.cells #[.int .u8 8, .int .i64 s, .int .i64 a, .int .i64 0, .int .i64 0, .int .i64 0, .int .i64 0] 38) := ⟨_, rfl⟩
  have b0 := hid (show Below w.heap.size w W by rw [hW]; exact (Below.refl _ _).alloc (Nat.le_refl _) _)
  rw [← hW] at B
  have HF := hid (fun w => fields_8 s a 0 0 0 0 w)
  have HB := hid (B.below (Below.refl _ W).drew)
  obtain ⟨P, hP⟩ : ∃ P, plI 8 s 0 = P := ⟨_, rfl⟩
  have HQ := hid (fun w => refPlaces_any 8 s a 0 0 0 0 w)
  rw [hP] at HQ
  obtain ⟨j, hj⟩ : ∃ j, i - 1 = j := ⟨_, rfl⟩
  have Hj := hid hj
  have HPe := hid hP
  clear hP
  unfold vP at HQ ⊢
  clear B
  go_enter Tryz.func52, Tryz.ntmps52
  go_wp2_with fail
  rw [← hW]
  clear hW
  go_region_held3 (fun w' => w'.cell? ⟨w.heap.size, 0, none⟩ = some (.int .u8 8) ∧ w'.cell? ⟨w.heap.size, 1, none⟩ = some (.int .i64 s) ∧ w'.cell? ⟨w.heap.size, 2, none⟩ = some (.int .i64 a) ∧ w'.cell? ⟨w.heap.size, 3, none⟩ = some (.int .i64 0) ∧ w'.cell? ⟨w.heap.size, 4, none⟩ = some (.int .i64 0) ∧ w'.cell? ⟨w.heap.size, 5, none⟩ = some (.int .i64 0) ∧ w'.cell? ⟨w.heap.size, 6, none⟩ = some (.int .i64 0)) (first | exact ⟨HB7.out.c0, HB7.out.c1, HB7.out.c2, HB7.out.c3, HB7.out.c4, HB7.out.c5, HB7.out.c6⟩ | exact ⟨HB.out.c0, HB.out.c1, HB.out.c2, HB.out.c3, HB.out.c4, HB.out.c5, HB.out.c6⟩ | go_keep)
    (first | (go_at_call 70; (refine (HF.out _).mono ?_); rintro e w7 ⟨rfl, b7⟩; have HB7 := hid (HB.out.below b7); have bw7 := hid (b0.out.drew.trans (b7.mono b0.out.size))))
  obtain ⟨c0, c1, c2, c3, c4, c5, c6⟩ := HB7.out
  go_wp2_with fail
  refine (HQ.out _).mono ?_
  rintro e w8 ⟨rfl, b8⟩
  have HB8 := hid (HB7.out.below b8)
  have bw8 := hid (bw7.out.trans (b8.mono bw7.out.size))
  clear HQ HF b8 c0 c1 c2 c3 c4 c5 c6
  obtain ⟨c0, c1, c2, c3, c4, c5, c6⟩ := HB8.out
  have A2 := hid (within_T a 0 j T2 (by rw [← Hj.out]; exact e2.out) w8)
  cases T1
  · have hp : ¬ 0 < P := by rw [← HPe.out]; exact of_decide_eq_false e1.out
    go_wp2_with fail
    go_ret
    exact ⟨rfl, bw8.out⟩
  · have hp : 0 < P := by rw [← HPe.out]; exact of_decide_eq_true e1.out
    cases T2
    · go_wp2_with (go_at_call 72; (first | (with_reducible refine A2.out.mono ?_)); rintro e wx ⟨rfl, rfl⟩)
      go_ret
      exact ⟨rfl, bw8.out⟩
    · go_wp2_with (go_at_call 72; (first | (with_reducible refine A2.out.mono ?_)); rintro e wx ⟨rfl, rfl⟩)
      go_ret
      exact ⟨rfl, bw8.out⟩
set_option maxRecDepth 10000 in
set_option maxHeartbeats 8000000 in
theorem one_no_9 (s a b c r m i : Int) (w : World) (hs : ¬ vP 9 s a b c r m = vP 9 s a 0 0 0 m) :
    Calls Tryz.prog 52 #[vP 9 s a b c r m, .int .i64 i] w fun e w' => e = .returned (.bool false) ∧ Below w.heap.size w w' := by
  have HS := hid hs
  clear hs
  have B := boxed w 9 s a b c r m
  obtain ⟨W, hW⟩ : ∃ W, W = w.alloc (.cells #[.int .u8 9, .int .i64 s, .int .i64 a, .int .i64 b, .int .i64 c, .int .i64 r, .int .i64 m] 38) := ⟨_, rfl⟩
  have b0 := hid (show Below w.heap.size w W by rw [hW]; exact (Below.refl _ _).alloc (Nat.le_refl _) _)
  rw [← hW] at B
  have HF := hid (fun w => fields_9 s a b c r m w)
  have HB := hid (B.below (Below.refl _ W).drew)
  have hneq : ∀ w, (binOp BinOp.neq 38 (.agg #[.int .u8 9, .int .i64 s, .int .i64 a, .int .i64 0, .int .i64 0, .int .i64 0, .int .i64 m]) (.agg #[.int .u8 9, .int .i64 s, .int .i64 a, .int .i64 b, .int .i64 c, .int .i64 r, .int .i64 m])).run Tryz.prog w = .ok (.bool true) w := by
    intro w
    go_simp
    intros
    intro hlast
    refine HS.out ?_
    unfold vP
    simp
    omega
  unfold vP
  clear B
  go_enter Tryz.func52, Tryz.ntmps52
  go_wp2_with fail
  rw [← hW]
  clear hW
  go_region_held3 (fun w' => w'.cell? ⟨w.heap.size, 0, none⟩ = some (.int .u8 9) ∧ w'.cell? ⟨w.heap.size, 1, none⟩ = some (.int .i64 s) ∧ w'.cell? ⟨w.heap.size, 2, none⟩ = some (.int .i64 a) ∧ w'.cell? ⟨w.heap.size, 3, none⟩ = some (.int .i64 b) ∧ w'.cell? ⟨w.heap.size, 4, none⟩ = some (.int .i64 c) ∧ w'.cell? ⟨w.heap.size, 5, none⟩ = some (.int .i64 r) ∧ w'.cell? ⟨w.heap.size, 6, none⟩ = some (.int .i64 m)) (first | exact ⟨HB7.out.c0, HB7.out.c1, HB7.out.c2, HB7.out.c3, HB7.out.c4, HB7.out.c5, HB7.out.c6⟩ | exact ⟨HB.out.c0, HB.out.c1, HB.out.c2, HB.out.c3, HB.out.c4, HB.out.c5, HB.out.c6⟩ | go_keep)
    (first | (go_at_call 70; (refine (HF.out _).mono ?_); rintro e w7 ⟨rfl, b7⟩; have HB7 := hid (HB.out.below b7); have bw7 := hid (b0.out.drew.trans (b7.mono b0.out.size))))
  go_wp2_with fail
  go_ret
  exact ⟨rfl, bw7.out⟩
set_option maxRecDepth 10000 in
set_option maxHeartbeats 8000000 in
theorem one_yes_9 (s a m i : Int) (hi : 0 ≤ i) (hi2 : i ≤ 16) (w : World) (T1 T2 T3 : Bool) (e1 : decide (0 < plI 9 s 0) = T1) (e2 : decide (inn a 0 (i - 1)) = T2) (e3 : decide (inn m 1 1023) = T3) :
    Calls Tryz.prog 52 #[vP 9 s a 0 0 0 m, .int .i64 i] w fun e w' => e = .returned (.bool (T1 && T2 && T3)) ∧ Below w.heap.size w w' := by
  have e1 := hid e1
  have e2 := hid e2
  have e3 := hid e3
  have B := boxed w 9 s a 0 0 0 m
  obtain ⟨W, hW⟩ : ∃ W, W = w.alloc (.cells #[.int .u8 9, .int .i64 s, .int .i64 a, .int .i64 0, .int .i64 0, .int .i64 0, .int .i64 m] 38) := ⟨_, rfl⟩
  have b0 := hid (show Below w.heap.size w W by rw [hW]; exact (Below.refl _ _).alloc (Nat.le_refl _) _)
  rw [← hW] at B
  have HF := hid (fun w => fields_9 s a 0 0 0 m w)
  have HB := hid (B.below (Below.refl _ W).drew)
  obtain ⟨P, hP⟩ : ∃ P, plI 9 s 0 = P := ⟨_, rfl⟩
  have HQ := hid (fun w => refPlaces_any 9 s a 0 0 0 m w)
  rw [hP] at HQ
  obtain ⟨j, hj⟩ : ∃ j, i - 1 = j := ⟨_, rfl⟩
  have Hj := hid hj
  have HPe := hid hP
  clear hP
  unfold vP at HQ ⊢
  clear B
  go_enter Tryz.func52, Tryz.ntmps52
  go_wp2_with fail
  rw [← hW]
  clear hW
  go_region_held3 (fun w' => w'.cell? ⟨w.heap.size, 0, none⟩ = some (.int .u8 9) ∧ w'.cell? ⟨w.heap.size, 1, none⟩ = some (.int .i64 s) ∧ w'.cell? ⟨w.heap.size, 2, none⟩ = some (.int .i64 a) ∧ w'.cell? ⟨w.heap.size, 3, none⟩ = some (.int .i64 0) ∧ w'.cell? ⟨w.heap.size, 4, none⟩ = some (.int .i64 0) ∧ w'.cell? ⟨w.heap.size, 5, none⟩ = some (.int .i64 0) ∧ w'.cell? ⟨w.heap.size, 6, none⟩ = some (.int .i64 m)) (first | exact ⟨HB7.out.c0, HB7.out.c1, HB7.out.c2, HB7.out.c3, HB7.out.c4, HB7.out.c5, HB7.out.c6⟩ | exact ⟨HB.out.c0, HB.out.c1, HB.out.c2, HB.out.c3, HB.out.c4, HB.out.c5, HB.out.c6⟩ | go_keep)
    (first | (go_at_call 70; (refine (HF.out _).mono ?_); rintro e w7 ⟨rfl, b7⟩; have HB7 := hid (HB.out.below b7); have bw7 := hid (b0.out.drew.trans (b7.mono b0.out.size))))
  obtain ⟨c0, c1, c2, c3, c4, c5, c6⟩ := HB7.out
  go_wp2_with fail
  refine (HQ.out _).mono ?_
  rintro e w8 ⟨rfl, b8⟩
  have HB8 := hid (HB7.out.below b8)
  have bw8 := hid (bw7.out.trans (b8.mono bw7.out.size))
  clear HQ HF b8 c0 c1 c2 c3 c4 c5 c6
  obtain ⟨c0, c1, c2, c3, c4, c5, c6⟩ := HB8.out
  have A2 := hid (within_T a 0 j T2 (by rw [← Hj.out]; exact e2.out) w8)
  have A3 := hid (within_T m 1 1023 T3 e3.out w8)
  cases T1
  · have hp : ¬ 0 < P := by rw [← HPe.out]; exact of_decide_eq_false e1.out
    go_wp2_with fail
    go_ret
    exact ⟨rfl, bw8.out⟩
  · have hp : 0 < P := by rw [← HPe.out]; exact of_decide_eq_true e1.out
    cases T2
    · go_wp2_with (go_at_call 72; (first | (with_reducible refine A2.out.mono ?_)); rintro e wx ⟨rfl, rfl⟩)
      go_ret
      exact ⟨rfl, bw8.out⟩
    · cases T3
      · go_wp2_with (go_at_call 72; (first | (with_reducible refine A2.out.mono ?_) | (with_reducible refine A3.out.mono ?_)); rintro e wx ⟨rfl, rfl⟩)
        go_ret
        exact ⟨rfl, bw8.out⟩
      · go_wp2_with (go_at_call 72; (first | (with_reducible refine A2.out.mono ?_) | (with_reducible refine A3.out.mono ?_)); rintro e wx ⟨rfl, rfl⟩)
        go_ret
        exact ⟨rfl, bw8.out⟩
end Go.Proofs.YtkfdbibgjoaefaaGreatDoor
/-
  What the document's side wants of stage texts, for this seat (Rt).
-/

namespace Go.Proofs.YtkfdbibgjoaefaaGreatDoor
open Go.RowKit

/-- The document's: a part at the place i. -/
theorem one_any (p : Pt) (i : Int) (hi : 0 ≤ i) (hi2 : i ≤ 16) (w : World) :
    Calls Tryz.prog 52 #[vPt p, .int .i64 i] w fun e w' => e = .returned (.bool (decide (p.one i))) ∧ Below w.heap.size w w' := by
  obtain ⟨k, s, a, b, c, r, m⟩ := p
  unfold vPt
  dsimp only
  rcases kinds k with h | h | h | h | h | h | h | h | h | ⟨h1, h2, h3, h4, h5, h6, h7, h8, h9⟩
  · subst h
    show Calls Tryz.prog 52 #[vP 1 s a b c r m, .int .i64 i] w _
    have hone := oneP_1 s a b c r m i
    by_cases hs : vP 1 s a b c r m = vP 1 0 0 0 c 0 0
    · have hz := vP_inj.1 hs
      obtain ⟨_, rfl, rfl, rfl, _, rfl, rfl⟩ := hz
      refine (one_yes_1 c i hi hi2 w _ rfl).mono fun e w' h => ⟨h.1.trans (ret_bool ?_), h.2⟩
      rw [Bool.eq_iff_iff]
      simp only [decide_eq_true_eq, hone]
      simp only [inn, true_and, and_true] <;> omega
    · have hf : decide (Pt.one ⟨1, s, a, b, c, r, m⟩ i) = false := by
        refine decide_eq_false (fun h => hs (vP_inj.2 ?_))
        have := hone.1 h
        omega
      rw [hf]
      exact one_no_1 s a b c r m i w hs
  · subst h
    show Calls Tryz.prog 52 #[vP 2 s a b c r m, .int .i64 i] w _
    have hone := oneP_2 s a b c r m i
    by_cases hs : vP 2 s a b c r m = vP 2 s 0 0 0 0 m
    · have hz := vP_inj.1 hs
      obtain ⟨_, _, rfl, rfl, rfl, rfl, _⟩ := hz
      refine (one_yes_2 s m i hi hi2 w _ _ rfl rfl).mono fun e w' h => ⟨h.1.trans (ret_bool ?_), h.2⟩
      rw [Bool.eq_iff_iff]
      simp only [Bool.and_eq_true, decide_eq_true_eq, hone]
      simp only [inn, true_and, and_true] <;> omega
    · have hf : decide (Pt.one ⟨2, s, a, b, c, r, m⟩ i) = false := by
        refine decide_eq_false (fun h => hs (vP_inj.2 ?_))
        have := hone.1 h
        omega
      rw [hf]
      exact one_no_2 s a b c r m i w hs
  · subst h
    show Calls Tryz.prog 52 #[vP 3 s a b c r m, .int .i64 i] w _
    have hone := oneP_3 s a b c r m i
    by_cases hs : vP 3 s a b c r m = vP 3 s 0 0 0 0 0
    · have hz := vP_inj.1 hs
      obtain ⟨_, _, rfl, rfl, rfl, rfl, rfl⟩ := hz
      refine (one_yes_3 s i hi hi2 w _ rfl).mono fun e w' h => ⟨h.1.trans (ret_bool ?_), h.2⟩
      rw [Bool.eq_iff_iff]
      simp only [decide_eq_true_eq, hone]
      simp only [true_and, and_true] <;> omega
    · have hf : decide (Pt.one ⟨3, s, a, b, c, r, m⟩ i) = false := by
        refine decide_eq_false (fun h => hs (vP_inj.2 ?_))
        have := hone.1 h
        omega
      rw [hf]
      exact one_no_3 s a b c r m i w hs
  · subst h
    show Calls Tryz.prog 52 #[vP 4 s a b c r m, .int .i64 i] w _
    have hone := oneP_4 s a b c r m i
    by_cases hs : vP 4 s a b c r m = vP 4 s 0 0 0 0 0
    · have hz := vP_inj.1 hs
      obtain ⟨_, _, rfl, rfl, rfl, rfl, rfl⟩ := hz
      refine (one_yes_4 s i hi hi2 w _ rfl).mono fun e w' h => ⟨h.1.trans (ret_bool ?_), h.2⟩
      rw [Bool.eq_iff_iff]
      simp only [decide_eq_true_eq, hone]
      simp only [true_and, and_true] <;> omega
    · have hf : decide (Pt.one ⟨4, s, a, b, c, r, m⟩ i) = false := by
        refine decide_eq_false (fun h => hs (vP_inj.2 ?_))
        have := hone.1 h
        omega
      rw [hf]
      exact one_no_4 s a b c r m i w hs
  · subst h
    show Calls Tryz.prog 52 #[vP 5 s a b c r m, .int .i64 i] w _
    have hone := oneP_5 s a b c r m i
    by_cases hs : vP 5 s a b c r m = vP 5 0 a b c 0 0
    · have hz := vP_inj.1 hs
      obtain ⟨_, rfl, _, _, _, rfl, rfl⟩ := hz
      refine (one_yes_5 a b c i hi hi2 w _ _ _ rfl rfl rfl).mono fun e w' h => ⟨h.1.trans (ret_bool ?_), h.2⟩
      rw [Bool.eq_iff_iff]
      simp only [Bool.and_eq_true, decide_eq_true_eq, hone]
      simp only [inn, true_and, and_true] <;> omega
    · have hf : decide (Pt.one ⟨5, s, a, b, c, r, m⟩ i) = false := by
        refine decide_eq_false (fun h => hs (vP_inj.2 ?_))
        have := hone.1 h
        omega
      rw [hf]
      exact one_no_5 s a b c r m i w hs
  · subst h
    show Calls Tryz.prog 52 #[vP 6 s a b c r m, .int .i64 i] w _
    have hone := oneP_6 s a b c r m i
    by_cases hs : vP 6 s a b c r m = vP 6 s a b 0 r 0
    · have hz := vP_inj.1 hs
      obtain ⟨_, _, _, _, rfl, _, rfl⟩ := hz
      refine (one_yes_6 s a b r i hi hi2 w _ _ _ _ rfl rfl rfl rfl).mono fun e w' h => ⟨h.1.trans (ret_bool ?_), h.2⟩
      rw [Bool.eq_iff_iff]
      simp only [Bool.and_eq_true, decide_eq_true_eq, hone]
      simp only [inn, true_and, and_true] <;> omega
    · have hf : decide (Pt.one ⟨6, s, a, b, c, r, m⟩ i) = false := by
        refine decide_eq_false (fun h => hs (vP_inj.2 ?_))
        have := hone.1 h
        omega
      rw [hf]
      exact one_no_6 s a b c r m i w hs
  · subst h
    show Calls Tryz.prog 52 #[vP 7 s a b c r m, .int .i64 i] w _
    have hone := oneP_7 s a b c r m i
    by_cases hs : vP 7 s a b c r m = vP 7 s a b 0 r 0
    · have hz := vP_inj.1 hs
      obtain ⟨_, _, _, _, rfl, _, rfl⟩ := hz
      refine (one_yes_7 s a b r i hi hi2 w _ _ _ _ rfl rfl rfl rfl).mono fun e w' h => ⟨h.1.trans (ret_bool ?_), h.2⟩
      rw [Bool.eq_iff_iff]
      simp only [Bool.and_eq_true, decide_eq_true_eq, hone]
      simp only [inn, true_and, and_true] <;> omega
    · have hf : decide (Pt.one ⟨7, s, a, b, c, r, m⟩ i) = false := by
        refine decide_eq_false (fun h => hs (vP_inj.2 ?_))
        have := hone.1 h
        omega
      rw [hf]
      exact one_no_7 s a b c r m i w hs
  · subst h
    show Calls Tryz.prog 52 #[vP 8 s a b c r m, .int .i64 i] w _
    have hone := oneP_8 s a b c r m i
    by_cases hs : vP 8 s a b c r m = vP 8 s a 0 0 0 0
    · have hz := vP_inj.1 hs
      obtain ⟨_, _, _, rfl, rfl, rfl, rfl⟩ := hz
      refine (one_yes_8 s a i hi hi2 w _ _ rfl rfl).mono fun e w' h => ⟨h.1.trans (ret_bool ?_), h.2⟩
      rw [Bool.eq_iff_iff]
      simp only [Bool.and_eq_true, decide_eq_true_eq, hone]
      simp only [inn, true_and, and_true] <;> omega
    · have hf : decide (Pt.one ⟨8, s, a, b, c, r, m⟩ i) = false := by
        refine decide_eq_false (fun h => hs (vP_inj.2 ?_))
        have := hone.1 h
        omega
      rw [hf]
      exact one_no_8 s a b c r m i w hs
  · subst h
    show Calls Tryz.prog 52 #[vP 9 s a b c r m, .int .i64 i] w _
    have hone := oneP_9 s a b c r m i
    by_cases hs : vP 9 s a b c r m = vP 9 s a 0 0 0 m
    · have hz := vP_inj.1 hs
      obtain ⟨_, _, _, rfl, rfl, rfl, _⟩ := hz
      refine (one_yes_9 s a m i hi hi2 w _ _ _ rfl rfl rfl).mono fun e w' h => ⟨h.1.trans (ret_bool ?_), h.2⟩
      rw [Bool.eq_iff_iff]
      simp only [Bool.and_eq_true, decide_eq_true_eq, hone]
      simp only [inn, true_and, and_true] <;> omega
    · have hf : decide (Pt.one ⟨9, s, a, b, c, r, m⟩ i) = false := by
        refine decide_eq_false (fun h => hs (vP_inj.2 ?_))
        have := hone.1 h
        omega
      rw [hf]
      exact one_no_9 s a b c r m i w hs
  · have hf : decide (Pt.one ⟨k, s, a, b, c, r, m⟩ i) = false := decide_eq_false (oneP_x k s a b c r m i h1 h2 h3 h4 h5 h6 h7 h8 h9)
    rw [hf]
    by_cases hs : vP k s a b c r m = vP k 0 0 0 0 0 0
    · have hz := vP_inj.1 hs
      obtain ⟨_, rfl, rfl, rfl, rfl, rfl, rfl⟩ := hz
      exact one_yes_k k i hi hi2 w h1 h2 h3 h4 h5 h6 h7 h8 h9
    · exact one_no_k k s a b c r m i w h1 h2 h3 h4 h5 h6 h7 h8 h9 hs
end Go.Proofs.YtkfdbibgjoaefaaGreatDoor
/-
  What the document's side wants of stage texts, for this seat (Rgd).
-/

namespace Go.Proofs.YtkfdbibgjoaefaaGreatDoor
open Go.RowKit

set_option maxRecDepth 10000 in
set_option maxHeartbeats 4000000 in
theorem refRight_any (A : Option Addr) (n c : Nat) (L : List Pt) (w : World) (h : IsP w w.heap.size A n c L) :
    Calls Tryz.prog 28 #[.slice A n c] w fun e w' => e = .returned (.int .i64 (rightP L)) ∧ Below w.heap.size w w' := by
  have hm := h.max
  have hcp := h.cap
  have hlen := h.len
  unfold maxLen at hm
  by_cases h1 : n < 1
  · have hr : rightP L = 100 := if_pos (.inl (by omega))
    rw [hr]
    have z1 : (n : Int) < 1 := by omega
    clear h hlen
    go_enter Tryz.func28, Tryz.ntmps28
    go_wp2_with fail
    go_ret
    exact ⟨rfl, Below.refl _ _⟩
  by_cases h2 : 16 < n
  · have hr : rightP L = 100 := if_pos (.inr (by omega))
    rw [hr]
    have z1 : ¬ (n : Int) < 1 := by omega
    have z2 : (16 : Int) < (n : Int) := by omega
    clear h hlen
    go_enter Tryz.func28, Tryz.ntmps28
    go_wp2_with fail
    go_ret
    exact ⟨rfl, Below.refl _ _⟩
  have z1 : ¬ (n : Int) < 1 := by omega
  have z2 : ¬ (16 : Int) < (n : Int) := by omega
  have hr0 : rightP L = if ¬ allOne L then 100 else if 1048576 < memP L then 101 else 0 := if_neg (by omega)
  have HR := hid hr0
  clear hr0
  go_enter Tryz.func28, Tryz.ntmps28
  go_wp2_with fail
  go_loopw [3] (fun vi wr => ∃ i : Nat, i ≤ n ∧ vi = .int .i64 i ∧ (∀ k (hk : k < L.length), k < i → L[k].one k) ∧ Below w.heap.size w wr) (fun vi _ => n - (intOf vi).toNat)
  case atStart => exact ⟨0, Nat.zero_le _, rfl, fun k hk h0 => absurd h0 (by omega), Below.refl _ _⟩
  case round =>
    obtain ⟨i, hi, rfl, hall, hw⟩ := hrel
    have HA := hid hall
    clear hall
    by_cases hgo : i < n
    · have hz : (i : Int) < (n : Int) := by omega
      obtain ⟨ad, p, rfl, hl, hp, a1⟩ := h.at i hgo
      obtain ⟨k0, k1, k2, k3, k4, k5, k6⟩ := a1.below hw (by rw [block_of_add]; exact hl)
      have hL : i < L.length := by rw [h.len]; exact hgo
      have hpe : L[i] = p := by
        rw [List.getElem?_eq_getElem hL] at hp
        injection hp
      have HPe := hid hpe
      have HP := hid (fun w => one_any p (i : Nat) (by omega) (by omega) w)
      unfold vPt vP at HP
      by_cases ho : p.one (i : Nat)
      · rw [decide_eq_true ho] at HP
        have HN : Hid (∀ k (hk : k < L.length), k < i + 1 → L[k].one k) := by
          intro k hk hki
          rcases Nat.lt_or_ge k i with hlt | hge
          · exact HA.out k hk hlt
          · obtain rfl : k = i := by omega
            rw [hpe]; exact ho
        clear hp a1 h ho hpe
        go_wp2_with fail
        refine (HP.out _).mono ?_
        rintro e w2 ⟨rfl, b2⟩
        have B2 : Below w.heap.size w w2 := hw.trans (b2.mono hw.size)
        go_wp2_with fail
        go_roundw
        case rel => exact ⟨i + 1, by omega, by go_num, HN.out, B2⟩
        case measure => simp [intOf]; omega
      · rw [decide_eq_false ho] at HP
        have hr : rightP L = 100 := by
          rw [HR.out, if_pos]
          intro ha
          exact ho (hpe ▸ ha i hL)
        have HR2 := hid hr
        clear hp a1 h ho hpe hr
        go_wp2_with fail
        refine (HP.out _).mono ?_
        rintro e w2 ⟨rfl, b2⟩
        have B2 : Below w.heap.size w w2 := hw.trans (b2.mono hw.size)
        go_wp2_with fail
        go_ret
        exact ⟨ret_int HR2.out.symm, B2⟩
    · obtain rfl : i = n := by omega
      have hall : allOne L := fun k hk => HA.out k hk (by omega)
      rw [if_neg (fun x => x hall)] at HR
      have HM := hid (fun w h => refMemory_any A i c L w h (by omega))
      have hI := h.below hw
      have hM : Calls Tryz.prog 53 #[.slice A i c] wr fun e w' => e = .returned (.int .i64 (memP L)) ∧ Below wr.heap.size wr w' := HM.out wr ⟨hI.len, hI.cap, hI.max, fun h0 => by
        obtain ⟨ad, e, hl, ha⟩ := hI.lies h0
        exact ⟨ad, e, Nat.lt_of_lt_of_le hl hw.size, ha⟩⟩
      have HM2 := hid hM
      obtain ⟨q, hq⟩ : ∃ q, memP L = q := ⟨_, rfl⟩
      rw [hq] at HM2
      rw [hq] at HR
      clear HM hM hI h hq
      by_cases hb : 1048576 < q
      · rw [if_pos hb] at HR
        go_wp2_with fail
        refine HM2.out.mono ?_
        rintro e w2 ⟨rfl, b2⟩
        go_wp2_with fail
        go_ret
        exact ⟨ret_int HR.out.symm, hw.trans (b2.mono hw.size)⟩
      · rw [if_neg hb] at HR
        go_wp2_with fail
        refine HM2.out.mono ?_
        rintro e w2 ⟨rfl, b2⟩
        go_wp2_with fail
        go_ret
        exact ⟨ret_int HR.out.symm, hw.trans (b2.mono hw.size)⟩
end Go.Proofs.YtkfdbibgjoaefaaGreatDoor
/-
  The document's blend: New (written by tools/stage12/gen_rnw.py).
-/
namespace Go.Proofs.YtkfdbibgjoaefaaGreatDoor
open Go.RowKit
set_option linter.unusedVariables false
set_option linter.unusedSimpArgs false

theorem rNew_bad (A : Option Addr) (n c : Nat) (L : List Pt) (w : World) (h : IsP w w.heap.size A n c L) (hr : ¬ rightP L = 0) :
    Calls Tryz.prog 8 #[.slice A n c] w fun e w' => e = .returned (.tuple #[.pointer none, .int .i64 (rightP L)]) ∧ Below w.heap.size w w' := by
  have HR := hid (refRight_any A n c L w h)
  have hr2 : (rightP L != 0) = true := by simpa using hr
  generalize rightP L = r at *
  clear h
  go_enter Tryz.func8, Tryz.ntmps8
  go_wp2_with fail
  refine HR.out.mono ?_
  rintro e w1 ⟨rfl, b1⟩
  go_wp2_with fail
  go_ret2
  exact ⟨rfl, b1⟩
/-- A part's seven cells. -/
def C7 (W : World) (x : Addr) (k0 : Nat) (k1 k2 k3 k4 k5 k6 : Int) : Prop := W.cell? x = some (.int .u8 k0) ∧ W.cell? ⟨x.block, x.off + 1, none⟩ = some (.int .i64 k1) ∧ W.cell? ⟨x.block, x.off + 2, none⟩ = some (.int .i64 k2) ∧ W.cell? ⟨x.block, x.off + 3, none⟩ = some (.int .i64 k3) ∧ W.cell? ⟨x.block, x.off + 4, none⟩ = some (.int .i64 k4) ∧ W.cell? ⟨x.block, x.off + 5, none⟩ = some (.int .i64 k5) ∧ W.cell? ⟨x.block, x.off + 6, none⟩ = some (.int .i64 k6)
structure Prt (w W : World) (x : Addr) (k0 : Nat) (k1 k2 k3 k4 k5 k6 : Int) : Prop where
  lt : x.block < w.heap.size
  le : w.heap.size ≤ W.heap.size
  at7 : C7 W x k0 k1 k2 k3 k4 k5 k6
theorem C7.keep {W W2 : World} {x : Addr} {k0 : Nat} {k1 k2 k3 k4 k5 k6 : Int} (h : C7 W x k0 k1 k2 k3 k4 k5 k6) (e : W2.heap[x.block]? = W.heap[x.block]?) : C7 W2 x k0 k1 k2 k3 k4 k5 k6 := by
  have k : ∀ a : Addr, a.block = x.block → W2.cell? a = W.cell? a := fun a ha => World.cell?_of_block (by rw [ha]; exact e)
  obtain ⟨z0, z1, z2, z3, z4, z5, z6⟩ := h
  exact ⟨(k _ rfl).trans z0, (k ⟨x.block, x.off + 1, none⟩ rfl).trans z1, (k ⟨x.block, x.off + 2, none⟩ rfl).trans z2, (k ⟨x.block, x.off + 3, none⟩ rfl).trans z3, (k ⟨x.block, x.off + 4, none⟩ rfl).trans z4, (k ⟨x.block, x.off + 5, none⟩ rfl).trans z5, (k ⟨x.block, x.off + 6, none⟩ rfl).trans z6⟩
theorem Prt.later {w W W2 : World} {x : Addr} {k0 : Nat} {k1 k2 k3 k4 k5 k6 : Int} (h : Prt w W x k0 k1 k2 k3 k4 k5 k6) (b : Below W.heap.size W W2) : Prt w W2 x k0 k1 k2 k3 k4 k5 k6 :=
  ⟨h.lt, Nat.le_trans h.le b.size, h.at7.keep (b.block _ (by have := h.lt; have := h.le; omega))⟩
theorem Prt.grown {w W W2 : World} {x : Addr} {k0 : Nat} {k1 k2 k3 k4 k5 k6 : Int} {row : Option Nat} (h : Prt w W x k0 k1 k2 k3 k4 k5 k6) (hg : W.grownBy W2 row) (hr : ∀ q, row = some q → w.heap.size ≤ q) : Prt w W2 x k0 k1 k2 k3 k4 k5 k6 :=
  ⟨h.lt, Nat.le_trans h.le hg.size, h.at7.keep (hg.block _ (by have := h.lt; have := h.le; omega) (fun e => by have := hr _ e.symm; have := h.lt; omega))⟩
attribute [local irreducible] cellsU
set_option maxRecDepth 10000 in
set_option maxHeartbeats 4000000 in
theorem rNew_any (A : Option Addr) (n c : Nat) (L : List Pt) (w : World) (h : IsP w w.heap.size A n c L) (hr : rightP L = 0) : Calls Tryz.prog 8 #[.slice A n c] w (RNew w n L) := by
  have HR := hid (refRight_any A n c L w h)
  have hlen := h.len
  have hall := ((rightP_ok L).1 hr).2.1
  have n16 : n ≤ 16 := by have := ((rightP_ok L).1 hr).1; omega
  have n1 : 1 ≤ n := by have := ((rightP_ok L).1 hr).1; omega
  have z16 : (n : Int) ≤ 16 := by omega
  have HD := hid (fun W r Vf s (x : NwR w W r L n Vf s) => x.done hlen n1 hr)
  rw [hr] at HR
  have HI := hid h
  have HA := hid hall
  have HL := hid hlen
  have hcc := h.cap
  clear h hall hlen hr
  go_enter Tryz.func8, Tryz.ntmps8
  go_wp2_with fail
  refine HR.out.mono ?_
  rintro e w1 ⟨rfl, b1⟩
  clear HR
  have BG0 := hid (NwR.begin (L := L) (Vf := fun _ => nilV) b1)
  have e0 : (.cells (cellsB nilS) 51 : Obj) = .cells #[.slice none 0 0, .int .i64 1, .int .i64 0, .int .i64 0] 51 := rfl
  rw [e0] at BG0
  clear b1 e0
  go_upto_region 6 with fail
  generalize w1.alloc (.cells #[.slice none 0 0, .int .i64 1, .int .i64 0, .int .i64 0] 51) = W9 at *
  generalize w1.heap.size = r at *
  go_loopw [6] (fun v wr => ∃ (i : Nat) (Vf : Nat → Vs) (s : Sw), i ≤ n ∧ v = .int .i64 (i : Int) ∧ Hid (NwR w wr r L i Vf s)) (fun v _ => n - (intOf v).toNat)
  case atStart => exact ⟨0, _, nilS, by omega, rfl, BG0⟩
  case round =>
    obtain ⟨i, Vf, s, hi, rfl, BI⟩ := hrel
    clear BG0
    by_cases hlt : i < n
    · have hz : (i : Int) < (n : Int) := by omega
      obtain ⟨ad, p, rfl, hl, hp, a7⟩ := HI.out.at i hlt
      have hLi : i < L.length := by rw [HL.out]; exact hlt
      have hpe : L[i] = p := by
        rw [List.getElem?_eq_getElem hLi] at hp
        injection hp
      have hpg : L.getD i zPt = p := by rw [List.getD_eq_getElem?_getD, hp]; rfl
      have hone : p.one i := by rw [← hpe]; exact HA.out i hLi
      have HB := hid (fun W => begun_any p W i hone)
      unfold cellsPt at HB
      have IP : Hid (Prt w wr (ad.add (i * 7)) p.kind p.size p.a p.b p.c p.rate p.limit) := hid (Prt.later ⟨by rw [block_of_add]; exact hl, Nat.le_refl _, a7.c0, a7.c1, a7.c2, a7.c3, a7.c4, a7.c5, a7.c6⟩ BI.out.bel : Prt w wr (ad.add (i * 7)) p.kind p.size p.a p.b p.c p.rate p.limit)
      replace IP := hid (IP.out.later (Below.refl _ wr).drew)
      rw [← hpg] at HB
      obtain ⟨pp, hpp⟩ : ∃ pp, L.getD i zPt = pp := ⟨_, rfl⟩
      have ST0 := hid (BI.out.later (Below.refl _ wr).drew)
      obtain ⟨k0, hk0⟩ : ∃ k0, p.kind = k0 := ⟨_, rfl⟩
      obtain ⟨k1, hk1⟩ : ∃ k1, p.size = k1 := ⟨_, rfl⟩
      obtain ⟨k2, hk2⟩ : ∃ k2, p.a = k2 := ⟨_, rfl⟩
      obtain ⟨k3, hk3⟩ : ∃ k3, p.b = k3 := ⟨_, rfl⟩
      obtain ⟨k4, hk4⟩ : ∃ k4, p.c = k4 := ⟨_, rfl⟩
      obtain ⟨k5, hk5⟩ : ∃ k5, p.rate = k5 := ⟨_, rfl⟩
      obtain ⟨k6, hk6⟩ : ∃ k6, p.limit = k6 := ⟨_, rfl⟩
      rw [hpg] at HB
      rw [hk0, hk1, hk2, hk3, hk4, hk5, hk6] at HB IP
      rw [← hpg] at HB
      clear a7 hp hpe hpg hone hpp BI hk0 hk1 hk2 hk3 hk4 hk5 hk6 hLi HI HA HL HD hl
      go_upto_region 8 with fail
      refine wp_region_until 12 (S := fun W => W.cell? ⟨r, 0, none⟩ = some (.slice s.a s.n s.c) ∧ C7 W (ad.add (i * 7)) k0 k1 k2 k3 k4 k5 k6) (by kernel_rfl) ⟨ST0.out.cell.1, IP.out.at7⟩ (fun hH0 => ?_)
      generalize wr.drew = W0 at *
      refine wpUntil_take (i := 0) (oi := ⟨some 20, _, _, _, _, _⟩) (v := .pointer (some ⟨r, 0, none⟩)) rfl (by kernel_rfl) (by kernel_rfl) (by kernel_rfl) (by kernel_rfl) (by decide) (by kernel_rfl) (fun _ _ _ h => h) (Or.inl ⟨by rfl, by intro w hSw; (try dsimp only at hSw); go_simp⟩) hH0 ?_
      try simp only [Act.put, List.setIfInBounds_toArray, List.set_cons_zero, List.set_cons_succ]
      refine wpUntil_take (i := 1) (oi := ⟨some 21, _, _, _, _, _⟩) (v := .pointer (some ⟨r, 0, none⟩)) rfl (by kernel_rfl) (by kernel_rfl) (by kernel_rfl) (by kernel_rfl) (by decide) (by kernel_rfl) (fun _ _ _ h => h) (Or.inl ⟨by rfl, by intro w hSw; (try dsimp only at hSw); go_simp⟩) hH0 ?_
      try simp only [Act.put, List.setIfInBounds_toArray, List.set_cons_zero, List.set_cons_succ]
      refine wpUntil_take (i := 2) (oi := ⟨some 22, _, _, _, _, _⟩) (v := .pointer (some ⟨r, 0, none⟩)) rfl (by kernel_rfl) (by kernel_rfl) (by kernel_rfl) (by kernel_rfl) (by decide) (by kernel_rfl) (fun _ _ _ h => h) (Or.inl ⟨by rfl, by intro w hSw; (try dsimp only at hSw); go_simp⟩) hH0 ?_
      try simp only [Act.put, List.setIfInBounds_toArray, List.set_cons_zero, List.set_cons_succ]
      refine wpUntil_take (i := 3) (oi := ⟨some 23, _, _, _, _, _⟩) (v := .pointer (some ⟨r, 0, none⟩)) rfl (by kernel_rfl) (by kernel_rfl) (by kernel_rfl) (by kernel_rfl) (by decide) (by kernel_rfl) (fun _ _ _ h => h) (Or.inl ⟨by rfl, by intro w hSw; (try dsimp only at hSw); go_simp⟩) hH0 ?_
      try simp only [Act.put, List.setIfInBounds_toArray, List.set_cons_zero, List.set_cons_succ]
      refine wpUntil_take (i := 4) (oi := ⟨some 24, _, _, _, _, _⟩) (v := .slice s.a s.n s.c) rfl (by kernel_rfl) (by kernel_rfl) (by kernel_rfl) (by kernel_rfl) (by decide) (by kernel_rfl) (fun _ _ _ h => h) (Or.inl ⟨by rfl, by intro w hSw; (try dsimp only at hSw); have h1 := hSw.1; clear hSw; go_simp⟩) hH0 ?_
      try simp only [Act.put, List.setIfInBounds_toArray, List.set_cons_zero, List.set_cons_succ]
      refine wpUntil_take (i := 5) (oi := ⟨some 25, _, _, _, _, _⟩) (v := .slice (some ad) n c) rfl (by kernel_rfl) (by kernel_rfl) (by kernel_rfl) (by kernel_rfl) (by decide) (by kernel_rfl) (fun _ _ _ h => h) (Or.inl ⟨by rfl, by intro w hSw; (try dsimp only at hSw); go_simp⟩) hH0 ?_
      try simp only [Act.put, List.setIfInBounds_toArray, List.set_cons_zero, List.set_cons_succ]
      refine wpUntil_take (i := 6) (oi := ⟨some 26, _, _, _, _, _⟩) (v := .int .i64 (i : Int)) rfl (by kernel_rfl) (by kernel_rfl) (by kernel_rfl) (by kernel_rfl) (by decide) (by kernel_rfl) (fun _ _ _ h => h) (Or.inl ⟨by rfl, by intro w hSw; (try dsimp only at hSw); go_simp⟩) hH0 ?_
      try simp only [Act.put, List.setIfInBounds_toArray, List.set_cons_zero, List.set_cons_succ]
      refine wpUntil_take (i := 7) (oi := ⟨some 27, _, _, _, _, _⟩) (v := .pointer (some (ad.add (i * 7)))) rfl (by kernel_rfl) (by kernel_rfl) (by kernel_rfl) (by kernel_rfl) (by decide) (by kernel_rfl) (fun _ _ _ h => h) (Or.inl ⟨by rfl, by intro w hSw; (try dsimp only at hSw); go_simp⟩) hH0 ?_
      try simp only [Act.put, List.setIfInBounds_toArray, List.set_cons_zero, List.set_cons_succ]
      refine wpUntil_take (i := 8) (oi := ⟨some 28, _, _, _, _, _⟩) (v := .agg #[.int .u8 k0, .int .i64 k1, .int .i64 k2, .int .i64 k3, .int .i64 k4, .int .i64 k5, .int .i64 k6]) rfl (by kernel_rfl) (by kernel_rfl) (by kernel_rfl) (by kernel_rfl) (by decide) (by kernel_rfl) (fun _ _ _ h => h) (Or.inl ⟨by rfl, by intro w hSw; (try dsimp only at hSw); have h1 := hSw.2; clear hSw; obtain ⟨z0, z1, z2, z3, z4, z5, z6⟩ := h1; go_simp⟩) hH0 ?_
      try simp only [Act.put, List.setIfInBounds_toArray, List.set_cons_zero, List.set_cons_succ]
      refine wpUntil_ready (rs := [9]) (by kernel_rfl) (by simp) (AllU.cons rfl (fun K hK => ?_) AllU.nil)
      go_simp
      refine (HB.out W0).mono ?_
      rintro e W1 ⟨V, rfl, t1, a1, b1⟩
      have B1 := hid (ST0.out.made (V := V) b1 t1 a1)
      have I1 := hid (IP.out.later b1)
      clear t1 a1 b1
      refine hK.out _ _ ⟨B1.out.st.cell.1, I1.out.at7⟩ (fun hS1 => ?_)
      clear hK K
      try simp only [Act.put, List.setIfInBounds_toArray, List.set_cons_zero, List.set_cons_succ]
      refine wpUntil_ready (rs := [10]) (by kernel_rfl) (by simp) (AllU.cons rfl (fun K hK => ?_) AllU.nil)
      refine if_build49 rfl (.tmp 29) rfl _ _ rfl ?_
      have E2 := hid (heap_alloc_new W1 (.cells (cellsU (begun (L.getD i zPt)) V) 65))
      have B2 := hid (B1.out.later ((Below.refl _ W1).alloc (Nat.le_refl _) (.cells (cellsU (begun (L.getD i zPt)) V) 65)))
      have I2 := hid (I1.out.later ((Below.refl _ W1).alloc (Nat.le_refl _) (.cells (cellsU (begun (L.getD i zPt)) V) 65)))
      generalize W1.alloc (.cells (cellsU (begun (L.getD i zPt)) V) 65) = W2 at *
      generalize W1.heap.size = g at *
      refine hK.out _ _ ⟨B2.out.st.cell.1, I2.out.at7⟩ (fun hS2 => ?_)
      clear hK K
      try simp only [Act.put, List.setIfInBounds_toArray, List.set_cons_zero, List.set_cons_succ]
      refine wpUntil_ready (rs := [11]) (by kernel_rfl) (by simp) (AllU.cons rfl (fun K hK => ?_) AllU.nil)
      refine if_app65 rfl (.tmp 24) (.tmp 30) rfl w.heap.size (.slice s.a s.n s.c) i (uCells L Vf i) g (begun (L.getD i zPt)) V rfl rfl B2.out.st.own E2.out (by omega) B2.out.st.bel.size (fun q W3 h1 h2 h3 => ?_)
      have I3 := hid (I2.out.grown h2.out (fun x hx => (own16_lt B2.out.st.own hx).1))
      have GW := hid (B2.out.put h2.out h1.out h3.out)
      obtain ⟨s8, f8⟩ := B2.out.cell2 h2.out
      clear h1 h2 h3
      refine hK.out _ _ ⟨s8, I3.out.at7⟩ (fun hS3 => ?_)
      clear hK K
      try simp only [Act.put, List.setIfInBounds_toArray, List.set_cons_zero, List.set_cons_succ]
      refine wpUntil_ready (rs := [12]) (by kernel_rfl) (by simp) (AllU.late rfl (by kernel_rfl) (fun K hK => ?_) AllU.nil)
      go_simp
      refine hK.out _ _ ?_
      clear hK K
      try simp only [Act.put, List.setIfInBounds_toArray, List.set_cons_zero, List.set_cons_succ]
      refine wpUntil_ready (rs := [13]) (by kernel_rfl) (by simp) (AllU.late rfl (by kernel_rfl) (fun K hK => ?_) AllU.nil)
      go_simp
      refine hK.out _ _ ?_
      clear hK K
      try simp only [Act.put, List.setIfInBounds_toArray, List.set_cons_zero, List.set_cons_succ]
      refine wpUntil_ready (rs := [14]) (by kernel_rfl) (by simp) (AllU.late rfl (by kernel_rfl) (fun K hK => ?_) AllU.nil)
      go_simp
      refine hK.out _ _ ?_
      clear hK K
      try simp only [Act.put, List.setIfInBounds_toArray, List.set_cons_zero, List.set_cons_succ]
      refine wpUntil_done (by kernel_rfl) ?_ _
      clear s8 f8
      go_wp2_with fail
      go_roundw
      all_goals first
        | exact ⟨i + 1, _, q, by omega, by go_num, GW⟩
        | (simp [intOf]; omega)
    · obtain rfl : i = n := by omega
      have BE := hid (HD.out wr r Vf s BI.out)
      clear BI HD HI HA HL
      go_wp2_with fail
      go_ret2
      exact BE.out
end Go.Proofs.YtkfdbibgjoaefaaGreatDoor
/-
  BlendTells: copies, lists of their own, an act beside both blends (written by tools/stage12/gen_lwa.py).
-/
namespace Go.Proofs.YtkfdbibgjoaefaaGreatDoor
open Go.RowKit Go.Shelf
set_option linter.unusedVariables false
set_option linter.unusedSimpArgs false

set_option maxRecDepth 10000 in
set_option maxHeartbeats 1000000 in
theorem CopyParts_big (A : Option Addr) (n c : Nat) (L : List Pt) (w : World) (h : IsP w w.heap.size A n c L) (hn : n * 56 ≤ 140737488351232) :
    Calls Tryz.prog 6 #[.slice A n c] w fun e w' => ∃ A' c', e = .returned (.slice A' n c') ∧ IsP w' w'.heap.size A' n c' L ∧ w'.ownsRow w.heap.size 38 7 (.slice A' n c') n (L.flatMap cellsP) ∧ Below w.heap.size w w' := by
  have hm := h.max
  have hcp := h.cap
  unfold maxLen at hm
  obtain ⟨i32, hi32, hz32, hs32, hb32⟩ := info_parts Tryz.info38
  go_enter Tryz.func6, Tryz.ntmps6
  go_wp2_with fail
  go_loopw [3, 4] (fun vo vi wr => ∃ i : Nat, i ≤ n ∧ vi = .int .i64 i ∧ wr.ownsRow w.heap.size 38 7 vo i ((L.take i).flatMap cellsP) ∧ Below w.heap.size w wr) (fun _ vi _ => n - (intOf vi).toNat)
  case atStart => exact ⟨0, Nat.zero_le _, rfl, World.ownsRow_nil _ _ _ _, Below.refl _ _⟩
  case round =>
    obtain ⟨i, hi, rfl, ho, hw⟩ := hrel
    by_cases hgo : i < n
    · have hz : (i : Int) < (n : Int) := by omega
      obtain ⟨ad, p, rfl, hl, hp, a1⟩ := h.at i hgo
      obtain ⟨k0, k1, k2, k3, k4, k5, k6⟩ := a1.below hw (by rw [block_of_add]; exact hl)
      obtain ⟨Ao, co, rfl, hoc, hom⟩ := own_slice ho
      have hL : i < L.length := by rw [h.len]; exact hgo
      have HT : Hid ((L.take (i + 1)).flatMap cellsP = (L.take i).flatMap cellsP ++ cellsP p) := by
        unfold Hid
        rw [List.take_succ_eq_append_getElem hL, List.flatMap_append]
        rw [List.getElem?_eq_getElem hL] at hp
        injection hp with hp
        simp [hp]
      have HO := hid ho
      clear hp a1 h ho
      go_wp2_with (at_builtin; refine wpList_append_own _ rfl (.tmp 11) (.tmp 16) 22 rfl w.heap.size 38 i32 _ 7 56 Tryz.underlying22 hi32 hz32 hs32 hb32 rfl (by decide) (.slice Ao i co) i ((L.take i).flatMap cellsP) rfl (HO.out.alloc _) ⟨wr.heap.size, 0, none⟩ 1 1 (cellsP p) rfl rfl (seven_cells wr p) (by intro u hu; simp [cellsP] at hu; rcases hu with rfl | rfl | rfl | rfl | rfl | rfl | rfl <;> rfl) (by unfold maxLen; omega) (by omega) (by have := hw.size; simp; omega) ?_
                   intro v1 w2 hown1 hg1 _
                   have bl2 : Below w.heap.size w w2 := (hw.alloc hw.size _).grown hg1 (by have := hw.size; simp; omega) (fun g hg => (HO.out.lt g hg).1))
      go_roundw
      case rel => exact ⟨i + 1, by omega, by go_num, by rw [HT.out]; exact hown1, bl2⟩
      case measure => simp [intOf]; omega
    · obtain rfl : i = n := by omega
      go_wp2_with fail
      go_ret
      have hL : L.take i = L := List.take_of_length_le (by rw [h.len]; omega)
      rw [hL] at ho
      obtain ⟨A', c', rfl, hp, _⟩ := own_isP h.len ho
      exact ⟨A', c', rfl, hp, ho, hw⟩
def wv (x : Nat) : Value := .int .u32 (x : Int)
theorem own_block {w : World} {B e n : Nat} {v : Value} {xs : List Value} (h : w.ownsRow B e 1 v n xs) (h0 : 0 < n) : ∃ d cap cur, v = .slice (some ⟨d, 0, none⟩) n cap ∧ B ≤ d ∧ w.heap[d]? = some (.cells cur e (0, 0)) ∧ n ≤ cur.size ∧ ∀ i, i < n → w.cell? ⟨d, i, none⟩ = xs[i]? := by
  rcases h.2 with ⟨_, h2⟩ | ⟨d, cap, cur, rfl, hge, hh, hnc, _, hcs, ht⟩
  · omega
  · refine ⟨d, cap, cur, rfl, hge, hh, by omega, fun i hi => ?_⟩
    rw [row_cell hh i, ← ht, List.getElem?_take_of_lt (by omega), Array.getElem?_toList]
set_option maxRecDepth 10000 in
set_option maxHeartbeats 1000000 in
theorem CopyWords_any (A : Option Addr) (n c : Nat) (hs : List Nat) (w : World) (h : WsAt w w.heap.size A n c hs) (hn : n * 4 ≤ 140737488351232) :
    Calls Tryz.prog 31 #[.slice A n c] w fun e w' => ∃ A' c', e = .returned (.slice A' n c') ∧ w'.ownsRow w.heap.size 56 1 (.slice A' n c') n (hs.map wv) ∧ Below w.heap.size w w' := by
  obtain ⟨i0, hi0, hz0, hs0, hb0⟩ := info_parts Tryz.info56'
  have hnz : (n : Int) ≤ 35184372087808 := by omega
  have hlen := h.len
  go_enter Tryz.func31, Tryz.ntmps31
  go_wp2_with fail
  go_loopw [3, 4] (fun vo vi wr => ∃ i : Nat, i ≤ n ∧ vi = .int .i64 i ∧ wr.ownsRow w.heap.size 56 1 vo i ((hs.take i).map wv) ∧ Below w.heap.size w wr) (fun _ vi _ => n - (intOf vi).toNat)
  case atStart => exact ⟨0, Nat.zero_le _, rfl, World.ownsRow_nil _ _ _ _, Below.refl _ _⟩
  case round =>
    obtain ⟨i, hi, rfl, ho, hw⟩ := hrel
    by_cases hgo : i < n
    · have hz : (i : Int) < (n : Int) := by omega
      obtain ⟨ad, rfl, hl, hc⟩ := h.lies (by omega)
      have k0 : wr.cell? (ad.add i) = some (.int .u32 (hs.getD i 0 : Nat)) := (World.cell?_of_block (hw.block _ (by rw [block_of_add]; exact hl))).trans (hc i hgo)
      obtain ⟨Ao, co, rfl, hoc, hom⟩ := own_slice ho
      have hL : i < hs.length := by rw [hlen]; exact hgo
      have HT : Hid ((hs.take (i + 1)).map wv = (hs.take i).map wv ++ [wv (hs.getD i 0)]) := by
        unfold Hid
        rw [List.take_succ_eq_append_getElem hL, List.map_append, gD_in _ _ hL]
        rfl
      generalize hs.getD i 0 = z at *
      unfold wv at HT
      have HO := hid ho
      clear h ho hc hl
      go_wp2_with (at_builtin; refine wpList_append_own _ rfl (.tmp 11) (.tmp 16) 39 rfl w.heap.size 56 i0 _ 1 4 Tryz.underlying39 hi0 hz0 hs0 hb0 rfl (by decide) (.slice Ao i co) i _ rfl (HO.out.alloc _) ⟨wr.heap.size, 0, none⟩ 1 1 [.int .u32 (z : Int)] rfl rfl (one_cell wr _ _ 0) (by intro u hu; simp at hu; subst hu; rfl) (by unfold maxLen; omega) (by omega) (by have := hw.size; simp; omega) ?_
                   intro v1 w2 hown1 hg1 _
                   have bl2 : Below w.heap.size w w2 := (hw.alloc hw.size _).grown hg1 (by have := hw.size; simp; omega) (fun g hg => (HO.out.lt g hg).1))
      go_roundw
      case rel => exact ⟨i + 1, by omega, by go_num, by unfold wv; rw [HT.out]; exact hown1, bl2⟩
      case measure => simp [intOf]; omega
    · obtain rfl : i = n := by omega
      obtain ⟨Ao, co, rfl, hoc, hom⟩ := own_slice ho
      rw [List.take_of_length_le (by omega)] at ho
      go_wp2_with fail
      go_ret
      exact ⟨_, _, rfl, ho, hw⟩
theorem CopyH_any (A : Option Addr) (n c : Nat) (hs : List Nat) (w : World) (h : WsAt w w.heap.size A n c hs) (hn : n * 4 ≤ 140737488351232) :
    Calls Tryz.prog 11 #[.slice A n c] w fun e w' => ∃ A' c', e = .returned (.slice A' n c') ∧ WsAt w' w'.heap.size A' n c' hs ∧ (∀ ad, A' = some ad → 0 < n → w.heap.size ≤ ad.block) ∧ Below w.heap.size w w' := by
  have HC := hid (CopyWords_any A n c hs w h hn)
  have HW := hid h
  clear h
  go_enter Tryz.func11, Tryz.ntmps11
  go_wp2_with fail
  refine HC.out.mono ?_
  rintro e w1 ⟨A', c', rfl, ho, b⟩
  have HO := hid ho
  clear ho
  go_wp2_with fail
  go_ret
  refine ⟨A', c', rfl, ⟨HW.out.len, fun h0 => ?_, HW.out.small⟩, fun ad e h0 => ?_, b⟩
  · obtain ⟨d, cap, cur, e, hge, hh, _, hc⟩ := own_block HO.out h0
    have e1 : A' = some ⟨d, 0, none⟩ := by injection e
    refine ⟨_, e1, lt_of_heap hh, fun j hj => ?_⟩
    have hj2 : j < hs.length := by rw [HW.out.len]; exact hj
    rw [Addr.add_lit, Nat.zero_add, hc j hj, List.getElem?_map, List.getElem?_eq_getElem hj2, gD_in _ _ hj2]
    rfl
  · obtain ⟨d, cap, cur, e2, hge, hh, _, hc⟩ := own_block HO.out h0
    have e1 : A' = some ⟨d, 0, none⟩ := by injection e2
    rw [e1] at e
    injection e with e
    rw [← e]
    exact hge
set_option maxRecDepth 10000 in
set_option maxHeartbeats 1000000 in
theorem SameWords_yes {w : World} {A A' : Option Addr} {n c c' : Nat} {hs : List Nat} (h : WsAt w w.heap.size A n c hs) (h' : WsAt w w.heap.size A' n c' hs) (hn : n * 4 ≤ 140737488351232) :
    Calls Tryz.prog 14 #[.slice A n c, .slice A' n c'] w fun e w' => e = .returned (.bool true) ∧ Below w.heap.size w w' := by
  have hN : (n : Int) ≤ 35184372087808 := by omega
  go_enter Tryz.func14, Tryz.ntmps14
  go_wp2_with fail
  go_loopw [5] (fun vi wr => ∃ i : Nat, i ≤ n ∧ vi = .int .i64 i ∧ Below w.heap.size w wr) (fun vi _ => n - (intOf vi).toNat)
  case atStart => exact ⟨0, Nat.zero_le _, rfl, Below.refl _ _⟩
  case round =>
    obtain ⟨i, hi, rfl, hw⟩ := hrel
    by_cases hgo : i < n
    · have hz : (i : Int) < (n : Int) := by omega
      obtain ⟨ad, rfl, hl, hc⟩ := h.lies (by omega)
      obtain ⟨ad', rfl, hl', hc'⟩ := h'.lies (by omega)
      have k1 := keeps hw (hc i hgo)
      have k2 := keeps hw (hc' i hgo)
      clear h h' hc hc' hl hl'
      go_wp2_with fail
      go_quiet (fail)
      go_wp2_with fail
      go_roundw
      case rel => exact ⟨i + 1, by omega, by go_num, hw.trans (Below.drewN _ _ _)⟩
      case measure => simp [intOf]; omega
    · obtain rfl : i = n := by omega
      clear h h'
      go_wp2_with fail
      go_ret
      exact ⟨rfl, hw⟩
theorem Clone_own {w : World} {b n : Nat} {L : List Int} (hl : L.length = n) (hn : n ≤ 16) (h : Ns w b L) :
    Calls Tryz.prog 37 #[sl b n] w fun e w' => ∃ v, e = .returned v ∧ w'.ownsRow w.heap.size 3 1 v n (L.map iv) ∧ v ≠ .slice none 0 0 ∧ Below w.heap.size w w' := by
  have hc := Any.slices_Clone_int Tryz.laysClone b 0 n n L w (by omega) (by omega) (fun j hj => by rw [Nat.zero_add]; exact h j hj)
  have ef : Tryz.laysClone_ren.f 15 = 37 := by kernel_rfl
  rw [ef] at hc
  refine hc.mono ?_
  rintro e w' ⟨v', rfl, ho, hne, hb⟩
  refine ⟨v', rfl, ?_, hne, hb⟩
  have e1 : (L.take n).map iv = L.map iv := by rw [List.take_of_length_le (by omega)]
  rw [← e1]
  exact ho
set_option maxRecDepth 10000 in
set_option maxHeartbeats 1000000 in
theorem Leans_own {w : World} {g pa ct le n cap c : Nat} {v : Nat → Value} {h : List Nat} {L : List Int} (b : Bx w g pa ct le n cap c v h L) :
    Calls Tryz.prog 17 #[pt g] w fun e w' => ∃ v, e = .returned v ∧ w'.ownsRow w.heap.size 3 1 v n (L.map iv) ∧ Below w.heap.size w w' := by
  have c0 := b.c0
  have c3 := b.c3
  have HM := hid (made_yes g w c0)
  have HC := hid (Clone_own b.lenL b.most (fun i hi => b.lea.cell i (by rw [← b.lenL]; exact hi) : Ns w le L))
  clear b
  unfold sl at HC
  unfold pt
  go_enter Tryz.func17, Tryz.ntmps17
  go_wp2_with fail
  refine HM.out.mono ?_
  rintro r w1 ⟨rfl, rfl⟩
  go_wp2_with fail
  refine HC.out.mono ?_
  rintro r w1 ⟨v', rfl, hN, hne, hB⟩
  have HN := hid hN
  clear hN hne
  go_wp2_with fail
  go_ret
  exact ⟨v', rfl, HN.out, hB⟩
theorem ns_own {w : World} {d n : Nat} {L : List Int} (hl : L.length = n) (hc : ∀ i, i < n → w.cell? ⟨d, i, none⟩ = (L.map iv)[i]?) : Ns w d L := fun i hi => by
  rw [hc i (by omega), List.getElem?_map, List.getElem?_eq_getElem hi, gD_in _ _ hi]
  rfl
section
variable {w0 w w' : World} {F : Nat → Prop} {g : Nat} {b : Bl} {r gg N cap : Nat} {c : Bl} {Vf : Nat → Vs} {B : Nat}
theorem Td.leans (h : Td w0 w F g b r gg N cap c Vf B) (h0 : 0 < b.l.length) : Calls Tryz.prog 17 #[pt g] w fun e w' => ∃ d cp cur, e = .returned (.slice (some ⟨d, 0, none⟩) b.l.length cp) ∧ Ns w' d b.leans ∧ w.heap.size ≤ d ∧ w'.heap[d]? = some (.cells cur 3 (0, 0)) ∧ b.l.length ≤ cur.size ∧ Td w0 w' F g b r gg N cap c Vf B ∧ Below w.heap.size w w' := by
  obtain ⟨pa, ct, le, cp0, v, S, bx, _⟩ := h.one.at_.ex
  refine (Leans_own bx).mono ?_
  rintro e w' ⟨v', rfl, o, x⟩
  obtain ⟨d, cp, cur, rfl, hge, hh, hn, hc⟩ := own_block o h0
  exact ⟨d, cp, cur, rfl, ns_own b.leans_len hc, hge, hh, hn, h.below x, x⟩
theorem Td.leansD (h : Td w0 w F g b r gg N cap c Vf B) (h0 : 0 < N) : Calls Tryz.prog 19 #[.pointer (some ⟨r, 0, none⟩)] w fun e w' => ∃ d cp, e = .returned (.slice (some ⟨d, 0, none⟩) N cp) ∧ Ns w' d c.leans ∧ Td w0 w' F g b r gg N cap c Vf B ∧ Below w.heap.size w w' := by
  refine h.leans2.mono ?_
  rintro e w' ⟨A2, c2, rfl, o, t, x⟩
  obtain ⟨d, cp, cur, e, hge, hh, hn, hc⟩ := own_block o h0
  exact ⟨d, cp, by rw [e], ns_own (by rw [c.leans_len, h.two.n]) hc, t, x⟩
theorem Td.bitsCell (h : Td w0 w F g b r gg N cap c Vf B) : w.cell? ⟨r, 2, none⟩ = some (.int .i64 (c.bits : Nat)) := h.two.rb.bits
end
/-- An act's box, the caller's numbers and their copy, beside both blends. -/
structure Sit (w0 W : World) (F : Nat → Prop) (g : Nat) (b : Bl) (r gg N cap : Nat) (c : Bl) (Vf : Nat → Vs) (B M q : Nat) (K : Int) (Ah : Option Addr) (m mc : Nat) (bt : Int) (Ac : Option Addr) (cc : Nat) (hs : List Nat) : Prop where
  td : Td w0 W F g b r gg N cap c Vf B
  act : W.heap[q]? = some (.cells #[.int .i64 K, .slice Ah m mc, .int .i64 bt] 41 (0, 0))
  hq : M ≤ q
  ah : WsAt W w0.heap.size Ah m mc hs
  ac : K = 0 → WsAt W W.heap.size Ac m cc hs
  fa : K = 0 → ∀ ad, Ac = some ad → 0 < m → M ≤ ad.block
  fm : ∀ x, F x → x < M
  mm : ∀ x, Mine Vf r gg N x → x < M
  m4 : m * 4 ≤ 140737488351232
  le : M ≤ W.heap.size
section
variable {w0 W W' : World} {F : Nat → Prop} {g : Nat} {b b' : Bl} {r gg N cap : Nat} {c c' : Bl} {Vf : Nat → Vs} {B M q : Nat} {K : Int} {Ah : Option Addr} {m mc : Nat} {bt : Int} {Ac : Option Addr} {cc : Nat} {hs : List Nat}
theorem Sit.turn {S : Nat → Prop} (h : Sit w0 W F g b r gg N cap c Vf B M q K Ah m mc bt Ac cc hs) (t : Td w0 W' F g b' r gg N cap c' Vf B) (x : But S W W') (hS : ∀ a, S a → w0.heap.size ≤ a ∧ a < M) : Sit w0 W' F g b' r gg N cap c' Vf B M q K Ah m mc bt Ac cc hs :=
  ⟨t, x.heap h.act (fun e => by have := (hS _ e).2; have := h.hq; omega), h.hq, h.ah.keep (x.below (fun a ha => (hS a ha).1) h.td.one.bel.size), fun k => ⟨(h.ac k).len, fun h0 => by
    obtain ⟨ad, e, hb, hc⟩ := (h.ac k).lies h0
    exact ⟨ad, e, Nat.lt_of_lt_of_le hb x.size, fun j hj => x.cell (hc j hj) (fun e2 => by have e3 := (hS _ e2).2; have := h.fa k ad e h0; rw [block_of_add] at e3; omega)⟩, (h.ac k).small⟩, h.fa, h.fm, h.mm, h.m4, Nat.le_trans h.le x.size⟩
theorem Sit.below (h : Sit w0 W F g b r gg N cap c Vf B M q K Ah m mc bt Ac cc hs) (x : Below W.heap.size W W') : Sit w0 W' F g b r gg N cap c Vf B M q K Ah m mc bt Ac cc hs :=
  h.turn (S := fun _ => False) (h.td.below x) (But.of_below x) (fun a e => e.elim)
theorem Sit.cells (h : Sit w0 W F g b r gg N cap c Vf B M q K Ah m mc bt Ac cc hs) : W.cell? ⟨q, 0, none⟩ = some (.int .i64 K) ∧ W.cell? ⟨q, 1, none⟩ = some (.slice Ah m mc) ∧ W.cell? ⟨q, 2, none⟩ = some (.int .i64 bt) := ⟨row_cell h.act 0, row_cell h.act 1, row_cell h.act 2⟩
theorem Sit.ctx (h : Sit w0 W F g b r gg N cap c Vf B M q 0 Ah m mc bt Ac cc hs) : Calls Tryz.prog 12 #[pt g, .slice Ac m cc] W fun e W' => e = .returned (.int .i64 (ctxCode b)) ∧ Sit w0 W' F g (ctxThen b hs) r gg N cap c Vf B M q 0 Ah m mc bt Ac cc hs := by
  refine (h.td.ctx (h.ac rfl) (fun ad e h0 hF => by have := h.fa rfl ad e h0; have := h.fm _ hF; omega)).mono ?_
  rintro e W' ⟨rfl, t, x⟩
  exact ⟨rfl, h.turn t x (fun a ha => ⟨h.td.one.low a ha, h.fm a ha⟩)⟩
theorem Sit.ctx2 (h : Sit w0 W F g b r gg N cap c Vf B M q 0 Ah m mc bt Ac cc hs) (hw : c.whole ≤ 1000000) : Calls Tryz.prog 13 #[.pointer (some ⟨r, 0, none⟩), .slice Ah m mc] W fun e W' => e = .returned (.int .i64 (ctxCode c)) ∧ Sit w0 W' F g b r gg N cap (ctxThen c hs) Vf B M q 0 Ah m mc bt Ac cc hs := by
  have hws := h.ah.up h.td.one.bel.size
  refine (h.td.ctx2 (A := Ah) (m := m) (mc := mc) ⟨hws.len, hws.lies, hws.small⟩ hw (fun ad e h0 hM => by
    obtain ⟨ad2, e2, hl, _⟩ := h.ah.lies h0
    rw [e2] at e
    injection e with e
    have := h.td.low _ hM
    rw [← e] at this
    omega)).mono ?_
  rintro e W' ⟨rfl, t, x⟩
  exact ⟨rfl, h.turn t x (fun a ha => ⟨h.td.low a ha, h.mm a ha⟩)⟩
theorem Sit.words (h : Sit w0 W F g b r gg N cap c Vf B M q 0 Ah m mc bt Ac cc hs) : Calls Tryz.prog 14 #[.slice Ac m cc, .slice Ah m mc] W fun e W' => e = .returned (.bool true) ∧ Sit w0 W' F g b r gg N cap c Vf B M q 0 Ah m mc bt Ac cc hs := by
  refine (SameWords_yes (h.ac rfl) (h.ah.up h.td.one.bel.size) h.m4).mono ?_
  rintro e W' ⟨rfl, x⟩
  exact ⟨rfl, h.below x⟩
theorem Sit.bit (h : Sit w0 W F g b r gg N cap c Vf B M q K Ah m mc bt Ac cc hs) (hw : b.whole < 4294967294) : Calls Tryz.prog 15 #[pt g, .int .i64 bt] W fun e W' => e = .returned (.int .i64 (bitCode bt)) ∧ Sit w0 W' F g (bitThen b bt) r gg N cap c Vf B M q K Ah m mc bt Ac cc hs := by
  refine (h.td.bit bt hw).mono ?_
  rintro e W' ⟨rfl, t, x⟩
  exact ⟨rfl, h.turn t x (fun a ha => ⟨h.td.one.low a ha, h.fm a ha⟩)⟩
theorem Sit.bit2 (h : Sit w0 W F g b r gg N cap c Vf B M q K Ah m mc bt Ac cc hs) (hw : c.whole ≤ 1000000) : Calls Tryz.prog 16 #[.pointer (some ⟨r, 0, none⟩), .int .i64 bt] W fun e W' => e = .returned (.int .i64 (bitCode bt)) ∧ Sit w0 W' F g b r gg N cap (bitThen c bt) Vf B M q K Ah m mc bt Ac cc hs := by
  refine (h.td.bit2 bt hw).mono ?_
  rintro e W' ⟨rfl, t, x⟩
  exact ⟨rfl, h.turn t x (fun a ha => ⟨h.td.low a ha, h.mm a ha⟩)⟩
end
/-- The caller's copy of the parts: seven cells each, the fifth a number. -/
def Cpy (W : World) (cp n : Nat) : Prop := ∃ cur, W.heap[cp]? = some (.cells cur 38 (0, 0)) ∧ ∀ j, j < n → ∃ z : Int, cur[j * 7 + 4]? = some (.int .i64 z)
theorem Cpy.at {W : World} {cp n j : Nat} (h : Cpy W cp n) (hj : j < n) : ∃ z : Int, W.cell? ⟨cp, j * 7 + 4, none⟩ = some (.int .i64 z) ∧ W.frozen? ⟨cp, j * 7 + 4, none⟩ = false := by
  obtain ⟨cur, hh, hc⟩ := h
  obtain ⟨z, hz⟩ := hc j hj
  exact ⟨z, (row_cell hh _).trans hz, row_free hh _⟩
theorem Cpy.put {W : World} {cp n j : Nat} (h : Cpy W cp n) (hj : j < n) (z : Int) : Cpy (W.setCell ⟨cp, j * 7 + 4, none⟩ (.int .i64 z)) cp n := by
  obtain ⟨cur, hh, hc⟩ := h
  refine ⟨_, row_set hh _ _, fun i hi => ?_⟩
  obtain ⟨y, hy⟩ := hc i hi
  by_cases e : i = j
  · subst e
    refine ⟨z, ?_⟩
    have hlt : i * 7 + 4 < cur.size := by
      rcases Nat.lt_or_ge (i * 7 + 4) cur.size with h | h
      · exact h
      · rw [Array.getElem?_eq_none h] at hy; cases hy
    rw [Array.getElem?_setIfInBounds_self_of_lt hlt]
  · refine ⟨y, ?_⟩
    rw [Array.getElem?_setIfInBounds_ne (by omega)]
    exact hy
theorem Cpy.heap {W W2 : World} {cp n : Nat} (h : Cpy W cp n) (e : W2.heap[cp]? = W.heap[cp]?) : Cpy W2 cp n := by
  obtain ⟨cur, hh, hc⟩ := h
  exact ⟨cur, e.trans hh, hc⟩
theorem Cpy.of {w W : World} {B n c : Nat} {A : Option Addr} {L : List Pt} (h : IsP W W.heap.size A n c L) (o : W.ownsRow B 38 7 (.slice A n c) n (L.flatMap cellsP)) (h0 : 0 < n) : ∃ cp, A = some ⟨cp, 0, none⟩ ∧ B ≤ cp ∧ cp < W.heap.size ∧ Cpy W cp n := by
  rcases o.2 with ⟨_, h2⟩ | ⟨cp, cap, cur, e, hge, hh, hnc, _, hcs, ht⟩
  · omega
  have e1 : A = some ⟨cp, 0, none⟩ := by injection e
  refine ⟨cp, e1, hge, lt_of_heap hh, cur, hh, fun j hj => ?_⟩
  obtain ⟨ad, ea, _, hl⟩ := h.lies h0
  rw [e1] at ea
  injection ea with ea
  have h4 := (hl j (by rw [h.len]; exact hj)).c4
  rw [← ea, Addr.add_lit] at h4
  simp only [Nat.zero_add] at h4
  rw [row_cell hh] at h4
  exact ⟨_, h4⟩
/-- The acts, each list of numbers within the reach. -/
def ActsM (w : World) (B : Nat) (a : Option Addr) (n c : Nat) : Prop :=
  n ≤ c ∧ c ≤ maxLen ∧ ∀ i, i < n → ∃ (ad : Addr) (K bt : Int) (A : Option Addr) (m mc : Nat) (hs : List Nat), a = some ad ∧ ad.block < B ∧
    w.cell? (ad.add (i * 3)) = some (.int .i64 K) ∧ w.cell? (ad.add (i * 3 + 1)) = some (.slice A m mc) ∧ w.cell? (ad.add (i * 3 + 2)) = some (.int .i64 bt) ∧ WsAt w B A m mc hs ∧ m * 4 ≤ 140737488351232
set_option maxRecDepth 10000 in
theorem guess_nil (w : World) : Calls Tryz.prog 10 #[.pointer none] w fun e w' => e = .returned (.int .i64 0) ∧ w = w' := by
  have HM := hid (made_nil w)
  go_enter Tryz.func10, Tryz.ntmps10
  go_wp2_with fail
  refine HM.out.mono ?_
  rintro r w1 ⟨rfl, rfl⟩
  go_wp2_with fail
  go_ret
  exact ⟨rfl, rfl⟩
end Go.Proofs.YtkfdbibgjoaefaaGreatDoor
