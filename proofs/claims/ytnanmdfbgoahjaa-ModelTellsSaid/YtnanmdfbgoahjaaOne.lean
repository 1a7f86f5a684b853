/-
  The document's 'one': 8 9.
-/
import Derived.Test.YtnanmdfbgoahjaaOn
namespace Go.Proofs.Ytnanmdfbgoahjaa
open Go.RowKit

set_option maxRecDepth 10000 in
set_option maxHeartbeats 8000000 in
theorem one_no_8 (s a b c r m i : Int) (w : World) (hs : ¬ vP 8 s a b c r m = vP 8 s a 0 0 0 0) :
    Calls Try.prog 34 #[vP 8 s a b c r m, .int .i64 i] w fun e w' => e = .returned (.bool false) ∧ Below w.heap.size w w' := by
  have HS := hid hs
  clear hs
  have B := boxed w 8 s a b c r m
  obtain ⟨W, hW⟩ : ∃ W, W = w.alloc (.cells #[.int .u8 8, .int .i64 s, .int .i64 a, .int .i64 b, .int .i64 c, .int .i64 r, .int .i64 m] 41) := ⟨_, rfl⟩
  have b0 := hid (show Below w.heap.size w W by rw [hW]; exact (Below.refl _ _).alloc (Nat.le_refl _) _)
  rw [← hW] at B
  have HF := hid (fun w => fields_8 s a b c r m w)
  have HB := hid (B.below (Below.refl _ W).drew)
  have hneq : ∀ w, (binOp BinOp.neq 41 (.agg #[.int .u8 8, .int .i64 s, .int .i64 a, .int .i64 0, .int .i64 0, .int .i64 0, .int .i64 0]) (.agg #[.int .u8 8, .int .i64 s, .int .i64 a, .int .i64 b, .int .i64 c, .int .i64 r, .int .i64 m])).run Try.prog w = .ok (.bool true) w := by
    intro w
    go_simp
    intros
    intro hlast
    refine HS.out ?_
    unfold vP
    simp
    omega
  unfold vP
  clear B
  go_enter Try.func34, Try.ntmps34
  go_wp2_with fail
  rw [← hW]
  clear hW
  go_region_held3 (fun w' => w'.cell? ⟨w.heap.size, 0, none⟩ = some (.int .u8 8) ∧ w'.cell? ⟨w.heap.size, 1, none⟩ = some (.int .i64 s) ∧ w'.cell? ⟨w.heap.size, 2, none⟩ = some (.int .i64 a) ∧ w'.cell? ⟨w.heap.size, 3, none⟩ = some (.int .i64 b) ∧ w'.cell? ⟨w.heap.size, 4, none⟩ = some (.int .i64 c) ∧ w'.cell? ⟨w.heap.size, 5, none⟩ = some (.int .i64 r) ∧ w'.cell? ⟨w.heap.size, 6, none⟩ = some (.int .i64 m)) (first | exact ⟨HB7.out.c0, HB7.out.c1, HB7.out.c2, HB7.out.c3, HB7.out.c4, HB7.out.c5, HB7.out.c6⟩ | exact ⟨HB.out.c0, HB.out.c1, HB.out.c2, HB.out.c3, HB.out.c4, HB.out.c5, HB.out.c6⟩ | go_keep)
    (first | (go_at_call 39; (refine (HF.out _).mono ?_); rintro e w7 ⟨rfl, b7⟩; have HB7 := hid (HB.out.below b7); have bw7 := hid (b0.out.drew.trans (b7.mono b0.out.size))))
  go_wp2_with fail
  go_ret
  exact ⟨rfl, bw7.out⟩
set_option maxRecDepth 10000 in
set_option maxHeartbeats 8000000 in
theorem one_yes_8 (s a i : Int) (hi : 0 ≤ i) (hi2 : i ≤ 16) (w : World) (T1 T2 : Bool) (e1 : decide (0 < plI 8 s 0) = T1) (e2 : decide (inn a 0 (i - 1)) = T2) :
    Calls Try.prog 34 #[vP 8 s a 0 0 0 0, .int .i64 i] w fun e w' => e = .returned (.bool (T1 && T2)) ∧ Below w.heap.size w w' := by
  have e1 := hid e1
  have e2 := hid e2
  have B := boxed w 8 s a 0 0 0 0
  obtain ⟨W, hW⟩ : ∃ W, W = w.alloc (.cells #[.int .u8 8, .int .i64 s, .int .i64 a, .int .i64 0, .int .i64 0, .int .i64 0, .int .i64 0] 41) := ⟨_, rfl⟩
  have b0 := hid (show Below w.heap.size w W by rw [hW]; exact (Below.refl _ _).alloc (Nat.le_refl _) _)
  rw [← hW] at B
  have HF := hid (fun w => fields_8 s a 0 0 0 0 w)
  have HB := hid (B.below (Below.refl _ W).drew)
  obtain ⟨P, hP⟩ : ∃ P, plI 8 s 0 = P := ⟨_, rfl⟩
  have HQ := hid (fun w => refPlaces_any 8 s a 0 0 0 0 w)
  rw [hP] at HQ
  obtain ⟨j, hj⟩ : ∃ j, i - 1 = j := ⟨_, rfl⟩
  have Hj := hid hj
  have HPe := hid hP
  clear hP
  unfold vP at HQ ⊢
  clear B
  go_enter Try.func34, Try.ntmps34
  go_wp2_with fail
  rw [← hW]
  clear hW
  go_region_held3 (fun w' => w'.cell? ⟨w.heap.size, 0, none⟩ = some (.int .u8 8) ∧ w'.cell? ⟨w.heap.size, 1, none⟩ = some (.int .i64 s) ∧ w'.cell? ⟨w.heap.size, 2, none⟩ = some (.int .i64 a) ∧ w'.cell? ⟨w.heap.size, 3, none⟩ = some (.int .i64 0) ∧ w'.cell? ⟨w.heap.size, 4, none⟩ = some (.int .i64 0) ∧ w'.cell? ⟨w.heap.size, 5, none⟩ = some (.int .i64 0) ∧ w'.cell? ⟨w.heap.size, 6, none⟩ = some (.int .i64 0)) (first | exact ⟨HB7.out.c0, HB7.out.c1, HB7.out.c2, HB7.out.c3, HB7.out.c4, HB7.out.c5, HB7.out.c6⟩ | exact ⟨HB.out.c0, HB.out.c1, HB.out.c2, HB.out.c3, HB.out.c4, HB.out.c5, HB.out.c6⟩ | go_keep)
    (first | (go_at_call 39; (refine (HF.out _).mono ?_); rintro e w7 ⟨rfl, b7⟩; have HB7 := hid (HB.out.below b7); have bw7 := hid (b0.out.drew.trans (b7.mono b0.out.size))))
  obtain ⟨c0, c1, c2, c3, c4, c5, c6⟩ := HB7.out
  go_wp2_with fail
  refine (HQ.out _).mono ?_
  rintro e w8 ⟨rfl, b8⟩
  have HB8 := hid (HB7.out.below b8)
  have bw8 := hid (bw7.out.trans (b8.mono bw7.out.size))
  clear HQ HF b8 c0 c1 c2 c3 c4 c5 c6
  obtain ⟨c0, c1, c2, c3, c4, c5, c6⟩ := HB8.out
  have A2 := hid (within_T a 0 j T2 (by rw [← Hj.out]; exact e2.out) w8)
  cases T1
  · have hp : ¬ 0 < P := by rw [← HPe.out]; exact of_decide_eq_false e1.out
    go_wp2_with fail
    go_ret
    exact ⟨rfl, bw8.out⟩
  · have hp : 0 < P := by rw [← HPe.out]; exact of_decide_eq_true e1.out
    cases T2
    · go_wp2_with (go_at_call 41; (first | (with_reducible refine A2.out.mono ?_)); rintro e wx ⟨rfl, rfl⟩)
      go_ret
      exact ⟨rfl, bw8.out⟩
    · go_wp2_with (go_at_call 41; (first | (with_reducible refine A2.out.mono ?_)); rintro e wx ⟨rfl, rfl⟩)
      go_ret
      exact ⟨rfl, bw8.out⟩
set_option maxRecDepth 10000 in
set_option maxHeartbeats 8000000 in
theorem one_no_9 (s a b c r m i : Int) (w : World) (hs : ¬ vP 9 s a b c r m = vP 9 s a 0 0 0 m) :
    Calls Try.prog 34 #[vP 9 s a b c r m, .int .i64 i] w fun e w' => e = .returned (.bool false) ∧ Below w.heap.size w w' := by
  have HS := hid hs
  clear hs
  have B := boxed w 9 s a b c r m
  obtain ⟨W, hW⟩ : ∃ W, W = w.alloc (.cells #[.int .u8 9, .int .i64 s, .int .i64 a, .int .i64 b, .int .i64 c, .int .i64 r, .int .i64 m] 41) := ⟨_, rfl⟩
  have b0 := hid (show Below w.heap.size w W by rw [hW]; exact (Below.refl _ _).alloc (Nat.le_refl _) _)
  rw [← hW] at B
  have HF := hid (fun w => fields_9 s a b c r m w)
  have HB := hid (B.below (Below.refl _ W).drew)
  have hneq : ∀ w, (binOp BinOp.neq 41 (.agg #[.int .u8 9, .int .i64 s, .int .i64 a, .int .i64 0, .int .i64 0, .int .i64 0, .int .i64 m]) (.agg #[.int .u8 9, .int .i64 s, .int .i64 a, .int .i64 b, .int .i64 c, .int .i64 r, .int .i64 m])).run Try.prog w = .ok (.bool true) w := by
    intro w
    go_simp
    intros
    intro hlast
    refine HS.out ?_
    unfold vP
    simp
    omega
  unfold vP
  clear B
  go_enter Try.func34, Try.ntmps34
  go_wp2_with fail
  rw [← hW]
  clear hW
  go_region_held3 (fun w' => w'.cell? ⟨w.heap.size, 0, none⟩ = some (.int .u8 9) ∧ w'.cell? ⟨w.heap.size, 1, none⟩ = some (.int .i64 s) ∧ w'.cell? ⟨w.heap.size, 2, none⟩ = some (.int .i64 a) ∧ w'.cell? ⟨w.heap.size, 3, none⟩ = some (.int .i64 b) ∧ w'.cell? ⟨w.heap.size, 4, none⟩ = some (.int .i64 c) ∧ w'.cell? ⟨w.heap.size, 5, none⟩ = some (.int .i64 r) ∧ w'.cell? ⟨w.heap.size, 6, none⟩ = some (.int .i64 m)) (first | exact ⟨HB7.out.c0, HB7.out.c1, HB7.out.c2, HB7.out.c3, HB7.out.c4, HB7.out.c5, HB7.out.c6⟩ | exact ⟨HB.out.c0, HB.out.c1, HB.out.c2, HB.out.c3, HB.out.c4, HB.out.c5, HB.out.c6⟩ | go_keep)
    (first | (go_at_call 39; (refine (HF.out _).mono ?_); rintro e w7 ⟨rfl, b7⟩; have HB7 := hid (HB.out.below b7); have bw7 := hid (b0.out.drew.trans (b7.mono b0.out.size))))
  go_wp2_with fail
  go_ret
  exact ⟨rfl, bw7.out⟩
set_option maxRecDepth 10000 in
set_option maxHeartbeats 8000000 in
theorem one_yes_9 (s a m i : Int) (hi : 0 ≤ i) (hi2 : i ≤ 16) (w : World) (T1 T2 T3 : Bool) (e1 : decide (0 < plI 9 s 0) = T1) (e2 : decide (inn a 0 (i - 1)) = T2) (e3 : decide (inn m 1 1023) = T3) :
    Calls Try.prog 34 #[vP 9 s a 0 0 0 m, .int .i64 i] w fun e w' => e = .returned (.bool (T1 && T2 && T3)) ∧ Below w.heap.size w w' := by
  have e1 := hid e1
  have e2 := hid e2
  have e3 := hid e3
  have B := boxed w 9 s a 0 0 0 m
  obtain ⟨W, hW⟩ : ∃ W, W = w.alloc (.cells #[.int .u8 9, .int .i64 s, .int .i64 a, .int .i64 0, .int .i64 0, .int .i64 0, .int .i64 m] 41) := ⟨_, rfl⟩
  have b0 := hid (show Below w.heap.size w W by rw [hW]; exact (Below.refl _ _).alloc (Nat.le_refl _) _)
  rw [← hW] at B
  have HF := hid (fun w => fields_9 s a 0 0 0 m w)
  have HB := hid (B.below (Below.refl _ W).drew)
  obtain ⟨P, hP⟩ : ∃ P, plI 9 s 0 = P := ⟨_, rfl⟩
  have HQ := hid (fun w => refPlaces_any 9 s a 0 0 0 m w)
  rw [hP] at HQ
  obtain ⟨j, hj⟩ : ∃ j, i - 1 = j := ⟨_, rfl⟩
  have Hj := hid hj
  have HPe := hid hP
  clear hP
  unfold vP at HQ ⊢
  clear B
  go_enter Try.func34, Try.ntmps34
  go_wp2_with fail
  rw [← hW]
  clear hW
  go_region_held3 (fun w' => w'.cell? ⟨w.heap.size, 0, none⟩ = some (.int .u8 9) ∧ w'.cell? ⟨w.heap.size, 1, none⟩ = some (.int .i64 s) ∧ w'.cell? ⟨w.heap.size, 2, none⟩ = some (.int .i64 a) ∧ w'.cell? ⟨w.heap.size, 3, none⟩ = some (.int .i64 0) ∧ w'.cell? ⟨w.heap.size, 4, none⟩ = some (.int .i64 0) ∧ w'.cell? ⟨w.heap.size, 5, none⟩ = some (.int .i64 0) ∧ w'.cell? ⟨w.heap.size, 6, none⟩ = some (.int .i64 m)) (first | exact ⟨HB7.out.c0, HB7.out.c1, HB7.out.c2, HB7.out.c3, HB7.out.c4, HB7.out.c5, HB7.out.c6⟩ | exact ⟨HB.out.c0, HB.out.c1, HB.out.c2, HB.out.c3, HB.out.c4, HB.out.c5, HB.out.c6⟩ | go_keep)
    (first | (go_at_call 39; (refine (HF.out _).mono ?_); rintro e w7 ⟨rfl, b7⟩; have HB7 := hid (HB.out.below b7); have bw7 := hid (b0.out.drew.trans (b7.mono b0.out.size))))
  obtain ⟨c0, c1, c2, c3, c4, c5, c6⟩ := HB7.out
  go_wp2_with fail
  refine (HQ.out _).mono ?_
  rintro e w8 ⟨rfl, b8⟩
  have HB8 := hid (HB7.out.below b8)
  have bw8 := hid (bw7.out.trans (b8.mono bw7.out.size))
  clear HQ HF b8 c0 c1 c2 c3 c4 c5 c6
  obtain ⟨c0, c1, c2, c3, c4, c5, c6⟩ := HB8.out
  have A2 := hid (within_T a 0 j T2 (by rw [← Hj.out]; exact e2.out) w8)
  have A3 := hid (within_T m 1 1023 T3 e3.out w8)
  cases T1
  · have hp : ¬ 0 < P := by rw [← HPe.out]; exact of_decide_eq_false e1.out
    go_wp2_with fail
    go_ret
    exact ⟨rfl, bw8.out⟩
  · have hp : 0 < P := by rw [← HPe.out]; exact of_decide_eq_true e1.out
    cases T2
    · go_wp2_with (go_at_call 41; (first | (with_reducible refine A2.out.mono ?_)); rintro e wx ⟨rfl, rfl⟩)
      go_ret
      exact ⟨rfl, bw8.out⟩
    · cases T3
      · go_wp2_with (go_at_call 41; (first | (with_reducible refine A2.out.mono ?_) | (with_reducible refine A3.out.mono ?_)); rintro e wx ⟨rfl, rfl⟩)
        go_ret
        exact ⟨rfl, bw8.out⟩
      · go_wp2_with (go_at_call 41; (first | (with_reducible refine A2.out.mono ?_) | (with_reducible refine A3.out.mono ?_)); rintro e wx ⟨rfl, rfl⟩)
        go_ret
        exact ⟨rfl, bw8.out⟩
end Go.Proofs.Ytnanmdfbgoahjaa
