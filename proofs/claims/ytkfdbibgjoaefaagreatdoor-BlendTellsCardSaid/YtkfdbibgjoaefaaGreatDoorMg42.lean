/-
  Merged: XOn XOna XOnb.
-/
import Derived.Test.YtkfdbibgjoaefaaGreatDoorMg41
/-
  What the document's side wants of stage texts, for this seat (On).
-/

namespace Go.Proofs.YtkfdbibgjoaefaaGreatDoor
open Go.RowKit

theorem within_T (n a b : Int) (T : Bool) (hT : decide (inn n a b) = T) (w : World) : Calls Tryz.prog 72 #[.int .i64 n, .int .i64 a, .int .i64 b] w fun e w' => e = .returned (.bool T) ∧ w' = w := by
  rw [← hT]; exact within_any n a b w
end Go.Proofs.YtkfdbibgjoaefaaGreatDoor
/-
  What the document's side wants of stage texts, for this seat (Ona).
-/

namespace Go.Proofs.YtkfdbibgjoaefaaGreatDoor
open Go.RowKit

set_option maxRecDepth 10000 in
set_option maxHeartbeats 8000000 in
theorem one_no_2 (s a b c r m i : Int) (w : World) (hs : ¬ vP 2 s a b c r m = vP 2 s 0 0 0 0 m) :
    Calls Tryz.prog 52 #[vP 2 s a b c r m, .int .i64 i] w fun e w' => e = .returned (.bool false) ∧ Below w.heap.size w w' := by
  have HS := hid hs
  clear hs
  have B := boxed w 2 s a b c r m
  obtain ⟨W, hW⟩ : ∃ W, W = w.alloc (.cells #[.int .u8 2, .int .i64 s, .int .i64 a, .int .i64 b, .int .i64 c, .int .i64 r, .int .i64 m] 38) := ⟨_, rfl⟩
  have b0 := hid (show Below w.heap.size w W by rw [hW]; exact (Below.refl _ _).alloc (Nat.le_refl _) _)
  rw [← hW] at B
  have HF := hid (fun w => fields_2 s a b c r m w)
  have HB := hid (B.below (Below.refl _ W).drew)
  have hneq : ∀ w, (binOp BinOp.neq 38 (.agg #[.int .u8 2, .int .i64 s, .int .i64 0, .int .i64 0, .int .i64 0, .int .i64 0, .int .i64 m]) (.agg #[.int .u8 2, .int .i64 s, .int .i64 a, .int .i64 b, .int .i64 c, .int .i64 r, .int .i64 m])).run Tryz.prog w = .ok (.bool true) w := by
    intro w
    go_simp
    intros
    intro hlast
    refine HS.out ?_
    unfold vP
    simp
    omega
  unfold vP
  clear B
  go_enter Tryz.func52, Tryz.ntmps52
  go_wp2_with fail
  rw [← hW]
  clear hW
  go_region_held3 (fun w' => w'.cell? ⟨w.heap.size, 0, none⟩ = some (.int .u8 2) ∧ w'.cell? ⟨w.heap.size, 1, none⟩ = some (.int .i64 s) ∧ w'.cell? ⟨w.heap.size, 2, none⟩ = some (.int .i64 a) ∧ w'.cell? ⟨w.heap.size, 3, none⟩ = some (.int .i64 b) ∧ w'.cell? ⟨w.heap.size, 4, none⟩ = some (.int .i64 c) ∧ w'.cell? ⟨w.heap.size, 5, none⟩ = some (.int .i64 r) ∧ w'.cell? ⟨w.heap.size, 6, none⟩ = some (.int .i64 m)) (first | exact ⟨HB7.out.c0, HB7.out.c1, HB7.out.c2, HB7.out.c3, HB7.out.c4, HB7.out.c5, HB7.out.c6⟩ | exact ⟨HB.out.c0, HB.out.c1, HB.out.c2, HB.out.c3, HB.out.c4, HB.out.c5, HB.out.c6⟩ | go_keep)
    (first | (go_at_call 70; (refine (HF.out _).mono ?_); rintro e w7 ⟨rfl, b7⟩; have HB7 := hid (HB.out.below b7); have bw7 := hid (b0.out.drew.trans (b7.mono b0.out.size))))
  go_wp2_with fail
  go_ret
  exact ⟨rfl, bw7.out⟩
set_option maxRecDepth 10000 in
set_option maxHeartbeats 8000000 in
theorem one_yes_2 (s m i : Int) (_hi : 0 ≤ i) (_hi2 : i ≤ 16) (w : World) (T1 T2 : Bool) (e1 : decide (0 < plI 2 s 0) = T1) (e2 : decide (inn m 1 1023) = T2) :
    Calls Tryz.prog 52 #[vP 2 s 0 0 0 0 m, .int .i64 i] w fun e w' => e = .returned (.bool (T1 && T2)) ∧ Below w.heap.size w w' := by
  have e1 := hid e1
  have e2 := hid e2
  have B := boxed w 2 s 0 0 0 0 m
  obtain ⟨W, hW⟩ : ∃ W, W = w.alloc (.cells #[.int .u8 2, .int .i64 s, .int .i64 0, .int .i64 0, .int .i64 0, .int .i64 0, .int .i64 m] 38) := ⟨_, rfl⟩
  have b0 := hid (show Below w.heap.size w W by rw [hW]; exact (Below.refl _ _).alloc (Nat.le_refl _) _)
  rw [← hW] at B
  have HF := hid (fun w => fields_2 s 0 0 0 0 m w)
  have HB := hid (B.below (Below.refl _ W).drew)
  obtain ⟨P, hP⟩ : ∃ P, plI 2 s 0 = P := ⟨_, rfl⟩
  have HQ := hid (fun w => refPlaces_any 2 s 0 0 0 0 m w)
  rw [hP] at HQ
  obtain ⟨j, hj⟩ : ∃ j, i - 1 = j := ⟨_, rfl⟩
  have Hj := hid hj
  have HPe := hid hP
  clear hP
  unfold vP at HQ ⊢
  clear B
  go_enter Tryz.func52, Tryz.ntmps52
  go_wp2_with fail
  rw [← hW]
  clear hW
  go_region_held3 (fun w' => w'.cell? ⟨w.heap.size, 0, none⟩ = some (.int .u8 2) ∧ w'.cell? ⟨w.heap.size, 1, none⟩ = some (.int .i64 s) ∧ w'.cell? ⟨w.heap.size, 2, none⟩ = some (.int .i64 0) ∧ w'.cell? ⟨w.heap.size, 3, none⟩ = some (.int .i64 0) ∧ w'.cell? ⟨w.heap.size, 4, none⟩ = some (.int .i64 0) ∧ w'.cell? ⟨w.heap.size, 5, none⟩ = some (.int .i64 0) ∧ w'.cell? ⟨w.heap.size, 6, none⟩ = some (.int .i64 m)) (first | exact ⟨HB7.out.c0, HB7.out.c1, HB7.out.c2, HB7.out.c3, HB7.out.c4, HB7.out.c5, HB7.out.c6⟩ | exact ⟨HB.out.c0, HB.out.c1, HB.out.c2, HB.out.c3, HB.out.c4, HB.out.c5, HB.out.c6⟩ | go_keep)
    (first | (go_at_call 70; (refine (HF.out _).mono ?_); rintro e w7 ⟨rfl, b7⟩; have HB7 := hid (HB.out.below b7); have bw7 := hid (b0.out.drew.trans (b7.mono b0.out.size))))
  obtain ⟨c0, c1, c2, c3, c4, c5, c6⟩ := HB7.out
  go_wp2_with fail
  refine (HQ.out _).mono ?_
  rintro e w8 ⟨rfl, b8⟩
  have HB8 := hid (HB7.out.below b8)
  have bw8 := hid (bw7.out.trans (b8.mono bw7.out.size))
  clear HQ HF b8 c0 c1 c2 c3 c4 c5 c6
  obtain ⟨c0, c1, c2, c3, c4, c5, c6⟩ := HB8.out
  have A2 := hid (within_T m 1 1023 T2 e2.out w8)
  cases T1
  · have hp : ¬ 0 < P := by rw [← HPe.out]; exact of_decide_eq_false e1.out
    go_wp2_with fail
    go_ret
    exact ⟨rfl, bw8.out⟩
  · have hp : 0 < P := by rw [← HPe.out]; exact of_decide_eq_true e1.out
    cases T2
    · go_wp2_with (go_at_call 72; (first | (with_reducible refine A2.out.mono ?_)); rintro e wx ⟨rfl, rfl⟩)
      go_ret
      exact ⟨rfl, bw8.out⟩
    · go_wp2_with (go_at_call 72; (first | (with_reducible refine A2.out.mono ?_)); rintro e wx ⟨rfl, rfl⟩)
      go_ret
      exact ⟨rfl, bw8.out⟩
end Go.Proofs.YtkfdbibgjoaefaaGreatDoor
/-
  What the document's side wants of stage texts, for this seat (Onb).
-/

namespace Go.Proofs.YtkfdbibgjoaefaaGreatDoor
open Go.RowKit

set_option maxRecDepth 10000 in
set_option maxHeartbeats 8000000 in
theorem one_no_k (k s a b c r m i : Int) (w : World) (n1 : ¬ k = 1) (n2 : ¬ k = 2) (n3 : ¬ k = 3) (n4 : ¬ k = 4) (n5 : ¬ k = 5) (n6 : ¬ k = 6) (n7 : ¬ k = 7) (n8 : ¬ k = 8) (n9 : ¬ k = 9) (hs : ¬ vP k s a b c r m = vP k 0 0 0 0 0 0) :
    Calls Tryz.prog 52 #[vP k s a b c r m, .int .i64 i] w fun e w' => e = .returned (.bool false) ∧ Below w.heap.size w w' := by
  have HS := hid hs
  clear hs
  have B := boxed w k s a b c r m
  obtain ⟨W, hW⟩ : ∃ W, W = w.alloc (.cells #[.int .u8 k, .int .i64 s, .int .i64 a, .int .i64 b, .int .i64 c, .int .i64 r, .int .i64 m] 38) := ⟨_, rfl⟩
  have b0 := hid (show Below w.heap.size w W by rw [hW]; exact (Below.refl _ _).alloc (Nat.le_refl _) _)
  rw [← hW] at B
  have HF := hid (fun w => fields_k k s a b c r m n1 n2 n3 n4 n5 n6 n7 n8 n9 w)
  have HB := hid (B.below (Below.refl _ W).drew)
  have hneq : ∀ w, (binOp BinOp.neq 38 (.agg #[.int .u8 k, .int .i64 0, .int .i64 0, .int .i64 0, .int .i64 0, .int .i64 0, .int .i64 0]) (.agg #[.int .u8 k, .int .i64 s, .int .i64 a, .int .i64 b, .int .i64 c, .int .i64 r, .int .i64 m])).run Tryz.prog w = .ok (.bool true) w := by
    intro w
    go_simp
    intros
    intro hlast
    refine HS.out ?_
    unfold vP
    simp
    omega
  unfold vP
  clear B
  go_enter Tryz.func52, Tryz.ntmps52
  go_wp2_with fail
  rw [← hW]
  clear hW
  go_region_held3 (fun w' => w'.cell? ⟨w.heap.size, 0, none⟩ = some (.int .u8 k) ∧ w'.cell? ⟨w.heap.size, 1, none⟩ = some (.int .i64 s) ∧ w'.cell? ⟨w.heap.size, 2, none⟩ = some (.int .i64 a) ∧ w'.cell? ⟨w.heap.size, 3, none⟩ = some (.int .i64 b) ∧ w'.cell? ⟨w.heap.size, 4, none⟩ = some (.int .i64 c) ∧ w'.cell? ⟨w.heap.size, 5, none⟩ = some (.int .i64 r) ∧ w'.cell? ⟨w.heap.size, 6, none⟩ = some (.int .i64 m)) (first | exact ⟨HB7.out.c0, HB7.out.c1, HB7.out.c2, HB7.out.c3, HB7.out.c4, HB7.out.c5, HB7.out.c6⟩ | exact ⟨HB.out.c0, HB.out.c1, HB.out.c2, HB.out.c3, HB.out.c4, HB.out.c5, HB.out.c6⟩ | go_keep)
    (first | (go_at_call 70; (refine (HF.out _).mono ?_); rintro e w7 ⟨rfl, b7⟩; have HB7 := hid (HB.out.below b7); have bw7 := hid (b0.out.drew.trans (b7.mono b0.out.size))))
  go_wp2_with fail
  go_ret
  exact ⟨rfl, bw7.out⟩
set_option maxRecDepth 10000 in
set_option maxHeartbeats 8000000 in
theorem one_yes_k (k i : Int) (_hi : 0 ≤ i) (_hi2 : i ≤ 16) (w : World) (n1 : ¬ k = 1) (n2 : ¬ k = 2) (n3 : ¬ k = 3) (n4 : ¬ k = 4) (n5 : ¬ k = 5) (n6 : ¬ k = 6) (n7 : ¬ k = 7) (n8 : ¬ k = 8) (n9 : ¬ k = 9) :
    Calls Tryz.prog 52 #[vP k 0 0 0 0 0 0, .int .i64 i] w fun e w' => e = .returned (.bool (false)) ∧ Below w.heap.size w w' := by
  have B := boxed w k 0 0 0 0 0 0
  obtain ⟨W, hW⟩ : ∃ W, W = w.alloc (.cells #[.int .u8 k, .int .i64 0, .int .i64 0, .int .i64 0, .int .i64 0, .int .i64 0, .int .i64 0] 38) := ⟨_, rfl⟩
  have b0 := hid (show Below w.heap.size w W by rw [hW]; exact (Below.refl _ _).alloc (Nat.le_refl _) _)
  rw [← hW] at B
  have HF := hid (fun w => fields_k k 0 0 0 0 0 0 n1 n2 n3 n4 n5 n6 n7 n8 n9 w)
  have HB := hid (B.below (Below.refl _ W).drew)
  obtain ⟨P, hP⟩ : ∃ P, plI k 0 0 = P := ⟨_, rfl⟩
  have HQ := hid (fun w => refPlaces_any k 0 0 0 0 0 0 w)
  rw [hP] at HQ
  obtain ⟨j, hj⟩ : ∃ j, i - 1 = j := ⟨_, rfl⟩
  have Hj := hid hj
  have HPe := hid hP
  clear hP
  unfold vP at HQ ⊢
  clear B
  go_enter Tryz.func52, Tryz.ntmps52
  go_wp2_with fail
  rw [← hW]
  clear hW
  go_region_held3 (fun w' => w'.cell? ⟨w.heap.size, 0, none⟩ = some (.int .u8 k) ∧ w'.cell? ⟨w.heap.size, 1, none⟩ = some (.int .i64 0) ∧ w'.cell? ⟨w.heap.size, 2, none⟩ = some (.int .i64 0) ∧ w'.cell? ⟨w.heap.size, 3, none⟩ = some (.int .i64 0) ∧ w'.cell? ⟨w.heap.size, 4, none⟩ = some (.int .i64 0) ∧ w'.cell? ⟨w.heap.size, 5, none⟩ = some (.int .i64 0) ∧ w'.cell? ⟨w.heap.size, 6, none⟩ = some (.int .i64 0)) (first | exact ⟨HB7.out.c0, HB7.out.c1, HB7.out.c2, HB7.out.c3, HB7.out.c4, HB7.out.c5, HB7.out.c6⟩ | exact ⟨HB.out.c0, HB.out.c1, HB.out.c2, HB.out.c3, HB.out.c4, HB.out.c5, HB.out.c6⟩ | go_keep)
    (first | (go_at_call 70; (refine (HF.out _).mono ?_); rintro e w7 ⟨rfl, b7⟩; have HB7 := hid (HB.out.below b7); have bw7 := hid (b0.out.drew.trans (b7.mono b0.out.size))))
  obtain ⟨c0, c1, c2, c3, c4, c5, c6⟩ := HB7.out
  go_wp2_with fail
  refine (HQ.out _).mono ?_
  rintro e w8 ⟨rfl, b8⟩
  have HB8 := hid (HB7.out.below b8)
  have bw8 := hid (bw7.out.trans (b8.mono bw7.out.size))
  clear HQ HF b8 c0 c1 c2 c3 c4 c5 c6
  obtain ⟨c0, c1, c2, c3, c4, c5, c6⟩ := HB8.out
  by_cases hp : 0 < P
  · go_wp2_with fail
    go_ret
    exact ⟨rfl, bw8.out⟩
  · go_wp2_with fail
    go_ret
    exact ⟨rfl, bw8.out⟩
set_option maxRecDepth 10000 in
set_option maxHeartbeats 8000000 in
theorem one_no_1 (s a b c r m i : Int) (w : World) (hs : ¬ vP 1 s a b c r m = vP 1 0 0 0 c 0 0) :
    Calls Tryz.prog 52 #[vP 1 s a b c r m, .int .i64 i] w fun e w' => e = .returned (.bool false) ∧ Below w.heap.size w w' := by
  have HS := hid hs
  clear hs
  have B := boxed w 1 s a b c r m
  obtain ⟨W, hW⟩ : ∃ W, W = w.alloc (.cells #[.int .u8 1, .int .i64 s, .int .i64 a, .int .i64 b, .int .i64 c, .int .i64 r, .int .i64 m] 38) := ⟨_, rfl⟩
  have b0 := hid (show Below w.heap.size w W by rw [hW]; exact (Below.refl _ _).alloc (Nat.le_refl _) _)
  rw [← hW] at B
  have HF := hid (fun w => fields_1 s a b c r m w)
  have HB := hid (B.below (Below.refl _ W).drew)
  have hneq : ∀ w, (binOp BinOp.neq 38 (.agg #[.int .u8 1, .int .i64 0, .int .i64 0, .int .i64 0, .int .i64 c, .int .i64 0, .int .i64 0]) (.agg #[.int .u8 1, .int .i64 s, .int .i64 a, .int .i64 b, .int .i64 c, .int .i64 r, .int .i64 m])).run Tryz.prog w = .ok (.bool true) w := by
    intro w
    go_simp
    intros
    intro hlast
    refine HS.out ?_
    unfold vP
    simp
    omega
  unfold vP
  clear B
  go_enter Tryz.func52, Tryz.ntmps52
  go_wp2_with fail
  rw [← hW]
  clear hW
  go_region_held3 (fun w' => w'.cell? ⟨w.heap.size, 0, none⟩ = some (.int .u8 1) ∧ w'.cell? ⟨w.heap.size, 1, none⟩ = some (.int .i64 s) ∧ w'.cell? ⟨w.heap.size, 2, none⟩ = some (.int .i64 a) ∧ w'.cell? ⟨w.heap.size, 3, none⟩ = some (.int .i64 b) ∧ w'.cell? ⟨w.heap.size, 4, none⟩ = some (.int .i64 c) ∧ w'.cell? ⟨w.heap.size, 5, none⟩ = some (.int .i64 r) ∧ w'.cell? ⟨w.heap.size, 6, none⟩ = some (.int .i64 m)) (first | exact ⟨HB7.out.c0, HB7.out.c1, HB7.out.c2, HB7.out.c3, HB7.out.c4, HB7.out.c5, HB7.out.c6⟩ | exact ⟨HB.out.c0, HB.out.c1, HB.out.c2, HB.out.c3, HB.out.c4, HB.out.c5, HB.out.c6⟩ | go_keep)
    (first | (go_at_call 70; (refine (HF.out _).mono ?_); rintro e w7 ⟨rfl, b7⟩; have HB7 := hid (HB.out.below b7); have bw7 := hid (b0.out.drew.trans (b7.mono b0.out.size))))
  go_wp2_with fail
  go_ret
  exact ⟨rfl, bw7.out⟩
set_option maxRecDepth 10000 in
set_option maxHeartbeats 8000000 in
theorem one_yes_1 (c i : Int) (_hi : 0 ≤ i) (_hi2 : i ≤ 16) (w : World) (T1 : Bool) (e1 : decide (inn c (-2047) 2047) = T1) :
    Calls Tryz.prog 52 #[vP 1 0 0 0 c 0 0, .int .i64 i] w fun e w' => e = .returned (.bool (T1)) ∧ Below w.heap.size w w' := by
  have e1 := hid e1
  have B := boxed w 1 0 0 0 c 0 0
  obtain ⟨W, hW⟩ : ∃ W, W = w.alloc (.cells #[.int .u8 1, .int .i64 0, .int .i64 0, .int .i64 0, .int .i64 c, .int .i64 0, .int .i64 0] 38) := ⟨_, rfl⟩
  have b0 := hid (show Below w.heap.size w W by rw [hW]; exact (Below.refl _ _).alloc (Nat.le_refl _) _)
  rw [← hW] at B
  have HF := hid (fun w => fields_1 0 0 0 c 0 0 w)
  have HB := hid (B.below (Below.refl _ W).drew)
  obtain ⟨P, hP⟩ : ∃ P, plI 1 0 0 = P := ⟨_, rfl⟩
  have HQ := hid (fun w => refPlaces_any 1 0 0 0 c 0 0 w)
  rw [hP] at HQ
  obtain ⟨j, hj⟩ : ∃ j, i - 1 = j := ⟨_, rfl⟩
  have Hj := hid hj
  have HPe := hid hP
  clear hP
  unfold vP at HQ ⊢
  clear B
  go_enter Tryz.func52, Tryz.ntmps52
  go_wp2_with fail
  rw [← hW]
  clear hW
  go_region_held3 (fun w' => w'.cell? ⟨w.heap.size, 0, none⟩ = some (.int .u8 1) ∧ w'.cell? ⟨w.heap.size, 1, none⟩ = some (.int .i64 0) ∧ w'.cell? ⟨w.heap.size, 2, none⟩ = some (.int .i64 0) ∧ w'.cell? ⟨w.heap.size, 3, none⟩ = some (.int .i64 0) ∧ w'.cell? ⟨w.heap.size, 4, none⟩ = some (.int .i64 c) ∧ w'.cell? ⟨w.heap.size, 5, none⟩ = some (.int .i64 0) ∧ w'.cell? ⟨w.heap.size, 6, none⟩ = some (.int .i64 0)) (first | exact ⟨HB7.out.c0, HB7.out.c1, HB7.out.c2, HB7.out.c3, HB7.out.c4, HB7.out.c5, HB7.out.c6⟩ | exact ⟨HB.out.c0, HB.out.c1, HB.out.c2, HB.out.c3, HB.out.c4, HB.out.c5, HB.out.c6⟩ | go_keep)
    (first | (go_at_call 70; (refine (HF.out _).mono ?_); rintro e w7 ⟨rfl, b7⟩; have HB7 := hid (HB.out.below b7); have bw7 := hid (b0.out.drew.trans (b7.mono b0.out.size))))
  obtain ⟨c0, c1, c2, c3, c4, c5, c6⟩ := HB7.out
  go_wp2_with fail
  refine (HQ.out _).mono ?_
  rintro e w8 ⟨rfl, b8⟩
  have HB8 := hid (HB7.out.below b8)
  have bw8 := hid (bw7.out.trans (b8.mono bw7.out.size))
  clear HQ HF b8 c0 c1 c2 c3 c4 c5 c6
  obtain ⟨c0, c1, c2, c3, c4, c5, c6⟩ := HB8.out
  have A1 := hid (within_T c (-2047) 2047 T1 e1.out w8)
  by_cases hp : 0 < P
  all_goals
    cases T1
    · go_wp2_with (go_at_call 72; (first | (refine A1.out.mono ?_)); rintro e wx ⟨rfl, rfl⟩)
      go_ret
      exact ⟨rfl, bw8.out⟩
    · go_wp2_with (go_at_call 72; (first | (refine A1.out.mono ?_)); rintro e wx ⟨rfl, rfl⟩)
      go_ret
      exact ⟨rfl, bw8.out⟩
set_option maxRecDepth 10000 in
set_option maxHeartbeats 8000000 in
theorem one_no_3 (s a b c r m i : Int) (w : World) (hs : ¬ vP 3 s a b c r m = vP 3 s 0 0 0 0 0) :
    Calls Tryz.prog 52 #[vP 3 s a b c r m, .int .i64 i] w fun e w' => e = .returned (.bool false) ∧ Below w.heap.size w w' := by
  have HS := hid hs
  clear hs
  have B := boxed w 3 s a b c r m
  obtain ⟨W, hW⟩ : ∃ W, W = w.alloc (.cells #[.int .u8 3, .int .i64 s, .int .i64 a, .int .i64 b, .int .i64 c, .int .i64 r, .int .i64 m] 38) := ⟨_, rfl⟩
  have b0 := hid (show Below w.heap.size w W by rw [hW]; exact (Below.refl _ _).alloc (Nat.le_refl _) _)
  rw [← hW] at B
  have HF := hid (fun w => fields_3 s a b c r m w)
  have HB := hid (B.below (Below.refl _ W).drew)
  have hneq : ∀ w, (binOp BinOp.neq 38 (.agg #[.int .u8 3, .int .i64 s, .int .i64 0, .int .i64 0, .int .i64 0, .int .i64 0, .int .i64 0]) (.agg #[.int .u8 3, .int .i64 s, .int .i64 a, .int .i64 b, .int .i64 c, .int .i64 r, .int .i64 m])).run Tryz.prog w = .ok (.bool true) w := by
    intro w
    go_simp
    intros
    intro hlast
    refine HS.out ?_
    unfold vP
    simp
    omega
  unfold vP
  clear B
  go_enter Tryz.func52, Tryz.ntmps52
  go_wp2_with fail
  rw [← hW]
  clear hW
  go_region_held3 (fun w' => w'.cell? ⟨w.heap.size, 0, none⟩ = some (.int .u8 3) ∧ w'.cell? ⟨w.heap.size, 1, none⟩ = some (.int .i64 s) ∧ w'.cell? ⟨w.heap.size, 2, none⟩ = some (.int .i64 a) ∧ w'.cell? ⟨w.heap.size, 3, none⟩ = some (.int .i64 b) ∧ w'.cell? ⟨w.heap.size, 4, none⟩ = some (.int .i64 c) ∧ w'.cell? ⟨w.heap.size, 5, none⟩ = some (.int .i64 r) ∧ w'.cell? ⟨w.heap.size, 6, none⟩ = some (.int .i64 m)) (first | exact ⟨HB7.out.c0, HB7.out.c1, HB7.out.c2, HB7.out.c3, HB7.out.c4, HB7.out.c5, HB7.out.c6⟩ | exact ⟨HB.out.c0, HB.out.c1, HB.out.c2, HB.out.c3, HB.out.c4, HB.out.c5, HB.out.c6⟩ | go_keep)
    (first | (go_at_call 70; (refine (HF.out _).mono ?_); rintro e w7 ⟨rfl, b7⟩; have HB7 := hid (HB.out.below b7); have bw7 := hid (b0.out.drew.trans (b7.mono b0.out.size))))
  go_wp2_with fail
  go_ret
  exact ⟨rfl, bw7.out⟩
set_option maxRecDepth 10000 in
set_option maxHeartbeats 8000000 in
theorem one_yes_3 (s i : Int) (_hi : 0 ≤ i) (_hi2 : i ≤ 16) (w : World) (T1 : Bool) (e1 : decide (0 < plI 3 s 0) = T1) :
    Calls Tryz.prog 52 #[vP 3 s 0 0 0 0 0, .int .i64 i] w fun e w' => e = .returned (.bool (T1)) ∧ Below w.heap.size w w' := by
  have e1 := hid e1
  have B := boxed w 3 s 0 0 0 0 0
  obtain ⟨W, hW⟩ : ∃ W, W = w.alloc (.cells #[.int .u8 3, .int .i64 s, .int .i64 0, .int .i64 0, .int .i64 0, .int .i64 0, .int .i64 0] 38) := ⟨_, rfl⟩
  have b0 := hid (show Below w.heap.size w W by rw [hW]; exact (Below.refl _ _).alloc (Nat.le_refl _) _)
  rw [← hW] at B
  have HF := hid (fun w => fields_3 s 0 0 0 0 0 w)
  have HB := hid (B.below (Below.refl _ W).drew)
  obtain ⟨P, hP⟩ : ∃ P, plI 3 s 0 = P := ⟨_, rfl⟩
  have HQ := hid (fun w => refPlaces_any 3 s 0 0 0 0 0 w)
  rw [hP] at HQ
  obtain ⟨j, hj⟩ : ∃ j, i - 1 = j := ⟨_, rfl⟩
  have Hj := hid hj
  have HPe := hid hP
  clear hP
  unfold vP at HQ ⊢
  clear B
  go_enter Tryz.func52, Tryz.ntmps52
  go_wp2_with fail
  rw [← hW]
  clear hW
  go_region_held3 (fun w' => w'.cell? ⟨w.heap.size, 0, none⟩ = some (.int .u8 3) ∧ w'.cell? ⟨w.heap.size, 1, none⟩ = some (.int .i64 s) ∧ w'.cell? ⟨w.heap.size, 2, none⟩ = some (.int .i64 0) ∧ w'.cell? ⟨w.heap.size, 3, none⟩ = some (.int .i64 0) ∧ w'.cell? ⟨w.heap.size, 4, none⟩ = some (.int .i64 0) ∧ w'.cell? ⟨w.heap.size, 5, none⟩ = some (.int .i64 0) ∧ w'.cell? ⟨w.heap.size, 6, none⟩ = some (.int .i64 0)) (first | exact ⟨HB7.out.c0, HB7.out.c1, HB7.out.c2, HB7.out.c3, HB7.out.c4, HB7.out.c5, HB7.out.c6⟩ | exact ⟨HB.out.c0, HB.out.c1, HB.out.c2, HB.out.c3, HB.out.c4, HB.out.c5, HB.out.c6⟩ | go_keep)
    (first | (go_at_call 70; (refine (HF.out _).mono ?_); rintro e w7 ⟨rfl, b7⟩; have HB7 := hid (HB.out.below b7); have bw7 := hid (b0.out.drew.trans (b7.mono b0.out.size))))
  obtain ⟨c0, c1, c2, c3, c4, c5, c6⟩ := HB7.out
  go_wp2_with fail
  refine (HQ.out _).mono ?_
  rintro e w8 ⟨rfl, b8⟩
  have HB8 := hid (HB7.out.below b8)
  have bw8 := hid (bw7.out.trans (b8.mono bw7.out.size))
  clear HQ HF b8 c0 c1 c2 c3 c4 c5 c6
  obtain ⟨c0, c1, c2, c3, c4, c5, c6⟩ := HB8.out
  cases T1
  · have hp : ¬ 0 < P := by rw [← HPe.out]; exact of_decide_eq_false e1.out
    go_wp2_with fail
    go_ret
    exact ⟨by simp [hp], bw8.out⟩
  · have hp : 0 < P := by rw [← HPe.out]; exact of_decide_eq_true e1.out
    go_wp2_with fail
    go_ret
    exact ⟨by simp [], bw8.out⟩
set_option maxRecDepth 10000 in
set_option maxHeartbeats 8000000 in
theorem one_no_4 (s a b c r m i : Int) (w : World) (hs : ¬ vP 4 s a b c r m = vP 4 s 0 0 0 0 0) :
    Calls Tryz.prog 52 #[vP 4 s a b c r m, .int .i64 i] w fun e w' => e = .returned (.bool false) ∧ Below w.heap.size w w' := by
  have HS := hid hs
  clear hs
  have B := boxed w 4 s a b c r m
  obtain ⟨W, hW⟩ : ∃ W, W = w.alloc (.cells #[.int .u8 4, .int .i64 s, .int .i64 a, .int .i64 b, .int .i64 c, .int .i64 r, .int .i64 m] 38) := ⟨_, rfl⟩
  have b0 := hid (show Below w.heap.size w W by rw [hW]; exact (Below.refl _ _).alloc (Nat.le_refl _) _)
  rw [← hW] at B
  have HF := hid (fun w => fields_4 s a b c r m w)
  have HB := hid (B.below (Below.refl _ W).drew)
  have hneq : ∀ w, (binOp BinOp.neq 38 (.agg #[.int .u8 4, .int .i64 s, .int .i64 0, .int .i64 0, .int .i64 0, .int .i64 0, .int .i64 0]) (.agg #[.int .u8 4, .int .i64 s, .int .i64 a, .int .i64 b, .int .i64 c, .int .i64 r, .int .i64 m])).run Tryz.prog w = .ok (.bool true) w := by
    intro w
    go_simp
    intros
    intro hlast
    refine HS.out ?_
    unfold vP
    simp
    omega
  unfold vP
  clear B
  go_enter Tryz.func52, Tryz.ntmps52
  go_wp2_with fail
  rw [← hW]
  clear hW
  go_region_held3 (fun w' => w'.cell? ⟨w.heap.size, 0, none⟩ = some (.int .u8 4) ∧ w'.cell? ⟨w.heap.size, 1, none⟩ = some (.int .i64 s) ∧ w'.cell? ⟨w.heap.size, 2, none⟩ = some (.int .i64 a) ∧ w'.cell? ⟨w.heap.size, 3, none⟩ = some (.int .i64 b) ∧ w'.cell? ⟨w.heap.size, 4, none⟩ = some (.int .i64 c) ∧ w'.cell? ⟨w.heap.size, 5, none⟩ = some (.int .i64 r) ∧ w'.cell? ⟨w.heap.size, 6, none⟩ = some (.int .i64 m)) (first | exact ⟨HB7.out.c0, HB7.out.c1, HB7.out.c2, HB7.out.c3, HB7.out.c4, HB7.out.c5, HB7.out.c6⟩ | exact ⟨HB.out.c0, HB.out.c1, HB.out.c2, HB.out.c3, HB.out.c4, HB.out.c5, HB.out.c6⟩ | go_keep)
    (first | (go_at_call 70; (refine (HF.out _).mono ?_); rintro e w7 ⟨rfl, b7⟩; have HB7 := hid (HB.out.below b7); have bw7 := hid (b0.out.drew.trans (b7.mono b0.out.size))))
  go_wp2_with fail
  go_ret
  exact ⟨rfl, bw7.out⟩
set_option maxRecDepth 10000 in
set_option maxHeartbeats 8000000 in
theorem one_yes_4 (s i : Int) (_hi : 0 ≤ i) (_hi2 : i ≤ 16) (w : World) (T1 : Bool) (e1 : decide (0 < plI 4 s 0) = T1) :
    Calls Tryz.prog 52 #[vP 4 s 0 0 0 0 0, .int .i64 i] w fun e w' => e = .returned (.bool (T1)) ∧ Below w.heap.size w w' := by
  have e1 := hid e1
  have B := boxed w 4 s 0 0 0 0 0
  obtain ⟨W, hW⟩ : ∃ W, W = w.alloc (.cells #[.int .u8 4, .int .i64 s, .int .i64 0, .int .i64 0, .int .i64 0, .int .i64 0, .int .i64 0] 38) := ⟨_, rfl⟩
  have b0 := hid (show Below w.heap.size w W by rw [hW]; exact (Below.refl _ _).alloc (Nat.le_refl _) _)
  rw [← hW] at B
  have HF := hid (fun w => fields_4 s 0 0 0 0 0 w)
  have HB := hid (B.below (Below.refl _ W).drew)
  obtain ⟨P, hP⟩ : ∃ P, plI 4 s 0 = P := ⟨_, rfl⟩
  have HQ := hid (fun w => refPlaces_any 4 s 0 0 0 0 0 w)
  rw [hP] at HQ
  obtain ⟨j, hj⟩ : ∃ j, i - 1 = j := ⟨_, rfl⟩
  have Hj := hid hj
  have HPe := hid hP
  clear hP
  unfold vP at HQ ⊢
  clear B
  go_enter Tryz.func52, Tryz.ntmps52
  go_wp2_with fail
  rw [← hW]
  clear hW
  go_region_held3 (fun w' => w'.cell? ⟨w.heap.size, 0, none⟩ = some (.int .u8 4) ∧ w'.cell? ⟨w.heap.size, 1, none⟩ = some (.int .i64 s) ∧ w'.cell? ⟨w.heap.size, 2, none⟩ = some (.int .i64 0) ∧ w'.cell? ⟨w.heap.size, 3, none⟩ = some (.int .i64 0) ∧ w'.cell? ⟨w.heap.size, 4, none⟩ = some (.int .i64 0) ∧ w'.cell? ⟨w.heap.size, 5, none⟩ = some (.int .i64 0) ∧ w'.cell? ⟨w.heap.size, 6, none⟩ = some (.int .i64 0)) (first | exact ⟨HB7.out.c0, HB7.out.c1, HB7.out.c2, HB7.out.c3, HB7.out.c4, HB7.out.c5, HB7.out.c6⟩ | exact ⟨HB.out.c0, HB.out.c1, HB.out.c2, HB.out.c3, HB.out.c4, HB.out.c5, HB.out.c6⟩ | go_keep)
    (first | (go_at_call 70; (refine (HF.out _).mono ?_); rintro e w7 ⟨rfl, b7⟩; have HB7 := hid (HB.out.below b7); have bw7 := hid (b0.out.drew.trans (b7.mono b0.out.size))))
  obtain ⟨c0, c1, c2, c3, c4, c5, c6⟩ := HB7.out
  go_wp2_with fail
  refine (HQ.out _).mono ?_
  rintro e w8 ⟨rfl, b8⟩
  have HB8 := hid (HB7.out.below b8)
  have bw8 := hid (bw7.out.trans (b8.mono bw7.out.size))
  clear HQ HF b8 c0 c1 c2 c3 c4 c5 c6
  obtain ⟨c0, c1, c2, c3, c4, c5, c6⟩ := HB8.out
  cases T1
  · have hp : ¬ 0 < P := by rw [← HPe.out]; exact of_decide_eq_false e1.out
    go_wp2_with fail
    go_ret
    exact ⟨by simp [hp], bw8.out⟩
  · have hp : 0 < P := by rw [← HPe.out]; exact of_decide_eq_true e1.out
    go_wp2_with fail
    go_ret
    exact ⟨by simp [], bw8.out⟩
end Go.Proofs.YtkfdbibgjoaefaaGreatDoor
