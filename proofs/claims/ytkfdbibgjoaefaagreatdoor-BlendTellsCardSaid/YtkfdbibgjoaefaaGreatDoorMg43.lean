/-
  Merged: XOnc XOnd.
-/
import Derived.Test.YtkfdbibgjoaefaaGreatDoorMg42
/-
  What the document's side wants of stage texts, for this seat (Onc).
-/

namespace Go.Proofs.YtkfdbibgjoaefaaGreatDoor
open Go.RowKit

set_option maxRecDepth 10000 in
set_option maxHeartbeats 8000000 in
theorem one_no_5 (s a b c r m i : Int) (w : World) (hs : ¬ vP 5 s a b c r m = vP 5 0 a b c 0 0) :
    Calls Tryz.prog 52 #[vP 5 s a b c r m, .int .i64 i] w fun e w' => e = .returned (.bool false) ∧ Below w.heap.size w w' := by
  have HS := hid hs
  clear hs
  have B := boxed w 5 s a b c r m
  obtain ⟨W, hW⟩ : ∃ W, W = w.alloc (.cells #[.int .u8 5, .int .i64 s, .int .i64 a, .int .i64 b, .int .i64 c, .int .i64 r, .int .i64 m] 38) := ⟨_, rfl⟩
  have b0 := hid (show Below w.heap.size w W by rw [hW]; exact (Below.refl _ _).alloc (Nat.le_refl _) _)
  rw [← hW] at B
  have HF := hid (fun w => fields_5 s a b c r m w)
  have HB := hid (B.below (Below.refl _ W).drew)
  have hneq : ∀ w, (binOp BinOp.neq 38 (.agg #[.int .u8 5, .int .i64 0, .int .i64 a, .int .i64 b, .int .i64 c, .int .i64 0, .int .i64 0]) (.agg #[.int .u8 5, .int .i64 s, .int .i64 a, .int .i64 b, .int .i64 c, .int .i64 r, .int .i64 m])).run Tryz.prog w = .ok (.bool true) w := by
    intro w
    go_simp
    intros
    intro hlast
    refine HS.out ?_
    unfold vP
    simp
    omega
  unfold vP
  clear B
  go_enter Tryz.func52, Tryz.ntmps52
  go_wp2_with fail
  rw [← hW]
  clear hW
  go_region_held3 (fun w' => w'.cell? ⟨w.heap.size, 0, none⟩ = some (.int .u8 5) ∧ w'.cell? ⟨w.heap.size, 1, none⟩ = some (.int .i64 s) ∧ w'.cell? ⟨w.heap.size, 2, none⟩ = some (.int .i64 a) ∧ w'.cell? ⟨w.heap.size, 3, none⟩ = some (.int .i64 b) ∧ w'.cell? ⟨w.heap.size, 4, none⟩ = some (.int .i64 c) ∧ w'.cell? ⟨w.heap.size, 5, none⟩ = some (.int .i64 r) ∧ w'.cell? ⟨w.heap.size, 6, none⟩ = some (.int .i64 m)) (first | exact ⟨HB7.out.c0, HB7.out.c1, HB7.out.c2, HB7.out.c3, HB7.out.c4, HB7.out.c5, HB7.out.c6⟩ | exact ⟨HB.out.c0, HB.out.c1, HB.out.c2, HB.out.c3, HB.out.c4, HB.out.c5, HB.out.c6⟩ | go_keep)
    (first | (go_at_call 70; (refine (HF.out _).mono ?_); rintro e w7 ⟨rfl, b7⟩; have HB7 := hid (HB.out.below b7); have bw7 := hid (b0.out.drew.trans (b7.mono b0.out.size))))
  go_wp2_with fail
  go_ret
  exact ⟨rfl, bw7.out⟩
set_option maxRecDepth 10000 in
set_option maxHeartbeats 8000000 in
theorem one_yes_5 (a b c i : Int) (hi : 0 ≤ i) (hi2 : i ≤ 16) (w : World) (T1 T2 T3 : Bool) (e1 : decide (inn a 0 (i - 1)) = T1) (e2 : decide (inn b 0 (i - 1)) = T2) (e3 : decide (inn c 0 256) = T3) :
    Calls Tryz.prog 52 #[vP 5 0 a b c 0 0, .int .i64 i] w fun e w' => e = .returned (.bool (T1 && T2 && T3)) ∧ Below w.heap.size w w' := by
  have e1 := hid e1
  have e2 := hid e2
  have e3 := hid e3
  have B := boxed w 5 0 a b c 0 0
  obtain ⟨W, hW⟩ : ∃ W, W = w.alloc (.cells #[.int .u8 5, .int .i64 0, .int .i64 a, .int .i64 b, .int .i64 c, .int .i64 0, .int .i64 0] 38) := ⟨_, rfl⟩
  have b0 := hid (show Below w.heap.size w W by rw [hW]; exact (Below.refl _ _).alloc (Nat.le_refl _) _)
  rw [← hW] at B
  have HF := hid (fun w => fields_5 0 a b c 0 0 w)
  have HB := hid (B.below (Below.refl _ W).drew)
  obtain ⟨P, hP⟩ : ∃ P, plI 5 0 b = P := ⟨_, rfl⟩
  have HQ := hid (fun w => refPlaces_any 5 0 a b c 0 0 w)
  rw [hP] at HQ
  obtain ⟨j, hj⟩ : ∃ j, i - 1 = j := ⟨_, rfl⟩
  have Hj := hid hj
  have HPe := hid hP
  clear hP
  unfold vP at HQ ⊢
  clear B
  go_enter Tryz.func52, Tryz.ntmps52
  go_wp2_with fail
  rw [← hW]
  clear hW
  go_region_held3 (fun w' => w'.cell? ⟨w.heap.size, 0, none⟩ = some (.int .u8 5) ∧ w'.cell? ⟨w.heap.size, 1, none⟩ = some (.int .i64 0) ∧ w'.cell? ⟨w.heap.size, 2, none⟩ = some (.int .i64 a) ∧ w'.cell? ⟨w.heap.size, 3, none⟩ = some (.int .i64 b) ∧ w'.cell? ⟨w.heap.size, 4, none⟩ = some (.int .i64 c) ∧ w'.cell? ⟨w.heap.size, 5, none⟩ = some (.int .i64 0) ∧ w'.cell? ⟨w.heap.size, 6, none⟩ = some (.int .i64 0)) (first | exact ⟨HB7.out.c0, HB7.out.c1, HB7.out.c2, HB7.out.c3, HB7.out.c4, HB7.out.c5, HB7.out.c6⟩ | exact ⟨HB.out.c0, HB.out.c1, HB.out.c2, HB.out.c3, HB.out.c4, HB.out.c5, HB.out.c6⟩ | go_keep)
    (first | (go_at_call 70; (refine (HF.out _).mono ?_); rintro e w7 ⟨rfl, b7⟩; have HB7 := hid (HB.out.below b7); have bw7 := hid (b0.out.drew.trans (b7.mono b0.out.size))))
  obtain ⟨c0, c1, c2, c3, c4, c5, c6⟩ := HB7.out
  go_wp2_with fail
  refine (HQ.out _).mono ?_
  rintro e w8 ⟨rfl, b8⟩
  have HB8 := hid (HB7.out.below b8)
  have bw8 := hid (bw7.out.trans (b8.mono bw7.out.size))
  clear HQ HF b8 c0 c1 c2 c3 c4 c5 c6
  obtain ⟨c0, c1, c2, c3, c4, c5, c6⟩ := HB8.out
  have A1 := hid (within_T a 0 j T1 (by rw [← Hj.out]; exact e1.out) w8)
  have A2 := hid (within_T b 0 j T2 (by rw [← Hj.out]; exact e2.out) w8)
  have A3 := hid (within_T c 0 256 T3 e3.out w8)
  by_cases hp : 0 < P
  all_goals
    cases T1
    · go_wp2_with (go_at_call 72; (first | (with_reducible refine A1.out.mono ?_)); rintro e wx ⟨rfl, rfl⟩)
      go_ret
      exact ⟨rfl, bw8.out⟩
    · cases T2
      · go_wp2_with (go_at_call 72; (first | (with_reducible refine A1.out.mono ?_) | (with_reducible refine A2.out.mono ?_)); rintro e wx ⟨rfl, rfl⟩)
        go_ret
        exact ⟨rfl, bw8.out⟩
      · cases T3
        · go_wp2_with (go_at_call 72; (first | (with_reducible refine A1.out.mono ?_) | (with_reducible refine A2.out.mono ?_) | (with_reducible refine A3.out.mono ?_)); rintro e wx ⟨rfl, rfl⟩)
          go_ret
          exact ⟨rfl, bw8.out⟩
        · go_wp2_with (go_at_call 72; (first | (with_reducible refine A1.out.mono ?_) | (with_reducible refine A2.out.mono ?_) | (with_reducible refine A3.out.mono ?_)); rintro e wx ⟨rfl, rfl⟩)
          go_ret
          exact ⟨rfl, bw8.out⟩
set_option maxRecDepth 10000 in
set_option maxHeartbeats 8000000 in
theorem one_no_6 (s a b c r m i : Int) (w : World) (hs : ¬ vP 6 s a b c r m = vP 6 s a b 0 r 0) :
    Calls Tryz.prog 52 #[vP 6 s a b c r m, .int .i64 i] w fun e w' => e = .returned (.bool false) ∧ Below w.heap.size w w' := by
  have HS := hid hs
  clear hs
  have B := boxed w 6 s a b c r m
  obtain ⟨W, hW⟩ : ∃ W, W = w.alloc (.cells #[.int .u8 6, .int .i64 s, .int .i64 a, .int .i64 b, .int .i64 c, .int .i64 r, .int .i64 m] 38) := ⟨_, rfl⟩
  have b0 := hid (show Below w.heap.size w W by rw [hW]; exact (Below.refl _ _).alloc (Nat.le_refl _) _)
  rw [← hW] at B
  have HF := hid (fun w => fields_6 s a b c r m w)
  have HB := hid (B.below (Below.refl _ W).drew)
  have hneq : ∀ w, (binOp BinOp.neq 38 (.agg #[.int .u8 6, .int .i64 s, .int .i64 a, .int .i64 b, .int .i64 0, .int .i64 r, .int .i64 0]) (.agg #[.int .u8 6, .int .i64 s, .int .i64 a, .int .i64 b, .int .i64 c, .int .i64 r, .int .i64 m])).run Tryz.prog w = .ok (.bool true) w := by
    intro w
    go_simp
    intros
    intro hlast
    refine HS.out ?_
    unfold vP
    simp
    omega
  unfold vP
  clear B
  go_enter Tryz.func52, Tryz.ntmps52
  go_wp2_with fail
  rw [← hW]
  clear hW
  go_region_held3 (fun w' => w'.cell? ⟨w.heap.size, 0, none⟩ = some (.int .u8 6) ∧ w'.cell? ⟨w.heap.size, 1, none⟩ = some (.int .i64 s) ∧ w'.cell? ⟨w.heap.size, 2, none⟩ = some (.int .i64 a) ∧ w'.cell? ⟨w.heap.size, 3, none⟩ = some (.int .i64 b) ∧ w'.cell? ⟨w.heap.size, 4, none⟩ = some (.int .i64 c) ∧ w'.cell? ⟨w.heap.size, 5, none⟩ = some (.int .i64 r) ∧ w'.cell? ⟨w.heap.size, 6, none⟩ = some (.int .i64 m)) (first | exact ⟨HB7.out.c0, HB7.out.c1, HB7.out.c2, HB7.out.c3, HB7.out.c4, HB7.out.c5, HB7.out.c6⟩ | exact ⟨HB.out.c0, HB.out.c1, HB.out.c2, HB.out.c3, HB.out.c4, HB.out.c5, HB.out.c6⟩ | go_keep)
    (first | (go_at_call 70; (refine (HF.out _).mono ?_); rintro e w7 ⟨rfl, b7⟩; have HB7 := hid (HB.out.below b7); have bw7 := hid (b0.out.drew.trans (b7.mono b0.out.size))))
  go_wp2_with fail
  go_ret
  exact ⟨rfl, bw7.out⟩
set_option maxRecDepth 10000 in
set_option maxHeartbeats 8000000 in
theorem one_yes_6 (s a b r i : Int) (hi : 0 ≤ i) (hi2 : i ≤ 16) (w : World) (T1 T2 T3 T4 : Bool) (e1 : decide (0 < plI 6 s b) = T1) (e2 : decide (inn a 0 (i - 1)) = T2) (e3 : decide (inn b 0 (i - 1)) = T3) (e4 : decide (inn r 1 64) = T4) :
    Calls Tryz.prog 52 #[vP 6 s a b 0 r 0, .int .i64 i] w fun e w' => e = .returned (.bool (T1 && T2 && T3 && T4)) ∧ Below w.heap.size w w' := by
  have e1 := hid e1
  have e2 := hid e2
  have e3 := hid e3
  have e4 := hid e4
  have B := boxed w 6 s a b 0 r 0
  obtain ⟨W, hW⟩ : ∃ W, W = w.alloc (.cells #[.int .u8 6, .int .i64 s, .int .i64 a, .int .i64 b, .int .i64 0, .int .i64 r, .int .i64 0] 38) := ⟨_, rfl⟩
  have b0 := hid (show Below w.heap.size w W by rw [hW]; exact (Below.refl _ _).alloc (Nat.le_refl _) _)
  rw [← hW] at B
  have HF := hid (fun w => fields_6 s a b 0 r 0 w)
  have HB := hid (B.below (Below.refl _ W).drew)
  obtain ⟨P, hP⟩ : ∃ P, plI 6 s b = P := ⟨_, rfl⟩
  have HQ := hid (fun w => refPlaces_any 6 s a b 0 r 0 w)
  rw [hP] at HQ
  obtain ⟨j, hj⟩ : ∃ j, i - 1 = j := ⟨_, rfl⟩
  have Hj := hid hj
  have HPe := hid hP
  clear hP
  unfold vP at HQ ⊢
  clear B
  go_enter Tryz.func52, Tryz.ntmps52
  go_wp2_with fail
  rw [← hW]
  clear hW
  go_region_held3 (fun w' => w'.cell? ⟨w.heap.size, 0, none⟩ = some (.int .u8 6) ∧ w'.cell? ⟨w.heap.size, 1, none⟩ = some (.int .i64 s) ∧ w'.cell? ⟨w.heap.size, 2, none⟩ = some (.int .i64 a) ∧ w'.cell? ⟨w.heap.size, 3, none⟩ = some (.int .i64 b) ∧ w'.cell? ⟨w.heap.size, 4, none⟩ = some (.int .i64 0) ∧ w'.cell? ⟨w.heap.size, 5, none⟩ = some (.int .i64 r) ∧ w'.cell? ⟨w.heap.size, 6, none⟩ = some (.int .i64 0)) (first | exact ⟨HB7.out.c0, HB7.out.c1, HB7.out.c2, HB7.out.c3, HB7.out.c4, HB7.out.c5, HB7.out.c6⟩ | exact ⟨HB.out.c0, HB.out.c1, HB.out.c2, HB.out.c3, HB.out.c4, HB.out.c5, HB.out.c6⟩ | go_keep)
    (first | (go_at_call 70; (refine (HF.out _).mono ?_); rintro e w7 ⟨rfl, b7⟩; have HB7 := hid (HB.out.below b7); have bw7 := hid (b0.out.drew.trans (b7.mono b0.out.size))))
  obtain ⟨c0, c1, c2, c3, c4, c5, c6⟩ := HB7.out
  go_wp2_with fail
  refine (HQ.out _).mono ?_
  rintro e w8 ⟨rfl, b8⟩
  have HB8 := hid (HB7.out.below b8)
  have bw8 := hid (bw7.out.trans (b8.mono bw7.out.size))
  clear HQ HF b8 c0 c1 c2 c3 c4 c5 c6
  obtain ⟨c0, c1, c2, c3, c4, c5, c6⟩ := HB8.out
  have A2 := hid (within_T a 0 j T2 (by rw [← Hj.out]; exact e2.out) w8)
  have A3 := hid (within_T b 0 j T3 (by rw [← Hj.out]; exact e3.out) w8)
  have A4 := hid (within_T r 1 64 T4 e4.out w8)
  cases T1
  · have hp : ¬ 0 < P := by rw [← HPe.out]; exact of_decide_eq_false e1.out
    go_wp2_with fail
    go_ret
    exact ⟨rfl, bw8.out⟩
  · have hp : 0 < P := by rw [← HPe.out]; exact of_decide_eq_true e1.out
    cases T2
    · go_wp2_with (go_at_call 72; (first | (with_reducible refine A2.out.mono ?_)); rintro e wx ⟨rfl, rfl⟩)
      go_ret
      exact ⟨rfl, bw8.out⟩
    · cases T3
      · go_wp2_with (go_at_call 72; (first | (with_reducible refine A2.out.mono ?_) | (with_reducible refine A3.out.mono ?_)); rintro e wx ⟨rfl, rfl⟩)
        go_ret
        exact ⟨rfl, bw8.out⟩
      · cases T4
        · go_wp2_with (go_at_call 72; (first | (with_reducible refine A2.out.mono ?_) | (with_reducible refine A3.out.mono ?_) | (with_reducible refine A4.out.mono ?_)); rintro e wx ⟨rfl, rfl⟩)
          go_ret
          exact ⟨rfl, bw8.out⟩
        · go_wp2_with (go_at_call 72; (first | (with_reducible refine A2.out.mono ?_) | (with_reducible refine A3.out.mono ?_) | (with_reducible refine A4.out.mono ?_)); rintro e wx ⟨rfl, rfl⟩)
          go_ret
          exact ⟨rfl, bw8.out⟩
end Go.Proofs.YtkfdbibgjoaefaaGreatDoor
/-
  What the document's side wants of stage texts, for this seat (Ond).
-/

namespace Go.Proofs.YtkfdbibgjoaefaaGreatDoor
open Go.RowKit

set_option maxRecDepth 10000 in
set_option maxHeartbeats 8000000 in
theorem one_no_7 (s a b c r m i : Int) (w : World) (hs : ¬ vP 7 s a b c r m = vP 7 s a b 0 r 0) :
    Calls Tryz.prog 52 #[vP 7 s a b c r m, .int .i64 i] w fun e w' => e = .returned (.bool false) ∧ Below w.heap.size w w' := by
  have HS := hid hs
  clear hs
  have B := boxed w 7 s a b c r m
  obtain ⟨W, hW⟩ : ∃ W, W = w.alloc (.cells #[.int .u8 7, .int .i64 s, .int .i64 a, .int .i64 b, .int .i64 c, .int .i64 r, .int .i64 m] 38) := ⟨_, rfl⟩
  have b0 := hid (show Below w.heap.size w W by rw [hW]; exact (Below.refl _ _).alloc (Nat.le_refl _) _)
  rw [← hW] at B
  have HF := hid (fun w => fields_7 s a b c r m w)
  have HB := hid (B.below (Below.refl _ W).drew)
  have hneq : ∀ w, (binOp BinOp.neq 38 (.agg #[.int .u8 7, .int .i64 s, .int .i64 a, .int .i64 b, .int .i64 0, .int .i64 r, .int .i64 0]) (.agg #[.int .u8 7, .int .i64 s, .int .i64 a, .int .i64 b, .int .i64 c, .int .i64 r, .int .i64 m])).run Tryz.prog w = .ok (.bool true) w := by
    intro w
    go_simp
    intros
    intro hlast
    refine HS.out ?_
    unfold vP
    simp
    omega
  unfold vP
  clear B
  go_enter Tryz.func52, Tryz.ntmps52
  go_wp2_with fail
  rw [← hW]
  clear hW
  go_region_held3 (fun w' => w'.cell? ⟨w.heap.size, 0, none⟩ = some (.int .u8 7) ∧ w'.cell? ⟨w.heap.size, 1, none⟩ = some (.int .i64 s) ∧ w'.cell? ⟨w.heap.size, 2, none⟩ = some (.int .i64 a) ∧ w'.cell? ⟨w.heap.size, 3, none⟩ = some (.int .i64 b) ∧ w'.cell? ⟨w.heap.size, 4, none⟩ = some (.int .i64 c) ∧ w'.cell? ⟨w.heap.size, 5, none⟩ = some (.int .i64 r) ∧ w'.cell? ⟨w.heap.size, 6, none⟩ = some (.int .i64 m)) (first | exact ⟨HB7.out.c0, HB7.out.c1, HB7.out.c2, HB7.out.c3, HB7.out.c4, HB7.out.c5, HB7.out.c6⟩ | exact ⟨HB.out.c0, HB.out.c1, HB.out.c2, HB.out.c3, HB.out.c4, HB.out.c5, HB.out.c6⟩ | go_keep)
    (first | (go_at_call 70; (refine (HF.out _).mono ?_); rintro e w7 ⟨rfl, b7⟩; have HB7 := hid (HB.out.below b7); have bw7 := hid (b0.out.drew.trans (b7.mono b0.out.size))))
  go_wp2_with fail
  go_ret
  exact ⟨rfl, bw7.out⟩
set_option maxRecDepth 10000 in
set_option maxHeartbeats 8000000 in
theorem one_yes_7 (s a b r i : Int) (hi : 0 ≤ i) (hi2 : i ≤ 16) (w : World) (T1 T2 T3 T4 : Bool) (e1 : decide (0 < plI 7 s b) = T1) (e2 : decide (inn a 0 (i - 1)) = T2) (e3 : decide (a + b ≤ i) = T3) (e4 : decide (inn r 1 64) = T4) :
    Calls Tryz.prog 52 #[vP 7 s a b 0 r 0, .int .i64 i] w fun e w' => e = .returned (.bool (T1 && T2 && T3 && T4)) ∧ Below w.heap.size w w' := by
  have e1 := hid e1
  have e2 := hid e2
  have e3 := hid e3
  have e4 := hid e4
  have B := boxed w 7 s a b 0 r 0
  obtain ⟨W, hW⟩ : ∃ W, W = w.alloc (.cells #[.int .u8 7, .int .i64 s, .int .i64 a, .int .i64 b, .int .i64 0, .int .i64 r, .int .i64 0] 38) := ⟨_, rfl⟩
  have b0 := hid (show Below w.heap.size w W by rw [hW]; exact (Below.refl _ _).alloc (Nat.le_refl _) _)
  rw [← hW] at B
  have HF := hid (fun w => fields_7 s a b 0 r 0 w)
  have HB := hid (B.below (Below.refl _ W).drew)
  obtain ⟨P, hP⟩ : ∃ P, plI 7 s b = P := ⟨_, rfl⟩
  have HQ := hid (fun w => refPlaces_any 7 s a b 0 r 0 w)
  rw [hP] at HQ
  obtain ⟨j, hj⟩ : ∃ j, i - 1 = j := ⟨_, rfl⟩
  have Hj := hid hj
  have HPe := hid hP
  clear hP
  unfold vP at HQ ⊢
  clear B
  go_enter Tryz.func52, Tryz.ntmps52
  go_wp2_with fail
  rw [← hW]
  clear hW
  go_region_held3 (fun w' => w'.cell? ⟨w.heap.size, 0, none⟩ = some (.int .u8 7) ∧ w'.cell? ⟨w.heap.size, 1, none⟩ = some (.int .i64 s) ∧ w'.cell? ⟨w.heap.size, 2, none⟩ = some (.int .i64 a) ∧ w'.cell? ⟨w.heap.size, 3, none⟩ = some (.int .i64 b) ∧ w'.cell? ⟨w.heap.size, 4, none⟩ = some (.int .i64 0) ∧ w'.cell? ⟨w.heap.size, 5, none⟩ = some (.int .i64 r) ∧ w'.cell? ⟨w.heap.size, 6, none⟩ = some (.int .i64 0)) (first | exact ⟨HB7.out.c0, HB7.out.c1, HB7.out.c2, HB7.out.c3, HB7.out.c4, HB7.out.c5, HB7.out.c6⟩ | exact ⟨HB.out.c0, HB.out.c1, HB.out.c2, HB.out.c3, HB.out.c4, HB.out.c5, HB.out.c6⟩ | go_keep)
    (first | (go_at_call 70; (refine (HF.out _).mono ?_); rintro e w7 ⟨rfl, b7⟩; have HB7 := hid (HB.out.below b7); have bw7 := hid (b0.out.drew.trans (b7.mono b0.out.size))))
  obtain ⟨c0, c1, c2, c3, c4, c5, c6⟩ := HB7.out
  go_wp2_with fail
  refine (HQ.out _).mono ?_
  rintro e w8 ⟨rfl, b8⟩
  have HB8 := hid (HB7.out.below b8)
  have bw8 := hid (bw7.out.trans (b8.mono bw7.out.size))
  clear HQ HF b8 c0 c1 c2 c3 c4 c5 c6
  obtain ⟨c0, c1, c2, c3, c4, c5, c6⟩ := HB8.out
  have A2 := hid (within_T a 0 j T2 (by rw [← Hj.out]; exact e2.out) w8)
  have A4 := hid (within_T r 1 64 T4 e4.out w8)
  cases T1
  · have hp : ¬ 0 < P := by rw [← HPe.out]; exact of_decide_eq_false e1.out
    go_wp2_with fail
    go_ret
    exact ⟨rfl, bw8.out⟩
  · have hp : 0 < P := by rw [← HPe.out]; exact of_decide_eq_true e1.out
    cases T2
    · go_wp2_with (go_at_call 72; (first | (with_reducible refine A2.out.mono ?_)); rintro e wx ⟨rfl, rfl⟩)
      go_ret
      exact ⟨rfl, bw8.out⟩
    · have hb := plI7 s b (by have := hp; rw [← HPe.out] at this; exact this)
      have ha := e2.out
      rw [decide_eq_true_eq] at ha
      obtain ⟨ha1, ha2⟩ := ha
      obtain ⟨hb1, hb2⟩ := hb
      obtain ⟨q, hq⟩ : ∃ q, a + b = q := ⟨_, rfl⟩
      have hq2 : IntKind.i64.wrap (a + b) = q := by rw [← hq]; exact IntWalk.i64_in _ (by omega)
      have Hq := hid hq
      cases T3
      · have hsum : ¬ q ≤ i := by rw [← Hq.out]; exact of_decide_eq_false e3.out
        go_wp2_with (go_at_call 72; (first | (with_reducible refine A2.out.mono ?_)); rintro e wx ⟨rfl, rfl⟩)
        go_ret
        exact ⟨rfl, bw8.out⟩
      · have hsum : q ≤ i := by rw [← Hq.out]; exact of_decide_eq_true e3.out
        cases T4
        · go_wp2_with (go_at_call 72; (first | (with_reducible refine A2.out.mono ?_) | (with_reducible refine A4.out.mono ?_)); rintro e wx ⟨rfl, rfl⟩)
          go_ret
          exact ⟨rfl, bw8.out⟩
        · go_wp2_with (go_at_call 72; (first | (with_reducible refine A2.out.mono ?_) | (with_reducible refine A4.out.mono ?_)); rintro e wx ⟨rfl, rfl⟩)
          go_ret
          exact ⟨rfl, bw8.out⟩
end Go.Proofs.YtkfdbibgjoaefaaGreatDoor
