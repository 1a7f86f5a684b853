/-
  Merged: Ze.
-/
import Derived.Test.YtkfdbibgjoaefaaGreatDoorMg01
/-
  Merged: Fta Ftc Ftd Ftf Ftg.
-/
/-
  The program's 'fits': 0 2.
-/
namespace Go.Proofs.YtkfdbibgjoaefaaGreatDoor
open Go.RowKit

set_option maxRecDepth 10000 in
set_option maxHeartbeats 8000000 in
theorem fits_k (k s a b c r m i : Int) (hi : 0 ≤ i) (hi2 : i ≤ 16) (w : World) (n1 : ¬ k = 1) (n2 : ¬ k = 2) (n3 : ¬ k = 3) (n4 : ¬ k = 4) (n5 : ¬ k = 5) (n6 : ¬ k = 6) (n7 : ¬ k = 7) (n8 : ¬ k = 8) (n9 : ¬ k = 9) :
    Calls Tryz.prog 44 #[vP k s a b c r m, .int .i64 i] w fun e w' => e = .returned (.bool (false)) ∧ Below w.heap.size w w' := by
  have he : ∀ args w, (callFunc 74 args).run Tryz.prog w = .ok (.enter 74 args) w := enters_of Tryz.func74 (by kernel_rfl) rfl
  have B := boxed w k s a b c r m
  obtain ⟨W, hW⟩ : ∃ W, W = w.alloc (.cells #[.int .u8 k, .int .i64 s, .int .i64 a, .int .i64 b, .int .i64 c, .int .i64 r, .int .i64 m] 38) := ⟨_, rfl⟩
  have b0 := hid (show Below w.heap.size w W by rw [hW]; exact (Below.refl _ _).alloc (Nat.le_refl _) _)
  rw [← hW] at B
  have HS := hid (fun w => sizes_any k w)
  have HT := hid (fun a b w => between_any a b w)
  have HB := hid B
  have c0 := B.c0
  clear B
  obtain ⟨j, hj⟩ : ∃ j, i - 1 = j := ⟨_, rfl⟩
  unfold vP
  go_enter Tryz.func44, Tryz.ntmps44
  go_wp2_with fail
  rw [← hW]
  clear hW
  refine (HS.out _).mono ?_
  rintro e w1 ⟨f1, rfl, d1, b1⟩
  have B1 := HB.out.below b1
  have D1 := hid d1
  have b1 := hid (b0.out.trans (b1.mono b0.out.size))
  clear d1 b0 HB c0
  go_wp2_with fail
  refine (HT.out _ _ _).mono ?_
  rintro e w2 ⟨f2, rfl, d2, b2⟩
  have B2 := B1.below b2
  have D1 := hid (D1.out.below b2)
  have D2 := hid d2
  have b2 := hid (b1.out.trans (b2.mono b1.out.size))
  clear d2 b1 B1
  go_wp2_with fail
  refine (HT.out _ _ _).mono ?_
  rintro e w3 ⟨f3, rfl, d3, b3⟩
  have B3 := B2.below b3
  have D1 := hid (D1.out.below b3)
  have D2 := hid (D2.out.below b3)
  have D3 := hid d3
  have b3 := hid (b2.out.trans (b3.mono b2.out.size))
  clear d3 b2 B2
  go_wp2_with fail
  refine (HT.out _ _ _).mono ?_
  rintro e w4 ⟨f4, rfl, d4, b4⟩
  have B4 := B3.below b4
  have D1 := hid (D1.out.below b4)
  have D2 := hid (D2.out.below b4)
  have D3 := hid (D3.out.below b4)
  have D4 := hid d4
  have b4 := hid (b3.out.trans (b4.mono b3.out.size))
  clear d4 b3 B3
  rename Hid (Bt w4 f1 _ _) => D1
  rename Hid (Bt w4 f2 _ _) => D2
  rename Hid (Bt w4 f3 _ _) => D3
  rename Hid (Bt w4 f4 _ _) => D4
  have HB := hid B4
  have c0 := B4.c0
  have al : ∀ o, Below w4.heap.size w4 (w4.alloc o) := fun o => (Below.refl _ _).alloc (Nat.le_refl _) o
  have a0 := fun o => keeps (al o) B4.c0
  have a1 := fun o => keeps (al o) B4.c1
  have a2 := fun o => keeps (al o) B4.c2
  have a3 := fun o => keeps (al o) B4.c3
  have a4 := fun o => keeps (al o) B4.c4
  have a5 := fun o => keeps (al o) B4.c5
  have a6 := fun o => keeps (al o) B4.c6
  clear al B4
  clear D1 D2 D3 D4 HS
  go_wp2_with fail
  have b6 : ∀ o, Below w4.heap.size w4 (w4.alloc o) := fun o => (Below.refl _ _).alloc (Nat.le_refl _) o
  have bw := hid (b4.out.trans ((b6 (.cells #[.int .u8 k, .int .i64 0, .int .i64 0, .int .i64 0, .int .i64 0, .int .i64 0, .int .i64 0] 38)).mono b4.out.size))
  go_ret
  exact ⟨rfl, bw.out⟩
set_option maxRecDepth 10000 in
set_option maxHeartbeats 8000000 in
theorem fits_2 (s a b c r m i : Int) (hi : 0 ≤ i) (hi2 : i ≤ 16) (w : World) (T1 T2 : Bool) (e1 : decide (inn s (leastS 2) (mostS 2)) = T1) (e2 : decide (inn m 1 1023) = T2) :
    Calls Tryz.prog 44 #[vP 2 s a b c r m, .int .i64 i] w fun e w' => e = .returned (.bool (T1 && T2 && decide (vP 2 s a b c r m = vP 2 s 0 0 0 0 m))) ∧ Below w.heap.size w w' := by
  have e1 := hid e1
  have e2 := hid e2
  have he : ∀ args w, (callFunc 74 args).run Tryz.prog w = .ok (.enter 74 args) w := enters_of Tryz.func74 (by kernel_rfl) rfl
  have B := boxed w 2 s a b c r m
  obtain ⟨W, hW⟩ : ∃ W, W = w.alloc (.cells #[.int .u8 2, .int .i64 s, .int .i64 a, .int .i64 b, .int .i64 c, .int .i64 r, .int .i64 m] 38) := ⟨_, rfl⟩
  have b0 := hid (show Below w.heap.size w W by rw [hW]; exact (Below.refl _ _).alloc (Nat.le_refl _) _)
  rw [← hW] at B
  have HS := hid (fun w => sizes_any 2 w)
  have HT := hid (fun a b w => between_any a b w)
  have HB := hid B
  have c0 := B.c0
  clear B
  obtain ⟨j, hj⟩ : ∃ j, i - 1 = j := ⟨_, rfl⟩
  have Hj := hid hj
  unfold vP
  go_enter Tryz.func44, Tryz.ntmps44
  go_wp2_with fail
  rw [← hW]
  clear hW
  refine (HS.out _).mono ?_
  rintro e w1 ⟨f1, rfl, d1, b1⟩
  have B1 := HB.out.below b1
  have D1 := hid d1
  have b1 := hid (b0.out.trans (b1.mono b0.out.size))
  clear d1 b0 HB c0
  go_wp2_with fail
  refine (HT.out _ _ _).mono ?_
  rintro e w2 ⟨f2, rfl, d2, b2⟩
  have B2 := B1.below b2
  have D1 := hid (D1.out.below b2)
  have D2 := hid d2
  have b2 := hid (b1.out.trans (b2.mono b1.out.size))
  clear d2 b1 B1
  go_wp2_with fail
  refine (HT.out _ _ _).mono ?_
  rintro e w3 ⟨f3, rfl, d3, b3⟩
  have B3 := B2.below b3
  have D1 := hid (D1.out.below b3)
  have D2 := hid (D2.out.below b3)
  have D3 := hid d3
  have b3 := hid (b2.out.trans (b3.mono b2.out.size))
  clear d3 b2 B2
  go_wp2_with fail
  refine (HT.out _ _ _).mono ?_
  rintro e w4 ⟨f4, rfl, d4, b4⟩
  have B4 := B3.below b4
  have D1 := hid (D1.out.below b4)
  have D2 := hid (D2.out.below b4)
  have D3 := hid (D3.out.below b4)
  have D4 := hid d4
  have b4 := hid (b3.out.trans (b4.mono b3.out.size))
  clear d4 b3 B3
  rename Hid (Bt w4 f1 _ _) => D1
  rename Hid (Bt w4 f2 _ _) => D2
  rename Hid (Bt w4 f3 _ _) => D3
  rename Hid (Bt w4 f4 _ _) => D4
  have HB := hid B4
  have c0 := B4.c0
  have al : ∀ o, Below w4.heap.size w4 (w4.alloc o) := fun o => (Below.refl _ _).alloc (Nat.le_refl _) o
  have a0 := fun o => keeps (al o) B4.c0
  have a1 := fun o => keeps (al o) B4.c1
  have a2 := fun o => keeps (al o) B4.c2
  have a3 := fun o => keeps (al o) B4.c3
  have a4 := fun o => keeps (al o) B4.c4
  have a5 := fun o => keeps (al o) B4.c5
  have a6 := fun o => keeps (al o) B4.c6
  clear al B4
  obtain ⟨g1, h1, rfl, x1, y1⟩ := D1.out
  obtain ⟨g2, h2, rfl, x2, y2⟩ := D2.out
  obtain ⟨g3, h3, rfl, x3, y3⟩ := D3.out
  obtain ⟨g4, h4, rfl, x4, y4⟩ := D4.out
  have X1 := hid x1
  have X2 := hid x2
  have X3 := hid x3
  have X4 := hid x4
  have Y1 := hid y1
  have Y2 := hid y2
  have Y3 := hid y3
  have Y4 := hid y4
  clear x1 x2 x3 x4 y1 y2 y3 y4 D1 D2 D3 D4 HS
  go_wp2_with fail
  go_region
  obtain ⟨W6, hW6⟩ : ∃ W6, W6 = (w4.alloc (.cells #[.int .u8 2, .int .i64 s, .int .i64 0, .int .i64 0, .int .i64 0, .int .i64 0, .int .i64 m] 38)).drew := ⟨_, rfl⟩
  rw [← hW6]
  have b6 : Below w4.heap.size w4 W6 := by rw [hW6]; exact ((Below.refl _ _).alloc (Nat.le_refl _) _).drew
  have N6 : BoxAt W6 w4.heap.size 2 s 0 0 0 0 m := by
    rw [hW6]; exact (boxed w4 2 s 0 0 0 0 m).below (Below.refl _ _).drew
  have P6 := HB.out.below b6
  have x1 := keeps b6 X1.out
  have x2 := keeps b6 X2.out
  have x3 := keeps b6 X3.out
  have x4 := keeps b6 X4.out
  have y1 := keeps b6 Y1.out
  have y2 := keeps b6 Y2.out
  have y3 := keeps b6 Y3.out
  have y4 := keeps b6 Y4.out
  have bw := hid (b4.out.trans (b6.mono b4.out.size))
  have HP := hid P6
  have HN := hid N6
  have HX1 := hid x1
  have HX2 := hid x2
  have HX3 := hid x3
  have HX4 := hid x4
  have HY1 := hid y1
  have HY2 := hid y2
  have HY3 := hid y3
  have HY4 := hid y4
  have G4 := hid (rfl : w4.heap.size = w4.heap.size)
  clear hW6 b6 X1 X2 X3 X4 Y1 Y2 Y3 Y4 HB a0 a1 a2 a3 a4 a5 a6 c0 x1 x2 x3 x4 y1 y2 y3 y4 P6 N6
  have A1 := hid (asks_T W6 g1 h1 _ _ s T1 e1.out HX1.out HY1.out)
  have A2 := hid (asks_T W6 g4 h4 _ _ m T2 e2.out HX4.out HY4.out)
  obtain ⟨c0, c1, c2, c3, c4, c5, c6⟩ := HP.out
  obtain ⟨n0, n1, n2, n3, n4, n5, n6⟩ := HN.out
  cases T1
  · go_wp2_with (go_at_call 74; (first | (with_reducible refine A1.out.mono ?_)); rintro e w7 ⟨rfl, rfl⟩)
    go_ret
    exact ⟨rfl, bw.out⟩
  · cases T2
    · go_wp2_with (go_at_call 74; (first | (with_reducible refine A1.out.mono ?_) | (with_reducible refine A2.out.mono ?_)); rintro e w7 ⟨rfl, rfl⟩)
      go_ret
      exact ⟨rfl, bw.out⟩
    · go_wp2_with (go_at_call 74; (first | (with_reducible refine A1.out.mono ?_) | (with_reducible refine A2.out.mono ?_)); rintro e w7 ⟨rfl, rfl⟩)
      all_goals
        go_ret
        exact ⟨congrArg (fun x => Ending.returned (.bool x)) (by simp [*]), bw.out⟩
end Go.Proofs.YtkfdbibgjoaefaaGreatDoor
/-
  The program's 'fits': 5.
-/
namespace Go.Proofs.YtkfdbibgjoaefaaGreatDoor
open Go.RowKit

set_option maxRecDepth 10000 in
set_option maxHeartbeats 8000000 in
theorem fits_5 (s a b c r m i : Int) (hi : 0 ≤ i) (hi2 : i ≤ 16) (w : World) (T1 T2 T3 : Bool) (e1 : decide (inn a 0 (i - 1)) = T1) (e2 : decide (inn b 0 (i - 1)) = T2) (e3 : decide (inn c 0 256) = T3) :
    Calls Tryz.prog 44 #[vP 5 s a b c r m, .int .i64 i] w fun e w' => e = .returned (.bool (T1 && T2 && T3 && decide (vP 5 s a b c r m = vP 5 0 a b c 0 0))) ∧ Below w.heap.size w w' := by
  have e1 := hid e1
  have e2 := hid e2
  have e3 := hid e3
  have he : ∀ args w, (callFunc 74 args).run Tryz.prog w = .ok (.enter 74 args) w := enters_of Tryz.func74 (by kernel_rfl) rfl
  have B := boxed w 5 s a b c r m
  obtain ⟨W, hW⟩ : ∃ W, W = w.alloc (.cells #[.int .u8 5, .int .i64 s, .int .i64 a, .int .i64 b, .int .i64 c, .int .i64 r, .int .i64 m] 38) := ⟨_, rfl⟩
  have b0 := hid (show Below w.heap.size w W by rw [hW]; exact (Below.refl _ _).alloc (Nat.le_refl _) _)
  rw [← hW] at B
  have HS := hid (fun w => sizes_any 5 w)
  have HT := hid (fun a b w => between_any a b w)
  have HB := hid B
  have c0 := B.c0
  clear B
  obtain ⟨j, hj⟩ : ∃ j, i - 1 = j := ⟨_, rfl⟩
  have Hj := hid hj
  unfold vP
  go_enter Tryz.func44, Tryz.ntmps44
  go_wp2_with fail
  rw [← hW]
  clear hW
  refine (HS.out _).mono ?_
  rintro e w1 ⟨f1, rfl, d1, b1⟩
  have B1 := HB.out.below b1
  have D1 := hid d1
  have b1 := hid (b0.out.trans (b1.mono b0.out.size))
  clear d1 b0 HB c0
  go_wp2_with fail
  refine (HT.out _ _ _).mono ?_
  rintro e w2 ⟨f2, rfl, d2, b2⟩
  have B2 := B1.below b2
  have D1 := hid (D1.out.below b2)
  have D2 := hid d2
  have b2 := hid (b1.out.trans (b2.mono b1.out.size))
  clear d2 b1 B1
  go_wp2_with fail
  refine (HT.out _ _ _).mono ?_
  rintro e w3 ⟨f3, rfl, d3, b3⟩
  have B3 := B2.below b3
  have D1 := hid (D1.out.below b3)
  have D2 := hid (D2.out.below b3)
  have D3 := hid d3
  have b3 := hid (b2.out.trans (b3.mono b2.out.size))
  clear d3 b2 B2
  go_wp2_with fail
  refine (HT.out _ _ _).mono ?_
  rintro e w4 ⟨f4, rfl, d4, b4⟩
  have B4 := B3.below b4
  have D1 := hid (D1.out.below b4)
  have D2 := hid (D2.out.below b4)
  have D3 := hid (D3.out.below b4)
  have D4 := hid d4
  have b4 := hid (b3.out.trans (b4.mono b3.out.size))
  clear d4 b3 B3
  rename Hid (Bt w4 f1 _ _) => D1
  rename Hid (Bt w4 f2 _ _) => D2
  rename Hid (Bt w4 f3 _ _) => D3
  rename Hid (Bt w4 f4 _ _) => D4
  have HB := hid B4
  have c0 := B4.c0
  have al : ∀ o, Below w4.heap.size w4 (w4.alloc o) := fun o => (Below.refl _ _).alloc (Nat.le_refl _) o
  have a0 := fun o => keeps (al o) B4.c0
  have a1 := fun o => keeps (al o) B4.c1
  have a2 := fun o => keeps (al o) B4.c2
  have a3 := fun o => keeps (al o) B4.c3
  have a4 := fun o => keeps (al o) B4.c4
  have a5 := fun o => keeps (al o) B4.c5
  have a6 := fun o => keeps (al o) B4.c6
  clear al B4
  obtain ⟨g1, h1, rfl, x1, y1⟩ := D1.out
  obtain ⟨g2, h2, rfl, x2, y2⟩ := D2.out
  obtain ⟨g3, h3, rfl, x3, y3⟩ := D3.out
  obtain ⟨g4, h4, rfl, x4, y4⟩ := D4.out
  have X1 := hid x1
  have X2 := hid x2
  have X3 := hid x3
  have X4 := hid x4
  have Y1 := hid y1
  have Y2 := hid y2
  have Y3 := hid y3
  have Y4 := hid y4
  clear x1 x2 x3 x4 y1 y2 y3 y4 D1 D2 D3 D4 HS
  go_wp2_with fail
  go_region
  obtain ⟨W6, hW6⟩ : ∃ W6, W6 = (w4.alloc (.cells #[.int .u8 5, .int .i64 0, .int .i64 a, .int .i64 b, .int .i64 c, .int .i64 0, .int .i64 0] 38)).drew := ⟨_, rfl⟩
  rw [← hW6]
  have b6 : Below w4.heap.size w4 W6 := by rw [hW6]; exact ((Below.refl _ _).alloc (Nat.le_refl _) _).drew
  have N6 : BoxAt W6 w4.heap.size 5 0 a b c 0 0 := by
    rw [hW6]; exact (boxed w4 5 0 a b c 0 0).below (Below.refl _ _).drew
  have P6 := HB.out.below b6
  have x1 := keeps b6 X1.out
  have x2 := keeps b6 X2.out
  have x3 := keeps b6 X3.out
  have x4 := keeps b6 X4.out
  have y1 := keeps b6 Y1.out
  have y2 := keeps b6 Y2.out
  have y3 := keeps b6 Y3.out
  have y4 := keeps b6 Y4.out
  have bw := hid (b4.out.trans (b6.mono b4.out.size))
  have HP := hid P6
  have HN := hid N6
  have HX1 := hid x1
  have HX2 := hid x2
  have HX3 := hid x3
  have HX4 := hid x4
  have HY1 := hid y1
  have HY2 := hid y2
  have HY3 := hid y3
  have HY4 := hid y4
  have G4 := hid (rfl : w4.heap.size = w4.heap.size)
  clear hW6 b6 X1 X2 X3 X4 Y1 Y2 Y3 Y4 HB a0 a1 a2 a3 a4 a5 a6 c0 x1 x2 x3 x4 y1 y2 y3 y4 P6 N6
  cases T1
  · have A1 := hid (asks_Q W6 g2 h2 _ _ a false (by rw [← Hj.out]; exact e1.out) HX2.out HY2.out)
    obtain ⟨c0, c1, c2, c3, c4, c5, c6⟩ := HP.out
    go_wp2_with fail
    go_quiet (first | (with_reducible exact A1.out _))
    go_wp2_with fail
    go_ret
    exact ⟨rfl, bw.out.trans (Below.drewN _ _ _)⟩
  · cases T2
    · have A1 := hid (asks_Q W6 g2 h2 _ _ a true (by rw [← Hj.out]; exact e1.out) HX2.out HY2.out)
      have A2 := hid (asks_Q W6 g2 h2 _ _ b false (by rw [← Hj.out]; exact e2.out) HX2.out HY2.out)
      obtain ⟨c0, c1, c2, c3, c4, c5, c6⟩ := HP.out
      go_wp2_with fail
      go_quiet (first | (with_reducible exact A1.out _) | (with_reducible exact A2.out _))
      go_wp2_with fail
      go_ret
      exact ⟨rfl, bw.out.trans (Below.drewN _ _ _)⟩
    · cases T3
      · replace HP := hid (HP.out.below (Below.refl _ W6).drew)
        replace HN := hid (HN.out.below (Below.refl _ W6).drew)
        replace bw := hid (bw.out.drew)
        have A1 := hid (asks_T W6.drew g2 h2 _ _ a true (by rw [← Hj.out]; exact e1.out) HX2.out HY2.out)
        have A2 := hid (asks_T W6.drew g2 h2 _ _ b true (by rw [← Hj.out]; exact e2.out) HX2.out HY2.out)
        go_wp2_with fail
        go_region_held3 (fun w' => w'.cell? ⟨w.heap.size, 2, none⟩ = some (.int .i64 a) ∧ w'.cell? ⟨w.heap.size, 3, none⟩ = some (.int .i64 b) ∧ w'.cell? ⟨w.heap.size, 4, none⟩ = some (.int .i64 c)) (first | exact ⟨HP7.out.c2, HP7.out.c3, HP7.out.c4⟩ | exact ⟨HP.out.c2, HP.out.c3, HP.out.c4⟩ | go_keep)
          (first | (go_at_call 65; (with_reducible refine (HT.out 0 256 _).mono ?_); rintro e w7 ⟨f, rfl, ⟨u7, v7, rfl, z7, y7⟩, b7⟩; have HP7 := hid (HP.out.below b7); have HN7 := hid (HN.out.below b7); have bw7 := hid (bw.out.trans (b7.mono bw.out.size)); have A3 := hid (asks_T w7 u7 v7 _ _ c false e3.out z7 y7)) | (go_at_call 74; (first | (with_reducible refine A1.out.mono ?_) | (with_reducible refine A2.out.mono ?_) | (with_reducible refine A3.out.mono ?_)); rintro e wx ⟨rfl, rfl⟩))
        obtain ⟨c0, c1, c2, c3, c4, c5, c6⟩ := HP7.out
        obtain ⟨n0, n1, n2, n3, n4, n5, n6⟩ := HN7.out
        go_wp2_with fail
        go_ret
        exact ⟨rfl, bw7.out⟩
      · replace HP := hid (HP.out.below (Below.refl _ W6).drew)
        replace HN := hid (HN.out.below (Below.refl _ W6).drew)
        replace bw := hid (bw.out.drew)
        have A1 := hid (asks_T W6.drew g2 h2 _ _ a true (by rw [← Hj.out]; exact e1.out) HX2.out HY2.out)
        have A2 := hid (asks_T W6.drew g2 h2 _ _ b true (by rw [← Hj.out]; exact e2.out) HX2.out HY2.out)
        go_wp2_with fail
        go_region_held3 (fun w' => w'.cell? ⟨w.heap.size, 2, none⟩ = some (.int .i64 a) ∧ w'.cell? ⟨w.heap.size, 3, none⟩ = some (.int .i64 b) ∧ w'.cell? ⟨w.heap.size, 4, none⟩ = some (.int .i64 c)) (first | exact ⟨HP7.out.c2, HP7.out.c3, HP7.out.c4⟩ | exact ⟨HP.out.c2, HP.out.c3, HP.out.c4⟩ | go_keep)
          (first | (go_at_call 65; (with_reducible refine (HT.out 0 256 _).mono ?_); rintro e w7 ⟨f, rfl, ⟨u7, v7, rfl, z7, y7⟩, b7⟩; have HP7 := hid (HP.out.below b7); have HN7 := hid (HN.out.below b7); have bw7 := hid (bw.out.trans (b7.mono bw.out.size)); have A3 := hid (asks_T w7 u7 v7 _ _ c true e3.out z7 y7)) | (go_at_call 74; (first | (with_reducible refine A1.out.mono ?_) | (with_reducible refine A2.out.mono ?_) | (with_reducible refine A3.out.mono ?_)); rintro e wx ⟨rfl, rfl⟩))
        obtain ⟨c0, c1, c2, c3, c4, c5, c6⟩ := HP7.out
        obtain ⟨n0, n1, n2, n3, n4, n5, n6⟩ := HN7.out
        go_wp2_with fail
        all_goals
          go_ret
          exact ⟨congrArg (fun x => Ending.returned (.bool x)) (by simp [*]), bw7.out⟩
end Go.Proofs.YtkfdbibgjoaefaaGreatDoor
/-
  The program's 'fits': 6.
-/
namespace Go.Proofs.YtkfdbibgjoaefaaGreatDoor
open Go.RowKit

set_option maxRecDepth 10000 in
set_option maxHeartbeats 8000000 in
theorem fits_6 (s a b c r m i : Int) (hi : 0 ≤ i) (hi2 : i ≤ 16) (w : World) (T1 T2 T3 T4 : Bool) (e1 : decide (inn s (leastS 6) (mostS 6)) = T1) (e2 : decide (inn a 0 (i - 1)) = T2) (e3 : decide (inn b 0 (i - 1)) = T3) (e4 : decide (inn r 1 64) = T4) :
    Calls Tryz.prog 44 #[vP 6 s a b c r m, .int .i64 i] w fun e w' => e = .returned (.bool (T1 && T2 && T3 && T4 && decide (vP 6 s a b c r m = vP 6 s a b 0 r 0))) ∧ Below w.heap.size w w' := by
  have e1 := hid e1
  have e2 := hid e2
  have e3 := hid e3
  have e4 := hid e4
  have he : ∀ args w, (callFunc 74 args).run Tryz.prog w = .ok (.enter 74 args) w := enters_of Tryz.func74 (by kernel_rfl) rfl
  have B := boxed w 6 s a b c r m
  obtain ⟨W, hW⟩ : ∃ W, W = w.alloc (.cells #[.int .u8 6, .int .i64 s, .int .i64 a, .int .i64 b, .int .i64 c, .int .i64 r, .int .i64 m] 38) := ⟨_, rfl⟩
  have b0 := hid (show Below w.heap.size w W by rw [hW]; exact (Below.refl _ _).alloc (Nat.le_refl _) _)
  rw [← hW] at B
  have HS := hid (fun w => sizes_any 6 w)
  have HT := hid (fun a b w => between_any a b w)
  have HB := hid B
  have c0 := B.c0
  clear B
  obtain ⟨j, hj⟩ : ∃ j, i - 1 = j := ⟨_, rfl⟩
  have Hj := hid hj
  unfold vP
  go_enter Tryz.func44, Tryz.ntmps44
  go_wp2_with fail
  rw [← hW]
  clear hW
  refine (HS.out _).mono ?_
  rintro e w1 ⟨f1, rfl, d1, b1⟩
  have B1 := HB.out.below b1
  have D1 := hid d1
  have b1 := hid (b0.out.trans (b1.mono b0.out.size))
  clear d1 b0 HB c0
  go_wp2_with fail
  refine (HT.out _ _ _).mono ?_
  rintro e w2 ⟨f2, rfl, d2, b2⟩
  have B2 := B1.below b2
  have D1 := hid (D1.out.below b2)
  have D2 := hid d2
  have b2 := hid (b1.out.trans (b2.mono b1.out.size))
  clear d2 b1 B1
  go_wp2_with fail
  refine (HT.out _ _ _).mono ?_
  rintro e w3 ⟨f3, rfl, d3, b3⟩
  have B3 := B2.below b3
  have D1 := hid (D1.out.below b3)
  have D2 := hid (D2.out.below b3)
  have D3 := hid d3
  have b3 := hid (b2.out.trans (b3.mono b2.out.size))
  clear d3 b2 B2
  go_wp2_with fail
  refine (HT.out _ _ _).mono ?_
  rintro e w4 ⟨f4, rfl, d4, b4⟩
  have B4 := B3.below b4
  have D1 := hid (D1.out.below b4)
  have D2 := hid (D2.out.below b4)
  have D3 := hid (D3.out.below b4)
  have D4 := hid d4
  have b4 := hid (b3.out.trans (b4.mono b3.out.size))
  clear d4 b3 B3
  rename Hid (Bt w4 f1 _ _) => D1
  rename Hid (Bt w4 f2 _ _) => D2
  rename Hid (Bt w4 f3 _ _) => D3
  rename Hid (Bt w4 f4 _ _) => D4
  have HB := hid B4
  have c0 := B4.c0
  have al : ∀ o, Below w4.heap.size w4 (w4.alloc o) := fun o => (Below.refl _ _).alloc (Nat.le_refl _) o
  have a0 := fun o => keeps (al o) B4.c0
  have a1 := fun o => keeps (al o) B4.c1
  have a2 := fun o => keeps (al o) B4.c2
  have a3 := fun o => keeps (al o) B4.c3
  have a4 := fun o => keeps (al o) B4.c4
  have a5 := fun o => keeps (al o) B4.c5
  have a6 := fun o => keeps (al o) B4.c6
  clear al B4
  obtain ⟨g1, h1, rfl, x1, y1⟩ := D1.out
  obtain ⟨g2, h2, rfl, x2, y2⟩ := D2.out
  obtain ⟨g3, h3, rfl, x3, y3⟩ := D3.out
  obtain ⟨g4, h4, rfl, x4, y4⟩ := D4.out
  have X1 := hid x1
  have X2 := hid x2
  have X3 := hid x3
  have X4 := hid x4
  have Y1 := hid y1
  have Y2 := hid y2
  have Y3 := hid y3
  have Y4 := hid y4
  clear x1 x2 x3 x4 y1 y2 y3 y4 D1 D2 D3 D4 HS
  go_wp2_with fail
  go_region
  obtain ⟨W6, hW6⟩ : ∃ W6, W6 = (w4.alloc (.cells #[.int .u8 6, .int .i64 s, .int .i64 a, .int .i64 b, .int .i64 0, .int .i64 r, .int .i64 0] 38)).drew := ⟨_, rfl⟩
  rw [← hW6]
  have b6 : Below w4.heap.size w4 W6 := by rw [hW6]; exact ((Below.refl _ _).alloc (Nat.le_refl _) _).drew
  have N6 : BoxAt W6 w4.heap.size 6 s a b 0 r 0 := by
    rw [hW6]; exact (boxed w4 6 s a b 0 r 0).below (Below.refl _ _).drew
  have P6 := HB.out.below b6
  have x1 := keeps b6 X1.out
  have x2 := keeps b6 X2.out
  have x3 := keeps b6 X3.out
  have x4 := keeps b6 X4.out
  have y1 := keeps b6 Y1.out
  have y2 := keeps b6 Y2.out
  have y3 := keeps b6 Y3.out
  have y4 := keeps b6 Y4.out
  have bw := hid (b4.out.trans (b6.mono b4.out.size))
  have HP := hid P6
  have HN := hid N6
  have HX1 := hid x1
  have HX2 := hid x2
  have HX3 := hid x3
  have HX4 := hid x4
  have HY1 := hid y1
  have HY2 := hid y2
  have HY3 := hid y3
  have HY4 := hid y4
  have G4 := hid (rfl : w4.heap.size = w4.heap.size)
  clear hW6 b6 X1 X2 X3 X4 Y1 Y2 Y3 Y4 HB a0 a1 a2 a3 a4 a5 a6 c0 x1 x2 x3 x4 y1 y2 y3 y4 P6 N6
  have A1 := hid (asks_T W6 g1 h1 _ _ s T1 e1.out HX1.out HY1.out)
  have A2 := hid (asks_T W6 g2 h2 _ _ a T2 (by rw [← Hj.out]; exact e2.out) HX2.out HY2.out)
  have A3 := hid (asks_T W6 g2 h2 _ _ b T3 (by rw [← Hj.out]; exact e3.out) HX2.out HY2.out)
  have A4 := hid (asks_T W6 g3 h3 _ _ r T4 e4.out HX3.out HY3.out)
  obtain ⟨c0, c1, c2, c3, c4, c5, c6⟩ := HP.out
  obtain ⟨n0, n1, n2, n3, n4, n5, n6⟩ := HN.out
  cases T1
  · go_wp2_with (go_at_call 74; (first | (with_reducible refine A1.out.mono ?_)); rintro e w7 ⟨rfl, rfl⟩)
    go_ret
    exact ⟨rfl, bw.out⟩
  · cases T2
    · go_wp2_with (go_at_call 74; (first | (with_reducible refine A1.out.mono ?_) | (with_reducible refine A2.out.mono ?_)); rintro e w7 ⟨rfl, rfl⟩)
      go_ret
      exact ⟨rfl, bw.out⟩
    · cases T3
      · go_wp2_with (go_at_call 74; (first | (with_reducible refine A1.out.mono ?_) | (with_reducible refine A2.out.mono ?_) | (with_reducible refine A3.out.mono ?_)); rintro e w7 ⟨rfl, rfl⟩)
        go_ret
        exact ⟨rfl, bw.out⟩
      · cases T4
        · go_wp2_with (go_at_call 74; (first | (with_reducible refine A1.out.mono ?_) | (with_reducible refine A2.out.mono ?_) | (with_reducible refine A3.out.mono ?_) | (with_reducible refine A4.out.mono ?_)); rintro e w7 ⟨rfl, rfl⟩)
          go_ret
          exact ⟨rfl, bw.out⟩
        · go_wp2_with (go_at_call 74; (first | (with_reducible refine A1.out.mono ?_) | (with_reducible refine A2.out.mono ?_) | (with_reducible refine A3.out.mono ?_) | (with_reducible refine A4.out.mono ?_)); rintro e w7 ⟨rfl, rfl⟩)
          all_goals
            go_ret
            exact ⟨congrArg (fun x => Ending.returned (.bool x)) (by simp [*]), bw.out⟩
end Go.Proofs.YtkfdbibgjoaefaaGreatDoor
/-
  The program's 'fits': 9.
-/
namespace Go.Proofs.YtkfdbibgjoaefaaGreatDoor
open Go.RowKit

set_option maxRecDepth 10000 in
set_option maxHeartbeats 8000000 in
theorem fits_9 (s a b c r m i : Int) (hi : 0 ≤ i) (hi2 : i ≤ 16) (w : World) (T1 T2 T3 : Bool) (e1 : decide (inn s (leastS 9) (mostS 9)) = T1) (e2 : decide (inn a 0 (i - 1)) = T2) (e3 : decide (inn m 1 1023) = T3) :
    Calls Tryz.prog 44 #[vP 9 s a b c r m, .int .i64 i] w fun e w' => e = .returned (.bool (T1 && T2 && T3 && decide (vP 9 s a b c r m = vP 9 s a 0 0 0 m))) ∧ Below w.heap.size w w' := by
  have e1 := hid e1
  have e2 := hid e2
  have e3 := hid e3
  have he : ∀ args w, (callFunc 74 args).run Tryz.prog w = .ok (.enter 74 args) w := enters_of Tryz.func74 (by kernel_rfl) rfl
  have B := boxed w 9 s a b c r m
  obtain ⟨W, hW⟩ : ∃ W, W = w.alloc (.cells #[.int .u8 9, .int .i64 s, .int .i64 a, .int .i64 b, .int .i64 c, .int .i64 r, .int .i64 m] 38) := ⟨_, rfl⟩
  have b0 := hid (show Below w.heap.size w W by rw [hW]; exact (Below.refl _ _).alloc (Nat.le_refl _) _)
  rw [← hW] at B
  have HS := hid (fun w => sizes_any 9 w)
  have HT := hid (fun a b w => between_any a b w)
  have HB := hid B
  have c0 := B.c0
  clear B
  obtain ⟨j, hj⟩ : ∃ j, i - 1 = j := ⟨_, rfl⟩
  have Hj := hid hj
  unfold vP
  go_enter Tryz.func44, Tryz.ntmps44
  go_wp2_with fail
  rw [← hW]
  clear hW
  refine (HS.out _).mono ?_
  rintro e w1 ⟨f1, rfl, d1, b1⟩
  have B1 := HB.out.below b1
  have D1 := hid d1
  have b1 := hid (b0.out.trans (b1.mono b0.out.size))
  clear d1 b0 HB c0
  go_wp2_with fail
  refine (HT.out _ _ _).mono ?_
  rintro e w2 ⟨f2, rfl, d2, b2⟩
  have B2 := B1.below b2
  have D1 := hid (D1.out.below b2)
  have D2 := hid d2
  have b2 := hid (b1.out.trans (b2.mono b1.out.size))
  clear d2 b1 B1
  go_wp2_with fail
  refine (HT.out _ _ _).mono ?_
  rintro e w3 ⟨f3, rfl, d3, b3⟩
  have B3 := B2.below b3
  have D1 := hid (D1.out.below b3)
  have D2 := hid (D2.out.below b3)
  have D3 := hid d3
  have b3 := hid (b2.out.trans (b3.mono b2.out.size))
  clear d3 b2 B2
  go_wp2_with fail
  refine (HT.out _ _ _).mono ?_
  rintro e w4 ⟨f4, rfl, d4, b4⟩
  have B4 := B3.below b4
  have D1 := hid (D1.out.below b4)
  have D2 := hid (D2.out.below b4)
  have D3 := hid (D3.out.below b4)
  have D4 := hid d4
  have b4 := hid (b3.out.trans (b4.mono b3.out.size))
  clear d4 b3 B3
  rename Hid (Bt w4 f1 _ _) => D1
  rename Hid (Bt w4 f2 _ _) => D2
  rename Hid (Bt w4 f3 _ _) => D3
  rename Hid (Bt w4 f4 _ _) => D4
  have HB := hid B4
  have c0 := B4.c0
  have al : ∀ o, Below w4.heap.size w4 (w4.alloc o) := fun o => (Below.refl _ _).alloc (Nat.le_refl _) o
  have a0 := fun o => keeps (al o) B4.c0
  have a1 := fun o => keeps (al o) B4.c1
  have a2 := fun o => keeps (al o) B4.c2
  have a3 := fun o => keeps (al o) B4.c3
  have a4 := fun o => keeps (al o) B4.c4
  have a5 := fun o => keeps (al o) B4.c5
  have a6 := fun o => keeps (al o) B4.c6
  clear al B4
  obtain ⟨g1, h1, rfl, x1, y1⟩ := D1.out
  obtain ⟨g2, h2, rfl, x2, y2⟩ := D2.out
  obtain ⟨g3, h3, rfl, x3, y3⟩ := D3.out
  obtain ⟨g4, h4, rfl, x4, y4⟩ := D4.out
  have X1 := hid x1
  have X2 := hid x2
  have X3 := hid x3
  have X4 := hid x4
  have Y1 := hid y1
  have Y2 := hid y2
  have Y3 := hid y3
  have Y4 := hid y4
  clear x1 x2 x3 x4 y1 y2 y3 y4 D1 D2 D3 D4 HS
  go_wp2_with fail
  go_region
  obtain ⟨W6, hW6⟩ : ∃ W6, W6 = (w4.alloc (.cells #[.int .u8 9, .int .i64 s, .int .i64 a, .int .i64 0, .int .i64 0, .int .i64 0, .int .i64 m] 38)).drew := ⟨_, rfl⟩
  rw [← hW6]
  have b6 : Below w4.heap.size w4 W6 := by rw [hW6]; exact ((Below.refl _ _).alloc (Nat.le_refl _) _).drew
  have N6 : BoxAt W6 w4.heap.size 9 s a 0 0 0 m := by
    rw [hW6]; exact (boxed w4 9 s a 0 0 0 m).below (Below.refl _ _).drew
  have P6 := HB.out.below b6
  have x1 := keeps b6 X1.out
  have x2 := keeps b6 X2.out
  have x3 := keeps b6 X3.out
  have x4 := keeps b6 X4.out
  have y1 := keeps b6 Y1.out
  have y2 := keeps b6 Y2.out
  have y3 := keeps b6 Y3.out
  have y4 := keeps b6 Y4.out
  have bw := hid (b4.out.trans (b6.mono b4.out.size))
  have HP := hid P6
  have HN := hid N6
  have HX1 := hid x1
  have HX2 := hid x2
  have HX3 := hid x3
  have HX4 := hid x4
  have HY1 := hid y1
  have HY2 := hid y2
  have HY3 := hid y3
  have HY4 := hid y4
  have G4 := hid (rfl : w4.heap.size = w4.heap.size)
  clear hW6 b6 X1 X2 X3 X4 Y1 Y2 Y3 Y4 HB a0 a1 a2 a3 a4 a5 a6 c0 x1 x2 x3 x4 y1 y2 y3 y4 P6 N6
  have A1 := hid (asks_T W6 g1 h1 _ _ s T1 e1.out HX1.out HY1.out)
  have A2 := hid (asks_T W6 g2 h2 _ _ a T2 (by rw [← Hj.out]; exact e2.out) HX2.out HY2.out)
  have A3 := hid (asks_T W6 g4 h4 _ _ m T3 e3.out HX4.out HY4.out)
  obtain ⟨c0, c1, c2, c3, c4, c5, c6⟩ := HP.out
  obtain ⟨n0, n1, n2, n3, n4, n5, n6⟩ := HN.out
  cases T1
  · go_wp2_with (go_at_call 74; (first | (with_reducible refine A1.out.mono ?_)); rintro e w7 ⟨rfl, rfl⟩)
    go_ret
    exact ⟨rfl, bw.out⟩
  · cases T2
    · go_wp2_with (go_at_call 74; (first | (with_reducible refine A1.out.mono ?_) | (with_reducible refine A2.out.mono ?_)); rintro e w7 ⟨rfl, rfl⟩)
      go_ret
      exact ⟨rfl, bw.out⟩
    · cases T3
      · go_wp2_with (go_at_call 74; (first | (with_reducible refine A1.out.mono ?_) | (with_reducible refine A2.out.mono ?_) | (with_reducible refine A3.out.mono ?_)); rintro e w7 ⟨rfl, rfl⟩)
        go_ret
        exact ⟨rfl, bw.out⟩
      · go_wp2_with (go_at_call 74; (first | (with_reducible refine A1.out.mono ?_) | (with_reducible refine A2.out.mono ?_) | (with_reducible refine A3.out.mono ?_)); rintro e w7 ⟨rfl, rfl⟩)
        all_goals
          go_ret
          exact ⟨congrArg (fun x => Ending.returned (.bool x)) (by simp [*]), bw.out⟩
end Go.Proofs.YtkfdbibgjoaefaaGreatDoor
/-
  The program's 'fits': 1.
-/
namespace Go.Proofs.YtkfdbibgjoaefaaGreatDoor
open Go.RowKit

set_option maxRecDepth 10000 in
set_option maxHeartbeats 8000000 in
theorem fits_1 (s a b c r m i : Int) (hi : 0 ≤ i) (hi2 : i ≤ 16) (w : World) (T1 : Bool) (e1 : decide (inn c (-2047) 2047) = T1) :
    Calls Tryz.prog 44 #[vP 1 s a b c r m, .int .i64 i] w fun e w' => e = .returned (.bool (T1 && decide (vP 1 s a b c r m = vP 1 0 0 0 c 0 0))) ∧ Below w.heap.size w w' := by
  have e1 := hid e1
  have he : ∀ args w, (callFunc 74 args).run Tryz.prog w = .ok (.enter 74 args) w := enters_of Tryz.func74 (by kernel_rfl) rfl
  have B := boxed w 1 s a b c r m
  obtain ⟨W, hW⟩ : ∃ W, W = w.alloc (.cells #[.int .u8 1, .int .i64 s, .int .i64 a, .int .i64 b, .int .i64 c, .int .i64 r, .int .i64 m] 38) := ⟨_, rfl⟩
  have b0 := hid (show Below w.heap.size w W by rw [hW]; exact (Below.refl _ _).alloc (Nat.le_refl _) _)
  rw [← hW] at B
  have HS := hid (fun w => sizes_any 1 w)
  have HT := hid (fun a b w => between_any a b w)
  have HB := hid B
  have c0 := B.c0
  clear B
  obtain ⟨j, hj⟩ : ∃ j, i - 1 = j := ⟨_, rfl⟩
  have Hj := hid hj
  unfold vP
  go_enter Tryz.func44, Tryz.ntmps44
  go_wp2_with fail
  rw [← hW]
  clear hW
  refine (HS.out _).mono ?_
  rintro e w1 ⟨f1, rfl, d1, b1⟩
  have B1 := HB.out.below b1
  have D1 := hid d1
  have b1 := hid (b0.out.trans (b1.mono b0.out.size))
  clear d1 b0 HB c0
  go_wp2_with fail
  refine (HT.out _ _ _).mono ?_
  rintro e w2 ⟨f2, rfl, d2, b2⟩
  have B2 := B1.below b2
  have D1 := hid (D1.out.below b2)
  have D2 := hid d2
  have b2 := hid (b1.out.trans (b2.mono b1.out.size))
  clear d2 b1 B1
  go_wp2_with fail
  refine (HT.out _ _ _).mono ?_
  rintro e w3 ⟨f3, rfl, d3, b3⟩
  have B3 := B2.below b3
  have D1 := hid (D1.out.below b3)
  have D2 := hid (D2.out.below b3)
  have D3 := hid d3
  have b3 := hid (b2.out.trans (b3.mono b2.out.size))
  clear d3 b2 B2
  go_wp2_with fail
  refine (HT.out _ _ _).mono ?_
  rintro e w4 ⟨f4, rfl, d4, b4⟩
  have B4 := B3.below b4
  have D1 := hid (D1.out.below b4)
  have D2 := hid (D2.out.below b4)
  have D3 := hid (D3.out.below b4)
  have D4 := hid d4
  have b4 := hid (b3.out.trans (b4.mono b3.out.size))
  clear d4 b3 B3
  rename Hid (Bt w4 f1 _ _) => D1
  rename Hid (Bt w4 f2 _ _) => D2
  rename Hid (Bt w4 f3 _ _) => D3
  rename Hid (Bt w4 f4 _ _) => D4
  have HB := hid B4
  have c0 := B4.c0
  have al : ∀ o, Below w4.heap.size w4 (w4.alloc o) := fun o => (Below.refl _ _).alloc (Nat.le_refl _) o
  have a0 := fun o => keeps (al o) B4.c0
  have a1 := fun o => keeps (al o) B4.c1
  have a2 := fun o => keeps (al o) B4.c2
  have a3 := fun o => keeps (al o) B4.c3
  have a4 := fun o => keeps (al o) B4.c4
  have a5 := fun o => keeps (al o) B4.c5
  have a6 := fun o => keeps (al o) B4.c6
  clear al B4
  obtain ⟨g1, h1, rfl, x1, y1⟩ := D1.out
  obtain ⟨g2, h2, rfl, x2, y2⟩ := D2.out
  obtain ⟨g3, h3, rfl, x3, y3⟩ := D3.out
  obtain ⟨g4, h4, rfl, x4, y4⟩ := D4.out
  have X1 := hid x1
  have X2 := hid x2
  have X3 := hid x3
  have X4 := hid x4
  have Y1 := hid y1
  have Y2 := hid y2
  have Y3 := hid y3
  have Y4 := hid y4
  clear x1 x2 x3 x4 y1 y2 y3 y4 D1 D2 D3 D4 HS
  go_wp2_with fail
  obtain ⟨W6, hW6⟩ : ∃ W6, W6 = (w4.alloc (.cells #[.int .u8 1, .int .i64 0, .int .i64 0, .int .i64 0, .int .i64 c, .int .i64 0, .int .i64 0] 38)) := ⟨_, rfl⟩
  rw [← hW6]
  have b6 : Below w4.heap.size w4 W6 := by rw [hW6]; exact ((Below.refl _ _).alloc (Nat.le_refl _) _)
  have N6 : BoxAt W6 w4.heap.size 1 0 0 0 c 0 0 := by
    rw [hW6]; exact (boxed w4 1 0 0 0 c 0 0).below (Below.refl _ _)
  have P6 := HB.out.below b6
  have x1 := keeps b6 X1.out
  have x2 := keeps b6 X2.out
  have x3 := keeps b6 X3.out
  have x4 := keeps b6 X4.out
  have y1 := keeps b6 Y1.out
  have y2 := keeps b6 Y2.out
  have y3 := keeps b6 Y3.out
  have y4 := keeps b6 Y4.out
  have bw := hid (b4.out.trans (b6.mono b4.out.size))
  have HP := hid P6
  have HN := hid N6
  have HX1 := hid x1
  have HX2 := hid x2
  have HX3 := hid x3
  have HX4 := hid x4
  have HY1 := hid y1
  have HY2 := hid y2
  have HY3 := hid y3
  have HY4 := hid y4
  have G4 := hid (rfl : w4.heap.size = w4.heap.size)
  clear hW6 b6 X1 X2 X3 X4 Y1 Y2 Y3 Y4 HB a0 a1 a2 a3 a4 a5 a6 c0 x1 x2 x3 x4 y1 y2 y3 y4 P6 N6
  cases T1
  · replace HP := hid (HP.out.below (Below.refl _ W6).drew)
    replace HN := hid (HN.out.below (Below.refl _ W6).drew)
    replace bw := hid (bw.out.drew)
    go_wp2_with fail
    go_region_held3 (fun w' => w'.cell? ⟨w.heap.size, 4, none⟩ = some (.int .i64 c)) (first | exact HP7.out.c4 | exact HP.out.c4 | go_keep)
      (first | (go_at_call 65; (refine (HT.out (-2047) 2047 _).mono ?_); rintro e w7 ⟨f, rfl, ⟨u7, v7, rfl, z7, y7⟩, b7⟩; have HP7 := hid (HP.out.below b7); have HN7 := hid (HN.out.below b7); have bw7 := hid (bw.out.trans (b7.mono bw.out.size)); have A1 := hid (asks_T w7 u7 v7 _ _ c _ e1.out z7 y7)) | (go_at_call 74; (first | (with_reducible refine A1.out.mono ?_)); rintro e wx ⟨rfl, rfl⟩))
    obtain ⟨c0, c1, c2, c3, c4, c5, c6⟩ := HP7.out
    obtain ⟨n0, n1, n2, n3, n4, n5, n6⟩ := HN7.out
    go_wp2_with fail
    go_ret
    exact ⟨rfl, bw7.out⟩
  · replace HP := hid (HP.out.below (Below.refl _ W6).drew)
    replace HN := hid (HN.out.below (Below.refl _ W6).drew)
    replace bw := hid (bw.out.drew)
    go_wp2_with fail
    go_region_held3 (fun w' => w'.cell? ⟨w.heap.size, 4, none⟩ = some (.int .i64 c)) (first | exact HP7.out.c4 | exact HP.out.c4 | go_keep)
      (first | (go_at_call 65; (refine (HT.out (-2047) 2047 _).mono ?_); rintro e w7 ⟨f, rfl, ⟨u7, v7, rfl, z7, y7⟩, b7⟩; have HP7 := hid (HP.out.below b7); have HN7 := hid (HN.out.below b7); have bw7 := hid (bw.out.trans (b7.mono bw.out.size)); have A1 := hid (asks_T w7 u7 v7 _ _ c _ e1.out z7 y7)) | (go_at_call 74; (first | (with_reducible refine A1.out.mono ?_)); rintro e wx ⟨rfl, rfl⟩))
    obtain ⟨c0, c1, c2, c3, c4, c5, c6⟩ := HP7.out
    obtain ⟨n0, n1, n2, n3, n4, n5, n6⟩ := HN7.out
    go_wp2_with fail
    all_goals
      go_ret
      exact ⟨congrArg (fun x => Ending.returned (.bool x)) (by simp [*]), bw7.out⟩
end Go.Proofs.YtkfdbibgjoaefaaGreatDoor
