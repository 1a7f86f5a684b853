/-
  The examples hold: 'awake' is true.
-/
import Derived.Test.YtjecnpipnbmoaaaNx
namespace Go.Proofs.Ytjecnpipnbmoaaa
open Go.RowKit

theorem ex0 : nxN 0 (oneB 1) = 1 := by decide +kernel
theorem ex1 : nxN 1 (oneB 1) = 2 := by decide +kernel
theorem ex2 : nxN 15 (oneB 1) = 15 := by decide +kernel
theorem ex3 : nxN 15 (oneB 0) = 24 := by decide +kernel
theorem ex4 : nxN 2 (oneB 0) = 18 := by decide +kernel
theorem ex5 : chN 0 = 32768 := by decide +kernel
theorem ex6 : chN 1 = 49152 := by decide +kernel
theorem ex7 : chN 16 = 16384 := by decide +kernel
set_option maxRecDepth 10000 in
set_option maxHeartbeats 1000000 in
theorem awake_any (w : World) : Calls Try.prog 11 #[] w fun e w' => e = .returned (.bool true) ∧ Below w.heap.size w w' := by
  have H0 := hid (fun w => next_any 0 1 (by omega) w)
  rw [ex0] at H0
  have H1 := hid (fun w => next_any 1 1 (by omega) w)
  rw [ex1] at H1
  have H2 := hid (fun w => next_any 15 1 (by omega) w)
  rw [ex2] at H2
  have H3 := hid (fun w => next_any 15 0 (by omega) w)
  rw [ex3] at H3
  have H4 := hid (fun w => next_any 2 0 (by omega) w)
  rw [ex4] at H4
  have H5 := hid (fun w => chance_any 0 (by omega) w)
  rw [ex5] at H5
  have H6 := hid (fun w => chance_any 1 (by omega) w)
  rw [ex6] at H6
  have H7 := hid (fun w => chance_any 16 (by omega) w)
  rw [ex7] at H7
  go_enter Try.func11, Try.ntmps11
  go_wp2_with fail
  refine (H0.out _).mono ?_
  rintro e w1 ⟨rfl, b1⟩
  have B1 := b1
  clear b1
  go_wp2_with fail
  refine (H1.out _).mono ?_
  rintro e w2 ⟨rfl, b2⟩
  have B2 := B1.trans (b2.mono B1.size)
  clear b2 B1
  go_wp2_with fail
  refine (H2.out _).mono ?_
  rintro e w3 ⟨rfl, b3⟩
  have B3 := B2.trans (b3.mono B2.size)
  clear b3 B2
  go_wp2_with fail
  refine (H3.out _).mono ?_
  rintro e w4 ⟨rfl, b4⟩
  have B4 := B3.trans (b4.mono B3.size)
  clear b4 B3
  go_wp2_with fail
  refine (H4.out _).mono ?_
  rintro e w5 ⟨rfl, b5⟩
  have B5 := B4.trans (b5.mono B4.size)
  clear b5 B4
  go_wp2_with fail
  refine (H5.out _).mono ?_
  rintro e w6 ⟨rfl, b6⟩
  have B6 := B5.trans (b6.mono B5.size)
  clear b6 B5
  go_wp2_with fail
  refine (H6.out _).mono ?_
  rintro e w7 ⟨rfl, b7⟩
  have B7 := B6.trans (b7.mono B6.size)
  clear b7 B6
  go_wp2_with fail
  refine (H7.out _).mono ?_
  rintro e w8 ⟨rfl, b8⟩
  have B8 := B7.trans (b8.mono B7.size)
  clear b8 B7
  go_wp2_with fail
  go_ret
  exact ⟨rfl, B8⟩
end Go.Proofs.Ytjecnpipnbmoaaa
