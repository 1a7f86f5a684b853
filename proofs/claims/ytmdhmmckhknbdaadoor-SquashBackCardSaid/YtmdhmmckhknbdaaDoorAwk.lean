/-
  The examples hold: 'awake' is true.
-/
import Derived.Test.YtmdhmmckhknbdaaDoorStr
namespace Go.Proofs.YtmdhmmckhknbdaaDoor
open Go.RowKit

theorem squash_bel (d : Int) (w : World) (hk : KnIs w) (h1 : -9223372036854775808 ≤ d) (h2 : d ≤ 9223372036854775807) :
    Calls Tryd.prog 5 #[.int .i64 d] w fun e w' => e = .returned (.int .i64 (sq d)) ∧ Below w.heap.size w w' :=
  (squash_any d w hk h1 h2).mono fun _ _ ⟨h, _, hw⟩ => ⟨h, hw ▸ Below.drewN _ _ _⟩
theorem sq_0 : sq 0 = 2048 := by decide +kernel
theorem sq_128 : sq 128 = 2550 := by decide +kernel
theorem sq_64 : sq 64 = 2299 := by decide +kernel
theorem sq_m128 : sq (-128) = 1546 := by decide +kernel
theorem sq_2047 : sq 2047 = 4095 := by decide +kernel
theorem sq_m2047 : sq (-2047) = 1 := by decide +kernel
theorem sq_9999 : sq 9999 = 4095 := by decide +kernel
theorem stz_2048 : stz 2048 = 0 := by decide +kernel
theorem stz_0 : stz 0 = -2047 := by decide +kernel
theorem stz_5000 : stz 5000 = 2047 := by decide +kernel
set_option maxRecDepth 10000 in
set_option maxHeartbeats 1000000 in
theorem awake_any (w : World) (hk : KnIs w) : Calls Tryd.prog 9 #[] w fun e w' => e = .returned (.bool true) ∧ Below w.heap.size w w' := by
  go_enter Tryd.func9, Tryd.ntmps9
  go_wp2_with fail
  refine (squash_bel 0 w hk (by omega) (by omega)).mono ?_
  rintro e w1 ⟨rfl, b1⟩
  have k1 := hk.below b1
  have B1 := b1
  clear b1 hk
  rw [sq_0]
  go_wp2_with fail
  refine (squash_bel 128 w1 k1 (by omega) (by omega)).mono ?_
  rintro e w2 ⟨rfl, b2⟩
  have k2 := k1.below b2
  have B2 := B1.trans (b2.mono B1.size)
  clear b2 k1 B1
  rw [sq_128]
  go_wp2_with fail
  refine (squash_bel 64 w2 k2 (by omega) (by omega)).mono ?_
  rintro e w3 ⟨rfl, b3⟩
  have k3 := k2.below b3
  have B3 := B2.trans (b3.mono B2.size)
  clear b3 k2 B2
  rw [sq_64]
  go_wp2_with fail
  refine (squash_bel (-128) w3 k3 (by omega) (by omega)).mono ?_
  rintro e w4 ⟨rfl, b4⟩
  have k4 := k3.below b4
  have B4 := B3.trans (b4.mono B3.size)
  clear b4 k3 B3
  rw [sq_m128]
  go_wp2_with fail
  refine (squash_bel 2047 w4 k4 (by omega) (by omega)).mono ?_
  rintro e w5 ⟨rfl, b5⟩
  have k5 := k4.below b5
  have B5 := B4.trans (b5.mono B4.size)
  clear b5 k4 B4
  rw [sq_2047]
  go_wp2_with fail
  refine (squash_bel (-2047) w5 k5 (by omega) (by omega)).mono ?_
  rintro e w6 ⟨rfl, b6⟩
  have k6 := k5.below b6
  have B6 := B5.trans (b6.mono B5.size)
  clear b6 k5 B5
  rw [sq_m2047]
  go_wp2_with fail
  refine (squash_bel 9999 w6 k6 (by omega) (by omega)).mono ?_
  rintro e w7 ⟨rfl, b7⟩
  have k7 := k6.below b7
  have B7 := B6.trans (b7.mono B6.size)
  clear b7 k6 B6
  rw [sq_9999]
  go_wp2_with fail
  refine (stretch_any 2048 w7 k7).mono ?_
  rintro e w8 ⟨rfl, b8⟩
  have k8 := k7.below b8
  have B8 := B7.trans (b8.mono B7.size)
  clear b8 k7 B7
  rw [stz_2048]
  go_wp2_with fail
  refine (stretch_any 0 w8 k8).mono ?_
  rintro e w9 ⟨rfl, b9⟩
  have k9 := k8.below b9
  have B9 := B8.trans (b9.mono B8.size)
  clear b9 k8 B8
  rw [stz_0]
  go_wp2_with fail
  refine (stretch_any 5000 w9 k9).mono ?_
  rintro e w10 ⟨rfl, b10⟩
  have B10 := B9.trans (b10.mono B9.size)
  clear b10 k9 B9
  rw [stz_5000]
  go_wp2_with fail
  go_ret
  exact ⟨rfl, B10⟩
end Go.Proofs.YtmdhmmckhknbdaaDoor
