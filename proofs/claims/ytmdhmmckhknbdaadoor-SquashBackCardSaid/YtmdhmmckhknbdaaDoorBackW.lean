/-
  The walk of SquashBack: neither curve falls; there and back.
-/
import Derived.Test.YtmdhmmckhknbdaaDoorAwk
import Derived.Test.YtmdhmmckhknbdaaDoorLai
namespace Go.Proofs.YtmdhmmckhknbdaaDoor
open Go.RowKit

theorem ix0 (a b : Int) (w : World) : (Instr.index 25 (.agg #[.int .i64 a, .int .i64 b]) (.int .i64 0)).run Tryd.prog w = .ok (.int .i64 a) w := by kernel_rfl
theorem ix1 (a b : Int) (w : World) : (Instr.index 25 (.agg #[.int .i64 a, .int .i64 b]) (.int .i64 1)).run Tryd.prog w = .ok (.int .i64 b) w := by kernel_rfl
set_option maxRecDepth 10000 in
set_option maxHeartbeats 4000000 in
theorem back_any (c d : Int) (w : World) (hk : KnIs w) (hc1 : -9223372036854775808 ≤ c) (hc2 : c ≤ 9223372036854775807) (hd1 : -9223372036854775808 ≤ d) (hd2 : d ≤ 9223372036854775807) :
    Calls Tryd.prog 4 #[.int .i64 c, .int .i64 d] w fun e w' => e = .returned (.bool true) ∧ Below w.heap.size w w' := by
  have step : ∀ a b : Int, -9223372036854775808 ≤ a → a ≤ 9223372036854775807 → -9223372036854775808 ≤ b → b ≤ 9223372036854775807 → a ≤ b → (c = a ∧ d = b) ∨ (c = b ∧ d = a ∧ a < b) →
      Calls Tryd.prog 4 #[.int .i64 c, .int .i64 d] w fun e w' => e = .returned (.bool true) ∧ Below w.heap.size w w' := by
    clear hc1 hc2 hd1 hd2
    intro a b ha1 ha2 hb1 hb2 hab hcd
    have m1 := sq_mono a b hab
    have m2 := stz_mono a b hab
    rcases hcd with ⟨rfl, rfl⟩ | ⟨rfl, rfl, h⟩
    · go_enter Tryd.func4, Tryd.ntmps4
      go_wp2_with fail
      refine (squash_bel c w hk ha1 ha2).mono ?_
      rintro e w1 ⟨rfl, b1⟩
      have k1 := hk.below b1
      have B1 := b1
      clear b1
      go_wp2_with fail
      refine (squash_bel d w1 k1 hb1 hb2).mono ?_
      rintro e w2 ⟨rfl, b2⟩
      have k2 := k1.below b2
      have B2 := B1.trans (b2.mono B1.size)
      clear b2 B1 k1
      go_wp2_with fail
      refine (stretch_any c w2 k2).mono ?_
      rintro e w3 ⟨rfl, b3⟩
      have k3 := k2.below b3
      have B3 := B2.trans (b3.mono B2.size)
      clear b3 B2 k2
      go_wp2_with fail
      refine (stretch_any d w3 k3).mono ?_
      rintro e w4 ⟨rfl, b4⟩
      have k4 := k3.below b4
      have B4 := B3.trans (b4.mono B3.size)
      clear b4 B3 k3
      go_wp2_with fail
      go_loopw [29] (fun vk wr => ∃ k : Nat, k ≤ 2 ∧ vk = .int .i64 k ∧ KnIs wr ∧ Below w.heap.size w wr) (fun vk _ => (2 - intOf vk).toNat)
      case atStart => exact ⟨0, by omega, rfl, k4, B4⟩
      case round =>
        obtain ⟨k, hk2, rfl, K0, B0⟩ := hrel
        clear k4 B4 hk
        by_cases e0 : k = 0
        · subst e0
          rw [show ((0 : Nat) : Int) = 0 from rfl]
          have ix := ix0
          have rs := sq_range c
          have rt := stz_range c
          have HT := hid (stretch_any c)
          have HS := hid (fun w hk => squash_bel c w hk ha1 ha2)
          have H1 := hid (stz_hit c)
          have H2 := hid (stz_sq c)
          by_cases x1 : c ≤ 4095
          · have y1 := H1.out x1
            by_cases x2 : -2047 ≤ c
            · by_cases x3 : c ≤ 2047
              · have y2 := H2.out x2
                go_wp2_with fail
                refine (HS.out _ K0).mono ?_
                rintro e wz1 ⟨rfl, c1⟩
                have Kz1 := K0.below c1
                have Bz1 := B0.trans (c1.mono B0.size)
                clear c1 B0 K0
                go_wp2_with fail
                refine (HT.out wz1 Kz1).mono ?_
                rintro e wz2 ⟨rfl, c2⟩
                have Kz2 := Kz1.below c2
                have Bz2 := Bz1.trans (c2.mono Bz1.size)
                clear c2 Bz1 Kz1
                go_wp2_with fail
                refine (squash_bel (stz c) wz2 Kz2 (by omega) (by omega)).mono ?_
                rintro e wz3 ⟨rfl, c3⟩
                have Kz3 := Kz2.below c3
                have Bz3 := Bz2.trans (c3.mono Bz2.size)
                clear c3 Bz2 Kz2
                go_wp2_with fail
                refine (stretch_any (sq c) wz3 Kz3).mono ?_
                rintro e wz4 ⟨rfl, c4⟩
                have Kz4 := Kz3.below c4
                have Bz4 := Bz3.trans (c4.mono Bz3.size)
                clear c4 Bz3 Kz3
                go_wp2_with fail
                go_roundw
                case rel => exact ⟨1, by omega, rfl, Kz4, Bz4⟩
                case measure => simp [intOf]
              · go_wp2_with fail
                refine (HS.out _ K0).mono ?_
                rintro e wz1 ⟨rfl, c1⟩
                have Kz1 := K0.below c1
                have Bz1 := B0.trans (c1.mono B0.size)
                clear c1 B0 K0
                go_wp2_with fail
                refine (HT.out wz1 Kz1).mono ?_
                rintro e wz2 ⟨rfl, c2⟩
                have Kz2 := Kz1.below c2
                have Bz2 := Bz1.trans (c2.mono Bz1.size)
                clear c2 Bz1 Kz1
                go_wp2_with fail
                refine (squash_bel (stz c) wz2 Kz2 (by omega) (by omega)).mono ?_
                rintro e wz3 ⟨rfl, c3⟩
                have Kz3 := Kz2.below c3
                have Bz3 := Bz2.trans (c3.mono Bz2.size)
                clear c3 Bz2 Kz2
                go_wp2_with fail
                go_roundw
                case rel => exact ⟨1, by omega, rfl, Kz3, Bz3⟩
                case measure => simp [intOf]
            · go_wp2_with fail
              refine (HS.out _ K0).mono ?_
              rintro e wz1 ⟨rfl, c1⟩
              have Kz1 := K0.below c1
              have Bz1 := B0.trans (c1.mono B0.size)
              clear c1 B0 K0
              go_wp2_with fail
              refine (HT.out wz1 Kz1).mono ?_
              rintro e wz2 ⟨rfl, c2⟩
              have Kz2 := Kz1.below c2
              have Bz2 := Bz1.trans (c2.mono Bz1.size)
              clear c2 Bz1 Kz1
              go_wp2_with fail
              refine (squash_bel (stz c) wz2 Kz2 (by omega) (by omega)).mono ?_
              rintro e wz3 ⟨rfl, c3⟩
              have Kz3 := Kz2.below c3
              have Bz3 := Bz2.trans (c3.mono Bz2.size)
              clear c3 Bz2 Kz2
              go_wp2_with fail
              go_roundw
              case rel => exact ⟨1, by omega, rfl, Kz3, Bz3⟩
              case measure => simp [intOf]
          · have x3 : ¬ (c ≤ 2047) := by omega
            have x2 : -2047 ≤ c := by omega
            go_wp2_with fail
            refine (HS.out _ K0).mono ?_
            rintro e wz1 ⟨rfl, c1⟩
            have Kz1 := K0.below c1
            have Bz1 := B0.trans (c1.mono B0.size)
            clear c1 B0 K0
            go_wp2_with fail
            refine (HT.out wz1 Kz1).mono ?_
            rintro e wz2 ⟨rfl, c2⟩
            have Kz2 := Kz1.below c2
            have Bz2 := Bz1.trans (c2.mono Bz1.size)
            clear c2 Bz1 Kz1
            go_wp2_with fail
            go_roundw
            case rel => exact ⟨1, by omega, rfl, Kz2, Bz2⟩
            case measure => simp [intOf]
        · by_cases e1 : k = 1
          · subst e1
            rw [show ((1 : Nat) : Int) = 1 from rfl]
            have ix := ix1
            have rs := sq_range d
            have rt := stz_range d
            have HT := hid (stretch_any d)
            have HS := hid (fun w hk => squash_bel d w hk hb1 hb2)
            have H1 := hid (stz_hit d)
            have H2 := hid (stz_sq d)
            by_cases x1 : d ≤ 4095
            · have y1 := H1.out x1
              by_cases x2 : -2047 ≤ d
              · by_cases x3 : d ≤ 2047
                · have y2 := H2.out x2
                  go_wp2_with fail
                  refine (HS.out _ K0).mono ?_
                  rintro e wz1 ⟨rfl, c1⟩
                  have Kz1 := K0.below c1
                  have Bz1 := B0.trans (c1.mono B0.size)
                  clear c1 B0 K0
                  go_wp2_with fail
                  refine (HT.out wz1 Kz1).mono ?_
                  rintro e wz2 ⟨rfl, c2⟩
                  have Kz2 := Kz1.below c2
                  have Bz2 := Bz1.trans (c2.mono Bz1.size)
                  clear c2 Bz1 Kz1
                  go_wp2_with fail
                  refine (squash_bel (stz d) wz2 Kz2 (by omega) (by omega)).mono ?_
                  rintro e wz3 ⟨rfl, c3⟩
                  have Kz3 := Kz2.below c3
                  have Bz3 := Bz2.trans (c3.mono Bz2.size)
                  clear c3 Bz2 Kz2
                  go_wp2_with fail
                  refine (stretch_any (sq d) wz3 Kz3).mono ?_
                  rintro e wz4 ⟨rfl, c4⟩
                  have Kz4 := Kz3.below c4
                  have Bz4 := Bz3.trans (c4.mono Bz3.size)
                  clear c4 Bz3 Kz3
                  go_wp2_with fail
                  go_roundw
                  case rel => exact ⟨2, by omega, rfl, Kz4, Bz4⟩
                  case measure => simp [intOf]
                · go_wp2_with fail
                  refine (HS.out _ K0).mono ?_
                  rintro e wz1 ⟨rfl, c1⟩
                  have Kz1 := K0.below c1
                  have Bz1 := B0.trans (c1.mono B0.size)
                  clear c1 B0 K0
                  go_wp2_with fail
                  refine (HT.out wz1 Kz1).mono ?_
                  rintro e wz2 ⟨rfl, c2⟩
                  have Kz2 := Kz1.below c2
                  have Bz2 := Bz1.trans (c2.mono Bz1.size)
                  clear c2 Bz1 Kz1
                  go_wp2_with fail
                  refine (squash_bel (stz d) wz2 Kz2 (by omega) (by omega)).mono ?_
                  rintro e wz3 ⟨rfl, c3⟩
                  have Kz3 := Kz2.below c3
                  have Bz3 := Bz2.trans (c3.mono Bz2.size)
                  clear c3 Bz2 Kz2
                  go_wp2_with fail
                  go_roundw
                  case rel => exact ⟨2, by omega, rfl, Kz3, Bz3⟩
                  case measure => simp [intOf]
              · go_wp2_with fail
                refine (HS.out _ K0).mono ?_
                rintro e wz1 ⟨rfl, c1⟩
                have Kz1 := K0.below c1
                have Bz1 := B0.trans (c1.mono B0.size)
                clear c1 B0 K0
                go_wp2_with fail
                refine (HT.out wz1 Kz1).mono ?_
                rintro e wz2 ⟨rfl, c2⟩
                have Kz2 := Kz1.below c2
                have Bz2 := Bz1.trans (c2.mono Bz1.size)
                clear c2 Bz1 Kz1
                go_wp2_with fail
                refine (squash_bel (stz d) wz2 Kz2 (by omega) (by omega)).mono ?_
                rintro e wz3 ⟨rfl, c3⟩
                have Kz3 := Kz2.below c3
                have Bz3 := Bz2.trans (c3.mono Bz2.size)
                clear c3 Bz2 Kz2
                go_wp2_with fail
                go_roundw
                case rel => exact ⟨2, by omega, rfl, Kz3, Bz3⟩
                case measure => simp [intOf]
            · have x3 : ¬ (d ≤ 2047) := by omega
              have x2 : -2047 ≤ d := by omega
              go_wp2_with fail
              refine (HS.out _ K0).mono ?_
              rintro e wz1 ⟨rfl, c1⟩
              have Kz1 := K0.below c1
              have Bz1 := B0.trans (c1.mono B0.size)
              clear c1 B0 K0
              go_wp2_with fail
              refine (HT.out wz1 Kz1).mono ?_
              rintro e wz2 ⟨rfl, c2⟩
              have Kz2 := Kz1.below c2
              have Bz2 := Bz1.trans (c2.mono Bz1.size)
              clear c2 Bz1 Kz1
              go_wp2_with fail
              go_roundw
              case rel => exact ⟨2, by omega, rfl, Kz2, Bz2⟩
              case measure => simp [intOf]
          · obtain rfl : k = 2 := by omega
            go_wp2_with fail
            refine (awake_any _ K0).mono ?_
            rintro e w5 ⟨rfl, b5⟩
            go_wp2_with fail
            go_ret
            exact ⟨rfl, B0.trans (b5.mono B0.size)⟩
    · go_enter Tryd.func4, Tryd.ntmps4
      go_wp2_with fail
      refine (squash_bel d w hk ha1 ha2).mono ?_
      rintro e w1 ⟨rfl, b1⟩
      have k1 := hk.below b1
      have B1 := b1
      clear b1
      go_wp2_with fail
      refine (squash_bel c w1 k1 hb1 hb2).mono ?_
      rintro e w2 ⟨rfl, b2⟩
      have k2 := k1.below b2
      have B2 := B1.trans (b2.mono B1.size)
      clear b2 B1 k1
      go_wp2_with fail
      refine (stretch_any d w2 k2).mono ?_
      rintro e w3 ⟨rfl, b3⟩
      have k3 := k2.below b3
      have B3 := B2.trans (b3.mono B2.size)
      clear b3 B2 k2
      go_wp2_with fail
      refine (stretch_any c w3 k3).mono ?_
      rintro e w4 ⟨rfl, b4⟩
      have k4 := k3.below b4
      have B4 := B3.trans (b4.mono B3.size)
      clear b4 B3 k3
      go_wp2_with fail
      go_loopw [29] (fun vk wr => ∃ k : Nat, k ≤ 2 ∧ vk = .int .i64 k ∧ KnIs wr ∧ Below w.heap.size w wr) (fun vk _ => (2 - intOf vk).toNat)
      case atStart => exact ⟨0, by omega, rfl, k4, B4⟩
      case round =>
        obtain ⟨k, hk2, rfl, K0, B0⟩ := hrel
        clear k4 B4 hk
        by_cases e0 : k = 0
        · subst e0
          rw [show ((0 : Nat) : Int) = 0 from rfl]
          have ix := ix0
          have rs := sq_range d
          have rt := stz_range d
          have HT := hid (stretch_any d)
          have HS := hid (fun w hk => squash_bel d w hk ha1 ha2)
          have H1 := hid (stz_hit d)
          have H2 := hid (stz_sq d)
          by_cases x1 : d ≤ 4095
          · have y1 := H1.out x1
            by_cases x2 : -2047 ≤ d
            · by_cases x3 : d ≤ 2047
              · have y2 := H2.out x2
                go_wp2_with fail
                refine (HS.out _ K0).mono ?_
                rintro e wz1 ⟨rfl, c1⟩
                have Kz1 := K0.below c1
                have Bz1 := B0.trans (c1.mono B0.size)
                clear c1 B0 K0
                go_wp2_with fail
                refine (HT.out wz1 Kz1).mono ?_
                rintro e wz2 ⟨rfl, c2⟩
                have Kz2 := Kz1.below c2
                have Bz2 := Bz1.trans (c2.mono Bz1.size)
                clear c2 Bz1 Kz1
                go_wp2_with fail
                refine (squash_bel (stz d) wz2 Kz2 (by omega) (by omega)).mono ?_
                rintro e wz3 ⟨rfl, c3⟩
                have Kz3 := Kz2.below c3
                have Bz3 := Bz2.trans (c3.mono Bz2.size)
                clear c3 Bz2 Kz2
                go_wp2_with fail
                refine (stretch_any (sq d) wz3 Kz3).mono ?_
                rintro e wz4 ⟨rfl, c4⟩
                have Kz4 := Kz3.below c4
                have Bz4 := Bz3.trans (c4.mono Bz3.size)
                clear c4 Bz3 Kz3
                go_wp2_with fail
                go_roundw
                case rel => exact ⟨1, by omega, rfl, Kz4, Bz4⟩
                case measure => simp [intOf]
              · go_wp2_with fail
                refine (HS.out _ K0).mono ?_
                rintro e wz1 ⟨rfl, c1⟩
                have Kz1 := K0.below c1
                have Bz1 := B0.trans (c1.mono B0.size)
                clear c1 B0 K0
                go_wp2_with fail
                refine (HT.out wz1 Kz1).mono ?_
                rintro e wz2 ⟨rfl, c2⟩
                have Kz2 := Kz1.below c2
                have Bz2 := Bz1.trans (c2.mono Bz1.size)
                clear c2 Bz1 Kz1
                go_wp2_with fail
                refine (squash_bel (stz d) wz2 Kz2 (by omega) (by omega)).mono ?_
                rintro e wz3 ⟨rfl, c3⟩
                have Kz3 := Kz2.below c3
                have Bz3 := Bz2.trans (c3.mono Bz2.size)
                clear c3 Bz2 Kz2
                go_wp2_with fail
                go_roundw
                case rel => exact ⟨1, by omega, rfl, Kz3, Bz3⟩
                case measure => simp [intOf]
            · go_wp2_with fail
              refine (HS.out _ K0).mono ?_
              rintro e wz1 ⟨rfl, c1⟩
              have Kz1 := K0.below c1
              have Bz1 := B0.trans (c1.mono B0.size)
              clear c1 B0 K0
              go_wp2_with fail
              refine (HT.out wz1 Kz1).mono ?_
              rintro e wz2 ⟨rfl, c2⟩
              have Kz2 := Kz1.below c2
              have Bz2 := Bz1.trans (c2.mono Bz1.size)
              clear c2 Bz1 Kz1
              go_wp2_with fail
              refine (squash_bel (stz d) wz2 Kz2 (by omega) (by omega)).mono ?_
              rintro e wz3 ⟨rfl, c3⟩
              have Kz3 := Kz2.below c3
              have Bz3 := Bz2.trans (c3.mono Bz2.size)
              clear c3 Bz2 Kz2
              go_wp2_with fail
              go_roundw
              case rel => exact ⟨1, by omega, rfl, Kz3, Bz3⟩
              case measure => simp [intOf]
          · have x3 : ¬ (d ≤ 2047) := by omega
            have x2 : -2047 ≤ d := by omega
            go_wp2_with fail
            refine (HS.out _ K0).mono ?_
            rintro e wz1 ⟨rfl, c1⟩
            have Kz1 := K0.below c1
            have Bz1 := B0.trans (c1.mono B0.size)
            clear c1 B0 K0
            go_wp2_with fail
            refine (HT.out wz1 Kz1).mono ?_
            rintro e wz2 ⟨rfl, c2⟩
            have Kz2 := Kz1.below c2
            have Bz2 := Bz1.trans (c2.mono Bz1.size)
            clear c2 Bz1 Kz1
            go_wp2_with fail
            go_roundw
            case rel => exact ⟨1, by omega, rfl, Kz2, Bz2⟩
            case measure => simp [intOf]
        · by_cases e1 : k = 1
          · subst e1
            rw [show ((1 : Nat) : Int) = 1 from rfl]
            have ix := ix1
            have rs := sq_range c
            have rt := stz_range c
            have HT := hid (stretch_any c)
            have HS := hid (fun w hk => squash_bel c w hk hb1 hb2)
            have H1 := hid (stz_hit c)
            have H2 := hid (stz_sq c)
            by_cases x1 : c ≤ 4095
            · have y1 := H1.out x1
              by_cases x2 : -2047 ≤ c
              · by_cases x3 : c ≤ 2047
                · have y2 := H2.out x2
                  go_wp2_with fail
                  refine (HS.out _ K0).mono ?_
                  rintro e wz1 ⟨rfl, c1⟩
                  have Kz1 := K0.below c1
                  have Bz1 := B0.trans (c1.mono B0.size)
                  clear c1 B0 K0
                  go_wp2_with fail
                  refine (HT.out wz1 Kz1).mono ?_
                  rintro e wz2 ⟨rfl, c2⟩
                  have Kz2 := Kz1.below c2
                  have Bz2 := Bz1.trans (c2.mono Bz1.size)
                  clear c2 Bz1 Kz1
                  go_wp2_with fail
                  refine (squash_bel (stz c) wz2 Kz2 (by omega) (by omega)).mono ?_
                  rintro e wz3 ⟨rfl, c3⟩
                  have Kz3 := Kz2.below c3
                  have Bz3 := Bz2.trans (c3.mono Bz2.size)
                  clear c3 Bz2 Kz2
                  go_wp2_with fail
                  refine (stretch_any (sq c) wz3 Kz3).mono ?_
                  rintro e wz4 ⟨rfl, c4⟩
                  have Kz4 := Kz3.below c4
                  have Bz4 := Bz3.trans (c4.mono Bz3.size)
                  clear c4 Bz3 Kz3
                  go_wp2_with fail
                  go_roundw
                  case rel => exact ⟨2, by omega, rfl, Kz4, Bz4⟩
                  case measure => simp [intOf]
                · go_wp2_with fail
                  refine (HS.out _ K0).mono ?_
                  rintro e wz1 ⟨rfl, c1⟩
                  have Kz1 := K0.below c1
                  have Bz1 := B0.trans (c1.mono B0.size)
                  clear c1 B0 K0
                  go_wp2_with fail
                  refine (HT.out wz1 Kz1).mono ?_
                  rintro e wz2 ⟨rfl, c2⟩
                  have Kz2 := Kz1.below c2
                  have Bz2 := Bz1.trans (c2.mono Bz1.size)
                  clear c2 Bz1 Kz1
                  go_wp2_with fail
                  refine (squash_bel (stz c) wz2 Kz2 (by omega) (by omega)).mono ?_
                  rintro e wz3 ⟨rfl, c3⟩
                  have Kz3 := Kz2.below c3
                  have Bz3 := Bz2.trans (c3.mono Bz2.size)
                  clear c3 Bz2 Kz2
                  go_wp2_with fail
                  go_roundw
                  case rel => exact ⟨2, by omega, rfl, Kz3, Bz3⟩
                  case measure => simp [intOf]
              · go_wp2_with fail
                refine (HS.out _ K0).mono ?_
                rintro e wz1 ⟨rfl, c1⟩
                have Kz1 := K0.below c1
                have Bz1 := B0.trans (c1.mono B0.size)
                clear c1 B0 K0
                go_wp2_with fail
                refine (HT.out wz1 Kz1).mono ?_
                rintro e wz2 ⟨rfl, c2⟩
                have Kz2 := Kz1.below c2
                have Bz2 := Bz1.trans (c2.mono Bz1.size)
                clear c2 Bz1 Kz1
                go_wp2_with fail
                refine (squash_bel (stz c) wz2 Kz2 (by omega) (by omega)).mono ?_
                rintro e wz3 ⟨rfl, c3⟩
                have Kz3 := Kz2.below c3
                have Bz3 := Bz2.trans (c3.mono Bz2.size)
                clear c3 Bz2 Kz2
                go_wp2_with fail
                go_roundw
                case rel => exact ⟨2, by omega, rfl, Kz3, Bz3⟩
                case measure => simp [intOf]
            · have x3 : ¬ (c ≤ 2047) := by omega
              have x2 : -2047 ≤ c := by omega
              go_wp2_with fail
              refine (HS.out _ K0).mono ?_
              rintro e wz1 ⟨rfl, c1⟩
              have Kz1 := K0.below c1
              have Bz1 := B0.trans (c1.mono B0.size)
              clear c1 B0 K0
              go_wp2_with fail
              refine (HT.out wz1 Kz1).mono ?_
              rintro e wz2 ⟨rfl, c2⟩
              have Kz2 := Kz1.below c2
              have Bz2 := Bz1.trans (c2.mono Bz1.size)
              clear c2 Bz1 Kz1
              go_wp2_with fail
              go_roundw
              case rel => exact ⟨2, by omega, rfl, Kz2, Bz2⟩
              case measure => simp [intOf]
          · obtain rfl : k = 2 := by omega
            go_wp2_with fail
            refine (awake_any _ K0).mono ?_
            rintro e w5 ⟨rfl, b5⟩
            go_wp2_with fail
            go_ret
            exact ⟨rfl, B0.trans (b5.mono B0.size)⟩
  by_cases h : c ≤ d
  · exact step c d hc1 hc2 hd1 hd2 h (.inl ⟨rfl, rfl⟩)
  · exact step d c hd1 hd2 hc1 hc2 (by omega) (.inr ⟨rfl, rfl, by omega⟩)
end Go.Proofs.YtmdhmmckhknbdaaDoor
