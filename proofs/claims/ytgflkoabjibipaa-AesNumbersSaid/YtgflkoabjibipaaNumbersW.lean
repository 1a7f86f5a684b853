/-
  The walk of the law AesNumbers.
-/
import Derived.Test.YtgflkoabjibipaaAwake
import Derived.Test.YtgflkoabjibipaaBad
import Derived.Test.YtgflkoabjibipaaRefTab
import Derived.Test.YtgflkoabjibipaaWords
import Derived.BigQuiet
import Derived.Deep.Cut
namespace Go.Proofs.Ytgflkoabjibipaa
open Go.RowKit

theorem sub_z (x : Nat) (hx : x < 256) (w : World) (n : Nat) : Calls Try.prog 12 #[.int .u8 x] (w.drewN n) fun e w' => e = .returned (.int .u8 (subN x : Nat)) ∧ ∃ m, w' = w.drewN m :=
  (sub_any x hx _).mono fun e w' h => ⟨h.1, by obtain ⟨m, hm⟩ := h.2; exact ⟨n + m, by rw [hm, World.drewN_drewN]⟩⟩
theorem back_z (x : Nat) (hx : x < 256) (w : World) (n : Nat) : Calls Try.prog 13 #[.int .u8 x] (w.drewN n) fun e w' => e = .returned (.int .u8 (backN x : Nat)) ∧ ∃ m, w' = w.drewN m :=
  (back_any x hx _).mono fun e w' h => ⟨h.1, by obtain ⟨m, hm⟩ := h.2; exact ⟨n + m, by rw [hm, World.drewN_drewN]⟩⟩
def zci : Array Value := (Value.bool false :: List.replicate 752 (Value.int .u8 0)).toArray
theorem zero35 (w : World) : (zeroValue 35).run Try.prog w = .ok (.agg zci) w := by kernel_rfl
theorem zci_zero : zci[0]? = some (.bool false) := by kernel_rfl
theorem built35z : ((Try.prog.built 35 []).getD #[])[0]? = some (.bool false) := by kernel_rfl
theorem zero_cell (w : World) : (w.alloc (.cells ((Try.prog.built 35 []).getD #[]) 35)).cell? ⟨w.heap.size, 0, none⟩ = some (.bool false) := by
  rw [row_cell (heap_alloc_new w _) 0]; exact built35z
set_option maxRecDepth 10000 in
set_option maxHeartbeats 4000000 in
theorem numbers_walk (w : World) : Calls Try.prog 3 #[] w fun e w' => e = .returned (.bool true) ∧ Below w.heap.size w w' := by
  have R16 := hid (fun w => row_slice 0 1 16 (by omega) (by omega) (by omega) w)
  have R33 := hid (fun w => row_slice 0 1 33 (by omega) (by omega) (by omega) w)
  have R32 := hid (fun w => row_slice 0 1 32 (by omega) (by omega) (by omega) w)
  have R15 := hid (fun w => row_slice 0 1 15 (by omega) (by omega) (by omega) w)
  have R17 := hid (fun w => row_slice 0 1 17 (by omega) (by omega) (by omega) w)
  go_enter Try.func3, Try.ntmps3
  go_upto_region 2 with (first
    | (go_at_call 8; refine (R16.out _).mono ?_; rintro e W1 ⟨A1, c1, rfl, _, hB1⟩; have HB1 := hid hB1; clear hB1)
    | (go_at_call 7; refine (New_bad A1 16 c1 _ (by omega)).mono ?_; rintro e w' ⟨rfl, rfl⟩))
  go_upto_region 3 with (first
    | (go_at_call 8; refine (R33.out _).mono ?_; rintro e W2 ⟨A2, c2, rfl, _, hB2⟩; have HB2 := hid (bel_trans HB1.out hB2); clear hB2 HB1)
    | (go_at_call 7; refine (New_bad A2 33 c2 _ (by omega)).mono ?_; rintro e w' ⟨rfl, rfl⟩))
  go_upto_region 4 with (first
    | (go_at_call 8; refine (R32.out _).mono ?_; rintro e W3 ⟨A3, c3, rfl, hA3, hB3⟩; have HA3 := hid hA3; have HB3 := hid (bel_trans HB2.out hB3); clear hB3 hA3 HB2)
    | (go_at_call 7; refine (New_any A3 c3 _ _ HA3.out).mono ?_; rintro e W4 ⟨gc, rfl, hC4, hB4, _⟩; have HC4 := hid hC4; have HB4 := hid (bel_trans HB3.out hB4); clear hC4 hB4 HA3 HB3))
  go_upto_region 5 with (first
    | (go_at_call 8; refine (R15.out _).mono ?_; rintro e W5 ⟨A5, c5, rfl, _, hB5⟩; have HC5 := hid (HC4.out.onB hB5 HC4.out.lt); have HB5 := hid (bel_trans HB4.out hB5); clear hB5 HB4 HC4)
    | (go_at_call 9; refine (encrypt_bad gc _ A5 15 c5 (by omega) _ HC5.out).mono ?_; rintro e w' ⟨rfl, rfl⟩))
  go_upto_region 6 with (first
    | (go_at_call 8; refine (R17.out _).mono ?_; rintro e W6 ⟨A6, c6, rfl, _, hB6⟩; have HC6 := hid (HC5.out.onB hB6 HC5.out.lt); have HB6 := hid (bel_trans HB5.out hB6); clear hB6 HB5 HC5)
    | (go_at_call 10; refine (decrypt_bad gc _ A6 17 c6 (by omega) _ HC6.out).mono ?_; rintro e w' ⟨rfl, rfl⟩))
  go_upto_region 7 with (go_at_call 11; refine (Table_any _).mono ?_; rintro e W7 ⟨v7, rfl, hT7⟩; obtain ⟨A7, c7, he7, hI7⟩ := hT7.isBB (by rw [tabL_len]; omega); rw [tabL_len] at he7 hI7; subst he7; have HI7 := hid hI7; have HB7 := hid (bel_trans HB6.out hT7.bel); clear hT7 hI7 HB6 HC6)
  obtain ⟨t7, he7, _⟩ := HI7.out.lies (by rw [tabL_len]; omega)
  subst he7
  have HT := hid (fun x hx => tab_cells HI7.out x hx)
  go_wp2_with fail
  go_loopw [12] (fun vi wr => ∃ (i m : Nat), i ≤ 256 ∧ vi = .int .i64 i ∧ wr = W7.drewN m) (fun vi _ => 256 - (intOf vi).toNat)
  case atStart => exact ⟨0, 0, Nat.zero_le _, rfl, rfl⟩
  case round =>
    obtain ⟨i, m, hi, rfl, rfl⟩ := hrel
    by_cases hlt : i < 256
    · have hlz : (i : Int) < 256 := by omega
      obtain ⟨wy, hwy⟩ : ∃ W, W = W7.drewN m := ⟨_, rfl⟩
      have c1 : wy.cell? (t7.add i) = some (.int .u8 (subN i : Nat)) := by rw [hwy]; exact HT.out i hlt
      have hsl := sub_lt i hlt
      have SZ := hid (sub_z i hlt wy)
      have BZ := hid (back_z (subN i) hsl wy)
      rw [back_sub i hlt] at BZ
      generalize subN i = s at c1 hsl SZ BZ
      rw [← hwy]
      have Hwy := hid hwy
      clear hwy
      go_wp2_with fail
      go_quiet ((first
        | (go_at_call 12; with_reducible exact SZ.out _)
        | (go_at_call 13; with_reducible exact BZ.out _)))
      go_wp2_with fail
      go_roundw
      case rel => exact ⟨i + 1, _, by omega, by go_num, by rw [Hwy.out, World.drewN_drewN]⟩
      case measure => simp [intOf]; omega
    · obtain rfl : i = 256 := by omega
      have HB8 : Hid (Below w.heap.size w (W7.drewN m)) := below_drewN HB7.out m
      generalize W7.drewN m = W8 at HB8 ⊢
      clear HB7 HI7 HT
      rw [show ((256 : Nat) : Int) = 256 from rfl]
      go_upto_region 14 with (first
        | (go_at_call 8; refine (R16.out _).mono ?_; rintro e W9 ⟨A9, c9, rfl, _, hB9⟩; have HB9 := hid (bel_trans HB8.out hB9); clear hB9 HB8)
        | (go_at_call 9; refine (encrypt_nil A9 16 c9 _).mono ?_; rintro e w' ⟨rfl, rfl⟩))
      go_upto_region 15 with (first
        | (refine wpList_build rfl 35 _ rfl (by kernel_rfl) ?_; generalize hq : (Program.built Try.prog 35 _).getD #[] = Z1; have HZ1 : Hid (Z1[0]? = some (.bool false)) := (by show _ = _; rw [← hq]; kernel_rfl); clear hq)
        | (go_at_call 8; refine (R16.out _).mono ?_; rintro e W10 ⟨A10, c10, rfl, _, hB10⟩; have HC10 := hid (keep hB10 ((row_cell (heap_alloc_new W9 (.cells Z1 35)) 0).trans HZ1.out)); have HB10 := hid (bel_trans (HB9.out.alloc HB9.out.size (.cells Z1 35)) hB10); clear hB10 HB9 HZ1)
        | (go_at_call 10; refine (decrypt_not W9.heap.size A10 16 c10 _ HC10.out).mono ?_; rintro e w' ⟨rfl, rfl⟩))
      obtain ⟨Z2, hz2⟩ : ∃ Z, Z = zci := ⟨_, rfl⟩
      have HZ2 : Hid (Z2[0]? = some (.bool false)) := by show _ = _; rw [hz2]; exact zci_zero
      have zv := zero35
      rw [← hz2] at zv
      clear hz2
      go_wp2_with (first
        | (go_at_call 14; with_reducible refine (made_nil _).mono ?_; rintro e w' ⟨rfl, rfl⟩)
        | (go_at_call 14; refine (made_not W10.heap.size _ ((row_cell (heap_alloc_new W10 (.cells Z2 35)) 0).trans HZ2.out)).mono ?_; rintro e w' ⟨rfl, rfl⟩)
        | (go_at_call 15; refine (awake_any _).mono ?_; rintro e w' ⟨rfl, hb11⟩))
      go_ret
      exact ⟨rfl, bel_trans (HB10.out.alloc HB10.out.size (.cells Z2 35)) hb11⟩
end Go.Proofs.Ytgflkoabjibipaa
