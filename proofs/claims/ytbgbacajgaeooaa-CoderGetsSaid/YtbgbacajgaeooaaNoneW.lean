/-
  The walk of CoderNone.
-/
import Derived.Test.YtbgbacajgaeooaaAwk
import Derived.Laws.Bits128
namespace Go.Proofs.Ytbgbacajgaeooaa
open Go.RowKit

theorem i64_and1 (n : Int) : bits .and .i64 n 1 = n % 2 := by
  have h1 : (BitVec.ofInt 64 1).toNat = 2 ^ 1 - 1 := by decide
  have key : (BitVec.ofInt 64 n &&& BitVec.ofInt 64 1).toNat = (n % ((2 ^ 64 : Nat) : Int)).toNat % 2 ^ 1 := by
    rw [BitVec.toNat_and, BitVec.toNat_ofInt, h1, Nat.and_two_pow_sub_one_eq_mod]
  show IntKind.i64.wrap ((BitVec.ofInt 64 n &&& BitVec.ofInt 64 1).toNat : Nat) = n % 2
  rw [key, IntKind.wrap_i64]
  omega
def esZ (i : Nat) : Es := ⟨0, 4294967295, List.replicate (2 * i) 0⟩
theorem put1_z : put1 0 4294967295 1 true = ([0, 0], 0, 4294967295) := by decide +kernel
theorem esZ_put (i : Nat) (hi : i < 32768) : (esZ i).put 1 1 = (esZ (i + 1), 0) := by
  have := es_put (esZ i) true 1 (by decide) (by decide) (by show (List.replicate (2 * i) (0 : UInt8)).length < 65536; rw [List.length_replicate]; omega)
  have e1 : put1 (esZ i).x (esZ i).y 1 true = ([0, 0], 0, 4294967295) := put1_z
  have e2 : (esZ i).l ++ [0, 0] = (esZ (i + 1)).l := by
    unfold esZ
    rw [show 2 * (i + 1) = 2 * i + 2 by omega, ← List.replicate_append_replicate]
    rfl
  rw [if_pos rfl, e1, e2] at this
  exact this
theorem esZ_full (bit : Int) (hb : bit = 0 ∨ bit = 1) : (esZ 32768).put bit 1 = (esZ 32768, 3) := by
  unfold Es.put
  rw [if_neg (by omega), if_pos (by show 65536 ≤ (List.replicate (2 * 32768) (0 : UInt8)).length; rw [List.length_replicate]; omega)]
theorem be4_len (x : Nat) : (be4 x).length = 4 := rfl
theorem esZ_len (i : Nat) : (esZ i).l.length = 2 * i := by unfold esZ; rw [List.length_replicate]
theorem esZ_end : ((esZ 32768).l ++ be4 (esZ 32768).x).length = 65540 := by
  rw [List.length_append, be4_len, esZ_len]
set_option maxRecDepth 10000 in
set_option maxHeartbeats 4000000 in
theorem none_walk (n : Int) (w : World) : Calls Try.prog 5 #[.int .i64 n] w fun e w' => e = .returned (.bool true) ∧ Below w.heap.size w w' := by
  obtain ⟨w0, hw0⟩ : ∃ w0, w0 = (w.alloc (.cells #[.pointer none, .int .u32 0, .int .u32 0, .slice none 0 0] 55)).alloc (.cells #[.pointer none, .int .u32 0, .int .u32 0, .int .u32 0, .slice none 0 0, .int .i64 0] 57) := ⟨_, rfl⟩
  have hb0 : Below w.heap.size w w0 := by rw [hw0]; exact ((Below.refl _ w).alloc (Nat.le_refl _) _).alloc (by simp) _
  have ce : w0.cell? ⟨w.heap.size, 0, none⟩ = some (.pointer none) := by rw [hw0, row_cell (heap_alloc2_old w _ _)]; rfl
  have cd : w0.cell? ⟨w.heap.size + 1, 0, none⟩ = some (.pointer none) := by rw [hw0, row_cell (heap_alloc2_new w _ _)]; rfl
  have m1 := made_nil w0
  have m2 := made_zero w.heap.size w0 ce
  have d1 := dmade_nil w0
  have d2 := dmade_zero (w.heap.size + 1) w0 cd
  have G1 := hid (Get_none _ w0 d1 5)
  have G2 := hid (Get_none _ w0 d2 5)
  have P1 := hid (Put_none _ w0 m1 1 5)
  have P2 := hid (Put_none _ w0 m2 1 5)
  have L1 := hid (Len_none _ w0 m1)
  have L2 := hid (Len_none _ w0 m2)
  have R1 := hid (Read_none _ w0 d1)
  have R2 := hid (Read_none _ w0 d2)
  have E1 := hid (End_none _ w0 m1)
  have E2 := hid (End_none _ w0 m2)
  have O0 := hid (OL.nil hb0)
  have and1 := i64_and1 n
  obtain ⟨bt, hbt⟩ : ∃ bt, bt = n % 2 := ⟨_, rfl⟩
  rw [← hbt] at and1
  have HF := hid (esZ_full bt (by omega))
  clear m1 m2 d1 d2 ce cd hb0 hbt
  subst hw0
  go_enter Try.func5, Try.ntmps5
  go_wp2_with (first
    | (go_at_call 20; (with_reducible refine G1.out.mono ?_); rintro r w' ⟨rfl, rfl⟩)
    | (go_at_call 20; (with_reducible refine G2.out.mono ?_); rintro r w' ⟨rfl, rfl⟩)
    | (go_at_call 10; (with_reducible refine P1.out.mono ?_); rintro r w' ⟨rfl, rfl⟩)
    | (go_at_call 10; (with_reducible refine P2.out.mono ?_); rintro r w' ⟨rfl, rfl⟩)
    | (go_at_call 12; (with_reducible refine L1.out.mono ?_); rintro r w' ⟨rfl, rfl⟩)
    | (go_at_call 12; (with_reducible refine L2.out.mono ?_); rintro r w' ⟨rfl, rfl⟩)
    | (go_at_call 22; (with_reducible refine R1.out.mono ?_); rintro r w' ⟨rfl, rfl⟩)
    | (go_at_call 22; (with_reducible refine R2.out.mono ?_); rintro r w' ⟨rfl, rfl⟩)
    | (go_at_call 13; (with_reducible refine E1.out.mono ?_); rintro r w' ⟨rfl, rfl⟩)
    | (go_at_call 13; (with_reducible refine E2.out.mono ?_); rintro r w' ⟨rfl, rfl⟩)
    | (go_at_call 8; (with_reducible refine O0.out.new.mono ?_); rintro r w1 ⟨a, rfl, h1⟩; have O1 := hid h1; clear h1))
  go_loopw [12] (fun vi wr => ∃ i, i ≤ 32768 ∧ vi = .int .i64 (i : Nat) ∧ Hid (OL wr.heap.size w wr [(true, a, esZ i)])) (fun vi _ => 32768 - (intOf vi).toNat)
  case atStart => exact ⟨0, Nat.zero_le _, rfl, O1⟩
  case round =>
    obtain ⟨i, hi, rfl, hst⟩ := hrel
    clear O0 O1 G1 G2 P1 P2 L1 L2 R1 R2 E1 E2
    by_cases hlt : i < 32768
    · have hlz : decide (i < 32768) = true := decide_eq_true hlt
      have hlz2 : decide ((i : Int) < 32768) = true := decide_eq_true (by omega)
      have PA := hid (esZ_put i hlt)
      have HLT := hid hlt
      clear hlt
      go_wp2_with (first
        | (go_at_call 10; (with_reducible refine (hst.out.put10 1 1 PA.out 0 rfl).mono ?_); rintro r w3 ⟨rfl, h3⟩; have O3 := hid h3; clear h3))
      have hlt := HLT.out
      go_roundw
      case rel => exact ⟨i + 1, by omega, by go_num, O3⟩
      case measure => simp [intOf]; omega
    · obtain rfl : i = 32768 := by omega
      clear hi hlt
      rw [show ((32768 : Nat) : Int) = 32768 from rfl]
      have HLn : Hid (Calls Try.prog 12 #[.pointer (some ⟨a, 0, none⟩)] wr fun r w' => r = .returned (.int .i64 65536) ∧ wr = w') := by
        refine hst.out.len.mono ?_
        rintro r w' ⟨rfl, rfl⟩
        refine ⟨?_, rfl⟩
        show Ending.returned (Value.int IntKind.i64 (((List.replicate (2 * 32768) (0 : UInt8)).length : Nat) : Int)) = _
        rw [List.length_replicate]
        rfl
      go_wp2_with (first
        | (go_at_call 12; (with_reducible refine HLn.out.mono ?_); rintro r w' ⟨rfl, rfl⟩)
        | (go_at_call 10; (with_reducible refine (hst.out.put10 bt 1 HF.out 3 rfl).mono ?_); rintro r w4 ⟨rfl, h4⟩; have O4 := hid h4; clear h4)
        | (go_at_call 13; (with_reducible refine (O4.out.endL _ rfl 65540 esZ_end).mono ?_); rintro r w5 ⟨A5, c5, rfl, _, b5⟩; have B5 := hid (bel_trans O4.out.bel b5); clear b5)
        | (go_at_call 16; (refine (awake_any _).mono ?_); rintro r w6 ⟨rfl, b6⟩; have B6 := hid (bel_trans B5.out b6)))
      go_ret
      exact ⟨rfl, B6.out⟩
end Go.Proofs.Ytbgbacajgaeooaa
