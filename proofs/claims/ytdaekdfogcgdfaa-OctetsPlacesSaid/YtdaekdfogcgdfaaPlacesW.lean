/-
  The walk of OctetsPlaces.
-/
import Derived.Test.YtdaekdfogcgdfaaFrame
namespace Go.Proofs.Ytdaekdfogcgdfaa
open Go.RowKit

theorem has_int_yes {k n : Nat} {a : Int} (h0 : 0 ≤ a) (h : a + k ≤ n) : has k n a = true := by
  unfold has; rw [decide_eq_true_iff]; omega
theorem has_int_no {k n : Nat} {a : Int} (h : a < 0 ∨ (n : Int) < a + k) : has k n a = false := by
  unfold has; rw [decide_eq_false_iff_not]; omega

theorem idx0 (x0 x1 x2 x3 : Value) (w : World) : (Instr.index 49 (.agg #[x0, x1, x2, x3]) (.int .i64 0)).run Try.prog w = .ok x0 w := by kernel_rfl
theorem idx1 (x0 x1 x2 x3 : Value) (w : World) : (Instr.index 49 (.agg #[x0, x1, x2, x3]) (.int .i64 1)).run Try.prog w = .ok x1 w := by kernel_rfl
theorem idx2 (x0 x1 x2 x3 : Value) (w : World) : (Instr.index 49 (.agg #[x0, x1, x2, x3]) (.int .i64 2)).run Try.prog w = .ok x2 w := by kernel_rfl
theorem idx3 (x0 x1 x2 x3 : Value) (w : World) : (Instr.index 49 (.agg #[x0, x1, x2, x3]) (.int .i64 3)).run Try.prog w = .ok x3 w := by kernel_rfl

set_option maxHeartbeats 400000 in
theorem places_long (A : Option Addr) (n c : Nat) (w : World) (h100 : 100 < n) :
    Calls Try.prog 6 #[.slice A n c] w fun e w' => e = .returned (.bool true) ∧ Below w.heap.size w w' := by
  go_enter Try.func6, Try.ntmps6
  go_wp2_with (go_at_call 19; refine (awake_any _).mono ?_; rintro e w' ⟨rfl, hb⟩)
  go_ret
  exact ⟨rfl, hb⟩
set_option maxRecDepth 10000 in
set_option maxHeartbeats 4000000 in
theorem places_walk (A : Option Addr) (l : List UInt8) (n c : Nat) (w : World) (h : IsBB w w.heap.size A n c l) :
    Calls Try.prog 6 #[.slice A n c] w fun e w' => e = .returned (.bool true) ∧ Below w.heap.size w w' := by
  by_cases h100 : 100 < n
  · exact places_long A n c w h100
  · go_enter Try.func6, Try.ntmps6
    go_wp2_with fail
    go_loop [3] (fun i => ∃ a : Int, -9 ≤ a ∧ a ≤ n + 9 ∧ i = .int .i64 a) (fun i => ((n : Int) + 9 - intOf i).toNat)
    case atStart => exact ⟨-9, by omega, by omega, rfl⟩
    case round =>
      obtain ⟨a, ha, hb, rfl⟩ := hrel
      by_cases hlt : a < n + 9
      · have cases6 : a < 0 ∨ (0 ≤ a ∧ a + 8 ≤ n) ∨ (0 ≤ a ∧ a + 4 ≤ n ∧ n < a + 8) ∨ (0 ≤ a ∧ a + 2 ≤ n ∧ n < a + 4) ∨ (0 ≤ a ∧ a + 1 ≤ n ∧ n < a + 2) ∨ (0 ≤ a ∧ n < a + 1) := by omega
        rcases cases6 with hc | ⟨hc0, hc⟩ | ⟨hc0, hc, hd⟩ | ⟨hc0, hc, hd⟩ | ⟨hc0, hc, hd⟩ | ⟨hc0, hd⟩
        · have e1 : has 1 n a = false := has_int_no (by omega)
          have e2 : has 2 n a = false := has_int_no (by omega)
          have e4 : has 4 n a = false := has_int_no (by omega)
          have e8 : has 8 n a = false := has_int_no (by omega)
          have i0 := idx0
          have i1 := idx1
          have i2 := idx2
          have i3 := idx3
          go_wp2_with (first
            | (go_at_call 21; refine (U8_any _ _ _ _ _ _ h.toIsB).mono ?_; rintro e w' ⟨rfl, rfl⟩)
            | (go_at_call 12; refine (U16_any _ _ _ _ _ _ h.toIsB).mono ?_; rintro e w' ⟨rfl, rfl⟩)
            | (go_at_call 22; refine (U32_any _ _ _ _ _ _ h.toIsB).mono ?_; rintro e w' ⟨rfl, rfl⟩)
            | (go_at_call 11; refine (U64_any _ _ _ _ _ _ h.toIsB).mono ?_; rintro e w' ⟨rfl, rfl⟩))
          refine wp_loop_rounds 5 ?_
          iterate 5 (rw [rounds_succ]; go_wp2)
          go_round
          case rel => exact ⟨a + 1, by omega, by omega, rfl⟩
          case measure => simp [intOf]; omega
        · have e1 : has 1 n a = true := has_int_yes hc0 (by omega)
          have d1 : decide (a + 1 ≤ (n : Int)) = true := decide_eq_true (by omega)
          have e2 : has 2 n a = true := has_int_yes hc0 (by omega)
          have d2 : decide (a + 2 ≤ (n : Int)) = true := decide_eq_true (by omega)
          have e4 : has 4 n a = true := has_int_yes hc0 (by omega)
          have d4 : decide (a + 4 ≤ (n : Int)) = true := decide_eq_true (by omega)
          have e8 : has 8 n a = true := has_int_yes hc0 (by omega)
          have d8 : decide (a + 8 ≤ (n : Int)) = true := decide_eq_true (by omega)
          have i0 := idx0
          have i1 := idx1
          have i2 := idx2
          have i3 := idx3
          go_wp2_with (first
            | (go_at_call 21; refine (U8_any _ _ _ _ _ _ h.toIsB).mono ?_; rintro e w' ⟨rfl, rfl⟩)
            | (go_at_call 12; refine (U16_any _ _ _ _ _ _ h.toIsB).mono ?_; rintro e w' ⟨rfl, rfl⟩)
            | (go_at_call 22; refine (U32_any _ _ _ _ _ _ h.toIsB).mono ?_; rintro e w' ⟨rfl, rfl⟩)
            | (go_at_call 11; refine (U64_any _ _ _ _ _ _ h.toIsB).mono ?_; rintro e w' ⟨rfl, rfl⟩))
          refine wp_loop_rounds 5 ?_
          iterate 5 (rw [rounds_succ]; go_wp2)
          go_round
          case rel => exact ⟨a + 1, by omega, by omega, rfl⟩
          case measure => simp [intOf]; omega
        · have e1 : has 1 n a = true := has_int_yes hc0 (by omega)
          have d1 : decide (a + 1 ≤ (n : Int)) = true := decide_eq_true (by omega)
          have e2 : has 2 n a = true := has_int_yes hc0 (by omega)
          have d2 : decide (a + 2 ≤ (n : Int)) = true := decide_eq_true (by omega)
          have e4 : has 4 n a = true := has_int_yes hc0 (by omega)
          have d4 : decide (a + 4 ≤ (n : Int)) = true := decide_eq_true (by omega)
          have e8 : has 8 n a = false := has_int_no (by omega)
          have d8 : decide (a + 8 ≤ (n : Int)) = false := decide_eq_false (by omega)
          have i0 := idx0
          have i1 := idx1
          have i2 := idx2
          have i3 := idx3
          go_wp2_with (first
            | (go_at_call 21; refine (U8_any _ _ _ _ _ _ h.toIsB).mono ?_; rintro e w' ⟨rfl, rfl⟩)
            | (go_at_call 12; refine (U16_any _ _ _ _ _ _ h.toIsB).mono ?_; rintro e w' ⟨rfl, rfl⟩)
            | (go_at_call 22; refine (U32_any _ _ _ _ _ _ h.toIsB).mono ?_; rintro e w' ⟨rfl, rfl⟩)
            | (go_at_call 11; refine (U64_any _ _ _ _ _ _ h.toIsB).mono ?_; rintro e w' ⟨rfl, rfl⟩))
          refine wp_loop_rounds 5 ?_
          iterate 5 (rw [rounds_succ]; go_wp2)
          go_round
          case rel => exact ⟨a + 1, by omega, by omega, rfl⟩
          case measure => simp [intOf]; omega
        · have e1 : has 1 n a = true := has_int_yes hc0 (by omega)
          have d1 : decide (a + 1 ≤ (n : Int)) = true := decide_eq_true (by omega)
          have e2 : has 2 n a = true := has_int_yes hc0 (by omega)
          have d2 : decide (a + 2 ≤ (n : Int)) = true := decide_eq_true (by omega)
          have e4 : has 4 n a = false := has_int_no (by omega)
          have d4 : decide (a + 4 ≤ (n : Int)) = false := decide_eq_false (by omega)
          have e8 : has 8 n a = false := has_int_no (by omega)
          have d8 : decide (a + 8 ≤ (n : Int)) = false := decide_eq_false (by omega)
          have i0 := idx0
          have i1 := idx1
          have i2 := idx2
          have i3 := idx3
          go_wp2_with (first
            | (go_at_call 21; refine (U8_any _ _ _ _ _ _ h.toIsB).mono ?_; rintro e w' ⟨rfl, rfl⟩)
            | (go_at_call 12; refine (U16_any _ _ _ _ _ _ h.toIsB).mono ?_; rintro e w' ⟨rfl, rfl⟩)
            | (go_at_call 22; refine (U32_any _ _ _ _ _ _ h.toIsB).mono ?_; rintro e w' ⟨rfl, rfl⟩)
            | (go_at_call 11; refine (U64_any _ _ _ _ _ _ h.toIsB).mono ?_; rintro e w' ⟨rfl, rfl⟩))
          refine wp_loop_rounds 5 ?_
          iterate 5 (rw [rounds_succ]; go_wp2)
          go_round
          case rel => exact ⟨a + 1, by omega, by omega, rfl⟩
          case measure => simp [intOf]; omega
        · have e1 : has 1 n a = true := has_int_yes hc0 (by omega)
          have d1 : decide (a + 1 ≤ (n : Int)) = true := decide_eq_true (by omega)
          have e2 : has 2 n a = false := has_int_no (by omega)
          have d2 : decide (a + 2 ≤ (n : Int)) = false := decide_eq_false (by omega)
          have e4 : has 4 n a = false := has_int_no (by omega)
          have d4 : decide (a + 4 ≤ (n : Int)) = false := decide_eq_false (by omega)
          have e8 : has 8 n a = false := has_int_no (by omega)
          have d8 : decide (a + 8 ≤ (n : Int)) = false := decide_eq_false (by omega)
          have i0 := idx0
          have i1 := idx1
          have i2 := idx2
          have i3 := idx3
          go_wp2_with (first
            | (go_at_call 21; refine (U8_any _ _ _ _ _ _ h.toIsB).mono ?_; rintro e w' ⟨rfl, rfl⟩)
            | (go_at_call 12; refine (U16_any _ _ _ _ _ _ h.toIsB).mono ?_; rintro e w' ⟨rfl, rfl⟩)
            | (go_at_call 22; refine (U32_any _ _ _ _ _ _ h.toIsB).mono ?_; rintro e w' ⟨rfl, rfl⟩)
            | (go_at_call 11; refine (U64_any _ _ _ _ _ _ h.toIsB).mono ?_; rintro e w' ⟨rfl, rfl⟩))
          refine wp_loop_rounds 5 ?_
          iterate 5 (rw [rounds_succ]; go_wp2)
          go_round
          case rel => exact ⟨a + 1, by omega, by omega, rfl⟩
          case measure => simp [intOf]; omega
        · have e1 : has 1 n a = false := has_int_no (by omega)
          have d1 : decide (a + 1 ≤ (n : Int)) = false := decide_eq_false (by omega)
          have e2 : has 2 n a = false := has_int_no (by omega)
          have d2 : decide (a + 2 ≤ (n : Int)) = false := decide_eq_false (by omega)
          have e4 : has 4 n a = false := has_int_no (by omega)
          have d4 : decide (a + 4 ≤ (n : Int)) = false := decide_eq_false (by omega)
          have e8 : has 8 n a = false := has_int_no (by omega)
          have d8 : decide (a + 8 ≤ (n : Int)) = false := decide_eq_false (by omega)
          have i0 := idx0
          have i1 := idx1
          have i2 := idx2
          have i3 := idx3
          go_wp2_with (first
            | (go_at_call 21; refine (U8_any _ _ _ _ _ _ h.toIsB).mono ?_; rintro e w' ⟨rfl, rfl⟩)
            | (go_at_call 12; refine (U16_any _ _ _ _ _ _ h.toIsB).mono ?_; rintro e w' ⟨rfl, rfl⟩)
            | (go_at_call 22; refine (U32_any _ _ _ _ _ _ h.toIsB).mono ?_; rintro e w' ⟨rfl, rfl⟩)
            | (go_at_call 11; refine (U64_any _ _ _ _ _ _ h.toIsB).mono ?_; rintro e w' ⟨rfl, rfl⟩))
          refine wp_loop_rounds 5 ?_
          iterate 5 (rw [rounds_succ]; go_wp2)
          go_round
          case rel => exact ⟨a + 1, by omega, by omega, rfl⟩
          case measure => simp [intOf]; omega
      · go_wp2_with (go_at_call 19; refine (awake_any _).mono ?_; rintro e w' ⟨rfl, hb⟩)
        go_ret
        exact ⟨rfl, hb⟩
end Go.Proofs.Ytdaekdfogcgdfaa
