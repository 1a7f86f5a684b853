/-
  The contracts of power, right.
-/
import Derived.Test.YtaogileaeflnfaaPwr
set_option linter.unusedVariables false
set_option linter.unusedSimpArgs false
namespace Go.Proofs.Ytaogileaeflnfaa
open Go.RowKit

set_option maxRecDepth 10000 in
set_option maxHeartbeats 8000000 in
theorem ones_top (n : Nat) (hn : n ≤ 5000) (w : World) : Calls Try.prog 56 #[.int .u64 (n : Int)] w fun e w' => e = .returned (.int .i64 (pcN n : Nat)) ∧ w' = w := by
  have HO := hid (ones_any n hn)
  have h1 : (n : Int) ≤ 5000 := by omega
  go_enter Try.func56, Try.ntmps56
  go_wp2_with (go_at_call 63; with_reducible refine (HO.out _).mono ?_; rintro r w' ⟨rfl, rfl⟩)
  go_ret
  exact ⟨rfl, rfl⟩
instance (n k : Nat) : Decidable (pw2 n k) := decidable_of_iff (∃ j, j < k + 1 ∧ n = 2 ^ j) ⟨fun ⟨j, h, e⟩ => ⟨j, by omega, e⟩, fun ⟨j, h, e⟩ => ⟨j, by omega, e⟩⟩
theorem pw2_iff (n k : Nat) (hn : n ≤ 5000) (hk : k = 8 ∨ k = 12) : pw2 n k ↔ (pcN n = 1 ∧ n ≤ 2 ^ k) := by
  have h := List.all_eq_true.1 pc_two n (List.mem_range.2 (by omega))
  have h2 : (pcN n = 1) ↔ n ∈ [1, 2, 4, 8, 16, 32, 64, 128, 256, 512, 1024, 2048, 4096] := by
    rw [beq_iff_eq] at h
    constructor
    · intro e
      have : (pcN n == 1) = true := by simp [e]
      rw [this] at h
      exact List.contains_iff_mem.1 h.symm
    · intro e
      have : [1, 2, 4, 8, 16, 32, 64, 128, 256, 512, 1024, 2048, 4096].contains n = true := List.contains_iff_mem.2 e
      rw [this] at h
      simpa using h
  rw [h2]
  constructor
  · rintro ⟨j, hj, rfl⟩
    refine ⟨?_, Nat.pow_le_pow_right (n := 2) (by omega) hj⟩
    have hj2 : j ≤ 12 := by omega
    rcases (by omega : j = 0 ∨ j = 1 ∨ j = 2 ∨ j = 3 ∨ j = 4 ∨ j = 5 ∨ j = 6 ∨ j = 7 ∨ j = 8 ∨ j = 9 ∨ j = 10 ∨ j = 11 ∨ j = 12) with rfl | rfl | rfl | rfl | rfl | rfl | rfl | rfl | rfl | rfl | rfl | rfl | rfl <;> decide
  · rintro ⟨hm, hle⟩
    have key : ∀ j, n = 2 ^ j → pw2 n k := by
      rintro j rfl
      refine ⟨j, ?_, rfl⟩
      exact (Nat.pow_le_pow_iff_right (by omega)).1 hle
    simp only [List.mem_cons, List.not_mem_nil, or_false] at hm
    rcases hm with rfl | rfl | rfl | rfl | rfl | rfl | rfl | rfl | rfl | rfl | rfl | rfl | rfl
    · exact key 0 rfl
    · exact key 1 rfl
    · exact key 2 rfl
    · exact key 3 rfl
    · exact key 4 rfl
    · exact key 5 rfl
    · exact key 6 rfl
    · exact key 7 rfl
    · exact key 8 rfl
    · exact key 9 rfl
    · exact key 10 rfl
    · exact key 11 rfl
    · exact key 12 rfl
set_option maxRecDepth 10000 in
set_option maxHeartbeats 8000000 in
theorem power_any (n k : Nat) (hn : n ≤ 5000) (hk : k = 8 ∨ k = 12) (w : World) : Calls Try.prog 43 #[.int .i64 (n : Int), .int .i64 (k : Int)] w fun e w' => e = .returned (.bool (decide (pw2 n k))) ∧ w' = w := by
  have HO := hid (ones_top n hn)
  have h1 : (n : Int) ≤ 5000 := by omega
  have HE := hid (pw2_iff n k hn hk)
  by_cases h2 : pcN n = 1
  · by_cases h3 : n ≤ 2 ^ k
    · rw [decide_eq_true (HE.out.2 ⟨h2, h3⟩), ]
      rw [h2] at HO
      clear HE h2
      rcases hk with rfl | rfl
      · have h4 : (n : Int) ≤ 256 := by omega
        clear h3
        go_enter Try.func43, Try.ntmps43
        go_wp2_with (go_at_call 56; with_reducible refine (HO.out _).mono ?_; rintro r w' ⟨rfl, rfl⟩)
        go_ret
        exact ⟨rfl, rfl⟩
      · have h4 : (n : Int) ≤ 4096 := by omega
        clear h3
        go_enter Try.func43, Try.ntmps43
        go_wp2_with (go_at_call 56; with_reducible refine (HO.out _).mono ?_; rintro r w' ⟨rfl, rfl⟩)
        go_ret
        exact ⟨rfl, rfl⟩
    · rw [decide_eq_false (fun h => h3 (HE.out.1 h).2)]
      rw [h2] at HO
      clear HE h2
      rcases hk with rfl | rfl
      · have h4 : decide ((n : Int) ≤ 256) = false := decide_eq_false (by omega)
        clear h3
        go_enter Try.func43, Try.ntmps43
        go_wp2_with (go_at_call 56; with_reducible refine (HO.out _).mono ?_; rintro r w' ⟨rfl, rfl⟩)
        go_ret
        exact ⟨rfl, rfl⟩
      · have h4 : decide ((n : Int) ≤ 4096) = false := decide_eq_false (by omega)
        clear h3
        go_enter Try.func43, Try.ntmps43
        go_wp2_with (go_at_call 56; with_reducible refine (HO.out _).mono ?_; rintro r w' ⟨rfl, rfl⟩)
        go_ret
        exact ⟨rfl, rfl⟩
  · rw [decide_eq_false (fun h => h2 (HE.out.1 h).1)]
    have h5 : (((pcN n : Nat) : Int) == 1) = false := by simp only [beq_eq_false_iff_ne, ne_eq]; omega
    clear HE h2
    generalize pcN n = q at *
    go_enter Try.func43, Try.ntmps43
    go_wp2_with (go_at_call 56; with_reducible refine (HO.out _).mono ?_; rintro r w' ⟨rfl, rfl⟩)
    go_ret
    exact ⟨rfl, rfl⟩
instance (x : Mn) : Decidable x.ok := inferInstanceAs (Decidable (_ ∧ _))
set_option maxRecDepth 10000 in
set_option maxHeartbeats 8000000 in
theorem right_any (w : World) (g : Nat) (x : Mn) (AH AM : Option Addr) (nH cH nM cM : Nat) (h : MR w g x AH nH cH AM nM cM) (h1 : nH ≤ 5000) (h2 : nM ≤ 5000) : Calls Try.prog 24 #[.pointer (some ⟨g, 0, none⟩)] w fun e w' => e = .returned (.bool (decide x.ok)) ∧ w' = w := by
  have e : decide x.ok = (decide (pw2 nH 8) && decide (pw2 nM 12)) := by
    rw [← h.h.len, ← h.m.len]
    exact Bool.decide_and _ _
  rw [e]
  have c1 := h.ch
  have c2 := h.cm
  have H1 : Hid (∀ w, Calls Try.prog 43 #[.int .i64 (nH : Int), .int .i64 8] w fun e w' => e = .returned (.bool (decide (pw2 nH 8))) ∧ w' = w) := fun w => power_any nH 8 h1 (.inl rfl) w
  have H2 : Hid (∀ w, Calls Try.prog 43 #[.int .i64 (nM : Int), .int .i64 12] w fun e w' => e = .returned (.bool (decide (pw2 nM 12))) ∧ w' = w) := fun w => power_any nM 12 h2 (.inr rfl) w
  clear h e
  generalize decide (pw2 nH 8) = p at *
  generalize decide (pw2 nM 12) = q at *
  cases p
  · go_enter Try.func24, Try.ntmps24
    go_wp2_with (go_at_call 43; with_reducible refine (H1.out _).mono ?_; rintro r w' ⟨rfl, rfl⟩)
    go_ret
    exact ⟨rfl, rfl⟩
  · go_enter Try.func24, Try.ntmps24
    go_wp2_with (go_at_call 43; first | (with_reducible refine (H1.out _).mono ?_; rintro r w' ⟨rfl, rfl⟩) | (with_reducible refine (H2.out _).mono ?_; rintro r w' ⟨rfl, rfl⟩))
    go_ret
    exact ⟨rfl, rfl⟩
end Go.Proofs.Ytaogileaeflnfaa
