/-
  Merged: Pwr Pwx.
-/
import Derived.Test.YtaogileaeflnfaaTll
import Derived.Test.YtaogileaeflnfaaTch
/-
  The contracts of OnesCount, power, right, works, compares, taken.
-/
set_option linter.unusedVariables false
set_option linter.unusedSimpArgs false
namespace Go.Proofs.Ytaogileaeflnfaa
open Go.RowKit

/-- How many bits of n are set, as OnesCount64 reckons it (n small). -/
def pcA (n : Nat) : Nat := (n / 2 &&& 6148914691236517205) + (n &&& 6148914691236517205)
def pcB (n : Nat) : Nat := (n / 4 &&& 3689348814741910323) + (n &&& 3689348814741910323)
def pcC (n : Nat) : Nat := (n / 16 + n) &&& 1085102592571150095
def pcD (n : Nat) : Nat := n + n / 256
def pcE (n : Nat) : Nat := n + n / 65536
def pcF (n : Nat) : Nat := n + n / 4294967296
def pcN (n : Nat) : Nat := pcF (pcE (pcD (pcC (pcB (pcA n))))) &&& 127
theorem pc_two : (List.range 5001).all (fun n => (pcN n == 1) == [1, 2, 4, 8, 16, 32, 64, 128, 256, 512, 1024, 2048, 4096].contains n) = true := by decide +kernel
theorem wr_u64 (x : Int) (h : 0 ≤ x ∧ x < 18446744073709551616) : IntKind.u64.wrap x = x := by
  show x % 18446744073709551616 = x
  omega
theorem i64_and_nat (a : Nat) (ha : a < 9223372036854775808) : bits .and .i64 (a : Int) 127 = ((a &&& 127 : Nat) : Int) := by
  have h : a &&& 127 ≤ 127 := Nat.and_le_right
  have e1 : BitVec.ofInt 64 (a : Int) = BitVec.ofNat 64 a := BitVec.ofInt_natCast 64 a
  have e2 : BitVec.ofInt 64 (127 : Int) = BitVec.ofNat 64 127 := rfl
  show IntKind.i64.wrap ((BitVec.ofInt 64 (a : Int) &&& BitVec.ofInt 64 (127 : Int)).toNat : Int) = _
  rw [e1, e2, BitVec.toNat_and, BitVec.toNat_ofNat, BitVec.toNat_ofNat, Nat.mod_eq_of_lt (by omega), show 127 % 2 ^ 64 = 127 from rfl]
  exact IntWalk.i64_in _ (by omega)
set_option maxRecDepth 10000 in
set_option maxHeartbeats 8000000 in
theorem ones_any (n : Nat) (hn : n ≤ 5000) (w : World) : Calls Try.prog 63 #[.int .u64 (n : Int)] w fun e w' => e = .returned (.int .i64 (pcN n : Nat)) ∧ w' = w := by
  have a1 : bits .and .u64 ((n : Int) / 2) 6148914691236517205 = ((n / 2 &&& 6148914691236517205 : Nat) : Int) := by
    rw [show (n : Int) / 2 = ((n / 2 : Nat) : Int) by omega]; exact u64_and_nat _ _ (by omega) (by decide)
  have a2 : bits .and .u64 (n : Int) 6148914691236517205 = ((n &&& 6148914691236517205 : Nat) : Int) := u64_and_nat _ _ (by omega) (by decide)
  have hN : pcN n = pcF (pcE (pcD (pcC (pcB (pcA n))))) &&& 127 := rfl
  generalize pcN n = res at *
  have hA : pcA n = (n / 2 &&& 6148914691236517205) + (n &&& 6148914691236517205) := rfl
  generalize pcA n = A at *
  have b1 : n / 2 &&& 6148914691236517205 ≤ n / 2 := Nat.and_le_left
  have b2 : n &&& 6148914691236517205 ≤ n := Nat.and_le_left
  generalize n / 2 &&& 6148914691236517205 = p1 at *
  generalize n &&& 6148914691236517205 = p2 at *
  have a3 : IntKind.u64.wrap ((p1 : Int) + p2) = (A : Int) := by rw [wr_u64 _ (by omega)]; omega
  have hA2 : A ≤ 10000 := by omega
  have a4 : bits .and .u64 ((A : Int) / 4) 3689348814741910323 = ((A / 4 &&& 3689348814741910323 : Nat) : Int) := by
    rw [show (A : Int) / 4 = ((A / 4 : Nat) : Int) by omega]; exact u64_and_nat _ _ (by omega) (by decide)
  have a5 : bits .and .u64 (A : Int) 3689348814741910323 = ((A &&& 3689348814741910323 : Nat) : Int) := u64_and_nat _ _ (by omega) (by decide)
  have hB : pcB A = (A / 4 &&& 3689348814741910323) + (A &&& 3689348814741910323) := rfl
  generalize pcB A = B at *
  have b3 : A / 4 &&& 3689348814741910323 ≤ A / 4 := Nat.and_le_left
  have b4 : A &&& 3689348814741910323 ≤ A := Nat.and_le_left
  generalize A / 4 &&& 3689348814741910323 = p3 at *
  generalize A &&& 3689348814741910323 = p4 at *
  have a6 : IntKind.u64.wrap ((p3 : Int) + p4) = (B : Int) := by rw [wr_u64 _ (by omega)]; omega
  have hB2 : B ≤ 20000 := by omega
  obtain ⟨B2, hB3⟩ : ∃ B2, B / 16 + B = B2 := ⟨_, rfl⟩
  have a7 : IntKind.u64.wrap ((B : Int) / 16 + B) = (B2 : Int) := by rw [wr_u64 _ (by omega)]; omega
  have a8 : bits .and .u64 (B2 : Int) 1085102592571150095 = ((B2 &&& 1085102592571150095 : Nat) : Int) := u64_and_nat _ _ (by omega) (by decide)
  have hC : pcC B = B2 &&& 1085102592571150095 := by unfold pcC; rw [hB3]
  have b5 : B2 &&& 1085102592571150095 ≤ B2 := Nat.and_le_left
  generalize pcC B = C at *
  rw [← hC] at a8 b5
  have a9 : IntKind.u64.wrap ((C : Int) + (C : Int) / 256) = (pcD C : Nat) := by unfold pcD; rw [wr_u64 _ (by omega)]; omega
  have b6 : pcD C ≤ 50000 := by unfold pcD; omega
  generalize pcD C = D at *
  have a10 : IntKind.u64.wrap ((D : Int) + (D : Int) / 65536) = (pcE D : Nat) := by unfold pcE; rw [wr_u64 _ (by omega)]; omega
  have b7 : pcE D ≤ 60000 := by unfold pcE; omega
  generalize pcE D = E at *
  have a11 : IntKind.u64.wrap ((E : Int) + (E : Int) / 4294967296) = (pcF E : Nat) := by unfold pcF; rw [wr_u64 _ (by omega)]; omega
  have b8 : pcF E ≤ 70000 := by unfold pcF; omega
  generalize pcF E = F at *
  have a12 : bits .and .i64 (F : Int) 127 = (res : Int) := by rw [i64_and_nat F (by omega), hN]
  have a13 : IntKind.i64.wrap (F : Int) = (F : Int) := IntWalk.i64_in _ (by omega)
  clear hN hA hB hC hB3 b1 b2 b3 b4 b5 b6 b7 hA2 hB2
  go_enter Try.func63, Try.ntmps63
  go_wp2_with fail
  go_ret
  exact ⟨rfl, rfl⟩
set_option maxRecDepth 10000 in
set_option maxHeartbeats 8000000 in
theorem works_any (o : Int) (w : World) : Calls Try.prog 22 #[.int .u8 o] w fun e w' => e = .returned (.bool (decide (1 ≤ o ∧ o ≤ 25))) ∧ w' = w := by
  by_cases h1 : 1 ≤ o
  · by_cases h2 : o ≤ 25
    · have d1 : decide ((1 : Int) ≤ o) = true := decide_eq_true h1
      have d2 : decide (o ≤ 25) = true := decide_eq_true h2
      rw [decide_eq_true (And.intro h1 h2)]
      clear h1 h2
      go_enter Try.func22, Try.ntmps22
      go_wp2_with fail
      go_ret
      exact ⟨rfl, rfl⟩
    · have d1 : decide ((1 : Int) ≤ o) = true := decide_eq_true h1
      have d2 : decide (o ≤ 25) = false := decide_eq_false h2
      rw [decide_eq_false (fun h => h2 h.2)]
      clear h1 h2
      go_enter Try.func22, Try.ntmps22
      go_wp2_with fail
      go_ret
      exact ⟨rfl, rfl⟩
  · have d1 : decide ((1 : Int) ≤ o) = false := decide_eq_false h1
    rw [decide_eq_false (fun h => h1 h.1)]
    clear h1
    go_enter Try.func22, Try.ntmps22
    go_wp2_with fail
    go_ret
    exact ⟨rfl, rfl⟩
set_option maxRecDepth 10000 in
set_option maxHeartbeats 8000000 in
theorem compares_any (o : Int) (w : World) : Calls Try.prog 32 #[.int .u8 o] w fun e w' => e = .returned (.bool (decide (19 ≤ o ∧ o ≤ 21))) ∧ w' = w := by
  by_cases h1 : 19 ≤ o
  · by_cases h2 : o ≤ 21
    · have d1 : decide ((19 : Int) ≤ o) = true := decide_eq_true h1
      have d2 : decide (o ≤ 21) = true := decide_eq_true h2
      rw [decide_eq_true (And.intro h1 h2)]
      clear h1 h2
      go_enter Try.func32, Try.ntmps32
      go_wp2_with fail
      go_ret
      exact ⟨rfl, rfl⟩
    · have d1 : decide ((19 : Int) ≤ o) = true := decide_eq_true h1
      have d2 : decide (o ≤ 21) = false := decide_eq_false h2
      rw [decide_eq_false (fun h => h2 h.2)]
      clear h1 h2
      go_enter Try.func32, Try.ntmps32
      go_wp2_with fail
      go_ret
      exact ⟨rfl, rfl⟩
  · have d1 : decide ((19 : Int) ≤ o) = false := decide_eq_false h1
    rw [decide_eq_false (fun h => h1 h.1)]
    clear h1
    go_enter Try.func32, Try.ntmps32
    go_wp2_with fail
    go_ret
    exact ⟨rfl, rfl⟩
/-- Is a jump taken? -/
def tkn (o : Int) (f : Bool) : Bool := if o = 27 then f else if o = 28 then !f else true
set_option maxRecDepth 10000 in
set_option maxHeartbeats 8000000 in
theorem taken_any (o : Int) (f : Bool) (w : World) : Calls Try.prog 53 #[.int .u8 o, .bool f] w fun e w' => e = .returned (.bool (tkn o f)) ∧ w' = w := by
  by_cases h1 : o = 27
  · subst h1
    go_enter Try.func53, Try.ntmps53
    go_wp2_with fail
    go_ret
    exact ⟨rfl, rfl⟩
  by_cases h2 : o = 28
  · subst h2
    go_enter Try.func53, Try.ntmps53
    go_wp2_with fail
    go_ret
    exact ⟨by cases f <;> rfl, rfl⟩
  have n1 : (o == 27) = false := by simp only [beq_eq_false_iff_ne, ne_eq]; omega
  have n2 : (o == 28) = false := by simp only [beq_eq_false_iff_ne, ne_eq]; omega
  have e : tkn o f = true := by unfold tkn; rw [if_neg h1, if_neg h2]
  rw [e]
  go_enter Try.func53, Try.ntmps53
  go_wp2_with fail
  go_ret
  exact ⟨rfl, rfl⟩
end Go.Proofs.Ytaogileaeflnfaa
/-
  The contracts of power, right.
-/
set_option linter.unusedVariables false
set_option linter.unusedSimpArgs false
namespace Go.Proofs.Ytaogileaeflnfaa
open Go.RowKit

set_option maxRecDepth 10000 in
set_option maxHeartbeats 8000000 in
theorem ones_top (n : Nat) (hn : n ≤ 5000) (w : World) : Calls Try.prog 56 #[.int .u64 (n : Int)] w fun e w' => e = .returned (.int .i64 (pcN n : Nat)) ∧ w' = w := by
  have HO := hid (ones_any n hn)
  have h1 : (n : Int) ≤ 5000 := by omega
  go_enter Try.func56, Try.ntmps56
  go_wp2_with (go_at_call 63; with_reducible refine (HO.out _).mono ?_; rintro r w' ⟨rfl, rfl⟩)
  go_ret
  exact ⟨rfl, rfl⟩
instance (n k : Nat) : Decidable (pw2 n k) := decidable_of_iff (∃ j, j < k + 1 ∧ n = 2 ^ j) ⟨fun ⟨j, h, e⟩ => ⟨j, by omega, e⟩, fun ⟨j, h, e⟩ => ⟨j, by omega, e⟩⟩
theorem pw2_iff (n k : Nat) (hn : n ≤ 5000) (hk : k = 8 ∨ k = 12) : pw2 n k ↔ (pcN n = 1 ∧ n ≤ 2 ^ k) := by
  have h := List.all_eq_true.1 pc_two n (List.mem_range.2 (by omega))
  have h2 : (pcN n = 1) ↔ n ∈ [1, 2, 4, 8, 16, 32, 64, 128, 256, 512, 1024, 2048, 4096] := by
    rw [beq_iff_eq] at h
    constructor
    · intro e
      have : (pcN n == 1) = true := by simp [e]
      rw [this] at h
      exact List.contains_iff_mem.1 h.symm
    · intro e
      have : [1, 2, 4, 8, 16, 32, 64, 128, 256, 512, 1024, 2048, 4096].contains n = true := List.contains_iff_mem.2 e
      rw [this] at h
      simpa using h
  rw [h2]
  constructor
  · rintro ⟨j, hj, rfl⟩
    refine ⟨?_, Nat.pow_le_pow_right (n := 2) (by omega) hj⟩
    have hj2 : j ≤ 12 := by omega
    rcases (by omega : j = 0 ∨ j = 1 ∨ j = 2 ∨ j = 3 ∨ j = 4 ∨ j = 5 ∨ j = 6 ∨ j = 7 ∨ j = 8 ∨ j = 9 ∨ j = 10 ∨ j = 11 ∨ j = 12) with rfl | rfl | rfl | rfl | rfl | rfl | rfl | rfl | rfl | rfl | rfl | rfl | rfl <;> decide
  · rintro ⟨hm, hle⟩
    have key : ∀ j, n = 2 ^ j → pw2 n k := by
      rintro j rfl
      refine ⟨j, ?_, rfl⟩
      exact (Nat.pow_le_pow_iff_right (by omega)).1 hle
    simp only [List.mem_cons, List.not_mem_nil, or_false] at hm
    rcases hm with rfl | rfl | rfl | rfl | rfl | rfl | rfl | rfl | rfl | rfl | rfl | rfl | rfl
    · exact key 0 rfl
    · exact key 1 rfl
    · exact key 2 rfl
    · exact key 3 rfl
    · exact key 4 rfl
    · exact key 5 rfl
    · exact key 6 rfl
    · exact key 7 rfl
    · exact key 8 rfl
    · exact key 9 rfl
    · exact key 10 rfl
    · exact key 11 rfl
    · exact key 12 rfl
set_option maxRecDepth 10000 in
set_option maxHeartbeats 8000000 in
theorem power_any (n k : Nat) (hn : n ≤ 5000) (hk : k = 8 ∨ k = 12) (w : World) : Calls Try.prog 43 #[.int .i64 (n : Int), .int .i64 (k : Int)] w fun e w' => e = .returned (.bool (decide (pw2 n k))) ∧ w' = w := by
  have HO := hid (ones_top n hn)
  have h1 : (n : Int) ≤ 5000 := by omega
  have HE := hid (pw2_iff n k hn hk)
  by_cases h2 : pcN n = 1
  · by_cases h3 : n ≤ 2 ^ k
    · rw [decide_eq_true (HE.out.2 ⟨h2, h3⟩), ]
      rw [h2] at HO
      clear HE h2
      rcases hk with rfl | rfl
      · have h4 : (n : Int) ≤ 256 := by omega
        clear h3
        go_enter Try.func43, Try.ntmps43
        go_wp2_with (go_at_call 56; with_reducible refine (HO.out _).mono ?_; rintro r w' ⟨rfl, rfl⟩)
        go_ret
        exact ⟨rfl, rfl⟩
      · have h4 : (n : Int) ≤ 4096 := by omega
        clear h3
        go_enter Try.func43, Try.ntmps43
        go_wp2_with (go_at_call 56; with_reducible refine (HO.out _).mono ?_; rintro r w' ⟨rfl, rfl⟩)
        go_ret
        exact ⟨rfl, rfl⟩
    · rw [decide_eq_false (fun h => h3 (HE.out.1 h).2)]
      rw [h2] at HO
      clear HE h2
      rcases hk with rfl | rfl
      · have h4 : decide ((n : Int) ≤ 256) = false := decide_eq_false (by omega)
        clear h3
        go_enter Try.func43, Try.ntmps43
        go_wp2_with (go_at_call 56; with_reducible refine (HO.out _).mono ?_; rintro r w' ⟨rfl, rfl⟩)
        go_ret
        exact ⟨rfl, rfl⟩
      · have h4 : decide ((n : Int) ≤ 4096) = false := decide_eq_false (by omega)
        clear h3
        go_enter Try.func43, Try.ntmps43
        go_wp2_with (go_at_call 56; with_reducible refine (HO.out _).mono ?_; rintro r w' ⟨rfl, rfl⟩)
        go_ret
        exact ⟨rfl, rfl⟩
  · rw [decide_eq_false (fun h => h2 (HE.out.1 h).1)]
    have h5 : (((pcN n : Nat) : Int) == 1) = false := by simp only [beq_eq_false_iff_ne, ne_eq]; omega
    clear HE h2
    generalize pcN n = q at *
    go_enter Try.func43, Try.ntmps43
    go_wp2_with (go_at_call 56; with_reducible refine (HO.out _).mono ?_; rintro r w' ⟨rfl, rfl⟩)
    go_ret
    exact ⟨rfl, rfl⟩
instance (x : Mn) : Decidable x.ok := inferInstanceAs (Decidable (_ ∧ _))
set_option maxRecDepth 10000 in
set_option maxHeartbeats 8000000 in
theorem right_any (w : World) (g : Nat) (x : Mn) (AH AM : Option Addr) (nH cH nM cM : Nat) (h : MR w g x AH nH cH AM nM cM) (h1 : nH ≤ 5000) (h2 : nM ≤ 5000) : Calls Try.prog 24 #[.pointer (some ⟨g, 0, none⟩)] w fun e w' => e = .returned (.bool (decide x.ok)) ∧ w' = w := by
  have e : decide x.ok = (decide (pw2 nH 8) && decide (pw2 nM 12)) := by
    rw [← h.h.len, ← h.m.len]
    exact Bool.decide_and _ _
  rw [e]
  have c1 := h.ch
  have c2 := h.cm
  have H1 : Hid (∀ w, Calls Try.prog 43 #[.int .i64 (nH : Int), .int .i64 8] w fun e w' => e = .returned (.bool (decide (pw2 nH 8))) ∧ w' = w) := fun w => power_any nH 8 h1 (.inl rfl) w
  have H2 : Hid (∀ w, Calls Try.prog 43 #[.int .i64 (nM : Int), .int .i64 12] w fun e w' => e = .returned (.bool (decide (pw2 nM 12))) ∧ w' = w) := fun w => power_any nM 12 h2 (.inr rfl) w
  clear h e
  generalize decide (pw2 nH 8) = p at *
  generalize decide (pw2 nM 12) = q at *
  cases p
  · go_enter Try.func24, Try.ntmps24
    go_wp2_with (go_at_call 43; with_reducible refine (H1.out _).mono ?_; rintro r w' ⟨rfl, rfl⟩)
    go_ret
    exact ⟨rfl, rfl⟩
  · go_enter Try.func24, Try.ntmps24
    go_wp2_with (go_at_call 43; first | (with_reducible refine (H1.out _).mono ?_; rintro r w' ⟨rfl, rfl⟩) | (with_reducible refine (H2.out _).mono ?_; rintro r w' ⟨rfl, rfl⟩))
    go_ret
    exact ⟨rfl, rfl⟩
end Go.Proofs.Ytaogileaeflnfaa
