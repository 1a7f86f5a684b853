/-
  The contracts of OnesCount, power, right, works, compares, taken.
-/
import Derived.Test.YtaogileaeflnfaaTll
import Derived.Test.YtaogileaeflnfaaTch
set_option linter.unusedVariables false
set_option linter.unusedSimpArgs false
namespace Go.Proofs.Ytaogileaeflnfaa
open Go.RowKit

/-- How many bits of n are set, as OnesCount64 reckons it (n small). -/
def pcA (n : Nat) : Nat := (n / 2 &&& 6148914691236517205) + (n &&& 6148914691236517205)
def pcB (n : Nat) : Nat := (n / 4 &&& 3689348814741910323) + (n &&& 3689348814741910323)
def pcC (n : Nat) : Nat := (n / 16 + n) &&& 1085102592571150095
def pcD (n : Nat) : Nat := n + n / 256
def pcE (n : Nat) : Nat := n + n / 65536
def pcF (n : Nat) : Nat := n + n / 4294967296
def pcN (n : Nat) : Nat := pcF (pcE (pcD (pcC (pcB (pcA n))))) &&& 127
theorem pc_two : (List.range 5001).all (fun n => (pcN n == 1) == [1, 2, 4, 8, 16, 32, 64, 128, 256, 512, 1024, 2048, 4096].contains n) = true := by decide +kernel
theorem wr_u64 (x : Int) (h : 0 ≤ x ∧ x < 18446744073709551616) : IntKind.u64.wrap x = x := by
  show x % 18446744073709551616 = x
  omega
theorem i64_and_nat (a : Nat) (ha : a < 9223372036854775808) : bits .and .i64 (a : Int) 127 = ((a &&& 127 : Nat) : Int) := by
  have h : a &&& 127 ≤ 127 := Nat.and_le_right
  have e1 : BitVec.ofInt 64 (a : Int) = BitVec.ofNat 64 a := BitVec.ofInt_natCast 64 a
  have e2 : BitVec.ofInt 64 (127 : Int) = BitVec.ofNat 64 127 := rfl
  show IntKind.i64.wrap ((BitVec.ofInt 64 (a : Int) &&& BitVec.ofInt 64 (127 : Int)).toNat : Int) = _
  rw [e1, e2, BitVec.toNat_and, BitVec.toNat_ofNat, BitVec.toNat_ofNat, Nat.mod_eq_of_lt (by omega), show 127 % 2 ^ 64 = 127 from rfl]
  exact IntWalk.i64_in _ (by omega)
set_option maxRecDepth 10000 in
set_option maxHeartbeats 8000000 in
theorem ones_any (n : Nat) (hn : n ≤ 5000) (w : World) : Calls Try.prog 63 #[.int .u64 (n : Int)] w fun e w' => e = .returned (.int .i64 (pcN n : Nat)) ∧ w' = w := by
  have a1 : bits .and .u64 ((n : Int) / 2) 6148914691236517205 = ((n / 2 &&& 6148914691236517205 : Nat) : Int) := by
    rw [show (n : Int) / 2 = ((n / 2 : Nat) : Int) by omega]; exact u64_and_nat _ _ (by omega) (by decide)
  have a2 : bits .and .u64 (n : Int) 6148914691236517205 = ((n &&& 6148914691236517205 : Nat) : Int) := u64_and_nat _ _ (by omega) (by decide)
  have hN : pcN n = pcF (pcE (pcD (pcC (pcB (pcA n))))) &&& 127 := rfl
  generalize pcN n = res at *
  have hA : pcA n = (n / 2 &&& 6148914691236517205) + (n &&& 6148914691236517205) := rfl
  generalize pcA n = A at *
  have b1 : n / 2 &&& 6148914691236517205 ≤ n / 2 := Nat.and_le_left
  have b2 : n &&& 6148914691236517205 ≤ n := Nat.and_le_left
  generalize n / 2 &&& 6148914691236517205 = p1 at *
  generalize n &&& 6148914691236517205 = p2 at *
  have a3 : IntKind.u64.wrap ((p1 : Int) + p2) = (A : Int) := by rw [wr_u64 _ (by omega)]; omega
  have hA2 : A ≤ 10000 := by omega
  have a4 : bits .and .u64 ((A : Int) / 4) 3689348814741910323 = ((A / 4 &&& 3689348814741910323 : Nat) : Int) := by
    rw [show (A : Int) / 4 = ((A / 4 : Nat) : Int) by omega]; exact u64_and_nat _ _ (by omega) (by decide)
  have a5 : bits .and .u64 (A : Int) 3689348814741910323 = ((A &&& 3689348814741910323 : Nat) : Int) := u64_and_nat _ _ (by omega) (by decide)
  have hB : pcB A = (A / 4 &&& 3689348814741910323) + (A &&& 3689348814741910323) := rfl
  generalize pcB A = B at *
  have b3 : A / 4 &&& 3689348814741910323 ≤ A / 4 := Nat.and_le_left
  have b4 : A &&& 3689348814741910323 ≤ A := Nat.and_le_left
  generalize A / 4 &&& 3689348814741910323 = p3 at *
  generalize A &&& 3689348814741910323 = p4 at *
  have a6 : IntKind.u64.wrap ((p3 : Int) + p4) = (B : Int) := by rw [wr_u64 _ (by omega)]; omega
  have hB2 : B ≤ 20000 := by omega
  obtain ⟨B2, hB3⟩ : ∃ B2, B / 16 + B = B2 := ⟨_, rfl⟩
  have a7 : IntKind.u64.wrap ((B : Int) / 16 + B) = (B2 : Int) := by rw [wr_u64 _ (by omega)]; omega
  have a8 : bits .and .u64 (B2 : Int) 1085102592571150095 = ((B2 &&& 1085102592571150095 : Nat) : Int) := u64_and_nat _ _ (by omega) (by decide)
  have hC : pcC B = B2 &&& 1085102592571150095 := by unfold pcC; rw [hB3]
  have b5 : B2 &&& 1085102592571150095 ≤ B2 := Nat.and_le_left
  generalize pcC B = C at *
  rw [← hC] at a8 b5
  have a9 : IntKind.u64.wrap ((C : Int) + (C : Int) / 256) = (pcD C : Nat) := by unfold pcD; rw [wr_u64 _ (by omega)]; omega
  have b6 : pcD C ≤ 50000 := by unfold pcD; omega
  generalize pcD C = D at *
  have a10 : IntKind.u64.wrap ((D : Int) + (D : Int) / 65536) = (pcE D : Nat) := by unfold pcE; rw [wr_u64 _ (by omega)]; omega
  have b7 : pcE D ≤ 60000 := by unfold pcE; omega
  generalize pcE D = E at *
  have a11 : IntKind.u64.wrap ((E : Int) + (E : Int) / 4294967296) = (pcF E : Nat) := by unfold pcF; rw [wr_u64 _ (by omega)]; omega
  have b8 : pcF E ≤ 70000 := by unfold pcF; omega
  generalize pcF E = F at *
  have a12 : bits .and .i64 (F : Int) 127 = (res : Int) := by rw [i64_and_nat F (by omega), hN]
  have a13 : IntKind.i64.wrap (F : Int) = (F : Int) := IntWalk.i64_in _ (by omega)
  clear hN hA hB hC hB3 b1 b2 b3 b4 b5 b6 b7 hA2 hB2
  go_enter Try.func63, Try.ntmps63
  go_wp2_with fail
  go_ret
  exact ⟨rfl, rfl⟩
set_option maxRecDepth 10000 in
set_option maxHeartbeats 8000000 in
theorem works_any (o : Int) (w : World) : Calls Try.prog 22 #[.int .u8 o] w fun e w' => e = .returned (.bool (decide (1 ≤ o ∧ o ≤ 25))) ∧ w' = w := by
  by_cases h1 : 1 ≤ o
  · by_cases h2 : o ≤ 25
    · have d1 : decide ((1 : Int) ≤ o) = true := decide_eq_true h1
      have d2 : decide (o ≤ 25) = true := decide_eq_true h2
      rw [decide_eq_true (And.intro h1 h2)]
      clear h1 h2
      go_enter Try.func22, Try.ntmps22
      go_wp2_with fail
      go_ret
      exact ⟨rfl, rfl⟩
    · have d1 : decide ((1 : Int) ≤ o) = true := decide_eq_true h1
      have d2 : decide (o ≤ 25) = false := decide_eq_false h2
      rw [decide_eq_false (fun h => h2 h.2)]
      clear h1 h2
      go_enter Try.func22, Try.ntmps22
      go_wp2_with fail
      go_ret
      exact ⟨rfl, rfl⟩
  · have d1 : decide ((1 : Int) ≤ o) = false := decide_eq_false h1
    rw [decide_eq_false (fun h => h1 h.1)]
    clear h1
    go_enter Try.func22, Try.ntmps22
    go_wp2_with fail
    go_ret
    exact ⟨rfl, rfl⟩
set_option maxRecDepth 10000 in
set_option maxHeartbeats 8000000 in
theorem compares_any (o : Int) (w : World) : Calls Try.prog 32 #[.int .u8 o] w fun e w' => e = .returned (.bool (decide (19 ≤ o ∧ o ≤ 21))) ∧ w' = w := by
  by_cases h1 : 19 ≤ o
  · by_cases h2 : o ≤ 21
    · have d1 : decide ((19 : Int) ≤ o) = true := decide_eq_true h1
      have d2 : decide (o ≤ 21) = true := decide_eq_true h2
      rw [decide_eq_true (And.intro h1 h2)]
      clear h1 h2
      go_enter Try.func32, Try.ntmps32
      go_wp2_with fail
      go_ret
      exact ⟨rfl, rfl⟩
    · have d1 : decide ((19 : Int) ≤ o) = true := decide_eq_true h1
      have d2 : decide (o ≤ 21) = false := decide_eq_false h2
      rw [decide_eq_false (fun h => h2 h.2)]
      clear h1 h2
      go_enter Try.func32, Try.ntmps32
      go_wp2_with fail
      go_ret
      exact ⟨rfl, rfl⟩
  · have d1 : decide ((19 : Int) ≤ o) = false := decide_eq_false h1
    rw [decide_eq_false (fun h => h1 h.1)]
    clear h1
    go_enter Try.func32, Try.ntmps32
    go_wp2_with fail
    go_ret
    exact ⟨rfl, rfl⟩
/-- Is a jump taken? -/
def tkn (o : Int) (f : Bool) : Bool := if o = 27 then f else if o = 28 then !f else true
set_option maxRecDepth 10000 in
set_option maxHeartbeats 8000000 in
theorem taken_any (o : Int) (f : Bool) (w : World) : Calls Try.prog 53 #[.int .u8 o, .bool f] w fun e w' => e = .returned (.bool (tkn o f)) ∧ w' = w := by
  by_cases h1 : o = 27
  · subst h1
    go_enter Try.func53, Try.ntmps53
    go_wp2_with fail
    go_ret
    exact ⟨rfl, rfl⟩
  by_cases h2 : o = 28
  · subst h2
    go_enter Try.func53, Try.ntmps53
    go_wp2_with fail
    go_ret
    exact ⟨by cases f <;> rfl, rfl⟩
  have n1 : (o == 27) = false := by simp only [beq_eq_false_iff_ne, ne_eq]; omega
  have n2 : (o == 28) = false := by simp only [beq_eq_false_iff_ne, ne_eq]; omega
  have e : tkn o f = true := by unfold tkn; rw [if_neg h1, if_neg h2]
  rw [e]
  go_enter Try.func53, Try.ntmps53
  go_wp2_with fail
  go_ret
  exact ⟨rfl, rfl⟩
end Go.Proofs.Ytaogileaeflnfaa
