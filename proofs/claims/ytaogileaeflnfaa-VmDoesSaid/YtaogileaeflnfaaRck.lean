/-
  The contracts of reckon, calc, hash, within, works, compares, taken (written by tools/stage17/gen_rck.py).
-/
import Derived.Test.YtaogileaeflnfaaMcn
import Derived.Laws.BitsAllLaws
import Derived.IntWalk
set_option linter.unusedVariables false
set_option linter.unusedSimpArgs false
namespace Go.Proofs.Ytaogileaeflnfaa
open Go.RowKit

theorem ret_u32 {a b : Int} (h : a = b) : Ending.returned (.int .u32 a) = .returned (.int .u32 b) := by rw [h]
theorem calc_8 (a x : UInt32) : ((a.toNat : Int) + x.toNat) % 4294967296 = ((calcM 8 a x).toNat : Int) := by
  show _ = ((a + x).toNat : Int)
  rw [UInt32.toNat_add]; omega
theorem calc_9 (a x : UInt32) : ((a.toNat : Int) - x.toNat) % 4294967296 = ((calcM 9 a x).toNat : Int) := by
  show _ = ((a - x).toNat : Int)
  have := x.toNat_lt
  rw [UInt32.toNat_sub]; omega
theorem calc_10 (a x : UInt32) : ((a.toNat : Int) * x.toNat) % 4294967296 = ((calcM 10 a x).toNat : Int) := by
  show _ = ((a * x).toNat : Int)
  rw [UInt32.toNat_mul, Int.natCast_emod, Int.natCast_mul]; rfl
theorem u_zero {x : UInt32} : x.toNat = 0 ↔ x = 0 := by
  constructor
  · intro h; exact UInt32.toNat_inj.1 h
  · intro h; rw [h]; rfl
theorem calc_11 (a x : UInt32) : (x.toNat = 0 → (0 : Int) = ((calcM 11 a x).toNat : Int)) ∧ (¬ x.toNat = 0 → (a.toNat : Int) / x.toNat = ((calcM 11 a x).toNat : Int)) := by
  have e : calcM 11 a x = if x = 0 then 0 else a / x := rfl
  rw [e]
  constructor
  · intro h; rw [if_pos (u_zero.1 h)]; rfl
  · intro h; rw [if_neg (fun e => h (u_zero.2 e)), UInt32.toNat_div, Int.natCast_ediv]
theorem calc_12 (a x : UInt32) : (x.toNat = 0 → (0 : Int) = ((calcM 12 a x).toNat : Int)) ∧ (¬ x.toNat = 0 → (a.toNat : Int) % x.toNat = ((calcM 12 a x).toNat : Int)) := by
  have e : calcM 12 a x = if x = 0 then 0 else a % x := rfl
  rw [e]
  constructor
  · intro h; rw [if_pos (u_zero.1 h)]; rfl
  · intro h; rw [if_neg (fun e => h (u_zero.2 e)), UInt32.toNat_mod, Int.natCast_emod]
theorem calc_13 (a x : UInt32) : bits .and .u32 (a.toNat : Int) (x.toNat : Int) = ((calcM 13 a x).toNat : Int) := by
  show _ = ((a &&& x).toNat : Int)
  rw [u32_and_nat _ _ a.toNat_lt x.toNat_lt, UInt32.toNat_and]
theorem calc_14 (a x : UInt32) : bits .andNot .u32 (a.toNat : Int) (x.toNat : Int) = ((calcM 14 a x).toNat : Int) := by
  show _ = ((a &&& ~~~ x).toNat : Int)
  rw [u32_andNot_nat _ _ a.toNat_lt x.toNat_lt, UInt32.toNat_and, UInt32.toNat_not]
  rfl
theorem calc_14d (a x : UInt32) : bits .and .u32 (a.toNat : Int) ((4294967295 - (x.toNat : Int)) % 4294967296) = ((calcM 14 a x).toNat : Int) := by
  show _ = ((a &&& ~~~ x).toNat : Int)
  have h := x.toNat_lt
  rw [show (4294967295 - (x.toNat : Int)) % 4294967296 = ((4294967295 - x.toNat : Nat) : Int) by omega, u32_and_nat _ _ a.toNat_lt (by omega), UInt32.toNat_and, UInt32.toNat_not]
  rfl
theorem calc_15 (a x : UInt32) : bits .or .u32 (a.toNat : Int) (x.toNat : Int) = ((calcM 15 a x).toNat : Int) := by
  show _ = ((a ||| x).toNat : Int)
  rw [u32_or_nat _ _ a.toNat_lt x.toNat_lt, UInt32.toNat_or]
theorem calc_16 (a x : UInt32) : bits .xor .u32 (a.toNat : Int) (x.toNat : Int) = ((calcM 16 a x).toNat : Int) := by
  show _ = ((a ^^^ x).toNat : Int)
  rw [u32_xor_nat _ _ a.toNat_lt x.toNat_lt, UInt32.toNat_xor]
theorem calc_17 (a x : UInt32) : (a.toNat : Int) * 2 ^ (x.toNat % 32) % 4294967296 = ((calcM 17 a x).toNat : Int) := by
  show _ = ((a <<< x).toNat : Int)
  rw [UInt32.toNat_shiftLeft, Nat.shiftLeft_eq, Int.natCast_emod, Int.natCast_mul, Int.natCast_pow]; rfl
theorem calc_18 (a x : UInt32) : (a.toNat : Int) / 2 ^ (x.toNat % 32) = ((calcM 18 a x).toNat : Int) := by
  show _ = ((a >>> x).toNat : Int)
  rw [UInt32.toNat_shiftRight, Nat.shiftRight_eq_div_pow, Int.natCast_ediv, Int.natCast_pow]; rfl
theorem hash_eq (x y : UInt32) : ((x.toNat : Int) + y.toNat + 512) % 4294967296 * 773 % 4294967296 = ((hashM x y).toNat : Int) := by
  have e : (hashM x y).toNat = ((x.toNat + y.toNat) % 4294967296 + 512) % 4294967296 * 773 % 4294967296 := by
    unfold hashM
    rw [UInt32.toNat_mul, UInt32.toNat_add, UInt32.toNat_add]
    rfl
  rw [e]
  omega
set_option maxRecDepth 10000 in
set_option maxHeartbeats 4000000 in
theorem hash_any (x y : UInt32) (w : World) : Calls Try.prog 46 #[U.bv x, U.bv y] w fun e w' => e = .returned (U.bv (hashM x y)) ∧ w' = w := by
  have E := hash_eq x y
  unfold U.bv
  generalize (hashM x y).toNat = z at *
  generalize x.toNat = x at *
  generalize y.toNat = y at *
  go_enter Try.func46, Try.ntmps46
  go_wp2_with fail
  go_ret
  first | exact ⟨rfl, rfl⟩ | exact ⟨ret_u32 E, rfl⟩ | exact ⟨ret_u32 (by omega), rfl⟩
set_option maxRecDepth 10000 in
set_option maxHeartbeats 4000000 in
theorem within_any (x n : Nat) (k : Nat) (hk : k ≤ 31) (hn : n = 2 ^ k) (hx : x < 4294967296) (w : World) : Calls Try.prog 58 #[.int .u32 (x : Int), .int .i64 (n : Int)] w fun e w' => e = .returned (.int .u32 ((x % n : Nat) : Int)) ∧ w' = w := by
  have h1 : 1 ≤ n := by rw [hn]; exact Nat.one_le_two_pow
  have h2 : n ≤ 2147483648 := by rw [hn]; exact Nat.pow_le_pow_right (n := 2) (by omega) hk
  have E : bits .and .u32 (x : Int) (wrap64 ((n : Int) - 1) % 4294967296) = ((x % n : Nat) : Int) := by
    rw [show wrap64 ((n : Int) - 1) % 4294967296 = ((n - 1 : Nat) : Int) by unfold wrap64; omega, u32_and_nat _ _ hx (by omega), hn, and_low x k hk]
  clear hn h1 h2
  generalize x % n = z at *
  go_enter Try.func58, Try.ntmps58
  go_wp2_with fail
  go_ret
  first | exact ⟨rfl, rfl⟩ | exact ⟨ret_u32 E, rfl⟩ | exact ⟨ret_u32 (by omega), rfl⟩
set_option maxRecDepth 10000 in
set_option maxHeartbeats 4000000 in
theorem reckon_8 (a x : UInt32) (w : World) : Calls Try.prog 47 #[.int .u8 8, U.bv a, U.bv x] w fun e w' => e = .returned (U.bv (calcM 8 a x)) ∧ w' = w := by
  have E := calc_8 a x
  unfold U.bv
  generalize (calcM 8 a x).toNat = z at *
  generalize a.toNat = a at *
  generalize x.toNat = x at *
  go_enter Try.func47, Try.ntmps47
  go_wp2_with fail
  go_ret
  first | exact ⟨rfl, rfl⟩ | exact ⟨ret_u32 E, rfl⟩ | exact ⟨ret_u32 (by omega), rfl⟩
set_option maxRecDepth 10000 in
set_option maxHeartbeats 4000000 in
theorem reckon_9 (a x : UInt32) (w : World) : Calls Try.prog 47 #[.int .u8 9, U.bv a, U.bv x] w fun e w' => e = .returned (U.bv (calcM 9 a x)) ∧ w' = w := by
  have E := calc_9 a x
  unfold U.bv
  generalize (calcM 9 a x).toNat = z at *
  generalize a.toNat = a at *
  generalize x.toNat = x at *
  go_enter Try.func47, Try.ntmps47
  go_wp2_with fail
  go_ret
  first | exact ⟨rfl, rfl⟩ | exact ⟨ret_u32 E, rfl⟩ | exact ⟨ret_u32 (by omega), rfl⟩
set_option maxRecDepth 10000 in
set_option maxHeartbeats 4000000 in
theorem reckon_10 (a x : UInt32) (w : World) : Calls Try.prog 47 #[.int .u8 10, U.bv a, U.bv x] w fun e w' => e = .returned (U.bv (calcM 10 a x)) ∧ w' = w := by
  have E := calc_10 a x
  unfold U.bv
  generalize (calcM 10 a x).toNat = z at *
  generalize a.toNat = a at *
  generalize x.toNat = x at *
  go_enter Try.func47, Try.ntmps47
  go_wp2_with fail
  go_ret
  first | exact ⟨rfl, rfl⟩ | exact ⟨ret_u32 E, rfl⟩ | exact ⟨ret_u32 (by omega), rfl⟩
set_option maxRecDepth 10000 in
set_option maxHeartbeats 4000000 in
theorem reckon_11 (a x : UInt32) (w : World) : Calls Try.prog 47 #[.int .u8 11, U.bv a, U.bv x] w fun e w' => e = .returned (U.bv (calcM 11 a x)) ∧ w' = w := by
  have E := calc_11 a x
  unfold U.bv
  by_cases h : x.toNat = 0
  · have hd : decide ((x.toNat : Int) = 0) = true := by simpa using h
    have E2 := E.1 h
    clear E
    generalize (calcM 11 a x).toNat = z at *
    generalize a.toNat = a at *
    generalize x.toNat = x at *
    go_enter Try.func47, Try.ntmps47
    go_wp2_with fail
    go_ret
    first | exact ⟨rfl, rfl⟩ | exact ⟨ret_u32 E2, rfl⟩ | exact ⟨ret_u32 (by omega), rfl⟩
  · have hd : decide ((x.toNat : Int) = 0) = false := by simpa using h
    have hz : ((x.toNat : Int) == 0) = false := by simpa using h
    have E2 := E.2 h
    have q0 := (calcM 11 a x).toNat_lt
    have q1 := a.toNat_lt
    have q2 := x.toNat_lt
    clear E
    generalize (calcM 11 a x).toNat = z at *
    generalize a.toNat = a at *
    generalize x.toNat = x at *
    go_enter Try.func47, Try.ntmps47
    go_wp2_with fail
    go_ret
    first | exact ⟨rfl, rfl⟩ | exact ⟨ret_u32 E2, rfl⟩ | exact ⟨ret_u32 (by omega), rfl⟩
set_option maxRecDepth 10000 in
set_option maxHeartbeats 4000000 in
theorem reckon_12 (a x : UInt32) (w : World) : Calls Try.prog 47 #[.int .u8 12, U.bv a, U.bv x] w fun e w' => e = .returned (U.bv (calcM 12 a x)) ∧ w' = w := by
  have E := calc_12 a x
  unfold U.bv
  by_cases h : x.toNat = 0
  · have hd : decide ((x.toNat : Int) = 0) = true := by simpa using h
    have E2 := E.1 h
    clear E
    generalize (calcM 12 a x).toNat = z at *
    generalize a.toNat = a at *
    generalize x.toNat = x at *
    go_enter Try.func47, Try.ntmps47
    go_wp2_with fail
    go_ret
    first | exact ⟨rfl, rfl⟩ | exact ⟨ret_u32 E2, rfl⟩ | exact ⟨ret_u32 (by omega), rfl⟩
  · have hd : decide ((x.toNat : Int) = 0) = false := by simpa using h
    have hz : ((x.toNat : Int) == 0) = false := by simpa using h
    have E2 := E.2 h
    have q0 := (calcM 12 a x).toNat_lt
    have q1 := a.toNat_lt
    have q2 := x.toNat_lt
    clear E
    generalize (calcM 12 a x).toNat = z at *
    generalize a.toNat = a at *
    generalize x.toNat = x at *
    go_enter Try.func47, Try.ntmps47
    go_wp2_with fail
    go_ret
    first | exact ⟨rfl, rfl⟩ | exact ⟨ret_u32 E2, rfl⟩ | exact ⟨ret_u32 (by omega), rfl⟩
set_option maxRecDepth 10000 in
set_option maxHeartbeats 4000000 in
theorem reckon_13 (a x : UInt32) (w : World) : Calls Try.prog 47 #[.int .u8 13, U.bv a, U.bv x] w fun e w' => e = .returned (U.bv (calcM 13 a x)) ∧ w' = w := by
  have E := calc_13 a x
  unfold U.bv
  generalize (calcM 13 a x).toNat = z at *
  generalize a.toNat = a at *
  generalize x.toNat = x at *
  go_enter Try.func47, Try.ntmps47
  go_wp2_with fail
  go_ret
  first | exact ⟨rfl, rfl⟩ | exact ⟨ret_u32 E, rfl⟩ | exact ⟨ret_u32 (by omega), rfl⟩
set_option maxRecDepth 10000 in
set_option maxHeartbeats 4000000 in
theorem reckon_14 (a x : UInt32) (w : World) : Calls Try.prog 47 #[.int .u8 14, U.bv a, U.bv x] w fun e w' => e = .returned (U.bv (calcM 14 a x)) ∧ w' = w := by
  have E := calc_14 a x
  unfold U.bv
  generalize (calcM 14 a x).toNat = z at *
  generalize a.toNat = a at *
  generalize x.toNat = x at *
  go_enter Try.func47, Try.ntmps47
  go_wp2_with fail
  go_ret
  first | exact ⟨rfl, rfl⟩ | exact ⟨ret_u32 E, rfl⟩ | exact ⟨ret_u32 (by omega), rfl⟩
set_option maxRecDepth 10000 in
set_option maxHeartbeats 4000000 in
theorem reckon_15 (a x : UInt32) (w : World) : Calls Try.prog 47 #[.int .u8 15, U.bv a, U.bv x] w fun e w' => e = .returned (U.bv (calcM 15 a x)) ∧ w' = w := by
  have E := calc_15 a x
  unfold U.bv
  generalize (calcM 15 a x).toNat = z at *
  generalize a.toNat = a at *
  generalize x.toNat = x at *
  go_enter Try.func47, Try.ntmps47
  go_wp2_with fail
  go_ret
  first | exact ⟨rfl, rfl⟩ | exact ⟨ret_u32 E, rfl⟩ | exact ⟨ret_u32 (by omega), rfl⟩
set_option maxRecDepth 10000 in
set_option maxHeartbeats 4000000 in
theorem reckon_16 (a x : UInt32) (w : World) : Calls Try.prog 47 #[.int .u8 16, U.bv a, U.bv x] w fun e w' => e = .returned (U.bv (calcM 16 a x)) ∧ w' = w := by
  have E := calc_16 a x
  unfold U.bv
  generalize (calcM 16 a x).toNat = z at *
  generalize a.toNat = a at *
  generalize x.toNat = x at *
  go_enter Try.func47, Try.ntmps47
  go_wp2_with fail
  go_ret
  first | exact ⟨rfl, rfl⟩ | exact ⟨ret_u32 E, rfl⟩ | exact ⟨ret_u32 (by omega), rfl⟩
set_option maxRecDepth 10000 in
set_option maxHeartbeats 4000000 in
theorem reckon_17 (a x : UInt32) (w : World) : Calls Try.prog 47 #[.int .u8 17, U.bv a, U.bv x] w fun e w' => e = .returned (U.bv (calcM 17 a x)) ∧ w' = w := by
  have E := calc_17 a x
  unfold U.bv
  generalize (calcM 17 a x).toNat = z at *
  generalize a.toNat = a at *
  generalize x.toNat = x at *
  go_enter Try.func47, Try.ntmps47
  go_wp2_with fail
  go_ret
  first | exact ⟨rfl, rfl⟩ | exact ⟨ret_u32 E, rfl⟩ | exact ⟨ret_u32 (by omega), rfl⟩
set_option maxRecDepth 10000 in
set_option maxHeartbeats 4000000 in
theorem reckon_18 (a x : UInt32) (w : World) : Calls Try.prog 47 #[.int .u8 18, U.bv a, U.bv x] w fun e w' => e = .returned (U.bv (calcM 18 a x)) ∧ w' = w := by
  have E := calc_18 a x
  unfold U.bv
  generalize (calcM 18 a x).toNat = z at *
  generalize a.toNat = a at *
  generalize x.toNat = x at *
  go_enter Try.func47, Try.ntmps47
  go_wp2_with fail
  go_ret
  first | exact ⟨rfl, rfl⟩ | exact ⟨ret_u32 E, rfl⟩ | exact ⟨ret_u32 (by omega), rfl⟩
theorem reckon_any (o : Int) (ho : 8 ≤ o ∧ o ≤ 18) (a x : UInt32) (w : World) : Calls Try.prog 47 #[.int .u8 o, U.bv a, U.bv x] w fun e w' => e = .returned (U.bv (calcM o a x)) ∧ w' = w := by
  rcases (by omega : o = 8 ∨ o = 9 ∨ o = 10 ∨ o = 11 ∨ o = 12 ∨ o = 13 ∨ o = 14 ∨ o = 15 ∨ o = 16 ∨ o = 17 ∨ o = 18) with rfl | rfl | rfl | rfl | rfl | rfl | rfl | rfl | rfl | rfl | rfl
  · exact reckon_8 a x w
  · exact reckon_9 a x w
  · exact reckon_10 a x w
  · exact reckon_11 a x w
  · exact reckon_12 a x w
  · exact reckon_13 a x w
  · exact reckon_14 a x w
  · exact reckon_15 a x w
  · exact reckon_16 a x w
  · exact reckon_17 a x w
  · exact reckon_18 a x w
end Go.Proofs.Ytaogileaeflnfaa
