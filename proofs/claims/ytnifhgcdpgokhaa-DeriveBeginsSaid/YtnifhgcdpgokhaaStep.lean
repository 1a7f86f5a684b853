/-
  The contracts of math/bits.RotateLeft32, of turned, and of the document's turn.
-/
import Derived.Test.YtnifhgcdpgokhaaProg
import Derived.Test.YtnifhgcdpgokhaaNum
import Derived.Test.YtnifhgcdpgokhaaMem
import Derived.WalkKit
import Derived.WalkSpells
import Derived.WalkLawsBesides
import Derived.Laws.BitsAllLaws
namespace Go.Proofs.Ytnifhgcdpgokhaa
open Go.RowKit

theorem ret_u32 {a b : Int} (h : a = b) : Ending.returned (.int .u32 a) = .returned (.int .u32 b) := by rw [h]
theorem not_eq (b : Nat) (hb : b < 4294967296) : bits BinOp.xor IntKind.u32 IntKind.u32.max (b : Int) = ((4294967295 ^^^ b : Nat) : Int) := u32_xor_nat 4294967295 b (by omega) hb
theorem xor3_eq (b c d : Nat) (hb : b < 4294967296) (hc : c < 4294967296) (hd : d < 4294967296) :
    bits BinOp.xor IntKind.u32 (bits BinOp.xor IntKind.u32 b c) d = ((b ^^^ c ^^^ d : Nat) : Int) := by
  rw [u32_xor_nat _ _ hb hc, u32_xor_nat _ _ (xorlt _ _ hb hc) hd]
theorem ch_eq (b c d : Nat) (hb : b < 4294967296) (hc : c < 4294967296) (hd : d < 4294967296) :
    bits BinOp.xor IntKind.u32 (bits BinOp.and IntKind.u32 b c) (bits BinOp.and IntKind.u32 (bits BinOp.xor IntKind.u32 IntKind.u32.max b) d) = ((chN b c d : Nat) : Int) := by
  rw [not_eq b hb, u32_and_nat _ _ hb hc, u32_and_nat _ _ (xorlt _ _ (by omega) hb) hd, u32_xor_nat _ _ (andlt _ _ hb) (andlt _ _ (xorlt _ _ (by omega) hb))]
  rfl
theorem ma_eq (b c d : Nat) (hb : b < 4294967296) (hc : c < 4294967296) (hd : d < 4294967296) :
    bits BinOp.xor IntKind.u32 (bits BinOp.xor IntKind.u32 (bits BinOp.and IntKind.u32 b c) (bits BinOp.and IntKind.u32 b d)) (bits BinOp.and IntKind.u32 c d) = ((maN b c d : Nat) : Int) := by
  rw [u32_and_nat _ _ hb hc, u32_and_nat _ _ hb hd, u32_and_nat _ _ hc hd, xor3_eq _ _ _ (andlt _ _ hb) (andlt _ _ hb) (andlt _ _ hc)]
  rfl
theorem or_add (k x y : Nat) (h : y < 2 ^ k) : 2 ^ k * x ||| y = 2 ^ k * x + y := (Nat.two_pow_add_eq_or_of_lt h x).symm

theorem rr7_eq (x : Nat) : (x : Int) * 33554432 % 4294967296 + (x : Int) / 128 = (rr 7 x : Nat) := by
  show _ = ((x * 33554432 % 4294967296 + x / 128 : Nat) : Int)
  omega
theorem or7_eq (x : Nat) (hx : x < 4294967296) : bits BinOp.or IntKind.u32 ((x : Int) * 33554432 % 4294967296) ((x : Int) / 128) = (rr 7 x : Nat) := by
  have e1 : (x : Int) * 33554432 % 4294967296 = ((33554432 * (x % 128) : Nat) : Int) := by omega
  have e2 : (x : Int) / 128 = ((x / 128 : Nat) : Int) := by omega
  rw [e1, e2, u32_or_nat _ _ (by omega) (by omega)]
  have e3 := or_add 25 (x % 128) (x / 128) (by show _ < 33554432; omega)
  have e4 : (2 : Nat) ^ 25 = 33554432 := rfl
  rw [e4] at e3
  rw [e3]
  show _ = ((x * 33554432 % 4294967296 + x / 128 : Nat) : Int)
  omega
set_option maxRecDepth 10000 in
set_option maxHeartbeats 400000 in
theorem rot7_any (x : Nat) (hx : x < 4294967296) (w : World) : Calls Try.prog 43 #[.int .u32 x, .int .i64 (-7)] w fun e w' => e = .returned (.int .u32 (rr 7 x : Nat)) ∧ w = w' := by
  have e0 : IntKind.u64.wrap (-7) = 18446744073709551609 := by kernel_rfl
  have e1 : bits BinOp.and IntKind.u64 18446744073709551609 31 = 25 := by kernel_rfl
  go_enter Try.func43, Try.ntmps43
  go_wp2_with fail
  go_ret
  exact ⟨ret_u32 (or7_eq x hx), rfl⟩
set_option maxRecDepth 10000 in
set_option maxHeartbeats 400000 in
theorem right7_any (x : Nat) (hx : x < 4294967296) (w : World) : Calls Try.prog 33 #[.int .u32 x, .int .u64 7] w fun e w' => e = .returned (.int .u32 (rr 7 x : Nat)) ∧ w = w' := by
  go_enter Try.func33, Try.ntmps33
  go_wp2_with fail
  go_ret
  exact ⟨ret_u32 ((Int.add_comm _ _).trans (rr7_eq x)), rfl⟩

theorem rr18_eq (x : Nat) : (x : Int) * 16384 % 4294967296 + (x : Int) / 262144 = (rr 18 x : Nat) := by
  show _ = ((x * 16384 % 4294967296 + x / 262144 : Nat) : Int)
  omega
theorem or18_eq (x : Nat) (hx : x < 4294967296) : bits BinOp.or IntKind.u32 ((x : Int) * 16384 % 4294967296) ((x : Int) / 262144) = (rr 18 x : Nat) := by
  have e1 : (x : Int) * 16384 % 4294967296 = ((16384 * (x % 262144) : Nat) : Int) := by omega
  have e2 : (x : Int) / 262144 = ((x / 262144 : Nat) : Int) := by omega
  rw [e1, e2, u32_or_nat _ _ (by omega) (by omega)]
  have e3 := or_add 14 (x % 262144) (x / 262144) (by show _ < 16384; omega)
  have e4 : (2 : Nat) ^ 14 = 16384 := rfl
  rw [e4] at e3
  rw [e3]
  show _ = ((x * 16384 % 4294967296 + x / 262144 : Nat) : Int)
  omega
set_option maxRecDepth 10000 in
set_option maxHeartbeats 400000 in
theorem rot18_any (x : Nat) (hx : x < 4294967296) (w : World) : Calls Try.prog 43 #[.int .u32 x, .int .i64 (-18)] w fun e w' => e = .returned (.int .u32 (rr 18 x : Nat)) ∧ w = w' := by
  have e0 : IntKind.u64.wrap (-18) = 18446744073709551598 := by kernel_rfl
  have e1 : bits BinOp.and IntKind.u64 18446744073709551598 31 = 14 := by kernel_rfl
  go_enter Try.func43, Try.ntmps43
  go_wp2_with fail
  go_ret
  exact ⟨ret_u32 (or18_eq x hx), rfl⟩
set_option maxRecDepth 10000 in
set_option maxHeartbeats 400000 in
theorem right18_any (x : Nat) (hx : x < 4294967296) (w : World) : Calls Try.prog 33 #[.int .u32 x, .int .u64 18] w fun e w' => e = .returned (.int .u32 (rr 18 x : Nat)) ∧ w = w' := by
  go_enter Try.func33, Try.ntmps33
  go_wp2_with fail
  go_ret
  exact ⟨ret_u32 ((Int.add_comm _ _).trans (rr18_eq x)), rfl⟩

theorem rr17_eq (x : Nat) : (x : Int) * 32768 % 4294967296 + (x : Int) / 131072 = (rr 17 x : Nat) := by
  show _ = ((x * 32768 % 4294967296 + x / 131072 : Nat) : Int)
  omega
theorem or17_eq (x : Nat) (hx : x < 4294967296) : bits BinOp.or IntKind.u32 ((x : Int) * 32768 % 4294967296) ((x : Int) / 131072) = (rr 17 x : Nat) := by
  have e1 : (x : Int) * 32768 % 4294967296 = ((32768 * (x % 131072) : Nat) : Int) := by omega
  have e2 : (x : Int) / 131072 = ((x / 131072 : Nat) : Int) := by omega
  rw [e1, e2, u32_or_nat _ _ (by omega) (by omega)]
  have e3 := or_add 15 (x % 131072) (x / 131072) (by show _ < 32768; omega)
  have e4 : (2 : Nat) ^ 15 = 32768 := rfl
  rw [e4] at e3
  rw [e3]
  show _ = ((x * 32768 % 4294967296 + x / 131072 : Nat) : Int)
  omega
set_option maxRecDepth 10000 in
set_option maxHeartbeats 400000 in
theorem rot17_any (x : Nat) (hx : x < 4294967296) (w : World) : Calls Try.prog 43 #[.int .u32 x, .int .i64 (-17)] w fun e w' => e = .returned (.int .u32 (rr 17 x : Nat)) ∧ w = w' := by
  have e0 : IntKind.u64.wrap (-17) = 18446744073709551599 := by kernel_rfl
  have e1 : bits BinOp.and IntKind.u64 18446744073709551599 31 = 15 := by kernel_rfl
  go_enter Try.func43, Try.ntmps43
  go_wp2_with fail
  go_ret
  exact ⟨ret_u32 (or17_eq x hx), rfl⟩
set_option maxRecDepth 10000 in
set_option maxHeartbeats 400000 in
theorem right17_any (x : Nat) (hx : x < 4294967296) (w : World) : Calls Try.prog 33 #[.int .u32 x, .int .u64 17] w fun e w' => e = .returned (.int .u32 (rr 17 x : Nat)) ∧ w = w' := by
  go_enter Try.func33, Try.ntmps33
  go_wp2_with fail
  go_ret
  exact ⟨ret_u32 ((Int.add_comm _ _).trans (rr17_eq x)), rfl⟩

theorem rr19_eq (x : Nat) : (x : Int) * 8192 % 4294967296 + (x : Int) / 524288 = (rr 19 x : Nat) := by
  show _ = ((x * 8192 % 4294967296 + x / 524288 : Nat) : Int)
  omega
theorem or19_eq (x : Nat) (hx : x < 4294967296) : bits BinOp.or IntKind.u32 ((x : Int) * 8192 % 4294967296) ((x : Int) / 524288) = (rr 19 x : Nat) := by
  have e1 : (x : Int) * 8192 % 4294967296 = ((8192 * (x % 524288) : Nat) : Int) := by omega
  have e2 : (x : Int) / 524288 = ((x / 524288 : Nat) : Int) := by omega
  rw [e1, e2, u32_or_nat _ _ (by omega) (by omega)]
  have e3 := or_add 13 (x % 524288) (x / 524288) (by show _ < 8192; omega)
  have e4 : (2 : Nat) ^ 13 = 8192 := rfl
  rw [e4] at e3
  rw [e3]
  show _ = ((x * 8192 % 4294967296 + x / 524288 : Nat) : Int)
  omega
set_option maxRecDepth 10000 in
set_option maxHeartbeats 400000 in
theorem rot19_any (x : Nat) (hx : x < 4294967296) (w : World) : Calls Try.prog 43 #[.int .u32 x, .int .i64 (-19)] w fun e w' => e = .returned (.int .u32 (rr 19 x : Nat)) ∧ w = w' := by
  have e0 : IntKind.u64.wrap (-19) = 18446744073709551597 := by kernel_rfl
  have e1 : bits BinOp.and IntKind.u64 18446744073709551597 31 = 13 := by kernel_rfl
  go_enter Try.func43, Try.ntmps43
  go_wp2_with fail
  go_ret
  exact ⟨ret_u32 (or19_eq x hx), rfl⟩
set_option maxRecDepth 10000 in
set_option maxHeartbeats 400000 in
theorem right19_any (x : Nat) (hx : x < 4294967296) (w : World) : Calls Try.prog 33 #[.int .u32 x, .int .u64 19] w fun e w' => e = .returned (.int .u32 (rr 19 x : Nat)) ∧ w = w' := by
  go_enter Try.func33, Try.ntmps33
  go_wp2_with fail
  go_ret
  exact ⟨ret_u32 ((Int.add_comm _ _).trans (rr19_eq x)), rfl⟩

theorem rr2_eq (x : Nat) : (x : Int) * 1073741824 % 4294967296 + (x : Int) / 4 = (rr 2 x : Nat) := by
  show _ = ((x * 1073741824 % 4294967296 + x / 4 : Nat) : Int)
  omega
theorem or2_eq (x : Nat) (hx : x < 4294967296) : bits BinOp.or IntKind.u32 ((x : Int) * 1073741824 % 4294967296) ((x : Int) / 4) = (rr 2 x : Nat) := by
  have e1 : (x : Int) * 1073741824 % 4294967296 = ((1073741824 * (x % 4) : Nat) : Int) := by omega
  have e2 : (x : Int) / 4 = ((x / 4 : Nat) : Int) := by omega
  rw [e1, e2, u32_or_nat _ _ (by omega) (by omega)]
  have e3 := or_add 30 (x % 4) (x / 4) (by show _ < 1073741824; omega)
  have e4 : (2 : Nat) ^ 30 = 1073741824 := rfl
  rw [e4] at e3
  rw [e3]
  show _ = ((x * 1073741824 % 4294967296 + x / 4 : Nat) : Int)
  omega
set_option maxRecDepth 10000 in
set_option maxHeartbeats 400000 in
theorem rot2_any (x : Nat) (hx : x < 4294967296) (w : World) : Calls Try.prog 43 #[.int .u32 x, .int .i64 (-2)] w fun e w' => e = .returned (.int .u32 (rr 2 x : Nat)) ∧ w = w' := by
  have e0 : IntKind.u64.wrap (-2) = 18446744073709551614 := by kernel_rfl
  have e1 : bits BinOp.and IntKind.u64 18446744073709551614 31 = 30 := by kernel_rfl
  go_enter Try.func43, Try.ntmps43
  go_wp2_with fail
  go_ret
  exact ⟨ret_u32 (or2_eq x hx), rfl⟩
set_option maxRecDepth 10000 in
set_option maxHeartbeats 400000 in
theorem right2_any (x : Nat) (hx : x < 4294967296) (w : World) : Calls Try.prog 33 #[.int .u32 x, .int .u64 2] w fun e w' => e = .returned (.int .u32 (rr 2 x : Nat)) ∧ w = w' := by
  go_enter Try.func33, Try.ntmps33
  go_wp2_with fail
  go_ret
  exact ⟨ret_u32 ((Int.add_comm _ _).trans (rr2_eq x)), rfl⟩

theorem rr13_eq (x : Nat) : (x : Int) * 524288 % 4294967296 + (x : Int) / 8192 = (rr 13 x : Nat) := by
  show _ = ((x * 524288 % 4294967296 + x / 8192 : Nat) : Int)
  omega
theorem or13_eq (x : Nat) (hx : x < 4294967296) : bits BinOp.or IntKind.u32 ((x : Int) * 524288 % 4294967296) ((x : Int) / 8192) = (rr 13 x : Nat) := by
  have e1 : (x : Int) * 524288 % 4294967296 = ((524288 * (x % 8192) : Nat) : Int) := by omega
  have e2 : (x : Int) / 8192 = ((x / 8192 : Nat) : Int) := by omega
  rw [e1, e2, u32_or_nat _ _ (by omega) (by omega)]
  have e3 := or_add 19 (x % 8192) (x / 8192) (by show _ < 524288; omega)
  have e4 : (2 : Nat) ^ 19 = 524288 := rfl
  rw [e4] at e3
  rw [e3]
  show _ = ((x * 524288 % 4294967296 + x / 8192 : Nat) : Int)
  omega
set_option maxRecDepth 10000 in
set_option maxHeartbeats 400000 in
theorem rot13_any (x : Nat) (hx : x < 4294967296) (w : World) : Calls Try.prog 43 #[.int .u32 x, .int .i64 (-13)] w fun e w' => e = .returned (.int .u32 (rr 13 x : Nat)) ∧ w = w' := by
  have e0 : IntKind.u64.wrap (-13) = 18446744073709551603 := by kernel_rfl
  have e1 : bits BinOp.and IntKind.u64 18446744073709551603 31 = 19 := by kernel_rfl
  go_enter Try.func43, Try.ntmps43
  go_wp2_with fail
  go_ret
  exact ⟨ret_u32 (or13_eq x hx), rfl⟩
set_option maxRecDepth 10000 in
set_option maxHeartbeats 400000 in
theorem right13_any (x : Nat) (hx : x < 4294967296) (w : World) : Calls Try.prog 33 #[.int .u32 x, .int .u64 13] w fun e w' => e = .returned (.int .u32 (rr 13 x : Nat)) ∧ w = w' := by
  go_enter Try.func33, Try.ntmps33
  go_wp2_with fail
  go_ret
  exact ⟨ret_u32 ((Int.add_comm _ _).trans (rr13_eq x)), rfl⟩

theorem rr22_eq (x : Nat) : (x : Int) * 1024 % 4294967296 + (x : Int) / 4194304 = (rr 22 x : Nat) := by
  show _ = ((x * 1024 % 4294967296 + x / 4194304 : Nat) : Int)
  omega
theorem or22_eq (x : Nat) (hx : x < 4294967296) : bits BinOp.or IntKind.u32 ((x : Int) * 1024 % 4294967296) ((x : Int) / 4194304) = (rr 22 x : Nat) := by
  have e1 : (x : Int) * 1024 % 4294967296 = ((1024 * (x % 4194304) : Nat) : Int) := by omega
  have e2 : (x : Int) / 4194304 = ((x / 4194304 : Nat) : Int) := by omega
  rw [e1, e2, u32_or_nat _ _ (by omega) (by omega)]
  have e3 := or_add 10 (x % 4194304) (x / 4194304) (by show _ < 1024; omega)
  have e4 : (2 : Nat) ^ 10 = 1024 := rfl
  rw [e4] at e3
  rw [e3]
  show _ = ((x * 1024 % 4294967296 + x / 4194304 : Nat) : Int)
  omega
set_option maxRecDepth 10000 in
set_option maxHeartbeats 400000 in
theorem rot22_any (x : Nat) (hx : x < 4294967296) (w : World) : Calls Try.prog 43 #[.int .u32 x, .int .i64 (-22)] w fun e w' => e = .returned (.int .u32 (rr 22 x : Nat)) ∧ w = w' := by
  have e0 : IntKind.u64.wrap (-22) = 18446744073709551594 := by kernel_rfl
  have e1 : bits BinOp.and IntKind.u64 18446744073709551594 31 = 10 := by kernel_rfl
  go_enter Try.func43, Try.ntmps43
  go_wp2_with fail
  go_ret
  exact ⟨ret_u32 (or22_eq x hx), rfl⟩
set_option maxRecDepth 10000 in
set_option maxHeartbeats 400000 in
theorem right22_any (x : Nat) (hx : x < 4294967296) (w : World) : Calls Try.prog 33 #[.int .u32 x, .int .u64 22] w fun e w' => e = .returned (.int .u32 (rr 22 x : Nat)) ∧ w = w' := by
  go_enter Try.func33, Try.ntmps33
  go_wp2_with fail
  go_ret
  exact ⟨ret_u32 ((Int.add_comm _ _).trans (rr22_eq x)), rfl⟩

theorem rr6_eq (x : Nat) : (x : Int) * 67108864 % 4294967296 + (x : Int) / 64 = (rr 6 x : Nat) := by
  show _ = ((x * 67108864 % 4294967296 + x / 64 : Nat) : Int)
  omega
theorem or6_eq (x : Nat) (hx : x < 4294967296) : bits BinOp.or IntKind.u32 ((x : Int) * 67108864 % 4294967296) ((x : Int) / 64) = (rr 6 x : Nat) := by
  have e1 : (x : Int) * 67108864 % 4294967296 = ((67108864 * (x % 64) : Nat) : Int) := by omega
  have e2 : (x : Int) / 64 = ((x / 64 : Nat) : Int) := by omega
  rw [e1, e2, u32_or_nat _ _ (by omega) (by omega)]
  have e3 := or_add 26 (x % 64) (x / 64) (by show _ < 67108864; omega)
  have e4 : (2 : Nat) ^ 26 = 67108864 := rfl
  rw [e4] at e3
  rw [e3]
  show _ = ((x * 67108864 % 4294967296 + x / 64 : Nat) : Int)
  omega
set_option maxRecDepth 10000 in
set_option maxHeartbeats 400000 in
theorem rot6_any (x : Nat) (hx : x < 4294967296) (w : World) : Calls Try.prog 43 #[.int .u32 x, .int .i64 (-6)] w fun e w' => e = .returned (.int .u32 (rr 6 x : Nat)) ∧ w = w' := by
  have e0 : IntKind.u64.wrap (-6) = 18446744073709551610 := by kernel_rfl
  have e1 : bits BinOp.and IntKind.u64 18446744073709551610 31 = 26 := by kernel_rfl
  go_enter Try.func43, Try.ntmps43
  go_wp2_with fail
  go_ret
  exact ⟨ret_u32 (or6_eq x hx), rfl⟩
set_option maxRecDepth 10000 in
set_option maxHeartbeats 400000 in
theorem right6_any (x : Nat) (hx : x < 4294967296) (w : World) : Calls Try.prog 33 #[.int .u32 x, .int .u64 6] w fun e w' => e = .returned (.int .u32 (rr 6 x : Nat)) ∧ w = w' := by
  go_enter Try.func33, Try.ntmps33
  go_wp2_with fail
  go_ret
  exact ⟨ret_u32 ((Int.add_comm _ _).trans (rr6_eq x)), rfl⟩

theorem rr11_eq (x : Nat) : (x : Int) * 2097152 % 4294967296 + (x : Int) / 2048 = (rr 11 x : Nat) := by
  show _ = ((x * 2097152 % 4294967296 + x / 2048 : Nat) : Int)
  omega
theorem or11_eq (x : Nat) (hx : x < 4294967296) : bits BinOp.or IntKind.u32 ((x : Int) * 2097152 % 4294967296) ((x : Int) / 2048) = (rr 11 x : Nat) := by
  have e1 : (x : Int) * 2097152 % 4294967296 = ((2097152 * (x % 2048) : Nat) : Int) := by omega
  have e2 : (x : Int) / 2048 = ((x / 2048 : Nat) : Int) := by omega
  rw [e1, e2, u32_or_nat _ _ (by omega) (by omega)]
  have e3 := or_add 21 (x % 2048) (x / 2048) (by show _ < 2097152; omega)
  have e4 : (2 : Nat) ^ 21 = 2097152 := rfl
  rw [e4] at e3
  rw [e3]
  show _ = ((x * 2097152 % 4294967296 + x / 2048 : Nat) : Int)
  omega
set_option maxRecDepth 10000 in
set_option maxHeartbeats 400000 in
theorem rot11_any (x : Nat) (hx : x < 4294967296) (w : World) : Calls Try.prog 43 #[.int .u32 x, .int .i64 (-11)] w fun e w' => e = .returned (.int .u32 (rr 11 x : Nat)) ∧ w = w' := by
  have e0 : IntKind.u64.wrap (-11) = 18446744073709551605 := by kernel_rfl
  have e1 : bits BinOp.and IntKind.u64 18446744073709551605 31 = 21 := by kernel_rfl
  go_enter Try.func43, Try.ntmps43
  go_wp2_with fail
  go_ret
  exact ⟨ret_u32 (or11_eq x hx), rfl⟩
set_option maxRecDepth 10000 in
set_option maxHeartbeats 400000 in
theorem right11_any (x : Nat) (hx : x < 4294967296) (w : World) : Calls Try.prog 33 #[.int .u32 x, .int .u64 11] w fun e w' => e = .returned (.int .u32 (rr 11 x : Nat)) ∧ w = w' := by
  go_enter Try.func33, Try.ntmps33
  go_wp2_with fail
  go_ret
  exact ⟨ret_u32 ((Int.add_comm _ _).trans (rr11_eq x)), rfl⟩

theorem rr25_eq (x : Nat) : (x : Int) * 128 % 4294967296 + (x : Int) / 33554432 = (rr 25 x : Nat) := by
  show _ = ((x * 128 % 4294967296 + x / 33554432 : Nat) : Int)
  omega
theorem or25_eq (x : Nat) (hx : x < 4294967296) : bits BinOp.or IntKind.u32 ((x : Int) * 128 % 4294967296) ((x : Int) / 33554432) = (rr 25 x : Nat) := by
  have e1 : (x : Int) * 128 % 4294967296 = ((128 * (x % 33554432) : Nat) : Int) := by omega
  have e2 : (x : Int) / 33554432 = ((x / 33554432 : Nat) : Int) := by omega
  rw [e1, e2, u32_or_nat _ _ (by omega) (by omega)]
  have e3 := or_add 7 (x % 33554432) (x / 33554432) (by show _ < 128; omega)
  have e4 : (2 : Nat) ^ 7 = 128 := rfl
  rw [e4] at e3
  rw [e3]
  show _ = ((x * 128 % 4294967296 + x / 33554432 : Nat) : Int)
  omega
set_option maxRecDepth 10000 in
set_option maxHeartbeats 400000 in
theorem rot25_any (x : Nat) (hx : x < 4294967296) (w : World) : Calls Try.prog 43 #[.int .u32 x, .int .i64 (-25)] w fun e w' => e = .returned (.int .u32 (rr 25 x : Nat)) ∧ w = w' := by
  have e0 : IntKind.u64.wrap (-25) = 18446744073709551591 := by kernel_rfl
  have e1 : bits BinOp.and IntKind.u64 18446744073709551591 31 = 7 := by kernel_rfl
  go_enter Try.func43, Try.ntmps43
  go_wp2_with fail
  go_ret
  exact ⟨ret_u32 (or25_eq x hx), rfl⟩
set_option maxRecDepth 10000 in
set_option maxHeartbeats 400000 in
theorem right25_any (x : Nat) (hx : x < 4294967296) (w : World) : Calls Try.prog 33 #[.int .u32 x, .int .u64 25] w fun e w' => e = .returned (.int .u32 (rr 25 x : Nat)) ∧ w = w' := by
  go_enter Try.func33, Try.ntmps33
  go_wp2_with fail
  go_ret
  exact ⟨ret_u32 ((Int.add_comm _ _).trans (rr25_eq x)), rfl⟩

set_option maxRecDepth 10000 in
set_option maxHeartbeats 400000 in
theorem bs0_any (x : Nat) (hx : x < 4294967296) (w : World) : Calls Try.prog 41 #[.int .u32 x, .int .i64 2, .int .i64 13, .int .i64 22] w fun e w' => e = .returned (.int .u32 (bs0 x : Nat)) ∧ w = w' := by
  go_enter Try.func41, Try.ntmps41
  go_wp2_with (first
    | (go_at_call 43; with_reducible refine (rot2_any x hx _).mono ?_; rintro e w' ⟨rfl, rfl⟩)
    | (go_at_call 43; with_reducible refine (rot13_any x hx _).mono ?_; rintro e w' ⟨rfl, rfl⟩)
    | (go_at_call 43; with_reducible refine (rot22_any x hx _).mono ?_; rintro e w' ⟨rfl, rfl⟩))
  go_ret
  exact ⟨ret_u32 (xor3_eq _ _ _ (rr2_lt x hx) (rr13_lt x hx) (rr22_lt x hx)), rfl⟩

set_option maxRecDepth 10000 in
set_option maxHeartbeats 400000 in
theorem bs1_any (x : Nat) (hx : x < 4294967296) (w : World) : Calls Try.prog 41 #[.int .u32 x, .int .i64 6, .int .i64 11, .int .i64 25] w fun e w' => e = .returned (.int .u32 (bs1 x : Nat)) ∧ w = w' := by
  go_enter Try.func41, Try.ntmps41
  go_wp2_with (first
    | (go_at_call 43; with_reducible refine (rot6_any x hx _).mono ?_; rintro e w' ⟨rfl, rfl⟩)
    | (go_at_call 43; with_reducible refine (rot11_any x hx _).mono ?_; rintro e w' ⟨rfl, rfl⟩)
    | (go_at_call 43; with_reducible refine (rot25_any x hx _).mono ?_; rintro e w' ⟨rfl, rfl⟩))
  go_ret
  exact ⟨ret_u32 (xor3_eq _ _ _ (rr6_lt x hx) (rr11_lt x hx) (rr25_lt x hx)), rfl⟩

set_option maxRecDepth 10000 in
set_option maxHeartbeats 1000000 in
theorem Word_any (ad : Addr) (l : List UInt8) (n c p : Nat) (w : World) (h : IsB w (some ad) n c l) (hp : p + 4 ≤ n) :
    Calls Try.prog 32 #[.slice (some ad) n c, .int .i64 p] w fun e w' => e = .returned (.int .u32 (be4 (l.getD p 0).toNat (l.getD (p + 1) 0).toNat (l.getD (p + 2) 0).toNat (l.getD (p + 3) 0).toNat : Nat)) ∧ w = w' := by
  have hm := h.max
  have hc := h.cap
  unfold maxLen at hm
  have hlen := h.len
  obtain ⟨ad', e, hr⟩ := h.lies (by omega)
  cases e
  have g0 := hr p (by omega)
  have g1 := hr (p + 1) (by omega)
  have g2 := hr (p + 2) (by omega)
  have g3 := hr (p + 3) (by omega)
  rw [show l.getD p 0 = l[p]'(by omega) from by simp [List.getD, show p < l.length by omega], show l.getD (p + 1) 0 = l[p + 1]'(by omega) from by simp [List.getD, show p + 1 < l.length by omega], show l.getD (p + 2) 0 = l[p + 2]'(by omega) from by simp [List.getD, show p + 2 < l.length by omega], show l.getD (p + 3) 0 = l[p + 3]'(by omega) from by simp [List.getD, show p + 3 < l.length by omega]]
  have b0 : (l[p]'(by omega)).toNat < 256 := (l[p]'(by omega)).toNat_lt
  have b1 : (l[p + 1]'(by omega)).toNat < 256 := (l[p + 1]'(by omega)).toNat_lt
  have b2 : (l[p + 2]'(by omega)).toNat < 256 := (l[p + 2]'(by omega)).toNat_lt
  have b3 : (l[p + 3]'(by omega)).toNat < 256 := (l[p + 3]'(by omega)).toNat_lt
  generalize (l[p]'(by omega)).toNat = x0 at *
  generalize (l[p + 1]'(by omega)).toNat = x1 at *
  generalize (l[p + 2]'(by omega)).toNat = x2 at *
  generalize (l[p + 3]'(by omega)).toNat = x3 at *
  have hpn : (p : Int) + 4 ≤ (n : Int) := by omega
  have hnm : (n : Int) ≤ 9223372036854775807 := by omega
  have f1 : w.cell? { block := ad.block, off := ad.off + (p + 1) } = some (Value.int IntKind.u8 x1) := g1
  have f2 : w.cell? { block := ad.block, off := ad.off + (p + 1 + 1) } = some (Value.int IntKind.u8 x2) := g2
  have f3 : w.cell? { block := ad.block, off := ad.off + (p + 1 + 1 + 1) } = some (Value.int IntKind.u8 x3) := g3
  have f2' : w.cell? { block := ad.block, off := ad.off + (p + 2) } = some (Value.int IntKind.u8 x2) := g2
  have f3' : w.cell? { block := ad.block, off := ad.off + (p + 3) } = some (Value.int IntKind.u8 x3) := g3
  clear hr hlen hm hc h g1 g2 g3
  go_enter Try.func32, Try.ntmps32
  go_wp2_with fail
  refine wp_loop_rounds 5 ?_
  rw [rounds_succ]
  go_wp2_with fail
  rw [rounds_succ]
  go_wp2_with fail
  rw [rounds_succ]
  go_wp2_with fail
  rw [rounds_succ]
  go_wp2_with fail
  rw [rounds_succ]
  go_wp2_with fail
  go_ret
  refine ⟨ret_u32 ?_, rfl⟩
  unfold be4
  omega
end Go.Proofs.Ytnifhgcdpgokhaa
