/-
  The contracts of math/bits.Mul64, squareFits, cubeFits, behindPoint.
-/
import Derived.Test.YtnifhgcdpgokhaaStep
import Derived.Lib.Mul64
import Derived.Laws.Bits64b
namespace Go.Proofs.Ytnifhgcdpgokhaa
open Go.RowKit

theorem maskN (a : Nat) (ha : a < 18446744073709551616) : bits .and .u64 (a : Int) 4294967295 = ((a % 4294967296 : Nat) : Int) := by
  have h := u64_and_nat a 4294967295 ha (by omega)
  have e : a &&& 4294967295 = a % 4294967296 := Nat.and_two_pow_sub_one_eq_mod a 32
  rw [e] at h
  exact h
theorem divN (a : Nat) : (a : Int) / 4294967296 = ((a / 4294967296 : Nat) : Int) := by omega
theorem mulN (a b : Nat) : (a : Int) * (b : Int) = ((a * b : Nat) : Int) := (Int.natCast_mul a b).symm
theorem addN (a b : Nat) : (a : Int) + (b : Int) = ((a + b : Nat) : Int) := (Int.natCast_add a b).symm
theorem wrapN (a : Nat) (ha : a < 18446744073709551616) : IntKind.u64.wrap (a : Int) = (a : Int) := by rw [IntKind.wrap_u64]; omega
theorem wrapM (a : Nat) : IntKind.u64.wrap (a : Int) = ((a % 18446744073709551616 : Nat) : Int) := by rw [IntKind.wrap_u64]; omega
set_option maxRecDepth 10000 in
set_option maxHeartbeats 1000000 in
theorem Mul_any (x y : Nat) (hx : x < 18446744073709551616) (hy : y < 18446744073709551616) (w : World) : Calls Try.prog 42 #[.int .u64 x, .int .u64 y] w fun e w' => e = .returned (.tuple #[.int .u64 (x * y / 18446744073709551616 : Nat), .int .u64 (x * y % 18446744073709551616 : Nat)]) ∧ w = w' := by
  obtain ⟨bd, bt, bw, hhi⟩ := Lib.mul64_hi x y hx hy
  have ba := Lib.half_mul_le (a := x / 4294967296) (b := y / 4294967296) (by omega) (by omega)
  have bb := Lib.half_mul_le (a := x / 4294967296) (b := y % 4294967296) (by omega) (by omega)
  have bc := Lib.half_mul_le (a := x % 4294967296) (b := y / 4294967296) (by omega) (by omega)
  have ba' : x / 4294967296 * (y / 4294967296) < 18446744073709551616 := by omega
  have bb' : x / 4294967296 * (y % 4294967296) < 18446744073709551616 := by omega
  have bc' : x % 4294967296 * (y / 4294967296) < 18446744073709551616 := by omega
  have bh1 : x / 4294967296 * (y / 4294967296) + (x / 4294967296 * (y % 4294967296) + x % 4294967296 * (y % 4294967296) / 4294967296) / 4294967296 < 18446744073709551616 := by omega
  have bh : x / 4294967296 * (y / 4294967296) + (x / 4294967296 * (y % 4294967296) + x % 4294967296 * (y % 4294967296) / 4294967296) / 4294967296 + ((x / 4294967296 * (y % 4294967296) + x % 4294967296 * (y % 4294967296) / 4294967296) % 4294967296 + x % 4294967296 * (y / 4294967296)) / 4294967296 < 18446744073709551616 := by omega
  go_enter Try.func42, Try.ntmps42
  go_wp2_with fail
  simp only [maskN x hx, maskN y hy, divN, mulN, addN, wrapN _ bd, wrapN _ bb', wrapN _ bt, maskN _ bt, wrapN _ bc', wrapN _ bw, wrapN _ ba', wrapN _ bh1, wrapN _ bh, wrapM (x * y)]
  rw [hhi]
  go_ret2
  exact ⟨rfl, rfl⟩
theorem Mul_at (x y hi lo : Nat) (hx : x < 18446744073709551616) (hy : y < 18446744073709551616) (h1 : hi = x * y / 18446744073709551616) (h2 : lo = x * y % 18446744073709551616) (w : World) : Calls Try.prog 42 #[.int .u64 x, .int .u64 y] w fun e w' => e = .returned (.tuple #[.int .u64 hi, .int .u64 lo]) ∧ w = w' := by
  subst h1 h2; exact Mul_any x y hx hy w
theorem ret_bool {a b : Bool} (h : a = b) : Ending.returned (.bool a) = .returned (.bool b) := by rw [h]
set_option maxRecDepth 10000 in
set_option maxHeartbeats 1000000 in
theorem squareFits_any (x y : Nat) (hx : x < 18446744073709551616) (w : World) : Calls Try.prog 38 #[.int .u64 x, .int .u64 y] w fun e w' => e = .returned (.bool (sq x y)) ∧ w = w' := by
  obtain ⟨hi, h1⟩ : ∃ hi, hi = x * x / 18446744073709551616 := ⟨_, rfl⟩
  obtain ⟨lo, h2⟩ : ∃ lo, lo = x * x % 18446744073709551616 := ⟨_, rfl⟩
  have e : sq x y = decide (hi < y) := by unfold sq; rw [h1]
  have c := fun w => Mul_at x x hi lo hx hx h1 h2 w
  rw [e]
  clear e h1 h2
  go_enter Try.func38, Try.ntmps38
  go_wp2_with (go_at_call 42; refine (c _).mono ?_; rintro e w' ⟨rfl, rfl⟩)
  go_ret
  exact ⟨ret_bool (decide_eq_decide.2 (by omega)), rfl⟩
theorem cube_le (x : Nat) (hx : x < 18446744073709551616) (s : Nat) (hs : s < 18446744073709551616) : s * x / 18446744073709551616 < 18446744073709551616 := by
  apply Nat.div_lt_of_lt_mul
  exact Nat.mul_lt_mul_of_lt_of_le hs (Nat.le_of_lt hx) (by omega)
set_option maxRecDepth 10000 in
set_option maxHeartbeats 1000000 in
theorem cubeFits_any (x y : Nat) (hx : x < 18446744073709551616) (hy : (y : Int) < 1000) (w : World) : Calls Try.prog 39 #[.int .u64 x, .int .u64 y] w fun e w' => e = .returned (.bool (cu x y)) ∧ w = w' := by
  obtain ⟨hi, h1⟩ : ∃ hi, hi = x * x / 18446744073709551616 := ⟨_, rfl⟩
  obtain ⟨lo, h2⟩ : ∃ lo, lo = x * x % 18446744073709551616 := ⟨_, rfl⟩
  obtain ⟨ca, h3⟩ : ∃ ca, ca = lo * x / 18446744073709551616 := ⟨_, rfl⟩
  obtain ⟨l3, h4⟩ : ∃ l3, l3 = lo * x % 18446744073709551616 := ⟨_, rfl⟩
  obtain ⟨pr, h5⟩ : ∃ pr, pr = hi * x % 18446744073709551616 := ⟨_, rfl⟩
  have hlo : lo < 18446744073709551616 := by rw [h2]; exact Nat.mod_lt _ (by omega)
  have hca : ca < 18446744073709551616 := by rw [h3]; exact cube_le x hx lo hlo
  have e : cu x y = decide ((pr + ca) % 18446744073709551616 < y * 4294967296) := by
    unfold cu
    rw [← h1, ← h2, ← h3, h5, Nat.mod_add_mod, Nat.mod_eq_of_lt (a := y * 4294967296) (by omega)]
  have c := fun w => Mul_at x x hi lo hx hx h1 h2 w
  have c2 := fun w => Mul_at lo x ca l3 hlo hx h3 h4 w
  have hm : IntKind.u64.wrap ((hi : Int) * (x : Int)) = (pr : Int) := by rw [mulN, wrapM, h5]
  have hw : IntKind.u64.wrap ((pr : Int) + (ca : Int)) = (((pr + ca) % 18446744073709551616 : Nat) : Int) := by rw [addN, wrapM]
  obtain ⟨z, hz⟩ : ∃ z, z = (pr + ca) % 18446744073709551616 := ⟨_, rfl⟩
  rw [← hz] at e hw
  rw [e]
  clear e h1 h2 h3 h4 h5 hz hlo hca
  go_enter Try.func39, Try.ntmps39
  go_wp2_with (first | (go_at_call 42; with_reducible refine (c _).mono ?_; rintro e w' ⟨rfl, rfl⟩) | (go_at_call 42; with_reducible refine (c2 _).mono ?_; rintro e w' ⟨rfl, rfl⟩))
  go_ret
  exact ⟨ret_bool (decide_eq_decide.2 (by omega)), rfl⟩
end Go.Proofs.Ytnifhgcdpgokhaa
