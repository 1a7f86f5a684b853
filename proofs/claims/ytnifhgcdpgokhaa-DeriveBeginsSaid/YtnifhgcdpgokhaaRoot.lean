/-
  The contract of behindPoint.
-/
import Derived.Test.YtnifhgcdpgokhaaMul
import Derived.Shelf.Abstract
namespace Go.Proofs.Ytnifhgcdpgokhaa
open Go.RowKit

theorem pow_lt (k : Nat) (h : k < 64) : 2 ^ k < 18446744073709551616 := Nat.pow_lt_pow_right (by omega) h
theorem pow_cast (k : Nat) (h : k < 64) : IntKind.u64.wrap ((2 : Int) ^ k) = ((2 ^ k : Nat) : Int) := by
  have e : ((2 : Int) ^ k) = ((2 ^ k : Nat) : Int) := by simp
  rw [e]; exact wrapN _ (pow_lt k h)
/-- The next bit. -/
theorem root_or (f : Nat → Nat → Bool) (p k : Nat) (h : k < 35) : bits BinOp.or IntKind.u64 (rootN f p k : Nat) (2 ^ (34 - k) : Nat) = ((rootN f p k + 2 ^ (34 - k) : Nat) : Int) ∧ rootN f p k + 2 ^ (34 - k) < 34359738368 := by
  obtain ⟨q, e, hq⟩ := root_lt f p k (by omega)
  have e2 : (2 : Nat) ^ (35 - k) = 2 * 2 ^ (34 - k) := by rw [show 35 - k = (34 - k) + 1 by omega, Nat.pow_succ']
  have hlt : rootN f p k + 2 ^ (34 - k) < 34359738368 := by
    have h1 : q + 1 ≤ 2 ^ k := hq
    have h2 : (q + 1) * 2 ^ (35 - k) ≤ 2 ^ k * 2 ^ (35 - k) := Nat.mul_le_mul_right _ h1
    have h3 : 2 ^ k * 2 ^ (35 - k) = 34359738368 := by rw [← Nat.pow_add, show k + (35 - k) = 35 by omega]
    have h4 := Nat.two_pow_pos (34 - k)
    rw [Nat.add_mul, Nat.one_mul, h3, ← e, e2] at h2
    omega
  refine ⟨?_, hlt⟩
  rw [u64_or_nat _ _ (by omega) (by omega)]
  have h5 := or_add (35 - k) q (2 ^ (34 - k)) (by rw [e2]; have := Nat.two_pow_pos (34 - k); omega)
  rw [e, Nat.mul_comm q, h5]
theorem root_last (f : Nat → Nat → Bool) (p : Nat) : rootN f p 35 < 34359738368 := by
  obtain ⟨q, e, hq⟩ := root_lt f p 35 (Nat.le_refl _)
  rw [e]; omega
theorem root_next (f : Nat → Nat → Bool) (p k : Nat) : rootN f p (k + 1) = if f (rootN f p k + 2 ^ (34 - k)) p = true then rootN f p k + 2 ^ (34 - k) else rootN f p k := rfl

set_option maxRecDepth 10000 in
set_option maxHeartbeats 1000000 in
theorem behind_any (K : Nat) (f : Nat → Nat → Bool) (p : Nat) (hf : ∀ (x : Nat) w, x < 18446744073709551616 → Calls Try.prog K #[.int .u64 x, .int .u64 p] w fun e w' => e = .returned (.bool (f x p)) ∧ w = w')
    (he : ∀ args w, (callFunc K args).run Try.prog w = .ok (.enter K args) w) (w : World) : Calls Try.prog 37 #[.int .u64 p, .func (.func K) #[] #[]] w fun e w' => e = .returned (.int .u32 (behind f p : Nat)) ∧ w = w' := by
  go_enter Try.func37, Try.ntmps37
  go_wp2_with fail
  go_loop [8, 5] (fun i r => ∃ k : Nat, k ≤ 35 ∧ i = .int .i64 k ∧ r = .int .u64 (rootN f p k : Nat)) (fun i _ => 35 - (intOf i).toNat)
  case atStart => exact ⟨0, Nat.zero_le _, rfl, rfl⟩
  case round =>
    obtain ⟨k, hk, rfl, rfl⟩ := hrel
    by_cases hlt : k < 35
    · have hz : (k : Int) < 35 := by omega
      obtain ⟨ho, hl⟩ := root_or f p k hlt
      have hn := root_next f p k
      have hp := pow_cast (34 - k) (by omega)
      generalize hb : 2 ^ (34 - k) = b at *
      generalize hr : rootN f p k = r at *
      generalize hx : r + b = x at *
      have H := hid (And.intro hb (And.intro hr (And.intro hx hn)))
      clear hb hr hx hn
      have hxx : x < 18446744073709551616 := by omega
      clear hl
      cases hfx : f x p
      all_goals
        go_wp2_with fail
        refine (hf x _ hxx).mono ?_
        rintro e w' ⟨rfl, rfl⟩
        go_wp2_with fail
        go_round
        case rel => exact ⟨k + 1, by omega, by go_num, by rw [H.out.2.2.2, hfx]; rfl⟩
        case measure => simp [intOf]; omega
    · obtain rfl : k = 35 := by omega
      have hl := root_last f p
      go_wp2_with fail
      go_ret
      refine ⟨ret_u32 ?_, rfl⟩
      show _ = ((rootN f p 35 % 4294967296 : Nat) : Int)
      omega
theorem behindSq_any (p : Nat) (w : World) : Calls Try.prog 37 #[.int .u64 p, .func (.func 38) #[] #[]] w fun e w' => e = .returned (.int .u32 (behind sq p : Nat)) ∧ w = w' :=
  behind_any 38 sq p (fun x w hx => squareFits_any x p hx w) (enters_of Try.func38 (by kernel_rfl) rfl) w
theorem behindCu_any (p : Nat) (hp : (p : Int) < 1000) (w : World) : Calls Try.prog 37 #[.int .u64 p, .func (.func 39) #[] #[]] w fun e w' => e = .returned (.int .u32 (behind cu p : Nat)) ∧ w = w' :=
  behind_any 39 cu p (fun x w hx => cubeFits_any x p hx hp w) (enters_of Try.func39 (by kernel_rfl) rfl) w
end Go.Proofs.Ytnifhgcdpgokhaa
