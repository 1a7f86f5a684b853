/-
  How much a row of ones sheds, by the kernel.
-/
import Derived.Test.YtbgbacajgaeooaaCdn
namespace Go.Proofs.Ytbgbacajgaeooaa

/-- Is 'ok' told of each number of ones from n on, f of them? -/
def chkD (ok : Nat → Nat → Bool) (p : Nat) : Nat → Nat → Nat × Nat × Nat → Bool
  | 0, _, _ => true
  | f + 1, n, s => ok n s.1 && chkD ok p f (n + 1) (one1 p s)
theorem chkD_at (ok : Nat → Nat → Bool) (p : Nat) : ∀ (f n : Nat) (s : Nat × Nat × Nat), chkD ok p f n s = true → ∀ j, j < f → ok (n + j) (ones p j s).1 = true
  | 0, _, _, _, j, hj => absurd hj (Nat.not_lt_zero _)
  | f + 1, n, s, h, j, hj => by
    unfold chkD at h
    rw [Bool.and_eq_true] at h
    cases j with
    | zero => exact h.1
    | succ j =>
      have := chkD_at ok p f (n + 1) (one1 p s) h.2 j (by omega)
      rw [show n + (j + 1) = n + 1 + j by omega]
      exact this
def okA (n k : Nat) : Bool := decide (k ≤ 10 + n / 500)
def okB (n k : Nat) : Bool := decide (n * 7 / 8 ≤ k + 2)
theorem da0 : ones 65000 250 (0, 0, 4294967295) = (0, 0, 551209032) ∧ chkD okA 65000 250 0 (0, 0, 4294967295) = true := by decide +kernel
theorem da1 : ones 65000 250 (0, 0, 551209032) = (0, 0, 70741213) ∧ chkD okA 65000 250 250 (0, 0, 551209032) = true := by decide +kernel
theorem da2 : ones 65000 250 (0, 0, 70741213) = (1, 0, 2324168901) ∧ chkD okA 65000 250 500 (0, 0, 70741213) = true := by decide +kernel
theorem da3 : ones 65000 250 (1, 0, 2324168901) = (1, 0, 298279988) ∧ chkD okA 65000 250 750 (1, 0, 2324168901) = true := by decide +kernel
theorem da4 : ones 65000 250 (1, 0, 298279988) = (1, 0, 38280715) ∧ chkD okA 65000 250 1000 (1, 0, 298279988) = true := by decide +kernel
theorem da5 : ones 65000 250 (1, 0, 38280715) = (2, 0, 1257695898) ∧ chkD okA 65000 250 1250 (1, 0, 38280715) = true := by decide +kernel
theorem da6 : ones 65000 250 (2, 0, 1257695898) = (2, 0, 161410584) ∧ chkD okA 65000 250 1500 (2, 0, 1257695898) = true := by decide +kernel
theorem da7 : ones 65000 250 (2, 0, 161410584) = (2, 0, 20715123) ∧ chkD okA 65000 250 1750 (2, 0, 161410584) = true := by decide +kernel
theorem da8 : ones 65000 250 (2, 0, 20715123) = (3, 0, 680587088) ∧ chkD okA 65000 250 2000 (2, 0, 20715123) = true := by decide +kernel
theorem da9 : ones 65000 250 (3, 0, 680587088) = (3, 0, 87345383) ∧ chkD okA 65000 250 2250 (3, 0, 680587088) = true := by decide +kernel
theorem da10 : ones 65000 250 (3, 0, 87345383) = (4, 0, 2869691627) ∧ chkD okA 65000 250 2500 (3, 0, 87345383) = true := by decide +kernel
theorem da11 : ones 65000 250 (4, 0, 2869691627) = (4, 0, 368291480) ∧ chkD okA 65000 250 2750 (4, 0, 2869691627) = true := by decide +kernel
theorem da12 : ones 65000 250 (4, 0, 368291480) = (4, 0, 47265873) ∧ chkD okA 65000 250 3000 (4, 0, 368291480) = true := by decide +kernel
theorem da13 : ones 65000 250 (4, 0, 47265873) = (5, 0, 1552898632) ∧ chkD okA 65000 250 3250 (4, 0, 47265873) = true := by decide +kernel
theorem da14 : ones 65000 250 (5, 0, 1552898632) = (5, 0, 199296422) ∧ chkD okA 65000 250 3500 (5, 0, 1552898632) = true := by decide +kernel
theorem da15 : ones 65000 250 (5, 0, 199296422) = (5, 0, 25577325) ∧ chkD okA 65000 250 3750 (5, 0, 199296422) = true := by decide +kernel
theorem da16 : ones 65000 250 (5, 0, 25577325) = (6, 0, 840332293) ∧ chkD okA 65000 250 4000 (5, 0, 25577325) = true := by decide +kernel
theorem ata (n : Nat) (h : n < 4250) : okA n (ones 65000 n (0, 0, 4294967295)).1 = true := by
  have e1 : ones 65000 250 (0, 0, 4294967295) = (0, 0, 551209032) := da0.1
  have e2 : ones 65000 500 (0, 0, 4294967295) = (0, 0, 70741213) := by rw [show 500 = 250 + 250 from rfl, ones_add, e1]; exact da1.1
  have e3 : ones 65000 750 (0, 0, 4294967295) = (1, 0, 2324168901) := by rw [show 750 = 500 + 250 from rfl, ones_add, e2]; exact da2.1
  have e4 : ones 65000 1000 (0, 0, 4294967295) = (1, 0, 298279988) := by rw [show 1000 = 750 + 250 from rfl, ones_add, e3]; exact da3.1
  have e5 : ones 65000 1250 (0, 0, 4294967295) = (1, 0, 38280715) := by rw [show 1250 = 1000 + 250 from rfl, ones_add, e4]; exact da4.1
  have e6 : ones 65000 1500 (0, 0, 4294967295) = (2, 0, 1257695898) := by rw [show 1500 = 1250 + 250 from rfl, ones_add, e5]; exact da5.1
  have e7 : ones 65000 1750 (0, 0, 4294967295) = (2, 0, 161410584) := by rw [show 1750 = 1500 + 250 from rfl, ones_add, e6]; exact da6.1
  have e8 : ones 65000 2000 (0, 0, 4294967295) = (2, 0, 20715123) := by rw [show 2000 = 1750 + 250 from rfl, ones_add, e7]; exact da7.1
  have e9 : ones 65000 2250 (0, 0, 4294967295) = (3, 0, 680587088) := by rw [show 2250 = 2000 + 250 from rfl, ones_add, e8]; exact da8.1
  have e10 : ones 65000 2500 (0, 0, 4294967295) = (3, 0, 87345383) := by rw [show 2500 = 2250 + 250 from rfl, ones_add, e9]; exact da9.1
  have e11 : ones 65000 2750 (0, 0, 4294967295) = (4, 0, 2869691627) := by rw [show 2750 = 2500 + 250 from rfl, ones_add, e10]; exact da10.1
  have e12 : ones 65000 3000 (0, 0, 4294967295) = (4, 0, 368291480) := by rw [show 3000 = 2750 + 250 from rfl, ones_add, e11]; exact da11.1
  have e13 : ones 65000 3250 (0, 0, 4294967295) = (4, 0, 47265873) := by rw [show 3250 = 3000 + 250 from rfl, ones_add, e12]; exact da12.1
  have e14 : ones 65000 3500 (0, 0, 4294967295) = (5, 0, 1552898632) := by rw [show 3500 = 3250 + 250 from rfl, ones_add, e13]; exact da13.1
  have e15 : ones 65000 3750 (0, 0, 4294967295) = (5, 0, 199296422) := by rw [show 3750 = 3500 + 250 from rfl, ones_add, e14]; exact da14.1
  have e16 : ones 65000 4000 (0, 0, 4294967295) = (5, 0, 25577325) := by rw [show 4000 = 3750 + 250 from rfl, ones_add, e15]; exact da15.1
  obtain ⟨j, hj⟩ : ∃ j, n % 250 = j := ⟨_, rfl⟩
  by_cases h0 : n < 250
  · have en : n = 0 + j := by omega
    have hc := chkD_at okA 65000 250 0 _ da0.2 j (by omega)
    rw [en, Nat.zero_add]
    rw [Nat.zero_add] at hc
    exact hc
  by_cases h1 : n < 500
  · have en : n = 250 + j := by omega
    have hc := chkD_at okA 65000 250 250 _ da1.2 j (by omega)
    rw [en, ones_add, e1]
    exact hc
  by_cases h2 : n < 750
  · have en : n = 500 + j := by omega
    have hc := chkD_at okA 65000 250 500 _ da2.2 j (by omega)
    rw [en, ones_add, e2]
    exact hc
  by_cases h3 : n < 1000
  · have en : n = 750 + j := by omega
    have hc := chkD_at okA 65000 250 750 _ da3.2 j (by omega)
    rw [en, ones_add, e3]
    exact hc
  by_cases h4 : n < 1250
  · have en : n = 1000 + j := by omega
    have hc := chkD_at okA 65000 250 1000 _ da4.2 j (by omega)
    rw [en, ones_add, e4]
    exact hc
  by_cases h5 : n < 1500
  · have en : n = 1250 + j := by omega
    have hc := chkD_at okA 65000 250 1250 _ da5.2 j (by omega)
    rw [en, ones_add, e5]
    exact hc
  by_cases h6 : n < 1750
  · have en : n = 1500 + j := by omega
    have hc := chkD_at okA 65000 250 1500 _ da6.2 j (by omega)
    rw [en, ones_add, e6]
    exact hc
  by_cases h7 : n < 2000
  · have en : n = 1750 + j := by omega
    have hc := chkD_at okA 65000 250 1750 _ da7.2 j (by omega)
    rw [en, ones_add, e7]
    exact hc
  by_cases h8 : n < 2250
  · have en : n = 2000 + j := by omega
    have hc := chkD_at okA 65000 250 2000 _ da8.2 j (by omega)
    rw [en, ones_add, e8]
    exact hc
  by_cases h9 : n < 2500
  · have en : n = 2250 + j := by omega
    have hc := chkD_at okA 65000 250 2250 _ da9.2 j (by omega)
    rw [en, ones_add, e9]
    exact hc
  by_cases h10 : n < 2750
  · have en : n = 2500 + j := by omega
    have hc := chkD_at okA 65000 250 2500 _ da10.2 j (by omega)
    rw [en, ones_add, e10]
    exact hc
  by_cases h11 : n < 3000
  · have en : n = 2750 + j := by omega
    have hc := chkD_at okA 65000 250 2750 _ da11.2 j (by omega)
    rw [en, ones_add, e11]
    exact hc
  by_cases h12 : n < 3250
  · have en : n = 3000 + j := by omega
    have hc := chkD_at okA 65000 250 3000 _ da12.2 j (by omega)
    rw [en, ones_add, e12]
    exact hc
  by_cases h13 : n < 3500
  · have en : n = 3250 + j := by omega
    have hc := chkD_at okA 65000 250 3250 _ da13.2 j (by omega)
    rw [en, ones_add, e13]
    exact hc
  by_cases h14 : n < 3750
  · have en : n = 3500 + j := by omega
    have hc := chkD_at okA 65000 250 3500 _ da14.2 j (by omega)
    rw [en, ones_add, e14]
    exact hc
  by_cases h15 : n < 4000
  · have en : n = 3750 + j := by omega
    have hc := chkD_at okA 65000 250 3750 _ da15.2 j (by omega)
    rw [en, ones_add, e15]
    exact hc
  have en : n = 4000 + j := by omega
  have hc := chkD_at okA 65000 250 4000 _ da16.2 j (by omega)
  rw [en, ones_add, e16]
  exact hc
theorem db0 : ones 500 250 (0, 0, 4294967295) = (219, 0, 45721087) ∧ chkD okB 500 250 0 (0, 0, 4294967295) = true := by decide +kernel
theorem db1 : ones 500 250 (219, 0, 45721087) = (439, 0, 124594175) ∧ chkD okB 500 250 250 (219, 0, 45721087) = true := by decide +kernel
theorem db2 : ones 500 250 (439, 0, 124594175) = (659, 0, 339535615) ∧ chkD okB 500 250 500 (439, 0, 124594175) = true := by decide +kernel
theorem db3 : ones 500 250 (659, 0, 339535615) = (879, 0, 925267199) ∧ chkD okB 500 250 750 (659, 0, 339535615) = true := by decide +kernel
theorem db4 : ones 500 250 (879, 0, 925267199) = (1099, 0, 2521464063) ∧ chkD okB 500 250 1000 (879, 0, 925267199) = true := by decide +kernel
theorem db5 : ones 500 250 (1099, 0, 2521464063) = (1318, 0, 26840882) ∧ chkD okB 500 250 1250 (1099, 0, 2521464063) = true := by decide +kernel
theorem db6 : ones 500 250 (1318, 0, 26840882) = (1538, 0, 73145087) ∧ chkD okB 500 250 1500 (1318, 0, 26840882) = true := by decide +kernel
theorem db7 : ones 500 250 (1538, 0, 73145087) = (1758, 0, 199326719) ∧ chkD okB 500 250 1750 (1538, 0, 73145087) = true := by decide +kernel
theorem db8 : ones 500 250 (1758, 0, 199326719) = (1978, 0, 543190527) ∧ chkD okB 500 250 2000 (1758, 0, 199326719) = true := by decide +kernel
theorem db9 : ones 500 250 (1978, 0, 543190527) = (2198, 0, 1480267007) ∧ chkD okB 500 250 2250 (1978, 0, 543190527) = true := by decide +kernel
theorem db10 : ones 500 250 (2198, 0, 1480267007) = (2418, 0, 4033901567) ∧ chkD okB 500 250 2500 (2198, 0, 1480267007) = true := by decide +kernel
theorem db11 : ones 500 250 (2418, 0, 4033901567) = (2637, 0, 42940671) ∧ chkD okB 500 250 2750 (2418, 0, 4033901567) = true := by decide +kernel
theorem db12 : ones 500 250 (2637, 0, 42940671) = (2857, 0, 117022207) ∧ chkD okB 500 250 3000 (2637, 0, 42940671) = true := by decide +kernel
theorem db13 : ones 500 250 (2857, 0, 117022207) = (3077, 0, 318897663) ∧ chkD okB 500 250 3250 (2857, 0, 117022207) = true := by decide +kernel
theorem db14 : ones 500 250 (3077, 0, 318897663) = (3297, 0, 869040639) ∧ chkD okB 500 250 3500 (3077, 0, 318897663) = true := by decide +kernel
theorem db15 : ones 500 250 (3297, 0, 869040639) = (3517, 0, 2368231679) ∧ chkD okB 500 250 3750 (3297, 0, 869040639) = true := by decide +kernel
theorem db16 : ones 500 250 (3517, 0, 2368231679) = (3736, 0, 25209466) ∧ chkD okB 500 250 4000 (3517, 0, 2368231679) = true := by decide +kernel
theorem atb (n : Nat) (h : n < 4250) : okB n (ones 500 n (0, 0, 4294967295)).1 = true := by
  have e1 : ones 500 250 (0, 0, 4294967295) = (219, 0, 45721087) := db0.1
  have e2 : ones 500 500 (0, 0, 4294967295) = (439, 0, 124594175) := by rw [show 500 = 250 + 250 from rfl, ones_add, e1]; exact db1.1
  have e3 : ones 500 750 (0, 0, 4294967295) = (659, 0, 339535615) := by rw [show 750 = 500 + 250 from rfl, ones_add, e2]; exact db2.1
  have e4 : ones 500 1000 (0, 0, 4294967295) = (879, 0, 925267199) := by rw [show 1000 = 750 + 250 from rfl, ones_add, e3]; exact db3.1
  have e5 : ones 500 1250 (0, 0, 4294967295) = (1099, 0, 2521464063) := by rw [show 1250 = 1000 + 250 from rfl, ones_add, e4]; exact db4.1
  have e6 : ones 500 1500 (0, 0, 4294967295) = (1318, 0, 26840882) := by rw [show 1500 = 1250 + 250 from rfl, ones_add, e5]; exact db5.1
  have e7 : ones 500 1750 (0, 0, 4294967295) = (1538, 0, 73145087) := by rw [show 1750 = 1500 + 250 from rfl, ones_add, e6]; exact db6.1
  have e8 : ones 500 2000 (0, 0, 4294967295) = (1758, 0, 199326719) := by rw [show 2000 = 1750 + 250 from rfl, ones_add, e7]; exact db7.1
  have e9 : ones 500 2250 (0, 0, 4294967295) = (1978, 0, 543190527) := by rw [show 2250 = 2000 + 250 from rfl, ones_add, e8]; exact db8.1
  have e10 : ones 500 2500 (0, 0, 4294967295) = (2198, 0, 1480267007) := by rw [show 2500 = 2250 + 250 from rfl, ones_add, e9]; exact db9.1
  have e11 : ones 500 2750 (0, 0, 4294967295) = (2418, 0, 4033901567) := by rw [show 2750 = 2500 + 250 from rfl, ones_add, e10]; exact db10.1
  have e12 : ones 500 3000 (0, 0, 4294967295) = (2637, 0, 42940671) := by rw [show 3000 = 2750 + 250 from rfl, ones_add, e11]; exact db11.1
  have e13 : ones 500 3250 (0, 0, 4294967295) = (2857, 0, 117022207) := by rw [show 3250 = 3000 + 250 from rfl, ones_add, e12]; exact db12.1
  have e14 : ones 500 3500 (0, 0, 4294967295) = (3077, 0, 318897663) := by rw [show 3500 = 3250 + 250 from rfl, ones_add, e13]; exact db13.1
  have e15 : ones 500 3750 (0, 0, 4294967295) = (3297, 0, 869040639) := by rw [show 3750 = 3500 + 250 from rfl, ones_add, e14]; exact db14.1
  have e16 : ones 500 4000 (0, 0, 4294967295) = (3517, 0, 2368231679) := by rw [show 4000 = 3750 + 250 from rfl, ones_add, e15]; exact db15.1
  obtain ⟨j, hj⟩ : ∃ j, n % 250 = j := ⟨_, rfl⟩
  by_cases h0 : n < 250
  · have en : n = 0 + j := by omega
    have hc := chkD_at okB 500 250 0 _ db0.2 j (by omega)
    rw [en, Nat.zero_add]
    rw [Nat.zero_add] at hc
    exact hc
  by_cases h1 : n < 500
  · have en : n = 250 + j := by omega
    have hc := chkD_at okB 500 250 250 _ db1.2 j (by omega)
    rw [en, ones_add, e1]
    exact hc
  by_cases h2 : n < 750
  · have en : n = 500 + j := by omega
    have hc := chkD_at okB 500 250 500 _ db2.2 j (by omega)
    rw [en, ones_add, e2]
    exact hc
  by_cases h3 : n < 1000
  · have en : n = 750 + j := by omega
    have hc := chkD_at okB 500 250 750 _ db3.2 j (by omega)
    rw [en, ones_add, e3]
    exact hc
  by_cases h4 : n < 1250
  · have en : n = 1000 + j := by omega
    have hc := chkD_at okB 500 250 1000 _ db4.2 j (by omega)
    rw [en, ones_add, e4]
    exact hc
  by_cases h5 : n < 1500
  · have en : n = 1250 + j := by omega
    have hc := chkD_at okB 500 250 1250 _ db5.2 j (by omega)
    rw [en, ones_add, e5]
    exact hc
  by_cases h6 : n < 1750
  · have en : n = 1500 + j := by omega
    have hc := chkD_at okB 500 250 1500 _ db6.2 j (by omega)
    rw [en, ones_add, e6]
    exact hc
  by_cases h7 : n < 2000
  · have en : n = 1750 + j := by omega
    have hc := chkD_at okB 500 250 1750 _ db7.2 j (by omega)
    rw [en, ones_add, e7]
    exact hc
  by_cases h8 : n < 2250
  · have en : n = 2000 + j := by omega
    have hc := chkD_at okB 500 250 2000 _ db8.2 j (by omega)
    rw [en, ones_add, e8]
    exact hc
  by_cases h9 : n < 2500
  · have en : n = 2250 + j := by omega
    have hc := chkD_at okB 500 250 2250 _ db9.2 j (by omega)
    rw [en, ones_add, e9]
    exact hc
  by_cases h10 : n < 2750
  · have en : n = 2500 + j := by omega
    have hc := chkD_at okB 500 250 2500 _ db10.2 j (by omega)
    rw [en, ones_add, e10]
    exact hc
  by_cases h11 : n < 3000
  · have en : n = 2750 + j := by omega
    have hc := chkD_at okB 500 250 2750 _ db11.2 j (by omega)
    rw [en, ones_add, e11]
    exact hc
  by_cases h12 : n < 3250
  · have en : n = 3000 + j := by omega
    have hc := chkD_at okB 500 250 3000 _ db12.2 j (by omega)
    rw [en, ones_add, e12]
    exact hc
  by_cases h13 : n < 3500
  · have en : n = 3250 + j := by omega
    have hc := chkD_at okB 500 250 3250 _ db13.2 j (by omega)
    rw [en, ones_add, e13]
    exact hc
  by_cases h14 : n < 3750
  · have en : n = 3500 + j := by omega
    have hc := chkD_at okB 500 250 3500 _ db14.2 j (by omega)
    rw [en, ones_add, e14]
    exact hc
  by_cases h15 : n < 4000
  · have en : n = 3750 + j := by omega
    have hc := chkD_at okB 500 250 3750 _ db15.2 j (by omega)
    rw [en, ones_add, e15]
    exact hc
  have en : n = 4000 + j := by omega
  have hc := chkD_at okB 500 250 4000 _ db16.2 j (by omega)
  rw [en, ones_add, e16]
  exact hc
end Go.Proofs.Ytbgbacajgaeooaa
