/-
  The contract of the document's Times: the product of two polynomials, then its rest, is the field's product.
-/
import Derived.Test.YtlgabihjfjlhkaaByte
import Derived.IntWalk
namespace Go.Proofs.Ytlgabihjfjlhkaa
open Go.RowKit

theorem i64_xor_nat (a b : Nat) (ha : a < 9223372036854775808) (hb : b < 9223372036854775808) : bits .xor .i64 (a : Int) (b : Int) = ((a ^^^ b : Nat) : Int) := by
  have hx : a ^^^ b < 2 ^ 63 := Nat.xor_lt_two_pow (by omega) (by omega)
  show IntKind.i64.wrap ((BitVec.ofInt 64 (a : Int) ^^^ BitVec.ofInt 64 (b : Int)).toNat : Int) = _
  rw [BitVec.toNat_xor, ofInt_u64 a (by omega), ofInt_u64 b (by omega), IntKind.wrap_i64]
  omega
theorem i64_and_nat (a b : Nat) (ha : a < 9223372036854775808) (hb : b < 9223372036854775808) : bits .and .i64 (a : Int) (b : Int) = ((a &&& b : Nat) : Int) := by
  have hx : a &&& b < 2 ^ 63 := Nat.and_lt_two_pow _ (by omega)
  show IntKind.i64.wrap ((BitVec.ofInt 64 (a : Int) &&& BitVec.ofInt 64 (b : Int)).toNat : Int) = _
  rw [BitVec.toNat_and, ofInt_u64 a (by omega), ofInt_u64 b (by omega), IntKind.wrap_i64]
  omega
theorem i64_and1 (a : Nat) (ha : a < 9223372036854775808) : bits .and .i64 (a : Int) 1 = ((a % 2 : Nat) : Int) := by
  rw [show (1 : Int) = ((1 : Nat) : Int) from rfl, i64_and_nat _ _ ha (by omega), Nat.and_one_is_mod]
theorem wrap64_small (z : Nat) (h : z < 65536) : wrap64 (z : Int) = (z : Int) := by unfold wrap64; omega
/-- The first n rows of the product. -/
def mulP (a b : Nat) : Nat → Nat
  | 0 => 0
  | n + 1 => mulP a b n ^^^ (if b / 2 ^ n % 2 = 1 then a * 2 ^ n else 0)
/-- One step of the rest. -/
def redS (p i : Nat) : Nat := p ^^^ (if p / 2 ^ i % 2 = 1 then 283 * 2 ^ (i - 8) else 0)
def redP (p : Nat) : Nat := redS (redS (redS (redS (redS (redS (redS p 14) 13) 12) 11) 10) 9) 8
theorem bit_xor (x y i : Nat) : (x ^^^ y) / 2 ^ i % 2 = (x / 2 ^ i % 2 + y / 2 ^ i % 2) % 2 := by
  rw [← Nat.shiftRight_eq_div_pow, ← Nat.shiftRight_eq_div_pow, ← Nat.shiftRight_eq_div_pow, Nat.shiftRight_xor_distrib, xor_parity]
theorem bit_two (x : Nat) : x % 2 = 0 ∨ x % 2 = 1 := by omega
theorem redS_xor (x y i : Nat) : redS (x ^^^ y) i = redS x i ^^^ redS y i := by
  unfold redS
  rw [bit_xor, xor_swap4]
  congr 1
  rcases bit_two (x / 2 ^ i) with h1 | h1 <;> rcases bit_two (y / 2 ^ i) with h2 | h2 <;> simp [h1, h2]
theorem redP_xor (x y : Nat) : redP (x ^^^ y) = redP x ^^^ redP y := by
  unfold redP
  simp only [redS_xor]
theorem mul_pow_xor (x y n : Nat) : (x ^^^ y) * 2 ^ n = x * 2 ^ n ^^^ y * 2 ^ n := by
  rw [← Nat.shiftLeft_eq, ← Nat.shiftLeft_eq, ← Nat.shiftLeft_eq, Nat.shiftLeft_xor_distrib]
theorem mulP_left (x y b : Nat) : ∀ n, mulP (x ^^^ y) b n = mulP x b n ^^^ mulP y b n
  | 0 => by simp [mulP]
  | n + 1 => by
    unfold mulP
    rw [mulP_left x y b n, xor_swap4]
    congr 1
    split
    · exact mul_pow_xor x y n
    · simp
theorem mulP_right (a x y : Nat) : ∀ n, mulP a (x ^^^ y) n = mulP a x n ^^^ mulP a y n
  | 0 => by simp [mulP]
  | n + 1 => by
    unfold mulP
    rw [mulP_right a x y n, xor_swap4, bit_xor]
    congr 1
    rcases bit_two (x / 2 ^ n) with h1 | h1 <;> rcases bit_two (y / 2 ^ n) with h2 | h2 <;> simp [h1, h2]
theorem mul_all : ((List.range 8).all fun i => (List.range 8).all fun j => redP (mulP (2 ^ i) (2 ^ j) 8) == gf (2 ^ i) (2 ^ j)) = true := by kernel_rfl
theorem red_mul (a b : Nat) (ha : a < 256) (hb : b < 256) : redP (mulP a b 8) = gf a b := by
  refine lin_ext (f := fun a => redP (mulP a b 8)) (g := fun a => gf a b) (fun x y _ _ => ?_) (fun x y hx hy => gf_xor_left x y b hx hy) (fun i hi => ?_) a ha
  · show redP (mulP (x ^^^ y) b 8) = _
    rw [mulP_left, redP_xor]
  refine lin_ext (f := fun b => redP (mulP (2 ^ i) b 8)) (g := fun b => gf (2 ^ i) b) (fun x y _ _ => ?_) (fun x y _ _ => gf_xor_right _ x y) (fun j hj => ?_) b hb
  · show redP (mulP (2 ^ i) (x ^^^ y) 8) = _
    rw [mulP_right, redP_xor]
  have := all8 (all8 mul_all i hi) j hj
  simpa using this
theorem mulP_lt (a b : Nat) (ha : a < 256) : ∀ n, n ≤ 8 → mulP a b n < 65536
  | 0, _ => by show (0 : Nat) < 65536; omega
  | n + 1, h => by
    unfold mulP
    refine Nat.xor_lt_two_pow (n := 16) (mulP_lt a b ha n (by omega)) ?_
    split
    · have h1 : 2 ^ n ≤ 2 ^ 7 := Nat.pow_le_pow_right (by omega) (by omega)
      calc a * 2 ^ n < 256 * 2 ^ n := Nat.mul_lt_mul_of_pos_right ha (Nat.two_pow_pos n)
        _ ≤ 256 * 2 ^ 7 := Nat.mul_le_mul_left _ h1
        _ ≤ 2 ^ 16 := by decide
    · exact Nat.two_pow_pos 16
theorem redS_lt (p i : Nat) (hp : p < 65536) (hi : i < 16) : redS p i < 65536 := by
  unfold redS
  refine Nat.xor_lt_two_pow (n := 16) hp ?_
  split
  · have h1 : 2 ^ (i - 8) ≤ 2 ^ 7 := Nat.pow_le_pow_right (by omega) (by omega)
    calc 283 * 2 ^ (i - 8) ≤ 283 * 2 ^ 7 := Nat.mul_le_mul_left _ h1
      _ < 2 ^ 16 := by decide
  · exact Nat.two_pow_pos 16
/-- The rest ahead of place i. -/
def redT (p : Nat) : Nat → Nat
  | 0 => p
  | n + 1 => redS (redT p n) (14 - n)
theorem redT_end (p : Nat) : redT p 7 = redP p := rfl
theorem redT_lt (p : Nat) (hp : p < 65536) : ∀ n, redT p n < 65536
  | 0 => hp
  | n + 1 => redS_lt _ _ (redT_lt p hp n) (by omega)
set_option maxRecDepth 10000 in
set_option maxHeartbeats 1000000 in
theorem RefTimes_any (a b : Nat) (ha : a < 256) (hb : b < 256) (w : World) : Calls Try.prog 40 #[.int .u8 a, .int .u8 b] w fun e w' => e = .returned (.int .u8 (gf a b : Nat)) ∧ w = w' := by
  have HE := hid (red_mul a b ha hb)
  have HM := hid (mulP_lt a b ha)
  have HR := hid (redT_lt (mulP a b 8) (mulP_lt a b ha 8 (by omega)))
  have hG := gf_lt a b ha
  go_enter Try.func40, Try.ntmps40
  go_wp2_with fail
  go_loopw [5, 6] (fun vp vi wr => ∃ n : Nat, n ≤ 8 ∧ vi = .int .i64 n ∧ vp = .int .i64 (mulP a b n : Nat) ∧ w = wr) (fun _ vi _ => 8 - (intOf vi).toNat)
  case atStart => exact ⟨0, Nat.zero_le _, rfl, rfl, rfl⟩
  case round =>
    obtain ⟨n, hn, rfl, rfl, rfl⟩ := hrel
    by_cases hlt : n < 8
    · have hlz : (n : Int) < 8 := by omega
      have lp := HM.out n hn
      have HN : Hid (mulP a b (n + 1) = mulP a b n ^^^ (if b / 2 ^ n % 2 = 1 then a * 2 ^ n else 0)) := rfl
      generalize mulP a b n = p at lp HN ⊢
      have hbd : (b / 2 ^ n) < 256 := Nat.lt_of_le_of_lt (Nat.div_le_self _ _) hb
      have qd : (b : Int) / 2 ^ n = ((b / 2 ^ n : Nat) : Int) := by push_cast; rfl
      have q1 : bits BinOp.and IntKind.i64 ((b : Int) / 2 ^ n) 1 = ((b / 2 ^ n % 2 : Nat) : Int) := by rw [qd]; exact i64_and1 _ (by omega)
      by_cases h1 : b / 2 ^ n % 2 = 1
      · rw [if_pos h1] at HN
        rw [h1] at q1
        have q1' : bits BinOp.and IntKind.i64 ((b : Int) / 2 ^ n) 1 = 1 := q1
        have lz : a * 2 ^ n < 65536 := by
          have h2 : 2 ^ n ≤ 2 ^ 7 := Nat.pow_le_pow_right (by omega) (by omega)
          calc a * 2 ^ n < 256 * 2 ^ n := Nat.mul_lt_mul_of_pos_right ha (Nat.two_pow_pos n)
            _ ≤ 256 * 2 ^ 7 := Nat.mul_le_mul_left _ h2
            _ ≤ 65536 := by decide
        have qm : wrap64 ((a : Int) * 2 ^ n) = ((a * 2 ^ n : Nat) : Int) := by
          rw [show (a : Int) * 2 ^ n = ((a * 2 ^ n : Nat) : Int) by push_cast; rfl]
          exact wrap64_small _ lz
        have q2 : bits BinOp.xor IntKind.i64 (p : Int) (wrap64 ((a : Int) * 2 ^ n)) = ((p ^^^ a * 2 ^ n : Nat) : Int) := by
          rw [qm]; exact i64_xor_nat _ _ (Nat.lt_of_lt_of_le lp (by decide)) (Nat.lt_of_lt_of_le lz (by decide))
        generalize p ^^^ a * 2 ^ n = r at q2 HN
        clear q1 qd hbd qm lz
        go_wp2_with fail
        go_roundw
        case rel => exact ⟨n + 1, by omega, by go_num, by rw [HN.out], by first | trivial | rfl⟩
        case measure => simp [intOf]; omega
      · rw [if_neg h1, Nat.xor_zero] at HN
        rw [show b / 2 ^ n % 2 = 0 by omega] at q1
        have q1' : bits BinOp.and IntKind.i64 ((b : Int) / 2 ^ n) 1 = 0 := q1
        clear q1 qd hbd
        go_wp2_with fail
        go_roundw
        case rel => exact ⟨n + 1, by omega, by go_num, by rw [HN.out], by first | trivial | rfl⟩
        case measure => simp [intOf]; omega
    · obtain rfl : n = 8 := by omega
      have HD : Hid (redT (mulP a b 8) 7 = gf a b) := HE.out
      generalize mulP a b 8 = P at HR HD ⊢
      have H0 : Hid (redT P 0 = P) := rfl
      clear HE HM
      go_wp2_with fail
      go_loopw [5, 7] (fun vp vi wr => ∃ n i : Nat, n ≤ 7 ∧ i + n = 14 ∧ vi = .int .i64 i ∧ vp = .int .i64 (redT P n : Nat) ∧ w = wr) (fun _ vi _ => (intOf vi).toNat)
      case atStart => exact ⟨0, 14, Nat.zero_le _, rfl, rfl, rfl, rfl⟩
      case round =>
        obtain ⟨n, i, hn, hni, rfl, rfl, rfl⟩ := hrel
        by_cases hlt : n < 7
        · have hlz : (8 : Int) ≤ (i : Int) := by omega
          have lp := HR.out n
          have HN : Hid (redT P (n + 1) = redT P n ^^^ (if redT P n / 2 ^ i % 2 = 1 then 283 * 2 ^ (i - 8) else 0)) := by
            rw [show i = 14 - n by omega]; rfl
          generalize redT P n = p at lp HN ⊢
          have hbd : (p / 2 ^ i) < 65536 := Nat.lt_of_le_of_lt (Nat.div_le_self _ _) lp
          have qd : (p : Int) / 2 ^ i = ((p / 2 ^ i : Nat) : Int) := by push_cast; rfl
          have q1 : bits BinOp.and IntKind.i64 ((p : Int) / 2 ^ i) 1 = ((p / 2 ^ i % 2 : Nat) : Int) := by rw [qd]; exact i64_and1 _ (by omega)
          have hj : (((i - 1 : Nat)) : Int) = (i : Int) - 1 := by omega
          by_cases h1 : p / 2 ^ i % 2 = 1
          · rw [if_pos h1] at HN
            rw [h1] at q1
            have q1' : bits BinOp.and IntKind.i64 ((p : Int) / 2 ^ i) 1 = 1 := q1
            have lz : 283 * 2 ^ (i - 8) < 65536 := by
              have h2 : 2 ^ (i - 8) ≤ 2 ^ 6 := Nat.pow_le_pow_right (by omega) (by omega)
              calc 283 * 2 ^ (i - 8) ≤ 283 * 2 ^ 6 := Nat.mul_le_mul_left _ h2
                _ < 65536 := by decide
            have qm : wrap64 (283 * 2 ^ (i - 8)) = ((283 * 2 ^ (i - 8) : Nat) : Int) := by
              rw [show (283 : Int) * 2 ^ (i - 8) = ((283 * 2 ^ (i - 8) : Nat) : Int) by push_cast; rfl]
              exact wrap64_small _ lz
            have q2 : bits BinOp.xor IntKind.i64 (p : Int) (wrap64 (283 * 2 ^ (i - 8))) = ((p ^^^ 283 * 2 ^ (i - 8) : Nat) : Int) := by
              rw [qm]; exact i64_xor_nat _ _ (Nat.lt_of_lt_of_le lp (by decide)) (Nat.lt_of_lt_of_le lz (by decide))
            generalize p ^^^ 283 * 2 ^ (i - 8) = r at q2 HN
            clear q1 qd hbd qm lz
            go_wp2_with fail
            go_roundw
            case rel => exact ⟨n + 1, i - 1, by omega, by omega, by rw [hj], by rw [HN.out], by first | trivial | rfl⟩
            case measure => simp [intOf]; omega
          · rw [if_neg h1, Nat.xor_zero] at HN
            rw [show p / 2 ^ i % 2 = 0 by omega] at q1
            have q1' : bits BinOp.and IntKind.i64 ((p : Int) / 2 ^ i) 1 = 0 := q1
            clear q1 qd hbd
            go_wp2_with fail
            go_roundw
            case rel => exact ⟨n + 1, i - 1, by omega, by omega, by rw [hj], by rw [HN.out], by first | trivial | rfl⟩
            case measure => simp [intOf]; omega
        · obtain rfl : n = 7 := by omega
          obtain rfl : i = 7 := by omega
          rw [HD.out]
          clear HD H0 HR
          go_wp2_with fail
          go_ret
          exact ⟨ret_u8 (by omega), by first | trivial | rfl⟩
end Go.Proofs.Ytlgabihjfjlhkaa
