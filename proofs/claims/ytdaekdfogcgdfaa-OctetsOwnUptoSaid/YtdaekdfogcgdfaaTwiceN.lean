/-
  The walk of OctetsTwice.
-/
import Derived.Test.YtdaekdfogcgdfaaFrame
namespace Go.Proofs.Ytdaekdfogcgdfaa
open Go.RowKit

theorem foldl_be : ∀ (b : List UInt8) (x : Nat), b.foldl (fun a c => a * 256 + c.toNat) x = x * 256 ^ b.length + beN b
  | [], x => by simp [beN]
  | c :: b, x => by
    have h1 := foldl_be b (x * 256 + c.toNat)
    have h2 := foldl_be b (0 * 256 + c.toNat)
    simp only [List.foldl_cons, beN, List.length_cons] at *
    rw [h1, h2, Nat.pow_succ, Nat.add_mul, Nat.mul_assoc, Nat.mul_comm (256 ^ b.length) 256]
    simp [Nat.add_assoc]
theorem beN_append (a b : List UInt8) : beN (a ++ b) = beN a * 256 ^ b.length + beN b := by
  unfold beN
  rw [List.foldl_append, foldl_be]
  rfl
theorem has_int_yes {k n : Nat} {a : Int} (h0 : 0 ≤ a) (h : a + k ≤ n) : has k n a = true := by
  unfold has; rw [decide_eq_true_iff]; omega
theorem has_int_no {k n : Nat} {a : Int} (h : a < 0 ∨ (n : Int) < a + k) : has k n a = false := by
  unfold has; rw [decide_eq_false_iff_not]; omega
/-- A number of twice as many bytes is two, one behind the other. -/
theorem num_split (k : Nat) (l : List UInt8) (p : Int) (h0 : 0 ≤ p) (h : p + 2 * k ≤ l.length) :
    ∃ x y : Nat, num k l p = x ∧ num k l (p + k) = y ∧ num (2 * k) l p = ((x * 256 ^ k + y : Nat) : Int) ∧ x < 256 ^ k ∧ y < 256 ^ k := by
  obtain ⟨P, rfl⟩ := Int.eq_ofNat_of_zero_le h0
  have e : (P : Int) + (k : Int) = ((P + k : Nat) : Int) := by omega
  rw [e, num_yes (k := P) (n := k) (by omega), num_yes (k := P + k) (n := k) (by omega), num_yes (k := P) (n := 2 * k) (by omega)]
  refine ⟨_, _, rfl, rfl, ?_, beN_lt k _ (by simp; omega), beN_lt k _ (by simp; omega)⟩
  have hs : (l.drop P).take (2 * k) = (l.drop P).take k ++ (l.drop (P + k)).take k := by
    rw [Nat.two_mul, List.take_add, List.drop_drop]
  rw [hs, beN_append]
  have hl : ((l.drop (P + k)).take k).length = k := by simp; omega
  rw [hl]
theorem or_cat (x y s : Nat) (h : y < 2 ^ s) : x * 2 ^ s ||| y = x * 2 ^ s + y := by
  have := Nat.two_pow_add_eq_or_of_lt (i := s) (b := y) h x
  rw [Nat.mul_comm x (2 ^ s)]
  exact this.symm
theorem twice64 (l : List UInt8) (p : Int) (h0 : 0 ≤ p) (h : p + 8 ≤ l.length) :
    (num 8 l p != bits BinOp.or IntKind.u64 (IntKind.u64.wrap (IntKind.u64.wrap (num 4 l p) * 4294967296)) (IntKind.u64.wrap (num 4 l (p + 4)))) = false := by
  obtain ⟨x, y, e1, e2, e3, hx, hy⟩ := num_split 4 l p h0 (by omega)
  have e2' : num 4 l (p + 4) = y := e2
  have e3' : num 8 l p = ((x * 4294967296 + y : Nat) : Int) := e3
  have hx' : x < 4294967296 := hx
  have hy' : y < 4294967296 := hy
  rw [e1, e2', e3', IntKind.wrap_u64, IntKind.wrap_u64, IntKind.wrap_u64]
  have w1 : (x : Int) % 18446744073709551616 * 4294967296 % 18446744073709551616 = ((x * 4294967296 : Nat) : Int) := by omega
  have w2 : (y : Int) % 18446744073709551616 = (y : Int) := by omega
  rw [w1, w2, u64_or_nat _ _ (by omega) (by omega)]
  have := or_cat x y 32 hy'
  have this' : x * 4294967296 ||| y = x * 4294967296 + y := this
  rw [this']
  simp
theorem twice32 (l : List UInt8) (p : Int) (h0 : 0 ≤ p) (h : p + 4 ≤ l.length) :
    (num 4 l p != bits BinOp.or IntKind.u32 (num 2 l p % 4294967296 * 65536 % 4294967296) (num 2 l (p + 2) % 4294967296)) = false := by
  obtain ⟨x, y, e1, e2, e3, hx, hy⟩ := num_split 2 l p h0 (by omega)
  have e2' : num 2 l (p + 2) = y := e2
  have e3' : num 4 l p = ((x * 65536 + y : Nat) : Int) := e3
  have hx' : x < 65536 := hx
  have hy' : y < 65536 := hy
  rw [e1, e2', e3']
  have w1 : (x : Int) % 4294967296 * 65536 % 4294967296 = ((x * 65536 : Nat) : Int) := by omega
  have w2 : (y : Int) % 4294967296 = (y : Int) := by omega
  rw [w1, w2, u32_or_nat _ _ (by omega) (by omega)]
  have := or_cat x y 16 hy'
  have this' : x * 65536 ||| y = x * 65536 + y := this
  rw [this']
  simp
theorem wrap_u16 (n : Int) : IntKind.u16.wrap n = n % 65536 := by simp [IntKind.wrap, IntKind.bits, IntKind.signed]
theorem twice16 (l : List UInt8) (p : Int) (h0 : 0 ≤ p) (h : p + 2 ≤ l.length) :
    (num 2 l p != bits BinOp.or IntKind.u16 (IntKind.u16.wrap (IntKind.u16.wrap (num 1 l p) * 256)) (IntKind.u16.wrap (num 1 l (p + 1)))) = false := by
  obtain ⟨x, y, e1, e2, e3, hx, hy⟩ := num_split 1 l p h0 (by omega)
  have e2' : num 1 l (p + 1) = y := e2
  have e3' : num 2 l p = ((x * 256 + y : Nat) : Int) := e3
  have hx' : x < 256 := hx
  have hy' : y < 256 := hy
  rw [e1, e2', e3', wrap_u16, wrap_u16, wrap_u16]
  have w1 : (x : Int) % 65536 * 256 % 65536 = ((x * 256 : Nat) : Int) := by omega
  have w2 : (y : Int) % 65536 = (y : Int) := by omega
  rw [w1, w2, u16_or_nat _ _ (by omega) (by omega)]
  have := or_cat x y 8 hy'
  have this' : x * 256 ||| y = x * 256 + y := this
  rw [this']
  simp
/-- The bytes of a number, put half by half. -/
theorem bytesN_add : ∀ (j k v : Nat), bytesN (k + j) v = bytesN k (v / 256 ^ j) ++ bytesN j v
  | 0, k, v => by simp [bytesN]
  | j + 1, k, v => by
    rw [← Nat.add_assoc, bytesN, bytesN_add j k (v / 256), bytesN, Nat.div_div_eq_div_mul, Nat.pow_succ', List.append_assoc]
theorem bytesN_mod (k v : Nat) : bytesN k (v % 256 ^ k) = bytesN k v := by
  apply List.ext_getElem
  · rw [length_bytesN, length_bytesN]
  · intro i h1 h2
    have hi : i < k := by simpa [length_bytesN] using h2
    rw [bytesN_getElem, bytesN_getElem]
    have e : 256 ^ k = 256 ^ (k - 1 - i) * 256 ^ (i + 1) := by rw [← Nat.pow_add]; congr 1; omega
    rw [e, Nat.mod_mul_right_div_self]
    have e2 : 256 ^ (i + 1) = 256 * 256 ^ i := Nat.pow_succ'
    rw [e2, Nat.mod_mul_right_mod]
theorem eight_four (V : Nat) : bytesN 4 (V / 4294967296 % 4294967296) ++ bytesN 4 (V % 4294967296) = bytesN 8 V := by
  have h1 : bytesN 4 (V / 4294967296 % 4294967296) = bytesN 4 (V / 4294967296) := bytesN_mod 4 _
  have h2 : bytesN 4 (V % 4294967296) = bytesN 4 V := bytesN_mod 4 _
  rw [h1, h2]
  exact (bytesN_add 4 4 V).symm
theorem four_two (V : Nat) : bytesN 2 (V / 65536 % 65536) ++ bytesN 2 (V % 65536) = bytesN 4 V := by
  have h1 : bytesN 2 (V / 65536 % 65536) = bytesN 2 (V / 65536) := bytesN_mod 2 _
  have h2 : bytesN 2 (V % 65536) = bytesN 2 V := bytesN_mod 2 _
  rw [h1, h2]
  exact (bytesN_add 2 2 V).symm
theorem eight_two (V : Nat) : bytesN 2 (V / 281474976710656 % 65536) ++ (bytesN 2 (V / 4294967296 % 65536) ++ (bytesN 2 (V / 65536 % 65536) ++ bytesN 2 (V % 65536))) = bytesN 8 V := by
  rw [four_two V, ← List.append_assoc]
  have h := four_two (V / 4294967296)
  rw [Nat.div_div_eq_div_mul] at h
  have e : 4294967296 * 65536 = 281474976710656 := rfl
  rw [e] at h
  rw [h]
  exact (bytesN_add 4 4 V).symm
end Go.Proofs.Ytdaekdfogcgdfaa
