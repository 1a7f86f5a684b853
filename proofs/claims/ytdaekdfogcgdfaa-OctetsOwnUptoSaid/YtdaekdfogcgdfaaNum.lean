/-
  Numbers as bytes, the highest byte first, and bytes as numbers: plain lemmas on lists. No program.
-/
import Derived.WalkKit
namespace Go.Proofs.Ytdaekdfogcgdfaa

theorem hid {p : Prop} (h : p) : RowKit.Hid p := h

/-- What bytes count, the first one the most. -/
def beN (l : List UInt8) : Nat := l.foldl (fun a b => a * 256 + b.toNat) 0

theorem beN_nil : beN [] = 0 := rfl
theorem beN_snoc (l : List UInt8) (c : UInt8) : beN (l ++ [c]) = beN l * 256 + c.toNat := by simp [beN, List.foldl_append]
theorem beN_lt : ∀ (n : Nat) (l : List UInt8), l.length = n → beN l < 256 ^ n := by
  intro n
  induction n with
  | zero => intro l h; obtain rfl := List.eq_nil_of_length_eq_zero h; simp [beN]
  | succ n ih =>
    intro l h
    rcases List.eq_nil_or_concat l with rfl | ⟨l', c, rfl⟩
    · simp at h
    · rw [List.concat_eq_append] at h ⊢
      have hl : l'.length = n := by simpa using h
      have := ih l' hl
      rw [beN_snoc, Nat.pow_succ]
      have := c.toNat_lt
      omega

/-- The n bytes of a number (of what it is modulo 256 to the power of n). -/
def bytesN : Nat → Nat → List UInt8
  | 0, _ => []
  | n + 1, v => bytesN n (v / 256) ++ [UInt8.ofNat (v % 256)]

theorem length_bytesN : ∀ (n v : Nat), (bytesN n v).length = n
  | 0, _ => rfl
  | n + 1, v => by simp [bytesN, length_bytesN n]
theorem beN_bytesN : ∀ (n v : Nat), beN (bytesN n v) = v % 256 ^ n
  | 0, v => by simp [bytesN, beN, Nat.mod_one]
  | n + 1, v => by
    rw [bytesN, beN_snoc, beN_bytesN n]
    have e : (UInt8.ofNat (v % 256)).toNat = v % 256 := by simp
    rw [e, Nat.pow_succ, Nat.mul_comm (256 ^ n) 256, Nat.mod_mul]
    omega
/-- The first k of the n bytes are gone: the number is read from its end. -/
theorem bytesN_getElem : ∀ (n v j : Nat) (h : j < (bytesN n v).length), (bytesN n v)[j] = UInt8.ofNat (v / 256 ^ (n - 1 - j) % 256)
  | 0, v, j, h => by simp [bytesN] at h
  | n + 1, v, j, h => by
    have hj : j < n + 1 := by simpa [length_bytesN] using h
    by_cases e : j = n
    · subst e
      simp [bytesN, length_bytesN, List.getElem_append_right]
    · have hlt : j < n := by omega
      have hl : j < (bytesN n (v / 256)).length := by rw [length_bytesN]; exact hlt
      simp only [bytesN]
      rw [List.getElem_append_left hl, bytesN_getElem n (v / 256) j hl, Nat.div_div_eq_div_mul, ← Nat.pow_succ']
      congr 4
      omega
theorem bytesN_cons : ∀ (k v : Nat), bytesN (k + 1) v = UInt8.ofNat (v / 256 ^ k % 256) :: bytesN k v
  | 0, v => by simp [bytesN]
  | k + 1, v => by
    rw [bytesN, bytesN_cons k (v / 256)]
    have e : v / 256 / 256 ^ k = v / 256 ^ (k + 1) := by rw [Nat.div_div_eq_div_mul, Nat.pow_succ']
    rw [e, List.cons_append]
    rfl
/-- Behind bytes that a number has been read from. -/
theorem take_succ_drop (l : List UInt8) (a k : Nat) (h : a + k < l.length) : (l.drop a).take (k + 1) = (l.drop a).take k ++ [l[a + k]] := by
  have hk : k < (l.drop a).length := by simp; omega
  rw [List.take_succ_eq_append_getElem hk]
  simp
end Go.Proofs.Ytdaekdfogcgdfaa
