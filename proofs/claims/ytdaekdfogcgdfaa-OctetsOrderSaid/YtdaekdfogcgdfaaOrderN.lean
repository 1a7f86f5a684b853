/-
  The order of bytes is the order of the numbers that they count, and of the texts that stand behind their lengths.
-/
import Derived.Test.YtdaekdfogcgdfaaTwiceN
namespace Go.Proofs.Ytdaekdfogcgdfaa

theorem bytesN_beN : ∀ (n : Nat) (l : List UInt8), l.length = n → bytesN n (beN l) = l := by
  intro n
  induction n with
  | zero => intro l h; obtain rfl := List.eq_nil_of_length_eq_zero h; rfl
  | succ n ih =>
    intro l h
    rcases List.eq_nil_or_concat l with rfl | ⟨l', c, rfl⟩
    · simp at h
    · rw [List.concat_eq_append] at h ⊢
      have hl : l'.length = n := by simpa using h
      have hc := c.toNat_lt
      rw [beN_snoc, bytesN]
      have e1 : (beN l' * 256 + c.toNat) / 256 = beN l' := by omega
      have e2 : (beN l' * 256 + c.toNat) % 256 = c.toNat := by omega
      rw [e1, e2, ih l' hl]
      simp
theorem beN_inj (x y : List UInt8) (h : x.length = y.length) (e : beN x = beN y) : x = y := by
  have h1 := bytesN_beN y.length x h
  have h2 := bytesN_beN y.length y rfl
  rw [← h1, e, h2]
theorem bytesN_inj (k u v : Nat) (hu : u < 256 ^ k) (hv : v < 256 ^ k) (e : bytesN k u = bytesN k v) : u = v := by
  have h1 := beN_bytesN k u
  have h2 := beN_bytesN k v
  rw [Nat.mod_eq_of_lt hu] at h1
  rw [Nat.mod_eq_of_lt hv] at h2
  rw [← h1, ← h2, e]
theorem less_append : ∀ (a b x y : List UInt8), a.length = b.length → Op.bytesLess (a ++ x) (b ++ y) = (Op.bytesLess a b || (a == b && Op.bytesLess x y))
  | [], [], x, y, _ => by simp [Op.bytesLess]
  | [], _ :: _, _, _, h => by simp at h
  | _ :: _, [], _, _, h => by simp at h
  | c :: a, d :: b, x, y, h => by
    have hl : a.length = b.length := by simpa using h
    rw [List.cons_append, List.cons_append, Op.bytesLess, Op.bytesLess, less_append a b x y hl]
    by_cases h1 : c < d
    · simp [h1]
    · by_cases h2 : c = d
      · subst h2; simp
      · have h3 : (c == d) = false := beq_eq_false_iff_ne.2 h2
        simp [h1, h3]
theorem less_be : ∀ (a b : List UInt8), a.length = b.length → Op.bytesLess a b = decide (beN a < beN b)
  | [], [], _ => by simp [Op.bytesLess, beN]
  | [], _ :: _, h => by simp at h
  | _ :: _, [], h => by simp at h
  | c :: a, d :: b, h => by
    have hl : a.length = b.length := by simpa using h
    have ea : beN (c :: a) = c.toNat * 256 ^ a.length + beN a := by
      have := beN_append [c] a
      simpa [beN] using this
    have eb : beN (d :: b) = d.toNat * 256 ^ b.length + beN b := by
      have := beN_append [d] b
      simpa [beN] using this
    have la := beN_lt a.length a rfl
    have lb := beN_lt b.length b rfl
    rw [Op.bytesLess, less_be a b hl, ea, eb]
    rw [hl] at la ⊢
    generalize 256 ^ b.length = M at *
    by_cases h1 : c < d
    · have h1' : c.toNat + 1 ≤ d.toNat := by rw [UInt8.lt_iff_toNat_lt] at h1; omega
      have : (c.toNat + 1) * M ≤ d.toNat * M := Nat.mul_le_mul_right _ h1'
      rw [Nat.add_mul] at this
      have h2 : c.toNat * M + beN a < d.toNat * M + beN b := by omega
      simp [h1, h2]
    · by_cases h2 : c = d
      · subst h2
        simp
      · have h1' : d.toNat + 1 ≤ c.toNat := by
          rw [UInt8.lt_iff_toNat_lt] at h1
          have : c.toNat ≠ d.toNat := fun e => h2 (UInt8.toNat_inj.1 e)
          omega
        have : (d.toNat + 1) * M ≤ c.toNat * M := Nat.mul_le_mul_right _ h1'
        rw [Nat.add_mul] at this
        have h3 : ¬ c.toNat * M + beN a < d.toNat * M + beN b := by omega
        simp [h1, h2, h3]
theorem less_bytesN (k u v : Nat) (hu : u < 256 ^ k) (hv : v < 256 ^ k) : Op.bytesLess (bytesN k u) (bytesN k v) = decide (u < v) := by
  rw [less_be _ _ (by rw [length_bytesN, length_bytesN]), beN_bytesN, beN_bytesN, Nat.mod_eq_of_lt hu, Nat.mod_eq_of_lt hv]
theorem eq_bytesN (k u v : Nat) (hu : u < 256 ^ k) (hv : v < 256 ^ k) : (bytesN k u == bytesN k v) = ((u : Int) == (v : Int)) := by
  by_cases h : u = v
  · subst h; simp
  · have h1 : bytesN k u ≠ bytesN k v := fun e => h (bytesN_inj k u v hu hv e)
    have h2 : (u : Int) ≠ (v : Int) := by omega
    rw [beq_eq_false_iff_ne.2 h1, beq_eq_false_iff_ne.2 h2]
theorem text_less (s t : List UInt8) (hs : s.length < 65536) (ht : t.length < 65536) :
    Op.bytesLess (bytesN 2 s.length ++ s) (bytesN 2 t.length ++ t) = (decide (s.length < t.length) || (s.length == t.length && Op.bytesLess s t)) := by
  rw [less_append _ _ _ _ (by rw [length_bytesN, length_bytesN]), less_bytesN 2 _ _ hs ht, eq_bytesN 2 _ _ hs ht]
  congr 2
  by_cases h : s.length = t.length
  · simp [h]
  · have h2 : (s.length : Int) ≠ (t.length : Int) := by omega
    rw [beq_eq_false_iff_ne.2 h2, beq_eq_false_iff_ne.2 h]
theorem text_eq (s t : List UInt8) :
    (bytesN 2 s.length ++ s == bytesN 2 t.length ++ t) = (s == t) := by
  by_cases h : s = t
  · subst h; simp
  · have h1 : bytesN 2 s.length ++ s ≠ bytesN 2 t.length ++ t := by
      intro e
      have := List.append_inj e (by rw [length_bytesN, length_bytesN])
      exact h this.2
    rw [beq_eq_false_iff_ne.2 h1, beq_eq_false_iff_ne.2 h]
end Go.Proofs.Ytdaekdfogcgdfaa
