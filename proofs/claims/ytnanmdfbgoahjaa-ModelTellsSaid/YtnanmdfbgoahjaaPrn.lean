/-
  The parts of chapter 11 as plain data: which may be, how many places they have; what is right leans on earlier parts alone, and so does each beginning of it.
-/
namespace Go.Proofs.Ytnanmdfbgoahjaa

structure Pt where
  kind : Nat
  size : Int
  a : Int
  b : Int
  c : Int
  rate : Int
  limit : Int
deriving DecidableEq, Inhabited
def mostP (k : Nat) : Int := if k = 2 ∨ k = 3 ∨ k = 4 ∨ k = 6 ∨ k = 8 then 16 else if k = 7 then 12 else if k = 9 then 10 else -1
def leastP (k : Nat) : Int := if k = 4 then 4 else 0
def pow2 (n : Int) : Int := 2 ^ n.toNat
/-- How many places its tables have. -/
def Pt.places (p : Pt) : Int :=
  if leastP p.kind ≤ p.size ∧ p.size ≤ mostP p.kind then
    if p.kind = 3 then pow2 p.size + 256
    else if p.kind = 4 then 2 * pow2 p.size
    else if p.kind = 7 then (if 1 ≤ p.b ∧ p.b ≤ 8 then p.b * pow2 p.size else 0)
    else if p.kind = 8 then pow2 p.size + 512
    else if p.kind = 9 then 32 * pow2 p.size
    else pow2 p.size
  else 0
def memP (l : List Pt) : Int := (l.map Pt.places).sum
/-- The fields that its kind has. -/
def Pt.fields (p : Pt) : Pt :=
  if p.kind = 1 then ⟨1, 0, 0, 0, p.c, 0, 0⟩
  else if p.kind = 2 then ⟨2, p.size, 0, 0, 0, 0, p.limit⟩
  else if p.kind = 3 ∨ p.kind = 4 then ⟨p.kind, p.size, 0, 0, 0, 0, 0⟩
  else if p.kind = 5 then ⟨5, 0, p.a, p.b, p.c, 0, 0⟩
  else if p.kind = 6 ∨ p.kind = 7 then ⟨p.kind, p.size, p.a, p.b, 0, p.rate, 0⟩
  else if p.kind = 8 then ⟨8, p.size, p.a, 0, 0, 0, 0⟩
  else if p.kind = 9 then ⟨9, p.size, p.a, 0, 0, 0, p.limit⟩
  else ⟨p.kind, 0, 0, 0, 0, 0, 0⟩
def inn (n a b : Int) : Prop := a ≤ n ∧ n ≤ b
instance (n a b : Int) : Decidable (inn n a b) := by unfold inn; infer_instance
/-- What each kind's numbers must be, at the place i. -/
def Pt.fit (p : Pt) (i : Int) : Prop :=
  if p.kind = 1 then inn p.c (-2047) 2047
  else if p.kind = 2 then 0 < p.places ∧ inn p.limit 1 1023
  else if p.kind = 3 ∨ p.kind = 4 then 0 < p.places
  else if p.kind = 5 then inn p.a 0 (i - 1) ∧ inn p.b 0 (i - 1) ∧ inn p.c 0 256
  else if p.kind = 6 then 0 < p.places ∧ inn p.a 0 (i - 1) ∧ inn p.b 0 (i - 1) ∧ inn p.rate 1 64
  else if p.kind = 7 then 0 < p.places ∧ inn p.a 0 (i - 1) ∧ p.a + p.b ≤ i ∧ inn p.rate 1 64
  else if p.kind = 8 then 0 < p.places ∧ inn p.a 0 (i - 1)
  else if p.kind = 9 then 0 < p.places ∧ inn p.a 0 (i - 1) ∧ inn p.limit 1 1023
  else False
instance (p : Pt) (i : Int) : Decidable (p.fit i) := by unfold Pt.fit; infer_instance
def Pt.one (p : Pt) (i : Int) : Prop := p.fields = p ∧ p.fit i
instance (p : Pt) (i : Int) : Decidable (p.one i) := by unfold Pt.one; infer_instance
def allOne (l : List Pt) : Prop := ∀ i (h : i < l.length), l[i].one i
instance (l : List Pt) : Decidable (allOne l) := by unfold allOne; infer_instance
/-- 0, or the error. -/
def rightP (l : List Pt) : Int := if l.length < 1 ∨ 16 < l.length then 100 else if ¬ allOne l then 100 else if 1048576 < memP l then 101 else 0

theorem pow2_pos (n : Int) : 1 ≤ pow2 n := by
  unfold pow2
  have := Nat.one_le_two_pow (n := n.toNat)
  exact_mod_cast this
theorem pow2_le (n : Int) (k : Nat) (h : n ≤ k) : pow2 n ≤ 2 ^ k := by
  unfold pow2
  have : 2 ^ n.toNat ≤ 2 ^ k := Nat.pow_le_pow_right (by decide) (by omega)
  exact_mod_cast this
theorem mostP_le (k : Nat) : mostP k ≤ 16 := by
  unfold mostP
  split
  · decide
  · split
    · decide
    · split <;> decide
theorem places_range (p : Pt) : 0 ≤ p.places ∧ p.places ≤ 131072 := by
  have h0 := pow2_pos p.size
  unfold Pt.places
  split
  next h =>
    have hm := mostP_le p.kind
    have h1 : pow2 p.size ≤ 65536 := pow2_le p.size 16 (by omega)
    split
    · omega
    · split
      · omega
      · split
        next h7 =>
          split
          next hb =>
            have h2 : pow2 p.size ≤ 4096 := pow2_le p.size 12 (by rw [h7] at h; have := h.2; simp [mostP] at this; omega)
            constructor
            · exact Int.mul_nonneg (by omega) (by omega)
            · have : p.b * pow2 p.size ≤ 8 * 4096 := Int.mul_le_mul hb.2 h2 (by omega) (by omega)
              omega
          · omega
        · split
          · omega
          · split
            next h9 =>
              have h2 : pow2 p.size ≤ 1024 := pow2_le p.size 10 (by rw [h9] at h; have := h.2; simp [mostP] at this; omega)
              omega
            · omega
  · omega
theorem memP_cons (p : Pt) (l : List Pt) : memP (p :: l) = p.places + memP l := by simp [memP]
theorem memP_app (l r : List Pt) : memP (l ++ r) = memP l + memP r := by simp [memP]
theorem memP_range (l : List Pt) : 0 ≤ memP l ∧ memP l ≤ 131072 * l.length := by
  induction l with
  | nil => simp [memP]
  | cons p l ih =>
    have := places_range p
    rw [memP_cons, List.length_cons]
    omega
theorem memP_take (l : List Pt) (k : Nat) : memP (l.take k) ≤ memP l := by
  conv => rhs; rw [← List.take_append_drop k l, memP_app]
  have := memP_range (l.drop k)
  omega
theorem memP_succ (l : List Pt) (i : Nat) (h : i < l.length) : memP (l.take (i + 1)) = memP (l.take i) + l[i].places := by
  rw [← List.take_append_getElem h, memP_app]
  simp [memP]
theorem rightP_ok (l : List Pt) : rightP l = 0 ↔ (1 ≤ l.length ∧ l.length ≤ 16) ∧ allOne l ∧ memP l ≤ 1048576 := by
  unfold rightP
  split
  next h => constructor
            · intro e; exact absurd e (by decide)
            · intro e; omega
  next h =>
    split
    next h2 => constructor
               · intro e; exact absurd e (by decide)
               · intro e; exact absurd e.2.1 h2
    next h2 =>
      split
      next h3 => constructor
                 · intro e; exact absurd e (by decide)
                 · intro e; omega
      next h3 => exact ⟨fun _ => ⟨by omega, Classical.not_not.1 h2, by omega⟩, fun _ => rfl⟩
/-- A beginning of a right list, but none, is right. -/
theorem rightP_take (l : List Pt) (h : rightP l = 0) (k : Nat) (h1 : 1 ≤ k) : rightP (l.take k) = 0 := by
  rw [rightP_ok] at h ⊢
  obtain ⟨hn, ha, hm⟩ := h
  refine ⟨by rw [List.length_take]; omega, ?_, Int.le_trans (memP_take l k) hm⟩
  intro i hi
  rw [List.length_take] at hi
  rw [List.getElem_take]
  exact ha i (by omega)
/-- What a right part leans on. -/
theorem one_leans (p : Pt) (i : Int) (h : p.one i) : (p.kind = 1 ∨ p.kind = 2 ∨ p.kind = 3 ∨ p.kind = 4) ∨ (p.kind = 7 ∧ 0 ≤ p.a ∧ 1 ≤ p.b ∧ p.a + p.b ≤ i) ∨ ((p.kind = 5 ∨ p.kind = 6 ∨ p.kind = 8 ∨ p.kind = 9) ∧ 0 ≤ p.a ∧ p.a < i ∧ 0 ≤ p.b ∧ p.b < i) := by
  obtain ⟨hf, h⟩ := h
  unfold Pt.fit inn at h
  by_cases e : p.kind = 1 ∨ p.kind = 2 ∨ p.kind = 3 ∨ p.kind = 4
  · exact .inl e
  · right
    rw [if_neg (by omega), if_neg (by omega), if_neg (by omega)] at h
    split at h
    · right; omega
    · split at h
      · right; omega
      · split at h
        next h7 =>
          left
          refine ⟨h7, h.2.1.1, ?_, h.2.2.1⟩
          have hp := h.1
          unfold Pt.places at hp
          rw [h7] at hp
          simp only [show (7 : Nat) ≠ 3 from by decide, show (7 : Nat) ≠ 4 from by decide, if_false, if_true] at hp
          split at hp
          · split at hp
            · omega
            · omega
          · omega
        · split at h
          next h8 =>
            right
            have hb : p.b = 0 := by rw [← hf]; unfold Pt.fields; simp [h8]
            omega
          · split at h
            next h9 =>
              right
              have hb : p.b = 0 := by rw [← hf]; unfold Pt.fields; simp [h9]
              omega
            · exact h.elim
theorem one_kind (p : Pt) (i : Int) (h : p.one i) : 1 ≤ p.kind ∧ p.kind ≤ 9 := by
  rcases one_leans p i h with h | ⟨h, _⟩ | ⟨h, _⟩ <;> omega
/-- Of a right part that has a table: its size. -/
theorem places_size (p : Pt) (h : 0 < p.places) : 0 ≤ p.size ∧ p.size ≤ 16 := by
  unfold Pt.places at h
  split at h
  next e =>
    have := mostP_le p.kind
    have : 0 ≤ leastP p.kind := by unfold leastP; split <;> decide
    omega
  · omega
/-- The first one stands by itself. -/
theorem one_first (p : Pt) (h : p.one 0) : p.kind = 1 ∨ p.kind = 2 ∨ p.kind = 3 ∨ p.kind = 4 := by
  rcases one_leans p 0 h with h | ⟨_, h⟩ | ⟨_, h⟩
  · exact h
  · omega
  · omega
end Go.Proofs.Ytnanmdfbgoahjaa
