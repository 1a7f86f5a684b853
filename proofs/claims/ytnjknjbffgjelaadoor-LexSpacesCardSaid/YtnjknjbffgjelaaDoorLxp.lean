/-
  What stands at a place, and how far it goes; the tokens as they are told.
-/
import Derived.Test.YtnjknjbffgjelaaDoorFst
set_option linter.unusedVariables false
set_option linter.unusedSimpArgs false
namespace Go.Proofs.YtnjknjbffgjelaaDoor
open Go.RowKit

def comb (acc : List (Tk × Nat)) : Except Nat (List (Tk × Nat) × Nat) → Except Nat (List (Tk × Nat) × Nat)
  | .error e => .error e
  | .ok (l, e) => .ok (acc ++ l, e)
theorem comb_bad {c : UInt8} {r : List UInt8} {line : Nat} (acc : List (Tk × Nat)) (h : nx c r = .bad) : comb acc (lexL line (c :: r)) = .error line := by
  rw [lexL_cons, h]; rfl
theorem comb_skip {c : UInt8} {r : List UInt8} {line k nl : Nat} (acc : List (Tk × Nat)) (h : nx c r = .skip k nl) : comb acc (lexL line (c :: r)) = comb acc (lexL (line + nl) (r.drop k)) := by
  rw [lexL_cons, h]
theorem comb_tok {c : UInt8} {r : List UInt8} {line k : Nat} {t : Tk} (acc : List (Tk × Nat)) (h : nx c r = .tok t k) : comb acc (lexL line (c :: r)) = comb (acc ++ [(t, line)]) (lexL line (r.drop k)) := by
  rw [lexL_cons, h]
  dsimp only
  cases lexL line (r.drop k) with
  | error e => rfl
  | ok q =>
    obtain ⟨l, e⟩ := q
    show Except.ok (acc ++ (t, line) :: l, e) = Except.ok (acc ++ [(t, line)] ++ l, e)
    rw [List.append_assoc]; rfl
theorem tw_at {p : UInt8 → Bool} : ∀ (l : List UInt8) (j : Nat) (h : j < l.length), j < (l.takeWhile p).length → p l[j] = true
  | [], j, h, _ => absurd h (by simp)
  | c :: l, j, h, h2 => by
    by_cases hc : p c = true
    · rw [List.takeWhile_cons_of_pos hc] at h2
      cases j with
      | zero => exact hc
      | succ j => exact tw_at l j (by simpa using h) (by simpa using h2)
    · rw [List.takeWhile_cons_of_neg hc] at h2
      exact absurd h2 (by simp)
theorem tw_end {p : UInt8 → Bool} : ∀ (l : List UInt8), (l.takeWhile p).length = l.length ∨ ∃ h : (l.takeWhile p).length < l.length, p l[(l.takeWhile p).length] = false
  | [] => .inl rfl
  | c :: l => by
    by_cases hc : p c = true
    · rw [List.takeWhile_cons_of_pos hc]
      rcases tw_end (p := p) l with h | ⟨h, e⟩
      · exact .inl (by rw [List.length_cons, List.length_cons, h])
      · exact .inr ⟨by rw [List.length_cons, List.length_cons]; omega, by simpa using e⟩
    · rw [List.takeWhile_cons_of_neg hc]
      exact .inr ⟨by simp, by simpa using hc⟩
theorem sg_low : (∀ s ∈ sg3, ∀ c ∈ s, c.toNat < 128) ∧ (∀ s ∈ sg2, ∀ c ∈ s, c.toNat < 128) ∧ (∀ s ∈ sg1, ∀ c ∈ s, c.toNat < 128) := by
  refine ⟨?_, ?_, ?_⟩ <;> intro s hs <;> simp only [sg3, sg2, sg1, List.mem_cons, List.not_mem_nil, or_false] at hs
  · rcases hs with e | e | e <;> subst e <;> decide
  · rcases hs with e | e | e | e | e | e | e | e | e | e | e <;> subst e <;> decide
  · rcases hs with e | e | e | e | e | e | e <;> subst e <;> decide
theorem sgLen_low (b : List UInt8) (h : sgLen b ≠ 0) : (∀ c ∈ b.take (sgLen b), c.toNat < 128) ∧ sgLen b ≤ b.length := by
  have hl := sg_in
  unfold sgLen at h ⊢
  split
  next h3 =>
    refine ⟨fun c hc => sg_low.1 _ h3 c hc, ?_⟩
    have := (hl.1 _ h3).1
    rw [List.length_take] at this
    omega
  next h3 =>
    rw [if_neg h3] at h
    split
    next h2 =>
      refine ⟨fun c hc => sg_low.2.1 _ h2 c hc, ?_⟩
      have := (hl.2.1 _ h2).1
      rw [List.length_take] at this
      omega
    next h2 =>
      rw [if_neg h2] at h
      split
      next h1 =>
        refine ⟨fun c hc => sg_low.2.2 _ h1 c hc, ?_⟩
        have := (hl.2.2 _ h1).1
        rw [List.length_take] at this
        omega
      next h1 => rw [if_neg h1] at h; exact absurd rfl h
/-- How far what stands here goes. -/
def Goes (c : UInt8) (l : List UInt8) : Nx → Prop
  | .bad => c.toNat ≠ 10
  | .skip k nl => c.toNat < 128 ∧ k ≤ l.length ∧ nl = (if c.toNat = 10 then 1 else 0) ∧ (k = 0 ∨ k = l.length ∨ ∃ h : k < l.length, l[k].toNat < 128)
  | .tok t k => c.toNat < 128 ∧ c.toNat ≠ 10 ∧ k ≤ l.length ∧ ∀ j (h : j < l.length), j < k → l[j].toNat < 128
theorem nx_goes (c : UInt8) (l : List UInt8) : Goes c l (nx c l) := by
  unfold nx
  split
  next h => exact ⟨by omega, by omega, by rw [if_pos h], .inl rfl⟩
  next h10 =>
    split
    next h =>
      refine ⟨?_, by omega, by rw [if_neg h10], .inl rfl⟩
      unfold isBlank at h
      simp at h
      omega
    next hb =>
      split
      next h =>
        refine ⟨by omega, tw_le _, by rw [if_neg h10], .inr ?_⟩
        rcases tw_end (p := fun x => x.toNat != 10) l with e | ⟨e1, e2⟩
        · exact .inl e
        · refine .inr ⟨e1, ?_⟩
          simp at e2
          omega
      next h35 =>
        split
        next h =>
          refine ⟨?_, h10, tw_le _, fun j hj hk => ?_⟩
          · unfold isLetter at h; simp at h; omega
          · have := tw_at l j hj hk
            unfold isLetter at this; simp at this; omega
        next hL =>
          split
          next h =>
            split
            next hq =>
              refine ⟨?_, h10, tw_le _, fun j hj hk => ?_⟩
              · unfold isDigit at h; simp at h; omega
              · have := tw_at l j hj hk
                unfold isDigit at this; simp at this; omega
            next => exact h10
          next hD =>
            split
            next => exact h10
            next hs =>
              obtain ⟨h1, h2⟩ := sgLen_low (c :: l) hs
              rw [List.length_cons] at h2
              refine ⟨?_, h10, by omega, fun j hj hk => ?_⟩
              · apply h1
                obtain ⟨m, e⟩ : ∃ m, sgLen (c :: l) = m + 1 := ⟨sgLen (c :: l) - 1, by omega⟩
                rw [e, List.take_succ_cons]
                exact List.mem_cons_self
              · apply h1
                obtain ⟨m, e⟩ : ∃ m, sgLen (c :: l) = m + 1 := ⟨sgLen (c :: l) - 1, by omega⟩
                rw [e, List.take_succ_cons]
                refine List.mem_cons_of_mem _ (List.mem_take_iff_getElem.2 ⟨j, by omega, rfl⟩)
/-- A token with its line. -/
def tkL (z : Tk × Nat) : TD := { tkD z.1 with line := z.2 }
/-- The answer: tokens, error, its line. -/
def lexR (l : List UInt8) : List TD × Nat × Nat :=
  if 16384 < l.length then ([], 3, 0) else
  match lexL 1 l with
  | .error e => ([], 120, e)
  | .ok (ts, e) => (ts.map tkL ++ [⟨4, [], 0, e⟩], 0, 0)
theorem lexR_err {l : List UInt8} {e : Nat} (h : ¬ 16384 < l.length) (h2 : lexL 1 l = .error e) : lexR l = ([], 120, e) := by
  unfold lexR; rw [if_neg h, h2]
theorem lexR_ok {l : List UInt8} {ts : List (Tk × Nat)} {e : Nat} (h : ¬ 16384 < l.length) (h2 : lexL 1 l = .ok (ts, e)) : lexR l = (ts.map tkL ++ [⟨4, [], 0, e⟩], 0, 0) := by
  unfold lexR; rw [if_neg h, h2]
/-- From pos on runes come to bh: they are low bytes, or bh is one, or the end. -/
def Seg (l : List UInt8) (pos bh : Nat) : Prop := (∀ j (h : j < l.length), pos ≤ j → j < bh → l[j].toNat < 128) ∨ bh = l.length ∨ ∃ h : bh < l.length, l[bh].toNat < 128
theorem seg_step {s : ByteArray} {pos bh k r : Nat} (h : pos < s.size) (hs : Seg (bl s) pos bh) (hb : pos < bh) (hle : bh ≤ s.size) (hk : pos + k ≤ s.size)
    (hd : (((bl s)[pos]'(by rw [bl_len]; exact h)).toNat < 128 ∧ r = ((bl s)[pos]'(by rw [bl_len]; exact h)).toNat ∧ k = 1) ∨
     (128 ≤ ((bl s)[pos]'(by rw [bl_len]; exact h)).toNat ∧ 128 ≤ r ∧ ∀ j (hj : pos + j < s.size), 1 ≤ j → j < k → 128 ≤ ((bl s)[pos + j]'(by rw [bl_len]; exact hj)).toNat)) : pos + k ≤ bh ∧ Seg (bl s) (pos + k) bh := by
  have hl := bl_len s
  have key : pos + k ≤ bh := by
    rcases hd with ⟨_, _, rfl⟩ | ⟨a, b, c⟩
    · omega
    · rcases hs with hs | hs | ⟨hs1, hs2⟩
      · have := hs pos (by omega) (Nat.le_refl _) hb
        omega
      · omega
      · refine Nat.le_of_not_lt fun hlt => ?_
        have := c (bh - pos) (by omega) (by omega) (by omega)
        have e : pos + (bh - pos) = bh := by omega
        simp only [e] at this
        omega
  refine ⟨key, ?_⟩
  rcases hs with hs | hs
  · exact .inl fun j h a b => hs j h (by omega) b
  · exact .inr hs
theorem seg_next {l : List UInt8} {bh k : Nat} (h : bh < l.length) {x : Nx} (hx : Goes l[bh] (l.drop (bh + 1)) x) (hk : match x with | .bad => False | .skip q _ => k = q | .tok _ q => k = q) : l[bh].toNat < 128 ∧ bh + 1 + k ≤ l.length ∧ Seg l (bh + 1) (bh + 1 + k) := by
  have hd : ∀ q, q ≤ (l.drop (bh + 1)).length → bh + 1 + q ≤ l.length := fun q hq => by rw [List.length_drop] at hq; omega
  cases x with
  | bad => exact absurd hk id
  | skip q nl =>
    have hk : k = q := hk
    rw [hk]
    obtain ⟨a, b, _, d⟩ := hx
    refine ⟨a, hd _ b, ?_⟩
    rcases d with d | d | ⟨d, e⟩
    · exact .inl fun j h a b => absurd b (by omega)
    · exact .inr (.inl (by rw [List.length_drop] at d; omega))
    · rw [List.getElem_drop] at e
      exact .inr (.inr ⟨by rw [List.length_drop] at d; omega, e⟩)
  | tok t q =>
    have hk : k = q := hk
    rw [hk]
    obtain ⟨a, _, b, d⟩ := hx
    refine ⟨a, hd _ b, .inl fun j h a b => ?_⟩
    have := d (j - (bh + 1)) (by rw [List.length_drop]; omega) (by omega)
    rw [List.getElem_drop] at this
    have e : bh + 1 + (j - (bh + 1)) = j := by omega
    simp only [e] at this
    exact this
theorem fs_kind (c : UInt8) (l : List UInt8) : match nx c l with
    | .bad => fsD c l = (zT, 0)
    | .skip k _ => fsD c l = (zT, 1 + k)
    | .tok t k => fsD c l = (tkD t, 1 + k) ∧ (tkD t).k ≠ 0 ∧ (tkD t).k ≤ 3 := by
  unfold fsD
  cases nx c l with
  | bad => rfl
  | skip k _ => rfl
  | tok t k => exact ⟨rfl, by cases t <;> simp [tkD], by cases t <;> simp [tkD]⟩
end Go.Proofs.YtnjknjbffgjelaaDoor
