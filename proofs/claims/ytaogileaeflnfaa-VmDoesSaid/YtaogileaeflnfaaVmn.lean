/-
  A program at work (chapter 17) as plain data.
-/
import Derived.Test.YtaogileaeflnfaaMp
set_option linter.unusedVariables false
set_option linter.unusedSimpArgs false
namespace Go.Proofs.Ytaogileaeflnfaa

/-- How a program ends: by OHalt, or by an error. -/
inductive Fin where
  | halt (x : Mn) (out : List UInt8)
  | er (e : Int)
/-- So many instructions at most. -/
def runF (l : List UInt8) (most : Int) : Nat → Nat → Mn → Int → List UInt8 → Option Fin
  | 0, _, _, _, _ => none
  | g + 1, k, x, fuel, out =>
    if (getR l k).o = 0 then some (.halt x out) else
    if (getR l k).o = 26 then (if most ≤ (out.length : Int) then some (.er 112) else runF l most g (nxt l k) x fuel (out ++ [x.a.toUInt8])) else
    if 1 ≤ (getR l k).o ∧ (getR l k).o ≤ 25 then runF l most g (nxt l k) (doM (getR l k).o (getR l k).d (getR l k).s (getR l k).n x) fuel out else
    if tkn (getR l k).o x.f = true then
      (if (getR l k).n = (k : Int) ∨ ((getR l k).n < (k : Int) ∧ fuel < 1) then some (.er 111) else runF l most g (getR l k).n.toNat x (if (getR l k).n < (k : Int) then fuel - 1 else fuel) out)
    else runF l most g (nxt l k) x fuel out
theorem runF_more {l : List UInt8} {most : Int} : ∀ (g k : Nat) (x : Mn) (fuel : Int) (out : List UInt8) (r : Fin), runF l most g k x fuel out = some r → runF l most (g + 1) k x fuel out = some r
  | 0, _, _, _, _, _, h => by cases h
  | g + 1, k, x, fuel, out, r, h => by
    unfold runF at h ⊢
    by_cases h0 : (getR l k).o = 0
    · rw [if_pos h0] at h ⊢; exact h
    rw [if_neg h0] at h ⊢
    by_cases h1 : (getR l k).o = 26
    · rw [if_pos h1] at h ⊢
      by_cases h2 : most ≤ (out.length : Int)
      · rw [if_pos h2] at h ⊢; exact h
      · rw [if_neg h2] at h ⊢; exact runF_more g _ _ _ _ r h
    rw [if_neg h1] at h ⊢
    by_cases h2 : 1 ≤ (getR l k).o ∧ (getR l k).o ≤ 25
    · rw [if_pos h2] at h ⊢; exact runF_more g _ _ _ _ r h
    rw [if_neg h2] at h ⊢
    by_cases h3 : tkn (getR l k).o x.f = true
    · rw [if_pos h3] at h ⊢
      by_cases h4 : (getR l k).n = (k : Int) ∨ ((getR l k).n < (k : Int) ∧ fuel < 1)
      · rw [if_pos h4] at h ⊢; exact h
      · rw [if_neg h4] at h ⊢; exact runF_more g _ _ _ _ r h
    · rw [if_neg h3] at h ⊢; exact runF_more g _ _ _ _ r h
theorem runF_le {l : List UInt8} {most : Int} {k : Nat} {x : Mn} {fuel : Int} {out : List UInt8} {r : Fin} {g h : Nat} (e : runF l most g k x fuel out = some r) (hl : g ≤ h) : runF l most h k x fuel out = some r := by
  induction h with
  | zero =>
    have : g = 0 := by omega
    subst this; exact e
  | succ h ih =>
    by_cases e2 : g = h + 1
    · subst e2; exact e
    · exact runF_more h k x fuel out r (ih (by omega))
theorem runF_same {l : List UInt8} {most : Int} {k : Nat} {x : Mn} {fuel : Int} {out : List UInt8} {r r2 : Fin} {g h : Nat} (e1 : runF l most g k x fuel out = some r) (e2 : runF l most h k x fuel out = some r2) : r = r2 := by
  have a1 := runF_le e1 (Nat.le_max_left g h)
  have a2 := runF_le e2 (Nat.le_max_right g h)
  rw [a1] at a2
  exact Option.some.inj a2
/-- With more rounds and more room what has ended ends in the same way. -/
theorem runF_plus {l : List UInt8} {most most2 : Int} (hm : most ≤ most2) : ∀ (g k : Nat) (x : Mn) (fuel fuel2 : Int) (out : List UInt8) (y : Mn) (o : List UInt8), fuel ≤ fuel2 → runF l most g k x fuel out = some (.halt y o) → runF l most2 g k x fuel2 out = some (.halt y o)
  | 0, _, _, _, _, _, _, _, _, h => by cases h
  | g + 1, k, x, fuel, fuel2, out, y, o, hf, h => by
    unfold runF at h ⊢
    by_cases h0 : (getR l k).o = 0
    · rw [if_pos h0] at h ⊢; exact h
    rw [if_neg h0] at h ⊢
    by_cases h1 : (getR l k).o = 26
    · rw [if_pos h1] at h ⊢
      by_cases h2 : most ≤ (out.length : Int)
      · rw [if_pos h2] at h; cases h
      · rw [if_neg h2] at h
        by_cases h3 : most2 ≤ (out.length : Int)
        · exact absurd (Int.le_trans hm h3) h2
        · rw [if_neg h3]; exact runF_plus hm g _ _ _ _ _ _ _ hf h
    rw [if_neg h1] at h ⊢
    by_cases h2 : 1 ≤ (getR l k).o ∧ (getR l k).o ≤ 25
    · rw [if_pos h2] at h ⊢; exact runF_plus hm g _ _ _ _ _ _ _ hf h
    rw [if_neg h2] at h ⊢
    by_cases h3 : tkn (getR l k).o x.f = true
    · rw [if_pos h3] at h ⊢
      by_cases h4 : (getR l k).n = (k : Int) ∨ ((getR l k).n < (k : Int) ∧ fuel < 1)
      · rw [if_pos h4] at h; cases h
      · rw [if_neg h4] at h
        have h5 : ¬ ((getR l k).n = (k : Int) ∨ ((getR l k).n < (k : Int) ∧ fuel2 < 1)) := by
          rintro (e | ⟨e1, e2⟩)
          · exact h4 (.inl e)
          · exact h4 (.inr ⟨e1, by omega⟩)
        rw [if_neg h5]
        refine runF_plus hm g _ _ _ _ _ _ _ ?_ h
        split <;> omega
    · rw [if_neg h3] at h ⊢; exact runF_plus hm g _ _ _ _ _ _ _ hf h
/-- No more is put out than there is room for. -/
theorem runF_len {l : List UInt8} {most : Int} (M : Int) (hM : most ≤ M) : ∀ (g k : Nat) (x : Mn) (fuel : Int) (out : List UInt8) (y : Mn) (o : List UInt8), (out.length : Int) ≤ M → runF l most g k x fuel out = some (.halt y o) → (o.length : Int) ≤ M
  | 0, _, _, _, _, _, _, _, h => by cases h
  | g + 1, k, x, fuel, out, y, o, hf, h => by
    unfold runF at h
    by_cases h0 : (getR l k).o = 0
    · rw [if_pos h0] at h
      injection h with h
      injection h with h1 h2
      rw [← h2]; exact hf
    rw [if_neg h0] at h
    by_cases h1 : (getR l k).o = 26
    · rw [if_pos h1] at h
      by_cases h2 : most ≤ (out.length : Int)
      · rw [if_pos h2] at h; cases h
      · rw [if_neg h2] at h
        refine runF_len M hM g _ _ _ _ _ _ ?_ h
        rw [List.length_append]
        simp only [List.length_cons, List.length_nil]
        omega
    rw [if_neg h1] at h
    by_cases h2 : 1 ≤ (getR l k).o ∧ (getR l k).o ≤ 25
    · rw [if_pos h2] at h; exact runF_len M hM g _ _ _ _ _ _ hf h
    rw [if_neg h2] at h
    by_cases h3 : tkn (getR l k).o x.f = true
    · rw [if_pos h3] at h
      by_cases h4 : (getR l k).n = (k : Int) ∨ ((getR l k).n < (k : Int) ∧ fuel < 1)
      · rw [if_pos h4] at h; cases h
      · rw [if_neg h4] at h
        exact runF_len M hM g _ _ _ _ _ _ hf h
    · rw [if_neg h3] at h; exact runF_len M hM g _ _ _ _ _ _ hf h
/-- The errors of a program at work. -/
theorem runF_er {l : List UInt8} {most : Int} : ∀ (g k : Nat) (x : Mn) (fuel : Int) (out : List UInt8) (e : Int), runF l most g k x fuel out = some (.er e) → e = 111 ∨ e = 112
  | 0, _, _, _, _, _, h => by cases h
  | g + 1, k, x, fuel, out, e, h => by
    unfold runF at h
    by_cases h0 : (getR l k).o = 0
    · rw [if_pos h0] at h; cases h
    rw [if_neg h0] at h
    by_cases h1 : (getR l k).o = 26
    · rw [if_pos h1] at h
      by_cases h2 : most ≤ (out.length : Int)
      · rw [if_pos h2] at h; cases h; exact .inr rfl
      · rw [if_neg h2] at h; exact runF_er g _ _ _ _ _ h
    rw [if_neg h1] at h
    by_cases h2 : 1 ≤ (getR l k).o ∧ (getR l k).o ≤ 25
    · rw [if_pos h2] at h; exact runF_er g _ _ _ _ _ h
    rw [if_neg h2] at h
    by_cases h3 : tkn (getR l k).o x.f = true
    · rw [if_pos h3] at h
      by_cases h4 : (getR l k).n = (k : Int) ∨ ((getR l k).n < (k : Int) ∧ fuel < 1)
      · rw [if_pos h4] at h; cases h; exact .inl rfl
      · rw [if_neg h4] at h
        exact runF_er g _ _ _ _ _ h
    · rw [if_neg h3] at h; exact runF_er g _ _ _ _ _ h
/-- The machine at the end has as many numbers and bytes. -/
theorem runF_sz {l : List UInt8} {most : Int} : ∀ (g k : Nat) (x : Mn) (fuel : Int) (out : List UInt8) (y : Mn) (o : List UInt8), runF l most g k x fuel out = some (.halt y o) → SzEq y x
  | 0, _, _, _, _, _, _, h => by cases h
  | g + 1, k, x, fuel, out, y, o, h => by
    unfold runF at h
    by_cases h0 : (getR l k).o = 0
    · rw [if_pos h0] at h
      injection h with h
      injection h with h1 h2
      rw [← h1]; exact ⟨rfl, rfl⟩
    rw [if_neg h0] at h
    by_cases h1 : (getR l k).o = 26
    · rw [if_pos h1] at h
      by_cases h2 : most ≤ (out.length : Int)
      · rw [if_pos h2] at h; cases h
      · rw [if_neg h2] at h; exact runF_sz g _ _ _ _ _ _ h
    rw [if_neg h1] at h
    by_cases h2 : 1 ≤ (getR l k).o ∧ (getR l k).o ≤ 25
    · rw [if_pos h2] at h
      have a := runF_sz g _ _ _ _ _ _ h
      have b := doM_h (getR l k).o (getR l k).d (getR l k).s (getR l k).n x
      exact ⟨a.1.trans b.1, a.2.trans b.2⟩
    rw [if_neg h2] at h
    by_cases h3 : tkn (getR l k).o x.f = true
    · rw [if_pos h3] at h
      by_cases h4 : (getR l k).n = (k : Int) ∨ ((getR l k).n < (k : Int) ∧ fuel < 1)
      · rw [if_pos h4] at h; cases h
      · rw [if_neg h4] at h; exact runF_sz g _ _ _ _ _ _ h
    · rw [if_neg h3] at h; exact runF_sz g _ _ _ _ _ _ h
end Go.Proofs.Ytaogileaeflnfaa
