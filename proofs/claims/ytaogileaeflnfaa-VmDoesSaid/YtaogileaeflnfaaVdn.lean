/-
  Which code may be run (chapter 16), as plain data over Cde: the starts; what is right never leaves them.
-/
import Derived.Test.YtaogileaeflnfaaCde
namespace Go.Proofs.Ytaogileaeflnfaa

/-- The place behind the instruction that stands at k. -/
def nxt (l : List UInt8) (k : Nat) : Nat := (getR l k).e.toNat
theorem got_in {l : List UInt8} {k : Nat} (h : (getR l k).err = 0) : k < l.length ∧ k < nxt l k ∧ nxt l k ≤ l.length ∧ nxt l k ≤ k + 3 ∧ (getR l k).e = (nxt l k : Nat) := by
  obtain ⟨h1, h2, h3, m, h4, h5, h6⟩ := put_get l k h
  have h7 := put_len _ _ _ _ _ h1
  have hb := rB_in (getR l k).o (getR l k).s
  have h8 : lenI (getR l k).o (getR l k).d (getR l k).s (getR l k).n = 1 + rB (getR l k).o (getR l k).s := if_pos h2
  rw [h6, List.length_take, List.length_drop, h8] at h7
  unfold nxt
  rw [h4]
  omega
/-- The starts from k on; f: steps. -/
def startsL (l : List UInt8) : Nat → Nat → Option (List Nat)
  | 0, _ => none
  | f + 1, k => if l.length ≤ k then some [] else if (getR l k).err = 0 then (startsL l f (nxt l k)).map (k :: ·) else none
/-- One step more than there are bytes left is enough. -/
theorem starts_enough (l : List UInt8) : ∀ f1 f2 k, k ≤ l.length → l.length < f1 + k → l.length < f2 + k → startsL l f1 k = startsL l f2 k
  | 0, _, k, hk, h, _ => by omega
  | _ + 1, 0, k, hk, _, h => by omega
  | f1 + 1, f2 + 1, k, hk, h1, h2 => by
    unfold startsL
    by_cases hl : l.length ≤ k
    · rw [if_pos hl, if_pos hl]
    · rw [if_neg hl, if_neg hl]
      by_cases he : (getR l k).err = 0
      · rw [if_pos he, if_pos he]
        obtain ⟨_, q2, q3, _⟩ := got_in he
        rw [starts_enough l f1 f2 (nxt l k) q3 (by omega) (by omega)]
      · rw [if_neg he, if_neg he]
theorem starts_mem {l : List UInt8} : ∀ {f k S}, startsL l f k = some S → (k < l.length → k ∈ S) ∧ ∀ a ∈ S, k ≤ a ∧ (getR l a).err = 0 ∧ (nxt l a ∈ S ∨ nxt l a = l.length)
  | 0, k, S, h => by unfold startsL at h; cases h
  | f + 1, k, S, h => by
    unfold startsL at h
    split at h
    · injection h with h
      subst h
      exact ⟨fun hk => by omega, fun a ha => by simp at ha⟩
    · split at h
      · rename_i hl he
        obtain ⟨q1, q2, q3, _⟩ := got_in he
        cases hs : startsL l f (nxt l k) with
        | none => rw [hs] at h; cases h
        | some T =>
          rw [hs] at h
          simp at h
          subst h
          obtain ⟨i1, i2⟩ := starts_mem hs
          refine ⟨fun _ => List.mem_cons_self, fun a ha => ?_⟩
          rcases List.mem_cons.1 ha with rfl | ha
          · refine ⟨Nat.le_refl _, he, ?_⟩
            by_cases hn : nxt l a < l.length
            · exact .inl (List.mem_cons_of_mem _ (i1 hn))
            · exact .inr (by omega)
          · obtain ⟨j1, j2, j3⟩ := i2 a ha
            refine ⟨by omega, j2, ?_⟩
            rcases j3 with j | j
            · exact .inl (List.mem_cons_of_mem _ j)
            · exact .inr j
      · cases h
/-- The starts of a whole code. -/
def starts (l : List UInt8) : Option (List Nat) := startsL l (l.length + 1) 0
/-- What Starts tells: the error (3: too long; 110), the starts. -/
def stE (l : List UInt8) : Int := if 4096 < l.length then 3 else if l.length = 0 then 110 else if (starts l).isSome then 0 else 110
/-- What is asked of each start. -/
def okS (l : List UInt8) (post : Bool) (S : List Nat) (k : Nat) : Prop :=
  ((getR l k).o = 26 → post = true) ∧ (27 ≤ (getR l k).o → ∃ j ∈ S, (getR l k).n = (j : Int)) ∧ (nxt l k = l.length → (getR l k).o = 0 ∨ (getR l k).o = 29 ∨ (getR l k).o = 30)
/-- A right program. -/
def rightP (l : List UInt8) (post : Bool) : Prop := l.length ≤ 4096 ∧ 0 < l.length ∧ ∃ S, starts l = some S ∧ ∀ k ∈ S, okS l post S k
/-- It begins at a start. -/
theorem rightP.begin {l : List UInt8} {post : Bool} (h : rightP l post) : ∃ S, starts l = some S ∧ 0 ∈ S := by
  obtain ⟨_, h0, S, hS, _⟩ := h
  exact ⟨S, hS, (starts_mem hS).1 h0⟩
/-- From a start one comes to a start, whether one jumps or not. -/
theorem rightP.step {l : List UInt8} {post : Bool} (h : rightP l post) {S : List Nat} (hS : starts l = some S) {k : Nat} (hk : k ∈ S) :
    (getR l k).err = 0 ∧ ((getR l k).o = 26 → post = true) ∧ (27 ≤ (getR l k).o → ∃ j ∈ S, (getR l k).n = (j : Int)) ∧ (¬ ((getR l k).o = 0 ∨ (getR l k).o = 29 ∨ (getR l k).o = 30) → nxt l k ∈ S) := by
  obtain ⟨_, _, S', hS', ho⟩ := h
  rw [hS] at hS'
  cases hS'
  obtain ⟨o1, o2, o3⟩ := ho k hk
  obtain ⟨_, e, n⟩ := (starts_mem hS).2 k hk
  refine ⟨e, o1, o2, fun hn => ?_⟩
  rcases n with n | n
  · exact n
  · exact absurd (o3 n) hn
/-- What is right is so with post, too. -/
theorem rightP.post {l : List UInt8} {post : Bool} (h : rightP l post) : rightP l true := by
  obtain ⟨h1, h2, S, hS, ho⟩ := h
  exact ⟨h1, h2, S, hS, fun k hk => ⟨fun _ => rfl, (ho k hk).2.1, (ho k hk).2.2⟩⟩
end Go.Proofs.Ytaogileaeflnfaa
