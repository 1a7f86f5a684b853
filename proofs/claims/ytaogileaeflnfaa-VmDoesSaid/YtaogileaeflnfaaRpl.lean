/-
  What Check tells is 'a right program', as plain data; the map of the starts.
-/
import Derived.Test.YtaogileaeflnfaaMt
namespace Go.Proofs.Ytaogileaeflnfaa
open Go.RowKit Go.Maps
set_option linter.unusedVariables false
set_option linter.unusedSimpArgs false

theorem starts_cons {l : List UInt8} {f k : Nat} {S : List Nat} (h : startsL l f k = some S) (hk : k < l.length) : ∃ f2 T, S = k :: T ∧ startsL l f2 (nxt l k) = some T ∧ (getR l k).err = 0 := by
  cases f with
  | zero => unfold startsL at h; cases h
  | succ f =>
    unfold startsL at h
    rw [if_neg (by omega)] at h
    split at h
    · rename_i he
      cases hs : startsL l f (nxt l k) with
      | none => rw [hs] at h; cases h
      | some T =>
        rw [hs] at h
        simp at h
        exact ⟨f, T, h.symm, hs, he⟩
    · cases h
theorem starts_nil {l : List UInt8} {f k : Nat} {S : List Nat} (h : startsL l f k = some S) (hk : l.length ≤ k) : S = [] := by
  cases f with
  | zero => unfold startsL at h; cases h
  | succ f =>
    unfold startsL at h
    rw [if_pos hk] at h
    injection h with h
    exact h.symm
/-- The last start is the one behind which the code ends. -/
theorem starts_last {l : List UInt8} : ∀ {S : List Nat} {f k}, startsL l f k = some S → ∀ a ∈ S, (nxt l a = l.length ↔ S.getLast? = some a)
  | [], _, _, _, a, ha => by cases ha
  | b :: T, f, k, h, a, ha => by
    have hk : k < l.length := by
      rcases Nat.lt_or_ge k l.length with h1 | h1
      · exact h1
      · have := starts_nil h h1
        cases this
    obtain ⟨f2, T2, e, hT, he⟩ := starts_cons h hk
    injection e with e1 e2
    subst e1 e2
    obtain ⟨_, q2, q3, _⟩ := got_in he
    rcases Nat.lt_or_ge (nxt l b) l.length with hn | hn
    · obtain ⟨f3, T3, e3, _, _⟩ := starts_cons hT hn
      have hl : (b :: T).getLast? = T.getLast? := by rw [e3]; rfl
      rw [hl]
      rcases List.mem_cons.1 ha with rfl | ha
      · constructor
        · intro h1
          omega
        · intro h1
          have hm := List.mem_of_getLast? h1
          have := ((starts_mem hT).2 _ hm).1
          omega
      · exact starts_last hT a ha
    · have := starts_nil hT hn
      subst this
      obtain rfl : a = b := by simpa using ha
      exact ⟨fun _ => rfl, fun _ => by omega⟩
theorem starts_some {l : List UInt8} {S : List Nat} (h : starts l = some S) (h0 : 0 < l.length) : ∃ k, S.getLast? = some k ∧ k ∈ S := by
  obtain ⟨f2, T, e, _, _⟩ := starts_cons h h0
  subst e
  have : ((0 :: T).getLast?) = some ((0 :: T).getLast (by simp)) := List.getLast?_eq_some_getLast (by simp)
  exact ⟨_, this, List.mem_of_getLast? this⟩
theorem stE_pos {l : List UInt8} (h : stE l = 0) : 0 < l.length := by
  unfold stE at h
  by_cases h1 : 4096 < l.length
  · rw [if_pos h1] at h
    exact absurd h (by decide)
  · rw [if_neg h1] at h
    by_cases h2 : l.length = 0
    · rw [if_pos h2] at h
      exact absurd h (by decide)
    · omega
theorem op_le {l : List UInt8} {S : List Nat} (hS : starts l = some S) {k : Nat} (hk : k ∈ S) : 0 ≤ (getR l k).o ∧ (getR l k).o ≤ 30 := by
  obtain ⟨_, he, _⟩ := (starts_mem hS).2 k hk
  obtain ⟨h1, h2, _⟩ := put_get l k he
  have h3 := h2.1
  rcases row_cases (getR l k).o (getR l k).s with ⟨r0, r1, r2, r3, r4, hc⟩ | ⟨r0, r1, r2, r3, r4, hc⟩ | ⟨r0, r1, r2, r3, r4, hc⟩ | ⟨r0, r1, r2, r3, r4, hc⟩ | ⟨r0, r1, r2, r3, r4, hc⟩ | ⟨r0, r1, r2, r3, r4, hc⟩ | ⟨r0, r1, r2, r3, r4, hc⟩ | ⟨r0, r1, r2, r3, r4, hc⟩ | ⟨r0, r1, r2, r3, r4, hc⟩ | ⟨r0, r1, r2, r3, r4, hc⟩ | ⟨r0, r1, r2, r3, r4, hc⟩
  case inr.inr.inr.inr.inr.inr.inr.inr.inr.inr => rw [h3] at r0; cases r0
  all_goals omega
theorem mem_nats {S : List Nat} {t : Int} : (nats S).contains t = true ↔ ∃ j ∈ S, t = (j : Int) := by
  unfold nats
  rw [List.contains_iff_mem, List.mem_map]
  exact ⟨fun ⟨j, h1, h2⟩ => ⟨j, h1, h2.symm⟩, fun ⟨j, h1, h2⟩ => ⟨j, h1, h2.symm⟩⟩
theorem chk_iff {l : List UInt8} {post : Bool} {S : List Nat} (h0 : stE l = 0) (hS : starts l = some S) : chkE l post S = 0 ↔ ∀ k ∈ S, okS l post S k := by
  obtain ⟨z, hz, hzS⟩ := starts_some hS (stE_pos h0)
  have hlast : lastO l S = (getR l (z : Nat)).o := by unfold lastO; rw [hz]
  unfold chkE
  rw [if_pos h0, hlast]
  constructor
  · intro h k hk
    by_cases h1 : (outs l S = true ∧ post = false) ∨ ¬ ed (getR l (z : Nat)).o
    · rw [if_pos h1] at h
      exact absurd h (by decide)
    rw [if_neg h1] at h
    have h1a : ¬ (outs l S = true ∧ post = false) := fun hh => h1 (.inl hh)
    have h1b : ed (getR l (z : Nat)).o := Decidable.of_not_not fun hh => h1 (.inr hh)
    by_cases h2 : (tgts l S).all (fun t => (nats S).contains t) = true
    · rw [List.all_eq_true] at h2
      refine ⟨fun ho => ?_, fun ho => ?_, fun hn => ?_⟩
      · cases post with
        | true => rfl
        | false => exact absurd ⟨List.any_eq_true.2 ⟨k, hk, decide_eq_true ho⟩, rfl⟩ h1a
      · have := (op_le hS hk).2
        have hj : jm (getR l k).o := by unfold jm; omega
        exact mem_nats.1 (h2 _ (List.mem_flatMap.2 ⟨k, hk, by unfold tgt; rw [if_pos hj]; simp⟩))
      · have := (starts_last hS k hk).1 hn
        rw [hz] at this
        injection this with this
        rw [← this]
        exact h1b
    · rw [if_neg h2] at h
      exact absurd h (by decide)
  · intro h
    rw [if_neg, if_pos]
    · rw [List.all_eq_true]
      intro t ht
      obtain ⟨k, hk, ht⟩ := List.mem_flatMap.1 ht
      unfold tgt at ht
      by_cases hj : jm (getR l k).o
      · rw [if_pos hj] at ht
        obtain rfl : t = (getR l k).n := by simpa using ht
        exact mem_nats.2 ((h k hk).2.1 (by unfold jm at hj; omega))
      · rw [if_neg hj] at ht
        cases ht
    · rintro (⟨h1, h2⟩ | h1)
      · obtain ⟨k, hk, ho⟩ := List.any_eq_true.1 h1
        have := (h k hk).1 (of_decide_eq_true ho)
        rw [h2] at this
        cases this
      · exact h1 ((h z hzS).2.2 ((starts_last hS z hzS).2 hz))
theorem chk_right {l : List UInt8} {post : Bool} {S : List Nat} (hS : stE l = 0 → starts l = some S) : chkE l post S = 0 → rightP l post ∧ stE l = 0 := by
  intro h
  have h0 : stE l = 0 := by
    by_cases h0 : stE l = 0
    · exact h0
    · unfold chkE at h
      rw [if_neg h0] at h
      exact h
  exact ⟨⟨stE_le h0, stE_pos h0, S, hS h0, (chk_iff h0 (hS h0)).1 h⟩, h0⟩
theorem right_chk {l : List UInt8} {post : Bool} {S : List Nat} (h : rightP l post) (h0 : stE l = 0) (hS : stE l = 0 → starts l = some S) : chkE l post S = 0 := by
  obtain ⟨_, _, S', hS', ho⟩ := h
  have e := hS h0
  rw [hS'] at e
  injection e with e
  subst e
  exact (chk_iff h0 hS').2 ho
/-- The map of the law: 1 at each start. -/
def ones (S : List Nat) : DataW Unit := setOf (.lit (.int .i64 1)) (S.map fun k : Nat => Lit.int .i64 (k : Int))
theorem ones_snoc (S : List Nat) (k : Nat) : ones (S ++ [k]) = (ones S).put (Lit.int .i64 (k : Int)) (.lit (.int .i64 1)) := by
  unfold ones
  rw [List.map_append]
  exact setOf_snoc _ _ _
theorem ones_isMap (S : List Nat) : IsMap (ones S) := (tidy_setOf _ _ (by intro x hx; obtain ⟨k, _, rfl⟩ := List.mem_map.1 hx; exact True.intro)).isMap
theorem ones_at (S : List Nat) : ∀ {R : List Nat}, R.reverse = S → ∀ k ∈ S, ∀ z, (ones S).atKey (Lit.int .i64 (k : Int)) z = .lit (.int .i64 1)
  | [], h, k, hk, z => by subst h; cases hk
  | a :: R, h, k, hk, z => by
    have e : S = R.reverse ++ [a] := by rw [← h, List.reverse_cons]
    subst e
    rw [ones_snoc]
    by_cases hka : k = a
    · subst hka
      exact atKey_put_same (k := Lit.int .i64 (k : Int)) (ones_isMap _) True.intro _ _
    · rw [atKey_put_other (fun h => hka (by injection h with _ h; omega))]
      exact ones_at _ rfl k (by rcases List.mem_append.1 hk with h | h; exact h; exact absurd (by simpa using h) hka) z
end Go.Proofs.Ytaogileaeflnfaa
