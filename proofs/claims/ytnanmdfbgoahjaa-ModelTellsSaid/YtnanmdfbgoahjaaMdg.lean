/-
  Get as the program does it: a place and the first error, from number to number; the same as reading from the front.
-/
import Derived.Test.YtnanmdfbgoahjaaMdn
namespace Go.Proofs.Ytnanmdfbgoahjaa

/-- A place, and the first error (0: none). -/
structure St where
  at_ : Nat
  e : Int
def failS (s : St) (a : Int) : St := if s.e = 0 then ⟨s.at_, a⟩ else s
def short (l : List UInt8) (k : Nat) (s : St) : Prop := l.length < s.at_ + k
instance (l : List UInt8) (k : Nat) (s : St) : Decidable (short l k s) := by unfold short; exact inferInstance
def takeS (l : List UInt8) (k : Nat) (s : St) : St :=
  if s.e ≠ 0 then s else if short l k s then ⟨s.at_, 12⟩ else ⟨s.at_ + k, 0⟩
def takeL (l : List UInt8) (k : Nat) (s : St) : List UInt8 :=
  if s.e ≠ 0 then [] else if short l k s then [] else (l.drop s.at_).take k
def numL : Nat → List UInt8 → Nat
  | n, [] => n
  | n, x :: r => numL (n * 256 + x.toNat) r
def numV (l : List UInt8) (k : Nat) (s : St) : Nat := numL 0 (takeL l k s)
/-- Which cells of a part a kind has: the cell, how many bytes, how much more. -/
def fldL (k : Nat) : List (Nat × Nat × Nat) :=
  if k = 1 then [(4, 2, 2048)] else if k = 2 then [(1, 1, 0), (6, 2, 0)] else if k = 3 ∨ k = 4 then [(1, 1, 0)]
  else if k = 5 then [(2, 1, 0), (3, 1, 0), (4, 2, 2048)] else if k = 6 ∨ k = 7 then [(1, 1, 0), (2, 1, 0), (3, 1, 0), (5, 1, 0)]
  else if k = 8 then [(1, 1, 0), (2, 1, 0)] else if k = 9 then [(1, 1, 0), (2, 1, 0), (6, 2, 0)] else []
def Pt.put1 (p : Pt) (i : Nat) (v : Int) : Pt :=
  if i = 1 then { p with size := v } else if i = 2 then { p with a := v } else if i = 3 then { p with b := v }
  else if i = 4 then { p with c := v } else if i = 5 then { p with rate := v } else if i = 6 then { p with limit := v } else p
def Pt.get1 (p : Pt) (i : Nat) : Int :=
  if i = 1 then p.size else if i = 2 then p.a else if i = 3 then p.b else if i = 4 then p.c else if i = 5 then p.rate else p.limit
def fldS (l : List UInt8) : List (Nat × Nat × Nat) → St → Pt → St × Pt
  | [], s, p => (s, p)
  | (i, b, m) :: r, s, p => fldS l r (takeS l b s) (p.put1 i ((numV l b s : Nat) - (m : Int)))
def part0 (k : Nat) : Pt := ⟨k, 0, 0, 0, 0, 0, 0⟩
/-- A part is got. -/
def prtS (l : List UInt8) (s : St) : St × Pt :=
  fldS l (fldL (numV l 1 s)) (takeS l 1 s) (part0 (numV l 1 s))
def prtOk (l : List UInt8) (s : St) : Bool := 1 ≤ numV l 1 s ∧ numV l 1 s ≤ 9
/-- And asked. -/
def prtF (l : List UInt8) (s : St) : St := if prtOk l s then (prtS l s).1 else failS (prtS l s).1 131
/-- n parts, as long as there is no error; the parts that are left are noughts. -/
def prtsS (l : List UInt8) : Nat → St → St × List Pt
  | 0, s => (s, [])
  | n + 1, s => if s.e ≠ 0 then (s, List.replicate (n + 1) (part0 0)) else
    let r := prtsS l n (prtF l s); (r.1, (prtS l s).2 :: r.2)
theorem takeS_no {l : List UInt8} {k : Nat} {s : St} (h : s.e = 0) (hs : short l k s) : takeS l k s = ⟨s.at_, 12⟩ := by
  unfold takeS; rw [if_neg (not_not_intro h), if_pos hs]
theorem takeS_yes {l : List UInt8} {k : Nat} {s : St} (h : s.e = 0) (hs : ¬ short l k s) : takeS l k s = ⟨s.at_ + k, 0⟩ := by
  unfold takeS; rw [if_neg (not_not_intro h), if_neg hs]
theorem takeL_no {l : List UInt8} {k : Nat} {s : St} (h : s.e = 0) (hs : short l k s) : takeL l k s = [] := by
  unfold takeL; rw [if_neg (not_not_intro h), if_pos hs]
theorem takeL_yes {l : List UInt8} {k : Nat} {s : St} (h : s.e = 0) (hs : ¬ short l k s) : takeL l k s = (l.drop s.at_).take k := by
  unfold takeL; rw [if_neg (not_not_intro h), if_neg hs]
theorem take_len {l : List UInt8} {k : Nat} {s : St} (h : (takeS l k s).e = 0) : (takeL l k s).length = k ∧ s.e = 0 ∧ ¬ short l k s := by
  by_cases h1 : s.e = 0
  · by_cases h2 : short l k s
    · rw [takeS_no h1 h2] at h; exact absurd (show (12 : Int) = 0 from h) (by decide)
    · rw [takeL_yes h1 h2]
      refine ⟨?_, h1, h2⟩
      unfold short at h2
      rw [List.length_take, List.length_drop]; omega
  · exact absurd ((show takeS l k s = s from if_pos h1) ▸ h) h1
theorem takeS_stay {l : List UInt8} {k : Nat} {s : St} (h : s.e ≠ 0) : takeS l k s = s := if_pos h
theorem takeL_stay {l : List UInt8} {k : Nat} {s : St} (h : s.e ≠ 0) : takeL l k s = [] := if_pos h
theorem numV_stay {l : List UInt8} {k : Nat} {s : St} (h : s.e ≠ 0) : numV l k s = 0 := by unfold numV; rw [takeL_stay h]; rfl
theorem takeS_range {l : List UInt8} {k : Nat} {s : St} (h : s.at_ ≤ l.length) : (takeS l k s).at_ ≤ l.length := by
  by_cases h1 : s.e = 0
  · by_cases h2 : short l k s
    · rw [takeS_no h1 h2]; exact h
    · rw [takeS_yes h1 h2]
      unfold short at h2
      show s.at_ + k ≤ _; omega
  · rw [takeS_stay h1]; exact h
theorem fldS_stay (l : List UInt8) : ∀ (L : List (Nat × Nat × Nat)) (s : St) (p : Pt), s.e ≠ 0 → (fldS l L s p).1 = s
  | [], _, _, _ => rfl
  | (i, b, m) :: r, s, p, h => by
    unfold fldS
    rw [takeS_stay h]
    exact fldS_stay l r s _ h
theorem fldS_range (l : List UInt8) : ∀ (L : List (Nat × Nat × Nat)) (s : St) (p : Pt), s.at_ ≤ l.length → (fldS l L s p).1.at_ ≤ l.length
  | [], _, _, h => h
  | (_i, _b, _m) :: r, _s, _p, h => fldS_range l r _ _ (takeS_range h)
/-- One byte, two. -/
theorem one_is {l : List UInt8} {s : St} (h : s.e = 0) (hs : s.at_ ≤ l.length) :
    (rOne (l.drop s.at_) = .error 12 ∧ takeS l 1 s = ⟨s.at_, 12⟩ ∧ numV l 1 s = 0) ∨
    (s.at_ + 1 ≤ l.length ∧ rOne (l.drop s.at_) = .ok ((numV l 1 s : Nat), l.drop (s.at_ + 1)) ∧ takeS l 1 s = ⟨s.at_ + 1, 0⟩) := by
  by_cases hl : s.at_ < l.length
  · have hn : ¬ short l 1 s := by unfold short; omega
    refine .inr ⟨hl, ?_, takeS_yes h hn⟩
    have e : l.drop s.at_ = l[s.at_] :: l.drop (s.at_ + 1) := List.drop_eq_getElem_cons hl
    have e2 : numV l 1 s = l[s.at_].toNat := by
      unfold numV
      rw [takeL_yes h hn, e, List.take_succ_cons, List.take_zero]
      show 0 * 256 + l[s.at_].toNat = _
      omega
    rw [e2, e]
    rfl
  · have hn : short l 1 s := by unfold short; omega
    refine .inl ⟨by rw [List.drop_of_length_le (by omega)]; rfl, takeS_no h hn, by unfold numV; rw [takeL_no h hn]; rfl⟩
theorem two_is {l : List UInt8} {s : St} (h : s.e = 0) (hs : s.at_ ≤ l.length) :
    (rTwo (l.drop s.at_) = .error 12 ∧ takeS l 2 s = ⟨s.at_, 12⟩ ∧ numV l 2 s = 0) ∨
    (s.at_ + 2 ≤ l.length ∧ rTwo (l.drop s.at_) = .ok ((numV l 2 s : Nat), l.drop (s.at_ + 2)) ∧ takeS l 2 s = ⟨s.at_ + 2, 0⟩) := by
  by_cases hl : s.at_ + 1 < l.length
  · have hn : ¬ short l 2 s := by unfold short; omega
    refine .inr ⟨hl, ?_, takeS_yes h hn⟩
    have e : l.drop s.at_ = l[s.at_] :: l[s.at_ + 1] :: l.drop (s.at_ + 2) := by
      rw [List.drop_eq_getElem_cons (by omega), List.drop_eq_getElem_cons hl]
    have e2 : (numV l 2 s : Int) = (l[s.at_].toNat : Int) * 256 + l[s.at_ + 1].toNat := by
      unfold numV
      rw [takeL_yes h hn, e, List.take_succ_cons, List.take_succ_cons, List.take_zero]
      show (((0 * 256 + l[s.at_].toNat) * 256 + l[s.at_ + 1].toNat : Nat) : Int) = _
      omega
    rw [e2, e]
    rfl
  · have hn : short l 2 s := by unfold short; omega
    refine .inl ⟨?_, takeS_no h hn, by unfold numV; rw [takeL_no h hn]; rfl⟩
    have : (l.drop s.at_).length < 2 := by rw [List.length_drop]; omega
    match l.drop s.at_, this with
    | [], _ => rfl
    | [x], _ => rfl
/-- What a reader P tells from the place on: the state's next, and the value. -/
def Sim {α : Type} (l : List UInt8) (P : Rd α) (s s' : St) (x : α) : Prop :=
  (∃ e, e ≠ 0 ∧ P (l.drop s.at_) = .error e ∧ s'.e = e) ∨ (P (l.drop s.at_) = .ok (x, l.drop s'.at_) ∧ s'.e = 0)
theorem Sim.pair {α β : Type} {l : List UInt8} {P : Rd α} {Q : α → Rd β} {s s1 s2 : St} {x : α} {y : β} (h : Sim l P s s1 x) (k : s1.e = 0 → Sim l (Q x) s1 s2 y) (hs : s1.e ≠ 0 → s2.e = s1.e) : Sim l (P.pair Q) s s2 (x, y) := by
  rcases h with ⟨e, he, h1, h2⟩ | ⟨h1, h2⟩
  · exact .inl ⟨e, he, by simp only [Rd.pair, h1], by rw [hs (by rw [h2]; exact he), h2]⟩
  · rcases k h2 with ⟨e, he, k1, k2⟩ | ⟨k1, k2⟩
    · exact .inl ⟨e, he, by simp only [Rd.pair, h1, k1], k2⟩
    · exact .inr ⟨by simp only [Rd.pair, h1, k1], k2⟩
theorem Sim.map {α β : Type} {l : List UInt8} {P : Rd α} {s s1 : St} {x : α} (g : α → β) (h : Sim l P s s1 x) : Sim l (P.map g) s s1 (g x) := by
  rcases h with ⟨e, he, h1, h2⟩ | ⟨h1, h2⟩
  · exact .inl ⟨e, he, by simp only [Rd.map, h1], h2⟩
  · exact .inr ⟨by simp only [Rd.map, h1], h2⟩
theorem sim_one {l : List UInt8} {s : St} (h : s.e = 0) (hs : s.at_ ≤ l.length) : Sim l rOne s (takeS l 1 s) (numV l 1 s : Nat) := by
  rcases one_is h hs with ⟨h1, h2, _⟩ | ⟨_, h1, h2⟩
  · exact .inl ⟨12, by decide, h1, by rw [h2]⟩
  · exact .inr ⟨by rw [h1, h2], by rw [h2]⟩
theorem sim_two {l : List UInt8} {s : St} (h : s.e = 0) (hs : s.at_ ≤ l.length) : Sim l rTwo s (takeS l 2 s) (numV l 2 s : Nat) := by
  rcases two_is h hs with ⟨h1, h2, _⟩ | ⟨_, h1, h2⟩
  · exact .inl ⟨12, by decide, h1, by rw [h2]⟩
  · exact .inr ⟨by rw [h1, h2], by rw [h2]⟩
theorem sim_none {α : Type} {l : List UInt8} {s : St} (h : s.e = 0) (a : α) : Sim l (rNone a) s s a := .inr ⟨rfl, h⟩
/-- The state behind a field that a kind has or not. -/
def fS (l : List UInt8) (two has : Bool) (s : St) : St := if has then (if two then takeS l 2 s else takeS l 1 s) else s
def fV (l : List UInt8) (two has : Bool) (s : St) : Nat := if has then (if two then numV l 2 s else numV l 1 s) else 0
theorem sim_field {l : List UInt8} {s : St} (two has : Bool) (h : s.e = 0) (hs : s.at_ ≤ l.length) : Sim l (rField two has) s (fS l two has s) (fV l two has s : Nat) := by
  cases has
  · exact sim_none h _
  · cases two
    · exact sim_one h hs
    · exact sim_two h hs
theorem fS_stay {l : List UInt8} {two has : Bool} {s : St} (h : s.e ≠ 0) : fS l two has s = s := by
  unfold fS
  cases has
  · rfl
  · cases two
    · exact takeS_stay h
    · exact takeS_stay h
theorem fS_range {l : List UInt8} {two has : Bool} {s : St} (h : s.at_ ≤ l.length) : (fS l two has s).at_ ≤ l.length := by
  unfold fS
  cases has
  · exact h
  · cases two
    · exact takeS_range h
    · exact takeS_range h
/-- The six fields one behind the other. -/
def sx1 (l : List UInt8) (k : Nat) (s : St) : St := fS l false (hasK k 0) s
def sx2 (l : List UInt8) (k : Nat) (s : St) : St := fS l false (hasK k 1) (sx1 l k s)
def sx3 (l : List UInt8) (k : Nat) (s : St) : St := fS l false (hasK k 2) (sx2 l k s)
def sx4 (l : List UInt8) (k : Nat) (s : St) : St := fS l true (hasK k 3) (sx3 l k s)
def sx5 (l : List UInt8) (k : Nat) (s : St) : St := fS l false (hasK k 4) (sx4 l k s)
def sx6 (l : List UInt8) (k : Nat) (s : St) : St := fS l true (hasK k 5) (sx5 l k s)
def six (l : List UInt8) (k : Nat) (s : St) : Six := (fV l false (hasK k 0) s, fV l false (hasK k 1) (sx1 l k s), fV l false (hasK k 2) (sx2 l k s), fV l true (hasK k 3) (sx3 l k s), fV l false (hasK k 4) (sx4 l k s), fV l true (hasK k 5) (sx5 l k s))
theorem sim_six {l : List UInt8} {s : St} (k : Nat) (h : s.e = 0) (hs : s.at_ ≤ l.length) : Sim l (rSix k) s (sx6 l k s) (six l k s) := by
  have r1 : (sx1 l k s).at_ ≤ l.length := fS_range hs
  have r2 : (sx2 l k s).at_ ≤ l.length := fS_range r1
  have r3 : (sx3 l k s).at_ ≤ l.length := fS_range r2
  have r4 : (sx4 l k s).at_ ≤ l.length := fS_range r3
  have r5 : (sx5 l k s).at_ ≤ l.length := fS_range r4
  have e2 : (sx1 l k s).e ≠ 0 → sx2 l k s = sx1 l k s := fun h => fS_stay h
  have e3 : (sx2 l k s).e ≠ 0 → sx3 l k s = sx2 l k s := fun h => fS_stay h
  have e4 : (sx3 l k s).e ≠ 0 → sx4 l k s = sx3 l k s := fun h => fS_stay h
  have e5 : (sx4 l k s).e ≠ 0 → sx5 l k s = sx4 l k s := fun h => fS_stay h
  have e6 : (sx5 l k s).e ≠ 0 → sx6 l k s = sx5 l k s := fun h => fS_stay h
  have f5 : (sx4 l k s).e ≠ 0 → (sx6 l k s).e = (sx4 l k s).e := fun h => by rw [e6 (by rw [e5 h]; exact h), e5 h]
  have f4 : (sx3 l k s).e ≠ 0 → (sx6 l k s).e = (sx3 l k s).e := fun h => by rw [f5 (by rw [e4 h]; exact h), e4 h]
  have f3 : (sx2 l k s).e ≠ 0 → (sx6 l k s).e = (sx2 l k s).e := fun h => by rw [f4 (by rw [e3 h]; exact h), e3 h]
  have f2 : (sx1 l k s).e ≠ 0 → (sx6 l k s).e = (sx1 l k s).e := fun h => by rw [f3 (by rw [e2 h]; exact h), e2 h]
  exact (sim_field false (hasK k 0) h hs).pair (fun h => (sim_field false (hasK k 1) h r1).pair (fun h => (sim_field false (hasK k 2) h r2).pair (fun h => (sim_field true (hasK k 3) h r3).pair (fun h => (sim_field false (hasK k 4) h r4).pair (fun h => sim_field true (hasK k 5) h r5) (fun h => congrArg St.e (e6 h))) f5) f4) f3) f2
/-- The fields of a kind, in its own order, are the six. -/
theorem fld_six (l : List UInt8) (k : Nat) (hk : 1 ≤ k ∧ k ≤ 9) (s : St) : fldS l (fldL k) s (part0 k) = (sx6 l k s, ptOf (k, six l k s)) := by
  have : k = 1 ∨ k = 2 ∨ k = 3 ∨ k = 4 ∨ k = 5 ∨ k = 6 ∨ k = 7 ∨ k = 8 ∨ k = 9 := by omega
  rcases this with e | e | e | e | e | e | e | e | e <;> subst e <;> simp [fldL, fldS, part0, Pt.put1, ptOf, six, sx6, sx5, sx4, sx3, sx2, sx1, fS, fV, hasK]
theorem kind_is {l : List UInt8} {s : St} (h : s.e = 0) (hs : s.at_ ≤ l.length) :
    (prtOk l s = false ∧ ∃ e, e ≠ 0 ∧ rKind (l.drop s.at_) = .error e ∧ (failS (takeS l 1 s) 131).e = e) ∨ (prtOk l s = true ∧ rKind (l.drop s.at_) = .ok (numV l 1 s, l.drop (takeS l 1 s).at_) ∧ (takeS l 1 s).e = 0) := by
  rcases one_is h hs with ⟨h1, h2, h3⟩ | ⟨h0, h1, h2⟩
  · refine .inl ⟨by unfold prtOk; rw [h3]; rfl, 12, by decide, ?_, by rw [h2]; rfl⟩
    unfold rOne at h1
    unfold rKind
    match l.drop s.at_, h1 with
    | [], _ => rfl
  · have e : l.drop s.at_ = l[s.at_] :: l.drop (s.at_ + 1) := List.drop_eq_getElem_cons h0
    rw [e] at h1
    unfold rOne at h1
    simp only at h1
    injection h1 with h1
    injection h1 with h3 _
    have hv : (l[s.at_]).toNat = numV l 1 s := by omega
    rw [e]
    unfold rKind
    simp only
    by_cases hk : 1 ≤ numV l 1 s ∧ numV l 1 s ≤ 9
    · refine .inr ⟨by unfold prtOk; simp [hk], by rw [hv, if_pos hk, h2], by rw [h2]⟩
    · refine .inl ⟨by unfold prtOk; simp only [hk, decide_false], 131, by decide, by rw [hv, if_neg hk], by rw [h2]; rfl⟩
theorem prtS_range {l : List UInt8} {s : St} (h : s.at_ ≤ l.length) : (prtF l s).at_ ≤ l.length := by
  have h1 : (prtS l s).1.at_ ≤ l.length := fldS_range l _ _ _ (takeS_range h)
  unfold prtF
  split
  · exact h1
  · unfold failS; split <;> exact h1
theorem sim_part {l : List UInt8} {s : St} (h : s.e = 0) (hs : s.at_ ≤ l.length) : Sim l rPart s (prtF l s) (prtS l s).2 := by
  rcases kind_is h hs with ⟨hk, e, he, h1, h2⟩ | ⟨hk, h1, h2⟩
  · refine .inl ⟨e, he, by simp only [rPart, Rd.map, Rd.pair, h1], ?_⟩
    unfold prtF
    rw [hk, if_neg (by decide)]
    have hn : ¬ (1 ≤ numV l 1 s ∧ numV l 1 s ≤ 9) := by unfold prtOk at hk; exact of_decide_eq_false hk
    have : fldL (numV l 1 s) = [] := by
      unfold fldL
      rw [if_neg (by omega), if_neg (by omega), if_neg (by omega), if_neg (by omega), if_neg (by omega), if_neg (by omega), if_neg (by omega)]
    unfold prtS
    rw [this]
    exact h2
  · have hn : 1 ≤ numV l 1 s ∧ numV l 1 s ≤ 9 := by unfold prtOk at hk; exact of_decide_eq_true hk
    have hf := fld_six l (numV l 1 s) hn (takeS l 1 s)
    have s1 : Sim l rKind s (takeS l 1 s) (numV l 1 s) := .inr ⟨h1, h2⟩
    have e1 : prtF l s = sx6 l (numV l 1 s) (takeS l 1 s) := by
      unfold prtF
      rw [hk, if_pos rfl]
      unfold prtS
      rw [hf]
    have e2 : (prtS l s).2 = ptOf (numV l 1 s, six l (numV l 1 s) (takeS l 1 s)) := by
      unfold prtS
      rw [hf]
    rw [e1, e2]
    exact (s1.pair (Q := rSix) (fun h => sim_six _ h (takeS_range hs)) (fun hne => absurd h2 hne)).map ptOf
theorem prtsS_len (l : List UInt8) : ∀ (n : Nat) (s : St), (prtsS l n s).2.length = n
  | 0, _ => rfl
  | n + 1, s => by
    unfold prtsS
    split
    · simp
    · simp [prtsS_len l n]
theorem prtsS_stay (l : List UInt8) : ∀ (n : Nat) (s : St), s.e ≠ 0 → (prtsS l n s).1 = s
  | 0, _, _ => rfl
  | n + 1, s, h => by unfold prtsS; rw [if_pos h]
theorem prtsS_range (l : List UInt8) : ∀ (n : Nat) (s : St), s.at_ ≤ l.length → (prtsS l n s).1.at_ ≤ l.length
  | 0, _, h => h
  | n + 1, s, h => by
    unfold prtsS
    split
    · exact h
    · exact prtsS_range l n _ (prtS_range h)
theorem sim_many {l : List UInt8} : ∀ (n : Nat) (s : St), s.e = 0 → s.at_ ≤ l.length → Sim l (rMany rPart n) s (prtsS l n s).1 (prtsS l n s).2
  | 0, s, h, _ => sim_none h _
  | n + 1, s, h, hs => by
    unfold prtsS
    rw [if_neg (not_not_intro h)]
    exact ((sim_part h hs).pair (Q := fun _ => rMany rPart n) (fun h => sim_many n _ h (prtS_range hs)) (fun hne => by rw [prtsS_stay l n _ hne])).map (fun z => z.1 :: z.2)
/-- A length, and so many bytes. -/
def bytS (l : List UInt8) (s : St) : St := takeS l (numV l 2 s) (takeS l 2 s)
def bytL (l : List UInt8) (s : St) : List UInt8 := takeL l (numV l 2 s) (takeS l 2 s)
theorem sim_run {l : List UInt8} {s : St} (k : Nat) (h : s.e = 0) (hr : s.at_ ≤ l.length) : Sim l (rRun k) s (takeS l k s) (takeL l k s) := by
  by_cases hs : short l k s
  · rw [takeS_no h hs, takeL_no h hs]
    unfold short at hs
    exact .inl ⟨12, by decide, by unfold rRun; rw [if_neg (by rw [List.length_drop]; omega)], rfl⟩
  · rw [takeS_yes h hs, takeL_yes h hs]
    unfold short at hs
    exact .inr ⟨by unfold rRun; rw [if_pos (by rw [List.length_drop]; omega), List.drop_drop], rfl⟩
theorem sim_bytes {l : List UInt8} {s : St} (h : s.e = 0) (hs : s.at_ ≤ l.length) : Sim l rBytes s (bytS l s) (bytL l s) := by
  have hp : Sim l (rTwo.pair fun n => rRun n.toNat) s (bytS l s) (((numV l 2 s : Nat) : Int), bytL l s) :=
    (sim_two h hs).pair (Q := fun n => rRun n.toNat) (fun h => by rw [Int.toNat_natCast]; exact sim_run _ h (takeS_range hs)) (fun hne => by unfold bytS; rw [takeS_stay hne])
  exact hp.map (fun z => z.2)
theorem bytS_stay {l : List UInt8} {s : St} (h : s.e ≠ 0) : bytS l s = s := by unfold bytS; rw [takeS_stay h, takeS_stay h]
theorem bytS_range {l : List UInt8} {s : St} (h : s.at_ ≤ l.length) : (bytS l s).at_ ≤ l.length := takeS_range (takeS_range h)
/-- Get, step by step. -/
def g1 (l : List UInt8) : St := takeS l 1 ⟨0, 0⟩
def g2 (l : List UInt8) : St := takeS l 1 (g1 l)
def g3 (l : List UInt8) : St := takeS l 1 (g2 l)
def g4 (l : List UInt8) : St := takeS l 1 (g3 l)
def g5 (l : List UInt8) : St := takeS l 1 (g4 l)
def gn (l : List UInt8) : Nat := numV l 1 (g4 l)
def g6 (l : List UInt8) : St := (prtsS l (gn l) (g5 l)).1
def g7 (l : List UInt8) : St := bytS l (g6 l)
def g8 (l : List UInt8) : St := bytS l (g7 l)
def gM (l : List UInt8) : Md := ⟨numV l 1 ⟨0, 0⟩, numV l 1 (g1 l), numV l 1 (g2 l), numV l 1 (g3 l), (prtsS l (gn l) (g5 l)).2, bytL l (g6 l), bytL l (g7 l)⟩
def g9 (l : List UInt8) : St := if (gM l).right = 0 then g8 l else failS (g8 l) 131
theorem g8_range (l : List UInt8) : (g8 l).at_ ≤ l.length := bytS_range (bytS_range (prtsS_range l _ _ (takeS_range (takeS_range (takeS_range (takeS_range (takeS_range (Nat.zero_le _))))))))
theorem sim_md (l : List UInt8) : Sim l rMd ⟨0, 0⟩ (g8 l) (gM l) := by
  have r1 : (g1 l).at_ ≤ l.length := takeS_range (Nat.zero_le _)
  have r2 : (g2 l).at_ ≤ l.length := takeS_range r1
  have r3 : (g3 l).at_ ≤ l.length := takeS_range r2
  have r4 : (g4 l).at_ ≤ l.length := takeS_range r3
  have r5 : (g5 l).at_ ≤ l.length := takeS_range r4
  have r6 : (g6 l).at_ ≤ l.length := prtsS_range l _ _ r5
  have r7 : (g7 l).at_ ≤ l.length := bytS_range r6
  have e8 : (g7 l).e ≠ 0 → (g8 l).e = (g7 l).e := fun h => by unfold g8; rw [bytS_stay h]
  have e7 : (g6 l).e ≠ 0 → (g8 l).e = (g6 l).e := fun h => by
    have : g7 l = g6 l := bytS_stay h
    rw [e8 (by rw [this]; exact h), this]
  have e6 : (g5 l).e ≠ 0 → (g8 l).e = (g5 l).e := fun h => by
    have : g6 l = g5 l := prtsS_stay l _ _ h
    rw [e7 (by rw [this]; exact h), this]
  have e5 : (g4 l).e ≠ 0 → (g8 l).e = (g4 l).e := fun h => by
    have : g5 l = g4 l := takeS_stay h
    rw [e6 (by rw [this]; exact h), this]
  have e4 : (g3 l).e ≠ 0 → (g8 l).e = (g3 l).e := fun h => by
    have : g4 l = g3 l := takeS_stay h
    rw [e5 (by rw [this]; exact h), this]
  have e3 : (g2 l).e ≠ 0 → (g8 l).e = (g2 l).e := fun h => by
    have : g3 l = g2 l := takeS_stay h
    rw [e4 (by rw [this]; exact h), this]
  have e2 : (g1 l).e ≠ 0 → (g8 l).e = (g1 l).e := fun h => by
    have : g2 l = g1 l := takeS_stay h
    rw [e3 (by rw [this]; exact h), this]
  refine Sim.map mdOf (x := (((numV l 1 ⟨0, 0⟩ : Nat) : Int), ((numV l 1 (g1 l) : Nat) : Int), ((numV l 1 (g2 l) : Nat) : Int), ((numV l 1 (g3 l) : Nat) : Int), ((gn l : Nat) : Int), (prtsS l (gn l) (g5 l)).2, bytL l (g6 l), bytL l (g7 l))) ?_
  exact (sim_one rfl (Nat.zero_le _)).pair (fun h => (sim_one h r1).pair (fun h => (sim_one h r2).pair (fun h => (sim_one h r3).pair (fun h => (sim_one h r4).pair (fun h => Sim.pair (s1 := g6 l) (by rw [Int.toNat_natCast]; exact sim_many _ _ h r5) (fun h => (sim_bytes h r6).pair (fun h => sim_bytes h r7) e8) e7) e6) e5) e4) e3) e2
/-- What the program tells is what is read from the front. -/
theorem get_is (l : List UInt8) : (∃ e, e ≠ 0 ∧ getM l = .error e ∧ (g9 l).e = e) ∨ (getM l = .ok (gM l, (g9 l).at_) ∧ (g9 l).e = 0 ∧ g9 l = g8 l ∧ (gM l).right = 0) := by
  have hr := g8_range l
  rcases sim_md l with ⟨e, he, h1, h2⟩ | ⟨h1, h2⟩
  · rw [List.drop_zero] at h1
    refine .inl ⟨e, he, by unfold getM; rw [h1], ?_⟩
    unfold g9
    split
    · exact h2
    · unfold failS; rw [if_neg (by rw [h2]; exact he), h2]
  · rw [List.drop_zero] at h1
    by_cases hm : (gM l).right = 0
    · have e9 : g9 l = g8 l := if_pos hm
      refine .inr ⟨?_, by rw [e9]; exact h2, e9, hm⟩
      unfold getM
      rw [h1, e9]
      simp only [hm, if_true, List.length_drop]
      congr 2
      omega
    · refine .inl ⟨131, by decide, ?_, ?_⟩
      · unfold getM
        rw [h1]
        simp only [hm, if_false]
      · unfold g9
        rw [if_neg hm]
        unfold failS
        rw [if_pos h2]
end Go.Proofs.Ytnanmdfbgoahjaa
