/-
  The program's Right and Count are the document's, as plain data.
-/
import Derived.Test.YtdachagkhjhggaaRgp
import Derived.Test.YtdachagkhjhggaaRea
import Derived.Test.YtdachagkhjhggaaCnt
namespace Go.Proofs.Ytdachagkhjhggaa
open Go.RowKit
set_option linter.unusedVariables false
set_option linter.unusedSimpArgs false

/-- What is right of a list down to so many levels, but for how many there are. -/
def Tr.fit (post : Bool) : Tr → Nat → Bool
  | .nil, _ => true
  | .st _ _ _ _, 0 => true
  | .st x b e q, L + 1 => rgt post x b.len e.len && ((decide (0 < L) || none2 b.len e.len) && (b.fit post L && (e.fit post L && q.fit post (L + 1))))
theorem wr1 (m : Int) (h0 : 0 ≤ m) (h1 : m ≤ 1000000) : wrap64 (m + 1) = m + 1 := by unfold wrap64; omega
theorem run_r (post : Bool) : ∀ (t : Tr) (L : Nat) (s : Int), 0 ≤ s → s ≤ 500 →
    ((t.fit post L = true ∧ s + t.cnt L ≤ 500) → t.run (rStep post) L s = (true, s + t.cnt L)) ∧ (¬ (t.fit post L = true ∧ s + t.cnt L ≤ 500) → (t.run (rStep post) L s).1 = false)
  | .nil, L, s, h0, h1 => by
    constructor
    · intro _; simp [Tr.run, Tr.cnt]
    · intro h; exact absurd ⟨rfl, by simp only [Tr.cnt]; omega⟩ h
  | .st x b e q, 0, s, h0, h1 => by
    constructor
    · intro _; simp [Tr.run, Tr.cnt]
    · intro h; exact absurd ⟨rfl, by simp only [Tr.cnt]; omega⟩ h
  | .st x b e q, L + 1, s, h0, h1 => by
    have hs : rStep post s x b.len e.len L = (decide (s + 1 ≤ 500) && (rgt post x b.len e.len && (decide (0 < L) || none2 b.len e.len)), s + 1) := by
      unfold rStep; rw [wr1 s h0 (by omega)]
    by_cases hr : (decide (s + 1 ≤ 500) && (rgt post x b.len e.len && (decide (0 < L) || none2 b.len e.len))) = true
    · have hr' := hr
      simp only [Bool.and_eq_true, decide_eq_true_eq] at hr
      obtain ⟨hr1, hr2, hr3⟩ := hr
      rw [hr'] at hs
      obtain ⟨pb, nb⟩ := run_r post b L (s + 1) (by omega) hr1
      have e1 : (Tr.st x b e q).fit post (L + 1) = (b.fit post L && (e.fit post L && q.fit post (L + 1))) := by simp only [Tr.fit, hr2, hr3, Bool.true_and]
      have e2 : ((Tr.st x b e q).cnt (L + 1) : Int) = 1 + b.cnt L + e.cnt L + q.cnt (L + 1) := by simp only [Tr.cnt]; omega
      by_cases hb : b.fit post L = true ∧ s + 1 + b.cnt L ≤ 500
      · have pb' := pb hb
        obtain ⟨pe, ne⟩ := run_r post e L (s + 1 + b.cnt L) (by omega) hb.2
        by_cases he : e.fit post L = true ∧ s + 1 + b.cnt L + e.cnt L ≤ 500
        · have pe' := pe he
          obtain ⟨pq, nq⟩ := run_r post q (L + 1) (s + 1 + b.cnt L + e.cnt L) (by omega) he.2
          have er : (Tr.st x b e q).run (rStep post) (L + 1) s = q.run (rStep post) (L + 1) (s + 1 + b.cnt L + e.cnt L) := by
            simp only [Tr.run, hs]; rw [pb']; dsimp only; rw [pe']
          rw [er, e1, hb.1, he.1, e2]
          simp only [Bool.true_and]
          constructor
          · intro h
            rw [pq ⟨h.1, by omega⟩]
            congr 1; omega
          · intro h
            exact nq (fun h2 => h ⟨h2.1, by omega⟩)
        · have ne' := ne he
          have er : ((Tr.st x b e q).run (rStep post) (L + 1) s).1 = false := by
            simp only [Tr.run, hs]; rw [pb']; dsimp only
            revert ne'
            generalize e.run (rStep post) L (s + 1 + b.cnt L) = z
            rcases z with ⟨z1, z2⟩
            intro ne'
            simp only at ne'
            subst ne'
            rfl
          rw [er, e1]
          refine ⟨fun h => absurd ?_ he, fun _ => rfl⟩
          obtain ⟨h, h2⟩ := h
          simp only [Bool.and_eq_true] at h
          exact ⟨h.2.1, by omega⟩
      · have nb' := nb hb
        have er : ((Tr.st x b e q).run (rStep post) (L + 1) s).1 = false := by
          simp only [Tr.run, hs]
          revert nb'
          generalize b.run (rStep post) L (s + 1) = z
          rcases z with ⟨z1, z2⟩
          intro nb'
          simp only at nb'
          subst nb'
          rfl
        rw [er, e1]
        refine ⟨fun h => absurd ?_ hb, fun _ => rfl⟩
        obtain ⟨h, h2⟩ := h
        simp only [Bool.and_eq_true] at h
        exact ⟨h.1, by omega⟩
    · have hf : (decide (s + 1 ≤ 500) && (rgt post x b.len e.len && (decide (0 < L) || none2 b.len e.len))) = false := by simpa using hr
      rw [hf] at hs
      have er : ((Tr.st x b e q).run (rStep post) (L + 1) s).1 = false := by simp only [Tr.run, hs]
      rw [er]
      refine ⟨fun h => absurd ?_ hr, fun _ => rfl⟩
      obtain ⟨h, h2⟩ := h
      simp only [Tr.fit, Bool.and_eq_true, Tr.cnt] at h h2
      rw [h.1, h.2.1]
      simp only [Bool.and_true, decide_eq_true_eq]
      omega
theorem dp_zero {t : Tr} {L : Nat} (h : t.dp L ≤ 0) : t = .nil := by
  cases t with
  | nil => rfl
  | st x b e q =>
    cases L with
    | zero => simp [Tr.dp] at h
    | succ L => simp only [Tr.dp] at h; omega
theorem fit_ok (post : Bool) : ∀ (t : Tr) (L : Nat), (t.fit post (L + 1) = true ↔ t.ok post = true ∧ t.dp (L + 2) ≤ L + 1)
  | .nil, L => by simp [Tr.fit, Tr.ok, Tr.dp]
  | .st x b e q, 0 => by
    have hq := fit_ok post q 0
    have e0 : q.dp (0 + 2) = q.dp (1 + 1) := rfl
    have e1 : Tr.nil.dp 1 = 0 := rfl
    simp only [Tr.fit, Tr.ok, Tr.dp, Bool.and_eq_true, hq]
    constructor
    · rintro ⟨h1, h2, h3, h4, h5, h6⟩
      have hn : b = .nil ∧ e = .nil := by
        simp only [Nat.lt_irrefl, decide_false, Bool.false_or, none2, decide_eq_true_eq] at h2
        exact ⟨Tr.len_nil h2.1, Tr.len_nil h2.2⟩
      obtain ⟨rfl, rfl⟩ := hn
      exact ⟨⟨h1, rfl, rfl, h5⟩, by simp only [Tr.dp]; omega⟩
    · rintro ⟨⟨h1, h2, h3, h4⟩, h5⟩
      have hb : b = .nil := dp_zero (L := 1) (by omega)
      have he : e = .nil := dp_zero (L := 1) (by omega)
      subst hb he
      exact ⟨h1, rfl, rfl, rfl, h4, by omega⟩
  | .st x b e q, L + 1 => by
    have hq := fit_ok post q (L + 1)
    have e0 : q.dp (L + 1 + 2) = q.dp (L + 2 + 1) := rfl
    have hb := fit_ok post b L
    have he := fit_ok post e L
    simp only [Tr.fit, Tr.ok, Tr.dp, Bool.and_eq_true, hq, hb, he]
    constructor
    · rintro ⟨h1, h2, h3, h4, h5, h6⟩
      exact ⟨⟨h1, h3.1, h4.1, h5⟩, by omega⟩
    · rintro ⟨⟨h1, h2, h3, h4⟩, h5⟩
      exact ⟨h1, by simp, ⟨h2, by omega⟩, ⟨h3, by omega⟩, h4, by omega⟩
/-- A right list. -/
def Tr.right (post : Bool) (t : Tr) : Bool := decide (t.dp 21 ≤ 20) && (decide (t.cnt 20 ≤ 500) && t.ok post)
theorem right_run (post : Bool) (t : Tr) : (t.run (rStep post) 20 (0 : Int)).1 = t.right post := by
  obtain ⟨h1, h2⟩ := run_r post t 20 0 (by omega) (by omega)
  have hf := fit_ok post t 19
  have e0 : t.dp (19 + 2) = t.dp 21 := rfl
  by_cases h : t.fit post 20 = true ∧ (0 : Int) + t.cnt 20 ≤ 500
  · rw [h1 h]
    have h3 := hf.1 h.1
    unfold Tr.right
    rw [h3.1, decide_eq_true (by omega : t.dp 21 ≤ 20), decide_eq_true (by omega : t.cnt 20 ≤ 500)]
    rfl
  · rw [h2 h]
    symm
    rw [← Bool.not_eq_true]
    intro h3
    unfold Tr.right at h3
    simp only [Bool.and_eq_true, decide_eq_true_eq] at h3
    exact h ⟨hf.2 ⟨h3.2.2, h3.1⟩, by omega⟩
theorem run_c : ∀ (t : Tr) (L : Nat) (s : Int), 0 ≤ s → s + t.cnt L ≤ 1000000 → t.run cStep L s = (true, s + t.cnt L)
  | .nil, L, s, h0, h1 => by simp [Tr.run, Tr.cnt]
  | .st x b e q, 0, s, h0, h1 => by simp [Tr.run, Tr.cnt]
  | .st x b e q, L + 1, s, h0, h1 => by
    simp only [Tr.cnt] at h1
    have hs : cStep s x b.len e.len L = (true, s + 1) := by unfold cStep; rw [wr1 s h0 (by omega)]
    simp only [Tr.run, hs]
    rw [run_c b L (s + 1) (by omega) (by omega)]
    dsimp only
    rw [run_c e L (s + 1 + b.cnt L) (by omega) (by omega)]
    dsimp only
    rw [run_c q (L + 1) (s + 1 + b.cnt L + e.cnt L) (by omega) (by omega)]
    congr 1
    simp only [Tr.cnt]; omega
theorem count_run (t : Tr) (h : t.sz ≤ 3000) : (t.run cStep 20 (0 : Int)).2 = (t.cnt 20 : Int) := by
  have h2 := t.cnt_le 20
  rw [run_c t 20 0 (by omega) (by omega)]
  simp
theorem right_any' (t : Tr) (A : Option Addr) (n c : Nat) (post : Bool) (w : World) (h : Sl w w.heap.size t A n c) :
    Calls Try.prog 8 #[.slice A n c, .bool post] w fun e w' => e = .returned (.bool (t.right post)) ∧ Below w.heap.size w w' := by
  rw [← right_run]
  exact pRight_any t A n c post w h
theorem count_any' (t : Tr) (h3 : t.sz ≤ 3000) (A : Option Addr) (n c : Nat) (w : World) (h : Sl w w.heap.size t A n c) :
    Calls Try.prog 10 #[.slice A n c] w fun e w' => e = .returned (.int .i64 (t.cnt 20)) ∧ Below w.heap.size w w' := by
  rw [← count_run t h3]
  exact pCount_any t A n c w h
end Go.Proofs.Ytdachagkhjhggaa
