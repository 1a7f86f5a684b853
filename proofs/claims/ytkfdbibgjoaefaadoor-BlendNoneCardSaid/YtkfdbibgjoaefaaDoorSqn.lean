/-
  The two curves of chapter 9 as plain functions: the one never falls, the other is the least place; there and back.
-/
namespace Go.Proofs.YtkfdbibgjoaefaaDoor

/-- The knots. -/
def knL : List Nat := [1, 2, 4, 6, 10, 17, 27, 45, 74, 120, 194, 311, 488, 747, 1102, 1546, 2048, 2550, 2994, 3349, 3608, 3785, 3902, 3976, 4022, 4051, 4069, 4079, 4086, 4090, 4092, 4094, 4095]
def kn (i : Nat) : Nat := knL.getD i 0
/-- The curve between the ends, at n = d + 2048. -/
def sqN (n : Nat) : Nat := (kn (n / 128) * (128 - n % 128) + kn (n / 128 + 1) * (n % 128) + 64) / 128
def sq (d : Int) : Int := if 2047 < d then 4095 else if d < -2047 then 1 else (sqN (d + 2048).toNat : Nat)
theorem kn_up : ∀ i, i < 32 → kn i ≤ kn (i + 1) := by decide +kernel
theorem kn_low : ∀ i, i < 33 → 1 ≤ kn i := by decide +kernel
theorem kn_high : ∀ i, i < 33 → kn i ≤ 4095 := by decide +kernel
theorem sqN_step : (List.range 4094).all (fun n => decide (sqN (n + 1) ≤ sqN (n + 2))) = true := by decide +kernel
theorem sqN_up (n : Nat) (h1 : 1 ≤ n) (h2 : n ≤ 4094) : sqN n ≤ sqN (n + 1) := by
  have h := List.all_eq_true.1 sqN_step (n - 1) (List.mem_range.2 (by omega))
  have e : n - 1 + 1 = n := by omega
  have e2 : n - 1 + 2 = n + 1 := by omega
  rw [e, e2] at h
  exact of_decide_eq_true h
theorem sqN_first : sqN 1 = 1 := by decide +kernel
theorem sqN_last : sqN 4095 = 4095 := by decide +kernel
theorem sqN_mono (n m : Nat) (h1 : 1 ≤ n) (h : n ≤ m) (h2 : m ≤ 4095) : sqN n ≤ sqN m := by
  induction m with
  | zero => omega
  | succ m ih =>
    by_cases e : n = m + 1
    · subst e; exact Nat.le_refl _
    · exact Nat.le_trans (ih (by omega) (by omega)) (sqN_up m (by omega) (by omega))
theorem sqN_range (n : Nat) (h1 : 1 ≤ n) (h2 : n ≤ 4095) : 1 ≤ sqN n ∧ sqN n ≤ 4095 := by
  have a := sqN_mono 1 n (by omega) h1 h2
  have b := sqN_mono n 4095 h1 h2 (by omega)
  rw [sqN_first] at a
  rw [sqN_last] at b
  exact ⟨a, b⟩
theorem sq_range (d : Int) : 1 ≤ sq d ∧ sq d ≤ 4095 := by
  unfold sq
  split
  · exact ⟨by decide, by decide⟩
  · split
    · exact ⟨by decide, by decide⟩
    · have := sqN_range (d + 2048).toNat (by omega) (by omega)
      omega
theorem sq_mono (a b : Int) (h : a ≤ b) : sq a ≤ sq b := by
  have ha := sq_range a
  have hb := sq_range b
  by_cases h1 : 2047 < b
  · have : sq b = 4095 := by unfold sq; rw [if_pos h1]
    omega
  · by_cases h2 : a < -2047
    · have : sq a = 1 := by unfold sq; rw [if_neg (by omega), if_pos h2]
      omega
    · have e1 : sq a = (sqN (a + 2048).toNat : Nat) := by unfold sq; rw [if_neg (by omega), if_neg (by omega)]
      have e2 : sq b = (sqN (b + 2048).toNat : Nat) := by unfold sq; rw [if_neg (by omega), if_neg (by omega)]
      rw [e1, e2]
      have := sqN_mono (a + 2048).toNat (b + 2048).toNat (by omega) (by omega) (by omega)
      omega
theorem sq_top : sq 2047 = 4095 := by decide +kernel
/-- The least place from k on, of so many. -/
def lst (p : Int) (k : Int) : Nat → Int
  | 0 => k
  | f + 1 => if p ≤ sq k then k else lst p (k + 1) f
/-- The least d from -2047 to 2047 with sq d at least p; 2047, if there is none. -/
def stz (p : Int) : Int := lst p (-2047) 4094
theorem lst_range (p : Int) : ∀ (f : Nat) (k : Int), k ≤ lst p k f ∧ lst p k f ≤ k + f
  | 0, k => by unfold lst; omega
  | f + 1, k => by
    unfold lst
    split
    · omega
    · have := lst_range p f (k + 1); omega
/-- Nothing ahead of it reaches p. -/
theorem lst_least (p : Int) : ∀ (f : Nat) (k d : Int), k ≤ d → d < lst p k f → sq d < p
  | 0, k, d, h1, h2 => by unfold lst at h2; omega
  | f + 1, k, d, h1, h2 => by
    unfold lst at h2
    split at h2
    · omega
    · rename_i hn
      by_cases e : d = k
      · subst e; omega
      · exact lst_least p f (k + 1) d (by omega) h2
/-- It reaches p, or is the last. -/
theorem lst_hit (p : Int) : ∀ (f : Nat) (k : Int), p ≤ sq (lst p k f) ∨ lst p k f = k + f
  | 0, k => by unfold lst; exact .inr (by omega)
  | f + 1, k => by
    unfold lst
    split
    · rename_i h; exact .inl h
    · rcases lst_hit p f (k + 1) with h | h
      · exact .inl h
      · exact .inr (by omega)
theorem stz_range (p : Int) : -2047 ≤ stz p ∧ stz p ≤ 2047 := by
  have := lst_range p 4094 (-2047)
  unfold stz; omega
theorem stz_hit (p : Int) (h : p ≤ 4095) : p ≤ sq (stz p) := by
  rcases lst_hit p 4094 (-2047) with h1 | h1
  · exact h1
  · unfold stz
    rw [h1]
    have := sq_top
    have e : (-2047 : Int) + (4094 : Nat) = 2047 := by decide
    rw [e, this]
    exact h
theorem stz_le (p d : Int) (h1 : -2047 ≤ d) (h : p ≤ sq d) : stz p ≤ d := by
  by_cases e : d < stz p
  · have := lst_least p 4094 (-2047) d h1 e; omega
  · omega
theorem stz_mono (p q : Int) (h : p ≤ q) : stz p ≤ stz q := by
  have r := stz_range q
  by_cases e : stz q < stz p
  · have h1 := lst_least p 4094 (-2047) (stz q) (by omega) e
    rcases lst_hit q 4094 (-2047) with h2 | h2
    · have : q ≤ sq (stz q) := h2
      omega
    · have h3 := stz_range p
      have : stz q = -2047 + (4094 : Nat) := h2
      omega
  · omega
/-- There and back. -/
theorem stz_sq (d : Int) (h1 : -2047 ≤ d) : stz (sq d) ≤ d := stz_le _ d h1 (Int.le_refl _)
end Go.Proofs.YtkfdbibgjoaefaaDoor
