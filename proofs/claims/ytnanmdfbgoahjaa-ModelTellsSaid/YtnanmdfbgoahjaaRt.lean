/-
  The document's 'one' and the program's 'fits' as plain data.
-/
import Derived.Test.YtnanmdfbgoahjaaOna
import Derived.Test.YtnanmdfbgoahjaaOnb
import Derived.Test.YtnanmdfbgoahjaaOnc
import Derived.Test.YtnanmdfbgoahjaaOnd
import Derived.Test.YtnanmdfbgoahjaaOne
namespace Go.Proofs.Ytnanmdfbgoahjaa
open Go.RowKit

theorem vP_inj {k s a b c r m k' s' a' b' c' r' m' : Int} : vP k s a b c r m = vP k' s' a' b' c' r' m' ↔ k = k' ∧ s = s' ∧ a = a' ∧ b = b' ∧ c = c' ∧ r = r' ∧ m = m' := by unfold vP; simp
theorem kinds (k : Nat) : k = 1 ∨ k = 2 ∨ k = 3 ∨ k = 4 ∨ k = 5 ∨ k = 6 ∨ k = 7 ∨ k = 8 ∨ k = 9 ∨ (¬ (k : Int) = 1 ∧ ¬ (k : Int) = 2 ∧ ¬ (k : Int) = 3 ∧ ¬ (k : Int) = 4 ∧ ¬ (k : Int) = 5 ∧ ¬ (k : Int) = 6 ∧ ¬ (k : Int) = 7 ∧ ¬ (k : Int) = 8 ∧ ¬ (k : Int) = 9) := by omega
theorem ret_bool {a b : Bool} (h : a = b) : Ending.returned (.bool a) = .returned (.bool b) := by rw [h]
theorem oneP_1 (s a b c r m i : Int) : Pt.one ⟨1, s, a, b, c, r, m⟩ i ↔ (s = 0 ∧ a = 0 ∧ b = 0 ∧ r = 0 ∧ m = 0) ∧ -2047 ≤ c ∧ c ≤ 2047 := by
  have hp : Pt.places ⟨1, s, a, b, c, r, m⟩ = plI 1 s b := places_plI _
  unfold Pt.one Pt.fields Pt.fit inn
  rw [hp]
  simp
  omega
theorem oneP_2 (s a b c r m i : Int) : Pt.one ⟨2, s, a, b, c, r, m⟩ i ↔ (a = 0 ∧ b = 0 ∧ c = 0 ∧ r = 0) ∧ 0 < plI 2 s b ∧ 1 ≤ m ∧ m ≤ 1023 := by
  have hp : Pt.places ⟨2, s, a, b, c, r, m⟩ = plI 2 s b := places_plI _
  unfold Pt.one Pt.fields Pt.fit inn
  rw [hp]
  simp
  omega
theorem oneP_3 (s a b c r m i : Int) : Pt.one ⟨3, s, a, b, c, r, m⟩ i ↔ (a = 0 ∧ b = 0 ∧ c = 0 ∧ r = 0 ∧ m = 0) ∧ 0 < plI 3 s b := by
  have hp : Pt.places ⟨3, s, a, b, c, r, m⟩ = plI 3 s b := places_plI _
  unfold Pt.one Pt.fields Pt.fit inn
  rw [hp]
  simp
  omega
theorem oneP_4 (s a b c r m i : Int) : Pt.one ⟨4, s, a, b, c, r, m⟩ i ↔ (a = 0 ∧ b = 0 ∧ c = 0 ∧ r = 0 ∧ m = 0) ∧ 0 < plI 4 s b := by
  have hp : Pt.places ⟨4, s, a, b, c, r, m⟩ = plI 4 s b := places_plI _
  unfold Pt.one Pt.fields Pt.fit inn
  rw [hp]
  simp
  omega
theorem oneP_5 (s a b c r m i : Int) : Pt.one ⟨5, s, a, b, c, r, m⟩ i ↔ (s = 0 ∧ r = 0 ∧ m = 0) ∧ (0 ≤ a ∧ a ≤ i - 1) ∧ (0 ≤ b ∧ b ≤ i - 1) ∧ 0 ≤ c ∧ c ≤ 256 := by
  have hp : Pt.places ⟨5, s, a, b, c, r, m⟩ = plI 5 s b := places_plI _
  unfold Pt.one Pt.fields Pt.fit inn
  rw [hp]
  simp
  omega
theorem oneP_6 (s a b c r m i : Int) : Pt.one ⟨6, s, a, b, c, r, m⟩ i ↔ (c = 0 ∧ m = 0) ∧ 0 < plI 6 s b ∧ (0 ≤ a ∧ a ≤ i - 1) ∧ (0 ≤ b ∧ b ≤ i - 1) ∧ 1 ≤ r ∧ r ≤ 64 := by
  have hp : Pt.places ⟨6, s, a, b, c, r, m⟩ = plI 6 s b := places_plI _
  unfold Pt.one Pt.fields Pt.fit inn
  rw [hp]
  simp
  omega
theorem oneP_7 (s a b c r m i : Int) : Pt.one ⟨7, s, a, b, c, r, m⟩ i ↔ (c = 0 ∧ m = 0) ∧ 0 < plI 7 s b ∧ (0 ≤ a ∧ a ≤ i - 1) ∧ a + b ≤ i ∧ 1 ≤ r ∧ r ≤ 64 := by
  have hp : Pt.places ⟨7, s, a, b, c, r, m⟩ = plI 7 s b := places_plI _
  unfold Pt.one Pt.fields Pt.fit inn
  rw [hp]
  simp
  omega
theorem oneP_8 (s a b c r m i : Int) : Pt.one ⟨8, s, a, b, c, r, m⟩ i ↔ (b = 0 ∧ c = 0 ∧ r = 0 ∧ m = 0) ∧ 0 < plI 8 s b ∧ 0 ≤ a ∧ a ≤ i - 1 := by
  have hp : Pt.places ⟨8, s, a, b, c, r, m⟩ = plI 8 s b := places_plI _
  unfold Pt.one Pt.fields Pt.fit inn
  rw [hp]
  simp
  omega
theorem oneP_9 (s a b c r m i : Int) : Pt.one ⟨9, s, a, b, c, r, m⟩ i ↔ (b = 0 ∧ c = 0 ∧ r = 0) ∧ 0 < plI 9 s b ∧ (0 ≤ a ∧ a ≤ i - 1) ∧ 1 ≤ m ∧ m ≤ 1023 := by
  have hp : Pt.places ⟨9, s, a, b, c, r, m⟩ = plI 9 s b := places_plI _
  unfold Pt.one Pt.fields Pt.fit inn
  rw [hp]
  simp
  omega
theorem oneP_x (k : Nat) (s a b c r m i : Int) (h1 : ¬ (k : Int) = 1) (h2 : ¬ (k : Int) = 2) (h3 : ¬ (k : Int) = 3) (h4 : ¬ (k : Int) = 4) (h5 : ¬ (k : Int) = 5) (h6 : ¬ (k : Int) = 6) (h7 : ¬ (k : Int) = 7) (h8 : ¬ (k : Int) = 8) (h9 : ¬ (k : Int) = 9) : ¬ Pt.one ⟨k, s, a, b, c, r, m⟩ i := by
  intro h
  have := one_kind _ _ h
  simp only at this
  omega
theorem plI_pos (k s b : Int) (hk : k = 2 ∨ k = 3 ∨ k = 4 ∨ k = 6 ∨ k = 8 ∨ k = 9) : 0 < plI k s b ↔ leastS k ≤ s ∧ s ≤ mostS k := by
  have h0 := pow2_pos s
  unfold plI
  by_cases h : inn s (leastS k) (mostS k)
  · rw [if_pos h]
    refine ⟨fun _ => h, fun _ => ?_⟩
    rcases hk with h | h | h | h | h | h <;> subst h <;> simp <;> omega
  · rw [if_neg h]
    exact ⟨fun x => absurd x (by omega), fun x => absurd x h⟩
theorem plI_pos7 (s b : Int) : 0 < plI 7 s b ↔ (0 ≤ s ∧ s ≤ 12) ∧ 1 ≤ b ∧ b ≤ 8 := by
  constructor
  · intro h
    refine ⟨?_, plI7 s b h⟩
    unfold plI at h
    split at h
    next hs => exact hs
    · omega
  · intro h
    have h0 := pow2_pos s
    unfold plI
    rw [if_pos (show inn s (leastS 7) (mostS 7) from h.1)]
    simp only [show ¬ (7 : Int) = 3 from by decide, show ¬ (7 : Int) = 4 from by decide, if_false, if_true]
    rw [if_pos (show inn b 1 8 from h.2)]
    exact Int.mul_pos (by omega) (by omega)
/-- The document's: a part at the place i. -/
theorem one_any (p : Pt) (i : Int) (hi : 0 ≤ i) (hi2 : i ≤ 16) (w : World) :
    Calls Try.prog 34 #[vPt p, .int .i64 i] w fun e w' => e = .returned (.bool (decide (p.one i))) ∧ Below w.heap.size w w' := by
  obtain ⟨k, s, a, b, c, r, m⟩ := p
  unfold vPt
  dsimp only
  rcases kinds k with h | h | h | h | h | h | h | h | h | ⟨h1, h2, h3, h4, h5, h6, h7, h8, h9⟩
  · subst h
    show Calls Try.prog 34 #[vP 1 s a b c r m, .int .i64 i] w _
    have hone := oneP_1 s a b c r m i
    by_cases hs : vP 1 s a b c r m = vP 1 0 0 0 c 0 0
    · have hz := vP_inj.1 hs
      obtain ⟨_, rfl, rfl, rfl, _, rfl, rfl⟩ := hz
      refine (one_yes_1 c i hi hi2 w _ rfl).mono fun e w' h => ⟨h.1.trans (ret_bool ?_), h.2⟩
      rw [Bool.eq_iff_iff]
      simp only [decide_eq_true_eq, hone]
      simp only [inn, true_and, and_true] <;> omega
    · have hf : decide (Pt.one ⟨1, s, a, b, c, r, m⟩ i) = false := by
        refine decide_eq_false (fun h => hs (vP_inj.2 ?_))
        have := hone.1 h
        omega
      rw [hf]
      exact one_no_1 s a b c r m i w hs
  · subst h
    show Calls Try.prog 34 #[vP 2 s a b c r m, .int .i64 i] w _
    have hone := oneP_2 s a b c r m i
    by_cases hs : vP 2 s a b c r m = vP 2 s 0 0 0 0 m
    · have hz := vP_inj.1 hs
      obtain ⟨_, _, rfl, rfl, rfl, rfl, _⟩ := hz
      refine (one_yes_2 s m i hi hi2 w _ _ rfl rfl).mono fun e w' h => ⟨h.1.trans (ret_bool ?_), h.2⟩
      rw [Bool.eq_iff_iff]
      simp only [Bool.and_eq_true, decide_eq_true_eq, hone]
      simp only [inn, true_and, and_true] <;> omega
    · have hf : decide (Pt.one ⟨2, s, a, b, c, r, m⟩ i) = false := by
        refine decide_eq_false (fun h => hs (vP_inj.2 ?_))
        have := hone.1 h
        omega
      rw [hf]
      exact one_no_2 s a b c r m i w hs
  · subst h
    show Calls Try.prog 34 #[vP 3 s a b c r m, .int .i64 i] w _
    have hone := oneP_3 s a b c r m i
    by_cases hs : vP 3 s a b c r m = vP 3 s 0 0 0 0 0
    · have hz := vP_inj.1 hs
      obtain ⟨_, _, rfl, rfl, rfl, rfl, rfl⟩ := hz
      refine (one_yes_3 s i hi hi2 w _ rfl).mono fun e w' h => ⟨h.1.trans (ret_bool ?_), h.2⟩
      rw [Bool.eq_iff_iff]
      simp only [decide_eq_true_eq, hone]
      simp only [true_and, and_true] <;> omega
    · have hf : decide (Pt.one ⟨3, s, a, b, c, r, m⟩ i) = false := by
        refine decide_eq_false (fun h => hs (vP_inj.2 ?_))
        have := hone.1 h
        omega
      rw [hf]
      exact one_no_3 s a b c r m i w hs
  · subst h
    show Calls Try.prog 34 #[vP 4 s a b c r m, .int .i64 i] w _
    have hone := oneP_4 s a b c r m i
    by_cases hs : vP 4 s a b c r m = vP 4 s 0 0 0 0 0
    · have hz := vP_inj.1 hs
      obtain ⟨_, _, rfl, rfl, rfl, rfl, rfl⟩ := hz
      refine (one_yes_4 s i hi hi2 w _ rfl).mono fun e w' h => ⟨h.1.trans (ret_bool ?_), h.2⟩
      rw [Bool.eq_iff_iff]
      simp only [decide_eq_true_eq, hone]
      simp only [true_and, and_true] <;> omega
    · have hf : decide (Pt.one ⟨4, s, a, b, c, r, m⟩ i) = false := by
        refine decide_eq_false (fun h => hs (vP_inj.2 ?_))
        have := hone.1 h
        omega
      rw [hf]
      exact one_no_4 s a b c r m i w hs
  · subst h
    show Calls Try.prog 34 #[vP 5 s a b c r m, .int .i64 i] w _
    have hone := oneP_5 s a b c r m i
    by_cases hs : vP 5 s a b c r m = vP 5 0 a b c 0 0
    · have hz := vP_inj.1 hs
      obtain ⟨_, rfl, _, _, _, rfl, rfl⟩ := hz
      refine (one_yes_5 a b c i hi hi2 w _ _ _ rfl rfl rfl).mono fun e w' h => ⟨h.1.trans (ret_bool ?_), h.2⟩
      rw [Bool.eq_iff_iff]
      simp only [Bool.and_eq_true, decide_eq_true_eq, hone]
      simp only [inn, true_and, and_true] <;> omega
    · have hf : decide (Pt.one ⟨5, s, a, b, c, r, m⟩ i) = false := by
        refine decide_eq_false (fun h => hs (vP_inj.2 ?_))
        have := hone.1 h
        omega
      rw [hf]
      exact one_no_5 s a b c r m i w hs
  · subst h
    show Calls Try.prog 34 #[vP 6 s a b c r m, .int .i64 i] w _
    have hone := oneP_6 s a b c r m i
    by_cases hs : vP 6 s a b c r m = vP 6 s a b 0 r 0
    · have hz := vP_inj.1 hs
      obtain ⟨_, _, _, _, rfl, _, rfl⟩ := hz
      refine (one_yes_6 s a b r i hi hi2 w _ _ _ _ rfl rfl rfl rfl).mono fun e w' h => ⟨h.1.trans (ret_bool ?_), h.2⟩
      rw [Bool.eq_iff_iff]
      simp only [Bool.and_eq_true, decide_eq_true_eq, hone]
      simp only [inn, true_and, and_true] <;> omega
    · have hf : decide (Pt.one ⟨6, s, a, b, c, r, m⟩ i) = false := by
        refine decide_eq_false (fun h => hs (vP_inj.2 ?_))
        have := hone.1 h
        omega
      rw [hf]
      exact one_no_6 s a b c r m i w hs
  · subst h
    show Calls Try.prog 34 #[vP 7 s a b c r m, .int .i64 i] w _
    have hone := oneP_7 s a b c r m i
    by_cases hs : vP 7 s a b c r m = vP 7 s a b 0 r 0
    · have hz := vP_inj.1 hs
      obtain ⟨_, _, _, _, rfl, _, rfl⟩ := hz
      refine (one_yes_7 s a b r i hi hi2 w _ _ _ _ rfl rfl rfl rfl).mono fun e w' h => ⟨h.1.trans (ret_bool ?_), h.2⟩
      rw [Bool.eq_iff_iff]
      simp only [Bool.and_eq_true, decide_eq_true_eq, hone]
      simp only [inn, true_and, and_true] <;> omega
    · have hf : decide (Pt.one ⟨7, s, a, b, c, r, m⟩ i) = false := by
        refine decide_eq_false (fun h => hs (vP_inj.2 ?_))
        have := hone.1 h
        omega
      rw [hf]
      exact one_no_7 s a b c r m i w hs
  · subst h
    show Calls Try.prog 34 #[vP 8 s a b c r m, .int .i64 i] w _
    have hone := oneP_8 s a b c r m i
    by_cases hs : vP 8 s a b c r m = vP 8 s a 0 0 0 0
    · have hz := vP_inj.1 hs
      obtain ⟨_, _, _, rfl, rfl, rfl, rfl⟩ := hz
      refine (one_yes_8 s a i hi hi2 w _ _ rfl rfl).mono fun e w' h => ⟨h.1.trans (ret_bool ?_), h.2⟩
      rw [Bool.eq_iff_iff]
      simp only [Bool.and_eq_true, decide_eq_true_eq, hone]
      simp only [inn, true_and, and_true] <;> omega
    · have hf : decide (Pt.one ⟨8, s, a, b, c, r, m⟩ i) = false := by
        refine decide_eq_false (fun h => hs (vP_inj.2 ?_))
        have := hone.1 h
        omega
      rw [hf]
      exact one_no_8 s a b c r m i w hs
  · subst h
    show Calls Try.prog 34 #[vP 9 s a b c r m, .int .i64 i] w _
    have hone := oneP_9 s a b c r m i
    by_cases hs : vP 9 s a b c r m = vP 9 s a 0 0 0 m
    · have hz := vP_inj.1 hs
      obtain ⟨_, _, _, rfl, rfl, rfl, _⟩ := hz
      refine (one_yes_9 s a m i hi hi2 w _ _ _ rfl rfl rfl).mono fun e w' h => ⟨h.1.trans (ret_bool ?_), h.2⟩
      rw [Bool.eq_iff_iff]
      simp only [Bool.and_eq_true, decide_eq_true_eq, hone]
      simp only [inn, true_and, and_true] <;> omega
    · have hf : decide (Pt.one ⟨9, s, a, b, c, r, m⟩ i) = false := by
        refine decide_eq_false (fun h => hs (vP_inj.2 ?_))
        have := hone.1 h
        omega
      rw [hf]
      exact one_no_9 s a b c r m i w hs
  · have hf : decide (Pt.one ⟨k, s, a, b, c, r, m⟩ i) = false := decide_eq_false (oneP_x k s a b c r m i h1 h2 h3 h4 h5 h6 h7 h8 h9)
    rw [hf]
    by_cases hs : vP k s a b c r m = vP k 0 0 0 0 0 0
    · have hz := vP_inj.1 hs
      obtain ⟨_, rfl, rfl, rfl, rfl, rfl, rfl⟩ := hz
      exact one_yes_k k i hi hi2 w h1 h2 h3 h4 h5 h6 h7 h8 h9
    · exact one_no_k k s a b c r m i w h1 h2 h3 h4 h5 h6 h7 h8 h9 hs
end Go.Proofs.Ytnanmdfbgoahjaa
