/-
  Merged: Ft Rt.
-/
import Derived.Test.YtkfdbibgjoaefaaDoorZb
import Derived.Deep.RegionHeld3
/-
  The program's 'fits', kind by kind.
-/
namespace Go.Proofs.YtkfdbibgjoaefaaDoor
open Go.RowKit

instance (k s a b c r m k' s' a' b' c' r' m' : Int) : Decidable (vP k s a b c r m = vP k' s' a' b' c' r' m') :=
  decidable_of_iff (k = k' ∧ s = s' ∧ a = a' ∧ b = b' ∧ c = c' ∧ r = r' ∧ m = m') (by unfold vP; simp)
theorem asks_T (w : World) (g1 g2 : Nat) (a b n : Int) (T : Bool) (hT : decide (inn n a b) = T) (h1 : w.cell? ⟨g1, 0, none⟩ = some (.int .i64 a)) (h2 : w.cell? ⟨g2, 0, none⟩ = some (.int .i64 b)) :
    Calls Tryd.prog 44 #[.int .i64 n, .pointer (some ⟨g1, 0, none⟩), .pointer (some ⟨g2, 0, none⟩)] w fun e w' => e = .returned (.bool T) ∧ w' = w := by
  rw [← hT]; exact asks_any w g1 g2 a b n h1 h2
theorem asks_Q (W : World) (g1 g2 : Nat) (a b n : Int) (T : Bool) (hT : decide (inn n a b) = T) (h1 : W.cell? ⟨g1, 0, none⟩ = some (.int .i64 a)) (h2 : W.cell? ⟨g2, 0, none⟩ = some (.int .i64 b)) (q : Nat) :
    Calls Tryd.prog 44 #[.int .i64 n, .pointer (some ⟨g1, 0, none⟩), .pointer (some ⟨g2, 0, none⟩)] (W.drewN q) fun e w' => e = .returned (.bool T) ∧ ∃ m, w' = W.drewN m :=
  (asks_T (W.drewN q) g1 g2 a b n T hT h1 h2).mono fun _ _ h => ⟨h.1, q, h.2⟩
end Go.Proofs.YtkfdbibgjoaefaaDoor
/-
  The document's 'one' and the program's 'fits' as plain data.
-/
namespace Go.Proofs.YtkfdbibgjoaefaaDoor
open Go.RowKit

theorem plI7 (s b : Int) (h : 0 < plI 7 s b) : 1 ≤ b ∧ b ≤ 8 := by
  unfold plI at h
  split at h
  · simp only [show ¬ (7 : Int) = 3 from by decide, show ¬ (7 : Int) = 4 from by decide, if_false, if_true] at h
    split at h
    next hb => exact hb
    · omega
  · omega
theorem vP_inj {k s a b c r m k' s' a' b' c' r' m' : Int} : vP k s a b c r m = vP k' s' a' b' c' r' m' ↔ k = k' ∧ s = s' ∧ a = a' ∧ b = b' ∧ c = c' ∧ r = r' ∧ m = m' := by unfold vP; simp
theorem kinds (k : Nat) : k = 1 ∨ k = 2 ∨ k = 3 ∨ k = 4 ∨ k = 5 ∨ k = 6 ∨ k = 7 ∨ k = 8 ∨ k = 9 ∨ (¬ (k : Int) = 1 ∧ ¬ (k : Int) = 2 ∧ ¬ (k : Int) = 3 ∧ ¬ (k : Int) = 4 ∧ ¬ (k : Int) = 5 ∧ ¬ (k : Int) = 6 ∧ ¬ (k : Int) = 7 ∧ ¬ (k : Int) = 8 ∧ ¬ (k : Int) = 9) := by omega
theorem ret_bool {a b : Bool} (h : a = b) : Ending.returned (.bool a) = .returned (.bool b) := by rw [h]
theorem oneP_1 (s a b c r m i : Int) : Pt.one ⟨1, s, a, b, c, r, m⟩ i ↔ (s = 0 ∧ a = 0 ∧ b = 0 ∧ r = 0 ∧ m = 0) ∧ -2047 ≤ c ∧ c ≤ 2047 := by
  have hp : Pt.places ⟨1, s, a, b, c, r, m⟩ = plI 1 s b := places_plI _
  unfold Pt.one Pt.fields Pt.fit inn
  rw [hp]
  simp
  omega
theorem oneP_2 (s a b c r m i : Int) : Pt.one ⟨2, s, a, b, c, r, m⟩ i ↔ (a = 0 ∧ b = 0 ∧ c = 0 ∧ r = 0) ∧ 0 < plI 2 s b ∧ 1 ≤ m ∧ m ≤ 1023 := by
  have hp : Pt.places ⟨2, s, a, b, c, r, m⟩ = plI 2 s b := places_plI _
  unfold Pt.one Pt.fields Pt.fit inn
  rw [hp]
  simp
  omega
theorem oneP_3 (s a b c r m i : Int) : Pt.one ⟨3, s, a, b, c, r, m⟩ i ↔ (a = 0 ∧ b = 0 ∧ c = 0 ∧ r = 0 ∧ m = 0) ∧ 0 < plI 3 s b := by
  have hp : Pt.places ⟨3, s, a, b, c, r, m⟩ = plI 3 s b := places_plI _
  unfold Pt.one Pt.fields Pt.fit inn
  rw [hp]
  simp
  omega
theorem oneP_4 (s a b c r m i : Int) : Pt.one ⟨4, s, a, b, c, r, m⟩ i ↔ (a = 0 ∧ b = 0 ∧ c = 0 ∧ r = 0 ∧ m = 0) ∧ 0 < plI 4 s b := by
  have hp : Pt.places ⟨4, s, a, b, c, r, m⟩ = plI 4 s b := places_plI _
  unfold Pt.one Pt.fields Pt.fit inn
  rw [hp]
  simp
  omega
theorem oneP_5 (s a b c r m i : Int) : Pt.one ⟨5, s, a, b, c, r, m⟩ i ↔ (s = 0 ∧ r = 0 ∧ m = 0) ∧ (0 ≤ a ∧ a ≤ i - 1) ∧ (0 ≤ b ∧ b ≤ i - 1) ∧ 0 ≤ c ∧ c ≤ 256 := by
  have hp : Pt.places ⟨5, s, a, b, c, r, m⟩ = plI 5 s b := places_plI _
  unfold Pt.one Pt.fields Pt.fit inn
  rw [hp]
  simp
  omega
theorem oneP_6 (s a b c r m i : Int) : Pt.one ⟨6, s, a, b, c, r, m⟩ i ↔ (c = 0 ∧ m = 0) ∧ 0 < plI 6 s b ∧ (0 ≤ a ∧ a ≤ i - 1) ∧ (0 ≤ b ∧ b ≤ i - 1) ∧ 1 ≤ r ∧ r ≤ 64 := by
  have hp : Pt.places ⟨6, s, a, b, c, r, m⟩ = plI 6 s b := places_plI _
  unfold Pt.one Pt.fields Pt.fit inn
  rw [hp]
  simp
  omega
theorem oneP_7 (s a b c r m i : Int) : Pt.one ⟨7, s, a, b, c, r, m⟩ i ↔ (c = 0 ∧ m = 0) ∧ 0 < plI 7 s b ∧ (0 ≤ a ∧ a ≤ i - 1) ∧ a + b ≤ i ∧ 1 ≤ r ∧ r ≤ 64 := by
  have hp : Pt.places ⟨7, s, a, b, c, r, m⟩ = plI 7 s b := places_plI _
  unfold Pt.one Pt.fields Pt.fit inn
  rw [hp]
  simp
  omega
theorem oneP_8 (s a b c r m i : Int) : Pt.one ⟨8, s, a, b, c, r, m⟩ i ↔ (b = 0 ∧ c = 0 ∧ r = 0 ∧ m = 0) ∧ 0 < plI 8 s b ∧ 0 ≤ a ∧ a ≤ i - 1 := by
  have hp : Pt.places ⟨8, s, a, b, c, r, m⟩ = plI 8 s b := places_plI _
  unfold Pt.one Pt.fields Pt.fit inn
  rw [hp]
  simp
  omega
theorem oneP_9 (s a b c r m i : Int) : Pt.one ⟨9, s, a, b, c, r, m⟩ i ↔ (b = 0 ∧ c = 0 ∧ r = 0) ∧ 0 < plI 9 s b ∧ (0 ≤ a ∧ a ≤ i - 1) ∧ 1 ≤ m ∧ m ≤ 1023 := by
  have hp : Pt.places ⟨9, s, a, b, c, r, m⟩ = plI 9 s b := places_plI _
  unfold Pt.one Pt.fields Pt.fit inn
  rw [hp]
  simp
  omega
theorem oneP_x (k : Nat) (s a b c r m i : Int) (h1 : ¬ (k : Int) = 1) (h2 : ¬ (k : Int) = 2) (h3 : ¬ (k : Int) = 3) (h4 : ¬ (k : Int) = 4) (h5 : ¬ (k : Int) = 5) (h6 : ¬ (k : Int) = 6) (h7 : ¬ (k : Int) = 7) (h8 : ¬ (k : Int) = 8) (h9 : ¬ (k : Int) = 9) : ¬ Pt.one ⟨k, s, a, b, c, r, m⟩ i := by
  intro h
  have := one_kind _ _ h
  simp only at this
  omega
theorem plI_pos (k s b : Int) (hk : k = 2 ∨ k = 3 ∨ k = 4 ∨ k = 6 ∨ k = 8 ∨ k = 9) : 0 < plI k s b ↔ leastS k ≤ s ∧ s ≤ mostS k := by
  have h0 := pow2_pos s
  unfold plI
  by_cases h : inn s (leastS k) (mostS k)
  · rw [if_pos h]
    refine ⟨fun _ => h, fun _ => ?_⟩
    rcases hk with h | h | h | h | h | h <;> subst h <;> simp <;> omega
  · rw [if_neg h]
    exact ⟨fun x => absurd x (by omega), fun x => absurd x h⟩
theorem plI_pos7 (s b : Int) : 0 < plI 7 s b ↔ (0 ≤ s ∧ s ≤ 12) ∧ 1 ≤ b ∧ b ≤ 8 := by
  constructor
  · intro h
    refine ⟨?_, plI7 s b h⟩
    unfold plI at h
    split at h
    next hs => exact hs
    · omega
  · intro h
    have h0 := pow2_pos s
    unfold plI
    rw [if_pos (show inn s (leastS 7) (mostS 7) from h.1)]
    simp only [show ¬ (7 : Int) = 3 from by decide, show ¬ (7 : Int) = 4 from by decide, if_false, if_true]
    rw [if_pos (show inn b 1 8 from h.2)]
    exact Int.mul_pos (by omega) (by omega)
end Go.Proofs.YtkfdbibgjoaefaaDoor
