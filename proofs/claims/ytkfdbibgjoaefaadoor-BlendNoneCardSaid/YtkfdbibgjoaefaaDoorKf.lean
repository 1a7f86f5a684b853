/-
  What a right part's numbers are, kind by kind.
-/
import Derived.Test.YtkfdbibgjoaefaaDoorUm
namespace Go.Proofs.YtkfdbibgjoaefaaDoor

theorem size_of {p : Pt} (h : 0 < p.places) : leastP p.kind ≤ p.size ∧ p.size ≤ mostP p.kind := by
  unfold Pt.places at h
  by_cases e : leastP p.kind ≤ p.size ∧ p.size ≤ mostP p.kind
  · exact e
  · rw [if_neg e] at h; omega
theorem one_cst {p : Pt} {i : Int} (h : p.one i) (k : p.kind = 1) : -2047 ≤ p.c ∧ p.c ≤ 2047 := by
  have h := h.2; unfold Pt.fit at h; rw [if_pos k] at h; exact h
theorem one_cm {p : Pt} {i : Int} (h : p.one i) (k : p.kind = 2) : 0 ≤ p.size ∧ p.size ≤ 16 ∧ 1 ≤ p.limit ∧ p.limit ≤ 1023 := by
  have h := h.2; unfold Pt.fit at h; rw [if_neg (by omega), if_pos k] at h
  have := size_of h.1
  rw [k] at this
  exact ⟨this.1, this.2, h.2⟩
theorem one_icm {p : Pt} {i : Int} (h : p.one i) (k : p.kind = 3) : 0 ≤ p.size ∧ p.size ≤ 16 := by
  have h := h.2; unfold Pt.fit at h; rw [if_neg (by omega), if_neg (by omega), if_pos (by omega)] at h
  have := size_of h
  rw [k] at this
  exact this
theorem one_mch {p : Pt} {i : Int} (h : p.one i) (k : p.kind = 4) : 4 ≤ p.size ∧ p.size ≤ 16 := by
  have h := h.2; unfold Pt.fit at h; rw [if_neg (by omega), if_neg (by omega), if_pos (by omega)] at h
  have := size_of h
  rw [k] at this
  exact this
theorem one_avg {p : Pt} {i : Int} (h : p.one i) (k : p.kind = 5) : (0 ≤ p.a ∧ p.a < i) ∧ (0 ≤ p.b ∧ p.b < i) ∧ 0 ≤ p.c ∧ p.c ≤ 256 := by
  have h := h.2; unfold Pt.fit inn at h; rw [if_neg (by omega), if_neg (by omega), if_neg (by omega), if_pos k] at h
  omega
theorem one_mix2 {p : Pt} {i : Int} (h : p.one i) (k : p.kind = 6) : (0 ≤ p.size ∧ p.size ≤ 16) ∧ (0 ≤ p.a ∧ p.a < i) ∧ (0 ≤ p.b ∧ p.b < i) ∧ 1 ≤ p.rate ∧ p.rate ≤ 64 := by
  have h := h.2; unfold Pt.fit inn at h; rw [if_neg (by omega), if_neg (by omega), if_neg (by omega), if_neg (by omega), if_pos k] at h
  have := size_of h.1
  rw [k] at this
  exact ⟨this, by omega, by omega, h.2.2.2⟩
theorem one_mix {p : Pt} {i : Int} (h : p.one i) (k : p.kind = 7) : (0 ≤ p.size ∧ p.size ≤ 12) ∧ (1 ≤ p.b ∧ p.b ≤ 8) ∧ 0 ≤ p.a ∧ p.a + p.b ≤ i ∧ 1 ≤ p.rate ∧ p.rate ≤ 64 := by
  have h := h.2; unfold Pt.fit inn at h; rw [if_neg (by omega), if_neg (by omega), if_neg (by omega), if_neg (by omega), if_neg (by omega), if_pos k] at h
  have hs := size_of h.1
  have hb : 1 ≤ p.b ∧ p.b ≤ 8 := by
    have h0 := h.1
    unfold Pt.places at h0
    rw [if_pos hs, if_neg (by omega), if_neg (by omega), if_pos k] at h0
    by_cases e : 1 ≤ p.b ∧ p.b ≤ 8
    · exact e
    · rw [if_neg e] at h0; omega
  rw [k] at hs
  exact ⟨hs, hb, h.2.1.1, h.2.2⟩
theorem one_isse {p : Pt} {i : Int} (h : p.one i) (k : p.kind = 8) : (0 ≤ p.size ∧ p.size ≤ 16) ∧ 0 ≤ p.a ∧ p.a < i := by
  have h := h.2; unfold Pt.fit inn at h; rw [if_neg (by omega), if_neg (by omega), if_neg (by omega), if_neg (by omega), if_neg (by omega), if_neg (by omega), if_pos k] at h
  have := size_of h.1
  rw [k] at this
  exact ⟨this, by omega⟩
theorem one_sse {p : Pt} {i : Int} (h : p.one i) (k : p.kind = 9) : (0 ≤ p.size ∧ p.size ≤ 10) ∧ (0 ≤ p.a ∧ p.a < i) ∧ 1 ≤ p.limit ∧ p.limit ≤ 1023 := by
  have h := h.2; unfold Pt.fit inn at h; rw [if_neg (by omega), if_neg (by omega), if_neg (by omega), if_neg (by omega), if_neg (by omega), if_neg (by omega), if_neg (by omega), if_pos k] at h
  have := size_of h.1
  rw [k] at this
  exact ⟨this, by omega, h.2.2⟩
theorem one_kinds {p : Pt} {i : Int} (h : p.one i) : 1 ≤ p.kind ∧ p.kind ≤ 9 := by
  have h := h.2; unfold Pt.fit at h
  by_cases e : 1 ≤ p.kind ∧ p.kind ≤ 9
  · exact e
  · rw [if_neg (by omega), if_neg (by omega), if_neg (by omega), if_neg (by omega), if_neg (by omega), if_neg (by omega), if_neg (by omega), if_neg (by omega)] at h
    exact h.elim
end Go.Proofs.YtkfdbibgjoaefaaDoor
