/-
  The examples hold: 'awake' is true.
-/
import Derived.Test.YtnanmdfbgoahjaaRgp
import Derived.Test.YtnanmdfbgoahjaaRgd
namespace Go.Proofs.Ytnanmdfbgoahjaa
open Go.RowKit

theorem IsP.later {w w' : World} {A : Option Addr} {n c : Nat} {L : List Pt} (h : IsP w w.heap.size A n c L) (b : Below w.heap.size w w') : IsP w' w'.heap.size A n c L := by
  have h' := h.below b
  refine ⟨h'.len, h'.cap, h'.max, fun h0 => ?_⟩
  obtain ⟨ad, e, hl, ha⟩ := h'.lies h0
  exact ⟨ad, e, Nat.lt_of_lt_of_le hl b.size, ha⟩
theorem isP_row {W : World} {g : Nat} {cs : Array Value} (L : List Pt) (hh : W.heap[g]? = some (.cells cs 41 (0, 0))) (hc : cs.toList = L.flatMap cellsP) (n : Nat) (hn : L.length = n) (hm : n ≤ 1000) : IsP W W.heap.size (some ⟨g, 0, none⟩) n n L := by
  refine ⟨hn, Nat.le_refl _, by unfold maxLen; omega, fun h0 => ⟨⟨g, 0, none⟩, rfl, ?_, fun i hi => ?_⟩⟩
  · show g < W.heap.size
    rcases Nat.lt_or_ge g W.heap.size with hlt | hge
    · exact hlt
    · rw [Array.getElem?_eq_none hge] at hh; cases hh
  · have q := fun (k : Nat) (hk : k < 7) => (row_cell hh (i * 7 + k)).trans ((show cs[i * 7 + k]? = (L.flatMap cellsP)[i * 7 + k]? by rw [← hc, Array.getElem?_toList]).trans ((flat7 L i k hi hk).trans (List.getElem?_eq_getElem (l := cellsP L[i]) (i := k) hk)))
    have e0 : (({ block := g, off := 0 } : Addr).add (i * 7)) = ⟨g, i * 7, none⟩ := by rw [Addr.add_lit, Nat.zero_add]
    rw [e0]
    exact ⟨q 0 (by omega), q 1 (by omega), q 2 (by omega), q 3 (by omega), q 4 (by omega), q 5 (by omega), q 6 (by omega)⟩
def pA : Pt := ⟨1, 0, 0, 0, 5, 0, 0⟩
def pB : Pt := ⟨5, 0, 0, 0, 0, 0, 0⟩
def pC : Pt := ⟨2, 8, 0, 0, 0, 0, 255⟩
def pD : Pt := ⟨7, 4, 0, 1, 0, 8, 0⟩
def pE : Pt := ⟨7, 4, 0, 2, 0, 8, 0⟩
theorem ex1 : rightP [pA] = 0 := by decide +kernel
theorem ex2 : rightP [pB] = 100 := by decide +kernel
theorem ex3 : rightP [pC, pD] = 0 := by decide +kernel
theorem ex4 : memP [pC, pD] = 272 := by decide +kernel
theorem ex5 : rightP [pC, pE] = 100 := by decide +kernel
theorem ex6 : rightP [] = 100 := by decide +kernel
theorem ex7 : plI 9 3 0 = 256 := by decide +kernel
/-- The copy, its second part's B turned. -/
theorem turned {W : World} {A : Option Addr} {c : Nat} {base : Nat} (ho : W.ownsRow base 41 7 (.slice A 2 c) 2 ([pC, pD].flatMap cellsP)) :
    ∃ g, A = some ⟨g, 0, none⟩ ∧ base ≤ g ∧ W.cell? ⟨g, 10, none⟩ = some (.int .i64 1) ∧ W.frozen? ⟨g, 10, none⟩ = false ∧ IsP (W.setCell ⟨g, 10, none⟩ (.int .i64 2)) (W.setCell ⟨g, 10, none⟩ (.int .i64 2)).heap.size A 2 c [pC, pE] := by
  have hP := own_isP (n := 2) (L := [pC, pD]) rfl ho
  obtain ⟨A', c', e, hI, _⟩ := hP
  cases e
  rcases ho.2 with ⟨_, h0⟩ | ⟨g, cap, cur, hv, hg, hh, hn, hm, _, _⟩
  · omega
  · cases hv
    obtain ⟨ad, p, e0, hl, hp, a0⟩ := hI.at 0 (by omega)
    obtain ⟨ad', p', e1, hl', hp', a1⟩ := hI.at 1 (by omega)
    cases e0
    cases e1
    obtain rfl : pC = p := by simpa using hp
    obtain rfl : pD = p' := by simpa using hp'
    have k0 : (({ block := g, off := 0 } : Addr).add (0 * 7)) = ⟨g, 0, none⟩ := rfl
    have k1 : (({ block := g, off := 0 } : Addr).add (1 * 7)) = ⟨g, 7, none⟩ := rfl
    rw [k0] at a0
    rw [k1] at a1
    have other : ∀ k, k ≠ 10 → ∀ v, W.cell? ⟨g, k, none⟩ = some v → (W.setCell ⟨g, 10, none⟩ (.int .i64 2)).cell? ⟨g, k, none⟩ = some v := by
      intro k hk v hv
      rw [World.cell?_setCell_other _ _ _ _ (fun e => hk (by injection e with _ e2 _; omega))]
      exact hv
    refine ⟨g, rfl, hg, a1.c3, by simp [World.frozen?, hh], ⟨rfl, hI.cap, hI.max, fun _ => ⟨⟨g, 0, none⟩, rfl, ?_, fun i hi => ?_⟩⟩⟩
    · show g < _
      have : (W.setCell ⟨g, 10, none⟩ (.int .i64 2)).heap.size = W.heap.size := by simp [World.setCell]
      rw [this]; exact hl
    · match i, hi with
      | 0, _ =>
        show At7 _ (Addr.add ⟨g, 0, none⟩ (0 * 7)) pC
        rw [k0]
        exact ⟨other 0 (by decide) _ a0.c0, other 1 (by decide) _ a0.c1, other 2 (by decide) _ a0.c2, other 3 (by decide) _ a0.c3, other 4 (by decide) _ a0.c4, other 5 (by decide) _ a0.c5, other 6 (by decide) _ a0.c6⟩
      | 1, _ =>
        show At7 _ (Addr.add ⟨g, 0, none⟩ (1 * 7)) pE
        rw [k1]
        exact ⟨other 7 (by decide) _ a1.c0, other 8 (by decide) _ a1.c1, other 9 (by decide) _ a1.c2, World.cell?_setCell_same _ _ _ a1.c3, other 11 (by decide) _ a1.c4, other 12 (by decide) _ a1.c5, other 13 (by decide) _ a1.c6⟩
theorem bel_alloc {w w' : World} {o : Obj} (h : Below (w.alloc o).heap.size (w.alloc o) w') : Below w.heap.size w w' := ((Below.refl _ _).alloc (Nat.le_refl _) o).trans (h.mono (by simp))
theorem bel_trans {w a b : World} (h : Below w.heap.size w a) (k : Below a.heap.size a b) : Below w.heap.size w b := h.trans (k.mono h.size)
end Go.Proofs.Ytnanmdfbgoahjaa
