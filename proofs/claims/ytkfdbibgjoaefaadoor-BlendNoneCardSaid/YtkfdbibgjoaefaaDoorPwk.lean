/-
  The examples hold: 'awake' is true.
-/
import Derived.Test.YtkfdbibgjoaefaaDoorRgp
namespace Go.Proofs.YtkfdbibgjoaefaaDoor
open Go.RowKit

theorem IsP.later {w w' : World} {A : Option Addr} {n c : Nat} {L : List Pt} (h : IsP w w.heap.size A n c L) (b : Below w.heap.size w w') : IsP w' w'.heap.size A n c L := by
  have h' := h.below b
  refine ⟨h'.len, h'.cap, h'.max, fun h0 => ?_⟩
  obtain ⟨ad, e, hl, ha⟩ := h'.lies h0
  exact ⟨ad, e, Nat.lt_of_lt_of_le hl b.size, ha⟩
theorem isP_row {W : World} {g : Nat} {cs : Array Value} (L : List Pt) (hh : W.heap[g]? = some (.cells cs 48 (0, 0))) (hc : cs.toList = L.flatMap cellsP) (n : Nat) (hn : L.length = n) (hm : n ≤ 1000) : IsP W W.heap.size (some ⟨g, 0, none⟩) n n L := by
  refine ⟨hn, Nat.le_refl _, by unfold maxLen; omega, fun h0 => ⟨⟨g, 0, none⟩, rfl, ?_, fun i hi => ?_⟩⟩
  · show g < W.heap.size
    rcases Nat.lt_or_ge g W.heap.size with hlt | hge
    · exact hlt
    · rw [Array.getElem?_eq_none hge] at hh; cases hh
  · have q := fun (k : Nat) (hk : k < 7) => (row_cell hh (i * 7 + k)).trans ((show cs[i * 7 + k]? = (L.flatMap cellsP)[i * 7 + k]? by rw [← hc, Array.getElem?_toList]).trans ((flat7 L i k hi hk).trans (List.getElem?_eq_getElem (l := cellsP L[i]) (i := k) hk)))
    have e0 : (({ block := g, off := 0 } : Addr).add (i * 7)) = ⟨g, i * 7, none⟩ := by rw [Addr.add_lit, Nat.zero_add]
    rw [e0]
    exact ⟨q 0 (by omega), q 1 (by omega), q 2 (by omega), q 3 (by omega), q 4 (by omega), q 5 (by omega), q 6 (by omega)⟩
theorem bel_alloc {w w' : World} {o : Obj} (h : Below (w.alloc o).heap.size (w.alloc o) w') : Below w.heap.size w w' := ((Below.refl _ _).alloc (Nat.le_refl _) o).trans (h.mono (by simp))
theorem bel_trans {w a b : World} (h : Below w.heap.size w a) (k : Below a.heap.size a b) : Below w.heap.size w b := h.trans (k.mono h.size)
end Go.Proofs.YtkfdbibgjoaefaaDoor
