/-
  The document's Get, class by class.
-/
import Derived.Test.YtdlmcfknmdaabaaRfs
namespace Go.Proofs.Ytdlmcfknmdaabaa
open Go.RowKit
set_option linter.unusedVariables false
set_option linter.unusedSimpArgs false

theorem Gi.setD {w W : World} {h : Nat} {o d s n : Int} (g : Gi w W h o d s n) (z : Int) : Gi w (W.setCell ⟨h, 1, none⟩ (.int .i64 z)) h o z s n :=
  ⟨⟨by rw [set_block (by have := g.lt; omega)]; exact g.ra, set_bel g.bel _ _ _ (by have := g.lt; omega)⟩, row_set g.rh 1 _, g.lt⟩
theorem gi_drew {w W : World} {h : Nat} {o d s n : Int} (g : Gi w W h o d s n) : Gi w W.drew h o d s n := ⟨⟨g.ra, g.bel.drew⟩, g.rh, g.lt⟩
/-- Bytes behind a place. -/
theorem byte_at {w : World} {A : Option Addr} {n c : Nat} {l : List UInt8} (h : IsBB w w.heap.size A n c l) (j : Nat) (hj : j < n) : ∃ (ad : Addr) (x : Nat), A = some ad ∧ gX l j = (x : Int) ∧ x < 256 ∧ ∀ W, Below w.heap.size w W → W.cell? (ad.add j) = some (.int .u8 (x : Nat)) := by
  have hlen := h.len
  obtain ⟨ad, e, hc⟩ := h.lies (by omega)
  have ck := hc j (by omega)
  have hlow := h.low (by omega) ad e
  have hx := gX_of (List.getElem?_eq_getElem (show j < l.length by omega))
  refine ⟨ad, (l[j]'(by omega)).toNat, e, hx, (l[j]'(by omega)).toNat_lt, fun W b => ?_⟩
  exact (b.cell (p := ad.add j) (by rw [block_of_add]; exact hlow)).trans ck
end Go.Proofs.Ytdlmcfknmdaabaa
