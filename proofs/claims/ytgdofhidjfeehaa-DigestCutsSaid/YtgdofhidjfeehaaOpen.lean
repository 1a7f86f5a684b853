/-
  A slice of slices of bytes that came in, as DigestCuts' walk asks it.
-/
import Derived.Test.YtgdofhidjfeehaaCutsN
import Derived.Deep.Matrix
namespace Go.Proofs.Ytgdofhidjfeehaa
open Go.RowKit

theorem exists_list {α : Type} {p : Nat → α → Prop} : ∀ n : Nat, (∀ i, i < n → ∃ t, p i t) → ∃ Ts : List α, Ts.length = n ∧ ∀ i (h : i < Ts.length), p i Ts[i]
  | 0, _ => ⟨[], rfl, fun i h => absurd h (by simp)⟩
  | n + 1, h => by
    obtain ⟨Ts, hl, ht⟩ := exists_list n (fun i hi => h i (by omega))
    obtain ⟨t, hp⟩ := h n (by omega)
    refine ⟨Ts ++ [t], by simp [hl], fun i hi => ?_⟩
    by_cases e : i < Ts.length
    · rw [List.getElem_append_left e]; exact ht i e
    · have : i = n := by simp at hi; omega
      subst this
      rw [List.getElem_append_right (by omega)]
      simpa [hl] using hp
theorem cells25 : Try.prog.cellsOf 25 = 1 := by kernel_rfl
section
variable {H : Type} {enc : TypeId × Value → H} {w : World} {held : Bool}
theorem open_parts {fuel len cap : Nat} {a : Option Addr} {x : DataW H × List MemPlace} (h : DataW.trod enc Try.prog w 0 (fun _ => true) held fuel 44 [.slice a len cap] = some x) : ∃ Ls, Parts w w.heap.size a len cap Ls := by
  rcases Go.Deep.open_int_rows Try.underlying44 Try.underlying25 Try.underlying5 cells25 cells5 h with ⟨hcs, _⟩ | ⟨ad, l, c, A, L, C, Z, hcs, _, hl, hm, _, hr⟩
  · simp at hcs
    obtain ⟨rfl, rfl, rfl⟩ := hcs
    exact ⟨[], rfl, Nat.le_refl _, Nat.zero_le _, fun i hi => absurd hi (by simp)⟩
  · simp at hcs
    obtain ⟨rfl, rfl, rfl⟩ := hcs
    have each : ∀ r, r < len → ∃ t : List UInt8, IsBB w w.heap.size (A r) (min (L r) 3000) (C r) t := by
      intro r hrl
      obtain ⟨h1, h2, h3, h4, h5, h6, h7⟩ := hr r (by omega)
      refine isBB_of_row (zs := Z r) ?_ (by omega)
      cases hA : A r with
      | none =>
        have hc0 := h6 hA
        exact .inl ⟨rfl, by omega, hc0, List.eq_nil_of_length_eq_zero (by omega)⟩
      | some a' =>
        obtain ⟨_, h8⟩ := h7 a' hA
        exact .inr ⟨a', rfl, by omega, h3, h4, fun i hi => h8 i (by omega), h5⟩
    obtain ⟨Ls, hLl, hL⟩ := exists_list len each
    refine ⟨Ls, hLl, hl, hm, fun i hi => ?_⟩
    obtain ⟨h1, h2, h3, h4, h5, h6, h7⟩ := hr i (by omega)
    have hlt := lt_of_cell h1
    rw [block_of_add] at hlt
    exact ⟨ad, A i, L i, C i, rfl, hlt, h1, h2, h3, hL i hi, fun e => by have := h6 e; exact ⟨by omega, this⟩⟩
end
end Go.Proofs.Ytgdofhidjfeehaa
