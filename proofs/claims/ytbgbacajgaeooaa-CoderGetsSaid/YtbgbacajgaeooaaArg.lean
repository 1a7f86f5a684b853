/-
  Arguments: a slice of bits with their chances; a slice of integers; the first bytes of one that came in.
-/
import Derived.Test.YtbgbacajgaeooaaBts
namespace Go.Proofs.Ytbgbacajgaeooaa
open Go.RowKit

/-- A slice of structs of two ints that came in. -/
def BitsL (w : World) (B : Nat) (a : Option Addr) (len cap : Nat) : Prop :=
  len ≤ cap ∧ cap ≤ maxLen ∧ ∀ i, i < len → ∃ ad x p, a = some ad ∧ ad.block < B ∧ w.cell? (ad.add (i * 2)) = some (.int .i64 x) ∧ w.cell? ⟨(ad.add (i * 2)).block, (ad.add (i * 2)).off + 1, none⟩ = some (.int .i64 p)
theorem BitsL.fn {w : World} {B : Nat} {a : Option Addr} {len cap : Nat} (h : BitsL w B a len cap) : ∃ bt pr, BitsAt w B a len bt pr := by
  have h2 : ∀ i, ∃ xp : Int × Int, i < len → ∃ ad, a = some ad ∧ ad.block < B ∧ w.cell? (ad.add (i * 2)) = some (.int .i64 xp.1) ∧ w.cell? ⟨(ad.add (i * 2)).block, (ad.add (i * 2)).off + 1, none⟩ = some (.int .i64 xp.2) := by
    intro i
    by_cases hi : i < len
    · obtain ⟨ad, x, p, h1, h2, h3, h4⟩ := h.2.2 i hi
      exact ⟨(x, p), fun _ => ⟨ad, h1, h2, h3, h4⟩⟩
    · exact ⟨(0, 0), fun hj => absurd hj hi⟩
  obtain ⟨f, hf⟩ := Classical.axiomOfChoice h2
  exact ⟨fun i => (f i).1, fun i => (f i).2, fun i hi => hf i hi⟩
/-- A slice of ints. -/
def IntsL (w : World) (B : Nat) (a : Option Addr) (len cap : Nat) : Prop :=
  len ≤ cap ∧ cap ≤ maxLen ∧ ∀ i, i < len → ∃ ad x, a = some ad ∧ ad.block < B ∧ w.cell? (ad.add i) = some (.int .i64 x)
theorem IntsL.below {w w' : World} {B : Nat} {a : Option Addr} {len cap : Nat} (h : IntsL w B a len cap) (b : Below B w w') : IntsL w' B a len cap := by
  refine ⟨h.1, h.2.1, fun i hi => ?_⟩
  obtain ⟨ad, x, e, h1, h2⟩ := h.2.2 i hi
  exact ⟨ad, x, e, h1, (b.cell (p := ad.add i) (by rw [block_of_add]; exact h1)).trans h2⟩
theorem row_caps {w : World} {a : Option Addr} {len cap : Nat} {zs : List Int} (h : IsRow w a len cap zs) : len ≤ cap ∧ cap ≤ maxLen := by
  rcases h with ⟨rfl, rfl, rfl, rfl⟩ | ⟨x, rfl, hl, hm, _⟩
  · exact ⟨Nat.le_refl _, Nat.zero_le _⟩
  · exact ⟨hl, hm⟩
theorem isBB_min {w : World} {a : Option Addr} {len cap : Nat} {zs : List Int} (h : IsRow w a len cap zs) (k : Nat) (hk : k ≤ 1000000 := by omega) : ∃ l, IsBB w w.heap.size a (min len k) cap l := by
  rcases h with ⟨rfl, rfl, rfl, rfl⟩ | ⟨x, rfl, hl, hx, hz, hc, hw⟩
  · rw [Nat.zero_min]
    exact ⟨[], isBB_nil w _⟩
  · exact isBB_of_row (zs := zs) (.inr ⟨x, rfl, by omega, hx, hz, hc, hw⟩) (by omega)
end Go.Proofs.Ytbgbacajgaeooaa
