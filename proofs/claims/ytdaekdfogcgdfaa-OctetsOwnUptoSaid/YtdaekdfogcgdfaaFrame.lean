/-
  What the proofs of the statements share: a slice of bytes that came in, as the contracts ask it.
-/
import Derived.Test.YtdaekdfogcgdfaaAwake
import Derived.OpenShut
namespace Go.Proofs.Ytdaekdfogcgdfaa
open Go.RowKit

/-- A slice of bytes that came in: it is nil; or it leads to a row of cap cells, the numbers zs (the first len are its elements). -/
def IsRow (w : World) (a : Option Addr) (len cap : Nat) (zs : List Int) : Prop :=
  (a = none ∧ len = 0 ∧ cap = 0 ∧ zs = []) ∨
  ∃ x, a = some x ∧ len ≤ cap ∧ cap ≤ maxLen ∧ zs.length = cap ∧ (∀ i, i < zs.length → w.cell? (x.add i) = some (.int .u8 (zs.getD i 0))) ∧ ∀ n ∈ zs, (Lit.int .u8 n).wf = true

theorem lt_of_cell {w : World} {a : Addr} {v : Value} (h : w.cell? a = some v) : a.block < w.heap.size := by
  rcases Nat.lt_or_ge a.block w.heap.size with hlt | hge
  · exact hlt
  · unfold World.cell? at h
    rw [Array.getElem?_eq_none hge] at h
    simp at h
theorem wf_u8 {z : Int} (h : (Lit.int .u8 z).wf = true) : 0 ≤ z ∧ z ≤ 255 := by
  have := bounds_u8 h
  omega
theorem isBB_of_row {w : World} {a : Option Addr} {len cap : Nat} {zs : List Int} (h : IsRow w a len cap zs) (hs : len ≤ 140737488355328) : ∃ l, IsBB w w.heap.size a len cap l := by
  rcases h with ⟨rfl, rfl, rfl, rfl⟩ | ⟨x, rfl, hl, hm, hz, hc, hw⟩
  · exact ⟨[], isBB_nil w _⟩
  · refine ⟨(zs.take len).map (fun z => UInt8.ofNat z.toNat), ⟨⟨by simp; omega, hl, hm, hs, fun _ => ⟨x, rfl, fun j hj => ?_⟩⟩, fun hp ad e => ?_⟩⟩
    · have hj2 : j < zs.length := by simp at hj; omega
      rw [hc j hj2]
      have hb := wf_u8 (hw zs[j] (List.getElem_mem hj2))
      simp [List.getD, hj2]
      omega
    · cases e
      have hp2 : 0 < zs.length := by simp at hp; omega
      have := lt_of_cell (hc 0 hp2)
      rw [block_of_add] at this
      exact this
theorem u64_nat {z : Int} (h : (Lit.int .u64 z).wf = true) : ∃ V : Nat, z = (V : Int) ∧ V < 18446744073709551616 := by
  have := bounds_u64 h
  exact ⟨z.toNat, by omega, by omega⟩
end Go.Proofs.Ytdaekdfogcgdfaa
