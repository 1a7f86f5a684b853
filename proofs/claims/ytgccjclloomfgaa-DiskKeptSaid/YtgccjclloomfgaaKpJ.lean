/-
  DiskKept: the crash, with a junk of any length.
-/
import Derived.Test.YtgccjclloomfgaaKpS
import Derived.Test.YtgccjclloomfgaaCrsJ
namespace Go.Proofs.Ytgccjclloomfgaa
open Go.RowKit

theorem KpAt.crashJ {w q : World} {g : Nat} {vn vo : Value} {d : Dk} {N O : List UInt8} (h : KpAt w q g vn vo d N O) (k : Int) (A : Option Addr) (n c : Nat) (l : List UInt8) (hi : IsJB w w.heap.size A n c l) (hk : k ≤ 9223372036854775807) : Calls Try.prog 20 #[.pointer (some ⟨g, 0, none⟩), .agg #[.int .i64 k, .slice A n c]] q fun r q' => r = .returned (.int .i64 0) ∧ KpAt w q' g vn vo (d.crash k l) N O := by
  obtain ⟨⟨S, F, L, hd, h1, h2⟩, nw, od, ap, bel⟩ := h
  refine (Crash_anyJ k A n c l hd ((hi.below bel).out bel.size (fun i hi => (hd.lt i hi).1)) hk).mono ?_
  rintro r q' ⟨rfl, F', S', hd', s⟩
  exact ⟨rfl, KpAt.stp h1 h2 nw od ap bel (fun i hi => (hd.lt i hi).1) hd' s⟩
/-- A slice of bytes that came in, of any length. -/
theorem isJB_of_row {w : World} {a : Option Addr} {len cap : Nat} {zs : List Int} (h : IsRow w a len cap zs) : ∃ l, IsJB w w.heap.size a len cap l := by
  rcases h with ⟨rfl, rfl, rfl, rfl⟩ | ⟨x, rfl, hl, hm, hz, hc, hw⟩
  · exact ⟨[], ⟨rfl, Nat.le_refl _, Nat.zero_le _, fun h => absurd h (by simp)⟩, fun h => absurd h (by simp)⟩
  · refine ⟨(zs.take len).map (fun z => UInt8.ofNat z.toNat), ⟨by simp; omega, hl, hm, fun _ => ⟨x, rfl, fun j hj => ?_⟩⟩, fun hp ad e => ?_⟩
    · have hj2 : j < zs.length := by simp at hj; omega
      rw [hc j hj2]
      have hb := wf_u8 (hw zs[j] (List.getElem_mem hj2))
      simp [List.getD, hj2]
      omega
    · cases e
      have hp2 : 0 < zs.length := by simp at hp; omega
      have := lt_of_cell (hc 0 hp2)
      rw [block_of_add] at this
      exact this
end Go.Proofs.Ytgccjclloomfgaa
