/-
  Lists of whole numbers of the call's own; the closure of Starts, to which each start is told.
-/
import Derived.Test.YtdlmcfknmdaabaaGtd
import Derived.Test.YtdlmcfknmdaabaaVdn
import Derived.Maps.OwnSet
import Derived.Maps.AppendAt
namespace Go.Proofs.Ytdlmcfknmdaabaa
open Go.RowKit Go.Maps
set_option linter.unusedVariables false
set_option linter.unusedSimpArgs false

/-- A whole number as the model has it. -/
def iv (x : Int) : Value := .int .i64 x
theorem Try.info3 : (Try.prog.info? 3).map (fun i => (i.zero, i.size, i.bytes)) = some (some (.int .i64 0), 1, 8) := by kernel_rfl
theorem below_set {B : Nat} {w w' : World} (h : Below B w w') (a : Addr) (u : Value) (ha : B ≤ a.block) : Below B w (w'.setCell a u) := by
  refine ⟨h.os, h.tape, h.output, ?_, fun b hb => ?_⟩
  · have e : (w'.setCell a u).heap.size = w'.heap.size := by simp [World.setCell]
    rw [e]
    exact h.size
  · rw [RowKit.Below.heap_setCell _ _ _ _ (by omega)]
    exact h.block b hb
/-- What the closure of Starts keeps: block g has the list's slice, its numbers lie in blocks behind g. -/
structure Lst (w : World) (g : Nat) (X : List Int) : Prop where
  row : ∃ v, w.heap[g]? = some (.cells #[v] 27 (0, 0)) ∧ w.ownsRow (g + 1) 3 1 v X.length (X.map iv)
theorem Lst.below {w w' : World} {g : Nat} {X : List Int} (h : Lst w g X) (hb : Below w.heap.size w w') : Lst w' g X := by
  obtain ⟨v, hg, ho⟩ := h.row
  refine ⟨v, (hb.block g (lt_of_heap hg)).trans hg, ho.1, ?_⟩
  rcases ho.2 with h2 | ⟨g2, cap, cur, rfl, hge, hh, r⟩
  · exact .inl h2
  · exact .inr ⟨g2, cap, cur, rfl, hge, (hb.block g2 (lt_of_heap hh)).trans hh, r⟩
theorem keep_row2 {w w2 : World} {g : Nat} {row : Option Nat} {X o1 o2 : Obj} (hgs : g < w.heap.size) (hg : w.heap[g]? = some X) (h : ((w.alloc o1).alloc o2).grownBy w2 row) (hne : row ≠ some g) : w2.heap[g]? = some X := by
  have h1 := heap_alloc_old w o1 hgs
  have h2 := heap_alloc_old (w.alloc o1) o2 (r := g) (by simp; omega)
  exact (h.block g (by simp; omega) (fun e => hne e.symm)).trans (h2.trans (h1.trans hg))
theorem own_setCell {w : World} {base n : Nat} {v : Value} {xs : List Value} (h : w.ownsRow base 3 1 v n xs) (a : Addr) (u : Value) (ha : a.block < base) : (w.setCell a u).ownsRow base 3 1 v n xs := by
  refine ⟨h.1, ?_⟩
  rcases h.2 with h2 | ⟨g2, cap, cur, rfl, hge, hh, r⟩
  · exact .inl h2
  · exact .inr ⟨g2, cap, cur, rfl, hge, by rw [RowKit.Below.heap_setCell _ _ _ _ (by omega)]; exact hh, r⟩
/-- A slice of whole numbers of the call's own is one. -/
theorem own_ints {w : World} {base n : Nat} {v : Value} {xs : List Value} (h : w.ownsRow base 3 1 v n xs) : ∃ A c, v = .slice A n c := by
  rcases h.2 with ⟨rfl, rfl⟩ | ⟨g, cap, cur, rfl, _⟩
  · exact ⟨none, 0, rfl⟩
  · exact ⟨_, _, rfl⟩
set_option maxRecDepth 10000 in
set_option maxHeartbeats 2000000 in
theorem tell_starts (g : Nat) (X : List Int) (w : World) (k o d s n : Int) (h : Lst w g X) (hl : X.length ≤ 5000) :
    Calls Try.prog 19 #[.int .i64 k, vI o d s n, .pointer (some ⟨g, 0, none⟩)] w fun e w' => e = .returned (.tuple #[]) ∧ Lst w' g (X ++ [k]) ∧ Below g w w' := by
  obtain ⟨i0, hi, hz0, hz1, hz2⟩ := info_parts Try.info3
  obtain ⟨v, hg, hrow⟩ := h.row
  have hgs := lt_of_heap hg
  have c0 : w.cell? ⟨g, 0, none⟩ = some v := row_cell hg 0
  have f0 : w.frozen? ⟨g, 0, none⟩ = false := row_free hg 0
  unfold vI
  clear h
  go_enter Try.func19, Try.ntmps19
  go_wp2_with (first
    | (at_builtin; refine wpList_append_own _ rfl _ _ 27 rfl (g + 1) 3 i0 (.int .i64 0) 1 8 Try.underlying27 hi hz0 hz1 hz2 rfl (by decide) _ _ _ rfl ((hrow.alloc _).alloc _) ⟨w.heap.size + 1, 0, none⟩ 1 1 [.int .i64 k] rfl rfl (by have := cell_one_new (w.alloc (.cells #[.int .u8 o, .int .i64 d, .int .i64 s, .int .i64 n] 37)) (.int .i64 k) 3; simpa using this) (ints_oneCell .i64 [k]) (by unfold maxLen; omega) (by omega) (by simp; omega) ?_; intro v' w2 hown' hgrow2 hnil2; obtain ⟨A', c', rfl⟩ := own_ints hown'; have hg2 := keep_row2 hgs hg hgrow2 (fun e => absurd (hrow.lt g e).1 (by omega)); have f2 := row_free hg2 0; have c2 : w2.cell? ⟨g, 0, none⟩ = some v := row_cell hg2 0; clear hnil2)
    | go_in)
  refine bodyPost_end (results_none (by kernel_rfl : Try.f19.results = #[]) _ _ _) rfl ⟨rfl, ⟨_, row_set hg2 0 _, ?_⟩, ?_⟩
  · have := own_setCell hown' ⟨g, 0, none⟩ (.slice A' (X.length + 1) c') (Nat.lt_succ_self g)
    simpa [iv] using this
  · refine below_set (Below.grown ?_ hgrow2 ?_ fun q hq => ?_) _ _ (Nat.le_refl g)
    · exact ((Below.refl g w).alloc (Nat.le_of_lt hgs) _).alloc (by simp; omega) _
    · simp; omega
    · have := (hrow.lt q hq).1
      omega
end Go.Proofs.Ytdlmcfknmdaabaa
