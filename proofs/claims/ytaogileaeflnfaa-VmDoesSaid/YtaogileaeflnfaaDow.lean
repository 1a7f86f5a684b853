/-
  The contract of Do.
-/
import Derived.Test.YtaogileaeflnfaaDoy
import Derived.Test.YtaogileaeflnfaaSmm
import Derived.Test.YtaogileaeflnfaaMp
import Derived.Test.YtaogileaeflnfaaRgt
set_option linter.unusedVariables false
set_option linter.unusedSimpArgs false
namespace Go.Proofs.Ytaogileaeflnfaa
open Go.RowKit

theorem lay_of (L : List Value) (h : L.length = 263) (h1 : L.toArray.all (·.oneCell') = true) : L.length = 263 ∧ (Try.prog.info? 30).map (·.size) = some L.toArray.size ∧ zL.toArray.size = L.toArray.size ∧ L.toArray.all (·.oneCell') = true :=
  ⟨h, size30 _ (by rw [List.size_toArray, h]), by rw [List.size_toArray, List.size_toArray, h]; exact mc_len _ _ _, h1⟩
/-- Do's three blocks: the instruction, the machine, what is returned. -/
structure Do3 (w W : World) (L : List Value) (o d s n : Int) : Prop where
  two : TwoM w W (w.heap.size + 1) L zL
  box : W.heap[w.heap.size]? = some (.cells #[.int .u8 o, .int .i64 d, .int .i64 s, .int .i64 n] 24 (0, 0))
section
variable {w W V : World} {L L' : List Value} {o d s n : Int}
theorem Do3.start (w : World) (L : List Value) (o d s n : Int) : Do3 w (((w.alloc (.cells #[.int .u8 o, .int .i64 d, .int .i64 s, .int .i64 n] 24)).alloc (.cells L.toArray 30)).alloc (.cells zL.toArray 30)) L o d s n := by
  have hz : (w.alloc (.cells #[.int .u8 o, .int .i64 d, .int .i64 s, .int .i64 n] 24)).heap.size = w.heap.size + 1 := by simp
  have h0 := heap_alloc_new w (.cells #[.int .u8 o, .int .i64 d, .int .i64 s, .int .i64 n] 24)
  have h1 := TwoM.start2 (w.alloc (.cells #[.int .u8 o, .int .i64 d, .int .i64 s, .int .i64 n] 24)) L zL
  rw [hz] at h1
  exact ⟨⟨h1.one, h1.two, by omega, (((Below.refl _ w).alloc (Nat.le_refl _) _)).trans (h1.bel.mono (by rw [hz]; omega))⟩, (h1.bel.block _ (by rw [hz]; omega)).trans h0⟩
theorem Do3.below (h : Do3 w W L o d s n) (b : Below W.heap.size W V) : Do3 w V L o d s n := ⟨h.two.below b, (b.block _ (lt_of_heap h.box)).trans h.box⟩
theorem Do3.cells (h : Do3 w W L o d s n) : W.cell? ⟨w.heap.size, 0, none⟩ = some (.int .u8 o) ∧ W.cell? ⟨w.heap.size, 1, none⟩ = some (.int .i64 d) ∧ W.cell? ⟨w.heap.size, 2, none⟩ = some (.int .i64 s) ∧ W.cell? ⟨w.heap.size, 3, none⟩ = some (.int .i64 n) :=
  ⟨row_cell h.box 0, row_cell h.box 1, row_cell h.box 2, row_cell h.box 3⟩
theorem setRow_own {W : World} {g B e n : Nat} {L L' : List Value} {v : Value} {xs : List Value} (hg : W.heap[g]? = some (.cells L.toArray 30 (0, 0))) (he : (30 : Nat) ≠ e) (ho : W.ownsRow B e 1 v n xs) : (W.setRow g L'.toArray).ownsRow B e 1 v n xs := by
  refine ⟨ho.1, ?_⟩
  rcases ho.2 with h2 | ⟨k, cap, cur, rfl, hk, hh, r⟩
  · exact .inl h2
  · exact .inr ⟨k, cap, cur, rfl, hk, by rw [setRow_other _ _ _ _ (fun e2 => by subst e2; exact own_ng (w := W) (base := B) (E := e) (g := k) ho hg he rfl)]; exact hh, r⟩
theorem Do3.row (h : Do3 w W L o d s n) (L' : List Value) : Do3 w (W.setRow (w.heap.size + 1) L'.toArray) L' o d s n := by
  refine ⟨⟨setRow_heap _ _ _ _ _ _ h.two.one, ?_, by omega, ?_⟩, ?_⟩
  · rw [setRow_other _ _ _ _ (by omega)]; exact h.two.two
  · refine ⟨h.two.bel.os, h.two.bel.tape, h.two.bel.output, by rw [size_setRow]; exact h.two.bel.size, fun i hi => ?_⟩
    rw [setRow_other _ _ _ _ (by omega)]
    exact h.two.bel.block i hi
  · rw [setRow_other _ _ _ _ (by omega)]; exact h.box
end
/-- What Do tells. -/
def doneM (o d s n : Int) (x : Mn) : Mn := if (1 ≤ o ∧ o ≤ 25) ∧ okI o d s n ∧ x.ok then doM o d s n x else x
def DoPost (w : World) (y : Mn) (nH nM : Nat) (e : Ending) (w' : World) : Prop := ∃ BH dH BM dM, e = .returned (vM y (.slice BH nH dH) (.slice BM nM dM)) ∧ w'.ownsRow w.heap.size 25 1 (.slice BH nH dH) nH (y.h.map U.bv) ∧ w'.ownsRow w.heap.size 5 1 (.slice BM nM dM) nM (y.m.map bv) ∧ Below w.heap.size w w'
/-- The end: the machine is returned. -/
theorem do_end {w W : World} {x : Mn} {BH BM : Option Addr} {nH dH nM dM : Nat} {o d s n : Int} (h : Do3 w W (mcL x (.slice BH nH dH) (.slice BM nM dM)) o d s n) (o1 : W.ownsRow w.heap.size 25 1 (.slice BH nH dH) nH (x.h.map U.bv)) (o2 : W.ownsRow w.heap.size 5 1 (.slice BM nM dM) nM (x.m.map bv)) (L : List Value) (hL : mcL x (.slice BH nH dH) (.slice BM nM dM) = L) :
    W.heap[w.heap.size + 1]? = some (.cells L.toArray 30 (0, 0)) ∧ (Try.prog.info? 30).map (·.size) = some L.toArray.size ∧ W.heap[w.heap.size + 1 + 1]? = some (.cells zL.toArray 30 (0, 0)) ∧ zL.toArray.size = L.toArray.size ∧ L.toArray.all (·.oneCell') = true ∧
    (W.setRow (w.heap.size + 1 + 1) L.toArray).heap[w.heap.size + 1 + 1]? = some (.cells L.toArray 30 (0, 0)) ∧ DoPost w x nH nM (.returned (.agg L.toArray)) (W.setRow (w.heap.size + 1 + 1) L.toArray) := by
  subst hL
  have hd := h.two.done (mcL x (.slice BH nH dH) (.slice BM nM dM))
  exact ⟨h.two.one, size30 _ (mc_size _ _ _), h.two.two, by rw [mc_size]; exact mc_size _ _ _, mc_one _ _ _ _ _ _ _, hd.1, BH, dH, BM, dM, rfl, hd.2.2 _ _ _ _ (by decide) _ o1, hd.2.2 _ _ _ _ (by decide) _ o2, hd.2.1⟩
theorem apart_in {w W : World} {x : Mn} {AH AM : Option Addr} {nH cH nM cM : Nat} {o d s n : Int} {L : List Value} (hw : Do3 w W L o d s n) (h : U.IsBB w w.heap.size AH nH cH x.h) (hm : IsBB w w.heap.size AM nM cM x.m) (h1 : nH ≤ 5000) (h2 : nM ≤ 5000) :
    Calls Try.prog 21 #[vM x (.slice AH nH cH) (.slice AM nM cM)] W fun e w' => ∃ BH dH BM dM, e = .returned (vM x (.slice BH nH dH) (.slice BM nM dM)) ∧ Hid (Do3 w w' L o d s n) ∧ Hid (w'.ownsRow w.heap.size 25 1 (.slice BH nH dH) nH (x.h.map U.bv)) ∧ Hid (w'.ownsRow w.heap.size 5 1 (.slice BM nM dM) nM (x.m.map bv)) := by
  refine (apart_any W x AH AM nH cH nM cM (h.on hw.two.bel) (hm.on hw.two.bel) (by omega) (by omega)).mono ?_
  rintro e w' ⟨BH, dH, BM, dM, rfl, o1, o2, b⟩
  exact ⟨BH, dH, BM, dM, rfl, hw.below b, own_up o1 hw.two.bel.size, own_up o2 hw.two.bel.size⟩
theorem row_in {w W : World} {x : Mn} {BH BM : Option Addr} {nH dH nM dM : Nat} {o d s n : Int} {L L' : List Value} (hw : Do3 w W L o d s n) (o1 : W.ownsRow w.heap.size 25 1 (.slice BH nH dH) nH (x.h.map U.bv)) (o2 : W.ownsRow w.heap.size 5 1 (.slice BM nM dM) nM (x.m.map bv)) :
    Do3 w (W.setRow (w.heap.size + 1) L'.toArray) L' o d s n ∧ (W.setRow (w.heap.size + 1) L'.toArray).ownsRow w.heap.size 25 1 (.slice BH nH dH) nH (x.h.map U.bv) ∧ (W.setRow (w.heap.size + 1) L'.toArray).ownsRow w.heap.size 5 1 (.slice BM nM dM) nM (x.m.map bv) :=
  ⟨hw.row L', setRow_own hw.two.one (by decide) o1, setRow_own hw.two.one (by decide) o2⟩
theorem mr_in {w W : World} {x : Mn} {BH BM : Option Addr} {nH dH nM dM : Nat} {o d s n : Int} (h : Do3 w W (mcL x (.slice BH nH dH) (.slice BM nM dM)) o d s n) (o1 : W.ownsRow w.heap.size 25 1 (.slice BH nH dH) nH (x.h.map U.bv)) (o2 : W.ownsRow w.heap.size 5 1 (.slice BM nM dM) nM (x.m.map bv)) (h1 : nH ≤ 5000) (h2 : nM ≤ 5000) :
    MR W (w.heap.size + 1) x BH nH dH BM nM dM := ⟨h.two.one, U.own_isB2 o1 (by omega), own_isB2 o2 (by omega)⟩
theorem own_keep {w W V : World} {x : Mn} {BH BM : Option Addr} {nH dH nM dM : Nat} (o1 : W.ownsRow w.heap.size 25 1 (.slice BH nH dH) nH (x.h.map U.bv)) (o2 : W.ownsRow w.heap.size 5 1 (.slice BM nM dM) nM (x.m.map bv)) (b : Below W.heap.size W V) :
    V.ownsRow w.heap.size 25 1 (.slice BH nH dH) nH (x.h.map U.bv) ∧ V.ownsRow w.heap.size 5 1 (.slice BM nM dM) nM (x.m.map bv) := ⟨own_below o1 b, own_below o2 b⟩
/-- do within Do. -/
theorem do_in {w W : World} {x : Mn} {BH BM : Option Addr} {nH dH nM dM : Nat} {o d s n : Int} (h : Do3 w W (mcL x (.slice BH nH dH) (.slice BM nM dM)) o d s n) (o1 : W.ownsRow w.heap.size 25 1 (.slice BH nH dH) nH (x.h.map U.bv)) (o2 : W.ownsRow w.heap.size 5 1 (.slice BM nM dM) nM (x.m.map bv)) (h1 : nH ≤ 5000) (h2 : nM ≤ 5000)
    (ho : 1 ≤ o ∧ o ≤ 25) (hi : okI o d s n) (hok : x.ok) :
    Calls Try.prog 25 #[vI o d s n, .pointer (some ⟨w.heap.size + 1, 0, none⟩)] W fun e w' => e = .returned (.tuple #[]) ∧ Hid (Do3 w w' (mcL (doM o d s n x) (.slice BH nH dH) (.slice BM nM dM)) o d s n) ∧ Hid (w'.ownsRow w.heap.size 25 1 (.slice BH nH dH) nH ((doM o d s n x).h.map U.bv)) ∧ Hid (w'.ownsRow w.heap.size 5 1 (.slice BM nM dM) nM ((doM o d s n x).m.map bv)) := by
  have n1 : x.h.length = nH := by simpa using o1.1
  have n2 : x.m.length = nM := by simpa using o2.1
  have p1 : 0 < nH := by rw [← n1]; exact pw_pos hok.1
  have p2 : 0 < nM := by rw [← n2]; exact pw_pos hok.2
  obtain ⟨hb, c1, e1⟩ := U.own_nil o1 p1
  obtain ⟨mb, c2, e2⟩ := own_nil o2 p2
  cases e1
  cases e2
  have M : MO W w.heap.size (w.heap.size + 1) hb mb nH dH nM dM x := ⟨h.two.one, o1, o2, by omega, by omega⟩
  refine (do_any W w.heap.size (w.heap.size + 1) hb mb nH dH nM dM x o d s n ho hi M hok).mono ?_
  rintro e w' ⟨rfl, m, b⟩
  have k1 := own_ng o1 h.two.two (by decide)
  have k2 := own_ng o2 h.two.two (by decide)
  have k3 := own_ng o1 h.box (by decide)
  have k4 := own_ng o2 h.box (by decide)
  have j1 : hb ≠ w.heap.size + 1 + 1 := fun e => k1 (by rw [e]; rfl)
  have j2 : mb ≠ w.heap.size + 1 + 1 := fun e => k2 (by rw [e]; rfl)
  have j3 : hb ≠ w.heap.size := fun e => k3 (by rw [e]; rfl)
  have j4 : mb ≠ w.heap.size := fun e => k4 (by rw [e]; rfl)
  refine ⟨rfl, ⟨⟨m.row, ?_, by omega, ?_⟩, ?_⟩, m.h, m.m⟩
  · exact (b.block _ (lt_of_heap h.two.two) (by rintro (e | e | e) <;> omega)).trans h.two.two
  · exact h.two.bel.trans (b.below (B := w.heap.size) (by have := M.hlt; have := M.mlt; rintro i (e | e | e) <;> omega) h.two.bel.size)
  · exact (b.block _ (lt_of_heap h.box) (by rintro (e | e | e) <;> omega)).trans h.box
end Go.Proofs.Ytaogileaeflnfaa
