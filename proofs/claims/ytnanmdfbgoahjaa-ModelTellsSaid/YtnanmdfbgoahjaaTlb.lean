/-
  ModelTells: what each side tells, good or refused, in one form.
-/
import Derived.Test.YtnanmdfbgoahjaaPtw
import Derived.Test.YtnanmdfbgoahjaaMdk
import Derived.Test.YtnanmdfbgoahjaaAwn
import Derived.Test.YtnanmdfbgoahjaaRgz
import Derived.Test.YtnanmdfbgoahjaaRpz
import Derived.Test.YtnanmdfbgoahjaaCpm
set_option linter.unusedVariables false
set_option linter.unusedSimpArgs false
namespace Go.Proofs.Ytnanmdfbgoahjaa
open Go.RowKit

theorem tput_len (y : Md) (hr : y.right = 0) : y.put.length ≤ 9000 := by
  have h := putB_put y (right_vp y hr)
  obtain ⟨h1, h2, h3⟩ := md_six y hr
  rw [← h]
  unfold putB hdrB numsM
  have e1 := flat_len (fun n => nb n 1) 2 (fun n => nb_len n 1) [y.h, y.m, y.ph, y.pm, (y.parts.length : Int)]
  have e2 := flat_len prtB 10 prtB_len y.parts
  have e3 := nb_len (y.code.length : Nat) 2
  have e4 := nb_len (y.post.length : Nat) 2
  simp only [List.length_append]
  simp only [List.length_cons, List.length_nil] at e1
  omega
theorem tput_ok (y : Md) (hr : y.right = 0) (w : World) (P C Q : Sl) (a : MdAt w w.heap.size y P C Q) : Calls Try.prog 8 #[vMd y P C Q] w fun e w' => ∃ A c, e = .returned (.tuple #[.slice A y.put.length c, .int .i64 0]) ∧ IsBB w' w'.heap.size A y.put.length c y.put ∧ Below w.heap.size w w' :=
  (Put_good w y P C Q a hr).mono fun _ _ ⟨v, e, ho, hb⟩ => by
    obtain ⟨A, c, rfl, _⟩ := own_slice ho
    exact ⟨A, c, e, own_isB2 ho (by have := tput_len y hr; omega), hb⟩
def putX (x : Md) : List UInt8 := if x.right = 0 then x.put else []
theorem putX_len (x : Md) : (putX x).length ≤ 9000 := by
  unfold putX
  split
  · rename_i h; exact tput_len x h
  · simp
/-- The model, the place, the error that bytes tell. -/
def tM (l : List UInt8) : Md := match getM l with | .ok (x, _) => x | .error _ => ⟨0, 0, 0, 0, [], [], []⟩
def tK (l : List UInt8) : Nat := match getM l with | .ok (_, k) => k | .error _ => 0
def tE (l : List UInt8) : Int := match getM l with | .ok _ => 0 | .error e => e
theorem zero_md (W : World) : MdAt W W.heap.size ⟨0, 0, 0, 0, [], [], []⟩ ⟨none, 0⟩ ⟨none, 0⟩ ⟨none, 0⟩ := ⟨isP_nil _ _, isBB_nil _ _, isBB_nil _ _⟩
theorem zero_vMd : vMd ⟨0, 0, 0, 0, [], [], []⟩ ⟨none, 0⟩ ⟨none, 0⟩ ⟨none, 0⟩ = .agg zero7 := rfl
theorem put_any (x : Md) (w : World) (P C Q : Sl) (a : MdAt w w.heap.size x P C Q) : Calls Try.prog 8 #[vMd x P C Q] w fun e w' => ∃ A c, e = .returned (.tuple #[.slice A (putX x).length c, .int .i64 x.right]) ∧ IsBB w' w'.heap.size A (putX x).length c (putX x) ∧ Below w.heap.size w w' := by
  by_cases hr : x.right = 0
  · have e : putX x = x.put := if_pos hr
    rw [e, hr]
    exact tput_ok x hr w P C Q a
  · have e : putX x = [] := if_neg hr
    rw [e]
    refine (Put_bad w x P C Q a hr).mono ?_
    rintro e w' ⟨rfl, hb⟩
    exact ⟨none, 0, rfl, isBB_nil _ _, hb⟩
theorem rput_any (x : Md) (w : World) (P C Q : Sl) (a : MdAt w w.heap.size x P C Q) : Calls Try.prog 9 #[vMd x P C Q] w fun e w' => ∃ A c, e = .returned (.tuple #[.slice A (putX x).length c, .int .i64 x.right]) ∧ IsBB w' w'.heap.size A (putX x).length c (putX x) ∧ Below w.heap.size w w' := by
  by_cases hr : x.right = 0
  · have e : putX x = x.put := if_pos hr
    rw [e, hr]
    refine (refPut_good w x P C Q a hr).mono ?_
    rintro e w' ⟨v, rfl, ho⟩
    obtain ⟨A, c, rfl, hi⟩ := ho.out.isBB (by have := tput_len x hr; omega)
    exact ⟨A, c, rfl, hi, ho.out.bel⟩
  · have e : putX x = [] := if_neg hr
    rw [e]
    refine (refPut_bad w x P C Q a hr).mono ?_
    rintro e w' ⟨rfl, hb⟩
    exact ⟨none, 0, rfl, isBB_nil _ _, hb⟩
theorem tget_any (A : Option Addr) (n c : Nat) (l : List UInt8) (w : World) (h : IsBB w w.heap.size A n c l) (hn : n ≤ 1000000) :
    Calls Try.prog 10 #[.slice A n c] w fun e w' => ∃ P C Q, e = .returned (.tuple #[vMd (tM l) P C Q, .int .i64 (tK l : Nat), .int .i64 (tE l)]) ∧ MdAt w' w'.heap.size (tM l) P C Q ∧ w'.ownsRow w.heap.size 5 1 (.slice C.a (tM l).code.length C.c) (tM l).code.length ((tM l).code.map bv) ∧ Below w.heap.size w w' :=
  (Get_any A n c l w h hn).mono fun e w' hp => by
    rcases hp with ⟨er, h0, h1, h2, h3⟩ | ⟨x, k, P, C, Q, h1, h2, h3, h4, h5⟩
    · have e1 : tM l = ⟨0, 0, 0, 0, [], [], []⟩ := by unfold tM; rw [h1]
      have e2 : tK l = 0 := by unfold tK; rw [h1]
      have e3 : tE l = er := by unfold tE; rw [h1]
      rw [e1, e2, e3]
      exact ⟨⟨none, 0⟩, ⟨none, 0⟩, ⟨none, 0⟩, h2, zero_md _, World.ownsRow_nil _ _ _ _, h3⟩
    · have e1 : tM l = x := by unfold tM; rw [h1]
      have e2 : tK l = k := by unfold tK; rw [h1]
      have e3 : tE l = 0 := by unfold tE; rw [h1]
      rw [e1, e2, e3]
      exact ⟨P, C, Q, h2, h3, h4, h5⟩
theorem rget_of {w w' : World} {l : List UInt8} {e : Ending} (hp : RGetPost w w' l e) : ∃ P C Q, e = .returned (.tuple #[vMd (tM l) P C Q, .int .i64 (tK l : Nat), .int .i64 (tE l)]) ∧ MdAt w' w'.heap.size (tM l) P C Q ∧ Below w.heap.size w w' := by
  rcases hp with ⟨er, h0, h1, h2, h3⟩ | ⟨x, k, P, C, Q, h1, h2, h3, h5⟩
  · have e1 : tM l = ⟨0, 0, 0, 0, [], [], []⟩ := by unfold tM; rw [h1]
    have e2 : tK l = 0 := by unfold tK; rw [h1]
    have e3 : tE l = er := by unfold tE; rw [h1]
    rw [e1, e2, e3]
    exact ⟨⟨none, 0⟩, ⟨none, 0⟩, ⟨none, 0⟩, h2, zero_md _, h3⟩
  · have e1 : tM l = x := by unfold tM; rw [h1]
    have e2 : tK l = k := by unfold tK; rw [h1]
    have e3 : tE l = 0 := by unfold tE; rw [h1]
    rw [e1, e2, e3]
    exact ⟨P, C, Q, h2, h3, h5⟩
/-- A model's box. -/
structure MxAt (W : World) (g : Nat) (x : Md) (P C Q : Sl) : Prop where
  row : W.heap[g]? = some (.cells #[.int .i64 x.h, .int .i64 x.m, .int .i64 x.ph, .int .i64 x.pm, .slice P.a x.parts.length P.c, .slice C.a x.code.length C.c, .slice Q.a x.post.length Q.c] 25 (0, 0))
  md : MdAt W W.heap.size x P C Q
theorem MxAt.later {W W' : World} {g : Nat} {x : Md} {P C Q : Sl} (h : MxAt W g x P C Q) (b : Below W.heap.size W W') : MxAt W' g x P C Q := ⟨(b.block _ (lt_of_heap h.row)).trans h.row, h.md.later b⟩
theorem mx_made {W : World} {x : Md} {P C Q : Sl} (h : MdAt W W.heap.size x P C Q) : MxAt (W.alloc (.cells #[.int .i64 x.h, .int .i64 x.m, .int .i64 x.ph, .int .i64 x.pm, .slice P.a x.parts.length P.c, .slice C.a x.code.length C.c, .slice Q.a x.post.length Q.c] 25)) W.heap.size x P C Q :=
  ⟨heap_alloc_new W _, h.later ((Below.refl _ _).alloc (Nat.le_refl _) _)⟩
/-- The seven cells of a model's box. -/
structure Mc7 (W : World) (g : Nat) (x : Md) (P C Q : Sl) : Prop where
  c0 : W.cell? ⟨g, 0, none⟩ = some (.int .i64 x.h)
  c1 : W.cell? ⟨g, 1, none⟩ = some (.int .i64 x.m)
  c2 : W.cell? ⟨g, 2, none⟩ = some (.int .i64 x.ph)
  c3 : W.cell? ⟨g, 3, none⟩ = some (.int .i64 x.pm)
  c4 : W.cell? ⟨g, 4, none⟩ = some (.slice P.a x.parts.length P.c)
  c5 : W.cell? ⟨g, 5, none⟩ = some (.slice C.a x.code.length C.c)
  c6 : W.cell? ⟨g, 6, none⟩ = some (.slice Q.a x.post.length Q.c)
theorem MxAt.mc {W : World} {g : Nat} {x : Md} {P C Q : Sl} (h : MxAt W g x P C Q) : Mc7 W g x P C Q := ⟨row_cell h.row 0, row_cell h.row 1, row_cell h.row 2, row_cell h.row 3, row_cell h.row 4, row_cell h.row 5, row_cell h.row 6⟩
/-- The code of the model that was got, under way: what is not reached yet is as it was. -/
structure CdAt (base : Nat) (W : World) (C : Sl) (L : List UInt8) (i : Nat) : Prop where
  at_ : 0 < L.length → ∃ g cur, C.a = some ⟨g, 0, none⟩ ∧ base ≤ g ∧ W.heap[g]? = some (.cells cur 5 (0, 0)) ∧ ∀ j (h : j < L.length), i ≤ j → cur[j]? = some (.int .u8 (L[j].toNat : Nat))
theorem cd_start {base : Nat} {W : World} {C : Sl} {L : List UInt8} (h : W.ownsRow base 5 1 (.slice C.a L.length C.c) L.length (L.map bv)) : CdAt base W C L 0 := by
  refine ⟨fun h0 => ?_⟩
  rcases h.2 with ⟨h1, h2⟩ | ⟨g, cap, cur, hv, hg, hh, hn, hm, hs, ht⟩
  · omega
  · injection hv with h1 h2 h3
    refine ⟨g, cur, h1, hg, hh, fun j hj _ => ?_⟩
    have := map_bv_getElem? L j hj
    rw [← ht, List.getElem?_take] at this
    split at this
    · simpa using this
    · cases this
theorem CdAt.later {base : Nat} {W W' : World} {C : Sl} {L : List UInt8} {i : Nat} (h : CdAt base W C L i) (b : Below W.heap.size W W') : CdAt base W' C L i :=
  ⟨fun h0 => by
    obtain ⟨g, cur, e, hg, hh, hc⟩ := h.at_ h0
    exact ⟨g, cur, e, hg, (b.block _ (lt_of_heap hh)).trans hh, hc⟩⟩
theorem CdAt.set {base : Nat} {W : World} {C : Sl} {L : List UInt8} {i g : Nat} (h : CdAt base W C L i) (hg : C.a = some ⟨g, 0, none⟩) (u : Value) : CdAt base (W.setCell ⟨g, i, none⟩ u) C L (i + 1) :=
  ⟨fun h0 => by
    obtain ⟨g', cur, e, hb, hh, hc⟩ := h.at_ h0
    rw [hg] at e
    cases e
    refine ⟨g, _, hg, hb, row_set hh i u, fun j hj hi => ?_⟩
    rw [Array.getElem?_setIfInBounds_ne (by omega)]
    exact hc j hj (by omega)⟩
end Go.Proofs.Ytnanmdfbgoahjaa
