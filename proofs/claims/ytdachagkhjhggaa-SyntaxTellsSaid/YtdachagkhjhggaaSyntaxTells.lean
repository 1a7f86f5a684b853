/-
  PROVED: which trees may be, and how many statements they have, is exactly as the document defines; no condition.
-/
import Derived.Test.YtdachagkhjhggaaRows
import Derived.Test.YtdachagkhjhggaaTelW
import Derived.Test.YtdachagkhjhggaaOpn
import Derived.WalkKit
import Derived.ShutString
import Derived.ChangeOld
import Derived.Below
namespace Go.Proofs.Ytdachagkhjhggaa
open Go.RowKit Go.ChangeShapes Go.WideShapes Go.ChangeAt
set_option linter.unusedVariables false
set_option linter.unusedSimpArgs false
theorem uCf : Try.prog.underlying 25 = some (.struct #[⟨"H", 3, 0, false, "", "", 0⟩, ⟨"M", 3, 1, false, "", "", 8⟩, ⟨"PH", 3, 2, false, "", "", 16⟩, ⟨"PM", 3, 3, false, "", "", 24⟩, ⟨"Parts", 23, 4, false, "", "", 32⟩, ⟨"Code", 22, 5, false, "", "", 56⟩, ⟨"Post", 22, 6, false, "", "", 80⟩, ⟨"HasPost", 4, 7, false, "", "", 104⟩]) := by kernel_rfl
theorem cellsCf : Try.prog.cellsOf 25 = 8 := by kernel_rfl
theorem cells23 : Try.prog.cellsOf 23 = 1 := by kernel_rfl
section
variable {H : Type} {enc : TypeId × Value → H} {w : World} {held : Bool}
theorem cf_at {fuel : Nat} {cs : List Value} {x : DataW H × List MemPlace} (h : DataW.trod enc Try.prog w 0 (fun _ => true) held fuel 25 cs = some x) (hw : ∀ k ∈ x.1.weights Try.prog 25, k ≤ reachBytes) :
    ∃ (a m ph pm : Int) (Aq : Option Addr) (nq cq : Nat) (Ac : Option Addr) (nc cc : Nat) (Ap : Option Addr) (np cp : Nat) (hp : Bool) (tc tp : Tr), cs = [.int .i64 a, .int .i64 m, .int .i64 ph, .int .i64 pm, .slice Aq nq cq, .slice Ac nc cc, .slice Ap np cp, .bool hp] ∧ (Sl w w.heap.size tc Ac nc cc ∧ tc.wf) ∧ (Sl w w.heap.size tp Ap np cp ∧ tp.wf) := by
  obtain ⟨xs, n, _, rfl, hl, hlen, hf⟩ := DataW.trod_struct uCf h
  match xs, hlen with
  | [y0, y1, y2, y3, y4, y5, y6, y7], _ =>
    have h0 := hf 0 _ rfl
    have h1 := hf 1 _ rfl
    have h2 := hf 2 _ rfl
    have h3 := hf 3 _ rfl
    have h4 := hf 4 _ rfl
    have h5 := hf 5 _ rfl
    have h6 := hf 6 _ rfl
    have h7 := hf 7 _ rfl
    rw [cellsCf] at hl
    have w5 : ∀ k ∈ y5.1.weights Try.prog 22, k ≤ reachBytes := fun k hk => hw k (by
      simp only [DataW.weights, uCf, List.map_cons, List.map_nil]
      exact DataW.weights_mem_each (j := 5) (t := 22) (d := y5.1) rfl rfl k hk)
    have w6 : ∀ k ∈ y6.1.weights Try.prog 22, k ≤ reachBytes := fun k hk => hw k (by
      simp only [DataW.weights, uCf, List.map_cons, List.map_nil]
      exact DataW.weights_mem_each (j := 6) (t := 22) (d := y6.1) rfl rfl k hk)
    match cs, hl with
    | [c0, c1, c2, c3, c4, c5, c6, c7], _ =>
      simp [cells3, cells22, cells23, cells4] at h0 h1 h2 h3 h4 h5 h6 h7
      obtain ⟨A0, e0, _, _⟩ := DataW.trod_int Try.underlying3 h0
      obtain ⟨A1, e1, _, _⟩ := DataW.trod_int Try.underlying3 h1
      obtain ⟨A2, e2, _, _⟩ := DataW.trod_int Try.underlying3 h2
      obtain ⟨A3, e3, _, _⟩ := DataW.trod_int Try.underlying3 h3
      obtain ⟨Aq, nq, cq, e4⟩ : ∃ Aq nq cq, c4 = .slice Aq nq cq := by
        rcases DataW.trod_slice Try.underlying23 h4 with ⟨hcs, _⟩ | ⟨ad, l, c', elems, rest, m, _, hcs, _⟩
        · exact ⟨_, _, _, by simpa using hcs⟩
        · exact ⟨_, _, _, by simpa using hcs⟩
      obtain ⟨Ac, nc, cc, tc, rfl, hc, hcw⟩ := slice_at (opens_all (n + 1)) (Nat.lt_succ_self _) h5 w5
      obtain ⟨Ap, np, cp, tp, rfl, hq, hqw⟩ := slice_at (opens_all (n + 1)) (Nat.lt_succ_self _) h6 w6
      obtain ⟨hp, e7, _⟩ := DataW.trod_bool Try.underlying4 h7
      simp at e0 e1 e2 e3 e7
      subst e0 e1 e2 e3 e4 e7
      exact ⟨A0, A1, A2, A3, Aq, nq, cq, Ac, nc, cc, Ap, np, cp, hp, tc, tp, rfl, ⟨hc, hcw⟩, ⟨hq, hqw⟩⟩
end
end Go.Proofs.Ytdachagkhjhggaa
namespace Go.Proofs.Ytdachagkhjhggaa.syntaxTells
open Go.ChangeShapes Go.WideShapes Go.ChangeAt Go.RowKit
set_option linter.unusedVariables false

theorem own : ownKnob Try.prog.godebug = none := by kernel_rfl
theorem laidOut : laidOutB Try.prog = true := by kernel_rfl
set_option maxRecDepth 100000 in
theorem lifted (os : Os) (started : os.Started) (H : Type) (enc : TypeId × Value → H) :
    ReturnsInHanded {} Try.checked os 3 .any (Rows.syntaxTellsSpec.pre6 enc Try.prog Try.f3 Rows.syntaxTellsRow.domain false) (Rows.syntaxTellsSpec.post enc Try.prog Try.f3 false true false false) := by
  refine returnsInHanded_of_change_sized (C := Try.checked) own started (by kernel_rfl) Try.func3
    (ChangeSpec.witness6 (enc := enc) (C := Try.checked) false ⟨#[], #[.slice none 0 0, .bool false, .agg #[.int .i64 0, .int .i64 0, .int .i64 0, .int .i64 0, .slice none 0 0, .slice none 0 0, .slice none 0 0, .bool false]], []⟩ 8 (by kernel_rfl) (by kernel_rfl) (by kernel_rfl) (by kernel_rfl)) ?_
  intro W base args ds gs before hval0 hW hcnd hsz _
  have hval : ∀ (j : Nat) t v, Try.f3.params[j]? = some t → args[j]? = some v → Value.okWide Try.prog W .any base t v := hval0
  have hW' := hW
  obtain ⟨p, q, hA0, hV, rfl, hfz, hnd⟩ := hW
  have hA : DataW.TrodAll enc Try.prog W 0 (fun _ => true) true Try.f3.params.toList args.toList ds p := hA0
  rw [Try.params3] at hA hval
  obtain ⟨v0, vs0, d0, ds0, p0, q0, hargs, rfl, rfl, h0, r0⟩ := trodAll_cons hA
  obtain ⟨v1, vs1, d1, ds1, p1, q1, rfl, rfl, rfl, h1, r1⟩ := trodAll_cons r0
  obtain ⟨v2, vs2, d2, ds2, p2, q2, rfl, rfl, rfl, h2, r2⟩ := trodAll_cons r1
  obtain ⟨rfl, rfl, rfl⟩ := trodAll_nil r2
  obtain rfl : args = #[v0, v1, v2] := by cases args; simp_all
  obtain ⟨rfl, rfl⟩ := trodVars_none hV
  have ws : ∀ (j : Nat) (t : TypeId) (d : DataW H), [22, 4, 25][j]? = some t → [d0, d1, d2][j]? = some d → ∀ k ∈ d.weights Try.prog t, k ≤ reachBytes := by
    intro j t d ht hd k hk
    rw [Try.params3] at hsz
    have hj : j < 3 := by
      rcases Nat.lt_or_ge j 3 with h | h
      · exact h
      · rw [List.getElem?_eq_none (by simpa using h)] at ht; cases ht
    have := List.all_eq_true.1 hsz k (DataW.weights_mem_each (j := j) (t := t) (d := d) (by rw [List.getElem?_append_left (by simpa using hj)]; exact ht) (by rw [List.getElem?_append_left (by simpa using hj)]; exact hd) k hk)
    simpa using this
  obtain ⟨a0, len0, cap0, rfl⟩ := okWide_slice Try.underlying22 (hval 0 22 v0 rfl rfl)
  obtain ⟨a1, rfl, rfl, rfl⟩ := open_bool Try.underlying4 (hval 1 4 v1 rfl rfl) h1
  obtain ⟨cs2, rfl, hsz2⟩ := okWide_struct uCf (hval 2 25 v2 rfl rfl)
  have k0 := h0
  have lt0 : ∀ x ∈ p0, x.block < W.heap.size := by obtain ⟨m, hm⟩ := k0; exact DataW.trod_lt m _ _ _ hm
  have k2 := h2
  have lt2 : ∀ x ∈ p2, x.block < W.heap.size := by obtain ⟨m, hm⟩ := k2; exact DataW.trod_lt m _ _ _ hm
  obtain ⟨tl, hl, wl⟩ : ∃ tl, Sl W W.heap.size tl a0 len0 cap0 ∧ tl.wf := by
    obtain ⟨fuel, hf⟩ := h0
    exact open_tree (by simpa [Value.cells] using hf) (ws 0 22 d0 rfl rfl)
  obtain ⟨b0, b1, b2, b3, Aq, nq, cq, Ac, nc, cc, Ap, np, cp, hp, tc, tp, hcs, ⟨hc, wc⟩, ⟨hq, wq⟩⟩ := (by
    obtain ⟨fuel, hf⟩ := h2
    exact cf_at hf (ws 2 25 d2 rfl rfl) :
    ∃ (a m ph pm : Int) (Aq : Option Addr) (nq cq : Nat) (Ac : Option Addr) (nc cc : Nat) (Ap : Option Addr) (np cp : Nat) (hp : Bool) (tc tp : Tr), (Value.agg cs2).cells.toList = [.int .i64 a, .int .i64 m, .int .i64 ph, .int .i64 pm, .slice Aq nq cq, .slice Ac nc cc, .slice Ap np cp, .bool hp] ∧ (Sl W W.heap.size tc Ac nc cc ∧ tc.wf) ∧ (Sl W W.heap.size tp Ap np cp ∧ tp.wf))
  obtain rfl : cs2 = #[.int .i64 b0, .int .i64 b1, .int .i64 b2, .int .i64 b3, .slice Aq nq cq, .slice Ac nc cc, .slice Ap np cp, .bool hp] := Array.ext' (by simpa [Value.cells] using hcs)
  clear hA0 hval0
  refine (tells_any tl tc tp a0 len0 cap0 a1 b0 b1 b2 b3 Aq nq cq Ac nc cc Ap np cp hp W hl hc hq wl wc wq).mono fun e W' ⟨he, bel⟩ => ?_
  subst he
  exact ⟨_, rfl, _, _, _, [], _, [], hW', trodAll_mk1 (shut_bool Try.underlying4 _), (trodAll_cons_mk (Below.trod laidOut (by kernel_rfl) (of_decide_eq_true (by kernel_rfl)) k0 bel lt0) (trodAll_cons_mk (shut_bool Try.underlying4 _) (trodAll_cons_mk (Below.trod laidOut (by kernel_rfl) (of_decide_eq_true (by kernel_rfl)) k2 bel lt2) trodAll_mk0))), rfl, bel.frame _, fun h => by cases h⟩

theorem over : Rows.syntaxTellsRow.holds Try.pinned (OpenSpec.ofChange Rows.syntaxTellsSpec) :=
  OpenClaim.holds_of_wide 3 Try.f3 rfl rfl rfl rfl rfl rfl rfl ⟨rfl, rfl, rfl, rfl, rfl⟩ rfl rfl rfl rfl rfl (by kernel_rfl) Try.func3 (by kernel_rfl)
    (of_decide_eq_true (by kernel_rfl)) (by unfold Func.isWrapper; first | (rw [if_pos (by decide +kernel)]; kernel_rfl) | (rw [if_neg (by decide +kernel)]; exact ⟨rfl, rfl⟩))
    (fun os started H enc _ => lifted os started H enc)

theorem proved : Rows.SyntaxTellsSaid := over
end Go.Proofs.Ytdachagkhjhggaa.syntaxTells
