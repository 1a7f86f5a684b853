/-
  PROVED: ModelTells (quillpresslaw13) returns true for every model and every slice of bytes, and leaves them as they were; no condition.
-/
import Derived.Test.YtnanmdfbgoahjaaRows
import Derived.Test.YtnanmdfbgoahjaaTlw
import Derived.Test.YtnanmdfbgoahjaaRgg
import Derived.Deep.Slices
import Derived.WalkKit
import Derived.ProofKit
import Derived.OpenShut
import Derived.ShutString
import Derived.ChangeOld
import Derived.Below
namespace Go.Proofs.Ytnanmdfbgoahjaa.modelTells
open Go.ChangeShapes Go.WideShapes Go.ChangeAt Go.RowKit
set_option linter.unusedVariables false

set_option maxRecDepth 10000 in
set_option maxHeartbeats 4000000 in
theorem Tells_big (w : World) (h m ph pm : Int) (Pa Ca Qa Ba : Option Addr) (n i j t Pc Cc Qc Bc : Nat) (hb : 300 < n ∨ 10000 < i ∨ 10000 < j ∨ 20000 < t) (h1 : n ≤ 9223372036854775807) (h2 : i ≤ 9223372036854775807) (h3 : j ≤ 9223372036854775807) (h4 : t ≤ 9223372036854775807) :
    Calls Try.prog 3 #[.agg #[.int .i64 h, .int .i64 m, .int .i64 ph, .int .i64 pm, .slice Pa n Pc, .slice Ca i Cc, .slice Qa j Qc], .slice Ba t Bc] w fun e w' => e = .returned (.bool true) ∧ Below w.heap.size w w' := by
  have HW := hid awake_any
  by_cases z1 : (300 : Int) < (n : Int)
  · clear hb
    go_enter Try.func3, Try.ntmps3
    go_wp2_with (go_at_call 5; refine (HW.out _).mono ?_; rintro e w2 ⟨rfl, b2⟩)
    go_ret
    exact ⟨rfl, bel_alloc b2⟩
  by_cases z2 : (10000 : Int) < (i : Int)
  · clear hb
    go_enter Try.func3, Try.ntmps3
    go_wp2_with (go_at_call 5; refine (HW.out _).mono ?_; rintro e w2 ⟨rfl, b2⟩)
    go_ret
    exact ⟨rfl, bel_alloc b2⟩
  by_cases z3 : (10000 : Int) < (j : Int)
  · clear hb
    go_enter Try.func3, Try.ntmps3
    go_wp2_with (go_at_call 5; refine (HW.out _).mono ?_; rintro e w2 ⟨rfl, b2⟩)
    go_ret
    exact ⟨rfl, bel_alloc b2⟩
  have z4 : (20000 : Int) < (t : Int) := by omega
  clear hb
  go_enter Try.func3, Try.ntmps3
  go_wp2_with (go_at_call 5; refine (HW.out _).mono ?_; rintro e w2 ⟨rfl, b2⟩)
  go_ret
  exact ⟨rfl, bel_alloc b2⟩
theorem Tells_small (w : World) (x : Md) (P C Q : Sl) (Ba : Option Addr) (t Bc : Nat) (l : List UInt8) (a : MdAt w w.heap.size x P C Q) (hB : IsBB w w.heap.size Ba t Bc l) (h1 : x.parts.length ≤ 300) (h2 : x.code.length ≤ 10000) (h3 : x.post.length ≤ 10000) (h4 : t ≤ 20000) :
    Calls Try.prog 3 #[vMd x P C Q, .slice Ba t Bc] w fun e w' => e = .returned (.bool true) ∧ Below w.heap.size w w' :=
  tells_small w x P C Q Ba t Bc l a hB h1 h2 h3 h4 RGet_any
theorem own : ownKnob Try.prog.godebug = none := by kernel_rfl
theorem laidOut : laidOutB Try.prog = true := by kernel_rfl
theorem cells25 : Try.prog.cellsOf 25 = 7 := by kernel_rfl
theorem cells22 : Try.prog.cellsOf 22 = 1 := by kernel_rfl
theorem cells23 : Try.prog.cellsOf 23 = 1 := by kernel_rfl
section
variable {H : Type} {enc : TypeId × Value → H} {w : World} {held : Bool}
theorem row_at {fuel : Nat} {cs : List Value} {x : DataW H × List MemPlace} (h : DataW.trod enc Try.prog w 0 (fun _ => true) held fuel 23 cs = some x) : ∃ A n c zs, cs = [.slice A n c] ∧ IsRow w A n c zs := by
  rcases open_ints Try.underlying23 Try.underlying5 (by kernel_rfl) h with ⟨hcs, _⟩ | ⟨ad, l, c, zs, hcs, _, hl, hm, hz, _, hcell, hwz⟩
  · exact ⟨none, 0, 0, [], hcs, .inl ⟨rfl, rfl, rfl, rfl⟩⟩
  · exact ⟨_, l, c, zs, hcs, .inr ⟨_, rfl, hl, hm, by simpa using hz, hcell, hwz⟩⟩
theorem parts_at {fuel : Nat} {cs : List Value} {x : DataW H × List MemPlace} (h : DataW.trod enc Try.prog w 0 (fun _ => true) held fuel 22 cs = some x) : ∃ A n c L, cs = [.slice A n c] ∧ IsP w w.heap.size A n c L := by
  rcases Go.Deep.open_slice Try.underlying22 h with ⟨hcs, _⟩ | ⟨ad, l, c, m, n, D, Pl, hcs, _⟩
  · subst hcs
    obtain ⟨L, hL⟩ := open_parts h
    exact ⟨_, _, _, L, rfl, hL⟩
  · subst hcs
    obtain ⟨L, hL⟩ := open_parts h
    exact ⟨_, _, _, L, rfl, hL⟩
set_option maxRecDepth 10000 in
theorem md_at {fuel : Nat} {cs : List Value} {x : DataW H × List MemPlace} (h : DataW.trod enc Try.prog w 0 (fun _ => true) held fuel 25 cs = some x) :
    ∃ (h m ph pm : Int) (Pa Ca Qa : Option Addr) (n i j Pc Cc Qc : Nat) (L : List Pt) (zc zq : List Int), cs = [.int .i64 h, .int .i64 m, .int .i64 ph, .int .i64 pm, .slice Pa n Pc, .slice Ca i Cc, .slice Qa j Qc] ∧ IsP w w.heap.size Pa n Pc L ∧ IsRow w Ca i Cc zc ∧ IsRow w Qa j Qc zq := by
  obtain ⟨xs, n, _, rfl, hl, hlen, hf⟩ := DataW.trod_struct u25' h
  match xs, hlen with
  | [y0, y1, y2, y3, y4, y5, y6], _ =>
    have h0 := hf 0 _ rfl
    have h1 := hf 1 _ rfl
    have h2 := hf 2 _ rfl
    have h3 := hf 3 _ rfl
    have h4 := hf 4 _ rfl
    have h5 := hf 5 _ rfl
    have h6 := hf 6 _ rfl
    rw [cells25] at hl
    match cs, hl with
    | [c0, c1, c2, c3, c4, c5, c6], _ =>
      simp [cells3, cells22, cells23] at h0 h1 h2 h3 h4 h5 h6
      obtain ⟨a0, e0, _, _⟩ := DataW.trod_int Try.underlying3 h0
      obtain ⟨a1, e1, _, _⟩ := DataW.trod_int Try.underlying3 h1
      obtain ⟨a2, e2, _, _⟩ := DataW.trod_int Try.underlying3 h2
      obtain ⟨a3, e3, _, _⟩ := DataW.trod_int Try.underlying3 h3
      obtain ⟨Pa, np, Pc, L, e4, hP⟩ := parts_at h4
      obtain ⟨Ca, ic, Cc, zc, e5, hC⟩ := row_at h5
      obtain ⟨Qa, jq, Qc, zq, e6, hQ⟩ := row_at h6
      simp at e0 e1 e2 e3 e4 e5 e6
      subst e0 e1 e2 e3 e4 e5 e6
      exact ⟨a0, a1, a2, a3, Pa, Ca, Qa, np, ic, jq, Pc, Cc, Qc, L, zc, zq, rfl, hP, hC, hQ⟩
theorem row_max {A : Option Addr} {n c : Nat} {zs : List Int} (h : IsRow w A n c zs) : n ≤ 9223372036854775807 := by
  rcases h with ⟨_, rfl, _, _⟩ | ⟨x, _, hl, hx, _⟩
  · omega
  · unfold maxLen at hx; omega
end
theorem walk (w : World) (h m ph pm : Int) (Pa Ca Qa Ba : Option Addr) (n i j t Pc Cc Qc Bc : Nat) (L : List Pt) (zc zq zb : List Int) (hP : IsP w w.heap.size Pa n Pc L) (hC : IsRow w Ca i Cc zc) (hQ : IsRow w Qa j Qc zq) (hB : IsRow w Ba t Bc zb) :
    Calls Try.prog 3 #[.agg #[.int .i64 h, .int .i64 m, .int .i64 ph, .int .i64 pm, .slice Pa n Pc, .slice Ca i Cc, .slice Qa j Qc], .slice Ba t Bc] w fun e w' => e = .returned (.bool true) ∧ Below w.heap.size w w' := by
  by_cases hb : 300 < n ∨ 10000 < i ∨ 10000 < j ∨ 20000 < t
  · exact Tells_big w h m ph pm Pa Ca Qa Ba n i j t Pc Cc Qc Bc hb (by have h1 := hP.cap; have h2 := hP.max; unfold maxLen at h2; omega) (row_max hC) (row_max hQ) (row_max hB)
  · obtain ⟨lc, bC⟩ := isBB_of_row hC (by omega)
    obtain ⟨lq, bQ⟩ := isBB_of_row hQ (by omega)
    obtain ⟨lb, bB⟩ := isBB_of_row hB (by omega)
    obtain rfl := hP.len
    obtain rfl := bC.len
    obtain rfl := bQ.len
    exact Tells_small w ⟨h, m, ph, pm, L, lc, lq⟩ ⟨Pa, Pc⟩ ⟨Ca, Cc⟩ ⟨Qa, Qc⟩ Ba t Bc lb ⟨hP, bC, bQ⟩ bB (by show L.length ≤ 300; omega) (by show lc.length ≤ 10000; omega) (by show lq.length ≤ 10000; omega) (by omega)

set_option maxRecDepth 100000 in
theorem lifted (os : Os) (started : os.Started) (H : Type) (enc : TypeId × Value → H) :
    ReturnsInHanded {} Try.checked os 3 .any (Rows.modelTellsSpec.pre6 enc Try.prog Try.f3 Rows.modelTellsRow.domain false) (Rows.modelTellsSpec.post enc Try.prog Try.f3 false true false false) := by
  refine returnsInHanded_of_change (C := Try.checked) own started (by kernel_rfl) Try.func3
    (ChangeSpec.witness6 (enc := enc) (C := Try.checked) false ⟨#[], #[.agg #[.int .i64 0, .int .i64 0, .int .i64 0, .int .i64 0, .slice none 0 0, .slice none 0 0, .slice none 0 0], .slice none 0 0], []⟩ 8 (by kernel_rfl) (by kernel_rfl) (by kernel_rfl) (by kernel_rfl)) ?_
  intro W base args ds gs before hval0 hW hcnd _
  have hval : ∀ (j : Nat) t v, Try.f3.params[j]? = some t → args[j]? = some v → Value.okWide Try.prog W .any base t v := hval0
  have hW' := hW
  obtain ⟨p, q, hA0, hV, rfl, hfz, hnd⟩ := hW
  have hA : DataW.TrodAll enc Try.prog W 0 (fun _ => true) true Try.f3.params.toList args.toList ds p := hA0
  rw [Try.params3] at hA hval
  obtain ⟨v0, vs0, d0, ds0, p0, q0, hargs, rfl, rfl, h0, r0⟩ := trodAll_cons hA
  obtain ⟨v1, vs1, d1, ds1, p1, q1, rfl, rfl, rfl, h1, r1⟩ := trodAll_cons r0
  obtain ⟨rfl, rfl, rfl⟩ := trodAll_nil r1
  obtain rfl : args = #[v0, v1] := by cases args; simp_all
  obtain ⟨rfl, rfl⟩ := trodVars_none hV
  obtain ⟨cs, rfl, hsz⟩ := okWide_struct u25' (hval 0 25 v0 rfl rfl)
  obtain ⟨a1, len1, cap1, rfl⟩ := okWide_slice Try.underlying23 (hval 1 23 v1 rfl rfl)
  have k0 := h0
  have lt0 : ∀ x ∈ p0, x.block < W.heap.size := by obtain ⟨m, hm⟩ := k0; exact DataW.trod_lt m _ _ _ hm
  have k1 := h1
  have lt1 : ∀ x ∈ p1, x.block < W.heap.size := by obtain ⟨m, hm⟩ := k1; exact DataW.trod_lt m _ _ _ hm
  obtain ⟨zb, hB⟩ : ∃ zs, IsRow W a1 len1 cap1 zs := by
    obtain ⟨fuel, hf⟩ := h1
    obtain ⟨A, n, c, zs, e, hr⟩ := row_at hf
    simp [Value.cells] at e
    obtain ⟨rfl, rfl, rfl⟩ := e
    exact ⟨zs, hr⟩
  obtain ⟨h, m, ph, pm, Pa, Ca, Qa, n, i, j, Pc, Cc, Qc, L, zc, zq, hcs, hP, hC, hQ⟩ := (by
    obtain ⟨fuel, hf⟩ := h0
    exact md_at hf :
    ∃ (h m ph pm : Int) (Pa Ca Qa : Option Addr) (n i j Pc Cc Qc : Nat) (L : List Pt) (zc zq : List Int), (Value.agg cs).cells.toList = [.int .i64 h, .int .i64 m, .int .i64 ph, .int .i64 pm, .slice Pa n Pc, .slice Ca i Cc, .slice Qa j Qc] ∧ IsP W W.heap.size Pa n Pc L ∧ IsRow W Ca i Cc zc ∧ IsRow W Qa j Qc zq)
  obtain rfl : cs = #[.int .i64 h, .int .i64 m, .int .i64 ph, .int .i64 pm, .slice Pa n Pc, .slice Ca i Cc, .slice Qa j Qc] := Array.ext' (by simpa [Value.cells] using hcs)
  clear hA0 hval0
  refine (walk W h m ph pm Pa Ca Qa a1 n i j len1 Pc Cc Qc cap1 L zc zq zb hP hC hQ hB).mono fun e W' ⟨he, bel⟩ => ?_
  subst he
  exact ⟨_, rfl, _, _, _, [], _, [], hW', trodAll_mk1 (shut_bool Try.underlying4 _), (trodAll_cons_mk (Below.trod laidOut (by kernel_rfl) (of_decide_eq_true (by kernel_rfl)) k0 bel lt0) (trodAll_cons_mk (Below.trod laidOut (by kernel_rfl) (of_decide_eq_true (by kernel_rfl)) k1 bel lt1) trodAll_mk0)), rfl, bel.frame _, fun h => by cases h⟩

theorem over : Rows.modelTellsRow.holds Try.pinned (OpenSpec.ofChange Rows.modelTellsSpec) :=
  OpenClaim.holds_of_wide 3 Try.f3 rfl rfl rfl rfl rfl rfl rfl ⟨rfl, rfl, rfl, rfl, rfl⟩ rfl rfl rfl rfl rfl (by kernel_rfl) Try.func3 (by kernel_rfl)
    (of_decide_eq_true (by kernel_rfl)) (by unfold Func.isWrapper; first | (rw [if_pos (by decide +kernel)]; kernel_rfl) | (rw [if_neg (by decide +kernel)]; exact ⟨rfl, rfl⟩))
    (fun os started H enc _ => lifted os started H enc)

theorem proved : Rows.ModelTellsSaid := over
end Go.Proofs.Ytnanmdfbgoahjaa.modelTells
