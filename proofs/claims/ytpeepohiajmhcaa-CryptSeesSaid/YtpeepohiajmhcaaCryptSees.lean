/-
  PROVED: CryptSees (quillpresslaw08) returns true for every password, salt and script of calls, and leaves them as they were; no condition.
-/
import Derived.Test.YtpeepohiajmhcaaRows
import Derived.Test.YtpeepohiajmhcaaSeeW
import Derived.Test.YtpeepohiajmhcaaArg
import Derived.Deep.Slices
import Derived.WalkKit
import Derived.ProofKit
import Derived.OpenShut
import Derived.ShutString
import Derived.ChangeOld
import Derived.Below
namespace Go.Proofs.Ytpeepohiajmhcaa.cryptSees
open Go.ChangeShapes Go.WideShapes Go.ChangeAt Go.RowKit
open Go.ChangeMaps (open_string shut_string)
set_option linter.unusedVariables false

theorem own : ownKnob Try.prog.godebug = none := by kernel_rfl
theorem laidOut : laidOutB Try.prog = true := by kernel_rfl

theorem u47 : Try.prog.underlying 47 = some (.slice 49) := by kernel_rfl
theorem u49 : Try.prog.underlying 49 = some (.struct #[⟨"Kind", 3, 0, false, "", "", 0⟩, ⟨"N", 3, 1, false, "", "", 8⟩, ⟨"M", 3, 2, false, "", "", 16⟩, ⟨"E", 23, 3, false, "", "", 24⟩, ⟨"B", 29, 4, false, "", "", 32⟩]) := by kernel_rfl
theorem u23 : Try.prog.underlying 23 = some (.int .i64) := by kernel_rfl
theorem cells49 : Try.prog.cellsOf 49 = 5 := by kernel_rfl
theorem cells3 : Try.prog.cellsOf 3 = 1 := by kernel_rfl
theorem cells23 : Try.prog.cellsOf 23 = 1 := by kernel_rfl
theorem cells29 : Try.prog.cellsOf 29 = 1 := by kernel_rfl
section
variable {H : Type} {enc : TypeId × Value → H} {w : World} {held : Bool}
set_option maxRecDepth 10000 in
theorem op_at {fuel : Nat} {cs : List Value} {x : DataW H × List MemPlace} (h : DataW.trod enc Try.prog w 0 (fun _ => true) held fuel 49 cs = some x) :
    ∃ (K A B E : Int) (J : Option Addr) (jn jc : Nat) (zs : List Int), cs = [.int .i64 K, .int .i64 A, .int .i64 B, .int .i64 E, .slice J jn jc] ∧ (Lit.int .i64 A).wf = true ∧ (Lit.int .i64 B).wf = true ∧ IsRow w J jn jc zs := by
  obtain ⟨xs, n, _, rfl, hl, hlen, hf⟩ := DataW.trod_struct u49 h
  match xs, hlen with
  | [y0, y1, y2, y3, y4], _ =>
    have h0 := hf 0 _ rfl
    have h1 := hf 1 _ rfl
    have h2 := hf 2 _ rfl
    have h3 := hf 3 _ rfl
    have h4 := hf 4 _ rfl
    rw [cells49] at hl
    match cs, hl with
    | [c0, c1, c2, c3, c4], _ =>
      simp [cells3, cells23, cells29] at h0 h1 h2 h3 h4
      obtain ⟨K, e0, _, _⟩ := DataW.trod_int Try.underlying3 h0
      obtain ⟨A, e1, _, wa⟩ := DataW.trod_int Try.underlying3 h1
      obtain ⟨B, e2, _, wb⟩ := DataW.trod_int Try.underlying3 h2
      obtain ⟨E, e3, _, _⟩ := DataW.trod_int u23 h3
      simp at e0 e1 e2 e3
      subst e0 e1 e2 e3
      obtain ⟨J, jn, jc, zs, rfl, hR⟩ : ∃ J jn jc zs, c4 = .slice J jn jc ∧ IsRow w J jn jc zs := by
        rcases open_ints Try.underlying29 Try.underlying5 (by kernel_rfl) h4 with ⟨hcs, _⟩ | ⟨x, l, c, zs, hcs, _, hl, hm, hz, _, hcell, hwz⟩
        · simp at hcs
          exact ⟨none, 0, 0, [], hcs, .inl ⟨rfl, rfl, rfl, rfl⟩⟩
        · simp at hcs
          exact ⟨_, l, c, zs, hcs, .inr ⟨_, rfl, hl, hm, by simpa using hz, hcell, hwz⟩⟩
      exact ⟨K, A, B, E, J, jn, jc, zs, rfl, wa, wb, hR⟩
theorem row_cut {w : World} {a : Option Addr} {len cap : Nat} {zs : List Int} (h : IsRow w a len cap zs) : len ≤ cap ∧ cap ≤ maxLen ∧ ∃ l, IsBB w w.heap.size a (min len 3000) cap l := by
  rcases h with ⟨rfl, rfl, rfl, rfl⟩ | ⟨x, rfl, hl, hx, hz, hc, hw⟩
  · exact ⟨Nat.le_refl _, Nat.zero_le _, isBB_of_row (.inl ⟨rfl, rfl, rfl, rfl⟩) (by omega)⟩
  · exact ⟨hl, hx, isBB_of_row (zs := zs) (.inr ⟨x, rfl, by omega, hx, hz, hc, hw⟩) (by omega)⟩
set_option maxRecDepth 10000 in
theorem open_ops {fuel len cap : Nat} {a : Option Addr} {x : DataW H × List MemPlace} (h : DataW.trod enc Try.prog w 0 (fun _ => true) held fuel 47 [.slice a len cap] = some x) : OpsL w w.heap.size a len cap := by
  rcases Go.Deep.open_slice u47 h with ⟨hcs, _⟩ | ⟨ad, l, c, m, n, D, Pl, hcs, _, hl, hm, hmm, hx, hi⟩
  · simp at hcs
    obtain ⟨rfl, rfl, rfl⟩ := hcs
    exact ⟨Nat.le_refl _, Nat.zero_le _, fun i h0 => absurd h0 (by omega)⟩
  · simp at hcs
    obtain ⟨rfl, rfl, rfl⟩ := hcs
    have hlm : len ≤ m := by rw [hmm]; split <;> omega
    refine ⟨hl, hm, fun i hil => ?_⟩
    obtain ⟨cs', hc, ht⟩ := hi i (by omega)
    rw [cells49] at hc
    obtain ⟨_, _, hat⟩ := World.cells?_some hc
    obtain ⟨K, A, B, E, J, jn, jc, zs, rfl, wa, wb, hR⟩ := op_at ht
    have c0 := hat 0 (by omega)
    have c1 := hat 1 (by omega)
    have c2 := hat 2 (by omega)
    have c3 := hat 3 (by omega)
    have c4 := hat 4 (by omega)
    rw [add_of_add] at c0 c1 c2 c3 c4
    obtain ⟨r1, r2, bl, r3⟩ := row_cut hR
    have hlt := lt_of_cell c0
    rw [block_of_add] at hlt
    exact ⟨ad, K, A, B, E, J, jn, jc, bl, rfl, hlt, ⟨c0, c1, c2, c3, c4⟩, (bounds_i64 wa).2, (bounds_i64 wb).2, r1, r2, r3⟩
end

theorem walk (a0 : Option Addr) (len0 cap0 : Nat) (z0 : List Int) (l1 : List UInt8) (a2 : Option Addr) (len2 cap2 : Nat) (w : World) (w0 : IsRow w a0 len0 cap0 z0) (w1 : l1.length = 32) (w2 : OpsL w w.heap.size a2 len2 cap2) :
    Calls Try.prog 5 #[.slice a0 len0 cap0, .agg (l1.map bv).toArray, .slice a2 len2 cap2] w fun e w' => e = .returned (.bool true) ∧ Below w.heap.size w w' := by
  by_cases hn : len0 = 0 ∨ 100 < len0
  · exact CryptSees_out a0 len0 cap0 l1 a2 len2 cap2 w hn
  · obtain ⟨l, hl⟩ := isBB_of_row w0 (by omega)
    exact CryptSees_any a0 len0 cap0 l l1 a2 len2 cap2 w hl (by omega) (by omega) w1 w2

set_option maxRecDepth 100000 in
theorem lifted (os : Os) (started : os.Started) (H : Type) (enc : TypeId × Value → H) :
    ReturnsInHanded {} Try.checked os 5 .any (Rows.cryptSeesSpec.pre6 enc Try.prog Try.f5 Rows.cryptSeesRow.domain false) (Rows.cryptSeesSpec.post enc Try.prog Try.f5 false true false false) := by
  refine returnsInHanded_of_change (C := Try.checked) own started (by kernel_rfl) Try.func5
    (ChangeSpec.witness6 (enc := enc) (C := Try.checked) false ⟨#[], #[.slice none 0 0, .agg #[.int .u8 0, .int .u8 0, .int .u8 0, .int .u8 0, .int .u8 0, .int .u8 0, .int .u8 0, .int .u8 0, .int .u8 0, .int .u8 0, .int .u8 0, .int .u8 0, .int .u8 0, .int .u8 0, .int .u8 0, .int .u8 0, .int .u8 0, .int .u8 0, .int .u8 0, .int .u8 0, .int .u8 0, .int .u8 0, .int .u8 0, .int .u8 0, .int .u8 0, .int .u8 0, .int .u8 0, .int .u8 0, .int .u8 0, .int .u8 0, .int .u8 0, .int .u8 0], .slice none 0 0], []⟩ 8 (by kernel_rfl) (by kernel_rfl) (by kernel_rfl) (by kernel_rfl)) ?_
  intro W base args ds gs before hval0 hW hcnd _
  have hval : ∀ (j : Nat) t v, Try.f5.params[j]? = some t → args[j]? = some v → Value.okWide Try.prog W .any base t v := hval0
  have hW' := hW
  obtain ⟨p, q, hA0, hV, rfl, hfz, hnd⟩ := hW
  have hA : DataW.TrodAll enc Try.prog W 0 (fun _ => true) true Try.f5.params.toList args.toList ds p := hA0
  rw [Try.params5] at hA hval
  obtain ⟨v0, vs0, d0, ds0, p0, q0, hargs, rfl, rfl, h0, r0⟩ := trodAll_cons hA
  obtain ⟨v1, vs1, d1, ds1, p1, q1, rfl, rfl, rfl, h1, r1⟩ := trodAll_cons r0
  obtain ⟨v2, vs2, d2, ds2, p2, q2, rfl, rfl, rfl, h2, r2⟩ := trodAll_cons r1
  obtain ⟨rfl, rfl, rfl⟩ := trodAll_nil r2
  obtain rfl : args = #[v0, v1, v2] := by cases args; simp_all
  obtain ⟨rfl, rfl⟩ := trodVars_none hV
  obtain ⟨a0, len0, cap0, rfl⟩ := okWide_slice Try.underlying29 (hval 0 29 v0 rfl rfl)
  have k0 := h0
  have lt0 : ∀ x ∈ p0, x.block < W.heap.size := by obtain ⟨m, hm⟩ := k0; exact DataW.trod_lt m _ _ _ hm
  obtain ⟨z0, w0⟩ : ∃ zs, IsRow W a0 len0 cap0 zs := by
    obtain ⟨fuel, hf⟩ := h0
    rcases open_ints Try.underlying29 Try.underlying5 (by kernel_rfl) hf with ⟨hcs, _⟩ | ⟨x, l, c, zs, hcs, _, hl, hm, hz, _, hcell, hwz⟩
    · simp [Value.cells] at hcs
      obtain ⟨rfl, rfl, rfl⟩ := hcs
      exact ⟨[], .inl ⟨rfl, rfl, rfl, rfl⟩⟩
    · simp [Value.cells] at hcs
      obtain ⟨rfl, rfl, rfl⟩ := hcs
      exact ⟨zs, .inr ⟨_, rfl, hl, hm, by simpa using hz, hcell, hwz⟩⟩
  obtain ⟨a2, len2, cap2, rfl⟩ := okWide_slice u47 (hval 2 47 v2 rfl rfl)
  have k2 := h2
  have lt2 : ∀ x ∈ p2, x.block < W.heap.size := by obtain ⟨m, hm⟩ := k2; exact DataW.trod_lt m _ _ _ hm
  have w2 : OpsL W W.heap.size a2 len2 cap2 := by
    obtain ⟨fuel, hf⟩ := h2
    exact open_ops (by simpa [Value.cells] using hf)
  obtain ⟨l1, w1, rfl, rfl, s1⟩ := open_bytes Try.underlying46 Try.underlying5 (by kernel_rfl) (by kernel_rfl) (hval 1 46 v1 rfl rfl) h1
  clear hA0 hval0
  refine (walk a0 len0 cap0 z0 l1 a2 len2 cap2 W w0 w1 w2).mono fun e W' ⟨he, bel⟩ => ?_
  subst he
  exact ⟨_, rfl, _, _, _, [], _, [], hW', trodAll_mk1 (shut_bool Try.underlying4 _), (trodAll_cons_mk (Below.trod laidOut (by kernel_rfl) (of_decide_eq_true (by kernel_rfl)) k0 bel lt0) (trodAll_cons_mk (s1 _ _ _ _) (trodAll_cons_mk (Below.trod laidOut (by kernel_rfl) (of_decide_eq_true (by kernel_rfl)) k2 bel lt2) trodAll_mk0))), rfl, bel.frame _, fun h => by cases h⟩

theorem over : Rows.cryptSeesRow.holds Try.pinned (OpenSpec.ofChange Rows.cryptSeesSpec) :=
  OpenClaim.holds_of_wide 5 Try.f5 rfl rfl rfl rfl rfl rfl rfl ⟨rfl, rfl, rfl, rfl, rfl⟩ rfl rfl rfl rfl rfl (by kernel_rfl) Try.func5 (by kernel_rfl)
    (of_decide_eq_true (by kernel_rfl)) (by unfold Func.isWrapper; first | (rw [if_pos (by decide +kernel)]; kernel_rfl) | (rw [if_neg (by decide +kernel)]; exact ⟨rfl, rfl⟩))
    (fun os started H enc _ => lifted os started H enc)

theorem proved : Rows.CryptSeesSaid := over
end Go.Proofs.Ytpeepohiajmhcaa.cryptSees
