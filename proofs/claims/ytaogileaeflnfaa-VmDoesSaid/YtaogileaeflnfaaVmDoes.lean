/-
  PROVED: VmDoes: each instruction does exactly what the document defines.
-/
import Derived.Test.YtaogileaeflnfaaRows
import Derived.Test.YtaogileaeflnfaaMk
import Derived.Deep.Slices
import Derived.WalkKit
import Derived.ProofKit
import Derived.OpenShut
import Derived.ShutString
import Derived.ChangeOld
import Derived.Below
set_option linter.unusedVariables false
set_option linter.unusedSimpArgs false
namespace Go.Proofs.Ytaogileaeflnfaa
open Go.ChangeShapes Go.WideShapes Go.ChangeAt Go.RowKit

theorem u30 : Try.prog.underlying 30 = some (.struct #[⟨"A", 25, 0, false, "", "", 0⟩, ⟨"B", 25, 1, false, "", "", 4⟩, ⟨"C", 25, 2, false, "", "", 8⟩, ⟨"D", 25, 3, false, "", "", 12⟩, ⟨"F", 4, 4, false, "", "", 16⟩, ⟨"R", 26, 5, false, "", "", 20⟩, ⟨"H", 27, 261, false, "", "", 1048⟩, ⟨"M", 28, 262, false, "", "", 1072⟩]) := by kernel_rfl
theorem mcells : Try.prog.cellsOf 30 = 263 ∧ Try.prog.cellsOf 26 = 256 ∧ Try.prog.cellsOf 25 = 1 ∧ Try.prog.cellsOf 4 = 1 ∧ Try.prog.cellsOf 27 = 1 ∧ Try.prog.cellsOf 28 = 1 := ⟨by kernel_rfl, by kernel_rfl, by kernel_rfl, by kernel_rfl, by kernel_rfl, by kernel_rfl⟩
theorem one_of {cs : List Value} {i : Nat} {v : Value} (h : (cs.drop i).take 1 = [v]) : cs[i]? = some v := by
  have h2 := congrArg (fun l => l[0]?) h
  simp only [List.getElem?_take, List.getElem?_drop] at h2
  simpa using h2
section
variable {H : Type} {enc : TypeId × Value → H} {w : World} {held : Bool}
theorem rowB_at {fuel : Nat} {cs : List Value} {x : DataW H × List MemPlace} (h : DataW.trod enc Try.prog w 0 (fun _ => true) held fuel 28 cs = some x) : ∃ A n c zs, cs = [.slice A n c] ∧ IsRow w A n c zs := by
  rcases open_ints Try.underlying28 Try.underlying5 (by kernel_rfl) h with ⟨hcs, _⟩ | ⟨ad, l, c, zs, hcs, _, hl, hm, hz, _, hcell, hwz⟩
  · exact ⟨none, 0, 0, [], hcs, .inl ⟨rfl, rfl, rfl, rfl⟩⟩
  · exact ⟨_, l, c, zs, hcs, .inr ⟨_, rfl, hl, hm, by simpa using hz, hcell, hwz⟩⟩
theorem rowU_at {fuel : Nat} {cs : List Value} {x : DataW H × List MemPlace} (h : DataW.trod enc Try.prog w 0 (fun _ => true) held fuel 27 cs = some x) : ∃ A n c zs, cs = [.slice A n c] ∧ U.IsRow w A n c zs := by
  rcases open_ints Try.underlying27 Try.underlying25 (by kernel_rfl) h with ⟨hcs, _⟩ | ⟨ad, l, c, zs, hcs, _, hl, hm, hz, _, hcell, hwz⟩
  · exact ⟨none, 0, 0, [], hcs, .inl ⟨rfl, rfl, rfl, rfl⟩⟩
  · exact ⟨_, l, c, zs, hcs, .inr ⟨_, rfl, hl, hm, by simpa using hz, hcell, hwz⟩⟩
theorem u32_at {fuel : Nat} {cs : List Value} {x : DataW H × List MemPlace} (h : DataW.trod enc Try.prog w 0 (fun _ => true) held fuel 25 cs = some x) : ∃ a : UInt32, cs = [U.bv a] := by
  obtain ⟨z, e, _, hw⟩ := DataW.trod_int Try.underlying25 h
  have hb := bounds_u32 hw
  refine ⟨UInt32.ofNat z.toNat, ?_⟩
  rw [e]
  unfold U.bv
  rw [UInt32.toNat_ofNat']
  congr 2
  omega
set_option maxRecDepth 10000 in
theorem mach_at {fuel : Nat} {cs : List Value} {x : DataW H × List MemPlace} (h : DataW.trod enc Try.prog w 0 (fun _ => true) held fuel 30 cs = some x) :
    ∃ (y : Mn) (AH AM : Option Addr) (nH cH nM cM : Nat) (zh zm : List Int), cs = mcL y (.slice AH nH cH) (.slice AM nM cM) ∧ U.IsRow w AH nH cH zh ∧ IsRow w AM nM cM zm := by
  obtain ⟨xs, n, _, rfl, hl, hlen, hf⟩ := DataW.trod_struct u30 h
  obtain ⟨m0, m1, m2, m3, m4, m5⟩ := mcells
  rw [m0] at hl
  match xs, hlen with
  | [y0, y1, y2, y3, y4, y5, y6, y7], _ =>
    have h0 : DataW.trod enc Try.prog w 0 (fun _ => true) held n 25 ((cs.drop 0).take (Try.prog.cellsOf 25)) = some y0 := hf 0 _ rfl
    have h1 : DataW.trod enc Try.prog w 0 (fun _ => true) held n 25 ((cs.drop 1).take (Try.prog.cellsOf 25)) = some y1 := hf 1 _ rfl
    have h2 : DataW.trod enc Try.prog w 0 (fun _ => true) held n 25 ((cs.drop 2).take (Try.prog.cellsOf 25)) = some y2 := hf 2 _ rfl
    have h3 : DataW.trod enc Try.prog w 0 (fun _ => true) held n 25 ((cs.drop 3).take (Try.prog.cellsOf 25)) = some y3 := hf 3 _ rfl
    have h4 : DataW.trod enc Try.prog w 0 (fun _ => true) held n 4 ((cs.drop 4).take (Try.prog.cellsOf 4)) = some y4 := hf 4 _ rfl
    have h5 : DataW.trod enc Try.prog w 0 (fun _ => true) held n 26 ((cs.drop 5).take (Try.prog.cellsOf 26)) = some y5 := hf 5 _ rfl
    have h6 : DataW.trod enc Try.prog w 0 (fun _ => true) held n 27 ((cs.drop 261).take (Try.prog.cellsOf 27)) = some y6 := hf 6 _ rfl
    have h7 : DataW.trod enc Try.prog w 0 (fun _ => true) held n 28 ((cs.drop 262).take (Try.prog.cellsOf 28)) = some y7 := hf 7 _ rfl
    rw [m2] at h0 h1 h2 h3
    rw [m3] at h4
    rw [m1] at h5
    rw [m4] at h6
    rw [m5] at h7
    obtain ⟨a0, e0⟩ := u32_at (x := y0) h0
    obtain ⟨a1, e1⟩ := u32_at (x := y1) h1
    obtain ⟨a2, e2⟩ := u32_at (x := y2) h2
    obtain ⟨a3, e3⟩ := u32_at (x := y3) h3
    obtain ⟨f, e4, _⟩ := DataW.trod_bool (x := y4) Try.underlying4 h4
    obtain ⟨zs, m, rfl, _, hl5, hz5, hg5⟩ := DataW.trod_array (x := y5) Try.underlying26 h5
    rw [m2] at hg5
    obtain ⟨AH, nH, cH, zh, e6, hH⟩ := rowU_at (x := y6) h6
    obtain ⟨AM, nM, cM, zm, e7, hM⟩ := rowB_at (x := y7) h7
    have hr : ∀ i, i < 256 → ∃ a : UInt32, cs[5 + i]? = some (U.bv a) := by
      intro i hi
      have hi2 := hg5 i hi
      have hxi : zs[i]? = some (zs[i]'(by omega)) := List.getElem?_eq_getElem (by omega)
      rw [hxi] at hi2
      obtain ⟨a, ea⟩ := u32_at hi2
      refine ⟨a, ?_⟩
      have := one_of ea
      rw [Nat.mul_one, List.getElem?_take, List.getElem?_drop, if_pos hi] at this
      exact this
    let r : Nat → UInt32 := fun i => if hi : i < 256 then Classical.choose (hr i hi) else 0
    have hr2 : ∀ i, i < 256 → cs[5 + i]? = some (U.bv (r i)) := by
      intro i hi
      have := Classical.choose_spec (hr i hi)
      show cs[5 + i]? = some (U.bv (if hi : i < 256 then Classical.choose (hr i hi) else 0))
      rw [dif_pos hi]
      exact this
    have c0 := one_of e0
    have c1 := one_of e1
    have c2 := one_of e2
    have c3 := one_of e3
    have c4 := one_of e4
    have c6 := one_of e6
    have c7 := one_of e7
    refine ⟨⟨a0, a1, a2, a3, f, r, [], []⟩, AH, AM, nH, cH, nM, cM, zh, zm, ?_, hH, hM⟩
    apply List.ext_getElem?
    intro i
    by_cases hi : i < 263
    · rcases (by omega : i = 0 ∨ i = 1 ∨ i = 2 ∨ i = 3 ∨ i = 4 ∨ (5 ≤ i ∧ i < 261) ∨ i = 261 ∨ i = 262) with rfl | rfl | rfl | rfl | rfl | hi | rfl | rfl
      · rw [c0, mc_0]
      · rw [c1, mc_1]
      · rw [c2, mc_2]
      · rw [c3, mc_3]
      · rw [c4, mc_4]
      · obtain ⟨j, rfl⟩ : ∃ j, i = 5 + j := ⟨i - 5, by omega⟩
        rw [hr2 j (by omega), mc_r _ _ _ j (by omega)]
      · rw [c6, mc_h]
      · rw [c7, mc_m]
    · rw [List.getElem?_eq_none (by omega), List.getElem?_eq_none (by rw [mc_len]; omega)]
theorem row_maxB {A : Option Addr} {n c : Nat} {zs : List Int} (h : IsRow w A n c zs) : n ≤ 9223372036854775807 := by
  rcases h with ⟨_, rfl, _, _⟩ | ⟨x, _, hl, hx, _⟩
  · omega
  · unfold maxLen at hx; omega
theorem row_maxU {A : Option Addr} {n c : Nat} {zs : List Int} (h : U.IsRow w A n c zs) : n ≤ 9223372036854775807 := by
  rcases h with ⟨_, rfl, _, _⟩ | ⟨x, _, hl, hx, _⟩
  · omega
  · unfold maxLen at hx; omega
end
/-- The same cells, with lists of its own. -/
theorem mc_lists (y : Mn) (l : List UInt32) (m : List UInt8) (sh sm : Value) : mcL y sh sm = mcL { y with h := l, m := m } sh sm := rfl
theorem does_any (w : World) (y : Mn) (o d s n a0 a1 : Int) (ho : 0 ≤ o) (AH AM : Option Addr) (nH cH nM cM : Nat) (zh zm : List Int) (hH : U.IsRow w AH nH cH zh) (hM : IsRow w AM nM cM zm) :
    Calls Try.prog 3 #[vI o d s n, vM y (.slice AH nH cH) (.slice AM nM cM), .agg #[.int .i64 a0, .int .i64 a1]] w fun e w' => e = .returned (.bool true) ∧ Below w.heap.size w w' := by
  by_cases hl : largeN nH nM = true
  · exact does_big w y o d s n a0 a1 AH AM nH cH nM cM (row_maxU hH) (row_maxB hM) hl (hid awake_any)
  · have h1 : nH ≤ 300 ∧ nM ≤ 5000 := by
      unfold largeN at hl
      simp only [Bool.or_eq_true, decide_eq_true_eq, not_or] at hl
      omega
    obtain ⟨lh, bh⟩ := U.isBB_of_row hH (by omega)
    obtain ⟨lm, bm⟩ := isBB_of_row hM (by omega)
    have e : vM y (.slice AH nH cH) (.slice AM nM cM) = vM { y with h := lh, m := lm } (.slice AH nH cH) (.slice AM nM cM) := rfl
    rw [e]
    exact does_small w { y with h := lh, m := lm } o d s n a0 a1 ho AH AM nH cH nM cM bh bm h1.1 h1.2 (hid awake_any)
theorem okWide_arr {w : World} {base n : Nat} {t e : TypeId} {v : Value} (ht : Try.prog.underlying t = some (.array n e)) (h : Value.okWide Try.prog w .any base t v) : ∃ cs, v = .agg cs ∧ cs.size = Try.prog.cellsOf t := by
  simp only [Value.okWide, ht] at h
  obtain ⟨cs, h1, h2, _⟩ := h
  exact ⟨cs, h1, h2⟩
theorem cells31 : Try.prog.cellsOf 31 = 2 ∧ Try.prog.cellsOf 42 = 4 ∧ Try.prog.cellsOf 3 = 1 := ⟨by kernel_rfl, by kernel_rfl, by kernel_rfl⟩
section
variable {H : Type} {enc : TypeId × Value → H} {w : World} {held : Bool}
theorem two_at {fuel : Nat} {cs : List Value} {x : DataW H × List MemPlace} (h : DataW.trod enc Try.prog w 0 (fun _ => true) held fuel 31 cs = some x) : ∃ a b : Int, cs = [.int .i64 a, .int .i64 b] := by
  obtain ⟨xs, m, _, rfl, hl, hlen, hf⟩ := DataW.trod_array Try.underlying31 h
  obtain ⟨m0, m1, m2⟩ := cells31
  rw [m0] at hl
  rw [m2] at hf
  match xs, hlen, cs, hl with
  | [y0, y1], _, [c0, c1], _ =>
    have h0 : DataW.trod enc Try.prog w 0 (fun _ => true) held m 3 [c0] = some y0 := hf 0 (by decide)
    have h1 : DataW.trod enc Try.prog w 0 (fun _ => true) held m 3 [c1] = some y1 := hf 1 (by decide)
    obtain ⟨a, e0, _, _⟩ := DataW.trod_int Try.underlying3 h0
    obtain ⟨b, e1, _, _⟩ := DataW.trod_int Try.underlying3 h1
    simp at e0 e1
    subst e0 e1
    exact ⟨a, b, rfl⟩
theorem uS24 : Try.prog.underlying 24 = some (.struct #[⟨"Op", 22, 0, false, "", "", 0⟩, ⟨"D", 3, 1, false, "", "", 8⟩, ⟨"S", 3, 2, false, "", "", 16⟩, ⟨"N", 3, 3, false, "", "", 24⟩]) := by kernel_rfl
theorem cellsS : Try.prog.cellsOf 24 = 4 ∧ Try.prog.cellsOf 22 = 1 ∧ Try.prog.cellsOf 3 = 1 := ⟨by kernel_rfl, by kernel_rfl, by kernel_rfl⟩
theorem ins_at {fuel : Nat} {cs : List Value} {x : DataW H × List MemPlace} (h : DataW.trod enc Try.prog w 0 (fun _ => true) held fuel 24 cs = some x) : ∃ o d s n : Int, 0 ≤ o ∧ cs = [.int .u8 o, .int .i64 d, .int .i64 s, .int .i64 n] := by
  obtain ⟨xs, m, _, rfl, hl, hlen, hf⟩ := DataW.trod_struct uS24 h
  obtain ⟨m0, m1, m2⟩ := cellsS
  rw [m0] at hl
  match xs, hlen, cs, hl with
  | [y0, y1, y2, y3], _, [c0, c1, c2, c3], _ =>
    have h0 := hf 0 _ rfl
    have h1 := hf 1 _ rfl
    have h2 := hf 2 _ rfl
    have h3 := hf 3 _ rfl
    simp [m1, m2] at h0 h1 h2 h3
    obtain ⟨A0, e0, _, hw⟩ := DataW.trod_int Try.underlying22 h0
    obtain ⟨A1, e1, _, _⟩ := DataW.trod_int Try.underlying3 h1
    obtain ⟨A2, e2, _, _⟩ := DataW.trod_int Try.underlying3 h2
    obtain ⟨A3, e3, _, _⟩ := DataW.trod_int Try.underlying3 h3
    have hb := bounds_u8 hw
    simp at e0 e1 e2 e3
    subst e0 e1 e2 e3
    exact ⟨A0, A1, A2, A3, by omega, rfl⟩
end
end Go.Proofs.Ytaogileaeflnfaa
namespace Go.Proofs.Ytaogileaeflnfaa.vmDoes
open Go.ChangeShapes Go.WideShapes Go.ChangeAt Go.RowKit
set_option linter.unusedVariables false

theorem own : ownKnob Try.prog.godebug = none := by kernel_rfl
theorem laidOut : laidOutB Try.prog = true := by kernel_rfl
set_option maxRecDepth 100000 in
theorem lifted (os : Os) (started : os.Started) (H : Type) (enc : TypeId × Value → H) :
    ReturnsInHanded {} Try.checked os 3 .any (Rows.vmDoesSpec.pre6 enc Try.prog Try.f3 Rows.vmDoesRow.domain false) (Rows.vmDoesSpec.post enc Try.prog Try.f3 false true false false) := by
  refine returnsInHanded_of_change (C := Try.checked) own started (by kernel_rfl) Try.func3
    (ChangeSpec.witness6 (enc := enc) (C := Try.checked) false ⟨#[], #[.agg #[.int .u8 0, .int .i64 0, .int .i64 0, .int .i64 0], .agg zL.toArray, .agg #[.int .i64 0, .int .i64 0]], []⟩ 8 (by kernel_rfl) (by kernel_rfl) (by kernel_rfl) (by kernel_rfl)) ?_
  intro W base args ds gs before hval0 hW hcnd _
  have hval : ∀ (j : Nat) t v, Try.f3.params[j]? = some t → args[j]? = some v → Value.okWide Try.prog W .any base t v := hval0
  have hW' := hW
  obtain ⟨p, q, hA0, hV, rfl, hfz, hnd⟩ := hW
  have hA : DataW.TrodAll enc Try.prog W 0 (fun _ => true) true Try.f3.params.toList args.toList ds p := hA0
  rw [Try.params3] at hA hval
  obtain ⟨v0, vs0, d0, ds0, p0, q0, hargs, rfl, rfl, h0, r0⟩ := trodAll_cons hA
  obtain ⟨v1, vs1, d1, ds1, p1, q1, rfl, rfl, rfl, h1, r1⟩ := trodAll_cons r0
  obtain ⟨v2, vs2, d2, ds2, p2, q2, rfl, rfl, rfl, h2, r2⟩ := trodAll_cons r1
  obtain ⟨rfl, rfl, rfl⟩ := trodAll_nil r2
  obtain rfl : args = #[v0, v1, v2] := by cases args; simp_all
  obtain ⟨rfl, rfl⟩ := trodVars_none hV
  obtain ⟨cs0, rfl, hsz0⟩ := okWide_struct uS24 (hval 0 24 v0 rfl rfl)
  obtain ⟨cs1, rfl, hsz1⟩ := okWide_struct u30 (hval 1 30 v1 rfl rfl)
  obtain ⟨cs2, rfl, hsz2⟩ := okWide_arr Try.underlying31 (hval 2 31 v2 rfl rfl)
  have k0 := h0
  have lt0 : ∀ x ∈ p0, x.block < W.heap.size := by obtain ⟨m, hm⟩ := k0; exact DataW.trod_lt m _ _ _ hm
  have k1 := h1
  have lt1 : ∀ x ∈ p1, x.block < W.heap.size := by obtain ⟨m, hm⟩ := k1; exact DataW.trod_lt m _ _ _ hm
  have k2 := h2
  have lt2 : ∀ x ∈ p2, x.block < W.heap.size := by obtain ⟨m, hm⟩ := k2; exact DataW.trod_lt m _ _ _ hm
  obtain ⟨o, d, s, n, ho, hcs0⟩ := (by
    obtain ⟨fuel, hf⟩ := h0
    exact ins_at hf :
    ∃ o d s n : Int, 0 ≤ o ∧ (Value.agg cs0).cells.toList = [.int .u8 o, .int .i64 d, .int .i64 s, .int .i64 n])
  obtain ⟨y, AH, AM, nH, cH, nM, cM, zh, zm, hcs, hH, hM⟩ := (by
    obtain ⟨fuel, hf⟩ := h1
    exact mach_at hf :
    ∃ (y : Mn) (AH AM : Option Addr) (nH cH nM cM : Nat) (zh zm : List Int), (Value.agg cs1).cells.toList = mcL y (.slice AH nH cH) (.slice AM nM cM) ∧ U.IsRow W AH nH cH zh ∧ IsRow W AM nM cM zm)
  obtain ⟨b0, b1, hcs2⟩ := (by
    obtain ⟨fuel, hf⟩ := h2
    exact two_at hf :
    ∃ (a b : Int), (Value.agg cs2).cells.toList = [.int .i64 a, .int .i64 b])
  obtain rfl : cs0 = #[.int .u8 o, .int .i64 d, .int .i64 s, .int .i64 n] := Array.ext' (by simpa [Value.cells] using hcs0)
  obtain rfl : cs1 = (mcL y (.slice AH nH cH) (.slice AM nM cM)).toArray := Array.ext' (by simpa only [Value.cells, List.toList_toArray] using hcs)
  obtain rfl : cs2 = #[.int .i64 b0, .int .i64 b1] := Array.ext' (by simpa [Value.cells] using hcs2)
  clear hA0 hval0
  refine (does_any W y o d s n b0 b1 ho AH AM nH cH nM cM zh zm hH hM).mono fun e W' ⟨he, bel⟩ => ?_
  subst he
  exact ⟨_, rfl, _, _, _, [], _, [], hW', trodAll_mk1 (shut_bool Try.underlying4 _), (trodAll_cons_mk (Below.trod laidOut (by kernel_rfl) (of_decide_eq_true (by kernel_rfl)) k0 bel lt0) (trodAll_cons_mk (Below.trod laidOut (by kernel_rfl) (of_decide_eq_true (by kernel_rfl)) k1 bel lt1) (trodAll_cons_mk (Below.trod laidOut (by kernel_rfl) (of_decide_eq_true (by kernel_rfl)) k2 bel lt2) trodAll_mk0))), rfl, bel.frame _, fun h => by cases h⟩

theorem over : Rows.vmDoesRow.holds Try.pinned (OpenSpec.ofChange Rows.vmDoesSpec) :=
  OpenClaim.holds_of_wide 3 Try.f3 rfl rfl rfl rfl rfl rfl rfl ⟨rfl, rfl, rfl, rfl, rfl⟩ rfl rfl rfl rfl rfl (by kernel_rfl) Try.func3 (by kernel_rfl)
    (of_decide_eq_true (by kernel_rfl)) (by unfold Func.isWrapper; first | (rw [if_pos (by decide +kernel)]; kernel_rfl) | (rw [if_neg (by decide +kernel)]; exact ⟨rfl, rfl⟩))
    (fun os started H enc _ => lifted os started H enc)

theorem proved : Rows.VmDoesSaid := over
end Go.Proofs.Ytaogileaeflnfaa.vmDoes
