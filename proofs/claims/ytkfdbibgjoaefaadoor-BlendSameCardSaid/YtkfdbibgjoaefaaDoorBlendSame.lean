/-
  PROVED: two blends that are handed the same contexts and bits say the same at every step, within their range, for any parts and any acts (tied card).
  CONDITION (tied by the given text to the program's own): the listed package variables read, when the call begins, as the program's text lays them.
-/
import Derived.Test.YtkfdbibgjoaefaaDoorRows
import Derived.Test.YtkfdbibgjoaefaaDoorCards
import Derived.Test.YtkfdbibgjoaefaaDoorTie
import Derived.Test.YtkfdbibgjoaefaaDoorZk
import Derived.Test.YtkfdbibgjoaefaaDoorZa
import Derived.Deep.Slices
import Derived.WalkKit
import Derived.ProofKit
import Derived.OpenShut
import Derived.LaidMore
import Derived.Stop.Joined
import Derived.ChangeOld
import Derived.Below
import Derived.SevenTiedAt
import Derived.ShutString
namespace Go.Proofs.YtkfdbibgjoaefaaDoor.blendSame
open Go.ChangeShapes Go.WideShapes Go.ChangeAt Go.WideMaps Go.WideElems Go.RowKit
set_option linter.unusedVariables false

theorem own : ownKnob Tryd.prog.godebug = none := by kernel_rfl
theorem laidOut : laidOutB Tryd.prog = true := by kernel_rfl
/-- The door's own heap meets the condition. -/
theorem door_met (os : Os) (args : Array Value) : laidMetH Tryd.prog [("quillpress/squash.knots", Rows.laid_quillpress_squash_knots)] ((World.doorLaid Tryd.prog 14 os).forCall (fun _ _ => 0) ⟨#[], args, []⟩).memory :=
  laidMetH_of_parts3 (fuel := 8) (laidMet_of_run' 8 (by kernel_rfl) (by kernel_rfl)) (by kernel_rfl) (by kernel_rfl)

theorem u37 : Tryd.prog.underlying 37 = some (.slice 42) := by kernel_rfl
theorem u42 : Tryd.prog.underlying 42 = some (.struct #[⟨"Kind", 3, 0, false, "", "", 0⟩, ⟨"H", 22, 1, false, "", "", 8⟩, ⟨"Bit", 3, 2, false, "", "", 32⟩]) := by kernel_rfl
theorem u22 : Tryd.prog.underlying 22 = some (.slice 26) := by kernel_rfl
theorem u26 : Tryd.prog.underlying 26 = some (.int .u32) := by kernel_rfl
theorem cells42 : Tryd.prog.cellsOf 42 = 3 := by kernel_rfl
theorem cells22 : Tryd.prog.cellsOf 22 = 1 := by kernel_rfl
section
variable {H : Type} {enc : TypeId × Value → H} {w : World} {held : Bool}
theorem nats_of {zs : List Int} (h : ∀ z ∈ zs, 0 ≤ z ∧ z ≤ 4294967295) : (∀ j, j < zs.length → ((((zs.map Int.toNat).getD j 0 : Nat)) : Int) = zs.getD j 0) ∧ ∀ x ∈ zs.map Int.toNat, x < 4294967296 := by
  refine ⟨fun j hj => ?_, fun x hx => ?_⟩
  · have e1 : (zs.map Int.toNat).getD j 0 = zs[j].toNat := by simp [List.getD_eq_getElem?_getD, hj]
    have e2 : zs.getD j 0 = zs[j] := by simp [List.getD_eq_getElem?_getD, hj]
    rw [e1, e2]
    exact Int.toNat_of_nonneg (h _ (List.getElem_mem hj)).1
  · obtain ⟨z, hz, rfl⟩ := List.mem_map.1 hx
    have := h z hz
    omega
set_option maxRecDepth 10000 in
theorem act_at {fuel : Nat} {cs : List Value} {x : DataW H × List MemPlace} (h : DataW.trod enc Tryd.prog w 0 (fun _ => true) held fuel 42 cs = some x) :
    ∃ (K bt : Int) (A : Option Addr) (m mc : Nat) (hs : List Nat), cs = [.int .i64 K, .slice A m mc, .int .i64 bt] ∧ WsAt w w.heap.size A m mc hs := by
  obtain ⟨xs, n, _, rfl, hl, hlen, hf⟩ := DataW.trod_struct u42 h
  match xs, hlen with
  | [y0, y1, y2], _ =>
    have h0 := hf 0 _ rfl
    have h1 := hf 1 _ rfl
    have h2 := hf 2 _ rfl
    rw [cells42] at hl
    match cs, hl with
    | [c0, c1, c2], _ =>
      simp [cells3, cells22] at h0 h1 h2
      obtain ⟨K, e0, _, _⟩ := DataW.trod_int Tryd.underlying3 h0
      obtain ⟨B, e2, _, _⟩ := DataW.trod_int Tryd.underlying3 h2
      simp at e0 e2
      subst e0 e2
      rcases open_ints u22 u26 (by kernel_rfl) h1 with ⟨hcs, _⟩ | ⟨ad, l, c, zs, hcs, _, hl, hm, hz, _, hcell, hwz⟩
      · simp at hcs
        exact ⟨K, B, none, 0, 0, [], by rw [hcs], rfl, fun h => absurd h (by omega), fun x hx => by simp at hx⟩
      · simp at hcs
        have hzl : zs.length = c := by simpa using hz
        have hb : ∀ z ∈ zs.take l, 0 ≤ z ∧ z ≤ 4294967295 := fun z hz => bounds_u32 (hwz z (List.mem_of_mem_take hz))
        obtain ⟨n1, n2⟩ := nats_of hb
        have htl : (zs.take l).length = l := by rw [List.length_take]; omega
        refine ⟨K, B, some ad, l, c, (zs.take l).map Int.toNat, by rw [hcs], by rw [List.length_map]; exact htl, fun h0 => ⟨ad, rfl, ?_, fun j hj => ?_⟩, n2⟩
        · have := lt_cell (hcell 0 (by omega))
          rw [block_of_add] at this
          exact this
        · have e2 : (zs.take l).getD j 0 = zs.getD j 0 := by simp [List.getD_eq_getElem?_getD, hj]
          rw [n1 j (by omega), e2]
          exact hcell j (by omega)
theorem open_acts {fuel len cap : Nat} {a : Option Addr} {x : DataW H × List MemPlace} (h : DataW.trod enc Tryd.prog w 0 (fun _ => true) held fuel 37 [.slice a len cap] = some x) : ActsL w w.heap.size a len cap := by
  rcases Go.Deep.open_slice u37 h with ⟨hcs, _⟩ | ⟨ad, l, c, m, n, D, Pl, hcs, _, hl, hm, hmm, hx, hi⟩
  · simp at hcs
    obtain ⟨rfl, rfl, rfl⟩ := hcs
    exact ⟨Nat.le_refl _, Nat.zero_le _, fun i h0 => absurd h0 (by omega)⟩
  · simp at hcs
    obtain ⟨rfl, rfl, rfl⟩ := hcs
    have hlm : len ≤ m := by rw [hmm]; split <;> omega
    refine ⟨hl, hm, fun i hil => ?_⟩
    obtain ⟨cs', hc, ht⟩ := hi i (by omega)
    rw [cells42] at hc
    obtain ⟨_, _, hat⟩ := World.cells?_some hc
    obtain ⟨K, bt, A, m1, mc, hs, rfl, hw⟩ := act_at ht
    have c0 := hat 0 (by omega)
    have c1 := hat 1 (by omega)
    have c2 := hat 2 (by omega)
    rw [add_of_add] at c0 c1 c2
    have hlt := lt_cell c0
    rw [block_of_add] at hlt
    exact ⟨ad, K, bt, A, m1, mc, hs, rfl, hlt, c0, c1, c2, hw⟩
end

set_option maxRecDepth 100000 in
theorem lifted (os : Os) (started : os.Started) (H : Type) (enc : TypeId × Value → H) :
    ReturnsInHanded {} Tryd.checked os 4 .any (fun w args => (Rows.blendSameSpec.pre enc Tryd.prog Tryd.f4 [] false w args ∧ laidMetH Tryd.prog [("quillpress/squash.knots", Rows.laid_quillpress_squash_knots)] w) ∧ sizedMet enc Tryd.prog Tryd.f4 (OpenSpec.ofChange Rows.blendSameSpec) false w args)
      (Rows.blendSameSpec.post enc Tryd.prog Tryd.f4 false true false false) := by
  refine returnsInHanded_of_change_and (C := Tryd.checked) (X := fun w _ => laidMetH Tryd.prog [("quillpress/squash.knots", Rows.laid_quillpress_squash_knots)] w) (fun _ _ _ hh h => h.of_heap hh) own started (by kernel_rfl) Tryd.func4
    (ChangeSpec.witness_shaped (enc := enc) (C := Tryd.checked) (os := os) (X := fun w _ => laidMetH Tryd.prog [("quillpress/squash.knots", Rows.laid_quillpress_squash_knots)] w) false (World.doorLaid Tryd.prog 14 os) #[.slice none 0 0, .slice none 0 0] 8 rfl (World.shaped_of_RefB (by kernel_rfl) (by kernel_rfl)) (by kernel_rfl) (by kernel_rfl) (by kernel_rfl) (door_met os _)) ?_
  intro W base args ds gs before hval0 hW _ _ hL0 _
  have hval : ∀ (j : Nat) t v, Tryd.f4.params[j]? = some t → args[j]? = some v → Value.okWide Tryd.prog W .any base t v := hval0
  have hL : laidMet Tryd.prog [("quillpress/squash.knots", Rows.laid_quillpress_squash_knots)] W := by rw [MakeChecks.laidMetH_plain _ _ _ (by kernel_rfl)] at hL0; exact hL0
  have hW' := hW
  obtain ⟨p, q, hA0, hV, rfl, hfz, hnd⟩ := hW
  have hA : DataW.TrodAll enc Tryd.prog W 0 (fun _ => true) true Tryd.f4.params.toList args.toList ds p := hA0
  rw [Tryd.params4] at hA hval
  obtain ⟨v0, vs0, d0, ds0, p0, q0, hargs, rfl, rfl, h0, r0⟩ := trodAll_cons hA
  obtain ⟨v1, vs1, d1, ds1, p1, q1, rfl, rfl, rfl, h1, r1⟩ := trodAll_cons r0
  obtain ⟨rfl, rfl, rfl⟩ := trodAll_nil r1
  obtain rfl : args = #[v0, v1] := by cases args; simp_all
  obtain ⟨rfl, rfl⟩ := trodVars_none hV
  obtain ⟨a0, len0, cap0, rfl⟩ := okWide_slice Tryd.underlying36 (hval 0 36 v0 rfl rfl)
  obtain ⟨a1, len1, cap1, rfl⟩ := okWide_slice u37 (hval 1 37 v1 rfl rfl)
  have k0 := h0
  have lt0 : ∀ x ∈ p0, x.block < W.heap.size := by obtain ⟨m, hm⟩ := k0; exact DataW.trod_lt m _ _ _ hm
  have k1 := h1
  have lt1 : ∀ x ∈ p1, x.block < W.heap.size := by obtain ⟨m, hm⟩ := k1; exact DataW.trod_lt m _ _ _ hm
  obtain ⟨L, hP⟩ : ∃ L, IsP W W.heap.size a0 len0 cap0 L := by
    obtain ⟨fuel, hf⟩ := h0
    exact open_parts (by simpa [Value.cells] using hf)
  have hO : ActsL W W.heap.size a1 len1 cap1 := by
    obtain ⟨fuel, hf⟩ := h1
    exact open_acts (by simpa [Value.cells] using hf)
  clear hA0 hval0
  simp only [List.append_nil] at hW'
  refine (BlendSame_any W (knIs_of_laid hL) a0 len0 cap0 L hP a1 len1 cap1 hO).mono fun e W' ⟨he, bel⟩ => ?_
  subst he
  exact ⟨_, rfl, _, _, _, [], _, [], hW', trodAll_mk1 (shut_bool Tryd.underlying4 _), (trodAll_cons_mk (Below.trod laidOut (by kernel_rfl) (of_decide_eq_true (by kernel_rfl)) k0 bel lt0) (trodAll_cons_mk (Below.trod laidOut (by kernel_rfl) (of_decide_eq_true (by kernel_rfl)) k1 bel lt1) trodAll_mk0)), rfl, bel.frame _, fun h => by cases h⟩

theorem row_holds : Rows.BlendSameSaid :=
  OpenClaim.holds_of_wide 4 Tryd.f4 rfl rfl rfl rfl rfl rfl rfl ⟨rfl, rfl, rfl, rfl, rfl⟩ rfl rfl rfl rfl rfl (by kernel_rfl) Tryd.func4 (by kernel_rfl)
    (of_decide_eq_true (by kernel_rfl)) (by unfold Func.isWrapper; first | (rw [if_pos (by decide +kernel)]; kernel_rfl) | (rw [if_neg (by decide +kernel)]; exact ⟨rfl, rfl⟩))
    (fun os started H enc _ => lifted os started H enc)
/-- The tied card. -/
theorem proved : Rows.BlendSameCardSaid :=
  Claim7.holds_tied_plain_at .later [] [.data] true (true, "2a188ad0932ffc05274fbf256ef039e8dcb36fe3c66419c05d9b1686f11f3db7") false
    row_holds (fun _ h => by cases h) (by kernel_rfl) (fun _ h => by cases h) blendSame_row_tie rfl ⟨rfl, rfl⟩ (by kernel_rfl) rfl
    (fun f fn hf hfn => by
      obtain rfl : f = 4 := Option.some.inj ((show Tryd.prog.funcNamed Rows.blendSameRow.func = some 4 by kernel_rfl).symm.trans hf) |>.symm
      obtain rfl : fn = Tryd.f4 := (Option.some.inj (Tryd.func4.symm.trans hfn)).symm
      exact ⟨by kernel_rfl, fun j t ht => by
        rw [Tryd.params4] at ht
        have hm : t ∈ [36, 37] := by have := Array.mem_of_getElem? ht; simp at this; simp [this]
        have hall : ([36, 37].all fun u => !Tryd.prog.wantsStandIn u) = true := by kernel_rfl
        exact (show Tryd.prog.wantsStandIn t = false by simpa using List.all_eq_true.1 hall t hm)⟩)
    (by kernel_rfl)
end Go.Proofs.YtkfdbibgjoaefaaDoor.blendSame
