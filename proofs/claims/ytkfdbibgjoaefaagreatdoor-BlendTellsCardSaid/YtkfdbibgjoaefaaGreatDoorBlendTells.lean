/-
  PROVED: a blend says at every step what the document's blend says, for any parts and any acts (tied card).
  CONDITION (tied by the given text to the program's own): the listed package variables read, when the call begins, as the program's text lays them.
-/
import Derived.Test.YtkfdbibgjoaefaaGreatDoorRows
import Derived.Test.YtkfdbibgjoaefaaGreatDoorCards
import Derived.Test.YtkfdbibgjoaefaaGreatDoorTie
import Derived.Test.YtkfdbibgjoaefaaGreatDoorMg45
import Derived.Deep.Slices
import Derived.WalkKit
import Derived.ProofKit
import Derived.OpenShut
import Derived.LaidMore
import Derived.Stop.Joined
import Derived.ChangeOld
import Derived.Below
import Derived.SevenTiedAt
import Derived.ShutString
namespace Go.Proofs.YtkfdbibgjoaefaaGreatDoor.blendTells
open Go.ChangeShapes Go.WideShapes Go.ChangeAt Go.WideMaps Go.WideElems Go.RowKit
set_option linter.unusedVariables false

theorem own : ownKnob Tryz.prog.godebug = none := by kernel_rfl
theorem laidOut : laidOutB Tryz.prog = true := by kernel_rfl
/-- The door's own heap meets the condition. -/
theorem door_met (os : Os) (args : Array Value) : laidMetH Tryz.prog [("quillpress/squash.knots", Rows.laid_quillpress_squash_knots)] ((World.doorLaid Tryz.prog 14 os).forCall (fun _ _ => 0) ⟨#[], args, []⟩).memory :=
  laidMetH_of_parts3 (fuel := 8) (laidMet_of_run' 8 (by kernel_rfl) (by kernel_rfl)) (by kernel_rfl) (by kernel_rfl)

theorem u23 : Tryz.prog.underlying 23 = some (.slice 41) := by kernel_rfl
theorem u41 : Tryz.prog.underlying 41 = some (.struct #[⟨"Kind", 3, 0, false, "", "", 0⟩, ⟨"H", 39, 1, false, "", "", 8⟩, ⟨"Bit", 3, 2, false, "", "", 32⟩]) := by kernel_rfl
theorem u39 : Tryz.prog.underlying 39 = some (.slice 56) := by kernel_rfl
theorem u56 : Tryz.prog.underlying 56 = some (.int .u32) := by kernel_rfl
theorem cells41 : Tryz.prog.cellsOf 41 = 3 := by kernel_rfl
theorem cells39 : Tryz.prog.cellsOf 39 = 1 := by kernel_rfl
theorem bytes56 : Tryz.prog.bytesOf 56 = 4 := by kernel_rfl
theorem bytes38 : Tryz.prog.bytesOf 38 = 56 := by kernel_rfl
theorem weightsAll_mem {H : Type} {P : Program} {e : TypeId} : ∀ {l : List (DataW H)} {d : DataW H}, d ∈ l → ∀ n ∈ d.weights P e, n ∈ DataW.weightsAll P e l
  | d' :: r, d, hd, n, hn => by
    simp only [DataW.weightsAll, List.mem_append]
    rcases List.mem_cons.1 hd with rfl | h
    · exact Or.inl hn
    · exact Or.inr (weightsAll_mem h n hn)
section
variable {H : Type} {enc : TypeId × Value → H} {w : World} {held : Bool}
theorem nats_of {zs : List Int} (h : ∀ z ∈ zs, 0 ≤ z ∧ z ≤ 4294967295) : (∀ j, j < zs.length → ((((zs.map Int.toNat).getD j 0 : Nat)) : Int) = zs.getD j 0) ∧ ∀ x ∈ zs.map Int.toNat, x < 4294967296 := by
  refine ⟨fun j hj => ?_, fun x hx => ?_⟩
  · have e1 : (zs.map Int.toNat).getD j 0 = zs[j].toNat := by simp [List.getD_eq_getElem?_getD, hj]
    have e2 : zs.getD j 0 = zs[j] := by simp [List.getD_eq_getElem?_getD, hj]
    rw [e1, e2]
    exact Int.toNat_of_nonneg (h _ (List.getElem_mem hj)).1
  · obtain ⟨z, hz, rfl⟩ := List.mem_map.1 hx
    have := h z hz
    omega
theorem slice_reach {t e : TypeId} (hu : Tryz.prog.underlying t = some (.slice e)) {fuel len cap : Nat} {a : Option Addr} {x : DataW H × List MemPlace} (h : DataW.trod enc Tryz.prog w 0 (fun _ => true) held fuel t [.slice a len cap] = some x) (hw : ∀ k ∈ x.1.weights Tryz.prog t, k ≤ reachBytes) :
    len * Tryz.prog.bytesOf e ≤ reachBytes := by
  rcases DataW.trod_slice hu h with ⟨hcs, _⟩ | ⟨ad, l, c, elems, rest, m, hm, hcs, hx, _, hl, hmx, hlen, hel, hsp, _⟩
  · simp at hcs
    obtain ⟨rfl, rfl, rfl⟩ := hcs
    simp
  · simp at hcs
    obtain ⟨rfl, rfl, rfl⟩ := hcs
    have := hw ((elems.length + rest.length) * Tryz.prog.bytesOf e) (by rw [hx]; simp only [DataW.weights, hu, List.length_map]; exact List.mem_cons_self)
    have h2 : len * Tryz.prog.bytesOf e ≤ (elems.length + rest.length) * Tryz.prog.bytesOf e := Nat.mul_le_mul_right _ (by omega)
    omega
set_option maxRecDepth 10000 in
theorem act_at {fuel : Nat} {cs : List Value} {x : DataW H × List MemPlace} (h : DataW.trod enc Tryz.prog w 0 (fun _ => true) held fuel 41 cs = some x) (hw : ∀ k ∈ x.1.weights Tryz.prog 41, k ≤ reachBytes) :
    ∃ (K bt : Int) (A : Option Addr) (m mc : Nat) (hs : List Nat), cs = [.int .i64 K, .slice A m mc, .int .i64 bt] ∧ WsAt w w.heap.size A m mc hs ∧ m * 4 ≤ 140737488351232 := by
  obtain ⟨xs, n, _, rfl, hl, hlen, hf⟩ := DataW.trod_struct u41 h
  match xs, hlen with
  | [y0, y1, y2], _ =>
    have h0 := hf 0 _ rfl
    have h1 := hf 1 _ rfl
    have h2 := hf 2 _ rfl
    rw [cells41] at hl
    have w1 : ∀ k ∈ y1.1.weights Tryz.prog 39, k ≤ reachBytes := fun k hk => hw k (by
      simp only [DataW.weights, u41, List.map_cons, List.map_nil]
      exact DataW.weights_mem_each (j := 1) (t := 39) (d := y1.1) rfl rfl k hk)
    match cs, hl with
    | [c0, c1, c2], _ =>
      simp [cells3, cells39] at h0 h1 h2
      obtain ⟨K, e0, _, _⟩ := DataW.trod_int Tryz.underlying3 h0
      obtain ⟨B, e2, _, _⟩ := DataW.trod_int Tryz.underlying3 h2
      simp at e0 e2
      subst e0 e2
      have h1' := h1
      rcases open_ints u39 u56 (by kernel_rfl) h1 with ⟨hcs, _⟩ | ⟨ad, l, c, zs, hcs, _, hl, hm, hz, _, hcell, hwz⟩
      · simp at hcs
        exact ⟨K, B, none, 0, 0, [], by rw [hcs], ⟨rfl, fun h => absurd h (by omega), fun x hx => by simp at hx⟩, by omega⟩
      · simp at hcs
        have hm4 : l * 4 ≤ 140737488351232 := by
          rw [hcs] at h1'
          have := slice_reach u39 h1' w1
          rw [bytes56] at this
          exact this
        have hzl : zs.length = c := by simpa using hz
        have hb : ∀ z ∈ zs.take l, 0 ≤ z ∧ z ≤ 4294967295 := fun z hz => bounds_u32 (hwz z (List.mem_of_mem_take hz))
        obtain ⟨n1, n2⟩ := nats_of hb
        have htl : (zs.take l).length = l := by rw [List.length_take]; omega
        refine ⟨K, B, some ad, l, c, (zs.take l).map Int.toNat, by rw [hcs], ⟨by rw [List.length_map]; exact htl, fun h0 => ⟨ad, rfl, ?_, fun j hj => ?_⟩, n2⟩, hm4⟩
        · have := lt_cell (hcell 0 (by omega))
          rw [block_of_add] at this
          exact this
        · have e2 : (zs.take l).getD j 0 = zs.getD j 0 := by simp [List.getD_eq_getElem?_getD, hj]
          rw [n1 j (by omega), e2]
          exact hcell j (by omega)
theorem open_acts {fuel len cap : Nat} {a : Option Addr} {x : DataW H × List MemPlace} (h : DataW.trod enc Tryz.prog w 0 (fun _ => true) held fuel 23 [.slice a len cap] = some x) (hw : ∀ k ∈ x.1.weights Tryz.prog 23, k ≤ reachBytes) : ActsM w w.heap.size a len cap := by
  rcases DataW.trod_slice u23 h with ⟨hcs, _⟩ | ⟨ad, l, c, elems, rest, m, hm, hcs, hx, _, hl, hmx, hlen, hel, hsp, _⟩
  · simp at hcs
    obtain ⟨rfl, rfl, rfl⟩ := hcs
    exact ⟨Nat.le_refl _, Nat.zero_le _, fun i h0 => absurd h0 (by omega)⟩
  · simp at hcs
    obtain ⟨rfl, rfl, rfl⟩ := hcs
    refine ⟨hl, hmx, fun i hil => ?_⟩
    have he := hel i hil
    have hil2 : i < elems.length := by omega
    rw [List.getElem?_eq_getElem hil2] at he
    obtain ⟨cs', hc, ht⟩ := Option.bind_eq_some_iff.1 he
    rw [cells41] at hc
    obtain ⟨_, _, hat⟩ := World.cells?_some hc
    have hwe : ∀ k ∈ elems[i].1.weights Tryz.prog 41, k ≤ reachBytes := fun k hk => hw k (by
      rw [hx]
      simp only [DataW.weights, u23]
      refine List.mem_cons_of_mem _ (List.mem_append_left _ (weightsAll_mem (List.mem_map.2 ⟨elems[i], List.getElem_mem hil2, rfl⟩) k hk)))
    obtain ⟨K, bt, A, m1, mc, hs, rfl, hw, hm4⟩ := act_at ht hwe
    have c0 := hat 0 (by decide)
    have c1 := hat 1 (by decide)
    have c2 := hat 2 (by decide)
    rw [add_of_add] at c0 c1 c2
    have hlt := lt_cell c0
    rw [block_of_add] at hlt
    exact ⟨ad, K, bt, A, m1, mc, hs, rfl, hlt, c0, c1, c2, hw, hm4⟩
end

set_option maxRecDepth 100000 in
theorem lifted (os : Os) (started : os.Started) (H : Type) (enc : TypeId × Value → H) :
    ReturnsInHanded {} Tryz.checked os 3 .any (fun w args => (Rows.blendTellsSpec.pre enc Tryz.prog Tryz.f3 [] false w args ∧ laidMetH Tryz.prog [("quillpress/squash.knots", Rows.laid_quillpress_squash_knots)] w) ∧ sizedMet enc Tryz.prog Tryz.f3 (OpenSpec.ofChange Rows.blendTellsSpec) false w args)
      (Rows.blendTellsSpec.post enc Tryz.prog Tryz.f3 false true false false) := by
  refine returnsInHanded_of_change_and (C := Tryz.checked) (X := fun w _ => laidMetH Tryz.prog [("quillpress/squash.knots", Rows.laid_quillpress_squash_knots)] w) (fun _ _ _ hh h => h.of_heap hh) own started (by kernel_rfl) Tryz.func3
    (ChangeSpec.witness_shaped (enc := enc) (C := Tryz.checked) (os := os) (X := fun w _ => laidMetH Tryz.prog [("quillpress/squash.knots", Rows.laid_quillpress_squash_knots)] w) false (World.doorLaid Tryz.prog 14 os) #[.slice none 0 0, .slice none 0 0] 8 rfl (World.shaped_of_RefB (by kernel_rfl) (by kernel_rfl)) (by kernel_rfl) (by kernel_rfl) (by kernel_rfl) (door_met os _)) ?_
  intro W base args ds gs before hval0 hW _ hsz hL0 _
  have hval : ∀ (j : Nat) t v, Tryz.f3.params[j]? = some t → args[j]? = some v → Value.okWide Tryz.prog W .any base t v := hval0
  have hL : laidMet Tryz.prog [("quillpress/squash.knots", Rows.laid_quillpress_squash_knots)] W := by rw [MakeChecks.laidMetH_plain _ _ _ (by kernel_rfl)] at hL0; exact hL0
  have hW' := hW
  obtain ⟨p, q, hA0, hV, rfl, hfz, hnd⟩ := hW
  have hA : DataW.TrodAll enc Tryz.prog W 0 (fun _ => true) true Tryz.f3.params.toList args.toList ds p := hA0
  rw [Tryz.params3] at hA hval
  obtain ⟨v0, vs0, d0, ds0, p0, q0, hargs, rfl, rfl, h0, r0⟩ := trodAll_cons hA
  obtain ⟨v1, vs1, d1, ds1, p1, q1, rfl, rfl, rfl, h1, r1⟩ := trodAll_cons r0
  obtain ⟨rfl, rfl, rfl⟩ := trodAll_nil r1
  obtain rfl : args = #[v0, v1] := by cases args; simp_all
  obtain ⟨rfl, rfl⟩ := trodVars_none hV
  have ws : ∀ (j : Nat) (t : TypeId) (d : DataW H), [22, 23][j]? = some t → [d0, d1][j]? = some d → ∀ k ∈ d.weights Tryz.prog t, k ≤ reachBytes := by
    intro j t d ht hd k hk
    rw [Tryz.params3] at hsz
    have hj : j < 2 := by
      rcases Nat.lt_or_ge j 2 with h | h
      · exact h
      · rw [List.getElem?_eq_none (by simpa using h)] at ht; cases ht
    have := List.all_eq_true.1 hsz k (DataW.weights_mem_each (j := j) (t := t) (d := d) (by rw [List.getElem?_append_left (by simpa using hj)]; exact ht) (by rw [List.getElem?_append_left (by simpa using hj)]; exact hd) k hk)
    simpa using this
  obtain ⟨a0, len0, cap0, rfl⟩ := okWide_slice Tryz.underlying22 (hval 0 22 v0 rfl rfl)
  obtain ⟨a1, len1, cap1, rfl⟩ := okWide_slice u23 (hval 1 23 v1 rfl rfl)
  have k0 := h0
  have lt0 : ∀ x ∈ p0, x.block < W.heap.size := by obtain ⟨m, hm⟩ := k0; exact DataW.trod_lt m _ _ _ hm
  have k1 := h1
  have lt1 : ∀ x ∈ p1, x.block < W.heap.size := by obtain ⟨m, hm⟩ := k1; exact DataW.trod_lt m _ _ _ hm
  obtain ⟨L, hP⟩ : ∃ L, IsP W W.heap.size a0 len0 cap0 L := by
    obtain ⟨fuel, hf⟩ := h0
    exact open_parts (by simpa [Value.cells] using hf)
  have hR : len0 * 56 ≤ 140737488351232 := by
    obtain ⟨fuel, hf⟩ := k0
    have := slice_reach Tryz.underlying22 (by simpa [Value.cells] using hf) (ws 0 22 d0 rfl rfl)
    rw [bytes38] at this
    exact this
  have hO : ActsM W W.heap.size a1 len1 cap1 := by
    obtain ⟨fuel, hf⟩ := h1
    exact open_acts (by simpa [Value.cells] using hf) (ws 1 23 d1 rfl rfl)
  clear hA0 hval0
  simp only [List.append_nil] at hW'
  refine (tells_any W (knIs_of_laid hL) a0 len0 cap0 L hP hR a1 len1 cap1 hO).mono fun e W' ⟨he, bel⟩ => ?_
  subst he
  exact ⟨_, rfl, _, _, _, [], _, [], hW', trodAll_mk1 (shut_bool Tryz.underlying4 _), (trodAll_cons_mk (Below.trod laidOut (by kernel_rfl) (of_decide_eq_true (by kernel_rfl)) k0 bel lt0) (trodAll_cons_mk (Below.trod laidOut (by kernel_rfl) (of_decide_eq_true (by kernel_rfl)) k1 bel lt1) trodAll_mk0)), rfl, bel.frame _, fun h => by cases h⟩

theorem row_holds : Rows.BlendTellsSaid :=
  OpenClaim.holds_of_wide 3 Tryz.f3 rfl rfl rfl rfl rfl rfl rfl ⟨rfl, rfl, rfl, rfl, rfl⟩ rfl rfl rfl rfl rfl (by kernel_rfl) Tryz.func3 (by kernel_rfl)
    (of_decide_eq_true (by kernel_rfl)) (by unfold Func.isWrapper; first | (rw [if_pos (by decide +kernel)]; kernel_rfl) | (rw [if_neg (by decide +kernel)]; exact ⟨rfl, rfl⟩))
    (fun os started H enc _ => lifted os started H enc)
/-- The tied card. -/
theorem proved : Rows.BlendTellsCardSaid :=
  Claim7.holds_tied_plain_at .later [] [.data] true (true, "4b8cc9dc624ec335539d26a3244618b60592ddd91a23a0f58612f642ed3c76af") false
    row_holds (fun _ h => by cases h) (by kernel_rfl) (fun _ h => by cases h) blendTells_row_tie rfl ⟨rfl, rfl⟩ (by kernel_rfl) rfl
    (fun f fn hf hfn => by
      obtain rfl : f = 3 := Option.some.inj ((show Tryz.prog.funcNamed Rows.blendTellsRow.func = some 3 by kernel_rfl).symm.trans hf) |>.symm
      obtain rfl : fn = Tryz.f3 := (Option.some.inj (Tryz.func3.symm.trans hfn)).symm
      exact ⟨by kernel_rfl, fun j t ht => by
        rw [Tryz.params3] at ht
        have hm : t ∈ [22, 23] := by have := Array.mem_of_getElem? ht; simp at this; simp [this]
        have hall : ([22, 23].all fun u => !Tryz.prog.wantsStandIn u) = true := by kernel_rfl
        exact (show Tryz.prog.wantsStandIn t = false by simpa using List.all_eq_true.1 hall t hm)⟩)
    (by kernel_rfl)
end Go.Proofs.YtkfdbibgjoaefaaGreatDoor.blendTells
