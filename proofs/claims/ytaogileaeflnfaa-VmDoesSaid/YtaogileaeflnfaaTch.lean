/-
  jumps, ends; the closure of Check, to which each instruction is told.
-/
import Derived.Test.YtaogileaeflnfaaIts
namespace Go.Proofs.Ytaogileaeflnfaa
open Go.RowKit Go.Maps
set_option linter.unusedVariables false
set_option linter.unusedSimpArgs false

def jm (o : Int) : Prop := o = 27 ∨ o = 28 ∨ o = 29 ∨ o = 30
instance (o : Int) : Decidable (jm o) := by unfold jm; infer_instance
def ed (o : Int) : Prop := o = 0 ∨ o = 29 ∨ o = 30
instance (o : Int) : Decidable (ed o) := by unfold ed; infer_instance
set_option maxRecDepth 10000 in
theorem jumps_any (o : Int) (w : World) : Calls Try.prog 35 #[.int .u8 o] w fun e w' => e = .returned (.bool (decide (jm o))) ∧ w' = w := by
  by_cases h1 : o = 27
  · subst h1
    go_enter Try.func35, Try.ntmps35
    go_wp2
    go_ret
    exact ⟨rfl, rfl⟩
  by_cases h2 : o = 28
  · subst h2
    go_enter Try.func35, Try.ntmps35
    go_wp2
    go_ret
    exact ⟨rfl, rfl⟩
  by_cases h3 : o = 29
  · subst h3
    go_enter Try.func35, Try.ntmps35
    go_wp2
    go_ret
    exact ⟨rfl, rfl⟩
  by_cases h4 : o = 30
  · subst h4
    go_enter Try.func35, Try.ntmps35
    go_wp2
    go_ret
    exact ⟨rfl, rfl⟩
  have e : decide (jm o) = false := decide_eq_false (by unfold jm; omega)
  rw [e]
  clear e
  go_enter Try.func35, Try.ntmps35
  go_wp2
  go_ret
  exact ⟨rfl, rfl⟩
set_option maxRecDepth 10000 in
theorem ends_any (o : Int) (w : World) : Calls Try.prog 36 #[.int .u8 o] w fun e w' => e = .returned (.bool (decide (ed o))) ∧ w' = w := by
  by_cases h1 : o = 0
  · subst h1
    go_enter Try.func36, Try.ntmps36
    go_wp2
    go_ret
    exact ⟨rfl, rfl⟩
  have h1b : (o == 0) = false := by simpa using h1
  by_cases h2 : o = 29
  · subst h2
    go_enter Try.func36, Try.ntmps36
    go_wp2
    go_ret
    exact ⟨rfl, rfl⟩
  have h2b : (o == 29) = false := by simpa using h2
  by_cases h3 : o = 30
  · subst h3
    go_enter Try.func36, Try.ntmps36
    go_wp2
    go_ret
    exact ⟨rfl, rfl⟩
  have h3b : (o == 30) = false := by simpa using h3
  have e : decide (ed o) = false := decide_eq_false (by unfold ed; omega)
  rw [e]
  clear e h1 h2 h3
  go_enter Try.func36, Try.ntmps36
  go_wp2
  go_ret
  exact ⟨rfl, rfl⟩
theorem law3 : Keyed Try.prog 3 := int_keyed Try.underlying3
theorem zero44 (w : World) : (zeroValue 64).run Try.prog w = .ok (.agg #[]) w := by kernel_rfl
/-- The set of the starts as the map has it. -/
def setS (S : List Nat) : DataW Unit := setOf (.agg []) (S.map fun k : Nat => Lit.int .i64 (k : Int))
/-- What the closure of Check keeps. -/
structure Chk (w : World) (B : Nat) (S : List Nat) (T : List Int) (out : Bool) (lo : Int) : Prop where
  mp : w.ownsMap Try.prog 3 unitElem B S.length (setS S)
  c1 : w.heap[B + 1]? = some (.cells #[.map (some B)] 61 (0, 0))
  c2 : ∃ v, w.heap[B + 2]? = some (.cells #[v] 62 (0, 0)) ∧ w.ownsRow (B + 5) 3 1 v T.length (T.map iv)
  c3 : w.heap[B + 3]? = some (.cells #[.int .u8 lo] 22 (0, 0))
  c4 : w.heap[B + 4]? = some (.cells #[.bool out] 4 (0, 0))
theorem ints_below {w w' : World} {b n : Nat} {v : Value} {xs : List Value} (h : w.ownsRow b 3 1 v n xs) (hb : Below w.heap.size w w') : w'.ownsRow b 3 1 v n xs := by
  refine ⟨h.1, ?_⟩
  rcases h.2 with h2 | ⟨g2, cap, cur, rfl, hge, hh, r⟩
  · exact .inl h2
  · exact .inr ⟨g2, cap, cur, rfl, hge, (hb.block g2 (lt_of_heap hh)).trans hh, r⟩
theorem map_below {w w' : World} {B n : Nat} {D : DataW Unit} (h : w.ownsMap Try.prog 3 unitElem B n D) (hb : Below w.heap.size w w') : w'.ownsMap Try.prog 3 unitElem B n D := by
  have hlt := h.lt
  obtain ⟨es, clock, hB, r⟩ := h
  exact ⟨es, clock, (hb.block B hlt).trans hB, r⟩
theorem Chk.below {w w' : World} {B : Nat} {S : List Nat} {T : List Int} {out : Bool} {lo : Int} (h : Chk w B S T out lo) (hb : Below w.heap.size w w') : Chk w' B S T out lo := by
  obtain ⟨v, h2, h3⟩ := h.c2
  exact ⟨map_below h.mp hb, (hb.block _ (lt_of_heap h.c1)).trans h.c1, ⟨v, (hb.block _ (lt_of_heap h2)).trans h2, ints_below h3 hb⟩, (hb.block _ (lt_of_heap h.c3)).trans h.c3, (hb.block _ (lt_of_heap h.c4)).trans h.c4⟩
/-- Once more with one start more in the map. -/
theorem Chk.put {w w' : World} {B : Nat} {S : List Nat} {T : List Int} {out : Bool} {lo : Int} (h : Chk w B S T out lo) (k : Nat) {D : DataW Unit} (hD : D = (setS S).put (Lit.int .i64 (k : Int)) (.agg [])) (hm : w'.ownsMap Try.prog 3 unitElem B (S.length + 1) D)
    (hg : w.grownBy w' (some B)) : Chk w' B (S ++ [k]) T out lo := by
  obtain ⟨v, h2, h3⟩ := h.c2
  have K : ∀ {i : Nat} {o : Obj}, w.heap[i]? = some o → i ≠ B → w'.heap[i]? = some o := fun hi hn => (hg.block _ (lt_of_heap hi) (fun e => hn (by injection e))).trans hi
  refine ⟨?_, K h.c1 (by omega), ⟨v, K h2 (by omega), h3.kept hg ?_⟩, K h.c3 (by omega), K h.c4 (by omega)⟩
  · have e : setS (S ++ [k]) = (setS S).put (Lit.int .i64 (k : Int)) (.agg []) := by unfold setS; rw [List.map_append]; exact setOf_snoc _ _ _
    rw [List.length_append, e, ← hD]
    exact hm
  · cases hv : v.ownBlock with
    | none => exact .inl rfl
    | some q =>
      have := (h3.lt q hv).1
      exact .inr (fun e => by injection e; omega)
/-- What is noted when an instruction is told. -/
def tgt (o n : Int) : List Int := if jm o then [n] else []
theorem chk_box {w : World} {B : Nat} {S : List Nat} {T : List Int} {out : Bool} {lo : Int} (h : Chk w B S T out lo) (o : Obj) : Chk (w.alloc o) B S T out lo := h.below ((Below.refl _ w).alloc (Nat.le_refl _) _)
theorem row_not {w : World} {b n q : Nat} {v : Value} {xs : List Value} {cs : Array Value} (h : w.ownsRow b 3 1 v n xs) (hq : w.heap[q]? = some (.cells cs 24 (0, 0))) : v.ownBlock ≠ some q := by
  intro e
  rcases h.2 with ⟨rfl, _⟩ | ⟨g2, cap, cur, rfl, hge, hh, r⟩
  · cases e
  · injection e with e
    subst e
    rw [hq] at hh
    injection hh with hh
    injection hh with _ hh
    cases hh
theorem keep_row1 {w w2 : World} {g : Nat} {row : Option Nat} {X o1 : Obj} (hg : w.heap[g]? = some X) (h : (w.alloc o1).grownBy w2 row) (hne : row ≠ some g) : w2.heap[g]? = some X := by
  have hgs := lt_of_heap hg
  exact (h.block g (by simp; omega) (fun e => hne e.symm)).trans ((heap_alloc_old w o1 hgs).trans hg)
/-- The list of places that is jumped to, once it has one more; the box of the instruction beside it. -/
theorem Chk.jump {w w2 : World} {B : Nat} {S : List Nat} {T T' : List Int} {out : Bool} {lo : Int} {v v' : Value} {o1 : Obj} {row : Option Nat} (h : Chk w B S T out lo) (hrow : w.ownsRow (B + 5) 3 1 v T.length (T.map iv)) (hg : (w.alloc o1).grownBy w2 row)
    (hr : row = v.ownBlock) (hown : w2.ownsRow (B + 5) 3 1 v' T'.length (T'.map iv)) : Chk (w2.setCell ⟨B + 2, 0, none⟩ v') B S T' out lo ∧ Below B w (w2.setCell ⟨B + 2, 0, none⟩ v') := by
  obtain ⟨v0, h2, _⟩ := h.c2
  have hne : ∀ i, i < B + 5 → row ≠ some i := fun i hi e => by
    have := (hrow.lt i (hr ▸ e)).1
    omega
  have K : ∀ {i : Nat} {o : Obj}, w.heap[i]? = some o → i < B + 5 → i ≠ B + 2 → (w2.setCell ⟨B + 2, 0, none⟩ v').heap[i]? = some o := fun hi hl hn => by
    rw [RowKit.Below.heap_setCell _ _ _ _ hn]
    exact keep_row1 hi hg (hne _ hl)
  have hlt := h.mp.lt
  have hbl : Below B w w2 := by
    refine Below.grown (((Below.refl B w).alloc (Nat.le_of_lt hlt) o1)) hg (by simp; omega) fun q hq => ?_
    have := (hrow.lt q (hr ▸ hq)).1
    omega
  refine ⟨⟨?_, K h.c1 (by omega) (by omega), ⟨v', row_set (keep_row1 h2 hg (hne _ (by omega))) 0 _, own_setCell hown _ _ (by show B + 2 < B + 5; omega)⟩, K h.c3 (by omega) (by omega), K h.c4 (by omega) (by omega)⟩, below_set hbl _ _ (by show B ≤ B + 2; omega)⟩
  obtain ⟨es, clock, hB, r⟩ := h.mp
  exact ⟨es, clock, K hB (by omega) (by omega), r⟩
theorem Chk.set {w : World} {B : Nat} {S : List Nat} {T : List Int} {out : Bool} {lo : Int} (h : Chk w B S T out lo) (out' : Bool) (lo' : Int) :
    Chk ((w.setCell ⟨B + 4, 0, none⟩ (.bool out')).setCell ⟨B + 3, 0, none⟩ (.int .u8 lo')) B S T out' lo' := by
  obtain ⟨v, h2, h3⟩ := h.c2
  have K : ∀ {i : Nat} {o : Obj}, w.heap[i]? = some o → i ≠ B + 3 → i ≠ B + 4 → ((w.setCell ⟨B + 4, 0, none⟩ (.bool out')).setCell ⟨B + 3, 0, none⟩ (.int .u8 lo')).heap[i]? = some o := fun hi hl hn => by
    rw [RowKit.Below.heap_setCell _ _ _ _ hl, RowKit.Below.heap_setCell _ _ _ _ hn]
    exact hi
  obtain ⟨es, clock, hB, r⟩ := h.mp
  refine ⟨⟨es, clock, K hB (by omega) (by omega), r⟩, K h.c1 (by omega) (by omega), ⟨v, K h2 (by omega) (by omega), own_setCell (own_setCell h3 _ _ (by show B + 4 < B + 5; omega)) _ _ (by show B + 3 < B + 5; omega)⟩, ?_, ?_⟩
  · refine row_set (cs := #[.int .u8 lo]) ?_ 0 _
    rw [RowKit.Below.heap_setCell _ _ _ _ (by show B + 3 ≠ B + 4; omega)]
    exact h.c3
  · rw [RowKit.Below.heap_setCell _ _ _ _ (by show B + 4 ≠ B + 3; omega)]
    exact row_set h.c4 0 _
set_option maxRecDepth 10000 in
set_option maxHeartbeats 4000000 in
theorem tell_check (B : Nat) (S : List Nat) (T : List Int) (out : Bool) (lo : Int) (w : World) (k : Nat) (o d s n : Int) (h : Chk w B S T out lo) (hl : S.length ≤ 5000) (ht : T.length ≤ 5000) (hk : k ≤ 5000) :
    Calls Try.prog 34 #[.int .i64 (k : Int), vI o d s n, .pointer (some ⟨B + 1, 0, none⟩), .pointer (some ⟨B + 2, 0, none⟩), .pointer (some ⟨B + 4, 0, none⟩), .pointer (some ⟨B + 3, 0, none⟩)] w fun e w' =>
      e = .returned (.tuple #[]) ∧ Chk w' B (S ++ [k]) (T ++ tgt o n) (out || decide (o = 26)) o ∧ Below B w w' := by
  obtain ⟨i0, hi, hz0, hz1, hz2⟩ := info_parts Try.info3
  have HJ := hid (fun o w => jumps_any o w)
  have hkey : keyOf Try.prog 3 (.int .i64 (k : Int)) = some (.int .i64 (k : Int)) := keyOf_int_mk Try.underlying3 (WalkArith.wf_i64 (by omega))
  have h1 := chk_box h (.cells #[.int .u8 o, .int .i64 d, .int .i64 s, .int .i64 n] 24)
  have BX := heap_alloc_new w (.cells #[.int .u8 o, .int .i64 d, .int .i64 s, .int .i64 n] 24)
  have hb := h.mp.lt
  have b1 := hid (Below.alloc (Below.refl B w) (Nat.le_of_lt hb) (.cells #[.int .u8 o, .int .i64 d, .int .i64 s, .int .i64 n] 24))
  have hbw : w.heap.size ≠ B := Nat.ne_of_gt hb
  have hbw4 : w.heap.size ≠ B + 4 := by have := lt_of_heap h.c4; omega
  have hbw3 : w.heap.size ≠ B + 3 := by have := lt_of_heap h.c3; omega
  have hbw2 : w.heap.size ≠ B + 2 := by have := lt_of_heap h.c3; omega
  have hbw5 : B + 5 ≤ w.heap.size := by have := lt_of_heap h.c4; omega
  have c1 : (w.alloc (.cells #[.int .u8 o, .int .i64 d, .int .i64 s, .int .i64 n] 24)).cell? ⟨B + 1, 0, none⟩ = some (.map (some B)) := row_cell h1.c1 0
  unfold vI
  obtain ⟨jb, hjb⟩ : ∃ jb, decide (jm o) = jb := ⟨_, rfl⟩
  obtain ⟨ob, hob⟩ : ∃ ob, (o == 26) = ob := ⟨_, rfl⟩
  have hob2 : decide (o = 26) = ob := by rw [← hob]; rfl
  rw [hob2]
  have HT : Hid (T ++ tgt o n = if jb then T ++ [n] else T) := by
    unfold tgt
    by_cases h : jm o
    · rw [if_pos h, ← hjb, decide_eq_true h]; rfl
    · rw [if_neg h, ← hjb, decide_eq_false h]; exact List.append_nil T
  rw [HT.out]
  clear HT hob2
  clear h hb
  go_enter Try.func34, Try.ntmps34
  go_upto_region 2 with (first
    | (at_mapUpdate; refine wpList_mapUpdate_own _ rfl _ _ _ 61 rfl 3 64 law3 Try.underlying61 (unitElem (H := Unit)) B S.length _ rfl h1.mp (by unfold maxLen; omega) _ _ _ rfl rfl hkey _ [] unitElem_mk ?_; intro w1 hown1 hgrow1)
    | go_in)
  have H2 := hid (h1.put k rfl hown1 hgrow1)
  have BX2 := hid ((hgrow1.block _ (by simp) (fun e => hbw (by injection e))).trans BX)
  have b2 := hid (b1.out.grown hgrow1 (by simp; omega) (fun q hq => by injection hq with hq; omega))
  have hs2 := hid (hgrow1.size)
  clear hown1 hgrow1 h1 BX c1 b1
  have x0 : w1.cell? ⟨w.heap.size, 0, none⟩ = some (.int .u8 o) := row_cell BX2.out 0
  have x3 : w1.cell? ⟨w.heap.size, 3, none⟩ = some (.int .i64 n) := row_cell BX2.out 3
  obtain ⟨v, h2, hrow⟩ := H2.out.c2
  have hg1 := lt_of_heap BX2.out
  have c2 : w1.cell? ⟨B + 2, 0, none⟩ = some v := row_cell h2 0
  have c4 : w1.cell? ⟨B + 4, 0, none⟩ = some (.bool out) := row_cell H2.out.c4 0
  have c3 : w1.cell? ⟨B + 3, 0, none⟩ = some (.int .u8 lo) := row_cell H2.out.c3 0
  have f4 := row_free H2.out.c4 0
  have f3 := row_free H2.out.c3 0
  generalize w.heap.size = q at *
  cases jb with
  | false =>
    have hend := hid (H2.out.set (out || ob) o)
    have hbe := hid (below_set (below_set b2.out ⟨B + 4, 0, none⟩ (.bool (out || ob)) (by show B ≤ B + 4; omega)) ⟨B + 3, 0, none⟩ (.int .u8 o) (by show B ≤ B + 3; omega))
    clear H2 b2 h2 hrow hs2
    cases out with
    | true =>
      go_wp2_with (go_at_call 35; (with_reducible refine (HJ.out _ _).mono ?_); rw [hjb]; rintro r w2 ⟨rfl, rfl⟩)
      exact bodyPost_end (results_none (by kernel_rfl : Try.f34.results = #[]) _ _ _) rfl ⟨rfl, hend.out, hbe.out⟩
    | false =>
      go_wp2_with (go_at_call 35; (with_reducible refine (HJ.out _ _).mono ?_); rw [hjb]; rintro r w2 ⟨rfl, rfl⟩)
      exact bodyPost_end (results_none (by kernel_rfl : Try.f34.results = #[]) _ _ _) rfl ⟨rfl, hend.out, hbe.out⟩
  | true =>
    go_upto_region 4 with (first
      | (go_at_call 35; (with_reducible refine (HJ.out _ _).mono ?_); rw [hjb]; rintro r wj ⟨rfl, ej⟩; rw [ej]; clear ej wj)
      | (at_builtin; refine wpList_append_own _ rfl _ _ 62 rfl (B + 5) 3 i0 (.int .i64 0) 1 8 Try.underlying62 hi hz0 hz1 hz2 rfl (by decide) _ _ _ rfl (hrow.alloc _) ⟨w1.heap.size, 0, none⟩ 1 1 [.int .i64 n] rfl rfl (cell_one_new _ _ _) (ints_oneCell .i64 [n]) (by unfold maxLen; omega) (by omega) (by simp; omega) ?_; intro v' w2 hown' hgrow2 hnil2; obtain ⟨A', c', rfl⟩ := own_ints hown'; have hg2 := keep_row1 h2 hgrow2 (fun e => absurd (hrow.lt _ e).1 (by omega)); have f2 := row_free hg2 0; have c2 : w2.cell? ⟨B + 2, 0, none⟩ = some v := row_cell hg2 0; clear hnil2 hg2)
      | go_in)
    obtain ⟨H3, b3⟩ := H2.out.jump (T' := T ++ [n]) hrow hgrow2 rfl (by simpa [iv] using hown')
    have b4 := hid (b2.out.trans b3)
    have H4 := hid H3
    have c4 : (w2.setCell ⟨B + 2, 0, none⟩ (.slice A' (T.length + 1) c')).cell? ⟨B + 4, 0, none⟩ = some (.bool out) := row_cell H3.c4 0
    have c3 : (w2.setCell ⟨B + 2, 0, none⟩ (.slice A' (T.length + 1) c')).cell? ⟨B + 3, 0, none⟩ = some (.int .u8 lo) := row_cell H3.c3 0
    have f4 := row_free H3.c4 0
    have f3 := row_free H3.c3 0
    have BX3 := keep_row1 BX2.out hgrow2 (row_not hrow BX2.out)
    clear hgrow2 hown' H2 H3 b2 b3 f2 c2 h2 hrow hs2
    have x0 : (w2.setCell ⟨B + 2, 0, none⟩ (.slice A' (T.length + 1) c')).cell? ⟨q, 0, none⟩ = some (.int .u8 o) := row_cell ((RowKit.Below.heap_setCell _ _ _ _ hbw2).trans BX3) 0
    clear BX2 BX3 hg1 x3
    generalize w2.setCell ⟨B + 2, 0, none⟩ (.slice A' (T.length + 1) c') = W at *
    have hend := hid (H4.out.set (out || ob) o)
    have hbe := hid (below_set (below_set b4.out ⟨B + 4, 0, none⟩ (.bool (out || ob)) (by show B ≤ B + 4; omega)) ⟨B + 3, 0, none⟩ (.int .u8 o) (by show B ≤ B + 3; omega))
    clear H4 b4
    cases out with
    | true =>
      go_wp2
      exact bodyPost_end (results_none (by kernel_rfl : Try.f34.results = #[]) _ _ _) rfl ⟨rfl, hend.out, hbe.out⟩
    | false =>
      go_wp2
      exact bodyPost_end (results_none (by kernel_rfl : Try.f34.results = #[]) _ _ _) rfl ⟨rfl, hend.out, hbe.out⟩
end Go.Proofs.Ytaogileaeflnfaa
