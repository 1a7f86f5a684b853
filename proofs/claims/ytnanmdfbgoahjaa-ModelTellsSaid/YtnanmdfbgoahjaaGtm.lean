/-
  Get, the program's: what is laid ahead of its walk.
-/
import Derived.Test.YtnanmdfbgoahjaaGpp
import Derived.Laws.EntriesVeiled
namespace Go.Proofs.Ytnanmdfbgoahjaa
open Go.RowKit

def zero7 : Array Value := #[.int .i64 0, .int .i64 0, .int .i64 0, .int .i64 0, .slice none 0 0, .slice none 0 0, .slice none 0 0]
theorem alloc4 (w : World) (a b c d : Obj) : ((((w.alloc a).alloc b).alloc c).alloc d).heap[w.heap.size]? = some a ∧ ((((w.alloc a).alloc b).alloc c).alloc d).heap[w.heap.size + 1]? = some b ∧ ((((w.alloc a).alloc b).alloc c).alloc d).heap[w.heap.size + 1 + 1]? = some c ∧ ((((w.alloc a).alloc b).alloc c).alloc d).heap[w.heap.size + 1 + 1 + 1]? = some d ∧
    ((((w.alloc a).alloc b).alloc c).alloc d).heap.size = w.heap.size + 1 + 1 + 1 + 1 ∧ Below w.heap.size w ((((w.alloc a).alloc b).alloc c).alloc d) := by
  have e1 : (w.alloc a).heap.size = w.heap.size + 1 := by simp
  have e2 : ((w.alloc a).alloc b).heap.size = w.heap.size + 1 + 1 := by simp
  have e3 : (((w.alloc a).alloc b).alloc c).heap.size = w.heap.size + 1 + 1 + 1 := by simp
  have e4 : ((((w.alloc a).alloc b).alloc c).alloc d).heap.size = w.heap.size + 1 + 1 + 1 + 1 := by simp
  refine ⟨?_, ?_, ?_, ?_, e4, bel4 w a b c d⟩
  · rw [heap_alloc_old _ d (by omega), heap_alloc_old _ c (by omega), heap_alloc_old _ b (by omega)]; exact heap_alloc_new w a
  · rw [heap_alloc_old _ d (by omega), heap_alloc_old _ c (by omega), ← e1]; exact heap_alloc_new _ b
  · rw [heap_alloc_old _ d (by omega), ← e2]; exact heap_alloc_new _ c
  · rw [← e3]; exact heap_alloc_new _ d
/-- Get's variables are laid. -/
theorem get_laid {w W : World} {A : Option Addr} {n c : Nat} {l : List UInt8} (h : IsBB w w.heap.size A n c l) {xb xr xa xe xf xt : Nat} (hb : w.heap.size = xb) (r0 : W.heap[xb]? = some (.cells #[.slice A n c] 23 (0, 0))) (r1 : W.heap[xr]? = some (.cells zero7 25 (0, 0)))
    (r2 : W.heap[xa]? = some (.cells #[.int .i64 0] 3 (0, 0))) (r3 : W.heap[xe]? = some (.cells #[.int .i64 0] 29 (0, 0))) (hsz : W.heap.size = xf) (hbel : Below xb w W) (la : xb ≤ xa) (le : xb ≤ xe) (ht : xf + 1 = xt) :
    GtAt w ((W.alloc (.cells #[vFail ⟨xb, xa, xe, xf, xt⟩] 56)).alloc (.cells #[vTake ⟨xb, xa, xe, xf, xt⟩] 57)) ⟨xb, xa, xe, xf, xt⟩ A n c l ⟨0, 0⟩ ∧ ((W.alloc (.cells #[vFail ⟨xb, xa, xe, xf, xt⟩] 56)).alloc (.cells #[vTake ⟨xb, xa, xe, xf, xt⟩] 57)).heap[xr]? = some (.cells zero7 25 (0, 0)) := by
  subst hb hsz ht
  have e1 : (W.alloc (.cells #[vFail ⟨w.heap.size, xa, xe, W.heap.size, W.heap.size + 1⟩] 56)).heap.size = W.heap.size + 1 := by simp
  have old : ∀ k o, W.heap[k]? = some o → ((W.alloc (.cells #[vFail ⟨w.heap.size, xa, xe, W.heap.size, W.heap.size + 1⟩] 56)).alloc (.cells #[vTake ⟨w.heap.size, xa, xe, W.heap.size, W.heap.size + 1⟩] 57)).heap[k]? = some o := fun k o hk => by
    have := lt_of_heap hk
    rw [heap_alloc_old _ _ (by omega), heap_alloc_old _ _ this]; exact hk
  have hB : Below w.heap.size w ((W.alloc (.cells #[vFail ⟨w.heap.size, xa, xe, W.heap.size, W.heap.size + 1⟩] 56)).alloc (.cells #[vTake ⟨w.heap.size, xa, xe, W.heap.size, W.heap.size + 1⟩] 57)) := (hbel.alloc hbel.size _).alloc (by rw [e1]; have := hbel.size; omega) _
  refine ⟨⟨h.below hB, old _ _ r0, old _ _ r2, old _ _ r3, ?_, ?_, la, le, hB, Nat.zero_le _⟩, old _ _ r1⟩
  · rw [heap_alloc_old _ _ (by rw [e1]; exact Nat.lt_succ_self _)]; exact heap_alloc_new W _
  · show ((W.alloc _).alloc _).heap[W.heap.size + 1]? = _
    rw [← e1]; exact heap_alloc_new _ _
section
variable {w0 w : World} {p : Gp} {A : Option Addr} {n c : Nat} {l : List UInt8} {s : St}
theorem num1_any (h : GtAt w0 w p A n c l s) : Calls Try.prog 24 #[.int .i64 1, .pointer (some ⟨p.t, 0, none⟩)] w fun r w' => r = .returned (.int .i64 (numV l 1 s : Nat)) ∧ GtAt w0 w' p A n c l (takeS l 1 s) ∧ But2 p.a p.e w w' := num_any h 1 (.inl rfl)
theorem num2_any (h : GtAt w0 w p A n c l s) : Calls Try.prog 24 #[.int .i64 2, .pointer (some ⟨p.t, 0, none⟩)] w fun r w' => r = .returned (.int .i64 (numV l 2 s : Nat)) ∧ GtAt w0 w' p A n c l (takeS l 2 s) ∧ But2 p.a p.e w w' := num_any h 2 (.inr rfl)
/-- Get's variables, and the result's block r. -/
structure GrAt (w0 w : World) (p : Gp) (r : Nat) (A : Option Addr) (n c : Nat) (l : List UInt8) (s : St) : Prop where
  gt : GtAt w0 w p A n c l s
  rr : w.heap[r]? = some (.cells zero7 25 (0, 0))
theorem GrAt.num {w' : World} {r : Nat} {s' : St} (h : GrAt w0 w p r A n c l s) (k : GtAt w0 w' p A n c l s') (b : But2 p.a p.e w w') : GrAt w0 w' p r A n c l s' :=
  ⟨k, b.row h.rr (row_ne h.rr h.gt.ra (by decide)) (row_ne h.rr h.gt.re (by decide))⟩
/-- And the model's block m, of the cells cs. -/
structure GmAt (w0 w : World) (p : Gp) (r m : Nat) (cs : Array Value) (A : Option Addr) (n c : Nat) (l : List UInt8) (s : St) : Prop where
  gr : GrAt w0 w p r A n c l s
  rm : w.heap[m]? = some (.cells cs 25 (0, 0))
  ne : m ≠ r
  lm : w0.heap.size ≤ m
theorem GmAt.num {w' : World} {r m : Nat} {cs : Array Value} {s' : St} (h : GmAt w0 w p r m cs A n c l s) (k : GtAt w0 w' p A n c l s') (b : But2 p.a p.e w w') : GmAt w0 w' p r m cs A n c l s' :=
  ⟨h.gr.num k b, b.row h.rm (row_ne h.rm h.gr.gt.ra (by decide)) (row_ne h.rm h.gr.gt.re (by decide)), h.ne, h.lm⟩
theorem GrAt.below {w' : World} {r : Nat} (h : GrAt w0 w p r A n c l s) (b : Below w.heap.size w w') : GrAt w0 w' p r A n c l s := ⟨h.gt.below b, (b.block _ (lt_of_heap h.rr)).trans h.rr⟩
theorem GmAt.below {w' : World} {r m : Nat} {cs : Array Value} (h : GmAt w0 w p r m cs A n c l s) (b : Below w.heap.size w w') : GmAt w0 w' p r m cs A n c l s := ⟨h.gr.below b, (b.block _ (lt_of_heap h.rm)).trans h.rm, h.ne, h.lm⟩
theorem GrAt.new {r : Nat} (h : GrAt w0 w p r A n c l s) (cs : Array Value) : GmAt w0 (w.alloc (.cells cs 25)) p r w.heap.size cs A n c l s :=
  ⟨h.below ((Below.refl _ _).alloc (Nat.le_refl _) _), heap_alloc_new w _, fun e => by have := lt_of_heap h.rr; omega, h.gt.bel.size⟩
/-- A cell of the model is set. -/
theorem GmAt.set {r m : Nat} {cs : Array Value} (h : GmAt w0 w p r m cs A n c l s) (i : Nat) (u : Value) : GmAt w0 (w.setCell ⟨m, i, none⟩ u) p r m (cs.setIfInBounds i u) A n c l s := by
  have g := h.gr.gt
  have e1 : p.b ≠ m := row_ne g.rb h.rm (by decide)
  have e2 : p.a ≠ m := row_ne g.ra h.rm (by decide)
  have e3 : p.e ≠ m := row_ne g.re h.rm (by decide)
  have e4 : p.f ≠ m := row_ne g.rf h.rm (by decide)
  have e5 : p.t ≠ m := row_ne g.rt h.rm (by decide)
  exact ⟨⟨⟨g.src.below (set_bel (Below.refl _ w) m i _ h.lm), by rw [set_block e1]; exact g.rb, by rw [set_block e2]; exact g.ra, by rw [set_block e3]; exact g.re, by rw [set_block e4]; exact g.rf, by rw [set_block e5]; exact g.rt, g.la, g.le, set_bel g.bel m i u h.lm, g.rng⟩, by rw [set_block (Ne.symm h.ne)]; exact h.gr.rr⟩, by rw [row_set h.rm i], h.ne, h.lm⟩
end
/-- A made list of parts. -/
theorem Try.info41' : (Try.prog.info? 41).map (fun i => (i.zero, i.size, i.bytes)) = some (some (vP 0 0 0 0 0 0 0), 7, 56) := by kernel_rfl
theorem made_parts (N : Nat) : madeCells (vP 0 0 0 0 0 0 0).cells (N * 7) = ((List.replicate N (part0 0)).flatMap cellsP).toArray := by
  apply Array.ext'
  apply List.ext_getElem?
  intro k
  have hl : ∀ N, ((List.replicate N (part0 0)).flatMap cellsP).length = N * 7 := fun N => by
    induction N with
    | zero => rfl
    | succ N ih => rw [List.replicate_succ, List.flatMap_cons, List.length_append, ih, cellsP_len]; omega
  by_cases hk : k < N * 7
  · have e : k = k / 7 * 7 + k % 7 := by omega
    have h1 : k / 7 < (List.replicate N (part0 0)).length := by rw [List.length_replicate]; omega
    have e2 := flat7 (List.replicate N (part0 0)) (k / 7) (k % 7) h1 (Nat.mod_lt _ (by decide))
    rw [← e] at e2
    rw [e2, List.getElem_replicate]
    unfold madeCells
    simp only [Array.toList_map, Array.toList_range, List.getElem?_map, List.getElem?_range hk, Option.map_some]
    have hs : (vP 0 0 0 0 0 0 0).cells.size = 7 := rfl
    rw [hs]
    have hm : k % 7 < 7 := Nat.mod_lt _ (by decide)
    generalize k % 7 = q at hm
    rcases (by omega : q = 0 ∨ q = 1 ∨ q = 2 ∨ q = 3 ∨ q = 4 ∨ q = 5 ∨ q = 6) with e | e | e | e | e | e | e <;> subst e <;> rfl
  · rw [List.getElem?_eq_none (by unfold madeCells; simp; omega), List.getElem?_eq_none (by rw [hl]; omega)]
theorem make_parts (N : Nat) (hN : N ≤ 1000) (w : World) : (Instr.makeSlice 22 (.int .i64 (N : Int)) (.int .i64 (N : Int))).run Try.prog w = .ok (.slice (some ⟨w.heap.size, 0, none⟩) N N) (w.alloc (.cells ((List.replicate N (part0 0)).flatMap cellsP).toArray 41)) := by
  obtain ⟨i, hi, hzz⟩ := Option.map_eq_some_iff.1 Try.info41'
  simp only [Prod.mk.injEq] at hzz
  obtain ⟨h1, h2, h3⟩ := hzz
  have hb' : (i.bytes : Int) * (N : Int) ≤ 281474976710656 := by
    have h : ((i.bytes * N : Nat) : Int) ≤ 281474976710656 := by rw [h3]; omega
    rwa [Int.natCast_mul] at h
  have hr := run_make (P := Try.prog) (w := w) 22 41 i (vP 0 0 0 0 0 0 0) Try.underlying22 hi h1 .i64 .i64 N N (by omega) (Int.le_refl _) hb' (by omega)
  simp only [Int.toNat_natCast, h2] at hr
  rw [made_parts N] at hr
  exact hr
section
variable {w0 w : World} {p : Gp} {A : Option Addr} {n c : Nat} {l : List UInt8} {s : St}
/-- The loop over the parts: i are got (Ld), the others are noughts. -/
structure GlAt (w0 w : World) (p : Gp) (r m : Nat) (cs : Array Value) (g N i : Nat) (A : Option Addr) (n c : Nat) (l : List UInt8) (s5 s : St) (Ld : List Pt) : Prop where
  gm : GmAt w0 w p r m cs A n c l s
  pts : PtsAt w g (Ld ++ List.replicate (N - i) (part0 0))
  len : Ld.length = i
  low : w0.heap.size ≤ g
  fin : prtsS l N s5 = ((prtsS l (N - i) s).1, Ld ++ (prtsS l (N - i) s).2)
theorem gl_cell {r m g N i : Nat} {cs : Array Value} {s5 : St} {Ld : List Pt} (h : GlAt w0 w p r m cs g N i A n c l s5 s Ld) (hi : i < N) : i < (Ld ++ List.replicate (N - i) (part0 0)).length ∧ (Ld ++ List.replicate (N - i) (part0 0)).length = N ∧ ∀ (h2 : i < (Ld ++ List.replicate (N - i) (part0 0)).length), (Ld ++ List.replicate (N - i) (part0 0))[i] = part0 0 := by
  have hl := h.len
  have e : (Ld ++ List.replicate (N - i) (part0 0)).length = N := by rw [List.length_append, List.length_replicate]; omega
  refine ⟨by omega, e, fun h2 => ?_⟩
  rw [List.getElem_append_right (by omega), List.getElem_replicate]
theorem gl_set {N i : Nat} {Ld : List Pt} (q : Pt) (hl : Ld.length = i) (hi : i < N) : (Ld ++ List.replicate (N - i) (part0 0)).set i q = (Ld ++ [q]) ++ List.replicate (N - (i + 1)) (part0 0) := by
  obtain ⟨d, hd⟩ : ∃ d, N - i = d + 1 := ⟨N - i - 1, by omega⟩
  have hd2 : N - (i + 1) = d := by omega
  rw [hd, hd2, List.set_append_right _ _ (by omega), hl, Nat.sub_self, List.replicate_succ, List.set_cons_zero, List.append_assoc]
  rfl
/-- A part is got: what getPart leaves, in the loop. -/
theorem GlAt.part {w' : World} {r m g N i : Nat} {cs : Array Value} {s5 : St} {Ld : List Pt} (h : GlAt w0 w p r m cs g N i A n c l s5 s Ld) (hi : i < N) (hs : s.e = 0) {s' : St} {q : Pt} (hq : q = (prtS l s).2)
    (k : GpAt w0 w w' p g A n c l s' ((Ld ++ List.replicate (N - i) (part0 0)).set i q)) (hf : s' = prtF l s) : GlAt w0 w' p r m cs g N (i + 1) A n c l s5 (prtF l s) (Ld ++ [q]) := by
  have b := k.but
  have e1 : r ≠ p.a := row_ne h.gm.gr.rr h.gm.gr.gt.ra (by decide)
  have e2 : r ≠ p.e := row_ne h.gm.gr.rr h.gm.gr.gt.re (by decide)
  have e3 : r ≠ g := row_ne h.gm.gr.rr h.pts (by decide)
  have e4 : m ≠ p.a := row_ne h.gm.rm h.gm.gr.gt.ra (by decide)
  have e5 : m ≠ p.e := row_ne h.gm.rm h.gm.gr.gt.re (by decide)
  have e6 : m ≠ g := row_ne h.gm.rm h.pts (by decide)
  have hl := h.len
  subst hf
  refine ⟨⟨⟨k.gt, (b.block _ (lt_of_heap h.gm.gr.rr) e1 e2 e3).trans h.gm.gr.rr⟩, (b.block _ (lt_of_heap h.gm.rm) e4 e5 e6).trans h.gm.rm, h.gm.ne, h.gm.lm⟩, ?_, by rw [List.length_append]; simp; omega, h.low, ?_⟩
  · rw [← gl_set q hl hi]; exact k.pts
  · rw [h.fin]
    obtain ⟨d, hd⟩ : ∃ d, N - i = d + 1 := ⟨N - i - 1, by omega⟩
    have hd2 : N - (i + 1) = d := by omega
    rw [hd, hd2]
    have e : prtsS l (d + 1) s = ((prtsS l d (prtF l s)).1, (prtS l s).2 :: (prtsS l d (prtF l s)).2) := by
      show (if s.e ≠ 0 then _ else _) = _
      rw [if_neg (not_not_intro hs)]
    rw [e, hq, List.append_assoc]
    rfl
/-- The loop ends: at an error, or at the end. -/
theorem GlAt.done {r m g N i : Nat} {cs : Array Value} {s5 : St} {Ld : List Pt} (h : GlAt w0 w p r m cs g N i A n c l s5 s Ld) (he : s.e ≠ 0 ∨ N ≤ i) : GmAt w0 w p r m cs A n c l (prtsS l N s5).1 ∧ PtsAt w g (prtsS l N s5).2 := by
  have e : prtsS l (N - i) s = (s, List.replicate (N - i) (part0 0)) := by
    by_cases hz : N - i = 0
    · rw [hz]; rfl
    · have he2 : s.e ≠ 0 := by
        rcases he with h | h
        · exact h
        · omega
      obtain ⟨d, hd⟩ : ∃ d, N - i = d + 1 := ⟨N - i - 1, by omega⟩
      rw [hd]
      show (if s.e ≠ 0 then _ else _) = _
      rw [if_pos he2]
  have e2 := h.fin
  rw [e] at e2
  rw [e2]
  exact ⟨h.gm, h.pts⟩
/-- The parts' list is made, and stands in the model's cell. -/
theorem gl_start {r m N : Nat} {cs : Array Value} (h : GmAt w0 w p r m cs A n c l s) :
    GlAt w0 ((w.alloc (.cells ((List.replicate N (part0 0)).flatMap cellsP).toArray 41)).setCell ⟨m, 4, none⟩ (.slice (some ⟨w.heap.size, 0, none⟩) N N)) p r m (cs.setIfInBounds 4 (.slice (some ⟨w.heap.size, 0, none⟩) N N)) w.heap.size N 0 A n c l s s [] := by
  have hb : Below w.heap.size w (w.alloc (.cells ((List.replicate N (part0 0)).flatMap cellsP).toArray 41)) := (Below.refl _ _).alloc (Nat.le_refl _) _
  have h1 := h.below hb
  have hp : PtsAt (w.alloc (.cells ((List.replicate N (part0 0)).flatMap cellsP).toArray 41)) w.heap.size (List.replicate N (part0 0)) := heap_alloc_new w _
  have hne : w.heap.size ≠ m := row_ne hp h1.rm (by decide)
  refine ⟨h1.set 4 _, ?_, rfl, h.gr.gt.bel.size, rfl⟩
  show PtsAt _ _ (List.replicate (N - 0) (part0 0))
  rw [Nat.sub_zero]
  exact (set_block hne).trans hp
theorem GmAt.drew {r m : Nat} {cs : Array Value} (h : GmAt w0 w p r m cs A n c l s) : GmAt w0 w.drew p r m cs A n c l s := ⟨⟨h.gr.gt.drew, h.gr.rr⟩, h.rm, h.ne, h.lm⟩
theorem own_base {b b' e k n : Nat} {v : Value} {xs : List Value} (h : w.ownsRow b e k v n xs) (hb : b' ≤ b) : w.ownsRow b' e k v n xs := by
  refine ⟨h.1, ?_⟩
  rcases h.2 with h | ⟨g, cap, cur, rfl, hg, r⟩
  · exact .inl h
  · exact .inr ⟨g, cap, cur, rfl, Nat.le_trans hb hg, r⟩
theorem own_row2 {w' : World} {b k n : Nat} {v : Value} {xs : List Value} (h : w.ownsRow b 5 k v n xs) (hk : ∀ (g : Nat) (cur : Array Value), w.heap[g]? = some (.cells cur 5 (0, 0)) → w'.heap[g]? = w.heap[g]?) : w'.ownsRow b 5 k v n xs := by
  refine ⟨h.1, ?_⟩
  rcases h.2 with h | ⟨g, cap, cur, rfl, hg, hh, r⟩
  · exact .inl h
  · exact .inr ⟨g, cap, cur, rfl, hg, (hk g cur hh).trans hh, r⟩
theorem isBB_up {B B' : Nat} {A : Option Addr} {n c : Nat} {l : List UInt8} (h : IsBB w B A n c l) (hB : B ≤ B') : IsBB w B' A n c l := ⟨h.toIsB, fun hp ad e => Nat.lt_of_lt_of_le (h.low hp ad e) hB⟩
/-- Get's variables, the parts' list, and a list of bytes of the call's own. -/
structure GkAt (w0 w : World) (p : Gp) (r m : Nat) (cs : Array Value) (A : Option Addr) (n c : Nat) (l : List UInt8) (s : St) (g : Nat) (Ls : List Pt) (v : Value) (k : Nat) (lc : List UInt8) : Prop where
  gm : GmAt w0 w p r m cs A n c l s
  pts : PtsAt w g Ls
  own : w.ownsRow w0.heap.size 5 1 v k (lc.map bv)
variable {r m g k : Nat} {cs : Array Value} {Ls : List Pt} {v : Value} {lc : List UInt8}
theorem GkAt.num {w' : World} {s' : St} (h : GkAt w0 w p r m cs A n c l s g Ls v k lc) (q : GtAt w0 w' p A n c l s') (b : But2 p.a p.e w w') : GkAt w0 w' p r m cs A n c l s' g Ls v k lc :=
  ⟨h.gm.num q b, b.row h.pts (row_ne h.pts h.gm.gr.gt.ra (by decide)) (row_ne h.pts h.gm.gr.gt.re (by decide)), own_row2 h.own fun _ _ hg => b.block _ (lt_of_heap hg) (row_ne hg h.gm.gr.gt.ra (by decide)) (row_ne hg h.gm.gr.gt.re (by decide))⟩
theorem GkAt.below {w' : World} (h : GkAt w0 w p r m cs A n c l s g Ls v k lc) (b : Below w.heap.size w w') : GkAt w0 w' p r m cs A n c l s g Ls v k lc :=
  ⟨h.gm.below b, (b.block _ (lt_of_heap h.pts)).trans h.pts, own_row2 h.own fun _ _ hg => b.block _ (lt_of_heap hg)⟩
theorem GkAt.drew (h : GkAt w0 w p r m cs A n c l s g Ls v k lc) : GkAt w0 w.drew p r m cs A n c l s g Ls v k lc := ⟨h.gm.drew, h.pts, h.own⟩
theorem GkAt.set (h : GkAt w0 w p r m cs A n c l s g Ls v k lc) (i : Nat) (u : Value) : GkAt w0 (w.setCell ⟨m, i, none⟩ u) p r m (cs.setIfInBounds i u) A n c l s g Ls v k lc :=
  ⟨h.gm.set i u, (set_block (row_ne h.pts h.gm.rm (by decide))).trans h.pts, own_row2 h.own fun _ _ hg => set_block (row_ne hg h.gm.rm (by decide))⟩
theorem gk_num2 (h : GkAt w0 w p r m cs A n c l s g Ls v k lc) : Calls Try.prog 24 #[.int .i64 2, .pointer (some ⟨p.t, 0, none⟩)] w fun R w' => R = .returned (.int .i64 (numV l 2 s : Nat)) ∧ GkAt w0 w' p r m cs A n c l (takeS l 2 s) g Ls v k lc :=
  (num2_any h.gm.gr.gt).mono fun _ _ ⟨e, q, b⟩ => ⟨e, h.num q b⟩
theorem gk_take (h : GkAt w0 w p r m cs A n c l s g Ls v k lc) (q : Nat) (hq : q ≤ 65535) : Calls Try.prog 23 #[.int .i64 (q : Nat), .pointer (some ⟨p.b, 0, none⟩), .pointer (some ⟨p.a, 0, none⟩), .pointer (some ⟨p.f, 0, none⟩), .pointer (some ⟨p.e, 0, none⟩)] w fun R w' =>
    ∃ A' c', R = .returned (.slice A' (takeL l q s).length c') ∧ IsBB w' w'.heap.size A' (takeL l q s).length c' (takeL l q s) ∧ GkAt w0 w' p r m cs A n c l (takeS l q s) g Ls v k lc :=
  (take_any h.gm.gr.gt q hq).mono fun _ _ ⟨A', c', e, hb, t, b⟩ => ⟨A', c', e, isBB_up hb t.bel.size, h.num t b⟩
theorem gk_owned (h : GkAt w0 w p r m cs A n c l s g Ls v k lc) {A' : Option Addr} {c' : Nat} {L : List UInt8} (hb : IsBB w w.heap.size A' L.length c' L) (hn : L.length ≤ 70000) : Calls Try.prog 26 #[.slice A' L.length c'] w fun R w' =>
    ∃ A2 c2, R = .returned (.slice A2 L.length c2) ∧ w'.ownsRow w0.heap.size 5 1 (.slice A2 L.length c2) L.length (L.map bv) ∧ GkAt w0 w' p r m cs A n c l s g Ls v k lc :=
  (owned_any A' L _ c' w hb hn).mono fun _ _ ⟨v2, e, ho, b⟩ => by
    obtain ⟨A2, c2, rfl, _⟩ := own_slice ho
    exact ⟨A2, c2, e, own_base ho h.gm.gr.gt.bel.size, h.below b⟩
/-- What the walk asks of a world in the midst of 'm.Code = owned(..)'. -/
theorem gk_cells (h : GkAt w0 w p r m cs A n c l s g Ls v k lc) (i : Nat) : w.cell? ⟨p.t, 0, none⟩ = some (vTake p) ∧ w.cell? ⟨m, i, none⟩ = cs[i]? ∧ w.frozen? ⟨m, i, none⟩ = false ∧ ∀ u, (w.setCell ⟨m, i, none⟩ u).cell? ⟨p.t, 0, none⟩ = some (vTake p) :=
  ⟨row_cell h.gm.gr.gt.rt 0, row_cell h.gm.rm i, row_free h.gm.rm i, fun u => row_cell ((set_block (row_ne h.gm.gr.gt.rt h.gm.rm (by decide))).trans h.gm.gr.gt.rt) 0⟩
theorem gk_own (h : GkAt w0 w p r m cs A n c l s g Ls v k lc) {v' : Value} {k' : Nat} {L : List UInt8} (ho : w.ownsRow w0.heap.size 5 1 v' k' (L.map bv)) (i : Nat) (u : Value) : GkAt w0 (w.setCell ⟨m, i, none⟩ u) p r m (cs.setIfInBounds i u) A n c l s g Ls v' k' L :=
  ⟨h.gm.set i u, (h.set i u).pts, own_row2 ho fun _ _ hg => set_block (row_ne hg h.gm.rm (by decide))⟩
theorem own_set2 (h : GkAt w0 w p r m cs A n c l s g Ls v k lc) {v' : Value} {k' : Nat} {L : List UInt8} (ho : w.ownsRow w0.heap.size 5 1 v' k' (L.map bv)) (i : Nat) (u : Value) : (w.setCell ⟨m, i, none⟩ u).ownsRow w0.heap.size 5 1 v' k' (L.map bv) :=
  own_row2 ho fun _ _ hg => set_block (row_ne hg h.gm.rm (by decide))
theorem u25' : Try.prog.underlying 25 = some (.struct #[⟨"H", 3, 0, false, "", "", 0⟩, ⟨"M", 3, 1, false, "", "", 8⟩, ⟨"PH", 3, 2, false, "", "", 16⟩, ⟨"PM", 3, 3, false, "", "", 24⟩, ⟨"Parts", 22, 4, false, "", "", 32⟩, ⟨"Code", 23, 5, false, "", "", 56⟩, ⟨"Post", 23, 6, false, "", "", 80⟩]) := by kernel_rfl
theorem u25 : ∃ fs, Try.prog.underlying 25 = some (.struct fs) := ⟨_, u25'⟩
theorem loadVar_md (w : World) (g : Nat) (t : TypeId) (cs : Array Value) (f : Nat × Nat) (h : w.heap[g]? = some (.cells cs t f)) (h8 : cs.size = 7) : (loadVar 25 ⟨g, 0, none⟩).run Try.prog w = .ok (.agg cs) w := by
  obtain ⟨fs, hu⟩ := u25
  exact run_loadVar_row w g t 25 cs f _ h hu rfl (by rw [h8]; kernel_rfl)
theorem results_md {fn : Func} {p u v : Tmp} (h : fn.results = #[.cell p 25, .tmp u, .tmp v]) (tmps : Array Value) (w : World) (g : Nat) (t : TypeId) (cs : Array Value) (f : Nat × Nat)
    (hp : tmps.getD p undef = .pointer (some ⟨g, 0, none⟩)) (hg : w.heap[g]? = some (.cells cs t f)) (h8 : cs.size = 7) : (results fn tmps).run Try.prog w = .ok (.tuple #[.agg cs, tmps.getD u undef, tmps.getD v undef]) w := by
  have hp' : tmps[p]?.getD undef = .pointer (some ⟨g, 0, none⟩) := by simpa using hp
  simp [results, h, hp', asAddr, loadVar_md w g t cs f hg h8, Result.andThen]
theorem results_md1 {fn : Func} {p : Tmp} (h : fn.results = #[.cell p 25]) (tmps : Array Value) (w : World) (g : Nat) (t : TypeId) (cs : Array Value) (f : Nat × Nat)
    (hp : tmps.getD p undef = .pointer (some ⟨g, 0, none⟩)) (hg : w.heap[g]? = some (.cells cs t f)) (h8 : cs.size = 7) : (results fn tmps).run Try.prog w = .ok (.agg cs) w := by
  have hp' : tmps[p]?.getD undef = .pointer (some ⟨g, 0, none⟩) := by simpa using hp
  simp [results, h, hp', asAddr, loadVar_md w g t cs f hg h8]
def set7 (w : World) (g : Nat) (a0 a1 a2 a3 a4 a5 a6 : Value) : World := ((((((w.setCell ⟨g, 0, none⟩ a0).setCell ⟨g, 1, none⟩ a1).setCell ⟨g, 2, none⟩ a2).setCell ⟨g, 3, none⟩ a3).setCell ⟨g, 4, none⟩ a4).setCell ⟨g, 5, none⟩ a5).setCell ⟨g, 6, none⟩ a6
theorem row_set7 {w : World} {g : Nat} {t : TypeId} (b0 b1 b2 b3 b4 b5 b6 a0 a1 a2 a3 a4 a5 a6 : Value) (h : w.heap[g]? = some (.cells #[b0, b1, b2, b3, b4, b5, b6] t (0, 0))) :
    (set7 w g a0 a1 a2 a3 a4 a5 a6).heap[g]? = some (.cells #[a0, a1, a2, a3, a4, a5, a6] t (0, 0)) ∧ ∀ B w0, B ≤ g → Below B w0 w → Below B w0 (set7 w g a0 a1 a2 a3 a4 a5 a6) := by
  have r0 : (w.setCell ⟨g, 0, none⟩ a0).heap[g]? = some (.cells #[a0, b1, b2, b3, b4, b5, b6] t (0, 0)) := row_set h 0 a0
  have r1 : ((w.setCell ⟨g, 0, none⟩ a0).setCell ⟨g, 1, none⟩ a1).heap[g]? = some (.cells #[a0, a1, b2, b3, b4, b5, b6] t (0, 0)) := row_set r0 1 a1
  have r2 : (((w.setCell ⟨g, 0, none⟩ a0).setCell ⟨g, 1, none⟩ a1).setCell ⟨g, 2, none⟩ a2).heap[g]? = some (.cells #[a0, a1, a2, b3, b4, b5, b6] t (0, 0)) := row_set r1 2 a2
  have r3 : ((((w.setCell ⟨g, 0, none⟩ a0).setCell ⟨g, 1, none⟩ a1).setCell ⟨g, 2, none⟩ a2).setCell ⟨g, 3, none⟩ a3).heap[g]? = some (.cells #[a0, a1, a2, a3, b4, b5, b6] t (0, 0)) := row_set r2 3 a3
  have r4 : (((((w.setCell ⟨g, 0, none⟩ a0).setCell ⟨g, 1, none⟩ a1).setCell ⟨g, 2, none⟩ a2).setCell ⟨g, 3, none⟩ a3).setCell ⟨g, 4, none⟩ a4).heap[g]? = some (.cells #[a0, a1, a2, a3, a4, b5, b6] t (0, 0)) := row_set r3 4 a4
  have r5 : ((((((w.setCell ⟨g, 0, none⟩ a0).setCell ⟨g, 1, none⟩ a1).setCell ⟨g, 2, none⟩ a2).setCell ⟨g, 3, none⟩ a3).setCell ⟨g, 4, none⟩ a4).setCell ⟨g, 5, none⟩ a5).heap[g]? = some (.cells #[a0, a1, a2, a3, a4, a5, b6] t (0, 0)) := row_set r4 5 a5
  have r6 : (((((((w.setCell ⟨g, 0, none⟩ a0).setCell ⟨g, 1, none⟩ a1).setCell ⟨g, 2, none⟩ a2).setCell ⟨g, 3, none⟩ a3).setCell ⟨g, 4, none⟩ a4).setCell ⟨g, 5, none⟩ a5).setCell ⟨g, 6, none⟩ a6).heap[g]? = some (.cells #[a0, a1, a2, a3, a4, a5, a6] t (0, 0)) := row_set r5 6 a6
  exact ⟨r6, fun B w0 hg hb => set_bel (set_bel (set_bel (set_bel (set_bel (set_bel (set_bel hb g 0 a0 hg) g 1 a1 hg) g 2 a2 hg) g 3 a3 hg) g 4 a4 hg) g 5 a5 hg) g 6 a6 hg⟩
theorem set7_block {w : World} {g k : Nat} {a0 a1 a2 a3 a4 a5 a6 : Value} (h : k ≠ g) : (set7 w g a0 a1 a2 a3 a4 a5 a6).heap[k]? = w.heap[k]? := by
  unfold set7
  rw [set_block h, set_block h, set_block h, set_block h, set_block h, set_block h, set_block h]
end
end Go.Proofs.Ytnanmdfbgoahjaa
