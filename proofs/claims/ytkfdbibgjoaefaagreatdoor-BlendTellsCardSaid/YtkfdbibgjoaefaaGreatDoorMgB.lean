/-
  Merged: Rbg Rbh.
-/
import Derived.Test.YtkfdbibgjoaefaaGreatDoorMg24
/-
  The document's blend: a part's tables at first (written by tools/stage12/gen_rbg.py).
-/
namespace Go.Proofs.YtkfdbibgjoaefaaGreatDoor
open Go.RowKit
set_option linter.unusedVariables false
set_option linter.unusedSimpArgs false

/-- A unit's tables lie apart from one another. -/
structure AptV (V : Vs) : Prop where
  ck : Apt V.c.b V.k.b
  cs : Apt V.c.b V.s.b
  cw : Apt V.c.b V.w.b
  cn : Apt V.c.b V.n.b
  cr : Apt V.c.b V.r.b
  ks : Apt V.k.b V.s.b
  kw : Apt V.k.b V.w.b
  kn : Apt V.k.b V.n.b
  kr : Apt V.k.b V.r.b
  sw : Apt V.s.b V.w.b
  sn : Apt V.s.b V.n.b
  sr : Apt V.s.b V.r.b
  wn : Apt V.w.b V.n.b
  wr : Apt V.w.b V.r.b
  nr : Apt V.n.b V.r.b
theorem AptV.sep {V : Vs} {g : Nat} (h : AptV V) (hg : ¬ V.has g) : Sep V g :=
  ⟨fun e => hg (.inl e), fun e => hg (.inr (.inl e)), fun e => hg (.inr (.inr (.inl e))), fun e => hg (.inr (.inr (.inr (.inl e)))), fun e => hg (.inr (.inr (.inr (.inr (.inl e))))), fun e => hg (.inr (.inr (.inr (.inr (.inr e))))), h.ck, h.cs, h.cw, h.cn, h.cr, h.ks, h.kw, h.kn, h.kr, h.sw, h.sn, h.sr, h.wn, h.wr, h.nr⟩
def nilS : Sw := ⟨none, 0, 0⟩
def nilV : Vs := ⟨nilS, nilS, nilS, nilS, nilS, nilS⟩
theorem nilV_apt : AptV nilV := by
  have h : Apt nilS.b nilS.b := fun b h => by
    have e : nilS.b = none := rfl
    rw [e] at h
    cases h
  exact ⟨h, h, h, h, h, h, h, h, h, h, h, h, h, h, h⟩
def cellsPt (p : Pt) : Array Value := #[.int .u8 p.kind, .int .i64 p.size, .int .i64 p.a, .int .i64 p.b, .int .i64 p.c, .int .i64 p.rate, .int .i64 p.limit]
def zUn : Un := { p := ⟨0, 0, 0, 0, 0, 0, 0⟩ }
theorem zero65 (w : World) : (zeroValue 65).run Tryz.prog w = .ok (.agg (cellsU zUn nilV)) w := by kernel_rfl
theorem szU (u : Un) (V : Vs) : (Tryz.prog.info? 65).map (·.size) = some (cellsU u V).size := by show _ = some 16; kernel_rfl
theorem szP (p : Pt) : (Tryz.prog.info? 38).map (·.size) = some (cellsPt p).size := by show _ = some 7; kernel_rfl
theorem oneU (u : Un) (V : Vs) : (cellsU u V).all (·.oneCell') = true := by simp [cellsU, Value.oneCell']
theorem build65 (p : Pt) (w : World) : (Instr.build 65 #[(0, .agg (cellsPt p))]).run Tryz.prog w = .ok (.agg (cellsU { p := p } nilV)) w := by
  kernel_rfl
/-- On the way of beginning: the part's box, the result, the unit, its tables. -/
structure Bgn (w W : World) (p : Pt) (u : Un) (V : Vs) : Prop where
  bel : Below w.heap.size w W
  r1 : W.heap[w.heap.size]? = some (.cells (cellsPt p) 38 (0, 0))
  r2 : W.heap[w.heap.size + 1]? = some (.cells (cellsU zUn nilV) 65 (0, 0))
  r3 : W.heap[w.heap.size + 2]? = some (.cells (cellsU u V) 65 (0, 0))
  t : RT W (w.heap.size + 3) u V
  a : AptV V
/-- What begun tells. -/
def Begun (w : World) (p : Pt) (e : Ending) (w' : World) : Prop := ∃ V, e = .returned (.agg (cellsU (begun p) V)) ∧ RT w' w.heap.size (begun p) V ∧ AptV V ∧ Below w.heap.size w w'
theorem szEq (u u' : Un) (V V' : Vs) : (cellsU u V).size = (cellsU u' V').size := rfl
theorem wpList_build65 {ops : Array Oper} {rest : List Oper} {o : Oper} {a : Act} {w : World} {Q : Exit → Act → World → Prop} (p : Pt) (hgd : o.guard = none) (x : Operand) (ho : o.op = .build 65 #[(0, x)]) (hx : a.eval x = .agg (cellsPt p))
    (h : wpList Tryz.prog ops Q rest (a.put o.dst (.agg (cellsU { p := p } nilV))) w) : wpList Tryz.prog ops Q (o :: rest) a w := by
  refine wpList_plain hgd fun K hK => ?_
  have hb := build65 p w
  unfold Oper.wp execOp
  simp only [ho, List.map_toArray, List.map_cons, List.map_nil, hx, Sem.run_bind, Sem.run_pure, Result.andThen_ok, hb]
  exact hK _ _ h
theorem bgn_made {w W1 : World} {H : Nat} {p : Pt} (hH : w.heap.size = H) (a1 : W1.heap[H]? = some (.cells (cellsPt p) 38 (0, 0))) (a2 : W1.heap[H + 1]? = some (.cells (cellsU zUn nilV) 65 (0, 0))) (a3 : W1.heap.size = H + 2) (a4 : Below H w W1) :
    Bgn w ((W1.alloc (.cells (cellsU zUn nilV) 65)).setRow (H + 2) (cellsU { p := p } nilV)) p { p := p } nilV := by
  subst hH
  have hn : (W1.alloc (.cells (cellsU zUn nilV) 65)).heap[w.heap.size + 2]? = some (.cells (cellsU zUn nilV) 65 (0, 0)) := by rw [← a3]; exact heap_alloc_new _ _
  have ho : ∀ k, k < w.heap.size + 2 → ((W1.alloc (.cells (cellsU zUn nilV) 65)).setRow (w.heap.size + 2) (cellsU { p := p } nilV)).heap[k]? = W1.heap[k]? := fun k hk => by
    rw [setRow_other _ _ _ _ (by omega)]
    exact Below.heap_alloc _ _ _ (by omega)
  refine ⟨⟨a4.os, a4.tape, a4.output, by rw [size_setRow]; simp; omega, fun k hk => ?_⟩, (ho _ (by omega)).trans a1, (ho _ (by omega)).trans a2, setRow_heap _ _ _ _ _ _ hn, ?_, nilV_apt⟩
  · rw [ho k (by omega)]
    exact a4.block k hk
  · exact ⟨World.ownsRow_nil _ _ _ _, World.ownsRow_nil _ _ _ _, World.ownsRow_nil _ _ _ _, World.ownsRow_nil _ _ _ _, World.ownsRow_nil _ _ _ _, World.ownsRow_nil _ _ _ _⟩
/-- The end: the unit is handed over. -/
theorem bgn_end {w W : World} {p : Pt} {V : Vs} (h : Bgn w W p (begun p) V) : (W.setRow (w.heap.size + 1) (cellsU (begun p) V)).heap[w.heap.size + 1]? = some (.cells (cellsU (begun p) V) 65 (0, 0)) ∧
    Begun w p (.returned (.agg (cellsU (begun p) V))) (W.setRow (w.heap.size + 1) (cellsU (begun p) V)) := by
  have ho : ∀ k, k ≠ w.heap.size + 1 → (W.setRow (w.heap.size + 1) (cellsU (begun p) V)).heap[k]? = W.heap[k]? := fun k hk => setRow_other _ _ _ _ hk
  have hw : ∀ {e n : Nat} {v : Value} {xs : List Value}, W.ownsRow (w.heap.size + 3) e 1 v n xs → (W.setRow (w.heap.size + 1) (cellsU (begun p) V)).ownsRow w.heap.size e 1 v n xs := fun h => by
    refine ⟨h.1, ?_⟩
    rcases h.2 with h2 | ⟨g2, cap, cur, rfl, hge, hh, r⟩
    · exact .inl h2
    · exact .inr ⟨g2, cap, cur, rfl, by omega, (ho g2 (by omega)).trans hh, r⟩
  refine ⟨setRow_heap _ _ _ _ _ _ h.r2, V, rfl, ⟨hw h.t.c, hw h.t.k, hw h.t.s, hw h.t.w, hw h.t.n, hw h.t.r⟩, h.a, h.bel.os, h.bel.tape, h.bel.output, by rw [size_setRow]; exact h.bel.size, fun k hk => ?_⟩
  rw [ho k (by omega)]
  exact h.bel.block k hk
theorem Bgn.part {w W : World} {p : Pt} {u : Un} {V : Vs} (h : Bgn w W p u V) : W.cell? ⟨w.heap.size, 0, none⟩ = some (.int .u8 p.kind) ∧ W.cell? ⟨w.heap.size, 1, none⟩ = some (.int .i64 p.size) ∧ W.cell? ⟨w.heap.size, 3, none⟩ = some (.int .i64 p.b) :=
  ⟨row_cell h.r1 0, row_cell h.r1 1, row_cell h.r1 3⟩
attribute [local irreducible] cellsU cellsPt
set_option maxRecDepth 10000 in
set_option maxHeartbeats 4000000 in
theorem begun_none (p : Pt) (w : World) (sz : Nat) (hsz : p.size = (sz : Int)) (hs16 : sz ≤ 16) (hk : p.kind = 1 ∨ p.kind = 5) :
    Calls Tryz.prog 29 #[.agg (cellsPt p)] w (Begun w p) := by
  have z65 := zero65
  have hbd := build65 p
  have hszP := szP p
  have HPW := hid (fun w => r_power sz (by omega) w)
  have HB := hid (fun W (h : Bgn w W p (begun p) nilV) => h)
  obtain ⟨W1, hW1⟩ : ∃ W1, (w.alloc (.cells (cellsPt p) 38)).alloc (.cells (cellsU zUn nilV) 65) = W1 := ⟨_, rfl⟩
  have HW := hid (by
    have a1 := heap_alloc_new w (.cells (cellsPt p) 38)
    have a2 := heap_alloc_new (w.alloc (.cells (cellsPt p) 38)) (.cells (cellsU zUn nilV) 65)
    have hs : (w.alloc (.cells (cellsPt p) 38)).heap.size = w.heap.size + 1 := by simp
    rw [hs, hW1] at a2
    have a3 : W1.heap[w.heap.size]? = some (.cells (cellsPt p) 38 (0, 0)) := by
      rw [← hW1]
      exact (Below.heap_alloc _ _ _ (by rw [hs]; omega)).trans a1
    have a4 : W1.heap.size = w.heap.size + 2 := by rw [← hW1]; simp
    have a5 : Below w.heap.size w W1 := by
      rw [← hW1]
      exact ((Below.refl _ w).alloc (Nat.le_refl _) _).alloc (by rw [hs]; omega) _
    exact (⟨a3, a2, a4, a5⟩ : W1.heap[w.heap.size]? = some (.cells (cellsPt p) 38 (0, 0)) ∧ W1.heap[w.heap.size + 1]? = some (.cells (cellsU zUn nilV) 65 (0, 0)) ∧ W1.heap.size = w.heap.size + 2 ∧ Below w.heap.size w W1))
  go_enter Tryz.func29, Tryz.ntmps29
  go_upto_region 1 with fail
  clear hW1
  obtain ⟨a1, a2, a3, a4⟩ := HW.out
  clear HW
  generalize hH : w.heap.size = H at *
  have hn : (W1.alloc (.cells (cellsU zUn nilV) 65)).heap[H + 2]? = some (.cells (cellsU zUn nilV) 65 (0, 0)) := by rw [← a3]; exact heap_alloc_new _ _
  have BG := hid (bgn_made hH a1 a2 a3 a4)
  go_upto_region 2 with (first
    | (refine wpList_load_row rfl 38 (.tmp 1) rfl H rfl 38 (cellsPt p) (0, 0) _ a1 Tryz.underlying38 rfl hszP ?_)
    | (refine wpList_build65 p rfl (.tmp 11) rfl rfl ?_)
    | (refine wpList_store_row (o := ⟨none, .store 65 (.tmp 3) (.tmp 12), _, _, _, _⟩) rfl 65 (.tmp 3) (.tmp 12) rfl (H + 2) (cellsU { p := p } nilV) rfl rfl 65 _ hn (szU _ _) (szEq _ _ _ _) (oneU _ _) ?_))
  generalize (W1.alloc (.cells (cellsU zUn nilV) 65)).setRow (H + 2) (cellsU { p := p } nilV) = W2 at *
  clear a1 a2 a3 a4 hn hbd hszP
  obtain ⟨p0, p1, p3⟩ := BG.out.part
  rw [hsz] at p1
  rw [hH] at p0 p1 p3
  have hbp : begun p = { p := p } := by
    unfold begun
    rcases hk with h | h <;> simp [h]
  have BE := hid (bgn_end (by rw [hbp]; exact BG.out : Bgn w W2 p (begun p) nilV))
  rw [hH] at BE
  rw [hbp] at BE
  have r3 := BG.out.r3
  have r2 := BG.out.r2
  rw [hH] at r2 r3
  have n2 : ((p.kind : Int) == 2) = false := by simp only [beq_eq_false_iff_ne, ne_eq]; omega
  have n3 : ((p.kind : Int) == 3) = false := by simp only [beq_eq_false_iff_ne, ne_eq]; omega
  have n4 : ((p.kind : Int) == 4) = false := by simp only [beq_eq_false_iff_ne, ne_eq]; omega
  have n6 : ((p.kind : Int) == 6) = false := by simp only [beq_eq_false_iff_ne, ne_eq]; omega
  have n7 : ((p.kind : Int) == 7) = false := by simp only [beq_eq_false_iff_ne, ne_eq]; omega
  have n8 : ((p.kind : Int) == 8) = false := by simp only [beq_eq_false_iff_ne, ne_eq]; omega
  have n9 : ((p.kind : Int) == 9) = false := by simp only [beq_eq_false_iff_ne, ne_eq]; omega
  clear hk BG HB
  go_upto_region 38 with (go_at_call 54; (with_reducible refine (HPW.out _).mono ?_); rintro rj wj ⟨rfl, ej⟩; rw [ej]; clear ej wj)
  go_wp2_with (first
    | (refine wpList_load_row rfl 65 (.tmp 3) rfl (H + 2) rfl 65 (cellsU { p := p } nilV) (0, 0) _ r3 Tryz.underlying65 rfl (szU _ _) ?_)
    | (refine wpList_store_row (o := ⟨none, .store 65 (.tmp 2) (.tmp 128), _, _, _, _⟩) rfl 65 (.tmp 2) (.tmp 128) rfl (H + 1) (cellsU { p := p } nilV) rfl rfl 65 _ r2 (szU _ _) (szEq _ _ _ _) (oneU _ _) ?_))
  refine bodyPost_ret (results_cell_row (by kernel_rfl : Tryz.f29.results = #[.cell 2 65]) _ _ (H + 1) 65 (cellsU { p := p } nilV) (0, 0) _ rfl BE.out.1 Tryz.underlying65 rfl (szU _ _)) rfl ?_
  exact BE.out.2
end Go.Proofs.YtkfdbibgjoaefaaGreatDoor
/-
  The document's blend: a part's tables at first: kind 6 (written by tools/stage12/gen_rbh.py).
-/
namespace Go.Proofs.YtkfdbibgjoaefaaGreatDoor
open Go.RowKit
set_option linter.unusedVariables false
set_option linter.unusedSimpArgs false

theorem nil_own (W : World) (B e : Nat) : W.ownsRow B e 1 (.slice nilS.a nilS.n nilS.c) 0 [] := World.ownsRow_nil _ _ _ _
def wV (s : Sw) : Vs := { nilV with w := s }
theorem wV_apt (s : Sw) : AptV (wV s) := by
  have e : nilS.b = none := rfl
  have h1 : ∀ x, Apt nilS.b x := fun x b h => by rw [e] at h; cases h
  have h2 : ∀ x, Apt x nilS.b := fun x b h h2 => by rw [e] at h2; cases h2
  exact ⟨h1 _, h1 _, h1 _, h1 _, h1 _, h1 _, h1 _, h1 _, h1 _, h1 _, h1 _, h1 _, h2 _, h2 _, h1 _⟩
/-- The list of weights grows. -/
theorem Bgn.grow_w {w W W1 W2 : World} {p : Pt} {l : List Int} {s s' : Sw} {x : Int} (h : Bgn w W p { p := p, weight := l } (wV s)) (b : Below W.heap.size W W1) (hg : W1.grownBy W2 (Value.slice s.a s.n s.c).ownBlock)
    (ho : W2.ownsRow (w.heap.size + 3) 3 1 (.slice s'.a s'.n s'.c) (l.length + 1) (l.map iv ++ [iv x])) :
    Bgn w (W2.setCell ⟨w.heap.size + 2, 11, none⟩ (.slice s'.a s'.n s'.c)) p { p := p, weight := l ++ [x] } (wV s') := by
  have hlt : w.heap.size + 3 ≤ W.heap.size := by
    have := lt_of_heap h.r3
    omega
  have hrow : ∀ k, (Value.slice s.a s.n s.c).ownBlock = some k → w.heap.size + 3 ≤ k := fun k hk => (own_lt h.t.w hk).1
  have hk : ∀ k, k < w.heap.size + 3 → W2.heap[k]? = W.heap[k]? := fun k hk => by
    rw [hg.block k (by have := b.size; omega) (fun e => by have := hrow k e.symm; omega)]
    exact b.block k (by omega)
  have hk2 : ∀ k, k < w.heap.size + 2 → (W2.setCell ⟨w.heap.size + 2, 11, none⟩ (.slice s'.a s'.n s'.c)).heap[k]? = W.heap[k]? := fun k hk3 => by
    rw [Below.heap_setCell _ _ _ _ (by show k ≠ w.heap.size + 2; omega)]
    exact hk k (by omega)
  have r3 : W2.heap[w.heap.size + 2]? = some (.cells (cellsU { p := p, weight := l } (wV s)) 65 (0, 0)) := (hk _ (by omega)).trans h.r3
  have ebig : (W2.setCell ⟨w.heap.size + 2, 11, none⟩ (.slice s'.a s'.n s'.c)).heap[w.heap.size + 2]? = some (.cells (cellsU { p := p, weight := l ++ [x] } (wV s')) 65 (0, 0)) := row_set r3 11 _
  refine ⟨⟨hg.os.trans (b.os.trans h.bel.os), hg.tape.trans (b.tape.trans h.bel.tape), hg.output.trans (b.output.trans h.bel.output), by rw [World.size_setCell]; have := h.bel.size; have := b.size; have := hg.size; omega, fun k hk3 => (hk2 k (by omega)).trans (h.bel.block k hk3)⟩, (hk2 _ (by omega)).trans h.r1, (hk2 _ (by omega)).trans h.r2, ebig, ?_, wV_apt _⟩
  refine ⟨World.ownsRow_nil _ _ _ _, World.ownsRow_nil _ _ _ _, World.ownsRow_nil _ _ _ _, ?_, World.ownsRow_nil _ _ _ _, World.ownsRow_nil _ _ _ _⟩
  have e1 : (({ p := p, weight := l ++ [x] } : Un).weight).length = l.length + 1 := by simp
  have e2 : (({ p := p, weight := l ++ [x] } : Un).weight).map iv = l.map iv ++ [iv x] := by simp
  rw [e1, e2]
  exact own_off ho _ _ (fun e => by
    have h5 : w.heap.size + 3 ≤ w.heap.size + 2 := (own_lt ho e).1
    omega)
theorem own_sw {w : World} {base e s n : Nat} {v : Value} {xs : List Value} (h : w.ownsRow base e s v n xs) : ∃ q : Sw, v = .slice q.a q.n q.c ∧ q.n = n ∧ n ≤ q.c ∧ q.c ≤ maxLen := by
  obtain ⟨A, c, e1, e2, e3⟩ := own_slice h
  exact ⟨⟨A, n, c⟩, e1, rfl, e2, e3⟩
theorem Bgn.cw {w W : World} {p : Pt} {u : Un} {V : Vs} (h : Bgn w W p u V) : W.cell? ⟨w.heap.size + 2, 11, none⟩ = some (.slice V.w.a V.w.n V.w.c) ∧ W.frozen? ⟨w.heap.size + 2, 11, none⟩ = false := ⟨row_cell h.r3 11, row_free h.r3 11⟩
attribute [local irreducible] cellsU cellsPt
set_option maxRecDepth 10000 in
set_option maxHeartbeats 4000000 in
theorem begun_6 (p : Pt) (w : World) (sz : Nat) (hsz : p.size = (sz : Int)) (hs16 : sz ≤ 16) (hk : p.kind = 6) :
    Calls Tryz.prog 29 #[.agg (cellsPt p)] w (Begun w p) := by
  have hbp : begun p = { p := p, weight := List.replicate (pw p.size) 32768 } := by
    unfold begun
    simp [hk]
  have z65 := zero65
  have hbd := build65 p
  have hszP := szP p
  have HPW := hid (fun w => r_power sz (by omega) w)
  have HB := hid (fun W (h : Bgn w W p (begun p) nilV) => h)
  obtain ⟨W1, hW1⟩ : ∃ W1, (w.alloc (.cells (cellsPt p) 38)).alloc (.cells (cellsU zUn nilV) 65) = W1 := ⟨_, rfl⟩
  have HW := hid (by
    have a1 := heap_alloc_new w (.cells (cellsPt p) 38)
    have a2 := heap_alloc_new (w.alloc (.cells (cellsPt p) 38)) (.cells (cellsU zUn nilV) 65)
    have hs : (w.alloc (.cells (cellsPt p) 38)).heap.size = w.heap.size + 1 := by simp
    rw [hs, hW1] at a2
    have a3 : W1.heap[w.heap.size]? = some (.cells (cellsPt p) 38 (0, 0)) := by
      rw [← hW1]
      exact (Below.heap_alloc _ _ _ (by rw [hs]; omega)).trans a1
    have a4 : W1.heap.size = w.heap.size + 2 := by rw [← hW1]; simp
    have a5 : Below w.heap.size w W1 := by
      rw [← hW1]
      exact ((Below.refl _ w).alloc (Nat.le_refl _) _).alloc (by rw [hs]; omega) _
    exact (⟨a3, a2, a4, a5⟩ : W1.heap[w.heap.size]? = some (.cells (cellsPt p) 38 (0, 0)) ∧ W1.heap[w.heap.size + 1]? = some (.cells (cellsU zUn nilV) 65 (0, 0)) ∧ W1.heap.size = w.heap.size + 2 ∧ Below w.heap.size w W1))
  go_enter Tryz.func29, Tryz.ntmps29
  go_upto_region 1 with fail
  clear hW1
  obtain ⟨a1, a2, a3, a4⟩ := HW.out
  clear HW
  generalize hH : w.heap.size = H at *
  have hn : (W1.alloc (.cells (cellsU zUn nilV) 65)).heap[H + 2]? = some (.cells (cellsU zUn nilV) 65 (0, 0)) := by rw [← a3]; exact heap_alloc_new _ _
  have BG := hid (bgn_made hH a1 a2 a3 a4)
  go_upto_region 2 with (first
    | (refine wpList_load_row rfl 38 (.tmp 1) rfl H rfl 38 (cellsPt p) (0, 0) _ a1 Tryz.underlying38 rfl hszP ?_)
    | (refine wpList_build65 p rfl (.tmp 11) rfl rfl ?_)
    | (refine wpList_store_row (o := ⟨none, .store 65 (.tmp 3) (.tmp 12), _, _, _, _⟩) rfl 65 (.tmp 3) (.tmp 12) rfl (H + 2) (cellsU { p := p } nilV) rfl rfl 65 _ hn (szU _ _) (szEq _ _ _ _) (oneU _ _) ?_))
  generalize (W1.alloc (.cells (cellsU zUn nilV) 65)).setRow (H + 2) (cellsU { p := p } nilV) = W2 at *
  clear a1 a2 a3 a4 hn hbd hszP
  obtain ⟨i3, hi3, hz3, hs3, hb3⟩ := info_parts rinfo3
  obtain ⟨p0, p1, p3⟩ := BG.out.part
  rw [hsz] at p1
  rw [hH] at p0 p1 p3
  obtain ⟨pn, hpn⟩ : ∃ pn, 2 ^ sz = pn := ⟨_, rfl⟩
  have epw : pw p.size = pn := by unfold pw; rw [hsz, ← hpn]; rfl
  have hpn2 : pn ≤ 65536 := by rw [← hpn]; exact Nat.pow_le_pow_right (n := 2) (by decide) hs16
  rw [hpn] at HPW
  rw [epw] at hbp
  have n2 : ((p.kind : Int) == 2) = false := by simp only [beq_eq_false_iff_ne, ne_eq]; omega
  have n3 : ((p.kind : Int) == 3) = false := by simp only [beq_eq_false_iff_ne, ne_eq]; omega
  have n4 : ((p.kind : Int) == 4) = false := by simp only [beq_eq_false_iff_ne, ne_eq]; omega
  have n6 : ((p.kind : Int) == 6) = true := by simp only [beq_iff_eq]; omega
  clear hk HB
  go_upto_region 19 with (go_at_call 54; (with_reducible refine (HPW.out _).mono ?_); rintro rj wj ⟨rfl, ej⟩; rw [ej]; clear ej wj)
  have BG0 : Hid (Bgn w W2 p { p := p, weight := List.replicate 0 32768 } (wV nilS)) := hid BG.out
  clear BG p0 p1 p3 n2 n3 n4 n6 HPW
  go_loopw [7] (fun v wr => ∃ (i : Nat) (s : Sw), i ≤ pn ∧ v = .int .i64 (i : Int) ∧ Hid (Bgn w wr p { p := p, weight := List.replicate i 32768 } (wV s))) (fun v _ => pn - (intOf v).toNat)
  case atStart => exact ⟨0, nilS, by omega, rfl, BG0⟩
  case round =>
    obtain ⟨i, s, hi, rfl, BI⟩ := hrel
    clear BG0
    obtain ⟨cw, fw⟩ := BI.out.cw
    rw [hH] at cw fw
    by_cases hlt : i < pn
    · have hz : (i : Int) < (pn : Int) := by omega
      have ho := BI.out.t.w
      have el : (({ p := p, weight := List.replicate i 32768 } : Un).weight).length = i := by simp
      rw [el, hH] at ho
      obtain ⟨A1, c1, ev, hc1, hm1⟩ := own_slice ho
      have es : s.n = i := by injection ev
      replace cw : wr.cell? ⟨H + 2, 11, none⟩ = some (.slice s.a i s.c) := by rw [← es]; exact cw
      replace ho : wr.ownsRow (H + 3) 3 1 (.slice s.a i s.c) i ((List.replicate i (32768 : Int)).map iv) := by rw [← es] at ho ⊢; exact ho
      have HO := hid ho
      have hsz2 : H + 3 ≤ wr.heap.size := by rw [← hH]; have := lt_of_heap BI.out.r3; omega
      clear ho ev
      have HGW := hid (fun w3 (s' : Sw) (hg1 : (wr.alloc (.cells #[.int .i64 32768] 3)).grownBy w3 (Value.slice s.a i s.c).ownBlock) (ho1 : w3.ownsRow (H + 3) 3 1 (.slice s'.a s'.n s'.c) (i + 1) ((List.replicate i (32768 : Int)).map iv ++ [iv 32768])) => Bgn.grow_w (x := 32768) (s' := s') BI.out ((Below.refl _ wr).alloc (Nat.le_refl _) _) (by rw [es]; exact hg1) (by rw [hH]; simpa using ho1))
      have HK3 := hid (fun (w3 : World) (hg1 : (wr.alloc (.cells #[.int .i64 32768] 3)).grownBy w3 (Value.slice s.a i s.c).ownBlock) => (show w3.heap[H + 2]? = wr.heap[H + 2]? from by
        rw [hg1.block _ (by simp; omega) (fun e => by have := (own_lt HO.out e.symm).1; omega)]
        exact Below.heap_alloc _ _ _ (by omega)))
      go_wp2_with (at_builtin; refine wpList_append_own _ rfl (.tmp 68) (.tmp 69) 46 rfl (H + 3) 3 i3 _ 1 8 Tryz.underlying46 hi3 hz3 hs3 hb3 rfl (by decide) (.slice s.a i s.c) i _ rfl (HO.out.alloc _) ⟨wr.heap.size, 0, none⟩ 1 1 [.int .i64 32768] rfl rfl (one_cell wr _ _ 0) (by intro u hu; simp at hu; subst hu; rfl) (by unfold maxLen; omega) (by omega) (by simp; omega) ?_
                   intro v1 w3 hown1 hg1 _
                   rcases own_sw hown1 with ⟨s', rfl, es', hc', hm'⟩
                   have GW := hid (HGW.out w3 s' hg1 hown1)
                   have k3 := HK3.out w3 hg1
                   have cw3 : w3.cell? ⟨H + 2, 11, none⟩ = some (.slice s.a i s.c) := (World.cell?_of_block (w := wr) k3).trans cw
                   have fw3 : w3.frozen? ⟨H + 2, 11, none⟩ = false := (World.frozen?_of_block (w := wr) k3).trans fw
                   replace hown1 := hid hown1
                   replace hg1 := hid hg1)
      rw [hH, es'] at GW
      go_roundw
      case rel => exact ⟨i + 1, s', by omega, by go_num, by rw [List.replicate_succ']; exact GW⟩
      case measure => simp [intOf]; omega
    · obtain rfl : i = pn := by omega
      have BE := hid (bgn_end (by rw [hbp]; exact BI.out : Bgn w wr p (begun p) (wV s)))
      rw [hH, hbp] at BE
      have r3 := BI.out.r3
      have r2 := BI.out.r2
      rw [hH] at r2 r3
      generalize (List.replicate i (32768 : Int)) = ws at *
      clear cw fw BI
      go_wp2_with (first
        | (refine wpList_load_row rfl 65 (.tmp 3) rfl (H + 2) rfl 65 (cellsU { p := p, weight := ws } (wV s)) (0, 0) _ r3 Tryz.underlying65 rfl (szU _ _) ?_)
        | (refine wpList_store_row (o := ⟨none, .store 65 (.tmp 2) (.tmp 128), _, _, _, _⟩) rfl 65 (.tmp 2) (.tmp 128) rfl (H + 1) (cellsU { p := p, weight := ws } (wV s)) rfl rfl 65 _ r2 (szU _ _) (szEq _ _ _ _) (oneU _ _) ?_))
      refine bodyPost_ret (results_cell_row (by kernel_rfl : Tryz.f29.results = #[.cell 2 65]) _ _ (H + 1) 65 (cellsU { p := p, weight := ws } (wV s)) (0, 0) _ rfl BE.out.1 Tryz.underlying65 rfl (szU _ _)) rfl ?_
      exact BE.out.2
end Go.Proofs.YtkfdbibgjoaefaaGreatDoor
