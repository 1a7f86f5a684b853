/-
  Merged: Rbi Rbj Ou Rbk.
-/
import Derived.Test.YtkfdbibgjoaefaaGreatDoorMgB
import Derived.Deep.RegionLaw
import Derived.Deep.RegionHeld
/-
  The document's blend: a part's tables at first: kind 7 (written by tools/stage12/gen_rbi.py).
-/
namespace Go.Proofs.YtkfdbibgjoaefaaGreatDoor
open Go.RowKit
set_option linter.unusedVariables false
set_option linter.unusedSimpArgs false

/-- An append of one number, as a step of a region that draws. -/
theorem step_grow {ops : Array Oper} {o : Oper} {a : Act} {K : Act → World → Prop} {Q : Exit → Act → World → Prop} {E : Prop} (hgd : o.guard = none) (s x : Operand)
    (ho : o.op = .call { callee := .builtin .append, args := #[s, x], argTypes := #[46, 46] }) (w : World) (B i : Nat) (A : Option Addr) (c : Nat) (l : List Int) (d : Int) (hs : a.eval s = .slice A i c) (h : w.ownsRow B 3 1 (.slice A i c) i (l.map iv))
    (hx : a.eval x = .slice (some ⟨w.heap.size, 0, none⟩) 1 1) (hi : i ≤ 1000000) (hB : B ≤ w.heap.size) (W : World) (hW : W = (w.alloc (.cells #[.int .i64 d] 3)).drew)
    (hK : ∀ A' c' W2, Hid (W2.ownsRow B 3 1 (.slice A' (i + 1) c') (i + 1) (l.map iv ++ [iv d])) → Hid ((w.alloc (.cells #[.int .i64 d] 3)).drew.grownBy W2 (Value.slice A i c).ownBlock) → K (a.put o.dst (.slice A' (i + 1) c')) W2) :
    if Region.wanted o (yielded ops a.tmps) = true then Oper.wp Tryz.prog o a W K Q else E := by
  subst hW
  have hw : Region.wanted o (yielded ops a.tmps) = true := by simp [Region.wanted, hgd]
  rw [if_pos hw]
  obtain ⟨i3, hi3, hz3, hs3, hb3⟩ := info_parts rinfo3
  obtain ⟨v', w', hr, h2, h3, _⟩ := run_append_own (P := Tryz.prog) (w := (w.alloc (.cells #[.int .i64 d] 3)).drew) B 46 o.type 3 i3 _ 1 8 Tryz.underlying46 hi3 hz3 hs3 hb3 rfl (by decide) (.slice A i c) i (l.map iv) (own_below (h.alloc _) (Below.refl _ _).drew) ⟨w.heap.size, 0, none⟩ 1 1 [iv d] rfl
    (fun j u hj => one_cell w _ 3 0 j u hj) (by intro u hu; simp at hu; subst hu; rfl) (by unfold maxLen; omega) (by omega) (by show B ≤ (w.alloc (.cells #[.int .i64 d] 3)).heap.size; simp; omega)
  unfold Oper.wp execOp
  simp only [ho, resolve, invoke, builtin, Sem.run_bind, Sem.run_pure, Result.andThen_ok, List.map_toArray, List.map_cons, List.map_nil, hs, hx]
  rw [hr]
  obtain ⟨A', c', rfl, _⟩ := own_slice h2
  exact hK _ _ _ h2 h3
attribute [local irreducible] cellsU cellsPt
set_option maxRecDepth 10000 in
set_option maxHeartbeats 4000000 in
theorem begun_7 (p : Pt) (w : World) (sz : Nat) (hsz : p.size = (sz : Int)) (hs16 : sz ≤ 16) (hk : p.kind = 7) (bb : Nat) (hbb : p.b = (bb : Int)) (hb1 : 1 ≤ bb) (hb8 : bb ≤ 8) :
    Calls Tryz.prog 29 #[.agg (cellsPt p)] w (Begun w p) := by
  obtain ⟨x, hx⟩ : ∃ x : Int, 65536 / (bb : Int) = x := ⟨_, rfl⟩
  have hbp : begun p = { p := p, weight := List.replicate (pw p.size * bb) x } := by
    unfold begun
    simp [hk, hbb, hx]
  have z65 := zero65
  have hbd := build65 p
  have hszP := szP p
  have HPW := hid (fun w => r_power sz (by omega) w)
  have HB := hid (fun W (h : Bgn w W p (begun p) nilV) => h)
  obtain ⟨W1, hW1⟩ : ∃ W1, (w.alloc (.cells (cellsPt p) 38)).alloc (.cells (cellsU zUn nilV) 65) = W1 := ⟨_, rfl⟩
  have HW := hid (by
    have a1 := heap_alloc_new w (.cells (cellsPt p) 38)
    have a2 := heap_alloc_new (w.alloc (.cells (cellsPt p) 38)) (.cells (cellsU zUn nilV) 65)
    have hs : (w.alloc (.cells (cellsPt p) 38)).heap.size = w.heap.size + 1 := by simp
    rw [hs, hW1] at a2
    have a3 : W1.heap[w.heap.size]? = some (.cells (cellsPt p) 38 (0, 0)) := by
      rw [← hW1]
      exact (Below.heap_alloc _ _ _ (by rw [hs]; omega)).trans a1
    have a4 : W1.heap.size = w.heap.size + 2 := by rw [← hW1]; simp
    have a5 : Below w.heap.size w W1 := by
      rw [← hW1]
      exact ((Below.refl _ w).alloc (Nat.le_refl _) _).alloc (by rw [hs]; omega) _
    exact (⟨a3, a2, a4, a5⟩ : W1.heap[w.heap.size]? = some (.cells (cellsPt p) 38 (0, 0)) ∧ W1.heap[w.heap.size + 1]? = some (.cells (cellsU zUn nilV) 65 (0, 0)) ∧ W1.heap.size = w.heap.size + 2 ∧ Below w.heap.size w W1))
  go_enter Tryz.func29, Tryz.ntmps29
  go_upto_region 1 with fail
  clear hW1
  obtain ⟨a1, a2, a3, a4⟩ := HW.out
  clear HW
  generalize hH : w.heap.size = H at *
  have hn : (W1.alloc (.cells (cellsU zUn nilV) 65)).heap[H + 2]? = some (.cells (cellsU zUn nilV) 65 (0, 0)) := by rw [← a3]; exact heap_alloc_new _ _
  have BG := hid (bgn_made hH a1 a2 a3 a4)
  go_upto_region 2 with (first
    | (refine wpList_load_row rfl 38 (.tmp 1) rfl H rfl 38 (cellsPt p) (0, 0) _ a1 Tryz.underlying38 rfl hszP ?_)
    | (refine wpList_build65 p rfl (.tmp 11) rfl rfl ?_)
    | (refine wpList_store_row (o := ⟨none, .store 65 (.tmp 3) (.tmp 12), _, _, _, _⟩) rfl 65 (.tmp 3) (.tmp 12) rfl (H + 2) (cellsU { p := p } nilV) rfl rfl 65 _ hn (szU _ _) (szEq _ _ _ _) (oneU _ _) ?_))
  generalize (W1.alloc (.cells (cellsU zUn nilV) 65)).setRow (H + 2) (cellsU { p := p } nilV) = W2 at *
  clear a1 a2 a3 a4 hn hbd hszP
  obtain ⟨p0, p1, p3⟩ := BG.out.part
  rw [hsz] at p1
  rw [hH] at p0 p1 p3
  obtain ⟨pn, hpn⟩ : ∃ pn, 2 ^ sz = pn := ⟨_, rfl⟩
  have epw : pw p.size = pn := by unfold pw; rw [hsz, ← hpn]; rfl
  have hpn2 : pn ≤ 65536 := by rw [← hpn]; exact Nat.pow_le_pow_right (n := 2) (by decide) hs16
  rw [hpn] at HPW
  rw [epw] at hbp
  obtain ⟨m, hm⟩ : ∃ m, pn * bb = m := ⟨_, rfl⟩
  rw [hm] at hbp
  have hm2 : m ≤ 524288 := by rw [← hm]; exact Nat.le_trans (Nat.mul_le_mul hpn2 hb8) (by decide)
  have em : (pn : Int) * (bb : Int) = (m : Int) := by rw [← hm, Int.natCast_mul]
  have ewm := (wr_in (m : Int) (by omega)).out
  have ex : (65536 : Int).tdiv (bb : Int) = x := by rw [Int.tdiv_eq_ediv_of_nonneg (by omega)]; exact hx
  have hxr : 0 ≤ x ∧ x ≤ 65536 := by rw [← hx]; exact ⟨Int.ediv_nonneg (by omega) (by omega), Int.ediv_le_self _ (by omega)⟩
  have ewx := (wr_in x (by omega)).out
  have hbz : ((bb : Int) == 0) = false := by simp only [beq_eq_false_iff_ne, ne_eq]; omega
  have hbz2 : ¬ bb = 0 := by omega
  have n2 : ((p.kind : Int) == 2) = false := by simp only [beq_eq_false_iff_ne, ne_eq]; omega
  have n3 : ((p.kind : Int) == 3) = false := by simp only [beq_eq_false_iff_ne, ne_eq]; omega
  have n4 : ((p.kind : Int) == 4) = false := by simp only [beq_eq_false_iff_ne, ne_eq]; omega
  have n6 : ((p.kind : Int) == 6) = false := by simp only [beq_eq_false_iff_ne, ne_eq]; omega
  have n7 : ((p.kind : Int) == 7) = true := by simp only [beq_iff_eq]; omega
  clear hk HB
  go_upto_region 24 with (go_at_call 54; (with_reducible refine (HPW.out _).mono ?_); rintro rj wj ⟨rfl, ej⟩; rw [ej]; clear ej wj)
  have BG0 : Hid (Bgn w W2 p { p := p, weight := List.replicate 0 x } (wV nilS)) := hid BG.out
  clear BG p0 p1 p3 n2 n3 n4 n6 n7 HPW
  go_loopw [8] (fun v wr => ∃ (i : Nat) (s : Sw), i ≤ m ∧ v = .int .i64 (i : Int) ∧ Hid (Bgn w wr p { p := p, weight := List.replicate i x } (wV s))) (fun v _ => m - (intOf v).toNat)
  case atStart => exact ⟨0, nilS, by omega, rfl, BG0⟩
  case round =>
    obtain ⟨i, s, hi, rfl, BI⟩ := hrel
    clear BG0
    obtain ⟨cw, fw⟩ := BI.out.cw
    obtain ⟨p0, p1, p3⟩ := BI.out.part
    rw [hbb] at p3
    rw [hH] at cw fw p3
    clear p0 p1
    by_cases hlt : i < m
    · have hz : (i : Int) < (m : Int) := by omega
      have ho := BI.out.t.w
      have el : (({ p := p, weight := List.replicate i x } : Un).weight).length = i := by simp
      rw [el, hH] at ho
      obtain ⟨A1, c1, ev, hc1, hm1⟩ := own_slice ho
      have es : s.n = i := by injection ev
      replace cw : wr.cell? ⟨H + 2, 11, none⟩ = some (.slice s.a i s.c) := by rw [← es]; exact cw
      replace ho : wr.ownsRow (H + 3) 3 1 (.slice s.a i s.c) i ((List.replicate i x).map iv) := by rw [← es] at ho ⊢; exact ho
      have HO := hid ho
      have hsz2 : H + 3 ≤ wr.heap.size := by rw [← hH]; have := lt_of_heap BI.out.r3; omega
      have HGW := hid (fun w3 (s' : Sw) (hg1 : (wr.alloc (.cells #[.int .i64 x] 3)).drew.grownBy w3 (Value.slice s.a i s.c).ownBlock) (ho1 : w3.ownsRow (H + 3) 3 1 (.slice s'.a s'.n s'.c) (i + 1) ((List.replicate i x).map iv ++ [iv x])) => Bgn.grow_w (x := x) (s' := s') BI.out ((Below.refl _ wr).alloc (Nat.le_refl _) _).drew (by rw [es]; exact hg1) (by rw [hH]; simpa using ho1))
      have HK3 := hid (fun (w3 : World) (hg1 : (wr.alloc (.cells #[.int .i64 x] 3)).drew.grownBy w3 (Value.slice s.a i s.c).ownBlock) => (show w3.heap[H + 2]? = wr.heap[H + 2]? from by
        rw [hg1.block _ (by show H + 2 < (wr.alloc (.cells #[.int .i64 x] 3)).heap.size; simp; omega) (fun e => by have := (own_lt HO.out e.symm).1; omega)]
        exact Below.heap_alloc _ _ _ (by omega)))
      clear ho ev
      have cA : (wr.alloc (.cells #[.int .i64 x] 3)).cell? ⟨H + 2, 11, none⟩ = some (.slice s.a i s.c) := (World.cell?_of_block (a := ⟨H + 2, 11, none⟩) (heap_alloc_old wr _ (by show H + 2 < _; omega))).trans cw
      have pA : (wr.alloc (.cells #[.int .i64 x] 3)).cell? ⟨H, 3, none⟩ = some (.int .i64 (bb : Int)) := (World.cell?_of_block (a := ⟨H, 3, none⟩) (heap_alloc_old wr _ (by show H < _; omega))).trans p3
      go_upto_region 26 with fail
      go_region_law (refine step_grow rfl (.tmp 83) (.tmp 87) rfl wr (H + 3) i s.a s.c (List.replicate i x) x rfl HO.out rfl (by omega) hsz2 _ rfl ?_; intro A2 c2 w3 g1 g2; have GW := hid (HGW.out w3 ⟨A2, i + 1, c2⟩ g2.out g1.out); have cw3 := (World.cell?_of_block (a := ⟨H + 2, 11, none⟩) (w := wr) (HK3.out w3 g2.out)).trans cw; have fw3 := (World.frozen?_of_block (a := ⟨H + 2, 11, none⟩) (w := wr) (HK3.out w3 g2.out)).trans fw)
      all_goals rw [hH] at GW
      all_goals clear cA pA cw3 fw3 HGW HK3
      all_goals go_wp2_with fail
      all_goals go_roundw
      all_goals first
        | exact ⟨i + 1, ⟨A2, i + 1, c2⟩, by omega, by go_num, by rw [List.replicate_succ']; exact GW⟩
        | (simp [intOf]; omega)
    · obtain rfl : i = m := by omega
      have BE := hid (bgn_end (by rw [hbp]; exact BI.out : Bgn w wr p (begun p) (wV s)))
      rw [hH, hbp] at BE
      have r3 := BI.out.r3
      have r2 := BI.out.r2
      rw [hH] at r2 r3
      generalize (List.replicate i x) = ws at *
      clear cw fw BI
      go_wp2_with (first
        | (refine wpList_load_row rfl 65 (.tmp 3) rfl (H + 2) rfl 65 (cellsU { p := p, weight := ws } (wV s)) (0, 0) _ r3 Tryz.underlying65 rfl (szU _ _) ?_)
        | (refine wpList_store_row (o := ⟨none, .store 65 (.tmp 2) (.tmp 128), _, _, _, _⟩) rfl 65 (.tmp 2) (.tmp 128) rfl (H + 1) (cellsU { p := p, weight := ws } (wV s)) rfl rfl 65 _ r2 (szU _ _) (szEq _ _ _ _) (oneU _ _) ?_))
      refine bodyPost_ret (results_cell_row (by kernel_rfl : Tryz.f29.results = #[.cell 2 65]) _ _ (H + 1) 65 (cellsU { p := p, weight := ws } (wV s)) (0, 0) _ rfl BE.out.1 Tryz.underlying65 rfl (szU _ _)) rfl ?_
      exact BE.out.2
end Go.Proofs.YtkfdbibgjoaefaaGreatDoor
/-
  The document's blend: two lists that grow side by side.
-/
namespace Go.Proofs.YtkfdbibgjoaefaaGreatDoor
open Go.RowKit
set_option linter.unusedVariables false
set_option linter.unusedSimpArgs false

/-- On the way of beginning: the boxes, and two lists of numbers of one's own, apart. -/
structure St (w W : World) (p : Pt) (u : Un) (V : Vs) (c : Sw) (lc : List Int) (k : Sw) (lk : List Int) : Prop where
  bel : Below w.heap.size w W
  r1 : W.heap[w.heap.size]? = some (.cells (cellsPt p) 38 (0, 0))
  r2 : W.heap[w.heap.size + 1]? = some (.cells (cellsU zUn nilV) 65 (0, 0))
  r3 : W.heap[w.heap.size + 2]? = some (.cells (cellsU u V) 65 (0, 0))
  oc : W.ownsRow (w.heap.size + 3) 3 1 (.slice c.a c.n c.c) lc.length (lc.map iv)
  ok : W.ownsRow (w.heap.size + 3) 3 1 (.slice k.a k.n k.c) lk.length (lk.map iv)
  ap : Apt c.b k.b
/-- A number in a block of its own, beside both. -/
structure El (W : World) (g : Nat) (x : Int) (c k : Sw) : Prop where
  cell : W.cell? ⟨g, 0, none⟩ = some (.int .i64 x)
  nc : c.b ≠ some g
  nk : k.b ≠ some g
section
variable {w W W2 : World} {p : Pt} {u : Un} {V : Vs} {c k c' k' : Sw} {lc lk : List Int} {x : Int} {g : Nat}
theorem St.lt (h : St w W p u V c lc k lk) : w.heap.size + 3 ≤ W.heap.size := by have := lt_of_heap h.r3; omega
theorem St.later (h : St w W p u V c lc k lk) (b : Below W.heap.size W W2) : St w W2 p u V c lc k lk :=
  ⟨h.bel.trans (b.mono h.bel.size), (b.block _ (lt_of_heap h.r1)).trans h.r1, (b.block _ (lt_of_heap h.r2)).trans h.r2, (b.block _ (lt_of_heap h.r3)).trans h.r3, own_below h.oc b, own_below h.ok b, h.ap⟩
theorem El.lt (h : El W g x c k) : g < W.heap.size := lt_cell h.cell
theorem El.later (h : El W g x c k) (b : Below W.heap.size W W2) : El W2 g x c k := ⟨keeps b h.cell, h.nc, h.nk⟩
theorem El.made (h : St w W p u V c lc k lk) (x : Int) : El (W.alloc (.cells #[.int .i64 x] 3)) W.heap.size x c k :=
  ⟨row_cell (heap_alloc_new W _) 0, fun e => by have := (own_lt h.oc e).2; omega, fun e => by have := (own_lt h.ok e).2; omega⟩
theorem own_grown {e : Nat} {B n : Nat} {v : Value} {xs : List Value} {row : Option Nat} (h : W.ownsRow B e 1 v n xs) (hg : W.grownBy W2 row) (hn : ∀ q, v.ownBlock = some q → row ≠ some q) : W2.ownsRow B e 1 v n xs := by
  refine ⟨h.1, ?_⟩
  rcases h.2 with h2 | ⟨g2, cap, cur, rfl, hge, hh, r⟩
  · exact .inl h2
  · exact .inr ⟨g2, cap, cur, rfl, hge, (hg.block g2 (lt_of_heap hh) (fun e => hn g2 rfl e.symm)).trans hh, r⟩
theorem St.appC (h : St w W p u V c lc k lk) (hg : W.grownBy W2 (Value.slice c.a c.n c.c).ownBlock) (ho : W2.ownsRow (w.heap.size + 3) 3 1 (.slice c'.a c'.n c'.c) (lc.length + 1) (lc.map iv ++ [iv x])) (hf : c'.b = c.b ∨ ∃ q, c'.b = some q ∧ W.heap.size ≤ q) : St w W2 p u V c' (lc ++ [x]) k lk := by
  have hrow : ∀ q, (Value.slice c.a c.n c.c).ownBlock = some q → w.heap.size + 3 ≤ q := fun q hq => (own_lt h.oc hq).1
  have hlt := h.lt
  have hk : ∀ i, i < w.heap.size + 3 → W2.heap[i]? = W.heap[i]? := fun i hi => hg.block i (by omega) (fun e => by have := hrow i e.symm; omega)
  refine ⟨h.bel.grown hg (by have := h.bel.size; omega) (fun q hq => by have := hrow q hq; omega), (hk _ (by omega)).trans h.r1, (hk _ (by omega)).trans h.r2, (hk _ (by omega)).trans h.r3, ?_, own_grown h.ok hg (fun q hq e => h.ap q e hq), fun q hq e => ?_⟩
  · rw [List.length_append, List.map_append]; exact ho
  · rcases hf with hf | ⟨q2, hf, h2⟩
    · exact h.ap q (hf ▸ hq) e
    · rw [hf] at hq
      injection hq with hq
      have := (own_lt h.ok e).2
      omega
theorem St.appK (h : St w W p u V c lc k lk) (hg : W.grownBy W2 (Value.slice k.a k.n k.c).ownBlock) (ho : W2.ownsRow (w.heap.size + 3) 3 1 (.slice k'.a k'.n k'.c) (lk.length + 1) (lk.map iv ++ [iv x])) (hf : k'.b = k.b ∨ ∃ q, k'.b = some q ∧ W.heap.size ≤ q) : St w W2 p u V c lc k' (lk ++ [x]) := by
  have hrow : ∀ q, (Value.slice k.a k.n k.c).ownBlock = some q → w.heap.size + 3 ≤ q := fun q hq => (own_lt h.ok hq).1
  have hlt := h.lt
  have hk : ∀ i, i < w.heap.size + 3 → W2.heap[i]? = W.heap[i]? := fun i hi => hg.block i (by omega) (fun e => by have := hrow i e.symm; omega)
  refine ⟨h.bel.grown hg (by have := h.bel.size; omega) (fun q hq => by have := hrow q hq; omega), (hk _ (by omega)).trans h.r1, (hk _ (by omega)).trans h.r2, (hk _ (by omega)).trans h.r3, own_grown h.oc hg (fun q hq e => h.ap q hq e), ?_, fun q hq e => ?_⟩
  · rw [List.length_append, List.map_append]; exact ho
  · rcases hf with hf | ⟨q2, hf, h2⟩
    · exact h.ap q hq (hf ▸ e)
    · rw [hf] at e
      injection e with e
      have := (own_lt h.oc hq).2
      omega
theorem El.appC (h : El W g x c k) (hg : W.grownBy W2 (Value.slice c.a c.n c.c).ownBlock) (hf : c'.b = c.b ∨ ∃ q, c'.b = some q ∧ W.heap.size ≤ q) : El W2 g x c' k := by
  have hl := h.lt
  refine ⟨(World.cell?_of_block (hg.block g hl (fun e => h.nc e.symm))).trans h.cell, fun e => ?_, h.nk⟩
  rcases hf with hf | ⟨q2, hf, h2⟩
  · exact h.nc (hf ▸ e)
  · rw [hf] at e; injection e with e; omega
theorem El.appK (h : El W g x c k) (hg : W.grownBy W2 (Value.slice k.a k.n k.c).ownBlock) (hf : k'.b = k.b ∨ ∃ q, k'.b = some q ∧ W.heap.size ≤ q) : El W2 g x c k' := by
  have hl := h.lt
  refine ⟨(World.cell?_of_block (hg.block g hl (fun e => h.nk e.symm))).trans h.cell, h.nc, fun e => ?_⟩
  rcases hf with hf | ⟨q2, hf, h2⟩
  · exact h.nk (hf ▸ e)
  · rw [hf] at e; injection e with e; omega
theorem St.cells (h : St w W p u V c lc k lk) (i : Nat) : W.cell? ⟨w.heap.size + 2, i, none⟩ = (cellsU u V)[i]? ∧ W.frozen? ⟨w.heap.size + 2, i, none⟩ = false := ⟨row_cell h.r3 i, row_free h.r3 i⟩
end
theorem run_app {W : World} {base : Nat} {ty : TypeId} {v : Value} {n : Nat} {xs : List Value} (hown : W.ownsRow base 3 1 v n xs) (g : Nat) (d : Int) (hc : W.cell? ⟨g, 0, none⟩ = some (.int .i64 d)) (h48 : n ≤ 4000000) (hbase : base ≤ W.heap.size) :
    ∃ (s : Sw) (W' : World), (Builtin.append_ #[46, 46] ty #[v, .slice (some ⟨g, 0, none⟩) 1 1]).run Tryz.prog W = .ok (.slice s.a s.n s.c) W' ∧ W'.ownsRow base 3 1 (.slice s.a s.n s.c) (n + 1) (xs ++ [iv d]) ∧ W.grownBy W' v.ownBlock ∧ (s.b = v.ownBlock ∨ ∃ k, s.b = some k ∧ W.heap.size ≤ k) := by
  obtain ⟨i0, hi, hz0, hz1, hz2⟩ := info_parts rinfo3
  have hnews : ∀ j u, ([iv d] : List Value)[j]? = some u → W.cell? ((⟨g, 0, none⟩ : Addr).add j) = some u := by
    intro j u hj
    rcases j with _ | j
    · simp only [List.getElem?_cons_zero, Option.some.injEq] at hj
      subst hj
      exact hc
    · simp at hj
  have h1 : ∀ u ∈ ([iv d] : List Value), u.oneCell' = true := by intro u hu; simp at hu; subst hu; rfl
  obtain ⟨v', W', hr, h2, h3, h4⟩ := run_append_own (P := Tryz.prog) W base 46 ty 3 i0 _ 1 8 Tryz.underlying46 hi hz0 hz1 hz2 rfl (by decide) v n xs hown ⟨g, 0, none⟩ 1 1 [iv d] rfl hnews h1 (by unfold maxLen; omega) (by omega) hbase
  obtain ⟨s, rfl, _⟩ := own_sw h2
  refine ⟨s, W', hr, h2, h3, ?_⟩
  rcases hown.2 with ⟨rfl, rfl⟩ | ⟨g2, cap, cur, rfl, hbg, hg, hnc, hcm, hcs, htake⟩
  · have e := run_append_nil (P := Tryz.prog) W 46 ty 3 i0 _ Tryz.underlying46 hi hz0 ⟨g, 0, none⟩ 1 1 [iv d] (by rw [hz1]; rfl) hnews (by omega) (by omega) (by rw [hz2]; omega)
    rw [e] at hr
    injection hr with e1 _
    exact .inr ⟨W.heap.size, by unfold Sw.b; rw [← e1]; rfl, Nat.le_refl _⟩
  · by_cases hroom : n + 1 ≤ cap
    · have e := run_append_room (P := Tryz.prog) W 46 ty 3 i0 Tryz.underlying46 hi g2 n cap cur hg ⟨g, 0, none⟩ 1 1 [iv d] (by rw [hz1]; rfl) hnews h1 hroom (by rw [hz1, hcs]; simp; omega)
      rw [e] at hr
      injection hr with e1 _
      exact .inl (by unfold Sw.b; rw [← e1]; rfl)
    · have holds : ∀ j u, xs[j]? = some u → W.cell? ((⟨g2, 0, none⟩ : Addr).add j) = some u := hown.cells (g := g2) rfl
      have e := run_append_grow (P := Tryz.prog) W 46 ty 3 i0 _ Tryz.underlying46 hi hz0 ⟨g2, 0, none⟩ n cap xs (by rw [hz1]; exact hown.1) holds ⟨g, 0, none⟩ 1 1 [iv d] (by rw [hz1]; rfl) hnews (by omega) (by omega) (growslice_fits (by omega) (by rw [hz2]; omega))
      rw [e] at hr
      injection hr with e1 _
      exact .inr ⟨W.heap.size, by unfold Sw.b; rw [← e1]; rfl, Nat.le_refl _⟩
/-- An append of one number, wherever it stands. -/
theorem wp_app {o : Oper} {a : Act} {W : World} {K : Act → World → Prop} {Q : Exit → Act → World → Prop} (s x : Operand)
    (ho : o.op = .call { callee := .builtin .append, args := #[s, x], argTypes := #[46, 46] }) (base : Nat) (v : Value) (n : Nat) (xs : List Value) (g : Nat) (d : Int) (hs : a.eval s = v) (hx : a.eval x = .slice (some ⟨g, 0, none⟩) 1 1)
    (hown : W.ownsRow base 3 1 v n xs) (hc : W.cell? ⟨g, 0, none⟩ = some (.int .i64 d)) (h48 : n ≤ 4000000) (hbase : base ≤ W.heap.size)
    (hK : ∀ (q : Sw) W', Hid (W'.ownsRow base 3 1 (.slice q.a q.n q.c) (n + 1) (xs ++ [iv d])) → Hid (W.grownBy W' v.ownBlock) → Hid (q.b = v.ownBlock ∨ ∃ k, q.b = some k ∧ W.heap.size ≤ k) → K (a.put o.dst (.slice q.a q.n q.c)) W') : Oper.wp Tryz.prog o a W K Q := by
  obtain ⟨q, W', hr, h2, h3, h4⟩ := run_app (ty := o.type) hown g d hc h48 hbase
  unfold Oper.wp execOp
  simp only [ho, resolve, invoke, builtin, Sem.run_bind, Sem.run_pure, Result.andThen_ok, List.map_toArray, List.map_cons, List.map_nil, hs, hx, hr]
  exact hK _ _ h2 h3 h4
def ckV (c k : Sw) : Vs := { nilV with c := c, k := k }
theorem ckV_apt {c k : Sw} (h : Apt c.b k.b) : AptV (ckV c k) := by
  have e : nilS.b = none := rfl
  have h1 : ∀ x, Apt nilS.b x := fun x b h => by rw [e] at h; cases h
  have h2 : ∀ x, Apt x nilS.b := fun x b h h2 => by rw [e] at h2; cases h2
  exact ⟨h, h2 _, h2 _, h2 _, h2 _, h2 _, h2 _, h2 _, h2 _, h1 _, h1 _, h1 _, h1 _, h1 _, h1 _⟩
/-- Both are stored: in one order or the other. -/
theorem St.done {w W : World} {p : Pt} {lc lk lc0 lk0 : List Int} {c k c0 k0 : Sw} (h : St w W p { p := p, chance := lc0, count := lk0 } (ckV c0 k0) c lc k lk) :
    Bgn w ((W.setCell ⟨w.heap.size + 2, 8, none⟩ (.slice c.a c.n c.c)).setCell ⟨w.heap.size + 2, 9, none⟩ (.slice k.a k.n k.c)) p { p := p, chance := lc, count := lk } (ckV c k) ∧
    Bgn w ((W.setCell ⟨w.heap.size + 2, 9, none⟩ (.slice k.a k.n k.c)).setCell ⟨w.heap.size + 2, 8, none⟩ (.slice c.a c.n c.c)) p { p := p, chance := lc, count := lk } (ckV c k) := by
  have go : ∀ (W' : World), W'.os = W.os → W'.tape = W.tape → W'.output = W.output → W'.heap.size = W.heap.size → (∀ i, i ≠ w.heap.size + 2 → W'.heap[i]? = W.heap[i]?) → W'.heap[w.heap.size + 2]? = some (.cells (cellsU { p := p, chance := lc, count := lk } (ckV c k)) 65 (0, 0)) → Bgn w W' p { p := p, chance := lc, count := lk } (ckV c k) := by
    intro W' e1 e2 e3 e4 hk hr
    have hw : ∀ {n : Nat} {v : Value} {xs : List Value}, W.ownsRow (w.heap.size + 3) 3 1 v n xs → W'.ownsRow (w.heap.size + 3) 3 1 v n xs := fun h => by
      refine ⟨h.1, ?_⟩
      rcases h.2 with h2 | ⟨g2, cap, cur, rfl, hge, hh, r⟩
      · exact .inl h2
      · exact .inr ⟨g2, cap, cur, rfl, hge, (hk g2 (by omega)).trans hh, r⟩
    exact ⟨⟨e1.trans h.bel.os, e2.trans h.bel.tape, e3.trans h.bel.output, by rw [e4]; exact h.bel.size, fun i hi => (hk i (by omega)).trans (h.bel.block i hi)⟩, (hk _ (by omega)).trans h.r1, (hk _ (by omega)).trans h.r2, hr, ⟨hw h.oc, hw h.ok, World.ownsRow_nil _ _ _ _, World.ownsRow_nil _ _ _ _, World.ownsRow_nil _ _ _ _, World.ownsRow_nil _ _ _ _⟩, ckV_apt h.ap⟩
  constructor
  · exact go _ rfl rfl rfl (by rw [World.size_setCell, World.size_setCell]) (fun i hi => by rw [Below.heap_setCell _ _ _ _ hi, Below.heap_setCell _ _ _ _ hi]) (row_set (row_set h.r3 8 _) 9 _)
  · exact go _ rfl rfl rfl (by rw [World.size_setCell, World.size_setCell]) (fun i hi => by rw [Below.heap_setCell _ _ _ _ hi, Below.heap_setCell _ _ _ _ hi]) (row_set (row_set h.r3 9 _) 8 _)
theorem Bgn.st {w W : World} {p : Pt} {lc lk : List Int} {c k : Sw} (h : Bgn w W p { p := p, chance := lc, count := lk } (ckV c k)) : St w W p { p := p, chance := lc, count := lk } (ckV c k) c lc k lk :=
  ⟨h.bel, h.r1, h.r2, h.r3, h.t.c, h.t.k, h.a.ck⟩
end Go.Proofs.YtkfdbibgjoaefaaGreatDoor
/-
  A region that draws its order: one condition on the world, kept up to a given operation (the first store), and no longer.
-/
namespace Go.Proofs.YtkfdbibgjoaefaaGreatDoor
open Go.RowKit
set_option linter.unusedVariables false
set_option linter.unusedSimpArgs false
section
variable {P : Program} {ops : Array Oper} {Q : Exit → Act → World → Prop} {md : Region.Mode} {S : World → Prop} {m : Nat}

/-- Whatever order is drawn; S is kept by each operation but 'm' while 'm' has not come up. -/
def wpUntil (P : Program) (md : Region.Mode) (ops : Array Oper) (Q : Exit → Act → World → Prop) (S : World → Prop) (m : Nat) : Nat → Array Bool → Act → World → Prop
  | 0, l, a, w => Region.ready md ops l = [] ∧ Q .normal a w
  | n + 1, l, a, w => (Region.ready md ops l = [] → Q .normal a w) ∧
    ∀ i ∈ Region.ready md ops l, wpOp P ops Q i (fun a' w' => (i ≠ m → l.getD m true = false → S w') ∧ wpUntil P md ops Q S m n (l.setIfInBounds i true) a' w') a w
theorem wpAny_of_until : ∀ (n : Nat) (l : Array Bool) (a : Act) (w : World), wpUntil P md ops Q S m n l a w → wpAny P md ops Q n l a w
  | 0, _, _, _, h => h
  | n + 1, _, _, _, h => ⟨h.1, fun i hi => wpOp_mono (fun a' w' h' => wpAny_of_until n _ a' w' h'.2) (h.2 i hi)⟩
theorem getD_other {l : Array Bool} {i j : Nat} (h : i ≠ j) (b : Bool) : (l.setIfInBounds i b).getD j true = l.getD j true := by
  simp only [Array.getD_eq_getD_getElem?, Array.getElem?_setIfInBounds_ne h]
theorem until_first {i : Nat} {oi : Oper} {v : Value} (hi : ops[i]? = some oi) (hsel : ∀ (j : Nat) (o : Oper) cs b, ops[j]? = some o → o.op ≠ .select cs b) (hQ : ∀ c a w, Q (.panic c) (a.put oi.dst v) w → Q (.panic c) a w)
    (hm : ∀ l, l.getD i true = false → m ∉ Region.ready md ops l) (him : i ≠ m) :
    ∀ (n : Nat) (l : Array Bool) (a : Act) (w : World),
      (∀ j oj, ops[j]? = some oj → j ≠ i → l.getD j true = false → (∀ e ∈ oj.after, Region.binds md e = true → e.on ≠ i) → oi.apart ops oj = true) →
      l.getD m true = false → i ∈ Region.ready md ops l → YieldsIf P ops S oi v a → S w → wpUntil P md ops Q S m n (l.setIfInBounds i true) (a.put oi.dst v) w → wpUntil P md ops Q S m (n + 1) l a w
  | 0, l, a, w, hfree, hl, hr, hy, hS, H => by
    refine ⟨fun h => (by rw [h] at hr; cases hr), fun j hj => ?_⟩
    by_cases hji : j = i
    · subst hji
      exact hy.wpOp hi hS ⟨fun _ _ => hS, H⟩
    · have h2 := ready_mono hj hji
      rw [H.1] at h2
      cases h2
  | n + 1, l, a, w, hfree, hl, hr, hy, hS, H => by
    refine ⟨fun h => (by rw [h] at hr; cases hr), fun j hj => ?_⟩
    by_cases hji : j = i
    · subst hji
      exact hy.wpOp hi hS ⟨fun _ _ => hS, H⟩
    · have hil := (mem_ready.1 hr).1
      have hjm : j ≠ m := fun e => hm l hil (e ▸ hj)
      have h1 := H.2 j (ready_mono hj hji)
      obtain ⟨hjun, oj, hoj, hall⟩ := mem_ready.1 hj
      have hnot : ∀ e ∈ oj.after, Region.binds md e = true → e.on ≠ i := fun e he hb heq => by
        have h1 := hall e he hb
        rw [heq] at h1
        simp only [Array.getD_eq_getD_getElem?] at h1 hil
        cases hq : l[i]? with
        | none => rw [hq] at hil; cases hil
        | some b => rw [hq] at hil h1; simp only [Option.getD_some] at hil h1; rw [hil] at h1; cases h1
      have h2 := wpOp_putIf hoj (hfree j oj hoj hji hjun hnot) (fun cs b => hsel i oi cs b hi) (fun cs b => hsel j oj cs b hoj) hQ hy h1
      refine wpOp_mono (fun a' w' h3 => ?_) h2
      have hs' : S w' := h3.2.1 hjm (by rw [getD_other him]; exact hl)
      refine ⟨fun _ _ => hs', until_first hi hsel hQ hm him n (l.setIfInBounds j true) a' w' (fun k ok hk hki hun hno => ?_) (by rw [getD_other hjm]; exact hl) (ready_mono hr (Ne.symm hji)) h3.1 hs' ?_⟩
      · refine hfree k ok hk hki ?_ hno
        by_cases hjk : j = k
        · subst hjk; exact hjun
        · rw [getD_other hjk] at hun; exact hun
      · rw [Array.setIfInBounds_comm _ _ hji]
        exact h3.2.2
theorem not_ready {i m : Nat} (h : (match ops[m]? with | some o => o.after.any (fun e => Region.binds md e && e.on == i) | none => false) = true) : ∀ l : Array Bool, l.getD i true = false → m ∉ Region.ready md ops l := by
  intro l hl hr
  obtain ⟨_, o, ho, hall⟩ := mem_ready.1 hr
  rw [ho] at h
  simp only [Array.any_eq_true', Bool.and_eq_true, beq_iff_eq] at h
  obtain ⟨e, he, hb, rfl⟩ := h
  have h2 := hall e he hb
  simp only [Array.getD_eq_getD_getElem?] at h2 hl
  cases hq : l[e.on]? with
  | none => rw [hq] at hl; cases hl
  | some b => rw [hq] at hl h2; simp only [Option.getD_some] at hl h2; rw [hl] at h2; cases h2
theorem wpUntil_take {i : Nat} {oi : Oper} {v : Value} {n : Nat} {l : Array Bool} {a : Act} {w : World} (hi : ops[i]? = some oi)
    (hs : Region.noSelect ops = true) (hf : Region.free md ops l i = true) (hr : (Region.ready md ops l).contains i = true)
    (hm : (match ops[m]? with | some o => o.after.any (fun e => Region.binds md e && e.on == i) | none => false) = true) (him : i ≠ m) (hl : l.getD m true = false)
    (hQ : ∀ c a w, Q (.panic c) (a.put oi.dst v) w → Q (.panic c) a w) (hy : YieldsIf P ops S oi v a) (hS : S w)
    (h : wpUntil P md ops Q S m n (l.setIfInBounds i true) (a.put oi.dst v) w) : wpUntil P md ops Q S m (n + 1) l a w :=
  until_first hi (Region.noSelect_spec hs) hQ (not_ready hm) him n l a w (Region.free_spec hi hf) hl (by simpa using hr) hy hS h
def AllU (P : Program) (md : Region.Mode) (ops : Array Oper) (Q : Exit → Act → World → Prop) (S : World → Prop) (m : Nat) (n : Nat) (l : Array Bool) (a : Act) (w : World) (rs : List Nat) : Prop :=
  ∀ i ∈ rs, wpOp P ops Q i (fun a' w' => (i ≠ m → l.getD m true = false → S w') ∧ wpUntil P md ops Q S m n (l.setIfInBounds i true) a' w') a w
theorem AllU.nil {n : Nat} {l : Array Bool} {a : Act} {w : World} : AllU P md ops Q S m n l a w [] := fun _ h => by cases h
theorem AllU.cons {n : Nat} {l : Array Bool} {a : Act} {w : World} {i : Nat} {o : Oper} {rs : List Nat} (ho : ops[i]? = some o)
    (h : ∀ K' : Act → World → Prop, Shut (∀ a w, S w → (S w → wpUntil P md ops Q S m n (l.setIfInBounds i true) a w) → K' a w) → if Region.wanted o (yielded ops a.tmps) = true then Oper.wp P o a w K' Q else K' (a.put o.dst undef) w)
    (hs : AllU P md ops Q S m n l a w rs) : AllU P md ops Q S m n l a w (i :: rs) := fun j hj => by
  rcases List.mem_cons.1 hj with rfl | hj
  · exact wpOp_step ho (fun K' hK => h K' (fun a w hS hW => hK a w ⟨fun _ _ => hS, hW hS⟩))
  · exact hs j hj
/-- At 'm', and behind it: S is asked no more. -/
theorem AllU.late {n : Nat} {l : Array Bool} {a : Act} {w : World} {i : Nat} {o : Oper} {rs : List Nat} (ho : ops[i]? = some o) (hm : (i == m || l.getD m true) = true)
    (h : ∀ K' : Act → World → Prop, Shut (∀ a w, wpUntil P md ops Q S m n (l.setIfInBounds i true) a w → K' a w) → if Region.wanted o (yielded ops a.tmps) = true then Oper.wp P o a w K' Q else K' (a.put o.dst undef) w)
    (hs : AllU P md ops Q S m n l a w rs) : AllU P md ops Q S m n l a w (i :: rs) := fun j hj => by
  rcases List.mem_cons.1 hj with rfl | hj
  · refine wpOp_step ho (fun K' hK => h K' (fun a w hW => hK a w ⟨fun h1 h2 => ?_, hW⟩))
    rw [h2] at hm
    simp only [Bool.or_false, beq_iff_eq] at hm
    exact absurd hm h1
  · exact hs j hj
theorem wpUntil_ready {rs : List Nat} {n : Nat} {l : Array Bool} {a : Act} {w : World} (hr : Region.ready md ops l = rs) (hne : rs ≠ []) (h : AllU P md ops Q S m n l a w rs) : wpUntil P md ops Q S m (n + 1) l a w :=
  ⟨fun h0 => absurd (hr ▸ h0) hne, hr ▸ h⟩
theorem wpUntil_done {l : Array Bool} {a : Act} {w : World} (hr : Region.ready md ops l = []) (h : Q .normal a w) : ∀ n, wpUntil P md ops Q S m n l a w
  | 0 => ⟨hr, h⟩
  | _ + 1 => ⟨fun _ => h, by rw [hr]; simp⟩
theorem wp_region_until (m : Nat) {id : Nat} {a : Act} {w : World} (hm : P.follows .mixedOrders = true) (hS : S w.drew)
    (h : S w.drew → wpUntil P .any ops Q S m ops.size (Array.replicate ops.size false) a w.drew) : (Code.region id ops true).wp P Q a w :=
  wp_region_any hm (wpAny_of_until _ _ _ _ (h hS))
end
end Go.Proofs.YtkfdbibgjoaefaaGreatDoor
/-
  The document's blend: a part's tables at first: what all kinds lean on (written by tools/stage12/gen_rbk.py).
-/
namespace Go.Proofs.YtkfdbibgjoaefaaGreatDoor
open Go.RowKit
set_option linter.unusedVariables false
set_option linter.unusedSimpArgs false

theorem Bgn.grow_w2 {w W W1 W2 : World} {p : Pt} {u : Un} {V : Vs} {s' : Sw} {xs : List Int} (h : Bgn w W p u V) (b : Below W.heap.size W W1) (hg : W1.grownBy W2 (Value.slice V.w.a V.w.n V.w.c).ownBlock)
    (ho : W2.ownsRow (w.heap.size + 3) 3 1 (.slice s'.a s'.n s'.c) (u.weight.length + xs.length) (u.weight.map iv ++ xs.map iv)) (hA : AptV { V with w := s' }) :
    Bgn w (W2.setCell ⟨w.heap.size + 2, 11, none⟩ (.slice s'.a s'.n s'.c)) p { u with weight := u.weight ++ xs } { V with w := s' } := by
  have hlt : w.heap.size + 3 ≤ W.heap.size := by
    have := lt_of_heap h.r3
    omega
  have hrow : ∀ k, (Value.slice V.w.a V.w.n V.w.c).ownBlock = some k → w.heap.size + 3 ≤ k := fun k hk => (own_lt h.t.w hk).1
  have hk : ∀ k, k < w.heap.size + 3 → W2.heap[k]? = W.heap[k]? := fun k hk => by
    rw [hg.block k (by have := b.size; omega) (fun e => by have := hrow k e.symm; omega)]
    exact b.block k (by omega)
  have hk2 : ∀ k, k < w.heap.size + 2 → (W2.setCell ⟨w.heap.size + 2, 11, none⟩ (.slice s'.a s'.n s'.c)).heap[k]? = W.heap[k]? := fun k hk3 => by
    rw [Below.heap_setCell _ _ _ _ (by show k ≠ w.heap.size + 2; omega)]
    exact hk k (by omega)
  have hoth : ∀ {e n : Nat} {v : Value} {X : List Value}, W.ownsRow (w.heap.size + 3) e 1 v n X → (∀ q, v.ownBlock = some q → (Value.slice V.w.a V.w.n V.w.c).ownBlock ≠ some q) → (W2.setCell ⟨w.heap.size + 2, 11, none⟩ (.slice s'.a s'.n s'.c)).ownsRow (w.heap.size + 3) e 1 v n X := fun h1 hn =>
    own_off (own_grown (own_below h1 b) hg hn) _ _ (fun e => by
      have h5 : w.heap.size + 3 ≤ w.heap.size + 2 := (own_lt h1 e).1
      omega)
  have r3 : W2.heap[w.heap.size + 2]? = some (.cells (cellsU u V) 65 (0, 0)) := (hk _ (by omega)).trans h.r3
  have ebig : (W2.setCell ⟨w.heap.size + 2, 11, none⟩ (.slice s'.a s'.n s'.c)).heap[w.heap.size + 2]? = some (.cells (cellsU { u with weight := u.weight ++ xs } { V with w := s' }) 65 (0, 0)) := row_set r3 11 _
  refine ⟨⟨hg.os.trans (b.os.trans h.bel.os), hg.tape.trans (b.tape.trans h.bel.tape), hg.output.trans (b.output.trans h.bel.output), by rw [World.size_setCell]; have := h.bel.size; have := b.size; have := hg.size; omega, fun k hk3 => (hk2 k (by omega)).trans (h.bel.block k hk3)⟩, (hk2 _ (by omega)).trans h.r1, (hk2 _ (by omega)).trans h.r2, ebig, ?_, hA⟩
  refine ⟨hoth h.t.c (fun q hq e => h.a.cw q hq e), hoth h.t.k (fun q hq e => h.a.kw q hq e), hoth h.t.s (fun q hq e => h.a.sw q hq e), ?_, hoth h.t.n (fun q hq e => h.a.wn q e hq), hoth h.t.r (fun q hq e => h.a.wr q e hq)⟩
  have e1 : (({ u with weight := u.weight ++ xs } : Un).weight).length = u.weight.length + xs.length := by simp
  have e2 : (({ u with weight := u.weight ++ xs } : Un).weight).map iv = u.weight.map iv ++ xs.map iv := by simp
  rw [e1, e2]
  exact own_off ho _ _ (fun e => by
    have h5 : w.heap.size + 3 ≤ w.heap.size + 2 := (own_lt ho e).1
    omega)
theorem Bgn.grow_c2 {w W W1 W2 : World} {p : Pt} {u : Un} {V : Vs} {s' : Sw} {xs : List Int} (h : Bgn w W p u V) (b : Below W.heap.size W W1) (hg : W1.grownBy W2 (Value.slice V.c.a V.c.n V.c.c).ownBlock)
    (ho : W2.ownsRow (w.heap.size + 3) 3 1 (.slice s'.a s'.n s'.c) (u.chance.length + xs.length) (u.chance.map iv ++ xs.map iv)) (hA : AptV { V with c := s' }) :
    Bgn w (W2.setCell ⟨w.heap.size + 2, 8, none⟩ (.slice s'.a s'.n s'.c)) p { u with chance := u.chance ++ xs } { V with c := s' } := by
  have hlt : w.heap.size + 3 ≤ W.heap.size := by
    have := lt_of_heap h.r3
    omega
  have hrow : ∀ k, (Value.slice V.c.a V.c.n V.c.c).ownBlock = some k → w.heap.size + 3 ≤ k := fun k hk => (own_lt h.t.c hk).1
  have hk : ∀ k, k < w.heap.size + 3 → W2.heap[k]? = W.heap[k]? := fun k hk => by
    rw [hg.block k (by have := b.size; omega) (fun e => by have := hrow k e.symm; omega)]
    exact b.block k (by omega)
  have hk2 : ∀ k, k < w.heap.size + 2 → (W2.setCell ⟨w.heap.size + 2, 8, none⟩ (.slice s'.a s'.n s'.c)).heap[k]? = W.heap[k]? := fun k hk3 => by
    rw [Below.heap_setCell _ _ _ _ (by show k ≠ w.heap.size + 2; omega)]
    exact hk k (by omega)
  have hoth : ∀ {e n : Nat} {v : Value} {X : List Value}, W.ownsRow (w.heap.size + 3) e 1 v n X → (∀ q, v.ownBlock = some q → (Value.slice V.c.a V.c.n V.c.c).ownBlock ≠ some q) → (W2.setCell ⟨w.heap.size + 2, 8, none⟩ (.slice s'.a s'.n s'.c)).ownsRow (w.heap.size + 3) e 1 v n X := fun h1 hn =>
    own_off (own_grown (own_below h1 b) hg hn) _ _ (fun e => by
      have h5 : w.heap.size + 3 ≤ w.heap.size + 2 := (own_lt h1 e).1
      omega)
  have r3 : W2.heap[w.heap.size + 2]? = some (.cells (cellsU u V) 65 (0, 0)) := (hk _ (by omega)).trans h.r3
  have ebig : (W2.setCell ⟨w.heap.size + 2, 8, none⟩ (.slice s'.a s'.n s'.c)).heap[w.heap.size + 2]? = some (.cells (cellsU { u with chance := u.chance ++ xs } { V with c := s' }) 65 (0, 0)) := row_set r3 8 _
  refine ⟨⟨hg.os.trans (b.os.trans h.bel.os), hg.tape.trans (b.tape.trans h.bel.tape), hg.output.trans (b.output.trans h.bel.output), by rw [World.size_setCell]; have := h.bel.size; have := b.size; have := hg.size; omega, fun k hk3 => (hk2 k (by omega)).trans (h.bel.block k hk3)⟩, (hk2 _ (by omega)).trans h.r1, (hk2 _ (by omega)).trans h.r2, ebig, ?_, hA⟩
  refine ⟨?_, hoth h.t.k (fun q hq e => h.a.ck q e hq), hoth h.t.s (fun q hq e => h.a.cs q e hq), hoth h.t.w (fun q hq e => h.a.cw q e hq), hoth h.t.n (fun q hq e => h.a.cn q e hq), hoth h.t.r (fun q hq e => h.a.cr q e hq)⟩
  have e1 : (({ u with chance := u.chance ++ xs } : Un).chance).length = u.chance.length + xs.length := by simp
  have e2 : (({ u with chance := u.chance ++ xs } : Un).chance).map iv = u.chance.map iv ++ xs.map iv := by simp
  rw [e1, e2]
  exact own_off ho _ _ (fun e => by
    have h5 : w.heap.size + 3 ≤ w.heap.size + 2 := (own_lt ho e).1
    omega)
theorem own_types {W : World} {B B' e e' n n' : Nat} {v v' : Value} {X X' : List Value} (h : W.ownsRow B e 1 v n X) (h' : W.ownsRow B' e' 1 v' n' X') (he : e ≠ e') : Apt v.ownBlock v'.ownBlock := by
  intro q hq hq'
  rcases h.2 with ⟨rfl, _⟩ | ⟨g, cap, cur, rfl, _, hh, _⟩
  · cases hq
  rcases h'.2 with ⟨rfl, _⟩ | ⟨g', cap', cur', rfl, _, hh', _⟩
  · cases hq'
  have e1 : g = q := by injection hq
  have e2 : g' = q := by injection hq'
  subst e1
  subst e2
  rw [hh] at hh'
  injection hh' with hh'
  injection hh' with _ h3
  exact he h3
theorem nil_apt (x : Option Nat) : Apt nilS.b x := fun b h => by
  have e : nilS.b = none := rfl
  rw [e] at h
  cases h
def swV (q s : Sw) : Vs := { nilV with s := q, w := s }
def csV (c q : Sw) : Vs := { nilV with c := c, s := q }
def nrV (n r : Sw) : Vs := { nilV with n := n, r := r }
theorem swV_apt {q s : Sw} (h : Apt q.b s.b) : AptV (swV q s) :=
  ⟨nil_apt _, nil_apt _, nil_apt _, nil_apt _, nil_apt _, nil_apt _, nil_apt _, nil_apt _, nil_apt _, h, (nil_apt _).symm, (nil_apt _).symm, (nil_apt _).symm, (nil_apt _).symm, nil_apt _⟩
theorem csV_apt {q s : Sw} (h : Apt q.b s.b) : AptV (csV q s) :=
  ⟨(nil_apt _).symm, h, (nil_apt _).symm, (nil_apt _).symm, (nil_apt _).symm, nil_apt _, nil_apt _, nil_apt _, nil_apt _, (nil_apt _).symm, (nil_apt _).symm, (nil_apt _).symm, nil_apt _, nil_apt _, nil_apt _⟩
theorem nrV_apt {q s : Sw} (h : Apt q.b s.b) : AptV (nrV q s) :=
  ⟨nil_apt _, nil_apt _, nil_apt _, nil_apt _, nil_apt _, nil_apt _, nil_apt _, nil_apt _, nil_apt _, nil_apt _, nil_apt _, nil_apt _, nil_apt _, nil_apt _, h⟩
/-- The unit's row is turned, new blocks are laid behind it; all else is as it was. -/
structure Fr (g : Nat) (W0 W : World) (cs : Array Value) : Prop where
  os : W.os = W0.os
  tape : W.tape = W0.tape
  output : W.output = W0.output
  size : W0.heap.size ≤ W.heap.size
  blk : ∀ i, i < W0.heap.size → i ≠ g → W.heap[i]? = W0.heap[i]?
  row : W.heap[g]? = some (.cells cs 65 (0, 0))
section
variable {g d : Nat} {W0 W : World} {cs : Array Value} {xs : Array Value} {e : TypeId}
theorem Fr.refl (h : W.heap[g]? = some (.cells cs 65 (0, 0))) : Fr g W W cs := ⟨rfl, rfl, rfl, Nat.le_refl _, fun _ _ _ => rfl, h⟩
theorem Fr.drew (h : Fr g W0 W cs) : Fr g W0 W.drew cs := ⟨h.os, h.tape, h.output, h.size, h.blk, h.row⟩
theorem Fr.alloc (h : Fr g W0 W cs) (o : Obj) : Fr g W0 (W.alloc o) cs :=
  ⟨h.os, h.tape, h.output, by have := h.size; simp; omega, fun i hi hne => (Below.heap_alloc _ _ _ (by have := h.size; omega)).trans (h.blk i hi hne), (Below.heap_alloc _ _ _ (lt_of_heap h.row)).trans h.row⟩
theorem Fr.set (h : Fr g W0 W cs) (i : Nat) (v : Value) : Fr g W0 (W.setCell ⟨g, i, none⟩ v) (cs.setIfInBounds i v) :=
  ⟨h.os, h.tape, h.output, by rw [World.size_setCell]; exact h.size, fun k hk hne => by rw [Below.heap_setCell _ _ _ _ (by show k ≠ g; exact hne)]; exact h.blk k hk hne, row_set h.row i v⟩
theorem blk_alloc (h : W.heap[d]? = some (.cells xs e (0, 0))) (o : Obj) : (W.alloc o).heap[d]? = some (.cells xs e (0, 0)) := (Below.heap_alloc _ _ _ (lt_of_heap h)).trans h
theorem blk_set (h : W.heap[d]? = some (.cells xs e (0, 0))) (i : Nat) (v : Value) (hne : d ≠ g) : (W.setCell ⟨g, i, none⟩ v).heap[d]? = some (.cells xs e (0, 0)) := by
  rw [Below.heap_setCell _ _ _ _ (by show d ≠ g; exact hne)]
  exact h
theorem own_fL {B n : Nat} (F : Nat → Value) (h : W.heap[d]? = some (.cells (fL n F).toArray e (0, 0))) (hB : B ≤ d) (hn : n ≤ 65536) : W.ownsRow B e 1 (.slice (some ⟨d, 0, none⟩) n n) n (fL n F) :=
  ⟨by rw [fL_len]; omega, .inr ⟨d, n, (fL n F).toArray, rfl, hB, h, Nat.le_refl _, by unfold maxLen; omega, by simp [fL_len], by simp only [Nat.mul_one]; rw [List.take_of_length_le (by simp [fL_len])]⟩⟩
end
theorem fL_rep (n : Nat) (v : Value) : fL n (fun _ => v) = List.replicate n v := by simp [fL, List.map_const']
theorem fL_nv (n : Nat) : fL n (fun _ => .int .i64 0) = (List.replicate n 0).map nv := by rw [fL_rep]; simp [nv]
theorem fL_bn (n : Nat) : fL n (fun _ => .int .u8 0) = (List.replicate n 0).map bn := by rw [fL_rep]; simp [bn]
/-- Kind 4: the ring and the numbers are made. -/
theorem Bgn.ring {w W0 W : World} {p : Pt} {a b n : Nat} (h : Bgn w W0 p { p := p } nilV)
    (hF : Fr (w.heap.size + 2) W0 W (((cellsU { p := p } nilV).setIfInBounds 13 (.slice (some ⟨a, 0, none⟩) n n)).setIfInBounds 12 (.slice (some ⟨b, 0, none⟩) n n)))
    (ha : W.heap[a]? = some (.cells (fL n (fun _ => .int .u8 0)).toArray 5 (0, 0))) (hb : W.heap[b]? = some (.cells (fL n (fun _ => .int .i64 0)).toArray 3 (0, 0))) (ha2 : W0.heap.size ≤ a) (hb2 : W0.heap.size ≤ b) (hn : n ≤ 65536) :
    Bgn w W p { p := p, ring := List.replicate n 0, number := List.replicate n 0 } (nrV ⟨some ⟨b, 0, none⟩, n, n⟩ ⟨some ⟨a, 0, none⟩, n, n⟩) := by
  have h3 := lt_of_heap h.r3
  have o1 := own_fL (B := w.heap.size + 3) _ ha (by omega) hn
  have o2 := own_fL (B := w.heap.size + 3) _ hb (by omega) hn
  refine ⟨⟨hF.os.trans h.bel.os, hF.tape.trans h.bel.tape, hF.output.trans h.bel.output, by have := hF.size; have := h.bel.size; omega, fun i hi => (hF.blk i (by omega) (by omega)).trans (h.bel.block i hi)⟩, (hF.blk _ (by omega) (by omega)).trans h.r1, (hF.blk _ (by omega) (by omega)).trans h.r2, hF.row, ⟨World.ownsRow_nil _ _ _ _, World.ownsRow_nil _ _ _ _, World.ownsRow_nil _ _ _ _, World.ownsRow_nil _ _ _ _, ?_, ?_⟩, nrV_apt (own_types o2 o1 (by decide))⟩
  · show W.ownsRow _ 3 1 (.slice (some ⟨b, 0, none⟩) n n) (List.replicate n 0).length ((List.replicate n 0).map nv)
    rw [List.length_replicate, ← fL_nv]
    exact o2
  · show W.ownsRow _ 5 1 (.slice (some ⟨a, 0, none⟩) n n) (List.replicate n 0).length ((List.replicate n 0).map bn)
    rw [List.length_replicate, ← fL_bn]
    exact o1
theorem new_at (W : World) (o : Obj) (n : Nat) (h : n = W.heap.size) : (W.alloc o).heap[n]? = some o := by
  subst h
  exact heap_alloc_new W o
/-- Kinds 3 and 8: the states are made. -/
theorem Bgn.states {w W : World} {p : Pt} {n : Nat} (h : Bgn w W p { p := p } nilV) (hn : n ≤ 65536) :
    Bgn w ((W.setCell ⟨w.heap.size + 2, 10, none⟩ (.slice (some ⟨W.heap.size, 0, none⟩) n n)).alloc (.cells (fL n (fun _ => .int .u8 0)).toArray 5)) p { p := p, state := List.replicate n 0 } { nilV with s := ⟨some ⟨W.heap.size, 0, none⟩, n, n⟩ } := by
  have h3 := lt_of_heap h.r3
  have hF := ((Fr.refl h.r3).set 10 (.slice (some ⟨W.heap.size, 0, none⟩) n n)).alloc (.cells (fL n (fun _ => .int .u8 0)).toArray 5)
  have o1 := own_fL (B := w.heap.size + 3) _ (new_at (W.setCell ⟨w.heap.size + 2, 10, none⟩ (.slice (some ⟨W.heap.size, 0, none⟩) n n)) (.cells (fL n (fun _ => .int .u8 0)).toArray 5) W.heap.size (by rw [World.size_setCell])) (by omega) hn
  refine ⟨⟨hF.os.trans h.bel.os, hF.tape.trans h.bel.tape, hF.output.trans h.bel.output, by have := hF.size; have := h.bel.size; omega, fun i hi => (hF.blk i (by omega) (by omega)).trans (h.bel.block i hi)⟩, (hF.blk _ (by omega) (by omega)).trans h.r1, (hF.blk _ (by omega) (by omega)).trans h.r2, hF.row, ⟨World.ownsRow_nil _ _ _ _, World.ownsRow_nil _ _ _ _, ?_, World.ownsRow_nil _ _ _ _, World.ownsRow_nil _ _ _ _, World.ownsRow_nil _ _ _ _⟩, swV_apt (q := ⟨some ⟨W.heap.size, 0, none⟩, n, n⟩) (s := nilS) (nil_apt _).symm⟩
  show World.ownsRow _ _ 5 1 (.slice (some ⟨W.heap.size, 0, none⟩) n n) (List.replicate n 0).length ((List.replicate n 0).map bn)
  rw [List.length_replicate, ← fL_bn]
  exact o1
/-- What the unit's cells of two lists hold. -/
theorem St.sc {w W : World} {p : Pt} {lc0 lk0 lc lk : List Int} {c0 k0 c k : Sw} {H : Nat} (h : St w W p { p := p, chance := lc0, count := lk0 } (ckV c0 k0) c lc k lk) (hH : w.heap.size = H) :
    W.cell? ⟨H + 2, 8, none⟩ = some (.slice c0.a c0.n c0.c) ∧ W.cell? ⟨H + 2, 9, none⟩ = some (.slice k0.a k0.n k0.c) := by
  subst hH
  exact ⟨(h.cells 8).1, (h.cells 9).1⟩
theorem St.fr {w W : World} {p : Pt} {lc0 lk0 lc lk : List Int} {c0 k0 c k : Sw} {H : Nat} (h : St w W p { p := p, chance := lc0, count := lk0 } (ckV c0 k0) c lc k lk) (hH : w.heap.size = H) :
    W.frozen? ⟨H + 2, 8, none⟩ = false ∧ W.frozen? ⟨H + 2, 9, none⟩ = false := by
  subst hH
  exact ⟨(h.cells 8).2, (h.cells 9).2⟩
theorem Bgn.later {w W W2 : World} {p : Pt} {u : Un} {V : Vs} (h : Bgn w W p u V) (b : Below W.heap.size W W2) : Bgn w W2 p u V :=
  ⟨h.bel.trans (b.mono h.bel.size), (b.block _ (lt_of_heap h.r1)).trans h.r1, (b.block _ (lt_of_heap h.r2)).trans h.r2, (b.block _ (lt_of_heap h.r3)).trans h.r3, ⟨own_below h.t.c b, own_below h.t.k b, own_below h.t.s b, own_below h.t.w b, own_below h.t.n b, own_below h.t.r b⟩, h.a⟩
theorem Bgn.nil {w W : World} {p : Pt} {H : Nat} (h : Bgn w W p { p := p } nilV) (hH : w.heap.size = H) :
    (W.cell? ⟨H + 2, 10, none⟩ = some (.slice none 0 0) ∧ W.frozen? ⟨H + 2, 10, none⟩ = false) ∧ (W.cell? ⟨H + 2, 12, none⟩ = some (.slice none 0 0) ∧ W.frozen? ⟨H + 2, 12, none⟩ = false) ∧ (W.cell? ⟨H + 2, 13, none⟩ = some (.slice none 0 0) ∧ W.frozen? ⟨H + 2, 13, none⟩ = false) := by
  subst hH
  exact ⟨⟨row_cell h.r3 10, row_free h.r3 10⟩, ⟨row_cell h.r3 12, row_free h.r3 12⟩, row_cell h.r3 13, row_free h.r3 13⟩
theorem Bgn.c8 {w W : World} {p : Pt} {u : Un} {V : Vs} {H : Nat} (h : Bgn w W p u V) (hH : w.heap.size = H) : W.cell? ⟨H + 2, 8, none⟩ = some (.slice V.c.a V.c.n V.c.c) ∧ W.frozen? ⟨H + 2, 8, none⟩ = false := by
  subst hH
  exact ⟨row_cell h.r3 8, row_free h.r3 8⟩
theorem if_app {ops : Array Oper} {E : Prop} {o : Oper} {a : Act} {W : World} {K : Act → World → Prop} {Q : Exit → Act → World → Prop} (hgd : o.guard = none) (s x : Operand)
    (ho : o.op = .call { callee := .builtin .append, args := #[s, x], argTypes := #[46, 46] }) (base : Nat) (v : Value) (n : Nat) (xs : List Value) (g : Nat) (d : Int) (hs : a.eval s = v) (hx : a.eval x = .slice (some ⟨g, 0, none⟩) 1 1)
    (hown : W.ownsRow base 3 1 v n xs) (hc : W.cell? ⟨g, 0, none⟩ = some (.int .i64 d)) (h48 : n ≤ 4000000) (hbase : base ≤ W.heap.size)
    (hK : ∀ (q : Sw) W', Hid (W'.ownsRow base 3 1 (.slice q.a q.n q.c) (n + 1) (xs ++ [iv d])) → Hid (W.grownBy W' v.ownBlock) → Hid (q.b = v.ownBlock ∨ ∃ k, q.b = some k ∧ W.heap.size ≤ k) → K (a.put o.dst (.slice q.a q.n q.c)) W') :
    if Region.wanted o (yielded ops a.tmps) = true then Oper.wp Tryz.prog o a W K Q else E := by
  have hw : Region.wanted o (yielded ops a.tmps) = true := by simp [Region.wanted, hgd]
  rw [if_pos hw]
  exact wp_app s x ho base v n xs g d hs hx hown hc h48 hbase hK
end Go.Proofs.YtkfdbibgjoaefaaGreatDoor
