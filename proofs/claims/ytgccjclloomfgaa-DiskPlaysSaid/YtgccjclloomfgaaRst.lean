/-
  The contract of restore: the old file is put behind the floor, byte by byte.
-/
import Derived.Test.YtgccjclloomfgaaBak
namespace Go.Proofs.Ytgccjclloomfgaa
open Go.RowKit Go.Shelf
attribute [local go_sem] Oper.semAt_some

def calm (Q : Exit → Act → World → Prop) : Exit → Act → World → Prop
  | .panic _, _, _ => False
  | e, a, w => Q e a w
theorem wp_calm {P : Program} {c : Code} {Q : Exit → Act → World → Prop} {a : Act} {w : World} (h : c.wp P (calm Q) a w) : c.wp P Q a w :=
  Code.wp_mono (Q := calm Q) (fun e a w (hq : calm Q e a w) => by cases e <;> first | exact hq | exact False.elim hq) h
theorem calm_normal {Q : Exit → Act → World → Prop} {a : Act} {w : World} (h : Q .normal a w) : calm Q .normal a w := h
/-- The disk, a part of the old file put behind the floor. -/
def Dk.mid (d : Dk) (pre : List (Nat × UInt8)) : Dk := { d with now := d.now.take d.floor ++ pre.map (·.2) }
theorem mid_all {d : Dk} (h : d.Ok) : d.mid (backUp (d.old.drop d.floor).reverse (d.old.drop d.floor).reverse.length) = { d with now := d.old } := by
  unfold Dk.mid
  rw [backUp_all, List.reverse_reverse, h.same, List.take_append_drop]
theorem DkAt.kept {B : Nat} {S : Nat → Prop} {w w' : World} {g : Nat} {F L : Value} {d : Dk} {e : Int} {row : Option Nat} (h : DkAt B S w g F L d e) (hg : w.grownBy w' row) (hr : ∀ r, row = some r → ∃ o : Obj, w.heap[r]? = some o ∧ o.isCells = false) : DkAt B S w' g F L d e := by
  have hne : ∀ k cs t fz, w.heap[k]? = some (.cells cs t fz) → some k ≠ row := by
    intro k cs t fz hk e
    obtain ⟨o, ho, hc⟩ := hr k e.symm
    rw [hk] at ho
    cases ho
    cases hc
  have hown : ∀ {v : Value} {n : Nat} {xs : List Value}, w.ownsRow 0 5 1 v n xs → w'.ownsRow 0 5 1 v n xs := by
    intro v n xs ho
    obtain ⟨h1, h2⟩ := ho
    refine ⟨h1, ?_⟩
    rcases h2 with h2 | ⟨q, cap, cur, rfl, hq, hh, r⟩
    · exact .inl h2
    · exact .inr ⟨q, cap, cur, rfl, hq, (hg.block q (lt_of_heap hh) (hne q _ _ _ hh)).trans hh, r⟩
  exact ⟨(hg.block g (lt_of_heap h.row) (hne g _ _ _ h.row)).trans h.row, hown h.ff, hown h.ll, h.ap, h.sg, h.sf, h.sl, fun i hi => ⟨(h.lt i hi).1, Nat.lt_of_lt_of_le (h.lt i hi).2 hg.size⟩, h.ok, h.er, h.ae, h.fe⟩
theorem Stp.kept {S S' : Nat → Prop} {w W W' : World} {row : Option Nat} (h : Stp S S' w W) (hg : W.grownBy W' row) (hr : ∀ r, row = some r → w.heap.size ≤ r) : Stp S S' w W' :=
  ⟨h.but.grown hg (fun k e => .inr (hr k e)), h.new⟩
set_option maxRecDepth 10000 in
set_option maxHeartbeats 1000000 in
theorem Backward_any (A : Option Addr) (n c : Nat) (w : World) : Calls Try.prog 59 #[.slice A n c] w fun r w' => r = .returned (.func (.func 62) #[] #[.pointer (some ⟨w.heap.size, 0, none⟩)]) ∧ w' = w.alloc (.cells #[.slice A n c] 27) := by
  go_enter Try.func59, Try.ntmps59
  go_wp2_with fail
  go_ret
  exact ⟨rfl, rfl⟩
set_option maxRecDepth 10000 in
set_option maxHeartbeats 2000000 in
theorem restore_any {B : Nat} {S : Nat → Prop} {w : World} {g : Nat} {F L : Value} {d : Dk} {e : Int} (h : DkAt B S w g F L d e) :
    Calls Try.prog 48 #[.pointer (some ⟨g, 0, none⟩)] w fun r w' => r = .returned noResult ∧ ∃ F' S', DkAt B S' w' g F' L { d with now := d.old } e ∧ Stp S S' w w' := by
  have hb0 : Below w.heap.size w (w.alloc (.cells #[.pointer (some ⟨g, 0, none⟩)] 22)) := (Below.refl _ w).alloc (Nat.le_refl _) _
  have hbx : (w.alloc (.cells #[.pointer (some ⟨g, 0, none⟩)] 22)).cell? ⟨w.heap.size, 0, none⟩ = some (.pointer (some ⟨g, 0, none⟩)) := row_cell (heap_alloc_new w _) 0
  have h0 := h.below hb0
  have hmx := h.ok.mx
  have hmo := h.ok.mo
  have hm4 := h.ok.m4
  have hfn := h.ok.fn
  have hgl := lt_of_heap h.row
  obtain ⟨AF, cF, rfl⟩ := own_sl h.ff
  obtain ⟨AL, cL, rfl⟩ := own_sl h.ll
  obtain ⟨_, _, c2, c3, c4, _, _, _, _⟩ := h0.cells
  have f2 := row_free h0.row 2
  have hcut := slice_cut AF d.now.length cF d.floor (by have := h.ff; obtain ⟨A9, c9, e9, h9, _⟩ := own_slice this; cases e9; omega)
  have hne : w.heap.size = g → False := by omega
  have hok := h.ok
  -- the disk when its file is cut
  obtain ⟨hk1, hk2⟩ := h0.cut (n := d.floor) hfn (Nat.le_refl _)
  have Hk := hid (And.intro hk1 ((But.of_below hb0 (S := S)).trans hk2 (fun i hi => .inl hi)))
  have hsz0 : (w.alloc (.cells #[.pointer (some ⟨g, 0, none⟩)] 22)).heap.size = w.heap.size + 1 := by simp
  clear hk1 hk2
  refine (callsIn_wide (n := 6)).1 ?_
  refine callsIn_of_wp_marks Try.func48 rfl trivial ?_ rfl
  simp only [Try.ntmps48, List.size_toArray, List.length_cons, List.length_nil, Nat.reduceAdd, Nat.reduceSub, Array.replicate_succ, Array.replicate_zero, List.push_toArray, List.append_toArray, List.nil_append, List.cons_append]
  refine wpIn_wide.2 ?_
  go_wp2_with fail
  generalize (w.alloc (.cells #[.pointer (some ⟨g, 0, none⟩)] 22)) = Wb at hbx h0 c2 c3 c4 f2 Hk hb0 hsz0 ⊢
  refine wp_calm ?_
  refine wp_region_held_drew (S := (fun w' => w'.cell? ⟨w.heap.size, 0, none⟩ = some (.pointer (some ⟨g, 0, none⟩)) ∧ w'.cell? ⟨g, 3, none⟩ = some (.int .i64 (d.floor : Nat)))) (by kernel_rfl) ⟨hbx, c3⟩ (fun hH => ?_)
  refine wpAnyH_take (i := 0) (oi := ⟨some 4, _, _, _, _, _⟩) (v := .pointer (some ⟨g, 0, none⟩)) rfl (by kernel_rfl) (by kernel_rfl) (by kernel_rfl) (fun _ _ _ h => h) (Or.inl ⟨by rfl, by intro w hSw; go_simp⟩) hH ?_
  try simp only [Act.put, List.setIfInBounds_toArray, List.set_cons_zero, List.set_cons_succ]
  refine wpAnyH_take (i := 1) (oi := ⟨some 5, _, _, _, _, _⟩) (v := .pointer (some ⟨g, 0, none⟩)) rfl (by kernel_rfl) (by kernel_rfl) (by kernel_rfl) (fun _ _ _ h => h) (Or.inl ⟨by rfl, by intro w hSw; go_simp⟩) hH ?_
  try simp only [Act.put, List.setIfInBounds_toArray, List.set_cons_zero, List.set_cons_succ]
  refine wpAnyH_take (i := 5) (oi := ⟨some 9, _, _, _, _, _⟩) (v := .pointer (some ⟨g, 0, none⟩)) rfl (by kernel_rfl) (by kernel_rfl) (by kernel_rfl) (fun _ _ _ h => h) (Or.inl ⟨by rfl, by intro w hSw; go_simp⟩) hH ?_
  try simp only [Act.put, List.setIfInBounds_toArray, List.set_cons_zero, List.set_cons_succ]
  refine wpAnyH_take (i := 2) (oi := ⟨some 6, _, _, _, _, _⟩) (v := .pointer (some ⟨g, 0, none⟩)) rfl (by kernel_rfl) (by kernel_rfl) (by kernel_rfl) (fun _ _ _ h => h) (Or.inl ⟨by rfl, by intro w hSw; go_simp⟩) hH ?_
  try simp only [Act.put, List.setIfInBounds_toArray, List.set_cons_zero, List.set_cons_succ]
  refine wpAnyH_take (i := 3) (oi := ⟨some 7, _, _, _, _, _⟩) (v := .pointer (some ⟨g, 2, none⟩)) rfl (by kernel_rfl) (by kernel_rfl) (by kernel_rfl) (fun _ _ _ h => h) (Or.inl ⟨by rfl, by intro w hSw; go_simp⟩) hH ?_
  try simp only [Act.put, List.setIfInBounds_toArray, List.set_cons_zero, List.set_cons_succ]
  refine wpAnyH_take (i := 6) (oi := ⟨some 10, _, _, _, _, _⟩) (v := .pointer (some ⟨g, 0, none⟩)) rfl (by kernel_rfl) (by kernel_rfl) (by kernel_rfl) (fun _ _ _ h => h) (Or.inl ⟨by rfl, by intro w hSw; go_simp⟩) hH ?_
  try simp only [Act.put, List.setIfInBounds_toArray, List.set_cons_zero, List.set_cons_succ]
  refine wpAnyH_take (i := 7) (oi := ⟨some 11, _, _, _, _, _⟩) (v := .pointer (some ⟨g, 3, none⟩)) rfl (by kernel_rfl) (by kernel_rfl) (by kernel_rfl) (fun _ _ _ h => h) (Or.inl ⟨by rfl, by intro w hSw; go_simp⟩) hH ?_
  try simp only [Act.put, List.setIfInBounds_toArray, List.set_cons_zero, List.set_cons_succ]
  refine wpAnyH_take (i := 8) (oi := ⟨some 12, _, _, _, _, _⟩) (v := .int .i64 (d.floor : Nat)) rfl (by kernel_rfl) (by kernel_rfl) (by kernel_rfl) (fun _ _ _ h => h) (Or.inl ⟨by rfl, by intro w hSw; go_simp⟩) hH ?_
  try simp only [Act.put, List.setIfInBounds_toArray, List.set_cons_zero, List.set_cons_succ]
  refine wpAnyH_ready (rs := [4]) (by kernel_rfl) (by simp) (AllReadyH.cons rfl (fun K hK => ?_) AllReadyH.nil)
  go_simp
  refine hK.out _ _ hH (fun hH2 => ?_)
  clear hK K
  refine wpAnyH_take (i := 9) (oi := ⟨some 13, _, _, _, _, _⟩) (v := .slice AF d.floor cF) rfl (by kernel_rfl) (by kernel_rfl) (by kernel_rfl) (fun _ _ _ h => h) (Or.inl ⟨by rfl, by intro w hSw; go_simp⟩) hH2 ?_
  try simp only [Act.put, List.setIfInBounds_toArray, List.set_cons_zero, List.set_cons_succ]
  refine wpAnyH_take (i := 10) (oi := ⟨some 14, _, _, _, _, _⟩) (v := .pointer (some ⟨g, 0, none⟩)) rfl (by kernel_rfl) (by kernel_rfl) (by kernel_rfl) (fun _ _ _ h => h) (Or.inl ⟨by rfl, by intro w hSw; go_simp⟩) hH2 ?_
  try simp only [Act.put, List.setIfInBounds_toArray, List.set_cons_zero, List.set_cons_succ]
  refine wpAnyH_take (i := 11) (oi := ⟨some 15, _, _, _, _, _⟩) (v := .pointer (some ⟨g, 2, none⟩)) rfl (by kernel_rfl) (by kernel_rfl) (by kernel_rfl) (fun _ _ _ h => h) (Or.inl ⟨by rfl, by intro w hSw; go_simp⟩) hH2 ?_
  try simp only [Act.put, List.setIfInBounds_toArray, List.set_cons_zero, List.set_cons_succ]
  refine wpAnyH_ready (rs := [12]) (by kernel_rfl) (by simp) (AllReadyH.cons rfl (fun K hK => ?_) AllReadyH.nil)
  go_simp
  refine hK.out _ _ ⟨keep_set hne hbx, keep_off h0.row rfl (by decide)⟩ (fun hH3 => ?_)
  clear hK K
  refine wpAnyH_done (by kernel_rfl) ?_ _
  refine calm_normal ?_
  have Hkd : Hid (DkAt B S (Wb.setCell ⟨g, 2, none⟩ (.slice AF d.floor cF)).drew g (.slice AF d.floor cF) (.slice AL (d.old.length - d.floor) cL) { d with now := d.now.take d.floor } e ∧ But S w (Wb.setCell ⟨g, 2, none⟩ (.slice AF d.floor cF)).drew) := ⟨Hk.out.1.drew, Hk.out.2.drew⟩
  have q1 : (Wb.setCell ⟨g, 2, none⟩ (.slice AF d.floor cF)).drew.cell? ⟨w.heap.size, 0, none⟩ = some (.pointer (some ⟨g, 0, none⟩)) := keep_set hne hbx
  have q2 : (Wb.setCell ⟨g, 2, none⟩ (.slice AF d.floor cF)).drew.cell? ⟨g, 4, none⟩ = some (.slice AL (d.old.length - d.floor) cL) := Hk.out.1.cells.2.2.2.2.1
  have hszk : (Wb.setCell ⟨g, 2, none⟩ (.slice AF d.floor cF)).drew.heap.size = w.heap.size + 1 := by show (Wb.setCell ⟨g, 2, none⟩ (.slice AF d.floor cF)).heap.size = _; rw [World.size_setCell, hsz0]
  clear hH hH2 hH3 c2 c3 c4 f2 hcut h0 hbx hb0 hsz0 Hk
  generalize (Wb.setCell ⟨g, 2, none⟩ (.slice AF d.floor cF)).drew = W0 at Hkd q1 q2 hszk ⊢
  go_wp2_with (go_at_call 59; refine (Backward_any AL _ cL W0).mono ?_; rintro r w2 ⟨rfl, rfl⟩)
  have hq0 := q1
  have hb1 : Below W0.heap.size W0 (W0.alloc (.cells #[.slice AL (d.old.length - d.floor) cL] 27)) := (Below.refl _ W0).alloc (Nat.le_refl _) _
  have hD1 := Hkd.out.1.below hb1
  have hsz1 : (W0.alloc (.cells #[.slice AL (d.old.length - d.floor) cL] 27)).heap.size = w.heap.size + 2 := by rw [World.size_alloc, hszk]
  have qb : (W0.alloc (.cells #[.slice AL (d.old.length - d.floor) cL] 27)).cell? ⟨w.heap.size + 1, 0, none⟩ = some (.slice AL (d.old.length - d.floor) cL) := by
    have := row_cell (heap_alloc_new W0 (.cells #[.slice AL (d.old.length - d.floor) cL] 27)) 0
    rw [hszk] at this
    exact this
  have q1' := (hb1.cell (p := ⟨w.heap.size, 0, none⟩) (by show w.heap.size < _; omega)).trans q1
  have hs1 : But S w (W0.alloc (.cells #[.slice AL (d.old.length - d.floor) cL] 27)) := Hkd.out.2.trans (.of_below hb1) (S' := S) (fun i hi => .inl hi)
  have hSlt : ∀ i, S i → i < w.heap.size := fun i hi => (h.lt i hi).2
  clear q1 q2 hb1 hszk Hkd hq0
  generalize (W0.alloc (.cells #[.slice AL (d.old.length - d.floor) cL] 27)) = W1 at hD1 hsz1 qb q1' hs1 ⊢
  obtain ⟨A9, c9, e9, hI9⟩ := own_isBB (l := (d.old.drop d.floor).reverse) hD1.ll (by show (d.old.length - d.floor) ≤ _; omega)
  injection e9 with e91 e92 e93
  subst e91 e93
  have hm0 : d.mid [] = { d with now := d.now.take d.floor } := by simp [Dk.mid]
  refine (wpIn_wide (n := 6)).1 ?_
  refine wpIn_rangeFunc_ownF (F := Fence.wide) (encs := fun p : Nat × UInt8 => #[.int .i64 (p.1 : Nat), .int .u8 (p.2.toNat : Nat)]) rfl (by omega) (gf := 62) (lb := #[.pointer (some ⟨w.heap.size + 1, 0, none⟩)]) rfl trivial (enters_of Try.func62 (by kernel_rfl) rfl)
    (backward_stops 5 (w.heap.size + 1) AL (d.old.length - d.floor) cL (d.old.drop d.floor).reverse W1 (by omega) qb hI9.toIsB (by omega)) (fun h1 h2 => ⟨h2.1.trans h1.1, fun ad e => (h2.2 ad e).trans (h1.2 ad e)⟩) ?hKb (Below.refl _ _) (fun _ => rfl)
    (fun pre W => W.cell? ⟨w.heap.size, 0, none⟩ = some (.pointer (some ⟨g, 0, none⟩)) ∧ ∃ F' S', DkAt B S' W g F' (.slice AL (d.old.length - d.floor) cL) (d.mid pre) e ∧ Stp S S' W1 W)
    (fun _ _ _ => False)
    (fun s A B row hs hg hr => ⟨cell_kept hs.1 hg (fun r e => (hr r e).2), by
      obtain ⟨F', S', h1, h2⟩ := hs.2
      exact ⟨F', S', h1.kept hg (fun r e => (hr r e).2), h2.kept hg (fun r e => (hr r e).1)⟩⟩)
    (fun _ _ _ _ _ hs _ _ => hs)
    ⟨q1', _, S, by rw [hm0]; exact hD1, Stp.refl S W1⟩
    (fun x => { tmps := #[.pointer (some ⟨g, 0, none⟩), .pointer (some ⟨w.heap.size, 0, none⟩), undef, .int .u8 (x.2.toNat : Nat), .pointer (some ⟨g, 0, none⟩), .pointer (some ⟨g, 0, none⟩), .pointer (some ⟨g, 0, none⟩), .pointer (some ⟨g, 2, none⟩), .slice AF d.now.length cF, .pointer (some ⟨g, 0, none⟩), .pointer (some ⟨g, 0, none⟩), .pointer (some ⟨g, 3, none⟩), .int .i64 (d.floor : Nat), .slice AF d.floor cF, .pointer (some ⟨g, 0, none⟩), .pointer (some ⟨g, 2, none⟩), .pointer (some ⟨g, 0, none⟩), .pointer (some ⟨g, 0, none⟩), .pointer (some ⟨g, 4, none⟩), .slice AL (d.old.length - d.floor) cL, .func (.func 62) #[] #[.pointer (some ⟨w.heap.size + 1, 0, none⟩)], .int .i64 (x.1 : Nat), .int .u8 (x.2.toNat : Nat), undef, undef, undef, undef, undef, undef, undef, undef, undef, undef], defers := [] }) ?assign ?body ?done ?stop
  case hKb =>
    intro W l o o' hl ho _ _
    refine ⟨World.putObj_heap_other (by omega), fun ad e => World.putObj_heap_other ?_⟩
    have := hD1.lt ad.block (hD1.sl ad.block (by rw [e]; rfl))
    omega
  case assign =>
    intro l x W K hK
    gi_wp2
    exact hK
  case body =>
    rintro lr pre x W ⟨hc, F', S', hD, hS⟩ hlen
    obtain ⟨N, hN⟩ : ∃ N, N = (d.mid pre).now.length := ⟨_, rfl⟩
    have hNl : N + 1 ≤ d.most ∧ N + 1 ≤ 4194304 := by
      have e1 : (d.mid pre).now.length = d.floor + pre.length := by
        show (d.now.take d.floor ++ pre.map (·.2)).length = _
        rw [List.length_append, List.length_take, List.length_map]; omega
      have := hok.fo
      omega
    obtain ⟨A', c', hF'⟩ := own_sl hD.ff
    rw [← hN] at hF'
    subst hF'
    have hp0 : ¬ S' w.heap.size := fun h9 => by rcases hS.new _ h9 with h8 | h8; exact absurd (hSlt _ h8) (by omega); omega
    have hp1 : ¬ S' (w.heap.size + 1) := fun h9 => by rcases hS.new _ h9 with h8 | h8; exact absurd (hSlt _ h8) (by omega); omega
    have hsW := hS.but.size
    have hba : Below W.heap.size W (W.alloc (.cells #[.int .u8 (x.2.toNat : Int)] 5)) := (Below.refl _ W).alloc (Nat.le_refl _) _
    have hFg := own_gne hD.ff hD.row (by decide)
    have hLg := own_gne hD.ll hD.row (by decide)
    have Hb := hid hNl
    have Hp := hid (And.intro hp0 hp1)
    have HA : Hid (DkAt B S' (W.alloc (.cells #[.int .u8 (x.2.toNat : Int)] 5)).drew g (.slice A' N c') (.slice AL (d.old.length - d.floor) cL) (d.mid pre) e ∧ Stp S S' W1 (W.alloc (.cells #[.int .u8 (x.2.toNat : Int)] 5)).drew ∧ IsB (W.alloc (.cells #[.int .u8 (x.2.toNat : Int)] 5)).drew (some ⟨W.heap.size, 0, none⟩) 1 1 [x.2]) :=
      ⟨(hD.below hba).drew, ⟨(hS.but.trans (.of_below hba) (S' := S) (fun i hi => .inl hi)).drew, hS.new⟩, (one_isB W x.2 _ rfl).drewN 1⟩
    have H5 : Hid (∀ (Wn : World) (v : Value), Apd (W.alloc (.cells #[.int .u8 (x.2.toNat : Int)] 5)).drew Wn (.slice A' N c') v (N + 1) (((d.mid pre).now ++ [x.2]).map bv) →
        Wn.cell? ⟨w.heap.size, 0, none⟩ = some (.pointer (some ⟨g, 0, none⟩)) ∧ Wn.heap[g]? = some (.cells (dcells g (.slice A' N c') (.slice AL (d.old.length - d.floor) cL) (d.mid pre) e) 61 (0, 0))) := by
      intro Wn v ha
      have hgF : some g ≠ (Value.slice A' N c').ownBlock := fun e => hFg g e.symm rfl
      exact ⟨ha.grown.cell (keep_alloc hc) (fun e => Hp.out.1 (hD.sf _ e.symm)), (ha.grown.block g (lt_of_heap HA.out.1.row) hgF).trans HA.out.1.row⟩
    have Hfin : Hid (∀ (Wn : World) (v : Value), Apd (W.alloc (.cells #[.int .u8 (x.2.toNat : Int)] 5)).drew Wn (.slice A' N c') v (N + 1) (((d.mid pre).now ++ [x.2]).map bv) →
        (KeepsOthers W (Wn.setCell ⟨g, 2, none⟩ v) ∧ KpB (w.heap.size + 1) AL W (Wn.setCell ⟨g, 2, none⟩ v) ∧ (Wn.setCell ⟨g, 2, none⟩ v).cell? ⟨w.heap.size, 0, none⟩ = some (.pointer (some ⟨g, 0, none⟩)) ∧ ∃ F' S', DkAt B S' (Wn.setCell ⟨g, 2, none⟩ v) g F' (.slice AL (d.old.length - d.floor) cL) (d.mid (pre ++ [x])) e ∧ Stp S S' W1 (Wn.setCell ⟨g, 2, none⟩ v))) := by
      intro Wn v ha
      have ha' : Apd (W.alloc (.cells #[.int .u8 (x.2.toNat : Int)] 5)).drew Wn (.slice A' N c') v ((d.mid pre).now.length + [x.2].length) (((d.mid pre).now ++ [x.2]).map bv) := by rw [← hN]; exact ha
      obtain ⟨k1, k2⟩ := HA.out.1.appd (by rw [← hN]; exact Hb.out.1) ha'
      have em : d.mid (pre ++ [x]) = { d.mid pre with now := (d.mid pre).now ++ [x.2] } := by simp [Dk.mid]
      have bS : But S' W (Wn.setCell ⟨g, 2, none⟩ v) := ((But.of_below hba (S := S')).drew).trans k2.but (fun i hi => .inl hi)
      have lt0 : w.heap.size < W.heap.size := by omega
      have lt1 : w.heap.size + 1 < W.heap.size := by omega
      refine ⟨?_, ⟨bS.block _ lt1 Hp.out.2, fun ad ead => ?_⟩, bS.cell hc Hp.out.1, v, _, ?_, HA.out.2.1.trans k2⟩
      · refine ((KeepsOthers.alloc W (.cells #[.int .u8 (x.2.toNat : Int)] 5)).trans (KeepsOthers.drew _)).trans ((KeepsOthers.of_grownBy ha.grown fun j o hj ho => ?_).trans (KeepsOthers.setCell _ _ _))
        rcases HA.out.1.ff.2 with ⟨h8, _⟩ | ⟨q, cap, cur, hv, _, hh, _⟩
        · injection h8 with h81
          subst h81
          cases hj
        · injection hv with h81
          subst h81
          cases hj
          rw [hh] at ho
          cases ho
          rfl
      · have hk1 : (Value.slice AL (d.old.length - d.floor) cL).ownBlock = some ad.block := by rw [ead]; rfl
        have hkS := hD.sl _ hk1
        have hklt := (hD.lt _ hkS).2
        have hkg := hLg _ hk1
        have e1 : (Wn.setCell ⟨g, 2, none⟩ v).heap[ad.block]? = Wn.heap[ad.block]? := Below.heap_setCell _ _ _ _ hkg
        have e2 : Wn.heap[ad.block]? = W.heap[ad.block]? := by
          refine (ha.grown.block _ (by show ad.block < (World.alloc W _).heap.size; rw [World.size_alloc]; omega) (fun e9 => hD.ap.swap _ hk1 e9.symm)).trans ?_
          exact Below.heap_alloc W _ _ hklt
        exact e1.trans e2
      · rw [em]; exact k1
    have cN := hD.cells.2.2.1
    have ca : (W.alloc (.cells #[.int .u8 (x.2.toNat : Int)] 5)).drew.cell? ⟨g, 2, none⟩ = some (.slice A' N c') := keep_alloc cN
    have HN := hid hN
    have HFo : Hid ((W.alloc (.cells #[.int .u8 (x.2.toNat : Int)] 5)).drew.ownsRow 0 5 1 (.slice A' N c') N ((d.mid pre).now.map bv)) := by
      have := HA.out.1.ff
      rw [← hN] at this
      exact this
    clear hN hD hS hba hFg hLg hp0 hp1 hNl
    refine wpIn_block ?_
    refine wpIn_round_held (S := fun w' => w'.cell? ⟨w.heap.size, 0, none⟩ = some (.pointer (some ⟨g, 0, none⟩))) (by rintro ⟨_, _, h⟩; exact h) (by kernel_rfl) (by kernel_rfl) hc (fun hH => ?_)
    refine wpAnyH_take (i := 0) (oi := ⟨some 23, _, _, _, _, _⟩) (v := .pointer (some ⟨g, 0, none⟩)) rfl (by kernel_rfl) (by kernel_rfl) (by kernel_rfl) (fun _ _ _ h => h) (Or.inl ⟨by rfl, by intro w hSw; go_simp⟩) hH ?_
    try simp only [Act.put, List.setIfInBounds_toArray, List.set_cons_zero, List.set_cons_succ]
    refine wpAnyH_take (i := 1) (oi := ⟨some 24, _, _, _, _, _⟩) (v := .pointer (some ⟨g, 0, none⟩)) rfl (by kernel_rfl) (by kernel_rfl) (by kernel_rfl) (fun _ _ _ h => h) (Or.inl ⟨by rfl, by intro w hSw; go_simp⟩) hH ?_
    try simp only [Act.put, List.setIfInBounds_toArray, List.set_cons_zero, List.set_cons_succ]
    refine wpAnyH_take (i := 2) (oi := ⟨some 25, _, _, _, _, _⟩) (v := .pointer (some ⟨g, 0, none⟩)) rfl (by kernel_rfl) (by kernel_rfl) (by kernel_rfl) (fun _ _ _ h => h) (Or.inl ⟨by rfl, by intro w hSw; go_simp⟩) hH ?_
    try simp only [Act.put, List.setIfInBounds_toArray, List.set_cons_zero, List.set_cons_succ]
    refine wpAnyH_take (i := 3) (oi := ⟨some 26, _, _, _, _, _⟩) (v := .pointer (some ⟨g, 2, none⟩)) rfl (by kernel_rfl) (by kernel_rfl) (by kernel_rfl) (fun _ _ _ h => h) (Or.inl ⟨by rfl, by intro w hSw; go_simp⟩) hH ?_
    try simp only [Act.put, List.setIfInBounds_toArray, List.set_cons_zero, List.set_cons_succ]
    refine wpAnyH_take (i := 5) (oi := ⟨some 28, _, _, _, _, _⟩) (v := .int .u8 (x.2.toNat : Nat)) rfl (by kernel_rfl) (by kernel_rfl) (by kernel_rfl) (fun _ _ _ h => h) (Or.inl ⟨by rfl, by intro w hSw; go_simp⟩) hH ?_
    try simp only [Act.put, List.setIfInBounds_toArray, List.set_cons_zero, List.set_cons_succ]
    refine wpAnyH_ready (rs := [4, 6]) (by kernel_rfl) (by simp) (AllReadyH.cons rfl (fun K hK => ?_) (AllReadyH.cons rfl (fun K hK => ?_) AllReadyH.nil))
    · go_simp
      refine hK.out _ _ hH (fun hH2 => ?_)
      clear hK K
      refine wpAnyH_ready (rs := [6]) (by kernel_rfl) (by simp) (AllReadyH.cons rfl (fun K hK => ?_) AllReadyH.nil)
      go_simp
      refine hK.out _ _ (keep_alloc hc) (fun hH3 => ?_)
      clear hK K
      refine wpAnyH_ready (rs := [7]) (by kernel_rfl) (by simp) (AllReadyH.cons rfl (fun K hK => ?_) AllReadyH.nil)
      refine step_append_dk rfl (.tmp 27) (.tmp 29) rfl (W.alloc (.cells #[.int .u8 (x.2.toNat : Int)] 5)).drew _ N _ rfl HFo.out (some ⟨W.heap.size, 0, none⟩) 1 1 [x.2] rfl HA.out.2.2 (by have := Hb.out.2; omega) ?_
      intro A2 n2 W2 hA2
      obtain ⟨r1, r2⟩ := H5.out _ _ hA2.out
      have r3 := row_cell r2 2
      have r4 := row_free r2 2
      simp only [dcells] at r3
      refine hK.out _ _ r1 (fun hH4 => ?_)
      clear hK K
      refine wpAnyH_take (i := 8) (oi := ⟨some 31, _, _, _, _, _⟩) (v := .pointer (some ⟨g, 0, none⟩)) rfl (by kernel_rfl) (by kernel_rfl) (by kernel_rfl) (fun _ _ _ h => h) (Or.inl ⟨by rfl, by intro w hSw; go_simp⟩) hH4 ?_
      try simp only [Act.put, List.setIfInBounds_toArray, List.set_cons_zero, List.set_cons_succ]
      refine wpAnyH_take (i := 9) (oi := ⟨some 32, _, _, _, _, _⟩) (v := .pointer (some ⟨g, 2, none⟩)) rfl (by kernel_rfl) (by kernel_rfl) (by kernel_rfl) (fun _ _ _ h => h) (Or.inl ⟨by rfl, by intro w hSw; go_simp⟩) hH4 ?_
      try simp only [Act.put, List.setIfInBounds_toArray, List.set_cons_zero, List.set_cons_succ]
      refine wpAnyH_ready (rs := [10]) (by kernel_rfl) (by simp) (AllReadyH.cons rfl (fun K hK => ?_) AllReadyH.nil)
      go_simp
      refine hK.out _ _ (keep_set hne r1) (fun hH5 => ?_)
      clear hK K
      refine wpAnyH_done (by kernel_rfl) ?_ _
      exact Hfin.out _ _ hA2.out
    · go_simp
      refine hK.out _ _ (keep_alloc hc) (fun hH3 => ?_)
      clear hK K
      refine wpAnyH_ready (rs := [4]) (by kernel_rfl) (by simp) (AllReadyH.cons rfl (fun K hK => ?_) AllReadyH.nil)
      go_simp
      refine hK.out _ _ hH3 (fun hH2 => ?_)
      clear hK K
      refine wpAnyH_ready (rs := [7]) (by kernel_rfl) (by simp) (AllReadyH.cons rfl (fun K hK => ?_) AllReadyH.nil)
      refine step_append_dk rfl (.tmp 27) (.tmp 29) rfl (W.alloc (.cells #[.int .u8 (x.2.toNat : Int)] 5)).drew _ N _ rfl HFo.out (some ⟨W.heap.size, 0, none⟩) 1 1 [x.2] rfl HA.out.2.2 (by have := Hb.out.2; omega) ?_
      intro A2 n2 W2 hA2
      obtain ⟨r1, r2⟩ := H5.out _ _ hA2.out
      have r3 := row_cell r2 2
      have r4 := row_free r2 2
      simp only [dcells] at r3
      refine hK.out _ _ r1 (fun hH4 => ?_)
      clear hK K
      refine wpAnyH_take (i := 8) (oi := ⟨some 31, _, _, _, _, _⟩) (v := .pointer (some ⟨g, 0, none⟩)) rfl (by kernel_rfl) (by kernel_rfl) (by kernel_rfl) (fun _ _ _ h => h) (Or.inl ⟨by rfl, by intro w hSw; go_simp⟩) hH4 ?_
      try simp only [Act.put, List.setIfInBounds_toArray, List.set_cons_zero, List.set_cons_succ]
      refine wpAnyH_take (i := 9) (oi := ⟨some 32, _, _, _, _, _⟩) (v := .pointer (some ⟨g, 2, none⟩)) rfl (by kernel_rfl) (by kernel_rfl) (by kernel_rfl) (fun _ _ _ h => h) (Or.inl ⟨by rfl, by intro w hSw; go_simp⟩) hH4 ?_
      try simp only [Act.put, List.setIfInBounds_toArray, List.set_cons_zero, List.set_cons_succ]
      refine wpAnyH_ready (rs := [10]) (by kernel_rfl) (by simp) (AllReadyH.cons rfl (fun K hK => ?_) AllReadyH.nil)
      go_simp
      refine hK.out _ _ (keep_set hne r1) (fun hH5 => ?_)
      clear hK K
      refine wpAnyH_done (by kernel_rfl) ?_ _
      exact Hfin.out _ _ hA2.out
  case done =>
    rintro D xs W hD rfl ⟨hc, F', S', h1, h2⟩ hK
    rw [mid_all hok] at h1
    have h3 := h1.kept (grownBy_putObj' W D (.deferred none)) (fun r e => by cases e; exact ⟨_, hK, rfl⟩)
    have h4 : Stp S S' w (W.putObj D (.deferred none)) := ((Stp.of_but hs1).trans h2).kept (grownBy_putObj' W D (.deferred none)) (fun r e => by cases e; omega)
    go_wp2_with fail
    refine ⟨by simp, .inl ⟨_, _, rfl, run_takeDeferred hK, ?_⟩⟩
    exact ⟨_, results_none rfl _ _ _, rfl, _, _, h3, h4⟩
  case stop =>
    rintro D c pre W _ _ hf _
    exact hf.elim
end Go.Proofs.Ytgccjclloomfgaa
