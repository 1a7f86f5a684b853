/-
  Merged: Rst Spl Crs Str Awk Seg See.
-/
import Derived.Test.YtpeepohiajmhcaaZc
import Derived.Test.YtpeepohiajmhcaaZb
import Derived.Deep.Cut
import Derived.StillTailTactics
import Derived.Lib.ConvBytes
import Derived.Lib.SlBytesConst
import Derived.Laws.BytesArg
/-
  The contract of restore: the old file is put behind the floor, byte by byte.
-/
namespace Go.Proofs.Ytpeepohiajmhcaa
open Go.RowKit Go.Shelf
attribute [local go_sem] Oper.semAt_some

def calm (Q : Exit → Act → World → Prop) : Exit → Act → World → Prop
  | .panic _, _, _ => False
  | e, a, w => Q e a w
theorem wp_calm {P : Program} {c : Code} {Q : Exit → Act → World → Prop} {a : Act} {w : World} (h : c.wp P (calm Q) a w) : c.wp P Q a w :=
  Code.wp_mono (Q := calm Q) (fun e a w (hq : calm Q e a w) => by cases e <;> first | exact hq | exact False.elim hq) h
theorem calm_normal {Q : Exit → Act → World → Prop} {a : Act} {w : World} (h : Q .normal a w) : calm Q .normal a w := h
/-- The disk, a part of the old file put behind the floor. -/
def Dk.mid (d : Dk) (pre : List (Nat × UInt8)) : Dk := { d with now := d.now.take d.floor ++ pre.map (·.2) }
theorem mid_all {d : Dk} (h : d.Ok) : d.mid (backUp (d.old.drop d.floor).reverse (d.old.drop d.floor).reverse.length) = { d with now := d.old } := by
  unfold Dk.mid
  rw [backUp_all, List.reverse_reverse, h.same, List.take_append_drop]
theorem DkAt.kept {B : Nat} {S : Nat → Prop} {w w' : World} {g : Nat} {F L : Value} {d : Dk} {e : Int} {row : Option Nat} (h : DkAt B S w g F L d e) (hg : w.grownBy w' row) (hr : ∀ r, row = some r → ∃ o : Obj, w.heap[r]? = some o ∧ o.isCells = false) : DkAt B S w' g F L d e := by
  have hne : ∀ k cs t fz, w.heap[k]? = some (.cells cs t fz) → some k ≠ row := by
    intro k cs t fz hk e
    obtain ⟨o, ho, hc⟩ := hr k e.symm
    rw [hk] at ho
    cases ho
    cases hc
  have hown : ∀ {v : Value} {n : Nat} {xs : List Value}, w.ownsRow 0 5 1 v n xs → w'.ownsRow 0 5 1 v n xs := by
    intro v n xs ho
    obtain ⟨h1, h2⟩ := ho
    refine ⟨h1, ?_⟩
    rcases h2 with h2 | ⟨q, cap, cur, rfl, hq, hh, r⟩
    · exact .inl h2
    · exact .inr ⟨q, cap, cur, rfl, hq, (hg.block q (lt_of_heap hh) (hne q _ _ _ hh)).trans hh, r⟩
  exact ⟨(hg.block g (lt_of_heap h.row) (hne g _ _ _ h.row)).trans h.row, hown h.ff, hown h.ll, h.ap, h.sg, h.sf, h.sl, fun i hi => ⟨(h.lt i hi).1, Nat.lt_of_lt_of_le (h.lt i hi).2 hg.size⟩, h.ok, h.er, h.ae, h.fe⟩
theorem Stp.kept {S S' : Nat → Prop} {w W W' : World} {row : Option Nat} (h : Stp S S' w W) (hg : W.grownBy W' row) (hr : ∀ r, row = some r → w.heap.size ≤ r) : Stp S S' w W' :=
  ⟨h.but.grown hg (fun k e => .inr (hr k e)), h.new⟩
set_option maxRecDepth 10000 in
set_option maxHeartbeats 1000000 in
theorem Backward_any (A : Option Addr) (n c : Nat) (w : World) : Calls Try.prog 53 #[.slice A n c] w fun r w' => r = .returned (.func (.func 60) #[] #[.pointer (some ⟨w.heap.size, 0, none⟩)]) ∧ w' = w.alloc (.cells #[.slice A n c] 29) := by
  go_enter Try.func53, Try.ntmps53
  go_wp2_with fail
  go_ret
  exact ⟨rfl, rfl⟩
set_option maxRecDepth 10000 in
set_option maxHeartbeats 2000000 in
theorem restore_any {B : Nat} {S : Nat → Prop} {w : World} {g : Nat} {F L : Value} {d : Dk} {e : Int} (h : DkAt B S w g F L d e) :
    Calls Try.prog 39 #[.pointer (some ⟨g, 0, none⟩)] w fun r w' => r = .returned noResult ∧ ∃ F' S', DkAt B S' w' g F' L { d with now := d.old } e ∧ Stp S S' w w' := by
  have hb0 : Below w.heap.size w (w.alloc (.cells #[.pointer (some ⟨g, 0, none⟩)] 22)) := (Below.refl _ w).alloc (Nat.le_refl _) _
  have hbx : (w.alloc (.cells #[.pointer (some ⟨g, 0, none⟩)] 22)).cell? ⟨w.heap.size, 0, none⟩ = some (.pointer (some ⟨g, 0, none⟩)) := row_cell (heap_alloc_new w _) 0
  have h0 := h.below hb0
  have hmx := h.ok.mx
  have hmo := h.ok.mo
  have hm4 := h.ok.m4
  have hfn := h.ok.fn
  have hgl := lt_of_heap h.row
  obtain ⟨AF, cF, rfl⟩ := own_sl h.ff
  obtain ⟨AL, cL, rfl⟩ := own_sl h.ll
  obtain ⟨_, _, c2, c3, c4, _, _, _, _⟩ := h0.cells
  have f2 := row_free h0.row 2
  have hcut := slice_cut AF d.now.length cF d.floor (by have := h.ff; obtain ⟨A9, c9, e9, h9, _⟩ := own_slice this; cases e9; omega)
  have hne : w.heap.size = g → False := by omega
  have hok := h.ok
  -- the disk when its file is cut
  obtain ⟨hk1, hk2⟩ := h0.cut (n := d.floor) hfn (Nat.le_refl _)
  have Hk := hid (And.intro hk1 ((But.of_below hb0 (S := S)).trans hk2 (fun i hi => .inl hi)))
  have hsz0 : (w.alloc (.cells #[.pointer (some ⟨g, 0, none⟩)] 22)).heap.size = w.heap.size + 1 := by simp
  clear hk1 hk2
  refine (callsIn_wide (n := 6)).1 ?_
  refine callsIn_of_wp_marks Try.func39 rfl trivial ?_ rfl
  simp only [Try.ntmps39, List.size_toArray, List.length_cons, List.length_nil, Nat.reduceAdd, Nat.reduceSub, Array.replicate_succ, Array.replicate_zero, List.push_toArray, List.append_toArray, List.nil_append, List.cons_append]
  refine wpIn_wide.2 ?_
  go_wp2_with fail
  generalize (w.alloc (.cells #[.pointer (some ⟨g, 0, none⟩)] 22)) = Wb at hbx h0 c2 c3 c4 f2 Hk hb0 hsz0 ⊢
  refine wp_calm ?_
  refine wp_region_held_drew (S := (fun w' => w'.cell? ⟨w.heap.size, 0, none⟩ = some (.pointer (some ⟨g, 0, none⟩)) ∧ w'.cell? ⟨g, 3, none⟩ = some (.int .i64 (d.floor : Nat)))) (by kernel_rfl) ⟨hbx, c3⟩ (fun hH => ?_)
  refine wpAnyH_take (i := 0) (oi := ⟨some 4, _, _, _, _, _⟩) (v := .pointer (some ⟨g, 0, none⟩)) rfl (by kernel_rfl) (by kernel_rfl) (by kernel_rfl) (fun _ _ _ h => h) (Or.inl ⟨by rfl, by intro w hSw; go_simp⟩) hH ?_
  try simp only [Act.put, List.setIfInBounds_toArray, List.set_cons_zero, List.set_cons_succ]
  refine wpAnyH_take (i := 1) (oi := ⟨some 5, _, _, _, _, _⟩) (v := .pointer (some ⟨g, 0, none⟩)) rfl (by kernel_rfl) (by kernel_rfl) (by kernel_rfl) (fun _ _ _ h => h) (Or.inl ⟨by rfl, by intro w hSw; go_simp⟩) hH ?_
  try simp only [Act.put, List.setIfInBounds_toArray, List.set_cons_zero, List.set_cons_succ]
  refine wpAnyH_take (i := 5) (oi := ⟨some 9, _, _, _, _, _⟩) (v := .pointer (some ⟨g, 0, none⟩)) rfl (by kernel_rfl) (by kernel_rfl) (by kernel_rfl) (fun _ _ _ h => h) (Or.inl ⟨by rfl, by intro w hSw; go_simp⟩) hH ?_
  try simp only [Act.put, List.setIfInBounds_toArray, List.set_cons_zero, List.set_cons_succ]
  refine wpAnyH_take (i := 2) (oi := ⟨some 6, _, _, _, _, _⟩) (v := .pointer (some ⟨g, 0, none⟩)) rfl (by kernel_rfl) (by kernel_rfl) (by kernel_rfl) (fun _ _ _ h => h) (Or.inl ⟨by rfl, by intro w hSw; go_simp⟩) hH ?_
  try simp only [Act.put, List.setIfInBounds_toArray, List.set_cons_zero, List.set_cons_succ]
  refine wpAnyH_take (i := 3) (oi := ⟨some 7, _, _, _, _, _⟩) (v := .pointer (some ⟨g, 2, none⟩)) rfl (by kernel_rfl) (by kernel_rfl) (by kernel_rfl) (fun _ _ _ h => h) (Or.inl ⟨by rfl, by intro w hSw; go_simp⟩) hH ?_
  try simp only [Act.put, List.setIfInBounds_toArray, List.set_cons_zero, List.set_cons_succ]
  refine wpAnyH_take (i := 6) (oi := ⟨some 10, _, _, _, _, _⟩) (v := .pointer (some ⟨g, 0, none⟩)) rfl (by kernel_rfl) (by kernel_rfl) (by kernel_rfl) (fun _ _ _ h => h) (Or.inl ⟨by rfl, by intro w hSw; go_simp⟩) hH ?_
  try simp only [Act.put, List.setIfInBounds_toArray, List.set_cons_zero, List.set_cons_succ]
  refine wpAnyH_take (i := 7) (oi := ⟨some 11, _, _, _, _, _⟩) (v := .pointer (some ⟨g, 3, none⟩)) rfl (by kernel_rfl) (by kernel_rfl) (by kernel_rfl) (fun _ _ _ h => h) (Or.inl ⟨by rfl, by intro w hSw; go_simp⟩) hH ?_
  try simp only [Act.put, List.setIfInBounds_toArray, List.set_cons_zero, List.set_cons_succ]
  refine wpAnyH_take (i := 8) (oi := ⟨some 12, _, _, _, _, _⟩) (v := .int .i64 (d.floor : Nat)) rfl (by kernel_rfl) (by kernel_rfl) (by kernel_rfl) (fun _ _ _ h => h) (Or.inl ⟨by rfl, by intro w hSw; go_simp⟩) hH ?_
  try simp only [Act.put, List.setIfInBounds_toArray, List.set_cons_zero, List.set_cons_succ]
  refine wpAnyH_ready (rs := [4]) (by kernel_rfl) (by simp) (AllReadyH.cons rfl (fun K hK => ?_) AllReadyH.nil)
  go_simp
  refine hK.out _ _ hH (fun hH2 => ?_)
  clear hK K
  refine wpAnyH_take (i := 9) (oi := ⟨some 13, _, _, _, _, _⟩) (v := .slice AF d.floor cF) rfl (by kernel_rfl) (by kernel_rfl) (by kernel_rfl) (fun _ _ _ h => h) (Or.inl ⟨by rfl, by intro w hSw; go_simp⟩) hH2 ?_
  try simp only [Act.put, List.setIfInBounds_toArray, List.set_cons_zero, List.set_cons_succ]
  refine wpAnyH_take (i := 10) (oi := ⟨some 14, _, _, _, _, _⟩) (v := .pointer (some ⟨g, 0, none⟩)) rfl (by kernel_rfl) (by kernel_rfl) (by kernel_rfl) (fun _ _ _ h => h) (Or.inl ⟨by rfl, by intro w hSw; go_simp⟩) hH2 ?_
  try simp only [Act.put, List.setIfInBounds_toArray, List.set_cons_zero, List.set_cons_succ]
  refine wpAnyH_take (i := 11) (oi := ⟨some 15, _, _, _, _, _⟩) (v := .pointer (some ⟨g, 2, none⟩)) rfl (by kernel_rfl) (by kernel_rfl) (by kernel_rfl) (fun _ _ _ h => h) (Or.inl ⟨by rfl, by intro w hSw; go_simp⟩) hH2 ?_
  try simp only [Act.put, List.setIfInBounds_toArray, List.set_cons_zero, List.set_cons_succ]
  refine wpAnyH_ready (rs := [12]) (by kernel_rfl) (by simp) (AllReadyH.cons rfl (fun K hK => ?_) AllReadyH.nil)
  go_simp
  refine hK.out _ _ ⟨keep_set hne hbx, keep_off h0.row rfl (by decide)⟩ (fun hH3 => ?_)
  clear hK K
  refine wpAnyH_done (by kernel_rfl) ?_ _
  refine calm_normal ?_
  have Hkd : Hid (DkAt B S (Wb.setCell ⟨g, 2, none⟩ (.slice AF d.floor cF)).drew g (.slice AF d.floor cF) (.slice AL (d.old.length - d.floor) cL) { d with now := d.now.take d.floor } e ∧ But S w (Wb.setCell ⟨g, 2, none⟩ (.slice AF d.floor cF)).drew) := ⟨Hk.out.1.drew, Hk.out.2.drew⟩
  have q1 : (Wb.setCell ⟨g, 2, none⟩ (.slice AF d.floor cF)).drew.cell? ⟨w.heap.size, 0, none⟩ = some (.pointer (some ⟨g, 0, none⟩)) := keep_set hne hbx
  have q2 : (Wb.setCell ⟨g, 2, none⟩ (.slice AF d.floor cF)).drew.cell? ⟨g, 4, none⟩ = some (.slice AL (d.old.length - d.floor) cL) := Hk.out.1.cells.2.2.2.2.1
  have hszk : (Wb.setCell ⟨g, 2, none⟩ (.slice AF d.floor cF)).drew.heap.size = w.heap.size + 1 := by show (Wb.setCell ⟨g, 2, none⟩ (.slice AF d.floor cF)).heap.size = _; rw [World.size_setCell, hsz0]
  clear hH hH2 hH3 c2 c3 c4 f2 hcut h0 hbx hb0 hsz0 Hk
  generalize (Wb.setCell ⟨g, 2, none⟩ (.slice AF d.floor cF)).drew = W0 at Hkd q1 q2 hszk ⊢
  go_wp2_with (go_at_call 53; refine (Backward_any AL _ cL W0).mono ?_; rintro r w2 ⟨rfl, rfl⟩)
  have hq0 := q1
  have hb1 : Below W0.heap.size W0 (W0.alloc (.cells #[.slice AL (d.old.length - d.floor) cL] 29)) := (Below.refl _ W0).alloc (Nat.le_refl _) _
  have hD1 := Hkd.out.1.below hb1
  have hsz1 : (W0.alloc (.cells #[.slice AL (d.old.length - d.floor) cL] 29)).heap.size = w.heap.size + 2 := by rw [World.size_alloc, hszk]
  have qb : (W0.alloc (.cells #[.slice AL (d.old.length - d.floor) cL] 29)).cell? ⟨w.heap.size + 1, 0, none⟩ = some (.slice AL (d.old.length - d.floor) cL) := by
    have := row_cell (heap_alloc_new W0 (.cells #[.slice AL (d.old.length - d.floor) cL] 29)) 0
    rw [hszk] at this
    exact this
  have q1' := (hb1.cell (p := ⟨w.heap.size, 0, none⟩) (by show w.heap.size < _; omega)).trans q1
  have hs1 : But S w (W0.alloc (.cells #[.slice AL (d.old.length - d.floor) cL] 29)) := Hkd.out.2.trans (.of_below hb1) (S' := S) (fun i hi => .inl hi)
  have hSlt : ∀ i, S i → i < w.heap.size := fun i hi => (h.lt i hi).2
  clear q1 q2 hb1 hszk Hkd hq0
  generalize (W0.alloc (.cells #[.slice AL (d.old.length - d.floor) cL] 29)) = W1 at hD1 hsz1 qb q1' hs1 ⊢
  obtain ⟨A9, c9, e9, hI9⟩ := own_isBB (l := (d.old.drop d.floor).reverse) hD1.ll (by show (d.old.length - d.floor) ≤ _; omega)
  injection e9 with e91 e92 e93
  subst e91 e93
  have hm0 : d.mid [] = { d with now := d.now.take d.floor } := by simp [Dk.mid]
  refine (wpIn_wide (n := 6)).1 ?_
  refine wpIn_rangeFunc_ownF (F := Fence.wide) (encs := fun p : Nat × UInt8 => #[.int .i64 (p.1 : Nat), .int .u8 (p.2.toNat : Nat)]) rfl (by omega) (gf := 60) (lb := #[.pointer (some ⟨w.heap.size + 1, 0, none⟩)]) rfl trivial (enters_of Try.func60 (by kernel_rfl) rfl)
    (backward_stops 5 (w.heap.size + 1) AL (d.old.length - d.floor) cL (d.old.drop d.floor).reverse W1 (by omega) qb hI9.toIsB (by omega)) (fun h1 h2 => ⟨h2.1.trans h1.1, fun ad e => (h2.2 ad e).trans (h1.2 ad e)⟩) ?hKb (Below.refl _ _) (fun _ => rfl)
    (fun pre W => W.cell? ⟨w.heap.size, 0, none⟩ = some (.pointer (some ⟨g, 0, none⟩)) ∧ ∃ F' S', DkAt B S' W g F' (.slice AL (d.old.length - d.floor) cL) (d.mid pre) e ∧ Stp S S' W1 W)
    (fun _ _ _ => False)
    (fun s A B row hs hg hr => ⟨cell_kept hs.1 hg (fun r e => (hr r e).2), by
      obtain ⟨F', S', h1, h2⟩ := hs.2
      exact ⟨F', S', h1.kept hg (fun r e => (hr r e).2), h2.kept hg (fun r e => (hr r e).1)⟩⟩)
    (fun _ _ _ _ _ hs _ _ => hs)
    ⟨q1', _, S, by rw [hm0]; exact hD1, Stp.refl S W1⟩
    (fun x => { tmps := #[.pointer (some ⟨g, 0, none⟩), .pointer (some ⟨w.heap.size, 0, none⟩), undef, .int .u8 (x.2.toNat : Nat), .pointer (some ⟨g, 0, none⟩), .pointer (some ⟨g, 0, none⟩), .pointer (some ⟨g, 0, none⟩), .pointer (some ⟨g, 2, none⟩), .slice AF d.now.length cF, .pointer (some ⟨g, 0, none⟩), .pointer (some ⟨g, 0, none⟩), .pointer (some ⟨g, 3, none⟩), .int .i64 (d.floor : Nat), .slice AF d.floor cF, .pointer (some ⟨g, 0, none⟩), .pointer (some ⟨g, 2, none⟩), .pointer (some ⟨g, 0, none⟩), .pointer (some ⟨g, 0, none⟩), .pointer (some ⟨g, 4, none⟩), .slice AL (d.old.length - d.floor) cL, .func (.func 60) #[] #[.pointer (some ⟨w.heap.size + 1, 0, none⟩)], .int .i64 (x.1 : Nat), .int .u8 (x.2.toNat : Nat), undef, undef, undef, undef, undef, undef, undef, undef, undef, undef], defers := [] }) ?assign ?body ?done ?stop
  case hKb =>
    intro W l o o' hl ho _ _
    refine ⟨World.putObj_heap_other (by omega), fun ad e => World.putObj_heap_other ?_⟩
    have := hD1.lt ad.block (hD1.sl ad.block (by rw [e]; rfl))
    omega
  case assign =>
    intro l x W K hK
    gi_wp2
    exact hK
  case body =>
    rintro lr pre x W ⟨hc, F', S', hD, hS⟩ hlen
    obtain ⟨N, hN⟩ : ∃ N, N = (d.mid pre).now.length := ⟨_, rfl⟩
    have hNl : N + 1 ≤ d.most ∧ N + 1 ≤ 4194304 := by
      have e1 : (d.mid pre).now.length = d.floor + pre.length := by
        show (d.now.take d.floor ++ pre.map (·.2)).length = _
        rw [List.length_append, List.length_take, List.length_map]; omega
      have := hok.fo
      omega
    obtain ⟨A', c', hF'⟩ := own_sl hD.ff
    rw [← hN] at hF'
    subst hF'
    have hp0 : ¬ S' w.heap.size := fun h9 => by rcases hS.new _ h9 with h8 | h8; exact absurd (hSlt _ h8) (by omega); omega
    have hp1 : ¬ S' (w.heap.size + 1) := fun h9 => by rcases hS.new _ h9 with h8 | h8; exact absurd (hSlt _ h8) (by omega); omega
    have hsW := hS.but.size
    have hba : Below W.heap.size W (W.alloc (.cells #[.int .u8 (x.2.toNat : Int)] 5)) := (Below.refl _ W).alloc (Nat.le_refl _) _
    have hFg := own_gne hD.ff hD.row (by decide)
    have hLg := own_gne hD.ll hD.row (by decide)
    have Hb := hid hNl
    have Hp := hid (And.intro hp0 hp1)
    have HA : Hid (DkAt B S' (W.alloc (.cells #[.int .u8 (x.2.toNat : Int)] 5)).drew g (.slice A' N c') (.slice AL (d.old.length - d.floor) cL) (d.mid pre) e ∧ Stp S S' W1 (W.alloc (.cells #[.int .u8 (x.2.toNat : Int)] 5)).drew ∧ IsB (W.alloc (.cells #[.int .u8 (x.2.toNat : Int)] 5)).drew (some ⟨W.heap.size, 0, none⟩) 1 1 [x.2]) :=
      ⟨(hD.below hba).drew, ⟨(hS.but.trans (.of_below hba) (S' := S) (fun i hi => .inl hi)).drew, hS.new⟩, (one_isB W x.2 _ rfl).drewN 1⟩
    have H5 : Hid (∀ (Wn : World) (v : Value), Apd (W.alloc (.cells #[.int .u8 (x.2.toNat : Int)] 5)).drew Wn (.slice A' N c') v (N + 1) (((d.mid pre).now ++ [x.2]).map bv) →
        Wn.cell? ⟨w.heap.size, 0, none⟩ = some (.pointer (some ⟨g, 0, none⟩)) ∧ Wn.heap[g]? = some (.cells (dcells g (.slice A' N c') (.slice AL (d.old.length - d.floor) cL) (d.mid pre) e) 32 (0, 0))) := by
      intro Wn v ha
      have hgF : some g ≠ (Value.slice A' N c').ownBlock := fun e => hFg g e.symm rfl
      exact ⟨ha.grown.cell (keep_alloc hc) (fun e => Hp.out.1 (hD.sf _ e.symm)), (ha.grown.block g (lt_of_heap HA.out.1.row) hgF).trans HA.out.1.row⟩
    have Hfin : Hid (∀ (Wn : World) (v : Value), Apd (W.alloc (.cells #[.int .u8 (x.2.toNat : Int)] 5)).drew Wn (.slice A' N c') v (N + 1) (((d.mid pre).now ++ [x.2]).map bv) →
        (KeepsOthers W (Wn.setCell ⟨g, 2, none⟩ v) ∧ KpB (w.heap.size + 1) AL W (Wn.setCell ⟨g, 2, none⟩ v) ∧ (Wn.setCell ⟨g, 2, none⟩ v).cell? ⟨w.heap.size, 0, none⟩ = some (.pointer (some ⟨g, 0, none⟩)) ∧ ∃ F' S', DkAt B S' (Wn.setCell ⟨g, 2, none⟩ v) g F' (.slice AL (d.old.length - d.floor) cL) (d.mid (pre ++ [x])) e ∧ Stp S S' W1 (Wn.setCell ⟨g, 2, none⟩ v))) := by
      intro Wn v ha
      have ha' : Apd (W.alloc (.cells #[.int .u8 (x.2.toNat : Int)] 5)).drew Wn (.slice A' N c') v ((d.mid pre).now.length + [x.2].length) (((d.mid pre).now ++ [x.2]).map bv) := by rw [← hN]; exact ha
      obtain ⟨k1, k2⟩ := HA.out.1.appd (by rw [← hN]; exact Hb.out.1) ha'
      have em : d.mid (pre ++ [x]) = { d.mid pre with now := (d.mid pre).now ++ [x.2] } := by simp [Dk.mid]
      have bS : But S' W (Wn.setCell ⟨g, 2, none⟩ v) := ((But.of_below hba (S := S')).drew).trans k2.but (fun i hi => .inl hi)
      have lt0 : w.heap.size < W.heap.size := by omega
      have lt1 : w.heap.size + 1 < W.heap.size := by omega
      refine ⟨?_, ⟨bS.block _ lt1 Hp.out.2, fun ad ead => ?_⟩, bS.cell hc Hp.out.1, v, _, ?_, HA.out.2.1.trans k2⟩
      · refine ((KeepsOthers.alloc W (.cells #[.int .u8 (x.2.toNat : Int)] 5)).trans (KeepsOthers.drew _)).trans ((KeepsOthers.of_grownBy ha.grown fun j o hj ho => ?_).trans (KeepsOthers.setCell _ _ _))
        rcases HA.out.1.ff.2 with ⟨h8, _⟩ | ⟨q, cap, cur, hv, _, hh, _⟩
        · injection h8 with h81
          subst h81
          cases hj
        · injection hv with h81
          subst h81
          cases hj
          rw [hh] at ho
          cases ho
          rfl
      · have hk1 : (Value.slice AL (d.old.length - d.floor) cL).ownBlock = some ad.block := by rw [ead]; rfl
        have hkS := hD.sl _ hk1
        have hklt := (hD.lt _ hkS).2
        have hkg := hLg _ hk1
        have e1 : (Wn.setCell ⟨g, 2, none⟩ v).heap[ad.block]? = Wn.heap[ad.block]? := Below.heap_setCell _ _ _ _ hkg
        have e2 : Wn.heap[ad.block]? = W.heap[ad.block]? := by
          refine (ha.grown.block _ (by show ad.block < (World.alloc W _).heap.size; rw [World.size_alloc]; omega) (fun e9 => hD.ap.swap _ hk1 e9.symm)).trans ?_
          exact Below.heap_alloc W _ _ hklt
        exact e1.trans e2
      · rw [em]; exact k1
    have cN := hD.cells.2.2.1
    have ca : (W.alloc (.cells #[.int .u8 (x.2.toNat : Int)] 5)).drew.cell? ⟨g, 2, none⟩ = some (.slice A' N c') := keep_alloc cN
    have HN := hid hN
    have HFo : Hid ((W.alloc (.cells #[.int .u8 (x.2.toNat : Int)] 5)).drew.ownsRow 0 5 1 (.slice A' N c') N ((d.mid pre).now.map bv)) := by
      have := HA.out.1.ff
      rw [← hN] at this
      exact this
    clear hN hD hS hba hFg hLg hp0 hp1 hNl
    refine wpIn_block ?_
    refine wpIn_round_held (S := fun w' => w'.cell? ⟨w.heap.size, 0, none⟩ = some (.pointer (some ⟨g, 0, none⟩))) (by rintro ⟨_, _, h⟩; exact h) (by kernel_rfl) (by kernel_rfl) hc (fun hH => ?_)
    refine wpAnyH_take (i := 0) (oi := ⟨some 23, _, _, _, _, _⟩) (v := .pointer (some ⟨g, 0, none⟩)) rfl (by kernel_rfl) (by kernel_rfl) (by kernel_rfl) (fun _ _ _ h => h) (Or.inl ⟨by rfl, by intro w hSw; go_simp⟩) hH ?_
    try simp only [Act.put, List.setIfInBounds_toArray, List.set_cons_zero, List.set_cons_succ]
    refine wpAnyH_take (i := 1) (oi := ⟨some 24, _, _, _, _, _⟩) (v := .pointer (some ⟨g, 0, none⟩)) rfl (by kernel_rfl) (by kernel_rfl) (by kernel_rfl) (fun _ _ _ h => h) (Or.inl ⟨by rfl, by intro w hSw; go_simp⟩) hH ?_
    try simp only [Act.put, List.setIfInBounds_toArray, List.set_cons_zero, List.set_cons_succ]
    refine wpAnyH_take (i := 2) (oi := ⟨some 25, _, _, _, _, _⟩) (v := .pointer (some ⟨g, 0, none⟩)) rfl (by kernel_rfl) (by kernel_rfl) (by kernel_rfl) (fun _ _ _ h => h) (Or.inl ⟨by rfl, by intro w hSw; go_simp⟩) hH ?_
    try simp only [Act.put, List.setIfInBounds_toArray, List.set_cons_zero, List.set_cons_succ]
    refine wpAnyH_take (i := 3) (oi := ⟨some 26, _, _, _, _, _⟩) (v := .pointer (some ⟨g, 2, none⟩)) rfl (by kernel_rfl) (by kernel_rfl) (by kernel_rfl) (fun _ _ _ h => h) (Or.inl ⟨by rfl, by intro w hSw; go_simp⟩) hH ?_
    try simp only [Act.put, List.setIfInBounds_toArray, List.set_cons_zero, List.set_cons_succ]
    refine wpAnyH_take (i := 5) (oi := ⟨some 28, _, _, _, _, _⟩) (v := .int .u8 (x.2.toNat : Nat)) rfl (by kernel_rfl) (by kernel_rfl) (by kernel_rfl) (fun _ _ _ h => h) (Or.inl ⟨by rfl, by intro w hSw; go_simp⟩) hH ?_
    try simp only [Act.put, List.setIfInBounds_toArray, List.set_cons_zero, List.set_cons_succ]
    refine wpAnyH_ready (rs := [4, 6]) (by kernel_rfl) (by simp) (AllReadyH.cons rfl (fun K hK => ?_) (AllReadyH.cons rfl (fun K hK => ?_) AllReadyH.nil))
    · go_simp
      refine hK.out _ _ hH (fun hH2 => ?_)
      clear hK K
      refine wpAnyH_ready (rs := [6]) (by kernel_rfl) (by simp) (AllReadyH.cons rfl (fun K hK => ?_) AllReadyH.nil)
      go_simp
      refine hK.out _ _ (keep_alloc hc) (fun hH3 => ?_)
      clear hK K
      refine wpAnyH_ready (rs := [7]) (by kernel_rfl) (by simp) (AllReadyH.cons rfl (fun K hK => ?_) AllReadyH.nil)
      refine step_append_dk rfl (.tmp 27) (.tmp 29) rfl (W.alloc (.cells #[.int .u8 (x.2.toNat : Int)] 5)).drew _ N _ rfl HFo.out (some ⟨W.heap.size, 0, none⟩) 1 1 [x.2] rfl HA.out.2.2 (by have := Hb.out.2; omega) ?_
      intro A2 n2 W2 hA2
      obtain ⟨r1, r2⟩ := H5.out _ _ hA2.out
      have r3 := row_cell r2 2
      have r4 := row_free r2 2
      simp only [dcells] at r3
      refine hK.out _ _ r1 (fun hH4 => ?_)
      clear hK K
      refine wpAnyH_take (i := 8) (oi := ⟨some 31, _, _, _, _, _⟩) (v := .pointer (some ⟨g, 0, none⟩)) rfl (by kernel_rfl) (by kernel_rfl) (by kernel_rfl) (fun _ _ _ h => h) (Or.inl ⟨by rfl, by intro w hSw; go_simp⟩) hH4 ?_
      try simp only [Act.put, List.setIfInBounds_toArray, List.set_cons_zero, List.set_cons_succ]
      refine wpAnyH_take (i := 9) (oi := ⟨some 32, _, _, _, _, _⟩) (v := .pointer (some ⟨g, 2, none⟩)) rfl (by kernel_rfl) (by kernel_rfl) (by kernel_rfl) (fun _ _ _ h => h) (Or.inl ⟨by rfl, by intro w hSw; go_simp⟩) hH4 ?_
      try simp only [Act.put, List.setIfInBounds_toArray, List.set_cons_zero, List.set_cons_succ]
      refine wpAnyH_ready (rs := [10]) (by kernel_rfl) (by simp) (AllReadyH.cons rfl (fun K hK => ?_) AllReadyH.nil)
      go_simp
      refine hK.out _ _ (keep_set hne r1) (fun hH5 => ?_)
      clear hK K
      refine wpAnyH_done (by kernel_rfl) ?_ _
      exact Hfin.out _ _ hA2.out
    · go_simp
      refine hK.out _ _ (keep_alloc hc) (fun hH3 => ?_)
      clear hK K
      refine wpAnyH_ready (rs := [4]) (by kernel_rfl) (by simp) (AllReadyH.cons rfl (fun K hK => ?_) AllReadyH.nil)
      go_simp
      refine hK.out _ _ hH3 (fun hH2 => ?_)
      clear hK K
      refine wpAnyH_ready (rs := [7]) (by kernel_rfl) (by simp) (AllReadyH.cons rfl (fun K hK => ?_) AllReadyH.nil)
      refine step_append_dk rfl (.tmp 27) (.tmp 29) rfl (W.alloc (.cells #[.int .u8 (x.2.toNat : Int)] 5)).drew _ N _ rfl HFo.out (some ⟨W.heap.size, 0, none⟩) 1 1 [x.2] rfl HA.out.2.2 (by have := Hb.out.2; omega) ?_
      intro A2 n2 W2 hA2
      obtain ⟨r1, r2⟩ := H5.out _ _ hA2.out
      have r3 := row_cell r2 2
      have r4 := row_free r2 2
      simp only [dcells] at r3
      refine hK.out _ _ r1 (fun hH4 => ?_)
      clear hK K
      refine wpAnyH_take (i := 8) (oi := ⟨some 31, _, _, _, _, _⟩) (v := .pointer (some ⟨g, 0, none⟩)) rfl (by kernel_rfl) (by kernel_rfl) (by kernel_rfl) (fun _ _ _ h => h) (Or.inl ⟨by rfl, by intro w hSw; go_simp⟩) hH4 ?_
      try simp only [Act.put, List.setIfInBounds_toArray, List.set_cons_zero, List.set_cons_succ]
      refine wpAnyH_take (i := 9) (oi := ⟨some 32, _, _, _, _, _⟩) (v := .pointer (some ⟨g, 2, none⟩)) rfl (by kernel_rfl) (by kernel_rfl) (by kernel_rfl) (fun _ _ _ h => h) (Or.inl ⟨by rfl, by intro w hSw; go_simp⟩) hH4 ?_
      try simp only [Act.put, List.setIfInBounds_toArray, List.set_cons_zero, List.set_cons_succ]
      refine wpAnyH_ready (rs := [10]) (by kernel_rfl) (by simp) (AllReadyH.cons rfl (fun K hK => ?_) AllReadyH.nil)
      go_simp
      refine hK.out _ _ (keep_set hne r1) (fun hH5 => ?_)
      clear hK K
      refine wpAnyH_done (by kernel_rfl) ?_ _
      exact Hfin.out _ _ hA2.out
  case done =>
    rintro D xs W hD rfl ⟨hc, F', S', h1, h2⟩ hK
    rw [mid_all hok] at h1
    have h3 := h1.kept (grownBy_putObj' W D (.deferred none)) (fun r e => by cases e; exact ⟨_, hK, rfl⟩)
    have h4 : Stp S S' w (W.putObj D (.deferred none)) := ((Stp.of_but hs1).trans h2).kept (grownBy_putObj' W D (.deferred none)) (fun r e => by cases e; omega)
    go_wp2_with fail
    refine ⟨by simp, .inl ⟨_, _, rfl, run_takeDeferred hK, ?_⟩⟩
    exact ⟨_, results_none rfl _ _ _, rfl, _, _, h3, h4⟩
  case stop =>
    rintro D c pre W _ _ hf _
    exact hf.elim
end Go.Proofs.Ytpeepohiajmhcaa
/-
  The contract of spoil: junk over what the last sector has from the floor on.
-/
namespace Go.Proofs.Ytpeepohiajmhcaa
open Go.RowKit

/-- The first k bytes from place f on are junk. -/
def jkP (l : List UInt8) (f k : Nat) (junk : List UInt8) : List UInt8 :=
  (List.range l.length).map (fun i => if f ≤ i ∧ i < f + k then junk.getD ((i - f) % junk.length) 0 else l.getD i 0)
theorem jkP_len (l : List UInt8) (f k : Nat) (junk : List UInt8) : (jkP l f k junk).length = l.length := by simp [jkP]
theorem jkP_zero (l : List UInt8) (f : Nat) (junk : List UInt8) : jkP l f 0 junk = l := by
  apply List.ext_getElem
  · rw [jkP_len]
  · intro i h1 h2
    simp only [jkP, List.getElem_map, List.getElem_range]
    rw [if_neg (by omega), List.getD_eq_getElem?_getD, List.getElem?_eq_getElem h2]
    rfl
theorem jkP_next (l : List UInt8) (f k : Nat) (junk : List UInt8) (h : f + k < l.length) : (jkP l f k junk).set (f + k) (junk.getD (k % junk.length) 0) = jkP l f (k + 1) junk := by
  apply List.ext_getElem
  · rw [List.length_set, jkP_len, jkP_len]
  · intro i h1 h2
    rw [List.getElem_set]
    simp only [jkP, List.getElem_map, List.getElem_range]
    by_cases e : f + k = i
    · subst e
      rw [if_pos rfl, if_pos (by omega), show f + k - f = k by omega]
    · rw [if_neg e]
      by_cases h3 : f ≤ i ∧ i < f + k
      · rw [if_pos h3, if_pos (by omega)]
      · rw [if_neg h3, if_neg (by omega)]
theorem jkP_all (l : List UInt8) (floor : Nat) (junk : List UInt8) (hj : junk.length ≠ 0) (hf : junkFrom floor l.length ≤ l.length) : jkP l (junkFrom floor l.length) (l.length - junkFrom floor l.length) junk = junked l floor junk := by
  unfold junked
  rw [if_neg hj]
  unfold jkP
  apply List.map_congr_left
  intro i hi
  have := List.mem_range.1 hi
  by_cases h : junkFrom floor l.length ≤ i
  · rw [if_pos (by omega), if_pos h]
  · rw [if_neg (by omega), if_neg h]
set_option maxRecDepth 10000 in
set_option maxHeartbeats 1000000 in
theorem spoil_none {B : Nat} {S : Nat → Prop} {w : World} {g : Nat} {F L : Value} {d : Dk} {e : Int} (A : Option Addr) (n c : Nat) (h : DkAt B S w g F L d e) (hz : n = 0 ∨ d.now.length = 0) :
    Calls Try.prog 40 #[.pointer (some ⟨g, 0, none⟩), .slice A n c] w fun r w' => r = .returned noResult ∧ w = w' := by
  obtain ⟨AF, cF, rfl⟩ := own_sl h.ff
  have c2 := h.cells.2.2.1
  by_cases h1 : n = 0
  · subst h1
    clear h hz
    go_enter Try.func40, Try.ntmps40
    go_wp2_with fail
    refine bodyPost_ret (results_none rfl _ _ _) rfl ?_
    exact ⟨rfl, rfl⟩
  · have h2 : d.now.length = 0 := by omega
    rw [h2] at c2
    have h3 : ¬ ((n : Int) = 0) := by omega
    clear h hz
    go_enter Try.func40, Try.ntmps40
    go_wp2_with fail
    refine bodyPost_ret (results_none rfl _ _ _) rfl ?_
    exact ⟨rfl, rfl⟩
/-- One byte of the file turned, from the floor on. -/
theorem DkAt.putb {B : Nat} {S : Nat → Prop} {w : World} {g gF N c j : Nat} {L : Value} {d : Dk} {e : Int} (h : DkAt B S w g (.slice (some ⟨gF, 0, none⟩) N c) L d e) (hN : d.now.length = N) (hj : j < N) (hf : d.floor ≤ j) (b : UInt8) :
    DkAt B S (w.setCell ⟨gF, j, none⟩ (.int .u8 (b.toNat : Int))) g (.slice (some ⟨gF, 0, none⟩) N c) L { d with now := d.now.set j b } e ∧ But (· = gF) w (w.setCell ⟨gF, j, none⟩ (.int .u8 (b.toNat : Int))) := by
  have bg : But (· = gF) w (w.setCell ⟨gF, j, none⟩ (.int .u8 (b.toNat : Int))) := (But.refl (· = gF) w).set _ _ (.inl rfl)
  have hFg := own_gne h.ff h.row (by decide) gF rfl
  refine ⟨⟨(bg.block g (lt_of_heap h.row) (fun e => hFg e.symm)).trans h.row, ?_, ownsRow_but h.ll bg (fun k hk e => h.ap gF rfl (by rw [← e]; exact hk)), h.ap, h.sg, h.sf, h.sl, fun i hi => by rw [World.size_setCell]; exact h.lt i hi, ?_, h.er, h.ae, h.fe⟩, bg⟩
  · rcases h.ff.2 with ⟨h1, _⟩ | ⟨q, cap, cur, hv, hq, hh, hc, hm, hs, ht⟩
    · cases h1
    · cases hv
      refine ⟨by simp, .inr ⟨gF, c, cur.setIfInBounds j (.int .u8 (b.toNat : Int)), by rw [List.length_set, hN], hq, row_set hh j _, by rw [List.length_set]; omega, hm, by simpa using hs, ?_⟩⟩
      rw [Nat.mul_one] at ht ⊢
      rw [List.length_set, Array.toList_setIfInBounds, List.take_set, ht, List.map_set]
      rfl
  · refine ⟨by show d.floor ≤ (d.now.set j b).length; rw [List.length_set]; exact h.ok.fn, h.ok.fo, ?_, by show (d.now.set j b).length ≤ d.most; rw [List.length_set]; exact h.ok.mx, h.ok.mo, h.ok.m4, h.ok.fa⟩
    show (d.now.set j b).take d.floor = d.old.take d.floor
    rw [List.take_set_of_le hf]
    exact h.ok.same
theorem slice_rest (gF n c k : Nat) (hk : k ≤ n) (hc : k < c) (w' : World) : (Instr.slice 29 (.slice (some ⟨gF, 0, none⟩) n c) (some (.int .i64 (k : Nat))) none none).run Try.prog w' = .ok (.slice (some ⟨gF, k, none⟩) (n - k) (c - k)) w' := by
  have hs : (sizeOf (Try.prog.elem 29)).run Try.prog w' = .ok 1 w' := by kernel_rfl
  rw [run_slice_l (ht := by kernel_rfl) (h0 := by omega) (h1 := by omega), hs]
  have hne : ¬ c = k := by omega
  simp [Result.andThen, sliced, hne, Addr.add_lit]
theorem slice_end (A : Option Addr) (n c k : Nat) (hk : k ≤ n) (w' : World) : (Instr.slice 29 (.slice A n c) (some (.int .i64 (k : Nat))) none none).run Try.prog w' = .ok (.slice (if c = k then A else A.map (·.add (k * 1))) (n - k) (c - k)) w' := by
  have hs : (sizeOf (Try.prog.elem 29)).run Try.prog w' = .ok 1 w' := by kernel_rfl
  rw [run_slice_l (ht := by kernel_rfl) (h0 := by omega) (h1 := by omega), hs]
  simp [Result.andThen, sliced]
set_option maxRecDepth 10000 in
set_option maxHeartbeats 2000000 in
theorem spoil_any {B : Nat} {S : Nat → Prop} {w : World} {g : Nat} {F L : Value} {d : Dk} {e : Int} (A : Option Addr) (n c : Nat) (junk : List UInt8) (h : DkAt B S w g F L d e) (hi : IsB w A n c junk) (ha : 0 < n → ∀ ad, A = some ad → F.ownBlock ≠ some ad.block) (hn : n ≠ 0) (hl : d.now.length ≠ 0) :
    Calls Try.prog 40 #[.pointer (some ⟨g, 0, none⟩), .slice A n c] w fun r w' => r = .returned noResult ∧ DkAt B S w' g F L { d with now := junked d.now d.floor junk } e ∧ But S w w' := by
  obtain ⟨AF, cF, rfl⟩ := own_sl h.ff
  obtain ⟨_, _, c2, c3, _, _, _, _, _⟩ := h.cells
  have hmx := h.ok.mx
  have hm4 := h.ok.m4
  have hfn := h.ok.fn
  have hjl := hi.len
  obtain ⟨N, hN⟩ : ∃ N, d.now.length = N := ⟨_, rfl⟩
  obtain ⟨q, hq⟩ : ∃ q : Nat, q = (N - 1) / 512 := ⟨_, rfl⟩
  obtain ⟨f, hf⟩ : ∃ f : Nat, f = junkFrom d.floor d.now.length := ⟨_, rfl⟩
  obtain ⟨fl, hfl0⟩ : ∃ fl : Nat, d.floor = fl := ⟨_, rfl⟩
  obtain ⟨p, hp⟩ : ∃ p : Nat, p = 512 * q := ⟨_, rfl⟩
  have hfp : f = max fl p := by rw [hf, hN, hfl0, hp, hq]; rfl
  have hfl : f ≤ N := by rw [hfp]; omega
  rw [hN] at c2 hmx hfn hl
  rw [hfl0] at c3 hfn
  obtain ⟨N1, hN1⟩ : ∃ N1 : Nat, N1 = N - 1 := ⟨_, rfl⟩
  have b1 : ((n : Int) == 0) = false := by simpa using hn
  have b2 : ((N : Int) == 0) = false := by simpa using hl
  have ew1 : IntKind.i64.wrap ((N : Int) - 1) = (N1 : Int) := by rw [IntWalk.i64_in _ (by omega)]; omega
  have ed1 : (N1 : Int) / 512 = (q : Int) := by omega
  have ed2 : Int.tdiv (N1 : Int) 512 = (q : Int) := by rw [Int.tdiv_eq_ediv_of_nonneg (by omega)]; omega
  have ew2 : IntKind.i64.wrap ((q : Int) * 512) = (p : Int) := by rw [IntWalk.i64_in _ (by omega)]; omega
  have ew3 : IntKind.i64.wrap (q : Int) = (q : Int) := IntWalk.i64_in _ (by omega)
  have em : (if fl < p then (p : Int) else (fl : Int)) = (f : Int) := by rw [hfp]; split <;> omega
  obtain ⟨R, hR⟩ : ∃ R, R = N - f := ⟨_, rfl⟩
  obtain ⟨C2, hC2⟩ : ∃ C, C = cF - f := ⟨_, rfl⟩
  have hcap : N ≤ cF := by have := h.ff; obtain ⟨A9, c9, e9, h9, _⟩ := own_slice this; cases e9; omega
  obtain ⟨A2, hs1, hA2⟩ : ∃ A', (∀ w' : World, (Instr.slice 29 (.slice AF N cF) (some (.int .i64 (f : Nat))) none none).run Try.prog w' = .ok (.slice A' R C2) w') ∧ (f < N → ∃ gF, AF = some ⟨gF, 0, none⟩ ∧ A' = some ⟨gF, f, none⟩) := by
    rw [hR, hC2]
    by_cases hlt : f < N
    · rcases h.ff.2 with ⟨h9, h8⟩ | ⟨gF, cap, cur, hv, _⟩
      · omega
      · injection hv with e1 e2 e3
        subst e1
        exact ⟨_, fun w' => slice_rest gF N cF f hfl (by omega) w', fun _ => ⟨gF, rfl, rfl⟩⟩
    · exact ⟨_, fun w' => slice_end AF N cF f hfl w', fun h9 => absurd h9 hlt⟩
  have H0 : Hid (DkAt B S w g (.slice AF N cF) L { d with now := jkP d.now f 0 junk } e ∧ But S w w ∧ IsB w A n c junk) := by
    rw [jkP_zero, ← hN]; exact ⟨h, But.refl S w, hi⟩
  have hjk : jkP d.now f R junk = junked d.now d.floor junk := by
    have := jkP_all d.now d.floor junk (by omega) (by rw [← hf, hN]; exact hfl)
    rw [← hf, hN, ← hR] at this
    exact this
  have HJ := hid hjk
  have HN := hid (And.intro hN (And.intro hfl0 (And.intro hf (And.intro hR (And.intro hfp hfl)))))
  have HA := hid ha
  have HA2 := hid hA2
  have hRz : (R : Int) ≤ 4194304 := by omega
  rw [hN]
  clear h hN hf hfl0 hp hq hN1 hfp hi hjk ha hA2 hR hC2
  go_enter Try.func40, Try.ntmps40
  go_wp2_with fail
  go_quiet (fail)
  go_wp2_with fail
  obtain ⟨w0, hw0⟩ : ∃ w0, w0 = w.drewN nq := ⟨_, rfl⟩
  have H1 : Hid (DkAt B S w0 g (.slice AF N cF) L { d with now := jkP d.now f 0 junk } e ∧ But S w w0 ∧ IsB w0 A n c junk) := by
    subst hw0; exact ⟨H0.out.1.drewN _, H0.out.2.1.drewN _, H0.out.2.2.drewN _⟩
  rw [← hw0]
  clear hw0 H0 hs1
  go_loopw [39] (fun v wr => ∃ k : Nat, k ≤ R ∧ v = .int .i64 k ∧ Hid (DkAt B S wr g (.slice AF N cF) L { d with now := jkP d.now f k junk } e ∧ But S w wr ∧ IsB wr A n c junk)) (fun v _ => R - (intOf v).toNat)
  case atStart => exact ⟨0, Nat.zero_le _, rfl, H1⟩
  case round =>
    obtain ⟨k, hk, rfl, hs⟩ := hrel
    clear H1
    by_cases hlt : k < R
    · obtain ⟨gF, rfl, rfl⟩ := HA2.out (by have := HN.out; omega)
      obtain ⟨r, hr⟩ : ∃ r, r = k % n := ⟨_, rfl⟩
      have hrn : r < n := by rw [hr]; exact Nat.mod_lt _ (by omega)
      have er1 : (k : Int) % (n : Int) = (r : Int) := by rw [hr]; exact (Int.natCast_emod k n).symm
      have er2 : Int.tmod (k : Int) (n : Int) = (r : Int) := by rw [Int.tmod_eq_emod_of_nonneg (by omega)]; exact er1
      have hn0 : ¬ ((n : Int) = 0) := by omega
      have hrz : (r : Int) < (n : Int) := by omega
      have hkz : (k : Int) < (R : Int) := by omega
      obtain ⟨ad, rfl, hc⟩ := hs.out.2.2.lies (by rw [hs.out.2.2.len]; omega)
      have cj := hc r (by rw [hs.out.2.2.len]; exact hrn)
      obtain ⟨b, hb⟩ : ∃ b, b = junk[r]'(by rw [hs.out.2.2.len]; exact hrn) := ⟨_, rfl⟩
      rw [← hb] at cj
      have hgd : junk.getD (k % junk.length) 0 = b := by
        rw [hs.out.2.2.len, ← hr, hb, List.getD_eq_getElem?_getD, List.getElem?_eq_getElem]; rfl
      have hlN : (jkP d.now f k junk).length = N := by rw [jkP_len]; exact HN.out.1
      have hnx := jkP_next d.now f k junk (by have := HN.out; omega)
      rw [hgd] at hnx
      obtain ⟨k1, k2⟩ := hs.out.1.putb hlN (j := f + k) (by have := HN.out; omega) (by have := HN.out; show d.floor ≤ f + k; omega) b
      have hadF : ad.block ≠ gF := fun e => HA.out (by omega) ad rfl (by rw [e]; rfl)
      have HS : Hid (DkAt B S (wr.setCell ⟨gF, f + k, none⟩ (.int .u8 (b.toNat : Int))) g (.slice (some ⟨gF, 0, none⟩) N cF) L { d with now := jkP d.now f (k + 1) junk } e ∧ But S w (wr.setCell ⟨gF, f + k, none⟩ (.int .u8 (b.toNat : Int))) ∧ IsB (wr.setCell ⟨gF, f + k, none⟩ (.int .u8 (b.toNat : Int))) (some ad) n c junk) := by
        refine ⟨by rw [← hnx]; exact k1, hs.out.2.1.trans k2 (by rintro i rfl; exact .inl (hs.out.1.sf _ rfl)), hs.out.2.2.to fun ad' e j => ?_⟩
        cases e
        exact World.cell?_of_block (Below.heap_setCell _ _ _ _ (by rw [block_of_add]; exact hadF))
      have hcf : ∃ y : Int, wr.cell? ⟨gF, f + k, none⟩ = some (.int .u8 y) := by
        obtain ⟨A9, c9, e9, h9⟩ := own_isBB hs.out.1.ff (by show (jkP d.now f k junk).length ≤ _; omega)
        injection e9 with e91 _ _
        subst e91
        obtain ⟨ad9, e8, h8⟩ := h9.lies (by show 0 < (jkP d.now f k junk).length; have := HN.out; omega)
        cases e8
        have := h8 (f + k) (by show f + k < (jkP d.now f k junk).length; have := HN.out; omega)
        rw [Addr.add_lit, Nat.zero_add] at this
        exact ⟨_, this⟩
      obtain ⟨y, cy⟩ := hcf
      have fy : wr.frozen? ⟨gF, f + k, none⟩ = false := by
        rcases hs.out.1.ff.2 with ⟨h1, _⟩ | ⟨q9, cap, cur, hv, _, hh, _⟩
        · cases h1
        · cases hv; exact row_free hh _
      clear hc hs hb hgd hnx k1 k2 hr hlN
      go_wp2_with fail
      go_roundw
      case rel => exact ⟨k + 1, by omega, by go_num, HS⟩
      case measure => simp [intOf]; omega
    · obtain rfl : k = R := by omega
      have hs1 := hs.out.1
      rw [HJ.out] at hs1
      go_wp2_with fail
      go_end0
      exact ⟨rfl, hs1, hs.out.2.1⟩
end Go.Proofs.Ytpeepohiajmhcaa
/-
  The contract of Crash.
-/
namespace Go.Proofs.Ytpeepohiajmhcaa
open Go.RowKit

theorem junked_nil (l : List UInt8) (f : Nat) : junked l f [] = l := by unfold junked; simp
theorem junked_none (f : Nat) (j : List UInt8) : junked [] f j = [] := by
  have := junked_len [] f j
  exact List.eq_nil_of_length_eq_zero this
theorem spoil_all {B : Nat} {S : Nat → Prop} {w : World} {g : Nat} {F L : Value} {d : Dk} {e : Int} (A : Option Addr) (n c : Nat) (junk : List UInt8) (h : DkAt B S w g F L d e) (hi : Out S w A n c junk) :
    Calls Try.prog 40 #[.pointer (some ⟨g, 0, none⟩), .slice A n c] w fun r w' => r = .returned noResult ∧ DkAt B S w' g F L { d with now := junked d.now d.floor junk } e ∧ But S w w' := by
  by_cases hz : n = 0 ∨ d.now.length = 0
  · refine (spoil_none A n c h hz).mono ?_
    rintro r w' ⟨rfl, rfl⟩
    have e1 : junked d.now d.floor junk = d.now := by
      rcases hz with hz | hz
      · obtain rfl : junk = [] := List.eq_nil_of_length_eq_zero (by rw [hi.len]; exact hz)
        exact junked_nil _ _
      · rw [List.eq_nil_of_length_eq_zero hz]; exact junked_none _ _
    rw [e1]
    exact ⟨rfl, h, But.refl S w⟩
  · exact spoil_any A n c junk h hi.toIsB (fun hp ad e hb => (hi.ap (by rw [hi.len]; exact hp) ad e).1 (h.sf _ hb)) (fun e => hz (.inl e)) (fun e => hz (.inr e))
set_option maxRecDepth 10000 in
set_option maxHeartbeats 2000000 in
theorem Crash_any {B : Nat} {S : Nat → Prop} {w : World} {g : Nat} {F L : Value} {d : Dk} {e : Int} (k : Int) (A : Option Addr) (n c : Nat) (junk : List UInt8) (h : DkAt B S w g F L d e) (hi : Out S w A n c junk) (hk : k ≤ 9223372036854775807) :
    Calls Try.prog 22 #[.pointer (some ⟨g, 0, none⟩), .agg #[.int .i64 k, .slice A n c]] w fun r w' => r = .returned (.int .i64 0) ∧ ∃ F' S', DkAt B S' w' g F' (.slice none 0 0) (d.crash k junk) e ∧ Stp S S' w w' := by
  have hb0 : Below w.heap.size w (w.alloc (.cells #[.int .i64 k, .slice A n c] 54)) := (Below.refl _ w).alloc (Nat.le_refl _) _
  have h0 := h.below hb0
  have hi0 := hi.stp (Stp.of_below (S := S) hb0)
  have HM := hid (made_any h0)
  have S0 := hid (Stp.of_below (S := S) hb0)
  have hgl := lt_of_heap h.row
  have hr := heap_alloc_new w (.cells #[.int .i64 k, .slice A n c] 54)
  have ck := row_cell hr 0
  have cj := row_cell hr 1
  by_cases hk0 : k < 0
  · have HR := hid (restore_any h0)
    have ec : d.crash k junk = Dk.up { d with now := d.old } := by unfold Dk.crash Dk.up; simp only [hk0, if_true]
    rw [ec]
    clear h h0 hi hi0 hb0
    go_enter Try.func22, Try.ntmps22
    go_wp2_with (first
      | (go_at_call 32; refine HM.out.mono ?_; rintro r w' ⟨rfl, rfl⟩)
      | (go_at_call 39; refine HR.out.mono ?_; rintro r w1 ⟨rfl, F', S', h1, s1⟩; have HU := hid (start_any h1); have S1 := hid (S0.out.trans s1); have G1 := hid h1.sg; clear h1 s1)
      | (go_at_call 41; refine HU.out.mono ?_; rintro r w2 ⟨rfl, h2, s2⟩; have H2 := hid h2; have S2 := hid (S1.out.trans (Stp.of_but (s2.mono (S' := S') (by rintro i rfl; exact .inl G1.out)))); clear h2 s2))
    go_ret
    exact ⟨rfl, _, _, H2.out, S2.out⟩
  · obtain ⟨K, rfl⟩ : ∃ K : Nat, k = K := ⟨k.toNat, by omega⟩
    obtain ⟨AF, cF, rfl⟩ := own_sl h0.ff
    obtain ⟨_, _, c2, c3, _, _, _, _, _⟩ := h0.cells
    have f2 := row_free h0.row 2
    have hmx := h0.ok.mx
    have hm4 := h0.ok.m4
    have hfn := h0.ok.fn
    have hcap : d.now.length ≤ cF := by have := h0.ff; obtain ⟨A9, c9, e9, h9, _⟩ := own_slice this; cases e9; omega
    obtain ⟨N, hN⟩ : ∃ N, d.now.length = N := ⟨_, rfl⟩
    obtain ⟨fl, hfl⟩ : ∃ fl, d.floor = fl := ⟨_, rfl⟩
    obtain ⟨m, hm⟩ : ∃ m, m = N - fl := ⟨_, rfl⟩
    obtain ⟨t, ht⟩ : ∃ t, t = min K m := ⟨_, rfl⟩
    obtain ⟨q, hq⟩ : ∃ q, q = fl + t := ⟨_, rfl⟩
    rw [hN] at c2 hmx hfn hcap
    rw [hfl] at c3 hfn
    have hqN : q ≤ N := by omega
    have e1 : IntKind.i64.wrap ((N : Int) - (fl : Int)) = (m : Int) := by rw [IntWalk.i64_in _ (by omega)]; omega
    have e2 : (if m < K then (m : Int) else (K : Int)) = (t : Int) := by rw [ht]; split <;> omega
    have e2' : (if (m : Int) < (K : Int) then (m : Int) else (K : Int)) = (t : Int) := by rw [ht]; split <;> omega
    have e3 : IntKind.i64.wrap ((fl : Int) + (t : Int)) = (q : Int) := by rw [IntWalk.i64_in _ (by omega)]; omega
    have hcut := slice_cut AF N cF q (by omega)
    have hcutd := DkAt.cut h0 (n := q) (by omega) (by omega)
    have ek : d.crash (K : Int) junk = Dk.up { d with now := junked (d.now.take q) d.floor junk } := by
      have e9 : leftK d.now d.floor K = d.now.take q := by
        unfold leftK
        rcases Nat.le_total (d.floor + K) N with h9 | h9
        · congr 1; omega
        · rw [List.take_of_length_le (by omega), List.take_of_length_le (by omega)]
      unfold Dk.crash Dk.up
      simp only [hk0, if_false, Int.toNat_natCast, e9]
    rw [ek]
    have Hd := hid hcutd
    have Hi := hid hi0
    have Hn := hid hN
    have hnb : w.heap.size ≠ g := by omega
    have ck' : (w.alloc (.cells #[.int .i64 (K : Nat), .slice A n c] 54)).cell? ⟨w.heap.size, 0, none⟩ = some (.int .i64 (K : Nat)) := ck
    have cj' : (w.alloc (.cells #[.int .i64 (K : Nat), .slice A n c] 54)).cell? ⟨w.heap.size, 1, none⟩ = some (.slice A n c) := cj
    clear ck cj h h0 hi hi0 hb0 hr hcutd ek hN hfl hm ht hq
    go_enter Try.func22, Try.ntmps22
    go_wp2_with (go_at_call 32; refine HM.out.mono ?_; rintro r w' ⟨rfl, rfl⟩)
    generalize (w.alloc (.cells #[.int .i64 (K : Nat), .slice A n c] 54)) = Wb at ck' cj' c2 c3 f2 Hd Hi S0 ⊢
    go_still_tail 24, (by kernel_rfl)
    change wpList _ _ _ _ _ Wb.drew
    have HD2 : Hid (DkAt B S (Wb.setCell ⟨g, 2, none⟩ (.slice AF q cF)).drew g (.slice AF q cF) L { d with now := d.now.take q } e ∧ Stp S S w (Wb.setCell ⟨g, 2, none⟩ (.slice AF q cF)).drew ∧ Out S (Wb.setCell ⟨g, 2, none⟩ (.slice AF q cF)).drew A n c junk) :=
      ⟨Hd.out.1.drew, (S0.out.trans (Stp.of_but Hd.out.2)).but.drew |> Stp.of_but, (Hi.out.stp (Stp.of_but Hd.out.2)).drew⟩
    have qj : (Wb.setCell ⟨g, 2, none⟩ (.slice AF q cF)).cell? ⟨w.heap.size, 1, none⟩ = some (.slice A n c) := keep_set hnb cj'
    clear c3 ck' cj' e1 e2 e2' e3 hcut Hd Hi S0
    go_wp2_with (first
      | (go_at_call 40; refine (spoil_all A n c junk HD2.out.1 HD2.out.2.2).mono ?_; rintro r w1 ⟨rfl, h1, s1⟩; have HU := hid (start_any h1); have S1 := hid (HD2.out.2.1.trans (Stp.of_but s1)); have G1 := hid h1.sg; clear h1 s1)
      | (go_at_call 41; refine HU.out.mono ?_; rintro r w2 ⟨rfl, h2, s2⟩; have H2 := hid h2; have S2 := hid (S1.out.trans (Stp.of_but (s2.mono (S' := S) (by rintro i rfl; exact .inl G1.out)))); clear h2 s2))
    go_ret
    exact ⟨rfl, _, _, H2.out, S2.out⟩
end Go.Proofs.Ytpeepohiajmhcaa
/-
  Strings and bytes; the contracts of abc and crashed.
-/
namespace Go.Proofs.Ytpeepohiajmhcaa
open Go.RowKit

theorem Try.isStr9 : Try.prog.underlying 9 = some .string := by kernel_rfl
theorem Try.isU8 : Try.prog.underlying 5 = some (.int .u8) := by kernel_rfl
theorem Try.isSl27 : Try.prog.underlying 29 = some (.slice 5) := by kernel_rfl
theorem run_string_zero (w : World) (A : Option Addr) (c : Nat) : (convert 29 9 (.slice A 0 c)).run Try.prog w = .ok (.string ⟨#[]⟩) w := by
  cases A with
  | none => exact run_convert_bytes_nil w 29 5 Try.isSl27 Try.isU8 0 c 9 Try.isStr9
  | some a => exact run_convert_bytes_back w 29 9 5 a c [] Try.isSl27 Try.isU8 Try.isStr9 (fun j hj => absurd hj (by simp))
/-- 'string(b)'. -/
theorem IsB.conv {w : World} {A : Option Addr} {n c : Nat} {l : List UInt8} (h : IsB w A n c l) : (convert 29 9 (.slice A n c)).run Try.prog w = .ok (.string ⟨l.toArray⟩) w := by
  obtain rfl := h.len
  rcases Nat.eq_zero_or_pos l.length with h0 | h0
  · obtain rfl := List.eq_nil_of_length_eq_zero h0
    exact run_string_zero w A c
  · obtain ⟨ad, rfl, hc⟩ := h.lies h0
    exact run_convert_bytes_back w 29 9 5 ad c l Try.isSl27 Try.isU8 Try.isStr9 hc
/-- '[]byte(s)'. -/
theorem str_conv (l : List UInt8) (hl : l.length ≤ 1000) (w : World) : ∃ c w', (convert 9 29 (.string ⟨l.toArray⟩)).run Try.prog w = .ok (.slice (some ⟨w.heap.size, 0, none⟩) l.length c) w' ∧ IsBB w' w'.heap.size (some ⟨w.heap.size, 0, none⟩) l.length c l ∧ Below w.heap.size w w' ∧ w'.heap.size = w.heap.size + 1 := by
  have hsz : (⟨l.toArray⟩ : ByteArray).size = l.length := by simp [ByteArray.size]
  have hr := Lib.run_convert_string_bytes (P := Try.prog) w 9 29 5 ⟨l.toArray⟩ Try.isStr9 Try.isSl27 Try.isU8
  rw [hsz] at hr
  refine ⟨_, _, hr, ⟨⟨rfl, ?_, ?_, by omega, fun hp => ⟨_, rfl, fun j hj => ?_⟩⟩, fun hp ad e => ?_⟩, ?_, Lib.bytesWorld_size _ _ _⟩
  · exact grownCap_ge w _ _ _
  · exact grownCap_le_maxLen w _ _ _ (by unfold maxLen; omega)
  · have := Lib.bytesWorld_cell w 5 ⟨l.toArray⟩ j (by rw [hsz]; exact hj)
    rw [Addr.add_lit, Nat.zero_add, this]
    simp [List.getD, hj]
  · cases e
    rw [Lib.bytesWorld_size]
    show w.heap.size < _
    omega
  · exact ⟨rfl, rfl, rfl, by rw [Lib.bytesWorld_size]; omega, fun i hi => Lib.bytesWorld_at_old w 5 _ i hi⟩
/-- A written-out list of bytes, turned to its own type. -/
theorem lit_isBB (w : World) (l : List UInt8) (hl : l.length ≤ 1000) (k : Nat) : IsBB (w.alloc (.cells (l.map bv).toArray 5 (k, k + 1))) (w.alloc (.cells (l.map bv).toArray 5 (k, k + 1))).heap.size (some ⟨w.heap.size, 0, none⟩) l.length l.length l := by
  have hr := heap_alloc_new w (.cells (l.map bv).toArray 5 (k, k + 1))
  refine ⟨⟨rfl, Nat.le_refl _, by unfold maxLen; omega, by omega, fun hp => ⟨_, rfl, fun j hj => ?_⟩⟩, fun hp ad e => ?_⟩
  · rw [Addr.add_lit, Nat.zero_add, cell_of_row _ _ _ _ _ _ hr]
    simp [bv, hj]
  · cases e
    rw [World.size_alloc]
    exact Nat.lt_succ_self _
def abcL : List UInt8 := [97, 98, 99]
/-- abc's disk. -/
def abcD (l : List UInt8) : Dk := { most := 1000, now := abcL ++ l, old := abcL, floor := 3, down := false, armed := 0, fails := 0, err := 0 }
theorem abc_1 : (Dk.load 1000 []).app abcL = ({ Dk.load 1000 [] with now := abcL }, 0) := rfl
theorem abc_2 : ((Dk.load 1000 []).app abcL).1.syn = (abcD [], 0) := by rfl
theorem abc_3 (l : List UInt8) (hl : l.length ≤ 997) : (abcD []).app l = (abcD l, 0) := by
  have h1 : (abcD []).op = (abcD [], 0) := rfl
  unfold Dk.app
  rw [h1]
  rw [if_neg (by simp), if_neg (by show ¬ (abcL ++ []).length + l.length > 1000; simp [abcL]; omega)]
  rfl
end Go.Proofs.Ytpeepohiajmhcaa
/-
  The chapter's first examples: awake.
-/
namespace Go.Proofs.Ytpeepohiajmhcaa
open Go.RowKit

theorem same1 (w : World) : (binOp BinOp.eql 9 (.string ⟨#[97, 98, 99, 100]⟩) (.string ⟨#[97, 98, 99, 100]⟩)).run Try.prog w = .ok (.bool true) w := by kernel_rfl
theorem same2 (w : World) : (binOp BinOp.eql 9 (.string ⟨#[97, 98, 99, 120]⟩) (.string ⟨#[97, 98, 99, 120]⟩)).run Try.prog w = .ok (.bool true) w := by kernel_rfl
theorem same3 (w : World) : (binOp BinOp.eql 9 (.string ⟨#[97, 98, 99]⟩) (.string ⟨#[97, 98, 99]⟩)).run Try.prog w = .ok (.bool true) w := by kernel_rfl
theorem same4 (w : World) : (binOp BinOp.eql 9 (.string ⟨#[97, 98, 99, 100, 101]⟩) (.string ⟨#[97, 98, 99, 100, 101]⟩)).run Try.prog w = .ok (.bool true) w := by kernel_rfl
theorem ex1 : ((abcD [100, 101]).crash 1 []).now.toArray = #[97, 98, 99, 100] := by decide +kernel
theorem ex2 : ((abcD [100, 101]).crash 1 [120]).now.toArray = #[97, 98, 99, 120] := by decide +kernel
theorem ex3 : ((abcD [100, 101]).crash 0 [120]).now.toArray = #[97, 98, 99] := by decide +kernel
theorem ex4 : ((abcD [100, 101]).crash (-1) [120]).now.toArray = #[97, 98, 99] := by decide +kernel
theorem ex5 : ((abcD [100, 101]).crash 9 []).now.toArray = #[97, 98, 99, 100, 101] := by decide +kernel
end Go.Proofs.Ytpeepohiajmhcaa
/-
  A disk and what lay ahead of it: the calls' contracts for a caller.
-/
namespace Go.Proofs.Ytpeepohiajmhcaa
open Go.RowKit

/-- The disk d in block g; all that lay below base stands as it did in w0. -/
structure Seg (base : Nat) (w0 W : World) (g : Nat) (d : Dk) : Prop where
  dk : ∃ S F L e, DkAt base S W g F L d e
  bel : Below base w0 W
theorem Seg.below {base : Nat} {w0 W W' : World} {g : Nat} {d : Dk} (h : Seg base w0 W g d) (b : Below W.heap.size W W') : Seg base w0 W' g d := by
  obtain ⟨⟨S, F, L, e, hd⟩, hb⟩ := h
  have hs := (hd.lt g hd.sg)
  exact ⟨⟨S, F, L, e, hd.below b⟩, hb.trans (b.mono (by omega))⟩
theorem Seg.stp {base : Nat} {w0 W W' : World} {g : Nat} {S S' : Nat → Prop} {F L F' L' : Value} {d d' : Dk} {e e' : Int} (hb : Below base w0 W) (h : DkAt base S W g F L d e) (h' : DkAt base S' W' g F' L' d' e') (s : But S W W') : Seg base w0 W' g d' := by
  have hs := (h.lt g h.sg)
  exact ⟨⟨S', F', L', e', h'⟩, hb.trans (s.below (fun i hi => (h.lt i hi).1) (by omega))⟩
section
variable {base : Nat} {w0 W : World} {g : Nat} {d : Dk}
theorem Seg.size (h : Seg base w0 W g d) : Calls Try.prog 10 #[.pointer (some ⟨g, 0, none⟩)] W fun r w' => r = .returned (.int .i64 (d.now.length : Nat)) ∧ W = w' := by
  obtain ⟨⟨S, F, L, e, hd⟩, hb⟩ := h; exact Size_any hd
theorem Seg.arm (h : Seg base w0 W g d) (n : Int) (hn : n ≤ 9223372036854775807) {d' : Dk} {c : Nat} (hd' : d.arm n = (d', c)) : Calls Try.prog 38 #[.pointer (some ⟨g, 0, none⟩), .int .i64 n] W fun r w' => r = .returned (.int .i64 (c : Nat)) ∧ Seg base w0 w' g d' := by
  obtain ⟨⟨S, F, L, e, hd⟩, hb⟩ := h
  refine (Arm_any hd n hn).mono ?_
  rw [hd']
  rintro r w' ⟨rfl, h1, b1⟩
  exact ⟨rfl, Seg.stp hb hd h1 (hd.butg b1)⟩
theorem Seg.fail (h : Seg base w0 W g d) (n x : Int) (hn : n ≤ 9223372036854775807) {d' : Dk} {c : Nat} (hd' : d.fail n x = (d', c)) : Calls Try.prog 9 #[.pointer (some ⟨g, 0, none⟩), .int .i64 n, .int .i64 x] W fun r w' => r = .returned (.int .i64 (c : Nat)) ∧ Seg base w0 w' g d' := by
  obtain ⟨⟨S, F, L, e, hd⟩, hb⟩ := h
  refine (Fail_any hd n x hn).mono ?_
  rw [hd']
  rintro r w' ⟨rfl, ⟨e', h1⟩, b1⟩
  exact ⟨rfl, Seg.stp hb hd h1 (hd.butg b1)⟩
theorem Seg.sync (h : Seg base w0 W g d) {d' : Dk} {c : Nat} (hd' : d.syn = (d', c)) : Calls Try.prog 19 #[.pointer (some ⟨g, 0, none⟩)] W fun r w' => r = .returned (.int .i64 (c : Nat)) ∧ Seg base w0 w' g d' := by
  obtain ⟨⟨S, F, L, e, hd⟩, hb⟩ := h
  refine (Sync_any hd).mono ?_
  rw [hd']
  rintro r w' ⟨rfl, ⟨L', h1⟩, b1⟩
  exact ⟨rfl, Seg.stp hb hd h1 b1⟩
theorem Seg.trunc (h : Seg base w0 W g d) (n : Nat) (z : Int) (hz : z = (n : Int)) (hn : n ≤ d.now.length) {d' : Dk} {c : Nat} (hd' : d.trunc n = (d', c)) : Calls Try.prog 15 #[.pointer (some ⟨g, 0, none⟩), .int .i64 z] W fun r w' => r = .returned (.int .i64 (c : Nat)) ∧ Seg base w0 w' g d' := by
  subst hz
  obtain ⟨⟨S, F, L, e, hd⟩, hb⟩ := h
  refine (Truncate_any hd n hn).mono ?_
  rw [hd']
  rintro r w' ⟨rfl, F', L', S', h1, s1⟩
  exact ⟨rfl, Seg.stp hb hd h1 s1.but⟩
theorem Seg.truncBad (h : Seg base w0 W g d) (n : Int) (hn : ¬ (0 ≤ n ∧ n ≤ (d.now.length : Int))) : Calls Try.prog 15 #[.pointer (some ⟨g, 0, none⟩), .int .i64 n] W fun r w' => r = .returned (.int .i64 2) ∧ Seg base w0 w' g d := by
  obtain ⟨⟨S, F, L, e, hd⟩, hb⟩ := h
  refine (Truncate_bad hd n hn).mono ?_
  rintro r w' ⟨rfl, h1, s1⟩
  exact ⟨rfl, Seg.stp hb hd h1 s1⟩
/-- Bytes laid since W1, where the disk lay already. -/
theorem Seg.app {W1 : World} (h1 : Seg base w0 W1 g d) (b1 : Below W1.heap.size W1 W) (A : Option Addr) (n c : Nat) (l : List UInt8) (hi : IsBB W W.heap.size A n c l) (ha : 0 < l.length → ∀ ad, A = some ad → W1.heap.size ≤ ad.block) {d' : Dk} {x : Nat} (hd' : d.app l = (d', x)) :
    Calls Try.prog 29 #[.pointer (some ⟨g, 0, none⟩), .slice A n c] W fun r w' => r = .returned (.int .i64 (x : Nat)) ∧ Seg base w0 w' g d' := by
  have h2 := h1.below b1
  obtain ⟨⟨S, F, L, e, hd⟩, hb⟩ := h1
  refine (Append_any A n c l (hd.below b1) (hi.out_new ha (fun i hi => (hd.lt i hi).2))).mono ?_
  rw [hd']
  rintro r w' ⟨rfl, F', S', h1, s1⟩
  exact ⟨rfl, Seg.stp h2.bel (hd.below b1) h1 s1.but⟩
theorem Seg.appNil (h : Seg base w0 W g d) {d' : Dk} {x : Nat} (hd' : d.app [] = (d', x)) : Calls Try.prog 29 #[.pointer (some ⟨g, 0, none⟩), .slice none 0 0] W fun r w' => r = .returned (.int .i64 (x : Nat)) ∧ Seg base w0 w' g d' :=
  Seg.app h (Below.refl _ W) none 0 0 [] (isBB_nil W _) (fun hp => absurd hp (by simp)) hd'
theorem Seg.crash (h : Seg base w0 W g d) (k : Int) (hk : k ≤ 9223372036854775807) {d' : Dk} (hd' : d.crash k [] = d') : Calls Try.prog 22 #[.pointer (some ⟨g, 0, none⟩), .agg #[.int .i64 k, .slice none 0 0]] W fun r w' => r = .returned (.int .i64 0) ∧ Seg base w0 w' g d' := by
  obtain ⟨⟨S, F, L, e, hd⟩, hb⟩ := h
  refine (Crash_any k none 0 0 [] hd ⟨(isBB_nil W 0).toIsB, fun hp => absurd hp (by simp)⟩ hk).mono ?_
  rw [hd']
  rintro r w' ⟨rfl, F', S', h1, s1⟩
  exact ⟨rfl, Seg.stp hb hd h1 s1.but⟩
theorem Seg.readBad (h : Seg base w0 W g d) (i n : Int) (hn : ¬ RdOk d i n) (h1 : i ≤ 9223372036854775807) (h2 : n ≤ 9223372036854775807) : Calls Try.prog 31 #[.pointer (some ⟨g, 0, none⟩), .int .i64 i, .int .i64 n] W fun r w' => r = .returned (.tuple #[.slice none 0 0, .int .i64 2]) ∧ Seg base w0 w' g d := by
  obtain ⟨⟨S, F, L, e, hd⟩, hb⟩ := h
  refine (ReadAt_bad hd i n hn h1 h2).mono ?_
  rintro r w' ⟨rfl, h1, s1⟩
  exact ⟨rfl, Seg.stp hb hd h1 s1⟩
theorem Seg.readNo (h : Seg base w0 W g d) (i n : Nat) (y z : Int) (hy : y = (i : Int)) (hz : z = (n : Int)) (hn : i + n ≤ d.now.length) {d' : Dk} {c : Nat} (hd' : d.op = (d', c)) (hc : c ≠ 0) : Calls Try.prog 31 #[.pointer (some ⟨g, 0, none⟩), .int .i64 y, .int .i64 z] W fun r w' => r = .returned (.tuple #[.slice none 0 0, .int .i64 (c : Nat)]) ∧ Seg base w0 w' g d' := by
  subst hy hz
  obtain ⟨⟨S, F, L, e, hd⟩, hb⟩ := h
  refine (ReadAt_no hd i n hn (by rw [hd']; exact hc)).mono ?_
  rw [hd']
  rintro r w' ⟨rfl, h1, s1⟩
  exact ⟨rfl, Seg.stp hb hd h1 s1⟩
end
/-- make([]byte, n) where its guard lets it go. -/
theorem wpList_zeros_w {ops : Array Oper} {rest : List Oper} {o : Oper} {a : Act} {Q : Exit → Act → World → Prop} (hw : Region.wanted o (yielded ops a.tmps) = true) (l c : Operand) (hop : o.op = .makeSlice 29 l c) (w : World) (n : Nat) (hl : a.eval l = .int .i64 n) (hc : a.eval c = .int .i64 n) (hn : n ≤ 100000)
    (hK : ∀ w', Hid (New w w' w.heap.size n n (List.replicate n 0)) → wpList Try.prog ops Q rest (a.put o.dst (.slice (some ⟨w.heap.size, 0, none⟩) n n)) w') : wpList Try.prog ops Q (o :: rest) a w := by
  obtain ⟨i0, hi, hz0, hz1, hz2⟩ := info_parts Try.info5
  refine wpList_step fun K hK' => ?_
  rw [if_pos hw]
  obtain ⟨w', hrun, h1, h2⟩ := run_make_full (P := Try.prog) w w.heap.size 29 5 i0 (.int .u8 0) 1 Try.underlying29 hi hz0 hz1 .i64 .i64 n (by rw [hz2]; omega) (by unfold maxLen; omega) (Nat.le_refl _)
  unfold Oper.wp
  simp [execOp, hop, hl, hc, hrun, Result.andThen]
  refine hK' _ _ (hK w' ⟨?_, (Below.refl _ w).grown h2 (Nat.le_refl _) (by simp), by omega⟩)
  rw [made_cells] at h1
  rw [List.map_replicate]
  exact h1
end Go.Proofs.Ytpeepohiajmhcaa
/-
  Two disks as plain data: one has 32 bytes more ahead, and behind them the other's bytes, each xor a stream's at its place.
-/
namespace Go.Proofs.Ytpeepohiajmhcaa

/-- The bytes xor the stream's from place k on. -/
def encS (st : Nat → UInt8) : Nat → List UInt8 → List UInt8
  | _, [] => []
  | k, b :: l => (b ^^^ st k) :: encS st (k + 1) l
theorem encS_len (st : Nat → UInt8) : ∀ (l : List UInt8) (k : Nat), (encS st k l).length = l.length
  | [], _ => rfl
  | _ :: l, k => by simp [encS, encS_len st l (k + 1)]
theorem encS_append (st : Nat → UInt8) : ∀ (a b : List UInt8) (k : Nat), encS st k (a ++ b) = encS st k a ++ encS st (k + a.length) b
  | [], b, k => by simp [encS]
  | x :: a, b, k => by
    simp only [List.cons_append, encS, encS_append st a b (k + 1), List.length_cons]
    rw [show k + 1 + a.length = k + (a.length + 1) by omega]
theorem encS_take (st : Nat → UInt8) : ∀ (l : List UInt8) (k n : Nat), (encS st k l).take n = encS st k (l.take n)
  | [], _, n => by simp [encS]
  | b :: l, k, 0 => by simp [encS]
  | b :: l, k, n + 1 => by simp [encS, encS_take st l (k + 1) n]
theorem encS_drop (st : Nat → UInt8) : ∀ (l : List UInt8) (k n : Nat), (encS st k l).drop n = encS st (k + n) (l.drop n)
  | [], _, n => by simp [encS]
  | b :: l, k, 0 => by simp [encS]
  | b :: l, k, n + 1 => by
    simp only [encS, List.drop_succ_cons, encS_drop st l (k + 1) n]
    rw [show k + 1 + n = k + (n + 1) by omega]
theorem encS_back (st : Nat → UInt8) : ∀ (l : List UInt8) (k : Nat), encS st k (encS st k l) = l
  | [], _ => rfl
  | b :: l, k => by
    simp only [encS, encS_back st l (k + 1)]
    rw [UInt8.xor_assoc, UInt8.xor_self, UInt8.xor_zero]
theorem encS_get (st : Nat → UInt8) : ∀ (l : List UInt8) (k i : Nat) (h : i < l.length), (encS st k l)[i]'(by rw [encS_len]; exact h) = l[i] ^^^ st (k + i)
  | b :: l, k, 0, _ => rfl
  | b :: l, k, i + 1, h => by
    simp only [encS, List.getElem_cons_succ]
    rw [encS_get st l (k + 1) i (by simpa using h), show k + 1 + i = k + (i + 1) by omega]
/-- The disk d has the salt, and p's bytes xor the stream's. -/
structure Sees (salt : List UInt8) (st : Nat → UInt8) (d p : Dk) : Prop where
  mo : d.most = p.most + 32
  nw : d.now = salt ++ encS st 0 p.now
  od : d.old = salt ++ encS st 0 p.old
  fl : d.floor = p.floor + 32
  dn : d.down = p.down
  ar : d.armed = p.armed
  fa : d.fails = p.fails
  er : p.fails ≠ 0 → d.err = p.err
section
variable {salt : List UInt8} {st : Nat → UInt8} {d p : Dk}
theorem Sees.len (h : Sees salt st d p) (hs : salt.length = 32) : d.now.length = p.now.length + 32 := by rw [h.nw, List.length_append, encS_len, hs]; omega
theorem Sees.op (h : Sees salt st d p) : d.op.2 = p.op.2 ∧ Sees salt st d.op.1 p.op.1 := by
  obtain ⟨mo, nw, od, fl, dn, ar, fa, er⟩ := h
  unfold Dk.op
  rw [dn, ar, fa]
  split
  · exact ⟨rfl, mo, nw, od, fl, dn, ar, fa, er⟩
  · split
    · exact ⟨rfl, mo, nw, od, fl, rfl, rfl, rfl, er⟩
    · split
      · rename_i h3
        exact ⟨er (by omega), mo, nw, od, fl, rfl, rfl, rfl, fun hf => absurd rfl hf⟩
      · exact ⟨rfl, mo, nw, od, fl, rfl, rfl, rfl, fun hf => er (fun e => hf (by show p.fails - _ = 0; omega))⟩
theorem Sees.app (h : Sees salt st d p) (hs : salt.length = 32) (l : List UInt8) : (d.app (encS st p.now.length l)).2 = (p.app l).2 ∧ Sees salt st (d.app (encS st p.now.length l)).1 (p.app l).1 := by
  obtain ⟨h1, h2⟩ := h.op
  have hl := h.len hs
  have hm := h.mo
  have he := encS_len st l p.now.length
  unfold Dk.app
  rw [h1]
  by_cases h0 : p.op.2 ≠ 0
  · rw [if_pos h0, if_pos h0]; exact ⟨h1, h2⟩
  · rw [if_neg h0, if_neg h0]
    by_cases hf : p.now.length + l.length > p.most
    · rw [if_pos (by omega), if_pos hf]; exact ⟨rfl, h2⟩
    · rw [if_neg (by omega), if_neg hf]
      refine ⟨rfl, h2.mo, ?_, h2.od, h2.fl, h2.dn, h2.ar, h2.fa, h2.er⟩
      show d.now ++ encS st p.now.length l = salt ++ encS st 0 (p.now ++ l)
      rw [h.nw, encS_append, Nat.zero_add, List.append_assoc]
theorem Sees.syn (h : Sees salt st d p) (hs : salt.length = 32) : d.syn.2 = p.syn.2 ∧ Sees salt st d.syn.1 p.syn.1 := by
  obtain ⟨h1, h2⟩ := h.op
  unfold Dk.syn
  rw [h1]
  by_cases h0 : p.op.2 ≠ 0
  · rw [if_pos h0, if_pos h0]; exact ⟨h1, h2⟩
  · rw [if_neg h0, if_neg h0]
    exact ⟨rfl, h2.mo, h2.nw, h.nw, h.len hs, h2.dn, h2.ar, h2.fa, h2.er⟩
theorem sees_take (hs : salt.length = 32) (l : List UInt8) (n : Nat) : (salt ++ encS st 0 l).take (n + 32) = salt ++ encS st 0 (l.take n) := by
  rw [List.take_append, List.take_of_length_le (by omega), hs, Nat.add_sub_cancel, encS_take]
theorem Sees.trunc (h : Sees salt st d p) (hs : salt.length = 32) (n : Nat) : (d.trunc (n + 32)).2 = (p.trunc n).2 ∧ Sees salt st (d.trunc (n + 32)).1 (p.trunc n).1 := by
  obtain ⟨h1, h2⟩ := h.op
  have hl := h.len hs
  unfold Dk.trunc
  rw [h1]
  by_cases hn : p.now.length < n
  · rw [if_pos (by omega), if_pos hn]; exact ⟨rfl, h⟩
  · rw [if_neg (by omega), if_neg hn]
    by_cases h0 : p.op.2 ≠ 0
    · rw [if_pos h0, if_pos h0]; exact ⟨h1, h2⟩
    · rw [if_neg h0, if_neg h0]
      refine ⟨rfl, h2.mo, ?_, h2.od, ?_, h2.dn, h2.ar, h2.fa, h2.er⟩
      · show d.now.take (n + 32) = salt ++ encS st 0 (p.now.take n)
        rw [h.nw, sees_take hs]
      · show min d.floor (n + 32) = min p.floor n + 32
        rw [h.fl]; omega
theorem Sees.arm (h : Sees salt st d p) (n : Int) : (d.arm n).2 = (p.arm n).2 ∧ Sees salt st (d.arm n).1 (p.arm n).1 := by
  unfold Dk.arm
  split
  · exact ⟨rfl, h⟩
  · exact ⟨rfl, h.mo, h.nw, h.od, h.fl, h.dn, rfl, h.fa, h.er⟩
theorem Sees.fail (h : Sees salt st d p) (n x : Int) : (d.fail n x).2 = (p.fail n x).2 ∧ Sees salt st (d.fail n x).1 (p.fail n x).1 := by
  unfold Dk.fail
  split
  · exact ⟨rfl, h⟩
  · exact ⟨rfl, h.mo, h.nw, h.od, h.fl, h.dn, h.ar, rfl, fun _ => rfl⟩
/-- A crash that keeps k bytes as they are. -/
theorem Sees.crash (h : Sees salt st d p) (hs : salt.length = 32) (k : Nat) : Sees salt st (d.crash k []) (p.crash k []) := by
  have e : (d.crash k []).now = salt ++ encS st 0 (p.crash k []).now := by
    show (if (k : Int) < 0 then d.old else junked (leftK d.now d.floor (k : Int).toNat) d.floor []) = salt ++ encS st 0 (if (k : Int) < 0 then p.old else junked (leftK p.now p.floor (k : Int).toNat) p.floor [])
    rw [if_neg (by omega), if_neg (by omega)]
    have j0 : ∀ (l : List UInt8) (f : Nat), junked l f [] = l := fun l f => if_pos rfl
    rw [j0, j0]
    unfold leftK
    rw [h.nw, h.fl, show p.floor + 32 + (k : Int).toNat = (p.floor + (k : Int).toNat) + 32 by omega, sees_take hs]
  refine ⟨h.mo, e, e, ?_, rfl, rfl, rfl, fun hf => absurd rfl hf⟩
  show (d.crash k []).now.length = (p.crash k []).now.length + 32
  rw [e, List.length_append, encS_len, hs]; omega
/-- The bytes of a part. -/
theorem Sees.part (h : Sees salt st d p) (hs : salt.length = 32) (a n : Nat) : encS st a ((d.now.drop (a + 32)).take n) = (p.now.drop a).take n := by
  rw [h.nw, List.drop_append, List.drop_eq_nil_of_le (by omega), List.nil_append, hs, Nat.add_sub_cancel, encS_drop, Nat.zero_add, encS_take, encS_back]
end
end Go.Proofs.Ytpeepohiajmhcaa
