/-
  The contract of Copy.
-/
import Derived.Test.YtgccjclloomfgaaLod
import Derived.Test.YtgccjclloomfgaaSlc
import Derived.Deep.RegionHeld
import Derived.Deep.Cut
namespace Go.Proofs.Ytgccjclloomfgaa
open Go.RowKit

theorem below_at {w w1 : World} {k : Nat} (hz : w.heap.size = k) (h : Below w.drew.heap.size w.drew w1) : Below k w w1 := by subst hz; exact ⟨h.os, h.tape, h.output, h.size, h.block⟩
theorem own_at {w w1 : World} {k n : Nat} {v : Value} {xs : List Value} (hz : w.heap.size = k) (h : w1.ownsRow w.drew.heap.size 5 1 v n xs) : w1.ownsRow k 5 1 v n xs := by subst hz; exact h
theorem below_up {w w1 : World} {k : Nat} (hz : w.heap.size = k) (h : Below k w w1) : Below w.heap.size w w1 := by subst hz; exact h
theorem kset {w : World} {g k b j : Nat} {u v : Value} (hne : b ≠ g) (h : w.cell? ⟨b, j, none⟩ = some v) : (w.setCell ⟨g, k, none⟩ u).cell? ⟨b, j, none⟩ = some v :=
  (World.cell?_of_block (Below.heap_setCell w ⟨g, k, none⟩ u b hne)).trans h
theorem copy_row {w W1 W2 : World} {cs : Array Value} (b1 : Below (w.heap.size + 1) (w.alloc (.cells cs 61)) W1) (b2 : Below W1.heap.size W1 W2) : W2.heap[w.heap.size]? = some (.cells cs 61 (0, 0)) := by
  have hz : (w.alloc (.cells cs 61)).heap.size = w.heap.size + 1 := World.size_alloc _ _
  have s1 := b1.size
  exact (b2.block w.heap.size (by omega)).trans ((b1.block w.heap.size (by omega)).trans (heap_alloc_new w (.cells cs 61)))
/-- A copied struct, its file and its old file's end turned to new lists. -/
theorem copy_at {B : Nat} {S : Nat → Prop} {w W1 W2 : World} {g : Nat} {F L F2 L2 : Value} {d : Dk} {e : Int} (h : DkAt B S w g F L d e)
    (b1 : Below (w.heap.size + 1) (w.alloc (.cells (dcells g F L d e) 61)) W1) (o1 : W1.ownsRow (w.heap.size + 1) 5 1 F2 d.now.length (d.now.map bv))
    (b2 : Below W1.heap.size W1 W2) (o2 : W2.ownsRow W1.heap.size 5 1 L2 (d.old.length - d.floor) ((d.old.drop d.floor).reverse.map bv)) :
    DkAt w.heap.size (fun i => w.heap.size ≤ i ∧ i < W2.heap.size) (((W2.setCell ⟨w.heap.size, 0, none⟩ (.pointer (some ⟨w.heap.size, 0, none⟩))).setCell ⟨w.heap.size, 2, none⟩ F2).setCell ⟨w.heap.size, 4, none⟩ L2) w.heap.size F2 L2 d e ∧
      Below w.heap.size w (((W2.setCell ⟨w.heap.size, 0, none⟩ (.pointer (some ⟨w.heap.size, 0, none⟩))).setCell ⟨w.heap.size, 2, none⟩ F2).setCell ⟨w.heap.size, 4, none⟩ L2) := by
  have hz : (w.alloc (.cells (dcells g F L d e) 61)).heap.size = w.heap.size + 1 := World.size_alloc _ _
  have s1 := b1.size
  have s2 := b2.size
  rw [hz] at s1
  have r0 := heap_alloc_new w (.cells (dcells g F L d e) 61)
  have r1 := (b1.block w.heap.size (by omega)).trans r0
  have r2 : W2.heap[w.heap.size]? = some (.cells (dcells g F L d e) 61 (0, 0)) := (b2.block w.heap.size (by omega)).trans r1
  have bg : But (· = w.heap.size) W2 (((W2.setCell ⟨w.heap.size, 0, none⟩ (.pointer (some ⟨w.heap.size, 0, none⟩))).setCell ⟨w.heap.size, 2, none⟩ F2).setCell ⟨w.heap.size, 4, none⟩ L2) := (((But.refl (· = w.heap.size) W2).set _ _ (.inl rfl)).set _ _ (.inl rfl)).set _ _ (.inl rfl)
  have o1' : W2.ownsRow (w.heap.size + 1) 5 1 F2 d.now.length (d.now.map bv) := own_below o1 b2
  have e1 := own_gne o1' r2 (by decide)
  have e2 := own_gne o2 r2 (by decide)
  have b02 : Below w.heap.size w W2 := ((((Below.refl w.heap.size w).alloc (Nat.le_refl _) _).trans (b1.mono (by omega)))).trans (b2.mono (by omega))
  refine ⟨⟨?_, own_base (ownsRow_but o1' bg e1) (Nat.zero_le _), own_base (ownsRow_but o2 bg e2) (Nat.zero_le _), ?_, ⟨Nat.le_refl _, by omega⟩, ?_, ?_, ?_, h.ok, h.er, h.ae, h.fe⟩, b02.trans (bg.below (by rintro i rfl; exact Nat.le_refl _) (by omega))⟩
  · have k1 := row_set r2 0 (.pointer (some ⟨w.heap.size, 0, none⟩))
    have k2 := row_set k1 2 F2
    rw [row_set k2 4]
    rfl
  · intro k hk e9
    have := (own_lt o1 k hk).2
    have := (own_lt o2 k e9).1
    omega
  · intro k hk
    have := own_lt o1 k hk
    exact ⟨by omega, by omega⟩
  · intro k hk
    have := own_lt o2 k hk
    exact ⟨by omega, by omega⟩
  · intro i hi
    rw [World.size_setCell, World.size_setCell, World.size_setCell]
    exact hi
set_option maxRecDepth 10000 in
set_option maxHeartbeats 1000000 in
theorem Copy_any {B : Nat} {S : Nat → Prop} {w : World} {g : Nat} {F L : Value} {d : Dk} {e : Int} (h : DkAt B S w g F L d e) :
    Calls Try.prog 31 #[.pointer (some ⟨g, 0, none⟩)] w fun r w' => ∃ g2 S2 F2 L2, r = .returned (.pointer (some ⟨g2, 0, none⟩)) ∧ DkAt w.heap.size S2 w' g2 F2 L2 d e ∧ Below w.heap.size w w' := by
  have HM := hid (made_any h)
  have hmx := h.ok.mx
  have hmo := h.ok.mo
  have hm4 := h.ok.m4
  obtain ⟨AF, cF, rfl, hF⟩ := own_isBB h.ff (by omega)
  obtain ⟨AL, cL, rfl, hL⟩ := own_isBB (l := (d.old.drop d.floor).reverse) h.ll (by omega)
  obtain ⟨c0, c1, c2, c3, c4, c5, c6, c7, c8⟩ := h.cells
  have H := hid h
  have hb0 : Below w.heap.size w (w.alloc (.cells (dcells g (.slice AF d.now.length cF) (.slice AL (d.old.length - d.floor) cL) d e) 61)) := (Below.refl _ w).alloc (Nat.le_refl _) _
  have hz : (w.alloc (.cells (dcells g (.slice AF d.now.length cF) (.slice AL (d.old.length - d.floor) cL) d e) 61)).heap.size = w.heap.size + 1 := World.size_alloc _ _
  have HC := hid (Clone_any AF d.now _ cF (w.alloc (.cells (dcells g (.slice AF d.now.length cF) (.slice AL (d.old.length - d.floor) cL) d e) 61)).drew (hF.on hb0).drew)
  have HL := hid (hL.on hb0)
  have q2 := (hb0.cell (lt_of_cell c2)).trans c2
  have q4 := (hb0.cell (lt_of_cell c4)).trans c4
  have H5 : Hid (∀ W1, Below (w.heap.size + 1) (w.alloc (.cells (dcells g (.slice AF d.now.length cF) (.slice AL (d.old.length - d.floor) cL) d e) 61)) W1 → W1.cell? ⟨g, 2, none⟩ = some (.slice AF d.now.length cF) ∧ W1.cell? ⟨g, 4, none⟩ = some (.slice AL (d.old.length - d.floor) cL)) := by
    intro W1 hb
    have hg := lt_of_heap H.out.row
    exact ⟨(hb.cell (p := ⟨g, 2, none⟩) (by show g < _; omega)).trans q2, (hb.cell (p := ⟨g, 4, none⟩) (by show g < _; omega)).trans q4⟩
  have hgw : g ≠ w.heap.size := by have := lt_of_heap h.row; omega
  clear h hF hL hb0
  go_enter Try.func31, Try.ntmps31
  go_wp2_with (go_at_call 39; refine HM.out.mono ?_; rintro r w' ⟨rfl, rfl⟩)
  change Code.wp _ _ _ _ (w.alloc (.cells (dcells g (.slice AF d.now.length cF) (.slice AL (d.old.length - d.floor) cL) d e) 61))
  clear c0 c1 c2 c3 c4 c5 c6 c7 c8
  go_region_held (fun w' => w'.cell? ⟨g, 2, none⟩ = some (.slice AF d.now.length cF) ∧ w'.cell? ⟨g, 4, none⟩ = some (.slice AL (d.old.length - d.floor) cL)) ((first | exact ⟨q2, q4⟩ | exact ⟨r2, r4⟩ | exact ⟨s2, s4⟩ | exact ⟨kset hgw s2, kset hgw s4⟩ | exact ⟨kset hgw (kset hgw s2), kset hgw (kset hgw s4)⟩ | exact ⟨kset hgw (kset hgw (kset hgw s2)), kset hgw (kset hgw (kset hgw s4))⟩ | go_keep))
    ((first
      | (go_at_call 43; with_reducible refine HC.out.mono ?_; rintro r w1 ⟨v, rfl, ho1, hb1⟩; obtain ⟨A1, c1, rfl⟩ := own_sl ho1; have HO1 := hid (own_at hz ho1); have HB1 := hid (below_at hz hb1); obtain ⟨r2, r4⟩ := H5.out w1 HB1.out; clear ho1 hb1)
      | (go_at_call 43; with_reducible refine (Clone_any AL _ _ cL w1 (HL.out.on (below_up hz HB1.out))).mono ?_; rintro r w2 ⟨v, rfl, ho2, hb2⟩; obtain ⟨A2, c2, rfl⟩ := own_sl ho2; have HO2 := hid ho2; have HB2 := hid hb2; have rr := copy_row HB1.out hb2; have t0 := row_cell rr 0; have t2 := row_cell rr 2; have t4 := row_cell rr 4; have f0 := row_free rr 0; have f2 := row_free rr 2; have f4 := row_free rr 4; have f2' := row_free (row_set rr 0 (.pointer (some ⟨w.heap.size, 0, none⟩))) 2; have f4' := row_free (row_set (row_set rr 0 (.pointer (some ⟨w.heap.size, 0, none⟩))) 2 (.slice A1 d.now.length c1)) 4; simp only [dcells] at t0 t2 t4; obtain ⟨s2, s4⟩ := H5.out w2 (HB1.out.trans (hb2.mono (by have := HB1.out.size; omega))); clear ho2 hb2)))
  all_goals
    clear HM HC HL H5 t0 t2 t4 f0 f2 f4 f2' f4' s2 s4 r2 r4 q2 q4
    go_wp2_with fail
    go_ret
    exact ⟨_, _, _, _, rfl, copy_at H.out HB1.out HO1.out HB2.out HO2.out⟩
end Go.Proofs.Ytgccjclloomfgaa
