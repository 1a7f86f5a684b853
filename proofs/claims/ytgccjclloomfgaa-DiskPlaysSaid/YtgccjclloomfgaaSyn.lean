/-
  The contracts of Sync and Append.
-/
import Derived.Test.YtgccjclloomfgaaFld
import Derived.Test.YtgccjclloomfgaaOpy
import Derived.Shelf.Abstract
import Derived.Test.YtgccjclloomfgaaStp
import Derived.StillTailTactics
namespace Go.Proofs.Ytgccjclloomfgaa
open Go.RowKit

theorem syn_of (d : Dk) (h : d.op.2 = 0) : d.syn = (d.op.1.settled, 0) := by
  obtain ⟨e1, _, _, _⟩ := op_now d
  unfold Dk.syn
  rw [if_neg (by simp [h]), ← e1]
  rfl
theorem syn_no (d : Dk) (h : d.op.2 ≠ 0) : d.syn = d.op := by unfold Dk.syn; rw [if_pos h]
set_option maxRecDepth 10000 in
set_option maxHeartbeats 1000000 in
theorem syn_clo {B : Nat} {S : Nat → Prop} {w : World} {g : Nat} {F L : Value} {d : Dk} {e : Int} (a : Addr) (h : DkAt B S w g F L d e) (hc : w.cell? a = some (.pointer (some ⟨g, 0, none⟩))) :
    Calls Try.prog 46 #[.pointer (some a)] w fun r w' => r = .returned (.int .i64 0) ∧ DkAt B S w' g F (.slice none 0 0) d.settled e ∧ But (· = g) w w' := by
  have HS := hid (settle_any h)
  clear h
  go_enter Try.func46, Try.ntmps46
  go_wp2_with (go_at_call 47; refine HS.out.mono ?_; rintro r w1 ⟨rfl, h1, b1⟩; have H1 := hid h1; have HB := hid b1; clear h1 b1 hc)
  go_ret
  exact ⟨rfl, H1.out, HB.out⟩
set_option maxRecDepth 10000 in
set_option maxHeartbeats 1000000 in
theorem Sync_any {B : Nat} {S : Nat → Prop} {w : World} {g : Nat} {F L : Value} {d : Dk} {e : Int} (h : DkAt B S w g F L d e) :
    Calls Try.prog 18 #[.pointer (some ⟨g, 0, none⟩)] w fun r w' => r = .returned (.int .i64 (d.syn.2 : Nat)) ∧ (∃ L', DkAt B S w' g F L' d.syn.1 e) ∧ But S w w' := by
  have hb0 : Below w.heap.size w (w.alloc (.cells #[.pointer (some ⟨g, 0, none⟩)] 22)) := (Below.refl _ w).alloc (Nat.le_refl _) _
  have h0 := h.below hb0
  have HM := hid (made_any h0)
  have hS : ∀ i, i = g → S i ∨ w.heap.size ≤ i := by rintro i rfl; exact .inl h.sg
  have hgl := lt_of_heap h.row
  have hbx : (w.alloc (.cells #[.pointer (some ⟨g, 0, none⟩)] 22)).cell? ⟨w.heap.size, 0, none⟩ = some (.pointer (some ⟨g, 0, none⟩)) := row_cell (heap_alloc_new w _) 0
  by_cases hop : d.op.2 = 0
  · rw [syn_of d hop]
    have HO : Hid (Calls Try.prog 40 #[.pointer (some ⟨g, 0, none⟩), .func (.func 46) #[] #[.pointer (some ⟨w.heap.size, 0, none⟩)]] (w.alloc (.cells #[.pointer (some ⟨g, 0, none⟩)] 22)) fun r w' => r = .returned (.int .i64 0) ∧ DkAt B S w' g F (.slice none 0 0) d.op.1.settled e ∧ But S w w') := by
      refine operate_yes 46 _ h0 hop (enters_of Try.func46 (by kernel_rfl) rfl) fun w1 h1 b1 => ?_
      refine (syn_clo ⟨w.heap.size, 0, none⟩ h1 (b1.cell hbx (by show ¬ w.heap.size = g; omega))).mono ?_
      rintro r w2 ⟨rfl, h2, b2⟩
      exact ⟨⟨_, rfl⟩, rfl, h2, ((But.of_below hb0 (S := S)).trans b1 hS).trans b2 hS⟩
    clear h hb0 h0 hS hgl hbx hop
    go_enter Try.func18, Try.ntmps18
    go_wp2_with (first
      | (go_at_call 39; refine HM.out.mono ?_; rintro r w' ⟨rfl, rfl⟩)
      | (go_at_call 40; refine HO.out.mono ?_; rintro r w2 ⟨rfl, h2, b2⟩; have H2 := hid h2; have HB := hid b2; clear h2 b2))
    go_ret
    exact ⟨rfl, ⟨_, H2.out⟩, HB.out⟩
  · rw [syn_no d hop]
    have HO := hid (operate_no 46 #[.pointer (some ⟨w.heap.size, 0, none⟩)] h0 hop)
    have HS := hid hS
    have HB0 := hid hb0
    clear h hb0 h0 hS hgl hbx hop
    go_enter Try.func18, Try.ntmps18
    go_wp2_with (first
      | (go_at_call 39; refine HM.out.mono ?_; rintro r w' ⟨rfl, rfl⟩)
      | (go_at_call 40; refine HO.out.mono ?_; rintro r w2 ⟨rfl, h2, b2⟩; have H2 := hid h2; have HB := hid ((But.of_below HB0.out (S := S)).trans b2 HS.out); clear h2 b2))
    go_ret
    exact ⟨rfl, ⟨_, H2.out⟩, HB.out⟩
theorem app_full (d : Dk) (b : List UInt8) (h : d.op.2 = 0) (hl : d.most < d.now.length + b.length) : d.app b = (d.op.1, 5) := by
  unfold Dk.app
  rw [if_neg (by simp [h]), if_pos hl]
theorem app_of (d : Dk) (b : List UInt8) (h : d.op.2 = 0) (hl : ¬ d.most < d.now.length + b.length) : d.app b = ({ d.op.1 with now := d.op.1.now ++ b }, 0) := by
  unfold Dk.app
  rw [if_neg (by simp [h]), if_neg hl, (op_now d).1]
theorem app_no (d : Dk) (b : List UInt8) (h : d.op.2 ≠ 0) : d.app b = d.op := by unfold Dk.app; rw [if_pos h]
set_option maxRecDepth 10000 in
set_option maxHeartbeats 1000000 in
theorem app_clo_full {B : Nat} {S : Nat → Prop} {w : World} {g : Nat} {F L : Value} {d : Dk} {e : Int} (a b : Addr) (A : Option Addr) (n c : Nat) (h : DkAt B S w g F L d e) (hc : w.cell? a = some (.pointer (some ⟨g, 0, none⟩))) (hb : w.cell? b = some (.slice A n c))
    (hl : d.most < d.now.length + n) (hn : n ≤ 140737488355328) :
    Calls Try.prog 42 #[.pointer (some b), .pointer (some a)] w fun r w' => r = .returned (.int .i64 5) ∧ ∃ k, w' = w.drewN k := by
  obtain ⟨AF, cF, rfl⟩ := own_sl h.ff
  obtain ⟨_, c1, c2, _, _, _, _, _, _⟩ := h.cells
  have hmx := h.ok.mx
  have hm4 := h.ok.m4
  have hlz : (d.most : Int) - (d.now.length : Int) < (n : Int) := by omega
  have hw : IntKind.i64.wrap ((d.most : Int) - (d.now.length : Int)) = (d.most : Int) - (d.now.length : Int) := IntWalk.i64_in _ (by omega)
  have h1 : (0 : Int) ≤ (d.most : Int) - (d.now.length : Int) := by omega
  have h2 : (d.most : Int) - (d.now.length : Int) ≤ 4194304 := by omega
  clear h hl hmx
  go_enter Try.func42, Try.ntmps42
  go_wp2_with fail
  go_quiet (fail)
  go_wp2_with fail
  go_ret
  exact ⟨rfl, _, rfl⟩
set_option maxRecDepth 10000 in
set_option maxHeartbeats 2000000 in
theorem app_clo {B : Nat} {S : Nat → Prop} {w : World} {g : Nat} {F L : Value} {d : Dk} {e : Int} (a b : Addr) (A : Option Addr) (n c : Nat) (l : List UInt8) (h : DkAt B S w g F L d e) (hc : w.cell? a = some (.pointer (some ⟨g, 0, none⟩))) (hb : w.cell? b = some (.slice A n c))
    (hi : IsB w A n c l) (hl : ¬ d.most < d.now.length + n) (ha : ¬ S a.block) :
    Calls Try.prog 42 #[.pointer (some b), .pointer (some a)] w fun r w' => r = .returned (.int .i64 0) ∧ ∃ F' S', DkAt B S' w' g F' L { d with now := d.now ++ l } e ∧ Stp S S' w w' := by
  obtain ⟨AF, cF, rfl⟩ := own_sl h.ff
  obtain ⟨_, c1, c2, _, _, _, _, _, _⟩ := h.cells
  have hmx := h.ok.mx
  have hm4 := h.ok.m4
  have hlz : ¬ (d.most : Int) - (d.now.length : Int) < (n : Int) := by omega
  have hw : IntKind.i64.wrap ((d.most : Int) - (d.now.length : Int)) = (d.most : Int) - (d.now.length : Int) := IntWalk.i64_in _ (by omega)
  have h1 : (0 : Int) ≤ (d.most : Int) - (d.now.length : Int) := by omega
  have h2 : (d.most : Int) - (d.now.length : Int) ≤ 4194304 := by omega
  have H := hid h
  clear h hl hmx
  go_enter Try.func42, Try.ntmps42
  go_wp2_with fail
  go_quiet (fail)
  go_wp2_with fail
  obtain ⟨w1, hw1⟩ : ∃ w1, w1 = w.drewN nq := ⟨_, rfl⟩
  have hcw : ∀ p, w1.cell? p = w.cell? p := by rw [hw1]; intro p; rfl
  have H1 : Hid (DkAt B S w1.drew g (.slice AF d.now.length cF) L d e ∧ IsB w1.drew A n c l ∧ Stp S S w w1.drew) := by
    subst hw1
    exact ⟨(H.out.drewN _).drew, (hi.drewN _).drewN 1, .of_but ((But.refl S w).drewN _).drew⟩
  rw [← hw1]
  rw [← hcw] at hc hb c2
  have f2 := row_free H1.out.1.row 2
  obtain ⟨hn, hl⟩ : l.length = n ∧ d.now.length + n ≤ d.most := ⟨hi.len, by omega⟩
  subst hn
  have Hl := hid hl
  have HS := hid ha
  have hcl : a.block < w1.heap.size := lt_of_cell hc
  have H5 : Hid (∀ (W : World) (v : Value), Apd w1.drew W (.slice AF d.now.length cF) v (d.now.length + l.length) ((d.now ++ l).map bv) → W.cell? a = some (.pointer (some ⟨g, 0, none⟩)) ∧ W.cell? ⟨g, 2, none⟩ = some (.slice AF d.now.length cF) ∧ W.frozen? ⟨g, 2, none⟩ = false) := by
    intro W v ha
    have hF := own_gne H1.out.1.ff H1.out.1.row (by decide)
    have hgF : some g ≠ (Value.slice AF d.now.length cF).ownBlock := fun e => hF g e.symm rfl
    have hrow : W.heap[g]? = some (.cells (dcells g (.slice AF d.now.length cF) L d e) 61 (0, 0)) := (ha.grown.block g (lt_of_heap H1.out.1.row) hgF).trans H1.out.1.row
    exact ⟨ha.grown.cell (w := w1.drew) hc (fun e => HS.out (H1.out.1.sf _ e.symm)), row_cell hrow 2, row_free hrow 2⟩
  clear hi ha hl hw1 hcw H hcl
  go_region_law (refine step_append_dk rfl (.tmp 20) (.tmp 21) rfl w1.drew _ d.now.length d.now rfl H1.out.1.ff A l.length c l rfl H1.out.2.1 (by omega) ?_; intro A2 n2 W2 hA2; obtain ⟨q1, q2, q3⟩ := H5.out _ _ hA2.out)
  all_goals
    go_wp2_with fail
    go_ret
    obtain ⟨k1, k2⟩ := H1.out.1.appd Hl.out hA2.out
    exact ⟨rfl, _, _, k1, H1.out.2.2.trans k2⟩
end Go.Proofs.Ytgccjclloomfgaa
