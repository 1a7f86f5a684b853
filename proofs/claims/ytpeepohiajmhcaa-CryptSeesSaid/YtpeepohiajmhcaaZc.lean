/-
  Merged: Rda Trc Tru Cpy Rnd Bak.
-/
import Derived.Test.YtpeepohiajmhcaaZb
import Derived.Deep.RegionWith
import Derived.StillTailTactics
import Derived.Deep.RegionHeld
import Derived.Deep.Cut
import Derived.RangeFuncNested
import Derived.RangeFuncBound
import Derived.RangeFuncCalls
import Derived.RangeFuncLeaves
import Derived.RangeFuncFrom
import Derived.Shelf.Abstract
import Derived.Shelf.RegionOpen
import Derived.OwnWalkIn
import Derived.TacticsInMore
import Derived.LoopNIn
import Derived.LoopIn
/-
  The contract of ReadAt.
-/
namespace Go.Proofs.Ytpeepohiajmhcaa
open Go.RowKit

set_option maxRecDepth 10000 in
set_option maxHeartbeats 400000 in
theorem read_clo {B : Nat} {S : Nat → Prop} {w : World} {g : Nat} {F L : Value} {d : Dk} {e : Int} (p q r o : Addr) (i n : Nat) (h : DkAt B S w g F L d e) (cp : w.cell? p = some (.pointer (some ⟨g, 0, none⟩))) (cq : w.cell? q = some (.int .i64 (i : Nat))) (cr : w.cell? r = some (.int .i64 (n : Nat)))
    (co : w.cell? o = some (.slice none 0 0)) (fo : w.frozen? o = false) (hl : i + n ≤ d.now.length) :
    Calls Try.prog 52 #[.pointer (some p), .pointer (some q), .pointer (some r), .pointer (some o)] w fun x w' => x = .returned (.int .i64 0) ∧ ∃ w1 A c, w1.ownsRow w.heap.size 5 1 (.slice A n c) n (((d.now.drop i).take n).map bv) ∧ Below w.heap.size w w1 ∧ w' = w1.setCell o (.slice A n c) := by
  have hmx := h.ok.mx
  have hm4 := h.ok.m4
  obtain ⟨AF, cF, rfl, hF⟩ := own_isBB h.ff (by omega)
  obtain ⟨_, _, c2, _, _, _, _, _, _⟩ := h.cells
  obtain ⟨t, ht⟩ : ∃ t, t = i + n := ⟨_, rfl⟩
  obtain ⟨A1, hs1, hI1⟩ := slice_part hF i t (by omega) (by omega)
  obtain ⟨cc, hcc⟩ : ∃ cc, cc = cF - i := ⟨_, rfl⟩
  rw [show t - i = n by omega] at hI1 hs1
  rw [← hcc] at hs1 hI1
  have HI := hid hI1.drew
  have e1 : IntKind.i64.wrap ((i : Int) + (n : Int)) = (t : Int) := by rw [IntWalk.i64_in _ (by omega)]; omega
  have ht1 : (0 : Int) ≤ (t : Int) := by omega
  have ht2 : (t : Int) ≤ 4194304 := by omega
  have H5 : Hid (∀ W, Below w.heap.size w W → W.cell? o = some (.slice none 0 0) ∧ W.frozen? o = false) := by
    intro W hb
    have ho := lt_of_cell co
    exact ⟨(hb.cell ho).trans co, (hb.frozen ho).trans fo⟩
  have hit : (i : Int) ≤ (t : Int) := by omega
  clear h hF hI1 ht hcc hl
  go_enter Try.func52, Try.ntmps52
  go_wp2_with fail
  go_still_tail 9, (by kernel_rfl)
  change wpList _ _ _ _ _ w.drew
  clear cp cq cr c2 hs1 e1
  go_wp2_with (go_at_call 42; refine (Clone_any A1 _ n cc w.drew HI.out).mono ?_; rintro x w1 ⟨v, rfl, ho1, hb1⟩; obtain ⟨A2, c3, rfl⟩ := own_sl ho1; obtain ⟨q1, q2⟩ := H5.out w1 ⟨hb1.os, hb1.tape, hb1.output, hb1.size, hb1.block⟩; have HO := hid ho1; have HB := hid hb1; clear ho1 hb1)
  go_ret
  exact ⟨rfl, w1, A2, c3, HO.out, ⟨HB.out.os, HB.out.tape, HB.out.output, HB.out.size, HB.out.block⟩, rfl⟩
theorem three_new {w : World} (x y z : Value) (t u v : TypeId) : ∃ w0, w0 = ((w.alloc (.cells #[x] t)).alloc (.cells #[y] u)).alloc (.cells #[z] v) ∧ Below w.heap.size w w0 ∧ w0.cell? ⟨w.heap.size, 0, none⟩ = some x ∧ w0.cell? ⟨w.heap.size + 1, 0, none⟩ = some y ∧ w0.cell? ⟨w.heap.size + 2, 0, none⟩ = some z ∧ w0.heap.size = w.heap.size + 3 := by
  obtain ⟨w0, h0, hb, c1, c2, hs⟩ := two_new (w := w) x y t u
  subst h0
  have b : Below (((w.alloc (.cells #[x] t)).alloc (.cells #[y] u)).heap.size) ((w.alloc (.cells #[x] t)).alloc (.cells #[y] u)) _ := (Below.refl _ _).alloc (Nat.le_refl _) (.cells #[z] v)
  refine ⟨_, rfl, hb.alloc hb.size _, ?_, ?_, ?_, by simp⟩
  · exact (b.cell (p := ⟨w.heap.size, 0, none⟩) (by rw [hs]; show w.heap.size < _; omega)).trans c1
  · exact (b.cell (p := ⟨w.heap.size + 1, 0, none⟩) (by rw [hs]; show w.heap.size + 1 < _; omega)).trans c2
  · have := row_cell (heap_alloc_new ((w.alloc (.cells #[x] t)).alloc (.cells #[y] u)) (.cells #[z] v)) 0
    rw [hs] at this
    exact this
def RdOk (d : Dk) (i n : Int) : Prop := 0 ≤ i ∧ 0 ≤ n ∧ i ≤ (d.now.length : Int) - n
set_option maxRecDepth 10000 in
set_option maxHeartbeats 1000000 in
theorem ReadAt_bad {B : Nat} {S : Nat → Prop} {w : World} {g : Nat} {F L : Value} {d : Dk} {e : Int} (h : DkAt B S w g F L d e) (i n : Int) (hb : ¬ RdOk d i n) (hi : i ≤ 9223372036854775807) (hn : n ≤ 9223372036854775807) :
    Calls Try.prog 31 #[.pointer (some ⟨g, 0, none⟩), .int .i64 i, .int .i64 n] w fun r w' => r = .returned (.tuple #[.slice none 0 0, .int .i64 2]) ∧ DkAt B S w' g F L d e ∧ But S w w' := by
  obtain ⟨w0, hw0, hb0, ca, cb, cc, hs0⟩ := three_new (w := w) (.pointer (some ⟨g, 0, none⟩)) (.int .i64 i) (.int .i64 n) 22 3 3
  have h0 := h.below hb0
  have HM := hid (made_any h0)
  have b0 : But S w w0 := .of_below hb0
  have H0 := hid (And.intro h0 b0)
  have hmx := h.ok.mx
  have hm4 := h.ok.m4
  obtain ⟨AF, cF, rfl⟩ := own_sl h.ff
  have c2 := h0.cells.2.2.1
  have hl2 : (d.now.length : Int) ≤ 4194304 := by omega
  by_cases h1 : i < 0
  · have d1 : decide (i < 0) = true := by simpa using h1
    subst hw0
    clear h hb0 h0 b0 hb
    go_enter Try.func31, Try.ntmps31
    go_wp2_with (go_at_call 32; refine HM.out.mono ?_; rintro r w' ⟨rfl, rfl⟩)
    go_quiet (fail)
    go_wp2_with fail
    go_ret2
    exact ⟨rfl, H0.out.1.drewN _, H0.out.2.drewN _⟩
  · have d1 : decide (i < 0) = false := by simpa using h1
    by_cases h2 : n < 0
    · have d2 : decide (n < 0) = true := by simpa using h2
      subst hw0
      clear h hb0 h0 b0 hb
      go_enter Try.func31, Try.ntmps31
      go_wp2_with (go_at_call 32; refine HM.out.mono ?_; rintro r w' ⟨rfl, rfl⟩)
      go_quiet (fail)
      go_wp2_with fail
      go_ret2
      exact ⟨rfl, H0.out.1.drewN _, H0.out.2.drewN _⟩
    · have d2 : decide (n < 0) = false := by simpa using h2
      obtain ⟨N, rfl⟩ : ∃ N : Nat, n = N := ⟨n.toNat, by omega⟩
      have h3 : (d.now.length : Int) - N < i := by unfold RdOk at hb; omega
      have hw : IntKind.i64.wrap ((d.now.length : Int) - (N : Int)) = (d.now.length : Int) - (N : Int) := IntWalk.i64_in _ (by omega)
      obtain ⟨q, hq⟩ : ∃ q : Int, q = (d.now.length : Int) - (N : Int) := ⟨_, rfl⟩
      have hw : IntKind.i64.wrap ((d.now.length : Int) - (N : Int)) = q := hw.trans hq.symm
      rw [← hq] at h3
      have d3 : decide (q < i) = true := by simpa using h3
      have Hq := hid hq
      subst hw0
      clear h hb0 h0 b0 hb hq
      go_enter Try.func31, Try.ntmps31
      go_wp2_with (go_at_call 32; refine HM.out.mono ?_; rintro r w' ⟨rfl, rfl⟩)
      go_quiet (fail)
      go_wp2_with fail
      go_ret2
      exact ⟨rfl, H0.out.1.drewN _, H0.out.2.drewN _⟩
set_option maxRecDepth 10000 in
set_option maxHeartbeats 1000000 in
theorem ReadAt_no {B : Nat} {S : Nat → Prop} {w : World} {g : Nat} {F L : Value} {d : Dk} {e : Int} (h : DkAt B S w g F L d e) (i n : Nat) (hb : i + n ≤ d.now.length) (hop : d.op.2 ≠ 0) :
    Calls Try.prog 31 #[.pointer (some ⟨g, 0, none⟩), .int .i64 (i : Nat), .int .i64 (n : Nat)] w fun r w' => r = .returned (.tuple #[.slice none 0 0, .int .i64 (d.op.2 : Nat)]) ∧ DkAt B S w' g F L d.op.1 e ∧ But S w w' := by
  obtain ⟨w0, hw0, hb0, ca, cb, cc, hs0⟩ := three_new (w := w) (.pointer (some ⟨g, 0, none⟩)) (.int .i64 (i : Nat)) (.int .i64 (n : Nat)) 22 3 3
  have h0 := h.below hb0
  have HM := hid (made_any h0)
  have b0 : But S w w0 := .of_below hb0
  have hmx := h.ok.mx
  have hm4 := h.ok.m4
  obtain ⟨AF, cF, rfl⟩ := own_sl h.ff
  have c2 := h0.cells.2.2.1
  have hl2 : (d.now.length : Int) ≤ 4194304 := by omega
  have d1 : decide ((i : Int) < 0) = false := by simp
  have d2 : decide ((n : Int) < 0) = false := by simp
  obtain ⟨q, hq⟩ : ∃ q : Int, q = (d.now.length : Int) - (n : Int) := ⟨_, rfl⟩
  have hw : IntKind.i64.wrap ((d.now.length : Int) - (n : Int)) = q := by rw [IntWalk.i64_in _ (by omega), hq]
  have d3 : decide (q < (i : Int)) = false := by rw [decide_eq_false_iff_not]; omega
  have HO : Hid (∀ k, Calls Try.prog 34 #[.pointer (some ⟨g, 0, none⟩), .func (.func 52) #[] #[.pointer (some ⟨w.heap.size, 0, none⟩), .pointer (some ⟨w.heap.size + 1, 0, none⟩), .pointer (some ⟨w.heap.size + 2, 0, none⟩), .pointer (some ⟨w.heap.size + 3, 0, none⟩)]] ((w0.drewN k).alloc (.cells #[.slice none 0 0] 29)) fun r w' => r = .returned (.int .i64 (d.op.2 : Nat)) ∧ DkAt B S w' g (.slice AF d.now.length cF) L d.op.1 e ∧ But S w w' ∧ w'.cell? ⟨w.heap.size + 3, 0, none⟩ = some (.slice none 0 0)) := by
    intro k
    have hb1 : Below (w0.drewN k).heap.size (w0.drewN k) ((w0.drewN k).alloc (.cells #[.slice none 0 0] 29)) := (Below.refl _ _).alloc (Nat.le_refl _) _
    have hc : ((w0.drewN k).alloc (.cells #[.slice none 0 0] 29)).cell? ⟨w.heap.size + 3, 0, none⟩ = some (.slice none 0 0) := by
      have := row_cell (heap_alloc_new (w0.drewN k) (.cells #[.slice none 0 0] 29)) 0
      rw [show (w0.drewN k).heap.size = w.heap.size + 3 from hs0] at this
      exact this
    refine (operate_no 52 _ ((h0.drewN k).below hb1) hop).mono ?_
    rintro r w2 ⟨rfl, h2, b2⟩
    have hgl := lt_of_heap h.row
    exact ⟨rfl, h2, ((b0.drewN k).trans (.of_below hb1) (S' := S) (fun i hi => .inl hi)).trans b2 (by rintro i rfl; exact .inl h.sg), b2.cell hc (by show ¬ w.heap.size + 3 = g; omega)⟩
  subst hw0
  clear h hb0 h0 b0 hb hq hmx hm4 hop
  go_enter Try.func31, Try.ntmps31
  go_wp2_with (go_at_call 32; refine HM.out.mono ?_; rintro r w' ⟨rfl, rfl⟩)
  go_quiet (fail)
  go_wp2_with (go_at_call 34; go_loud (refine (HO.out _).mono ?_; rintro r w2 ⟨rfl, h2, b2, e2⟩; have H2 := hid h2; have HB := hid b2; clear h2 b2))
  go_ret2
  exact ⟨rfl, H2.out, HB.out⟩
set_option maxRecDepth 10000 in
set_option maxHeartbeats 1000000 in
theorem ReadAt_any {B : Nat} {S : Nat → Prop} {w : World} {g : Nat} {F L : Value} {d : Dk} {e : Int} (h : DkAt B S w g F L d e) (i n : Nat) (hb : i + n ≤ d.now.length) (hop : d.op.2 = 0) :
    Calls Try.prog 31 #[.pointer (some ⟨g, 0, none⟩), .int .i64 (i : Nat), .int .i64 (n : Nat)] w fun r w' => ∃ A c, r = .returned (.tuple #[.slice A n c, .int .i64 0]) ∧ DkAt B S w' g F L d.op.1 e ∧ But S w w' ∧ w'.ownsRow w.heap.size 5 1 (.slice A n c) n (((d.now.drop i).take n).map bv) := by
  obtain ⟨w0, hw0, hb0, ca, cb, cc, hs0⟩ := three_new (w := w) (.pointer (some ⟨g, 0, none⟩)) (.int .i64 (i : Nat)) (.int .i64 (n : Nat)) 22 3 3
  have h0 := h.below hb0
  have HM := hid (made_any h0)
  have b0 : But S w w0 := .of_below hb0
  have hmx := h.ok.mx
  have hm4 := h.ok.m4
  obtain ⟨AF, cF, rfl⟩ := own_sl h.ff
  have c2 := h0.cells.2.2.1
  have hl2 : (d.now.length : Int) ≤ 4194304 := by omega
  have d1 : decide ((i : Int) < 0) = false := by simp
  have d2 : decide ((n : Int) < 0) = false := by simp
  obtain ⟨q, hq⟩ : ∃ q : Int, q = (d.now.length : Int) - (n : Int) := ⟨_, rfl⟩
  have hw : IntKind.i64.wrap ((d.now.length : Int) - (n : Int)) = q := by rw [IntWalk.i64_in _ (by omega), hq]
  have d3 : decide (q < (i : Int)) = false := by rw [decide_eq_false_iff_not]; omega
  have HO : Hid (∀ k, Calls Try.prog 34 #[.pointer (some ⟨g, 0, none⟩), .func (.func 52) #[] #[.pointer (some ⟨w.heap.size, 0, none⟩), .pointer (some ⟨w.heap.size + 1, 0, none⟩), .pointer (some ⟨w.heap.size + 2, 0, none⟩), .pointer (some ⟨w.heap.size + 3, 0, none⟩)]] ((w0.drewN k).alloc (.cells #[.slice none 0 0] 29)) fun r w' => r = .returned (.int .i64 0) ∧ DkAt B S w' g (.slice AF d.now.length cF) L d.op.1 e ∧ But S w w' ∧ ∃ A c, w'.cell? ⟨w.heap.size + 3, 0, none⟩ = some (.slice A n c) ∧ w'.ownsRow w.heap.size 5 1 (.slice A n c) n (((d.now.drop i).take n).map bv)) := by
    intro k
    have hgl := lt_of_heap h.row
    have hb1 : Below (w0.drewN k).heap.size (w0.drewN k) ((w0.drewN k).alloc (.cells #[.slice none 0 0] 29)) := (Below.refl _ _).alloc (Nat.le_refl _) _
    have hr := heap_alloc_new (w0.drewN k) (.cells #[.slice none 0 0] 29)
    rw [show (w0.drewN k).heap.size = w.heap.size + 3 from hs0] at hr
    have hc : ((w0.drewN k).alloc (.cells #[.slice none 0 0] 29)).cell? ⟨w.heap.size + 3, 0, none⟩ = some (.slice none 0 0) := row_cell hr 0
    have bo : But S w ((w0.drewN k).alloc (.cells #[.slice none 0 0] 29)) := (b0.drewN k).trans (.of_below hb1) (S' := S) (fun i hi => .inl hi)
    have hsz : ((w0.drewN k).alloc (.cells #[.slice none 0 0] 29)).heap.size = w.heap.size + 4 := by rw [World.size_alloc]; show w0.heap.size + 1 = _; omega
    have ca1 := (hb1.cell (p := ⟨w.heap.size, 0, none⟩) (by show w.heap.size < w0.heap.size; omega)).trans ca
    have cb1 := (hb1.cell (p := ⟨w.heap.size + 1, 0, none⟩) (by show w.heap.size + 1 < w0.heap.size; omega)).trans cb
    have cc1 := (hb1.cell (p := ⟨w.heap.size + 2, 0, none⟩) (by show w.heap.size + 2 < w0.heap.size; omega)).trans cc
    refine operate_yes 52 _ ((h0.drewN k).below hb1) hop (enters_of Try.func52 (by kernel_rfl) rfl) fun w1 h1 b1 => ?_
    have hr1 := (b1.block (w.heap.size + 3) (by omega) (by show ¬ w.heap.size + 3 = g; omega)).trans hr
    have hnow : d.op.1.now = d.now := (op_now d).1
    refine (read_clo _ _ _ _ i n h1 (b1.cell ca1 (by show ¬ w.heap.size = g; omega)) (b1.cell cb1 (by show ¬ w.heap.size + 1 = g; omega)) (b1.cell cc1 (by show ¬ w.heap.size + 2 = g; omega)) (row_cell hr1 0) (row_free hr1 0) (by rw [hnow]; exact hb)).mono ?_
    rintro r w3 ⟨rfl, w2, A, c, ho, hb2, rfl⟩
    have b2 : But S w w2 := (bo.trans b1 (by rintro i rfl; exact .inl h.sg)).trans (.of_below hb2) (S' := S) (fun i hi => .inl hi)
    have hsz2 := hb2.size
    have hsz1 := b1.size
    have hr2 := (hb2.block (w.heap.size + 3) (by omega)).trans hr1
    have b3 : But S w (w2.setCell ⟨w.heap.size + 3, 0, none⟩ (.slice A n c)) := b2.set _ _ (.inr (by show w.heap.size ≤ w.heap.size + 3; omega))
    have bw : But (· = w.heap.size + 3) w2 (w2.setCell ⟨w.heap.size + 3, 0, none⟩ (.slice A n c)) := (But.refl _ w2).set _ _ (.inl rfl)
    rw [hnow] at ho
    refine ⟨⟨_, rfl⟩, rfl, (h1.below hb2).but bw (fun i hi => ?_), b3, A, c, ?_, own_base (ownsRow_but ho bw (fun k hk => ?_)) (by omega)⟩
    · have := h.lt i hi; show ¬ i = _; omega
    · have := row_set hr2 0 (.slice A n c)
      exact row_cell this 0
    · have := own_lt ho k hk; show ¬ k = _; omega
  subst hw0
  clear h hb0 h0 b0 hb hq hmx hm4 hop
  go_enter Try.func31, Try.ntmps31
  go_wp2_with (go_at_call 32; refine HM.out.mono ?_; rintro r w' ⟨rfl, rfl⟩)
  go_quiet (fail)
  go_wp2_with (go_at_call 34; go_loud (refine (HO.out _).mono ?_; rintro r w2 ⟨rfl, h2, b2, A, c, e2, o2⟩; have H2 := hid h2; have HB := hid b2; have HO2 := hid o2; clear h2 b2 o2))
  go_ret2
  exact ⟨A, c, rfl, H2.out, HB.out, HO2.out⟩
end Go.Proofs.Ytpeepohiajmhcaa
/-
  The contract of Truncate's work: the floor falls byte by byte.
-/
namespace Go.Proofs.Ytpeepohiajmhcaa
open Go.RowKit

def floorOf (w : World) (g : Nat) : Nat := (intOf ((w.cell? ⟨g, 3, none⟩).getD undef)).toNat
theorem lost_next (d : Dk) (f : Nat) (x : UInt8) (hf : f < d.old.length) (hx : d.old[f] = x) : (d.old.drop (f + 1)).reverse ++ [x] = (d.old.drop f).reverse := by
  have e : d.old.drop f = d.old[f] :: d.old.drop (f + 1) := List.drop_eq_getElem_cons hf
  rw [e, List.reverse_cons, hx]
/-- The old file's end has got one byte more, the floor has fallen by one. -/
theorem DkAt.fall {B : Nat} {S : Nat → Prop} {w w2 : World} {g f : Nat} {F L L' : Value} {d : Dk} {e : Int} {x : UInt8} (h : DkAt B S w g F L { d with floor := f + 1 } e) (hx : ∀ h : f < d.old.length, d.old[f] = x)
    (ha : Apd w w2 L L' (d.old.length - (f + 1) + 1) (((d.old.drop (f + 1)).reverse ++ [x]).map bv)) :
    DkAt B (fun i => S i ∨ L'.ownBlock = some i) ((w2.setCell ⟨g, 4, none⟩ L').setCell ⟨g, 3, none⟩ (.int .i64 (f : Nat))) g F L' { d with floor := f } e ∧ Stp S (fun i => S i ∨ L'.ownBlock = some i) w ((w2.setCell ⟨g, 4, none⟩ L').setCell ⟨g, 3, none⟩ (.int .i64 (f : Nat))) := by
  have hfo : f + 1 ≤ d.old.length := h.ok.fo
  have hfn : f + 1 ≤ d.now.length := h.ok.fn
  have hL := own_gne h.ll h.row (by decide)
  have hgL : some g ≠ L.ownBlock := fun e => hL g e.symm rfl
  have hrow : w2.heap[g]? = some (.cells (dcells g F L { d with floor := f + 1 } e) 32 (0, 0)) := (ha.grown.block g (lt_of_heap h.row) hgL).trans h.row
  have hL2 := own_gne ha.own hrow (by decide)
  obtain ⟨hF, hap⟩ := ha.keeps 0 F _ _ h.ff h.ap.swap
  have hF2 := own_gne hF hrow (by decide)
  have bg : But (· = g) w2 ((w2.setCell ⟨g, 4, none⟩ L').setCell ⟨g, 3, none⟩ (.int .i64 (f : Nat))) := ((But.refl (· = g) w2).set _ _ (.inl rfl)).set _ _ (.inl rfl)
  have b2 : But S w w2 := (But.refl S w).grown ha.grown (fun k hk => .inl (h.sl k hk))
  refine ⟨⟨?_, ownsRow_but hF bg hF2, ?_, hap.swap, .inl h.sg, fun k hk => .inl (h.sf k hk), fun k hk => .inr hk, ?_, ?_, h.er, h.ae, h.fe⟩, (b2.set _ _ (.inl h.sg)).set _ _ (.inl h.sg), ?_⟩
  · have r1 := row_set hrow 4 L'
    rw [row_set r1 3]; rfl
  · have e1 := ownsRow_but ha.own bg hL2
    rw [lost_next d f x (by omega) (hx (by omega))] at e1
    have e2 : d.old.length - (f + 1) + 1 = d.old.length - f := by omega
    rw [e2] at e1
    exact e1
  · intro i hi
    rw [World.size_setCell, World.size_setCell]
    rcases hi with hi | hi
    · exact ⟨(h.lt i hi).1, Nat.lt_of_lt_of_le (h.lt i hi).2 ha.grown.size⟩
    · refine ⟨?_, (own_lt ha.own i hi).2⟩
      rcases ha.fresh with h1 | ⟨k, h1, h2⟩
      · exact (h.lt i (h.sl i (h1 ▸ hi))).1
      · rw [h1] at hi
        cases hi
        have := (h.lt g h.sg)
        omega
  · refine ⟨by show f ≤ d.now.length; omega, by show f ≤ d.old.length; omega, ?_, h.ok.mx, h.ok.mo, h.ok.m4, h.ok.fa⟩
    have hs : d.now.take (f + 1) = d.old.take (f + 1) := h.ok.same
    have := congrArg (List.take f) hs
    rw [List.take_take, List.take_take, show min f (f + 1) = f by omega] at this
    exact this
  · intro i hi
    rcases hi with hi | hi
    · exact .inl hi
    · rcases ha.fresh with h1 | ⟨k, h1, h2⟩
      · exact .inl (h.sl i (h1 ▸ hi))
      · rw [h1] at hi
        cases hi
        exact .inr h2
/-- The disk when its file is cut in field 2. -/
theorem DkAt.cut {B : Nat} {S : Nat → Prop} {w : World} {g n c : Nat} {A : Option Addr} {L : Value} {d : Dk} {e : Int} (h : DkAt B S w g (.slice A d.now.length c) L d e) (hn : n ≤ d.now.length) (hf : d.floor ≤ n) :
    DkAt B S (w.setCell ⟨g, 2, none⟩ (.slice A n c)) g (.slice A n c) L { d with now := d.now.take n } e ∧ But S w (w.setCell ⟨g, 2, none⟩ (.slice A n c)) := by
  have bg : But (· = g) w (w.setCell ⟨g, 2, none⟩ (.slice A n c)) := (But.refl (· = g) w).set _ _ (.inl rfl)
  have hF := own_gne h.ff h.row (by decide)
  have hL := own_gne h.ll h.row (by decide)
  refine ⟨⟨?_, ?_, ownsRow_but h.ll bg hL, (fun k hk => h.ap k (by cases A <;> exact hk)), h.sg, (fun k hk => h.sf k (by cases A <;> exact hk)), h.sl, fun i hi => by rw [World.size_setCell]; exact h.lt i hi, ?_, h.er, h.ae, h.fe⟩, h.butg bg⟩
  · rw [row_set h.row 2]; rfl
  · have e1 := ownsRow_but h.ff bg hF
    have e2 : (d.now.take n).length = n := by rw [List.length_take]; omega
    show World.ownsRow _ 0 5 1 _ (d.now.take n).length ((d.now.take n).map bv)
    rw [e2]
    refine ⟨by rw [List.length_map, e2, Nat.mul_one], ?_⟩
    rcases e1.2 with ⟨h1, h2⟩ | ⟨q, cap, cur, hv, hq, hh, hc, hm, hs, ht⟩
    · injection h1 with h3 h4 h5
      subst h3 h5
      have h6 : n = 0 := by omega
      exact .inl ⟨by rw [h6], h6⟩
    · injection hv with h3 h4 h5
      subst h3 h5
      refine .inr ⟨q, c, cur, rfl, hq, hh, by omega, hm, hs, ?_⟩
      rw [Nat.mul_one] at ht ⊢
      rw [List.map_take, ← ht, List.take_take, show min n d.now.length = n by omega]
  · refine ⟨?_, h.ok.fo, ?_, ?_, h.ok.mo, h.ok.m4, h.ok.fa⟩
    · show d.floor ≤ (d.now.take n).length
      rw [List.length_take]; have := h.ok.fn; omega
    · show (d.now.take n).take d.floor = d.old.take d.floor
      rw [List.take_take, show min d.floor n = d.floor by omega]; exact h.ok.same
    · show (d.now.take n).length ≤ d.most
      rw [List.length_take]; have := h.ok.mx; omega
theorem keep_set {w : World} {g k pb j : Nat} {u v : Value} (hne : pb = g → False) (h : w.cell? ⟨pb, j, none⟩ = some v) : (w.setCell ⟨g, k, none⟩ u).drew.cell? ⟨pb, j, none⟩ = some v :=
  (World.cell?_of_block (Below.heap_setCell w ⟨g, k, none⟩ u pb hne)).trans h
theorem keep_off {w : World} {g k j : Nat} {cs : Array Value} {u v : Value} {t : TypeId} (hr : w.heap[g]? = some (.cells cs t (0, 0))) (h : cs[j]? = some v) (hne : k ≠ j) : (w.setCell ⟨g, k, none⟩ u).drew.cell? ⟨g, j, none⟩ = some v := by
  have := row_cell (row_set hr k u) j
  rw [Array.getElem?_setIfInBounds_ne hne, h] at this
  exact this
theorem keep_alloc {w : World} {p : Addr} {o : Obj} {v : Value} (h : w.cell? p = some v) : (w.alloc o).drew.cell? p = some v :=
  (World.cell?_of_block (Below.heap_alloc w o p.block (lt_of_cell h))).trans h
/-- What a byte's append to the old file's end leaves. -/
theorem DkAt.lost {B : Nat} {S : Nat → Prop} {w W : World} {g pb qb f cF : Nat} {AF : Option Addr} {L v : Value} {d : Dk} {e : Int} {xs : List Value} {n N k : Nat} {x y z : Value} (h : DkAt B S w g (.slice AF N cF) L d e) (ha : Apd w W L v k xs)
    (cp : w.cell? ⟨pb, 0, none⟩ = some x) (cq : w.cell? ⟨qb, 0, none⟩ = some y) (hp : ¬ S pb) (hq : ¬ S qb) :
    W.cell? ⟨pb, 0, none⟩ = some x ∧ W.cell? ⟨qb, 0, none⟩ = some y ∧ W.heap[g]? = some (.cells (dcells g (.slice AF N cF) L d e) 32 (0, 0)) := by
  have hL := own_gne h.ll h.row (by decide)
  have hgL : some g ≠ L.ownBlock := fun e => hL g e.symm rfl
  exact ⟨ha.grown.cell cp (fun e => hp (h.sl _ e.symm)), ha.grown.cell cq (fun e => hq (h.sl _ e.symm)), (ha.grown.block g (lt_of_heap h.row) hgL).trans h.row⟩
set_option maxRecDepth 10000 in
set_option maxHeartbeats 2000000 in
theorem trunc_clo {B : Nat} {S : Nat → Prop} {w : World} {g : Nat} {F L : Value} {d : Dk} {e : Int} (pb qb n : Nat) (h : DkAt B S w g F L d e) (cp : w.cell? ⟨pb, 0, none⟩ = some (.pointer (some ⟨g, 0, none⟩))) (cq : w.cell? ⟨qb, 0, none⟩ = some (.int .i64 (n : Nat)))
    (hp : ¬ S pb) (hq : ¬ S qb) (hn : n ≤ d.now.length) :
    Calls Try.prog 35 #[.pointer (some ⟨pb, 0, none⟩), .pointer (some ⟨qb, 0, none⟩)] w fun r w' => r = .returned (.int .i64 0) ∧ ∃ F' L' S', DkAt B S' w' g F' L' { d with now := d.now.take n, floor := min d.floor n } e ∧ Stp S S' w w' := by
  obtain ⟨AF, cF, hFe⟩ := own_sl h.ff
  subst hFe
  have hfloor : ∀ S' wr L' f, DkAt B S' wr g (.slice AF d.now.length cF) L' { d with floor := f } e → floorOf wr g = f := by
    intro S' wr L' f h1
    unfold floorOf
    rw [h1.cells.2.2.2.1]
    simp [intOf]
  have HFL := hid hfloor
  have hmx := h.ok.mx
  have hm4 := h.ok.m4
  have H0 := hid h
  have Hok := hid h.ok
  have Hn := hid hn
  have Hp := hid (And.intro hp hq)
  have Hc := hid (And.intro cp cq)
  have Hgl := hid (lt_of_heap h.row)
  have Hpg := hid (And.intro (fun e : pb = g => hp (e ▸ h.sg)) (fun e : qb = g => hq (e ▸ h.sg)))
  clear hfloor hn hp hq cp cq h
  go_enter Try.func35, Try.ntmps35
  go_wp2_with fail
  go_loopw [] (fun wr => ∃ (f : Nat) (L' : Value) (S' : Nat → Prop), Hid (f ≤ d.floor ∧ min d.floor n ≤ f) ∧ Hid (DkAt B S' wr g (.slice AF d.now.length cF) L' { d with floor := f } e) ∧ Hid (Stp S S' w wr)) (fun wr => floorOf wr g)
  case atStart => exact ⟨d.floor, L, S, ⟨Nat.le_refl _, Nat.min_le_left _ _⟩, H0, Stp.refl S w⟩
  case round =>
    obtain ⟨f, L', S', hf, hD, hS⟩ := hrel
    have cp := hS.out.but.cell Hc.out.1 Hp.out.1
    have cq := hS.out.but.cell Hc.out.2 Hp.out.2
    have hp' : ¬ S' pb := fun h9 => by rcases hS.out.new _ h9 with h8 | h8; exact Hp.out.1 h8; have := lt_of_cell Hc.out.1; simp at this; omega
    have hq' : ¬ S' qb := fun h9 => by rcases hS.out.new _ h9 with h8 | h8; exact Hp.out.2 h8; have := lt_of_cell Hc.out.2; simp at this; omega
    have HP' := hid (And.intro hp' hq')
    clear hp' hq'
    by_cases hlt : n < f
    · obtain ⟨f, rfl⟩ : ∃ k, f = k + 1 := ⟨f - 1, by omega⟩
      have hfo : f + 1 ≤ d.old.length := hD.out.ok.fo
      have hfn : f + 1 ≤ d.now.length := hD.out.ok.fn
      obtain ⟨_, _, c2, c3, c4, _, _, _, _⟩ := hD.out.cells
      obtain ⟨AL, cL, hLe⟩ := own_sl hD.out.ll
      subst hLe
      obtain ⟨ad, had, hF1⟩ := (own_isBB hD.out.ff (by show d.now.length ≤ _; omega)).elim fun A9 h9 => by
        obtain ⟨c9, e9, h8⟩ := h9
        cases e9
        exact h8.lies (by show 0 < d.now.length; omega)
      obtain ⟨gF, hgF⟩ : ∃ gF, ad = ⟨gF, 0, none⟩ := by
        rcases hD.out.ff.2 with ⟨h9, _⟩ | ⟨q, cap, cur, hv, _⟩
        · rw [had] at h9; cases h9
        · rw [had] at hv; cases hv; exact ⟨q, rfl⟩
      subst had hgF
      have cx := hF1 f (by show f < d.now.length; omega)
      rw [Addr.add_lit, Nat.zero_add] at cx
      have hx : ∀ h : f < d.old.length, d.old[f] = d.now[f]'(by omega) := by
        intro h9
        have hs : d.now.take (f + 1) = d.old.take (f + 1) := hD.out.ok.same
        have h1 : (d.now.take (f + 1))[f]? = (d.old.take (f + 1))[f]? := by rw [hs]
        rw [List.getElem?_take_of_lt (by omega), List.getElem?_take_of_lt (by omega), List.getElem?_eq_getElem (by omega), List.getElem?_eq_getElem h9] at h1
        exact (Option.some.inj h1).symm
      obtain ⟨x, hxe⟩ : ∃ x, x = d.now[f]'(by omega) := ⟨_, rfl⟩
      have cx1 : wr.cell? ⟨gF, f, none⟩ = some (.int .u8 (x.toNat : Int)) := by rw [hxe]; exact cx
      rw [← hxe] at hx
      have Hx := hid hx
      have hgFg : gF ≠ g := own_gne hD.out.ff hD.out.row (by decide) gF rfl
      obtain ⟨r, hr⟩ : ∃ r, r = f + 1 := ⟨_, rfl⟩
      have hrz : (r : Int) ≤ 4194305 := by omega
      have hlz : (n : Int) < (r : Int) := by omega
      have hfz : (f : Int) ≤ 4194304 := by omega
      have hfl : (f : Int) < (d.now.length : Int) := by omega
      have e1 : IntKind.i64.wrap ((r : Int) - 1) = (f : Int) := by rw [IntWalk.i64_in _ (by omega)]; omega
      have hfl2 : f < d.now.length := by omega
      have e2 : IntKind.i64.wrap (f : Int) = (f : Int) := IntWalk.i64_in _ (by omega)
      have Hr := hid hr
      have Hmw := hid (HFL.out _ _ _ _ hD.out)
      have hne := Hpg.out.1
      have hnq := Hpg.out.2
      dsimp only at c3 c2 c4
      have c3 : wr.cell? ⟨g, 3, none⟩ = some (.int .i64 (r : Nat)) := by rw [hr]; exact c3
      clear cx hF1 hx hxe hfo hfn hr
      go_wp2_with fail
      go_quiet (fail)
      go_wp2_with fail
      obtain ⟨w1, hw1⟩ : ∃ w1, w1 = wr.drewN nq := ⟨_, rfl⟩
      have hcw : ∀ p, w1.cell? p = wr.cell? p := by rw [hw1]; intro p; rfl
      have HD1 : Hid (DkAt B S' w1 g (.slice (some ⟨gF, 0, none⟩) d.now.length cF) (.slice AL (d.old.length - (f + 1)) cL) { d with floor := f + 1 } e ∧ Stp S S' w w1) := by
        subst hw1; exact ⟨hD.out.drewN _, hS.out.but.drewN _, hS.out.new⟩
      rw [← hw1]
      rw [← hcw] at cp cq c2 c3 c4 cx1
      have hlen : ((d.old.drop (f + 1)).reverse).length = d.old.length - (f + 1) := by simp
      have hold : d.old.length ≤ 4194304 := by have := Hok.out.mo; omega
      have hba : Below w1.heap.size w1 (w1.alloc (.cells #[.int .u8 (x.toNat : Int)] 5)) := (Below.refl _ w1).alloc (Nat.le_refl _) _
      have HA : Hid (DkAt B S' (w1.alloc (.cells #[.int .u8 (x.toNat : Int)] 5)).drew g (.slice (some ⟨gF, 0, none⟩) d.now.length cF) (.slice AL (d.old.length - (f + 1)) cL) { d with floor := f + 1 } e ∧ Stp S S' w (w1.alloc (.cells #[.int .u8 (x.toNat : Int)] 5)).drew ∧ IsB (w1.alloc (.cells #[.int .u8 (x.toNat : Int)] 5)).drew (some ⟨w1.heap.size, 0, none⟩) 1 1 [x]) :=
        ⟨(HD1.out.1.below hba).drew, ⟨(HD1.out.2.but.trans (.of_below hba) (S' := S) (fun i hi => .inl hi)).drew, HD1.out.2.new⟩, (one_isB w1 x _ rfl).drewN 1⟩
      have H5 : Hid (∀ (W : World) (v : Value), Apd (w1.alloc (.cells #[.int .u8 (x.toNat : Int)] 5)).drew W (.slice AL (d.old.length - (f + 1)) cL) v (d.old.length - (f + 1) + 1) (((d.old.drop (f + 1)).reverse ++ [x]).map bv) →
          (W.cell? ⟨pb, 0, none⟩ = some (.pointer (some ⟨g, 0, none⟩)) ∧ W.cell? ⟨gF, f, none⟩ = some (.int .u8 (x.toNat : Int)) ∧ W.heap[g]? = some (.cells (dcells g (.slice (some ⟨gF, 0, none⟩) d.now.length cF) (.slice AL (d.old.length - (f + 1)) cL) { d with floor := f + 1 } e) 32 (0, 0)) ∧ W.cell? ⟨g, 3, none⟩ = some (.int .i64 (r : Nat)) ∧ (∀ u, (W.setCell ⟨g, 4, none⟩ u).drew.cell? ⟨g, 3, none⟩ = some (.int .i64 (r : Nat))) ∧ W.cell? ⟨g, 4, none⟩ = some (.slice AL (d.old.length - (f + 1)) cL) ∧ W.frozen? ⟨g, 4, none⟩ = false)) := by
        intro W v ha
        have hL := own_gne HA.out.1.ll HA.out.1.row (by decide)
        have hgL : some g ≠ (Value.slice AL (d.old.length - (f + 1)) cL).ownBlock := fun e => hL g e.symm rfl
        have hrw := (ha.grown.block g (lt_of_heap HA.out.1.row) hgL).trans HA.out.1.row
        rw [Hr.out]
        refine ⟨?_, ?_, hrw, row_cell hrw 3, fun u => keep_off hrw rfl (by decide), row_cell hrw 4, row_free hrw 4⟩
        · exact ha.grown.cell (keep_alloc cp) (fun e => HP'.out.1 (HD1.out.1.sl _ e.symm))
        · exact ha.grown.cell (keep_alloc cx1) (fun e => HD1.out.1.ap.swap _ e.symm rfl)
      have c4a : (w1.alloc (.cells #[.int .u8 (x.toNat : Int)] 5)).drew.cell? ⟨g, 4, none⟩ = some (.slice AL (d.old.length - (f + 1)) cL) := keep_alloc c4
      clear hw1 hcw hD hS H0 hba cq hlz
      refine wp_region_held_drew (S := (fun w' => w'.cell? ⟨pb, 0, none⟩ = some (.pointer (some ⟨g, 0, none⟩)) ∧ w'.cell? ⟨g, 2, none⟩ = some (.slice (some ⟨gF, 0, none⟩) d.now.length cF) ∧ w'.cell? ⟨g, 3, none⟩ = some (.int .i64 (r : Nat)) ∧ w'.cell? ⟨gF, f, none⟩ = some (.int .u8 (x.toNat : Int)))) (by kernel_rfl) ⟨cp, c2, c3, cx1⟩ (fun hH => ?_)
      refine wpAnyH_take (i := 0) (oi := ⟨some 16, _, _, _, _, _⟩) (v := .pointer (some ⟨g, 0, none⟩)) rfl (by kernel_rfl) (by kernel_rfl) (by kernel_rfl) (fun _ _ _ h => h) (Or.inl ⟨by rfl, by intro w hSw; go_simp⟩) hH ?_
      try simp only [Act.put, List.setIfInBounds_toArray, List.set_cons_zero, List.set_cons_succ]
      refine wpAnyH_take (i := 1) (oi := ⟨some 17, _, _, _, _, _⟩) (v := .pointer (some ⟨g, 0, none⟩)) rfl (by kernel_rfl) (by kernel_rfl) (by kernel_rfl) (fun _ _ _ h => h) (Or.inl ⟨by rfl, by intro w hSw; go_simp⟩) hH ?_
      try simp only [Act.put, List.setIfInBounds_toArray, List.set_cons_zero, List.set_cons_succ]
      refine wpAnyH_take (i := 5) (oi := ⟨some 21, _, _, _, _, _⟩) (v := .pointer (some ⟨g, 0, none⟩)) rfl (by kernel_rfl) (by kernel_rfl) (by kernel_rfl) (fun _ _ _ h => h) (Or.inl ⟨by rfl, by intro w hSw; go_simp⟩) hH ?_
      try simp only [Act.put, List.setIfInBounds_toArray, List.set_cons_zero, List.set_cons_succ]
      refine wpAnyH_take (i := 9) (oi := ⟨some 25, _, _, _, _, _⟩) (v := .pointer (some ⟨g, 0, none⟩)) rfl (by kernel_rfl) (by kernel_rfl) (by kernel_rfl) (fun _ _ _ h => h) (Or.inl ⟨by rfl, by intro w hSw; go_simp⟩) hH ?_
      try simp only [Act.put, List.setIfInBounds_toArray, List.set_cons_zero, List.set_cons_succ]
      refine wpAnyH_take (i := 2) (oi := ⟨some 18, _, _, _, _, _⟩) (v := .pointer (some ⟨g, 0, none⟩)) rfl (by kernel_rfl) (by kernel_rfl) (by kernel_rfl) (fun _ _ _ h => h) (Or.inl ⟨by rfl, by intro w hSw; go_simp⟩) hH ?_
      try simp only [Act.put, List.setIfInBounds_toArray, List.set_cons_zero, List.set_cons_succ]
      refine wpAnyH_take (i := 3) (oi := ⟨some 19, _, _, _, _, _⟩) (v := .pointer (some ⟨g, 4, none⟩)) rfl (by kernel_rfl) (by kernel_rfl) (by kernel_rfl) (fun _ _ _ h => h) (Or.inl ⟨by rfl, by intro w hSw; go_simp⟩) hH ?_
      try simp only [Act.put, List.setIfInBounds_toArray, List.set_cons_zero, List.set_cons_succ]
      refine wpAnyH_take (i := 6) (oi := ⟨some 22, _, _, _, _, _⟩) (v := .pointer (some ⟨g, 0, none⟩)) rfl (by kernel_rfl) (by kernel_rfl) (by kernel_rfl) (fun _ _ _ h => h) (Or.inl ⟨by rfl, by intro w hSw; go_simp⟩) hH ?_
      try simp only [Act.put, List.setIfInBounds_toArray, List.set_cons_zero, List.set_cons_succ]
      refine wpAnyH_take (i := 7) (oi := ⟨some 23, _, _, _, _, _⟩) (v := .pointer (some ⟨g, 2, none⟩)) rfl (by kernel_rfl) (by kernel_rfl) (by kernel_rfl) (fun _ _ _ h => h) (Or.inl ⟨by rfl, by intro w hSw; go_simp⟩) hH ?_
      try simp only [Act.put, List.setIfInBounds_toArray, List.set_cons_zero, List.set_cons_succ]
      refine wpAnyH_take (i := 8) (oi := ⟨some 24, _, _, _, _, _⟩) (v := .slice (some ⟨gF, 0, none⟩) d.now.length cF) rfl (by kernel_rfl) (by kernel_rfl) (by kernel_rfl) (fun _ _ _ h => h) (Or.inl ⟨by rfl, by intro w hSw; go_simp⟩) hH ?_
      try simp only [Act.put, List.setIfInBounds_toArray, List.set_cons_zero, List.set_cons_succ]
      refine wpAnyH_take (i := 10) (oi := ⟨some 26, _, _, _, _, _⟩) (v := .pointer (some ⟨g, 0, none⟩)) rfl (by kernel_rfl) (by kernel_rfl) (by kernel_rfl) (fun _ _ _ h => h) (Or.inl ⟨by rfl, by intro w hSw; go_simp⟩) hH ?_
      try simp only [Act.put, List.setIfInBounds_toArray, List.set_cons_zero, List.set_cons_succ]
      refine wpAnyH_take (i := 11) (oi := ⟨some 27, _, _, _, _, _⟩) (v := .pointer (some ⟨g, 3, none⟩)) rfl (by kernel_rfl) (by kernel_rfl) (by kernel_rfl) (fun _ _ _ h => h) (Or.inl ⟨by rfl, by intro w hSw; go_simp⟩) hH ?_
      try simp only [Act.put, List.setIfInBounds_toArray, List.set_cons_zero, List.set_cons_succ]
      refine wpAnyH_take (i := 12) (oi := ⟨some 28, _, _, _, _, _⟩) (v := .int .i64 (r : Nat)) rfl (by kernel_rfl) (by kernel_rfl) (by kernel_rfl) (fun _ _ _ h => h) (Or.inl ⟨by rfl, by intro w hSw; go_simp⟩) hH ?_
      try simp only [Act.put, List.setIfInBounds_toArray, List.set_cons_zero, List.set_cons_succ]
      refine wpAnyH_take (i := 13) (oi := ⟨some 29, _, _, _, _, _⟩) (v := .int .i64 (f : Nat)) rfl (by kernel_rfl) (by kernel_rfl) (by kernel_rfl) (fun _ _ _ h => h) (Or.inl ⟨by rfl, by intro w hSw; go_simp⟩) hH ?_
      try simp only [Act.put, List.setIfInBounds_toArray, List.set_cons_zero, List.set_cons_succ]
      refine wpAnyH_take (i := 14) (oi := ⟨some 30, _, _, _, _, _⟩) (v := .pointer (some ⟨gF, f, none⟩)) rfl (by kernel_rfl) (by kernel_rfl) (by kernel_rfl) (fun _ _ _ h => h) (Or.inl ⟨by rfl, by intro w hSw; go_simp⟩) hH ?_
      try simp only [Act.put, List.setIfInBounds_toArray, List.set_cons_zero, List.set_cons_succ]
      refine wpAnyH_take (i := 15) (oi := ⟨some 31, _, _, _, _, _⟩) (v := .int .u8 (x.toNat : Int)) rfl (by kernel_rfl) (by kernel_rfl) (by kernel_rfl) (fun _ _ _ h => h) (Or.inl ⟨by rfl, by intro w hSw; go_simp⟩) hH ?_
      try simp only [Act.put, List.setIfInBounds_toArray, List.set_cons_zero, List.set_cons_succ]
      refine wpAnyH_ready (rs := [4, 16]) (by kernel_rfl) (by simp) (AllReadyH.cons rfl (fun K hK => ?_) (AllReadyH.cons rfl (fun K hK => ?_) AllReadyH.nil))
      · go_simp
        refine hK.out _ _ hH (fun hH2 => ?_)
        clear hK K
        refine wpAnyH_ready (rs := [16]) (by kernel_rfl) (by simp) (AllReadyH.cons rfl (fun K hK => ?_) AllReadyH.nil)
        go_simp
        refine hK.out _ _ ⟨keep_alloc cp, keep_alloc c2, keep_alloc c3, keep_alloc cx1⟩ (fun hH3 => ?_)
        clear hK K
        refine wpAnyH_ready (rs := [17]) (by kernel_rfl) (by simp) (AllReadyH.cons rfl (fun K hK => ?_) AllReadyH.nil)
        refine step_append_dk rfl (.tmp 20) (.tmp 32) rfl (w1.alloc (.cells #[.int .u8 (x.toNat : Int)] 5)).drew _ (d.old.length - (f + 1)) _ rfl HA.out.1.ll (some ⟨w1.heap.size, 0, none⟩) 1 1 [x] rfl HA.out.2.2 (by omega) ?_
        intro A2 n2 W2 hA2
        obtain ⟨q1, q2, q3, q4, q5, q6, q7⟩ := H5.out _ _ hA2.out
        refine hK.out _ _ ⟨q1, row_cell q3 2, q4, q2⟩ (fun hH4 => ?_)
        clear hK K
        refine wpAnyH_take (i := 18) (oi := ⟨some 34, _, _, _, _, _⟩) (v := .pointer (some ⟨g, 0, none⟩)) rfl (by kernel_rfl) (by kernel_rfl) (by kernel_rfl) (fun _ _ _ h => h) (Or.inl ⟨by rfl, by intro w hSw; go_simp⟩) hH4 ?_
        try simp only [Act.put, List.setIfInBounds_toArray, List.set_cons_zero, List.set_cons_succ]
        refine wpAnyH_take (i := 19) (oi := ⟨some 35, _, _, _, _, _⟩) (v := .pointer (some ⟨g, 4, none⟩)) rfl (by kernel_rfl) (by kernel_rfl) (by kernel_rfl) (fun _ _ _ h => h) (Or.inl ⟨by rfl, by intro w hSw; go_simp⟩) hH4 ?_
        try simp only [Act.put, List.setIfInBounds_toArray, List.set_cons_zero, List.set_cons_succ]
        refine wpAnyH_ready (rs := [20]) (by kernel_rfl) (by simp) (AllReadyH.cons rfl (fun K hK => ?_) AllReadyH.nil)
        go_simp
        refine hK.out _ _ ⟨keep_set hne q1, keep_off q3 rfl (by decide), q5 _, keep_set hgFg q2⟩ (fun hH5 => ?_)
        clear hK K
        refine wpAnyH_done (by kernel_rfl) ?_ _
        obtain ⟨k1, k2⟩ := HA.out.1.fall Hx.out hA2.out
        have fr3 : (W2.setCell ⟨g, 4, none⟩ (.slice A2 (d.old.length - (f + 1) + 1) n2)).frozen? ⟨g, 3, none⟩ = false := row_free (row_set q3 4 _) 3
        have cr3 : (W2.setCell ⟨g, 4, none⟩ (.slice A2 (d.old.length - (f + 1) + 1) n2)).cell? ⟨g, 3, none⟩ = some (.int .i64 (r : Nat)) := q5 _
        have cp3 : (W2.setCell ⟨g, 4, none⟩ (.slice A2 (d.old.length - (f + 1) + 1) n2)).cell? ⟨pb, 0, none⟩ = some (.pointer (some ⟨g, 0, none⟩)) := keep_set hne q1
        have HK := hid (And.intro k1 (HA.out.2.1.trans k2))
        clear k1 k2 hH hH3 hH4 hH5 q1 q2 q3 q4 q5 q6 q7 hA2 H5 HA
        generalize (W2.setCell ⟨g, 4, none⟩ (.slice A2 (d.old.length - (f + 1) + 1) n2)) = W3 at fr3 cr3 cp3 HK ⊢
        go_wp2_with fail
        go_roundw
        case rel => exact ⟨f, _, _, by have := hf.out; exact ⟨by omega, by omega⟩, HK.out.1, HK.out.2⟩
        case measure =>
          rw [HFL.out _ _ _ _ HK.out.1, Hmw.out]
          omega
      · go_simp
        refine hK.out _ _ ⟨keep_alloc cp, keep_alloc c2, keep_alloc c3, keep_alloc cx1⟩ (fun hH3 => ?_)
        clear hK K
        refine wpAnyH_ready (rs := [4]) (by kernel_rfl) (by simp) (AllReadyH.cons rfl (fun K hK => ?_) AllReadyH.nil)
        go_simp
        refine hK.out _ _ hH3 (fun hH2 => ?_)
        clear hK K
        refine wpAnyH_ready (rs := [17]) (by kernel_rfl) (by simp) (AllReadyH.cons rfl (fun K hK => ?_) AllReadyH.nil)
        refine step_append_dk rfl (.tmp 20) (.tmp 32) rfl (w1.alloc (.cells #[.int .u8 (x.toNat : Int)] 5)).drew _ (d.old.length - (f + 1)) _ rfl HA.out.1.ll (some ⟨w1.heap.size, 0, none⟩) 1 1 [x] rfl HA.out.2.2 (by omega) ?_
        intro A2 n2 W2 hA2
        obtain ⟨q1, q2, q3, q4, q5, q6, q7⟩ := H5.out _ _ hA2.out
        refine hK.out _ _ ⟨q1, row_cell q3 2, q4, q2⟩ (fun hH4 => ?_)
        clear hK K
        refine wpAnyH_take (i := 18) (oi := ⟨some 34, _, _, _, _, _⟩) (v := .pointer (some ⟨g, 0, none⟩)) rfl (by kernel_rfl) (by kernel_rfl) (by kernel_rfl) (fun _ _ _ h => h) (Or.inl ⟨by rfl, by intro w hSw; go_simp⟩) hH4 ?_
        try simp only [Act.put, List.setIfInBounds_toArray, List.set_cons_zero, List.set_cons_succ]
        refine wpAnyH_take (i := 19) (oi := ⟨some 35, _, _, _, _, _⟩) (v := .pointer (some ⟨g, 4, none⟩)) rfl (by kernel_rfl) (by kernel_rfl) (by kernel_rfl) (fun _ _ _ h => h) (Or.inl ⟨by rfl, by intro w hSw; go_simp⟩) hH4 ?_
        try simp only [Act.put, List.setIfInBounds_toArray, List.set_cons_zero, List.set_cons_succ]
        refine wpAnyH_ready (rs := [20]) (by kernel_rfl) (by simp) (AllReadyH.cons rfl (fun K hK => ?_) AllReadyH.nil)
        go_simp
        refine hK.out _ _ ⟨keep_set hne q1, keep_off q3 rfl (by decide), q5 _, keep_set hgFg q2⟩ (fun hH5 => ?_)
        clear hK K
        refine wpAnyH_done (by kernel_rfl) ?_ _
        obtain ⟨k1, k2⟩ := HA.out.1.fall Hx.out hA2.out
        have fr3 : (W2.setCell ⟨g, 4, none⟩ (.slice A2 (d.old.length - (f + 1) + 1) n2)).frozen? ⟨g, 3, none⟩ = false := row_free (row_set q3 4 _) 3
        have cr3 : (W2.setCell ⟨g, 4, none⟩ (.slice A2 (d.old.length - (f + 1) + 1) n2)).cell? ⟨g, 3, none⟩ = some (.int .i64 (r : Nat)) := q5 _
        have cp3 : (W2.setCell ⟨g, 4, none⟩ (.slice A2 (d.old.length - (f + 1) + 1) n2)).cell? ⟨pb, 0, none⟩ = some (.pointer (some ⟨g, 0, none⟩)) := keep_set hne q1
        have HK := hid (And.intro k1 (HA.out.2.1.trans k2))
        clear k1 k2 hH hH3 hH4 hH5 q1 q2 q3 q4 q5 q6 q7 hA2 H5 HA
        generalize (W2.setCell ⟨g, 4, none⟩ (.slice A2 (d.old.length - (f + 1) + 1) n2)) = W3 at fr3 cr3 cp3 HK ⊢
        go_wp2_with fail
        go_roundw
        case rel => exact ⟨f, _, _, by have := hf.out; exact ⟨by omega, by omega⟩, HK.out.1, HK.out.2⟩
        case measure =>
          rw [HFL.out _ _ _ _ HK.out.1, Hmw.out]
          omega
    · have c3 := hD.out.cells.2.2.2.1
      have c2 := hD.out.cells.2.2.1
      have hl1 : ¬ ((n : Int) < (f : Int)) := by omega
      have hcut := slice_cut AF d.now.length cF n (by have := hD.out.ff; obtain ⟨A9, c9, e9, h9, _⟩ := own_slice this; cases e9; have h10 : d.now.length ≤ cF := h9; have := Hn.out; omega)
      have hfe : f = min d.floor n := by have := hf.out; omega
      have Hfe := hid hfe
      clear hfe hlt
      have hne := Hpg.out.1
      have hnq := Hpg.out.2
      dsimp only at c3
      go_wp2_with fail
      go_quiet (fail)
      go_wp2_with fail
      obtain ⟨w1, hw1⟩ : ∃ w1, w1 = wr.drewN nq := ⟨_, rfl⟩
      have hcw : ∀ p, w1.cell? p = wr.cell? p := by rw [hw1]; intro p; rfl
      have HD1 : Hid (DkAt B S' w1.drew g (.slice AF d.now.length cF) L' { d with floor := f } e ∧ Stp S S' w w1.drew) := by
        subst hw1; exact ⟨(hD.out.drewN _).drew, hS.out.but.drewN _ |>.drew, hS.out.new⟩
      rw [← hw1]
      rw [← hcw] at cp cq c2 c3
      have f2 := row_free HD1.out.1.row 2
      clear hw1 hcw hD hS c3 H0
      refine wp_region_held_drew (S := (fun w' => w'.cell? ⟨pb, 0, none⟩ = some (.pointer (some ⟨g, 0, none⟩)) ∧ w'.cell? ⟨qb, 0, none⟩ = some (.int .i64 (n : Nat)))) (by kernel_rfl) ⟨cp, cq⟩ (fun hH => ?_)
      refine wpAnyH_take (i := 0) (oi := ⟨some 36, _, _, _, _, _⟩) (v := .pointer (some ⟨g, 0, none⟩)) rfl (by kernel_rfl) (by kernel_rfl) (by kernel_rfl) (fun _ _ _ h => h) (Or.inl ⟨by rfl, by intro w hSw; go_simp⟩) hH ?_
      try simp only [Act.put, List.setIfInBounds_toArray, List.set_cons_zero, List.set_cons_succ]
      refine wpAnyH_take (i := 1) (oi := ⟨some 37, _, _, _, _, _⟩) (v := .pointer (some ⟨g, 0, none⟩)) rfl (by kernel_rfl) (by kernel_rfl) (by kernel_rfl) (fun _ _ _ h => h) (Or.inl ⟨by rfl, by intro w hSw; go_simp⟩) hH ?_
      try simp only [Act.put, List.setIfInBounds_toArray, List.set_cons_zero, List.set_cons_succ]
      refine wpAnyH_take (i := 2) (oi := ⟨some 38, _, _, _, _, _⟩) (v := .pointer (some ⟨g, 0, none⟩)) rfl (by kernel_rfl) (by kernel_rfl) (by kernel_rfl) (fun _ _ _ h => h) (Or.inl ⟨by rfl, by intro w hSw; go_simp⟩) hH ?_
      try simp only [Act.put, List.setIfInBounds_toArray, List.set_cons_zero, List.set_cons_succ]
      refine wpAnyH_take (i := 3) (oi := ⟨some 39, _, _, _, _, _⟩) (v := .pointer (some ⟨g, 2, none⟩)) rfl (by kernel_rfl) (by kernel_rfl) (by kernel_rfl) (fun _ _ _ h => h) (Or.inl ⟨by rfl, by intro w hSw; go_simp⟩) hH ?_
      try simp only [Act.put, List.setIfInBounds_toArray, List.set_cons_zero, List.set_cons_succ]
      refine wpAnyH_take (i := 5) (oi := ⟨some 41, _, _, _, _, _⟩) (v := .int .i64 (n : Nat)) rfl (by kernel_rfl) (by kernel_rfl) (by kernel_rfl) (fun _ _ _ h => h) (Or.inl ⟨by rfl, by intro w hSw; go_simp⟩) hH ?_
      try simp only [Act.put, List.setIfInBounds_toArray, List.set_cons_zero, List.set_cons_succ]
      refine wpAnyH_ready (rs := [4]) (by kernel_rfl) (by simp) (AllReadyH.cons rfl (fun K hK => ?_) AllReadyH.nil)
      go_simp
      refine hK.out _ _ hH (fun hH2 => ?_)
      clear hK K
      refine wpAnyH_take (i := 6) (oi := ⟨some 42, _, _, _, _, _⟩) (v := .slice AF n cF) rfl (by kernel_rfl) (by kernel_rfl) (by kernel_rfl) (fun _ _ _ h => h) (Or.inl ⟨by rfl, by intro w hSw; go_simp⟩) hH2 ?_
      try simp only [Act.put, List.setIfInBounds_toArray, List.set_cons_zero, List.set_cons_succ]
      refine wpAnyH_take (i := 7) (oi := ⟨some 43, _, _, _, _, _⟩) (v := .pointer (some ⟨g, 0, none⟩)) rfl (by kernel_rfl) (by kernel_rfl) (by kernel_rfl) (fun _ _ _ h => h) (Or.inl ⟨by rfl, by intro w hSw; go_simp⟩) hH2 ?_
      try simp only [Act.put, List.setIfInBounds_toArray, List.set_cons_zero, List.set_cons_succ]
      refine wpAnyH_take (i := 8) (oi := ⟨some 44, _, _, _, _, _⟩) (v := .pointer (some ⟨g, 2, none⟩)) rfl (by kernel_rfl) (by kernel_rfl) (by kernel_rfl) (fun _ _ _ h => h) (Or.inl ⟨by rfl, by intro w hSw; go_simp⟩) hH2 ?_
      try simp only [Act.put, List.setIfInBounds_toArray, List.set_cons_zero, List.set_cons_succ]
      refine wpAnyH_ready (rs := [9]) (by kernel_rfl) (by simp) (AllReadyH.cons rfl (fun K hK => ?_) AllReadyH.nil)
      go_simp
      refine hK.out _ _ ⟨keep_set hne cp, keep_set hnq cq⟩ (fun hH3 => ?_)
      clear hK K hH hH2 hH3
      refine wpAnyH_done (by kernel_rfl) ?_ _
      go_wp2_with fail
      go_ret
      have k1 := DkAt.cut (d := { d with floor := f }) HD1.out.1 Hn.out (by have := Hfe.out; show f ≤ n; omega)
      rw [Hfe.out] at k1
      exact ⟨rfl, _, _, _, k1.1, HD1.out.2.trans (.of_but k1.2)⟩
end Go.Proofs.Ytpeepohiajmhcaa
/-
  The contract of Truncate.
-/
namespace Go.Proofs.Ytpeepohiajmhcaa
open Go.RowKit

theorem trunc_of (d : Dk) (n : Nat) (hn : n ≤ d.now.length) (h : d.op.2 = 0) : d.trunc n = ({ d.op.1 with now := d.op.1.now.take n, floor := min d.op.1.floor n }, 0) := by
  obtain ⟨e1, _, e3, _⟩ := op_now d
  unfold Dk.trunc
  rw [if_neg (by omega), if_neg (by simp [h]), e1, e3]
theorem trunc_no (d : Dk) (n : Nat) (hn : n ≤ d.now.length) (h : d.op.2 ≠ 0) : d.trunc n = d.op := by
  unfold Dk.trunc
  rw [if_neg (by omega), if_pos h]
set_option maxRecDepth 10000 in
set_option maxHeartbeats 1000000 in
theorem Truncate_bad {B : Nat} {S : Nat → Prop} {w : World} {g : Nat} {F L : Value} {d : Dk} {e : Int} (h : DkAt B S w g F L d e) (n : Int) (hb : ¬ (0 ≤ n ∧ n ≤ (d.now.length : Int))) :
    Calls Try.prog 15 #[.pointer (some ⟨g, 0, none⟩), .int .i64 n] w fun r w' => r = .returned (.int .i64 2) ∧ DkAt B S w' g F L d e ∧ But S w w' := by
  obtain ⟨w0, hw0, hb0, ca, cb, hs0⟩ := two_new (w := w) (.pointer (some ⟨g, 0, none⟩)) (.int .i64 n) 22 3
  have h0 := h.below hb0
  have HM := hid (made_any h0)
  have b0 : But S w w0 := .of_below hb0
  have H0 := hid (And.intro h0 b0)
  obtain ⟨AF, cF, rfl⟩ := own_sl h.ff
  have c2 := h0.cells.2.2.1
  by_cases h1 : n < 0
  · have d1 : decide (n < 0) = true := by simpa using h1
    subst hw0
    clear h hb0 h0 b0 hb
    go_enter Try.func15, Try.ntmps15
    go_wp2_with (go_at_call 32; refine HM.out.mono ?_; rintro r w' ⟨rfl, rfl⟩)
    go_quiet (fail)
    go_wp2_with fail
    go_ret
    exact ⟨rfl, H0.out.1.drewN _, H0.out.2.drewN _⟩
  · have d1 : decide (n < 0) = false := by simpa using h1
    have d3 : decide ((d.now.length : Int) < n) = true := by rw [decide_eq_true_iff]; omega
    subst hw0
    clear h hb0 h0 b0 hb
    go_enter Try.func15, Try.ntmps15
    go_wp2_with (go_at_call 32; refine HM.out.mono ?_; rintro r w' ⟨rfl, rfl⟩)
    go_quiet (fail)
    go_wp2_with fail
    go_ret
    exact ⟨rfl, H0.out.1.drewN _, H0.out.2.drewN _⟩
set_option maxRecDepth 10000 in
set_option maxHeartbeats 1000000 in
theorem Truncate_any {B : Nat} {S : Nat → Prop} {w : World} {g : Nat} {F L : Value} {d : Dk} {e : Int} (h : DkAt B S w g F L d e) (n : Nat) (hn : n ≤ d.now.length) :
    Calls Try.prog 15 #[.pointer (some ⟨g, 0, none⟩), .int .i64 (n : Nat)] w fun r w' => r = .returned (.int .i64 ((d.trunc n).2 : Nat)) ∧ ∃ F' L' S', DkAt B S' w' g F' L' (d.trunc n).1 e ∧ Stp S S' w w' := by
  obtain ⟨w0, hw0, hb0, ca, cb, hs0⟩ := two_new (w := w) (.pointer (some ⟨g, 0, none⟩)) (.int .i64 (n : Nat)) 22 3
  have h0 := h.below hb0
  have HM := hid (made_any h0)
  have b0 : But S w w0 := .of_below hb0
  obtain ⟨AF, cF, rfl⟩ := own_sl h.ff
  have c2 := h0.cells.2.2.1
  have d1 : decide ((n : Int) < 0) = false := by simp
  have d3 : decide ((d.now.length : Int) < (n : Int)) = false := by rw [decide_eq_false_iff_not]; omega
  have d4 : decide (d.now.length < n) = false := by rw [decide_eq_false_iff_not]; omega
  have d5 : ¬ d.now.length < n := by omega
  have hS : ∀ i, i = g → S i ∨ w.heap.size ≤ i := by rintro i rfl; exact .inl h.sg
  have hgl := lt_of_heap h.row
  have HO : Hid (∀ k, Calls Try.prog 34 #[.pointer (some ⟨g, 0, none⟩), .func (.func 35) #[] #[.pointer (some ⟨w.heap.size, 0, none⟩), .pointer (some ⟨w.heap.size + 1, 0, none⟩)]] (w0.drewN k) fun r w' => r = .returned (.int .i64 ((d.trunc n).2 : Nat)) ∧ ∃ F' L' S', DkAt B S' w' g F' L' (d.trunc n).1 e ∧ Stp S S' w w') := by
    intro k
    by_cases hop : d.op.2 = 0
    · have hnow : d.op.1.now = d.now := (op_now d).1
      refine operate_yes 35 _ (h0.drewN k) hop (enters_of Try.func35 (by kernel_rfl) rfl) fun w1 h1 b1 => ?_
      have ca1 := b1.cell (show (w0.drewN k).cell? _ = _ from ca) (by show ¬ w.heap.size = g; omega)
      have cb1 := b1.cell (show (w0.drewN k).cell? _ = _ from cb) (by show ¬ w.heap.size + 1 = g; omega)
      rw [trunc_of d n hn hop]
      refine (trunc_clo _ _ n h1 ca1 cb1 (fun hs => by have := (h.lt _ hs).2; omega) (fun hs => by have := (h.lt _ hs).2; omega) (by rw [hnow]; exact hn)).mono ?_
      rintro r w2 ⟨rfl, F', L', S', h2, s2⟩
      exact ⟨⟨_, rfl⟩, rfl, F', L', S', h2, (Stp.of_but ((b0.drewN k).trans b1 hS)).trans s2⟩
    · rw [trunc_no d n hn hop]
      refine (operate_no 35 _ (h0.drewN k) hop).mono ?_
      rintro r w2 ⟨rfl, h2, b2⟩
      exact ⟨rfl, _, _, S, h2, .of_but ((b0.drewN k).trans b2 hS)⟩
  subst hw0
  clear h hb0 h0 b0 hn hS hgl
  go_enter Try.func15, Try.ntmps15
  go_wp2_with (go_at_call 32; refine HM.out.mono ?_; rintro r w' ⟨rfl, rfl⟩)
  go_quiet (fail)
  go_wp2_with (go_at_call 34; go_loud (refine (HO.out _).mono ?_; rintro r w2 ⟨rfl, h2⟩; have H2 := hid h2; clear h2))
  go_ret
  exact ⟨rfl, H2.out⟩
end Go.Proofs.Ytpeepohiajmhcaa
/-
  The contract of Copy.
-/
namespace Go.Proofs.Ytpeepohiajmhcaa
open Go.RowKit

theorem below_at {w w1 : World} {k : Nat} (hz : w.heap.size = k) (h : Below w.drew.heap.size w.drew w1) : Below k w w1 := by subst hz; exact ⟨h.os, h.tape, h.output, h.size, h.block⟩
theorem own_at {w w1 : World} {k n : Nat} {v : Value} {xs : List Value} (hz : w.heap.size = k) (h : w1.ownsRow w.drew.heap.size 5 1 v n xs) : w1.ownsRow k 5 1 v n xs := by subst hz; exact h
theorem below_up {w w1 : World} {k : Nat} (hz : w.heap.size = k) (h : Below k w w1) : Below w.heap.size w w1 := by subst hz; exact h
theorem kset {w : World} {g k b j : Nat} {u v : Value} (hne : b ≠ g) (h : w.cell? ⟨b, j, none⟩ = some v) : (w.setCell ⟨g, k, none⟩ u).cell? ⟨b, j, none⟩ = some v :=
  (World.cell?_of_block (Below.heap_setCell w ⟨g, k, none⟩ u b hne)).trans h
theorem copy_row {w W1 W2 : World} {cs : Array Value} (b1 : Below (w.heap.size + 1) (w.alloc (.cells cs 32)) W1) (b2 : Below W1.heap.size W1 W2) : W2.heap[w.heap.size]? = some (.cells cs 32 (0, 0)) := by
  have hz : (w.alloc (.cells cs 32)).heap.size = w.heap.size + 1 := World.size_alloc _ _
  have s1 := b1.size
  exact (b2.block w.heap.size (by omega)).trans ((b1.block w.heap.size (by omega)).trans (heap_alloc_new w (.cells cs 32)))
/-- A copied struct, its file and its old file's end turned to new lists. -/
theorem copy_at {B : Nat} {S : Nat → Prop} {w W1 W2 : World} {g : Nat} {F L F2 L2 : Value} {d : Dk} {e : Int} (h : DkAt B S w g F L d e)
    (b1 : Below (w.heap.size + 1) (w.alloc (.cells (dcells g F L d e) 32)) W1) (o1 : W1.ownsRow (w.heap.size + 1) 5 1 F2 d.now.length (d.now.map bv))
    (b2 : Below W1.heap.size W1 W2) (o2 : W2.ownsRow W1.heap.size 5 1 L2 (d.old.length - d.floor) ((d.old.drop d.floor).reverse.map bv)) :
    DkAt w.heap.size (fun i => w.heap.size ≤ i ∧ i < W2.heap.size) (((W2.setCell ⟨w.heap.size, 0, none⟩ (.pointer (some ⟨w.heap.size, 0, none⟩))).setCell ⟨w.heap.size, 2, none⟩ F2).setCell ⟨w.heap.size, 4, none⟩ L2) w.heap.size F2 L2 d e ∧
      Below w.heap.size w (((W2.setCell ⟨w.heap.size, 0, none⟩ (.pointer (some ⟨w.heap.size, 0, none⟩))).setCell ⟨w.heap.size, 2, none⟩ F2).setCell ⟨w.heap.size, 4, none⟩ L2) := by
  have hz : (w.alloc (.cells (dcells g F L d e) 32)).heap.size = w.heap.size + 1 := World.size_alloc _ _
  have s1 := b1.size
  have s2 := b2.size
  rw [hz] at s1
  have r0 := heap_alloc_new w (.cells (dcells g F L d e) 32)
  have r1 := (b1.block w.heap.size (by omega)).trans r0
  have r2 : W2.heap[w.heap.size]? = some (.cells (dcells g F L d e) 32 (0, 0)) := (b2.block w.heap.size (by omega)).trans r1
  have bg : But (· = w.heap.size) W2 (((W2.setCell ⟨w.heap.size, 0, none⟩ (.pointer (some ⟨w.heap.size, 0, none⟩))).setCell ⟨w.heap.size, 2, none⟩ F2).setCell ⟨w.heap.size, 4, none⟩ L2) := (((But.refl (· = w.heap.size) W2).set _ _ (.inl rfl)).set _ _ (.inl rfl)).set _ _ (.inl rfl)
  have o1' : W2.ownsRow (w.heap.size + 1) 5 1 F2 d.now.length (d.now.map bv) := own_below o1 b2
  have e1 := own_gne o1' r2 (by decide)
  have e2 := own_gne o2 r2 (by decide)
  have b02 : Below w.heap.size w W2 := ((((Below.refl w.heap.size w).alloc (Nat.le_refl _) _).trans (b1.mono (by omega)))).trans (b2.mono (by omega))
  refine ⟨⟨?_, own_base (ownsRow_but o1' bg e1) (Nat.zero_le _), own_base (ownsRow_but o2 bg e2) (Nat.zero_le _), ?_, ⟨Nat.le_refl _, by omega⟩, ?_, ?_, ?_, h.ok, h.er, h.ae, h.fe⟩, b02.trans (bg.below (by rintro i rfl; exact Nat.le_refl _) (by omega))⟩
  · have k1 := row_set r2 0 (.pointer (some ⟨w.heap.size, 0, none⟩))
    have k2 := row_set k1 2 F2
    rw [row_set k2 4]
    rfl
  · intro k hk e9
    have := (own_lt o1 k hk).2
    have := (own_lt o2 k e9).1
    omega
  · intro k hk
    have := own_lt o1 k hk
    exact ⟨by omega, by omega⟩
  · intro k hk
    have := own_lt o2 k hk
    exact ⟨by omega, by omega⟩
  · intro i hi
    rw [World.size_setCell, World.size_setCell, World.size_setCell]
    exact hi
end Go.Proofs.Ytpeepohiajmhcaa
/-
  A drawn region within a round of a range over a function: by the plain calculus.
-/
namespace Go.Proofs.Ytpeepohiajmhcaa
open Go.RowKit Go.Shelf

theorem wpOpIn_of {P : Program} {ops : Array Oper} {Q : Exit → Act → World → Prop} {l n i : Nat} {K K' : Act → World → Prop} {a : Act} {w : World} (hlo : ¬ LetsOut Q)
    (hnd : ∀ o, ops[i]? = some o → ∀ c, o.op ≠ .defer c) (hK : ∀ a w, K a w → K' a w) (h : wpOp P ops Q i K a w) : wpOpIn (Fence.wide.inRound l) n P ops Q i K' a w := by
  unfold wpOp at h
  unfold wpOpIn
  cases ho : ops[i]? with
  | none =>
    simp only [ho] at h ⊢
    exact hK _ _ h
  | some o =>
    simp only [ho] at h ⊢
    split
    · rename_i hw
      rw [if_pos hw] at h
      rcases h with h | h
      · refine ⟨fun _ _ => trivial, ?_⟩
        rw [Oper.semAt_eq _ _ _ (hnd o ho)]
        unfold Oper.wp at h
        generalize (execOp a.eval o).run P w = r at h ⊢
        cases r with
        | ok x w' =>
          cases x with
          | value v => exact hK _ _ h
          | skip => exact hK _ _ h
          | defer d => exact hK _ _ h
          | enter f args =>
            refine ⟨fun e => (by cases e), CallsIn.inRound l (callsIn_wide.2 (Calls.mono h fun e w'' he => ?_))⟩
            cases e with
            | returned v => exact hK _ _ he
            | panicked c => exact he
            | outgrown => exact he
          | row row args =>
            refine ⟨fun e => (by cases e), fun c cs _ => ?_⟩
            obtain ⟨v, w'', r, s⟩ := h c cs
            exact ⟨v, w'', hK _ _ r, stepsIn_wide.2 s⟩
          | round l f tmps assign body => exact h.elim
          | _ => exact h.elim
        | halt x w' => cases x <;> exact h
      · exact absurd h.2 hlo
    · rename_i hw
      rw [if_neg hw] at h
      exact ⟨fun _ _ => trivial, hK _ _ h⟩
theorem wpAnyIn_of {P : Program} {ops : Array Oper} {Q : Exit → Act → World → Prop} {md : Region.Mode} {l n : Nat} (hlo : ¬ LetsOut Q) (hnd : ∀ (i : Nat) (o : Oper), ops[i]? = some o → ∀ c, o.op ≠ .defer c) :
    ∀ (fuel : Nat) (listed : Array Bool) (a : Act) (w : World), wpAny P md ops Q fuel listed a w → wpAnyIn (Fence.wide.inRound l) n P md ops Q fuel listed a w
  | 0, _, _, _, h => h
  | fuel + 1, _, _, _, h => ⟨h.1, fun i hi => wpOpIn_of hlo (hnd i) (fun _ _ hk => wpAnyIn_of hlo hnd fuel _ _ _ hk) (h.2 i hi)⟩
/-- A drawn region in a round, under a condition that holds all through. -/
theorem wpIn_round_held {ops : Array Oper} {Q : Exit → Act → World → Prop} {S : World → Prop} {l n id : Nat} {a : Act} {w : World} (hlo : ¬ LetsOut Q) (hnd : ops.all (fun o : Oper => match o.op with | .defer _ => false | _ => true) = true) (hm : Try.prog.follows .mixedOrders = true)
    (hS : S w.drew) (h : S w.drew → wpAnyH Try.prog .any ops Q S ops.size (Array.replicate ops.size false) a w.drew) : (Code.region id ops true).wpIn (Fence.wide.inRound l) n Try.prog Q a w := by
  refine wpIn_region_any hm (wpAnyIn_of hlo (fun i o ho c hc => ?_) _ _ _ _ (wpAny_of_held _ _ _ _ (h hS)))
  have h1 := Array.all_eq_true.1 hnd i (Array.getElem?_eq_some_iff.1 ho).1
  rw [(Array.getElem?_eq_some_iff.1 ho).2] at h1
  simp only [hc] at h1
  cases h1
end Go.Proofs.Ytpeepohiajmhcaa
/-
  slices.Backward: what its iterator tells, from the last byte to the first.
-/
namespace Go.Proofs.Ytpeepohiajmhcaa
open Go.RowKit Go.Shelf
attribute [local go_sem] Oper.semAt_some

/-- The first k pairs that come: place and byte, from the end. -/
def backUp (l : List UInt8) (k : Nat) : List (Nat × UInt8) := (List.range k).map (fun j => (l.length - 1 - j, l.getD (l.length - 1 - j) 0))
theorem backUp_next (l : List UInt8) (k : Nat) : backUp l k ++ [(l.length - 1 - k, l.getD (l.length - 1 - k) 0)] = backUp l (k + 1) := by simp [backUp, List.range_succ]
theorem backUp_len (l : List UInt8) (k : Nat) : (backUp l k).length = k := by simp [backUp]
theorem backUp_all (l : List UInt8) : (backUp l l.length).map (·.2) = l.reverse := by
  apply List.ext_getElem
  · simp [backUp]
  · intro i h1 h2
    simp only [backUp, List.length_map, List.length_range] at h1
    simp only [backUp, List.getElem_map, List.getElem_range, List.getElem_reverse]
    rw [List.getD_eq_getElem?_getD, List.getElem?_eq_getElem (by omega)]
    rfl
def encP (p : Nat × UInt8) : Array Value := #[.int .i64 (p.1 : Nat), .int .u8 (p.2.toNat : Nat)]
/-- What a round must keep: the variable's cell, the list's cells. -/
def KpB (bx : Nat) (A : Option Addr) (W W' : World) : Prop := W'.heap[bx]? = W.heap[bx]? ∧ ∀ ad, A = some ad → W'.heap[ad.block]? = W.heap[ad.block]?
theorem backward_stops (n bx : Nat) (A : Option Addr) (m c : Nat) (l : List UInt8) (w : World) (hn : 1 ≤ n) (hb : w.cell? ⟨bx, 0, none⟩ = some (.slice A m c)) (hl : IsB w A m c l) (hm : m ≤ 4194304) :
    SeqStopsK Fence.wide n Try.prog 60 #[.pointer (some ⟨bx, 0, none⟩)] encP (KpB bx A) (fun xs => xs = backUp l l.length) (fun _ => True) m w := by
  intro lp J Jx W hW hJ hJx hY h0
  have hlen := hl.len
  refine callsIn_of_wp Try.func60 rfl trivial ?_ rfl
  simp only [Try.ntmps60, List.size_toArray, List.length_cons, List.length_nil, Nat.reduceAdd, Nat.reduceSub, Array.replicate_succ, Array.replicate_zero, List.push_toArray, List.append_toArray, List.nil_append, List.cons_append]
  have hbW : W.cell? ⟨bx, 0, none⟩ = some (.slice A m c) := (hW.cell (lt_of_cell hb)).trans hb
  have ew : IntKind.i64.wrap ((m : Int) - 1) = (m : Int) - 1 := IntWalk.i64_in _ (by omega)
  gi_wp2
  gi_loopw [3] (fun p wr => ∃ k : Nat, k ≤ m ∧ p = .int .i64 ((m : Int) - 1 - (k : Int)) ∧ Hid (J (backUp l k) wr ∧ KpB bx A W wr)) (fun p _ => (intOf p + 1).toNat)
  case atStart => exact ⟨0, Nat.zero_le _, by simp, h0, rfl, fun _ _ => rfl⟩
  case round =>
    obtain ⟨k, hk, rfl, hst⟩ := hrel
    by_cases hlt : k < m
    · obtain ⟨q, hq⟩ : ∃ q : Nat, q = m - 1 - k := ⟨_, rfl⟩
      have hqz : (m : Int) - 1 - (k : Int) = (q : Int) := by omega
      rw [hqz]
      obtain ⟨ad, rfl, hc⟩ := hl.lies (by omega)
      have hql : q < l.length := by omega
      have hadW : ad.block < w.heap.size := by have := lt_of_cell (hc q hql); rwa [block_of_add] at this
      have cb : wr.cell? ⟨bx, 0, none⟩ = some (.slice (some ad) m c) := (World.cell?_of_block hst.out.2.1).trans hbW
      have cx : wr.cell? (ad.add q) = some (.int .u8 ((l.getD q 0).toNat : Int)) := by
        refine (World.cell?_of_block (by rw [block_of_add]; exact hst.out.2.2 ad rfl)).trans ((hW.cell (by rw [block_of_add]; exact hadW)).trans ((hc q hql).trans ?_))
        rw [List.getD_eq_getElem?_getD, List.getElem?_eq_getElem hql]; rfl
      obtain ⟨fn, tmps, assign, body, hy, hR⟩ := hY (backUp l k) (q, l.getD q 0) wr hst.out.1 (by rw [backUp_len]; exact hlt)
      have hnx := backUp_next l k
      rw [hlen, ← hq] at hnx
      rw [hnx] at hR
      simp only [encP] at hy hR
      generalize (l.getD q 0).toNat = x at cx hy hR
      have hqm : (q : Int) < (m : Int) := by omega
      have eq1 : IntKind.i64.wrap ((q : Int) - 1) = (q : Int) - 1 := IntWalk.i64_in _ (by omega)
      have Hq := hid hq
      clear hc hY hnx hq hl h0 hb hbW hql hadW hqz
      gi_wp2
      refine hR.mono ?_
      rintro e W3 (⟨rfl, hJ3, hk3⟩ | ⟨rfl, hJx3⟩)
      · dsimp only
        gi_wp2
        refine ⟨⟨k + 1, by omega, by congr 1; have := Hq.out; omega, hJ3, hk3.1.trans hst.out.2.1, fun ad' e => (hk3.2 ad' e).trans (hst.out.2.2 ad' e)⟩, ?_⟩
        simp only [intOf]
        omega
      · dsimp only
        gi_wp2
        refine bodyPost_ret (results_none rfl _ _ _) rfl ?_
        exact ⟨⟨_, rfl⟩, .inr ⟨_, trivial, hJx3⟩⟩
    · obtain rfl : k = m := by omega
      gi_wp2
      go_end0
      exact ⟨⟨_, rfl⟩, .inl ⟨_, rfl, by rw [hlen]; exact hst.out.1⟩⟩
end Go.Proofs.Ytpeepohiajmhcaa
