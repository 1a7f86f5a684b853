/-
  The contract of ReadAt.
-/
import Derived.Test.YtgccjclloomfgaaApn
import Derived.Test.YtgccjclloomfgaaSlc
import Derived.Test.YtgccjclloomfgaaLod
import Derived.Deep.RegionWith
import Derived.StillTailTactics
namespace Go.Proofs.Ytgccjclloomfgaa
open Go.RowKit

set_option maxRecDepth 10000 in
set_option maxHeartbeats 400000 in
theorem read_clo {B : Nat} {S : Nat → Prop} {w : World} {g : Nat} {F L : Value} {d : Dk} {e : Int} (p q r o : Addr) (i n : Nat) (h : DkAt B S w g F L d e) (cp : w.cell? p = some (.pointer (some ⟨g, 0, none⟩))) (cq : w.cell? q = some (.int .i64 (i : Nat))) (cr : w.cell? r = some (.int .i64 (n : Nat)))
    (co : w.cell? o = some (.slice none 0 0)) (fo : w.frozen? o = false) (hl : i + n ≤ d.now.length) :
    Calls Try.prog 45 #[.pointer (some p), .pointer (some q), .pointer (some r), .pointer (some o)] w fun x w' => x = .returned (.int .i64 0) ∧ ∃ w1 A c, w1.ownsRow w.heap.size 5 1 (.slice A n c) n (((d.now.drop i).take n).map bv) ∧ Below w.heap.size w w1 ∧ w' = w1.setCell o (.slice A n c) := by
  have hmx := h.ok.mx
  have hm4 := h.ok.m4
  obtain ⟨AF, cF, rfl, hF⟩ := own_isBB h.ff (by omega)
  obtain ⟨_, _, c2, _, _, _, _, _, _⟩ := h.cells
  obtain ⟨t, ht⟩ : ∃ t, t = i + n := ⟨_, rfl⟩
  obtain ⟨A1, hs1, hI1⟩ := slice_part hF i t (by omega) (by omega)
  obtain ⟨cc, hcc⟩ : ∃ cc, cc = cF - i := ⟨_, rfl⟩
  rw [show t - i = n by omega] at hI1 hs1
  rw [← hcc] at hs1 hI1
  have HI := hid hI1.drew
  have e1 : IntKind.i64.wrap ((i : Int) + (n : Int)) = (t : Int) := by rw [IntWalk.i64_in _ (by omega)]; omega
  have ht1 : (0 : Int) ≤ (t : Int) := by omega
  have ht2 : (t : Int) ≤ 4194304 := by omega
  have H5 : Hid (∀ W, Below w.heap.size w W → W.cell? o = some (.slice none 0 0) ∧ W.frozen? o = false) := by
    intro W hb
    have ho := lt_of_cell co
    exact ⟨(hb.cell ho).trans co, (hb.frozen ho).trans fo⟩
  have hit : (i : Int) ≤ (t : Int) := by omega
  clear h hF hI1 ht hcc hl
  go_enter Try.func45, Try.ntmps45
  go_wp2_with fail
  go_still_tail 9, (by kernel_rfl)
  change wpList _ _ _ _ _ w.drew
  clear cp cq cr c2 hs1 e1
  go_wp2_with (go_at_call 43; refine (Clone_any A1 _ n cc w.drew HI.out).mono ?_; rintro x w1 ⟨v, rfl, ho1, hb1⟩; obtain ⟨A2, c3, rfl⟩ := own_sl ho1; obtain ⟨q1, q2⟩ := H5.out w1 ⟨hb1.os, hb1.tape, hb1.output, hb1.size, hb1.block⟩; have HO := hid ho1; have HB := hid hb1; clear ho1 hb1)
  go_ret
  exact ⟨rfl, w1, A2, c3, HO.out, ⟨HB.out.os, HB.out.tape, HB.out.output, HB.out.size, HB.out.block⟩, rfl⟩
theorem three_new {w : World} (x y z : Value) (t u v : TypeId) : ∃ w0, w0 = ((w.alloc (.cells #[x] t)).alloc (.cells #[y] u)).alloc (.cells #[z] v) ∧ Below w.heap.size w w0 ∧ w0.cell? ⟨w.heap.size, 0, none⟩ = some x ∧ w0.cell? ⟨w.heap.size + 1, 0, none⟩ = some y ∧ w0.cell? ⟨w.heap.size + 2, 0, none⟩ = some z ∧ w0.heap.size = w.heap.size + 3 := by
  obtain ⟨w0, h0, hb, c1, c2, hs⟩ := two_new (w := w) x y t u
  subst h0
  have b : Below (((w.alloc (.cells #[x] t)).alloc (.cells #[y] u)).heap.size) ((w.alloc (.cells #[x] t)).alloc (.cells #[y] u)) _ := (Below.refl _ _).alloc (Nat.le_refl _) (.cells #[z] v)
  refine ⟨_, rfl, hb.alloc hb.size _, ?_, ?_, ?_, by simp⟩
  · exact (b.cell (p := ⟨w.heap.size, 0, none⟩) (by rw [hs]; show w.heap.size < _; omega)).trans c1
  · exact (b.cell (p := ⟨w.heap.size + 1, 0, none⟩) (by rw [hs]; show w.heap.size + 1 < _; omega)).trans c2
  · have := row_cell (heap_alloc_new ((w.alloc (.cells #[x] t)).alloc (.cells #[y] u)) (.cells #[z] v)) 0
    rw [hs] at this
    exact this
def RdOk (d : Dk) (i n : Int) : Prop := 0 ≤ i ∧ 0 ≤ n ∧ i ≤ (d.now.length : Int) - n
set_option maxRecDepth 10000 in
set_option maxHeartbeats 1000000 in
theorem ReadAt_bad {B : Nat} {S : Nat → Prop} {w : World} {g : Nat} {F L : Value} {d : Dk} {e : Int} (h : DkAt B S w g F L d e) (i n : Int) (hb : ¬ RdOk d i n) (hi : i ≤ 9223372036854775807) (hn : n ≤ 9223372036854775807) :
    Calls Try.prog 15 #[.pointer (some ⟨g, 0, none⟩), .int .i64 i, .int .i64 n] w fun r w' => r = .returned (.tuple #[.slice none 0 0, .int .i64 2]) ∧ DkAt B S w' g F L d e ∧ But S w w' := by
  obtain ⟨w0, hw0, hb0, ca, cb, cc, hs0⟩ := three_new (w := w) (.pointer (some ⟨g, 0, none⟩)) (.int .i64 i) (.int .i64 n) 22 3 3
  have h0 := h.below hb0
  have HM := hid (made_any h0)
  have b0 : But S w w0 := .of_below hb0
  have H0 := hid (And.intro h0 b0)
  have hmx := h.ok.mx
  have hm4 := h.ok.m4
  obtain ⟨AF, cF, rfl⟩ := own_sl h.ff
  have c2 := h0.cells.2.2.1
  have hl2 : (d.now.length : Int) ≤ 4194304 := by omega
  by_cases h1 : i < 0
  · have d1 : decide (i < 0) = true := by simpa using h1
    subst hw0
    clear h hb0 h0 b0 hb
    go_enter Try.func15, Try.ntmps15
    go_wp2_with (go_at_call 39; refine HM.out.mono ?_; rintro r w' ⟨rfl, rfl⟩)
    go_quiet (fail)
    go_wp2_with fail
    go_ret2
    exact ⟨rfl, H0.out.1.drewN _, H0.out.2.drewN _⟩
  · have d1 : decide (i < 0) = false := by simpa using h1
    by_cases h2 : n < 0
    · have d2 : decide (n < 0) = true := by simpa using h2
      subst hw0
      clear h hb0 h0 b0 hb
      go_enter Try.func15, Try.ntmps15
      go_wp2_with (go_at_call 39; refine HM.out.mono ?_; rintro r w' ⟨rfl, rfl⟩)
      go_quiet (fail)
      go_wp2_with fail
      go_ret2
      exact ⟨rfl, H0.out.1.drewN _, H0.out.2.drewN _⟩
    · have d2 : decide (n < 0) = false := by simpa using h2
      obtain ⟨N, rfl⟩ : ∃ N : Nat, n = N := ⟨n.toNat, by omega⟩
      have h3 : (d.now.length : Int) - N < i := by unfold RdOk at hb; omega
      have hw : IntKind.i64.wrap ((d.now.length : Int) - (N : Int)) = (d.now.length : Int) - (N : Int) := IntWalk.i64_in _ (by omega)
      obtain ⟨q, hq⟩ : ∃ q : Int, q = (d.now.length : Int) - (N : Int) := ⟨_, rfl⟩
      have hw : IntKind.i64.wrap ((d.now.length : Int) - (N : Int)) = q := hw.trans hq.symm
      rw [← hq] at h3
      have d3 : decide (q < i) = true := by simpa using h3
      have Hq := hid hq
      subst hw0
      clear h hb0 h0 b0 hb hq
      go_enter Try.func15, Try.ntmps15
      go_wp2_with (go_at_call 39; refine HM.out.mono ?_; rintro r w' ⟨rfl, rfl⟩)
      go_quiet (fail)
      go_wp2_with fail
      go_ret2
      exact ⟨rfl, H0.out.1.drewN _, H0.out.2.drewN _⟩
set_option maxRecDepth 10000 in
set_option maxHeartbeats 1000000 in
theorem ReadAt_no {B : Nat} {S : Nat → Prop} {w : World} {g : Nat} {F L : Value} {d : Dk} {e : Int} (h : DkAt B S w g F L d e) (i n : Nat) (hb : i + n ≤ d.now.length) (hop : d.op.2 ≠ 0) :
    Calls Try.prog 15 #[.pointer (some ⟨g, 0, none⟩), .int .i64 (i : Nat), .int .i64 (n : Nat)] w fun r w' => r = .returned (.tuple #[.slice none 0 0, .int .i64 (d.op.2 : Nat)]) ∧ DkAt B S w' g F L d.op.1 e ∧ But S w w' := by
  obtain ⟨w0, hw0, hb0, ca, cb, cc, hs0⟩ := three_new (w := w) (.pointer (some ⟨g, 0, none⟩)) (.int .i64 (i : Nat)) (.int .i64 (n : Nat)) 22 3 3
  have h0 := h.below hb0
  have HM := hid (made_any h0)
  have b0 : But S w w0 := .of_below hb0
  have hmx := h.ok.mx
  have hm4 := h.ok.m4
  obtain ⟨AF, cF, rfl⟩ := own_sl h.ff
  have c2 := h0.cells.2.2.1
  have hl2 : (d.now.length : Int) ≤ 4194304 := by omega
  have d1 : decide ((i : Int) < 0) = false := by simp
  have d2 : decide ((n : Int) < 0) = false := by simp
  obtain ⟨q, hq⟩ : ∃ q : Int, q = (d.now.length : Int) - (n : Int) := ⟨_, rfl⟩
  have hw : IntKind.i64.wrap ((d.now.length : Int) - (n : Int)) = q := by rw [IntWalk.i64_in _ (by omega), hq]
  have d3 : decide (q < (i : Int)) = false := by rw [decide_eq_false_iff_not]; omega
  have HO : Hid (∀ k, Calls Try.prog 40 #[.pointer (some ⟨g, 0, none⟩), .func (.func 45) #[] #[.pointer (some ⟨w.heap.size, 0, none⟩), .pointer (some ⟨w.heap.size + 1, 0, none⟩), .pointer (some ⟨w.heap.size + 2, 0, none⟩), .pointer (some ⟨w.heap.size + 3, 0, none⟩)]] ((w0.drewN k).alloc (.cells #[.slice none 0 0] 27)) fun r w' => r = .returned (.int .i64 (d.op.2 : Nat)) ∧ DkAt B S w' g (.slice AF d.now.length cF) L d.op.1 e ∧ But S w w' ∧ w'.cell? ⟨w.heap.size + 3, 0, none⟩ = some (.slice none 0 0)) := by
    intro k
    have hb1 : Below (w0.drewN k).heap.size (w0.drewN k) ((w0.drewN k).alloc (.cells #[.slice none 0 0] 27)) := (Below.refl _ _).alloc (Nat.le_refl _) _
    have hc : ((w0.drewN k).alloc (.cells #[.slice none 0 0] 27)).cell? ⟨w.heap.size + 3, 0, none⟩ = some (.slice none 0 0) := by
      have := row_cell (heap_alloc_new (w0.drewN k) (.cells #[.slice none 0 0] 27)) 0
      rw [show (w0.drewN k).heap.size = w.heap.size + 3 from hs0] at this
      exact this
    refine (operate_no 45 _ ((h0.drewN k).below hb1) hop).mono ?_
    rintro r w2 ⟨rfl, h2, b2⟩
    have hgl := lt_of_heap h.row
    exact ⟨rfl, h2, ((b0.drewN k).trans (.of_below hb1) (S' := S) (fun i hi => .inl hi)).trans b2 (by rintro i rfl; exact .inl h.sg), b2.cell hc (by show ¬ w.heap.size + 3 = g; omega)⟩
  subst hw0
  clear h hb0 h0 b0 hb hq hmx hm4 hop
  go_enter Try.func15, Try.ntmps15
  go_wp2_with (go_at_call 39; refine HM.out.mono ?_; rintro r w' ⟨rfl, rfl⟩)
  go_quiet (fail)
  go_wp2_with (go_at_call 40; go_loud (refine (HO.out _).mono ?_; rintro r w2 ⟨rfl, h2, b2, e2⟩; have H2 := hid h2; have HB := hid b2; clear h2 b2))
  go_ret2
  exact ⟨rfl, H2.out, HB.out⟩
set_option maxRecDepth 10000 in
set_option maxHeartbeats 1000000 in
theorem ReadAt_any {B : Nat} {S : Nat → Prop} {w : World} {g : Nat} {F L : Value} {d : Dk} {e : Int} (h : DkAt B S w g F L d e) (i n : Nat) (hb : i + n ≤ d.now.length) (hop : d.op.2 = 0) :
    Calls Try.prog 15 #[.pointer (some ⟨g, 0, none⟩), .int .i64 (i : Nat), .int .i64 (n : Nat)] w fun r w' => ∃ A c, r = .returned (.tuple #[.slice A n c, .int .i64 0]) ∧ DkAt B S w' g F L d.op.1 e ∧ But S w w' ∧ w'.ownsRow w.heap.size 5 1 (.slice A n c) n (((d.now.drop i).take n).map bv) := by
  obtain ⟨w0, hw0, hb0, ca, cb, cc, hs0⟩ := three_new (w := w) (.pointer (some ⟨g, 0, none⟩)) (.int .i64 (i : Nat)) (.int .i64 (n : Nat)) 22 3 3
  have h0 := h.below hb0
  have HM := hid (made_any h0)
  have b0 : But S w w0 := .of_below hb0
  have hmx := h.ok.mx
  have hm4 := h.ok.m4
  obtain ⟨AF, cF, rfl⟩ := own_sl h.ff
  have c2 := h0.cells.2.2.1
  have hl2 : (d.now.length : Int) ≤ 4194304 := by omega
  have d1 : decide ((i : Int) < 0) = false := by simp
  have d2 : decide ((n : Int) < 0) = false := by simp
  obtain ⟨q, hq⟩ : ∃ q : Int, q = (d.now.length : Int) - (n : Int) := ⟨_, rfl⟩
  have hw : IntKind.i64.wrap ((d.now.length : Int) - (n : Int)) = q := by rw [IntWalk.i64_in _ (by omega), hq]
  have d3 : decide (q < (i : Int)) = false := by rw [decide_eq_false_iff_not]; omega
  have HO : Hid (∀ k, Calls Try.prog 40 #[.pointer (some ⟨g, 0, none⟩), .func (.func 45) #[] #[.pointer (some ⟨w.heap.size, 0, none⟩), .pointer (some ⟨w.heap.size + 1, 0, none⟩), .pointer (some ⟨w.heap.size + 2, 0, none⟩), .pointer (some ⟨w.heap.size + 3, 0, none⟩)]] ((w0.drewN k).alloc (.cells #[.slice none 0 0] 27)) fun r w' => r = .returned (.int .i64 0) ∧ DkAt B S w' g (.slice AF d.now.length cF) L d.op.1 e ∧ But S w w' ∧ ∃ A c, w'.cell? ⟨w.heap.size + 3, 0, none⟩ = some (.slice A n c) ∧ w'.ownsRow w.heap.size 5 1 (.slice A n c) n (((d.now.drop i).take n).map bv)) := by
    intro k
    have hgl := lt_of_heap h.row
    have hb1 : Below (w0.drewN k).heap.size (w0.drewN k) ((w0.drewN k).alloc (.cells #[.slice none 0 0] 27)) := (Below.refl _ _).alloc (Nat.le_refl _) _
    have hr := heap_alloc_new (w0.drewN k) (.cells #[.slice none 0 0] 27)
    rw [show (w0.drewN k).heap.size = w.heap.size + 3 from hs0] at hr
    have hc : ((w0.drewN k).alloc (.cells #[.slice none 0 0] 27)).cell? ⟨w.heap.size + 3, 0, none⟩ = some (.slice none 0 0) := row_cell hr 0
    have bo : But S w ((w0.drewN k).alloc (.cells #[.slice none 0 0] 27)) := (b0.drewN k).trans (.of_below hb1) (S' := S) (fun i hi => .inl hi)
    have hsz : ((w0.drewN k).alloc (.cells #[.slice none 0 0] 27)).heap.size = w.heap.size + 4 := by rw [World.size_alloc]; show w0.heap.size + 1 = _; omega
    have ca1 := (hb1.cell (p := ⟨w.heap.size, 0, none⟩) (by show w.heap.size < w0.heap.size; omega)).trans ca
    have cb1 := (hb1.cell (p := ⟨w.heap.size + 1, 0, none⟩) (by show w.heap.size + 1 < w0.heap.size; omega)).trans cb
    have cc1 := (hb1.cell (p := ⟨w.heap.size + 2, 0, none⟩) (by show w.heap.size + 2 < w0.heap.size; omega)).trans cc
    refine operate_yes 45 _ ((h0.drewN k).below hb1) hop (enters_of Try.func45 (by kernel_rfl) rfl) fun w1 h1 b1 => ?_
    have hr1 := (b1.block (w.heap.size + 3) (by omega) (by show ¬ w.heap.size + 3 = g; omega)).trans hr
    have hnow : d.op.1.now = d.now := (op_now d).1
    refine (read_clo _ _ _ _ i n h1 (b1.cell ca1 (by show ¬ w.heap.size = g; omega)) (b1.cell cb1 (by show ¬ w.heap.size + 1 = g; omega)) (b1.cell cc1 (by show ¬ w.heap.size + 2 = g; omega)) (row_cell hr1 0) (row_free hr1 0) (by rw [hnow]; exact hb)).mono ?_
    rintro r w3 ⟨rfl, w2, A, c, ho, hb2, rfl⟩
    have b2 : But S w w2 := (bo.trans b1 (by rintro i rfl; exact .inl h.sg)).trans (.of_below hb2) (S' := S) (fun i hi => .inl hi)
    have hsz2 := hb2.size
    have hsz1 := b1.size
    have hr2 := (hb2.block (w.heap.size + 3) (by omega)).trans hr1
    have b3 : But S w (w2.setCell ⟨w.heap.size + 3, 0, none⟩ (.slice A n c)) := b2.set _ _ (.inr (by show w.heap.size ≤ w.heap.size + 3; omega))
    have bw : But (· = w.heap.size + 3) w2 (w2.setCell ⟨w.heap.size + 3, 0, none⟩ (.slice A n c)) := (But.refl _ w2).set _ _ (.inl rfl)
    rw [hnow] at ho
    refine ⟨⟨_, rfl⟩, rfl, (h1.below hb2).but bw (fun i hi => ?_), b3, A, c, ?_, own_base (ownsRow_but ho bw (fun k hk => ?_)) (by omega)⟩
    · have := h.lt i hi; show ¬ i = _; omega
    · have := row_set hr2 0 (.slice A n c)
      exact row_cell this 0
    · have := own_lt ho k hk; show ¬ k = _; omega
  subst hw0
  clear h hb0 h0 b0 hb hq hmx hm4 hop
  go_enter Try.func15, Try.ntmps15
  go_wp2_with (go_at_call 39; refine HM.out.mono ?_; rintro r w' ⟨rfl, rfl⟩)
  go_quiet (fail)
  go_wp2_with (go_at_call 40; go_loud (refine (HO.out _).mono ?_; rintro r w2 ⟨rfl, h2, b2, A, c, e2, o2⟩; have H2 := hid h2; have HB := hid b2; have HO2 := hid o2; clear h2 b2 o2))
  go_ret2
  exact ⟨A, c, rfl, H2.out, HB.out, HO2.out⟩
end Go.Proofs.Ytgccjclloomfgaa
