/-
  The contract of Truncate.
-/
import Derived.Test.YtgccjclloomfgaaTrc
namespace Go.Proofs.Ytgccjclloomfgaa
open Go.RowKit

theorem trunc_of (d : Dk) (n : Nat) (hn : n ≤ d.now.length) (h : d.op.2 = 0) : d.trunc n = ({ d.op.1 with now := d.op.1.now.take n, floor := min d.op.1.floor n }, 0) := by
  obtain ⟨e1, _, e3, _⟩ := op_now d
  unfold Dk.trunc
  rw [if_neg (by omega), if_neg (by simp [h]), e1, e3]
theorem trunc_no (d : Dk) (n : Nat) (hn : n ≤ d.now.length) (h : d.op.2 ≠ 0) : d.trunc n = d.op := by
  unfold Dk.trunc
  rw [if_neg (by omega), if_pos h]
set_option maxRecDepth 10000 in
set_option maxHeartbeats 1000000 in
theorem Truncate_bad {B : Nat} {S : Nat → Prop} {w : World} {g : Nat} {F L : Value} {d : Dk} {e : Int} (h : DkAt B S w g F L d e) (n : Int) (hb : ¬ (0 ≤ n ∧ n ≤ (d.now.length : Int))) :
    Calls Try.prog 9 #[.pointer (some ⟨g, 0, none⟩), .int .i64 n] w fun r w' => r = .returned (.int .i64 2) ∧ DkAt B S w' g F L d e ∧ But S w w' := by
  obtain ⟨w0, hw0, hb0, ca, cb, hs0⟩ := two_new (w := w) (.pointer (some ⟨g, 0, none⟩)) (.int .i64 n) 22 3
  have h0 := h.below hb0
  have HM := hid (made_any h0)
  have b0 : But S w w0 := .of_below hb0
  have H0 := hid (And.intro h0 b0)
  obtain ⟨AF, cF, rfl⟩ := own_sl h.ff
  have c2 := h0.cells.2.2.1
  by_cases h1 : n < 0
  · have d1 : decide (n < 0) = true := by simpa using h1
    subst hw0
    clear h hb0 h0 b0 hb
    go_enter Try.func9, Try.ntmps9
    go_wp2_with (go_at_call 39; refine HM.out.mono ?_; rintro r w' ⟨rfl, rfl⟩)
    go_quiet (fail)
    go_wp2_with fail
    go_ret
    exact ⟨rfl, H0.out.1.drewN _, H0.out.2.drewN _⟩
  · have d1 : decide (n < 0) = false := by simpa using h1
    have d3 : decide ((d.now.length : Int) < n) = true := by rw [decide_eq_true_iff]; omega
    subst hw0
    clear h hb0 h0 b0 hb
    go_enter Try.func9, Try.ntmps9
    go_wp2_with (go_at_call 39; refine HM.out.mono ?_; rintro r w' ⟨rfl, rfl⟩)
    go_quiet (fail)
    go_wp2_with fail
    go_ret
    exact ⟨rfl, H0.out.1.drewN _, H0.out.2.drewN _⟩
set_option maxRecDepth 10000 in
set_option maxHeartbeats 1000000 in
theorem Truncate_any {B : Nat} {S : Nat → Prop} {w : World} {g : Nat} {F L : Value} {d : Dk} {e : Int} (h : DkAt B S w g F L d e) (n : Nat) (hn : n ≤ d.now.length) :
    Calls Try.prog 9 #[.pointer (some ⟨g, 0, none⟩), .int .i64 (n : Nat)] w fun r w' => r = .returned (.int .i64 ((d.trunc n).2 : Nat)) ∧ ∃ F' L' S', DkAt B S' w' g F' L' (d.trunc n).1 e ∧ Stp S S' w w' := by
  obtain ⟨w0, hw0, hb0, ca, cb, hs0⟩ := two_new (w := w) (.pointer (some ⟨g, 0, none⟩)) (.int .i64 (n : Nat)) 22 3
  have h0 := h.below hb0
  have HM := hid (made_any h0)
  have b0 : But S w w0 := .of_below hb0
  obtain ⟨AF, cF, rfl⟩ := own_sl h.ff
  have c2 := h0.cells.2.2.1
  have d1 : decide ((n : Int) < 0) = false := by simp
  have d3 : decide ((d.now.length : Int) < (n : Int)) = false := by rw [decide_eq_false_iff_not]; omega
  have d4 : decide (d.now.length < n) = false := by rw [decide_eq_false_iff_not]; omega
  have d5 : ¬ d.now.length < n := by omega
  have hS : ∀ i, i = g → S i ∨ w.heap.size ≤ i := by rintro i rfl; exact .inl h.sg
  have hgl := lt_of_heap h.row
  have HO : Hid (∀ k, Calls Try.prog 40 #[.pointer (some ⟨g, 0, none⟩), .func (.func 41) #[] #[.pointer (some ⟨w.heap.size, 0, none⟩), .pointer (some ⟨w.heap.size + 1, 0, none⟩)]] (w0.drewN k) fun r w' => r = .returned (.int .i64 ((d.trunc n).2 : Nat)) ∧ ∃ F' L' S', DkAt B S' w' g F' L' (d.trunc n).1 e ∧ Stp S S' w w') := by
    intro k
    by_cases hop : d.op.2 = 0
    · have hnow : d.op.1.now = d.now := (op_now d).1
      refine operate_yes 41 _ (h0.drewN k) hop (enters_of Try.func41 (by kernel_rfl) rfl) fun w1 h1 b1 => ?_
      have ca1 := b1.cell (show (w0.drewN k).cell? _ = _ from ca) (by show ¬ w.heap.size = g; omega)
      have cb1 := b1.cell (show (w0.drewN k).cell? _ = _ from cb) (by show ¬ w.heap.size + 1 = g; omega)
      rw [trunc_of d n hn hop]
      refine (trunc_clo _ _ n h1 ca1 cb1 (fun hs => by have := (h.lt _ hs).2; omega) (fun hs => by have := (h.lt _ hs).2; omega) (by rw [hnow]; exact hn)).mono ?_
      rintro r w2 ⟨rfl, F', L', S', h2, s2⟩
      exact ⟨⟨_, rfl⟩, rfl, F', L', S', h2, (Stp.of_but ((b0.drewN k).trans b1 hS)).trans s2⟩
    · rw [trunc_no d n hn hop]
      refine (operate_no 41 _ (h0.drewN k) hop).mono ?_
      rintro r w2 ⟨rfl, h2, b2⟩
      exact ⟨rfl, _, _, S, h2, .of_but ((b0.drewN k).trans b2 hS)⟩
  subst hw0
  clear h hb0 h0 b0 hn hS hgl
  go_enter Try.func9, Try.ntmps9
  go_wp2_with (go_at_call 39; refine HM.out.mono ?_; rintro r w' ⟨rfl, rfl⟩)
  go_quiet (fail)
  go_wp2_with (go_at_call 40; go_loud (refine (HO.out _).mono ?_; rintro r w2 ⟨rfl, h2⟩; have H2 := hid h2; clear h2))
  go_ret
  exact ⟨rfl, H2.out⟩
end Go.Proofs.Ytgccjclloomfgaa
