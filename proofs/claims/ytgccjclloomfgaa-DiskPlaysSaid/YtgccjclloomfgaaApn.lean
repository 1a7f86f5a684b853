/-
  The contract of Append.
-/
import Derived.Test.YtgccjclloomfgaaSyn
namespace Go.Proofs.Ytgccjclloomfgaa
open Go.RowKit

/-- Two new cells. -/
theorem two_new {w : World} (x y : Value) (t u : TypeId) : ∃ w0, w0 = (w.alloc (.cells #[x] t)).alloc (.cells #[y] u) ∧ Below w.heap.size w w0 ∧ w0.cell? ⟨w.heap.size, 0, none⟩ = some x ∧ w0.cell? ⟨w.heap.size + 1, 0, none⟩ = some y ∧ w0.heap.size = w.heap.size + 2 := by
  refine ⟨_, rfl, ((Below.refl _ w).alloc (Nat.le_refl _) _).alloc (by simp) _, ?_, ?_, by simp⟩
  · rw [row_cell (heap_alloc2_old w _ _)]; rfl
  · rw [row_cell (heap_alloc2_new w _ _)]; rfl
set_option maxRecDepth 10000 in
set_option maxHeartbeats 1000000 in
theorem Append_any {B : Nat} {S : Nat → Prop} {w : World} {g : Nat} {F L : Value} {d : Dk} {e : Int} (A : Option Addr) (n c : Nat) (l : List UInt8) (h : DkAt B S w g F L d e) (hi : Out S w A n c l) :
    Calls Try.prog 10 #[.pointer (some ⟨g, 0, none⟩), .slice A n c] w fun r w' => r = .returned (.int .i64 ((d.app l).2 : Nat)) ∧ ∃ F' S', DkAt B S' w' g F' L (d.app l).1 e ∧ Stp S S' w w' := by
  obtain ⟨w0, hw0, hb0, ca, cb, hs0⟩ := two_new (w := w) (.pointer (some ⟨g, 0, none⟩)) (.slice A n c) 22 27
  have h0 := h.below hb0
  have HM := hid (made_any h0)
  have hS : ∀ i, i = g → S i ∨ w.heap.size ≤ i := by rintro i rfl; exact .inl h.sg
  have hgl := lt_of_heap h.row
  have hsa : ¬ S w.heap.size := fun hs => by have := (h.lt _ hs).2; omega
  have hlen := hi.len
  have hsm := hi.small
  have b0 : But S w w0 := .of_below hb0
  by_cases hop : d.op.2 = 0
  · have hmost : d.op.1.most = d.most := (op_now d).2.2.2
    have hnow : d.op.1.now = d.now := (op_now d).1
    have HO : Hid (Calls Try.prog 40 #[.pointer (some ⟨g, 0, none⟩), .func (.func 42) #[] #[.pointer (some ⟨w.heap.size + 1, 0, none⟩), .pointer (some ⟨w.heap.size, 0, none⟩)]] w0 fun r w' => r = .returned (.int .i64 ((d.app l).2 : Nat)) ∧ ∃ F' S', DkAt B S' w' g F' L (d.app l).1 e ∧ Stp S S' w w') := by
      refine operate_yes 42 _ h0 hop (enters_of Try.func42 (by kernel_rfl) rfl) fun w1 h1 b1 => ?_
      have ca1 := b1.cell ca (by show ¬ w.heap.size = g; omega)
      have cb1 := b1.cell cb (by show ¬ w.heap.size + 1 = g; omega)
      by_cases hl : d.most < d.now.length + l.length
      · rw [app_full d l hop hl]
        refine (app_clo_full _ _ A n c h1 ca1 cb1 (by rw [hmost, hnow, ← hlen]; exact hl) hsm).mono ?_
        rintro r w2 ⟨rfl, k, rfl⟩
        exact ⟨⟨_, rfl⟩, rfl, F, S, h1.drewN k, .of_but ((b0.trans b1 hS).drewN k)⟩
      · rw [app_of d l hop hl]
        have hi1 : IsB w1 A n c l := (hi.stp (.of_but (b0.trans b1 hS))).toIsB
        refine (app_clo _ _ A n c l h1 ca1 cb1 hi1 (by rw [hmost, hnow, ← hlen]; exact hl) hsa).mono ?_
        rintro r w2 ⟨rfl, F', S', h2, s2⟩
        exact ⟨⟨_, rfl⟩, rfl, F', S', h2, (Stp.of_but (b0.trans b1 hS)).trans s2⟩
    subst hw0
    clear h h0 hS hgl hop hi hb0 b0
    go_enter Try.func10, Try.ntmps10
    go_wp2_with (first
      | (go_at_call 39; refine HM.out.mono ?_; rintro r w' ⟨rfl, rfl⟩)
      | (go_at_call 40; refine HO.out.mono ?_; rintro r w2 ⟨rfl, h2⟩; have H2 := hid h2; clear h2))
    go_ret
    exact ⟨rfl, H2.out⟩
  · rw [app_no d l hop]
    have HO := hid (operate_no 42 #[.pointer (some ⟨w.heap.size + 1, 0, none⟩), .pointer (some ⟨w.heap.size, 0, none⟩)] h0 hop)
    have HS := hid hS
    have HB0 := hid b0
    subst hw0
    clear h hb0 h0 hS hgl hop hi b0
    go_enter Try.func10, Try.ntmps10
    go_wp2_with (first
      | (go_at_call 39; refine HM.out.mono ?_; rintro r w' ⟨rfl, rfl⟩)
      | (go_at_call 40; refine HO.out.mono ?_; rintro r w2 ⟨rfl, h2, b2⟩; have H2 := hid h2; have HB := hid (HB0.out.trans b2 HS.out); clear h2 b2))
    go_ret
    exact ⟨rfl, _, _, H2.out, .of_but HB.out⟩
end Go.Proofs.Ytgccjclloomfgaa
