/-
  SameModel of two that are the same; the example's model.
-/
import Derived.Test.YtnanmdfbgoahjaaGtm
import Derived.Test.YtnanmdfbgoahjaaKit
namespace Go.Proofs.Ytnanmdfbgoahjaa
open Go.RowKit

theorem MdAt.drewN {w : World} {B : Nat} {x : Md} {P C Q : Sl} (h : MdAt w B x P C Q) (k : Nat) : MdAt (w.drewN k) B x P C Q := h.below ⟨rfl, rfl, rfl, Nat.le_refl _, fun _ _ => rfl⟩
theorem two_boxes (w : World) (a b : Obj) : Below w.heap.size w ((w.alloc a).alloc b) := bel_alloc (bel_alloc (Below.refl _ _))
set_option maxRecDepth 10000 in
set_option maxHeartbeats 4000000 in
theorem SameModel_true (w : World) (x : Md) (P C Q P' C' Q' : Sl) (a : MdAt w w.heap.size x P C Q) (b : MdAt w w.heap.size x P' C' Q') :
    Calls Try.prog 15 #[vMd x P C Q, vMd x P' C' Q'] w fun e w' => e = .returned (.bool true) ∧ Below w.heap.size w w' := by
  have HA := hid (fun W (h : Below w.heap.size w W) => And.intro (a.later h) (b.later h))
  unfold vMd vMdl
  have hP := fun W (h : Below w.heap.size w W) => SameParts_any _ _ _ _ _ _ W (HA.out W h).1.parts (HA.out W h).2.parts
  have hC := fun W (h : Below w.heap.size w W) => SameBytes_true _ _ _ _ _ _ W (HA.out W h).1.code.toIsB (HA.out W h).2.code.toIsB
  have hQ := fun W (h : Below w.heap.size w W) => SameBytes_true _ _ _ _ _ _ W (HA.out W h).1.post.toIsB (HA.out W h).2.post.toIsB
  have H1 := hid hP
  have H2 := hid hC
  have H3 := hid hQ
  clear hP hC hQ HA a b
  generalize x.parts.length = n at *
  generalize x.code.length = i at *
  generalize x.post.length = j at *
  obtain ⟨h, m, ph, pm, L, Cl, Ql⟩ := x
  simp only at *
  have B0 := hid (two_boxes w (.cells #[.int .i64 h, .int .i64 m, .int .i64 ph, .int .i64 pm, .slice P.a n P.c, .slice C.a i C.c, .slice Q.a j Q.c] 25) (.cells #[.int .i64 h, .int .i64 m, .int .i64 ph, .int .i64 pm, .slice P'.a n P'.c, .slice C'.a i C'.c, .slice Q'.a j Q'.c] 25))
  go_enter Try.func15, Try.ntmps15
  go_wp2_with (first
    | (go_at_call 31; refine (H1.out _ B0.out).mono ?_; rintro e w1 ⟨rfl, k1, rfl⟩)
    | (go_at_call 14; (first | (with_reducible refine (H2.out _ (below_drewN B0.out _)).mono ?_) | (with_reducible refine (H3.out _ (below_drewN B0.out _)).mono ?_) | (with_reducible refine (H3.out _ (below_drewN (below_drewN B0.out _) _)).mono ?_)); rintro e w1 ⟨rfl, k2, rfl⟩))
  go_ret
  exact ⟨rfl, by first | exact below_drewN B0.out _ | exact below_drewN (below_drewN B0.out _) _ | exact below_drewN (below_drewN (below_drewN B0.out _) _) _⟩
theorem alloc3' (w : World) (a b c : Obj) : (((w.alloc a).alloc b).alloc c).heap[w.heap.size]? = some a ∧ (((w.alloc a).alloc b).alloc c).heap[w.heap.size + 1]? = some b ∧ (((w.alloc a).alloc b).alloc c).heap[w.heap.size + 1 + 1]? = some c ∧
    (((w.alloc a).alloc b).alloc c).heap.size = w.heap.size + 1 + 1 + 1 ∧ Below w.heap.size w (((w.alloc a).alloc b).alloc c) := by
  have e1 : (w.alloc a).heap.size = w.heap.size + 1 := by simp
  have e2 : ((w.alloc a).alloc b).heap.size = w.heap.size + 1 + 1 := by simp
  have e3 : (((w.alloc a).alloc b).alloc c).heap.size = w.heap.size + 1 + 1 + 1 := by simp
  refine ⟨?_, ?_, ?_, e3, bel_alloc (bel_alloc (bel_alloc (Below.refl _ _)))⟩
  · rw [heap_alloc_old _ c (by omega), heap_alloc_old _ b (by omega)]; exact heap_alloc_new w a
  · rw [heap_alloc_old _ c (by omega), ← e1]; exact heap_alloc_new _ b
  · rw [← e2]; exact heap_alloc_new _ c
def plainM : Md := ⟨0, 0, 0, 0, [⟨1, 0, 0, 0, 5, 0, 0⟩], [0], []⟩
set_option maxRecDepth 10000 in
set_option maxHeartbeats 4000000 in
theorem plain_any (w : World) : Calls Try.prog 16 #[] w fun e w' => ∃ g gc, e = .returned (vMd plainM ⟨some ⟨g, 0, none⟩, 1⟩ ⟨some ⟨gc, 0, none⟩, 1⟩ ⟨none, 0⟩) ∧ MdAt w' w'.heap.size plainM ⟨some ⟨g, 0, none⟩, 1⟩ ⟨some ⟨gc, 0, none⟩, 1⟩ ⟨none, 0⟩ ∧ w'.ownsRow w.heap.size 41 7 (.slice (some ⟨g, 0, none⟩) 1 1) 1 (plainM.parts.flatMap cellsP) ∧ w'.heap[g]? = some (.cells #[.int .u8 1, .int .i64 0, .int .i64 0, .int .i64 0, .int .i64 5, .int .i64 0, .int .i64 0] 41 (0, 0)) ∧ w'.heap[gc]? = some (.cells #[.int .u8 0] 5 (0, 0)) ∧ Below w.heap.size w w' := by
  go_enter Try.func16, Try.ntmps16
  go_wp2_with fail
  obtain ⟨r0, r1, r2, hz, hb⟩ := alloc3' w (.cells #[.int .i64 0, .int .i64 0, .int .i64 0, .int .i64 0, .slice (some ⟨w.heap.size + 1, 0, none⟩) 1 1, .slice (some ⟨w.heap.size + 1 + 1, 0, none⟩) 1 1, .slice none 0 0] 25) (.cells #[.int .u8 1, .int .i64 0, .int .i64 0, .int .i64 0, .int .i64 5, .int .i64 0, .int .i64 0] 41) (.cells #[.int .u8 0] 5)
  generalize (((w.alloc (.cells #[.int .i64 0, .int .i64 0, .int .i64 0, .int .i64 0, .slice (some ⟨w.heap.size + 1, 0, none⟩) 1 1, .slice (some ⟨w.heap.size + 1 + 1, 0, none⟩) 1 1, .slice none 0 0] 25)).alloc (.cells #[.int .u8 1, .int .i64 0, .int .i64 0, .int .i64 0, .int .i64 5, .int .i64 0, .int .i64 0] 41)).alloc (.cells #[.int .u8 0] 5)) = W at *
  refine bodyPost_ret (results_md1 (by kernel_rfl : Try.f16.results = #[.cell 0 25]) _ _ w.heap.size _ _ _ rfl r0 rfl) rfl ?_
  have hc : New w W (w.heap.size + 1 + 1) 1 1 [0] := row_own (l := [0]) r2 (by omega) (by decide) hb
  refine ⟨w.heap.size + 1, w.heap.size + 1 + 1, rfl, ⟨?_, hc.isBB, isBB_nil _ _⟩, ⟨rfl, .inr ⟨w.heap.size + 1, 1, _, rfl, by omega, r1, Nat.le_refl _, by unfold maxLen; omega, rfl, rfl⟩⟩, r1, r2, hb⟩
  exact isP_row [⟨1, 0, 0, 0, 5, 0, 0⟩] r1 rfl 1 rfl (by decide)
end Go.Proofs.Ytnanmdfbgoahjaa
