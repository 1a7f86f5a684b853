/-
  The contracts of Write, Sum and Len at a digest that New did not make.
-/
import Derived.Test.YtgdofhidjfeehaaAwake
namespace Go.Proofs.Ytgdofhidjfeehaa
open Go.RowKit

set_option maxRecDepth 10000 in
set_option maxHeartbeats 1000000 in
theorem Write_nil (A : Option Addr) (n c : Nat) (w : World) : Calls Try.prog 14 #[.pointer none, .slice A n c] w fun e w' => e = .returned (.int .i64 1) ∧ w = w' := by
  go_enter Try.func14, Try.ntmps14
  go_wp2_with fail
  go_ret
  exact ⟨rfl, rfl⟩
set_option maxRecDepth 10000 in
set_option maxHeartbeats 1000000 in
theorem Write_zero (g : Nat) (A : Option Addr) (n c : Nat) (w : World) (h : w.cell? ⟨g, 0, none⟩ = some (.bool false)) : Calls Try.prog 14 #[.pointer (some ⟨g, 0, none⟩), .slice A n c] w fun e w' => e = .returned (.int .i64 1) ∧ w = w' := by
  go_enter Try.func14, Try.ntmps14
  go_wp2_with fail
  go_ret
  exact ⟨rfl, rfl⟩
set_option maxRecDepth 10000 in
set_option maxHeartbeats 1000000 in
theorem Len_nil (w : World) : Calls Try.prog 16 #[.pointer none] w fun e w' => e = .returned (.int .i64 0) ∧ w = w' := by
  go_enter Try.func16, Try.ntmps16
  go_wp2_with fail
  go_ret
  exact ⟨rfl, rfl⟩
set_option maxRecDepth 10000 in
set_option maxHeartbeats 1000000 in
theorem Len_zero (g : Nat) (w : World) (h : w.cell? ⟨g, 0, none⟩ = some (.bool false)) : Calls Try.prog 16 #[.pointer (some ⟨g, 0, none⟩)] w fun e w' => e = .returned (.int .i64 0) ∧ w = w' := by
  go_enter Try.func16, Try.ntmps16
  go_wp2_with fail
  go_ret
  exact ⟨rfl, rfl⟩
theorem two_rows (w : World) : ∃ W0 : World, W0 = (w.alloc (.cells z32 23)).alloc (.cells z32 23) ∧ Hid (W0.heap[w.heap.size]? = some (.cells z32 23 (0, 0))) ∧ Hid (W0.heap[w.heap.size + 1]? = some (.cells z32 23 (0, 0))) ∧ Hid (Below w.heap.size w W0) := by
  refine ⟨_, rfl, heap_alloc2_old w _ _, heap_alloc2_new w _ _, ?_⟩
  have q := (Below.refl w.heap.size w).alloc (Nat.le_refl _) (.cells z32 23)
  exact q.alloc q.size _
theorem z32_info : (Try.prog.info? 23).map (·.size) = some z32.size := by kernel_rfl
theorem z32_one : z32.all (·.oneCell') = true := by kernel_rfl
set_option maxRecDepth 10000 in
set_option maxHeartbeats 1000000 in
theorem Sum_nil (w : World) : Calls Try.prog 15 #[.pointer none] w fun e w' => e = .returned (.agg z32) ∧ Below w.heap.size w w' := by
  obtain ⟨W0, hW, r0, r1, b0⟩ := two_rows w
  have HW := hid hW
  clear hW
  go_enter Try.func15, Try.ntmps15
  go_upto_region 2 with (fail)
  change Code.wp _ _ _ _ ((w.alloc (.cells z32 23)).alloc (.cells z32 23))
  rw [← HW.out]
  go_wp2_with (first
    | (refine wpList_load_row rfl 23 (.tmp 3) rfl (w.heap.size + 1) rfl 23 z32 (0, 0) _ r1.out Try.underlying23 rfl z32_info ?_)
    | (refine wpList_store_row (o := ⟨none, .store 23 (.tmp 2) (.tmp 15), _, _, _, _⟩) rfl 23 (.tmp 2) (.tmp 15) rfl w.heap.size z32 rfl rfl 23 z32 r0.out z32_info rfl z32_one ?_))
  exact bodyPost_ret (results_cell_row (by kernel_rfl : Try.f15.results = #[.cell 2 23]) _ _ w.heap.size 23 z32 (0, 0) _ rfl (setRow_heap _ _ _ _ _ _ r0.out) Try.underlying23 rfl z32_info) rfl ⟨rfl, below_setRow b0.out (Nat.le_refl _) _⟩
set_option maxRecDepth 10000 in
set_option maxHeartbeats 1000000 in
theorem Sum_zero (g : Nat) (w : World) (h : w.cell? ⟨g, 0, none⟩ = some (.bool false)) : Calls Try.prog 15 #[.pointer (some ⟨g, 0, none⟩)] w fun e w' => e = .returned (.agg z32) ∧ Below w.heap.size w w' := by
  obtain ⟨W0, hW, r0, r1, b0⟩ := two_rows w
  have hc : W0.cell? ⟨g, 0, none⟩ = some (.bool false) := (b0.out.cell (p := ⟨g, 0, none⟩) (lt_of_cell h)).trans h
  have HW := hid hW
  clear hW h
  go_enter Try.func15, Try.ntmps15
  go_upto_region 2 with (fail)
  change Code.wp _ _ _ _ ((w.alloc (.cells z32 23)).alloc (.cells z32 23))
  rw [← HW.out]
  go_wp2_with (first
    | (refine wpList_load_row rfl 23 (.tmp 3) rfl (w.heap.size + 1) rfl 23 z32 (0, 0) _ r1.out Try.underlying23 rfl z32_info ?_)
    | (refine wpList_store_row (o := ⟨none, .store 23 (.tmp 2) (.tmp 15), _, _, _, _⟩) rfl 23 (.tmp 2) (.tmp 15) rfl w.heap.size z32 rfl rfl 23 z32 r0.out z32_info rfl z32_one ?_))
  exact bodyPost_ret (results_cell_row (by kernel_rfl : Try.f15.results = #[.cell 2 23]) _ _ w.heap.size 23 z32 (0, 0) _ rfl (setRow_heap _ _ _ _ _ _ r0.out) Try.underlying23 rfl z32_info) rfl ⟨rfl, below_setRow b0.out (Nat.le_refl _) _⟩

end Go.Proofs.Ytgdofhidjfeehaa
