/-
  Merged: XFd.
-/
import Derived.Test.YtkfdbibgjoaefaaGreatDoorMg40
/-
  What the document's side wants of stage texts, for this seat (Fd).
-/

namespace Go.Proofs.YtkfdbibgjoaefaaGreatDoor
open Go.RowKit

theorem bel3x (w : World) (A B C : Obj) : Below w.heap.size w (((w.alloc A).alloc B).alloc C) :=
  (((Below.refl _ w).alloc (Nat.le_refl _) A).alloc (by simp) B).alloc (by simp; omega) C
def fdV (k s a b c r m : Int) : Value :=
  if k = 1 then vP 1 0 0 0 c 0 0
  else if k = 2 then vP 2 s 0 0 0 0 m
  else if k = 3 then vP 3 s 0 0 0 0 0
  else if k = 4 then vP 4 s 0 0 0 0 0
  else if k = 5 then vP 5 0 a b c 0 0
  else if k = 6 then vP 6 s a b 0 r 0
  else if k = 7 then vP 7 s a b 0 r 0
  else if k = 8 then vP 8 s a 0 0 0 0
  else if k = 9 then vP 9 s a 0 0 0 m
  else vP k 0 0 0 0 0 0
theorem mid3 (w : World) (A B C : Obj) : (((w.alloc A).alloc B).alloc C).heap[w.heap.size + 1]? = some B := by
  show (((w.heap.push A).push B).push C)[w.heap.size + 1]? = some B
  simp [Array.getElem_push]
theorem size32 (x0 x1 x2 x3 x4 x5 x6 : Value) : (Tryz.prog.info? 38).map (·.size) = some (#[x0, x1, x2, x3, x4, x5, x6] : Array Value).size := by
  show _ = some 7
  kernel_rfl
set_option maxRecDepth 10000 in
set_option maxHeartbeats 4000000 in
theorem fields_1 (s a b c r m : Int) (w : World) :
    Calls Tryz.prog 70 #[vP 1 s a b c r m] w fun e w' => e = .returned (.agg #[.int .u8 1, .int .i64 0, .int .i64 0, .int .i64 0, .int .i64 c, .int .i64 0, .int .i64 0]) ∧ Below w.heap.size w w' := by
  unfold vP
  go_enter Tryz.func70, Tryz.ntmps70
  go_wp2_with fail
  refine bodyPost_ret (results_cell_row (by kernel_rfl : Tryz.f70.results = #[.cell 2 38]) _ _ (w.heap.size + 1) 38 #[.int .u8 1, .int .i64 0, .int .i64 0, .int .i64 0, .int .i64 c, .int .i64 0, .int .i64 0] (0, 0) _ rfl (mid3 w _ _ _) Tryz.underlying38 rfl (size32 _ _ _ _ _ _ _)) rfl ⟨rfl, ?_⟩
  exact Below.trans (bel3x w _ _ _) (Below.drewN _ _ 0)
set_option maxRecDepth 10000 in
set_option maxHeartbeats 4000000 in
theorem fields_2 (s a b c r m : Int) (w : World) :
    Calls Tryz.prog 70 #[vP 2 s a b c r m] w fun e w' => e = .returned (.agg #[.int .u8 2, .int .i64 s, .int .i64 0, .int .i64 0, .int .i64 0, .int .i64 0, .int .i64 m]) ∧ Below w.heap.size w w' := by
  unfold vP
  go_enter Tryz.func70, Tryz.ntmps70
  go_wp2_with fail
  go_region
  go_wp2_with fail
  refine bodyPost_ret (results_cell_row (by kernel_rfl : Tryz.f70.results = #[.cell 2 38]) _ _ (w.heap.size + 1) 38 #[.int .u8 2, .int .i64 s, .int .i64 0, .int .i64 0, .int .i64 0, .int .i64 0, .int .i64 m] (0, 0) _ rfl (mid3 w _ _ _) Tryz.underlying38 rfl (size32 _ _ _ _ _ _ _)) rfl ⟨rfl, ?_⟩
  exact Below.trans (bel3x w _ _ _) (Below.drewN _ _ 1)
set_option maxRecDepth 10000 in
set_option maxHeartbeats 4000000 in
theorem fields_3 (s a b c r m : Int) (w : World) :
    Calls Tryz.prog 70 #[vP 3 s a b c r m] w fun e w' => e = .returned (.agg #[.int .u8 3, .int .i64 s, .int .i64 0, .int .i64 0, .int .i64 0, .int .i64 0, .int .i64 0]) ∧ Below w.heap.size w w' := by
  unfold vP
  go_enter Tryz.func70, Tryz.ntmps70
  go_wp2_with fail
  refine bodyPost_ret (results_cell_row (by kernel_rfl : Tryz.f70.results = #[.cell 2 38]) _ _ (w.heap.size + 1) 38 #[.int .u8 3, .int .i64 s, .int .i64 0, .int .i64 0, .int .i64 0, .int .i64 0, .int .i64 0] (0, 0) _ rfl (mid3 w _ _ _) Tryz.underlying38 rfl (size32 _ _ _ _ _ _ _)) rfl ⟨rfl, ?_⟩
  exact Below.trans (bel3x w _ _ _) (Below.drewN _ _ 0)
set_option maxRecDepth 10000 in
set_option maxHeartbeats 4000000 in
theorem fields_4 (s a b c r m : Int) (w : World) :
    Calls Tryz.prog 70 #[vP 4 s a b c r m] w fun e w' => e = .returned (.agg #[.int .u8 4, .int .i64 s, .int .i64 0, .int .i64 0, .int .i64 0, .int .i64 0, .int .i64 0]) ∧ Below w.heap.size w w' := by
  unfold vP
  go_enter Tryz.func70, Tryz.ntmps70
  go_wp2_with fail
  refine bodyPost_ret (results_cell_row (by kernel_rfl : Tryz.f70.results = #[.cell 2 38]) _ _ (w.heap.size + 1) 38 #[.int .u8 4, .int .i64 s, .int .i64 0, .int .i64 0, .int .i64 0, .int .i64 0, .int .i64 0] (0, 0) _ rfl (mid3 w _ _ _) Tryz.underlying38 rfl (size32 _ _ _ _ _ _ _)) rfl ⟨rfl, ?_⟩
  exact Below.trans (bel3x w _ _ _) (Below.drewN _ _ 0)
set_option maxRecDepth 10000 in
set_option maxHeartbeats 4000000 in
theorem fields_5 (s a b c r m : Int) (w : World) :
    Calls Tryz.prog 70 #[vP 5 s a b c r m] w fun e w' => e = .returned (.agg #[.int .u8 5, .int .i64 0, .int .i64 a, .int .i64 b, .int .i64 c, .int .i64 0, .int .i64 0]) ∧ Below w.heap.size w w' := by
  unfold vP
  go_enter Tryz.func70, Tryz.ntmps70
  go_wp2_with fail
  go_region
  go_wp2_with fail
  refine bodyPost_ret (results_cell_row (by kernel_rfl : Tryz.f70.results = #[.cell 2 38]) _ _ (w.heap.size + 1) 38 #[.int .u8 5, .int .i64 0, .int .i64 a, .int .i64 b, .int .i64 c, .int .i64 0, .int .i64 0] (0, 0) _ rfl (mid3 w _ _ _) Tryz.underlying38 rfl (size32 _ _ _ _ _ _ _)) rfl ⟨rfl, ?_⟩
  exact Below.trans (bel3x w _ _ _) (Below.drewN _ _ 1)
set_option maxRecDepth 10000 in
set_option maxHeartbeats 4000000 in
theorem fields_6 (s a b c r m : Int) (w : World) :
    Calls Tryz.prog 70 #[vP 6 s a b c r m] w fun e w' => e = .returned (.agg #[.int .u8 6, .int .i64 s, .int .i64 a, .int .i64 b, .int .i64 0, .int .i64 r, .int .i64 0]) ∧ Below w.heap.size w w' := by
  unfold vP
  go_enter Tryz.func70, Tryz.ntmps70
  go_wp2_with fail
  go_region
  go_wp2_with fail
  refine bodyPost_ret (results_cell_row (by kernel_rfl : Tryz.f70.results = #[.cell 2 38]) _ _ (w.heap.size + 1) 38 #[.int .u8 6, .int .i64 s, .int .i64 a, .int .i64 b, .int .i64 0, .int .i64 r, .int .i64 0] (0, 0) _ rfl (mid3 w _ _ _) Tryz.underlying38 rfl (size32 _ _ _ _ _ _ _)) rfl ⟨rfl, ?_⟩
  exact Below.trans (bel3x w _ _ _) (Below.drewN _ _ 1)
set_option maxRecDepth 10000 in
set_option maxHeartbeats 4000000 in
theorem fields_7 (s a b c r m : Int) (w : World) :
    Calls Tryz.prog 70 #[vP 7 s a b c r m] w fun e w' => e = .returned (.agg #[.int .u8 7, .int .i64 s, .int .i64 a, .int .i64 b, .int .i64 0, .int .i64 r, .int .i64 0]) ∧ Below w.heap.size w w' := by
  unfold vP
  go_enter Tryz.func70, Tryz.ntmps70
  go_wp2_with fail
  go_region
  go_wp2_with fail
  refine bodyPost_ret (results_cell_row (by kernel_rfl : Tryz.f70.results = #[.cell 2 38]) _ _ (w.heap.size + 1) 38 #[.int .u8 7, .int .i64 s, .int .i64 a, .int .i64 b, .int .i64 0, .int .i64 r, .int .i64 0] (0, 0) _ rfl (mid3 w _ _ _) Tryz.underlying38 rfl (size32 _ _ _ _ _ _ _)) rfl ⟨rfl, ?_⟩
  exact Below.trans (bel3x w _ _ _) (Below.drewN _ _ 1)
set_option maxRecDepth 10000 in
set_option maxHeartbeats 4000000 in
theorem fields_8 (s a b c r m : Int) (w : World) :
    Calls Tryz.prog 70 #[vP 8 s a b c r m] w fun e w' => e = .returned (.agg #[.int .u8 8, .int .i64 s, .int .i64 a, .int .i64 0, .int .i64 0, .int .i64 0, .int .i64 0]) ∧ Below w.heap.size w w' := by
  unfold vP
  go_enter Tryz.func70, Tryz.ntmps70
  go_wp2_with fail
  go_region
  go_wp2_with fail
  refine bodyPost_ret (results_cell_row (by kernel_rfl : Tryz.f70.results = #[.cell 2 38]) _ _ (w.heap.size + 1) 38 #[.int .u8 8, .int .i64 s, .int .i64 a, .int .i64 0, .int .i64 0, .int .i64 0, .int .i64 0] (0, 0) _ rfl (mid3 w _ _ _) Tryz.underlying38 rfl (size32 _ _ _ _ _ _ _)) rfl ⟨rfl, ?_⟩
  exact Below.trans (bel3x w _ _ _) (Below.drewN _ _ 1)
set_option maxRecDepth 10000 in
set_option maxHeartbeats 4000000 in
theorem fields_9 (s a b c r m : Int) (w : World) :
    Calls Tryz.prog 70 #[vP 9 s a b c r m] w fun e w' => e = .returned (.agg #[.int .u8 9, .int .i64 s, .int .i64 a, .int .i64 0, .int .i64 0, .int .i64 0, .int .i64 m]) ∧ Below w.heap.size w w' := by
  unfold vP
  go_enter Tryz.func70, Tryz.ntmps70
  go_wp2_with fail
  go_region
  go_wp2_with fail
  refine bodyPost_ret (results_cell_row (by kernel_rfl : Tryz.f70.results = #[.cell 2 38]) _ _ (w.heap.size + 1) 38 #[.int .u8 9, .int .i64 s, .int .i64 a, .int .i64 0, .int .i64 0, .int .i64 0, .int .i64 m] (0, 0) _ rfl (mid3 w _ _ _) Tryz.underlying38 rfl (size32 _ _ _ _ _ _ _)) rfl ⟨rfl, ?_⟩
  exact Below.trans (bel3x w _ _ _) (Below.drewN _ _ 1)
set_option maxRecDepth 10000 in
set_option maxHeartbeats 4000000 in
theorem fields_k (k s a b c r m : Int) (x1 : k ≠ 1) (x2 : k ≠ 2) (x3 : k ≠ 3) (x4 : k ≠ 4) (x5 : k ≠ 5) (x6 : k ≠ 6) (x7 : k ≠ 7) (x8 : k ≠ 8) (x9 : k ≠ 9) (w : World) :
    Calls Tryz.prog 70 #[vP k s a b c r m] w fun e w' => e = .returned (.agg #[.int .u8 k, .int .i64 0, .int .i64 0, .int .i64 0, .int .i64 0, .int .i64 0, .int .i64 0]) ∧ Below w.heap.size w w' := by
  unfold vP
  go_enter Tryz.func70, Tryz.ntmps70
  go_wp2_with fail
  refine bodyPost_ret (results_cell_row (by kernel_rfl : Tryz.f70.results = #[.cell 2 38]) _ _ (w.heap.size + 1) 38 #[.int .u8 k, .int .i64 0, .int .i64 0, .int .i64 0, .int .i64 0, .int .i64 0, .int .i64 0] (0, 0) _ rfl (mid3 w _ _ _) Tryz.underlying38 rfl (size32 _ _ _ _ _ _ _)) rfl ⟨rfl, ?_⟩
  exact Below.trans (bel3x w _ _ _) (Below.drewN _ _ 0)
theorem fields_any (k s a b c r m : Int) (w : World) :
    Calls Tryz.prog 70 #[vP k s a b c r m] w fun e w' => e = .returned (fdV k s a b c r m) ∧ Below w.heap.size w w' := by
  unfold fdV
  by_cases h1 : k = 1
  · rw [if_pos h1, h1]; exact fields_1 s a b c r m w
  rw [if_neg h1]
  by_cases h2 : k = 2
  · rw [if_pos h2, h2]; exact fields_2 s a b c r m w
  rw [if_neg h2]
  by_cases h3 : k = 3
  · rw [if_pos h3, h3]; exact fields_3 s a b c r m w
  rw [if_neg h3]
  by_cases h4 : k = 4
  · rw [if_pos h4, h4]; exact fields_4 s a b c r m w
  rw [if_neg h4]
  by_cases h5 : k = 5
  · rw [if_pos h5, h5]; exact fields_5 s a b c r m w
  rw [if_neg h5]
  by_cases h6 : k = 6
  · rw [if_pos h6, h6]; exact fields_6 s a b c r m w
  rw [if_neg h6]
  by_cases h7 : k = 7
  · rw [if_pos h7, h7]; exact fields_7 s a b c r m w
  rw [if_neg h7]
  by_cases h8 : k = 8
  · rw [if_pos h8, h8]; exact fields_8 s a b c r m w
  rw [if_neg h8]
  by_cases h9 : k = 9
  · rw [if_pos h9, h9]; exact fields_9 s a b c r m w
  rw [if_neg h9]
  exact fields_k k s a b c r m h1 h2 h3 h4 h5 h6 h7 h8 h9 w
end Go.Proofs.YtkfdbibgjoaefaaGreatDoor
