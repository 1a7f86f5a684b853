/-
  The walk of DiskNone.
-/
import Derived.Test.YtgccjclloomfgaaNm
namespace Go.Proofs.Ytgccjclloomfgaa
open Go.RowKit

/-- What the walk keeps: the two pointers, the struct that nobody made. -/
structure NoneSt (w W : World) : Prop where
  bel : Below w.heap.size w W
  sz : w.heap.size + 2 ≤ W.heap.size
  p0 : W.cell? ⟨w.heap.size + 1, 0, none⟩ = some (.pointer none)
  p1 : W.cell? ⟨w.heap.size + 1, 1, none⟩ = some (.pointer (some ⟨w.heap.size, 0, none⟩))
  p2 : W.cell? ⟨w.heap.size, 0, none⟩ = some (.pointer none)
theorem NoneSt.on {w W W' : World} (h : NoneSt w W) (b : Below W.heap.size W W') : NoneSt w W' :=
  ⟨bel_trans h.bel b, Nat.le_trans h.sz b.size, (b.cell (lt_of_cell h.p0)).trans h.p0, (b.cell (lt_of_cell h.p1)).trans h.p1, (b.cell (lt_of_cell h.p2)).trans h.p2⟩
theorem NoneSt.nm0 {w W : World} (_ : NoneSt w W) : NotMade W none := notMade_nil W
theorem NoneSt.nm1 {w W : World} (h : NoneSt w W) : NotMade W (some ⟨w.heap.size, 0, none⟩) := notMade_zero W _ h.p2
theorem none_start (w : World) (zs : Array Value) (hz : zs[0]? = some (.pointer none)) : NoneSt w ((w.alloc (.cells zs 61)).alloc (.cells #[.pointer none, .pointer (some ⟨w.heap.size, 0, none⟩)] 22)) := by
  refine ⟨?_, by simp, by rw [row_cell (heap_alloc2_new w _ _)]; rfl, by rw [row_cell (heap_alloc2_new w _ _)]; rfl, by rw [row_cell (heap_alloc2_old w _ _)]; exact hz⟩
  have q := (Below.refl w.heap.size w).alloc (Nat.le_refl _) (.cells zs 61)
  exact q.alloc q.size _
set_option maxRecDepth 10000 in
set_option maxHeartbeats 4000000 in
theorem DiskNone_any (n : Int) (A : Option Addr) (m c : Nat) (w : World) :
    Calls Try.prog 5 #[.int .i64 n, .slice A m c] w fun r w' => r = .returned (.bool true) ∧ Below w.heap.size w w' := by
  go_enter Try.func5, Try.ntmps5
  go_wp2_with fail
  have HS : Hid (NoneSt w _) := none_start w #[.pointer none, .int .i64 0, .slice none 0 0, .int .i64 0, .slice none 0 0, .bool false, .int .i64 0, .int .i64 0, .int .i64 0] rfl
  have q0 := HS.out.p0
  have q1 := HS.out.p1
  generalize ((w.alloc (.cells #[.pointer none, .int .i64 0, .slice none 0 0, .int .i64 0, .slice none 0 0, .bool false, .int .i64 0, .int .i64 0, .int .i64 0] 61)).alloc (.cells #[.pointer none, .pointer (some ⟨w.heap.size, 0, none⟩)] 22)) = W1 at HS q0 q1 ⊢
  refine wp_loop_rounds 3 ?_
  rw [rounds_succ]
  go_wp2_with (first
    | (go_at_call 15; refine (ReadAt_nm none n n _ HS.out.nm0).mono ?_; rintro r W15 ⟨rfl, b15⟩; have HT := hid (HS.out.on b15); clear b15 HS; have HS := hid HT.out; have q0 := HS.out.p0; have q1 := HS.out.p1; clear HT)
    | (go_at_call 10; refine (Append_nm none A m c _ HS.out.nm0).mono ?_; rintro r W10 ⟨rfl, b10⟩; have HT := hid (HS.out.on b10); clear b10 HS; have HS := hid HT.out; have q0 := HS.out.p0; have q1 := HS.out.p1; clear HT)
    | (go_at_call 18; refine (Sync_nm none _ HS.out.nm0).mono ?_; rintro r W18 ⟨rfl, b18⟩; have HT := hid (HS.out.on b18); clear b18 HS; have HS := hid HT.out; have q0 := HS.out.p0; have q1 := HS.out.p1; clear HT)
    | (go_at_call 9; refine (Truncate_nm none n _ HS.out.nm0).mono ?_; rintro r W9 ⟨rfl, b9⟩; have HT := hid (HS.out.on b9); clear b9 HS; have HS := hid HT.out; have q0 := HS.out.p0; have q1 := HS.out.p1; clear HT)
    | (go_at_call 16; refine (Arm_nm none n _ HS.out.nm0).mono ?_; rintro r W16 ⟨rfl, b16⟩; have HT := hid (HS.out.on b16); clear b16 HS; have HS := hid HT.out; have q0 := HS.out.p0; have q1 := HS.out.p1; clear HT)
    | (go_at_call 17; refine (Fail_nm none n 10 _ HS.out.nm0).mono ?_; rintro r W17 ⟨rfl, b17⟩; have HT := hid (HS.out.on b17); clear b17 HS; have HS := hid HT.out; have q0 := HS.out.p0; have q1 := HS.out.p1; clear HT)
    | (go_at_call 20; refine (Crash_nm none 0 none 0 0 _ HS.out.nm0).mono ?_; rintro r W20 ⟨rfl, b20⟩; have HT := hid (HS.out.on b20); clear b20 HS; have HS := hid HT.out; have q0 := HS.out.p0; have q1 := HS.out.p1; clear HT)
    | (go_at_call 34; refine (Size_nm none _ HS.out.nm0).mono ?_; rintro r W34 ⟨rfl, b34⟩; have HT := hid (HS.out.on b34); clear b34 HS; have HS := hid HT.out; have q0 := HS.out.p0; have q1 := HS.out.p1; clear HT)
    | (go_at_call 11; refine (Synced_nm none _ HS.out.nm0).mono ?_; rintro r W11 ⟨rfl, b11⟩; have HT := hid (HS.out.on b11); clear b11 HS; have HS := hid HT.out; have q0 := HS.out.p0; have q1 := HS.out.p1; clear HT)
    | (go_at_call 35; refine (Image_nm none _ HS.out.nm0).mono ?_; rintro r W35 ⟨rfl, b35⟩; have HT := hid (HS.out.on b35); clear b35 HS; have HS := hid HT.out; have q0 := HS.out.p0; have q1 := HS.out.p1; clear HT)
    | (go_at_call 19; refine (Down_nm none _ HS.out.nm0).mono ?_; rintro r W19 ⟨rfl, b19⟩; have HT := hid (HS.out.on b19); clear b19 HS; have HS := hid HT.out; have q0 := HS.out.p0; have q1 := HS.out.p1; clear HT)
    | (go_at_call 31; refine (Copy_nm none _ HS.out.nm0).mono ?_; rintro r W31 ⟨rfl, b31⟩; have HT := hid (HS.out.on b31); clear b31 HS; have HS := hid HT.out; have q0 := HS.out.p0; have q1 := HS.out.p1; clear HT))
  rw [rounds_succ]
  go_wp2_with (first
    | (go_at_call 15; refine (ReadAt_nm (some ⟨w.heap.size, 0, none⟩) n n _ HS.out.nm1).mono ?_; rintro r W15 ⟨rfl, b15⟩; have HT := hid (HS.out.on b15); clear b15 HS; have HS := hid HT.out; have q0 := HS.out.p0; have q1 := HS.out.p1; clear HT)
    | (go_at_call 10; refine (Append_nm (some ⟨w.heap.size, 0, none⟩) A m c _ HS.out.nm1).mono ?_; rintro r W10 ⟨rfl, b10⟩; have HT := hid (HS.out.on b10); clear b10 HS; have HS := hid HT.out; have q0 := HS.out.p0; have q1 := HS.out.p1; clear HT)
    | (go_at_call 18; refine (Sync_nm (some ⟨w.heap.size, 0, none⟩) _ HS.out.nm1).mono ?_; rintro r W18 ⟨rfl, b18⟩; have HT := hid (HS.out.on b18); clear b18 HS; have HS := hid HT.out; have q0 := HS.out.p0; have q1 := HS.out.p1; clear HT)
    | (go_at_call 9; refine (Truncate_nm (some ⟨w.heap.size, 0, none⟩) n _ HS.out.nm1).mono ?_; rintro r W9 ⟨rfl, b9⟩; have HT := hid (HS.out.on b9); clear b9 HS; have HS := hid HT.out; have q0 := HS.out.p0; have q1 := HS.out.p1; clear HT)
    | (go_at_call 16; refine (Arm_nm (some ⟨w.heap.size, 0, none⟩) n _ HS.out.nm1).mono ?_; rintro r W16 ⟨rfl, b16⟩; have HT := hid (HS.out.on b16); clear b16 HS; have HS := hid HT.out; have q0 := HS.out.p0; have q1 := HS.out.p1; clear HT)
    | (go_at_call 17; refine (Fail_nm (some ⟨w.heap.size, 0, none⟩) n 10 _ HS.out.nm1).mono ?_; rintro r W17 ⟨rfl, b17⟩; have HT := hid (HS.out.on b17); clear b17 HS; have HS := hid HT.out; have q0 := HS.out.p0; have q1 := HS.out.p1; clear HT)
    | (go_at_call 20; refine (Crash_nm (some ⟨w.heap.size, 0, none⟩) 0 none 0 0 _ HS.out.nm1).mono ?_; rintro r W20 ⟨rfl, b20⟩; have HT := hid (HS.out.on b20); clear b20 HS; have HS := hid HT.out; have q0 := HS.out.p0; have q1 := HS.out.p1; clear HT)
    | (go_at_call 34; refine (Size_nm (some ⟨w.heap.size, 0, none⟩) _ HS.out.nm1).mono ?_; rintro r W34 ⟨rfl, b34⟩; have HT := hid (HS.out.on b34); clear b34 HS; have HS := hid HT.out; have q0 := HS.out.p0; have q1 := HS.out.p1; clear HT)
    | (go_at_call 11; refine (Synced_nm (some ⟨w.heap.size, 0, none⟩) _ HS.out.nm1).mono ?_; rintro r W11 ⟨rfl, b11⟩; have HT := hid (HS.out.on b11); clear b11 HS; have HS := hid HT.out; have q0 := HS.out.p0; have q1 := HS.out.p1; clear HT)
    | (go_at_call 35; refine (Image_nm (some ⟨w.heap.size, 0, none⟩) _ HS.out.nm1).mono ?_; rintro r W35 ⟨rfl, b35⟩; have HT := hid (HS.out.on b35); clear b35 HS; have HS := hid HT.out; have q0 := HS.out.p0; have q1 := HS.out.p1; clear HT)
    | (go_at_call 19; refine (Down_nm (some ⟨w.heap.size, 0, none⟩) _ HS.out.nm1).mono ?_; rintro r W19 ⟨rfl, b19⟩; have HT := hid (HS.out.on b19); clear b19 HS; have HS := hid HT.out; have q0 := HS.out.p0; have q1 := HS.out.p1; clear HT)
    | (go_at_call 31; refine (Copy_nm (some ⟨w.heap.size, 0, none⟩) _ HS.out.nm1).mono ?_; rintro r W31 ⟨rfl, b31⟩; have HT := hid (HS.out.on b31); clear b31 HS; have HS := hid HT.out; have q0 := HS.out.p0; have q1 := HS.out.p1; clear HT))
  rw [rounds_succ]
  go_wp2_with (go_at_call 21; refine (awake_any _).mono ?_; rintro r W9 ⟨rfl, b9⟩; have B9 := hid (bel_trans HS.out.bel b9))
  go_ret
  exact ⟨rfl, B9.out⟩
end Go.Proofs.Ytgccjclloomfgaa
