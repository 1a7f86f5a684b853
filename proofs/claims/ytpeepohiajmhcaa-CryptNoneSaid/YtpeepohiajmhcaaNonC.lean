/-
  The walk of CryptNone: the calls of a file that nobody made.
-/
import Derived.Test.YtpeepohiajmhcaaAwa
namespace Go.Proofs.Ytpeepohiajmhcaa
open Go.RowKit

/-- 'made' tells no, whatever is laid behind. -/
def NoFl (w : World) (o : Option Addr) : Prop := ∀ W, Below w.heap.size w W → Calls Try.prog 33 #[.pointer o] W fun r w' => r = .returned (.bool false) ∧ W = w'
theorem noFl_nil (w : World) : NoFl w none := fun W _ => fmade_nil W
theorem noFl_zero (w : World) (g : Nat) (c0 : w.cell? ⟨g, 0, none⟩ = some (.pointer none)) : NoFl w (some ⟨g, 0, none⟩) := fun W hb => fmade_zero g W ((hb.cell (lt_of_cell c0)).trans c0)
set_option maxRecDepth 10000 in
set_option maxHeartbeats 1000000 in
theorem Append_nm (o : Option Addr) (A : Option Addr) (n c : Nat) (w : World) (h : NoFl w o) :
    Calls Try.prog 12 #[.pointer o, .slice A n c] w fun r w' => r = .returned (.int .i64 1) ∧ w = w' := by
  have HM := hid (h w (Below.refl _ w))
  clear h
  go_enter Try.func12, Try.ntmps12
  go_wp2_with (go_at_call 33; refine HM.out.mono ?_; rintro r w' ⟨rfl, rfl⟩)
  go_ret
  exact ⟨rfl, rfl⟩
set_option maxRecDepth 10000 in
set_option maxHeartbeats 1000000 in
theorem Sync_nm (o : Option Addr)  (w : World) (h : NoFl w o) :
    Calls Try.prog 17 #[.pointer o] w fun r w' => r = .returned (.int .i64 1) ∧ w = w' := by
  have HM := hid (h w (Below.refl _ w))
  clear h
  go_enter Try.func17, Try.ntmps17
  go_wp2_with (go_at_call 33; refine HM.out.mono ?_; rintro r w' ⟨rfl, rfl⟩)
  go_ret
  exact ⟨rfl, rfl⟩
set_option maxRecDepth 10000 in
set_option maxHeartbeats 1000000 in
theorem ReadAt_nm (o : Option Addr) (i n : Int) (w : World) (h : NoFl w o) :
    Calls Try.prog 11 #[.pointer o, .int .i64 i, .int .i64 n] w fun r w' => r = .returned (.tuple #[.slice none 0 0, .int .i64 1]) ∧ w = w' := by
  have HM := hid (h w (Below.refl _ w))
  clear h
  go_enter Try.func11, Try.ntmps11
  go_wp2_with (go_at_call 33; refine HM.out.mono ?_; rintro r w' ⟨rfl, rfl⟩)
  go_ret2
  exact ⟨rfl, rfl⟩
set_option maxRecDepth 10000 in
set_option maxHeartbeats 1000000 in
theorem Truncate_nm (o : Option Addr) (n : Int) (w : World) (h : NoFl w o) :
    Calls Try.prog 13 #[.pointer o, .int .i64 n] w fun r w' => r = .returned (.int .i64 1) ∧ w = w' := by
  have HM := hid (h w (Below.refl _ w))
  clear h
  go_enter Try.func13, Try.ntmps13
  go_wp2_with (go_at_call 33; refine HM.out.mono ?_; rintro r w' ⟨rfl, rfl⟩)
  go_ret
  exact ⟨rfl, rfl⟩
set_option maxRecDepth 10000 in
set_option maxHeartbeats 1000000 in
theorem Size_nm (o : Option Addr)  (w : World) (h : NoFl w o) :
    Calls Try.prog 14 #[.pointer o] w fun r w' => r = .returned (.int .i64 0) ∧ w = w' := by
  have HM := hid (h w (Below.refl _ w))
  clear h
  go_enter Try.func14, Try.ntmps14
  go_wp2_with (go_at_call 33; refine HM.out.mono ?_; rintro r w' ⟨rfl, rfl⟩)
  go_ret
  exact ⟨rfl, rfl⟩
set_option maxRecDepth 10000 in
set_option maxHeartbeats 1000000 in
theorem Plain_nm (o : Option Addr)  (w : World) (h : NoFl w o) :
    Calls Try.prog 18 #[.pointer o] w fun r w' => r = .returned (.bool false) ∧ w = w' := by
  have HM := hid (h w (Below.refl _ w))
  clear h
  go_enter Try.func18, Try.ntmps18
  go_wp2_with (go_at_call 33; refine HM.out.mono ?_; rintro r w' ⟨rfl, rfl⟩)
  go_ret
  exact ⟨rfl, rfl⟩
/-- What the walk keeps: the two pointers, the struct that nobody made. -/
structure NoneSt (w W : World) : Prop where
  bel : Below w.heap.size w W
  p0 : W.cell? ⟨w.heap.size + 1, 0, none⟩ = some (.pointer none)
  p1 : W.cell? ⟨w.heap.size + 1, 1, none⟩ = some (.pointer (some ⟨w.heap.size, 0, none⟩))
  p2 : W.cell? ⟨w.heap.size, 0, none⟩ = some (.pointer none)
theorem NoneSt.nm0 {w W : World} (_ : NoneSt w W) : NoFl W none := noFl_nil W
theorem NoneSt.nm1 {w W : World} (h : NoneSt w W) : NoFl W (some ⟨w.heap.size, 0, none⟩) := noFl_zero W _ h.p2
theorem none_start (w : World) (zs : Array Value) (hz : zs[0]? = some (.pointer none)) : NoneSt w ((w.alloc (.cells zs 42)).alloc (.cells #[.pointer none, .pointer (some ⟨w.heap.size, 0, none⟩)] 26)) := by
  refine ⟨?_, by rw [row_cell (heap_alloc2_new w _ _)]; rfl, by rw [row_cell (heap_alloc2_new w _ _)]; rfl, by rw [row_cell (heap_alloc2_old w _ _)]; exact hz⟩
  have q := (Below.refl w.heap.size w).alloc (Nat.le_refl _) (.cells zs 42)
  exact q.alloc q.size _
set_option maxRecDepth 10000 in
set_option maxHeartbeats 4000000 in
theorem CryptNone_any (n : Int) (A : Option Addr) (m c : Nat) (w : World) :
    Calls Try.prog 4 #[.int .i64 n, .slice A m c] w fun r w' => r = .returned (.bool true) ∧ Below w.heap.size w w' := by
  go_enter Try.func4, Try.ntmps4
  go_wp2_with fail
  have HS : Hid (NoneSt w _) := none_start w #[.pointer none, .pointer none, .int .i64 0, .nilFunc] rfl
  have q0 := HS.out.p0
  have q1 := HS.out.p1
  generalize ((w.alloc (.cells #[.pointer none, .pointer none, .int .i64 0, .nilFunc] 42)).alloc (.cells #[.pointer none, .pointer (some ⟨w.heap.size, 0, none⟩)] 26)) = W1 at HS q0 q1 ⊢
  refine wp_loop_rounds 3 ?_
  rw [rounds_succ]
  go_wp2_with (first
    | (go_at_call 11; refine (ReadAt_nm none n n _ HS.out.nm0).mono ?_; rintro r W2 ⟨rfl, rfl⟩)
    | (go_at_call 12; refine (Append_nm none A m c _ HS.out.nm0).mono ?_; rintro r W2 ⟨rfl, rfl⟩)
    | (go_at_call 17; refine (Sync_nm none _ HS.out.nm0).mono ?_; rintro r W2 ⟨rfl, rfl⟩)
    | (go_at_call 13; refine (Truncate_nm none n _ HS.out.nm0).mono ?_; rintro r W2 ⟨rfl, rfl⟩)
    | (go_at_call 14; refine (Size_nm none _ HS.out.nm0).mono ?_; rintro r W2 ⟨rfl, rfl⟩)
    | (go_at_call 18; refine (Plain_nm none _ HS.out.nm0).mono ?_; rintro r W2 ⟨rfl, rfl⟩))
  rw [rounds_succ]
  go_wp2_with (first
    | (go_at_call 11; refine (ReadAt_nm (some ⟨w.heap.size, 0, none⟩) n n _ HS.out.nm1).mono ?_; rintro r W2 ⟨rfl, rfl⟩)
    | (go_at_call 12; refine (Append_nm (some ⟨w.heap.size, 0, none⟩) A m c _ HS.out.nm1).mono ?_; rintro r W2 ⟨rfl, rfl⟩)
    | (go_at_call 17; refine (Sync_nm (some ⟨w.heap.size, 0, none⟩) _ HS.out.nm1).mono ?_; rintro r W2 ⟨rfl, rfl⟩)
    | (go_at_call 13; refine (Truncate_nm (some ⟨w.heap.size, 0, none⟩) n _ HS.out.nm1).mono ?_; rintro r W2 ⟨rfl, rfl⟩)
    | (go_at_call 14; refine (Size_nm (some ⟨w.heap.size, 0, none⟩) _ HS.out.nm1).mono ?_; rintro r W2 ⟨rfl, rfl⟩)
    | (go_at_call 18; refine (Plain_nm (some ⟨w.heap.size, 0, none⟩) _ HS.out.nm1).mono ?_; rintro r W2 ⟨rfl, rfl⟩))
  rw [rounds_succ]
  go_wp2_with (go_at_call 16; refine (awake_any _).mono ?_; rintro r W9 ⟨rfl, b9⟩; have B9 := hid (bel_trans HS.out.bel b9))
  go_ret
  exact ⟨rfl, B9.out⟩
end Go.Proofs.Ytpeepohiajmhcaa
