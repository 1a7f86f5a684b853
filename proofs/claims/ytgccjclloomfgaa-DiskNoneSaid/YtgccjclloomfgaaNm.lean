/-
  The disk's calls of a disk that New did not make.
-/
import Derived.Test.YtgccjclloomfgaaAwk
namespace Go.Proofs.Ytgccjclloomfgaa
open Go.RowKit

/-- 'made' tells no, whatever is laid behind. -/
def NotMade (w : World) (o : Option Addr) : Prop := ∀ W, Below w.heap.size w W → Calls Try.prog 39 #[.pointer o] W fun r w' => r = .returned (.bool false) ∧ W = w'
theorem notMade_nil (w : World) : NotMade w none := fun W _ => made_nil W
theorem notMade_zero (w : World) (g : Nat) (c0 : w.cell? ⟨g, 0, none⟩ = some (.pointer none)) : NotMade w (some ⟨g, 0, none⟩) := fun W hb => made_zero g W ((hb.cell (lt_of_cell c0)).trans c0)
theorem NotMade.on {w w' : World} {o : Option Addr} (h : NotMade w o) (b : Below w.heap.size w w') : NotMade w' o := fun W hb => h W (bel_trans b hb)
set_option maxRecDepth 10000 in
set_option maxHeartbeats 1000000 in
theorem Append_nm (o : Option Addr) (A : Option Addr) (n c : Nat) (w : World) (h : NotMade w o) :
    Calls Try.prog 10 #[.pointer o, .slice A n c] w fun r w' => r = .returned (.int .i64 1) ∧ Below w.heap.size w w' := by
  have hb : Below w.heap.size w ((w.alloc (.cells #[.pointer o] 22)).alloc (.cells #[.slice A n c] 27)) := ((Below.refl _ w).alloc (Nat.le_refl _) _).alloc (by simp <;> omega) _
  have HM := hid (h _ hb)
  have HB := hid hb
  clear h hb
  go_enter Try.func10, Try.ntmps10
  go_wp2_with (go_at_call 39; refine HM.out.mono ?_; rintro r w' ⟨rfl, rfl⟩)
  go_ret
  exact ⟨rfl, HB.out⟩
set_option maxRecDepth 10000 in
set_option maxHeartbeats 1000000 in
theorem Sync_nm (o : Option Addr)  (w : World) (h : NotMade w o) :
    Calls Try.prog 18 #[.pointer o] w fun r w' => r = .returned (.int .i64 1) ∧ Below w.heap.size w w' := by
  have hb : Below w.heap.size w (w.alloc (.cells #[.pointer o] 22)) := (Below.refl _ w).alloc (Nat.le_refl _) _
  have HM := hid (h _ hb)
  have HB := hid hb
  clear h hb
  go_enter Try.func18, Try.ntmps18
  go_wp2_with (go_at_call 39; refine HM.out.mono ?_; rintro r w' ⟨rfl, rfl⟩)
  go_ret
  exact ⟨rfl, HB.out⟩
set_option maxRecDepth 10000 in
set_option maxHeartbeats 1000000 in
theorem ReadAt_nm (o : Option Addr) (i n : Int) (w : World) (h : NotMade w o) :
    Calls Try.prog 15 #[.pointer o, .int .i64 i, .int .i64 n] w fun r w' => r = .returned (.tuple #[.slice none 0 0, .int .i64 1]) ∧ Below w.heap.size w w' := by
  have hb : Below w.heap.size w (((w.alloc (.cells #[.pointer o] 22)).alloc (.cells #[.int .i64 i] 3)).alloc (.cells #[.int .i64 n] 3)) := (((Below.refl _ w).alloc (Nat.le_refl _) _).alloc (by simp <;> omega) _).alloc (by simp <;> omega) _
  have HM := hid (h _ hb)
  have HB := hid hb
  clear h hb
  go_enter Try.func15, Try.ntmps15
  go_wp2_with (go_at_call 39; refine HM.out.mono ?_; rintro r w' ⟨rfl, rfl⟩)
  go_ret2
  exact ⟨rfl, HB.out⟩
set_option maxRecDepth 10000 in
set_option maxHeartbeats 1000000 in
theorem Truncate_nm (o : Option Addr) (n : Int) (w : World) (h : NotMade w o) :
    Calls Try.prog 9 #[.pointer o, .int .i64 n] w fun r w' => r = .returned (.int .i64 1) ∧ Below w.heap.size w w' := by
  have hb : Below w.heap.size w ((w.alloc (.cells #[.pointer o] 22)).alloc (.cells #[.int .i64 n] 3)) := ((Below.refl _ w).alloc (Nat.le_refl _) _).alloc (by simp <;> omega) _
  have HM := hid (h _ hb)
  have HB := hid hb
  clear h hb
  go_enter Try.func9, Try.ntmps9
  go_wp2_with (go_at_call 39; refine HM.out.mono ?_; rintro r w' ⟨rfl, rfl⟩)
  go_ret
  exact ⟨rfl, HB.out⟩
set_option maxRecDepth 10000 in
set_option maxHeartbeats 1000000 in
theorem Crash_nm (o : Option Addr) (k : Int) (A : Option Addr) (n c : Nat) (w : World) (h : NotMade w o) :
    Calls Try.prog 20 #[.pointer o, .agg #[.int .i64 k, .slice A n c]] w fun r w' => r = .returned (.int .i64 1) ∧ Below w.heap.size w w' := by
  have hb : Below w.heap.size w (w.alloc (.cells #[.int .i64 k, .slice A n c] 40)) := (Below.refl _ w).alloc (Nat.le_refl _) _
  have HM := hid (h _ hb)
  have HB := hid hb
  clear h hb
  go_enter Try.func20, Try.ntmps20
  go_wp2_with (go_at_call 39; refine HM.out.mono ?_; rintro r w' ⟨rfl, rfl⟩)
  go_ret
  exact ⟨rfl, HB.out⟩
set_option maxRecDepth 10000 in
set_option maxHeartbeats 1000000 in
theorem Arm_nm (o : Option Addr) (n : Int) (w : World) (h : NotMade w o) :
    Calls Try.prog 16 #[.pointer o, .int .i64 n] w fun r w' => r = .returned (.int .i64 1) ∧ Below w.heap.size w w' := by
  have hb : Below w.heap.size w w := Below.refl _ w
  have HM := hid (h _ hb)
  have HB := hid hb
  clear h hb
  go_enter Try.func16, Try.ntmps16
  go_wp2_with (go_at_call 39; refine HM.out.mono ?_; rintro r w' ⟨rfl, rfl⟩)
  go_ret
  exact ⟨rfl, HB.out⟩
set_option maxRecDepth 10000 in
set_option maxHeartbeats 1000000 in
theorem Fail_nm (o : Option Addr) (n x : Int) (w : World) (h : NotMade w o) :
    Calls Try.prog 17 #[.pointer o, .int .i64 n, .int .i64 x] w fun r w' => r = .returned (.int .i64 1) ∧ Below w.heap.size w w' := by
  have hb : Below w.heap.size w w := Below.refl _ w
  have HM := hid (h _ hb)
  have HB := hid hb
  clear h hb
  go_enter Try.func17, Try.ntmps17
  go_wp2_with (go_at_call 39; refine HM.out.mono ?_; rintro r w' ⟨rfl, rfl⟩)
  go_ret
  exact ⟨rfl, HB.out⟩
set_option maxRecDepth 10000 in
set_option maxHeartbeats 1000000 in
theorem Size_nm (o : Option Addr)  (w : World) (h : NotMade w o) :
    Calls Try.prog 34 #[.pointer o] w fun r w' => r = .returned (.int .i64 0) ∧ Below w.heap.size w w' := by
  have hb : Below w.heap.size w w := Below.refl _ w
  have HM := hid (h _ hb)
  have HB := hid hb
  clear h hb
  go_enter Try.func34, Try.ntmps34
  go_wp2_with (go_at_call 39; refine HM.out.mono ?_; rintro r w' ⟨rfl, rfl⟩)
  go_ret
  exact ⟨rfl, HB.out⟩
set_option maxRecDepth 10000 in
set_option maxHeartbeats 1000000 in
theorem Synced_nm (o : Option Addr)  (w : World) (h : NotMade w o) :
    Calls Try.prog 11 #[.pointer o] w fun r w' => r = .returned (.int .i64 0) ∧ Below w.heap.size w w' := by
  have hb : Below w.heap.size w w := Below.refl _ w
  have HM := hid (h _ hb)
  have HB := hid hb
  clear h hb
  go_enter Try.func11, Try.ntmps11
  go_wp2_with (go_at_call 39; refine HM.out.mono ?_; rintro r w' ⟨rfl, rfl⟩)
  go_ret
  exact ⟨rfl, HB.out⟩
set_option maxRecDepth 10000 in
set_option maxHeartbeats 1000000 in
theorem Image_nm (o : Option Addr)  (w : World) (h : NotMade w o) :
    Calls Try.prog 35 #[.pointer o] w fun r w' => r = .returned (.slice none 0 0) ∧ Below w.heap.size w w' := by
  have hb : Below w.heap.size w w := Below.refl _ w
  have HM := hid (h _ hb)
  have HB := hid hb
  clear h hb
  go_enter Try.func35, Try.ntmps35
  go_wp2_with (go_at_call 39; refine HM.out.mono ?_; rintro r w' ⟨rfl, rfl⟩)
  go_ret
  exact ⟨rfl, HB.out⟩
set_option maxRecDepth 10000 in
set_option maxHeartbeats 1000000 in
theorem Down_nm (o : Option Addr)  (w : World) (h : NotMade w o) :
    Calls Try.prog 19 #[.pointer o] w fun r w' => r = .returned (.bool false) ∧ Below w.heap.size w w' := by
  have hb : Below w.heap.size w w := Below.refl _ w
  have HM := hid (h _ hb)
  have HB := hid hb
  clear h hb
  go_enter Try.func19, Try.ntmps19
  go_wp2_with (go_at_call 39; refine HM.out.mono ?_; rintro r w' ⟨rfl, rfl⟩)
  go_ret
  exact ⟨rfl, HB.out⟩
set_option maxRecDepth 10000 in
set_option maxHeartbeats 1000000 in
theorem Copy_nm (o : Option Addr)  (w : World) (h : NotMade w o) :
    Calls Try.prog 31 #[.pointer o] w fun r w' => r = .returned (.pointer none) ∧ Below w.heap.size w w' := by
  have hb : Below w.heap.size w w := Below.refl _ w
  have HM := hid (h _ hb)
  have HB := hid hb
  clear h hb
  go_enter Try.func31, Try.ntmps31
  go_wp2_with (go_at_call 39; refine HM.out.mono ?_; rintro r w' ⟨rfl, rfl⟩)
  go_ret
  exact ⟨rfl, HB.out⟩
end Go.Proofs.Ytgccjclloomfgaa
