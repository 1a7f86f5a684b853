/-
  The walk of DigestNone.
-/
import Derived.Test.YtgdofhidjfeehaaNil
import Derived.Test.YtgdofhidjfeehaaEq
namespace Go.Proofs.Ytgdofhidjfeehaa
open Go.RowKit

theorem built38 : (Try.prog.built 38 []).getD #[] = z38 := by kernel_rfl
theorem built23 : (Try.prog.built 23 []).getD #[] = z32 := by kernel_rfl
theorem eqz (w : World) : (Op.equalIn 10000 23 (.agg z32) (.agg #[.int .u8 0, .int .u8 0, .int .u8 0, .int .u8 0, .int .u8 0, .int .u8 0, .int .u8 0, .int .u8 0, .int .u8 0, .int .u8 0, .int .u8 0, .int .u8 0, .int .u8 0, .int .u8 0, .int .u8 0, .int .u8 0, .int .u8 0, .int .u8 0, .int .u8 0, .int .u8 0, .int .u8 0, .int .u8 0, .int .u8 0, .int .u8 0, .int .u8 0, .int .u8 0, .int .u8 0, .int .u8 0, .int .u8 0, .int .u8 0, .int .u8 0, .int .u8 0])).run Try.prog w = .ok true w := eq_same (List.replicate 32 0) rfl w
theorem below_cell {B : Nat} {w w' : World} (h : Below B w w') {p : Addr} {v : Value} (hp : p.block < B) (hc : w.cell? p = some v) : w'.cell? p = some v := (h.cell hp).trans hc
set_option maxRecDepth 10000 in
set_option maxHeartbeats 1000000 in
theorem none_walk (A : Option Addr) (n c : Nat) (w : World) : Calls Try.prog 5 #[.slice A n c] w fun e w' => e = .returned (.bool true) ∧ Below w.heap.size w w' := by
  go_enter Try.func5, Try.ntmps5
  go_wp2_with (refine wpList_build rfl 38 _ rfl (by kernel_rfl) ?_)
  rw [built38]
  have p0 : ((w.alloc (.cells z38 38)).alloc (.cells #[.pointer none, .pointer (some ⟨w.heap.size, 0, none⟩)] 32)).cell? ⟨w.heap.size + 1, 0, none⟩ = some (.pointer none) := by rw [row_cell (heap_alloc2_new w _ _)]; rfl
  have p1 : ((w.alloc (.cells z38 38)).alloc (.cells #[.pointer none, .pointer (some ⟨w.heap.size, 0, none⟩)] 32)).cell? ⟨w.heap.size + 1, 1, none⟩ = some (.pointer (some ⟨w.heap.size, 0, none⟩)) := by rw [row_cell (heap_alloc2_new w _ _)]; rfl
  have p2 : ((w.alloc (.cells z38 38)).alloc (.cells #[.pointer none, .pointer (some ⟨w.heap.size, 0, none⟩)] 32)).cell? ⟨w.heap.size, 0, none⟩ = some (.bool false) := by rw [row_cell (heap_alloc2_old w _ _)]; rfl
  have b1 : Below w.heap.size w ((w.alloc (.cells z38 38)).alloc (.cells #[.pointer none, .pointer (some ⟨w.heap.size, 0, none⟩)] 32)) := by
    have q := (Below.refl w.heap.size w).alloc (Nat.le_refl _) (.cells z38 38)
    exact q.alloc q.size _
  have s1 : ((w.alloc (.cells z38 38)).alloc (.cells #[.pointer none, .pointer (some ⟨w.heap.size, 0, none⟩)] 32)).heap.size = w.heap.size + 2 := by simp
  generalize ((w.alloc (.cells z38 38)).alloc (.cells #[.pointer none, .pointer (some ⟨w.heap.size, 0, none⟩)] 32)) = W1 at p0 p1 p2 b1 s1 ⊢
  have Hb1 := hid b1
  have Hs1 := hid s1
  have Hp1 := hid p1
  have Hp2 := hid p2
  clear b1 s1 p1 p2
  have ez := eqz
  refine wp_loop_rounds 3 ?_
  rw [rounds_succ]
  go_wp2_with fail
  refine (Write_nil _ _ _ _).mono ?_
  rintro e W2 ⟨rfl, rfl⟩
  go_wp2_with fail
  refine (Sum_nil _).mono ?_
  rintro e W3 ⟨rfl, hb3⟩
  have q1 : W3.cell? ⟨w.heap.size + 1, 1, none⟩ = some (.pointer (some ⟨w.heap.size, 0, none⟩)) := below_cell hb3 (by show w.heap.size + 1 < _; have := Hs1.out; omega) Hp1.out
  have q2 : W3.cell? ⟨w.heap.size, 0, none⟩ = some (.bool false) := below_cell hb3 (by show w.heap.size < _; have := Hs1.out; omega) Hp2.out
  have Hb3 := hid hb3
  clear hb3
  go_wp2_with fail
  refine (Len_nil _).mono ?_
  rintro e W4 ⟨rfl, rfl⟩
  go_wp2_with fail
  rw [rounds_succ]
  go_wp2_with fail
  refine (Write_zero _ _ _ _ _ q2).mono ?_
  rintro e W5 ⟨rfl, rfl⟩
  go_wp2_with fail
  refine (Sum_zero _ _ q2).mono ?_
  rintro e W6 ⟨rfl, hb6⟩
  have r2 : W6.cell? ⟨w.heap.size, 0, none⟩ = some (.bool false) := below_cell hb6 (by show w.heap.size < _; have := Hs1.out; have := Hb3.out.size; omega) q2
  have Hb6 := hid hb6
  clear hb6
  go_wp2_with fail
  refine (Len_zero _ _ r2).mono ?_
  rintro e W7 ⟨rfl, rfl⟩
  go_wp2_with fail
  rw [rounds_succ]
  go_wp2_with fail
  refine (awake_any _).mono ?_
  rintro e W8 ⟨rfl, hb8⟩
  have Hb8 := hid hb8
  clear hb8
  go_wp2_with fail
  go_ret
  refine ⟨rfl, ?_⟩
  have t1 : Below w.heap.size w W3 := Hb1.out.trans (Hb3.out.mono Hb1.out.size)
  have t2 : Below w.heap.size w W6 := t1.trans (Hb6.out.mono t1.size)
  exact t2.trans (Hb8.out.mono t2.size)
end Go.Proofs.Ytgdofhidjfeehaa
