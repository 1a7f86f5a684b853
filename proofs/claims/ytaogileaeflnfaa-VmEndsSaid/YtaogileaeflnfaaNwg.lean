/-
  The contract of New, where the numbers are right.
-/
import Derived.Test.YtaogileaeflnfaaNwm
import Derived.Deep.RegionHeld3
set_option linter.unusedVariables false
set_option linter.unusedSimpArgs false
namespace Go.Proofs.Ytaogileaeflnfaa
open Go.RowKit

theorem i64n (n : Nat) (h : n ≤ 5000) : IntKind.i64.wrap (n : Int) = n ∧ wrap64 (n : Int) = n := ⟨IntWalk.i64_in _ (by omega), by unfold wrap64; omega⟩
set_option maxRecDepth 10000 in
set_option maxHeartbeats 8000000 in
theorem New_good (h m : Nat) (hh : h ≤ 8) (hm : m ≤ 12) (w : World) : Calls Try.prog 8 #[.int .i64 (h : Int), .int .i64 (m : Int)] w (NewAt w (2 ^ h) (2 ^ m)) := by
  have zv := zero30
  have zl : zL.length = 263 := mc_len _ _ _
  have q1 : 2 ^ h ≤ 5000 := Nat.le_trans (Nat.pow_le_pow_right (n := 2) (by omega) hh) (by decide)
  have q2 : 2 ^ m ≤ 5000 := Nat.le_trans (Nat.pow_le_pow_right (n := 2) (by omega) hm) (by decide)
  have p1 : (2 : Int) ^ h = ((2 ^ h : Nat) : Int) := (Int.natCast_pow 2 h).symm
  have p2 : (2 : Int) ^ m = ((2 ^ m : Nat) : Int) := (Int.natCast_pow 2 m).symm
  generalize 2 ^ h = A at q1 p1 ⊢
  generalize 2 ^ m = B at q2 p2 ⊢
  have e1 : wrap64 (2 ^ h) = (A : Int) := by rw [p1]; exact (i64n A q1).2
  have e2 : wrap64 (2 ^ m) = (B : Int) := by rw [p2]; exact (i64n B q2).2
  have e1' : IntKind.i64.wrap (2 ^ h) = (A : Int) := by rw [p1]; exact (i64n A q1).1
  have e2' : IntKind.i64.wrap (2 ^ m) = (B : Int) := by rw [p2]; exact (i64n B q2).1
  clear p1 p2
  have m1 := make_h A q1
  have m2 := make_m B q2
  have hz1 : (h : Int) ≤ 8 := Int.ofNat_le.2 hh
  have hz2 : (m : Int) ≤ 12 := Int.ofNat_le.2 hm
  have d1 : decide ((8 : Int) < (h : Int)) = false := decide_eq_false (Int.not_lt.2 hz1)
  have d2 : decide ((12 : Int) < (m : Int)) = false := decide_eq_false (Int.not_lt.2 hz2)
  have X1 : ∀ o1 o2, (storeCells ⟨w.heap.size, 0, none⟩ ((zL.set 261 (Value.slice (some ⟨w.heap.size + 1, 0, none⟩) A A)).set 262 (Value.slice (some ⟨w.heap.size + 1 + 1, 0, none⟩) B B))).run Try.prog (((w.alloc (Obj.cells zL.toArray 30)).alloc o1).alloc o2).drew = .ok () ((((w.alloc (Obj.cells zL.toArray 30)).alloc o1).alloc o2).drew.setRow w.heap.size (mcL zM (Value.slice (some ⟨w.heap.size + 1, 0, none⟩) A A) (Value.slice (some ⟨w.heap.size + 1 + 1, 0, none⟩) B B)).toArray) := fun o1 o2 => by
    rw [set30]
    exact sc30 _ _ _ (mc_len _ _ _) (one30 _ _ _ _ _ _ _) (new_row w o1 o2)
  have X2 : ∀ o1 o2, (storeCells ⟨w.heap.size, 0, none⟩ ((zL.set 261 (Value.slice (some ⟨w.heap.size + 1 + 1, 0, none⟩) A A)).set 262 (Value.slice (some ⟨w.heap.size + 1, 0, none⟩) B B))).run Try.prog (((w.alloc (Obj.cells zL.toArray 30)).alloc o1).alloc o2).drew = .ok () ((((w.alloc (Obj.cells zL.toArray 30)).alloc o1).alloc o2).drew.setRow w.heap.size (mcL zM (Value.slice (some ⟨w.heap.size + 1 + 1, 0, none⟩) A A) (Value.slice (some ⟨w.heap.size + 1, 0, none⟩) B B)).toArray) := fun o1 o2 => by
    rw [set30]
    exact sc30 _ _ _ (mc_len _ _ _) (one30 _ _ _ _ _ _ _) (new_row w o1 o2)
  have Y1 := hid (new_at1 w A B q1 q2 _ rfl)
  have Y2 := hid (new_at2 w A B q1 q2 _ rfl)
  generalize mcL zM (Value.slice (some ⟨w.heap.size + 1, 0, none⟩) A A) (Value.slice (some ⟨w.heap.size + 1 + 1, 0, none⟩) B B) = L1 at *
  generalize mcL zM (Value.slice (some ⟨w.heap.size + 1 + 1, 0, none⟩) A A) (Value.slice (some ⟨w.heap.size + 1, 0, none⟩) B B) = L2 at *
  generalize zL = Z at *
  go_enter Try.func8, Try.ntmps8
  go_upto_region 3 with fail
  go_region
  · go_wp2_with fail
    refine bodyPost_ret (results_30_1 (by kernel_rfl : Try.f8.results = #[.cell 4 30, .tmp 5]) _ _ w.heap.size L1 rfl Y1.out.1 Y1.out.2.1) rfl ?_
    exact Y1.out.2.2
  · go_wp2_with fail
    refine bodyPost_ret (results_30_1 (by kernel_rfl : Try.f8.results = #[.cell 4 30, .tmp 5]) _ _ w.heap.size L2 rfl Y2.out.1 Y2.out.2.1) rfl ?_
    exact Y2.out.2.2
end Go.Proofs.Ytaogileaeflnfaa
