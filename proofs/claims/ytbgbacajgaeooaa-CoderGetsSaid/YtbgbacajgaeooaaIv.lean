/-
  The interval's contracts: cut, take, shed; likely; whole.
-/
import Derived.Test.YtbgbacajgaeooaaBse
import Derived.Test.YtbgbacajgaeooaaCdn
namespace Go.Proofs.Ytbgbacajgaeooaa
open Go.RowKit

theorem cut_num (x d p : Nat) (h : x + d / 65536 * p + d % 65536 * p / 65536 < 4294967296) (hp : p ≤ 65535) :
    (((x : Int) + (d : Int) / 65536 * (p : Int)) % 4294967296 + (d : Int) % 65536 * (p : Int) % 4294967296 / 65536) % 4294967296 = ((x + d / 65536 * p + d % 65536 * p / 65536 : Nat) : Int) := by
  obtain ⟨A, hA⟩ : ∃ A, A = d / 65536 * p := ⟨_, rfl⟩
  obtain ⟨B, hB⟩ : ∃ B, B = d % 65536 * p := ⟨_, rfl⟩
  have a : (d : Int) / 65536 * (p : Int) = (A : Int) := by rw [hA]; simp
  have b : (d : Int) % 65536 * (p : Int) = (B : Int) := by rw [hB]; simp
  have hB2 : B ≤ 65535 * 65535 := by rw [hB]; exact Nat.mul_le_mul (by omega) hp
  rw [a, b, ← hA, ← hB]
  rw [← hA, ← hB] at h
  omega
set_option maxRecDepth 10000 in
set_option maxHeartbeats 1000000 in
theorem cut_any (g x y p : Nat) (w : World) (hx : w.cell? ⟨g, 1, none⟩ = some (.int .u32 (x : Nat))) (hy : w.cell? ⟨g, 2, none⟩ = some (.int .u32 (y : Nat))) (hv : IvOk x y) (h1 : 1 ≤ p) (h2 : p ≤ 65535) :
    Calls Try.prog 29 #[.pointer (some ⟨g, 1, none⟩), .int .i64 (p : Nat)] w fun r w' => r = .returned (.int .u32 (cutM x y p : Nat)) ∧ ∃ k, w' = w.drewN k := by
  obtain ⟨d, hd⟩ : ∃ d, d = y - x := ⟨_, rfl⟩
  have hle := hv.le
  have hlt := hv.lt
  have e1 : IntKind.u32.wrap ((y : Int) - (x : Int)) = (d : Int) := by rw [IntKind.wrap_u32]; omega
  have e2 : IntKind.u32.wrap (p : Int) = (p : Int) := by rw [IntKind.wrap_u32]; omega
  have hm : cutM x y p = x + d / 65536 * p + d % 65536 * p / 65536 := by rw [hd]; rfl
  have hc := (cut_in x y p hv h1 h2).2
  have Hm := hid (show (((x : Int) + (d : Int) / 65536 * (p : Int)) % 4294967296 + (d : Int) % 65536 * (p : Int) % 4294967296 / 65536) % 4294967296 = ((cutM x y p : Nat) : Int) by rw [hm]; exact cut_num x d p (by omega) h2)
  clear hv hm hc
  go_enter Try.func29, Try.ntmps29
  go_wp2_with fail
  go_quiet (fail)
  go_wp2_with fail
  go_ret
  rw [← hd, ← Hm.out]
  exact ⟨rfl, _, rfl⟩
set_option maxRecDepth 10000 in
set_option maxHeartbeats 1000000 in
theorem take_one (g m : Nat) (u : Value) (w : World) (hy : w.cell? ⟨g, 2, none⟩ = some u) (hf : w.frozen? ⟨g, 2, none⟩ = false) :
    Calls Try.prog 28 #[.pointer (some ⟨g, 1, none⟩), .int .i64 1, .int .u32 (m : Nat)] w fun r w' => r = .returned noResult ∧ w' = w.setCell ⟨g, 2, none⟩ (.int .u32 (m : Nat)) := by
  go_enter Try.func28, Try.ntmps28
  go_wp2_with fail
  go_end0
  exact ⟨rfl, rfl⟩
set_option maxRecDepth 10000 in
set_option maxHeartbeats 1000000 in
theorem take_nought (g m : Nat) (u : Value) (w : World) (hy : w.cell? ⟨g, 1, none⟩ = some u) (hf : w.frozen? ⟨g, 1, none⟩ = false) (hm : m + 1 < 4294967296) :
    Calls Try.prog 28 #[.pointer (some ⟨g, 1, none⟩), .int .i64 0, .int .u32 (m : Nat)] w fun r w' => r = .returned noResult ∧ w' = w.setCell ⟨g, 1, none⟩ (.int .u32 ((m + 1 : Nat) : Int)) := by
  have e : ((m : Int) + 1) % 4294967296 = ((m + 1 : Nat) : Int) := by omega
  go_enter Try.func28, Try.ntmps28
  go_wp2_with fail
  go_end0
  exact ⟨rfl, rfl⟩
theorem or_byte (z b : Nat) (hb : b < 256) : bits BinOp.or IntKind.u32 ((z : Int) * 256 % 4294967296) (b : Int) = ((z * 256 % 4294967296 + b : Nat) : Int) := by
  have e1 : (z : Int) * 256 % 4294967296 = ((z % 16777216 * 256 : Nat) : Int) := by omega
  rw [e1, u32_or_nat _ _ (by omega) (by omega)]
  have e2 : z % 16777216 * 256 ||| b = z % 16777216 * 256 + b := by
    have := Nat.two_pow_add_eq_or_of_lt (i := 8) (b := b) (by omega) (z % 16777216)
    rw [Nat.mul_comm (z % 16777216) 256]
    exact this.symm
  rw [e2]
  omega
theorem or255 (y : Nat) : bits BinOp.or IntKind.u32 ((y : Int) * 256 % 4294967296) 255 = ((sy y : Nat) : Int) := by
  have := or_byte y 255 (by omega)
  rw [show (255 : Int) = ((255 : Nat) : Int) from rfl, this]
  unfold sy
  omega
theorem shl8 (x : Nat) : (x : Int) * 256 % 4294967296 = ((sx x : Nat) : Int) := by unfold sx; omega
theorem cells2 (x0 x1 : Value) : (Try.prog.info? 53).map (·.size) = some (#[x0, x1] : Array Value).size := by
  show _ = some 2
  kernel_rfl
set_option maxRecDepth 10000 in
set_option maxHeartbeats 1000000 in
theorem shed_stop (g x y : Nat) (w : World) (hx : w.cell? ⟨g, 1, none⟩ = some (.int .u32 (x : Nat))) (hy : w.cell? ⟨g, 2, none⟩ = some (.int .u32 (y : Nat))) (hxl : x < 4294967296) (hyl : y < 4294967296) (ht : x / 16777216 ≠ y / 16777216) :
    Calls Try.prog 30 #[.pointer (some ⟨g, 1, none⟩)] w fun r w' => r = .returned (.tuple #[.int .u8 0, .bool false]) ∧ w' = w := by
  have hne : ((x : Int) / 16777216 == (y : Int) / 16777216) = false := by
    simp only [beq_eq_false_iff_ne, ne_eq]; omega
  have hne2 : ((x : Int) / 16777216 != (y : Int) / 16777216) = true := by simp only [bne_iff_ne, ne_eq]; omega
  go_enter Try.func30, Try.ntmps30
  go_wp2_with fail
  go_ret2
  exact ⟨rfl, rfl⟩
set_option maxRecDepth 10000 in
set_option maxHeartbeats 1000000 in
theorem shed_go (g x y : Nat) (w : World) (hx : w.cell? ⟨g, 1, none⟩ = some (.int .u32 (x : Nat))) (hy : w.cell? ⟨g, 2, none⟩ = some (.int .u32 (y : Nat))) (_hxl : x < 4294967296) (hyl : y < 4294967296) (ht : x / 16777216 = y / 16777216) (fx : w.frozen? ⟨g, 1, none⟩ = false) (fy : w.frozen? ⟨g, 2, none⟩ = false) :
    Calls Try.prog 30 #[.pointer (some ⟨g, 1, none⟩)] w fun r w' => r = .returned (.tuple #[.int .u8 (x / 16777216 : Nat), .bool true]) ∧ ∃ k, w' = ((w.setCell ⟨g, 1, none⟩ (.int .u32 (sx x : Nat))).setCell ⟨g, 2, none⟩ (.int .u32 (sy y : Nat))).drewN k := by
  have hx8 := shl8 x
  have hy8 := or255 y
  go_enter Try.func30, Try.ntmps30
  go_wp2_with fail
  go_region
  go_wp2_with fail
  go_ret2
  exact ⟨rfl, 1, rfl⟩
set_option maxRecDepth 10000 in
set_option maxHeartbeats 1000000 in
theorem likely_any (p : Int) (w : World) : Calls Try.prog 27 #[.int .i64 p] w fun r w' => r = .returned (.bool (decide (1 ≤ p ∧ p ≤ 65535))) ∧ w = w' := by
  by_cases h1 : 1 ≤ p
  · by_cases h2 : p ≤ 65535
    · go_enter Try.func27, Try.ntmps27
      go_wp2_with fail
      go_ret
      exact ⟨by simp [h1, h2], rfl⟩
    · have h3 : 65535 < p := by omega
      go_enter Try.func27, Try.ntmps27
      go_wp2_with fail
      go_ret
      exact ⟨by simp [h2], rfl⟩
  · have h3 : p < 1 := by omega
    go_enter Try.func27, Try.ntmps27
    go_wp2_with fail
    go_ret
    exact ⟨by simp; omega, rfl⟩
set_option maxRecDepth 10000 in
set_option maxHeartbeats 1000000 in
theorem whole_any (w : World) : Calls Try.prog 25 #[] w fun r w' => r = .returned (.agg #[.int .u32 0, .int .u32 4294967295]) ∧ Below w.heap.size w w' := by
  go_enter Try.func25, Try.ntmps25
  go_wp2_with fail
  refine bodyPost_ret (results_cell_row (by kernel_rfl : Try.f25.results = #[.cell 0 53]) _ _ w.heap.size 53 #[.int .u32 0, .int .u32 4294967295] (0, 0) _ rfl (heap_alloc_new w _) Try.underlying53 rfl (cells2 _ _)) rfl ⟨rfl, ?_⟩
  exact (Below.refl _ w).alloc (Nat.le_refl _) _
end Go.Proofs.Ytbgbacajgaeooaa
