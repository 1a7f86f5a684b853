/-
  DiskPlays: too many bytes, and a disk that may not be.
-/
import Derived.Test.YtgccjclloomfgaaRar
import Derived.Test.YtgccjclloomfgaaAwk
import Derived.LaidEqlPtr
namespace Go.Proofs.Ytgccjclloomfgaa
open Go.RowKit

set_option maxRecDepth 10000 in
set_option maxHeartbeats 4000000 in
theorem DiskPlays_big (most : Int) (AF : Option Addr) (nF cF : Nat) (A : Option Addr) (n c : Nat) (w : World) (h5 : (5000 : Int) < (nF : Int)) :
    Calls Try.prog 4 #[.int .i64 most, .slice AF nF cF, .slice A n c] w fun r w' => r = .returned (.bool true) ∧ Below w.heap.size w w' := by
  go_enter Try.func4, Try.ntmps4
  go_wp2_with (go_at_call 21; (with_reducible refine (awake_any w).mono ?_); rintro x W4 ⟨rfl, b4⟩)
  go_ret
  exact ⟨rfl, b4⟩
set_option maxRecDepth 10000 in
set_option maxHeartbeats 4000000 in
theorem DiskPlays_bad (most : Int) (AF : Option Addr) (nF cF : Nat) (A : Option Addr) (n c : Nat) (w : World) (h5 : ¬ (5000 : Int) < (nF : Int)) (hm : ¬ LdOk most nF) :
    Calls Try.prog 4 #[.int .i64 most, .slice AF nF cF, .slice A n c] w fun r w' => r = .returned (.bool true) ∧ Below w.heap.size w w' := by
  have H1 := hid (Load_bad most AF nF cF w hm)
  have H2 := hid (RLoad_bad most AF nF cF w hm)
  have kn : ∀ w : World, (binOp BinOp.eql 22 (.pointer none) (.pointer none)).run Try.prog w = .ok (.bool true) w := by intro w; kernel_rfl
  clear hm
  go_enter Try.func4, Try.ntmps4
  go_wp2_with (first
    | (go_at_call 14; (with_reducible refine H1.out.mono ?_); rintro x w' ⟨rfl, rfl⟩)
    | (go_at_call 22; (with_reducible refine H2.out.mono ?_); rintro x W1 ⟨rfl, b1⟩; have B1 := hid b1; clear b1)
    | (go_at_call 21; refine (awake_any _).mono ?_; rintro x W4 ⟨rfl, b4⟩))
  go_ret
  refine ⟨rfl, ?_⟩
  have b2 := B1.out.alloc (o := .cells #[.int .i64 0, .slice none 0 0, .slice none 0 0, .int .i64 0, .bool false, .int .i64 0, .int .i64 0, .int .i64 0] 43) B1.out.size
  exact b2.trans (b4.mono b2.size)
end Go.Proofs.Ytgccjclloomfgaa
