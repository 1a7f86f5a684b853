/-
  ModelBack's walk.
-/
import Derived.Test.YtnanmdfbgoahjaaAwn
namespace Go.Proofs.Ytnanmdfbgoahjaa
open Go.RowKit

set_option maxRecDepth 10000 in
set_option maxHeartbeats 4000000 in
theorem Back_big (w : World) (h m ph pm : Int) (Pa Ca Qa Ba : Option Addr) (n i j t Pc Cc Qc Bc : Nat) (hb : 300 < n ∨ 10000 < i ∨ 10000 < j ∨ 20000 < t) (h1 : n ≤ 9223372036854775807) (h2 : i ≤ 9223372036854775807) (h3 : j ≤ 9223372036854775807) (h4 : t ≤ 9223372036854775807) :
    Calls Try.prog 4 #[.agg #[.int .i64 h, .int .i64 m, .int .i64 ph, .int .i64 pm, .slice Pa n Pc, .slice Ca i Cc, .slice Qa j Qc], .slice Ba t Bc] w fun e w' => e = .returned (.bool true) ∧ Below w.heap.size w w' := by
  have HW := hid awake_any
  by_cases z1 : (300 : Int) < (n : Int)
  · clear hb
    go_enter Try.func4, Try.ntmps4
    go_wp2_with (go_at_call 5; refine (HW.out _).mono ?_; rintro e w2 ⟨rfl, b2⟩)
    go_ret
    exact ⟨rfl, bel_alloc b2⟩
  by_cases z2 : (10000 : Int) < (i : Int)
  · clear hb
    go_enter Try.func4, Try.ntmps4
    go_wp2_with (go_at_call 5; refine (HW.out _).mono ?_; rintro e w2 ⟨rfl, b2⟩)
    go_ret
    exact ⟨rfl, bel_alloc b2⟩
  by_cases z3 : (10000 : Int) < (j : Int)
  · clear hb
    go_enter Try.func4, Try.ntmps4
    go_wp2_with (go_at_call 5; refine (HW.out _).mono ?_; rintro e w2 ⟨rfl, b2⟩)
    go_ret
    exact ⟨rfl, bel_alloc b2⟩
  have z4 : (20000 : Int) < (t : Int) := by omega
  clear hb
  go_enter Try.func4, Try.ntmps4
  go_wp2_with (go_at_call 5; refine (HW.out _).mono ?_; rintro e w2 ⟨rfl, b2⟩)
  go_ret
  exact ⟨rfl, bel_alloc b2⟩
end Go.Proofs.Ytnanmdfbgoahjaa
