/-
  The walk of StatesTell: counts, what follows, the chance are the document's; the examples hold.
-/
import Derived.Test.YtjecnpipnbmoaaaAwk
namespace Go.Proofs.Ytjecnpipnbmoaaa
open Go.RowKit

set_option maxRecDepth 10000 in
set_option maxHeartbeats 1000000 in
theorem tells_any (s : Nat) (bit : Int) (hs : s < 256) (w : World) :
    Calls Try.prog 3 #[.int .u8 s, .int .i64 bit] w fun e w' => e = .returned (.bool true) ∧ Below w.heap.size w w' := by
  have H1 := hid (fun w => counts_any s hs w)
  have H2 := hid (fun w => refCounts_any s hs w)
  have H3 := hid (fun w => next_any s bit hs w)
  have H4 := hid (fun w => refNext_any s bit hs w)
  have H5 := hid (fun w => chance_any s hs w)
  have H6 := hid (fun w => refChance_any s hs w)
  generalize s / 16 = a at H1 H2
  generalize s % 16 = b at H1 H2
  generalize nxN s (oneB bit) = n at H3 H4
  generalize chN s = c at H5 H6
  go_enter Try.func3, Try.ntmps3
  go_wp2_with fail
  refine (H1.out _).mono ?_
  rintro e w1 ⟨rfl, rfl⟩
  go_wp2_with fail
  refine (H2.out _).mono ?_
  rintro e w2 ⟨rfl, rfl⟩
  go_wp2_with fail
  refine (H3.out _).mono ?_
  rintro e w3 ⟨rfl, b3⟩
  go_wp2_with fail
  refine (H4.out _).mono ?_
  rintro e w4 ⟨rfl, b4⟩
  go_wp2_with fail
  refine (H5.out _).mono ?_
  rintro e w5 ⟨rfl, b5⟩
  go_wp2_with fail
  refine (H6.out _).mono ?_
  rintro e w6 ⟨rfl, b6⟩
  go_wp2_with fail
  refine (awake_any w6).mono ?_
  rintro e w7 ⟨rfl, b7⟩
  go_wp2_with fail
  go_ret
  have B4 := b3.trans (b4.mono b3.size)
  have B5 := B4.trans (b5.mono B4.size)
  have B6 := B5.trans (b6.mono B5.size)
  exact ⟨rfl, B6.trans (b7.mono B6.size)⟩
end Go.Proofs.Ytjecnpipnbmoaaa
