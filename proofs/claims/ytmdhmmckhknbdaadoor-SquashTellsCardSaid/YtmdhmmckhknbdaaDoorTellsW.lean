/-
  The walk of SquashTells: both curves are the document's, the examples hold.
-/
import Derived.Test.YtmdhmmckhknbdaaDoorAwk
import Derived.Test.YtmdhmmckhknbdaaDoorLai
import Derived.Test.YtmdhmmckhknbdaaDoorRf
namespace Go.Proofs.YtmdhmmckhknbdaaDoor
open Go.RowKit

set_option maxRecDepth 10000 in
set_option maxHeartbeats 1000000 in
theorem tells_any (d p : Int) (w : World) (hk : KnIs w) (h1 : -9223372036854775808 ≤ d) (h2 : d ≤ 9223372036854775807) :
    Calls Tryd.prog 3 #[.int .i64 d, .int .i64 p] w fun e w' => e = .returned (.bool true) ∧ Below w.heap.size w w' := by
  go_enter Tryd.func3, Tryd.ntmps3
  go_wp2_with fail
  refine (squash_bel d w hk h1 h2).mono ?_
  rintro e w1 ⟨rfl, b1⟩
  have k1 := hk.below b1
  go_wp2_with fail
  refine (refSquash_any d w1 h1 h2).mono ?_
  rintro e w2 ⟨rfl, b2⟩
  have k2 := k1.below b2
  go_wp2_with fail
  refine (stretch_any p w2 k2).mono ?_
  rintro e w3 ⟨rfl, b3⟩
  have k3 := k2.below b3
  go_wp2_with fail
  refine (refStretch_any p w3).mono ?_
  rintro e w4 ⟨rfl, b4⟩
  have k4 := k3.below b4
  go_wp2_with fail
  refine (awake_any w4 k4).mono ?_
  rintro e w5 ⟨rfl, b5⟩
  go_wp2_with fail
  go_ret
  have B2 := b1.trans (b2.mono b1.size)
  have B3 := B2.trans (b3.mono B2.size)
  have B4 := B3.trans (b4.mono B3.size)
  exact ⟨rfl, B4.trans (b5.mono B4.size)⟩
end Go.Proofs.YtmdhmmckhknbdaaDoor
