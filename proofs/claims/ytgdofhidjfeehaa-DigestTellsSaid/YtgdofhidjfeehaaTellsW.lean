/-
  The walk of DigestTells.
-/
import Derived.Test.YtgdofhidjfeehaaRefOf
import Derived.Test.YtgdofhidjfeehaaAwake
import Derived.Test.YtgdofhidjfeehaaEq
namespace Go.Proofs.Ytgdofhidjfeehaa
open Go.RowKit

set_option maxRecDepth 10000 in
set_option maxHeartbeats 1000000 in
theorem tells_long (A : Option Addr) (n c : Nat) (w : World) (h : 5000 < n) (_hm : n ≤ maxLen) :
    Calls Try.prog 4 #[.slice A n c] w fun e w' => e = .returned (.bool true) ∧ Below w.heap.size w w' := by
  have hz : (5000 : Int) < n := by omega

  go_enter Try.func4, Try.ntmps4
  go_wp2_with fail
  refine (awake_any _).mono ?_
  rintro e w1 ⟨rfl, hb⟩
  go_wp2_with fail
  go_ret
  exact ⟨rfl, hb⟩
set_option maxRecDepth 10000 in
set_option maxHeartbeats 1000000 in
theorem tells_walk (A : Option Addr) (l : List UInt8) (n c : Nat) (w : World) (h : IsBB w w.heap.size A n c l) (hn : n ≤ 5000) :
    Calls Try.prog 4 #[.slice A n c] w fun e w' => e = .returned (.bool true) ∧ Below w.heap.size w w' := by
  have hz : (n : Int) ≤ 5000 := by omega
  have H := hid h
  have ez := eq_same (sha l) (sha_len l)
  clear h
  go_enter Try.func4, Try.ntmps4
  go_wp2_with fail
  refine (LentBytes_any _ _ _ _ _ H.out (by omega)).mono ?_
  rintro e w1 ⟨g, c1, rfl, hN⟩
  have HN := hid hN
  have Hf := hid (hN.front H.out.len)
  have H1 := hid (H.out.on hN.bel)
  clear hN
  go_wp2_with fail
  refine (Of_any _ l _ _ _ Hf.out).mono ?_
  rintro e w2 ⟨rfl, hb2⟩
  have Hb2 := hid hb2
  have H2 := hid (H1.out.on hb2)
  clear hb2
  go_wp2_with fail
  refine (RefOf_any _ l _ _ _ H2.out (by omega)).mono ?_
  rintro e w3 ⟨rfl, hb3⟩
  have Hb3 := hid hb3
  have H3 := hid (H2.out.on hb3)
  have Hk := hid ((HN.out.isBB.on Hb2.out).on hb3)
  clear hb3
  go_wp2_with fail
  refine (KeptBytes_true _ l _ _ _ _ _ H3.out Hk.out).mono ?_
  rintro e w4 ⟨rfl, hb4⟩
  have Hb4 := hid hb4
  clear hb4
  go_wp2_with fail
  refine (awake_any _).mono ?_
  rintro e w5 ⟨rfl, hb5⟩
  have Hb5 := hid hb5
  clear hb5
  go_wp2_with fail
  go_ret
  refine ⟨rfl, ?_⟩
  have q1 := HN.out.bel
  have q2 : Below w.heap.size w w2 := q1.trans (Hb2.out.mono q1.size)
  have q3 : Below w.heap.size w w3 := q2.trans (Hb3.out.mono q2.size)
  have q4 : Below w.heap.size w w4 := q3.trans (Hb4.out.mono q3.size)
  exact q4.trans (Hb5.out.mono q4.size)
end Go.Proofs.Ytgdofhidjfeehaa
