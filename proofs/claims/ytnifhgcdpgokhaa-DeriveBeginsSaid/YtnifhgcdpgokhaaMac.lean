/-
  The contract of Hmac.
-/
import Derived.Test.YtnifhgcdpgokhaaUnder
namespace Go.Proofs.Ytnifhgcdpgokhaa
open Go.RowKit

theorem under_one (g : Nat) (K : List UInt8) (ad : Addr) (x : List UInt8) (w : World) (hk : KeyAt w g K) (h : PartsIn w w.heap.size ad [x]) (ht : x.length ≤ 700000000000000) :
    Calls Try.prog 22 #[firstV g, .slice (some ad) 1 1] w fun e w' => e = .returned (.agg ((hmacK K x).map bv).toArray) ∧ Below w.heap.size w w' := by
  have e : [x].flatten = x := by simp
  have q := under_any g K ad [x] 1 1 w hk rfl (by omega) h (by rw [e]; exact ht)
  rw [e] at q
  exact q
theorem z32_len : z32.size = 32 := by kernel_rfl

set_option maxRecDepth 10000 in
set_option maxHeartbeats 1000000 in
theorem Hmac_any (A B : Option Addr) (l b : List UInt8) (n c m d : Nat) (w : World) (h : IsBB w w.heap.size A n c l) (hb : IsBB w w.heap.size B m d b) :
    Calls Try.prog 12 #[.slice A n c, .slice B m d] w fun e w' => e = .returned (.agg ((hmac l b).map bv).toArray) ∧ Below w.heap.size w w' := by
  have Hl := hid (And.intro hb.len hb.small)
  have r0 : (w.alloc (.cells z32 30)).heap[w.heap.size]? = some (.cells z32 30 (0, 0)) := heap_alloc_new w _
  have b0 : Below w.heap.size w (w.alloc (.cells z32 30)) := (Below.refl w.heap.size w).alloc (Nat.le_refl _) _
  have s0 : (w.alloc (.cells z32 30)).heap.size = w.heap.size + 1 := by simp
  have Hr0 := hid r0
  have Hb0 := hid b0
  have Hs0 := hid s0
  have HA := hid (h.on b0)
  have HB := hid (hb.on b0)
  clear r0 b0 s0 h hb
  go_enter Try.func12, Try.ntmps12
  go_upto_region 1 with (fail)
  change Code.wp _ _ _ _ (w.alloc (.cells z32 30))
  generalize (w.alloc (.cells z32 30)) = W0 at Hr0 Hb0 Hs0 HA HB ⊢
  go_wp2_with fail
  refine (firstOf_any _ l _ _ _ HA.out).mono ?_
  rintro e W1 ⟨g, rfl, hk, hb1, _⟩
  have HW1 := hid hb1
  have hb2 : Below W1.heap.size W1 (W1.alloc (.cells #[.slice B m d] 22)) := (Below.refl _ _).alloc (Nat.le_refl _) _
  have HK := hid (hk.on hb2)
  have HP := hid (parts_one (heap_alloc_new W1 (.cells #[.slice B m d] 22)) ((HB.out.on hb1).on hb2))
  have HQ : Hid (Below w.heap.size w (W1.alloc (.cells #[.slice B m d] 22))) := (Hb0.out.trans (hb1.mono Hb0.out.size)).trans (hb2.mono (Nat.le_trans Hb0.out.size hb1.size))
  have HR : Hid ((W1.alloc (.cells #[.slice B m d] 22)).heap[w.heap.size]? = some (.cells z32 30 (0, 0))) := by
    have e1 := Hs0.out
    have e2 := hb1.size
    show _ = _
    rw [heap_alloc_old _ _ (by omega), hb1.block _ (by omega)]; exact Hr0.out
  clear hk hb1 hb2 HW1
  go_wp2_with fail
  change Calls _ _ _ (W1.alloc (.cells #[.slice B m d] 22)) _
  generalize (W1.alloc (.cells #[.slice B m d] 22)) = W2 at HK HP HQ HR ⊢
  generalize W1.heap.size = g2 at HP ⊢
  refine (under_one g (keyL l) _ b _ HK.out HP.out (by have := Hl.out; omega)).mono ?_
  rintro e W3 ⟨rfl, hb3⟩
  have HR3 : Hid (W3.heap[w.heap.size]? = some (.cells z32 30 (0, 0))) := (hb3.block _ (lt_of_heap HR.out)).trans HR.out
  have HQ3 : Hid (Below w.heap.size w W3) := HQ.out.trans (hb3.mono HQ.out.size)
  have HY := hid (hmacK_len (keyL l) b)
  clear hb3
  go_wp2_with (refine wpList_store_row (o := ⟨none, .store 30 (.tmp 4) (.tmp 9), _, _, _, _⟩) rfl 30 (.tmp 4) (.tmp 9) rfl w.heap.size ((hmacK (keyL l) b).map bv).toArray rfl rfl 30 z32 HR3.out (size32 _ (map_len32 HY.out)) (z32_size _ (map_len32 HY.out)) (bv_all _) ?_)
  refine bodyPost_ret (results_cell_row (by kernel_rfl : Try.f12.results = #[.cell 4 30]) _ _ w.heap.size 30 ((hmacK (keyL l) b).map bv).toArray (0, 0) _ rfl (setRow_heap _ _ _ _ _ _ HR3.out) Try.underlying30 rfl (size32 _ (map_len32 HY.out))) rfl ⟨rfl, ?_⟩
  exact below_setRow HQ3.out (Nat.le_refl _) _
end Go.Proofs.Ytnifhgcdpgokhaa
