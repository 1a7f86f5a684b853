/-
  The contract of block.
-/
import Derived.Test.YtnifhgcdpgokhaaXor
namespace Go.Proofs.Ytnifhgcdpgokhaa
open Go.RowKit

set_option maxRecDepth 10000 in
set_option maxHeartbeats 2000000 in
theorem block_any (g : Nat) (K : List UInt8) (A : Option Addr) (s : List UInt8) (n c i r : Nat) (w : World) (hk : KeyAt w g K) (h : IsBB w w.heap.size A n c s) (hi : i < 4294967296) (hr : 1 ≤ r) (hr2 : r ≤ 1000) :
    Calls Try.prog 19 #[firstV g, .slice A n c, .int .u32 (i : Nat), .int .i64 (r : Nat)] w fun e w' => e = .returned (.agg ((blockL K s r i).map bv).toArray) ∧ Below w.heap.size w w' := by
  have Hl := hid (And.intro h.len h.small)
  have r0 : (w.alloc (.cells z32 30)).heap[w.heap.size]? = some (.cells z32 30 (0, 0)) := heap_alloc_new w _
  have b0 : Below w.heap.size w (w.alloc (.cells z32 30)) := (Below.refl w.heap.size w).alloc (Nat.le_refl _) _
  have s0 : (w.alloc (.cells z32 30)).heap.size = w.heap.size + 1 := by simp
  have Hr0 := hid r0
  have Hb0 := hid b0
  have Hs0 := hid s0
  have HA := hid (h.on b0)
  have HKw := hid hk
  have hiz : (i : Int) ≤ 4294967295 := by omega
  have hrz : (1 : Int) ≤ r := by omega
  have hrz2 : (r : Int) ≤ 1000 := by omega
  have Hir := hid (And.intro hi (And.intro hr hr2))
  clear r0 b0 s0 h hk hi hr hr2
  go_enter Try.func19, Try.ntmps19
  go_upto_region 1 with (fail)
  change Code.wp _ _ _ _ (w.alloc (.cells z32 30))
  generalize (w.alloc (.cells z32 30)) = W0 at Hr0 Hb0 Hs0 HA ⊢
  go_wp2_with fail
  rw [be4_cells i Hir.out.1]
  have b1 : Below W0.heap.size W0 (W0.alloc (.cells ((be4L i).map bv).toArray 5)) := (Below.refl _ _).alloc (Nat.le_refl _) _
  have s1 : (W0.alloc (.cells ((be4L i).map bv).toArray 5)).heap.size = W0.heap.size + 1 := by simp
  have h1 : IsBB (W0.alloc (.cells ((be4L i).map bv).toArray 5)) (W0.alloc (.cells ((be4L i).map bv).toArray 5)).heap.size (some ⟨W0.heap.size, 0, none⟩) 4 4 (be4L i) := arr_isBB (l := be4L i) (heap_alloc_new W0 _) (by show 4 ≤ 1000; omega)
  have hA1 := HA.out.on b1
  obtain ⟨W1, hW1⟩ : ∃ W1, W1 = W0.alloc (.cells ((be4L i).map bv).toArray 5) := ⟨_, rfl⟩
  rw [← hW1] at b1 s1 h1 hA1
  rw [← hW1, ← s1]
  have b2 : Below W1.heap.size W1 (W1.alloc (.cells #[.slice A n c, .slice (some ⟨W0.heap.size, 0, none⟩) 4 4] 22)) := (Below.refl _ _).alloc (Nat.le_refl _) _
  have hP := parts_two (heap_alloc_new W1 _) (hA1.on b2) (h1.on b2)
  have q1 : Below w.heap.size w W1 := Hb0.out.trans (b1.mono Hb0.out.size)
  have q2 : Below w.heap.size w (W1.alloc (.cells #[.slice A n c, .slice (some ⟨W0.heap.size, 0, none⟩) 4 4] 22)) := q1.trans (b2.mono q1.size)
  have hR : (W1.alloc (.cells #[.slice A n c, .slice (some ⟨W0.heap.size, 0, none⟩) 4 4] 22)).heap[w.heap.size]? = some (.cells z32 30 (0, 0)) := by
    have e1 := Hs0.out
    rw [b2.block _ (by omega), b1.block _ (by omega)]; exact Hr0.out
  have HP := hid hP
  have HQ2 := hid q2
  have HR := hid hR
  clear hW1 b1 s1 h1 hA1 b2 hP q1 q2 hR HA Hr0 Hb0 Hs0
  generalize (W1.alloc (.cells #[.slice A n c, .slice (some ⟨W0.heap.size, 0, none⟩) 4 4] 22)) = W2 at HP HQ2 HR ⊢
  generalize W1.heap.size = g2 at HP ⊢
  refine (under_two g K _ s (be4L i) _ (HKw.out.on HQ2.out) HP.out (by have := Hl.out; rw [List.length_append]; show _ + 4 ≤ _; omega)).mono ?_
  rintro e W3 ⟨rfl, hb3⟩
  have q3 : Below w.heap.size w W3 := HQ2.out.trans (hb3.mono HQ2.out.size)
  have HR3 : Hid (W3.heap[w.heap.size]? = some (.cells z32 30 (0, 0))) := (hb3.block _ (lt_of_heap HR.out)).trans HR.out
  have hl3 : w.heap.size < W3.heap.size := lt_of_heap HR3.out
  have HQ3 := hid q3
  have HL3 := hid hl3
  have HU : Hid (uN K s i 0 = hmacK K (s ++ be4L i)) := by show _ = _; rfl
  have HY := hid (uN_len K s i 0)
  rw [← HU.out]
  obtain ⟨u, hu⟩ : ∃ u, u = uN K s i 0 := ⟨_, rfl⟩
  rw [← hu] at HY
  rw [← hu]
  have Hu := hid hu
  clear hu hb3 q3 hl3 HP HQ2 HR HU
  go_upto_region 2 with (refine wpList_store_row (o := ⟨none, .store 30 (.tmp 9) (.tmp 28), _, _, _, _⟩) rfl 30 (.tmp 9) (.tmp 28) rfl W3.heap.size (u.map bv).toArray rfl rfl 30 z32 (heap_alloc_new W3 _) (size32 _ (map_len32 HY.out)) (z32_size _ (map_len32 HY.out)) (bv_all _) ?_)
  change Code.wp _ _ _ _ ((W3.alloc (.cells z32 30)).setRow W3.heap.size (u.map bv).toArray)
  have r4 : ((W3.alloc (.cells z32 30)).setRow W3.heap.size (u.map bv).toArray).heap[W3.heap.size]? = some (.cells (u.map bv).toArray 30 (0, 0)) := setRow_heap _ _ _ _ _ _ (heap_alloc_new W3 _)
  have q4 : Below w.heap.size w ((W3.alloc (.cells z32 30)).setRow W3.heap.size (u.map bv).toArray) := below_setRow (HQ3.out.alloc HQ3.out.size _) HQ3.out.size _
  have o4 : ((W3.alloc (.cells z32 30)).setRow W3.heap.size (u.map bv).toArray).heap[w.heap.size]? = some (.cells z32 30 (0, 0)) := by
    have e := HL3.out
    rw [setRow_other _ _ _ _ (by omega), heap_alloc_old _ _ (by omega)]; exact HR3.out
  generalize ((W3.alloc (.cells z32 30)).setRow W3.heap.size (u.map bv).toArray) = W4 at r4 q4 o4 ⊢
  generalize W3.heap.size = g9 at r4 HL3 ⊢
  have HR4 := hid r4
  have HQ4 := hid q4
  have HO4 := hid o4
  clear r4 q4 o4 HQ3 HR3
  go_upto_region 3 with (first
    | (refine wpList_load_row rfl 30 (.tmp 9) rfl g9 rfl 30 (u.map bv).toArray (0, 0) _ HR4.out Try.underlying30 rfl (size32 _ (map_len32 HY.out)) ?_)
    | (refine wpList_store_row (o := ⟨none, .store 30 (.tmp 10) (.tmp 29), _, _, _, _⟩) rfl 30 (.tmp 10) (.tmp 29) rfl W4.heap.size (u.map bv).toArray rfl rfl 30 z32 (heap_alloc_new W4 _) (size32 _ (map_len32 HY.out)) (z32_size _ (map_len32 HY.out)) (bv_all _) ?_))
  have S : BlkSt w ((W4.alloc (.cells z32 30)).setRow W4.heap.size (u.map bv).toArray) g9 W4.heap.size u u := by
    have e9 := lt_of_heap HR4.out
    have e0 := lt_of_heap HO4.out
    refine ⟨below_setRow (HQ4.out.alloc HQ4.out.size _) HQ4.out.size _, HL3.out, by omega, by omega, HY.out, HY.out, ?_, ?_, setRow_heap _ _ _ _ _ _ (heap_alloc_new W4 _)⟩
    · rw [setRow_other _ _ _ _ (by omega), heap_alloc_old _ _ (by omega)]; exact HO4.out
    · rw [setRow_other _ _ _ _ (by omega), heap_alloc_old _ _ (by omega)]; exact HR4.out
  change Code.wp _ _ _ _ ((W4.alloc (.cells z32 30)).setRow W4.heap.size (u.map bv).toArray)
  generalize ((W4.alloc (.cells z32 30)).setRow W4.heap.size (u.map bv).toArray) = W5 at S ⊢
  generalize W4.heap.size = g10 at S ⊢
  have HS := hid S
  clear S HR4 HQ4 HO4 HL3
  go_wp2_with fail
  go_loopw [32] (fun iv wr => ∃ j : Nat, j ≤ r - 1 ∧ iv = .int .i64 j ∧ Hid (BlkSt w wr g9 g10 (uN K s i j) (xN K s i j))) (fun iv _ => r - (intOf iv).toNat)
  case atStart =>
    refine ⟨0, Nat.zero_le _, rfl, ?_⟩
    have e := HS.out
    rw [Hu.out] at e
    exact e
  case round =>
    obtain ⟨j, hj, rfl, hs⟩ := hrel
    clear HS Hu HY
    by_cases hlt : j < r - 1
    · have hlz : (j : Int) < (r : Int) - 1 := by have := Hir.out; omega
      have hU := hid (uN_len K s i j)
      have HU2 : Hid (uN K s i (j + 1) = hmacK K (uN K s i j)) := by show _ = _; rfl
      have HX2 : Hid (xN K s i (j + 1) = xorL (xN K s i j) (uN K s i (j + 1))) := by show _ = _; rfl
      obtain ⟨u, hu⟩ : ∃ u, u = uN K s i j := ⟨_, rfl⟩
      obtain ⟨x, hx⟩ : ∃ x, x = xN K s i j := ⟨_, rfl⟩
      obtain ⟨u2, hu2⟩ : ∃ u2, u2 = uN K s i (j + 1) := ⟨_, rfl⟩
      obtain ⟨x2, hx2⟩ : ∃ x2, x2 = xN K s i (j + 1) := ⟨_, rfl⟩
      rw [← hu, ← hx] at hs
      rw [← hu] at hU
      rw [← hu2, ← hu] at HU2
      rw [← hx2, ← hx, ← hu2] at HX2
      have Hux := hid (And.intro hu2 hx2)
      have b5 : Below wr.heap.size wr (wr.alloc (.cells #[.slice (some ⟨g9, 0, none⟩) 32 32] 22)) := (Below.refl _ _).alloc (Nat.le_refl _) _
      have hI := arr_isBB hs.out.r9 (by rw [hU.out]; omega)
      rw [hU.out] at hI
      have HP := hid (parts_one (heap_alloc_new wr _) (hI.on b5))
      have HS5 := hid (hs.out.on b5)
      clear hu hx hu2 hx2 b5 hI
      go_wp2_with fail
      change Calls _ _ _ (wr.alloc (.cells #[.slice (some ⟨g9, 0, none⟩) 32 32] 22)) _
      generalize (wr.alloc (.cells #[.slice (some ⟨g9, 0, none⟩) 32 32] 22)) = W6 at HP HS5 ⊢
      generalize wr.heap.size = g6 at HP ⊢
      refine (under_one g K _ u _ (HKw.out.on HS5.out.bel) HP.out (by rw [hU.out]; omega)).mono ?_
      rintro e W7 ⟨rfl, hb7⟩
      have HS7 := hid (HS5.out.on hb7)
      have HY2 := hid (hmacK_len K u)
      rw [← HU2.out]
      rw [← HU2.out] at HY2
      clear hb7 HS5 HP hs
      go_upto_region 6 with (refine wpList_store_row (o := ⟨none, .store 30 (.tmp 9) (.tmp 37), _, _, _, _⟩) rfl 30 (.tmp 9) (.tmp 37) rfl g9 (u2.map bv).toArray rfl rfl 30 (u.map bv).toArray HS7.out.r9 (size32 _ (map_len32 HY2.out)) (by simp [hU.out, HY2.out]) (bv_all _) ?_)
      have S8 := HS7.out.set9 u2 HY2.out
      change Code.wp _ _ _ _ (W7.setRow g9 (u2.map bv).toArray)
      generalize W7.setRow g9 (u2.map bv).toArray = W8 at S8 ⊢
      have HS8 := hid S8
      clear S8 HS7
      go_wp2_with (refine wpList_load_row rfl 30 (.tmp 9) rfl g9 rfl 30 (u2.map bv).toArray (0, 0) _ HS8.out.r9 Try.underlying30 rfl (size32 _ (map_len32 HY2.out)) ?_)
      obtain ⟨wo, rfl⟩ : ∃ wo : World, wo = wr := ⟨_, rfl⟩
      have HLx := hid HS8.out.lx
      go_loopw [39] (fun iv wr => ∃ k : Nat, k ≤ 32 ∧ iv = .int .i64 k ∧ Hid (BlkSt w wr g9 g10 u2 (xorP x u2 k))) (fun iv _ => 32 - (intOf iv).toNat)
      case atStart => exact ⟨0, Nat.zero_le _, rfl, by show BlkSt _ _ _ _ _ _; rw [xorP_zero]; exact HS8.out⟩
      case round =>
        obtain ⟨k, hk, rfl, hs⟩ := hrel
        clear HS8
        by_cases hlt2 : k < 32
        · have hkz : (k : Int) < 32 := by omega
          have hxk : k < x.length := by rw [HLx.out]; exact hlt2
          have huk : k < u2.length := by rw [HY2.out]; exact hlt2
          have hix := fun w => ix30 u2 k hlt2 _ (map_bv_getElem? u2 k huk) w
          have hc : wr.cell? ⟨g10, k, none⟩ = some (.int .u8 (x[k].toNat : Nat)) := by
            rw [row_cell hs.out.r10 k, List.getElem?_toArray, List.getElem?_map, xorP_get x u2 k HLx.out HY2.out hlt2]; rfl
          have hf := row_free hs.out.r10 k
          have hn := hs.out.set10 k (x[k] ^^^ u2[k])
          rw [xorP_set x u2 k HLx.out HY2.out hlt2] at hn
          have q := u8_xor_nat x[k].toNat u2[k].toNat (UInt8.toNat_lt _) (UInt8.toNat_lt _)
          have hv : bv (x[k] ^^^ u2[k]) = .int .u8 ((x[k].toNat ^^^ u2[k].toNat : Nat) : Int) := by simp [bv]
          rw [hv] at hn
          have hn2 := hid hn
          have hx2 : x[k].toNat ^^^ u2[k].toNat < 256 := Nat.xor_lt_two_pow (n := 8) (UInt8.toNat_lt _) (UInt8.toNat_lt _)
          generalize x[k].toNat ^^^ u2[k].toNat = y at q hx2 hn2
          generalize x[k].toNat = a at q hc
          generalize u2[k].toNat = b at q hix
          clear hv hn
          go_wp2_with fail
          go_roundw
          case rel => exact ⟨k + 1, by omega, by go_num, hn2⟩
          case measure => simp [intOf]; omega
        · obtain rfl : k = 32 := by omega
          have HSe : Hid (BlkSt w wr g9 g10 u2 x2) := by
            have e := hs.out
            rw [xorP_end x u2 HLx.out HY2.out, ← HX2.out] at e
            exact e
          go_wp2_with fail
          go_roundw
          case rel =>
            refine ⟨j + 1, by omega, by go_num, ?_⟩
            have e := HSe.out
            rw [Hux.out.1, Hux.out.2] at e
            exact e
          case measure => simp [intOf]; omega
    · obtain rfl : j = r - 1 := by omega
      have hlz : ((r - 1 : Nat) : Int) = (r : Int) - 1 := by have := Hir.out; omega
      have HB : Hid (blockL K s r i = xN K s i (r - 1)) := by show _ = _; rfl
      have HLx := hid hs.out.lx
      rw [← HB.out] at hs HLx
      clear HB
      obtain ⟨y, hy⟩ : ∃ y, y = blockL K s r i := ⟨_, rfl⟩
      rw [← hy] at hs HLx
      have Hy := hid hy
      clear hy
      go_wp2_with (first
        | (refine wpList_load_row rfl 30 (.tmp 10) rfl g10 rfl 30 (y.map bv).toArray (0, 0) _ hs.out.r10 Try.underlying30 rfl (size32 _ (map_len32 HLx.out)) ?_)
        | (refine wpList_store_row (o := ⟨none, .store 30 (.tmp 8) (.tmp 51), _, _, _, _⟩) rfl 30 (.tmp 8) (.tmp 51) rfl w.heap.size (y.map bv).toArray rfl rfl 30 z32 hs.out.out (size32 _ (map_len32 HLx.out)) (z32_size _ (map_len32 HLx.out)) (bv_all _) ?_))
      refine bodyPost_ret (results_cell_row (by kernel_rfl : Try.f19.results = #[.cell 8 30]) _ _ w.heap.size 30 (y.map bv).toArray (0, 0) _ rfl (setRow_heap _ _ _ _ _ _ hs.out.out) Try.underlying30 rfl (size32 _ (map_len32 HLx.out))) rfl ⟨by rw [Hy.out], ?_⟩
      exact below_setRow hs.out.bel (Nat.le_refl _) _
end Go.Proofs.Ytnifhgcdpgokhaa
