/-
  The contract of Sum.
-/
import Derived.Test.YtnifhgcdpgokhaaNew
import Derived.Deep.Cut
namespace Go.Proofs.Ytnifhgcdpgokhaa
open Go.RowKit

set_option maxRecDepth 10000 in
set_option maxHeartbeats 4000000 in
theorem Sum_any (g : Nat) (l : List UInt8) (w : World) (hd : Dig w g l) (hl : (l.length : Int) ≤ 900000000000000) : Calls Try.prog 27 #[.pointer (some ⟨g, 0, none⟩)] w fun e w' => e = .returned (.agg ((sha l).map bv).toArray) ∧ Below w.heap.size w w' := by
  obtain ⟨b, h1, h2⟩ := hd
  have hm := h1.made
  have hs := h1.size
  have hlt := h1.lt
  have hlt2 : g < w.heap.size + 1 := by omega
  have hlt2' : g < (w.alloc (.cells z32 30)).heap.size := by simp; omega
  have H1 := hid (And.intro h1 h2)
  clear h1 h2
  go_enter Try.func27, Try.ntmps27
  go_upto_region 4 with (fail)
  have D0 : DigAt ((w.alloc (.cells z32 30)).alloc (.cells z32 30)) g (absN l (l.length / 64)) b l.length := H1.out.1.to (by rw [heap_alloc_old _ _ hlt2', heap_alloc_old _ _ hlt])
  have r0 : ((w.alloc (.cells z32 30)).alloc (.cells z32 30)).heap[w.heap.size]? = some (.cells z32 30 (0, 0)) := heap_alloc2_old w _ _
  have r1 : ((w.alloc (.cells z32 30)).alloc (.cells z32 30)).heap[w.heap.size + 1]? = some (.cells z32 30 (0, 0)) := heap_alloc2_new w _ _
  have b0 : Below w.heap.size w ((w.alloc (.cells z32 30)).alloc (.cells z32 30)) := by
    have q := (Below.refl w.heap.size w).alloc (Nat.le_refl _) (.cells z32 30)
    exact q.alloc q.size _
  have s0 : ((w.alloc (.cells z32 30)).alloc (.cells z32 30)).heap.size = w.heap.size + 2 := by simp
  change Code.wp _ _ _ _ ((w.alloc (.cells z32 30)).alloc (.cells z32 30))
  generalize ((w.alloc (.cells z32 30)).alloc (.cells z32 30)) = W0 at D0 r0 r1 b0 s0 ⊢
  have zv := zero38
  have HD0 := hid D0
  have Hr0 := hid r0
  have Hr1 := hid r1
  have Hs0 := hid s0
  have Hb0 := hid b0
  clear D0 r0 r1 s0 b0 hm hs
  go_upto_region 5 with (first
    | (refine wpList_load_row rfl 58 (.tmp 17) rfl g rfl 58 (digCells (absN l (l.length / 64)) b l.length).toArray (0, 0) _ HD0.out.2 Try.underlying58 rfl (digCells_info _ _ _ HD0.out.1) ?_)
    | (refine wpList_store_row (o := ⟨none, .store 58 (.tmp 4) (.tmp 18), _, _, _, _⟩) rfl 58 (.tmp 4) (.tmp 18) rfl W0.heap.size (digCells (absN l (l.length / 64)) b l.length).toArray rfl rfl 58 z38 (heap_alloc_new W0 _) (digCells_info _ _ _ HD0.out.1) (z38_size _ _ _ HD0.out.1) (digCells_one _ _ _) ?_))
  have B3 : Below W0.heap.size W0 ((W0.alloc (.cells z38 58)).setRow W0.heap.size (digCells (absN l (l.length / 64)) b l.length).toArray) :=
    below_setRow ((Below.refl _ _).alloc (Nat.le_refl _) _) (Nat.le_refl _) _
  have D3 : DigAt ((W0.alloc (.cells z38 58)).setRow W0.heap.size (digCells (absN l (l.length / 64)) b l.length).toArray) W0.heap.size (absN l (l.length / 64)) b l.length :=
    ⟨HD0.out.1, setRow_heap _ _ _ _ _ _ (heap_alloc_new W0 _)⟩
  have S3 : ((W0.alloc (.cells z38 58)).setRow W0.heap.size (digCells (absN l (l.length / 64)) b l.length).toArray).heap.size = W0.heap.size + 1 := by simp
  generalize ((W0.alloc (.cells z38 58)).setRow W0.heap.size (digCells (absN l (l.length / 64)) b l.length).toArray) = W3 at B3 D3 S3 ⊢
  have c137 : W3.cell? ⟨g, 137, none⟩ = some (.int .i64 (l.length : Nat)) := (HD0.out.to (B3.block g (by have := Hs0.out; omega))).size
  have HD3 : Hid (Dig W3 W0.heap.size l) := ⟨b, D3, H1.out.2⟩
  have HB3 := hid B3
  have HS3 := hid S3
  have Hln := hid hl
  clear B3 D3 S3 zv HD0 H1 hl hlt2'
  go_wp2_with (first
    | (go_at_call 36; refine (padding_any l.length _ (by have := Hln.out; omega)).mono ?_; rintro e W4 ⟨g4, rfl, hN⟩; have HN := hid hN; have HD4 : Hid (Dig W4 W0.heap.size l) := (HD3.out.to (HN.out.bel.block _ HD3.out.lt)); clear hN)
    | (go_at_call 26; refine (Write_any W0.heap.size l (pad l.length) _ _ _ _ HD4.out ⟨HN.out.isB, fun _ ad e => by cases e; exact ⟨by show g4 ≠ _; have := HN.out.row.1; have := HS3.out; omega, HN.out.row.2.1⟩⟩ (by have := Hln.out; have : noughts l.length < 64 := (by unfold noughts; omega); omega)).mono ?_; rintro e W5 ⟨rfl, hD5, hG5⟩))
  obtain ⟨b5, hA5, _⟩ := hD5
  have HA5 : Hid (DigAt W5 W0.heap.size (sumS l) b5 (l ++ pad l.length).length) := hA5
  have hOE : w.heap.size + 1 < W0.heap.size := by have := Hs0.out; omega
  have t4 : ∀ i, i < W0.heap.size → W5.heap[i]? = W0.heap[i]? := fun i hi => by
    have e3 := HB3.out.size
    have e4 := HN.out.bel.size
    rw [hG5.block i (by omega) (by intro e; cases e; omega), HN.out.bel.block i (by omega), HB3.out.block i hi]
  have R5 : Hid (W5.heap[w.heap.size]? = some (.cells z32 30 (0, 0))) := (t4 _ (by omega)).trans Hr0.out
  have O5 : W5.heap[w.heap.size + 1]? = some (.cells z32 30 (0, 0)) := (t4 _ hOE).trans Hr1.out
  have B5 : Hid (Below w.heap.size w W5) := ⟨hG5.os.trans (HN.out.bel.os.trans (HB3.out.os.trans Hb0.out.os)), hG5.tape.trans (HN.out.bel.tape.trans (HB3.out.tape.trans Hb0.out.tape)), hG5.output.trans (HN.out.bel.output.trans (HB3.out.output.trans Hb0.out.output)),
    Nat.le_trans Hb0.out.size (Nat.le_trans HB3.out.size (Nat.le_trans HN.out.bel.size hG5.size)), fun i hi => (t4 i (by omega)).trans (Hb0.out.block i hi)⟩
  have hok := absN_ok (padded l) ((padded l).length / 64)
  have HO5 := hid O5
  have Hok : Hid (sumS l).ok := hok
  have Hsha : Hid ((sha l).map bv = outL (sumS l) 32) := by
    show _ = _
    unfold sha outL
    simp
  generalize hgen : sumS l = s at HA5 Hok Hsha
  clear hgen hok O5 t4 hA5 hG5 HN HD4 HD3 HB3 HS3 Hr0 Hr1 Hb0 c137
  go_loopw [25] (fun i wr => ∃ k : Nat, k ≤ 32 ∧ i = .int .i64 k ∧ Hid (wr.heap[w.heap.size + 1]? = some (.cells (outL s k).toArray 30 (0, 0))) ∧ Hid (W5.grownBy wr (some (w.heap.size + 1)))) (fun i _ => 32 - (intOf i).toNat)
  case atStart => exact ⟨0, Nat.zero_le _, rfl, HO5, World.grownBy.refl _ _⟩
  case round =>
    obtain ⟨k, hk, rfl, hrow, hgr⟩ := hrel
    by_cases hlt3 : k < 32
    · obtain ⟨q, r, hqr, hr4, hq5⟩ : ∃ q r, k = 4 * q + r ∧ r < 4 ∧ q < 8 := ⟨k / 4, k % 4, by omega, by omega, by omega⟩
      have hcx : wr.cell? ⟨W0.heap.size, 1 + q, none⟩ = some (.int .u32 (nth s q : Nat)) := hgr.out.cell (nth_cell HA5.out q hq5) (by intro e; have e2 : W0.heap.size = w.heap.size + 1 := Option.some.inj e; omega)
      have hxl := nth_lt s Hok.out q
      have hset := outL_set s k hlt3
      have hlen := outL_len s k hk
      have hv := outB_val s q r hr4
      rw [hqr] at hset
      rw [hv] at hset
      rw [← hqr] at hset
      generalize nth s q = y at *
      obtain ⟨v0, hcell⟩ : ∃ v0, wr.cell? ⟨w.heap.size + 1, k, none⟩ = some v0 := ⟨(outL s k)[k]'(by omega), by rw [row_cell hrow.out k, List.getElem?_toArray, List.getElem?_eq_getElem (by omega)]⟩
      have hfree := row_free hrow.out k
      have hkq : (k : Int) / 4 = (q : Int) := by omega
      have hkz : (k : Int) < 32 := by omega
      have hqz : (q : Int) < 8 := by omega
      have hyz : (y : Int) ≤ 4294967295 := by omega
      have Hset := hid hset
      clear hset hlen hv hxl
      rcases (show r = 0 ∨ r = 1 ∨ r = 2 ∨ r = 3 by omega) with rfl | rfl | rfl | rfl
      · have hk4 : (k : Int) % 4 = 0 := by omega
        clear hqr
        go_wp2_with fail
        go_roundw
        case rel =>
          refine ⟨k + 1, by omega, by go_num, ?_, grown_trans hgr.out (grownBy_setCell _ _ _ _)⟩
          have e := row_set hrow.out k (.int .u8 ((y / 2 ^ (24 - 0 * 8) % 256 : Nat) : Int))
          rw [set_toArray, Hset.out] at e
          have ev : ((y / 2 ^ (24 - 0 * 8) % 256 : Nat) : Int) = (y : Int) / 16777216 := by
            show ((y / 16777216 % 256 : Nat) : Int) = _
            omega
          rw [ev] at e
          exact e
        case measure => simp [intOf]; omega
      · have hk4 : (k : Int) % 4 = 1 := by omega
        clear hqr
        go_wp2_with fail
        go_roundw
        case rel =>
          refine ⟨k + 1, by omega, by go_num, ?_, grown_trans hgr.out (grownBy_setCell _ _ _ _)⟩
          have e := row_set hrow.out k (.int .u8 ((y / 2 ^ (24 - 1 * 8) % 256 : Nat) : Int))
          rw [set_toArray, Hset.out] at e
          have ev : ((y / 2 ^ (24 - 1 * 8) % 256 : Nat) : Int) = (y : Int) / 65536 % 256 := by
            show ((y / 65536 % 256 : Nat) : Int) = _
            omega
          rw [ev] at e
          exact e
        case measure => simp [intOf]; omega
      · have hk4 : (k : Int) % 4 = 2 := by omega
        clear hqr
        go_wp2_with fail
        go_roundw
        case rel =>
          refine ⟨k + 1, by omega, by go_num, ?_, grown_trans hgr.out (grownBy_setCell _ _ _ _)⟩
          have e := row_set hrow.out k (.int .u8 ((y / 2 ^ (24 - 2 * 8) % 256 : Nat) : Int))
          rw [set_toArray, Hset.out] at e
          have ev : ((y / 2 ^ (24 - 2 * 8) % 256 : Nat) : Int) = (y : Int) / 256 % 256 := by
            show ((y / 256 % 256 : Nat) : Int) = _
            omega
          rw [ev] at e
          exact e
        case measure => simp [intOf]; omega
      · have hk4 : (k : Int) % 4 = 3 := by omega
        clear hqr
        go_wp2_with fail
        go_roundw
        case rel =>
          refine ⟨k + 1, by omega, by go_num, ?_, grown_trans hgr.out (grownBy_setCell _ _ _ _)⟩
          have e := row_set hrow.out k (.int .u8 ((y / 2 ^ (24 - 3 * 8) % 256 : Nat) : Int))
          rw [set_toArray, Hset.out] at e
          have ev : ((y / 2 ^ (24 - 3 * 8) % 256 : Nat) : Int) = (y : Int) % 256 := by
            show ((y / 1 % 256 : Nat) : Int) = _
            omega
          rw [ev] at e
          exact e
        case measure => simp [intOf]; omega
    · obtain rfl : k = 32 := by omega
      have hl32 := outL_len s 32 hk
      have HR : wr.heap[w.heap.size]? = some (.cells z32 30 (0, 0)) := by
        rw [hgr.out.block w.heap.size (by have := B5.out.size; have := Hs0.out; rcases Nat.lt_or_ge w.heap.size W5.heap.size with h | h; · exact h
                                          · have e := R5.out; rw [Array.getElem?_eq_none h] at e; cases e) (by intro e; have e2 : w.heap.size = w.heap.size + 1 := Option.some.inj e; omega)]
        exact R5.out
      have HRR := hid HR
      have HL := hid hl32
      clear HR hl32
      go_wp2_with (first
        | (refine wpList_load_row rfl 30 (.tmp 3) rfl (w.heap.size + 1) rfl 30 (outL s 32).toArray (0, 0) _ hrow.out Try.underlying30 rfl (size32 _ HL.out) ?_)
        | (refine wpList_store_row (o := ⟨none, .store 30 (.tmp 2) (.tmp 42), _, _, _, _⟩) rfl 30 (.tmp 2) (.tmp 42) rfl w.heap.size (outL s 32).toArray rfl rfl 30 z32 HRR.out (size32 _ HL.out) (z32_size _ HL.out) (outL_one s 32) ?_))
      refine bodyPost_ret (results_cell_row (by kernel_rfl : Try.f27.results = #[.cell 2 30]) _ _ w.heap.size 30 (outL s 32).toArray (0, 0) _ rfl (setRow_heap _ _ _ _ _ _ HRR.out) Try.underlying30 rfl (size32 _ HL.out)) rfl ⟨?_, ?_⟩
      · rw [Hsha.out]
      · exact below_setRow (B5.out.trans ⟨hgr.out.os, hgr.out.tape, hgr.out.output, hgr.out.size, fun i hi => hgr.out.block i (Nat.lt_of_lt_of_le hi B5.out.size) (by intro e; have e2 : i = w.heap.size + 1 := Option.some.inj e; omega)⟩) (Nat.le_refl _) _
end Go.Proofs.Ytnifhgcdpgokhaa
