/-
  The contract of the document's Pbkdf2.
-/
import Derived.Test.YtnifhgcdpgokhaaRefH
import Derived.Test.YtnifhgcdpgokhaaXor
import Derived.StillTailTactics
import Derived.Deep.Cut
namespace Go.Proofs.Ytnifhgcdpgokhaa
open Go.RowKit

set_option maxRecDepth 10000 in
set_option maxHeartbeats 1000000 in
theorem RefPbk_no (A B : Option Addr) (n c m d : Nat) (r N : Int) (w : World) (h : r < 1 ∨ 1000 < r ∨ N < 0 ∨ 1024 < N) :
    Calls Try.prog 7 #[.slice A n c, .slice B m d, .int .i64 r, .int .i64 N] w fun e w' => e = .returned (.tuple #[.slice none 0 0, .int .i64 2]) ∧ Below w.heap.size w w' := by
  by_cases h1 : r < 1
  · clear h
    go_enter Try.func7, Try.ntmps7
    go_wp2_with fail
    go_ret2
    exact ⟨rfl, Below.refl _ _⟩
  · by_cases h2 : 1000 < r
    · clear h
      have h1' : 1 ≤ r := by omega
      go_enter Try.func7, Try.ntmps7
      go_wp2_with fail
      go_ret2
      exact ⟨rfl, Below.refl _ _⟩
    · by_cases h3 : N < 0
      · clear h
        have h1' : 1 ≤ r := by omega
        have h2' : r ≤ 1000 := by omega
        go_enter Try.func7, Try.ntmps7
        go_wp2_with fail
        go_ret2
        exact ⟨rfl, Below.refl _ _⟩
      · have h4 : 1024 < N := by omega
        clear h
        have h1' : 1 ≤ r := by omega
        have h2' : r ≤ 1000 := by omega
        have h3' : 0 ≤ N := by omega
        go_enter Try.func7, Try.ntmps7
        go_wp2_with fail
        go_ret2
        exact ⟨rfl, Below.refl _ _⟩

structure Blk2 (w wr : World) (g9 g10 : Nat) (u x : List UInt8) : Prop where
  bel : Below w.heap.size w wr
  l9 : w.heap.size ≤ g9
  l10 : w.heap.size ≤ g10
  ne : g9 ≠ g10
  lu : u.length = 32
  lx : x.length = 32
  r9 : wr.heap[g9]? = some (.cells (u.map bv).toArray 30 (0, 0))
  r10 : wr.heap[g10]? = some (.cells (x.map bv).toArray 30 (0, 0))
theorem Blk2.on {w wr w' : World} {g9 g10 : Nat} {u x : List UInt8} (s : Blk2 w wr g9 g10 u x) (h : Below wr.heap.size wr w') : Blk2 w w' g9 g10 u x :=
  ⟨s.bel.trans (h.mono s.bel.size), s.l9, s.l10, s.ne, s.lu, s.lx, (h.block _ (lt_of_heap s.r9)).trans s.r9, (h.block _ (lt_of_heap s.r10)).trans s.r10⟩
theorem Blk2.set9 {w wr : World} {g9 g10 : Nat} {u x : List UInt8} (s : Blk2 w wr g9 g10 u x) (u' : List UInt8) (hu : u'.length = 32) : Blk2 w (wr.setRow g9 (u'.map bv).toArray) g9 g10 u' x := by
  have h1 := s.l9
  have h2 := s.ne
  refine ⟨below_setRow s.bel h1 _, s.l9, s.l10, s.ne, hu, s.lx, ?_, ?_⟩
  · exact setRow_heap _ _ _ _ _ _ s.r9
  · rw [setRow_other _ _ _ _ (by omega)]; exact s.r10
theorem Blk2.set10 {w wr : World} {g9 g10 : Nat} {u x : List UInt8} (s : Blk2 w wr g9 g10 u x) (k : Nat) (b : UInt8) : Blk2 w (wr.drew.setCell ⟨g10, k, none⟩ (bv b)) g9 g10 u (x.set k b) := by
  have h1 := s.l10
  have h2 := s.ne
  have r9 : wr.drew.heap[g9]? = some (.cells (u.map bv).toArray 30 (0, 0)) := s.r9
  have r10 : wr.drew.heap[g10]? = some (.cells (x.map bv).toArray 30 (0, 0)) := s.r10
  refine ⟨?_, s.l9, s.l10, s.ne, s.lu, by rw [List.length_set]; exact s.lx, ?_, ?_⟩
  · exact ⟨s.bel.os, s.bel.tape, s.bel.output, by rw [World.size_setCell]; exact s.bel.size, fun i hi => by rw [heap_setCell_other _ _ _ _ (by show i ≠ g10; omega)]; exact s.bel.block i hi⟩
  · rw [heap_setCell_other _ _ _ _ (by show g9 ≠ g10; omega)]; exact r9
  · rw [row_set r10 k _, set_toArray, List.map_set]
theorem cut_slice (A : Option Addr) (n c m : Nat) (hm : m ≤ n) (hn : n ≤ c) (w : World) : (Instr.slice 22 (.slice A n c) none (some (.int .i64 (m : Nat))) none).run Try.prog w = .ok (.slice A m c) w := by
  have hs : (sizeOf (Try.prog.elem 22)).run Try.prog w = .ok 1 w := by kernel_rfl
  rw [run_slice_h (ht := by kernel_rfl) (h0 := by omega) (h2 := by omega), hs]
  simp [Result.andThen, sliced]
  intro _
  cases A <;> simp [Addr.add]
theorem be4_small (i : Nat) (hi : i < 256) : be4L i = [0, 0, 0, UInt8.ofNat i] := by
  unfold be4L
  rw [show i / 16777216 = 0 by omega, show i / 65536 = 0 by omega, show i / 256 = 0 by omega]
  rfl
theorem four_isB (W : World) (i : Nat) (hi : i < 256) : IsB (W.alloc (.cells #[.int .u8 0, .int .u8 0, .int .u8 0, .int .u8 (i : Nat)] 5)) (some ⟨W.heap.size, 0, none⟩) 4 4 (be4L i) := by
  have e : (#[.int .u8 0, .int .u8 0, .int .u8 0, .int .u8 (i : Nat)] : Array Value) = ((be4L i).map bv).toArray := by
    rw [be4_small i hi]
    have e2 : bv (UInt8.ofNat i) = .int .u8 (i : Nat) := by
      have : i % 256 = i := by omega
      simp [bv, this]
    simp only [List.map_cons, List.map_nil, e2]
    rfl
  rw [e]
  exact arr_isB (l := be4L i) (heap_alloc_new W _) (by show 4 ≤ 1000; omega)
theorem IsB.front {w : World} {A : Option Addr} {n c m : Nat} {l : List UInt8} (h : IsB w A n c l) (hm : m ≤ n) : IsB w A m c (l.take m) := by
  have hl := h.len
  have hs := h.small
  have hc := h.cap
  refine ⟨by rw [List.length_take]; omega, by omega, h.max, by omega, fun hp => ?_⟩
  rw [List.length_take] at hp
  obtain ⟨ad, e, hc⟩ := h.lies (by omega)
  refine ⟨ad, e, fun j hj => ?_⟩
  rw [List.length_take] at hj
  rw [hc j (by omega)]
  simp
theorem IsBB.front {w : World} {B : Nat} {A : Option Addr} {n c m : Nat} {l : List UInt8} (h : IsBB w B A n c l) (hm : m ≤ n) : IsBB w B A m c (l.take m) :=
  ⟨h.toIsB.front hm, fun hp ad e => h.low (by rw [List.length_take] at hp; omega) ad e⟩

set_option maxRecDepth 10000 in
set_option maxHeartbeats 4000000 in
theorem RefPbk_yes (A B : Option Addr) (l s : List UInt8) (n c m d r N : Nat) (w : World) (h : IsBB w w.heap.size A n c l) (hb : IsBB w w.heap.size B m d s) (hn : n ≤ 1000000) (hm : m ≤ 1000000) (hr : 1 ≤ r) (hr2 : r ≤ 1000) (hN : N ≤ 1024) :
    Calls Try.prog 7 #[.slice A n c, .slice B m d, .int .i64 (r : Nat), .int .i64 (N : Nat)] w fun e w' => ∃ A2 c2, e = .returned (.tuple #[.slice A2 N c2, .int .i64 0]) ∧ IsBB w' w'.heap.size A2 N c2 (pbk l s r N) ∧ Below w.heap.size w w' := by
  have H := hid h
  have HB := hid hb
  have hr' : 1 ≤ (r : Int) := by omega
  have hr2' : (r : Int) ≤ 1000 := by omega
  have hN' : (N : Int) ≤ 1024 := by omega
  have hN0 : 0 ≤ (N : Int) := by omega
  have HN := hid (And.intro hr (And.intro hr2 (And.intro hN (And.intro hn hm))))
  clear h hb hr hr2 hN hn hm
  go_enter Try.func7, Try.ntmps7
  go_wp2_with fail
  go_loopw [10, 11] (fun av iv wr => ∃ (A5 : Option Addr) (m5 c5 k i : Nat), k ≤ 32 ∧ av = .slice A5 m5 c5 ∧ iv = .int .i64 i ∧ Hid (i = k + 1 ∧ m5 = 32 * k) ∧ Hid (wr.ownsRow w.heap.size 5 1 (.slice A5 m5 c5) m5 ((blocksL (keyL l) s r k).map bv)) ∧ Hid (Below w.heap.size w wr)) (fun _ iv _ => 34 - (intOf iv).toNat)
  case atStart => exact ⟨none, 0, 0, 0, 1, Nat.zero_le _, rfl, rfl, ⟨rfl, rfl⟩, World.ownsRow_nil _ _ _ _, Below.refl _ _⟩
  case round =>
    obtain ⟨A5, m5, c5, k, i, hk, rfl, rfl, hi5, hO, hB⟩ := hrel
    have hi33 : (i : Int) ≤ 33 := by have := hi5.out; omega
    have hi1 : 1 ≤ (i : Int) := by have := hi5.out; omega
    by_cases hlt : 32 * k < N
    · have hlz : 32 * ((i : Int) - 1) < N := by have := hi5.out; omega
      have hk32 : k < 32 := by have := HN.out; omega
      have hi32 : i ≤ 32 := by have := hi5.out; omega
      have HBw := hid (HB.out.on hB.out)
      have HAw := hid (H.out.on hB.out)
      go_upto_region 9 with (at_builtin; refine wpList_append_bytes rfl (.tmp 38) (.tmp 39) rfl wr.heap.size wr (.slice none 0 0) 0 [] rfl (World.ownsRow_nil _ _ _ _) B m d s rfl HBw.out.toIsB (by have := HN.out; omega) (Below.refl _ _) (Nat.le_refl _) ?_; intro v6 W6 HO6 HB6 _)
      obtain ⟨A6, c6, rfl, I6⟩ := own_isBB HO6.out (by have := HN.out; omega)
      have hi256 : (i : Int) % 256 = (i : Int) := by omega
      have hI4 := hid (four_isB W6 i (by omega))
      clear I6 HBw
      go_upto_region 10 with (at_builtin; refine wpList_append_bytes rfl (.tmp 41) (.tmp 44) rfl wr.heap.size wr (.slice A6 (0 + m) c6) (0 + m) ([] ++ s) rfl (HO6.out.alloc _) (some ⟨W6.heap.size, 0, none⟩) 4 4 (be4L i) rfl hI4.out (by have := HN.out; omega) (HB6.out.alloc HB6.out.size _) (Nat.le_refl _) ?_; intro v7 W7 HO7 HB7 _)
      obtain ⟨A7, c7, rfl, I7⟩ := own_isBB HO7.out (by have := HN.out; omega)
      rw [List.nil_append, Nat.zero_add] at I7
      have HI7 := hid I7
      have HA7 := hid (HAw.out.on HB7.out)
      clear I7 HO7 HO6 HB6 hI4 hi256
      go_wp2_with fail
      refine (RefHmac_any _ _ l (s ++ be4L i) _ _ _ _ _ HA7.out HI7.out (by have := HN.out; omega) (by have := HN.out; omega)).mono ?_
      rintro e W8 ⟨rfl, hb8⟩
      have HU : Hid (uN (keyL l) s i 0 = hmac l (s ++ be4L i)) := by show _ = _; rfl
      have HY := hid (uN_len (keyL l) s i 0)
      rw [← HU.out]
      obtain ⟨u, hu⟩ : ∃ u, u = uN (keyL l) s i 0 := ⟨_, rfl⟩
      rw [← hu] at HY
      rw [← hu]
      have Hu := hid hu
      have r9 : ((W8.alloc (.cells z32 30)).setRow W8.heap.size (u.map bv).toArray).heap[W8.heap.size]? = some (.cells (u.map bv).toArray 30 (0, 0)) := setRow_heap _ _ _ _ _ _ (heap_alloc_new W8 _)
      have q8 : Below wr.heap.size wr W8 := HB7.out.trans (hb8.mono HB7.out.size)
      have q9 : Below wr.heap.size wr ((W8.alloc (.cells z32 30)).setRow W8.heap.size (u.map bv).toArray) := below_setRow (q8.alloc q8.size _) q8.size _
      have HR9 := hid r9
      have HQ9 := hid q9
      have Hg9 : Hid (wr.heap.size ≤ W8.heap.size) := q8.size
      clear hu hb8 r9 q8 q9 HU HB7 HI7 HA7
      go_upto_region 11 with (refine wpList_store_row (o := ⟨none, .store 30 (.tmp 13) (.tmp 48), _, _, _, _⟩) rfl 30 (.tmp 13) (.tmp 48) rfl W8.heap.size (u.map bv).toArray rfl rfl 30 z32 (heap_alloc_new W8 _) (size32 _ (map_len32 HY.out)) (z32_size _ (map_len32 HY.out)) (bv_all _) ?_)
      change Code.wp _ _ _ _ ((W8.alloc (.cells z32 30)).setRow W8.heap.size (u.map bv).toArray)
      generalize ((W8.alloc (.cells z32 30)).setRow W8.heap.size (u.map bv).toArray) = W9 at HR9 HQ9 ⊢
      generalize W8.heap.size = g9 at HR9 Hg9 ⊢
      go_upto_region 12 with (first
        | (refine wpList_load_row rfl 30 (.tmp 13) rfl g9 rfl 30 (u.map bv).toArray (0, 0) _ HR9.out Try.underlying30 rfl (size32 _ (map_len32 HY.out)) ?_)
        | (refine wpList_store_row (o := ⟨none, .store 30 (.tmp 14) (.tmp 49), _, _, _, _⟩) rfl 30 (.tmp 14) (.tmp 49) rfl W9.heap.size (u.map bv).toArray rfl rfl 30 z32 (heap_alloc_new W9 _) (size32 _ (map_len32 HY.out)) (z32_size _ (map_len32 HY.out)) (bv_all _) ?_))
      have S : Blk2 wr ((W9.alloc (.cells z32 30)).setRow W9.heap.size (u.map bv).toArray) g9 W9.heap.size u u := by
        have e9 := lt_of_heap HR9.out
        refine ⟨below_setRow (HQ9.out.alloc HQ9.out.size _) HQ9.out.size _, Hg9.out, HQ9.out.size, by omega, HY.out, HY.out, ?_, setRow_heap _ _ _ _ _ _ (heap_alloc_new W9 _)⟩
        rw [setRow_other _ _ _ _ (by omega), heap_alloc_old _ _ (by omega)]; exact HR9.out
      change Code.wp _ _ _ _ ((W9.alloc (.cells z32 30)).setRow W9.heap.size (u.map bv).toArray)
      generalize ((W9.alloc (.cells z32 30)).setRow W9.heap.size (u.map bv).toArray) = W10 at S ⊢
      generalize W9.heap.size = g10 at S ⊢
      rw [Hu.out] at S
      have HS := hid S
      clear S HR9 HQ9 Hg9 HY Hu
      obtain ⟨wo, rfl⟩ : ∃ wo : World, wo = wr := ⟨_, rfl⟩
      go_wp2_with fail
      go_loopw [15] (fun jv wr => ∃ jj j : Nat, jj ≤ r - 1 ∧ jv = .int .i64 j ∧ Hid (j = jj + 2) ∧ Hid (Blk2 wo wr g9 g10 (uN (keyL l) s i jj) (xN (keyL l) s i jj))) (fun jv _ => r + 2 - (intOf jv).toNat)
      case atStart => exact ⟨0, 2, Nat.zero_le _, rfl, rfl, HS.out⟩
      case round =>
        obtain ⟨jj, j, hj, rfl, hjj, hs⟩ := hrel
        clear HS
        have hj2 : 2 ≤ (j : Int) := by have := hjj.out; omega
        by_cases hlt2 : jj < r - 1
        · have hlz2 : (j : Int) ≤ r := by have := hjj.out; have := HN.out; omega
          have hU := hid (uN_len (keyL l) s i jj)
          have HU2 : Hid (uN (keyL l) s i (jj + 1) = hmac l (uN (keyL l) s i jj)) := by show _ = _; rfl
          have HX2 : Hid (xN (keyL l) s i (jj + 1) = xorL (xN (keyL l) s i jj) (uN (keyL l) s i (jj + 1))) := by show _ = _; rfl
          obtain ⟨u, hu⟩ : ∃ u, u = uN (keyL l) s i jj := ⟨_, rfl⟩
          obtain ⟨x, hx⟩ : ∃ x, x = xN (keyL l) s i jj := ⟨_, rfl⟩
          obtain ⟨u2, hu2⟩ : ∃ u2, u2 = uN (keyL l) s i (jj + 1) := ⟨_, rfl⟩
          obtain ⟨x2, hx2⟩ : ∃ x2, x2 = xN (keyL l) s i (jj + 1) := ⟨_, rfl⟩
          have HY2 := hid (uN_len (keyL l) s i (jj + 1))
          rw [← hu, ← hx] at hs
          rw [← hu] at hU
          rw [← hu2] at HY2
          rw [← hu2, ← hu] at HU2
          rw [← hx2, ← hx, ← hu2] at HX2
          have Hux := hid (And.intro hu2 hx2)
          have hI := arr_isBB hs.out.r9 (by rw [hU.out]; omega)
          rw [hU.out] at hI
          have HI := hid hI
          have HA8 := hid (HAw.out.on hs.out.bel)
          clear hu hx hu2 hx2 hI
          go_wp2_with fail
          refine (RefHmac_any _ _ l u _ _ _ _ _ HA8.out HI.out (by have := HN.out; omega) (by omega)).mono ?_
          rintro e W7 ⟨rfl, hb7⟩
          have HS7 := hid (hs.out.on hb7)
          rw [← HU2.out]
          clear hb7 hs HI HA8
          go_upto_region 16 with (refine wpList_store_row (o := ⟨none, .store 30 (.tmp 13) (.tmp 57), _, _, _, _⟩) rfl 30 (.tmp 13) (.tmp 57) rfl g9 (u2.map bv).toArray rfl rfl 30 (u.map bv).toArray HS7.out.r9 (size32 _ (map_len32 HY2.out)) (by simp [hU.out, HY2.out]) (bv_all _) ?_)
          have S8 := HS7.out.set9 u2 HY2.out
          change Code.wp _ _ _ _ (W7.setRow g9 (u2.map bv).toArray)
          generalize W7.setRow g9 (u2.map bv).toArray = W8 at S8 ⊢
          have HS8 := hid S8
          clear S8 HS7
          obtain ⟨wq, rfl⟩ : ∃ wq : World, wq = wr := ⟨_, rfl⟩
          have HLx := hid HS8.out.lx
          go_wp2_with fail
          go_loopw [16] (fun iv wr => ∃ k : Nat, k ≤ 32 ∧ iv = .int .i64 k ∧ Hid (Blk2 wo wr g9 g10 u2 (xorP x u2 k))) (fun iv _ => 32 - (intOf iv).toNat)
          case atStart => exact ⟨0, Nat.zero_le _, rfl, by show Blk2 _ _ _ _ _ _; rw [xorP_zero]; exact HS8.out⟩
          case round =>
            obtain ⟨k2, hk2, rfl, hs⟩ := hrel
            clear HS8
            by_cases hlt3 : k2 < 32
            · have hkz : (k2 : Int) < 32 := by omega
              have hxk : k2 < x.length := by rw [HLx.out]; exact hlt3
              have huk : k2 < u2.length := by rw [HY2.out]; exact hlt3
              have hc : wr.cell? ⟨g10, k2, none⟩ = some (.int .u8 (x[k2].toNat : Nat)) := by
                rw [row_cell hs.out.r10 k2, List.getElem?_toArray, List.getElem?_map, xorP_get x u2 k2 HLx.out HY2.out hlt3]; rfl
              have hd : wr.cell? ⟨g9, k2, none⟩ = some (.int .u8 (u2[k2].toNat : Nat)) := by
                rw [row_cell hs.out.r9 k2, List.getElem?_toArray]; exact map_bv_getElem? u2 k2 huk
              have hf := row_free hs.out.r10 k2
              have hn := hs.out.set10 k2 (x[k2] ^^^ u2[k2])
              rw [xorP_set x u2 k2 HLx.out HY2.out hlt3] at hn
              have q := u8_xor_nat x[k2].toNat u2[k2].toNat (UInt8.toNat_lt _) (UInt8.toNat_lt _)
              have hv : bv (x[k2] ^^^ u2[k2]) = .int .u8 ((x[k2].toNat ^^^ u2[k2].toNat : Nat) : Int) := by simp [bv]
              rw [hv] at hn
              have hn2 := hid hn
              have hx2 : x[k2].toNat ^^^ u2[k2].toNat < 256 := Nat.xor_lt_two_pow (n := 8) (UInt8.toNat_lt _) (UInt8.toNat_lt _)
              generalize x[k2].toNat ^^^ u2[k2].toNat = y at q hx2 hn2
              generalize x[k2].toNat = a at q hc
              generalize u2[k2].toNat = b at q hd
              clear hv hn
              go_wp2_with fail
              go_still_tail 9, (by kernel_rfl)
              change wpList _ _ _ _ _ wr.drew
              go_wp2_with fail
              go_roundw
              case rel => exact ⟨k2 + 1, by omega, by go_num, hn2⟩
              case measure => simp [intOf]; omega
            · obtain rfl : k2 = 32 := by omega
              have HSe : Hid (Blk2 wo wr g9 g10 u2 x2) := by
                have e := hs.out
                rw [xorP_end x u2 HLx.out HY2.out, ← HX2.out] at e
                exact e
              go_wp2_with fail
              go_roundw
              case rel =>
                refine ⟨jj + 1, j + 1, by omega, by go_num, by have := hjj.out; show _ = _; omega, ?_⟩
                have e := HSe.out
                rw [Hux.out.1, Hux.out.2] at e
                exact e
              case measure => simp [intOf]; have := hjj.out; omega
        · obtain rfl : jj = r - 1 := by omega
          have hlz2 : (r : Int) < j := by have := hjj.out; have := HN.out; omega
          have HBk : Hid (blocksL (keyL l) s r k ++ xN (keyL l) s i (r - 1) = blocksL (keyL l) s r (k + 1)) := by show _ = _; rw [hi5.out.1]; rfl
          have hI := arr_isB hs.out.r10 (by rw [hs.out.lx]; omega)
          rw [hs.out.lx] at hI
          have HI := hid hI
          have HO2 := hid (own_below2 hO.out hs.out.bel)
          have HB2 : Hid (Below w.heap.size w wr) := hB.out.trans (hs.out.bel.mono hB.out.size)
          clear hI hlt2 hs
          go_wp2_with (at_builtin; refine wpList_append_bytes rfl (.tmp 71) (.tmp 72) rfl w.heap.size w (.slice A5 m5 c5) m5 (blocksL (keyL l) s r k) rfl HO2.out (some ⟨g10, 0, none⟩) 32 32 (xN (keyL l) s i (r - 1)) rfl HI.out (by have := hi5.out; omega) HB2.out (Nat.le_refl _) ?_; intro v9 W9 HO9 HB9 _)
          rw [HBk.out] at HO9
          obtain ⟨A9, c9, rfl, _⟩ := own_isBB HO9.out (by have := hi5.out; omega)
          go_wp2
          go_roundw
          case rel => exact ⟨A9, m5 + 32, c9, k + 1, i + 1, by omega, rfl, by go_num, ⟨by have := hi5.out; omega, by have := hi5.out; omega⟩, HO9, HB9⟩
          case measure => simp [intOf]; omega
    · have hlz : (N : Int) ≤ 32 * ((i : Int) - 1) := by have := hi5.out; omega
      obtain ⟨A', c', e, hI⟩ := own_isBB hO.out (by have := hi5.out; omega)
      cases e
      have hNm : N ≤ m5 := by have := hi5.out; omega
      have hcut := fun w => cut_slice A5 m5 c5 N hNm hI.cap w
      have hF := hI.front hNm
      rw [pbk_of l s r N k (by omega) hk] at hF
      have HF := hid hF
      clear hI hF
      go_wp2
      go_ret2
      exact ⟨A5, c5, rfl, HF.out, hB.out⟩
end Go.Proofs.Ytnifhgcdpgokhaa
