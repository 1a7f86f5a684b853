/-
  The contract of Pbkdf2.
-/
import Derived.Test.YtnifhgcdpgokhaaBlock
import Derived.StillTailTactics
import Derived.OwnWalk
import Derived.Deep.Cut
namespace Go.Proofs.Ytnifhgcdpgokhaa
open Go.RowKit

set_option maxRecDepth 10000 in
set_option maxHeartbeats 1000000 in
theorem Pbkdf2_no (A B : Option Addr) (n c m d : Nat) (r N : Int) (w : World) (h : r < 1 ∨ 1000 < r ∨ N < 0 ∨ 1024 < N) :
    Calls Try.prog 6 #[.slice A n c, .slice B m d, .int .i64 r, .int .i64 N] w fun e w' => e = .returned (.tuple #[.slice none 0 0, .int .i64 2]) ∧ Below w.heap.size w w' := by
  by_cases h1 : r < 1
  · clear h
    go_enter Try.func6, Try.ntmps6
    go_wp2_with fail
    go_ret2
    exact ⟨rfl, Below.refl _ _⟩
  · by_cases h2 : 1000 < r
    · clear h
      have h1' : 1 ≤ r := by omega
      go_enter Try.func6, Try.ntmps6
      go_wp2_with fail
      go_ret2
      exact ⟨rfl, Below.refl _ _⟩
    · by_cases h3 : N < 0
      · clear h
        have h1' : 1 ≤ r := by omega
        have h2' : r ≤ 1000 := by omega
        go_enter Try.func6, Try.ntmps6
        go_wp2_with fail
        go_ret2
        exact ⟨rfl, Below.refl _ _⟩
      · have h4 : 1024 < N := by omega
        clear h
        have h1' : 1 ≤ r := by omega
        have h2' : r ≤ 1000 := by omega
        have h3' : 0 ≤ N := by omega
        go_enter Try.func6, Try.ntmps6
        go_wp2_with fail
        go_ret2
        exact ⟨rfl, Below.refl _ _⟩

/-- The bytes behind k blocks, then noughts. -/
def outP (K s : List UInt8) (r N k : Nat) : List UInt8 := (blocksL K s r k).take N ++ List.replicate (N - 32 * k) 0
theorem outP_zero (K s : List UInt8) (r N : Nat) : outP K s r N 0 = List.replicate N 0 := by simp [outP, blocksL]
theorem outP_len (K s : List UInt8) (r N k : Nat) : (outP K s r N k).length = N := by
  unfold outP
  rw [List.length_append, List.length_take, blocksL_len, List.length_replicate]; omega
theorem outP_end (l s : List UInt8) (r N k : Nat) (h : N ≤ 32 * k) (hk : k ≤ 32) : outP (keyL l) s r N k = pbk l s r N := by
  unfold outP
  rw [show N - 32 * k = 0 by omega, List.replicate_zero, List.append_nil, pbk_of l s r N k h hk]
theorem outP_splice (K s : List UInt8) (r N k m : Nat) (h : 32 * k < N) (hm : m = min 32 (N - 32 * k)) :
    splice ((outP K s r N k).map bv) (32 * k) (((blockL K s r (k + 1)).take m).map bv) = (outP K s r N (k + 1)).map bv := by
  have hb := blocksL_len K s r k
  have hl := blockL_len K s r (k + 1)
  have e0 : (blocksL K s r k).take N = blocksL K s r k := List.take_of_length_le (by omega)
  have e1 : (outP K s r N k).take (32 * k) = blocksL K s r k := by
    unfold outP
    rw [e0, List.take_append_of_le_length (by omega), List.take_of_length_le (by omega)]
  have e2 : (outP K s r N k).drop (32 * k + m) = List.replicate (N - 32 * k - m) 0 := by
    unfold outP
    rw [e0, List.drop_append, hb, List.drop_of_length_le (by omega), List.nil_append, show 32 * k + m - 32 * k = m by omega, List.drop_replicate]
  have e3 : (blockL K s r (k + 1)).take m = (blockL K s r (k + 1)).take (N - 32 * k) := by
    rcases Nat.le_total 32 (N - 32 * k) with q | q
    · rw [List.take_of_length_le (by omega), List.take_of_length_le (by omega)]
    · rw [show m = N - 32 * k by omega]
  have e4 : outP K s r N (k + 1) = blocksL K s r k ++ ((blockL K s r (k + 1)).take m ++ List.replicate (N - 32 * k - m) 0) := by
    unfold outP
    show ((blocksL K s r k ++ blockL K s r (k + 1)).take N) ++ _ = _
    rw [List.take_append, e0, hb, ← e3, List.append_assoc]
    congr 3
    omega
  unfold splice
  rw [e4, ← List.map_take, List.length_map, List.length_take, hl, show min m 32 = m by omega, ← List.map_drop, e1, e2, List.map_append, List.map_append]
theorem out_slice (g N k : Nat) (h : k < N) (hN : N ≤ 1024) (w : World) : (Instr.slice 22 (.slice (some ⟨g, 0, none⟩) N N) (some (.int .i64 (k : Nat))) none none).run Try.prog w = .ok (.slice (some ⟨g, k, none⟩) (N - k) (N - k)) w := by
  have hs : (sizeOf (Try.prog.elem 22)).run Try.prog w = .ok 1 w := by kernel_rfl
  rw [run_slice_l (ht := by kernel_rfl) (h0 := by omega) (h1 := by omega), hs]
  simp only [Result.andThen, sliced, Int.toNat_natCast, Nat.mul_one]
  rw [if_neg (by omega)]
  simp [Addr.add]
  omega

theorem below_draw {B : Nat} {a w : World} (h : Below B a w) : Below B a w.drew := ⟨h.os, h.tape, h.output, h.size, h.block⟩
structure PbSt (w wr : World) (g : Nat) (L : List Value) : Prop where
  bel : Below w.heap.size w wr
  row : wr.heap[g]? = some (.cells L.toArray 5 (0, 0))
theorem PbSt.on {w wr w' : World} {g : Nat} {L : List Value} (s : PbSt w wr g L) (h : Below wr.heap.size wr w') : PbSt w w' g L :=
  ⟨s.bel.trans (h.mono s.bel.size), (h.block _ (lt_of_heap s.row)).trans s.row⟩

set_option maxRecDepth 10000 in
set_option maxHeartbeats 2000000 in
theorem Pbkdf2_yes (A B : Option Addr) (l s : List UInt8) (n c m d r N : Nat) (w : World) (h : IsBB w w.heap.size A n c l) (hb : IsBB w w.heap.size B m d s) (hr : 1 ≤ r) (hr2 : r ≤ 1000) (hN : N ≤ 1024) :
    Calls Try.prog 6 #[.slice A n c, .slice B m d, .int .i64 (r : Nat), .int .i64 (N : Nat)] w fun e w' => ∃ g, e = .returned (.tuple #[.slice (some ⟨g, 0, none⟩) N N, .int .i64 0]) ∧ New w w' g N N (pbk l s r N) := by
  obtain ⟨i0, hi, hz0, hz1, hz2⟩ := info_parts Try.info5
  have H := hid h
  have HB := hid hb
  have hr' : 1 ≤ (r : Int) := by omega
  have hr2' : (r : Int) ≤ 1000 := by omega
  have hN' : (N : Int) ≤ 1024 := by omega
  have hN0 : 0 ≤ (N : Int) := by omega
  have HN := hid (And.intro hr (And.intro hr2 hN))
  clear h hb hr hr2 hN
  go_enter Try.func6, Try.ntmps6
  go_wp2_with fail
  refine (firstOf_any _ l _ _ _ H.out).mono ?_
  rintro e W1 ⟨gk, rfl, hk, hb1, _⟩
  have HK := hid hk
  have Hb1 := hid hb1
  clear hk hb1
  go_wp2_with (at_make; (refine wpList_make_full _ rfl _ _ 22 rfl w.heap.size 5 i0 (.int .u8 0) 1 Try.underlying22 hi hz0 hz1 _ _ _ _ N rfl rfl rfl rfl (by rw [hz2]; have := HN.out; omega) (by have := HN.out; unfold maxLen; omega) Hb1.out.size ?_); intro W2 hown hgrow)
  have S : PbSt W1 W2 W1.heap.size ((outP (keyL l) s r N 0).map bv) := by
    have q := own_row hown
    rw [made_cells] at q
    refine ⟨(Below.refl _ _).grown hgrow (Nat.le_refl _) (by simp), ?_⟩
    rw [outP_zero, List.map_replicate]; exact q
  have HS := hid S
  have HB1 := hid (HB.out.on Hb1.out)
  have Hg2 : Hid (w.heap.size ≤ W1.heap.size) := Hb1.out.size
  clear S hown hgrow
  obtain ⟨g, hg⟩ : ∃ g, g = W1.heap.size := ⟨_, rfl⟩
  rw [← hg]
  have Hge := hid hg
  have Hg : Hid (W1.heap.size ≤ g) := Nat.le_of_eq hg.symm
  have HS : Hid (PbSt W1 W2 g ((outP (keyL l) s r N 0).map bv)) := by rw [hg]; exact HS
  clear hg
  go_loopw [12, 13] (fun av iv wr => ∃ k a i : Nat, k ≤ 32 ∧ Hid (a = min (32 * k) N ∧ i = k + 1) ∧ av = .int .i64 a ∧ iv = .int .u32 i ∧ Hid (PbSt W1 wr g ((outP (keyL l) s r N k).map bv))) (fun _ iv _ => 34 - (intOf iv).toNat)
  case atStart => exact ⟨0, 0, 1, Nat.zero_le _, ⟨by omega, rfl⟩, rfl, rfl, HS.out⟩
  case round =>
    obtain ⟨k, a, i, hk, hai, rfl, rfl, hs⟩ := hrel
    clear HS
    by_cases hlt : a < N
    · have hak : a = 32 * k := by have := hai.out; omega
      have hkn : 32 * k < N := by omega
      have hi33 : i ≤ 33 := by have := hai.out; omega
      have hi0 : 1 ≤ i := by have := hai.out; omega
      have hiz : (i : Int) ≤ 33 := by omega
      have haz : (a : Int) < N := by omega
      have hk32 : k < 32 := by have := HN.out; omega
      have hI := hid (HB1.out.on hs.out.bel)
      have Hk := hid (And.intro hak (And.intro hkn (And.intro hi33 (And.intro hi0 hk32))))
      clear hak hkn hi33 hi0
      go_wp2_with fail
      refine (block_any gk (keyL l) B s m d i r _ (HK.out.on hs.out.bel) hI.out (by have := Hk.out; omega) HN.out.1 HN.out.2.1).mono ?_
      rintro e W3 ⟨rfl, hb3⟩
      have HS3 := hid (hs.out.on hb3)
      have HY := hid (blockL_len (keyL l) s r i)
      obtain ⟨y, hy⟩ : ∃ y, y = blockL (keyL l) s r i := ⟨_, rfl⟩
      rw [← hy] at HY
      rw [← hy]
      have Hy := hid hy
      clear hy hb3 hs hI
      go_upto_region 10 with (refine wpList_store_row (o := ⟨none, .store 30 (.tmp 14) (.tmp 42), _, _, _, _⟩) rfl 30 (.tmp 14) (.tmp 42) rfl W3.heap.size (y.map bv).toArray rfl rfl 30 z32 (heap_alloc_new W3 _) (size32 _ (map_len32 HY.out)) (z32_size _ (map_len32 HY.out)) (bv_all _) ?_)
      have b4 : Below W3.heap.size W3 ((W3.alloc (.cells z32 30)).setRow W3.heap.size (y.map bv).toArray) := below_setRow ((Below.refl _ _).alloc (Nat.le_refl _) _) (Nat.le_refl _) _
      have r4 : ((W3.alloc (.cells z32 30)).setRow W3.heap.size (y.map bv).toArray).heap[W3.heap.size]? = some (.cells (y.map bv).toArray 30 (0, 0)) := setRow_heap _ _ _ _ _ _ (heap_alloc_new W3 _)
      have HS4 := hid (HS3.out.on b4)
      change Code.wp _ _ _ _ ((W3.alloc (.cells z32 30)).setRow W3.heap.size (y.map bv).toArray)
      generalize ((W3.alloc (.cells z32 30)).setRow W3.heap.size (y.map bv).toArray) = W4 at r4 HS4 ⊢
      generalize W3.heap.size = g4 at r4 ⊢
      have HR4 := hid r4
      clear b4 r4 HS3
      have hsl := fun w => out_slice g N a hlt HN.out.2.2 w
      obtain ⟨mm, hmm⟩ : ∃ mm, mm = min 32 (N - a) := ⟨_, rfl⟩
      have hmz : (mm : Int) ≤ 32 := by omega
      obtain ⟨q, hq⟩ : ∃ q, q = N - a := ⟨_, rfl⟩
      rw [← hq] at hmm hsl
      have Hm := hid (And.intro hmm hq)
      have hqz : (q : Int) ≤ 1024 := by have := HN.out; omega
      obtain ⟨C, hC⟩ : ∃ C, C = (y.take mm).map bv := ⟨_, rfl⟩
      obtain ⟨L, hL⟩ : ∃ L, L = (outP (keyL l) s r N k).map bv := ⟨_, rfl⟩
      have hCl : C.length = Nat.min 32 q := by rw [hC, List.length_map, List.length_take, HY.out]; show min mm 32 = min 32 q; omega
      have hLl : L.length = N := by rw [hL, List.length_map, outP_len]
      have hC1 : ∀ v ∈ C, v.oneCell' = true := by rw [hC]; exact bv_one _
      have hCs : ∀ (j : Nat) (v : Value), C[j]? = some v → W4.cell? ((⟨g4, 0, none⟩ : Addr).add j) = some v := by
        intro j v hv
        refine row_at HR4.out j v ?_
        rw [hC, List.map_take] at hv
        have hj : j < mm := by
          have e := (List.getElem?_eq_some_iff.1 hv).1
          rw [List.length_take] at e; omega
        rw [List.getElem?_take_of_lt hj] at hv
        exact hv
      have hsp : splice L a C = (outP (keyL l) s r N (k + 1)).map bv := by
        have e1 := Hk.out.1
        have e2 := hai.out.2
        rw [hL, hC, Hy.out, e1, e2]
        exact outP_splice _ _ _ _ _ _ Hk.out.2.1 (by omega)
      have hfit : a + C.length ≤ L.length := by rw [hCl, hLl]; show a + min 32 q ≤ N; omega
      have hcm : C.length = mm := by rw [hCl]; show min 32 q = mm; omega
      rw [← hL] at HS4
      have HC := hid (And.intro hCl (And.intro hC1 (And.intro hCs (And.intro hfit hsp))))
      have Hcm := hid hcm
      clear hmm hq hC hL hCl hLl hC1 hCs hfit hcm hsp
      go_region_law (refine step_copy_splice rfl (.tmp 46) (.tmp 47) 22 22 rfl 5 Try.underlying22 Try.size5 (some ⟨g, a, none⟩) (some ⟨g4, 0, none⟩) q q 32 32 rfl rfl g a L 5 HS4.out.row C HC.out.1 (fun _ => ⟨rfl, _, rfl, HC.out.2.2.1⟩) HC.out.2.2.2.1 HC.out.2.1 W1.heap.size W1 (below_draw HS4.out.bel) Hg.out ?_; intro w5 hg5 hb5)
      all_goals
        rw [Hcm.out]
        have HS5 : Hid (PbSt W1 w5 g ((outP (keyL l) s r N (k + 1)).map bv)) := by
          have e := hg5.out
          rw [HC.out.2.2.2.2] at e
          exact ⟨hb5, e⟩
        clear hg5 hb5 hsl
        go_wp2
        go_roundw
        case rel => exact ⟨k + 1, a + mm, i + 1, by have := Hk.out; omega, ⟨by have := Hk.out; have := Hm.out; omega, by have := hai.out; omega⟩, by go_num, by go_num, HS5⟩
        case measure => simp [intOf]; have := Hk.out; omega
    · have haN : a = N := by have := hai.out; omega
      have hkN : N ≤ 32 * k := by have := hai.out; omega
      have Hk := hid (And.intro haN hkN)
      have haz : (N : Int) ≤ a := by omega
      clear haN hkN
      go_wp2
      go_ret2
      have e := hs.out.row
      rw [outP_end l s r N k Hk.out.2 hk] at e
      have hl := pbk_len l s r N HN.out.2.2
      have q := row_own (w := W1) e (by rw [Hge.out]; exact Nat.le_refl _) (by rw [hl]; have := HN.out; omega) hs.out.bel
      rw [hl] at q
      exact ⟨g, rfl, q.base Hb1.out⟩
end Go.Proofs.Ytnifhgcdpgokhaa
