/-
  The document's disk: ReadAt.
-/
import Derived.Test.YtgccjclloomfgaaRsy
import Derived.Test.YtgccjclloomfgaaRda
import Derived.Deep.RegionWith
import Derived.Test.YtgccjclloomfgaaCpy
namespace Go.Proofs.Ytgccjclloomfgaa
open Go.RowKit

set_option maxRecDepth 10000 in
set_option maxHeartbeats 1000000 in
theorem RReadAt_bad (d : Dk) (AN : Option Addr) (cN : Nat) (AO : Option Addr) (nO cO : Nat) (i n : Int) (w : World) (hb : ¬ RdOk d i n) (hi : i ≤ 9223372036854775807) (hn : n ≤ 9223372036854775807) (hmo : d.now.length ≤ 4194304) :
    Calls Try.prog 26 #[.agg (rcells d (.slice AN d.now.length cN) (.slice AO nO cO)), .int .i64 i, .int .i64 n] w fun r w' => r = .returned (.tuple #[.agg (rcells d (.slice AN d.now.length cN) (.slice AO nO cO)), .slice none 0 0, .int .i64 2]) ∧ Below w.heap.size w w' := by
  unfold RdOk at hb
  simp only [rcells]
  have hlz : (d.now.length : Int) ≤ 4194304 := by omega
  clear hmo
  by_cases h1 : i < 0
  · clear hb
    go_enter Try.func26, Try.ntmps26
    go_wp2_with fail
    refine bodyPost_ret (results_d2 (by kernel_rfl : Try.f26.results = #[.cell 6 43, .tmp 7, .tmp 8]) _ _ (w.heap.size + 1) _ _ _ rfl (heap_alloc2_new w _ _) rfl) rfl ?_
    exact ⟨rfl, fr2 w _ _⟩
  · by_cases h2 : n < 0
    · clear hb
      go_enter Try.func26, Try.ntmps26
      go_wp2_with fail
      refine bodyPost_ret (results_d2 (by kernel_rfl : Try.f26.results = #[.cell 6 43, .tmp 7, .tmp 8]) _ _ (w.heap.size + 1) _ _ _ rfl (heap_alloc2_new w _ _) rfl) rfl ?_
      exact ⟨rfl, fr2 w _ _⟩
    · by_cases h3 : (d.now.length : Int) < i
      · clear hb
        go_enter Try.func26, Try.ntmps26
        go_wp2_with fail
        refine bodyPost_ret (results_d2 (by kernel_rfl : Try.f26.results = #[.cell 6 43, .tmp 7, .tmp 8]) _ _ (w.heap.size + 1) _ _ _ rfl (heap_alloc2_new w _ _) rfl) rfl ?_
        exact ⟨rfl, fr2 w _ _⟩
      · have h4 : (d.now.length : Int) - i < n := by omega
        clear hb
        go_enter Try.func26, Try.ntmps26
        go_wp2_with fail
        refine bodyPost_ret (results_d2 (by kernel_rfl : Try.f26.results = #[.cell 6 43, .tmp 7, .tmp 8]) _ _ (w.heap.size + 1) _ _ _ rfl (heap_alloc2_new w _ _) rfl) rfl ?_
        exact ⟨rfl, fr2 w _ _⟩

set_option maxRecDepth 10000 in
set_option maxHeartbeats 2000000 in
theorem RReadAt_no (d : Dk) (AN : Option Addr) (cN : Nat) (AO : Option Addr) (nO cO : Nat) (i n : Nat) (w : World) (h : RfOk d) (hin : i + n ≤ d.now.length) (h0 : d.op.2 ≠ 0) :
    Calls Try.prog 26 #[.agg (rcells d (.slice AN d.now.length cN) (.slice AO nO cO)), .int .i64 (i : Nat), .int .i64 (n : Nat)] w fun r w' => r = .returned (.tuple #[.agg (rcells d.op.1 (.slice AN d.now.length cN) (.slice AO nO cO)), .slice none 0 0, .int .i64 (d.op.2 : Nat)]) ∧ Below w.heap.size w w' := by
  have ho := fun W => Operation_any d AN d.now.length cN AO nO cO W h
  have hmo := h.mo
  have hnw := h.nw
  obtain ⟨d1, hd1⟩ : ∃ x, x = d.op.1 := ⟨_, rfl⟩
  obtain ⟨e, he⟩ : ∃ x, x = d.op.2 := ⟨_, rfl⟩
  rw [← hd1] at ho ⊢
  rw [← he] at ho h0 ⊢
  simp only [rcells] at ho ⊢
  have hlz : (d.now.length : Int) ≤ 4194304 := by omega
  have hz1' : ¬ (i : Int) < 0 := by omega
  have hz2' : ¬ (n : Int) < 0 := by omega
  have hz3' : ¬ (d.now.length : Int) < (i : Int) := by omega
  have hz4' : ¬ (d.now.length : Int) - (i : Int) < (n : Int) := by omega
  clear hd1 he h hin hmo hnw
  have hne : ((e : Nat) : Int) ≠ 0 := by omega
  obtain ⟨z, hz⟩ : ∃ z : Int, z = (e : Int) := ⟨_, rfl⟩
  rw [← hz] at ho hne ⊢
  have HO := hid ho
  have hz1 : (z == 0) = false := by simpa using hne
  have hz2 : decide (z = 0) = false := by simpa using hne
  clear h0 hz ho
  go_enter Try.func26, Try.ntmps26
  go_wp2_with (first
      | (go_at_call 52; refine (HO.out _).mono ?_; rintro r W1 ⟨rfl, b1⟩; obtain ⟨r0, r1, b1, s1⟩ := two_rows b1; have R0 := hid r0; have R1 := hid r1; have B1 := hid b1; clear b1 r0 r1)
      | (refine wpList_store_d (o := ⟨none, .store 43 (.tmp 3) (.tmp 36), _, _, _, _⟩) rfl (.tmp 3) (.tmp 36) rfl w.heap.size _ rfl rfl _ R0.out rfl rfl (all8 ..) ?_; intro W2 q0 bb; have Q1 := hid ((bb.out.block (w.heap.size + 1) (by omega) (by simp)).trans R1.out); have B2 := hid (B1.out.trans (bb.out.below (B := w.heap.size) (by rintro i rfl; exact Nat.le_refl _) B1.out.size)); have S2 : w.heap.size + 1 < W2.heap.size := (by have := bb.out.size; omega); obtain ⟨c0, c1, c2, c3, c4, c5, c6, c7⟩ := rcells_at q0.out; clear R0 R1 B1 bb)
      | (refine wpList_store_d (o := ⟨none, .store 43 (.tmp 6) (.tmp 40), _, _, _, _⟩) rfl (.tmp 6) (.tmp 40) rfl (w.heap.size + 1) _ rfl rfl _ Q1.out rfl rfl (all8 ..) ?_; intro W4 q1 bb))
  refine bodyPost_ret (results_d2 (by kernel_rfl : Try.f26.results = #[.cell 6 43, .tmp 7, .tmp 8]) _ _ (w.heap.size + 1) _ _ _ rfl q1.out rfl) rfl ?_
  exact ⟨rfl, B2.out.trans (bb.out.below (B := w.heap.size) (by rintro i rfl; omega) B2.out.size)⟩
theorem free8 {w : World} {g : Nat} {old : Array Value} (hg : w.heap[g]? = some (.cells old 43 (0, 0))) (a b c d e f i : Value) :
    (w).frozen? ⟨g, 0, none⟩ = false ∧ ((w).setCell ⟨g, 0, none⟩ a).frozen? ⟨g, 1, none⟩ = false ∧ (((w).setCell ⟨g, 0, none⟩ a).setCell ⟨g, 1, none⟩ b).frozen? ⟨g, 2, none⟩ = false ∧ ((((w).setCell ⟨g, 0, none⟩ a).setCell ⟨g, 1, none⟩ b).setCell ⟨g, 2, none⟩ c).frozen? ⟨g, 3, none⟩ = false ∧ (((((w).setCell ⟨g, 0, none⟩ a).setCell ⟨g, 1, none⟩ b).setCell ⟨g, 2, none⟩ c).setCell ⟨g, 3, none⟩ d).frozen? ⟨g, 4, none⟩ = false ∧ ((((((w).setCell ⟨g, 0, none⟩ a).setCell ⟨g, 1, none⟩ b).setCell ⟨g, 2, none⟩ c).setCell ⟨g, 3, none⟩ d).setCell ⟨g, 4, none⟩ e).frozen? ⟨g, 5, none⟩ = false ∧ (((((((w).setCell ⟨g, 0, none⟩ a).setCell ⟨g, 1, none⟩ b).setCell ⟨g, 2, none⟩ c).setCell ⟨g, 3, none⟩ d).setCell ⟨g, 4, none⟩ e).setCell ⟨g, 5, none⟩ f).frozen? ⟨g, 6, none⟩ = false ∧ ((((((((w).setCell ⟨g, 0, none⟩ a).setCell ⟨g, 1, none⟩ b).setCell ⟨g, 2, none⟩ c).setCell ⟨g, 3, none⟩ d).setCell ⟨g, 4, none⟩ e).setCell ⟨g, 5, none⟩ f).setCell ⟨g, 6, none⟩ i).frozen? ⟨g, 7, none⟩ = false :=
  ⟨row_free hg 0, row_free (row_set hg 0 a) 1, row_free (row_set (row_set hg 0 a) 1 b) 2, row_free (row_set (row_set (row_set hg 0 a) 1 b) 2 c) 3, row_free (row_set (row_set (row_set (row_set hg 0 a) 1 b) 2 c) 3 d) 4, row_free (row_set (row_set (row_set (row_set (row_set hg 0 a) 1 b) 2 c) 3 d) 4 e) 5, row_free (row_set (row_set (row_set (row_set (row_set (row_set hg 0 a) 1 b) 2 c) 3 d) 4 e) 5 f) 6, row_free (row_set (row_set (row_set (row_set (row_set (row_set (row_set hg 0 a) 1 b) 2 c) 3 d) 4 e) 5 f) 6 i) 7⟩
set_option maxRecDepth 10000 in
set_option maxHeartbeats 4000000 in
theorem RReadAt_any (d : Dk) (AN : Option Addr) (cN : Nat) (AO : Option Addr) (nO cO : Nat) (i n : Nat) (w : World) (h : RfOk d) (hN : IsBB w w.heap.size AN d.now.length cN d.now) (hin : i + n ≤ d.now.length) (h0 : d.op.2 = 0) :
    Calls Try.prog 26 #[.agg (rcells d (.slice AN d.now.length cN) (.slice AO nO cO)), .int .i64 (i : Nat), .int .i64 (n : Nat)] w fun r w' => ∃ A c, r = .returned (.tuple #[.agg (rcells d.op.1 (.slice AN d.now.length cN) (.slice AO nO cO)), .slice A n c, .int .i64 0]) ∧ w'.ownsRow w.heap.size 5 1 (.slice A n c) n (((d.now.drop i).take n).map bv) ∧ Below w.heap.size w w' := by
  have ho := fun W => Operation_any d AN d.now.length cN AO nO cO W h
  have hmo := h.mo
  have hnw := h.nw
  have hcap := hN.cap
  obtain ⟨d1, hd1⟩ : ∃ x, x = d.op.1 := ⟨_, rfl⟩
  rw [← hd1] at ho ⊢
  rw [h0] at ho
  simp only [rcells] at ho ⊢
  have hlz : (d.now.length : Int) ≤ 4194304 := by omega
  have hz1' : ¬ (i : Int) < 0 := by omega
  have hz2' : ¬ (n : Int) < 0 := by omega
  have hz3' : ¬ (d.now.length : Int) < (i : Int) := by omega
  have hz4' : ¬ (d.now.length : Int) - (i : Int) < (n : Int) := by omega
  obtain ⟨x, hx, hxl⟩ : ∃ x, x = (d.now.drop i).take n ∧ x.length = n := ⟨_, rfl, by rw [List.length_take, List.length_drop]; omega⟩
  rw [← hx]
  subst hxl
  have HX := hid hx
  have HI := hid hin
  have HN := hid hN
  clear hx hin
  clear hd1 h hmo hnw h0 hN
  have HO := hid ho
  clear ho
  go_enter Try.func26, Try.ntmps26
  go_upto_region 6 with (first
      | (go_at_call 52; refine (HO.out _).mono ?_; rintro r W1 ⟨rfl, b1⟩; obtain ⟨r0, r1, b1, s1⟩ := two_rows b1; have R0 := hid r0; have R1 := hid r1; have B1 := hid b1; clear b1 r0 r1)
      | (refine wpList_store_d (o := ⟨none, .store 43 (.tmp 3) (.tmp 36), _, _, _, _⟩) rfl (.tmp 3) (.tmp 36) rfl w.heap.size _ rfl rfl _ R0.out rfl rfl (all8 ..) ?_; intro W2 q0 bb; have Q1 := hid ((bb.out.block (w.heap.size + 1) (by omega) (by simp)).trans R1.out); have B2 := hid (B1.out.trans (bb.out.below (B := w.heap.size) (by rintro i rfl; exact Nat.le_refl _) B1.out.size)); have S2 : w.heap.size + 1 < W2.heap.size := (by have := bb.out.size; omega); obtain ⟨c0, c1, c2, c3, c4, c5, c6, c7⟩ := rcells_at q0.out; clear R0 R1 B1 bb))
  obtain ⟨A9, hsl, hp⟩ := slice_part (HN.out.on B2.out) i (i + x.length) (by omega) HI.out
  rw [show i + x.length - i = x.length by omega] at hsl hp
  rw [← HX.out] at hp
  have HP := hid hp
  have hle0 := HI.out
  obtain ⟨j, hj⟩ : ∃ j, j = i + x.length := ⟨_, rfl⟩
  rw [← hj] at hsl hle0
  have hadd : ((i : Nat) : Int) + (x.length : Int) = (j : Int) := by omega
  have hwr : IntKind.i64.wrap (j : Int) = (j : Int) := IntWalk.i64_in _ (by omega)
  have hle : (j : Int) ≤ 4194304 := by omega
  clear hj hle0
  clear hp hz3' hz4'
  have HC := hid (copied_any A9 x (cN - i) W2.drew HP.out.drew)
  refine wp_region_held_drew (S := fun w' => w'.heap[w.heap.size]? = some (.cells #[.int .i64 (d1.most : Nat), .slice AN d.now.length cN, .slice AO nO cO, .int .i64 (d1.floor : Nat), .bool d1.down, .int .i64 (d1.armed : Nat), .int .i64 (d1.fails : Nat), .int .i64 (d1.err : Nat)] 43 (0, 0))) (by kernel_rfl) q0.out (fun hH => ?_)
  refine wpAnyH_take (i := 0) (oi := ⟨some 42, _, _, _, _, _⟩) (v := .agg #[.int .i64 (d1.most : Nat), .slice AN d.now.length cN, .slice AO nO cO, .int .i64 (d1.floor : Nat), .bool d1.down, .int .i64 (d1.armed : Nat), .int .i64 (d1.fails : Nat), .int .i64 (d1.err : Nat)]) rfl (by kernel_rfl) (by kernel_rfl) (by kernel_rfl) (fun _ _ _ h => h) (Or.inl ⟨by rfl, by intro w hSw; obtain ⟨c0, c1, c2, c3, c4, c5, c6, c7⟩ := rcells_at hSw; go_simp⟩) hH ?_
  try simp only [Act.put, List.setIfInBounds_toArray, List.set_cons_zero, List.set_cons_succ]
  refine wpAnyH_take (i := 1) (oi := ⟨some 43, _, _, _, _, _⟩) (v := .pointer (some ⟨w.heap.size, 1, none⟩)) rfl (by kernel_rfl) (by kernel_rfl) (by kernel_rfl) (fun _ _ _ h => h) (Or.inl ⟨by rfl, by intro w hSw; go_simp⟩) hH ?_
  try simp only [Act.put, List.setIfInBounds_toArray, List.set_cons_zero, List.set_cons_succ]
  refine wpAnyH_take (i := 2) (oi := ⟨some 44, _, _, _, _, _⟩) (v := .slice AN d.now.length cN) rfl (by kernel_rfl) (by kernel_rfl) (by kernel_rfl) (fun _ _ _ h => h) (Or.inl ⟨by rfl, by intro w hSw; obtain ⟨c0, c1, c2, c3, c4, c5, c6, c7⟩ := rcells_at hSw; go_simp⟩) hH ?_
  try simp only [Act.put, List.setIfInBounds_toArray, List.set_cons_zero, List.set_cons_succ]
  refine wpAnyH_take (i := 3) (oi := ⟨some 45, _, _, _, _, _⟩) (v := .int .i64 (i : Nat)) rfl (by kernel_rfl) (by kernel_rfl) (by kernel_rfl) (fun _ _ _ h => h) (Or.inl ⟨by rfl, by intro w hSw; go_simp⟩) hH ?_
  try simp only [Act.put, List.setIfInBounds_toArray, List.set_cons_zero, List.set_cons_succ]
  refine wpAnyH_take (i := 4) (oi := ⟨some 46, _, _, _, _, _⟩) (v := .int .i64 (i : Nat)) rfl (by kernel_rfl) (by kernel_rfl) (by kernel_rfl) (fun _ _ _ h => h) (Or.inl ⟨by rfl, by intro w hSw; go_simp⟩) hH ?_
  try simp only [Act.put, List.setIfInBounds_toArray, List.set_cons_zero, List.set_cons_succ]
  refine wpAnyH_take (i := 5) (oi := ⟨some 47, _, _, _, _, _⟩) (v := .int .i64 (x.length : Nat)) rfl (by kernel_rfl) (by kernel_rfl) (by kernel_rfl) (fun _ _ _ h => h) (Or.inl ⟨by rfl, by intro w hSw; go_simp⟩) hH ?_
  try simp only [Act.put, List.setIfInBounds_toArray, List.set_cons_zero, List.set_cons_succ]
  refine wpAnyH_take (i := 6) (oi := ⟨some 48, _, _, _, _, _⟩) (v := .int .i64 (j : Nat)) rfl (by kernel_rfl) (by kernel_rfl) (by kernel_rfl) (fun _ _ _ h => h) (Or.inl ⟨by rfl, by intro w hSw; go_simp⟩) hH ?_
  try simp only [Act.put, List.setIfInBounds_toArray, List.set_cons_zero, List.set_cons_succ]
  refine wpAnyH_take (i := 7) (oi := ⟨some 49, _, _, _, _, _⟩) (v := .slice A9 x.length (cN - i)) rfl (by kernel_rfl) (by kernel_rfl) (by kernel_rfl) (fun _ _ _ h => h) (Or.inl ⟨by rfl, by intro w hSw; go_simp⟩) hH ?_
  try simp only [Act.put, List.setIfInBounds_toArray, List.set_cons_zero, List.set_cons_succ]
  refine wpAnyH_ready (rs := [8]) (by kernel_rfl) (by simp) (AllReadyH.cons rfl (fun K hK => ?_) AllReadyH.nil)
  go_simp
  go_at_call 50
  refine HC.out.mono ?_
  rintro r W3 ⟨v, rfl, o3, b3⟩
  obtain ⟨A3, k3, rfl⟩ := own_sl o3
  have b3' := below_at rfl b3
  have Q0 := hid ((b3'.block _ (by omega)).trans q0.out)
  have Q31 := hid ((b3'.block _ S2).trans Q1.out)
  have B3 := hid (B2.out.trans (b3'.mono B2.out.size))
  have S3 := Nat.lt_of_lt_of_le S2 b3'.size
  have O3 := hid (own_at (k := W2.heap.size) rfl o3)
  have L3 : W2.heap.size ≤ W3.heap.size := b3'.size
  clear o3 b3 b3' c0 c1 c2 c3 c4 c5 c6 c7
  try dsimp only
  refine hK.out _ _ Q0.out (fun hH2 => ?_)
  clear hK K
  refine wpAnyH_ready (rs := [9]) (by kernel_rfl) (by simp) (AllReadyH.cons rfl (fun K hK => ?_) AllReadyH.nil)
  refine wp_store_row (o := ⟨none, .store 43 (.tmp 6) (.tmp 42), _, _, _, _⟩) 43 (.tmp 6) (.tmp 42) rfl (w.heap.size + 1) #[.int .i64 (d1.most : Nat), .slice AN d.now.length cN, .slice AO nO cO, .int .i64 (d1.floor : Nat), .bool d1.down, .int .i64 (d1.armed : Nat), .int .i64 (d1.fails : Nat), .int .i64 (d1.err : Nat)] rfl rfl 43 _ Q31.out (by kernel_rfl) rfl (all8 ..) ?_
  have q1 : Hid ((W3.setRow (w.heap.size + 1) #[.int .i64 (d1.most : Nat), .slice AN d.now.length cN, .slice AO nO cO, .int .i64 (d1.floor : Nat), .bool d1.down, .int .i64 (d1.armed : Nat), .int .i64 (d1.fails : Nat), .int .i64 (d1.err : Nat)]).heap[w.heap.size + 1]? = some (.cells #[.int .i64 (d1.most : Nat), .slice AN d.now.length cN, .slice AO nO cO, .int .i64 (d1.floor : Nat), .bool d1.down, .int .i64 (d1.armed : Nat), .int .i64 (d1.fails : Nat), .int .i64 (d1.err : Nat)] 43 (0, 0))) := setRow_heap W3 (w.heap.size + 1) _ _ 43 _ Q31.out
  have bb : Hid (But (· = w.heap.size + 1) W3 (W3.setRow (w.heap.size + 1) #[.int .i64 (d1.most : Nat), .slice AN d.now.length cN, .slice AO nO cO, .int .i64 (d1.floor : Nat), .bool d1.down, .int .i64 (d1.armed : Nat), .int .i64 (d1.fails : Nat), .int .i64 (d1.err : Nat)])) := ⟨rfl, rfl, rfl, by simp [World.setRow], fun i _ hn => setRow_other W3 (w.heap.size + 1) i _ (fun e => hn e)⟩
  generalize W3.setRow (w.heap.size + 1) #[.int .i64 (d1.most : Nat), .slice AN d.now.length cN, .slice AO nO cO, .int .i64 (d1.floor : Nat), .bool d1.down, .int .i64 (d1.armed : Nat), .int .i64 (d1.fails : Nat), .int .i64 (d1.err : Nat)] = W4 at q1 bb ⊢
  try simp only [Act.put, List.setIfInBounds_toArray, List.set_cons_zero, List.set_cons_succ]
  refine hK.out _ _ ((bb.out.block w.heap.size (by omega) (by simp)).trans Q0.out) (fun hH3 => ?_)
  clear hK K
  refine wpAnyH_take (i := 10) (oi := ⟨some 7, _, _, _, _, _⟩) (v := .slice A3 x.length k3) rfl (by kernel_rfl) (by kernel_rfl) (by kernel_rfl) (fun _ _ _ h => h) (Or.inl ⟨by rfl, by intro w hSw; go_simp⟩) hH3 ?_
  try simp only [Act.put, List.setIfInBounds_toArray, List.set_cons_zero, List.set_cons_succ]
  refine wpAnyH_take (i := 11) (oi := ⟨some 8, _, _, _, _, _⟩) (v := .int .i64 0) rfl (by kernel_rfl) (by kernel_rfl) (by kernel_rfl) (fun _ _ _ h => h) (Or.inl ⟨by rfl, by intro w hSw; go_simp⟩) hH3 ?_
  try simp only [Act.put, List.setIfInBounds_toArray, List.set_cons_zero, List.set_cons_succ]
  refine wpAnyH_done (by kernel_rfl) ?_ _
  clear hH hH2 hH3
  go_wp2_with fail
  refine bodyPost_ret (results_d2 (by kernel_rfl : Try.f26.results = #[.cell 6 43, .tmp 7, .tmp 8]) _ _ (w.heap.size + 1) _ _ _ rfl q1.out rfl) rfl ?_
  exact ⟨A3, k3, rfl, own_base (ownsRow_but O3.out bb.out (fun k hk e => by have := (O3.out.lt k hk).1; omega)) (by omega), B3.out.trans (bb.out.below (B := w.heap.size) (by rintro i rfl; omega) B3.out.size)⟩
end Go.Proofs.Ytgccjclloomfgaa
