/-
  The document's disk: Truncate.
-/
import Derived.Test.YtgccjclloomfgaaRsy
import Derived.Test.YtgccjclloomfgaaTru
namespace Go.Proofs.Ytgccjclloomfgaa
open Go.RowKit

set_option maxRecDepth 10000 in
set_option maxHeartbeats 1000000 in
theorem RTruncate_bad (d : Dk) (AN : Option Addr) (cN : Nat) (AO : Option Addr) (nO cO : Nat) (n : Int) (w : World) (hb : ¬ (0 ≤ n ∧ n ≤ (d.now.length : Int))) :
    Calls Try.prog 27 #[.agg (rcells d (.slice AN d.now.length cN) (.slice AO nO cO)), .int .i64 n] w fun r w' => r = .returned (.tuple #[.agg (rcells d (.slice AN d.now.length cN) (.slice AO nO cO)), .int .i64 2]) ∧ Below w.heap.size w w' := by
  simp only [rcells]
  by_cases h1 : n < 0
  · clear hb
    go_enter Try.func27, Try.ntmps27
    go_wp2_with fail
    refine bodyPost_ret (results_d1 (by kernel_rfl : Try.f27.results = #[.cell 4 43, .tmp 5]) _ _ (w.heap.size + 1) _ _ _ rfl (heap_alloc2_new w _ _) rfl) rfl ?_
    exact ⟨rfl, fr2 w _ _⟩
  · have h2 : (d.now.length : Int) < n := by omega
    clear hb
    go_enter Try.func27, Try.ntmps27
    go_wp2_with fail
    refine bodyPost_ret (results_d1 (by kernel_rfl : Try.f27.results = #[.cell 4 43, .tmp 5]) _ _ (w.heap.size + 1) _ _ _ rfl (heap_alloc2_new w _ _) rfl) rfl ?_
    exact ⟨rfl, fr2 w _ _⟩
set_option maxRecDepth 10000 in
set_option maxHeartbeats 2000000 in
theorem RTruncate_any (d : Dk) (AN : Option Addr) (cN : Nat) (AO : Option Addr) (nO cO : Nat) (n : Nat) (w : World) (h : RfOk d) (hN : IsBB w w.heap.size AN d.now.length cN d.now) (hn : n ≤ d.now.length) :
    Calls Try.prog 27 #[.agg (rcells d (.slice AN d.now.length cN) (.slice AO nO cO)), .int .i64 (n : Nat)] w fun r w' => ∃ N', r = .returned (.tuple #[.agg (rcells (d.trunc n).1 N' (.slice AO nO cO)), .int .i64 ((d.trunc n).2 : Nat)]) ∧ RL w w' (.slice AN d.now.length cN) N' d.now (d.trunc n).1.now ∧ Below w.heap.size w w' := by
  have ho := fun W => Operation_any d AN d.now.length cN AO nO cO W h
  obtain ⟨en, eo, ef, em⟩ := op_now d
  have hmo := h.mo
  have hnw := h.nw
  have hcap := hN.cap
  have hsy : d.op.2 = 0 → d.trunc n = ({ d.op.1 with now := d.op.1.now.take n, floor := min d.op.1.floor n }, 0) := trunc_of d n hn
  have hsn : d.op.2 ≠ 0 → d.trunc n = (d.op.1, d.op.2) := fun h0 => trunc_no d n hn h0
  obtain ⟨d1, hd1⟩ : ∃ x, x = d.op.1 := ⟨_, rfl⟩
  obtain ⟨e, he⟩ : ∃ x, x = d.op.2 := ⟨_, rfl⟩
  rw [← hd1] at en eo ef em hsn hsy ho
  rw [← he] at hsn hsy ho
  simp only [rcells] at ho ⊢
  have HO := hid ho
  have HE := hid (And.intro en (And.intro eo (And.intro ef em)))
  clear ho hd1 he h en eo ef em
  have HN := hid hN
  have hnz : ¬ (n : Int) < 0 := by omega
  have hnz2 : ¬ (d.now.length : Int) < (n : Int) := by omega
  clear hN
  by_cases h0 : e = 0
  · subst h0
    have Hsy := hid (hsy rfl)
    clear hsy hsn
    obtain ⟨x, hx, hxl⟩ : ∃ x, x = d.now.take n ∧ x.length = n := ⟨_, rfl, by rw [List.length_take]; omega⟩
    have HX := hid hx
    have hsl := slice_cut AN d.now.length cN n (by omega)
    have hnn : (n : Int) ≤ 4194304 := by omega
    have Hn := hid hn
    have HM := hid (And.intro hmo hnw)
    clear hx hn hmo hnw hcap
    subst hxl
    go_enter Try.func27, Try.ntmps27
    go_upto_region 6 with (first
      | (go_at_call 52; refine (HO.out _).mono ?_; rintro r W1 ⟨rfl, b1⟩; obtain ⟨r0, r1, b1, s1⟩ := two_rows b1; have R0 := hid r0; have R1 := hid r1; have B1 := hid b1; clear b1 r0 r1)
      | (refine wpList_store_d (o := ⟨none, .store 43 (.tmp 2) (.tmp 20), _, _, _, _⟩) rfl (.tmp 2) (.tmp 20) rfl w.heap.size _ rfl rfl _ R0.out rfl rfl (all8 ..) ?_; intro W2 q0 bb; have Q1 := hid ((bb.out.block (w.heap.size + 1) (by omega) (by simp)).trans R1.out); have B2 := hid (B1.out.trans (bb.out.below (B := w.heap.size) (by rintro i rfl; exact Nat.le_refl _) B1.out.size)); have S2 : w.heap.size + 1 < W2.heap.size := (by have := bb.out.size; omega); obtain ⟨c0, c1, c2, c3, c4, c5, c6, c7⟩ := rcells_at q0.out; clear R0 R1 B1 bb))
    have HC := hid (copied_any AN x cN W2 (by have := take_isB (HN.out.on B2.out) Hn.out; rw [← HX.out] at this; exact this))
    go_upto_region 7 with (first
        | (go_at_call 50; refine HC.out.mono ?_; rintro r W3 ⟨v, rfl, o3, b3⟩; obtain ⟨A3, k3, rfl⟩ := own_sl o3; have Q0 := hid ((b3.block _ (by omega)).trans q0.out); have Q31 := hid ((b3.block _ S2).trans Q1.out); have B3 := hid (B2.out.trans (b3.mono B2.out.size)); have S3 := Nat.lt_of_lt_of_le S2 b3.size; have O3 := hid o3; have L3 : W2.heap.size ≤ W3.heap.size := b3.size; have f1 := row_free Q0.out 1; clear o3 b3 c0 c1 c2 c3 c4 c5 c6 c7; obtain ⟨c0, c1, c2, c3, c4, c5, c6, c7⟩ := rcells_at Q0.out))
    have hbut := (But.refl (· = w.heap.size) W3).set ⟨w.heap.size, 1, none⟩ (.slice A3 x.length k3) (.inl rfl)
    by_cases hfl : x.length < d1.floor
    · have hflz : (x.length : Int) < (d1.floor : Int) := by omega
      have hmin : min d1.floor x.length = x.length := by omega
      have f3 := row_free (row_set Q0.out 1 (.slice A3 x.length k3)) 3
      have hbut2 := hbut.set ⟨w.heap.size, 3, none⟩ (.int .i64 (x.length : Nat)) (.inl rfl)
      have HQ := hid ((hbut2.block (w.heap.size + 1) S3 (by simp)).trans Q31.out)
      have HB := hid hbut2
      have Hmin := hid hmin
      have HF := hid hfl
      clear hbut hbut2 hmin hfl
      go_wp2_with (refine wpList_store_d (o := ⟨none, .store 43 (.tmp 4) (.tmp 38), _, _, _, _⟩) rfl (.tmp 4) (.tmp 38) rfl (w.heap.size + 1) _ rfl rfl _ HQ.out rfl rfl (all8 ..) ?_; intro W4 q1 bb)
      refine bodyPost_ret (results_d1 (by kernel_rfl : Try.f27.results = #[.cell 4 43, .tmp 5]) _ _ (w.heap.size + 1) _ _ _ rfl q1.out rfl) rfl ?_
      obtain ⟨en, eo, ef, em⟩ := HE.out
      have hb : But (fun i => i = w.heap.size ∨ i = w.heap.size + 1) W3 W4 := (HB.out.mono (fun i hi => .inl (.inl hi))).trans bb.out (fun i hi => .inl (.inr hi))
      rw [Hsy.out, en, ← HX.out, Hmin.out]
      refine ⟨_, rfl, own_later (W2 := W2) (by exact O3.out) hb (by rintro i (rfl | rfl) <;> omega) (by show x.length ≤ _; omega) (by omega), B3.out.trans (hb.below (B := w.heap.size) (by rintro i (rfl | rfl) <;> omega) B3.out.size)⟩
    · have hflz : ¬ (x.length : Int) < (d1.floor : Int) := by omega
      have hmin : min d1.floor x.length = d1.floor := by omega
      have HQ := hid ((hbut.block (w.heap.size + 1) S3 (by simp)).trans Q31.out)
      have HB := hid hbut
      have Hmin := hid hmin
      have HF := hid hfl
      clear hbut hmin hfl
      go_wp2_with (refine wpList_store_d (o := ⟨none, .store 43 (.tmp 4) (.tmp 38), _, _, _, _⟩) rfl (.tmp 4) (.tmp 38) rfl (w.heap.size + 1) _ rfl rfl _ HQ.out rfl rfl (all8 ..) ?_; intro W4 q1 bb)
      refine bodyPost_ret (results_d1 (by kernel_rfl : Try.f27.results = #[.cell 4 43, .tmp 5]) _ _ (w.heap.size + 1) _ _ _ rfl q1.out rfl) rfl ?_
      obtain ⟨en, eo, ef, em⟩ := HE.out
      have hb : But (fun i => i = w.heap.size ∨ i = w.heap.size + 1) W3 W4 := (HB.out.mono (fun i hi => .inl (.inl hi))).trans bb.out (fun i hi => .inl (.inr hi))
      rw [Hsy.out, en, ← HX.out, Hmin.out]
      refine ⟨_, rfl, own_later (W2 := W2) (by exact O3.out) hb (by rintro i (rfl | rfl) <;> omega) (by show x.length ≤ _; omega) (by omega), B3.out.trans (hb.below (B := w.heap.size) (by rintro i (rfl | rfl) <;> omega) B3.out.size)⟩
  · have hne : ((e : Nat) : Int) ≠ 0 := by omega
    have Hsn := hid (hsn h0)
    obtain ⟨z, hz⟩ : ∃ z : Int, z = (e : Int) := ⟨_, rfl⟩
    rw [← hz] at HO hne
    have hz1 : (z == 0) = false := by simpa using hne
    have hz2 : decide (z = 0) = false := by simpa using hne
    have Hz := hid hz
    clear hsy hsn h0 hz
    go_enter Try.func27, Try.ntmps27
    go_wp2_with (first
      | (go_at_call 52; refine (HO.out _).mono ?_; rintro r W1 ⟨rfl, b1⟩; obtain ⟨r0, r1, b1, s1⟩ := two_rows b1; have R0 := hid r0; have R1 := hid r1; have B1 := hid b1; clear b1 r0 r1)
      | (refine wpList_store_d (o := ⟨none, .store 43 (.tmp 2) (.tmp 20), _, _, _, _⟩) rfl (.tmp 2) (.tmp 20) rfl w.heap.size _ rfl rfl _ R0.out rfl rfl (all8 ..) ?_; intro W2 q0 bb; have Q1 := hid ((bb.out.block (w.heap.size + 1) (by omega) (by simp)).trans R1.out); have B2 := hid (B1.out.trans (bb.out.below (B := w.heap.size) (by rintro i rfl; exact Nat.le_refl _) B1.out.size)); have S2 : w.heap.size + 1 < W2.heap.size := (by have := bb.out.size; omega); obtain ⟨c0, c1, c2, c3, c4, c5, c6, c7⟩ := rcells_at q0.out; clear R0 R1 B1 bb)
      | (refine wpList_store_d (o := ⟨none, .store 43 (.tmp 4) (.tmp 24), _, _, _, _⟩) rfl (.tmp 4) (.tmp 24) rfl (w.heap.size + 1) _ rfl rfl _ Q1.out rfl rfl (all8 ..) ?_; intro W4 q1 bb))
    refine bodyPost_ret (results_d1 (by kernel_rfl : Try.f27.results = #[.cell 4 43, .tmp 5]) _ _ (w.heap.size + 1) _ _ _ rfl q1.out rfl) rfl ?_
    rw [Hsn.out]
    exact ⟨_, (by rw [← Hz.out]; rfl), (by left; exact ⟨rfl, HE.out.1⟩), B2.out.trans (bb.out.below (B := w.heap.size) (by rintro i rfl; omega) B2.out.size)⟩
end Go.Proofs.Ytgccjclloomfgaa
