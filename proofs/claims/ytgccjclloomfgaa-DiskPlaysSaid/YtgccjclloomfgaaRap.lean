/-
  The document's disk: Append.
-/
import Derived.Test.YtgccjclloomfgaaRsy
namespace Go.Proofs.Ytgccjclloomfgaa
open Go.RowKit

set_option maxRecDepth 10000 in
set_option maxHeartbeats 2000000 in
theorem RAppend_any (d : Dk) (AN : Option Addr) (cN : Nat) (AO : Option Addr) (nO cO : Nat) (A : Option Addr) (m c : Nat) (l : List UInt8) (w : World) (h : RfOk d) (hN : IsBB w w.heap.size AN d.now.length cN d.now) (hl : IsBB w w.heap.size A m c l) :
    Calls Try.prog 24 #[.agg (rcells d (.slice AN d.now.length cN) (.slice AO nO cO)), .slice A m c] w fun r w' => ∃ N', r = .returned (.tuple #[.agg (rcells (d.app l).1 N' (.slice AO nO cO)), .int .i64 ((d.app l).2 : Nat)]) ∧ RL w w' (.slice AN d.now.length cN) N' d.now (d.app l).1.now ∧ Below w.heap.size w w' := by
  have ho := fun W => Operation_any d AN d.now.length cN AO nO cO W h
  have hm := hl.small
  obtain ⟨en, eo, ef, em⟩ := op_now d
  have hmo := h.mo
  have hnw := h.nw
  have hll := hl.len
  subst hll
  have hsy : d.op.2 = 0 → ¬ d.most < d.now.length + l.length → d.app l = ({ d.op.1 with now := d.op.1.now ++ l }, 0) := app_of d l
  have hsf : d.op.2 = 0 → d.most < d.now.length + l.length → d.app l = (d.op.1, 5) := app_full d l
  have hsn : d.op.2 ≠ 0 → d.app l = (d.op.1, d.op.2) := fun h0 => app_no d l h0
  obtain ⟨d1, hd1⟩ : ∃ x, x = d.op.1 := ⟨_, rfl⟩
  obtain ⟨e, he⟩ : ∃ x, x = d.op.2 := ⟨_, rfl⟩
  rw [← hd1] at en eo ef em hsn hsy hsf ho
  rw [← he] at hsn hsy hsf ho
  simp only [rcells] at ho ⊢
  have HO := hid ho
  have HE := hid (And.intro en (And.intro eo (And.intro ef em)))
  clear ho hd1 he h en eo ef
  have HN := hid hN
  have HL := hid hl
  clear hN hl
  by_cases h0 : e = 0
  · subst h0
    by_cases hf : d.most < d.now.length + l.length
    · have Hsf := hid (hsf rfl hf)
      have hfz : (d1.most : Int) < (d.now.length : Int) + (l.length : Int) := by omega
      clear hsy hsn hsf em
      go_enter Try.func24, Try.ntmps24
      go_wp2_with (first
      | (go_at_call 52; refine (HO.out _).mono ?_; rintro r W1 ⟨rfl, b1⟩; obtain ⟨r0, r1, b1, s1⟩ := two_rows b1; have R0 := hid r0; have R1 := hid r1; have B1 := hid b1; clear b1 r0 r1)
      | (refine wpList_store_d (o := ⟨none, .store 43 (.tmp 2) (.tmp 10), _, _, _, _⟩) rfl (.tmp 2) (.tmp 10) rfl w.heap.size _ rfl rfl _ R0.out rfl rfl (all8 ..) ?_; intro W2 q0 bb; have Q1 := hid ((bb.out.block (w.heap.size + 1) (by omega) (by simp)).trans R1.out); have B2 := hid (B1.out.trans (bb.out.below (B := w.heap.size) (by rintro i rfl; exact Nat.le_refl _) B1.out.size)); have S2 : w.heap.size + 1 < W2.heap.size := (by have := bb.out.size; omega); obtain ⟨c0, c1, c2, c3, c4, c5, c6, c7⟩ := rcells_at q0.out; clear R0 R1 B1 bb)
      | (refine wpList_store_d (o := ⟨none, .store 43 (.tmp 4) (.tmp 25), _, _, _, _⟩) rfl (.tmp 4) (.tmp 25) rfl (w.heap.size + 1) _ rfl rfl _ Q1.out rfl rfl (all8 ..) ?_; intro W4 q1 bb))
      refine bodyPost_ret (results_d1 (by kernel_rfl : Try.f24.results = #[.cell 4 43, .tmp 5]) _ _ (w.heap.size + 1) _ _ _ rfl q1.out rfl) rfl ?_
      rw [Hsf.out]
      exact ⟨_, rfl, (by left; exact ⟨rfl, HE.out.1⟩), B2.out.trans (bb.out.below (B := w.heap.size) (by rintro i rfl; omega) B2.out.size)⟩
    · have Hsy := hid (hsy rfl hf)
      have hfz : ¬ (d1.most : Int) < (d.now.length : Int) + (l.length : Int) := by omega
      have htot : d.now.length + l.length ≤ 4194304 := by omega
      clear hsy hsn hsf em
      go_enter Try.func24, Try.ntmps24
      go_upto_region 6 with (first
      | (go_at_call 52; refine (HO.out _).mono ?_; rintro r W1 ⟨rfl, b1⟩; obtain ⟨r0, r1, b1, s1⟩ := two_rows b1; have R0 := hid r0; have R1 := hid r1; have B1 := hid b1; clear b1 r0 r1)
      | (refine wpList_store_d (o := ⟨none, .store 43 (.tmp 2) (.tmp 10), _, _, _, _⟩) rfl (.tmp 2) (.tmp 10) rfl w.heap.size _ rfl rfl _ R0.out rfl rfl (all8 ..) ?_; intro W2 q0 bb; have Q1 := hid ((bb.out.block (w.heap.size + 1) (by omega) (by simp)).trans R1.out); have B2 := hid (B1.out.trans (bb.out.below (B := w.heap.size) (by rintro i rfl; exact Nat.le_refl _) B1.out.size)); have S2 : w.heap.size + 1 < W2.heap.size := (by have := bb.out.size; omega); obtain ⟨c0, c1, c2, c3, c4, c5, c6, c7⟩ := rcells_at q0.out; clear R0 R1 B1 bb))
      have HC := hid (copied_any AN d.now cN W2 (HN.out.on B2.out))
      go_upto_region 7 with (first
        | (go_at_call 50; refine HC.out.mono ?_; rintro r W3 ⟨v, rfl, o3, b3⟩; obtain ⟨A3, k3, rfl⟩ := own_sl o3; have Q0 := hid ((b3.block _ (by omega)).trans q0.out); have Q31 := hid ((b3.block _ S2).trans Q1.out); have B3 := hid (B2.out.trans (b3.mono B2.out.size)); have S3 := Nat.lt_of_lt_of_le S2 b3.size; have O3 := hid o3; have L3 : W2.heap.size ≤ W3.heap.size := b3.size; clear o3 b3 c0 c1 c2 c3 c4 c5 c6 c7)
        | (at_builtin; refine wpList_append_bytes rfl (.tmp 28) (.tmp 29) rfl W2.heap.size W3 (.slice A3 d.now.length k3) d.now.length d.now rfl O3.out A l.length c l rfl (HL.out.on B3.out).toIsB (by omega) (Below.refl _ _) L3 ?_; intro v4 W4 o4 b4 k4; obtain ⟨A4, c4, rfl⟩ := own_sl o4.out; have Q40 := hid ((b4.out.block (w.heap.size) (by omega)).trans Q0.out); have Q41 := hid ((b4.out.block (w.heap.size + 1) S2).trans Q31.out); have B4 := hid (B3.out.trans (b4.out.mono (by have := B2.out.size; omega))); have S4 : w.heap.size + 1 < W4.heap.size := (by have := b4.out.size; omega); have f1 := row_free Q40.out 1; clear O3 B3 k4 Q0 Q31; obtain ⟨c0, c1, c2, c3, c4', c5, c6, c7⟩ := rcells_at Q40.out))
      have hbut := (But.refl (· = w.heap.size) W4).set ⟨w.heap.size, 1, none⟩ (.slice A4 (d.now.length + l.length) c4) (.inl rfl)
      have HQ := hid ((hbut.block (w.heap.size + 1) S4 (by simp)).trans Q41.out)
      have HB := hid hbut
      clear hbut f1
      have HW := hid (And.intro L3 (And.intro S3 (And.intro S2 S4)))
      go_wp2_with (refine wpList_store_d (o := ⟨none, .store 43 (.tmp 4) (.tmp 32), _, _, _, _⟩) rfl (.tmp 4) (.tmp 32) rfl (w.heap.size + 1) _ rfl rfl _ HQ.out rfl rfl (all8 ..) ?_; intro W5 q1 bb)
      refine bodyPost_ret (results_d1 (by kernel_rfl : Try.f24.results = #[.cell 4 43, .tmp 5]) _ _ (w.heap.size + 1) _ _ _ rfl q1.out rfl) rfl ?_
      obtain ⟨L3, S3, S2, S4⟩ := HW.out
      obtain ⟨en, eo, ef, em⟩ := HE.out
      have hb : But (fun i => i = w.heap.size ∨ i = w.heap.size + 1) W4 W5 := (HB.out.mono (fun i hi => .inl (.inl hi))).trans bb.out (fun i hi => .inl (.inr hi))
      rw [Hsy.out, en]
      refine ⟨_, rfl, own_later (W2 := W2) (by rw [List.length_append]; exact o4.out) hb (by rintro i (rfl | rfl) <;> omega) (by rw [List.length_append]; omega) (by omega), B4.out.trans (hb.below (B := w.heap.size) (by rintro i (rfl | rfl) <;> omega) B4.out.size)⟩
  · have hne : ((e : Nat) : Int) ≠ 0 := by omega
    have Hsn := hid (hsn h0)
    obtain ⟨z, hz⟩ : ∃ z : Int, z = (e : Int) := ⟨_, rfl⟩
    rw [← hz] at HO hne
    have hz1 : (z == 0) = false := by simpa using hne
    have hz2 : decide (z = 0) = false := by simpa using hne
    have Hz := hid hz
    clear hsy hsn hsf h0 hz em
    go_enter Try.func24, Try.ntmps24
    go_wp2_with (first
      | (go_at_call 52; refine (HO.out _).mono ?_; rintro r W1 ⟨rfl, b1⟩; obtain ⟨r0, r1, b1, s1⟩ := two_rows b1; have R0 := hid r0; have R1 := hid r1; have B1 := hid b1; clear b1 r0 r1)
      | (refine wpList_store_d (o := ⟨none, .store 43 (.tmp 2) (.tmp 10), _, _, _, _⟩) rfl (.tmp 2) (.tmp 10) rfl w.heap.size _ rfl rfl _ R0.out rfl rfl (all8 ..) ?_; intro W2 q0 bb; have Q1 := hid ((bb.out.block (w.heap.size + 1) (by omega) (by simp)).trans R1.out); have B2 := hid (B1.out.trans (bb.out.below (B := w.heap.size) (by rintro i rfl; exact Nat.le_refl _) B1.out.size)); have S2 : w.heap.size + 1 < W2.heap.size := (by have := bb.out.size; omega); obtain ⟨c0, c1, c2, c3, c4, c5, c6, c7⟩ := rcells_at q0.out; clear R0 R1 B1 bb)
      | (refine wpList_store_d (o := ⟨none, .store 43 (.tmp 4) (.tmp 14), _, _, _, _⟩) rfl (.tmp 4) (.tmp 14) rfl (w.heap.size + 1) _ rfl rfl _ Q1.out rfl rfl (all8 ..) ?_; intro W4 q1 bb))
    refine bodyPost_ret (results_d1 (by kernel_rfl : Try.f24.results = #[.cell 4 43, .tmp 5]) _ _ (w.heap.size + 1) _ _ _ rfl q1.out rfl) rfl ?_
    rw [Hsn.out]
    exact ⟨_, (by rw [← Hz.out]; rfl), (by left; exact ⟨rfl, HE.out.1⟩), B2.out.trans (bb.out.below (B := w.heap.size) (by rintro i rfl; omega) B2.out.size)⟩
end Go.Proofs.Ytgccjclloomfgaa
