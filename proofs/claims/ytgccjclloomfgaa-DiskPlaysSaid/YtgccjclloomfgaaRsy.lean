/-
  The document's disk: Sync.
-/
import Derived.Test.YtgccjclloomfgaaRfc
import Derived.Test.YtgccjclloomfgaaSyn
namespace Go.Proofs.Ytgccjclloomfgaa
open Go.RowKit

theorem rcells_at {w : World} {g : Nat} {a b c d e f i j : Value} (h : w.heap[g]? = some (.cells #[a, b, c, d, e, f, i, j] 43 (0, 0))) :
    w.cell? ⟨g, 0, none⟩ = some a ∧ w.cell? ⟨g, 1, none⟩ = some b ∧ w.cell? ⟨g, 2, none⟩ = some c ∧ w.cell? ⟨g, 3, none⟩ = some d ∧ w.cell? ⟨g, 4, none⟩ = some e ∧ w.cell? ⟨g, 5, none⟩ = some f ∧ w.cell? ⟨g, 6, none⟩ = some i ∧ w.cell? ⟨g, 7, none⟩ = some j :=
  ⟨row_cell h 0, row_cell h 1, row_cell h 2, row_cell h 3, row_cell h 4, row_cell h 5, row_cell h 6, row_cell h 7⟩
theorem all8 (a : Int) (A : Option Addr) (b c : Nat) (A2 : Option Addr) (b2 c2 : Nat) (d : Int) (e : Bool) (f i j : Int) : (#[Value.int .i64 a, .slice A b c, .slice A2 b2 c2, .int .i64 d, .bool e, .int .i64 f, .int .i64 i, .int .i64 j] : Array Value).all (·.oneCell') = true := by simp [Value.oneCell']
theorem own_later {T : Nat → Prop} {w W2 W3 W4 : World} {N N' : Value} {l l' : List UInt8} (o : W3.ownsRow W2.heap.size 5 1 N' l'.length (l'.map bv)) (b : But T W3 W4) (hT : ∀ i, T i → i < W2.heap.size) (hs : l'.length ≤ 140737488355328) (hw : w.heap.size ≤ W2.heap.size) : RL w W4 N N' l l' :=
  RL.own (w0 := W2) (ownsRow_but o b (fun k hk ht => by have := (o.lt k hk).1; have := hT k ht; omega)) hs hw
set_option maxRecDepth 10000 in
set_option maxHeartbeats 1000000 in
theorem RSync_any (d : Dk) (AN : Option Addr) (cN : Nat) (AO : Option Addr) (nO cO : Nat) (w : World) (h : RfOk d) (hN : IsBB w w.heap.size AN d.now.length cN d.now) :
    Calls Try.prog 25 #[.agg (rcells d (.slice AN d.now.length cN) (.slice AO nO cO))] w fun r w' => ∃ O', r = .returned (.tuple #[.agg (rcells d.syn.1 (.slice AN d.now.length cN) O'), .int .i64 (d.syn.2 : Nat)]) ∧ RL w w' (.slice AO nO cO) O' d.old d.syn.1.old ∧ Below w.heap.size w w' := by
  have ho := fun W => Operation_any d AN d.now.length cN AO nO cO W h
  have hs := hN.small
  obtain ⟨en, eo, ef, em⟩ := op_now d
  have hsy : d.op.2 = 0 → d.syn = (d.op.1.settled, 0) := fun h0 => syn_of d h0
  have hsn : d.op.2 ≠ 0 → d.syn = (d.op.1, d.op.2) := fun h0 => syn_no d h0
  obtain ⟨d1, hd1⟩ : ∃ x, x = d.op.1 := ⟨_, rfl⟩
  obtain ⟨e, he⟩ : ∃ x, x = d.op.2 := ⟨_, rfl⟩
  rw [← hd1] at en eo ef em hsn hsy ho
  rw [← he] at hsn hsy ho
  simp only [rcells] at ho ⊢
  have HO := hid ho
  have HE := hid (And.intro en (And.intro eo (And.intro ef em)))
  clear ho hd1 he h en eo ef em
  have HN := hid hN
  clear hN
  by_cases h0 : e = 0
  · subst h0
    have Hsy := hid (hsy rfl)
    clear hsy hsn
    go_enter Try.func25, Try.ntmps25
    go_upto_region 4 with (first
      | (go_at_call 52; refine (HO.out _).mono ?_; rintro r W1 ⟨rfl, b1⟩; obtain ⟨r0, r1, b1, s1⟩ := two_rows b1; have R0 := hid r0; have R1 := hid r1; have B1 := hid b1; clear b1 r0 r1)
      | (refine wpList_store_d (o := ⟨none, .store 43 (.tmp 1) (.tmp 8), _, _, _, _⟩) rfl (.tmp 1) (.tmp 8) rfl w.heap.size _ rfl rfl _ R0.out rfl rfl (all8 ..) ?_; intro W2 q0 bb; have Q1 := hid ((bb.out.block (w.heap.size + 1) (by omega) (by simp)).trans R1.out); have B2 := hid (B1.out.trans (bb.out.below (B := w.heap.size) (by rintro i rfl; exact Nat.le_refl _) B1.out.size)); have S2 : w.heap.size + 1 < W2.heap.size := (by have := bb.out.size; omega); obtain ⟨c0, c1, c2, c3, c4, c5, c6, c7⟩ := rcells_at q0.out; clear R0 R1 B1 bb))
    have HC := hid (copied_any AN d.now cN W2 (HN.out.on B2.out))
    have f2 := row_free q0.out 2
    go_upto_region 5 with (go_at_call 50; refine HC.out.mono ?_; rintro r W3 ⟨v, rfl, o3, b3⟩; obtain ⟨A3, k3, rfl⟩ := own_sl o3; have Q0 := hid ((b3.block _ (by omega)).trans q0.out); have Q31 := hid ((b3.block _ S2).trans Q1.out); have B3 := hid (B2.out.trans (b3.mono B2.out.size)); have S3 := Nat.lt_of_lt_of_le S2 b3.size; have O3 := hid o3; have L3 : W2.heap.size ≤ W3.heap.size := b3.size; have f2 := row_free Q0.out 2; have f3 := row_free (row_set Q0.out 2 (.slice A3 d.now.length k3)) 3; clear o3 b3 c0 c1 c2 c3 c4 c5 c6 c7; obtain ⟨c0, c1, c2, c3, c4, c5, c6, c7⟩ := rcells_at Q0.out)
    go_upto_region 6 with fail
    have hbut := ((But.refl (· = w.heap.size) W3).set ⟨w.heap.size, 2, none⟩ (.slice A3 d.now.length k3) (.inl rfl)).set ⟨w.heap.size, 3, none⟩ (.int .i64 (d.now.length : Nat)) (.inl rfl)
    have HQ := hid ((hbut.block (w.heap.size + 1) S3 (by simp)).trans Q31.out)
    have HB := hid hbut
    clear hbut f2 f3
    go_wp2_with (refine wpList_store_d (o := ⟨none, .store 43 (.tmp 2) (.tmp 22), _, _, _, _⟩) rfl (.tmp 2) (.tmp 22) rfl (w.heap.size + 1) _ rfl rfl _ HQ.out rfl rfl (all8 ..) ?_; intro W4 q1 bb)
    refine bodyPost_ret (results_d1 (by kernel_rfl : Try.f25.results = #[.cell 2 43, .tmp 3]) _ _ (w.heap.size + 1) _ _ _ rfl q1.out rfl) rfl ?_
    obtain ⟨en, eo, ef, em⟩ := HE.out
    have hb : But (fun i => i = w.heap.size ∨ i = w.heap.size + 1) W3 W4 := (HB.out.mono (fun i hi => .inl (.inl hi))).trans bb.out (fun i hi => .inl (.inr hi))
    rw [Hsy.out]
    refine ⟨_, (by unfold Dk.settled; rw [en]; rfl), own_later (by rw [show (d1.settled).old = d.now from en]; exact O3.out) hb (by rintro i (rfl | rfl) <;> omega) (by rw [show (d1.settled).old = d.now from en]; exact hs) (by omega), B3.out.trans (hb.below (B := w.heap.size) (by rintro i (rfl | rfl) <;> omega) B3.out.size)⟩
  · have hne : ((e : Nat) : Int) ≠ 0 := by omega
    have Hsn := hid (hsn h0)
    obtain ⟨z, hz⟩ : ∃ z : Int, z = (e : Int) := ⟨_, rfl⟩
    rw [← hz] at HO hne
    have hz1 : (z == 0) = false := by simpa using hne
    have hz2 : decide (z = 0) = false := by simpa using hne
    have Hz := hid hz
    clear hsy hsn h0 hz
    go_enter Try.func25, Try.ntmps25
    go_wp2_with (first
      | (go_at_call 52; refine (HO.out _).mono ?_; rintro r W1 ⟨rfl, b1⟩; obtain ⟨r0, r1, b1, s1⟩ := two_rows b1; have R0 := hid r0; have R1 := hid r1; have B1 := hid b1; clear b1 r0 r1)
      | (refine wpList_store_d (o := ⟨none, .store 43 (.tmp 1) (.tmp 8), _, _, _, _⟩) rfl (.tmp 1) (.tmp 8) rfl w.heap.size _ rfl rfl _ R0.out rfl rfl (all8 ..) ?_; intro W2 q0 bb; have Q1 := hid ((bb.out.block (w.heap.size + 1) (by omega) (by simp)).trans R1.out); have B2 := hid (B1.out.trans (bb.out.below (B := w.heap.size) (by rintro i rfl; exact Nat.le_refl _) B1.out.size)); have S2 : w.heap.size + 1 < W2.heap.size := (by have := bb.out.size; omega); obtain ⟨c0, c1, c2, c3, c4, c5, c6, c7⟩ := rcells_at q0.out; clear R0 R1 B1 bb)
      | (refine wpList_store_d (o := ⟨none, .store 43 (.tmp 2) (.tmp 12), _, _, _, _⟩) rfl (.tmp 2) (.tmp 12) rfl (w.heap.size + 1) _ rfl rfl _ Q1.out rfl rfl (all8 ..) ?_; intro W3 q1 bb))
    refine bodyPost_ret (results_d1 (by kernel_rfl : Try.f25.results = #[.cell 2 43, .tmp 3]) _ _ (w.heap.size + 1) _ _ _ rfl q1.out rfl) rfl ?_
    rw [Hsn.out]
    exact ⟨_, (by rw [← Hz.out]; rfl), (by left; exact ⟨rfl, HE.out.2.1⟩), B2.out.trans (bb.out.below (B := w.heap.size) (by rintro i rfl; omega) B2.out.size)⟩
end Go.Proofs.Ytgccjclloomfgaa
