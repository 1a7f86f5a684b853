/-
  DiskPlays: the disk and the document's, side by side; how many calls they have left.
-/
import Derived.Test.YtgccjclloomfgaaRap
import Derived.Test.YtgccjclloomfgaaRtr
import Derived.Test.YtgccjclloomfgaaRar
import Derived.Test.YtgccjclloomfgaaRcp
namespace Go.Proofs.Ytgccjclloomfgaa
open Go.RowKit

/-- The same number; or both so great that i calls more do not end them. -/
def nearN (i a b : Nat) : Prop := a = b ∨ (1152921504606846977 ≤ a + i ∧ 1152921504606846977 ≤ b + i)
structure Near (i : Nat) (d r : Dk) : Prop where
  mo : r.most = d.most
  nw : r.now = d.now
  od : r.old = d.old
  fl : r.floor = d.floor
  dn : r.down = d.down
  ar : nearN i d.armed r.armed
  fa : nearN i d.fails r.fails
  er : d.fails ≠ 0 → r.err = d.err
theorem nearN.next {i a b : Nat} (h : nearN i a b) : nearN (i + 1) a b := by unfold nearN at *; omega
theorem Near.next {i : Nat} {d r : Dk} (h : Near i d r) : Near (i + 1) d r := ⟨h.mo, h.nw, h.od, h.fl, h.dn, h.ar.next, h.fa.next, h.er⟩
theorem Near.op {i : Nat} {d r : Dk} (h : Near i d r) (hi : i ≤ 60) : r.op.2 = d.op.2 ∧ Near (i + 1) d.op.1 r.op.1 := by
  obtain ⟨mo, nw, od, fl, dn, ar, fa, er⟩ := h
  unfold nearN at ar fa
  unfold Dk.op
  rw [dn]
  by_cases h1 : d.down
  · rw [if_pos h1, if_pos h1]
    refine ⟨rfl, mo, nw, od, fl, dn, ?_, ?_, er⟩
    · show nearN (i + 1) d.armed r.armed
      unfold nearN; omega
    · show nearN (i + 1) d.fails r.fails
      unfold nearN; omega
  · rw [if_neg h1, if_neg h1]
    by_cases h2 : d.armed = 1
    · rw [if_pos h2, if_pos (by omega)]
      refine ⟨rfl, mo, nw, od, fl, rfl, ?_, ?_, er⟩
      · show nearN (i + 1) d.armed r.armed
        unfold nearN; omega
      · show nearN (i + 1) d.fails r.fails
        unfold nearN; omega
    · rw [if_neg h2, if_neg (by omega)]
      by_cases h3 : d.fails = 2
      · rw [if_pos h3, if_pos (by omega)]
        refine ⟨er (by omega), mo, nw, od, fl, rfl, ?_, ?_, fun hf => absurd rfl hf⟩
        · show nearN (i + 1) (d.armed - 1) (r.armed - 1)
          unfold nearN; omega
        · exact .inl rfl
      · rw [if_neg h3, if_neg (by omega)]
        refine ⟨rfl, mo, nw, od, fl, rfl, ?_, ?_, fun hf => er (fun e => hf ?_)⟩
        · show nearN (i + 1) (d.armed - 1) (r.armed - 1)
          unfold nearN; omega
        · show nearN (i + 1) (d.fails - (if d.fails > 2 then 1 else 0)) (r.fails - (if r.fails > 2 then 1 else 0))
          unfold nearN
          split <;> split <;> omega
        · show d.fails - _ = 0
          omega
theorem Near.app {i : Nat} {d r : Dk} (h : Near i d r) (hi : i ≤ 60) (l : List UInt8) : (r.app l).2 = (d.app l).2 ∧ Near (i + 1) (d.app l).1 (r.app l).1 := by
  obtain ⟨h1, h2⟩ := h.op hi
  unfold Dk.app
  rw [h1]
  by_cases h0 : d.op.2 ≠ 0
  · rw [if_pos h0, if_pos h0]; exact ⟨h1, h2⟩
  · rw [if_neg h0, if_neg h0, h.nw, h.mo]
    by_cases hf : d.now.length + l.length > d.most
    · rw [if_pos hf, if_pos hf]; exact ⟨rfl, h2⟩
    · rw [if_neg hf, if_neg hf]
      exact ⟨rfl, h2.mo, rfl, h2.od, h2.fl, h2.dn, h2.ar, h2.fa, h2.er⟩
theorem Near.syn {i : Nat} {d r : Dk} (h : Near i d r) (hi : i ≤ 60) : r.syn.2 = d.syn.2 ∧ Near (i + 1) d.syn.1 r.syn.1 := by
  obtain ⟨h1, h2⟩ := h.op hi
  unfold Dk.syn
  rw [h1]
  by_cases h0 : d.op.2 ≠ 0
  · rw [if_pos h0, if_pos h0]; exact ⟨h1, h2⟩
  · rw [if_neg h0, if_neg h0, h.nw]
    exact ⟨rfl, h2.mo, h2.nw, rfl, rfl, h2.dn, h2.ar, h2.fa, h2.er⟩
theorem Near.trunc {i : Nat} {d r : Dk} (h : Near i d r) (hi : i ≤ 60) (n : Nat) : (r.trunc n).2 = (d.trunc n).2 ∧ Near (i + 1) (d.trunc n).1 (r.trunc n).1 := by
  obtain ⟨h1, h2⟩ := h.op hi
  unfold Dk.trunc
  rw [h1, h.nw, h.fl]
  by_cases hn : d.now.length < n
  · rw [if_pos hn, if_pos hn]; exact ⟨rfl, h.next⟩
  · rw [if_neg hn, if_neg hn]
    by_cases h0 : d.op.2 ≠ 0
    · rw [if_pos h0, if_pos h0]; exact ⟨h1, h2⟩
    · rw [if_neg h0, if_neg h0]
      exact ⟨rfl, h2.mo, rfl, h2.od, rfl, h2.dn, h2.ar, h2.fa, h2.er⟩
theorem cl60_near (i : Nat) (n : Int) (h0 : 0 ≤ n) : nearN i (n.toNat + 1) (cl60 n + 1) := by
  unfold cl60 nearN
  split <;> omega
theorem cl60_le (n : Int) : cl60 n ≤ 1152921504606846976 := by
  unfold cl60
  split <;> omega
theorem Near.arm {i : Nat} {d r : Dk} (h : Near i d r) (n : Int) : (r.rarm n).2 = (d.arm n).2 ∧ Near (i + 1) (d.arm n).1 (r.rarm n).1 := by
  unfold Dk.rarm Dk.arm
  by_cases h0 : n < 0
  · rw [if_pos h0, if_pos h0]; exact ⟨rfl, h.next⟩
  · rw [if_neg h0, if_neg h0]
    exact ⟨rfl, h.mo, h.nw, h.od, h.fl, h.dn, cl60_near _ n (by omega), h.fa.next, h.er⟩
theorem Near.fail {i : Nat} {d r : Dk} (h : Near i d r) (n x : Int) : (r.rfail n x).2 = (d.fail n x).2 ∧ Near (i + 1) (d.fail n x).1 (r.rfail n x).1 := by
  unfold Dk.rfail Dk.fail
  by_cases h0 : n < 1 ∨ (x ≠ 10 ∧ x ≠ 5)
  · rw [if_pos h0, if_pos h0]; exact ⟨rfl, h.next⟩
  · rw [if_neg h0, if_neg h0]
    exact ⟨rfl, h.mo, h.nw, h.od, h.fl, h.dn, h.ar.next, cl60_near _ n (by omega), fun _ => rfl⟩
theorem Near.crash {i : Nat} {d r : Dk} (h : Near i d r) (k : Int) (j : List UInt8) : Near (i + 1) (d.crash k j) (r.rcrash k j) := by
  have e : (r.rcrash k j).now = (d.crash k j).now := by
    show (if k < 0 then r.old else junked (leftK r.now r.floor k.toNat) r.floor j) = (if k < 0 then d.old else junked (leftK d.now d.floor k.toNat) d.floor j)
    rw [h.od, h.nw, h.fl]
  exact ⟨h.mo, e, e, congrArg List.length e, rfl, .inl rfl, .inl rfl, fun hf => absurd rfl hf⟩
theorem Near.load (m : Nat) (l : List UInt8) : Near 0 (Dk.load m l) (Dk.load m l) := ⟨rfl, rfl, rfl, rfl, rfl, .inl rfl, .inl rfl, fun _ => rfl⟩
theorem RfOk.app {d : Dk} (h : RfOk d) (l : List UInt8) : RfOk (d.app l).1 := by
  have h2 := h.op
  obtain ⟨e1, e2, e3, e4⟩ := op_now d
  unfold Dk.app
  split
  · exact h2
  · split
    · exact h2
    · rename_i _ hm
      refine ⟨h2.mo, ?_, h2.od, ?_, h2.ar, h2.fa, h2.f1, h2.er⟩
      · show (d.now ++ l).length ≤ d.op.1.most
        rw [e4, List.length_append]; omega
      · show d.op.1.floor ≤ (d.now ++ l).length
        rw [e3, List.length_append]; have := h.fl; omega
theorem RfOk.syn {d : Dk} (h : RfOk d) : RfOk d.syn.1 := by
  have h2 := h.op
  obtain ⟨e1, e2, e3, e4⟩ := op_now d
  unfold Dk.syn
  split
  · exact h2
  · exact ⟨h2.mo, h2.nw, by show d.now.length ≤ d.op.1.most; rw [e4]; exact h.nw, by show d.now.length ≤ d.op.1.now.length; rw [e1]; exact Nat.le_refl _, h2.ar, h2.fa, h2.f1, h2.er⟩
theorem RfOk.trunc {d : Dk} (h : RfOk d) (n : Nat) : RfOk (d.trunc n).1 := by
  have h2 := h.op
  obtain ⟨e1, e2, e3, e4⟩ := op_now d
  have h3 := h.nw
  have h4 := h.fl
  unfold Dk.trunc
  split
  · exact h
  · split
    · exact h2
    · exact ⟨h2.mo, by show (d.now.take n).length ≤ d.op.1.most; rw [e4, List.length_take]; omega, h2.od, by show min d.floor n ≤ (d.now.take n).length; rw [List.length_take]; omega, h2.ar, h2.fa, h2.f1, h2.er⟩
theorem RfOk.rarm {d : Dk} (h : RfOk d) (n : Int) : RfOk (d.rarm n).1 := by
  unfold Dk.rarm
  split
  · exact h
  · exact ⟨h.mo, h.nw, h.od, h.fl, by show cl60 n + 1 ≤ _; have := cl60_le n; omega, h.fa, h.f1, h.er⟩
theorem RfOk.rfail {d : Dk} (h : RfOk d) (n x : Int) : RfOk (d.rfail n x).1 := by
  unfold Dk.rfail
  split
  · exact h
  · rename_i h0
    refine ⟨h.mo, h.nw, h.od, h.fl, h.ar, by show cl60 n + 1 ≤ _; have := cl60_le n; omega, ?_, fun _ => ?_⟩
    · show cl60 n + 1 ≠ 1
      unfold cl60
      split <;> omega
    · show x.toNat ≠ 0
      omega
theorem RfOk.crash {d : Dk} (h : RfOk d) (k : Int) (j : List UInt8) : RfOk (d.rcrash k j) := by
  have h3 := h.nw
  have h4 := h.od
  have e : (d.rcrash k j).now.length ≤ d.most := by
    show (if k < 0 then d.old else junked (leftK d.now d.floor k.toNat) d.floor j).length ≤ d.most
    split
    · exact h4
    · rw [junked_len, leftK, List.length_take]; omega
  exact ⟨h.mo, e, e, Nat.le_refl _, Nat.zero_le _, Nat.zero_le _, by show (0 : Nat) ≠ 1; decide, fun hf => absurd rfl hf⟩
theorem RfOk.load {m : Nat} {l : List UInt8} (hm : m ≤ 4194304) (hl : l.length ≤ m) : RfOk (Dk.load m l) := ⟨hm, hl, hl, Nat.le_refl _, Nat.zero_le _, Nat.zero_le _, by show (0 : Nat) ≠ 1; decide, fun hf => absurd rfl hf⟩
end Go.Proofs.Ytgccjclloomfgaa
