/-
  A disk and what lay ahead of it: the calls' contracts for a caller.
-/
import Derived.Test.YtgccjclloomfgaaAwk
namespace Go.Proofs.Ytgccjclloomfgaa
open Go.RowKit

/-- The disk d in block g; all that lay below base stands as it did in w0. -/
structure Seg (base : Nat) (w0 W : World) (g : Nat) (d : Dk) : Prop where
  dk : ∃ S F L e, DkAt base S W g F L d e
  bel : Below base w0 W
theorem Seg.below {base : Nat} {w0 W W' : World} {g : Nat} {d : Dk} (h : Seg base w0 W g d) (b : Below W.heap.size W W') : Seg base w0 W' g d := by
  obtain ⟨⟨S, F, L, e, hd⟩, hb⟩ := h
  have hs := (hd.lt g hd.sg)
  exact ⟨⟨S, F, L, e, hd.below b⟩, hb.trans (b.mono (by omega))⟩
theorem Seg.stp {base : Nat} {w0 W W' : World} {g : Nat} {S S' : Nat → Prop} {F L F' L' : Value} {d d' : Dk} {e e' : Int} (hb : Below base w0 W) (h : DkAt base S W g F L d e) (h' : DkAt base S' W' g F' L' d' e') (s : But S W W') : Seg base w0 W' g d' := by
  have hs := (h.lt g h.sg)
  exact ⟨⟨S', F', L', e', h'⟩, hb.trans (s.below (fun i hi => (h.lt i hi).1) (by omega))⟩
section
variable {base : Nat} {w0 W : World} {g : Nat} {d : Dk}
theorem Seg.size (h : Seg base w0 W g d) : Calls Try.prog 34 #[.pointer (some ⟨g, 0, none⟩)] W fun r w' => r = .returned (.int .i64 (d.now.length : Nat)) ∧ W = w' := by
  obtain ⟨⟨S, F, L, e, hd⟩, hb⟩ := h; exact Size_any hd
theorem Seg.synced (h : Seg base w0 W g d) : Calls Try.prog 11 #[.pointer (some ⟨g, 0, none⟩)] W fun r w' => r = .returned (.int .i64 (d.floor : Nat)) ∧ W = w' := by
  obtain ⟨⟨S, F, L, e, hd⟩, hb⟩ := h; exact Synced_any hd
theorem Seg.isDown (h : Seg base w0 W g d) : Calls Try.prog 19 #[.pointer (some ⟨g, 0, none⟩)] W fun r w' => r = .returned (.bool d.down) ∧ W = w' := by
  obtain ⟨⟨S, F, L, e, hd⟩, hb⟩ := h; exact Down_any hd
theorem Seg.arm (h : Seg base w0 W g d) (n : Int) (hn : n ≤ 9223372036854775807) {d' : Dk} {c : Nat} (hd' : d.arm n = (d', c)) : Calls Try.prog 16 #[.pointer (some ⟨g, 0, none⟩), .int .i64 n] W fun r w' => r = .returned (.int .i64 (c : Nat)) ∧ Seg base w0 w' g d' := by
  obtain ⟨⟨S, F, L, e, hd⟩, hb⟩ := h
  refine (Arm_any hd n hn).mono ?_
  rw [hd']
  rintro r w' ⟨rfl, h1, b1⟩
  exact ⟨rfl, Seg.stp hb hd h1 (hd.butg b1)⟩
theorem Seg.fail (h : Seg base w0 W g d) (n x : Int) (hn : n ≤ 9223372036854775807) {d' : Dk} {c : Nat} (hd' : d.fail n x = (d', c)) : Calls Try.prog 17 #[.pointer (some ⟨g, 0, none⟩), .int .i64 n, .int .i64 x] W fun r w' => r = .returned (.int .i64 (c : Nat)) ∧ Seg base w0 w' g d' := by
  obtain ⟨⟨S, F, L, e, hd⟩, hb⟩ := h
  refine (Fail_any hd n x hn).mono ?_
  rw [hd']
  rintro r w' ⟨rfl, ⟨e', h1⟩, b1⟩
  exact ⟨rfl, Seg.stp hb hd h1 (hd.butg b1)⟩
theorem Seg.sync (h : Seg base w0 W g d) {d' : Dk} {c : Nat} (hd' : d.syn = (d', c)) : Calls Try.prog 18 #[.pointer (some ⟨g, 0, none⟩)] W fun r w' => r = .returned (.int .i64 (c : Nat)) ∧ Seg base w0 w' g d' := by
  obtain ⟨⟨S, F, L, e, hd⟩, hb⟩ := h
  refine (Sync_any hd).mono ?_
  rw [hd']
  rintro r w' ⟨rfl, ⟨L', h1⟩, b1⟩
  exact ⟨rfl, Seg.stp hb hd h1 b1⟩
theorem Seg.trunc (h : Seg base w0 W g d) (n : Nat) (z : Int) (hz : z = (n : Int)) (hn : n ≤ d.now.length) {d' : Dk} {c : Nat} (hd' : d.trunc n = (d', c)) : Calls Try.prog 9 #[.pointer (some ⟨g, 0, none⟩), .int .i64 z] W fun r w' => r = .returned (.int .i64 (c : Nat)) ∧ Seg base w0 w' g d' := by
  subst hz
  obtain ⟨⟨S, F, L, e, hd⟩, hb⟩ := h
  refine (Truncate_any hd n hn).mono ?_
  rw [hd']
  rintro r w' ⟨rfl, F', L', S', h1, s1⟩
  exact ⟨rfl, Seg.stp hb hd h1 s1.but⟩
theorem Seg.truncBad (h : Seg base w0 W g d) (n : Int) (hn : ¬ (0 ≤ n ∧ n ≤ (d.now.length : Int))) : Calls Try.prog 9 #[.pointer (some ⟨g, 0, none⟩), .int .i64 n] W fun r w' => r = .returned (.int .i64 2) ∧ Seg base w0 w' g d := by
  obtain ⟨⟨S, F, L, e, hd⟩, hb⟩ := h
  refine (Truncate_bad hd n hn).mono ?_
  rintro r w' ⟨rfl, h1, s1⟩
  exact ⟨rfl, Seg.stp hb hd h1 s1⟩
/-- Bytes laid since W1, where the disk lay already. -/
theorem Seg.app {W1 : World} (h1 : Seg base w0 W1 g d) (b1 : Below W1.heap.size W1 W) (A : Option Addr) (n c : Nat) (l : List UInt8) (hi : IsBB W W.heap.size A n c l) (ha : 0 < l.length → ∀ ad, A = some ad → W1.heap.size ≤ ad.block) {d' : Dk} {x : Nat} (hd' : d.app l = (d', x)) :
    Calls Try.prog 10 #[.pointer (some ⟨g, 0, none⟩), .slice A n c] W fun r w' => r = .returned (.int .i64 (x : Nat)) ∧ Seg base w0 w' g d' := by
  have h2 := h1.below b1
  obtain ⟨⟨S, F, L, e, hd⟩, hb⟩ := h1
  refine (Append_any A n c l (hd.below b1) (hi.out_new ha (fun i hi => (hd.lt i hi).2))).mono ?_
  rw [hd']
  rintro r w' ⟨rfl, F', S', h1, s1⟩
  exact ⟨rfl, Seg.stp h2.bel (hd.below b1) h1 s1.but⟩
theorem Seg.appNil (h : Seg base w0 W g d) {d' : Dk} {x : Nat} (hd' : d.app [] = (d', x)) : Calls Try.prog 10 #[.pointer (some ⟨g, 0, none⟩), .slice none 0 0] W fun r w' => r = .returned (.int .i64 (x : Nat)) ∧ Seg base w0 w' g d' :=
  Seg.app h (Below.refl _ W) none 0 0 [] (isBB_nil W _) (fun hp => absurd hp (by simp)) hd'
theorem Seg.crash (h : Seg base w0 W g d) (k : Int) (hk : k ≤ 9223372036854775807) {d' : Dk} (hd' : d.crash k [] = d') : Calls Try.prog 20 #[.pointer (some ⟨g, 0, none⟩), .agg #[.int .i64 k, .slice none 0 0]] W fun r w' => r = .returned (.int .i64 0) ∧ Seg base w0 w' g d' := by
  obtain ⟨⟨S, F, L, e, hd⟩, hb⟩ := h
  refine (Crash_any k none 0 0 [] hd ⟨(isBB_nil W 0).toIsB, fun hp => absurd hp (by simp)⟩ hk).mono ?_
  rw [hd']
  rintro r w' ⟨rfl, F', S', h1, s1⟩
  exact ⟨rfl, Seg.stp hb hd h1 s1.but⟩
theorem Seg.readBad (h : Seg base w0 W g d) (i n : Int) (hn : ¬ RdOk d i n) (h1 : i ≤ 9223372036854775807) (h2 : n ≤ 9223372036854775807) : Calls Try.prog 15 #[.pointer (some ⟨g, 0, none⟩), .int .i64 i, .int .i64 n] W fun r w' => r = .returned (.tuple #[.slice none 0 0, .int .i64 2]) ∧ Seg base w0 w' g d := by
  obtain ⟨⟨S, F, L, e, hd⟩, hb⟩ := h
  refine (ReadAt_bad hd i n hn h1 h2).mono ?_
  rintro r w' ⟨rfl, h1, s1⟩
  exact ⟨rfl, Seg.stp hb hd h1 s1⟩
theorem Seg.readNo (h : Seg base w0 W g d) (i n : Nat) (y z : Int) (hy : y = (i : Int)) (hz : z = (n : Int)) (hn : i + n ≤ d.now.length) {d' : Dk} {c : Nat} (hd' : d.op = (d', c)) (hc : c ≠ 0) : Calls Try.prog 15 #[.pointer (some ⟨g, 0, none⟩), .int .i64 y, .int .i64 z] W fun r w' => r = .returned (.tuple #[.slice none 0 0, .int .i64 (c : Nat)]) ∧ Seg base w0 w' g d' := by
  subst hy hz
  obtain ⟨⟨S, F, L, e, hd⟩, hb⟩ := h
  refine (ReadAt_no hd i n hn (by rw [hd']; exact hc)).mono ?_
  rw [hd']
  rintro r w' ⟨rfl, h1, s1⟩
  exact ⟨rfl, Seg.stp hb hd h1 s1⟩
theorem Seg.crashed (h : Seg base w0 W g d) (k : Int) (junk : Array UInt8) (l : Array UInt8) (hk : k ≤ 9223372036854775807) (hj : junk.toList.length ≤ 1000) (hl : (d.crash k junk.toList).now.toArray = l) :
    Calls Try.prog 12 #[.pointer (some ⟨g, 0, none⟩), .int .i64 k, .string ⟨junk⟩] W fun r w' => r = .returned (.string ⟨l⟩) ∧ Seg base w0 w' g d := by
  have h2 := h
  obtain ⟨⟨S, F, L, e, hd⟩, hb⟩ := h
  refine (crashed_to k junk l hd hk hj hl).mono ?_
  rintro r w' ⟨rfl, b⟩
  exact ⟨rfl, h2.below b⟩
end
theorem Seg.abc (w : World) : Calls Try.prog 8 #[.string ⟨#[]⟩] w fun r w' => ∃ g, r = .returned (.pointer (some ⟨g, 0, none⟩)) ∧ Seg w.heap.size w w' g (abcD []) := by
  refine (abc_any [] (by decide) w).mono ?_
  rintro r w' ⟨g, S, F, L, rfl, h, b⟩
  exact ⟨g, rfl, ⟨S, F, L, 0, h⟩, b⟩
/-- make([]byte, n) where its guard lets it go. -/
theorem wpList_zeros_w {ops : Array Oper} {rest : List Oper} {o : Oper} {a : Act} {Q : Exit → Act → World → Prop} (hw : Region.wanted o (yielded ops a.tmps) = true) (l c : Operand) (hop : o.op = .makeSlice 27 l c) (w : World) (n : Nat) (hl : a.eval l = .int .i64 n) (hc : a.eval c = .int .i64 n) (hn : n ≤ 100000)
    (hK : ∀ w', Hid (New w w' w.heap.size n n (List.replicate n 0)) → wpList Try.prog ops Q rest (a.put o.dst (.slice (some ⟨w.heap.size, 0, none⟩) n n)) w') : wpList Try.prog ops Q (o :: rest) a w := by
  obtain ⟨i0, hi, hz0, hz1, hz2⟩ := info_parts Try.info5
  refine wpList_step fun K hK' => ?_
  rw [if_pos hw]
  obtain ⟨w', hrun, h1, h2⟩ := run_make_full (P := Try.prog) w w.heap.size 27 5 i0 (.int .u8 0) 1 Try.underlying27 hi hz0 hz1 .i64 .i64 n (by rw [hz2]; omega) (by unfold maxLen; omega) (Nat.le_refl _)
  unfold Oper.wp
  simp [execOp, hop, hl, hc, hrun, Result.andThen]
  refine hK' _ _ (hK w' ⟨?_, (Below.refl _ w).grown h2 (Nat.le_refl _) (by simp), by omega⟩)
  rw [made_cells] at h1
  rw [List.map_replicate]
  exact h1
end Go.Proofs.Ytgccjclloomfgaa
