/-
  DiskKept: a disk, its file and its old file as the caller holds them, from call to call.
-/
import Derived.Test.YtgccjclloomfgaaKpN
import Derived.Test.YtgccjclloomfgaaTru
import Derived.Test.YtgccjclloomfgaaCrs
import Derived.Test.YtgccjclloomfgaaSprN
namespace Go.Proofs.Ytgccjclloomfgaa
open Go.RowKit

/-- The disk d in block g; vn holds N, vo holds O: both the caller's own, and apart. -/
structure KpAt (w q : World) (g : Nat) (vn vo : Value) (d : Dk) (N O : List UInt8) : Prop where
  dk : ∃ S F L, DkAt w.heap.size S q g F L d 0 ∧ (∀ k, vn.ownBlock = some k → ¬ S k) ∧ (∀ k, vo.ownBlock = some k → ¬ S k)
  nw : Nw q w.heap.size vn N
  od : q.ownsRow w.heap.size 5 1 vo O.length (O.map bv)
  ap : Apart2 vn vo
  bel : Below w.heap.size w q
section
variable {w q q' : World} {g : Nat} {vn vo : Value} {d d' : Dk} {N O : List UInt8}
theorem KpAt.stp {S S' : Nat → Prop} {F' L' : Value} (h1 : ∀ k, vn.ownBlock = some k → ¬ S k) (h2 : ∀ k, vo.ownBlock = some k → ¬ S k) (nw : Nw q w.heap.size vn N) (od : q.ownsRow w.heap.size 5 1 vo O.length (O.map bv)) (ap : Apart2 vn vo) (bel : Below w.heap.size w q) (hS : ∀ i, S i → w.heap.size ≤ i)
    (hd : DkAt w.heap.size S' q' g F' L' d' 0) (s : Stp S S' q q') : KpAt w q' g vn vo d' N O := by
  refine ⟨⟨S', F', L', hd, fun k hk hs => ?_, fun k hk hs => ?_⟩, nw.but s.but h1, ownsRow_but od s.but h2, ap, bel.trans (s.but.below hS bel.size)⟩
  · have := (nw.lt k hk).2
    rcases s.new k hs with h | h
    · exact h1 k hk h
    · omega
  · have := (od.lt k hk).2
    rcases s.new k hs with h | h
    · exact h2 k hk h
    · omega
theorem KpAt.below (h : KpAt w q g vn vo d N O) (b : Below q.heap.size q q') : KpAt w q' g vn vo d N O := by
  obtain ⟨⟨S, F, L, hd, h1, h2⟩, nw, od, ap, bel⟩ := h
  exact KpAt.stp h1 h2 nw od ap bel (fun i hi => (hd.lt i hi).1) (hd.below b) (.of_below b)
theorem KpAt.sync (h : KpAt w q g vn vo d N O) : Calls Try.prog 18 #[.pointer (some ⟨g, 0, none⟩)] q fun r q' => r = .returned (.int .i64 (d.syn.2 : Nat)) ∧ KpAt w q' g vn vo d.syn.1 N O := by
  obtain ⟨⟨S, F, L, hd, h1, h2⟩, nw, od, ap, bel⟩ := h
  refine (Sync_any hd).mono ?_
  rintro r q' ⟨rfl, ⟨L', hd'⟩, b⟩
  exact ⟨rfl, KpAt.stp h1 h2 nw od ap bel (fun i hi => (hd.lt i hi).1) hd' (.of_but b)⟩
theorem KpAt.trunc (h : KpAt w q g vn vo d N O) (n : Nat) (hn : n ≤ d.now.length) : Calls Try.prog 9 #[.pointer (some ⟨g, 0, none⟩), .int .i64 (n : Nat)] q fun r q' => r = .returned (.int .i64 ((d.trunc n).2 : Nat)) ∧ KpAt w q' g vn vo (d.trunc n).1 N O := by
  obtain ⟨⟨S, F, L, hd, h1, h2⟩, nw, od, ap, bel⟩ := h
  refine (Truncate_any hd n hn).mono ?_
  rintro r q' ⟨rfl, F', L', S', hd', s⟩
  exact ⟨rfl, KpAt.stp h1 h2 nw od ap bel (fun i hi => (hd.lt i hi).1) hd' s⟩
theorem KpAt.app (h : KpAt w q g vn vo d N O) (A : Option Addr) (n c : Nat) (l : List UInt8) (hi : IsBB w w.heap.size A n c l) : Calls Try.prog 10 #[.pointer (some ⟨g, 0, none⟩), .slice A n c] q fun r q' => r = .returned (.int .i64 ((d.app l).2 : Nat)) ∧ KpAt w q' g vn vo (d.app l).1 N O := by
  obtain ⟨⟨S, F, L, hd, h1, h2⟩, nw, od, ap, bel⟩ := h
  refine (Append_any A n c l hd ((hi.below bel).out (fun i hi => (hd.lt i hi).1))).mono ?_
  rintro r q' ⟨rfl, F', S', hd', s⟩
  exact ⟨rfl, KpAt.stp h1 h2 nw od ap bel (fun i hi => (hd.lt i hi).1) hd' s⟩
theorem KpAt.crash (h : KpAt w q g vn vo d N O) (k : Int) (A : Option Addr) (n c : Nat) (l : List UInt8) (hi : IsBB w w.heap.size A n c l) (hk : k ≤ 9223372036854775807) : Calls Try.prog 20 #[.pointer (some ⟨g, 0, none⟩), .agg #[.int .i64 k, .slice A n c]] q fun r q' => r = .returned (.int .i64 0) ∧ KpAt w q' g vn vo (d.crash k l) N O := by
  obtain ⟨⟨S, F, L, hd, h1, h2⟩, nw, od, ap, bel⟩ := h
  refine (Crash_any k A n c l hd ((hi.below bel).out (fun i hi => (hd.lt i hi).1)) hk).mono ?_
  rintro r q' ⟨rfl, F', S', hd', s⟩
  exact ⟨rfl, KpAt.stp h1 h2 nw od ap bel (fun i hi => (hd.lt i hi).1) hd' s⟩
theorem KpAt.image (h : KpAt w q g vn vo d N O) : Calls Try.prog 35 #[.pointer (some ⟨g, 0, none⟩)] q fun r q' => ∃ A c, r = .returned (.slice A d.now.length c) ∧ IsBB q' q'.heap.size A d.now.length c d.now ∧ KpAt w q' g vn vo d N O := by
  obtain ⟨S, F, L, hd, h1, h2⟩ := h.dk
  have hm := hd.ok.mx
  have hm4 := hd.ok.m4
  refine (Image_any hd).mono ?_
  rintro r q' ⟨v, rfl, o, b⟩
  obtain ⟨A, c, rfl, hI⟩ := own_isBB o (by omega)
  exact ⟨A, c, rfl, hI, h.below b⟩
theorem KpAt.synced (h : KpAt w q g vn vo d N O) : Calls Try.prog 11 #[.pointer (some ⟨g, 0, none⟩)] q fun r q' => r = .returned (.int .i64 (d.floor : Nat)) ∧ q = q' := by
  obtain ⟨S, F, L, hd, h1, h2⟩ := h.dk
  exact Synced_any hd
theorem KpAt.nowBB (h : KpAt w q g vn vo d N O) (hN : N.length ≤ 1000000000) : ∃ A c, vn = .slice A N.length c ∧ N.length ≤ c ∧ IsBB q q.heap.size A N.length c N := h.nw.isBB hN
theorem KpAt.copy (h : KpAt w q g vn vo d N O) (hN : N.length ≤ 1000000000) : Calls Try.prog 37 #[vn] q fun r q' => ∃ A c, r = .returned (.slice A N.length c) ∧ KpAt w q' g vn (.slice A N.length c) d N N := by
  obtain ⟨A, c, rfl, hc, hI⟩ := h.nowBB hN
  refine (CopyBytes_any A N N.length c q hI).mono ?_
  rintro r q' ⟨v, rfl, o, b⟩
  obtain ⟨A', c', rfl⟩ := own_sl o
  have h' := h.below b
  obtain ⟨S, F, L, hd, h1, h2⟩ := h.dk
  have sz := h.bel.size
  refine ⟨A', c', rfl, ⟨S, F, L, hd.below b, h1, fun k hk hs => ?_⟩, h'.nw, own_base o sz, fun k hk e => ?_, h'.bel⟩
  · have := (o.lt k hk).1
    have := (hd.lt k hs).2
    omega
  · have := (o.lt k e).1
    have := (h.nw.lt k hk).2
    omega
theorem KpAt.cut (h : KpAt w q g vn vo d N O) (n : Nat) (hn : n ≤ N.length) : ∃ A c, vn = .slice A N.length c ∧ (∀ w', (Instr.slice 27 (.slice A N.length c) none (some (.int .i64 (n : Nat))) (some (.int .i64 (n : Nat)))).run Try.prog w' = .ok (.slice A n n) w') ∧ KpAt w q g (.slice A n n) vo d (N.take n) O := by
  obtain ⟨A, c, rfl, hr, hN, hb⟩ := h.nw.cut n hn
  obtain ⟨S, F, L, hd, h1, h2⟩ := h.dk
  exact ⟨A, c, rfl, hr, ⟨S, F, L, hd, fun k hk => h1 k (hb ▸ hk), h2⟩, hN, h.od, fun k hk => h.ap k (hb ▸ hk), h.bel⟩
theorem KpAt.push {ty : TypeId} (h : KpAt w q g vn vo d N O) (A : Option Addr) (m c : Nat) (l : List UInt8) (hi : IsBB w w.heap.size A m c l) (hs : N.length ≤ 1000000000) (hm : 0 < m) (hm2 : m ≤ 2000) :
    ∃ A' c' q', (Builtin.append_ #[27, 27] ty #[vn, .slice A m c]).run Try.prog q = .ok (.slice A' (N.length + m) c') q' ∧ KpAt w q' g (.slice A' (N.length + m) c') vo d (N ++ l) O := by
  obtain ⟨⟨S, F, L, hd, h1, h2⟩, nw, od, ap, bel⟩ := h
  obtain ⟨A', c', q', hr, o, hg, hf⟩ := nw.append (ty := ty) A m c l (hi.below bel).toIsB (by omega) bel.size hm
  have hl : (N ++ l).length = N.length + m := by rw [List.length_append, hi.len]
  have hb : But (fun i => vn.ownBlock = some i) q q' := ⟨hg.os, hg.tape, hg.output, hg.size, fun i hi hn => hg.block i hi (fun e => hn e.symm)⟩
  refine ⟨A', c', q', hr, ⟨S, F, L, hd.but hb (fun i hi e => h1 i e hi), fun k hk hs => ?_, h2⟩, ?_, ownsRow_but od hb (fun k hk e => ap k e hk), fun k hk e => ?_, bel.trans (hb.below (fun i hi => (nw.lt i hi).1) bel.size)⟩
  · rcases hf with hf | ⟨k2, hf, hk2⟩
    · exact h1 k (hf ▸ hk) hs
    · rw [hf] at hk
      cases hk
      have := (hd.lt k hs).2
      omega
  · left
    rw [hl]
    exact o
  · rcases hf with hf | ⟨k2, hf, hk2⟩
    · exact ap k (hf ▸ hk) e
    · rw [hf] at hk
      cases hk
      have := (od.lt k e).2
      omega
theorem wpList_append_kp {ops : Array Oper} {rest : List Oper} {o : Oper} {a : Act} {Q : Exit → Act → World → Prop} (hgd : o.guard = none) (s x : Operand)
    (ho : o.op = .call { callee := .builtin .append, args := #[s, x], argTypes := #[27, 27] })
    (h : KpAt w q g vn vo d N O) (hs : a.eval s = vn) (A : Option Addr) (m c : Nat) (l : List UInt8) (hx : a.eval x = .slice A m c) (hi : IsBB w w.heap.size A m c l) (hN : N.length ≤ 1000000000) (hm : 0 < m) (hm2 : m ≤ 2000)
    (hK : ∀ A' c' q', Hid (KpAt w q' g (.slice A' (N.length + m) c') vo d (N ++ l) O) → wpList Try.prog ops Q rest (a.put o.dst (.slice A' (N.length + m) c')) q') : wpList Try.prog ops Q (o :: rest) a q := by
  obtain ⟨A', c', q', hr, hk⟩ := h.push (ty := o.type) A m c l hi hN hm hm2
  refine wpList_plain hgd fun K hK2 => ?_
  unfold Oper.wp execOp
  simp only [ho, resolve, invoke, builtin, Sem.run_bind, Sem.run_pure, Result.andThen_ok, List.map_toArray, List.map_cons, List.map_nil, hs, hx, hr]
  exact hK2 _ _ (hK A' c' q' hk)
/-- The beginning: a disk that is new and armed. -/
theorem KpAt.start {S : Nat → Prop} {F L : Value} (hd : DkAt w.heap.size S q g F L d 0) (bel : Below w.heap.size w q) : KpAt w q g (.slice none 0 0) (.slice none 0 0) d [] [] :=
  ⟨⟨S, F, L, hd, (fun k hk => by cases hk), (fun k hk => by cases hk)⟩, Nw.nil q _, World.ownsRow_nil _ _ _ _, apart2_nil _, bel⟩
theorem KpAt.drewN (h : KpAt w q g vn vo d N O) (k : Nat) : KpAt w (q.drewN k) g vn vo d N O := h.below (below_drewN (Below.refl _ q) k)
end
/-- What the caller knows of the disk at the head of a round. -/
structure KpEq (d : Dk) (N O : List UInt8) (f : Nat) : Prop where
  nw : d.now = N
  od : d.old = O
  fl : d.floor = f
  ms : d.most = 1048576
theorem op_eq {d : Dk} {N O : List UInt8} {f : Nat} (h : KpEq d N O f) : KpEq d.op.1 N O f := by
  obtain ⟨e1, e2, e3, e4⟩ := op_now d
  exact ⟨e1.trans h.nw, e2.trans h.od, e3.trans h.fl, e4.trans h.ms⟩
theorem syn_eq {d : Dk} {N O : List UInt8} {f : Nat} (h : KpEq d N O f) : (d.syn.2 = 0 → KpEq d.syn.1 N N N.length) ∧ (d.syn.2 ≠ 0 → KpEq d.syn.1 N O f) := by
  obtain ⟨e1, e2, e3, e4⟩ := op_eq h
  by_cases h0 : d.op.2 = 0
  · rw [syn_of d h0]
    refine ⟨fun _ => ⟨e1, e1, ?_, e4⟩, fun hn => absurd rfl hn⟩
    show d.op.1.now.length = _
    rw [e1]
  · rw [syn_no d h0]
    exact ⟨fun hn => absurd hn h0, fun _ => op_eq h⟩
theorem trunc_eq {d : Dk} {N O : List UInt8} {f : Nat} (h : KpEq d N O f) (n : Nat) (hn : n ≤ N.length) : ((d.trunc n).2 = 0 → KpEq (d.trunc n).1 (N.take n) O (min f n)) ∧ ((d.trunc n).2 ≠ 0 → KpEq (d.trunc n).1 N O f) := by
  obtain ⟨e1, e2, e3, e4⟩ := op_eq h
  have hn2 : n ≤ d.now.length := by rw [h.nw]; exact hn
  by_cases h0 : d.op.2 = 0
  · rw [trunc_of d n hn2 h0]
    refine ⟨fun _ => ⟨?_, e2, ?_, e4⟩, fun hn => absurd rfl hn⟩
    · show d.op.1.now.take n = _
      rw [e1]
    · show min d.op.1.floor n = _
      rw [e3]
  · rw [trunc_no d n hn2 h0]
    exact ⟨fun hn => absurd hn h0, fun _ => op_eq h⟩
theorem app_eq {d : Dk} {N O : List UInt8} {f : Nat} (h : KpEq d N O f) (l : List UInt8) : ((d.app l).2 = 0 → KpEq (d.app l).1 (N ++ l) O f) ∧ ((d.app l).2 ≠ 0 → KpEq (d.app l).1 N O f) := by
  obtain ⟨e1, e2, e3, e4⟩ := op_eq h
  by_cases h0 : d.op.2 = 0
  · by_cases hl : d.most < d.now.length + l.length
    · rw [app_full d l h0 hl]
      exact ⟨(fun hn => by cases hn), fun _ => op_eq h⟩
    · rw [app_of d l h0 hl]
      refine ⟨fun _ => ⟨?_, e2, e3, e4⟩, fun hn => absurd rfl hn⟩
      show d.op.1.now ++ l = _
      rw [e1]
  · rw [app_no d l h0]
    exact ⟨fun hn => absurd hn h0, fun _ => op_eq h⟩
end Go.Proofs.Ytgccjclloomfgaa
