/-
  DiskPlays: the disk and the document's in memory, from call to call.
-/
import Derived.Test.YtgccjclloomfgaaPlN
import Derived.Test.YtgccjclloomfgaaCrs
import Derived.Test.YtgccjclloomfgaaCpy
import Derived.Test.YtgccjclloomfgaaStr
import Derived.Test.YtgccjclloomfgaaSprN
namespace Go.Proofs.Ytgccjclloomfgaa
open Go.RowKit

/-- The disk's blocks, and the block of the document's disk. -/
def PlB (S : Nat → Prop) (t : Nat) : Nat → Prop := fun i => S i ∨ i = t
/-- The disk d in block g; the document's disk r in block t. -/
structure PlSt (w q : World) (S : Nat → Prop) (g t : Nat) (d r : Dk) (AN : Option Addr) (cN : Nat) (AO : Option Addr) (cO : Nat) : Prop where
  dk : ∃ F L e, DkAt w.heap.size S q g F L d e
  row : q.heap[t]? = some (.cells (rcells r (.slice AN r.now.length cN) (.slice AO r.old.length cO)) 43 (0, 0))
  st : ¬ S t
  on : Out (PlB S t) q AN r.now.length cN r.now
  oo : Out (PlB S t) q AO r.old.length cO r.old
  ok : RfOk r
  bel : Below w.heap.size w q
  ht : w.heap.size ≤ t
/-- The document's disk's call has ended; what it told is not stored yet. -/
structure PlMd (w q : World) (S : Nat → Prop) (g t : Nat) (d r : Dk) (AN : Option Addr) (cN : Nat) (AO : Option Addr) (cO : Nat) : Prop where
  dk : ∃ F L e, DkAt w.heap.size S q g F L d e
  row : ∃ old : Array Value, old.size = 8 ∧ q.heap[t]? = some (.cells old 43 (0, 0))
  st : ¬ S t
  on : Out (PlB S t) q AN r.now.length cN r.now
  oo : Out (PlB S t) q AO r.old.length cO r.old
  ok : RfOk r
  bel : Below w.heap.size w q
  ht : w.heap.size ≤ t
theorem sp_stp {S S' : Nat → Prop} {t : Nat} {q q' : World} (s : Stp S S' q q') : Stp (PlB S t) (PlB S' t) q q' :=
  ⟨s.but.mono (fun i hi => .inl (.inl hi)), fun i hi => by
    rcases hi with hi | hi
    · rcases s.new i hi with h | h
      · exact .inl (.inl h)
      · exact .inr h
    · exact .inl (.inr hi)⟩
theorem sp_but {S : Nat → Prop} {t : Nat} {q q' : World} (b : But (· = t) q q') : Stp (PlB S t) (PlB S t) q q' := .of_but (b.mono (fun i hi => .inl (.inr hi)))
theorem sp_below {S : Nat → Prop} {t : Nat} {q q' : World} (b : Below q.heap.size q q') : Stp (PlB S t) (PlB S t) q q' := .of_below b
section
variable {w q q' : World} {S S' : Nat → Prop} {g t : Nat} {d d' r r' : Dk} {AN AO : Option Addr} {cN cO : Nat}
theorem PlSt.lt (h : PlSt w q S g t d r AN cN AO cO) : t < q.heap.size := lt_of_heap h.row
theorem PlSt.sp (h : PlSt w q S g t d r AN cN AO cO) : ∀ i, PlB S t i → w.heap.size ≤ i ∧ i < q.heap.size := by
  obtain ⟨F, L, e, hd⟩ := h.dk
  rintro i (hi | rfl)
  · exact hd.lt i hi
  · exact ⟨h.ht, h.lt⟩
theorem PlMd.sp (h : PlMd w q S g t d r AN cN AO cO) : ∀ i, PlB S t i → w.heap.size ≤ i ∧ i < q.heap.size := by
  obtain ⟨F, L, e, hd⟩ := h.dk
  obtain ⟨old, _, hr⟩ := h.row
  rintro i (hi | rfl)
  · exact hd.lt i hi
  · exact ⟨h.ht, lt_of_heap hr⟩
theorem PlSt.step {g' : Nat} {F' L' : Value} {e' : Int} (h : PlSt w q S g t d r AN cN AO cO) (hd : DkAt w.heap.size S' q' g' F' L' d' e') (s : Stp S S' q q') : PlSt w q' S' g' t d' r AN cN AO cO := by
  have hlt := h.lt
  have hsp := h.sp
  refine ⟨⟨F', L', e', hd⟩, (s.but.block t hlt h.st).trans h.row, fun hs => ?_, h.on.stp (sp_stp s), h.oo.stp (sp_stp s), h.ok, h.bel.trans (s.but.below (fun i hi => (hsp i (.inl hi)).1) h.bel.size), h.ht⟩
  rcases s.new t hs with h1 | h1
  · exact h.st h1
  · omega
theorem PlSt.below (h : PlSt w q S g t d r AN cN AO cO) (b : Below q.heap.size q q') : PlSt w q' S g t d r AN cN AO cO := by
  obtain ⟨F, L, e, hd⟩ := h.dk
  exact h.step (hd.below b) (.of_below b)
theorem PlSt.drewN (h : PlSt w q S g t d r AN cN AO cO) (k : Nat) : PlSt w (q.drewN k) S g t d r AN cN AO cO := h.below (below_drewN (Below.refl _ q) k)
theorem PlSt.md (h : PlSt w q S g t d r AN cN AO cO) (b : Below q.heap.size q q') {N' O' : Value} (h1 : RL q q' (.slice AN r.now.length cN) N' r.now r'.now) (h2 : RL q q' (.slice AO r.old.length cO) O' r.old r'.old) (ok : RfOk r') :
    ∃ AN' cN' AO' cO', N' = .slice AN' r'.now.length cN' ∧ O' = .slice AO' r'.old.length cO' ∧ PlMd w q' S g t d r' AN' cN' AO' cO' := by
  obtain ⟨F, L, e, hd⟩ := h.dk
  have hlt := h.lt
  obtain ⟨AN', cN', rfl, o1⟩ := h1.out h.on (fun i hi => (h.sp i hi).2) b
  obtain ⟨AO', cO', rfl, o2⟩ := h2.out h.oo (fun i hi => (h.sp i hi).2) b
  exact ⟨AN', cN', AO', cO', rfl, rfl, ⟨F, L, e, hd.below b⟩, ⟨_, rfl, (b.block t hlt).trans h.row⟩, h.st, o1, o2, ok, h.bel.trans (b.mono h.bel.size), h.ht⟩
theorem PlMd.store (h : PlMd w q S g t d r AN cN AO cO) (b : But (· = t) q q') (hr : q'.heap[t]? = some (.cells (rcells r (.slice AN r.now.length cN) (.slice AO r.old.length cO)) 43 (0, 0))) : PlSt w q' S g t d r AN cN AO cO := by
  obtain ⟨F, L, e, hd⟩ := h.dk
  exact ⟨⟨F, L, e, hd.but b (fun i hi e => h.st (e ▸ hi))⟩, hr, h.st, h.on.stp (sp_but b), h.oo.stp (sp_but b), h.ok, h.bel.trans (b.below (B := w.heap.size) (by rintro i rfl; exact h.ht) h.bel.size), h.ht⟩
theorem PlSt.dok (h : PlSt w q S g t d r AN cN AO cO) : d.Ok := by obtain ⟨F, L, e, hd⟩ := h.dk; exact hd.ok
/-! ### The disk's calls -/
theorem PlSt.app (h : PlSt w q S g t d r AN cN AO cO) (A : Option Addr) (n c : Nat) (l : List UInt8) (hi : Out (PlB S t) q A n c l) : Calls Try.prog 10 #[.pointer (some ⟨g, 0, none⟩), .slice A n c] q fun x q' => x = .returned (.int .i64 ((d.app l).2 : Nat)) ∧ ∃ S', PlSt w q' S' g t (d.app l).1 r AN cN AO cO ∧ Stp S S' q q' := by
  obtain ⟨F, L, e, hd⟩ := h.dk
  refine (Append_any A n c l hd ⟨hi.toIsB, fun hp ad e => ⟨fun hs => (hi.ap hp ad e).1 (.inl hs), (hi.ap hp ad e).2⟩⟩).mono ?_
  rintro x q' ⟨rfl, F', S', hd', s⟩
  exact ⟨rfl, S', h.step hd' s, s⟩
theorem PlSt.sync (h : PlSt w q S g t d r AN cN AO cO) : Calls Try.prog 18 #[.pointer (some ⟨g, 0, none⟩)] q fun x q' => x = .returned (.int .i64 (d.syn.2 : Nat)) ∧ ∃ S', PlSt w q' S' g t d.syn.1 r AN cN AO cO ∧ Stp S S' q q' := by
  obtain ⟨F, L, e, hd⟩ := h.dk
  refine (Sync_any hd).mono ?_
  rintro x q' ⟨rfl, ⟨L', hd'⟩, b⟩
  exact ⟨rfl, S, h.step hd' (.of_but b), .of_but b⟩
theorem PlSt.truncBad (h : PlSt w q S g t d r AN cN AO cO) (n : Int) (hb : ¬ (0 ≤ n ∧ n ≤ (d.now.length : Int))) : Calls Try.prog 9 #[.pointer (some ⟨g, 0, none⟩), .int .i64 n] q fun x q' => x = .returned (.int .i64 2) ∧ ∃ S', PlSt w q' S' g t d r AN cN AO cO ∧ Stp S S' q q' := by
  obtain ⟨F, L, e, hd⟩ := h.dk
  refine (Truncate_bad hd n hb).mono ?_
  rintro x q' ⟨rfl, hd', b⟩
  exact ⟨rfl, S, h.step hd' (.of_but b), .of_but b⟩
theorem PlSt.trunc (h : PlSt w q S g t d r AN cN AO cO) (n : Nat) (hn : n ≤ d.now.length) : Calls Try.prog 9 #[.pointer (some ⟨g, 0, none⟩), .int .i64 (n : Nat)] q fun x q' => x = .returned (.int .i64 ((d.trunc n).2 : Nat)) ∧ ∃ S', PlSt w q' S' g t (d.trunc n).1 r AN cN AO cO ∧ Stp S S' q q' := by
  obtain ⟨F, L, e, hd⟩ := h.dk
  refine (Truncate_any hd n hn).mono ?_
  rintro x q' ⟨rfl, F', L', S', hd', s⟩
  exact ⟨rfl, S', h.step hd' s, s⟩
theorem PlSt.arm (h : PlSt w q S g t d r AN cN AO cO) (n : Int) (hn : n ≤ 9223372036854775807) : Calls Try.prog 16 #[.pointer (some ⟨g, 0, none⟩), .int .i64 n] q fun x q' => x = .returned (.int .i64 ((d.arm n).2 : Nat)) ∧ ∃ S', PlSt w q' S' g t (d.arm n).1 r AN cN AO cO ∧ Stp S S' q q' := by
  obtain ⟨F, L, e, hd⟩ := h.dk
  refine (Arm_any hd n hn).mono ?_
  rintro x q' ⟨rfl, hd', b⟩
  exact ⟨rfl, S, h.step hd' (.of_but (hd.butg b)), .of_but (hd.butg b)⟩
theorem PlSt.fail (h : PlSt w q S g t d r AN cN AO cO) (n y : Int) (hn : n ≤ 9223372036854775807) : Calls Try.prog 17 #[.pointer (some ⟨g, 0, none⟩), .int .i64 n, .int .i64 y] q fun x q' => x = .returned (.int .i64 ((d.fail n y).2 : Nat)) ∧ ∃ S', PlSt w q' S' g t (d.fail n y).1 r AN cN AO cO ∧ Stp S S' q q' := by
  obtain ⟨F, L, e, hd⟩ := h.dk
  refine (Fail_any hd n y hn).mono ?_
  rintro x q' ⟨rfl, ⟨e', hd'⟩, b⟩
  exact ⟨rfl, S, h.step hd' (.of_but (hd.butg b)), .of_but (hd.butg b)⟩
theorem PlSt.crash (h : PlSt w q S g t d r AN cN AO cO) (k : Int) (A : Option Addr) (n c : Nat) (l : List UInt8) (hi : Out (PlB S t) q A n c l) (hk : k ≤ 9223372036854775807) : Calls Try.prog 20 #[.pointer (some ⟨g, 0, none⟩), .agg #[.int .i64 k, .slice A n c]] q fun x q' => x = .returned (.int .i64 0) ∧ ∃ S', PlSt w q' S' g t (d.crash k l) r AN cN AO cO ∧ Stp S S' q q' := by
  obtain ⟨F, L, e, hd⟩ := h.dk
  refine (Crash_any k A n c l hd ⟨hi.toIsB, fun hp ad e => ⟨fun hs => (hi.ap hp ad e).1 (.inl hs), (hi.ap hp ad e).2⟩⟩ hk).mono ?_
  rintro x q' ⟨rfl, F', S', hd', s⟩
  exact ⟨rfl, S', h.step hd' s, s⟩
/-- ReadAt, good or refused: the error, the bytes, the disk then. -/
def Dk.rd (d : Dk) (i n : Int) : Nat := if 0 ≤ i ∧ 0 ≤ n ∧ i ≤ (d.now.length : Int) - n then d.op.2 else 2
def Dk.rdL (d : Dk) (i n : Int) : List UInt8 := if (0 ≤ i ∧ 0 ≤ n ∧ i ≤ (d.now.length : Int) - n) ∧ d.op.2 = 0 then (d.now.drop i.toNat).take n.toNat else []
def Dk.rdD (d : Dk) (i n : Int) : Dk := if 0 ≤ i ∧ 0 ≤ n ∧ i ≤ (d.now.length : Int) - n then d.op.1 else d
theorem rd_bad {d : Dk} {i n : Int} (h : ¬ RdOk d i n) : d.rd i n = 2 ∧ d.rdL i n = [] ∧ d.rdD i n = d := by
  unfold RdOk at h
  exact ⟨if_neg h, if_neg (fun hn => h hn.1), if_neg h⟩
theorem rd_no {d : Dk} {i n : Nat} (h : i + n ≤ d.now.length) (h0 : d.op.2 ≠ 0) : d.rd i n = d.op.2 ∧ d.rdL i n = [] ∧ d.rdD i n = d.op.1 := by
  have hr : 0 ≤ (i : Int) ∧ 0 ≤ (n : Int) ∧ (i : Int) ≤ (d.now.length : Int) - n := by omega
  exact ⟨if_pos hr, if_neg (fun hn => h0 hn.2), if_pos hr⟩
theorem rd_any {d : Dk} {i n : Nat} (h : i + n ≤ d.now.length) (h0 : d.op.2 = 0) : d.rd i n = 0 ∧ d.rdL i n = (d.now.drop i).take n ∧ d.rdD i n = d.op.1 := by
  have hr : 0 ≤ (i : Int) ∧ 0 ≤ (n : Int) ∧ (i : Int) ≤ (d.now.length : Int) - n := by omega
  exact ⟨(if_pos hr).trans h0, if_pos ⟨hr, h0⟩, if_pos hr⟩
theorem rd_cases (d : Dk) (i n : Int) : ¬ RdOk d i n ∨ ∃ a b : Nat, i = a ∧ n = b ∧ a + b ≤ d.now.length ∧ (d.op.2 ≠ 0 ∨ d.op.2 = 0) := by
  by_cases h : RdOk d i n
  · unfold RdOk at h
    exact .inr ⟨i.toNat, n.toNat, by omega, by omega, by omega, (Decidable.em _).symm⟩
  · exact .inl h
theorem Near.rd {i : Nat} {d r : Dk} (h : Near i d r) (hi : i ≤ 60) (a n : Int) : r.rd a n = d.rd a n ∧ r.rdL a n = d.rdL a n ∧ Near (i + 1) (d.rdD a n) (r.rdD a n) := by
  obtain ⟨h1, h2⟩ := h.op hi
  unfold Dk.rd Dk.rdL Dk.rdD
  rw [h.nw, h1]
  refine ⟨rfl, rfl, ?_⟩
  split
  · exact h2
  · exact h.next
theorem PlSt.readAt (h : PlSt w q S g t d r AN cN AO cO) (a b : Int) (ha : a ≤ 9223372036854775807) (hb : b ≤ 9223372036854775807) : Calls Try.prog 15 #[.pointer (some ⟨g, 0, none⟩), .int .i64 a, .int .i64 b] q fun x q' => ∃ A c, x = .returned (.tuple #[.slice A (d.rdL a b).length c, .int .i64 (d.rd a b : Nat)]) ∧ ∃ S', PlSt w q' S' g t (d.rdD a b) r AN cN AO cO ∧ Stp S S' q q' ∧ Out (PlB S' t) q' A (d.rdL a b).length c (d.rdL a b) := by
  obtain ⟨F, L, e, hd⟩ := h.dk
  have hsp := h.sp
  have nil : ∀ q' : World, Out (PlB S t) q' none 0 0 [] := fun q' => ⟨(isBB_nil q' 0).toIsB, fun h => absurd h (by simp)⟩
  rcases rd_cases d a b with hr | ⟨i, n, rfl, rfl, hin, h0 | h0⟩
  · obtain ⟨e1, e2, e3⟩ := rd_bad hr
    rw [e1, e2, e3]
    refine (ReadAt_bad hd a b hr ha hb).mono ?_
    rintro x q' ⟨rfl, hd', bb⟩
    exact ⟨none, 0, rfl, S, h.step hd' (.of_but bb), .of_but bb, nil _⟩
  · obtain ⟨e1, e2, e3⟩ := rd_no hin h0
    rw [e1, e2, e3]
    refine (ReadAt_no hd i n hin h0).mono ?_
    rintro x q' ⟨rfl, hd', bb⟩
    exact ⟨none, 0, rfl, S, h.step hd' (.of_but bb), .of_but bb, nil _⟩
  · obtain ⟨e1, e2, e3⟩ := rd_any hin h0
    have hl : ((d.now.drop i).take n).length = n := by rw [List.length_take, List.length_drop]; omega
    rw [e1, e2, e3, hl]
    have hmx := hd.ok.mx
    have hm4 := hd.ok.m4
    refine (ReadAt_any hd i n hin h0).mono ?_
    rintro x q' ⟨A, c, rfl, hd', bb, o⟩
    refine ⟨A, c, rfl, S, h.step hd' (.of_but bb), .of_but bb, (own_isB2 o (by omega)).out_new (w := q) (fun hp ad e => ?_) (fun i hi => (hsp i hi).2)⟩
    subst e
    obtain ⟨g5, c5, e5⟩ := own_nil o (by omega)
    cases e5
    exact (o.lt _ rfl).1
/-! ### The document's disk's calls -/
theorem app_old (d : Dk) (l : List UInt8) : (d.app l).1.old = d.old := by
  obtain ⟨e1, e2, e3, e4⟩ := op_now d
  unfold Dk.app
  split
  · exact e2
  · split
    · exact e2
    · exact e2
theorem syn_now (d : Dk) : d.syn.1.now = d.now := by
  obtain ⟨e1, e2, e3, e4⟩ := op_now d
  unfold Dk.syn
  split
  · exact e1
  · exact e1
theorem trunc_old (d : Dk) (n : Nat) : (d.trunc n).1.old = d.old := by
  obtain ⟨e1, e2, e3, e4⟩ := op_now d
  unfold Dk.trunc
  split
  · rfl
  · split
    · exact e2
    · exact e2
theorem rarm_now (d : Dk) (n : Int) : (d.rarm n).1.now = d.now ∧ (d.rarm n).1.old = d.old := by unfold Dk.rarm; split <;> exact ⟨rfl, rfl⟩
theorem rfail_now (d : Dk) (n x : Int) : (d.rfail n x).1.now = d.now ∧ (d.rfail n x).1.old = d.old := by unfold Dk.rfail; split <;> exact ⟨rfl, rfl⟩
/-- What a call of the document's disk tells, with the disk r' and the error y. -/
def Told (w : World) (S : Nat → Prop) (g t : Nat) (d r' : Dk) (y : Nat) (x : Ending) (q' : World) : Prop :=
  ∃ AN' cN' AO' cO', x = .returned (.tuple #[.agg (rcells r' (.slice AN' r'.now.length cN') (.slice AO' r'.old.length cO')), .int .i64 (y : Nat)]) ∧ PlMd w q' S g t d r' AN' cN' AO' cO'
theorem PlSt.rapp (h : PlSt w q S g t d r AN cN AO cO) (A : Option Addr) (m c : Nat) (l : List UInt8) (hl : IsBB w w.heap.size A m c l) : Calls Try.prog 24 #[.agg (rcells r (.slice AN r.now.length cN) (.slice AO r.old.length cO)), .slice A m c] q fun x q' => Told w S g t d (r.app l).1 (r.app l).2 x q' ∧ Below q.heap.size q q' := by
  refine (RAppend_any r AN cN AO r.old.length cO A m c l q h.ok h.on.isBB (hl.on h.bel)).mono ?_
  rintro x q' ⟨N', rfl, hr, b⟩
  obtain ⟨AN', cN', AO', cO', rfl, e2, hm⟩ := h.md b hr (by rw [app_old]; exact RL.same) (h.ok.app l)
  exact ⟨⟨AN', cN', AO', cO', by rw [e2], hm⟩, b⟩
theorem PlSt.rsync (h : PlSt w q S g t d r AN cN AO cO) : Calls Try.prog 25 #[.agg (rcells r (.slice AN r.now.length cN) (.slice AO r.old.length cO))] q fun x q' => Told w S g t d r.syn.1 r.syn.2 x q' ∧ Below q.heap.size q q' := by
  refine (RSync_any r AN cN AO r.old.length cO q h.ok h.on.isBB).mono ?_
  rintro x q' ⟨O', rfl, hr, b⟩
  obtain ⟨AN', cN', AO', cO', e1, rfl, hm⟩ := h.md b (by rw [syn_now]; exact RL.same) hr h.ok.syn
  exact ⟨⟨AN', cN', AO', cO', by rw [e1], hm⟩, b⟩
theorem PlSt.rtruncBad (h : PlSt w q S g t d r AN cN AO cO) (n : Int) (hb : ¬ (0 ≤ n ∧ n ≤ (r.now.length : Int))) : Calls Try.prog 27 #[.agg (rcells r (.slice AN r.now.length cN) (.slice AO r.old.length cO)), .int .i64 n] q fun x q' => Told w S g t d r 2 x q' ∧ Below q.heap.size q q' := by
  refine (RTruncate_bad r AN cN AO r.old.length cO n q hb).mono ?_
  rintro x q' ⟨rfl, b⟩
  obtain ⟨AN', cN', AO', cO', e1, e2, hm⟩ := h.md b RL.same RL.same h.ok
  exact ⟨⟨AN', cN', AO', cO', by rw [e1, e2]; rfl, hm⟩, b⟩
theorem PlSt.rtrunc (h : PlSt w q S g t d r AN cN AO cO) (n : Nat) (hn : n ≤ r.now.length) : Calls Try.prog 27 #[.agg (rcells r (.slice AN r.now.length cN) (.slice AO r.old.length cO)), .int .i64 (n : Nat)] q fun x q' => Told w S g t d (r.trunc n).1 (r.trunc n).2 x q' ∧ Below q.heap.size q q' := by
  refine (RTruncate_any r AN cN AO r.old.length cO n q h.ok h.on.isBB hn).mono ?_
  rintro x q' ⟨N', rfl, hr, b⟩
  obtain ⟨AN', cN', AO', cO', rfl, e2, hm⟩ := h.md b hr (by rw [trunc_old]; exact RL.same) (h.ok.trunc n)
  exact ⟨⟨AN', cN', AO', cO', by rw [e2], hm⟩, b⟩
theorem PlSt.rarm (h : PlSt w q S g t d r AN cN AO cO) (n : Int) : Calls Try.prog 28 #[.agg (rcells r (.slice AN r.now.length cN) (.slice AO r.old.length cO)), .int .i64 n] q fun x q' => Told w S g t d (r.rarm n).1 (r.rarm n).2 x q' ∧ Below q.heap.size q q' := by
  refine (RArm_any r AN r.now.length cN AO r.old.length cO n q).mono ?_
  rintro x q' ⟨rfl, b⟩
  obtain ⟨AN', cN', AO', cO', e1, e2, hm⟩ := h.md b (by rw [(rarm_now r n).1]; exact RL.same) (by rw [(rarm_now r n).2]; exact RL.same) (h.ok.rarm n)
  exact ⟨⟨AN', cN', AO', cO', by rw [e1, e2], hm⟩, b⟩
theorem PlSt.rfail (h : PlSt w q S g t d r AN cN AO cO) (n y : Int) : Calls Try.prog 29 #[.agg (rcells r (.slice AN r.now.length cN) (.slice AO r.old.length cO)), .int .i64 n, .int .i64 y] q fun x q' => Told w S g t d (r.rfail n y).1 (r.rfail n y).2 x q' ∧ Below q.heap.size q q' := by
  refine (RFail_any r AN r.now.length cN AO r.old.length cO n y q).mono ?_
  rintro x q' ⟨rfl, b⟩
  obtain ⟨AN', cN', AO', cO', e1, e2, hm⟩ := h.md b (by rw [(rfail_now r n y).1]; exact RL.same) (by rw [(rfail_now r n y).2]; exact RL.same) (h.ok.rfail n y)
  exact ⟨⟨AN', cN', AO', cO', by rw [e1, e2], hm⟩, b⟩
theorem PlSt.rcrash (h : PlSt w q S g t d r AN cN AO cO) (k : Int) (J : Option Addr) (jn jc : Nat) (junk : List UInt8) (hJ : IsBB w w.heap.size J jn jc junk) (hk : k ≤ 9223372036854775807) : Calls Try.prog 30 #[.agg (rcells r (.slice AN r.now.length cN) (.slice AO r.old.length cO)), .agg #[.int .i64 k, .slice J jn jc]] q fun x q' => (∃ AN' cN' AO' cO', x = .returned (.agg (rcells (r.rcrash k junk) (.slice AN' (r.rcrash k junk).now.length cN') (.slice AO' (r.rcrash k junk).old.length cO'))) ∧ PlMd w q' S g t d (r.rcrash k junk) AN' cN' AO' cO') ∧ Below q.heap.size q q' := by
  have hok := h.ok.crash k junk
  have hz : (r.rcrash k junk).now.length ≤ 140737488355328 := by have := hok.nw; have := hok.mo; omega
  refine (RCrash_any r AN cN AO cO k J jn jc junk q h.ok h.on.isBB h.oo.isBB (hJ.on h.bel) hk).mono ?_
  rintro x q' ⟨N', O', rfl, o1, o2, b⟩
  obtain ⟨AN', cN', AO', cO', rfl, rfl, hm⟩ := h.md b (r' := r.rcrash k junk) (RL.own (w0 := q) o1 hz (Nat.le_refl _)) (RL.own (w0 := q) o2 hz (Nat.le_refl _)) hok
  exact ⟨⟨AN', cN', AO', cO', rfl, hm⟩, b⟩
theorem PlSt.rread (h : PlSt w q S g t d r AN cN AO cO) (a b : Int) (ha : a ≤ 9223372036854775807) (hb : b ≤ 9223372036854775807) : Calls Try.prog 26 #[.agg (rcells r (.slice AN r.now.length cN) (.slice AO r.old.length cO)), .int .i64 a, .int .i64 b] q fun x q' => (∃ AN' cN' AO' cO' A c, x = .returned (.tuple #[.agg (rcells (r.rdD a b) (.slice AN' (r.rdD a b).now.length cN') (.slice AO' (r.rdD a b).old.length cO')), .slice A (r.rdL a b).length c, .int .i64 (r.rd a b : Nat)]) ∧ PlMd w q' S g t d (r.rdD a b) AN' cN' AO' cO' ∧ Out (PlB S t) q' A (r.rdL a b).length c (r.rdL a b)) ∧ Below q.heap.size q q' := by
  have hsp := h.sp
  have nil : ∀ q' : World, Out (PlB S t) q' none 0 0 [] := fun q' => ⟨(isBB_nil q' 0).toIsB, fun h => absurd h (by simp)⟩
  have hnw := h.ok.nw
  have hmo := h.ok.mo
  obtain ⟨en, eo, _, _⟩ := op_now r
  rcases rd_cases r a b with hr | ⟨i, n, rfl, rfl, hin, h0 | h0⟩
  · obtain ⟨e1, e2, e3⟩ := rd_bad hr
    rw [e1, e2, e3]
    refine (RReadAt_bad r AN cN AO r.old.length cO a b q hr ha hb (by omega)).mono ?_
    rintro x q' ⟨rfl, bb⟩
    obtain ⟨AN', cN', AO', cO', e4, e5, hm⟩ := h.md bb RL.same RL.same h.ok
    exact ⟨⟨AN', cN', AO', cO', none, 0, by rw [e4, e5]; rfl, hm, nil _⟩, bb⟩
  · obtain ⟨e1, e2, e3⟩ := rd_no hin h0
    rw [e1, e2, e3]
    refine (RReadAt_no r AN cN AO r.old.length cO i n q h.ok hin h0).mono ?_
    rintro x q' ⟨rfl, bb⟩
    obtain ⟨AN', cN', AO', cO', e4, e5, hm⟩ := h.md bb (by rw [en]; exact RL.same) (by rw [eo]; exact RL.same) h.ok.op
    exact ⟨⟨AN', cN', AO', cO', none, 0, by rw [e4, e5]; rfl, hm, nil _⟩, bb⟩
  · obtain ⟨e1, e2, e3⟩ := rd_any hin h0
    have hl : ((r.now.drop i).take n).length = n := by rw [List.length_take, List.length_drop]; omega
    rw [e1, e2, e3, hl]
    refine (RReadAt_any r AN cN AO r.old.length cO i n q h.ok h.on.isBB hin h0).mono ?_
    rintro x q' ⟨A, c, rfl, o, bb⟩
    obtain ⟨AN', cN', AO', cO', e4, e5, hm⟩ := h.md bb (by rw [en]; exact RL.same) (by rw [eo]; exact RL.same) h.ok.op
    refine ⟨⟨AN', cN', AO', cO', A, c, by rw [e4, e5]; rfl, hm, (own_isB2 o (by omega)).out_new (w := q) (fun hp ad e => ?_) (fun i hi => (hsp i hi).2)⟩, bb⟩
    subst e
    obtain ⟨g5, c5, e5⟩ := own_nil o (by omega)
    cases e5
    exact (o.lt _ rfl).1
/-! ### A copy takes the disk's place -/
theorem Out.swap {S S' S2 : Nat → Prop} {t : Nat} {q q1 q2 : World} {A : Option Addr} {n c : Nat} {l : List UInt8} (h : Out (PlB S t) q A n c l) (b : Below q.heap.size q q1) (s : Stp S S' q1 q2) (h2 : ∀ i, S2 i → q.heap.size ≤ i) : Out (PlB S2 t) q2 A n c l := by
  have h3 := (h.stp (sp_below b)).stp (sp_stp s)
  refine ⟨h3.toIsB, fun hp ad e => ⟨?_, (h3.ap hp ad e).2⟩⟩
  have h4 := h.ap hp ad e
  rintro (h5 | h5)
  · have := h2 _ h5; omega
  · exact h4.1 (.inr h5)
theorem PlSt.swap {S2 : Nat → Prop} {q1 q2 : World} {g2 : Nat} {F2 L2 : Value} {e2 : Int} (h : PlSt w q S g t d r AN cN AO cO) (b : Below q.heap.size q q1) (hd2 : DkAt q.heap.size S2 q1 g2 F2 L2 d e2) (s : Stp S S' q1 q2) : PlSt w q2 S2 g2 t d r AN cN AO cO := by
  have hlt := h.lt
  have hbs := h.bel.size
  have hne : ∀ i, S2 i → ¬ S i := fun i h2 h1 => by have := (hd2.lt i h2).1; have := (h.sp i (.inl h1)).2; omega
  have hd3 := hd2.but s.but hne
  refine ⟨⟨F2, L2, e2, ⟨hd3.row, hd3.ff, hd3.ll, hd3.ap, hd3.sg, hd3.sf, hd3.sl, fun i hi => ⟨by have := (hd3.lt i hi).1; omega, (hd3.lt i hi).2⟩, hd3.ok, hd3.er, hd3.ae, hd3.fe⟩⟩, ?_, fun hs => ?_, h.on.swap b s (fun i hi => (hd2.lt i hi).1), h.oo.swap b s (fun i hi => (hd2.lt i hi).1), h.ok, ?_, h.ht⟩
  · exact (s.but.block t (Nat.lt_of_lt_of_le hlt b.size) h.st).trans ((b.block t hlt).trans h.row)
  · have := (hd2.lt t hs).1; omega
  · exact (h.bel.trans (b.mono hbs)).trans (s.but.below (fun i hi => (h.sp i (.inl hi)).1) (Nat.le_trans hbs b.size))
end
end Go.Proofs.Ytgccjclloomfgaa
