/-
  The contract of 'alike'.
-/
import Derived.Test.YtpeepohiajmhcaaTwo
import Derived.Test.YtpeepohiajmhcaaZd
namespace Go.Proofs.Ytpeepohiajmhcaa
open Go.RowKit

theorem bel_drew (w : World) : Below w.heap.size w w.drew := d.below_draw (Below.refl _ w)
/-- The stream's bytes behind the salt. -/
def stE (en : En) : Nat → UInt8 := fun j => c.stB en.K en.non (32 + j)
theorem turn_enc (K : Nat → Nat) (non : List UInt8) (k : Nat) (l : List UInt8) : c.turnL K non (32 + k) l = encS (fun j => c.stB K non (32 + j)) k l := by
  apply List.ext_getElem
  · rw [c.turnL_len, encS_len]
  · intro i h1 h2
    have hl : i < l.length := by rw [encS_len] at h2; exact h2
    rw [encS_get _ l k i hl, c.turnL_get, Nat.add_assoc]
theorem trn_enc (en : En) (k : Nat) (l : List UInt8) : trn (some en) (32 + k) l = encS (stE en) k l := turn_enc en.K en.non k l
/-- What 'alike' tells of a kind. -/
def AlsTo (base : Nat) (W : World) (X : Nat → Prop) (gd gp hf hg : Nat) (en : En) (salt : List UInt8) (K N M E : Int) (A : Option Addr) (n c : Nat) : Prop :=
  Calls Try.prog 20 #[.pointer (some ⟨gd, 0, none⟩), .pointer (some ⟨gp, 0, none⟩), .pointer (some ⟨hf, 0, none⟩), .pointer (some ⟨hg, 0, none⟩), .agg #[.int .i64 K, .int .i64 N, .int .i64 M, .int .i64 E, .slice A n c]] W
    fun r w' => r = .returned (.bool true) ∧ ∃ X' d' p', Two base w' X' gd gp d' p' hf hg en ∧ Sees salt (stE en) d' p' ∧ Stp X X' W w'
def opC (K N M E : Int) (A : Option Addr) (n c : Nat) : Array Value := #[.int .i64 K, .int .i64 N, .int .i64 M, .int .i64 E, .slice A n c]
section
variable {base : Nat} {W : World} {X : Nat → Prop} {gd gp : Nat} {d p : Dk} {hf hg : Nat} {en : En} {salt : List UInt8} {N M E : Int} {A : Option Addr} {n c k : Nat} {l : List UInt8}
/-- The copy of the call that is handed in, and what stays of it. -/
structure OpAt (W0 : World) (X : Nat → Prop) (b : Nat) (K N M E : Int) (A : Option Addr) (n c : Nat) : Prop where
  row : W0.heap[b]? = some (.cells (opC K N M E A n c) 49 (0, 0))
  out : ¬ X b
theorem OpAt.stp {W0 W1 : World} {X X' : Nat → Prop} {b : Nat} {K N M E : Int} {A : Option Addr} {n c : Nat} (h : OpAt W0 X b K N M E A n c) (s : Stp X X' W0 W1) : OpAt W1 X' b K N M E A n c :=
  ⟨(s.but.block b (lt_of_heap h.row) h.out).trans h.row, fun hx => by
    rcases s.new b hx with h1 | h1
    · exact h.out h1
    · have := lt_of_heap h.row; omega⟩
theorem OpAt.cells {W0 : World} {X : Nat → Prop} {b : Nat} {K N M E : Int} {A : Option Addr} {n c : Nat} (h : OpAt W0 X b K N M E A n c) : W0.cell? ⟨b, 0, none⟩ = some (.int .i64 K) ∧ W0.cell? ⟨b, 1, none⟩ = some (.int .i64 N) ∧ W0.cell? ⟨b, 2, none⟩ = some (.int .i64 M) ∧ W0.cell? ⟨b, 3, none⟩ = some (.int .i64 E) ∧ W0.cell? ⟨b, 4, none⟩ = some (.slice A n c) :=
  ⟨row_cell h.row 0, row_cell h.row 1, row_cell h.row 2, row_cell h.row 3, row_cell h.row 4⟩
theorem op_start (K N M E : Int) (A : Option Addr) (n c : Nat) (t : Two base W X gd gp d p hf hg en) : OpAt (W.alloc (.cells (opC K N M E A n c) 49)) X W.heap.size K N M E A n c :=
  ⟨heap_alloc_new W _, fun hx => Nat.lt_irrefl _ (t.lt _ hx).2⟩
theorem op_bel (K N M E : Int) (A : Option Addr) (n c : Nat) (W : World) : Below W.heap.size W (W.alloc (.cells (opC K N M E A n c) 49)) := (Below.refl _ W).alloc (Nat.le_refl _) _
/-- The first bytes of a call's, at most 300. -/
structure Cut (W : World) (base : Nat) (A : Option Addr) (n c k : Nat) (l : List UInt8) : Prop where
  hk : k ≤ n
  hk3 : k ≤ 4194304
  em : (if (300 : Int) < (n : Int) then (300 : Int) else (n : Int)) = (k : Int)
  hc : n ≤ c
  is : IsBB W base A k c l
set_option maxRecDepth 10000 in
set_option maxHeartbeats 2000000 in
theorem als1 (t : Two base W X gd gp d p hf hg en) (s : Sees salt (stE en) d p) (hs : salt.length = 32) (hb : Cut W base A n c k l) : AlsTo base W X gd gp hf hg en salt 1 N M E A n c := by
  unfold AlsTo
  obtain ⟨hk, hk3, em, hc, hI⟩ := hb
  have hcut := slice_cut A n c k (Nat.le_trans hk hc)
  have T0 := t.below (op_bel 1 N M E A n c W)
  have O0 := op_start 1 N M E A n c t
  have b0 : IsBB (W.alloc (.cells (opC 1 N M E A n c) 49)) base A k c l := hI.below ((op_bel 1 N M E A n c W).mono t.bb)
  have S0 := hid (Stp.of_below (S := X) (op_bel 1 N M E A n c W))
  obtain ⟨q0, q1, q2, q3, q4⟩ := O0.cells
  have hd := s.len hs
  obtain ⟨e1, s1⟩ := s.app hs l
  have F1 := T0.fappend (T0.low b0) hk3 (d' := (d.app (encS (stE en) p.now.length l)).1) (x := (p.app l).2) (by rw [hd, Nat.add_comm, trn_enc, ← e1])
  have HT0 := hid T0
  have Hb0 := hid b0
  have HF1 := hid F1
  have HS := hid s1
  clear t s hI b0 T0 O0 e1 s1 F1 hd
  unfold opC at q0 q1 q2 q3 q4 HF1 HT0 Hb0 S0
  go_enter Try.func20, Try.ntmps20
  go_wp2_with (first
    | (go_at_call 12; (with_reducible refine HF1.out.mono ?_); rintro r W1 ⟨rfl, X1, t1, s1⟩; have HT1 := hid t1; have S1 := hid s1; have HG := hid (Two.gappend (p' := (p.app l).1) (x := (p.app l).2) t1 ((HT0.out.low Hb0.out).stp s1) hk3 rfl); clear t1 s1 HF1)
    | (go_at_call 12; (with_reducible refine HG.out.mono ?_); rintro r W2 ⟨rfl, X2, t2, s2⟩; have HT2 := hid t2; have S2 := hid s2; clear t2 s2 HG))
  go_ret
  exact ⟨by simp, X2, _, _, HT2.out, HS.out, S0.out.trans (S1.out.trans S2.out)⟩
set_option maxRecDepth 10000 in
set_option maxHeartbeats 2000000 in
theorem als2 (t : Two base W X gd gp d p hf hg en) (s : Sees salt (stE en) d p) (hs : salt.length = 32) (hb : Cut W base A n c k l) : AlsTo base W X gd gp hf hg en salt 2 N M E A n c := by
  unfold AlsTo
  obtain ⟨hk, hk3, em, hc, hI⟩ := hb
  have hcut := slice_cut A n c k (Nat.le_trans hk hc)
  have T0 := t.below (op_bel 2 N M E A n c W)
  have O0 := op_start 2 N M E A n c t
  have S0 := hid (Stp.of_below (S := X) (op_bel 2 N M E A n c W))
  obtain ⟨q0, q1, q2, q3, q4⟩ := O0.cells
  have hd := s.len hs
  obtain ⟨e1, s1⟩ := s.syn hs
  have HF := hid (T0.fsync (d' := d.syn.1) (x := p.syn.2) (by rw [← e1]))
  have HS := hid s1
  clear t s hI T0 O0 e1 s1 hd
  unfold opC at q0 q1 q2 q3 q4 HF S0
  go_enter Try.func20, Try.ntmps20
  go_wp2_with (first
    | (go_at_call 17; (with_reducible refine HF.out.mono ?_); rintro r W1 ⟨rfl, X1, t1, s1⟩; have S1 := hid s1; have HG := hid (Two.gsync (p' := p.syn.1) (x := p.syn.2) t1 rfl); clear t1 s1 HF)
    | (go_at_call 17; (with_reducible refine HG.out.mono ?_); rintro r W2 ⟨rfl, X2, t2, s2⟩; have HT2 := hid t2; have S2 := hid s2; clear t2 s2 HG))
  go_ret
  exact ⟨by simp, X2, _, _, HT2.out, HS.out, S0.out.trans (S1.out.trans S2.out)⟩
set_option maxRecDepth 10000 in
set_option maxHeartbeats 2000000 in
theorem als3bad (t : Two base W X gd gp d p hf hg en) (s : Sees salt (stE en) d p) (hs : salt.length = 32) (hb : Cut W base A n c k l) (hN : N ≤ 9223372036854775807) (hM : M ≤ 9223372036854775807) (hx : ¬ (0 ≤ N ∧ 0 ≤ M ∧ N ≤ (p.now.length : Int) - M)) : AlsTo base W X gd gp hf hg en salt 3 N M E A n c := by
  unfold AlsTo
  obtain ⟨hk, hk3, em, hc, hI⟩ := hb
  have hcut := slice_cut A n c k (Nat.le_trans hk hc)
  have T0 := t.below (op_bel 3 N M E A n c W)
  have O0 := op_start 3 N M E A n c t
  have S0 := hid (Stp.of_below (S := X) (op_bel 3 N M E A n c W))
  obtain ⟨q0, q1, q2, q3, q4⟩ := O0.cells
  have hd := s.len hs
  have HF := hid (T0.freadBad N M (by rw [hd, Nat.add_sub_cancel]; exact hx) hM)
  have HX := hid (And.intro hx hM)
  have HT0 := hid T0
  have HS := hid s
  clear t s hI T0 O0 hd hx hM hN
  unfold opC at q0 q1 q2 q3 q4 HF S0 HT0
  go_enter Try.func20, Try.ntmps20
  go_wp2_with (first
    | (go_at_call 11; (with_reducible refine HF.out.mono ?_); rintro r W1 ⟨rfl, j, rfl⟩; have HT1 := hid (HT0.out.below (below_drewN (Below.refl _ _) j)); have HG := hid (HT1.out.greadBad N M HX.out.1 HX.out.2); clear HF)
    | (go_at_call 11; (with_reducible refine HG.out.mono ?_); rintro r W2 ⟨rfl, j2, rfl⟩; have HT2 := hid (HT1.out.below (below_drewN (Below.refl _ _) j2)); clear HG)
    | (go_at_call 24; refine (SameBytes_true none none [] 0 0 0 _ (isBB_nil _ 0).toIsB (isBB_nil _ 0).toIsB).mono ?_; rintro r W3 ⟨rfl, j3, rfl⟩))
  go_ret
  exact ⟨rfl, X, d, p, HT0.out.below (below_drewN (Below.refl _ _) (j + j2 + j3)), HS.out, Stp.of_but (S0.out.but.drewN (j + j2 + j3))⟩
set_option maxRecDepth 10000 in
set_option maxHeartbeats 2000000 in
theorem als3no (i m : Nat) (t : Two base W X gd gp d p hf hg en) (s : Sees salt (stE en) d p) (hs : salt.length = 32) (hb : Cut W base A n c k l) (hx : i + m ≤ p.now.length) (ho : p.op.2 ≠ 0) : AlsTo base W X gd gp hf hg en salt 3 (i : Nat) (m : Nat) E A n c := by
  unfold AlsTo
  obtain ⟨hk, hk3, em, hc, hI⟩ := hb
  have hcut := slice_cut A n c k (Nat.le_trans hk hc)
  have T0 := t.below (op_bel 3 (i : Nat) (m : Nat) E A n c W)
  have O0 := op_start 3 (i : Nat) (m : Nat) E A n c t
  have S0 := hid (Stp.of_below (S := X) (op_bel 3 (i : Nat) (m : Nat) E A n c W))
  obtain ⟨q0, q1, q2, q3, q4⟩ := O0.cells
  have hd := s.len hs
  obtain ⟨e1, s1⟩ := s.op
  obtain ⟨x, hx2⟩ : ∃ x, p.op.2 = x := ⟨_, rfl⟩
  rw [hx2] at ho
  have HF := hid (T0.freadNo i m (by omega) (by omega) (d' := d.op.1) (x := x) (by rw [← hx2, ← e1]) ho)
  have HX := hid (And.intro hx (And.intro (show p.op = (p.op.1, x) by rw [← hx2]) ho))
  have HS := hid s1
  have O0' := hid O0
  clear t s hI T0 O0 e1 s1 hd hx ho hx2
  unfold opC at q0 q1 q2 q3 q4 HF S0 O0'
  go_enter Try.func20, Try.ntmps20
  go_wp2_with (first
    | (go_at_call 11; (with_reducible refine HF.out.mono ?_); rintro r W1 ⟨rfl, X1, t1, s1⟩; have S1 := hid s1; have o1 := O0'.out.stp s1; obtain ⟨_, q1', q2', _, _⟩ := o1.cells; have HG := hid (Two.greadNo t1 i m HX.out.1 HX.out.2.1 HX.out.2.2); clear t1 s1 o1 HF)
    | (go_at_call 11; (with_reducible refine HG.out.mono ?_); rintro r W2 ⟨rfl, X2, t2, s2⟩; have HT2 := hid t2; have S2 := hid s2; clear t2 s2 HG)
    | (go_at_call 24; refine (SameBytes_true none none [] 0 0 0 _ (isBB_nil _ 0).toIsB (isBB_nil _ 0).toIsB).mono ?_; rintro r W3 ⟨rfl, j3, rfl⟩))
  go_ret
  exact ⟨by simp, X2, _, _, HT2.out.below (below_drewN (Below.refl _ _) j3), HS.out, (S0.out.trans (S1.out.trans S2.out)).trans (.of_but ((But.refl X2 W2).drewN j3))⟩
set_option maxRecDepth 10000 in
set_option maxHeartbeats 2000000 in
theorem als3ok (i m : Nat) (t : Two base W X gd gp d p hf hg en) (s : Sees salt (stE en) d p) (hs : salt.length = 32) (hb : Cut W base A n c k l) (hx : i + m ≤ p.now.length) (ho : p.op.2 = 0) : AlsTo base W X gd gp hf hg en salt 3 (i : Nat) (m : Nat) E A n c := by
  unfold AlsTo
  obtain ⟨hk, hk3, em, hc, hI⟩ := hb
  have hcut := slice_cut A n c k (Nat.le_trans hk hc)
  have T0 := t.below (op_bel 3 (i : Nat) (m : Nat) E A n c W)
  have O0 := op_start 3 (i : Nat) (m : Nat) E A n c t
  have S0 := hid (Stp.of_below (S := X) (op_bel 3 (i : Nat) (m : Nat) E A n c W))
  obtain ⟨q0, q1, q2, q3, q4⟩ := O0.cells
  have hd := s.len hs
  obtain ⟨e1, s1⟩ := s.op
  have HF := hid (T0.fread i m (by omega) (by omega) (d' := d.op.1) (l := (p.now.drop i).take m) (by rw [← ho, ← e1]) (by rw [Nat.add_comm, trn_enc, Nat.add_comm]; exact s.part hs i m))
  have HX := hid (And.intro hx (show p.op = (p.op.1, 0) by rw [← ho]))
  have HS := hid s1
  have O0' := hid O0
  clear t s hI T0 O0 e1 s1 hd hx ho
  unfold opC at q0 q1 q2 q3 q4 HF S0 O0'
  go_enter Try.func20, Try.ntmps20
  go_wp2_with (first
    | (go_at_call 11; (with_reducible refine HF.out.mono ?_); rintro r W1 ⟨A1, c1, rfl, X1, t1, s1, o1⟩; have S1 := hid s1; have P1 := hid o1; have k1 := O0'.out.stp s1; obtain ⟨_, q1', q2', _, _⟩ := k1.cells; have HG := hid (Two.gread t1 i m HX.out.1 HX.out.2 rfl); clear t1 s1 o1 k1 HF)
    | (go_at_call 11; (with_reducible refine HG.out.mono ?_); rintro r W2 ⟨A2, c2, rfl, X2, t2, s2, o2⟩; have HT2 := hid t2; have S2 := hid s2; have HB := hid (SameBytes_true A1 A2 _ m c1 c2 W2 (P1.out.stp s2).toIsB o2.toIsB); clear t2 s2 o2 HG)
    | (go_at_call 24; (with_reducible refine HB.out.mono ?_); rintro r W3 ⟨rfl, j3, rfl⟩))
  go_ret
  exact ⟨rfl, X2, _, _, HT2.out.below (below_drewN (Below.refl _ _) j3), HS.out, (S0.out.trans (S1.out.trans S2.out)).trans (.of_but ((But.refl X2 W2).drewN j3))⟩
set_option maxRecDepth 10000 in
set_option maxHeartbeats 2000000 in
theorem als4bad (t : Two base W X gd gp d p hf hg en) (s : Sees salt (stE en) d p) (hs : salt.length = 32) (hb : Cut W base A n c k l) (hx : ¬ (0 ≤ N ∧ N ≤ (p.now.length : Int))) : AlsTo base W X gd gp hf hg en salt 4 N M E A n c := by
  unfold AlsTo
  obtain ⟨hk, hk3, em, hc, hI⟩ := hb
  have hcut := slice_cut A n c k (Nat.le_trans hk hc)
  have T0 := t.below (op_bel 4 N M E A n c W)
  have O0 := op_start 4 N M E A n c t
  have S0 := hid (Stp.of_below (S := X) (op_bel 4 N M E A n c W))
  obtain ⟨q0, q1, q2, q3, q4⟩ := O0.cells
  have hd := s.len hs
  have HF := hid ((T0.below (bel_drew _)).ftruncBad N (by rw [hd, Nat.add_sub_cancel]; exact hx))
  have HQ := hid (fun q => T0.below (below_drewN (Below.refl _ _) q))
  have HG := hid (fun q => (HQ.out q).gtruncBad N hx)
  have HP := hid (fun q => Stp.of_but (S0.out.but.drewN q))
  have HS := hid s
  have Hc1 := hid q1
  clear t s hI T0 O0 hd hx S0
  unfold opC at q0 q1 q2 q3 q4 HF HQ HG HP Hc1
  go_enter Try.func20, Try.ntmps20
  go_upto_region 12 with fail
  go_region_held3 (fun w' => w'.cell? ⟨W.heap.size, 1, none⟩ = some (.int .i64 N)) (first | go_keep | exact Hc1.out)
    (first
    | (go_at_call 13; (with_reducible refine HF.out.mono ?_); rintro r W1 ⟨rfl, j, rfl⟩; clear HF)
    | (go_at_call 13; (with_reducible refine (HG.out _).mono ?_); rintro r W2 ⟨rfl, j2, rfl⟩; clear HG))
  all_goals
    go_wp2_with fail
    go_ret
    exact ⟨rfl, X, d, p, HQ.out _, HS.out, HP.out _⟩
set_option maxRecDepth 10000 in
set_option maxHeartbeats 2000000 in
theorem als4ok (i : Nat) (t : Two base W X gd gp d p hf hg en) (s : Sees salt (stE en) d p) (hs : salt.length = 32) (hb : Cut W base A n c k l) (hx : i ≤ p.now.length) : AlsTo base W X gd gp hf hg en salt 4 (i : Nat) M E A n c := by
  unfold AlsTo
  obtain ⟨hk, hk3, em, hc, hI⟩ := hb
  have hcut := slice_cut A n c k (Nat.le_trans hk hc)
  have T0 := t.below (op_bel 4 (i : Nat) M E A n c W)
  have O0 := op_start 4 (i : Nat) M E A n c t
  have S0 := hid (Stp.of_below (S := X) (op_bel 4 (i : Nat) M E A n c W))
  obtain ⟨q0, q1, q2, q3, q4⟩ := O0.cells
  have hd := s.len hs
  have HT0 := hid (T0.below (bel_drew _))
  obtain ⟨e1, s1⟩ := s.trunc hs i
  have HF := hid (HT0.out.ftrunc i (by omega) (by omega) (d' := (d.trunc (i + 32)).1) (x := (p.trunc i).2) (by rw [← e1]))
  have HX := hid hx
  have HS := hid s1
  have O0' := hid (O0.stp (X' := X) (.of_below (bel_drew _)))
  have S0' := hid (Stp.of_but S0.out.but.drew)
  clear t s hI T0 O0 hd S0 hx e1 s1
  unfold opC at q0 q1 q2 q3 q4 HF HT0 O0' S0'
  go_enter Try.func20, Try.ntmps20
  go_upto_region 12 with fail
  go_region_held3 (fun w' => w'.cell? ⟨W.heap.size, 1, none⟩ = some (.int .i64 (i : Nat))) (first | go_keep | exact v1 | exact u1)
    (first
    | (go_at_call 13; (with_reducible refine HF.out.mono ?_); rintro r W1 ⟨rfl, X1, t1, s1⟩; have S1 := hid s1; have o1 := O0'.out.stp s1; obtain ⟨_, u1, _, _, _⟩ := o1.cells; have O1 := hid o1; have HG := hid (Two.gtrunc (p' := (p.trunc i).1) (x := (p.trunc i).2) t1 i HX.out rfl); clear t1 s1 o1 HF)
    | (go_at_call 13; (with_reducible refine HG.out.mono ?_); rintro r W2 ⟨rfl, X2, t2, s2⟩; have HT2 := hid t2; have S2 := hid s2; obtain ⟨_, v1, _, _, _⟩ := (O1.out.stp s2).cells; clear t2 s2 HG))
  all_goals
    go_wp2_with fail
    go_ret
    exact ⟨by simp, X2, _, _, HT2.out, HS.out, S0'.out.trans (S1.out.trans S2.out)⟩
set_option maxRecDepth 10000 in
set_option maxHeartbeats 2000000 in
theorem als5 (t : Two base W X gd gp d p hf hg en) (s : Sees salt (stE en) d p) (hs : salt.length = 32) (hb : Cut W base A n c k l) (hN : N ≤ 9223372036854775807) : AlsTo base W X gd gp hf hg en salt 5 N M E A n c := by
  unfold AlsTo
  obtain ⟨hk, hk3, em, hc, hI⟩ := hb
  have hcut := slice_cut A n c k (Nat.le_trans hk hc)
  have T0 := t.below (op_bel 5 N M E A n c W)
  have O0 := op_start 5 N M E A n c t
  have S0 := hid (Stp.of_below (S := X) (op_bel 5 N M E A n c W))
  obtain ⟨q0, q1, q2, q3, q4⟩ := O0.cells
  have hd := s.len hs
  have HT0 := hid (T0.below (bel_drew _))
  obtain ⟨e1, s1⟩ := s.arm N
  have HF := hid (HT0.out.darm N hN (d' := (d.arm N).1) (x := (p.arm N).2) (by rw [← e1]))
  have HS := hid s1
  have O0' := hid (O0.stp (X' := X) (.of_below (bel_drew _)))
  have S0' := hid (Stp.of_but S0.out.but.drew)
  have HN := hid hN
  clear t s hI T0 O0 hd S0 e1 s1 hN
  unfold opC at q0 q1 q2 q3 q4 HF HT0 O0' S0'
  go_enter Try.func20, Try.ntmps20
  go_upto_region 14 with fail
  go_region_held3 (fun w' => w'.cell? ⟨W.heap.size, 1, none⟩ = some (.int .i64 N)) (first | go_keep | exact v1 | exact u1)
    (first
    | (go_at_call 38; (with_reducible refine HF.out.mono ?_); rintro r W1 ⟨rfl, X1, t1, s1⟩; have S1 := hid s1; have o1 := O0'.out.stp s1; obtain ⟨_, u1, _, _, _⟩ := o1.cells; have O1 := hid o1; have HG := hid (Two.parm (p' := (p.arm N).1) (x := (p.arm N).2) t1 N HN.out rfl); clear t1 s1 o1 HF)
    | (go_at_call 38; (with_reducible refine HG.out.mono ?_); rintro r W2 ⟨rfl, X2, t2, s2⟩; have HT2 := hid t2; have S2 := hid s2; obtain ⟨_, v1, _, _, _⟩ := (O1.out.stp s2).cells; clear t2 s2 HG))
  all_goals
    go_wp2_with fail
    go_ret
    exact ⟨by simp, X2, _, _, HT2.out, HS.out, S0'.out.trans (S1.out.trans S2.out)⟩
set_option maxRecDepth 10000 in
set_option maxHeartbeats 2000000 in
theorem als6 (t : Two base W X gd gp d p hf hg en) (s : Sees salt (stE en) d p) (hs : salt.length = 32) (hb : Cut W base A n c k l) (hN : N ≤ 9223372036854775807) : AlsTo base W X gd gp hf hg en salt 6 N M E A n c := by
  unfold AlsTo
  obtain ⟨hk, hk3, em, hc, hI⟩ := hb
  have hcut := slice_cut A n c k (Nat.le_trans hk hc)
  have T0 := t.below (op_bel 6 N M E A n c W)
  have O0 := op_start 6 N M E A n c t
  have S0 := hid (Stp.of_below (S := X) (op_bel 6 N M E A n c W))
  obtain ⟨q0, q1, q2, q3, q4⟩ := O0.cells
  have hd := s.len hs
  have HT0 := hid (T0.below (bel_drew _))
  obtain ⟨e1, s1⟩ := s.fail N E
  have HF := hid (HT0.out.dfail N E hN (d' := (d.fail N E).1) (x := (p.fail N E).2) (by rw [← e1]))
  have HS := hid s1
  have O0' := hid (O0.stp (X' := X) (.of_below (bel_drew _)))
  have S0' := hid (Stp.of_but S0.out.but.drew)
  have HN := hid hN
  clear t s hI T0 O0 hd S0 e1 s1 hN
  unfold opC at q0 q1 q2 q3 q4 HF HT0 O0' S0'
  go_enter Try.func20, Try.ntmps20
  go_upto_region 16 with fail
  go_region_held3 (fun w' => w'.cell? ⟨W.heap.size, 1, none⟩ = some (.int .i64 N) ∧ w'.cell? ⟨W.heap.size, 3, none⟩ = some (.int .i64 E)) (first | go_keep | exact ⟨v1, v3⟩ | exact ⟨u1, u3⟩)
    (first
    | (go_at_call 9; (with_reducible refine HF.out.mono ?_); rintro r W1 ⟨rfl, X1, t1, s1⟩; have S1 := hid s1; have o1 := O0'.out.stp s1; obtain ⟨_, u1, _, u3, _⟩ := o1.cells; have O1 := hid o1; have HG := hid (Two.pfail (p' := (p.fail N E).1) (x := (p.fail N E).2) t1 N E HN.out rfl); clear t1 s1 o1 HF)
    | (go_at_call 9; (with_reducible refine HG.out.mono ?_); rintro r W2 ⟨rfl, X2, t2, s2⟩; have HT2 := hid t2; have S2 := hid s2; obtain ⟨_, v1, _, v3, _⟩ := (O1.out.stp s2).cells; clear t2 s2 HG))
  all_goals
    go_wp2_with fail
    go_ret
    exact ⟨by simp, X2, _, _, HT2.out, HS.out, S0'.out.trans (S1.out.trans S2.out)⟩
set_option maxRecDepth 10000 in
set_option maxHeartbeats 2000000 in
theorem alsO (K : Int) (t : Two base W X gd gp d p hf hg en) (s : Sees salt (stE en) d p) (hb : Cut W base A n c k l) (h1 : K ≠ 1) (h2 : K ≠ 2) (h3 : K ≠ 3) (h4 : K ≠ 4) (h5 : K ≠ 5) (h6 : K ≠ 6) : AlsTo base W X gd gp hf hg en salt K N M E A n c := by
  unfold AlsTo
  obtain ⟨hk, hk3, em, hc, hI⟩ := hb
  have hcut := slice_cut A n c k (Nat.le_trans hk hc)
  have T0 := t.below (op_bel K N M E A n c W)
  have O0 := op_start K N M E A n c t
  have S0 := hid (Stp.of_below (S := X) (op_bel K N M E A n c W))
  obtain ⟨q0, q1, q2, q3, q4⟩ := O0.cells
  have b1 : (K == 1) = false := by simpa using h1
  have b2 : (K == 2) = false := by simpa using h2
  have b3 : (K == 3) = false := by simpa using h3
  have b4 : (K == 4) = false := by simpa using h4
  have b5 : (K == 5) = false := by simpa using h5
  have b6 : (K == 6) = false := by simpa using h6
  have HS := hid s
  have HT0 := hid T0
  clear t s hI T0 O0 h1 h2 h3 h4 h5 h6
  unfold opC at q0 q1 q2 q3 q4 HT0 S0
  go_enter Try.func20, Try.ntmps20
  go_wp2_with fail
  go_ret
  exact ⟨rfl, X, d, p, HT0.out, HS.out, S0.out⟩
/-- Both answer the same, and one sees the other still. -/
theorem alike_any (K : Int) (t : Two base W X gd gp d p hf hg en) (s : Sees salt (stE en) d p) (hs : salt.length = 32) (hb : Cut W base A n c k l) (hN : N ≤ 9223372036854775807) (hM : M ≤ 9223372036854775807) : AlsTo base W X gd gp hf hg en salt K N M E A n c := by
  by_cases h1 : K = 1
  · subst h1; exact als1 t s hs hb
  by_cases h2 : K = 2
  · subst h2; exact als2 t s hs hb
  by_cases h3 : K = 3
  · subst h3
    by_cases hx : 0 ≤ N ∧ 0 ≤ M ∧ N ≤ (p.now.length : Int) - M
    · obtain ⟨i, rfl⟩ : ∃ i : Nat, N = i := ⟨N.toNat, by omega⟩
      obtain ⟨m, rfl⟩ : ∃ m : Nat, M = m := ⟨M.toNat, by omega⟩
      by_cases ho : p.op.2 = 0
      · exact als3ok i m t s hs hb (by omega) ho
      · exact als3no i m t s hs hb (by omega) ho
    · exact als3bad t s hs hb hN hM hx
  by_cases h4 : K = 4
  · subst h4
    by_cases hx : 0 ≤ N ∧ N ≤ (p.now.length : Int)
    · obtain ⟨i, rfl⟩ : ∃ i : Nat, N = i := ⟨N.toNat, by omega⟩
      exact als4ok i t s hs hb (by omega)
    · exact als4bad t s hs hb hx
  by_cases h5 : K = 5
  · subst h5; exact als5 t s hs hb hN
  by_cases h6 : K = 6
  · subst h6; exact als6 t s hs hb hN
  exact alsO K t s hb h1 h2 h3 h4 h5 h6
end
end Go.Proofs.Ytpeepohiajmhcaa
