/-
  The walk of DiskPlays.
-/
import Derived.Test.YtgccjclloomfgaaPlS
import Derived.Test.YtgccjclloomfgaaSprW
import Derived.Test.YtgccjclloomfgaaAwk
import Derived.Outline
import Derived.Deep.Cut
import Derived.Deep.CutRange
import Derived.Deep.CutBlock
import Derived.Deep.RegionHeld
namespace Go.Proofs.Ytgccjclloomfgaa
open Go.RowKit

/-- A slice of calls below block B: the first 3000 bytes of each one's bytes. -/
structure OpsL (w : World) (B : Nat) (A : Option Addr) (n c : Nat) : Prop where
  cap : n ≤ c
  max : c ≤ maxLen
  lies : ∀ i, i < n → ∃ (ad : Addr) (K N M E : Int) (Ai : Option Addr) (ni ci : Nat) (l : List UInt8), A = some ad ∧ ad.block < B ∧
    (w.cell? (ad.add (i * 5)) = some (.int .i64 K) ∧ w.cell? (ad.add (i * 5 + 1)) = some (.int .i64 N) ∧ w.cell? (ad.add (i * 5 + 2)) = some (.int .i64 M) ∧ w.cell? (ad.add (i * 5 + 3)) = some (.int .i64 E) ∧ w.cell? (ad.add (i * 5 + 4)) = some (.slice Ai ni ci)) ∧
    N ≤ 9223372036854775807 ∧ M ≤ 9223372036854775807 ∧ ni ≤ ci ∧ ci ≤ maxLen ∧ IsBB w B Ai (min ni 3000) ci l
theorem OpsL.cells {w q : World} {ad : Addr} {i : Nat} {K N M E : Int} {Ai : Option Addr} {ni ci : Nat} (hb : ad.block < w.heap.size) (b : Below w.heap.size w q)
    (h : w.cell? (ad.add (i * 5)) = some (.int .i64 K) ∧ w.cell? (ad.add (i * 5 + 1)) = some (.int .i64 N) ∧ w.cell? (ad.add (i * 5 + 2)) = some (.int .i64 M) ∧ w.cell? (ad.add (i * 5 + 3)) = some (.int .i64 E) ∧ w.cell? (ad.add (i * 5 + 4)) = some (.slice Ai ni ci)) :
    q.cell? (ad.add (i * 5)) = some (.int .i64 K) ∧ q.cell? (ad.add (i * 5 + 1)) = some (.int .i64 N) ∧ q.cell? (ad.add (i * 5 + 2)) = some (.int .i64 M) ∧ q.cell? (ad.add (i * 5 + 3)) = some (.int .i64 E) ∧ q.cell? (ad.add (i * 5 + 4)) = some (.slice Ai ni ci) :=
  ⟨(b.cell (by rw [block_of_add]; exact hb)).trans h.1, (b.cell (by rw [block_of_add]; exact hb)).trans h.2.1, (b.cell (by rw [block_of_add]; exact hb)).trans h.2.2.1, (b.cell (by rw [block_of_add]; exact hb)).trans h.2.2.2.1, (b.cell (by rw [block_of_add]; exact hb)).trans h.2.2.2.2⟩
/-- The beginning: both were loaded. -/
theorem PlSt.start {w W1 W2 : World} {g : Nat} {S : Nat → Prop} {F L : Value} {m : Nat} {l : List UInt8} {AN AO : Option Addr} {cN cO : Nat} (hd : DkAt w.heap.size S W1 g F L (Dk.load m l) 0) (b1 : Below w.heap.size w W1) (b2 : Below W1.heap.size W1 W2)
    (o1 : W2.ownsRow W1.heap.size 5 1 (.slice AN l.length cN) l.length (l.map bv)) (o2 : W2.ownsRow W1.heap.size 5 1 (.slice AO l.length cO) l.length (l.map bv)) (hm : m ≤ 4194304) (hl : l.length ≤ m) :
    PlSt w (W2.alloc (.cells (rcells (Dk.load m l) (.slice AN l.length cN) (.slice AO l.length cO)) 43)) S g W2.heap.size (Dk.load m l) (Dk.load m l) AN cN AO cO := by
  have hal : Below W2.heap.size W2 (W2.alloc (.cells (rcells (Dk.load m l) (.slice AN l.length cN) (.slice AO l.length cO)) 43)) := fr W2 _
  have hout : ∀ {A : Option Addr} {c : Nat}, W2.ownsRow W1.heap.size 5 1 (.slice A l.length c) l.length (l.map bv) → Out (PlB S W2.heap.size) (W2.alloc (.cells (rcells (Dk.load m l) (.slice AN l.length cN) (.slice AO l.length cO)) 43)) A l.length c l := by
    intro A c o
    have hI := (own_isB2 o (by omega))
    refine ⟨(hI.on hal).toIsB, fun hp ad e => ⟨?_, (hI.on hal).low hp ad e⟩⟩
    subst e
    obtain ⟨g5, c5, e5⟩ := own_nil o hp
    cases e5
    have hlt := o.lt _ rfl
    rintro (h1 | h1)
    · have h3 : g5 < W1.heap.size := (hd.lt g5 h1).2
      have h2 : W1.heap.size ≤ g5 := hlt.1
      omega
    · have h2 : g5 < W2.heap.size := hlt.2
      have h3 : g5 = W2.heap.size := h1
      omega
  have s1 := b1.size
  have s2 := b2.size
  refine ⟨⟨F, L, 0, (hd.below b2).below hal⟩, heap_alloc_new W2 _, fun hs => ?_, hout o1, hout o2, RfOk.load hm hl, (b1.trans (b2.mono s1)).trans (hal.mono (by omega)), by omega⟩
  have := (hd.lt _ hs).2
  omega
/-- The round's own: the bytes that are handed in. -/
theorem PlSt.lent {w wr W1 : World} {S : Nat → Prop} {g t : Nat} {d r : Dk} {AN AO : Option Addr} {cN cO : Nat} {o : Obj} {gi m c' : Nat} {l : List UInt8} (h : PlSt w wr S g t d r AN cN AO cO) (hN : New (wr.alloc o) W1 gi (m + 4) c' (l ++ tailL)) :
    PlSt w W1 S g t d r AN cN AO cO ∧ Out (PlB S t) W1 (some ⟨gi, 0, none⟩) (m + 4) c' (l ++ tailL) := by
  have b0 : Below wr.heap.size wr (wr.alloc o) := fr wr o
  have b : Below wr.heap.size wr W1 := b0.trans (hN.bel.mono b0.size)
  exact ⟨h.below b, hN.out (fun i hi => Nat.lt_of_lt_of_le (h.sp i hi).2 b0.size)⟩
/-- The front of what was handed in. -/
theorem Out.frontT {S : Nat → Prop} {q : World} {A : Option Addr} {m c : Nat} {l : List UInt8} (h : Out S q A (m + 4) c (l ++ tailL)) (hl : l.length = m) : Out S q A m c l :=
  ⟨front_of h.toIsB hl, fun hp ad e => h.ap (by rw [List.length_append]; omega) ad e⟩
theorem o_keep {w wr W1 q1 : World} {S S' : Nat → Prop} {g t : Nat} {d r : Dk} {AN AO : Option Addr} {cN cO : Nat} {x : Obj} (h : PlSt w wr S g t d r AN cN AO cO) (s : Stp S S' W1 q1) (hb : wr.heap.size < W1.heap.size) (ho : W1.heap[wr.heap.size]? = some x) : q1.heap[wr.heap.size]? = some x :=
  (s.but.block _ hb (fun hs => absurd (h.sp _ (.inl hs)).2 (Nat.lt_irrefl _))).trans ho
theorem o_cells {q : World} {g : Nat} {a b c d e : Value} (h : q.heap[g]? = some (.cells #[a, b, c, d, e] 47 (0, 0))) :
    q.cell? ⟨g, 0, none⟩ = some a ∧ q.cell? ⟨g, 1, none⟩ = some b ∧ q.cell? ⟨g, 2, none⟩ = some c ∧ q.cell? ⟨g, 3, none⟩ = some d ∧ q.cell? ⟨g, 4, none⟩ = some e :=
  ⟨row_cell h 0, row_cell h 1, row_cell h 2, row_cell h 3, row_cell h 4⟩
/-- What holds behind a call of both disks. -/
def PlBoth (w : World) (t i gi mm c' : Nat) (l : List UInt8) (dv xv yv pv qv : Value) (q : World) : Prop :=
  ∃ (g : Nat) (S : Nat → Prop) (d r : Dk) (AN : Option Addr) (cN : Nat) (AO : Option Addr) (cO : Nat) (z : Int) (Ap : Option Addr) (cp : Nat) (Aq : Option Addr) (cq : Nat) (L : List UInt8),
    dv = .pointer (some ⟨g, 0, none⟩) ∧ xv = .int .i64 z ∧ yv = .int .i64 z ∧ pv = .slice Ap L.length cp ∧ qv = .slice Aq L.length cq ∧ Hid (PlSt w q S g t d r AN cN AO cO) ∧ Hid (Near (i + 1) d r) ∧
      Hid (Out (PlB S t) q (some ⟨gi, 0, none⟩) (mm + 4) c' (l ++ tailL)) ∧ Hid (Out (PlB S t) q Ap L.length cp L) ∧ Hid (Out (PlB S t) q Aq L.length cq L)
theorem out_nil (S : Nat → Prop) (q : World) : Out S q none 0 0 [] := ⟨(isBB_nil q 0).toIsB, fun h => absurd h (by simp)⟩
theorem PlBoth.mk {w q : World} {t i gi mm c' g : Nat} {l : List UInt8} {S : Nat → Prop} {d r : Dk} {AN : Option Addr} {cN : Nat} {AO : Option Addr} {cO z y : Nat} (h : PlSt w q S g t d r AN cN AO cO) (hn : Near (i + 1) d r) (hi : Out (PlB S t) q (some ⟨gi, 0, none⟩) (mm + 4) c' (l ++ tailL)) (hy : y = z) :
    PlBoth w t i gi mm c' l (.pointer (some ⟨g, 0, none⟩)) (.int .i64 (z : Nat)) (.int .i64 (y : Nat)) (.slice none 0 0) (.slice none 0 0) q :=
  ⟨g, S, d, r, AN, cN, AO, cO, (z : Nat), none, 0, none, 0, [], rfl, rfl, by rw [hy], rfl, rfl, h, hn, hi, out_nil _ _, out_nil _ _⟩
theorem PlSt.copy {w q : World} {S : Nat → Prop} {g t : Nat} {d r : Dk} {AN AO : Option Addr} {cN cO : Nat} (h : PlSt w q S g t d r AN cN AO cO) : Calls Try.prog 31 #[.pointer (some ⟨g, 0, none⟩)] q fun x q' => ∃ g2 S2 F2 L2 e2, x = .returned (.pointer (some ⟨g2, 0, none⟩)) ∧ DkAt q.heap.size S2 q' g2 F2 L2 d e2 ∧ Below q.heap.size q q' := by
  obtain ⟨F, L, e, hd⟩ := h.dk
  refine (Copy_any hd).mono ?_
  rintro x q' ⟨g2, S2, F2, L2, rfl, hd2, b⟩
  exact ⟨g2, S2, F2, L2, e, rfl, hd2, b⟩
theorem PlSt.three {w q : World} {S : Nat → Prop} {g t i : Nat} {d r : Dk} {AN AO : Option Addr} {cN cO : Nat} (h : PlSt w q S g t d r AN cN AO cO) (hn : Near i d r) :
    q.cell? ⟨t, 1, none⟩ = some (.slice AN d.now.length cN) ∧ q.cell? ⟨t, 3, none⟩ = some (.int .i64 (d.floor : Nat)) ∧ q.cell? ⟨t, 4, none⟩ = some (.bool d.down) := by
  have h1 := row_cell h.row 1
  have h3 := row_cell h.row 3
  have h4 := row_cell h.row 4
  rw [← hn.nw, ← hn.fl, ← hn.dn]
  exact ⟨h1, h3, h4⟩
theorem PlSt.nowB {w q : World} {S : Nat → Prop} {g t i : Nat} {d r : Dk} {AN AO : Option Addr} {cN cO : Nat} (h : PlSt w q S g t d r AN cN AO cO) (hn : Near i d r) : IsB q AN d.now.length cN d.now := by
  have := h.on.toIsB
  rw [hn.nw] at this
  exact this
theorem PlSt.size {w q : World} {S : Nat → Prop} {g t : Nat} {d r : Dk} {AN AO : Option Addr} {cN cO : Nat} (h : PlSt w q S g t d r AN cN AO cO) : Calls Try.prog 34 #[.pointer (some ⟨g, 0, none⟩)] q fun x q' => x = .returned (.int .i64 (d.now.length : Nat)) ∧ q = q' := by
  obtain ⟨F, L, e, hd⟩ := h.dk
  exact Size_any hd
theorem PlSt.synced {w q : World} {S : Nat → Prop} {g t : Nat} {d r : Dk} {AN AO : Option Addr} {cN cO : Nat} (h : PlSt w q S g t d r AN cN AO cO) : Calls Try.prog 11 #[.pointer (some ⟨g, 0, none⟩)] q fun x q' => x = .returned (.int .i64 (d.floor : Nat)) ∧ q = q' := by
  obtain ⟨F, L, e, hd⟩ := h.dk
  exact Synced_any hd
theorem PlSt.down {w q : World} {S : Nat → Prop} {g t : Nat} {d r : Dk} {AN AO : Option Addr} {cN cO : Nat} (h : PlSt w q S g t d r AN cN AO cO) : Calls Try.prog 19 #[.pointer (some ⟨g, 0, none⟩)] q fun x q' => x = .returned (.bool d.down) ∧ q = q' := by
  obtain ⟨F, L, e, hd⟩ := h.dk
  exact Down_any hd
theorem PlSt.image {w q : World} {S : Nat → Prop} {g t : Nat} {d r : Dk} {AN AO : Option Addr} {cN cO : Nat} (h : PlSt w q S g t d r AN cN AO cO) : Calls Try.prog 35 #[.pointer (some ⟨g, 0, none⟩)] q fun x q' => ∃ A c, x = .returned (.slice A d.now.length c) ∧ IsBB q' q'.heap.size A d.now.length c d.now ∧ Below q.heap.size q q' := by
  obtain ⟨F, L, e, hd⟩ := h.dk
  have hm := hd.ok.mx
  have hm4 := hd.ok.m4
  refine (Image_any hd).mono ?_
  rintro x q' ⟨v, rfl, o, b⟩
  obtain ⟨A, c, rfl, hI⟩ := own_isBB o (by omega)
  exact ⟨A, c, rfl, hI, b⟩
def otherL : List UInt8 := [111, 116, 104, 101, 114]
theorem PlSt.other {w q q1 : World} {S : Nat → Prop} {g t : Nat} {d r : Dk} {AN AO : Option Addr} {cN cO : Nat} (h : PlSt w q S g t d r AN cN AO cO) (b : Below q.heap.size q q1) :
    Calls Try.prog 10 #[.pointer (some ⟨g, 0, none⟩), .slice (some ⟨q1.heap.size, 0, none⟩) 5 5] (q1.alloc (.cells #[.int .u8 111, .int .u8 116, .int .u8 104, .int .u8 101, .int .u8 114] 5 (5, 6))) fun x q2 => ∃ y : Nat, x = .returned (.int .i64 (y : Nat)) ∧ ∃ S3, Below q1.heap.size q1 (q1.alloc (.cells #[.int .u8 111, .int .u8 116, .int .u8 104, .int .u8 101, .int .u8 114] 5 (5, 6))) ∧ Stp S S3 (q1.alloc (.cells #[.int .u8 111, .int .u8 116, .int .u8 104, .int .u8 101, .int .u8 114] 5 (5, 6))) q2 := by
  obtain ⟨F, L, e, hd⟩ := h.dk
  have b3 : Below q1.heap.size q1 (q1.alloc (.cells #[.int .u8 111, .int .u8 116, .int .u8 104, .int .u8 101, .int .u8 114] 5 (5, 6))) := fr q1 _
  have ho : Out S (q1.alloc (.cells #[.int .u8 111, .int .u8 116, .int .u8 104, .int .u8 101, .int .u8 114] 5 (5, 6))) (some ⟨q1.heap.size, 0, none⟩) 5 5 otherL :=
    IsBB.out_new (w := q1) (lit_isBB q1 otherL (by decide) 5) (fun _ ad e => by cases e; exact Nat.le_refl _) (fun i hi => Nat.lt_of_lt_of_le (hd.lt i hi).2 b.size)
  refine (Append_any _ 5 5 otherL ((hd.below b).below b3) ho).mono ?_
  rintro x q2 ⟨rfl, F3, S3, _, s⟩
  exact ⟨_, rfl, S3, b3, s⟩
set_option maxRecDepth 10000 in
set_option maxHeartbeats 16000000 in
theorem DiskPlays_any (most : Int) (AF : Option Addr) (nF cF : Nat) (lF : List UInt8) (A : Option Addr) (n c : Nat) (w : World) (hF : IsBB w w.heap.size AF nF cF lF) (hS : OpsL w w.heap.size A n c) (hm : LdOk most nF) (h5 : nF ≤ 5000) :
    Calls Try.prog 4 #[.int .i64 most, .slice AF nF cF, .slice A n c] w fun r w' => r = .returned (.bool true) ∧ Below w.heap.size w w' := by
  obtain ⟨h0, h4, hle⟩ := hm
  obtain ⟨m, rfl⟩ : ∃ m : Nat, most = (m : Int) := ⟨most.toNat, by omega⟩
  have HO := hid hS
  have hnm : (n : Int) ≤ 9223372036854775807 := by have := hS.cap; have := hS.max; unfold maxLen at *; omega
  have hnf : ¬ (5000 : Int) < (nF : Int) := by omega
  obtain rfl : lF.length = nF := hF.len
  have HF := hid hF
  have HL := hid (Load_any m AF lF.length cF lF w hF (by omega) (by omega))
  have Hm := hid (And.intro (show m ≤ 4194304 by omega) (show lF.length ≤ m by omega))
  clear hS hF h0 h4 hle h5
  go_enter Try.func4, Try.ntmps4
  go_upto_region 5 with (first
    | (go_at_call 14; (with_reducible refine HL.out.mono ?_); rintro x W1 ⟨g, S, F, rfl, hd, b1⟩; have D1 := hid hd; have B1 := hid b1; clear hd b1)
    | (go_at_call 22; have hrl := RLoad_any m AF lF.length cF lF W1 (HF.out.on B1.out) Hm.out.1 Hm.out.2; simp only [rcells, Dk.load] at hrl; (with_reducible refine hrl.mono ?_); rintro x W2 ⟨NV, OV, rfl, o1, o2, b2⟩; obtain ⟨AN, cN, rfl⟩ := own_sl o1; obtain ⟨AO, cO, rfl⟩ := own_sl o2; clear hrl; have P0 := hid (PlSt.start D1.out B1.out b2 o1 o2 Hm.out.1 Hm.out.2); clear o1 o2 b2))
  obtain ⟨t, ht⟩ : ∃ t, t = W2.heap.size := ⟨_, rfl⟩
  obtain ⟨W3, hW3⟩ : ∃ W, W = W2.alloc (.cells (rcells (Dk.load m lF) (.slice AN lF.length cN) (.slice AO lF.length cO)) 43) := ⟨_, rfl⟩
  rw [← hW3, ← ht] at P0
  simp only [rcells, Dk.load] at hW3
  rw [show ((0 : Nat) : Int) = 0 from rfl] at hW3
  rw [← hW3, ← ht]
  clear hW3 ht D1 B1 HL HF
  go_wp2_with fail
  clear hnf
  go_loopw [7, 11] (fun dv iv wr => ∃ (i g : Nat) (S : Nat → Prop) (d r : Dk) (AN : Option Addr) (cN : Nat) (AO : Option Addr) (cO : Nat), i ≤ n ∧ i ≤ 60 ∧ dv = .pointer (some ⟨g, 0, none⟩) ∧ iv = .int .i64 i ∧ Hid (PlSt w wr S g t d r AN cN AO cO) ∧ Hid (Near i d r)) (fun _ iv _ => 60 - (intOf iv).toNat)
  case atStart => exact ⟨0, g, S, _, _, AN, cN, AO, cO, Nat.zero_le _, by omega, rfl, rfl, P0, Near.load m lF⟩
  case round =>
    obtain ⟨i, g, S, d, r, AN, cN, AO, cO, hin, hi60, rfl, rfl, hP, hNr⟩ := hrel
    clear P0
    by_cases hlt : i < n ∧ i < 60
    · obtain ⟨hl1, hl2⟩ := hlt
      have hz1' : (i : Int) < n := by omega
      have hz2' : (i : Int) < 60 := by omega
      obtain ⟨ad, K, N, M, E, Ai, ni, ci, l, rfl, hadl, hcells, hNm, hMm, hnc, hcm, hIB0⟩ := HO.out.lies i hl1
      obtain ⟨e0, e1, e2, e3, e4⟩ := OpsL.cells hadl hP.out.bel hcells
      rw [← add_of_add ad (i * 5) 1] at e1
      rw [← add_of_add ad (i * 5) 2] at e2
      rw [← add_of_add ad (i * 5) 3] at e3
      rw [← add_of_add ad (i * 5) 4] at e4
      change wr.cell? ⟨(ad.add (i * 5)).block, (ad.add (i * 5)).off + 1, none⟩ = _ at e1
      change wr.cell? ⟨(ad.add (i * 5)).block, (ad.add (i * 5)).off + 2, none⟩ = _ at e2
      change wr.cell? ⟨(ad.add (i * 5)).block, (ad.add (i * 5)).off + 3, none⟩ = _ at e3
      change wr.cell? ⟨(ad.add (i * 5)).block, (ad.add (i * 5)).off + 4, none⟩ = _ at e4
      obtain ⟨mm, hmm⟩ : ∃ mm, mm = min ni 3000 := ⟨_, rfl⟩
      rw [← hmm] at hIB0
      have hmin : (if (3000 : Int) < (ni : Int) then (3000 : Int) else (ni : Int)) = (mm : Int) := by split <;> omega
      have hmz : (mm : Int) ≤ 3000 := by omega
      have hniz : (ni : Int) ≤ 9223372036854775807 := by unfold maxLen at hcm; omega
      have hsl := slice_cut Ai ni ci mm (by omega)
      have HIB := hid hIB0
      have HL := hid (fun o => LentBytes_any Ai l mm ci (wr.alloc o) ((hIB0.on hP.out.bel).on (fr wr o)) (by omega))
      have Hb := hid (And.intro hNm (And.intro hMm (And.intro hl1 hl2)))
      clear hcells hmm hnc hcm hIB0 hNm hMm hl1 hl2 hadl
      go_upto_region 13 with (go_at_call 23; (with_reducible refine (HL.out _).mono ?_); rintro x W1 ⟨gi, c', rfl, hN⟩; have hcx := hN.row.2.2.1; have hob := (hN.bel.block wr.heap.size (by simp)).trans (heap_alloc_new wr _); obtain ⟨hp1, hi1⟩ := hP.out.lent hN; have P1 := hid hp1; have I1 := hid hi1; have HOB := hid hob; have hbz : wr.heap.size < W1.heap.size := lt_of_heap hob; clear hN hob hp1 hi1 HL)
      go_upto_region 15 with fail
      have hlm := HIB.out.len
      obtain ⟨o0, o1, o2, o3, o4⟩ := o_cells HOB.out
      go_upto_block 2 with fail
      go_cut [7, 15, 16, 17, 18] from 53 to 229 (fun dv xv yv pv qv wx => PlBoth w t i gi mm c' l dv xv yv pv qv wx)
      case first =>
        by_cases k1 : K = 1
        · subst k1
          as_aux_lemma =>
            have HX := hid (P1.out.app (some ⟨gi, 0, none⟩) mm c' l (I1.out.frontT hlm))
            go_wp2_with (first
              | (go_at_call 10; (with_reducible refine HX.out.mono ?_); rintro x q1 ⟨rfl, S1, p1, s1⟩; have P2 := hid p1; have I2 := hid (I1.out.stp (sp_stp s1)); have OQ := o_cells (o_keep hP.out s1 hbz HOB.out); obtain ⟨o0, o1, o2, o3, o4⟩ := OQ; obtain ⟨c0, c1, c2, c3, c4, c5, c6, c7⟩ := rcells_at p1.row; clear p1 s1 HX; have hr := P2.out.rapp Ai mm ci l HIB.out; simp only [rcells] at hr; have HR := hid hr; clear hr)
              | (go_at_call 24; (with_reducible refine HR.out.mono ?_); rintro x q2 ⟨⟨AN2, cN2, AO2, cO2, rfl, m2⟩, b2⟩; obtain ⟨old, ho8, hrow⟩ := m2.row; have HRW := hid (And.intro ho8 hrow); have M2 := hid m2; have I2 := hid (I2.out.stp (sp_below b2)); clear m2 ho8 hrow c0 c1 c2 c3 c4 c5 c6 c7; clear HR)
              | (refine wpList_store_d (o := ⟨none, .store 43 (.tmp 9) (.tmp 87), _, _, _, _⟩) rfl (.tmp 9) (.tmp 87) rfl t _ rfl rfl old HRW.out.2 rfl HRW.out.1 (all8 ..) ?_; intro q3 hr3 hb3; have P3 := hid (M2.out.store hb3.out hr3.out); have I3 := hid (I2.out.stp (sp_but hb3.out))))
            go_meet
            case rel => exact PlBoth.mk P3.out (hNr.out.app hi60 l).2 I3.out (hNr.out.app hi60 l).1
        · have z1 : (K == 1) = false := by simpa using k1
          by_cases k2 : K = 2
          · subst k2
            as_aux_lemma =>
              have HX := hid (P1.out.sync)
              go_wp2_with (first
                | (go_at_call 18; (with_reducible refine HX.out.mono ?_); rintro x q1 ⟨rfl, S1, p1, s1⟩; have P2 := hid p1; have I2 := hid (I1.out.stp (sp_stp s1)); have OQ := o_cells (o_keep hP.out s1 hbz HOB.out); obtain ⟨o0, o1, o2, o3, o4⟩ := OQ; obtain ⟨c0, c1, c2, c3, c4, c5, c6, c7⟩ := rcells_at p1.row; clear p1 s1 HX; have hr := P2.out.rsync; simp only [rcells] at hr; have HR := hid hr; clear hr)
                | (go_at_call 25; (with_reducible refine HR.out.mono ?_); rintro x q2 ⟨⟨AN2, cN2, AO2, cO2, rfl, m2⟩, b2⟩; obtain ⟨old, ho8, hrow⟩ := m2.row; have HRW := hid (And.intro ho8 hrow); have M2 := hid m2; have I2 := hid (I2.out.stp (sp_below b2)); clear m2 ho8 hrow c0 c1 c2 c3 c4 c5 c6 c7; clear HR)
                | (refine wpList_store_d (o := ⟨none, .store 43 (.tmp 9) (.tmp 96), _, _, _, _⟩) rfl (.tmp 9) (.tmp 96) rfl t _ rfl rfl old HRW.out.2 rfl HRW.out.1 (all8 ..) ?_; intro q3 hr3 hb3; have P3 := hid (M2.out.store hb3.out hr3.out); have I3 := hid (I2.out.stp (sp_but hb3.out))))
              go_meet
              case rel => exact PlBoth.mk P3.out (hNr.out.syn hi60).2 I3.out (hNr.out.syn hi60).1
          · have z2 : (K == 2) = false := by simpa using k2
            by_cases k3 : K = 3
            · subst k3
              as_aux_lemma =>
                have HX := hid (P1.out.readAt N M Hb.out.1 Hb.out.2.1)
                go_wp2_with (first
                  | (go_at_call 15; (with_reducible refine HX.out.mono ?_); rintro x q1 ⟨Ap, cp, rfl, S1, p1, s1, op⟩; have OP := hid op; have P2 := hid p1; have I2 := hid (I1.out.stp (sp_stp s1)); have OQ := o_cells (o_keep hP.out s1 hbz HOB.out); obtain ⟨o0, o1, o2, o3, o4⟩ := OQ; obtain ⟨c0, c1, c2, c3, c4, c5, c6, c7⟩ := rcells_at p1.row; clear p1 s1 HX op; have hr := P2.out.rread N M Hb.out.1 Hb.out.2.1; simp only [rcells] at hr; have HR := hid hr; clear hr)
                  | (go_at_call 26; (with_reducible refine HR.out.mono ?_); rintro x q2 ⟨⟨AN2, cN2, AO2, cO2, Aq, cq, rfl, m2, oq⟩, b2⟩; have OP2 := hid (OP.out.stp (sp_below b2)); have OQ2 := hid oq; obtain ⟨old, ho8, hrow⟩ := m2.row; have HRW := hid (And.intro ho8 hrow); have M2 := hid m2; have I2 := hid (I2.out.stp (sp_below b2)); clear m2 ho8 hrow c0 c1 c2 c3 c4 c5 c6 c7; clear HR oq)
                  | (refine wpList_store_d (o := ⟨none, .store 43 (.tmp 9) (.tmp 116), _, _, _, _⟩) rfl (.tmp 9) (.tmp 116) rfl t _ rfl rfl old HRW.out.2 rfl HRW.out.1 (all8 ..) ?_; intro q3 hr3 hb3; have P3 := hid (M2.out.store hb3.out hr3.out); have I3 := hid (I2.out.stp (sp_but hb3.out)); have OP3 := hid (OP2.out.stp (sp_but hb3.out)); have OQ3 := hid (OQ2.out.stp (sp_but hb3.out))))
                go_meet
                case rel =>
                  obtain ⟨n1, n2, n3⟩ := hNr.out.rd hi60 N M
                  have oq := OQ3.out
                  rw [n1, n2] at *
                  exact ⟨g, S1, _, _, _, _, _, _, _, Ap, cp, Aq, cq, _, rfl, rfl, rfl, rfl, rfl, P3.out, n3, I3.out, OP3.out, oq⟩
            · have z3 : (K == 3) = false := by simpa using k3
              by_cases k4 : K = 4
              · subst k4
                as_aux_lemma =>
                  by_cases hrg : 0 ≤ N ∧ N ≤ (d.now.length : Int)
                  · obtain ⟨nn, rfl⟩ : ∃ nn : Nat, N = (nn : Int) := ⟨N.toNat, by omega⟩
                    have HX := hid (P1.out.trunc nn (by omega))
                    go_wp2_with (first
                      | (go_at_call 9; (with_reducible refine HX.out.mono ?_); rintro x q1 ⟨rfl, S1, p1, s1⟩; have P2 := hid p1; have I2 := hid (I1.out.stp (sp_stp s1)); have OQ := o_cells (o_keep hP.out s1 hbz HOB.out); obtain ⟨o0, o1, o2, o3, o4⟩ := OQ; obtain ⟨c0, c1, c2, c3, c4, c5, c6, c7⟩ := rcells_at p1.row; clear p1 s1 HX; have hr := P2.out.rtrunc nn (by rw [hNr.out.nw]; omega); simp only [rcells] at hr; have HR := hid hr; clear hr)
                      | (go_at_call 27; (with_reducible refine HR.out.mono ?_); rintro x q2 ⟨⟨AN2, cN2, AO2, cO2, rfl, m2⟩, b2⟩; obtain ⟨old, ho8, hrow⟩ := m2.row; have HRW := hid (And.intro ho8 hrow); have M2 := hid m2; have I2 := hid (I2.out.stp (sp_below b2)); clear m2 ho8 hrow c0 c1 c2 c3 c4 c5 c6 c7; clear HR)
                      | (refine wpList_store_d (o := ⟨none, .store 43 (.tmp 9) (.tmp 130), _, _, _, _⟩) rfl (.tmp 9) (.tmp 130) rfl t _ rfl rfl old HRW.out.2 rfl HRW.out.1 (all8 ..) ?_; intro q3 hr3 hb3; have P3 := hid (M2.out.store hb3.out hr3.out); have I3 := hid (I2.out.stp (sp_but hb3.out))))
                    go_meet
                    case rel => exact PlBoth.mk P3.out (hNr.out.trunc hi60 nn).2 I3.out (hNr.out.trunc hi60 nn).1
                  · have Hrg := hid hrg
                    clear hrg
                    have HX := hid (P1.out.truncBad N Hrg.out)
                    go_wp2_with (first
                      | (go_at_call 9; (with_reducible refine HX.out.mono ?_); rintro x q1 ⟨rfl, S1, p1, s1⟩; have P2 := hid p1; have I2 := hid (I1.out.stp (sp_stp s1)); have OQ := o_cells (o_keep hP.out s1 hbz HOB.out); obtain ⟨o0, o1, o2, o3, o4⟩ := OQ; obtain ⟨c0, c1, c2, c3, c4, c5, c6, c7⟩ := rcells_at p1.row; clear p1 s1 HX; have hr := P2.out.rtruncBad N (by rw [hNr.out.nw]; exact Hrg.out); simp only [rcells] at hr; have HR := hid hr; clear hr)
                      | (go_at_call 27; (with_reducible refine HR.out.mono ?_); rintro x q2 ⟨⟨AN2, cN2, AO2, cO2, rfl, m2⟩, b2⟩; obtain ⟨old, ho8, hrow⟩ := m2.row; have HRW := hid (And.intro ho8 hrow); have M2 := hid m2; have I2 := hid (I2.out.stp (sp_below b2)); clear m2 ho8 hrow c0 c1 c2 c3 c4 c5 c6 c7; clear HR)
                      | (refine wpList_store_d (o := ⟨none, .store 43 (.tmp 9) (.tmp 130), _, _, _, _⟩) rfl (.tmp 9) (.tmp 130) rfl t _ rfl rfl old HRW.out.2 rfl HRW.out.1 (all8 ..) ?_; intro q3 hr3 hb3; have P3 := hid (M2.out.store hb3.out hr3.out); have I3 := hid (I2.out.stp (sp_but hb3.out))))
                    go_meet
                    case rel => exact PlBoth.mk (z := 2) P3.out hNr.out.next I3.out rfl
              · have z4 : (K == 4) = false := by simpa using k4
                by_cases k5 : K = 5
                · subst k5
                  as_aux_lemma =>
                    have HX := hid (P1.out.arm N Hb.out.1)
                    go_wp2_with (first
                      | (go_at_call 16; (with_reducible refine HX.out.mono ?_); rintro x q1 ⟨rfl, S1, p1, s1⟩; have P2 := hid p1; have I2 := hid (I1.out.stp (sp_stp s1)); have OQ := o_cells (o_keep hP.out s1 hbz HOB.out); obtain ⟨o0, o1, o2, o3, o4⟩ := OQ; obtain ⟨c0, c1, c2, c3, c4, c5, c6, c7⟩ := rcells_at p1.row; clear p1 s1 HX; have hr := P2.out.rarm N; simp only [rcells] at hr; have HR := hid hr; clear hr)
                      | (go_at_call 28; (with_reducible refine HR.out.mono ?_); rintro x q2 ⟨⟨AN2, cN2, AO2, cO2, rfl, m2⟩, b2⟩; obtain ⟨old, ho8, hrow⟩ := m2.row; have HRW := hid (And.intro ho8 hrow); have M2 := hid m2; have I2 := hid (I2.out.stp (sp_below b2)); clear m2 ho8 hrow c0 c1 c2 c3 c4 c5 c6 c7; clear HR)
                      | (refine wpList_store_d (o := ⟨none, .store 43 (.tmp 9) (.tmp 143), _, _, _, _⟩) rfl (.tmp 9) (.tmp 143) rfl t _ rfl rfl old HRW.out.2 rfl HRW.out.1 (all8 ..) ?_; intro q3 hr3 hb3; have P3 := hid (M2.out.store hb3.out hr3.out); have I3 := hid (I2.out.stp (sp_but hb3.out))))
                    go_meet
                    case rel => exact PlBoth.mk P3.out (hNr.out.arm N).2 I3.out (hNr.out.arm N).1
                · have z5 : (K == 5) = false := by simpa using k5
                  by_cases k6 : K = 6
                  · subst k6
                    as_aux_lemma =>
                      have HX := hid (P1.out.fail N E Hb.out.1)
                      go_wp2_with (first
                        | (go_at_call 17; (with_reducible refine HX.out.mono ?_); rintro x q1 ⟨rfl, S1, p1, s1⟩; have P2 := hid p1; have I2 := hid (I1.out.stp (sp_stp s1)); have OQ := o_cells (o_keep hP.out s1 hbz HOB.out); obtain ⟨o0, o1, o2, o3, o4⟩ := OQ; obtain ⟨c0, c1, c2, c3, c4, c5, c6, c7⟩ := rcells_at p1.row; clear p1 s1 HX; have hr := P2.out.rfail N E; simp only [rcells] at hr; have HR := hid hr; clear hr)
                        | (go_at_call 29; (with_reducible refine HR.out.mono ?_); rintro x q2 ⟨⟨AN2, cN2, AO2, cO2, rfl, m2⟩, b2⟩; obtain ⟨old, ho8, hrow⟩ := m2.row; have HRW := hid (And.intro ho8 hrow); have M2 := hid m2; have I2 := hid (I2.out.stp (sp_below b2)); clear m2 ho8 hrow c0 c1 c2 c3 c4 c5 c6 c7; clear HR)
                        | (refine wpList_store_d (o := ⟨none, .store 43 (.tmp 9) (.tmp 160), _, _, _, _⟩) rfl (.tmp 9) (.tmp 160) rfl t _ rfl rfl old HRW.out.2 rfl HRW.out.1 (all8 ..) ?_; intro q3 hr3 hb3; have P3 := hid (M2.out.store hb3.out hr3.out); have I3 := hid (I2.out.stp (sp_but hb3.out))))
                      go_meet
                      case rel => exact PlBoth.mk P3.out (hNr.out.fail N E).2 I3.out (hNr.out.fail N E).1
                  · have z6 : (K == 6) = false := by simpa using k6
                    by_cases k7 : K = 7
                    · subst k7
                      as_aux_lemma =>
                        have HX := hid (P1.out.crash N (some ⟨gi, 0, none⟩) mm c' l (I1.out.frontT hlm) Hb.out.1)
                        go_wp2_with (first
                          | (go_at_call 20; (with_reducible refine HX.out.mono ?_); rintro x q1 ⟨rfl, S1, p1, s1⟩; have P2 := hid p1; have I2 := hid (I1.out.stp (sp_stp s1)); have OQ := o_cells (o_keep hP.out s1 hbz HOB.out); obtain ⟨o0, o1, o2, o3, o4⟩ := OQ; obtain ⟨c0, c1, c2, c3, c4, c5, c6, c7⟩ := rcells_at p1.row; clear p1 s1 HX; have hr := P2.out.rcrash N Ai mm ci l HIB.out Hb.out.1; simp only [rcells] at hr; have HR := hid hr; clear hr)
                          | (go_at_call 30; (with_reducible refine HR.out.mono ?_); rintro x q2 ⟨⟨AN2, cN2, AO2, cO2, rfl, m2⟩, b2⟩; obtain ⟨old, ho8, hrow⟩ := m2.row; have HRW := hid (And.intro ho8 hrow); have M2 := hid m2; have I2 := hid (I2.out.stp (sp_below b2)); clear m2 ho8 hrow c0 c1 c2 c3 c4 c5 c6 c7; clear HR)
                          | (refine wpList_store_d (o := ⟨none, .store 43 (.tmp 9) (.tmp 175), _, _, _, _⟩) rfl (.tmp 9) (.tmp 175) rfl t _ rfl rfl old HRW.out.2 rfl HRW.out.1 (all8 ..) ?_; intro q3 hr3 hb3; have P3 := hid (M2.out.store hb3.out hr3.out); have I3 := hid (I2.out.stp (sp_but hb3.out))))
                        go_meet
                        case rel => exact PlBoth.mk (z := 0) P3.out (hNr.out.crash N l) I3.out rfl
                    · have z7 : (K == 7) = false := by simpa using k7
                      by_cases k8 : K = 8
                      · subst k8
                        as_aux_lemma =>
                          have kc := fun (w : World) (C : Array Value) (n c : Nat) => Lib.run_convert_bytes_const (P := Try.prog) w 27 5 C n c Try.isSl27 Try.isU8
                          have HX := hid (P1.out.copy)
                          go_wp2_with (first
                            | (go_at_call 31; (with_reducible refine HX.out.mono ?_); rintro x q1 ⟨g2, S2, F2, L2, e2, rfl, hd2, b1⟩; have D2 := hid hd2; have B2 := hid b1; clear hd2 b1 HX; have HA := hid (P1.out.other B2.out))
                            | (go_at_call 10; (with_reducible refine HA.out.mono ?_); rintro x q2 ⟨y, rfl, S3, b3, s3⟩; have P3 := hid (P1.out.swap (B2.out.trans (b3.mono B2.out.size)) (D2.out.below b3) s3); have I3 := hid (I1.out.swap (B2.out.trans (b3.mono B2.out.size)) s3 (fun i hi => (D2.out.lt i hi).1))))
                          go_meet
                          case rel => exact PlBoth.mk (z := 0) P3.out hNr.out.next I3.out rfl
                      · have z8 : (K == 8) = false := by simpa using k8
                        as_aux_lemma =>
                          go_wp2_with fail
                          go_meet
                          case rel => exact PlBoth.mk (z := 0) P1.out hNr.out.next I1.out rfl
      case rest =>
        clear o0 o1 o2 o3 o4 P1 I1 HOB
        as_aux_lemma =>
          obtain ⟨g2, S2, d2, r2, AN2, cN2, AO2, cO2, z, Ap, cp, Aq, cq, L, rfl, rfl, rfl, rfl, rfl, hP2, hN2, hI2, hOp, hOq⟩ := hcut
          have hmx := hP2.out.dok.mx
          have hm4 := hP2.out.dok.m4
          have hnz : (d2.now.length : Int) ≤ 4194304 := by omega
          have hfz : (d2.floor : Int) ≤ 4194304 := by have := hP2.out.dok.fn; omega
          have H3 := hid (fun (q : World) (b : Below wc.heap.size wc q) => (hP2.out.below b).three hN2.out)
          have HS1 := hid (SameBytes_bel Ap Aq L L.length cp cq wc.drew (hOp.out.drew).toIsB (hOq.out.drew).toIsB)
          obtain ⟨q0a, q0b, q0c⟩ := H3.out wc (Below.refl _ _)
          clear hP hNr hmx hm4
          go_upto_region 41 with fail
          go_region_held (fun w' => w'.cell? ⟨t, 1, none⟩ = some (.slice AN2 d2.now.length cN2) ∧ w'.cell? ⟨t, 3, none⟩ = some (.int .i64 (d2.floor : Nat)) ∧ w'.cell? ⟨t, 4, none⟩ = some (.bool d2.down)) ((first | exact ⟨q0a, q0b, q0c⟩ | exact ⟨q1a, q1b, q1c⟩ | exact ⟨q2a, q2b, q2c⟩ | exact ⟨q3a, q3b, q3c⟩ | exact ⟨q4a, q4b, q4c⟩ | go_keep))
            ((first
              | (go_at_call 32; (with_reducible refine HS1.out.mono ?_); rintro x q1 ⟨rfl, b1⟩; have B1 := hid (below_at rfl b1); obtain ⟨q1a, q1b, q1c⟩ := H3.out q1 B1.out; have HK := hid (KeptBytes_true Ai l gi mm c' ci q1 (HIB.out.on (hP2.out.below B1.out).bel) ((hI2.out.stp (sp_below B1.out)).isBB)); clear HS1 b1)
              | (go_at_call 33; (with_reducible refine HK.out.mono ?_); rintro x q2 ⟨rfl, b2⟩; have B2 := hid (B1.out.trans (b2.mono B1.out.size)); obtain ⟨q2a, q2b, q2c⟩ := H3.out q2 B2.out; have HZ := hid (hP2.out.below B2.out).size; have HY := hid (hP2.out.below B2.out).synced; have HD := hid (hP2.out.below B2.out).down; have HM := hid (hP2.out.below B2.out).image; clear HK b2)
              | (go_at_call 34; (with_reducible refine HZ.out.mono ?_); rintro x w' ⟨rfl, rfl⟩; clear HZ)
              | (go_at_call 11; (with_reducible refine HY.out.mono ?_); rintro x w' ⟨rfl, rfl⟩; clear HY)
              | (go_at_call 19; (with_reducible refine HD.out.mono ?_); rintro x w' ⟨rfl, rfl⟩; clear HD)
              | (go_at_call 35; (with_reducible refine HM.out.mono ?_); rintro x q3 ⟨A9, c9, rfl, i9, b3⟩; have B3 := hid (B2.out.trans (b3.mono B2.out.size)); obtain ⟨q3a, q3b, q3c⟩ := H3.out q3 B3.out; have HS2 := hid (SameBytes_bel A9 AN2 d2.now d2.now.length c9 cN2 q3 i9.toIsB ((hP2.out.below B3.out).nowB hN2.out)); clear HM b3 i9)
              | (go_at_call 32; (with_reducible refine HS2.out.mono ?_); rintro x q4 ⟨rfl, b4⟩; have B4 := hid (B3.out.trans (b4.mono B3.out.size)); obtain ⟨q4a, q4b, q4c⟩ := H3.out q4 B4.out; clear HS2 b4)))
          all_goals
            go_wp2_with fail
            go_roundw
            case rel => exact ⟨i + 1, g2, S2, d2, r2, AN2, cN2, AO2, cO2, by have := Hb.out.2.2.1; omega, by have := Hb.out.2.2.2; omega, rfl, by go_num, hP2.out.below B4.out, hN2⟩
            case measure => have := Hb.out.2.2.2; simp [intOf]; omega
    · have hA := hid (fun q : World => awake_any q)
      have hjj : (¬ (i : Int) < n) ∨ ((i : Int) < n ∧ ¬ (i : Int) < 60) := by omega
      clear hlt hin hi60
      rcases hjj with hj1 | ⟨hj1, hj2⟩
      · go_wp2_with (go_at_call 21; (with_reducible refine (hA.out _).mono ?_); rintro x W4 ⟨rfl, b4⟩)
        go_ret
        exact ⟨rfl, hP.out.bel.trans (b4.mono hP.out.bel.size)⟩
      · go_wp2_with (go_at_call 21; (with_reducible refine (hA.out _).mono ?_); rintro x W4 ⟨rfl, b4⟩)
        go_ret
        exact ⟨rfl, hP.out.bel.trans (b4.mono hP.out.bel.size)⟩
end Go.Proofs.Ytgccjclloomfgaa
