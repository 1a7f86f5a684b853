/-
  Merged: DUpon DPad DDig DWrite DNew DSum DHex.
-/
import Derived.Test.YtpeepohiajmhcaaZe
import Derived.Test.YtpeepohiajmhcaaZa
import Derived.Deep.Cut
import Derived.StillTailTactics
import Derived.IntWalk
import Derived.Laws.Concat
/-
  The contract of upon.
-/
namespace Go.Proofs.Ytpeepohiajmhcaa.d
open Go.RowKit

def stL (s : St) : List Value := [uv s.a, uv s.b, uv s.c, uv s.d, uv s.e, uv s.f, uv s.g, uv s.h]
def stV (s : St) : Value := .agg (stL s).toArray
/-- The call's own first two blocks. -/
structure UpS (L : List Value) (w wr : World) : Prop where
  bel : Below w.heap.size w wr
  b0 : wr.heap[w.heap.size]? = some (.cells L.toArray 104 (0, 0))
  b1 : wr.heap[w.heap.size + 1]? = some (.cells z8 104 (0, 0))
theorem UpS.to {L : List Value} {w wr w2 : World} (s : UpS L w wr) (h : Below wr.heap.size wr w2) : UpS L w w2 := by
  have l1 : w.heap.size + 1 < wr.heap.size := by
    rcases Nat.lt_or_ge (w.heap.size + 1) wr.heap.size with h | h
    · exact h
    · have e := s.b1; rw [Array.getElem?_eq_none h] at e; cases e
  exact ⟨s.bel.trans (h.mono s.bel.size), (h.block _ (by omega)).trans s.b0, (h.block _ l1).trans s.b1⟩
theorem UpS.drewN {L : List Value} {w wr : World} (s : UpS L w wr) (n : Nat) : UpS L w (wr.drewN n) := ⟨below_drewN s.bel n, s.b0, s.b1⟩
theorem UpS.set {L : List Value} {w wr : World} (s : UpS L w wr) (i : Nat) (v : Value) : UpS (L.set i v) w (wr.setCell ⟨w.heap.size, i, none⟩ v) :=
  ⟨s.bel.setCell (p := ⟨w.heap.size, i, none⟩) (Nat.le_refl _) _, by rw [row_set s.b0 i _, set_toArray],
   by rw [heap_setCell_other _ _ _ _ (by show w.heap.size + 1 ≠ w.heap.size; omega)]; exact s.b1⟩
theorem upS_start (L : List Value) (w : World) : UpS L w ((w.alloc (.cells L.toArray 104)).alloc (.cells z8 104)) := by
  refine ⟨?_, heap_alloc2_old w _ _, heap_alloc2_new w _ _⟩
  have q := (Below.refl w.heap.size w).alloc (Nat.le_refl _) (.cells L.toArray 104)
  exact q.alloc q.size _
theorem ix0 (x0 x1 x2 x3 x4 x5 x6 x7 : Value) (w : World) : (Instr.index 104 (.agg #[x0, x1, x2, x3, x4, x5, x6, x7]) (.int .i64 0)).run Try.prog w = .ok x0 w := by kernel_rfl
theorem ix1 (x0 x1 x2 x3 x4 x5 x6 x7 : Value) (w : World) : (Instr.index 104 (.agg #[x0, x1, x2, x3, x4, x5, x6, x7]) (.int .i64 1)).run Try.prog w = .ok x1 w := by kernel_rfl
theorem ix2 (x0 x1 x2 x3 x4 x5 x6 x7 : Value) (w : World) : (Instr.index 104 (.agg #[x0, x1, x2, x3, x4, x5, x6, x7]) (.int .i64 2)).run Try.prog w = .ok x2 w := by kernel_rfl
theorem ix3 (x0 x1 x2 x3 x4 x5 x6 x7 : Value) (w : World) : (Instr.index 104 (.agg #[x0, x1, x2, x3, x4, x5, x6, x7]) (.int .i64 3)).run Try.prog w = .ok x3 w := by kernel_rfl
theorem ix4 (x0 x1 x2 x3 x4 x5 x6 x7 : Value) (w : World) : (Instr.index 104 (.agg #[x0, x1, x2, x3, x4, x5, x6, x7]) (.int .i64 4)).run Try.prog w = .ok x4 w := by kernel_rfl
theorem ix5 (x0 x1 x2 x3 x4 x5 x6 x7 : Value) (w : World) : (Instr.index 104 (.agg #[x0, x1, x2, x3, x4, x5, x6, x7]) (.int .i64 5)).run Try.prog w = .ok x5 w := by kernel_rfl
theorem ix6 (x0 x1 x2 x3 x4 x5 x6 x7 : Value) (w : World) : (Instr.index 104 (.agg #[x0, x1, x2, x3, x4, x5, x6, x7]) (.int .i64 6)).run Try.prog w = .ok x6 w := by kernel_rfl
theorem ix7 (x0 x1 x2 x3 x4 x5 x6 x7 : Value) (w : World) : (Instr.index 104 (.agg #[x0, x1, x2, x3, x4, x5, x6, x7]) (.int .i64 7)).run Try.prog w = .ok x7 w := by kernel_rfl
theorem add_u (a b : Nat) : Value.int IntKind.u32 (((a : Int) + b) % 4294967296) = uv ((a + b) % 4294967296) := by
  unfold uv
  congr 1
theorem set8 (h s : St) : (((((((((stL h).set 0 (.int .u32 (((h.a : Int) + s.a) % 4294967296))).set 1 (.int .u32 (((h.b : Int) + s.b) % 4294967296))).set 2 (.int .u32 (((h.c : Int) + s.c) % 4294967296))).set 3 (.int .u32 (((h.d : Int) + s.d) % 4294967296))).set 4 (.int .u32 (((h.e : Int) + s.e) % 4294967296))).set 5 (.int .u32 (((h.f : Int) + s.f) % 4294967296))).set 6 (.int .u32 (((h.g : Int) + s.g) % 4294967296))).set 7 (.int .u32 (((h.h : Int) + s.h) % 4294967296))) = stL (add2 h s) := by
  simp only [add_u]
  rfl
/-- What upon hands back. -/
def UpPost (R : List Value) (w : World) (e : Ending) (w' : World) : Prop := e = .returned (.agg R.toArray) ∧ Below w.heap.size w w'
theorem stL_info (t : St) : (Try.prog.info? 104).map (·.size) = some (stL t).toArray.size := by kernel_rfl
theorem stL_size (t : St) : z8.size = (stL t).toArray.size := by kernel_rfl
theorem stL_one (t : St) : (stL t).toArray.all (·.oneCell') = true := by kernel_rfl
theorem ch_eq' (b c d : Nat) (hb : b < 4294967296) (hc : c < 4294967296) (hd : d < 4294967296) :
    bits BinOp.xor IntKind.u32 (bits BinOp.and IntKind.u32 b c) (bits BinOp.and IntKind.u32 (bits BinOp.xor IntKind.u32 (if IntKind.u32.signed = true then -1 else IntKind.u32.max) b) d) = ((chN b c d : Nat) : Int) := ch_eq b c d hb hc hd
theorem t1_eq' (l : List UInt8) (a b c d e f g h t : Nat) : (((h : Int) + (bs1 e : Nat) + (chN e f g : Nat) + (kN t : Nat)) % 4294967296 + (wd l t : Nat)) % 4294967296 = ((t1 l ⟨a, b, c, d, e, f, g, h⟩ t : Nat) : Int) := by
  unfold t1
  simp only
  generalize bs1 e = x
  generalize chN e f g = y
  generalize kN t = z
  generalize wd l t = v
  omega
theorem t2_eq' (a b c d e f g h : Nat) : ((bs0 a : Nat) + (maN a b c : Nat) : Int) % 4294967296 = ((t2 ⟨a, b, c, d, e, f, g, h⟩ : Nat) : Int) := by
  unfold t2
  simp only
  generalize bs0 a = x
  generalize maN a b c = y
  omega
theorem t1_eq (l : List UInt8) (a b c d e f g h t : Nat) : Value.int IntKind.u32 (((h : Nat) + (bs1 e : Nat) + (chN e f g : Nat) + (kN t : Nat) + (wd l t : Nat) : Int) % 4294967296) = .int .u32 ((t1 l ⟨a, b, c, d, e, f, g, h⟩ t : Nat) : Int) := by
  unfold t1
  simp only
  generalize bs1 e = x
  generalize chN e f g = y
  generalize kN t = z
  generalize wd l t = v
  congr 1
  omega
theorem t2_eq (a b c d e f g h : Nat) : Value.int IntKind.u32 (((bs0 a : Nat) + (maN a b c : Nat) : Int) % 4294967296) = .int .u32 ((t2 ⟨a, b, c, d, e, f, g, h⟩ : Nat) : Int) := by
  unfold t2
  simp only
  generalize bs0 a = x
  generalize maN a b c = y
  congr 1

set_option maxRecDepth 10000 in
set_option maxHeartbeats 1500000 in
theorem upon_any (h : St) (hh : h.ok) (l : List UInt8) (kb ko pb po : Nat) (w : World) (hl : l.length = 64)
    (hk : ∀ j, j < 64 → w.cell? ⟨kb, ko + j, none⟩ = some (.int .u32 (kN j : Nat))) (hkb : kb < w.heap.size)
    (hb : ∀ j (hj : j < l.length), w.cell? ⟨pb, po + j, none⟩ = some (bv l[j])) (hp : pb < w.heap.size) :
    Calls Try.prog 77 #[.agg #[.int .u32 (h.a : Nat), .int .u32 (h.b : Nat), .int .u32 (h.c : Nat), .int .u32 (h.d : Nat), .int .u32 (h.e : Nat), .int .u32 (h.f : Nat), .int .u32 (h.g : Nat), .int .u32 (h.h : Nat)], .pointer (some ⟨kb, ko, none⟩), .pointer (some ⟨pb, po, none⟩)] w (UpPost (stL (uponS l h)) w) := by
  have zv := zero35
  have zw := zero34
  have hs0 := upS_start (stL h) w
  have Hb := hid hb
  have Hk := hid hk
  have Hs0 := hid hs0
  clear hb hk hs0
  go_enter Try.func77, Try.ntmps77
  go_upto_region 1 with (fail)
  change Code.wp _ _ _ _ ((w.alloc (.cells (stL h).toArray 104)).alloc (.cells z8 104))
  have hs0 := Hs0.out
  generalize ((w.alloc (.cells (stL h).toArray 104)).alloc (.cells z8 104)) = W0 at hs0 ⊢
  clear Hs0
  have Hs0 := hid hs0
  have hsz : w.heap.size ≤ W0.heap.size := hs0.bel.size
  clear hs0 zw
  have hsl : (sched l 64).map uv = wordsL l 64 := by simp [wordsL]
  have hlen := wordsL_len l 64 (Nat.le_refl _)
  have hz1 := size35 _ hlen
  have hz2 := z64_size _ hlen
  have h1 := words_one l 64
  go_wp2_with (first
    | (go_at_call 88; refine (spread_any l pb po W0 hl (fun j hj => (Hs0.out.bel.cell (p := ⟨pb, po + j, none⟩) hp).trans (Hb.out j hj)) (by omega)).mono ?_; rintro e W1 ⟨rfl, hb1⟩; rw [hsl])
    | (refine wpList_store_row (o := ⟨none, .store 105 (.tmp 7) (.tmp 22), _, _, _, _⟩) rfl 105 (.tmp 7) (.tmp 22) rfl W1.heap.size (wordsL l 64).toArray rfl rfl 105 z64 (heap_alloc_new W1 _) hz1 hz2 h1 ?_))
  obtain ⟨V, hV⟩ : ∃ V, V = W1.heap.size := ⟨_, rfl⟩
  have B2 : Below W0.heap.size W0 ((W1.alloc (.cells z64 105)).setRow W1.heap.size (wordsL l 64).toArray) := below_setRow ((hb1.alloc hb1.size _)) hb1.size _
  have R2 : ((W1.alloc (.cells z64 105)).setRow W1.heap.size (wordsL l 64).toArray).heap[V]? = some (.cells (wordsL l 64).toArray 105 (0, 0)) := by rw [hV]; exact setRow_heap _ _ _ _ _ _ (heap_alloc_new W1 _)
  rw [← hV] at B2 R2 ⊢
  clear hV
  have HS2 := Hs0.out.to B2
  change Code.wp _ _ _ _ ((W1.alloc (.cells z64 105)).setRow V (wordsL l 64).toArray)
  generalize ((W1.alloc (.cells z64 105)).setRow V (wordsL l 64).toArray) = W2 at HS2 R2 ⊢
  have Hs2 := hid HS2
  have HR2 := hid R2
  have Hh := hid hh
  have Hkk : Hid (∀ j, j < 64 → W2.cell? ⟨kb, ko + j, none⟩ = some (.int .u32 (kN j : Nat))) := fun j hj => (Hs2.out.bel.cell (p := ⟨kb, ko + j, none⟩) hkb).trans (Hk.out j hj)
  clear HS2 R2 B2 hb1 hz1 hz2 h1 hlen hsl zv Hs0 hsz Hb Hk hh hp hkb
  have c0 : W2.cell? ⟨w.heap.size, 0, none⟩ = some (.int .u32 (h.a : Nat)) := row_cell Hs2.out.b0 0
  have c1 : W2.cell? ⟨w.heap.size, 1, none⟩ = some (.int .u32 (h.b : Nat)) := row_cell Hs2.out.b0 1
  have c2 : W2.cell? ⟨w.heap.size, 2, none⟩ = some (.int .u32 (h.c : Nat)) := row_cell Hs2.out.b0 2
  have c3 : W2.cell? ⟨w.heap.size, 3, none⟩ = some (.int .u32 (h.d : Nat)) := row_cell Hs2.out.b0 3
  have c4 : W2.cell? ⟨w.heap.size, 4, none⟩ = some (.int .u32 (h.e : Nat)) := row_cell Hs2.out.b0 4
  have c5 : W2.cell? ⟨w.heap.size, 5, none⟩ = some (.int .u32 (h.f : Nat)) := row_cell Hs2.out.b0 5
  have c6 : W2.cell? ⟨w.heap.size, 6, none⟩ = some (.int .u32 (h.g : Nat)) := row_cell Hs2.out.b0 6
  have c7 : W2.cell? ⟨w.heap.size, 7, none⟩ = some (.int .u32 (h.h : Nat)) := row_cell Hs2.out.b0 7
  go_quiet (fail)
  clear c0 c1 c2 c3 c4 c5 c6 c7
  go_wp2_with fail
  go_loopw [39, 8, 9, 10, 11, 12, 13, 14, 15] (fun i a b c d e f g hx wr => ∃ (t n : Nat), t ≤ 64 ∧ i = .int .i64 t ∧ wr = W2.drewN n ∧ a = .int .u32 ((rnds l h t).a : Nat) ∧ b = .int .u32 ((rnds l h t).b : Nat) ∧ c = .int .u32 ((rnds l h t).c : Nat) ∧ d = .int .u32 ((rnds l h t).d : Nat) ∧ e = .int .u32 ((rnds l h t).e : Nat) ∧ f = .int .u32 ((rnds l h t).f : Nat) ∧ g = .int .u32 ((rnds l h t).g : Nat) ∧ hx = .int .u32 ((rnds l h t).h : Nat)) (fun i _ _ _ _ _ _ _ _ _ => 64 - (intOf i).toNat)
  case atStart => exact ⟨0, _, Nat.zero_le _, rfl, rfl, rfl, rfl, rfl, rfl, rfl, rfl, rfl, rfl⟩
  case round =>
    obtain ⟨t, n, ht, rfl, rfl, rfl, rfl, rfl, rfl, rfl, rfl, rfl, rfl⟩ := hrel
    by_cases hlt : t < 64
    · have hlz : (t : Int) < 64 := by omega
      obtain ⟨W, hW⟩ : ∃ W, W = W2.drewN n := ⟨_, rfl⟩
      have ck : W.cell? ⟨kb, ko + t, none⟩ = some (.int .u32 (kN t : Nat)) := by rw [hW]; exact Hkk.out t hlt
      have cw : W.cell? ⟨V, t, none⟩ = some (.int .u32 (wd l t : Nat)) := by
        rw [hW]; show W2.cell? _ = _
        rw [row_cell HR2.out t, List.getElem?_toArray, wordsL_get l 64 t hlt]; rfl
      rw [← hW]
      have HW := hid hW
      clear hW
      have hok := rnds_ok l h Hh.out t
      have Hr := hid (show rnds l h (t + 1) = rnd l (rnds l h t) t from rfl)
      have lk := kN_lt t
      have lw := wd_lt l t
      generalize rnds l h t = s at *
      obtain ⟨a, b, c, d, e, f, g, i⟩ := s
      have oa := hok.a
      have ob := hok.b
      have oc := hok.c
      have od := hok.d
      have oe := hok.e
      have of' := hok.f
      have og := hok.g
      have oh := hok.h
      simp only at oa ob oc od oe of' og oh
      have qc := ch_eq' e f g oe of' og
      have qm := ma_eq a b c oa ob oc
      have lc := chN_lt e f g oe of' og
      have lm := maN_lt a b c oa ob
      have lb0 := bs0_lt a oa
      have lb1 := bs1_lt e oe
      have e1 := t1_eq' l a b c d e f g i t
      have e2 := t2_eq' a b c d e f g i
      have l1 : t1 l ⟨a, b, c, d, e, f, g, i⟩ t < 4294967296 := Nat.mod_lt _ (by omega)
      have l2 : t2 ⟨a, b, c, d, e, f, g, i⟩ < 4294967296 := Nat.mod_lt _ (by omega)
      have Hrr : Hid (rnd l ⟨a, b, c, d, e, f, g, i⟩ t = ⟨(t1 l ⟨a, b, c, d, e, f, g, i⟩ t + t2 ⟨a, b, c, d, e, f, g, i⟩) % 4294967296, a, b, c, (d + t1 l ⟨a, b, c, d, e, f, g, i⟩ t) % 4294967296, e, f, g⟩) := rfl
      generalize t1 l ⟨a, b, c, d, e, f, g, i⟩ t = x1 at *
      generalize t2 ⟨a, b, c, d, e, f, g, i⟩ = x2 at *
      generalize kN t = kt at *
      generalize wd l t = wt at *
      have He1 := hid (And.intro e1 qc)
      clear e1 hok qc
      go_wp2_with fail
      go_quiet ((go_at_call 89; exact Calls.quiet_of_same ((bs1_any e oe _).mono (fun _ _ h => ⟨h.1, h.2.symm⟩))))
      rw [He1.out.2, He1.out.1]
      clear lc lb1 He1 ck cw
      go_wp2_with (go_at_call 89; with_reducible refine (bs0_any a oa _).mono ?_; rintro e w' ⟨rfl, rfl⟩)
      go_roundw
      case rel =>
        refine ⟨t + 1, n + nq, by omega, by go_num, by rw [HW.out, World.drewN_drewN], ?_⟩
        rw [Hr.out, Hrr.out]
        refine ⟨?_, rfl, rfl, rfl, ?_, rfl, rfl, rfl⟩
        · go_num
        · go_num
      case measure => simp [intOf]; omega
    · obtain rfl : t = 64 := by omega
      obtain ⟨W, hW⟩ : ∃ W, W = W2.drewN n := ⟨_, rfl⟩
      have HS : Hid (UpS (stL h) w W) := by rw [hW]; exact Hs2.out.drewN n
      rw [← hW]
      clear hW HR2 Hkk Hs2
      have hok := rnds_ok l h Hh.out 64
      have Hu := hid (show uponS l h = add2 h (rnds l h 64) from rfl)
      generalize rnds l h 64 = s at *
      have c0 : W.cell? ⟨w.heap.size, 0, none⟩ = some (.int .u32 (h.a : Nat)) := row_cell HS.out.b0 0
      have f0 := row_free HS.out.b0 0
      have c1 : W.cell? ⟨w.heap.size, 1, none⟩ = some (.int .u32 (h.b : Nat)) := row_cell HS.out.b0 1
      have f1 := row_free HS.out.b0 1
      have c2 : W.cell? ⟨w.heap.size, 2, none⟩ = some (.int .u32 (h.c : Nat)) := row_cell HS.out.b0 2
      have f2 := row_free HS.out.b0 2
      have c3 : W.cell? ⟨w.heap.size, 3, none⟩ = some (.int .u32 (h.d : Nat)) := row_cell HS.out.b0 3
      have f3 := row_free HS.out.b0 3
      have c4 : W.cell? ⟨w.heap.size, 4, none⟩ = some (.int .u32 (h.e : Nat)) := row_cell HS.out.b0 4
      have f4 := row_free HS.out.b0 4
      have c5 : W.cell? ⟨w.heap.size, 5, none⟩ = some (.int .u32 (h.f : Nat)) := row_cell HS.out.b0 5
      have f5 := row_free HS.out.b0 5
      have c6 : W.cell? ⟨w.heap.size, 6, none⟩ = some (.int .u32 (h.g : Nat)) := row_cell HS.out.b0 6
      have f6 := row_free HS.out.b0 6
      have c7 : W.cell? ⟨w.heap.size, 7, none⟩ = some (.int .u32 (h.h : Nat)) := row_cell HS.out.b0 7
      have f7 := row_free HS.out.b0 7
      have oa := hok.a
      have pa := Hh.out.a
      have ob := hok.b
      have pb := Hh.out.b
      have oc := hok.c
      have pc := Hh.out.c
      have od := hok.d
      have pd := Hh.out.d
      have oe := hok.e
      have pe := Hh.out.e
      have of := hok.f
      have pf := Hh.out.f
      have og := hok.g
      have pg := Hh.out.g
      have oh := hok.h
      have ph := Hh.out.h
      clear hok
      go_wp2_with fail
      have i0 := ix0
      have i1 := ix1
      have i2 := ix2
      have i3 := ix3
      have i4 := ix4
      have i5 := ix5
      have i6 := ix6
      have i7 := ix7
      refine wp_loop_rounds 9 ?_
      rw [rounds_succ]
      go_wp2_with fail
      rw [rounds_succ]
      go_wp2_with fail
      rw [rounds_succ]
      go_wp2_with fail
      rw [rounds_succ]
      go_wp2_with fail
      rw [rounds_succ]
      go_wp2_with fail
      rw [rounds_succ]
      go_wp2_with fail
      rw [rounds_succ]
      go_wp2_with fail
      rw [rounds_succ]
      go_wp2_with fail
      have H8 : UpS (((((((((stL h).set 0 (.int .u32 (((h.a : Int) + s.a) % 4294967296))).set 1 (.int .u32 (((h.b : Int) + s.b) % 4294967296))).set 2 (.int .u32 (((h.c : Int) + s.c) % 4294967296))).set 3 (.int .u32 (((h.d : Int) + s.d) % 4294967296))).set 4 (.int .u32 (((h.e : Int) + s.e) % 4294967296))).set 5 (.int .u32 (((h.f : Int) + s.f) % 4294967296))).set 6 (.int .u32 (((h.g : Int) + s.g) % 4294967296))).set 7 (.int .u32 (((h.h : Int) + s.h) % 4294967296))) w ((((((((W.setCell ⟨w.heap.size, 0, none⟩ (.int .u32 (((h.a : Int) + s.a) % 4294967296))).setCell ⟨w.heap.size, 1, none⟩ (.int .u32 (((h.b : Int) + s.b) % 4294967296))).setCell ⟨w.heap.size, 2, none⟩ (.int .u32 (((h.c : Int) + s.c) % 4294967296))).setCell ⟨w.heap.size, 3, none⟩ (.int .u32 (((h.d : Int) + s.d) % 4294967296))).setCell ⟨w.heap.size, 4, none⟩ (.int .u32 (((h.e : Int) + s.e) % 4294967296))).setCell ⟨w.heap.size, 5, none⟩ (.int .u32 (((h.f : Int) + s.f) % 4294967296))).setCell ⟨w.heap.size, 6, none⟩ (.int .u32 (((h.g : Int) + s.g) % 4294967296))).setCell ⟨w.heap.size, 7, none⟩ (.int .u32 (((h.h : Int) + s.h) % 4294967296))) := ((((((((HS.out.set 0 (.int .u32 (((h.a : Int) + s.a) % 4294967296))).set 1 (.int .u32 (((h.b : Int) + s.b) % 4294967296))).set 2 (.int .u32 (((h.c : Int) + s.c) % 4294967296))).set 3 (.int .u32 (((h.d : Int) + s.d) % 4294967296))).set 4 (.int .u32 (((h.e : Int) + s.e) % 4294967296))).set 5 (.int .u32 (((h.f : Int) + s.f) % 4294967296))).set 6 (.int .u32 (((h.g : Int) + s.g) % 4294967296))).set 7 (.int .u32 (((h.h : Int) + s.h) % 4294967296)))
      rw [set8 h s, ← Hu.out] at H8
      have hR8 : (Try.prog.info? 104).map (·.size) = some (stL (uponS l h)).toArray.size := stL_info _
      have hzz : z8.size = (stL (uponS l h)).toArray.size := stL_size _
      have hRo : (stL (uponS l h)).toArray.all (·.oneCell') = true := stL_one _
      generalize hRe : stL (uponS l h) = R at H8 hR8 hzz hRo ⊢
      have HRe := hid hRe
      clear hRe
      clear i0 i1 i2 i3 i4 i5 i6 i7
      rw [rounds_succ]
      generalize ((((((((W.setCell ⟨w.heap.size, 0, none⟩ (.int .u32 (((h.a : Int) + s.a) % 4294967296))).setCell ⟨w.heap.size, 1, none⟩ (.int .u32 (((h.b : Int) + s.b) % 4294967296))).setCell ⟨w.heap.size, 2, none⟩ (.int .u32 (((h.c : Int) + s.c) % 4294967296))).setCell ⟨w.heap.size, 3, none⟩ (.int .u32 (((h.d : Int) + s.d) % 4294967296))).setCell ⟨w.heap.size, 4, none⟩ (.int .u32 (((h.e : Int) + s.e) % 4294967296))).setCell ⟨w.heap.size, 5, none⟩ (.int .u32 (((h.f : Int) + s.f) % 4294967296))).setCell ⟨w.heap.size, 6, none⟩ (.int .u32 (((h.g : Int) + s.g) % 4294967296))).setCell ⟨w.heap.size, 7, none⟩ (.int .u32 (((h.h : Int) + s.h) % 4294967296))) = W9 at H8 ⊢
      have H9 := hid H8
      clear Hu HS c0 c1 c2 c3 c4 c5 c6 c7 f0 f1 f2 f3 f4 f5 f6 f7 H8
      have hz8 := hR8
      have hone := hRo
      go_wp2_with (first
        | (refine wpList_load_row rfl 104 (.tmp 3) rfl w.heap.size rfl 104 R.toArray (0, 0) _ H9.out.b0 Try.underlying104 rfl hz8 ?_)
        | (refine wpList_store_row (o := ⟨none, .store 104 (.tmp 6) (.tmp 112), _, _, _, _⟩) rfl 104 (.tmp 6) (.tmp 112) rfl (w.heap.size + 1) R.toArray rfl rfl 104 z8 H9.out.b1 hz8 hzz hone ?_))
      refine bodyPost_ret (results_cell_row (by kernel_rfl : Try.f77.results = #[.cell 6 104]) _ _ (w.heap.size + 1) 104 R.toArray (0, 0) _ rfl (setRow_heap _ _ _ _ _ _ H9.out.b1) Try.underlying104 rfl hz8) rfl ⟨by rw [HRe.out], ?_⟩
      exact below_setRow H9.out.bel (Nat.le_succ _) _
end Go.Proofs.Ytpeepohiajmhcaa.d
/-
  The contract of padding: a new list, the padding's bytes.
-/
namespace Go.Proofs.Ytpeepohiajmhcaa.d
open Go.RowKit

theorem slot_u64 {a b : Int} (h : a = b) : Value.int .u64 a = .int .u64 b := by rw [h]
/-- What the row is while the last k of the nb bytes are written. -/
def part (l : List UInt8) (nb k v : Nat) : List Value := l.map bv ++ (List.replicate (nb - k) (Value.int .u8 0) ++ (bytesN k v).map bv)
theorem part_len (l : List UInt8) (nb k v : Nat) (h : k ≤ nb) : (part l nb k v).length = l.length + nb := by
  simp [part, length_bytesN]; omega
theorem part_end (l : List UInt8) (nb v : Nat) : part l nb nb v = (l ++ bytesN nb v).map bv := by simp [part]
theorem part_start (l : List UInt8) (nb v : Nat) : part l nb 0 v = l.map bv ++ List.replicate nb (Value.int .u8 0) := by simp [part, bytesN]
theorem part_set (l : List UInt8) (nb k v m : Nat) (hk : k < nb) (hm : m + k + 1 = l.length + nb) :
    (part l nb k v).set m (.int .u8 (((v / 256 ^ k % 256 : Nat) : Int))) = part l nb (k + 1) v := by
  unfold part
  rw [List.set_append_right _ _ (by simp; omega)]
  congr 1
  obtain ⟨d, hd⟩ : ∃ d, nb - k = d + 1 := ⟨nb - k - 1, by omega⟩
  have hd2 : nb - (k + 1) = d := by omega
  rw [hd, hd2, List.replicate_succ', List.append_assoc, bytesN_cons]
  have hi : m - (l.map bv).length = d := by simp; omega
  rw [hi, List.set_append_right _ _ (by simp)]
  simp [bv]
def headP (n : Nat) : List UInt8 := 128 :: List.replicate (noughts n) 0
theorem headP_len (n : Nat) : (headP n).length = noughts n + 1 := by simp [headP]
theorem pad_eq (n : Nat) : pad n = headP n ++ bytesN 8 (8 * n) := by simp [pad, headP, be8]
theorem part_first (n : Nat) : (List.replicate (9 + noughts n) (Value.int .u8 0)).set 0 (.int .u8 128) = part (headP n) 8 0 (8 * n) := by
  rw [part_start, headP, show 9 + noughts n = (noughts n + 8) + 1 by omega, List.replicate_succ, List.set_cons_zero, List.map_cons, List.map_replicate, List.cons_append]
  have e : List.replicate (noughts n) (bv 0) ++ List.replicate 8 (Value.int .u8 0) = List.replicate (noughts n + 8) (Value.int .u8 0) := by
    rw [show bv 0 = Value.int .u8 0 from rfl, List.replicate_append_replicate]
  rw [e]
  rfl
theorem first_nought (n : Nat) : (List.replicate (9 + noughts n) (Value.int .u8 0)).toArray[0]? = some (.int .u8 0) := by
  rw [List.getElem?_toArray, List.getElem?_replicate, if_pos (by omega)]
theorem noughts_eq (n : Nat) : ((noughts n : Nat) : Int) = (64 - ((n : Int) + 9) % 64) % 64 := by unfold noughts; omega

set_option maxRecDepth 10000 in
set_option maxHeartbeats 1000000 in
theorem padding_any (n : Nat) (w : World) (hn : n < 1152921504606846976) :
    Calls Try.prog 78 #[.int .i64 n] w fun e w' => ∃ g, e = .returned (.slice (some ⟨g, 0, none⟩) (9 + noughts n) (9 + noughts n)) ∧ New w w' g (9 + noughts n) (9 + noughts n) (pad n) := by
  obtain ⟨i0, hi, hz0, hz1, hz2⟩ := info_parts Try.info5
  have hq := noughts_eq n
  have hq2 : noughts n < 64 := by unfold noughts; omega
  have Hq := hid hq
  clear hq
  go_enter Try.func78, Try.ntmps78
  go_wp2_with (first
    | (at_make; (refine wpList_make_full _ rfl _ _ 29 rfl w.heap.size 5 i0 (.int .u8 0) 1 Try.underlying29 hi hz0 hz1 _ _ _ _ (9 + noughts n) rfl rfl (by have q := Hq.out; omega) (by have q := Hq.out; omega) (by rw [hz2]; omega) (by unfold maxLen; omega) (Nat.le_refl _) ?_); intro w1 hown1 hgrow1; have q := own_row hown1; rw [made_cells] at q; have Hrow := hid q; clear q; have hb1 : Below w.heap.size w w1 := (Below.refl _ _).grown hgrow1 (Nat.le_refl _) (by simp); have hcell : w1.cell? ⟨w.heap.size, 0, none⟩ = some (.int .u8 0) := (by rw [row_cell Hrow.out 0]; exact first_nought n); have hfree := row_free Hrow.out 0; clear hown1 hgrow1))
  have hb2 : Below w.heap.size w (w1.setCell ⟨w.heap.size, 0, none⟩ (.int .u8 128)) := hb1.setCell (Nat.le_refl _) _
  have Hr2 := row_set Hrow.out 0 (.int .u8 128)
  rw [set_toArray, part_first] at Hr2
  have Hr3 := hid Hr2
  have hlz := headP_len n
  have Hlz := hid hlz
  clear Hr2 hlz hcell hfree Hrow hb1
  go_loopw [22] (fun i wr => ∃ (k : Nat), k ≤ 8 ∧ i = .int .i64 k ∧ Hid (wr.heap[w.heap.size]? = some (.cells (part (headP n) 8 k (8 * n)).toArray 5 (0, 0))) ∧ Below w.heap.size w wr) (fun i _ => 8 - (intOf i).toNat)
  case atStart => exact ⟨0, Nat.zero_le _, rfl, Hr3, hb2⟩
  case round =>
    obtain ⟨k, hk, rfl, hrow, hbel⟩ := hrel
    by_cases hlt : k < 8
    · have hset := part_set (headP n) 8 k (8 * n) (noughts n + 8 - k) hlt (by rw [Hlz.out]; omega)
      have hlen := part_len (headP n) 8 k (8 * n) hk
      have hm : noughts n + 8 - k < (part (headP n) 8 k (8 * n)).length := by rw [hlen, Hlz.out]; omega
      have hcell := row_cell hrow.out (noughts n + 8 - k)
      rw [List.getElem?_toArray, List.getElem?_eq_getElem hm] at hcell
      have hfree := row_free hrow.out (noughts n + 8 - k)
      obtain ⟨m, hmm⟩ : ∃ m, m = noughts n + 8 - k := ⟨_, rfl⟩
      obtain ⟨v0, hv0⟩ : ∃ v0, v0 = (part (headP n) 8 k (8 * n))[noughts n + 8 - k]'hm := ⟨_, rfl⟩
      rw [← hv0] at hcell
      rw [← hmm] at hcell hfree hset
      clear hm hv0 hlen
      obtain ⟨Nn, hNn⟩ : ∃ Nn, Nn = noughts n := ⟨_, rfl⟩
      rw [← hNn] at hmm hq2 ⊢
      have hmi : 9 + (Nn : Int) - 1 - (k : Int) = (m : Int) := by omega
      have hmz : (m : Int) < 9 + (Nn : Int) := by omega
      have HN := hid (And.intro hNn hmm)
      have Hset := hid hset
      clear hNn hmm hset
      rcases (show k = 0 ∨ k = 1 ∨ k = 2 ∨ k = 3 ∨ k = 4 ∨ k = 5 ∨ k = 6 ∨ k = 7 by omega) with rfl | rfl | rfl | rfl | rfl | rfl | rfl | rfl
      · simp only [Int.sub_zero, Int.natCast_zero] at hmi
        go_wp2_with fail
        go_roundw
        case rel =>
          have e := row_set hrow.out m (.int .u8 ((8 * n / 256 ^ 0 % 256 : Nat) : Int))
          rw [set_toArray, Hset.out] at e
          have ev : ((8 * n / 256 ^ 0 % 256 : Nat) : Int) = 8 * (n : Int) % 256 := by
            show ((8 * n / 1 % 256 : Nat) : Int) = _
            omega
          rw [ev] at e
          exact ⟨0 + 1, by omega, rfl, e, hbel.setCell (Nat.le_refl _) _⟩
        case measure => simp [intOf]
      · simp only [Int.natCast_one] at hmi
        go_wp2_with fail
        go_roundw
        case rel =>
          have e := row_set hrow.out m (.int .u8 ((8 * n / 256 ^ 1 % 256 : Nat) : Int))
          rw [set_toArray, Hset.out] at e
          have ev : ((8 * n / 256 ^ 1 % 256 : Nat) : Int) = 8 * (n : Int) / 256 % 256 := by
            show ((8 * n / 256 % 256 : Nat) : Int) = _
            omega
          rw [ev] at e
          exact ⟨1 + 1, by omega, rfl, e, hbel.setCell (Nat.le_refl _) _⟩
        case measure => simp [intOf]
      · rw [show ((2 : Nat) : Int) = 2 from rfl] at hmi
        go_wp2_with fail
        go_roundw
        case rel =>
          have e := row_set hrow.out m (.int .u8 ((8 * n / 256 ^ 2 % 256 : Nat) : Int))
          rw [set_toArray, Hset.out] at e
          have ev : ((8 * n / 256 ^ 2 % 256 : Nat) : Int) = 8 * (n : Int) / 65536 % 256 := by
            show ((8 * n / 65536 % 256 : Nat) : Int) = _
            omega
          rw [ev] at e
          exact ⟨2 + 1, by omega, rfl, e, hbel.setCell (Nat.le_refl _) _⟩
        case measure => simp [intOf]
      · rw [show ((3 : Nat) : Int) = 3 from rfl] at hmi
        go_wp2_with fail
        go_roundw
        case rel =>
          have e := row_set hrow.out m (.int .u8 ((8 * n / 256 ^ 3 % 256 : Nat) : Int))
          rw [set_toArray, Hset.out] at e
          have ev : ((8 * n / 256 ^ 3 % 256 : Nat) : Int) = 8 * (n : Int) / 16777216 % 256 := by
            show ((8 * n / 16777216 % 256 : Nat) : Int) = _
            omega
          rw [ev] at e
          exact ⟨3 + 1, by omega, rfl, e, hbel.setCell (Nat.le_refl _) _⟩
        case measure => simp [intOf]
      · rw [show ((4 : Nat) : Int) = 4 from rfl] at hmi
        go_wp2_with fail
        go_roundw
        case rel =>
          have e := row_set hrow.out m (.int .u8 ((8 * n / 256 ^ 4 % 256 : Nat) : Int))
          rw [set_toArray, Hset.out] at e
          have ev : ((8 * n / 256 ^ 4 % 256 : Nat) : Int) = 8 * (n : Int) / 4294967296 % 256 := by
            show ((8 * n / 4294967296 % 256 : Nat) : Int) = _
            omega
          rw [ev] at e
          exact ⟨4 + 1, by omega, rfl, e, hbel.setCell (Nat.le_refl _) _⟩
        case measure => simp [intOf]
      · rw [show ((5 : Nat) : Int) = 5 from rfl] at hmi
        go_wp2_with fail
        go_roundw
        case rel =>
          have e := row_set hrow.out m (.int .u8 ((8 * n / 256 ^ 5 % 256 : Nat) : Int))
          rw [set_toArray, Hset.out] at e
          have ev : ((8 * n / 256 ^ 5 % 256 : Nat) : Int) = 8 * (n : Int) / 1099511627776 % 256 := by
            show ((8 * n / 1099511627776 % 256 : Nat) : Int) = _
            omega
          rw [ev] at e
          exact ⟨5 + 1, by omega, rfl, e, hbel.setCell (Nat.le_refl _) _⟩
        case measure => simp [intOf]
      · rw [show ((6 : Nat) : Int) = 6 from rfl] at hmi
        go_wp2_with fail
        go_roundw
        case rel =>
          have e := row_set hrow.out m (.int .u8 ((8 * n / 256 ^ 6 % 256 : Nat) : Int))
          rw [set_toArray, Hset.out] at e
          have ev : ((8 * n / 256 ^ 6 % 256 : Nat) : Int) = 8 * (n : Int) / 281474976710656 % 256 := by
            show ((8 * n / 281474976710656 % 256 : Nat) : Int) = _
            omega
          rw [ev] at e
          exact ⟨6 + 1, by omega, rfl, e, hbel.setCell (Nat.le_refl _) _⟩
        case measure => simp [intOf]
      · rw [show ((7 : Nat) : Int) = 7 from rfl] at hmi
        go_wp2_with fail
        go_roundw
        case rel =>
          have e := row_set hrow.out m (.int .u8 ((8 * n / 256 ^ 7 % 256 : Nat) : Int))
          rw [set_toArray, Hset.out] at e
          have ev : ((8 * n / 256 ^ 7 % 256 : Nat) : Int) = 8 * (n : Int) / 72057594037927936 := by
            show ((8 * n / 72057594037927936 % 256 : Nat) : Int) = _
            omega
          rw [ev] at e
          exact ⟨7 + 1, by omega, rfl, e, hbel.setCell (Nat.le_refl _) _⟩
        case measure => simp [intOf]
    · obtain rfl : k = 8 := by omega
      go_wp2
      go_ret
      refine ⟨w.heap.size, rfl, ?_⟩
      have e := hrow.out
      rw [part_end, ← pad_eq] at e
      have hl : (pad n).length = 9 + noughts n := by rw [pad_eq, List.length_append, length_bytesN, Hlz.out]; omega
      have := row_own e (Nat.le_refl _) (by rw [hl]; omega) hbel
      rw [hl] at this
      exact this
end Go.Proofs.Ytpeepohiajmhcaa.d
/-
  A digest in memory, and what writing to its cells makes of it.
-/
namespace Go.Proofs.Ytpeepohiajmhcaa.d
open Go.RowKit

def headD (h : St) : List Value := .bool true :: (stL h ++ kL.map uv)
theorem headD_len (h : St) : (headD h).length = 73 := by kernel_rfl
def digCells (h : St) (b : List UInt8) (n : Nat) : List Value := headD h ++ (b.map bv ++ [Value.int .i64 (n : Nat)])
/-- Block g is a digest with these numbers, this block, this size. -/
def DigAt (w : World) (g : Nat) (h : St) (b : List UInt8) (n : Nat) : Prop := b.length = 64 ∧ w.heap[g]? = some (.cells (digCells h b n).toArray 109 (0, 0))
/-- The digest of block g has the bytes l. -/
def Dig (w : World) (g : Nat) (l : List UInt8) : Prop :=
  ∃ b, DigAt w g (absN l (l.length / 64)) b l.length ∧ b.take (l.length % 64) = l.drop (64 * (l.length / 64))

theorem digCells_len (h : St) (b : List UInt8) (n : Nat) (hb : b.length = 64) : (digCells h b n).length = 138 := by simp [digCells, headD_len, hb]
theorem digCells_at (h : St) (b : List UInt8) (n j : Nat) : (digCells h b n)[73 + j]? = (b.map bv ++ [Value.int .i64 (n : Nat)])[j]? := by
  unfold digCells
  rw [List.getElem?_append_right (by rw [headD_len]; omega), headD_len, Nat.add_sub_cancel_left]
theorem digCells_low (h : St) (b : List UInt8) (n j : Nat) (hj : j < 73) : (digCells h b n)[j]? = (headD h)[j]? := by
  unfold digCells
  rw [List.getElem?_append_left (by rw [headD_len]; exact hj)]
theorem DigAt.cell {w : World} {g : Nat} {h : St} {b : List UInt8} {n : Nat} (d : DigAt w g h b n) (j : Nat) : w.cell? ⟨g, j, none⟩ = (digCells h b n)[j]? := by
  rw [row_cell d.2 j]; simp
theorem DigAt.free {w : World} {g : Nat} {h : St} {b : List UInt8} {n : Nat} (d : DigAt w g h b n) (j : Nat) : w.frozen? ⟨g, j, none⟩ = false := row_free d.2 j
theorem DigAt.lt {w : World} {g : Nat} {h : St} {b : List UInt8} {n : Nat} (d : DigAt w g h b n) : g < w.heap.size := by
  rcases Nat.lt_or_ge g w.heap.size with hlt | hge
  · exact hlt
  · have := d.2; rw [Array.getElem?_eq_none hge] at this; cases this
theorem DigAt.made {w : World} {g : Nat} {h : St} {b : List UInt8} {n : Nat} (d : DigAt w g h b n) : w.cell? ⟨g, 0, none⟩ = some (.bool true) := (d.cell 0).trans ((digCells_low h b n 0 (by omega)).trans rfl)
theorem DigAt.h0 {w : World} {g : Nat} {h : St} {b : List UInt8} {n : Nat} (d : DigAt w g h b n) : w.cell? ⟨g, 1, none⟩ = some (.int .u32 (h.a : Nat)) := (d.cell 1).trans ((digCells_low h b n 1 (by omega)).trans rfl)
theorem DigAt.h1 {w : World} {g : Nat} {h : St} {b : List UInt8} {n : Nat} (d : DigAt w g h b n) : w.cell? ⟨g, 2, none⟩ = some (.int .u32 (h.b : Nat)) := (d.cell 2).trans ((digCells_low h b n 2 (by omega)).trans rfl)
theorem DigAt.h2 {w : World} {g : Nat} {h : St} {b : List UInt8} {n : Nat} (d : DigAt w g h b n) : w.cell? ⟨g, 3, none⟩ = some (.int .u32 (h.c : Nat)) := (d.cell 3).trans ((digCells_low h b n 3 (by omega)).trans rfl)
theorem DigAt.h3 {w : World} {g : Nat} {h : St} {b : List UInt8} {n : Nat} (d : DigAt w g h b n) : w.cell? ⟨g, 4, none⟩ = some (.int .u32 (h.d : Nat)) := (d.cell 4).trans ((digCells_low h b n 4 (by omega)).trans rfl)
theorem DigAt.h4 {w : World} {g : Nat} {h : St} {b : List UInt8} {n : Nat} (d : DigAt w g h b n) : w.cell? ⟨g, 5, none⟩ = some (.int .u32 (h.e : Nat)) := (d.cell 5).trans ((digCells_low h b n 5 (by omega)).trans rfl)
theorem DigAt.h5 {w : World} {g : Nat} {h : St} {b : List UInt8} {n : Nat} (d : DigAt w g h b n) : w.cell? ⟨g, 6, none⟩ = some (.int .u32 (h.f : Nat)) := (d.cell 6).trans ((digCells_low h b n 6 (by omega)).trans rfl)
theorem DigAt.h6 {w : World} {g : Nat} {h : St} {b : List UInt8} {n : Nat} (d : DigAt w g h b n) : w.cell? ⟨g, 7, none⟩ = some (.int .u32 (h.g : Nat)) := (d.cell 7).trans ((digCells_low h b n 7 (by omega)).trans rfl)
theorem DigAt.h7 {w : World} {g : Nat} {h : St} {b : List UInt8} {n : Nat} (d : DigAt w g h b n) : w.cell? ⟨g, 8, none⟩ = some (.int .u32 (h.h : Nat)) := (d.cell 8).trans ((digCells_low h b n 8 (by omega)).trans rfl)
theorem DigAt.kc {w : World} {g : Nat} {h : St} {b : List UInt8} {n : Nat} (d : DigAt w g h b n) (j : Nat) (hj : j < 64) : w.cell? ⟨g, 9 + j, none⟩ = some (.int .u32 (kN j : Nat)) := by
  rw [d.cell, digCells_low _ _ _ _ (by omega)]
  have e : (headD h)[9 + j]? = (kL.map uv)[j]? := by
    rw [Nat.add_comm 9 j]; rfl
  have hl : kL.length = 64 := by kernel_rfl
  rw [e, List.getElem?_map, List.getElem?_eq_getElem (by omega)]
  unfold kN
  rw [List.getD_eq_getElem?_getD, List.getElem?_eq_getElem (by omega)]
  rfl
theorem DigAt.size {w : World} {g : Nat} {h : St} {b : List UInt8} {n : Nat} (d : DigAt w g h b n) : w.cell? ⟨g, 137, none⟩ = some (.int .i64 (n : Nat)) := by
  rw [d.cell 137, digCells_at h b n 64, List.getElem?_append_right (by simp [d.1])]
  simp [d.1]
theorem DigAt.byte {w : World} {g : Nat} {h : St} {b : List UInt8} {n : Nat} (d : DigAt w g h b n) (j : Nat) (hj : j < b.length) : w.cell? ⟨g, 73 + j, none⟩ = some (bv b[j]) := by
  rw [d.cell, digCells_at, List.getElem?_append_left (by simpa using hj)]
  simp [hj]
theorem DigAt.to {w w' : World} {g : Nat} {h : St} {b : List UInt8} {n : Nat} (d : DigAt w g h b n) (e : w'.heap[g]? = w.heap[g]?) : DigAt w' g h b n := ⟨d.1, e.trans d.2⟩
theorem Dig.to {w w' : World} {g : Nat} {l : List UInt8} (d : Dig w g l) (e : w'.heap[g]? = w.heap[g]?) : Dig w' g l := by
  obtain ⟨b, h1, h2⟩ := d
  exact ⟨b, h1.to e, h2⟩
theorem Dig.lt {w : World} {g : Nat} {l : List UInt8} (d : Dig w g l) : g < w.heap.size := by
  obtain ⟨b, h1, _⟩ := d
  exact h1.lt

theorem dig_size (h : St) (b : List UInt8) (n m : Nat) (hb : b.length = 64) : (digCells h b n).set 137 (.int .i64 (m : Nat)) = digCells h b m := by
  unfold digCells
  rw [List.set_append_right _ _ (by rw [headD_len]; omega), headD_len, List.set_append_right _ _ (by simp [hb])]
  simp [hb]
theorem DigAt.setSize {w : World} {g : Nat} {h : St} {b : List UInt8} {n : Nat} (d : DigAt w g h b n) (m : Nat) : DigAt (w.setCell ⟨g, 137, none⟩ (.int .i64 (m : Nat))) g h b m :=
  ⟨d.1, by rw [row_set d.2 137 _, set_toArray, dig_size h b n m d.1]⟩
theorem DigAt.setH {w : World} {g : Nat} {h : St} {b : List UInt8} {n : Nat} (d : DigAt w g h b n) (s : St) :
    DigAt ((((((((w.setCell ⟨g, 1, none⟩ (.int .u32 (s.a : Nat))).setCell ⟨g, 2, none⟩ (.int .u32 (s.b : Nat))).setCell ⟨g, 3, none⟩ (.int .u32 (s.c : Nat))).setCell ⟨g, 4, none⟩ (.int .u32 (s.d : Nat))).setCell ⟨g, 5, none⟩ (.int .u32 (s.e : Nat))).setCell ⟨g, 6, none⟩ (.int .u32 (s.f : Nat))).setCell ⟨g, 7, none⟩ (.int .u32 (s.g : Nat))).setCell ⟨g, 8, none⟩ (.int .u32 (s.h : Nat))) g s b n :=
  ⟨d.1, by
    rw [row_set (row_set (row_set (row_set (row_set (row_set (row_set (row_set d.2 1 _) 2 _) 3 _) 4 _) 5 _) 6 _) 7 _) 8 _]
    simp only [set_toArray]
    rfl⟩
theorem dig_splice (h : St) (b x : List UInt8) (n r : Nat) (hb : b.length = 64) (hr : r + x.length ≤ 64) :
    (digCells h b n).take (73 + r) ++ (x.map bv ++ (digCells h b n).drop (73 + r + (x.map bv).length)) = digCells h (b.take r ++ (x ++ b.drop (r + x.length))) n := by
  have e1 : (digCells h b n).take (73 + r) = headD h ++ (b.map bv ++ [Value.int .i64 (n : Nat)]).take r := by
    unfold digCells
    rw [List.take_append, headD_len, List.take_of_length_le (by rw [headD_len]; omega), Nat.add_sub_cancel_left]
  have e2 : (digCells h b n).drop (73 + r + (x.map bv).length) = (b.map bv ++ [Value.int .i64 (n : Nat)]).drop (r + x.length) := by
    unfold digCells
    rw [List.length_map, List.drop_append, headD_len, List.drop_of_length_le (by rw [headD_len]; omega), List.nil_append, show 73 + r + x.length - 73 = r + x.length by omega]
  rw [e1, e2, List.take_append_of_le_length (by simp [hb]; omega), List.drop_append_of_le_length (by simp [hb]; omega)]
  simp [digCells]
theorem grownBy_setRow (w : World) (g : Nat) (cs : Array Value) : w.grownBy (w.setRow g cs) (some g) :=
  ⟨rfl, rfl, rfl, by simp, fun k _ hne => setRow_other w g k cs (fun e => hne (by rw [e]))⟩
theorem grownBy_setCell (w : World) (g i : Nat) (v : Value) : w.grownBy (w.setCell ⟨g, i, none⟩ v) (some g) :=
  ⟨rfl, rfl, rfl, by simp, fun k _ hne => heap_setCell_other _ _ _ _ (fun e => hne (by rw [e]))⟩
theorem grown_trans {a b c : World} {row : Option Nat} (h : a.grownBy b row) (k : b.grownBy c row) : a.grownBy c row :=
  ⟨k.os.trans h.os, k.tape.trans h.tape, k.output.trans h.output, Nat.le_trans h.size k.size, fun i hi hne => (k.block i (Nat.lt_of_lt_of_le hi h.size) hne).trans (h.block i hi hne)⟩
theorem grown_below {a b : World} (row : Option Nat) (h : Below a.heap.size a b) : a.grownBy b row := ⟨h.os, h.tape, h.output, h.size, fun i hi _ => h.block i hi⟩
theorem grown_drew (a : World) (row : Option Nat) : a.grownBy a.drew row := ⟨rfl, rfl, rfl, Nat.le_refl _, fun _ _ _ => rfl⟩

/-- A cut of a slice, wherever its address comes to lie. -/
theorem slice_from {w : World} {A : Option Addr} {n c : Nat} {l : List UInt8} (h : IsB w A n c l) (k : Nat) (hk : k ≤ n) :
    ∃ A', (∀ w' : World, (Instr.slice 29 (.slice A n c) (some (.int .i64 (k : Nat))) none none).run Try.prog w' = .ok (.slice A' (n - k) (c - k)) w') ∧ IsB w A' (n - k) (c - k) (l.drop k) ∧
      (0 < (l.drop k).length → ∀ ad', A' = some ad' → ∃ ad, A = some ad ∧ ad'.block = ad.block) := by
  have hc := h.cap
  have hlen := h.len
  refine ⟨if c = k then A else A.map (·.add (k * 1)), fun w' => ?_, ⟨by rw [List.length_drop, hlen], by omega, by have := h.max; omega, by have := h.small; omega, fun hp => ?_⟩, fun hp ad' e => ?_⟩
  · have hs : (sizeOf (Try.prog.elem 29)).run Try.prog w' = .ok 1 w' := by kernel_rfl
    rw [run_slice_l (ht := by kernel_rfl) (h0 := by omega) (h1 := by omega), hs]
    simp [Result.andThen, sliced]
  · rw [List.length_drop, hlen] at hp
    obtain ⟨ad, e, hr⟩ := h.lies (by omega)
    subst e
    rw [if_neg (by omega)]
    refine ⟨_, rfl, fun j hj => ?_⟩
    rw [List.length_drop] at hj
    rw [Nat.mul_one, add_of_add, hr (k + j) (by omega)]
    simp
  · rw [List.length_drop, hlen] at hp
    obtain ⟨ad, e2, _⟩ := h.lies (by omega)
    subst e2
    rw [if_neg (by omega)] at e
    cases e
    exact ⟨ad, rfl, block_of_add _ _⟩
end Go.Proofs.Ytpeepohiajmhcaa.d
/-
  The contract of (*Digest).Write.
-/
namespace Go.Proofs.Ytpeepohiajmhcaa.d
open Go.RowKit

def lenV : Value → Nat | .slice _ n _ => n | _ => 0
/-- The rest of a slice that came in, apart from block g. -/
def Rest (wr : World) (g B : Nat) (A : Option Addr) (n c : Nat) (l : List UInt8) : Prop := IsB wr A n c l ∧ (0 < l.length → ∀ ad, A = some ad → ad.block ≠ g ∧ ad.block < B)
theorem slice36r (g r : Nat) (hr : r < 64) (w : World) : (Instr.sliceAt 89 (.pointer (some ⟨g, 73, none⟩)) (some (.int .i64 (r : Int))) none none).run Try.prog w = .ok (.slice (some ⟨g, 73 + r, none⟩) (64 - r) (64 - r)) w := by
  have hs : (sizeOf (Try.prog.elem 89)).run Try.prog w = .ok 1 w := by kernel_rfl
  have hl : Try.prog.arrayLen 89 = 64 := by kernel_rfl
  rw [run_sliceAt_array_l w 89 ⟨g, 73, none⟩ (by kernel_rfl) .i64 (r : Int) (by omega) (by rw [hl]; omega), hs, hl]
  have e1 : (r : Int).toNat = r := by omega
  simp only [Result.andThen, slicedAt, e1, Nat.mul_one]
  rw [if_neg (by omega)]
  cases r with
  | zero => rfl
  | succ k => rfl

theorem _root_.Go.Proofs.Ytpeepohiajmhcaa.IsB.grown {w w' : World} {row : Option Nat} {ad : Addr} {n c : Nat} {l : List UInt8} (h : IsB w (some ad) n c l) (hg : w.grownBy w' row) (hne : some ad.block ≠ row) : IsB w' (some ad) n c l :=
  ⟨h.len, h.cap, h.max, h.small, fun hp => by
    obtain ⟨ad', e, hc⟩ := h.lies hp
    cases e
    exact ⟨ad, rfl, fun j hj => hg.cell (hc j hj) (by rw [block_of_add]; exact hne)⟩⟩
theorem Rest.grown {w w' : World} {g B : Nat} {A : Option Addr} {n c : Nat} {l : List UInt8} (h : Rest w g B A n c l) (hg : w.grownBy w' (some g)) : Rest w' g B A n c l :=
  ⟨⟨h.1.len, h.1.cap, h.1.max, h.1.small, fun hp => by
    obtain ⟨ad, e, hc⟩ := h.1.lies hp
    obtain ⟨h1, _⟩ := h.2 hp ad e
    exact ⟨ad, e, fun j hj => hg.cell (hc j hj) (by rw [block_of_add]; intro e; cases e; exact h1 rfl)⟩⟩, h.2⟩
theorem Rest.cut {w : World} {g B : Nat} {A A' : Option Addr} {n c k : Nat} {l : List UInt8} (h : Rest w g B A n c l) (hi : IsB w A' (n - k) (c - k) (l.drop k))
    (ha : 0 < (l.drop k).length → ∀ ad', A' = some ad' → ∃ ad, A = some ad ∧ ad'.block = ad.block) : Rest w g B A' (n - k) (c - k) (l.drop k) :=
  ⟨hi, fun hp ad' e => by
    obtain ⟨ad, e2, e3⟩ := ha hp ad' e
    have := h.2 (by rw [List.length_drop] at hp; omega) ad e2
    rw [e3]; exact this⟩
theorem dig_next_full {W : World} {g : Nat} (L x b : List UInt8) (hb : b.length = 64) (ht : b.take (L.length % 64) = L.drop (64 * (L.length / 64))) (h : L.length % 64 + x.length = 64)
    (d : DigAt W g (uponS (b.take (L.length % 64) ++ (x ++ b.drop (L.length % 64 + x.length))) (absN L (L.length / 64))) (b.take (L.length % 64) ++ (x ++ b.drop (L.length % 64 + x.length))) (L.length + x.length)) : Dig W g (L ++ x) := by
  obtain ⟨e1, e2⟩ := dig_full L x b hb ht h
  refine ⟨_, ?_, e2⟩
  rw [e1, List.length_append]
  exact d
theorem dig_next_part {W : World} {g : Nat} (L x b : List UInt8) (hb : b.length = 64) (ht : b.take (L.length % 64) = L.drop (64 * (L.length / 64))) (h : L.length % 64 + x.length < 64)
    (d : DigAt W g (absN L (L.length / 64)) (b.take (L.length % 64) ++ (x ++ b.drop (L.length % 64 + x.length))) (L.length + x.length)) : Dig W g (L ++ x) := by
  obtain ⟨e1, e2⟩ := dig_part L x b hb ht h
  refine ⟨_, ?_, e2⟩
  rw [e1, List.length_append]
  exact d
theorem upon_at (s h : St) (hh : h.ok) (l : List UInt8) (hs : s = uponS l h) (kb ko pb po : Nat) (w : World) (hl : l.length = 64)
    (hk : ∀ j, j < 64 → w.cell? ⟨kb, ko + j, none⟩ = some (.int .u32 (kN j : Nat))) (hkb : kb < w.heap.size)
    (hb : ∀ j (hj : j < l.length), w.cell? ⟨pb, po + j, none⟩ = some (bv l[j])) (hp : pb < w.heap.size) :
    Calls Try.prog 77 #[.agg #[.int .u32 (h.a : Nat), .int .u32 (h.b : Nat), .int .u32 (h.c : Nat), .int .u32 (h.d : Nat), .int .u32 (h.e : Nat), .int .u32 (h.f : Nat), .int .u32 (h.g : Nat), .int .u32 (h.h : Nat)], .pointer (some ⟨kb, ko, none⟩), .pointer (some ⟨pb, po, none⟩)] w fun e w' => e = .returned (.agg #[.int .u32 (s.a : Nat), .int .u32 (s.b : Nat), .int .u32 (s.c : Nat), .int .u32 (s.d : Nat), .int .u32 (s.e : Nat), .int .u32 (s.f : Nat), .int .u32 (s.g : Nat), .int .u32 (s.h : Nat)]) ∧ Below w.heap.size w w' := by
  subst hs; exact upon_any h hh l kb ko pb po w hl hk hkb hb hp
theorem take_take_drop (l : List UInt8) (j k : Nat) : l.take j ++ (l.drop j).take k = l.take (j + k) := by
  rw [List.take_add]

set_option maxRecDepth 100000 in
set_option maxHeartbeats 2000000 in
theorem Write_any (g : Nat) (l l2 : List UInt8) (A : Option Addr) (n c : Nat) (w : World) (hd : Dig w g l) (hb : Rest w g w.heap.size A n c l2) (hs : l.length + n < 1000000000000000) :
    Calls Try.prog 71 #[.pointer (some ⟨g, 0, none⟩), .slice A n c] w fun e w' => e = .returned (.int .i64 0) ∧ Dig w' g (l ++ l2) ∧ w.grownBy w' (some g) := by
  have hlen := hid hb.1.len
  have hm0 : w.cell? ⟨g, 0, none⟩ = some (.bool true) := by obtain ⟨b, h1, _⟩ := hd; exact h1.made
  go_enter Try.func71, Try.ntmps71
  go_wp2_with fail
  go_loopw [1] (fun s wr => ∃ (j : Nat) (A' : Option Addr) (c' : Nat), j ≤ n ∧ s = .slice A' (n - j) c' ∧ Rest wr g w.heap.size A' (n - j) c' (l2.drop j) ∧ Dig wr g (l ++ l2.take j) ∧ w.grownBy wr (some g)) (fun s _ => lenV s)
  case atStart => exact ⟨0, A, c, Nat.zero_le _, rfl, by simpa using hb, by simpa using hd, World.grownBy.refl w _⟩
  case round =>
    obtain ⟨j, A', c', hj, rfl, hR, hD, hG⟩ := hrel
    by_cases hlt : j < n
    · obtain ⟨b, hD1, hD2⟩ := hD
      have hL : (l ++ l2.take j).length = l.length + j := by rw [List.length_append, List.length_take, hlen.out]; omega
      obtain ⟨L, hLd⟩ : ∃ L, L = l ++ l2.take j := ⟨_, rfl⟩
      rw [← hLd] at hD1 hD2 hL
      obtain ⟨N, hN⟩ : ∃ N, N = L.length := ⟨_, rfl⟩
      rw [← hN] at hD1 hD2
      obtain ⟨nn, hnn⟩ : ∃ nn, nn = min (64 - N % 64) (n - j) := ⟨_, rfl⟩
      have hsz := hD1.size
      have hr : N % 64 < 64 := Nat.mod_lt _ (by omega)
      have hNz : (N : Int) ≤ 1000000000000000 := by omega
      obtain ⟨r, hrr⟩ : ∃ r, r = N % 64 := ⟨_, rfl⟩
      have q1 : Int.tmod (N : Int) 64 = (r : Int) := by rw [Int.tmod_eq_emod_of_nonneg (by omega)]; omega
      have q2 : (N : Int) % 64 = (r : Int) := by omega
      have hr0 : r < 64 := by omega
      have hrz : (r : Int) < 64 := by omega
      have hsl := slice36r g r hr0
      have hpos : (0 : Int) < ((n - j : Nat) : Int) := by omega
      obtain ⟨m, hm⟩ : ∃ m, m = n - j := ⟨_, rfl⟩
      rw [← hm] at hR hnn hpos ⊢
      have Hh := hid (And.intro hLd (And.intro hN (And.intro hnn (And.intro hm (And.intro hL hrr)))))
      have HD2 := hid hD2
      have HR := hid hR
      have HD1 := hid hD1
      have HG := hid hG
      clear hLd hN hnn hm hL hrr hr hr0 hD2 hR hD1 hG hd hb hs
      obtain ⟨ad, rfl, ha⟩ := HR.out.1.lies (by have := HR.out.1.len; omega)
      have Ha := hid ha
      obtain ⟨A2, hA2, hI2, hb2⟩ := slice_from HR.out.1 nn (by have := Hh.out.2.2.1; omega)
      have HA2 := hid (And.intro hI2 hb2)
      have hnz : (nn : Int) ≤ 64 := by have := Hh.out.2.2.1; omega
      have hnm : (nn : Int) ≤ m := by have := Hh.out.2.2.1; omega
      obtain ⟨x, hx⟩ : ∃ x, x = ((l2.drop j).take nn) := ⟨_, rfl⟩
      have hxl : x.length = nn := by rw [hx, List.length_take]; have := Hh.out.2.2.1; have := HR.out.1.len; omega
      have Hx := hid (And.intro hx hxl)
      clear ha hI2 hb2 hx hxl
      go_wp2_with fail
      go_still_tail 10, (by kernel_rfl)
      change wpList _ _ _ _ _ wr.drew
      refine wpList_copy_own rfl (.tmp 26) (.tmp 27) 29 29 rfl 5 Try.underlying29 Try.size5 g (73 + r) (64 - r) (64 - r) ad m c' rfl rfl (digCells (absN L (N / 64)) b N).toArray 109 HD1.out.2 (x.map bv) ?c1 ?c2 ?c3 (bv_one x) ?_
      case c1 => rw [List.length_map, Hx.out.2]; have := Hh.out; show nn = min m (64 - r); omega
      case c2 =>
        intro i v hv
        obtain ⟨hx1, hx2⟩ := Hx.out
        have hi : i < x.length := by have := (List.getElem?_eq_some_iff.1 hv).1; simpa using this
        rw [map_bv_getElem? x i hi] at hv
        cases hv
        have hi2 : i < (l2.drop j).length := by rw [hx1, List.length_take] at hi; omega
        have e : x[i] = (l2.drop j)[i] := by subst hx1; simp
        rw [e]
        exact Ha.out i hi2
      case c3 => rw [List.length_map, Hx.out.2]; have := digCells_len (absN L (N / 64)) b N HD1.out.1; have := Hh.out; simp only [List.size_toArray]; omega
      have HD3 : DigAt (wr.drew.setRow g ((digCells (absN L (N / 64)) b N).toArray.toList.take (73 + r) ++ (x.map bv ++ (digCells (absN L (N / 64)) b N).toArray.toList.drop (73 + r + (x.map bv).length))).toArray) g (absN L (N / 64)) (b.take r ++ (x ++ b.drop (r + x.length))) N := by
        have e := setRow_heap wr.drew g _ ((digCells (absN L (N / 64)) b N).toArray.toList.take (73 + r) ++ (x.map bv ++ (digCells (absN L (N / 64)) b N).toArray.toList.drop (73 + r + (x.map bv).length))).toArray 109 (0, 0) HD1.out.2
        have hh := Hh.out
        have hx2 := Hx.out.2
        refine ⟨?_, e.trans ?_⟩
        · rw [List.length_append, List.length_append, List.length_take, List.length_drop, HD1.out.1]; omega
        · rw [List.toList_toArray, dig_splice _ b x N r HD1.out.1 (by omega)]
      have HG3 : wr.grownBy (wr.drew.setRow g ((digCells (absN L (N / 64)) b N).toArray.toList.take (73 + r) ++ (x.map bv ++ (digCells (absN L (N / 64)) b N).toArray.toList.drop (73 + r + (x.map bv).length))).toArray) (some g) := grown_trans (grown_drew _ _) (grownBy_setRow _ _ _)
      generalize (wr.drew.setRow g ((digCells (absN L (N / 64)) b N).toArray.toList.take (73 + r) ++ (x.map bv ++ (digCells (absN L (N / 64)) b N).toArray.toList.drop (73 + r + (x.map bv).length))).toArray) = W1 at HD3 HG3 ⊢
      rw [show (x.map bv).length = nn by rw [List.length_map, Hx.out.2]]
      have hsz3 := HD3.size
      have hfz3 := HD3.free 137
      have H3 := hid (And.intro HD3 HG3)
      clear HD3 HG3 hsz hsl
      by_cases hful : r + nn = 64
      · have hdec : (((N : Int) + (nn : Int)) % 64 == 0) = true := by have := Hh.out; rw [beq_iff_eq]; omega
        go_wp2_with fail
        have D4 : DigAt (W1.setCell ⟨g, 137, none⟩ (.int .i64 ((N : Int) + nn))) g (absN L (N / 64)) (b.take r ++ (x ++ b.drop (r + x.length))) (N + nn) := H3.out.1.setSize (N + nn)
        have G4 : wr.grownBy (W1.setCell ⟨g, 137, none⟩ (.int .i64 ((N : Int) + nn))) (some g) := grown_trans H3.out.2 (grownBy_setCell _ _ _ _)
        generalize W1.setCell ⟨g, 137, none⟩ (.int .i64 ((N : Int) + nn)) = W2 at D4 G4 ⊢
        clear hsz3 hfz3 H3 hdec
        have hok := absN_ok L (N / 64)
        obtain ⟨b2, hb2e⟩ : ∃ b2, b2 = b.take r ++ (x ++ b.drop (r + x.length)) := ⟨_, rfl⟩
        rw [← hb2e] at D4
        obtain ⟨h0, hh0⟩ : ∃ h0, h0 = absN L (N / 64) := ⟨_, rfl⟩
        rw [← hh0] at D4 hok
        obtain ⟨s, hs⟩ : ∃ s, s = uponS b2 h0 := ⟨_, rfl⟩
        have He := hid (And.intro hb2e (And.intro hh0 hs))
        clear hb2e hh0 hs
        have k1 := D4.h0
        have k2 := D4.h1
        have k3 := D4.h2
        have k4 := D4.h3
        have k5 := D4.h4
        have k6 := D4.h5
        have k7 := D4.h6
        have k8 := D4.h7
        have D4d : DigAt W2.drew g h0 b2 (N + nn) := D4
        have HD4 := hid D4d
        clear D4d
        have HG4 := hid G4
        clear D4 G4
        go_region_with (go_at_call 77; refine (upon_at s h0 hok b2 He.out.2.2 g 9 g 73 W2.drew HD4.out.1 HD4.out.kc HD4.out.lt (fun j hj => HD4.out.byte j hj) HD4.out.lt).mono ?_; rintro e w5 ⟨rfl, hbel⟩; have HB := hid hbel; have D5 : DigAt w5 g h0 b2 (N + nn) := (HD4.out.to (HB.out.block g HD4.out.lt)); have j1 := D5.h0; have f1 := D5.free 1; have j2 := D5.h1; have f2 := D5.free 2; have j3 := D5.h2; have f3 := D5.free 3; have j4 := D5.h3; have f4 := D5.free 4; have j5 := D5.h4; have f5 := D5.free 5; have j6 := D5.h5; have f6 := D5.free 6; have j7 := D5.h6; have f7 := D5.free 7; have j8 := D5.h7; have f8 := D5.free 8; have HD5 := hid D5; clear hbel D5)
        all_goals
          go_wp2
          go_roundw
          case rel =>
            obtain ⟨hL, hN, hnn, hm, hLl, hrr⟩ := Hh.out
            obtain ⟨e1, e2, e3⟩ := He.out
            have D := HD5.out.setH s
            have GG : wr.grownBy ((((((((w5.setCell ⟨g, 1, none⟩ (.int .u32 (s.a : Nat))).setCell ⟨g, 2, none⟩ (.int .u32 (s.b : Nat))).setCell ⟨g, 3, none⟩ (.int .u32 (s.c : Nat))).setCell ⟨g, 4, none⟩ (.int .u32 (s.d : Nat))).setCell ⟨g, 5, none⟩ (.int .u32 (s.e : Nat))).setCell ⟨g, 6, none⟩ (.int .u32 (s.f : Nat))).setCell ⟨g, 7, none⟩ (.int .u32 (s.g : Nat))).setCell ⟨g, 8, none⟩ (.int .u32 (s.h : Nat))) (some g) :=
              grown_trans (grown_trans (grown_trans (grown_trans (grown_trans (grown_trans (grown_trans (grown_trans (grown_trans HG4.out (grown_trans (grown_drew _ _) (grown_below (some g) HB.out))) (grownBy_setCell _ _ _ _)) (grownBy_setCell _ _ _ _)) (grownBy_setCell _ _ _ _)) (grownBy_setCell _ _ _ _)) (grownBy_setCell _ _ _ _)) (grownBy_setCell _ _ _ _)) (grownBy_setCell _ _ _ _)) (grownBy_setCell _ _ _ _)
            refine ⟨j + nn, A2, c' - nn, by omega, by rw [show n - (j + nn) = m - nn by omega], ?_, ?_, ?_⟩
            · rw [show n - (j + nn) = m - nn by omega, ← List.drop_drop]
              exact (HR.out.cut HA2.out.1 HA2.out.2).grown GG
            · rw [← take_take_drop, ← List.append_assoc, ← hL, ← Hx.out.1]
              have ht := HD2.out
              rw [hN] at ht
              refine dig_next_full L x b HD1.out.1 ht (by rw [← hN, ← hrr, Hx.out.2]; exact hful) ?_
              rw [← hN, ← hrr, ← e1, ← e2, ← e3, Hx.out.2]
              exact D
            · exact grown_trans HG.out GG
          case measure => show m - nn < m; have := Hh.out.2.2.1; omega
      · have hdec : (((N : Int) + (nn : Int)) % 64 == 0) = false := by have := Hh.out; rw [beq_eq_false_iff_ne]; omega
        go_wp2_with fail
        go_roundw
        case rel =>
          obtain ⟨hL, hN, hnn, hm, hLl, hrr⟩ := Hh.out
          have hlt2 : L.length % 64 + x.length < 64 := by rw [← hN, ← hrr, Hx.out.2]; omega
          have D := H3.out.1.setSize (N + nn)
          refine ⟨j + nn, A2, c' - nn, by omega, by rw [show n - (j + nn) = m - nn by omega], ?_, ?_, ?_⟩
          · rw [show n - (j + nn) = m - nn by omega, ← List.drop_drop]
            exact (HR.out.cut HA2.out.1 HA2.out.2).grown (grown_trans H3.out.2 (grownBy_setCell _ _ _ _))
          · rw [← take_take_drop, ← List.append_assoc, ← hL, ← Hx.out.1]
            have ht := HD2.out
            rw [hN] at ht
            refine dig_next_part L x b HD1.out.1 ht hlt2 ?_
            rw [← hN, ← hrr, Hx.out.2]
            rw [Hx.out.2] at D
            exact D
          · exact grown_trans HG.out (grown_trans H3.out.2 (grownBy_setCell _ _ _ _))
        case measure => show m - nn < m; have := Hh.out.2.2.1; omega
    · obtain rfl : j = n := by omega
      go_wp2
      go_ret
      refine ⟨rfl, ?_, hG⟩
      rw [List.take_of_length_le (by rw [hlen.out]; omega)] at hD
      exact hD
end Go.Proofs.Ytpeepohiajmhcaa.d
/-
  The contracts of New and Len, and what Sum needs.
-/
namespace Go.Proofs.Ytpeepohiajmhcaa.d
open Go.RowKit

theorem Dig.at {w : World} {g : Nat} {l : List UInt8} (d : Dig w g l) : ∃ b, DigAt w g (absN l (l.length / 64)) b l.length := by
  obtain ⟨b, h, _⟩ := d; exact ⟨b, h⟩

theorem kx64 : (Try.prog.info? 105).map (·.size) = some (kL.map uv).toArray.size := by kernel_rfl
theorem kz64 : z64.size = (kL.map uv).toArray.size := by kernel_rfl
theorem ko64 : (kL.map uv).toArray.all (·.oneCell') = true := by kernel_rfl
theorem hx8 : (Try.prog.info? 104).map (·.size) = some (hL.map uv).toArray.size := by kernel_rfl
theorem hz8 : z8.size = (hL.map uv).toArray.size := by kernel_rfl
theorem ho8 : (hL.map uv).toArray.all (·.oneCell') = true := by kernel_rfl
theorem new_r1 (W : World) (X : List Value) : (((W.alloc (.cells z8 104)).alloc (.cells z64 105)).setRow W.heap.size X.toArray).heap[W.heap.size + 1]? = some (.cells z64 105 (0, 0)) := by
  rw [setRow_other _ _ _ _ (by omega)]; exact heap_alloc2_new W _ _
theorem new_r2 (W : World) (X Y : List Value) : ((((W.alloc (.cells z8 104)).alloc (.cells z64 105)).setRow W.heap.size X.toArray).setRow (W.heap.size + 1) Y.toArray).heap[W.heap.size]? = some (.cells X.toArray 104 (0, 0)) := by
  rw [setRow_other _ _ _ _ (by omega)]; exact setRow_heap _ _ _ _ _ _ (heap_alloc2_old W _ _)
theorem new_r3 (W : World) (X Y : List Value) : ((((W.alloc (.cells z8 104)).alloc (.cells z64 105)).setRow W.heap.size X.toArray).setRow (W.heap.size + 1) Y.toArray).heap[W.heap.size + 1]? = some (.cells Y.toArray 105 (0, 0)) :=
  setRow_heap _ _ _ _ _ _ (new_r1 W X)
theorem new_r4 (W : World) (X Y : List Value) : Below W.heap.size W ((((W.alloc (.cells z8 104)).alloc (.cells z64 105)).setRow W.heap.size X.toArray).setRow (W.heap.size + 1) Y.toArray) := by
  have q := (Below.refl W.heap.size W).alloc (Nat.le_refl _) (.cells z8 104)
  exact below_setRow (below_setRow (q.alloc q.size _) (Nat.le_refl _) _) (Nat.le_succ _) _
def AggAt (w : World) (g t : Nat) (X : List Value) : Prop := w.heap[g]? = some (.cells X.toArray t (0, 0))
set_option maxRecDepth 10000 in
set_option maxHeartbeats 1000000 in
theorem New_any (w : World) : Calls Try.prog 70 #[] w fun e w' => ∃ g, e = .returned (.pointer (some ⟨g, 0, none⟩)) ∧ Dig w' g [] ∧ Below w.heap.size w w' ∧ w.heap.size ≤ g := by
  have zv := zero35
  have zw := zero34
  have hx := hx8
  have kx := kx64
  obtain ⟨X, hX⟩ : ∃ X, X = hL.map uv := ⟨_, rfl⟩
  obtain ⟨Y, hY⟩ : ∃ Y, Y = kL.map uv := ⟨_, rfl⟩
  have zs8 := hz8
  have zs64 := kz64
  have o8 := ho8
  have o64 := ko64
  have hn := fun w => numbers_any w
  rw [← hX] at hx zs8 o8 hn
  rw [← hY] at kx zs64 o64 hn
  have HX := hid (And.intro hX hY)
  clear hX hY
  go_enter Try.func70, Try.ntmps70
  go_upto_region 2 with (first
    | (go_at_call 76; refine (hn _).mono ?_; rintro e W1 ⟨rfl, hb1⟩)
    | (refine wpList_store_row (o := ⟨none, .store 104 (.tmp 1) (.tmp 5), _, _, _, _⟩) rfl 104 (.tmp 1) (.tmp 5) rfl W1.heap.size X.toArray rfl rfl 104 z8 (heap_alloc2_old W1 _ _) hx zs8 o8 ?_)
    | (refine wpList_store_row (o := ⟨none, .store 105 (.tmp 2) (.tmp 6), _, _, _, _⟩) rfl 105 (.tmp 2) (.tmp 6) rfl (W1.heap.size + 1) Y.toArray rfl rfl 105 z64 (new_r1 W1 X) kx zs64 o64 ?_))
  have r0 := new_r2 W1 X Y
  have r1 := new_r3 W1 X Y
  have hB := new_r4 W1 X Y
  generalize ((((W1.alloc (.cells z8 104)).alloc (.cells z64 105)).setRow W1.heap.size X.toArray).setRow (W1.heap.size + 1) Y.toArray) = W2 at r0 r1 hB ⊢
  obtain ⟨rfl, rfl⟩ := HX.out
  clear hn HX zs8 zs64 o8 o64 zv zw
  go_wp2_with (first
    | (refine wpList_load_row rfl 104 (.tmp 1) rfl W1.heap.size rfl 104 (hL.map uv).toArray (0, 0) _ r0 Try.underlying104 rfl hx ?_)
    | (refine wpList_load_row rfl 105 (.tmp 2) rfl (W1.heap.size + 1) rfl 105 (kL.map uv).toArray (0, 0) _ r1 Try.underlying105 rfl kx ?_)
    | (refine wpList_build rfl 109 _ rfl (by kernel_rfl) ?_))
  go_ret
  refine ⟨W2.heap.size, rfl, ⟨List.replicate 64 0, ⟨by simp, ?_⟩, rfl⟩, ?_, ?_⟩
  · exact (heap_alloc_new W2 _).trans (by kernel_rfl)
  · have q := hb1.trans (hB.mono hb1.size)
    exact q.alloc q.size _
  · exact Nat.le_trans hb1.size hB.size

def headZ : List Value := .bool false :: (List.replicate 8 (Value.int .u32 0) ++ List.replicate 64 (Value.int .u32 0))
def z38 : Array Value := (headZ ++ List.replicate 64 (Value.int .u8 0) ++ [Value.int .i64 0]).toArray
theorem zero38 (w : World) : (zeroValue 109).run Try.prog w = .ok (.agg z38) w := by kernel_rfl
def z32 : Array Value := #[.int .u8 0, .int .u8 0, .int .u8 0, .int .u8 0, .int .u8 0, .int .u8 0, .int .u8 0, .int .u8 0, .int .u8 0, .int .u8 0, .int .u8 0, .int .u8 0, .int .u8 0, .int .u8 0, .int .u8 0, .int .u8 0, .int .u8 0, .int .u8 0, .int .u8 0, .int .u8 0, .int .u8 0, .int .u8 0, .int .u8 0, .int .u8 0, .int .u8 0, .int .u8 0, .int .u8 0, .int .u8 0, .int .u8 0, .int .u8 0, .int .u8 0, .int .u8 0]
theorem digCells_info (h : St) (b : List UInt8) (n : Nat) (hb : b.length = 64) : (Try.prog.info? 109).map (·.size) = some (digCells h b n).toArray.size := by
  rw [List.size_toArray, digCells_len h b n hb]; kernel_rfl
theorem z38_size (h : St) (b : List UInt8) (n : Nat) (hb : b.length = 64) : z38.size = (digCells h b n).toArray.size := by
  have e : (digCells h b n).toArray.size = 138 := by rw [List.size_toArray, digCells_len h b n hb]
  exact Eq.trans (by kernel_rfl : z38.size = 138) e.symm
theorem digCells_one (h : St) (b : List UInt8) (n : Nat) : (digCells h b n).toArray.all (·.oneCell') = true := by
  rw [List.all_toArray, List.all_eq_true]
  intro v hv
  simp only [digCells, headD, stL, List.mem_cons, List.mem_append, List.mem_map, List.not_mem_nil, or_false] at hv
  rcases hv with (rfl | (rfl | rfl | rfl | rfl | rfl | rfl | rfl | rfl) | ⟨x, _, rfl⟩) | ⟨x, _, rfl⟩ | rfl <;> rfl
def outL (s : St) (k : Nat) : List Value := ((List.range k).map fun i => bv (outB s i)) ++ List.replicate (32 - k) (.int .u8 0)
theorem outL_len (s : St) (k : Nat) (h : k ≤ 32) : (outL s k).length = 32 := by simp [outL]; omega
theorem outL_set (s : St) (k : Nat) (h : k < 32) : (outL s k).set k (bv (outB s k)) = outL s (k + 1) := by
  unfold outL
  rw [List.set_append_right _ _ (by simp)]
  obtain ⟨d, hd⟩ : ∃ d, 32 - k = d + 1 := ⟨32 - k - 1, by omega⟩
  rw [hd, show 32 - (k + 1) = d by omega, List.replicate_succ]
  simp [List.range_succ]

theorem nth_cell {w : World} {g : Nat} {s : St} {b : List UInt8} {n : Nat} (d : DigAt w g s b n) (q : Nat) (hq : q < 8) : w.cell? ⟨g, 1 + q, none⟩ = some (.int .u32 (nth s q : Nat)) := by
  rw [d.cell, digCells_low _ _ _ _ (by omega)]
  rcases (show q = 0 ∨ q = 1 ∨ q = 2 ∨ q = 3 ∨ q = 4 ∨ q = 5 ∨ q = 6 ∨ q = 7 by omega) with rfl | rfl | rfl | rfl | rfl | rfl | rfl | rfl <;> rfl
theorem nth_lt (s : St) (h : s.ok) (q : Nat) : nth s q < 4294967296 := by
  have h0 := h.a; have h1 := h.b; have h2 := h.c; have h3 := h.d; have h4 := h.e; have h5 := h.f; have h6 := h.g; have h7 := h.h
  by_cases hq : q < 8
  · rcases (show q = 0 ∨ q = 1 ∨ q = 2 ∨ q = 3 ∨ q = 4 ∨ q = 5 ∨ q = 6 ∨ q = 7 by omega) with rfl | rfl | rfl | rfl | rfl | rfl | rfl | rfl <;> assumption
  · unfold nth
    rw [List.getD_eq_getElem?_getD, List.getElem?_eq_none (by simp [St.list]; omega)]
    decide
theorem outB_val (s : St) (q r : Nat) (hr : r < 4) : bv (outB s (4 * q + r)) = .int .u8 ((nth s q / 2 ^ (24 - r * 8) % 256 : Nat) : Int) := by
  have e1 : (4 * q + r) / 4 = q := by omega
  have e2 : (4 * q + r) % 4 = r := by omega
  unfold outB bv
  rw [e1, e2]
  simp
theorem size32 (L : List Value) (h : L.length = 32) : (Try.prog.info? 46).map (·.size) = some L.toArray.size := by
  rw [List.size_toArray, h]; kernel_rfl
theorem z32_size (L : List Value) (h : L.length = 32) : z32.size = L.toArray.size := by
  have e : L.toArray.size = 32 := by rw [List.size_toArray, h]
  exact Eq.trans (by kernel_rfl : z32.size = 32) e.symm
theorem outL_one (s : St) (k : Nat) : (outL s k).toArray.all (·.oneCell') = true := by
  rw [List.all_toArray, List.all_eq_true]
  intro v hv
  simp only [outL, List.mem_append, List.mem_map, List.mem_replicate] at hv
  rcases hv with ⟨i, _, rfl⟩ | ⟨_, rfl⟩ <;> rfl
end Go.Proofs.Ytpeepohiajmhcaa.d
/-
  The contract of Sum.
-/
namespace Go.Proofs.Ytpeepohiajmhcaa.d
open Go.RowKit

set_option maxRecDepth 10000 in
set_option maxHeartbeats 4000000 in
theorem Sum_any (g : Nat) (l : List UInt8) (w : World) (hd : Dig w g l) (hl : (l.length : Int) ≤ 900000000000000) : Calls Try.prog 72 #[.pointer (some ⟨g, 0, none⟩)] w fun e w' => e = .returned (.agg ((sha l).map bv).toArray) ∧ Below w.heap.size w w' := by
  obtain ⟨b, h1, h2⟩ := hd
  have hm := h1.made
  have hs := h1.size
  have hlt := h1.lt
  have hlt2 : g < w.heap.size + 1 := by omega
  have hlt2' : g < (w.alloc (.cells z32 46)).heap.size := by simp; omega
  have H1 := hid (And.intro h1 h2)
  clear h1 h2
  go_enter Try.func72, Try.ntmps72
  go_upto_region 4 with (fail)
  have D0 : DigAt ((w.alloc (.cells z32 46)).alloc (.cells z32 46)) g (absN l (l.length / 64)) b l.length := H1.out.1.to (by rw [heap_alloc_old _ _ hlt2', heap_alloc_old _ _ hlt])
  have r0 : ((w.alloc (.cells z32 46)).alloc (.cells z32 46)).heap[w.heap.size]? = some (.cells z32 46 (0, 0)) := heap_alloc2_old w _ _
  have r1 : ((w.alloc (.cells z32 46)).alloc (.cells z32 46)).heap[w.heap.size + 1]? = some (.cells z32 46 (0, 0)) := heap_alloc2_new w _ _
  have b0 : Below w.heap.size w ((w.alloc (.cells z32 46)).alloc (.cells z32 46)) := by
    have q := (Below.refl w.heap.size w).alloc (Nat.le_refl _) (.cells z32 46)
    exact q.alloc q.size _
  have s0 : ((w.alloc (.cells z32 46)).alloc (.cells z32 46)).heap.size = w.heap.size + 2 := by simp
  change Code.wp _ _ _ _ ((w.alloc (.cells z32 46)).alloc (.cells z32 46))
  generalize ((w.alloc (.cells z32 46)).alloc (.cells z32 46)) = W0 at D0 r0 r1 b0 s0 ⊢
  have zv := zero38
  have HD0 := hid D0
  have Hr0 := hid r0
  have Hr1 := hid r1
  have Hs0 := hid s0
  have Hb0 := hid b0
  clear D0 r0 r1 s0 b0 hm hs
  go_upto_region 5 with (first
    | (refine wpList_load_row rfl 109 (.tmp 17) rfl g rfl 109 (digCells (absN l (l.length / 64)) b l.length).toArray (0, 0) _ HD0.out.2 Try.underlying109 rfl (digCells_info _ _ _ HD0.out.1) ?_)
    | (refine wpList_store_row (o := ⟨none, .store 109 (.tmp 4) (.tmp 18), _, _, _, _⟩) rfl 109 (.tmp 4) (.tmp 18) rfl W0.heap.size (digCells (absN l (l.length / 64)) b l.length).toArray rfl rfl 109 z38 (heap_alloc_new W0 _) (digCells_info _ _ _ HD0.out.1) (z38_size _ _ _ HD0.out.1) (digCells_one _ _ _) ?_))
  have B3 : Below W0.heap.size W0 ((W0.alloc (.cells z38 109)).setRow W0.heap.size (digCells (absN l (l.length / 64)) b l.length).toArray) :=
    below_setRow ((Below.refl _ _).alloc (Nat.le_refl _) _) (Nat.le_refl _) _
  have D3 : DigAt ((W0.alloc (.cells z38 109)).setRow W0.heap.size (digCells (absN l (l.length / 64)) b l.length).toArray) W0.heap.size (absN l (l.length / 64)) b l.length :=
    ⟨HD0.out.1, setRow_heap _ _ _ _ _ _ (heap_alloc_new W0 _)⟩
  have S3 : ((W0.alloc (.cells z38 109)).setRow W0.heap.size (digCells (absN l (l.length / 64)) b l.length).toArray).heap.size = W0.heap.size + 1 := by simp
  generalize ((W0.alloc (.cells z38 109)).setRow W0.heap.size (digCells (absN l (l.length / 64)) b l.length).toArray) = W3 at B3 D3 S3 ⊢
  have c137 : W3.cell? ⟨g, 137, none⟩ = some (.int .i64 (l.length : Nat)) := (HD0.out.to (B3.block g (by have := Hs0.out; omega))).size
  have HD3 : Hid (Dig W3 W0.heap.size l) := ⟨b, D3, H1.out.2⟩
  have HB3 := hid B3
  have HS3 := hid S3
  have Hln := hid hl
  clear B3 D3 S3 zv HD0 H1 hl hlt2'
  go_wp2_with (first
    | (go_at_call 78; refine (padding_any l.length _ (by have := Hln.out; omega)).mono ?_; rintro e W4 ⟨g4, rfl, hN⟩; have HN := hid hN; have HD4 : Hid (Dig W4 W0.heap.size l) := (HD3.out.to (HN.out.bel.block _ HD3.out.lt)); clear hN)
    | (go_at_call 71; refine (Write_any W0.heap.size l (pad l.length) _ _ _ _ HD4.out ⟨HN.out.isB, fun _ ad e => by cases e; exact ⟨by show g4 ≠ _; have := HN.out.row.1; have := HS3.out; omega, HN.out.row.2.1⟩⟩ (by have := Hln.out; have : noughts l.length < 64 := (by unfold noughts; omega); omega)).mono ?_; rintro e W5 ⟨rfl, hD5, hG5⟩))
  obtain ⟨b5, hA5, _⟩ := hD5
  have HA5 : Hid (DigAt W5 W0.heap.size (sumS l) b5 (l ++ pad l.length).length) := hA5
  have hOE : w.heap.size + 1 < W0.heap.size := by have := Hs0.out; omega
  have t4 : ∀ i, i < W0.heap.size → W5.heap[i]? = W0.heap[i]? := fun i hi => by
    have e3 := HB3.out.size
    have e4 := HN.out.bel.size
    rw [hG5.block i (by omega) (by intro e; cases e; omega), HN.out.bel.block i (by omega), HB3.out.block i hi]
  have R5 : Hid (W5.heap[w.heap.size]? = some (.cells z32 46 (0, 0))) := (t4 _ (by omega)).trans Hr0.out
  have O5 : W5.heap[w.heap.size + 1]? = some (.cells z32 46 (0, 0)) := (t4 _ hOE).trans Hr1.out
  have B5 : Hid (Below w.heap.size w W5) := ⟨hG5.os.trans (HN.out.bel.os.trans (HB3.out.os.trans Hb0.out.os)), hG5.tape.trans (HN.out.bel.tape.trans (HB3.out.tape.trans Hb0.out.tape)), hG5.output.trans (HN.out.bel.output.trans (HB3.out.output.trans Hb0.out.output)),
    Nat.le_trans Hb0.out.size (Nat.le_trans HB3.out.size (Nat.le_trans HN.out.bel.size hG5.size)), fun i hi => (t4 i (by omega)).trans (Hb0.out.block i hi)⟩
  have hok := absN_ok (padded l) ((padded l).length / 64)
  have HO5 := hid O5
  have Hok : Hid (sumS l).ok := hok
  have Hsha : Hid ((sha l).map bv = outL (sumS l) 32) := by
    show _ = _
    unfold sha outL
    simp
  generalize hgen : sumS l = s at HA5 Hok Hsha
  clear hgen hok O5 t4 hA5 hG5 HN HD4 HD3 HB3 HS3 Hr0 Hr1 Hb0 c137
  go_loopw [25] (fun i wr => ∃ k : Nat, k ≤ 32 ∧ i = .int .i64 k ∧ Hid (wr.heap[w.heap.size + 1]? = some (.cells (outL s k).toArray 46 (0, 0))) ∧ Hid (W5.grownBy wr (some (w.heap.size + 1)))) (fun i _ => 32 - (intOf i).toNat)
  case atStart => exact ⟨0, Nat.zero_le _, rfl, HO5, World.grownBy.refl _ _⟩
  case round =>
    obtain ⟨k, hk, rfl, hrow, hgr⟩ := hrel
    by_cases hlt3 : k < 32
    · obtain ⟨q, r, hqr, hr4, hq5⟩ : ∃ q r, k = 4 * q + r ∧ r < 4 ∧ q < 8 := ⟨k / 4, k % 4, by omega, by omega, by omega⟩
      have hcx : wr.cell? ⟨W0.heap.size, 1 + q, none⟩ = some (.int .u32 (nth s q : Nat)) := hgr.out.cell (nth_cell HA5.out q hq5) (by intro e; have e2 : W0.heap.size = w.heap.size + 1 := Option.some.inj e; omega)
      have hxl := nth_lt s Hok.out q
      have hset := outL_set s k hlt3
      have hlen := outL_len s k hk
      have hv := outB_val s q r hr4
      rw [hqr] at hset
      rw [hv] at hset
      rw [← hqr] at hset
      generalize nth s q = y at *
      obtain ⟨v0, hcell⟩ : ∃ v0, wr.cell? ⟨w.heap.size + 1, k, none⟩ = some v0 := ⟨(outL s k)[k]'(by omega), by rw [row_cell hrow.out k, List.getElem?_toArray, List.getElem?_eq_getElem (by omega)]⟩
      have hfree := row_free hrow.out k
      have hkq : (k : Int) / 4 = (q : Int) := by omega
      have hkz : (k : Int) < 32 := by omega
      have hqz : (q : Int) < 8 := by omega
      have hyz : (y : Int) ≤ 4294967295 := by omega
      have Hset := hid hset
      clear hset hlen hv hxl
      rcases (show r = 0 ∨ r = 1 ∨ r = 2 ∨ r = 3 by omega) with rfl | rfl | rfl | rfl
      · have hk4 : (k : Int) % 4 = 0 := by omega
        clear hqr
        go_wp2_with fail
        go_roundw
        case rel =>
          refine ⟨k + 1, by omega, by go_num, ?_, grown_trans hgr.out (grownBy_setCell _ _ _ _)⟩
          have e := row_set hrow.out k (.int .u8 ((y / 2 ^ (24 - 0 * 8) % 256 : Nat) : Int))
          rw [set_toArray, Hset.out] at e
          have ev : ((y / 2 ^ (24 - 0 * 8) % 256 : Nat) : Int) = (y : Int) / 16777216 := by
            show ((y / 16777216 % 256 : Nat) : Int) = _
            omega
          rw [ev] at e
          exact e
        case measure => simp [intOf]; omega
      · have hk4 : (k : Int) % 4 = 1 := by omega
        clear hqr
        go_wp2_with fail
        go_roundw
        case rel =>
          refine ⟨k + 1, by omega, by go_num, ?_, grown_trans hgr.out (grownBy_setCell _ _ _ _)⟩
          have e := row_set hrow.out k (.int .u8 ((y / 2 ^ (24 - 1 * 8) % 256 : Nat) : Int))
          rw [set_toArray, Hset.out] at e
          have ev : ((y / 2 ^ (24 - 1 * 8) % 256 : Nat) : Int) = (y : Int) / 65536 % 256 := by
            show ((y / 65536 % 256 : Nat) : Int) = _
            omega
          rw [ev] at e
          exact e
        case measure => simp [intOf]; omega
      · have hk4 : (k : Int) % 4 = 2 := by omega
        clear hqr
        go_wp2_with fail
        go_roundw
        case rel =>
          refine ⟨k + 1, by omega, by go_num, ?_, grown_trans hgr.out (grownBy_setCell _ _ _ _)⟩
          have e := row_set hrow.out k (.int .u8 ((y / 2 ^ (24 - 2 * 8) % 256 : Nat) : Int))
          rw [set_toArray, Hset.out] at e
          have ev : ((y / 2 ^ (24 - 2 * 8) % 256 : Nat) : Int) = (y : Int) / 256 % 256 := by
            show ((y / 256 % 256 : Nat) : Int) = _
            omega
          rw [ev] at e
          exact e
        case measure => simp [intOf]; omega
      · have hk4 : (k : Int) % 4 = 3 := by omega
        clear hqr
        go_wp2_with fail
        go_roundw
        case rel =>
          refine ⟨k + 1, by omega, by go_num, ?_, grown_trans hgr.out (grownBy_setCell _ _ _ _)⟩
          have e := row_set hrow.out k (.int .u8 ((y / 2 ^ (24 - 3 * 8) % 256 : Nat) : Int))
          rw [set_toArray, Hset.out] at e
          have ev : ((y / 2 ^ (24 - 3 * 8) % 256 : Nat) : Int) = (y : Int) % 256 := by
            show ((y / 1 % 256 : Nat) : Int) = _
            omega
          rw [ev] at e
          exact e
        case measure => simp [intOf]; omega
    · obtain rfl : k = 32 := by omega
      have hl32 := outL_len s 32 hk
      have HR : wr.heap[w.heap.size]? = some (.cells z32 46 (0, 0)) := by
        rw [hgr.out.block w.heap.size (by have := B5.out.size; have := Hs0.out; rcases Nat.lt_or_ge w.heap.size W5.heap.size with h | h; · exact h
                                          · have e := R5.out; rw [Array.getElem?_eq_none h] at e; cases e) (by intro e; have e2 : w.heap.size = w.heap.size + 1 := Option.some.inj e; omega)]
        exact R5.out
      have HRR := hid HR
      have HL := hid hl32
      clear HR hl32
      go_wp2_with (first
        | (refine wpList_load_row rfl 46 (.tmp 3) rfl (w.heap.size + 1) rfl 46 (outL s 32).toArray (0, 0) _ hrow.out Try.underlying46 rfl (size32 _ HL.out) ?_)
        | (refine wpList_store_row (o := ⟨none, .store 46 (.tmp 2) (.tmp 42), _, _, _, _⟩) rfl 46 (.tmp 2) (.tmp 42) rfl w.heap.size (outL s 32).toArray rfl rfl 46 z32 HRR.out (size32 _ HL.out) (z32_size _ HL.out) (outL_one s 32) ?_))
      refine bodyPost_ret (results_cell_row (by kernel_rfl : Try.f72.results = #[.cell 2 46]) _ _ w.heap.size 46 (outL s 32).toArray (0, 0) _ rfl (setRow_heap _ _ _ _ _ _ HRR.out) Try.underlying46 rfl (size32 _ HL.out)) rfl ⟨?_, ?_⟩
      · rw [Hsha.out]
      · exact below_setRow (B5.out.trans ⟨hgr.out.os, hgr.out.tape, hgr.out.output, hgr.out.size, fun i hi => hgr.out.block i (Nat.lt_of_lt_of_le hi B5.out.size) (by intro e; have e2 : i = w.heap.size + 1 := Option.some.inj e; omega)⟩) (Nat.le_refl _) _
end Go.Proofs.Ytpeepohiajmhcaa.d
/-
  The contracts of sha.Of and of hex.
-/
namespace Go.Proofs.Ytpeepohiajmhcaa.d
open Go.RowKit

theorem sha_len (l : List UInt8) : (sha l).length = 32 := by simp [sha]
theorem map_len32 {l : List UInt8} (h : l.length = 32) : (l.map bv).length = 32 := by simp [h]
theorem bv_all (l : List UInt8) : (l.map bv).toArray.all (·.oneCell') = true := by
  rw [List.all_toArray, List.all_eq_true]; exact bv_one l
theorem isBB_rest {w w' : World} {g : Nat} {A : Option Addr} {n c : Nat} {l : List UInt8} (h : IsBB w w.heap.size A n c l) (hb : Below w.heap.size w w') (hg : w.heap.size ≤ g) : Rest w' g w'.heap.size A n c l :=
  ⟨(h.below hb).toIsB, fun hp ad e => by have := h.low hp ad e; have := hb.size; omega⟩

theorem of_row {W0 W1 W2 W3 : World} {B g : Nat} (r0 : W0.heap[B]? = some (.cells z32 46 (0, 0))) (s0 : W0.heap.size = B + 1) (b1 : Below W0.heap.size W0 W1) (hg : W0.heap.size ≤ g) (g2 : W1.grownBy W2 (some g)) (b3 : Below W2.heap.size W2 W3) :
    W3.heap[B]? = some (.cells z32 46 (0, 0)) := by
  have e1 := b1.size
  have e2 := g2.size
  rw [b3.block B (by omega), g2.block B (by omega) (by intro e; have e2 : B = g := Option.some.inj e; omega), b1.block B (by omega), r0]
theorem of_below {w W0 W1 W2 W3 : World} {g : Nat} (b0 : Below w.heap.size w W0) (s0 : W0.heap.size = w.heap.size + 1) (b1 : Below W0.heap.size W0 W1) (hg : W0.heap.size ≤ g) (g2 : W1.grownBy W2 (some g)) (b3 : Below W2.heap.size W2 W3) :
    Below w.heap.size w W3 := by
  have e1 := b1.size
  have e2 := g2.size
  have q1 : Below w.heap.size w W1 := b0.trans (b1.mono (by omega))
  have q2 : Below w.heap.size w W2 := q1.grown g2 (by omega) (fun k e => by cases e; omega)
  exact q2.trans (b3.mono (by omega))

set_option maxRecDepth 10000 in
set_option maxHeartbeats 1000000 in
theorem Of_any (A : Option Addr) (l : List UInt8) (n c : Nat) (w : World) (h : IsBB w w.heap.size A n c l) :
    Calls Try.prog 61 #[.slice A n c] w fun e w' => e = .returned (.agg ((sha l).map bv).toArray) ∧ Below w.heap.size w w' := by
  have hlen := hid h.len
  have H := hid h
  have r0 : (w.alloc (.cells z32 46)).heap[w.heap.size]? = some (.cells z32 46 (0, 0)) := heap_alloc_new w _
  have b0 : Below w.heap.size w (w.alloc (.cells z32 46)) := (Below.refl w.heap.size w).alloc (Nat.le_refl _) (.cells z32 46)
  have s0 : (w.alloc (.cells z32 46)).heap.size = w.heap.size + 1 := by simp
  clear h
  go_enter Try.func61, Try.ntmps61
  go_upto_region 1 with (fail)
  change Code.wp _ _ _ _ (w.alloc (.cells z32 46))
  generalize w.alloc (.cells z32 46) = W0 at r0 b0 s0 ⊢
  have Hr0 := hid r0
  have Hb0 := hid b0
  have Hs0 := hid s0
  clear r0 b0 s0
  go_wp2_with (first
    | (go_at_call 70; refine (New_any _).mono ?_; rintro e W1 ⟨g, rfl, hd, hb1, hg⟩; have Hd := hid hd; have Hb1 := hid hb1; have Hg := hid hg; clear hd hb1 hg)
    | (go_at_call 71; refine (Write_any g [] l _ _ _ _ Hd.out (isBB_rest H.out (Hb0.out.trans (Hb1.out.mono Hb0.out.size)) (Nat.le_trans Hb0.out.size Hg.out)) (by have := H.out.small; show 0 + n < _; omega)).mono ?_; rintro e W2 ⟨rfl, hd2, hg2⟩; have Hd2 := hid hd2; have Hg2 := hid hg2; clear hd2 hg2)
    | (go_at_call 72; refine (Sum_any g ([] ++ l) _ Hd2.out (by have := H.out.small; have := hlen.out; rw [List.nil_append]; omega)).mono ?_; rintro e W3 ⟨rfl, hb3⟩; rw [List.nil_append]; have Hb3 := hid hb3; have HR : Hid (W3.heap[w.heap.size]? = some (.cells z32 46 (0, 0))) := (of_row Hr0.out Hs0.out Hb1.out Hg.out Hg2.out hb3); clear hb3)
    | (refine wpList_store_row (o := ⟨none, .store 46 (.tmp 2) (.tmp 9), _, _, _, _⟩) rfl 46 (.tmp 2) (.tmp 9) rfl w.heap.size ((sha l).map bv).toArray rfl rfl 46 z32 HR.out (size32 _ (map_len32 (sha_len l))) (z32_size _ (map_len32 (sha_len l))) (bv_all _) ?_))
  refine bodyPost_ret (results_cell_row (by kernel_rfl : Try.f61.results = #[.cell 2 46]) _ _ w.heap.size 46 ((sha l).map bv).toArray (0, 0) _ rfl (setRow_heap _ _ _ _ _ _ HR.out) Try.underlying46 rfl (size32 _ (map_len32 (sha_len l)))) rfl ⟨rfl, ?_⟩
  exact below_setRow (of_below Hb0.out Hs0.out Hb1.out Hg.out Hg2.out Hb3.out) (Nat.le_refl _) _

def digits : List UInt8 := [48, 49, 50, 51, 52, 53, 54, 55, 56, 57, 97, 98, 99, 100, 101, 102]
def dig (n : Nat) : UInt8 := digits.getD n 0
def hexL (l : List UInt8) : List UInt8 := l.flatMap fun b => [dig (b.toNat / 16), dig (b.toNat % 16)]
theorem hexL_snoc (l : List UInt8) (b : UInt8) : hexL (l ++ [b]) = hexL l ++ [dig (b.toNat / 16)] ++ [dig (b.toNat % 16)] := by simp [hexL]
theorem hexL_len (l : List UInt8) : (hexL l).length = 2 * l.length := by
  induction l with
  | nil => rfl
  | cons b r ih => simp only [hexL, List.flatMap_cons, List.length_append, List.length_cons, List.length_nil] at ih ⊢; omega
theorem cat_bytes (a : List UInt8) (b : UInt8) (h : a.length ≤ 1000) (w : World) : (Op.stringOp .add ⟨a.toArray⟩ ⟨#[b]⟩).run Try.prog w = .ok (.string ⟨(a ++ [b]).toArray⟩) w := by
  have hs : (⟨a.toArray⟩ : ByteArray).size = a.length := by simp [ByteArray.size]
  have hs2 : (⟨#[b]⟩ : ByteArray).size = 1 := rfl
  rw [run_string_add_sum _ _ _ (by rw [hs, hs2]; omega)]
  congr 2
theorem cut_digit (h : Nat) (hh : h < 16) (w : World) : (Instr.sliceAt 9 (.string ⟨#[48, 49, 50, 51, 52, 53, 54, 55, 56, 57, 97, 98, 99, 100, 101, 102]⟩) (some (.int .u8 (h : Nat))) (some (.int .u8 ((h : Nat) + 1 : Int))) none).run Try.prog w = .ok (.string ⟨#[dig h]⟩) w := by
  have : h = 0 ∨ h = 1 ∨ h = 2 ∨ h = 3 ∨ h = 4 ∨ h = 5 ∨ h = 6 ∨ h = 7 ∨ h = 8 ∨ h = 9 ∨ h = 10 ∨ h = 11 ∨ h = 12 ∨ h = 13 ∨ h = 14 ∨ h = 15 := by omega
  rcases this with rfl | rfl | rfl | rfl | rfl | rfl | rfl | rfl | rfl | rfl | rfl | rfl | rfl | rfl | rfl | rfl <;> (show _ = _; kernel_rfl)
theorem low_eq (x : Nat) (hx : x < 256) : bits BinOp.and IntKind.u8 (x : Int) 15 = ((x % 16 : Nat) : Int) := by
  have e := u8_and_nat x 15 hx (by omega)
  have e2 : x &&& 15 = x % 16 := Nat.and_two_pow_sub_one_eq_mod x 4
  rw [e2] at e
  exact e

end Go.Proofs.Ytpeepohiajmhcaa.d
