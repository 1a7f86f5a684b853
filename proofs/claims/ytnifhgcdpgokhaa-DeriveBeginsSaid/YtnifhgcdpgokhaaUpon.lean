/-
  The contract of upon.
-/
import Derived.Test.YtnifhgcdpgokhaaSieve
import Derived.Deep.Cut
namespace Go.Proofs.Ytnifhgcdpgokhaa
open Go.RowKit

def stL (s : St) : List Value := [uv s.a, uv s.b, uv s.c, uv s.d, uv s.e, uv s.f, uv s.g, uv s.h]
def stV (s : St) : Value := .agg (stL s).toArray
/-- The call's own first two blocks. -/
structure UpS (L : List Value) (w wr : World) : Prop where
  bel : Below w.heap.size w wr
  b0 : wr.heap[w.heap.size]? = some (.cells L.toArray 53 (0, 0))
  b1 : wr.heap[w.heap.size + 1]? = some (.cells z8 53 (0, 0))
theorem UpS.to {L : List Value} {w wr w2 : World} (s : UpS L w wr) (h : Below wr.heap.size wr w2) : UpS L w w2 := by
  have l1 : w.heap.size + 1 < wr.heap.size := by
    rcases Nat.lt_or_ge (w.heap.size + 1) wr.heap.size with h | h
    · exact h
    · have e := s.b1; rw [Array.getElem?_eq_none h] at e; cases e
  exact ⟨s.bel.trans (h.mono s.bel.size), (h.block _ (by omega)).trans s.b0, (h.block _ l1).trans s.b1⟩
theorem UpS.drewN {L : List Value} {w wr : World} (s : UpS L w wr) (n : Nat) : UpS L w (wr.drewN n) := ⟨below_drewN s.bel n, s.b0, s.b1⟩
theorem UpS.set {L : List Value} {w wr : World} (s : UpS L w wr) (i : Nat) (v : Value) : UpS (L.set i v) w (wr.setCell ⟨w.heap.size, i, none⟩ v) :=
  ⟨s.bel.setCell (p := ⟨w.heap.size, i, none⟩) (Nat.le_refl _) _, by rw [row_set s.b0 i _, set_toArray],
   by rw [heap_setCell_other _ _ _ _ (by show w.heap.size + 1 ≠ w.heap.size; omega)]; exact s.b1⟩
theorem upS_start (L : List Value) (w : World) : UpS L w ((w.alloc (.cells L.toArray 53)).alloc (.cells z8 53)) := by
  refine ⟨?_, heap_alloc2_old w _ _, heap_alloc2_new w _ _⟩
  have q := (Below.refl w.heap.size w).alloc (Nat.le_refl _) (.cells L.toArray 53)
  exact q.alloc q.size _
theorem ix0 (x0 x1 x2 x3 x4 x5 x6 x7 : Value) (w : World) : (Instr.index 53 (.agg #[x0, x1, x2, x3, x4, x5, x6, x7]) (.int .i64 0)).run Try.prog w = .ok x0 w := by kernel_rfl
theorem ix1 (x0 x1 x2 x3 x4 x5 x6 x7 : Value) (w : World) : (Instr.index 53 (.agg #[x0, x1, x2, x3, x4, x5, x6, x7]) (.int .i64 1)).run Try.prog w = .ok x1 w := by kernel_rfl
theorem ix2 (x0 x1 x2 x3 x4 x5 x6 x7 : Value) (w : World) : (Instr.index 53 (.agg #[x0, x1, x2, x3, x4, x5, x6, x7]) (.int .i64 2)).run Try.prog w = .ok x2 w := by kernel_rfl
theorem ix3 (x0 x1 x2 x3 x4 x5 x6 x7 : Value) (w : World) : (Instr.index 53 (.agg #[x0, x1, x2, x3, x4, x5, x6, x7]) (.int .i64 3)).run Try.prog w = .ok x3 w := by kernel_rfl
theorem ix4 (x0 x1 x2 x3 x4 x5 x6 x7 : Value) (w : World) : (Instr.index 53 (.agg #[x0, x1, x2, x3, x4, x5, x6, x7]) (.int .i64 4)).run Try.prog w = .ok x4 w := by kernel_rfl
theorem ix5 (x0 x1 x2 x3 x4 x5 x6 x7 : Value) (w : World) : (Instr.index 53 (.agg #[x0, x1, x2, x3, x4, x5, x6, x7]) (.int .i64 5)).run Try.prog w = .ok x5 w := by kernel_rfl
theorem ix6 (x0 x1 x2 x3 x4 x5 x6 x7 : Value) (w : World) : (Instr.index 53 (.agg #[x0, x1, x2, x3, x4, x5, x6, x7]) (.int .i64 6)).run Try.prog w = .ok x6 w := by kernel_rfl
theorem ix7 (x0 x1 x2 x3 x4 x5 x6 x7 : Value) (w : World) : (Instr.index 53 (.agg #[x0, x1, x2, x3, x4, x5, x6, x7]) (.int .i64 7)).run Try.prog w = .ok x7 w := by kernel_rfl
theorem add_u (a b : Nat) : Value.int IntKind.u32 (((a : Int) + b) % 4294967296) = uv ((a + b) % 4294967296) := by
  unfold uv
  congr 1
theorem set8 (h s : St) : (((((((((stL h).set 0 (.int .u32 (((h.a : Int) + s.a) % 4294967296))).set 1 (.int .u32 (((h.b : Int) + s.b) % 4294967296))).set 2 (.int .u32 (((h.c : Int) + s.c) % 4294967296))).set 3 (.int .u32 (((h.d : Int) + s.d) % 4294967296))).set 4 (.int .u32 (((h.e : Int) + s.e) % 4294967296))).set 5 (.int .u32 (((h.f : Int) + s.f) % 4294967296))).set 6 (.int .u32 (((h.g : Int) + s.g) % 4294967296))).set 7 (.int .u32 (((h.h : Int) + s.h) % 4294967296))) = stL (add2 h s) := by
  simp only [add_u]
  rfl
/-- What upon hands back. -/
def UpPost (R : List Value) (w : World) (e : Ending) (w' : World) : Prop := e = .returned (.agg R.toArray) ∧ Below w.heap.size w w'
theorem stL_info (t : St) : (Try.prog.info? 53).map (·.size) = some (stL t).toArray.size := by kernel_rfl
theorem stL_size (t : St) : z8.size = (stL t).toArray.size := by kernel_rfl
theorem stL_one (t : St) : (stL t).toArray.all (·.oneCell') = true := by kernel_rfl
theorem ch_eq' (b c d : Nat) (hb : b < 4294967296) (hc : c < 4294967296) (hd : d < 4294967296) :
    bits BinOp.xor IntKind.u32 (bits BinOp.and IntKind.u32 b c) (bits BinOp.and IntKind.u32 (bits BinOp.xor IntKind.u32 (if IntKind.u32.signed = true then -1 else IntKind.u32.max) b) d) = ((chN b c d : Nat) : Int) := ch_eq b c d hb hc hd
theorem t1_eq' (l : List UInt8) (a b c d e f g h t : Nat) : (((h : Int) + (bs1 e : Nat) + (chN e f g : Nat) + (kN t : Nat)) % 4294967296 + (wd l t : Nat)) % 4294967296 = ((t1 l ⟨a, b, c, d, e, f, g, h⟩ t : Nat) : Int) := by
  unfold t1
  simp only
  generalize bs1 e = x
  generalize chN e f g = y
  generalize kN t = z
  generalize wd l t = v
  omega
theorem t2_eq' (a b c d e f g h : Nat) : ((bs0 a : Nat) + (maN a b c : Nat) : Int) % 4294967296 = ((t2 ⟨a, b, c, d, e, f, g, h⟩ : Nat) : Int) := by
  unfold t2
  simp only
  generalize bs0 a = x
  generalize maN a b c = y
  omega
theorem t1_eq (l : List UInt8) (a b c d e f g h t : Nat) : Value.int IntKind.u32 (((h : Nat) + (bs1 e : Nat) + (chN e f g : Nat) + (kN t : Nat) + (wd l t : Nat) : Int) % 4294967296) = .int .u32 ((t1 l ⟨a, b, c, d, e, f, g, h⟩ t : Nat) : Int) := by
  unfold t1
  simp only
  generalize bs1 e = x
  generalize chN e f g = y
  generalize kN t = z
  generalize wd l t = v
  congr 1
  omega
theorem t2_eq (a b c d e f g h : Nat) : Value.int IntKind.u32 (((bs0 a : Nat) + (maN a b c : Nat) : Int) % 4294967296) = .int .u32 ((t2 ⟨a, b, c, d, e, f, g, h⟩ : Nat) : Int) := by
  unfold t2
  simp only
  generalize bs0 a = x
  generalize maN a b c = y
  congr 1

set_option maxRecDepth 10000 in
set_option maxHeartbeats 1500000 in
theorem upon_any (h : St) (hh : h.ok) (l : List UInt8) (kb ko pb po : Nat) (w : World) (hl : l.length = 64)
    (hk : ∀ j, j < 64 → w.cell? ⟨kb, ko + j, none⟩ = some (.int .u32 (kN j : Nat))) (hkb : kb < w.heap.size)
    (hb : ∀ j (hj : j < l.length), w.cell? ⟨pb, po + j, none⟩ = some (bv l[j])) (hp : pb < w.heap.size) :
    Calls Try.prog 35 #[.agg #[.int .u32 (h.a : Nat), .int .u32 (h.b : Nat), .int .u32 (h.c : Nat), .int .u32 (h.d : Nat), .int .u32 (h.e : Nat), .int .u32 (h.f : Nat), .int .u32 (h.g : Nat), .int .u32 (h.h : Nat)], .pointer (some ⟨kb, ko, none⟩), .pointer (some ⟨pb, po, none⟩)] w (UpPost (stL (uponS l h)) w) := by
  have zv := zero35
  have zw := zero34
  have hs0 := upS_start (stL h) w
  have Hb := hid hb
  have Hk := hid hk
  have Hs0 := hid hs0
  clear hb hk hs0
  go_enter Try.func35, Try.ntmps35
  go_upto_region 1 with (fail)
  change Code.wp _ _ _ _ ((w.alloc (.cells (stL h).toArray 53)).alloc (.cells z8 53))
  have hs0 := Hs0.out
  generalize ((w.alloc (.cells (stL h).toArray 53)).alloc (.cells z8 53)) = W0 at hs0 ⊢
  clear Hs0
  have Hs0 := hid hs0
  have hsz : w.heap.size ≤ W0.heap.size := hs0.bel.size
  clear hs0 zw
  have hsl : (sched l 64).map uv = wordsL l 64 := by simp [wordsL]
  have hlen := wordsL_len l 64 (Nat.le_refl _)
  have hz1 := size35 _ hlen
  have hz2 := z64_size _ hlen
  have h1 := words_one l 64
  go_wp2_with (first
    | (go_at_call 40; refine (spread_any l pb po W0 hl (fun j hj => (Hs0.out.bel.cell (p := ⟨pb, po + j, none⟩) hp).trans (Hb.out j hj)) (by omega)).mono ?_; rintro e W1 ⟨rfl, hb1⟩; rw [hsl])
    | (refine wpList_store_row (o := ⟨none, .store 54 (.tmp 7) (.tmp 22), _, _, _, _⟩) rfl 54 (.tmp 7) (.tmp 22) rfl W1.heap.size (wordsL l 64).toArray rfl rfl 54 z64 (heap_alloc_new W1 _) hz1 hz2 h1 ?_))
  obtain ⟨V, hV⟩ : ∃ V, V = W1.heap.size := ⟨_, rfl⟩
  have B2 : Below W0.heap.size W0 ((W1.alloc (.cells z64 54)).setRow W1.heap.size (wordsL l 64).toArray) := below_setRow ((hb1.alloc hb1.size _)) hb1.size _
  have R2 : ((W1.alloc (.cells z64 54)).setRow W1.heap.size (wordsL l 64).toArray).heap[V]? = some (.cells (wordsL l 64).toArray 54 (0, 0)) := by rw [hV]; exact setRow_heap _ _ _ _ _ _ (heap_alloc_new W1 _)
  rw [← hV] at B2 R2 ⊢
  clear hV
  have HS2 := Hs0.out.to B2
  change Code.wp _ _ _ _ ((W1.alloc (.cells z64 54)).setRow V (wordsL l 64).toArray)
  generalize ((W1.alloc (.cells z64 54)).setRow V (wordsL l 64).toArray) = W2 at HS2 R2 ⊢
  have Hs2 := hid HS2
  have HR2 := hid R2
  have Hh := hid hh
  have Hkk : Hid (∀ j, j < 64 → W2.cell? ⟨kb, ko + j, none⟩ = some (.int .u32 (kN j : Nat))) := fun j hj => (Hs2.out.bel.cell (p := ⟨kb, ko + j, none⟩) hkb).trans (Hk.out j hj)
  clear HS2 R2 B2 hb1 hz1 hz2 h1 hlen hsl zv Hs0 hsz Hb Hk hh hp hkb
  have c0 : W2.cell? ⟨w.heap.size, 0, none⟩ = some (.int .u32 (h.a : Nat)) := row_cell Hs2.out.b0 0
  have c1 : W2.cell? ⟨w.heap.size, 1, none⟩ = some (.int .u32 (h.b : Nat)) := row_cell Hs2.out.b0 1
  have c2 : W2.cell? ⟨w.heap.size, 2, none⟩ = some (.int .u32 (h.c : Nat)) := row_cell Hs2.out.b0 2
  have c3 : W2.cell? ⟨w.heap.size, 3, none⟩ = some (.int .u32 (h.d : Nat)) := row_cell Hs2.out.b0 3
  have c4 : W2.cell? ⟨w.heap.size, 4, none⟩ = some (.int .u32 (h.e : Nat)) := row_cell Hs2.out.b0 4
  have c5 : W2.cell? ⟨w.heap.size, 5, none⟩ = some (.int .u32 (h.f : Nat)) := row_cell Hs2.out.b0 5
  have c6 : W2.cell? ⟨w.heap.size, 6, none⟩ = some (.int .u32 (h.g : Nat)) := row_cell Hs2.out.b0 6
  have c7 : W2.cell? ⟨w.heap.size, 7, none⟩ = some (.int .u32 (h.h : Nat)) := row_cell Hs2.out.b0 7
  go_quiet (fail)
  clear c0 c1 c2 c3 c4 c5 c6 c7
  go_wp2_with fail
  go_loopw [39, 8, 9, 10, 11, 12, 13, 14, 15] (fun i a b c d e f g hx wr => ∃ (t n : Nat), t ≤ 64 ∧ i = .int .i64 t ∧ wr = W2.drewN n ∧ a = .int .u32 ((rnds l h t).a : Nat) ∧ b = .int .u32 ((rnds l h t).b : Nat) ∧ c = .int .u32 ((rnds l h t).c : Nat) ∧ d = .int .u32 ((rnds l h t).d : Nat) ∧ e = .int .u32 ((rnds l h t).e : Nat) ∧ f = .int .u32 ((rnds l h t).f : Nat) ∧ g = .int .u32 ((rnds l h t).g : Nat) ∧ hx = .int .u32 ((rnds l h t).h : Nat)) (fun i _ _ _ _ _ _ _ _ _ => 64 - (intOf i).toNat)
  case atStart => exact ⟨0, _, Nat.zero_le _, rfl, rfl, rfl, rfl, rfl, rfl, rfl, rfl, rfl, rfl⟩
  case round =>
    obtain ⟨t, n, ht, rfl, rfl, rfl, rfl, rfl, rfl, rfl, rfl, rfl, rfl⟩ := hrel
    by_cases hlt : t < 64
    · have hlz : (t : Int) < 64 := by omega
      obtain ⟨W, hW⟩ : ∃ W, W = W2.drewN n := ⟨_, rfl⟩
      have ck : W.cell? ⟨kb, ko + t, none⟩ = some (.int .u32 (kN t : Nat)) := by rw [hW]; exact Hkk.out t hlt
      have cw : W.cell? ⟨V, t, none⟩ = some (.int .u32 (wd l t : Nat)) := by
        rw [hW]; show W2.cell? _ = _
        rw [row_cell HR2.out t, List.getElem?_toArray, wordsL_get l 64 t hlt]; rfl
      rw [← hW]
      have HW := hid hW
      clear hW
      have hok := rnds_ok l h Hh.out t
      have Hr := hid (show rnds l h (t + 1) = rnd l (rnds l h t) t from rfl)
      have lk := kN_lt t
      have lw := wd_lt l t
      generalize rnds l h t = s at *
      obtain ⟨a, b, c, d, e, f, g, i⟩ := s
      have oa := hok.a
      have ob := hok.b
      have oc := hok.c
      have od := hok.d
      have oe := hok.e
      have of' := hok.f
      have og := hok.g
      have oh := hok.h
      simp only at oa ob oc od oe of' og oh
      have qc := ch_eq' e f g oe of' og
      have qm := ma_eq a b c oa ob oc
      have lc := chN_lt e f g oe of' og
      have lm := maN_lt a b c oa ob
      have lb0 := bs0_lt a oa
      have lb1 := bs1_lt e oe
      have e1 := t1_eq' l a b c d e f g i t
      have e2 := t2_eq' a b c d e f g i
      have l1 : t1 l ⟨a, b, c, d, e, f, g, i⟩ t < 4294967296 := Nat.mod_lt _ (by omega)
      have l2 : t2 ⟨a, b, c, d, e, f, g, i⟩ < 4294967296 := Nat.mod_lt _ (by omega)
      have Hrr : Hid (rnd l ⟨a, b, c, d, e, f, g, i⟩ t = ⟨(t1 l ⟨a, b, c, d, e, f, g, i⟩ t + t2 ⟨a, b, c, d, e, f, g, i⟩) % 4294967296, a, b, c, (d + t1 l ⟨a, b, c, d, e, f, g, i⟩ t) % 4294967296, e, f, g⟩) := rfl
      generalize t1 l ⟨a, b, c, d, e, f, g, i⟩ t = x1 at *
      generalize t2 ⟨a, b, c, d, e, f, g, i⟩ = x2 at *
      generalize kN t = kt at *
      generalize wd l t = wt at *
      have He1 := hid (And.intro e1 qc)
      clear e1 hok qc
      go_wp2_with fail
      go_quiet ((go_at_call 41; exact Calls.quiet_of_same ((bs1_any e oe _).mono (fun _ _ h => ⟨h.1, h.2.symm⟩))))
      rw [He1.out.2, He1.out.1]
      clear lc lb1 He1 ck cw
      go_wp2_with (go_at_call 41; with_reducible refine (bs0_any a oa _).mono ?_; rintro e w' ⟨rfl, rfl⟩)
      go_roundw
      case rel =>
        refine ⟨t + 1, n + nq, by omega, by go_num, by rw [HW.out, World.drewN_drewN], ?_⟩
        rw [Hr.out, Hrr.out]
        refine ⟨?_, rfl, rfl, rfl, ?_, rfl, rfl, rfl⟩
        · go_num
        · go_num
      case measure => simp [intOf]; omega
    · obtain rfl : t = 64 := by omega
      obtain ⟨W, hW⟩ : ∃ W, W = W2.drewN n := ⟨_, rfl⟩
      have HS : Hid (UpS (stL h) w W) := by rw [hW]; exact Hs2.out.drewN n
      rw [← hW]
      clear hW HR2 Hkk Hs2
      have hok := rnds_ok l h Hh.out 64
      have Hu := hid (show uponS l h = add2 h (rnds l h 64) from rfl)
      generalize rnds l h 64 = s at *
      have c0 : W.cell? ⟨w.heap.size, 0, none⟩ = some (.int .u32 (h.a : Nat)) := row_cell HS.out.b0 0
      have f0 := row_free HS.out.b0 0
      have c1 : W.cell? ⟨w.heap.size, 1, none⟩ = some (.int .u32 (h.b : Nat)) := row_cell HS.out.b0 1
      have f1 := row_free HS.out.b0 1
      have c2 : W.cell? ⟨w.heap.size, 2, none⟩ = some (.int .u32 (h.c : Nat)) := row_cell HS.out.b0 2
      have f2 := row_free HS.out.b0 2
      have c3 : W.cell? ⟨w.heap.size, 3, none⟩ = some (.int .u32 (h.d : Nat)) := row_cell HS.out.b0 3
      have f3 := row_free HS.out.b0 3
      have c4 : W.cell? ⟨w.heap.size, 4, none⟩ = some (.int .u32 (h.e : Nat)) := row_cell HS.out.b0 4
      have f4 := row_free HS.out.b0 4
      have c5 : W.cell? ⟨w.heap.size, 5, none⟩ = some (.int .u32 (h.f : Nat)) := row_cell HS.out.b0 5
      have f5 := row_free HS.out.b0 5
      have c6 : W.cell? ⟨w.heap.size, 6, none⟩ = some (.int .u32 (h.g : Nat)) := row_cell HS.out.b0 6
      have f6 := row_free HS.out.b0 6
      have c7 : W.cell? ⟨w.heap.size, 7, none⟩ = some (.int .u32 (h.h : Nat)) := row_cell HS.out.b0 7
      have f7 := row_free HS.out.b0 7
      have oa := hok.a
      have pa := Hh.out.a
      have ob := hok.b
      have pb := Hh.out.b
      have oc := hok.c
      have pc := Hh.out.c
      have od := hok.d
      have pd := Hh.out.d
      have oe := hok.e
      have pe := Hh.out.e
      have of := hok.f
      have pf := Hh.out.f
      have og := hok.g
      have pg := Hh.out.g
      have oh := hok.h
      have ph := Hh.out.h
      clear hok
      go_wp2_with fail
      have i0 := ix0
      have i1 := ix1
      have i2 := ix2
      have i3 := ix3
      have i4 := ix4
      have i5 := ix5
      have i6 := ix6
      have i7 := ix7
      refine wp_loop_rounds 9 ?_
      rw [rounds_succ]
      go_wp2_with fail
      rw [rounds_succ]
      go_wp2_with fail
      rw [rounds_succ]
      go_wp2_with fail
      rw [rounds_succ]
      go_wp2_with fail
      rw [rounds_succ]
      go_wp2_with fail
      rw [rounds_succ]
      go_wp2_with fail
      rw [rounds_succ]
      go_wp2_with fail
      rw [rounds_succ]
      go_wp2_with fail
      have H8 : UpS (((((((((stL h).set 0 (.int .u32 (((h.a : Int) + s.a) % 4294967296))).set 1 (.int .u32 (((h.b : Int) + s.b) % 4294967296))).set 2 (.int .u32 (((h.c : Int) + s.c) % 4294967296))).set 3 (.int .u32 (((h.d : Int) + s.d) % 4294967296))).set 4 (.int .u32 (((h.e : Int) + s.e) % 4294967296))).set 5 (.int .u32 (((h.f : Int) + s.f) % 4294967296))).set 6 (.int .u32 (((h.g : Int) + s.g) % 4294967296))).set 7 (.int .u32 (((h.h : Int) + s.h) % 4294967296))) w ((((((((W.setCell ⟨w.heap.size, 0, none⟩ (.int .u32 (((h.a : Int) + s.a) % 4294967296))).setCell ⟨w.heap.size, 1, none⟩ (.int .u32 (((h.b : Int) + s.b) % 4294967296))).setCell ⟨w.heap.size, 2, none⟩ (.int .u32 (((h.c : Int) + s.c) % 4294967296))).setCell ⟨w.heap.size, 3, none⟩ (.int .u32 (((h.d : Int) + s.d) % 4294967296))).setCell ⟨w.heap.size, 4, none⟩ (.int .u32 (((h.e : Int) + s.e) % 4294967296))).setCell ⟨w.heap.size, 5, none⟩ (.int .u32 (((h.f : Int) + s.f) % 4294967296))).setCell ⟨w.heap.size, 6, none⟩ (.int .u32 (((h.g : Int) + s.g) % 4294967296))).setCell ⟨w.heap.size, 7, none⟩ (.int .u32 (((h.h : Int) + s.h) % 4294967296))) := ((((((((HS.out.set 0 (.int .u32 (((h.a : Int) + s.a) % 4294967296))).set 1 (.int .u32 (((h.b : Int) + s.b) % 4294967296))).set 2 (.int .u32 (((h.c : Int) + s.c) % 4294967296))).set 3 (.int .u32 (((h.d : Int) + s.d) % 4294967296))).set 4 (.int .u32 (((h.e : Int) + s.e) % 4294967296))).set 5 (.int .u32 (((h.f : Int) + s.f) % 4294967296))).set 6 (.int .u32 (((h.g : Int) + s.g) % 4294967296))).set 7 (.int .u32 (((h.h : Int) + s.h) % 4294967296)))
      rw [set8 h s, ← Hu.out] at H8
      have hR8 : (Try.prog.info? 53).map (·.size) = some (stL (uponS l h)).toArray.size := stL_info _
      have hzz : z8.size = (stL (uponS l h)).toArray.size := stL_size _
      have hRo : (stL (uponS l h)).toArray.all (·.oneCell') = true := stL_one _
      generalize hRe : stL (uponS l h) = R at H8 hR8 hzz hRo ⊢
      have HRe := hid hRe
      clear hRe
      clear i0 i1 i2 i3 i4 i5 i6 i7
      rw [rounds_succ]
      generalize ((((((((W.setCell ⟨w.heap.size, 0, none⟩ (.int .u32 (((h.a : Int) + s.a) % 4294967296))).setCell ⟨w.heap.size, 1, none⟩ (.int .u32 (((h.b : Int) + s.b) % 4294967296))).setCell ⟨w.heap.size, 2, none⟩ (.int .u32 (((h.c : Int) + s.c) % 4294967296))).setCell ⟨w.heap.size, 3, none⟩ (.int .u32 (((h.d : Int) + s.d) % 4294967296))).setCell ⟨w.heap.size, 4, none⟩ (.int .u32 (((h.e : Int) + s.e) % 4294967296))).setCell ⟨w.heap.size, 5, none⟩ (.int .u32 (((h.f : Int) + s.f) % 4294967296))).setCell ⟨w.heap.size, 6, none⟩ (.int .u32 (((h.g : Int) + s.g) % 4294967296))).setCell ⟨w.heap.size, 7, none⟩ (.int .u32 (((h.h : Int) + s.h) % 4294967296))) = W9 at H8 ⊢
      have H9 := hid H8
      clear Hu HS c0 c1 c2 c3 c4 c5 c6 c7 f0 f1 f2 f3 f4 f5 f6 f7 H8
      have hz8 := hR8
      have hone := hRo
      go_wp2_with (first
        | (refine wpList_load_row rfl 53 (.tmp 3) rfl w.heap.size rfl 53 R.toArray (0, 0) _ H9.out.b0 Try.underlying53 rfl hz8 ?_)
        | (refine wpList_store_row (o := ⟨none, .store 53 (.tmp 6) (.tmp 112), _, _, _, _⟩) rfl 53 (.tmp 6) (.tmp 112) rfl (w.heap.size + 1) R.toArray rfl rfl 53 z8 H9.out.b1 hz8 hzz hone ?_))
      refine bodyPost_ret (results_cell_row (by kernel_rfl : Try.f35.results = #[.cell 6 53]) _ _ (w.heap.size + 1) 53 R.toArray (0, 0) _ rfl (setRow_heap _ _ _ _ _ _ H9.out.b1) Try.underlying53 rfl hz8) rfl ⟨by rw [HRe.out], ?_⟩
      exact below_setRow H9.out.bel (Nat.le_succ _) _
end Go.Proofs.Ytnifhgcdpgokhaa
