/-
  The contract of spread: the words of all steps of a block.
-/
import Derived.Test.YtnifhgcdpgokhaaStep
import Derived.RegionTactic
import Derived.BigRegion
import Derived.Deep.QuietTactic
import Derived.BigQuiet
import Derived.Deep.RegionWith
namespace Go.Proofs.Ytnifhgcdpgokhaa
open Go.RowKit

def uv (n : Nat) : Value := .int .u32 (n : Int)
def z64 : Array Value := Array.replicate 64 (.int .u32 0)
/-- The first t words, then noughts. -/
def wordsL (l : List UInt8) (t : Nat) : List Value := (sched l t).map uv ++ List.replicate (64 - t) (.int .u32 0)
theorem wordsL_len (l : List UInt8) (t : Nat) (h : t ≤ 64) : (wordsL l t).length = 64 := by simp [wordsL, sched_len]; omega
theorem wordsL_set (l : List UInt8) (t : Nat) (h : t < 64) : (wordsL l t).set t (uv (wd l t)) = wordsL l (t + 1) := by
  unfold wordsL
  rw [List.set_append_right _ _ (by simp [sched_len])]
  obtain ⟨d, hd⟩ : ∃ d, 64 - t = d + 1 := ⟨64 - t - 1, by omega⟩
  rw [hd, show 64 - (t + 1) = d by omega, List.replicate_succ]
  simp [sched_len, sched, wd]
theorem wordsL_get (l : List UInt8) (t j : Nat) (h : j < t) : (wordsL l t)[j]? = some (uv (wd l j)) := by
  unfold wordsL
  rw [List.getElem?_append_left (by simp [sched_len]; exact h), List.getElem?_map]
  have e := sched_getD l j t h
  rw [List.getD_eq_getElem?_getD] at e
  have hl : j < (sched l t).length := by rw [sched_len]; exact h
  rw [List.getElem?_eq_getElem hl] at e ⊢
  simp at e
  simp [e]
theorem zero35 (w : World) : (zeroValue 54).run Try.prog w = .ok (.agg z64) w := by kernel_rfl
theorem sz35 : (Try.prog.info? 54).map (·.size) = some 64 := by kernel_rfl
theorem or4_eq (x0 x1 x2 x3 : Nat) (b0 : x0 < 256) (b1 : x1 < 256) (b2 : x2 < 256) (b3 : x3 < 256) :
    bits BinOp.or IntKind.u32 (bits BinOp.or IntKind.u32 (bits BinOp.or IntKind.u32 ((x0 : Int) * 16777216) ((x1 : Int) * 65536)) ((x2 : Int) * 256)) (x3 : Int) = ((be4 x0 x1 x2 x3 : Nat) : Int) := by
  have e1 : (x0 : Int) * 16777216 = ((2 ^ 24 * x0 : Nat) : Int) := by show _ = ((16777216 * x0 : Nat) : Int); omega
  have e2 : (x1 : Int) * 65536 = ((65536 * x1 : Nat) : Int) := by omega
  have e3 : (x2 : Int) * 256 = ((256 * x2 : Nat) : Int) := by omega
  have h24 : (2 : Nat) ^ 24 = 16777216 := rfl
  have h16 : (2 : Nat) ^ 16 = 65536 := rfl
  have h8 : (2 : Nat) ^ 8 = 256 := rfl
  rw [e1, e2, e3, u32_or_nat _ _ (by omega) (by omega), or_add 24 x0 (65536 * x1) (by omega)]
  have e4 : 2 ^ 24 * x0 + 65536 * x1 = 2 ^ 16 * (256 * x0 + x1) := by omega
  rw [e4, u32_or_nat _ _ (by omega) (by omega), or_add 16 _ (256 * x2) (by omega)]
  have e5 : 2 ^ 16 * (256 * x0 + x1) + 256 * x2 = 2 ^ 8 * (256 * (256 * x0 + x1) + x2) := by omega
  rw [e5, u32_or_nat _ _ (by omega) (by omega), or_add 8 _ x3 (by omega)]
  unfold be4
  omega
theorem slice36 (pb po t : Nat) (ht : t < 16) (w : World) : (Instr.sliceAt 46 (.pointer (some ⟨pb, po, none⟩)) (some (.int .i64 (4 * (t : Int)))) (some (.int .i64 (4 * (t : Int) + 4))) none).run Try.prog w = .ok (.slice (some ⟨pb, po + 4 * t, none⟩) 4 (64 - 4 * t)) w := by
  have hs : (sizeOf (Try.prog.elem 46)).run Try.prog w = .ok 1 w := by kernel_rfl
  have hl : Try.prog.arrayLen 46 = 64 := by kernel_rfl
  rw [run_sliceAt_array_lh w 46 ⟨pb, po, none⟩ (by kernel_rfl) .i64 .i64 (4 * (t : Int)) (4 * (t : Int) + 4) (by omega) (by omega) (by rw [hl]; omega), hs, hl]
  have e1 : (4 * (t : Int)).toNat = 4 * t := by omega
  have e2 : (4 * (t : Int) + 4).toNat = 4 * t + 4 := by omega
  simp only [Result.andThen, slicedAt, e1, e2, Nat.mul_one]
  rw [if_neg (by omega)]
  have e3 : 4 * t + 4 - 4 * t = 4 := by omega
  rw [e3]
  cases t with
  | zero => rfl
  | succ k => rfl
theorem sg0_eq (x : Nat) (hx : x < 4294967296) : bits BinOp.xor IntKind.u32 (bits BinOp.xor IntKind.u32 (rr 7 x : Nat) (rr 18 x : Nat)) ((x : Int) / 8) = ((sg0 x : Nat) : Int) := by
  have e : (x : Int) / 8 = ((x / 8 : Nat) : Int) := by omega
  rw [e]; exact xor3_eq _ _ _ (rr7_lt x hx) (rr18_lt x hx) (by omega)
theorem sg1_eq (x : Nat) (hx : x < 4294967296) : bits BinOp.xor IntKind.u32 (bits BinOp.xor IntKind.u32 (rr 17 x : Nat) (rr 19 x : Nat)) ((x : Int) / 1024) = ((sg1 x : Nat) : Int) := by
  have e : (x : Int) / 1024 = ((x / 1024 : Nat) : Int) := by omega
  rw [e]; exact xor3_eq _ _ _ (rr17_lt x hx) (rr19_lt x hx) (by omega)

theorem words_one (l : List UInt8) (k : Nat) : (wordsL l k).toArray.all (·.oneCell') = true := by
  rw [List.all_toArray, List.all_eq_true]
  intro v hv
  simp only [wordsL, List.mem_append, List.mem_map, List.mem_replicate] at hv
  rcases hv with ⟨i, _, rfl⟩ | ⟨_, rfl⟩ <;> rfl
theorem size35 (L : List Value) (h : L.length = 64) : (Try.prog.info? 54).map (·.size) = some L.toArray.size := by
  rw [List.size_toArray, h]; exact sz35
theorem z64_size (L : List Value) (h : L.length = 64) : z64.size = L.toArray.size := by
  have e : L.toArray.size = 64 := by rw [List.size_toArray, h]
  exact Eq.trans (by kernel_rfl : z64.size = 64) e.symm
structure SpSt (l : List UInt8) (t : Nat) (w wr : World) : Prop where
  bel : Below w.heap.size w wr
  b0 : wr.heap[w.heap.size]? = some (.cells z64 54 (0, 0))
  b1 : wr.heap[w.heap.size + 1]? = some (.cells (wordsL l t).toArray 54 (0, 0))
theorem SpSt.next {l : List UInt8} {t : Nat} {w wr : World} (s : SpSt l t w wr) (ht : t < 64) (k : Nat) : SpSt l (t + 1) w ((wr.setCell ⟨w.heap.size + 1, t, none⟩ (uv (wd l t))).drewN k) := by
  have hk : ((wr.setCell ⟨w.heap.size + 1, t, none⟩ (uv (wd l t))).drewN k).heap = (wr.setCell ⟨w.heap.size + 1, t, none⟩ (uv (wd l t))).heap := rfl
  refine ⟨?_, ?_, ?_⟩
  · exact ⟨s.bel.os, s.bel.tape, s.bel.output, by rw [hk, World.size_setCell]; exact s.bel.size, fun i hi => by rw [hk, heap_setCell_other _ _ _ _ (by show i ≠ w.heap.size + 1; omega)]; exact s.bel.block i hi⟩
  · rw [hk, heap_setCell_other _ _ _ _ (by show w.heap.size ≠ w.heap.size + 1; omega)]; exact s.b0
  · rw [hk, row_set s.b1 t _, set_toArray, wordsL_set l t ht]

set_option maxRecDepth 10000 in
set_option maxHeartbeats 2000000 in
theorem spread_any (l : List UInt8) (pb po : Nat) (w : World) (hl : l.length = 64)
    (hb : ∀ j (hj : j < l.length), w.cell? ⟨pb, po + j, none⟩ = some (bv l[j])) (hp : pb < w.heap.size) :
    Calls Try.prog 40 #[.pointer (some ⟨pb, po, none⟩)] w fun e w' => e = .returned (.agg ((sched l 64).map uv).toArray) ∧ Below w.heap.size w w' := by
  have zv := zero35
  go_enter Try.func40, Try.ntmps40
  go_wp2_with fail
  go_loopw [10] (fun i wr => ∃ t : Nat, t ≤ 64 ∧ i = .int .i64 t ∧ SpSt l t w wr) (fun i _ => 64 - (intOf i).toNat)
  case atStart =>
    refine ⟨0, Nat.zero_le _, rfl, ?_, ?_, ?_⟩
    · have q := (Below.refl w.heap.size w).alloc (Nat.le_refl _) (.cells z64 54)
      exact q.alloc q.size _
    · exact heap_alloc2_old w _ _
    · exact heap_alloc2_new w _ _
  case round =>
    obtain ⟨t, ht, rfl, hs⟩ := hrel
    clear zv
    by_cases hlt : t < 64
    · have hlz : (t : Int) < 64 := by omega
      have cellT : ∃ v0, wr.cell? ⟨w.heap.size + 1, t, none⟩ = some v0 := ⟨(wordsL l t)[t]'(by rw [wordsL_len l t ht]; exact hlt), by rw [row_cell hs.b1 t, List.getElem?_toArray, List.getElem?_eq_getElem (by rw [wordsL_len l t ht]; exact hlt)]⟩
      obtain ⟨v0, hv0⟩ := cellT
      have hf0 := row_free hs.b1 t
      have cellJ : ∀ j, j < t → wr.cell? ⟨w.heap.size + 1, j, none⟩ = some (.int .u32 (wd l j : Nat)) := fun j hj => by
        rw [row_cell hs.b1 j, List.getElem?_toArray, wordsL_get l t j hj]; rfl
      by_cases h16 : t < 16
      · have g : ∀ j (hj : j < 64), wr.cell? ⟨pb, po + j, none⟩ = some (.int .u8 ((l.getD j 0).toNat : Nat)) := fun j hj => by
          rw [hs.bel.cell (p := ⟨pb, po + j, none⟩) hp, hb j (by omega)]
          have : l.getD j 0 = l[j]'(by omega) := by simp [List.getD, show j < l.length by omega]
          rw [this]; rfl
        have hw : wd l t = be4 (l.getD (4 * t) 0).toNat (l.getD (4 * t + 1) 0).toNat (l.getD (4 * t + 2) 0).toNat (l.getD (4 * t + 3) 0).toNat := wd_low l t h16
        have h0 := g (4 * t) (by omega)
        have h1 : wr.cell? ⟨pb, po + 4 * t + 1, none⟩ = _ := g (4 * t + 1) (by omega)
        have h2 : wr.cell? ⟨pb, po + 4 * t + 2, none⟩ = _ := g (4 * t + 2) (by omega)
        have h3 : wr.cell? ⟨pb, po + 4 * t + 3, none⟩ = _ := g (4 * t + 3) (by omega)
        have b0 := UInt8.toNat_lt (l.getD (4 * t) 0)
        have b1 := UInt8.toNat_lt (l.getD (4 * t + 1) 0)
        have b2 := UInt8.toNat_lt (l.getD (4 * t + 2) 0)
        have b3 := UInt8.toNat_lt (l.getD (4 * t + 3) 0)
        generalize (l.getD (4 * t) 0).toNat = x0 at *
        generalize (l.getD (4 * t + 1) 0).toNat = x1 at *
        generalize (l.getD (4 * t + 2) 0).toNat = x2 at *
        generalize (l.getD (4 * t + 3) 0).toNat = x3 at *
        have Hw := hid hw
        have Hs := hid hs
        have HL := hid hl
        clear g hw hs hb cellJ hl
        have sl := slice36 pb po t h16 wr
        have htz : (t : Int) < 16 := by omega
        go_wp2_with fail
        clear sl
        go_region
        go_wp2
        go_roundw
        case rel =>
          rw [or4_eq x0 x1 x2 x3 b0 b1 b2 b3, ← Hw.out]
          exact ⟨t + 1, by omega, by go_num, Hs.out.next hlt _⟩
        case measure => simp [intOf]; omega
      · have hw := wd_high l t (by omega)
        obtain ⟨m15, e15⟩ : ∃ m, m = t - 15 := ⟨_, rfl⟩
        obtain ⟨m2, e2⟩ : ∃ m, m = t - 2 := ⟨_, rfl⟩
        obtain ⟨m7, e7⟩ : ∃ m, m = t - 7 := ⟨_, rfl⟩
        obtain ⟨m16, e16⟩ : ∃ m, m = t - 16 := ⟨_, rfl⟩
        rw [← e15, ← e2, ← e7, ← e16] at hw
        have c15 := cellJ m15 (by omega)
        have c2 := cellJ m2 (by omega)
        have c7 := cellJ m7 (by omega)
        have c16 := cellJ m16 (by omega)
        have l15 := wd_lt l m15
        have l2 := wd_lt l m2
        have l7 := wd_lt l m7
        have l16 := wd_lt l m16
        have z15 : (t : Int) - 15 = (m15 : Int) := by omega
        have z2 : (t : Int) - 2 = (m2 : Int) := by omega
        have z7 : (t : Int) - 7 = (m7 : Int) := by omega
        have z16 : (t : Int) - 16 = (m16 : Int) := by omega
        have y15 : (m15 : Int) < 64 := by omega
        have y2 : (m2 : Int) < 64 := by omega
        have y7 : (m7 : Int) < 64 := by omega
        have y16 : (m16 : Int) < 64 := by omega
        have w15 : IntKind.i64.wrap (m15 : Int) = (m15 : Int) := IntWalk.i64_in _ (by omega)
        have w2 : IntKind.i64.wrap (m2 : Int) = (m2 : Int) := IntWalk.i64_in _ (by omega)
        have w7 : IntKind.i64.wrap (m7 : Int) = (m7 : Int) := IntWalk.i64_in _ (by omega)
        have w16 : IntKind.i64.wrap (m16 : Int) = (m16 : Int) := IntWalk.i64_in _ (by omega)
        generalize wd l m15 = x15 at *
        generalize wd l m2 = x2 at *
        generalize wd l m7 = x7 at *
        generalize wd l m16 = x16 at *
        have q0 := sg0_eq x15 l15
        have q1 := sg1_eq x2 l2
        have k0 := sg0_lt x15 l15
        have k1 := sg1_lt x2 l2
        have Hw := hid hw
        have Hs := hid hs
        have HL := hid hl
        clear hw hs hb cellJ hl e15 e2 e7 e16
        go_wp2_with fail
        go_quiet (fail)
        have HH : Hid ((wr.drewN nq).cell? ⟨w.heap.size + 1, m7, none⟩ = some (.int .u32 x7) ∧ (wr.drewN nq).cell? ⟨w.heap.size + 1, m16, none⟩ = some (.int .u32 x16) ∧ (wr.drewN nq).cell? ⟨w.heap.size + 1, t, none⟩ = some v0 ∧ (wr.drewN nq).frozen? ⟨w.heap.size + 1, t, none⟩ = false) := ⟨c7, c16, hv0, hf0⟩
        clear c15 c2 c7 c16 hv0 hf0
        obtain ⟨W, hW⟩ : ∃ W, W = wr.drewN nq := ⟨_, rfl⟩
        rw [← hW] at HH ⊢
        obtain ⟨d7, d16, dv0, df0⟩ := HH.out
        clear HH
        have HW := hid hW
        clear hW
        go_wp2_with (first
          | (go_at_call 43; with_reducible refine (rot7_any x15 l15 _).mono ?_; rintro e w' ⟨rfl, rfl⟩)
          | (go_at_call 43; with_reducible refine (rot18_any x15 l15 _).mono ?_; rintro e w' ⟨rfl, rfl⟩)
          | (go_at_call 43; with_reducible refine (rot17_any x2 l2 _).mono ?_; rintro e w' ⟨rfl, rfl⟩)
          | (go_at_call 43; with_reducible refine (rot19_any x2 l2 _).mono ?_; rintro e w' ⟨rfl, rfl⟩))
        clear q0 q1
        go_region
        go_wp2
        go_roundw
        case rel =>
          have ev : ((((sg1 x2 : Nat) : Int) + (x7 : Int) + ((sg0 x15 : Nat) : Int) + (x16 : Int)) % 4294967296) = ((wd l t : Nat) : Int) := by
            rw [Hw.out]; omega
          rw [ev]
          have HN := Hs.out.next hlt (nq + 1)
          refine ⟨t + 1, by omega, by go_num, ?_⟩
          rw [HW.out]
          exact HN
        case measure => simp [intOf]; omega
    · obtain rfl : t = 64 := by omega
      have hlen := wordsL_len l 64 ht
      have hfull : wordsL l 64 = (sched l 64).map uv := by simp [wordsL]
      have Hs := hid hs
      have hs1 := hs.b1
      have hs0 := hs.b0
      have hz1 := size35 _ hlen
      have hz2 := z64_size _ hlen
      have h1 := words_one l 64
      clear hs
      generalize wordsL l 64 = X at *
      have Hf := hid hfull
      clear hfull hlen
      go_wp2_with (first
        | (refine wpList_load_row rfl 54 (.tmp 3) rfl (w.heap.size + 1) rfl 54 X.toArray (0, 0) _ hs1 Try.underlying54 rfl hz1 ?_)
        | (refine wpList_store_row (o := ⟨none, .store 54 (.tmp 2) (.tmp 87), _, _, _, _⟩) rfl 54 (.tmp 2) (.tmp 87) rfl w.heap.size X.toArray rfl rfl 54 z64 hs0 hz1 hz2 h1 ?_))
      refine bodyPost_ret (results_cell_row (by kernel_rfl : Try.f40.results = #[.cell 2 54]) _ _ w.heap.size 54 X.toArray (0, 0) _ rfl (setRow_heap _ _ _ _ _ _ hs0) Try.underlying54 rfl hz1) rfl ⟨?_, ?_⟩
      · rw [Hf.out]
      · exact below_setRow Hs.out.bel (Nat.le_refl _) _
end Go.Proofs.Ytnifhgcdpgokhaa
