/-
  A block of rows in memory, and the contract of the document's keyed.
-/
import Derived.Test.YtlgabihjfjlhkaaCip
import Derived.Test.YtlgabihjfjlhkaaBox
import Derived.Test.YtlgabihjfjlhkaaTurn
import Derived.Test.YtlgabihjfjlhkaaCi
import Derived.Deep.Cut
namespace Go.Proofs.Ytlgabihjfjlhkaa
open Go.RowKit

/-- Row and column to place, and back. -/
def tr (q : Nat) : Nat := 4 * (q % 4) + q / 4
theorem tr_lt (q : Nat) (h : q < 16) : tr q < 16 := by unfold tr; omega
theorem tr_tr (q : Nat) (h : q < 16) : tr (tr q) = q := by unfold tr; omega
/-- The cells of a block, row by row. -/
def rwL (f : Blk16) : List Value := blkL (fun q => f (tr q))
theorem rwL_len (f : Blk16) : (rwL f).length = 16 := blkL_len _
theorem rwL_same {f g : Blk16} (h : Same f g) : rwL f = rwL g := blkL_same fun q hq => h _ (tr_lt q hq)
theorem rwL_upd (f : Blk16) (q v : Nat) (h : q < 16) : (rwL f).set q (nv v) = rwL (upd f (tr q) v) := by
  unfold rwL
  rw [blkL_upd _ q v h]
  apply blkL_same
  intro j hj
  show (if j = q then v else f (tr j)) = (if tr j = tr q then v else f (tr j))
  by_cases e : j = q
  · subst e; rw [if_pos rfl, if_pos rfl]
  · rw [if_neg e, if_neg (fun e2 : tr j = tr q => e (by rw [← tr_tr j hj, e2, tr_tr q h]))]
theorem rwL_one (f : Blk16) : (rwL f).toArray.all (·.oneCell') = true := blkL_one _
def RwAt (w : World) (g : Nat) (f : Blk16) : Prop := w.heap[g]? = some (.cells (rwL f).toArray 69 (0, 0))
theorem RwAt.lt {w : World} {g : Nat} {f : Blk16} (h : RwAt w g f) : g < w.heap.size := lt_of_heap h
theorem RwAt.cell {w : World} {g : Nat} {f : Blk16} (h : RwAt w g f) (q : Nat) (hq : q < 16) : w.cell? ⟨g, q, none⟩ = some (.int .u8 (f (tr q) : Nat)) := by
  rw [row_cell h q, List.getElem?_toArray]; unfold rwL; rw [blkL_get _ q hq]; rfl
theorem RwAt.free {w : World} {g : Nat} {f : Blk16} (h : RwAt w g f) (q : Nat) : w.frozen? ⟨g, q, none⟩ = false := row_free h q
theorem RwAt.set {w : World} {g : Nat} {f : Blk16} (h : RwAt w g f) (q v : Nat) (hq : q < 16) : RwAt (w.setCell ⟨g, q, none⟩ (.int .u8 (v : Nat))) g (upd f (tr q) v) := by
  unfold RwAt
  rw [row_set h q, set_toArray, show (Value.int .u8 (v : Nat)) = nv v from rfl, rwL_upd f q v hq]
theorem RwAt.same {w : World} {g : Nat} {f f' : Blk16} (h : RwAt w g f) (e : Same f f') : RwAt w g f' := by
  unfold RwAt; rw [← rwL_same e]; exact h
theorem RwAt.drew {w : World} {g : Nat} {f : Blk16} (h : RwAt w g f) : RwAt w.drew g f := h
theorem RwAt.on {w w' : World} {g g' : Nat} {f : Blk16} (h : RwAt w g f) (hb : But g' w w') (hg : g ≠ g') : RwAt w' g f := (hb.block g h.lt hg).trans h
theorem RwAt.onB {w w' : World} {g : Nat} {f : Blk16} (h : RwAt w g f) (hb : Below w.heap.size w w') : RwAt w' g f := (hb.block g h.lt).trans h
theorem zero62 (w : World) : (zeroValue 69).run Try.prog w = .ok (.agg zb16) w := by kernel_rfl
theorem zb16_rw : zb16 = (rwL (fun _ => 0)).toArray := by kernel_rfl
theorem size62 (L : List Value) (h : L.length = 16) : (Try.prog.info? 69).map (·.size) = some L.toArray.size := by
  rw [List.size_toArray, h]; kernel_rfl
/-- Where the list of a key's words lies: its cells are slices, and these have the words' bytes. -/
def WordsAt (w : World) (gl cl : Nat) (K : Nat → Nat) : Prop := cl ≤ cl ∧ gl < w.heap.size ∧ ∀ i, i < 60 → ∃ ad c, w.cell? ⟨gl, i, none⟩ = some (.slice (some ad) 4 c) ∧ ad.block < w.heap.size ∧ ∀ j, j < 4 → w.cell? (ad.add j) = some (.int .u8 (wordF K i j : Nat))
theorem WordsAt.on {w w' : World} {gl cl : Nat} {K : Nat → Nat} (h : WordsAt w gl cl K) (hb : Below w.heap.size w w') : WordsAt w' gl cl K := by
  obtain ⟨h0, h1, h2⟩ := h
  refine ⟨h0, Nat.lt_of_lt_of_le h1 hb.size, fun i hi => ?_⟩
  obtain ⟨ad, c, e1, e2, e3⟩ := h2 i hi
  refine ⟨ad, c, (hb.cell h1).trans e1, Nat.lt_of_lt_of_le e2 hb.size, fun j hj => ?_⟩
  exact (hb.cell (p := ad.add j) (by rw [block_of_add]; exact e2)).trans (e3 j hj)
/-- The first n cells, row by row, xor'd. -/
def kyP (f k : Blk16) (n : Nat) : Blk16 := fun j => if tr j < n then f j ^^^ k j else f j
theorem kyP_next (f k : Blk16) (n : Nat) (hn : n < 16) : Same (upd (kyP f k n) (tr n) (f (tr n) ^^^ k (tr n))) (kyP f k (n + 1)) := by
  intro j hj
  unfold upd kyP
  by_cases e : j = tr n
  · subst e; rw [if_pos rfl, if_pos (by rw [tr_tr n hn]; omega)]
  · have hne : tr j ≠ n := fun e2 => e (by rw [← tr_tr j hj, e2])
    rw [if_neg e]
    by_cases h : tr j < n
    · rw [if_pos h, if_pos (by omega)]
    · rw [if_neg h, if_neg (by omega)]
theorem kyP_at (f k : Blk16) (n : Nat) (hn : n < 16) : kyP f k n (tr n) = f (tr n) := by
  unfold kyP; rw [if_neg (by rw [tr_tr n hn]; omega)]
structure KySt (w wr : World) (gb go : Nat) (f : Blk16) : Prop where
  box : RwAt wr gb f
  out : wr.heap[go]? = some (.cells zb16 69 (0, 0))
  bel : Below w.heap.size w wr
  ge : w.heap.size ≤ gb
  ne : go ≠ gb
  go2 : w.heap.size ≤ go
theorem KySt.set {w wr : World} {gb go : Nat} {f : Blk16} (s : KySt w wr gb go f) (q v : Nat) (hq : q < 16) : KySt w (wr.setCell ⟨gb, q, none⟩ (.int .u8 (v : Nat))).drew gb go (upd f (tr q) v) := by
  have b := (But.refl gb wr).set q (.int .u8 (v : Nat))
  exact ⟨s.box.set q v hq, (b.block go (lt_of_heap s.out) s.ne).trans s.out, ((b.below s.bel s.ge s.bel.size)).drew, s.ge, s.ne, s.go2⟩
theorem KySt.same {w wr : World} {gb go : Nat} {f f' : Blk16} (s : KySt w wr gb go f) (e : Same f f') : KySt w wr gb go f' := ⟨s.box.same e, s.out, s.bel, s.ge, s.ne, s.go2⟩
theorem row3 : (Try.prog.info? 69).isSome = true := by kernel_rfl
set_option maxRecDepth 10000 in
set_option maxHeartbeats 2000000 in
theorem keyed_any (f : Blk16) (gl cl r : Nat) (K : Nat → Nat) (w : World) (hf : Low f) (hk : ∀ j, j < 32 → K j < 256) (hr : r ≤ 14) (hw : WordsAt w gl cl K) :
    Calls Try.prog 41 #[.agg (rwL f).toArray, .slice (some ⟨gl, 0, none⟩) 60 cl, .int .i64 r] w fun e w' => e = .returned (.agg (rwL (addF f (keyF K r))).toArray) ∧ Below w.heap.size w w' := by
  have zv := zero62
  have HW := hid hw
  have hkl := Low.key K hk r
  have S0 : Hid (KySt w ((w.alloc (.cells (rwL f).toArray 69)).alloc (.cells zb16 69)) w.heap.size (w.heap.size + 1) (kyP f (keyF K r) 0)) := by
    refine ⟨?_, ?_, ?_, Nat.le_refl _, by omega, by omega⟩
    · have e : RwAt ((w.alloc (.cells (rwL f).toArray 69)).alloc (.cells zb16 69)) w.heap.size f := heap_alloc2_old w _ _
      exact e.same fun j _ => by unfold kyP; rw [if_neg (by omega)]
    · exact heap_alloc2_new w _ _
    · have q := (Below.refl w.heap.size w).alloc (Nat.le_refl _) (.cells (rwL f).toArray 69)
      exact q.alloc q.size _
  clear hw
  go_enter Try.func41, Try.ntmps41
  go_wp2_with fail
  generalize ((w.alloc (.cells (rwL f).toArray 69)).alloc (.cells zb16 69)) = W0 at S0 ⊢
  have hgo : w.heap.size + 1 ≠ w.heap.size := by omega
  obtain ⟨gb, hgb⟩ : ∃ g, g = w.heap.size := ⟨_, rfl⟩
  obtain ⟨go, hgo2⟩ : ∃ g, g = w.heap.size + 1 := ⟨_, rfl⟩
  have S1 : Hid (KySt w W0 gb go (kyP f (keyF K r) 0)) := by rw [hgb, hgo2]; exact S0
  rw [← hgo2, ← hgb]
  clear S0 hgo hgb hgo2
  go_loopw [7, 8] (fun va _ wx => ∃ a : Nat, a ≤ 4 ∧ va = .int .i64 a ∧ Hid (KySt w wx gb go (kyP f (keyF K r) (4 * a)))) (fun va _ _ => 4 - (intOf va).toNat)
  case atStart => exact ⟨0, Nat.zero_le _, rfl, S1⟩
  case round =>
    obtain ⟨a, ha, rfl, hs⟩ := hrel
    clear S1
    by_cases hlt : a < 4
    · have hlz : (a : Int) < 4 := by omega
      go_wp2_with fail
      go_loopw [8] (fun vb wx => ∃ b : Nat, b ≤ 4 ∧ vb = .int .i64 b ∧ Hid (KySt w wx gb go (kyP f (keyF K r) (4 * a + b)))) (fun vb _ => 4 - (intOf vb).toNat)
      case atStart => exact ⟨0, Nat.zero_le _, rfl, hs⟩
      case round =>
        obtain ⟨b, hb, rfl, hsx⟩ := hrel
        clear hs
        by_cases hlt2 : b < 4
        · have hbz : (b : Int) < 4 := by omega
          have hq : 4 * a + b < 16 := by omega
          have htr : tr (4 * a + b) = 4 * b + a := by unfold tr; omega
          have c1 := hsx.out.box.cell (4 * a + b) hq
          rw [kyP_at f _ _ hq, htr] at c1
          have f1 := hsx.out.box.free (4 * a + b)
          obtain ⟨ad, cc, c2, _, hby⟩ := (HW.out.on hsx.out.bel).2.2 (4 * r + b) (by omega)
          have c3 := hby a hlt
          have hkey : keyF K r (4 * b + a) = wordF K (4 * r + b) a := by
            unfold keyF; rw [show (4 * b + a) / 4 = b by omega, show (4 * b + a) % 4 = a by omega]
          have l1 := hf (4 * b + a) (by omega)
          have l2 := hkl (4 * b + a) (by omega)
          rw [hkey] at l2
          have SN := hid ((hsx.out.set (4 * a + b) (f (4 * b + a) ^^^ wordF K (4 * r + b) a) hq).same (by have e := kyP_next f (keyF K r) (4 * a + b) hq; rw [htr, hkey] at e; rw [htr]; exact e))
          have lz := xor8 l1 l2
          have qx := u8_xor_nat _ _ l1 l2
          generalize f (4 * b + a) ^^^ wordF K (4 * r + b) a = z at qx lz SN
          generalize f (4 * b + a) = x at c1 l1 qx
          generalize wordF K (4 * r + b) a = y at c3 l2 qx
          obtain ⟨u, hu⟩ : ∃ u, u = 4 * r + b := ⟨_, rfl⟩
          rw [← hu] at c2
          obtain ⟨r4, hr4⟩ : ∃ u, u = 4 * r := ⟨_, rfl⟩
          have i1 : IntKind.i64.wrap (4 * (r : Int)) = (r4 : Int) := by rw [IntWalk.i64_in _ (by omega)]; omega
          have i2 : IntKind.i64.wrap ((r4 : Int) + (b : Int)) = (u : Int) := by rw [IntWalk.i64_in _ (by omega)]; omega
          have i3 : (u : Int) < 60 := by omega
          have e1 : 4 * a + b = a * 4 + b := by omega
          rw [e1] at c1 f1 SN
          clear hu hr4 hby hkey htr hq
          go_wp2_with fail
          go_still_tail 20, (by kernel_rfl)
          change wpList _ _ _ _ _ wr.drew
          go_wp2_with fail
          go_roundw
          case rel => exact ⟨b + 1, by omega, by go_num, by rw [show 4 * a + (b + 1) = a * 4 + b + 1 by omega]; exact SN⟩
          case measure => simp [intOf]; omega
        · obtain rfl : b = 4 := by omega
          go_wp2_with fail
          go_roundw
          case rel => exact ⟨a + 1, by omega, by go_num, by rw [show 4 * (a + 1) = 4 * a + 4 by omega]; exact hsx⟩
          case measure => simp [intOf]; omega
    · obtain rfl : a = 4 := by omega
      have e : Same (kyP f (keyF K r) 16) (addF f (keyF K r)) := fun j hj => by unfold kyP addF; rw [if_pos (tr_lt j hj)]
      have hs2 := hid (hs.out.same e)
      have Hb1 := hid hs2.out.box
      have Hb2 := hid hs2.out.out
      have HS2 := size62 (rwL (addF f (keyF K r))) (rwL_len _)
      have HS3 := zb16_size (rwL (addF f (keyF K r))) (rwL_len _)
      have H1 := hid HS2
      have H3 := hid HS3
      clear HS2 HS3 hs
      go_wp2_with (first
        | (refine wpList_load_row rfl 69 (.tmp 3) rfl gb rfl 69 (rwL (addF f (keyF K r))).toArray (0, 0) _ Hb1.out Try.underlying69 rfl H1.out ?_)
        | (refine wpList_store_row (o := ⟨none, .store 69 (.tmp 6) (.tmp 37), _, _, _, _⟩) rfl 69 (.tmp 6) (.tmp 37) rfl go (rwL (addF f (keyF K r))).toArray rfl rfl 69 zb16 Hb2.out H1.out H3.out (rwL_one _) ?_))
      refine bodyPost_ret (results_cell_row (by kernel_rfl : Try.f41.results = #[.cell 6 69]) _ _ go 69 (rwL (addF f (keyF K r))).toArray (0, 0) _ rfl (setRow_heap _ _ _ _ _ _ Hb2.out) Try.underlying69 rfl H1.out) rfl ⟨rfl, ?_⟩
      exact below_setRow hs2.out.bel hs2.out.go2 _
end Go.Proofs.Ytlgabihjfjlhkaa
