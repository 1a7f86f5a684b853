/-
  A block of sixteen bytes in memory, told by its places; what changes one block alone; the contract of 'add'.
-/
import Derived.Test.YtlgabihjfjlhkaaByte
import Derived.Test.YtlgabihjfjlhkaaCip
import Derived.BigRegion
namespace Go.Proofs.Ytlgabihjfjlhkaa
open Go.RowKit

def nv (n : Nat) : Value := .int .u8 (n : Int)
def blkL (f : Blk16) : List Value := (List.range 16).map (fun j => nv (f j))
theorem blkL_len (f : Blk16) : (blkL f).length = 16 := by simp [blkL]
theorem blkL_get (f : Blk16) (j : Nat) (h : j < 16) : (blkL f)[j]? = some (nv (f j)) := by simp [blkL, h]
theorem blkL_same {f g : Blk16} (h : Same f g) : blkL f = blkL g := by
  unfold blkL
  apply List.map_congr_left
  intro j hj
  rw [h j (List.mem_range.1 hj)]
def upd (f : Blk16) (j v : Nat) : Blk16 := fun i => if i = j then v else f i
theorem blkL_upd (f : Blk16) (j v : Nat) (_h : j < 16) : (blkL f).set j (nv v) = blkL (upd f j v) := by
  apply List.ext_getElem?
  intro i
  rw [List.getElem?_set, blkL_len]
  by_cases hi : i < 16
  · rw [blkL_get _ i hi, blkL_get _ i hi]
    unfold upd
    by_cases e : j = i
    · subst e; rw [if_pos rfl, if_pos hi, if_pos rfl]
    · rw [if_neg e, if_neg (Ne.symm e)]
  · have e1 : (blkL f)[i]? = none := List.getElem?_eq_none (by rw [blkL_len]; omega)
    have e2 : (blkL (upd f j v))[i]? = none := List.getElem?_eq_none (by rw [blkL_len]; omega)
    rw [e1, e2]
    by_cases e : j = i
    · omega
    · rw [if_neg e]
/-- All but block g stays. -/
structure But (g : Nat) (w w' : World) : Prop where
  os : w'.os = w.os
  tape : w'.tape = w.tape
  output : w'.output = w.output
  size : w.heap.size ≤ w'.heap.size
  block : ∀ i, i < w.heap.size → i ≠ g → w'.heap[i]? = w.heap[i]?
theorem But.refl (g : Nat) (w : World) : But g w w := ⟨rfl, rfl, rfl, Nat.le_refl _, fun _ _ _ => rfl⟩
theorem But.trans {g : Nat} {a b c : World} (h : But g a b) (k : But g b c) : But g a c :=
  ⟨k.os.trans h.os, k.tape.trans h.tape, k.output.trans h.output, Nat.le_trans h.size k.size, fun i hi hg => (k.block i (Nat.lt_of_lt_of_le hi h.size) hg).trans (h.block i hi hg)⟩
theorem But.drewN {g : Nat} {a b : World} (h : But g a b) (n : Nat) : But g a (b.drewN n) := ⟨h.os, h.tape, h.output, h.size, h.block⟩
theorem But.drew {g : Nat} {a b : World} (h : But g a b) : But g a b.drew := ⟨h.os, h.tape, h.output, h.size, h.block⟩
theorem But.of {g : Nat} {a b : World} (h : Below a.heap.size a b) : But g a b := ⟨h.os, h.tape, h.output, h.size, fun i hi _ => h.block i hi⟩
theorem But.below {g B : Nat} {w0 w w' : World} (h : But g w w') (hb : Below B w0 w) (hg : B ≤ g) (hs : B ≤ w.heap.size) : Below B w0 w' :=
  ⟨h.os.trans hb.os, h.tape.trans hb.tape, h.output.trans hb.output, Nat.le_trans hb.size h.size, fun i hi => (h.block i (by omega) (by omega)).trans (hb.block i hi)⟩
theorem But.set {g : Nat} {a b : World} (h : But g a b) (j : Nat) (v : Value) : But g a (b.setCell ⟨g, j, none⟩ v) :=
  ⟨h.os, h.tape, h.output, by rw [World.size_setCell]; exact h.size, fun i hi hg => (heap_setCell_other _ _ _ _ hg).trans (h.block i hi hg)⟩
theorem But.cell {g : Nat} {a b : World} (h : But g a b) {ad : Addr} {v : Value} (hc : a.cell? ad = some v) (hg : ad.block ≠ g) : b.cell? ad = some v := by
  have hl := lt_of_cell hc
  unfold World.cell? at *
  rw [h.block _ hl hg]
  exact hc
/-- Block g holds these sixteen bytes. -/
def BlkAt (w : World) (g : Nat) (f : Blk16) : Prop := w.heap[g]? = some (.cells (blkL f).toArray 53 (0, 0))
theorem lt_of_heap {w : World} {g : Nat} {o : Obj} (d : w.heap[g]? = some o) : g < w.heap.size := by
  rcases Nat.lt_or_ge g w.heap.size with hlt | hge
  · exact hlt
  · rw [Array.getElem?_eq_none hge] at d; cases d
theorem BlkAt.lt {w : World} {g : Nat} {f : Blk16} (h : BlkAt w g f) : g < w.heap.size := lt_of_heap h
theorem BlkAt.cell {w : World} {g : Nat} {f : Blk16} (h : BlkAt w g f) (j : Nat) (hj : j < 16) : w.cell? ⟨g, j, none⟩ = some (.int .u8 (f j : Nat)) := by
  rw [row_cell h j, List.getElem?_toArray, blkL_get f j hj]; rfl
theorem BlkAt.free {w : World} {g : Nat} {f : Blk16} (h : BlkAt w g f) (j : Nat) : w.frozen? ⟨g, j, none⟩ = false := row_free h j
theorem BlkAt.set {w : World} {g : Nat} {f : Blk16} (h : BlkAt w g f) (j v : Nat) (hj : j < 16) : BlkAt (w.setCell ⟨g, j, none⟩ (.int .u8 (v : Nat))) g (upd f j v) := by
  unfold BlkAt
  rw [row_set h j, set_toArray, show (Value.int .u8 (v : Nat)) = nv v from rfl, blkL_upd f j v hj]
theorem BlkAt.same {w : World} {g : Nat} {f f' : Blk16} (h : BlkAt w g f) (e : Same f f') : BlkAt w g f' := by
  unfold BlkAt; rw [← blkL_same e]; exact h
theorem BlkAt.drewN {w : World} {g : Nat} {f : Blk16} (h : BlkAt w g f) (n : Nat) : BlkAt (w.drewN n) g f := h
theorem BlkAt.drew {w : World} {g : Nat} {f : Blk16} (h : BlkAt w g f) : BlkAt w.drew g f := h
theorem BlkAt.on {w w' : World} {g g' : Nat} {f : Blk16} (h : BlkAt w g f) (hb : But g' w w') (hg : g ≠ g') : BlkAt w' g f := (hb.block g h.lt hg).trans h
/-- Sixteen bytes at an address. -/
def Reads (w : World) (ad : Addr) (k : Blk16) : Prop := ∀ j, j < 16 → w.cell? (ad.add j) = some (.int .u8 (k j : Nat))
theorem Reads.on {w w' : World} {g : Nat} {ad : Addr} {k : Blk16} (h : Reads w ad k) (hb : But g w w') (hg : ad.block ≠ g) : Reads w' ad k :=
  fun j hj => hb.cell (h j hj) (by rw [block_of_add]; exact hg)
/-- The first n places xor'd. -/
def addP (f k : Blk16) (n : Nat) : Blk16 := fun j => if j < n then f j ^^^ k j else f j
theorem addP_next (f k : Blk16) (n : Nat) : Same (upd (addP f k n) n (f n ^^^ k n)) (addP f k (n + 1)) := by
  intro j _
  unfold upd addP
  by_cases e : j = n
  · subst e; simp
  · rw [if_neg e]
    by_cases h : j < n
    · rw [if_pos h, if_pos (by omega)]
    · rw [if_neg h, if_neg (by omega)]

set_option maxRecDepth 10000 in
set_option maxHeartbeats 1000000 in
theorem add_any (g : Nat) (f k : Blk16) (ad : Addr) (w : World) (h : BlkAt w g f) (hf : Low f) (hk : Reads w ad k) (hl : Low k) (hg : ad.block ≠ g) :
    Calls Try.prog 23 #[.pointer (some ⟨g, 0, none⟩), .pointer (some ad)] w fun e w' => e = .returned (.tuple #[]) ∧ BlkAt w' g (addF f k) ∧ But g w w' := by
  have H0 : Hid (BlkAt w g (addP f k 0)) := h.same (fun j _ => by unfold addP; rw [if_neg (by omega)])
  have B0 : Hid (But g w w) := But.refl g w
  have HK := hid hk
  clear h hk
  go_enter Try.func23, Try.ntmps23
  go_wp2_with fail
  go_loopw [7] (fun i wr => ∃ t : Nat, t ≤ 16 ∧ i = .int .i64 t ∧ Hid (BlkAt wr g (addP f k t)) ∧ Hid (But g w wr)) (fun i _ => 16 - (intOf i).toNat)
  case atStart => exact ⟨0, Nat.zero_le _, rfl, H0, B0⟩
  case round =>
    obtain ⟨t, ht, rfl, hs, hb⟩ := hrel
    clear H0 B0
    by_cases hlt : t < 16
    · have hlz : (t : Int) < 16 := by omega
      have c1 := hs.out.cell t hlt
      rw [show addP f k t t = f t by unfold addP; rw [if_neg (by omega)]] at c1
      have c2 : wr.cell? (ad.add t) = some (.int .u8 (k t : Nat)) := (HK.out.on hb.out hg) t hlt
      have f1 := hs.out.free t
      have l1 := hf t hlt
      have l2 := hl t hlt
      have q := u8_xor_nat _ _ l1 l2
      have hn : Hid (BlkAt (wr.setCell ⟨g, t, none⟩ (.int .u8 ((f t ^^^ k t : Nat) : Int))) g (addP f k (t + 1))) := (hs.out.set t _ hlt).same (addP_next f k t)
      have hn2 : Hid (∀ n, But g w ((wr.drewN n).setCell ⟨g, t, none⟩ (.int .u8 ((f t ^^^ k t : Nat) : Int)))) := fun n => (hb.out.drewN n).set t _
      have lz := xor8 l1 l2
      generalize f t ^^^ k t = z at q hn hn2 lz
      generalize k t = y at c2 l2 q
      generalize f t = x at c1 l1 q
      go_wp2_with fail
      go_quiet (fail)
      go_wp2_with fail
      go_region
      go_wp2_with fail
      go_roundw
      case rel => exact ⟨t + 1, by omega, by go_num, hn, hid (hn2.out _)⟩
      case measure => simp [intOf]; omega
    · obtain rfl : t = 16 := by omega
      have e : Same (addP f k 16) (addF f k) := fun j hj => by unfold addP addF; rw [if_pos hj]
      go_wp2_with fail
      refine bodyPost_end (results_none rfl _ _ _) rfl ⟨rfl, hs.out.same e, hb.out⟩
end Go.Proofs.Ytlgabihjfjlhkaa
