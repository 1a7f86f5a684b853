/-
  Thirty-two bytes xor thirty-two others, in memory, byte by byte; four bytes of a number.
-/
import Derived.Test.YtnifhgcdpgokhaaMac
import Derived.Test.YtnifhgcdpgokhaaEq
namespace Go.Proofs.Ytnifhgcdpgokhaa
open Go.RowKit

theorem ix30 (l : List UInt8) (k : Nat) (hk : k < 32) (v : Value) (hv : (l.map bv)[k]? = some v) (w : World) : (Instr.index 30 (.agg (l.map bv).toArray) (.int .i64 (k : Nat))).run Try.prog w = .ok v w := by
  have hs : (sizeOf 5).run Try.prog w = .ok 1 w := by kernel_rfl
  have hp := part5 (l.map bv).toArray (k * 1) v (by rw [Nat.mul_one, List.getElem?_toArray]; exact hv) w
  rw [Nat.mul_one] at hp
  simp [Instr.index, asIntOf, Sem.run_bind, run_underlying Try.underlying30, hs, hk, hp]
/-- The first k bytes xor'd. -/
def xorP (x u : List UInt8) (k : Nat) : List UInt8 := xorL (x.take k) (u.take k) ++ x.drop k
theorem xorP_zero (x u : List UInt8) : xorP x u 0 = x := by simp [xorP, xorL]
theorem xorP_len (x u : List UInt8) (k : Nat) (hx : x.length = 32) (hu : u.length = 32) (hk : k ≤ 32) : (xorP x u k).length = 32 := by
  unfold xorP
  rw [List.length_append, xorL_len, List.length_take, List.length_take, List.length_drop]; omega
theorem xorP_end (x u : List UInt8) (hx : x.length = 32) (hu : u.length = 32) : xorP x u 32 = xorL x u := by
  unfold xorP
  rw [List.take_of_length_le (by omega), List.take_of_length_le (by omega), List.drop_of_length_le (by omega), List.append_nil]
theorem xorL_take_len (x u : List UInt8) (k : Nat) (hx : x.length = 32) (hu : u.length = 32) (hk : k ≤ 32) : (xorL (x.take k) (u.take k)).length = k := by
  rw [xorL_len, List.length_take, List.length_take]; omega
theorem xorP_get (x u : List UInt8) (k : Nat) (hx : x.length = 32) (hu : u.length = 32) (hk : k < 32) : (xorP x u k)[k]? = some (x[k]'(by omega)) := by
  have hl := xorL_take_len x u k hx hu (by omega)
  unfold xorP
  rw [List.getElem?_append_right (by omega), hl, Nat.sub_self, List.getElem?_drop, Nat.add_zero, List.getElem?_eq_getElem (by omega)]
theorem xorP_set (x u : List UInt8) (k : Nat) (hx : x.length = 32) (hu : u.length = 32) (hk : k < 32) : (xorP x u k).set k ((x[k]'(by omega)) ^^^ (u[k]'(by omega))) = xorP x u (k + 1) := by
  have hl := xorL_take_len x u k hx hu (by omega)
  unfold xorP
  rw [List.set_append_right _ _ (by omega), hl, Nat.sub_self, List.drop_eq_getElem_cons (by omega : k < x.length), List.set_cons_zero,
    List.take_succ_eq_append_getElem (by omega : k < x.length), List.take_succ_eq_append_getElem (by omega : k < u.length)]
  unfold xorL
  rw [List.zipWith_append (by simp; omega), List.append_assoc]
  rfl
theorem be4_cells (i : Nat) (hi : i < 4294967296) : (#[.int .u8 ((i : Int) / 16777216), .int .u8 ((i : Int) / 65536 % 256), .int .u8 ((i : Int) / 256 % 256), .int .u8 ((i : Int) % 256)] : Array Value) = ((be4L i).map bv).toArray := by
  have e : ∀ v : Nat, bv (UInt8.ofNat v) = .int .u8 ((v % 256 : Nat) : Int) := fun v => by simp [bv]
  simp only [be4L, List.map_cons, List.map_nil, e]
  have e1 : ((i / 16777216 % 256 : Nat) : Int) = (i : Int) / 16777216 := by omega
  have e2 : ((i / 65536 % 256 : Nat) : Int) = (i : Int) / 65536 % 256 := by omega
  have e3 : ((i / 256 % 256 : Nat) : Int) = (i : Int) / 256 % 256 := by omega
  have e4 : ((i % 256 : Nat) : Int) = (i : Int) % 256 := by omega
  rw [e1, e2, e3, e4]
/-- A slice of two slices, in a block of its own. -/
theorem parts_two {w : World} {g n c n' c' t : Nat} {A A' : Option Addr} {l l' : List UInt8} (hg : w.heap[g]? = some (.cells #[.slice A n c, .slice A' n' c'] t (0, 0))) (h : IsBB w w.heap.size A n c l) (h' : IsBB w w.heap.size A' n' c' l') : PartsIn w w.heap.size ⟨g, 0, none⟩ [l, l'] := by
  intro k hk
  rcases (show k = 0 ∨ k = 1 by simp at hk; omega) with rfl | rfl
  · exact ⟨lt_of_heap hg, A, n, c, by rw [Addr.add_lit, Nat.zero_add, cell_of_row w g 0 _ t (0, 0) hg]; rfl, h⟩
  · exact ⟨lt_of_heap hg, A', n', c', by rw [Addr.add_lit, Nat.zero_add, cell_of_row w g 1 _ t (0, 0) hg]; rfl, h'⟩
theorem under_two (g : Nat) (K : List UInt8) (ad : Addr) (x y : List UInt8) (w : World) (hk : KeyAt w g K) (h : PartsIn w w.heap.size ad [x, y]) (ht : (x ++ y).length ≤ 700000000000000) :
    Calls Try.prog 22 #[firstV g, .slice (some ad) 2 2] w fun e w' => e = .returned (.agg ((hmacK K (x ++ y)).map bv).toArray) ∧ Below w.heap.size w w' := by
  have e : [x, y].flatten = x ++ y := by simp
  have q := under_any g K ad [x, y] 2 2 w hk rfl (by omega) h (by rw [e]; exact ht)
  rw [e] at q
  exact q
structure BlkSt (w wr : World) (g9 g10 : Nat) (u x : List UInt8) : Prop where
  bel : Below w.heap.size w wr
  l9 : w.heap.size < g9
  l10 : w.heap.size < g10
  ne : g9 ≠ g10
  lu : u.length = 32
  lx : x.length = 32
  out : wr.heap[w.heap.size]? = some (.cells z32 30 (0, 0))
  r9 : wr.heap[g9]? = some (.cells (u.map bv).toArray 30 (0, 0))
  r10 : wr.heap[g10]? = some (.cells (x.map bv).toArray 30 (0, 0))
theorem BlkSt.on {w wr w' : World} {g9 g10 : Nat} {u x : List UInt8} (s : BlkSt w wr g9 g10 u x) (h : Below wr.heap.size wr w') : BlkSt w w' g9 g10 u x :=
  ⟨s.bel.trans (h.mono s.bel.size), s.l9, s.l10, s.ne, s.lu, s.lx, (h.block _ (lt_of_heap s.out)).trans s.out, (h.block _ (lt_of_heap s.r9)).trans s.r9, (h.block _ (lt_of_heap s.r10)).trans s.r10⟩
theorem BlkSt.set9 {w wr : World} {g9 g10 : Nat} {u x : List UInt8} (s : BlkSt w wr g9 g10 u x) (u' : List UInt8) (hu : u'.length = 32) : BlkSt w (wr.setRow g9 (u'.map bv).toArray) g9 g10 u' x := by
  have h1 := s.l9
  have h2 := s.ne
  refine ⟨below_setRow s.bel (Nat.le_of_lt h1) _, s.l9, s.l10, s.ne, hu, s.lx, ?_, ?_, ?_⟩
  · rw [setRow_other _ _ _ _ (by omega)]; exact s.out
  · exact setRow_heap _ _ _ _ _ _ s.r9
  · rw [setRow_other _ _ _ _ (by omega)]; exact s.r10
theorem BlkSt.set10 {w wr : World} {g9 g10 : Nat} {u x : List UInt8} (s : BlkSt w wr g9 g10 u x) (k : Nat) (b : UInt8) : BlkSt w (wr.setCell ⟨g10, k, none⟩ (bv b)) g9 g10 u (x.set k b) := by
  have h1 := s.l10
  have h2 := s.ne
  refine ⟨?_, s.l9, s.l10, s.ne, s.lu, by rw [List.length_set]; exact s.lx, ?_, ?_, ?_⟩
  · exact ⟨s.bel.os, s.bel.tape, s.bel.output, by rw [World.size_setCell]; exact s.bel.size, fun i hi => by rw [heap_setCell_other _ _ _ _ (by show i ≠ g10; omega)]; exact s.bel.block i hi⟩
  · rw [heap_setCell_other _ _ _ _ (by show w.heap.size ≠ g10; omega)]; exact s.out
  · rw [heap_setCell_other _ _ _ _ (by show g9 ≠ g10; omega)]; exact s.r9
  · rw [row_set s.r10 k _, set_toArray, List.map_set]
end Go.Proofs.Ytnifhgcdpgokhaa
