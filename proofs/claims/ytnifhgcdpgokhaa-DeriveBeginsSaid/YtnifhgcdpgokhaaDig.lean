/-
  A digest in memory, and what writing to its cells makes of it.
-/
import Derived.Test.YtnifhgcdpgokhaaUpon
import Derived.Test.YtnifhgcdpgokhaaPad
namespace Go.Proofs.Ytnifhgcdpgokhaa
open Go.RowKit

def headD (h : St) : List Value := .bool true :: (stL h ++ kL.map uv)
theorem headD_len (h : St) : (headD h).length = 73 := by kernel_rfl
def digCells (h : St) (b : List UInt8) (n : Nat) : List Value := headD h ++ (b.map bv ++ [Value.int .i64 (n : Nat)])
/-- Block g is a digest with these numbers, this block, this size. -/
def DigAt (w : World) (g : Nat) (h : St) (b : List UInt8) (n : Nat) : Prop := b.length = 64 ∧ w.heap[g]? = some (.cells (digCells h b n).toArray 58 (0, 0))
/-- The digest of block g has the bytes l. -/
def Dig (w : World) (g : Nat) (l : List UInt8) : Prop :=
  ∃ b, DigAt w g (absN l (l.length / 64)) b l.length ∧ b.take (l.length % 64) = l.drop (64 * (l.length / 64))

theorem digCells_len (h : St) (b : List UInt8) (n : Nat) (hb : b.length = 64) : (digCells h b n).length = 138 := by simp [digCells, headD_len, hb]
theorem digCells_at (h : St) (b : List UInt8) (n j : Nat) : (digCells h b n)[73 + j]? = (b.map bv ++ [Value.int .i64 (n : Nat)])[j]? := by
  unfold digCells
  rw [List.getElem?_append_right (by rw [headD_len]; omega), headD_len, Nat.add_sub_cancel_left]
theorem digCells_low (h : St) (b : List UInt8) (n j : Nat) (hj : j < 73) : (digCells h b n)[j]? = (headD h)[j]? := by
  unfold digCells
  rw [List.getElem?_append_left (by rw [headD_len]; exact hj)]
theorem DigAt.cell {w : World} {g : Nat} {h : St} {b : List UInt8} {n : Nat} (d : DigAt w g h b n) (j : Nat) : w.cell? ⟨g, j, none⟩ = (digCells h b n)[j]? := by
  rw [row_cell d.2 j]; simp
theorem DigAt.free {w : World} {g : Nat} {h : St} {b : List UInt8} {n : Nat} (d : DigAt w g h b n) (j : Nat) : w.frozen? ⟨g, j, none⟩ = false := row_free d.2 j
theorem DigAt.lt {w : World} {g : Nat} {h : St} {b : List UInt8} {n : Nat} (d : DigAt w g h b n) : g < w.heap.size := by
  rcases Nat.lt_or_ge g w.heap.size with hlt | hge
  · exact hlt
  · have := d.2; rw [Array.getElem?_eq_none hge] at this; cases this
theorem DigAt.made {w : World} {g : Nat} {h : St} {b : List UInt8} {n : Nat} (d : DigAt w g h b n) : w.cell? ⟨g, 0, none⟩ = some (.bool true) := (d.cell 0).trans ((digCells_low h b n 0 (by omega)).trans rfl)
theorem DigAt.h0 {w : World} {g : Nat} {h : St} {b : List UInt8} {n : Nat} (d : DigAt w g h b n) : w.cell? ⟨g, 1, none⟩ = some (.int .u32 (h.a : Nat)) := (d.cell 1).trans ((digCells_low h b n 1 (by omega)).trans rfl)
theorem DigAt.h1 {w : World} {g : Nat} {h : St} {b : List UInt8} {n : Nat} (d : DigAt w g h b n) : w.cell? ⟨g, 2, none⟩ = some (.int .u32 (h.b : Nat)) := (d.cell 2).trans ((digCells_low h b n 2 (by omega)).trans rfl)
theorem DigAt.h2 {w : World} {g : Nat} {h : St} {b : List UInt8} {n : Nat} (d : DigAt w g h b n) : w.cell? ⟨g, 3, none⟩ = some (.int .u32 (h.c : Nat)) := (d.cell 3).trans ((digCells_low h b n 3 (by omega)).trans rfl)
theorem DigAt.h3 {w : World} {g : Nat} {h : St} {b : List UInt8} {n : Nat} (d : DigAt w g h b n) : w.cell? ⟨g, 4, none⟩ = some (.int .u32 (h.d : Nat)) := (d.cell 4).trans ((digCells_low h b n 4 (by omega)).trans rfl)
theorem DigAt.h4 {w : World} {g : Nat} {h : St} {b : List UInt8} {n : Nat} (d : DigAt w g h b n) : w.cell? ⟨g, 5, none⟩ = some (.int .u32 (h.e : Nat)) := (d.cell 5).trans ((digCells_low h b n 5 (by omega)).trans rfl)
theorem DigAt.h5 {w : World} {g : Nat} {h : St} {b : List UInt8} {n : Nat} (d : DigAt w g h b n) : w.cell? ⟨g, 6, none⟩ = some (.int .u32 (h.f : Nat)) := (d.cell 6).trans ((digCells_low h b n 6 (by omega)).trans rfl)
theorem DigAt.h6 {w : World} {g : Nat} {h : St} {b : List UInt8} {n : Nat} (d : DigAt w g h b n) : w.cell? ⟨g, 7, none⟩ = some (.int .u32 (h.g : Nat)) := (d.cell 7).trans ((digCells_low h b n 7 (by omega)).trans rfl)
theorem DigAt.h7 {w : World} {g : Nat} {h : St} {b : List UInt8} {n : Nat} (d : DigAt w g h b n) : w.cell? ⟨g, 8, none⟩ = some (.int .u32 (h.h : Nat)) := (d.cell 8).trans ((digCells_low h b n 8 (by omega)).trans rfl)
theorem DigAt.kc {w : World} {g : Nat} {h : St} {b : List UInt8} {n : Nat} (d : DigAt w g h b n) (j : Nat) (hj : j < 64) : w.cell? ⟨g, 9 + j, none⟩ = some (.int .u32 (kN j : Nat)) := by
  rw [d.cell, digCells_low _ _ _ _ (by omega)]
  have e : (headD h)[9 + j]? = (kL.map uv)[j]? := by
    rw [Nat.add_comm 9 j]; rfl
  have hl : kL.length = 64 := by kernel_rfl
  rw [e, List.getElem?_map, List.getElem?_eq_getElem (by omega)]
  unfold kN
  rw [List.getD_eq_getElem?_getD, List.getElem?_eq_getElem (by omega)]
  rfl
theorem DigAt.size {w : World} {g : Nat} {h : St} {b : List UInt8} {n : Nat} (d : DigAt w g h b n) : w.cell? ⟨g, 137, none⟩ = some (.int .i64 (n : Nat)) := by
  rw [d.cell 137, digCells_at h b n 64, List.getElem?_append_right (by simp [d.1])]
  simp [d.1]
theorem DigAt.byte {w : World} {g : Nat} {h : St} {b : List UInt8} {n : Nat} (d : DigAt w g h b n) (j : Nat) (hj : j < b.length) : w.cell? ⟨g, 73 + j, none⟩ = some (bv b[j]) := by
  rw [d.cell, digCells_at, List.getElem?_append_left (by simpa using hj)]
  simp [hj]
theorem DigAt.to {w w' : World} {g : Nat} {h : St} {b : List UInt8} {n : Nat} (d : DigAt w g h b n) (e : w'.heap[g]? = w.heap[g]?) : DigAt w' g h b n := ⟨d.1, e.trans d.2⟩
theorem Dig.to {w w' : World} {g : Nat} {l : List UInt8} (d : Dig w g l) (e : w'.heap[g]? = w.heap[g]?) : Dig w' g l := by
  obtain ⟨b, h1, h2⟩ := d
  exact ⟨b, h1.to e, h2⟩
theorem Dig.lt {w : World} {g : Nat} {l : List UInt8} (d : Dig w g l) : g < w.heap.size := by
  obtain ⟨b, h1, _⟩ := d
  exact h1.lt

theorem dig_size (h : St) (b : List UInt8) (n m : Nat) (hb : b.length = 64) : (digCells h b n).set 137 (.int .i64 (m : Nat)) = digCells h b m := by
  unfold digCells
  rw [List.set_append_right _ _ (by rw [headD_len]; omega), headD_len, List.set_append_right _ _ (by simp [hb])]
  simp [hb]
theorem DigAt.setSize {w : World} {g : Nat} {h : St} {b : List UInt8} {n : Nat} (d : DigAt w g h b n) (m : Nat) : DigAt (w.setCell ⟨g, 137, none⟩ (.int .i64 (m : Nat))) g h b m :=
  ⟨d.1, by rw [row_set d.2 137 _, set_toArray, dig_size h b n m d.1]⟩
theorem DigAt.setH {w : World} {g : Nat} {h : St} {b : List UInt8} {n : Nat} (d : DigAt w g h b n) (s : St) :
    DigAt ((((((((w.setCell ⟨g, 1, none⟩ (.int .u32 (s.a : Nat))).setCell ⟨g, 2, none⟩ (.int .u32 (s.b : Nat))).setCell ⟨g, 3, none⟩ (.int .u32 (s.c : Nat))).setCell ⟨g, 4, none⟩ (.int .u32 (s.d : Nat))).setCell ⟨g, 5, none⟩ (.int .u32 (s.e : Nat))).setCell ⟨g, 6, none⟩ (.int .u32 (s.f : Nat))).setCell ⟨g, 7, none⟩ (.int .u32 (s.g : Nat))).setCell ⟨g, 8, none⟩ (.int .u32 (s.h : Nat))) g s b n :=
  ⟨d.1, by
    rw [row_set (row_set (row_set (row_set (row_set (row_set (row_set (row_set d.2 1 _) 2 _) 3 _) 4 _) 5 _) 6 _) 7 _) 8 _]
    simp only [set_toArray]
    rfl⟩
theorem dig_splice (h : St) (b x : List UInt8) (n r : Nat) (hb : b.length = 64) (hr : r + x.length ≤ 64) :
    (digCells h b n).take (73 + r) ++ (x.map bv ++ (digCells h b n).drop (73 + r + (x.map bv).length)) = digCells h (b.take r ++ (x ++ b.drop (r + x.length))) n := by
  have e1 : (digCells h b n).take (73 + r) = headD h ++ (b.map bv ++ [Value.int .i64 (n : Nat)]).take r := by
    unfold digCells
    rw [List.take_append, headD_len, List.take_of_length_le (by rw [headD_len]; omega), Nat.add_sub_cancel_left]
  have e2 : (digCells h b n).drop (73 + r + (x.map bv).length) = (b.map bv ++ [Value.int .i64 (n : Nat)]).drop (r + x.length) := by
    unfold digCells
    rw [List.length_map, List.drop_append, headD_len, List.drop_of_length_le (by rw [headD_len]; omega), List.nil_append, show 73 + r + x.length - 73 = r + x.length by omega]
  rw [e1, e2, List.take_append_of_le_length (by simp [hb]; omega), List.drop_append_of_le_length (by simp [hb]; omega)]
  simp [digCells]
theorem grownBy_setRow (w : World) (g : Nat) (cs : Array Value) : w.grownBy (w.setRow g cs) (some g) :=
  ⟨rfl, rfl, rfl, by simp, fun k _ hne => setRow_other w g k cs (fun e => hne (by rw [e]))⟩
theorem grownBy_setCell (w : World) (g i : Nat) (v : Value) : w.grownBy (w.setCell ⟨g, i, none⟩ v) (some g) :=
  ⟨rfl, rfl, rfl, by simp, fun k _ hne => heap_setCell_other _ _ _ _ (fun e => hne (by rw [e]))⟩
theorem grown_trans {a b c : World} {row : Option Nat} (h : a.grownBy b row) (k : b.grownBy c row) : a.grownBy c row :=
  ⟨k.os.trans h.os, k.tape.trans h.tape, k.output.trans h.output, Nat.le_trans h.size k.size, fun i hi hne => (k.block i (Nat.lt_of_lt_of_le hi h.size) hne).trans (h.block i hi hne)⟩
theorem grown_below {a b : World} (row : Option Nat) (h : Below a.heap.size a b) : a.grownBy b row := ⟨h.os, h.tape, h.output, h.size, fun i hi _ => h.block i hi⟩
theorem grown_drew (a : World) (row : Option Nat) : a.grownBy a.drew row := ⟨rfl, rfl, rfl, Nat.le_refl _, fun _ _ _ => rfl⟩

/-- A cut of a slice, wherever its address comes to lie. -/
theorem slice_from {w : World} {A : Option Addr} {n c : Nat} {l : List UInt8} (h : IsB w A n c l) (k : Nat) (hk : k ≤ n) :
    ∃ A', (∀ w' : World, (Instr.slice 22 (.slice A n c) (some (.int .i64 (k : Nat))) none none).run Try.prog w' = .ok (.slice A' (n - k) (c - k)) w') ∧ IsB w A' (n - k) (c - k) (l.drop k) ∧
      (0 < (l.drop k).length → ∀ ad', A' = some ad' → ∃ ad, A = some ad ∧ ad'.block = ad.block) := by
  have hc := h.cap
  have hlen := h.len
  refine ⟨if c = k then A else A.map (·.add (k * 1)), fun w' => ?_, ⟨by rw [List.length_drop, hlen], by omega, by have := h.max; omega, by have := h.small; omega, fun hp => ?_⟩, fun hp ad' e => ?_⟩
  · have hs : (sizeOf (Try.prog.elem 22)).run Try.prog w' = .ok 1 w' := by kernel_rfl
    rw [run_slice_l (ht := by kernel_rfl) (h0 := by omega) (h1 := by omega), hs]
    simp [Result.andThen, sliced]
  · rw [List.length_drop, hlen] at hp
    obtain ⟨ad, e, hr⟩ := h.lies (by omega)
    subst e
    rw [if_neg (by omega)]
    refine ⟨_, rfl, fun j hj => ?_⟩
    rw [List.length_drop] at hj
    rw [Nat.mul_one, add_of_add, hr (k + j) (by omega)]
    simp
  · rw [List.length_drop, hlen] at hp
    obtain ⟨ad, e2, _⟩ := h.lies (by omega)
    subst e2
    rw [if_neg (by omega)] at e
    cases e
    exact ⟨ad, rfl, block_of_add _ _⟩
end Go.Proofs.Ytnifhgcdpgokhaa
