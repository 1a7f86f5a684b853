/-
  The contracts of New and Len, and what Sum needs.
-/
import Derived.Test.YtnifhgcdpgokhaaWrite
namespace Go.Proofs.Ytnifhgcdpgokhaa
open Go.RowKit

theorem Dig.at {w : World} {g : Nat} {l : List UInt8} (d : Dig w g l) : ∃ b, DigAt w g (absN l (l.length / 64)) b l.length := by
  obtain ⟨b, h, _⟩ := d; exact ⟨b, h⟩

theorem kx64 : (Try.prog.info? 54).map (·.size) = some (kL.map uv).toArray.size := by kernel_rfl
theorem kz64 : z64.size = (kL.map uv).toArray.size := by kernel_rfl
theorem ko64 : (kL.map uv).toArray.all (·.oneCell') = true := by kernel_rfl
theorem hx8 : (Try.prog.info? 53).map (·.size) = some (hL.map uv).toArray.size := by kernel_rfl
theorem hz8 : z8.size = (hL.map uv).toArray.size := by kernel_rfl
theorem ho8 : (hL.map uv).toArray.all (·.oneCell') = true := by kernel_rfl
theorem new_r1 (W : World) (X : List Value) : (((W.alloc (.cells z8 53)).alloc (.cells z64 54)).setRow W.heap.size X.toArray).heap[W.heap.size + 1]? = some (.cells z64 54 (0, 0)) := by
  rw [setRow_other _ _ _ _ (by omega)]; exact heap_alloc2_new W _ _
theorem new_r2 (W : World) (X Y : List Value) : ((((W.alloc (.cells z8 53)).alloc (.cells z64 54)).setRow W.heap.size X.toArray).setRow (W.heap.size + 1) Y.toArray).heap[W.heap.size]? = some (.cells X.toArray 53 (0, 0)) := by
  rw [setRow_other _ _ _ _ (by omega)]; exact setRow_heap _ _ _ _ _ _ (heap_alloc2_old W _ _)
theorem new_r3 (W : World) (X Y : List Value) : ((((W.alloc (.cells z8 53)).alloc (.cells z64 54)).setRow W.heap.size X.toArray).setRow (W.heap.size + 1) Y.toArray).heap[W.heap.size + 1]? = some (.cells Y.toArray 54 (0, 0)) :=
  setRow_heap _ _ _ _ _ _ (new_r1 W X)
theorem new_r4 (W : World) (X Y : List Value) : Below W.heap.size W ((((W.alloc (.cells z8 53)).alloc (.cells z64 54)).setRow W.heap.size X.toArray).setRow (W.heap.size + 1) Y.toArray) := by
  have q := (Below.refl W.heap.size W).alloc (Nat.le_refl _) (.cells z8 53)
  exact below_setRow (below_setRow (q.alloc q.size _) (Nat.le_refl _) _) (Nat.le_succ _) _
def AggAt (w : World) (g t : Nat) (X : List Value) : Prop := w.heap[g]? = some (.cells X.toArray t (0, 0))
set_option maxRecDepth 10000 in
set_option maxHeartbeats 1000000 in
theorem New_any (w : World) : Calls Try.prog 25 #[] w fun e w' => ∃ g, e = .returned (.pointer (some ⟨g, 0, none⟩)) ∧ Dig w' g [] ∧ Below w.heap.size w w' ∧ w.heap.size ≤ g := by
  have zv := zero35
  have zw := zero34
  have hx := hx8
  have kx := kx64
  obtain ⟨X, hX⟩ : ∃ X, X = hL.map uv := ⟨_, rfl⟩
  obtain ⟨Y, hY⟩ : ∃ Y, Y = kL.map uv := ⟨_, rfl⟩
  have zs8 := hz8
  have zs64 := kz64
  have o8 := ho8
  have o64 := ko64
  have hn := fun w => numbers_any w
  rw [← hX] at hx zs8 o8 hn
  rw [← hY] at kx zs64 o64 hn
  have HX := hid (And.intro hX hY)
  clear hX hY
  go_enter Try.func25, Try.ntmps25
  go_upto_region 2 with (first
    | (go_at_call 34; refine (hn _).mono ?_; rintro e W1 ⟨rfl, hb1⟩)
    | (refine wpList_store_row (o := ⟨none, .store 53 (.tmp 1) (.tmp 5), _, _, _, _⟩) rfl 53 (.tmp 1) (.tmp 5) rfl W1.heap.size X.toArray rfl rfl 53 z8 (heap_alloc2_old W1 _ _) hx zs8 o8 ?_)
    | (refine wpList_store_row (o := ⟨none, .store 54 (.tmp 2) (.tmp 6), _, _, _, _⟩) rfl 54 (.tmp 2) (.tmp 6) rfl (W1.heap.size + 1) Y.toArray rfl rfl 54 z64 (new_r1 W1 X) kx zs64 o64 ?_))
  have r0 := new_r2 W1 X Y
  have r1 := new_r3 W1 X Y
  have hB := new_r4 W1 X Y
  generalize ((((W1.alloc (.cells z8 53)).alloc (.cells z64 54)).setRow W1.heap.size X.toArray).setRow (W1.heap.size + 1) Y.toArray) = W2 at r0 r1 hB ⊢
  obtain ⟨rfl, rfl⟩ := HX.out
  clear hn HX zs8 zs64 o8 o64 zv zw
  go_wp2_with (first
    | (refine wpList_load_row rfl 53 (.tmp 1) rfl W1.heap.size rfl 53 (hL.map uv).toArray (0, 0) _ r0 Try.underlying53 rfl hx ?_)
    | (refine wpList_load_row rfl 54 (.tmp 2) rfl (W1.heap.size + 1) rfl 54 (kL.map uv).toArray (0, 0) _ r1 Try.underlying54 rfl kx ?_)
    | (refine wpList_build rfl 58 _ rfl (by kernel_rfl) ?_))
  go_ret
  refine ⟨W2.heap.size, rfl, ⟨List.replicate 64 0, ⟨by simp, ?_⟩, rfl⟩, ?_, ?_⟩
  · exact (heap_alloc_new W2 _).trans (by kernel_rfl)
  · have q := hb1.trans (hB.mono hb1.size)
    exact q.alloc q.size _
  · exact Nat.le_trans hb1.size hB.size

def headZ : List Value := .bool false :: (List.replicate 8 (Value.int .u32 0) ++ List.replicate 64 (Value.int .u32 0))
def z38 : Array Value := (headZ ++ List.replicate 64 (Value.int .u8 0) ++ [Value.int .i64 0]).toArray
theorem zero38 (w : World) : (zeroValue 58).run Try.prog w = .ok (.agg z38) w := by kernel_rfl
def z32 : Array Value := #[.int .u8 0, .int .u8 0, .int .u8 0, .int .u8 0, .int .u8 0, .int .u8 0, .int .u8 0, .int .u8 0, .int .u8 0, .int .u8 0, .int .u8 0, .int .u8 0, .int .u8 0, .int .u8 0, .int .u8 0, .int .u8 0, .int .u8 0, .int .u8 0, .int .u8 0, .int .u8 0, .int .u8 0, .int .u8 0, .int .u8 0, .int .u8 0, .int .u8 0, .int .u8 0, .int .u8 0, .int .u8 0, .int .u8 0, .int .u8 0, .int .u8 0, .int .u8 0]
theorem digCells_info (h : St) (b : List UInt8) (n : Nat) (hb : b.length = 64) : (Try.prog.info? 58).map (·.size) = some (digCells h b n).toArray.size := by
  rw [List.size_toArray, digCells_len h b n hb]; kernel_rfl
theorem z38_size (h : St) (b : List UInt8) (n : Nat) (hb : b.length = 64) : z38.size = (digCells h b n).toArray.size := by
  have e : (digCells h b n).toArray.size = 138 := by rw [List.size_toArray, digCells_len h b n hb]
  exact Eq.trans (by kernel_rfl : z38.size = 138) e.symm
theorem digCells_one (h : St) (b : List UInt8) (n : Nat) : (digCells h b n).toArray.all (·.oneCell') = true := by
  rw [List.all_toArray, List.all_eq_true]
  intro v hv
  simp only [digCells, headD, stL, List.mem_cons, List.mem_append, List.mem_map, List.not_mem_nil, or_false] at hv
  rcases hv with (rfl | (rfl | rfl | rfl | rfl | rfl | rfl | rfl | rfl) | ⟨x, _, rfl⟩) | ⟨x, _, rfl⟩ | rfl <;> rfl
def outL (s : St) (k : Nat) : List Value := ((List.range k).map fun i => bv (outB s i)) ++ List.replicate (32 - k) (.int .u8 0)
theorem outL_len (s : St) (k : Nat) (h : k ≤ 32) : (outL s k).length = 32 := by simp [outL]; omega
theorem outL_set (s : St) (k : Nat) (h : k < 32) : (outL s k).set k (bv (outB s k)) = outL s (k + 1) := by
  unfold outL
  rw [List.set_append_right _ _ (by simp)]
  obtain ⟨d, hd⟩ : ∃ d, 32 - k = d + 1 := ⟨32 - k - 1, by omega⟩
  rw [hd, show 32 - (k + 1) = d by omega, List.replicate_succ]
  simp [List.range_succ]

theorem nth_cell {w : World} {g : Nat} {s : St} {b : List UInt8} {n : Nat} (d : DigAt w g s b n) (q : Nat) (hq : q < 8) : w.cell? ⟨g, 1 + q, none⟩ = some (.int .u32 (nth s q : Nat)) := by
  rw [d.cell, digCells_low _ _ _ _ (by omega)]
  rcases (show q = 0 ∨ q = 1 ∨ q = 2 ∨ q = 3 ∨ q = 4 ∨ q = 5 ∨ q = 6 ∨ q = 7 by omega) with rfl | rfl | rfl | rfl | rfl | rfl | rfl | rfl <;> rfl
theorem nth_lt (s : St) (h : s.ok) (q : Nat) : nth s q < 4294967296 := by
  have h0 := h.a; have h1 := h.b; have h2 := h.c; have h3 := h.d; have h4 := h.e; have h5 := h.f; have h6 := h.g; have h7 := h.h
  by_cases hq : q < 8
  · rcases (show q = 0 ∨ q = 1 ∨ q = 2 ∨ q = 3 ∨ q = 4 ∨ q = 5 ∨ q = 6 ∨ q = 7 by omega) with rfl | rfl | rfl | rfl | rfl | rfl | rfl | rfl <;> assumption
  · unfold nth
    rw [List.getD_eq_getElem?_getD, List.getElem?_eq_none (by simp [St.list]; omega)]
    decide
theorem outB_val (s : St) (q r : Nat) (hr : r < 4) : bv (outB s (4 * q + r)) = .int .u8 ((nth s q / 2 ^ (24 - r * 8) % 256 : Nat) : Int) := by
  have e1 : (4 * q + r) / 4 = q := by omega
  have e2 : (4 * q + r) % 4 = r := by omega
  unfold outB bv
  rw [e1, e2]
  simp
theorem size32 (L : List Value) (h : L.length = 32) : (Try.prog.info? 30).map (·.size) = some L.toArray.size := by
  rw [List.size_toArray, h]; kernel_rfl
theorem z32_size (L : List Value) (h : L.length = 32) : z32.size = L.toArray.size := by
  have e : L.toArray.size = 32 := by rw [List.size_toArray, h]
  exact Eq.trans (by kernel_rfl : z32.size = 32) e.symm
theorem outL_one (s : St) (k : Nat) : (outL s k).toArray.all (·.oneCell') = true := by
  rw [List.all_toArray, List.all_eq_true]
  intro v hv
  simp only [outL, List.mem_append, List.mem_map, List.mem_replicate] at hv
  rcases hv with ⟨i, _, rfl⟩ | ⟨_, rfl⟩ <;> rfl
end Go.Proofs.Ytnifhgcdpgokhaa
