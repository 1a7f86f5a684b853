/-
  The contracts of New and Len, and what Sum needs.
-/
import Derived.Test.YtfohmanojdibcaaWrite
namespace Go.Proofs.Ytfohmanojdibcaa
open Go.RowKit

theorem Dig.at {w : World} {g : Nat} {l : List UInt8} (d : Dig w g l) : ∃ b, DigAt w g (absN l (l.length / 64)) b l.length := by
  obtain ⟨b, h, _⟩ := d; exact ⟨b, h⟩

set_option maxRecDepth 10000 in
set_option maxHeartbeats 1000000 in
theorem New_any (w : World) : Calls Try.prog 17 #[] w fun e w' => ∃ g, e = .returned (.pointer (some ⟨g, 0, none⟩)) ∧ Dig w' g [] ∧ Below w.heap.size w w' ∧ w.heap.size ≤ g := by
  go_enter Try.func17, Try.ntmps17
  go_wp2_with (refine wpList_build rfl 37 _ rfl (by kernel_rfl) ?_)
  go_ret
  refine ⟨w.heap.size, rfl, ⟨List.replicate 64 0, ⟨by simp, ?_⟩, rfl⟩, (Below.refl _ _).alloc (Nat.le_refl _) _, Nat.le_refl _⟩
  exact heap_alloc_new w _

set_option maxRecDepth 10000 in
set_option maxHeartbeats 1000000 in
theorem Len_any (g : Nat) (l : List UInt8) (w : World) (hd : Dig w g l) (hl : (l.length : Int) ≤ 1000000000000000) : Calls Try.prog 16 #[.pointer (some ⟨g, 0, none⟩)] w fun e w' => e = .returned (.int .i64 (l.length : Nat)) ∧ w = w' := by
  obtain ⟨b, h1⟩ := hd.at
  have hm := h1.made
  have hs := h1.size
  clear h1
  go_enter Try.func16, Try.ntmps16
  go_wp2_with fail
  go_ret
  exact ⟨rfl, rfl⟩

def z37 : Array Value := #[.bool false, .int .u32 0, .int .u32 0, .int .u32 0, .int .u32 0, .int .u32 0] ++ Array.replicate 64 (.int .u8 0) ++ #[.int .i64 0]
theorem zero37 (w : World) : (zeroValue 37).run Try.prog w = .ok (.agg z37) w := by kernel_rfl
def z20 : Array Value := #[.int .u8 0, .int .u8 0, .int .u8 0, .int .u8 0, .int .u8 0, .int .u8 0, .int .u8 0, .int .u8 0, .int .u8 0, .int .u8 0, .int .u8 0, .int .u8 0, .int .u8 0, .int .u8 0, .int .u8 0, .int .u8 0, .int .u8 0, .int .u8 0, .int .u8 0, .int .u8 0]
theorem digCells_info (h : St) (b : List UInt8) (n : Nat) (hb : b.length = 64) : (Try.prog.info? 37).map (·.size) = some (digCells h b n).toArray.size := by
  rw [List.size_toArray, digCells_len h b n hb]; kernel_rfl
theorem z37_size (h : St) (b : List UInt8) (n : Nat) (hb : b.length = 64) : z37.size = (digCells h b n).toArray.size := by
  have e : (digCells h b n).toArray.size = 71 := by rw [List.size_toArray, digCells_len h b n hb]
  exact Eq.trans (by kernel_rfl : z37.size = 71) e.symm
theorem digCells_one (h : St) (b : List UInt8) (n : Nat) : (digCells h b n).toArray.all (·.oneCell') = true := by
  rw [List.all_toArray, List.all_eq_true]
  intro v hv
  simp only [digCells, List.mem_cons, List.mem_append, List.not_mem_nil, or_false] at hv
  rcases hv with rfl | rfl | rfl | rfl | rfl | rfl | h1 | rfl
  · rfl
  · rfl
  · rfl
  · rfl
  · rfl
  · rfl
  · exact bv_one b v h1
  · rfl
def outL (s : St) (k : Nat) : List Value := ((List.range k).map fun i => bv (outB s i)) ++ List.replicate (20 - k) (.int .u8 0)
theorem outL_len (s : St) (k : Nat) (h : k ≤ 20) : (outL s k).length = 20 := by simp [outL]; omega
theorem outL_set (s : St) (k : Nat) (h : k < 20) : (outL s k).set k (bv (outB s k)) = outL s (k + 1) := by
  unfold outL
  rw [List.set_append_right _ _ (by simp)]
  obtain ⟨d, hd⟩ : ∃ d, 20 - k = d + 1 := ⟨20 - k - 1, by omega⟩
  rw [hd, show 20 - (k + 1) = d by omega, List.replicate_succ]
  simp [List.range_succ]

theorem nth_cell {w : World} {g : Nat} {s : St} {b : List UInt8} {n : Nat} (d : DigAt w g s b n) (q : Nat) (hq : q < 5) : w.cell? ⟨g, 1 + q, none⟩ = some (.int .u32 (nth s q : Nat)) := by
  rw [d.cell]
  rcases (show q = 0 ∨ q = 1 ∨ q = 2 ∨ q = 3 ∨ q = 4 by omega) with rfl | rfl | rfl | rfl | rfl <;> rfl
theorem nth_lt (s : St) (h : s.ok) (q : Nat) : nth s q < 4294967296 := by
  unfold nth
  have := h.a; have := h.b; have := h.c; have := h.d; have := h.e
  split
  · assumption
  · split
    · assumption
    · split
      · assumption
      · split <;> assumption
theorem outB_val (s : St) (q r : Nat) (hr : r < 4) : bv (outB s (4 * q + r)) = .int .u8 ((nth s q / 2 ^ (24 - r * 8) % 256 : Nat) : Int) := by
  have e1 : (4 * q + r) / 4 = q := by omega
  have e2 : (4 * q + r) % 4 = r := by omega
  unfold outB bv
  rw [e1, e2]
  simp
theorem size20 (L : List Value) (h : L.length = 20) : (Try.prog.info? 23).map (·.size) = some L.toArray.size := by
  rw [List.size_toArray, h]; kernel_rfl
theorem z20_size (L : List Value) (h : L.length = 20) : z20.size = L.toArray.size := by
  have e : L.toArray.size = 20 := by rw [List.size_toArray, h]
  exact Eq.trans (by kernel_rfl : z20.size = 20) e.symm
theorem outL_one (s : St) (k : Nat) : (outL s k).toArray.all (·.oneCell') = true := by
  rw [List.all_toArray, List.all_eq_true]
  intro v hv
  simp only [outL, List.mem_append, List.mem_map, List.mem_replicate] at hv
  rcases hv with ⟨i, _, rfl⟩ | ⟨_, rfl⟩ <;> rfl
end Go.Proofs.Ytfohmanojdibcaa
