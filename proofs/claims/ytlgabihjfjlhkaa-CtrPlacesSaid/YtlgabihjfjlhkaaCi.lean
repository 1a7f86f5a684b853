/-
  A cipher in memory: its flag, its round keys, its two tables; the contracts of 'key', Made and 'refused'.
-/
import Derived.Test.YtlgabihjfjlhkaaBox
import Derived.Laws.Cover3
namespace Go.Proofs.Ytlgabihjfjlhkaa
open Go.RowKit

theorem wordF_lt (key : Nat → Nat) (hk : ∀ j, j < 32 → key j < 256) : ∀ n i j, i < n → j < 4 → wordF key i j < 256 := by
  intro n
  induction n with
  | zero => intro i j h; omega
  | succ n ih =>
    intro i j hi hj
    by_cases h8 : i < 8
    · rw [wordF_low key i j h8]; exact hk _ (by omega)
    · rw [wordF_high key i j (by omega)]
      have a1 := ih (i - 8) j (by omega) hj
      have a2 := ih (i - 1) j (by omega) hj
      have a3 := ih (i - 1) ((j + 1) % 4) (by omega) (by omega)
      have hp : ∀ k, powX k < 256 := by
        intro k
        induction k with
        | zero => show 1 < 256; omega
        | succ k ih => exact xtN_lt _ ih
      refine xor8 a1 ?_
      split
      · refine xor8 (sub_lt _ a3) ?_
        split
        · exact hp _
        · omega
      · split
        · exact sub_lt _ a2
        · exact a2
theorem powX_lt (k : Nat) : powX k < 256 := by
  induction k with
  | zero => show 1 < 256; omega
  | succ k ih => exact xtN_lt _ ih
/-- Byte j of the round keys. -/
def kbF (key : Nat → Nat) (j : Nat) : Nat := wordF key (j / 4) (j % 4)
theorem kbF_lt (key : Nat → Nat) (hk : ∀ j, j < 32 → key j < 256) (j : Nat) : kbF key j < 256 := wordF_lt key hk (j / 4 + 1) _ _ (by omega) (by omega)
theorem keyF_kb (key : Nat → Nat) (r j : Nat) (hj : j < 16) : keyF key r j = kbF key (16 * r + j) := by
  unfold keyF kbF
  rw [show (16 * r + j) / 4 = 4 * r + j / 4 by omega, show (16 * r + j) % 4 = j % 4 by omega]
theorem Low.key (key : Nat → Nat) (hk : ∀ j, j < 32 → key j < 256) (r : Nat) : Low (keyF key r) := fun j hj => by rw [keyF_kb key r j hj]; exact kbF_lt key hk _

def ciL (F : Nat → Nat) : List Value := .bool true :: (List.range 752).map (fun j => nv (F j))
theorem ciL_zero (F : Nat → Nat) : (ciL F)[0]? = some (.bool true) := by
  unfold ciL
  generalize (List.range 752).map (fun j => nv (F j)) = L
  rfl
theorem ciL_len (F : Nat → Nat) : (ciL F).length = 753 := by simp only [ciL, List.length_cons, List.length_map, List.length_range]
theorem ciL_get (F : Nat → Nat) (j : Nat) (h : j < 752) : (ciL F)[1 + j]? = some (nv (F j)) := by
  rw [Nat.add_comm]
  unfold ciL
  rw [List.getElem?_cons_succ, List.getElem?_map, List.getElem?_range h]
  rfl
theorem ciL_same {F G : Nat → Nat} (h : ∀ j, j < 752 → F j = G j) : ciL F = ciL G := by
  unfold ciL
  exact congrArg (Value.bool true :: ·) (List.map_congr_left fun j hj => by rw [h j (List.mem_range.1 hj)])
theorem ciL_upd (F : Nat → Nat) (j v : Nat) (_h : j < 752) : (ciL F).set (1 + j) (nv v) = ciL (upd F j v) := by
  apply List.ext_getElem?
  intro i
  rw [List.getElem?_set, ciL_len]
  by_cases hi : i < 753
  · rcases i with _ | i
    · rw [if_neg (by omega), ciL_zero, ciL_zero]
    · rw [show i + 1 = 1 + i by omega, ciL_get F i (by omega), ciL_get _ i (by omega)]
      unfold upd
      by_cases e : i = j
      · subst e; rw [if_pos rfl, if_pos (by omega), if_pos rfl]
      · rw [if_neg (by omega), if_neg e]
  · rw [List.getElem?_eq_none (by rw [ciL_len]; omega), List.getElem?_eq_none (by rw [ciL_len]; omega)]
    by_cases e : 1 + j = i
    · omega
    · rw [if_neg e]
/-- Block g holds a cipher with these bytes behind its flag. -/
def CiAt (w : World) (g : Nat) (F : Nat → Nat) : Prop := w.heap[g]? = some (.cells (ciL F).toArray 35 (0, 0))
theorem CiAt.lt {w : World} {g : Nat} {F : Nat → Nat} (h : CiAt w g F) : g < w.heap.size := lt_of_heap h
theorem CiAt.flag {w : World} {g : Nat} {F : Nat → Nat} (h : CiAt w g F) : w.cell? ⟨g, 0, none⟩ = some (.bool true) := by
  rw [row_cell h 0, List.getElem?_toArray, ciL_zero]
theorem CiAt.cell {w : World} {g : Nat} {F : Nat → Nat} (h : CiAt w g F) (j : Nat) (hj : j < 752) : w.cell? ⟨g, 1 + j, none⟩ = some (.int .u8 (F j : Nat)) := by
  rw [row_cell h (1 + j), List.getElem?_toArray, ciL_get F j hj]; rfl
theorem CiAt.free {w : World} {g : Nat} {F : Nat → Nat} (h : CiAt w g F) (j : Nat) : w.frozen? ⟨g, j, none⟩ = false := row_free h j
theorem CiAt.set {w : World} {g : Nat} {F : Nat → Nat} (h : CiAt w g F) (j v : Nat) (hj : j < 752) : CiAt (w.setCell ⟨g, 1 + j, none⟩ (.int .u8 (v : Nat))) g (upd F j v) := by
  unfold CiAt
  rw [row_set h (1 + j), set_toArray, show (Value.int .u8 (v : Nat)) = nv v from rfl, ciL_upd F j v hj]
theorem CiAt.same {w : World} {g : Nat} {F G : Nat → Nat} (h : CiAt w g F) (e : ∀ j, j < 752 → F j = G j) : CiAt w g G := by
  unfold CiAt; rw [← ciL_same e]; exact h
theorem CiAt.drewN {w : World} {g : Nat} {F : Nat → Nat} (h : CiAt w g F) (n : Nat) : CiAt (w.drewN n) g F := h
theorem CiAt.drew {w : World} {g : Nat} {F : Nat → Nat} (h : CiAt w g F) : CiAt w.drew g F := h
theorem CiAt.on {w w' : World} {g g' : Nat} {F : Nat → Nat} (h : CiAt w g F) (hb : But g' w w') (hg : g ≠ g') : CiAt w' g F := (hb.block g h.lt hg).trans h
theorem CiAt.onB {w w' : World} {g B : Nat} {F : Nat → Nat} (h : CiAt w g F) (hb : Below B w w') (hg : g < B) : CiAt w' g F := (hb.block g hg).trans h
/-- What a cipher of this key holds. -/
def ciF (key : Nat → Nat) (j : Nat) : Nat := if j < 240 then kbF key j else if j < 496 then subN (j - 240) else backN (j - 496)
/-- Block g holds the cipher of this key. -/
def Ci (w : World) (g : Nat) (key : Nat → Nat) : Prop := CiAt w g (ciF key)
theorem ad_add (g o j : Nat) : (⟨g, o, none⟩ : Addr).add j = ⟨g, o + j, none⟩ := Addr.add_lit g o j
theorem Ci.key {w : World} {g : Nat} {key : Nat → Nat} (h : Ci w g key) (r : Nat) (hr : r ≤ 14) : Reads w ⟨g, 1 + 16 * r, none⟩ (keyF key r) := by
  intro j hj
  rw [ad_add, show 1 + 16 * r + j = 1 + (16 * r + j) by omega, CiAt.cell h (16 * r + j) (by omega)]
  unfold ciF
  rw [if_pos (by omega), keyF_kb key r j hj]
theorem Ci.sub {w : World} {g : Nat} {key : Nat → Nat} (h : Ci w g key) (x : Nat) (hx : x < 256) : w.cell? ((⟨g, 241, none⟩ : Addr).add x) = some (.int .u8 (subN x : Nat)) := by
  rw [ad_add, show 241 + x = 1 + (240 + x) by omega, CiAt.cell h (240 + x) (by omega)]
  unfold ciF
  rw [if_neg (by omega), if_pos (by omega), show 240 + x - 240 = x by omega]
theorem Ci.back {w : World} {g : Nat} {key : Nat → Nat} (h : Ci w g key) (x : Nat) (hx : x < 256) : w.cell? ((⟨g, 497, none⟩ : Addr).add x) = some (.int .u8 (backN x : Nat)) := by
  rw [ad_add, show 497 + x = 1 + (496 + x) by omega, CiAt.cell h (496 + x) (by omega)]
  unfold ciF
  rw [if_neg (by omega), if_neg (by omega), show 496 + x - 496 = x by omega]

theorem slice32r (g r : Nat) (hr : r < 240) (x : Int) (hx : x = (r : Int)) (w : World) : (Instr.sliceAt 32 (.pointer (some ⟨g, 1, none⟩)) (some (.int .i64 x)) none none).run Try.prog w = .ok (.slice (some ⟨g, 1 + r, none⟩) (240 - r) (240 - r)) w := by
  subst hx
  have hl : Try.prog.arrayLen 32 = 240 := by kernel_rfl
  have hs : (sizeOf (Try.prog.elem 32)).run Try.prog w = .ok 1 w := by kernel_rfl
  rw [run_sliceAt_array_l w 32 ⟨g, 1, none⟩ (by kernel_rfl) .i64 (r : Int) (by omega) (by rw [hl]; omega), hs, hl]
  simp only [Result.andThen, slicedAt, Nat.mul_one, Int.toNat_natCast, ad_add]
  rw [if_neg (by omega)]
set_option maxRecDepth 10000 in
set_option maxHeartbeats 1000000 in
theorem key_any (g r : Nat) (hr : r ≤ 14) (w : World) : Calls Try.prog 24 #[.pointer (some ⟨g, 0, none⟩), .int .i64 r] w fun e w' => e = .returned (.pointer (some ⟨g, 1 + 16 * r, none⟩)) ∧ w = w' := by
  have hat : ∀ n c w, 16 ≤ n → (Instr.arrayAt 53 (.slice (some ⟨g, 1 + 16 * r, none⟩) n c)).run Try.prog w = .ok (.pointer (some ⟨g, 1 + 16 * r, none⟩)) w := fun n c w h => run_arrayAt w 53 _ 16 _ n c Try.underlying53 h
  have hsl := slice32r g (16 * r) (by omega) (16 * (r : Int)) (by omega)
  have h16 : 16 ≤ 240 - 16 * r := by omega
  go_enter Try.func24, Try.ntmps24
  go_wp2_with fail
  go_ret
  exact ⟨rfl, rfl⟩
set_option maxRecDepth 10000 in
set_option maxHeartbeats 1000000 in
theorem made_any (g : Nat) (w : World) (F : Nat → Nat) (h : CiAt w g F) : Calls Try.prog 35 #[.pointer (some ⟨g, 0, none⟩)] w fun e w' => e = .returned (.bool true) ∧ w = w' := by
  have c := h.flag
  go_enter Try.func35, Try.ntmps35
  go_wp2_with fail
  go_ret
  exact ⟨rfl, rfl⟩
set_option maxRecDepth 10000 in
set_option maxHeartbeats 1000000 in
theorem made_nil (w : World) : Calls Try.prog 35 #[.pointer none] w fun e w' => e = .returned (.bool false) ∧ w = w' := by
  go_enter Try.func35, Try.ntmps35
  go_wp2_with fail
  go_ret
  exact ⟨rfl, rfl⟩
set_option maxRecDepth 10000 in
set_option maxHeartbeats 1000000 in
theorem made_not (g : Nat) (w : World) (c : w.cell? ⟨g, 0, none⟩ = some (.bool false)) : Calls Try.prog 35 #[.pointer (some ⟨g, 0, none⟩)] w fun e w' => e = .returned (.bool false) ∧ w = w' := by
  go_enter Try.func35, Try.ntmps35
  go_wp2_with fail
  go_ret
  exact ⟨rfl, rfl⟩
set_option maxRecDepth 10000 in
set_option maxHeartbeats 1000000 in
theorem refused_any (g : Nat) (w : World) (F : Nat → Nat) (h : CiAt w g F) (A : Option Addr) (n c : Nat) : Calls Try.prog 21 #[.pointer (some ⟨g, 0, none⟩), .slice A n c] w fun e w' => e = .returned (.int .i64 (if n = 16 then 0 else 2)) ∧ w = w' := by
  have H := hid h
  clear h
  by_cases hn : n = 16
  · subst hn
    go_enter Try.func21, Try.ntmps21
    go_wp2_with (refine (made_any g w F H.out).mono ?_; rintro e w' ⟨rfl, rfl⟩)
    go_ret
    exact ⟨rfl, rfl⟩
  · have hz : ¬ ((n : Int) = 16) := by omega
    rw [if_neg hn]
    go_enter Try.func21, Try.ntmps21
    go_wp2_with (refine (made_any g w F H.out).mono ?_; rintro e w' ⟨rfl, rfl⟩)
    go_ret
    exact ⟨rfl, rfl⟩
set_option maxRecDepth 10000 in
set_option maxHeartbeats 1000000 in
theorem refused_nil (w : World) (A : Option Addr) (n c : Nat) : Calls Try.prog 21 #[.pointer none, .slice A n c] w fun e w' => e = .returned (.int .i64 1) ∧ w = w' := by
  go_enter Try.func21, Try.ntmps21
  go_wp2_with (refine (made_nil w).mono ?_; rintro e w' ⟨rfl, rfl⟩)
  go_ret
  exact ⟨rfl, rfl⟩
set_option maxRecDepth 10000 in
set_option maxHeartbeats 1000000 in
theorem refused_not (g : Nat) (w : World) (cc : w.cell? ⟨g, 0, none⟩ = some (.bool false)) (A : Option Addr) (n c : Nat) : Calls Try.prog 21 #[.pointer (some ⟨g, 0, none⟩), .slice A n c] w fun e w' => e = .returned (.int .i64 1) ∧ w = w' := by
  go_enter Try.func21, Try.ntmps21
  go_wp2_with (refine (made_not g w cc).mono ?_; rintro e w' ⟨rfl, rfl⟩)
  go_ret
  exact ⟨rfl, rfl⟩
end Go.Proofs.Ytlgabihjfjlhkaa
