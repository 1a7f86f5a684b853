/-
  The chapter's example of a key and a block, reckoned by the kernel, round by round; the contract of 'awake'.
-/
import Derived.Test.YtgflkoabjibipaaNew
import Derived.Test.YtgflkoabjibipaaRow
import Derived.Test.YtgflkoabjibipaaLent
import Derived.Test.YtgflkoabjibipaaSame
namespace Go.Proofs.Ytgflkoabjibipaa
open Go.RowKit

def exW : List Nat := [0, 1, 2, 3, 4, 5, 6, 7, 8, 9, 10, 11, 12, 13, 14, 15, 16, 17, 18, 19, 20, 21, 22, 23, 24, 25, 26, 27, 28, 29, 30, 31, 165, 115, 194, 159, 161, 118, 196, 152, 169, 127, 206, 147, 165, 114, 192, 156, 22, 81, 168, 205, 2, 68, 190, 218, 26, 93, 164, 193, 6, 64, 186, 222, 174, 135, 223, 240, 15, 241, 27, 104, 166, 142, 213, 251, 3, 252, 21, 103, 109, 225, 241, 72, 111, 165, 79, 146, 117, 248, 235, 83, 115, 184, 81, 141, 198, 86, 130, 127, 201, 167, 153, 23, 111, 41, 76, 236, 108, 213, 89, 139, 61, 226, 58, 117, 82, 71, 117, 231, 39, 191, 158, 180, 84, 7, 207, 57, 11, 220, 144, 95, 194, 123, 9, 72, 173, 82, 69, 164, 193, 135, 28, 47, 69, 245, 166, 96, 23, 178, 211, 135, 48, 13, 77, 51, 100, 10, 130, 10, 124, 207, 247, 28, 190, 180, 254, 84, 19, 230, 187, 240, 210, 97, 167, 223, 240, 26, 250, 254, 231, 168, 41, 121, 215, 165, 100, 74, 179, 175, 230, 64, 37, 65, 254, 113, 155, 245, 0, 37, 136, 19, 187, 213, 90, 114, 28, 10, 78, 90, 102, 153, 169, 242, 79, 224, 126, 87, 43, 170, 205, 248, 205, 234, 36, 252, 121, 204, 191, 9, 121, 233, 55, 26, 194, 60, 109, 104, 222, 54]
def exR : List Nat := [0, 16, 32, 48, 64, 80, 96, 112, 128, 144, 160, 176, 192, 208, 224, 240, 79, 99, 118, 6, 67, 224, 170, 133, 239, 167, 33, 50, 1, 164, 231, 5, 24, 89, 251, 194, 138, 28, 0, 160, 120, 237, 138, 173, 196, 47, 97, 9, 151, 92, 102, 193, 203, 159, 63, 168, 169, 58, 40, 223, 142, 225, 15, 99, 28, 5, 242, 113, 164, 23, 224, 79, 249, 33, 197, 193, 4, 112, 21, 84, 195, 87, 170, 225, 27, 69, 183, 176, 162, 199, 189, 40, 168, 220, 153, 250, 127, 7, 65, 67, 203, 78, 36, 62, 193, 12, 129, 93, 131, 117, 213, 76, 214, 83, 164, 105, 108, 160, 188, 15, 90, 202, 171, 93, 185, 108, 94, 125, 90, 168, 88, 57, 95, 210, 141, 125, 5, 225, 163, 136, 104, 243, 185, 197, 74, 130, 72, 81, 197, 126, 126, 71, 100, 61, 229, 12, 42, 243, 232, 201, 193, 73, 7, 246, 202, 59, 58, 160, 112, 233, 170, 49, 59, 82, 181, 236, 95, 156, 106, 191, 186, 198, 52, 170, 80, 64, 159, 167, 102, 103, 118, 83, 81, 102, 4, 149, 67, 83, 149, 3, 20, 251, 134, 228, 1, 146, 37, 33, 98, 123, 206, 185, 153, 157, 90, 170, 201, 69, 236, 244, 35, 245, 109, 165]
def exOut : List UInt8 := [142, 162, 183, 202, 81, 103, 69, 191, 234, 252, 73, 144, 75, 73, 96, 137]
theorem exK (j : Nat) (h : j < 32) : fnOf (rowL 0 1 32) j = j := by
  have := List.all_eq_true.1 (show ((List.range 32).all fun j => fnOf (rowL 0 1 32) j == j) = true by kernel_rfl) j (List.mem_range.2 h)
  simpa using this
theorem exW_check : ((List.range 60).all fun i => (List.range 4).all fun j => exW.getD (4 * i + j) 0 == (if i < 8 then 4 * i + j else exW.getD (4 * (i - 8) + j) 0 ^^^ (if i % 8 = 0 then subN (exW.getD (4 * (i - 1) + (j + 1) % 4) 0) ^^^ (if j = 0 then powX (i / 8 - 1) else 0) else if i % 8 = 4 then subN (exW.getD (4 * (i - 1) + j) 0) else exW.getD (4 * (i - 1) + j) 0))) = true := by kernel_rfl
theorem exW_word : ∀ n i j, i < n → n ≤ 60 → j < 4 → wordF (fnOf (rowL 0 1 32)) i j = exW.getD (4 * i + j) 0 := by
  intro n
  induction n with
  | zero => intro i j h; omega
  | succ n ih =>
    intro i j hi hn hj
    have c := List.all_eq_true.1 (List.all_eq_true.1 exW_check i (List.mem_range.2 (by omega))) j (List.mem_range.2 hj)
    simp only [beq_iff_eq] at c
    rw [c]
    by_cases h8 : i < 8
    · rw [if_pos h8, wordF_low _ _ _ h8, exK _ (by omega)]
    · rw [if_neg h8, wordF_high _ _ _ (by omega), ih (i - 8) j (by omega) (by omega) hj, ih (i - 1) ((j + 1) % 4) (by omega) (by omega) (by omega), ih (i - 1) j (by omega) (by omega) hj]
theorem exW_key (r : Nat) (hr : r ≤ 14) (j : Nat) (hj : j < 16) : keyF (fnOf (rowL 0 1 32)) r j = exW.getD (16 * r + j) 0 := by
  unfold keyF
  rw [exW_word 60 _ _ (by omega) (by omega) (by omega), show 4 * (4 * r + j / 4) + j % 4 = 16 * r + j by omega]
/-- The block behind r rounds. -/
def exF (r : Nat) : Blk16 := fun j => exR.getD (16 * r + j) 0
def exKey (r : Nat) : Blk16 := fun j => exW.getD (16 * r + j) 0
theorem ex_zero : ((List.range 16).all fun j => addF (fnOf (rowL 0 17 16)) (exKey 0) j == exF 0 j) = true := by kernel_rfl
theorem ex_rounds : ((List.range 13).all fun r => (List.range 16).all fun j => rndF (exKey (r + 1)) (exF r) j == exF (r + 1) j) = true := by kernel_rfl
theorem ex_last : outL (addF (rowsF (subsF (exF 13))) (exKey 14)) = exOut := by kernel_rfl
theorem Same.addK {f k k' : Blk16} (h : Same k k') : Same (addF f k) (addF f k') := fun j hj => by unfold addF; rw [h j hj]
theorem ex_enc : encL (fnOf (rowL 0 1 32)) (rowL 0 17 16) = exOut := by
  have hk : ∀ r, r ≤ 14 → Same (keyF (fnOf (rowL 0 1 32)) r) (exKey r) := fun r hr j hj => exW_key r hr j hj
  have h0 : Same (addF (fnOf (rowL 0 17 16)) (keyF (fnOf (rowL 0 1 32)) 0)) (exF 0) := (Same.addK (hk 0 (by omega))).trans fun j hj => by
    have := List.all_eq_true.1 ex_zero j (List.mem_range.2 hj)
    simpa using this
  have hr : ∀ r, r ≤ 13 → Same (rndsF (keyF (fnOf (rowL 0 1 32))) (addF (fnOf (rowL 0 17 16)) (keyF (fnOf (rowL 0 1 32)) 0)) r) (exF r) := by
    intro r
    induction r with
    | zero => intro _; exact h0
    | succ r ih =>
      intro hr
      have e1 := (ih (by omega)).rnd (keyF (fnOf (rowL 0 1 32)) (r + 1))
      refine e1.trans ((Same.addK (hk (r + 1) (by omega))).trans fun j hj => ?_)
      have := List.all_eq_true.1 (List.all_eq_true.1 ex_rounds r (List.mem_range.2 (by omega))) j (List.mem_range.2 hj)
      exact (beq_iff_eq.1 this : rndF (exKey (r + 1)) (exF r) j = exF (r + 1) j)
  unfold encL
  rw [← ex_last]
  exact outL_same (((hr 13 (by omega)).subs.rows.add _).trans (Same.addK (hk 14 (by omega))))
theorem exOut_len : exOut.length = 16 := rfl
def exCells : Array Value := #[.int .u8 142, .int .u8 162, .int .u8 183, .int .u8 202, .int .u8 81, .int .u8 103, .int .u8 69, .int .u8 191, .int .u8 234, .int .u8 252, .int .u8 73, .int .u8 144, .int .u8 75, .int .u8 73, .int .u8 96, .int .u8 137]
theorem exOut_cells : (exOut.map bv).toArray = #[.int .u8 142, .int .u8 162, .int .u8 183, .int .u8 202, .int .u8 81, .int .u8 103, .int .u8 69, .int .u8 191, .int .u8 234, .int .u8 252, .int .u8 73, .int .u8 144, .int .u8 75, .int .u8 73, .int .u8 96, .int .u8 137] := by kernel_rfl
theorem ex_isB (W : World) : IsB (W.alloc (.cells #[.int .u8 142, .int .u8 162, .int .u8 183, .int .u8 202, .int .u8 81, .int .u8 103, .int .u8 69, .int .u8 191, .int .u8 234, .int .u8 252, .int .u8 73, .int .u8 144, .int .u8 75, .int .u8 73, .int .u8 96, .int .u8 137] 5)) (some ⟨W.heap.size, 0, none⟩) 16 16 exOut := by
  rw [← exOut_cells]
  refine ⟨exOut_len, by omega, by unfold maxLen; omega, by omega, fun _ => ⟨_, rfl, fun j hj => ?_⟩⟩
  rw [ad_add, Nat.zero_add, row_cell (heap_alloc_new W _) j, List.getElem?_toArray, map_bv_getElem? exOut j hj]
theorem row_bytes {w wr : World} {v : Value} {f b n : Nat} (h : OwnB w wr v (rowL f b n)) (hn : n ≤ 100) : ∃ A c, v = .slice A n c ∧ IsBB wr wr.heap.size A n c (rowL f b n) := by
  have hl := rowL_len f b n
  have := h.isBB (by omega)
  rw [hl] at this
  exact this
theorem row_slice (f b n : Nat) (hf : f < 256) (hb : b < 256) (hn : n ≤ 100) (w : World) : Calls Try.prog 8 #[.int .u8 f, .int .u8 b, .int .i64 n] w fun e w' => ∃ A c, e = .returned (.slice A n c) ∧ IsBB w' w'.heap.size A n c (rowL f b n) ∧ Below w.heap.size w w' := by
  refine (row_any f b n hf hb hn w).mono ?_
  rintro e w' ⟨v, rfl, h⟩
  obtain ⟨A, c, rfl, h2⟩ := row_bytes h hn
  exact ⟨A, c, rfl, h2, h.bel⟩
theorem bel_drew {w w' : World} {B : Nat} (h : Below B w w') (k : Nat) : Below B w (w'.drewN k) := below_drewN h k
set_option maxRecDepth 10000 in
set_option maxHeartbeats 4000000 in
theorem awake_any (w : World) : Calls Try.prog 15 #[] w fun e w' => e = .returned (.bool true) ∧ Below w.heap.size w w' := by
  have R1 := hid (fun w => row_slice 0 1 32 (by omega) (by omega) (by omega) w)
  have R2 := hid (fun w => row_slice 0 17 16 (by omega) (by omega) (by omega) w)
  have T1 := hid (fun w => times_any 87 131 (by omega) (by omega) w)
  have T2 := hid (fun w => sub_any 83 (by omega) w)
  have T3 := hid (fun w => back_any 237 (by omega) w)
  rw [show gf 87 131 = 193 by kernel_rfl] at T1
  rw [show subN 83 = 237 by kernel_rfl] at T2
  rw [show backN 237 = 83 by kernel_rfl] at T3
  have hk : ∀ j, j < 32 → fnOf (rowL 0 1 32) j < 256 := fun j _ => fnOf_lt _ j
  go_enter Try.func15, Try.ntmps15
  go_wp2_with (first
    | (go_at_call 8; refine (R1.out _).mono ?_; rintro e W1 ⟨A1, c1, rfl, hA1, hB1⟩; have HA1 := hid hA1; have HB1 := hid hB1; clear hA1 hB1 R1)
    | (go_at_call 7; refine (New_any A1 c1 _ _ HA1.out).mono ?_; rintro e W2 ⟨gc, rfl, hC2, hB2, hg2⟩; have HC2 := hid hC2; have HB2 := hid (bel_trans HB1.out hB2); clear hC2 hB2 hg2 HA1 HB1)
    | (go_at_call 14; refine (made_any gc _ _ HC2.out).mono ?_; rintro e w' ⟨rfl, rfl⟩)
    | (go_at_call 8; refine (R2.out _).mono ?_; rintro e W3 ⟨A3, c3, rfl, hA3, hB3⟩; have HA3 := hid hA3; have HC3 := hid (HC2.out.onB hB3 HC2.out.lt); have HB3 := hid (bel_trans HB2.out hB3); clear hA3 hB3 R2 HB2)
    | (go_at_call 9; refine (encrypt_any gc _ A3 c3 _ _ HC3.out hk HA3.out).mono ?_; rintro e W4 ⟨g4, rfl, hA4, hB4, hg4⟩; have HA4 := hid hA4; have HB4 := hid (bel_trans HB3.out hB4); rw [ex_enc] at hA4; have HA5 := hid (hA4.on ((Below.refl W4.heap.size W4).alloc (Nat.le_refl _) (.cells exCells 5))).toIsB; clear hA4 hB4 hg4 HB3 HA3)
    | (go_at_call 21; refine (SameBytes_true (some ⟨g4, 0, none⟩) (some ⟨W4.heap.size, 0, none⟩) exOut 16 16 16 _ (HA5.out) (ex_isB W4)).mono ?_; rintro e w' ⟨rfl, k, rfl⟩)
    | (go_at_call 17; refine (T1.out _).mono ?_; rintro e w' ⟨rfl, rfl⟩)
    | (go_at_call 12; refine (T2.out _).mono ?_; rintro e w' ⟨rfl, m2, rfl⟩)
    | (go_at_call 13; refine (T3.out _).mono ?_; rintro e w' ⟨rfl, m3, rfl⟩))
  go_ret
  refine ⟨rfl, ?_⟩
  have q := (HB4.out.alloc HB4.out.size (.cells exCells 5))
  exact bel_drew q _
end Go.Proofs.Ytgflkoabjibipaa
