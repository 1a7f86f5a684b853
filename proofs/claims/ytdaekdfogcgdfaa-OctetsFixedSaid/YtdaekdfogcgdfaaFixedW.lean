/-
  The walk of OctetsFixed.
-/
import Derived.Test.YtdaekdfogcgdfaaFrame
namespace Go.Proofs.Ytdaekdfogcgdfaa
open Go.RowKit

theorem none_has {n : Nat} {a : Int} (k : Nat) (hk : 1 ≤ k) (h : has 1 n a = false) : has k n a = false := by
  unfold has at *
  rw [decide_eq_false_iff_not] at *
  omega
set_option maxHeartbeats 1000000 in
set_option maxRecDepth 10000 in
theorem nothing_any (A : Option Addr) (l : List UInt8) (n c : Nat) (at_ : Int) (w : World) (h : IsB w A n c l) (hn : has 1 n at_ = false) :
    Calls Try.prog 10 #[.slice A n c, .int .i64 at_] w fun e w' => e = .returned (.bool true) ∧ w = w' := by
  have h2 := none_has 2 (by omega) hn
  have h4 := none_has 4 (by omega) hn
  have h8 := none_has 8 (by omega) hn
  have m1 : num 1 l at_ = 0 := num_no (by rw [h.len]; exact hn)
  have m2 : num 2 l at_ = 0 := num_no (by rw [h.len]; exact h2)
  have m4 : num 4 l at_ = 0 := num_no (by rw [h.len]; exact h4)
  have m8 : num 8 l at_ = 0 := num_no (by rw [h.len]; exact h8)
  have t0 : txtHas l n at_ = false := by unfold txtHas; rw [h2]; rfl
  obtain ⟨t1, t2⟩ := txt_no t0
  have z1 : IntKind.u64.wrap 0 = 0 := by kernel_rfl
  go_enter Try.func10, Try.ntmps10
  go_wp2_with (first
    | (go_at_call 21; refine (U8_any _ _ _ _ _ _ h).mono ?_; rintro e w' ⟨rfl, rfl⟩)
    | (go_at_call 12; refine (U16_any _ _ _ _ _ _ h).mono ?_; rintro e w' ⟨rfl, rfl⟩)
    | (go_at_call 22; refine (U32_any _ _ _ _ _ _ h).mono ?_; rintro e w' ⟨rfl, rfl⟩)
    | (go_at_call 11; refine (U64_any _ _ _ _ _ _ h).mono ?_; rintro e w' ⟨rfl, rfl⟩)
    | (go_at_call 13; refine (Text_any _ _ _ _ _ _ h).mono ?_; rintro e w' ⟨rfl, rfl⟩))
  go_ret
  exact ⟨rfl, rfl⟩

/-- Noughts. -/
def noughts (n : Nat) : List UInt8 := List.replicate n 0
theorem noughts_len (n : Nat) : (noughts n).length = n := by simp [noughts]
theorem isBB_made {w w' : World} {g n : Nat} (h : w'.ownsRow w.heap.size 5 1 (.slice (some ⟨g, 0, none⟩) n n) n (madeCells (Value.int .u8 0).cells (n * 1)).toList) (hn : n ≤ 140737488355328) :
    IsB w' (some ⟨g, 0, none⟩) n n (noughts n) := by
  have hr := own_row h
  rw [made_cells] at hr
  have hr2 : w'.heap[g]? = some (.cells ((noughts n).map bv).toArray 5 (0, 0)) := by
    rw [hr]
    unfold noughts
    rw [List.map_replicate]
    rfl
  refine ⟨noughts_len n, Nat.le_refl _, by unfold maxLen; omega, hn, fun _ => ⟨_, rfl, fun j hj => ?_⟩⟩
  rw [Addr.add_lit, Nat.zero_add, row_cell hr2 j, List.getElem?_toArray]
  exact map_bv_getElem? _ j hj

/-- The places that are asked. -/
def ats : List Int := [-9223372036854775808, -2, -1, 2, 3, 1099511627776, 9223372036854775807]
theorem ats_none : ∀ k : Nat, k < 7 → has 1 2 (ats.getD k 0) = false := by
  intro k hk
  match k, hk with
  | 0, _ => decide
  | 1, _ => decide
  | 2, _ => decide
  | 3, _ => decide
  | 4, _ => decide
  | 5, _ => decide
  | 6, _ => decide
theorem row_alloc {w : World} {g : Nat} {o : Obj} (h : w.heap[g]? = some o) (o' : Obj) : (w.alloc o').heap[g]? = some o := by
  have hlt : g < w.heap.size := by
    rcases Nat.lt_or_ge g w.heap.size with hlt | hge
    · exact hlt
    · rw [Array.getElem?_eq_none hge] at h; cases h
  rw [Below.heap_alloc w o' g hlt]
  exact h

theorem IsBB.onto {w w' : World} {A : Option Addr} {n c : Nat} {l : List UInt8} (h : IsBB w w.heap.size A n c l) (hb : Below w.heap.size w w') : IsBB w' w'.heap.size A n c l :=
  ⟨(h.below hb).toIsB, fun hp ad e => Nat.lt_of_lt_of_le (h.low hp ad e) hb.size⟩
theorem New.onto {w0 w w' : World} {g n c : Nat} {l : List UInt8} (h : New w w' g n c l) (hb : Below w0.heap.size w0 w) : Below w0.heap.size w0 w' := hb.trans (h.bel.mono hb.size)
theorem IsB.str {w : World} {A : Option Addr} {n c : Nat} {l : List UInt8} (h : IsB w A n c l) :
    ∃ S : ByteArray, Hid (S.data.toList = l) ∧ S.size = n ∧ (convert 24 9 (.slice A n c)).run Try.prog w = .ok (.string S) w :=
  ⟨⟨l.toArray⟩, by simp [Hid], by simp [ByteArray.size, h.len], h.conv⟩
theorem New.cell {w w' : World} {g n c : Nat} {l : List UInt8} (h : New w w' g n c l) (j : Nat) (x : UInt8) (hx : l[j]? = some x) : w'.cell? ⟨g, j, none⟩ = some (.int .u8 (x.toNat : Int)) := by
  have hl : j < l.length := (List.getElem?_eq_some_iff.1 hx).1
  obtain ⟨ad, e, hc⟩ := h.isB.lies (by omega)
  cases e
  have := hc j hl
  rw [Addr.add_lit, Nat.zero_add] at this
  rw [this]
  rw [List.getElem?_eq_getElem hl] at hx
  rw [Option.some.inj hx]

/-- All bytes of the greatest numbers. -/
def full : List UInt8 := List.replicate 15 255
theorem full_is : [] ++ bytesN 1 255 ++ bytesN 2 65535 ++ bytesN 4 4294967295 ++ bytesN 8 18446744073709551615 = full := by decide
theorem full_cell {w : World} {g c m : Nat} (h : IsB w (some ⟨g, 0, none⟩) 15 c full) (hm : m < 15) : w.cell? ⟨g, m, none⟩ = some (.int .u8 255) := by
  obtain ⟨ad, e, hc⟩ := h.lies (by decide)
  cases e
  have := hc m hm
  rw [Addr.add_lit, Nat.zero_add] at this
  rw [this]
  have e : full[m]'hm = 255 := by simp only [full, List.getElem_replicate]
  rw [e]
  rfl

set_option maxRecDepth 10000 in
set_option maxHeartbeats 4000000 in
theorem fixed_walk (w : World) : Calls Try.prog 3 #[] w fun e w' => e = .returned (.bool true) ∧ Below w.heap.size w w' := by
  obtain ⟨i0, hi, hz0, hz1, hz2⟩ := info_parts Try.info5
  go_enter Try.func3, Try.ntmps3
  go_wp2_with fail
  have r0 : Hid ((w.alloc (Obj.cells #[Value.int IntKind.i64 (-9223372036854775808), Value.int IntKind.i64 (-2), Value.int IntKind.i64 (-1), Value.int IntKind.i64 2, Value.int IntKind.i64 3, Value.int IntKind.i64 1099511627776, Value.int IntKind.i64 9223372036854775807] 3)).heap[w.heap.size]? = some (.cells (ats.map (Value.int .i64)).toArray 3 (0, 0))) := heap_alloc_new w _
  have b0 : Below w.heap.size w (w.alloc (Obj.cells #[Value.int IntKind.i64 (-9223372036854775808), Value.int IntKind.i64 (-2), Value.int IntKind.i64 (-1), Value.int IntKind.i64 2, Value.int IntKind.i64 3, Value.int IntKind.i64 1099511627776, Value.int IntKind.i64 9223372036854775807] 3)) := (Below.refl _ _).alloc (Nat.le_refl _) _
  obtain ⟨W0, hW0⟩ : ∃ W0, W0 = (w.alloc (Obj.cells #[Value.int IntKind.i64 (-9223372036854775808), Value.int IntKind.i64 (-2), Value.int IntKind.i64 (-1), Value.int IntKind.i64 2, Value.int IntKind.i64 3, Value.int IntKind.i64 1099511627776, Value.int IntKind.i64 9223372036854775807] 3)) := ⟨_, rfl⟩
  rw [← hW0] at r0 b0 ⊢
  clear hW0
  go_loopw [27] (fun i wr => ∃ k : Nat, k ≤ 7 ∧ i = .int .i64 k ∧ Hid (wr.heap[w.heap.size]? = some (.cells (ats.map (Value.int .i64)).toArray 3 (0, 0))) ∧ Below w.heap.size w wr) (fun i _ => 7 - (intOf i).toNat)
  case atStart => exact ⟨0, Nat.zero_le _, rfl, r0, b0⟩
  case round =>
    obtain ⟨k, hk, rfl, hrow, hbel⟩ := hrel
    by_cases hlt : k < 7
    · have hcell := row_cell hrow.out k
      have hno := ats_none k hlt
      have hx : ((ats.map (Value.int .i64)).toArray)[k]? = some (.int .i64 (ats.getD k 0)) := by
        have hl : k < ats.length := hlt
        rw [List.getElem?_toArray]
        simp [List.getD, hl]
      rw [hx] at hcell
      generalize ats.getD k 0 = x at hno hcell
      clear hx
      go_wp2_with (go_at_call 10; refine (nothing_any _ [1, 2] 2 2 x _ (isBB_built wr [1, 2] #[.int .u8 1, .int .u8 2] rfl 2 rfl (by omega)).toIsB hno).mono ?_; rintro e w' ⟨rfl, rfl⟩)
      go_roundw
      case rel => exact ⟨k + 1, by omega, by go_num, row_alloc hrow.out _, hbel.alloc hbel.size _⟩
      case measure => simp [intOf]; omega
    · clear hrow r0 b0
      have hz : has 1 0 0 = false := by decide
      go_wp2_with (first | (go_at_call 10; refine (nothing_any none [] 0 0 0 _ (isBB_nil _ 0).toIsB hz).mono ?_; rintro e w' ⟨rfl, rfl⟩) | (at_make; refine wpList_make_full _ rfl _ _ 24 rfl wr.heap.size 5 i0 (.int .u8 0) 1 Try.underlying24 hi hz0 hz1 _ _ _ _ 7 rfl rfl (by omega) (by omega) (by rw [hz2]; omega) (by unfold maxLen; omega) (Nat.le_refl _) ?_; intro w1 h1o h1g))
      have b1 : Below w.heap.size w w1 := hbel.grown h1g hbel.size (by simp)
      have i1 := isBB_made h1o (by omega)
      have p1 : has 8 7 0 = false := by decide
      clear h1o h1g hbel
      refine (U64_any _ _ _ _ _ _ i1).mono ?_
      rintro e w' ⟨rfl, rfl⟩
      have p2 : has 2 2 1 = false := by decide
      clear i1
      go_wp2_with fail
      refine (U16_any _ [1, 2] 2 2 1 _ (isBB_built w1 [1, 2] #[.int .u8 1, .int .u8 2] rfl 2 rfl (by omega)).toIsB).mono ?_
      rintro e w' ⟨rfl, rfl⟩
      have b2 := b1.alloc b1.size (Obj.cells #[Value.int IntKind.u8 1, Value.int IntKind.u8 2] 5)
      obtain ⟨w2, hw2⟩ : ∃ w2, w2 = (w1.alloc (Obj.cells #[Value.int IntKind.u8 1, Value.int IntKind.u8 2] 5)) := ⟨_, rfl⟩
      rw [← hw2] at b2 ⊢
      clear hw2 b1
      have t1 : txtHas [0, 2, 5, 6] 4 1 = false := by decide
      have t2 : txtTo [0, 2, 5, 6] 4 1 = 0 := by decide
      go_wp2_with fail
      refine (Text_any _ [0, 2, 5, 6] 4 4 1 _ (isBB_built w2 [0, 2, 5, 6] #[.int .u8 0, .int .u8 2, .int .u8 5, .int .u8 6] rfl 4 rfl (by omega)).toIsB).mono ?_
      rintro e w' ⟨rfl, rfl⟩
      have b3 := b2.alloc b2.size (Obj.cells #[Value.int IntKind.u8 0, Value.int IntKind.u8 2, Value.int IntKind.u8 5, Value.int IntKind.u8 6] 5)
      obtain ⟨w3, hw3⟩ : ∃ w3, w3 = (w2.alloc (Obj.cells #[Value.int IntKind.u8 0, Value.int IntKind.u8 2, Value.int IntKind.u8 5, Value.int IntKind.u8 6] 5)) := ⟨_, rfl⟩
      rw [← hw3] at b3 ⊢
      clear hw3 b2
      have t3 : txtHas [0, 3, 5, 6] 4 0 = false := by decide
      go_wp2_with fail
      refine (Text_any _ [0, 3, 5, 6] 4 4 0 _ (isBB_built w3 [0, 3, 5, 6] #[.int .u8 0, .int .u8 3, .int .u8 5, .int .u8 6] rfl 4 rfl (by omega)).toIsB).mono ?_
      rintro e w' ⟨rfl, rfl⟩
      have b4 := b3.alloc b3.size (Obj.cells #[Value.int IntKind.u8 0, Value.int IntKind.u8 3, Value.int IntKind.u8 5, Value.int IntKind.u8 6] 5)
      obtain ⟨w4, hw4⟩ : ∃ w4, w4 = (w3.alloc (Obj.cells #[Value.int IntKind.u8 0, Value.int IntKind.u8 3, Value.int IntKind.u8 5, Value.int IntKind.u8 6] 5)) := ⟨_, rfl⟩
      rw [← hw4] at b4 ⊢
      clear hw4 b3
      have t4 : txtHas [9, 0, 0] 3 1 = true := by decide
      have t5 : txtTo [9, 0, 0] 3 1 = 3 := by decide
      go_wp2_with fail
      refine (Text_any _ [9, 0, 0] 3 3 1 _ (isBB_built w4 [9, 0, 0] #[.int .u8 9, .int .u8 0, .int .u8 0] rfl 3 rfl (by omega)).toIsB).mono ?_
      rintro e w' ⟨rfl, rfl⟩
      have b5 := b4.alloc b4.size (Obj.cells #[Value.int IntKind.u8 9, Value.int IntKind.u8 0, Value.int IntKind.u8 0] 5)
      obtain ⟨w5, hw5⟩ : ∃ w5, w5 = (w4.alloc (Obj.cells #[Value.int IntKind.u8 9, Value.int IntKind.u8 0, Value.int IntKind.u8 0] 5)) := ⟨_, rfl⟩
      rw [← hw5] at b5 ⊢
      clear hw5 b4
      go_wp2_with (first | (at_make; refine wpList_make_full _ rfl _ _ 24 rfl w5.heap.size 5 i0 (.int .u8 0) 1 Try.underlying24 hi hz0 hz1 _ _ _ _ 65535 rfl rfl (by omega) (by omega) (by rw [hz2]; omega) (by unfold maxLen; omega) (by simp) ?_; intro w6 h6o h6g; obtain ⟨h6S, h6D, h6n, h6k⟩ := (isBB_made h6o (by omega)).str; simp only [World.size_alloc] at h6k; clear h6o))
      have d5 := isBB_built w5 [7] #[.int .u8 7] rfl 1 rfl (by omega)
      have e6 : Below (w5.alloc (Obj.cells #[Value.int IntKind.u8 7] 5)).heap.size (w5.alloc (Obj.cells #[Value.int IntKind.u8 7] 5)) w6 := (Below.refl _ _).grown h6g (Nat.le_refl _) (by simp)
      have d6 := d5.onto e6
      have b6 : Below w.heap.size w w6 := (b5.alloc b5.size (Obj.cells #[Value.int IntKind.u8 7] 5)).grown h6g (by have := b5.size; simp; omega) (by simp)
      clear d5 e6 h6g h6k b5
      refine (AddText_any _ [7] 1 1 h6S w6 d6 (by omega) (by omega)).mono ?_
      rintro e w7 ⟨g7, c7, rfl, N7⟩
      have b7 := N7.onto b6
      clear b6 d6
      go_wp2_with (first | (at_make; refine wpList_make_full _ rfl _ _ 24 rfl w7.heap.size 5 i0 (.int .u8 0) 1 Try.underlying24 hi hz0 hz1 _ _ _ _ 65536 rfl rfl (by omega) (by omega) (by rw [hz2]; omega) (by unfold maxLen; omega) (by simp) ?_; intro w8 h8o h8g; obtain ⟨h8S, h8D, h8n, h8k⟩ := (isBB_made h8o (by omega)).str; simp only [World.size_alloc] at h8k; clear h8o))
      have e8 : Below w7.heap.size w7 w8 := ((Below.refl _ _).alloc (Nat.le_refl _) (Obj.cells #[Value.int IntKind.u8 7] 5)).grown h8g (by simp) (by simp)
      have b8 : Below w.heap.size w w8 := b7.trans (e8.mono b7.size)
      clear h8g h8k b7
      refine (AddText_long _ _ _ h8S w8 (by omega) (by unfold maxLen; omega)).mono ?_
      rintro e w' ⟨rfl, rfl⟩
      have c1 := N7.cell 1 255 (by rw [h6n]; rfl)
      have c2 := N7.cell 2 255 (by rw [h6n]; rfl)
      rw [← e8.cell (p := ⟨g7, 1, none⟩) N7.row.2.1] at c1
      rw [← e8.cell (p := ⟨g7, 2, none⟩) N7.row.2.1] at c2
      have l7 : 3 ≤ c7 := by have := N7.row.2.2.1; omega
      clear N7 e8
      go_wp2_with fail
      clear c1 c2 l7
      refine (Add8_any none [] 0 0 255 w8 (isBB_nil _ _) (by omega) (by omega)).mono ?_
      rintro e w9 ⟨g9, c9, rfl, N9⟩
      have b9 := N9.onto b8
      clear b8
      go_wp2_with fail
      refine (Add16_any _ _ _ _ 65535 w9 N9.isBB (by omega) (by omega)).mono ?_
      rintro e w10 ⟨g10, c10, rfl, N10⟩
      have b10 := N10.onto b9
      clear b9 N9
      go_wp2_with fail
      refine (Add32_any _ _ _ _ 4294967295 w10 N10.isBB (by omega) (by omega)).mono ?_
      rintro e w11 ⟨g11, c11, rfl, N11⟩
      have b11 := N11.onto b10
      clear b10 N10
      go_wp2_with fail
      refine (Add64_any _ _ _ _ 18446744073709551615 w11 N11.isBB (by omega) (by omega)).mono ?_
      rintro e w12 ⟨g12, c12, rfl, N12⟩
      have b12 := N12.onto b11
      have I : IsB w12 (some ⟨g12, 0, none⟩) 15 c12 full := by
        have := N12.isB
        rw [full_is] at this
        exact this
      clear b11 N11 N12
      go_wp2_with fail
      go_loop [136] (fun i => ∃ k : Nat, k ≤ 15 ∧ i = .int .i64 k) (fun i => 15 - (intOf i).toNat)
      case atStart => exact ⟨0, Nat.zero_le _, rfl⟩
      case round =>
        obtain ⟨m, hm, rfl⟩ := hrel
        by_cases hlt2 : m < 15
        · have hcap := I.cap
          have hcell : w12.cell? ⟨g12, m, none⟩ = some (.int .u8 255) := full_cell I hlt2
          go_wp2
          go_round
          case rel => exact ⟨m + 1, by omega, by go_num⟩
          case measure => simp [intOf]; omega
        · have v1 : (num 8 full 7 == 18446744073709551615) = true := by decide
          have v2 : has 8 15 7 = true := by decide
          go_wp2_with (first
            | (go_at_call 11; refine (U64_any _ _ _ _ _ _ I).mono ?_; rintro e w' ⟨rfl, rfl⟩)
            | (go_at_call 19; refine (awake_any _).mono ?_; rintro e w' ⟨rfl, hb⟩))
          go_ret
          exact ⟨rfl, b12.trans (hb.mono b12.size)⟩
end Go.Proofs.Ytdaekdfogcgdfaa
