/-
  The contracts of an encoder's refusals and of End.
-/
import Derived.Test.YtbgbacajgaeooaaEn
import Derived.Laws.OwnMore
namespace Go.Proofs.Ytbgbacajgaeooaa
open Go.RowKit

set_option maxRecDepth 10000 in
set_option maxHeartbeats 1000000 in
theorem Put_arg (g : Nat) (w : World) (h : w.cell? ⟨g, 0, none⟩ = some (.pointer (some ⟨g, 0, none⟩))) (bit p : Int) (hb : ¬ (bit = 0 ∨ bit = 1) ∨ ¬ (1 ≤ p ∧ p ≤ 65535)) :
    Calls Try.prog 10 #[.pointer (some ⟨g, 0, none⟩), .int .i64 bit, .int .i64 p] w fun r w' => r = .returned (.int .i64 2) ∧ w = w' := by
  have HM := hid (made_yes g w h)
  clear h
  by_cases h0 : bit = 0 ∨ bit = 1
  · have hpp : decide (1 ≤ p ∧ p ≤ 65535) = false := by simp only [decide_eq_false_iff_not]; rcases hb with hb | hb; exact absurd h0 hb; exact hb
    have HL := hid (fun w => likely_any p w)
    rw [hpp] at HL
    clear hb hpp
    rcases h0 with rfl | rfl
    all_goals
      go_enter Try.func10, Try.ntmps10
      go_wp2_with (first
        | (go_at_call 26; refine HM.out.mono ?_; rintro r w' ⟨rfl, rfl⟩)
        | (go_at_call 27; refine (HL.out _).mono ?_; rintro r w' ⟨rfl, rfl⟩))
      go_ret
      exact ⟨rfl, rfl⟩
  · have h1 : (bit != 0) = true := by simp only [bne_iff_ne, ne_eq]; omega
    have h2 : (bit != 1) = true := by simp only [bne_iff_ne, ne_eq]; omega
    clear hb h0
    go_enter Try.func10, Try.ntmps10
    go_wp2_with (first
      | (go_at_call 26; refine HM.out.mono ?_; rintro r w' ⟨rfl, rfl⟩))
    go_ret
    exact ⟨rfl, rfl⟩
set_option maxRecDepth 10000 in
set_option maxHeartbeats 1000000 in
theorem Put_long {B : Nat} {S : Nat → Prop} {w : World} {g x y : Nat} {F : Value} {l : List UInt8} (h : Ob B S w g 55 (ecells g x y) F l) (hl : 65536 ≤ l.length) (bit p : Int) (hb : bit = 0 ∨ bit = 1) (hp : 1 ≤ p ∧ p ≤ 65535) :
    Calls Try.prog 10 #[.pointer (some ⟨g, 0, none⟩), .int .i64 bit, .int .i64 p] w fun r w' => r = .returned (.int .i64 3) ∧ w = w' := by
  have HM := hid (made_yes g w (row_cell h.row 0))
  have hpp : decide (1 ≤ p ∧ p ≤ 65535) = true := by simp only [decide_eq_true_eq]; exact hp
  have HL := hid (fun w => likely_any p w)
  rw [hpp] at HL
  have c3 : w.cell? ⟨g, 3, none⟩ = some F := row_cell h.row 3
  obtain ⟨A, c, rfl⟩ := own_sl h.ff
  have hl' : decide ((65536 : Int) ≤ (l.length : Int)) = true := by simp only [decide_eq_true_eq]; omega
  clear h hp hpp hl
  rcases hb with rfl | rfl
  all_goals
    go_enter Try.func10, Try.ntmps10
    go_wp2_with (first
      | (go_at_call 26; refine HM.out.mono ?_; rintro r w' ⟨rfl, rfl⟩)
      | (go_at_call 27; refine (HL.out _).mono ?_; rintro r w' ⟨rfl, rfl⟩))
    go_ret
    exact ⟨rfl, rfl⟩
/-- Calls of what NewEncoder did not make. -/
theorem Put_none (v : Value) (w : World) (h : Calls Try.prog 26 #[v] w fun r w' => r = .returned (.bool false) ∧ w = w') (bit p : Int) :
    Calls Try.prog 10 #[v, .int .i64 bit, .int .i64 p] w fun r w' => r = .returned (.int .i64 1) ∧ w = w' := by
  have HM := hid h
  clear h
  go_enter Try.func10, Try.ntmps10
  go_wp2_with (go_at_call 26; refine HM.out.mono ?_; rintro r w' ⟨rfl, rfl⟩)
  go_ret
  exact ⟨rfl, rfl⟩
theorem Len_none (v : Value) (w : World) (h : Calls Try.prog 26 #[v] w fun r w' => r = .returned (.bool false) ∧ w = w') :
    Calls Try.prog 12 #[v] w fun r w' => r = .returned (.int .i64 0) ∧ w = w' := by
  have HM := hid h
  clear h
  go_enter Try.func12, Try.ntmps12
  go_wp2_with (go_at_call 26; refine HM.out.mono ?_; rintro r w' ⟨rfl, rfl⟩)
  go_ret
  exact ⟨rfl, rfl⟩
theorem End_none (v : Value) (w : World) (h : Calls Try.prog 26 #[v] w fun r w' => r = .returned (.bool false) ∧ w = w') :
    Calls Try.prog 13 #[v] w fun r w' => r = .returned (.slice none 0 0) ∧ w = w' := by
  have HM := hid h
  clear h
  go_enter Try.func13, Try.ntmps13
  go_wp2_with (go_at_call 26; refine HM.out.mono ?_; rintro r w' ⟨rfl, rfl⟩)
  go_ret
  exact ⟨rfl, rfl⟩
/-- make([]byte, n, m). -/
theorem make_nm (n m : Nat) (h : n ≤ m) (hm : m ≤ 1000000) (w : World) : (Instr.makeSlice 30 (.int .i64 (n : Int)) (.int .i64 (m : Int))).run Try.prog w = .ok (.slice (some ⟨w.heap.size, 0, none⟩) n m) (w.alloc (.cells (List.replicate m (Value.int .u8 0)).toArray 5)) := by
  obtain ⟨i0, hi, hz0, hz1, hz2⟩ := info_parts Try.info5
  have hr := run_make (P := Try.prog) w 30 5 i0 (.int .u8 0) Try.underlying30 hi hz0 .i64 .i64 n m (by omega) (by omega) (by rw [hz2]; omega) (by omega)
  simp only [Int.toNat_natCast, hz1] at hr
  rw [hr]
  have e : madeCells (Value.int .u8 0).cells (m * 1) = (List.replicate m (Value.int .u8 0)).toArray := by
    apply Array.ext'
    rw [made_cells]
  rw [e]
theorem IsB.drew {w : World} {A : Option Addr} {n c : Nat} {l : List UInt8} (h : IsB w A n c l) : IsB w.drew A n c l := ⟨h.len, h.cap, h.max, h.small, h.lies⟩
/-- Four bytes in a new block. -/
theorem four_isB (W : World) (b0 b1 b2 b3 : UInt8) (x0 x1 x2 x3 : Int) (h0 : x0 = (b0.toNat : Int)) (h1 : x1 = (b1.toNat : Int)) (h2 : x2 = (b2.toNat : Int)) (h3 : x3 = (b3.toNat : Int)) :
    IsB (W.alloc (.cells #[.int .u8 x0, .int .u8 x1, .int .u8 x2, .int .u8 x3] 5)) (some ⟨W.heap.size, 0, none⟩) 4 4 [b0, b1, b2, b3] := by
  subst h0 h1 h2 h3
  refine ⟨rfl, Nat.le_refl _, by unfold maxLen; omega, by omega, fun _ => ⟨_, rfl, fun j hj => ?_⟩⟩
  have hh := heap_alloc_new W (.cells #[.int .u8 (b0.toNat : Int), .int .u8 (b1.toNat : Int), .int .u8 (b2.toNat : Int), .int .u8 (b3.toNat : Int)] 5)
  rw [Addr.add_lit, Nat.zero_add, row_cell hh j]
  match j, hj with
  | 0, _ => rfl
  | 1, _ => rfl
  | 2, _ => rfl
  | 3, _ => rfl
theorem step_append_b {ops : Array Oper} {o : Oper} {a : Act} {K : Act → World → Prop} {Q : Exit → Act → World → Prop} {E : Prop} (hgd : o.guard = none) (s x : Operand)
    (ho : o.op = .call { callee := .builtin .append, args := #[s, x], argTypes := #[30, 30] }) (w0 w : World) (base : Nat) (v : Value) (n : Nat) (l : List UInt8) (hs : a.eval s = v) (hown : w.ownsRow base 5 1 v n (l.map bv))
    (ad : Addr) (m c : Nat) (l2 : List UInt8) (hx : a.eval x = .slice (some ad) m c) (hB : IsB w (some ad) m c l2) (h48 : n + m ≤ 140737488355328) (hb : Below base w0 w) (hbase : base ≤ w0.heap.size)
    (hK : ∀ v' w', Hid (w'.ownsRow base 5 1 v' (n + m) ((l ++ l2).map bv)) → Hid (Below base w0 w') → K (a.put o.dst v') w') :
    if Region.wanted o (yielded ops a.tmps) = true then Oper.wp Try.prog o a w K Q else E := by
  have hw : Region.wanted o (yielded ops a.tmps) = true := by simp [Region.wanted, hgd]
  rw [if_pos hw]
  have hc : ∀ j u, (l2.map bv)[j]? = some u → w.cell? (ad.add j) = some u := by
    intro j u hu
    have hj : j < l2.length := by have e := (List.getElem?_eq_some_iff.1 hu).1; simpa using e
    obtain ⟨ad', e, hc⟩ := hB.lies (by omega)
    cases e
    rw [map_bv_getElem? l2 j hj] at hu
    cases hu
    exact hc j hj
  obtain ⟨v', w', hr, h2, h3, _, _⟩ := run_append_fresh (ty := o.type) hown ad m c (l2.map bv) (by rw [List.length_map, hB.len]) hc (bv_one l2) h48 (Nat.le_trans hbase hb.size)
  unfold Oper.wp execOp
  simp only [ho, resolve, invoke, builtin, Sem.run_bind, Sem.run_pure, Result.andThen_ok, List.map_toArray, List.map_cons, List.map_nil, hs, hx, hr]
  exact hK _ _ (by show World.ownsRow _ _ _ _ _ _ _; rw [List.map_append]; exact h2) (hb.grown h3 (Nat.le_trans hbase hb.size) (fun k hk => (hown.lt k hk).1))
theorem own_front {w : World} {g n : Nat} {l : List UInt8} {base : Nat} (k : Nat) (hl : l.length = n) (hg : base ≤ g) (hn : n + k ≤ 1000000) (h : w.heap[g]? = some (.cells (l.map bv ++ List.replicate k (Value.int .u8 0)).toArray 5 (0, 0))) : w.ownsRow base 5 1 (.slice (some ⟨g, 0, none⟩) n (n + k)) n (l.map bv) := by
  refine ⟨by simp [hl], .inr ⟨g, n + k, _, rfl, hg, h, by omega, by unfold maxLen; omega, by simp [hl], ?_⟩⟩
  simp [hl]
set_option maxRecDepth 10000 in
set_option maxHeartbeats 4000000 in
theorem End_any {B : Nat} {S : Nat → Prop} {w : World} {g x y : Nat} {F : Value} {l : List UInt8} (h : Ob B S w g 55 (ecells g x y) F l) (hl : l.length ≤ 100000) (_hx : x < 4294967296) :
    Calls Try.prog 13 #[.pointer (some ⟨g, 0, none⟩)] w fun r w' => ∃ v, r = .returned v ∧ OwnB w w' v (l ++ be4 x) := by
  have HM := hid (made_yes g w (row_cell h.row 0))
  have c3 : w.cell? ⟨g, 3, none⟩ = some F := row_cell h.row 3
  have hmk := make_nm l.length (l.length + 4) (by omega) (by omega)
  rw [show ((l.length + 4 : Nat) : Int) = (l.length : Int) + 4 by omega] at hmk
  have e1 : IntKind.i64.wrap ((l.length : Int) + 4) = (l.length : Int) + 4 := by rw [IntKind.wrap_i64]; omega
  obtain ⟨A, c, rfl⟩ := own_sl h.ff
  have H := hid h
  have HL := hid hl
  clear h hl
  go_enter Try.func13, Try.ntmps13
  go_wp2_with (go_at_call 26; refine HM.out.mono ?_; rintro r w' ⟨rfl, rfl⟩)
  go_region
  obtain ⟨W1, hW1⟩ : ∃ W1, W1 = (w.alloc (Obj.cells (Array.replicate (l.length + 4) (Value.int IntKind.u8 0)) 5)).drew := ⟨_, rfl⟩
  rw [← hW1]
  have b1 : Below w.heap.size w W1 := by rw [hW1]; exact ((Below.refl _ w).alloc (Nat.le_refl _) _).drew
  have r1 : W1.heap[w.heap.size]? = some (.cells (List.replicate (l.length + 4) (Value.int .u8 0)).toArray 5 (0, 0)) := by
    rw [hW1, List.toArray_replicate]
    exact heap_alloc_new w _
  have c31 : W1.cell? ⟨g, 3, none⟩ = some (.slice A l.length c) := (b1.cell (lt_of_cell c3)).trans c3
  have HB1 := hid b1
  have HR1 := hid r1
  have HI := hid (own_isB2 (own_below H.out.ff b1) (by have := HL.out; omega))
  clear hW1 b1 r1 e1 hmk
  go_wp2_with (with_reducible refine wpList_copy_splice rfl (.tmp 19) (.tmp 23) 30 30 rfl 5 Try.underlying30 Try.size5 _ _ _ _ _ _ rfl rfl w.heap.size 0 (List.replicate (l.length + 4) (.int .u8 0)) 5 ?g1 (l.map bv) ?g2 ?g3 ?g4 (bv_one l) w.heap.size w HB1.out (Nat.le_refl _) ?_)
  case g1 => exact HR1.out
  case g2 => rw [List.length_map]; exact (Nat.min_self _).symm
  case g3 => intro hp; exact HI.out.src2 (Below.refl _ W1) (by simpa using hp)
  case g4 => rw [List.length_map, List.length_replicate]; omega
  intro W2 hr2 hb2
  have r2 := hr2.out
  rw [splice_zero _ l.length 4 _ (List.length_map _)] at r2
  have HO2 := hid (own_front (base := w.heap.size) 4 rfl (Nat.le_refl _) (by have := HL.out; omega) r2)
  have cx : W2.cell? ⟨g, 1, none⟩ = some (.int .u32 (x : Nat)) := (hb2.cell (lt_of_heap H.out.row)).trans (row_cell H.out.row 1)
  have HB2 := hid hb2
  clear r2 hr2 hb2 HI HR1 HB1 c31
  have q0 : IntKind.u8.wrap ((x : Int) / 16777216) = ((UInt8.ofNat (x / 16777216)).toNat : Int) := by rw [IntKind.wrap_u8]; simp
  have q1 : IntKind.u8.wrap ((x : Int) / 65536) = ((UInt8.ofNat (x / 65536 % 256)).toNat : Int) := by rw [IntKind.wrap_u8]; simp
  have q2 : IntKind.u8.wrap ((x : Int) / 256) = ((UInt8.ofNat (x / 256 % 256)).toNat : Int) := by rw [IntKind.wrap_u8]; simp
  have q3 : IntKind.u8.wrap (x : Int) = ((UInt8.ofNat (x % 256)).toNat : Int) := by rw [IntKind.wrap_u8]; simp
  have HI4 := hid (four_isB W2 _ _ _ _ _ _ _ _ q0 q1 q2 q3).drew
  have HB4 := hid (HB2.out.alloc HB2.out.size (.cells #[.int .u8 (IntKind.u8.wrap ((x : Int) / 16777216)), .int .u8 (IntKind.u8.wrap ((x : Int) / 65536)), .int .u8 (IntKind.u8.wrap ((x : Int) / 256)), .int .u8 (IntKind.u8.wrap (x : Int))] 5)).drew
  have HO4 := hid (HO2.out.alloc (.cells #[.int .u8 (IntKind.u8.wrap ((x : Int) / 16777216)), .int .u8 (IntKind.u8.wrap ((x : Int) / 65536)), .int .u8 (IntKind.u8.wrap ((x : Int) / 256)), .int .u8 (IntKind.u8.wrap (x : Int))] 5)).drew
  clear q0 q1 q2 q3
  go_upto_region 5 with fail
  go_region_law (refine step_append_b rfl (.tmp 25) (.tmp 53) rfl w _ w.heap.size _ l.length l rfl HO4.out _ 4 4 (be4 x) rfl HI4.out (by have := HL.out; omega) HB4.out (Nat.le_refl _) ?_; intro v3 W3 ho3 hb3)
  all_goals
    go_wp2_with fail
    go_ret
    refine ⟨_, rfl, ?_, hb3.out⟩
    have := ho3.out
    have e : (l ++ be4 x).length = l.length + 4 := by rw [List.length_append]; rfl
    rw [e]
    exact this
end Go.Proofs.Ytbgbacajgaeooaa
