/-
  The contracts of made, operate, settle, start.
-/
import Derived.Test.YtgccjclloomfgaaDsk
import Derived.Deep.Cut
import Derived.OwnWalk
import Derived.LaidEqlPtr
namespace Go.Proofs.Ytgccjclloomfgaa
open Go.RowKit

theorem Try.isPtr22 : Try.prog.underlying 22 = some (.pointer 61) := by kernel_rfl
theorem Try.has61 : (Try.prog.info? 61).isSome = true := by kernel_rfl
theorem ptr_self (a : Addr) (w : World) : (binOp BinOp.eql 22 (.pointer (some a)) (.pointer (some a))).run Try.prog w = .ok (.bool true) w := by
  obtain ⟨j, hj⟩ := Option.isSome_iff_exists.1 Try.has61
  exact run_eql_ptr_same w a Try.isPtr22 hj
theorem ptr_none (a : Addr) (w : World) : (binOp BinOp.eql 22 (.pointer none) (.pointer (some a))).run Try.prog w = .ok (.bool false) w := by kernel_rfl
set_option maxRecDepth 10000 in
set_option maxHeartbeats 1000000 in
theorem made_any {B : Nat} {S : Nat → Prop} {w : World} {g : Nat} {F L : Value} {d : Dk} {e : Int} (h : DkAt B S w g F L d e) :
    Calls Try.prog 39 #[.pointer (some ⟨g, 0, none⟩)] w fun r w' => r = .returned (.bool true) ∧ w = w' := by
  have c0 := h.cells.1
  have hp := ptr_self ⟨g, 0, none⟩
  clear h
  go_enter Try.func39, Try.ntmps39
  go_wp2_with fail
  go_ret
  exact ⟨rfl, rfl⟩
set_option maxRecDepth 10000 in
set_option maxHeartbeats 1000000 in
theorem made_nil (w : World) : Calls Try.prog 39 #[.pointer none] w fun r w' => r = .returned (.bool false) ∧ w = w' := by
  go_enter Try.func39, Try.ntmps39
  go_wp2_with fail
  go_ret
  exact ⟨rfl, rfl⟩
set_option maxRecDepth 10000 in
set_option maxHeartbeats 1000000 in
theorem made_zero (g : Nat) (w : World) (c0 : w.cell? ⟨g, 0, none⟩ = some (.pointer none)) : Calls Try.prog 39 #[.pointer (some ⟨g, 0, none⟩)] w fun r w' => r = .returned (.bool false) ∧ w = w' := by
  have hp := ptr_none ⟨g, 0, none⟩
  go_enter Try.func39, Try.ntmps39
  go_wp2_with fail
  go_ret
  exact ⟨rfl, rfl⟩
theorem set5 (g : Nat) (F L : Value) (d : Dk) (e : Int) (b : Bool) : (dcells g F L d e).setIfInBounds 5 (.bool b) = dcells g F L { d with down := b } e := rfl
set_option maxRecDepth 10000 in
set_option maxHeartbeats 2000000 in
theorem operate_no {B : Nat} {S : Nat → Prop} {w : World} {g : Nat} {F L : Value} {d : Dk} {e : Int} (K : Nat) (caps : Array Value) (h : DkAt B S w g F L d e) (hb : d.op.2 ≠ 0) :
    Calls Try.prog 40 #[.pointer (some ⟨g, 0, none⟩), .func (.func K) #[] caps] w fun r w' => r = .returned (.int .i64 (d.op.2 : Nat)) ∧ DkAt B S w' g F L d.op.1 e ∧ But (· = g) w w' := by
  obtain ⟨c0, c1, c2, c3, c4, c5, c6, c7, c8⟩ := h.cells
  have f5 := row_free h.row 5
  have f6 := row_free h.row 6
  have f7 := row_free h.row 7
  have H := hid h
  have hae := h.ae
  have hfe := h.fe
  have hfa := h.ok.fa
  clear c0 c1 c2 c3 c4
  by_cases ha : d.armed = 1
  · have e1 : (d.armed : Int) - 1 = 0 := by omega
    rw [e1] at c6
    have Hfin : Hid (DkAt B S (w.setCell ⟨g, 5, none⟩ (.bool true)) g F L d.op.1 e ∧ d.op.2 = 11) := by
      have ee : d.op.1 = { d with down := true } ∧ d.op.2 = 11 := by
        unfold Dk.op
        by_cases hd : d.down = true
        · rw [if_pos hd]; exact ⟨by cases d; simp at hd ⊢; exact hd, rfl⟩
        · rw [if_neg hd, if_pos ha]; exact ⟨rfl, rfl⟩
      refine ⟨h.op ((But.refl _ w).set ⟨g, 5, none⟩ _ (.inl rfl)) ?_, ee.2⟩
      rw [row_set h.row 5, set5, ee.1]
    clear h hb ha hfa
    go_enter Try.func40, Try.ntmps40
    go_wp2_with fail
    go_ret
    rw [Hfin.out.2]
    exact ⟨rfl, Hfin.out.1, (But.refl _ w).set ⟨g, 5, none⟩ _ (.inl rfl)⟩
  · by_cases hd : d.down = true
    · have ee : d.op = (d, 11) := by unfold Dk.op; rw [if_pos hd]
      rw [hd] at c5
      have hn : ¬ ((d.armed : Int) - 1 = 0) := by omega
      obtain ⟨a, hA⟩ : ∃ a : Int, a = (d.armed : Int) - 1 := ⟨_, rfl⟩
      rw [← hA] at c6 hn
      clear h hb ha hA
      go_enter Try.func40, Try.ntmps40
      go_wp2_with fail
      go_ret
      rw [ee]
      exact ⟨rfl, H.out, But.refl _ w⟩
    · have hd0 : d.down = false := by simpa using hd
      rw [hd0] at c5
      have hf2 : d.fails = 2 := by
        apply Classical.byContradiction
        intro hf
        apply hb
        unfold Dk.op
        rw [if_neg hd, if_neg ha, if_neg hf]
      have ee : d.op = ({ d with armed := d.armed - 1, fails := 0 }, d.err) := by unfold Dk.op; rw [if_neg hd, if_neg ha, if_pos hf2]
      have e8 : e = (d.err : Nat) := (h.er (by omega)).1
      have e7 : ((d.fails - 1 : Nat) : Int) = 1 := by omega
      rw [e7] at c7
      by_cases h0 : d.armed = 0
      · have e1 : (d.armed : Int) - 1 = -1 := by omega
        rw [e1] at c6
        have Hfin : Hid (DkAt B S (w.setCell ⟨g, 7, none⟩ (.int .i64 0)) g F L d.op.1 e) := by
          refine h.op ((But.refl _ w).set ⟨g, 7, none⟩ _ (.inl rfl)) ?_
          rw [row_set h.row 7, ee]
          unfold dcells
          rw [h0]
          rfl
        clear h hb ha hfa hd0 hf2 hfe hae h0
        go_enter Try.func40, Try.ntmps40
        go_wp2_with fail
        go_ret
        refine ⟨?_, Hfin.out, (But.refl _ w).set ⟨g, 7, none⟩ _ (.inl rfl)⟩
        rw [ee]
        rfl
      · obtain ⟨a, hA⟩ : ∃ a : Nat, d.armed = a + 2 := ⟨d.armed - 2, by omega⟩
        have e1 : (d.armed : Int) - 1 = (a : Int) + 1 := by omega
        rw [e1] at c6
        have haz : (a : Int) ≤ 9223372036854775806 := by omega
        have e2 : IntKind.i64.wrap ((a : Int) + 1 - 1) = (a : Int) := by rw [IntKind.wrap_i64]; omega
        have hbb : But (· = g) w ((w.setCell ⟨g, 6, none⟩ (.int .i64 (a : Int))).setCell ⟨g, 7, none⟩ (.int .i64 0)) := ((But.refl (· = g) w).set ⟨g, 6, none⟩ _ (.inl rfl)).set ⟨g, 7, none⟩ _ (.inl rfl)
        have Hfin : Hid (DkAt B S ((w.setCell ⟨g, 6, none⟩ (.int .i64 (a : Int))).setCell ⟨g, 7, none⟩ (.int .i64 0)) g F L d.op.1 e) := by
          refine h.op hbb ?_
          have r1 := row_set h.row 6 (.int .i64 (a : Int))
          rw [row_set r1 7, ee]
          unfold dcells
          rw [hA]
          have e3 : ((a + 2 - 1 : Nat) : Int) - 1 = (a : Int) := by omega
          rw [e3]
          rfl
        clear h hb ha hfa hd0 hf2 hfe hae h0 hA
        go_enter Try.func40, Try.ntmps40
        go_wp2_with fail
        go_ret
        refine ⟨?_, Hfin.out, hbb⟩
        rw [ee]
        rfl
end Go.Proofs.Ytgccjclloomfgaa
