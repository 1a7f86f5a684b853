/-
  The contract of operate where an operation may be: its work is done.
-/
import Derived.Test.YtgccjclloomfgaaOp
namespace Go.Proofs.Ytgccjclloomfgaa
open Go.RowKit

set_option maxRecDepth 10000 in
set_option maxHeartbeats 2000000 in
theorem operate_yes {B : Nat} {S : Nat → Prop} {w : World} {g : Nat} {F L : Value} {d : Dk} {e : Int} {R : Ending → World → Prop} (K : Nat) (caps : Array Value) (h : DkAt B S w g F L d e) (hb : d.op.2 = 0)
    (he : ∀ args w, (callFunc K args).run Try.prog w = .ok (.enter K args) w)
    (hf : ∀ w1, DkAt B S w1 g F L d.op.1 e → But (· = g) w w1 → Calls Try.prog K caps w1 fun r w' => (∃ n : Int, r = .returned (.int .i64 n)) ∧ R r w') :
    Calls Try.prog 40 #[.pointer (some ⟨g, 0, none⟩), .func (.func K) #[] caps] w R := by
  obtain ⟨c0, c1, c2, c3, c4, c5, c6, c7, c8⟩ := h.cells
  have f5 := row_free h.row 5
  have f6 := row_free h.row 6
  have f7 := row_free h.row 7
  have hae := h.ae
  have hfe := h.fe
  have hfa := h.ok.fa
  clear c0 c1 c2 c3 c4
  have hd : ¬ d.down = true := by
    intro hd
    unfold Dk.op at hb
    rw [if_pos hd] at hb
    exact absurd (show (11 : Nat) = 0 from hb) (by decide)
  have hd0 : d.down = false := by simpa using hd
  have ha : d.armed ≠ 1 := by
    intro ha
    unfold Dk.op at hb
    rw [if_neg hd, if_pos ha] at hb
    exact absurd (show (11 : Nat) = 0 from hb) (by decide)
  rw [hd0] at c5
  have h2 : d.fails ≠ 2 := by
    intro h2
    unfold Dk.op at hb
    rw [if_neg hd, if_neg ha, if_pos h2] at hb
    exact (h.er (by omega)).2 hb
  have hop : d.op.1 = { d with armed := d.armed - 1, fails := d.fails - (if d.fails > 2 then 1 else 0) } := by
    unfold Dk.op
    rw [if_neg hd, if_neg ha, if_neg h2]
  by_cases h0 : d.armed = 0
  · have e1 : (d.armed : Int) - 1 = -1 := by omega
    rw [e1] at c6
    by_cases hz : d.fails = 0
    · have e7 : ((d.fails - 1 : Nat) : Int) = 0 := by omega
      rw [e7] at c7
      have hD1 : DkAt B S w g F L d.op.1 e := by
        refine h.op (But.refl _ w) ?_
        rw [hop, h.row]
        unfold dcells
        rw [h0, hz]
        rfl
      have HF := hid (hf _ hD1 (But.refl _ w))
      clear h hb ha hfa hd0 hfe hae h0 hf h2 hz hD1 hop
      go_enter Try.func40, Try.ntmps40
      go_wp2_with fail
      refine HF.out.mono ?_
      rintro r w' ⟨⟨n, rfl⟩, hR⟩
      dsimp only
      go_wp2_with fail
      exact hR
    · obtain ⟨f, hF⟩ : ∃ f : Nat, d.fails = f + 2 := ⟨d.fails - 2, by omega⟩
      have e7 : ((d.fails - 1 : Nat) : Int) = (f : Int) + 1 := by omega
      rw [e7] at c7
      have hfz : (f : Int) ≤ 9223372036854775806 := by omega
      have hfn : ¬ ((f : Int) = 0) := by omega
      have hbb : But (· = g) w (w.setCell ⟨g, 7, none⟩ (.int .i64 (f : Int))) := (But.refl (· = g) w).set ⟨g, 7, none⟩ _ (.inl rfl)
      have hD1 : DkAt B S (w.setCell ⟨g, 7, none⟩ (.int .i64 (f : Int))) g F L d.op.1 e := by
        refine h.op hbb ?_
        rw [hop, row_set h.row 7]
        unfold dcells
        rw [h0, hF, if_pos (by omega)]
        have e9 : ((f + 2 - 1 - 1 : Nat) : Int) = (f : Int) := by omega
        rw [e9]
        rfl
      have HF := hid (hf _ hD1 hbb)
      clear h hb ha hfa hd0 hfe hae h0 hf h2 hz hD1 hop hF hbb
      go_enter Try.func40, Try.ntmps40
      go_wp2_with fail
      refine HF.out.mono ?_
      rintro r w' ⟨⟨n, rfl⟩, hR⟩
      dsimp only
      go_wp2_with fail
      exact hR
  · obtain ⟨a, hA⟩ : ∃ a : Nat, d.armed = a + 2 := ⟨d.armed - 2, by omega⟩
    have e1 : (d.armed : Int) - 1 = (a : Int) + 1 := by omega
    rw [e1] at c6
    have haz : (a : Int) ≤ 9223372036854775806 := by omega
    have hbb : But (· = g) w (w.setCell ⟨g, 6, none⟩ (.int .i64 (a : Int))) := (But.refl (· = g) w).set ⟨g, 6, none⟩ _ (.inl rfl)
    have r1 := row_set h.row 6 (.int .i64 (a : Int))
    by_cases hz : d.fails = 0
    · have e7 : ((d.fails - 1 : Nat) : Int) = 0 := by omega
      rw [e7] at c7
      have hD1 : DkAt B S (w.setCell ⟨g, 6, none⟩ (.int .i64 (a : Int))) g F L d.op.1 e := by
        refine h.op hbb ?_
        rw [hop, r1]
        unfold dcells
        rw [hA, hz]
        have e3 : ((a + 2 - 1 : Nat) : Int) - 1 = (a : Int) := by omega
        rw [e3]
        rfl
      have HF := hid (hf _ hD1 hbb)
      clear h hb ha hfa hd0 hfe hae h0 hf h2 hz hD1 hop hA hbb r1
      go_enter Try.func40, Try.ntmps40
      go_wp2_with fail
      refine HF.out.mono ?_
      rintro r w' ⟨⟨n, rfl⟩, hR⟩
      dsimp only
      go_wp2_with fail
      exact hR
    · obtain ⟨f, hF⟩ : ∃ f : Nat, d.fails = f + 2 := ⟨d.fails - 2, by omega⟩
      have e7 : ((d.fails - 1 : Nat) : Int) = (f : Int) + 1 := by omega
      rw [e7] at c7
      have hfz : (f : Int) ≤ 9223372036854775806 := by omega
      have hfn : ¬ ((f : Int) = 0) := by omega
      have hb2 : But (· = g) w ((w.setCell ⟨g, 6, none⟩ (.int .i64 (a : Int))).setCell ⟨g, 7, none⟩ (.int .i64 (f : Int))) := hbb.set ⟨g, 7, none⟩ _ (.inl rfl)
      have hD1 : DkAt B S ((w.setCell ⟨g, 6, none⟩ (.int .i64 (a : Int))).setCell ⟨g, 7, none⟩ (.int .i64 (f : Int))) g F L d.op.1 e := by
        refine h.op hb2 ?_
        rw [hop, row_set r1 7]
        unfold dcells
        rw [hA, hF, if_pos (by omega)]
        have e9 : ((f + 2 - 1 - 1 : Nat) : Int) = (f : Int) := by omega
        rw [e9]
        have e3 : ((a + 2 - 1 : Nat) : Int) - 1 = (a : Int) := by omega
        rw [e3]
        rfl
      have HF := hid (hf _ hD1 hb2)
      clear h hb ha hfa hd0 hfe hae h0 hf h2 hz hD1 hop hA hF hbb r1 hb2
      go_enter Try.func40, Try.ntmps40
      go_wp2_with fail
      refine HF.out.mono ?_
      rintro r w' ⟨⟨n, rfl⟩, hR⟩
      dsimp only
      go_wp2_with fail
      exact hR
end Go.Proofs.Ytgccjclloomfgaa
