/-
  The contracts of odds: how far they lean, what they learn.
-/
import Derived.Test.YtkfdbibgjoaefaaDoorUm
import Derived.BigRegion
namespace Go.Proofs.YtkfdbibgjoaefaaDoor
open Go.RowKit

theorem but_set1 (w : World) (d o : Nat) (u : Value) : But (· = d) w (w.setCell ⟨d, o, none⟩ u) := (But.refl (· = d) w).set ⟨d, o, none⟩ u (.inl rfl)
theorem but_set2 (w : World) (d o p : Nat) (u v : Value) : But (· = d) w ((w.setCell ⟨d, o, none⟩ u).setCell ⟨d, p, none⟩ v) := (but_set1 w d o u).set ⟨d, p, none⟩ v (.inl rfl)
set_option maxRecDepth 10000 in
set_option maxHeartbeats 1000000 in
theorem odds_lean (d o : Nat) (ch : Int) (w : World) (hk : KnIs w) (hc : w.cell? ⟨d, o, none⟩ = some (.int .i32 ch)) (h0 : 0 ≤ ch) (h1 : ch ≤ 4194303) :
    Calls Tryd.prog 70 #[.pointer (some ⟨d, o, none⟩)] w fun e w' => e = .returned (.int .i64 (stz (ch / 1024))) ∧ Below w.heap.size w w' := by
  go_enter Tryd.func70, Tryd.ntmps70
  go_wp2_with fail
  refine (stretch_any (ch / 1024) _ (by first | exact hk | exact hk.drewN _)).mono ?_
  rintro e w' ⟨rfl, b⟩
  go_wp2_with fail
  go_ret
  exact ⟨rfl, b⟩
set_option maxRecDepth 10000 in
set_option maxHeartbeats 1000000 in
theorem odds_learn (d o i n : Nat) (chance count : List Int) (limit : Int) (one : Bool) (w : World) (hd : Ro w d 82 (2 * n) (oddsF chance count)) (hi : i < n) (ho : o = 2 * i)
    (l1 : chance.length = n) (l2 : count.length = n) (h0 : 0 ≤ chance.getD i 0 ∧ chance.getD i 0 ≤ 4194303) (h1 : 0 ≤ count.getD i 0 ∧ count.getD i 0 ≤ 1023) (hl : 0 ≤ limit ∧ limit ≤ 1023) :
    Calls Tryd.prog 71 #[.pointer (some ⟨d, o, none⟩), .int .i64 (if one then 1 else 0), .int .i64 limit] w fun e w' => e = .returned (.tuple #[]) ∧
      Ro w' d 82 (2 * n) (oddsF (chance.set i (chance.getD i 0 + Int.tdiv ((if one then 4194303 else 0) - chance.getD i 0) (count.getD i 0 + 2))) (count.set i (into (count.getD i 0 + 1) 0 limit))) ∧ But (· = d) w w' := by
  have c0 := hd.cell o (by omega)
  have c1 := hd.cell (o + 1) (by omega)
  have f0 := hd.free o
  have f1 := hd.free (o + 1)
  have e0 : oddsF chance count o = .int .i32 (chance.getD i 0) := by unfold oddsF; rw [if_pos (by omega), show o / 2 = i from by omega]
  have e1 : oddsF chance count (o + 1) = .int .i32 (count.getD i 0) := by unfold oddsF; rw [if_neg (by omega), show (o + 1) / 2 = i from by omega]
  rw [e0] at c0
  rw [e1] at c1
  have hr := step_range (chance.getD i 0) (if one then 4194303 else 0) (count.getD i 0 + 2) 4194303 h0 (by cases one <;> decide) (by omega)
  have hin := into_range (count.getD i 0 + 1) 0 limit hl.1
  have fin : ∀ W' : World, ∀ x y : Int, x = chance.getD i 0 + Int.tdiv ((if one then 4194303 else 0) - chance.getD i 0) (count.getD i 0 + 2) → y = into (count.getD i 0 + 1) 0 limit → Ro W' d 82 (2 * n) (fun k => if k = o + 1 then .int .i32 y else if k = o then .int .i32 x else oddsF chance count k) →
      Ro W' d 82 (2 * n) (oddsF (chance.set i (chance.getD i 0 + Int.tdiv ((if one then 4194303 else 0) - chance.getD i 0) (count.getD i 0 + 2))) (count.set i (into (count.getD i 0 + 1) 0 limit))) := by
    intro W' x y hx hy h
    refine h.same fun k hk => ?_
    rw [← hx, ← hy]
    unfold oddsF
    rw [getD_set _ _ _ _ _ (by omega), getD_set _ _ _ _ _ (by omega)]
    by_cases k1 : k = o + 1
    · rw [if_pos k1, if_neg (by omega), if_pos (by omega)]
    · rw [if_neg k1]
      by_cases k0 : k = o
      · rw [if_pos k0, if_pos (by omega), if_pos (by omega)]
      · rw [if_neg k0]
        by_cases km : k % 2 = 0
        · rw [if_pos km, if_pos km, if_neg (by omega)]
        · rw [if_neg km, if_neg km, if_neg (by omega)]
  have HF := hid fin
  have HD := hid hd
  clear fin hd e0 e1
  generalize chance.getD i 0 = ch at *
  generalize count.getD i 0 = co at *
  clear ho
  have hne : co + 2 ≠ 0 := by omega
  obtain ⟨h01, h02⟩ := h0
  obtain ⟨h11, h12⟩ := h1
  obtain ⟨hl1, hl2⟩ := hl
  cases one
  · simp only [Bool.false_eq_true, if_false] at hr HF ⊢
    obtain ⟨q, hq⟩ : ∃ q, (0 - ch).tdiv (co + 2) = q := ⟨_, rfl⟩
    rw [hq] at hr HF
    have hq2 : (-ch).tdiv (co + 2) = q := by rw [← hq]; congr 1; omega
    obtain ⟨hr1, hr2⟩ := hr
    go_enter Tryd.func71, Tryd.ntmps71
    go_wp2_with fail
    go_region
    go_wp2_with fail
    all_goals
      refine bodyPost_end (results_none rfl _ _ _) rfl ⟨rfl, ?_, ?_⟩
      · refine HF.out _ (ch + q) _ rfl ?_ ((HD.out.set o _).set (o + 1) _)
        unfold into
        rw [if_neg (by omega)]
        first | rw [if_pos (by omega)] | rw [if_neg (by omega)]
      · exact (but_set2 w d o (o + 1) _ _).drew
  · simp only [if_true] at hr HF ⊢
    obtain ⟨q, hq⟩ : ∃ q, (4194303 - ch).tdiv (co + 2) = q := ⟨_, rfl⟩
    rw [hq] at hr HF
    obtain ⟨hr1, hr2⟩ := hr
    go_enter Tryd.func71, Tryd.ntmps71
    go_wp2_with fail
    go_region
    go_wp2_with fail
    all_goals
      refine bodyPost_end (results_none rfl _ _ _) rfl ⟨rfl, ?_, ?_⟩
      · refine HF.out _ (ch + q) _ rfl ?_ ((HD.out.set o _).set (o + 1) _)
        unfold into
        rw [if_neg (by omega)]
        first | rw [if_pos (by omega)] | rw [if_neg (by omega)]
      · exact (but_set2 w d o (o + 1) _ _).drew
end Go.Proofs.YtkfdbibgjoaefaaDoor
