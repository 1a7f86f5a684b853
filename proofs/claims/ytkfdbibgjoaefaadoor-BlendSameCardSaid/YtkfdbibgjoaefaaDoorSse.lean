/-
  A PSse at work.
-/
import Derived.Test.YtkfdbibgjoaefaaDoorZi
import Derived.Test.YtkfdbibgjoaefaaDoorZg
namespace Go.Proofs.YtkfdbibgjoaefaaDoor
open Go.RowKit

theorem place_pw' (h c : Nat) (size : Int) (s0 : 0 ≤ size) (s1 : size ≤ 16) : placeN h c size < pw size := placeN_lt h c size s0 (by omega)
theorem jOf (la : Int) (h : Lean1 la) : ∃ j : Nat, (la + 2047) / 128 = (j : Int) ∧ j < 32 ∧ ((la + 2047) / 128).toNat = j ∧ Int.tdiv (la + 2047) 128 = (j : Int) := by
  obtain ⟨h1, h2⟩ := h
  refine ⟨((la + 2047) / 128).toNat, by omega, by omega, rfl, ?_⟩
  rw [Int.tdiv_eq_ediv_of_nonneg (by omega)]
  omega
set_option maxRecDepth 10000 in
set_option maxHeartbeats 1000000 in
theorem w_sse_odds (g d h c le m a j : Nat) (size limit : Int) (L : List Int) (w : World) (hh : h < 4294967296) (hc : c < 256) (s0 : 0 ≤ size) (s1 : size ≤ 16) (ha : a < m) (hm : m ≤ 16) (la : Lean1 (L.getD a 0)) (hj : j < 32) (hj2 : Int.tdiv (L.getD a 0 + 2047) 128 = (j : Int)) (hl : Ro w le 3 m (intsF L))
    (hg : w.heap[g]? = some (.cells #[.int .i64 size, .int .i64 32, sl d (pw size * 32), .int .i64 a, .int .i64 limit] 108 (0, 0))) :
    Calls Tryd.prog 95 #[pt g, mo h c le m] w fun e w' => e = .returned (.pointer (some ⟨d, placeN h c size * 32 * 2 + j * 2, none⟩)) ∧ Below w.heap.size w w' := by
  obtain ⟨s, rfl, s16, hp⟩ := pw_nat size s0 s1
  rw [hp] at hg
  have HA : Hid (∀ w', Calls Tryd.prog 69 #[.agg #[.int .i64 s, .int .i64 32, .slice (some ⟨d, 0, none⟩) (2 ^ s * 32) (2 ^ s * 32)], .agg #[.int .u32 h, .int .u32 c, .slice (some ⟨le, 0, none⟩) m m]] w' fun e w'' =>
      e = .returned (.slice (some ⟨d, placeN h c s * 32 * 2, none⟩) 32 (2 ^ s * 32 - placeN h c s * 32)) ∧ Below w'.heap.size w' w'') := hid (fun w' => at_o d h c s 32 (2 ^ s * 32) m m (some ⟨le, 0, none⟩) w' hh hc s16 (by omega) (by omega))
  have x0 := hl.cell a ha
  unfold intsF at x0
  generalize placeN h c s * 32 * 2 = o at *
  generalize 2 ^ s * 32 - placeN h c s * 32 = q at HA
  generalize 2 ^ s * 32 = n at *
  obtain ⟨la1, la2⟩ := la
  generalize L.getD a 0 = p at *
  have z0 : (a : Int) < (m : Int) := by omega
  have z2 : (m : Int) ≤ 16 := by omega
  have z3 : (j : Int) < 32 := by omega
  have g1 : IntKind.i64.wrap (p + 2047) = p + 2047 := IntWalk.i64_in _ (by omega)
  have g2 : IntKind.i64.wrap (Int.tdiv (p + 2047) 128) = (j : Int) := by rw [hj2]; exact IntWalk.i64_in _ (by omega)
  obtain ⟨W, hW⟩ : ∃ W, W = w.alloc (.cells #[.int .u32 h, .int .u32 c, sl le m] 55) := ⟨_, rfl⟩
  have b0 : Below w.heap.size w W := by rw [hW]; exact (Below.refl _ _).alloc (Nat.le_refl _) _
  have m0 : W.cell? ⟨w.heap.size, 0, none⟩ = some (.int .u32 h) := by rw [hW]; go_simp
  have m1 : W.cell? ⟨w.heap.size, 1, none⟩ = some (.int .u32 c) := by rw [hW]; go_simp
  have m2 : W.cell? ⟨w.heap.size, 2, none⟩ = some (sl le m) := by rw [hW]; go_simp
  have f0 : W.cell? ⟨g, 0, none⟩ = some (.int .i64 s) := keeps b0 (row_cell hg 0)
  have f1 : W.cell? ⟨g, 1, none⟩ = some (.int .i64 32) := keeps b0 (row_cell hg 1)
  have f2 : W.cell? ⟨g, 2, none⟩ = some (sl d n) := keeps b0 (row_cell hg 2)
  have f3 : W.cell? ⟨g, 3, none⟩ = some (.int .i64 a) := keeps b0 (row_cell hg 3)
  have xa := keeps b0 x0
  have b0 := hid b0
  clear hg hp hl x0 hj2
  unfold mo pt sl at *
  go_enter Tryd.func95, Tryd.ntmps95
  go_wp2_with fail
  rw [← hW]
  clear hW
  go_region_held3 (fun w' => w'.cell? ⟨g, 0, none⟩ = some (.int .i64 s) ∧ w'.cell? ⟨g, 1, none⟩ = some (.int .i64 32) ∧ w'.cell? ⟨g, 2, none⟩ = some (.slice (some ⟨d, 0, none⟩) n n) ∧ w'.cell? ⟨w.heap.size, 0, none⟩ = some (.int .u32 h) ∧ w'.cell? ⟨w.heap.size, 1, none⟩ = some (.int .u32 c) ∧ w'.cell? ⟨w.heap.size, 2, none⟩ = some (.slice (some ⟨le, 0, none⟩) m m) ∧ w'.cell? ⟨g, 3, none⟩ = some (.int .i64 a) ∧ w'.cell? ⟨le, a, none⟩ = some (.int .i64 p))
    (first | exact ⟨f0, f1, f2, m0, m1, m2, f3, xa⟩ | exact ⟨k0, k1, k2, k3, k4, k5, k6, k7⟩ | go_keep)
    (first
    | (go_at_call 69; go_must ((refine (HA.out _).mono ?_); rintro r w1 ⟨rfl, b1⟩; have k0 := keeps b1 f0; have k1 := keeps b1 f1; have k2 := keeps b1 f2; have k3 := keeps b1 m0; have k4 := keeps b1 m1; have k5 := keeps b1 m2; have k6 := keeps b1 f3; have k7 := keeps b1 xa; have b1 := undrew b1; have B1 := hid (show Below W.heap.size W w1 from b1))))
  all_goals
    go_wp2_with fail
    go_ret
    exact ⟨rfl, bel2 b0.out B1.out⟩
set_option maxRecDepth 10000 in
set_option maxHeartbeats 1000000 in
theorem w_sse_lean (g d h c le m a j : Nat) (size limit : Int) (L chance count : List Int) (w : World) (kn : KnIs w) (hh : h < 4294967296) (hc : c < 256) (s0 : 0 ≤ size) (s1 : size ≤ 16) (ha : a < m) (hm : m ≤ 16) (la : Lean1 (L.getD a 0)) (hj : j < 32) (hj2 : Int.tdiv (L.getD a 0 + 2047) 128 = (j : Int)) (hl : Ro w le 3 m (intsF L))
    (hg : w.heap[g]? = some (.cells #[.int .i64 size, .int .i64 32, sl d (pw size * 32), .int .i64 a, .int .i64 limit] 108 (0, 0))) (hd : Ro w d 82 (2 * (pw size * 32)) (oddsF chance count))
    (hr : 0 ≤ chance.getD (placeN h c size * 32 + j) 0 ∧ chance.getD (placeN h c size * 32 + j) 0 ≤ 4194303) :
    Calls Tryd.prog 93 #[pt g, mo h c le m] w fun e w' => e = .returned (.int .i64 (stz (chance.getD (placeN h c size * 32 + j) 0 / 1024))) ∧ Below w.heap.size w w' := by
  have HO := hid (fun w' (b : Below w.heap.size w w') => w_sse_odds g d h c le m a j size limit L w' hh hc s0 s1 ha hm la hj hj2 (hl.below b) ((b.block g (lt_of_heap hg)).trans hg))
  have hp := place_pw' h c size s0 s1
  have c0 := hd.cell (placeN h c size * 32 * 2 + j * 2) (by omega)
  rw [show oddsF chance count (placeN h c size * 32 * 2 + j * 2) = .int .i32 (chance.getD (placeN h c size * 32 + j) 0) from by unfold oddsF; rw [if_pos (by omega), show (placeN h c size * 32 * 2 + j * 2) / 2 = placeN h c size * 32 + j from by omega]] at c0
  generalize placeN h c size * 32 * 2 + j * 2 = o at *
  generalize chance.getD (placeN h c size * 32 + j) 0 = ch at *
  have HL := hid (fun w' k1 k2 => odds_lean d o ch w' k1 k2 hr.1 hr.2)
  generalize stz (ch / 1024) = r0 at HL ⊢
  have KN := hid kn
  have C0 := hid c0
  clear hl hg hd kn c0
  obtain ⟨W, hW⟩ : ∃ W, W = w.alloc (.cells #[.int .u32 h, .int .u32 c, sl le m] 55) := ⟨_, rfl⟩
  have b0 : Below w.heap.size w W := by rw [hW]; exact (Below.refl _ _).alloc (Nat.le_refl _) _
  have m0 : W.cell? ⟨w.heap.size, 0, none⟩ = some (.int .u32 h) := by rw [hW]; go_simp
  have m1 : W.cell? ⟨w.heap.size, 1, none⟩ = some (.int .u32 c) := by rw [hW]; go_simp
  have m2 : W.cell? ⟨w.heap.size, 2, none⟩ = some (sl le m) := by rw [hW]; go_simp
  have b0 := hid b0
  unfold mo pt sl at *
  go_enter Tryd.func93, Tryd.ntmps93
  go_wp2_with fail
  rw [← hW]
  clear hW
  go_wp2_with fail
  refine (HO.out _ b0.out).mono ?_
  rintro e w1 ⟨rfl, b1⟩
  have k1 := bel2 b0.out b1
  have K1 := hid k1
  clear k1 b1
  go_wp2_with fail
  refine (HL.out _ (KN.out.below K1.out) (keeps K1.out C0.out)).mono ?_
  rintro e w2 ⟨rfl, b2⟩
  have B2 := hid b2
  clear b2
  go_wp2_with fail
  go_ret
  exact ⟨rfl, bel2 K1.out B2.out⟩
set_option maxRecDepth 10000 in
set_option maxHeartbeats 1000000 in
theorem w_sse_learn (g d h c le m a j : Nat) (size limit own : Int) (L chance count : List Int) (one : Bool) (w : World) (ngd : g ≠ d) (hh : h < 4294967296) (hc : c < 256) (s0 : 0 ≤ size) (s1 : size ≤ 16) (ha : a < m) (hm : m ≤ 16) (la : Lean1 (L.getD a 0)) (hj : j < 32) (hj2 : Int.tdiv (L.getD a 0 + 2047) 128 = (j : Int)) (hl : Ro w le 3 m (intsF L))
    (hg : w.heap[g]? = some (.cells #[.int .i64 size, .int .i64 32, sl d (pw size * 32), .int .i64 a, .int .i64 limit] 108 (0, 0))) (hd : Ro w d 82 (2 * (pw size * 32)) (oddsF chance count)) (l1 : chance.length = pw size * 32) (l2 : count.length = pw size * 32)
    (hr : 0 ≤ chance.getD (placeN h c size * 32 + j) 0 ∧ chance.getD (placeN h c size * 32 + j) 0 ≤ 4194303) (hn : 0 ≤ count.getD (placeN h c size * 32 + j) 0 ∧ count.getD (placeN h c size * 32 + j) 0 ≤ 1023) (hlim : 0 ≤ limit ∧ limit ≤ 1023) :
    Calls Tryd.prog 94 #[pt g, mo h c le m, .int .i64 own, .int .i64 (if one then 1 else 0)] w fun e w' => e = .returned (.tuple #[]) ∧
      Ro w' d 82 (2 * (pw size * 32)) (oddsF (chance.set (placeN h c size * 32 + j) (chance.getD (placeN h c size * 32 + j) 0 + Int.tdiv ((if one then 4194303 else 0) - chance.getD (placeN h c size * 32 + j) 0) (count.getD (placeN h c size * 32 + j) 0 + 2))) (count.set (placeN h c size * 32 + j) (into (count.getD (placeN h c size * 32 + j) 0 + 1) 0 limit))) ∧ But (· = d) w w' := by
  have HO := hid (fun w' (b : Below w.heap.size w w') => w_sse_odds g d h c le m a j size limit L w' hh hc s0 s1 ha hm la hj hj2 (hl.below b) ((b.block g (lt_of_heap hg)).trans hg))
  have hp := place_pw' h c size s0 s1
  generalize placeN h c size = pl at *
  have ho : pl * 32 * 2 + j * 2 = 2 * (pl * 32 + j) := by omega
  generalize pl * 32 * 2 + j * 2 = o at *
  have hi : pl * 32 + j < pw size * 32 := by omega
  have HL := hid (fun w' k1 => odds_learn d o (pl * 32 + j) (pw size * 32) chance count limit one w' k1 hi ho l1 l2 hr hn hlim)
  generalize pl * 32 + j = i at *
  generalize oddsF (chance.set i _) _ = R at HL ⊢
  generalize (if one then (1 : Int) else 0) = bt at HL ⊢
  generalize pw size * 32 = n at *
  have c4 : w.cell? ⟨g, 4, none⟩ = some (.int .i64 limit) := row_cell hg 4
  have DW := hid hd
  have gl := lt_of_heap hg
  clear hl hg hd l1 l2 hr hn ho hi hp hj2 la
  obtain ⟨W, hW⟩ : ∃ W, W = w.alloc (.cells #[.int .u32 h, .int .u32 c, sl le m] 55) := ⟨_, rfl⟩
  have b0 : Below w.heap.size w W := by rw [hW]; exact (Below.refl _ _).alloc (Nat.le_refl _) _
  have m0 : W.cell? ⟨w.heap.size, 0, none⟩ = some (.int .u32 h) := by rw [hW]; go_simp
  have m1 : W.cell? ⟨w.heap.size, 1, none⟩ = some (.int .u32 c) := by rw [hW]; go_simp
  have m2 : W.cell? ⟨w.heap.size, 2, none⟩ = some (sl le m) := by rw [hW]; go_simp
  have g4 : W.cell? ⟨g, 4, none⟩ = some (.int .i64 limit) := keeps b0 c4
  have nd : ¬ w.heap.size = d := by have := DW.out.lt; omega
  have b0 := hid b0
  clear c4
  unfold mo pt sl at *
  go_enter Tryd.func94, Tryd.ntmps94
  go_wp2_with fail
  rw [← hW]
  clear hW
  go_region_held3 (fun w' => w'.cell? ⟨w.heap.size, 0, none⟩ = some (.int .u32 h) ∧ w'.cell? ⟨w.heap.size, 1, none⟩ = some (.int .u32 c) ∧ w'.cell? ⟨w.heap.size, 2, none⟩ = some (.slice (some ⟨le, 0, none⟩) m m) ∧ w'.cell? ⟨g, 4, none⟩ = some (.int .i64 limit))
    (first | exact ⟨m0, m1, m2, g4⟩ | exact ⟨k0, k1, k2, k3⟩ | go_keep)
    (first
    | (go_at_call 95; go_must ((refine (HO.out _ b0.out.drew).mono ?_); rintro r w1 ⟨rfl, b1⟩; have k0 := keeps b1 m0; have k1 := keeps b1 m1; have k2 := keeps b1 m2; have k3 := keeps b1 g4; have b1 := undrew b1; have B1 := hid (show Below W.heap.size W w1 from b1); have Q1 := hid (DW.out.below (bel2 b0.out B1.out))))
    | (go_at_call 71; go_must ((refine (HL.out _ Q1.out).mono ?_); rintro r w2 ⟨rfl, r2, b2⟩; replace k0 := b2.cell k0 nd; replace k1 := b2.cell k1 nd; replace k2 := b2.cell k2 nd; replace k3 := b2.cell k3 ngd; have R2 := hid r2; have B2 := hid b2)))
  all_goals
    go_wp2_with fail
    refine bodyPost_end (results_none rfl _ _ _) rfl ⟨rfl, R2.out, bb3 b0.out B1.out B2.out⟩
end Go.Proofs.YtkfdbibgjoaefaaDoor
