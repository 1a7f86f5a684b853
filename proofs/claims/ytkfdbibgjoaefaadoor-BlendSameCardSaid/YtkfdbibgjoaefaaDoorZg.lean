/-
  Merged: Cm Ic Icl.
-/
import Derived.Test.YtkfdbibgjoaefaaDoorAt
import Derived.Test.YtkfdbibgjoaefaaDoorZc
import Derived.Test.YtkfdbibgjoaefaaDoorZa
import Derived.IntWalk
import Derived.BigRegion
/-
  A PCm at work: how it leans, what it learns.
-/
namespace Go.Proofs.YtkfdbibgjoaefaaDoor
open Go.RowKit

theorem pw_nat (s : Int) (h0 : 0 ≤ s) (h1 : s ≤ 16) : ∃ k : Nat, s = (k : Int) ∧ k ≤ 16 ∧ pw s = 2 ^ k := ⟨s.toNat, by omega, by omega, rfl⟩
theorem pw_le (s : Int) (h1 : s ≤ 16) : pw s ≤ 65536 := by
  unfold pw
  have := Nat.pow_le_pow_right (n := 2) (by decide) (show s.toNat ≤ 16 from by omega)
  simpa using this
set_option maxRecDepth 10000 in
set_option maxHeartbeats 1000000 in
theorem w_cm_lean (g d h c le m : Nat) (size limit : Int) (chance count : List Int) (w : World) (hk : KnIs w) (hh : h < 4294967296) (hc : c < 256) (s0 : 0 ≤ size) (s1 : size ≤ 16)
    (hg : w.heap[g]? = some (.cells #[.int .i64 size, .int .i64 1, sl d (pw size), .int .i64 limit] 85 (0, 0))) (hd : Ro w d 82 (2 * pw size) (oddsF chance count))
    (hr : 0 ≤ chance.getD (placeN h c size) 0 ∧ chance.getD (placeN h c size) 0 ≤ 4194303) :
    Calls Tryd.prog 67 #[pt g, mo h c le m] w fun e w' => e = .returned (.int .i64 (stz (chance.getD (placeN h c size) 0 / 1024))) ∧ Below w.heap.size w w' := by
  obtain ⟨s, rfl, s16, hp⟩ := pw_nat size s0 s1
  have ha := placeN_lt h c s s0 (by omega)
  have ha2 : placeN h c s < pw s := ha
  rw [hp] at hg hd ha2
  have HA : Hid (∀ w', Calls Tryd.prog 69 #[.agg #[.int .i64 s, .int .i64 1, .slice (some ⟨d, 0, none⟩) (2 ^ s) (2 ^ s)], .agg #[.int .u32 h, .int .u32 c, .slice (some ⟨le, 0, none⟩) m m]] w' fun e w'' =>
      e = .returned (.slice (some ⟨d, placeN h c s * 1 * 2, none⟩) 1 (2 ^ s - placeN h c s * 1)) ∧ Below w'.heap.size w' w'') := hid (fun w' => at_o d h c s 1 (2 ^ s) m m (some ⟨le, 0, none⟩) w' hh hc s16 (by omega) (by omega))
  have c0 := hd.cell (placeN h c s * 1 * 2) (by omega)
  rw [show oddsF chance count (placeN h c s * 1 * 2) = .int .i32 (chance.getD (placeN h c s) 0) from by unfold oddsF; rw [if_pos (by omega), show placeN h c s * 1 * 2 / 2 = placeN h c s from by omega]] at c0
  generalize placeN h c s = a at HA c0 hr ha2 ⊢
  generalize chance.getD a 0 = ch at *
  obtain ⟨n, hn⟩ : ∃ n, 2 ^ s = n := ⟨_, rfl⟩
  rw [hn] at HA hg hd ha2
  generalize n - a * 1 = q at HA
  generalize a * 1 * 2 = o at HA c0
  have HO := hid (fun w' k1 k2 => odds_lean d o ch w' k1 k2 hr.1 hr.2)
  generalize stz (ch / 1024) = r0 at HO ⊢
  obtain ⟨W, hW⟩ : ∃ W, W = w.alloc (.cells #[.int .u32 h, .int .u32 c, sl le m] 55) := ⟨_, rfl⟩
  have b0 : Below w.heap.size w W := by rw [hW]; exact (Below.refl _ _).alloc (Nat.le_refl _) _
  have m0 : W.cell? ⟨w.heap.size, 0, none⟩ = some (.int .u32 h) := by rw [hW]; go_simp
  have m1 : W.cell? ⟨w.heap.size, 1, none⟩ = some (.int .u32 c) := by rw [hW]; go_simp
  have m2 : W.cell? ⟨w.heap.size, 2, none⟩ = some (sl le m) := by rw [hW]; go_simp
  have g0 : W.cell? ⟨g, 0, none⟩ = some (.int .i64 s) := keeps b0 (row_cell hg 0)
  have g1 : W.cell? ⟨g, 1, none⟩ = some (.int .i64 1) := keeps b0 (row_cell hg 1)
  have g2 : W.cell? ⟨g, 2, none⟩ = some (sl d n) := keeps b0 (row_cell hg 2)
  have KW := hid (hk.below b0)
  have CW := hid (keeps b0 c0)
  have b0 := hid b0
  have G0 := hid g0
  have G1 := hid g1
  have G2 := hid g2
  have M0 := hid m0
  have M1 := hid m1
  have M2 := hid m2
  clear hg hd hk c0 hp hn ha g0 g1 g2 m0 m1 m2
  unfold mo pt sl at *
  go_enter Tryd.func67, Tryd.ntmps67
  go_wp2_with fail
  rw [← hW]
  clear hW
  go_region_held3 (fun w' => w'.cell? ⟨g, 0, none⟩ = some (.int .i64 s) ∧ w'.cell? ⟨g, 1, none⟩ = some (.int .i64 1) ∧ w'.cell? ⟨g, 2, none⟩ = some (.slice (some ⟨d, 0, none⟩) n n) ∧ w'.cell? ⟨w.heap.size, 0, none⟩ = some (.int .u32 h) ∧ w'.cell? ⟨w.heap.size, 1, none⟩ = some (.int .u32 c) ∧ w'.cell? ⟨w.heap.size, 2, none⟩ = some (.slice (some ⟨le, 0, none⟩) m m))
    (first | exact ⟨G0.out, G1.out, G2.out, M0.out, M1.out, M2.out⟩ | exact ⟨k0, k1, k2, k3, k4, k5⟩ | go_keep)
    (first
    | (go_at_call 69; go_must ((refine (HA.out _).mono ?_); rintro r w1 ⟨rfl, b1⟩; have k0 := keeps b1 G0.out; have k1 := keeps b1 G1.out; have k2 := keeps b1 G2.out; have k3 := keeps b1 M0.out; have k4 := keeps b1 M1.out; have k5 := keeps b1 M2.out; have K1 := hid (knk b1 KW.out); have Q1 := hid (keeps b1 CW.out); have B1 := hid (undrew b1)))
    | (go_at_call 70; go_must ((refine (HO.out _ K1.out Q1.out).mono ?_); rintro r w2 ⟨rfl, b2⟩; replace k0 := keeps b2 k0; replace k1 := keeps b2 k1; replace k2 := keeps b2 k2; replace k3 := keeps b2 k3; replace k4 := keeps b2 k4; replace k5 := keeps b2 k5; have B2 := hid b2)))
  all_goals
    go_wp2_with fail
    go_ret
    exact ⟨rfl, bel3 b0.out B1.out B2.out⟩
theorem bb3 {w W w1 w2 : World} {S : Nat → Prop} (b0 : Below w.heap.size w W) (b1 : Below W.heap.size W w1) (b2 : But S w1 w2) : But S w w2 := (But.of_below (bel2 b0 b1)).trans b2
set_option maxRecDepth 10000 in
set_option maxHeartbeats 1000000 in
theorem w_cm_learn (g d h c le m : Nat) (size limit own : Int) (chance count : List Int) (one : Bool) (w : World) (hgd : g ≠ d) (hh : h < 4294967296) (hc : c < 256) (s0 : 0 ≤ size) (s1 : size ≤ 16)
    (hg : w.heap[g]? = some (.cells #[.int .i64 size, .int .i64 1, sl d (pw size), .int .i64 limit] 85 (0, 0))) (hd : Ro w d 82 (2 * pw size) (oddsF chance count))
    (l1 : chance.length = pw size) (l2 : count.length = pw size) (hr : 0 ≤ chance.getD (placeN h c size) 0 ∧ chance.getD (placeN h c size) 0 ≤ 4194303) (hn : 0 ≤ count.getD (placeN h c size) 0 ∧ count.getD (placeN h c size) 0 ≤ 1023) (hl : 0 ≤ limit ∧ limit ≤ 1023) :
    Calls Tryd.prog 68 #[pt g, mo h c le m, .int .i64 own, .int .i64 (if one then 1 else 0)] w fun e w' => e = .returned (.tuple #[]) ∧
      Ro w' d 82 (2 * pw size) (oddsF (chance.set (placeN h c size) (chance.getD (placeN h c size) 0 + Int.tdiv ((if one then 4194303 else 0) - chance.getD (placeN h c size) 0) (count.getD (placeN h c size) 0 + 2))) (count.set (placeN h c size) (into (count.getD (placeN h c size) 0 + 1) 0 limit))) ∧ But (· = d) w w' := by
  obtain ⟨s, rfl, s16, hp⟩ := pw_nat size s0 s1
  have ha := placeN_lt h c s s0 (by omega)
  have ha2 : placeN h c s < pw s := ha
  rw [hp] at hg hd ha2 l1 l2 ⊢
  have HA : Hid (∀ w', Calls Tryd.prog 69 #[.agg #[.int .i64 s, .int .i64 1, .slice (some ⟨d, 0, none⟩) (2 ^ s) (2 ^ s)], .agg #[.int .u32 h, .int .u32 c, .slice (some ⟨le, 0, none⟩) m m]] w' fun e w'' =>
      e = .returned (.slice (some ⟨d, placeN h c s * 1 * 2, none⟩) 1 (2 ^ s - placeN h c s * 1)) ∧ Below w'.heap.size w' w'') := hid (fun w' => at_o d h c s 1 (2 ^ s) m m (some ⟨le, 0, none⟩) w' hh hc s16 (by omega) (by omega))
  have hdl := lt_of_heap hd
  generalize placeN h c s = a at *
  obtain ⟨n, hn⟩ : ∃ n, 2 ^ s = n := ⟨_, rfl⟩
  rw [hn] at HA hg hd ha2 l1 l2 ⊢
  generalize n - a * 1 = q at HA
  have HO := hid (fun w' k1 => odds_learn d (a * 1 * 2) a n chance count limit one w' k1 ha2 (by omega) l1 l2 hr ‹_› hl)
  generalize a * 1 * 2 = o at HA HO
  generalize oddsF (chance.set a _) _ = R at HO ⊢
  generalize (if one then (1 : Int) else 0) = bt at HO ⊢
  obtain ⟨W, hW⟩ : ∃ W, W = w.alloc (.cells #[.int .u32 h, .int .u32 c, sl le m] 55) := ⟨_, rfl⟩
  have b0 : Below w.heap.size w W := by rw [hW]; exact (Below.refl _ _).alloc (Nat.le_refl _) _
  have m0 : W.cell? ⟨w.heap.size, 0, none⟩ = some (.int .u32 h) := by rw [hW]; go_simp
  have m1 : W.cell? ⟨w.heap.size, 1, none⟩ = some (.int .u32 c) := by rw [hW]; go_simp
  have m2 : W.cell? ⟨w.heap.size, 2, none⟩ = some (sl le m) := by rw [hW]; go_simp
  have g0 : W.cell? ⟨g, 0, none⟩ = some (.int .i64 s) := keeps b0 (row_cell hg 0)
  have g1 : W.cell? ⟨g, 1, none⟩ = some (.int .i64 1) := keeps b0 (row_cell hg 1)
  have g2 : W.cell? ⟨g, 2, none⟩ = some (sl d n) := keeps b0 (row_cell hg 2)
  have g3 : W.cell? ⟨g, 3, none⟩ = some (.int .i64 limit) := keeps b0 (row_cell hg 3)
  have CW := hid (hd.below b0)
  have b0 := hid b0
  have G0 := hid g0
  have G1 := hid g1
  have G2 := hid g2
  have G3 := hid g3
  have M0 := hid m0
  have M1 := hid m1
  have M2 := hid m2
  have nd : ¬ w.heap.size = d := by omega
  clear hg hd hp hn ha g0 g1 g2 g3 m0 m1 m2 hr l1 l2 ha2
  unfold mo pt sl at *
  go_enter Tryd.func68, Tryd.ntmps68
  go_wp2_with fail
  rw [← hW]
  clear hW
  go_region_held3 (fun w' => w'.cell? ⟨g, 0, none⟩ = some (.int .i64 s) ∧ w'.cell? ⟨g, 1, none⟩ = some (.int .i64 1) ∧ w'.cell? ⟨g, 2, none⟩ = some (.slice (some ⟨d, 0, none⟩) n n) ∧ w'.cell? ⟨g, 3, none⟩ = some (.int .i64 limit) ∧ w'.cell? ⟨w.heap.size, 0, none⟩ = some (.int .u32 h) ∧ w'.cell? ⟨w.heap.size, 1, none⟩ = some (.int .u32 c) ∧ w'.cell? ⟨w.heap.size, 2, none⟩ = some (.slice (some ⟨le, 0, none⟩) m m))
    (first | exact ⟨G0.out, G1.out, G2.out, G3.out, M0.out, M1.out, M2.out⟩ | exact ⟨k0, k1, k2, k3, k4, k5, k6⟩ | go_keep)
    (first
    | (go_at_call 69; go_must ((refine (HA.out _).mono ?_); rintro r w1 ⟨rfl, b1⟩; have k0 := keeps b1 G0.out; have k1 := keeps b1 G1.out; have k2 := keeps b1 G2.out; have k3 := keeps b1 G3.out; have k4 := keeps b1 M0.out; have k5 := keeps b1 M1.out; have k6 := keeps b1 M2.out; have Q1 := hid (rok b1 CW.out); have B1 := hid (undrew b1)))
    | (go_at_call 71; go_must ((refine (HO.out _ Q1.out).mono ?_); rintro r w2 ⟨rfl, r2, b2⟩; replace k0 := b2.cell k0 hgd; replace k1 := b2.cell k1 hgd; replace k2 := b2.cell k2 hgd; replace k3 := b2.cell k3 hgd; replace k4 := b2.cell k4 nd; replace k5 := b2.cell k5 nd; replace k6 := b2.cell k6 nd; have R2 := hid r2; have B2 := hid b2)))
  all_goals
    go_wp2_with fail
    refine bodyPost_end (results_none rfl _ _ _) rfl ⟨rfl, R2.out, bb3 b0.out B1.out B2.out⟩
end Go.Proofs.YtkfdbibgjoaefaaDoor
/-
  A PConst, what never learns, a PIcm at work.
-/
namespace Go.Proofs.YtkfdbibgjoaefaaDoor
open Go.RowKit

set_option maxRecDepth 10000 in
set_option maxHeartbeats 1000000 in
theorem w_cst_lean (c : Int) (h cc le m : Nat) (w : World) : Calls Tryd.prog 66 #[.agg #[.int .i64 c], mo h cc le m] w fun e w' => e = .returned (.int .i64 c) ∧ Below w.heap.size w w' := by
  unfold mo sl
  go_enter Tryd.func66, Tryd.ntmps66
  go_wp2_with fail
  go_ret
  exact ⟨rfl, ((Below.refl _ _).alloc (Nat.le_refl _) _).alloc (by simp) _⟩
set_option maxRecDepth 10000 in
set_option maxHeartbeats 1000000 in
theorem w_fixed (h cc le m : Nat) (own bit : Int) (w : World) : Calls Tryd.prog 65 #[.agg #[], mo h cc le m, .int .i64 own, .int .i64 bit] w fun e w' => e = .returned (.tuple #[]) ∧ Below w.heap.size w w' := by
  unfold mo sl
  go_enter Tryd.func65, Tryd.ntmps65
  go_wp2_with fail
  refine bodyPost_end (results_none rfl _ _ _) rfl ⟨rfl, ((Below.refl _ _).alloc (Nat.le_refl _) _).alloc (by simp) _⟩
set_option maxRecDepth 10000 in
set_option maxHeartbeats 1000000 in
theorem w_begin (x : Nat) (w : World) : Calls Tryd.prog 63 #[.agg #[], .int .u32 (x : Nat)] w fun e w' => e = .returned (.tuple #[]) ∧ Below w.heap.size w w' := by
  go_enter Tryd.func63, Tryd.ntmps63
  go_wp2_with fail
  refine bodyPost_end (results_none rfl _ _ _) rfl ⟨rfl, ((Below.refl _ _).alloc (Nat.le_refl _) _)⟩
set_option maxRecDepth 10000 in
set_option maxHeartbeats 1000000 in
theorem w_end (x : Nat) (w : World) : Calls Tryd.prog 64 #[.agg #[], .int .u8 (x : Nat)] w fun e w' => e = .returned (.tuple #[]) ∧ Below w.heap.size w w' := by
  go_enter Tryd.func64, Tryd.ntmps64
  go_wp2_with fail
  refine bodyPost_end (results_none rfl _ _ _) rfl ⟨rfl, ((Below.refl _ _).alloc (Nat.le_refl _) _)⟩
set_option maxRecDepth 10000 in
set_option maxHeartbeats 1000000 in
theorem w_icm_lean (g d h c le m : Nat) (size : Int) (chance : List Int) (state : List Nat) (w : World) (hk : KnIs w) (hh : h < 4294967296) (hc : c < 256) (s0 : 0 ≤ size) (s1 : size ≤ 16)
    (hg : Ro w g 118 259 (icF size d (pw size) chance)) (hd : Ro w d 5 (pw size) (bytesF state)) (hs : state.getD (placeN h c size) 0 ≤ 255)
    (hr : 0 ≤ chance.getD (state.getD (placeN h c size) 0) 0 ∧ chance.getD (state.getD (placeN h c size) 0) 0 ≤ 65535) :
    Calls Tryd.prog 72 #[pt g, mo h c le m] w fun e w' => e = .returned (.int .i64 (stz (chance.getD (state.getD (placeN h c size) 0) 0 / 16))) ∧ Below w.heap.size w w' := by
  obtain ⟨s, rfl, s16, hp⟩ := pw_nat size s0 s1
  have ha := placeN_lt h c s s0 (by omega)
  have ha2 : placeN h c s < pw s := ha
  rw [hp] at hg hd ha2
  have HA : Hid (∀ w', Calls Tryd.prog 74 #[.agg #[.int .i64 s, .int .i64 1, .slice (some ⟨d, 0, none⟩) (2 ^ s) (2 ^ s)], .agg #[.int .u32 h, .int .u32 c, .slice (some ⟨le, 0, none⟩) m m]] w' fun e w'' =>
      e = .returned (.slice (some ⟨d, placeN h c s * 1, none⟩) 1 (2 ^ s - placeN h c s * 1)) ∧ Below w'.heap.size w' w'') := hid (fun w' => at_b d h c s 1 (2 ^ s) m m (some ⟨le, 0, none⟩) w' hh hc s16 (by omega) (by omega))
  rw [Nat.mul_one] at HA
  have c0 := hd.cell (placeN h c s) (by omega)
  unfold bytesF at c0
  generalize placeN h c s = a at *
  obtain ⟨n, hn⟩ : ∃ n, 2 ^ s = n := ⟨_, rfl⟩
  rw [hn] at HA hg hd ha2
  generalize n - a = q at HA
  generalize state.getD a 0 = st at *
  have c1 := hg.cell (3 + st) (by omega)
  have e1 : icF s d n chance (3 + st) = .int .i64 (chance.getD st 0) := by unfold icF; rw [if_neg (by omega), if_neg (by omega), if_neg (by omega), show 3 + st - 3 = st from by omega]
  rw [e1] at c1
  have z1 : (st : Int) < 256 := by omega
  generalize chance.getD st 0 = ch at *
  have HO := hid (fun w' k1 => stretch_any (ch / 16) w' k1)
  have zt : IntKind.i64.wrap (ch.tdiv 16) = ch / 16 := by rw [Int.tdiv_eq_ediv_of_nonneg hr.1]; exact IntWalk.i64_in _ (by omega)
  generalize stz (ch / 16) = r0 at HO ⊢
  obtain ⟨W, hW⟩ : ∃ W, W = w.alloc (.cells #[.int .u32 h, .int .u32 c, sl le m] 55) := ⟨_, rfl⟩
  have b0 : Below w.heap.size w W := by rw [hW]; exact (Below.refl _ _).alloc (Nat.le_refl _) _
  have m0 : W.cell? ⟨w.heap.size, 0, none⟩ = some (.int .u32 h) := by rw [hW]; go_simp
  have m1 : W.cell? ⟨w.heap.size, 1, none⟩ = some (.int .u32 c) := by rw [hW]; go_simp
  have m2 : W.cell? ⟨w.heap.size, 2, none⟩ = some (sl le m) := by rw [hW]; go_simp
  have g0 : W.cell? ⟨g, 0, none⟩ = some (.int .i64 s) := keeps b0 (hg.cell 0 (by omega))
  have g1 : W.cell? ⟨g, 1, none⟩ = some (.int .i64 1) := keeps b0 (hg.cell 1 (by omega))
  have g2 : W.cell? ⟨g, 2, none⟩ = some (sl d n) := keeps b0 (hg.cell 2 (by omega))
  have gc := keeps b0 c1
  have dc := keeps b0 c0
  have KW := hid (hk.below b0)
  have b0 := hid b0
  obtain ⟨r1, r2⟩ := hr
  clear hg hd hk c0 c1 hp hn ha e1 hs ha2
  unfold mo pt sl at *
  go_enter Tryd.func72, Tryd.ntmps72
  go_wp2_with fail
  rw [← hW]
  clear hW
  go_region_held3 (fun w' => w'.cell? ⟨g, 0, none⟩ = some (.int .i64 s) ∧ w'.cell? ⟨g, 1, none⟩ = some (.int .i64 1) ∧ w'.cell? ⟨g, 2, none⟩ = some (.slice (some ⟨d, 0, none⟩) n n) ∧ w'.cell? ⟨w.heap.size, 0, none⟩ = some (.int .u32 h) ∧ w'.cell? ⟨w.heap.size, 1, none⟩ = some (.int .u32 c) ∧ w'.cell? ⟨w.heap.size, 2, none⟩ = some (.slice (some ⟨le, 0, none⟩) m m) ∧ w'.cell? ⟨d, a, none⟩ = some (.int .u8 st) ∧ w'.cell? ⟨g, 3 + st, none⟩ = some (.int .i64 ch))
    (first | exact ⟨g0, g1, g2, m0, m1, m2, dc, gc⟩ | exact ⟨k0, k1, k2, k3, k4, k5, k6, k7⟩ | go_keep)
    (first
    | (go_at_call 74; go_must ((refine (HA.out _).mono ?_); rintro r w1 ⟨rfl, b1⟩; have k0 := keeps b1 g0; have k1 := keeps b1 g1; have k2 := keeps b1 g2; have k3 := keeps b1 m0; have k4 := keeps b1 m1; have k5 := keeps b1 m2; have k6 := keeps b1 dc; have k7 := keeps b1 gc; have K1 := hid (knk b1 KW.out); have B1 := hid (undrew b1)))
    | (go_at_call 23; go_must ((refine (HO.out _ K1.out).mono ?_); rintro r w2 ⟨rfl, b2⟩; replace k0 := keeps b2 k0; replace k1 := keeps b2 k1; replace k2 := keeps b2 k2; replace k3 := keeps b2 k3; replace k4 := keeps b2 k4; replace k5 := keeps b2 k5; replace k6 := keeps b2 k6; replace k7 := keeps b2 k7; have B2 := hid b2)))
  all_goals
    go_wp2_with fail
    go_ret
    exact ⟨rfl, bel3 b0.out B1.out B2.out⟩
end Go.Proofs.YtkfdbibgjoaefaaDoor
/-
  A PIcm learns.
-/
namespace Go.Proofs.YtkfdbibgjoaefaaDoor
open Go.RowKit

theorem icF_set {size : Int} {d n : Nat} {l : List Int} {i : Nat} {x : Int} (hi : i < 256) (hl : l.length = 256) : ∀ k, k < 259 → (fun k => if k = 3 + i then Value.int .i64 x else icF size d n l k) k = icF size d n (l.set i x) k := by
  intro k hk
  show (if k = 3 + i then Value.int .i64 x else icF size d n l k) = _
  by_cases e : k = 3 + i
  · rw [if_pos e]; unfold icF
    rw [if_neg (by omega), if_neg (by omega), if_neg (by omega), getD_set _ _ _ _ _ (by omega), if_pos (by omega)]
  · rw [if_neg e]; unfold icF
    by_cases e0 : k = 0
    · rw [if_pos e0, if_pos e0]
    · rw [if_neg e0, if_neg e0]
      by_cases e1 : k = 1
      · rw [if_pos e1, if_pos e1]
      · rw [if_neg e1, if_neg e1]
        by_cases e2 : k = 2
        · rw [if_pos e2, if_pos e2]
        · rw [if_neg e2, if_neg e2, getD_set _ _ _ _ _ (by omega), if_neg (by omega)]
theorem bytesF_set {l : List Nat} {n i : Nat} {x : Nat} (_hi : i < n) (hl : l.length = n) : ∀ k, k < n → (fun k => if k = i then Value.int .u8 x else bytesF l k) k = bytesF (l.set i x) k := by
  intro k hk
  show (if k = i then Value.int .u8 x else bytesF l k) = _
  unfold bytesF
  rw [getD_set _ _ _ _ _ (by omega)]
  by_cases e : k = i
  · rw [if_pos e, if_pos e.symm]
  · rw [if_neg e, if_neg (Ne.symm e)]
set_option maxRecDepth 10000 in
set_option maxHeartbeats 1000000 in
theorem w_icm_learn (g d h c le m : Nat) (size own : Int) (chance : List Int) (state : List Nat) (one : Bool) (w : World) (ngd : g ≠ d) (hh : h < 4294967296) (hc : c < 256) (s0 : 0 ≤ size) (s1 : size ≤ 16)
    (hg : Ro w g 118 259 (icF size d (pw size) chance)) (hd : Ro w d 5 (pw size) (bytesF state)) (l1 : chance.length = 256) (l2 : state.length = pw size) (hs : state.getD (placeN h c size) 0 ≤ 255)
    (hr : 0 ≤ chance.getD (state.getD (placeN h c size) 0) 0 ∧ chance.getD (state.getD (placeN h c size) 0) 0 ≤ 65535) :
    Calls Tryd.prog 73 #[pt g, mo h c le m, .int .i64 own, .int .i64 (if one then 1 else 0)] w fun e w' => e = .returned (.tuple #[]) ∧
      Ro w' g 118 259 (icF size d (pw size) (chance.set (state.getD (placeN h c size) 0) (chance.getD (state.getD (placeN h c size) 0) 0 + Int.tdiv ((if one then 65535 else 0) - chance.getD (state.getD (placeN h c size) 0) 0) 64))) ∧
      Ro w' d 5 (pw size) (bytesF (state.set (placeN h c size) (nxN (state.getD (placeN h c size) 0) one))) ∧ But (fun k => k = g ∨ k = d) w w' := by
  obtain ⟨s, rfl, s16, hp⟩ := pw_nat size s0 s1
  have ha := placeN_lt h c s s0 (by omega)
  have ha2 : placeN h c s < pw s := ha
  rw [hp] at hg hd ha2 l2 ⊢
  have HA : Hid (∀ w', Calls Tryd.prog 74 #[.agg #[.int .i64 s, .int .i64 1, .slice (some ⟨d, 0, none⟩) (2 ^ s) (2 ^ s)], .agg #[.int .u32 h, .int .u32 c, .slice (some ⟨le, 0, none⟩) m m]] w' fun e w'' =>
      e = .returned (.slice (some ⟨d, placeN h c s * 1, none⟩) 1 (2 ^ s - placeN h c s * 1)) ∧ Below w'.heap.size w' w'') := hid (fun w' => at_b d h c s 1 (2 ^ s) m m (some ⟨le, 0, none⟩) w' hh hc s16 (by omega) (by omega))
  rw [Nat.mul_one] at HA
  have c0 := hd.cell (placeN h c s) (by omega)
  unfold bytesF at c0
  generalize placeN h c s = a at *
  obtain ⟨n, hn⟩ : ∃ n, 2 ^ s = n := ⟨_, rfl⟩
  rw [hn] at HA hg hd ha2 l2 ⊢
  generalize n - a = q at HA
  obtain ⟨st, hst⟩ : ∃ st, state.getD a 0 = st := ⟨_, rfl⟩
  rw [hst] at c0 hs hr ⊢
  have c1 := hg.cell (3 + st) (by omega)
  have e1 : icF s d n chance (3 + st) = .int .i64 (chance.getD st 0) := by unfold icF; rw [if_neg (by omega), if_neg (by omega), if_neg (by omega), show 3 + st - 3 = st from by omega]
  rw [e1] at c1
  have z1 : (st : Int) < 256 := by omega
  generalize chance.getD st 0 = ch at *
  have hq1 := step_range ch (if one then 65535 else 0) 64 65535 hr (by cases one <;> decide) (by omega)
  have HN := hid (fun w' => next_any st (if one then 1 else 0) (by omega) w')
  rw [show oneB (if one then (1 : Int) else 0) = one from by cases one <;> rfl] at HN
  have HG := hid (fun (w' : World) (b : Ro w' g 118 259 (icF s d n chance)) => fun x => (b.set (3 + st) (.int .i64 x)).same (icF_set (by omega) l1))
  have HD := hid (fun (w' : World) (b : Ro w' d 5 n (bytesF state)) => fun x => (b.set a (.int .u8 (x : Nat))).same (bytesF_set ha2 l2))
  generalize nxN st one = nx at *
  obtain ⟨W, hW⟩ : ∃ W, W = w.alloc (.cells #[.int .u32 h, .int .u32 c, sl le m] 55) := ⟨_, rfl⟩
  have b0 : Below w.heap.size w W := by rw [hW]; exact (Below.refl _ _).alloc (Nat.le_refl _) _
  have m0 : W.cell? ⟨w.heap.size, 0, none⟩ = some (.int .u32 h) := by rw [hW]; go_simp
  have m1 : W.cell? ⟨w.heap.size, 1, none⟩ = some (.int .u32 c) := by rw [hW]; go_simp
  have m2 : W.cell? ⟨w.heap.size, 2, none⟩ = some (sl le m) := by rw [hW]; go_simp
  have g0 : W.cell? ⟨g, 0, none⟩ = some (.int .i64 s) := keeps b0 (hg.cell 0 (by omega))
  have g1 : W.cell? ⟨g, 1, none⟩ = some (.int .i64 1) := keeps b0 (hg.cell 1 (by omega))
  have g2 : W.cell? ⟨g, 2, none⟩ = some (sl d n) := keeps b0 (hg.cell 2 (by omega))
  have gc := keeps b0 c1
  have dc := keeps b0 c0
  have GW := hid (hg.below b0)
  have DW := hid (hd.below b0)
  have b0 := hid b0
  obtain ⟨r1, r2⟩ := hr
  obtain ⟨r3, r4⟩ := hq1
  have ngd' : ¬ d = g := Ne.symm ngd
  clear hg hd c0 c1 hp hn ha e1 hs ha2 hst l1 l2
  unfold mo pt sl at *
  cases one
  · simp only [Bool.false_eq_true, if_false] at HN r3 r4 ⊢
    obtain ⟨v, hv⟩ : ∃ v, (0 - ch).tdiv 64 = v := ⟨_, rfl⟩
    rw [hv] at r3 r4 ⊢
    have hv2 : (-ch).tdiv 64 = v := by rw [← hv]; congr 1; omega
    go_enter Tryd.func73, Tryd.ntmps73
    go_wp2_with fail
    rw [← hW]
    clear hW
    go_region_held3 (fun w' => w'.cell? ⟨g, 0, none⟩ = some (.int .i64 s) ∧ w'.cell? ⟨g, 1, none⟩ = some (.int .i64 1) ∧ w'.cell? ⟨g, 2, none⟩ = some (.slice (some ⟨d, 0, none⟩) n n) ∧ w'.cell? ⟨w.heap.size, 0, none⟩ = some (.int .u32 h) ∧ w'.cell? ⟨w.heap.size, 1, none⟩ = some (.int .u32 c) ∧ w'.cell? ⟨w.heap.size, 2, none⟩ = some (.slice (some ⟨le, 0, none⟩) m m))
      (first | exact ⟨g0, g1, g2, m0, m1, m2⟩ | exact ⟨k0, k1, k2, k3, k4, k5⟩ | go_keep)
      (first
      | (go_at_call 74; go_must ((refine (HA.out _).mono ?_); rintro r w1 ⟨rfl, b1⟩; have k0 := keeps b1 g0; have k1 := keeps b1 g1; have k2 := keeps b1 g2; have k3 := keeps b1 m0; have k4 := keeps b1 m1; have k5 := keeps b1 m2; have k6 := keeps b1 dc; have k7 := keeps b1 gc; have B1 := hid (show Below W.heap.size W w1 from undrew b1))))
    all_goals
      clear g0 g1 g2 m0 m1 m2 dc gc k0 k1 k2 k3 k4 k5
      have G1 := hid (GW.out.below B1.out)
      have D1 := hid (DW.out.below B1.out)
      have f1 := G1.out.free (3 + st)
      have f2 := D1.out.free a
      go_wp2_with fail
      go_region
      obtain ⟨W2, hW2⟩ : ∃ W2, W2 = (w1.setCell ⟨g, 3 + st, none⟩ (.int .i64 (ch + v))).drew := ⟨_, rfl⟩
      have x2 : But (· = g) w1 W2 := by rw [hW2]; exact ((But.refl (· = g) w1).set ⟨g, 3 + st, none⟩ _ (.inl rfl)).drew
      have G2 : Hid (Ro W2 g 118 259 (icF s d n (chance.set st (ch + v)))) := by rw [hW2]; exact HG.out w1 G1.out (ch + v)
      have D2 := hid (D1.out.on x2 ngd')
      have k6 := x2.cell k6 ngd'
      have X2 := hid x2
      rw [← hW2]
      clear hW2 x2 k7 f1 f2
      go_wp2_with fail
      refine (HN.out _).mono ?_
      rintro r w3 ⟨rfl, b3⟩
      have D3 := hid (D2.out.below b3)
      have f3 := D3.out.free a
      have k6 := keeps b3 k6
      have x3 := ((But.refl (· = d) w3).set ⟨d, a, none⟩ (.int .u8 (nx : Nat)) (.inl rfl))
      have X3 := hid x3
      have B3 := hid b3
      clear x3 b3
      go_wp2_with fail
      refine bodyPost_end (results_none rfl _ _ _) rfl ⟨rfl, (G2.out.below B3.out).on X3.out ngd, HD.out _ D3.out nx, ?_⟩
      refine (((But.of_below (bel2 b0.out B1.out)).trans (X2.out.mono fun k e => .inl (.inl e))).trans (But.of_below B3.out)).trans (X3.out.mono fun k e => .inl (.inr e))
  · simp only [if_true] at HN r3 r4 ⊢
    obtain ⟨v, hv⟩ : ∃ v, (65535 - ch).tdiv 64 = v := ⟨_, rfl⟩
    rw [hv] at r3 r4 ⊢
    go_enter Tryd.func73, Tryd.ntmps73
    go_wp2_with fail
    rw [← hW]
    clear hW
    go_region_held3 (fun w' => w'.cell? ⟨g, 0, none⟩ = some (.int .i64 s) ∧ w'.cell? ⟨g, 1, none⟩ = some (.int .i64 1) ∧ w'.cell? ⟨g, 2, none⟩ = some (.slice (some ⟨d, 0, none⟩) n n) ∧ w'.cell? ⟨w.heap.size, 0, none⟩ = some (.int .u32 h) ∧ w'.cell? ⟨w.heap.size, 1, none⟩ = some (.int .u32 c) ∧ w'.cell? ⟨w.heap.size, 2, none⟩ = some (.slice (some ⟨le, 0, none⟩) m m))
      (first | exact ⟨g0, g1, g2, m0, m1, m2⟩ | exact ⟨k0, k1, k2, k3, k4, k5⟩ | go_keep)
      (first
      | (go_at_call 74; go_must ((refine (HA.out _).mono ?_); rintro r w1 ⟨rfl, b1⟩; have k0 := keeps b1 g0; have k1 := keeps b1 g1; have k2 := keeps b1 g2; have k3 := keeps b1 m0; have k4 := keeps b1 m1; have k5 := keeps b1 m2; have k6 := keeps b1 dc; have k7 := keeps b1 gc; have B1 := hid (show Below W.heap.size W w1 from undrew b1))))
    all_goals
      clear g0 g1 g2 m0 m1 m2 dc gc k0 k1 k2 k3 k4 k5
      have G1 := hid (GW.out.below B1.out)
      have D1 := hid (DW.out.below B1.out)
      have f1 := G1.out.free (3 + st)
      have f2 := D1.out.free a
      go_wp2_with fail
      go_region
      obtain ⟨W2, hW2⟩ : ∃ W2, W2 = (w1.setCell ⟨g, 3 + st, none⟩ (.int .i64 (ch + v))).drew := ⟨_, rfl⟩
      have x2 : But (· = g) w1 W2 := by rw [hW2]; exact ((But.refl (· = g) w1).set ⟨g, 3 + st, none⟩ _ (.inl rfl)).drew
      have G2 : Hid (Ro W2 g 118 259 (icF s d n (chance.set st (ch + v)))) := by rw [hW2]; exact HG.out w1 G1.out (ch + v)
      have D2 := hid (D1.out.on x2 ngd')
      have k6 := x2.cell k6 ngd'
      have X2 := hid x2
      rw [← hW2]
      clear hW2 x2 k7 f1 f2
      go_wp2_with fail
      refine (HN.out _).mono ?_
      rintro r w3 ⟨rfl, b3⟩
      have D3 := hid (D2.out.below b3)
      have f3 := D3.out.free a
      have k6 := keeps b3 k6
      have x3 := ((But.refl (· = d) w3).set ⟨d, a, none⟩ (.int .u8 (nx : Nat)) (.inl rfl))
      have X3 := hid x3
      have B3 := hid b3
      clear x3 b3
      go_wp2_with fail
      refine bodyPost_end (results_none rfl _ _ _) rfl ⟨rfl, (G2.out.below B3.out).on X3.out ngd, HD.out _ D3.out nx, ?_⟩
      refine (((But.of_below (bel2 b0.out B1.out)).trans (X2.out.mono fun k e => .inl (.inl e))).trans (But.of_below B3.out)).trans (X3.out.mono fun k e => .inl (.inr e))
end Go.Proofs.YtkfdbibgjoaefaaDoor
