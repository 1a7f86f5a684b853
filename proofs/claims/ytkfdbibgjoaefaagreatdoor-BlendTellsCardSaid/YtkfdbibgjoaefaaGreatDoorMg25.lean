/-
  Merged: Zg Kn.
-/
import Derived.Test.YtkfdbibgjoaefaaGreatDoorMgA
import Derived.Test.YtkfdbibgjoaefaaGreatDoorMg06
import Derived.Test.YtkfdbibgjoaefaaGreatDoorMg00
import Derived.IntWalk
import Derived.BigRegion
import Derived.Shelf.Abstract
/-
  Merged: Cm Ic Icl.
-/
/-
  A PCm at work: how it leans, what it learns.
-/
namespace Go.Proofs.YtkfdbibgjoaefaaGreatDoor
open Go.RowKit

theorem pw_nat (s : Int) (h0 : 0 ≤ s) (h1 : s ≤ 16) : ∃ k : Nat, s = (k : Int) ∧ k ≤ 16 ∧ pw s = 2 ^ k := ⟨s.toNat, by omega, by omega, rfl⟩
theorem pw_le (s : Int) (h1 : s ≤ 16) : pw s ≤ 65536 := by
  unfold pw
  have := Nat.pow_le_pow_right (n := 2) (by decide) (show s.toNat ≤ 16 from by omega)
  simpa using this
set_option maxRecDepth 10000 in
set_option maxHeartbeats 1000000 in
theorem w_cm_lean (g d h c le m : Nat) (size limit : Int) (chance count : List Int) (w : World) (hk : KnIs w) (hh : h < 4294967296) (hc : c < 256) (s0 : 0 ≤ size) (s1 : size ≤ 16)
    (hg : w.heap[g]? = some (.cells #[.int .i64 size, .int .i64 1, sl d (pw size), .int .i64 limit] 98 (0, 0))) (hd : Ro w d 95 (2 * pw size) (oddsF chance count))
    (hr : 0 ≤ chance.getD (placeN h c size) 0 ∧ chance.getD (placeN h c size) 0 ≤ 4194303) :
    Calls Tryz.prog 99 #[pt g, mo h c le m] w fun e w' => e = .returned (.int .i64 (stz (chance.getD (placeN h c size) 0 / 1024))) ∧ Below w.heap.size w w' := by
  obtain ⟨s, rfl, s16, hp⟩ := pw_nat size s0 s1
  have ha := placeN_lt h c s s0 (by omega)
  have ha2 : placeN h c s < pw s := ha
  rw [hp] at hg hd ha2
  have HA : Hid (∀ w', Calls Tryz.prog 101 #[.agg #[.int .i64 s, .int .i64 1, .slice (some ⟨d, 0, none⟩) (2 ^ s) (2 ^ s)], .agg #[.int .u32 h, .int .u32 c, .slice (some ⟨le, 0, none⟩) m m]] w' fun e w'' =>
      e = .returned (.slice (some ⟨d, placeN h c s * 1 * 2, none⟩) 1 (2 ^ s - placeN h c s * 1)) ∧ Below w'.heap.size w' w'') := hid (fun w' => at_o d h c s 1 (2 ^ s) m m (some ⟨le, 0, none⟩) w' hh hc s16 (by omega) (by omega))
  have c0 := hd.cell (placeN h c s * 1 * 2) (by omega)
  rw [show oddsF chance count (placeN h c s * 1 * 2) = .int .i32 (chance.getD (placeN h c s) 0) from by unfold oddsF; rw [if_pos (by omega), show placeN h c s * 1 * 2 / 2 = placeN h c s from by omega]] at c0
  generalize placeN h c s = a at HA c0 hr ha2 ⊢
  generalize chance.getD a 0 = ch at *
  obtain ⟨n, hn⟩ : ∃ n, 2 ^ s = n := ⟨_, rfl⟩
  rw [hn] at HA hg hd ha2
  generalize n - a * 1 = q at HA
  generalize a * 1 * 2 = o at HA c0
  have HO := hid (fun w' k1 k2 => odds_lean d o ch w' k1 k2 hr.1 hr.2)
  generalize stz (ch / 1024) = r0 at HO ⊢
  obtain ⟨W, hW⟩ : ∃ W, W = w.alloc (.cells #[.int .u32 h, .int .u32 c, sl le m] 72) := ⟨_, rfl⟩
  have b0 : Below w.heap.size w W := by rw [hW]; exact (Below.refl _ _).alloc (Nat.le_refl _) _
  have m0 : W.cell? ⟨w.heap.size, 0, none⟩ = some (.int .u32 h) := by rw [hW]; go_simp
  have m1 : W.cell? ⟨w.heap.size, 1, none⟩ = some (.int .u32 c) := by rw [hW]; go_simp
  have m2 : W.cell? ⟨w.heap.size, 2, none⟩ = some (sl le m) := by rw [hW]; go_simp
  have g0 : W.cell? ⟨g, 0, none⟩ = some (.int .i64 s) := keeps b0 (row_cell hg 0)
  have g1 : W.cell? ⟨g, 1, none⟩ = some (.int .i64 1) := keeps b0 (row_cell hg 1)
  have g2 : W.cell? ⟨g, 2, none⟩ = some (sl d n) := keeps b0 (row_cell hg 2)
  have KW := hid (hk.below b0)
  have CW := hid (keeps b0 c0)
  have b0 := hid b0
  have G0 := hid g0
  have G1 := hid g1
  have G2 := hid g2
  have M0 := hid m0
  have M1 := hid m1
  have M2 := hid m2
  clear hg hd hk c0 hp hn ha g0 g1 g2 m0 m1 m2
  unfold mo pt sl at *
  go_enter Tryz.func99, Tryz.ntmps99
  go_wp2_with fail
  rw [← hW]
  clear hW
  go_region_held3 (fun w' => w'.cell? ⟨g, 0, none⟩ = some (.int .i64 s) ∧ w'.cell? ⟨g, 1, none⟩ = some (.int .i64 1) ∧ w'.cell? ⟨g, 2, none⟩ = some (.slice (some ⟨d, 0, none⟩) n n) ∧ w'.cell? ⟨w.heap.size, 0, none⟩ = some (.int .u32 h) ∧ w'.cell? ⟨w.heap.size, 1, none⟩ = some (.int .u32 c) ∧ w'.cell? ⟨w.heap.size, 2, none⟩ = some (.slice (some ⟨le, 0, none⟩) m m))
    (first | exact ⟨G0.out, G1.out, G2.out, M0.out, M1.out, M2.out⟩ | exact ⟨k0, k1, k2, k3, k4, k5⟩ | go_keep)
    (first
    | (go_at_call 101; go_must ((refine (HA.out _).mono ?_); rintro r w1 ⟨rfl, b1⟩; have k0 := keeps b1 G0.out; have k1 := keeps b1 G1.out; have k2 := keeps b1 G2.out; have k3 := keeps b1 M0.out; have k4 := keeps b1 M1.out; have k5 := keeps b1 M2.out; have K1 := hid (knk b1 KW.out); have Q1 := hid (keeps b1 CW.out); have B1 := hid (undrew b1)))
    | (go_at_call 102; go_must ((refine (HO.out _ K1.out Q1.out).mono ?_); rintro r w2 ⟨rfl, b2⟩; replace k0 := keeps b2 k0; replace k1 := keeps b2 k1; replace k2 := keeps b2 k2; replace k3 := keeps b2 k3; replace k4 := keeps b2 k4; replace k5 := keeps b2 k5; have B2 := hid b2)))
  all_goals
    go_wp2_with fail
    go_ret
    exact ⟨rfl, bel3 b0.out B1.out B2.out⟩
theorem bb3 {w W w1 w2 : World} {S : Nat → Prop} (b0 : Below w.heap.size w W) (b1 : Below W.heap.size W w1) (b2 : But S w1 w2) : But S w w2 := (But.of_below (bel2 b0 b1)).trans b2
set_option maxRecDepth 10000 in
set_option maxHeartbeats 1000000 in
theorem w_cm_learn (g d h c le m : Nat) (size limit own : Int) (chance count : List Int) (one : Bool) (w : World) (hgd : g ≠ d) (hh : h < 4294967296) (hc : c < 256) (s0 : 0 ≤ size) (s1 : size ≤ 16)
    (hg : w.heap[g]? = some (.cells #[.int .i64 size, .int .i64 1, sl d (pw size), .int .i64 limit] 98 (0, 0))) (hd : Ro w d 95 (2 * pw size) (oddsF chance count))
    (l1 : chance.length = pw size) (l2 : count.length = pw size) (hr : 0 ≤ chance.getD (placeN h c size) 0 ∧ chance.getD (placeN h c size) 0 ≤ 4194303) (hn : 0 ≤ count.getD (placeN h c size) 0 ∧ count.getD (placeN h c size) 0 ≤ 1023) (hl : 0 ≤ limit ∧ limit ≤ 1023) :
    Calls Tryz.prog 100 #[pt g, mo h c le m, .int .i64 own, .int .i64 (if one then 1 else 0)] w fun e w' => e = .returned (.tuple #[]) ∧
      Ro w' d 95 (2 * pw size) (oddsF (chance.set (placeN h c size) (chance.getD (placeN h c size) 0 + Int.tdiv ((if one then 4194303 else 0) - chance.getD (placeN h c size) 0) (count.getD (placeN h c size) 0 + 2))) (count.set (placeN h c size) (into (count.getD (placeN h c size) 0 + 1) 0 limit))) ∧ But (· = d) w w' := by
  obtain ⟨s, rfl, s16, hp⟩ := pw_nat size s0 s1
  have ha := placeN_lt h c s s0 (by omega)
  have ha2 : placeN h c s < pw s := ha
  rw [hp] at hg hd ha2 l1 l2 ⊢
  have HA : Hid (∀ w', Calls Tryz.prog 101 #[.agg #[.int .i64 s, .int .i64 1, .slice (some ⟨d, 0, none⟩) (2 ^ s) (2 ^ s)], .agg #[.int .u32 h, .int .u32 c, .slice (some ⟨le, 0, none⟩) m m]] w' fun e w'' =>
      e = .returned (.slice (some ⟨d, placeN h c s * 1 * 2, none⟩) 1 (2 ^ s - placeN h c s * 1)) ∧ Below w'.heap.size w' w'') := hid (fun w' => at_o d h c s 1 (2 ^ s) m m (some ⟨le, 0, none⟩) w' hh hc s16 (by omega) (by omega))
  have hdl := lt_of_heap hd
  generalize placeN h c s = a at *
  obtain ⟨n, hn⟩ : ∃ n, 2 ^ s = n := ⟨_, rfl⟩
  rw [hn] at HA hg hd ha2 l1 l2 ⊢
  generalize n - a * 1 = q at HA
  have HO := hid (fun w' k1 => odds_learn d (a * 1 * 2) a n chance count limit one w' k1 ha2 (by omega) l1 l2 hr ‹_› hl)
  generalize a * 1 * 2 = o at HA HO
  generalize oddsF (chance.set a _) _ = R at HO ⊢
  generalize (if one then (1 : Int) else 0) = bt at HO ⊢
  obtain ⟨W, hW⟩ : ∃ W, W = w.alloc (.cells #[.int .u32 h, .int .u32 c, sl le m] 72) := ⟨_, rfl⟩
  have b0 : Below w.heap.size w W := by rw [hW]; exact (Below.refl _ _).alloc (Nat.le_refl _) _
  have m0 : W.cell? ⟨w.heap.size, 0, none⟩ = some (.int .u32 h) := by rw [hW]; go_simp
  have m1 : W.cell? ⟨w.heap.size, 1, none⟩ = some (.int .u32 c) := by rw [hW]; go_simp
  have m2 : W.cell? ⟨w.heap.size, 2, none⟩ = some (sl le m) := by rw [hW]; go_simp
  have g0 : W.cell? ⟨g, 0, none⟩ = some (.int .i64 s) := keeps b0 (row_cell hg 0)
  have g1 : W.cell? ⟨g, 1, none⟩ = some (.int .i64 1) := keeps b0 (row_cell hg 1)
  have g2 : W.cell? ⟨g, 2, none⟩ = some (sl d n) := keeps b0 (row_cell hg 2)
  have g3 : W.cell? ⟨g, 3, none⟩ = some (.int .i64 limit) := keeps b0 (row_cell hg 3)
  have CW := hid (hd.below b0)
  have b0 := hid b0
  have G0 := hid g0
  have G1 := hid g1
  have G2 := hid g2
  have G3 := hid g3
  have M0 := hid m0
  have M1 := hid m1
  have M2 := hid m2
  have nd : ¬ w.heap.size = d := by omega
  clear hg hd hp hn ha g0 g1 g2 g3 m0 m1 m2 hr l1 l2 ha2
  unfold mo pt sl at *
  go_enter Tryz.func100, Tryz.ntmps100
  go_wp2_with fail
  rw [← hW]
  clear hW
  go_region_held3 (fun w' => w'.cell? ⟨g, 0, none⟩ = some (.int .i64 s) ∧ w'.cell? ⟨g, 1, none⟩ = some (.int .i64 1) ∧ w'.cell? ⟨g, 2, none⟩ = some (.slice (some ⟨d, 0, none⟩) n n) ∧ w'.cell? ⟨g, 3, none⟩ = some (.int .i64 limit) ∧ w'.cell? ⟨w.heap.size, 0, none⟩ = some (.int .u32 h) ∧ w'.cell? ⟨w.heap.size, 1, none⟩ = some (.int .u32 c) ∧ w'.cell? ⟨w.heap.size, 2, none⟩ = some (.slice (some ⟨le, 0, none⟩) m m))
    (first | exact ⟨G0.out, G1.out, G2.out, G3.out, M0.out, M1.out, M2.out⟩ | exact ⟨k0, k1, k2, k3, k4, k5, k6⟩ | go_keep)
    (first
    | (go_at_call 101; go_must ((refine (HA.out _).mono ?_); rintro r w1 ⟨rfl, b1⟩; have k0 := keeps b1 G0.out; have k1 := keeps b1 G1.out; have k2 := keeps b1 G2.out; have k3 := keeps b1 G3.out; have k4 := keeps b1 M0.out; have k5 := keeps b1 M1.out; have k6 := keeps b1 M2.out; have Q1 := hid (rok b1 CW.out); have B1 := hid (undrew b1)))
    | (go_at_call 103; go_must ((refine (HO.out _ Q1.out).mono ?_); rintro r w2 ⟨rfl, r2, b2⟩; replace k0 := b2.cell k0 hgd; replace k1 := b2.cell k1 hgd; replace k2 := b2.cell k2 hgd; replace k3 := b2.cell k3 hgd; replace k4 := b2.cell k4 nd; replace k5 := b2.cell k5 nd; replace k6 := b2.cell k6 nd; have R2 := hid r2; have B2 := hid b2)))
  all_goals
    go_wp2_with fail
    refine bodyPost_end (results_none rfl _ _ _) rfl ⟨rfl, R2.out, bb3 b0.out B1.out B2.out⟩
end Go.Proofs.YtkfdbibgjoaefaaGreatDoor
/-
  A PConst, what never learns, a PIcm at work.
-/
namespace Go.Proofs.YtkfdbibgjoaefaaGreatDoor
open Go.RowKit

set_option maxRecDepth 10000 in
set_option maxHeartbeats 1000000 in
theorem w_cst_lean (c : Int) (h cc le m : Nat) (w : World) : Calls Tryz.prog 98 #[.agg #[.int .i64 c], mo h cc le m] w fun e w' => e = .returned (.int .i64 c) ∧ Below w.heap.size w w' := by
  unfold mo sl
  go_enter Tryz.func98, Tryz.ntmps98
  go_wp2_with fail
  go_ret
  exact ⟨rfl, ((Below.refl _ _).alloc (Nat.le_refl _) _).alloc (by simp) _⟩
set_option maxRecDepth 10000 in
set_option maxHeartbeats 1000000 in
theorem w_fixed (h cc le m : Nat) (own bit : Int) (w : World) : Calls Tryz.prog 97 #[.agg #[], mo h cc le m, .int .i64 own, .int .i64 bit] w fun e w' => e = .returned (.tuple #[]) ∧ Below w.heap.size w w' := by
  unfold mo sl
  go_enter Tryz.func97, Tryz.ntmps97
  go_wp2_with fail
  refine bodyPost_end (results_none rfl _ _ _) rfl ⟨rfl, ((Below.refl _ _).alloc (Nat.le_refl _) _).alloc (by simp) _⟩
set_option maxRecDepth 10000 in
set_option maxHeartbeats 1000000 in
theorem w_begin (x : Nat) (w : World) : Calls Tryz.prog 95 #[.agg #[], .int .u32 (x : Nat)] w fun e w' => e = .returned (.tuple #[]) ∧ Below w.heap.size w w' := by
  go_enter Tryz.func95, Tryz.ntmps95
  go_wp2_with fail
  refine bodyPost_end (results_none rfl _ _ _) rfl ⟨rfl, ((Below.refl _ _).alloc (Nat.le_refl _) _)⟩
set_option maxRecDepth 10000 in
set_option maxHeartbeats 1000000 in
theorem w_end (x : Nat) (w : World) : Calls Tryz.prog 96 #[.agg #[], .int .u8 (x : Nat)] w fun e w' => e = .returned (.tuple #[]) ∧ Below w.heap.size w w' := by
  go_enter Tryz.func96, Tryz.ntmps96
  go_wp2_with fail
  refine bodyPost_end (results_none rfl _ _ _) rfl ⟨rfl, ((Below.refl _ _).alloc (Nat.le_refl _) _)⟩
set_option maxRecDepth 10000 in
set_option maxHeartbeats 1000000 in
theorem w_icm_lean (g d h c le m : Nat) (size : Int) (chance : List Int) (state : List Nat) (w : World) (hk : KnIs w) (hh : h < 4294967296) (hc : c < 256) (s0 : 0 ≤ size) (s1 : size ≤ 16)
    (hg : Ro w g 140 259 (icF size d (pw size) chance)) (hd : Ro w d 5 (pw size) (bytesF state)) (hs : state.getD (placeN h c size) 0 ≤ 255)
    (hr : 0 ≤ chance.getD (state.getD (placeN h c size) 0) 0 ∧ chance.getD (state.getD (placeN h c size) 0) 0 ≤ 65535) :
    Calls Tryz.prog 104 #[pt g, mo h c le m] w fun e w' => e = .returned (.int .i64 (stz (chance.getD (state.getD (placeN h c size) 0) 0 / 16))) ∧ Below w.heap.size w w' := by
  obtain ⟨s, rfl, s16, hp⟩ := pw_nat size s0 s1
  have ha := placeN_lt h c s s0 (by omega)
  have ha2 : placeN h c s < pw s := ha
  rw [hp] at hg hd ha2
  have HA : Hid (∀ w', Calls Tryz.prog 106 #[.agg #[.int .i64 s, .int .i64 1, .slice (some ⟨d, 0, none⟩) (2 ^ s) (2 ^ s)], .agg #[.int .u32 h, .int .u32 c, .slice (some ⟨le, 0, none⟩) m m]] w' fun e w'' =>
      e = .returned (.slice (some ⟨d, placeN h c s * 1, none⟩) 1 (2 ^ s - placeN h c s * 1)) ∧ Below w'.heap.size w' w'') := hid (fun w' => at_b d h c s 1 (2 ^ s) m m (some ⟨le, 0, none⟩) w' hh hc s16 (by omega) (by omega))
  rw [Nat.mul_one] at HA
  have c0 := hd.cell (placeN h c s) (by omega)
  unfold bytesF at c0
  generalize placeN h c s = a at *
  obtain ⟨n, hn⟩ : ∃ n, 2 ^ s = n := ⟨_, rfl⟩
  rw [hn] at HA hg hd ha2
  generalize n - a = q at HA
  generalize state.getD a 0 = st at *
  have c1 := hg.cell (3 + st) (by omega)
  have e1 : icF s d n chance (3 + st) = .int .i64 (chance.getD st 0) := by unfold icF; rw [if_neg (by omega), if_neg (by omega), if_neg (by omega), show 3 + st - 3 = st from by omega]
  rw [e1] at c1
  have z1 : (st : Int) < 256 := by omega
  generalize chance.getD st 0 = ch at *
  have HO := hid (fun w' k1 => stretch_any (ch / 16) w' k1)
  have zt : IntKind.i64.wrap (ch.tdiv 16) = ch / 16 := by rw [Int.tdiv_eq_ediv_of_nonneg hr.1]; exact IntWalk.i64_in _ (by omega)
  generalize stz (ch / 16) = r0 at HO ⊢
  obtain ⟨W, hW⟩ : ∃ W, W = w.alloc (.cells #[.int .u32 h, .int .u32 c, sl le m] 72) := ⟨_, rfl⟩
  have b0 : Below w.heap.size w W := by rw [hW]; exact (Below.refl _ _).alloc (Nat.le_refl _) _
  have m0 : W.cell? ⟨w.heap.size, 0, none⟩ = some (.int .u32 h) := by rw [hW]; go_simp
  have m1 : W.cell? ⟨w.heap.size, 1, none⟩ = some (.int .u32 c) := by rw [hW]; go_simp
  have m2 : W.cell? ⟨w.heap.size, 2, none⟩ = some (sl le m) := by rw [hW]; go_simp
  have g0 : W.cell? ⟨g, 0, none⟩ = some (.int .i64 s) := keeps b0 (hg.cell 0 (by omega))
  have g1 : W.cell? ⟨g, 1, none⟩ = some (.int .i64 1) := keeps b0 (hg.cell 1 (by omega))
  have g2 : W.cell? ⟨g, 2, none⟩ = some (sl d n) := keeps b0 (hg.cell 2 (by omega))
  have gc := keeps b0 c1
  have dc := keeps b0 c0
  have KW := hid (hk.below b0)
  have b0 := hid b0
  obtain ⟨r1, r2⟩ := hr
  clear hg hd hk c0 c1 hp hn ha e1 hs ha2
  unfold mo pt sl at *
  go_enter Tryz.func104, Tryz.ntmps104
  go_wp2_with fail
  rw [← hW]
  clear hW
  go_region_held3 (fun w' => w'.cell? ⟨g, 0, none⟩ = some (.int .i64 s) ∧ w'.cell? ⟨g, 1, none⟩ = some (.int .i64 1) ∧ w'.cell? ⟨g, 2, none⟩ = some (.slice (some ⟨d, 0, none⟩) n n) ∧ w'.cell? ⟨w.heap.size, 0, none⟩ = some (.int .u32 h) ∧ w'.cell? ⟨w.heap.size, 1, none⟩ = some (.int .u32 c) ∧ w'.cell? ⟨w.heap.size, 2, none⟩ = some (.slice (some ⟨le, 0, none⟩) m m) ∧ w'.cell? ⟨d, a, none⟩ = some (.int .u8 st) ∧ w'.cell? ⟨g, 3 + st, none⟩ = some (.int .i64 ch))
    (first | exact ⟨g0, g1, g2, m0, m1, m2, dc, gc⟩ | exact ⟨k0, k1, k2, k3, k4, k5, k6, k7⟩ | go_keep)
    (first
    | (go_at_call 106; go_must ((refine (HA.out _).mono ?_); rintro r w1 ⟨rfl, b1⟩; have k0 := keeps b1 g0; have k1 := keeps b1 g1; have k2 := keeps b1 g2; have k3 := keeps b1 m0; have k4 := keeps b1 m1; have k5 := keeps b1 m2; have k6 := keeps b1 dc; have k7 := keeps b1 gc; have K1 := hid (knk b1 KW.out); have B1 := hid (undrew b1)))
    | (go_at_call 24; go_must ((refine (HO.out _ K1.out).mono ?_); rintro r w2 ⟨rfl, b2⟩; replace k0 := keeps b2 k0; replace k1 := keeps b2 k1; replace k2 := keeps b2 k2; replace k3 := keeps b2 k3; replace k4 := keeps b2 k4; replace k5 := keeps b2 k5; replace k6 := keeps b2 k6; replace k7 := keeps b2 k7; have B2 := hid b2)))
  all_goals
    go_wp2_with fail
    go_ret
    exact ⟨rfl, bel3 b0.out B1.out B2.out⟩
end Go.Proofs.YtkfdbibgjoaefaaGreatDoor
/-
  A PIcm learns.
-/
namespace Go.Proofs.YtkfdbibgjoaefaaGreatDoor
open Go.RowKit

theorem icF_set {size : Int} {d n : Nat} {l : List Int} {i : Nat} {x : Int} (hi : i < 256) (hl : l.length = 256) : ∀ k, k < 259 → (fun k => if k = 3 + i then Value.int .i64 x else icF size d n l k) k = icF size d n (l.set i x) k := by
  intro k hk
  show (if k = 3 + i then Value.int .i64 x else icF size d n l k) = _
  by_cases e : k = 3 + i
  · rw [if_pos e]; unfold icF
    rw [if_neg (by omega), if_neg (by omega), if_neg (by omega), getD_set _ _ _ _ _ (by omega), if_pos (by omega)]
  · rw [if_neg e]; unfold icF
    by_cases e0 : k = 0
    · rw [if_pos e0, if_pos e0]
    · rw [if_neg e0, if_neg e0]
      by_cases e1 : k = 1
      · rw [if_pos e1, if_pos e1]
      · rw [if_neg e1, if_neg e1]
        by_cases e2 : k = 2
        · rw [if_pos e2, if_pos e2]
        · rw [if_neg e2, if_neg e2, getD_set _ _ _ _ _ (by omega), if_neg (by omega)]
theorem bytesF_set {l : List Nat} {n i : Nat} {x : Nat} (_hi : i < n) (hl : l.length = n) : ∀ k, k < n → (fun k => if k = i then Value.int .u8 x else bytesF l k) k = bytesF (l.set i x) k := by
  intro k hk
  show (if k = i then Value.int .u8 x else bytesF l k) = _
  unfold bytesF
  rw [getD_set _ _ _ _ _ (by omega)]
  by_cases e : k = i
  · rw [if_pos e, if_pos e.symm]
  · rw [if_neg e, if_neg (Ne.symm e)]
set_option maxRecDepth 10000 in
set_option maxHeartbeats 1000000 in
theorem w_icm_learn (g d h c le m : Nat) (size own : Int) (chance : List Int) (state : List Nat) (one : Bool) (w : World) (ngd : g ≠ d) (hh : h < 4294967296) (hc : c < 256) (s0 : 0 ≤ size) (s1 : size ≤ 16)
    (hg : Ro w g 140 259 (icF size d (pw size) chance)) (hd : Ro w d 5 (pw size) (bytesF state)) (l1 : chance.length = 256) (l2 : state.length = pw size) (hs : state.getD (placeN h c size) 0 ≤ 255)
    (hr : 0 ≤ chance.getD (state.getD (placeN h c size) 0) 0 ∧ chance.getD (state.getD (placeN h c size) 0) 0 ≤ 65535) :
    Calls Tryz.prog 105 #[pt g, mo h c le m, .int .i64 own, .int .i64 (if one then 1 else 0)] w fun e w' => e = .returned (.tuple #[]) ∧
      Ro w' g 140 259 (icF size d (pw size) (chance.set (state.getD (placeN h c size) 0) (chance.getD (state.getD (placeN h c size) 0) 0 + Int.tdiv ((if one then 65535 else 0) - chance.getD (state.getD (placeN h c size) 0) 0) 64))) ∧
      Ro w' d 5 (pw size) (bytesF (state.set (placeN h c size) (nxN (state.getD (placeN h c size) 0) one))) ∧ But (fun k => k = g ∨ k = d) w w' := by
  obtain ⟨s, rfl, s16, hp⟩ := pw_nat size s0 s1
  have ha := placeN_lt h c s s0 (by omega)
  have ha2 : placeN h c s < pw s := ha
  rw [hp] at hg hd ha2 l2 ⊢
  have HA : Hid (∀ w', Calls Tryz.prog 106 #[.agg #[.int .i64 s, .int .i64 1, .slice (some ⟨d, 0, none⟩) (2 ^ s) (2 ^ s)], .agg #[.int .u32 h, .int .u32 c, .slice (some ⟨le, 0, none⟩) m m]] w' fun e w'' =>
      e = .returned (.slice (some ⟨d, placeN h c s * 1, none⟩) 1 (2 ^ s - placeN h c s * 1)) ∧ Below w'.heap.size w' w'') := hid (fun w' => at_b d h c s 1 (2 ^ s) m m (some ⟨le, 0, none⟩) w' hh hc s16 (by omega) (by omega))
  rw [Nat.mul_one] at HA
  have c0 := hd.cell (placeN h c s) (by omega)
  unfold bytesF at c0
  generalize placeN h c s = a at *
  obtain ⟨n, hn⟩ : ∃ n, 2 ^ s = n := ⟨_, rfl⟩
  rw [hn] at HA hg hd ha2 l2 ⊢
  generalize n - a = q at HA
  obtain ⟨st, hst⟩ : ∃ st, state.getD a 0 = st := ⟨_, rfl⟩
  rw [hst] at c0 hs hr ⊢
  have c1 := hg.cell (3 + st) (by omega)
  have e1 : icF s d n chance (3 + st) = .int .i64 (chance.getD st 0) := by unfold icF; rw [if_neg (by omega), if_neg (by omega), if_neg (by omega), show 3 + st - 3 = st from by omega]
  rw [e1] at c1
  have z1 : (st : Int) < 256 := by omega
  generalize chance.getD st 0 = ch at *
  have hq1 := step_range ch (if one then 65535 else 0) 64 65535 hr (by cases one <;> decide) (by omega)
  have HN := hid (fun w' => next_any st (if one then 1 else 0) (by omega) w')
  rw [show oneB (if one then (1 : Int) else 0) = one from by cases one <;> rfl] at HN
  have HG := hid (fun (w' : World) (b : Ro w' g 140 259 (icF s d n chance)) => fun x => (b.set (3 + st) (.int .i64 x)).same (icF_set (by omega) l1))
  have HD := hid (fun (w' : World) (b : Ro w' d 5 n (bytesF state)) => fun x => (b.set a (.int .u8 (x : Nat))).same (bytesF_set ha2 l2))
  generalize nxN st one = nx at *
  obtain ⟨W, hW⟩ : ∃ W, W = w.alloc (.cells #[.int .u32 h, .int .u32 c, sl le m] 72) := ⟨_, rfl⟩
  have b0 : Below w.heap.size w W := by rw [hW]; exact (Below.refl _ _).alloc (Nat.le_refl _) _
  have m0 : W.cell? ⟨w.heap.size, 0, none⟩ = some (.int .u32 h) := by rw [hW]; go_simp
  have m1 : W.cell? ⟨w.heap.size, 1, none⟩ = some (.int .u32 c) := by rw [hW]; go_simp
  have m2 : W.cell? ⟨w.heap.size, 2, none⟩ = some (sl le m) := by rw [hW]; go_simp
  have g0 : W.cell? ⟨g, 0, none⟩ = some (.int .i64 s) := keeps b0 (hg.cell 0 (by omega))
  have g1 : W.cell? ⟨g, 1, none⟩ = some (.int .i64 1) := keeps b0 (hg.cell 1 (by omega))
  have g2 : W.cell? ⟨g, 2, none⟩ = some (sl d n) := keeps b0 (hg.cell 2 (by omega))
  have gc := keeps b0 c1
  have dc := keeps b0 c0
  have GW := hid (hg.below b0)
  have DW := hid (hd.below b0)
  have b0 := hid b0
  obtain ⟨r1, r2⟩ := hr
  obtain ⟨r3, r4⟩ := hq1
  have ngd' : ¬ d = g := Ne.symm ngd
  clear hg hd c0 c1 hp hn ha e1 hs ha2 hst l1 l2
  unfold mo pt sl at *
  cases one
  · simp only [Bool.false_eq_true, if_false] at HN r3 r4 ⊢
    obtain ⟨v, hv⟩ : ∃ v, (0 - ch).tdiv 64 = v := ⟨_, rfl⟩
    rw [hv] at r3 r4 ⊢
    have hv2 : (-ch).tdiv 64 = v := by rw [← hv]; congr 1; omega
    go_enter Tryz.func105, Tryz.ntmps105
    go_wp2_with fail
    rw [← hW]
    clear hW
    go_region_held3 (fun w' => w'.cell? ⟨g, 0, none⟩ = some (.int .i64 s) ∧ w'.cell? ⟨g, 1, none⟩ = some (.int .i64 1) ∧ w'.cell? ⟨g, 2, none⟩ = some (.slice (some ⟨d, 0, none⟩) n n) ∧ w'.cell? ⟨w.heap.size, 0, none⟩ = some (.int .u32 h) ∧ w'.cell? ⟨w.heap.size, 1, none⟩ = some (.int .u32 c) ∧ w'.cell? ⟨w.heap.size, 2, none⟩ = some (.slice (some ⟨le, 0, none⟩) m m))
      (first | exact ⟨g0, g1, g2, m0, m1, m2⟩ | exact ⟨k0, k1, k2, k3, k4, k5⟩ | go_keep)
      (first
      | (go_at_call 106; go_must ((refine (HA.out _).mono ?_); rintro r w1 ⟨rfl, b1⟩; have k0 := keeps b1 g0; have k1 := keeps b1 g1; have k2 := keeps b1 g2; have k3 := keeps b1 m0; have k4 := keeps b1 m1; have k5 := keeps b1 m2; have k6 := keeps b1 dc; have k7 := keeps b1 gc; have B1 := hid (show Below W.heap.size W w1 from undrew b1))))
    all_goals
      clear g0 g1 g2 m0 m1 m2 dc gc k0 k1 k2 k3 k4 k5
      have G1 := hid (GW.out.below B1.out)
      have D1 := hid (DW.out.below B1.out)
      have f1 := G1.out.free (3 + st)
      have f2 := D1.out.free a
      go_wp2_with fail
      go_region
      obtain ⟨W2, hW2⟩ : ∃ W2, W2 = (w1.setCell ⟨g, 3 + st, none⟩ (.int .i64 (ch + v))).drew := ⟨_, rfl⟩
      have x2 : But (· = g) w1 W2 := by rw [hW2]; exact ((But.refl (· = g) w1).set ⟨g, 3 + st, none⟩ _ (.inl rfl)).drew
      have G2 : Hid (Ro W2 g 140 259 (icF s d n (chance.set st (ch + v)))) := by rw [hW2]; exact HG.out w1 G1.out (ch + v)
      have D2 := hid (D1.out.on x2 ngd')
      have k6 := x2.cell k6 ngd'
      have X2 := hid x2
      rw [← hW2]
      clear hW2 x2 k7 f1 f2
      go_wp2_with fail
      refine (HN.out _).mono ?_
      rintro r w3 ⟨rfl, b3⟩
      have D3 := hid (D2.out.below b3)
      have f3 := D3.out.free a
      have k6 := keeps b3 k6
      have x3 := ((But.refl (· = d) w3).set ⟨d, a, none⟩ (.int .u8 (nx : Nat)) (.inl rfl))
      have X3 := hid x3
      have B3 := hid b3
      clear x3 b3
      go_wp2_with fail
      refine bodyPost_end (results_none rfl _ _ _) rfl ⟨rfl, (G2.out.below B3.out).on X3.out ngd, HD.out _ D3.out nx, ?_⟩
      refine (((But.of_below (bel2 b0.out B1.out)).trans (X2.out.mono fun k e => .inl (.inl e))).trans (But.of_below B3.out)).trans (X3.out.mono fun k e => .inl (.inr e))
  · simp only [if_true] at HN r3 r4 ⊢
    obtain ⟨v, hv⟩ : ∃ v, (65535 - ch).tdiv 64 = v := ⟨_, rfl⟩
    rw [hv] at r3 r4 ⊢
    go_enter Tryz.func105, Tryz.ntmps105
    go_wp2_with fail
    rw [← hW]
    clear hW
    go_region_held3 (fun w' => w'.cell? ⟨g, 0, none⟩ = some (.int .i64 s) ∧ w'.cell? ⟨g, 1, none⟩ = some (.int .i64 1) ∧ w'.cell? ⟨g, 2, none⟩ = some (.slice (some ⟨d, 0, none⟩) n n) ∧ w'.cell? ⟨w.heap.size, 0, none⟩ = some (.int .u32 h) ∧ w'.cell? ⟨w.heap.size, 1, none⟩ = some (.int .u32 c) ∧ w'.cell? ⟨w.heap.size, 2, none⟩ = some (.slice (some ⟨le, 0, none⟩) m m))
      (first | exact ⟨g0, g1, g2, m0, m1, m2⟩ | exact ⟨k0, k1, k2, k3, k4, k5⟩ | go_keep)
      (first
      | (go_at_call 106; go_must ((refine (HA.out _).mono ?_); rintro r w1 ⟨rfl, b1⟩; have k0 := keeps b1 g0; have k1 := keeps b1 g1; have k2 := keeps b1 g2; have k3 := keeps b1 m0; have k4 := keeps b1 m1; have k5 := keeps b1 m2; have k6 := keeps b1 dc; have k7 := keeps b1 gc; have B1 := hid (show Below W.heap.size W w1 from undrew b1))))
    all_goals
      clear g0 g1 g2 m0 m1 m2 dc gc k0 k1 k2 k3 k4 k5
      have G1 := hid (GW.out.below B1.out)
      have D1 := hid (DW.out.below B1.out)
      have f1 := G1.out.free (3 + st)
      have f2 := D1.out.free a
      go_wp2_with fail
      go_region
      obtain ⟨W2, hW2⟩ : ∃ W2, W2 = (w1.setCell ⟨g, 3 + st, none⟩ (.int .i64 (ch + v))).drew := ⟨_, rfl⟩
      have x2 : But (· = g) w1 W2 := by rw [hW2]; exact ((But.refl (· = g) w1).set ⟨g, 3 + st, none⟩ _ (.inl rfl)).drew
      have G2 : Hid (Ro W2 g 140 259 (icF s d n (chance.set st (ch + v)))) := by rw [hW2]; exact HG.out w1 G1.out (ch + v)
      have D2 := hid (D1.out.on x2 ngd')
      have k6 := x2.cell k6 ngd'
      have X2 := hid x2
      rw [← hW2]
      clear hW2 x2 k7 f1 f2
      go_wp2_with fail
      refine (HN.out _).mono ?_
      rintro r w3 ⟨rfl, b3⟩
      have D3 := hid (D2.out.below b3)
      have f3 := D3.out.free a
      have k6 := keeps b3 k6
      have x3 := ((But.refl (· = d) w3).set ⟨d, a, none⟩ (.int .u8 (nx : Nat)) (.inl rfl))
      have X3 := hid x3
      have B3 := hid b3
      clear x3 b3
      go_wp2_with fail
      refine bodyPost_end (results_none rfl _ _ _) rfl ⟨rfl, (G2.out.below B3.out).on X3.out ngd, HD.out _ D3.out nx, ?_⟩
      refine (((But.of_below (bel2 b0.out B1.out)).trans (X2.out.mono fun k e => .inl (.inl e))).trans (But.of_below B3.out)).trans (X3.out.mono fun k e => .inl (.inr e))
end Go.Proofs.YtkfdbibgjoaefaaGreatDoor
/-
  What a part's value does in memory, kind by kind: how it leans, what it learns, how a byte begins and ends for it.
-/
namespace Go.Proofs.YtkfdbibgjoaefaaGreatDoor
open Go.RowKit

/-- A moment at which a part u, the i-th, may be asked. -/
structure At1 (u : Un) (wh i c bits n : Nat) (L : List Int) : Prop where
  one : u.p.one (i : Nat)
  ok : u.ok wh
  hu : u.h < 4294967296
  lt : i < n
  most : n ≤ 16
  len : L.length = n
  rng : ∀ d ∈ L, Lean1 d
  b7 : bits ≤ 7
  c0 : 2 ^ bits ≤ c
  c1 : c < 2 ^ (bits + 1)
theorem At1.c256 {u : Un} {wh i c bits n : Nat} {L : List Int} (a : At1 u wh i c bits n L) : c < 256 := by
  have h1 := a.c1
  have h2 := a.b7
  have := Nat.pow_le_pow_right (n := 2) (by decide) (show bits + 1 ≤ 8 from by omega)
  omega
/-- Methods: function M on R. -/
def Ent (M : FuncId) : Prop := ∀ a w, (callFunc M a).run Tryz.prog w = .ok (.enter M a) w
def LeanK (k : Nat) : Prop := ∀ (u : Un) (S : Nat → Prop) (v : Value) (wh i c bits le n : Nat) (L : List Int) (w0 : World), u.p.kind = k → At1 u wh i c bits n L → UnAt w0 S v u wh →
  ∃ T x M R, v = .iface T x ∧ Ent M ∧ (∀ w, Mth w T x "quillpress/blend.lean" M R) ∧
    ∀ w, KnIs w → UnAt w S v u wh → Ro w le 3 n (intsF L) → Calls Tryz.prog M #[R, mo u.h c le n] w fun e w' => e = .returned (.int .i64 (u.lean c bits L)) ∧ Below w.heap.size w w'
def LearnK (k : Nat) : Prop := ∀ (u : Un) (S : Nat → Prop) (v : Value) (wh i c bits le n : Nat) (L : List Int) (own : Int) (one : Bool) (w0 : World), u.p.kind = k → At1 u wh i c bits n L → Lean1 own → ¬ S le → UnAt w0 S v u wh →
  ∃ T x M R, v = .iface T x ∧ Ent M ∧ (∀ w, (nilAhead 273 T x "quillpress/blend.learn").run Tryz.prog w = .ok (some false) w) ∧ (∀ w, UnAt w S v u wh → (method 273 T x "quillpress/blend.learn").run Tryz.prog w = .ok (M, R) w) ∧
    ∀ w, KnIs w → UnAt w S v u wh → Ro w le 3 n (intsF L) → Calls Tryz.prog M #[R, mo u.h c le n, .int .i64 own, .int .i64 (if one then 1 else 0)] w fun e w' => e = .returned (.tuple #[]) ∧ UnAt w' S v (u.learn c L own one) wh ∧ But S w w'
def EndK (k : Nat) : Prop := ∀ (u : Un) (S : Nat → Prop) (v : Value) (wh i c : Nat) (w0 : World), u.p.kind = k → u.p.one (i : Nat) → u.ok wh → wh < 4294967296 → UnAt w0 S v u wh →
  ∃ T x M R, v = .iface T x ∧ Ent M ∧ (∀ w, UnAt w S v u wh → (method 273 T x "quillpress/blend.end").run Tryz.prog w = .ok (M, R) w) ∧
    ∀ w, KnIs w → UnAt w S v u wh → Calls Tryz.prog M #[R, .int .u8 (c % 256 : Nat)] w fun e w' => e = .returned (.tuple #[]) ∧ UnAt w' S v (u.whole c wh) (wh + 1) ∧ But S w w'
/-- A part for which a byte begins. -/
def Un.beg (u : Un) (wh h : Nat) : Un := if u.p.kind = 4 then ({ u with h := h } : Un).find wh else { u with h := h }
def BeginK (k : Nat) : Prop := ∀ (u : Un) (S : Nat → Prop) (v : Value) (wh i h : Nat) (w0 : World), u.p.kind = k → u.p.one (i : Nat) → u.ok wh → wh < 4294967296 → h < 4294967296 → UnAt w0 S v u wh →
  ∃ T x M R, v = .iface T x ∧ Ent M ∧ (∀ w, (nilAhead 273 T x "quillpress/blend.begin").run Tryz.prog w = .ok (some false) w) ∧ (∀ w, UnAt w S v u wh → (method 273 T x "quillpress/blend.begin").run Tryz.prog w = .ok (M, R) w) ∧
    ∀ w, KnIs w → UnAt w S v u wh → Calls Tryz.prog M #[R, .int .u32 (h : Nat)] w fun e w' => e = .returned (.tuple #[]) ∧ UnAt w' S v (u.beg wh h) wh ∧ But S w w'
/-- A part that is no match does not go by whole bytes, nor by its context's number. -/
theorem UnAt.other {w : World} {S : Nat → Prop} {v : Value} {u : Un} {n : Nat} (m : Nat) (k : u.p.kind ≠ 4) (x : UnAt w S v u n) : UnAt w S v u m := by
  cases x with
  | cst k hv => exact .cst k hv
  | avg k hv => exact .avg k hv
  | cm k g d hv sg sd ne hg hd => exact .cm k g d hv sg sd ne hg hd
  | icm k g d hv sg sd ne hg hd => exact .icm k g d hv sg sd ne hg hd
  | mch k => exact absurd k ‹_›
  | mix2 k g d hv sg sd ne hg hd => exact .mix2 k g d hv sg sd ne hg hd
  | mix k g d hv sg sd ne hg hd => exact .mix k g d hv sg sd ne hg hd
  | isse k g d hv sg sd ne hg hd => exact .isse k g d hv sg sd ne hg hd
  | sse k g d hv sg sd ne hg hd => exact .sse k g d hv sg sd ne hg hd
theorem UnAt.setH {w : World} {S : Nat → Prop} {v : Value} {u : Un} {n : Nat} (h : Nat) (x : UnAt w S v u n) : UnAt w S v { u with h := h } n := by
  cases x with
  | cst k hv => exact .cst k hv
  | avg k hv => exact .avg k hv
  | cm k g d hv sg sd ne hg hd => exact .cm k g d hv sg sd ne hg hd
  | icm k g d hv sg sd ne hg hd => exact .icm k g d hv sg sd ne hg hd
  | mch k g dr ds hv sg sr ss n1 n2 n3 hg hr hs => exact .mch k g dr ds hv sg sr ss n1 n2 n3 hg hr hs
  | mix2 k g d hv sg sd ne hg hd => exact .mix2 k g d hv sg sd ne hg hd
  | mix k g d hv sg sd ne hg hd => exact .mix k g d hv sg sd ne hg hd
  | isse k g d hv sg sd ne hg hd => exact .isse k g d hv sg sd ne hg hd
  | sse k g d hv sg sd ne hg hd => exact .sse k g d hv sg sd ne hg hd
theorem Ent.of {f : FuncId} {fn : Func} {c : Code} (hf : Tryz.prog.funcs[f]? = some fn) (hname : (fn.name == "runtime.NumGoroutine") = false) (hb : fn.body = some c) : Ent f := fun a w => enters_of hf hname hb a w
theorem ent63 : Ent 95 := Ent.of Tryz.func95 (by kernel_rfl) rfl
theorem ent64 : Ent 96 := Ent.of Tryz.func96 (by kernel_rfl) rfl
theorem ent65 : Ent 97 := Ent.of Tryz.func97 (by kernel_rfl) rfl
theorem whole_same (u : Un) (c wh : Nat) (k : u.p.kind ≠ 4) : u.whole c wh = u := by unfold Un.whole; rw [if_neg k]
theorem beg_same (u : Un) (wh h : Nat) (k : u.p.kind ≠ 4) : u.beg wh h = { u with h := h } := by unfold Un.beg; rw [if_neg k]
section
variable {T : TypeId} {x R : Value}
/-- A part whose end is that of a part that goes by bits alone. -/
theorem end_64 {k : Nat} (k4 : k ≠ 4) (h : ∀ (u : Un) (S : Nat → Prop) (v : Value) (wh : Nat) (w0 : World), u.p.kind = k → UnAt w0 S v u wh → ∃ T x, v = .iface T x ∧ ∀ w, UnAt w S v u wh → (method 273 T x "quillpress/blend.end").run Tryz.prog w = .ok (96, .agg #[]) w) : EndK k := by
  intro u S v wh i c w0 hk _ _ _ hu
  obtain ⟨T, x, hv, hm⟩ := h u S v wh w0 hk hu
  refine ⟨T, x, 96, .agg #[], hv, ent64, hm, fun w kn hu => (w_end (c % 256) w).mono ?_⟩
  rintro e w' ⟨rfl, b⟩
  refine ⟨rfl, ?_, But.of_below b⟩
  rw [whole_same u c wh (by omega)]
  exact (hu.below b).other (wh + 1) (by omega)
theorem begin_63 {k : Nat} (k4 : k ≠ 4) (h : ∀ (u : Un) (S : Nat → Prop) (v : Value) (wh : Nat) (w0 : World), u.p.kind = k → UnAt w0 S v u wh → ∃ T x, v = .iface T x ∧ (∀ w, (nilAhead 273 T x "quillpress/blend.begin").run Tryz.prog w = .ok (some false) w) ∧ ∀ w, UnAt w S v u wh → (method 273 T x "quillpress/blend.begin").run Tryz.prog w = .ok (95, .agg #[]) w) : BeginK k := by
  intro u S v wh i c w0 hk _ _ _ _ hu
  obtain ⟨T, x, hv, hn, hm⟩ := h u S v wh w0 hk hu
  refine ⟨T, x, 95, .agg #[], hv, ent63, hn, hm, fun w kn hu => (w_begin c w).mono ?_⟩
  rintro e w' ⟨rfl, b⟩
  refine ⟨rfl, ?_, But.of_below b⟩
  rw [beg_same u wh c (by omega)]
  exact (hu.below b).setH c
theorem learn_65 {k : Nat} (hs : ∀ (u : Un) c L own one, u.p.kind = k → u.learn c L own one = u) (h : ∀ (u : Un) (S : Nat → Prop) (v : Value) (wh : Nat) (w0 : World), u.p.kind = k → UnAt w0 S v u wh → ∃ T x, v = .iface T x ∧ (∀ w, (nilAhead 273 T x "quillpress/blend.learn").run Tryz.prog w = .ok (some false) w) ∧ ∀ w, UnAt w S v u wh → (method 273 T x "quillpress/blend.learn").run Tryz.prog w = .ok (97, .agg #[]) w) : LearnK k := by
  intro u S v wh i c bits le n L own one w0 hk _ _ _ hu
  obtain ⟨T, x, hv, hn, hm⟩ := h u S v wh w0 hk hu
  refine ⟨T, x, 97, .agg #[], hv, ent65, hn, hm, fun w kn hu _ => (w_fixed u.h c le n own _ w).mono ?_⟩
  rintro e w' ⟨rfl, b⟩
  refine ⟨rfl, ?_, But.of_below b⟩
  rw [hs u c L own one hk]
  exact hu.below b
end
theorem iface_inj {T T' : TypeId} {x x' : Value} (h : Value.iface T x = .iface T' x') : T = T' ∧ x = x' := by injection h with h1 h2; exact ⟨h1, h2⟩
theorem pt_inj {g g' : Nat} (h : pt g = pt g') : g = g' := by
  unfold pt at h
  injection h with h; injection h with h; injection h
/-- A PConst. -/
theorem cst_at {w : World} {S : Nat → Prop} {v : Value} {u : Un} {wh : Nat} (k : u.p.kind = 1) (h : UnAt w S v u wh) : v = .iface 88 (.agg #[.int .i64 u.p.c]) := by
  cases h with
  | cst _ hv => exact hv
  | avg k' | cm k' | icm k' | mch k' | mix2 k' | mix k' | isse k' | sse k' => omega
theorem leanK1 : LeanK 1 := by
  intro u S v wh i c bits le n L w0 hk _ hu
  refine ⟨88, _, 98, _, cst_at hk hu, Ent.of Tryz.func98 (by kernel_rfl) rfl, fun w => m_cst_lean u.p.c w, fun w _ _ _ => (w_cst_lean u.p.c u.h c le n w).mono ?_⟩
  rintro e w' ⟨rfl, b⟩
  refine ⟨?_, b⟩
  unfold Un.lean
  simp only
  rw [if_pos hk]
theorem learnK1 : LearnK 1 := learn_65 (fun u c L own one hk => by unfold Un.learn; simp [hk]) (fun u S v wh w0 hk hu => ⟨88, _, cst_at hk hu, fun w => (m_cst_learn u.p.c w).nil, fun w _ => (m_cst_learn u.p.c w).row⟩)
theorem endK1 : EndK 1 := end_64 (by decide) (fun u S v wh w0 hk hu => ⟨88, _, cst_at hk hu, fun w _ => (m_cst_end u.p.c w).row⟩)
theorem beginK1 : BeginK 1 := begin_63 (by decide) (fun u S v wh w0 hk hu => ⟨88, _, cst_at hk hu, fun w => (m_cst_begin u.p.c w).nil, fun w _ => (m_cst_begin u.p.c w).row⟩)
/-- A PCm. -/
theorem cm_at {w : World} {S : Nat → Prop} {v : Value} {u : Un} {wh : Nat} (k : u.p.kind = 2) (h : UnAt w S v u wh) : ∃ g d, v = .iface 89 (pt g) ∧ S g ∧ S d ∧ g ≠ d ∧
    w.heap[g]? = some (.cells #[.int .i64 u.p.size, .int .i64 1, sl d (pw u.p.size), .int .i64 u.p.limit] 98 (0, 0)) ∧ Ro w d 95 (2 * pw u.p.size) (oddsF u.chance u.count) := by
  cases h with
  | cm k g d hv sg sd ne hg hd => exact ⟨g, d, hv, sg, sd, ne, hg, hd⟩
  | cst k' | avg k' | icm k' | mch k' | mix2 k' | mix k' | isse k' | sse k' => omega
theorem cm_at' {w : World} {S : Nat → Prop} {v : Value} {u : Un} {wh g : Nat} (k : u.p.kind = 2) (hv : v = .iface 89 (pt g)) (h : UnAt w S v u wh) : ∃ d, S g ∧ S d ∧ g ≠ d ∧
    w.heap[g]? = some (.cells #[.int .i64 u.p.size, .int .i64 1, sl d (pw u.p.size), .int .i64 u.p.limit] 98 (0, 0)) ∧ Ro w d 95 (2 * pw u.p.size) (oddsF u.chance u.count) := by
  obtain ⟨g', d, hv', r⟩ := cm_at k h
  rw [hv] at hv'
  obtain rfl := pt_inj (iface_inj hv').2
  exact ⟨d, r⟩
theorem ok_cm {u : Un} {wh : Nat} (k : u.p.kind = 2) (h : u.ok wh) : u.chance.length = pw u.p.size ∧ u.count.length = pw u.p.size ∧ InR u.chance 0 4194303 ∧ InR u.count 0 1023 := by
  unfold Un.ok at h; rw [if_pos k] at h; exact h
theorem place_pw (h c : Nat) (size : Int) (s0 : 0 ≤ size) (s1 : size ≤ 16) : placeN h c size < pw size := placeN_lt h c size s0 (by omega)
theorem leanK2 : LeanK 2 := by
  intro u S v wh i c bits le n L w0 hk a hu
  obtain ⟨g, d0, hv, _⟩ := cm_at hk hu
  obtain ⟨s0, s1, _⟩ := one_cm a.one hk
  obtain ⟨l1, l2, q1, q2⟩ := ok_cm hk a.ok
  refine ⟨89, pt g, 99, pt g, hv, Ent.of Tryz.func99 (by kernel_rfl) rfl, fun w => m_cm_lean g w, fun w kn hu _ => ?_⟩
  obtain ⟨d, sg, sd, ne, hg, hd⟩ := cm_at' hk hv hu
  refine (w_cm_lean g d u.h c le n u.p.size u.p.limit u.chance u.count w kn a.hu a.c256 s0 s1 hg hd (q1.get _ (by rw [l1]; exact place_pw _ _ _ s0 s1))).mono ?_
  rintro e w' ⟨rfl, b⟩
  refine ⟨?_, b⟩
  unfold Un.lean
  simp only
  rw [if_neg (by omega), if_pos hk]
theorem learnK2 : LearnK 2 := by
  intro u S v wh i c bits le n L own one w0 hk a _ _ hu
  obtain ⟨g, d0, hv, _⟩ := cm_at hk hu
  obtain ⟨s0, s1, t0, t1⟩ := one_cm a.one hk
  obtain ⟨l1, l2, q1, q2⟩ := ok_cm hk a.ok
  refine ⟨89, pt g, 100, pt g, hv, Ent.of Tryz.func100 (by kernel_rfl) rfl, fun w => (m_cm_learn g w).nil, fun w _ => (m_cm_learn g w).row, fun w kn hu _ => ?_⟩
  obtain ⟨d, sg, sd, ne, hg, hd⟩ := cm_at' hk hv hu
  have hp := place_pw u.h c u.p.size s0 s1
  refine (w_cm_learn g d u.h c le n u.p.size u.p.limit own u.chance u.count one w ne a.hu a.c256 s0 s1 hg hd l1 l2 (q1.get _ (by rw [l1]; exact hp)) (q2.get _ (by rw [l2]; exact hp)) (by omega)).mono ?_
  rintro e w' ⟨rfl, r, b⟩
  have e1 : u.learn c L own one = u.slow (placeN u.h c u.p.size) one := by
    unfold Un.learn
    simp only
    rw [if_pos hk]
  rw [e1]
  exact ⟨rfl, .cm hk g d hv sg sd ne (b.heap hg ne) r, b.mono fun k e => by subst e; exact .inl sd⟩
theorem nil_cm_begin (g : Nat) (w : World) : (nilAhead 273 89 (pt g) "quillpress/blend.begin").run Tryz.prog w = .ok (some false) w := by kernel_rfl
theorem endK2 : EndK 2 := end_64 (by decide) (fun u S v wh w0 hk hu => by
  obtain ⟨g, d0, hv, _⟩ := cm_at hk hu
  exact ⟨89, _, hv, fun w hu => by obtain ⟨d, _, _, _, hg, _⟩ := cm_at' hk hv hu; exact (m_cm_end g w _ hg).row⟩)
theorem beginK2 : BeginK 2 := begin_63 (by decide) (fun u S v wh w0 hk hu => by
  obtain ⟨g, d0, hv, _⟩ := cm_at hk hu
  exact ⟨89, _, hv, nil_cm_begin g, fun w hu => by obtain ⟨d, _, _, _, hg, _⟩ := cm_at' hk hv hu; exact (m_cm_begin g w _ hg).row⟩)
/-- A PIcm. -/
theorem icm_at {w : World} {S : Nat → Prop} {v : Value} {u : Un} {wh : Nat} (k : u.p.kind = 3) (h : UnAt w S v u wh) : ∃ g d, v = .iface 99 (pt g) ∧ S g ∧ S d ∧ g ≠ d ∧
    Ro w g 140 259 (icF u.p.size d (pw u.p.size) u.chance) ∧ Ro w d 5 (pw u.p.size) (bytesF u.state) := by
  cases h with
  | icm k g d hv sg sd ne hg hd => exact ⟨g, d, hv, sg, sd, ne, hg, hd⟩
  | cst k' | avg k' | cm k' | mch k' | mix2 k' | mix k' | isse k' | sse k' => omega
theorem icm_at' {w : World} {S : Nat → Prop} {v : Value} {u : Un} {wh g : Nat} (k : u.p.kind = 3) (hv : v = .iface 99 (pt g)) (h : UnAt w S v u wh) : ∃ d, S g ∧ S d ∧ g ≠ d ∧
    Ro w g 140 259 (icF u.p.size d (pw u.p.size) u.chance) ∧ Ro w d 5 (pw u.p.size) (bytesF u.state) := by
  obtain ⟨g', d, hv', r⟩ := icm_at k h
  rw [hv] at hv'
  obtain rfl := pt_inj (iface_inj hv').2
  exact ⟨d, r⟩
theorem ok_icm {u : Un} {wh : Nat} (k : u.p.kind = 3) (h : u.ok wh) : u.state.length = pw u.p.size ∧ InN u.state 255 ∧ u.chance.length = 256 ∧ InR u.chance 0 65535 := by
  unfold Un.ok at h; rw [if_neg (by omega), if_pos k] at h; exact h
theorem leanK3 : LeanK 3 := by
  intro u S v wh i c bits le n L w0 hk a hu
  obtain ⟨g, d0, hv, _⟩ := icm_at hk hu
  obtain ⟨s0, s1⟩ := one_icm a.one hk
  obtain ⟨l1, q1, l2, q2⟩ := ok_icm hk a.ok
  refine ⟨99, pt g, 104, pt g, hv, Ent.of Tryz.func104 (by kernel_rfl) rfl, fun w => m_icm_lean g w, fun w kn hu _ => ?_⟩
  obtain ⟨d, sg, sd, ne, hg, hd⟩ := icm_at' hk hv hu
  refine (w_icm_lean g d u.h c le n u.p.size u.chance u.state w kn a.hu a.c256 s0 s1 hg hd (q1 _) (q2.get _ (by have := q1 (placeN u.h c u.p.size); omega))).mono ?_
  rintro e w' ⟨rfl, b⟩
  refine ⟨?_, b⟩
  unfold Un.lean
  simp only
  rw [if_neg (by omega), if_neg (by omega), if_pos hk]
theorem learnK3 : LearnK 3 := by
  intro u S v wh i c bits le n L own one w0 hk a _ _ hu
  obtain ⟨g, d0, hv, _⟩ := icm_at hk hu
  obtain ⟨s0, s1⟩ := one_icm a.one hk
  obtain ⟨l1, q1, l2, q2⟩ := ok_icm hk a.ok
  refine ⟨99, pt g, 105, pt g, hv, Ent.of Tryz.func105 (by kernel_rfl) rfl, fun w => (m_icm_learn g w).nil, fun w _ => (m_icm_learn g w).row, fun w kn hu _ => ?_⟩
  obtain ⟨d, sg, sd, ne, hg, hd⟩ := icm_at' hk hv hu
  refine (w_icm_learn g d u.h c le n u.p.size own u.chance u.state one w ne a.hu a.c256 s0 s1 hg hd l2 l1 (q1 _) (q2.get _ (by have := q1 (placeN u.h c u.p.size); omega))).mono ?_
  rintro e w' ⟨rfl, r1, r2, b⟩
  refine ⟨rfl, ?_, b.mono fun k e => by rcases e with rfl | rfl; exact .inl sg; exact .inl sd⟩
  have e1 : u.learn c L own one = { u with chance := u.chance.set (u.state.getD (placeN u.h c u.p.size) 0) (u.chance.getD (u.state.getD (placeN u.h c u.p.size) 0) 0 + Int.tdiv ((if one then 65535 else 0) - u.chance.getD (u.state.getD (placeN u.h c u.p.size) 0) 0) 64), state := u.state.set (placeN u.h c u.p.size) (nxN (u.state.getD (placeN u.h c u.p.size) 0) one) } := by
    unfold Un.learn
    simp only
    rw [if_neg (by omega), if_pos hk]
  rw [e1]
  exact .icm hk g d hv sg sd ne r1 r2
theorem nil_icm_begin (g : Nat) (w : World) : (nilAhead 273 99 (pt g) "quillpress/blend.begin").run Tryz.prog w = .ok (some false) w := by kernel_rfl
theorem endK3 : EndK 3 := end_64 (by decide) (fun u S v wh w0 hk hu => by
  obtain ⟨g, d0, hv, _⟩ := icm_at hk hu
  exact ⟨99, _, hv, fun w hu => by obtain ⟨d, _, _, _, hg, _⟩ := icm_at' hk hv hu; exact (m_icm_end g w _ hg).row⟩)
theorem beginK3 : BeginK 3 := begin_63 (by decide) (fun u S v wh w0 hk hu => by
  obtain ⟨g, d0, hv, _⟩ := icm_at hk hu
  exact ⟨99, _, hv, nil_icm_begin g, fun w hu => by obtain ⟨d, _, _, _, hg, _⟩ := icm_at' hk hv hu; exact (m_icm_begin g w _ hg).row⟩)
end Go.Proofs.YtkfdbibgjoaefaaGreatDoor
