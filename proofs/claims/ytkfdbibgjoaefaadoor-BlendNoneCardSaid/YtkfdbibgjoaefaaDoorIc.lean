/-
  A PConst, what never learns, a PIcm at work.
-/
import Derived.Test.YtkfdbibgjoaefaaDoorCm
import Derived.Test.YtkfdbibgjoaefaaDoorNx
import Derived.IntWalk
namespace Go.Proofs.YtkfdbibgjoaefaaDoor
open Go.RowKit

set_option maxRecDepth 10000 in
set_option maxHeartbeats 1000000 in
theorem w_cst_lean (c : Int) (h cc le m : Nat) (w : World) : Calls Tryd.prog 66 #[.agg #[.int .i64 c], mo h cc le m] w fun e w' => e = .returned (.int .i64 c) ∧ Below w.heap.size w w' := by
  unfold mo sl
  go_enter Tryd.func66, Tryd.ntmps66
  go_wp2_with fail
  go_ret
  exact ⟨rfl, ((Below.refl _ _).alloc (Nat.le_refl _) _).alloc (by simp) _⟩
set_option maxRecDepth 10000 in
set_option maxHeartbeats 1000000 in
theorem w_fixed (h cc le m : Nat) (own bit : Int) (w : World) : Calls Tryd.prog 65 #[.agg #[], mo h cc le m, .int .i64 own, .int .i64 bit] w fun e w' => e = .returned (.tuple #[]) ∧ Below w.heap.size w w' := by
  unfold mo sl
  go_enter Tryd.func65, Tryd.ntmps65
  go_wp2_with fail
  refine bodyPost_end (results_none rfl _ _ _) rfl ⟨rfl, ((Below.refl _ _).alloc (Nat.le_refl _) _).alloc (by simp) _⟩
set_option maxRecDepth 10000 in
set_option maxHeartbeats 1000000 in
theorem w_begin (x : Nat) (w : World) : Calls Tryd.prog 63 #[.agg #[], .int .u32 (x : Nat)] w fun e w' => e = .returned (.tuple #[]) ∧ Below w.heap.size w w' := by
  go_enter Tryd.func63, Tryd.ntmps63
  go_wp2_with fail
  refine bodyPost_end (results_none rfl _ _ _) rfl ⟨rfl, ((Below.refl _ _).alloc (Nat.le_refl _) _)⟩
set_option maxRecDepth 10000 in
set_option maxHeartbeats 1000000 in
theorem w_end (x : Nat) (w : World) : Calls Tryd.prog 64 #[.agg #[], .int .u8 (x : Nat)] w fun e w' => e = .returned (.tuple #[]) ∧ Below w.heap.size w w' := by
  go_enter Tryd.func64, Tryd.ntmps64
  go_wp2_with fail
  refine bodyPost_end (results_none rfl _ _ _) rfl ⟨rfl, ((Below.refl _ _).alloc (Nat.le_refl _) _)⟩
set_option maxRecDepth 10000 in
set_option maxHeartbeats 1000000 in
theorem w_icm_lean (g d h c le m : Nat) (size : Int) (chance : List Int) (state : List Nat) (w : World) (hk : KnIs w) (hh : h < 4294967296) (hc : c < 256) (s0 : 0 ≤ size) (s1 : size ≤ 16)
    (hg : Ro w g 118 259 (icF size d (pw size) chance)) (hd : Ro w d 5 (pw size) (bytesF state)) (hs : state.getD (placeN h c size) 0 ≤ 255)
    (hr : 0 ≤ chance.getD (state.getD (placeN h c size) 0) 0 ∧ chance.getD (state.getD (placeN h c size) 0) 0 ≤ 65535) :
    Calls Tryd.prog 72 #[pt g, mo h c le m] w fun e w' => e = .returned (.int .i64 (stz (chance.getD (state.getD (placeN h c size) 0) 0 / 16))) ∧ Below w.heap.size w w' := by
  obtain ⟨s, rfl, s16, hp⟩ := pw_nat size s0 s1
  have ha := placeN_lt h c s s0 (by omega)
  have ha2 : placeN h c s < pw s := ha
  rw [hp] at hg hd ha2
  have HA : Hid (∀ w', Calls Tryd.prog 74 #[.agg #[.int .i64 s, .int .i64 1, .slice (some ⟨d, 0, none⟩) (2 ^ s) (2 ^ s)], .agg #[.int .u32 h, .int .u32 c, .slice (some ⟨le, 0, none⟩) m m]] w' fun e w'' =>
      e = .returned (.slice (some ⟨d, placeN h c s * 1, none⟩) 1 (2 ^ s - placeN h c s * 1)) ∧ Below w'.heap.size w' w'') := hid (fun w' => at_b d h c s 1 (2 ^ s) m m (some ⟨le, 0, none⟩) w' hh hc s16 (by omega) (by omega))
  rw [Nat.mul_one] at HA
  have c0 := hd.cell (placeN h c s) (by omega)
  unfold bytesF at c0
  generalize placeN h c s = a at *
  obtain ⟨n, hn⟩ : ∃ n, 2 ^ s = n := ⟨_, rfl⟩
  rw [hn] at HA hg hd ha2
  generalize n - a = q at HA
  generalize state.getD a 0 = st at *
  have c1 := hg.cell (3 + st) (by omega)
  have e1 : icF s d n chance (3 + st) = .int .i64 (chance.getD st 0) := by unfold icF; rw [if_neg (by omega), if_neg (by omega), if_neg (by omega), show 3 + st - 3 = st from by omega]
  rw [e1] at c1
  have z1 : (st : Int) < 256 := by omega
  generalize chance.getD st 0 = ch at *
  have HO := hid (fun w' k1 => stretch_any (ch / 16) w' k1)
  have zt : IntKind.i64.wrap (ch.tdiv 16) = ch / 16 := by rw [Int.tdiv_eq_ediv_of_nonneg hr.1]; exact IntWalk.i64_in _ (by omega)
  generalize stz (ch / 16) = r0 at HO ⊢
  obtain ⟨W, hW⟩ : ∃ W, W = w.alloc (.cells #[.int .u32 h, .int .u32 c, sl le m] 55) := ⟨_, rfl⟩
  have b0 : Below w.heap.size w W := by rw [hW]; exact (Below.refl _ _).alloc (Nat.le_refl _) _
  have m0 : W.cell? ⟨w.heap.size, 0, none⟩ = some (.int .u32 h) := by rw [hW]; go_simp
  have m1 : W.cell? ⟨w.heap.size, 1, none⟩ = some (.int .u32 c) := by rw [hW]; go_simp
  have m2 : W.cell? ⟨w.heap.size, 2, none⟩ = some (sl le m) := by rw [hW]; go_simp
  have g0 : W.cell? ⟨g, 0, none⟩ = some (.int .i64 s) := keeps b0 (hg.cell 0 (by omega))
  have g1 : W.cell? ⟨g, 1, none⟩ = some (.int .i64 1) := keeps b0 (hg.cell 1 (by omega))
  have g2 : W.cell? ⟨g, 2, none⟩ = some (sl d n) := keeps b0 (hg.cell 2 (by omega))
  have gc := keeps b0 c1
  have dc := keeps b0 c0
  have KW := hid (hk.below b0)
  have b0 := hid b0
  obtain ⟨r1, r2⟩ := hr
  clear hg hd hk c0 c1 hp hn ha e1 hs ha2
  unfold mo pt sl at *
  go_enter Tryd.func72, Tryd.ntmps72
  go_wp2_with fail
  rw [← hW]
  clear hW
  go_region_held3 (fun w' => w'.cell? ⟨g, 0, none⟩ = some (.int .i64 s) ∧ w'.cell? ⟨g, 1, none⟩ = some (.int .i64 1) ∧ w'.cell? ⟨g, 2, none⟩ = some (.slice (some ⟨d, 0, none⟩) n n) ∧ w'.cell? ⟨w.heap.size, 0, none⟩ = some (.int .u32 h) ∧ w'.cell? ⟨w.heap.size, 1, none⟩ = some (.int .u32 c) ∧ w'.cell? ⟨w.heap.size, 2, none⟩ = some (.slice (some ⟨le, 0, none⟩) m m) ∧ w'.cell? ⟨d, a, none⟩ = some (.int .u8 st) ∧ w'.cell? ⟨g, 3 + st, none⟩ = some (.int .i64 ch))
    (first | exact ⟨g0, g1, g2, m0, m1, m2, dc, gc⟩ | exact ⟨k0, k1, k2, k3, k4, k5, k6, k7⟩ | go_keep)
    (first
    | (go_at_call 74; go_must ((refine (HA.out _).mono ?_); rintro r w1 ⟨rfl, b1⟩; have k0 := keeps b1 g0; have k1 := keeps b1 g1; have k2 := keeps b1 g2; have k3 := keeps b1 m0; have k4 := keeps b1 m1; have k5 := keeps b1 m2; have k6 := keeps b1 dc; have k7 := keeps b1 gc; have K1 := hid (knk b1 KW.out); have B1 := hid (undrew b1)))
    | (go_at_call 23; go_must ((refine (HO.out _ K1.out).mono ?_); rintro r w2 ⟨rfl, b2⟩; replace k0 := keeps b2 k0; replace k1 := keeps b2 k1; replace k2 := keeps b2 k2; replace k3 := keeps b2 k3; replace k4 := keeps b2 k4; replace k5 := keeps b2 k5; replace k6 := keeps b2 k6; replace k7 := keeps b2 k7; have B2 := hid b2)))
  all_goals
    go_wp2_with fail
    go_ret
    exact ⟨rfl, bel3 b0.out B1.out B2.out⟩
end Go.Proofs.YtkfdbibgjoaefaaDoor
