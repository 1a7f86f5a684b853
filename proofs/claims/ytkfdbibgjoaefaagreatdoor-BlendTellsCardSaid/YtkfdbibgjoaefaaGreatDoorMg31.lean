/-
  Merged: Isl.
-/
import Derived.Test.YtkfdbibgjoaefaaGreatDoorMg30
import Derived.Deep.Cut
import Derived.Deep.CutRange
import Derived.Deep.RegionWith
/-
  A PIsse learns.
-/
namespace Go.Proofs.YtkfdbibgjoaefaaGreatDoor
open Go.RowKit

theorem isF_set {size a : Int} {d n : Nat} {l : List Int} {i : Nat} {x : Int} (hi : i < 512) (hl : l.length = 512) : ∀ k, k < 516 → (fun k => if k = 3 + i then Value.int .i64 x else isF size a d n l k) k = isF size a d n (l.set i x) k := by
  intro k hk
  show (if k = 3 + i then Value.int .i64 x else isF size a d n l k) = _
  by_cases e : k = 3 + i
  · rw [if_pos e]; unfold isF
    rw [if_neg (by omega), if_neg (by omega), if_neg (by omega), if_neg (by omega), getD_set _ _ _ _ _ (by omega), if_pos (by omega)]
  · rw [if_neg e]; unfold isF
    by_cases e0 : k = 0
    · rw [if_pos e0, if_pos e0]
    · rw [if_neg e0, if_neg e0]
      by_cases e1 : k = 1
      · rw [if_pos e1, if_pos e1]
      · rw [if_neg e1, if_neg e1]
        by_cases e2 : k = 2
        · rw [if_pos e2, if_pos e2]
        · rw [if_neg e2, if_neg e2]
          by_cases e3 : k = 515
          · rw [if_pos e3, if_pos e3]
          · rw [if_neg e3, if_neg e3, getD_set _ _ _ _ _ (by omega), if_neg (by omega)]
set_option maxRecDepth 10000 in
set_option maxHeartbeats 1000000 in
theorem w_isse_learn (g d h c le m a : Nat) (size own : Int) (weight L : List Int) (state : List Nat) (one : Bool) (w : World) (kn : KnIs w) (ngd : g ≠ d) (nlg : le ≠ g) (ho : Lean1 own) (hh : h < 4294967296) (hc : c < 256) (s0 : 0 ≤ size) (s1 : size ≤ 16) (ha : a < m) (hm : m ≤ 16) (la : Lean1 (L.getD a 0)) (hl : Ro w le 3 m (intsF L))
    (hg : Ro w g 144 516 (isF size a d (pw size) weight)) (hd : Ro w d 5 (pw size) (bytesF state)) (hs : state.getD (placeN h c size) 0 ≤ 255) (lw : weight.length = 512) (ls : state.length = pw size)
    (hr : ∀ i, -1048576 ≤ weight.getD i 0 ∧ weight.getD i 0 ≤ 1048576) :
    Calls Tryz.prog 124 #[pt g, mo h c le m, .int .i64 own, .int .i64 (if one then 1 else 0)] w fun e w' => e = .returned (.tuple #[]) ∧
      Ro w' g 144 516 (isF size a d (pw size) ((weight.set (2 * state.getD (placeN h c size) 0) (into (weight.getD (2 * state.getD (placeN h c size) 0) 0 + (((if one then 4095 else 0) - sq own) * L.getD a 0 + 4096) / 8192) (-1048576) 1048576)).set (2 * state.getD (placeN h c size) 0 + 1) (into (weight.getD (2 * state.getD (placeN h c size) 0 + 1) 0 + (((if one then 4095 else 0) - sq own) + 16) / 32) (-1048576) 1048576))) ∧
      Ro w' d 5 (pw size) (bytesF (state.set (placeN h c size) (nxN (state.getD (placeN h c size) 0) one))) ∧ But (fun k => k = g ∨ k = d) w w' := by
  obtain ⟨s, rfl, s16, hp⟩ := pw_nat size s0 s1
  have hpl := placeN_lt h c s s0 (by omega)
  have ha2 : placeN h c s < pw s := hpl
  rw [hp] at hg hd ha2 ls ⊢
  have HA : Hid (∀ w', Calls Tryz.prog 106 #[.agg #[.int .i64 s, .int .i64 1, .slice (some ⟨d, 0, none⟩) (2 ^ s) (2 ^ s)], .agg #[.int .u32 h, .int .u32 c, .slice (some ⟨le, 0, none⟩) m m]] w' fun e w'' =>
      e = .returned (.slice (some ⟨d, placeN h c s * 1, none⟩) 1 (2 ^ s - placeN h c s * 1)) ∧ Below w'.heap.size w' w'') := hid (fun w' => at_b d h c s 1 (2 ^ s) m m (some ⟨le, 0, none⟩) w' hh hc s16 (by omega) (by omega))
  rw [Nat.mul_one] at HA
  have c0 := hd.cell (placeN h c s) (by omega)
  have x0 := hl.cell a ha
  unfold bytesF at c0
  unfold intsF at x0
  generalize placeN h c s = pl at *
  obtain ⟨n, hn⟩ : ∃ n, 2 ^ s = n := ⟨_, rfl⟩
  rw [hn] at HA hg hd ha2 ls ⊢
  generalize n - pl = q at HA
  obtain ⟨st, hst⟩ : ∃ st, state.getD pl 0 = st := ⟨_, rfl⟩
  rw [hst] at c0 hs ⊢
  have HD := hid (fun (w' : World) (b : Ro w' d 5 n (bytesF state)) => fun x => (b.set pl (.int .u8 (x : Nat))).same (bytesF_set ha2 ls))
  obtain ⟨e0, e1, e2⟩ := isF_w s a d n weight st hs
  have y0 := hg.cell (3 + st * 2) (by omega)
  have y1 := hg.cell (3 + st * 2 + 1) (by omega)
  have y2 := hg.cell 515 (by omega)
  rw [e0] at y0
  rw [e1] at y1
  rw [e2] at y2
  have r0 := hr (2 * st)
  have r1 := hr (2 * st + 1)
  have z1 : (st : Int) < 256 := by omega
  have HG := hid (fun (w' : World) (b : Ro w' g 144 516 (isF s a d n weight)) => fun x y => (show Ro ((w'.setCell ⟨g, 3 + st * 2, none⟩ (.int .i64 x)).setCell ⟨g, 3 + st * 2 + 1, none⟩ (.int .i64 y)) g 144 516 (isF s a d n ((weight.set (2 * st) x).set (2 * st + 1) y)) from by
    have h1 : Ro (w'.setCell ⟨g, 3 + st * 2, none⟩ (.int .i64 x)) g 144 516 (isF s a d n (weight.set (2 * st) x)) := (b.set (3 + st * 2) (.int .i64 x)).same (fun k hk => by have := isF_set (size := s) (a := a) (d := d) (n := n) (l := weight) (i := 2 * st) (x := x) (by omega) lw k hk; rw [Nat.mul_comm st 2]; exact this)
    exact (h1.set (3 + st * 2 + 1) (.int .i64 y)).same (fun k hk => by have := isF_set (size := s) (a := a) (d := d) (n := n) (l := weight.set (2 * st) x) (i := 2 * st + 1) (x := y) (by omega) (by rw [List.length_set]; exact lw) k hk; rw [Nat.mul_comm st 2]; exact this)))
  have HN := hid (fun w' => next_any st (if one then 1 else 0) (by omega) w')
  rw [show oneB (if one then (1 : Int) else 0) = one from by cases one <;> rfl] at HN
  generalize nxN st one = nx at *
  have HM := hid (fun w' k => miss_any own one w' k ho)
  have hE := miss_bd own one
  generalize (if one then (4095 : Int) else 0) - sq own = E at *
  generalize (if one then (1 : Int) else 0) = bt at *
  generalize weight.getD (2 * st) 0 = wt at *
  generalize weight.getD (2 * st + 1) 0 = wu at *
  obtain ⟨la1, la2⟩ := la
  generalize L.getD a 0 = p at *
  have b1 := mul_bd E p 4095 2047 (by omega) (by omega)
  obtain ⟨P, e3⟩ : ∃ P, E * p = P := ⟨_, rfl⟩
  rw [e3] at b1
  rw [e3]
  obtain ⟨p1, p2⟩ := b1
  obtain ⟨E1, E2⟩ := hE
  have v1 : IntKind.i64.wrap (E * p) = P := by rw [e3]; exact IntWalk.i64_in _ (by omega)
  have v2 : IntKind.i64.wrap (P + 4096) = P + 4096 := IntWalk.i64_in _ (by omega)
  have v3 : IntKind.i64.wrap (wt + (P + 4096) / 8192) = wt + (P + 4096) / 8192 := IntWalk.i64_in _ (by omega)
  have v4 : IntKind.i64.wrap (E + 16) = E + 16 := IntWalk.i64_in _ (by omega)
  have v5 : IntKind.i64.wrap (wu + (E + 16) / 32) = wu + (E + 16) / 32 := IntWalk.i64_in _ (by omega)
  have HI := hid (fun w' => within_any' (wt + (P + 4096) / 8192) 1048576 w' (by omega))
  have HJ := hid (fun w' => within_any' (wu + (E + 16) / 32) 1048576 w' (by omega))
  generalize into (wt + (P + 4096) / 8192) (-1048576) 1048576 = t0 at HI ⊢
  generalize into (wu + (E + 16) / 32) (-1048576) 1048576 = t1 at HJ ⊢
  have z0 : (a : Int) < (m : Int) := by omega
  have z2 : (m : Int) ≤ 16 := by omega
  obtain ⟨W, hW⟩ : ∃ W, W = w.alloc (.cells #[.int .u32 h, .int .u32 c, sl le m] 72) := ⟨_, rfl⟩
  have b0 : Below w.heap.size w W := by rw [hW]; exact (Below.refl _ _).alloc (Nat.le_refl _) _
  have m0 : W.cell? ⟨w.heap.size, 0, none⟩ = some (.int .u32 h) := by rw [hW]; go_simp
  have m1 : W.cell? ⟨w.heap.size, 1, none⟩ = some (.int .u32 c) := by rw [hW]; go_simp
  have m2 : W.cell? ⟨w.heap.size, 2, none⟩ = some (sl le m) := by rw [hW]; go_simp
  have f0 : W.cell? ⟨g, 0, none⟩ = some (.int .i64 s) := keeps b0 (hg.cell 0 (by omega))
  have f1 : W.cell? ⟨g, 1, none⟩ = some (.int .i64 1) := keeps b0 (hg.cell 1 (by omega))
  have f2 : W.cell? ⟨g, 2, none⟩ = some (sl d n) := keeps b0 (hg.cell 2 (by omega))
  have f3 := keeps b0 c0
  have f4 := keeps b0 y0
  have f5 := keeps b0 y1
  have f6 := keeps b0 y2
  have f7 := keeps b0 x0
  have GW := hid (hg.below b0)
  have DW := hid (hd.below b0)
  have KW := hid (kn.below b0)
  have ngd' : ¬ d = g := Ne.symm ngd
  have nbx : ¬ w.heap.size = g := by have := hg.lt; omega
  have nbx2 : ¬ g = w.heap.size := Ne.symm nbx
  have ngl : ¬ g = le := Ne.symm nlg
  have b0 := hid b0
  clear hg hd c0 hp hn hpl ha2 hl x0 y0 y1 y2 e0 e1 e2 e3 hs hr r0 r1 lw ls kn hst
  unfold mo pt sl at *
  go_enter Tryz.func124, Tryz.ntmps124
  go_wp2_with fail
  rw [← hW]
  clear hW
  go_region_held3 (fun w' => w'.cell? ⟨g, 0, none⟩ = some (.int .i64 s) ∧ w'.cell? ⟨g, 1, none⟩ = some (.int .i64 1) ∧ w'.cell? ⟨g, 2, none⟩ = some (.slice (some ⟨d, 0, none⟩) n n) ∧ w'.cell? ⟨w.heap.size, 0, none⟩ = some (.int .u32 h) ∧ w'.cell? ⟨w.heap.size, 1, none⟩ = some (.int .u32 c) ∧ w'.cell? ⟨w.heap.size, 2, none⟩ = some (.slice (some ⟨le, 0, none⟩) m m))
    (first | exact ⟨f0, f1, f2, m0, m1, m2⟩ | exact ⟨k0, k1, k2, k3, k4, k5⟩ | go_keep)
    (first
    | (go_at_call 106; go_must ((refine (HA.out _).mono ?_); rintro r w1 ⟨rfl, b1⟩; have k0 := keeps b1 f0; have k1 := keeps b1 f1; have k2 := keeps b1 f2; have k3 := keeps b1 m0; have k4 := keeps b1 m1; have k5 := keeps b1 m2; have k6 := keeps b1 f3; have k7 := keeps b1 f4; have k8 := keeps b1 f5; have k9 := keeps b1 f6; have k10 := keeps b1 f7; have b1 := undrew b1; have B1 := hid (show Below W.heap.size W w1 from b1))))
  all_goals
    clear f0 f1 f2 f3 f4 f5 f6 f7 m0 m1 m2 k0 k1 k2 k3 k4 HA
    have G1 := hid (GW.out.below B1.out)
    have D1 := hid (DW.out.below B1.out)
    have K1 := hid (KW.out.below B1.out)
    go_wp2_with fail
    go_region_held3 (fun w' => w'.cell? ⟨d, pl, none⟩ = some (.int .u8 st)) (first | exact k6 | go_keep) (fail)
    go_wp2_with fail
    refine (HM.out _ K1.out.drew').mono ?_
    rintro e w2 ⟨rfl, b2⟩
    have b2 := undrew b2
    have B2 := hid (show Below w1.heap.size w1 w2 from b2)
    have k5 := keeps b2 k5
    have k6 := keeps b2 k6
    have k7 := keeps b2 k7
    have k8 := keeps b2 k8
    have k9 := keeps b2 k9
    have k10 := keeps b2 k10
    have G2 := hid (G1.out.below B2.out)
    have D2 := hid (D1.out.below B2.out)
    have g2 := G2.out.free (3 + st * 2)
    have g3 := G2.out.free (3 + st * 2 + 1)
    clear b1 b2
    go_wp2_with fail
    go_cut [46] from 28 to 48 (fun _ wx => wx = (w2.setCell ⟨g, 3 + st * 2, none⟩ (.int .i64 t0)).drew)
    case first =>
      go_region_with (go_at_call 122; (refine (HI.out _).mono ?_); rintro r w3 ⟨rfl, rfl⟩)
      all_goals
        go_wp2_with fail
        go_meet
        rfl
    case rest =>
      obtain ⟨w4, hw4⟩ : ∃ w4, w4 = wc := ⟨_, rfl⟩
      rw [← hw4] at hcut
      rw [← hw4]
      clear hw4
      have x3 : But (· = g) w2 w4 := by rw [hcut]; exact ((But.refl (· = g) w2).set ⟨g, 3 + st * 2, none⟩ _ (.inl rfl)).drew
      have k6 := x3.cell k6 ngd'
      have k8 : w4.cell? ⟨g, 3 + st * 2 + 1, none⟩ = some (.int .i64 wu) := by rw [hcut]; go_simp
      have g3 : w4.frozen? ⟨g, 3 + st * 2 + 1, none⟩ = false := by rw [hcut]; go_simp
      have HC := hid hcut
      have X3 := hid x3
      clear hcut x3 k5 k7 k9 k10 g2
      go_wp2_with fail
      go_cut [58] from 49 to 60 (fun _ wx => wx = (w4.setCell ⟨g, 3 + st * 2 + 1, none⟩ (.int .i64 t1)).drew)
      case first =>
        go_region_with (go_at_call 122; (refine (HJ.out _).mono ?_); rintro r w3 ⟨rfl, rfl⟩)
        all_goals
          go_wp2_with fail
          go_meet
          rfl
      case rest =>
        have x4 : But (· = g) w4 wc := by rw [hcut]; exact ((But.refl (· = g) w4).set ⟨g, 3 + st * 2 + 1, none⟩ _ (.inl rfl)).drew
        have G4 : Hid (Ro wc g 144 516 (isF s a d n ((weight.set (2 * st) t0).set (2 * st + 1) t1))) := by rw [hcut, HC.out]; exact HG.out w2 G2.out t0 t1
        have D4 := hid ((D2.out.on X3.out ngd').on x4 ngd')
        have k6 := x4.cell k6 ngd'
        have X4 := hid x4
        clear hcut x4 k8 g3
        go_wp2_with fail
        refine (HN.out _).mono ?_
        rintro e w5 ⟨rfl, b5⟩
        have D5 := hid (D4.out.below b5)
        have f5 := D5.out.free pl
        have k6 := keeps b5 k6
        have x6 := ((But.refl (· = d) w5).set ⟨d, pl, none⟩ (.int .u8 (nx : Nat)) (.inl rfl))
        have X6 := hid x6
        have B5 := hid b5
        clear x6 b5
        go_wp2_with fail
        refine bodyPost_end (results_none rfl _ _ _) rfl ⟨rfl, (G4.out.below B5.out).on X6.out ngd, HD.out _ D5.out nx, ?_⟩
        exact (((((But.of_below (bel3 b0.out B1.out B2.out)).trans (X3.out.mono fun k e => .inl (.inl e))).trans (X4.out.mono fun k e => .inl (.inl e))).trans (But.of_below B5.out)).trans (X6.out.mono fun k e => .inl (.inr e)))
end Go.Proofs.YtkfdbibgjoaefaaGreatDoor
