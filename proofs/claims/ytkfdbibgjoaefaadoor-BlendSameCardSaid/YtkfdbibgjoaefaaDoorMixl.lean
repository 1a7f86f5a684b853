/-
  A PMix learns.
-/
import Derived.Test.YtkfdbibgjoaefaaDoorMix
import Derived.Deep.Cut
import Derived.Deep.CutRange
import Derived.Deep.RegionWith
namespace Go.Proofs.YtkfdbibgjoaefaaDoor
open Go.RowKit

theorem mixLearn_lenA (w : List Int) (o a : Nat) (L : List Int) (e : Int) : ∀ k : Nat, (mixLearn w o L a e k).length = w.length
  | 0 => rfl
  | k + 1 => by unfold mixLearn; rw [List.length_set, mixLearn_lenA w o a L e k]
theorem mixLearn_get (w : List Int) (o a : Nat) (L : List Int) (e : Int) : ∀ k : Nat, ∀ j, o + k ≤ j → j < w.length → (mixLearn w o L a e k).getD j 0 = w.getD j 0
  | 0, _, _, _ => rfl
  | k + 1, j, hj, hl => by
    unfold mixLearn
    rw [getD_set _ _ _ _ _ (by rw [mixLearn_lenA]; exact hl), if_neg (by omega), mixLearn_get w o a L e k j (by omega) hl]
set_option maxRecDepth 10000 in
set_option maxHeartbeats 1000000 in
theorem w_mix_learn (g d h c le m a wide : Nat) (size rate own : Int) (weight L : List Int) (one : Bool) (w : World) (kn : KnIs w) (ngd : g ≠ d) (nld : le ≠ d) (ho : Lean1 own) (hh : h < 4294967296) (hc : c < 256) (s0 : 0 ≤ size) (s1 : size ≤ 16) (hw : 1 ≤ wide ∧ wide ≤ 8) (ha : a + wide ≤ m) (hm : m ≤ 16) (hL : ∀ d ∈ L, Lean1 d) (hl : Ro w le 3 m (intsF L)) (hrate : 1 ≤ rate ∧ rate ≤ 64)
    (hg : w.heap[g]? = some (.cells #[.int .i64 size, .int .i64 wide, sl d (pw size * wide), .int .i64 a, .int .i64 rate] 103 (0, 0))) (hd : Ro w d 3 (pw size * wide) (intsF weight)) (l2 : weight.length = pw size * wide) (hr : InR weight (-1048576) 1048576) :
    Calls Tryd.prog 89 #[pt g, mo h c le m, .int .i64 own, .int .i64 (if one then 1 else 0)] w fun e w' => e = .returned (.tuple #[]) ∧
      Ro w' d 3 (pw size * wide) (intsF (mixLearn weight (placeN h c size * wide) L a (((if one then 4095 else 0) - sq own) * rate) wide)) ∧ But (· = d) w w' := by
  obtain ⟨s, rfl, s16, hp⟩ := pw_nat size s0 s1
  have hpl := placeN_lt h c s s0 (by omega)
  have ha2 : placeN h c s < pw s := hpl
  rw [hp] at hg hd ha2 l2 ⊢
  have HA : Hid (∀ w', Calls Tryd.prog 81 #[.agg #[.int .i64 s, .int .i64 wide, .slice (some ⟨d, 0, none⟩) (2 ^ s * wide) (2 ^ s * wide)], .agg #[.int .u32 h, .int .u32 c, .slice (some ⟨le, 0, none⟩) m m]] w' fun e w'' =>
      e = .returned (.slice (some ⟨d, placeN h c s * wide, none⟩) wide (2 ^ s * wide - placeN h c s * wide)) ∧ Below w'.heap.size w' w'') := hid (fun w' => at_i d h c s wide (2 ^ s * wide) m m (some ⟨le, 0, none⟩) w' hh hc s16 (by omega) (Nat.mul_comm _ _))
  have hq : placeN h c s * wide + wide ≤ 2 ^ s * wide := by
    rw [← Nat.succ_mul]
    exact Nat.mul_le_mul_right _ ha2
  generalize placeN h c s * wide = o at *
  generalize 2 ^ s * wide - o = q at HA
  generalize 2 ^ s * wide = n at *
  have HM := hid (fun w' k => miss_any own one w' k ho)
  have hE := miss_bd own one
  generalize (if one then (4095 : Int) else 0) - sq own = E at *
  generalize (if one then (1 : Int) else 0) = bt at *
  have b1 := mul_bd E rate 4095 64 (by omega) (by omega)
  obtain ⟨ER, e1⟩ : ∃ ER, E * rate = ER := ⟨_, rfl⟩
  rw [e1] at b1
  rw [e1]
  obtain ⟨p1, p2⟩ := b1
  have v1 : IntKind.i64.wrap (E * rate) = ER := by rw [e1]; exact IntWalk.i64_in _ (by omega)
  obtain ⟨W, hW⟩ : ∃ W, W = w.alloc (.cells #[.int .u32 h, .int .u32 c, sl le m] 55) := ⟨_, rfl⟩
  have b0 : Below w.heap.size w W := by rw [hW]; exact (Below.refl _ _).alloc (Nat.le_refl _) _
  have m0 : W.cell? ⟨w.heap.size, 0, none⟩ = some (.int .u32 h) := by rw [hW]; go_simp
  have m1 : W.cell? ⟨w.heap.size, 1, none⟩ = some (.int .u32 c) := by rw [hW]; go_simp
  have m2 : W.cell? ⟨w.heap.size, 2, none⟩ = some (sl le m) := by rw [hW]; go_simp
  have f0 : W.cell? ⟨g, 0, none⟩ = some (.int .i64 s) := keeps b0 (row_cell hg 0)
  have f1 : W.cell? ⟨g, 1, none⟩ = some (.int .i64 wide) := keeps b0 (row_cell hg 1)
  have f2 : W.cell? ⟨g, 2, none⟩ = some (sl d n) := keeps b0 (row_cell hg 2)
  have f3 : W.cell? ⟨g, 3, none⟩ = some (.int .i64 a) := keeps b0 (row_cell hg 3)
  have f4 : W.cell? ⟨g, 4, none⟩ = some (.int .i64 rate) := keeps b0 (row_cell hg 4)
  have DW := hid (hd.below b0)
  have LW := hid (hl.below b0)
  have KW := hid (kn.below b0)
  have HR := hid (fun k (hk : o + k < n) => hr.get (o + k) (by rw [l2]; exact hk))
  have HLn := hid (fun k => lean_in hL k)
  have HG := hid (fun k j (hj : o + k ≤ j) (hn : j < n) => mixLearn_get weight o a L ER k j hj (by rw [l2]; exact hn))
  have HLen := hid (fun k => (mixLearn_lenA weight o a L ER k).trans l2)
  have nbd : ¬ w.heap.size = d := by have := hd.lt; omega
  have j1 : ¬ d = w.heap.size := Ne.symm nbd
  have j2 : ¬ d = g := Ne.symm ngd
  have j3 : ¬ d = le := Ne.symm nld
  have j4 : ¬ g = d := ngd
  have j5 : ¬ le = d := nld
  have b0 := hid b0
  obtain ⟨w1', w2'⟩ := hw
  clear hg hd hl hp hpl ha2 l2 hr hL kn hE e1 hrate
  unfold mo pt sl at *
  go_enter Tryd.func89, Tryd.ntmps89
  go_wp2_with fail
  rw [← hW]
  clear hW
  go_region_held3 (fun w' => w'.cell? ⟨g, 4, none⟩ = some (.int .i64 rate))
    (first | exact f4 | exact k0 | go_keep)
    (first
    | (go_at_call 87; go_must ((refine (HM.out _ KW.out.drew').mono ?_); rintro r w1 ⟨rfl, b1⟩; have k0 := keeps b1 f4; have b1 := undrew b1; have B1 := hid (show Below W.heap.size W w1 from b1))))
  all_goals
    have b1 := B1.out
    have f0 := keeps b1 f0
    have f1 := keeps b1 f1
    have f2 := keeps b1 f2
    have f3 := keeps b1 f3
    have m0 := keeps b1 m0
    have m1 := keeps b1 m1
    have m2 := keeps b1 m2
    clear b1 f4 k0
    go_wp2_with fail
    go_region_held3 (fun w' => w'.cell? ⟨g, 0, none⟩ = some (.int .i64 s) ∧ w'.cell? ⟨g, 1, none⟩ = some (.int .i64 wide) ∧ w'.cell? ⟨g, 2, none⟩ = some (.slice (some ⟨d, 0, none⟩) n n) ∧ w'.cell? ⟨w.heap.size, 0, none⟩ = some (.int .u32 h) ∧ w'.cell? ⟨w.heap.size, 1, none⟩ = some (.int .u32 c) ∧ w'.cell? ⟨w.heap.size, 2, none⟩ = some (.slice (some ⟨le, 0, none⟩) m m))
      (first | exact ⟨f0, f1, f2, m0, m1, m2⟩ | exact ⟨k0, k1, k2, k3, k4, k5⟩ | go_keep)
      (first
      | (go_at_call 81; go_must ((refine (HA.out _).mono ?_); rintro r w2 ⟨rfl, b2⟩; have k0 := keeps b2 f0; have k1 := keeps b2 f1; have k2 := keeps b2 f2; have k3 := keeps b2 m0; have k4 := keeps b2 m1; have k5 := keeps b2 m2; have k6 := keeps b2 f3; have b2 := undrew b2; have B2 := hid (show Below w1.heap.size w1 w2 from b2))))
    all_goals
      have D2 := hid ((DW.out.below B1.out).below B2.out)
      have L2 := hid ((LW.out.below B1.out).below B2.out)
      have M5 := hid k5
      have M6 := hid k6
      clear f0 f1 f2 f3 m0 m1 m2 k0 k1 k2 k3 k4 k5 k6 DW LW HA HM KW
      go_wp2_with fail
      go_loopw [28] (fun vi wr => ∃ k : Nat, k ≤ wide ∧ vi = .int .i64 k ∧ But (· = d) w2 wr ∧ Ro wr d 3 n (intsF (mixLearn weight o L a ER k))) (fun vi _ => wide - (intOf vi).toNat)
      case atStart => exact ⟨0, Nat.zero_le _, rfl, But.refl _ _, D2.out⟩
      case round =>
        obtain ⟨k, hk, rfl, hb, hd⟩ := hrel
        by_cases hgo : k < wide
        · have hz : (k : Int) < (wide : Int) := by omega
          have z2 : (wide : Int) ≤ 8 := by omega
          obtain ⟨i, hi⟩ : ∃ i, a + k = i := ⟨_, rfl⟩
          have zi : (a : Int) + (k : Int) = (i : Int) := by omega
          have zim : (i : Int) < (m : Int) := by omega
          have zm : (m : Int) ≤ 16 := by omega
          have x0 := hd.cell (o + k) (by omega)
          have x1 := (L2.out.on hb nld).cell i (by omega)
          unfold intsF at x0 x1
          rw [HG.out k (o + k) (Nat.le_refl _) (by omega)] at x0
          have g2 := hb.cell M5.out nbd
          have g3 := hb.cell M6.out ngd
          have r1 := HR.out k (by omega)
          have r2 := HLn.out i
          unfold Lean1 at r2
          have hs : Hid (mixLearn weight o L a ER (k + 1) = (mixLearn weight o L a ER k).set (o + k) (into (weight.getD (o + k) 0 + (ER * L.getD i 0 + 8192) / 16384) (-1048576) 1048576)) := by
            show (mixLearn weight o L a ER k).set (o + k) (into (weight.getD (o + k) 0 + (ER * L.getD ((a : Int) + (k : Int)).toNat 0 + 8192) / 16384) (-1048576) 1048576) = _
            rw [show ((a : Int) + (k : Int)).toNat = i from by omega]
          have ff := hd.free (o + k)
          generalize weight.getD (o + k) 0 = wt at *
          generalize L.getD i 0 = p at *
          have b1 := mul_bd ER p (4095 * 64) 2047 (by omega) (by omega)
          obtain ⟨P, e1⟩ : ∃ P, ER * p = P := ⟨_, rfl⟩
          rw [e1] at b1 hs
          obtain ⟨p3, p4⟩ := b1
          have q1 : IntKind.i64.wrap (ER * p) = P := by rw [e1]; exact IntWalk.i64_in _ (by omega)
          have q0 : IntKind.i64.wrap ((a : Int) + (k : Int)) = (i : Int) := by rw [zi]; exact IntWalk.i64_in _ (by omega)
          have q2 : IntKind.i64.wrap (P + 8192) = P + 8192 := IntWalk.i64_in _ (by omega)
          have q3 : IntKind.i64.wrap (wt + (P + 8192) / 16384) = wt + (P + 8192) / 16384 := IntWalk.i64_in _ (by omega)
          have HI := hid (fun w' => within_any' (wt + (P + 8192) / 16384) 1048576 w' (by omega))
          generalize into (wt + (P + 8192) / 16384) (-1048576) 1048576 = t0 at HI hs
          have hset := hid ((hd.set (o + k) (.int .i64 t0)).same (intsF_set (by omega) (HLen.out k)))
          have Hb := hid (hb.set ⟨d, o + k, none⟩ (.int .i64 t0) (.inl rfl))
          clear hb hd e1 hi zi
          go_wp2_with fail
          go_region_held3 (fun w' => w'.cell? ⟨w.heap.size, 2, none⟩ = some (.slice (some ⟨le, 0, none⟩) m m) ∧ w'.cell? ⟨g, 3, none⟩ = some (.int .i64 a) ∧ w'.cell? ⟨le, i, none⟩ = some (.int .i64 p))
            (first | exact ⟨g2, g3, x1⟩ | go_keep)
            (first
            | (go_at_call 90; go_must ((refine (HI.out _).mono ?_); rintro r w3 ⟨rfl, rfl⟩)))
          all_goals
            go_wp2_with fail
            go_roundw
            case rel => exact ⟨k + 1, by omega, by go_num, Hb.out.drew, by rw [hs.out]; exact hset.out⟩
            case measure => simp [intOf]; omega
        · obtain rfl : k = wide := by omega
          have Hb := hid hb
          have Hd := hid hd
          clear hb hd
          go_wp2_with fail
          refine bodyPost_end (results_none rfl _ _ _) rfl ⟨rfl, Hd.out, (But.of_below (bel3 b0.out B1.out B2.out)).trans Hb.out⟩
end Go.Proofs.YtkfdbibgjoaefaaDoor
