/-
  Merged: Mix Mixl Kn2.
-/
import Derived.Test.YtkfdbibgjoaefaaGreatDoorMg29
import Derived.Test.YtkfdbibgjoaefaaGreatDoorMg27
import Derived.Test.YtkfdbibgjoaefaaGreatDoorMg25
import Derived.Test.YtkfdbibgjoaefaaGreatDoorMg31
import Derived.Deep.Cut
import Derived.Deep.CutRange
import Derived.Deep.RegionWith
/-
  A PMix leans.
-/
namespace Go.Proofs.YtkfdbibgjoaefaaGreatDoor
open Go.RowKit

theorem mixSum_bd (w : List Int) (L : List Int) (o a : Nat) (hr : InR w (-1048576) 1048576) (hL : ∀ d ∈ L, Lean1 d) : ∀ k : Nat, o + k ≤ w.length → -(2146435072 * (k : Int)) ≤ mixSum w o L a k ∧ mixSum w o L a k ≤ 2146435072 * (k : Int)
  | 0, _ => by unfold mixSum; omega
  | k + 1, hk => by
    have h := mixSum_bd w L o a hr hL k (by omega)
    have h1 := hr.get (o + k) (by omega)
    have h2 := lean_in hL (a + k)
    unfold Lean1 at h2
    have h3 := mul_bd (w.getD (o + k) 0) (L.getD (a + k) 0) 1048576 2047 (by omega) (by omega)
    unfold mixSum at0
    rw [show ((a : Int) + (k : Int)).toNat = a + k from by omega]
    generalize w.getD (o + k) 0 * L.getD (a + k) 0 = z at *
    omega
set_option maxRecDepth 10000 in
set_option maxHeartbeats 1000000 in
theorem w_mix_lean (g d h c le m a wide : Nat) (size rate : Int) (weight L : List Int) (w : World) (hh : h < 4294967296) (hc : c < 256) (s0 : 0 ≤ size) (s1 : size ≤ 16) (hw : 1 ≤ wide ∧ wide ≤ 8) (ha : a + wide ≤ m) (hm : m ≤ 16) (hL : ∀ d ∈ L, Lean1 d) (hl : Ro w le 3 m (intsF L))
    (hg : w.heap[g]? = some (.cells #[.int .i64 size, .int .i64 wide, sl d (pw size * wide), .int .i64 a, .int .i64 rate] 115 (0, 0))) (hd : Ro w d 3 (pw size * wide) (intsF weight)) (l2 : weight.length = pw size * wide) (hr : InR weight (-1048576) 1048576) :
    Calls Tryz.prog 120 #[pt g, mo h c le m] w fun e w' => e = .returned (.int .i64 (into (mixSum weight (placeN h c size * wide) L a wide / 65536) (-2047) 2047)) ∧ Below w.heap.size w w' := by
  obtain ⟨s, rfl, s16, hp⟩ := pw_nat size s0 s1
  have hpl := placeN_lt h c s s0 (by omega)
  have ha2 : placeN h c s < pw s := hpl
  rw [hp] at hg hd ha2 l2
  have HA : Hid (∀ w', Calls Tryz.prog 113 #[.agg #[.int .i64 s, .int .i64 wide, .slice (some ⟨d, 0, none⟩) (2 ^ s * wide) (2 ^ s * wide)], .agg #[.int .u32 h, .int .u32 c, .slice (some ⟨le, 0, none⟩) m m]] w' fun e w'' =>
      e = .returned (.slice (some ⟨d, placeN h c s * wide, none⟩) wide (2 ^ s * wide - placeN h c s * wide)) ∧ Below w'.heap.size w' w'') := hid (fun w' => at_i d h c s wide (2 ^ s * wide) m m (some ⟨le, 0, none⟩) w' hh hc s16 (by omega) (Nat.mul_comm _ _))
  have hq : placeN h c s * wide + wide ≤ 2 ^ s * wide := by
    rw [← Nat.succ_mul]
    exact Nat.mul_le_mul_right _ ha2
  generalize placeN h c s * wide = o at *
  generalize 2 ^ s * wide - o = q at HA
  generalize 2 ^ s * wide = n at *
  obtain ⟨W, hW⟩ : ∃ W, W = w.alloc (.cells #[.int .u32 h, .int .u32 c, sl le m] 72) := ⟨_, rfl⟩
  have b0 : Below w.heap.size w W := by rw [hW]; exact (Below.refl _ _).alloc (Nat.le_refl _) _
  have m0 : W.cell? ⟨w.heap.size, 0, none⟩ = some (.int .u32 h) := by rw [hW]; go_simp
  have m1 : W.cell? ⟨w.heap.size, 1, none⟩ = some (.int .u32 c) := by rw [hW]; go_simp
  have m2 : W.cell? ⟨w.heap.size, 2, none⟩ = some (sl le m) := by rw [hW]; go_simp
  have f0 : W.cell? ⟨g, 0, none⟩ = some (.int .i64 s) := keeps b0 (row_cell hg 0)
  have f1 : W.cell? ⟨g, 1, none⟩ = some (.int .i64 wide) := keeps b0 (row_cell hg 1)
  have f2 : W.cell? ⟨g, 2, none⟩ = some (sl d n) := keeps b0 (row_cell hg 2)
  have f3 : W.cell? ⟨g, 3, none⟩ = some (.int .i64 a) := keeps b0 (row_cell hg 3)
  have DW := hid (hd.below b0)
  have LW := hid (hl.below b0)
  have HR := hid (fun k (hk : o + k < n) => hr.get (o + k) (by rw [l2]; exact hk))
  have HLn := hid (fun k => lean_in hL k)
  have HB := hid (fun k (hk : o + k ≤ n) => mixSum_bd weight L o a hr hL k (by rw [l2]; exact hk))
  have b0 := hid b0
  obtain ⟨w1', w2'⟩ := hw
  clear hg hd hl hp hpl ha2 l2 hr hL
  unfold mo pt sl at *
  go_enter Tryz.func120, Tryz.ntmps120
  go_wp2_with fail
  rw [← hW]
  clear hW
  go_region_held3 (fun w' => w'.cell? ⟨g, 0, none⟩ = some (.int .i64 s) ∧ w'.cell? ⟨g, 1, none⟩ = some (.int .i64 wide) ∧ w'.cell? ⟨g, 2, none⟩ = some (.slice (some ⟨d, 0, none⟩) n n) ∧ w'.cell? ⟨w.heap.size, 0, none⟩ = some (.int .u32 h) ∧ w'.cell? ⟨w.heap.size, 1, none⟩ = some (.int .u32 c) ∧ w'.cell? ⟨w.heap.size, 2, none⟩ = some (.slice (some ⟨le, 0, none⟩) m m))
    (first | exact ⟨f0, f1, f2, m0, m1, m2⟩ | exact ⟨k0, k1, k2, k3, k4, k5⟩ | go_keep)
    (first
    | (go_at_call 113; go_must ((refine (HA.out _).mono ?_); rintro r w1 ⟨rfl, b1⟩; have k0 := keeps b1 f0; have k1 := keeps b1 f1; have k2 := keeps b1 f2; have k3 := keeps b1 m0; have k4 := keeps b1 m1; have k5 := keeps b1 m2; have k6 := keeps b1 f3; have b1 := undrew b1; have B1 := hid (show Below W.heap.size W w1 from b1))))
  all_goals
    have D1 := hid (DW.out.below B1.out)
    have L1 := hid (LW.out.below B1.out)
    have M5 := hid k5
    have M6 := hid k6
    clear f0 f1 f2 f3 m0 m1 m2 k0 k1 k2 k3 k4 k5 k6 DW LW HA
    go_wp2_with fail
    go_loopw [15, 5] (fun vi vs wr => ∃ k : Nat, k ≤ wide ∧ vi = .int .i64 k ∧ vs = .int .i64 (mixSum weight o L a k) ∧ Below w1.heap.size w1 wr) (fun vi _ _ => wide - (intOf vi).toNat)
    case atStart => exact ⟨0, Nat.zero_le _, rfl, rfl, Below.refl _ _⟩
    case round =>
      obtain ⟨k, hk, rfl, rfl, hb⟩ := hrel
      by_cases hgo : k < wide
      · have hz : (k : Int) < (wide : Int) := by omega
        have z2 : (wide : Int) ≤ 8 := by omega
        obtain ⟨i, hi⟩ : ∃ i, a + k = i := ⟨_, rfl⟩
        have zi : (a : Int) + (k : Int) = (i : Int) := by omega
        have zim : (i : Int) < (m : Int) := by omega
        have zm : (m : Int) ≤ 16 := by omega
        have x0 := (D1.out.below hb).cell (o + k) (by omega)
        have x1 := (L1.out.below hb).cell i (by omega)
        unfold intsF at x0 x1
        have g2 := keeps hb M5.out
        have g3 := keeps hb M6.out
        have r1 := HR.out k (by omega)
        have r2 := HLn.out i
        unfold Lean1 at r2
        have r3 := HB.out k (by omega)
        have hs : Hid (mixSum weight o L a (k + 1) = mixSum weight o L a k + weight.getD (o + k) 0 * L.getD i 0) := by
          show mixSum weight o L a k + weight.getD (o + k) 0 * L.getD ((a : Int) + (k : Int)).toNat 0 = _
          rw [show ((a : Int) + (k : Int)).toNat = i from by omega]
        generalize weight.getD (o + k) 0 = wt at *
        generalize L.getD i 0 = p at *
        generalize mixSum weight o L a k = sm at *
        have b1 := mul_bd wt p 1048576 2047 (by omega) (by omega)
        obtain ⟨P, e1⟩ : ∃ P, wt * p = P := ⟨_, rfl⟩
        rw [e1] at b1 hs
        obtain ⟨p1, p2⟩ := b1
        have q1 : IntKind.i64.wrap (wt * p) = P := by rw [e1]; exact IntWalk.i64_in _ (by omega)
        have q2 : IntKind.i64.wrap (sm + P) = sm + P := IntWalk.i64_in _ (by omega)
        have Hb := hid hb
        clear hb e1 hi
        go_wp2_with fail
        go_quiet (fail)
        go_wp2_with fail
        go_roundw
        case rel => exact ⟨k + 1, by omega, by go_num, by rw [hs.out], Hb.out.trans (Below.drewN _ _ _)⟩
        case measure => simp [intOf]; omega
      · obtain rfl : k = wide := by omega
        have r3 := HB.out k (by omega)
        obtain ⟨sm, hsm⟩ : ∃ sm, mixSum weight o L a k = sm := ⟨_, rfl⟩
        rw [hsm] at r3
        rw [hsm]
        have HS := hid hsm
        clear hsm
        have HI := hid (fun w' => within_any' (sm / 65536) 2047 w' (by omega))
        have Hb := hid hb
        clear hb HB
        go_wp2_with fail
        refine (HI.out _).mono ?_
        rintro e w3 ⟨rfl, rfl⟩
        go_wp2_with fail
        go_ret
        exact ⟨by rw [HS.out]; rfl, bel3 b0.out B1.out Hb.out⟩
end Go.Proofs.YtkfdbibgjoaefaaGreatDoor
/-
  A PMix learns.
-/
namespace Go.Proofs.YtkfdbibgjoaefaaGreatDoor
open Go.RowKit

theorem mixLearn_lenA (w : List Int) (o a : Nat) (L : List Int) (e : Int) : ∀ k : Nat, (mixLearn w o L a e k).length = w.length
  | 0 => rfl
  | k + 1 => by unfold mixLearn; rw [List.length_set, mixLearn_lenA w o a L e k]
theorem mixl_get (w : List Int) (o a : Nat) (L : List Int) (e : Int) : ∀ k : Nat, ∀ j, o + k ≤ j → j < w.length → (mixLearn w o L a e k).getD j 0 = w.getD j 0
  | 0, _, _, _ => rfl
  | k + 1, j, hj, hl => by
    unfold mixLearn
    rw [getD_set _ _ _ _ _ (by rw [mixLearn_lenA]; exact hl), if_neg (by omega), mixl_get w o a L e k j (by omega) hl]
set_option maxRecDepth 10000 in
set_option maxHeartbeats 1000000 in
theorem w_mix_learn (g d h c le m a wide : Nat) (size rate own : Int) (weight L : List Int) (one : Bool) (w : World) (kn : KnIs w) (ngd : g ≠ d) (nld : le ≠ d) (ho : Lean1 own) (hh : h < 4294967296) (hc : c < 256) (s0 : 0 ≤ size) (s1 : size ≤ 16) (hw : 1 ≤ wide ∧ wide ≤ 8) (ha : a + wide ≤ m) (hm : m ≤ 16) (hL : ∀ d ∈ L, Lean1 d) (hl : Ro w le 3 m (intsF L)) (hrate : 1 ≤ rate ∧ rate ≤ 64)
    (hg : w.heap[g]? = some (.cells #[.int .i64 size, .int .i64 wide, sl d (pw size * wide), .int .i64 a, .int .i64 rate] 115 (0, 0))) (hd : Ro w d 3 (pw size * wide) (intsF weight)) (l2 : weight.length = pw size * wide) (hr : InR weight (-1048576) 1048576) :
    Calls Tryz.prog 121 #[pt g, mo h c le m, .int .i64 own, .int .i64 (if one then 1 else 0)] w fun e w' => e = .returned (.tuple #[]) ∧
      Ro w' d 3 (pw size * wide) (intsF (mixLearn weight (placeN h c size * wide) L a (((if one then 4095 else 0) - sq own) * rate) wide)) ∧ But (· = d) w w' := by
  obtain ⟨s, rfl, s16, hp⟩ := pw_nat size s0 s1
  have hpl := placeN_lt h c s s0 (by omega)
  have ha2 : placeN h c s < pw s := hpl
  rw [hp] at hg hd ha2 l2 ⊢
  have HA : Hid (∀ w', Calls Tryz.prog 113 #[.agg #[.int .i64 s, .int .i64 wide, .slice (some ⟨d, 0, none⟩) (2 ^ s * wide) (2 ^ s * wide)], .agg #[.int .u32 h, .int .u32 c, .slice (some ⟨le, 0, none⟩) m m]] w' fun e w'' =>
      e = .returned (.slice (some ⟨d, placeN h c s * wide, none⟩) wide (2 ^ s * wide - placeN h c s * wide)) ∧ Below w'.heap.size w' w'') := hid (fun w' => at_i d h c s wide (2 ^ s * wide) m m (some ⟨le, 0, none⟩) w' hh hc s16 (by omega) (Nat.mul_comm _ _))
  have hq : placeN h c s * wide + wide ≤ 2 ^ s * wide := by
    rw [← Nat.succ_mul]
    exact Nat.mul_le_mul_right _ ha2
  generalize placeN h c s * wide = o at *
  generalize 2 ^ s * wide - o = q at HA
  generalize 2 ^ s * wide = n at *
  have HM := hid (fun w' k => miss_any own one w' k ho)
  have hE := miss_bd own one
  generalize (if one then (4095 : Int) else 0) - sq own = E at *
  generalize (if one then (1 : Int) else 0) = bt at *
  have b1 := mul_bd E rate 4095 64 (by omega) (by omega)
  obtain ⟨ER, e1⟩ : ∃ ER, E * rate = ER := ⟨_, rfl⟩
  rw [e1] at b1
  rw [e1]
  obtain ⟨p1, p2⟩ := b1
  have v1 : IntKind.i64.wrap (E * rate) = ER := by rw [e1]; exact IntWalk.i64_in _ (by omega)
  obtain ⟨W, hW⟩ : ∃ W, W = w.alloc (.cells #[.int .u32 h, .int .u32 c, sl le m] 72) := ⟨_, rfl⟩
  have b0 : Below w.heap.size w W := by rw [hW]; exact (Below.refl _ _).alloc (Nat.le_refl _) _
  have m0 : W.cell? ⟨w.heap.size, 0, none⟩ = some (.int .u32 h) := by rw [hW]; go_simp
  have m1 : W.cell? ⟨w.heap.size, 1, none⟩ = some (.int .u32 c) := by rw [hW]; go_simp
  have m2 : W.cell? ⟨w.heap.size, 2, none⟩ = some (sl le m) := by rw [hW]; go_simp
  have f0 : W.cell? ⟨g, 0, none⟩ = some (.int .i64 s) := keeps b0 (row_cell hg 0)
  have f1 : W.cell? ⟨g, 1, none⟩ = some (.int .i64 wide) := keeps b0 (row_cell hg 1)
  have f2 : W.cell? ⟨g, 2, none⟩ = some (sl d n) := keeps b0 (row_cell hg 2)
  have f3 : W.cell? ⟨g, 3, none⟩ = some (.int .i64 a) := keeps b0 (row_cell hg 3)
  have f4 : W.cell? ⟨g, 4, none⟩ = some (.int .i64 rate) := keeps b0 (row_cell hg 4)
  have DW := hid (hd.below b0)
  have LW := hid (hl.below b0)
  have KW := hid (kn.below b0)
  have HR := hid (fun k (hk : o + k < n) => hr.get (o + k) (by rw [l2]; exact hk))
  have HLn := hid (fun k => lean_in hL k)
  have HG := hid (fun k j (hj : o + k ≤ j) (hn : j < n) => mixl_get weight o a L ER k j hj (by rw [l2]; exact hn))
  have HLen := hid (fun k => (mixLearn_lenA weight o a L ER k).trans l2)
  have nbd : ¬ w.heap.size = d := by have := hd.lt; omega
  have j1 : ¬ d = w.heap.size := Ne.symm nbd
  have j2 : ¬ d = g := Ne.symm ngd
  have j3 : ¬ d = le := Ne.symm nld
  have j4 : ¬ g = d := ngd
  have j5 : ¬ le = d := nld
  have b0 := hid b0
  obtain ⟨w1', w2'⟩ := hw
  clear hg hd hl hp hpl ha2 l2 hr hL kn hE e1 hrate
  unfold mo pt sl at *
  go_enter Tryz.func121, Tryz.ntmps121
  go_wp2_with fail
  rw [← hW]
  clear hW
  go_region_held3 (fun w' => w'.cell? ⟨g, 4, none⟩ = some (.int .i64 rate))
    (first | exact f4 | exact k0 | go_keep)
    (first
    | (go_at_call 119; go_must ((refine (HM.out _ KW.out.drew').mono ?_); rintro r w1 ⟨rfl, b1⟩; have k0 := keeps b1 f4; have b1 := undrew b1; have B1 := hid (show Below W.heap.size W w1 from b1))))
  all_goals
    have b1 := B1.out
    have f0 := keeps b1 f0
    have f1 := keeps b1 f1
    have f2 := keeps b1 f2
    have f3 := keeps b1 f3
    have m0 := keeps b1 m0
    have m1 := keeps b1 m1
    have m2 := keeps b1 m2
    clear b1 f4 k0
    go_wp2_with fail
    go_region_held3 (fun w' => w'.cell? ⟨g, 0, none⟩ = some (.int .i64 s) ∧ w'.cell? ⟨g, 1, none⟩ = some (.int .i64 wide) ∧ w'.cell? ⟨g, 2, none⟩ = some (.slice (some ⟨d, 0, none⟩) n n) ∧ w'.cell? ⟨w.heap.size, 0, none⟩ = some (.int .u32 h) ∧ w'.cell? ⟨w.heap.size, 1, none⟩ = some (.int .u32 c) ∧ w'.cell? ⟨w.heap.size, 2, none⟩ = some (.slice (some ⟨le, 0, none⟩) m m))
      (first | exact ⟨f0, f1, f2, m0, m1, m2⟩ | exact ⟨k0, k1, k2, k3, k4, k5⟩ | go_keep)
      (first
      | (go_at_call 113; go_must ((refine (HA.out _).mono ?_); rintro r w2 ⟨rfl, b2⟩; have k0 := keeps b2 f0; have k1 := keeps b2 f1; have k2 := keeps b2 f2; have k3 := keeps b2 m0; have k4 := keeps b2 m1; have k5 := keeps b2 m2; have k6 := keeps b2 f3; have b2 := undrew b2; have B2 := hid (show Below w1.heap.size w1 w2 from b2))))
    all_goals
      have D2 := hid ((DW.out.below B1.out).below B2.out)
      have L2 := hid ((LW.out.below B1.out).below B2.out)
      have M5 := hid k5
      have M6 := hid k6
      clear f0 f1 f2 f3 m0 m1 m2 k0 k1 k2 k3 k4 k5 k6 DW LW HA HM KW
      go_wp2_with fail
      go_loopw [28] (fun vi wr => ∃ k : Nat, k ≤ wide ∧ vi = .int .i64 k ∧ But (· = d) w2 wr ∧ Ro wr d 3 n (intsF (mixLearn weight o L a ER k))) (fun vi _ => wide - (intOf vi).toNat)
      case atStart => exact ⟨0, Nat.zero_le _, rfl, But.refl _ _, D2.out⟩
      case round =>
        obtain ⟨k, hk, rfl, hb, hd⟩ := hrel
        by_cases hgo : k < wide
        · have hz : (k : Int) < (wide : Int) := by omega
          have z2 : (wide : Int) ≤ 8 := by omega
          obtain ⟨i, hi⟩ : ∃ i, a + k = i := ⟨_, rfl⟩
          have zi : (a : Int) + (k : Int) = (i : Int) := by omega
          have zim : (i : Int) < (m : Int) := by omega
          have zm : (m : Int) ≤ 16 := by omega
          have x0 := hd.cell (o + k) (by omega)
          have x1 := (L2.out.on hb nld).cell i (by omega)
          unfold intsF at x0 x1
          rw [HG.out k (o + k) (Nat.le_refl _) (by omega)] at x0
          have g2 := hb.cell M5.out nbd
          have g3 := hb.cell M6.out ngd
          have r1 := HR.out k (by omega)
          have r2 := HLn.out i
          unfold Lean1 at r2
          have hs : Hid (mixLearn weight o L a ER (k + 1) = (mixLearn weight o L a ER k).set (o + k) (into (weight.getD (o + k) 0 + (ER * L.getD i 0 + 8192) / 16384) (-1048576) 1048576)) := by
            show (mixLearn weight o L a ER k).set (o + k) (into (weight.getD (o + k) 0 + (ER * L.getD ((a : Int) + (k : Int)).toNat 0 + 8192) / 16384) (-1048576) 1048576) = _
            rw [show ((a : Int) + (k : Int)).toNat = i from by omega]
          have ff := hd.free (o + k)
          generalize weight.getD (o + k) 0 = wt at *
          generalize L.getD i 0 = p at *
          have b1 := mul_bd ER p (4095 * 64) 2047 (by omega) (by omega)
          obtain ⟨P, e1⟩ : ∃ P, ER * p = P := ⟨_, rfl⟩
          rw [e1] at b1 hs
          obtain ⟨p3, p4⟩ := b1
          have q1 : IntKind.i64.wrap (ER * p) = P := by rw [e1]; exact IntWalk.i64_in _ (by omega)
          have q0 : IntKind.i64.wrap ((a : Int) + (k : Int)) = (i : Int) := by rw [zi]; exact IntWalk.i64_in _ (by omega)
          have q2 : IntKind.i64.wrap (P + 8192) = P + 8192 := IntWalk.i64_in _ (by omega)
          have q3 : IntKind.i64.wrap (wt + (P + 8192) / 16384) = wt + (P + 8192) / 16384 := IntWalk.i64_in _ (by omega)
          have HI := hid (fun w' => within_any' (wt + (P + 8192) / 16384) 1048576 w' (by omega))
          generalize into (wt + (P + 8192) / 16384) (-1048576) 1048576 = t0 at HI hs
          have hset := hid ((hd.set (o + k) (.int .i64 t0)).same (intsF_set (by omega) (HLen.out k)))
          have Hb := hid (hb.set ⟨d, o + k, none⟩ (.int .i64 t0) (.inl rfl))
          clear hb hd e1 hi zi
          go_wp2_with fail
          go_region_held3 (fun w' => w'.cell? ⟨w.heap.size, 2, none⟩ = some (.slice (some ⟨le, 0, none⟩) m m) ∧ w'.cell? ⟨g, 3, none⟩ = some (.int .i64 a) ∧ w'.cell? ⟨le, i, none⟩ = some (.int .i64 p))
            (first | exact ⟨g2, g3, x1⟩ | go_keep)
            (first
            | (go_at_call 122; go_must ((refine (HI.out _).mono ?_); rintro r w3 ⟨rfl, rfl⟩)))
          all_goals
            go_wp2_with fail
            go_roundw
            case rel => exact ⟨k + 1, by omega, by go_num, Hb.out.drew, by rw [hs.out]; exact hset.out⟩
            case measure => simp [intOf]; omega
        · obtain rfl : k = wide := by omega
          have Hb := hid hb
          have Hd := hid hd
          clear hb hd
          go_wp2_with fail
          refine bodyPost_end (results_none rfl _ _ _) rfl ⟨rfl, Hd.out, (But.of_below (bel3 b0.out B1.out B2.out)).trans Hb.out⟩
end Go.Proofs.YtkfdbibgjoaefaaGreatDoor
/-
  What a PAvg, PMix2, PMix, PIsse, PSse does in memory.
-/
namespace Go.Proofs.YtkfdbibgjoaefaaGreatDoor
open Go.RowKit

theorem nat_of {a : Int} {i n : Nat} (h : 0 ≤ a ∧ a < (i : Int)) (hi : i < n) : ∃ k : Nat, a = (k : Int) ∧ k < n ∧ a.toNat = k := ⟨a.toNat, by omega, by omega, rfl⟩
theorem at0_nat (L : List Int) (k : Nat) : at0 L (k : Int) = L.getD k 0 := by unfold at0; rw [show ((k : Int)).toNat = k from rfl]
/-- A PAvg. -/
theorem avg_at {w : World} {S : Nat → Prop} {v : Value} {u : Un} {wh : Nat} (k : u.p.kind = 5) (h : UnAt w S v u wh) : v = .iface 109 (.agg #[.int .i64 u.p.a, .int .i64 u.p.b, .int .i64 u.p.c]) := by
  cases h with
  | avg _ hv => exact hv
  | cst k' | cm k' | icm k' | mch k' | mix2 k' | mix k' | isse k' | sse k' => omega
theorem leanK5 : LeanK 5 := by
  intro u S v wh i c bits le n L w0 hk a hu
  obtain ⟨ha, hb, hc⟩ := one_avg a.one hk
  obtain ⟨ka, ea, la, _⟩ := nat_of ha a.lt
  obtain ⟨kb, eb, lb, _⟩ := nat_of hb a.lt
  refine ⟨109, _, 116, _, avg_at hk hu, Ent.of Tryz.func116 (by kernel_rfl) rfl, fun w => m_avg_lean u.p.a u.p.b u.p.c w, fun w kn _ ro => ?_⟩
  have q := w_avg_lean ka kb u.p.c u.h c le n L w la lb a.most hc (lean_in a.rng ka) (lean_in a.rng kb) ro
  rw [ea, eb]
  refine q.mono ?_
  rintro e w' ⟨rfl, b⟩
  refine ⟨?_, b⟩
  unfold Un.lean
  simp only
  rw [if_neg (by omega), if_neg (by omega), if_neg (by omega), if_neg (by omega), if_pos hk, ea, eb, at0_nat, at0_nat]
theorem learnK5 : LearnK 5 := learn_65 (fun u c L own one hk => by unfold Un.learn; simp [hk]) (fun u S v wh w0 hk hu => ⟨109, _, avg_at hk hu, fun w => (m_avg_learn u.p.a u.p.b u.p.c w).nil, fun w _ => (m_avg_learn u.p.a u.p.b u.p.c w).row⟩)
theorem endK5 : EndK 5 := end_64 (by decide) (fun u S v wh w0 hk hu => ⟨109, _, avg_at hk hu, fun w _ => (m_avg_end u.p.a u.p.b u.p.c w).row⟩)
theorem beginK5 : BeginK 5 := begin_63 (by decide) (fun u S v wh w0 hk hu => ⟨109, _, avg_at hk hu, fun w => (m_avg_begin u.p.a u.p.b u.p.c w).nil, fun w _ => (m_avg_begin u.p.a u.p.b u.p.c w).row⟩)
/-- A PMix2. -/
theorem mix2_at {w : World} {S : Nat → Prop} {v : Value} {u : Un} {wh : Nat} (k : u.p.kind = 6) (h : UnAt w S v u wh) : ∃ g d, v = .iface 110 (pt g) ∧ S g ∧ S d ∧ g ≠ d ∧
    w.heap[g]? = some (.cells #[.int .i64 u.p.size, .int .i64 1, sl d (pw u.p.size), .int .i64 u.p.a, .int .i64 u.p.b, .int .i64 u.p.rate] 112 (0, 0)) ∧ Ro w d 3 (pw u.p.size) (intsF u.weight) := by
  cases h with
  | mix2 k g d hv sg sd ne hg hd => exact ⟨g, d, hv, sg, sd, ne, hg, hd⟩
  | cst k' | avg k' | cm k' | icm k' | mch k' | mix k' | isse k' | sse k' => omega
theorem mix2_at' {w : World} {S : Nat → Prop} {v : Value} {u : Un} {wh g : Nat} (k : u.p.kind = 6) (hv : v = .iface 110 (pt g)) (h : UnAt w S v u wh) : ∃ d, S g ∧ S d ∧ g ≠ d ∧
    w.heap[g]? = some (.cells #[.int .i64 u.p.size, .int .i64 1, sl d (pw u.p.size), .int .i64 u.p.a, .int .i64 u.p.b, .int .i64 u.p.rate] 112 (0, 0)) ∧ Ro w d 3 (pw u.p.size) (intsF u.weight) := by
  obtain ⟨g', d, hv', r⟩ := mix2_at k h
  rw [hv] at hv'
  obtain rfl := pt_inj (iface_inj hv').2
  exact ⟨d, r⟩
theorem ok_mix2 {u : Un} {wh : Nat} (k : u.p.kind = 6) (h : u.ok wh) : u.weight.length = pw u.p.size ∧ InR u.weight 0 65535 := by
  unfold Un.ok at h; rw [if_neg (by omega), if_neg (by omega), if_neg (by omega), if_pos k] at h; exact h
theorem leanK6 : LeanK 6 := by
  intro u S v wh i c bits le n L w0 hk a hu
  obtain ⟨g, d0, hv, _⟩ := mix2_at hk hu
  obtain ⟨⟨s0, s1⟩, ha, hb, _⟩ := one_mix2 a.one hk
  obtain ⟨ka, ea, la, _⟩ := nat_of ha a.lt
  obtain ⟨kb, eb, lb, _⟩ := nat_of hb a.lt
  obtain ⟨l1, q1⟩ := ok_mix2 hk a.ok
  refine ⟨110, pt g, 117, pt g, hv, Ent.of Tryz.func117 (by kernel_rfl) rfl, fun w => m_mix2_lean g w, fun w kn hu ro => ?_⟩
  obtain ⟨d, sg, sd, ne, hg, hd⟩ := mix2_at' hk hv hu
  rw [ea, eb] at hg
  refine (w_mix2_lean g d u.h c le n ka kb u.p.size u.p.rate u.weight L w a.hu a.c256 s0 s1 la lb a.most (lean_in a.rng ka) (lean_in a.rng kb) ro hg hd (q1.get _ (by rw [l1]; exact place_pw _ _ _ s0 s1))).mono ?_
  rintro e w' ⟨rfl, b⟩
  refine ⟨?_, b⟩
  unfold Un.lean
  simp only
  rw [if_neg (by omega), if_neg (by omega), if_neg (by omega), if_neg (by omega), if_neg (by omega), if_pos hk, ea, eb, at0_nat, at0_nat]
theorem learnK6 : LearnK 6 := by
  intro u S v wh i c bits le n L own one w0 hk a hown nle hu
  obtain ⟨g, d0, hv, _⟩ := mix2_at hk hu
  obtain ⟨⟨s0, s1⟩, ha, hb, hrate⟩ := one_mix2 a.one hk
  obtain ⟨ka, ea, la, _⟩ := nat_of ha a.lt
  obtain ⟨kb, eb, lb, _⟩ := nat_of hb a.lt
  obtain ⟨l1, q1⟩ := ok_mix2 hk a.ok
  refine ⟨110, pt g, 118, pt g, hv, Ent.of Tryz.func118 (by kernel_rfl) rfl, fun w => (m_mix2_learn g w).nil, fun w _ => (m_mix2_learn g w).row, fun w kn hu ro => ?_⟩
  obtain ⟨d, sg, sd, ne, hg, hd⟩ := mix2_at' hk hv hu
  have hg2 := hg
  rw [ea, eb] at hg
  refine (w_mix2_learn g d u.h c le n ka kb u.p.size u.p.rate own u.weight L one w kn ne (fun e => nle (e ▸ sd)) hown a.hu a.c256 s0 s1 la lb a.most (lean_in a.rng ka) (lean_in a.rng kb) ro hrate hg hd l1 (q1.get _ (by rw [l1]; exact place_pw _ _ _ s0 s1))).mono ?_
  rintro e w' ⟨rfl, r, b⟩
  refine ⟨rfl, ?_, b.mono fun k e => by subst e; exact .inl sd⟩
  have e1 : u.learn c L own one = { u with weight := u.weight.set (placeN u.h c u.p.size) (into (u.weight.getD (placeN u.h c u.p.size) 0 + (((if one then 4095 else 0) - sq own) * u.p.rate * (L.getD ka 0 - L.getD kb 0) + 512) / 1024) 0 65535) } := by
    unfold Un.learn
    simp only
    rw [if_neg (by omega), if_neg (by omega), if_pos hk, ea, eb, at0_nat, at0_nat]
  rw [e1]
  exact .mix2 hk g d hv sg sd ne (b.heap hg2 ne) r
theorem nil_mix2_begin (g : Nat) (w : World) : (nilAhead 273 110 (pt g) "quillpress/blend.begin").run Tryz.prog w = .ok (some false) w := by kernel_rfl
theorem endK6 : EndK 6 := end_64 (by decide) (fun u S v wh w0 hk hu => by
  obtain ⟨g, d0, hv, _⟩ := mix2_at hk hu
  exact ⟨110, _, hv, fun w hu => by obtain ⟨d, _, _, _, hg, _⟩ := mix2_at' hk hv hu; exact (m_mix2_end g w _ hg).row⟩)
theorem beginK6 : BeginK 6 := begin_63 (by decide) (fun u S v wh w0 hk hu => by
  obtain ⟨g, d0, hv, _⟩ := mix2_at hk hu
  exact ⟨110, _, hv, nil_mix2_begin g, fun w hu => by obtain ⟨d, _, _, _, hg, _⟩ := mix2_at' hk hv hu; exact (m_mix2_begin g w _ hg).row⟩)
/-- A PMix. -/
theorem mix_at {w : World} {S : Nat → Prop} {v : Value} {u : Un} {wh : Nat} (k : u.p.kind = 7) (h : UnAt w S v u wh) : ∃ g d, v = .iface 113 (pt g) ∧ S g ∧ S d ∧ g ≠ d ∧
    w.heap[g]? = some (.cells #[.int .i64 u.p.size, .int .i64 u.p.b, sl d (pw u.p.size * u.p.b.toNat), .int .i64 u.p.a, .int .i64 u.p.rate] 115 (0, 0)) ∧ Ro w d 3 (pw u.p.size * u.p.b.toNat) (intsF u.weight) := by
  cases h with
  | mix k g d hv sg sd ne hg hd => exact ⟨g, d, hv, sg, sd, ne, hg, hd⟩
  | cst k' | avg k' | cm k' | icm k' | mch k' | mix2 k' | isse k' | sse k' => omega
theorem mix_at' {w : World} {S : Nat → Prop} {v : Value} {u : Un} {wh g : Nat} (k : u.p.kind = 7) (hv : v = .iface 113 (pt g)) (h : UnAt w S v u wh) : ∃ d, S g ∧ S d ∧ g ≠ d ∧
    w.heap[g]? = some (.cells #[.int .i64 u.p.size, .int .i64 u.p.b, sl d (pw u.p.size * u.p.b.toNat), .int .i64 u.p.a, .int .i64 u.p.rate] 115 (0, 0)) ∧ Ro w d 3 (pw u.p.size * u.p.b.toNat) (intsF u.weight) := by
  obtain ⟨g', d, hv', r⟩ := mix_at k h
  rw [hv] at hv'
  obtain rfl := pt_inj (iface_inj hv').2
  exact ⟨d, r⟩
theorem ok_mix {u : Un} {wh : Nat} (k : u.p.kind = 7) (h : u.ok wh) : u.weight.length = pw u.p.size * u.p.b.toNat ∧ InR u.weight (-1048576) 1048576 := by
  unfold Un.ok at h; rw [if_neg (by omega), if_neg (by omega), if_neg (by omega), if_neg (by omega), if_pos k] at h; exact h
theorem leanK7 : LeanK 7 := by
  intro u S v wh i c bits le n L w0 hk a hu
  obtain ⟨g, d0, hv, _⟩ := mix_at hk hu
  obtain ⟨⟨s0, s1⟩, ⟨b1, b8⟩, a0, ab, _⟩ := one_mix a.one hk
  obtain ⟨l1, q1⟩ := ok_mix hk a.ok
  have lt := a.lt
  refine ⟨113, pt g, 120, pt g, hv, Ent.of Tryz.func120 (by kernel_rfl) rfl, fun w => m_mix_lean g w, fun w kn hu ro => ?_⟩
  obtain ⟨d, sg, sd, ne, hg, hd⟩ := mix_at' hk hv hu
  obtain ⟨ka, ea⟩ : ∃ k : Nat, u.p.a = (k : Int) := ⟨u.p.a.toNat, by omega⟩
  obtain ⟨kb, eb⟩ : ∃ k : Nat, u.p.b = (k : Int) := ⟨u.p.b.toNat, by omega⟩
  have eb2 : u.p.b.toNat = kb := by omega
  rw [eb2] at hg hd l1
  rw [ea, eb] at hg
  refine (w_mix_lean g d u.h c le n ka kb u.p.size u.p.rate u.weight L w a.hu a.c256 s0 (by omega) (by omega) (by omega) a.most a.rng ro hg hd l1 q1).mono ?_
  rintro e w' ⟨rfl, b⟩
  refine ⟨?_, b⟩
  unfold Un.lean
  simp only
  rw [if_neg (by omega), if_neg (by omega), if_neg (by omega), if_neg (by omega), if_neg (by omega), if_neg (by omega), if_pos hk, eb2, ea]
theorem learnK7 : LearnK 7 := by
  intro u S v wh i c bits le n L own one w0 hk a hown nle hu
  obtain ⟨g, d0, hv, _⟩ := mix_at hk hu
  obtain ⟨⟨s0, s1⟩, ⟨b1, b8⟩, a0, ab, hrate⟩ := one_mix a.one hk
  obtain ⟨l1, q1⟩ := ok_mix hk a.ok
  have lt := a.lt
  refine ⟨113, pt g, 121, pt g, hv, Ent.of Tryz.func121 (by kernel_rfl) rfl, fun w => (m_mix_learn g w).nil, fun w _ => (m_mix_learn g w).row, fun w kn hu ro => ?_⟩
  obtain ⟨d, sg, sd, ne, hg, hd⟩ := mix_at' hk hv hu
  have hg2 := hg
  obtain ⟨ka, ea⟩ : ∃ k : Nat, u.p.a = (k : Int) := ⟨u.p.a.toNat, by omega⟩
  obtain ⟨kb, eb⟩ : ∃ k : Nat, u.p.b = (k : Int) := ⟨u.p.b.toNat, by omega⟩
  have eb2 : u.p.b.toNat = kb := by omega
  rw [eb2] at hg hd l1
  rw [ea, eb] at hg
  refine (w_mix_learn g d u.h c le n ka kb u.p.size u.p.rate own u.weight L one w kn ne (fun e => nle (e ▸ sd)) hown a.hu a.c256 s0 (by omega) (by omega) (by omega) a.most a.rng ro hrate hg hd l1 q1).mono ?_
  rintro e w' ⟨rfl, r, b⟩
  refine ⟨rfl, ?_, b.mono fun k e => by subst e; exact .inl sd⟩
  have e1 : u.learn c L own one = { u with weight := mixLearn u.weight (placeN u.h c u.p.size * kb) L ka (((if one then 4095 else 0) - sq own) * u.p.rate) kb } := by
    unfold Un.learn
    simp only
    rw [if_neg (by omega), if_neg (by omega), if_neg (by omega), if_pos hk, eb2, ea]
  rw [e1]
  refine .mix hk g d hv sg sd ne (b.heap hg2 ne) ?_
  show Ro w' d 3 (pw u.p.size * u.p.b.toNat) _
  rw [eb2]
  exact r
theorem nil_mix_begin (g : Nat) (w : World) : (nilAhead 273 113 (pt g) "quillpress/blend.begin").run Tryz.prog w = .ok (some false) w := by kernel_rfl
theorem endK7 : EndK 7 := end_64 (by decide) (fun u S v wh w0 hk hu => by
  obtain ⟨g, d0, hv, _⟩ := mix_at hk hu
  exact ⟨113, _, hv, fun w hu => by obtain ⟨d, _, _, _, hg, _⟩ := mix_at' hk hv hu; exact (m_mix_end g w _ hg).row⟩)
theorem beginK7 : BeginK 7 := begin_63 (by decide) (fun u S v wh w0 hk hu => by
  obtain ⟨g, d0, hv, _⟩ := mix_at hk hu
  exact ⟨113, _, hv, nil_mix_begin g, fun w hu => by obtain ⟨d, _, _, _, hg, _⟩ := mix_at' hk hv hu; exact (m_mix_begin g w _ hg).row⟩)
/-- A PIsse. -/
theorem isse_at {w : World} {S : Nat → Prop} {v : Value} {u : Un} {wh : Nat} (k : u.p.kind = 8) (h : UnAt w S v u wh) : ∃ g d, v = .iface 116 (pt g) ∧ S g ∧ S d ∧ g ≠ d ∧
    Ro w g 144 516 (isF u.p.size u.p.a d (pw u.p.size) u.weight) ∧ Ro w d 5 (pw u.p.size) (bytesF u.state) := by
  cases h with
  | isse k g d hv sg sd ne hg hd => exact ⟨g, d, hv, sg, sd, ne, hg, hd⟩
  | cst k' | avg k' | cm k' | icm k' | mch k' | mix2 k' | mix k' | sse k' => omega
theorem isse_at' {w : World} {S : Nat → Prop} {v : Value} {u : Un} {wh g : Nat} (k : u.p.kind = 8) (hv : v = .iface 116 (pt g)) (h : UnAt w S v u wh) : ∃ d, S g ∧ S d ∧ g ≠ d ∧
    Ro w g 144 516 (isF u.p.size u.p.a d (pw u.p.size) u.weight) ∧ Ro w d 5 (pw u.p.size) (bytesF u.state) := by
  obtain ⟨g', d, hv', r⟩ := isse_at k h
  rw [hv] at hv'
  obtain rfl := pt_inj (iface_inj hv').2
  exact ⟨d, r⟩
theorem ok_isse {u : Un} {wh : Nat} (k : u.p.kind = 8) (h : u.ok wh) : u.state.length = pw u.p.size ∧ InN u.state 255 ∧ u.weight.length = 512 ∧ InR u.weight (-1048576) 1048576 := by
  unfold Un.ok at h; rw [if_neg (by omega), if_neg (by omega), if_neg (by omega), if_neg (by omega), if_neg (by omega), if_pos k] at h; exact h
theorem inR_all {l : List Int} (h : InR l (-1048576) 1048576) (i : Nat) : -1048576 ≤ l.getD i 0 ∧ l.getD i 0 ≤ 1048576 := by
  by_cases e : i < l.length
  · exact h.get i e
  · rw [gD_out _ _ (by omega)]; omega
theorem leanK8 : LeanK 8 := by
  intro u S v wh i c bits le n L w0 hk a hu
  obtain ⟨g, d0, hv, _⟩ := isse_at hk hu
  obtain ⟨⟨s0, s1⟩, ha⟩ := one_isse a.one hk
  obtain ⟨ka, ea, la, _⟩ := nat_of ha a.lt
  obtain ⟨l1, q1, l2, q2⟩ := ok_isse hk a.ok
  refine ⟨116, pt g, 123, pt g, hv, Ent.of Tryz.func123 (by kernel_rfl) rfl, fun w => m_isse_lean g w, fun w kn hu ro => ?_⟩
  obtain ⟨d, sg, sd, ne, hg, hd⟩ := isse_at' hk hv hu
  rw [ea] at hg
  refine (w_isse_lean g d u.h c le n ka u.p.size u.weight L u.state w a.hu a.c256 s0 s1 la a.most (lean_in a.rng ka) ro hg hd (q1 _) (inR_all q2)).mono ?_
  rintro e w' ⟨rfl, b⟩
  refine ⟨?_, b⟩
  unfold Un.lean
  simp only
  rw [if_neg (by omega), if_neg (by omega), if_neg (by omega), if_neg (by omega), if_neg (by omega), if_neg (by omega), if_neg (by omega), if_pos hk, ea, at0_nat]
theorem learnK8 : LearnK 8 := by
  intro u S v wh i c bits le n L own one w0 hk a hown nle hu
  obtain ⟨g, d0, hv, _⟩ := isse_at hk hu
  obtain ⟨⟨s0, s1⟩, ha⟩ := one_isse a.one hk
  obtain ⟨ka, ea, la, _⟩ := nat_of ha a.lt
  obtain ⟨l1, q1, l2, q2⟩ := ok_isse hk a.ok
  refine ⟨116, pt g, 124, pt g, hv, Ent.of Tryz.func124 (by kernel_rfl) rfl, fun w => (m_isse_learn g w).nil, fun w _ => (m_isse_learn g w).row, fun w kn hu ro => ?_⟩
  obtain ⟨d, sg, sd, ne, hg, hd⟩ := isse_at' hk hv hu
  rw [ea] at hg
  refine (w_isse_learn g d u.h c le n ka u.p.size own u.weight L u.state one w kn ne (fun e => nle (e ▸ sg)) hown a.hu a.c256 s0 s1 la a.most (lean_in a.rng ka) ro hg hd (q1 _) l2 l1 (inR_all q2)).mono ?_
  rintro e w' ⟨rfl, r1, r2, b⟩
  refine ⟨rfl, ?_, b.mono fun k e => by rcases e with rfl | rfl; exact .inl sg; exact .inl sd⟩
  have e1 : u.learn c L own one = { u with weight := (u.weight.set (2 * u.state.getD (placeN u.h c u.p.size) 0) (into (u.weight.getD (2 * u.state.getD (placeN u.h c u.p.size) 0) 0 + (((if one then 4095 else 0) - sq own) * L.getD ka 0 + 4096) / 8192) (-1048576) 1048576)).set (2 * u.state.getD (placeN u.h c u.p.size) 0 + 1) (into (u.weight.getD (2 * u.state.getD (placeN u.h c u.p.size) 0 + 1) 0 + (((if one then 4095 else 0) - sq own) + 16) / 32) (-1048576) 1048576), state := u.state.set (placeN u.h c u.p.size) (nxN (u.state.getD (placeN u.h c u.p.size) 0) one) } := by
    unfold Un.learn
    simp only
    rw [if_neg (by omega), if_neg (by omega), if_neg (by omega), if_neg (by omega), if_pos hk, ea, at0_nat]
  rw [e1]
  refine .isse hk g d hv sg sd ne ?_ r2
  show Ro w' g 144 516 (isF u.p.size u.p.a d (pw u.p.size) _)
  rw [ea]
  exact r1
theorem nil_isse_begin (g : Nat) (w : World) : (nilAhead 273 116 (pt g) "quillpress/blend.begin").run Tryz.prog w = .ok (some false) w := by kernel_rfl
theorem endK8 : EndK 8 := end_64 (by decide) (fun u S v wh w0 hk hu => by
  obtain ⟨g, d0, hv, _⟩ := isse_at hk hu
  exact ⟨116, _, hv, fun w hu => by obtain ⟨d, _, _, _, hg, _⟩ := isse_at' hk hv hu; exact (m_isse_end g w _ hg).row⟩)
theorem beginK8 : BeginK 8 := begin_63 (by decide) (fun u S v wh w0 hk hu => by
  obtain ⟨g, d0, hv, _⟩ := isse_at hk hu
  exact ⟨116, _, hv, nil_isse_begin g, fun w hu => by obtain ⟨d, _, _, _, hg, _⟩ := isse_at' hk hv hu; exact (m_isse_begin g w _ hg).row⟩)
/-- A PSse. -/
theorem sse_at {w : World} {S : Nat → Prop} {v : Value} {u : Un} {wh : Nat} (k : u.p.kind = 9) (h : UnAt w S v u wh) : ∃ g d, v = .iface 118 (pt g) ∧ S g ∧ S d ∧ g ≠ d ∧
    w.heap[g]? = some (.cells #[.int .i64 u.p.size, .int .i64 32, sl d (pw u.p.size * 32), .int .i64 u.p.a, .int .i64 u.p.limit] 120 (0, 0)) ∧ Ro w d 95 (2 * (pw u.p.size * 32)) (oddsF u.chance u.count) := by
  cases h with
  | sse k g d hv sg sd ne hg hd => exact ⟨g, d, hv, sg, sd, ne, hg, hd⟩
  | cst k' | avg k' | cm k' | icm k' | mch k' | mix2 k' | mix k' | isse k' => omega
theorem sse_at' {w : World} {S : Nat → Prop} {v : Value} {u : Un} {wh g : Nat} (k : u.p.kind = 9) (hv : v = .iface 118 (pt g)) (h : UnAt w S v u wh) : ∃ d, S g ∧ S d ∧ g ≠ d ∧
    w.heap[g]? = some (.cells #[.int .i64 u.p.size, .int .i64 32, sl d (pw u.p.size * 32), .int .i64 u.p.a, .int .i64 u.p.limit] 120 (0, 0)) ∧ Ro w d 95 (2 * (pw u.p.size * 32)) (oddsF u.chance u.count) := by
  obtain ⟨g', d, hv', r⟩ := sse_at k h
  rw [hv] at hv'
  obtain rfl := pt_inj (iface_inj hv').2
  exact ⟨d, r⟩
theorem ok_sse {u : Un} {wh : Nat} (k : u.p.kind = 9) (h : u.ok wh) : u.chance.length = pw u.p.size * 32 ∧ u.count.length = pw u.p.size * 32 ∧ InR u.chance 0 4194303 ∧ InR u.count 0 1023 := by
  unfold Un.ok at h; rw [if_neg (by omega), if_neg (by omega), if_neg (by omega), if_neg (by omega), if_neg (by omega), if_neg (by omega), if_pos k] at h; exact h
theorem leanK9 : LeanK 9 := by
  intro u S v wh i c bits le n L w0 hk a hu
  obtain ⟨g, d0, hv, _⟩ := sse_at hk hu
  obtain ⟨⟨s0, s1⟩, ha, _⟩ := one_sse a.one hk
  obtain ⟨ka, ea, la, _⟩ := nat_of ha a.lt
  obtain ⟨l1, l2, q1, q2⟩ := ok_sse hk a.ok
  obtain ⟨j, j1, j2, j3, j4⟩ := jOf (L.getD ka 0) (lean_in a.rng ka)
  refine ⟨118, pt g, 125, pt g, hv, Ent.of Tryz.func125 (by kernel_rfl) rfl, fun w => m_sse_lean g w, fun w kn hu ro => ?_⟩
  obtain ⟨d, sg, sd, ne, hg, hd⟩ := sse_at' hk hv hu
  have hp := place_pw u.h c u.p.size s0 (by omega)
  rw [ea] at hg
  refine (w_sse_lean g d u.h c le n ka j u.p.size u.p.limit L u.chance u.count w kn a.hu a.c256 s0 (by omega) la a.most (lean_in a.rng ka) j2 j4 ro hg hd (q1.get _ (by rw [l1]; omega))).mono ?_
  rintro e w' ⟨rfl, b⟩
  refine ⟨?_, b⟩
  unfold Un.lean
  simp only
  rw [if_neg (by omega), if_neg (by omega), if_neg (by omega), if_neg (by omega), if_neg (by omega), if_neg (by omega), if_neg (by omega), if_neg (by omega), ea, at0_nat, j3]
theorem learnK9 : LearnK 9 := by
  intro u S v wh i c bits le n L own one w0 hk a hown nle hu
  obtain ⟨g, d0, hv, _⟩ := sse_at hk hu
  obtain ⟨⟨s0, s1⟩, ha, t0, t1⟩ := one_sse a.one hk
  obtain ⟨ka, ea, la, _⟩ := nat_of ha a.lt
  obtain ⟨l1, l2, q1, q2⟩ := ok_sse hk a.ok
  obtain ⟨j, j1, j2, j3, j4⟩ := jOf (L.getD ka 0) (lean_in a.rng ka)
  refine ⟨118, pt g, 126, pt g, hv, Ent.of Tryz.func126 (by kernel_rfl) rfl, fun w => (m_sse_learn g w).nil, fun w _ => (m_sse_learn g w).row, fun w kn hu ro => ?_⟩
  obtain ⟨d, sg, sd, ne, hg, hd⟩ := sse_at' hk hv hu
  have hg2 := hg
  have hp := place_pw u.h c u.p.size s0 (by omega)
  rw [ea] at hg
  refine (w_sse_learn g d u.h c le n ka j u.p.size u.p.limit own L u.chance u.count one w ne a.hu a.c256 s0 (by omega) la a.most (lean_in a.rng ka) j2 j4 ro hg hd l1 l2 (q1.get _ (by rw [l1]; omega)) (q2.get _ (by rw [l2]; omega)) (by omega)).mono ?_
  rintro e w' ⟨rfl, r, b⟩
  refine ⟨rfl, ?_, b.mono fun k e => by subst e; exact .inl sd⟩
  have e1 : u.learn c L own one = u.slow (placeN u.h c u.p.size * 32 + j) one := by
    unfold Un.learn
    simp only
    rw [if_neg (by omega), if_neg (by omega), if_neg (by omega), if_neg (by omega), if_neg (by omega), if_pos hk, ea, at0_nat, j3]
  rw [e1]
  exact .sse hk g d hv sg sd ne (b.heap hg2 ne) r
theorem nil_sse_begin (g : Nat) (w : World) : (nilAhead 273 118 (pt g) "quillpress/blend.begin").run Tryz.prog w = .ok (some false) w := by kernel_rfl
theorem endK9 : EndK 9 := end_64 (by decide) (fun u S v wh w0 hk hu => by
  obtain ⟨g, d0, hv, _⟩ := sse_at hk hu
  exact ⟨118, _, hv, fun w hu => by obtain ⟨d, _, _, _, hg, _⟩ := sse_at' hk hv hu; exact (m_sse_end g w _ hg).row⟩)
theorem beginK9 : BeginK 9 := begin_63 (by decide) (fun u S v wh w0 hk hu => by
  obtain ⟨g, d0, hv, _⟩ := sse_at hk hu
  exact ⟨118, _, hv, nil_sse_begin g, fun w hu => by obtain ⟨d, _, _, _, hg, _⟩ := sse_at' hk hv hu; exact (m_sse_begin g w _ hg).row⟩)
end Go.Proofs.YtkfdbibgjoaefaaGreatDoor
