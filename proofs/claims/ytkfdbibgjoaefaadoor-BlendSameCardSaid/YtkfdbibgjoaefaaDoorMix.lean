/-
  A PMix leans.
-/
import Derived.Test.YtkfdbibgjoaefaaDoorZi
import Derived.Test.YtkfdbibgjoaefaaDoorBl
namespace Go.Proofs.YtkfdbibgjoaefaaDoor
open Go.RowKit

theorem mixSum_bd (w : List Int) (L : List Int) (o a : Nat) (hr : InR w (-1048576) 1048576) (hL : ∀ d ∈ L, Lean1 d) : ∀ k : Nat, o + k ≤ w.length → -(2146435072 * (k : Int)) ≤ mixSum w o L a k ∧ mixSum w o L a k ≤ 2146435072 * (k : Int)
  | 0, _ => by unfold mixSum; omega
  | k + 1, hk => by
    have h := mixSum_bd w L o a hr hL k (by omega)
    have h1 := hr.get (o + k) (by omega)
    have h2 := lean_in hL (a + k)
    unfold Lean1 at h2
    have h3 := mul_bd (w.getD (o + k) 0) (L.getD (a + k) 0) 1048576 2047 (by omega) (by omega)
    unfold mixSum at0
    rw [show ((a : Int) + (k : Int)).toNat = a + k from by omega]
    generalize w.getD (o + k) 0 * L.getD (a + k) 0 = z at *
    omega
set_option maxRecDepth 10000 in
set_option maxHeartbeats 1000000 in
theorem w_mix_lean (g d h c le m a wide : Nat) (size rate : Int) (weight L : List Int) (w : World) (hh : h < 4294967296) (hc : c < 256) (s0 : 0 ≤ size) (s1 : size ≤ 16) (hw : 1 ≤ wide ∧ wide ≤ 8) (ha : a + wide ≤ m) (hm : m ≤ 16) (hL : ∀ d ∈ L, Lean1 d) (hl : Ro w le 3 m (intsF L))
    (hg : w.heap[g]? = some (.cells #[.int .i64 size, .int .i64 wide, sl d (pw size * wide), .int .i64 a, .int .i64 rate] 103 (0, 0))) (hd : Ro w d 3 (pw size * wide) (intsF weight)) (l2 : weight.length = pw size * wide) (hr : InR weight (-1048576) 1048576) :
    Calls Tryd.prog 88 #[pt g, mo h c le m] w fun e w' => e = .returned (.int .i64 (into (mixSum weight (placeN h c size * wide) L a wide / 65536) (-2047) 2047)) ∧ Below w.heap.size w w' := by
  obtain ⟨s, rfl, s16, hp⟩ := pw_nat size s0 s1
  have hpl := placeN_lt h c s s0 (by omega)
  have ha2 : placeN h c s < pw s := hpl
  rw [hp] at hg hd ha2 l2
  have HA : Hid (∀ w', Calls Tryd.prog 81 #[.agg #[.int .i64 s, .int .i64 wide, .slice (some ⟨d, 0, none⟩) (2 ^ s * wide) (2 ^ s * wide)], .agg #[.int .u32 h, .int .u32 c, .slice (some ⟨le, 0, none⟩) m m]] w' fun e w'' =>
      e = .returned (.slice (some ⟨d, placeN h c s * wide, none⟩) wide (2 ^ s * wide - placeN h c s * wide)) ∧ Below w'.heap.size w' w'') := hid (fun w' => at_i d h c s wide (2 ^ s * wide) m m (some ⟨le, 0, none⟩) w' hh hc s16 (by omega) (Nat.mul_comm _ _))
  have hq : placeN h c s * wide + wide ≤ 2 ^ s * wide := by
    rw [← Nat.succ_mul]
    exact Nat.mul_le_mul_right _ ha2
  generalize placeN h c s * wide = o at *
  generalize 2 ^ s * wide - o = q at HA
  generalize 2 ^ s * wide = n at *
  obtain ⟨W, hW⟩ : ∃ W, W = w.alloc (.cells #[.int .u32 h, .int .u32 c, sl le m] 55) := ⟨_, rfl⟩
  have b0 : Below w.heap.size w W := by rw [hW]; exact (Below.refl _ _).alloc (Nat.le_refl _) _
  have m0 : W.cell? ⟨w.heap.size, 0, none⟩ = some (.int .u32 h) := by rw [hW]; go_simp
  have m1 : W.cell? ⟨w.heap.size, 1, none⟩ = some (.int .u32 c) := by rw [hW]; go_simp
  have m2 : W.cell? ⟨w.heap.size, 2, none⟩ = some (sl le m) := by rw [hW]; go_simp
  have f0 : W.cell? ⟨g, 0, none⟩ = some (.int .i64 s) := keeps b0 (row_cell hg 0)
  have f1 : W.cell? ⟨g, 1, none⟩ = some (.int .i64 wide) := keeps b0 (row_cell hg 1)
  have f2 : W.cell? ⟨g, 2, none⟩ = some (sl d n) := keeps b0 (row_cell hg 2)
  have f3 : W.cell? ⟨g, 3, none⟩ = some (.int .i64 a) := keeps b0 (row_cell hg 3)
  have DW := hid (hd.below b0)
  have LW := hid (hl.below b0)
  have HR := hid (fun k (hk : o + k < n) => hr.get (o + k) (by rw [l2]; exact hk))
  have HLn := hid (fun k => lean_in hL k)
  have HB := hid (fun k (hk : o + k ≤ n) => mixSum_bd weight L o a hr hL k (by rw [l2]; exact hk))
  have b0 := hid b0
  obtain ⟨w1', w2'⟩ := hw
  clear hg hd hl hp hpl ha2 l2 hr hL
  unfold mo pt sl at *
  go_enter Tryd.func88, Tryd.ntmps88
  go_wp2_with fail
  rw [← hW]
  clear hW
  go_region_held3 (fun w' => w'.cell? ⟨g, 0, none⟩ = some (.int .i64 s) ∧ w'.cell? ⟨g, 1, none⟩ = some (.int .i64 wide) ∧ w'.cell? ⟨g, 2, none⟩ = some (.slice (some ⟨d, 0, none⟩) n n) ∧ w'.cell? ⟨w.heap.size, 0, none⟩ = some (.int .u32 h) ∧ w'.cell? ⟨w.heap.size, 1, none⟩ = some (.int .u32 c) ∧ w'.cell? ⟨w.heap.size, 2, none⟩ = some (.slice (some ⟨le, 0, none⟩) m m))
    (first | exact ⟨f0, f1, f2, m0, m1, m2⟩ | exact ⟨k0, k1, k2, k3, k4, k5⟩ | go_keep)
    (first
    | (go_at_call 81; go_must ((refine (HA.out _).mono ?_); rintro r w1 ⟨rfl, b1⟩; have k0 := keeps b1 f0; have k1 := keeps b1 f1; have k2 := keeps b1 f2; have k3 := keeps b1 m0; have k4 := keeps b1 m1; have k5 := keeps b1 m2; have k6 := keeps b1 f3; have b1 := undrew b1; have B1 := hid (show Below W.heap.size W w1 from b1))))
  all_goals
    have D1 := hid (DW.out.below B1.out)
    have L1 := hid (LW.out.below B1.out)
    have M5 := hid k5
    have M6 := hid k6
    clear f0 f1 f2 f3 m0 m1 m2 k0 k1 k2 k3 k4 k5 k6 DW LW HA
    go_wp2_with fail
    go_loopw [15, 5] (fun vi vs wr => ∃ k : Nat, k ≤ wide ∧ vi = .int .i64 k ∧ vs = .int .i64 (mixSum weight o L a k) ∧ Below w1.heap.size w1 wr) (fun vi _ _ => wide - (intOf vi).toNat)
    case atStart => exact ⟨0, Nat.zero_le _, rfl, rfl, Below.refl _ _⟩
    case round =>
      obtain ⟨k, hk, rfl, rfl, hb⟩ := hrel
      by_cases hgo : k < wide
      · have hz : (k : Int) < (wide : Int) := by omega
        have z2 : (wide : Int) ≤ 8 := by omega
        obtain ⟨i, hi⟩ : ∃ i, a + k = i := ⟨_, rfl⟩
        have zi : (a : Int) + (k : Int) = (i : Int) := by omega
        have zim : (i : Int) < (m : Int) := by omega
        have zm : (m : Int) ≤ 16 := by omega
        have x0 := (D1.out.below hb).cell (o + k) (by omega)
        have x1 := (L1.out.below hb).cell i (by omega)
        unfold intsF at x0 x1
        have g2 := keeps hb M5.out
        have g3 := keeps hb M6.out
        have r1 := HR.out k (by omega)
        have r2 := HLn.out i
        unfold Lean1 at r2
        have r3 := HB.out k (by omega)
        have hs : Hid (mixSum weight o L a (k + 1) = mixSum weight o L a k + weight.getD (o + k) 0 * L.getD i 0) := by
          show mixSum weight o L a k + weight.getD (o + k) 0 * L.getD ((a : Int) + (k : Int)).toNat 0 = _
          rw [show ((a : Int) + (k : Int)).toNat = i from by omega]
        generalize weight.getD (o + k) 0 = wt at *
        generalize L.getD i 0 = p at *
        generalize mixSum weight o L a k = sm at *
        have b1 := mul_bd wt p 1048576 2047 (by omega) (by omega)
        obtain ⟨P, e1⟩ : ∃ P, wt * p = P := ⟨_, rfl⟩
        rw [e1] at b1 hs
        obtain ⟨p1, p2⟩ := b1
        have q1 : IntKind.i64.wrap (wt * p) = P := by rw [e1]; exact IntWalk.i64_in _ (by omega)
        have q2 : IntKind.i64.wrap (sm + P) = sm + P := IntWalk.i64_in _ (by omega)
        have Hb := hid hb
        clear hb e1 hi
        go_wp2_with fail
        go_quiet (fail)
        go_wp2_with fail
        go_roundw
        case rel => exact ⟨k + 1, by omega, by go_num, by rw [hs.out], Hb.out.trans (Below.drewN _ _ _)⟩
        case measure => simp [intOf]; omega
      · obtain rfl : k = wide := by omega
        have r3 := HB.out k (by omega)
        obtain ⟨sm, hsm⟩ : ∃ sm, mixSum weight o L a k = sm := ⟨_, rfl⟩
        rw [hsm] at r3
        rw [hsm]
        have HS := hid hsm
        clear hsm
        have HI := hid (fun w' => within_any' (sm / 65536) 2047 w' (by omega))
        have Hb := hid hb
        clear hb HB
        go_wp2_with fail
        refine (HI.out _).mono ?_
        rintro e w3 ⟨rfl, rfl⟩
        go_wp2_with fail
        go_ret
        exact ⟨by rw [HS.out]; rfl, bel3 b0.out B1.out Hb.out⟩
end Go.Proofs.YtkfdbibgjoaefaaDoor
