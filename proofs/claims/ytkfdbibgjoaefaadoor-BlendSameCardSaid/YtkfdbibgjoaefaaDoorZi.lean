/-
  Merged: Avg Mx2 Mxl.
-/
import Derived.Test.YtkfdbibgjoaefaaDoorZg
import Derived.Test.YtkfdbibgjoaefaaDoorZh
import Derived.BigQuiet
/-
  A PAvg leans; how far a lean was from the bit; what lies within a range.
-/
namespace Go.Proofs.YtkfdbibgjoaefaaDoor
open Go.RowKit

theorem mul_bd (x y : Int) (m n : Nat) (hx : -(m : Int) ≤ x ∧ x ≤ m) (hy : -(n : Int) ≤ y ∧ y ≤ n) : -((m * n : Nat) : Int) ≤ x * y ∧ x * y ≤ ((m * n : Nat) : Int) := by
  have h1 : x.natAbs ≤ m := by omega
  have h2 : y.natAbs ≤ n := by omega
  have h3 := Nat.mul_le_mul h1 h2
  rw [← Int.natAbs_mul] at h3
  generalize x * y = z at *
  generalize m * n = q at *
  omega
set_option maxRecDepth 10000 in
set_option maxHeartbeats 1000000 in
theorem w_avg_lean (a b : Nat) (c : Int) (h cc le m : Nat) (L : List Int) (w : World) (ha : a < m) (hb : b < m) (hm : m ≤ 16) (hc : 0 ≤ c ∧ c ≤ 256) (la : Lean1 (L.getD a 0)) (lb : Lean1 (L.getD b 0)) (hl : Ro w le 3 m (intsF L)) :
    Calls Tryd.prog 84 #[.agg #[.int .i64 a, .int .i64 b, .int .i64 c], mo h cc le m] w fun e w' => e = .returned (.int .i64 ((c * L.getD a 0 + (256 - c) * L.getD b 0) / 256)) ∧ Below w.heap.size w w' := by
  have x0 := hl.cell a ha
  have x1 := hl.cell b hb
  unfold intsF at x0 x1
  obtain ⟨la1, la2⟩ := la
  obtain ⟨lb1, lb2⟩ := lb
  generalize L.getD a 0 = p at *
  generalize L.getD b 0 = q at *
  have b1 := mul_bd c p 256 2047 (by omega) (by omega)
  have b2 := mul_bd (256 - c) q 256 2047 (by omega) (by omega)
  obtain ⟨P, e1⟩ : ∃ P, c * p = P := ⟨_, rfl⟩
  obtain ⟨Q, e2⟩ : ∃ Q, (256 - c) * q = Q := ⟨_, rfl⟩
  rw [e1] at b1
  rw [e2] at b2
  rw [e1, e2]
  obtain ⟨p1, p2⟩ := b1
  obtain ⟨q1, q2⟩ := b2
  obtain ⟨c1, c2⟩ := hc
  have z0 : (a : Int) < (m : Int) := by omega
  have z1 : (b : Int) < (m : Int) := by omega
  have z2 : (m : Int) ≤ 16 := by omega
  have g1 : IntKind.i64.wrap (c * p) = P := by rw [e1]; exact IntWalk.i64_in _ (by omega)
  have g2 : IntKind.i64.wrap ((256 - c) * q) = Q := by rw [e2]; exact IntWalk.i64_in _ (by omega)
  have y0 : ∀ o o', ((w.alloc o).alloc o').cell? ⟨le, a, none⟩ = some (.int .i64 p) := fun o o' => keeps (((Below.refl w.heap.size w).alloc (Nat.le_refl _) o).alloc (by simp) o') x0
  have y1 : ∀ o o', ((w.alloc o).alloc o').cell? ⟨le, b, none⟩ = some (.int .i64 q) := fun o o' => keeps (((Below.refl w.heap.size w).alloc (Nat.le_refl _) o).alloc (by simp) o') x1
  clear hl x0 x1
  unfold mo sl
  go_enter Tryd.func84, Tryd.ntmps84
  go_wp2_with fail
  go_quiet (fail)
  go_wp2_with fail
  go_ret
  exact ⟨by simp, (((Below.refl w.heap.size w).alloc (Nat.le_refl _) _).alloc (by simp) _).trans (Below.drewN _ _ _)⟩
theorem into_sym (n m : Int) (_h : 0 ≤ m) : into n (-m) m = if n < -m then -m else if m < n then m else n := rfl
set_option maxRecDepth 10000 in
set_option maxHeartbeats 1000000 in
theorem miss_any (own : Int) (one : Bool) (w : World) (kn : KnIs w) (ho : Lean1 own) : Calls Tryd.prog 87 #[.int .i64 own, .int .i64 (if one then 1 else 0)] w fun e w' => e = .returned (.int .i64 ((if one then 4095 else 0) - sq own)) ∧ Below w.heap.size w w' := by
  obtain ⟨o1, o2⟩ := ho
  have HQ := hid (squash_below own w kn (by omega) (by omega))
  have hs := sq_range own
  generalize sq own = s at *
  obtain ⟨s1, s2⟩ := hs
  cases one
  · rw [if_neg (by decide), if_neg (by decide)]
    have z : IntKind.i64.wrap (0 - s) = 0 - s := IntWalk.i64_in _ (by omega)
    have z2 : IntKind.i64.wrap (-s) = -s := IntWalk.i64_in _ (by omega)
    go_enter Tryd.func87, Tryd.ntmps87
    go_wp2_with fail
    refine HQ.out.mono ?_
    rintro e w1 ⟨rfl, b1⟩
    go_wp2_with fail
    go_ret
    exact ⟨by simp, b1⟩
  · rw [if_pos rfl, if_pos rfl]
    have z : IntKind.i64.wrap (4095 - s) = 4095 - s := IntWalk.i64_in _ (by omega)
    go_enter Tryd.func87, Tryd.ntmps87
    go_wp2_with fail
    refine HQ.out.mono ?_
    rintro e w1 ⟨rfl, b1⟩
    go_wp2_with fail
    go_ret
    exact ⟨by simp, b1⟩
set_option maxRecDepth 10000 in
set_option maxHeartbeats 1000000 in
theorem within_any' (n m : Int) (w : World) (hm : 0 ≤ m ∧ m ≤ 1048576) : Calls Tryd.prog 90 #[.int .i64 n, .int .i64 m] w fun e w' => e = .returned (.int .i64 (into n (-m) m)) ∧ w = w' := by
  obtain ⟨m0, m1⟩ := hm
  have z : IntKind.i64.wrap (-m) = -m := IntWalk.i64_in _ (by omega)
  unfold into
  go_enter Tryd.func90, Tryd.ntmps90
  go_wp2_with fail
  all_goals
    go_ret
    exact ⟨ret_i64 (by omega), rfl⟩
end Go.Proofs.YtkfdbibgjoaefaaDoor
/-
  A PMix2 at work.
-/
namespace Go.Proofs.YtkfdbibgjoaefaaDoor
open Go.RowKit

set_option maxRecDepth 10000 in
set_option maxHeartbeats 1000000 in
theorem w_mix2_lean (g d h c le m a b : Nat) (size rate : Int) (weight L : List Int) (w : World) (hh : h < 4294967296) (hc : c < 256) (s0 : 0 ≤ size) (s1 : size ≤ 16) (ha : a < m) (hb : b < m) (hm : m ≤ 16) (la : Lean1 (L.getD a 0)) (lb : Lean1 (L.getD b 0)) (hl : Ro w le 3 m (intsF L))
    (hg : w.heap[g]? = some (.cells #[.int .i64 size, .int .i64 1, sl d (pw size), .int .i64 a, .int .i64 b, .int .i64 rate] 100 (0, 0))) (hd : Ro w d 3 (pw size) (intsF weight))
    (hr : 0 ≤ weight.getD (placeN h c size) 0 ∧ weight.getD (placeN h c size) 0 ≤ 65535) :
    Calls Tryd.prog 85 #[pt g, mo h c le m] w fun e w' => e = .returned (.int .i64 ((weight.getD (placeN h c size) 0 * L.getD a 0 + (65536 - weight.getD (placeN h c size) 0) * L.getD b 0) / 65536)) ∧ Below w.heap.size w w' := by
  obtain ⟨s, rfl, s16, hp⟩ := pw_nat size s0 s1
  have hpl := placeN_lt h c s s0 (by omega)
  have ha2 : placeN h c s < pw s := hpl
  rw [hp] at hg hd ha2
  have HA : Hid (∀ w', Calls Tryd.prog 81 #[.agg #[.int .i64 s, .int .i64 1, .slice (some ⟨d, 0, none⟩) (2 ^ s) (2 ^ s)], .agg #[.int .u32 h, .int .u32 c, .slice (some ⟨le, 0, none⟩) m m]] w' fun e w'' =>
      e = .returned (.slice (some ⟨d, placeN h c s * 1, none⟩) 1 (2 ^ s - placeN h c s * 1)) ∧ Below w'.heap.size w' w'') := hid (fun w' => at_i d h c s 1 (2 ^ s) m m (some ⟨le, 0, none⟩) w' hh hc s16 (by omega) (by omega))
  rw [Nat.mul_one] at HA
  have c0 := hd.cell (placeN h c s) (by omega)
  have x0 := hl.cell a ha
  have x1 := hl.cell b hb
  unfold intsF at c0 x0 x1
  generalize placeN h c s = pl at *
  obtain ⟨n, hn⟩ : ∃ n, 2 ^ s = n := ⟨_, rfl⟩
  rw [hn] at HA hg hd ha2
  generalize n - pl = q at HA
  obtain ⟨la1, la2⟩ := la
  obtain ⟨lb1, lb2⟩ := lb
  generalize L.getD a 0 = p at *
  generalize L.getD b 0 = r at *
  generalize weight.getD pl 0 = wt at *
  have b1 := mul_bd wt p 65536 2047 (by omega) (by omega)
  have b2 := mul_bd (65536 - wt) r 65536 2047 (by omega) (by omega)
  obtain ⟨P, e1⟩ : ∃ P, wt * p = P := ⟨_, rfl⟩
  obtain ⟨Q, e2⟩ : ∃ Q, (65536 - wt) * r = Q := ⟨_, rfl⟩
  rw [e1] at b1
  rw [e2] at b2
  rw [e1, e2]
  obtain ⟨p1, p2⟩ := b1
  obtain ⟨q1, q2⟩ := b2
  obtain ⟨r1, r2⟩ := hr
  have z0 : (a : Int) < (m : Int) := by omega
  have z1 : (b : Int) < (m : Int) := by omega
  have z2 : (m : Int) ≤ 16 := by omega
  have g1 : IntKind.i64.wrap (wt * p) = P := by rw [e1]; exact IntWalk.i64_in _ (by omega)
  have g2 : IntKind.i64.wrap ((65536 - wt) * r) = Q := by rw [e2]; exact IntWalk.i64_in _ (by omega)
  obtain ⟨W, hW⟩ : ∃ W, W = w.alloc (.cells #[.int .u32 h, .int .u32 c, sl le m] 55) := ⟨_, rfl⟩
  have b0 : Below w.heap.size w W := by rw [hW]; exact (Below.refl _ _).alloc (Nat.le_refl _) _
  have m0 : W.cell? ⟨w.heap.size, 0, none⟩ = some (.int .u32 h) := by rw [hW]; go_simp
  have m1 : W.cell? ⟨w.heap.size, 1, none⟩ = some (.int .u32 c) := by rw [hW]; go_simp
  have m2 : W.cell? ⟨w.heap.size, 2, none⟩ = some (sl le m) := by rw [hW]; go_simp
  have f0 : W.cell? ⟨g, 0, none⟩ = some (.int .i64 s) := keeps b0 (row_cell hg 0)
  have f1 : W.cell? ⟨g, 1, none⟩ = some (.int .i64 1) := keeps b0 (row_cell hg 1)
  have f2 : W.cell? ⟨g, 2, none⟩ = some (sl d n) := keeps b0 (row_cell hg 2)
  have f3 : W.cell? ⟨g, 3, none⟩ = some (.int .i64 a) := keeps b0 (row_cell hg 3)
  have f4 : W.cell? ⟨g, 4, none⟩ = some (.int .i64 b) := keeps b0 (row_cell hg 4)
  have dc := keeps b0 c0
  have xa := keeps b0 x0
  have xb := keeps b0 x1
  have b0 := hid b0
  clear hg hd c0 hp hn hpl ha2 hl x0 x1
  unfold mo pt sl at *
  go_enter Tryd.func85, Tryd.ntmps85
  go_wp2_with fail
  rw [← hW]
  clear hW
  go_region_held3 (fun w' => w'.cell? ⟨g, 0, none⟩ = some (.int .i64 s) ∧ w'.cell? ⟨g, 1, none⟩ = some (.int .i64 1) ∧ w'.cell? ⟨g, 2, none⟩ = some (.slice (some ⟨d, 0, none⟩) n n) ∧ w'.cell? ⟨w.heap.size, 0, none⟩ = some (.int .u32 h) ∧ w'.cell? ⟨w.heap.size, 1, none⟩ = some (.int .u32 c) ∧ w'.cell? ⟨w.heap.size, 2, none⟩ = some (.slice (some ⟨le, 0, none⟩) m m) ∧ w'.cell? ⟨d, pl, none⟩ = some (.int .i64 wt))
    (first | exact ⟨f0, f1, f2, m0, m1, m2, dc⟩ | exact ⟨k0, k1, k2, k3, k4, k5, k6⟩ | go_keep)
    (first
    | (go_at_call 81; go_must ((refine (HA.out _).mono ?_); rintro r w1 ⟨rfl, b1⟩; have k0 := keeps b1 f0; have k1 := keeps b1 f1; have k2 := keeps b1 f2; have k3 := keeps b1 m0; have k4 := keeps b1 m1; have k5 := keeps b1 m2; have k6 := keeps b1 dc; have k7 := keeps b1 f3; have k8 := keeps b1 f4; have k9 := keeps b1 xa; have k10 := keeps b1 xb; have B1 := hid (show Below W.heap.size W w1 from undrew b1))))
  all_goals
    clear f0 f1 f2 f3 f4 m0 m1 m2 dc xa xb k0 k1 k2 k3 k4 k6
    go_wp2_with fail
    go_quiet (fail)
    go_wp2_with fail
    go_ret
    exact ⟨by simp, (bel2 b0.out B1.out).trans (Below.drewN _ _ _)⟩
end Go.Proofs.YtkfdbibgjoaefaaDoor
/-
  A PMix2 learns.
-/
namespace Go.Proofs.YtkfdbibgjoaefaaDoor
open Go.RowKit

theorem intsF_set {l : List Int} {n i : Nat} {x : Int} (_hi : i < n) (hl : l.length = n) : ∀ k, k < n → (fun k => if k = i then Value.int .i64 x else intsF l k) k = intsF (l.set i x) k := by
  intro k hk
  show (if k = i then Value.int .i64 x else intsF l k) = _
  unfold intsF
  rw [getD_set _ _ _ _ _ (by omega)]
  by_cases e : k = i
  · rw [if_pos e, if_pos e.symm]
  · rw [if_neg e, if_neg (Ne.symm e)]
theorem miss_bd (own : Int) (one : Bool) : -4095 ≤ (if one then (4095 : Int) else 0) - sq own ∧ (if one then (4095 : Int) else 0) - sq own ≤ 4095 := by
  have := sq_range own
  cases one <;> simp <;> omega
set_option maxRecDepth 10000 in
set_option maxHeartbeats 1000000 in
theorem w_mix2_learn (g d h c le m a b : Nat) (size rate own : Int) (weight L : List Int) (one : Bool) (w : World) (kn : KnIs w) (_ngd : g ≠ d) (_nld : le ≠ d) (ho : Lean1 own) (hh : h < 4294967296) (hc : c < 256) (s0 : 0 ≤ size) (s1 : size ≤ 16) (ha : a < m) (hb : b < m) (hm : m ≤ 16) (la : Lean1 (L.getD a 0)) (lb : Lean1 (L.getD b 0)) (hl : Ro w le 3 m (intsF L))
    (hrate : 1 ≤ rate ∧ rate ≤ 64) (hg : w.heap[g]? = some (.cells #[.int .i64 size, .int .i64 1, sl d (pw size), .int .i64 a, .int .i64 b, .int .i64 rate] 100 (0, 0))) (hd : Ro w d 3 (pw size) (intsF weight)) (l2 : weight.length = pw size)
    (hr : 0 ≤ weight.getD (placeN h c size) 0 ∧ weight.getD (placeN h c size) 0 ≤ 65535) :
    Calls Tryd.prog 86 #[pt g, mo h c le m, .int .i64 own, .int .i64 (if one then 1 else 0)] w fun e w' => e = .returned (.tuple #[]) ∧
      Ro w' d 3 (pw size) (intsF (weight.set (placeN h c size) (into (weight.getD (placeN h c size) 0 + (((if one then 4095 else 0) - sq own) * rate * (L.getD a 0 - L.getD b 0) + 512) / 1024) 0 65535))) ∧ But (· = d) w w' := by
  obtain ⟨s, rfl, s16, hp⟩ := pw_nat size s0 s1
  have hpl := placeN_lt h c s s0 (by omega)
  have ha2 : placeN h c s < pw s := hpl
  rw [hp] at hg hd ha2 l2 ⊢
  have HA : Hid (∀ w', Calls Tryd.prog 81 #[.agg #[.int .i64 s, .int .i64 1, .slice (some ⟨d, 0, none⟩) (2 ^ s) (2 ^ s)], .agg #[.int .u32 h, .int .u32 c, .slice (some ⟨le, 0, none⟩) m m]] w' fun e w'' =>
      e = .returned (.slice (some ⟨d, placeN h c s * 1, none⟩) 1 (2 ^ s - placeN h c s * 1)) ∧ Below w'.heap.size w' w'') := hid (fun w' => at_i d h c s 1 (2 ^ s) m m (some ⟨le, 0, none⟩) w' hh hc s16 (by omega) (by omega))
  rw [Nat.mul_one] at HA
  have c0 := hd.cell (placeN h c s) (by omega)
  have x0 := hl.cell a ha
  have x1 := hl.cell b hb
  unfold intsF at c0 x0 x1
  generalize placeN h c s = pl at *
  obtain ⟨n, hn⟩ : ∃ n, 2 ^ s = n := ⟨_, rfl⟩
  rw [hn] at HA hg hd ha2 l2 ⊢
  generalize n - pl = q at HA
  have HM := hid (fun w' k => miss_any own one w' k ho)
  have hE := miss_bd own one
  generalize (if one then (4095 : Int) else 0) - sq own = E at *
  generalize (if one then (1 : Int) else 0) = bt at *
  have HD := hid (fun (w' : World) (b : Ro w' d 3 n (intsF weight)) => fun x => (b.set pl (.int .i64 x)).same (intsF_set ha2 l2))
  obtain ⟨la1, la2⟩ := la
  obtain ⟨lb1, lb2⟩ := lb
  generalize L.getD a 0 = p at *
  generalize L.getD b 0 = r at *
  generalize weight.getD pl 0 = wt at *
  have b1 := mul_bd E rate 4095 64 (by omega) (by omega)
  obtain ⟨ER, e1⟩ : ∃ ER, E * rate = ER := ⟨_, rfl⟩
  rw [e1] at b1
  obtain ⟨D, e2⟩ : ∃ D, p - r = D := ⟨_, rfl⟩
  have b2 := mul_bd ER D (4095 * 64) 4094 (by omega) (by omega)
  obtain ⟨M, e3⟩ : ∃ M, ER * D = M := ⟨_, rfl⟩
  rw [e3] at b2
  rw [e1, e2, e3]
  obtain ⟨p1, p2⟩ := b1
  obtain ⟨q1, q2⟩ := b2
  obtain ⟨r1, r2⟩ := hr
  have z0 : (a : Int) < (m : Int) := by omega
  have z1 : (b : Int) < (m : Int) := by omega
  have z2 : (m : Int) ≤ 16 := by omega
  have g1 : IntKind.i64.wrap (E * rate) = ER := by rw [e1]; exact IntWalk.i64_in _ (by omega)
  have g2 : IntKind.i64.wrap (p - r) = D := by rw [e2]; exact IntWalk.i64_in _ (by omega)
  have g3 : IntKind.i64.wrap (ER * D) = M := by rw [e3]; exact IntWalk.i64_in _ (by omega)
  have g4 : IntKind.i64.wrap (M + 512) = M + 512 := IntWalk.i64_in _ (by omega)
  have g5 : IntKind.i64.wrap (wt + (M + 512) / 1024) = wt + (M + 512) / 1024 := IntWalk.i64_in _ (by omega)
  obtain ⟨W, hW⟩ : ∃ W, W = w.alloc (.cells #[.int .u32 h, .int .u32 c, sl le m] 55) := ⟨_, rfl⟩
  have b0 : Below w.heap.size w W := by rw [hW]; exact (Below.refl _ _).alloc (Nat.le_refl _) _
  have m0 : W.cell? ⟨w.heap.size, 0, none⟩ = some (.int .u32 h) := by rw [hW]; go_simp
  have m1 : W.cell? ⟨w.heap.size, 1, none⟩ = some (.int .u32 c) := by rw [hW]; go_simp
  have m2 : W.cell? ⟨w.heap.size, 2, none⟩ = some (sl le m) := by rw [hW]; go_simp
  have f0 : W.cell? ⟨g, 0, none⟩ = some (.int .i64 s) := keeps b0 (row_cell hg 0)
  have f1 : W.cell? ⟨g, 1, none⟩ = some (.int .i64 1) := keeps b0 (row_cell hg 1)
  have f2 : W.cell? ⟨g, 2, none⟩ = some (sl d n) := keeps b0 (row_cell hg 2)
  have f3 : W.cell? ⟨g, 3, none⟩ = some (.int .i64 a) := keeps b0 (row_cell hg 3)
  have f4 : W.cell? ⟨g, 4, none⟩ = some (.int .i64 b) := keeps b0 (row_cell hg 4)
  have f5 : W.cell? ⟨g, 5, none⟩ = some (.int .i64 rate) := keeps b0 (row_cell hg 5)
  have dc := keeps b0 c0
  have xa := keeps b0 x0
  have xb := keeps b0 x1
  have DW := hid (hd.below b0)
  have KW := hid (kn.below b0)
  have b0 := hid b0
  clear hg hd c0 hp hn hpl hl x0 x1 kn l2 hrate e1 e2 e3
  unfold mo pt sl at *
  go_enter Tryd.func86, Tryd.ntmps86
  go_wp2_with fail
  rw [← hW]
  clear hW
  go_region_held3 (fun w' => w'.cell? ⟨g, 0, none⟩ = some (.int .i64 s) ∧ w'.cell? ⟨g, 1, none⟩ = some (.int .i64 1) ∧ w'.cell? ⟨g, 2, none⟩ = some (.slice (some ⟨d, 0, none⟩) n n) ∧ w'.cell? ⟨w.heap.size, 0, none⟩ = some (.int .u32 h) ∧ w'.cell? ⟨w.heap.size, 1, none⟩ = some (.int .u32 c) ∧ w'.cell? ⟨w.heap.size, 2, none⟩ = some (.slice (some ⟨le, 0, none⟩) m m))
    (first | exact ⟨f0, f1, f2, m0, m1, m2⟩ | exact ⟨k0, k1, k2, k3, k4, k5⟩ | go_keep)
    (first
    | (go_at_call 81; go_must ((refine (HA.out _).mono ?_); rintro r w1 ⟨rfl, b1⟩; have k0 := keeps b1 f0; have k1 := keeps b1 f1; have k2 := keeps b1 f2; have k3 := keeps b1 m0; have k4 := keeps b1 m1; have k5 := keeps b1 m2; have k6 := keeps b1 dc; have k7 := keeps b1 f3; have k8 := keeps b1 f4; have k9 := keeps b1 xa; have k10 := keeps b1 xb; have k11 := keeps b1 f5; have b1 := undrew b1; have B1 := hid (show Below W.heap.size W w1 from b1))))
  all_goals
    clear f0 f1 f2 f3 f4 f5 m0 m1 m2 dc xa xb k0 k1 k2 k3 k4
    have K1 := hid (KW.out.below B1.out)
    have D1 := hid (DW.out.below B1.out)
    go_wp2_with fail
    go_region_held3 (fun w' => w'.cell? ⟨w.heap.size, 2, none⟩ = some (.slice (some ⟨le, 0, none⟩) m m) ∧ w'.cell? ⟨g, 3, none⟩ = some (.int .i64 a) ∧ w'.cell? ⟨g, 4, none⟩ = some (.int .i64 b) ∧ w'.cell? ⟨g, 5, none⟩ = some (.int .i64 rate) ∧ w'.cell? ⟨le, a, none⟩ = some (.int .i64 p) ∧ w'.cell? ⟨le, b, none⟩ = some (.int .i64 r))
      (first | exact ⟨k5, k7, k8, k11, k9, k10⟩ | exact ⟨j5, j7, j8, j11, j9, j10⟩ | go_keep)
      (first
      | (go_at_call 87; go_must ((refine (HM.out _ K1.out.drew').mono ?_); rintro r w2 ⟨rfl, b2⟩; have j5 := keeps b2 k5; have j7 := keeps b2 k7; have j8 := keeps b2 k8; have j11 := keeps b2 k11; have j9 := keeps b2 k9; have j10 := keeps b2 k10; have j6 := keeps b2 k6; have b2 := undrew b2; have B2 := hid (show Below w1.heap.size w1 w2 from b2))))
    all_goals
      have D2 := hid (D1.out.below B2.out)
      have ff := D2.out.free pl
      have X3 := hid (fun x => ((But.refl (· = d) w2).set ⟨d, pl, none⟩ (.int .i64 x) (.inl rfl)))
      clear k5 k6 k7 k8 k9 k10 k11 j5 j7 j8 j9 j10 j11
      go_wp2_with fail
      all_goals
        refine bodyPost_end (results_none rfl _ _ _) rfl ⟨rfl, ?_, ?_⟩
        · refine (HD.out _ D2.out _).same (fun k _ => ?_)
          refine congrArg (fun v => intsF (weight.set pl v) k) ?_
          unfold into
          repeat' split
          all_goals omega
        · exact (But.of_below (bel3 b0.out B1.out B2.out)).trans (X3.out _)
end Go.Proofs.YtkfdbibgjoaefaaDoor
