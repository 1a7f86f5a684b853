/-
  Merged: Iss.
-/
import Derived.Test.YtkfdbibgjoaefaaGreatDoorMg29
/-
  A PIsse leans.
-/
namespace Go.Proofs.YtkfdbibgjoaefaaGreatDoor
open Go.RowKit

theorem bel_al {w w' : World} {o : Obj} (h : Below (w.alloc o).heap.size (w.alloc o) w') : Below w.heap.size w w' := ((Below.refl _ _).alloc (Nat.le_refl _) o).trans (h.mono (by simp))
theorem isF_w (size a : Int) (d n : Nat) (we : List Int) (st : Nat) (hs : st ≤ 255) : isF size a d n we (3 + st * 2) = .int .i64 (we.getD (2 * st) 0) ∧ isF size a d n we (3 + st * 2 + 1) = .int .i64 (we.getD (2 * st + 1) 0) ∧ isF size a d n we 515 = .int .i64 a := by
  refine ⟨?_, ?_, ?_⟩
  · unfold isF; rw [if_neg (by omega), if_neg (by omega), if_neg (by omega), if_neg (by omega), show 3 + st * 2 - 3 = 2 * st from by omega]
  · unfold isF; rw [if_neg (by omega), if_neg (by omega), if_neg (by omega), if_neg (by omega), show 3 + st * 2 + 1 - 3 = 2 * st + 1 from by omega]
  · rfl
set_option maxRecDepth 10000 in
set_option maxHeartbeats 1000000 in
theorem w_isse_lean (g d h c le m a : Nat) (size : Int) (weight L : List Int) (state : List Nat) (w : World) (hh : h < 4294967296) (hc : c < 256) (s0 : 0 ≤ size) (s1 : size ≤ 16) (ha : a < m) (hm : m ≤ 16) (la : Lean1 (L.getD a 0)) (hl : Ro w le 3 m (intsF L))
    (hg : Ro w g 144 516 (isF size a d (pw size) weight)) (hd : Ro w d 5 (pw size) (bytesF state)) (hs : state.getD (placeN h c size) 0 ≤ 255)
    (hr : ∀ i, -1048576 ≤ weight.getD i 0 ∧ weight.getD i 0 ≤ 1048576) :
    Calls Tryz.prog 123 #[pt g, mo h c le m] w fun e w' => e = .returned (.int .i64 (into ((weight.getD (2 * state.getD (placeN h c size) 0) 0 * L.getD a 0 + weight.getD (2 * state.getD (placeN h c size) 0 + 1) 0 * 64) / 65536) (-2047) 2047)) ∧ Below w.heap.size w w' := by
  obtain ⟨s, rfl, s16, hp⟩ := pw_nat size s0 s1
  have hpl := placeN_lt h c s s0 (by omega)
  have ha2 : placeN h c s < pw s := hpl
  rw [hp] at hg hd ha2
  have HA : Hid (∀ w', Calls Tryz.prog 106 #[.agg #[.int .i64 s, .int .i64 1, .slice (some ⟨d, 0, none⟩) (2 ^ s) (2 ^ s)], .agg #[.int .u32 h, .int .u32 c, .slice (some ⟨le, 0, none⟩) m m]] w' fun e w'' =>
      e = .returned (.slice (some ⟨d, placeN h c s * 1, none⟩) 1 (2 ^ s - placeN h c s * 1)) ∧ Below w'.heap.size w' w'') := hid (fun w' => at_b d h c s 1 (2 ^ s) m m (some ⟨le, 0, none⟩) w' hh hc s16 (by omega) (by omega))
  rw [Nat.mul_one] at HA
  have c0 := hd.cell (placeN h c s) (by omega)
  have x0 := hl.cell a ha
  unfold bytesF at c0
  unfold intsF at x0
  generalize placeN h c s = pl at *
  obtain ⟨n, hn⟩ : ∃ n, 2 ^ s = n := ⟨_, rfl⟩
  rw [hn] at HA hg hd ha2
  generalize n - pl = q at HA
  generalize state.getD pl 0 = st at *
  obtain ⟨e0, e1, e2⟩ := isF_w s a d n weight st hs
  have y0 := hg.cell (3 + st * 2) (by omega)
  have y1 := hg.cell (3 + st * 2 + 1) (by omega)
  have y2 := hg.cell 515 (by omega)
  rw [e0] at y0
  rw [e1] at y1
  rw [e2] at y2
  have r0 := hr (2 * st)
  have r1 := hr (2 * st + 1)
  have z1 : (st : Int) < 256 := by omega
  generalize weight.getD (2 * st) 0 = wt at *
  generalize weight.getD (2 * st + 1) 0 = wu at *
  obtain ⟨la1, la2⟩ := la
  generalize L.getD a 0 = p at *
  have b1 := mul_bd wt p 1048576 2047 (by omega) (by omega)
  obtain ⟨P, e3⟩ : ∃ P, wt * p = P := ⟨_, rfl⟩
  rw [e3] at b1
  rw [e3]
  obtain ⟨p1, p2⟩ := b1
  have v1 : IntKind.i64.wrap (wt * p) = P := by rw [e3]; exact IntWalk.i64_in _ (by omega)
  have v2 : IntKind.i64.wrap (wu * 64) = wu * 64 := IntWalk.i64_in _ (by omega)
  have v3 : IntKind.i64.wrap (P + wu * 64) = P + wu * 64 := IntWalk.i64_in _ (by omega)
  have HI := hid (fun w' => within_any' ((P + wu * 64) / 65536) 2047 w' (by omega))
  generalize into ((P + wu * 64) / 65536) (-2047) 2047 = r2 at HI ⊢
  have z0 : (a : Int) < (m : Int) := by omega
  have z2 : (m : Int) ≤ 16 := by omega
  obtain ⟨W, hW⟩ : ∃ W, W = w.alloc (.cells #[.int .u32 h, .int .u32 c, sl le m] 72) := ⟨_, rfl⟩
  have b0 : Below w.heap.size w W := by rw [hW]; exact (Below.refl _ _).alloc (Nat.le_refl _) _
  have m0 : W.cell? ⟨w.heap.size, 0, none⟩ = some (.int .u32 h) := by rw [hW]; go_simp
  have m1 : W.cell? ⟨w.heap.size, 1, none⟩ = some (.int .u32 c) := by rw [hW]; go_simp
  have m2 : W.cell? ⟨w.heap.size, 2, none⟩ = some (sl le m) := by rw [hW]; go_simp
  have f0 : W.cell? ⟨g, 0, none⟩ = some (.int .i64 s) := keeps b0 (hg.cell 0 (by omega))
  have f1 : W.cell? ⟨g, 1, none⟩ = some (.int .i64 1) := keeps b0 (hg.cell 1 (by omega))
  have f2 : W.cell? ⟨g, 2, none⟩ = some (sl d n) := keeps b0 (hg.cell 2 (by omega))
  have f3 := keeps b0 c0
  have f4 := keeps b0 y0
  have f5 := keeps b0 y1
  have f6 := keeps b0 y2
  have f7 := keeps b0 x0
  have hws : W.heap.size = w.heap.size + 1 := by rw [hW]; simp
  have i1 : ¬ g = W.heap.size := by have := hg.lt; omega
  have i2 : ¬ d = W.heap.size := by have := hd.lt; omega
  have i3 : ¬ w.heap.size = W.heap.size := by omega
  have i4 : ¬ le = W.heap.size := by have := hl.lt; omega
  have j1 : ¬ W.heap.size = g := Ne.symm i1
  have j2 : ¬ W.heap.size = d := Ne.symm i2
  have j3 : ¬ W.heap.size = w.heap.size := Ne.symm i3
  have j4 : ¬ W.heap.size = le := Ne.symm i4
  have b0 := hid b0
  clear hg hd c0 hp hn hpl ha2 hl x0 y0 y1 y2 e0 e1 e2 e3 hs hr r0 r1 hws
  unfold mo pt sl at *
  have nn : ∀ {A : Addr} {v : Value} (o : Obj), W.cell? A = some v → (W.alloc o).cell? A = some v := fun o h => keeps ((Below.refl W.heap.size W).alloc (Nat.le_refl _) o) h
  have n0 := fun o => nn o f0
  have n1 := fun o => nn o f1
  have n2 := fun o => nn o f2
  have n3 := fun o => nn o f3
  have n4 := fun o => nn o f4
  have n5 := fun o => nn o f5
  have n6 := fun o => nn o f6
  have n7 := fun o => nn o f7
  have t0 := fun o => nn o m0
  have t1 := fun o => nn o m1
  have t2 := fun o => nn o m2
  clear nn
  go_enter Tryz.func123, Tryz.ntmps123
  go_wp2_with fail
  rw [← hW]
  clear hW
  go_region_held3 (fun w' => w'.cell? ⟨g, 0, none⟩ = some (.int .i64 s) ∧ w'.cell? ⟨g, 1, none⟩ = some (.int .i64 1) ∧ w'.cell? ⟨g, 2, none⟩ = some (.slice (some ⟨d, 0, none⟩) n n) ∧ w'.cell? ⟨w.heap.size, 0, none⟩ = some (.int .u32 h) ∧ w'.cell? ⟨w.heap.size, 1, none⟩ = some (.int .u32 c) ∧ w'.cell? ⟨w.heap.size, 2, none⟩ = some (.slice (some ⟨le, 0, none⟩) m m) ∧ w'.cell? ⟨d, pl, none⟩ = some (.int .u8 st) ∧ w'.cell? ⟨g, 3 + st * 2, none⟩ = some (.int .i64 wt) ∧ w'.cell? ⟨g, 3 + st * 2 + 1, none⟩ = some (.int .i64 wu))
    (first | exact ⟨f0, f1, f2, m0, m1, m2, f3, f4, f5⟩ | exact ⟨n0 _, n1 _, n2 _, t0 _, t1 _, t2 _, n3 _, n4 _, n5 _⟩ | exact ⟨k0, k1, k2, k3, k4, k5, k6, k7, k8⟩ | go_keep)
    (first
    | (go_at_call 106; go_must ((refine (HA.out _).mono ?_); rintro r w1 ⟨rfl, b1⟩; have k0 : w1.cell? ⟨g, 0, none⟩ = some (.int .i64 s) := (by first | exact keeps b1 f0 | exact keeps b1 (n0 _)); have k1 : w1.cell? ⟨g, 1, none⟩ = some (.int .i64 1) := (by first | exact keeps b1 f1 | exact keeps b1 (n1 _)); have k2 : w1.cell? ⟨g, 2, none⟩ = some (.slice (some ⟨d, 0, none⟩) n n) := (by first | exact keeps b1 f2 | exact keeps b1 (n2 _)); have k3 : w1.cell? ⟨w.heap.size, 0, none⟩ = some (.int .u32 h) := (by first | exact keeps b1 m0 | exact keeps b1 (t0 _)); have k4 : w1.cell? ⟨w.heap.size, 1, none⟩ = some (.int .u32 c) := (by first | exact keeps b1 m1 | exact keeps b1 (t1 _)); have k5 : w1.cell? ⟨w.heap.size, 2, none⟩ = some (.slice (some ⟨le, 0, none⟩) m m) := (by first | exact keeps b1 m2 | exact keeps b1 (t2 _)); have k6 : w1.cell? ⟨d, pl, none⟩ = some (.int .u8 st) := (by first | exact keeps b1 f3 | exact keeps b1 (n3 _)); have k7 : w1.cell? ⟨g, 3 + st * 2, none⟩ = some (.int .i64 wt) := (by first | exact keeps b1 f4 | exact keeps b1 (n4 _)); have k8 : w1.cell? ⟨g, 3 + st * 2 + 1, none⟩ = some (.int .i64 wu) := (by first | exact keeps b1 f5 | exact keeps b1 (n5 _)); have k9 : w1.cell? ⟨g, 515, none⟩ = some (.int .i64 a) := (by first | exact keeps b1 f6 | exact keeps b1 (n6 _)); have k10 : w1.cell? ⟨le, a, none⟩ = some (.int .i64 p) := (by first | exact keeps b1 f7 | exact keeps b1 (n7 _)); have b1' : Below W.heap.size W w1 := (by first | exact undrew b1 | exact bel_al (undrew b1)); have B1 := hid b1'; try (have row : w1.heap[W.heap.size]? = some (.cells #[.int .i64 0, .int .i64 0] 141 (0, 0)) := ((b1.block W.heap.size (by simp)).trans (heap_alloc_new W _)); have y0 : w1.cell? ⟨W.heap.size, 0, none⟩ = some (.int .i64 0) := row_cell row 0; have y1 : w1.cell? ⟨W.heap.size, 1, none⟩ = some (.int .i64 0) := row_cell row 1; have y2 := row_free row 0; have y3 := row_free row 1))))
  · obtain ⟨W2, hW2⟩ : ∃ W2, W2 = w1.alloc (Obj.cells #[Value.int IntKind.i64 wt, Value.int IntKind.i64 wu] 141) := ⟨_, rfl⟩
    have x2 : Below w1.heap.size w1 W2 := by rw [hW2]; exact (Below.refl _ _).alloc (Nat.le_refl _) _
    have u0 : W2.cell? ⟨w1.heap.size, 0, none⟩ = some (.int .i64 wt) := by rw [hW2]; go_simp
    have u1 : W2.cell? ⟨w1.heap.size, 1, none⟩ = some (.int .i64 wu) := by rw [hW2]; go_simp
    have u2 := keeps x2 k5
    have u3 := keeps x2 k9
    have u4 := keeps x2 k10
    have X2 := hid x2
    clear x2
    clear f0 f1 f2 f3 f4 f5 f6 f7 m0 m1 m2 n0 n1 n2 n3 n4 n5 n6 n7 t0 t1 t2 k0 k1 k2 k3 k4 k5 k6 k7 k8 k9 k10 HA
    go_wp2_with fail
    rw [← hW2]
    clear hW2
    go_region_held3 (fun w' => w'.cell? ⟨w1.heap.size, 0, none⟩ = some (.int .i64 wt) ∧ w'.cell? ⟨w1.heap.size, 1, none⟩ = some (.int .i64 wu) ∧ w'.cell? ⟨w.heap.size, 2, none⟩ = some (.slice (some ⟨le, 0, none⟩) m m) ∧ w'.cell? ⟨g, 515, none⟩ = some (.int .i64 a) ∧ w'.cell? ⟨le, a, none⟩ = some (.int .i64 p))
      (first | exact ⟨u0, u1, u2, u3, u4⟩ | go_keep)
      (first
      | (go_at_call 122; go_must ((refine (HI.out _).mono ?_); rintro r w3 ⟨rfl, rfl⟩)))
    all_goals
      go_wp2_with fail
      go_ret
      exact ⟨rfl, (bel3 b0.out B1.out X2.out).drew⟩
  · obtain ⟨W2, hW2⟩ : ∃ W2, W2 = (w1.setCell ⟨W.heap.size, 0, none⟩ (.int .i64 wt)).setCell ⟨W.heap.size, 1, none⟩ (.int .i64 wu) := ⟨_, rfl⟩
    have x2 : But (· = W.heap.size) w1 W2 := by rw [hW2]; exact ((But.refl (· = W.heap.size) w1).set ⟨W.heap.size, 0, none⟩ _ (.inl rfl)).set ⟨W.heap.size, 1, none⟩ _ (.inl rfl)
    have u0 : W2.cell? ⟨W.heap.size, 0, none⟩ = some (.int .i64 wt) := by rw [hW2]; go_simp
    have u1 : W2.cell? ⟨W.heap.size, 1, none⟩ = some (.int .i64 wu) := by rw [hW2]; go_simp
    have u2 := x2.cell k5 i3
    have u3 := x2.cell k9 i1
    have u4 := x2.cell k10 i4
    have X2 := hid x2
    clear x2 y0 y1 y2 y3 row
    clear f0 f1 f2 f3 f4 f5 f6 f7 m0 m1 m2 n0 n1 n2 n3 n4 n5 n6 n7 t0 t1 t2 k0 k1 k2 k3 k4 k5 k6 k7 k8 k9 k10 HA
    go_wp2_with fail
    rw [← hW2]
    clear hW2
    go_region_held3 (fun w' => w'.cell? ⟨W.heap.size, 0, none⟩ = some (.int .i64 wt) ∧ w'.cell? ⟨W.heap.size, 1, none⟩ = some (.int .i64 wu) ∧ w'.cell? ⟨w.heap.size, 2, none⟩ = some (.slice (some ⟨le, 0, none⟩) m m) ∧ w'.cell? ⟨g, 515, none⟩ = some (.int .i64 a) ∧ w'.cell? ⟨le, a, none⟩ = some (.int .i64 p))
      (first | exact ⟨u0, u1, u2, u3, u4⟩ | go_keep)
      (first
      | (go_at_call 122; go_must ((refine (HI.out _).mono ?_); rintro r w3 ⟨rfl, rfl⟩)))
    all_goals
      go_wp2_with fail
      go_ret
      exact ⟨rfl, ((bel2 b0.out B1.out).trans (X2.out.below (fun k e => by rw [e]; exact b0.out.size) (bel2 b0.out B1.out).size)).drew⟩
end Go.Proofs.YtkfdbibgjoaefaaGreatDoor
