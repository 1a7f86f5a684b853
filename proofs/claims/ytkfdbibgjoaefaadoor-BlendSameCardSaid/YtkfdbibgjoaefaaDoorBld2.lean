/-
  build: a PAvg, PMix2, PMix, PSse as they begin.
-/
import Derived.Test.YtkfdbibgjoaefaaDoorBk
import Derived.Test.YtkfdbibgjoaefaaDoorSse
namespace Go.Proofs.YtkfdbibgjoaefaaDoor
open Go.RowKit

set_option maxRecDepth 10000 in
set_option maxHeartbeats 1000000 in
theorem build_avg (s a b c r m : Int) (w : World) : Calls Tryd.prog 26 #[vP 5 s a b c r m] w fun e w' => e = .returned (.iface 97 (.agg #[.int .i64 a, .int .i64 b, .int .i64 c])) ∧ Below w.heap.size w w' := by
  unfold vP
  go_enter Tryd.func26, Tryd.ntmps26
  go_wp2_with fail
  go_ret
  exact ⟨rfl, (Below.refl _ _).alloc (Nat.le_refl _) _⟩
theorem bel_alo {w w' : World} {o : Obj} (h : Below (w.alloc o).heap.size (w.alloc o) w') : Below w.heap.size w w' := ((Below.refl _ _).alloc (Nat.le_refl _) o).trans (h.mono (by simp))
theorem lay_same (s wide : Nat) (x : Int) (hs : s ≤ 16) (hw : 1 ≤ wide ∧ wide ≤ 32) (g : Nat) (w' : World) (h : w'.cell? ⟨g, 0, none⟩ = some (.int .i64 x)) : Calls Tryd.prog 34 #[.int .i64 s, .int .i64 wide, .func (.func 43) #[] #[.pointer (some ⟨g, 0, none⟩)]] w' fun e w'' => ∃ d, e = .returned (.agg #[.int .i64 s, .int .i64 wide, .slice (some ⟨d, 0, none⟩) (wide * 2 ^ s) (wide * 2 ^ s)]) ∧ w'.heap.size ≤ d ∧
      Ro w'' d 3 (wide * 2 ^ s) (fun _ => .int .i64 x) ∧ Below w'.heap.size w' w'' :=
  lay_i s wide 43 (pt g) (fun _ => x) hs hw w' (enters_of Tryd.func43 (by kernel_rfl) rfl) (fun j _ w2 b2 => same_i1 g j x w2 (keeps b2 h))
set_option maxRecDepth 10000 in
set_option maxHeartbeats 1000000 in
theorem build_mix2 (s : Nat) (a b c r m : Int) (w : World) (hs : s ≤ 16) : Calls Tryd.prog 26 #[vP 6 s a b c r m] w fun e w' => ∃ g d, e = .returned (.iface 98 (pt g)) ∧ w.heap.size ≤ g ∧ w.heap.size ≤ d ∧ g ≠ d ∧
    w'.heap[g]? = some (.cells #[.int .i64 (s : Nat), .int .i64 1, sl d (1 * 2 ^ s), .int .i64 a, .int .i64 b, .int .i64 r] 100 (0, 0)) ∧ Ro w' d 3 (1 * 2 ^ s) (fun _ => .int .i64 32768) ∧ Below w.heap.size w w' := by
  have HL := hid (fun g w' h => lay_same s 1 32768 hs (by omega) g w' h)
  have HS := hid (fun w' => same_i 32768 w')
  generalize 1 * 2 ^ s = n at *
  have hs1 : (s : Int) ≤ 16 := by omega
  obtain ⟨W, hW⟩ : ∃ W, W = w.alloc (.cells #[.int .u8 6, .int .i64 s, .int .i64 a, .int .i64 b, .int .i64 c, .int .i64 r, .int .i64 m] 48) := ⟨_, rfl⟩
  have b0 : Below w.heap.size w W := by rw [hW]; exact (Below.refl _ _).alloc (Nat.le_refl _) _
  have m1 : W.cell? ⟨w.heap.size, 1, none⟩ = some (.int .i64 s) := by rw [hW]; go_simp
  have m2 : W.cell? ⟨w.heap.size, 2, none⟩ = some (.int .i64 a) := by rw [hW]; go_simp
  have m3 : W.cell? ⟨w.heap.size, 3, none⟩ = some (.int .i64 b) := by rw [hW]; go_simp
  have m5 : W.cell? ⟨w.heap.size, 5, none⟩ = some (.int .i64 r) := by rw [hW]; go_simp
  have m0 : W.cell? ⟨w.heap.size, 0, none⟩ = some (.int .u8 6) := by rw [hW]; go_simp
  have B0 := hid b0
  clear b0
  unfold vP
  unfold pt sl at *
  go_enter Tryd.func26, Tryd.ntmps26
  go_wp2_with (rw [← hW])
  clear hW
  go_region_held3 (fun w' => w'.cell? ⟨w.heap.size, 1, none⟩ = some (.int .i64 s) ∧ w'.cell? ⟨w.heap.size, 2, none⟩ = some (.int .i64 a) ∧ w'.cell? ⟨w.heap.size, 3, none⟩ = some (.int .i64 b) ∧ w'.cell? ⟨w.heap.size, 5, none⟩ = some (.int .i64 r))
    (first | exact ⟨m1, m2, m3, m5⟩ | exact ⟨j1, j2, j3, j5⟩ | exact ⟨k1, k2, k3, k5⟩ | go_keep)
    (first
    | (go_at_call 35; go_must ((refine (HS.out _).mono ?_); rintro r w1 ⟨rfl, c1, l1, b1⟩; have k1 := keeps b1 m1; have k2 := keeps b1 m2; have k3 := keeps b1 m3; have k5 := keeps b1 m5; have B1 := hid (show Below W.heap.size W w1 from undrew b1)))
    | (go_at_call 34; go_must ((refine (HL.out _ _ c1).mono ?_); rintro r w2 ⟨d, rfl, d1, R1, b2⟩; have j1 := keeps b2 k1; have j2 := keeps b2 k2; have j3 := keeps b2 k3; have j5 := keeps b2 k5; have B2 := hid b2; have R1 := hid R1; have d1 := hid d1)))
  all_goals
    have q1 := B0.out.size
    have q2 := B1.out.size
    have q3 := B2.out.size
    go_wp2_with fail
    go_ret
    exact ⟨w2.heap.size, d, rfl, by omega, by have := d1.out; omega, Ne.symm (Nat.ne_of_lt R1.out.lt), heap_alloc_new w2 _, R1.out.below ((Below.refl _ _).alloc (Nat.le_refl _) _), (bel3 B0.out B1.out B2.out).alloc (by omega) _⟩
set_option maxRecDepth 10000 in
set_option maxHeartbeats 1000000 in
theorem build_mix (s : Nat) (a c r m : Int) (b : Nat) (w : World) (hs : s ≤ 16) (hb : 1 ≤ b ∧ b ≤ 8) : Calls Tryd.prog 26 #[vP 7 s a b c r m] w fun e w' => ∃ g d, e = .returned (.iface 101 (pt g)) ∧ w.heap.size ≤ g ∧ w.heap.size ≤ d ∧ g ≠ d ∧
    w'.heap[g]? = some (.cells #[.int .i64 (s : Nat), .int .i64 b, sl d (b * 2 ^ s), .int .i64 a, .int .i64 r] 103 (0, 0)) ∧ Ro w' d 3 (b * 2 ^ s) (fun _ => .int .i64 (65536 / (b : Int))) ∧ Below w.heap.size w w' := by
  have HL := hid (fun g w' h => lay_same s b (65536 / (b : Int)) hs (by omega) g w' h)
  have HS := hid (fun w' => same_i (65536 / (b : Int)) w')
  have y1 : ¬ (b : Int) = 0 := by omega
  have y2 : ¬ b = 0 := by omega
  have y3 : Int.tdiv 65536 (b : Int) = 65536 / (b : Int) := Int.tdiv_eq_ediv_of_nonneg (by omega)
  have y5 : (0 : Int) ≤ 65536 / (b : Int) := Int.ediv_nonneg (by omega) (by omega)
  have y6 : 65536 / (b : Int) ≤ 65536 := Int.ediv_le_self _ (by omega)
  have y4 : IntKind.i64.wrap (Int.tdiv 65536 (b : Int)) = 65536 / (b : Int) := by rw [y3]; exact IntWalk.i64_in _ (by omega)
  have y7 : IntKind.i64.wrap (65536 / (b : Int)) = 65536 / (b : Int) := IntWalk.i64_in _ (by omega)
  have y8 : (b : Int) ≤ 8 := by omega
  generalize 65536 / (b : Int) = x at *
  generalize b * 2 ^ s = n at *
  have hs1 : (s : Int) ≤ 16 := by omega
  obtain ⟨W, hW⟩ : ∃ W, W = w.alloc (.cells #[.int .u8 7, .int .i64 s, .int .i64 a, .int .i64 b, .int .i64 c, .int .i64 r, .int .i64 m] 48) := ⟨_, rfl⟩
  have b0 : Below w.heap.size w W := by rw [hW]; exact (Below.refl _ _).alloc (Nat.le_refl _) _
  have m1 : W.cell? ⟨w.heap.size, 1, none⟩ = some (.int .i64 s) := by rw [hW]; go_simp
  have m2 : W.cell? ⟨w.heap.size, 2, none⟩ = some (.int .i64 a) := by rw [hW]; go_simp
  have m3 : W.cell? ⟨w.heap.size, 3, none⟩ = some (.int .i64 b) := by rw [hW]; go_simp
  have m5 : W.cell? ⟨w.heap.size, 5, none⟩ = some (.int .i64 r) := by rw [hW]; go_simp
  have m0 : W.cell? ⟨w.heap.size, 0, none⟩ = some (.int .u8 7) := by rw [hW]; go_simp
  have B0 := hid b0
  clear b0
  unfold vP
  unfold pt sl at *
  go_enter Tryd.func26, Tryd.ntmps26
  go_wp2_with (rw [← hW])
  clear hW
  go_region_held3 (fun w' => w'.cell? ⟨w.heap.size, 1, none⟩ = some (.int .i64 s) ∧ w'.cell? ⟨w.heap.size, 2, none⟩ = some (.int .i64 a) ∧ w'.cell? ⟨w.heap.size, 3, none⟩ = some (.int .i64 b) ∧ w'.cell? ⟨w.heap.size, 5, none⟩ = some (.int .i64 r))
    (first | exact ⟨m1, m2, m3, m5⟩ | exact ⟨j1, j2, j3, j5⟩ | exact ⟨k1, k2, k3, k5⟩ | go_keep)
    (first
    | (go_at_call 35; go_must ((refine (HS.out _).mono ?_); rintro r w1 ⟨rfl, c1, l1, b1⟩; have k1 := keeps b1 m1; have k2 := keeps b1 m2; have k3 := keeps b1 m3; have k5 := keeps b1 m5; have B1 := hid (show Below W.heap.size W w1 from undrew b1)))
    | (go_at_call 34; go_must ((refine (HL.out _ _ c1).mono ?_); rintro r w2 ⟨d, rfl, d1, R1, b2⟩; have j1 := keeps b2 k1; have j2 := keeps b2 k2; have j3 := keeps b2 k3; have j5 := keeps b2 k5; have B2 := hid b2; have R1 := hid R1; have d1 := hid d1)))
  all_goals
    have q1 := B0.out.size
    have q2 := B1.out.size
    have q3 := B2.out.size
    go_wp2_with fail
    go_ret
    exact ⟨w2.heap.size, d, rfl, by omega, by have := d1.out; omega, Ne.symm (Nat.ne_of_lt R1.out.lt), heap_alloc_new w2 _, R1.out.below ((Below.refl _ _).alloc (Nat.le_refl _) _), (bel3 B0.out B1.out B2.out).alloc (by omega) _⟩
set_option maxRecDepth 10000 in
set_option maxHeartbeats 1000000 in
theorem spread_any (j : Nat) (hj : j < 32) (w : World) (kn : KnIs w) : Calls Tryd.prog 37 #[.int .i64 (j : Nat)] w fun e w' => e = .returned (.agg #[.int .i32 (sq ((j : Nat) * 132 - 2047) * 1024), .int .i32 0]) ∧ Below w.heap.size w w' := by
  obtain ⟨x, hx⟩ : ∃ x : Int, (j : Int) * 132 - 2047 = x := ⟨_, rfl⟩
  have HQ := hid (fun w' k => squash_below x w' k (by omega) (by omega))
  have hs := sq_range x
  have e1 : IntKind.i64.wrap ((j : Int) * 132) = (j : Int) * 132 := IntWalk.i64_in _ (by omega)
  have e2 : IntKind.i64.wrap ((j : Int) * 132 - 2047) = x := by rw [hx]; exact IntWalk.i64_in _ (by omega)
  rw [hx]
  generalize sq x = q at *
  have e3 : IntKind.i64.wrap (q * 1024) = q * 1024 := IntWalk.i64_in _ (by omega)
  have e4 : IntKind.i32.wrap (q * 1024) = q * 1024 := IntWalk.i32_in _ (by omega)
  have z1 : (j : Int) < 32 := by omega
  have K0 : ∀ o, KnIs (w.alloc o) := fun o => kn.below ((Below.refl _ _).alloc (Nat.le_refl _) o)
  have HK := hid K0
  clear hx K0 hj
  go_enter Tryd.func37, Tryd.ntmps37
  go_wp2_with fail
  refine (HQ.out _ (HK.out _)).mono ?_
  rintro e w2 ⟨rfl, b2⟩
  have row : w2.heap[w.heap.size]? = some (.cells #[.int .i32 0, .int .i32 0] 82 (0, 0)) := (b2.block w.heap.size (by simp)).trans (heap_alloc_new w _)
  have r0 : w2.cell? ⟨w.heap.size, 0, none⟩ = some (.int .i32 0) := row_cell row 0
  have r1 : w2.cell? ⟨w.heap.size, 1, none⟩ = some (.int .i32 0) := row_cell row 1
  have f0 : w2.frozen? ⟨w.heap.size, 0, none⟩ = false := row_free row 0
  have f1 : w2.frozen? ⟨w.heap.size, 1, none⟩ = false := row_free row 1
  have x3 := ((But.refl (· = w.heap.size) w2).set ⟨w.heap.size, 0, none⟩ (.int .i32 (q * 1024)) (.inl rfl)).set ⟨w.heap.size, 1, none⟩ (.int .i32 0) (.inl rfl)
  have X3 := hid x3
  have B2 := hid (bel_alo b2)
  have HRow := hid row
  clear x3 row b2
  go_wp2_with fail
  refine bodyPost_ret (results_cell_row (by kernel_rfl : Tryd.f37.results = #[.cell 2 82]) _ _ w.heap.size 82 #[.int .i32 (q * 1024), .int .i32 0] (0, 0) _ rfl (row_set (row_set HRow.out 0 _) 1 _) Tryd.underlying82 rfl rfl) rfl ⟨rfl, ?_⟩
  exact B2.out.trans (X3.out.below (fun k e => by rw [e]; exact Nat.le_refl _) B2.out.size)
set_option maxRecDepth 10000 in
set_option maxHeartbeats 1000000 in
theorem build_sse (s : Nat) (a b c r m : Int) (w : World) (hs : s ≤ 16) (kn : KnIs w) : Calls Tryd.prog 26 #[vP 9 s a b c r m] w fun e w' => ∃ g d, e = .returned (.iface 106 (pt g)) ∧ w.heap.size ≤ g ∧ w.heap.size ≤ d ∧ g ≠ d ∧
    w'.heap[g]? = some (.cells #[.int .i64 (s : Nat), .int .i64 32, sl d (32 * 2 ^ s), .int .i64 a, .int .i64 m] 108 (0, 0)) ∧ Ro w' d 82 (2 * (32 * 2 ^ s)) (fun k => if k % 2 = 0 then .int .i32 (sq (((k / 2 % 32 : Nat) : Int) * 132 - 2047) * 1024) else .int .i32 0) ∧ Below w.heap.size w w' := by
  have HL : Hid (∀ w', KnIs w' → Calls Tryd.prog 31 #[.int .i64 s, .int .i64 32, .func (.func 37) #[] #[]] w' fun e w'' => ∃ d, e = .returned (.agg #[.int .i64 s, .int .i64 32, .slice (some ⟨d, 0, none⟩) (32 * 2 ^ s) (32 * 2 ^ s)]) ∧ w'.heap.size ≤ d ∧
      Ro w'' d 82 (2 * (32 * 2 ^ s)) (fun k => if k % 2 = 0 then .int .i32 (sq (((k / 2 % 32 : Nat) : Int) * 132 - 2047) * 1024) else .int .i32 0) ∧ Below w'.heap.size w' w'') := hid fun w' k =>
    lay_o s 32 37 (fun j => sq ((j : Nat) * 132 - 2047) * 1024) hs (by omega) w' (enters_of Tryd.func37 (by kernel_rfl) rfl) (fun j hj w2 b2 => spread_any j hj w2 (k.below b2))
  generalize 32 * 2 ^ s = n at *
  generalize (fun k => if k % 2 = 0 then Value.int .i32 (sq (((k / 2 % 32 : Nat) : Int) * 132 - 2047) * 1024) else .int .i32 0) = F at *
  have hs1 : (s : Int) ≤ 16 := by omega
  obtain ⟨W, hW⟩ : ∃ W, W = w.alloc (.cells #[.int .u8 9, .int .i64 s, .int .i64 a, .int .i64 b, .int .i64 c, .int .i64 r, .int .i64 m] 48) := ⟨_, rfl⟩
  have b0 : Below w.heap.size w W := by rw [hW]; exact (Below.refl _ _).alloc (Nat.le_refl _) _
  have m1 : W.cell? ⟨w.heap.size, 1, none⟩ = some (.int .i64 s) := by rw [hW]; go_simp
  have m2 : W.cell? ⟨w.heap.size, 2, none⟩ = some (.int .i64 a) := by rw [hW]; go_simp
  have m6 : W.cell? ⟨w.heap.size, 6, none⟩ = some (.int .i64 m) := by rw [hW]; go_simp
  have m0 : W.cell? ⟨w.heap.size, 0, none⟩ = some (.int .u8 9) := by rw [hW]; go_simp
  have B0 := hid b0
  have KW := hid (kn.below b0)
  clear b0 kn
  unfold vP
  unfold pt sl at *
  go_enter Tryd.func26, Tryd.ntmps26
  go_wp2_with (rw [← hW])
  clear hW
  go_region_held3 (fun w' => w'.cell? ⟨w.heap.size, 1, none⟩ = some (.int .i64 s) ∧ w'.cell? ⟨w.heap.size, 2, none⟩ = some (.int .i64 a) ∧ w'.cell? ⟨w.heap.size, 6, none⟩ = some (.int .i64 m))
    (first | exact ⟨m1, m2, m6⟩ | exact ⟨k1, k2, k6⟩ | go_keep)
    (first
    | (go_at_call 31; go_must ((refine (HL.out _ KW.out.drew').mono ?_); rintro r w1 ⟨d, rfl, d1, R1, b1⟩; have k1 := keeps b1 m1; have k2 := keeps b1 m2; have k6 := keeps b1 m6; have B1 := hid (show Below W.heap.size W w1 from undrew b1); have R1 := hid R1; have d1 := hid (show W.heap.size ≤ d from d1))))
  all_goals
    have q1 := B0.out.size
    have q2 := B1.out.size
    go_wp2_with fail
    go_ret
    exact ⟨w1.heap.size, d, rfl, by omega, by have := d1.out; omega, Ne.symm (Nat.ne_of_lt R1.out.lt), heap_alloc_new w1 _, R1.out.below ((Below.refl _ _).alloc (Nat.le_refl _) _), (bel2 B0.out B1.out).alloc (by omega) _⟩
end Go.Proofs.YtkfdbibgjoaefaaDoor
