/-
  build: a PMatch as it begins.
-/
import Derived.Test.YtkfdbibgjoaefaaDoorBld2
namespace Go.Proofs.YtkfdbibgjoaefaaDoor
open Go.RowKit

set_option maxRecDepth 10000 in
set_option maxHeartbeats 1000000 in
theorem build_mch (s : Nat) (a b c r m : Int) (w : World) (hs : s ≤ 16) : Calls Tryd.prog 26 #[vP 4 s a b c r m] w fun e w' => ∃ g dr ds, e = .returned (.iface 88 (pt g)) ∧ w.heap.size ≤ g ∧ w.heap.size ≤ dr ∧ w.heap.size ≤ ds ∧ g ≠ dr ∧ g ≠ ds ∧ dr ≠ ds ∧
    Ro w' g 95 7 (maF s dr (2 ^ s) ds 0 0 0) ∧ Ro w' dr 5 (2 ^ s) (fun _ => .int .u8 0) ∧ Ro w' ds 3 (2 ^ s) (fun _ => .int .i64 0) ∧ Below w.heap.size w w' := by
  have HL : Hid (∀ bk w', w'.cell? ⟨bk, 0, none⟩ = some (.int .i64 0) → Calls Tryd.prog 34 #[.int .i64 s, .int .i64 1, .func (.func 43) #[] #[.pointer (some ⟨bk, 0, none⟩)]] w' fun e w'' => ∃ d, e = .returned (.agg #[.int .i64 s, .int .i64 1, .slice (some ⟨d, 0, none⟩) (1 * 2 ^ s) (1 * 2 ^ s)]) ∧ w'.heap.size ≤ d ∧
      Ro w'' d 3 (1 * 2 ^ s) (fun _ => .int .i64 0) ∧ Below w'.heap.size w' w'') := hid (fun g w' h => lay_same s 1 0 hs (by omega) g w' h)
  have HS := hid (fun w' => same_i 0 w')
  have hp := Nat.pow_le_pow_right (n := 2) (by decide) hs
  have e1 := shl_nat 1 s hs
  rw [Nat.one_mul] at HL e1
  obtain ⟨n, hn⟩ : ∃ n, 2 ^ s = n := ⟨_, rfl⟩
  rw [hn] at HL e1 hp ⊢
  have hmk := fun w => make_row 89 5 _ 1 _ Tryd.underlying89 Tryd.info5' (fun _ => .int .u8 0) (by intro k; simp [Value.cells, Nat.mod_one]) n (by omega) (by omega) w
  have n0 : (n : Int) ≤ 65536 := by omega
  have hs1 : (s : Int) ≤ 16 := by omega
  have e2 : (2 : Int) ^ s = (n : Int) := by rw [← e1]; simp
  have e3 : IntKind.i64.wrap (n : Int) = (n : Int) := IntWalk.i64_in _ (by omega)
  obtain ⟨W, hW⟩ : ∃ W, W = w.alloc (.cells #[.int .u8 4, .int .i64 s, .int .i64 a, .int .i64 b, .int .i64 c, .int .i64 r, .int .i64 m] 48) := ⟨_, rfl⟩
  have b0 : Below w.heap.size w W := by rw [hW]; exact (Below.refl _ _).alloc (Nat.le_refl _) _
  have m1 : W.cell? ⟨w.heap.size, 1, none⟩ = some (.int .i64 s) := by rw [hW]; go_simp
  have m0 : W.cell? ⟨w.heap.size, 0, none⟩ = some (.int .u8 4) := by rw [hW]; go_simp
  have n1 : ∀ o, (W.alloc o).cell? ⟨w.heap.size, 1, none⟩ = some (.int .i64 s) := fun o => keeps ((Below.refl W.heap.size W).alloc (Nat.le_refl _) o) m1
  have B0 := hid b0
  have ZA : Hid (∀ w' : World, Ro (w'.alloc (.cells (fL n fun _ => .int .u8 0).toArray 5)) w'.heap.size 5 n (fun _ => .int .u8 0)) := hid fun w' => heap_alloc_new w' _
  clear b0 hn hp e1 hs
  unfold vP
  unfold pt at *
  go_enter Tryd.func26, Tryd.ntmps26
  go_wp2_with (rw [← hW])
  clear hW
  go_region_held3 (fun w' => w'.cell? ⟨w.heap.size, 1, none⟩ = some (.int .i64 s))
    (first | exact m1 | exact n1 _ | exact j1 | exact j2 _ | exact k1 | exact k2 _ | go_keep)
    (first
    | (go_at_call 35; go_must ((refine (HS.out _).mono ?_); rintro r w1 ⟨rfl, c1, l1, b1⟩; have k1 : w1.cell? ⟨w.heap.size, 1, none⟩ = some (.int .i64 s) := (by first | exact keeps b1 m1 | exact keeps b1 (n1 _)); have k2 : ∀ o, (w1.alloc o).cell? ⟨w.heap.size, 1, none⟩ = some (.int .i64 s) := (fun o => keeps ((Below.refl w1.heap.size w1).alloc (Nat.le_refl _) o) k1); have B1 : Hid (Below W.heap.size W w1) := (by first | exact undrew b1 | exact bel_alo (undrew b1)); try (with_reducible have ra : Hid (Ro w1 W.heap.size 5 n (fun _ => .int .u8 0)) := (ZA.out W).below (undrew b1))))
    | (go_at_call 34; go_must ((first | with_reducible refine (HL.out _ w1 (by first | exact c1 | simpa using c1)).mono ?_ | with_reducible refine (HL.out _ (w1.alloc _) (keeps ((Below.refl w1.heap.size w1).alloc (Nat.le_refl _) _) (by first | exact c1 | simpa using c1))).mono ?_ | with_reducible refine (HL.out _ (w1.alloc _).drew (keeps ((Below.refl w1.heap.size w1).alloc (Nat.le_refl _) _).drew (by first | exact c1 | simpa using c1))).mono ?_); rintro r w2 ⟨d, rfl, d1, R1, b2⟩; have B2 : Hid (Below w1.heap.size w1 w2) := (by first | exact b2 | exact bel_alo b2); have j1 := keeps B2.out k1; have j2 : ∀ o, (w2.alloc o).cell? ⟨w.heap.size, 1, none⟩ = some (.int .i64 s) := (fun o => keeps ((Below.refl w2.heap.size w2).alloc (Nat.le_refl _) o) j1); have R1 := hid R1; have d1 := hid d1; try (have ra := hid (ra.out.below B2.out)); try (with_reducible have rb : Hid (Ro w2 w1.heap.size 5 n (fun _ => .int .u8 0)) := (ZA.out w1).below b2))))
  · have hr := ((show Ro (W.alloc (Obj.cells (fL n fun _ => Value.int .u8 0).toArray 5)).drew W.heap.size 5 n (fun _ => .int .u8 0) from ZA.out W).below b1).below B2.out
    have q1 := B0.out.size
    have q2 : W.heap.size + 1 < w1.heap.size := by simpa using l1
    have q3 := B2.out.size
    have q4 := d1.out
    have q5 := R1.out.lt
    have BB := bel3 B0.out B1.out B2.out
    have HR := hid hr
    have HBB := hid BB
    clear hr BB
    go_wp2_with fail
    go_ret
    have x2 : ∀ o, Below w2.heap.size w2 (w2.alloc o) := fun o => (Below.refl _ _).alloc (Nat.le_refl _) o
    exact ⟨w2.heap.size, W.heap.size, d, rfl, by omega, by omega, by omega, by omega, by omega, by omega, heap_alloc_new w2 _, HR.out.below (x2 _), R1.out.below (x2 _), HBB.out.trans ((x2 _).mono (by omega))⟩
  · have hr := (ZA.out w1).below b2
    have q1 := B0.out.size
    have q2 := B1.out.size
    have q3 := B2.out.size
    have q4 : w1.heap.size + 1 ≤ d := by simpa using d1.out
    have q5 := R1.out.lt
    have BB := bel3 B0.out B1.out B2.out
    have HR := hid hr
    have HBB := hid BB
    clear hr BB
    go_wp2_with fail
    go_ret
    have x2 : ∀ o, Below w2.heap.size w2 (w2.alloc o) := fun o => (Below.refl _ _).alloc (Nat.le_refl _) o
    exact ⟨w2.heap.size, w1.heap.size, d, rfl, by omega, by omega, by omega, by omega, by omega, by omega, heap_alloc_new w2 _, HR.out.below (x2 _), R1.out.below (x2 _), HBB.out.trans ((x2 _).mono (by omega))⟩
  · have q1 := B0.out.size
    have q2 := B1.out.size
    have q3 := B2.out.size
    have q4 := d1.out
    have q5 := R1.out.lt
    have BB := bel3 B0.out B1.out B2.out
    have HBB := hid BB
    clear BB
    obtain ⟨W4, hW4⟩ : ∃ W4, W4 = w2.alloc (Obj.cells (fL n fun _ => Value.int .u8 0).toArray 5) := ⟨_, rfl⟩
    have hr : Ro W4 w2.heap.size 5 n (fun _ => .int .u8 0) := by rw [hW4]; exact ZA.out w2
    have hz : W4.heap.size = w2.heap.size + 1 := by rw [hW4]; simp
    have hb : Below w2.heap.size w2 W4 := by rw [hW4]; exact (Below.refl _ _).alloc (Nat.le_refl _) _
    have HR := hid hr
    have HB4 := hid hb
    have HZ := hid hz
    have HW4 := hid hW4
    clear hr hb hz hW4
    go_wp2_with fail
    go_ret
    have x2 : ∀ o, Below W4.heap.size W4 (W4.alloc o) := fun o => (Below.refl _ _).alloc (Nat.le_refl _) o
    have hz := HZ.out
    rw [← HW4.out]
    refine ⟨w2.heap.size + 1, w2.heap.size, d, rfl, by omega, by omega, by omega, by omega, by omega, by omega, ?_, HR.out.below (x2 _), (R1.out.below HB4.out).below (x2 _), (HBB.out.trans (HB4.out.mono (by omega))).trans ((x2 _).mono (by omega))⟩
    rw [← hz]
    exact heap_alloc_new W4 _
end Go.Proofs.YtkfdbibgjoaefaaDoor
