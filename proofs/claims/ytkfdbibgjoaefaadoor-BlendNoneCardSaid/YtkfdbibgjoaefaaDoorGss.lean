/-
  What a blend guesses; what is refused.
-/
import Derived.Test.YtkfdbibgjoaefaaDoorLe
import Derived.IntWalk
namespace Go.Proofs.YtkfdbibgjoaefaaDoor
open Go.RowKit

theorem squash_below (d : Int) (w : World) (hk : KnIs w) (h1 : -9223372036854775808 ≤ d) (h2 : d ≤ 9223372036854775807) :
    Calls Tryd.prog 20 #[.int .i64 d] w fun e w' => e = .returned (.int .i64 (sq d)) ∧ Below w.heap.size w w' := by
  refine (squash_any d w hk h1 h2).mono ?_
  rintro e w' ⟨rfl, q, rfl⟩
  exact ⟨rfl, Below.drewN _ _ _⟩
theorem KnIs.drew' {w : World} (h : KnIs w) : KnIs w.drew := h.drewN 1
set_option maxRecDepth 10000 in
set_option maxHeartbeats 1000000 in
theorem Guess_any {w : World} {g pa ct le n cap c : Nat} {v : Nat → Value} {h : List Nat} {L : List Int} (b : Bx w g pa ct le n cap c v h L) (kn : KnIs w) (hr : -2047 ≤ L.getD (n - 1) 0 ∧ L.getD (n - 1) 0 ≤ 2047) :
    Calls Tryd.prog 8 #[pt g] w fun e w' => e = .returned (.int .i64 (16 * sq (L.getD (n - 1) 0))) ∧ Below w.heap.size w w' := by
  have c0 := b.c0
  have c3 := b.c3
  have n16 := b.most
  have n1 := b.one
  have HM := hid (made_yes g w c0)
  have l3 := b.lea.cell (n - 1) (by omega)
  obtain ⟨m, rfl⟩ : ∃ m, n = m + 1 := ⟨n - 1, by omega⟩
  rw [show m + 1 - 1 = m from rfl] at *
  unfold intsF at l3
  have HQ := hid (fun w' k => squash_below (L.getD m 0) w' k (by omega) (by omega))
  have hs := sq_range (L.getD m 0)
  generalize L.getD m 0 = ll at *
  generalize sq ll = s at *
  have z0 : ((m + 1 : Nat) : Int) - 1 = (m : Int) := by omega
  have z1 : (m : Int) < ((m + 1 : Nat) : Int) := by omega
  obtain ⟨mm, hmm⟩ : ∃ mm, m + 1 = mm := ⟨_, rfl⟩
  rw [hmm] at z0 z1 c3 n16
  have z2 : (mm : Int) ≤ 16 := by omega
  have z4 : IntKind.i64.wrap ((mm : Int) - 1) = (m : Int) := by rw [z0]; exact IntWalk.i64_in _ (by omega)
  have z5 : IntKind.i64.wrap (16 * s) = 16 * s := IntWalk.i64_in _ (by omega)
  clear z0
  clear b hmm n1
  unfold pt at *
  have KN := hid kn
  clear kn hr
  go_enter Tryd.func8, Tryd.ntmps8
  go_wp2_with fail
  refine HM.out.mono ?_
  rintro r w1 ⟨rfl, rfl⟩
  go_wp2_with fail
  go_region_held3 (fun w' => w'.cell? ⟨g, 3, none⟩ = some (.slice (some ⟨le, 0, none⟩) mm mm) ∧ w'.cell? ⟨le, m, none⟩ = some (.int .i64 ll))
    (first | exact ⟨c3, l3⟩ | exact ⟨k3, k4⟩ | go_keep)
    (first
    | (go_at_call 20; go_must ((refine (HQ.out _ KN.out.drew').mono ?_); rintro r w1 ⟨rfl, b1⟩; have k3 := keeps b1 c3; have k4 := keeps b1 l3; have B1 := hid (undrew b1))))
  all_goals
    go_wp2_with fail
    go_ret
    exact ⟨rfl, B1.out⟩
set_option maxRecDepth 10000 in
set_option maxHeartbeats 1000000 in
theorem Contexts_nil (H : Value) (w : World) : Calls Tryd.prog 6 #[.pointer none, H] w fun e w' => e = .returned (.int .i64 1) ∧ w = w' := by
  have HM := hid (made_nil w)
  go_enter Tryd.func6, Tryd.ntmps6
  go_wp2_with fail
  refine HM.out.mono ?_
  rintro r w1 ⟨rfl, rfl⟩
  go_wp2_with fail
  go_ret
  exact ⟨rfl, rfl⟩
set_option maxRecDepth 10000 in
set_option maxHeartbeats 1000000 in
theorem Contexts_zero (g : Nat) (H : Value) (w : World) (c0 : w.cell? ⟨g, 0, none⟩ = some (.pointer none)) : Calls Tryd.prog 6 #[pt g, H] w fun e w' => e = .returned (.int .i64 1) ∧ w = w' := by
  have HM := hid (made_zero g w c0)
  unfold pt
  go_enter Tryd.func6, Tryd.ntmps6
  go_wp2_with fail
  refine HM.out.mono ?_
  rintro r w1 ⟨rfl, rfl⟩
  go_wp2_with fail
  go_ret
  exact ⟨rfl, rfl⟩
set_option maxRecDepth 10000 in
set_option maxHeartbeats 1000000 in
theorem Learn_nil (bit : Int) (w : World) : Calls Tryd.prog 7 #[.pointer none, .int .i64 bit] w fun e w' => e = .returned (.int .i64 1) ∧ w = w' := by
  have HM := hid (made_nil w)
  go_enter Tryd.func7, Tryd.ntmps7
  go_wp2_with fail
  refine HM.out.mono ?_
  rintro r w1 ⟨rfl, rfl⟩
  go_wp2_with fail
  go_ret
  exact ⟨rfl, rfl⟩
set_option maxRecDepth 10000 in
set_option maxHeartbeats 1000000 in
theorem Learn_zero (g : Nat) (bit : Int) (w : World) (c0 : w.cell? ⟨g, 0, none⟩ = some (.pointer none)) : Calls Tryd.prog 7 #[pt g, .int .i64 bit] w fun e w' => e = .returned (.int .i64 1) ∧ w = w' := by
  have HM := hid (made_zero g w c0)
  unfold pt
  go_enter Tryd.func7, Tryd.ntmps7
  go_wp2_with fail
  refine HM.out.mono ?_
  rintro r w1 ⟨rfl, rfl⟩
  go_wp2_with fail
  go_ret
  exact ⟨rfl, rfl⟩
set_option maxRecDepth 10000 in
set_option maxHeartbeats 1000000 in
theorem Guess_nil (w : World) : Calls Tryd.prog 8 #[.pointer none] w fun e w' => e = .returned (.int .i64 0) ∧ w = w' := by
  have HM := hid (made_nil w)
  go_enter Tryd.func8, Tryd.ntmps8
  go_wp2_with fail
  refine HM.out.mono ?_
  rintro r w1 ⟨rfl, rfl⟩
  go_wp2_with fail
  go_ret
  exact ⟨rfl, rfl⟩
set_option maxRecDepth 10000 in
set_option maxHeartbeats 1000000 in
theorem Guess_zero (g : Nat) (w : World) (c0 : w.cell? ⟨g, 0, none⟩ = some (.pointer none)) : Calls Tryd.prog 8 #[pt g] w fun e w' => e = .returned (.int .i64 0) ∧ w = w' := by
  have HM := hid (made_zero g w c0)
  unfold pt
  go_enter Tryd.func8, Tryd.ntmps8
  go_wp2_with fail
  refine HM.out.mono ?_
  rintro r w1 ⟨rfl, rfl⟩
  go_wp2_with fail
  go_ret
  exact ⟨rfl, rfl⟩
set_option maxRecDepth 10000 in
set_option maxHeartbeats 1000000 in
theorem Bits_nil (w : World) : Calls Tryd.prog 9 #[.pointer none] w fun e w' => e = .returned (.int .i64 0) ∧ w = w' := by
  have HM := hid (made_nil w)
  go_enter Tryd.func9, Tryd.ntmps9
  go_wp2_with fail
  refine HM.out.mono ?_
  rintro r w1 ⟨rfl, rfl⟩
  go_wp2_with fail
  go_ret
  exact ⟨rfl, rfl⟩
set_option maxRecDepth 10000 in
set_option maxHeartbeats 1000000 in
theorem Bits_zero (g : Nat) (w : World) (c0 : w.cell? ⟨g, 0, none⟩ = some (.pointer none)) : Calls Tryd.prog 9 #[pt g] w fun e w' => e = .returned (.int .i64 0) ∧ w = w' := by
  have HM := hid (made_zero g w c0)
  unfold pt
  go_enter Tryd.func9, Tryd.ntmps9
  go_wp2_with fail
  refine HM.out.mono ?_
  rintro r w1 ⟨rfl, rfl⟩
  go_wp2_with fail
  go_ret
  exact ⟨rfl, rfl⟩
set_option maxRecDepth 10000 in
set_option maxHeartbeats 1000000 in
theorem Leans_nil (w : World) : Calls Tryd.prog 10 #[.pointer none] w fun e w' => e = .returned (.slice none 0 0) ∧ w = w' := by
  have HM := hid (made_nil w)
  go_enter Tryd.func10, Tryd.ntmps10
  go_wp2_with fail
  refine HM.out.mono ?_
  rintro r w1 ⟨rfl, rfl⟩
  go_wp2_with fail
  go_ret
  exact ⟨rfl, rfl⟩
set_option maxRecDepth 10000 in
set_option maxHeartbeats 1000000 in
theorem Leans_zero (g : Nat) (w : World) (c0 : w.cell? ⟨g, 0, none⟩ = some (.pointer none)) : Calls Tryd.prog 10 #[pt g] w fun e w' => e = .returned (.slice none 0 0) ∧ w = w' := by
  have HM := hid (made_zero g w c0)
  unfold pt
  go_enter Tryd.func10, Tryd.ntmps10
  go_wp2_with fail
  refine HM.out.mono ?_
  rintro r w1 ⟨rfl, rfl⟩
  go_wp2_with fail
  go_ret
  exact ⟨rfl, rfl⟩
set_option maxRecDepth 10000 in
set_option maxHeartbeats 1000000 in
theorem Contexts_bad {w : World} {g pa ct le n cap c : Nat} {v : Nat → Value} {h : List Nat} {L : List Int} (b : Bx w g pa ct le n cap c v h L) (hc : c ≠ 1) (H : Value) :
    Calls Tryd.prog 6 #[pt g, H] w fun e w' => e = .returned (.int .i64 2) ∧ w = w' := by
  have HM := hid (made_yes g w b.c0)
  have c4 := b.c4
  have z : ¬ (c : Int) = 1 := by omega
  clear b hc
  unfold pt
  go_enter Tryd.func6, Tryd.ntmps6
  go_wp2_with fail
  refine HM.out.mono ?_
  rintro r w1 ⟨rfl, rfl⟩
  go_wp2_with fail
  go_ret
  exact ⟨rfl, rfl⟩
set_option maxRecDepth 10000 in
set_option maxHeartbeats 1000000 in
theorem Learn_bad {w : World} {g pa ct le n cap c : Nat} {v : Nat → Value} {h : List Nat} {L : List Int} (b : Bx w g pa ct le n cap c v h L) (bit : Int) (h0 : ¬ bit = 0) (h1 : ¬ bit = 1) :
    Calls Tryd.prog 7 #[pt g, .int .i64 bit] w fun e w' => e = .returned (.int .i64 2) ∧ w = w' := by
  have HM := hid (made_yes g w b.c0)
  have x0 : (bit != 0) = true := by simpa using h0
  have x1 : (bit != 1) = true := by simpa using h1
  clear b
  unfold pt
  go_enter Tryd.func7, Tryd.ntmps7
  go_wp2_with fail
  refine HM.out.mono ?_
  rintro r w1 ⟨rfl, rfl⟩
  go_wp2_with fail
  go_ret
  exact ⟨rfl, rfl⟩
end Go.Proofs.YtkfdbibgjoaefaaDoor
