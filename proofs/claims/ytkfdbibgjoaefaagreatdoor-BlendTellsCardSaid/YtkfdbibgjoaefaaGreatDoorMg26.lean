/-
  Merged: Zh.
-/
import Derived.Test.YtkfdbibgjoaefaaGreatDoorMg06
import Derived.IntWalk
/-
  Merged: Lrn Gss End.
-/
/-
  The loops over all parts: learn, a byte's end, contexts.
-/
namespace Go.Proofs.YtkfdbibgjoaefaaGreatDoor
open Go.RowKit

/-- Parts that go from one phase to the next: P i k: part i is in phase k; S i: the blocks that are its own. -/
structure Fam (n g pa ct le : Nat) (P : Nat → Nat → World → Prop) (S : Nat → Nat → Prop) : Prop where
  stay : ∀ i k w w' (X : Nat → Prop), i < n → P i k w → But X w w' → (∀ a, S i a → ¬ X a) → P i k w'
  apart : ∀ i j, i < n → j < n → i ≠ j → ∀ a, S i a → ¬ S j a
  off : ∀ i, i < n → ∀ a, S i a → a ≠ g ∧ a ≠ pa ∧ a ≠ ct ∧ a ≠ le ∧ a ≠ 0
/-- The blocks of all of them. -/
def All (n : Nat) (S : Nat → Nat → Prop) : Nat → Prop := fun a => ∃ i, i < n ∧ S i a
section
variable {n g pa ct le : Nat} {P : Nat → Nat → World → Prop} {S : Nat → Nat → Prop} {w w' : World}
theorem Fam.off_all (f : Fam n g pa ct le P S) : ¬ All n S g ∧ ¬ All n S pa ∧ ¬ All n S ct ∧ ¬ All n S le ∧ ¬ All n S 0 :=
  ⟨fun ⟨i, hi, h⟩ => (f.off i hi _ h).1 rfl, fun ⟨i, hi, h⟩ => (f.off i hi _ h).2.1 rfl, fun ⟨i, hi, h⟩ => (f.off i hi _ h).2.2.1 rfl, fun ⟨i, hi, h⟩ => (f.off i hi _ h).2.2.2.1 rfl, fun ⟨i, hi, h⟩ => (f.off i hi _ h).2.2.2.2 rfl⟩
theorem Fam.below (f : Fam n g pa ct le P S) {i k : Nat} (hi : i < n) (h : P i k w) (b : Below w.heap.size w w') : P i k w' := f.stay i k w w' (fun _ => False) hi h (But.of_below b) (fun _ _ h => h)
theorem Fam.step (f : Fam n g pa ct le P S) {i k : Nat} (hi : i < n) (h : ∀ j, j < n → P j (if j < i then k + 1 else k) w) (b : But (S i) w w') (h' : P i (k + 1) w') : ∀ j, j < n → P j (if j < i + 1 then k + 1 else k) w' := by
  intro j hj
  by_cases e : j = i
  · subst e; rw [if_pos (by omega)]; exact h'
  · have := f.stay j _ w w' (S i) hj (h j hj) b (fun a => f.apart j i hj hi e a)
    by_cases e2 : j < i
    · rw [if_pos e2] at this; rw [if_pos (by omega)]; exact this
    · rw [if_neg e2] at this; rw [if_neg (by omega)]; exact this
theorem Bx.all {cap c : Nat} {v : Nat → Value} {h : List Nat} {L : List Int} (b : Bx w g pa ct le n cap c v h L) (f : Fam n g pa ct le P S) (x : But (All n S) w w') : Bx w' g pa ct le n cap c v h L := b.but x f.off_all.1 f.off_all.2.1 f.off_all.2.2.1 f.off_all.2.2.2.1
end
set_option maxRecDepth 10000 in
set_option maxHeartbeats 2000000 in
theorem learn_go {w : World} {g pa ct le n cap c : Nat} {v : Nat → Value} {h : List Nat} {L : List Int} (b : Bx w g pa ct le n cap c v h L) (P : Nat → Nat → World → Prop) (S : Nat → Nat → Prop) (f : Fam n g pa ct le P S) (kn : KnIs w)
    (T : Nat → TypeId) (x : Nat → Value) (K : Nat → FuncId) (R : Nat → Value) (bt : Int) (bn : Nat) (hbt : (bt = 0 ∧ bn = 0) ∨ (bt = 1 ∧ bn = 1)) (hc256 : c < 256)
    (hv : ∀ i, i < n → v i = .iface (T i) (x i)) (he : ∀ i, i < n → ∀ a w, (callFunc (K i) a).run Tryz.prog w = .ok (.enter (K i) a) w)
    (hn : ∀ i, i < n → ∀ w', (nilAhead 273 (T i) (x i) "quillpress/blend.learn").run Tryz.prog w' = .ok (some false) w')
    (hm : ∀ i, i < n → ∀ w', P i 0 w' → (method 273 (T i) (x i) "quillpress/blend.learn").run Tryz.prog w' = .ok (K i, R i) w')
    (hk : ∀ i, i < n → ∀ w', KnIs w' → P i 0 w' → Ro w' le 3 n (intsF L) → Calls Tryz.prog (K i) #[R i, mo (h.getD i 0) c le n, .int .i64 (L.getD i 0), .int .i64 bt] w' fun e w'' => e = .returned (.tuple #[]) ∧ P i 1 w'' ∧ But (S i) w' w'')
    (h0 : ∀ i, i < n → P i 0 w) (Q : World → Prop)
    (hq : ∀ w', But (fun a => All n S a ∨ a = g) w w' → KnIs w' → (∀ i, i < n → P i 1 w') → Bx w' g pa ct le n cap (c * 2 + bn) v h L → ∃ k, k ≤ 8 ∧ 2 ^ k ≤ c * 2 + bn ∧ c * 2 + bn < 2 ^ (k + 1) ∧
      (if k = 8 then Calls Tryz.prog 34 #[pt g, .int .u8 ((c * 2 + bn) % 256 : Nat)] w' fun e w'' => e = .returned (.tuple #[]) ∧ Calls Tryz.prog 27 #[pt g] w'' fun e w3 => e = .returned (.tuple #[]) ∧ Q w3
       else Calls Tryz.prog 27 #[pt g] w' fun e w3 => e = .returned (.tuple #[]) ∧ Q w3)) :
    Calls Tryz.prog 15 #[pt g, .int .i64 bt] w fun e w' => e = .returned (.int .i64 0) ∧ Q w' := by
  have c0 := b.c0
  have c1 := b.c1
  have nmost := b.most
  have HM0 := hid (made_yes g w c0)
  obtain ⟨c2, hc2⟩ : ∃ c2, c * 2 + bn = c2 := ⟨_, rfl⟩
  rw [hc2] at hq
  have HQ := hid hq
  clear hq
  unfold pt
  rcases hbt with ⟨rfl, rfl⟩ | ⟨rfl, rfl⟩
  all_goals
    go_enter Tryz.func15, Tryz.ntmps15
    go_wp2_with fail
    refine HM0.out.mono ?_
    rintro r w1 ⟨rfl, rfl⟩
    go_wp2_with fail
    go_loopw [21] (fun vi wr => ∃ i : Nat, i ≤ n ∧ vi = .int .i64 i ∧ But (All n S) w wr ∧ ∀ j, j < n → P j (if j < i then 0 + 1 else 0) wr) (fun vi _ => n - (intOf vi).toNat)
    case atStart => exact ⟨0, Nat.zero_le _, rfl, But.refl _ _, fun j hj => by rw [if_neg (by omega)]; exact h0 j hj⟩
    case round =>
      obtain ⟨i, hi, rfl, hw, hp⟩ := hrel
      by_cases hgo : i < n
      · have hz : (i : Int) < (n : Int) := by omega
        have b' := b.all f hw
        have kn' := kn.but hw f.off_all.2.2.2.2
        have p0 : P i 0 wr := by have := hp i hgo; rw [if_neg (by omega)] at this; exact this
        have pc : wr.cell? ⟨pa, i, none⟩ = some (.iface (T i) (x i)) := by rw [b'.part i hgo, hv i hgo]
        have HM := hid (fun w' (k : Below wr.heap.size wr w') => moment_any (b'.below k) i hgo)
        have HC := hid (hk i hgo)
        have nn := hn i hgo
        have HR := hid (hm i hgo)
        have HP := hid (fun w' (k : Below wr.heap.size wr w') => f.below hgo p0 k)
        have HKn := hid (fun w' (k : Below wr.heap.size wr w') => kn'.below k)
        have HL := hid (fun w' (k : Below wr.heap.size wr w') => b'.lea.below k)
        have HS := hid (fun w2 (b2 : But (S i) wr w2) (p2 : P i 1 w2) => (⟨hw.trans (b2.mono fun a ha => .inl ⟨i, hgo, ha⟩), f.step hgo hp b2 p2⟩ : But (All n S) w w2 ∧ ∀ j, j < n → P j (if j < i + 1 then 0 + 1 else 0) w2))
        have ee := he i hgo
        have g3 := b'.c3
        have l3 := b'.lea.cell i hgo
        have sg : ¬ S i g := fun h => (f.off i hgo _ h).1 rfl
        have sl3 : ¬ S i le := fun h => (f.off i hgo _ h).2.2.2.1 rfl
        clear hk he hn hm hp hw b'
        unfold intsF at l3
        generalize T i = t at *
        generalize x i = y at *
        generalize K i = fn at *
        generalize R i = rv at *
        generalize h.getD i 0 = hh at *
        generalize L.getD i 0 = ll at *
        unfold mo sl pt at *
        go_wp2_with fail
        go_region_held3 (fun w' => w'.cell? ⟨g, 3, none⟩ = some (.slice (some ⟨le, 0, none⟩) n n) ∧ w'.cell? ⟨le, i, none⟩ = some (.int .i64 ll))
          (first | exact ⟨g3, l3⟩ | exact ⟨k3, k4⟩ | go_keep)
          (first
          | (go_at_call 33; go_must ((refine (HM.out _ (Below.drewN _ _ 1)).mono ?_); rintro r w1 ⟨rfl, b1⟩; have k3 := keeps b1 g3; have k4 := keeps b1 l3; have b1 := undrew b1; have B1 := hid b1; have mm := HR.out _ (HP.out _ b1)))
          | ((refine (HC.out _ (HKn.out _ B1.out) (HP.out _ B1.out) (HL.out _ B1.out)).mono ?_); rintro r w2 ⟨rfl, p2, b2⟩; have k3 := b2.cell k3 sg; have k4 := b2.cell k4 sl3; have FF := hid (HS.out _ ((But.of_below B1.out).trans b2) p2)))
        all_goals
          go_wp2_with fail
          go_roundw
          case rel => exact ⟨i + 1, by omega, by go_num, FF.out.1, FF.out.2⟩
          case measure => simp [intOf]; omega
      · obtain rfl : i = n := by omega
        have b' := b.all f hw
        have kn' := kn.but hw f.off_all.2.2.2.2
        have p1 : ∀ j, j < i → P j 1 wr := fun j hj => by have := hp j hj; rw [if_pos hj] at this; exact this
        have b2 := b'.setC c2
        have g4 := b'.c4
        have ff : wr.frozen? ⟨g, 4, none⟩ = false := row_free b'.row 4
        have x2 : But (· = g) wr (wr.setCell ⟨g, 4, none⟩ (.int .u32 (c2 : Int))) := (But.refl (· = g) wr).set ⟨g, 4, none⟩ _ (.inl rfl)
        have HX := HQ.out _ ((hw.mono fun a h => .inl (.inl h)).trans (x2.mono fun a h => .inl (.inr h))) (kn'.but x2 (Ne.symm b.ne.2.2.2.2.2.2.1)) (fun j hj => f.stay j 1 _ _ _ hj (p1 j hj) x2 (fun a h e => (f.off j hj a h).1 e)) b2
        obtain ⟨k, k8, h1, h2, hX⟩ := HX
        have HB := hid (Bits_any b2 (by omega) k k8 h1 h2)
        have n4 := b2.c4
        clear b2 x2 hk he hn hm hp HQ h1 h2
        clear b'
        obtain ⟨W, hW⟩ : ∃ W, W = wr.setCell ⟨g, 4, none⟩ (.int .u32 (c2 : Int)) := ⟨_, rfl⟩
        rw [← hW] at hX HB n4
        have e1 : (c : Int) * 2 < 4294967296 := by omega
        first | have e2 : (c : Int) * 2 + 1 = (c2 : Int) := by omega | have e2 : (c : Int) * 2 = (c2 : Int) := by omega
        have e3 : (c2 : Int) < 4294967296 := by omega
        obtain ⟨c8, h8⟩ : ∃ c8, c2 % 256 = c8 := ⟨_, rfl⟩
        rw [h8] at hX
        have e4 : (c2 : Int) % 256 = (c8 : Int) := by omega
        clear h8
        have HW := hid hW
        clear hW
        by_cases k8' : k = 8
        · rw [if_pos k8'] at hX
          have HX := hid hX
          subst k8'
          unfold pt at *
          clear hX
          go_wp2_with fail
          rw [← HW.out]
          go_wp2_with fail
          refine HB.out.mono ?_
          rintro r w1 ⟨rfl, rfl⟩
          go_wp2_with fail
          refine HX.out.mono ?_
          rintro r w1 ⟨rfl, hy⟩
          go_wp2_with fail
          refine hy.mono ?_
          rintro r w1 ⟨rfl, hy⟩
          go_wp2_with fail
          go_ret
          exact ⟨rfl, hy⟩
        · rw [if_neg k8'] at hX
          have HX := hid hX
          have k9 : ¬ (k : Int) = 8 := by omega
          unfold pt at *
          clear hX k8' k8 e4
          go_wp2_with fail
          rw [← HW.out]
          go_wp2_with fail
          refine HB.out.mono ?_
          rintro r w1 ⟨rfl, rfl⟩
          clear e1 e2 e3 hc256 nmost
          go_wp2_with fail
          refine HX.out.mono ?_
          rintro r w1 ⟨rfl, hy⟩
          go_wp2_with fail
          go_ret
          exact ⟨rfl, hy⟩
end Go.Proofs.YtkfdbibgjoaefaaGreatDoor
/-
  What a blend guesses; what is refused.
-/
namespace Go.Proofs.YtkfdbibgjoaefaaGreatDoor
open Go.RowKit

theorem squash_below (d : Int) (w : World) (hk : KnIs w) (h1 : -9223372036854775808 ≤ d) (h2 : d ≤ 9223372036854775807) :
    Calls Tryz.prog 23 #[.int .i64 d] w fun e w' => e = .returned (.int .i64 (sq d)) ∧ Below w.heap.size w w' := by
  refine (squash_any d w hk h1 h2).mono ?_
  rintro e w' ⟨rfl, q, rfl⟩
  exact ⟨rfl, Below.drewN _ _ _⟩
theorem KnIs.drew' {w : World} (h : KnIs w) : KnIs w.drew := h.drewN 1
set_option maxRecDepth 10000 in
set_option maxHeartbeats 1000000 in
theorem Guess_any {w : World} {g pa ct le n cap c : Nat} {v : Nat → Value} {h : List Nat} {L : List Int} (b : Bx w g pa ct le n cap c v h L) (kn : KnIs w) (hr : -2047 ≤ L.getD (n - 1) 0 ∧ L.getD (n - 1) 0 ≤ 2047) :
    Calls Tryz.prog 10 #[pt g] w fun e w' => e = .returned (.int .i64 (16 * sq (L.getD (n - 1) 0))) ∧ Below w.heap.size w w' := by
  have c0 := b.c0
  have c3 := b.c3
  have n16 := b.most
  have n1 := b.one
  have HM := hid (made_yes g w c0)
  have l3 := b.lea.cell (n - 1) (by omega)
  obtain ⟨m, rfl⟩ : ∃ m, n = m + 1 := ⟨n - 1, by omega⟩
  rw [show m + 1 - 1 = m from rfl] at *
  unfold intsF at l3
  have HQ := hid (fun w' k => squash_below (L.getD m 0) w' k (by omega) (by omega))
  have hs := sq_range (L.getD m 0)
  generalize L.getD m 0 = ll at *
  generalize sq ll = s at *
  have z0 : ((m + 1 : Nat) : Int) - 1 = (m : Int) := by omega
  have z1 : (m : Int) < ((m + 1 : Nat) : Int) := by omega
  obtain ⟨mm, hmm⟩ : ∃ mm, m + 1 = mm := ⟨_, rfl⟩
  rw [hmm] at z0 z1 c3 n16
  have z2 : (mm : Int) ≤ 16 := by omega
  have z4 : IntKind.i64.wrap ((mm : Int) - 1) = (m : Int) := by rw [z0]; exact IntWalk.i64_in _ (by omega)
  have z5 : IntKind.i64.wrap (16 * s) = 16 * s := IntWalk.i64_in _ (by omega)
  clear z0
  clear b hmm n1
  unfold pt at *
  have KN := hid kn
  clear kn hr
  go_enter Tryz.func10, Tryz.ntmps10
  go_wp2_with fail
  refine HM.out.mono ?_
  rintro r w1 ⟨rfl, rfl⟩
  go_wp2_with fail
  go_region_held3 (fun w' => w'.cell? ⟨g, 3, none⟩ = some (.slice (some ⟨le, 0, none⟩) mm mm) ∧ w'.cell? ⟨le, m, none⟩ = some (.int .i64 ll))
    (first | exact ⟨c3, l3⟩ | exact ⟨k3, k4⟩ | go_keep)
    (first
    | (go_at_call 23; go_must ((refine (HQ.out _ KN.out.drew').mono ?_); rintro r w1 ⟨rfl, b1⟩; have k3 := keeps b1 c3; have k4 := keeps b1 l3; have B1 := hid (undrew b1))))
  all_goals
    go_wp2_with fail
    go_ret
    exact ⟨rfl, B1.out⟩
set_option maxRecDepth 10000 in
set_option maxHeartbeats 1000000 in
theorem Contexts_nil (H : Value) (w : World) : Calls Tryz.prog 12 #[.pointer none, H] w fun e w' => e = .returned (.int .i64 1) ∧ w = w' := by
  have HM := hid (made_nil w)
  go_enter Tryz.func12, Tryz.ntmps12
  go_wp2_with fail
  refine HM.out.mono ?_
  rintro r w1 ⟨rfl, rfl⟩
  go_wp2_with fail
  go_ret
  exact ⟨rfl, rfl⟩
set_option maxRecDepth 10000 in
set_option maxHeartbeats 1000000 in
theorem Contexts_zero (g : Nat) (H : Value) (w : World) (c0 : w.cell? ⟨g, 0, none⟩ = some (.pointer none)) : Calls Tryz.prog 12 #[pt g, H] w fun e w' => e = .returned (.int .i64 1) ∧ w = w' := by
  have HM := hid (made_zero g w c0)
  unfold pt
  go_enter Tryz.func12, Tryz.ntmps12
  go_wp2_with fail
  refine HM.out.mono ?_
  rintro r w1 ⟨rfl, rfl⟩
  go_wp2_with fail
  go_ret
  exact ⟨rfl, rfl⟩
set_option maxRecDepth 10000 in
set_option maxHeartbeats 1000000 in
theorem Learn_nil (bit : Int) (w : World) : Calls Tryz.prog 15 #[.pointer none, .int .i64 bit] w fun e w' => e = .returned (.int .i64 1) ∧ w = w' := by
  have HM := hid (made_nil w)
  go_enter Tryz.func15, Tryz.ntmps15
  go_wp2_with fail
  refine HM.out.mono ?_
  rintro r w1 ⟨rfl, rfl⟩
  go_wp2_with fail
  go_ret
  exact ⟨rfl, rfl⟩
set_option maxRecDepth 10000 in
set_option maxHeartbeats 1000000 in
theorem Learn_zero (g : Nat) (bit : Int) (w : World) (c0 : w.cell? ⟨g, 0, none⟩ = some (.pointer none)) : Calls Tryz.prog 15 #[pt g, .int .i64 bit] w fun e w' => e = .returned (.int .i64 1) ∧ w = w' := by
  have HM := hid (made_zero g w c0)
  unfold pt
  go_enter Tryz.func15, Tryz.ntmps15
  go_wp2_with fail
  refine HM.out.mono ?_
  rintro r w1 ⟨rfl, rfl⟩
  go_wp2_with fail
  go_ret
  exact ⟨rfl, rfl⟩
set_option maxRecDepth 10000 in
set_option maxHeartbeats 1000000 in
theorem Guess_nil (w : World) : Calls Tryz.prog 10 #[.pointer none] w fun e w' => e = .returned (.int .i64 0) ∧ w = w' := by
  have HM := hid (made_nil w)
  go_enter Tryz.func10, Tryz.ntmps10
  go_wp2_with fail
  refine HM.out.mono ?_
  rintro r w1 ⟨rfl, rfl⟩
  go_wp2_with fail
  go_ret
  exact ⟨rfl, rfl⟩
set_option maxRecDepth 10000 in
set_option maxHeartbeats 1000000 in
theorem Guess_zero (g : Nat) (w : World) (c0 : w.cell? ⟨g, 0, none⟩ = some (.pointer none)) : Calls Tryz.prog 10 #[pt g] w fun e w' => e = .returned (.int .i64 0) ∧ w = w' := by
  have HM := hid (made_zero g w c0)
  unfold pt
  go_enter Tryz.func10, Tryz.ntmps10
  go_wp2_with fail
  refine HM.out.mono ?_
  rintro r w1 ⟨rfl, rfl⟩
  go_wp2_with fail
  go_ret
  exact ⟨rfl, rfl⟩
set_option maxRecDepth 10000 in
set_option maxHeartbeats 1000000 in
theorem Bits_nil (w : World) : Calls Tryz.prog 21 #[.pointer none] w fun e w' => e = .returned (.int .i64 0) ∧ w = w' := by
  have HM := hid (made_nil w)
  go_enter Tryz.func21, Tryz.ntmps21
  go_wp2_with fail
  refine HM.out.mono ?_
  rintro r w1 ⟨rfl, rfl⟩
  go_wp2_with fail
  go_ret
  exact ⟨rfl, rfl⟩
set_option maxRecDepth 10000 in
set_option maxHeartbeats 1000000 in
theorem Bits_zero (g : Nat) (w : World) (c0 : w.cell? ⟨g, 0, none⟩ = some (.pointer none)) : Calls Tryz.prog 21 #[pt g] w fun e w' => e = .returned (.int .i64 0) ∧ w = w' := by
  have HM := hid (made_zero g w c0)
  unfold pt
  go_enter Tryz.func21, Tryz.ntmps21
  go_wp2_with fail
  refine HM.out.mono ?_
  rintro r w1 ⟨rfl, rfl⟩
  go_wp2_with fail
  go_ret
  exact ⟨rfl, rfl⟩
set_option maxRecDepth 10000 in
set_option maxHeartbeats 1000000 in
theorem Leans_nil (w : World) : Calls Tryz.prog 17 #[.pointer none] w fun e w' => e = .returned (.slice none 0 0) ∧ w = w' := by
  have HM := hid (made_nil w)
  go_enter Tryz.func17, Tryz.ntmps17
  go_wp2_with fail
  refine HM.out.mono ?_
  rintro r w1 ⟨rfl, rfl⟩
  go_wp2_with fail
  go_ret
  exact ⟨rfl, rfl⟩
set_option maxRecDepth 10000 in
set_option maxHeartbeats 1000000 in
theorem Leans_zero (g : Nat) (w : World) (c0 : w.cell? ⟨g, 0, none⟩ = some (.pointer none)) : Calls Tryz.prog 17 #[pt g] w fun e w' => e = .returned (.slice none 0 0) ∧ w = w' := by
  have HM := hid (made_zero g w c0)
  unfold pt
  go_enter Tryz.func17, Tryz.ntmps17
  go_wp2_with fail
  refine HM.out.mono ?_
  rintro r w1 ⟨rfl, rfl⟩
  go_wp2_with fail
  go_ret
  exact ⟨rfl, rfl⟩
set_option maxRecDepth 10000 in
set_option maxHeartbeats 1000000 in
theorem Contexts_bad {w : World} {g pa ct le n cap c : Nat} {v : Nat → Value} {h : List Nat} {L : List Int} (b : Bx w g pa ct le n cap c v h L) (hc : c ≠ 1) (H : Value) :
    Calls Tryz.prog 12 #[pt g, H] w fun e w' => e = .returned (.int .i64 2) ∧ w = w' := by
  have HM := hid (made_yes g w b.c0)
  have c4 := b.c4
  have z : ¬ (c : Int) = 1 := by omega
  clear b hc
  unfold pt
  go_enter Tryz.func12, Tryz.ntmps12
  go_wp2_with fail
  refine HM.out.mono ?_
  rintro r w1 ⟨rfl, rfl⟩
  go_wp2_with fail
  go_ret
  exact ⟨rfl, rfl⟩
set_option maxRecDepth 10000 in
set_option maxHeartbeats 1000000 in
theorem Learn_bad {w : World} {g pa ct le n cap c : Nat} {v : Nat → Value} {h : List Nat} {L : List Int} (b : Bx w g pa ct le n cap c v h L) (bit : Int) (h0 : ¬ bit = 0) (h1 : ¬ bit = 1) :
    Calls Tryz.prog 15 #[pt g, .int .i64 bit] w fun e w' => e = .returned (.int .i64 2) ∧ w = w' := by
  have HM := hid (made_yes g w b.c0)
  have x0 : (bit != 0) = true := by simpa using h0
  have x1 : (bit != 1) = true := by simpa using h1
  clear b
  unfold pt
  go_enter Tryz.func15, Tryz.ntmps15
  go_wp2_with fail
  refine HM.out.mono ?_
  rintro r w1 ⟨rfl, rfl⟩
  go_wp2_with fail
  go_ret
  exact ⟨rfl, rfl⟩
end Go.Proofs.YtkfdbibgjoaefaaGreatDoor
/-
  A byte's end.
-/
namespace Go.Proofs.YtkfdbibgjoaefaaGreatDoor
open Go.RowKit

set_option maxRecDepth 10000 in
set_option maxHeartbeats 2000000 in
theorem end_go {w : World} {g pa ct le n cap c : Nat} {v : Nat → Value} {h : List Nat} {L : List Int} (b : Bx w g pa ct le n cap c v h L) (P : Nat → Nat → World → Prop) (S : Nat → Nat → Prop) (f : Fam n g pa ct le P S) (kn : KnIs w)
    (T : Nat → TypeId) (x : Nat → Value) (K : Nat → FuncId) (R : Nat → Value) (wb : Nat)
    (hv : ∀ i, i < n → v i = .iface (T i) (x i)) (he : ∀ i, i < n → ∀ a w, (callFunc (K i) a).run Tryz.prog w = .ok (.enter (K i) a) w)
    (hm : ∀ i, i < n → ∀ w', P i 1 w' → (method 273 (T i) (x i) "quillpress/blend.end").run Tryz.prog w' = .ok (K i, R i) w')
    (hk : ∀ i, i < n → ∀ w', KnIs w' → P i 1 w' → Calls Tryz.prog (K i) #[R i, .int .u8 (wb : Nat)] w' fun e w'' => e = .returned (.tuple #[]) ∧ P i 2 w'' ∧ But (S i) w' w'')
    (h0 : ∀ i, i < n → P i 1 w) :
    Calls Tryz.prog 34 #[pt g, .int .u8 (wb : Nat)] w fun e w' => e = .returned (.tuple #[]) ∧ But (fun a => All n S a ∨ a = g) w w' ∧ (∀ i, i < n → P i 2 w') ∧ Bx w' g pa ct le n cap 1 v h L := by
  have c1 := b.c1
  have nmost := b.most
  unfold pt
  go_enter Tryz.func34, Tryz.ntmps34
  go_wp2_with fail
  go_loopw [11] (fun vi wr => ∃ i : Nat, i ≤ n ∧ vi = .int .i64 i ∧ But (All n S) w wr ∧ ∀ j, j < n → P j (if j < i then 1 + 1 else 1) wr) (fun vi _ => n - (intOf vi).toNat)
  case atStart => exact ⟨0, Nat.zero_le _, rfl, But.refl _ _, fun j hj => by rw [if_neg (by omega)]; exact h0 j hj⟩
  case round =>
    obtain ⟨i, hi, rfl, hw, hp⟩ := hrel
    by_cases hgo : i < n
    · have hz : (i : Int) < (n : Int) := by omega
      have b' := b.all f hw
      have kn' := kn.but hw f.off_all.2.2.2.2
      have p0 : P i 1 wr := by have := hp i hgo; rw [if_neg (by omega)] at this; exact this
      have pc : wr.cell? ⟨pa, i, none⟩ = some (.iface (T i) (x i)) := by rw [b'.part i hgo, hv i hgo]
      have HC := hid (hk i hgo wr kn' p0)
      have mm := hm i hgo wr p0
      have HS := hid (fun w2 (b2 : But (S i) wr w2) (p2 : P i 2 w2) => (⟨hw.trans (b2.mono fun a ha => .inl ⟨i, hgo, ha⟩), f.step hgo hp b2 p2⟩ : But (All n S) w w2 ∧ ∀ j, j < n → P j (if j < i + 1 then 1 + 1 else 1) w2))
      have ee := he i hgo
      clear hk he hm hp hw b'
      generalize T i = t at *
      generalize x i = y at *
      generalize K i = fn at *
      generalize R i = rv at *
      go_wp2_with fail
      refine HC.out.mono ?_
      rintro r w2 ⟨rfl, p2, b2⟩
      have FF := hid (HS.out _ b2 p2)
      go_wp2_with fail
      go_roundw
      case rel => exact ⟨i + 1, by omega, by go_num, FF.out.1, FF.out.2⟩
      case measure => simp [intOf]; omega
    · obtain rfl : i = n := by omega
      have b' := b.all f hw
      have p2 : ∀ j, j < i → P j 2 wr := fun j hj => by have := hp j hj; rw [if_pos hj] at this; exact this
      have b2 := b'.setC 1
      have g4 := b'.c4
      have ff : wr.frozen? ⟨g, 4, none⟩ = false := row_free b'.row 4
      have x2 : But (· = g) wr (wr.setCell ⟨g, 4, none⟩ (.int .u32 1)) := (But.refl (· = g) wr).set ⟨g, 4, none⟩ _ (.inl rfl)
      clear hk he hm hp b'
      go_wp2_with fail
      refine bodyPost_end (results_none rfl _ _ _) rfl ⟨rfl, (hw.mono fun a h => .inl (.inl h)).trans (x2.mono fun a h => .inl (.inr h)), fun j hj => f.stay j 2 _ _ _ hj (p2 j hj) x2 (fun a h e => (f.off j hj a h).1 e), b2⟩
end Go.Proofs.YtkfdbibgjoaefaaGreatDoor
