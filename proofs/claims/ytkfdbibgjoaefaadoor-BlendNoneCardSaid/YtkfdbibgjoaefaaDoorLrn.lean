/-
  The loops over all parts: learn, a byte's end, contexts.
-/
import Derived.Test.YtkfdbibgjoaefaaDoorAsk
import Derived.Test.YtkfdbibgjoaefaaDoorLe
namespace Go.Proofs.YtkfdbibgjoaefaaDoor
open Go.RowKit

/-- Parts that go from one phase to the next: P i k: part i is in phase k; S i: the blocks that are its own. -/
structure Fam (n g pa ct le : Nat) (P : Nat → Nat → World → Prop) (S : Nat → Nat → Prop) : Prop where
  stay : ∀ i k w w' (X : Nat → Prop), i < n → P i k w → But X w w' → (∀ a, S i a → ¬ X a) → P i k w'
  apart : ∀ i j, i < n → j < n → i ≠ j → ∀ a, S i a → ¬ S j a
  off : ∀ i, i < n → ∀ a, S i a → a ≠ g ∧ a ≠ pa ∧ a ≠ ct ∧ a ≠ le ∧ a ≠ 0
/-- The blocks of all of them. -/
def All (n : Nat) (S : Nat → Nat → Prop) : Nat → Prop := fun a => ∃ i, i < n ∧ S i a
section
variable {n g pa ct le : Nat} {P : Nat → Nat → World → Prop} {S : Nat → Nat → Prop} {w w' : World}
theorem Fam.off_all (f : Fam n g pa ct le P S) : ¬ All n S g ∧ ¬ All n S pa ∧ ¬ All n S ct ∧ ¬ All n S le ∧ ¬ All n S 0 :=
  ⟨fun ⟨i, hi, h⟩ => (f.off i hi _ h).1 rfl, fun ⟨i, hi, h⟩ => (f.off i hi _ h).2.1 rfl, fun ⟨i, hi, h⟩ => (f.off i hi _ h).2.2.1 rfl, fun ⟨i, hi, h⟩ => (f.off i hi _ h).2.2.2.1 rfl, fun ⟨i, hi, h⟩ => (f.off i hi _ h).2.2.2.2 rfl⟩
theorem Fam.below (f : Fam n g pa ct le P S) {i k : Nat} (hi : i < n) (h : P i k w) (b : Below w.heap.size w w') : P i k w' := f.stay i k w w' (fun _ => False) hi h (But.of_below b) (fun _ _ h => h)
theorem Fam.step (f : Fam n g pa ct le P S) {i k : Nat} (hi : i < n) (h : ∀ j, j < n → P j (if j < i then k + 1 else k) w) (b : But (S i) w w') (h' : P i (k + 1) w') : ∀ j, j < n → P j (if j < i + 1 then k + 1 else k) w' := by
  intro j hj
  by_cases e : j = i
  · subst e; rw [if_pos (by omega)]; exact h'
  · have := f.stay j _ w w' (S i) hj (h j hj) b (fun a => f.apart j i hj hi e a)
    by_cases e2 : j < i
    · rw [if_pos e2] at this; rw [if_pos (by omega)]; exact this
    · rw [if_neg e2] at this; rw [if_neg (by omega)]; exact this
theorem Bx.all {cap c : Nat} {v : Nat → Value} {h : List Nat} {L : List Int} (b : Bx w g pa ct le n cap c v h L) (f : Fam n g pa ct le P S) (x : But (All n S) w w') : Bx w' g pa ct le n cap c v h L := b.but x f.off_all.1 f.off_all.2.1 f.off_all.2.2.1 f.off_all.2.2.2.1
end
set_option maxRecDepth 10000 in
set_option maxHeartbeats 2000000 in
theorem learn_go {w : World} {g pa ct le n cap c : Nat} {v : Nat → Value} {h : List Nat} {L : List Int} (b : Bx w g pa ct le n cap c v h L) (P : Nat → Nat → World → Prop) (S : Nat → Nat → Prop) (f : Fam n g pa ct le P S) (kn : KnIs w)
    (T : Nat → TypeId) (x : Nat → Value) (K : Nat → FuncId) (R : Nat → Value) (bt : Int) (bn : Nat) (hbt : (bt = 0 ∧ bn = 0) ∨ (bt = 1 ∧ bn = 1)) (hc256 : c < 256)
    (hv : ∀ i, i < n → v i = .iface (T i) (x i)) (he : ∀ i, i < n → ∀ a w, (callFunc (K i) a).run Tryd.prog w = .ok (.enter (K i) a) w)
    (hn : ∀ i, i < n → ∀ w', (nilAhead 251 (T i) (x i) "quillpress/blend.learn").run Tryd.prog w' = .ok (some false) w')
    (hm : ∀ i, i < n → ∀ w', P i 0 w' → (method 251 (T i) (x i) "quillpress/blend.learn").run Tryd.prog w' = .ok (K i, R i) w')
    (hk : ∀ i, i < n → ∀ w', KnIs w' → P i 0 w' → Ro w' le 3 n (intsF L) → Calls Tryd.prog (K i) #[R i, mo (h.getD i 0) c le n, .int .i64 (L.getD i 0), .int .i64 bt] w' fun e w'' => e = .returned (.tuple #[]) ∧ P i 1 w'' ∧ But (S i) w' w'')
    (h0 : ∀ i, i < n → P i 0 w) (Q : World → Prop)
    (hq : ∀ w', But (fun a => All n S a ∨ a = g) w w' → KnIs w' → (∀ i, i < n → P i 1 w') → Bx w' g pa ct le n cap (c * 2 + bn) v h L → ∃ k, k ≤ 8 ∧ 2 ^ k ≤ c * 2 + bn ∧ c * 2 + bn < 2 ^ (k + 1) ∧
      (if k = 8 then Calls Tryd.prog 19 #[pt g, .int .u8 ((c * 2 + bn) % 256 : Nat)] w' fun e w'' => e = .returned (.tuple #[]) ∧ Calls Tryd.prog 17 #[pt g] w'' fun e w3 => e = .returned (.tuple #[]) ∧ Q w3
       else Calls Tryd.prog 17 #[pt g] w' fun e w3 => e = .returned (.tuple #[]) ∧ Q w3)) :
    Calls Tryd.prog 7 #[pt g, .int .i64 bt] w fun e w' => e = .returned (.int .i64 0) ∧ Q w' := by
  have c0 := b.c0
  have c1 := b.c1
  have nmost := b.most
  have HM0 := hid (made_yes g w c0)
  obtain ⟨c2, hc2⟩ : ∃ c2, c * 2 + bn = c2 := ⟨_, rfl⟩
  rw [hc2] at hq
  have HQ := hid hq
  clear hq
  unfold pt
  rcases hbt with ⟨rfl, rfl⟩ | ⟨rfl, rfl⟩
  all_goals
    go_enter Tryd.func7, Tryd.ntmps7
    go_wp2_with fail
    refine HM0.out.mono ?_
    rintro r w1 ⟨rfl, rfl⟩
    go_wp2_with fail
    go_loopw [21] (fun vi wr => ∃ i : Nat, i ≤ n ∧ vi = .int .i64 i ∧ But (All n S) w wr ∧ ∀ j, j < n → P j (if j < i then 0 + 1 else 0) wr) (fun vi _ => n - (intOf vi).toNat)
    case atStart => exact ⟨0, Nat.zero_le _, rfl, But.refl _ _, fun j hj => by rw [if_neg (by omega)]; exact h0 j hj⟩
    case round =>
      obtain ⟨i, hi, rfl, hw, hp⟩ := hrel
      by_cases hgo : i < n
      · have hz : (i : Int) < (n : Int) := by omega
        have b' := b.all f hw
        have kn' := kn.but hw f.off_all.2.2.2.2
        have p0 : P i 0 wr := by have := hp i hgo; rw [if_neg (by omega)] at this; exact this
        have pc : wr.cell? ⟨pa, i, none⟩ = some (.iface (T i) (x i)) := by rw [b'.part i hgo, hv i hgo]
        have HM := hid (fun w' (k : Below wr.heap.size wr w') => moment_any (b'.below k) i hgo)
        have HC := hid (hk i hgo)
        have nn := hn i hgo
        have HR := hid (hm i hgo)
        have HP := hid (fun w' (k : Below wr.heap.size wr w') => f.below hgo p0 k)
        have HKn := hid (fun w' (k : Below wr.heap.size wr w') => kn'.below k)
        have HL := hid (fun w' (k : Below wr.heap.size wr w') => b'.lea.below k)
        have HS := hid (fun w2 (b2 : But (S i) wr w2) (p2 : P i 1 w2) => (⟨hw.trans (b2.mono fun a ha => .inl ⟨i, hgo, ha⟩), f.step hgo hp b2 p2⟩ : But (All n S) w w2 ∧ ∀ j, j < n → P j (if j < i + 1 then 0 + 1 else 0) w2))
        have ee := he i hgo
        have g3 := b'.c3
        have l3 := b'.lea.cell i hgo
        have sg : ¬ S i g := fun h => (f.off i hgo _ h).1 rfl
        have sl3 : ¬ S i le := fun h => (f.off i hgo _ h).2.2.2.1 rfl
        clear hk he hn hm hp hw b'
        unfold intsF at l3
        generalize T i = t at *
        generalize x i = y at *
        generalize K i = fn at *
        generalize R i = rv at *
        generalize h.getD i 0 = hh at *
        generalize L.getD i 0 = ll at *
        unfold mo sl pt at *
        go_wp2_with fail
        go_region_held3 (fun w' => w'.cell? ⟨g, 3, none⟩ = some (.slice (some ⟨le, 0, none⟩) n n) ∧ w'.cell? ⟨le, i, none⟩ = some (.int .i64 ll))
          (first | exact ⟨g3, l3⟩ | exact ⟨k3, k4⟩ | go_keep)
          (first
          | (go_at_call 18; go_must ((refine (HM.out _ (Below.drewN _ _ 1)).mono ?_); rintro r w1 ⟨rfl, b1⟩; have k3 := keeps b1 g3; have k4 := keeps b1 l3; have b1 := undrew b1; have B1 := hid b1; have mm := HR.out _ (HP.out _ b1)))
          | ((refine (HC.out _ (HKn.out _ B1.out) (HP.out _ B1.out) (HL.out _ B1.out)).mono ?_); rintro r w2 ⟨rfl, p2, b2⟩; have k3 := b2.cell k3 sg; have k4 := b2.cell k4 sl3; have FF := hid (HS.out _ ((But.of_below B1.out).trans b2) p2)))
        all_goals
          go_wp2_with fail
          go_roundw
          case rel => exact ⟨i + 1, by omega, by go_num, FF.out.1, FF.out.2⟩
          case measure => simp [intOf]; omega
      · obtain rfl : i = n := by omega
        have b' := b.all f hw
        have kn' := kn.but hw f.off_all.2.2.2.2
        have p1 : ∀ j, j < i → P j 1 wr := fun j hj => by have := hp j hj; rw [if_pos hj] at this; exact this
        have b2 := b'.setC c2
        have g4 := b'.c4
        have ff : wr.frozen? ⟨g, 4, none⟩ = false := row_free b'.row 4
        have x2 : But (· = g) wr (wr.setCell ⟨g, 4, none⟩ (.int .u32 (c2 : Int))) := (But.refl (· = g) wr).set ⟨g, 4, none⟩ _ (.inl rfl)
        have HX := HQ.out _ ((hw.mono fun a h => .inl (.inl h)).trans (x2.mono fun a h => .inl (.inr h))) (kn'.but x2 (Ne.symm b.ne.2.2.2.2.2.2.1)) (fun j hj => f.stay j 1 _ _ _ hj (p1 j hj) x2 (fun a h e => (f.off j hj a h).1 e)) b2
        obtain ⟨k, k8, h1, h2, hX⟩ := HX
        have HB := hid (Bits_any b2 (by omega) k k8 h1 h2)
        have n4 := b2.c4
        clear b2 x2 hk he hn hm hp HQ h1 h2
        clear b'
        obtain ⟨W, hW⟩ : ∃ W, W = wr.setCell ⟨g, 4, none⟩ (.int .u32 (c2 : Int)) := ⟨_, rfl⟩
        rw [← hW] at hX HB n4
        have e1 : (c : Int) * 2 < 4294967296 := by omega
        first | have e2 : (c : Int) * 2 + 1 = (c2 : Int) := by omega | have e2 : (c : Int) * 2 = (c2 : Int) := by omega
        have e3 : (c2 : Int) < 4294967296 := by omega
        obtain ⟨c8, h8⟩ : ∃ c8, c2 % 256 = c8 := ⟨_, rfl⟩
        rw [h8] at hX
        have e4 : (c2 : Int) % 256 = (c8 : Int) := by omega
        clear h8
        have HW := hid hW
        clear hW
        by_cases k8' : k = 8
        · rw [if_pos k8'] at hX
          have HX := hid hX
          subst k8'
          unfold pt at *
          clear hX
          go_wp2_with fail
          rw [← HW.out]
          go_wp2_with fail
          refine HB.out.mono ?_
          rintro r w1 ⟨rfl, rfl⟩
          go_wp2_with fail
          refine HX.out.mono ?_
          rintro r w1 ⟨rfl, hy⟩
          go_wp2_with fail
          refine hy.mono ?_
          rintro r w1 ⟨rfl, hy⟩
          go_wp2_with fail
          go_ret
          exact ⟨rfl, hy⟩
        · rw [if_neg k8'] at hX
          have HX := hid hX
          have k9 : ¬ (k : Int) = 8 := by omega
          unfold pt at *
          clear hX k8' k8 e4
          go_wp2_with fail
          rw [← HW.out]
          go_wp2_with fail
          refine HB.out.mono ?_
          rintro r w1 ⟨rfl, rfl⟩
          clear e1 e2 e3 hc256 nmost
          go_wp2_with fail
          refine HX.out.mono ?_
          rintro r w1 ⟨rfl, hy⟩
          go_wp2_with fail
          go_ret
          exact ⟨rfl, hy⟩
end Go.Proofs.YtkfdbibgjoaefaaDoor
