/-
  ask: all parts lean, in order.
-/
import Derived.Test.YtkfdbibgjoaefaaDoorBx
import Derived.Test.YtkfdbibgjoaefaaDoorMt
namespace Go.Proofs.YtkfdbibgjoaefaaDoor
open Go.RowKit

set_option maxRecDepth 10000 in
set_option maxHeartbeats 1000000 in
theorem ask_any {w : World} {g pa ct le n cap c : Nat} {v : Nat → Value} {h : List Nat} {L : List Int} (b : Bx w g pa ct le n cap c v h L) (T : Nat → TypeId) (x : Nat → Value) (K : Nat → FuncId) (R : Nat → Value)
    (hv : ∀ i, i < n → v i = .iface (T i) (x i)) (he : ∀ i, i < n → ∀ a w, (callFunc (K i) a).run Tryd.prog w = .ok (.enter (K i) a) w) (M : Nat → List Int) (hm0 : M 0 = L)
    (hm : ∀ i, i < n → ∀ w', Mth w' (T i) (x i) "quillpress/blend.lean" (K i) (R i))
    (hc : ∀ i, i < n → ∀ w', But (· = le) w w' → Ro w' le 3 n (intsF (M i)) → Calls Tryd.prog (K i) #[R i, mo (h.getD i 0) c le n] w' fun e w'' => e = .returned (.int .i64 ((M (i + 1)).getD i 0)) ∧ Below w'.heap.size w' w'')
    (hM : ∀ i, i < n → (M (i + 1)).length = n ∧ ∀ j, j < n → (M (i + 1)).getD j 0 = if j = i then (M (i + 1)).getD i 0 else (M i).getD j 0) :
    Calls Tryd.prog 17 #[pt g] w fun e w' => e = .returned (.tuple #[]) ∧ But (· = le) w w' ∧ Ro w' le 3 n (intsF (M n)) := by
  have c1 := b.c1
  have n1 : ¬ g = le := b.ne.2.2.1
  have n2 : ¬ le = g := Ne.symm n1
  have nmost := b.most
  unfold pt
  go_enter Tryd.func17, Tryd.ntmps17
  go_wp2_with fail
  go_loopw [9] (fun vi wr => ∃ i : Nat, i ≤ n ∧ vi = .int .i64 i ∧ But (· = le) w wr ∧ Ro wr le 3 n (intsF (M i))) (fun vi _ => n - (intOf vi).toNat)
  case atStart => exact ⟨0, Nat.zero_le _, rfl, But.refl _ _, by rw [hm0]; exact b.lea⟩
  case round =>
    obtain ⟨i, hi, rfl, hw, hr⟩ := hrel
    by_cases hgo : i < n
    · have hz : (i : Int) < (n : Int) := by omega
      have hl := hM i hgo
      have b' : Bx wr g pa ct le n cap c v h (M i) := by
        refine b.setL hw hr ?_
        rcases Nat.eq_zero_or_pos i with rfl | h0
        · rw [hm0]; exact b.lenL
        · obtain ⟨k, rfl⟩ : ∃ k, i = k + 1 := ⟨i - 1, by omega⟩
          exact (hM k (by omega)).1
      have pc : wr.cell? ⟨pa, i, none⟩ = some (.iface (T i) (x i)) := by rw [b'.part i hgo, hv i hgo]
      have HM := hid (fun w' (k : Below wr.heap.size wr w') => moment_any (b'.below k) i hgo)
      have HC := hid (fun w' k1 k2 => hc i hgo w' k1 k2)
      have nn : ∀ w', _ := fun w' => (hm i hgo w').nil
      have mm : ∀ w', _ := fun w' => (hm i hgo w').row
      have ee := he i hgo
      have g3 := b'.c3
      have HR := hid hr
      have HL := hid hl.2
      clear b' hc hm he hr hl hM
      generalize T i = t at *
      generalize x i = y at *
      generalize K i = f at *
      generalize R i = r at *
      generalize h.getD i 0 = hh at *
      unfold pt at *
      unfold mo sl at *
      go_wp2_with fail
      go_region_held3 (fun w' => w'.cell? ⟨g, 3, none⟩ = some (.slice (some ⟨le, 0, none⟩) n n))
        (first | exact g3 | exact k3 | go_keep)
        (first
        | (go_at_call 18; go_must ((refine (HM.out _ (Below.drewN _ _ 1)).mono ?_); rintro r w1 ⟨rfl, b1⟩; have k3 := keeps b1 g3; have q1 := hw.trans (But.of_below (undrew b1)); have Q1 := hid q1; have R1 := hid (rok (undrew b1) HR.out)))
        | (((refine (HC.out _ Q1.out R1.out).mono ?_); rintro r w2 ⟨rfl, b2⟩; have k3 := keeps b2 k3; have Q2 := hid (Q1.out.trans (But.of_below b2)); have R2 := hid (R1.out.below b2); have f2 := R2.out.free i; have cc2 := R2.out.cell i hgo)))
      all_goals
        go_wp2_with fail
        go_roundw
        case rel => exact ⟨i + 1, by omega, by go_num, (Q2.out.set ⟨le, i, none⟩ _ (.inl rfl)), (R2.out.set i _).same fun j hj => by
          unfold intsF
          rw [HL.out j hj]
          split <;> rfl⟩
        case measure => simp [intOf]; omega
    · obtain rfl : i = n := by omega
      clear hc hm he hM
      go_wp2_with fail
      refine bodyPost_end (results_none rfl _ _ _) rfl ⟨rfl, hw, hr⟩
end Go.Proofs.YtkfdbibgjoaefaaDoor
