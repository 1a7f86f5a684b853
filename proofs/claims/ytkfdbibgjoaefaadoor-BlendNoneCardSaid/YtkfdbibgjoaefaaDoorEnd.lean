/-
  A byte's end.
-/
import Derived.Test.YtkfdbibgjoaefaaDoorLrn
namespace Go.Proofs.YtkfdbibgjoaefaaDoor
open Go.RowKit

set_option maxRecDepth 10000 in
set_option maxHeartbeats 2000000 in
theorem end_go {w : World} {g pa ct le n cap c : Nat} {v : Nat → Value} {h : List Nat} {L : List Int} (b : Bx w g pa ct le n cap c v h L) (P : Nat → Nat → World → Prop) (S : Nat → Nat → Prop) (f : Fam n g pa ct le P S) (kn : KnIs w)
    (T : Nat → TypeId) (x : Nat → Value) (K : Nat → FuncId) (R : Nat → Value) (wb : Nat)
    (hv : ∀ i, i < n → v i = .iface (T i) (x i)) (he : ∀ i, i < n → ∀ a w, (callFunc (K i) a).run Tryd.prog w = .ok (.enter (K i) a) w)
    (hm : ∀ i, i < n → ∀ w', P i 1 w' → (method 251 (T i) (x i) "quillpress/blend.end").run Tryd.prog w' = .ok (K i, R i) w')
    (hk : ∀ i, i < n → ∀ w', KnIs w' → P i 1 w' → Calls Tryd.prog (K i) #[R i, .int .u8 (wb : Nat)] w' fun e w'' => e = .returned (.tuple #[]) ∧ P i 2 w'' ∧ But (S i) w' w'')
    (h0 : ∀ i, i < n → P i 1 w) :
    Calls Tryd.prog 19 #[pt g, .int .u8 (wb : Nat)] w fun e w' => e = .returned (.tuple #[]) ∧ But (fun a => All n S a ∨ a = g) w w' ∧ (∀ i, i < n → P i 2 w') ∧ Bx w' g pa ct le n cap 1 v h L := by
  have c1 := b.c1
  have nmost := b.most
  unfold pt
  go_enter Tryd.func19, Tryd.ntmps19
  go_wp2_with fail
  go_loopw [11] (fun vi wr => ∃ i : Nat, i ≤ n ∧ vi = .int .i64 i ∧ But (All n S) w wr ∧ ∀ j, j < n → P j (if j < i then 1 + 1 else 1) wr) (fun vi _ => n - (intOf vi).toNat)
  case atStart => exact ⟨0, Nat.zero_le _, rfl, But.refl _ _, fun j hj => by rw [if_neg (by omega)]; exact h0 j hj⟩
  case round =>
    obtain ⟨i, hi, rfl, hw, hp⟩ := hrel
    by_cases hgo : i < n
    · have hz : (i : Int) < (n : Int) := by omega
      have b' := b.all f hw
      have kn' := kn.but hw f.off_all.2.2.2.2
      have p0 : P i 1 wr := by have := hp i hgo; rw [if_neg (by omega)] at this; exact this
      have pc : wr.cell? ⟨pa, i, none⟩ = some (.iface (T i) (x i)) := by rw [b'.part i hgo, hv i hgo]
      have HC := hid (hk i hgo wr kn' p0)
      have mm := hm i hgo wr p0
      have HS := hid (fun w2 (b2 : But (S i) wr w2) (p2 : P i 2 w2) => (⟨hw.trans (b2.mono fun a ha => .inl ⟨i, hgo, ha⟩), f.step hgo hp b2 p2⟩ : But (All n S) w w2 ∧ ∀ j, j < n → P j (if j < i + 1 then 1 + 1 else 1) w2))
      have ee := he i hgo
      clear hk he hm hp hw b'
      generalize T i = t at *
      generalize x i = y at *
      generalize K i = fn at *
      generalize R i = rv at *
      go_wp2_with fail
      refine HC.out.mono ?_
      rintro r w2 ⟨rfl, p2, b2⟩
      have FF := hid (HS.out _ b2 p2)
      go_wp2_with fail
      go_roundw
      case rel => exact ⟨i + 1, by omega, by go_num, FF.out.1, FF.out.2⟩
      case measure => simp [intOf]; omega
    · obtain rfl : i = n := by omega
      have b' := b.all f hw
      have p2 : ∀ j, j < i → P j 2 wr := fun j hj => by have := hp j hj; rw [if_pos hj] at this; exact this
      have b2 := b'.setC 1
      have g4 := b'.c4
      have ff : wr.frozen? ⟨g, 4, none⟩ = false := row_free b'.row 4
      have x2 : But (· = g) wr (wr.setCell ⟨g, 4, none⟩ (.int .u32 1)) := (But.refl (· = g) wr).set ⟨g, 4, none⟩ _ (.inl rfl)
      clear hk he hm hp b'
      go_wp2_with fail
      refine bodyPost_end (results_none rfl _ _ _) rfl ⟨rfl, (hw.mono fun a h => .inl (.inl h)).trans (x2.mono fun a h => .inl (.inr h)), fun j hj => f.stay j 2 _ _ _ hj (p2 j hj) x2 (fun a h e => (f.off j hj a h).1 e), b2⟩
end Go.Proofs.YtkfdbibgjoaefaaDoor
