/-
  A blend, and two blends side by side: what each call says, and what it leaves as it was.
-/
import Derived.Test.YtkfdbibgjoaefaaDoorBl
namespace Go.Proofs.YtkfdbibgjoaefaaDoor
open Go.RowKit

theorem lastD_getD (L : List Int) : L.getLastD 0 = L.getD (L.length - 1) 0 := by
  rw [List.getD_eq_getElem?_getD, ← List.getLast?_eq_getElem?, List.getLastD_eq_getLast?]
theorem bl_guess {w : World} {F : Nat → Prop} {g : Nat} {b : Bl} (h : BlAt w F g b) (f : Fit b) (kn : KnIs w) : Calls Tryd.prog 8 #[pt g] w fun e w' => e = .returned (.int .i64 b.guess) ∧ Below w.heap.size w w' := by
  obtain ⟨pa, ct, le, cap, v, S, bx, _⟩ := h.ex
  have e : b.guess = 16 * sq (b.leans.getD (b.l.length - 1) 0) := by
    unfold Bl.guess
    rw [lastD_getD, b.leans_len]
  rw [e]
  exact Guess_any bx kn (lean_in f.rdy.rng _)
theorem bl_bits {w : World} {F : Nat → Prop} {g : Nat} {b : Bl} (h : BlAt w F g b) (f : Fit b) : Calls Tryd.prog 9 #[pt g] w fun e w' => e = .returned (.int .i64 (b.bits : Nat)) ∧ w = w' := by
  obtain ⟨pa, ct, le, cap, v, S, bx, _⟩ := h.ex
  have h7 := f.ok.bits
  have hc := f.ok.c
  have := Nat.pow_le_pow_right (n := 2) (by decide) (show b.bits + 1 ≤ 8 from by omega)
  exact Bits_any bx (by omega) b.bits (by omega) hc.1 hc.2
theorem bl_learn_bad {w : World} {F : Nat → Prop} {g : Nat} {b : Bl} (h : BlAt w F g b) (bit : Int) (h0 : ¬ bit = 0) (h1 : ¬ bit = 1) : Calls Tryd.prog 7 #[pt g, .int .i64 bit] w fun e w' => e = .returned (.int .i64 2) ∧ w = w' := by
  obtain ⟨pa, ct, le, cap, v, S, bx, _⟩ := h.ex
  exact Learn_bad bx bit h0 h1
theorem bl_ctx_bad {w : World} {F : Nat → Prop} {g : Nat} {b : Bl} (h : BlAt w F g b) (hc : b.c ≠ 1) (H : Value) : Calls Tryd.prog 6 #[pt g, H] w fun e w' => e = .returned (.int .i64 2) ∧ w = w' := by
  obtain ⟨pa, ct, le, cap, v, S, bx, _⟩ := h.ex
  exact Contexts_bad bx hc H
/-- One blend. -/
structure On (w0 w : World) (F : Nat → Prop) (g : Nat) (b : Bl) : Prop where
  kn : KnIs w
  bel : Below w0.heap.size w0 w
  at_ : BlAt w F g b
  fit : Fit b
  can : Can b.l
  low : ∀ a, F a → w0.heap.size ≤ a
  pos : 0 < w0.heap.size
section
variable {w0 w w' : World} {F : Nat → Prop} {g : Nat} {b : Bl}
theorem On.below (h : On w0 w F g b) (x : Below w.heap.size w w') : On w0 w' F g b := ⟨h.kn.below x, h.bel.trans (x.mono h.bel.size), h.at_.below x, h.fit, h.can, h.low, h.pos⟩
theorem On.guess (h : On w0 w F g b) : Calls Tryd.prog 8 #[pt g] w fun e w' => e = .returned (.int .i64 b.guess) ∧ On w0 w' F g b := by
  refine (bl_guess h.at_ h.fit h.kn).mono ?_
  rintro e w' ⟨rfl, x⟩
  exact ⟨rfl, h.below x⟩
theorem On.learn (h : On w0 w F g b) (one : Bool) (hw : b.whole < 4294967294) : Calls Tryd.prog 7 #[pt g, .int .i64 (if one then 1 else 0)] w fun e w' => e = .returned (.int .i64 0) ∧ On w0 w' F g (b.learn one) := by
  refine (bl_learn h.at_ h.fit h.kn h.can one).mono ?_
  rintro e w' ⟨rfl, a, x⟩
  exact ⟨rfl, h.kn.but x (fun e => by have := h.low _ e; have := h.pos; omega), h.bel.trans (x.below h.low h.bel.size), a, h.fit.learn one hw, h.can.learn one, h.low, h.pos⟩
end
/-- Two blends side by side. -/
structure Sd (w0 w : World) (F1 F2 : Nat → Prop) (g1 g2 : Nat) (b c : Bl) : Prop where
  one : On w0 w F1 g1 b
  two : On w0 w F2 g2 c
  apart : ∀ a, F1 a → ¬ F2 a
section
variable {w0 w w' : World} {F1 F2 : Nat → Prop} {g1 g2 : Nat} {b c : Bl}
theorem Sd.below (h : Sd w0 w F1 F2 g1 g2 b c) (x : Below w.heap.size w w') : Sd w0 w' F1 F2 g1 g2 b c := ⟨h.one.below x, h.two.below x, h.apart⟩
theorem Sd.swap (h : Sd w0 w F1 F2 g1 g2 b c) : Sd w0 w F2 F1 g2 g1 c b := ⟨h.two, h.one, fun a h2 h1 => h.apart a h1 h2⟩
theorem Sd.guess (h : Sd w0 w F1 F2 g1 g2 b c) : Calls Tryd.prog 8 #[pt g1] w fun e w' => e = .returned (.int .i64 b.guess) ∧ Sd w0 w' F1 F2 g1 g2 b c := by
  refine (bl_guess h.one.at_ h.one.fit h.one.kn).mono ?_
  rintro e w' ⟨rfl, x⟩
  exact ⟨rfl, h.below x⟩
theorem Sd.guess2 (h : Sd w0 w F1 F2 g1 g2 b c) : Calls Tryd.prog 8 #[pt g2] w fun e w' => e = .returned (.int .i64 c.guess) ∧ Sd w0 w' F1 F2 g1 g2 b c := by
  refine h.swap.guess.mono ?_
  rintro e w' ⟨rfl, x⟩
  exact ⟨rfl, x.swap⟩
theorem Sd.learn (h : Sd w0 w F1 F2 g1 g2 b c) (one : Bool) (hw : b.whole < 4294967294) : Calls Tryd.prog 7 #[pt g1, .int .i64 (if one then 1 else 0)] w fun e w' => e = .returned (.int .i64 0) ∧ Sd w0 w' F1 F2 g1 g2 (b.learn one) c := by
  refine (bl_learn h.one.at_ h.one.fit h.one.kn h.one.can one).mono ?_
  rintro e w' ⟨rfl, a, x⟩
  have z : ¬ F1 0 := fun e => by have := h.one.low _ e; have := h.one.pos; omega
  exact ⟨rfl, ⟨h.one.kn.but x z, h.one.bel.trans (x.below h.one.low h.one.bel.size), a, h.one.fit.learn one hw, h.one.can.learn one, h.one.low, h.one.pos⟩,
    ⟨h.one.kn.but x z, h.one.bel.trans (x.below h.one.low h.one.bel.size), h.two.at_.on x (fun a h2 h1 => h.apart a h1 h2), h.two.fit, h.two.can, h.two.low, h.two.pos⟩, h.apart⟩
theorem Sd.learn2 (h : Sd w0 w F1 F2 g1 g2 b c) (one : Bool) (hw : c.whole < 4294967294) : Calls Tryd.prog 7 #[pt g2, .int .i64 (if one then 1 else 0)] w fun e w' => e = .returned (.int .i64 0) ∧ Sd w0 w' F1 F2 g1 g2 b (c.learn one) := by
  refine (h.swap.learn one hw).mono ?_
  rintro e w' ⟨rfl, x⟩
  exact ⟨rfl, x.swap⟩
end
end Go.Proofs.YtkfdbibgjoaefaaDoor
