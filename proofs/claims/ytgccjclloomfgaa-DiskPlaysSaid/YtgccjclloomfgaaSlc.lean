/-
  Parts of a slice: x[k:], x[:k], x[i:j].
-/
import Derived.Test.YtgccjclloomfgaaDsk
namespace Go.Proofs.Ytgccjclloomfgaa
open Go.RowKit

theorem add_zero (a : Addr) : a.add 0 = a := by unfold Addr.add; simp
theorem slice_cut (A : Option Addr) (n c k : Nat) (hk : k ≤ c) (w' : World) : (Instr.slice 27 (.slice A n c) none (some (.int .i64 (k : Nat))) none).run Try.prog w' = .ok (.slice A k c) w' := by
  have hs : (sizeOf (Try.prog.elem 27)).run Try.prog w' = .ok 1 w' := by kernel_rfl
  rw [run_slice_h (ht := by kernel_rfl) (h0 := by omega) (h2 := by omega), hs]
  have e : (if c = 0 then A else A.map (fun x => x.add (0 * 1))) = A := by
    split
    · rfl
    · cases A with
      | none => rfl
      | some a => simp [add_zero]
  simp [Result.andThen, sliced]
  rw [show (fun x : Addr => x.add 0) = id from funext add_zero]
  simp
theorem slice_part {w : World} {A : Option Addr} {n c : Nat} {l : List UInt8} (h : IsBB w w.heap.size A n c l) (i j : Nat) (hi : i ≤ j) (hj : j ≤ n) :
    ∃ A', (∀ w' : World, (Instr.slice 27 (.slice A n c) (some (.int .i64 (i : Nat))) (some (.int .i64 (j : Nat))) none).run Try.prog w' = .ok (.slice A' (j - i) (c - i)) w') ∧ IsBB w w.heap.size A' (j - i) (c - i) ((l.drop i).take (j - i)) := by
  have hc := h.cap
  have hlen := h.len
  refine ⟨if c = i then A else A.map (·.add (i * 1)), fun w' => ?_, ⟨by rw [List.length_take, List.length_drop, hlen]; omega, by omega, by have := h.max; omega, by have := h.small; omega, fun hp => ?_⟩, fun hp ad' e => ?_⟩
  · have hs : (sizeOf (Try.prog.elem 27)).run Try.prog w' = .ok 1 w' := by kernel_rfl
    rw [run_slice_lh (ht := by kernel_rfl) (h0 := by omega) (h1 := by omega) (h2 := by omega), hs]
    simp [Result.andThen, sliced]
  · rw [List.length_take, List.length_drop, hlen] at hp
    obtain ⟨ad, e, hr⟩ := h.lies (by omega)
    subst e
    rw [if_neg (by omega)]
    refine ⟨_, rfl, fun k hk => ?_⟩
    rw [List.length_take, List.length_drop] at hk
    rw [Nat.mul_one, add_of_add, hr (i + k) (by omega), List.getElem_take, List.getElem_drop]
  · rw [List.length_take, List.length_drop, hlen] at hp
    obtain ⟨ad, e2, hr⟩ := h.lies (by omega)
    subst e2
    rw [if_neg (by omega)] at e
    cases e
    rw [block_of_add]
    exact h.low (by omega) ad rfl
end Go.Proofs.Ytgccjclloomfgaa
