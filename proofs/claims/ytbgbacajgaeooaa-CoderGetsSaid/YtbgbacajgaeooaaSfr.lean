/-
  A list of bytes from its k-th on.
-/
import Derived.Test.YtbgbacajgaeooaaPut
import Derived.Deep.Cut
namespace Go.Proofs.Ytbgbacajgaeooaa
open Go.RowKit

theorem slice_from {w : World} {A : Option Addr} {n c : Nat} {l : List UInt8} (h : IsB w A n c l) (k : Nat) (hk : k ≤ n) :
    ∃ A', (∀ w' : World, (Instr.slice 30 (.slice A n c) (some (.int .i64 (k : Nat))) none none).run Try.prog w' = .ok (.slice A' (n - k) (c - k)) w') ∧ IsB w A' (n - k) (c - k) (l.drop k) ∧
      (0 < (l.drop k).length → ∀ ad', A' = some ad' → ∃ ad, A = some ad ∧ ad'.block = ad.block) := by
  have hc := h.cap
  have hlen := h.len
  refine ⟨if c = k then A else A.map (·.add (k * 1)), fun w' => ?_, ⟨by rw [List.length_drop, hlen], by omega, by have := h.max; omega, by have := h.small; omega, fun hp => ?_⟩, fun hp ad' e => ?_⟩
  · have hs : (sizeOf (Try.prog.elem 30)).run Try.prog w' = .ok 1 w' := by kernel_rfl
    rw [run_slice_l (ht := by kernel_rfl) (h0 := by omega) (h1 := by omega), hs]
    simp [Result.andThen, sliced]
  · rw [List.length_drop, hlen] at hp
    obtain ⟨ad, e, hr⟩ := h.lies (by omega)
    subst e
    rw [if_neg (by omega)]
    refine ⟨_, rfl, fun j hj => ?_⟩
    rw [List.length_drop] at hj
    rw [Nat.mul_one, add_of_add, hr (k + j) (by omega)]
    simp
  · rw [List.length_drop, hlen] at hp
    obtain ⟨ad, e2, _⟩ := h.lies (by omega)
    subst e2
    rw [if_neg (by omega)] at e
    cases e
    exact ⟨ad, rfl, block_of_add _ _⟩
end Go.Proofs.Ytbgbacajgaeooaa
