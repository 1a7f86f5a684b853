/-
  The document's Has, two.
-/
import Derived.Test.YtnanmdfbgoahjaaKit
set_option linter.unusedVariables false
set_option linter.unusedSimpArgs false
namespace Go.Proofs.Ytnanmdfbgoahjaa
open Go.RowKit

def hasV (k : Nat) : Value := .agg #[.bool (hasK k 0), .bool (hasK k 1), .bool (hasK k 2), .bool (hasK k 3), .bool (hasK k 4), .bool (hasK k 5)]
def hasC (k : Nat) : Array Value := #[.bool (hasK k 0), .bool (hasK k 1), .bool (hasK k 2), .bool (hasK k 3), .bool (hasK k 4), .bool (hasK k 5)]
theorem u52 : Try.prog.underlying 52 = some (.array 6 4) := by kernel_rfl
theorem loadVar_has (w : World) (g : Nat) (t : TypeId) (cs : Array Value) (f : Nat × Nat) (h : w.heap[g]? = some (.cells cs t f)) (h8 : cs.size = 6) : (loadVar 52 ⟨g, 0, none⟩).run Try.prog w = .ok (.agg cs) w :=
  run_loadVar_row w g t 52 cs f _ h u52 rfl (by rw [h8]; kernel_rfl)
theorem results_has (tmps : Array Value) (w : World) (g : Nat) (t : TypeId) (cs : Array Value) (f : Nat × Nat)
    (hp : tmps.getD 2 undef = .pointer (some ⟨g, 0, none⟩)) (hg : w.heap[g]? = some (.cells cs t f)) (h8 : cs.size = 6) : (results Try.f20 tmps).run Try.prog w = .ok (.tuple #[.agg cs, tmps.getD 3 undef]) w := by
  have hp' : tmps[2]?.getD undef = .pointer (some ⟨g, 0, none⟩) := by simpa using hp
  have h : Try.f20.results = #[.cell 2 52, .tmp 3] := by kernel_rfl
  simp [results, h, hp', asAddr, loadVar_has w g t cs f hg h8, Result.andThen]
theorem alloc_at (w : World) (c : Array Value) (t : TypeId) : (w.alloc (.cells c t (0, 0))).heap[w.heap.size]? = some (.cells c t (0, 0)) := by
  show (w.heap.push _)[w.heap.size]? = _
  exact Array.getElem?_push_size
set_option maxRecDepth 10000 in
set_option maxHeartbeats 4000000 in
theorem Has_any (k : Nat) (hk : k < 256) (w : World) : Calls Try.prog 20 #[.int .u8 (k : Nat)] w fun e w' => e = .returned (.tuple #[hasV k, .bool (decide (1 ≤ k ∧ k ≤ 9))]) ∧ Below w.heap.size w w' := by
  by_cases h1 : k = 1
  · subst h1
    go_enter Try.func20, Try.ntmps20
    go_wp2_with fail
    refine bodyPost_ret (results_has _ _ w.heap.size _ _ _ rfl (alloc_at _ _ _) rfl) rfl ?_
    exact ⟨by first | rfl | kernel_rfl, (Below.refl _ _).alloc (Nat.le_refl _) _⟩
  by_cases h2 : k = 2
  · subst h2
    go_enter Try.func20, Try.ntmps20
    go_wp2_with fail
    refine bodyPost_ret (results_has _ _ w.heap.size _ _ _ rfl (alloc_at _ _ _) rfl) rfl ?_
    exact ⟨by first | rfl | kernel_rfl, (Below.refl _ _).alloc (Nat.le_refl _) _⟩
  by_cases h3 : k = 3
  · subst h3
    go_enter Try.func20, Try.ntmps20
    go_wp2_with fail
    refine bodyPost_ret (results_has _ _ w.heap.size _ _ _ rfl (alloc_at _ _ _) rfl) rfl ?_
    exact ⟨by first | rfl | kernel_rfl, (Below.refl _ _).alloc (Nat.le_refl _) _⟩
  by_cases h4 : k = 4
  · subst h4
    go_enter Try.func20, Try.ntmps20
    go_wp2_with fail
    refine bodyPost_ret (results_has _ _ w.heap.size _ _ _ rfl (alloc_at _ _ _) rfl) rfl ?_
    exact ⟨by first | rfl | kernel_rfl, (Below.refl _ _).alloc (Nat.le_refl _) _⟩
  by_cases h5 : k = 5
  · subst h5
    go_enter Try.func20, Try.ntmps20
    go_wp2_with fail
    refine bodyPost_ret (results_has _ _ w.heap.size _ _ _ rfl (alloc_at _ _ _) rfl) rfl ?_
    exact ⟨by first | rfl | kernel_rfl, (Below.refl _ _).alloc (Nat.le_refl _) _⟩
  by_cases h6 : k = 6
  · subst h6
    go_enter Try.func20, Try.ntmps20
    go_wp2_with fail
    refine bodyPost_ret (results_has _ _ w.heap.size _ _ _ rfl (alloc_at _ _ _) rfl) rfl ?_
    exact ⟨by first | rfl | kernel_rfl, (Below.refl _ _).alloc (Nat.le_refl _) _⟩
  by_cases h7 : k = 7
  · subst h7
    go_enter Try.func20, Try.ntmps20
    go_wp2_with fail
    refine bodyPost_ret (results_has _ _ w.heap.size _ _ _ rfl (alloc_at _ _ _) rfl) rfl ?_
    exact ⟨by first | rfl | kernel_rfl, (Below.refl _ _).alloc (Nat.le_refl _) _⟩
  by_cases h8 : k = 8
  · subst h8
    go_enter Try.func20, Try.ntmps20
    go_wp2_with fail
    refine bodyPost_ret (results_has _ _ w.heap.size _ _ _ rfl (alloc_at _ _ _) rfl) rfl ?_
    exact ⟨by first | rfl | kernel_rfl, (Below.refl _ _).alloc (Nat.le_refl _) _⟩
  by_cases h9 : k = 9
  · subst h9
    go_enter Try.func20, Try.ntmps20
    go_wp2_with fail
    refine bodyPost_ret (results_has _ _ w.heap.size _ _ _ rfl (alloc_at _ _ _) rfl) rfl ?_
    exact ⟨by first | rfl | kernel_rfl, (Below.refl _ _).alloc (Nat.le_refl _) _⟩
  have z1 : ((k : Int) == 1) = false := beq_eq_false_iff_ne.2 (by omega)
  have y1 : ¬ ((k : Int) = 1) := by omega
  have z2 : ((k : Int) == 2) = false := beq_eq_false_iff_ne.2 (by omega)
  have y2 : ¬ ((k : Int) = 2) := by omega
  have z3 : ((k : Int) == 3) = false := beq_eq_false_iff_ne.2 (by omega)
  have y3 : ¬ ((k : Int) = 3) := by omega
  have z4 : ((k : Int) == 4) = false := beq_eq_false_iff_ne.2 (by omega)
  have y4 : ¬ ((k : Int) = 4) := by omega
  have z5 : ((k : Int) == 5) = false := beq_eq_false_iff_ne.2 (by omega)
  have y5 : ¬ ((k : Int) = 5) := by omega
  have z6 : ((k : Int) == 6) = false := beq_eq_false_iff_ne.2 (by omega)
  have y6 : ¬ ((k : Int) = 6) := by omega
  have z7 : ((k : Int) == 7) = false := beq_eq_false_iff_ne.2 (by omega)
  have y7 : ¬ ((k : Int) = 7) := by omega
  have z8 : ((k : Int) == 8) = false := beq_eq_false_iff_ne.2 (by omega)
  have y8 : ¬ ((k : Int) = 8) := by omega
  have z9 : ((k : Int) == 9) = false := beq_eq_false_iff_ne.2 (by omega)
  have y9 : ¬ ((k : Int) = 9) := by omega
  have e : hasV k = .agg #[.bool false, .bool false, .bool false, .bool false, .bool false, .bool false] := by
    simp [hasV, hasK, h1, h2, h3, h4, h5, h6, h7, h8, h9]
  have d : decide (1 ≤ k ∧ k ≤ 9) = false := decide_eq_false (by omega)
  rw [e, d]
  clear e d h1 h2 h3 h4 h5 h6 h7 h8 h9
  go_enter Try.func20, Try.ntmps20
  go_wp2_with fail
  refine bodyPost_ret (results_has _ _ w.heap.size _ _ _ rfl (alloc_at _ _ _) rfl) rfl ?_
  exact ⟨rfl, (Below.refl _ _).alloc (Nat.le_refl _) _⟩
end Go.Proofs.Ytnanmdfbgoahjaa
