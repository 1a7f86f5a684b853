/-
  The chapter's examples, as plain data.
-/
import Derived.Test.YtaogileaeflnfaaRnx
import Derived.Test.YtaogileaeflnfaaDwx
import Derived.Test.YtaogileaeflnfaaHld
import Derived.Test.YtaogileaeflnfaaNwg
set_option linter.unusedVariables false
set_option linter.unusedSimpArgs false
namespace Go.Proofs.Ytaogileaeflnfaa
open Go.RowKit

def x1 : Mn := nM 2 2
theorem x1_ok : x1.ok := ⟨⟨1, by omega, rfl⟩, ⟨1, by omega, rfl⟩⟩
theorem x3_eq : doneM 2 0 0 5 x1 = { x1 with a := 5 } := by
  unfold doneM
  rw [if_pos ⟨by decide, by decide, x1_ok⟩]
  rfl
def x3 : Mn := { x1 with a := 5 }
theorem x3_ok : x3.ok := x1_ok
theorem x4_a : (doneM 24 0 0 0 x3).a = 399641 := by
  unfold doneM
  rw [if_pos ⟨by decide, by decide, x3_ok⟩]
  rfl
theorem x3_holds : holdsM 19 0 7 5 x3 = true := by
  unfold holdsM
  rw [if_pos ⟨by decide, by decide, x3_ok⟩]
  rfl
theorem g24_0 : getR [24, 0] ((0 : Nat) : Int) = ⟨3, 0, 0, 0, 1, 0⟩ := by kernel_rfl
theorem g24_1 : getR [24, 0] ((1 : Nat) : Int) = ⟨0, 0, 0, 0, 2, 0⟩ := by kernel_rfl
theorem g232 : getR [232, 254] ((0 : Nat) : Int) = ⟨29, 0, 0, 0, 2, 0⟩ := by kernel_rfl
theorem g208_0 : getR [208, 208, 0] ((0 : Nat) : Int) = ⟨26, 0, 0, 0, 1, 0⟩ := by kernel_rfl
theorem g208_1 : getR [208, 208, 0] ((1 : Nat) : Int) = ⟨26, 0, 0, 0, 2, 0⟩ := by kernel_rfl
theorem g208_2 : getR [208, 208, 0] ((2 : Nat) : Int) = ⟨0, 0, 0, 0, 3, 0⟩ := by kernel_rfl
theorem g0 : getR [0] ((0 : Nat) : Int) = ⟨0, 0, 0, 0, 1, 0⟩ := by kernel_rfl
theorem right24 : rightP [24, 0] false := by
  refine ⟨by decide, by decide, [0, 1], by decide, ?_⟩
  intro k hk
  simp only [List.mem_cons, List.not_mem_nil, or_false] at hk
  rcases hk with rfl | rfl
  · unfold okS nxt
    rw [g24_0]
    exact ⟨by decide, by decide, by decide⟩
  · unfold okS nxt
    rw [g24_1]
    exact ⟨by decide, by decide, by decide⟩
theorem right232 : rightP [232, 254] false := by
  refine ⟨by decide, by decide, [0], by decide, ?_⟩
  intro k hk
  simp only [List.mem_cons, List.not_mem_nil, or_false] at hk
  subst hk
  unfold okS nxt
  rw [g232]
  exact ⟨by decide, fun _ => ⟨0, by decide, rfl⟩, by decide⟩
theorem right208 : rightP [208, 208, 0] true := by
  refine ⟨by decide, by decide, [0, 1, 2], by decide, ?_⟩
  intro k hk
  simp only [List.mem_cons, List.not_mem_nil, or_false] at hk
  rcases hk with rfl | rfl | rfl
  · unfold okS nxt
    rw [g208_0]
    exact ⟨by decide, by decide, by decide⟩
  · unfold okS nxt
    rw [g208_1]
    exact ⟨by decide, by decide, by decide⟩
  · unfold okS nxt
    rw [g208_2]
    exact ⟨by decide, by decide, by decide⟩
theorem right0 : rightP [0] true := by
  refine ⟨by decide, by decide, [0], by decide, ?_⟩
  intro k hk
  simp only [List.mem_cons, List.not_mem_nil, or_false] at hk
  subst hk
  unfold okS nxt
  rw [g0]
  exact ⟨by decide, by decide, by decide⟩
theorem run24 (x : Mn) (f : Int) : runF [24, 0] f 2 0 x 0 [] = some (.halt { x with a := x.a + 1 } []) := by
  unfold runF
  rw [g24_0, show nxt [24, 0] 0 = 1 by decide]
  rw [if_neg (by decide), if_neg (by decide), if_pos (by decide)]
  unfold runF
  rw [g24_1]
  rw [if_pos (by decide)]
  rfl
theorem run232 (x : Mn) (m f : Int) : runF [232, 254] m 1 0 x f [] = some (.er 111) := by
  unfold runF
  rw [g232]
  rw [if_neg (by decide), if_neg (by decide), if_neg (by decide), if_pos (by cases x.f <;> rfl), if_pos (.inl rfl)]
theorem run208 (x : Mn) (f : Int) : runF [208, 208, 0] 1 2 0 x f [] = some (.er 112) := by
  unfold runF
  rw [g208_0, show nxt [208, 208, 0] 0 = 1 by decide]
  rw [if_neg (by decide), if_pos (by decide), if_neg (by decide)]
  unfold runF
  rw [g208_1]
  rw [if_neg (by decide), if_pos (by decide), if_pos (by show (1 : Int) ≤ 1; decide)]
/-- What an example's Run tells. -/
theorem awk_run24 {w w' : World} {x : Mn} {nH nM : Nat} {e : Ending} (hk : x.ok) (h : RunPost w [24, 0] false x 0 0 nH nM e w') : ∃ y BH dH BM dM v, e = .returned (.tuple #[vM y (.slice BH nH dH) (.slice BM nM dM), v, .int .i64 0]) ∧ y.a = x.a + 1 ∧ Below w.heap.size w w' := by
  cases h with
  | wrong er h h0 he b => exact absurd right24 h
  | arg h hk2 he b => exact absurd hk hk2
  | er h hk2 G er hr he b =>
    have := runF_same hr (run24 x 0)
    cases this
  | halt h hk2 G y out hr BH dH BM dM v he hl b =>
    have := runF_same hr (run24 x 0)
    injection this with e1 e2
    exact ⟨y, BH, dH, BM, dM, v, he, by rw [e1], b⟩
def zeroT (er : Int) : Ending := .returned (.tuple #[vM zM (.slice none 0 0) (.slice none 0 0), .slice none 0 0, .int .i64 er])
theorem awk_run232 {w w' : World} {x : Mn} {nH nM : Nat} {e : Ending} (hk : x.ok) (h : RunPost w [232, 254] false x 50 0 nH nM e w') : e = zeroT 111 ∧ Below w.heap.size w w' := by
  cases h with
  | wrong er h h0 he b => exact absurd right232 h
  | arg h hk2 he b => exact absurd hk hk2
  | er h hk2 G er hr he b =>
    have := runF_same hr (run232 x 0 50)
    cases this
    exact ⟨he, b⟩
  | halt h hk2 G y out hr BH dH BM dM v he hl b =>
    have := runF_same hr (run232 x 0 50)
    cases this
theorem awk_run208 {w w' : World} {x : Mn} {nH nM : Nat} {e : Ending} (hk : x.ok) (h : RunPost w [208, 208, 0] true x 0 1 nH nM e w') : e = zeroT 112 ∧ Below w.heap.size w w' := by
  cases h with
  | wrong er h h0 he b => exact absurd right208 h
  | arg h hk2 he b => exact absurd hk hk2
  | er h hk2 G er hr he b =>
    have := runF_same hr (run208 x 0)
    cases this
    exact ⟨he, b⟩
  | halt h hk2 G y out hr BH dH BM dM v he hl b =>
    have := runF_same hr (run208 x 0)
    cases this
theorem awk_run0 {w w' : World} {nH nM : Nat} {e : Ending} (h : RunPost w [0] true zM 0 1 nH nM e w') : e = zeroT 2 ∧ Below w.heap.size w w' := by
  have hk : ¬ zM.ok := by
    rintro ⟨h, _⟩
    exact absurd (pw_pos h) (by decide)
  cases h with
  | wrong er h h0 he b => exact absurd right0 h
  | arg h hk2 he b => exact ⟨he, b⟩
  | er h hk2 G er hr he b => exact absurd hk2 hk
  | halt h hk2 G y out hr BH dH BM dM v he hl b => exact absurd hk2 hk
/-- A machine that is stored in a new block. -/
theorem mr_new {w W : World} {y : Mn} {BH BM : Option Addr} {nH dH nM dM : Nat} (o1 : W.ownsRow w.heap.size 25 1 (.slice BH nH dH) nH (y.h.map U.bv)) (o2 : W.ownsRow w.heap.size 5 1 (.slice BM nM dM) nM (y.m.map bv)) (h1 : nH ≤ 5000) (h2 : nM ≤ 5000) :
    MR ((W.alloc (.cells zL.toArray 30)).setRow W.heap.size (mcL y (.slice BH nH dH) (.slice BM nM dM)).toArray) W.heap.size y BH nH dH BM nM dM ∧ Below W.heap.size W ((W.alloc (.cells zL.toArray 30)).setRow W.heap.size (mcL y (.slice BH nH dH) (.slice BM nM dM)).toArray) := by
  have b : Below W.heap.size W ((W.alloc (.cells zL.toArray 30)).setRow W.heap.size (mcL y (.slice BH nH dH) (.slice BM nM dM)).toArray) := by
    refine ⟨rfl, rfl, rfl, by rw [size_setRow]; simp, fun i hi => ?_⟩
    rw [setRow_other _ _ _ _ (by omega)]
    exact heap_alloc_old _ _ hi
  exact ⟨⟨setRow_heap _ _ _ _ _ _ (heap_alloc_new W _), (U.own_isB2 o1 (by omega)).on b, (own_isB2 o2 (by omega)).on b⟩, b⟩
/-- The cells of a stored machine. -/
theorem row_new (W : World) (L : List Value) : ((W.alloc (.cells zL.toArray 30)).setRow W.heap.size L.toArray).heap[W.heap.size]? = some (.cells L.toArray 30 (0, 0)) ∧ Below W.heap.size W ((W.alloc (.cells zL.toArray 30)).setRow W.heap.size L.toArray) := by
  refine ⟨setRow_heap _ _ _ _ _ _ (heap_alloc_new W _), rfl, rfl, rfl, by rw [size_setRow]; simp, fun i hi => ?_⟩
  rw [setRow_other _ _ _ _ (by omega)]
  exact heap_alloc_old _ _ hi
end Go.Proofs.Ytaogileaeflnfaa
