/-
  The document's Right, of any instruction.
-/
import Derived.Test.YtdachagkhjhggaaRfr
namespace Go.Proofs.Ytdachagkhjhggaa
open Go.RowKit
set_option linter.unusedVariables false
set_option linter.unusedSimpArgs false
theorem if_cg {P Q : Prop} [Decidable P] [Decidable Q] (h : P ↔ Q) (a b : Int) : (if P then a else b) = if Q then a else b := by
  by_cases p : P
  · rw [if_pos p, if_pos (h.1 p)]
  · rw [if_neg p, if_neg (fun q => p (h.2 q))]
theorem beq0 (d : Int) : ((d == 0) = true) ↔ inn d 0 0 := by unfold inn; rw [beq_iff_eq]; omega
theorem RefRight_any (o d s n : Int) (h0 : 0 ≤ o) (w : World) : Calls Try.prog 35 #[vI o d s n] w fun e w' => e = .returned (.int .i64 (rightE o d s n)) ∧ Below w.heap.size w w' := by
  have HC := fun w => class_any o h0 w
  unfold rightE okI
  rcases row_cases o s with ⟨r0, r1, r2, r3, r4, hc⟩ | ⟨r0, r1, r2, r3, r4, hc⟩ | ⟨r0, r1, r2, r3, r4, hc⟩ | ⟨r0, r1, r2, r3, r4, hc⟩ | ⟨r0, r1, r2, r3, r4, hc⟩ | ⟨r0, r1, r2, r3, r4, hc⟩ | ⟨r0, r1, r2, r3, r4, hc⟩ | ⟨r0, r1, r2, r3, r4, hc⟩ | ⟨r0, r1, r2, r3, r4, hc⟩ | ⟨r0, r1, r2, r3, r4, hc⟩ | ⟨r0, r1, r2, r3, r4, hc⟩ <;> simp only [r0, r1, r2, r3, true_and, ← beq0]
  · have hv : ((cls o : Nat) : Int) = 1 := by rcases cls_cases o with ⟨e, h⟩ | ⟨e, h⟩ | ⟨e, h⟩ | ⟨e, h⟩ | ⟨e, h⟩ | ⟨e, h⟩ | ⟨e, h⟩ | ⟨e, h⟩ | ⟨e, h⟩ | ⟨e, h⟩ <;> omega
    rw [hv] at HC
    refine (rr_1 o d s n w HC _ _ _ rfl rfl rfl).mono ?_
    rintro e w' ⟨rfl, b⟩
    refine ⟨?_, b⟩
    congr 2
    simp only [Bool.and_eq_true, decide_eq_true_eq, and_assoc]
  · have hv : ((cls o : Nat) : Int) = 2 := by rcases cls_cases o with ⟨e, h⟩ | ⟨e, h⟩ | ⟨e, h⟩ | ⟨e, h⟩ | ⟨e, h⟩ | ⟨e, h⟩ | ⟨e, h⟩ | ⟨e, h⟩ | ⟨e, h⟩ | ⟨e, h⟩ <;> omega
    rw [hv] at HC
    refine (rr_2 o d s n w HC _ _ _ _ _ rfl rfl rfl rfl rfl).mono ?_
    rintro e w' ⟨rfl, b⟩
    refine ⟨?_, b⟩
    congr 2
    simp only [Bool.and_eq_true, decide_eq_true_eq, and_assoc]
    refine if_cg ?_ _ _
    constructor <;> rintro ⟨p1, p2, p3⟩ <;> refine ⟨?_, ?_, ?_⟩ <;> assumption
  · have hv : ((cls o : Nat) : Int) = 3 := by rcases cls_cases o with ⟨e, h⟩ | ⟨e, h⟩ | ⟨e, h⟩ | ⟨e, h⟩ | ⟨e, h⟩ | ⟨e, h⟩ | ⟨e, h⟩ | ⟨e, h⟩ | ⟨e, h⟩ | ⟨e, h⟩ <;> omega
    rw [hv] at HC
    refine (rr_3 o d s n w HC _ _ _ _ _ rfl rfl rfl rfl rfl).mono ?_
    rintro e w' ⟨rfl, b⟩
    refine ⟨?_, b⟩
    congr 2
    simp only [Bool.and_eq_true, decide_eq_true_eq, and_assoc]
    refine if_cg ?_ _ _
    constructor <;> rintro ⟨p1, p2, p3⟩ <;> refine ⟨?_, ?_, ?_⟩ <;> assumption
  · have hv : ((cls o : Nat) : Int) = 4 := by rcases cls_cases o with ⟨e, h⟩ | ⟨e, h⟩ | ⟨e, h⟩ | ⟨e, h⟩ | ⟨e, h⟩ | ⟨e, h⟩ | ⟨e, h⟩ | ⟨e, h⟩ | ⟨e, h⟩ | ⟨e, h⟩ <;> omega
    rw [hv] at HC
    refine (rr_4 o d s n w HC _ _ _ _ rfl rfl rfl rfl).mono ?_
    rintro e w' ⟨rfl, b⟩
    refine ⟨?_, b⟩
    congr 2
    simp only [Bool.and_eq_true, decide_eq_true_eq, and_assoc]
    refine if_cg ?_ _ _
    constructor <;> rintro ⟨p1, p2, p3⟩ <;> refine ⟨?_, ?_, ?_⟩ <;> assumption
  · have hv : ((cls o : Nat) : Int) = 5 := by rcases cls_cases o with ⟨e, h⟩ | ⟨e, h⟩ | ⟨e, h⟩ | ⟨e, h⟩ | ⟨e, h⟩ | ⟨e, h⟩ | ⟨e, h⟩ | ⟨e, h⟩ | ⟨e, h⟩ | ⟨e, h⟩ <;> omega
    rw [hv] at HC
    refine (rr_5a o d s n w HC _ _ _ _ hc.2 rfl rfl rfl rfl).mono ?_
    rintro e w' ⟨rfl, b⟩
    refine ⟨?_, b⟩
    congr 2
    simp only [Bool.and_eq_true, decide_eq_true_eq, and_assoc]
    refine if_cg ?_ _ _
    exact ⟨fun ⟨a, b⟩ => ⟨a, by rw [hc.2]; unfold inn; omega, b⟩, fun ⟨a, _, b⟩ => ⟨a, b⟩⟩
  · have hv : ((cls o : Nat) : Int) = 5 := by rcases cls_cases o with ⟨e, h⟩ | ⟨e, h⟩ | ⟨e, h⟩ | ⟨e, h⟩ | ⟨e, h⟩ | ⟨e, h⟩ | ⟨e, h⟩ | ⟨e, h⟩ | ⟨e, h⟩ | ⟨e, h⟩ <;> omega
    rw [hv] at HC
    refine (rr_5b o d s n w HC _ _ _ _ hc.2 rfl rfl rfl rfl).mono ?_
    rintro e w' ⟨rfl, b⟩
    refine ⟨?_, b⟩
    congr 2
    simp only [Bool.and_eq_true, decide_eq_true_eq, and_assoc]
  · have hv : ((cls o : Nat) : Int) = 6 := by rcases cls_cases o with ⟨e, h⟩ | ⟨e, h⟩ | ⟨e, h⟩ | ⟨e, h⟩ | ⟨e, h⟩ | ⟨e, h⟩ | ⟨e, h⟩ | ⟨e, h⟩ | ⟨e, h⟩ | ⟨e, h⟩ <;> omega
    rw [hv] at HC
    refine (rr_6 o d s n w HC _ _ _ _ _ rfl rfl rfl rfl rfl).mono ?_
    rintro e w' ⟨rfl, b⟩
    refine ⟨?_, b⟩
    congr 2
    simp only [Bool.and_eq_true, decide_eq_true_eq, and_assoc]
    refine if_cg ?_ _ _
    constructor <;> rintro ⟨p1, p2, p3⟩ <;> refine ⟨?_, ?_, ?_⟩ <;> assumption
  · have hv : ((cls o : Nat) : Int) = 7 := by rcases cls_cases o with ⟨e, h⟩ | ⟨e, h⟩ | ⟨e, h⟩ | ⟨e, h⟩ | ⟨e, h⟩ | ⟨e, h⟩ | ⟨e, h⟩ | ⟨e, h⟩ | ⟨e, h⟩ | ⟨e, h⟩ <;> omega
    rw [hv] at HC
    refine (rr_7 o d s n w HC _ _ _ _ rfl rfl rfl rfl).mono ?_
    rintro e w' ⟨rfl, b⟩
    refine ⟨?_, b⟩
    congr 2
    simp only [Bool.and_eq_true, decide_eq_true_eq, and_assoc]
  · have hv : ((cls o : Nat) : Int) = 8 := by rcases cls_cases o with ⟨e, h⟩ | ⟨e, h⟩ | ⟨e, h⟩ | ⟨e, h⟩ | ⟨e, h⟩ | ⟨e, h⟩ | ⟨e, h⟩ | ⟨e, h⟩ | ⟨e, h⟩ | ⟨e, h⟩ <;> omega
    rw [hv] at HC
    refine (rr_8 o d s n w HC _ _ _ _ rfl rfl rfl rfl).mono ?_
    rintro e w' ⟨rfl, b⟩
    refine ⟨?_, b⟩
    congr 2
    simp only [Bool.and_eq_true, decide_eq_true_eq, and_assoc]
  · have hv : ((cls o : Nat) : Int) = 9 := by rcases cls_cases o with ⟨e, h⟩ | ⟨e, h⟩ | ⟨e, h⟩ | ⟨e, h⟩ | ⟨e, h⟩ | ⟨e, h⟩ | ⟨e, h⟩ | ⟨e, h⟩ | ⟨e, h⟩ | ⟨e, h⟩ <;> omega
    rw [hv] at HC
    refine (rr_9 o d s n w HC _ _ _ _ rfl rfl rfl rfl).mono ?_
    rintro e w' ⟨rfl, b⟩
    refine ⟨?_, b⟩
    congr 2
    simp only [Bool.and_eq_true, decide_eq_true_eq, and_assoc]
  · have hv : ((cls o : Nat) : Int) = 0 := by rcases cls_cases o with ⟨e, h⟩ | ⟨e, h⟩ | ⟨e, h⟩ | ⟨e, h⟩ | ⟨e, h⟩ | ⟨e, h⟩ | ⟨e, h⟩ | ⟨e, h⟩ | ⟨e, h⟩ | ⟨e, h⟩ <;> omega
    rw [hv] at HC
    refine (rr_0 o d s n w HC _ _ _ rfl rfl rfl).mono ?_
    rintro e w' ⟨rfl, b⟩
    refine ⟨?_, b⟩
    rw [if_neg (by simp)]
end Go.Proofs.Ytdachagkhjhggaa
