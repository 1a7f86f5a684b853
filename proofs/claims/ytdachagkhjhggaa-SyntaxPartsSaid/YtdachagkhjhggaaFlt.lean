/-
  Plain instructions, conditions: the program's and the document's.
-/
import Derived.Test.YtdachagkhjhggaaTre
import Derived.Test.YtdachagkhjhggaaRfs
namespace Go.Proofs.Ytdachagkhjhggaa
open Go.RowKit
set_option linter.unusedVariables false
set_option linter.unusedSimpArgs false

def plainOp (o : Int) (post : Bool) : Prop := (1 ≤ o ∧ o ≤ 18) ∨ (22 ≤ o ∧ o ≤ 25) ∨ (o = 26 ∧ post = true)
instance (o : Int) (post : Bool) : Decidable (plainOp o post) := by unfold plainOp; infer_instance
def plainI (o d s n : Int) (post : Bool) : Bool := decide (okI o d s n ∧ plainOp o post)
def condI (o d s n : Int) : Bool := decide (okI o d s n ∧ 19 ≤ o ∧ o ≤ 21)
theorem plainI_no {o d s n : Int} (h : ¬ okI o d s n) (post : Bool) : plainI o d s n post = false := decide_eq_false fun h2 => h h2.1
theorem plainI_ok {o d s n : Int} (h : okI o d s n) (post : Bool) : plainI o d s n post = decide (plainOp o post) := by
  unfold plainI
  by_cases h2 : plainOp o post
  · rw [decide_eq_true (⟨h, h2⟩ : okI o d s n ∧ plainOp o post), decide_eq_true h2]
  · rw [decide_eq_false (fun h3 : okI o d s n ∧ plainOp o post => h2 h3.2), decide_eq_false h2]
theorem condI_no {o d s n : Int} (h : ¬ okI o d s n) : condI o d s n = false := decide_eq_false fun h2 => h h2.1
theorem condI_ok {o d s n : Int} (h : okI o d s n) : condI o d s n = decide (19 ≤ o ∧ o ≤ 21) := by
  unfold condI
  by_cases h2 : 19 ≤ o ∧ o ≤ 21
  · rw [decide_eq_true (⟨h, h2⟩ : okI o d s n ∧ 19 ≤ o ∧ o ≤ 21), decide_eq_true h2]
  · rw [decide_eq_false (fun h3 : okI o d s n ∧ 19 ≤ o ∧ o ≤ 21 => h2 h3.2), decide_eq_false h2]
theorem bx_of {w w1 : World} {o d s n : Int} (b1 : Below (w.alloc (.cells #[.int .u8 o, .int .i64 d, .int .i64 s, .int .i64 n] 38)).heap.size (w.alloc (.cells #[.int .u8 o, .int .i64 d, .int .i64 s, .int .i64 n] 38)) w1) : w1.cell? ⟨w.heap.size, 0, none⟩ = some (.int .u8 o) := (bx_on b1).1.c0
set_option maxRecDepth 10000 in
set_option maxHeartbeats 4000000 in
theorem plain_any (o d s n : Int) (post : Bool) (w : World) : Calls Try.prog 29 #[vI o d s n, .bool post] w fun e w' => e = .returned (.bool (plainI o d s n post)) ∧ Below w.heap.size w w' := by
  have HR := hid (fun w => Right_any o d s n w)
  unfold vI at HR ⊢
  by_cases hok : okI o d s n
  · rw [show rightE o d s n = 0 from if_pos hok] at HR
    rw [plainI_ok hok]
    clear hok
    rcases (by omega : o = 22 ∨ o = 23 ∨ o = 24 ∨ o = 25 ∨ o = 26 ∨ (1 ≤ o ∧ o ≤ 18) ∨ (o < 1) ∨ ((18 < o ∧ o < 22) ∨ 26 < o)) with rfl | rfl | rfl | rfl | rfl | ho | ho | ho
    iterate 4
      · rw [decide_eq_true (by unfold plainOp; omega : plainOp _ post)]
        go_enter Try.func29, Try.ntmps29
        go_wp2_with (go_at_call 15; (with_reducible refine (HR.out _).mono ?_); rintro r w1 ⟨rfl, b1⟩; have c0 := bx_of b1; have B1 := hid (bx_on b1).2; clear b1)
        go_ret
        exact ⟨rfl, B1.out⟩
    · rw [show decide (plainOp 26 post) = post by unfold plainOp; cases post <;> simp]
      go_enter Try.func29, Try.ntmps29
      go_wp2_with (go_at_call 15; (with_reducible refine (HR.out _).mono ?_); rintro r w1 ⟨rfl, b1⟩; have c0 := bx_of b1; have B1 := hid (bx_on b1).2; clear b1)
      go_ret
      exact ⟨rfl, B1.out⟩
    all_goals
      have n22 : (o == 22) = false := by simp only [beq_eq_false_iff_ne, ne_eq]; omega
      have n23 : (o == 23) = false := by simp only [beq_eq_false_iff_ne, ne_eq]; omega
      have n24 : (o == 24) = false := by simp only [beq_eq_false_iff_ne, ne_eq]; omega
      have n25 : (o == 25) = false := by simp only [beq_eq_false_iff_ne, ne_eq]; omega
      have n26 : (o == 26) = false := by simp only [beq_eq_false_iff_ne, ne_eq]; omega
    · rw [decide_eq_true (by unfold plainOp; omega : plainOp _ post)]
      have h1 := ho.1
      have h2 := ho.2
      go_enter Try.func29, Try.ntmps29
      go_wp2_with (go_at_call 15; (with_reducible refine (HR.out _).mono ?_); rintro r w1 ⟨rfl, b1⟩; have c0 := bx_of b1; have B1 := hid (bx_on b1).2; clear b1)
      go_ret
      exact ⟨by simp, B1.out⟩
    · rw [decide_eq_false (by unfold plainOp; omega : ¬ plainOp _ post)]
      have h1 : ¬ 1 ≤ o := by omega
      go_enter Try.func29, Try.ntmps29
      go_wp2_with (go_at_call 15; (with_reducible refine (HR.out _).mono ?_); rintro r w1 ⟨rfl, b1⟩; have c0 := bx_of b1; have B1 := hid (bx_on b1).2; clear b1)
      go_ret
      exact ⟨by simp, B1.out⟩
    · rw [decide_eq_false (by unfold plainOp; omega : ¬ plainOp _ post)]
      have h1 : 1 ≤ o := by omega
      have h2 : ¬ o ≤ 18 := by omega
      clear ho
      go_enter Try.func29, Try.ntmps29
      go_wp2_with (go_at_call 15; (with_reducible refine (HR.out _).mono ?_); rintro r w1 ⟨rfl, b1⟩; have c0 := bx_of b1; have B1 := hid (bx_on b1).2; clear b1)
      go_ret
      exact ⟨by simp; omega, B1.out⟩
  · rw [show rightE o d s n = 110 from if_neg hok] at HR
    rw [plainI_no hok]
    clear hok
    go_enter Try.func29, Try.ntmps29
    go_wp2_with (go_at_call 15; (with_reducible refine (HR.out _).mono ?_); rintro r w1 ⟨rfl, b1⟩; have c0 := bx_of b1; have B1 := hid (bx_on b1).2; clear b1)
    go_ret
    exact ⟨rfl, B1.out⟩
/-- A condition's box. -/
def cbox (nt : Bool) (o d s n : Int) : Obj := .cells #[.bool nt, .int .u8 o, .int .i64 d, .int .i64 s, .int .i64 n] 40
theorem cb_made (w : World) (nt : Bool) (o d s n : Int) : (w.alloc (cbox nt o d s n)).cell? ⟨w.heap.size, 0 + 1, none⟩ = some (.int .u8 o) := by unfold cbox; go_simp
theorem cb_of {w w1 : World} {nt : Bool} {o d s n : Int} (b1 : Below (w.alloc (.cells #[.bool nt, .int .u8 o, .int .i64 d, .int .i64 s, .int .i64 n] 40)).heap.size (w.alloc (.cells #[.bool nt, .int .u8 o, .int .i64 d, .int .i64 s, .int .i64 n] 40)) w1) : w1.cell? ⟨w.heap.size, 1, none⟩ = some (.int .u8 o) ∧ Below w.heap.size w w1 :=
  ⟨keeps b1 (by go_simp), ((Below.refl _ w).alloc (Nat.le_refl _) _).trans (b1.mono (by simp))⟩
set_option maxRecDepth 10000 in
set_option maxHeartbeats 4000000 in
theorem cond_any (nt : Bool) (o d s n : Int) (w : World) : Calls Try.prog 30 #[vC nt o d s n] w fun e w' => e = .returned (.bool (condI o d s n)) ∧ Below w.heap.size w w' := by
  have HR := hid (fun w => Right_any o d s n w)
  unfold vI at HR
  unfold vC
  by_cases hc : 19 ≤ o ∧ o ≤ 21
  · by_cases hok : okI o d s n
    · rw [condI_ok hok, decide_eq_true hc]
      rw [show rightE o d s n = 0 from if_pos hok] at HR
      clear hok
      rcases (by omega : o = 19 ∨ o = 20 ∨ o = 21) with rfl | rfl | rfl
      all_goals clear hc
      all_goals go_enter Try.func30, Try.ntmps30
      all_goals go_wp2_with (go_at_call 15; (with_reducible refine (HR.out _).mono ?_); rintro r w1 ⟨rfl, b1⟩; have B1 := hid (cb_of b1).2; clear b1)
      all_goals go_ret
      all_goals exact ⟨rfl, B1.out⟩
    · rw [condI_no hok]
      rw [show rightE o d s n = 110 from if_neg hok] at HR
      clear hok
      rcases (by omega : o = 19 ∨ o = 20 ∨ o = 21) with rfl | rfl | rfl
      all_goals clear hc
      all_goals go_enter Try.func30, Try.ntmps30
      all_goals go_wp2_with (go_at_call 15; (with_reducible refine (HR.out _).mono ?_); rintro r w1 ⟨rfl, b1⟩; have B1 := hid (cb_of b1).2; clear b1)
      all_goals go_ret
      all_goals exact ⟨rfl, B1.out⟩
  · have n19 : (o == 19) = false := by simp only [beq_eq_false_iff_ne, ne_eq]; omega
    have n20 : (o == 20) = false := by simp only [beq_eq_false_iff_ne, ne_eq]; omega
    have n21 : (o == 21) = false := by simp only [beq_eq_false_iff_ne, ne_eq]; omega
    have e : condI o d s n = false := decide_eq_false (by omega)
    rw [e]
    clear e hc HR
    go_enter Try.func30, Try.ntmps30
    go_wp2_with fail
    go_ret
    exact ⟨rfl, (Below.refl _ w).alloc (Nat.le_refl _) _⟩
set_option maxRecDepth 10000 in
set_option maxHeartbeats 4000000 in
theorem refCond_any (nt : Bool) (o d s n : Int) (h0 : 0 ≤ o) (w : World) : Calls Try.prog 32 #[vC nt o d s n] w fun e w' => e = .returned (.bool (condI o d s n)) ∧ Below w.heap.size w w' := by
  have HR := hid (fun w => RefRight_any o d s n h0 w)
  unfold vI at HR
  unfold vC
  by_cases hok : okI o d s n
  · rw [condI_ok hok]
    rw [show rightE o d s n = 0 from if_pos hok] at HR
    clear hok
    rcases (by omega : (19 ≤ o ∧ o ≤ 21) ∨ o < 19 ∨ (19 ≤ o ∧ 21 < o)) with ho | ho | ho
    · rw [decide_eq_true ho]
      have h1 := ho.1
      have h2 := ho.2
      go_enter Try.func32, Try.ntmps32
      go_wp2_with (go_at_call 35; (with_reducible refine (HR.out _).mono ?_); rintro r w1 ⟨rfl, b1⟩; have c0 := (cb_of b1).1; have B1 := hid (cb_of b1).2; clear b1)
      go_ret
      exact ⟨by simp, B1.out⟩
    · rw [decide_eq_false (by omega : ¬ (19 ≤ o ∧ o ≤ 21))]
      have h1 : ¬ 19 ≤ o := by omega
      go_enter Try.func32, Try.ntmps32
      go_wp2_with (go_at_call 35; (with_reducible refine (HR.out _).mono ?_); rintro r w1 ⟨rfl, b1⟩; have c0 := (cb_of b1).1; have B1 := hid (cb_of b1).2; clear b1)
      go_ret
      exact ⟨by simp, B1.out⟩
    · rw [decide_eq_false (by omega : ¬ (19 ≤ o ∧ o ≤ 21))]
      have h1 : 19 ≤ o := by omega
      have h2 : ¬ o ≤ 21 := by omega
      clear ho
      go_enter Try.func32, Try.ntmps32
      go_wp2_with (go_at_call 35; (with_reducible refine (HR.out _).mono ?_); rintro r w1 ⟨rfl, b1⟩; have c0 := (cb_of b1).1; have B1 := hid (cb_of b1).2; clear b1)
      go_ret
      exact ⟨by simp; omega, B1.out⟩
  · rw [show rightE o d s n = 110 from if_neg hok] at HR
    rw [condI_no hok]
    clear hok
    go_enter Try.func32, Try.ntmps32
    go_wp2_with (go_at_call 35; (with_reducible refine (HR.out _).mono ?_); rintro r w1 ⟨rfl, b1⟩; have c0 := (cb_of b1).1; have B1 := hid (cb_of b1).2; clear b1)
    go_ret
    exact ⟨rfl, B1.out⟩
set_option maxRecDepth 10000 in
set_option maxHeartbeats 4000000 in
theorem refPlain_any (o d s n : Int) (post : Bool) (h0 : 0 ≤ o) (w : World) : Calls Try.prog 31 #[vI o d s n, .bool post] w fun e w' => e = .returned (.bool (plainI o d s n post)) ∧ Below w.heap.size w w' := by
  have HR := hid (fun w => RefRight_any o d s n h0 w)
  unfold vI at HR ⊢
  by_cases hok : okI o d s n
  · rw [show rightE o d s n = 0 from if_pos hok] at HR
    rw [plainI_ok hok]
    clear hok
    rcases (by omega : (1 ≤ o ∧ o ≤ 18) ∨ o < 1 ∨ (18 < o ∧ o < 22) ∨ (22 ≤ o ∧ o ≤ 25) ∨ o = 26 ∨ 26 < o) with ho | ho | ho | ho | ho | ho
    · rw [decide_eq_true (by unfold plainOp; omega : plainOp _ post)]
      have h1 := ho.1
      have h2 := ho.2
      clear ho
      go_enter Try.func31, Try.ntmps31
      go_wp2_with (go_at_call 35; (with_reducible refine (HR.out _).mono ?_); rintro r w1 ⟨rfl, b1⟩; have c0 := bx_of b1; have B1 := hid (bx_on b1).2; clear b1)
      go_ret
      exact ⟨by simp, B1.out⟩
    · rw [decide_eq_false (by unfold plainOp; omega : ¬ plainOp _ post)]
      have h1 : ¬ 1 ≤ o := by omega
      have h2 : ¬ 22 ≤ o := by omega
      have n26 : (o == 26) = false := by simp only [beq_eq_false_iff_ne, ne_eq]; omega
      clear ho
      go_enter Try.func31, Try.ntmps31
      go_wp2_with (go_at_call 35; (with_reducible refine (HR.out _).mono ?_); rintro r w1 ⟨rfl, b1⟩; have c0 := bx_of b1; have B1 := hid (bx_on b1).2; clear b1)
      go_ret
      exact ⟨by simp [n26] <;> omega, B1.out⟩
    · rw [decide_eq_false (by unfold plainOp; omega : ¬ plainOp _ post)]
      have h1 : 1 ≤ o := by omega
      have h3 : ¬ o ≤ 18 := by omega
      have h2 : ¬ 22 ≤ o := by omega
      have n26 : (o == 26) = false := by simp only [beq_eq_false_iff_ne, ne_eq]; omega
      clear ho
      go_enter Try.func31, Try.ntmps31
      go_wp2_with (go_at_call 35; (with_reducible refine (HR.out _).mono ?_); rintro r w1 ⟨rfl, b1⟩; have c0 := bx_of b1; have B1 := hid (bx_on b1).2; clear b1)
      go_ret
      exact ⟨by simp [n26] <;> omega, B1.out⟩
    · rw [decide_eq_true (by unfold plainOp; omega : plainOp _ post)]
      have h1 : 1 ≤ o := by omega
      have h3 : ¬ o ≤ 18 := by omega
      have h2 := ho.1
      have h4 := ho.2
      clear ho
      go_enter Try.func31, Try.ntmps31
      go_wp2_with (go_at_call 35; (with_reducible refine (HR.out _).mono ?_); rintro r w1 ⟨rfl, b1⟩; have c0 := bx_of b1; have B1 := hid (bx_on b1).2; clear b1)
      go_ret
      exact ⟨by simp, B1.out⟩
    · subst ho
      rw [show decide (plainOp 26 post) = post by unfold plainOp; cases post <;> simp]
      go_enter Try.func31, Try.ntmps31
      go_wp2_with (go_at_call 35; (with_reducible refine (HR.out _).mono ?_); rintro r w1 ⟨rfl, b1⟩; have c0 := bx_of b1; have B1 := hid (bx_on b1).2; clear b1)
      go_ret
      exact ⟨by simp, B1.out⟩
    · rw [decide_eq_false (by unfold plainOp; omega : ¬ plainOp _ post)]
      have h1 : 1 ≤ o := by omega
      have h3 : ¬ o ≤ 18 := by omega
      have h2 : 22 ≤ o := by omega
      have h4 : ¬ o ≤ 25 := by omega
      have n26 : (o == 26) = false := by simp only [beq_eq_false_iff_ne, ne_eq]; omega
      clear ho
      go_enter Try.func31, Try.ntmps31
      go_wp2_with (go_at_call 35; (with_reducible refine (HR.out _).mono ?_); rintro r w1 ⟨rfl, b1⟩; have c0 := bx_of b1; have B1 := hid (bx_on b1).2; clear b1)
      go_ret
      exact ⟨by simp [n26] <;> omega, B1.out⟩
  · rw [show rightE o d s n = 110 from if_neg hok] at HR
    rw [plainI_no hok]
    clear hok
    go_enter Try.func31, Try.ntmps31
    go_wp2_with (go_at_call 35; (with_reducible refine (HR.out _).mono ?_); rintro r w1 ⟨rfl, b1⟩; have c0 := bx_of b1; have B1 := hid (bx_on b1).2; clear b1)
    go_ret
    exact ⟨rfl, B1.out⟩
end Go.Proofs.Ytdachagkhjhggaa
