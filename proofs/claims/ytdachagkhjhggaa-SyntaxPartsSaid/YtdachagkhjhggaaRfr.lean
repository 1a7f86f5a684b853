/-
  The document's within, Class, Right.
-/
import Derived.Test.YtdachagkhjhggaaRgt
import Derived.BigQuiet
namespace Go.Proofs.Ytdachagkhjhggaa
open Go.RowKit
set_option linter.unusedVariables false
set_option linter.unusedSimpArgs false

theorem boxed (w : World) (o d s n : Int) : Below w.heap.size w (w.alloc (.cells #[.int .u8 o, .int .i64 d, .int .i64 s, .int .i64 n] 38)) := (Below.refl _ w).alloc (Nat.le_refl _) _
/-- An instruction's box. -/
structure Bx (w : World) (b : Nat) (o d s n : Int) : Prop where
  c0 : w.cell? ⟨b, 0, none⟩ = some (.int .u8 o)
  c1 : w.cell? ⟨b, 1, none⟩ = some (.int .i64 d)
  c2 : w.cell? ⟨b, 2, none⟩ = some (.int .i64 s)
  c3 : w.cell? ⟨b, 3, none⟩ = some (.int .i64 n)
theorem Bx.below {w w' : World} {b : Nat} {o d s n : Int} (h : Bx w b o d s n) (hb : Below w.heap.size w w') : Bx w' b o d s n :=
  ⟨keeps hb h.c0, keeps hb h.c1, keeps hb h.c2, keeps hb h.c3⟩
theorem bx_made (w : World) (o d s n : Int) : Bx (w.alloc (.cells #[.int .u8 o, .int .i64 d, .int .i64 s, .int .i64 n] 38)) w.heap.size o d s n :=
  ⟨by go_simp, by go_simp, by go_simp, by go_simp⟩
/-- Behind a call: the box, the blocks of before. -/
theorem bx_on {w w1 : World} {o d s n : Int} (b1 : Below (w.alloc (.cells #[.int .u8 o, .int .i64 d, .int .i64 s, .int .i64 n] 38)).heap.size (w.alloc (.cells #[.int .u8 o, .int .i64 d, .int .i64 s, .int .i64 n] 38)) w1) :
    Bx w1 w.heap.size o d s n ∧ Below w.heap.size w w1 := ⟨(bx_made w o d s n).below b1, (boxed w o d s n).trans (b1.mono (by simp))⟩
set_option maxRecDepth 10000 in
theorem rwithin_any (n a b : Int) (w : World) : Calls Try.prog 37 #[.int .i64 n, .int .i64 a, .int .i64 b] w fun e w' => e = .returned (.bool (decide (inn n a b))) ∧ w' = w := by
  by_cases h1 : a ≤ n
  · have d1 : decide (a ≤ n) = true := decide_eq_true h1
    obtain ⟨q, hq⟩ : ∃ q, decide (n ≤ b) = q := ⟨_, rfl⟩
    have e : decide (inn n a b) = q := by
      rw [← hq]
      unfold inn
      simp [h1]
    rw [e]
    clear e h1
    cases q
    · go_enter Try.func37, Try.ntmps37
      go_wp2
      go_ret
      exact ⟨rfl, rfl⟩
    · go_enter Try.func37, Try.ntmps37
      go_wp2
      go_ret
      exact ⟨rfl, rfl⟩
  · have d1 : decide (a ≤ n) = false := decide_eq_false h1
    have e : decide (inn n a b) = false := decide_eq_false fun h => h1 h.1
    rw [e]
    clear e h1
    go_enter Try.func37, Try.ntmps37
    go_wp2
    go_ret
    exact ⟨rfl, rfl⟩
set_option maxRecDepth 10000 in
theorem class_e0 (o : Int) (w : World) (h : o = 0) : Calls Try.prog 36 #[.int .u8 o] w fun e w' => e = .returned (.int .i64 1) ∧ w' = w := by
  subst h
  go_enter Try.func36, Try.ntmps36
  go_wp2
  go_ret
  exact ⟨rfl, rfl⟩
set_option maxRecDepth 10000 in
theorem class_e24 (o : Int) (w : World) (h : o = 24) : Calls Try.prog 36 #[.int .u8 o] w fun e w' => e = .returned (.int .i64 1) ∧ w' = w := by
  subst h
  go_enter Try.func36, Try.ntmps36
  go_wp2
  go_ret
  exact ⟨rfl, rfl⟩
set_option maxRecDepth 10000 in
theorem class_e25 (o : Int) (w : World) (h : o = 25) : Calls Try.prog 36 #[.int .u8 o] w fun e w' => e = .returned (.int .i64 1) ∧ w' = w := by
  subst h
  go_enter Try.func36, Try.ntmps36
  go_wp2
  go_ret
  exact ⟨rfl, rfl⟩
set_option maxRecDepth 10000 in
theorem class_e26 (o : Int) (w : World) (h : o = 26) : Calls Try.prog 36 #[.int .u8 o] w fun e w' => e = .returned (.int .i64 1) ∧ w' = w := by
  subst h
  go_enter Try.func36, Try.ntmps36
  go_wp2
  go_ret
  exact ⟨rfl, rfl⟩
set_option maxRecDepth 10000 in
theorem class_e1 (o : Int) (w : World) (h : o = 1) : Calls Try.prog 36 #[.int .u8 o] w fun e w' => e = .returned (.int .i64 2) ∧ w' = w := by
  subst h
  go_enter Try.func36, Try.ntmps36
  go_wp2
  go_ret
  exact ⟨rfl, rfl⟩
set_option maxRecDepth 10000 in
theorem class_e2 (o : Int) (w : World) (h : o = 2) : Calls Try.prog 36 #[.int .u8 o] w fun e w' => e = .returned (.int .i64 3) ∧ w' = w := by
  subst h
  go_enter Try.func36, Try.ntmps36
  go_wp2
  go_ret
  exact ⟨rfl, rfl⟩
set_option maxRecDepth 10000 in
theorem class_e22 (o : Int) (w : World) (h : o = 22) : Calls Try.prog 36 #[.int .u8 o] w fun e w' => e = .returned (.int .i64 6) ∧ w' = w := by
  subst h
  go_enter Try.func36, Try.ntmps36
  go_wp2
  go_ret
  exact ⟨rfl, rfl⟩
set_option maxRecDepth 10000 in
theorem class_e23 (o : Int) (w : World) (h : o = 23) : Calls Try.prog 36 #[.int .u8 o] w fun e w' => e = .returned (.int .i64 7) ∧ w' = w := by
  subst h
  go_enter Try.func36, Try.ntmps36
  go_wp2
  go_ret
  exact ⟨rfl, rfl⟩
set_option maxRecDepth 10000 in
theorem class_e30 (o : Int) (w : World) (h : o = 30) : Calls Try.prog 36 #[.int .u8 o] w fun e w' => e = .returned (.int .i64 9) ∧ w' = w := by
  subst h
  go_enter Try.func36, Try.ntmps36
  go_wp2
  go_ret
  exact ⟨rfl, rfl⟩
set_option maxRecDepth 10000 in
theorem class_4 (o : Int) (w : World) (h1 : 3 ≤ o) (h2 : o ≤ 7) : Calls Try.prog 36 #[.int .u8 o] w fun e w' => e = .returned (.int .i64 4) ∧ w' = w := by
  have n0 : (o == 0) = false := by simp; omega
  have n24 : (o == 24) = false := by simp; omega
  have n25 : (o == 25) = false := by simp; omega
  have n26 : (o == 26) = false := by simp; omega
  have n1 : (o == 1) = false := by simp; omega
  have n2 : (o == 2) = false := by simp; omega
  have l7 : decide (o ≤ 7) = true := decide_eq_true (by omega)
  clear h1 h2
  go_enter Try.func36, Try.ntmps36
  go_wp2
  go_ret
  exact ⟨rfl, rfl⟩
set_option maxRecDepth 10000 in
theorem class_5 (o : Int) (w : World) (h1 : 8 ≤ o) (h2 : o ≤ 21) : Calls Try.prog 36 #[.int .u8 o] w fun e w' => e = .returned (.int .i64 5) ∧ w' = w := by
  have n0 : (o == 0) = false := by simp; omega
  have n24 : (o == 24) = false := by simp; omega
  have n25 : (o == 25) = false := by simp; omega
  have n26 : (o == 26) = false := by simp; omega
  have n1 : (o == 1) = false := by simp; omega
  have n2 : (o == 2) = false := by simp; omega
  have l7 : decide (o ≤ 7) = false := decide_eq_false (by omega)
  have l21 : decide (o ≤ 21) = true := decide_eq_true (by omega)
  clear h1 h2
  go_enter Try.func36, Try.ntmps36
  go_wp2
  go_ret
  exact ⟨rfl, rfl⟩
set_option maxRecDepth 10000 in
theorem class_8 (o : Int) (w : World) (h1 : 27 ≤ o) (h2 : o ≤ 29) : Calls Try.prog 36 #[.int .u8 o] w fun e w' => e = .returned (.int .i64 8) ∧ w' = w := by
  have n0 : (o == 0) = false := by simp; omega
  have n24 : (o == 24) = false := by simp; omega
  have n25 : (o == 25) = false := by simp; omega
  have n26 : (o == 26) = false := by simp; omega
  have n1 : (o == 1) = false := by simp; omega
  have n2 : (o == 2) = false := by simp; omega
  have n22 : (o == 22) = false := by simp; omega
  have n23 : (o == 23) = false := by simp; omega
  have l7 : decide (o ≤ 7) = false := decide_eq_false (by omega)
  have l21 : decide (o ≤ 21) = false := decide_eq_false (by omega)
  have l29 : decide (o ≤ 29) = true := decide_eq_true (by omega)
  clear h1 h2
  go_enter Try.func36, Try.ntmps36
  go_wp2
  go_ret
  exact ⟨rfl, rfl⟩
set_option maxRecDepth 10000 in
theorem class_0 (o : Int) (w : World) (h1 : 30 < o) : Calls Try.prog 36 #[.int .u8 o] w fun e w' => e = .returned (.int .i64 0) ∧ w' = w := by
  have n0 : (o == 0) = false := by simp; omega
  have n24 : (o == 24) = false := by simp; omega
  have n25 : (o == 25) = false := by simp; omega
  have n26 : (o == 26) = false := by simp; omega
  have n1 : (o == 1) = false := by simp; omega
  have n2 : (o == 2) = false := by simp; omega
  have n22 : (o == 22) = false := by simp; omega
  have n23 : (o == 23) = false := by simp; omega
  have n30 : (o == 30) = false := by simp; omega
  have l7 : decide (o ≤ 7) = false := decide_eq_false (by omega)
  have l21 : decide (o ≤ 21) = false := decide_eq_false (by omega)
  have l29 : decide (o ≤ 29) = false := decide_eq_false (by omega)
  clear h1
  go_enter Try.func36, Try.ntmps36
  go_wp2
  go_ret
  exact ⟨rfl, rfl⟩
theorem class_any (o : Int) (h0 : 0 ≤ o) (w : World) : Calls Try.prog 36 #[.int .u8 o] w fun e w' => e = .returned (.int .i64 (cls o : Nat)) ∧ w' = w := by
  rcases cls_cases o with ⟨e, hc⟩ | ⟨e, hc⟩ | ⟨e, hc⟩ | ⟨e, hc⟩ | ⟨e, hc⟩ | ⟨e, hc⟩ | ⟨e, hc⟩ | ⟨e, hc⟩ | ⟨e, hc⟩ | ⟨e, hc⟩ <;> rw [e]
  · rcases hc with h | h | h | h
    · exact class_e0 o w h
    · exact class_e24 o w h
    · exact class_e25 o w h
    · exact class_e26 o w h
  · exact class_e1 o w hc
  · exact class_e2 o w hc
  · exact class_4 o w hc.1 hc.2
  · exact class_5 o w hc.1 hc.2
  · exact class_e22 o w hc
  · exact class_e23 o w hc
  · exact class_8 o w (by omega) (by omega)
  · exact class_e30 o w hc
  · exact class_0 o w (by omega)
theorem inn0 (d : Int) : inn d 0 0 ↔ d = 0 := by unfold inn; omega
set_option maxRecDepth 10000 in
set_option maxHeartbeats 4000000 in
theorem rr_0 (o d s n : Int) (w : World) (HC : ∀ w, Calls Try.prog 36 #[.int .u8 o] w fun e w' => e = .returned (.int .i64 0) ∧ w' = w) (db sb nb : Bool)
    (hd : (d == 0) = db) (hs : (s == 0) = sb) (hn : (n == 0) = nb) :
    Calls Try.prog 35 #[vI o d s n] w fun e w' => e = .returned (.int .i64 110) ∧ Below w.heap.size w w' := by
  have HC := hid HC
  have BX := bx_made w o d s n
  have b1 := hid (boxed w o d s n)
  obtain ⟨x0, x1, x2, x3⟩ := BX
  unfold vI
  go_enter Try.func35, Try.ntmps35
  go_wp2_with fail
  go_quiet (fail)
  go_wp2_with (go_at_call 36; (with_reducible refine (HC.out _).mono ?_); rintro r wj ⟨rfl, ej⟩; rw [ej]; clear ej wj)
  go_ret
  exact ⟨rfl, below_drewN b1.out _⟩
set_option maxRecDepth 10000 in
set_option maxHeartbeats 4000000 in
theorem rr_1 (o d s n : Int) (w : World) (HC : ∀ w, Calls Try.prog 36 #[.int .u8 o] w fun e w' => e = .returned (.int .i64 1) ∧ w' = w) (db sb nb : Bool)
    (hd : (d == 0) = db) (hs : (s == 0) = sb) (hn : (n == 0) = nb) :
    Calls Try.prog 35 #[vI o d s n] w fun e w' => e = .returned (.int .i64 (if (db && sb && nb) = true then 0 else 110)) ∧ Below w.heap.size w w' := by
  have HC := hid HC
  have HW := hid (fun n a b w => rwithin_any n a b w)
  have BX := bx_made w o d s n
  have b1 := hid (boxed w o d s n)
  obtain ⟨x0, x1, x2, x3⟩ := BX
  unfold vI
  cases db <;> cases sb <;> cases nb
  all_goals
    go_enter Try.func35, Try.ntmps35
    go_wp2_with fail
    go_quiet (fail)
    go_wp2_with (first | (go_at_call 36; (with_reducible refine (HC.out _).mono ?_); rintro r wj ⟨rfl, ej⟩; rw [ej]; clear ej wj) | (go_at_call 37; (with_reducible refine (HW.out _ _ _ _).mono ?_); rintro r wj ⟨rfl, ej⟩; rw [ej]; clear ej wj))
    go_ret
    exact ⟨rfl, below_drewN b1.out _⟩
set_option maxRecDepth 10000 in
set_option maxHeartbeats 4000000 in
theorem rr_2 (o d s n : Int) (w : World) (HC : ∀ w, Calls Try.prog 36 #[.int .u8 o] w fun e w' => e = .returned (.int .i64 2) ∧ w' = w) (db sb nb wd6 ws6 : Bool)
    (hd : (d == 0) = db) (hs : (s == 0) = sb) (hn : (n == 0) = nb) (hd6 : decide (inn d 0 6) = wd6) (hs6 : decide (inn s 0 6) = ws6) :
    Calls Try.prog 35 #[vI o d s n] w fun e w' => e = .returned (.int .i64 (if (nb && wd6 && ws6) = true then 0 else 110)) ∧ Below w.heap.size w w' := by
  have HC := hid HC
  have HW := hid (fun n a b w => rwithin_any n a b w)
  have BX := bx_made w o d s n
  have b1 := hid (boxed w o d s n)
  obtain ⟨x0, x1, x2, x3⟩ := BX
  unfold vI
  cases wd6 <;> cases ws6 <;> cases nb
  all_goals
    go_enter Try.func35, Try.ntmps35
    go_wp2_with fail
    go_quiet (fail)
    go_wp2_with (first | (go_at_call 36; (with_reducible refine (HC.out _).mono ?_); rintro r wj ⟨rfl, ej⟩; rw [ej]; clear ej wj) | (go_at_call 37; (with_reducible refine (HW.out _ _ _ _).mono ?_); simp only [hd6, hs6]; rintro r wj ⟨rfl, ej⟩; rw [ej]; clear ej wj))
    go_ret
    exact ⟨rfl, below_drewN b1.out _⟩
set_option maxRecDepth 10000 in
set_option maxHeartbeats 4000000 in
theorem rr_3 (o d s n : Int) (w : World) (HC : ∀ w, Calls Try.prog 36 #[.int .u8 o] w fun e w' => e = .returned (.int .i64 3) ∧ w' = w) (db sb nb wd6 wn255 : Bool)
    (hd : (d == 0) = db) (hs : (s == 0) = sb) (hn : (n == 0) = nb) (hd6 : decide (inn d 0 6) = wd6) (hn255 : decide (inn n 0 255) = wn255) :
    Calls Try.prog 35 #[vI o d s n] w fun e w' => e = .returned (.int .i64 (if (sb && wd6 && wn255) = true then 0 else 110)) ∧ Below w.heap.size w w' := by
  have HC := hid HC
  have HW := hid (fun n a b w => rwithin_any n a b w)
  have BX := bx_made w o d s n
  have b1 := hid (boxed w o d s n)
  obtain ⟨x0, x1, x2, x3⟩ := BX
  unfold vI
  cases wd6 <;> cases sb <;> cases wn255
  all_goals
    go_enter Try.func35, Try.ntmps35
    go_wp2_with fail
    go_quiet (fail)
    go_wp2_with (first | (go_at_call 36; (with_reducible refine (HC.out _).mono ?_); rintro r wj ⟨rfl, ej⟩; rw [ej]; clear ej wj) | (go_at_call 37; (with_reducible refine (HW.out _ _ _ _).mono ?_); simp only [hd6, hn255]; rintro r wj ⟨rfl, ej⟩; rw [ej]; clear ej wj))
    go_ret
    exact ⟨rfl, below_drewN b1.out _⟩
set_option maxRecDepth 10000 in
set_option maxHeartbeats 4000000 in
theorem rr_4 (o d s n : Int) (w : World) (HC : ∀ w, Calls Try.prog 36 #[.int .u8 o] w fun e w' => e = .returned (.int .i64 4) ∧ w' = w) (db sb nb wd6 : Bool)
    (hd : (d == 0) = db) (hs : (s == 0) = sb) (hn : (n == 0) = nb) (hd6 : decide (inn d 0 6) = wd6) :
    Calls Try.prog 35 #[vI o d s n] w fun e w' => e = .returned (.int .i64 (if (sb && nb && wd6) = true then 0 else 110)) ∧ Below w.heap.size w w' := by
  have HC := hid HC
  have HW := hid (fun n a b w => rwithin_any n a b w)
  have BX := bx_made w o d s n
  have b1 := hid (boxed w o d s n)
  obtain ⟨x0, x1, x2, x3⟩ := BX
  unfold vI
  cases wd6 <;> cases sb <;> cases nb
  all_goals
    go_enter Try.func35, Try.ntmps35
    go_wp2_with fail
    go_quiet (fail)
    go_wp2_with (first | (go_at_call 36; (with_reducible refine (HC.out _).mono ?_); rintro r wj ⟨rfl, ej⟩; rw [ej]; clear ej wj) | (go_at_call 37; (with_reducible refine (HW.out _ _ _ _).mono ?_); simp only [hd6]; rintro r wj ⟨rfl, ej⟩; rw [ej]; clear ej wj))
    go_ret
    exact ⟨rfl, below_drewN b1.out _⟩
set_option maxRecDepth 10000 in
set_option maxHeartbeats 4000000 in
theorem rr_6 (o d s n : Int) (w : World) (HC : ∀ w, Calls Try.prog 36 #[.int .u8 o] w fun e w' => e = .returned (.int .i64 6) ∧ w' = w) (db sb nb wd3 wn255 : Bool)
    (hd : (d == 0) = db) (hs : (s == 0) = sb) (hn : (n == 0) = nb) (hd3 : decide (inn d 0 3) = wd3) (hn255 : decide (inn n 0 255) = wn255) :
    Calls Try.prog 35 #[vI o d s n] w fun e w' => e = .returned (.int .i64 (if (sb && wd3 && wn255) = true then 0 else 110)) ∧ Below w.heap.size w w' := by
  have HC := hid HC
  have HW := hid (fun n a b w => rwithin_any n a b w)
  have BX := bx_made w o d s n
  have b1 := hid (boxed w o d s n)
  obtain ⟨x0, x1, x2, x3⟩ := BX
  unfold vI
  cases wd3 <;> cases sb <;> cases wn255
  all_goals
    go_enter Try.func35, Try.ntmps35
    go_wp2_with fail
    go_quiet (fail)
    go_wp2_with (first | (go_at_call 36; (with_reducible refine (HC.out _).mono ?_); rintro r wj ⟨rfl, ej⟩; rw [ej]; clear ej wj) | (go_at_call 37; (with_reducible refine (HW.out _ _ _ _).mono ?_); simp only [hd3, hn255]; rintro r wj ⟨rfl, ej⟩; rw [ej]; clear ej wj))
    go_ret
    exact ⟨rfl, below_drewN b1.out _⟩
set_option maxRecDepth 10000 in
set_option maxHeartbeats 4000000 in
theorem rr_7 (o d s n : Int) (w : World) (HC : ∀ w, Calls Try.prog 36 #[.int .u8 o] w fun e w' => e = .returned (.int .i64 7) ∧ w' = w) (db sb nb wn255 : Bool)
    (hd : (d == 0) = db) (hs : (s == 0) = sb) (hn : (n == 0) = nb) (hn255 : decide (inn n 0 255) = wn255) :
    Calls Try.prog 35 #[vI o d s n] w fun e w' => e = .returned (.int .i64 (if (db && sb && wn255) = true then 0 else 110)) ∧ Below w.heap.size w w' := by
  have HC := hid HC
  have HW := hid (fun n a b w => rwithin_any n a b w)
  have BX := bx_made w o d s n
  have b1 := hid (boxed w o d s n)
  obtain ⟨x0, x1, x2, x3⟩ := BX
  unfold vI
  cases db <;> cases sb <;> cases wn255
  all_goals
    go_enter Try.func35, Try.ntmps35
    go_wp2_with fail
    go_quiet (fail)
    go_wp2_with (first | (go_at_call 36; (with_reducible refine (HC.out _).mono ?_); rintro r wj ⟨rfl, ej⟩; rw [ej]; clear ej wj) | (go_at_call 37; (with_reducible refine (HW.out _ _ _ _).mono ?_); simp only [hn255]; rintro r wj ⟨rfl, ej⟩; rw [ej]; clear ej wj))
    go_ret
    exact ⟨rfl, below_drewN b1.out _⟩
set_option maxRecDepth 10000 in
set_option maxHeartbeats 4000000 in
theorem rr_8 (o d s n : Int) (w : World) (HC : ∀ w, Calls Try.prog 36 #[.int .u8 o] w fun e w' => e = .returned (.int .i64 8) ∧ w' = w) (db sb nb wn65535 : Bool)
    (hd : (d == 0) = db) (hs : (s == 0) = sb) (hn : (n == 0) = nb) (hn65535 : decide (inn n 0 65535) = wn65535) :
    Calls Try.prog 35 #[vI o d s n] w fun e w' => e = .returned (.int .i64 (if (db && sb && wn65535) = true then 0 else 110)) ∧ Below w.heap.size w w' := by
  have HC := hid HC
  have HW := hid (fun n a b w => rwithin_any n a b w)
  have BX := bx_made w o d s n
  have b1 := hid (boxed w o d s n)
  obtain ⟨x0, x1, x2, x3⟩ := BX
  unfold vI
  cases db <;> cases sb <;> cases wn65535
  all_goals
    go_enter Try.func35, Try.ntmps35
    go_wp2_with fail
    go_quiet (fail)
    go_wp2_with (first | (go_at_call 36; (with_reducible refine (HC.out _).mono ?_); rintro r wj ⟨rfl, ej⟩; rw [ej]; clear ej wj) | (go_at_call 37; (with_reducible refine (HW.out _ _ _ _).mono ?_); simp only [hn65535]; rintro r wj ⟨rfl, ej⟩; rw [ej]; clear ej wj))
    go_ret
    exact ⟨rfl, below_drewN b1.out _⟩
set_option maxRecDepth 10000 in
set_option maxHeartbeats 4000000 in
theorem rr_9 (o d s n : Int) (w : World) (HC : ∀ w, Calls Try.prog 36 #[.int .u8 o] w fun e w' => e = .returned (.int .i64 9) ∧ w' = w) (db sb nb wn65535 : Bool)
    (hd : (d == 0) = db) (hs : (s == 0) = sb) (hn : (n == 0) = nb) (hn65535 : decide (inn n 0 65535) = wn65535) :
    Calls Try.prog 35 #[vI o d s n] w fun e w' => e = .returned (.int .i64 (if (db && sb && wn65535) = true then 0 else 110)) ∧ Below w.heap.size w w' := by
  have HC := hid HC
  have HW := hid (fun n a b w => rwithin_any n a b w)
  have BX := bx_made w o d s n
  have b1 := hid (boxed w o d s n)
  obtain ⟨x0, x1, x2, x3⟩ := BX
  unfold vI
  cases db <;> cases sb <;> cases wn65535
  all_goals
    go_enter Try.func35, Try.ntmps35
    go_wp2_with fail
    go_quiet (fail)
    go_wp2_with (first | (go_at_call 36; (with_reducible refine (HC.out _).mono ?_); rintro r wj ⟨rfl, ej⟩; rw [ej]; clear ej wj) | (go_at_call 37; (with_reducible refine (HW.out _ _ _ _).mono ?_); simp only [hn65535]; rintro r wj ⟨rfl, ej⟩; rw [ej]; clear ej wj))
    go_ret
    exact ⟨rfl, below_drewN b1.out _⟩
set_option maxRecDepth 10000 in
set_option maxHeartbeats 4000000 in
theorem rr_5a (o d s n : Int) (w : World) (HC : ∀ w, Calls Try.prog 36 #[.int .u8 o] w fun e w' => e = .returned (.int .i64 5) ∧ w' = w) (db sb nb wn255 : Bool) (h7 : s = 7)
    (hd : (d == 0) = db) (hs : (s == 0) = sb) (hn : (n == 0) = nb) (hn255 : decide (inn n 0 255) = wn255) :
    Calls Try.prog 35 #[vI o d s n] w fun e w' => e = .returned (.int .i64 (if (db && wn255) = true then 0 else 110)) ∧ Below w.heap.size w w' := by
  have HC := hid HC
  have HW := hid (fun n a b w => rwithin_any n a b w)
  have BX := bx_made w o d s n
  have b1 := hid (boxed w o d s n)
  obtain ⟨x0, x1, x2, x3⟩ := BX
  subst h7
  have h7a : decide (inn 7 0 6) = false := by decide
  unfold vI
  cases db <;> cases wn255
  all_goals
    go_enter Try.func35, Try.ntmps35
    go_wp2_with fail
    go_quiet (fail)
    go_wp2_with (first | (go_at_call 36; (with_reducible refine (HC.out _).mono ?_); rintro r wj ⟨rfl, ej⟩; rw [ej]; clear ej wj) | (go_at_call 37; (with_reducible refine (HW.out _ _ _ _).mono ?_); simp only [h7a, hn255]; rintro r wj ⟨rfl, ej⟩; rw [ej]; clear ej wj))
    go_ret
    exact ⟨rfl, below_drewN b1.out _⟩
set_option maxRecDepth 10000 in
set_option maxHeartbeats 4000000 in
theorem rr_5b (o d s n : Int) (w : World) (HC : ∀ w, Calls Try.prog 36 #[.int .u8 o] w fun e w' => e = .returned (.int .i64 5) ∧ w' = w) (db sb nb ws6 : Bool) (h7 : s ≠ 7)
    (hd : (d == 0) = db) (hs : (s == 0) = sb) (hn : (n == 0) = nb) (hs6 : decide (inn s 0 6) = ws6) :
    Calls Try.prog 35 #[vI o d s n] w fun e w' => e = .returned (.int .i64 (if (db && ws6 && nb) = true then 0 else 110)) ∧ Below w.heap.size w w' := by
  have HC := hid HC
  have HW := hid (fun n a b w => rwithin_any n a b w)
  have BX := bx_made w o d s n
  have b1 := hid (boxed w o d s n)
  obtain ⟨x0, x1, x2, x3⟩ := BX
  have h7b : (s == 7) = false := by simpa using h7
  clear h7
  unfold vI
  cases db <;> cases ws6 <;> cases nb
  all_goals
    go_enter Try.func35, Try.ntmps35
    go_wp2_with fail
    go_quiet (fail)
    go_wp2_with (first | (go_at_call 36; (with_reducible refine (HC.out _).mono ?_); rintro r wj ⟨rfl, ej⟩; rw [ej]; clear ej wj) | (go_at_call 37; (with_reducible refine (HW.out _ _ _ _).mono ?_); simp only [hs6]; rintro r wj ⟨rfl, ej⟩; rw [ej]; clear ej wj))
    go_ret
    exact ⟨rfl, below_drewN b1.out _⟩
end Go.Proofs.Ytdachagkhjhggaa
