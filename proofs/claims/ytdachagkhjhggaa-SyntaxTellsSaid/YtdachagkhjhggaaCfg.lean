/-
  The document's Right; Config, the program's and the document's.
-/
import Derived.Test.YtdachagkhjhggaaPur
namespace Go.Proofs.Ytdachagkhjhggaa
open Go.RowKit
set_option linter.unusedVariables false
set_option linter.unusedSimpArgs false

set_option maxRecDepth 10000 in
set_option maxHeartbeats 4000000 in
theorem refRight_any (t : Tr) (h3 : t.sz ≤ 3000) (hw : t.wf) (A : Option Addr) (n c : Nat) (post : Bool) (w : World) (h : Sl w w.heap.size t A n c) :
    Calls Try.prog 9 #[.slice A n c, .bool post] w fun e w' => e = .returned (.bool (t.right post)) ∧ Below w.heap.size w w' := by
  have C1 := hid (depth_any (t.sz + 1) t (by omega) _ A n c 21 w h (by omega))
  have C2 := hid (fun j => Count_any t A n c (w.drewN j) (h.drewN j) h3)
  have C3 := hid (fun w' (b : Below w.heap.size w w') => refEach_any post (t.sz + 1) t (by omega) hw A n c w' (h.later b))
  have hd := t.dp_le 21
  have hc := t.cnt_le 20
  unfold Tr.right
  obtain ⟨D, hD⟩ : ∃ D, t.dp 21 = D := ⟨_, rfl⟩
  obtain ⟨K, hK⟩ : ∃ K, t.cnt 20 = K := ⟨_, rfl⟩
  obtain ⟨R, hR⟩ : ∃ R, t.ok post = R := ⟨_, rfl⟩
  rw [hD] at C1 hd ⊢
  rw [hK] at C2 hc ⊢
  rw [hR] at C3 ⊢
  clear hD hK hR h
  obtain ⟨dD, hdD⟩ : ∃ d, decide (D ≤ 20) = d := ⟨_, rfl⟩
  obtain ⟨dK, hdK⟩ : ∃ d, decide (K ≤ 500) = d := ⟨_, rfl⟩
  rw [hdD, hdK]
  have HN := hid (And.intro hdD hdK)
  cases dD
  · have hz : ¬ (D : Int) ≤ 20 := by have := of_decide_eq_false hdD; omega
    clear hdD hdK C2 C3 hd hc h3
    go_enter Try.func9, Try.ntmps9
    go_wp2_with (go_at_call 23; (refine C1.out.mono ?_); rintro r w1 ⟨rfl, j, rfl⟩)
    go_ret
    exact ⟨by simp <;> omega, Below.drewN _ _ _⟩
  have hz : (D : Int) ≤ 20 := by have := of_decide_eq_true hdD; omega
  cases dK
  · have hk : ¬ (K : Int) ≤ 500 := by have := of_decide_eq_false hdK; omega
    clear hdD hdK C3 hd hc h3
    go_enter Try.func9, Try.ntmps9
    go_wp2_with (first
      | (go_at_call 23; (refine C1.out.mono ?_); rintro r w1 ⟨rfl, j, rfl⟩)
      | (go_at_call 11; (refine (C2.out j).mono ?_); rintro r w2 ⟨rfl, j2, rfl⟩))
    go_ret
    exact ⟨by simp <;> omega, Below.drewN _ _ _⟩
  · have hk : (K : Int) ≤ 500 := by have := of_decide_eq_true hdK; omega
    clear hdD hdK hd hc h3
    have HB := hid (fun k => Below.drewN w.heap.size w k)
    go_enter Try.func9, Try.ntmps9
    go_wp2_with (first
      | (go_at_call 23; (refine C1.out.mono ?_); rintro r w1 ⟨rfl, j, rfl⟩)
      | (go_at_call 11; (refine (C2.out j).mono ?_); rintro r w2 ⟨rfl, j2, rfl⟩)
      | (go_at_call 24; (refine (C3.out _ (HB.out _)).mono ?_); rintro r w3 ⟨rfl, b3⟩; have HY := hid ((HB.out _).trans b3); clear b3))
    go_ret
    exact ⟨by simp, HY.out⟩
/-- A config as a value. -/
def vCf (h m ph pm : Int) (vp : Value) (Ac : Option Addr) (nc cc : Nat) (Ap : Option Addr) (np cp : Nat) (hp : Bool) : Value := .agg #[.int .i64 h, .int .i64 m, .int .i64 ph, .int .i64 pm, vp, .slice Ac nc cc, .slice Ap np cp, .bool hp]
def cfg (tc tp : Tr) (ph pm : Int) (hp : Bool) : Bool := tc.right false && (tp.right true && (hp || decide (tp.len = 0 ∧ ph = 0 ∧ pm = 0)))
structure B8 (w : World) (b : Nat) (h m ph pm : Int) (vp vc vq : Value) (hp : Bool) : Prop where
  c0 : w.cell? ⟨b, 0, none⟩ = some (.int .i64 h)
  c1 : w.cell? ⟨b, 1, none⟩ = some (.int .i64 m)
  c2 : w.cell? ⟨b, 2, none⟩ = some (.int .i64 ph)
  c3 : w.cell? ⟨b, 3, none⟩ = some (.int .i64 pm)
  c4 : w.cell? ⟨b, 4, none⟩ = some vp
  c5 : w.cell? ⟨b, 5, none⟩ = some vc
  c6 : w.cell? ⟨b, 6, none⟩ = some vq
  c7 : w.cell? ⟨b, 7, none⟩ = some (.bool hp)
theorem B8.below {w w' : World} {b : Nat} {h m ph pm : Int} {vp vc vq : Value} {hp : Bool} (k : B8 w b h m ph pm vp vc vq hp) (hb : Below w.heap.size w w') : B8 w' b h m ph pm vp vc vq hp :=
  ⟨keeps hb k.c0, keeps hb k.c1, keeps hb k.c2, keeps hb k.c3, keeps hb k.c4, keeps hb k.c5, keeps hb k.c6, keeps hb k.c7⟩
theorem b8_row {w : World} {b : Nat} {h m ph pm : Int} {vp vc vq : Value} {hp : Bool} (k : w.heap[b]? = some (.cells #[.int .i64 h, .int .i64 m, .int .i64 ph, .int .i64 pm, vp, vc, vq, .bool hp] 25 (0, 0))) : B8 w b h m ph pm vp vc vq hp :=
  ⟨row_cell k 0, row_cell k 1, row_cell k 2, row_cell k 3, row_cell k 4, row_cell k 5, row_cell k 6, row_cell k 7⟩
section
variable (h m ph pm : Int) (vp : Value) (Ac : Option Addr) (nc cc : Nat) (Ap : Option Addr) (np cp : Nat) (hp : Bool) (tc tp : Tr) (w : World)
set_option maxRecDepth 10000 in
set_option maxHeartbeats 8000000 in
theorem config_any (hc : Sl w w.heap.size tc Ac nc cc) (hq : Sl w w.heap.size tp Ap np cp) : Calls Try.prog 12 #[vCf h m ph pm vp Ac nc cc Ap np cp hp] w fun e w' => e = .returned (.bool (cfg tc tp ph pm hp)) ∧ Below w.heap.size w w' := by
  have C1 := hid (fun w' (b : Below w.heap.size w w') => right_any' tc Ac nc cc false w' (hc.later b))
  have C2 := hid (fun w' (b : Below w.heap.size w w') => right_any' tp Ap np cp true w' (hq.later b))
  have hl : tp.len = np := hq.len
  have KB := hid (((Below.refl w.heap.size w).alloc (Nat.le_refl _) (.cells #[.int .i64 h, .int .i64 m, .int .i64 ph, .int .i64 pm, vp, .slice Ac nc cc, .slice Ap np cp, .bool hp] 25)))
  have KR := hid (fun w' b => (b8_row (heap_alloc_new w (.cells #[.int .i64 h, .int .i64 m, .int .i64 ph, .int .i64 pm, vp, .slice Ac nc cc, .slice Ap np cp, .bool hp] 25))).below (w' := w') b)
  unfold cfg vCf
  rw [hl]
  obtain ⟨RC, hRC⟩ : ∃ R, tc.right false = R := ⟨_, rfl⟩
  obtain ⟨RP, hRP⟩ : ∃ R, tp.right true = R := ⟨_, rfl⟩
  rw [hRC] at C1 ⊢
  rw [hRP] at C2 ⊢
  clear hRC hRP hc hq hl
  obtain ⟨N, hN⟩ : ∃ N, (hp || decide (np = 0 ∧ ph = 0 ∧ pm = 0)) = N := ⟨_, rfl⟩
  rw [hN]
  cases N
  · have hp0 : hp = false := by cases hp <;> simp at hN ⊢
    subst hp0
    have hN2 : ¬ (np = 0 ∧ ph = 0 ∧ pm = 0) := by simpa using hN
    clear hN C1 C2
    rw [show (RC && (RP && false)) = false by cases RC <;> cases RP <;> rfl]
    by_cases h1 : np = 0
    · subst h1
      by_cases h2 : ph = 0
      · subst h2
        have h3 : (pm != 0) = true := by simp only [bne_iff_ne, ne_eq]; omega
        clear hN2
        go_enter Try.func12, Try.ntmps12
        go_wp2_with fail
        go_ret
        exact ⟨rfl, KB.out⟩
      · have h3 : (ph != 0) = true := by simp only [bne_iff_ne, ne_eq]; omega
        clear hN2 h2
        go_enter Try.func12, Try.ntmps12
        go_wp2_with fail
        go_ret
        exact ⟨rfl, KB.out⟩
    · have h3 : (0 : Int) < (np : Int) := by omega
      clear hN2 h1
      go_enter Try.func12, Try.ntmps12
      go_wp2_with fail
      go_ret
      exact ⟨rfl, KB.out⟩
  · have go : ∀ {E : Calls Try.prog 12 #[.agg #[.int .i64 h, .int .i64 m, .int .i64 ph, .int .i64 pm, vp, .slice Ac nc cc, .slice Ap np cp, .bool hp]] w fun e w' => e = .returned (.bool (RC && (RP && true))) ∧ Below w.heap.size w w'}, True := fun {_} => trivial
    clear go
    cases hp
    · have hN2 : np = 0 ∧ ph = 0 ∧ pm = 0 := by simpa using hN
      obtain ⟨rfl, rfl, rfl⟩ := hN2
      clear hN
      cases RC
      · go_enter Try.func12, Try.ntmps12
        go_wp2_with (go_at_call 8; (with_reducible refine (C1.out _ KB.out).mono ?_); rintro r w1 ⟨rfl, b1⟩; have HX := hid (KB.out.trans (b1.mono KB.out.size)); clear b1)
        go_ret
        exact ⟨rfl, HX.out⟩
      · go_enter Try.func12, Try.ntmps12
        go_wp2_with (go_at_call 8; first
          | ((with_reducible refine (C1.out _ KB.out).mono ?_); rintro r w1 ⟨rfl, b1⟩; have HX := hid (KB.out.trans (b1.mono KB.out.size)); have c6 := (KR.out _ b1).c6; clear b1)
          | ((with_reducible refine (C2.out _ HX.out).mono ?_); rintro r w2 ⟨rfl, b2⟩; have HY := hid (HX.out.trans (b2.mono HX.out.size)); clear b2))
        go_ret
        exact ⟨by simp, HY.out⟩
    · clear hN
      cases RC
      · go_enter Try.func12, Try.ntmps12
        go_wp2_with (go_at_call 8; (with_reducible refine (C1.out _ KB.out).mono ?_); rintro r w1 ⟨rfl, b1⟩; have HX := hid (KB.out.trans (b1.mono KB.out.size)); clear b1)
        go_ret
        exact ⟨rfl, HX.out⟩
      · go_enter Try.func12, Try.ntmps12
        go_wp2_with (go_at_call 8; first
          | ((with_reducible refine (C1.out _ KB.out).mono ?_); rintro r w1 ⟨rfl, b1⟩; have HX := hid (KB.out.trans (b1.mono KB.out.size)); have c6 := (KR.out _ b1).c6; clear b1)
          | ((with_reducible refine (C2.out _ HX.out).mono ?_); rintro r w2 ⟨rfl, b2⟩; have HY := hid (HX.out.trans (b2.mono HX.out.size)); clear b2))
        go_ret
        exact ⟨by simp, HY.out⟩
set_option maxRecDepth 10000 in
set_option maxHeartbeats 8000000 in
theorem refConfig_any (hc : Sl w w.heap.size tc Ac nc cc) (hq : Sl w w.heap.size tp Ap np cp) (h3 : tc.sz ≤ 3000) (h3' : tp.sz ≤ 3000) (hw : tc.wf) (hw' : tp.wf) : Calls Try.prog 13 #[vCf h m ph pm vp Ac nc cc Ap np cp hp] w fun e w' => e = .returned (.bool (cfg tc tp ph pm hp)) ∧ Below w.heap.size w w' := by
  have C1 := hid (fun w' (b : Below w.heap.size w w') => refRight_any tc h3 hw Ac nc cc false w' (hc.later b))
  have C2 := hid (fun w' (b : Below w.heap.size w w') => refRight_any tp h3' hw' Ap np cp true w' (hq.later b))
  have hl : tp.len = np := hq.len
  have KB := hid (((Below.refl w.heap.size w).alloc (Nat.le_refl _) (.cells #[.int .i64 h, .int .i64 m, .int .i64 ph, .int .i64 pm, vp, .slice Ac nc cc, .slice Ap np cp, .bool hp] 25)))
  have KR := hid (fun w' b => (b8_row (heap_alloc_new w (.cells #[.int .i64 h, .int .i64 m, .int .i64 ph, .int .i64 pm, vp, .slice Ac nc cc, .slice Ap np cp, .bool hp] 25))).below (w' := w') b)
  unfold cfg vCf
  rw [hl]
  obtain ⟨RC, hRC⟩ : ∃ R, tc.right false = R := ⟨_, rfl⟩
  obtain ⟨RP, hRP⟩ : ∃ R, tp.right true = R := ⟨_, rfl⟩
  rw [hRC] at C1 ⊢
  rw [hRP] at C2 ⊢
  clear hRC hRP hc hq hl h3 h3' hw hw'
  cases RC
  · go_enter Try.func13, Try.ntmps13
    go_wp2_with (go_at_call 9; (with_reducible refine (C1.out _ KB.out).mono ?_); rintro r w1 ⟨rfl, b1⟩; have HX := hid (KB.out.trans (b1.mono KB.out.size)); clear b1)
    go_ret
    exact ⟨rfl, HX.out⟩
  cases RP
  · go_enter Try.func13, Try.ntmps13
    go_wp2_with (go_at_call 9; first
      | ((with_reducible refine (C1.out _ KB.out).mono ?_); rintro r w1 ⟨rfl, b1⟩; have HX := hid (KB.out.trans (b1.mono KB.out.size)); have c6 := (KR.out _ b1).c6; clear b1)
      | ((with_reducible refine (C2.out _ HX.out).mono ?_); rintro r w2 ⟨rfl, b2⟩; have HY := hid (HX.out.trans (b2.mono HX.out.size)); clear b2))
    go_ret
    exact ⟨rfl, HY.out⟩
  cases hp
  · by_cases h1 : np = 0
    · subst h1
      by_cases h2 : ph = 0
      · subst h2
        have e : (true && (true && (false || decide ((0 : Nat) = 0 ∧ (0 : Int) = 0 ∧ pm = 0)))) = (pm == 0) := by
          by_cases h : pm = 0
          · subst h; rfl
          · rw [decide_eq_false (by omega)]; symm; simpa using h
        rw [e]
        clear e
        go_enter Try.func13, Try.ntmps13
        go_wp2_with (go_at_call 9; first
          | ((with_reducible refine (C1.out _ KB.out).mono ?_); rintro r w1 ⟨rfl, b1⟩; have HX := hid (KB.out.trans (b1.mono KB.out.size)); have HX0 := hid b1; have c6 := (KR.out _ b1).c6; clear b1)
          | ((with_reducible refine (C2.out _ HX.out).mono ?_); rintro r w2 ⟨rfl, b2⟩; have HY := hid (HX.out.trans (b2.mono HX.out.size)); obtain ⟨q0, q1, q2, q3, q4, q5, q6, q7⟩ := KR.out w2 (HX0.out.trans (b2.mono HX0.out.size)); clear b2))
        go_ret
        exact ⟨by simp, HY.out⟩
      · have h2z : (ph == 0) = false := by simpa using h2
        have e : (true && (true && (false || decide ((0 : Nat) = 0 ∧ ph = 0 ∧ pm = 0)))) = false := by rw [decide_eq_false (by omega)]; rfl
        rw [e]
        clear e h2
        go_enter Try.func13, Try.ntmps13
        go_wp2_with (go_at_call 9; first
          | ((with_reducible refine (C1.out _ KB.out).mono ?_); rintro r w1 ⟨rfl, b1⟩; have HX := hid (KB.out.trans (b1.mono KB.out.size)); have HX0 := hid b1; have c6 := (KR.out _ b1).c6; clear b1)
          | ((with_reducible refine (C2.out _ HX.out).mono ?_); rintro r w2 ⟨rfl, b2⟩; have HY := hid (HX.out.trans (b2.mono HX.out.size)); obtain ⟨q0, q1, q2, q3, q4, q5, q6, q7⟩ := KR.out w2 (HX0.out.trans (b2.mono HX0.out.size)); clear b2))
        go_ret
        exact ⟨by simp, HY.out⟩
    · have h1z : ((np : Int) == 0) = false := by simpa using h1
      have e : (true && (true && (false || decide (np = 0 ∧ ph = 0 ∧ pm = 0)))) = false := by rw [decide_eq_false (by omega)]; rfl
      rw [e]
      clear e h1
      go_enter Try.func13, Try.ntmps13
      go_wp2_with (go_at_call 9; first
        | ((with_reducible refine (C1.out _ KB.out).mono ?_); rintro r w1 ⟨rfl, b1⟩; have HX := hid (KB.out.trans (b1.mono KB.out.size)); have HX0 := hid b1; have c6 := (KR.out _ b1).c6; clear b1)
        | ((with_reducible refine (C2.out _ HX.out).mono ?_); rintro r w2 ⟨rfl, b2⟩; have HY := hid (HX.out.trans (b2.mono HX.out.size)); obtain ⟨q0, q1, q2, q3, q4, q5, q6, q7⟩ := KR.out w2 (HX0.out.trans (b2.mono HX0.out.size)); clear b2))
      go_ret
      exact ⟨by simp, HY.out⟩
  · rw [show (true && (true && (true || decide (np = 0 ∧ ph = 0 ∧ pm = 0)))) = true from rfl]
    go_enter Try.func13, Try.ntmps13
    go_wp2_with (go_at_call 9; first
      | ((with_reducible refine (C1.out _ KB.out).mono ?_); rintro r w1 ⟨rfl, b1⟩; have HX := hid (KB.out.trans (b1.mono KB.out.size)); have HX0 := hid b1; have c6 := (KR.out _ b1).c6; clear b1)
      | ((with_reducible refine (C2.out _ HX.out).mono ?_); rintro r w2 ⟨rfl, b2⟩; have HY := hid (HX.out.trans (b2.mono HX.out.size)); obtain ⟨q0, q1, q2, q3, q4, q5, q6, q7⟩ := KR.out w2 (HX0.out.trans (b2.mono HX0.out.size)); clear b2))
    go_ret
    exact ⟨by simp, HY.out⟩
end
end Go.Proofs.Ytdachagkhjhggaa
