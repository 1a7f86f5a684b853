/-
  Merged: Rbk2 Rbk3 Rbk4 Rbk8.
-/
import Derived.Test.YtkfdbibgjoaefaaGreatDoorMg37
import Derived.Test.YtkfdbibgjoaefaaGreatDoorMg27
import Derived.Test.YtkfdbibgjoaefaaGreatDoorMg05
/-
  The document's blend: a part's tables at first: kind 2 (written by tools/stage12/gen_rbk.py).
-/
namespace Go.Proofs.YtkfdbibgjoaefaaGreatDoor
open Go.RowKit
set_option linter.unusedVariables false
set_option linter.unusedSimpArgs false

attribute [local irreducible] cellsU cellsPt
set_option maxRecDepth 10000 in
set_option maxHeartbeats 4000000 in
theorem begun_2 (p : Pt) (w : World) (sz : Nat) (hsz : p.size = (sz : Int)) (hs16 : sz ≤ 16) (hk : p.kind = 2) :
    Calls Tryz.prog 29 #[.agg (cellsPt p)] w (Begun w p) := by
  have hbp : begun p = { p := p, chance := List.replicate (pw p.size) 2097152, count := List.replicate (pw p.size) 0 } := by
    unfold begun
    simp [hk]
  have z65 := zero65
  have hbd := build65 p
  have hszP := szP p
  have HPW := hid (fun w => r_power sz (by omega) w)
  have HB := hid (fun W (h : Bgn w W p (begun p) nilV) => h)
  obtain ⟨W1, hW1⟩ : ∃ W1, (w.alloc (.cells (cellsPt p) 38)).alloc (.cells (cellsU zUn nilV) 65) = W1 := ⟨_, rfl⟩
  have HW := hid (by
    have a1 := heap_alloc_new w (.cells (cellsPt p) 38)
    have a2 := heap_alloc_new (w.alloc (.cells (cellsPt p) 38)) (.cells (cellsU zUn nilV) 65)
    have hs : (w.alloc (.cells (cellsPt p) 38)).heap.size = w.heap.size + 1 := by simp
    rw [hs, hW1] at a2
    have a3 : W1.heap[w.heap.size]? = some (.cells (cellsPt p) 38 (0, 0)) := by
      rw [← hW1]
      exact (Below.heap_alloc _ _ _ (by rw [hs]; omega)).trans a1
    have a4 : W1.heap.size = w.heap.size + 2 := by rw [← hW1]; simp
    have a5 : Below w.heap.size w W1 := by
      rw [← hW1]
      exact ((Below.refl _ w).alloc (Nat.le_refl _) _).alloc (by rw [hs]; omega) _
    exact (⟨a3, a2, a4, a5⟩ : W1.heap[w.heap.size]? = some (.cells (cellsPt p) 38 (0, 0)) ∧ W1.heap[w.heap.size + 1]? = some (.cells (cellsU zUn nilV) 65 (0, 0)) ∧ W1.heap.size = w.heap.size + 2 ∧ Below w.heap.size w W1))
  go_enter Tryz.func29, Tryz.ntmps29
  go_upto_region 1 with fail
  clear hW1
  obtain ⟨a1, a2, a3, a4⟩ := HW.out
  clear HW
  generalize hH : w.heap.size = H at *
  have hn : (W1.alloc (.cells (cellsU zUn nilV) 65)).heap[H + 2]? = some (.cells (cellsU zUn nilV) 65 (0, 0)) := by rw [← a3]; exact heap_alloc_new _ _
  have BG := hid (bgn_made hH a1 a2 a3 a4)
  go_upto_region 2 with (first
    | (refine wpList_load_row rfl 38 (.tmp 1) rfl H rfl 38 (cellsPt p) (0, 0) _ a1 Tryz.underlying38 rfl hszP ?_)
    | (refine wpList_build65 p rfl (.tmp 11) rfl rfl ?_)
    | (refine wpList_store_row (o := ⟨none, .store 65 (.tmp 3) (.tmp 12), _, _, _, _⟩) rfl 65 (.tmp 3) (.tmp 12) rfl (H + 2) (cellsU { p := p } nilV) rfl rfl 65 _ hn (szU _ _) (szEq _ _ _ _) (oneU _ _) ?_))
  generalize (W1.alloc (.cells (cellsU zUn nilV) 65)).setRow (H + 2) (cellsU { p := p } nilV) = W2 at *
  clear a1 a2 a3 a4 hn hbd hszP
  obtain ⟨p0, p1, p3⟩ := BG.out.part
  rw [hsz] at p1
  rw [hH] at p0 p1 p3
  obtain ⟨pn, hpn⟩ : ∃ pn, 2 ^ sz = pn := ⟨_, rfl⟩
  have epw : pw p.size = pn := by unfold pw; rw [hsz, ← hpn]; rfl
  have hpn2 : pn ≤ 65536 := by rw [← hpn]; exact Nat.pow_le_pow_right (n := 2) (by decide) hs16
  rw [hpn] at HPW
  rw [epw] at hbp
  have n2 : ((p.kind : Int) == 2) = true := by simp only [beq_iff_eq]; omega
  clear hk HB
  have hpz : (pn : Int) ≤ 65536 := by omega
  go_upto_region 6 with (go_at_call 54; (with_reducible refine (HPW.out _).mono ?_); rintro rj wj ⟨rfl, ej⟩; rw [ej]; clear ej wj)
  have BG0 : Hid (Bgn w W2 p { p := p, chance := List.replicate 0 (2097152 : Int), count := List.replicate 0 (0 : Int) } (ckV nilS nilS)) := hid BG.out
  clear BG p0 p1 p3 n2 HPW
  go_loopw [5] (fun v wr => ∃ (i : Nat) (c k : Sw), i ≤ pn ∧ v = .int .i64 (i : Int) ∧ Hid (Bgn w wr p { p := p, chance := List.replicate i (2097152 : Int), count := List.replicate i (0 : Int) } (ckV c k))) (fun v _ => pn - (intOf v).toNat)
  case atStart => exact ⟨0, nilS, nilS, by omega, rfl, BG0⟩
  case round =>
    obtain ⟨i, c, k, hi, rfl, BI⟩ := hrel
    clear BG0
    by_cases hlt : i < pn
    · have hz : (i : Int) < (pn : Int) := by omega
      have ST0 := hid (BI.out.st.later ((Below.refl _ wr).drew))
      obtain ⟨lc, hlc⟩ : ∃ lc, List.replicate i (2097152 : Int) = lc := ⟨_, rfl⟩
      obtain ⟨lk, hlk⟩ : ∃ lk, List.replicate i (0 : Int) = lk := ⟨_, rfl⟩
      have llc : lc.length ≤ 4000000 := by rw [← hlc]; simp; omega
      have llk : lk.length ≤ 4000000 := by rw [← hlk]; simp; omega
      rw [hlc, hlk] at ST0
      have SC0 := hid (ST0.out.sc hH)
      have DX : List.replicate (i + 1) (2097152 : Int) = lc ++ [2097152] := by rw [List.replicate_succ', hlc]
      have DK : List.replicate (i + 1) (0 : Int) = lk ++ [0] := by rw [List.replicate_succ', hlk]
      clear BI hlc hlk
      go_upto_region 8 with fail
      refine wp_region_until 9 (S := fun W => W.cell? ⟨H + 2, 8, none⟩ = some (.slice c.a c.n c.c) ∧ W.cell? ⟨H + 2, 9, none⟩ = some (.slice k.a k.n k.c)) (by kernel_rfl) SC0.out (fun hH0 => ?_)
      generalize wr.drew = W0 at *
      refine wpUntil_take (i := 0) (oi := ⟨some 25, _, _, _, _, _⟩) (v := .pointer (some ⟨H + 2, 8, none⟩)) rfl (by kernel_rfl) (by kernel_rfl) (by kernel_rfl) (by kernel_rfl) (by decide) (by kernel_rfl) (fun _ _ _ h => h) (Or.inl ⟨by rfl, by intro w hSw; (try dsimp only at hSw); go_simp⟩) hH0 ?_
      try simp only [Act.put, List.setIfInBounds_toArray, List.set_cons_zero, List.set_cons_succ]
      refine wpUntil_take (i := 1) (oi := ⟨some 26, _, _, _, _, _⟩) (v := .slice c.a c.n c.c) rfl (by kernel_rfl) (by kernel_rfl) (by kernel_rfl) (by kernel_rfl) (by decide) (by kernel_rfl) (fun _ _ _ h => h) (Or.inl ⟨by rfl, by intro w hSw; (try dsimp only at hSw); have h1 := hSw.1; clear hSw; go_simp⟩) hH0 ?_
      try simp only [Act.put, List.setIfInBounds_toArray, List.set_cons_zero, List.set_cons_succ]
      refine wpUntil_take (i := 4) (oi := ⟨some 29, _, _, _, _, _⟩) (v := .pointer (some ⟨H + 2, 9, none⟩)) rfl (by kernel_rfl) (by kernel_rfl) (by kernel_rfl) (by kernel_rfl) (by decide) (by kernel_rfl) (fun _ _ _ h => h) (Or.inl ⟨by rfl, by intro w hSw; (try dsimp only at hSw); go_simp⟩) hH0 ?_
      try simp only [Act.put, List.setIfInBounds_toArray, List.set_cons_zero, List.set_cons_succ]
      refine wpUntil_take (i := 5) (oi := ⟨some 30, _, _, _, _, _⟩) (v := .slice k.a k.n k.c) rfl (by kernel_rfl) (by kernel_rfl) (by kernel_rfl) (by kernel_rfl) (by decide) (by kernel_rfl) (fun _ _ _ h => h) (Or.inl ⟨by rfl, by intro w hSw; (try dsimp only at hSw); have h1 := hSw.2; clear hSw; go_simp⟩) hH0 ?_
      try simp only [Act.put, List.setIfInBounds_toArray, List.set_cons_zero, List.set_cons_succ]
      refine wpUntil_ready (rs := [2, 6]) (by kernel_rfl) (by simp) (AllU.cons rfl (fun K hK => ?_) (AllU.cons rfl (fun K hK => ?_) AllU.nil))
      · have E1 := hid (El.made ST0.out 2097152)
        have ST1 := hid (ST0.out.later ((Below.refl _ W0).alloc (Nat.le_refl _) (.cells #[.int .i64 2097152] 3)))
        go_simp
        generalize W0.alloc (.cells #[.int .i64 2097152] 3) = W1 at *
        generalize W0.heap.size = g1 at *
        have SC1 := hid (ST1.out.sc hH)
        refine hK.out _ _ SC1.out (fun hS1 => ?_)
        clear hK K
        try simp only [Act.put, List.setIfInBounds_toArray, List.set_cons_zero, List.set_cons_succ]
        refine wpUntil_ready (rs := [3, 6]) (by kernel_rfl) (by simp) (AllU.cons rfl (fun K hK => ?_) (AllU.cons rfl (fun K hK => ?_) AllU.nil))
        · refine if_app rfl (.tmp 26) (.tmp 27) rfl (H + 3) (.slice c.a c.n c.c) lc.length (lc.map iv) g1 2097152 rfl rfl (by have := ST1.out.oc; rw [hH] at this; exact this) E1.out.cell llc (by have := ST1.out.lt; rw [hH] at this; exact this) (fun q2 W2 h1 h2 h3 => ?_)
          have ST2 := hid (ST1.out.appC (x := 2097152) h2.out (by rw [hH]; exact h1.out) h3.out)
          clear h1 h2 h3
          have SC2 := hid (ST2.out.sc hH)
          refine hK.out _ _ SC2.out (fun hS2 => ?_)
          clear hK K
          try simp only [Act.put, List.setIfInBounds_toArray, List.set_cons_zero, List.set_cons_succ]
          refine wpUntil_take (i := 8) (oi := ⟨some 33, _, _, _, _, _⟩) (v := .pointer (some ⟨H + 2, 8, none⟩)) rfl (by kernel_rfl) (by kernel_rfl) (by kernel_rfl) (by kernel_rfl) (by decide) (by kernel_rfl) (fun _ _ _ h => h) (Or.inl ⟨by rfl, by intro w hSw; (try dsimp only at hSw); go_simp⟩) hS2 ?_
          try simp only [Act.put, List.setIfInBounds_toArray, List.set_cons_zero, List.set_cons_succ]
          refine wpUntil_ready (rs := [6]) (by kernel_rfl) (by simp) (AllU.cons rfl (fun K hK => ?_) AllU.nil)
          have E3 := hid (El.made ST2.out 0)
          have ST3 := hid (ST2.out.later ((Below.refl _ W2).alloc (Nat.le_refl _) (.cells #[.int .i64 0] 3)))
          go_simp
          generalize W2.alloc (.cells #[.int .i64 0] 3) = W3 at *
          generalize W2.heap.size = g3 at *
          have SC3 := hid (ST3.out.sc hH)
          refine hK.out _ _ SC3.out (fun hS3 => ?_)
          clear hK K
          try simp only [Act.put, List.setIfInBounds_toArray, List.set_cons_zero, List.set_cons_succ]
          refine wpUntil_ready (rs := [7]) (by kernel_rfl) (by simp) (AllU.cons rfl (fun K hK => ?_) AllU.nil)
          refine if_app rfl (.tmp 30) (.tmp 31) rfl (H + 3) (.slice k.a k.n k.c) lk.length (lk.map iv) g3 0 rfl rfl (by have := ST3.out.ok; rw [hH] at this; exact this) E3.out.cell llk (by have := ST3.out.lt; rw [hH] at this; exact this) (fun q4 W4 h1 h2 h3 => ?_)
          have ST4 := hid (ST3.out.appK (x := 0) h2.out (by rw [hH]; exact h1.out) h3.out)
          clear h1 h2 h3
          have SC4 := hid (ST4.out.sc hH)
          refine hK.out _ _ SC4.out (fun hS4 => ?_)
          clear hK K
          try simp only [Act.put, List.setIfInBounds_toArray, List.set_cons_zero, List.set_cons_succ]
          refine wpUntil_ready (rs := [9]) (by kernel_rfl) (by simp) (AllU.late rfl (by kernel_rfl) (fun K hK => ?_) AllU.nil)
          obtain ⟨s8, s9⟩ := ST4.out.sc hH
          obtain ⟨f8, f9⟩ := ST4.out.fr hH
          have DN := hid ST4.out.done.1
          rw [hH] at DN
          go_simp
          refine hK.out _ _ ?_
          clear hK K
          try simp only [Act.put, List.setIfInBounds_toArray, List.set_cons_zero, List.set_cons_succ]
          refine wpUntil_ready (rs := [10]) (by kernel_rfl) (by simp) (AllU.late rfl (by kernel_rfl) (fun K hK => ?_) AllU.nil)
          go_simp
          refine hK.out _ _ ?_
          clear hK K
          try simp only [Act.put, List.setIfInBounds_toArray, List.set_cons_zero, List.set_cons_succ]
          refine wpUntil_ready (rs := [11]) (by kernel_rfl) (by simp) (AllU.late rfl (by kernel_rfl) (fun K hK => ?_) AllU.nil)
          go_simp
          refine hK.out _ _ ?_
          clear hK K
          try simp only [Act.put, List.setIfInBounds_toArray, List.set_cons_zero, List.set_cons_succ]
          refine wpUntil_done (by kernel_rfl) ?_ _
          clear s8 s9 f8 f9
          go_wp2_with fail
          go_roundw
          all_goals first
            | exact ⟨i + 1, q2, q4, by omega, by go_num, by rw [DX, DK]; exact DN⟩
            | (simp [intOf]; omega)
        · have E2 := hid (El.made ST1.out 0)
          have ST2 := hid (ST1.out.later ((Below.refl _ W1).alloc (Nat.le_refl _) (.cells #[.int .i64 0] 3)))
          have F2 := hid (E1.out.later ((Below.refl _ W1).alloc (Nat.le_refl _) (.cells #[.int .i64 0] 3)))
          go_simp
          generalize W1.alloc (.cells #[.int .i64 0] 3) = W2 at *
          generalize W1.heap.size = g2 at *
          have SC2 := hid (ST2.out.sc hH)
          refine hK.out _ _ SC2.out (fun hS2 => ?_)
          clear hK K
          try simp only [Act.put, List.setIfInBounds_toArray, List.set_cons_zero, List.set_cons_succ]
          refine wpUntil_ready (rs := [3]) (by kernel_rfl) (by simp) (AllU.cons rfl (fun K hK => ?_) AllU.nil)
          refine if_app rfl (.tmp 26) (.tmp 27) rfl (H + 3) (.slice c.a c.n c.c) lc.length (lc.map iv) g1 2097152 rfl rfl (by have := ST2.out.oc; rw [hH] at this; exact this) F2.out.cell llc (by have := ST2.out.lt; rw [hH] at this; exact this) (fun q3 W3 h1 h2 h3 => ?_)
          have ST3 := hid (ST2.out.appC (x := 2097152) h2.out (by rw [hH]; exact h1.out) h3.out)
          have F3 := hid (E2.out.appC h2.out h3.out)
          clear h1 h2 h3
          have SC3 := hid (ST3.out.sc hH)
          refine hK.out _ _ SC3.out (fun hS3 => ?_)
          clear hK K
          try simp only [Act.put, List.setIfInBounds_toArray, List.set_cons_zero, List.set_cons_succ]
          refine wpUntil_take (i := 8) (oi := ⟨some 33, _, _, _, _, _⟩) (v := .pointer (some ⟨H + 2, 8, none⟩)) rfl (by kernel_rfl) (by kernel_rfl) (by kernel_rfl) (by kernel_rfl) (by decide) (by kernel_rfl) (fun _ _ _ h => h) (Or.inl ⟨by rfl, by intro w hSw; (try dsimp only at hSw); go_simp⟩) hS3 ?_
          try simp only [Act.put, List.setIfInBounds_toArray, List.set_cons_zero, List.set_cons_succ]
          refine wpUntil_ready (rs := [7]) (by kernel_rfl) (by simp) (AllU.cons rfl (fun K hK => ?_) AllU.nil)
          refine if_app rfl (.tmp 30) (.tmp 31) rfl (H + 3) (.slice k.a k.n k.c) lk.length (lk.map iv) g2 0 rfl rfl (by have := ST3.out.ok; rw [hH] at this; exact this) F3.out.cell llk (by have := ST3.out.lt; rw [hH] at this; exact this) (fun q4 W4 h1 h2 h3 => ?_)
          have ST4 := hid (ST3.out.appK (x := 0) h2.out (by rw [hH]; exact h1.out) h3.out)
          clear h1 h2 h3
          have SC4 := hid (ST4.out.sc hH)
          refine hK.out _ _ SC4.out (fun hS4 => ?_)
          clear hK K
          try simp only [Act.put, List.setIfInBounds_toArray, List.set_cons_zero, List.set_cons_succ]
          refine wpUntil_ready (rs := [9]) (by kernel_rfl) (by simp) (AllU.late rfl (by kernel_rfl) (fun K hK => ?_) AllU.nil)
          obtain ⟨s8, s9⟩ := ST4.out.sc hH
          obtain ⟨f8, f9⟩ := ST4.out.fr hH
          have DN := hid ST4.out.done.1
          rw [hH] at DN
          go_simp
          refine hK.out _ _ ?_
          clear hK K
          try simp only [Act.put, List.setIfInBounds_toArray, List.set_cons_zero, List.set_cons_succ]
          refine wpUntil_ready (rs := [10]) (by kernel_rfl) (by simp) (AllU.late rfl (by kernel_rfl) (fun K hK => ?_) AllU.nil)
          go_simp
          refine hK.out _ _ ?_
          clear hK K
          try simp only [Act.put, List.setIfInBounds_toArray, List.set_cons_zero, List.set_cons_succ]
          refine wpUntil_ready (rs := [11]) (by kernel_rfl) (by simp) (AllU.late rfl (by kernel_rfl) (fun K hK => ?_) AllU.nil)
          go_simp
          refine hK.out _ _ ?_
          clear hK K
          try simp only [Act.put, List.setIfInBounds_toArray, List.set_cons_zero, List.set_cons_succ]
          refine wpUntil_done (by kernel_rfl) ?_ _
          clear s8 s9 f8 f9
          go_wp2_with fail
          go_roundw
          all_goals first
            | exact ⟨i + 1, q3, q4, by omega, by go_num, by rw [DX, DK]; exact DN⟩
            | (simp [intOf]; omega)
      · have E1 := hid (El.made ST0.out 0)
        have ST1 := hid (ST0.out.later ((Below.refl _ W0).alloc (Nat.le_refl _) (.cells #[.int .i64 0] 3)))
        go_simp
        generalize W0.alloc (.cells #[.int .i64 0] 3) = W1 at *
        generalize W0.heap.size = g1 at *
        have SC1 := hid (ST1.out.sc hH)
        refine hK.out _ _ SC1.out (fun hS1 => ?_)
        clear hK K
        try simp only [Act.put, List.setIfInBounds_toArray, List.set_cons_zero, List.set_cons_succ]
        refine wpUntil_ready (rs := [2]) (by kernel_rfl) (by simp) (AllU.cons rfl (fun K hK => ?_) AllU.nil)
        have E2 := hid (El.made ST1.out 2097152)
        have ST2 := hid (ST1.out.later ((Below.refl _ W1).alloc (Nat.le_refl _) (.cells #[.int .i64 2097152] 3)))
        have F2 := hid (E1.out.later ((Below.refl _ W1).alloc (Nat.le_refl _) (.cells #[.int .i64 2097152] 3)))
        go_simp
        generalize W1.alloc (.cells #[.int .i64 2097152] 3) = W2 at *
        generalize W1.heap.size = g2 at *
        have SC2 := hid (ST2.out.sc hH)
        refine hK.out _ _ SC2.out (fun hS2 => ?_)
        clear hK K
        try simp only [Act.put, List.setIfInBounds_toArray, List.set_cons_zero, List.set_cons_succ]
        refine wpUntil_ready (rs := [3]) (by kernel_rfl) (by simp) (AllU.cons rfl (fun K hK => ?_) AllU.nil)
        refine if_app rfl (.tmp 26) (.tmp 27) rfl (H + 3) (.slice c.a c.n c.c) lc.length (lc.map iv) g2 2097152 rfl rfl (by have := ST2.out.oc; rw [hH] at this; exact this) E2.out.cell llc (by have := ST2.out.lt; rw [hH] at this; exact this) (fun q3 W3 h1 h2 h3 => ?_)
        have ST3 := hid (ST2.out.appC (x := 2097152) h2.out (by rw [hH]; exact h1.out) h3.out)
        have F3 := hid (F2.out.appC h2.out h3.out)
        clear h1 h2 h3
        have SC3 := hid (ST3.out.sc hH)
        refine hK.out _ _ SC3.out (fun hS3 => ?_)
        clear hK K
        try simp only [Act.put, List.setIfInBounds_toArray, List.set_cons_zero, List.set_cons_succ]
        refine wpUntil_take (i := 8) (oi := ⟨some 33, _, _, _, _, _⟩) (v := .pointer (some ⟨H + 2, 8, none⟩)) rfl (by kernel_rfl) (by kernel_rfl) (by kernel_rfl) (by kernel_rfl) (by decide) (by kernel_rfl) (fun _ _ _ h => h) (Or.inl ⟨by rfl, by intro w hSw; (try dsimp only at hSw); go_simp⟩) hS3 ?_
        try simp only [Act.put, List.setIfInBounds_toArray, List.set_cons_zero, List.set_cons_succ]
        refine wpUntil_ready (rs := [7]) (by kernel_rfl) (by simp) (AllU.cons rfl (fun K hK => ?_) AllU.nil)
        refine if_app rfl (.tmp 30) (.tmp 31) rfl (H + 3) (.slice k.a k.n k.c) lk.length (lk.map iv) g1 0 rfl rfl (by have := ST3.out.ok; rw [hH] at this; exact this) F3.out.cell llk (by have := ST3.out.lt; rw [hH] at this; exact this) (fun q4 W4 h1 h2 h3 => ?_)
        have ST4 := hid (ST3.out.appK (x := 0) h2.out (by rw [hH]; exact h1.out) h3.out)
        clear h1 h2 h3
        have SC4 := hid (ST4.out.sc hH)
        refine hK.out _ _ SC4.out (fun hS4 => ?_)
        clear hK K
        try simp only [Act.put, List.setIfInBounds_toArray, List.set_cons_zero, List.set_cons_succ]
        refine wpUntil_ready (rs := [9]) (by kernel_rfl) (by simp) (AllU.late rfl (by kernel_rfl) (fun K hK => ?_) AllU.nil)
        obtain ⟨s8, s9⟩ := ST4.out.sc hH
        obtain ⟨f8, f9⟩ := ST4.out.fr hH
        have DN := hid ST4.out.done.1
        rw [hH] at DN
        go_simp
        refine hK.out _ _ ?_
        clear hK K
        try simp only [Act.put, List.setIfInBounds_toArray, List.set_cons_zero, List.set_cons_succ]
        refine wpUntil_ready (rs := [10]) (by kernel_rfl) (by simp) (AllU.late rfl (by kernel_rfl) (fun K hK => ?_) AllU.nil)
        go_simp
        refine hK.out _ _ ?_
        clear hK K
        try simp only [Act.put, List.setIfInBounds_toArray, List.set_cons_zero, List.set_cons_succ]
        refine wpUntil_ready (rs := [11]) (by kernel_rfl) (by simp) (AllU.late rfl (by kernel_rfl) (fun K hK => ?_) AllU.nil)
        go_simp
        refine hK.out _ _ ?_
        clear hK K
        try simp only [Act.put, List.setIfInBounds_toArray, List.set_cons_zero, List.set_cons_succ]
        refine wpUntil_done (by kernel_rfl) ?_ _
        clear s8 s9 f8 f9
        go_wp2_with fail
        go_roundw
        all_goals first
          | exact ⟨i + 1, q3, q4, by omega, by go_num, by rw [DX, DK]; exact DN⟩
          | (simp [intOf]; omega)
    · obtain rfl : i = pn := by omega
      generalize List.replicate i (2097152 : Int) = lc at *
      generalize List.replicate i (0 : Int) = lk at *
      have BE := hid (bgn_end (by rw [hbp]; exact BI.out : Bgn w wr p (begun p) (ckV c k)))
      rw [hH, hbp] at BE
      have r3 := BI.out.r3
      have r2 := BI.out.r2
      rw [hH] at r2 r3
      go_wp2_with (first
        | (refine wpList_load_row rfl 65 (.tmp 3) rfl (H + 2) rfl 65 (cellsU { p := p, chance := lc, count := lk } (ckV c k)) (0, 0) _ r3 Tryz.underlying65 rfl (szU _ _) ?_)
        | (refine wpList_store_row (o := ⟨none, .store 65 (.tmp 2) (.tmp 128), _, _, _, _⟩) rfl 65 (.tmp 2) (.tmp 128) rfl (H + 1) (cellsU { p := p, chance := lc, count := lk } (ckV c k)) rfl rfl 65 _ r2 (szU _ _) (szEq _ _ _ _) (oneU _ _) ?_))
      refine bodyPost_ret (results_cell_row (by kernel_rfl : Tryz.f29.results = #[.cell 2 65]) _ _ (H + 1) 65 (cellsU { p := p, chance := lc, count := lk } (ckV c k)) (0, 0) _ rfl BE.out.1 Tryz.underlying65 rfl (szU _ _)) rfl ?_
      exact BE.out.2
end Go.Proofs.YtkfdbibgjoaefaaGreatDoor
/-
  The document's blend: a part's tables at first: kind 3 (written by tools/stage12/gen_rbk.py).
-/
namespace Go.Proofs.YtkfdbibgjoaefaaGreatDoor
open Go.RowKit
set_option linter.unusedVariables false
set_option linter.unusedSimpArgs false

attribute [local irreducible] cellsU cellsPt
set_option maxRecDepth 10000 in
set_option maxHeartbeats 4000000 in
theorem begun_3 (p : Pt) (w : World) (sz : Nat) (hsz : p.size = (sz : Int)) (hs16 : sz ≤ 16) (hk : p.kind = 3) :
    Calls Tryz.prog 29 #[.agg (cellsPt p)] w (Begun w p) := by
  have hbp : begun p = { p := p, state := List.replicate (pw p.size) 0, chance := (List.range 256).map (fun s => (chN s : Int)) } := by
    unfold begun
    simp [hk]
  have z65 := zero65
  have hbd := build65 p
  have hszP := szP p
  have HPW := hid (fun w => r_power sz (by omega) w)
  have HB := hid (fun W (h : Bgn w W p (begun p) nilV) => h)
  obtain ⟨W1, hW1⟩ : ∃ W1, (w.alloc (.cells (cellsPt p) 38)).alloc (.cells (cellsU zUn nilV) 65) = W1 := ⟨_, rfl⟩
  have HW := hid (by
    have a1 := heap_alloc_new w (.cells (cellsPt p) 38)
    have a2 := heap_alloc_new (w.alloc (.cells (cellsPt p) 38)) (.cells (cellsU zUn nilV) 65)
    have hs : (w.alloc (.cells (cellsPt p) 38)).heap.size = w.heap.size + 1 := by simp
    rw [hs, hW1] at a2
    have a3 : W1.heap[w.heap.size]? = some (.cells (cellsPt p) 38 (0, 0)) := by
      rw [← hW1]
      exact (Below.heap_alloc _ _ _ (by rw [hs]; omega)).trans a1
    have a4 : W1.heap.size = w.heap.size + 2 := by rw [← hW1]; simp
    have a5 : Below w.heap.size w W1 := by
      rw [← hW1]
      exact ((Below.refl _ w).alloc (Nat.le_refl _) _).alloc (by rw [hs]; omega) _
    exact (⟨a3, a2, a4, a5⟩ : W1.heap[w.heap.size]? = some (.cells (cellsPt p) 38 (0, 0)) ∧ W1.heap[w.heap.size + 1]? = some (.cells (cellsU zUn nilV) 65 (0, 0)) ∧ W1.heap.size = w.heap.size + 2 ∧ Below w.heap.size w W1))
  go_enter Tryz.func29, Tryz.ntmps29
  go_upto_region 1 with fail
  clear hW1
  obtain ⟨a1, a2, a3, a4⟩ := HW.out
  clear HW
  generalize hH : w.heap.size = H at *
  have hn : (W1.alloc (.cells (cellsU zUn nilV) 65)).heap[H + 2]? = some (.cells (cellsU zUn nilV) 65 (0, 0)) := by rw [← a3]; exact heap_alloc_new _ _
  have BG := hid (bgn_made hH a1 a2 a3 a4)
  go_upto_region 2 with (first
    | (refine wpList_load_row rfl 38 (.tmp 1) rfl H rfl 38 (cellsPt p) (0, 0) _ a1 Tryz.underlying38 rfl hszP ?_)
    | (refine wpList_build65 p rfl (.tmp 11) rfl rfl ?_)
    | (refine wpList_store_row (o := ⟨none, .store 65 (.tmp 3) (.tmp 12), _, _, _, _⟩) rfl 65 (.tmp 3) (.tmp 12) rfl (H + 2) (cellsU { p := p } nilV) rfl rfl 65 _ hn (szU _ _) (szEq _ _ _ _) (oneU _ _) ?_))
  generalize (W1.alloc (.cells (cellsU zUn nilV) 65)).setRow (H + 2) (cellsU { p := p } nilV) = W2 at *
  clear a1 a2 a3 a4 hn hbd hszP
  obtain ⟨p0, p1, p3⟩ := BG.out.part
  rw [hsz] at p1
  rw [hH] at p0 p1 p3
  obtain ⟨pn, hpn⟩ : ∃ pn, 2 ^ sz = pn := ⟨_, rfl⟩
  have epw : pw p.size = pn := by unfold pw; rw [hsz, ← hpn]; rfl
  have hpn2 : pn ≤ 65536 := by rw [← hpn]; exact Nat.pow_le_pow_right (n := 2) (by decide) hs16
  rw [hpn] at HPW
  rw [epw] at hbp
  have n2 : ((p.kind : Int) == 2) = false := by simp only [beq_eq_false_iff_ne, ne_eq]; omega
  have n3 : ((p.kind : Int) == 3) = true := by simp only [beq_iff_eq]; omega
  clear hk HB
  have hm1 := fun w => make_row 63 5 _ 1 _ Tryz.underlying63 Tryz.info5' (fun _ => .int .u8 0) (by intro k; simp [Value.cells, Nat.mod_one]) pn (by omega) (by omega) w
  have hpz : (pn : Int) ≤ 65536 := by omega
  have r3 := BG.out.r3
  rw [hH] at r3
  have c10 := (BG.out.nil hH).1.1
  have f10 := (BG.out.nil hH).1.2
  have l3 := lt_of_heap r3
  have hne : ¬ H + 2 = W2.heap.size := by omega
  have hne3 : ¬ W2.heap.size = H + 2 := by omega
  have hgd : H + 2 < W2.heap.size := l3
  go_upto_region 12 with (go_at_call 54; (with_reducible refine (HPW.out _).mono ?_); rintro rj wj ⟨rfl, ej⟩; rw [ej]; clear ej wj)
  have BS := hid (BG.out.states hpn2)
  rw [hH] at BS
  generalize (W2.setCell ⟨H + 2, 10, none⟩ (.slice (some ⟨W2.heap.size, 0, none⟩) pn pn)).alloc (.cells (fL pn (fun _ => .int .u8 0)).toArray 5) = W3 at BS ⊢
  obtain ⟨q, hq⟩ : ∃ q : Sw, (⟨some ⟨W2.heap.size, 0, none⟩, pn, pn⟩ : Sw) = q := ⟨_, rfl⟩
  rw [hq] at BS
  have BG0 : Hid (Bgn w W3 p { p := p, state := List.replicate pn 0, chance := (List.range 0).map (fun s => (chN s : Int)) } (csV nilS q)) := hid BS.out
  clear BG BS p0 p1 p3 n2 n3 HPW hm1 r3 c10 f10 l3 hne hne3 hgd hq
  have HCH := hid (fun s w h => refChance_any s h w)
  go_loopw [6] (fun v wr => ∃ (i : Nat) (c : Sw), i ≤ 256 ∧ v = .int .i64 (i : Int) ∧ Hid (Bgn w wr p { p := p, state := List.replicate pn 0, chance := (List.range i).map (fun s => (chN s : Int)) } (csV c q))) (fun v _ => 256 - (intOf v).toNat)
  case atStart => exact ⟨0, nilS, by omega, rfl, BG0⟩
  case round =>
    obtain ⟨i, c, hi, rfl, BI⟩ := hrel
    clear BG0
    by_cases hlt : i < 256
    · have hz : (i : Int) < 256 := by omega
      have B0 := hid (BI.out.later ((Below.refl _ wr).drew))
      obtain ⟨lc, hlc⟩ : ∃ lc, (List.range i).map (fun s => (chN s : Int)) = lc := ⟨_, rfl⟩
      have llc : lc.length ≤ 4000000 := by rw [← hlc]; simp; omega
      obtain ⟨z, hz2⟩ : ∃ z : Int, (chN i : Int) = z := ⟨_, rfl⟩
      have DX : (List.range (i + 1)).map (fun s => (chN s : Int)) = lc ++ [z] := by rw [List.range_succ, List.map_append, hlc, ← hz2]; rfl
      have HS := hid (fun w => HCH.out i w hlt)
      rw [hz2] at HS
      rw [hlc] at B0
      have wu : IntKind.u8.wrap (i : Int) = (i : Int) := by
        exact IntWalk.u8_in _ (by omega)
      have SC0 := hid (B0.out.c8 hH).1
      clear BI hlc hz2
      go_upto_region 14 with fail
      refine wp_region_until 8 (S := fun W => W.cell? ⟨H + 2, 8, none⟩ = some (.slice c.a c.n c.c)) (by kernel_rfl) SC0.out (fun hH0 => ?_)
      generalize wr.drew = W0 at *
      refine wpUntil_take (i := 0) (oi := ⟨some 44, _, _, _, _, _⟩) (v := .pointer (some ⟨H + 2, 8, none⟩)) rfl (by kernel_rfl) (by kernel_rfl) (by kernel_rfl) (by kernel_rfl) (by decide) (by kernel_rfl) (fun _ _ _ h => h) (Or.inl ⟨by rfl, by intro w hSw; (try dsimp only at hSw); go_simp⟩) hH0 ?_
      try simp only [Act.put, List.setIfInBounds_toArray, List.set_cons_zero, List.set_cons_succ]
      refine wpUntil_take (i := 1) (oi := ⟨some 45, _, _, _, _, _⟩) (v := .slice c.a c.n c.c) rfl (by kernel_rfl) (by kernel_rfl) (by kernel_rfl) (by kernel_rfl) (by decide) (by kernel_rfl) (fun _ _ _ h => h) (Or.inl ⟨by rfl, by intro w hSw; (try dsimp only at hSw); go_simp⟩) hH0 ?_
      try simp only [Act.put, List.setIfInBounds_toArray, List.set_cons_zero, List.set_cons_succ]
      refine wpUntil_take (i := 2) (oi := ⟨some 46, _, _, _, _, _⟩) (v := .int .i64 (i : Int)) rfl (by kernel_rfl) (by kernel_rfl) (by kernel_rfl) (by kernel_rfl) (by decide) (by kernel_rfl) (fun _ _ _ h => h) (Or.inl ⟨by rfl, by intro w hSw; (try dsimp only at hSw); go_simp⟩) hH0 ?_
      try simp only [Act.put, List.setIfInBounds_toArray, List.set_cons_zero, List.set_cons_succ]
      refine wpUntil_take (i := 3) (oi := ⟨some 47, _, _, _, _, _⟩) (v := .int .u8 (i : Int)) rfl (by kernel_rfl) (by kernel_rfl) (by kernel_rfl) (by kernel_rfl) (by decide) (by kernel_rfl) (fun _ _ _ h => h) (Or.inl ⟨by rfl, by intro w hSw; (try dsimp only at hSw); go_simp⟩) hH0 ?_
      try simp only [Act.put, List.setIfInBounds_toArray, List.set_cons_zero, List.set_cons_succ]
      refine wpUntil_ready (rs := [4]) (by kernel_rfl) (by simp) (AllU.cons rfl (fun K hK => ?_) AllU.nil)
      go_simp
      refine (HS.out W0).mono ?_
      rintro e W1 ⟨rfl, b1⟩
      have B1 := hid (B0.out.later b1)
      clear b1
      have SC1 := hid (B1.out.c8 hH).1
      refine hK.out _ _ SC1.out (fun hS1 => ?_)
      clear hK K
      try simp only [Act.put, List.setIfInBounds_toArray, List.set_cons_zero, List.set_cons_succ]
      refine wpUntil_ready (rs := [5]) (by kernel_rfl) (by simp) (AllU.cons rfl (fun K hK => ?_) AllU.nil)
      have E2 := hid (row_cell (heap_alloc_new W1 (.cells #[.int .i64 z] 3)) 0)
      have B2 := hid (B1.out.later ((Below.refl _ W1).alloc (Nat.le_refl _) (.cells #[.int .i64 z] 3)))
      go_simp
      generalize W1.alloc (.cells #[.int .i64 z] 3) = W4 at *
      generalize W1.heap.size = g at *
      have SC2 := hid (B2.out.c8 hH).1
      refine hK.out _ _ SC2.out (fun hS2 => ?_)
      clear hK K
      try simp only [Act.put, List.setIfInBounds_toArray, List.set_cons_zero, List.set_cons_succ]
      refine wpUntil_ready (rs := [6]) (by kernel_rfl) (by simp) (AllU.cons rfl (fun K hK => ?_) AllU.nil)
      refine if_app rfl (.tmp 45) (.tmp 49) rfl (H + 3) (.slice c.a c.n c.c) lc.length (lc.map iv) g z rfl rfl (by have := B2.out.t.c; rw [hH] at this; exact this) E2.out llc (by have := lt_of_heap B2.out.r3; omega) (fun c5 W5 h1 h2 h3 => ?_)
      have hl : H + 2 < W4.heap.size := by have := lt_of_heap B2.out.r3; omega
      have GW := hid (Bgn.grow_c2 (xs := [z]) (s' := c5) B2.out (Below.refl _ _) h2.out (by rw [hH]; exact h1.out) (csV_apt (own_types h1.out (own_grown B2.out.t.s h2.out (fun q hq e => B2.out.a.cs q e hq)) (by decide))))
      have kk : W5.heap[H + 2]? = W4.heap[H + 2]? := h2.out.block _ (by omega) (fun e => by have := (own_lt B2.out.t.c e.symm).1; omega)
      have s8 := (World.cell?_of_block (a := ⟨H + 2, 8, none⟩) kk).trans (B2.out.c8 hH).1
      have f8 := (World.frozen?_of_block (a := ⟨H + 2, 8, none⟩) kk).trans (B2.out.c8 hH).2
      rw [hH] at GW
      clear h1 h2 h3 kk
      refine hK.out _ _ s8 (fun hS3 => ?_)
      clear hK K
      try simp only [Act.put, List.setIfInBounds_toArray, List.set_cons_zero, List.set_cons_succ]
      refine wpUntil_take (i := 7) (oi := ⟨some 51, _, _, _, _, _⟩) (v := .pointer (some ⟨H + 2, 8, none⟩)) rfl (by kernel_rfl) (by kernel_rfl) (by kernel_rfl) (by kernel_rfl) (by decide) (by kernel_rfl) (fun _ _ _ h => h) (Or.inl ⟨by rfl, by intro w hSw; (try dsimp only at hSw); go_simp⟩) hS3 ?_
      try simp only [Act.put, List.setIfInBounds_toArray, List.set_cons_zero, List.set_cons_succ]
      refine wpUntil_ready (rs := [8]) (by kernel_rfl) (by simp) (AllU.late rfl (by kernel_rfl) (fun K hK => ?_) AllU.nil)
      go_simp
      refine hK.out _ _ ?_
      clear hK K
      try simp only [Act.put, List.setIfInBounds_toArray, List.set_cons_zero, List.set_cons_succ]
      refine wpUntil_done (by kernel_rfl) ?_ _
      clear s8 f8
      go_wp2_with fail
      go_roundw
      all_goals first
        | exact ⟨i + 1, c5, by omega, by go_num, by rw [DX]; exact GW⟩
        | (simp [intOf]; omega)
    · obtain rfl : i = 256 := by omega
      generalize (List.range 256).map (fun s => (chN s : Int)) = lc at *
      have BE := hid (bgn_end (by rw [hbp]; exact BI.out : Bgn w wr p (begun p) (csV c q)))
      rw [hH, hbp] at BE
      have r3 := BI.out.r3
      have r2 := BI.out.r2
      rw [hH] at r2 r3
      go_wp2_with (first
        | (refine wpList_load_row rfl 65 (.tmp 3) rfl (H + 2) rfl 65 (cellsU { p := p, state := List.replicate pn 0, chance := lc } (csV c q)) (0, 0) _ r3 Tryz.underlying65 rfl (szU _ _) ?_)
        | (refine wpList_store_row (o := ⟨none, .store 65 (.tmp 2) (.tmp 128), _, _, _, _⟩) rfl 65 (.tmp 2) (.tmp 128) rfl (H + 1) (cellsU { p := p, state := List.replicate pn 0, chance := lc } (csV c q)) rfl rfl 65 _ r2 (szU _ _) (szEq _ _ _ _) (oneU _ _) ?_))
      refine bodyPost_ret (results_cell_row (by kernel_rfl : Tryz.f29.results = #[.cell 2 65]) _ _ (H + 1) 65 (cellsU { p := p, state := List.replicate pn 0, chance := lc } (csV c q)) (0, 0) _ rfl BE.out.1 Tryz.underlying65 rfl (szU _ _)) rfl ?_
      exact BE.out.2
end Go.Proofs.YtkfdbibgjoaefaaGreatDoor
/-
  The document's blend: a part's tables at first: kind 4 (written by tools/stage12/gen_rbk.py).
-/
namespace Go.Proofs.YtkfdbibgjoaefaaGreatDoor
open Go.RowKit
set_option linter.unusedVariables false
set_option linter.unusedSimpArgs false

theorem size_alloc' (W : World) (o : Obj) : (W.alloc o).heap.size = W.heap.size + 1 := by simp
attribute [local irreducible] cellsU cellsPt
set_option maxRecDepth 10000 in
set_option maxHeartbeats 4000000 in
theorem begun_4 (p : Pt) (w : World) (sz : Nat) (hsz : p.size = (sz : Int)) (hs16 : sz ≤ 16) (hk : p.kind = 4) :
    Calls Tryz.prog 29 #[.agg (cellsPt p)] w (Begun w p) := by
  have hbp : begun p = { p := p, ring := List.replicate (pw p.size) 0, number := List.replicate (pw p.size) 0 } := by
    unfold begun
    simp [hk]
  have z65 := zero65
  have hbd := build65 p
  have hszP := szP p
  have HPW := hid (fun w => r_power sz (by omega) w)
  have HB := hid (fun W (h : Bgn w W p (begun p) nilV) => h)
  obtain ⟨W1, hW1⟩ : ∃ W1, (w.alloc (.cells (cellsPt p) 38)).alloc (.cells (cellsU zUn nilV) 65) = W1 := ⟨_, rfl⟩
  have HW := hid (by
    have a1 := heap_alloc_new w (.cells (cellsPt p) 38)
    have a2 := heap_alloc_new (w.alloc (.cells (cellsPt p) 38)) (.cells (cellsU zUn nilV) 65)
    have hs : (w.alloc (.cells (cellsPt p) 38)).heap.size = w.heap.size + 1 := by simp
    rw [hs, hW1] at a2
    have a3 : W1.heap[w.heap.size]? = some (.cells (cellsPt p) 38 (0, 0)) := by
      rw [← hW1]
      exact (Below.heap_alloc _ _ _ (by rw [hs]; omega)).trans a1
    have a4 : W1.heap.size = w.heap.size + 2 := by rw [← hW1]; simp
    have a5 : Below w.heap.size w W1 := by
      rw [← hW1]
      exact ((Below.refl _ w).alloc (Nat.le_refl _) _).alloc (by rw [hs]; omega) _
    exact (⟨a3, a2, a4, a5⟩ : W1.heap[w.heap.size]? = some (.cells (cellsPt p) 38 (0, 0)) ∧ W1.heap[w.heap.size + 1]? = some (.cells (cellsU zUn nilV) 65 (0, 0)) ∧ W1.heap.size = w.heap.size + 2 ∧ Below w.heap.size w W1))
  go_enter Tryz.func29, Tryz.ntmps29
  go_upto_region 1 with fail
  clear hW1
  obtain ⟨a1, a2, a3, a4⟩ := HW.out
  clear HW
  generalize hH : w.heap.size = H at *
  have hn : (W1.alloc (.cells (cellsU zUn nilV) 65)).heap[H + 2]? = some (.cells (cellsU zUn nilV) 65 (0, 0)) := by rw [← a3]; exact heap_alloc_new _ _
  have BG := hid (bgn_made hH a1 a2 a3 a4)
  go_upto_region 2 with (first
    | (refine wpList_load_row rfl 38 (.tmp 1) rfl H rfl 38 (cellsPt p) (0, 0) _ a1 Tryz.underlying38 rfl hszP ?_)
    | (refine wpList_build65 p rfl (.tmp 11) rfl rfl ?_)
    | (refine wpList_store_row (o := ⟨none, .store 65 (.tmp 3) (.tmp 12), _, _, _, _⟩) rfl 65 (.tmp 3) (.tmp 12) rfl (H + 2) (cellsU { p := p } nilV) rfl rfl 65 _ hn (szU _ _) (szEq _ _ _ _) (oneU _ _) ?_))
  generalize (W1.alloc (.cells (cellsU zUn nilV) 65)).setRow (H + 2) (cellsU { p := p } nilV) = W2 at *
  clear a1 a2 a3 a4 hn hbd hszP
  obtain ⟨p0, p1, p3⟩ := BG.out.part
  rw [hsz] at p1
  rw [hH] at p0 p1 p3
  obtain ⟨pn, hpn⟩ : ∃ pn, 2 ^ sz = pn := ⟨_, rfl⟩
  have epw : pw p.size = pn := by unfold pw; rw [hsz, ← hpn]; rfl
  have hpn2 : pn ≤ 65536 := by rw [← hpn]; exact Nat.pow_le_pow_right (n := 2) (by decide) hs16
  rw [hpn] at HPW
  rw [epw] at hbp
  have n2 : ((p.kind : Int) == 2) = false := by simp only [beq_eq_false_iff_ne, ne_eq]; omega
  have n3 : ((p.kind : Int) == 3) = false := by simp only [beq_eq_false_iff_ne, ne_eq]; omega
  have n4 : ((p.kind : Int) == 4) = true := by simp only [beq_iff_eq]; omega
  clear hk HB
  have hm1 := fun w => make_row 63 5 _ 1 _ Tryz.underlying63 Tryz.info5' (fun _ => .int .u8 0) (by intro k; simp [Value.cells, Nat.mod_one]) pn (by omega) (by omega) w
  have hm2 := fun w => make_row 46 3 _ 1 _ Tryz.underlying46 Tryz.info3' (fun _ => .int .i64 0) (by intro k; simp [Value.cells, Nat.mod_one]) pn (by omega) (by omega) w
  have hpz : (pn : Int) ≤ 65536 := by omega
  have r3 := BG.out.r3
  rw [hH] at r3
  have c12 := (BG.out.nil hH).2.1.1
  have c13 := (BG.out.nil hH).2.2.1
  have f12 := (BG.out.nil hH).2.1.2
  have f13 := (BG.out.nil hH).2.2.2
  have l3 := lt_of_heap r3
  have hne : ¬ H + 2 = W2.heap.size := by omega
  have hne2 : ¬ H + 2 = W2.heap.size + 1 := by omega
  have hne3 : ¬ W2.heap.size = H + 2 := by omega
  have hne4 : ¬ W2.heap.size + 1 = H + 2 := by omega
  have hgd : H + 2 < W2.heap.size := l3
  go_upto_region 16 with (go_at_call 54; (with_reducible refine (HPW.out _).mono ?_); rintro rj wj ⟨rfl, ej⟩; rw [ej]; clear ej wj)
  go_region
  all_goals clear hm1 hm2 c12 c13 f12 f13 p0 p1 p3 n2 n3 n4
  · have BF := hid (BG.out.ring (W := ((((W2.setCell ⟨w.heap.size + 2, 13, none⟩ (.slice (some ⟨W2.heap.size, 0, none⟩) pn pn)).setCell ⟨w.heap.size + 2, 12, none⟩ (.slice (some ⟨W2.heap.size + 1, 0, none⟩) pn pn)).alloc (.cells (fL pn (fun _ => .int .u8 0)).toArray 5)).alloc (.cells (fL pn (fun _ => .int .i64 0)).toArray 3)).drew) ((((((Fr.refl BG.out.r3).set 13 (.slice (some ⟨W2.heap.size, 0, none⟩) pn pn)).set 12 (.slice (some ⟨W2.heap.size + 1, 0, none⟩) pn pn)).alloc (.cells (fL pn (fun _ => .int .u8 0)).toArray 5)).alloc (.cells (fL pn (fun _ => .int .i64 0)).toArray 3)).drew) (blk_alloc (new_at ((W2.setCell ⟨w.heap.size + 2, 13, none⟩ (.slice (some ⟨W2.heap.size, 0, none⟩) pn pn)).setCell ⟨w.heap.size + 2, 12, none⟩ (.slice (some ⟨W2.heap.size + 1, 0, none⟩) pn pn)) (.cells (fL pn (fun _ => .int .u8 0)).toArray 5) W2.heap.size (by rw [World.size_setCell, World.size_setCell])) (.cells (fL pn (fun _ => .int .i64 0)).toArray 3)) (new_at (((W2.setCell ⟨w.heap.size + 2, 13, none⟩ (.slice (some ⟨W2.heap.size, 0, none⟩) pn pn)).setCell ⟨w.heap.size + 2, 12, none⟩ (.slice (some ⟨W2.heap.size + 1, 0, none⟩) pn pn)).alloc (.cells (fL pn (fun _ => .int .u8 0)).toArray 5)) (.cells (fL pn (fun _ => .int .i64 0)).toArray 3) (W2.heap.size + 1) (by rw [size_alloc', World.size_setCell, World.size_setCell])) (by omega) (by omega) hpn2)
    rw [hH] at BF
    generalize ((((W2.setCell ⟨H + 2, 13, none⟩ (.slice (some ⟨W2.heap.size, 0, none⟩) pn pn)).setCell ⟨H + 2, 12, none⟩ (.slice (some ⟨W2.heap.size + 1, 0, none⟩) pn pn)).alloc (.cells (fL pn (fun _ => .int .u8 0)).toArray 5)).alloc (.cells (fL pn (fun _ => .int .i64 0)).toArray 3)).drew = W3 at BF ⊢
    clear r3 BG
    have BE := hid (bgn_end (by rw [hbp]; exact BF.out : Bgn w W3 p (begun p) (nrV ⟨some ⟨W2.heap.size + 1, 0, none⟩, pn, pn⟩ ⟨some ⟨W2.heap.size, 0, none⟩, pn, pn⟩)))
    rw [hH, hbp] at BE
    have r3 := BF.out.r3
    have r2 := BF.out.r2
    rw [hH] at r2 r3
    go_wp2_with (first
      | (refine wpList_load_row rfl 65 (.tmp 3) rfl (H + 2) rfl 65 (cellsU { p := p, ring := List.replicate pn 0, number := List.replicate pn 0 } (nrV ⟨some ⟨W2.heap.size + 1, 0, none⟩, pn, pn⟩ ⟨some ⟨W2.heap.size, 0, none⟩, pn, pn⟩)) (0, 0) _ r3 Tryz.underlying65 rfl (szU _ _) ?_)
      | (refine wpList_store_row (o := ⟨none, .store 65 (.tmp 2) (.tmp 128), _, _, _, _⟩) rfl 65 (.tmp 2) (.tmp 128) rfl (H + 1) (cellsU { p := p, ring := List.replicate pn 0, number := List.replicate pn 0 } (nrV ⟨some ⟨W2.heap.size + 1, 0, none⟩, pn, pn⟩ ⟨some ⟨W2.heap.size, 0, none⟩, pn, pn⟩)) rfl rfl 65 _ r2 (szU _ _) (szEq _ _ _ _) (oneU _ _) ?_))
    refine bodyPost_ret (results_cell_row (by kernel_rfl : Tryz.f29.results = #[.cell 2 65]) _ _ (H + 1) 65 (cellsU { p := p, ring := List.replicate pn 0, number := List.replicate pn 0 } (nrV ⟨some ⟨W2.heap.size + 1, 0, none⟩, pn, pn⟩ ⟨some ⟨W2.heap.size, 0, none⟩, pn, pn⟩)) (0, 0) _ rfl BE.out.1 Tryz.underlying65 rfl (szU _ _)) rfl ?_
    exact BE.out.2
  · have BF := hid (BG.out.ring (W := ((((W2.setCell ⟨w.heap.size + 2, 13, none⟩ (.slice (some ⟨W2.heap.size + 1, 0, none⟩) pn pn)).setCell ⟨w.heap.size + 2, 12, none⟩ (.slice (some ⟨W2.heap.size, 0, none⟩) pn pn)).alloc (.cells (fL pn (fun _ => .int .i64 0)).toArray 3)).alloc (.cells (fL pn (fun _ => .int .u8 0)).toArray 5)).drew) ((((((Fr.refl BG.out.r3).set 13 (.slice (some ⟨W2.heap.size + 1, 0, none⟩) pn pn)).set 12 (.slice (some ⟨W2.heap.size, 0, none⟩) pn pn)).alloc (.cells (fL pn (fun _ => .int .i64 0)).toArray 3)).alloc (.cells (fL pn (fun _ => .int .u8 0)).toArray 5)).drew) (new_at (((W2.setCell ⟨w.heap.size + 2, 13, none⟩ (.slice (some ⟨W2.heap.size + 1, 0, none⟩) pn pn)).setCell ⟨w.heap.size + 2, 12, none⟩ (.slice (some ⟨W2.heap.size, 0, none⟩) pn pn)).alloc (.cells (fL pn (fun _ => .int .i64 0)).toArray 3)) (.cells (fL pn (fun _ => .int .u8 0)).toArray 5) (W2.heap.size + 1) (by rw [size_alloc', World.size_setCell, World.size_setCell])) (blk_alloc (new_at ((W2.setCell ⟨w.heap.size + 2, 13, none⟩ (.slice (some ⟨W2.heap.size + 1, 0, none⟩) pn pn)).setCell ⟨w.heap.size + 2, 12, none⟩ (.slice (some ⟨W2.heap.size, 0, none⟩) pn pn)) (.cells (fL pn (fun _ => .int .i64 0)).toArray 3) W2.heap.size (by rw [World.size_setCell, World.size_setCell])) (.cells (fL pn (fun _ => .int .u8 0)).toArray 5)) (by omega) (by omega) hpn2)
    rw [hH] at BF
    generalize ((((W2.setCell ⟨H + 2, 13, none⟩ (.slice (some ⟨W2.heap.size + 1, 0, none⟩) pn pn)).setCell ⟨H + 2, 12, none⟩ (.slice (some ⟨W2.heap.size, 0, none⟩) pn pn)).alloc (.cells (fL pn (fun _ => .int .i64 0)).toArray 3)).alloc (.cells (fL pn (fun _ => .int .u8 0)).toArray 5)).drew = W3 at BF ⊢
    clear r3 BG
    have BE := hid (bgn_end (by rw [hbp]; exact BF.out : Bgn w W3 p (begun p) (nrV ⟨some ⟨W2.heap.size, 0, none⟩, pn, pn⟩ ⟨some ⟨W2.heap.size + 1, 0, none⟩, pn, pn⟩)))
    rw [hH, hbp] at BE
    have r3 := BF.out.r3
    have r2 := BF.out.r2
    rw [hH] at r2 r3
    go_wp2_with (first
      | (refine wpList_load_row rfl 65 (.tmp 3) rfl (H + 2) rfl 65 (cellsU { p := p, ring := List.replicate pn 0, number := List.replicate pn 0 } (nrV ⟨some ⟨W2.heap.size, 0, none⟩, pn, pn⟩ ⟨some ⟨W2.heap.size + 1, 0, none⟩, pn, pn⟩)) (0, 0) _ r3 Tryz.underlying65 rfl (szU _ _) ?_)
      | (refine wpList_store_row (o := ⟨none, .store 65 (.tmp 2) (.tmp 128), _, _, _, _⟩) rfl 65 (.tmp 2) (.tmp 128) rfl (H + 1) (cellsU { p := p, ring := List.replicate pn 0, number := List.replicate pn 0 } (nrV ⟨some ⟨W2.heap.size, 0, none⟩, pn, pn⟩ ⟨some ⟨W2.heap.size + 1, 0, none⟩, pn, pn⟩)) rfl rfl 65 _ r2 (szU _ _) (szEq _ _ _ _) (oneU _ _) ?_))
    refine bodyPost_ret (results_cell_row (by kernel_rfl : Tryz.f29.results = #[.cell 2 65]) _ _ (H + 1) 65 (cellsU { p := p, ring := List.replicate pn 0, number := List.replicate pn 0 } (nrV ⟨some ⟨W2.heap.size, 0, none⟩, pn, pn⟩ ⟨some ⟨W2.heap.size + 1, 0, none⟩, pn, pn⟩)) (0, 0) _ rfl BE.out.1 Tryz.underlying65 rfl (szU _ _)) rfl ?_
    exact BE.out.2
end Go.Proofs.YtkfdbibgjoaefaaGreatDoor
/-
  The document's blend: a part's tables at first: kind 8 (written by tools/stage12/gen_rbk.py).
-/
namespace Go.Proofs.YtkfdbibgjoaefaaGreatDoor
open Go.RowKit
set_option linter.unusedVariables false
set_option linter.unusedSimpArgs false

theorem two_cell (w : World) (t : TypeId) (x y : Value) : ∀ j u, ([x, y] : List Value)[j]? = some u → (w.alloc (.cells #[x, y] t)).cell? ((⟨w.heap.size, 0, none⟩ : Addr).add j) = some u := by
  intro j u hj
  have h := row_cell (heap_alloc_new w (.cells #[x, y] t)) j
  rcases j with _ | _ | j
  · simpa [Addr.add] using h.trans hj
  · simpa [Addr.add] using h.trans hj
  · simp at hj
attribute [local irreducible] cellsU cellsPt
set_option maxRecDepth 10000 in
set_option maxHeartbeats 4000000 in
theorem begun_8 (p : Pt) (w : World) (sz : Nat) (hsz : p.size = (sz : Int)) (hs16 : sz ≤ 16) (hk : p.kind = 8) :
    Calls Tryz.prog 29 #[.agg (cellsPt p)] w (Begun w p) := by
  have hbp : begun p = { p := p, state := List.replicate (pw p.size) 0, weight := w8 } := by
    unfold begun
    simp [hk]
  have z65 := zero65
  have hbd := build65 p
  have hszP := szP p
  have HPW := hid (fun w => r_power sz (by omega) w)
  have HB := hid (fun W (h : Bgn w W p (begun p) nilV) => h)
  obtain ⟨W1, hW1⟩ : ∃ W1, (w.alloc (.cells (cellsPt p) 38)).alloc (.cells (cellsU zUn nilV) 65) = W1 := ⟨_, rfl⟩
  have HW := hid (by
    have a1 := heap_alloc_new w (.cells (cellsPt p) 38)
    have a2 := heap_alloc_new (w.alloc (.cells (cellsPt p) 38)) (.cells (cellsU zUn nilV) 65)
    have hs : (w.alloc (.cells (cellsPt p) 38)).heap.size = w.heap.size + 1 := by simp
    rw [hs, hW1] at a2
    have a3 : W1.heap[w.heap.size]? = some (.cells (cellsPt p) 38 (0, 0)) := by
      rw [← hW1]
      exact (Below.heap_alloc _ _ _ (by rw [hs]; omega)).trans a1
    have a4 : W1.heap.size = w.heap.size + 2 := by rw [← hW1]; simp
    have a5 : Below w.heap.size w W1 := by
      rw [← hW1]
      exact ((Below.refl _ w).alloc (Nat.le_refl _) _).alloc (by rw [hs]; omega) _
    exact (⟨a3, a2, a4, a5⟩ : W1.heap[w.heap.size]? = some (.cells (cellsPt p) 38 (0, 0)) ∧ W1.heap[w.heap.size + 1]? = some (.cells (cellsU zUn nilV) 65 (0, 0)) ∧ W1.heap.size = w.heap.size + 2 ∧ Below w.heap.size w W1))
  go_enter Tryz.func29, Tryz.ntmps29
  go_upto_region 1 with fail
  clear hW1
  obtain ⟨a1, a2, a3, a4⟩ := HW.out
  clear HW
  generalize hH : w.heap.size = H at *
  have hn : (W1.alloc (.cells (cellsU zUn nilV) 65)).heap[H + 2]? = some (.cells (cellsU zUn nilV) 65 (0, 0)) := by rw [← a3]; exact heap_alloc_new _ _
  have BG := hid (bgn_made hH a1 a2 a3 a4)
  go_upto_region 2 with (first
    | (refine wpList_load_row rfl 38 (.tmp 1) rfl H rfl 38 (cellsPt p) (0, 0) _ a1 Tryz.underlying38 rfl hszP ?_)
    | (refine wpList_build65 p rfl (.tmp 11) rfl rfl ?_)
    | (refine wpList_store_row (o := ⟨none, .store 65 (.tmp 3) (.tmp 12), _, _, _, _⟩) rfl 65 (.tmp 3) (.tmp 12) rfl (H + 2) (cellsU { p := p } nilV) rfl rfl 65 _ hn (szU _ _) (szEq _ _ _ _) (oneU _ _) ?_))
  generalize (W1.alloc (.cells (cellsU zUn nilV) 65)).setRow (H + 2) (cellsU { p := p } nilV) = W2 at *
  clear a1 a2 a3 a4 hn hbd hszP
  obtain ⟨p0, p1, p3⟩ := BG.out.part
  rw [hsz] at p1
  rw [hH] at p0 p1 p3
  obtain ⟨pn, hpn⟩ : ∃ pn, 2 ^ sz = pn := ⟨_, rfl⟩
  have epw : pw p.size = pn := by unfold pw; rw [hsz, ← hpn]; rfl
  have hpn2 : pn ≤ 65536 := by rw [← hpn]; exact Nat.pow_le_pow_right (n := 2) (by decide) hs16
  rw [hpn] at HPW
  rw [epw] at hbp
  have n2 : ((p.kind : Int) == 2) = false := by simp only [beq_eq_false_iff_ne, ne_eq]; omega
  have n3 : ((p.kind : Int) == 3) = false := by simp only [beq_eq_false_iff_ne, ne_eq]; omega
  have n4 : ((p.kind : Int) == 4) = false := by simp only [beq_eq_false_iff_ne, ne_eq]; omega
  have n6 : ((p.kind : Int) == 6) = false := by simp only [beq_eq_false_iff_ne, ne_eq]; omega
  have n7 : ((p.kind : Int) == 7) = false := by simp only [beq_eq_false_iff_ne, ne_eq]; omega
  have n8 : ((p.kind : Int) == 8) = true := by simp only [beq_iff_eq]; omega
  clear hk HB
  have hm1 := fun w => make_row 63 5 _ 1 _ Tryz.underlying63 Tryz.info5' (fun _ => .int .u8 0) (by intro k; simp [Value.cells, Nat.mod_one]) pn (by omega) (by omega) w
  have hpz : (pn : Int) ≤ 65536 := by omega
  obtain ⟨i3, hi3, hz3, hs3, hb3⟩ := info_parts rinfo3
  have r3 := BG.out.r3
  rw [hH] at r3
  have c10 := (BG.out.nil hH).1.1
  have f10 := (BG.out.nil hH).1.2
  have l3 := lt_of_heap r3
  have hne : ¬ H + 2 = W2.heap.size := by omega
  have hne3 : ¬ W2.heap.size = H + 2 := by omega
  have hgd : H + 2 < W2.heap.size := l3
  go_upto_region 30 with (go_at_call 54; (with_reducible refine (HPW.out _).mono ?_); rintro rj wj ⟨rfl, ej⟩; rw [ej]; clear ej wj)
  have BS := hid (BG.out.states hpn2)
  rw [hH] at BS
  generalize (W2.setCell ⟨H + 2, 10, none⟩ (.slice (some ⟨W2.heap.size, 0, none⟩) pn pn)).alloc (.cells (fL pn (fun _ => .int .u8 0)).toArray 5) = W3 at BS ⊢
  obtain ⟨q, hq⟩ : ∃ q : Sw, (⟨some ⟨W2.heap.size, 0, none⟩, pn, pn⟩ : Sw) = q := ⟨_, rfl⟩
  rw [hq] at BS
  have BG0 : Hid (Bgn w W3 p { p := p, state := List.replicate pn 0, weight := (List.replicate 0 [(65536 : Int), 0]).flatten } (swV q nilS)) := hid BS.out
  clear BG BS p0 p1 p3 n2 n3 n4 n6 n7 n8 HPW hm1 r3 c10 f10 l3 hne hne3 hgd hq
  go_loopw [9] (fun v wr => ∃ (i : Nat) (s : Sw), i ≤ 256 ∧ v = .int .i64 (i : Int) ∧ Hid (Bgn w wr p { p := p, state := List.replicate pn 0, weight := (List.replicate i [(65536 : Int), 0]).flatten } (swV q s))) (fun v _ => 256 - (intOf v).toNat)
  case atStart => exact ⟨0, nilS, by omega, rfl, BG0⟩
  case round =>
    obtain ⟨i, s, hi, rfl, BI⟩ := hrel
    clear BG0
    obtain ⟨cw, fw⟩ := BI.out.cw
    rw [hH] at cw fw
    by_cases hlt : i < 256
    · have hz : (i : Int) < 256 := by omega
      have ho := BI.out.t.w
      have os := BI.out.t.s
      obtain ⟨L, hL⟩ : ∃ L, (List.replicate i [(65536 : Int), 0]).flatten = L := ⟨_, rfl⟩
      have el : L.length = 2 * i := by rw [← hL]; simp [List.length_flatten, Nat.mul_comm]
      rw [hH] at ho os
      replace ho : wr.ownsRow (H + 3) 3 1 (.slice s.a s.n s.c) (2 * i) (L.map iv) := by rw [← el, ← hL]; exact ho
      replace cw : wr.cell? ⟨H + 2, 11, none⟩ = some (.slice s.a s.n s.c) := cw
      have HO := hid ho
      have hsz2 : H + 3 ≤ wr.heap.size := by rw [← hH]; have := lt_of_heap BI.out.r3; omega
      have BI2 : Hid (Bgn w wr p { p := p, state := List.replicate pn 0, weight := L } (swV q s)) := by rw [hL] at BI; exact BI
      have HGW := hid (fun w3 (s' : Sw) (hg1 : (wr.alloc (.cells #[.int .i64 65536, .int .i64 0] 3)).grownBy w3 (Value.slice s.a s.n s.c).ownBlock) (ho1 : w3.ownsRow (H + 3) 3 1 (.slice s'.a s'.n s'.c) (2 * i + 2) (L.map iv ++ [iv 65536, iv 0])) =>
        Bgn.grow_w2 (xs := [65536, 0]) (s' := s') BI2.out ((Below.refl _ wr).alloc (Nat.le_refl _) _) hg1 (by rw [hH]; show w3.ownsRow _ _ _ _ (L.length + 2) _; rw [el]; exact ho1)
          (swV_apt (own_types (own_grown (own_below os ((Below.refl _ wr).alloc (Nat.le_refl _) (.cells #[.int .i64 65536, .int .i64 0] 3))) hg1 (fun x hx e => BI2.out.a.sw x hx e)) ho1 (by decide))))
      have HK3 := hid (fun (w3 : World) (hg1 : (wr.alloc (.cells #[.int .i64 65536, .int .i64 0] 3)).grownBy w3 (Value.slice s.a s.n s.c).ownBlock) => (show w3.heap[H + 2]? = wr.heap[H + 2]? from by
        rw [hg1.block _ (by simp; omega) (fun e => by have := (own_lt HO.out e.symm).1; omega)]
        exact Below.heap_alloc _ _ _ (by omega)))
      clear ho os
      go_wp2_with (at_builtin; refine wpList_append_own _ rfl (.tmp 100) (.tmp 101) 46 rfl (H + 3) 3 i3 _ 1 8 Tryz.underlying46 hi3 hz3 hs3 hb3 rfl (by decide) (.slice s.a s.n s.c) (2 * i) _ rfl (HO.out.alloc _) ⟨wr.heap.size, 0, none⟩ 2 2 [.int .i64 65536, .int .i64 0] rfl rfl (two_cell wr _ _ _) (by intro u hu; simp at hu; rcases hu with rfl | rfl <;> rfl) (by unfold maxLen; omega) (by omega) (by simp; omega) ?_
                   intro v1 w3 hown1 hg1 _
                   rcases own_sw hown1 with ⟨s', rfl, es', hc', hm'⟩
                   have GW := hid (HGW.out w3 s' hg1 hown1)
                   have k3 := HK3.out w3 hg1
                   have cw3 : w3.cell? ⟨H + 2, 11, none⟩ = some (.slice s.a s.n s.c) := (World.cell?_of_block (w := wr) k3).trans cw
                   have fw3 : w3.frozen? ⟨H + 2, 11, none⟩ = false := (World.frozen?_of_block (w := wr) k3).trans fw
                   replace hown1 := hid hown1
                   replace hg1 := hid hg1)
      rw [hH, es'] at GW
      go_roundw
      case rel => exact ⟨i + 1, s', by omega, by go_num, by rw [List.replicate_succ', List.flatten_append, hL]; exact GW⟩
      case measure => simp [intOf]; omega
    · obtain rfl : i = 256 := by omega
      clear cw fw
      rw [show (List.replicate 256 [(65536 : Int), 0]).flatten = w8 from rfl] at BI
      generalize w8 = ws at *
      have BE := hid (bgn_end (by rw [hbp]; exact BI.out : Bgn w wr p (begun p) (swV q s)))
      rw [hH, hbp] at BE
      have r3 := BI.out.r3
      have r2 := BI.out.r2
      rw [hH] at r2 r3
      go_wp2_with (first
        | (refine wpList_load_row rfl 65 (.tmp 3) rfl (H + 2) rfl 65 (cellsU { p := p, state := List.replicate pn 0, weight := ws } (swV q s)) (0, 0) _ r3 Tryz.underlying65 rfl (szU _ _) ?_)
        | (refine wpList_store_row (o := ⟨none, .store 65 (.tmp 2) (.tmp 128), _, _, _, _⟩) rfl 65 (.tmp 2) (.tmp 128) rfl (H + 1) (cellsU { p := p, state := List.replicate pn 0, weight := ws } (swV q s)) rfl rfl 65 _ r2 (szU _ _) (szEq _ _ _ _) (oneU _ _) ?_))
      refine bodyPost_ret (results_cell_row (by kernel_rfl : Tryz.f29.results = #[.cell 2 65]) _ _ (H + 1) 65 (cellsU { p := p, state := List.replicate pn 0, weight := ws } (swV q s)) (0, 0) _ rfl BE.out.1 Tryz.underlying65 rfl (szU _ _)) rfl ?_
      exact BE.out.2
end Go.Proofs.YtkfdbibgjoaefaaGreatDoor
