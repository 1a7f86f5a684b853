/-
  Merged: Rbk9.
-/
import Derived.Test.YtkfdbibgjoaefaaGreatDoorMg37
import Derived.Test.YtkfdbibgjoaefaaGreatDoorMg05
/-
  The document's blend: a part's tables at first: kind 9 (written by tools/stage12/gen_rbk.py).
-/
namespace Go.Proofs.YtkfdbibgjoaefaaGreatDoor
open Go.RowKit
set_option linter.unusedVariables false
set_option linter.unusedSimpArgs false

attribute [local irreducible] cellsU cellsPt
set_option maxRecDepth 10000 in
set_option maxHeartbeats 4000000 in
theorem begun_9 (p : Pt) (w : World) (sz : Nat) (hsz : p.size = (sz : Int)) (hs16 : sz ≤ 16) (hk : p.kind = 9) :
    Calls Tryz.prog 29 #[.agg (cellsPt p)] w (Begun w p) := by
  have hbp : begun p = { p := p, chance := (List.range (pw p.size * 32)).map (fun i => sq ((i % 32 : Nat) * 132 - 2047) * 1024), count := List.replicate (pw p.size * 32) 0 } := by
    unfold begun
    simp [hk]
  have z65 := zero65
  have hbd := build65 p
  have hszP := szP p
  have HPW := hid (fun w => r_power sz (by omega) w)
  have HB := hid (fun W (h : Bgn w W p (begun p) nilV) => h)
  obtain ⟨W1, hW1⟩ : ∃ W1, (w.alloc (.cells (cellsPt p) 38)).alloc (.cells (cellsU zUn nilV) 65) = W1 := ⟨_, rfl⟩
  have HW := hid (by
    have a1 := heap_alloc_new w (.cells (cellsPt p) 38)
    have a2 := heap_alloc_new (w.alloc (.cells (cellsPt p) 38)) (.cells (cellsU zUn nilV) 65)
    have hs : (w.alloc (.cells (cellsPt p) 38)).heap.size = w.heap.size + 1 := by simp
    rw [hs, hW1] at a2
    have a3 : W1.heap[w.heap.size]? = some (.cells (cellsPt p) 38 (0, 0)) := by
      rw [← hW1]
      exact (Below.heap_alloc _ _ _ (by rw [hs]; omega)).trans a1
    have a4 : W1.heap.size = w.heap.size + 2 := by rw [← hW1]; simp
    have a5 : Below w.heap.size w W1 := by
      rw [← hW1]
      exact ((Below.refl _ w).alloc (Nat.le_refl _) _).alloc (by rw [hs]; omega) _
    exact (⟨a3, a2, a4, a5⟩ : W1.heap[w.heap.size]? = some (.cells (cellsPt p) 38 (0, 0)) ∧ W1.heap[w.heap.size + 1]? = some (.cells (cellsU zUn nilV) 65 (0, 0)) ∧ W1.heap.size = w.heap.size + 2 ∧ Below w.heap.size w W1))
  go_enter Tryz.func29, Tryz.ntmps29
  go_upto_region 1 with fail
  clear hW1
  obtain ⟨a1, a2, a3, a4⟩ := HW.out
  clear HW
  generalize hH : w.heap.size = H at *
  have hn : (W1.alloc (.cells (cellsU zUn nilV) 65)).heap[H + 2]? = some (.cells (cellsU zUn nilV) 65 (0, 0)) := by rw [← a3]; exact heap_alloc_new _ _
  have BG := hid (bgn_made hH a1 a2 a3 a4)
  go_upto_region 2 with (first
    | (refine wpList_load_row rfl 38 (.tmp 1) rfl H rfl 38 (cellsPt p) (0, 0) _ a1 Tryz.underlying38 rfl hszP ?_)
    | (refine wpList_build65 p rfl (.tmp 11) rfl rfl ?_)
    | (refine wpList_store_row (o := ⟨none, .store 65 (.tmp 3) (.tmp 12), _, _, _, _⟩) rfl 65 (.tmp 3) (.tmp 12) rfl (H + 2) (cellsU { p := p } nilV) rfl rfl 65 _ hn (szU _ _) (szEq _ _ _ _) (oneU _ _) ?_))
  generalize (W1.alloc (.cells (cellsU zUn nilV) 65)).setRow (H + 2) (cellsU { p := p } nilV) = W2 at *
  clear a1 a2 a3 a4 hn hbd hszP
  obtain ⟨p0, p1, p3⟩ := BG.out.part
  rw [hsz] at p1
  rw [hH] at p0 p1 p3
  obtain ⟨pn, hpn⟩ : ∃ pn, 2 ^ sz = pn := ⟨_, rfl⟩
  have epw : pw p.size = pn := by unfold pw; rw [hsz, ← hpn]; rfl
  have hpn2 : pn ≤ 65536 := by rw [← hpn]; exact Nat.pow_le_pow_right (n := 2) (by decide) hs16
  rw [hpn] at HPW
  rw [epw] at hbp
  have n2 : ((p.kind : Int) == 2) = false := by simp only [beq_eq_false_iff_ne, ne_eq]; omega
  have n3 : ((p.kind : Int) == 3) = false := by simp only [beq_eq_false_iff_ne, ne_eq]; omega
  have n4 : ((p.kind : Int) == 4) = false := by simp only [beq_eq_false_iff_ne, ne_eq]; omega
  have n6 : ((p.kind : Int) == 6) = false := by simp only [beq_eq_false_iff_ne, ne_eq]; omega
  have n7 : ((p.kind : Int) == 7) = false := by simp only [beq_eq_false_iff_ne, ne_eq]; omega
  have n8 : ((p.kind : Int) == 8) = false := by simp only [beq_eq_false_iff_ne, ne_eq]; omega
  have n9 : ((p.kind : Int) == 9) = true := by simp only [beq_iff_eq]; omega
  clear hk HB
  have hpz : (pn : Int) ≤ 65536 := by omega
  obtain ⟨m, hm⟩ : ∃ m, pn * 32 = m := ⟨_, rfl⟩
  have hmz : (pn : Int) * 32 = (m : Int) := by rw [← hm]; simp
  have hm2 : m ≤ 2097152 := by omega
  rw [hm] at hbp
  have ewm := (wr_in (m : Int) (by omega)).out
  have HSQ := hid (fun d w h1 h2 => refSquash_any d w h1 h2)
  go_upto_region 35 with (go_at_call 54; (with_reducible refine (HPW.out _).mono ?_); rintro rj wj ⟨rfl, ej⟩; rw [ej]; clear ej wj)
  have BG0 : Hid (Bgn w W2 p { p := p, chance := (List.range 0).map (fun i => sq ((i % 32 : Nat) * 132 - 2047) * 1024), count := List.replicate 0 (0 : Int) } (ckV nilS nilS)) := hid BG.out
  clear BG p0 p1 p3 n2 n3 n4 n6 n7 n8 n9 HPW
  go_loopw [10] (fun v wr => ∃ (i : Nat) (c k : Sw), i ≤ m ∧ v = .int .i64 (i : Int) ∧ Hid (Bgn w wr p { p := p, chance := (List.range i).map (fun i => sq ((i % 32 : Nat) * 132 - 2047) * 1024), count := List.replicate i (0 : Int) } (ckV c k))) (fun v _ => m - (intOf v).toNat)
  case atStart => exact ⟨0, nilS, nilS, by omega, rfl, BG0⟩
  case round =>
    obtain ⟨i, c, k, hi, rfl, BI⟩ := hrel
    clear BG0
    by_cases hlt : i < m
    · have hz : (i : Int) < (m : Int) := by omega
      have ST0 := hid (BI.out.st.later ((Below.refl _ wr).drew))
      obtain ⟨lc, hlc⟩ : ∃ lc, (List.range i).map (fun i => sq ((i % 32 : Nat) * 132 - 2047) * 1024) = lc := ⟨_, rfl⟩
      obtain ⟨lk, hlk⟩ : ∃ lk, List.replicate i (0 : Int) = lk := ⟨_, rfl⟩
      have llc : lc.length ≤ 4000000 := by rw [← hlc]; simp; omega
      have llk : lk.length ≤ 4000000 := by rw [← hlk]; simp; omega
      rw [hlc, hlk] at ST0
      have SC0 := hid (ST0.out.sc hH)
      obtain ⟨y, hy⟩ : ∃ y : Int, ((i % 32 : Nat) : Int) = y := ⟨_, rfl⟩
      have hy2 : 0 ≤ y ∧ y < 32 := by omega
      have ey : (i : Int).tmod 32 = y := by rw [← hy, Int.tmod_eq_emod_of_nonneg (by omega)]; simp
      obtain ⟨z, hz2⟩ : ∃ z : Int, sq (y * 132 - 2047) = z := ⟨_, rfl⟩
      have hzr : 1 ≤ z ∧ z ≤ 4095 := by rw [← hz2]; exact sq_range _
      have HS := hid (fun w => HSQ.out (y * 132 - 2047) w (by omega) (by omega))
      rw [hz2] at HS
      have e1 := (wr_in (y * 132) (by omega)).out
      have e2 := (wr_in (y * 132 - 2047) (by omega)).out
      have e3 := (wr_in (z * 1024) (by omega)).out
      have e4 := (wr_in y (by omega)).out
      have DX : (List.range (i + 1)).map (fun i => sq ((i % 32 : Nat) * 132 - 2047) * 1024) = lc ++ [z * 1024] := by rw [List.range_succ, List.map_append, hlc, ← hz2, ← hy]; rfl
      have DK : List.replicate (i + 1) (0 : Int) = lk ++ [0] := by rw [List.replicate_succ', hlk]
      clear BI hlc hlk
      go_upto_region 37 with fail
      refine wp_region_until 15 (S := fun W => W.cell? ⟨H + 2, 8, none⟩ = some (.slice c.a c.n c.c) ∧ W.cell? ⟨H + 2, 9, none⟩ = some (.slice k.a k.n k.c)) (by kernel_rfl) SC0.out (fun hH0 => ?_)
      generalize wr.drew = W0 at *
      refine wpUntil_take (i := 0) (oi := ⟨some 112, _, _, _, _, _⟩) (v := .pointer (some ⟨H + 2, 8, none⟩)) rfl (by kernel_rfl) (by kernel_rfl) (by kernel_rfl) (by kernel_rfl) (by decide) (by kernel_rfl) (fun _ _ _ h => h) (Or.inl ⟨by rfl, by intro w hSw; (try dsimp only at hSw); go_simp⟩) hH0 ?_
      try simp only [Act.put, List.setIfInBounds_toArray, List.set_cons_zero, List.set_cons_succ]
      refine wpUntil_take (i := 1) (oi := ⟨some 113, _, _, _, _, _⟩) (v := .slice c.a c.n c.c) rfl (by kernel_rfl) (by kernel_rfl) (by kernel_rfl) (by kernel_rfl) (by decide) (by kernel_rfl) (fun _ _ _ h => h) (Or.inl ⟨by rfl, by intro w hSw; (try dsimp only at hSw); have h1 := hSw.1; clear hSw; go_simp⟩) hH0 ?_
      try simp only [Act.put, List.setIfInBounds_toArray, List.set_cons_zero, List.set_cons_succ]
      refine wpUntil_take (i := 2) (oi := ⟨some 114, _, _, _, _, _⟩) (v := .int .i64 (i : Int)) rfl (by kernel_rfl) (by kernel_rfl) (by kernel_rfl) (by kernel_rfl) (by decide) (by kernel_rfl) (fun _ _ _ h => h) (Or.inl ⟨by rfl, by intro w hSw; (try dsimp only at hSw); go_simp⟩) hH0 ?_
      try simp only [Act.put, List.setIfInBounds_toArray, List.set_cons_zero, List.set_cons_succ]
      refine wpUntil_take (i := 3) (oi := ⟨some 115, _, _, _, _, _⟩) (v := .int .i64 y) rfl (by kernel_rfl) (by kernel_rfl) (by kernel_rfl) (by kernel_rfl) (by decide) (by kernel_rfl) (fun _ _ _ h => h) (Or.inl ⟨by rfl, by intro w hSw; (try dsimp only at hSw); go_simp⟩) hH0 ?_
      try simp only [Act.put, List.setIfInBounds_toArray, List.set_cons_zero, List.set_cons_succ]
      refine wpUntil_take (i := 4) (oi := ⟨some 116, _, _, _, _, _⟩) (v := .int .i64 (y * 132)) rfl (by kernel_rfl) (by kernel_rfl) (by kernel_rfl) (by kernel_rfl) (by decide) (by kernel_rfl) (fun _ _ _ h => h) (Or.inl ⟨by rfl, by intro w hSw; (try dsimp only at hSw); go_simp⟩) hH0 ?_
      try simp only [Act.put, List.setIfInBounds_toArray, List.set_cons_zero, List.set_cons_succ]
      refine wpUntil_take (i := 5) (oi := ⟨some 117, _, _, _, _, _⟩) (v := .int .i64 (y * 132 - 2047)) rfl (by kernel_rfl) (by kernel_rfl) (by kernel_rfl) (by kernel_rfl) (by decide) (by kernel_rfl) (fun _ _ _ h => h) (Or.inl ⟨by rfl, by intro w hSw; (try dsimp only at hSw); go_simp⟩) hH0 ?_
      try simp only [Act.put, List.setIfInBounds_toArray, List.set_cons_zero, List.set_cons_succ]
      refine wpUntil_take (i := 10) (oi := ⟨some 122, _, _, _, _, _⟩) (v := .pointer (some ⟨H + 2, 9, none⟩)) rfl (by kernel_rfl) (by kernel_rfl) (by kernel_rfl) (by kernel_rfl) (by decide) (by kernel_rfl) (fun _ _ _ h => h) (Or.inl ⟨by rfl, by intro w hSw; (try dsimp only at hSw); go_simp⟩) hH0 ?_
      try simp only [Act.put, List.setIfInBounds_toArray, List.set_cons_zero, List.set_cons_succ]
      refine wpUntil_take (i := 11) (oi := ⟨some 123, _, _, _, _, _⟩) (v := .slice k.a k.n k.c) rfl (by kernel_rfl) (by kernel_rfl) (by kernel_rfl) (by kernel_rfl) (by decide) (by kernel_rfl) (fun _ _ _ h => h) (Or.inl ⟨by rfl, by intro w hSw; (try dsimp only at hSw); have h1 := hSw.2; clear hSw; go_simp⟩) hH0 ?_
      try simp only [Act.put, List.setIfInBounds_toArray, List.set_cons_zero, List.set_cons_succ]
      refine wpUntil_ready (rs := [6, 12]) (by kernel_rfl) (by simp) (AllU.cons rfl (fun K hK => ?_) (AllU.cons rfl (fun K hK => ?_) AllU.nil))
      · go_simp
        refine (HS.out W0).mono ?_
        rintro e W1 ⟨rfl, b1⟩
        have ST1 := hid (ST0.out.later b1)
        clear b1
        have SC1 := hid (ST1.out.sc hH)
        refine hK.out _ _ SC1.out (fun hS1 => ?_)
        clear hK K
        try simp only [Act.put, List.setIfInBounds_toArray, List.set_cons_zero, List.set_cons_succ]
        refine wpUntil_take (i := 7) (oi := ⟨some 119, _, _, _, _, _⟩) (v := .int .i64 (z * 1024)) rfl (by kernel_rfl) (by kernel_rfl) (by kernel_rfl) (by kernel_rfl) (by decide) (by kernel_rfl) (fun _ _ _ h => h) (Or.inl ⟨by rfl, by intro w hSw; (try dsimp only at hSw); go_simp⟩) hS1 ?_
        try simp only [Act.put, List.setIfInBounds_toArray, List.set_cons_zero, List.set_cons_succ]
        refine wpUntil_ready (rs := [8, 12]) (by kernel_rfl) (by simp) (AllU.cons rfl (fun K hK => ?_) (AllU.cons rfl (fun K hK => ?_) AllU.nil))
        · have E2 := hid (El.made ST1.out (z * 1024))
          have ST2 := hid (ST1.out.later ((Below.refl _ W1).alloc (Nat.le_refl _) (.cells #[.int .i64 (z * 1024)] 3)))
          go_simp
          generalize W1.alloc (.cells #[.int .i64 (z * 1024)] 3) = W2 at *
          generalize W1.heap.size = g2 at *
          have SC2 := hid (ST2.out.sc hH)
          refine hK.out _ _ SC2.out (fun hS2 => ?_)
          clear hK K
          try simp only [Act.put, List.setIfInBounds_toArray, List.set_cons_zero, List.set_cons_succ]
          refine wpUntil_ready (rs := [9, 12]) (by kernel_rfl) (by simp) (AllU.cons rfl (fun K hK => ?_) (AllU.cons rfl (fun K hK => ?_) AllU.nil))
          · refine if_app rfl (.tmp 113) (.tmp 120) rfl (H + 3) (.slice c.a c.n c.c) lc.length (lc.map iv) g2 (z * 1024) rfl rfl (by have := ST2.out.oc; rw [hH] at this; exact this) E2.out.cell llc (by have := ST2.out.lt; rw [hH] at this; exact this) (fun q3 W3 h1 h2 h3 => ?_)
            have ST3 := hid (ST2.out.appC (x := (z * 1024)) h2.out (by rw [hH]; exact h1.out) h3.out)
            clear h1 h2 h3
            have SC3 := hid (ST3.out.sc hH)
            refine hK.out _ _ SC3.out (fun hS3 => ?_)
            clear hK K
            try simp only [Act.put, List.setIfInBounds_toArray, List.set_cons_zero, List.set_cons_succ]
            refine wpUntil_take (i := 14) (oi := ⟨some 126, _, _, _, _, _⟩) (v := .pointer (some ⟨H + 2, 8, none⟩)) rfl (by kernel_rfl) (by kernel_rfl) (by kernel_rfl) (by kernel_rfl) (by decide) (by kernel_rfl) (fun _ _ _ h => h) (Or.inl ⟨by rfl, by intro w hSw; (try dsimp only at hSw); go_simp⟩) hS3 ?_
            try simp only [Act.put, List.setIfInBounds_toArray, List.set_cons_zero, List.set_cons_succ]
            refine wpUntil_ready (rs := [12]) (by kernel_rfl) (by simp) (AllU.cons rfl (fun K hK => ?_) AllU.nil)
            have E4 := hid (El.made ST3.out 0)
            have ST4 := hid (ST3.out.later ((Below.refl _ W3).alloc (Nat.le_refl _) (.cells #[.int .i64 0] 3)))
            go_simp
            generalize W3.alloc (.cells #[.int .i64 0] 3) = W4 at *
            generalize W3.heap.size = g4 at *
            have SC4 := hid (ST4.out.sc hH)
            refine hK.out _ _ SC4.out (fun hS4 => ?_)
            clear hK K
            try simp only [Act.put, List.setIfInBounds_toArray, List.set_cons_zero, List.set_cons_succ]
            refine wpUntil_ready (rs := [13]) (by kernel_rfl) (by simp) (AllU.cons rfl (fun K hK => ?_) AllU.nil)
            refine if_app rfl (.tmp 123) (.tmp 124) rfl (H + 3) (.slice k.a k.n k.c) lk.length (lk.map iv) g4 0 rfl rfl (by have := ST4.out.ok; rw [hH] at this; exact this) E4.out.cell llk (by have := ST4.out.lt; rw [hH] at this; exact this) (fun q5 W5 h1 h2 h3 => ?_)
            have ST5 := hid (ST4.out.appK (x := 0) h2.out (by rw [hH]; exact h1.out) h3.out)
            clear h1 h2 h3
            have SC5 := hid (ST5.out.sc hH)
            refine hK.out _ _ SC5.out (fun hS5 => ?_)
            clear hK K
            try simp only [Act.put, List.setIfInBounds_toArray, List.set_cons_zero, List.set_cons_succ]
            refine wpUntil_ready (rs := [15]) (by kernel_rfl) (by simp) (AllU.late rfl (by kernel_rfl) (fun K hK => ?_) AllU.nil)
            obtain ⟨s8, s9⟩ := ST5.out.sc hH
            obtain ⟨f8, f9⟩ := ST5.out.fr hH
            have DN := hid ST5.out.done.1
            rw [hH] at DN
            go_simp
            refine hK.out _ _ ?_
            clear hK K
            try simp only [Act.put, List.setIfInBounds_toArray, List.set_cons_zero, List.set_cons_succ]
            refine wpUntil_ready (rs := [16]) (by kernel_rfl) (by simp) (AllU.late rfl (by kernel_rfl) (fun K hK => ?_) AllU.nil)
            go_simp
            refine hK.out _ _ ?_
            clear hK K
            try simp only [Act.put, List.setIfInBounds_toArray, List.set_cons_zero, List.set_cons_succ]
            refine wpUntil_ready (rs := [17]) (by kernel_rfl) (by simp) (AllU.late rfl (by kernel_rfl) (fun K hK => ?_) AllU.nil)
            go_simp
            refine hK.out _ _ ?_
            clear hK K
            try simp only [Act.put, List.setIfInBounds_toArray, List.set_cons_zero, List.set_cons_succ]
            refine wpUntil_done (by kernel_rfl) ?_ _
            clear s8 s9 f8 f9
            go_wp2_with fail
            go_roundw
            all_goals first
              | exact ⟨i + 1, q3, q5, by omega, by go_num, by rw [DX, DK]; exact DN⟩
              | (simp [intOf]; omega)
          · have E3 := hid (El.made ST2.out 0)
            have ST3 := hid (ST2.out.later ((Below.refl _ W2).alloc (Nat.le_refl _) (.cells #[.int .i64 0] 3)))
            have F3 := hid (E2.out.later ((Below.refl _ W2).alloc (Nat.le_refl _) (.cells #[.int .i64 0] 3)))
            go_simp
            generalize W2.alloc (.cells #[.int .i64 0] 3) = W3 at *
            generalize W2.heap.size = g3 at *
            have SC3 := hid (ST3.out.sc hH)
            refine hK.out _ _ SC3.out (fun hS3 => ?_)
            clear hK K
            try simp only [Act.put, List.setIfInBounds_toArray, List.set_cons_zero, List.set_cons_succ]
            refine wpUntil_ready (rs := [9]) (by kernel_rfl) (by simp) (AllU.cons rfl (fun K hK => ?_) AllU.nil)
            refine if_app rfl (.tmp 113) (.tmp 120) rfl (H + 3) (.slice c.a c.n c.c) lc.length (lc.map iv) g2 (z * 1024) rfl rfl (by have := ST3.out.oc; rw [hH] at this; exact this) F3.out.cell llc (by have := ST3.out.lt; rw [hH] at this; exact this) (fun q4 W4 h1 h2 h3 => ?_)
            have ST4 := hid (ST3.out.appC (x := (z * 1024)) h2.out (by rw [hH]; exact h1.out) h3.out)
            have F4 := hid (E3.out.appC h2.out h3.out)
            clear h1 h2 h3
            have SC4 := hid (ST4.out.sc hH)
            refine hK.out _ _ SC4.out (fun hS4 => ?_)
            clear hK K
            try simp only [Act.put, List.setIfInBounds_toArray, List.set_cons_zero, List.set_cons_succ]
            refine wpUntil_take (i := 14) (oi := ⟨some 126, _, _, _, _, _⟩) (v := .pointer (some ⟨H + 2, 8, none⟩)) rfl (by kernel_rfl) (by kernel_rfl) (by kernel_rfl) (by kernel_rfl) (by decide) (by kernel_rfl) (fun _ _ _ h => h) (Or.inl ⟨by rfl, by intro w hSw; (try dsimp only at hSw); go_simp⟩) hS4 ?_
            try simp only [Act.put, List.setIfInBounds_toArray, List.set_cons_zero, List.set_cons_succ]
            refine wpUntil_ready (rs := [13]) (by kernel_rfl) (by simp) (AllU.cons rfl (fun K hK => ?_) AllU.nil)
            refine if_app rfl (.tmp 123) (.tmp 124) rfl (H + 3) (.slice k.a k.n k.c) lk.length (lk.map iv) g3 0 rfl rfl (by have := ST4.out.ok; rw [hH] at this; exact this) F4.out.cell llk (by have := ST4.out.lt; rw [hH] at this; exact this) (fun q5 W5 h1 h2 h3 => ?_)
            have ST5 := hid (ST4.out.appK (x := 0) h2.out (by rw [hH]; exact h1.out) h3.out)
            clear h1 h2 h3
            have SC5 := hid (ST5.out.sc hH)
            refine hK.out _ _ SC5.out (fun hS5 => ?_)
            clear hK K
            try simp only [Act.put, List.setIfInBounds_toArray, List.set_cons_zero, List.set_cons_succ]
            refine wpUntil_ready (rs := [15]) (by kernel_rfl) (by simp) (AllU.late rfl (by kernel_rfl) (fun K hK => ?_) AllU.nil)
            obtain ⟨s8, s9⟩ := ST5.out.sc hH
            obtain ⟨f8, f9⟩ := ST5.out.fr hH
            have DN := hid ST5.out.done.1
            rw [hH] at DN
            go_simp
            refine hK.out _ _ ?_
            clear hK K
            try simp only [Act.put, List.setIfInBounds_toArray, List.set_cons_zero, List.set_cons_succ]
            refine wpUntil_ready (rs := [16]) (by kernel_rfl) (by simp) (AllU.late rfl (by kernel_rfl) (fun K hK => ?_) AllU.nil)
            go_simp
            refine hK.out _ _ ?_
            clear hK K
            try simp only [Act.put, List.setIfInBounds_toArray, List.set_cons_zero, List.set_cons_succ]
            refine wpUntil_ready (rs := [17]) (by kernel_rfl) (by simp) (AllU.late rfl (by kernel_rfl) (fun K hK => ?_) AllU.nil)
            go_simp
            refine hK.out _ _ ?_
            clear hK K
            try simp only [Act.put, List.setIfInBounds_toArray, List.set_cons_zero, List.set_cons_succ]
            refine wpUntil_done (by kernel_rfl) ?_ _
            clear s8 s9 f8 f9
            go_wp2_with fail
            go_roundw
            all_goals first
              | exact ⟨i + 1, q4, q5, by omega, by go_num, by rw [DX, DK]; exact DN⟩
              | (simp [intOf]; omega)
        · have E2 := hid (El.made ST1.out 0)
          have ST2 := hid (ST1.out.later ((Below.refl _ W1).alloc (Nat.le_refl _) (.cells #[.int .i64 0] 3)))
          go_simp
          generalize W1.alloc (.cells #[.int .i64 0] 3) = W2 at *
          generalize W1.heap.size = g2 at *
          have SC2 := hid (ST2.out.sc hH)
          refine hK.out _ _ SC2.out (fun hS2 => ?_)
          clear hK K
          try simp only [Act.put, List.setIfInBounds_toArray, List.set_cons_zero, List.set_cons_succ]
          refine wpUntil_ready (rs := [8]) (by kernel_rfl) (by simp) (AllU.cons rfl (fun K hK => ?_) AllU.nil)
          have E3 := hid (El.made ST2.out (z * 1024))
          have ST3 := hid (ST2.out.later ((Below.refl _ W2).alloc (Nat.le_refl _) (.cells #[.int .i64 (z * 1024)] 3)))
          have F3 := hid (E2.out.later ((Below.refl _ W2).alloc (Nat.le_refl _) (.cells #[.int .i64 (z * 1024)] 3)))
          go_simp
          generalize W2.alloc (.cells #[.int .i64 (z * 1024)] 3) = W3 at *
          generalize W2.heap.size = g3 at *
          have SC3 := hid (ST3.out.sc hH)
          refine hK.out _ _ SC3.out (fun hS3 => ?_)
          clear hK K
          try simp only [Act.put, List.setIfInBounds_toArray, List.set_cons_zero, List.set_cons_succ]
          refine wpUntil_ready (rs := [9]) (by kernel_rfl) (by simp) (AllU.cons rfl (fun K hK => ?_) AllU.nil)
          refine if_app rfl (.tmp 113) (.tmp 120) rfl (H + 3) (.slice c.a c.n c.c) lc.length (lc.map iv) g3 (z * 1024) rfl rfl (by have := ST3.out.oc; rw [hH] at this; exact this) E3.out.cell llc (by have := ST3.out.lt; rw [hH] at this; exact this) (fun q4 W4 h1 h2 h3 => ?_)
          have ST4 := hid (ST3.out.appC (x := (z * 1024)) h2.out (by rw [hH]; exact h1.out) h3.out)
          have F4 := hid (F3.out.appC h2.out h3.out)
          clear h1 h2 h3
          have SC4 := hid (ST4.out.sc hH)
          refine hK.out _ _ SC4.out (fun hS4 => ?_)
          clear hK K
          try simp only [Act.put, List.setIfInBounds_toArray, List.set_cons_zero, List.set_cons_succ]
          refine wpUntil_take (i := 14) (oi := ⟨some 126, _, _, _, _, _⟩) (v := .pointer (some ⟨H + 2, 8, none⟩)) rfl (by kernel_rfl) (by kernel_rfl) (by kernel_rfl) (by kernel_rfl) (by decide) (by kernel_rfl) (fun _ _ _ h => h) (Or.inl ⟨by rfl, by intro w hSw; (try dsimp only at hSw); go_simp⟩) hS4 ?_
          try simp only [Act.put, List.setIfInBounds_toArray, List.set_cons_zero, List.set_cons_succ]
          refine wpUntil_ready (rs := [13]) (by kernel_rfl) (by simp) (AllU.cons rfl (fun K hK => ?_) AllU.nil)
          refine if_app rfl (.tmp 123) (.tmp 124) rfl (H + 3) (.slice k.a k.n k.c) lk.length (lk.map iv) g2 0 rfl rfl (by have := ST4.out.ok; rw [hH] at this; exact this) F4.out.cell llk (by have := ST4.out.lt; rw [hH] at this; exact this) (fun q5 W5 h1 h2 h3 => ?_)
          have ST5 := hid (ST4.out.appK (x := 0) h2.out (by rw [hH]; exact h1.out) h3.out)
          clear h1 h2 h3
          have SC5 := hid (ST5.out.sc hH)
          refine hK.out _ _ SC5.out (fun hS5 => ?_)
          clear hK K
          try simp only [Act.put, List.setIfInBounds_toArray, List.set_cons_zero, List.set_cons_succ]
          refine wpUntil_ready (rs := [15]) (by kernel_rfl) (by simp) (AllU.late rfl (by kernel_rfl) (fun K hK => ?_) AllU.nil)
          obtain ⟨s8, s9⟩ := ST5.out.sc hH
          obtain ⟨f8, f9⟩ := ST5.out.fr hH
          have DN := hid ST5.out.done.1
          rw [hH] at DN
          go_simp
          refine hK.out _ _ ?_
          clear hK K
          try simp only [Act.put, List.setIfInBounds_toArray, List.set_cons_zero, List.set_cons_succ]
          refine wpUntil_ready (rs := [16]) (by kernel_rfl) (by simp) (AllU.late rfl (by kernel_rfl) (fun K hK => ?_) AllU.nil)
          go_simp
          refine hK.out _ _ ?_
          clear hK K
          try simp only [Act.put, List.setIfInBounds_toArray, List.set_cons_zero, List.set_cons_succ]
          refine wpUntil_ready (rs := [17]) (by kernel_rfl) (by simp) (AllU.late rfl (by kernel_rfl) (fun K hK => ?_) AllU.nil)
          go_simp
          refine hK.out _ _ ?_
          clear hK K
          try simp only [Act.put, List.setIfInBounds_toArray, List.set_cons_zero, List.set_cons_succ]
          refine wpUntil_done (by kernel_rfl) ?_ _
          clear s8 s9 f8 f9
          go_wp2_with fail
          go_roundw
          all_goals first
            | exact ⟨i + 1, q4, q5, by omega, by go_num, by rw [DX, DK]; exact DN⟩
            | (simp [intOf]; omega)
      · have E1 := hid (El.made ST0.out 0)
        have ST1 := hid (ST0.out.later ((Below.refl _ W0).alloc (Nat.le_refl _) (.cells #[.int .i64 0] 3)))
        go_simp
        generalize W0.alloc (.cells #[.int .i64 0] 3) = W1 at *
        generalize W0.heap.size = g1 at *
        have SC1 := hid (ST1.out.sc hH)
        refine hK.out _ _ SC1.out (fun hS1 => ?_)
        clear hK K
        try simp only [Act.put, List.setIfInBounds_toArray, List.set_cons_zero, List.set_cons_succ]
        refine wpUntil_ready (rs := [6]) (by kernel_rfl) (by simp) (AllU.cons rfl (fun K hK => ?_) AllU.nil)
        go_simp
        refine (HS.out W1).mono ?_
        rintro e W2 ⟨rfl, b2⟩
        have ST2 := hid (ST1.out.later b2)
        have F2 := hid (E1.out.later b2)
        clear b2
        have SC2 := hid (ST2.out.sc hH)
        refine hK.out _ _ SC2.out (fun hS2 => ?_)
        clear hK K
        try simp only [Act.put, List.setIfInBounds_toArray, List.set_cons_zero, List.set_cons_succ]
        refine wpUntil_take (i := 7) (oi := ⟨some 119, _, _, _, _, _⟩) (v := .int .i64 (z * 1024)) rfl (by kernel_rfl) (by kernel_rfl) (by kernel_rfl) (by kernel_rfl) (by decide) (by kernel_rfl) (fun _ _ _ h => h) (Or.inl ⟨by rfl, by intro w hSw; (try dsimp only at hSw); go_simp⟩) hS2 ?_
        try simp only [Act.put, List.setIfInBounds_toArray, List.set_cons_zero, List.set_cons_succ]
        refine wpUntil_ready (rs := [8]) (by kernel_rfl) (by simp) (AllU.cons rfl (fun K hK => ?_) AllU.nil)
        have E3 := hid (El.made ST2.out (z * 1024))
        have ST3 := hid (ST2.out.later ((Below.refl _ W2).alloc (Nat.le_refl _) (.cells #[.int .i64 (z * 1024)] 3)))
        have F3 := hid (F2.out.later ((Below.refl _ W2).alloc (Nat.le_refl _) (.cells #[.int .i64 (z * 1024)] 3)))
        go_simp
        generalize W2.alloc (.cells #[.int .i64 (z * 1024)] 3) = W3 at *
        generalize W2.heap.size = g3 at *
        have SC3 := hid (ST3.out.sc hH)
        refine hK.out _ _ SC3.out (fun hS3 => ?_)
        clear hK K
        try simp only [Act.put, List.setIfInBounds_toArray, List.set_cons_zero, List.set_cons_succ]
        refine wpUntil_ready (rs := [9]) (by kernel_rfl) (by simp) (AllU.cons rfl (fun K hK => ?_) AllU.nil)
        refine if_app rfl (.tmp 113) (.tmp 120) rfl (H + 3) (.slice c.a c.n c.c) lc.length (lc.map iv) g3 (z * 1024) rfl rfl (by have := ST3.out.oc; rw [hH] at this; exact this) E3.out.cell llc (by have := ST3.out.lt; rw [hH] at this; exact this) (fun q4 W4 h1 h2 h3 => ?_)
        have ST4 := hid (ST3.out.appC (x := (z * 1024)) h2.out (by rw [hH]; exact h1.out) h3.out)
        have F4 := hid (F3.out.appC h2.out h3.out)
        clear h1 h2 h3
        have SC4 := hid (ST4.out.sc hH)
        refine hK.out _ _ SC4.out (fun hS4 => ?_)
        clear hK K
        try simp only [Act.put, List.setIfInBounds_toArray, List.set_cons_zero, List.set_cons_succ]
        refine wpUntil_take (i := 14) (oi := ⟨some 126, _, _, _, _, _⟩) (v := .pointer (some ⟨H + 2, 8, none⟩)) rfl (by kernel_rfl) (by kernel_rfl) (by kernel_rfl) (by kernel_rfl) (by decide) (by kernel_rfl) (fun _ _ _ h => h) (Or.inl ⟨by rfl, by intro w hSw; (try dsimp only at hSw); go_simp⟩) hS4 ?_
        try simp only [Act.put, List.setIfInBounds_toArray, List.set_cons_zero, List.set_cons_succ]
        refine wpUntil_ready (rs := [13]) (by kernel_rfl) (by simp) (AllU.cons rfl (fun K hK => ?_) AllU.nil)
        refine if_app rfl (.tmp 123) (.tmp 124) rfl (H + 3) (.slice k.a k.n k.c) lk.length (lk.map iv) g1 0 rfl rfl (by have := ST4.out.ok; rw [hH] at this; exact this) F4.out.cell llk (by have := ST4.out.lt; rw [hH] at this; exact this) (fun q5 W5 h1 h2 h3 => ?_)
        have ST5 := hid (ST4.out.appK (x := 0) h2.out (by rw [hH]; exact h1.out) h3.out)
        clear h1 h2 h3
        have SC5 := hid (ST5.out.sc hH)
        refine hK.out _ _ SC5.out (fun hS5 => ?_)
        clear hK K
        try simp only [Act.put, List.setIfInBounds_toArray, List.set_cons_zero, List.set_cons_succ]
        refine wpUntil_ready (rs := [15]) (by kernel_rfl) (by simp) (AllU.late rfl (by kernel_rfl) (fun K hK => ?_) AllU.nil)
        obtain ⟨s8, s9⟩ := ST5.out.sc hH
        obtain ⟨f8, f9⟩ := ST5.out.fr hH
        have DN := hid ST5.out.done.1
        rw [hH] at DN
        go_simp
        refine hK.out _ _ ?_
        clear hK K
        try simp only [Act.put, List.setIfInBounds_toArray, List.set_cons_zero, List.set_cons_succ]
        refine wpUntil_ready (rs := [16]) (by kernel_rfl) (by simp) (AllU.late rfl (by kernel_rfl) (fun K hK => ?_) AllU.nil)
        go_simp
        refine hK.out _ _ ?_
        clear hK K
        try simp only [Act.put, List.setIfInBounds_toArray, List.set_cons_zero, List.set_cons_succ]
        refine wpUntil_ready (rs := [17]) (by kernel_rfl) (by simp) (AllU.late rfl (by kernel_rfl) (fun K hK => ?_) AllU.nil)
        go_simp
        refine hK.out _ _ ?_
        clear hK K
        try simp only [Act.put, List.setIfInBounds_toArray, List.set_cons_zero, List.set_cons_succ]
        refine wpUntil_done (by kernel_rfl) ?_ _
        clear s8 s9 f8 f9
        go_wp2_with fail
        go_roundw
        all_goals first
          | exact ⟨i + 1, q4, q5, by omega, by go_num, by rw [DX, DK]; exact DN⟩
          | (simp [intOf]; omega)
    · obtain rfl : i = m := by omega
      generalize (List.range i).map (fun i => sq ((i % 32 : Nat) * 132 - 2047) * 1024) = lc at *
      generalize List.replicate i (0 : Int) = lk at *
      have BE := hid (bgn_end (by rw [hbp]; exact BI.out : Bgn w wr p (begun p) (ckV c k)))
      rw [hH, hbp] at BE
      have r3 := BI.out.r3
      have r2 := BI.out.r2
      rw [hH] at r2 r3
      go_wp2_with (first
        | (refine wpList_load_row rfl 65 (.tmp 3) rfl (H + 2) rfl 65 (cellsU { p := p, chance := lc, count := lk } (ckV c k)) (0, 0) _ r3 Tryz.underlying65 rfl (szU _ _) ?_)
        | (refine wpList_store_row (o := ⟨none, .store 65 (.tmp 2) (.tmp 128), _, _, _, _⟩) rfl 65 (.tmp 2) (.tmp 128) rfl (H + 1) (cellsU { p := p, chance := lc, count := lk } (ckV c k)) rfl rfl 65 _ r2 (szU _ _) (szEq _ _ _ _) (oneU _ _) ?_))
      refine bodyPost_ret (results_cell_row (by kernel_rfl : Tryz.f29.results = #[.cell 2 65]) _ _ (H + 1) 65 (cellsU { p := p, chance := lc, count := lk } (ckV c k)) (0, 0) _ rfl BE.out.1 Tryz.underlying65 rfl (szU _ _)) rfl ?_
      exact BE.out.2
end Go.Proofs.YtkfdbibgjoaefaaGreatDoor
