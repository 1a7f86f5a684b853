/-
  Merged: Mcb Bld2 Bk2 Bld3.
-/
import Derived.Test.YtkfdbibgjoaefaaGreatDoorMg33
import Derived.Test.YtkfdbibgjoaefaaGreatDoorMg34
import Derived.Test.YtkfdbibgjoaefaaGreatDoorMg29
import Derived.Test.YtkfdbibgjoaefaaGreatDoorMg27
/-
  A byte begins for a PMatch: a match is looked for.
-/
namespace Go.Proofs.YtkfdbibgjoaefaaGreatDoor
open Go.RowKit

theorem natsF_set {l : List Nat} {n i : Nat} {x : Nat} (_hi : i < n) (hl : l.length = n) : ∀ k, k < n → (fun k => if k = i then Value.int .i64 (x : Nat) else natsF l k) k = natsF (l.set i x) k := by
  intro k hk
  show (if k = i then Value.int .i64 (x : Nat) else natsF l k) = _
  unfold natsF
  rw [getD_set _ _ _ _ _ (by omega)]
  by_cases e : k = i
  · rw [if_pos e, if_pos e.symm]
  · rw [if_neg e, if_neg (Ne.symm e)]
set_option maxRecDepth 10000 in
set_option maxHeartbeats 2000000 in
theorem w_mch_begin_n1 (g dr ds pos len wh h q : Nat) (size : Int) (ring number : List Nat) (w : World) (n1 : g ≠ dr) (n2 : g ≠ ds) (n3 : dr ≠ ds) (hh : h < 4294967296) (s0 : 0 ≤ size) (s1 : size ≤ 16) (hg : Ro w g 107 7 (maF size dr (pw size) ds wh pos len)) (hd : Ro w dr 5 (pw size) (bytesF ring)) (hs : Ro w ds 3 (pw size) (natsF number)) (hl : number.length = pw size) (_hlen : len ≤ 32) (_hwh : wh < 4294967296) (hq : number.getD (placeN h 1 size) 0 = q) (_hqw : q ≤ wh) (h0l : len ≠ 0) :
    Calls Tryz.prog 110 #[pt g, .int .u32 (h : Nat)] w fun e w' => e = .returned (.tuple #[]) ∧ Ro w' g 107 7 (maF size dr (pw size) ds wh pos len) ∧ Ro w' dr 5 (pw size) (bytesF ring) ∧ Ro w' ds 3 (pw size) (natsF (number.set (placeN h 1 size) wh)) ∧ But (fun k => k = g ∨ k = ds) w w' := by
  obtain ⟨s, rfl, s16, hp⟩ := pw_nat size s0 s1
  have hpl := placeN_lt h 1 s s0 (by omega)
  have ha2 : placeN h 1 s < pw s := hpl
  have hpw := pw_le s s1
  have hpp := pw_pos s
  rw [hp] at hg hd hs hl ha2 hpw hpp ⊢
  have HA : Hid (∀ w', Calls Tryz.prog 113 #[.agg #[.int .i64 s, .int .i64 1, .slice (some ⟨ds, 0, none⟩) (2 ^ s) (2 ^ s)], .agg #[.int .u32 h, .int .u32 1, .slice none 0 0]] w' fun e w'' =>
      e = .returned (.slice (some ⟨ds, placeN h 1 s * 1, none⟩) 1 (2 ^ s - placeN h 1 s * 1)) ∧ Below w'.heap.size w' w'') := hid (fun w' => at_i ds h 1 s 1 (2 ^ s) 0 0 none w' hh (by omega) s16 (by omega) (by omega))
  rw [Nat.mul_one] at HA
  have c0 := hs.cell (placeN h 1 s) (by omega)
  unfold natsF at c0
  rw [hq] at c0
  generalize placeN h 1 s = pl at *
  obtain ⟨n, hn⟩ : ∃ n, 2 ^ s = n := ⟨_, rfl⟩
  rw [hn] at HA hg hd hs hl ha2 hpw hpp ⊢
  generalize n - pl = qq at HA
  have HN := hid (fun (w' : World) (b : Ro w' ds 3 n (natsF number)) => (b.set pl (.int .i64 (wh : Nat))).same (natsF_set ha2 hl))
  have g1 : w.cell? ⟨g, 1, none⟩ = some (.int .i64 s) := hg.cell 1 (by omega)
  have g2 : w.cell? ⟨g, 2, none⟩ = some (.int .i64 1) := hg.cell 2 (by omega)
  have g3 : w.cell? ⟨g, 3, none⟩ = some (.slice (some ⟨ds, 0, none⟩) n n) := hg.cell 3 (by omega)
  have g6 : w.cell? ⟨g, 6, none⟩ = some (.int .i64 (len : Nat)) := hg.cell 6 (by omega)
  have HG := hid hg
  have HD := hid hd
  have HSS := hid hs
  have n4 : ¬ ds = g := Ne.symm n2
  have n5 : ¬ dr = g := Ne.symm n1
  have n6 : ¬ ds = dr := Ne.symm n3
  clear hg hd hs hp hn hpl hl hq
  unfold pt at *
  go_enter Tryz.func110, Tryz.ntmps110
  go_wp2_with fail
  refine (HA.out _).mono ?_
  rintro r w1 ⟨rfl, b1⟩
  have G1 := hid (HG.out.below b1)
  have D1 := hid (HD.out.below b1)
  have S1 := hid (HSS.out.below b1)
  have e6 := keeps b1 g6
  have ec := keeps b1 c0
  have B1 := hid b1
  clear b1 g1 g2 g3 g6 c0 HA
  have e4 : w1.cell? ⟨g, 4, none⟩ = some (.int .i64 (wh : Nat)) := G1.out.cell 4 (by omega)
  have fp := S1.out.free pl
  have x2 := (But.of_below (S := (fun k => k = g ∨ k = ds)) B1.out).set ⟨ds, pl, none⟩ (.int .i64 (wh : Nat)) (.inl (.inr rfl))
  have y2 := (But.refl (· = ds) w1).set ⟨ds, pl, none⟩ (.int .i64 (wh : Nat)) (.inl rfl)
  have G2 := hid (G1.out.on y2 n2)
  have D2 := hid (D1.out.on y2 n3)
  have X2 := hid x2
  clear x2 y2
  have zl : ¬ (len : Int) = 0 := by omega
  go_wp2_with fail
  refine bodyPost_end (results_none rfl _ _ _) rfl ⟨rfl, G2.out, D2.out, HN.out _ S1.out, X2.out⟩
set_option maxRecDepth 10000 in
set_option maxHeartbeats 2000000 in
theorem w_mch_begin_n2 (g dr ds pos len wh h q : Nat) (size : Int) (ring number : List Nat) (w : World) (n1 : g ≠ dr) (n2 : g ≠ ds) (n3 : dr ≠ ds) (hh : h < 4294967296) (s0 : 0 ≤ size) (s1 : size ≤ 16) (hg : Ro w g 107 7 (maF size dr (pw size) ds wh pos len)) (hd : Ro w dr 5 (pw size) (bytesF ring)) (hs : Ro w ds 3 (pw size) (natsF number)) (hl : number.length = pw size) (hlen : len ≤ 32) (_hwh : wh < 4294967296) (hq : number.getD (placeN h 1 size) 0 = q) (hqw : q ≤ wh) (h0l : len = 0) (hq0 : q = 0) :
    Calls Tryz.prog 110 #[pt g, .int .u32 (h : Nat)] w fun e w' => e = .returned (.tuple #[]) ∧ Ro w' g 107 7 (maF size dr (pw size) ds wh pos len) ∧ Ro w' dr 5 (pw size) (bytesF ring) ∧ Ro w' ds 3 (pw size) (natsF (number.set (placeN h 1 size) wh)) ∧ But (fun k => k = g ∨ k = ds) w w' := by
  obtain ⟨s, rfl, s16, hp⟩ := pw_nat size s0 s1
  have hpl := placeN_lt h 1 s s0 (by omega)
  have ha2 : placeN h 1 s < pw s := hpl
  have hpw := pw_le s s1
  have hpp := pw_pos s
  rw [hp] at hg hd hs hl ha2 hpw hpp ⊢
  have HA : Hid (∀ w', Calls Tryz.prog 113 #[.agg #[.int .i64 s, .int .i64 1, .slice (some ⟨ds, 0, none⟩) (2 ^ s) (2 ^ s)], .agg #[.int .u32 h, .int .u32 1, .slice none 0 0]] w' fun e w'' =>
      e = .returned (.slice (some ⟨ds, placeN h 1 s * 1, none⟩) 1 (2 ^ s - placeN h 1 s * 1)) ∧ Below w'.heap.size w' w'') := hid (fun w' => at_i ds h 1 s 1 (2 ^ s) 0 0 none w' hh (by omega) s16 (by omega) (by omega))
  rw [Nat.mul_one] at HA
  have c0 := hs.cell (placeN h 1 s) (by omega)
  unfold natsF at c0
  rw [hq] at c0
  generalize placeN h 1 s = pl at *
  obtain ⟨n, hn⟩ : ∃ n, 2 ^ s = n := ⟨_, rfl⟩
  rw [hn] at HA hg hd hs hl ha2 hpw hpp ⊢
  generalize n - pl = qq at HA
  have HN := hid (fun (w' : World) (b : Ro w' ds 3 n (natsF number)) => (b.set pl (.int .i64 (wh : Nat))).same (natsF_set ha2 hl))
  have g1 : w.cell? ⟨g, 1, none⟩ = some (.int .i64 s) := hg.cell 1 (by omega)
  have g2 : w.cell? ⟨g, 2, none⟩ = some (.int .i64 1) := hg.cell 2 (by omega)
  have g3 : w.cell? ⟨g, 3, none⟩ = some (.slice (some ⟨ds, 0, none⟩) n n) := hg.cell 3 (by omega)
  have g6 : w.cell? ⟨g, 6, none⟩ = some (.int .i64 (len : Nat)) := hg.cell 6 (by omega)
  have HG := hid hg
  have HD := hid hd
  have HSS := hid hs
  have n4 : ¬ ds = g := Ne.symm n2
  have n5 : ¬ dr = g := Ne.symm n1
  have n6 : ¬ ds = dr := Ne.symm n3
  clear hg hd hs hp hn hpl hl hq
  unfold pt at *
  go_enter Tryz.func110, Tryz.ntmps110
  go_wp2_with fail
  refine (HA.out _).mono ?_
  rintro r w1 ⟨rfl, b1⟩
  have G1 := hid (HG.out.below b1)
  have D1 := hid (HD.out.below b1)
  have S1 := hid (HSS.out.below b1)
  have e6 := keeps b1 g6
  have ec := keeps b1 c0
  have B1 := hid b1
  clear b1 g1 g2 g3 g6 c0 HA
  have e4 : w1.cell? ⟨g, 4, none⟩ = some (.int .i64 (wh : Nat)) := G1.out.cell 4 (by omega)
  have fp := S1.out.free pl
  have x2 := (But.of_below (S := (fun k => k = g ∨ k = ds)) B1.out).set ⟨ds, pl, none⟩ (.int .i64 (wh : Nat)) (.inl (.inr rfl))
  have y2 := (But.refl (· = ds) w1).set ⟨ds, pl, none⟩ (.int .i64 (wh : Nat)) (.inl rfl)
  have G2 := hid (G1.out.on y2 n2)
  have D2 := hid (D1.out.on y2 n3)
  have X2 := hid x2
  clear x2 y2
  subst h0l
  subst hq0
  go_wp2_with fail
  refine bodyPost_end (results_none rfl _ _ _) rfl ⟨rfl, G2.out, D2.out, HN.out _ S1.out, X2.out⟩
set_option maxRecDepth 10000 in
set_option maxHeartbeats 2000000 in
theorem w_mch_begin_y (g dr ds pos len wh h q : Nat) (size : Int) (ring number : List Nat) (w : World) (n1 : g ≠ dr) (n2 : g ≠ ds) (n3 : dr ≠ ds) (hh : h < 4294967296) (s0 : 0 ≤ size) (s1 : size ≤ 16) (hg : Ro w g 107 7 (maF size dr (pw size) ds wh pos len)) (hd : Ro w dr 5 (pw size) (bytesF ring)) (hs : Ro w ds 3 (pw size) (natsF number)) (hl : number.length = pw size) (_hlen : len ≤ 32) (hwh : wh < 4294967296) (hq : number.getD (placeN h 1 size) 0 = q) (hqw : q ≤ wh) (h0l : len = 0) (hq0 : q ≠ 0) :
    Calls Tryz.prog 110 #[pt g, .int .u32 (h : Nat)] w fun e w' => e = .returned (.tuple #[]) ∧ Ro w' g 107 7 (maF size dr (pw size) ds wh (q % pw size) (mlen ring (pw size) q wh 32 0)) ∧ Ro w' dr 5 (pw size) (bytesF ring) ∧ Ro w' ds 3 (pw size) (natsF (number.set (placeN h 1 size) wh)) ∧ But (fun k => k = g ∨ k = ds) w w' := by
  obtain ⟨s, rfl, s16, hp⟩ := pw_nat size s0 s1
  have hpl := placeN_lt h 1 s s0 (by omega)
  have ha2 : placeN h 1 s < pw s := hpl
  have hpw := pw_le s s1
  have hpp := pw_pos s
  rw [hp] at hg hd hs hl ha2 hpw hpp ⊢
  have HA : Hid (∀ w', Calls Tryz.prog 113 #[.agg #[.int .i64 s, .int .i64 1, .slice (some ⟨ds, 0, none⟩) (2 ^ s) (2 ^ s)], .agg #[.int .u32 h, .int .u32 1, .slice none 0 0]] w' fun e w'' =>
      e = .returned (.slice (some ⟨ds, placeN h 1 s * 1, none⟩) 1 (2 ^ s - placeN h 1 s * 1)) ∧ Below w'.heap.size w' w'') := hid (fun w' => at_i ds h 1 s 1 (2 ^ s) 0 0 none w' hh (by omega) s16 (by omega) (by omega))
  rw [Nat.mul_one] at HA
  have c0 := hs.cell (placeN h 1 s) (by omega)
  unfold natsF at c0
  rw [hq] at c0
  generalize placeN h 1 s = pl at *
  obtain ⟨n, hn⟩ : ∃ n, 2 ^ s = n := ⟨_, rfl⟩
  rw [hn] at HA hg hd hs hl ha2 hpw hpp ⊢
  generalize n - pl = qq at HA
  have HN := hid (fun (w' : World) (b : Ro w' ds 3 n (natsF number)) => (b.set pl (.int .i64 (wh : Nat))).same (natsF_set ha2 hl))
  have g1 : w.cell? ⟨g, 1, none⟩ = some (.int .i64 s) := hg.cell 1 (by omega)
  have g2 : w.cell? ⟨g, 2, none⟩ = some (.int .i64 1) := hg.cell 2 (by omega)
  have g3 : w.cell? ⟨g, 3, none⟩ = some (.slice (some ⟨ds, 0, none⟩) n n) := hg.cell 3 (by omega)
  have g6 : w.cell? ⟨g, 6, none⟩ = some (.int .i64 (len : Nat)) := hg.cell 6 (by omega)
  have HG := hid hg
  have HD := hid hd
  have HSS := hid hs
  have n4 : ¬ ds = g := Ne.symm n2
  have n5 : ¬ dr = g := Ne.symm n1
  have n6 : ¬ ds = dr := Ne.symm n3
  clear hg hd hs hp hn hpl hl hq
  unfold pt at *
  go_enter Tryz.func110, Tryz.ntmps110
  go_wp2_with fail
  refine (HA.out _).mono ?_
  rintro r w1 ⟨rfl, b1⟩
  have G1 := hid (HG.out.below b1)
  have D1 := hid (HD.out.below b1)
  have S1 := hid (HSS.out.below b1)
  have e6 := keeps b1 g6
  have ec := keeps b1 c0
  have B1 := hid b1
  clear b1 g1 g2 g3 g6 c0 HA
  have e4 : w1.cell? ⟨g, 4, none⟩ = some (.int .i64 (wh : Nat)) := G1.out.cell 4 (by omega)
  have e0 : w1.cell? ⟨g, 0, none⟩ = some (sl dr n) := G1.out.cell 0 (by omega)
  have HT := hid (fun (w' : World) (b : Below w1.heap.size w1 w') => turn_any g dr n q w' (keeps b e0) (by omega))
  have HL := hid (fun (w' : World) (b : Below w1.heap.size w1 w') => alike_any g dr n q wh ring w' (keeps b e0) (keeps b e4) (D1.out.below b) (by omega) hqw hwh)
  unfold pt at HT HL
  obtain ⟨tq, htq⟩ : ∃ tq, q % n = tq := ⟨_, rfl⟩
  obtain ⟨ml, hml⟩ : ∃ ml, mlen ring n q wh 32 0 = ml := ⟨_, rfl⟩
  rw [htq] at HT
  rw [hml] at HL
  have HTQ := hid htq
  have HML := hid hml
  clear htq hml
  have hq0' : ¬ (q : Int) = 0 := by omega
  go_wp2_with fail
  go_region_held3 (fun w' => w'.cell? ⟨ds, pl, none⟩ = some (.int .i64 q))
    (first | exact ec | exact k0 | go_keep)
    (first
    | (go_at_call 114; (first | (with_reducible refine (HT.out w1.drew (Below.drewN _ _ 1)).mono ?_) | (with_reducible refine (HT.out w3 A3.out).mono ?_)); rintro r w2 ⟨rfl, rfl⟩)
    | (go_at_call 115; (with_reducible refine (HL.out w1.drew (Below.drewN _ _ 1)).mono ?_); rintro r w3 ⟨rfl, b3⟩; have k0 := keeps b3 ec; have A3 := hid (show Below w1.heap.size w1 w3 from undrew b3); have G3 := hid (G1.out.below A3.out); have f5 := G3.out.free 5; have f6 := G3.out.free 6; have c5 : w3.cell? ⟨g, 5, none⟩ = some (.int .i64 (pos : Nat)) := G3.out.cell 5 (by omega); have c6 : w3.cell? ⟨g, 6, none⟩ = some (.int .i64 (len : Nat)) := G3.out.cell 6 (by omega)))
  all_goals
    have x4 := ((But.refl (· = g) w3).set ⟨g, 5, none⟩ (.int .i64 (tq : Nat)) (.inl rfl)).set ⟨g, 6, none⟩ (.int .i64 (ml : Nat)) (.inl rfl)
    have G4 := hid (((G3.out.set 5 (.int .i64 (tq : Nat))).set 6 (.int .i64 (ml : Nat))).same maF_pl)
    have D4 := hid ((D1.out.below A3.out).on x4 n5)
    have S4 := hid ((S1.out.below A3.out).on x4 n4)
    have k4 := x4.cell k0 n4
    obtain ⟨W4, hW4⟩ : ∃ W4, W4 = (w3.setCell ⟨g, 5, none⟩ (.int .i64 (tq : Nat))).setCell ⟨g, 6, none⟩ (.int .i64 (ml : Nat)) := ⟨_, rfl⟩
    rw [← hW4] at x4 G4 D4 S4 k4
    rw [← hW4]
    have e4' : W4.cell? ⟨g, 4, none⟩ = some (.int .i64 (wh : Nat)) := G4.out.cell 4 (by omega)
    have fp := S4.out.free pl
    have y4 := (But.refl (· = ds) W4).set ⟨ds, pl, none⟩ (.int .i64 (wh : Nat)) (.inl rfl)
    have G5 := hid (G4.out.on y4 n2)
    have D5 := hid (D4.out.on y4 n3)
    have BX := hid (((But.of_below (S := (fun k => k = g ∨ k = ds)) (bel2 B1.out A3.out)).trans (x4.mono fun k e => Or.inl (Or.inl e))).trans (y4.mono fun k e => Or.inl (Or.inr e)))
    clear hW4 x4 y4 e0 e4 e6 ec k0 f5 f6 c5 c6
    go_wp2_with fail
    refine bodyPost_end (results_none rfl _ _ _) rfl ⟨rfl, ?_, D5.out, HN.out _ S4.out, BX.out⟩
    rw [HTQ.out, HML.out]
    exact G5.out
/-- A byte begins, whatever was seen. -/
theorem w_mch_begin (g dr ds pos len wh h : Nat) (size : Int) (ring number : List Nat) (w : World) (n1 : g ≠ dr) (n2 : g ≠ ds) (n3 : dr ≠ ds) (hh : h < 4294967296) (s0 : 0 ≤ size) (s1 : size ≤ 16) (hg : Ro w g 107 7 (maF size dr (pw size) ds wh pos len)) (hd : Ro w dr 5 (pw size) (bytesF ring)) (hs : Ro w ds 3 (pw size) (natsF number)) (hl : number.length = pw size) (hlen : len ≤ 32) (hwh : wh < 4294967296) (hqw : number.getD (placeN h 1 size) 0 ≤ wh) :
    Calls Tryz.prog 110 #[pt g, .int .u32 (h : Nat)] w fun e w' => e = .returned (.tuple #[]) ∧ Ro w' g 107 7 (maF size dr (pw size) ds wh (if len = 0 ∧ number.getD (placeN h 1 size) 0 ≠ 0 then number.getD (placeN h 1 size) 0 % pw size else pos) (if len = 0 ∧ number.getD (placeN h 1 size) 0 ≠ 0 then mlen ring (pw size) (number.getD (placeN h 1 size) 0) wh 32 0 else len)) ∧ Ro w' dr 5 (pw size) (bytesF ring) ∧ Ro w' ds 3 (pw size) (natsF (number.set (placeN h 1 size) wh)) ∧ But (fun k => k = g ∨ k = ds) w w' := by
  by_cases hy : len = 0 ∧ number.getD (placeN h 1 size) 0 ≠ 0
  · rw [if_pos hy, if_pos hy]
    exact w_mch_begin_y g dr ds pos len wh h _ size ring number w n1 n2 n3 hh s0 s1 hg hd hs hl hlen hwh rfl hqw hy.1 hy.2
  · rw [if_neg hy, if_neg hy]
    by_cases h0 : len = 0
    · exact w_mch_begin_n2 g dr ds pos len wh h _ size ring number w n1 n2 n3 hh s0 s1 hg hd hs hl hlen hwh rfl hqw h0 (by
        by_cases e : number.getD (placeN h 1 size) 0 = 0
        · exact e
        · exact absurd ⟨h0, e⟩ hy)
    · exact w_mch_begin_n1 g dr ds pos len wh h _ size ring number w n1 n2 n3 hh s0 s1 hg hd hs hl hlen hwh rfl hqw h0
end Go.Proofs.YtkfdbibgjoaefaaGreatDoor
/-
  build: a PAvg, PMix2, PMix, PSse as they begin.
-/
namespace Go.Proofs.YtkfdbibgjoaefaaGreatDoor
open Go.RowKit

set_option maxRecDepth 10000 in
set_option maxHeartbeats 1000000 in
theorem build_avg (s a b c r m : Int) (w : World) : Calls Tryz.prog 26 #[vP 5 s a b c r m] w fun e w' => e = .returned (.iface 109 (.agg #[.int .i64 a, .int .i64 b, .int .i64 c])) ∧ Below w.heap.size w w' := by
  unfold vP
  go_enter Tryz.func26, Tryz.ntmps26
  go_wp2_with fail
  go_ret
  exact ⟨rfl, (Below.refl _ _).alloc (Nat.le_refl _) _⟩
theorem bel_alo {w w' : World} {o : Obj} (h : Below (w.alloc o).heap.size (w.alloc o) w') : Below w.heap.size w w' := ((Below.refl _ _).alloc (Nat.le_refl _) o).trans (h.mono (by simp))
theorem lay_same (s wide : Nat) (x : Int) (hs : s ≤ 16) (hw : 1 ≤ wide ∧ wide ≤ 32) (g : Nat) (w' : World) (h : w'.cell? ⟨g, 0, none⟩ = some (.int .i64 x)) : Calls Tryz.prog 48 #[.int .i64 s, .int .i64 wide, .func (.func 69) #[] #[.pointer (some ⟨g, 0, none⟩)]] w' fun e w'' => ∃ d, e = .returned (.agg #[.int .i64 s, .int .i64 wide, .slice (some ⟨d, 0, none⟩) (wide * 2 ^ s) (wide * 2 ^ s)]) ∧ w'.heap.size ≤ d ∧
      Ro w'' d 3 (wide * 2 ^ s) (fun _ => .int .i64 x) ∧ Below w'.heap.size w' w'' :=
  lay_i s wide 69 (pt g) (fun _ => x) hs hw w' (enters_of Tryz.func69 (by kernel_rfl) rfl) (fun j _ w2 b2 => same_i1 g j x w2 (keeps b2 h))
set_option maxRecDepth 10000 in
set_option maxHeartbeats 1000000 in
theorem build_mix2 (s : Nat) (a b c r m : Int) (w : World) (hs : s ≤ 16) : Calls Tryz.prog 26 #[vP 6 s a b c r m] w fun e w' => ∃ g d, e = .returned (.iface 110 (pt g)) ∧ w.heap.size ≤ g ∧ w.heap.size ≤ d ∧ g ≠ d ∧
    w'.heap[g]? = some (.cells #[.int .i64 (s : Nat), .int .i64 1, sl d (1 * 2 ^ s), .int .i64 a, .int .i64 b, .int .i64 r] 112 (0, 0)) ∧ Ro w' d 3 (1 * 2 ^ s) (fun _ => .int .i64 32768) ∧ Below w.heap.size w w' := by
  have HL := hid (fun g w' h => lay_same s 1 32768 hs (by omega) g w' h)
  have HS := hid (fun w' => same_i 32768 w')
  generalize 1 * 2 ^ s = n at *
  have hs1 : (s : Int) ≤ 16 := by omega
  obtain ⟨W, hW⟩ : ∃ W, W = w.alloc (.cells #[.int .u8 6, .int .i64 s, .int .i64 a, .int .i64 b, .int .i64 c, .int .i64 r, .int .i64 m] 38) := ⟨_, rfl⟩
  have b0 : Below w.heap.size w W := by rw [hW]; exact (Below.refl _ _).alloc (Nat.le_refl _) _
  have m1 : W.cell? ⟨w.heap.size, 1, none⟩ = some (.int .i64 s) := by rw [hW]; go_simp
  have m2 : W.cell? ⟨w.heap.size, 2, none⟩ = some (.int .i64 a) := by rw [hW]; go_simp
  have m3 : W.cell? ⟨w.heap.size, 3, none⟩ = some (.int .i64 b) := by rw [hW]; go_simp
  have m5 : W.cell? ⟨w.heap.size, 5, none⟩ = some (.int .i64 r) := by rw [hW]; go_simp
  have m0 : W.cell? ⟨w.heap.size, 0, none⟩ = some (.int .u8 6) := by rw [hW]; go_simp
  have B0 := hid b0
  clear b0
  unfold vP
  unfold pt sl at *
  go_enter Tryz.func26, Tryz.ntmps26
  go_wp2_with (rw [← hW])
  clear hW
  go_region_held3 (fun w' => w'.cell? ⟨w.heap.size, 1, none⟩ = some (.int .i64 s) ∧ w'.cell? ⟨w.heap.size, 2, none⟩ = some (.int .i64 a) ∧ w'.cell? ⟨w.heap.size, 3, none⟩ = some (.int .i64 b) ∧ w'.cell? ⟨w.heap.size, 5, none⟩ = some (.int .i64 r))
    (first | exact ⟨m1, m2, m3, m5⟩ | exact ⟨j1, j2, j3, j5⟩ | exact ⟨k1, k2, k3, k5⟩ | go_keep)
    (first
    | (go_at_call 49; go_must ((refine (HS.out _).mono ?_); rintro r w1 ⟨rfl, c1, l1, b1⟩; have k1 := keeps b1 m1; have k2 := keeps b1 m2; have k3 := keeps b1 m3; have k5 := keeps b1 m5; have B1 := hid (show Below W.heap.size W w1 from undrew b1)))
    | (go_at_call 48; go_must ((refine (HL.out _ _ c1).mono ?_); rintro r w2 ⟨d, rfl, d1, R1, b2⟩; have j1 := keeps b2 k1; have j2 := keeps b2 k2; have j3 := keeps b2 k3; have j5 := keeps b2 k5; have B2 := hid b2; have R1 := hid R1; have d1 := hid d1)))
  all_goals
    have q1 := B0.out.size
    have q2 := B1.out.size
    have q3 := B2.out.size
    go_wp2_with fail
    go_ret
    exact ⟨w2.heap.size, d, rfl, by omega, by have := d1.out; omega, Ne.symm (Nat.ne_of_lt R1.out.lt), heap_alloc_new w2 _, R1.out.below ((Below.refl _ _).alloc (Nat.le_refl _) _), (bel3 B0.out B1.out B2.out).alloc (by omega) _⟩
set_option maxRecDepth 10000 in
set_option maxHeartbeats 1000000 in
theorem build_mix (s : Nat) (a c r m : Int) (b : Nat) (w : World) (hs : s ≤ 16) (hb : 1 ≤ b ∧ b ≤ 8) : Calls Tryz.prog 26 #[vP 7 s a b c r m] w fun e w' => ∃ g d, e = .returned (.iface 113 (pt g)) ∧ w.heap.size ≤ g ∧ w.heap.size ≤ d ∧ g ≠ d ∧
    w'.heap[g]? = some (.cells #[.int .i64 (s : Nat), .int .i64 b, sl d (b * 2 ^ s), .int .i64 a, .int .i64 r] 115 (0, 0)) ∧ Ro w' d 3 (b * 2 ^ s) (fun _ => .int .i64 (65536 / (b : Int))) ∧ Below w.heap.size w w' := by
  have HL := hid (fun g w' h => lay_same s b (65536 / (b : Int)) hs (by omega) g w' h)
  have HS := hid (fun w' => same_i (65536 / (b : Int)) w')
  have y1 : ¬ (b : Int) = 0 := by omega
  have y2 : ¬ b = 0 := by omega
  have y3 : Int.tdiv 65536 (b : Int) = 65536 / (b : Int) := Int.tdiv_eq_ediv_of_nonneg (by omega)
  have y5 : (0 : Int) ≤ 65536 / (b : Int) := Int.ediv_nonneg (by omega) (by omega)
  have y6 : 65536 / (b : Int) ≤ 65536 := Int.ediv_le_self _ (by omega)
  have y4 : IntKind.i64.wrap (Int.tdiv 65536 (b : Int)) = 65536 / (b : Int) := by rw [y3]; exact IntWalk.i64_in _ (by omega)
  have y7 : IntKind.i64.wrap (65536 / (b : Int)) = 65536 / (b : Int) := IntWalk.i64_in _ (by omega)
  have y8 : (b : Int) ≤ 8 := by omega
  generalize 65536 / (b : Int) = x at *
  generalize b * 2 ^ s = n at *
  have hs1 : (s : Int) ≤ 16 := by omega
  obtain ⟨W, hW⟩ : ∃ W, W = w.alloc (.cells #[.int .u8 7, .int .i64 s, .int .i64 a, .int .i64 b, .int .i64 c, .int .i64 r, .int .i64 m] 38) := ⟨_, rfl⟩
  have b0 : Below w.heap.size w W := by rw [hW]; exact (Below.refl _ _).alloc (Nat.le_refl _) _
  have m1 : W.cell? ⟨w.heap.size, 1, none⟩ = some (.int .i64 s) := by rw [hW]; go_simp
  have m2 : W.cell? ⟨w.heap.size, 2, none⟩ = some (.int .i64 a) := by rw [hW]; go_simp
  have m3 : W.cell? ⟨w.heap.size, 3, none⟩ = some (.int .i64 b) := by rw [hW]; go_simp
  have m5 : W.cell? ⟨w.heap.size, 5, none⟩ = some (.int .i64 r) := by rw [hW]; go_simp
  have m0 : W.cell? ⟨w.heap.size, 0, none⟩ = some (.int .u8 7) := by rw [hW]; go_simp
  have B0 := hid b0
  clear b0
  unfold vP
  unfold pt sl at *
  go_enter Tryz.func26, Tryz.ntmps26
  go_wp2_with (rw [← hW])
  clear hW
  go_region_held3 (fun w' => w'.cell? ⟨w.heap.size, 1, none⟩ = some (.int .i64 s) ∧ w'.cell? ⟨w.heap.size, 2, none⟩ = some (.int .i64 a) ∧ w'.cell? ⟨w.heap.size, 3, none⟩ = some (.int .i64 b) ∧ w'.cell? ⟨w.heap.size, 5, none⟩ = some (.int .i64 r))
    (first | exact ⟨m1, m2, m3, m5⟩ | exact ⟨j1, j2, j3, j5⟩ | exact ⟨k1, k2, k3, k5⟩ | go_keep)
    (first
    | (go_at_call 49; go_must ((refine (HS.out _).mono ?_); rintro r w1 ⟨rfl, c1, l1, b1⟩; have k1 := keeps b1 m1; have k2 := keeps b1 m2; have k3 := keeps b1 m3; have k5 := keeps b1 m5; have B1 := hid (show Below W.heap.size W w1 from undrew b1)))
    | (go_at_call 48; go_must ((refine (HL.out _ _ c1).mono ?_); rintro r w2 ⟨d, rfl, d1, R1, b2⟩; have j1 := keeps b2 k1; have j2 := keeps b2 k2; have j3 := keeps b2 k3; have j5 := keeps b2 k5; have B2 := hid b2; have R1 := hid R1; have d1 := hid d1)))
  all_goals
    have q1 := B0.out.size
    have q2 := B1.out.size
    have q3 := B2.out.size
    go_wp2_with fail
    go_ret
    exact ⟨w2.heap.size, d, rfl, by omega, by have := d1.out; omega, Ne.symm (Nat.ne_of_lt R1.out.lt), heap_alloc_new w2 _, R1.out.below ((Below.refl _ _).alloc (Nat.le_refl _) _), (bel3 B0.out B1.out B2.out).alloc (by omega) _⟩
set_option maxRecDepth 10000 in
set_option maxHeartbeats 1000000 in
theorem spread_any (j : Nat) (hj : j < 32) (w : World) (kn : KnIs w) : Calls Tryz.prog 51 #[.int .i64 (j : Nat)] w fun e w' => e = .returned (.agg #[.int .i32 (sq ((j : Nat) * 132 - 2047) * 1024), .int .i32 0]) ∧ Below w.heap.size w w' := by
  obtain ⟨x, hx⟩ : ∃ x : Int, (j : Int) * 132 - 2047 = x := ⟨_, rfl⟩
  have HQ := hid (fun w' k => squash_below x w' k (by omega) (by omega))
  have hs := sq_range x
  have e1 : IntKind.i64.wrap ((j : Int) * 132) = (j : Int) * 132 := IntWalk.i64_in _ (by omega)
  have e2 : IntKind.i64.wrap ((j : Int) * 132 - 2047) = x := by rw [hx]; exact IntWalk.i64_in _ (by omega)
  rw [hx]
  generalize sq x = q at *
  have e3 : IntKind.i64.wrap (q * 1024) = q * 1024 := IntWalk.i64_in _ (by omega)
  have e4 : IntKind.i32.wrap (q * 1024) = q * 1024 := IntWalk.i32_in _ (by omega)
  have z1 : (j : Int) < 32 := by omega
  have K0 : ∀ o, KnIs (w.alloc o) := fun o => kn.below ((Below.refl _ _).alloc (Nat.le_refl _) o)
  have HK := hid K0
  clear hx K0 hj
  go_enter Tryz.func51, Tryz.ntmps51
  go_wp2_with fail
  refine (HQ.out _ (HK.out _)).mono ?_
  rintro e w2 ⟨rfl, b2⟩
  have row : w2.heap[w.heap.size]? = some (.cells #[.int .i32 0, .int .i32 0] 95 (0, 0)) := (b2.block w.heap.size (by simp)).trans (heap_alloc_new w _)
  have r0 : w2.cell? ⟨w.heap.size, 0, none⟩ = some (.int .i32 0) := row_cell row 0
  have r1 : w2.cell? ⟨w.heap.size, 1, none⟩ = some (.int .i32 0) := row_cell row 1
  have f0 : w2.frozen? ⟨w.heap.size, 0, none⟩ = false := row_free row 0
  have f1 : w2.frozen? ⟨w.heap.size, 1, none⟩ = false := row_free row 1
  have x3 := ((But.refl (· = w.heap.size) w2).set ⟨w.heap.size, 0, none⟩ (.int .i32 (q * 1024)) (.inl rfl)).set ⟨w.heap.size, 1, none⟩ (.int .i32 0) (.inl rfl)
  have X3 := hid x3
  have B2 := hid (bel_alo b2)
  have HRow := hid row
  clear x3 row b2
  go_wp2_with fail
  refine bodyPost_ret (results_cell_row (by kernel_rfl : Tryz.f51.results = #[.cell 2 95]) _ _ w.heap.size 95 #[.int .i32 (q * 1024), .int .i32 0] (0, 0) _ rfl (row_set (row_set HRow.out 0 _) 1 _) Tryz.underlying95 rfl rfl) rfl ⟨rfl, ?_⟩
  exact B2.out.trans (X3.out.below (fun k e => by rw [e]; exact Nat.le_refl _) B2.out.size)
set_option maxRecDepth 10000 in
set_option maxHeartbeats 1000000 in
theorem build_sse (s : Nat) (a b c r m : Int) (w : World) (hs : s ≤ 16) (kn : KnIs w) : Calls Tryz.prog 26 #[vP 9 s a b c r m] w fun e w' => ∃ g d, e = .returned (.iface 118 (pt g)) ∧ w.heap.size ≤ g ∧ w.heap.size ≤ d ∧ g ≠ d ∧
    w'.heap[g]? = some (.cells #[.int .i64 (s : Nat), .int .i64 32, sl d (32 * 2 ^ s), .int .i64 a, .int .i64 m] 120 (0, 0)) ∧ Ro w' d 95 (2 * (32 * 2 ^ s)) (fun k => if k % 2 = 0 then .int .i32 (sq (((k / 2 % 32 : Nat) : Int) * 132 - 2047) * 1024) else .int .i32 0) ∧ Below w.heap.size w w' := by
  have HL : Hid (∀ w', KnIs w' → Calls Tryz.prog 45 #[.int .i64 s, .int .i64 32, .func (.func 51) #[] #[]] w' fun e w'' => ∃ d, e = .returned (.agg #[.int .i64 s, .int .i64 32, .slice (some ⟨d, 0, none⟩) (32 * 2 ^ s) (32 * 2 ^ s)]) ∧ w'.heap.size ≤ d ∧
      Ro w'' d 95 (2 * (32 * 2 ^ s)) (fun k => if k % 2 = 0 then .int .i32 (sq (((k / 2 % 32 : Nat) : Int) * 132 - 2047) * 1024) else .int .i32 0) ∧ Below w'.heap.size w' w'') := hid fun w' k =>
    lay_o s 32 51 (fun j => sq ((j : Nat) * 132 - 2047) * 1024) hs (by omega) w' (enters_of Tryz.func51 (by kernel_rfl) rfl) (fun j hj w2 b2 => spread_any j hj w2 (k.below b2))
  generalize 32 * 2 ^ s = n at *
  generalize (fun k => if k % 2 = 0 then Value.int .i32 (sq (((k / 2 % 32 : Nat) : Int) * 132 - 2047) * 1024) else .int .i32 0) = F at *
  have hs1 : (s : Int) ≤ 16 := by omega
  obtain ⟨W, hW⟩ : ∃ W, W = w.alloc (.cells #[.int .u8 9, .int .i64 s, .int .i64 a, .int .i64 b, .int .i64 c, .int .i64 r, .int .i64 m] 38) := ⟨_, rfl⟩
  have b0 : Below w.heap.size w W := by rw [hW]; exact (Below.refl _ _).alloc (Nat.le_refl _) _
  have m1 : W.cell? ⟨w.heap.size, 1, none⟩ = some (.int .i64 s) := by rw [hW]; go_simp
  have m2 : W.cell? ⟨w.heap.size, 2, none⟩ = some (.int .i64 a) := by rw [hW]; go_simp
  have m6 : W.cell? ⟨w.heap.size, 6, none⟩ = some (.int .i64 m) := by rw [hW]; go_simp
  have m0 : W.cell? ⟨w.heap.size, 0, none⟩ = some (.int .u8 9) := by rw [hW]; go_simp
  have B0 := hid b0
  have KW := hid (kn.below b0)
  clear b0 kn
  unfold vP
  unfold pt sl at *
  go_enter Tryz.func26, Tryz.ntmps26
  go_wp2_with (rw [← hW])
  clear hW
  go_region_held3 (fun w' => w'.cell? ⟨w.heap.size, 1, none⟩ = some (.int .i64 s) ∧ w'.cell? ⟨w.heap.size, 2, none⟩ = some (.int .i64 a) ∧ w'.cell? ⟨w.heap.size, 6, none⟩ = some (.int .i64 m))
    (first | exact ⟨m1, m2, m6⟩ | exact ⟨k1, k2, k6⟩ | go_keep)
    (first
    | (go_at_call 45; go_must ((refine (HL.out _ KW.out.drew').mono ?_); rintro r w1 ⟨d, rfl, d1, R1, b1⟩; have k1 := keeps b1 m1; have k2 := keeps b1 m2; have k6 := keeps b1 m6; have B1 := hid (show Below W.heap.size W w1 from undrew b1); have R1 := hid R1; have d1 := hid (show W.heap.size ≤ d from d1))))
  all_goals
    have q1 := B0.out.size
    have q2 := B1.out.size
    go_wp2_with fail
    go_ret
    exact ⟨w1.heap.size, d, rfl, by omega, by have := d1.out; omega, Ne.symm (Nat.ne_of_lt R1.out.lt), heap_alloc_new w1 _, R1.out.below ((Below.refl _ _).alloc (Nat.le_refl _) _), (bel2 B0.out B1.out).alloc (by omega) _⟩
end Go.Proofs.YtkfdbibgjoaefaaGreatDoor
/-
  build: PAvg, PMix2, PMix, PSse: parts as they begin.
-/
namespace Go.Proofs.YtkfdbibgjoaefaaGreatDoor
open Go.RowKit

theorem begun5 {p : Pt} (hk : p.kind = 5) : begun p = { p := p } := by unfold begun; rw [if_neg (by omega), if_neg (by omega), if_neg (by omega), if_neg (by omega), if_neg (by omega), if_neg (by omega), if_neg (by omega)]
theorem begun6 {p : Pt} (hk : p.kind = 6) : begun p = { p := p, weight := List.replicate (pw p.size) 32768 } := by unfold begun; rw [if_neg (by omega), if_neg (by omega), if_neg (by omega), if_pos hk]
theorem begun7 {p : Pt} (hk : p.kind = 7) : begun p = { p := p, weight := List.replicate (pw p.size * p.b.toNat) (65536 / p.b) } := by unfold begun; rw [if_neg (by omega), if_neg (by omega), if_neg (by omega), if_neg (by omega), if_pos hk]
theorem begun9 {p : Pt} (hk : p.kind = 9) : begun p = { p := p, chance := (List.range (pw p.size * 32)).map (fun i => sq ((i % 32 : Nat) * 132 - 2047) * 1024), count := List.replicate (pw p.size * 32) 0 } := by unfold begun; rw [if_neg (by omega), if_neg (by omega), if_neg (by omega), if_neg (by omega), if_neg (by omega), if_neg (by omega), if_pos hk]
theorem buildK5 : BuildK 5 := by
  intro p i w hk ho kn
  unfold vPt
  rw [hk]
  refine (build_avg p.size p.a p.b p.c p.rate p.limit w).mono ?_
  rintro e w' ⟨rfl, b⟩
  exact ⟨_, _, rfl, .avg (by rw [begun_k]; exact hk) (by rw [begun_k]), b⟩
theorem buildK6 : BuildK 6 := by
  intro p i w hk ho kn
  obtain ⟨⟨s0, s1⟩, _⟩ := one_mix2 ho hk
  obtain ⟨s, hs, s16, hp⟩ := pw_nat p.size s0 s1
  unfold vPt
  rw [hk, hs]
  refine (build_mix2 s p.a p.b p.c p.rate p.limit w s16).mono ?_
  rintro e w' ⟨g, d, rfl, g1, d1, nd, hg, hd, b⟩
  rw [Nat.one_mul] at hg hd
  refine ⟨_, _, rfl, ?_, b⟩
  rw [begun6 hk]
  refine .mix2 hk g d rfl ⟨g1, lt_of_heap hg⟩ ⟨d1, hd.lt⟩ nd ?_ ?_
  · show w'.heap[g]? = some (.cells #[.int .i64 p.size, .int .i64 1, sl d (pw p.size), .int .i64 p.a, .int .i64 p.b, .int .i64 p.rate] 112 (0, 0))
    rw [hp, hs]; exact hg
  · show Ro w' d 3 (pw p.size) (intsF (List.replicate (pw p.size) 32768))
    rw [hp]
    refine hd.same fun k hk2 => ?_
    unfold intsF
    rw [rep_getD _ _ _ _ hk2]
theorem buildK7 : BuildK 7 := by
  intro p i w hk ho kn
  obtain ⟨⟨s0, s1⟩, ⟨b1, b8⟩, _⟩ := one_mix ho hk
  obtain ⟨s, hs, s16, hp⟩ := pw_nat p.size s0 (by omega)
  obtain ⟨kb, eb⟩ : ∃ k : Nat, p.b = (k : Int) := ⟨p.b.toNat, by omega⟩
  have eb2 : p.b.toNat = kb := by omega
  unfold vPt
  rw [hk, hs, eb]
  refine (build_mix s p.a p.c p.rate p.limit kb w s16 (by omega)).mono ?_
  rintro e w' ⟨g, d, rfl, g1, d1, nd, hg, hd, b⟩
  rw [Nat.mul_comm kb] at hg hd
  refine ⟨_, _, rfl, ?_, b⟩
  rw [begun7 hk]
  refine .mix hk g d rfl ⟨g1, lt_of_heap hg⟩ ⟨d1, hd.lt⟩ nd ?_ ?_
  · show w'.heap[g]? = some (.cells #[.int .i64 p.size, .int .i64 p.b, sl d (pw p.size * p.b.toNat), .int .i64 p.a, .int .i64 p.rate] 115 (0, 0))
    rw [hp, hs, eb2, eb]; exact hg
  · show Ro w' d 3 (pw p.size * p.b.toNat) (intsF (List.replicate (pw p.size * p.b.toNat) (65536 / p.b)))
    rw [hp, eb2, eb]
    refine hd.same fun k hk2 => ?_
    unfold intsF
    rw [rep_getD _ _ _ _ hk2]
theorem buildK9 : BuildK 9 := by
  intro p i w hk ho kn
  obtain ⟨⟨s0, s1⟩, _⟩ := one_sse ho hk
  obtain ⟨s, hs, s16, hp⟩ := pw_nat p.size s0 (by omega)
  unfold vPt
  rw [hk, hs]
  refine (build_sse s p.a p.b p.c p.rate p.limit w s16 kn).mono ?_
  rintro e w' ⟨g, d, rfl, g1, d1, nd, hg, hd, b⟩
  rw [Nat.mul_comm 32] at hg hd
  refine ⟨_, _, rfl, ?_, b⟩
  rw [begun9 hk]
  refine .sse hk g d rfl ⟨g1, lt_of_heap hg⟩ ⟨d1, hd.lt⟩ nd ?_ ?_
  · show w'.heap[g]? = some (.cells #[.int .i64 p.size, .int .i64 32, sl d (pw p.size * 32), .int .i64 p.a, .int .i64 p.limit] 120 (0, 0))
    rw [hp, hs]; exact hg
  · show Ro w' d 95 (2 * (pw p.size * 32)) (oddsF ((List.range (pw p.size * 32)).map (fun i => sq ((i % 32 : Nat) * 132 - 2047) * 1024)) (List.replicate (pw p.size * 32) 0))
    rw [hp]
    refine hd.same fun k hk2 => ?_
    unfold oddsF
    by_cases e : k % 2 = 0
    · rw [if_pos e, if_pos e, range_get _ _ _ (by omega)]
    · rw [if_neg e, if_neg e, rep_getD _ _ _ _ (by omega)]
end Go.Proofs.YtkfdbibgjoaefaaGreatDoor
/-
  build: a PIsse as it begins.
-/
namespace Go.Proofs.YtkfdbibgjoaefaaGreatDoor
open Go.RowKit

theorem z123 : Tryz.zeroCells144 = (fL 516 (fun k => if k = 2 then .slice none 0 0 else .int .i64 0)).toArray := by kernel_rfl
def w8P (i : Nat) : List Int := (List.range 512).map (fun k => if k % 2 = 0 ∧ k < 2 * i then 65536 else 0)
theorem w8P_end : w8P 256 = w8 := by decide +kernel
theorem w8P_get (i k : Nat) (h : k < 512) : (w8P i).getD k 0 = if k % 2 = 0 ∧ k < 2 * i then 65536 else 0 := range_get 512 k _ h
set_option maxRecDepth 10000 in
set_option maxHeartbeats 4000000 in
theorem newIsse_any (s : Nat) (a : Int) (w : World) (hs : s ≤ 16) : Calls Tryz.prog 50 #[.int .i64 (s : Nat), .int .i64 a] w fun e w' => ∃ g d, e = .returned (pt g) ∧ w.heap.size ≤ g ∧ w.heap.size ≤ d ∧ g ≠ d ∧
    Ro w' g 144 516 (isF s a d (2 ^ s) w8) ∧ Ro w' d 5 (2 ^ s) (fun _ => .int .u8 0) ∧ Below w.heap.size w w' := by
  have HS := hid (fun w' => same_b 0 w')
  have HL : Hid (∀ g w', w'.cell? ⟨g, 0, none⟩ = some (.int .u8 0) → g < w'.heap.size → Calls Tryz.prog 66 #[.int .i64 s, .int .i64 1, .func (.func 75) #[] #[.pointer (some ⟨g, 0, none⟩)]] w' fun e w'' => ∃ d, e = .returned (.agg #[.int .i64 s, .int .i64 1, .slice (some ⟨d, 0, none⟩) (2 ^ s) (2 ^ s)]) ∧ w'.heap.size ≤ d ∧
      Ro w'' d 5 (2 ^ s) (fun _ => .int .u8 0) ∧ Below w'.heap.size w' w'') := hid fun g w' h hg => by
    have := lay_b s 1 75 (pt g) (fun _ => 0) hs (by omega) w' (enters_of Tryz.func75 (by kernel_rfl) rfl) (fun j _ w2 b2 => same_b1 g j 0 w2 (keeps b2 h))
    rw [show 1 * 2 ^ s = 2 ^ s from Nat.one_mul _] at this
    exact this
  generalize 2 ^ s = n at *
  unfold pt at *
  go_enter Tryz.func50, Tryz.ntmps50
  go_wp2_with fail
  refine (HS.out _).mono ?_
  rintro r w1 ⟨rfl, c1, l1, b1⟩
  go_wp2_with fail
  refine (HL.out _ _ c1 l1).mono ?_
  rintro r w2 ⟨d, rfl, d2, r2, b2⟩
  clear HS HL
  go_wp2_with fail
  obtain ⟨W, hW⟩ : ∃ W, W = w2.alloc (Obj.cells ((((Tryz.zeroCells144.setIfInBounds 0 (Value.int IntKind.i64 s)).setIfInBounds 1 (Value.int IntKind.i64 1)).setIfInBounds 2 (Value.slice (some ⟨d, 0, none⟩) n n)).setIfInBounds 515 (Value.int IntKind.i64 a)) 144) := ⟨_, rfl⟩
  rw [← hW]
  have q1 : Ro W w2.heap.size 144 516 (isF s a d n (w8P 0)) := by
    have : W.heap[w2.heap.size]? = some (.cells ((((Tryz.zeroCells144.setIfInBounds 0 (Value.int IntKind.i64 s)).setIfInBounds 1 (Value.int IntKind.i64 1)).setIfInBounds 2 (Value.slice (some ⟨d, 0, none⟩) n n)).setIfInBounds 515 (Value.int IntKind.i64 a)) 144 (0, 0)) := by rw [hW]; exact heap_alloc_new w2 _
    rw [z123, fL_setA, fL_setA, fL_setA, fL_setA] at this
    refine Ro.same this (fun k hk => ?_)
    unfold isF sl
    by_cases e5 : k = 515
    · rw [if_pos e5, if_neg (by omega), if_neg (by omega), if_neg (by omega), if_pos e5]
    · rw [if_neg e5]
      by_cases e2 : k = 2
      · rw [if_pos e2, if_neg (by omega), if_neg (by omega), if_pos e2]
      · rw [if_neg e2]
        by_cases e1 : k = 1
        · rw [if_pos e1, if_neg (by omega), if_pos e1]
        · rw [if_neg e1]
          by_cases e0 : k = 0
          · rw [if_pos e0, if_pos e0]
          · rw [if_neg e0, if_neg e0, if_neg e1, if_neg e2, if_neg e2, if_neg e5, w8P_get _ _ (by omega), if_neg (by omega)]
  have b3 : Below w2.heap.size w2 W := by rw [hW]; exact (Below.refl _ _).alloc (Nat.le_refl _) _
  have q2 : Ro W d 5 n (fun _ => .int .u8 0) := r2.below b3
  have nd : ¬ d = w2.heap.size := Nat.ne_of_lt r2.lt
  have d1 : w.heap.size ≤ d := Nat.le_trans b1.size d2
  have g1 : w.heap.size ≤ w2.heap.size := Nat.le_trans b1.size b2.size
  have q3 : Below w.heap.size w W := bel3 b1 b2 b3
  clear hW b3 r2 d2 b2 b1 l1 c1
  generalize w2.heap.size = g at *
  go_loopw [13] (fun vi wr => ∃ i : Nat, i ≤ 256 ∧ vi = .int .i64 i ∧ Below w.heap.size w wr ∧ Ro wr g 144 516 (isF s a d n (w8P i)) ∧ Ro wr d 5 n (fun _ => .int .u8 0)) (fun vi _ => 256 - (intOf vi).toNat)
  case atStart => exact ⟨0, Nat.zero_le _, rfl, q3, q1, q2⟩
  case round =>
    obtain ⟨i, hi, rfl, hb, hr, hd⟩ := hrel
    clear q1 q2 q3
    by_cases hgo : i < 256
    · have hz : (i : Int) < 256 := by omega
      have f1 := hr.free (3 + i * 2)
      have l1 := hr.cell (3 + i * 2) (by omega)
      have x2 := (But.refl (· = g) wr).set ⟨g, 3 + i * 2, none⟩ (.int .i64 65536) (.inl rfl)
      have HB := hid hb
      have HR := hid hr
      have HD := hid hd
      have X2 := hid x2
      clear hb hr hd x2
      go_wp2_with fail
      refine ⟨⟨i + 1, by omega, by go_num, HB.out.trans (X2.out.below (fun k e => by rw [e]; exact g1) HB.out.size), (HR.out.set (3 + i * 2) _).same (fun k hk => ?_), HD.out.on X2.out nd⟩, by simp [intOf]; omega⟩
      unfold isF
      by_cases e : k = 3 + i * 2
      · rw [if_pos e, if_neg (by omega), if_neg (by omega), if_neg (by omega), if_neg (by omega), w8P_get _ _ (by omega), if_pos (by omega)]
      · rw [if_neg e]
        by_cases e0 : k = 0
        · rw [if_pos e0, if_pos e0]
        · rw [if_neg e0, if_neg e0]
          by_cases e1 : k = 1
          · rw [if_pos e1, if_pos e1]
          · rw [if_neg e1, if_neg e1]
            by_cases e2 : k = 2
            · rw [if_pos e2, if_pos e2]
            · rw [if_neg e2, if_neg e2]
              by_cases e5 : k = 515
              · rw [if_pos e5, if_pos e5]
              · rw [if_neg e5, if_neg e5, w8P_get _ _ (by omega), w8P_get _ _ (by omega)]
                by_cases e3 : (k - 3) % 2 = 0 ∧ k - 3 < 2 * i
                · rw [if_pos e3, if_pos (by omega)]
                · rw [if_neg e3, if_neg (by omega)]
    · obtain rfl : i = 256 := by omega
      rw [w8P_end] at hr
      go_wp2_with fail
      go_ret
      exact ⟨g, d, rfl, g1, d1, Ne.symm nd, hr, hd, hb⟩
set_option maxRecDepth 10000 in
set_option maxHeartbeats 1000000 in
theorem build_isse (s : Nat) (a b c r m : Int) (w : World) (hs : s ≤ 16) : Calls Tryz.prog 26 #[vP 8 s a b c r m] w fun e w' => ∃ g d, e = .returned (.iface 116 (pt g)) ∧ w.heap.size ≤ g ∧ w.heap.size ≤ d ∧ g ≠ d ∧
    Ro w' g 144 516 (isF s a d (2 ^ s) w8) ∧ Ro w' d 5 (2 ^ s) (fun _ => .int .u8 0) ∧ Below w.heap.size w w' := by
  have HL := hid (fun w' => newIsse_any s a w' hs)
  generalize 2 ^ s = n at *
  generalize w8 = ch at *
  obtain ⟨W, hW⟩ : ∃ W, W = w.alloc (.cells #[.int .u8 8, .int .i64 s, .int .i64 a, .int .i64 b, .int .i64 c, .int .i64 r, .int .i64 m] 38) := ⟨_, rfl⟩
  have b0 : Below w.heap.size w W := by rw [hW]; exact (Below.refl _ _).alloc (Nat.le_refl _) _
  have m1 : W.cell? ⟨w.heap.size, 1, none⟩ = some (.int .i64 s) := by rw [hW]; go_simp
  have m2 : W.cell? ⟨w.heap.size, 2, none⟩ = some (.int .i64 a) := by rw [hW]; go_simp
  have m0 : W.cell? ⟨w.heap.size, 0, none⟩ = some (.int .u8 8) := by rw [hW]; go_simp
  unfold vP
  unfold pt at *
  go_enter Tryz.func26, Tryz.ntmps26
  go_wp2_with (rw [← hW])
  clear hW
  refine (HL.out _).mono ?_
  rintro r w1 ⟨g, d, rfl, g1, d1, nd, r1, r2, b1⟩
  go_wp2_with fail
  go_ret
  exact ⟨g, d, rfl, Nat.le_trans b0.size g1, Nat.le_trans b0.size d1, nd, r1, r2, bel2 b0 b1⟩
theorem begun8 {p : Pt} (hk : p.kind = 8) : begun p = { p := p, state := List.replicate (pw p.size) 0, weight := w8 } := by unfold begun; rw [if_neg (by omega), if_neg (by omega), if_neg (by omega), if_neg (by omega), if_neg (by omega), if_pos hk]
theorem buildK8 : BuildK 8 := by
  intro p i w hk ho kn
  obtain ⟨⟨s0, s1⟩, _⟩ := one_isse ho hk
  obtain ⟨s, hs, s16, hp⟩ := pw_nat p.size s0 s1
  unfold vPt
  rw [hk, hs]
  refine (build_isse s p.a p.b p.c p.rate p.limit w s16).mono ?_
  rintro e w' ⟨g, d, rfl, g1, d1, nd, hg, hd, b⟩
  refine ⟨_, _, rfl, ?_, b⟩
  rw [begun8 hk]
  refine .isse hk g d rfl ⟨g1, hg.lt⟩ ⟨d1, hd.lt⟩ nd ?_ ?_
  · show Ro w' g 144 516 (isF p.size p.a d (pw p.size) w8)
    rw [hp, hs]; exact hg
  · show Ro w' d 5 (pw p.size) (bytesF (List.replicate (pw p.size) 0))
    rw [hp]
    refine hd.same fun k hk2 => ?_
    unfold bytesF
    rw [rep_getD _ _ _ _ hk2]
    rfl
end Go.Proofs.YtkfdbibgjoaefaaGreatDoor
