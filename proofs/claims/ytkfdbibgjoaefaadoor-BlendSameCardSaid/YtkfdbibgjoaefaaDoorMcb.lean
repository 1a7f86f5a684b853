/-
  A byte begins for a PMatch: a match is looked for.
-/
import Derived.Test.YtkfdbibgjoaefaaDoorZl
import Derived.Test.YtkfdbibgjoaefaaDoorMce
import Derived.Test.YtkfdbibgjoaefaaDoorZi
namespace Go.Proofs.YtkfdbibgjoaefaaDoor
open Go.RowKit

theorem natsF_set {l : List Nat} {n i : Nat} {x : Nat} (_hi : i < n) (hl : l.length = n) : ∀ k, k < n → (fun k => if k = i then Value.int .i64 (x : Nat) else natsF l k) k = natsF (l.set i x) k := by
  intro k hk
  show (if k = i then Value.int .i64 (x : Nat) else natsF l k) = _
  unfold natsF
  rw [getD_set _ _ _ _ _ (by omega)]
  by_cases e : k = i
  · rw [if_pos e, if_pos e.symm]
  · rw [if_neg e, if_neg (Ne.symm e)]
set_option maxRecDepth 10000 in
set_option maxHeartbeats 2000000 in
theorem w_mch_begin_n1 (g dr ds pos len wh h q : Nat) (size : Int) (ring number : List Nat) (w : World) (n1 : g ≠ dr) (n2 : g ≠ ds) (n3 : dr ≠ ds) (hh : h < 4294967296) (s0 : 0 ≤ size) (s1 : size ≤ 16) (hg : Ro w g 95 7 (maF size dr (pw size) ds wh pos len)) (hd : Ro w dr 5 (pw size) (bytesF ring)) (hs : Ro w ds 3 (pw size) (natsF number)) (hl : number.length = pw size) (_hlen : len ≤ 32) (_hwh : wh < 4294967296) (hq : number.getD (placeN h 1 size) 0 = q) (_hqw : q ≤ wh) (h0l : len ≠ 0) :
    Calls Tryd.prog 78 #[pt g, .int .u32 (h : Nat)] w fun e w' => e = .returned (.tuple #[]) ∧ Ro w' g 95 7 (maF size dr (pw size) ds wh pos len) ∧ Ro w' dr 5 (pw size) (bytesF ring) ∧ Ro w' ds 3 (pw size) (natsF (number.set (placeN h 1 size) wh)) ∧ But (fun k => k = g ∨ k = ds) w w' := by
  obtain ⟨s, rfl, s16, hp⟩ := pw_nat size s0 s1
  have hpl := placeN_lt h 1 s s0 (by omega)
  have ha2 : placeN h 1 s < pw s := hpl
  have hpw := pw_le s s1
  have hpp := pw_pos s
  rw [hp] at hg hd hs hl ha2 hpw hpp ⊢
  have HA : Hid (∀ w', Calls Tryd.prog 81 #[.agg #[.int .i64 s, .int .i64 1, .slice (some ⟨ds, 0, none⟩) (2 ^ s) (2 ^ s)], .agg #[.int .u32 h, .int .u32 1, .slice none 0 0]] w' fun e w'' =>
      e = .returned (.slice (some ⟨ds, placeN h 1 s * 1, none⟩) 1 (2 ^ s - placeN h 1 s * 1)) ∧ Below w'.heap.size w' w'') := hid (fun w' => at_i ds h 1 s 1 (2 ^ s) 0 0 none w' hh (by omega) s16 (by omega) (by omega))
  rw [Nat.mul_one] at HA
  have c0 := hs.cell (placeN h 1 s) (by omega)
  unfold natsF at c0
  rw [hq] at c0
  generalize placeN h 1 s = pl at *
  obtain ⟨n, hn⟩ : ∃ n, 2 ^ s = n := ⟨_, rfl⟩
  rw [hn] at HA hg hd hs hl ha2 hpw hpp ⊢
  generalize n - pl = qq at HA
  have HN := hid (fun (w' : World) (b : Ro w' ds 3 n (natsF number)) => (b.set pl (.int .i64 (wh : Nat))).same (natsF_set ha2 hl))
  have g1 : w.cell? ⟨g, 1, none⟩ = some (.int .i64 s) := hg.cell 1 (by omega)
  have g2 : w.cell? ⟨g, 2, none⟩ = some (.int .i64 1) := hg.cell 2 (by omega)
  have g3 : w.cell? ⟨g, 3, none⟩ = some (.slice (some ⟨ds, 0, none⟩) n n) := hg.cell 3 (by omega)
  have g6 : w.cell? ⟨g, 6, none⟩ = some (.int .i64 (len : Nat)) := hg.cell 6 (by omega)
  have HG := hid hg
  have HD := hid hd
  have HSS := hid hs
  have n4 : ¬ ds = g := Ne.symm n2
  have n5 : ¬ dr = g := Ne.symm n1
  have n6 : ¬ ds = dr := Ne.symm n3
  clear hg hd hs hp hn hpl hl hq
  unfold pt at *
  go_enter Tryd.func78, Tryd.ntmps78
  go_wp2_with fail
  refine (HA.out _).mono ?_
  rintro r w1 ⟨rfl, b1⟩
  have G1 := hid (HG.out.below b1)
  have D1 := hid (HD.out.below b1)
  have S1 := hid (HSS.out.below b1)
  have e6 := keeps b1 g6
  have ec := keeps b1 c0
  have B1 := hid b1
  clear b1 g1 g2 g3 g6 c0 HA
  have e4 : w1.cell? ⟨g, 4, none⟩ = some (.int .i64 (wh : Nat)) := G1.out.cell 4 (by omega)
  have fp := S1.out.free pl
  have x2 := (But.of_below (S := (fun k => k = g ∨ k = ds)) B1.out).set ⟨ds, pl, none⟩ (.int .i64 (wh : Nat)) (.inl (.inr rfl))
  have y2 := (But.refl (· = ds) w1).set ⟨ds, pl, none⟩ (.int .i64 (wh : Nat)) (.inl rfl)
  have G2 := hid (G1.out.on y2 n2)
  have D2 := hid (D1.out.on y2 n3)
  have X2 := hid x2
  clear x2 y2
  have zl : ¬ (len : Int) = 0 := by omega
  go_wp2_with fail
  refine bodyPost_end (results_none rfl _ _ _) rfl ⟨rfl, G2.out, D2.out, HN.out _ S1.out, X2.out⟩
set_option maxRecDepth 10000 in
set_option maxHeartbeats 2000000 in
theorem w_mch_begin_n2 (g dr ds pos len wh h q : Nat) (size : Int) (ring number : List Nat) (w : World) (n1 : g ≠ dr) (n2 : g ≠ ds) (n3 : dr ≠ ds) (hh : h < 4294967296) (s0 : 0 ≤ size) (s1 : size ≤ 16) (hg : Ro w g 95 7 (maF size dr (pw size) ds wh pos len)) (hd : Ro w dr 5 (pw size) (bytesF ring)) (hs : Ro w ds 3 (pw size) (natsF number)) (hl : number.length = pw size) (hlen : len ≤ 32) (_hwh : wh < 4294967296) (hq : number.getD (placeN h 1 size) 0 = q) (hqw : q ≤ wh) (h0l : len = 0) (hq0 : q = 0) :
    Calls Tryd.prog 78 #[pt g, .int .u32 (h : Nat)] w fun e w' => e = .returned (.tuple #[]) ∧ Ro w' g 95 7 (maF size dr (pw size) ds wh pos len) ∧ Ro w' dr 5 (pw size) (bytesF ring) ∧ Ro w' ds 3 (pw size) (natsF (number.set (placeN h 1 size) wh)) ∧ But (fun k => k = g ∨ k = ds) w w' := by
  obtain ⟨s, rfl, s16, hp⟩ := pw_nat size s0 s1
  have hpl := placeN_lt h 1 s s0 (by omega)
  have ha2 : placeN h 1 s < pw s := hpl
  have hpw := pw_le s s1
  have hpp := pw_pos s
  rw [hp] at hg hd hs hl ha2 hpw hpp ⊢
  have HA : Hid (∀ w', Calls Tryd.prog 81 #[.agg #[.int .i64 s, .int .i64 1, .slice (some ⟨ds, 0, none⟩) (2 ^ s) (2 ^ s)], .agg #[.int .u32 h, .int .u32 1, .slice none 0 0]] w' fun e w'' =>
      e = .returned (.slice (some ⟨ds, placeN h 1 s * 1, none⟩) 1 (2 ^ s - placeN h 1 s * 1)) ∧ Below w'.heap.size w' w'') := hid (fun w' => at_i ds h 1 s 1 (2 ^ s) 0 0 none w' hh (by omega) s16 (by omega) (by omega))
  rw [Nat.mul_one] at HA
  have c0 := hs.cell (placeN h 1 s) (by omega)
  unfold natsF at c0
  rw [hq] at c0
  generalize placeN h 1 s = pl at *
  obtain ⟨n, hn⟩ : ∃ n, 2 ^ s = n := ⟨_, rfl⟩
  rw [hn] at HA hg hd hs hl ha2 hpw hpp ⊢
  generalize n - pl = qq at HA
  have HN := hid (fun (w' : World) (b : Ro w' ds 3 n (natsF number)) => (b.set pl (.int .i64 (wh : Nat))).same (natsF_set ha2 hl))
  have g1 : w.cell? ⟨g, 1, none⟩ = some (.int .i64 s) := hg.cell 1 (by omega)
  have g2 : w.cell? ⟨g, 2, none⟩ = some (.int .i64 1) := hg.cell 2 (by omega)
  have g3 : w.cell? ⟨g, 3, none⟩ = some (.slice (some ⟨ds, 0, none⟩) n n) := hg.cell 3 (by omega)
  have g6 : w.cell? ⟨g, 6, none⟩ = some (.int .i64 (len : Nat)) := hg.cell 6 (by omega)
  have HG := hid hg
  have HD := hid hd
  have HSS := hid hs
  have n4 : ¬ ds = g := Ne.symm n2
  have n5 : ¬ dr = g := Ne.symm n1
  have n6 : ¬ ds = dr := Ne.symm n3
  clear hg hd hs hp hn hpl hl hq
  unfold pt at *
  go_enter Tryd.func78, Tryd.ntmps78
  go_wp2_with fail
  refine (HA.out _).mono ?_
  rintro r w1 ⟨rfl, b1⟩
  have G1 := hid (HG.out.below b1)
  have D1 := hid (HD.out.below b1)
  have S1 := hid (HSS.out.below b1)
  have e6 := keeps b1 g6
  have ec := keeps b1 c0
  have B1 := hid b1
  clear b1 g1 g2 g3 g6 c0 HA
  have e4 : w1.cell? ⟨g, 4, none⟩ = some (.int .i64 (wh : Nat)) := G1.out.cell 4 (by omega)
  have fp := S1.out.free pl
  have x2 := (But.of_below (S := (fun k => k = g ∨ k = ds)) B1.out).set ⟨ds, pl, none⟩ (.int .i64 (wh : Nat)) (.inl (.inr rfl))
  have y2 := (But.refl (· = ds) w1).set ⟨ds, pl, none⟩ (.int .i64 (wh : Nat)) (.inl rfl)
  have G2 := hid (G1.out.on y2 n2)
  have D2 := hid (D1.out.on y2 n3)
  have X2 := hid x2
  clear x2 y2
  subst h0l
  subst hq0
  go_wp2_with fail
  refine bodyPost_end (results_none rfl _ _ _) rfl ⟨rfl, G2.out, D2.out, HN.out _ S1.out, X2.out⟩
set_option maxRecDepth 10000 in
set_option maxHeartbeats 2000000 in
theorem w_mch_begin_y (g dr ds pos len wh h q : Nat) (size : Int) (ring number : List Nat) (w : World) (n1 : g ≠ dr) (n2 : g ≠ ds) (n3 : dr ≠ ds) (hh : h < 4294967296) (s0 : 0 ≤ size) (s1 : size ≤ 16) (hg : Ro w g 95 7 (maF size dr (pw size) ds wh pos len)) (hd : Ro w dr 5 (pw size) (bytesF ring)) (hs : Ro w ds 3 (pw size) (natsF number)) (hl : number.length = pw size) (_hlen : len ≤ 32) (hwh : wh < 4294967296) (hq : number.getD (placeN h 1 size) 0 = q) (hqw : q ≤ wh) (h0l : len = 0) (hq0 : q ≠ 0) :
    Calls Tryd.prog 78 #[pt g, .int .u32 (h : Nat)] w fun e w' => e = .returned (.tuple #[]) ∧ Ro w' g 95 7 (maF size dr (pw size) ds wh (q % pw size) (mlen ring (pw size) q wh 32 0)) ∧ Ro w' dr 5 (pw size) (bytesF ring) ∧ Ro w' ds 3 (pw size) (natsF (number.set (placeN h 1 size) wh)) ∧ But (fun k => k = g ∨ k = ds) w w' := by
  obtain ⟨s, rfl, s16, hp⟩ := pw_nat size s0 s1
  have hpl := placeN_lt h 1 s s0 (by omega)
  have ha2 : placeN h 1 s < pw s := hpl
  have hpw := pw_le s s1
  have hpp := pw_pos s
  rw [hp] at hg hd hs hl ha2 hpw hpp ⊢
  have HA : Hid (∀ w', Calls Tryd.prog 81 #[.agg #[.int .i64 s, .int .i64 1, .slice (some ⟨ds, 0, none⟩) (2 ^ s) (2 ^ s)], .agg #[.int .u32 h, .int .u32 1, .slice none 0 0]] w' fun e w'' =>
      e = .returned (.slice (some ⟨ds, placeN h 1 s * 1, none⟩) 1 (2 ^ s - placeN h 1 s * 1)) ∧ Below w'.heap.size w' w'') := hid (fun w' => at_i ds h 1 s 1 (2 ^ s) 0 0 none w' hh (by omega) s16 (by omega) (by omega))
  rw [Nat.mul_one] at HA
  have c0 := hs.cell (placeN h 1 s) (by omega)
  unfold natsF at c0
  rw [hq] at c0
  generalize placeN h 1 s = pl at *
  obtain ⟨n, hn⟩ : ∃ n, 2 ^ s = n := ⟨_, rfl⟩
  rw [hn] at HA hg hd hs hl ha2 hpw hpp ⊢
  generalize n - pl = qq at HA
  have HN := hid (fun (w' : World) (b : Ro w' ds 3 n (natsF number)) => (b.set pl (.int .i64 (wh : Nat))).same (natsF_set ha2 hl))
  have g1 : w.cell? ⟨g, 1, none⟩ = some (.int .i64 s) := hg.cell 1 (by omega)
  have g2 : w.cell? ⟨g, 2, none⟩ = some (.int .i64 1) := hg.cell 2 (by omega)
  have g3 : w.cell? ⟨g, 3, none⟩ = some (.slice (some ⟨ds, 0, none⟩) n n) := hg.cell 3 (by omega)
  have g6 : w.cell? ⟨g, 6, none⟩ = some (.int .i64 (len : Nat)) := hg.cell 6 (by omega)
  have HG := hid hg
  have HD := hid hd
  have HSS := hid hs
  have n4 : ¬ ds = g := Ne.symm n2
  have n5 : ¬ dr = g := Ne.symm n1
  have n6 : ¬ ds = dr := Ne.symm n3
  clear hg hd hs hp hn hpl hl hq
  unfold pt at *
  go_enter Tryd.func78, Tryd.ntmps78
  go_wp2_with fail
  refine (HA.out _).mono ?_
  rintro r w1 ⟨rfl, b1⟩
  have G1 := hid (HG.out.below b1)
  have D1 := hid (HD.out.below b1)
  have S1 := hid (HSS.out.below b1)
  have e6 := keeps b1 g6
  have ec := keeps b1 c0
  have B1 := hid b1
  clear b1 g1 g2 g3 g6 c0 HA
  have e4 : w1.cell? ⟨g, 4, none⟩ = some (.int .i64 (wh : Nat)) := G1.out.cell 4 (by omega)
  have e0 : w1.cell? ⟨g, 0, none⟩ = some (sl dr n) := G1.out.cell 0 (by omega)
  have HT := hid (fun (w' : World) (b : Below w1.heap.size w1 w') => turn_any g dr n q w' (keeps b e0) (by omega))
  have HL := hid (fun (w' : World) (b : Below w1.heap.size w1 w') => alike_any g dr n q wh ring w' (keeps b e0) (keeps b e4) (D1.out.below b) (by omega) hqw hwh)
  unfold pt at HT HL
  obtain ⟨tq, htq⟩ : ∃ tq, q % n = tq := ⟨_, rfl⟩
  obtain ⟨ml, hml⟩ : ∃ ml, mlen ring n q wh 32 0 = ml := ⟨_, rfl⟩
  rw [htq] at HT
  rw [hml] at HL
  have HTQ := hid htq
  have HML := hid hml
  clear htq hml
  have hq0' : ¬ (q : Int) = 0 := by omega
  go_wp2_with fail
  go_region_held3 (fun w' => w'.cell? ⟨ds, pl, none⟩ = some (.int .i64 q))
    (first | exact ec | exact k0 | go_keep)
    (first
    | (go_at_call 82; (first | (with_reducible refine (HT.out w1.drew (Below.drewN _ _ 1)).mono ?_) | (with_reducible refine (HT.out w3 A3.out).mono ?_)); rintro r w2 ⟨rfl, rfl⟩)
    | (go_at_call 83; (with_reducible refine (HL.out w1.drew (Below.drewN _ _ 1)).mono ?_); rintro r w3 ⟨rfl, b3⟩; have k0 := keeps b3 ec; have A3 := hid (show Below w1.heap.size w1 w3 from undrew b3); have G3 := hid (G1.out.below A3.out); have f5 := G3.out.free 5; have f6 := G3.out.free 6; have c5 : w3.cell? ⟨g, 5, none⟩ = some (.int .i64 (pos : Nat)) := G3.out.cell 5 (by omega); have c6 : w3.cell? ⟨g, 6, none⟩ = some (.int .i64 (len : Nat)) := G3.out.cell 6 (by omega)))
  all_goals
    have x4 := ((But.refl (· = g) w3).set ⟨g, 5, none⟩ (.int .i64 (tq : Nat)) (.inl rfl)).set ⟨g, 6, none⟩ (.int .i64 (ml : Nat)) (.inl rfl)
    have G4 := hid (((G3.out.set 5 (.int .i64 (tq : Nat))).set 6 (.int .i64 (ml : Nat))).same maF_pl)
    have D4 := hid ((D1.out.below A3.out).on x4 n5)
    have S4 := hid ((S1.out.below A3.out).on x4 n4)
    have k4 := x4.cell k0 n4
    obtain ⟨W4, hW4⟩ : ∃ W4, W4 = (w3.setCell ⟨g, 5, none⟩ (.int .i64 (tq : Nat))).setCell ⟨g, 6, none⟩ (.int .i64 (ml : Nat)) := ⟨_, rfl⟩
    rw [← hW4] at x4 G4 D4 S4 k4
    rw [← hW4]
    have e4' : W4.cell? ⟨g, 4, none⟩ = some (.int .i64 (wh : Nat)) := G4.out.cell 4 (by omega)
    have fp := S4.out.free pl
    have y4 := (But.refl (· = ds) W4).set ⟨ds, pl, none⟩ (.int .i64 (wh : Nat)) (.inl rfl)
    have G5 := hid (G4.out.on y4 n2)
    have D5 := hid (D4.out.on y4 n3)
    have BX := hid (((But.of_below (S := (fun k => k = g ∨ k = ds)) (bel2 B1.out A3.out)).trans (x4.mono fun k e => Or.inl (Or.inl e))).trans (y4.mono fun k e => Or.inl (Or.inr e)))
    clear hW4 x4 y4 e0 e4 e6 ec k0 f5 f6 c5 c6
    go_wp2_with fail
    refine bodyPost_end (results_none rfl _ _ _) rfl ⟨rfl, ?_, D5.out, HN.out _ S4.out, BX.out⟩
    rw [HTQ.out, HML.out]
    exact G5.out
/-- A byte begins, whatever was seen. -/
theorem w_mch_begin (g dr ds pos len wh h : Nat) (size : Int) (ring number : List Nat) (w : World) (n1 : g ≠ dr) (n2 : g ≠ ds) (n3 : dr ≠ ds) (hh : h < 4294967296) (s0 : 0 ≤ size) (s1 : size ≤ 16) (hg : Ro w g 95 7 (maF size dr (pw size) ds wh pos len)) (hd : Ro w dr 5 (pw size) (bytesF ring)) (hs : Ro w ds 3 (pw size) (natsF number)) (hl : number.length = pw size) (hlen : len ≤ 32) (hwh : wh < 4294967296) (hqw : number.getD (placeN h 1 size) 0 ≤ wh) :
    Calls Tryd.prog 78 #[pt g, .int .u32 (h : Nat)] w fun e w' => e = .returned (.tuple #[]) ∧ Ro w' g 95 7 (maF size dr (pw size) ds wh (if len = 0 ∧ number.getD (placeN h 1 size) 0 ≠ 0 then number.getD (placeN h 1 size) 0 % pw size else pos) (if len = 0 ∧ number.getD (placeN h 1 size) 0 ≠ 0 then mlen ring (pw size) (number.getD (placeN h 1 size) 0) wh 32 0 else len)) ∧ Ro w' dr 5 (pw size) (bytesF ring) ∧ Ro w' ds 3 (pw size) (natsF (number.set (placeN h 1 size) wh)) ∧ But (fun k => k = g ∨ k = ds) w w' := by
  by_cases hy : len = 0 ∧ number.getD (placeN h 1 size) 0 ≠ 0
  · rw [if_pos hy, if_pos hy]
    exact w_mch_begin_y g dr ds pos len wh h _ size ring number w n1 n2 n3 hh s0 s1 hg hd hs hl hlen hwh rfl hqw hy.1 hy.2
  · rw [if_neg hy, if_neg hy]
    by_cases h0 : len = 0
    · exact w_mch_begin_n2 g dr ds pos len wh h _ size ring number w n1 n2 n3 hh s0 s1 hg hd hs hl hlen hwh rfl hqw h0 (by
        by_cases e : number.getD (placeN h 1 size) 0 = 0
        · exact e
        · exact absurd ⟨h0, e⟩ hy)
    · exact w_mch_begin_n1 g dr ds pos len wh h _ size ring number w n1 n2 n3 hh s0 s1 hg hd hs hl hlen hwh rfl hqw h0
end Go.Proofs.YtkfdbibgjoaefaaDoor
