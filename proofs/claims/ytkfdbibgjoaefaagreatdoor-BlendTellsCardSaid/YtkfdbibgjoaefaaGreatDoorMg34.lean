/-
  Merged: Mce.
-/
import Derived.Test.YtkfdbibgjoaefaaGreatDoorMg33
import Derived.Test.YtkfdbibgjoaefaaGreatDoorMg25
import Derived.Deep.Cut
import Derived.Deep.CutRange
import Derived.Deep.RegionWith
/-
  A PMatch at a byte's end.
-/
namespace Go.Proofs.YtkfdbibgjoaefaaGreatDoor
open Go.RowKit

theorem maF_pl {size : Int} {dr n ds wh pos len x y : Nat} : ∀ k, k < 7 → (fun k => if k = 6 then Value.int .i64 (y : Nat) else if k = 5 then Value.int .i64 (x : Nat) else maF size dr n ds wh pos len k) k = maF size dr n ds wh x y k := by
  intro k hk
  have : k = 0 ∨ k = 1 ∨ k = 2 ∨ k = 3 ∨ k = 4 ∨ k = 5 ∨ k = 6 := by omega
  rcases this with rfl | rfl | rfl | rfl | rfl | rfl | rfl <;> rfl
theorem maF_l {size : Int} {dr n ds wh pos len y : Nat} : ∀ k, k < 7 → (fun k => if k = 6 then Value.int .i64 (y : Nat) else maF size dr n ds wh pos len k) k = maF size dr n ds wh pos y k := by
  intro k hk
  have : k = 0 ∨ k = 1 ∨ k = 2 ∨ k = 3 ∨ k = 4 ∨ k = 5 ∨ k = 6 := by omega
  rcases this with rfl | rfl | rfl | rfl | rfl | rfl | rfl <;> rfl
theorem maF_w {size : Int} {dr n ds wh pos len y : Nat} : ∀ k, k < 7 → (fun k => if k = 4 then Value.int .i64 (y : Nat) else maF size dr n ds wh pos len k) k = maF size dr n ds y pos len k := by
  intro k hk
  have : k = 0 ∨ k = 1 ∨ k = 2 ∨ k = 3 ∨ k = 4 ∨ k = 5 ∨ k = 6 := by omega
  rcases this with rfl | rfl | rfl | rfl | rfl | rfl | rfl <;> rfl
set_option maxRecDepth 10000 in
set_option maxHeartbeats 2000000 in
theorem w_mch_end_c (g dr ds n pos len wh wb rb : Nat) (size : Int) (ring : List Nat) (w : World) (ngd : g ≠ dr) (hg : Ro w g 107 7 (maF size dr n ds wh pos len)) (hd : Ro w dr 5 n (bytesF ring)) (hl : ring.length = n) (hn : 1 ≤ n ∧ n ≤ 65536) (hp : pos < n) (_hlen : len ≤ 32) (hwh : wh < 4294967296) (_hwb : wb < 256) (hrb : ring.getD pos 0 = rb) (hr : rb < 256) (h0len : len = 0) :
    Calls Tryz.prog 111 #[pt g, .int .u8 (wb : Nat)] w fun e w' => e = .returned (.tuple #[]) ∧ Ro w' g 107 7 (maF size dr n ds (wh + 1) pos 0) ∧ Ro w' dr 5 n (bytesF (ring.set (wh % n) wb)) ∧ But (fun k => k = g ∨ k = dr) w w' := by
  have h0 : w.cell? ⟨g, 0, none⟩ = some (sl dr n) := hg.cell 0 (by omega)
  have h4 : w.cell? ⟨g, 4, none⟩ = some (.int .i64 (wh : Nat)) := hg.cell 4 (by omega)
  have h5 : w.cell? ⟨g, 5, none⟩ = some (.int .i64 (pos : Nat)) := hg.cell 5 (by omega)
  have h6 : w.cell? ⟨g, 6, none⟩ = some (.int .i64 (len : Nat)) := hg.cell 6 (by omega)
  have hc := hd.cell pos hp
  unfold bytesF at hc
  rw [hrb] at hc
  have f5 := hg.free 5
  have f6 := hg.free 6
  have HG := hid hg
  have HD := hid hd
  have z1 : (pos : Int) < (n : Int) := by omega
  have z2 : (n : Int) ≤ 65536 := by omega
  have z3 : (rb : Int) < 256 := by omega
  have z4 : (len : Int) ≤ 32 := by omega
  have ngd' : ¬ dr = g := Ne.symm ngd
  have HB := hid (fun (w' : World) (b : Ro w' dr 5 n (bytesF ring)) => fun x (hx : wh % n < n) => (b.set (wh % n) (.int .u8 (x : Nat))).same (bytesF_set hx hl))
  have HT := hid (fun x (w' : World) (h : w'.cell? ⟨g, 0, none⟩ = some (sl dr n)) => turn_any g dr n x w' h hn)
  have mw := Nat.mod_lt wh (show 0 < n from by omega)
  obtain ⟨i, hi⟩ : ∃ i, wh % n = i := ⟨_, rfl⟩
  rw [hi] at mw HB ⊢
  have zi : (i : Int) < (n : Int) := by omega
  clear hg hd hrb
  unfold pt sl at *
  go_enter Tryz.func111, Tryz.ntmps111
  go_wp2_with fail
  have zl0 : ¬ (0 : Int) < (len : Int) := by omega
  go_quiet (fail)
  go_wp2_with fail
  all_goals
    obtain ⟨W3, hW3⟩ : ∃ W3, W3 = (w.drewN nq).setCell ⟨g, 6, none⟩ (.int .i64 0) := ⟨_, rfl⟩
    have x3 : But (· = g) w W3 := by rw [hW3]; exact (((But.refl (· = g) w).drewN nq).set ⟨g, 6, none⟩ _ (.inl rfl))
    have G3 : Hid (Ro W3 g 107 7 (maF size dr n ds wh pos 0)) := by rw [hW3]; exact (HG.out.set 6 (.int .i64 ((0 : Nat) : Int))).same maF_l
    have D3 := hid (HD.out.on x3 ngd')
    have X3 := hid x3
    rw [← hW3]
    clear hW3 x3 h0 h4 h5 h6 hc f5 f6
    have c0 : W3.cell? ⟨g, 0, none⟩ = some (.slice (some ⟨dr, 0, none⟩) n n) := G3.out.cell 0 (by omega)
    have c4 : W3.cell? ⟨g, 4, none⟩ = some (.int .i64 (wh : Nat)) := G3.out.cell 4 (by omega)
    have ci := D3.out.cell i mw
    have fi := D3.out.free i
    have HT3 := hid (HT.out wh W3.drew c0)
    rw [hi] at HT3
    have x4 := ((But.refl (· = dr) W3).set ⟨dr, i, none⟩ (.int .u8 (wb : Nat)) (.inl rfl))
    have G4 := hid (G3.out.on x4 ngd)
    have D4 := hid (HB.out _ D3.out wb mw)
    have X4 := hid x4
    clear x4 hi
    go_wp2_with fail
    go_region_held3 (fun w' => w'.cell? ⟨g, 0, none⟩ = some (.slice (some ⟨dr, 0, none⟩) n n) ∧ w'.cell? ⟨g, 4, none⟩ = some (.int .i64 wh))
      (first | exact ⟨c0, c4⟩ | go_keep)
      (first
      | (go_at_call 114; (with_reducible refine HT3.out.mono ?_); rintro r w5 ⟨rfl, rfl⟩))
    all_goals
      have d4 : (W3.setCell ⟨dr, i, none⟩ (.int .u8 (wb : Nat))).cell? ⟨g, 4, none⟩ = some (.int .i64 (wh : Nat)) := G4.out.cell 4 (by omega)
      have e4 : (W3.setCell ⟨dr, i, none⟩ (.int .u8 (wb : Nat))).frozen? ⟨g, 4, none⟩ = false := G4.out.free 4
      have G5 := hid ((G4.out.set 4 (.int .i64 ((wh + 1 : Nat) : Int))).same maF_w)
      have X5 := hid ((But.refl (· = g) (W3.setCell ⟨dr, i, none⟩ (.int .u8 (wb : Nat)))).set ⟨g, 4, none⟩ (.int .i64 ((wh : Int) + 1)) (.inl rfl))
      have D5 := hid (D4.out.on X5.out ngd')
      obtain ⟨W5, hW5⟩ : ∃ W5, W5 = W3.setCell ⟨dr, i, none⟩ (.int .u8 (wb : Nat)) := ⟨_, rfl⟩
      rw [← hW5] at d4 e4 G5 X5 D5
      rw [← hW5]
      rw [← hW5] at X4
      clear hW5 c0 c4 ci fi
      go_wp2_with fail
      refine bodyPost_end (results_none rfl _ _ _) rfl ⟨rfl, G5.out, D5.out, ?_⟩
      exact ((X3.out.mono fun k e => .inl (.inl e)).trans (X4.out.mono fun k e => .inl (.inr e))).trans ((X5.out.mono fun k e => Or.inl (Or.inl e)).drew)
set_option maxRecDepth 10000 in
set_option maxHeartbeats 2000000 in
theorem w_mch_end_b (g dr ds n pos len wh wb rb : Nat) (size : Int) (ring : List Nat) (w : World) (ngd : g ≠ dr) (hg : Ro w g 107 7 (maF size dr n ds wh pos len)) (hd : Ro w dr 5 n (bytesF ring)) (hl : ring.length = n) (hn : 1 ≤ n ∧ n ≤ 65536) (hp : pos < n) (hlen : len ≤ 32) (hwh : wh < 4294967296) (_hwb : wb < 256) (hrb : ring.getD pos 0 = rb) (hr : rb < 256) (h0len : 0 < len) (hne : rb ≠ wb) :
    Calls Tryz.prog 111 #[pt g, .int .u8 (wb : Nat)] w fun e w' => e = .returned (.tuple #[]) ∧ Ro w' g 107 7 (maF size dr n ds (wh + 1) pos 0) ∧ Ro w' dr 5 n (bytesF (ring.set (wh % n) wb)) ∧ But (fun k => k = g ∨ k = dr) w w' := by
  have h0 : w.cell? ⟨g, 0, none⟩ = some (sl dr n) := hg.cell 0 (by omega)
  have h4 : w.cell? ⟨g, 4, none⟩ = some (.int .i64 (wh : Nat)) := hg.cell 4 (by omega)
  have h5 : w.cell? ⟨g, 5, none⟩ = some (.int .i64 (pos : Nat)) := hg.cell 5 (by omega)
  have h6 : w.cell? ⟨g, 6, none⟩ = some (.int .i64 (len : Nat)) := hg.cell 6 (by omega)
  have hc := hd.cell pos hp
  unfold bytesF at hc
  rw [hrb] at hc
  have f5 := hg.free 5
  have f6 := hg.free 6
  have HG := hid hg
  have HD := hid hd
  have z1 : (pos : Int) < (n : Int) := by omega
  have z2 : (n : Int) ≤ 65536 := by omega
  have z3 : (rb : Int) < 256 := by omega
  have z4 : (len : Int) ≤ 32 := by omega
  have ngd' : ¬ dr = g := Ne.symm ngd
  have HB := hid (fun (w' : World) (b : Ro w' dr 5 n (bytesF ring)) => fun x (hx : wh % n < n) => (b.set (wh % n) (.int .u8 (x : Nat))).same (bytesF_set hx hl))
  have HT := hid (fun x (w' : World) (h : w'.cell? ⟨g, 0, none⟩ = some (sl dr n)) => turn_any g dr n x w' h hn)
  have mw := Nat.mod_lt wh (show 0 < n from by omega)
  obtain ⟨i, hi⟩ : ∃ i, wh % n = i := ⟨_, rfl⟩
  rw [hi] at mw HB ⊢
  have zi : (i : Int) < (n : Int) := by omega
  clear hg hd hrb
  have hni : ¬ (rb : Int) = (wb : Int) := by omega
  have zb : ((rb : Int) == (wb : Int)) = false := by simpa using hni
  clear hne hni
  unfold pt sl at *
  go_enter Tryz.func111, Tryz.ntmps111
  go_wp2_with fail
  have zl0 : (0 : Int) < (len : Int) := by omega
  go_quiet (fail)
  go_wp2_with fail
  all_goals
    obtain ⟨W3, hW3⟩ : ∃ W3, W3 = (w.drewN nq).setCell ⟨g, 6, none⟩ (.int .i64 0) := ⟨_, rfl⟩
    have x3 : But (· = g) w W3 := by rw [hW3]; exact (((But.refl (· = g) w).drewN nq).set ⟨g, 6, none⟩ _ (.inl rfl))
    have G3 : Hid (Ro W3 g 107 7 (maF size dr n ds wh pos 0)) := by rw [hW3]; exact (HG.out.set 6 (.int .i64 ((0 : Nat) : Int))).same maF_l
    have D3 := hid (HD.out.on x3 ngd')
    have X3 := hid x3
    rw [← hW3]
    clear hW3 x3 h0 h4 h5 h6 hc f5 f6
    have c0 : W3.cell? ⟨g, 0, none⟩ = some (.slice (some ⟨dr, 0, none⟩) n n) := G3.out.cell 0 (by omega)
    have c4 : W3.cell? ⟨g, 4, none⟩ = some (.int .i64 (wh : Nat)) := G3.out.cell 4 (by omega)
    have ci := D3.out.cell i mw
    have fi := D3.out.free i
    have HT3 := hid (HT.out wh W3.drew c0)
    rw [hi] at HT3
    have x4 := ((But.refl (· = dr) W3).set ⟨dr, i, none⟩ (.int .u8 (wb : Nat)) (.inl rfl))
    have G4 := hid (G3.out.on x4 ngd)
    have D4 := hid (HB.out _ D3.out wb mw)
    have X4 := hid x4
    clear x4 hi
    go_wp2_with fail
    go_region_held3 (fun w' => w'.cell? ⟨g, 0, none⟩ = some (.slice (some ⟨dr, 0, none⟩) n n) ∧ w'.cell? ⟨g, 4, none⟩ = some (.int .i64 wh))
      (first | exact ⟨c0, c4⟩ | go_keep)
      (first
      | (go_at_call 114; (with_reducible refine HT3.out.mono ?_); rintro r w5 ⟨rfl, rfl⟩))
    all_goals
      have d4 : (W3.setCell ⟨dr, i, none⟩ (.int .u8 (wb : Nat))).cell? ⟨g, 4, none⟩ = some (.int .i64 (wh : Nat)) := G4.out.cell 4 (by omega)
      have e4 : (W3.setCell ⟨dr, i, none⟩ (.int .u8 (wb : Nat))).frozen? ⟨g, 4, none⟩ = false := G4.out.free 4
      have G5 := hid ((G4.out.set 4 (.int .i64 ((wh + 1 : Nat) : Int))).same maF_w)
      have X5 := hid ((But.refl (· = g) (W3.setCell ⟨dr, i, none⟩ (.int .u8 (wb : Nat)))).set ⟨g, 4, none⟩ (.int .i64 ((wh : Int) + 1)) (.inl rfl))
      have D5 := hid (D4.out.on X5.out ngd')
      obtain ⟨W5, hW5⟩ : ∃ W5, W5 = W3.setCell ⟨dr, i, none⟩ (.int .u8 (wb : Nat)) := ⟨_, rfl⟩
      rw [← hW5] at d4 e4 G5 X5 D5
      rw [← hW5]
      rw [← hW5] at X4
      clear hW5 c0 c4 ci fi
      go_wp2_with fail
      refine bodyPost_end (results_none rfl _ _ _) rfl ⟨rfl, G5.out, D5.out, ?_⟩
      exact ((X3.out.mono fun k e => .inl (.inl e)).trans (X4.out.mono fun k e => .inl (.inr e))).trans ((X5.out.mono fun k e => Or.inl (Or.inl e)).drew)
set_option maxRecDepth 10000 in
set_option maxHeartbeats 2000000 in
theorem w_mch_end_a1 (g dr ds n pos len wh wb rb : Nat) (size : Int) (ring : List Nat) (w : World) (ngd : g ≠ dr) (hg : Ro w g 107 7 (maF size dr n ds wh pos len)) (hd : Ro w dr 5 n (bytesF ring)) (hl : ring.length = n) (hn : 1 ≤ n ∧ n ≤ 65536) (hp : pos < n) (hlen : len ≤ 32) (hwh : wh < 4294967296) (_hwb : wb < 256) (hrb : ring.getD pos 0 = rb) (hr : rb < 256) (h0len : 0 < len) (hne : rb = wb) (hll : len < 32) :
    Calls Tryz.prog 111 #[pt g, .int .u8 (wb : Nat)] w fun e w' => e = .returned (.tuple #[]) ∧ Ro w' g 107 7 (maF size dr n ds (wh + 1) ((pos + 1) % n) (len + 1)) ∧ Ro w' dr 5 n (bytesF (ring.set (wh % n) wb)) ∧ But (fun k => k = g ∨ k = dr) w w' := by
  have h0 : w.cell? ⟨g, 0, none⟩ = some (sl dr n) := hg.cell 0 (by omega)
  have h4 : w.cell? ⟨g, 4, none⟩ = some (.int .i64 (wh : Nat)) := hg.cell 4 (by omega)
  have h5 : w.cell? ⟨g, 5, none⟩ = some (.int .i64 (pos : Nat)) := hg.cell 5 (by omega)
  have h6 : w.cell? ⟨g, 6, none⟩ = some (.int .i64 (len : Nat)) := hg.cell 6 (by omega)
  have hc := hd.cell pos hp
  unfold bytesF at hc
  rw [hrb] at hc
  have f5 := hg.free 5
  have f6 := hg.free 6
  have HG := hid hg
  have HD := hid hd
  have z1 : (pos : Int) < (n : Int) := by omega
  have z2 : (n : Int) ≤ 65536 := by omega
  have z3 : (rb : Int) < 256 := by omega
  have z4 : (len : Int) ≤ 32 := by omega
  have ngd' : ¬ dr = g := Ne.symm ngd
  have HB := hid (fun (w' : World) (b : Ro w' dr 5 n (bytesF ring)) => fun x (hx : wh % n < n) => (b.set (wh % n) (.int .u8 (x : Nat))).same (bytesF_set hx hl))
  have HT := hid (fun x (w' : World) (h : w'.cell? ⟨g, 0, none⟩ = some (sl dr n)) => turn_any g dr n x w' h hn)
  have mw := Nat.mod_lt wh (show 0 < n from by omega)
  obtain ⟨i, hi⟩ : ∃ i, wh % n = i := ⟨_, rfl⟩
  rw [hi] at mw HB ⊢
  have zi : (i : Int) < (n : Int) := by omega
  clear hg hd hrb
  have zb : ((rb : Int) == (wb : Int)) = true := by rw [hne]; simp
  obtain ⟨po, hpo⟩ : ∃ po, (pos + 1) % n = po := ⟨_, rfl⟩
  rw [hpo]
  have qp : IntKind.i64.wrap ((pos : Int) + 1) = ((pos + 1 : Nat) : Int) := by rw [IntWalk.i64_in _ (by omega)]; omega
  have qp2 : (pos : Int) + 1 = ((pos + 1 : Nat) : Int) := by omega
  have HTp := hid (fun w' h => HT.out (pos + 1) w' h)
  rw [hpo] at HTp
  obtain ⟨p1, hp1⟩ : ∃ p1, pos + 1 = p1 := ⟨_, rfl⟩
  rw [hp1] at qp qp2 HTp
  have qp3 : IntKind.i64.wrap (p1 : Int) = (p1 : Int) := IntWalk.i64_in _ (by omega)
  clear hne hp1 hpo
  unfold pt sl at *
  go_enter Tryz.func111, Tryz.ntmps111
  go_wp2_with fail
  have zl0 : (0 : Int) < (len : Int) := by omega
  go_quiet (fail)
  go_wp2_with fail
  all_goals
    obtain ⟨Wq, hWq⟩ : ∃ Wq, Wq = w.drewN nq := ⟨_, rfl⟩
    rw [← hWq]
    have b0 : Below w.heap.size w Wq := by rw [hWq]; exact Below.drewN _ _ _
    have h0 := keeps b0 h0
    have h5 := keeps b0 h5
    have h6 := keeps b0 h6
    have GQ := hid (HG.out.below b0)
    have DQ := hid (HD.out.below b0)
    have f5 := GQ.out.free 5
    have f6 := GQ.out.free 6
    have HTq := hid (HTp.out Wq.drew h0)
    have b0 := hid b0
    clear hWq h4 hc
    go_cut [31] from 23 to 41 (fun _ wx => wx = ((Wq.setCell ⟨g, 5, none⟩ (.int .i64 (po : Nat))).setCell ⟨g, 6, none⟩ (.int .i64 ((len + 1) : Nat))).drew)
    case first =>
      have zw : IntKind.i64.wrap ((len : Int) + 1) = (len : Int) + 1 := IntWalk.i64_in _ (by omega)
      have zl2 : ¬ (32 : Int) < (len : Int) + 1 := by omega
      have zl3 : ¬ 32 < len + 1 := by omega
      have zl4 : ¬ (31 : Int) < (len : Int) := by omega
      have zl5 : ¬ 31 < len := by omega
      go_region_with (go_at_call 114; (with_reducible refine HTq.out.mono ?_); rintro r w5 ⟨rfl, rfl⟩)
      all_goals
        go_wp2_with fail
        go_meet
        rfl
    case rest =>
    obtain ⟨W3, hW3⟩ : ∃ W3, W3 = wc := ⟨_, rfl⟩
    rw [← hW3] at hcut
    rw [← hW3]
    clear hW3
    have x3 : But (· = g) w W3 := by rw [hcut]; exact ((((But.of_below (S := (· = g)) b0.out).set ⟨g, 5, none⟩ _ (.inl rfl)).set ⟨g, 6, none⟩ _ (.inl rfl))).drew
    have G3 : Hid (Ro W3 g 107 7 (maF size dr n ds wh po (len + 1))) := by rw [hcut]; exact ((GQ.out.set 5 (.int .i64 (po : Nat))).set 6 (.int .i64 ((len + 1) : Nat))).same maF_pl
    have D3 := hid (HD.out.on x3 ngd')
    have X3 := hid x3
    clear hcut x3 h0 h5 h6 f5 f6
    have c0 : W3.cell? ⟨g, 0, none⟩ = some (.slice (some ⟨dr, 0, none⟩) n n) := G3.out.cell 0 (by omega)
    have c4 : W3.cell? ⟨g, 4, none⟩ = some (.int .i64 (wh : Nat)) := G3.out.cell 4 (by omega)
    have ci := D3.out.cell i mw
    have fi := D3.out.free i
    have HT3 := hid (HT.out wh W3.drew c0)
    rw [hi] at HT3
    have x4 := ((But.refl (· = dr) W3).set ⟨dr, i, none⟩ (.int .u8 (wb : Nat)) (.inl rfl))
    have G4 := hid (G3.out.on x4 ngd)
    have D4 := hid (HB.out _ D3.out wb mw)
    have X4 := hid x4
    clear x4 hi
    go_wp2_with fail
    go_region_held3 (fun w' => w'.cell? ⟨g, 0, none⟩ = some (.slice (some ⟨dr, 0, none⟩) n n) ∧ w'.cell? ⟨g, 4, none⟩ = some (.int .i64 wh))
      (first | exact ⟨c0, c4⟩ | go_keep)
      (first
      | (go_at_call 114; (with_reducible refine HT3.out.mono ?_); rintro r w5 ⟨rfl, rfl⟩))
    all_goals
      have d4 : (W3.setCell ⟨dr, i, none⟩ (.int .u8 (wb : Nat))).cell? ⟨g, 4, none⟩ = some (.int .i64 (wh : Nat)) := G4.out.cell 4 (by omega)
      have e4 : (W3.setCell ⟨dr, i, none⟩ (.int .u8 (wb : Nat))).frozen? ⟨g, 4, none⟩ = false := G4.out.free 4
      have G5 := hid ((G4.out.set 4 (.int .i64 ((wh + 1 : Nat) : Int))).same maF_w)
      have X5 := hid ((But.refl (· = g) (W3.setCell ⟨dr, i, none⟩ (.int .u8 (wb : Nat)))).set ⟨g, 4, none⟩ (.int .i64 ((wh : Int) + 1)) (.inl rfl))
      have D5 := hid (D4.out.on X5.out ngd')
      obtain ⟨W5, hW5⟩ : ∃ W5, W5 = W3.setCell ⟨dr, i, none⟩ (.int .u8 (wb : Nat)) := ⟨_, rfl⟩
      rw [← hW5] at d4 e4 G5 X5 D5
      rw [← hW5]
      rw [← hW5] at X4
      clear hW5 c0 c4 ci fi
      go_wp2_with fail
      refine bodyPost_end (results_none rfl _ _ _) rfl ⟨rfl, G5.out, D5.out, ?_⟩
      exact ((X3.out.mono fun k e => .inl (.inl e)).trans (X4.out.mono fun k e => .inl (.inr e))).trans ((X5.out.mono fun k e => Or.inl (Or.inl e)).drew)
set_option maxRecDepth 10000 in
set_option maxHeartbeats 2000000 in
theorem w_mch_end_a2 (g dr ds n pos len wh wb rb : Nat) (size : Int) (ring : List Nat) (w : World) (ngd : g ≠ dr) (hg : Ro w g 107 7 (maF size dr n ds wh pos len)) (hd : Ro w dr 5 n (bytesF ring)) (hl : ring.length = n) (hn : 1 ≤ n ∧ n ≤ 65536) (hp : pos < n) (_hlen : len ≤ 32) (hwh : wh < 4294967296) (_hwb : wb < 256) (hrb : ring.getD pos 0 = rb) (hr : rb < 256) (_h0len : 0 < len) (hne : rb = wb) (hll : len = 32) :
    Calls Tryz.prog 111 #[pt g, .int .u8 (wb : Nat)] w fun e w' => e = .returned (.tuple #[]) ∧ Ro w' g 107 7 (maF size dr n ds (wh + 1) ((pos + 1) % n) 32) ∧ Ro w' dr 5 n (bytesF (ring.set (wh % n) wb)) ∧ But (fun k => k = g ∨ k = dr) w w' := by
  have h0 : w.cell? ⟨g, 0, none⟩ = some (sl dr n) := hg.cell 0 (by omega)
  have h4 : w.cell? ⟨g, 4, none⟩ = some (.int .i64 (wh : Nat)) := hg.cell 4 (by omega)
  have h5 : w.cell? ⟨g, 5, none⟩ = some (.int .i64 (pos : Nat)) := hg.cell 5 (by omega)
  have h6 : w.cell? ⟨g, 6, none⟩ = some (.int .i64 (len : Nat)) := hg.cell 6 (by omega)
  have hc := hd.cell pos hp
  unfold bytesF at hc
  rw [hrb] at hc
  have f5 := hg.free 5
  have f6 := hg.free 6
  have HG := hid hg
  have HD := hid hd
  have z1 : (pos : Int) < (n : Int) := by omega
  have z2 : (n : Int) ≤ 65536 := by omega
  have z3 : (rb : Int) < 256 := by omega
  have z4 : (len : Int) ≤ 32 := by omega
  have ngd' : ¬ dr = g := Ne.symm ngd
  have HB := hid (fun (w' : World) (b : Ro w' dr 5 n (bytesF ring)) => fun x (hx : wh % n < n) => (b.set (wh % n) (.int .u8 (x : Nat))).same (bytesF_set hx hl))
  have HT := hid (fun x (w' : World) (h : w'.cell? ⟨g, 0, none⟩ = some (sl dr n)) => turn_any g dr n x w' h hn)
  have mw := Nat.mod_lt wh (show 0 < n from by omega)
  obtain ⟨i, hi⟩ : ∃ i, wh % n = i := ⟨_, rfl⟩
  rw [hi] at mw HB ⊢
  have zi : (i : Int) < (n : Int) := by omega
  clear hg hd hrb
  have zb : ((rb : Int) == (wb : Int)) = true := by rw [hne]; simp
  obtain ⟨po, hpo⟩ : ∃ po, (pos + 1) % n = po := ⟨_, rfl⟩
  rw [hpo]
  have qp : IntKind.i64.wrap ((pos : Int) + 1) = ((pos + 1 : Nat) : Int) := by rw [IntWalk.i64_in _ (by omega)]; omega
  have qp2 : (pos : Int) + 1 = ((pos + 1 : Nat) : Int) := by omega
  have HTp := hid (fun w' h => HT.out (pos + 1) w' h)
  rw [hpo] at HTp
  obtain ⟨p1, hp1⟩ : ∃ p1, pos + 1 = p1 := ⟨_, rfl⟩
  rw [hp1] at qp qp2 HTp
  have qp3 : IntKind.i64.wrap (p1 : Int) = (p1 : Int) := IntWalk.i64_in _ (by omega)
  clear hne hp1 hpo
  unfold pt sl at *
  go_enter Tryz.func111, Tryz.ntmps111
  go_wp2_with fail
  have zl0 : (0 : Int) < (len : Int) := by omega
  go_quiet (fail)
  go_wp2_with fail
  all_goals
    obtain ⟨Wq, hWq⟩ : ∃ Wq, Wq = w.drewN nq := ⟨_, rfl⟩
    rw [← hWq]
    have b0 : Below w.heap.size w Wq := by rw [hWq]; exact Below.drewN _ _ _
    have h0 := keeps b0 h0
    have h5 := keeps b0 h5
    have h6 := keeps b0 h6
    have GQ := hid (HG.out.below b0)
    have DQ := hid (HD.out.below b0)
    have f5 := GQ.out.free 5
    have f6 := GQ.out.free 6
    have HTq := hid (HTp.out Wq.drew h0)
    have b0 := hid b0
    clear hWq h4 hc
    go_cut [31] from 23 to 41 (fun _ wx => wx = ((Wq.setCell ⟨g, 5, none⟩ (.int .i64 (po : Nat))).setCell ⟨g, 6, none⟩ (.int .i64 (32 : Nat))).drew)
    case first =>
      have zw : IntKind.i64.wrap ((len : Int) + 1) = (len : Int) + 1 := IntWalk.i64_in _ (by omega)
      have zl2 : (32 : Int) < (len : Int) + 1 := by omega
      go_region_with (go_at_call 114; (with_reducible refine HTq.out.mono ?_); rintro r w5 ⟨rfl, rfl⟩)
      all_goals
        go_wp2_with fail
        go_meet
        rfl
    case rest =>
    obtain ⟨W3, hW3⟩ : ∃ W3, W3 = wc := ⟨_, rfl⟩
    rw [← hW3] at hcut
    rw [← hW3]
    clear hW3
    have x3 : But (· = g) w W3 := by rw [hcut]; exact ((((But.of_below (S := (· = g)) b0.out).set ⟨g, 5, none⟩ _ (.inl rfl)).set ⟨g, 6, none⟩ _ (.inl rfl))).drew
    have G3 : Hid (Ro W3 g 107 7 (maF size dr n ds wh po 32)) := by rw [hcut]; exact ((GQ.out.set 5 (.int .i64 (po : Nat))).set 6 (.int .i64 (32 : Nat))).same maF_pl
    have D3 := hid (HD.out.on x3 ngd')
    have X3 := hid x3
    clear hcut x3 h0 h5 h6 f5 f6
    have c0 : W3.cell? ⟨g, 0, none⟩ = some (.slice (some ⟨dr, 0, none⟩) n n) := G3.out.cell 0 (by omega)
    have c4 : W3.cell? ⟨g, 4, none⟩ = some (.int .i64 (wh : Nat)) := G3.out.cell 4 (by omega)
    have ci := D3.out.cell i mw
    have fi := D3.out.free i
    have HT3 := hid (HT.out wh W3.drew c0)
    rw [hi] at HT3
    have x4 := ((But.refl (· = dr) W3).set ⟨dr, i, none⟩ (.int .u8 (wb : Nat)) (.inl rfl))
    have G4 := hid (G3.out.on x4 ngd)
    have D4 := hid (HB.out _ D3.out wb mw)
    have X4 := hid x4
    clear x4 hi
    go_wp2_with fail
    go_region_held3 (fun w' => w'.cell? ⟨g, 0, none⟩ = some (.slice (some ⟨dr, 0, none⟩) n n) ∧ w'.cell? ⟨g, 4, none⟩ = some (.int .i64 wh))
      (first | exact ⟨c0, c4⟩ | go_keep)
      (first
      | (go_at_call 114; (with_reducible refine HT3.out.mono ?_); rintro r w5 ⟨rfl, rfl⟩))
    all_goals
      have d4 : (W3.setCell ⟨dr, i, none⟩ (.int .u8 (wb : Nat))).cell? ⟨g, 4, none⟩ = some (.int .i64 (wh : Nat)) := G4.out.cell 4 (by omega)
      have e4 : (W3.setCell ⟨dr, i, none⟩ (.int .u8 (wb : Nat))).frozen? ⟨g, 4, none⟩ = false := G4.out.free 4
      have G5 := hid ((G4.out.set 4 (.int .i64 ((wh + 1 : Nat) : Int))).same maF_w)
      have X5 := hid ((But.refl (· = g) (W3.setCell ⟨dr, i, none⟩ (.int .u8 (wb : Nat)))).set ⟨g, 4, none⟩ (.int .i64 ((wh : Int) + 1)) (.inl rfl))
      have D5 := hid (D4.out.on X5.out ngd')
      obtain ⟨W5, hW5⟩ : ∃ W5, W5 = W3.setCell ⟨dr, i, none⟩ (.int .u8 (wb : Nat)) := ⟨_, rfl⟩
      rw [← hW5] at d4 e4 G5 X5 D5
      rw [← hW5]
      rw [← hW5] at X4
      clear hW5 c0 c4 ci fi
      go_wp2_with fail
      refine bodyPost_end (results_none rfl _ _ _) rfl ⟨rfl, G5.out, D5.out, ?_⟩
      exact ((X3.out.mono fun k e => .inl (.inl e)).trans (X4.out.mono fun k e => .inl (.inr e))).trans ((X5.out.mono fun k e => Or.inl (Or.inl e)).drew)
/-- A byte's end, whatever came. -/
theorem w_mch_end (g dr ds n pos len wh wb : Nat) (size : Int) (ring : List Nat) (w : World) (ngd : g ≠ dr) (hg : Ro w g 107 7 (maF size dr n ds wh pos len)) (hd : Ro w dr 5 n (bytesF ring)) (hl : ring.length = n) (hn : 1 ≤ n ∧ n ≤ 65536) (hp : pos < n) (hlen : len ≤ 32) (hwh : wh < 4294967296) (hwb : wb < 256) (hr : ring.getD pos 0 < 256) :
    Calls Tryz.prog 111 #[pt g, .int .u8 (wb : Nat)] w fun e w' => e = .returned (.tuple #[]) ∧ Ro w' g 107 7 (maF size dr n ds (wh + 1) (if 0 < len ∧ ring.getD pos 0 = wb then (pos + 1) % n else pos) (if 0 < len ∧ ring.getD pos 0 = wb then min (len + 1) 32 else 0)) ∧ Ro w' dr 5 n (bytesF (ring.set (wh % n) wb)) ∧ But (fun k => k = g ∨ k = dr) w w' := by
  by_cases hy : 0 < len ∧ ring.getD pos 0 = wb
  · rw [if_pos hy, if_pos hy]
    by_cases h32 : len = 32
    · rw [show min (len + 1) 32 = 32 from by omega]
      exact w_mch_end_a2 g dr ds n pos len wh wb _ size ring w ngd hg hd hl hn hp hlen hwh hwb rfl hr hy.1 hy.2 h32
    · rw [show min (len + 1) 32 = len + 1 from by omega]
      exact w_mch_end_a1 g dr ds n pos len wh wb _ size ring w ngd hg hd hl hn hp hlen hwh hwb rfl hr hy.1 hy.2 (by omega)
  · rw [if_neg hy, if_neg hy]
    by_cases h0 : len = 0
    · exact w_mch_end_c g dr ds n pos len wh wb _ size ring w ngd hg hd hl hn hp hlen hwh hwb rfl hr h0
    · exact w_mch_end_b g dr ds n pos len wh wb _ size ring w ngd hg hd hl hn hp hlen hwh hwb rfl hr (by omega) (fun e => hy ⟨by omega, e⟩)
end Go.Proofs.YtkfdbibgjoaefaaGreatDoor
