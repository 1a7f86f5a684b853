/-
  The contract of Get.
-/
import Derived.Test.YtbgbacajgaeooaaGet
namespace Go.Proofs.Ytbgbacajgaeooaa
open Go.RowKit

set_option maxRecDepth 10000 in
set_option maxHeartbeats 4000000 in
theorem Get_good {B : Nat} {S : Nat → Prop} {w : World} {g x y : Nat} {R : List UInt8} {N : Nat} {A : Option Addr} {n c : Nat} (h : DeAt B S w g x y R N A n c) (hv : IvOk x y) (p : Nat) (h1 : 1 ≤ p) (h2 : p ≤ 65535) (b : Bool) (hb : b = bitOf x y p R) :
    Calls Try.prog 20 #[.pointer (some ⟨g, 0, none⟩), .int .i64 (p : Nat)] w fun r w' => r = .returned (.tuple #[.int .i64 (if b then 1 else 0), .int .i64 0]) ∧ (∃ A' n' c', DeAt B S w' g (put1 x y p b).2.1 (put1 x y p b).2.2 (R.drop (put1 x y p b).1.length) N A' n' c') ∧ But (· = g) w w' := by
  have HM := hid (dmade_yes g w (row_cell h.row 0))
  have HL := hid (fun w => likely_any (p : Int) w)
  have hpp : decide (1 ≤ (p : Int) ∧ (p : Int) ≤ 65535) = true := by simp; omega
  have c3 : w.cell? ⟨g, 3, none⟩ = some (.int .u32 (z4 R : Nat)) := row_cell h.row 3
  have hx : w.cell? ⟨g, 1, none⟩ = some (.int .u32 (x : Nat)) := row_cell h.row 1
  have hy : w.cell? ⟨g, 2, none⟩ = some (.int .u32 (y : Nat)) := row_cell h.row 2
  have hcut := cut_in x y p hv h1 h2
  have hylt := hv.lt
  obtain ⟨m, hm⟩ : ∃ m, m = cutM x y p := ⟨_, rfl⟩
  obtain ⟨FR, hFR⟩ : ∃ z, z = R.drop (put1 x y p b).1.length := ⟨_, rfl⟩
  obtain ⟨fx1, hfx⟩ : ∃ z, z = (put1 x y p b).2.1 := ⟨_, rfl⟩
  obtain ⟨fy1, hfy⟩ : ∃ z, z = (put1 x y p b).2.2 := ⟨_, rfl⟩
  rw [← hFR, ← hfx, ← hfy]
  have HC : Hid (Calls Try.prog 29 #[.pointer (some ⟨g, 1, none⟩), .int .i64 (p : Nat)] w fun r w1 => r = .returned (.int .u32 (m : Nat)) ∧ w1.cell? ⟨g, 3, none⟩ = some (.int .u32 (z4 R : Nat)) ∧
      Calls Try.prog 28 #[.pointer (some ⟨g, 1, none⟩), .int .i64 (if b then 1 else 0), .int .u32 (m : Nat)] w1 fun r w2 => r = .returned noResult ∧ Dre B S w g N FR fx1 fy1 w2 (took x y p b).1 (took x y p b).2) := by
    refine (cut_any g x y p w hx hy hv h1 h2).mono ?_
    rintro r w' ⟨rfl, q, rfl⟩
    refine ⟨by rw [hm], c3, ?_⟩
    obtain ⟨t1, t2, t3⟩ := took_ok x y p b hv h1 h2
    have hq := h.drewN q
    have fin : ∀ w', But (· = g) (w.drewN q) w' → w'.heap[g]? = some (.cells (dcells g (took x y p b).1 (took x y p b).2 (z4 R) (.slice A n c) (N - n)) 57 (0, 0)) → Dre B S w g N FR fx1 fy1 w' (took x y p b).1 (took x y p b).2 := by
      intro w' hb hr
      exact ⟨R, 4, A, n, c, hq.turn hb hr, ((But.refl (· = g) w).drewN q).trans hb (fun i hi => .inl hi), way4 t2 (by omega), by rw [hFR]; rfl, by rw [hfx, hfy]; rfl⟩
    have r0 := hq.row
    clear hb c3
    generalize z4 R = z0 at r0 fin
    cases b
    · refine (take_nought g m (.int .u32 (x : Nat)) (w.drewN q) hx (row_free r0 1) (by omega)).mono ?_
      rintro r w' ⟨rfl, rfl⟩
      refine ⟨rfl, fin _ ((But.refl (· = g) (w.drewN q)).set _ _ (.inl rfl)) ?_⟩
      rw [row_set r0 1, hm]
      rfl
    · refine (take_one g m (.int .u32 (y : Nat)) (w.drewN q) hy (row_free r0 2)).mono ?_
      rintro r w' ⟨rfl, rfl⟩
      refine ⟨rfl, fin _ ((But.refl (· = g) (w.drewN q)).set _ _ (.inl rfl)) ?_⟩
      rw [row_set r0 2, hm]
      rfl
  have hbm : b = decide (z4 R ≤ m) := by rw [hb, hm]; rfl
  clear h hx hy hcut hylt hv hm hFR hfx hfy c3 hb h1 h2
  generalize z4 R = z at hbm HC
  by_cases hz : z ≤ m
  case' pos => (obtain rfl : b = true := by rw [hbm]; simp [hz]); have hzi : (z : Int) ≤ (m : Int) := by omega
  case' neg => (obtain rfl : b = false := by rw [hbm]; simp [hz]); have hzi : (m : Int) < (z : Int) := by omega
  all_goals
    simp only [Bool.false_eq_true, if_false, if_true] at HC ⊢
    have HZ := hid hz
    clear hbm hz
    go_enter Try.func20, Try.ntmps20
    go_wp2_with (first
      | (go_at_call 35; refine HM.out.mono ?_; rintro r w' ⟨rfl, rfl⟩)
      | (go_at_call 27; refine (HL.out _).mono ?_; rintro r w' ⟨rfl, rfl⟩)
      | (go_at_call 29; refine HC.out.mono ?_; rintro r w1 ⟨rfl, d3, ht⟩; have HT := hid ht; clear ht)
      | (go_at_call 28; refine HT.out.mono ?_; rintro r w2 ⟨rfl, hd⟩; have HD := hid (dshed_pre hd); clear hd d3)
      | (go_at_call 30; refine HD.out.mono ?_; rintro r w3 ⟨b3, ok3, rfl, h3, e1, e2⟩; have H3 := hid h3; have E2 := hid e2; clear h3 e1 e2))
    go_loopw [9] (fun vo wr => ∃ ok : Bool, vo = .bool ok ∧ Hid (Dst B S w g N FR fx1 fy1 wr ok) ∧ Hid (wdW wr g < 4294967296)) (fun vo wr => 4294967296 - wdW wr g + tf vo)
    case atStart => exact ⟨_, rfl, H3, E2⟩
    case round =>
      obtain ⟨ok, rfl, hst, hwd⟩ := hrel
      clear H3 E2 HM HL HC HZ
      obtain ⟨R1, k, x1, y1, A1, n1, c1, hd, hbt, hw, hor⟩ := hst.out.is
      cases ok
      · rcases hor with ⟨h0, _⟩ | ⟨_, rfl, rfl, rfl⟩
        · cases h0
        have HE := hid hd
        have HB := hid hbt
        clear hd hbt hw hst
        go_wp2_with fail
        go_ret2
        exact ⟨rfl, ⟨_, _, _, HE.out⟩, HB.out⟩
      · have hor2 : R1.drop (1 + (shd k x1 y1).1.length) = FR ∧ (shd k x1 y1).2 = (fx1, fy1) := by
          rcases hor with ⟨_, hl, hf⟩ | ⟨h0, _⟩
          · exact ⟨hl, hf⟩
          · cases h0
        obtain ⟨hl, hf⟩ := hor2
        clear hor
        have hwr : wdW wr g = y1 - x1 := wdW_of (row_cell hd.row 1) (row_cell hd.row 2)
        have HN : Hid (Calls Try.prog 33 #[.pointer (some ⟨g, 0, none⟩)] wr fun r w' => r = .returned noResult ∧ Dre B S w g N FR fx1 fy1 w' x1 y1 ∧ wdW w' g = wdW wr g) := by
          refine (next_any hd).mono ?_
          rintro r w' ⟨rfl, hb2, A2, n2, c2, hd2⟩
          refine ⟨rfl, ⟨R1.drop 1, k, A2, n2, c2, hd2, hbt.trans hb2 (fun i hi => .inl hi), hw, ?_, hf⟩, ?_⟩
          · rw [List.drop_drop]; exact hl
          · rw [hwr]; exact wdW_of (row_cell hd2.row 1) (row_cell hd2.row 2)
        clear hd hbt hw hst hl hf hwr
        go_wp2_with (first
          | (go_at_call 33; refine HN.out.mono ?_; rintro r w4 ⟨rfl, h4, q4⟩; have HD4 := hid (dshed_pre h4); have Q4 := hid q4; clear h4 q4)
          | (go_at_call 30; refine HD4.out.mono ?_; rintro r w5 ⟨b5, ok5, rfl, h5, e1, e2⟩; have H5 := hid h5; have E1 := hid e1; have E2 := hid e2; clear h5 e1 e2))
        go_roundw
        case rel => exact ⟨ok5, rfl, H5, E2⟩
        case measure => exact less_wd E1.out Q4.out E2.out
set_option maxRecDepth 10000 in
set_option maxHeartbeats 1000000 in
theorem Get_arg (g : Nat) (w : World) (h : w.cell? ⟨g, 0, none⟩ = some (.pointer (some ⟨g, 0, none⟩))) (p : Int) (hp : ¬ (1 ≤ p ∧ p ≤ 65535)) :
    Calls Try.prog 20 #[.pointer (some ⟨g, 0, none⟩), .int .i64 p] w fun r w' => r = .returned (.tuple #[.int .i64 0, .int .i64 2]) ∧ w = w' := by
  have HM := hid (dmade_yes g w h)
  have hpp : decide (1 ≤ p ∧ p ≤ 65535) = false := decide_eq_false hp
  have HL := hid (fun w => likely_any p w)
  rw [hpp] at HL
  clear h hp hpp
  go_enter Try.func20, Try.ntmps20
  go_wp2_with (first
    | (go_at_call 35; refine HM.out.mono ?_; rintro r w' ⟨rfl, rfl⟩)
    | (go_at_call 27; refine (HL.out _).mono ?_; rintro r w' ⟨rfl, rfl⟩))
  go_ret2
  exact ⟨rfl, rfl⟩
end Go.Proofs.Ytbgbacajgaeooaa
