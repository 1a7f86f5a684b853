/-
  LexSpaces: its walk (written by tools/stage18/gen_spw.py).
-/
import Derived.Test.YtnjknjbffgjelaaDoorSai
import Derived.Test.YtnjknjbffgjelaaDoorSme
set_option linter.unusedVariables false
set_option linter.unusedSimpArgs false
namespace Go.Proofs.YtnjknjbffgjelaaDoor
open Go.RowKit

abbrev PowIs (w : World) : Prop := Lib.TabIs Tryd.prog w "internal/strconv.uint64pow10" .u64 Lib.pow10Tab
theorem ix34_0 (w : World) : (Instr.index 34 (.agg #[.string ⟨#[32]⟩, .string ⟨#[10]⟩, .string ⟨#[32, 35, 32, 97, 32, 125, 10]⟩, .string ⟨#[9, 13]⟩]) (.int .i64 0)).run Tryd.prog w = .ok (.string ⟨#[32]⟩) w := by kernel_rfl
theorem ix34_1 (w : World) : (Instr.index 34 (.agg #[.string ⟨#[32]⟩, .string ⟨#[10]⟩, .string ⟨#[32, 35, 32, 97, 32, 125, 10]⟩, .string ⟨#[9, 13]⟩]) (.int .i64 1)).run Tryd.prog w = .ok (.string ⟨#[10]⟩) w := by kernel_rfl
theorem ix34_2 (w : World) : (Instr.index 34 (.agg #[.string ⟨#[32]⟩, .string ⟨#[10]⟩, .string ⟨#[32, 35, 32, 97, 32, 125, 10]⟩, .string ⟨#[9, 13]⟩]) (.int .i64 2)).run Tryd.prog w = .ok (.string ⟨#[32, 35, 32, 97, 32, 125, 10]⟩) w := by kernel_rfl
theorem ix34_3 (w : World) : (Instr.index 34 (.agg #[.string ⟨#[32]⟩, .string ⟨#[10]⟩, .string ⟨#[32, 35, 32, 97, 32, 125, 10]⟩, .string ⟨#[9, 13]⟩]) (.int .i64 3)).run Tryd.prog w = .ok (.string ⟨#[9, 13]⟩) w := by kernel_rfl
/-- What is said of D with bt between. -/
def SayIs (V1 : World) (g n c : Nat) (b : ByteArray) (ps : ByteArray) : Prop := ∀ V, Below V1.heap.size V1 V → Calls Tryd.prog 9 #[.slice (some ⟨g, 0, none⟩) n c, .string b] V fun e w' => e = .returned (.string ps) ∧ Below V.heap.size V w'
/-- What is told of a text that is said. -/
def TellIs (V1 : World) (g n c : Nat) (ps : ByteArray) : Prop := ∀ V, Below V1.heap.size V1 V → Calls Tryd.prog 5 #[.string ps] V fun e w' => ∃ g2 m c2, e = .returned (.tuple #[.slice (some ⟨g2, 0, none⟩) m c2, .agg #[.int .i64 0, .int .i64 0]]) ∧ Below V.heap.size V w' ∧
  ∀ V2, Below w'.heap.size w' V2 → Calls Tryd.prog 10 #[.slice (some ⟨g, 0, none⟩) n c, .slice (some ⟨g2, 0, none⟩) m c2] V2 fun e2 w2 => e2 = .returned (.bool true) ∧ Below V2.heap.size V2 w2
theorem say_is {V1 : World} {D : List TD} {g c : Nat} (hG : Good D) (hT : TkAt V1 g D) (hP : PowIs V1) (q : Nat) : SayIs V1 g D.length c (str (bts q)) (str (saidL D (bts q))) :=
  fun V b => said_any V D g D.length c rfl (bts q) (bts_len q) hG (hT.below b) (Lib.tabBelow_of_tabIs hP V b)
theorem tell_is {V1 : World} {D : List TD} {g c : Nat} (hG : Good D) (hT : TkAt V1 g D) (hS : SgIs V1) (q : Nat) (hq : q < 4) (hs : (str (saidL D (bts q))).size ≤ 16384) : TellIs V1 g D.length c (str (saidL D (bts q))) := by
  intro V b
  obtain ⟨E, e1, ha⟩ := hG.back q hq (by rw [← str_size]; exact hs)
  refine (Tokens_any V (str (saidL D (bts q))) (by omega) (hS.below b)).mono ?_
  rintro e w' ⟨A, c2, rfl, ho, hb⟩
  rw [bl_str, e1] at ho ⊢
  have hone : 0 < E.length := by rw [← ha.1]; exact hG.one
  obtain ⟨g2, rfl, ht⟩ := own_tk ho rfl hone
  exact ⟨g2, E.length, c2, rfl, hb, fun V2 b2 => same_true V2 D E g g2 _ _ c c2 rfl rfl (by have := hG.len; omega) ha ((hT.below (bel_trans b hb)).below (by
    have := bel_trans b hb
    exact b2)) (ht.below b2)⟩
set_option maxRecDepth 10000 in
set_option maxHeartbeats 16000000 in
theorem spaces_any (s : ByteArray) (w : World) (ws : s.size ≤ maxLen) (hG : SgIs w) (hP : PowIs w) : Calls Tryd.prog 4 #[.string s] w fun e w' => e = .returned (.bool true) ∧ Below w.heap.size w w' := by
  have zf := zero25
  have z33 := zero33
  have HG := hid (fun V (b : Below w.heap.size w V) => hG.below b)
  have hmx : s.size ≤ 9223372036854775807 := ws
  by_cases hb : 4000 < s.size
  · have d1 : decide ((4000 : Int) < (s.size : Int)) = true := decide_eq_true (by omega)
    have HA := hid (awake_any w hG)
    clear hb ws hG hP
    go_enter Tryd.func4, Tryd.ntmps4
    go_wp2_with (go_at_call 8; refine HA.out.mono ?_; rintro e W4 ⟨rfl, b4⟩)
    go_ret
    exact ⟨rfl, b4⟩
  have d1 : decide ((4000 : Int) < (s.size : Int)) = false := decide_eq_false (by omega)
  have HT := hid (Tokens_any w s (by omega) hG)
  rcases lexR_good (bl s) (by rw [bl_len]; omega) with ⟨el, hR, hel⟩ | ⟨D, hR, hD⟩
  · rw [hR] at HT
    have HT' : Hid (Calls Tryd.prog 5 #[.string s] w fun e w' => ∃ A c, e = .returned (.tuple #[.slice A 0 c, .agg #[.int .i64 120, .int .i64 (el : Nat)]]) ∧ Below w.heap.size w w') := hid (HT.out.mono (by
      rintro e w' ⟨A, c, rfl, ho, hb⟩
      exact ⟨A, c, rfl, hb⟩))
    have hz : (1 : Int) ≤ (el : Int) := by omega
    clear hb ws hG hP HT hR hel
    go_enter Tryd.func4, Tryd.ntmps4
    go_upto_region 4 with (go_at_call 5; refine HT'.out.mono ?_; rintro e W1 ⟨A1, c1, rfl, b1⟩)
    have B1 := hid (bel_trans b1 (bel_a W1 (.cells #[.int .i64 120, .int .i64 (el : Nat)] 25)))
    have F1 : Hid (F25 (W1.alloc (.cells #[.int .i64 120, .int .i64 (el : Nat)] 25)) W1.heap.size 120 (el : Nat)) := hid ⟨heap_alloc_new _ _⟩
    generalize W1.alloc _ = V1 at *
    generalize W1.heap.size = f1 at *
    clear b1 HT'
    have r10 := row_cell F1.out.row 0
    have r11 := row_cell F1.out.row 1
    have HA := hid (awake_any V1 (HG.out V1 B1.out))
    clear F1 HG
    go_wp2_with (go_at_call 8; refine HA.out.mono ?_; rintro e W4 ⟨rfl, b4⟩)
    go_ret
    exact ⟨rfl, bel_trans B1.out b4⟩
  · rw [hR] at HT
    obtain ⟨n, hn⟩ : ∃ n, D.length = n := ⟨_, rfl⟩
    have hn4 : n ≤ 4001 := hn ▸ hD.len
    have hn1 : 0 < n := hn ▸ hD.one
    have HT' : Hid (Calls Tryd.prog 5 #[.string s] w fun e w' => ∃ g c, e = .returned (.tuple #[.slice (some ⟨g, 0, none⟩) n c, .agg #[.int .i64 0, .int .i64 0]]) ∧ TkAt w' g D ∧ Below w.heap.size w w') := hid (HT.out.mono (by
      rintro e w' ⟨A, c, rfl, ho, hb⟩
      obtain ⟨g, rfl, ht⟩ := own_tk ho rfl hD.one
      subst hn
      exact ⟨g, c, rfl, ht, hb⟩))
    have HP := hid (fun V (b : Below w.heap.size w V) => Lib.tabBelow_of_tabIs hP V b)
    replace hD := hid hD
    clear hb ws hG hP HT hR
    go_enter Tryd.func4, Tryd.ntmps4
    go_upto_region 4 with (go_at_call 5; refine HT'.out.mono ?_; rintro e W1 ⟨g, c1, rfl, t1, b1⟩)
    have B1 := hid (bel_trans b1 (bel_a W1 (.cells #[.int .i64 0, .int .i64 0] 25)))
    have T1 := hid (t1.below (bel_a W1 (.cells #[.int .i64 0, .int .i64 0] 25)))
    have F1 : Hid (F25 (W1.alloc (.cells #[.int .i64 0, .int .i64 0] 25)) W1.heap.size 0 0) := hid ⟨heap_alloc_new _ _⟩
    generalize W1.alloc _ = V1 at *
    generalize W1.heap.size = f1 at *
    clear b1 t1 HT'
    have r10 := row_cell F1.out.row 0
    have r11 := row_cell F1.out.row 1
    have G1 := hid (HG.out V1 B1.out)
    have P1 := hid (HP.out V1 B1.out)
    clear F1 HG HP
    go_upto_region 8 with fail
    clear r10 r11
    go_loopw [5, 43] (fun v5 v wr => ∃ k m : Nat, k ≤ n ∧ v5 = .int .i64 (m : Int) ∧ v = .int .i64 (k : Int) ∧ Hid (∀ i (h : i < D.length), k ≤ i → m ≤ D[i].line) ∧ Hid (Below V1.heap.size V1 wr)) (fun _ v _ => n - (intOf v).toNat)
    case atStart => exact ⟨0, 1, by omega, rfl, rfl, hid (fun i h _ => (hD.out.each i h).2.2.2.2), hid (Below.refl _ _)⟩
    case round =>
      obtain ⟨k, m, hk, rfl, rfl, HM, HB⟩ := hrel
      by_cases hlt : k < n
      · have hz : (k : Int) < (n : Int) := by omega
        have hkD : k < D.length := by omega
        obtain ⟨a0, a1, a2, a3⟩ := (T1.out.below HB.out).cells k hkD
        have hml := HM.out k hkD (Nat.le_refl _)
        have HM2 : Hid (∀ i (h : i < D.length), k + 1 ≤ i → D[k].line ≤ D[i].line) := hid (fun i h hi => hD.out.rise k i hkD h (by omega))
        have hW : Hid (∀ V, wr.alloc (.cells #[.int .u8 (D[k].k : Nat), .string (str D[k].s), .int .i64 (D[k].n : Nat), .int .i64 (D[k].line : Nat)] 33) = V → V.cell? ⟨wr.heap.size, 3, none⟩ = some (.int .i64 (D[k].line : Nat)) ∧ Hid (Below V1.heap.size V1 V)) := hid (by
          rintro V rfl
          have r := heap_alloc_new wr (.cells #[.int .u8 (D[k].k : Nat), .string (str D[k].s), .int .i64 (D[k].n : Nat), .int .i64 (D[k].line : Nat)] 33)
          exact ⟨row_cell r 3, hid (bel_trans HB.out (bel_a wr _))⟩)
        clear HM
        generalize D[k].s = x1 at *
        generalize D[k].n = x2 at *
        generalize D[k].line = x3 at *
        generalize D[k].k = x0 at *
        go_upto_region 10 with fail
        obtain ⟨V, hV⟩ : ∃ V, wr.alloc (.cells #[.int .u8 (x0 : Nat), .string (str x1), .int .i64 (x2 : Nat), .int .i64 (x3 : Nat)] 33) = V := ⟨_, rfl⟩
        obtain ⟨q3, BV⟩ := hW.out V hV
        rw [hV]
        generalize wr.heap.size = gb at *
        clear hV hW HB a0 a1 a2 a3
        have d3 : decide ((x3 : Int) < (m : Int)) = false := decide_eq_false (by omega)
        have d4 : ¬ (x3 : Int) < (m : Int) := by omega
        have d6 : ¬ x3 < m := by omega
        clear hml
        go_wp2_with fail
        go_roundw
        case rel => exact ⟨k + 1, x3, by omega, rfl, by go_num, HM2, BV⟩
        case measure => simp [intOf]; omega
      · obtain rfl : k = n := by omega
        clear HM
        go_upto_region 15 with fail
        go_loopw [55] (fun v wv => ∃ q : Nat, q ≤ 4 ∧ v = .int .i64 (q : Int) ∧ Hid (Below V1.heap.size V1 wv)) (fun v _ => 4 - (intOf v).toNat)
        case atStart => exact ⟨0, by omega, rfl, HB⟩
        case round =>
          obtain ⟨q, hq, rfl, HC⟩ := hrel
          clear HB
          rcases (by omega : q = 4 ∨ q = 0 ∨ q = 1 ∨ q = 2 ∨ q = 3) with rfl | rfl | rfl | rfl | rfl
          · have HA := hid (awake_any wr (G1.out.below HC.out))
            go_wp2_with (go_at_call 8; refine HA.out.mono ?_; rintro e W4 ⟨rfl, b4⟩)
            go_ret
            exact ⟨rfl, bel_trans B1.out (bel_trans HC.out b4)⟩
          · have ix := ix34_0
            have HS : Hid (SayIs V1 g k c1 ⟨#[32]⟩ (str (saidL D (bts 0)))) := hid (hn ▸ say_is hD.out T1.out P1.out 0)
            have HY := hid (fun hs => tell_is (c := c1) hD.out T1.out G1.out 0 (by omega) hs)
            rw [hn] at HY
            generalize str (saidL D (bts 0)) = ps at *
            by_cases hbg : 16384 < ps.size
            · have d5 : decide ((16384 : Int) < (ps.size : Int)) = true := decide_eq_true (by omega)
              clear HY hbg
              go_wp2_with (go_at_call 9; refine (HS.out _ HC.out).mono ?_; rintro e W5 ⟨rfl, b5⟩; have BC := hid (bel_trans HC.out b5))
              go_roundw
              case rel => exact ⟨1, by omega, by go_num, BC⟩
              case measure => simp [intOf]
            · have d5 : decide ((16384 : Int) < (ps.size : Int)) = false := decide_eq_false (by omega)
              have HY2 := hid (HY.out (by omega))
              clear HY hbg
              go_upto_region 20 with (first
                | (go_at_call 9; refine (HS.out _ HC.out).mono ?_; rintro e W5 ⟨rfl, b5⟩; have BC := hid (bel_trans HC.out b5); clear b5)
                | (go_at_call 5; refine (HY2.out _ BC.out).mono ?_; rintro e W6 ⟨g2, m2, c2, rfl, b6, h6⟩; replace b6 := hid b6; replace h6 := hid h6))
              have K6 := hid (bel_trans BC.out (bel_trans b6.out (bel_a W6 (.cells #[.int .i64 0, .int .i64 0] 25))))
              have F6 : Hid (F25 (W6.alloc (.cells #[.int .i64 0, .int .i64 0] 25)) W6.heap.size 0 0) := hid ⟨heap_alloc_new _ _⟩
              have H6 := hid (h6.out _ (bel_a W6 (.cells #[.int .i64 0, .int .i64 0] 25)))
              generalize W6.alloc _ = V6 at *
              generalize W6.heap.size = f6 at *
              have r60 := row_cell F6.out.row 0
              clear b6 h6 F6 HY2 HS BC
              go_wp2_with (go_at_call 10; refine H6.out.mono ?_; rintro e W7 ⟨rfl, b7⟩; have B7 := hid (bel_trans K6.out b7))
              go_roundw
              case rel => exact ⟨1, by omega, by go_num, B7⟩
              case measure => simp [intOf]
          · have ix := ix34_1
            have HS : Hid (SayIs V1 g k c1 ⟨#[10]⟩ (str (saidL D (bts 1)))) := hid (hn ▸ say_is hD.out T1.out P1.out 1)
            have HY := hid (fun hs => tell_is (c := c1) hD.out T1.out G1.out 1 (by omega) hs)
            rw [hn] at HY
            generalize str (saidL D (bts 1)) = ps at *
            by_cases hbg : 16384 < ps.size
            · have d5 : decide ((16384 : Int) < (ps.size : Int)) = true := decide_eq_true (by omega)
              clear HY hbg
              go_wp2_with (go_at_call 9; refine (HS.out _ HC.out).mono ?_; rintro e W5 ⟨rfl, b5⟩; have BC := hid (bel_trans HC.out b5))
              go_roundw
              case rel => exact ⟨2, by omega, by go_num, BC⟩
              case measure => simp [intOf]
            · have d5 : decide ((16384 : Int) < (ps.size : Int)) = false := decide_eq_false (by omega)
              have HY2 := hid (HY.out (by omega))
              clear HY hbg
              go_upto_region 20 with (first
                | (go_at_call 9; refine (HS.out _ HC.out).mono ?_; rintro e W5 ⟨rfl, b5⟩; have BC := hid (bel_trans HC.out b5); clear b5)
                | (go_at_call 5; refine (HY2.out _ BC.out).mono ?_; rintro e W6 ⟨g2, m2, c2, rfl, b6, h6⟩; replace b6 := hid b6; replace h6 := hid h6))
              have K6 := hid (bel_trans BC.out (bel_trans b6.out (bel_a W6 (.cells #[.int .i64 0, .int .i64 0] 25))))
              have F6 : Hid (F25 (W6.alloc (.cells #[.int .i64 0, .int .i64 0] 25)) W6.heap.size 0 0) := hid ⟨heap_alloc_new _ _⟩
              have H6 := hid (h6.out _ (bel_a W6 (.cells #[.int .i64 0, .int .i64 0] 25)))
              generalize W6.alloc _ = V6 at *
              generalize W6.heap.size = f6 at *
              have r60 := row_cell F6.out.row 0
              clear b6 h6 F6 HY2 HS BC
              go_wp2_with (go_at_call 10; refine H6.out.mono ?_; rintro e W7 ⟨rfl, b7⟩; have B7 := hid (bel_trans K6.out b7))
              go_roundw
              case rel => exact ⟨2, by omega, by go_num, B7⟩
              case measure => simp [intOf]
          · have ix := ix34_2
            have HS : Hid (SayIs V1 g k c1 ⟨#[32, 35, 32, 97, 32, 125, 10]⟩ (str (saidL D (bts 2)))) := hid (hn ▸ say_is hD.out T1.out P1.out 2)
            have HY := hid (fun hs => tell_is (c := c1) hD.out T1.out G1.out 2 (by omega) hs)
            rw [hn] at HY
            generalize str (saidL D (bts 2)) = ps at *
            by_cases hbg : 16384 < ps.size
            · have d5 : decide ((16384 : Int) < (ps.size : Int)) = true := decide_eq_true (by omega)
              clear HY hbg
              go_wp2_with (go_at_call 9; refine (HS.out _ HC.out).mono ?_; rintro e W5 ⟨rfl, b5⟩; have BC := hid (bel_trans HC.out b5))
              go_roundw
              case rel => exact ⟨3, by omega, by go_num, BC⟩
              case measure => simp [intOf]
            · have d5 : decide ((16384 : Int) < (ps.size : Int)) = false := decide_eq_false (by omega)
              have HY2 := hid (HY.out (by omega))
              clear HY hbg
              go_upto_region 20 with (first
                | (go_at_call 9; refine (HS.out _ HC.out).mono ?_; rintro e W5 ⟨rfl, b5⟩; have BC := hid (bel_trans HC.out b5); clear b5)
                | (go_at_call 5; refine (HY2.out _ BC.out).mono ?_; rintro e W6 ⟨g2, m2, c2, rfl, b6, h6⟩; replace b6 := hid b6; replace h6 := hid h6))
              have K6 := hid (bel_trans BC.out (bel_trans b6.out (bel_a W6 (.cells #[.int .i64 0, .int .i64 0] 25))))
              have F6 : Hid (F25 (W6.alloc (.cells #[.int .i64 0, .int .i64 0] 25)) W6.heap.size 0 0) := hid ⟨heap_alloc_new _ _⟩
              have H6 := hid (h6.out _ (bel_a W6 (.cells #[.int .i64 0, .int .i64 0] 25)))
              generalize W6.alloc _ = V6 at *
              generalize W6.heap.size = f6 at *
              have r60 := row_cell F6.out.row 0
              clear b6 h6 F6 HY2 HS BC
              go_wp2_with (go_at_call 10; refine H6.out.mono ?_; rintro e W7 ⟨rfl, b7⟩; have B7 := hid (bel_trans K6.out b7))
              go_roundw
              case rel => exact ⟨3, by omega, by go_num, B7⟩
              case measure => simp [intOf]
          · have ix := ix34_3
            have HS : Hid (SayIs V1 g k c1 ⟨#[9, 13]⟩ (str (saidL D (bts 3)))) := hid (hn ▸ say_is hD.out T1.out P1.out 3)
            have HY := hid (fun hs => tell_is (c := c1) hD.out T1.out G1.out 3 (by omega) hs)
            rw [hn] at HY
            generalize str (saidL D (bts 3)) = ps at *
            by_cases hbg : 16384 < ps.size
            · have d5 : decide ((16384 : Int) < (ps.size : Int)) = true := decide_eq_true (by omega)
              clear HY hbg
              go_wp2_with (go_at_call 9; refine (HS.out _ HC.out).mono ?_; rintro e W5 ⟨rfl, b5⟩; have BC := hid (bel_trans HC.out b5))
              go_roundw
              case rel => exact ⟨4, by omega, by go_num, BC⟩
              case measure => simp [intOf]
            · have d5 : decide ((16384 : Int) < (ps.size : Int)) = false := decide_eq_false (by omega)
              have HY2 := hid (HY.out (by omega))
              clear HY hbg
              go_upto_region 20 with (first
                | (go_at_call 9; refine (HS.out _ HC.out).mono ?_; rintro e W5 ⟨rfl, b5⟩; have BC := hid (bel_trans HC.out b5); clear b5)
                | (go_at_call 5; refine (HY2.out _ BC.out).mono ?_; rintro e W6 ⟨g2, m2, c2, rfl, b6, h6⟩; replace b6 := hid b6; replace h6 := hid h6))
              have K6 := hid (bel_trans BC.out (bel_trans b6.out (bel_a W6 (.cells #[.int .i64 0, .int .i64 0] 25))))
              have F6 : Hid (F25 (W6.alloc (.cells #[.int .i64 0, .int .i64 0] 25)) W6.heap.size 0 0) := hid ⟨heap_alloc_new _ _⟩
              have H6 := hid (h6.out _ (bel_a W6 (.cells #[.int .i64 0, .int .i64 0] 25)))
              generalize W6.alloc _ = V6 at *
              generalize W6.heap.size = f6 at *
              have r60 := row_cell F6.out.row 0
              clear b6 h6 F6 HY2 HS BC
              go_wp2_with (go_at_call 10; refine H6.out.mono ?_; rintro e W7 ⟨rfl, b7⟩; have B7 := hid (bel_trans K6.out b7))
              go_roundw
              case rel => exact ⟨4, by omega, by go_num, B7⟩
              case measure => simp [intOf]
end Go.Proofs.YtnjknjbffgjelaaDoor
