/-
  The document's Tokens: its walk (written by tools/stage18/gen_rft.py).
-/
import Derived.Test.YtnjknjbffgjelaaDoorRfu
set_option linter.unusedVariables false
set_option linter.unusedSimpArgs false
namespace Go.Proofs.YtnjknjbffgjelaaDoor
open Go.RowKit

theorem c4_at2 (t : TD) (q : ByteArray) (hq : q = str t.s) (W : World) (g : Nat) (h : W.heap[g]? = some (.cells #[.int .u8 (t.k : Nat), .string q, .int .i64 (t.n : Nat), .int .i64 (t.line : Nat)] 33 (0, 0))) : ∀ j u, (c4 t)[j]? = some u → W.cell? ((⟨g, 0, none⟩ : Addr).add j) = some u := by
  subst hq
  exact c4_at t W g h
theorem sg_len (i : Nat) : (sg i).length ≤ 3 := by
  by_cases h : i < 21
  · rcases (by omega : i < 3 ∨ (3 ≤ i ∧ i < 14) ∨ 14 ≤ i) with a | a | a
    · have := (sg_3.1 i a).2; omega
    · have := (sg_3.2.1 i a.2 a.1).2; omega
    · have := (sg_3.2.2 i h a).2; omega
  · have e : sg i = [] := by
      unfold sg
      rw [List.getD_eq_getElem?_getD, List.getElem?_eq_none (by show 21 ≤ i; omega)]; rfl
    rw [e]; exact Nat.zero_le _
theorem sg_get (i : Nat) (h : i < 21) : sgs[i]? = some (sg i) := by
  unfold sg
  have h2 : i < sgs.length := h
  rw [List.getD_eq_getElem?_getD, List.getElem?_eq_getElem h2]; rfl
/-- The best sign among those from i on: the first one that stands there. -/
def Best (L : List UInt8) (i : Nat) (S : List UInt8) : Prop := (S = [] ∧ ∀ j, i ≤ j → j < 21 → (sg j).isPrefixOf L = false) ∨ ∃ j, i ≤ j ∧ j < 21 ∧ (sg j).isPrefixOf L = true ∧ S = sg j ∧ ∀ j', i ≤ j' → j' < j → (sg j').isPrefixOf L = false
theorem some_str {c : UInt8} {l : List UInt8} : (str (c :: l)).toList.isEmpty = false := by
  rw [Lib.toList_data]; rfl
set_option maxRecDepth 10000 in
set_option maxHeartbeats 32000000 in
theorem RTokens_any (w : World) (s : ByteArray) (hs : s.size ≤ 1000000000) : Calls Tryd.prog 6 #[.string s] w (TokPost w (lexR (bl s))) := by
  have hlen := bl_len s
  have zf := zero25
  have z33 := zero33
  obtain ⟨i0, hi, hz0, hz1, hz2⟩ := info_at i33
  by_cases hbig : 16384 < s.size
  · have e : lexR (bl s) = ([], 3, 0) := by unfold lexR; rw [if_pos (by omega)]
    rw [e]
    have d1 : decide ((16384 : Int) < (s.size : Int)) = true := decide_eq_true (by omega)
    go_enter Tryd.func6, Tryd.ntmps6
    go_wp2_with fail
    refine bodyPost_ret (results_25_2 (by kernel_rfl : Tryd.f6.results = #[.tmp 2, .cell 3 25]) _ _ w.heap.size (.int .i64 3) (.int .i64 0) rfl (heap_alloc_new _ _)) rfl ?_
    exact ⟨none, 0, rfl, World.ownsRow_nil _ _ _ _, (Below.refl _ _).alloc (Nat.le_refl _) _⟩
  have hnb : ¬ 16384 < (bl s).length := by omega
  have d1 : decide ((16384 : Int) < (s.size : Int)) = false := decide_eq_false (by omega)
  obtain ⟨R, hR⟩ : ∃ R, lexR (bl s) = R := ⟨_, rfl⟩
  rw [hR]
  replace hR := hid hR
  replace hnb := hid hnb
  have HIX := hid (ixs s)
  go_enter Tryd.func6, Tryd.ntmps6
  go_upto_region 5 with fail
  have S0 : Hid (RSt w (w.alloc (.cells #[.int .i64 0, .int .i64 0] 25)) (.slice none 0 0) []) := hid ⟨heap_alloc_new _ _, World.ownsRow_nil _ _ _ _, (Below.refl _ w).alloc (Nat.le_refl _) _⟩
  go_loopw [4, 5, 6] (fun v4 v5 v6 wr => ∃ (b line : Nat) (ts : List (Tk × Nat)) (vv : Value), b ≤ s.size ∧ ts.length ≤ b ∧ line ≤ b + 1 ∧ vv = v4 ∧ v5 = .int .i64 (line : Int) ∧ v6 = .int .i64 (b : Int) ∧ Hid (RSt w wr vv (ts.map tkL)) ∧ Hid (lexL 1 (bl s) = comb ts (lexL line ((bl s).drop b)))) (fun _ _ v6 _ => s.size - (intOf v6).toNat)
  case atStart => exact ⟨0, 1, [], _, by omega, by simp, by omega, rfl, rfl, rfl, S0, (by
    show _ = comb [] (lexL 1 ((bl s).drop 0))
    rw [List.drop_zero]
    cases lexL 1 (bl s) <;> rfl)⟩
  case round =>
    obtain ⟨b, line, ts, vv, hbl, htl, hll, rfl, rfl, rfl, HS, HX⟩ := hrel
    clear S0
    rename World => Wo
    obtain ⟨D, hD⟩ : ∃ D, ts.map tkL = D := ⟨_, rfl⟩
    have hDl : D.length ≤ 16384 := by rw [← hD, List.length_map]; omega
    rw [hD] at HS
    have HS3 := HS
    clear HS
    replace hD := hid hD
    by_cases hp : b < s.size
    case neg =>
      obtain rfl : b = s.size := by omega
      have e1 : lexL 1 (bl s) = .ok (ts, line) := by
        rw [HX.out, List.drop_of_length_le (by omega), lexL_nil]
        show Except.ok (ts ++ [], line) = _
        rw [List.append_nil]
      obtain rfl : R = (D ++ [⟨4, [], 0, line⟩], 0, 0) := hR.out.symm.trans (by rw [← hD.out]; exact lexR_ok hnb.out e1)
      clear HX hR hD e1 HIX
      go_upto_region 40 with fail
      go_wp2_with (first
        | (at_builtin; refine wpList_append_own _ rfl (.tmp 162) (.tmp 165) 22 rfl (w.heap.size + 1) 33 i0 _ 4 40 Tryd.underlying22 hi hz0 hz1 hz2 rfl (by decide) vv D.length (D.flatMap c4) rfl (HS3.out.own.alloc _) ⟨Wo.heap.size, 0, none⟩ 1 1 (c4 ⟨4, [], 0, line⟩) rfl rfl (c4_at _ _ _ (heap_alloc_new _ _)) (c4_one _) (by unfold maxLen; omega) (by omega) (by have := HS3.out.ge; simp; omega) ?_; intro v' w3 ho hg hn; have S3 := hid (HS3.out.grown (t := ⟨4, [], 0, line⟩) (bel_a Wo _) hg ho); clear ho hg hn)
        | (refine wpList_store_row (o := ⟨none, .store 25 (.tmp 3) (.tmp 167), _, _, _, _⟩) rfl 25 (.tmp 3) (.tmp 167) rfl w.heap.size #[.int .i64 0, .int .i64 0] rfl rfl 25 _ S3.out.fb (sz25 _ _) rfl (one25 _ _) ?_))
      obtain ⟨q1, q2, q3⟩ := S3.out.fin (.int .i64 0) (.int .i64 0)
      refine bodyPost_ret (results_25_2 (by kernel_rfl : Tryd.f6.results = #[.tmp 2, .cell 3 25]) _ _ w.heap.size (.int .i64 0) (.int .i64 0) rfl q1) rfl ?_
      obtain ⟨A, c, rfl, _⟩ := own_slice q2
      exact ⟨A, c, rfl, q2, q3⟩
    have hcl : b < (bl s).length := by omega
    have hbz : (b : Int) < (s.size : Int) := by omega
    have hbi : (b : Int) ≤ 16384 := by omega
    have hli : (line : Int) ≤ 16385 := by omega
    obtain ⟨c, hc⟩ : ∃ c, (bl s)[b] = c := ⟨_, rfl⟩
    have ixb := HIX.out b hcl
    rw [hc] at ixb
    by_cases h10 : c.toNat = 10
    · have hX2 := hid (step_nl hcl HX.out (by rw [hc]; exact h10))
      have e10 : ((c.toNat : Int) == 10) = true := by rw [h10]; rfl
      clear HX hR hc h10 HIX
      go_wp2_with fail
      go_roundw
      case rel => exact ⟨b + 1, line + 1, ts, _, by omega, by omega, by omega, rfl, by go_num, by go_num, by rw [hD.out]; exact HS3, hX2⟩
      case measure => simp [intOf]; omega
    have e10 : ((c.toNat : Int) == 10) = false := by simp only [beq_eq_false_iff_ne, ne_eq]; omega
    by_cases hb : isBlank c = true
    · have hX2 := hid (step_blank hcl HX.out (by rw [hc]; exact h10) (by rw [hc]; exact hb))
      have h3 : c.toNat = 32 ∨ c.toNat = 9 ∨ c.toNat = 13 := by unfold isBlank at hb; simp at hb; omega
      clear HX hR hc hb HIX
      obtain ⟨ci, hci⟩ : ∃ ci : Int, (c.toNat : Int) = ci := ⟨_, rfl⟩
      have h3i : ci = 32 ∨ ci = 9 ∨ ci = 13 := by omega
      rw [hci] at ixb e10
      clear hci h3 h10
      rcases h3i with rfl | rfl | rfl
      all_goals
        go_wp2_with fail
        go_roundw
        case rel => exact ⟨b + 1, line, ts, _, by omega, by omega, by omega, rfl, rfl, by go_num, by rw [hD.out]; exact HS3, hX2⟩
        case measure => simp [intOf]; omega
    replace hb : isBlank c = false := Bool.eq_false_iff.2 hb
    have b1 : ((c.toNat : Int) == 32) = false := by simp only [beq_eq_false_iff_ne, ne_eq]; intro q; unfold isBlank at hb; simp at hb; omega
    have b2 : ((c.toNat : Int) == 9) = false := by simp only [beq_eq_false_iff_ne, ne_eq]; intro q; unfold isBlank at hb; simp at hb; omega
    have b3 : ((c.toNat : Int) == 13) = false := by simp only [beq_eq_false_iff_ne, ne_eq]; intro q; unfold isBlank at hb; simp at hb; omega
    by_cases h35 : c.toNat = 35
    · have e35 : ((c.toNat : Int) == 35) = true := by rw [h35]; rfl
      have HXC := hid (fun q hq ht => step_remark (q := q) hcl HX.out (by rw [hc]; exact hb) (by rw [hc]; exact h35) hq ht)
      clear HX hR hc h35 hb h10
      go_upto_region 24 with fail
      go_loopw [6] (fun v6 wr => ∃ p : Nat, b ≤ p ∧ p ≤ s.size ∧ v6 = .int .i64 (p : Int) ∧ Hid (∀ j (h : j < (bl s).length), b ≤ j → j < p → noNl (bl s)[j] = true) ∧ wr = Wo) (fun v6 _ => s.size - (intOf v6).toNat)
      case atStart => exact ⟨b, Nat.le_refl _, hbl, rfl, fun j _ h1 h2 => absurd h2 (by omega), rfl⟩
      case round =>
        obtain ⟨p, hp1, hp2, rfl, HN, rfl⟩ := hrel
        clear ixb
        have hpi : (p : Int) ≤ 16384 := by omega
        by_cases hlt : p < s.size
        · have hz : (p : Int) < (s.size : Int) := by omega
          have ixp := HIX.out p (by omega)
          by_cases hq : noNl ((bl s)[p]'(by omega)) = true
          · have HN2 : Hid (∀ j (h : j < (bl s).length), b ≤ j → j < p + 1 → noNl (bl s)[j] = true) := fun j h h1 h2 => by
              by_cases e : j = p
              · subst e; exact hq
              · exact HN.out j h h1 (by omega)
            have ne : ((((bl s)[p]'(by omega)).toNat : Int) != 10) = true := by unfold noNl at hq; simp at hq ⊢; omega
            clear HN hq HIX
            generalize ((((bl s)[p]'(by omega)).toNat : Nat) : Int) = ci at *
            go_wp2_with fail
            go_roundw
            case rel => exact ⟨p + 1, by omega, by omega, by go_num, HN2, by first | rfl | trivial⟩
            case measure => simp [intOf]; omega
          · replace hq : noNl ((bl s)[p]'(by omega)) = false := Bool.eq_false_iff.2 hq
            have ne : ((((bl s)[p]'(by omega)).toNat : Int) != 10) = false := by unfold noNl at hq; simp at hq ⊢; omega
            obtain ⟨hX2, hlt2⟩ := HXC.out p hp1 (run_end hp1 (by omega) HN.out (fun _ => hq))
            replace hX2 := hid hX2
            clear HN hq HIX HXC
            generalize ((((bl s)[p]'(by omega)).toNat : Nat) : Int) = ci at *
            go_wp2_with fail
            go_roundw
            case rel => exact ⟨p, line, ts, _, by omega, by omega, by omega, rfl, rfl, rfl, by rw [hD.out]; exact HS3, hX2⟩
            case measure => simp [intOf]; omega
        · obtain rfl : p = s.size := by omega
          obtain ⟨hX2, hlt2⟩ := HXC.out s.size hp1 (run_end hp1 (by omega) HN.out (fun h => absurd h (by omega)))
          replace hX2 := hid hX2
          clear HN HIX HXC
          go_wp2_with fail
          go_roundw
          case rel => exact ⟨s.size, line, ts, _, by omega, by omega, by omega, rfl, rfl, rfl, by rw [hD.out]; exact HS3, hX2⟩
          case measure => simp [intOf]; omega
    have e35 : ((c.toNat : Int) == 35) = false := by simp only [beq_eq_false_iff_ne, ne_eq]; omega
    have HLt := hid (fun W q => letter_any W q)
    have HDg := hid (fun W q => digit_any W q)
    by_cases hL : isLetter c = true
    · have HXC := hid (fun q hq ht => step_word (q := q) hcl HX.out (by rw [hc]; exact hL) hq ht)
      have HLc := hid (HLt.out Wo c)
      rw [hL] at HLc
      clear HX hR hc hL hb h10 h35
      go_upto_region 28 with (go_at_call 12; refine HLc.out.mono ?_; rintro e wx ⟨rfl, ej⟩; rw [ej]; clear ej wx)
      clear HLc
      go_loopw [6] (fun v6 wr => ∃ p : Nat, b ≤ p ∧ p ≤ s.size ∧ v6 = .int .i64 (p : Int) ∧ Hid (∀ j (h : j < (bl s).length), b ≤ j → j < p → isLetter (bl s)[j] = true) ∧ wr = Wo) (fun v6 _ => s.size - (intOf v6).toNat)
      case atStart => exact ⟨b, Nat.le_refl _, hbl, rfl, fun j _ h1 h2 => absurd h2 (by omega), rfl⟩
      case round =>
        obtain ⟨p, hp1, hp2, rfl, HN, rfl⟩ := hrel
        clear ixb
        have hpi : (p : Int) ≤ 16384 := by omega
        have key : ((((bl s).drop b).takeWhile isLetter).length = p - b) → True := fun _ => trivial
        by_cases hlt : p < s.size ∧ isLetter ((bl s).getD p 0) = true
        · obtain ⟨hlt, hq⟩ := hlt
          have hz : (p : Int) < (s.size : Int) := by omega
          have ixp := HIX.out p (by omega)
          rw [List.getD_eq_getElem?_getD, List.getElem?_eq_getElem (by omega)] at hq
          simp only [Option.getD_some] at hq
          have HN2 : Hid (∀ j (h : j < (bl s).length), b ≤ j → j < p + 1 → isLetter (bl s)[j] = true) := fun j h h1 h2 => by
            by_cases e : j = p
            · subst e; exact hq
            · exact HN.out j h h1 (by omega)
          have HLp := hid (HLt.out wr ((bl s)[p]'(by omega)))
          rw [hq] at HLp
          clear HN hq HIX HLt HDg
          generalize ((((bl s)[p]'(by omega)).toNat : Nat) : Int) = ci at *
          go_wp2_with (go_at_call 12; refine HLp.out.mono ?_; rintro e wx ⟨rfl, ej⟩; rw [ej]; clear ej wx)
          go_roundw
          case rel => exact ⟨p + 1, by omega, by omega, by go_num, HN2, by first | rfl | trivial⟩
          case measure => simp [intOf]; omega
        · have htw := run_end (p := isLetter) hp1 (by omega : p ≤ (bl s).length) HN.out (fun h => by
            refine Bool.eq_false_iff.2 fun q => hlt ⟨by omega, ?_⟩
            rw [List.getD_eq_getElem?_getD, List.getElem?_eq_getElem h]
            exact q)
          obtain ⟨hX2, hlt2⟩ := HXC.out p hp1 htw
          replace hX2 := hid hX2
          have hq : s.extract b p = str (((bl s).drop b).takeWhile isLetter) := ext_tw s hp1 hp2 htw
          have hbpz : (b : Int) ≤ (p : Int) := by omega
          have hpsz : (p : Int) ≤ (s.size : Int) := by omega
          obtain ⟨tw, htwe⟩ : ∃ tw, ((bl s).drop b).takeWhile isLetter = tw := ⟨_, rfl⟩
          rw [htwe] at hq hX2
          have HQ : Hid (s.extract b p = str tw) := hq
          obtain ⟨ex, hex⟩ : ∃ ex, s.extract b p = ex := ⟨_, rfl⟩
          rw [hex] at HQ
          clear htw htwe HXC hq
          have fin : ∀ (Wz : World), True := fun _ => trivial
          by_cases hlt3 : p < s.size
          · have hz : (p : Int) < (s.size : Int) := by omega
            have ixp := HIX.out p (by omega)
            have HLp := hid (HLt.out wr ((bl s)[p]'(by omega)))
            have hq : isLetter ((bl s)[p]'(by omega)) = false := Bool.eq_false_iff.2 fun q => hlt ⟨hlt3, by rw [List.getD_eq_getElem?_getD, List.getElem?_eq_getElem (by omega)]; exact q⟩
            rw [hq] at HLp
            clear HN hq HIX HLt HDg hlt key fin
            generalize ((((bl s)[p]'(by omega)).toNat : Nat) : Int) = ci at *
            go_wp2_with (first
              | (go_at_call 12; refine HLp.out.mono ?_; rintro e wx ⟨rfl, ej⟩; rw [ej]; clear ej wx)
              | (at_builtin; refine wpList_append_own _ rfl (.tmp 109) (.tmp 116) 22 rfl (w.heap.size + 1) 33 i0 _ 4 40 Tryd.underlying22 hi hz0 hz1 hz2 rfl (by decide) vv D.length (D.flatMap c4) rfl (HS3.out.own.alloc _) ⟨wr.heap.size, 0, none⟩ 1 1 (c4 ⟨1, tw, 0, line⟩) rfl rfl (c4_at2 _ ex HQ.out _ _ (heap_alloc_new _ _)) (c4_one _) (by unfold maxLen; omega) (by omega) (by have := HS3.out.ge; simp; omega) ?_; intro v' w3 ho hg hn; have S3 := hid (HS3.out.grown (t := ⟨1, tw, 0, line⟩) (bel_a wr _) hg ho); clear ho hg hn))
            go_roundw
            case rel => exact ⟨p, line, ts ++ [(.word tw, line)], _, by omega, by rw [List.length_append]; simp; omega, by omega, rfl, rfl, rfl, by rw [List.map_append, hD.out]; exact S3, hX2⟩
            case measure => simp [intOf]; omega
          · obtain rfl : p = s.size := by omega
            clear HN HIX HLt HDg hlt key fin
            go_wp2_with (at_builtin; refine wpList_append_own _ rfl (.tmp 109) (.tmp 116) 22 rfl (w.heap.size + 1) 33 i0 _ 4 40 Tryd.underlying22 hi hz0 hz1 hz2 rfl (by decide) vv D.length (D.flatMap c4) rfl (HS3.out.own.alloc _) ⟨wr.heap.size, 0, none⟩ 1 1 (c4 ⟨1, tw, 0, line⟩) rfl rfl (c4_at2 _ ex HQ.out _ _ (heap_alloc_new _ _)) (c4_one _) (by unfold maxLen; omega) (by omega) (by have := HS3.out.ge; simp; omega) ?_; intro v' w3 ho hg hn; have S3 := hid (HS3.out.grown (t := ⟨1, tw, 0, line⟩) (bel_a wr _) hg ho); clear ho hg hn)
            go_roundw
            case rel => exact ⟨s.size, line, ts ++ [(.word tw, line)], _, by omega, by rw [List.length_append]; simp; omega, by omega, rfl, rfl, rfl, by rw [List.map_append, hD.out]; exact S3, hX2⟩
            case measure => simp [intOf]; omega
    replace hL : isLetter c = false := Bool.eq_false_iff.2 hL
    have HLc := hid (HLt.out Wo c)
    rw [hL] at HLc
    by_cases hDt : isDigit c = true
    · have HXC := hid (fun q hq ht => step_num (q := q) hcl HX.out (by rw [hc]; exact hDt) hq ht)
      have HDc := hid (HDg.out Wo c)
      rw [hDt] at HDc
      clear HX hc hL hb h10 h35 hDt HLt
      go_upto_region 33 with (first | (go_at_call 12; refine HLc.out.mono ?_; rintro e wx ⟨rfl, ej⟩; rw [ej]; clear ej wx) | (go_at_call 13; refine HDc.out.mono ?_; rintro e wx ⟨rfl, ej⟩; rw [ej]; clear ej wx))
      clear HLc HDc
      go_loopw [6, 9] (fun v6 v9 wr => ∃ p q n : Nat, p = b + q ∧ p ≤ s.size ∧ n < 1000000 ∧ v6 = .int .i64 (p : Int) ∧ v9 = .int .i64 (n : Int) ∧ Hid (∀ j (h : j < (bl s).length), b ≤ j → j < p → isDigit (bl s)[j] = true) ∧ Hid (n = valD (((bl s).drop b).take (min q 6))) ∧ wr = Wo) (fun v6 _ _ => s.size - (intOf v6).toNat)
      case atStart => exact ⟨b, 0, 0, rfl, hbl, by omega, rfl, rfl, fun j _ h1 h2 => absurd h2 (by omega), rfl, rfl⟩
      case round =>
        obtain ⟨p, q, n, hpq, hp2, hnb6, rfl, rfl, HN, HV, rfl⟩ := hrel
        clear ixb
        have hpi : (p : Int) ≤ 16384 := by omega
        have hsub : (p : Int) - (b : Int) = (q : Int) := by omega
        have hni2 : (n : Int) ≤ 999999 := by omega
        have hpq' := hid (show p - b = q by omega)
        have hbp : b ≤ p := by omega
        have hqp : q ≤ p := by omega
        replace hpq := hid hpq
        by_cases hlt : p < s.size ∧ isDigit ((bl s).getD p 0) = true
        · obtain ⟨hlt, hq⟩ := hlt
          have hz : (p : Int) < (s.size : Int) := by omega
          have ixp := HIX.out p (by omega)
          rw [List.getD_eq_getElem?_getD, List.getElem?_eq_getElem (by omega)] at hq
          simp only [Option.getD_some] at hq
          have HN2 : Hid (∀ j (h : j < (bl s).length), b ≤ j → j < p + 1 → isDigit (bl s)[j] = true) := fun j h h1 h2 => by
            by_cases e : j = p
            · subst e; exact hq
            · exact HN.out j h h1 (by omega)
          have HDp := hid (HDg.out wr ((bl s)[p]'(by omega)))
          rw [hq] at HDp
          obtain ⟨cp, hcp⟩ : ∃ cp, (bl s)[p]'(by omega) = cp := ⟨_, rfl⟩
          rw [hcp] at hq ixp HDp
          have hcr : 48 ≤ cp.toNat ∧ cp.toNat ≤ 57 := by unfold isDigit at hq; simpa using hq
          by_cases h6 : q < 6
          · have g6 : decide ((q : Int) < 6) = true := decide_eq_true (by omega)
            obtain ⟨d, hd⟩ : ∃ d, cp.toNat - 48 = d := ⟨_, rfl⟩
            have hV2 : Hid (n * 10 + d = valD (((bl s).drop b).take (min (q + 1) 6))) := hid (by
              have hqd : q < ((bl s).drop b).length := by rw [List.length_drop]; have := hpq.out; omega
              have := val_snoc ((bl s).drop b) q hqd
              rw [List.getElem_drop] at this
              have e1 : b + q = p := hpq.out.symm
              simp only [e1] at this
              rw [hcp, hd] at this
              rw [show min (q + 1) 6 = q + 1 by omega, this, HV.out, show min q 6 = q by omega])
            have hb6 : n * 10 + d < 1000000 := by
              rw [hV2.out]
              refine val_bound _ _ (fun x hx => ?_) (by omega)
              obtain ⟨i, hi, e⟩ := List.mem_take_iff_getElem.1 hx
              rw [List.getElem_drop] at e
              rw [← e]
              exact HN2.out _ _ (by omega) (by rw [List.length_drop] at hi; have := hpq.out; omega)
            have s1 : ((cp.toNat : Int) - 48) % 256 = (d : Int) := by omega
            have hdi : (d : Int) ≤ 9 := by omega
            clear HN hq HIX HDg HV hcp hd hcr
            generalize (cp.toNat : Int) = ci at *
            go_wp2_with (go_at_call 13; refine HDp.out.mono ?_; rintro e wx ⟨rfl, ej⟩; rw [ej]; clear ej wx)
            go_roundw
            case rel => exact ⟨p + 1, q + 1, n * 10 + d, by have := hpq.out; omega, by omega, hb6, by go_num, by go_num, HN2, hV2, by first | rfl | trivial⟩
            case measure => simp [intOf]; omega
          · have g6 : decide ((q : Int) < 6) = false := decide_eq_false (by omega)
            have hV2 : Hid (n = valD (((bl s).drop b).take (min (q + 1) 6))) := hid (by rw [HV.out, show min (q + 1) 6 = min q 6 by omega])
            clear HN hq HIX HDg HV hcp hcr
            generalize (cp.toNat : Int) = ci at *
            go_wp2_with (go_at_call 13; refine HDp.out.mono ?_; rintro e wx ⟨rfl, ej⟩; rw [ej]; clear ej wx)
            go_roundw
            case rel => exact ⟨p + 1, q + 1, n, by have := hpq.out; omega, by omega, hnb6, by go_num, rfl, HN2, hV2, by first | rfl | trivial⟩
            case measure => simp [intOf]; omega
        · have htw := run_end (p := isDigit) (by omega : b ≤ p) (by omega : p ≤ (bl s).length) HN.out (fun h => by
            refine Bool.eq_false_iff.2 fun q => hlt ⟨by omega, ?_⟩
            rw [List.getD_eq_getElem?_getD, List.getElem?_eq_getElem h]
            exact q)
          obtain ⟨HXC1, HXC2, hlt2⟩ := HXC.out p (by omega) htw
          have hnv : q ≤ 5 → n = valD (((bl s).drop b).takeWhile isDigit) := fun h5 => by
            rw [HV.out, show min q 6 = (((bl s).drop b).takeWhile isDigit).length by rw [htw]; have := hpq'.out; omega, take_tw]
          clear HXC
          by_cases hlt3 : p < s.size
          · have hz : (p : Int) < (s.size : Int) := by omega
            have ixp := HIX.out p (by omega)
            have HDp := hid (HDg.out wr ((bl s)[p]'(by omega)))
            have hq : isDigit ((bl s)[p]'(by omega)) = false := Bool.eq_false_iff.2 fun q => hlt ⟨hlt3, by rw [List.getD_eq_getElem?_getD, List.getElem?_eq_getElem (by omega)]; exact q⟩
            rw [hq] at HDp
            clear HN hq HIX HDg hlt
            generalize ((((bl s)[p]'(by omega)).toNat : Nat) : Int) = ci at *
            by_cases hgood : q ≤ 5 ∧ n ≤ 65535
            · have hX2 := hid (HXC1 ⟨by rw [hpq'.out]; exact hgood.1, by rw [← hnv hgood.1]; exact hgood.2⟩)
              rw [← hnv hgood.1] at hX2
              have g1 : decide ((5 : Int) < (q : Int)) = false := decide_eq_false (by omega)
              have g2 : decide ((65535 : Int) < (n : Int)) = false := decide_eq_false (by omega)
              clear HXC1 HXC2 hnv hgood htw hR HV
              go_wp2_with (first
              | (go_at_call 13; refine HDp.out.mono ?_; rintro e wx ⟨rfl, ej⟩; rw [ej]; clear ej wx)
              | (at_builtin; refine wpList_append_own _ rfl (.tmp 156) (.tmp 160) 22 rfl (w.heap.size + 1) 33 i0 _ 4 40 Tryd.underlying22 hi hz0 hz1 hz2 rfl (by decide) vv D.length (D.flatMap c4) rfl (HS3.out.own.alloc _) ⟨wr.heap.size, 0, none⟩ 1 1 (c4 ⟨2, [], n, line⟩) rfl rfl (c4_at _ _ _ (heap_alloc_new _ _)) (c4_one _) (by unfold maxLen; omega) (by omega) (by have := HS3.out.ge; simp; omega) ?_; intro v' w3 ho hg hn; have S3 := hid (HS3.out.grown (t := ⟨2, [], n, line⟩) (bel_a wr _) hg ho); clear ho hg hn))
              go_roundw
              case rel => exact ⟨p, line, ts ++ [(.num n, line)], _, by omega, by rw [List.length_append]; simp; omega, by omega, rfl, rfl, rfl, by rw [List.map_append, hD.out]; exact S3, hX2⟩
              case measure => simp [intOf]; omega
            · have e1 : lexL 1 (bl s) = .error line := HXC2 (fun h => hgood ⟨by rw [← hpq'.out]; exact h.1, by
                have h5 : q ≤ 5 := by rw [← hpq'.out]; exact h.1
                rw [hnv h5]; exact h.2⟩)
              obtain rfl : R = ([], 120, line) := hR.out.symm.trans (lexR_err hnb.out e1)
              obtain ⟨q1, q2, q3⟩ := HS3.out.fin (.int .i64 120) (.int .i64 (line : Int))
              clear HXC1 HXC2 hnv htw hR e1 HV
              by_cases h5 : q ≤ 5
              · have g1 : decide ((5 : Int) < (q : Int)) = false := decide_eq_false (by omega)
                have g2 : decide ((65535 : Int) < (n : Int)) = true := decide_eq_true (by omega)
                go_wp2_with (first
              | (go_at_call 13; refine HDp.out.mono ?_; rintro e wx ⟨rfl, ej⟩; rw [ej]; clear ej wx)
              | (refine wpList_store_row (o := ⟨none, .store 25 (.tmp 3) (.tmp 155), _, _, _, _⟩) rfl 25 (.tmp 3) (.tmp 155) rfl w.heap.size #[.int .i64 120, .int .i64 (line : Int)] rfl rfl 25 _ HS3.out.fb (sz25 _ _) rfl (one25 _ _) ?_))
                refine bodyPost_ret (results_25_2 (by kernel_rfl : Tryd.f6.results = #[.tmp 2, .cell 3 25]) _ _ w.heap.size (.int .i64 120) (.int .i64 (line : Int)) rfl q1) rfl ?_
                exact ⟨none, 0, rfl, World.ownsRow_nil _ _ _ _, q3⟩
              · have g1 : decide ((5 : Int) < (q : Int)) = true := decide_eq_true (by omega)
                go_wp2_with (first
              | (go_at_call 13; refine HDp.out.mono ?_; rintro e wx ⟨rfl, ej⟩; rw [ej]; clear ej wx)
              | (refine wpList_store_row (o := ⟨none, .store 25 (.tmp 3) (.tmp 155), _, _, _, _⟩) rfl 25 (.tmp 3) (.tmp 155) rfl w.heap.size #[.int .i64 120, .int .i64 (line : Int)] rfl rfl 25 _ HS3.out.fb (sz25 _ _) rfl (one25 _ _) ?_))
                refine bodyPost_ret (results_25_2 (by kernel_rfl : Tryd.f6.results = #[.tmp 2, .cell 3 25]) _ _ w.heap.size (.int .i64 120) (.int .i64 (line : Int)) rfl q1) rfl ?_
                exact ⟨none, 0, rfl, World.ownsRow_nil _ _ _ _, q3⟩
          · have hps : p = s.size := by omega
            have hz : decide ((p : Int) < (s.size : Int)) = false := decide_eq_false (by omega)
            have hzn : decide (p < s.size) = false := decide_eq_false (by omega)
            clear HN HIX HDg hlt hps
            by_cases hgood : q ≤ 5 ∧ n ≤ 65535
            · have hX2 := hid (HXC1 ⟨by rw [hpq'.out]; exact hgood.1, by rw [← hnv hgood.1]; exact hgood.2⟩)
              rw [← hnv hgood.1] at hX2
              have g1 : decide ((5 : Int) < (q : Int)) = false := decide_eq_false (by omega)
              have g2 : decide ((65535 : Int) < (n : Int)) = false := decide_eq_false (by omega)
              clear HXC1 HXC2 hnv hgood htw hR HV
              go_wp2_with (at_builtin; refine wpList_append_own _ rfl (.tmp 156) (.tmp 160) 22 rfl (w.heap.size + 1) 33 i0 _ 4 40 Tryd.underlying22 hi hz0 hz1 hz2 rfl (by decide) vv D.length (D.flatMap c4) rfl (HS3.out.own.alloc _) ⟨wr.heap.size, 0, none⟩ 1 1 (c4 ⟨2, [], n, line⟩) rfl rfl (c4_at _ _ _ (heap_alloc_new _ _)) (c4_one _) (by unfold maxLen; omega) (by omega) (by have := HS3.out.ge; simp; omega) ?_; intro v' w3 ho hg hn; have S3 := hid (HS3.out.grown (t := ⟨2, [], n, line⟩) (bel_a wr _) hg ho); clear ho hg hn)
              go_roundw
              case rel => exact ⟨p, line, ts ++ [(.num n, line)], _, by omega, by rw [List.length_append]; simp; omega, by omega, rfl, rfl, rfl, by rw [List.map_append, hD.out]; exact S3, hX2⟩
              case measure => simp [intOf]; omega
            · have e1 : lexL 1 (bl s) = .error line := HXC2 (fun h => hgood ⟨by rw [← hpq'.out]; exact h.1, by
                have h5 : q ≤ 5 := by rw [← hpq'.out]; exact h.1
                rw [hnv h5]; exact h.2⟩)
              obtain rfl : R = ([], 120, line) := hR.out.symm.trans (lexR_err hnb.out e1)
              obtain ⟨q1, q2, q3⟩ := HS3.out.fin (.int .i64 120) (.int .i64 (line : Int))
              clear HXC1 HXC2 hnv htw hR e1 HV
              by_cases h5 : q ≤ 5
              · have g1 : decide ((5 : Int) < (q : Int)) = false := decide_eq_false (by omega)
                have g2 : decide ((65535 : Int) < (n : Int)) = true := decide_eq_true (by omega)
                go_wp2_with (refine wpList_store_row (o := ⟨none, .store 25 (.tmp 3) (.tmp 155), _, _, _, _⟩) rfl 25 (.tmp 3) (.tmp 155) rfl w.heap.size #[.int .i64 120, .int .i64 (line : Int)] rfl rfl 25 _ HS3.out.fb (sz25 _ _) rfl (one25 _ _) ?_)
                refine bodyPost_ret (results_25_2 (by kernel_rfl : Tryd.f6.results = #[.tmp 2, .cell 3 25]) _ _ w.heap.size (.int .i64 120) (.int .i64 (line : Int)) rfl q1) rfl ?_
                exact ⟨none, 0, rfl, World.ownsRow_nil _ _ _ _, q3⟩
              · have g1 : decide ((5 : Int) < (q : Int)) = true := decide_eq_true (by omega)
                go_wp2_with (refine wpList_store_row (o := ⟨none, .store 25 (.tmp 3) (.tmp 155), _, _, _, _⟩) rfl 25 (.tmp 3) (.tmp 155) rfl w.heap.size #[.int .i64 120, .int .i64 (line : Int)] rfl rfl 25 _ HS3.out.fb (sz25 _ _) rfl (one25 _ _) ?_)
                refine bodyPost_ret (results_25_2 (by kernel_rfl : Tryd.f6.results = #[.tmp 2, .cell 3 25]) _ _ w.heap.size (.int .i64 120) (.int .i64 (line : Int)) rfl q1) rfl ?_
                exact ⟨none, 0, rfl, World.ownsRow_nil _ _ _ _, q3⟩
    replace hDt : isDigit c = false := Bool.eq_false_iff.2 hDt
    have HDc := hid (HDg.out Wo c)
    rw [hDt] at HDc
    obtain ⟨HX1, HX2⟩ := step_sign hcl HX.out (by rw [hc]; exact hb) (by rw [hc]; exact h35) (by rw [hc]; exact hL) (by rw [hc]; exact hDt)
    obtain ⟨L, hLd⟩ : ∃ L, (bl s).drop b = L := ⟨_, rfl⟩
    rw [hLd] at HX1 HX2
    replace HX1 := hid HX1
    replace HX2 := hid HX2
    have HSt := hid (fun W i => stands_any W s (str (sg i)) b hbl hs (by rw [str_size]; exact Nat.le_trans (sg_len i) (by decide)))
    rw [hLd] at HSt
    have HSi := hid (Signs_any Wo)
    clear HX hc hL hb h10 h35 hDt HLt HDg hLd HIX
    go_upto_region 10 with (first
      | (go_at_call 12; refine HLc.out.mono ?_; rintro e wx ⟨rfl, ej⟩; rw [ej]; clear ej wx)
      | (go_at_call 13; refine HDc.out.mono ?_; rintro e wx ⟨rfl, ej⟩; rw [ej]; clear ej wx)
      | (go_at_call 14; refine HSi.out.mono ?_; rintro e W2 ⟨g, rfl, rg, b2⟩; have HS4 := hid (HS3.out.below b2); have HRg := hid rg; clear b2 rg))
    have HS3 := HS4
    clear HS4 HLc HDc HSi ixb
    go_loopw [11, 13] (fun v11 v13 wr => ∃ (i : Nat) (S : List UInt8) (z : Int), i ≤ 21 ∧ z = (i : Int) - 1 ∧ v11 = .string (str S) ∧ v13 = .int .i64 z ∧ Hid (Best L i S) ∧ wr = W2) (fun _ v13 _ => (intOf v13 + 1).toNat)
    case atStart => exact ⟨21, [], 20, by omega, by omega, rfl, rfl, .inl ⟨rfl, fun j h1 h2 => absurd h2 (by omega)⟩, rfl⟩
    case round =>
      obtain ⟨i, S, z, hi21, hzi, rfl, rfl, HB, rfl⟩ := hrel
      by_cases h0 : i = 0
      · subst h0
        obtain rfl : z = -1 := by omega
        clear hzi hi21
        rcases HB.out with ⟨rfl, hno⟩ | ⟨j, _, hj, hpj, rfl, hno⟩
        · have e0 : sgLen L = 0 := sg_none L (fun j hj => hno j (Nat.zero_le _) hj)
          have e1 : lexL 1 (bl s) = .error line := HX1.out e0
          obtain rfl : R = ([], 120, line) := hR.out.symm.trans (lexR_err hnb.out e1)
          obtain ⟨q1, q2, q3⟩ := HS3.out.fin (.int .i64 120) (.int .i64 (line : Int))
          have hse : (str []).toList.isEmpty = true := by rw [Lib.toList_data]; rfl
          clear HX1 HX2 hR e1 e0 HB hno HSt
          go_wp2_with (refine wpList_store_row (o := ⟨none, .store 25 (.tmp 3) (.tmp 47), _, _, _, _⟩) rfl 25 (.tmp 3) (.tmp 47) rfl w.heap.size #[.int .i64 120, .int .i64 (line : Int)] rfl rfl 25 _ HS3.out.fb (sz25 _ _) rfl (one25 _ _) ?_)
          refine bodyPost_ret (results_25_2 (by kernel_rfl : Tryd.f6.results = #[.tmp 2, .cell 3 25]) _ _ w.heap.size (.int .i64 120) (.int .i64 (line : Int)) rfl q1) rfl ?_
          exact ⟨none, 0, rfl, World.ownsRow_nil _ _ _ _, q3⟩
        · obtain ⟨f1, f2, f3⟩ := sg_first L j hj (fun j' h => hno j' (Nat.zero_le _) h) hpj
          obtain ⟨hX2, hle2⟩ := HX2.out f3
          rw [f2, f1] at hX2
          rw [f1] at hle2
          replace hX2 := hid hX2
          have hne : (sg j).length ≠ 0 := by rw [← f1]; exact f3
          obtain ⟨S, hS⟩ : ∃ S, sg j = S := ⟨_, rfl⟩
          rw [hS] at hX2 hle2 hne ⊢
          have hse : (str S).toList.isEmpty = false := by
            match S, hne with
            | x :: S, _ => exact some_str
          have hsz : (str S).size = S.length := str_size S
          have hsi : (S.length : Int) ≤ 16384 := by omega
          obtain ⟨m, hm⟩ : ∃ m, S.length = m := ⟨_, rfl⟩
          rw [hm] at hsz hsi hX2 hle2 hne
          clear HX1 HX2 hR HB hno HSt f1 f2 f3 hpj hS hm hj
          go_wp2_with (at_builtin; refine wpList_append_own _ rfl (.tmp 48) (.tmp 52) 22 rfl (w.heap.size + 1) 33 i0 _ 4 40 Tryd.underlying22 hi hz0 hz1 hz2 rfl (by decide) vv D.length (D.flatMap c4) rfl (HS3.out.own.alloc _) ⟨wr.heap.size, 0, none⟩ 1 1 (c4 ⟨3, S, 0, line⟩) rfl rfl (c4_at _ _ _ (heap_alloc_new _ _)) (c4_one _) (by unfold maxLen; omega) (by omega) (by have := HS3.out.ge; simp; omega) ?_; intro v' w3 ho hg hn; have S3 := hid (HS3.out.grown (t := ⟨3, S, 0, line⟩) (bel_a wr _) hg ho); clear ho hg hn)
          go_roundw
          case rel => exact ⟨b + m, line, ts ++ [(.sign S, line)], _, by omega, by rw [List.length_append]; simp; omega, by omega, rfl, rfl, by go_num, by rw [List.map_append, hD.out]; exact S3, hX2⟩
          case measure => simp [intOf]; omega
      · obtain ⟨m, rfl⟩ : ∃ m, i = m + 1 := ⟨i - 1, by omega⟩
        obtain rfl : z = (m : Int) := by omega
        clear hzi
        have hm0 : decide ((0 : Int) ≤ (m : Int)) = true := decide_eq_true (by omega)
        have hm21 : (m : Int) < 21 := by omega
        have cm : wr.cell? ⟨g, m, none⟩ = some (.string (str (sg m))) := by
          have := HRg.out m (.string (str (sg m))) (by unfold sgV; rw [List.getElem?_map, sg_get m (by omega)]; rfl)
          rw [Nat.zero_add] at this
          exact this
        have HSm := hid (HSt.out wr m)
        rw [bl_str] at HSm
        by_cases hp : (sg m).isPrefixOf L = true
        · rw [hp] at HSm
          have HB2 : Hid (Best L m (sg m)) := hid (.inr ⟨m, Nat.le_refl _, by omega, hp, rfl, fun j' h1 h2 => absurd h2 (by omega)⟩)
          clear HB hp HSt HRg HX1 HX2 hR
          go_wp2_with (go_at_call 15; refine HSm.out.mono ?_; rintro e wx ⟨rfl, ej⟩; rw [ej]; clear ej wx)
          go_roundw
          case rel => exact ⟨m, sg m, (m : Int) - 1, by omega, rfl, rfl, by go_num, HB2, by first | rfl | trivial⟩
          case measure => first | (simp [intOf]; done) | (simp [intOf]; omega)
        · replace hp : (sg m).isPrefixOf L = false := Bool.eq_false_iff.2 hp
          rw [hp] at HSm
          have HB2 : Hid (Best L m S) := hid (by
            rcases HB.out with ⟨h1, h2⟩ | ⟨j, h1, h2, h3, h4, h5⟩
            · refine .inl ⟨h1, fun j a b => ?_⟩
              by_cases e : j = m
              · rw [e]; exact hp
              · exact h2 j (by omega) b
            · refine .inr ⟨j, by omega, h2, h3, h4, fun j' a b => ?_⟩
              by_cases e : j' = m
              · rw [e]; exact hp
              · exact h5 j' (by omega) b)
          clear HB hp HSt HRg HX1 HX2 hR
          go_wp2_with (go_at_call 15; refine HSm.out.mono ?_; rintro e wx ⟨rfl, ej⟩; rw [ej]; clear ej wx)
          go_roundw
          case rel => exact ⟨m, S, (m : Int) - 1, by omega, rfl, rfl, by go_num, HB2, by first | rfl | trivial⟩
          case measure => first | (simp [intOf]; done) | (simp [intOf]; omega)
end Go.Proofs.YtnjknjbffgjelaaDoor
