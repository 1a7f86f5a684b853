/-
  The document's Check.
-/
import Derived.Test.YtdlmcfknmdaabaaTls
namespace Go.Proofs.Ytdlmcfknmdaabaa
open Go.RowKit
set_option linter.unusedVariables false
set_option linter.unusedSimpArgs false

/-- What the document asks of the start at index k. -/
def okJ (l : List UInt8) (post : Bool) (S : List Nat) (k : Nat) (t : Nat) : Prop :=
  ((getR l t).o = 26 → post = true) ∧ (27 ≤ (getR l t).o → (nats S).contains (getR l t).n = true) ∧ (k + 1 = (nats S).length → ed (getR l t).o)
theorem chk_two {l : List UInt8} {post : Bool} {S : List Nat} (h0 : stE l = 0) : chkE l post S = 0 ∨ chkE l post S = 110 := by
  unfold chkE
  rw [if_pos h0]
  split
  · exact .inr rfl
  · split
    · exact .inl rfl
    · exact .inr rfl
theorem chk_idx {l : List UInt8} {post : Bool} {S : List Nat} (h0 : stE l = 0) (hS : starts l = some S) : chkE l post S = 0 ↔ ∀ k (hk : k < S.length), okJ l post S k S[k] := by
  rw [chk_iff h0 hS]
  constructor
  · intro h k hk
    have hm : S[k] ∈ S := List.getElem_mem hk
    obtain ⟨h1, h2, h3⟩ := h _ hm
    refine ⟨h1, fun ho => mem_nats.2 (h2 ho), fun hl => ?_⟩
    rw [nats_len] at hl
    refine h3 ((starts_last hS _ hm).2 ?_)
    rw [List.getLast?_eq_getElem?, show S.length - 1 = k by omega, List.getElem?_eq_getElem hk]
  · intro h t ht
    obtain ⟨k, hk, rfl⟩ := List.getElem_of_mem ht
    obtain ⟨h1, h2, h3⟩ := h k hk
    refine ⟨h1, fun ho => mem_nats.1 (h2 ho), fun hn => ?_⟩
    have hl := (starts_last hS _ ht).1 hn
    obtain ⟨z, hz, hzS⟩ := starts_some hS (stE_pos h0)
    rw [List.getLast?_eq_getElem?] at hl
    have hq : S.length - 1 < S.length := by omega
    rw [List.getElem?_eq_getElem hq] at hl
    injection hl with hl
    have h4 := (h (S.length - 1) hq).2.2 (by rw [nats_len]; omega)
    rw [hl] at h4
    exact h4
theorem chk_bad {l : List UInt8} {post : Bool} {S : List Nat} (h0 : stE l = 0) (hS : starts l = some S) (k : Nat) (hk : k < S.length) (hb : ¬ okJ l post S k S[k]) : chkE l post S = 110 := by
  rcases chk_two (post := post) (S := S) h0 with h | h
  · exact absurd ((chk_idx h0 hS).1 h k hk) hb
  · exact h
theorem contains_next (X : List Int) (t : Int) (j : Nat) (hj : j < X.length) : (X.take (j + 1)).contains t = ((X.take j).contains t || (X[j] == t)) := by
  rw [List.take_succ_eq_append_getElem hj]
  by_cases h : (X.take j).contains t = true
  · rw [h, Bool.true_or]
    exact List.contains_iff_mem.2 (List.mem_append_left _ (List.contains_iff_mem.1 h))
  · have h' : (X.take j).contains t = false := by simpa using h
    rw [h']
    by_cases e : X[j] = t
    · rw [e]
      simp
    · have e2 : (X[j] == t) = false := by simpa using e
      rw [e2]
      cases hc : (X.take j ++ [X[j]]).contains t with
      | false => rfl
      | true =>
        rw [List.contains_iff_mem] at hc
        rcases List.mem_append.1 hc with h1 | h1
        · exact absurd (List.contains_iff_mem.2 h1) h
        · exact absurd (by simpa using h1 : t = X[j]).symm e
set_option maxRecDepth 10000 in
set_option maxHeartbeats 16000000 in
theorem RefCheck_any (A : Option Addr) (n c : Nat) (l : List UInt8) (post : Bool) (w : World) (h : IsBB w w.heap.size A n c l) :
    Calls Try.prog 11 #[.slice A n c, .bool post] w fun e w' => ∃ S, e = .returned (.int .i64 (chkE l post S)) ∧ Below w.heap.size w w' ∧ (stE l = 0 → starts l = some S) := by
  have HS := hid (RefStarts_any A n c l w h)
  have HG := hid (fun w h k hk hn => RefGet_any A n c l w h k hk hn)
  have I0 := hid h
  obtain ⟨se, hse⟩ : ∃ se, stE l = se := ⟨_, rfl⟩
  have SE := hid hse
  rw [hse] at HS
  clear h hse
  go_enter Try.func11, Try.ntmps11
  go_wp2_with fail
  refine HS.out.mono ?_
  rintro r w1 ⟨v, S, rfl, b1, hown, hs, -⟩
  have B1 := hid b1
  have HO := hid hown
  have H3 := hid hs
  clear b1 hown hs HS
  dsimp only
  by_cases h0 : se = 0
  case neg =>
    have hb : (se != 0) = true := by simpa using h0
    have hc : chkE l post S = se := by unfold chkE; rw [SE.out, if_neg h0]
    have h0' := hid h0
    clear h0
    go_wp2_with fail
    refine bodyPost_ret (results_tmp (by kernel_rfl : Try.f11.results = #[.tmp 4]) _ _ _) rfl ?_
    exact ⟨S, by rw [hc]; rfl, B1.out, fun h => absurd (SE.out.symm.trans h) h0'.out⟩
  have hS := hid (H3.out h0)
  have ST := hid (SE.out.trans h0)
  subst h0
  obtain ⟨A', c', rfl⟩ := own_ints HO.out
  have hN : (nats S).length ≤ 4096 := by
    have h1 := starts_few hS.out
    have h2 := stE_le ST.out
    rw [nats_len]
    omega
  have hn6 := hid (show n ≤ 8000 by have h1 := I0.out.len; have h2 := stE_le ST.out; omega)
  clear H3 SE
  go_wp2_with fail
  go_loopw [7] (fun v7 wr => ∃ k : Nat, k ≤ (nats S).length ∧ v7 = .int .i64 (k : Nat) ∧ Hid (Below w1.heap.size w1 wr) ∧ Hid (∀ i (hi : i < S.length), i < k → okJ l post S i S[i])) (fun v7 _ => (nats S).length - (intOf v7).toNat)
  case atStart => exact ⟨0, Nat.zero_le _, rfl, hid (Below.refl _ _), hid (fun i _ h => absurd h (Nat.not_lt_zero i))⟩
  case round =>
    obtain ⟨k, hk, rfl, HB, HA⟩ := hrel
    by_cases hlt : k < (nats S).length
    case neg =>
      obtain rfl : k = (nats S).length := by omega
      have hc : chkE l post S = 0 := (chk_idx ST.out hS.out).2 fun i hi => HA.out i hi (by rw [nats_len]; exact hi)
      go_wp2
      refine bodyPost_ret (results_tmp (by kernel_rfl : Try.f11.results = #[.tmp 4]) _ _ _) rfl ?_
      exact ⟨S, by rw [hc]; rfl, bel_on B1.out HB.out, fun _ => hS.out⟩
    have hltz : (k : Int) < ((nats S).length : Int) := by omega
    have hks : k < S.length := by rw [nats_len] at hlt; exact hlt
    rcases HO.out.2 with ⟨e1, _⟩ | ⟨g1, _, _, e1, _⟩
    · injection e1 with _ e1
      omega
    cases e1
    have HOr := hid (ints_below HO.out HB.out)
    have ct : wr.cell? ⟨g1, k, none⟩ = some (.int .i64 (S[k] : Nat)) := by
      have := HOr.out.cells (g := g1) rfl k (iv (S[k] : Nat)) (by simp [nats, hks])
      rw [Addr.add_lit, Nat.zero_add] at this
      exact this
    have hin : S[k] ∈ S := List.getElem_mem hks
    have hgot := got_in ((starts_mem hS.out).2 _ hin).2.1
    have hop := op_le hS.out hin
    have hgn : 27 ≤ (getR l (S[k] : Nat)).o → 0 ≤ (getR l (S[k] : Nat)).n ∧ (getR l (S[k] : Nat)).n ≤ 65535 := fun ho => tgts_in hS.out _ (List.mem_flatMap.2 ⟨S[k], hin, by unfold tgt; rw [if_pos (by unfold jm; omega)]; simp⟩)
    have herr : (getR l (S[k] : Nat)).err = 0 := ((starts_mem hS.out).2 _ hin).2.1
    have CB := hid (fun hb => chk_bad (post := post) ST.out hS.out k hks hb)
    have AN : Hid (okJ l post S k S[k] → ∀ i (hi : i < S.length), i < k + 1 → okJ l post S i S[i]) := hid fun h i hi hik => by
      by_cases hik2 : i < k
      · exact HA.out i hi hik2
      · obtain rfl : i = k := by omega
        exact h
    have IB := hid ((I0.out.on B1.out).on HB.out)
    have HGk := hid (HG.out wr IB.out S[k] (by have := I0.out.len; omega) hn6.out)
    generalize S[k] = t at ct CB AN HGk hgot hop herr hgn
    unfold okJ at CB AN
    obtain ⟨g, hg⟩ : ∃ g, getR l t = g := ⟨_, rfl⟩
    rw [hg] at CB AN HGk hop herr hgn
    obtain ⟨o, gd, gs, gn, ge, err⟩ := g
    dsimp only at CB AN hop herr hgn
    subst herr
    have ho0 := hop.1
    have ho30 := hop.2
    have htz : (t : Int) < (n : Int) := by have := I0.out.len; omega
    have h8 : (n : Int) ≤ 8000 := by have := hn6.out; omega
    obtain ⟨lb, hlb⟩ : ∃ lb, ((k : Int) == ((nats S).length : Int) - 1) = lb := ⟨_, rfl⟩
    have hlb2 : (lb = true ↔ k + 1 = (nats S).length) := by rw [← hlb, beq_iff_eq]; omega
    have HLB := hid hlb2
    have HGN := hid hgn
    clear hgot hop hg hks hin hlb2 hgn
    unfold vG vI at HGk
    go_upto_region 8 with (go_at_call 20; (with_reducible refine HGk.out.mono ?_); rintro r w2 ⟨rfl, b2⟩; have HW := hid (HB.out.trans ((b2.alloc b2.size (.cells #[.int .u8 o, .int .i64 gd, .int .i64 gs, .int .i64 gn] 37)).mono HB.out.size)); clear b2; dsimp only)
    have X0 := hid (bx_made w2 o gd gs gn)
    obtain ⟨x0, x1, x2, x3⟩ := X0.out
    have HE := hid (bel_on B1.out HW.out)
    have HOW := hid (ints_below HO.out HW.out)
    clear HGk x1 x2 X0 HOr IB ct
    by_cases o0 : o = 0
    · subst o0
      clear ho0 ho30 HGN
      cases lb with
      | false =>
        go_wp2_with fail
        go_roundw
        case rel => exact ⟨k + 1, by omega, by go_num, hid HW.out, hid (AN.out ⟨fun h => absurd h (by decide), fun h => absurd h (by decide), fun _ => .inl rfl⟩)⟩
        case measure => simp [intOf]; omega
      | true =>
        go_wp2_with fail
        go_roundw
        case rel => exact ⟨k + 1, by omega, by go_num, hid HW.out, hid (AN.out ⟨fun h => absurd h (by decide), fun h => absurd h (by decide), fun _ => .inl rfl⟩)⟩
        case measure => simp [intOf]; omega
    by_cases o29 : o = 29
    · subst o29
      clear ho0 ho30 o0 HGN
      go_wp2_with fail
      obtain ⟨WB, hWB⟩ : ∃ W, W = (w2.alloc (.cells #[.int .u8 29, .int .i64 gd, .int .i64 gs, .int .i64 gn] 37)) := ⟨_, rfl⟩
      rw [← hWB] at HW HE HOW x0 x3 ⊢
      have HWB := hid hWB
      clear hWB
      go_loopw [11, 12] (fun v11 v12 wi => ∃ j q : Nat, j ≤ (nats S).length ∧ v12 = .int .i64 (j : Nat) ∧ v11 = .bool (((nats S).take j).contains gn) ∧ wi = WB.drewN q) (fun _ v12 _ => (nats S).length - (intOf v12).toNat)
      case atStart => exact ⟨0, 0, Nat.zero_le _, rfl, by simp, rfl⟩
      case round =>
        obtain ⟨j, q, hj, rfl, rfl, hwi⟩ := hrel
        by_cases hjl : j < (nats S).length
        · have hjz : (j : Int) < ((nats S).length : Int) := by omega
          have cj : WB.cell? ⟨g1, j, none⟩ = some (.int .i64 (nats S)[j]) := by
            have := HOW.out.cells (g := g1) rfl j (iv (nats S)[j]) (by simp [hjl])
            rw [Addr.add_lit, Nat.zero_add] at this
            exact this
          have hn := hid (contains_next (nats S) gn j hjl)
          generalize (nats S)[j] = y at cj hn
          obtain ⟨fb, hfb⟩ : ∃ fb, ((nats S).take j).contains gn = fb := ⟨_, rfl⟩
          rw [hfb] at hn ⊢
          obtain ⟨yb, hyb⟩ : ∃ yb, (y == gn) = yb := ⟨_, rfl⟩
          rw [hyb] at hn
          clear hfb
          subst hwi
          cases fb with
          | true =>
            go_wp2_with fail
            go_quiet (fail)
            go_wp2
            go_roundw
            case rel => exact ⟨j + 1, _, by omega, by go_num, by rw [hn.out]; rfl, rfl⟩
            case measure => simp [intOf]; omega
          | false =>
            go_wp2_with fail
            go_quiet (fail)
            go_wp2
            go_roundw
            case rel => exact ⟨j + 1, _, by omega, by go_num, by rw [hn.out]; rfl, rfl⟩
            case measure => simp [intOf]; omega
        · obtain rfl : j = (nats S).length := by omega
          rw [List.take_length]
          obtain ⟨fb, hfb⟩ : ∃ fb, (nats S).contains gn = fb := ⟨_, rfl⟩
          have HF := hid hfb
          rw [hfb]
          clear hfb hjl hj
          have HWq := hid (show Below w1.heap.size w1 (WB.drewN q) from below_drewN HW.out q)
          have HEq := hid (show Below w.heap.size w (WB.drewN q) from below_drewN HE.out q)
          subst hwi
          cases fb with
          | false =>
            have hc := CB.out (fun h => absurd (HF.out.symm.trans (h.2.1 (by decide))) (by decide))
            go_wp2_with fail
            refine bodyPost_ret (results_tmp (by kernel_rfl : Try.f11.results = #[.tmp 4]) _ _ _) rfl ?_
            exact ⟨S, by rw [hc]; rfl, HEq.out, fun _ => hS.out⟩
          | true =>
            cases lb with
            | false =>
              go_wp2_with fail
              go_roundw
              case rel => exact ⟨k + 1, by omega, by go_num, HWq, hid (AN.out ⟨fun h => absurd h (by decide), fun _ => HF.out, fun _ => .inr (.inl rfl)⟩)⟩
              case measure => simp [intOf]; omega
            | true =>
              go_wp2_with fail
              go_roundw
              case rel => exact ⟨k + 1, by omega, by go_num, HWq, hid (AN.out ⟨fun h => absurd h (by decide), fun _ => HF.out, fun _ => .inr (.inl rfl)⟩)⟩
              case measure => simp [intOf]; omega
    by_cases o30 : o = 30
    · subst o30
      clear ho0 ho30 o0 HGN
      go_wp2_with fail
      obtain ⟨WB, hWB⟩ : ∃ W, W = (w2.alloc (.cells #[.int .u8 30, .int .i64 gd, .int .i64 gs, .int .i64 gn] 37)) := ⟨_, rfl⟩
      rw [← hWB] at HW HE HOW x0 x3 ⊢
      have HWB := hid hWB
      clear hWB
      go_loopw [11, 12] (fun v11 v12 wi => ∃ j q : Nat, j ≤ (nats S).length ∧ v12 = .int .i64 (j : Nat) ∧ v11 = .bool (((nats S).take j).contains gn) ∧ wi = WB.drewN q) (fun _ v12 _ => (nats S).length - (intOf v12).toNat)
      case atStart => exact ⟨0, 0, Nat.zero_le _, rfl, by simp, rfl⟩
      case round =>
        obtain ⟨j, q, hj, rfl, rfl, hwi⟩ := hrel
        by_cases hjl : j < (nats S).length
        · have hjz : (j : Int) < ((nats S).length : Int) := by omega
          have cj : WB.cell? ⟨g1, j, none⟩ = some (.int .i64 (nats S)[j]) := by
            have := HOW.out.cells (g := g1) rfl j (iv (nats S)[j]) (by simp [hjl])
            rw [Addr.add_lit, Nat.zero_add] at this
            exact this
          have hn := hid (contains_next (nats S) gn j hjl)
          generalize (nats S)[j] = y at cj hn
          obtain ⟨fb, hfb⟩ : ∃ fb, ((nats S).take j).contains gn = fb := ⟨_, rfl⟩
          rw [hfb] at hn ⊢
          obtain ⟨yb, hyb⟩ : ∃ yb, (y == gn) = yb := ⟨_, rfl⟩
          rw [hyb] at hn
          clear hfb
          subst hwi
          cases fb with
          | true =>
            go_wp2_with fail
            go_quiet (fail)
            go_wp2
            go_roundw
            case rel => exact ⟨j + 1, _, by omega, by go_num, by rw [hn.out]; rfl, rfl⟩
            case measure => simp [intOf]; omega
          | false =>
            go_wp2_with fail
            go_quiet (fail)
            go_wp2
            go_roundw
            case rel => exact ⟨j + 1, _, by omega, by go_num, by rw [hn.out]; rfl, rfl⟩
            case measure => simp [intOf]; omega
        · obtain rfl : j = (nats S).length := by omega
          rw [List.take_length]
          obtain ⟨fb, hfb⟩ : ∃ fb, (nats S).contains gn = fb := ⟨_, rfl⟩
          have HF := hid hfb
          rw [hfb]
          clear hfb hjl hj
          have HWq := hid (show Below w1.heap.size w1 (WB.drewN q) from below_drewN HW.out q)
          have HEq := hid (show Below w.heap.size w (WB.drewN q) from below_drewN HE.out q)
          subst hwi
          cases fb with
          | false =>
            have hc := CB.out (fun h => absurd (HF.out.symm.trans (h.2.1 (by decide))) (by decide))
            go_wp2_with fail
            refine bodyPost_ret (results_tmp (by kernel_rfl : Try.f11.results = #[.tmp 4]) _ _ _) rfl ?_
            exact ⟨S, by rw [hc]; rfl, HEq.out, fun _ => hS.out⟩
          | true =>
            cases lb with
            | false =>
              go_wp2_with fail
              go_roundw
              case rel => exact ⟨k + 1, by omega, by go_num, HWq, hid (AN.out ⟨fun h => absurd h (by decide), fun _ => HF.out, fun _ => .inr (.inr rfl)⟩)⟩
              case measure => simp [intOf]; omega
            | true =>
              go_wp2_with fail
              go_roundw
              case rel => exact ⟨k + 1, by omega, by go_num, HWq, hid (AN.out ⟨fun h => absurd h (by decide), fun _ => HF.out, fun _ => .inr (.inr rfl)⟩)⟩
              case measure => simp [intOf]; omega
    have ned : ¬ ed o := by unfold ed; omega
    have n0 : (o == 0) = false := by simpa using o0
    have n29 : (o == 29) = false := by simpa using o29
    have n30 : (o == 30) = false := by simpa using o30
    have m0 : (o != 0) = true := by simpa using o0
    have m29 : (o != 29) = true := by simpa using o29
    have m30 : (o != 30) = true := by simpa using o30
    have NE := hid ned
    clear ned
    by_cases o26 : o = 26
    · subst o26
      clear ho0 ho30 o0 o29 o30 n0 n29 n30 m0 m29 m30 HGN
      cases post with
      | false =>
        have hc := CB.out (fun h => absurd (h.1 rfl) (by decide))
        go_wp2_with fail
        refine bodyPost_ret (results_tmp (by kernel_rfl : Try.f11.results = #[.tmp 4]) _ _ _) rfl ?_
        exact ⟨S, by rw [hc]; rfl, HE.out, fun _ => hS.out⟩
      | true =>
        cases lb with
        | false =>
          go_wp2_with fail
          go_roundw
          case rel => exact ⟨k + 1, by omega, by go_num, hid HW.out, hid (AN.out ⟨fun _ => rfl, fun h => absurd h (by decide), fun h => absurd (HLB.out.2 h) (by decide)⟩)⟩
          case measure => simp [intOf]; omega
        | true =>
          have hc := CB.out (fun h => absurd (h.2.2 (HLB.out.1 rfl)) (by decide))
          go_wp2_with fail
          refine bodyPost_ret (results_tmp (by kernel_rfl : Try.f11.results = #[.tmp 4]) _ _ _) rfl ?_
          exact ⟨S, by rw [hc]; rfl, HE.out, fun _ => hS.out⟩
    have n26 : (o == 26) = false := by simpa using o26
    by_cases hj : 27 ≤ o
    · have hj2 : decide (27 ≤ o) = true := decide_eq_true hj
      have HJ := hid hj
      have HO26 := hid o26
      clear ho0 ho30 o0 o29 o30 o26 hj HGN
      go_wp2_with fail
      obtain ⟨WB, hWB⟩ : ∃ W, W = (w2.alloc (.cells #[.int .u8 o, .int .i64 gd, .int .i64 gs, .int .i64 gn] 37)) := ⟨_, rfl⟩
      rw [← hWB] at HW HE HOW x0 x3 ⊢
      have HWB := hid hWB
      clear hWB
      go_loopw [11, 12] (fun v11 v12 wi => ∃ j q : Nat, j ≤ (nats S).length ∧ v12 = .int .i64 (j : Nat) ∧ v11 = .bool (((nats S).take j).contains gn) ∧ wi = WB.drewN q) (fun _ v12 _ => (nats S).length - (intOf v12).toNat)
      case atStart => exact ⟨0, 0, Nat.zero_le _, rfl, by simp, rfl⟩
      case round =>
        obtain ⟨j, q, hj, rfl, rfl, hwi⟩ := hrel
        by_cases hjl : j < (nats S).length
        · have hjz : (j : Int) < ((nats S).length : Int) := by omega
          have cj : WB.cell? ⟨g1, j, none⟩ = some (.int .i64 (nats S)[j]) := by
            have := HOW.out.cells (g := g1) rfl j (iv (nats S)[j]) (by simp [hjl])
            rw [Addr.add_lit, Nat.zero_add] at this
            exact this
          have hn := hid (contains_next (nats S) gn j hjl)
          generalize (nats S)[j] = y at cj hn
          obtain ⟨fb, hfb⟩ : ∃ fb, ((nats S).take j).contains gn = fb := ⟨_, rfl⟩
          rw [hfb] at hn ⊢
          obtain ⟨yb, hyb⟩ : ∃ yb, (y == gn) = yb := ⟨_, rfl⟩
          rw [hyb] at hn
          clear hfb
          subst hwi
          cases fb with
          | true =>
            go_wp2_with fail
            go_quiet (fail)
            go_wp2
            go_roundw
            case rel => exact ⟨j + 1, _, by omega, by go_num, by rw [hn.out]; rfl, rfl⟩
            case measure => simp [intOf]; omega
          | false =>
            go_wp2_with fail
            go_quiet (fail)
            go_wp2
            go_roundw
            case rel => exact ⟨j + 1, _, by omega, by go_num, by rw [hn.out]; rfl, rfl⟩
            case measure => simp [intOf]; omega
        · obtain rfl : j = (nats S).length := by omega
          rw [List.take_length]
          obtain ⟨fb, hfb⟩ : ∃ fb, (nats S).contains gn = fb := ⟨_, rfl⟩
          have HF := hid hfb
          rw [hfb]
          clear hfb hjl hj
          have HWq := hid (show Below w1.heap.size w1 (WB.drewN q) from below_drewN HW.out q)
          have HEq := hid (show Below w.heap.size w (WB.drewN q) from below_drewN HE.out q)
          subst hwi
          cases fb with
          | false =>
            have hc := CB.out (fun h => absurd (HF.out.symm.trans (h.2.1 (HJ.out))) (by decide))
            go_wp2_with fail
            refine bodyPost_ret (results_tmp (by kernel_rfl : Try.f11.results = #[.tmp 4]) _ _ _) rfl ?_
            exact ⟨S, by rw [hc]; rfl, HEq.out, fun _ => hS.out⟩
          | true =>
            cases lb with
            | false =>
              go_wp2_with fail
              go_roundw
              case rel => exact ⟨k + 1, by omega, by go_num, HWq, hid (AN.out ⟨fun h => absurd h HO26.out, fun _ => HF.out, fun h => absurd (HLB.out.2 h) (by decide)⟩)⟩
              case measure => simp [intOf]; omega
            | true =>
              have hc := CB.out (fun h => absurd (h.2.2 (HLB.out.1 rfl)) (NE.out))
              go_wp2_with fail
              refine bodyPost_ret (results_tmp (by kernel_rfl : Try.f11.results = #[.tmp 4]) _ _ _) rfl ?_
              exact ⟨S, by rw [hc]; rfl, HEq.out, fun _ => hS.out⟩
    · have hj2 : decide (27 ≤ o) = false := decide_eq_false hj
      have HJ := hid hj
      have HO26 := hid o26
      clear ho0 ho30 o0 o29 o30 o26 hj HGN
      cases lb with
      | false =>
        go_wp2_with fail
        go_roundw
        case rel => exact ⟨k + 1, by omega, by go_num, hid HW.out, hid (AN.out ⟨fun h => absurd h HO26.out, fun h => absurd h HJ.out, fun h => absurd (HLB.out.2 h) (by decide)⟩)⟩
        case measure => simp [intOf]; omega
      | true =>
        have hc := CB.out (fun h => absurd (h.2.2 (HLB.out.1 rfl)) (NE.out))
        go_wp2_with fail
        refine bodyPost_ret (results_tmp (by kernel_rfl : Try.f11.results = #[.tmp 4]) _ _ _) rfl ?_
        exact ⟨S, by rw [hc]; rfl, HE.out, fun _ => hS.out⟩
end Go.Proofs.Ytdlmcfknmdaabaa
