/-
  The walk of ValidStays.
-/
import Derived.Test.YtdlmcfknmdaabaaAwk
import Derived.Test.YtdlmcfknmdaabaaRpl
import Derived.Test.YtdlmcfknmdaabaaBig
namespace Go.Proofs.Ytdlmcfknmdaabaa
open Go.RowKit Go.Maps
set_option linter.unusedVariables false
set_option linter.unusedSimpArgs false

/-- Bools in memory. -/
def IsBs (w : World) (A : Option Addr) (n c : Nat) (B : Nat → Bool) : Prop :=
  n ≤ c ∧ c ≤ maxLen ∧ (n = 0 ∨ ∃ x : Addr, A = some x ∧ x.block < w.heap.size ∧ ∀ i, i < n → w.cell? (x.add i) = some (.bool (B i)))
theorem IsBs.below {w w' : World} {A : Option Addr} {n c : Nat} {B : Nat → Bool} (h : IsBs w A n c B) (b : Below w.heap.size w w') : IsBs w' A n c B := by
  refine ⟨h.1, h.2.1, h.2.2.imp id ?_⟩
  rintro ⟨x, h1, h2, h3⟩
  refine ⟨x, h1, by have := b.size; omega, fun i hi => ?_⟩
  have := h3 i hi
  unfold World.cell? at this ⊢
  rw [b.block _ (by rw [block_of_add]; exact h2)]
  exact this
theorem isBs_nil (w : World) : IsBs w none 0 0 (fun _ => false) := ⟨Nat.le_refl _, Nat.zero_le _, .inl rfl⟩
theorem isBs_of {w : World} {x : Addr} {n c : Nat} {B : Nat → Bool} (h1 : n ≤ c) (h2 : c ≤ maxLen) (h : ∀ i, i < c → w.cell? (x.add i) = some (.bool (B i))) : IsBs w (some x) n c B := by
  refine ⟨h1, h2, ?_⟩
  by_cases h0 : n = 0
  · exact .inl h0
  · refine .inr ⟨x, rfl, ?_, fun i hi => h i (by omega)⟩
    have hc := h 0 (by omega)
    rw [← block_of_add x 0]
    unfold World.cell? at hc
    rcases Nat.lt_or_ge (x.add 0).block w.heap.size with hlt | hge
    · exact hlt
    · rw [Array.getElem?_eq_none hge] at hc
      simp at hc
theorem ones_below {w w' : World} {B n : Nat} {D : DataW Unit} (h : w.ownsMap Try.prog 3 (plainElem Try.prog 3) B n D) (hb : Below w.heap.size w w') : w'.ownsMap Try.prog 3 (plainElem Try.prog 3) B n D := by
  have hlt := h.lt
  obtain ⟨es, clock, hB, r⟩ := h
  exact ⟨es, clock, (hb.block B hlt).trans hB, r⟩
set_option maxRecDepth 10000 in
theorem pick_pos (i : Nat) (k : Int) (h1 : 1 ≤ k) : ∃ p : Nat, (p : Int) < k ∧ ∀ w, Calls Try.prog 14 #[.int .i64 (i : Int), .int .i64 k] w fun r w' => r = .returned (.int .i64 (p : Nat)) ∧ w' = w := by
  have h3 := Int.emod_lt_of_pos (i : Int) (show 0 < k by omega)
  have h4 := Int.emod_nonneg (i : Int) (show k ≠ 0 by omega)
  have hk : decide (k < 1) = false := decide_eq_false (by omega)
  have hk0 : ¬ k = 0 := by omega
  have e1 : (i : Int).tmod k = (i : Int) % k := Int.tmod_eq_emod_of_nonneg (by omega)
  refine ⟨((i : Int) % k).toNat, by omega, fun w => ?_⟩
  have e3 : (i : Int).tmod k = ((((i : Int) % k).toNat : Nat) : Int) := by omega
  have e4 : (i : Int) % k = ((((i : Int) % k).toNat : Nat) : Int) := by omega
  generalize ((i : Int) % k).toNat = p at e3 e4
  clear h1 h3 h4 e1
  go_enter Try.func14, Try.ntmps14
  go_wp2_with fail
  go_ret
  exact ⟨rfl, rfl⟩
theorem one_of {c : Int} (h : (.lit (.int .i64 1) : DataW Unit) = .lit (.int .i64 c)) : c = 1 := by
  injection h with h
  injection h with _ h
  exact h.symm
theorem zero3 (w : World) : (zeroValue 3).run Try.prog w = .ok (.int .i64 0) w := by kernel_rfl
set_option maxRecDepth 10000 in
set_option maxHeartbeats 8000000 in
theorem stays_any (A : Option Addr) (n c : Nat) (l : List UInt8) (post : Bool) (C : Option Addr) (m d : Nat) (Bf : Nat → Bool) (w : World) (h : IsBB w w.heap.size A n c l) (hC : IsBs w C m d Bf) :
    Calls Try.prog 4 #[.slice A n c, .bool post, .slice C m d] w fun e w' => e = .returned (.bool true) ∧ Below w.heap.size w w' := by
  have HK := hid (fun post w h => Check_any A n c l post w h)
  have HS := hid (fun w h => Starts_any A n c l w h)
  have HG := hid (fun w h k => Get_any A n c l w h k)
  have HA := hid (fun w => awake_any w)
  have I0 := hid h
  have HC := hid hC
  have hmm := @run_makeMap Try.prog
  have K1 := hid (HK.out post w h)
  clear h hC
  go_enter Try.func4, Try.ntmps4
  go_wp2_with fail
  refine K1.out.mono ?_
  rintro r w1 ⟨S1, rfl, b1, hs1⟩
  obtain ⟨r, hr⟩ : ∃ r, chkE l post S1 = r := ⟨_, rfl⟩
  have HR := hid hr
  have B1 := hid b1
  rw [hr]
  clear hr b1 K1
  dsimp only
  by_cases h0 : r = 0
  case neg =>
    have hb : (r != 0) = true := by simpa using h0
    have HB := hid hb
    clear h0
    go_wp2_with fail
    refine (HA.out _).mono ?_
    rintro r2 w2 ⟨rfl, b2⟩
    dsimp only
    go_wp2_with fail
    go_ret
    exact ⟨rfl, B1.out.trans (b2.mono B1.out.size)⟩
  subst h0
  obtain ⟨hright, hst⟩ := chk_right hs1 HR.out
  have RT := hid hright
  have ST := hid hst
  have S2 := hid (HS.out w1 (I0.out.on B1.out))
  rw [hst] at S2
  clear hright hst hs1 HR
  go_wp2_with fail
  refine S2.out.mono ?_
  rintro r w2 ⟨v, S, rfl, b2, hown, hs, -⟩
  have hS := hid (hs True.intro)
  have B2 := hid (B1.out.trans (b2.mono B1.out.size))
  have HO := hid (own_low hown (B1.out.size))
  have K2 := hid (HK.out true w2 (I0.out.on B2.out))
  clear S2 b2 hs hown B1
  dsimp only
  go_wp2_with fail
  refine K2.out.mono ?_
  rintro r w3 ⟨S3, rfl, b3, hs3⟩
  rw [right_chk RT.out.post ST.out hs3]
  have B3 := hid (B2.out.trans (b3.mono B2.out.size))
  have HO3 := hid (ints_below HO.out b3)
  clear b3 hs3 K2 B2 HO
  obtain ⟨A', c', rfl⟩ := own_ints HO3.out
  dsimp only
  go_wp2_with fail
  have hN : (nats S).length ≤ 4096 := by
    have h1 := starts_few hS.out
    have h2 := stE_le ST.out
    rw [nats_len]
    omega
  have hM : ∀ q, (Value.slice A' (nats S).length c').ownBlock = some q → q < w3.heap.size := fun q hq => (HO3.out.lt q hq).2
  have HM := hid hM
  have B3s := hid B3.out.size
  obtain ⟨M, hMe⟩ : ∃ M, w3.heap.size = M := ⟨_, rfl⟩
  have O4 := hid (HO3.out.alloc (.map #[] 0))
  have M4 : Hid ((w3.alloc (.map #[] 0)).ownsMap Try.prog 3 (plainElem Try.prog 3) M 0 (ones [])) := hid (by rw [← hMe]; exact World.ownsMap_made _ _ _ _)
  have B4 := hid (B3.out.alloc B3.out.size (.map #[] 0))
  clear hM B3 HO3 hmm
  rw [hMe] at HM B3s
  rw [hMe]
  generalize w3.alloc (.map #[] 0) = w4 at *
  clear hMe
  go_loopw [38] (fun v38 wr => ∃ k : Nat, k ≤ (nats S).length ∧ v38 = .int .i64 (k : Nat) ∧ Hid (Below w.heap.size w wr) ∧ Hid (wr.ownsRow w.heap.size 3 1 (.slice A' (nats S).length c') (nats S).length ((nats S).map iv)) ∧ Hid (wr.ownsMap Try.prog 3 (plainElem Try.prog 3) M k (ones (S.take k)))) (fun v38 _ => (nats S).length - (intOf v38).toNat)
  case atStart => exact ⟨0, Nat.zero_le _, rfl, B4, O4, M4⟩
  case round =>
    obtain ⟨k, hk, rfl, HB, HO, HMp⟩ := hrel
    by_cases hlt : k < (nats S).length
    · have hltz : (k : Int) < ((nats S).length : Int) := by omega
      have hor := HO.out
      rcases hor.2 with ⟨h1, _⟩ | ⟨g2, cap, cur, h1, hge, hh, hrest⟩
      · injection h1 with _ h1
        omega
      cases h1
      have hks : k < S.length := by rw [nats_len] at hlt; exact hlt
      have ct : wr.cell? ⟨g2, k, none⟩ = some (.int .i64 (S[k] : Nat)) := by
        have := hor.cells (g := g2) rfl k (iv (S[k] : Nat)) (by simp [nats, hks])
        rw [Addr.add_lit, Nat.zero_add] at this
        exact this
      have hin : S[k] ∈ S := List.getElem_mem hks
      have hsm : S[k] ≤ 65535 := by
        have := (got_in ((starts_mem hS.out).2 _ hin).2.1).1
        have := stE_le ST.out
        omega
      have HN : Hid (S.take (k + 1) = S.take k ++ [S[k]]) := hid (List.take_succ_eq_append_getElem hks)
      generalize S[k] = t at ct HN hsm
      have hown := HMp.out
      clear hrest hh hge hor hin hks
      have hkey : keyOf Try.prog 3 (.int .i64 (t : Int)) = some (.int .i64 (t : Int)) := keyOf_int_mk Try.underlying3 (WalkArith.wf_i64 (by omega))
      go_wp2_with (first
        | (at_mapUpdate; refine wpList_mapUpdate_own _ rfl _ _ _ 34 rfl 3 3 law3 Try.underlying34 (plainElem Try.prog 3 (H := Unit)) M k _ rfl hown (by unfold maxLen; omega) _ _ _ rfl rfl hkey _ [] (plainElem_int Try.underlying3 (WalkArith.wf_i64 (by omega))) ?_; intro w5 hown1 hgrow1)
        | go_in)
      go_roundw
      case rel =>
        refine ⟨k + 1, by omega, by go_num, hid ?_, hid ?_, hid ?_⟩
        · exact HB.out.grown hgrow1 HB.out.size (fun q hq => by injection hq with hq; have := B3s.out; omega)
        · refine HO.out.kept hgrow1 (.inr fun e => ?_)
          have := HM.out _ e
          omega
        · rw [HN.out, ones_snoc]
          exact hown1
      case measure => simp [intOf]; omega
    · obtain rfl : k = (nats S).length := by omega
      have HB5 := HB
      have HM5 : Hid (wr.ownsMap Try.prog 3 (plainElem Try.prog 3) M (nats S).length (ones S)) := hid (by have := HMp.out; rw [nats_len, List.take_length] at this; rw [nats_len]; exact this)
      have H00 : 0 ∈ S := by obtain ⟨S', h1, h2⟩ := RT.out.begin; rw [hS.out] at h1; injection h1 with h1; rw [h1]; exact h2
      have HZ := hid H00
      clear HB HO HMp B4 O4 M4 HM H00 hk hlt
      obtain ⟨wb, hwb⟩ : ∃ W, W = wr := ⟨_, rfl⟩
      rw [← hwb] at HB5 HM5
      go_wp2_with fail
      go_loopw [12, 13] (fun v12 v13 wr => ∃ j i : Nat, i ≤ 500 ∧ v12 = .int .i64 (j : Nat) ∧ v13 = .int .i64 (i : Nat) ∧ Hid (j ∈ S) ∧ Hid (Below w.heap.size w wr) ∧ Hid (wr.ownsMap Try.prog 3 (plainElem Try.prog 3) M (nats S).length (ones S))) (fun _ v13 _ => 500 - (intOf v13).toNat)
      case atStart => exact ⟨0, 0, by omega, rfl, rfl, HZ, by rw [← hwb]; exact HB5, by rw [← hwb]; exact HM5⟩
      case round =>
        obtain ⟨j, i, hi, rfl, rfl, HJ, HB, HMp⟩ := hrel
        clear HB5 HM5 hwb HZ
        by_cases hi5 : i < 500
        case neg =>
          obtain rfl : i = 500 := by omega
          go_wp2_with (first | (go_at_call 6; refine (HA.out _).mono ?_; rintro r w6 ⟨rfl, b6⟩; have B6 := hid (bel_on HB.out b6); clear b6; dsimp only) | go_in)
          go_ret
          exact ⟨rfl, B6.out⟩
        have hi5z : (i : Int) < 500 := by omega
        have IB := hid (I0.out.on HB.out)
        obtain ⟨q1, q2, q3, q4⟩ := RT.out.step hS.out HJ.out
        have q5 := op_le hS.out HJ.out
        have q6 := got_in q1
        have hjl : (j : Int) ≤ 65535 := by
          have := q6.1
          have := stE_le ST.out
          omega
        have hkey : keyOf Try.prog 3 (.int .i64 (j : Int)) = some (.int .i64 (j : Int)) := keyOf_int_mk Try.underlying3 (WalkArith.wf_i64 (by omega))
        have HO1 := hid (ones_at S (R := S.reverse) (List.reverse_reverse S) j HJ.out (.lit (.int .i64 0)))
        obtain ⟨nx, hnx⟩ : ∃ nx, nxt l j = nx := ⟨_, rfl⟩
        have q7 := q6.2.2.2.2
        rw [hnx] at q7 q4
        obtain ⟨g, hg⟩ : ∃ g, getR l j = g := ⟨_, rfl⟩
        rw [hg] at q1 q2 q3 q4 q5 q7
        obtain ⟨o, gd, gs, gn, ge, err⟩ := g
        dsimp only at q1 q2 q3 q4 q5 q7
        subst q1 q7
        have Q2 := hid q2
        have Q3 := hid q3
        have Q4 := hid q4
        have q50 := q5.1
        have q530 := q5.2
        clear q2 q3 q4 q6 q5
        by_cases o0 : o = 0
        · subst o0
          clear q50 q530
          have hb26 : ((0 : Int) == 26) = false := rfl
          go_wp2_with fail
          refine (HG.out _ IB.out j).mono ?_
          rw [hg]
          rintro r w5 ⟨rfl, b5⟩
          unfold vG vI
          have BX := hid (bel_on HB.out b5)
          have HX := hid (bel_on BX.out ((Below.refl _ w5).alloc (Nat.le_refl _) (.cells #[.int .u8 0, .int .i64 gd, .int .i64 gs, .int .i64 gn] 37)))
          have MX := hid (ones_below HMp.out (b5.alloc b5.size (.cells #[.int .u8 0, .int .i64 gd, .int .i64 gs, .int .i64 gn] 37)))
          obtain ⟨cv, hrun, hat, -⟩ := MX.out.lookup_int law3 Try.underlying34 Try.underlying3 (zero3 _) hkey
          rw [HO1.out] at hat
          obtain rfl : cv = 1 := one_of hat
          clear hat b5 BX
          dsimp only
          go_wp2_with fail
          refine (HA.out _).mono ?_
          rintro r w6 ⟨rfl, b6⟩
          dsimp only
          go_wp2_with fail
          go_ret
          exact ⟨rfl, bel_on HX.out b6⟩
        have b0 : (o == 0) = false := by simpa using o0
        by_cases o29 : o = 29
        · subst o29
          obtain ⟨j2, hj2, rfl⟩ := Q3.out (by decide)
          have IN := hid hj2
          clear q50 q530 hj2 o0 b0
          go_wp2_with fail
          refine (HG.out _ IB.out j).mono ?_
          rw [hg]
          rintro r w5 ⟨rfl, b5⟩
          unfold vG vI
          have BX := hid (bel_on HB.out b5)
          have HX := hid (bel_on BX.out ((Below.refl _ w5).alloc (Nat.le_refl _) (.cells #[.int .u8 29, .int .i64 gd, .int .i64 gs, .int .i64 (j2 : Nat)] 37)))
          have MX := hid (ones_below HMp.out (b5.alloc b5.size (.cells #[.int .u8 29, .int .i64 gd, .int .i64 gs, .int .i64 (j2 : Nat)] 37)))
          obtain ⟨cv, hrun, hat, -⟩ := MX.out.lookup_int law3 Try.underlying34 Try.underlying3 (zero3 _) hkey
          rw [HO1.out] at hat
          obtain rfl : cv = 1 := one_of hat
          clear hat b5 BX
          dsimp only
          go_wp2_with fail
          go_roundw
          case rel => exact ⟨j2, i + 1, by omega, rfl, by go_num, IN, HX, MX⟩
          case measure => simp [intOf]; omega
        by_cases o30 : o = 30
        · subst o30
          obtain ⟨j2, hj2, rfl⟩ := Q3.out (by decide)
          have IN := hid hj2
          clear q50 q530 hj2 o0 b0
          go_wp2_with fail
          refine (HG.out _ IB.out j).mono ?_
          rw [hg]
          rintro r w5 ⟨rfl, b5⟩
          unfold vG vI
          have BX := hid (bel_on HB.out b5)
          have HX := hid (bel_on BX.out ((Below.refl _ w5).alloc (Nat.le_refl _) (.cells #[.int .u8 30, .int .i64 gd, .int .i64 gs, .int .i64 (j2 : Nat)] 37)))
          have MX := hid (ones_below HMp.out (b5.alloc b5.size (.cells #[.int .u8 30, .int .i64 gd, .int .i64 gs, .int .i64 (j2 : Nat)] 37)))
          obtain ⟨cv, hrun, hat, -⟩ := MX.out.lookup_int law3 Try.underlying34 Try.underlying3 (zero3 _) hkey
          rw [HO1.out] at hat
          obtain rfl : cv = 1 := one_of hat
          clear hat b5 BX
          dsimp only
          go_wp2_with fail
          go_roundw
          case rel => exact ⟨j2, i + 1, by omega, rfl, by go_num, IN, HX, MX⟩
          case measure => simp [intOf]; omega
        by_cases o27 : o = 27
        · subst o27
          obtain ⟨j2, hj2, rfl⟩ := Q3.out (by decide)
          have INj := hid hj2
          have INn := hid (Q4.out (by decide))
          clear q50 q530 hj2 o0 b0
          have HCr := hid (HC.out.below HB.out)
          by_cases hm : m = 0
          · subst hm
            have IN := INn
            go_wp2_with fail
            refine (HG.out _ IB.out j).mono ?_
            rw [hg]
            rintro r w5 ⟨rfl, b5⟩
            unfold vG vI
            have BX := hid (bel_on HB.out b5)
            have HX := hid (bel_on BX.out ((Below.refl _ w5).alloc (Nat.le_refl _) (.cells #[.int .u8 27, .int .i64 gd, .int .i64 gs, .int .i64 (j2 : Nat)] 37)))
            have MX := hid (ones_below HMp.out (b5.alloc b5.size (.cells #[.int .u8 27, .int .i64 gd, .int .i64 gs, .int .i64 (j2 : Nat)] 37)))
            obtain ⟨cv, hrun, hat, -⟩ := MX.out.lookup_int law3 Try.underlying34 Try.underlying3 (zero3 _) hkey
            rw [HO1.out] at hat
            obtain rfl : cv = 1 := one_of hat
            clear hat b5 BX
            dsimp only
            go_wp2_with fail
            go_roundw
            case rel => exact ⟨nx, i + 1, by omega, rfl, by go_num, IN, HX, MX⟩
            case measure => simp [intOf]; omega
          · have hmz : (0 : Int) < (m : Int) := by omega
            have hmz2 : decide ((0 : Int) < (m : Int)) = true := decide_eq_true hmz
            obtain ⟨p, hp, hpk⟩ := pick_pos i (m : Int) (by omega)
            have PK := hid hpk
            have hmc := HC.out.1
            have hmx := HC.out.2.1
            obtain ⟨bb, hbb⟩ : ∃ bb, Bf p = bb := ⟨_, rfl⟩
            clear hpk
            go_wp2_with fail
            refine (HG.out _ IB.out j).mono ?_
            rw [hg]
            rintro r w5 ⟨rfl, b5⟩
            unfold vG vI
            have BX := hid (bel_on HB.out b5)
            have HX := hid (bel_on BX.out ((Below.refl _ w5).alloc (Nat.le_refl _) (.cells #[.int .u8 27, .int .i64 gd, .int .i64 gs, .int .i64 (j2 : Nat)] 37)))
            have MX := hid (ones_below HMp.out (b5.alloc b5.size (.cells #[.int .u8 27, .int .i64 gd, .int .i64 gs, .int .i64 (j2 : Nat)] 37)))
            obtain ⟨cv, hrun, hat, -⟩ := MX.out.lookup_int law3 Try.underlying34 Try.underlying3 (zero3 _) hkey
            rw [HO1.out] at hat
            obtain rfl : cv = 1 := one_of hat
            clear hat b5 BX
            dsimp only
            rcases (HC.out.below HX.out).2.2 with hm0 | ⟨x, rfl, hxb, hcell⟩
            · exact absurd hm0 hm
            have cp := hcell p (by omega)
            rw [hbb] at cp
            clear hcell hxb hm
            go_wp2_with fail
            refine (PK.out _).mono ?_
            rintro r w7 ⟨rfl, rfl⟩
            dsimp only
            cases bb with
            | false =>
              have IN := INn
              go_wp2_with fail
              go_roundw
              case rel => exact ⟨nx, i + 1, by omega, rfl, by go_num, IN, HX, MX⟩
              case measure => simp [intOf]; omega
            | true =>
              have IN := INj
              go_wp2_with fail
              go_roundw
              case rel => exact ⟨j2, i + 1, by omega, rfl, by go_num, IN, HX, MX⟩
              case measure => simp [intOf]; omega
        by_cases o28 : o = 28
        · subst o28
          obtain ⟨j2, hj2, rfl⟩ := Q3.out (by decide)
          have INj := hid hj2
          have INn := hid (Q4.out (by decide))
          clear q50 q530 hj2 o0 b0
          have HCr := hid (HC.out.below HB.out)
          by_cases hm : m = 0
          · subst hm
            have IN := INn
            go_wp2_with fail
            refine (HG.out _ IB.out j).mono ?_
            rw [hg]
            rintro r w5 ⟨rfl, b5⟩
            unfold vG vI
            have BX := hid (bel_on HB.out b5)
            have HX := hid (bel_on BX.out ((Below.refl _ w5).alloc (Nat.le_refl _) (.cells #[.int .u8 28, .int .i64 gd, .int .i64 gs, .int .i64 (j2 : Nat)] 37)))
            have MX := hid (ones_below HMp.out (b5.alloc b5.size (.cells #[.int .u8 28, .int .i64 gd, .int .i64 gs, .int .i64 (j2 : Nat)] 37)))
            obtain ⟨cv, hrun, hat, -⟩ := MX.out.lookup_int law3 Try.underlying34 Try.underlying3 (zero3 _) hkey
            rw [HO1.out] at hat
            obtain rfl : cv = 1 := one_of hat
            clear hat b5 BX
            dsimp only
            go_wp2_with fail
            go_roundw
            case rel => exact ⟨nx, i + 1, by omega, rfl, by go_num, IN, HX, MX⟩
            case measure => simp [intOf]; omega
          · have hmz : (0 : Int) < (m : Int) := by omega
            have hmz2 : decide ((0 : Int) < (m : Int)) = true := decide_eq_true hmz
            obtain ⟨p, hp, hpk⟩ := pick_pos i (m : Int) (by omega)
            have PK := hid hpk
            have hmc := HC.out.1
            have hmx := HC.out.2.1
            obtain ⟨bb, hbb⟩ : ∃ bb, Bf p = bb := ⟨_, rfl⟩
            clear hpk
            go_wp2_with fail
            refine (HG.out _ IB.out j).mono ?_
            rw [hg]
            rintro r w5 ⟨rfl, b5⟩
            unfold vG vI
            have BX := hid (bel_on HB.out b5)
            have HX := hid (bel_on BX.out ((Below.refl _ w5).alloc (Nat.le_refl _) (.cells #[.int .u8 28, .int .i64 gd, .int .i64 gs, .int .i64 (j2 : Nat)] 37)))
            have MX := hid (ones_below HMp.out (b5.alloc b5.size (.cells #[.int .u8 28, .int .i64 gd, .int .i64 gs, .int .i64 (j2 : Nat)] 37)))
            obtain ⟨cv, hrun, hat, -⟩ := MX.out.lookup_int law3 Try.underlying34 Try.underlying3 (zero3 _) hkey
            rw [HO1.out] at hat
            obtain rfl : cv = 1 := one_of hat
            clear hat b5 BX
            dsimp only
            rcases (HC.out.below HX.out).2.2 with hm0 | ⟨x, rfl, hxb, hcell⟩
            · exact absurd hm0 hm
            have cp := hcell p (by omega)
            rw [hbb] at cp
            clear hcell hxb hm
            go_wp2_with fail
            refine (PK.out _).mono ?_
            rintro r w7 ⟨rfl, rfl⟩
            dsimp only
            cases bb with
            | false =>
              have IN := INn
              go_wp2_with fail
              go_roundw
              case rel => exact ⟨nx, i + 1, by omega, rfl, by go_num, IN, HX, MX⟩
              case measure => simp [intOf]; omega
            | true =>
              have IN := INj
              go_wp2_with fail
              go_roundw
              case rel => exact ⟨j2, i + 1, by omega, rfl, by go_num, IN, HX, MX⟩
              case measure => simp [intOf]; omega
        have IN := hid (Q4.out (by omega))
        by_cases o26 : o = 26
        · subst o26
          obtain rfl := Q2.out rfl
          clear q50 q530 o0 b0 o29 o30 o27 o28
          go_wp2_with fail
          refine (HG.out _ IB.out j).mono ?_
          rw [hg]
          rintro r w5 ⟨rfl, b5⟩
          unfold vG vI
          have BX := hid (bel_on HB.out b5)
          have HX := hid (bel_on BX.out ((Below.refl _ w5).alloc (Nat.le_refl _) (.cells #[.int .u8 26, .int .i64 gd, .int .i64 gs, .int .i64 gn] 37)))
          have MX := hid (ones_below HMp.out (b5.alloc b5.size (.cells #[.int .u8 26, .int .i64 gd, .int .i64 gs, .int .i64 gn] 37)))
          obtain ⟨cv, hrun, hat, -⟩ := MX.out.lookup_int law3 Try.underlying34 Try.underlying3 (zero3 _) hkey
          rw [HO1.out] at hat
          obtain rfl : cv = 1 := one_of hat
          clear hat b5 BX
          dsimp only
          go_wp2_with fail
          go_roundw
          case rel => exact ⟨nx, i + 1, by omega, rfl, by go_num, IN, HX, MX⟩
          case measure => simp [intOf]; omega
        have b29 : (o == 29) = false := by simpa using o29
        have b30 : (o == 30) = false := by simpa using o30
        have b27 : (o == 27) = false := by simpa using o27
        have b28 : (o == 28) = false := by simpa using o28
        have b26 : (o == 26) = false := by simpa using o26
        clear q50 q530 o0 o29 o30 o27 o28 o26
        go_wp2_with fail
        refine (HG.out _ IB.out j).mono ?_
        rw [hg]
        rintro r w5 ⟨rfl, b5⟩
        unfold vG vI
        have BX := hid (bel_on HB.out b5)
        have HX := hid (bel_on BX.out ((Below.refl _ w5).alloc (Nat.le_refl _) (.cells #[.int .u8 o, .int .i64 gd, .int .i64 gs, .int .i64 gn] 37)))
        have MX := hid (ones_below HMp.out (b5.alloc b5.size (.cells #[.int .u8 o, .int .i64 gd, .int .i64 gs, .int .i64 gn] 37)))
        obtain ⟨cv, hrun, hat, -⟩ := MX.out.lookup_int law3 Try.underlying34 Try.underlying3 (zero3 _) hkey
        rw [HO1.out] at hat
        obtain rfl : cv = 1 := one_of hat
        clear hat b5 BX
        dsimp only
        go_wp2_with fail
        go_roundw
        case rel => exact ⟨nx, i + 1, by omega, rfl, by go_num, IN, HX, MX⟩
        case measure => simp [intOf]; omega
end Go.Proofs.Ytdlmcfknmdaabaa
