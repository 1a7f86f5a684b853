/-
  The walk of CoderBack.
-/
import Derived.Test.YtbgbacajgaeooaaBts
import Derived.Deep.RegionLaw
namespace Go.Proofs.Ytbgbacajgaeooaa
open Go.RowKit

/-- What a round of the second loop wants. -/
theorem round_of {w wr wj : World} {a : Option Addr} {len : Nat} {bt pr : Nat → Int} {S : Nat → Prop} {d N i j : Nat} {ml : List UInt8} (HB : Hid (∀ W, Below w.heap.size w W → BitsAt W w.heap.size a len bt pr)) (HBW : Hid (Below w.heap.size w wr))
    (hst : ∃ x y R A2 n2 c2, DeAt wr.heap.size S wj d x y R N A2 n2 c2 ∧ Dv ml ((putsL bt pr i).drop j) x y R ∧ Below wr.heap.size wr wj) (hlt : j < i) (hil : i ≤ len) (_hi6 : i ≤ 6000) :
    ∃ (bi : Int) (ch : Nat) (px bx : Int) (ad : Addr), a = some ad ∧ wj.cell? (ad.add (j * 2)) = some (.int .i64 bx) ∧ wj.cell? ⟨(ad.add (j * 2)).block, (ad.add (j * 2)).off + 1, none⟩ = some (.int .i64 px) ∧ bits .and .i64 bx 1 = bi ∧ ∃ pk : Nat,
      (Calls Try.prog 24 #[.int .i64 px, .int .i64 65535] wj fun r w' => r = .returned (.int .i64 (pk : Nat)) ∧ wj = w') ∧ IntKind.i64.wrap (1 + (pk : Int)) = (ch : Int) ∧ wrap64 (1 + (pk : Int)) = (ch : Int) ∧
      Calls Try.prog 20 #[.pointer (some ⟨d, 0, none⟩), .int .i64 (ch : Nat)] wj fun r w' => r = .returned (.tuple #[.int .i64 bi, .int .i64 0]) ∧ w'.cell? (ad.add (j * 2)) = some (.int .i64 bx) ∧
        ∃ x y R A2 n2 c2, DeAt wr.heap.size S w' d x y R N A2 n2 c2 ∧ Dv ml ((putsL bt pr i).drop (j + 1)) x y R ∧ Below wr.heap.size wr w' := by
  obtain ⟨x, y, R, A2, n2, c2, hd, hdv, hbw⟩ := hst
  obtain ⟨ad, rfl, h0, c0, c1⟩ := HB.out wj (bel_trans HBW.out hbw) j (by omega)
  have hpk := pickN_lt (pr j) 65535 (by omega)
  obtain ⟨p1, p2⟩ := chP_in pr j
  refine ⟨bt j % 2, chP pr j, pr j, bt j, ad, rfl, c0, c1, i64_and1 _, pickN (pr j) 65535, Pick_any _ _ (by omega) (by omega) _, ?_, ?_, ?_⟩
  · unfold chP; rw [IntKind.wrap_i64]; omega
  · unfold chP; unfold wrap64; omega
  · rw [putsL_drop bt pr i j hlt] at hdv
    obtain ⟨q1, q2⟩ := hdv.step (by rw [← putsL_drop bt pr i j hlt]; exact putsL_ok bt pr i j)
    refine (Get_good hd hdv.ok (chP pr j) p1 p2 (bitF bt j) q1).mono ?_
    rintro r w' ⟨rfl, ⟨A3, n3, c3, h3⟩, b3⟩
    have hbw' : Below wr.heap.size wr w' := hbw.trans (b3.below (fun k hk => by rw [hk]; exact (hd.lt _ hd.sg).1) hbw.size)
    obtain ⟨ad2, e2, _, c02, _⟩ := HB.out w' (bel_trans HBW.out hbw') j (by omega)
    cases e2
    exact ⟨by rw [bitF_int], c02, _, _, _, _, _, _, h3, q2, hbw'⟩
set_option maxRecDepth 10000 in
set_option maxHeartbeats 4000000 in
theorem back_walk (a : Option Addr) (len cap : Nat) (bt pr : Nat → Int) (A : Option Addr) (n c : Nat) (ml : List UInt8) (w : World) (hb : BitsAt w w.heap.size a len bt pr) (hlc : len ≤ cap) (hcm : cap ≤ maxLen)
    (hm : IsBB w w.heap.size A (min n 1000) c ml) (hnc : n ≤ c) (_hc : c ≤ maxLen) :
    Calls Try.prog 6 #[.slice a len cap, .slice A n c] w fun e w' => e = .returned (.bool true) ∧ Below w.heap.size w w' := by
  have HB : Hid (∀ W, Below w.heap.size w W → BitsAt W w.heap.size a len bt pr) := fun W k => hb.below k
  have HM : Hid (∀ W, Below w.heap.size w W → IsB W A (min n 1000) c ml) := fun W k => (hm.below k).toIsB
  have hml := hm.len
  obtain ⟨m, hmm⟩ : ∃ m, m = min n 1000 := ⟨_, rfl⟩
  rw [← hmm] at HM hml
  have hm1 : m ≤ 1000 := by omega
  have hsl := slice_cut A n c m (by omega)
  have emin : (if (1000 : Int) < (n : Int) then (1000 : Int) else (n : Int)) = (m : Int) := by split <;> omega
  have emin2 : (if 1000 < n then (1000 : Int) else (n : Int)) = (m : Int) := by split <;> omega
  have O0 := hid (OL.nil (Below.refl w.heap.size w))
  unfold maxLen at hcm
  have HMin := hid (And.intro emin emin2)
  clear hb hm hmm
  go_enter Try.func6, Try.ntmps6
  go_wp2_with (go_at_call 8; (with_reducible refine O0.out.new.mono ?_); rintro r w1 ⟨g, rfl, h1⟩; have O1 := hid h1; clear h1)
  go_loopw [6, 7] (fun vn vi wr => ∃ i, i ≤ len ∧ i ≤ 6000 ∧ vn = .int .i64 (i : Nat) ∧ vi = .int .i64 (i : Nat) ∧ Hid (OL wr.heap.size w wr [(true, g, esP bt pr i)])) (fun _ vi _ => len - (intOf vi).toNat)
  case atStart => exact ⟨0, Nat.zero_le _, Nat.zero_le _, rfl, rfl, O1⟩
  case round =>
    obtain ⟨i, hi, hi6, rfl, rfl, hst⟩ := hrel
    clear O0 O1
    by_cases hlt : i < len ∧ i < 6000
    · obtain ⟨l1, l2⟩ := hlt
      have l1z : (i : Int) < (len : Int) := by omega
      have l2z : decide (i < 6000) = true := decide_eq_true l2
      have l2y : decide ((i : Int) < 6000) = true := decide_eq_true (by omega)
      obtain ⟨ad, rfl, h0, c0, c1⟩ := HB.out wr hst.out.bel i l1
      have HP := hid (Pick_any (pr i) 65535 (by omega) (by omega) wr)
      have hpk := pickN_lt (pr i) 65535 (by omega)
      have PE := hid (esP_put bt pr i hi6)
      obtain ⟨ch, hch⟩ : ∃ ch, ch = chP pr i := ⟨_, rfl⟩
      have hch2 : ch = 1 + pickN (pr i) 65535 := hch
      rw [← hch] at PE
      generalize pickN (pr i) 65535 = pk at hpk HP hch2
      have e1 : IntKind.i64.wrap (1 + (pk : Int)) = (ch : Int) := by rw [IntKind.wrap_i64]; omega
      have e2 : wrap64 (1 + (pk : Int)) = (ch : Int) := by unfold wrap64; omega
      have ea := i64_and1 (bt i)
      obtain ⟨bi, hbi⟩ : ∃ bi, bi = bt i % 2 := ⟨_, rfl⟩
      rw [← hbi] at ea PE
      have HL := hid (And.intro l1 l2)
      clear hch hch2 hpk hbi h0 l1 l2 hi
      generalize bt i = bx at c0 ea
      generalize pr i = px at c1 HP
      go_wp2_with (first
        | (go_at_call 24; (with_reducible refine HP.out.mono ?_); rintro r w' ⟨rfl, rfl⟩)
        | (go_at_call 10; (with_reducible refine (hst.out.put10 bi ch PE.out 0 rfl).mono ?_); rintro r w3 ⟨rfl, h3⟩; have O3 := hid h3; clear h3))
      obtain ⟨l1, l2⟩ := HL.out
      go_roundw
      case rel => exact ⟨i + 1, by omega, by omega, by go_num, by go_num, O3⟩
      case measure => simp [intOf]; omega
    · have hex : i = len ∨ (i < len ∧ i = 6000) := by omega
      have hi4 := hi6
      obtain ⟨LF, hLF⟩ : ∃ LF, LF = (esP bt pr i).l ++ be4 (esP bt pr i).x := ⟨_, rfl⟩
      have hlen := esP_len bt pr i hi6
      rw [← hLF] at hlen
      obtain ⟨n0, hn0⟩ : ∃ n0, n0 = LF.length := ⟨_, rfl⟩
      rw [← hn0] at hlen
      have HE : Hid (∀ q, Calls Try.prog 13 #[.pointer (some ⟨g, 0, none⟩)] (wr.drewN q) fun r W => ∃ v, r = .returned v ∧ W.ownsRow wr.heap.size 5 1 v n0 (LF.map bv) ∧ Below wr.heap.size wr W) := by
        intro q
        refine ((hst.out.later (below_drewN (Below.refl _ wr) q)).end).mono ?_
        rintro r W ⟨v, rfl, ho⟩
        rw [← hLF] at ho
        have h1 := ho.own
        rw [← hn0] at h1
        exact ⟨v, rfl, h1, (below_drewN (Below.refl _ wr) q).trans ho.bel⟩
      have HN : Hid (∀ W A' c', W.ownsRow wr.heap.size 5 1 (.slice A' (n0 + m) c') (n0 + m) ((LF ++ ml).map bv) → Below wr.heap.size wr W → Calls Try.prog 18 #[.slice A' (n0 + m) c'] W fun r w' => ∃ d S A2 n2 c2, r = .returned (.pointer (some ⟨d, 0, none⟩)) ∧ DeAt wr.heap.size S w' d 0 4294967295 (LF ++ ml) (n0 + m) A2 n2 c2 ∧ Below wr.heap.size wr w') := by
        intro W A' c' ho hb
        refine (NewDecoder_any A' _ _ c' W (own_isB2 ho (by omega))).mono ?_
        rintro r w' ⟨d, S, A2, n2, c2, rfl, hd, b2⟩
        have hl2 : (LF ++ ml).length = n0 + m := by rw [List.length_append, ← hn0, hml]
        rw [hl2] at hd
        exact ⟨d, S, A2, n2, c2, rfl, ⟨hd.row, hd.rest, hd.low, hd.sg, fun i hi => ⟨Nat.le_trans hb.size (hd.lt i hi).1, (hd.lt i hi).2⟩, hd.nN, hd.sm⟩, hb.trans (b2.mono hb.size)⟩
      have HD0 : Hid (Dv ml ((putsL bt pr i).drop 0) 0 4294967295 (LF ++ ml)) := by
        refine ⟨es0_ok, ?_⟩
        rw [List.drop_zero, hLF, List.append_assoc]
        rfl
      have HBW := hid hst.out.bel
      have HL := hid hlen
      have HI6 := hid hi6
      clear hLF hn0 hlen hml hi6 hlt hst emin emin2
      obtain ⟨emin, emin2⟩ := HMin.out
      have hguard : ((len : Int) ≤ (i : Int)) ∨ ((i : Int) < (len : Int) ∧ decide ((i : Int) < (6000 : Int)) = false) := by rcases hex with h | ⟨h1, h2⟩; exact .inl (by omega); exact .inr ⟨by omega, decide_eq_false (by omega)⟩
      have hil : i ≤ len := hi
      have HIL := hid (And.intro hi hi4)
      clear hex hi hi4 hil
      rcases hguard with hg1 | ⟨hg1, hg2⟩
      all_goals
        go_wp2_with fail
        go_region_law (first
          | (go_simp; go_at_call 13; ((refine (HE.out 1).mono ?_); rintro r W1 ⟨v1, rfl, o1, b1⟩; have O1 := hid o1; have B1 := hid b1; clear o1 b1))
          | (refine step_append_o rfl (.tmp 45) (.tmp 50) rfl wr _ wr.heap.size v1 n0 LF rfl O1.out A m c ml rfl (HM.out W1 (bel_trans HBW.out B1.out)) (by have := HL.out; omega) B1.out (Nat.le_refl _) ?_; intro A2 c2 W2 ho2 hb2)
          | (go_simp; go_at_call 18; ((refine (HN.out W2 A2 c2 ho2.out hb2.out).mono ?_); rintro r W3 ⟨d, S, A3, n3, c3, rfl, hd, hb3⟩; have HD := hid hd; have B3 := hid hb3; clear hd hb3)))
      all_goals
        clear HE HN O1 B1 ho2 hb2 emin emin2 HMin hsl HM
        go_wp2_with fail
        go_loopw [10] (fun vj wj => ∃ j, j ≤ i ∧ vj = .int .i64 (j : Nat) ∧ Hid (∃ x y R A2 n2 c2, DeAt wr.heap.size S wj d x y R (n0 + m) A2 n2 c2 ∧ Dv ml ((putsL bt pr i).drop j) x y R ∧ Below wr.heap.size wr wj)) (fun vj _ => i - (intOf vj).toNat)
        case atStart => exact ⟨0, Nat.zero_le _, rfl, hid ⟨_, _, _, _, _, _, HD.out, HD0.out, B3.out⟩⟩
        case round =>
          obtain ⟨j, hj, rfl, hst⟩ := hrel
          clear HD HD0 B3
          obtain ⟨hil, hi6⟩ := HIL.out
          by_cases hlt : j < i
          · have l1z : (j : Int) < (i : Int) := by omega
            have l1y : decide (j < i) = true := decide_eq_true hlt
            obtain ⟨bi, ch, px, bx, ad, rfl, c0, c1, ea, pk, hP, e1, e2, hG⟩ := round_of HB HBW hst.out hlt hil hi6
            have HP := hid hP
            have HG := hid hG
            have hjl : j < len := by omega
            have hjz : (j : Int) < (len : Int) := by omega
            have HLT := hid hlt
            clear hst hlt hil hP hG
            go_wp2_with (first
              | (go_at_call 24; (with_reducible refine HP.out.mono ?_); rintro r w' ⟨rfl, rfl⟩)
              | (go_at_call 20; (with_reducible refine HG.out.mono ?_); rintro r w3 ⟨rfl, c3, h3⟩; have H3 := hid h3; clear h3))
            have hlt := HLT.out
            go_roundw
            case rel => exact ⟨j + 1, by omega, by go_num, H3⟩
            case measure => simp [intOf]; omega
          · obtain rfl : j = i := by omega
            obtain ⟨x, y, R, A2, n2, c2, hd, hdv, hbw⟩ := hst.out
            have BW := hid (bel_trans HBW.out hbw)
            clear hd hdv hbw hst hj hlt
            go_wp2_with (go_at_call 16; (refine (awake_any _).mono ?_); rintro r w6 ⟨rfl, b6⟩; have B6 := hid (bel_trans BW.out b6))
            go_ret
            exact ⟨rfl, B6.out⟩
end Go.Proofs.Ytbgbacajgaeooaa
