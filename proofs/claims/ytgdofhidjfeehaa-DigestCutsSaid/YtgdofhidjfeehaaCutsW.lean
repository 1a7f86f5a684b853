/-
  The walk of DigestCuts.
-/
import Derived.Test.YtgdofhidjfeehaaCutsN
import Derived.Outline
import Derived.Deep.Cut
import Derived.Laws.AppendOwnNone
namespace Go.Proofs.Ytgdofhidjfeehaa
open Go.RowKit

set_option maxRecDepth 10000 in
set_option maxHeartbeats 4000000 in
theorem cuts_walk (A : Option Addr) (n c : Nat) (Ls : List (List UInt8)) (w : World) (h : Parts w w.heap.size A n c Ls) :
    Calls Try.prog 6 #[.slice A n c] w fun e w' => e = .returned (.bool true) ∧ Below w.heap.size w w' := by
  obtain ⟨i0, hi, hz0, hz1, hz2⟩ := info_parts Try.info5
  have H := hid h
  have hnm : (n : Int) ≤ 9223372036854775807 := by have := h.cap; have := h.max; unfold maxLen at *; omega
  clear h
  go_enter Try.func6, Try.ntmps6
  go_wp2_with (go_at_call 17; refine (New_any _).mono ?_; rintro e w1 ⟨g, rfl, hd, hb1, hg⟩; have Hd := hid hd; have Hb1 := hid hb1; have Hg := hid hg; clear hd hb1 hg)
  go_loopw [4, 5] (fun va i wr => ∃ k : Nat, k ≤ n ∧ k ≤ 30 ∧ i = .int .i64 k ∧ Hid ((joined Ls k).length ≤ 3000 * k) ∧ Hid (Dig wr g (joined Ls k)) ∧ Hid (wr.ownsRow w.heap.size 5 1 va (joined Ls k).length ((joined Ls k).map bv)) ∧ Hid (Below w.heap.size w wr)) (fun _ i _ => 30 - (intOf i).toNat)
  case atStart => exact ⟨0, Nat.zero_le _, by omega, rfl, Nat.zero_le _, Hd.out, World.ownsRow_nil _ _ _ _, Hb1.out⟩
  case round =>
    obtain ⟨k, hkn, hk30, rfl, hLl, hD, hO, hB⟩ := hrel
    clear Hd
    have hHl := hid H.out.len
    by_cases hlt : k < n ∧ k < 30
    · obtain ⟨hl1, hl2⟩ := hlt
      have hz1' : (k : Int) < n := by omega
      have hz2' : (k : Int) < 30 := by omega
      obtain ⟨ad, Ai, ni, ci, rfl, hadl, hcell0, hnc, hcm, hIB0, hnone⟩ := H.out.lies k (by rw [hHl.out]; exact hl1)
      have hcell : wr.cell? (ad.add k) = some (.slice Ai ni ci) := (hB.out.cell (p := ad.add k) (by rw [block_of_add]; exact hadl)).trans hcell0
      have hJ := hid (joined_succ Ls k (by rw [hHl.out]; exact hl1))
      obtain ⟨x, hx⟩ : ∃ x, x = Ls[k]'(by rw [hHl.out]; exact hl1) := ⟨_, rfl⟩
      rw [← hx] at hIB0 hJ
      obtain ⟨m, hm⟩ : ∃ m, m = min ni 3000 := ⟨_, rfl⟩
      rw [← hm] at hIB0
      have hmin : (if (3000 : Int) < (ni : Int) then (3000 : Int) else (ni : Int)) = (m : Int) := by split <;> omega
      have hmz : (m : Int) ≤ 3000 := by omega
      have hniz : (ni : Int) ≤ 9223372036854775807 := by unfold maxLen at hcm; omega
      have hsl := cut_slice Ai ni ci m (by omega) hnc
      have hIB : IsBB wr wr.heap.size Ai m ci x := hIB0.on hB.out
      have HIB0 := hid hIB0
      have HIB := hid hIB
      have Hm := hid (And.intro hm (And.intro hnc hcm))
      have Hnone := hid hnone
      clear hIB hIB0 hx hm hnc hcm hcell0 hadl hnone
      go_wp2_with fail
      go_quiet (fail)
      clear hsl hmin hcell
      go_wp2_with fail
      refine (CopyBytes_any _ x _ _ _ ((HIB.out.on (below_drewN (Below.refl _ wr) nq)))).mono ?_
      rintro e w2 ⟨v, rfl, hown2, hb2⟩
      obtain ⟨Av, cv, rfl, hvB⟩ := own_isBB hown2 (by have := Hm.out; omega)
      have HvB := hid hvB
      have Hown2 := hid hown2
      have Hb2 := hid hb2
      have hD2 : Dig w2 g (joined Ls k) := hD.out.to (Hb2.out.block g hD.out.lt)
      have HD2 := hid hD2
      clear hvB hown2 hb2 hD2
      have HX := hid (And.intro HIB.out.len (And.intro hLl.out hk30))
      go_wp2_with fail
      refine (Write_any g (joined Ls k) x _ _ _ _ HD2.out (rest_own Hown2.out HvB.out hD.out.lt) (by have := HX.out; omega)).mono ?_
      rintro e w3 ⟨rfl, hd3, hg3⟩
      have HD3 := hid hd3
      have HG3 := hid hg3
      obtain ⟨gi, hgiB, hgi⟩ := own_block Hown2.out
      have Hgi := hid (And.intro hgiB hgi)
      have hgi3 : Hid (0 < m → Av = some ⟨gi, 0, none⟩ ∧ Bytes w3 gi m) := fun hp => ⟨(Hgi.out.2 hp).1, (Hgi.out.2 hp).2.grown HG3.out (by intro e; have e2 : gi = g := Option.some.inj e; have e3 := Hgi.out.1; have e4 := hD.out.lt; have e5 : (wr.drewN nq).heap.size = wr.heap.size := rfl; omega)⟩
      clear hd3 hg3 hgiB hgi
      obtain ⟨wo, rfl⟩ : ∃ wo : World, wo = wr := ⟨_, rfl⟩
      go_wp2_with fail
      go_loopw [8] (fun i wr => ∃ k2 : Nat, k2 ≤ m ∧ i = .int .i64 k2 ∧ Hid (0 < m → Av = some ⟨gi, 0, none⟩ ∧ Bytes wr gi m) ∧ Hid (w3.grownBy wr (some gi))) (fun i _ => m - (intOf i).toNat)
      case atStart => exact ⟨0, Nat.zero_le _, rfl, hgi3, World.grownBy.refl _ _⟩
      case round =>
        obtain ⟨k2, hk2, rfl, hBy, hGr⟩ := hrel
        by_cases hlt2 : k2 < m
        · have hk2z : (k2 : Int) < m := by omega
          obtain ⟨rfl, hby⟩ := hBy.out (by omega)
          obtain ⟨y, hy, hc, hf⟩ := hby.at k2 hlt2
          have Hby := hid hby
          have q := flip_eq y hy
          have hfl := flip_lt y hy
          generalize hyy : y ^^^ 255 = y2 at q hfl
          have hyz : (y : Int) < 256 := by omega
          clear hby hyy hBy hgi3
          go_wp2_with fail
          go_roundw
          case rel => exact ⟨k2 + 1, by omega, by go_num, (by first | exact fun _ => ⟨rfl, Hby.out.set k2 y2 hlt2 hfl⟩ | exact fun _ => ⟨trivial, Hby.out.set k2 y2 hlt2 hfl⟩), grown_trans hGr.out (grownBy_setCell _ _ _ _)⟩
          case measure => simp [intOf]; omega
        · obtain rfl : k2 = m := by omega
          obtain ⟨wi, rfl⟩ : ∃ wi : World, wi = wr := ⟨_, rfl⟩
          have e1 : Below w.heap.size w w2 := (below_drewN hB.out nq).trans (Hb2.out.mono hB.out.size)
          have e2 : Below w.heap.size w w3 := e1.grown HG3.out e1.size (fun q hq => by cases hq; exact Hg.out)
          have e3 : Below w.heap.size w wi := e2.grown hGr.out e2.size (fun q hq => by cases hq; exact Nat.le_trans hB.out.size Hgi.out.1)
          have o1 : (wo.drewN nq).ownsRow w.heap.size 5 1 u4 (joined Ls k).length ((joined Ls k).map bv) := hO.out
          have o2 := own_below o1 Hb2.out
          have o3 := own_grown o2 HG3.out (fun q hq e => own_not_dig o2 HD2.out q hq (Option.some.inj e).symm)
          have o4 := own_grown o3 hGr.out (own_lt hO.out gi Hgi.out.1)
          have d4 : Dig wi g (joined Ls k ++ x) := HD3.out.to (hGr.out.block g HD3.out.lt (by intro e; have e5 : g = gi := Option.some.inj e; have := Hgi.out.1; have := hD.out.lt; have e6 : (wo.drewN nq).heap.size = wo.heap.size := rfl; omega))
          have HE3 := hid e3
          have HO4 := hid o4
          have HDD := hid d4
          have HxB := hid (HIB0.out.below e3)
          clear e1 e2 e3 o1 o2 o3 o4 d4 hgi3 hBy
          rcases Ai with _ | ai
          · obtain ⟨hn0, hc0⟩ := Hnone.out rfl
            obtain rfl : k2 = 0 := by have := Hm.out.1; omega
            subst hc0
            have hx0 : x = [] := List.eq_nil_of_length_eq_zero HX.out.1
            have hJ0 : joined Ls (k + 1) = joined Ls k := by rw [hJ.out, hx0, List.append_nil]
            have o5 : Hid (wi.ownsRow w.heap.size 5 1 u4 (joined Ls (k + 1)).length ((joined Ls (k + 1)).map bv)) := by
              show World.ownsRow _ _ _ _ _ _ _
              rw [hJ0]; exact HO4.out
            have d5 : Hid (Dig wi g (joined Ls (k + 1))) := by
              show Dig _ _ _
              rw [hJ.out]; exact HDD.out
            have hLs : Hid ((joined Ls (k + 1)).length = (joined Ls k).length + 0) := by show _ = _; rw [hJ0]; rfl
            clear hJ0 hx0
            obtain ⟨Aa, ca, rfl, hIa⟩ := own_isBB o5.out (by have := hLs.out; have := HX.out; omega)
            go_wp2_with (at_builtin; refine wpList_append_own_none rfl (.tmp 51) (.tmp 52) 25 rfl w.heap.size 5 i0 1 Try.underlying25 hi (.slice Aa (joined Ls (k + 1)).length ca) (joined Ls k).length ((joined Ls k).map bv) rfl HO4.out rfl ?_)
            go_upto_region 15 with (fail)
            obtain ⟨L1, hL1⟩ : ∃ L1, L1 = joined Ls (k + 1) := ⟨_, rfl⟩
            have hLb : L1.length ≤ 3000 * (k + 1) := by rw [hL1]; have := hLs.out; have := HX.out; have := Hm.out.1; omega
            rw [← hL1] at o5 d5 hIa
            rw [← hL1]
            have HL1 := hid hL1
            have HLb := hid hLb
            have HIa := hid hIa
            have ez := eq_same (sha L1) (sha_len L1)
            have hk30' : k ≤ 30 := hk30
            clear hL1 hLb hIa hLs HX
            go_wp2_with fail
            refine (Len_any g L1 _ d5.out (by have := HLb.out; omega)).mono ?_
            rintro e w6 ⟨rfl, rfl⟩
            go_wp2_with fail
            refine (Sum_any g L1 _ d5.out (by have := HLb.out; omega)).mono ?_
            rintro e w7 ⟨rfl, hb7⟩
            have Hb7 := hid hb7
            have D7 := hid (d5.out.to (hb7.block g d5.out.lt))
            have I7 := hid (HIa.out.on hb7)
            have O7 := hid (own_below o5.out hb7)
            clear hb7
            go_wp2_with fail
            refine (Of_any _ L1 _ _ _ I7.out).mono ?_
            rintro e w8 ⟨rfl, hb8⟩
            have Hb8 := hid hb8
            have D8 := hid (D7.out.to (hb8.block g D7.out.lt))
            have O8 := hid (own_below O7.out hb8)
            clear hb8
            go_wp2_with fail
            refine (Sum_any g L1 _ D8.out (by have := HLb.out; omega)).mono ?_
            rintro e w9 ⟨rfl, hb9⟩
            have Hb9 := hid hb9
            have D9 := hid (D8.out.to (hb9.block g D8.out.lt))
            have O9 := hid (own_below O8.out hb9)
            clear hb9
            go_wp2_with fail
            refine (Sum_any g L1 _ D9.out (by have := HLb.out; omega)).mono ?_
            rintro e w10 ⟨rfl, hb10⟩
            have Hb10 := hid hb10
            have D10 : Hid (Dig w10 g (joined Ls (k + 1))) := by
              show Dig _ _ _
              rw [← HL1.out]
              exact D9.out.to (hb10.block g D9.out.lt)
            have O10 : Hid (w10.ownsRow w.heap.size 5 1 (.slice Aa L1.length ca) (joined Ls (k + 1)).length ((joined Ls (k + 1)).map bv)) := by
              show World.ownsRow _ _ _ _ _ _ _
              rw [← HL1.out]
              exact own_below O9.out hb10
            have HLc : Hid ((joined Ls (k + 1)).length ≤ 3000 * (k + 1)) := by show _ ≤ _; rw [← HL1.out]; exact HLb.out
            have q1 : Below w.heap.size w w7 := HE3.out.trans (Hb7.out.mono HE3.out.size)
            have q2 : Below w.heap.size w w8 := q1.trans (Hb8.out.mono q1.size)
            have q3 : Below w.heap.size w w9 := q2.trans (Hb9.out.mono q2.size)
            have q4 : Hid (Below w.heap.size w w10) := q3.trans (Hb10.out.mono q3.size)
            clear hb10 q1 q2 q3
            go_wp2_with fail
            go_roundw
            case rel => exact ⟨k + 1, by omega, by omega, by go_num, HLc, D10, O10, q4⟩
            case measure => simp [intOf]; omega
          · go_wp2_with (at_builtin; refine wpList_append_own _ rfl (.tmp 51) (.tmp 52) 25 rfl w.heap.size 5 i0 (.int .u8 0) 1 1 Try.underlying25 hi hz0 hz1 hz2 rfl (by decide) u4 (joined Ls k).length ((joined Ls k).map bv) rfl HO4.out ai k2 ci (x.map bv) rfl ?c0 ?c1 (bv_one x) ?c3 ?c4 HE3.out.size ?_)
            case c0 => rw [List.length_map, HIB0.out.len, Nat.mul_one]
            case c1 =>
              intro j u hu
              have hp : 0 < (x.map bv).length := by
                have := (List.getElem?_eq_some_iff.1 hu).1
                omega
              obtain ⟨ad', e, hc⟩ := HIB0.out.src HE3.out hp
              cases e
              exact hc j u hu
            case c3 => have := HX.out; unfold maxLen; omega
            case c4 => have := HX.out; omega
            intro v2 W5 hown5 hgrow5 _
            have hLs : Hid ((joined Ls (k + 1)).length = (joined Ls k).length + k2) := by show _ = _; rw [hJ.out, List.length_append, HIB0.out.len]
            have o5 : Hid (W5.ownsRow w.heap.size 5 1 v2 (joined Ls (k + 1)).length ((joined Ls (k + 1)).map bv)) := by
              show World.ownsRow _ _ _ _ _ _ _
              rw [hLs.out, hJ.out]
              simpa using hown5
            have e5 : Hid (Below w.heap.size w W5) := HE3.out.grown hgrow5 HE3.out.size (fun q hq => (HO4.out.lt q hq).1)
            have d5 : Hid (Dig W5 g (joined Ls (k + 1))) := by
              show Dig _ _ _
              rw [hJ.out]
              exact HDD.out.to (hgrow5.block g HDD.out.lt (fun e => own_not_dig HO4.out HDD.out g e.symm rfl))
            clear hown5 hgrow5
            obtain ⟨Aa, ca, rfl, hIa⟩ := own_isBB o5.out (by have := hLs.out; have := HX.out; have := Hm.out.1; omega)
            go_upto_region 15 with (fail)
            obtain ⟨L1, hL1⟩ : ∃ L1, L1 = joined Ls (k + 1) := ⟨_, rfl⟩
            have hLb : L1.length ≤ 3000 * (k + 1) := by rw [hL1]; have := hLs.out; have := HX.out; have := Hm.out.1; omega
            rw [← hL1] at o5 d5 hIa
            rw [← hL1]
            have HL1 := hid hL1
            have HLb := hid hLb
            have HIa := hid hIa
            have ez := eq_same (sha L1) (sha_len L1)
            have hk30' : k ≤ 30 := hk30
            clear hL1 hLb hIa hLs HX
            go_wp2_with fail
            refine (Len_any g L1 _ d5.out (by have := HLb.out; omega)).mono ?_
            rintro e w6 ⟨rfl, rfl⟩
            go_wp2_with fail
            refine (Sum_any g L1 _ d5.out (by have := HLb.out; omega)).mono ?_
            rintro e w7 ⟨rfl, hb7⟩
            have Hb7 := hid hb7
            have D7 := hid (d5.out.to (hb7.block g d5.out.lt))
            have I7 := hid (HIa.out.on hb7)
            have O7 := hid (own_below o5.out hb7)
            clear hb7
            go_wp2_with fail
            refine (Of_any _ L1 _ _ _ I7.out).mono ?_
            rintro e w8 ⟨rfl, hb8⟩
            have Hb8 := hid hb8
            have D8 := hid (D7.out.to (hb8.block g D7.out.lt))
            have O8 := hid (own_below O7.out hb8)
            clear hb8
            go_wp2_with fail
            refine (Sum_any g L1 _ D8.out (by have := HLb.out; omega)).mono ?_
            rintro e w9 ⟨rfl, hb9⟩
            have Hb9 := hid hb9
            have D9 := hid (D8.out.to (hb9.block g D8.out.lt))
            have O9 := hid (own_below O8.out hb9)
            clear hb9
            go_wp2_with fail
            refine (Sum_any g L1 _ D9.out (by have := HLb.out; omega)).mono ?_
            rintro e w10 ⟨rfl, hb10⟩
            have Hb10 := hid hb10
            have D10 : Hid (Dig w10 g (joined Ls (k + 1))) := by
              show Dig _ _ _
              rw [← HL1.out]
              exact D9.out.to (hb10.block g D9.out.lt)
            have O10 : Hid (w10.ownsRow w.heap.size 5 1 (.slice Aa L1.length ca) (joined Ls (k + 1)).length ((joined Ls (k + 1)).map bv)) := by
              show World.ownsRow _ _ _ _ _ _ _
              rw [← HL1.out]
              exact own_below O9.out hb10
            have HLc : Hid ((joined Ls (k + 1)).length ≤ 3000 * (k + 1)) := by show _ ≤ _; rw [← HL1.out]; exact HLb.out
            have q1 : Below w.heap.size w w7 := e5.out.trans (Hb7.out.mono e5.out.size)
            have q2 : Below w.heap.size w w8 := q1.trans (Hb8.out.mono q1.size)
            have q3 : Below w.heap.size w w9 := q2.trans (Hb9.out.mono q2.size)
            have q4 : Hid (Below w.heap.size w w10) := q3.trans (Hb10.out.mono q3.size)
            clear hb10 q1 q2 q3
            go_wp2_with fail
            go_roundw
            case rel => exact ⟨k + 1, by omega, by omega, by go_num, HLc, D10, O10, q4⟩
            case measure => simp [intOf]; omega
    · have hcase : (¬ k < n) ∨ (k < n ∧ ¬ k < 30) := by omega
      obtain ⟨Aa, ca, rfl, hIa⟩ := own_isBB hO.out (by have := hLl.out; omega)
      obtain ⟨L1, hL1⟩ : ∃ L1, L1 = joined Ls k := ⟨_, rfl⟩
      rw [← hL1] at hLl hD hIa
      rw [← hL1]
      have HIa := hid hIa
      have ez := eq_same (sha L1) (sha_len L1)
      clear hL1 hIa hO hlt H
      rcases hcase with hc | ⟨hc1, hc2⟩
      · obtain rfl : k = n := by omega
        go_wp2_with fail
        refine (Sum_any g L1 _ hD.out (by have := hLl.out; omega)).mono ?_
        rintro e w7 ⟨rfl, hb7⟩
        have Hb7 := hid hb7
        have I7 := hid (HIa.out.on hb7)
        clear hb7
        go_wp2_with fail
        refine (Of_any _ L1 _ _ _ I7.out).mono ?_
        rintro e w8 ⟨rfl, hb8⟩
        have Hb8 := hid hb8
        clear hb8
        go_wp2_with fail
        refine (awake_any _).mono ?_
        rintro e w9 ⟨rfl, hb9⟩
        have Hb9 := hid hb9
        clear hb9
        go_wp2_with fail
        go_ret
        have q1 : Below w.heap.size w w7 := hB.out.trans (Hb7.out.mono hB.out.size)
        have q2 : Below w.heap.size w w8 := q1.trans (Hb8.out.mono q1.size)
        exact ⟨rfl, q2.trans (Hb9.out.mono q2.size)⟩
      · obtain rfl : k = 30 := by omega
        have hnz : (30 : Int) < n := by omega
        go_wp2_with fail
        refine (Sum_any g L1 _ hD.out (by have := hLl.out; omega)).mono ?_
        rintro e w7 ⟨rfl, hb7⟩
        have Hb7 := hid hb7
        have I7 := hid (HIa.out.on hb7)
        clear hb7
        go_wp2_with fail
        refine (Of_any _ L1 _ _ _ I7.out).mono ?_
        rintro e w8 ⟨rfl, hb8⟩
        have Hb8 := hid hb8
        clear hb8
        go_wp2_with fail
        refine (awake_any _).mono ?_
        rintro e w9 ⟨rfl, hb9⟩
        have Hb9 := hid hb9
        clear hb9
        go_wp2_with fail
        go_ret
        have q1 : Below w.heap.size w w7 := hB.out.trans (Hb7.out.mono hB.out.size)
        have q2 : Below w.heap.size w w8 := q1.trans (Hb8.out.mono q1.size)
        exact ⟨rfl, q2.trans (Hb9.out.mono q2.size)⟩
end Go.Proofs.Ytgdofhidjfeehaa
