/-
  The walk of DiskKept: its first half.
-/
import Derived.Test.YtgccjclloomfgaaKpJ
import Derived.Test.YtgccjclloomfgaaSprW
import Derived.Test.YtgccjclloomfgaaPick
import Derived.Test.YtgccjclloomfgaaAwk
import Derived.Outline
import Derived.Deep.Cut
namespace Go.Proofs.Ytgccjclloomfgaa
open Go.RowKit

/-- A slice of slices of bytes below block B: the first 2000 bytes of each are Ls. -/
structure Parts (w : World) (B : Nat) (A : Option Addr) (n c : Nat) (Ls : List (List UInt8)) : Prop where
  len : Ls.length = n
  cap : n ≤ c
  max : c ≤ maxLen
  lies : ∀ i (h : i < Ls.length), ∃ ad Ai ni ci, A = some ad ∧ ad.block < B ∧ w.cell? (ad.add i) = some (.slice Ai ni ci) ∧ ni ≤ ci ∧ ci ≤ maxLen ∧ IsBB w B Ai (min ni 2000) ci Ls[i] ∧ (Ai = none → ni = 0 ∧ ci = 0)
/-- The disk at the beginning. -/
def kp0 (p : Nat) : Dk := { Dk.load 1048576 [] with armed := p + 1 }
theorem kp_arm (p : Nat) : (Dk.load 1048576 []).arm (p : Int) = (kp0 p, 0) := by
  unfold Dk.arm
  rw [if_neg (by omega)]
  rfl
theorem kp0_eq (p : Nat) : KpEq (kp0 p) [] [] 0 := ⟨rfl, rfl, rfl, rfl⟩
/-- The box of the crash. -/
theorem box_cells {w wb q : World} {k : Int} {J : Option Addr} {jn jc : Nat} (hwb : wb = w.alloc (.cells #[.int .i64 k, .slice J jn jc] 40)) (b : Below wb.heap.size wb q) : q.cell? ⟨w.heap.size, 0, none⟩ = some (.int .i64 k) ∧ q.cell? ⟨w.heap.size, 1, none⟩ = some (.slice J jn jc) := by
  have hr := heap_alloc_new w (.cells #[.int .i64 k, .slice J jn jc] 40)
  rw [← hwb] at hr
  have hl := lt_of_heap hr
  refine ⟨?_, ?_⟩
  · exact (b.cell (p := ⟨w.heap.size, 0, none⟩) hl).trans (row_cell hr 0)
  · exact (b.cell (p := ⟨w.heap.size, 1, none⟩) hl).trans (row_cell hr 1)
theorem crash_neg {d : Dk} {N O junk : List UInt8} {fl : Nat} {k : Int} (h : KpEq d N O fl) (hk : k < 0) : (d.crash k junk).now = O := by
  unfold Dk.crash
  simp only
  rw [if_pos hk, h.od]
theorem crash_pos {d : Dk} {N O junk : List UInt8} {fl : Nat} {k : Int} (h : KpEq d N O fl) (hk : ¬ k < 0) : (d.crash k junk).now = junked (N.take (fl + k.toNat)) fl junk := by
  unfold Dk.crash leftK
  simp only
  rw [if_neg hk, h.nw, h.fl]
theorem crash_floor {d : Dk} {junk : List UInt8} {k : Int} : (d.crash k junk).floor = (d.crash k junk).now.length := rfl
/-- A byte that is left is the file's, but for junk. -/
theorem left_byte {N junk X : List UInt8} {fl kk t : Nat} (hX : X = junked (N.take (fl + kk)) fl junk) (ht : t < X.length) (hn : ¬ (fl ≤ t ∧ t / 512 = (X.length - 1) / 512 ∧ 0 < junk.length)) : ∃ h2 : t < N.length, X[t] = N[t] := by
  subst hX
  have hl := junked_len (N.take (fl + kk)) fl junk
  have ht2 : t < (N.take (fl + kk)).length := by rw [← hl]; exact ht
  have ht3 : t < N.length := by rw [List.length_take] at ht2; omega
  refine ⟨ht3, ?_⟩
  rw [junked_get _ _ _ t ht, List.getElem_take]
  rw [hl] at hn
  rcases Nat.eq_zero_or_pos junk.length with h0 | h0
  · exact .inl h0
  · right
    have := junk_place fl (N.take (fl + kk)).length t ht2
    by_cases h3 : t < junkFrom fl (N.take (fl + kk)).length
    · exact h3
    · exact absurd (this.2 (by omega)) (fun h => hn ⟨h.1, h.2, h0⟩)
set_option maxRecDepth 10000 in
set_option maxHeartbeats 8000000 in
theorem DiskKept_any (A : Option Addr) (n c : Nat) (Ls : List (List UInt8)) (arm k : Int) (J : Option Addr) (jn jc : Nat) (junk : List UInt8) (w : World) (h : Parts w w.heap.size A n c Ls) (hJ : IsJB w w.heap.size J jn jc junk) (hk : k ≤ 9223372036854775807) (hk2 : -9223372036854775808 ≤ k) :
    Calls Try.prog 6 #[.slice A n c, .int .i64 arm, .agg #[.int .i64 k, .slice J jn jc]] w fun r w' => r = .returned (.bool true) ∧ Below w.heap.size w w' := by
  have H := hid h
  have HJ := hid hJ
  have hnm : (n : Int) ≤ 9223372036854775807 := by have := h.cap; have := h.max; unfold maxLen at *; omega
  have Hk := hid hk
  clear h hJ hk
  go_enter Try.func6, Try.ntmps6
  obtain ⟨wb, hwb⟩ : ∃ wb, wb = w.alloc (.cells #[.int .i64 k, .slice J jn jc] 40) := ⟨_, rfl⟩
  have HP := hid (Pick_any arm 80 wb (by omega) (by omega))
  go_upto_region 4 with (first
    | (go_at_call 13; rw [← hwb]; refine (New_any 1048576 wb (by omega)).mono ?_; rintro r W1 ⟨g, S, F, rfl, hd, b1⟩; have D1 := hid hd; have B1 := hid b1; clear hd b1)
    | (go_at_call 36; refine (Pick_any arm 80 W1 (by omega) (by omega)).mono ?_; rintro r w' ⟨p, rfl, hp, rfl⟩; have Hp := hid hp; have ha := Arm_any D1.out (p : Int) (by omega); rw [kp_arm] at ha; have HA := hid ha; clear hp ha)
    | (go_at_call 16; (with_reducible refine HA.out.mono ?_); rintro r W2 ⟨rfl, d2, b2⟩; have K2 := hid (KpAt.start d2 (B1.out.trans (b2.below (fun i hi => by subst hi; exact (D1.out.lt _ D1.out.sg).1) B1.out.size))); clear d2 b2 HA D1 B1))
  go_wp2_with fail
  go_loopw [9, 10, 11, 12] (fun vn vo f i wr => ∃ (j : Nat) (d : Dk) (N O : List UInt8) (fl : Nat), j ≤ n ∧ j ≤ 40 ∧ i = .int .i64 j ∧ f = .int .i64 fl ∧ Hid (KpAt wb wr g vn vo d N O) ∧ Hid (KpEq d N O fl)) (fun _ _ _ i _ => 40 - (intOf i).toNat)
  case atStart => exact ⟨0, kp0 p, [], [], 0, Nat.zero_le _, by omega, rfl, rfl, K2.out, kp0_eq p⟩
  case round =>
    obtain ⟨j, d, N, O, fl, hjn, hj40, rfl, rfl, hK, hE⟩ := hrel
    clear K2
    have hHl := hid H.out.len
    by_cases hlt : j < n ∧ j < 40
    · obtain ⟨hl1, hl2⟩ := hlt
      have hz1' : (j : Int) < n := by omega
      have hz2' : (j : Int) < 40 := by omega
      obtain ⟨ad, Ai, ni, ci, rfl, hadl, hcell0, hnc, hcm, hIB0, hnone⟩ := H.out.lies j (by rw [hHl.out]; exact hl1)
      have hbw : Hid (Below w.heap.size w wr) := by
        have e := hK.out.bel
        rw [hwb] at e
        exact ((Below.refl _ w).alloc (Nat.le_refl _) _).trans (e.mono (by simp))
      have hcell : wr.cell? (ad.add j) = some (.slice Ai ni ci) := (hbw.out.cell (p := ad.add j) (by rw [block_of_add]; exact hadl)).trans hcell0
      obtain ⟨x, hx⟩ : ∃ x, x = Ls[j]'(by rw [hHl.out]; exact hl1) := ⟨_, rfl⟩
      rw [← hx] at hIB0
      obtain ⟨m, hm⟩ : ∃ m, m = min ni 2000 := ⟨_, rfl⟩
      rw [← hm] at hIB0
      have hmin : (if (2000 : Int) < (ni : Int) then (2000 : Int) else (ni : Int)) = (m : Int) := by split <;> omega
      have hmz : (m : Int) ≤ 2000 := by omega
      have hniz : (ni : Int) ≤ 9223372036854775807 := by unfold maxLen at hcm; omega
      have hsl := slice_cut Ai ni ci m (by omega)
      have hN : N.length ≤ 1048576 := by
        obtain ⟨S, F, L, hd, _⟩ := hK.out.dk
        have h1 := hd.ok.mx
        have h2 := hE.out.ms
        have h3 := hE.out.nw
        rw [← h3]
        omega
      obtain ⟨An, cn, rfl, hcn, _⟩ := hK.out.nowBB (by omega)
      obtain ⟨Ao, co, rfl⟩ := own_sl hK.out.od
      have HIB := hid (hIB0.on hbw.out)
      have HW0 : Hid (IsBB wb wb.heap.size Ai m ci x) := (by rw [hwb]; exact hIB0.on ((Below.refl _ w).alloc (Nat.le_refl _) _))
      have Hm := hid (And.intro hm (And.intro hnc hcm))
      have Hnone := hid hnone
      have HN := hid hN
      clear hIB0 hx hm hnc hcm hcell0 hadl hnone hN hcn
      go_wp2_with fail
      go_quiet (fail)
      clear hsl hmin hcell
      obtain ⟨q1, hq1⟩ : ∃ q1, q1 = wr.drewN nq := ⟨_, rfl⟩
      have K1 : Hid (KpAt wb q1 g (.slice An N.length cn) (.slice Ao O.length co) d N O) := by rw [hq1]; exact hK.out.drewN nq
      have HI1 : Hid (IsBB q1 q1.heap.size Ai m ci x) := by rw [hq1]; exact HIB.out.on (below_drewN (Below.refl _ wr) nq)
      have HW1 := HW0
      rw [← hq1]
      clear hq1 HIB hK hbw
      by_cases hm0 : m = 0
      · subst hm0
        by_cases hs : d.syn.2 = 0
        · have hc := K1.out.sync
          rw [hs, show ((0 : Nat) : Int) = 0 from rfl] at hc
          have HC := hid hc
          have HS := hid hs
          clear hc hs
          go_wp2_with (first
            | (go_at_call 18; (with_reducible refine HC.out.mono ?_); rintro r q2 ⟨rfl, k2⟩; have HD := hid (k2.copy (by have := HN.out; omega)); clear k2 HC)
            | (go_at_call 37; (with_reducible refine HD.out.mono ?_); rintro r q3 ⟨A3, c3, rfl, k3⟩; have K3 := hid k3; clear k3 HD))
          go_roundw
          case rel => exact ⟨j + 1, d.syn.1, N, N, N.length, by omega, by omega, by go_num, rfl, K3.out, (syn_eq hE.out).1 HS.out⟩
          case measure => simp [intOf]; omega
        · have hc := K1.out.sync
          have hz0 : ((d.syn.2 : Nat) : Int) ≠ 0 := by omega
          obtain ⟨z, hz⟩ : ∃ z : Int, z = ((d.syn.2 : Nat) : Int) := ⟨_, rfl⟩
          rw [← hz] at hc hz0
          have hz1 : (z == 0) = false := by simpa using hz0
          have hz2 : decide (z = 0) = false := by simpa using hz0
          have HC := hid hc
          have HS := hid hs
          clear hc hs hz
          go_wp2_with (go_at_call 18; (with_reducible refine HC.out.mono ?_); rintro r q2 ⟨rfl, k2⟩; have K3 := hid k2; clear k2 HC)
          go_roundw
          case rel => exact ⟨j + 1, d.syn.1, N, O, fl, by omega, by omega, by go_num, rfl, K3.out, (syn_eq hE.out).2 HS.out⟩
          case measure => simp [intOf]; omega
      · obtain ⟨ai, rfl, hcx⟩ := HI1.out.lies (by rw [HI1.out.len]; omega)
        have hlx := HI1.out.len
        have hc0 := hcx 0 (by omega)
        rw [add_zero] at hc0
        obtain ⟨y, hy⟩ : ∃ y : Nat, y = (x[0]'(by omega)).toNat := ⟨_, rfl⟩
        have hy256 : y < 256 := by rw [hy]; exact UInt8.toNat_lt _
        rw [← hy] at hc0
        have hmz0 : ((m : Int) == 0) = false := by simp; omega
        have hmp : (0 : Int) < (m : Int) := by omega
        clear hy hcx hlx
        by_cases hy40 : y < 40
        · have hy40z : (y : Int) < 40 := by omega
          by_cases hs : d.syn.2 = 0
          · have hc := K1.out.sync
            rw [hs, show ((0 : Nat) : Int) = 0 from rfl] at hc
            have HC := hid hc
            have HS := hid hs
            clear hc hs
            go_wp2_with (first
              | (go_at_call 18; (with_reducible refine HC.out.mono ?_); rintro r q2 ⟨rfl, k2⟩; have HD := hid (k2.copy (by have := HN.out; omega)); clear k2 HC)
              | (go_at_call 37; (with_reducible refine HD.out.mono ?_); rintro r q3 ⟨A3, c3, rfl, k3⟩; have K3 := hid k3; clear k3 HD))
            go_roundw
            case rel => exact ⟨j + 1, d.syn.1, N, N, N.length, by omega, by omega, by go_num, rfl, K3.out, (syn_eq hE.out).1 HS.out⟩
            case measure => simp [intOf]; omega
          · have hc := K1.out.sync
            have hz0 : ((d.syn.2 : Nat) : Int) ≠ 0 := by omega
            obtain ⟨z, hz⟩ : ∃ z : Int, z = ((d.syn.2 : Nat) : Int) := ⟨_, rfl⟩
            rw [← hz] at hc hz0
            have hz1 : (z == 0) = false := by simpa using hz0
            have hz2 : decide (z = 0) = false := by simpa using hz0
            have HC := hid hc
            have HS := hid hs
            clear hc hs hz
            go_wp2_with (go_at_call 18; (with_reducible refine HC.out.mono ?_); rintro r q2 ⟨rfl, k2⟩; have K3 := hid k2; clear k2 HC)
            go_roundw
            case rel => exact ⟨j + 1, d.syn.1, N, O, fl, by omega, by omega, by go_num, rfl, K3.out, (syn_eq hE.out).2 HS.out⟩
            case measure => simp [intOf]; omega
        · have hy40z : (40 : Int) ≤ (y : Int) := by omega
          by_cases hy80 : y < 80
          · have hy80z : (y : Int) < 80 := by omega
            obtain ⟨t, ht⟩ : ∃ t : Nat, t = y - 40 := ⟨_, rfl⟩
            have ht1 : (y : Int) - 40 = (t : Int) := by omega
            have ht2 : (t : Int) < 40 := by omega
            obtain ⟨pp, hpp⟩ : ∃ pp : Nat, pp = N.length * t := ⟨_, rfl⟩
            have hpp1 : (N.length : Int) * (t : Int) = (pp : Int) := by rw [hpp]; exact (Int.natCast_mul _ _).symm
            have hpp3 : pp ≤ N.length * 39 := by rw [hpp]; exact Nat.mul_le_mul_left _ (by omega)
            have hpp2 : (pp : Int) ≤ 41943040 := by have := HN.out; omega
            obtain ⟨kk, hkk0⟩ : ∃ kk : Nat, kk = pp / 40 := ⟨_, rfl⟩
            have hkk1 : (pp : Int).tdiv 40 = (kk : Int) := by rw [Int.tdiv_eq_ediv_of_nonneg (by omega)]; omega
            have hkk2 : (pp : Int) / 40 = (kk : Int) := by omega
            have hkk : kk ≤ N.length := by omega
            have hkk3 : (kk : Int) ≤ 1048576 := by have := HN.out; omega
            clear ht hpp hpp3 hkk0
            by_cases hs : (d.trunc kk).2 = 0
            · have hc := K1.out.trunc kk (by rw [hE.out.nw]; exact hkk)
              rw [hs, show ((0 : Nat) : Int) = 0 from rfl] at hc
              have HC := hid hc
              have HS := hid hs
              clear hc hs
              have Hkk := hid hkk
              clear hkk
              go_wp2_with (first
                | (go_at_call 9; (with_reducible refine HC.out.mono ?_); rintro r q2 ⟨rfl, k2⟩; obtain ⟨A4, c4, e4, hsl4, k4⟩ := k2.cut kk Hkk.out; cases e4; have K3 := hid k4; clear k2 k4 HC))
              go_roundw
              case rel => exact ⟨j + 1, (d.trunc kk).1, N.take kk, O, min fl kk, by omega, by omega, by go_num, (by congr 1; split <;> omega), K3.out, (trunc_eq hE.out kk Hkk.out).1 HS.out⟩
              case measure => simp [intOf]; omega
            · have hc := K1.out.trunc kk (by rw [hE.out.nw]; exact hkk)
              have Hkk := hid hkk
              clear hkk
              have hz0 : (((d.trunc kk).2 : Nat) : Int) ≠ 0 := by omega
              obtain ⟨z, hz⟩ : ∃ z : Int, z = (((d.trunc kk).2 : Nat) : Int) := ⟨_, rfl⟩
              rw [← hz] at hc hz0
              have hz1 : (z == 0) = false := by simpa using hz0
              have hz2 : decide (z = 0) = false := by simpa using hz0
              have HC := hid hc
              have HS := hid hs
              clear hc hs hz
              go_wp2_with (go_at_call 9; (with_reducible refine HC.out.mono ?_); rintro r q2 ⟨rfl, k2⟩; have K3 := hid k2; clear k2 HC)
              go_roundw
              case rel => exact ⟨j + 1, (d.trunc kk).1, N, O, fl, by omega, by omega, by go_num, rfl, K3.out, (trunc_eq hE.out kk Hkk.out).2 HS.out⟩
              case measure => simp [intOf]; omega
          · have hy80z : (80 : Int) ≤ (y : Int) := by omega
            by_cases hs : (d.app x).2 = 0
            · have hc := K1.out.app (some ai) m ci x HW1.out
              rw [hs, show ((0 : Nat) : Int) = 0 from rfl] at hc
              have HC := hid hc
              have HS := hid hs
              clear hc hs
              go_wp2_with (first
                | (go_at_call 10; (with_reducible refine HC.out.mono ?_); rintro r q2 ⟨rfl, k2⟩; have K3 := hid k2; clear k2 HC)
                | (at_builtin; refine wpList_append_kp rfl (.tmp 96) (.tmp 97) rfl K3.out rfl (some ai) m ci x rfl HW1.out (by have := HN.out; omega) (by have := Hm.out; omega) (by have := Hm.out; omega) ?_; intro A5 c5 q5 K5))
              go_roundw
              case rel => exact ⟨j + 1, (d.app x).1, N ++ x, O, fl, by omega, by omega, by go_num, rfl, K5.out, (app_eq hE.out x).1 HS.out⟩
              case measure => simp [intOf]; omega
            · have hc := K1.out.app (some ai) m ci x HW1.out
              have hz0 : (((d.app x).2 : Nat) : Int) ≠ 0 := by omega
              obtain ⟨z, hz⟩ : ∃ z : Int, z = (((d.app x).2 : Nat) : Int) := ⟨_, rfl⟩
              rw [← hz] at hc hz0
              have hz1 : (z == 0) = false := by simpa using hz0
              have hz2 : decide (z = 0) = false := by simpa using hz0
              have HC := hid hc
              have HS := hid hs
              clear hc hs hz
              go_wp2_with (go_at_call 10; (with_reducible refine HC.out.mono ?_); rintro r q2 ⟨rfl, k2⟩; have K3 := hid k2; clear k2 HC)
              go_roundw
              case rel => exact ⟨j + 1, (d.app x).1, N, O, fl, by omega, by omega, by go_num, rfl, K3.out, (app_eq hE.out x).2 HS.out⟩
              case measure => simp [intOf]; omega
    · have hN : N.length ≤ 1048576 := by
        obtain ⟨S, F, L, hd, _⟩ := hK.out.dk
        have h1 := hd.ok.mx
        have h2 := hE.out.ms
        have h3 := hE.out.nw
        rw [← h3]
        omega
      obtain ⟨An, cn, rfl, hcn, _⟩ := hK.out.nowBB (by omega)
      obtain ⟨Ao, co, rfl⟩ := own_sl hK.out.od
      have HN := hid hN
      have hbx := hid (fun (q : World) (b : Below wb.heap.size wb q) => box_cells hwb b)
      have him := hK.out.image
      rw [hE.out.nw] at him
      have HIM := hid him
      have hJb : Hid (IsJB wb wb.heap.size J jn jc junk) := (by rw [hwb]; exact HJ.out.on ((Below.refl _ w).alloc (Nat.le_refl _) _))
      have hfn : fl ≤ N.length := by
        obtain ⟨S, F, L, hd, _⟩ := hK.out.dk
        have h1 := hd.ok.fn
        rw [hE.out.nw, hE.out.fl] at h1
        exact h1
      have HFN := hid hfn
      have HWB := hid (fun (q : World) (b : Below wb.heap.size wb q) => ((Below.refl _ w).alloc (Nat.le_refl _) (.cells #[.int .i64 k, .slice J jn jc] 40)).trans (Below.mono (hwb ▸ b : Below (w.alloc (.cells #[.int .i64 k, .slice J jn jc] 40)).heap.size (w.alloc (.cells #[.int .i64 k, .slice J jn jc] 40)) q) (by simp)))
      clear him hN hcn hwb H HJ hHl hfn
      have hjj : (¬ (j : Int) < n) ∨ ((j : Int) < n ∧ ¬ (j : Int) < 40) := by omega
      clear hlt hjn hj40
      rcases hjj with hj1 | ⟨hj1, hj2⟩
      · go_upto_region 24 with (first
          | (go_at_call 35; (with_reducible refine HIM.out.mono ?_); rintro r q1 ⟨A6, c6, rfl, i6, k1⟩; have K1 := hid k1; have hcell := (hbx.out q1 k1.bel); obtain ⟨An', cn', en, _, i7⟩ := k1.nowBB (by have := HN.out; omega); cases en; have HSB := hid (SameBytes_bel A6 An N N.length c6 cn q1 i6.toIsB i7.toIsB); clear i6 i7 k1 HIM)
          | (go_at_call 32; (with_reducible refine HSB.out.mono ?_); rintro r q2 ⟨rfl, b2⟩; have K2 := hid (K1.out.below b2); clear b2; have hsy := K2.out.synced; rw [hE.out.fl] at hsy; have HSY := hid hsy; have hcell2 := hbx.out q2 K2.out.bel; obtain ⟨hc20, hc21⟩ := hcell2; clear hsy HSB K1)
          | (go_at_call 11; (with_reducible refine HSY.out.mono ?_); rintro r w' ⟨rfl, rfl⟩)
          | (go_at_call 20; (with_reducible refine (K2.out.crashJ k J jn jc junk hJb.out Hk.out).mono ?_); rintro r q3 ⟨rfl, k3⟩; have K3 := hid k3; have hi3 := k3.image; obtain ⟨X, hX⟩ : ∃ X, X = (d.crash k junk).now := ⟨_, rfl⟩; rw [← hX] at hi3; have HI3 := hid hi3; have HX := hid hX; clear hi3 hX k3)
          | (go_at_call 35; (with_reducible refine HI3.out.mono ?_); rintro r q4 ⟨A7, c7, rfl, i7, k4⟩; have K4 := hid k4; have hcell4 := hbx.out q4 k4.bel; obtain ⟨hc40, hc41⟩ := hcell4; have I7 := hid i7; clear i7 k4 HI3))
        by_cases hk0 : k < 0
        · have e := crash_neg (junk := junk) hE.out hk0
          rw [← HX.out] at e
          subst e
          have HSB2 := hid (SameBytes_bel A7 Ao X X.length c7 co q4 I7.out.toIsB (own_isB2 K4.out.od (by have := I7.out.small; omega)).toIsB)
          go_wp2_with (first
            | (go_at_call 32; (with_reducible refine HSB2.out.mono ?_); rintro r q5 ⟨rfl, b5⟩; have B5 := hid b5; clear b5)
            | (go_at_call 21; refine (awake_any _).mono ?_; rintro r q6 ⟨rfl, b6⟩; have B6 := hid b6; clear b6))
          go_ret
          exact ⟨rfl, HWB.out _ ((K4.out.bel.trans (B5.out.mono K4.out.bel.size)).trans (B6.out.mono (Nat.le_trans K4.out.bel.size B5.out.size)))⟩
        · have e := crash_pos (junk := junk) hE.out hk0
          rw [← HX.out] at e
          have hxl : X.length = min (fl + k.toNat) N.length := by rw [e, junked_len, List.length_take]
          have hfn := HFN.out
          have hN := HN.out
          have HEX := hid e
          obtain ⟨kk, hkk⟩ : ∃ kk : Nat, kk = k.toNat := ⟨_, rfl⟩
          rw [← hkk] at HEX hxl
          obtain rfl : k = (kk : Int) := by omega
          clear hkk e
          have h1 : (fl : Int) ≤ (X.length : Int) := by omega
          have h2 : (X.length : Int) ≤ (N.length : Int) := by omega
          obtain ⟨sz, hsz⟩ : ∃ sz : Nat, sz = X.length - fl := ⟨_, rfl⟩
          have h3 : (X.length : Int) - (fl : Int) = (sz : Int) := by omega
          have h4 : (sz : Int) ≤ (kk : Int) := by omega
          have h5 : (X.length : Int) ≤ 1048576 := by omega
          have hfin : (N.length : Int) ≤ (X.length : Int) ∨ ((X.length : Int) < (N.length : Int) ∧ sz = kk) := by omega
          have hx5 : ∀ t : Nat, t < X.length → ¬ (fl ≤ t ∧ t / 512 = (X.length - 1) / 512 ∧ 0 < jn) → ∃ h1 : t < X.length, ∃ h2 : t < N.length, X[t] = N[t] := fun t ht hn => by
            obtain ⟨h2, h3⟩ := left_byte HEX.out ht (by rw [hJb.out.len]; exact hn)
            exact ⟨ht, h2, h3⟩
          have HX5 := hid hx5
          clear hx5 hxl hsz hfn hN
          rcases hfin with h6 | ⟨h6, rfl⟩
          · obtain ⟨wo, rfl⟩ : ∃ wo : World, wo = wr := ⟨_, rfl⟩
            go_wp2_with fail
            go_loopw [16] (fun i wr => ∃ t : Nat, t ≤ X.length ∧ i = .int .i64 t ∧ Hid (Below q4.heap.size q4 wr)) (fun i _ => X.length - (intOf i).toNat)
            case atStart => exact ⟨0, Nat.zero_le _, rfl, Below.refl _ _⟩
            case round =>
              obtain ⟨t, htX, rfl, hB⟩ := hrel
              by_cases hlt2 : t < X.length
              · have z1 : (t : Int) < (X.length : Int) := by omega
                have z2 : (t : Int) < (N.length : Int) := by omega
                have hNp : t < N.length := by omega
                obtain ⟨a7, rfl, hc7⟩ := I7.out.lies (by omega)
                obtain ⟨An2, cn2, en2, _, iN⟩ := K4.out.nowBB (by have := HN.out; omega)
                cases en2
                obtain ⟨an, rfl, hcN⟩ := iN.lies (by omega)
                have e7 : wr.cell? (a7.add t) = some (.int .u8 ((X[t]'hlt2).toNat : Int)) := (hB.out.cell (p := a7.add t) (by rw [block_of_add]; exact I7.out.low (by omega) a7 rfl)).trans (hc7 t hlt2)
                have eN : wr.cell? (an.add t) = some (.int .u8 ((N[t]'hNp).toNat : Int)) := (hB.out.cell (p := an.add t) (by rw [block_of_add]; exact iN.low (by omega) an rfl)).trans (hcN t hNp)
                obtain ⟨u, hu⟩ : ∃ u : Nat, u = (X[t]'hlt2).toNat := ⟨_, rfl⟩
                obtain ⟨v, hv⟩ : ∃ v : Nat, v = (N[t]'hNp).toNat := ⟨_, rfl⟩
                rw [← hu] at e7
                rw [← hv] at eN
                obtain ⟨hb0, hb1⟩ := hbx.out wr (K4.out.bel.trans (hB.out.mono K4.out.bel.size))
                obtain ⟨xm, hxm⟩ : ∃ xm : Nat, xm = X.length - 1 := ⟨_, rfl⟩
                have hxm1 : (X.length : Int) - 1 = (xm : Int) := by omega
                obtain ⟨t5, ht5⟩ : ∃ t5 : Nat, t5 = t / 512 := ⟨_, rfl⟩
                obtain ⟨x5, hx5⟩ : ∃ x5 : Nat, x5 = xm / 512 := ⟨_, rfl⟩
                have d1 : (t : Int) / 512 = (t5 : Int) := by omega
                have d2 : (xm : Int) / 512 = (x5 : Int) := by omega
                have d3 : (t : Int).tdiv 512 = (t5 : Int) := by rw [Int.tdiv_eq_ediv_of_nonneg (by omega)]; exact d1
                have d4 : (xm : Int).tdiv 512 = (x5 : Int) := by rw [Int.tdiv_eq_ediv_of_nonneg (by omega)]; exact d2
                clear hc7 hcN iN
                by_cases c1 : fl ≤ t
                · have c1z : (fl : Int) ≤ (t : Int) := by omega
                  by_cases c2 : t5 = x5
                  · by_cases c3 : 0 < jn
                    · have c3z : (0 : Int) < (jn : Int) := by omega
                      subst c2
                      clear ht5 hx5
                      clear hu hv
                      go_wp2_with fail
                      go_quiet (fail)
                      go_wp2_with fail
                      go_roundw
                      case rel => exact ⟨t + 1, by omega, by go_num, below_drewN hB.out nq⟩
                      case measure => simp [intOf]; omega
                    · have c3z : ¬ (0 : Int) < (jn : Int) := by omega
                      have uv : u = v := by
                        obtain ⟨_, h2, e⟩ := HX5.out t hlt2 (fun h => c3 h.2.2)
                        rw [hu, hv, e]
                      subst uv
                      subst c2
                      clear ht5 hx5
                      clear hu hv
                      go_wp2_with fail
                      go_quiet (fail)
                      go_wp2_with fail
                      go_roundw
                      case rel => exact ⟨t + 1, by omega, by go_num, below_drewN hB.out nq⟩
                      case measure => simp [intOf]; omega
                  · have c2z : ¬ (t5 : Int) = (x5 : Int) := by omega
                    have c2y : ((t5 : Int) == (x5 : Int)) = false := by simpa using c2z
                    have uv : u = v := by
                      obtain ⟨_, h2, e⟩ := HX5.out t hlt2 (fun h => c2 (by rw [ht5, hx5, hxm]; exact h.2.1))
                      rw [hu, hv, e]
                    subst uv
                    clear hu hv ht5 hx5 hxm
                    go_wp2_with fail
                    go_quiet (fail)
                    go_wp2_with fail
                    go_roundw
                    case rel => exact ⟨t + 1, by omega, by go_num, below_drewN hB.out nq⟩
                    case measure => simp [intOf]; omega
                · have c1z : ¬ (fl : Int) ≤ (t : Int) := by omega
                  have uv : u = v := by
                    obtain ⟨_, h2, e⟩ := HX5.out t hlt2 (fun h => c1 h.1)
                    rw [hu, hv, e]
                  subst uv
                  clear hu hv
                  go_wp2_with fail
                  go_quiet (fail)
                  go_wp2_with fail
                  go_roundw
                  case rel => exact ⟨t + 1, by omega, by go_num, below_drewN hB.out nq⟩
                  case measure => simp [intOf]; omega
              · obtain rfl : t = X.length := by omega
                have hsy2 := (K4.out.below hB.out).synced
                rw [crash_floor, ← HX.out] at hsy2
                have HSY2 := hid hsy2
                clear hsy2
                go_wp2_with (first
                  | (go_at_call 11; (with_reducible refine HSY2.out.mono ?_); rintro r w' ⟨rfl, rfl⟩)
                  | (go_at_call 21; refine (awake_any _).mono ?_; rintro r q6 ⟨rfl, b6⟩; have B6 := hid b6; clear b6))
                go_ret
                exact ⟨rfl, HWB.out _ ((K4.out.bel.trans (hB.out.mono K4.out.bel.size)).trans (B6.out.mono (Nat.le_trans K4.out.bel.size hB.out.size)))⟩
          · obtain ⟨wo, rfl⟩ : ∃ wo : World, wo = wr := ⟨_, rfl⟩
            go_wp2_with fail
            go_loopw [16] (fun i wr => ∃ t : Nat, t ≤ X.length ∧ i = .int .i64 t ∧ Hid (Below q4.heap.size q4 wr)) (fun i _ => X.length - (intOf i).toNat)
            case atStart => exact ⟨0, Nat.zero_le _, rfl, Below.refl _ _⟩
            case round =>
              obtain ⟨t, htX, rfl, hB⟩ := hrel
              by_cases hlt2 : t < X.length
              · have z1 : (t : Int) < (X.length : Int) := by omega
                have z2 : (t : Int) < (N.length : Int) := by omega
                have hNp : t < N.length := by omega
                obtain ⟨a7, rfl, hc7⟩ := I7.out.lies (by omega)
                obtain ⟨An2, cn2, en2, _, iN⟩ := K4.out.nowBB (by have := HN.out; omega)
                cases en2
                obtain ⟨an, rfl, hcN⟩ := iN.lies (by omega)
                have e7 : wr.cell? (a7.add t) = some (.int .u8 ((X[t]'hlt2).toNat : Int)) := (hB.out.cell (p := a7.add t) (by rw [block_of_add]; exact I7.out.low (by omega) a7 rfl)).trans (hc7 t hlt2)
                have eN : wr.cell? (an.add t) = some (.int .u8 ((N[t]'hNp).toNat : Int)) := (hB.out.cell (p := an.add t) (by rw [block_of_add]; exact iN.low (by omega) an rfl)).trans (hcN t hNp)
                obtain ⟨u, hu⟩ : ∃ u : Nat, u = (X[t]'hlt2).toNat := ⟨_, rfl⟩
                obtain ⟨v, hv⟩ : ∃ v : Nat, v = (N[t]'hNp).toNat := ⟨_, rfl⟩
                rw [← hu] at e7
                rw [← hv] at eN
                obtain ⟨hb0, hb1⟩ := hbx.out wr (K4.out.bel.trans (hB.out.mono K4.out.bel.size))
                obtain ⟨xm, hxm⟩ : ∃ xm : Nat, xm = X.length - 1 := ⟨_, rfl⟩
                have hxm1 : (X.length : Int) - 1 = (xm : Int) := by omega
                obtain ⟨t5, ht5⟩ : ∃ t5 : Nat, t5 = t / 512 := ⟨_, rfl⟩
                obtain ⟨x5, hx5⟩ : ∃ x5 : Nat, x5 = xm / 512 := ⟨_, rfl⟩
                have d1 : (t : Int) / 512 = (t5 : Int) := by omega
                have d2 : (xm : Int) / 512 = (x5 : Int) := by omega
                have d3 : (t : Int).tdiv 512 = (t5 : Int) := by rw [Int.tdiv_eq_ediv_of_nonneg (by omega)]; exact d1
                have d4 : (xm : Int).tdiv 512 = (x5 : Int) := by rw [Int.tdiv_eq_ediv_of_nonneg (by omega)]; exact d2
                clear hc7 hcN iN
                by_cases c1 : fl ≤ t
                · have c1z : (fl : Int) ≤ (t : Int) := by omega
                  by_cases c2 : t5 = x5
                  · by_cases c3 : 0 < jn
                    · have c3z : (0 : Int) < (jn : Int) := by omega
                      subst c2
                      clear ht5 hx5
                      clear hu hv
                      go_wp2_with fail
                      go_quiet (fail)
                      go_wp2_with fail
                      go_roundw
                      case rel => exact ⟨t + 1, by omega, by go_num, below_drewN hB.out nq⟩
                      case measure => simp [intOf]; omega
                    · have c3z : ¬ (0 : Int) < (jn : Int) := by omega
                      have uv : u = v := by
                        obtain ⟨_, h2, e⟩ := HX5.out t hlt2 (fun h => c3 h.2.2)
                        rw [hu, hv, e]
                      subst uv
                      subst c2
                      clear ht5 hx5
                      clear hu hv
                      go_wp2_with fail
                      go_quiet (fail)
                      go_wp2_with fail
                      go_roundw
                      case rel => exact ⟨t + 1, by omega, by go_num, below_drewN hB.out nq⟩
                      case measure => simp [intOf]; omega
                  · have c2z : ¬ (t5 : Int) = (x5 : Int) := by omega
                    have c2y : ((t5 : Int) == (x5 : Int)) = false := by simpa using c2z
                    have uv : u = v := by
                      obtain ⟨_, h2, e⟩ := HX5.out t hlt2 (fun h => c2 (by rw [ht5, hx5, hxm]; exact h.2.1))
                      rw [hu, hv, e]
                    subst uv
                    clear hu hv ht5 hx5 hxm
                    go_wp2_with fail
                    go_quiet (fail)
                    go_wp2_with fail
                    go_roundw
                    case rel => exact ⟨t + 1, by omega, by go_num, below_drewN hB.out nq⟩
                    case measure => simp [intOf]; omega
                · have c1z : ¬ (fl : Int) ≤ (t : Int) := by omega
                  have uv : u = v := by
                    obtain ⟨_, h2, e⟩ := HX5.out t hlt2 (fun h => c1 h.1)
                    rw [hu, hv, e]
                  subst uv
                  clear hu hv
                  go_wp2_with fail
                  go_quiet (fail)
                  go_wp2_with fail
                  go_roundw
                  case rel => exact ⟨t + 1, by omega, by go_num, below_drewN hB.out nq⟩
                  case measure => simp [intOf]; omega
              · obtain rfl : t = X.length := by omega
                have hsy2 := (K4.out.below hB.out).synced
                rw [crash_floor, ← HX.out] at hsy2
                have HSY2 := hid hsy2
                clear hsy2
                go_wp2_with (first
                  | (go_at_call 11; (with_reducible refine HSY2.out.mono ?_); rintro r w' ⟨rfl, rfl⟩)
                  | (go_at_call 21; refine (awake_any _).mono ?_; rintro r q6 ⟨rfl, b6⟩; have B6 := hid b6; clear b6))
                go_ret
                exact ⟨rfl, HWB.out _ ((K4.out.bel.trans (hB.out.mono K4.out.bel.size)).trans (B6.out.mono (Nat.le_trans K4.out.bel.size hB.out.size)))⟩

      · go_upto_region 24 with (first
          | (go_at_call 35; (with_reducible refine HIM.out.mono ?_); rintro r q1 ⟨A6, c6, rfl, i6, k1⟩; have K1 := hid k1; have hcell := (hbx.out q1 k1.bel); obtain ⟨An', cn', en, _, i7⟩ := k1.nowBB (by have := HN.out; omega); cases en; have HSB := hid (SameBytes_bel A6 An N N.length c6 cn q1 i6.toIsB i7.toIsB); clear i6 i7 k1 HIM)
          | (go_at_call 32; (with_reducible refine HSB.out.mono ?_); rintro r q2 ⟨rfl, b2⟩; have K2 := hid (K1.out.below b2); clear b2; have hsy := K2.out.synced; rw [hE.out.fl] at hsy; have HSY := hid hsy; have hcell2 := hbx.out q2 K2.out.bel; obtain ⟨hc20, hc21⟩ := hcell2; clear hsy HSB K1)
          | (go_at_call 11; (with_reducible refine HSY.out.mono ?_); rintro r w' ⟨rfl, rfl⟩)
          | (go_at_call 20; (with_reducible refine (K2.out.crashJ k J jn jc junk hJb.out Hk.out).mono ?_); rintro r q3 ⟨rfl, k3⟩; have K3 := hid k3; have hi3 := k3.image; obtain ⟨X, hX⟩ : ∃ X, X = (d.crash k junk).now := ⟨_, rfl⟩; rw [← hX] at hi3; have HI3 := hid hi3; have HX := hid hX; clear hi3 hX k3)
          | (go_at_call 35; (with_reducible refine HI3.out.mono ?_); rintro r q4 ⟨A7, c7, rfl, i7, k4⟩; have K4 := hid k4; have hcell4 := hbx.out q4 k4.bel; obtain ⟨hc40, hc41⟩ := hcell4; have I7 := hid i7; clear i7 k4 HI3))
        by_cases hk0 : k < 0
        · have e := crash_neg (junk := junk) hE.out hk0
          rw [← HX.out] at e
          subst e
          have HSB2 := hid (SameBytes_bel A7 Ao X X.length c7 co q4 I7.out.toIsB (own_isB2 K4.out.od (by have := I7.out.small; omega)).toIsB)
          go_wp2_with (first
            | (go_at_call 32; (with_reducible refine HSB2.out.mono ?_); rintro r q5 ⟨rfl, b5⟩; have B5 := hid b5; clear b5)
            | (go_at_call 21; refine (awake_any _).mono ?_; rintro r q6 ⟨rfl, b6⟩; have B6 := hid b6; clear b6))
          go_ret
          exact ⟨rfl, HWB.out _ ((K4.out.bel.trans (B5.out.mono K4.out.bel.size)).trans (B6.out.mono (Nat.le_trans K4.out.bel.size B5.out.size)))⟩
        · have e := crash_pos (junk := junk) hE.out hk0
          rw [← HX.out] at e
          have hxl : X.length = min (fl + k.toNat) N.length := by rw [e, junked_len, List.length_take]
          have hfn := HFN.out
          have hN := HN.out
          have HEX := hid e
          obtain ⟨kk, hkk⟩ : ∃ kk : Nat, kk = k.toNat := ⟨_, rfl⟩
          rw [← hkk] at HEX hxl
          obtain rfl : k = (kk : Int) := by omega
          clear hkk e
          have h1 : (fl : Int) ≤ (X.length : Int) := by omega
          have h2 : (X.length : Int) ≤ (N.length : Int) := by omega
          obtain ⟨sz, hsz⟩ : ∃ sz : Nat, sz = X.length - fl := ⟨_, rfl⟩
          have h3 : (X.length : Int) - (fl : Int) = (sz : Int) := by omega
          have h4 : (sz : Int) ≤ (kk : Int) := by omega
          have h5 : (X.length : Int) ≤ 1048576 := by omega
          have hfin : (N.length : Int) ≤ (X.length : Int) ∨ ((X.length : Int) < (N.length : Int) ∧ sz = kk) := by omega
          have hx5 : ∀ t : Nat, t < X.length → ¬ (fl ≤ t ∧ t / 512 = (X.length - 1) / 512 ∧ 0 < jn) → ∃ h1 : t < X.length, ∃ h2 : t < N.length, X[t] = N[t] := fun t ht hn => by
            obtain ⟨h2, h3⟩ := left_byte HEX.out ht (by rw [hJb.out.len]; exact hn)
            exact ⟨ht, h2, h3⟩
          have HX5 := hid hx5
          clear hx5 hxl hsz hfn hN
          rcases hfin with h6 | ⟨h6, rfl⟩
          · obtain ⟨wo, rfl⟩ : ∃ wo : World, wo = wr := ⟨_, rfl⟩
            go_wp2_with fail
            go_loopw [16] (fun i wr => ∃ t : Nat, t ≤ X.length ∧ i = .int .i64 t ∧ Hid (Below q4.heap.size q4 wr)) (fun i _ => X.length - (intOf i).toNat)
            case atStart => exact ⟨0, Nat.zero_le _, rfl, Below.refl _ _⟩
            case round =>
              obtain ⟨t, htX, rfl, hB⟩ := hrel
              by_cases hlt2 : t < X.length
              · have z1 : (t : Int) < (X.length : Int) := by omega
                have z2 : (t : Int) < (N.length : Int) := by omega
                have hNp : t < N.length := by omega
                obtain ⟨a7, rfl, hc7⟩ := I7.out.lies (by omega)
                obtain ⟨An2, cn2, en2, _, iN⟩ := K4.out.nowBB (by have := HN.out; omega)
                cases en2
                obtain ⟨an, rfl, hcN⟩ := iN.lies (by omega)
                have e7 : wr.cell? (a7.add t) = some (.int .u8 ((X[t]'hlt2).toNat : Int)) := (hB.out.cell (p := a7.add t) (by rw [block_of_add]; exact I7.out.low (by omega) a7 rfl)).trans (hc7 t hlt2)
                have eN : wr.cell? (an.add t) = some (.int .u8 ((N[t]'hNp).toNat : Int)) := (hB.out.cell (p := an.add t) (by rw [block_of_add]; exact iN.low (by omega) an rfl)).trans (hcN t hNp)
                obtain ⟨u, hu⟩ : ∃ u : Nat, u = (X[t]'hlt2).toNat := ⟨_, rfl⟩
                obtain ⟨v, hv⟩ : ∃ v : Nat, v = (N[t]'hNp).toNat := ⟨_, rfl⟩
                rw [← hu] at e7
                rw [← hv] at eN
                obtain ⟨hb0, hb1⟩ := hbx.out wr (K4.out.bel.trans (hB.out.mono K4.out.bel.size))
                obtain ⟨xm, hxm⟩ : ∃ xm : Nat, xm = X.length - 1 := ⟨_, rfl⟩
                have hxm1 : (X.length : Int) - 1 = (xm : Int) := by omega
                obtain ⟨t5, ht5⟩ : ∃ t5 : Nat, t5 = t / 512 := ⟨_, rfl⟩
                obtain ⟨x5, hx5⟩ : ∃ x5 : Nat, x5 = xm / 512 := ⟨_, rfl⟩
                have d1 : (t : Int) / 512 = (t5 : Int) := by omega
                have d2 : (xm : Int) / 512 = (x5 : Int) := by omega
                have d3 : (t : Int).tdiv 512 = (t5 : Int) := by rw [Int.tdiv_eq_ediv_of_nonneg (by omega)]; exact d1
                have d4 : (xm : Int).tdiv 512 = (x5 : Int) := by rw [Int.tdiv_eq_ediv_of_nonneg (by omega)]; exact d2
                clear hc7 hcN iN
                by_cases c1 : fl ≤ t
                · have c1z : (fl : Int) ≤ (t : Int) := by omega
                  by_cases c2 : t5 = x5
                  · by_cases c3 : 0 < jn
                    · have c3z : (0 : Int) < (jn : Int) := by omega
                      subst c2
                      clear ht5 hx5
                      clear hu hv
                      go_wp2_with fail
                      go_quiet (fail)
                      go_wp2_with fail
                      go_roundw
                      case rel => exact ⟨t + 1, by omega, by go_num, below_drewN hB.out nq⟩
                      case measure => simp [intOf]; omega
                    · have c3z : ¬ (0 : Int) < (jn : Int) := by omega
                      have uv : u = v := by
                        obtain ⟨_, h2, e⟩ := HX5.out t hlt2 (fun h => c3 h.2.2)
                        rw [hu, hv, e]
                      subst uv
                      subst c2
                      clear ht5 hx5
                      clear hu hv
                      go_wp2_with fail
                      go_quiet (fail)
                      go_wp2_with fail
                      go_roundw
                      case rel => exact ⟨t + 1, by omega, by go_num, below_drewN hB.out nq⟩
                      case measure => simp [intOf]; omega
                  · have c2z : ¬ (t5 : Int) = (x5 : Int) := by omega
                    have c2y : ((t5 : Int) == (x5 : Int)) = false := by simpa using c2z
                    have uv : u = v := by
                      obtain ⟨_, h2, e⟩ := HX5.out t hlt2 (fun h => c2 (by rw [ht5, hx5, hxm]; exact h.2.1))
                      rw [hu, hv, e]
                    subst uv
                    clear hu hv ht5 hx5 hxm
                    go_wp2_with fail
                    go_quiet (fail)
                    go_wp2_with fail
                    go_roundw
                    case rel => exact ⟨t + 1, by omega, by go_num, below_drewN hB.out nq⟩
                    case measure => simp [intOf]; omega
                · have c1z : ¬ (fl : Int) ≤ (t : Int) := by omega
                  have uv : u = v := by
                    obtain ⟨_, h2, e⟩ := HX5.out t hlt2 (fun h => c1 h.1)
                    rw [hu, hv, e]
                  subst uv
                  clear hu hv
                  go_wp2_with fail
                  go_quiet (fail)
                  go_wp2_with fail
                  go_roundw
                  case rel => exact ⟨t + 1, by omega, by go_num, below_drewN hB.out nq⟩
                  case measure => simp [intOf]; omega
              · obtain rfl : t = X.length := by omega
                have hsy2 := (K4.out.below hB.out).synced
                rw [crash_floor, ← HX.out] at hsy2
                have HSY2 := hid hsy2
                clear hsy2
                go_wp2_with (first
                  | (go_at_call 11; (with_reducible refine HSY2.out.mono ?_); rintro r w' ⟨rfl, rfl⟩)
                  | (go_at_call 21; refine (awake_any _).mono ?_; rintro r q6 ⟨rfl, b6⟩; have B6 := hid b6; clear b6))
                go_ret
                exact ⟨rfl, HWB.out _ ((K4.out.bel.trans (hB.out.mono K4.out.bel.size)).trans (B6.out.mono (Nat.le_trans K4.out.bel.size hB.out.size)))⟩
          · obtain ⟨wo, rfl⟩ : ∃ wo : World, wo = wr := ⟨_, rfl⟩
            go_wp2_with fail
            go_loopw [16] (fun i wr => ∃ t : Nat, t ≤ X.length ∧ i = .int .i64 t ∧ Hid (Below q4.heap.size q4 wr)) (fun i _ => X.length - (intOf i).toNat)
            case atStart => exact ⟨0, Nat.zero_le _, rfl, Below.refl _ _⟩
            case round =>
              obtain ⟨t, htX, rfl, hB⟩ := hrel
              by_cases hlt2 : t < X.length
              · have z1 : (t : Int) < (X.length : Int) := by omega
                have z2 : (t : Int) < (N.length : Int) := by omega
                have hNp : t < N.length := by omega
                obtain ⟨a7, rfl, hc7⟩ := I7.out.lies (by omega)
                obtain ⟨An2, cn2, en2, _, iN⟩ := K4.out.nowBB (by have := HN.out; omega)
                cases en2
                obtain ⟨an, rfl, hcN⟩ := iN.lies (by omega)
                have e7 : wr.cell? (a7.add t) = some (.int .u8 ((X[t]'hlt2).toNat : Int)) := (hB.out.cell (p := a7.add t) (by rw [block_of_add]; exact I7.out.low (by omega) a7 rfl)).trans (hc7 t hlt2)
                have eN : wr.cell? (an.add t) = some (.int .u8 ((N[t]'hNp).toNat : Int)) := (hB.out.cell (p := an.add t) (by rw [block_of_add]; exact iN.low (by omega) an rfl)).trans (hcN t hNp)
                obtain ⟨u, hu⟩ : ∃ u : Nat, u = (X[t]'hlt2).toNat := ⟨_, rfl⟩
                obtain ⟨v, hv⟩ : ∃ v : Nat, v = (N[t]'hNp).toNat := ⟨_, rfl⟩
                rw [← hu] at e7
                rw [← hv] at eN
                obtain ⟨hb0, hb1⟩ := hbx.out wr (K4.out.bel.trans (hB.out.mono K4.out.bel.size))
                obtain ⟨xm, hxm⟩ : ∃ xm : Nat, xm = X.length - 1 := ⟨_, rfl⟩
                have hxm1 : (X.length : Int) - 1 = (xm : Int) := by omega
                obtain ⟨t5, ht5⟩ : ∃ t5 : Nat, t5 = t / 512 := ⟨_, rfl⟩
                obtain ⟨x5, hx5⟩ : ∃ x5 : Nat, x5 = xm / 512 := ⟨_, rfl⟩
                have d1 : (t : Int) / 512 = (t5 : Int) := by omega
                have d2 : (xm : Int) / 512 = (x5 : Int) := by omega
                have d3 : (t : Int).tdiv 512 = (t5 : Int) := by rw [Int.tdiv_eq_ediv_of_nonneg (by omega)]; exact d1
                have d4 : (xm : Int).tdiv 512 = (x5 : Int) := by rw [Int.tdiv_eq_ediv_of_nonneg (by omega)]; exact d2
                clear hc7 hcN iN
                by_cases c1 : fl ≤ t
                · have c1z : (fl : Int) ≤ (t : Int) := by omega
                  by_cases c2 : t5 = x5
                  · by_cases c3 : 0 < jn
                    · have c3z : (0 : Int) < (jn : Int) := by omega
                      subst c2
                      clear ht5 hx5
                      clear hu hv
                      go_wp2_with fail
                      go_quiet (fail)
                      go_wp2_with fail
                      go_roundw
                      case rel => exact ⟨t + 1, by omega, by go_num, below_drewN hB.out nq⟩
                      case measure => simp [intOf]; omega
                    · have c3z : ¬ (0 : Int) < (jn : Int) := by omega
                      have uv : u = v := by
                        obtain ⟨_, h2, e⟩ := HX5.out t hlt2 (fun h => c3 h.2.2)
                        rw [hu, hv, e]
                      subst uv
                      subst c2
                      clear ht5 hx5
                      clear hu hv
                      go_wp2_with fail
                      go_quiet (fail)
                      go_wp2_with fail
                      go_roundw
                      case rel => exact ⟨t + 1, by omega, by go_num, below_drewN hB.out nq⟩
                      case measure => simp [intOf]; omega
                  · have c2z : ¬ (t5 : Int) = (x5 : Int) := by omega
                    have c2y : ((t5 : Int) == (x5 : Int)) = false := by simpa using c2z
                    have uv : u = v := by
                      obtain ⟨_, h2, e⟩ := HX5.out t hlt2 (fun h => c2 (by rw [ht5, hx5, hxm]; exact h.2.1))
                      rw [hu, hv, e]
                    subst uv
                    clear hu hv ht5 hx5 hxm
                    go_wp2_with fail
                    go_quiet (fail)
                    go_wp2_with fail
                    go_roundw
                    case rel => exact ⟨t + 1, by omega, by go_num, below_drewN hB.out nq⟩
                    case measure => simp [intOf]; omega
                · have c1z : ¬ (fl : Int) ≤ (t : Int) := by omega
                  have uv : u = v := by
                    obtain ⟨_, h2, e⟩ := HX5.out t hlt2 (fun h => c1 h.1)
                    rw [hu, hv, e]
                  subst uv
                  clear hu hv
                  go_wp2_with fail
                  go_quiet (fail)
                  go_wp2_with fail
                  go_roundw
                  case rel => exact ⟨t + 1, by omega, by go_num, below_drewN hB.out nq⟩
                  case measure => simp [intOf]; omega
              · obtain rfl : t = X.length := by omega
                have hsy2 := (K4.out.below hB.out).synced
                rw [crash_floor, ← HX.out] at hsy2
                have HSY2 := hid hsy2
                clear hsy2
                go_wp2_with (first
                  | (go_at_call 11; (with_reducible refine HSY2.out.mono ?_); rintro r w' ⟨rfl, rfl⟩)
                  | (go_at_call 21; refine (awake_any _).mono ?_; rintro r q6 ⟨rfl, b6⟩; have B6 := hid b6; clear b6))
                go_ret
                exact ⟨rfl, HWB.out _ ((K4.out.bel.trans (hB.out.mono K4.out.bel.size)).trans (B6.out.mono (Nat.le_trans K4.out.bel.size hB.out.size)))⟩

end Go.Proofs.Ytgccjclloomfgaa
