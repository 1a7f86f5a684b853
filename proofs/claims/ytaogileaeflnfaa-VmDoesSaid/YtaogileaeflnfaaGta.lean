/-
  Get: the instruction that stands at a place; more ways.
-/
import Derived.Test.YtaogileaeflnfaaGet
namespace Go.Proofs.Ytaogileaeflnfaa
open Go.RowKit

set_option maxRecDepth 10000 in
set_option maxHeartbeats 4000000 in
theorem get_set1_y (A : Option Addr) (n c : Nat) (l : List UInt8) (w : World) (h : IsBB w w.heap.size A n c l) (k x : Nat) (_hk : k < n) (hk6 : k ≤ 65535) (hx : gX l k = (x : Int)) (o d s : Int) (ho : oG x = o) (hd : dG x = d) (hs : sG x = s) (hok : okI o d s 0) (hrb : rB o s = 1) (hf : k + 2 ≤ n) (ho1 : o = 1) (b : Int) (hb : Hid (gB l k 1 = b)) (hfin : okI o d b 0) :
    Calls Try.prog 52 #[.slice A n c, .int .i64 (k : Nat)] w fun e w' => e = .returned (vG ⟨o, d, b, 0, ((k + 2 : Nat) : Int), 0⟩) ∧ Below w.heap.size w w' := by
  have he : ∀ args w, (callFunc 55 args).run Try.prog w = .ok (.enter 55 args) w := enters_of Try.func55 (by kernel_rfl) rfl
  have HT := hid (fun a b w => between_any a b w)
  have hn := h.small
  have hlen := h.len
  obtain ⟨ad, rfl, hc⟩ := h.lies (by omega)
  have ck := hc k (by omega)
  have hlow := h.low (by omega) ad rfl
  have hxx : (l[k]'(by omega)).toNat = x := by
    have := gX_of (List.getElem?_eq_getElem (show k < l.length by omega))
    omega
  rw [hxx] at ck
  have hx8 : x < 256 := by rw [← hxx]; exact (l[k]'(by omega)).toNat_lt
  have H := hid h
  have CK : Hid (∀ W, Below w.heap.size w W → W.cell? (ad.add k) = some (.int .u8 (x : Nat))) := fun W b => (b.cell (p := ad.add k) (by rw [block_of_add]; exact hlow)).trans ck
  have HB := hid (fun w => begun_any x hx8 w)
  rw [ho, hd, hs] at HB
  obtain ⟨q, hq⟩ : ∃ q, (n : Int) - 1 = q := ⟨_, rfl⟩
  have e1 : IntKind.i64.wrap q = q := by rw [IntKind.wrap_i64]; omega
  have e1' : wrap64 q = q := by unfold wrap64; omega
  obtain ⟨m, hm⟩ : ∃ m, (if (65535 : Int) < q then (65535 : Int) else q) = m := ⟨_, rfl⟩
  have hA := hid (decide_eq_true (p := inn k 0 m) (by unfold inn; split at hm <;> omega))
  have G0 := hid (g1_made w)
  have hkz : (k : Int) < (n : Int) := by omega
  have E1 := hid e1
  have E1' := hid e1'
  have HM := hid hm
  clear e1 e1' hm
  have HR := hid (fun w => Right_any o d s 0 w)
  have HL := hid (fun w => Length_any o d s 0 w)
  rw [show rightE o d s 0 = 0 from if_pos hok] at HR
  rw [show lenI o d s 0 = 1 + rB o s from if_pos hok, hrb, show (1 : Int) + 1 = 2 from rfl] at HL
  obtain ⟨e, hee⟩ : ∃ e : Nat, e = k + 2 := ⟨_, rfl⟩
  have e2 : (k : Int) + 2 = (e : Int) := by omega
  have E3 : Hid (IntKind.i64.wrap (e : Int) = (e : Int)) := by refine hid ?_; rw [IntKind.wrap_i64]; omega
  have E4 : Hid (wrap64 (e : Int) = (e : Int)) := by refine hid ?_; unfold wrap64; omega
  have hez : ¬ ((n : Int) < (e : Int)) := by omega
  have HR2 := hid (fun w => Right_any o d b 0 w)
  rw [show rightE o d b 0 = 0 from if_pos hfin] at HR2
  obtain ⟨k1, hk1⟩ : ∃ k1 : Nat, k1 = k + 1 := ⟨_, rfl⟩
  have e5 : (k : Int) + 1 = (k1 : Int) := by omega
  have E6 : Hid (IntKind.i64.wrap (k1 : Int) = (k1 : Int)) := by refine hid ?_; rw [IntKind.wrap_i64]; omega
  have E7 : Hid (wrap64 (k1 : Int) = (k1 : Int)) := by refine hid ?_; unfold wrap64; omega
  obtain ⟨A2, hsl, h2⟩ := slice_part h k1 e (by omega) (by omega)
  rw [show e - k1 = 1 by omega] at hsl h2
  obtain ⟨a2, rfl, hc2⟩ := h2.lies (by rw [h2.len]; decide)
  have hlow2 := h2.low (by rw [h2.len]; decide) a2 rfl
  obtain ⟨y0, hy0⟩ : ∃ y : Nat, gX l (k + 1) = (y : Int) := ⟨(gX l (k + 1)).toNat, by have := gX_in l (k + 1); omega⟩
  have hyl0 : y0 < 256 := by have := gX_in l (k + 1); omega
  have dk0 := hc2 0 (by rw [h2.len]; decide)
  rw [show (((l.drop k1).take 1)[0]'(by rw [h2.len]; decide)).toNat = y0 by
    have q1 := gX_of (List.getElem?_eq_getElem (show k + 1 < l.length by omega))
    rw [List.getElem_take, List.getElem_drop]
    have q2 : l[k1 + 0]'(by omega) = l[k + 1]'(by omega) := by congr 1 <;> omega
    rw [q2]
    omega] at dk0
  have DK0 : Hid (∀ W, Below w.heap.size w W → W.cell? a2 = some (.int .u8 (y0 : Nat))) := fun W b => by
    have q3 := (b.cell (p := a2.add 0) (by rw [block_of_add]; exact hlow2)).trans dk0
    simpa [Addr.add] using q3
  have O0 := hid (or_nought y0 hyl0)
  have M0 := wr64 (y0 : Int) (by omega)
  have hbv : b = y0 := by rw [← hb.out]; unfold gB; simp [hy0]
  have ho1b : (o == 1) = true := by simp only [beq_iff_eq]; omega
  rw [show ((k + 2 : Nat) : Int) = (e : Int) by omega]
  subst hbv
  clear _hk hk6 hx ho hd hs hok h hc ck hlow hxx hx8 hn hlen hrb hf hee hfin hb h2 hk1 hc2 hlow2 hy0 hyl0 dk0 ho1
  unfold vI at HL HR2
  unfold vG vI
  unfold vI at HB HR
  have e1 := E1.out
  have e1' := E1'.out
  have hm := HM.out
  go_enter Try.func52, Try.ntmps52
  go_wp2_with fail
  refine (HT.out _ _ _).mono ?_
  rintro r w2 ⟨f, rfl, ⟨u2, v2, rfl, z2, y2⟩, b2⟩
  have G2 := hid (G0.out.below b2)
  have A2 := hid (asks_T w2 u2 v2 0 m k true hA.out z2 y2)
  clear b2 z2 y2
  try dsimp only
  go_wp2_with fail
  refine A2.out.mono ?_
  rintro r wx ⟨rfl, rfl⟩
  have cx := CK.out _ G2.out.bel
  clear A2 hA G0
  try dsimp only
  go_wp2_with fail
  refine (HB.out _).mono ?_
  rintro r w5 ⟨rfl, b5⟩
  have G5 := hid (gi_made (G2.out.below b5) o d s 0)
  clear b5 G2 HB cx e1 e1' hm
  try dsimp only
  go_wp2_with fail
  refine (HR.out _).mono ?_
  rintro r w6 ⟨rfl, b6⟩
  have G6 := hid (G5.out.below b6)
  clear b6 G5
  generalize w5.heap.size = hh at *
  try dsimp only
  have e3 := E3.out
  have e4 := E4.out
  obtain ⟨c0, c1, c2, c3⟩ := G6.out.bx
  go_wp2_with fail
  refine (HL.out _).mono ?_
  rintro r w7 ⟨rfl, b7⟩
  have G7 := hid (G6.out.below b7)
  clear b7 G6 c0 c1 c2 c3
  try dsimp only
  go_upto_region 10 with fail
  have e6 := E6.out
  have e7 := E7.out
  have o0 := O0.out
  have m0 := M0.out
  go_wp2_with fail
  go_loopw [9, 11, 45] (fun v9 v11 v45 wr => ∃ j : Nat, j ≤ 1 ∧ v11 = v11 ∧ v45 = .int .i64 (j : Nat) ∧ v9 = .int .i64 (if j = 0 then (0 : Int) else (y0 : Nat)) ∧ wr = w7) (fun _ _ v45 _ => 1 - (intOf v45).toNat)
  case atStart => exact ⟨0, Nat.zero_le _, rfl, rfl, rfl, rfl⟩
  case round =>
    obtain ⟨j, hj, _, rfl, rfl, rfl⟩ := hrel
    rcases (by omega : j = 0 ∨ j = 1) with rfl | rfl
    · have dk := DK0.out _ G7.out.bel
      go_wp2_with fail
      go_roundw
      case rel => exact ⟨1, by omega, trivial, by go_num, by simp [], trivial⟩
      case measure => simp [intOf]
    · obtain ⟨c0, c1, c2, c3⟩ := G7.out.bx
      have f2 := G7.out.fr 2
      have f3 := G7.out.fr 3
      have G8 := hid (G7.out.setS (y0 : Nat))
      go_wp2_with fail
      refine (HR2.out _).mono ?_
      rintro r w9 ⟨rfl, b9⟩
      have G9 := hid (G8.out.below b9)
      clear b9 G8 c0 c1 c2 c3 f2 f3 G7
      try dsimp only
      obtain ⟨c0, c1, c2, c3⟩ := G9.out.bx
      obtain ⟨p0, p1, p2, p3, p4, p5, p6, p7⟩ := G9.out.bz
      go_wp2_with fail
      refine bodyPost_ret (results_243 (by kernel_rfl : Try.f52.results = #[.cell 4 24, .tmp 5, .tmp 6]) _ _ w.heap.size _ _ _ rfl (row_set4 _ _ _ _ G9.out.ra) rfl) rfl ?_
      exact ⟨rfl, bel_set4 _ _ _ _ G9.out.bel (Nat.le_refl _)⟩
set_option maxRecDepth 10000 in
set_option maxHeartbeats 4000000 in
theorem get_set1_n (A : Option Addr) (n c : Nat) (l : List UInt8) (w : World) (h : IsBB w w.heap.size A n c l) (k x : Nat) (_hk : k < n) (hk6 : k ≤ 65535) (hx : gX l k = (x : Int)) (o d s : Int) (ho : oG x = o) (hd : dG x = d) (hs : sG x = s) (hok : okI o d s 0) (hrb : rB o s = 1) (hf : k + 2 ≤ n) (ho1 : o = 1) (b : Int) (hb : Hid (gB l k 1 = b)) (hfin : ¬ okI o d b 0) :
    Calls Try.prog 52 #[.slice A n c, .int .i64 (k : Nat)] w fun e w' => e = .returned (vG (noG 110)) ∧ Below w.heap.size w w' := by
  have he : ∀ args w, (callFunc 55 args).run Try.prog w = .ok (.enter 55 args) w := enters_of Try.func55 (by kernel_rfl) rfl
  have HT := hid (fun a b w => between_any a b w)
  have hn := h.small
  have hlen := h.len
  obtain ⟨ad, rfl, hc⟩ := h.lies (by omega)
  have ck := hc k (by omega)
  have hlow := h.low (by omega) ad rfl
  have hxx : (l[k]'(by omega)).toNat = x := by
    have := gX_of (List.getElem?_eq_getElem (show k < l.length by omega))
    omega
  rw [hxx] at ck
  have hx8 : x < 256 := by rw [← hxx]; exact (l[k]'(by omega)).toNat_lt
  have H := hid h
  have CK : Hid (∀ W, Below w.heap.size w W → W.cell? (ad.add k) = some (.int .u8 (x : Nat))) := fun W b => (b.cell (p := ad.add k) (by rw [block_of_add]; exact hlow)).trans ck
  have HB := hid (fun w => begun_any x hx8 w)
  rw [ho, hd, hs] at HB
  obtain ⟨q, hq⟩ : ∃ q, (n : Int) - 1 = q := ⟨_, rfl⟩
  have e1 : IntKind.i64.wrap q = q := by rw [IntKind.wrap_i64]; omega
  have e1' : wrap64 q = q := by unfold wrap64; omega
  obtain ⟨m, hm⟩ : ∃ m, (if (65535 : Int) < q then (65535 : Int) else q) = m := ⟨_, rfl⟩
  have hA := hid (decide_eq_true (p := inn k 0 m) (by unfold inn; split at hm <;> omega))
  have G0 := hid (g1_made w)
  have hkz : (k : Int) < (n : Int) := by omega
  have E1 := hid e1
  have E1' := hid e1'
  have HM := hid hm
  clear e1 e1' hm
  have HR := hid (fun w => Right_any o d s 0 w)
  have HL := hid (fun w => Length_any o d s 0 w)
  rw [show rightE o d s 0 = 0 from if_pos hok] at HR
  rw [show lenI o d s 0 = 1 + rB o s from if_pos hok, hrb, show (1 : Int) + 1 = 2 from rfl] at HL
  obtain ⟨e, hee⟩ : ∃ e : Nat, e = k + 2 := ⟨_, rfl⟩
  have e2 : (k : Int) + 2 = (e : Int) := by omega
  have E3 : Hid (IntKind.i64.wrap (e : Int) = (e : Int)) := by refine hid ?_; rw [IntKind.wrap_i64]; omega
  have E4 : Hid (wrap64 (e : Int) = (e : Int)) := by refine hid ?_; unfold wrap64; omega
  have hez : ¬ ((n : Int) < (e : Int)) := by omega
  have HR2 := hid (fun w => Right_any o d b 0 w)
  rw [show rightE o d b 0 = 110 from if_neg hfin] at HR2
  obtain ⟨k1, hk1⟩ : ∃ k1 : Nat, k1 = k + 1 := ⟨_, rfl⟩
  have e5 : (k : Int) + 1 = (k1 : Int) := by omega
  have E6 : Hid (IntKind.i64.wrap (k1 : Int) = (k1 : Int)) := by refine hid ?_; rw [IntKind.wrap_i64]; omega
  have E7 : Hid (wrap64 (k1 : Int) = (k1 : Int)) := by refine hid ?_; unfold wrap64; omega
  obtain ⟨A2, hsl, h2⟩ := slice_part h k1 e (by omega) (by omega)
  rw [show e - k1 = 1 by omega] at hsl h2
  obtain ⟨a2, rfl, hc2⟩ := h2.lies (by rw [h2.len]; decide)
  have hlow2 := h2.low (by rw [h2.len]; decide) a2 rfl
  obtain ⟨y0, hy0⟩ : ∃ y : Nat, gX l (k + 1) = (y : Int) := ⟨(gX l (k + 1)).toNat, by have := gX_in l (k + 1); omega⟩
  have hyl0 : y0 < 256 := by have := gX_in l (k + 1); omega
  have dk0 := hc2 0 (by rw [h2.len]; decide)
  rw [show (((l.drop k1).take 1)[0]'(by rw [h2.len]; decide)).toNat = y0 by
    have q1 := gX_of (List.getElem?_eq_getElem (show k + 1 < l.length by omega))
    rw [List.getElem_take, List.getElem_drop]
    have q2 : l[k1 + 0]'(by omega) = l[k + 1]'(by omega) := by congr 1 <;> omega
    rw [q2]
    omega] at dk0
  have DK0 : Hid (∀ W, Below w.heap.size w W → W.cell? a2 = some (.int .u8 (y0 : Nat))) := fun W b => by
    have q3 := (b.cell (p := a2.add 0) (by rw [block_of_add]; exact hlow2)).trans dk0
    simpa [Addr.add] using q3
  have O0 := hid (or_nought y0 hyl0)
  have M0 := wr64 (y0 : Int) (by omega)
  have hbv : b = y0 := by rw [← hb.out]; unfold gB; simp [hy0]
  have ho1b : (o == 1) = true := by simp only [beq_iff_eq]; omega
  unfold noG
  subst hbv
  clear _hk hk6 hx ho hd hs hok h hc ck hlow hxx hx8 hn hlen hrb hf hee hfin hb h2 hk1 hc2 hlow2 hy0 hyl0 dk0 ho1
  unfold vI at HL HR2
  unfold vG vI
  unfold vI at HB HR
  have e1 := E1.out
  have e1' := E1'.out
  have hm := HM.out
  go_enter Try.func52, Try.ntmps52
  go_wp2_with fail
  refine (HT.out _ _ _).mono ?_
  rintro r w2 ⟨f, rfl, ⟨u2, v2, rfl, z2, y2⟩, b2⟩
  have G2 := hid (G0.out.below b2)
  have A2 := hid (asks_T w2 u2 v2 0 m k true hA.out z2 y2)
  clear b2 z2 y2
  try dsimp only
  go_wp2_with fail
  refine A2.out.mono ?_
  rintro r wx ⟨rfl, rfl⟩
  have cx := CK.out _ G2.out.bel
  clear A2 hA G0
  try dsimp only
  go_wp2_with fail
  refine (HB.out _).mono ?_
  rintro r w5 ⟨rfl, b5⟩
  have G5 := hid (gi_made (G2.out.below b5) o d s 0)
  clear b5 G2 HB cx e1 e1' hm
  try dsimp only
  go_wp2_with fail
  refine (HR.out _).mono ?_
  rintro r w6 ⟨rfl, b6⟩
  have G6 := hid (G5.out.below b6)
  clear b6 G5
  generalize w5.heap.size = hh at *
  try dsimp only
  have e3 := E3.out
  have e4 := E4.out
  obtain ⟨c0, c1, c2, c3⟩ := G6.out.bx
  go_wp2_with fail
  refine (HL.out _).mono ?_
  rintro r w7 ⟨rfl, b7⟩
  have G7 := hid (G6.out.below b7)
  clear b7 G6 c0 c1 c2 c3
  try dsimp only
  go_upto_region 10 with fail
  have e6 := E6.out
  have e7 := E7.out
  have o0 := O0.out
  have m0 := M0.out
  go_wp2_with fail
  go_loopw [9, 11, 45] (fun v9 v11 v45 wr => ∃ j : Nat, j ≤ 1 ∧ v11 = v11 ∧ v45 = .int .i64 (j : Nat) ∧ v9 = .int .i64 (if j = 0 then (0 : Int) else (y0 : Nat)) ∧ wr = w7) (fun _ _ v45 _ => 1 - (intOf v45).toNat)
  case atStart => exact ⟨0, Nat.zero_le _, rfl, rfl, rfl, rfl⟩
  case round =>
    obtain ⟨j, hj, _, rfl, rfl, rfl⟩ := hrel
    rcases (by omega : j = 0 ∨ j = 1) with rfl | rfl
    · have dk := DK0.out _ G7.out.bel
      go_wp2_with fail
      go_roundw
      case rel => exact ⟨1, by omega, trivial, by go_num, by simp [], trivial⟩
      case measure => simp [intOf]
    · obtain ⟨c0, c1, c2, c3⟩ := G7.out.bx
      have f2 := G7.out.fr 2
      have f3 := G7.out.fr 3
      have G8 := hid (G7.out.setS (y0 : Nat))
      go_wp2_with fail
      refine (HR2.out _).mono ?_
      rintro r w9 ⟨rfl, b9⟩
      have G9 := hid (G8.out.below b9)
      clear b9 G8 c0 c1 c2 c3 f2 f3 G7
      try dsimp only
      obtain ⟨p0, p1, p2, p3, p4, p5, p6, p7⟩ := G9.out.bz
      go_wp2_with fail
      refine bodyPost_ret (results_243 (by kernel_rfl : Try.f52.results = #[.cell 4 24, .tmp 5, .tmp 6]) _ _ w.heap.size _ _ _ rfl (row_set4 _ _ _ _ G9.out.ra) rfl) rfl ?_
      exact ⟨rfl, bel_set4 _ _ _ _ G9.out.bel (Nat.le_refl _)⟩
set_option maxRecDepth 10000 in
set_option maxHeartbeats 4000000 in
theorem get_else1_y (A : Option Addr) (n c : Nat) (l : List UInt8) (w : World) (h : IsBB w w.heap.size A n c l) (k x : Nat) (_hk : k < n) (hk6 : k ≤ 65535) (hx : gX l k = (x : Int)) (o d s : Int) (ho : oG x = o) (hd : dG x = d) (hs : sG x = s) (hok : okI o d s 0) (hrb : rB o s = 1) (hf : k + 2 ≤ n) (ho1 : o ≠ 1) (hnr : ¬ near o) (b : Int) (hb : Hid (gB l k 1 = b)) (hfin : okI o d s b) :
    Calls Try.prog 52 #[.slice A n c, .int .i64 (k : Nat)] w fun e w' => e = .returned (vG ⟨o, d, s, b, ((k + 2 : Nat) : Int), 0⟩) ∧ Below w.heap.size w w' := by
  have he : ∀ args w, (callFunc 55 args).run Try.prog w = .ok (.enter 55 args) w := enters_of Try.func55 (by kernel_rfl) rfl
  have HT := hid (fun a b w => between_any a b w)
  have hn := h.small
  have hlen := h.len
  obtain ⟨ad, rfl, hc⟩ := h.lies (by omega)
  have ck := hc k (by omega)
  have hlow := h.low (by omega) ad rfl
  have hxx : (l[k]'(by omega)).toNat = x := by
    have := gX_of (List.getElem?_eq_getElem (show k < l.length by omega))
    omega
  rw [hxx] at ck
  have hx8 : x < 256 := by rw [← hxx]; exact (l[k]'(by omega)).toNat_lt
  have H := hid h
  have CK : Hid (∀ W, Below w.heap.size w W → W.cell? (ad.add k) = some (.int .u8 (x : Nat))) := fun W b => (b.cell (p := ad.add k) (by rw [block_of_add]; exact hlow)).trans ck
  have HB := hid (fun w => begun_any x hx8 w)
  rw [ho, hd, hs] at HB
  obtain ⟨q, hq⟩ : ∃ q, (n : Int) - 1 = q := ⟨_, rfl⟩
  have e1 : IntKind.i64.wrap q = q := by rw [IntKind.wrap_i64]; omega
  have e1' : wrap64 q = q := by unfold wrap64; omega
  obtain ⟨m, hm⟩ : ∃ m, (if (65535 : Int) < q then (65535 : Int) else q) = m := ⟨_, rfl⟩
  have hA := hid (decide_eq_true (p := inn k 0 m) (by unfold inn; split at hm <;> omega))
  have G0 := hid (g1_made w)
  have hkz : (k : Int) < (n : Int) := by omega
  have E1 := hid e1
  have E1' := hid e1'
  have HM := hid hm
  clear e1 e1' hm
  have HR := hid (fun w => Right_any o d s 0 w)
  have HL := hid (fun w => Length_any o d s 0 w)
  rw [show rightE o d s 0 = 0 from if_pos hok] at HR
  rw [show lenI o d s 0 = 1 + rB o s from if_pos hok, hrb, show (1 : Int) + 1 = 2 from rfl] at HL
  obtain ⟨e, hee⟩ : ∃ e : Nat, e = k + 2 := ⟨_, rfl⟩
  have e2 : (k : Int) + 2 = (e : Int) := by omega
  have E3 : Hid (IntKind.i64.wrap (e : Int) = (e : Int)) := by refine hid ?_; rw [IntKind.wrap_i64]; omega
  have E4 : Hid (wrap64 (e : Int) = (e : Int)) := by refine hid ?_; unfold wrap64; omega
  have hez : ¬ ((n : Int) < (e : Int)) := by omega
  have HR2 := hid (fun w => Right_any o d s b w)
  rw [show rightE o d s b = 0 from if_pos hfin] at HR2
  obtain ⟨k1, hk1⟩ : ∃ k1 : Nat, k1 = k + 1 := ⟨_, rfl⟩
  have e5 : (k : Int) + 1 = (k1 : Int) := by omega
  have E6 : Hid (IntKind.i64.wrap (k1 : Int) = (k1 : Int)) := by refine hid ?_; rw [IntKind.wrap_i64]; omega
  have E7 : Hid (wrap64 (k1 : Int) = (k1 : Int)) := by refine hid ?_; unfold wrap64; omega
  obtain ⟨A2, hsl, h2⟩ := slice_part h k1 e (by omega) (by omega)
  rw [show e - k1 = 1 by omega] at hsl h2
  obtain ⟨a2, rfl, hc2⟩ := h2.lies (by rw [h2.len]; decide)
  have hlow2 := h2.low (by rw [h2.len]; decide) a2 rfl
  obtain ⟨y0, hy0⟩ : ∃ y : Nat, gX l (k + 1) = (y : Int) := ⟨(gX l (k + 1)).toNat, by have := gX_in l (k + 1); omega⟩
  have hyl0 : y0 < 256 := by have := gX_in l (k + 1); omega
  have dk0 := hc2 0 (by rw [h2.len]; decide)
  rw [show (((l.drop k1).take 1)[0]'(by rw [h2.len]; decide)).toNat = y0 by
    have q1 := gX_of (List.getElem?_eq_getElem (show k + 1 < l.length by omega))
    rw [List.getElem_take, List.getElem_drop]
    have q2 : l[k1 + 0]'(by omega) = l[k + 1]'(by omega) := by congr 1 <;> omega
    rw [q2]
    omega] at dk0
  have DK0 : Hid (∀ W, Below w.heap.size w W → W.cell? a2 = some (.int .u8 (y0 : Nat))) := fun W b => by
    have q3 := (b.cell (p := a2.add 0) (by rw [block_of_add]; exact hlow2)).trans dk0
    simpa [Addr.add] using q3
  have O0 := hid (or_nought y0 hyl0)
  have M0 := wr64 (y0 : Int) (by omega)
  have hbv : b = y0 := by rw [← hb.out]; unfold gB; simp [hy0]
  have ho1b : (o == 1) = false := by simp only [beq_eq_false_iff_ne, ne_eq]; omega
  have HN := hid (fun w => near_any o w)
  have hdn : decide (near o) = false := decide_eq_false hnr
  rw [show ((k + 2 : Nat) : Int) = (e : Int) by omega]
  subst hbv
  clear _hk hk6 hx ho hd hs hok h hc ck hlow hxx hx8 hn hlen hrb hf hee hfin hb h2 hk1 hc2 hlow2 hy0 hyl0 dk0 hnr ho1
  unfold vI at HL HR2
  unfold vG vI
  unfold vI at HB HR
  have e1 := E1.out
  have e1' := E1'.out
  have hm := HM.out
  go_enter Try.func52, Try.ntmps52
  go_wp2_with fail
  refine (HT.out _ _ _).mono ?_
  rintro r w2 ⟨f, rfl, ⟨u2, v2, rfl, z2, y2⟩, b2⟩
  have G2 := hid (G0.out.below b2)
  have A2 := hid (asks_T w2 u2 v2 0 m k true hA.out z2 y2)
  clear b2 z2 y2
  try dsimp only
  go_wp2_with fail
  refine A2.out.mono ?_
  rintro r wx ⟨rfl, rfl⟩
  have cx := CK.out _ G2.out.bel
  clear A2 hA G0
  try dsimp only
  go_wp2_with fail
  refine (HB.out _).mono ?_
  rintro r w5 ⟨rfl, b5⟩
  have G5 := hid (gi_made (G2.out.below b5) o d s 0)
  clear b5 G2 HB cx e1 e1' hm
  try dsimp only
  go_wp2_with fail
  refine (HR.out _).mono ?_
  rintro r w6 ⟨rfl, b6⟩
  have G6 := hid (G5.out.below b6)
  clear b6 G5
  generalize w5.heap.size = hh at *
  try dsimp only
  have e3 := E3.out
  have e4 := E4.out
  obtain ⟨c0, c1, c2, c3⟩ := G6.out.bx
  go_wp2_with fail
  refine (HL.out _).mono ?_
  rintro r w7 ⟨rfl, b7⟩
  have G7 := hid (G6.out.below b7)
  clear b7 G6 c0 c1 c2 c3
  try dsimp only
  go_upto_region 10 with fail
  have e6 := E6.out
  have e7 := E7.out
  have o0 := O0.out
  have m0 := M0.out
  go_wp2_with fail
  go_loopw [9, 11, 45] (fun v9 v11 v45 wr => ∃ j : Nat, j ≤ 1 ∧ v11 = v11 ∧ v45 = .int .i64 (j : Nat) ∧ v9 = .int .i64 (if j = 0 then (0 : Int) else (y0 : Nat)) ∧ wr = w7) (fun _ _ v45 _ => 1 - (intOf v45).toNat)
  case atStart => exact ⟨0, Nat.zero_le _, rfl, rfl, rfl, rfl⟩
  case round =>
    obtain ⟨j, hj, _, rfl, rfl, rfl⟩ := hrel
    rcases (by omega : j = 0 ∨ j = 1) with rfl | rfl
    · have dk := DK0.out _ G7.out.bel
      go_wp2_with fail
      go_roundw
      case rel => exact ⟨1, by omega, trivial, by go_num, by simp [], trivial⟩
      case measure => simp [intOf]
    · obtain ⟨c0, c1, c2, c3⟩ := G7.out.bx
      have f2 := G7.out.fr 2
      have f3 := G7.out.fr 3
      go_wp2_with fail
      refine (HN.out _).mono ?_
      rw [hdn]
      rintro r wy ⟨rfl, rfl⟩
      try dsimp only
      have G8 := hid (G7.out.setN (y0 : Nat))
      go_wp2_with fail
      refine (HR2.out _).mono ?_
      rintro r w9 ⟨rfl, b9⟩
      have G9 := hid (G8.out.below b9)
      clear b9 G8 c0 c1 c2 c3 f2 f3 G7
      try dsimp only
      obtain ⟨c0, c1, c2, c3⟩ := G9.out.bx
      obtain ⟨p0, p1, p2, p3, p4, p5, p6, p7⟩ := G9.out.bz
      go_wp2_with fail
      refine bodyPost_ret (results_243 (by kernel_rfl : Try.f52.results = #[.cell 4 24, .tmp 5, .tmp 6]) _ _ w.heap.size _ _ _ rfl (row_set4 _ _ _ _ G9.out.ra) rfl) rfl ?_
      exact ⟨rfl, bel_set4 _ _ _ _ G9.out.bel (Nat.le_refl _)⟩
set_option maxRecDepth 10000 in
set_option maxHeartbeats 4000000 in
theorem get_else1_n (A : Option Addr) (n c : Nat) (l : List UInt8) (w : World) (h : IsBB w w.heap.size A n c l) (k x : Nat) (_hk : k < n) (hk6 : k ≤ 65535) (hx : gX l k = (x : Int)) (o d s : Int) (ho : oG x = o) (hd : dG x = d) (hs : sG x = s) (hok : okI o d s 0) (hrb : rB o s = 1) (hf : k + 2 ≤ n) (ho1 : o ≠ 1) (hnr : ¬ near o) (b : Int) (hb : Hid (gB l k 1 = b)) (hfin : ¬ okI o d s b) :
    Calls Try.prog 52 #[.slice A n c, .int .i64 (k : Nat)] w fun e w' => e = .returned (vG (noG 110)) ∧ Below w.heap.size w w' := by
  have he : ∀ args w, (callFunc 55 args).run Try.prog w = .ok (.enter 55 args) w := enters_of Try.func55 (by kernel_rfl) rfl
  have HT := hid (fun a b w => between_any a b w)
  have hn := h.small
  have hlen := h.len
  obtain ⟨ad, rfl, hc⟩ := h.lies (by omega)
  have ck := hc k (by omega)
  have hlow := h.low (by omega) ad rfl
  have hxx : (l[k]'(by omega)).toNat = x := by
    have := gX_of (List.getElem?_eq_getElem (show k < l.length by omega))
    omega
  rw [hxx] at ck
  have hx8 : x < 256 := by rw [← hxx]; exact (l[k]'(by omega)).toNat_lt
  have H := hid h
  have CK : Hid (∀ W, Below w.heap.size w W → W.cell? (ad.add k) = some (.int .u8 (x : Nat))) := fun W b => (b.cell (p := ad.add k) (by rw [block_of_add]; exact hlow)).trans ck
  have HB := hid (fun w => begun_any x hx8 w)
  rw [ho, hd, hs] at HB
  obtain ⟨q, hq⟩ : ∃ q, (n : Int) - 1 = q := ⟨_, rfl⟩
  have e1 : IntKind.i64.wrap q = q := by rw [IntKind.wrap_i64]; omega
  have e1' : wrap64 q = q := by unfold wrap64; omega
  obtain ⟨m, hm⟩ : ∃ m, (if (65535 : Int) < q then (65535 : Int) else q) = m := ⟨_, rfl⟩
  have hA := hid (decide_eq_true (p := inn k 0 m) (by unfold inn; split at hm <;> omega))
  have G0 := hid (g1_made w)
  have hkz : (k : Int) < (n : Int) := by omega
  have E1 := hid e1
  have E1' := hid e1'
  have HM := hid hm
  clear e1 e1' hm
  have HR := hid (fun w => Right_any o d s 0 w)
  have HL := hid (fun w => Length_any o d s 0 w)
  rw [show rightE o d s 0 = 0 from if_pos hok] at HR
  rw [show lenI o d s 0 = 1 + rB o s from if_pos hok, hrb, show (1 : Int) + 1 = 2 from rfl] at HL
  obtain ⟨e, hee⟩ : ∃ e : Nat, e = k + 2 := ⟨_, rfl⟩
  have e2 : (k : Int) + 2 = (e : Int) := by omega
  have E3 : Hid (IntKind.i64.wrap (e : Int) = (e : Int)) := by refine hid ?_; rw [IntKind.wrap_i64]; omega
  have E4 : Hid (wrap64 (e : Int) = (e : Int)) := by refine hid ?_; unfold wrap64; omega
  have hez : ¬ ((n : Int) < (e : Int)) := by omega
  have HR2 := hid (fun w => Right_any o d s b w)
  rw [show rightE o d s b = 110 from if_neg hfin] at HR2
  obtain ⟨k1, hk1⟩ : ∃ k1 : Nat, k1 = k + 1 := ⟨_, rfl⟩
  have e5 : (k : Int) + 1 = (k1 : Int) := by omega
  have E6 : Hid (IntKind.i64.wrap (k1 : Int) = (k1 : Int)) := by refine hid ?_; rw [IntKind.wrap_i64]; omega
  have E7 : Hid (wrap64 (k1 : Int) = (k1 : Int)) := by refine hid ?_; unfold wrap64; omega
  obtain ⟨A2, hsl, h2⟩ := slice_part h k1 e (by omega) (by omega)
  rw [show e - k1 = 1 by omega] at hsl h2
  obtain ⟨a2, rfl, hc2⟩ := h2.lies (by rw [h2.len]; decide)
  have hlow2 := h2.low (by rw [h2.len]; decide) a2 rfl
  obtain ⟨y0, hy0⟩ : ∃ y : Nat, gX l (k + 1) = (y : Int) := ⟨(gX l (k + 1)).toNat, by have := gX_in l (k + 1); omega⟩
  have hyl0 : y0 < 256 := by have := gX_in l (k + 1); omega
  have dk0 := hc2 0 (by rw [h2.len]; decide)
  rw [show (((l.drop k1).take 1)[0]'(by rw [h2.len]; decide)).toNat = y0 by
    have q1 := gX_of (List.getElem?_eq_getElem (show k + 1 < l.length by omega))
    rw [List.getElem_take, List.getElem_drop]
    have q2 : l[k1 + 0]'(by omega) = l[k + 1]'(by omega) := by congr 1 <;> omega
    rw [q2]
    omega] at dk0
  have DK0 : Hid (∀ W, Below w.heap.size w W → W.cell? a2 = some (.int .u8 (y0 : Nat))) := fun W b => by
    have q3 := (b.cell (p := a2.add 0) (by rw [block_of_add]; exact hlow2)).trans dk0
    simpa [Addr.add] using q3
  have O0 := hid (or_nought y0 hyl0)
  have M0 := wr64 (y0 : Int) (by omega)
  have hbv : b = y0 := by rw [← hb.out]; unfold gB; simp [hy0]
  have ho1b : (o == 1) = false := by simp only [beq_eq_false_iff_ne, ne_eq]; omega
  have HN := hid (fun w => near_any o w)
  have hdn : decide (near o) = false := decide_eq_false hnr
  unfold noG
  subst hbv
  clear _hk hk6 hx ho hd hs hok h hc ck hlow hxx hx8 hn hlen hrb hf hee hfin hb h2 hk1 hc2 hlow2 hy0 hyl0 dk0 hnr ho1
  unfold vI at HL HR2
  unfold vG vI
  unfold vI at HB HR
  have e1 := E1.out
  have e1' := E1'.out
  have hm := HM.out
  go_enter Try.func52, Try.ntmps52
  go_wp2_with fail
  refine (HT.out _ _ _).mono ?_
  rintro r w2 ⟨f, rfl, ⟨u2, v2, rfl, z2, y2⟩, b2⟩
  have G2 := hid (G0.out.below b2)
  have A2 := hid (asks_T w2 u2 v2 0 m k true hA.out z2 y2)
  clear b2 z2 y2
  try dsimp only
  go_wp2_with fail
  refine A2.out.mono ?_
  rintro r wx ⟨rfl, rfl⟩
  have cx := CK.out _ G2.out.bel
  clear A2 hA G0
  try dsimp only
  go_wp2_with fail
  refine (HB.out _).mono ?_
  rintro r w5 ⟨rfl, b5⟩
  have G5 := hid (gi_made (G2.out.below b5) o d s 0)
  clear b5 G2 HB cx e1 e1' hm
  try dsimp only
  go_wp2_with fail
  refine (HR.out _).mono ?_
  rintro r w6 ⟨rfl, b6⟩
  have G6 := hid (G5.out.below b6)
  clear b6 G5
  generalize w5.heap.size = hh at *
  try dsimp only
  have e3 := E3.out
  have e4 := E4.out
  obtain ⟨c0, c1, c2, c3⟩ := G6.out.bx
  go_wp2_with fail
  refine (HL.out _).mono ?_
  rintro r w7 ⟨rfl, b7⟩
  have G7 := hid (G6.out.below b7)
  clear b7 G6 c0 c1 c2 c3
  try dsimp only
  go_upto_region 10 with fail
  have e6 := E6.out
  have e7 := E7.out
  have o0 := O0.out
  have m0 := M0.out
  go_wp2_with fail
  go_loopw [9, 11, 45] (fun v9 v11 v45 wr => ∃ j : Nat, j ≤ 1 ∧ v11 = v11 ∧ v45 = .int .i64 (j : Nat) ∧ v9 = .int .i64 (if j = 0 then (0 : Int) else (y0 : Nat)) ∧ wr = w7) (fun _ _ v45 _ => 1 - (intOf v45).toNat)
  case atStart => exact ⟨0, Nat.zero_le _, rfl, rfl, rfl, rfl⟩
  case round =>
    obtain ⟨j, hj, _, rfl, rfl, rfl⟩ := hrel
    rcases (by omega : j = 0 ∨ j = 1) with rfl | rfl
    · have dk := DK0.out _ G7.out.bel
      go_wp2_with fail
      go_roundw
      case rel => exact ⟨1, by omega, trivial, by go_num, by simp [], trivial⟩
      case measure => simp [intOf]
    · obtain ⟨c0, c1, c2, c3⟩ := G7.out.bx
      have f2 := G7.out.fr 2
      have f3 := G7.out.fr 3
      go_wp2_with fail
      refine (HN.out _).mono ?_
      rw [hdn]
      rintro r wy ⟨rfl, rfl⟩
      try dsimp only
      have G8 := hid (G7.out.setN (y0 : Nat))
      go_wp2_with fail
      refine (HR2.out _).mono ?_
      rintro r w9 ⟨rfl, b9⟩
      have G9 := hid (G8.out.below b9)
      clear b9 G8 c0 c1 c2 c3 f2 f3 G7
      try dsimp only
      obtain ⟨p0, p1, p2, p3, p4, p5, p6, p7⟩ := G9.out.bz
      go_wp2_with fail
      refine bodyPost_ret (results_243 (by kernel_rfl : Try.f52.results = #[.cell 4 24, .tmp 5, .tmp 6]) _ _ w.heap.size _ _ _ rfl (row_set4 _ _ _ _ G9.out.ra) rfl) rfl ?_
      exact ⟨rfl, bel_set4 _ _ _ _ G9.out.bel (Nat.le_refl _)⟩
end Go.Proofs.Ytaogileaeflnfaa
