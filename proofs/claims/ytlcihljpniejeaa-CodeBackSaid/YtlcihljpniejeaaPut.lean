/-
  Put: an instruction's bytes.
-/
import Derived.Test.YtlcihljpniejeaaApb
import Derived.Deep.DeepCutAuto
import Derived.Deep.CutRange
namespace Go.Proofs.Ytlcihljpniejeaa
open Go.RowKit

theorem bel_on {w w1 w2 : World} (h : Below w.heap.size w w1) (b : Below w1.heap.size w1 w2) : Below w.heap.size w w2 := h.trans (b.mono h.size)
set_option maxRecDepth 10000 in
set_option maxHeartbeats 4000000 in
theorem put_bad (o d s n k : Int) (w : World) (hok : ¬ okI o d s n) :
    Calls Try.prog 5 #[vI o d s n, .int .i64 k] w fun e w' => ∃ v, e = .returned (.tuple #[v, .int .i64 (putE o d s n k)]) ∧ OwnB w w' v (putL o d s n k) := by
  have HR := hid (fun w => Right_any o d s n w)
  rw [show rightE o d s n = 110 from if_neg hok] at HR
  have pe : putE o d s n k = 110 := if_neg hok
  have pl : putL o d s n k = [] := if_neg (by rw [pe]; decide)
  rw [pe, pl]
  clear pe pl hok
  unfold vI at HR
  unfold vI
  go_enter Try.func5, Try.ntmps5
  go_wp2_with fail
  refine (HR.out _).mono ?_
  rintro r w1 ⟨rfl, b1⟩
  obtain ⟨bx1, b2⟩ := bx_on b1
  have BX1 := hid bx1
  have B1 := hid b2
  clear b1 b2 bx1
  try dsimp only
  go_wp2_with fail
  go_ret2
  exact ⟨_, rfl, OwnB.nil _ _ B1.out⟩
set_option maxRecDepth 10000 in
set_option maxHeartbeats 4000000 in
theorem put_far (o d s n k : Int) (w : World) (hok : okI o d s n) (hk : ¬ inn k 0 65535) :
    Calls Try.prog 5 #[vI o d s n, .int .i64 k] w fun e w' => ∃ v, e = .returned (.tuple #[v, .int .i64 (putE o d s n k)]) ∧ OwnB w w' v (putL o d s n k) := by
  have he : ∀ args w, (callFunc 16 args).run Try.prog w = .ok (.enter 16 args) w := enters_of Try.func16 (by kernel_rfl) rfl
  have HT := hid (fun a b w => between_any a b w)
  have HR := hid (fun w => Right_any o d s n w)
  rw [show rightE o d s n = 0 from if_pos hok] at HR
  have pe : putE o d s n k = 2 := by unfold putE; rw [if_pos hok, if_neg hk]
  have pl : putL o d s n k = [] := if_neg (by rw [pe]; decide)
  have hA := hid (decide_eq_false hk)
  rw [pe, pl]
  clear pe pl hok hk
  unfold vI at HR
  unfold vI
  go_enter Try.func5, Try.ntmps5
  go_wp2_with fail
  refine (HR.out _).mono ?_
  rintro r w1 ⟨rfl, b1⟩
  obtain ⟨bx1, b2⟩ := bx_on b1
  have BX1 := hid bx1
  have B1 := hid b2
  clear b1 b2 bx1
  try dsimp only
  go_wp2_with fail
  refine (HT.out 0 65535 _).mono ?_
  rintro r w2 ⟨f, rfl, ⟨u2, v2, rfl, z2, y2⟩, b2⟩
  have BX2 := hid (BX1.out.below b2)
  have B2 := hid (bel_on B1.out b2)
  have Au2 := hid (asks_T w2 u2 v2 0 65535 k false hA.out z2 y2)
  clear b2 z2 y2
  try dsimp only
  go_wp2_with fail
  refine Au2.out.mono ?_
  rintro r wx ⟨rfl, rfl⟩
  try dsimp only
  go_wp2_with fail
  go_ret2
  exact ⟨_, rfl, OwnB.nil _ _ B2.out⟩
theorem ord1 {w w3 W2 : World} {Z : Array Value} {m : Nat} {fv : Int} (B : Below w.heap.size w w3) (hZ : Z.size = m) (hm : m ≤ 1000) (hf : 0 ≤ fv ∧ fv < 256) (b : Below (w3.alloc (.cells Z 5)).drew.heap.size (w3.alloc (.cells Z 5)).drew W2) :
    (W2.alloc (.cells #[.int .u8 fv] 5)).ownsRow w.heap.size 5 1 (.slice (some ⟨w3.heap.size, 0, none⟩) 0 m) 0 (([] : List UInt8).map bv) ∧ IsB (W2.alloc (.cells #[.int .u8 fv] 5)) (some ⟨W2.heap.size, 0, none⟩) 1 1 [oc8 fv] ∧ Below w.heap.size w (W2.alloc (.cells #[.int .u8 fv] 5)) := by
  have b' : Below (w3.alloc (.cells Z 5)).heap.size (w3.alloc (.cells Z 5)) W2 := ⟨b.os, b.tape, b.output, b.size, b.block⟩
  have bz : Below w.heap.size w (w3.alloc (.cells Z 5)) := B.alloc B.size _
  have b2 := bel_on bz b'
  exact ⟨made_own hZ hm B.size (b'.alloc b'.size _), one_isB W2 _ _ (by rw [oc8_nat]; omega), b2.alloc b2.size _⟩
theorem ord2 {w w3 W2 : World} {Z : Array Value} {m : Nat} {fv : Int} (B : Below w.heap.size w w3) (hZ : Z.size = m) (hm : m ≤ 1000) (hf : 0 ≤ fv ∧ fv < 256) (b : Below w3.drew.heap.size w3.drew W2) :
    ((W2.alloc (.cells Z 5)).alloc (.cells #[.int .u8 fv] 5)).ownsRow w.heap.size 5 1 (.slice (some ⟨W2.heap.size, 0, none⟩) 0 m) 0 (([] : List UInt8).map bv) ∧ IsB ((W2.alloc (.cells Z 5)).alloc (.cells #[.int .u8 fv] 5)) (some ⟨W2.heap.size + 1, 0, none⟩) 1 1 [oc8 fv] ∧ Below w.heap.size w ((W2.alloc (.cells Z 5)).alloc (.cells #[.int .u8 fv] 5)) := by
  have b' : Below w3.heap.size w3 W2 := ⟨b.os, b.tape, b.output, b.size, b.block⟩
  have b2 := bel_on B b'
  have h1 := one_isB (W2.alloc (.cells Z 5)) (oc8 fv) fv (by rw [oc8_nat]; omega)
  have e : (W2.alloc (.cells Z 5)).heap.size = W2.heap.size + 1 := by simp
  rw [e] at h1
  exact ⟨made_own hZ hm b2.size ((Below.refl _ _).alloc (Nat.le_refl _) _), h1, (b2.alloc b2.size _).alloc (b2.alloc b2.size _).size _⟩
theorem ord3 {w w3 W2 : World} {Z : Array Value} {m : Nat} {fv : Int} (B : Below w.heap.size w w3) (hZ : Z.size = m) (hm : m ≤ 1000) (hf : 0 ≤ fv ∧ fv < 256) (b : Below w3.drew.heap.size w3.drew W2) :
    ((W2.alloc (.cells #[.int .u8 fv] 5)).alloc (.cells Z 5)).ownsRow w.heap.size 5 1 (.slice (some ⟨W2.heap.size + 1, 0, none⟩) 0 m) 0 (([] : List UInt8).map bv) ∧ IsB ((W2.alloc (.cells #[.int .u8 fv] 5)).alloc (.cells Z 5)) (some ⟨W2.heap.size, 0, none⟩) 1 1 [oc8 fv] ∧ Below w.heap.size w ((W2.alloc (.cells #[.int .u8 fv] 5)).alloc (.cells Z 5)) := by
  have b' : Below w3.heap.size w3 W2 := ⟨b.os, b.tape, b.output, b.size, b.block⟩
  have b2 := bel_on B b'
  have h1 := one_isB W2 (oc8 fv) fv (by rw [oc8_nat]; omega)
  have b3 := b2.alloc b2.size (.cells #[.int .u8 fv] 5)
  have h2 := made_own (W := W2.alloc (.cells #[.int .u8 fv] 5)) (W' := (W2.alloc (.cells #[.int .u8 fv] 5)).alloc (.cells Z 5)) hZ hm b3.size (Below.refl _ _)
  have e : (W2.alloc (.cells #[.int .u8 fv] 5)).heap.size = W2.heap.size + 1 := by simp
  rw [e] at h2
  refine ⟨h2, h1.to (fun ad ha j => ?_), b3.alloc b3.size _⟩
  exact ((Below.refl _ (W2.alloc (.cells #[.int .u8 fv] 5))).alloc (Nat.le_refl _) (.cells Z 5)).cell (by rw [block_of_add]; cases ha; rw [e]; exact Nat.lt_succ_self _)
theorem near_rB {o s : Int} (h : near o) : rB o s = 1 := by
  unfold near at h
  rcases row_cases o s with ⟨r0, r1, r2, r3, r4, hc⟩ | ⟨r0, r1, r2, r3, r4, hc⟩ | ⟨r0, r1, r2, r3, r4, hc⟩ | ⟨r0, r1, r2, r3, r4, hc⟩ | ⟨r0, r1, r2, r3, r4, hc⟩ | ⟨r0, r1, r2, r3, r4, hc⟩ | ⟨r0, r1, r2, r3, r4, hc⟩ | ⟨r0, r1, r2, r3, r4, hc⟩ | ⟨r0, r1, r2, r3, r4, hc⟩ | ⟨r0, r1, r2, r3, r4, hc⟩ | ⟨r0, r1, r2, r3, r4, hc⟩ <;> omega
theorem near_rN {o s : Int} (h : near o) : rN o s = 65535 := by
  unfold near at h
  rcases row_cases o s with ⟨r0, r1, r2, r3, r4, hc⟩ | ⟨r0, r1, r2, r3, r4, hc⟩ | ⟨r0, r1, r2, r3, r4, hc⟩ | ⟨r0, r1, r2, r3, r4, hc⟩ | ⟨r0, r1, r2, r3, r4, hc⟩ | ⟨r0, r1, r2, r3, r4, hc⟩ | ⟨r0, r1, r2, r3, r4, hc⟩ | ⟨r0, r1, r2, r3, r4, hc⟩ | ⟨r0, r1, r2, r3, r4, hc⟩ | ⟨r0, r1, r2, r3, r4, hc⟩ | ⟨r0, r1, r2, r3, r4, hc⟩ <;> omega
theorem first_fl {o d s n : Int} (h : okI o d s n) : 0 ≤ (if reck o then s else d) ∧ (if reck o then s else d) ≤ 7 := by
  obtain ⟨o1, o2, o3, o4⟩ := h
  unfold inn at o2 o3
  have hrk : reck o ↔ (8 ≤ o ∧ o ≤ 21) := Iff.rfl
  by_cases hr : reck o
  · rw [if_pos hr]
    have hr2 := hrk.1 hr
    clear hrk
    rcases row_cases o s with ⟨r0, r1, r2, r3, r4, hc⟩ | ⟨r0, r1, r2, r3, r4, hc⟩ | ⟨r0, r1, r2, r3, r4, hc⟩ | ⟨r0, r1, r2, r3, r4, hc⟩ | ⟨r0, r1, r2, r3, r4, hc⟩ | ⟨r0, r1, r2, r3, r4, hc⟩ | ⟨r0, r1, r2, r3, r4, hc⟩ | ⟨r0, r1, r2, r3, r4, hc⟩ | ⟨r0, r1, r2, r3, r4, hc⟩ | ⟨r0, r1, r2, r3, r4, hc⟩ | ⟨r0, r1, r2, r3, r4, hc⟩ <;> omega
  · rw [if_neg hr]
    have hr2 : ¬ (8 ≤ o ∧ o ≤ 21) := fun h => hr (hrk.2 h)
    clear hrk
    rcases row_cases o s with ⟨r0, r1, r2, r3, r4, hc⟩ | ⟨r0, r1, r2, r3, r4, hc⟩ | ⟨r0, r1, r2, r3, r4, hc⟩ | ⟨r0, r1, r2, r3, r4, hc⟩ | ⟨r0, r1, r2, r3, r4, hc⟩ | ⟨r0, r1, r2, r3, r4, hc⟩ | ⟨r0, r1, r2, r3, r4, hc⟩ | ⟨r0, r1, r2, r3, r4, hc⟩ | ⟨r0, r1, r2, r3, r4, hc⟩ | ⟨r0, r1, r2, r3, r4, hc⟩ | ⟨r0, r1, r2, r3, r4, hc⟩ <;> first | omega | (rw [r0] at o1; exact absurd o1 (by decide))
theorem first_in {o d s n : Int} (h : okI o d s n) : 0 ≤ firstV o d s ∧ firstV o d s < 256 := by
  have := first_fl h
  have := okI_op h
  unfold firstV
  omega
theorem first_of (o d s n : Int) (w : World) (h : okI o d s n) : Calls Try.prog 13 #[vI o d s n] w fun e w' => e = .returned (.int .u8 (firstV o d s)) ∧ Below w.heap.size w w' :=
  first_any o d s n w (okI_op h).1 (okI_op h).2 (first_fl h).1 (first_fl h).2
set_option maxRecDepth 10000 in
set_option maxHeartbeats 4000000 in
theorem put_set (d s n k : Int) (w : World) (hok : okI 1 d s n) (hk : inn k 0 65535) :
    Calls Try.prog 5 #[vI 1 d s n, .int .i64 k] w fun e w' => ∃ v, e = .returned (.tuple #[v, .int .i64 (putE 1 d s n k)]) ∧ OwnB w w' v (putL 1 d s n k) := by
  have he : ∀ args w, (callFunc 16 args).run Try.prog w = .ok (.enter 16 args) w := enters_of Try.func16 (by kernel_rfl) rfl
  have HT := hid (fun a b w => between_any a b w)
  have HR := hid (fun w => Right_any 1 d s n w)
  have HL := hid (fun w => Length_any 1 d s n w)
  have HN := hid (fun w => near_any 1 w)
  have HF := hid (fun w => first_of 1 d s n w hok)
  have hf := first_in hok
  have hrb : rB 1 s = 1 := rfl
  rw [show rightE 1 d s n = 0 from if_pos hok] at HR
  rw [show lenI 1 d s n = 1 + rB 1 s from if_pos hok, hrb, show (1 : Int) + 1 = 2 from rfl] at HL
  have pe : putE 1 d s n k = 0 := by unfold putE; rw [if_pos hok, if_pos hk, if_neg (fun h => absurd h.1 (by unfold near; decide))]
  have pl : putL 1 d s n k = oc8 (firstV 1 d s) :: tailL 1 (bhP 1 s n k) := by unfold putL; rw [if_pos pe, hrb]
  rw [show bhP 1 s n k = s from rfl] at pl
  rw [pe, pl]
  have hA := hid (decide_eq_true hk)
  obtain ⟨fv, hfv⟩ : ∃ fv, firstV 1 d s = fv := ⟨_, rfl⟩
  rw [hfv] at hf HF ⊢
  have mk := mk2
  clear pe pl hok hk hrb hfv
  unfold vI at HR HL HF
  unfold vI
  clear HN
  go_enter Try.func5, Try.ntmps5
  go_wp2_with fail
  refine (HR.out _).mono ?_
  rintro r w1 ⟨rfl, b1⟩
  obtain ⟨bx1, b2⟩ := bx_on b1
  have BX1 := hid bx1
  have B1 := hid b2
  clear b1 b2 bx1
  try dsimp only
  go_wp2_with fail
  refine (HT.out 0 65535 _).mono ?_
  rintro r w2 ⟨f, rfl, ⟨u2, v2, rfl, z2, y2⟩, b2⟩
  have BX2 := hid (BX1.out.below b2)
  have B2 := hid (bel_on B1.out b2)
  have Au2 := hid (asks_T w2 u2 v2 0 65535 k true hA.out z2 y2)
  clear b2 z2 y2
  try dsimp only
  go_wp2_with fail
  refine Au2.out.mono ?_
  rintro r wx ⟨rfl, rfl⟩
  try dsimp only
  have bx := BX2.out
  obtain ⟨c0, c1, c2, c3⟩ := bx
  go_wp2_with fail
  refine (HL.out _).mono ?_
  rintro r w3 ⟨rfl, b3⟩
  have BX3 := hid (BX2.out.below b3)
  have B3 := hid (bel_on B2.out b3)
  clear b3 c0 c1 c2 c3
  obtain ⟨c0, c1, c2, c3⟩ := BX3.out
  go_upto_region 13 with fail
  have BX := hid (BX3.out.below (Below.refl _ w3).drew)
  have BW := hid B3.out
  have Z1 := hid (BX3.out.below ((Below.refl _ w3).alloc (Nat.le_refl _) (.cells #[.int .u8 0, .int .u8 0] 5)))
  clear c0 c1 c2 c3
  go_cut [8] (fun v wx => Hid (OwnB w wx v [oc8 fv]))
  case first =>
    obtain ⟨c0, c1, c2, c3⟩ := BX3.out
    obtain ⟨d0, d1, d2, d3⟩ := Z1.out
    obtain ⟨f0, f1, f2, f3⟩ := BX.out
    go_region_law (first
      | (go_simp; go_at_call 13; (refine (HF.out _).mono ?_); rintro r W2 ⟨rfl, b2⟩; have Q2 := hid b2; clear b2)
      | (refine step_append_b rfl (.tmp 41) (.tmp 44) rfl w _ w.heap.size _ 0 [] rfl (ord1 BW.out (rfl : (#[.int .u8 0, .int .u8 0] : Array Value).size = 2) (by decide) hf Q2.out).1 _ 1 1 [oc8 fv] rfl (ord1 BW.out (rfl : (#[.int .u8 0, .int .u8 0] : Array Value).size = 2) (by decide) hf Q2.out).2.1 (by decide) (ord1 BW.out (rfl : (#[.int .u8 0, .int .u8 0] : Array Value).size = 2) (by decide) hf Q2.out).2.2 (Nat.le_refl _) ?_; intro v3 W3 ho3 hb3)
      | (refine step_append_b rfl (.tmp 41) (.tmp 44) rfl w _ w.heap.size _ 0 [] rfl (ord2 BW.out (rfl : (#[.int .u8 0, .int .u8 0] : Array Value).size = 2) (by decide) hf Q2.out).1 _ 1 1 [oc8 fv] rfl (ord2 BW.out (rfl : (#[.int .u8 0, .int .u8 0] : Array Value).size = 2) (by decide) hf Q2.out).2.1 (by decide) (ord2 BW.out (rfl : (#[.int .u8 0, .int .u8 0] : Array Value).size = 2) (by decide) hf Q2.out).2.2 (Nat.le_refl _) ?_; intro v3 W3 ho3 hb3)
      | (refine step_append_b rfl (.tmp 41) (.tmp 44) rfl w _ w.heap.size _ 0 [] rfl (ord3 BW.out (rfl : (#[.int .u8 0, .int .u8 0] : Array Value).size = 2) (by decide) hf Q2.out).1 _ 1 1 [oc8 fv] rfl (ord3 BW.out (rfl : (#[.int .u8 0, .int .u8 0] : Array Value).size = 2) (by decide) hf Q2.out).2.1 (by decide) (ord3 BW.out (rfl : (#[.int .u8 0, .int .u8 0] : Array Value).size = 2) (by decide) hf Q2.out).2.2 (Nat.le_refl _) ?_; intro v3 W3 ho3 hb3))
    all_goals
      go_wp2_with fail
      go_meet
      case rel => exact ⟨ho3.out, hb3.out⟩
  case rest =>
    clear BX Z1 mk HF
    go_wp2_with fail
    go_loopw [8, 9] (fun v8 v9 wr => ∃ j : Nat, j ≤ 1 ∧ v9 = .int .i64 (1 - 1 - (j : Int)) ∧ Hid (OwnB w wr v8 (oc8 fv :: (tailL 1 s).take j))) (fun _ v9 _ => (intOf v9 + 1).toNat)
    case atStart => exact ⟨0, Nat.zero_le _, rfl, hcut⟩
    case round =>
      obtain ⟨j, hj, rfl, hst⟩ := hrel
      clear hcut
      rcases (by omega : j = 0 ∨ j = 1) with rfl | rfl
      · obtain ⟨z, hz⟩ : ∃ z : Nat, s % 256 = (z : Int) := ⟨(s % 256).toNat, by omega⟩
        have hzl : z < 256 := by omega
        have hnx := hid (show (oc8 fv :: (tailL 1 s).take 0) ++ [UInt8.ofNat z] = oc8 fv :: (tailL 1 s).take 1 by simp [tailL, oc8, hz])
        have hL := hid (show (oc8 fv :: (tailL 1 s).take 0).length ≤ 1000000 by simp [tailL])
        go_wp2_with (at_builtin; go_loud (refine wpList_app1 rfl (.tmp 52) (.tmp 58) rfl w wr _ (oc8 fv :: (tailL 1 s).take 0) z rfl rfl hst.out hL.out hzl ?_); intro v2 W2 hv2)
        rw [hnx.out] at hv2
        go_roundw
        case rel => exact ⟨1, by omega, by go_num, hv2⟩
        case measure => simp [intOf]
      · go_wp2_with fail
        go_ret2
        exact ⟨_, rfl, hst.out⟩
set_option maxRecDepth 10000 in
set_option maxHeartbeats 4000000 in
theorem put_near (o d s n k : Int) (w : World) (hok : okI o d s n) (hk : inn k 0 65535) (hn : near o) (hj : inn (n - (k + 2)) (-128) 127) :
    Calls Try.prog 5 #[vI o d s n, .int .i64 k] w fun e w' => ∃ v, e = .returned (.tuple #[v, .int .i64 (putE o d s n k)]) ∧ OwnB w w' v (putL o d s n k) := by
  have he : ∀ args w, (callFunc 16 args).run Try.prog w = .ok (.enter 16 args) w := enters_of Try.func16 (by kernel_rfl) rfl
  have HT := hid (fun a b w => between_any a b w)
  have HR := hid (fun w => Right_any o d s n w)
  have HL := hid (fun w => Length_any o d s n w)
  have HN := hid (fun w => near_any o w)
  have HF := hid (fun w => first_of o d s n w hok)
  have hf := first_in hok
  have hrb : rB o s = 1 := near_rB hn
  have ho1 : o ≠ 1 := by unfold near at hn; omega
  rw [show rightE o d s n = 0 from if_pos hok] at HR
  rw [show lenI o d s n = 1 + rB o s from if_pos hok, hrb, show (1 : Int) + 1 = 2 from rfl] at HL
  have pe : putE o d s n k = 0 := by unfold putE; rw [if_pos hok, if_pos hk, if_neg (fun h => h.2 hj)]
  have pl : putL o d s n k = oc8 (firstV o d s) :: tailL 1 (bhP o s n k) := by unfold putL; rw [if_pos pe, hrb]
  rw [(show bhP o s n k = n - (k + 2) by unfold bhP; rw [if_neg ho1, if_pos hn])] at pl
  rw [pe, pl]
  have hki := hk
  have hni := hok.2.2.2
  rw [near_rN hn] at hni
  unfold inn at hki hni
  obtain ⟨b, hb⟩ : ∃ b, n - (k + 2) = b := ⟨_, rfl⟩
  have e1 : IntKind.i64.wrap (k + 2) = k + 2 := by rw [IntKind.wrap_i64]; omega
  have e2 : IntKind.i64.wrap b = b := by rw [IntKind.wrap_i64]; omega
  have e3 : wrap64 (k + 2) = k + 2 := by unfold wrap64; omega
  have e4 : wrap64 b = b := by unfold wrap64; omega
  rw [hb] at hj
  rw [hb]
  have hJ := hid (decide_eq_true hj)
  have hA := hid (decide_eq_true hk)
  have hb1 : (o == 1) = false := by simp only [beq_eq_false_iff_ne, ne_eq]; omega
  have hdn : decide (near o) = true := decide_eq_true hn
  obtain ⟨fv, hfv⟩ : ∃ fv, firstV o d s = fv := ⟨_, rfl⟩
  rw [hfv] at hf HF ⊢
  have mk := mk2
  clear pe pl hok hk hrb ho1 hn hj hki hni hfv
  unfold vI at HR HL HF
  unfold vI
  go_enter Try.func5, Try.ntmps5
  go_wp2_with fail
  refine (HR.out _).mono ?_
  rintro r w1 ⟨rfl, b1⟩
  obtain ⟨bx1, b2⟩ := bx_on b1
  have BX1 := hid bx1
  have B1 := hid b2
  clear b1 b2 bx1
  try dsimp only
  go_wp2_with fail
  refine (HT.out 0 65535 _).mono ?_
  rintro r w2 ⟨f, rfl, ⟨u2, v2, rfl, z2, y2⟩, b2⟩
  have BX2 := hid (BX1.out.below b2)
  have B2 := hid (bel_on B1.out b2)
  have Au2 := hid (asks_T w2 u2 v2 0 65535 k true hA.out z2 y2)
  clear b2 z2 y2
  try dsimp only
  go_wp2_with fail
  refine Au2.out.mono ?_
  rintro r wx ⟨rfl, rfl⟩
  try dsimp only
  have bx := BX2.out
  obtain ⟨c0, c1, c2, c3⟩ := bx
  go_wp2_with fail
  refine (HL.out _).mono ?_
  rintro r w3 ⟨rfl, b3⟩
  have BX3 := hid (BX2.out.below b3)
  have B3 := hid (bel_on B2.out b3)
  clear b3 c0 c1 c2 c3
  obtain ⟨c0, c1, c2, c3⟩ := BX3.out
  go_wp2_with fail
  refine (HN.out _).mono ?_
  rw [hdn]
  rintro r wx ⟨rfl, rfl⟩
  go_wp2_with fail
  refine (HT.out (-128) 127 _).mono ?_
  rintro r w4 ⟨f, rfl, ⟨u4, v4, rfl, z2, y2⟩, b2⟩
  have BX4 := hid (BX3.out.below b2)
  have B4 := hid (bel_on B3.out b2)
  have Au4 := hid (asks_T w4 u4 v4 (-128) 127 b true hJ.out z2 y2)
  clear b2 z2 y2
  try dsimp only
  go_wp2_with fail
  refine Au4.out.mono ?_
  rintro r wx ⟨rfl, rfl⟩
  try dsimp only
  clear c0 c1 c2 c3
  obtain ⟨c0, c1, c2, c3⟩ := BX4.out
  go_upto_region 13 with fail
  have BX := hid (BX4.out.below (Below.refl _ wx).drew)
  have BW := hid B4.out
  have Z1 := hid (BX4.out.below ((Below.refl _ wx).alloc (Nat.le_refl _) (.cells #[.int .u8 0, .int .u8 0] 5)))
  clear c0 c1 c2 c3
  go_cut [8] (fun v wx => Hid (OwnB w wx v [oc8 fv]))
  case first =>
    obtain ⟨c0, c1, c2, c3⟩ := BX4.out
    obtain ⟨d0, d1, d2, d3⟩ := Z1.out
    obtain ⟨f0, f1, f2, f3⟩ := BX.out
    go_region_law (first
      | (go_simp; go_at_call 13; (refine (HF.out _).mono ?_); rintro r W2 ⟨rfl, b2⟩; have Q2 := hid b2; clear b2)
      | (refine step_append_b rfl (.tmp 41) (.tmp 44) rfl w _ w.heap.size _ 0 [] rfl (ord1 BW.out (rfl : (#[.int .u8 0, .int .u8 0] : Array Value).size = 2) (by decide) hf Q2.out).1 _ 1 1 [oc8 fv] rfl (ord1 BW.out (rfl : (#[.int .u8 0, .int .u8 0] : Array Value).size = 2) (by decide) hf Q2.out).2.1 (by decide) (ord1 BW.out (rfl : (#[.int .u8 0, .int .u8 0] : Array Value).size = 2) (by decide) hf Q2.out).2.2 (Nat.le_refl _) ?_; intro v3 W3 ho3 hb3)
      | (refine step_append_b rfl (.tmp 41) (.tmp 44) rfl w _ w.heap.size _ 0 [] rfl (ord2 BW.out (rfl : (#[.int .u8 0, .int .u8 0] : Array Value).size = 2) (by decide) hf Q2.out).1 _ 1 1 [oc8 fv] rfl (ord2 BW.out (rfl : (#[.int .u8 0, .int .u8 0] : Array Value).size = 2) (by decide) hf Q2.out).2.1 (by decide) (ord2 BW.out (rfl : (#[.int .u8 0, .int .u8 0] : Array Value).size = 2) (by decide) hf Q2.out).2.2 (Nat.le_refl _) ?_; intro v3 W3 ho3 hb3)
      | (refine step_append_b rfl (.tmp 41) (.tmp 44) rfl w _ w.heap.size _ 0 [] rfl (ord3 BW.out (rfl : (#[.int .u8 0, .int .u8 0] : Array Value).size = 2) (by decide) hf Q2.out).1 _ 1 1 [oc8 fv] rfl (ord3 BW.out (rfl : (#[.int .u8 0, .int .u8 0] : Array Value).size = 2) (by decide) hf Q2.out).2.1 (by decide) (ord3 BW.out (rfl : (#[.int .u8 0, .int .u8 0] : Array Value).size = 2) (by decide) hf Q2.out).2.2 (Nat.le_refl _) ?_; intro v3 W3 ho3 hb3))
    all_goals
      go_wp2_with fail
      go_meet
      case rel => exact ⟨ho3.out, hb3.out⟩
  case rest =>
    clear BX Z1 mk HF
    go_wp2_with fail
    go_loopw [8, 9] (fun v8 v9 wr => ∃ j : Nat, j ≤ 1 ∧ v9 = .int .i64 (1 - 1 - (j : Int)) ∧ Hid (OwnB w wr v8 (oc8 fv :: (tailL 1 b).take j))) (fun _ v9 _ => (intOf v9 + 1).toNat)
    case atStart => exact ⟨0, Nat.zero_le _, rfl, hcut⟩
    case round =>
      obtain ⟨j, hj, rfl, hst⟩ := hrel
      clear hcut
      rcases (by omega : j = 0 ∨ j = 1) with rfl | rfl
      · obtain ⟨z, hz⟩ : ∃ z : Nat, b % 256 = (z : Int) := ⟨(b % 256).toNat, by omega⟩
        have hzl : z < 256 := by omega
        have hnx := hid (show (oc8 fv :: (tailL 1 b).take 0) ++ [UInt8.ofNat z] = oc8 fv :: (tailL 1 b).take 1 by simp [tailL, oc8, hz])
        have hL := hid (show (oc8 fv :: (tailL 1 b).take 0).length ≤ 1000000 by simp [tailL])
        go_wp2_with (at_builtin; go_loud (refine wpList_app1 rfl (.tmp 52) (.tmp 58) rfl w wr _ (oc8 fv :: (tailL 1 b).take 0) z rfl rfl hst.out hL.out hzl ?_); intro v2 W2 hv2)
        rw [hnx.out] at hv2
        go_roundw
        case rel => exact ⟨1, by omega, by go_num, hv2⟩
        case measure => simp [intOf]
      · go_wp2_with fail
        go_ret2
        exact ⟨_, rfl, hst.out⟩
set_option maxRecDepth 10000 in
set_option maxHeartbeats 4000000 in
theorem put_jump (o d s n k : Int) (w : World) (hok : okI o d s n) (hk : inn k 0 65535) (hn : near o) (hj : ¬ inn (n - (k + 2)) (-128) 127) :
    Calls Try.prog 5 #[vI o d s n, .int .i64 k] w fun e w' => ∃ v, e = .returned (.tuple #[v, .int .i64 (putE o d s n k)]) ∧ OwnB w w' v (putL o d s n k) := by
  have he : ∀ args w, (callFunc 16 args).run Try.prog w = .ok (.enter 16 args) w := enters_of Try.func16 (by kernel_rfl) rfl
  have HT := hid (fun a b w => between_any a b w)
  have HR := hid (fun w => Right_any o d s n w)
  have HL := hid (fun w => Length_any o d s n w)
  have HN := hid (fun w => near_any o w)
  have HF := hid (fun w => first_of o d s n w hok)
  have hf := first_in hok
  have hrb : rB o s = 1 := near_rB hn
  have ho1 : o ≠ 1 := by unfold near at hn; omega
  rw [show rightE o d s n = 0 from if_pos hok] at HR
  rw [show lenI o d s n = 1 + rB o s from if_pos hok, hrb, show (1 : Int) + 1 = 2 from rfl] at HL
  have pe : putE o d s n k = 125 := by unfold putE; rw [if_pos hok, if_pos hk, if_pos ⟨hn, hj⟩]
  have pl : putL o d s n k = [] := if_neg (by rw [pe]; decide)
  rw [pe, pl]
  have hki := hk
  have hni := hok.2.2.2
  rw [near_rN hn] at hni
  unfold inn at hki hni
  obtain ⟨b, hb⟩ : ∃ b, n - (k + 2) = b := ⟨_, rfl⟩
  have e1 : IntKind.i64.wrap (k + 2) = k + 2 := by rw [IntKind.wrap_i64]; omega
  have e2 : IntKind.i64.wrap b = b := by rw [IntKind.wrap_i64]; omega
  have e3 : wrap64 (k + 2) = k + 2 := by unfold wrap64; omega
  have e4 : wrap64 b = b := by unfold wrap64; omega
  rw [hb] at hj
  have hJ := hid (decide_eq_false hj)
  have hA := hid (decide_eq_true hk)
  have hb1 : (o == 1) = false := by simp only [beq_eq_false_iff_ne, ne_eq]; omega
  have hdn : decide (near o) = true := decide_eq_true hn
  clear pe pl hok hk hrb ho1 hn hj hki hni HF hf
  unfold vI at HR HL
  unfold vI
  go_enter Try.func5, Try.ntmps5
  go_wp2_with fail
  refine (HR.out _).mono ?_
  rintro r w1 ⟨rfl, b1⟩
  obtain ⟨bx1, b2⟩ := bx_on b1
  have BX1 := hid bx1
  have B1 := hid b2
  clear b1 b2 bx1
  try dsimp only
  go_wp2_with fail
  refine (HT.out 0 65535 _).mono ?_
  rintro r w2 ⟨f, rfl, ⟨u2, v2, rfl, z2, y2⟩, b2⟩
  have BX2 := hid (BX1.out.below b2)
  have B2 := hid (bel_on B1.out b2)
  have Au2 := hid (asks_T w2 u2 v2 0 65535 k true hA.out z2 y2)
  clear b2 z2 y2
  try dsimp only
  go_wp2_with fail
  refine Au2.out.mono ?_
  rintro r wx ⟨rfl, rfl⟩
  try dsimp only
  have bx := BX2.out
  obtain ⟨c0, c1, c2, c3⟩ := bx
  go_wp2_with fail
  refine (HL.out _).mono ?_
  rintro r w3 ⟨rfl, b3⟩
  have BX3 := hid (BX2.out.below b3)
  have B3 := hid (bel_on B2.out b3)
  clear b3 c0 c1 c2 c3
  obtain ⟨c0, c1, c2, c3⟩ := BX3.out
  go_wp2_with fail
  refine (HN.out _).mono ?_
  rw [hdn]
  rintro r wx ⟨rfl, rfl⟩
  go_wp2_with fail
  refine (HT.out (-128) 127 _).mono ?_
  rintro r w4 ⟨f, rfl, ⟨u4, v4, rfl, z2, y2⟩, b2⟩
  have BX4 := hid (BX3.out.below b2)
  have B4 := hid (bel_on B3.out b2)
  have Au4 := hid (asks_T w4 u4 v4 (-128) 127 b false hJ.out z2 y2)
  clear b2 z2 y2
  try dsimp only
  go_wp2_with fail
  refine Au4.out.mono ?_
  rintro r wx ⟨rfl, rfl⟩
  try dsimp only
  go_wp2_with fail
  go_ret2
  exact ⟨_, rfl, OwnB.nil _ _ B4.out⟩
set_option maxRecDepth 10000 in
set_option maxHeartbeats 4000000 in
theorem put_0 (o d s n k : Int) (w : World) (hok : okI o d s n) (hk : inn k 0 65535) (ho1 : o ≠ 1) (hn : ¬ near o) (hrb : rB o s = 0) :
    Calls Try.prog 5 #[vI o d s n, .int .i64 k] w fun e w' => ∃ v, e = .returned (.tuple #[v, .int .i64 (putE o d s n k)]) ∧ OwnB w w' v (putL o d s n k) := by
  have he : ∀ args w, (callFunc 16 args).run Try.prog w = .ok (.enter 16 args) w := enters_of Try.func16 (by kernel_rfl) rfl
  have HT := hid (fun a b w => between_any a b w)
  have HR := hid (fun w => Right_any o d s n w)
  have HL := hid (fun w => Length_any o d s n w)
  have HN := hid (fun w => near_any o w)
  have HF := hid (fun w => first_of o d s n w hok)
  have hf := first_in hok
  rw [show rightE o d s n = 0 from if_pos hok] at HR
  rw [show lenI o d s n = 1 + rB o s from if_pos hok, hrb, show (1 : Int) + 0 = 1 from rfl] at HL
  have pe : putE o d s n k = 0 := by unfold putE; rw [if_pos hok, if_pos hk, if_neg (fun h => hn h.1)]
  have pl : putL o d s n k = oc8 (firstV o d s) :: tailL 0 (bhP o s n k) := by unfold putL; rw [if_pos pe, hrb]
  rw [(show bhP o s n k = n by unfold bhP; rw [if_neg ho1, if_neg hn])] at pl
  rw [pe, pl]
  have hA := hid (decide_eq_true hk)
  have hb1 : (o == 1) = false := by simp only [beq_eq_false_iff_ne, ne_eq]; omega
  have hdn : decide (near o) = false := decide_eq_false hn
  obtain ⟨fv, hfv⟩ : ∃ fv, firstV o d s = fv := ⟨_, rfl⟩
  rw [hfv] at hf HF ⊢
  have mk := mk1
  clear pe pl hok hk hrb ho1 hn hfv
  unfold vI at HR HL HF
  unfold vI
  go_enter Try.func5, Try.ntmps5
  go_wp2_with fail
  refine (HR.out _).mono ?_
  rintro r w1 ⟨rfl, b1⟩
  obtain ⟨bx1, b2⟩ := bx_on b1
  have BX1 := hid bx1
  have B1 := hid b2
  clear b1 b2 bx1
  try dsimp only
  go_wp2_with fail
  refine (HT.out 0 65535 _).mono ?_
  rintro r w2 ⟨f, rfl, ⟨u2, v2, rfl, z2, y2⟩, b2⟩
  have BX2 := hid (BX1.out.below b2)
  have B2 := hid (bel_on B1.out b2)
  have Au2 := hid (asks_T w2 u2 v2 0 65535 k true hA.out z2 y2)
  clear b2 z2 y2
  try dsimp only
  go_wp2_with fail
  refine Au2.out.mono ?_
  rintro r wx ⟨rfl, rfl⟩
  try dsimp only
  have bx := BX2.out
  obtain ⟨c0, c1, c2, c3⟩ := bx
  go_wp2_with fail
  refine (HL.out _).mono ?_
  rintro r w3 ⟨rfl, b3⟩
  have BX3 := hid (BX2.out.below b3)
  have B3 := hid (bel_on B2.out b3)
  clear b3 c0 c1 c2 c3
  obtain ⟨c0, c1, c2, c3⟩ := BX3.out
  go_wp2_with fail
  refine (HN.out _).mono ?_
  rw [hdn]
  rintro r wx ⟨rfl, rfl⟩
  go_upto_region 13 with fail
  have BX := hid (BX3.out.below (Below.refl _ wx).drew)
  have BW := hid B3.out
  have Z1 := hid (BX3.out.below ((Below.refl _ wx).alloc (Nat.le_refl _) (.cells #[.int .u8 0] 5)))
  clear c0 c1 c2 c3
  go_cut [8] (fun v wx => Hid (OwnB w wx v [oc8 fv]))
  case first =>
    obtain ⟨c0, c1, c2, c3⟩ := BX3.out
    obtain ⟨d0, d1, d2, d3⟩ := Z1.out
    obtain ⟨f0, f1, f2, f3⟩ := BX.out
    go_region_law (first
      | (go_simp; go_at_call 13; (refine (HF.out _).mono ?_); rintro r W2 ⟨rfl, b2⟩; have Q2 := hid b2; clear b2)
      | (refine step_append_b rfl (.tmp 41) (.tmp 44) rfl w _ w.heap.size _ 0 [] rfl (ord1 BW.out (rfl : (#[.int .u8 0] : Array Value).size = 1) (by decide) hf Q2.out).1 _ 1 1 [oc8 fv] rfl (ord1 BW.out (rfl : (#[.int .u8 0] : Array Value).size = 1) (by decide) hf Q2.out).2.1 (by decide) (ord1 BW.out (rfl : (#[.int .u8 0] : Array Value).size = 1) (by decide) hf Q2.out).2.2 (Nat.le_refl _) ?_; intro v3 W3 ho3 hb3)
      | (refine step_append_b rfl (.tmp 41) (.tmp 44) rfl w _ w.heap.size _ 0 [] rfl (ord2 BW.out (rfl : (#[.int .u8 0] : Array Value).size = 1) (by decide) hf Q2.out).1 _ 1 1 [oc8 fv] rfl (ord2 BW.out (rfl : (#[.int .u8 0] : Array Value).size = 1) (by decide) hf Q2.out).2.1 (by decide) (ord2 BW.out (rfl : (#[.int .u8 0] : Array Value).size = 1) (by decide) hf Q2.out).2.2 (Nat.le_refl _) ?_; intro v3 W3 ho3 hb3)
      | (refine step_append_b rfl (.tmp 41) (.tmp 44) rfl w _ w.heap.size _ 0 [] rfl (ord3 BW.out (rfl : (#[.int .u8 0] : Array Value).size = 1) (by decide) hf Q2.out).1 _ 1 1 [oc8 fv] rfl (ord3 BW.out (rfl : (#[.int .u8 0] : Array Value).size = 1) (by decide) hf Q2.out).2.1 (by decide) (ord3 BW.out (rfl : (#[.int .u8 0] : Array Value).size = 1) (by decide) hf Q2.out).2.2 (Nat.le_refl _) ?_; intro v3 W3 ho3 hb3))
    all_goals
      go_wp2_with fail
      go_meet
      case rel => exact ⟨ho3.out, hb3.out⟩
  case rest =>
    clear BX Z1 mk HF
    go_wp2_with fail
    go_loopw [8, 9] (fun v8 v9 wr => ∃ j : Nat, j ≤ 0 ∧ v9 = .int .i64 (0 - 1 - (j : Int)) ∧ Hid (OwnB w wr v8 (oc8 fv :: (tailL 0 n).take j))) (fun _ v9 _ => (intOf v9 + 1).toNat)
    case atStart => exact ⟨0, Nat.zero_le _, rfl, hcut⟩
    case round =>
      obtain ⟨j, hj, rfl, hst⟩ := hrel
      clear hcut
      obtain rfl : j = 0 := by omega
      · go_wp2_with fail
        go_ret2
        exact ⟨_, rfl, hst.out⟩
set_option maxRecDepth 10000 in
set_option maxHeartbeats 4000000 in
theorem put_1 (o d s n k : Int) (w : World) (hok : okI o d s n) (hk : inn k 0 65535) (ho1 : o ≠ 1) (hn : ¬ near o) (hrb : rB o s = 1) :
    Calls Try.prog 5 #[vI o d s n, .int .i64 k] w fun e w' => ∃ v, e = .returned (.tuple #[v, .int .i64 (putE o d s n k)]) ∧ OwnB w w' v (putL o d s n k) := by
  have he : ∀ args w, (callFunc 16 args).run Try.prog w = .ok (.enter 16 args) w := enters_of Try.func16 (by kernel_rfl) rfl
  have HT := hid (fun a b w => between_any a b w)
  have HR := hid (fun w => Right_any o d s n w)
  have HL := hid (fun w => Length_any o d s n w)
  have HN := hid (fun w => near_any o w)
  have HF := hid (fun w => first_of o d s n w hok)
  have hf := first_in hok
  rw [show rightE o d s n = 0 from if_pos hok] at HR
  rw [show lenI o d s n = 1 + rB o s from if_pos hok, hrb, show (1 : Int) + 1 = 2 from rfl] at HL
  have pe : putE o d s n k = 0 := by unfold putE; rw [if_pos hok, if_pos hk, if_neg (fun h => hn h.1)]
  have pl : putL o d s n k = oc8 (firstV o d s) :: tailL 1 (bhP o s n k) := by unfold putL; rw [if_pos pe, hrb]
  rw [(show bhP o s n k = n by unfold bhP; rw [if_neg ho1, if_neg hn])] at pl
  rw [pe, pl]
  have hA := hid (decide_eq_true hk)
  have hb1 : (o == 1) = false := by simp only [beq_eq_false_iff_ne, ne_eq]; omega
  have hdn : decide (near o) = false := decide_eq_false hn
  obtain ⟨fv, hfv⟩ : ∃ fv, firstV o d s = fv := ⟨_, rfl⟩
  rw [hfv] at hf HF ⊢
  have mk := mk2
  clear pe pl hok hk hrb ho1 hn hfv
  unfold vI at HR HL HF
  unfold vI
  go_enter Try.func5, Try.ntmps5
  go_wp2_with fail
  refine (HR.out _).mono ?_
  rintro r w1 ⟨rfl, b1⟩
  obtain ⟨bx1, b2⟩ := bx_on b1
  have BX1 := hid bx1
  have B1 := hid b2
  clear b1 b2 bx1
  try dsimp only
  go_wp2_with fail
  refine (HT.out 0 65535 _).mono ?_
  rintro r w2 ⟨f, rfl, ⟨u2, v2, rfl, z2, y2⟩, b2⟩
  have BX2 := hid (BX1.out.below b2)
  have B2 := hid (bel_on B1.out b2)
  have Au2 := hid (asks_T w2 u2 v2 0 65535 k true hA.out z2 y2)
  clear b2 z2 y2
  try dsimp only
  go_wp2_with fail
  refine Au2.out.mono ?_
  rintro r wx ⟨rfl, rfl⟩
  try dsimp only
  have bx := BX2.out
  obtain ⟨c0, c1, c2, c3⟩ := bx
  go_wp2_with fail
  refine (HL.out _).mono ?_
  rintro r w3 ⟨rfl, b3⟩
  have BX3 := hid (BX2.out.below b3)
  have B3 := hid (bel_on B2.out b3)
  clear b3 c0 c1 c2 c3
  obtain ⟨c0, c1, c2, c3⟩ := BX3.out
  go_wp2_with fail
  refine (HN.out _).mono ?_
  rw [hdn]
  rintro r wx ⟨rfl, rfl⟩
  go_upto_region 13 with fail
  have BX := hid (BX3.out.below (Below.refl _ wx).drew)
  have BW := hid B3.out
  have Z1 := hid (BX3.out.below ((Below.refl _ wx).alloc (Nat.le_refl _) (.cells #[.int .u8 0, .int .u8 0] 5)))
  clear c0 c1 c2 c3
  go_cut [8] (fun v wx => Hid (OwnB w wx v [oc8 fv]))
  case first =>
    obtain ⟨c0, c1, c2, c3⟩ := BX3.out
    obtain ⟨d0, d1, d2, d3⟩ := Z1.out
    obtain ⟨f0, f1, f2, f3⟩ := BX.out
    go_region_law (first
      | (go_simp; go_at_call 13; (refine (HF.out _).mono ?_); rintro r W2 ⟨rfl, b2⟩; have Q2 := hid b2; clear b2)
      | (refine step_append_b rfl (.tmp 41) (.tmp 44) rfl w _ w.heap.size _ 0 [] rfl (ord1 BW.out (rfl : (#[.int .u8 0, .int .u8 0] : Array Value).size = 2) (by decide) hf Q2.out).1 _ 1 1 [oc8 fv] rfl (ord1 BW.out (rfl : (#[.int .u8 0, .int .u8 0] : Array Value).size = 2) (by decide) hf Q2.out).2.1 (by decide) (ord1 BW.out (rfl : (#[.int .u8 0, .int .u8 0] : Array Value).size = 2) (by decide) hf Q2.out).2.2 (Nat.le_refl _) ?_; intro v3 W3 ho3 hb3)
      | (refine step_append_b rfl (.tmp 41) (.tmp 44) rfl w _ w.heap.size _ 0 [] rfl (ord2 BW.out (rfl : (#[.int .u8 0, .int .u8 0] : Array Value).size = 2) (by decide) hf Q2.out).1 _ 1 1 [oc8 fv] rfl (ord2 BW.out (rfl : (#[.int .u8 0, .int .u8 0] : Array Value).size = 2) (by decide) hf Q2.out).2.1 (by decide) (ord2 BW.out (rfl : (#[.int .u8 0, .int .u8 0] : Array Value).size = 2) (by decide) hf Q2.out).2.2 (Nat.le_refl _) ?_; intro v3 W3 ho3 hb3)
      | (refine step_append_b rfl (.tmp 41) (.tmp 44) rfl w _ w.heap.size _ 0 [] rfl (ord3 BW.out (rfl : (#[.int .u8 0, .int .u8 0] : Array Value).size = 2) (by decide) hf Q2.out).1 _ 1 1 [oc8 fv] rfl (ord3 BW.out (rfl : (#[.int .u8 0, .int .u8 0] : Array Value).size = 2) (by decide) hf Q2.out).2.1 (by decide) (ord3 BW.out (rfl : (#[.int .u8 0, .int .u8 0] : Array Value).size = 2) (by decide) hf Q2.out).2.2 (Nat.le_refl _) ?_; intro v3 W3 ho3 hb3))
    all_goals
      go_wp2_with fail
      go_meet
      case rel => exact ⟨ho3.out, hb3.out⟩
  case rest =>
    clear BX Z1 mk HF
    go_wp2_with fail
    go_loopw [8, 9] (fun v8 v9 wr => ∃ j : Nat, j ≤ 1 ∧ v9 = .int .i64 (1 - 1 - (j : Int)) ∧ Hid (OwnB w wr v8 (oc8 fv :: (tailL 1 n).take j))) (fun _ v9 _ => (intOf v9 + 1).toNat)
    case atStart => exact ⟨0, Nat.zero_le _, rfl, hcut⟩
    case round =>
      obtain ⟨j, hj, rfl, hst⟩ := hrel
      clear hcut
      rcases (by omega : j = 0 ∨ j = 1) with rfl | rfl
      · obtain ⟨z, hz⟩ : ∃ z : Nat, n % 256 = (z : Int) := ⟨(n % 256).toNat, by omega⟩
        have hzl : z < 256 := by omega
        have hnx := hid (show (oc8 fv :: (tailL 1 n).take 0) ++ [UInt8.ofNat z] = oc8 fv :: (tailL 1 n).take 1 by simp [tailL, oc8, hz])
        have hL := hid (show (oc8 fv :: (tailL 1 n).take 0).length ≤ 1000000 by simp [tailL])
        go_wp2_with (at_builtin; go_loud (refine wpList_app1 rfl (.tmp 52) (.tmp 58) rfl w wr _ (oc8 fv :: (tailL 1 n).take 0) z rfl rfl hst.out hL.out hzl ?_); intro v2 W2 hv2)
        rw [hnx.out] at hv2
        go_roundw
        case rel => exact ⟨1, by omega, by go_num, hv2⟩
        case measure => simp [intOf]
      · go_wp2_with fail
        go_ret2
        exact ⟨_, rfl, hst.out⟩
set_option maxRecDepth 10000 in
set_option maxHeartbeats 4000000 in
theorem put_2 (o d s n k : Int) (w : World) (hok : okI o d s n) (hk : inn k 0 65535) (ho1 : o ≠ 1) (hn : ¬ near o) (hrb : rB o s = 2) :
    Calls Try.prog 5 #[vI o d s n, .int .i64 k] w fun e w' => ∃ v, e = .returned (.tuple #[v, .int .i64 (putE o d s n k)]) ∧ OwnB w w' v (putL o d s n k) := by
  have he : ∀ args w, (callFunc 16 args).run Try.prog w = .ok (.enter 16 args) w := enters_of Try.func16 (by kernel_rfl) rfl
  have HT := hid (fun a b w => between_any a b w)
  have HR := hid (fun w => Right_any o d s n w)
  have HL := hid (fun w => Length_any o d s n w)
  have HN := hid (fun w => near_any o w)
  have HF := hid (fun w => first_of o d s n w hok)
  have hf := first_in hok
  rw [show rightE o d s n = 0 from if_pos hok] at HR
  rw [show lenI o d s n = 1 + rB o s from if_pos hok, hrb, show (1 : Int) + 2 = 3 from rfl] at HL
  have pe : putE o d s n k = 0 := by unfold putE; rw [if_pos hok, if_pos hk, if_neg (fun h => hn h.1)]
  have pl : putL o d s n k = oc8 (firstV o d s) :: tailL 2 (bhP o s n k) := by unfold putL; rw [if_pos pe, hrb]
  rw [(show bhP o s n k = n by unfold bhP; rw [if_neg ho1, if_neg hn])] at pl
  rw [pe, pl]
  have hA := hid (decide_eq_true hk)
  have hb1 : (o == 1) = false := by simp only [beq_eq_false_iff_ne, ne_eq]; omega
  have hdn : decide (near o) = false := decide_eq_false hn
  obtain ⟨fv, hfv⟩ : ∃ fv, firstV o d s = fv := ⟨_, rfl⟩
  rw [hfv] at hf HF ⊢
  have mk := mk3
  clear pe pl hok hk hrb ho1 hn hfv
  unfold vI at HR HL HF
  unfold vI
  go_enter Try.func5, Try.ntmps5
  go_wp2_with fail
  refine (HR.out _).mono ?_
  rintro r w1 ⟨rfl, b1⟩
  obtain ⟨bx1, b2⟩ := bx_on b1
  have BX1 := hid bx1
  have B1 := hid b2
  clear b1 b2 bx1
  try dsimp only
  go_wp2_with fail
  refine (HT.out 0 65535 _).mono ?_
  rintro r w2 ⟨f, rfl, ⟨u2, v2, rfl, z2, y2⟩, b2⟩
  have BX2 := hid (BX1.out.below b2)
  have B2 := hid (bel_on B1.out b2)
  have Au2 := hid (asks_T w2 u2 v2 0 65535 k true hA.out z2 y2)
  clear b2 z2 y2
  try dsimp only
  go_wp2_with fail
  refine Au2.out.mono ?_
  rintro r wx ⟨rfl, rfl⟩
  try dsimp only
  have bx := BX2.out
  obtain ⟨c0, c1, c2, c3⟩ := bx
  go_wp2_with fail
  refine (HL.out _).mono ?_
  rintro r w3 ⟨rfl, b3⟩
  have BX3 := hid (BX2.out.below b3)
  have B3 := hid (bel_on B2.out b3)
  clear b3 c0 c1 c2 c3
  obtain ⟨c0, c1, c2, c3⟩ := BX3.out
  go_wp2_with fail
  refine (HN.out _).mono ?_
  rw [hdn]
  rintro r wx ⟨rfl, rfl⟩
  go_upto_region 13 with fail
  have BX := hid (BX3.out.below (Below.refl _ wx).drew)
  have BW := hid B3.out
  have Z1 := hid (BX3.out.below ((Below.refl _ wx).alloc (Nat.le_refl _) (.cells #[.int .u8 0, .int .u8 0, .int .u8 0] 5)))
  clear c0 c1 c2 c3
  go_cut [8] (fun v wx => Hid (OwnB w wx v [oc8 fv]))
  case first =>
    obtain ⟨c0, c1, c2, c3⟩ := BX3.out
    obtain ⟨d0, d1, d2, d3⟩ := Z1.out
    obtain ⟨f0, f1, f2, f3⟩ := BX.out
    go_region_law (first
      | (go_simp; go_at_call 13; (refine (HF.out _).mono ?_); rintro r W2 ⟨rfl, b2⟩; have Q2 := hid b2; clear b2)
      | (refine step_append_b rfl (.tmp 41) (.tmp 44) rfl w _ w.heap.size _ 0 [] rfl (ord1 BW.out (rfl : (#[.int .u8 0, .int .u8 0, .int .u8 0] : Array Value).size = 3) (by decide) hf Q2.out).1 _ 1 1 [oc8 fv] rfl (ord1 BW.out (rfl : (#[.int .u8 0, .int .u8 0, .int .u8 0] : Array Value).size = 3) (by decide) hf Q2.out).2.1 (by decide) (ord1 BW.out (rfl : (#[.int .u8 0, .int .u8 0, .int .u8 0] : Array Value).size = 3) (by decide) hf Q2.out).2.2 (Nat.le_refl _) ?_; intro v3 W3 ho3 hb3)
      | (refine step_append_b rfl (.tmp 41) (.tmp 44) rfl w _ w.heap.size _ 0 [] rfl (ord2 BW.out (rfl : (#[.int .u8 0, .int .u8 0, .int .u8 0] : Array Value).size = 3) (by decide) hf Q2.out).1 _ 1 1 [oc8 fv] rfl (ord2 BW.out (rfl : (#[.int .u8 0, .int .u8 0, .int .u8 0] : Array Value).size = 3) (by decide) hf Q2.out).2.1 (by decide) (ord2 BW.out (rfl : (#[.int .u8 0, .int .u8 0, .int .u8 0] : Array Value).size = 3) (by decide) hf Q2.out).2.2 (Nat.le_refl _) ?_; intro v3 W3 ho3 hb3)
      | (refine step_append_b rfl (.tmp 41) (.tmp 44) rfl w _ w.heap.size _ 0 [] rfl (ord3 BW.out (rfl : (#[.int .u8 0, .int .u8 0, .int .u8 0] : Array Value).size = 3) (by decide) hf Q2.out).1 _ 1 1 [oc8 fv] rfl (ord3 BW.out (rfl : (#[.int .u8 0, .int .u8 0, .int .u8 0] : Array Value).size = 3) (by decide) hf Q2.out).2.1 (by decide) (ord3 BW.out (rfl : (#[.int .u8 0, .int .u8 0, .int .u8 0] : Array Value).size = 3) (by decide) hf Q2.out).2.2 (Nat.le_refl _) ?_; intro v3 W3 ho3 hb3))
    all_goals
      go_wp2_with fail
      go_meet
      case rel => exact ⟨ho3.out, hb3.out⟩
  case rest =>
    clear BX Z1 mk HF
    go_wp2_with fail
    go_loopw [8, 9] (fun v8 v9 wr => ∃ j : Nat, j ≤ 2 ∧ v9 = .int .i64 (2 - 1 - (j : Int)) ∧ Hid (OwnB w wr v8 (oc8 fv :: (tailL 2 n).take j))) (fun _ v9 _ => (intOf v9 + 1).toNat)
    case atStart => exact ⟨0, Nat.zero_le _, rfl, hcut⟩
    case round =>
      obtain ⟨j, hj, rfl, hst⟩ := hrel
      clear hcut
      rcases (by omega : j = 0 ∨ j = 1 ∨ j = 2) with rfl | rfl | rfl
      · obtain ⟨z, hz⟩ : ∃ z : Nat, n / 256 % 256 = (z : Int) := ⟨(n / 256 % 256).toNat, by omega⟩
        have hzl : z < 256 := by omega
        have hnx := hid (show (oc8 fv :: (tailL 2 n).take 0) ++ [UInt8.ofNat z] = oc8 fv :: (tailL 2 n).take 1 by simp [tailL, oc8, hz])
        have hL := hid (show (oc8 fv :: (tailL 2 n).take 0).length ≤ 1000000 by simp [tailL])
        go_wp2_with (at_builtin; go_loud (refine wpList_app1 rfl (.tmp 52) (.tmp 58) rfl w wr _ (oc8 fv :: (tailL 2 n).take 0) z rfl rfl hst.out hL.out hzl ?_); intro v2 W2 hv2)
        rw [hnx.out] at hv2
        go_roundw
        case rel => exact ⟨1, by omega, by go_num, hv2⟩
        case measure => simp [intOf]
      · obtain ⟨z, hz⟩ : ∃ z : Nat, n % 256 = (z : Int) := ⟨(n % 256).toNat, by omega⟩
        have hzl : z < 256 := by omega
        have hnx := hid (show (oc8 fv :: (tailL 2 n).take 1) ++ [UInt8.ofNat z] = oc8 fv :: (tailL 2 n).take 2 by simp [tailL, oc8, hz])
        have hL := hid (show (oc8 fv :: (tailL 2 n).take 1).length ≤ 1000000 by simp [tailL])
        go_wp2_with (at_builtin; go_loud (refine wpList_app1 rfl (.tmp 52) (.tmp 58) rfl w wr _ (oc8 fv :: (tailL 2 n).take 1) z rfl rfl hst.out hL.out hzl ?_); intro v2 W2 hv2)
        rw [hnx.out] at hv2
        go_roundw
        case rel => exact ⟨2, by omega, by go_num, hv2⟩
        case measure => simp [intOf]
      · go_wp2_with fail
        go_ret2
        exact ⟨_, rfl, hst.out⟩
/-- Put. -/
theorem Put_any (o d s n k : Int) (w : World) : Calls Try.prog 5 #[vI o d s n, .int .i64 k] w fun e w' => ∃ v, e = .returned (.tuple #[v, .int .i64 (putE o d s n k)]) ∧ OwnB w w' v (putL o d s n k) := by
  by_cases hok : okI o d s n
  · by_cases hk : inn k 0 65535
    · by_cases h1 : o = 1
      · subst h1; exact put_set d s n k w hok hk
      by_cases hn : near o
      · by_cases hj : inn (n - (k + 2)) (-128) 127
        · exact put_near o d s n k w hok hk hn hj
        · exact put_jump o d s n k w hok hk hn hj
      have hb := rB_in o s
      rcases (by omega : rB o s = 0 ∨ rB o s = 1 ∨ rB o s = 2) with e | e | e
      · exact put_0 o d s n k w hok hk h1 hn e
      · exact put_1 o d s n k w hok hk h1 hn e
      · exact put_2 o d s n k w hok hk h1 hn e
    · exact put_far o d s n k w hok hk
  · exact put_bad o d s n k w hok
end Go.Proofs.Ytlcihljpniejeaa
