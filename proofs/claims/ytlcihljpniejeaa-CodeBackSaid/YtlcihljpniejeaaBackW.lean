/-
  The walk of CodeBack.
-/
import Derived.Test.YtlcihljpniejeaaAwk
namespace Go.Proofs.Ytlcihljpniejeaa
open Go.RowKit

/-- What was put, and what stands ahead of it. -/
theorem put_facts (o d s n : Int) (k : Nat) (hk : k ≤ 1000) (he : putE o d s n k = 0) : ∃ (X : List UInt8) (m : Nat), putL o d s n k = X ∧ X.length = m ∧ m ≤ 3 ∧ lenI o d s n = (m : Int) ∧ Hid (getR (List.replicate k 0 ++ X) k = ⟨o, d, s, n, ((k + m : Nat) : Int), 0⟩) := by
  have h1 := put_len o d s n k he
  have h2 := get_put o d s n k hk he
  have h3 : lenI o d s n ≤ 3 := by
    unfold lenI
    have := rB_in o s
    split <;> omega
  refine ⟨_, (putL o d s n k).length, rfl, rfl, by omega, h1.symm, hid ?_⟩
  rw [h2]
  congr 1
  omega
theorem zeros_bv (k : Nat) : (madeCells (Value.int .u8 0).cells (k * 1)).toList = (List.replicate k (0 : UInt8)).map bv := by
  rw [made_cells, List.map_replicate]
  rfl
set_option maxRecDepth 10000 in
set_option maxHeartbeats 8000000 in
theorem back_walk (o d s n k0 : Int) (A : Option Addr) (N c : Nat) (l : List UInt8) (w : World) (h : N ≤ 2000 → IsBB w w.heap.size A N c l) :
    Calls Try.prog 3 #[vI o d s n, .int .i64 k0, .slice A N c] w fun e w' => e = .returned (.bool true) ∧ Below w.heap.size w w' := by
  obtain ⟨i0, hi, hz0, hz1, hz2⟩ := info_parts Try.info5
  have H := hid h
  have HP := hid (fun o d s n k w => Put_any o d s n k w)
  have HG := hid (fun A n c l w h k => Get_any A n c l w h k)
  have HR := hid (fun o d s n w => Right_any o d s n w)
  have HL := hid (fun o d s n w => Length_any o d s n w)
  have HS := hid (fun A B l n c d w h1 h2 => SameBytes_true A B l n c d w h1 h2)
  obtain ⟨k, hk, hpk⟩ := pick_of k0 (w.alloc (.cells #[.int .u8 o, .int .i64 d, .int .i64 s, .int .i64 n] 24))
  have PK := hid hpk
  clear hpk h
  unfold vI at HP HR HL
  unfold vI
  go_enter Try.func3, Try.ntmps3
  go_wp2_with fail
  refine PK.out.mono ?_
  rintro r w0 ⟨rfl, rfl⟩
  try dsimp only
  go_wp2_with fail
  refine (HP.out o d s n k _).mono ?_
  rintro r w1 ⟨v, rfl, ow⟩
  obtain ⟨bx, b1⟩ := bx_on ow.bel
  obtain ⟨er, her⟩ : ∃ er, putE o d s n k = er := ⟨_, rfl⟩
  rw [her]
  by_cases he : er = 0
  case neg =>
    have BW : Hid (Below w.heap.size w w1) := hid b1
    have hb : (er == 0) = false := by simp only [beq_eq_false_iff_ne, ne_eq]; exact he
    clear ow bx b1 he her PK
    try dsimp only
    go_wp2_with fail
    go_loopw [12] (fun v12 wr => ∃ j : Nat, j ≤ N ∧ v12 = .int .i64 (j : Nat) ∧ Hid (Below w.heap.size w wr)) (fun v12 _ => N - (intOf v12).toNat)
    case atStart => exact ⟨0, Nat.zero_le _, rfl, BW⟩
    case round =>
      obtain ⟨j, hj, rfl, hbw⟩ := hrel
      clear BW
      by_cases hlt : j < N ∧ N ≤ 2000
      · obtain ⟨l1, l2⟩ := hlt
        have l1z : (j : Int) < (N : Int) := by omega
        have l2z : (N : Int) ≤ 2000 := by omega
        have HH := hid (H.out l2)
        have hll := HH.out.len
        have IB := hid (HH.out.on hbw.out)
        obtain ⟨g, hg⟩ : ∃ g, getR l j = g := ⟨_, rfl⟩
        have PG := put_get l j
        rw [hg] at PG
        have HLT := hid (And.intro l1 l2)
        clear l1 l2 hj hll
        go_wp2_with fail
        refine (HG.out A N c l _ IB.out j).mono ?_
        rw [hg]
        rintro r w2 ⟨rfl, b2⟩
        unfold vG vI
        have BW2 := hid (bel_on hbw.out b2)
        have IB2 := hid (IB.out.on b2)
        clear b2 IB hbw hg
        try dsimp only
        by_cases hge : g.err = 0
        case neg =>
          have hgb : (g.err != 0) = true := by simp only [bne_iff_ne, ne_eq]; exact hge
          have BW3 := hid (BW2.out.alloc BW2.out.size (.cells #[.int .u8 g.o, .int .i64 g.d, .int .i64 g.s, .int .i64 g.n] 24))
          clear PG hge IB2 BW2
          go_wp2_with fail
          go_roundw
          case rel => exact ⟨j + 1, by have := HLT.out; omega, by go_num, BW3⟩
          case measure => have := HLT.out; simp [intOf]; omega
        case pos =>
          obtain ⟨q1, q2, q3, m, q4, q5, q6⟩ := PG hge
          clear PG
          rw [HH.out.len] at q3 q5
          obtain ⟨X, hX⟩ : ∃ X, putL g.o g.d g.s g.n j = X := ⟨_, rfl⟩
          rw [hX] at q6
          have hXm : X.length = m := by rw [q6, List.length_take, List.length_drop, HH.out.len]; omega
          obtain ⟨e, he⟩ : ∃ e : Nat, j + m = e := ⟨_, rfl⟩
          rw [he] at q4
          have hgr : rightE g.o g.d g.s g.n = 0 := if_pos q2
          have IB3 := hid (IB2.out.on ((Below.refl _ w2).alloc (Nat.le_refl _) (.cells #[.int .u8 g.o, .int .i64 g.d, .int .i64 g.s, .int .i64 g.n] 24)))
          have BW3 := hid (BW2.out.alloc BW2.out.size (.cells #[.int .u8 g.o, .int .i64 g.d, .int .i64 g.s, .int .i64 g.n] 24))
          obtain ⟨go, gd, gs, gn, ge, gerr⟩ := g
          dsimp only at *
          subst hge
          subst q4
          have bx := bx_made w2 go gd gs gn
          have Q6 := hid q6
          have QN := hid (And.intro he (And.intro q3 q5))
          clear IB2 BW2 q2 q6 he q3 q5
          go_wp2_with fail
          refine (HP.out go gd gs gn j _).mono ?_
          rw [q1, hX]
          rintro r w3 ⟨v3, rfl, o3⟩
          obtain ⟨A3, c3, rfl, l3⟩ := o3.lst (by have := QN.out; have := HLT.out; omega)
          rw [hXm]
          have BX3 := hid (bx.below l3.bel)
          have IB4 := hid (IB3.out.on l3.bel)
          have BW4 := hid (bel_on BW3.out l3.bel)
          have L3 : Hid (IsBB w3 w3.heap.size A3 m c3 X) := hid (by have q := l3.is; rw [hXm] at q; exact q)
          clear o3 l3 bx IB3 BW3 q1 hX
          obtain ⟨c0, c1, c2, c4⟩ := BX3.out
          try dsimp only
          go_wp2_with fail
          refine (HR.out go gd gs gn _).mono ?_
          rw [hgr]
          rintro r w4 ⟨rfl, b4⟩
          have IB5 := hid (IB4.out.on b4)
          have L4 := hid (L3.out.on b4)
          have BW5 := hid (bel_on BW4.out b4)
          clear b4 IB4 L3 BW4 BX3 c0 c1 c2 c4
          obtain ⟨A4, hsl, h4⟩ := slice_part IB5.out j e (by have := QN.out; omega) (by have := QN.out; omega)
          rw [show e - j = m by have := QN.out; omega, ← Q6.out] at h4
          rw [show e - j = m by have := QN.out; omega] at hsl
          have SM := hid (HS.out A3 A4 X m c3 (c - j) w4 L4.out.toIsB h4.toIsB)
          have hje : j ≤ e := by have := QN.out; omega
          have heN : e ≤ N := by have := QN.out; omega
          have hNc : N ≤ c := HH.out.cap
          try dsimp only
          go_wp2_with fail
          refine SM.out.mono ?_
          rintro r w5 ⟨rfl, q, hq⟩
          have BW6 := hid (by rw [hq]; exact below_drewN BW5.out q : Below w.heap.size w w5)
          clear hq BW5 SM IB5 L4 h4
          try dsimp only
          go_wp2_with fail
          go_roundw
          case rel => exact ⟨j + 1, by have := HLT.out; omega, by go_num, BW6⟩
          case measure => have := HLT.out; simp [intOf]; omega
      · have hex : ((N : Int) ≤ (j : Int)) ∨ ((j : Int) < (N : Int) ∧ ¬ (N : Int) ≤ 2000) := by omega
        rcases hex with hx | ⟨hx1, hx2⟩
        · clear hlt hj
          go_wp2_with fail
          refine (awake_any _).mono ?_
          rintro r w6 ⟨rfl, b6⟩
          have B6 := hid (bel_on hbw.out b6)
          try dsimp only
          go_wp2_with fail
          go_ret
          exact ⟨rfl, B6.out⟩
        · have hx3 : decide ((N : Int) ≤ 2000) = false := decide_eq_false hx2
          have hx4 : decide (N ≤ 2000) = false := decide_eq_false (by omega)
          clear hlt hj hx2
          go_wp2_with fail
          refine (awake_any _).mono ?_
          rintro r w6 ⟨rfl, b6⟩
          have B6 := hid (bel_on hbw.out b6)
          try dsimp only
          go_wp2_with fail
          go_ret
          exact ⟨rfl, B6.out⟩
  case pos =>
    subst he
    obtain ⟨X, m, hX, hXm, hm3, hlen, hget⟩ := put_facts o d s n k hk her
    rw [hX] at ow
    obtain ⟨A1, c1, rfl, ls⟩ := ow.lst (by omega)
    rw [hXm]
    obtain ⟨c0, c1', c2, c3⟩ := bx
    have LS : Hid (∀ W, Below w1.heap.size w1 W → IsB W A1 m c1 X) := hid (fun W b => by have q := ((ls.below b).is).toIsB; rw [hXm] at q; exact q)
    have BX : Hid (Bx w1 w.heap.size o d s n) := hid ⟨c0, c1', c2, c3⟩
    have BW := hid b1
    clear ow ls b1 her hX c0 c1' c2 c3 PK
    obtain ⟨t, ht⟩ : ∃ t : Nat, k + m = t := ⟨_, rfl⟩
    rw [ht] at hget
    have e1 : (k : Int) + (m : Int) = (t : Int) := by omega
    have E2 := wr64 (t : Int) (by omega)
    have HT := hid ht
    clear ht
    try dsimp only
    go_wp2_with (first
      | (at_make; refine wpList_make_full _ rfl _ _ 25 rfl w1.heap.size 5 i0 (.int .u8 0) 1 Try.underlying25 hi hz0 hz1 _ _ _ _ k rfl rfl rfl rfl (by rw [hz2]; omega) (by unfold maxLen; omega) (Nat.le_refl _) ?_; intro w2 hown2 hgrow2; rw [zeros_bv] at hown2; have O2 := hid hown2; have B2 : Hid (Below w1.heap.size w1 w2) := hid ((Below.refl _ _).grown hgrow2 (Nat.le_refl _) (by simp)); clear hown2 hgrow2)
      | (at_builtin; (refine wpList_append_bytes rfl (.tmp 30) (.tmp 31) rfl w1.heap.size w1 _ k (List.replicate k 0) rfl O2.out A1 m c1 X rfl (LS.out _ B2.out) (by have := HT.out; omega) B2.out (Nat.le_refl _) ?_); intro v3 w3 ho3 hb3 hk3; clear hk3; obtain ⟨A3, c3, rfl, is3⟩ := own_isBB ho3.out (by have := hk; omega); have IS3 := hid is3; clear is3 ho3 O2 B2))
    refine (HG.out A3 (k + m) c3 _ _ IS3.out k).mono ?_
    rw [hget.out]
    rintro r w4 ⟨rfl, b4⟩
    have B4 := hid (bel_on hb3.out b4)
    have bx4 := (BX.out.below B4.out).below ((Below.refl _ w4).alloc (Nat.le_refl _) (.cells #[.int .u8 o, .int .i64 d, .int .i64 s, .int .i64 n] 24))
    obtain ⟨c0, c1', c2, c3'⟩ := bx4
    have BW4 := hid (bel_on (bel_on BW.out B4.out) ((Below.refl _ w4).alloc (Nat.le_refl _) (.cells #[.int .u8 o, .int .i64 d, .int .i64 s, .int .i64 n] 24)))
    have e2 := E2.out
    clear b4 B4 IS3 BW BX LS hget hb3
    unfold vG vI
    try dsimp only
    go_wp2_with fail
    refine (HL.out o d s n _).mono ?_
    rw [hlen]
    rintro r w5 ⟨rfl, b5⟩
    have BW := hid (bel_on BW4.out b5)
    clear b5 BW4 c0 c1' c2 c3' hlen e1 e2 E2 hXm hm3 hk
    try dsimp only
    go_wp2_with fail
    go_loopw [12] (fun v12 wr => ∃ j : Nat, j ≤ N ∧ v12 = .int .i64 (j : Nat) ∧ Hid (Below w.heap.size w wr)) (fun v12 _ => N - (intOf v12).toNat)
    case atStart => exact ⟨0, Nat.zero_le _, rfl, BW⟩
    case round =>
      obtain ⟨j, hj, rfl, hbw⟩ := hrel
      clear BW
      by_cases hlt : j < N ∧ N ≤ 2000
      · obtain ⟨l1, l2⟩ := hlt
        have l1z : (j : Int) < (N : Int) := by omega
        have l2z : (N : Int) ≤ 2000 := by omega
        have HH := hid (H.out l2)
        have hll := HH.out.len
        have IB := hid (HH.out.on hbw.out)
        obtain ⟨g, hg⟩ : ∃ g, getR l j = g := ⟨_, rfl⟩
        have PG := put_get l j
        rw [hg] at PG
        have HLT := hid (And.intro l1 l2)
        clear l1 l2 hj hll
        go_wp2_with fail
        refine (HG.out A N c l _ IB.out j).mono ?_
        rw [hg]
        rintro r w2 ⟨rfl, b2⟩
        unfold vG vI
        have BW2 := hid (bel_on hbw.out b2)
        have IB2 := hid (IB.out.on b2)
        clear b2 IB hbw hg
        try dsimp only
        by_cases hge : g.err = 0
        case neg =>
          have hgb : (g.err != 0) = true := by simp only [bne_iff_ne, ne_eq]; exact hge
          have BW3 := hid (BW2.out.alloc BW2.out.size (.cells #[.int .u8 g.o, .int .i64 g.d, .int .i64 g.s, .int .i64 g.n] 24))
          clear PG hge IB2 BW2
          go_wp2_with fail
          go_roundw
          case rel => exact ⟨j + 1, by have := HLT.out; omega, by go_num, BW3⟩
          case measure => have := HLT.out; simp [intOf]; omega
        case pos =>
          obtain ⟨q1, q2, q3, m, q4, q5, q6⟩ := PG hge
          clear PG
          rw [HH.out.len] at q3 q5
          obtain ⟨X, hX⟩ : ∃ X, putL g.o g.d g.s g.n j = X := ⟨_, rfl⟩
          rw [hX] at q6
          have hXm : X.length = m := by rw [q6, List.length_take, List.length_drop, HH.out.len]; omega
          obtain ⟨e, he⟩ : ∃ e : Nat, j + m = e := ⟨_, rfl⟩
          rw [he] at q4
          have hgr : rightE g.o g.d g.s g.n = 0 := if_pos q2
          have IB3 := hid (IB2.out.on ((Below.refl _ w2).alloc (Nat.le_refl _) (.cells #[.int .u8 g.o, .int .i64 g.d, .int .i64 g.s, .int .i64 g.n] 24)))
          have BW3 := hid (BW2.out.alloc BW2.out.size (.cells #[.int .u8 g.o, .int .i64 g.d, .int .i64 g.s, .int .i64 g.n] 24))
          obtain ⟨go, gd, gs, gn, ge, gerr⟩ := g
          dsimp only at *
          subst hge
          subst q4
          have bx := bx_made w2 go gd gs gn
          have Q6 := hid q6
          have QN := hid (And.intro he (And.intro q3 q5))
          clear IB2 BW2 q2 q6 he q3 q5
          go_wp2_with fail
          refine (HP.out go gd gs gn j _).mono ?_
          rw [q1, hX]
          rintro r w3 ⟨v3, rfl, o3⟩
          obtain ⟨A3, c3, rfl, l3⟩ := o3.lst (by have := QN.out; have := HLT.out; omega)
          rw [hXm]
          have BX3 := hid (bx.below l3.bel)
          have IB4 := hid (IB3.out.on l3.bel)
          have BW4 := hid (bel_on BW3.out l3.bel)
          have L3 : Hid (IsBB w3 w3.heap.size A3 m c3 X) := hid (by have q := l3.is; rw [hXm] at q; exact q)
          clear o3 l3 bx IB3 BW3 q1 hX
          obtain ⟨c0, c1, c2, c4⟩ := BX3.out
          try dsimp only
          go_wp2_with fail
          refine (HR.out go gd gs gn _).mono ?_
          rw [hgr]
          rintro r w4 ⟨rfl, b4⟩
          have IB5 := hid (IB4.out.on b4)
          have L4 := hid (L3.out.on b4)
          have BW5 := hid (bel_on BW4.out b4)
          clear b4 IB4 L3 BW4 BX3 c0 c1 c2 c4
          obtain ⟨A4, hsl, h4⟩ := slice_part IB5.out j e (by have := QN.out; omega) (by have := QN.out; omega)
          rw [show e - j = m by have := QN.out; omega, ← Q6.out] at h4
          rw [show e - j = m by have := QN.out; omega] at hsl
          have SM := hid (HS.out A3 A4 X m c3 (c - j) w4 L4.out.toIsB h4.toIsB)
          have hje : j ≤ e := by have := QN.out; omega
          have heN : e ≤ N := by have := QN.out; omega
          have hNc : N ≤ c := HH.out.cap
          try dsimp only
          go_wp2_with fail
          refine SM.out.mono ?_
          rintro r w5 ⟨rfl, q, hq⟩
          have BW6 := hid (by rw [hq]; exact below_drewN BW5.out q : Below w.heap.size w w5)
          clear hq BW5 SM IB5 L4 h4
          try dsimp only
          go_wp2_with fail
          go_roundw
          case rel => exact ⟨j + 1, by have := HLT.out; omega, by go_num, BW6⟩
          case measure => have := HLT.out; simp [intOf]; omega
      · have hex : ((N : Int) ≤ (j : Int)) ∨ ((j : Int) < (N : Int) ∧ ¬ (N : Int) ≤ 2000) := by omega
        rcases hex with hx | ⟨hx1, hx2⟩
        · clear hlt hj
          go_wp2_with fail
          refine (awake_any _).mono ?_
          rintro r w6 ⟨rfl, b6⟩
          have B6 := hid (bel_on hbw.out b6)
          try dsimp only
          go_wp2_with fail
          go_ret
          exact ⟨rfl, B6.out⟩
        · have hx3 : decide ((N : Int) ≤ 2000) = false := decide_eq_false hx2
          have hx4 : decide (N ≤ 2000) = false := decide_eq_false (by omega)
          clear hlt hj hx2
          go_wp2_with fail
          refine (awake_any _).mono ?_
          rintro r w6 ⟨rfl, b6⟩
          have B6 := hid (bel_on hbw.out b6)
          try dsimp only
          go_wp2_with fail
          go_ret
          exact ⟨rfl, B6.out⟩
end Go.Proofs.Ytlcihljpniejeaa
