/-
  ModelBack's walk: what is small.
-/
import Derived.Test.YtnanmdfbgoahjaaMbk
import Derived.Deep.CutRange
import Derived.Deep.CutBlock
namespace Go.Proofs.Ytnanmdfbgoahjaa
open Go.RowKit

/-- A model, its block, and bytes beside it, below the call's own memory. -/
structure MbAt (w0 W : World) (xm : Nat) (x : Md) (P C Q : Sl) (Ba : Option Addr) (t Bc : Nat) (l : List UInt8) : Prop where
  md : MdAt W w0.heap.size x P C Q
  by_ : IsBB W w0.heap.size Ba t Bc l
  row : W.heap[xm]? = some (.cells #[.int .i64 x.h, .int .i64 x.m, .int .i64 x.ph, .int .i64 x.pm, .slice P.a x.parts.length P.c, .slice C.a x.code.length C.c, .slice Q.a x.post.length Q.c] 25 (0, 0))
  bel : Below w0.heap.size w0 W
section
variable {w0 W W' : World} {xm : Nat} {x : Md} {P C Q : Sl} {Ba : Option Addr} {t Bc : Nat} {l : List UInt8}
theorem MbAt.on (h : MbAt w0 W xm x P C Q Ba t Bc l) (k : Below W.heap.size W W') : MbAt w0 W' xm x P C Q Ba t Bc l :=
  ⟨h.md.below (k.mono h.bel.size), h.by_.below (k.mono h.bel.size), (k.block _ (lt_of_heap h.row)).trans h.row, h.bel.trans (k.mono h.bel.size)⟩
theorem isP_up {B B' : Nat} {A : Option Addr} {n c : Nat} {L : List Pt} (h : IsP W B A n c L) (hB : B ≤ B') : IsP W B' A n c L := ⟨h.len, h.cap, h.max, fun h0 => by obtain ⟨ad, e, hl, ha⟩ := h.lies h0; exact ⟨ad, e, Nat.lt_of_lt_of_le hl hB, ha⟩⟩
theorem MbAt.up (h : MbAt w0 W xm x P C Q Ba t Bc l) : MdAt W W.heap.size x P C Q ∧ IsBB W W.heap.size Ba t Bc l :=
  ⟨⟨isP_up h.md.parts h.bel.size, isBB_up h.md.code h.bel.size, isBB_up h.md.post h.bel.size⟩, isBB_up h.by_ h.bel.size⟩
end
theorem get_err (A : Option Addr) (n c : Nat) (l : List UInt8) (er : Int) (hg : getM l = .error er) (w : World) (h : IsBB w w.heap.size A n c l) (hn : n ≤ 1000000) : Calls Try.prog 10 #[.slice A n c] w fun e w' => ¬ er = 0 ∧ e = .returned (.tuple #[.agg #[.int .i64 0, .int .i64 0, .int .i64 0, .int .i64 0, .slice none 0 0, .slice none 0 0, .slice none 0 0], .int .i64 0, .int .i64 er]) ∧ Below w.heap.size w w' :=
  (Get_any A n c l w h hn).mono fun e w' hp => by
    rcases hp with ⟨er', h0, h1, h2, h3⟩ | ⟨x, k, P, C, Q, h1, _⟩
    · rw [hg] at h1
      cases h1
      exact ⟨h0, h2, h3⟩
    · rw [hg] at h1; cases h1
theorem get_ok (A : Option Addr) (n c : Nat) (l : List UInt8) (y : Md) (k : Nat) (hg : getM l = .ok (y, k)) (w : World) (h : IsBB w w.heap.size A n c l) (hn : n ≤ 1000000) : Calls Try.prog 10 #[.slice A n c] w fun e w' => ∃ P C Q, e = .returned (.tuple #[vMd y P C Q, .int .i64 (k : Nat), .int .i64 0]) ∧ MdAt w' w'.heap.size y P C Q ∧ Below w.heap.size w w' :=
  (Get_any A n c l w h hn).mono fun e w' hp => by
    rcases hp with ⟨er', h0, h1, h2, h3⟩ | ⟨x, k, P, C, Q, h1, h2, h3, _, h5⟩
    · rw [hg] at h1; cases h1
    · rw [hg] at h1
      cases h1
      exact ⟨P, C, Q, h2, h3, h5⟩
theorem put_len (y : Md) (hr : y.right = 0) : y.put.length ≤ 9000 := by
  have h := putB_put y (right_vp y hr)
  obtain ⟨h1, h2, h3⟩ := md_six y hr
  rw [← h]
  unfold putB hdrB numsM
  have e1 := flat_len (fun n => nb n 1) 2 (fun n => nb_len n 1) [y.h, y.m, y.ph, y.pm, (y.parts.length : Int)]
  have e2 := flat_len prtB 10 prtB_len y.parts
  have e3 := nb_len (y.code.length : Nat) 2
  have e4 := nb_len (y.post.length : Nat) 2
  simp only [List.length_append]
  simp only [List.length_cons, List.length_nil] at e1
  omega
theorem put_ok (y : Md) (hr : y.right = 0) (w : World) (P C Q : Sl) (a : MdAt w w.heap.size y P C Q) : Calls Try.prog 8 #[vMd y P C Q] w fun e w' => ∃ A c, e = .returned (.tuple #[.slice A y.put.length c, .int .i64 0]) ∧ IsBB w' w'.heap.size A y.put.length c y.put ∧ Below w.heap.size w w' :=
  (Put_good w y P C Q a hr).mono fun _ _ ⟨v, e, ho, hb⟩ => by
    obtain ⟨A, c, rfl, _⟩ := own_slice ho
    exact ⟨A, c, e, own_isB2 ho (by have := put_len y hr; omega), hb⟩
/-- And the bytes of the model. -/
structure MpAt (w0 W : World) (xm : Nat) (x : Md) (P C Q : Sl) (Ba : Option Addr) (t Bc : Nat) (l : List UInt8) (A : Option Addr) (N c : Nat) (X : List UInt8) : Prop where
  mb : MbAt w0 W xm x P C Q Ba t Bc l
  xb : IsBB W W.heap.size A N c X
theorem MpAt.on {w0 W W' : World} {xm : Nat} {x : Md} {P C Q : Sl} {Ba : Option Addr} {t Bc : Nat} {l : List UInt8} {A : Option Addr} {N c : Nat} {X : List UInt8} (h : MpAt w0 W xm x P C Q Ba t Bc l A N c X) (k : Below W.heap.size W W') : MpAt w0 W' xm x P C Q Ba t Bc l A N c X := ⟨h.mb.on k, h.xb.on k⟩
/-- append of a list to one of the call's own, as an equation. -/
theorem run_own_app {w0 w : World} {v : Value} {X : List UInt8} (h : OwnB w0 w v X) (A : Option Addr) (m c : Nat) (l2 : List UInt8) (hB : IsB w A m c l2) (h48 : X.length + m ≤ 1000000) :
    ∃ A' n' c' w', (∀ ty, (Builtin.append_ #[23, 23] ty #[v, .slice A m c]).run Try.prog w = .ok (.slice A' n' c') w') ∧ n' ≤ 1000000 ∧ IsBB w' w'.heap.size A' n' c' (X ++ l2) ∧ Below w0.heap.size w0 w' := by
  have key : ∃ v' w', (∀ ty, (Builtin.append_ #[23, 23] ty #[v, .slice A m c]).run Try.prog w = .ok v' w') ∧ w'.ownsRow w0.heap.size 5 1 v' (X.length + m) ((X ++ l2).map bv) ∧ w.grownBy w' v.ownBlock := by
    rcases A with _ | ad
    · have hm : m = 0 := by
        rcases Nat.eq_zero_or_pos m with h0 | h0
        · exact h0
        · obtain ⟨ad, e, _⟩ := hB.lies (by rw [hB.len]; exact h0)
          cases e
      subst hm
      obtain rfl : l2 = [] := List.eq_nil_of_length_eq_zero hB.len
      exact ⟨v, w, fun ty => run_append_nilc c h.own, by simpa using h.own, World.grownBy.refl w _⟩
    · have hc : ∀ j u, (l2.map bv)[j]? = some u → w.cell? (ad.add j) = some u := by
        intro j u hu
        have hj : j < l2.length := by have e := (List.getElem?_eq_some_iff.1 hu).1; simpa using e
        obtain ⟨ad', e, hc⟩ := hB.lies (by omega)
        cases e
        rw [map_bv_getElem? l2 j hj] at hu
        cases hu
        exact hc j hj
      obtain ⟨v', w', hr, h2, h3, _, _⟩ := run_append_fresh (ty := 23) h.own ad m c (l2.map bv) (by rw [List.length_map, hB.len]) hc (bv_one l2) (by omega) h.bel.size
      exact ⟨v', w', fun ty => hr, by rw [List.map_append]; exact h2, h3⟩
  obtain ⟨v', w', hr, ho, hg⟩ := key
  obtain ⟨A', c', rfl, _⟩ := own_slice ho
  exact ⟨A', _, c', w', hr, h48, own_isB2 ho (by omega), h.bel.grown hg h.bel.size (fun q hq => (h.own.lt q hq).1)⟩
set_option maxRecDepth 10000 in
set_option maxHeartbeats 16000000 in
theorem Back_small (w : World) (x : Md) (P C Q : Sl) (Ba : Option Addr) (t Bc : Nat) (l : List UInt8) (a : MdAt w w.heap.size x P C Q) (b : IsBB w w.heap.size Ba t Bc l) (hn : x.parts.length ≤ 300) (hi : x.code.length ≤ 10000) (hj : x.post.length ≤ 10000) (ht : t ≤ 20000) :
    Calls Try.prog 4 #[vMd x P C Q, .slice Ba t Bc] w fun e w' => e = .returned (.bool true) ∧ Below w.heap.size w w' := by
  have HW := hid awake_any
  have HM : Hid (MbAt w (w.alloc (.cells #[.int .i64 x.h, .int .i64 x.m, .int .i64 x.ph, .int .i64 x.pm, .slice P.a x.parts.length P.c, .slice C.a x.code.length C.c, .slice Q.a x.post.length Q.c] 25)) w.heap.size x P C Q Ba t Bc l) := by
    have k := (Below.refl w.heap.size w).alloc (Nat.le_refl _) (.cells #[.int .i64 x.h, .int .i64 x.m, .int .i64 x.ph, .int .i64 x.pm, .slice P.a x.parts.length P.c, .slice C.a x.code.length C.c, .slice Q.a x.post.length Q.c] 25)
    exact ⟨a.below k, b.below k, heap_alloc_new w _, k⟩
  have hbc := b.cap
  have hbm := b.max
  have hbl := hid b.len
  have hpc := a.parts.cap
  have hpm := a.parts.max
  have hcc := a.code.cap
  have hcm := a.code.max
  have hqc := a.post.cap
  have hqm := a.post.max
  unfold maxLen at hbm hpm hcm hqm
  have z1 : ¬ (300 : Int) < (x.parts.length : Int) := by omega
  have z2 : ¬ (10000 : Int) < (x.code.length : Int) := by omega
  have z3 : ¬ (10000 : Int) < (x.post.length : Int) := by omega
  have z4 : ¬ (20000 : Int) < (t : Int) := by omega
  clear a b
  by_cases hr : x.right = 0
  · have hN9 := put_len x hr
    have hpg := hid (put_ok x hr)
    have hgt := hid (fun A n c => get_ok A n c (x.put ++ l) x x.put.length (getM_there x l hr))
    have hgs := hid (fun A i c (h : i < x.put.length) => get_err A i c (x.put.take i) 12 (getM_short x i hr h))
    generalize x.put = X at *
    obtain ⟨N, hNN⟩ : ∃ N, X.length = N := ⟨_, rfl⟩
    rw [hNN] at hpg hgt hgs hN9
    obtain ⟨s, hs⟩ : ∃ s, 1 + N / 50 = s := ⟨_, rfl⟩
    have hsz : (1 : Int) + (N : Int) / 50 = (s : Int) := by omega
    have hsl1 : 1 ≤ s := by omega
    have hs2 : s ≤ 1000 := by omega
    have HNN := hid hNN
    clear hs hNN hr
    unfold vMd vMdl at hpg hgt ⊢
    go_enter Try.func4, Try.ntmps4
    go_upto_region 5 with (go_at_call 8; refine (hpg.out _ P C Q HM.out.up.1).mono ?_; rintro e w2 ⟨A, c, rfl, i2, b2⟩; have H2 := hid (MpAt.mk (HM.out.on b2) i2); clear i2 b2)
    clear HM hpg
    have hAc := H2.out.xb.cap
    have hAm := H2.out.xb.max
    unfold maxLen at hAm
    go_upto_region 6 with (first
      | (at_builtin; refine wpList_put rfl (.tmp 50) (.tmp 51) rfl _ _ _ _ rfl rfl _ _ _ hr4 ?_)
      | (go_at_call 7; refine (CopyBytes_any A X N c _ H2.out.xb (by omega)).mono ?_; rintro e w3 ⟨v3, rfl, o3⟩; obtain ⟨A4, n4, c4, w4, hr4, hn4, i4, b4⟩ := run_own_app o3 Ba t Bc l (H2.out.mb.on o3.bel).up.2.toIsB (by rw [HNN.out]; omega); have H4 := hid (And.intro i4 (H2.out.on b4)); clear o3 i4 b4)
      | (go_at_call 10; refine (hgt.out A4 n4 c4 _ H4.out.1 hn4).mono ?_; rintro e w5 ⟨P5, C5, Q5, rfl, m5, b5⟩; have H5 := hid (And.intro m5 (H4.out.2.on b5)); clear m5 b5))
    have M6 := hid (And.intro (H5.out.1.later ((Below.refl _ _).alloc (Nat.le_refl _) (.cells #[.int .i64 x.h, .int .i64 x.m, .int .i64 x.ph, .int .i64 x.pm, .slice P5.a x.parts.length P5.c, .slice C5.a x.code.length C5.c, .slice Q5.a x.post.length Q5.c] 25))) (And.intro (H5.out.2.on ((Below.refl _ _).alloc (Nat.le_refl _) (.cells #[.int .i64 x.h, .int .i64 x.m, .int .i64 x.ph, .int .i64 x.pm, .slice P5.a x.parts.length P5.c, .slice C5.a x.code.length C5.c, .slice Q5.a x.post.length Q5.c] 25))) (heap_alloc_new w5 (.cells #[.int .i64 x.h, .int .i64 x.m, .int .i64 x.ph, .int .i64 x.pm, .slice P5.a x.parts.length P5.c, .slice C5.a x.code.length C5.c, .slice Q5.a x.post.length Q5.c] 25))))
    clear H5 H4 H2 hgt
    generalize w5.alloc (.cells #[.int .i64 x.h, .int .i64 x.m, .int .i64 x.ph, .int .i64 x.pm, .slice P5.a x.parts.length P5.c, .slice C5.a x.code.length C5.c, .slice Q5.a x.post.length Q5.c] 25) = W6 at *
    generalize w5.heap.size = x7 at *
    have e0 : W6.cell? ⟨w.heap.size, 0, none⟩ = some (.int .i64 x.h) := row_cell M6.out.2.1.mb.row 0
    have e1 : W6.cell? ⟨w.heap.size, 1, none⟩ = some (.int .i64 x.m) := row_cell M6.out.2.1.mb.row 1
    have e2 : W6.cell? ⟨w.heap.size, 2, none⟩ = some (.int .i64 x.ph) := row_cell M6.out.2.1.mb.row 2
    have e3 : W6.cell? ⟨w.heap.size, 3, none⟩ = some (.int .i64 x.pm) := row_cell M6.out.2.1.mb.row 3
    have e4 : W6.cell? ⟨w.heap.size, 4, none⟩ = some (.slice P.a x.parts.length P.c) := row_cell M6.out.2.1.mb.row 4
    have e5 : W6.cell? ⟨w.heap.size, 5, none⟩ = some (.slice C.a x.code.length C.c) := row_cell M6.out.2.1.mb.row 5
    have e6 : W6.cell? ⟨w.heap.size, 6, none⟩ = some (.slice Q.a x.post.length Q.c) := row_cell M6.out.2.1.mb.row 6
    have f0 : W6.cell? ⟨x7, 0, none⟩ = some (.int .i64 x.h) := row_cell M6.out.2.2 0
    have f1 : W6.cell? ⟨x7, 1, none⟩ = some (.int .i64 x.m) := row_cell M6.out.2.2 1
    have f2 : W6.cell? ⟨x7, 2, none⟩ = some (.int .i64 x.ph) := row_cell M6.out.2.2 2
    have f3 : W6.cell? ⟨x7, 3, none⟩ = some (.int .i64 x.pm) := row_cell M6.out.2.2 3
    have f4 : W6.cell? ⟨x7, 4, none⟩ = some (.slice P5.a x.parts.length P5.c) := row_cell M6.out.2.2 4
    have f5 : W6.cell? ⟨x7, 5, none⟩ = some (.slice C5.a x.code.length C5.c) := row_cell M6.out.2.2 5
    have f6 : W6.cell? ⟨x7, 6, none⟩ = some (.slice Q5.a x.post.length Q5.c) := row_cell M6.out.2.2 6
    go_upto_region 8 with (go_at_call 15; refine (SameModel_true _ x P5 C5 Q5 P C Q M6.out.1 M6.out.2.1.mb.up.1).mono ?_; rintro e w7 ⟨rfl, b7⟩; have H7 := hid (M6.out.2.1.on b7); clear b7)
    clear M6 e0 e1 e2 e3 e4 e5 e6 f0 f1 f2 f3 f4 f5 f6
    go_wp2_with fail
    go_loopw [10] (fun vi wr => ∃ i : Nat, i ≤ N + s ∧ vi = .int .i64 (i : Nat) ∧ Hid (MpAt w wr w.heap.size x P C Q Ba t Bc l A N c X)) (fun vi _ => N + s - (intOf vi).toNat)
    case atStart => exact ⟨0, Nat.zero_le _, rfl, H7⟩
    case round =>
      obtain ⟨i, hi2, rfl, hs⟩ := hrel
      clear H7
      by_cases hgo : i < N
      · have hz : (i : Int) < (N : Int) := by omega
        have hsl := fun w' => slice_cut A N c i (by omega) w'
        have hge := hid (hgs.out A i c hgo)
        have hsum : (i : Int) + (s : Int) = ((i + s : Nat) : Int) := by omega
        obtain ⟨i2, hi3⟩ : ∃ k, i + s = k := ⟨_, rfl⟩
        rw [hi3] at hsum
        go_wp2_with (go_at_call 10; refine (hge.out _ (take_isB hs.out.xb (Nat.le_of_lt hgo)) (by omega)).mono ?_; rintro e w8 ⟨_, rfl, b8⟩; have H8 := hid (hs.out.on b8); clear b8)
        go_roundw
        case rel => exact ⟨i2, by omega, by go_num, hid (H8.out.on ((Below.refl _ _).alloc (Nat.le_refl _) _))⟩
        case measure => simp [intOf]; omega
      · have hz : ¬ (i : Int) < (N : Int) := by omega
        have H9 := hid hs.out.mb
        clear hs
        rcases hg : getM l with er | ⟨y, k⟩
        · have hge := hid (get_err Ba t Bc l er hg)
          go_wp2_with (first
            | (go_at_call 10; refine (hge.out _ H9.out.up.2 (by omega)).mono ?_; rintro e w7 ⟨hne, rfl, b7⟩; have HT := hid (H9.out.on b7); clear b7)
            | (go_at_call 5; refine (HW.out _).mono ?_; rintro e w9 ⟨rfl, b9⟩))
          go_ret
          exact ⟨rfl, (HT.out.on ((Below.refl _ _).alloc (Nat.le_refl _) _)).bel.trans (b9.mono (HT.out.on ((Below.refl _ _).alloc (Nat.le_refl _) _)).bel.size)⟩
        · obtain ⟨q1, q2, q3⟩ := getM_back l y k hg
          have hge := hid (get_ok Ba t Bc l y k hg)
          have hpg := hid (put_ok y q1)
          have hkt : k ≤ t := by rw [← hbl.out]; exact q2
          have hkz : ¬ (t : Int) < (k : Int) := by omega
          have hyl : y.put.length = k := by rw [q3, List.length_take]; omega
          rw [hyl] at hpg
          have hsl := fun w' => slice_cut Ba t Bc k (by omega) w'
          have HQ := hid (And.intro q3 hkt)
          clear q1 q2 q3 hyl
          unfold vMd vMdl at hge hpg
          go_wp2_with (first
            | (go_at_call 10; refine (hge.out _ H9.out.up.2 (by omega)).mono ?_; rintro e w7 ⟨P7, C7, Q7, rfl, m7, b7⟩; have HT := hid (H9.out.on b7); have HY := hid m7; clear b7 m7)
            | (go_at_call 8; refine (hpg.out _ P7 C7 Q7 (HY.out.later ((Below.refl _ _).alloc (Nat.le_refl _) _))).mono ?_; rintro e w8 ⟨A8, c8, rfl, i8, b8⟩; have HT8 := hid ((HT.out.on ((Below.refl _ _).alloc (Nat.le_refl _) _)).on b8); have H8 := hid i8; clear b8 i8)
            | (go_at_call 14; refine (SameBytes_true _ _ _ _ _ _ _ H8.out.toIsB (by rw [HQ.out.1]; exact (take_isB HT8.out.up.2 HQ.out.2).toIsB)).mono ?_; rintro e w9 ⟨rfl, k9, rfl⟩)
            | (go_at_call 5; refine (HW.out _).mono ?_; rintro e w10 ⟨rfl, b10⟩))
          go_ret
          exact ⟨rfl, (HT8.out.bel).trans ((below_drewN (Below.refl _ _) k9 |>.trans b10).mono HT8.out.bel.size)⟩
  · have HP := hid (fun W (k : MdAt W W.heap.size x P C Q) => Put_bad W x P C Q k hr)
    unfold vMd vMdl at HP ⊢
    generalize x.right = r at *
    go_enter Try.func4, Try.ntmps4
    go_upto_region 14 with (go_at_call 8; refine (HP.out _ HM.out.up.1).mono ?_; rintro e w2 ⟨rfl, b2⟩; have H2 := hid (HM.out.on b2); clear b2)
    clear HM HP
    rcases hg : getM l with er | ⟨y, k⟩
    · have hge := hid (get_err Ba t Bc l er hg)
      go_wp2_with (first
        | (go_at_call 10; refine (hge.out _ H2.out.up.2 (by omega)).mono ?_; rintro e w7 ⟨hne, rfl, b7⟩; have HT := hid (H2.out.on b7); clear b7)
        | (go_at_call 5; refine (HW.out _).mono ?_; rintro e w9 ⟨rfl, b9⟩))
      go_ret
      exact ⟨rfl, (HT.out.on ((Below.refl _ _).alloc (Nat.le_refl _) _)).bel.trans (b9.mono (HT.out.on ((Below.refl _ _).alloc (Nat.le_refl _) _)).bel.size)⟩
    · obtain ⟨q1, q2, q3⟩ := getM_back l y k hg
      have hge := hid (get_ok Ba t Bc l y k hg)
      have hpg := hid (put_ok y q1)
      have hkt : k ≤ t := by rw [← hbl.out]; exact q2
      have hkz : ¬ (t : Int) < (k : Int) := by omega
      have hyl : y.put.length = k := by rw [q3, List.length_take]; omega
      rw [hyl] at hpg
      have hsl := fun w' => slice_cut Ba t Bc k (by omega) w'
      have HQ := hid (And.intro q3 hkt)
      clear q1 q2 q3 hyl
      unfold vMd vMdl at hge hpg
      go_wp2_with (first
        | (go_at_call 10; refine (hge.out _ H2.out.up.2 (by omega)).mono ?_; rintro e w7 ⟨P7, C7, Q7, rfl, m7, b7⟩; have HT := hid (H2.out.on b7); have HY := hid m7; clear b7 m7)
        | (go_at_call 8; refine (hpg.out _ P7 C7 Q7 (HY.out.later ((Below.refl _ _).alloc (Nat.le_refl _) _))).mono ?_; rintro e w8 ⟨A8, c8, rfl, i8, b8⟩; have HT8 := hid ((HT.out.on ((Below.refl _ _).alloc (Nat.le_refl _) _)).on b8); have H8 := hid i8; clear b8 i8)
        | (go_at_call 14; refine (SameBytes_true _ _ _ _ _ _ _ H8.out.toIsB (by rw [HQ.out.1]; exact (take_isB HT8.out.up.2 HQ.out.2).toIsB)).mono ?_; rintro e w9 ⟨rfl, k9, rfl⟩)
        | (go_at_call 5; refine (HW.out _).mono ?_; rintro e w10 ⟨rfl, b10⟩))
      go_ret
      exact ⟨rfl, (HT8.out.bel).trans ((below_drewN (Below.refl _ _) k9 |>.trans b10).mono HT8.out.bel.size)⟩

end Go.Proofs.Ytnanmdfbgoahjaa
