/-
  The walk of OctetsRow.
-/
import Derived.Test.YtdaekdfogcgdfaaRowN
namespace Go.Proofs.Ytdaekdfogcgdfaa
open Go.RowKit

set_option linter.unusedVariables false
set_option linter.unusedSimpArgs false
set_option maxHeartbeats 400000 in
theorem row_long (LA : Option Addr) (LN LC : Nat) (A : Option Addr) (n c : Nat) (cut : Int) (w : World) (hn : 40 < n) :
    Calls Try.prog 5 #[.slice LA LN LC, .slice A n c, .int .u16 cut] w fun e w' => e = .returned (.bool true) ∧ Below w.heap.size w w' := by
  go_enter Try.func5, Try.ntmps5
  go_wp2_with (go_at_call 19; refine (awake_any _).mono ?_; rintro e w' ⟨rfl, hb⟩)
  go_ret
  exact ⟨rfl, hb⟩
set_option maxRecDepth 10000 in
set_option maxHeartbeats 60000000 in
theorem row_walk (LA : Option Addr) (LN LC : Nat) (Ts : List Th) (A : Option Addr) (l : List UInt8) (n c cut : Nat) (w : World) (hT : IsT w w.heap.size LA LN LC Ts) (h : IsBB w w.heap.size A n c l) (hn : n ≤ 40) (hcut : cut < 65536) :
    Calls Try.prog 5 #[.slice LA LN LC, .slice A n c, .int .u16 cut] w fun e w' => e = .returned (.bool true) ∧ Below w.heap.size w w' := by
  obtain ⟨i56, hi56, hz56, hs56, hb56⟩ := info_parts Try.info56
  obtain ⟨i3, hi3, hz3, hs3, hb3⟩ := info_parts Try.info3
  have hln := hT.max
  have hlc := hT.cap
  unfold maxLen at hln
  go_enter Try.func5, Try.ntmps5
  go_wp2_with (go_at_call 28; refine (CopyBytes_any _ _ _ _ _ h).mono ?_; rintro e w1 ⟨vb, rfl, hown, hbel⟩; obtain ⟨A1, c1, rfl, hb1⟩ := own_isBB hown (by omega))
  have st0 : RowSt w (w1.alloc (Obj.cells #[Value.int IntKind.i64 (n : Int)] 3)) n l (kept Ts 0) (.slice A1 n c1) (.slice none 0 0) (.slice (some ⟨w1.heap.size, 0, none⟩) 1 1) := by
    have hh : (w1.alloc (Obj.cells #[Value.int IntKind.i64 (n : Int)] 3)).heap[w1.heap.size]? = some (.cells #[Value.int IntKind.i64 (n : Int)] 3 (0, 0)) := heap_alloc_new w1 _
    refine ⟨by simpa [kept, lens, encs] using hown.alloc _, World.ownsRow_nil _ _ _ _, ⟨by simp [posL_nil, kept], .inr ⟨w1.heap.size, 1, _, rfl, hbel.size, hh, Nat.le_refl _, by decide, rfl, by simp [posL_nil, kept]⟩⟩, hbel.alloc hbel.size _⟩
  clear hown hbel hb1
  go_loopw [7, 8, 9, 10] (fun vb vr vp i wr => ∃ k : Nat, k ≤ LN ∧ k ≤ 20 ∧ i = .int .i64 k ∧ RowSt w wr n l (kept Ts k) vb vr vp) (fun _ _ _ i _ => 20 - (intOf i).toNat)
  case atStart => exact ⟨0, Nat.zero_le _, Nat.zero_le _, rfl, st0⟩
  case round =>
    obtain ⟨k, hk, hk20, rfl, st⟩ := hrel
    obtain ⟨Ab, cb, rfl, hbn, hbm⟩ := own_slice st.bytes
    obtain ⟨Ar, cr, rfl, hrn, hrm⟩ := own_slice st.row
    obtain ⟨Ap, cp, rfl, hpn, hpm⟩ := own_slice st.places
    have hl1 := lens_kept Ts k
    have hl2 := kept_len Ts k
    by_cases hlt : k < LN ∧ k < 20
    · obtain ⟨hlt1, hlt2⟩ := hlt
      obtain ⟨ad, rfl⟩ := hT.addr (by omega)
      have hkl : k < Ts.length := by rw [hT.len]; exact hlt1
      obtain ⟨hblk, hcs⟩ := hT.lies ad rfl (by omega)
      obtain ⟨q0, q1, q2⟩ := hcs k hkl
      have P0 := hid q0
      have P1 := hid q1
      have P2 := hid q2
      rw [← st.bel.cell (by rw [block_of_add]; exact hblk)] at q0 q1 q2
      rw [← add_of_add, add_one_] at q1
      rw [← add_of_add, add_two_] at q2
      have hSm := hT.strs _ (List.getElem_mem hkl)
      have hNm := hT.nums _ (List.getElem_mem hkl)
      have hy := kept_yes Ts k hkl
      have hno := kept_no Ts k hkl
      obtain ⟨t, ht⟩ : ∃ t, t = Ts[k] := ⟨_, rfl⟩
      rw [← ht] at q0 q1 q2 P0 P1 P2 hSm hNm hy hno
      obtain ⟨wd, N, S⟩ := t
      simp only at q0 q1 q2 P0 P1 P2 hSm hNm hy hno
      have HN := hid hNm
      have Hy := hid hy
      have Hn := hid hno
      clear ht hcs hNm hy hno st0
      unfold maxLen at hSm
      have hi1 : (k : Int) < (LN : Int) := by omega
      have hi2 : (k : Int) < 20 := by omega
      by_cases hS : S.size ≤ 60
      · have hLT := lenT_le wd S hS
        go_wp2_with (first
          | (at_builtin; refine wpList_append_own _ rfl (.tmp 44) (.tmp 49) 54 rfl w.heap.size 56 i56 _ 3 32 Try.underlying54 hi56 hz56 hs56 hb56 rfl (by decide) (.slice Ar (kept Ts k).length cr) (kept Ts k).length ((kept Ts k).flatMap cellsT) rfl (st.row.alloc _) ⟨wr.heap.size, 0, none⟩ 1 1 (cellsT (wd, N, S)) rfl rfl (three_cells wr (wd, N, S)) (by intro u hu; simp [cellsT] at hu; rcases hu with rfl | rfl | rfl <;> rfl) (by unfold maxLen; omega) (by omega) (by have := st.bel.size; simp; omega) ?_
             intro v1 w2 hown1 hg1 _
             have bl2 : Below w.heap.size w w2 := (st.bel.alloc st.bel.size _).grown hg1 (by have := st.bel.size; simp; omega) (fun g hg => (st.row.lt g hg).1)
             have bt2 := (st.bytes.alloc (Obj.cells #[Value.int IntKind.u8 (wd : Int), Value.int IntKind.u64 (N : Int), Value.string S] 56)).kept hg1 (own_other st.row st.bytes (by decide))
             have pl2 := (st.places.alloc (Obj.cells #[Value.int IntKind.u8 (wd : Int), Value.int IntKind.u64 (N : Int), Value.string S] 56)).kept hg1 (own_other st.row st.places (by decide))
             have ib2 := own_isB2 bt2 (by omega)
             have q0' := (bl2.cell (p := ad.add (k * 3)) (by rw [block_of_add]; exact hblk)).trans P0.out
             have q1' := (bl2.cell (p := ad.add (k * 3 + 1)) (by rw [block_of_add]; exact hblk)).trans P1.out
             have q2' := (bl2.cell (p := ad.add (k * 3 + 2)) (by rw [block_of_add]; exact hblk)).trans P2.out
             rw [← add_of_add, add_one_] at q1'
             rw [← add_of_add, add_two_] at q2'))
        refine (put_any _ _ _ _ wd N S _ ib2 HN.out hS (by omega)).mono ?_
        rintro e w3 ⟨g3, c3, rfl, N3⟩
        have bl3 := bl2.trans (N3.bel.mono bl2.size)
        have r3 := own_below hown1 N3.bel
        have p3 := own_below pl2 N3.bel
        have N3b := N3.base bl2
        clear hown1 bt2 pl2 ib2 q0 q1 q2 q0' q1' q2' P0 P1 P2 N3 hg1
        go_wp2_with (at_builtin; refine wpList_append_own _ rfl (.tmp 57) (.tmp 60) 22 rfl w.heap.size 3 i3 _ 1 8 Try.underlying22 hi3 hz3 hs3 hb3 rfl (by decide) (.slice Ap ((kept Ts k).length + 1) cp) ((kept Ts k).length + 1) _ rfl (p3.alloc _) ⟨w3.heap.size, 0, none⟩ 1 1 [Value.int .i64 ((n + lens (kept Ts k) + lenT wd S : Nat) : Int)] rfl rfl ?d1 ?d2 ?d3 ?d4 ?d5 ?_)
        case d1 =>
          have e : ((n + lens (kept Ts k) + lenT wd S : Nat) : Int) = (n : Int) + lens (kept Ts k) + lenT wd S := by omega
          rw [e]
          exact int_cell w3 _
        case d2 => intro u hu; simp at hu; subst hu; rfl
        case d3 => unfold maxLen; omega
        case d4 => omega
        case d5 => have := bl3.size; simp; omega
        intro v4 w4 hown4 hg4 _
        have st' : RowSt w w4 n l (kept Ts (k + 1)) (.slice (some ⟨g3, 0, none⟩) (n + lens (kept Ts k) + lenT wd S) c3) v1 v4 := by
          rw [Hy.out hS]
          refine ⟨?_, ?_, ?_, ?_⟩
          · have a1 := (N3b.own.alloc (Obj.cells #[Value.int IntKind.i64 ((n : Int) + lens (kept Ts k) + lenT wd S)] 3)).kept hg4 (own_other p3 N3b.own (by decide))
            rw [lens_snoc, encs_snoc, ← Nat.add_assoc, ← List.append_assoc]
            exact a1
          · have a2 := (r3.alloc (Obj.cells #[Value.int IntKind.i64 ((n : Int) + lens (kept Ts k) + lenT wd S)] 3)).kept hg4 (own_other p3 r3 (by decide))
            rw [List.length_append, List.length_singleton, List.flatMap_append]
            simpa using a2
          · rw [posL_snoc, List.length_append, List.length_singleton, List.map_append, List.map_singleton]
            exact hown4
          · exact (bl3.alloc bl3.size _).grown hg4 (by have := bl3.size; simp; omega) (fun g hg => (p3.lt g hg).1)
        clear hown4 hg4 N3b r3 p3 bl3 bl2 st
        go_wp2
        go_roundw
        case rel => exact ⟨k + 1, by omega, by omega, by go_num, st'⟩
        case measure => simp [intOf]; omega
      · go_wp2_with fail
        go_roundw
        case rel => exact ⟨k + 1, by omega, by omega, by go_num, by rw [Hn.out hS]; exact st⟩
        case measure => simp [intOf]; omega
    · go_wp2_with fail
      all_goals
        obtain ⟨R, hR⟩ : ∃ R, R = kept Ts k := ⟨_, rfl⟩
        rw [← hR] at hl1 hl2 st hbn hrn hpn
        have hRg : ∀ t ∈ R, t.2.2.size ≤ 60 ∧ t.2.1 < 18446744073709551616 := by
          intro t ht
          rw [hR] at ht
          have h1 := List.mem_filter.1 ht
          exact ⟨of_decide_eq_true h1.2, hT.nums t (List.take_subset _ _ h1.1)⟩
        rw [← hR]
        clear hR hT
        have ibF := own_isB2 st.bytes (by omega)
        have ibA := h.below st.bel
        have ibP : IsB wr Ab n cb l := front_of ibF.toIsB h.len
        have f1 : decide ((n : Int) + (lens R : Int) < (n : Int)) = false := decide_eq_false (by omega)
        have e1 : IntKind.i64.wrap ((n : Int) + (lens R : Int)) = (n : Int) + (lens R : Int) := IntWalk.i64_in _ (by omega)
        have cv1 := fun k => (ibP.drewN k).conv
        have cv2 := fun k => (ibA.toIsB.drewN k).conv
        have hnc := ibP.cap
        have hnz : (n : Int) ≤ (cb : Int) := by omega
        go_quiet (fail)
        obtain ⟨m, hm1, hm2, hm3, hm4, Em⟩ := cut_at n (lens R) cut cb hn (lens_small hl1 hk20) hbn
        clear cv1 cv2 f1 e1
        unfold maxLen at hbm
        go_wp2_with fail
        clear Em
        obtain ⟨wB, hwB⟩ : ∃ wB, wB = wr.drewN nq := ⟨_, rfl⟩
        have ibF : IsBB wB wB.heap.size Ab (n + lens R) cb (l ++ encs R) := by rw [hwB]; exact ⟨ibF.toIsB.drewN nq, ibF.low⟩
        have rowB : wB.ownsRow w.heap.size 56 3 (.slice Ar R.length cr) R.length (R.flatMap cellsT) := by rw [hwB]; exact st.row
        have plB : wB.ownsRow w.heap.size 3 1 (.slice Ap (R.length + 1) cp) (R.length + 1) ((posL n R).map fun p : Nat => Value.int .i64 (p : Int)) := by rw [hwB]; exact st.places
        have belB : Below w.heap.size w wB := by rw [hwB]; exact below_drewN st.bel nq
        rw [← hwB]
        clear hwB st ibA
        go_loopw [93] (fun i wq => ∃ j : Nat, j ≤ R.length ∧ i = .int .i64 j ∧ n + lens (R.take j) ≤ m ∧ Below wB.heap.size wB wq) (fun i _ => R.length - (intOf i).toNat)
        case atStart => exact ⟨0, Nat.zero_le _, rfl, by simpa [lens] using hm1, Below.refl _ _⟩
        case round =>
          obtain ⟨j, hj, rfl, hjm, hbq⟩ := hrel
          by_cases hjl : j < R.length
          · obtain ⟨gr, hAr, t0, t1, t2⟩ := row_at (own_below rowB hbq) j hjl
            subst hAr
            obtain ⟨gp, hAp, p0, p1⟩ := pos_at (own_below plB hbq) j hjl
            subst hAp
            have ibq := ibF.on hbq
            have hji : (j : Int) < (R.length : Int) := by omega
            obtain ⟨hgS, hgN⟩ := hRg _ (List.getElem_mem hjl)
            have sp := split_at l R j hjl
            have hPle : n + lens (R.take j) ≤ 1000000 := by omega
            have hQ0 : n + lens (R.take (j + 1)) = n + lens (R.take j) + lenT R[j].1 R[j].2.2 := pos_succ n R j hjl
            have hpl : (l ++ encs (R.take j)).length = n + lens (R.take j) := by rw [List.length_append, encs_len, h.len]
            have hql : (l ++ encs R).length = n + lens R := by rw [List.length_append, encs_len, h.len]
            obtain ⟨P, hP⟩ : ∃ P, P = n + lens (R.take j) := ⟨_, rfl⟩
            obtain ⟨Q, hQ⟩ : ∃ Q, Q = n + lens (R.take (j + 1)) := ⟨_, rfl⟩
            obtain ⟨t, ht⟩ : ∃ t, t = R[j] := ⟨_, rfl⟩
            rw [← ht] at t0 t1 t2 hgS hgN sp hQ0
            rw [← hP] at p0 hPle hQ0 hpl hjm
            rw [← hQ] at p1 hQ0
            obtain ⟨wd, N, S⟩ := t
            simp only at t0 t1 t2 hgS hgN sp hQ0
            have y := stands_yes wd N S _ (encs (R.drop (j + 1))) (n + lens R) hgN hgS (by rw [← sp]; exact hql.symm)
            rw [← sp, hpl, ← hQ0] at y
            obtain ⟨y1, y2, y3⟩ := y
            have zc := cut_case wd N S (l ++ encs (R.take j)) (encs (R.drop (j + 1))) m hgN hgS (by rw [← sp, hql]; exact hm2)
            rw [← sp, hpl, ← hQ0] at zc
            have HQ := hid hQ
            have hR20 : (R.length : Int) ≤ 20 := by omega
            have hgp := lt_of_cell p0
            have bA : Below wr.heap.size wr (wr.alloc (Obj.cells #[Value.int IntKind.u8 (wd : Int), Value.int IntKind.u64 (N : Int), Value.string S] 56)) := (Below.refl _ _).alloc (Nat.le_refl _) _
            have ibA := ibq.on bA
            have pA0 := (bA.cell (p := ⟨gp, j, none⟩) hgp).trans p0
            clear hP hQ hQ0 ht hgS sp hpl hql hRg ibP hnc hnz hln hlc hbm hrn hrm hpn hpm hl1 hl2 hbn
            go_wp2_with fail
            go_region_with (go_at_call 30; refine (stands_any _ (l ++ encs R) (n + lens R) cb wd N P S _ (by first | exact ibA.drew | exact ibA) hPle).mono ?_; rintro e w5 ⟨rfl, b5⟩)
            all_goals
              have B5 : Below wr.heap.size wr w5 := by first | exact bA.trans (b5.mono bA.size) | exact (bA.drew).trans (b5.mono (by have := bA.size; exact this))
              have pB0 := (B5.cell (p := ⟨gp, j, none⟩) hgp).trans p0
              have pB1 := (B5.cell (p := ⟨gp, j + 1, none⟩) hgp).trans p1
              have bx := box_cells wr w5 wd N S b5
              obtain ⟨bx0, bx1, bx2⟩ := bx
              have ibL := take_isB (ibF.on (hbq.trans (B5.mono hbq.size))) hm2
              clear pA0 ibA b5 bA ibq p0 p1 t0 t1 t2
              go_wp2_with fail
              rcases Nat.lt_or_ge m Q with hmQ | hmQ
              · have z1 := zc.2 hmQ
                have dq : decide ((Q : Int) ≤ (m : Int)) = false := decide_eq_false (by omega)
                have hmQ2 : (m : Int) < (Q : Int) := by omega
                clear zc y1 y2 y3 HQ
                go_region_with (go_at_call 30; refine (stands_any _ ((l ++ encs R).take m) m cb wd N P S _ (by first | exact ibL.drew | exact ibL) hPle).mono ?_; rintro e w7 ⟨rfl, b7⟩)
                all_goals
                  have B7 : Below w5.heap.size w5 w7 := by first | exact b7 | exact ((Below.refl _ w5).drew).trans b7
                  have pC1 := (B7.cell (p := ⟨gp, j + 1, none⟩) (lt_of_cell pB1)).trans pB1
                  clear pB0 pB1 bx0 bx1 bx2
                  go_wp2_with (go_at_call 19; refine (awake_any _).mono ?_; rintro e w9 ⟨rfl, hb9⟩)
                  go_ret
                  exact ⟨rfl, bel_trans (bel_trans (bel_trans (bel_trans belB hbq) B5) B7) hb9⟩
              · obtain ⟨z1, z2⟩ := zc.1 (by omega)
                have dq : decide ((Q : Int) ≤ (m : Int)) = true := decide_eq_true (by omega)
                have hmQ2 : (Q : Int) ≤ (m : Int) := by omega
                clear zc y1 y2 y3
                go_region_with (go_at_call 30; refine (stands_any _ ((l ++ encs R).take m) m cb wd N P S _ (by first | exact ibL.drew | exact ibL) hPle).mono ?_; rintro e w7 ⟨rfl, b7⟩)
                all_goals
                  have B7 : Below w5.heap.size w5 w7 := by first | exact b7 | exact ((Below.refl _ w5).drew).trans b7
                  have pC1 := (B7.cell (p := ⟨gp, j + 1, none⟩) (lt_of_cell pB1)).trans pB1
                  clear pB0 pB1 bx0 bx1 bx2
                  go_wp2_with fail
                  go_roundw
                  case rel => exact ⟨j + 1, by omega, by go_num, by rw [← HQ.out]; exact hmQ, bel_trans (bel_trans hbq B5) B7⟩
                  case measure => simp [intOf]; omega
          · go_wp2_with (go_at_call 19; refine (awake_any _).mono ?_; rintro e w9 ⟨rfl, hb9⟩)
            go_ret
            exact ⟨rfl, (belB.trans (hbq.mono belB.size)).trans (hb9.mono (belB.trans (hbq.mono belB.size)).size)⟩
end Go.Proofs.Ytdaekdfogcgdfaa
