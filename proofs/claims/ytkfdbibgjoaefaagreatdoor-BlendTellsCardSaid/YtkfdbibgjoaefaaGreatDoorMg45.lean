/-
  Merged: Lwb Lwc.
-/
import Derived.Test.YtkfdbibgjoaefaaGreatDoorMg44
import Derived.Deep.RegionHeld3
/-
  BlendTells' walk: right parts (written by tools/stage12/gen_lww.py).
-/
namespace Go.Proofs.YtkfdbibgjoaefaaGreatDoor
open Go.RowKit
set_option linter.unusedVariables false
set_option linter.unusedSimpArgs false

set_option maxRecDepth 10000 in
set_option maxHeartbeats 4000000 in
theorem tells_good (w : World) (kn : KnIs w) (A : Option Addr) (n c : Nat) (L : List Pt) (h : IsP w w.heap.size A n c L) (hr : rightP L = 0) (a : Option Addr) (len cap : Nat) (acts : ActsM w w.heap.size a len cap) (hg : Calls Tryz.prog 4 #[.slice A n c] w fun e w' => e = .returned (.bool false) ∧ Below w.heap.size w w') :
    Calls Tryz.prog 3 #[.slice A n c, .slice a len cap] w fun e w' => e = .returned (.bool true) ∧ Below w.heap.size w w' := by
  have w0 := kn_pos kn
  have n16 : n ≤ 16 := by have := ((rightP_ok L).1 hr).1; have := h.len; omega
  have n1 : 1 ≤ n := by have := ((rightP_ok L).1 hr).1; have := h.len; omega
  have hz16 : (n : Int) ≤ 16 := by omega
  have HG := hid hg
  have HC := hid (fun W (b : Below w.heap.size w W) => CopyParts_big A n c L W ((h.below b).up b.size) (by omega))
  have HN := hid (fun W A' c' (b : Below w.heap.size w W) (ip : IsP W W.heap.size A' n c' L) => On.new (w0 := w) ip hr (kn.below b) b w0 (kinds_right hr))
  have HR := hid (fun W (b : Below w.heap.size w W) => rNew_any A n c L W ((h.below b).up b.size) hr)
  have HS := hid (fun W A' c' (b : Below w.heap.size w W) (ip : IsP W W.heap.size A' n c' L) => SameParts_any A' c' A c n L W ip ((h.below b).up b.size))
  have HA := hid (fun W (k : KnIs W) (b : Below w.heap.size w W) => (awake_any W k).mono (fun e W' q => (⟨q.1, b.trans (q.2.mono b.size)⟩ : e = .returned (.bool true) ∧ Below w.heap.size w W')))
  have hnl : (Bl.new L).l.length = n := by rw [← h.len]; simp [Bl.new]
  have lm := acts.1
  have lx := acts.2.1
  unfold maxLen at lx
  have AC := hid acts
  clear hg h acts
  unfold pt at HN
  go_enter Tryz.func3, Tryz.ntmps3
  go_wp2_with fail
  refine HG.out.mono ?_
  rintro e w1 ⟨rfl, b1⟩
  go_wp2_with fail
  refine (HC.out _ b1).mono ?_
  rintro e w2 ⟨A2, c2, rfl, ip2, ow2, b2⟩
  have b02 : Below w.heap.size w w2 := b1.trans (b2.mono b1.size)
  obtain ⟨cp, rfl, cp1, cp2, cy2⟩ := Cpy.of (w := w) ip2 ow2 n1
  have IP2 := hid ip2
  have CY2 := hid cy2
  clear ip2 ow2 cy2
  go_wp2_with fail
  refine (HN.out _ _ _ b02 IP2.out).mono ?_
  rintro e w3 ⟨g, rfl, o1, b3⟩
  have b03 : Below w.heap.size w w3 := b02.trans (b3.mono b02.size)
  have O1 := hid o1
  clear o1
  go_wp2_with fail
  refine (HR.out _ b03).mono ?_
  rintro e w4 ⟨r, gg, cap', Vf, rfl, bm, ly, ml, mh, b4⟩
  have b04 : Below w.heap.size w w4 := b03.trans (b4.mono b03.size)
  have b24 : Below w2.heap.size w2 w4 := b3.trans (b4.mono b3.size)
  have T4 : Hid (Td w w4 (fun a => w2.heap.size ≤ a ∧ a < w3.heap.size) g (Bl.new L) r gg n cap' (Bl.new L) Vf w3.heap.size) := hid ⟨O1.out.below b4, bm, ly, fun x hx hm => by have := hx.2; have := ml x hm; omega, fun x hx => Nat.le_trans b03.size (ml x hx)⟩
  have MH := hid mh
  have ML := hid ml
  clear bm ly ml mh O1
  go_wp2_with fail
  refine (HS.out _ _ _ b04 ((IP2.out.below b24).up b24.size)).mono ?_
  rintro e w5 ⟨rfl, j, rfl⟩
  have T5 : Hid (Td w (w4.drewN j) _ g (Bl.new L) r gg n cap' (Bl.new L) Vf w3.heap.size) := hid (T4.out.below (Below.drewN w4.heap.size w4 j))
  have cy5 : Cpy (w4.drewN j) cp n := CY2.out.heap (b24.block cp cp2)
  obtain ⟨M, hMe⟩ : ∃ M, w4.heap.size = M := ⟨_, rfl⟩
  have hs5 : (w4.drewN j).heap.size = M := hMe
  have hM0 : w.heap.size ≤ M := by rw [← hMe]; exact b04.size
  obtain ⟨F, eF⟩ : ∃ F : Nat → Prop, F = fun a => w2.heap.size ≤ a ∧ a < w3.heap.size := ⟨_, rfl⟩
  have hF : ∀ a, F a → a < M := fun a h => by rw [eF] at h; have := h.2; have := b4.size; omega
  have hMn : ∀ a, Mine Vf r gg n a → a < M := fun a h => by rw [← hMe]; exact MH.out a h
  have cF : ∀ a, F a → a ≠ cp := fun a h => by rw [eF] at h; have := h.1; omega
  have cM : ∀ a, Mine Vf r gg n a → a ≠ cp := fun a h => by have := ML.out a h; have := b3.size; omega
  have cl : w.heap.size ≤ cp := Nat.le_trans b1.size cp1
  rw [← eF] at T5
  have B5 : Below w.heap.size w (w4.drewN j) := b04.trans ((Below.drewN w4.heap.size w4 j).mono b04.size)
  obtain ⟨B0, hB0⟩ : ∃ B0, w3.heap.size = B0 := ⟨_, rfl⟩
  rw [hB0] at T5
  clear eF hB0 hMe MH ML T4 b1 b2 b3 b4 b02 b03 b04 b24 cp1 cp2 CY2 IP2 HG HC HN HR HS
  generalize w4.drewN j = w5 at *
  go_wp2_with fail
  go_loopw [50] (fun v wr => ∃ i : Nat, i ≤ n ∧ v = .int .i64 (i : Int) ∧ But (· = cp) w5 wr ∧ Cpy wr cp n) (fun v _ => n - (intOf v).toNat)
  case atStart => exact ⟨0, Nat.zero_le _, rfl, But.refl _ _, cy5⟩
  case round =>
    obtain ⟨i, hi, rfl, bt1, cy⟩ := hrel
    clear cy5
    by_cases hgo : i < n
    · have hz : (i : Int) < (n : Int) := by omega
      obtain ⟨z, k4, f4⟩ := cy.at hgo
      have BB := hid (fun z' => bt1.set ⟨cp, i * 7 + 4, none⟩ (.int .i64 z') (.inl rfl))
      have CC := hid (fun z' => cy.put hgo z')
      clear bt1 cy T5
      go_wp2_with fail
      go_roundw
      case rel => exact ⟨i + 1, by omega, by go_num, BB.out _, CC.out _⟩
      case measure => simp [intOf]; omega
    · obtain rfl : n = i := by omega
      have T6 := hid (T5.out.but bt1 (fun a e => by have e2 : a = cp := e; omega) cF cM)
      have hM6 : M ≤ wr.heap.size := by rw [← hs5]; exact bt1.size
      generalize wr = w6 at *
      clear bt1 cy T5 cF cM cl hs5 B5
      go_wp2_with fail
      go_loopw [11] (fun v wr => ∃ i : Nat, i ≤ len ∧ i ≤ 250 ∧ v = .int .i64 (i : Int) ∧ ∃ b, Hid (Td w wr F g b r gg n cap' b Vf B0) ∧ b.l.length = n ∧ b.whole ≤ i ∧ M ≤ wr.heap.size) (fun v _ => 250 - (intOf v).toNat)
      case atStart => exact ⟨0, Nat.zero_le _, Nat.zero_le _, rfl, _, T6, hnl, Nat.le_refl _, hM6⟩
      case round =>
        obtain ⟨i, hi, hi4, rfl, b, TD, hbl, hbw, hM⟩ := hrel
        clear T6 hM6
        by_cases hgo : i < len ∧ i < 250
        · have z1 : (i : Int) < (len : Int) := by omega
          have z2 : (i : Int) < 250 := by omega
          obtain ⟨ad, K, bt, Ah, m, mc, hs, rfl, hadB, k0, k1, k2, ws, m4⟩ := AC.out.2.2 i hgo.1
          have kk : ∀ j v, w.cell? (ad.add j) = some v → wr.cell? (ad.add j) = some v := fun j v hv => (World.cell?_of_block (TD.out.one.bel.block _ (by rw [block_of_add]; exact hadB))).trans hv
          have k0 := kk _ _ k0
          have k1 : wr.cell? ⟨(ad.add (i * 3)).block, (ad.add (i * 3)).off + 1, none⟩ = some (.slice Ah m mc) := by
            have := kk _ _ k1
            rw [← add_of_add] at this
            exact this
          have k2 : wr.cell? ⟨(ad.add (i * 3)).block, (ad.add (i * 3)).off + 2, none⟩ = some (.int .i64 bt) := by
            have := kk _ _ k2
            rw [← add_of_add] at this
            exact this
          clear kk
          by_cases hK : K = 0
          · subst hK
            go_wp2_with fail
            obtain ⟨W, hW⟩ : ∃ W, W = wr.alloc (Obj.cells #[Value.int IntKind.i64 0, Value.slice Ah m mc, Value.int IntKind.i64 bt] 41) := ⟨_, rfl⟩
            rw [← hW]
            have BW : Below wr.heap.size wr W := by rw [hW]; exact (Below.refl _ _).alloc (Nat.le_refl _) _
            have gw : W.heap[wr.heap.size]? = some (.cells #[Value.int IntKind.i64 0, Value.slice Ah m mc, Value.int IntKind.i64 bt] 41 (0, 0)) := by rw [hW]; exact heap_alloc_new wr _
            have bW : Below w.heap.size w W := TD.out.one.bel.trans (BW.mono TD.out.one.bel.size)
            clear hW k0 k1 k2
            have wsW := (ws.keep bW).up bW.size
            refine (CopyH_any Ah m mc hs W wsW m4).mono ?_
            rintro e w6 ⟨Ac, cc, rfl, wc, fc, b6⟩
            have SI : Hid (Sit w w6 F g b r gg n cap' b Vf B0 M wr.heap.size 0 Ah m mc bt Ac cc hs) := hid ⟨TD.out.below (BW.trans (b6.mono BW.size)), (b6.block _ (lt_of_heap gw)).trans gw, hM, ws.keep (bW.trans (b6.mono bW.size)), fun _ => wc, fun _ ad e h0 => by have := fc ad e h0; have := BW.size; omega, hF, hMn, m4, by have := BW.size; have := b6.size; omega⟩
            have SD : Hid (Sit w w6.drew F g b r gg n cap' b Vf B0 M wr.heap.size 0 Ah m mc bt Ac cc hs) := hid (SI.out.below (Below.drewN w6.heap.size w6 1))
            have c1 := SI.out.cells.2.1
            have c1d := SD.out.cells.2.1
            have H1 := hid SD.out.ctx
            have H2 := hid (fun W (s : Sit w W F g (ctxThen b hs) r gg n cap' b Vf B0 M wr.heap.size 0 Ah m mc bt Ac cc hs) => s.ctx2 (by omega))
            have H3 := hid (fun W (s : Sit w W F g (ctxThen b hs) r gg n cap' (ctxThen b hs) Vf B0 M wr.heap.size 0 Ah m mc bt Ac cc hs) => s.words)
            have HT := hid (ctxThen_len b hs)
            generalize ctxThen b hs = b' at *
            generalize ctxCode b = cd at *
            unfold pt at H1
            clear ws wsW wc fc b6 BW gw bW SI SD TD
            generalize wr.heap.size = q at *
            have hbl' : b'.l.length = n := HT.out.1.trans hbl
            have hbw' : b'.whole ≤ i + 1 := by have := HT.out.2; omega
            clear HT
            go_wp2_with fail
            go_region_held3 (fun w' => w'.cell? ⟨q, 1, none⟩ = some (.slice Ah m mc))
              (first | exact c1d | exact kA | exact kB | exact kC | go_keep)
              (first
              | ((with_reducible refine (H3.out _ sB.out).mono ?_); rintro rr wC ⟨rfl, s3⟩; have kC := s3.cells.2.1; have sC := hid s3; clear s3)
              | ((with_reducible refine (H2.out _ sA.out).mono ?_); rintro rr wB ⟨rfl, s2⟩; have kB := s2.cells.2.1; have sB := hid s2; clear s2)
              | ((with_reducible refine H1.out.mono ?_); rintro rr wA ⟨rfl, s1⟩; have kA := s1.cells.2.1; have sA := hid s1; clear s1))
            all_goals clear H1 H2 H3 sA sB c1 c1d kA kB kC
            have tE := hid sC.out.td
            have lE := sC.out.le
            clear sC
            have lb : 0 < b'.l.length := by omega
            have hl16 : b'.l.length ≤ 16 := by omega
            go_wp2_with fail
            have q1 := tE.out.leans lb
            unfold pt at q1
            rw [hbl'] at q1
            refine q1.mono ?_
            rintro e w5 ⟨d1, cp1, cur, rfl, N1, hd, hcur, hcs, t5, b5⟩
            clear q1 tE lb
            have hd0 : M ≤ d1 := Nat.le_trans lE hd
            have T5 : Hid (Td w w5.drew F g b' r gg n cap' b' Vf B0) := hid (t5.below (Below.drewN w5.heap.size w5 1))
            have kk0 : w5.drew.cell? ⟨r, 2, none⟩ = some (.int .i64 (b'.bits : Nat)) := T5.out.bitsCell
            have hM5 : M ≤ w5.heap.size := Nat.le_trans lE b5.size
            have N1h := hid N1
            have hcurh := hid hcur
            have H4 := hid (T5.out.leansD n1)
            have H5 := hid (fun W d2 cp2 (x : Below w5.drew.heap.size w5.drew W) (N2 : Ns W d2 b'.leans) => SameInts_yes (ca := cp1) (cc := cp2) (show b'.leans.length = n by rw [b'.leans_len, hbl']) n16 ((show Ns w5.drew d1 b'.leans from N1h.out).below x) N2)
            have H6 := hid (fun W (t : Td w W F g b' r gg n cap' b' Vf B0) => t.guess)
            have H7 := hid (fun W (t : Td w W F g b' r gg n cap' b' Vf B0) => t.guess2)
            have H8 := hid (fun W (t : Td w W F g b' r gg n cap' b' Vf B0) => t.bits)
            have gr0 := b'.guess_range.1
            have gr1 := b'.guess_range.2
            unfold pt at H6 H8
            clear t5 b5 N1 hcur
            go_wp2_with fail
            go_region_held3 (fun w' => w'.cell? ⟨r, 2, none⟩ = some (.int .i64 (b'.bits : Nat)))
              (first | exact kk0 | exact kk1 | exact kk2 | exact kk3 | exact kk4 | go_keep)
              (first
              | ((with_reducible refine (H8.out _ T4.out).mono ?_); rintro rr v5 ⟨rfl, rfl⟩)
              | ((with_reducible refine (H7.out _ T3.out).mono ?_); rintro rr v4 ⟨rfl, t4, x4⟩; have T4 := hid t4; have X4 := hid (X3.out.trans (x4.mono X3.out.size)); have kk4 := t4.bitsCell; clear t4 x4)
              | ((with_reducible refine (H6.out _ T2.out).mono ?_); rintro rr v3 ⟨rfl, t3, x3⟩; have T3 := hid t3; have X3 := hid (X2.out.trans (x3.mono X2.out.size)); have kk3 := t3.bitsCell; clear t3 x3)
              | ((with_reducible refine (H5.out _ _ _ X1.out N2.out).mono ?_); rintro rr v2 ⟨rfl, x2⟩; have T2 := hid (T1.out.below x2); have X2 := hid (X1.out.trans (x2.mono X1.out.size)); have kk2 := T2.out.bitsCell; clear x2)
              | ((with_reducible refine H4.out.mono ?_); rintro rr v1 ⟨d2, cp2, rfl, n2, t1, x1⟩; have N2 := hid n2; have T1 := hid t1; have X1 := hid x1; have kk1 := t1.bitsCell; clear n2 t1 x1))
            all_goals (
              have hc4 : v4.heap[d1]? = some (.cells cur 3 (0, 0)) := (X4.out.block d1 (lt_of_heap hcurh.out)).trans hcurh.out
              have hM4 : M ≤ v4.heap.size := by have : w5.heap.size ≤ v4.heap.size := X4.out.size; omega
              have T9 := hid T4.out
              clear H4 H5 H6 H7 H8 T1 T2 T3 T4 T5 X1 X2 X3 X4 N2 N1h hcurh kk0 kk1 kk2 kk3 kk4
              go_wp2_with fail
              go_loopw [131] (fun vj wx => ∃ j : Nat, j ≤ n ∧ vj = .int .i64 (j : Int) ∧ But (· = d1) v4 wx ∧ ∃ cu, wx.heap[d1]? = some (.cells cu 3 (0, 0)) ∧ n ≤ cu.size) (fun vj _ => n - (intOf vj).toNat)
              case atStart => exact ⟨0, Nat.zero_le _, rfl, But.refl _ _, _, hc4, hcs⟩
              case round =>
                obtain ⟨j, hj, rfl, bx, cu, hcu, hcuz⟩ := hrel
                by_cases hjn : j < n
                · have z3 : (j : Int) < (n : Int) := by omega
                  have kj : wr.cell? ⟨d1, j, none⟩ = some cu[j] := (row_cell hcu j).trans (Array.getElem?_eq_getElem (by omega))
                  have fj : wr.frozen? ⟨d1, j, none⟩ = false := row_free hcu j
                  have BX := hid (bx.set ⟨d1, j, none⟩ (.int .i64 9999) (.inl rfl))
                  have CX := hid (row_set hcu j (.int .i64 9999))
                  generalize cu[j] = uj at *
                  clear bx hcu hc4
                  go_wp2_with fail
                  go_roundw
                  case rel => exact ⟨j + 1, by omega, by go_num, BX.out, _, CX.out, by simp; omega⟩
                  case measure => simp [intOf]; omega
                · obtain rfl : n = j := by omega
                  have T10 := hid (T9.out.but bx (fun a e => by have e2 : a = d1 := e; omega) (fun a ha e => by have e2 : a = d1 := e; have := hF a ha; omega) (fun a ha e => by have e2 : a = d1 := e; have := hMn a ha; omega))
                  have hM10 : M ≤ wr.heap.size := Nat.le_trans hM4 bx.size
                  clear bx hcu hc4 T9
                  go_wp2_with fail
                  go_roundw
                  case rel => exact ⟨i + 1, by omega, by omega, by go_num, b', T10, hbl', hbw', hM10⟩
                  case measure => simp [intOf]; omega)
          · go_wp2_with fail
            obtain ⟨W, hW⟩ : ∃ W, W = wr.alloc (Obj.cells #[Value.int IntKind.i64 K, Value.slice Ah m mc, Value.int IntKind.i64 bt] 41) := ⟨_, rfl⟩
            rw [← hW]
            have BW : Below wr.heap.size wr W := by rw [hW]; exact (Below.refl _ _).alloc (Nat.le_refl _) _
            have gw : W.heap[wr.heap.size]? = some (.cells #[Value.int IntKind.i64 K, Value.slice Ah m mc, Value.int IntKind.i64 bt] 41 (0, 0)) := by rw [hW]; exact heap_alloc_new wr _
            have bW : Below w.heap.size w W := TD.out.one.bel.trans (BW.mono TD.out.one.bel.size)
            clear hW k0 k1 k2
            have SI : Hid (Sit w W F g b r gg n cap' b Vf B0 M wr.heap.size K Ah m mc bt none 0 hs) := hid ⟨TD.out.below BW, gw, hM, ws.keep bW, fun k => absurd k hK, fun k => absurd k hK, hF, hMn, m4, by have := BW.size; omega⟩
            have SD : Hid (Sit w W.drew F g b r gg n cap' b Vf B0 M wr.heap.size K Ah m mc bt none 0 hs) := hid (SI.out.below (Below.drewN W.heap.size W 1))
            have c1 := SI.out.cells.2.2
            have c1d := SD.out.cells.2.2
            have H1 := hid (SD.out.bit (by omega))
            have H2 := hid (fun W (s : Sit w W F g (bitThen b bt) r gg n cap' b Vf B0 M wr.heap.size K Ah m mc bt none 0 hs) => s.bit2 (by omega))
            have HT := hid (bitThen_len b bt)
            generalize bitThen b bt = b' at *
            generalize bitCode bt = cd at *
            unfold pt at H1
            clear ws BW gw bW SI SD TD
            generalize wr.heap.size = q at *
            have hbl' : b'.l.length = n := HT.out.1.trans hbl
            have hbw' : b'.whole ≤ i + 1 := by have := HT.out.2; omega
            clear HT
            go_region_held3 (fun w' => w'.cell? ⟨q, 2, none⟩ = some (.int .i64 bt))
              (first | exact c1d | exact kA | exact kB | exact kC | go_keep)
              (first
              | ((with_reducible refine (H2.out _ sA.out).mono ?_); rintro rr wB ⟨rfl, s2⟩; have kB := s2.cells.2.2; have sB := hid s2; clear s2)
              | ((with_reducible refine H1.out.mono ?_); rintro rr wA ⟨rfl, s1⟩; have kA := s1.cells.2.2; have sA := hid s1; clear s1))
            all_goals clear H1 H2 sA c1 c1d kA kB
            have tE := hid sB.out.td
            have lE := sB.out.le
            clear sB
            have lb : 0 < b'.l.length := by omega
            have hl16 : b'.l.length ≤ 16 := by omega
            go_wp2_with fail
            have q1 := tE.out.leans lb
            unfold pt at q1
            rw [hbl'] at q1
            refine q1.mono ?_
            rintro e w5 ⟨d1, cp1, cur, rfl, N1, hd, hcur, hcs, t5, b5⟩
            clear q1 tE lb
            have hd0 : M ≤ d1 := Nat.le_trans lE hd
            have T5 : Hid (Td w w5.drew F g b' r gg n cap' b' Vf B0) := hid (t5.below (Below.drewN w5.heap.size w5 1))
            have kk0 : w5.drew.cell? ⟨r, 2, none⟩ = some (.int .i64 (b'.bits : Nat)) := T5.out.bitsCell
            have hM5 : M ≤ w5.heap.size := Nat.le_trans lE b5.size
            have N1h := hid N1
            have hcurh := hid hcur
            have H4 := hid (T5.out.leansD n1)
            have H5 := hid (fun W d2 cp2 (x : Below w5.drew.heap.size w5.drew W) (N2 : Ns W d2 b'.leans) => SameInts_yes (ca := cp1) (cc := cp2) (show b'.leans.length = n by rw [b'.leans_len, hbl']) n16 ((show Ns w5.drew d1 b'.leans from N1h.out).below x) N2)
            have H6 := hid (fun W (t : Td w W F g b' r gg n cap' b' Vf B0) => t.guess)
            have H7 := hid (fun W (t : Td w W F g b' r gg n cap' b' Vf B0) => t.guess2)
            have H8 := hid (fun W (t : Td w W F g b' r gg n cap' b' Vf B0) => t.bits)
            have gr0 := b'.guess_range.1
            have gr1 := b'.guess_range.2
            unfold pt at H6 H8
            clear t5 b5 N1 hcur
            go_wp2_with fail
            go_region_held3 (fun w' => w'.cell? ⟨r, 2, none⟩ = some (.int .i64 (b'.bits : Nat)))
              (first | exact kk0 | exact kk1 | exact kk2 | exact kk3 | exact kk4 | go_keep)
              (first
              | ((with_reducible refine (H8.out _ T4.out).mono ?_); rintro rr v5 ⟨rfl, rfl⟩)
              | ((with_reducible refine (H7.out _ T3.out).mono ?_); rintro rr v4 ⟨rfl, t4, x4⟩; have T4 := hid t4; have X4 := hid (X3.out.trans (x4.mono X3.out.size)); have kk4 := t4.bitsCell; clear t4 x4)
              | ((with_reducible refine (H6.out _ T2.out).mono ?_); rintro rr v3 ⟨rfl, t3, x3⟩; have T3 := hid t3; have X3 := hid (X2.out.trans (x3.mono X2.out.size)); have kk3 := t3.bitsCell; clear t3 x3)
              | ((with_reducible refine (H5.out _ _ _ X1.out N2.out).mono ?_); rintro rr v2 ⟨rfl, x2⟩; have T2 := hid (T1.out.below x2); have X2 := hid (X1.out.trans (x2.mono X1.out.size)); have kk2 := T2.out.bitsCell; clear x2)
              | ((with_reducible refine H4.out.mono ?_); rintro rr v1 ⟨d2, cp2, rfl, n2, t1, x1⟩; have N2 := hid n2; have T1 := hid t1; have X1 := hid x1; have kk1 := t1.bitsCell; clear n2 t1 x1))
            all_goals (
              have hc4 : v4.heap[d1]? = some (.cells cur 3 (0, 0)) := (X4.out.block d1 (lt_of_heap hcurh.out)).trans hcurh.out
              have hM4 : M ≤ v4.heap.size := by have : w5.heap.size ≤ v4.heap.size := X4.out.size; omega
              have T9 := hid T4.out
              clear H4 H5 H6 H7 H8 T1 T2 T3 T4 T5 X1 X2 X3 X4 N2 N1h hcurh kk0 kk1 kk2 kk3 kk4
              go_wp2_with fail
              go_loopw [131] (fun vj wx => ∃ j : Nat, j ≤ n ∧ vj = .int .i64 (j : Int) ∧ But (· = d1) v4 wx ∧ ∃ cu, wx.heap[d1]? = some (.cells cu 3 (0, 0)) ∧ n ≤ cu.size) (fun vj _ => n - (intOf vj).toNat)
              case atStart => exact ⟨0, Nat.zero_le _, rfl, But.refl _ _, _, hc4, hcs⟩
              case round =>
                obtain ⟨j, hj, rfl, bx, cu, hcu, hcuz⟩ := hrel
                by_cases hjn : j < n
                · have z3 : (j : Int) < (n : Int) := by omega
                  have kj : wr.cell? ⟨d1, j, none⟩ = some cu[j] := (row_cell hcu j).trans (Array.getElem?_eq_getElem (by omega))
                  have fj : wr.frozen? ⟨d1, j, none⟩ = false := row_free hcu j
                  have BX := hid (bx.set ⟨d1, j, none⟩ (.int .i64 9999) (.inl rfl))
                  have CX := hid (row_set hcu j (.int .i64 9999))
                  generalize cu[j] = uj at *
                  clear bx hcu hc4
                  go_wp2_with fail
                  go_roundw
                  case rel => exact ⟨j + 1, by omega, by go_num, BX.out, _, CX.out, by simp; omega⟩
                  case measure => simp [intOf]; omega
                · obtain rfl : n = j := by omega
                  have T10 := hid (T9.out.but bx (fun a e => by have e2 : a = d1 := e; omega) (fun a ha e => by have e2 : a = d1 := e; have := hF a ha; omega) (fun a ha e => by have e2 : a = d1 := e; have := hMn a ha; omega))
                  have hM10 : M ≤ wr.heap.size := Nat.le_trans hM4 bx.size
                  clear bx hcu hc4 T9
                  go_wp2_with fail
                  go_roundw
                  case rel => exact ⟨i + 1, by omega, by omega, by go_num, b', T10, hbl', hbw', hM10⟩
                  case measure => simp [intOf]; omega)
        · have HAx := hid (HA.out _ TD.out.one.kn TD.out.one.bel)
          clear TD AC HA
          by_cases hgl : i < len
          · have z1 : (i : Int) < (len : Int) := by omega
            have z2 : ¬ (i : Int) < 250 := by omega
            go_wp2_with fail
            refine HAx.out.mono ?_
            rintro e w9 ⟨rfl, b9⟩
            go_wp2_with fail
            go_ret
            exact ⟨rfl, b9⟩
          · have z1 : ¬ (i : Int) < (len : Int) := by omega
            go_wp2_with fail
            refine HAx.out.mono ?_
            rintro e w9 ⟨rfl, b9⟩
            go_wp2_with fail
            go_ret
            exact ⟨rfl, b9⟩
end Go.Proofs.YtkfdbibgjoaefaaGreatDoor
/-
  BlendTells' walk (written by tools/stage12/gen_lww.py).
-/
namespace Go.Proofs.YtkfdbibgjoaefaaGreatDoor
open Go.RowKit
set_option linter.unusedVariables false
set_option linter.unusedSimpArgs false

set_option maxRecDepth 10000 in
set_option maxHeartbeats 2000000 in
theorem tells_any (w : World) (kn : KnIs w) (A : Option Addr) (n c : Nat) (L : List Pt) (h : IsP w w.heap.size A n c L) (hn : n * 56 ≤ 140737488351232) (a : Option Addr) (len cap : Nat) (acts : ActsM w w.heap.size a len cap) :
    Calls Tryz.prog 3 #[.slice A n c, .slice a len cap] w fun e w' => e = .returned (.bool true) ∧ Below w.heap.size w w' := by
  have HA := hid (fun W (k : KnIs W) (b : Below w.heap.size w W) => (awake_any W k).mono (fun e W' q => (⟨q.1, b.trans (q.2.mono b.size)⟩ : e = .returned (.bool true) ∧ Below w.heap.size w W')))
  obtain ⟨gr, HG⟩ := great_is A n c L w h
  cases gr with
  | true =>
    have KN := hid kn
    clear h acts kn
    go_enter Tryz.func3, Tryz.ntmps3
    go_wp2_with fail
    refine HG.mono ?_
    rintro e w1 ⟨rfl, b1⟩
    go_wp2_with fail
    refine (HA.out _ (KN.out.below b1) b1).mono ?_
    rintro e w2 ⟨rfl, b2⟩
    go_wp2_with fail
    go_ret
    exact ⟨rfl, b2⟩
  | false =>
    by_cases hr : rightP L = 0
    · exact tells_good w kn A n c L h hr a len cap acts HG
    · have HGh := hid HG
      have HC := hid (fun W (b : Below w.heap.size w W) => CopyParts_big A n c L W ((h.below b).up b.size) hn)
      have HN := hid (fun W A' c' (ip : IsP W W.heap.size A' n c' L) => New_bad A' n c' L W ip hr)
      have HR := hid (fun W (b : Below w.heap.size w W) => rNew_bad A n c L W ((h.below b).up b.size) hr)
      have HS := hid (fun W A' c' (b : Below w.heap.size w W) (ip : IsP W W.heap.size A' n c' L) => SameParts_any A' c' A c n L W ip ((h.below b).up b.size))
      have HZ := hid (fun W => guess_nil W)
      have KN := hid kn
      have hr2 : (rightP L != 0) = true := by simpa using hr
      generalize rightP L = er at *
      clear h acts kn HG
      go_enter Tryz.func3, Tryz.ntmps3
      go_wp2_with fail
      refine HGh.out.mono ?_
      rintro e w1 ⟨rfl, b1⟩
      go_wp2_with fail
      refine (HC.out _ b1).mono ?_
      rintro e w2 ⟨A2, c2, rfl, ip2, ow2, b2⟩
      have b02 : Below w.heap.size w w2 := b1.trans (b2.mono b1.size)
      have IP2 := hid ip2
      clear ip2 ow2
      go_wp2_with fail
      refine (HN.out _ _ _ IP2.out).mono ?_
      rintro e w3 ⟨rfl, b3⟩
      have b03 : Below w.heap.size w w3 := b02.trans (b3.mono b02.size)
      go_wp2_with fail
      refine (HR.out _ b03).mono ?_
      rintro e w4 ⟨rfl, b4⟩
      have b04 : Below w.heap.size w w4 := b03.trans (b4.mono b03.size)
      have b24 : Below w2.heap.size w2 w4 := b3.trans (b4.mono b3.size)
      go_wp2_with fail
      refine (HS.out _ _ _ b04 ((IP2.out.below b24).up b24.size)).mono ?_
      rintro e w5 ⟨rfl, j, rfl⟩
      have b05 : Below w.heap.size w (w4.drewN j) := b04.trans ((Below.drewN w4.heap.size w4 j).mono b04.size)
      clear HC HN HR HS IP2 b1 b2 b3 b4 b02 b03 b04 b24 HGh
      generalize w4.drewN j = w5 at *
      go_wp2_with fail
      refine (HZ.out _).mono ?_
      rintro e w6 ⟨rfl, rfl⟩
      go_wp2_with fail
      refine (HA.out _ (KN.out.below b05) b05).mono ?_
      rintro e w7 ⟨rfl, b7⟩
      go_wp2_with fail
      go_ret
      exact ⟨rfl, b7⟩
end Go.Proofs.YtkfdbibgjoaefaaGreatDoor
