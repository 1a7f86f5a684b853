/-
  Merged: Smg SamW.
-/
import Derived.Test.YtkfdbibgjoaefaaDoorZj
/-
  BlendSame's walk: the loop over the acts.
-/
namespace Go.Proofs.YtkfdbibgjoaefaaDoor
open Go.RowKit

/-- Two blends that are the same, after i acts at most. -/
def Twin (w : World) (F1 F2 : Nat → Prop) (g1 g2 n M i : Nat) (wr : World) : Prop := ∃ b, Sd w wr F1 F2 g1 g2 b b ∧ b.l.length = n ∧ b.whole ≤ i ∧ M ≤ wr.heap.size
set_option maxRecDepth 10000 in
set_option maxHeartbeats 1000000 in
theorem same_good (w : World) (kn : KnIs w) (A : Option Addr) (n c : Nat) (L : List Pt) (h : IsP w w.heap.size A n c L) (hr : rightP L = 0) (a : Option Addr) (len cap : Nat) (acts : ActsL w w.heap.size a len cap) (hg : Calls Tryd.prog 12 #[.slice A n c] w fun e w' => e = .returned (.bool false) ∧ Below w.heap.size w w') : Calls Tryd.prog 4 #[.slice A n c, .slice a len cap] w fun e w' => e = .returned (.bool true) ∧ Below w.heap.size w w' := by
  have w0 := kn_pos kn
  have HG := hid hg
  have HN := hid (fun W (b : Below w.heap.size w W) => On.new (w0 := w) ((h.below b).up b.size) hr (kn.below b) b w0 (kinds_right hr))
  have HA := hid (fun W (k : KnIs W) (b : Below w.heap.size w W) => (awake_any W k).mono (fun e W' q => (⟨q.1, b.trans (q.2.mono b.size)⟩ : e = .returned (.bool true) ∧ Below w.heap.size w W')))
  have hnl : (Bl.new L).l.length = n := by rw [← h.len]; simp [Bl.new]
  have lm := acts.1
  have lx := acts.2.1
  unfold maxLen at lx
  have AC := hid acts
  clear hg h
  unfold pt at *
  go_enter Tryd.func4, Tryd.ntmps4
  go_wp2_with fail
  refine HG.out.mono ?_
  rintro e w1 ⟨rfl, b1⟩
  go_wp2_with fail
  refine (HN.out _ b1).mono ?_
  rintro e w2 ⟨g1, rfl, o1, b2⟩
  go_wp2_with fail
  refine (HN.out _ o1.bel).mono ?_
  rintro e w3 ⟨g2, rfl, o2, b3⟩
  have s0 : Sd w w3 _ _ g1 g2 (Bl.new L) (Bl.new L) := ⟨o1.below b3, o2, fun a h1 h2 => by have := h1.2; have := h2.1; omega⟩
  obtain ⟨M, hM⟩ : ∃ M, w3.heap.size = M := ⟨_, rfl⟩
  obtain ⟨F1, e1⟩ : ∃ F1 : Nat → Prop, F1 = fun a => w1.heap.size ≤ a ∧ a < w2.heap.size := ⟨_, rfl⟩
  obtain ⟨F2, e2⟩ : ∃ F2 : Nat → Prop, F2 = fun a => w2.heap.size ≤ a ∧ a < w3.heap.size := ⟨_, rfl⟩
  have hF1 : ∀ a, F1 a → a < M := fun a h => by rw [e1] at h; have := h.2; have := b3.size; omega
  have hF2 : ∀ a, F2 a → a < M := fun a h => by rw [e2] at h; have := h.2; omega
  rw [← e1, ← e2] at s0
  clear e1 e2
  have t0 : Twin w F1 F2 g1 g2 n M 0 w3 := ⟨_, s0, hnl, Nat.le_refl _, by omega⟩
  clear o1 o2 b1 b2 b3 s0 HN HG hnl hM kn
  go_wp2_with fail
  go_loopw [9] (fun vi wr => ∃ i : Nat, i ≤ len ∧ i ≤ 400 ∧ vi = .int .i64 i ∧ Twin w F1 F2 g1 g2 n M i wr) (fun vi _ => 400 - (intOf vi).toNat)
  case atStart => exact ⟨0, Nat.zero_le _, Nat.zero_le _, rfl, t0⟩
  case round =>
    obtain ⟨i, hi, hi4, rfl, b, sd, hbl, hbw, hM⟩ := hrel
    clear t0
    by_cases hgo : i < len ∧ i < 400
    · have z1 : (i : Int) < (len : Int) := by omega
      have z2 : (i : Int) < 400 := by omega
      obtain ⟨ad, K, bt, Ah, m, mc, hs, rfl, hadB, k0, k1, k2, ws⟩ := AC.out.2.2 i hgo.1
      have kk : ∀ j v, w.cell? (ad.add j) = some v → wr.cell? (ad.add j) = some v := fun j v hv => (World.cell?_of_block (sd.one.bel.block _ (by rw [block_of_add]; exact hadB))).trans hv
      have k0 := kk _ _ k0
      have k1 : wr.cell? ⟨(ad.add (i * 3)).block, (ad.add (i * 3)).off + 1, none⟩ = some (.slice Ah m mc) := by
        have := kk _ _ k1
        rw [← add_of_add] at this
        exact this
      have k2 : wr.cell? ⟨(ad.add (i * 3)).block, (ad.add (i * 3)).off + 2, none⟩ = some (.int .i64 bt) := by
        have := kk _ _ k2
        rw [← add_of_add] at this
        exact this
      have f1 : ¬ F1 wr.heap.size := fun h => by have := hF1 _ h; omega
      have f2 : ¬ F2 wr.heap.size := fun h => by have := hF2 _ h; omega
      clear acts kk
      by_cases hK : K = 0
      · subst hK
        have H1 := hid (fun W (k : Below wr.heap.size wr W) => (sd.below k).ctx (ws.keep (sd.below k).one.bel))
        have H2 := hid (fun W (k : Below wr.heap.size wr W) => (sd.below k).ctx2 (ws.keep (sd.below k).one.bel))
        have H12 := hid (fun W (k : Sd w W F1 F2 g1 g2 (ctxThen b hs) b) => k.ctx2 (ws.keep k.one.bel))
        have H21 := hid (fun W (k : Sd w W F1 F2 g1 g2 b (ctxThen b hs)) => k.ctx (ws.keep k.one.bel))
        have HT := hid (ctxThen_len b hs)
        generalize ctxThen b hs = b' at *
        generalize ctxCode b = cd at *
        unfold pt at H1 H2 H12 H21
        clear sd ws
        go_wp2_with fail
        obtain ⟨W, hW⟩ : ∃ W, W = wr.alloc (Obj.cells #[Value.int IntKind.i64 0, Value.slice Ah m mc, Value.int IntKind.i64 bt] 42) := ⟨_, rfl⟩
        rw [← hW]
        have BW : Below wr.heap.size wr W := by rw [hW]; exact (Below.refl _ _).alloc (Nat.le_refl _) _
        have gw : W.heap[wr.heap.size]? = some (.cells #[Value.int IntKind.i64 0, Value.slice Ah m mc, Value.int IntKind.i64 bt] 42 (0, 0)) := by rw [hW]; exact heap_alloc_new wr _
        have g4 : W.cell? ⟨wr.heap.size, 1, none⟩ = some (.slice Ah m mc) := row_cell gw 1
        have B1 : Hid (Below wr.heap.size wr W.drew) := hid (BW.trans ((Below.drewN _ W 1).mono (Nat.le_refl wr.heap.size)))
        have g4d : W.drew.cell? ⟨wr.heap.size, 1, none⟩ = some (.slice Ah m mc) := keeps (Below.drewN _ W 1) g4
        have hMW : M ≤ W.drew.heap.size := Nat.le_trans (Nat.le_trans hM BW.size) (Below.drewN W.heap.size W 1).size
        clear hW gw BW k0 k1 k2
        generalize wr.heap.size = q at *
        go_region_held3 (fun w' => w'.cell? ⟨q, 1, none⟩ = some (.slice Ah m mc))
          (first | exact g4 | exact k4 | go_keep)
          (first
          | ((with_reducible refine (H12.out _ sdA).mono ?_); rintro r wB ⟨rfl, sdC, x2⟩; have k4 := x2.cell k4 f2; have hMB : M ≤ wB.heap.size := Nat.le_trans hMA x2.size)
          | ((with_reducible refine (H21.out _ sdB).mono ?_); rintro r wB ⟨rfl, sdC, x2⟩; have k4 := x2.cell k4 f1; have hMB : M ≤ wB.heap.size := Nat.le_trans hMA x2.size)
          | ((with_reducible refine (H1.out _ B1.out).mono ?_); rintro r wA ⟨rfl, sdA, x1⟩; have k4 := x1.cell g4d f1; have hMA : M ≤ wA.heap.size := Nat.le_trans hMW x1.size)
          | ((with_reducible refine (H2.out _ B1.out).mono ?_); rintro r wA ⟨rfl, sdB, x1⟩; have k4 := x1.cell g4d f2; have hMA : M ≤ wA.heap.size := Nat.le_trans hMW x1.size))
        all_goals
          go_wp2_with fail
          have q1 := sdC.leans
          unfold pt at q1
          refine q1.mono ?_
          rintro e w5 ⟨⟨d1, cp1, rfl, N1⟩, sd5, b5⟩
          clear q1
          go_wp2_with fail
          have q2 := sd5.leans2
          unfold pt at q2
          refine q2.mono ?_
          rintro e w6 ⟨⟨d2, cp2, rfl, N2⟩, sd6, b6⟩
          clear q2
          have hl16 : b'.l.length ≤ 16 := (right_len sd6.one.fit.ok.parts).2
          go_wp2_with fail
          refine (SameInts_yes b'.leans_len hl16 (N1.below b6) N2).mono ?_
          rintro e w7 ⟨rfl, b7⟩
          have sd7 := sd6.below b7
          go_wp2_with fail
          have q3 := sd7.guessB
          unfold pt at q3
          refine q3.mono ?_
          rintro e w8 ⟨rfl, sd8, b8⟩
          clear q3
          go_wp2_with fail
          have q4 := sd8.guessB2
          unfold pt at q4
          refine q4.mono ?_
          rintro e w9 ⟨rfl, sd9, b9⟩
          clear q4
          go_wp2_with fail
          have q5 := sd9.guessB
          unfold pt at q5
          refine q5.mono ?_
          rintro e w10 ⟨rfl, sd10, b10⟩
          clear q5
          have gr0 := b'.guess_range.1
          have gr1 := b'.guess_range.2
          go_wp2_with fail
          have q6 := sd10.guessB
          unfold pt at q6
          refine q6.mono ?_
          rintro e w11 ⟨rfl, sd11, b11⟩
          clear q6
          have N11 : Ns w11 d1 b'.leans := ((((N1.below b6).below b7).below b8).below b9 |>.below b10).below b11
          have hM11 : M ≤ w11.heap.size := by have := b5.size; have := b6.size; have := b7.size; have := b8.size; have := b9.size; have := b10.size; have := b11.size; omega
          have hbl' : b'.l.length = n := HT.out.1.trans hbl
          have hbw' : b'.whole ≤ i + 1 := by have := HT.out.2; omega
          have rng := sd11.one.fit.ok.range
          have hll := b'.leans_len
          clear sdC sd5 sd6 sd7 sd8 sd9 sd10 b5 b6 b7 b8 b9 b10 b11 N1 N2
          rw [hbl'] at hl16 hll
          rw [hbl']
          go_wp2_with fail
          go_loopw [101] (fun vj wx => ∃ j : Nat, j ≤ n ∧ vj = .int .i64 j ∧ wx = w11) (fun vj _ => n - (intOf vj).toNat)
          case atStart => exact ⟨0, Nat.zero_le _, rfl, rfl⟩
          case round =>
            obtain ⟨j, hj, rfl, rfl⟩ := hrel
            by_cases hjn : j < n
            · have z3 : (j : Int) < (n : Int) := by omega
              have nj := N11 j (by omega)
              have yr := lean_in rng j
              unfold Lean1 at yr
              obtain ⟨y0, y1⟩ := yr
              generalize b'.leans.getD j 0 = y at *
              clear N11 rng
              go_wp2_with fail
              go_roundw
              case rel => exact ⟨j + 1, by omega, by go_num, trivial⟩
              case measure => simp [intOf]; omega
            · obtain rfl : j = n := by omega
              clear N11 rng
              go_wp2_with fail
              go_roundw
              case rel => exact ⟨i + 1, by omega, by omega, by go_num, b', sd11, hbl', hbw', hM11⟩
              case measure => simp [intOf]; omega
      · have hwb : b.whole < 4294967294 := by omega
        have H1 := hid (fun W (k : Below wr.heap.size wr W) => (sd.below k).bit bt hwb)
        have H2 := hid (fun W (k : Below wr.heap.size wr W) => (sd.below k).bit2 bt hwb)
        have H12 := hid (fun W (k : Sd w W F1 F2 g1 g2 (bitThen b bt) b) => k.bit2 bt hwb)
        have H21 := hid (fun W (k : Sd w W F1 F2 g1 g2 b (bitThen b bt)) => k.bit bt hwb)
        have HT := hid (bitThen_len b bt)
        generalize bitThen b bt = b' at *
        generalize bitCode bt = cd at *
        unfold pt at H1 H2 H12 H21
        clear sd ws
        go_wp2_with fail
        obtain ⟨W, hW⟩ : ∃ W, W = wr.alloc (Obj.cells #[Value.int IntKind.i64 K, Value.slice Ah m mc, Value.int IntKind.i64 bt] 42) := ⟨_, rfl⟩
        rw [← hW]
        have BW : Below wr.heap.size wr W := by rw [hW]; exact (Below.refl _ _).alloc (Nat.le_refl _) _
        have gw : W.heap[wr.heap.size]? = some (.cells #[Value.int IntKind.i64 K, Value.slice Ah m mc, Value.int IntKind.i64 bt] 42 (0, 0)) := by rw [hW]; exact heap_alloc_new wr _
        have g4 : W.cell? ⟨wr.heap.size, 2, none⟩ = some (.int .i64 bt) := row_cell gw 2
        have B1 : Hid (Below wr.heap.size wr W.drew) := hid (BW.trans ((Below.drewN _ W 1).mono (Nat.le_refl wr.heap.size)))
        have g4d : W.drew.cell? ⟨wr.heap.size, 2, none⟩ = some (.int .i64 bt) := keeps (Below.drewN _ W 1) g4
        have hMW : M ≤ W.drew.heap.size := Nat.le_trans (Nat.le_trans hM BW.size) (Below.drewN W.heap.size W 1).size
        clear hW gw BW k0 k1 k2
        generalize wr.heap.size = q at *
        go_region_held3 (fun w' => w'.cell? ⟨q, 2, none⟩ = some (.int .i64 bt))
          (first | exact g4 | exact k4 | go_keep)
          (first
          | ((with_reducible refine (H12.out _ sdA).mono ?_); rintro r wB ⟨rfl, sdC, x2⟩; have k4 := x2.cell k4 f2; have hMB : M ≤ wB.heap.size := Nat.le_trans hMA x2.size)
          | ((with_reducible refine (H21.out _ sdB).mono ?_); rintro r wB ⟨rfl, sdC, x2⟩; have k4 := x2.cell k4 f1; have hMB : M ≤ wB.heap.size := Nat.le_trans hMA x2.size)
          | ((with_reducible refine (H1.out _ B1.out).mono ?_); rintro r wA ⟨rfl, sdA, x1⟩; have k4 := x1.cell g4d f1; have hMA : M ≤ wA.heap.size := Nat.le_trans hMW x1.size)
          | ((with_reducible refine (H2.out _ B1.out).mono ?_); rintro r wA ⟨rfl, sdB, x1⟩; have k4 := x1.cell g4d f2; have hMA : M ≤ wA.heap.size := Nat.le_trans hMW x1.size))
        all_goals
          go_wp2_with fail
          have q1 := sdC.leans
          unfold pt at q1
          refine q1.mono ?_
          rintro e w5 ⟨⟨d1, cp1, rfl, N1⟩, sd5, b5⟩
          clear q1
          go_wp2_with fail
          have q2 := sd5.leans2
          unfold pt at q2
          refine q2.mono ?_
          rintro e w6 ⟨⟨d2, cp2, rfl, N2⟩, sd6, b6⟩
          clear q2
          have hl16 : b'.l.length ≤ 16 := (right_len sd6.one.fit.ok.parts).2
          go_wp2_with fail
          refine (SameInts_yes b'.leans_len hl16 (N1.below b6) N2).mono ?_
          rintro e w7 ⟨rfl, b7⟩
          have sd7 := sd6.below b7
          go_wp2_with fail
          have q3 := sd7.guessB
          unfold pt at q3
          refine q3.mono ?_
          rintro e w8 ⟨rfl, sd8, b8⟩
          clear q3
          go_wp2_with fail
          have q4 := sd8.guessB2
          unfold pt at q4
          refine q4.mono ?_
          rintro e w9 ⟨rfl, sd9, b9⟩
          clear q4
          go_wp2_with fail
          have q5 := sd9.guessB
          unfold pt at q5
          refine q5.mono ?_
          rintro e w10 ⟨rfl, sd10, b10⟩
          clear q5
          have gr0 := b'.guess_range.1
          have gr1 := b'.guess_range.2
          go_wp2_with fail
          have q6 := sd10.guessB
          unfold pt at q6
          refine q6.mono ?_
          rintro e w11 ⟨rfl, sd11, b11⟩
          clear q6
          have N11 : Ns w11 d1 b'.leans := ((((N1.below b6).below b7).below b8).below b9 |>.below b10).below b11
          have hM11 : M ≤ w11.heap.size := by have := b5.size; have := b6.size; have := b7.size; have := b8.size; have := b9.size; have := b10.size; have := b11.size; omega
          have hbl' : b'.l.length = n := HT.out.1.trans hbl
          have hbw' : b'.whole ≤ i + 1 := by have := HT.out.2; omega
          have rng := sd11.one.fit.ok.range
          have hll := b'.leans_len
          clear sdC sd5 sd6 sd7 sd8 sd9 sd10 b5 b6 b7 b8 b9 b10 b11 N1 N2
          rw [hbl'] at hl16 hll
          rw [hbl']
          go_wp2_with fail
          go_loopw [101] (fun vj wx => ∃ j : Nat, j ≤ n ∧ vj = .int .i64 j ∧ wx = w11) (fun vj _ => n - (intOf vj).toNat)
          case atStart => exact ⟨0, Nat.zero_le _, rfl, rfl⟩
          case round =>
            obtain ⟨j, hj, rfl, rfl⟩ := hrel
            by_cases hjn : j < n
            · have z3 : (j : Int) < (n : Int) := by omega
              have nj := N11 j (by omega)
              have yr := lean_in rng j
              unfold Lean1 at yr
              obtain ⟨y0, y1⟩ := yr
              generalize b'.leans.getD j 0 = y at *
              clear N11 rng
              go_wp2_with fail
              go_roundw
              case rel => exact ⟨j + 1, by omega, by go_num, trivial⟩
              case measure => simp [intOf]; omega
            · obtain rfl : j = n := by omega
              clear N11 rng
              go_wp2_with fail
              go_roundw
              case rel => exact ⟨i + 1, by omega, by omega, by go_num, b', sd11, hbl', hbw', hM11⟩
              case measure => simp [intOf]; omega
    · have kn' := sd.one.kn
      have bel' := sd.one.bel
      have hAA := HA.out _ kn' bel'
      clear acts sd
      by_cases hl : i < len
      · obtain rfl : i = 400 := by omega
        have z1 : ((400 : Nat) : Int) < (len : Int) := by omega
        go_wp2_with fail
        refine hAA.mono ?_
        rintro e w5 ⟨rfl, b5⟩
        go_wp2_with fail
        go_ret
        exact ⟨rfl, b5⟩
      · obtain rfl : i = len := by omega
        go_wp2_with fail
        refine hAA.mono ?_
        rintro e w5 ⟨rfl, b5⟩
        go_wp2_with fail
        go_ret
        exact ⟨rfl, b5⟩
end Go.Proofs.YtkfdbibgjoaefaaDoor
/-
  BlendSame's walk, whole.
-/
namespace Go.Proofs.YtkfdbibgjoaefaaDoor
open Go.RowKit

set_option maxRecDepth 10000 in
set_option maxHeartbeats 1000000 in
theorem great_is (A : Option Addr) (n c : Nat) (L : List Pt) (w : World) (h : IsP w w.heap.size A n c L) :
    ∃ r : Bool, Calls Tryd.prog 12 #[.slice A n c] w fun e w' => e = .returned (.bool r) ∧ Below w.heap.size w w' := by
  by_cases hn : n ≤ 16
  · have HM := hid (Memory_any A n c L w h (by omega))
    have hz : (n : Int) ≤ 16 := by omega
    clear h
    generalize memP L = m at *
    refine ⟨decide (40000 < m), ?_⟩
    go_enter Tryd.func12, Tryd.ntmps12
    go_wp2_with fail
    refine HM.out.mono ?_
    rintro e w1 ⟨rfl, b⟩
    go_wp2_with fail
    go_ret
    exact ⟨rfl, b⟩
  · have hz : ¬ (n : Int) ≤ 16 := by omega
    clear h
    refine ⟨false, ?_⟩
    go_enter Tryd.func12, Tryd.ntmps12
    go_wp2_with fail
    go_ret
    exact ⟨rfl, Below.refl _ _⟩
theorem BlendSame_any (w : World) (kn : KnIs w) (A : Option Addr) (n c : Nat) (L : List Pt) (h : IsP w w.heap.size A n c L) (a : Option Addr) (len cap : Nat) (acts : ActsL w w.heap.size a len cap) : Calls Tryd.prog 4 #[.slice A n c, .slice a len cap] w fun e w' => e = .returned (.bool true) ∧ Below w.heap.size w w' := by
  obtain ⟨r, hg⟩ := great_is A n c L w h
  cases r
  · by_cases hr : rightP L = 0
    · exact same_good w kn A n c L h hr a len cap acts hg
    · exact same_bad w kn A n c L h hr _ hg
  · exact same_great w kn A n c _ hg
end Go.Proofs.YtkfdbibgjoaefaaDoor
