/-
  The document's each: is each statement of a list right, and each within it?
-/
import Derived.Test.YtdachagkhjhggaaRgs
import Derived.Test.YtdachagkhjhggaaDee
import Derived.Deep.Cut
import Derived.Deep.CutRange
import Derived.Deep.CutBlock
namespace Go.Proofs.Ytdachagkhjhggaa
open Go.RowKit
set_option linter.unusedVariables false
set_option linter.unusedSimpArgs false

/-- Is each statement of a list right, and each within it? -/
def Tr.ok (post : Bool) : Tr → Bool
  | .nil => true
  | .st x b e q => rgt post x b.len e.len && (b.ok post && (e.ok post && q.ok post))
/-- No Op is below nought. -/
def Tr.wf : Tr → Prop
  | .nil => True
  | .st x b e q => (0 ≤ x.o ∧ 0 ≤ x.co) ∧ b.wf ∧ e.wf ∧ q.wf
set_option maxRecDepth 10000 in
set_option maxHeartbeats 8000000 in
theorem refEach_any (post : Bool) (m : Nat) : ∀ (t : Tr), t.sz < m → t.wf → ∀ (A : Option Addr) (n c : Nat) (w : World), Sl w w.heap.size t A n c →
    Calls Try.prog 24 #[.slice A n c, .bool post] w fun e w' => e = .returned (.bool (t.ok post)) ∧ Below w.heap.size w w' := by
  induction m with
  | zero => intro t ht; omega
  | succ m ih =>
    intro t ht hwf A n c w hS
    have hsml := hS.sml
    have hz : (w.alloc (.cells #[.int .u8 0, .int .i64 0, .int .i64 0, .int .i64 0] 38)).heap[w.heap.size]? = some (.cells #[.int .u8 0, .int .i64 0, .int .i64 0, .int .i64 0] 38 (0, 0)) := heap_alloc_new w _
    have HZ := hid hz
    have HB := hid (hS.rest)
    have HSL := hid (And.intro ht hwf)
    have IH := hid (fun t h => ih t h)
    have HB0 := hid ((Below.refl w.heap.size w).alloc (Nat.le_refl _) (.cells #[.int .u8 0, .int .i64 0, .int .i64 0, .int .i64 0] 38))
    clear hS ih hz
    go_enter Try.func24, Try.ntmps24
    go_wp2_with fail
    go_loopw [6] (fun v6 wr => ∃ (i : Nat) (t' : Tr), v6 = .int .i64 (i : Nat) ∧ Hid (Rest w w.heap.size t' A i n) ∧ Hid (Below w.heap.size w wr) ∧ Hid (wr.heap[w.heap.size]? = some (.cells #[.int .u8 0, .int .i64 0, .int .i64 0, .int .i64 0] 38 (0, 0))) ∧ Hid (t'.ok post = t.ok post ∧ t'.sz ≤ t.sz ∧ t'.wf)) (fun v6 _ => n - (intOf v6).toNat)
    case atStart => exact ⟨0, t, rfl, HB, HB0, HZ, hid ⟨rfl, Nat.le_refl _, HSL.out.2⟩⟩
    case round =>
      obtain ⟨i, t', rfl, HR, HW, HZ2, HI⟩ := hrel
      have hi := HR.out.le
      by_cases hlt : i < n
      · have hltz : (i : Int) < (n : Int) := by omega
        obtain ⟨x, b, e, q, ad, Ab, nb, cb, Ae, ne, ce, rfl, rfl, hab, hat, hb, he, hq⟩ := HR.out.at hlt
        have HQ := hid hq
        have HBE := hid (And.intro hb he)
        obtain ⟨c0, c1, c2, c3, c4, c5, c6, c7, c8, c9, c10, c11, c12⟩ := hat.to (w' := wr) (fun a ha => HW.out.cell (by rw [ha, block_of_add]; exact hab))
        clear hb he hq hat
        obtain ⟨R, hR⟩ : ∃ R, rgt post x nb ne = R := ⟨_, rfl⟩
        have HRG := hid hR
        clear hR
        go_upto_block 2 with fail
        go_cut [8] from 20 to 97 (fun v8 wc => v8 = .bool R ∧ Hid (Below wr.heap.size wr wc ∧ B13 wc wr.heap.size x (.slice Ab nb cb) (.slice Ae ne ce)))
        case first =>
          have HX0 := hid (And.intro (b13_made wr x (.slice Ab nb cb) (.slice Ae ne ce)) ((Below.refl wr.heap.size wr).alloc (Nat.le_refl _) (.cells #[.int .u8 x.k, .int .u8 x.o, .int .i64 x.d, .int .i64 x.s, .int .i64 x.n, .bool x.nt, .int .u8 x.co, .int .i64 x.cd, .int .i64 x.cs, .int .i64 x.cn, .slice Ab nb cb, .slice Ae ne ce, .int .i64 x.ln] 42)))
          have HN : Hid (∀ w', Below wr.heap.size wr w' → w'.cell? ⟨w.heap.size, 0, none⟩ = some (.int .u8 0) ∧ w'.cell? ⟨w.heap.size, 1, none⟩ = some (.int .i64 0) ∧ w'.cell? ⟨w.heap.size, 2, none⟩ = some (.int .i64 0) ∧ w'.cell? ⟨w.heap.size, 3, none⟩ = some (.int .i64 0)) := by
            intro w' hb'
            have hr := (hb'.block _ (lt_of_heap HZ2.out)).trans HZ2.out
            exact ⟨row_cell hr 0, row_cell hr 1, row_cell hr 2, row_cell hr 3⟩
          have HO := hid (fun w1 b1 => b13_on (w := wr) (w1 := w1) (x := x) (vb := .slice Ab nb cb) (ve := .slice Ae ne ce) b1)
          have hwx := HI.out.2.2.1
          have HP := hid (fun w => refPlain_any x.o x.d x.s x.n post hwx.1 w)
          have HC := hid (fun w => refCond_any x.nt x.co x.cd x.cs x.cn hwx.2 w)
          have HI0 := eq38 x.o x.d x.s x.n
          have HZZ := eq40 x.nt x.co x.cd x.cs x.cn
          obtain ⟨z0, z1, z2, z3⟩ := HN.out _ HX0.out.2
          obtain ⟨g0, g1, g2, g3, g4, g5, g6, g7, g8, g9, g10, g11, g12⟩ := HX0.out.1
          clear hwx HI HR HB HSL IH HQ HBE
          have hR := HRG.out
          clear HRG
          unfold rgt at hR
          obtain ⟨k, o, d, s, n1, nt, co, cd, cs, cn, ln⟩ := x
          dsimp only at *
          by_cases hk : k = 1
          · rw [if_pos hk] at hR
            subst hk
            obtain ⟨P, hP⟩ : ∃ P, plainI o d s n1 post = P := ⟨_, rfl⟩
            obtain ⟨Z, hZ⟩ : ∃ Z, zC nt co cd cs cn = Z := ⟨_, rfl⟩
            rw [hP] at HP
            rw [hZ] at HZZ
            rw [hP, hZ] at hR
            clear hP hZ HC HI0
            unfold vI at HP
            cases P
            · have HRg := hid hR
              clear hR
              go_wp2_with (go_at_call 31; (with_reducible refine (HP.out _).mono ?_); rintro r w1 ⟨rfl, b1⟩; have HX := hid (HO.out _ b1); obtain ⟨⟨c0, c1, c2, c3, c4, c5, c6, c7, c8, c9, c10, c11, c12⟩, _⟩ := HO.out _ b1; obtain ⟨z0, z1, z2, z3⟩ := HN.out _ (HO.out _ b1).2; clear b1; dsimp only at c0 c1 c2 c3 c4 c5 c6 c7 c8 c9 c10 c11 c12)
              go_meet
              exact ⟨by rw [← HRg.out] <;> simp, HX.out.2, HX.out.1⟩
            cases Z
            · have HRg := hid hR
              clear hR
              go_wp2_with (go_at_call 31; (with_reducible refine (HP.out _).mono ?_); rintro r w1 ⟨rfl, b1⟩; have HX := hid (HO.out _ b1); obtain ⟨⟨c0, c1, c2, c3, c4, c5, c6, c7, c8, c9, c10, c11, c12⟩, _⟩ := HO.out _ b1; obtain ⟨z0, z1, z2, z3⟩ := HN.out _ (HO.out _ b1).2; clear b1; dsimp only at c0 c1 c2 c3 c4 c5 c6 c7 c8 c9 c10 c11 c12)
              go_meet
              exact ⟨by rw [← HRg.out] <;> simp, HX.out.2, HX.out.1⟩
            · by_cases hnb : nb = 0
              · have nbz : ((nb : Int) == 0) = true := by simpa using hnb
                have hnn : none2 nb ne = ((ne : Int) == 0) := by
                  unfold none2
                  by_cases h : ne = 0
                  · rw [decide_eq_true (by omega)]; symm; simpa using h
                  · rw [decide_eq_false (by omega)]; symm; simpa using h
                rw [hnn] at hR
                clear hnn hnb
                have HRg := hid hR
                clear hR
                go_wp2_with (go_at_call 31; (with_reducible refine (HP.out _).mono ?_); rintro r w1 ⟨rfl, b1⟩; have HX := hid (HO.out _ b1); obtain ⟨⟨c0, c1, c2, c3, c4, c5, c6, c7, c8, c9, c10, c11, c12⟩, _⟩ := HO.out _ b1; obtain ⟨z0, z1, z2, z3⟩ := HN.out _ (HO.out _ b1).2; clear b1; dsimp only at c0 c1 c2 c3 c4 c5 c6 c7 c8 c9 c10 c11 c12)
                go_meet
                exact ⟨by rw [← HRg.out] <;> simp, HX.out.2, HX.out.1⟩
              · have nbz : ((nb : Int) == 0) = false := by simpa using hnb
                have hnn : none2 nb ne = false := decide_eq_false (by omega)
                rw [hnn] at hR
                clear hnn hnb
                have HRg := hid hR
                clear hR
                go_wp2_with (go_at_call 31; (with_reducible refine (HP.out _).mono ?_); rintro r w1 ⟨rfl, b1⟩; have HX := hid (HO.out _ b1); obtain ⟨⟨c0, c1, c2, c3, c4, c5, c6, c7, c8, c9, c10, c11, c12⟩, _⟩ := HO.out _ b1; obtain ⟨z0, z1, z2, z3⟩ := HN.out _ (HO.out _ b1).2; clear b1; dsimp only at c0 c1 c2 c3 c4 c5 c6 c7 c8 c9 c10 c11 c12)
                go_meet
                exact ⟨by rw [← HRg.out] <;> simp, HX.out.2, HX.out.1⟩
          have h1 := hk
          clear hk
          by_cases hk : k = 2
          · clear h1
            rw [if_neg (by rw [hk]; decide), if_pos hk] at hR
            subst hk
            obtain ⟨I, hI⟩ : ∃ I, zI o d s n1 = I := ⟨_, rfl⟩
            obtain ⟨C, hC⟩ : ∃ C, condI co cd cs cn = C := ⟨_, rfl⟩
            rw [hC] at HC
            rw [hI] at HI0
            rw [hI, hC] at hR
            clear hI hC HP HZZ
            unfold vC at HC
            cases I
            · have HRg := hid hR
              clear hR
              go_wp2_with fail
              go_meet
              exact ⟨by rw [← HRg.out] <;> simp, HX0.out.2, HX0.out.1⟩
            · have HRg := hid hR
              clear hR
              go_wp2_with (go_at_call 32; (with_reducible refine (HC.out _).mono ?_); rintro r w1 ⟨rfl, b1⟩; have HX := hid (HO.out _ b1); obtain ⟨⟨c0, c1, c2, c3, c4, c5, c6, c7, c8, c9, c10, c11, c12⟩, _⟩ := HO.out _ b1; obtain ⟨z0, z1, z2, z3⟩ := HN.out _ (HO.out _ b1).2; clear b1; dsimp only at c0 c1 c2 c3 c4 c5 c6 c7 c8 c9 c10 c11 c12)
              go_meet
              exact ⟨by rw [← HRg.out] <;> simp, HX.out.2, HX.out.1⟩
          have h2 := hk
          clear hk
          by_cases hk : k = 3
          · clear h1 h2
            rw [if_neg (by rw [hk]; decide), if_neg (by rw [hk]; decide), if_pos hk] at hR
            subst hk
            obtain ⟨I, hI⟩ : ∃ I, zI o d s n1 = I := ⟨_, rfl⟩
            obtain ⟨C, hC⟩ : ∃ C, condI co cd cs cn = C := ⟨_, rfl⟩
            rw [hC] at HC
            rw [hI] at HI0
            have hl : none2 ne 0 = ((ne : Int) == 0) := by
              unfold none2
              by_cases h : ne = 0
              · subst h; rfl
              · rw [decide_eq_false (by omega)]; symm; simpa using h
            rw [hI, hC, hl] at hR
            clear hI hC HP HZZ hl
            unfold vC at HC
            cases I
            · have HRg := hid hR
              clear hR
              go_wp2_with fail
              go_meet
              exact ⟨by rw [← HRg.out] <;> simp, HX0.out.2, HX0.out.1⟩
            cases C
            · have HRg := hid hR
              clear hR
              go_wp2_with (go_at_call 32; (with_reducible refine (HC.out _).mono ?_); rintro r w1 ⟨rfl, b1⟩; have HX := hid (HO.out _ b1); obtain ⟨⟨c0, c1, c2, c3, c4, c5, c6, c7, c8, c9, c10, c11, c12⟩, _⟩ := HO.out _ b1; obtain ⟨z0, z1, z2, z3⟩ := HN.out _ (HO.out _ b1).2; clear b1; dsimp only at c0 c1 c2 c3 c4 c5 c6 c7 c8 c9 c10 c11 c12)
              go_meet
              exact ⟨by rw [← HRg.out] <;> simp, HX.out.2, HX.out.1⟩
            · have HRg := hid hR
              clear hR
              go_wp2_with (go_at_call 32; (with_reducible refine (HC.out _).mono ?_); rintro r w1 ⟨rfl, b1⟩; have HX := hid (HO.out _ b1); obtain ⟨⟨c0, c1, c2, c3, c4, c5, c6, c7, c8, c9, c10, c11, c12⟩, _⟩ := HO.out _ b1; obtain ⟨z0, z1, z2, z3⟩ := HN.out _ (HO.out _ b1).2; clear b1; dsimp only at c0 c1 c2 c3 c4 c5 c6 c7 c8 c9 c10 c11 c12)
              go_meet
              exact ⟨by rw [← HRg.out] <;> simp, HX.out.2, HX.out.1⟩
          have h3 := hk
          clear hk
          by_cases hk : k = 4
          · clear h1 h2 h3
            rw [if_neg (by rw [hk]; decide), if_neg (by rw [hk]; decide), if_neg (by rw [hk]; decide), if_pos hk] at hR
            subst hk
            obtain ⟨I, hI⟩ : ∃ I, zI o d s n1 = I := ⟨_, rfl⟩
            obtain ⟨Z, hZ⟩ : ∃ Z, zC nt co cd cs cn = Z := ⟨_, rfl⟩
            rw [hI] at HI0
            rw [hZ] at HZZ
            rw [hI, hZ] at hR
            clear hI hZ HP HC
            cases I
            · have HRg := hid hR
              clear hR
              go_wp2_with fail
              go_meet
              exact ⟨by rw [← HRg.out] <;> simp, HX0.out.2, HX0.out.1⟩
            cases Z
            · have HRg := hid hR
              clear hR
              go_wp2_with fail
              go_meet
              exact ⟨by rw [← HRg.out] <;> simp, HX0.out.2, HX0.out.1⟩
            · by_cases hnb : nb = 0
              · have nbz : ((nb : Int) == 0) = true := by simpa using hnb
                have hnn : none2 nb ne = ((ne : Int) == 0) := by
                  unfold none2
                  by_cases h : ne = 0
                  · rw [decide_eq_true (by omega)]; symm; simpa using h
                  · rw [decide_eq_false (by omega)]; symm; simpa using h
                rw [hnn] at hR
                clear hnn hnb
                have HRg := hid hR
                clear hR
                go_wp2_with fail
                go_meet
                exact ⟨by rw [← HRg.out] <;> simp, HX0.out.2, HX0.out.1⟩
              · have nbz : ((nb : Int) == 0) = false := by simpa using hnb
                have hnn : none2 nb ne = false := decide_eq_false (by omega)
                rw [hnn] at hR
                clear hnn hnb
                have HRg := hid hR
                clear hR
                go_wp2_with fail
                go_meet
                exact ⟨by rw [← HRg.out] <;> simp, HX0.out.2, HX0.out.1⟩
          have h4 := hk
          clear hk
          rw [if_neg h1, if_neg h2, if_neg h3, if_neg h4] at hR
          have n1' : (k == 1) = false := by simpa using h1
          have n2' : (k == 2) = false := by simpa using h2
          have n3' : (k == 3) = false := by simpa using h3
          have n4' : (k == 4) = false := by simpa using h4
          clear h1 h2 h3 h4 HP HC HI0 HZZ
          have HRg := hid hR
          clear hR
          go_wp2_with fail
          go_meet
          exact ⟨by rw [← HRg.out] <;> simp, HX0.out.2, HX0.out.1⟩
        case rest =>
          obtain ⟨rfl, HG⟩ := hcut
          have HT : Hid (t.ok post = (R && (b.ok post && (e.ok post && q.ok post)))) := by
            have h1 := HI.out.1
            rw [← HRG.out, ← HBE.out.1.len, ← HBE.out.2.len]
            exact h1.symm
          have HQW : Hid (q.sz ≤ t.sz ∧ q.wf) := ⟨Nat.le_trans (by simp only [Tr.sz]; omega) HI.out.2.1, HI.out.2.2.2.2.2⟩
          have hbz : b.sz < m := by
            have h1 := HI.out.2.1
            have h2 := HSL.out.1
            simp only [Tr.sz] at h1
            omega
          have hez : e.sz < m := by
            have h1 := HI.out.2.1
            have h2 := HSL.out.1
            simp only [Tr.sz] at h1
            omega
          have C1 := hid (fun w' (h : Below w.heap.size w w') => IH.out b hbz HI.out.2.2.2.1 Ab nb cb w' ((HBE.out.1.below h).up h.size))
          have C2 := hid (fun w' (h : Below w.heap.size w w') => IH.out e hez HI.out.2.2.2.2.1 Ae ne ce w' ((HBE.out.2.below h).up h.size))
          have HBW : Hid (Below w.heap.size w wc) := HW.out.trans (HG.out.1.mono HW.out.size)
          obtain ⟨Rb, hRb⟩ : ∃ Rb, b.ok post = Rb := ⟨_, rfl⟩
          obtain ⟨Re, hRe⟩ : ∃ Re, e.ok post = Re := ⟨_, rfl⟩
          rw [hRb] at C1 HT
          rw [hRe] at C2 HT
          obtain ⟨g0, g1, g2, g3, g4, g5, g6, g7, g8, g9, g10, g11, g12⟩ := HG.out.2
          have K11 := hid (fun (w' : World) (h : Below wc.heap.size wc w') => keeps h g11)
          have K10 := hid g10
          have KZ := hid (fun (w' : World) (h : Below wc.heap.size wc w') => (((HG.out.1.trans (h.mono HG.out.1.size)).block _ (lt_of_heap HZ2.out)).trans HZ2.out))
          clear HRG HI hbz hez IH HSL HB HBE g0 g1 g2 g3 g4 g5 g6 g7 g8 g9 g10 g11 g12 hRb hRe
          cases R
          · clear C1 C2 K11 K10 KZ
            go_wp2_with fail
            go_ret
            exact ⟨by rw [HT.out]; rfl, HBW.out⟩
          have k10 := K10.out
          cases Rb
          · go_wp2_with (go_at_call 24; (with_reducible refine (C1.out _ HBW.out).mono ?_); rintro r w2 ⟨rfl, b2⟩; have HY := hid b2; have k11 := K11.out _ b2; clear b2)
            go_ret
            exact ⟨by rw [HT.out]; rfl, HBW.out.trans (HY.out.mono HBW.out.size)⟩
          cases Re
          · go_wp2_with (go_at_call 24; first
              | ((with_reducible refine (C1.out _ HBW.out).mono ?_); rintro r w2 ⟨rfl, b2⟩; have HY := hid (HBW.out.trans (b2.mono HBW.out.size)); have k11 := K11.out _ b2; clear b2)
              | ((with_reducible refine (C2.out _ HY.out).mono ?_); rintro r w3 ⟨rfl, b3⟩; have HY3 := hid (HY.out.trans (b3.mono HY.out.size)); clear b3))
            go_ret
            exact ⟨by rw [HT.out]; rfl, HY3.out⟩
          · go_wp2_with (go_at_call 24; first
              | ((with_reducible refine (C1.out _ HBW.out).mono ?_); rintro r w2 ⟨rfl, b2⟩; have HY := hid (HBW.out.trans (b2.mono HBW.out.size)); have HY2 := hid b2; have k11 := K11.out _ b2; clear b2)
              | ((with_reducible refine (C2.out _ HY.out).mono ?_); rintro r w3 ⟨rfl, b3⟩; have HY3 := hid (HY.out.trans (b3.mono HY.out.size)); have HY4 := hid (HY2.out.trans (b3.mono HY2.out.size)); clear b3))
            go_roundw
            case rel => exact ⟨i + 1, q, by go_num, HQ, HY3, hid (KZ.out _ HY4.out), hid ⟨HT.out.symm, HQW.out⟩⟩
            case measure => simp [intOf]; omega
      · obtain rfl : i = n := by omega
        obtain rfl := HR.out.end
        go_wp2_with fail
        go_ret
        exact ⟨by rw [← HI.out.1]; rfl, HW.out⟩
end Go.Proofs.Ytdachagkhjhggaa
