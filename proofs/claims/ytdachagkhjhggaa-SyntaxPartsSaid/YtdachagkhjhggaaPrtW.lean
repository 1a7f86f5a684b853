/-
  The walk of SyntaxParts.
-/
import Derived.Test.YtdachagkhjhggaaPrp
import Derived.Test.YtdachagkhjhggaaAwk
namespace Go.Proofs.Ytdachagkhjhggaa
open Go.RowKit
set_option linter.unusedVariables false
set_option linter.unusedSimpArgs false

theorem que_one (W : World) (base : Nat) (hb : base ≤ W.heap.size) (v : Value) : Que (W.alloc (.cells #[v] 22)) base (some ⟨W.heap.size, 0, none⟩) 1 1 [v] := by
  have hh := heap_alloc_new W (.cells #[v] 22)
  refine ⟨rfl, Nat.le_refl _, by unfold maxLen; omega, fun e => (by cases e), fun _ => ⟨_, 0, rfl, hb, by simp, fun j u hj => ?_, fun j hj => ⟨?_, row_free hh _⟩⟩⟩
  · rw [Nat.zero_add, row_cell hh]
    simpa using hj
  · obtain rfl : j = 0 := by omega
    rw [Nat.zero_add, row_cell hh]
    rfl
theorem two_cells (W : World) (x y : Value) : ∀ (j : Nat) (u : Value), ([x, y] : List Value)[j]? = some u → (W.alloc (.cells #[x, y] 22)).cell? (({ block := W.heap.size, off := 0 } : Addr).add j) = some u := by
  intro j u hu
  have hh := heap_alloc_new W (.cells #[x, y] 22)
  rw [Addr.add_lit, Nat.zero_add, row_cell hh]
  simpa using hu
theorem two_one (A1 : Option Addr) (n1 c1 : Nat) (A2 : Option Addr) (n2 c2 : Nat) : ∀ u ∈ ([.slice A1 n1 c1, .slice A2 n2 c2] : List Value), u.oneCell' = true := by
  intro u hu
  simp only [List.mem_cons, List.not_mem_nil, or_false] at hu
  rcases hu with rfl | rfl <;> rfl
set_option maxRecDepth 10000 in
set_option maxHeartbeats 8000000 in
theorem parts_any (tl : Tr) (A : Option Addr) (n c : Nat) (post : Bool) (w : World) (hl : Sl w w.heap.size tl A n c) :
    Calls Try.prog 4 #[.slice A n c, .bool post] w fun e w' => e = .returned (.bool true) ∧ Below w.heap.size w w' := by
  have D1 := hid (Deep_any tl A n c w hl)
  have HL := hid (fun w' (b : Below w.heap.size w w') => hl.later b)
  have HL0 := hid hl
  have HA := hid (fun W => awake_any W)
  have R1 := hid (fun p w' (b : Below w.heap.size w w') => right_any' tl A n c p w' (hl.later b))
  obtain ⟨R, hR⟩ : ∃ R, tl.right post = R := ⟨_, rfl⟩
  have R0 := hid (fun w' (b : Below w.heap.size w w') => R1.out post w' b)
  rw [hR] at R0
  have HR := hid hR
  clear hl hR
  go_enter Try.func4, Try.ntmps4
  go_upto_region 3 with (first
    | (go_at_call 5; (with_reducible refine D1.out.mono ?_); rintro r w1 ⟨r1, rfl, b, hs⟩; have B1 := hid b; have S1 := hid hs; clear b hs; rcases r1 with _ | _)
    | (go_at_call 8; (with_reducible refine (R0.out _ B1.out).mono ?_); rintro r w2 ⟨rfl, b⟩; have B2 := hid (B1.out.trans (b.mono B1.out.size)); clear b; cases R)
    | (go_at_call 6; (with_reducible refine (HA.out _).mono ?_); rintro r wa ⟨rfl, b⟩; have Ba := hid b; clear b))
  · go_ret
    exact ⟨rfl, B2.out.trans (Ba.out.mono B2.out.size)⟩
  · have hs3 : tl.sz ≤ 3000 := S1.out trivial
    have hri := (right_iff post tl).1 HR.out
    have C0 := hid (fun w' (b : Below w.heap.size w w') => count_any' tl hs3 A n c w' (HL.out w' b))
    have RT := hid (fun w' (b : Below w.heap.size w w') => R1.out true w' b)
    rw [right_up HR.out] at RT
    rw [cnt_sz tl 20 hri.1] at C0
    obtain ⟨Z, hZ⟩ : ∃ Z, tl.sz = Z := ⟨_, rfl⟩
    rw [hZ] at C0 hri
    have hZ5 : ¬ (500 : Int) < (Z : Int) := by omega
    have HZ := hid (And.intro hZ hri.2.1)
    clear hs3 hri hZ D1 R0 R1 S1 B1
    go_wp2_with (first
      | (go_at_call 10; (with_reducible refine (C0.out _ B2.out).mono ?_); rintro r w3 ⟨rfl, b⟩; have B3 := hid (B2.out.trans (b.mono B2.out.size)); clear b)
      | (go_at_call 8; (with_reducible refine (RT.out _ B3.out).mono ?_); rintro r w4 ⟨rfl, b⟩; have B4 := hid (B3.out.trans (b.mono B3.out.size)); clear b))
    have Q0 := hid (que_one w4 w.heap.size B4.out.size (.slice A n c))
    have B5 := hid (B4.out.alloc B4.out.size (.cells #[.slice A n c] 22))
    have L0 : Hid (Lst w post [tl] [.slice A n c]) := ⟨⟨A, n, c, rfl, HL0.out, HR.out⟩, trivial⟩
    clear B2 B3 hZ5
    go_loopw [5, 6] (fun v5 v6 wr => ∃ (A1 : Option Addr) (n1 c1 N : Nat) (Ts : List Tr) (Vs : List Value), v5 = .slice A1 n1 c1 ∧ v6 = .int .i64 (N : Nat) ∧ Hid (Que wr w.heap.size A1 n1 c1 Vs) ∧ Hid (Lst w post Ts Vs) ∧ Hid (Below w.heap.size w wr) ∧ Hid (N + sums Ts = Z ∧ n1 ≤ 1 + 2 * N)) (fun v5 v6 _ => 3 * (Z - (intOf v6).toNat) + lenOf v5)
    case atStart => exact ⟨_, 1, 1, 0, [tl], _, rfl, rfl, Q0, L0, B5, hid ⟨by simp only [sums]; have := HZ.out.1; omega, by omega⟩⟩
    case round =>
      obtain ⟨A1, n1, c1, N, Ts, Vs, rfl, rfl, HQ, HT, HW, HI⟩ := hrel
      obtain ⟨Wo, hWo⟩ : ∃ W, W = wr := ⟨_, rfl⟩
      subst hWo
      by_cases hn1 : 0 < n1
      · have hn1z : (0 : Int) < (n1 : Int) := by omega
        obtain ⟨t, Ts', Vs', At, nt, ct, rfl, rfl, hst, hrt, hls⟩ := HT.out.cons (by rw [HQ.out.len]; exact hn1)
        obtain ⟨g, k, rfl, hc0⟩ := HQ.out.head
        obtain ⟨A2, htail, hq2⟩ := HQ.out.tail
        have HQ2 := hid hq2
        have HLS := hid hls
        have HST := hid hst
        have HRT := hid hrt
        have hN1 : N + nt ≤ 500 := by
          have h1 := HI.out.1
          have h2 := hst.len
          have h3 := t.len_sz
          have h4 := HZ.out.2
          simp only [sums] at h1
          omega
        have hnt : nt ≤ 500 := by omega
        obtain ⟨M, hM⟩ : ∃ M, N + nt = M := ⟨_, rfl⟩
        have hMz : (N : Int) + (nt : Int) = (M : Int) := by omega
        have HM := hid hM
        have RA := hid (fun w' (b : Below w.heap.size w w') => right_any' t At nt ct post w' (hst.later b))
        rw [hrt] at RA
        obtain ⟨n2, hn2⟩ : ∃ n2, n1 - 1 = n2 := ⟨_, rfl⟩
        obtain ⟨c2, hc2⟩ : ∃ c2, c1 - 1 = c2 := ⟨_, rfl⟩
        rw [hn2, hc2] at htail HQ2
        have HN2 := hid (And.intro hn1 hn2)
        have hcap1 := HQ.out.cap
        clear hq2 hls hst hrt hM hn2 hc2 HQ HT
        go_wp2_with (go_at_call 8; (with_reducible refine (RA.out _ HW.out).mono ?_); rintro r w6 ⟨rfl, b⟩; have B6 := hid (HW.out.trans (b.mono HW.out.size)); have HQ3 := hid (HQ2.out.below b); clear b)
        clear htail hc0
        go_loopw [5, 47] (fun v5 v47 wr => ∃ (i : Nat) (t' : Tr) (A3 : Option Addr) (n3 c3 : Nat) (Ts3 : List Tr) (Vs3 : List Value), v47 = .int .i64 (i : Nat) ∧ v5 = .slice A3 n3 c3 ∧ Hid (Rest w w.heap.size t' At i nt) ∧ Hid (t'.right post = true) ∧ Hid (Que wr w.heap.size A3 n3 c3 Vs3) ∧ Hid (Lst w post Ts3 Vs3) ∧ Hid (Below w.heap.size w wr) ∧ Hid (M + sums Ts3 + t'.sz = Z + t'.len ∧ n3 = n2 + 2 * i)) (fun _ v47 _ => nt - (intOf v47).toNat)
        case atStart => exact ⟨0, t, A2, n2, c2, Ts', Vs', rfl, rfl, hid HST.out.rest, HRT, HQ3, HLS, B6, hid ⟨by have h1 := HI.out.1; have h2 := HST.out.len; have h3 := HM.out; simp only [sums] at h1; omega, by omega⟩⟩
        case round =>
          obtain ⟨i, t', A3, n3, c3, Ts3, Vs3, rfl, rfl, HRe, HRg, HQ4, HL4, HW4, HI4⟩ := hrel
          have hi := HRe.out.le
          by_cases hlt : i < nt
          · have hltz : (i : Int) < (nt : Int) := by omega
            obtain ⟨x, b, e, q, ad, Ab, nb, cb, Ae, ne, ce, rfl, rfl, hab, hat, hb, he, hq⟩ := HRe.out.at hlt
            obtain ⟨c0, c1', c2', c3', c4, c5, c6, c7, c8, c9, c10, c11, c12⟩ := hat.to (w' := wr) (fun a ha => HW4.out.cell (by rw [ha, block_of_add]; exact hab))
            obtain ⟨rb, re, rq, rx⟩ := right_st HRg.out
            rw [hb.len, he.len] at rx
            have HLn := hid (Lst.two hb he rb re HL4.out)
            have HRq := hid rq
            have HQq := hid hq
            have hb13 := b13_made wr x (.slice Ab nb cb) (.slice Ae ne ce)
            have hbl : Below wr.heap.size wr (wr.alloc (.cells #[.int .u8 x.k, .int .u8 x.o, .int .i64 x.d, .int .i64 x.s, .int .i64 x.n, .bool x.nt, .int .u8 x.co, .int .i64 x.cd, .int .i64 x.cs, .int .i64 x.cn, .slice Ab nb cb, .slice Ae ne ce, .int .i64 x.ln] 42)) := (Below.refl _ wr).alloc (Nat.le_refl _) _
            have HX0 := hid hb13
            have HB0 := hid hbl
            have hn3 : n3 + 2 ≤ 1000000 := by have h1 := HI4.out.2; have h2 := HI.out.2; have h3 := HN2.out; omega
            have HN3 := hid hn3
            obtain ⟨g0, g1, g2, g3, g4, g5, g6, g7, g8, g9, g10, g11, g12⟩ := hb13
            clear hb he hq hat rb re rq hbl hn3
            obtain ⟨k', o, d, s, n', nt', co, cd, cs, cn, ln⟩ := x
            dsimp only at *
            obtain ⟨V, hV⟩ : ∃ V, wr.alloc (.cells #[.int .u8 k', .int .u8 o, .int .i64 d, .int .i64 s, .int .i64 n', .bool nt', .int .u8 co, .int .i64 cd, .int .i64 cs, .int .i64 cn, .slice Ab nb cb, .slice Ae ne ce, .int .i64 ln] 42) = V := ⟨_, rfl⟩
            rw [hV] at HX0 HB0 g0 g1 g2 g3 g4 g5 g6 g7 g8 g9 g10 g11 g12
            have HV := hid hV
            clear hV
            go_upto_region 16 with fail
            rw [HV.out]
            by_cases hk : k' = 1
            · subst hk
              have hp := rgt_plain rx rfl
              dsimp only at hp
              have CR := hid (fun W => Right_any o d s n' W)
              rw [hp.1] at CR
              unfold vI at CR
              have HK := hid (fun (W : World) (b : Below V.heap.size V W) => HX0.out.below b)
              have HP := hid hp.2
              clear hp rx
              by_cases ho : o = 26
              · subst ho
                have hpost := HP.out rfl
                subst hpost
                go_wp2_with (first
                  | (go_at_call 15; (with_reducible refine (CR.out _).mono ?_); rintro r v2 ⟨rfl, b'⟩; have B7 := hid (HB0.out.trans (b'.mono HB0.out.size)); obtain ⟨z0, z1, z2, z3, z4, z5, z6, z7, z8, z9, z10, z11, z12⟩ := HK.out _ b'; clear b'; dsimp only at z0 z1 z2 z3 z4 z5 z6 z7 z8 z9 z10 z11 z12)
                  | (at_builtin; refine wpList_append_que rfl (.tmp 75) (.tmp 80) rfl w.heap.size A3 n3 c3 Vs3 rfl ((HQ4.out.below B7.out).below ((Below.refl _ v2).alloc (Nat.le_refl _) _)) (by have := HW4.out.size; have := (B7.out).size; simp; omega) ⟨v2.heap.size, 0, none⟩ 2 (.slice Ab nb cb) (.slice Ae ne ce) rfl (two_cells v2 _ _) (two_one _ _ _ _ _ _) HN3.out ?_; intro A4 c4' w7 hq7 hb7))
                go_roundw
                case rel =>
                  refine ⟨i + 1, q, A4, n3 + 2, c4', Ts3 ++ [b, e], Vs3 ++ [.slice Ab nb cb, .slice Ae ne ce], by go_num, rfl, HQq, HRq, hq7, HLn, hid (((HW4.out.trans ((B7.out).mono HW4.out.size)).alloc (by have := HW4.out.size; have := (B7.out).size; omega) _).trans hb7.out), hid ⟨?_, ?_⟩⟩
                  · have h1 := HI4.out.1
                    simp only [Tr.sz, Tr.len] at h1
                    rw [sums_two]
                    omega
                  · have h1 := HI4.out.2; omega
                case measure => simp [intOf]; omega
              · have hob : (o == 26) = false := by simpa using ho
                clear ho
                go_wp2_with (first
                  | (go_at_call 15; (with_reducible refine (CR.out _).mono ?_); rintro r v2 ⟨rfl, b'⟩; have B7 := hid (HB0.out.trans (b'.mono HB0.out.size)); obtain ⟨z0, z1, z2, z3, z4, z5, z6, z7, z8, z9, z10, z11, z12⟩ := HK.out _ b'; clear b'; dsimp only at z0 z1 z2 z3 z4 z5 z6 z7 z8 z9 z10 z11 z12)
                  | (at_builtin; refine wpList_append_que rfl (.tmp 75) (.tmp 80) rfl w.heap.size A3 n3 c3 Vs3 rfl ((HQ4.out.below B7.out).below ((Below.refl _ v2).alloc (Nat.le_refl _) _)) (by have := HW4.out.size; have := (B7.out).size; simp; omega) ⟨v2.heap.size, 0, none⟩ 2 (.slice Ab nb cb) (.slice Ae ne ce) rfl (two_cells v2 _ _) (two_one _ _ _ _ _ _) HN3.out ?_; intro A4 c4' w7 hq7 hb7))
                go_roundw
                case rel =>
                  refine ⟨i + 1, q, A4, n3 + 2, c4', Ts3 ++ [b, e], Vs3 ++ [.slice Ab nb cb, .slice Ae ne ce], by go_num, rfl, HQq, HRq, hq7, HLn, hid (((HW4.out.trans ((B7.out).mono HW4.out.size)).alloc (by have := HW4.out.size; have := (B7.out).size; omega) _).trans hb7.out), hid ⟨?_, ?_⟩⟩
                  · have h1 := HI4.out.1
                    simp only [Tr.sz, Tr.len] at h1
                    rw [sums_two]
                    omega
                  · have h1 := HI4.out.2; omega
                case measure => simp [intOf]; omega
            · have hkb : (k' == 1) = false := by simpa using hk
              clear hk rx
              go_wp2_with (at_builtin; refine wpList_append_que rfl (.tmp 75) (.tmp 80) rfl w.heap.size A3 n3 c3 Vs3 rfl ((HQ4.out.below HB0.out).below ((Below.refl _ V).alloc (Nat.le_refl _) _)) (by have := HW4.out.size; have := (HB0.out).size; simp; omega) ⟨V.heap.size, 0, none⟩ 2 (.slice Ab nb cb) (.slice Ae ne ce) rfl (two_cells V _ _) (two_one _ _ _ _ _ _) HN3.out ?_; intro A4 c4' w7 hq7 hb7)
              go_roundw
              case rel =>
                refine ⟨i + 1, q, A4, n3 + 2, c4', Ts3 ++ [b, e], Vs3 ++ [.slice Ab nb cb, .slice Ae ne ce], by go_num, rfl, HQq, HRq, hq7, HLn, hid (((HW4.out.trans ((HB0.out).mono HW4.out.size)).alloc (by have := HW4.out.size; have := (HB0.out).size; omega) _).trans hb7.out), hid ⟨?_, ?_⟩⟩
                · have h1 := HI4.out.1
                  simp only [Tr.sz, Tr.len] at h1
                  rw [sums_two]
                  omega
                · have h1 := HI4.out.2; omega
              case measure => simp [intOf]; omega
          · obtain rfl : i = nt := by omega
            obtain rfl := HRe.out.end
            go_wp2_with fail
            go_roundw
            case rel =>
              refine ⟨A3, n3, c3, M, Ts3, Vs3, rfl, rfl, HQ4, HL4, HW4, hid ⟨?_, ?_⟩⟩
              · have h1 := HI4.out.1
                simp only [Tr.sz, Tr.len] at h1
                omega
              · have h1 := HI4.out.2; have h2 := HI.out.2; have h3 := HN2.out; have h4 := HM.out; omega
            case measure =>
              have h1 := HI4.out; have h2 := HI.out; have h3 := HN2.out; have h4 := HM.out
              simp only [Tr.sz, Tr.len] at h1
              simp [intOf, lenOf]
              omega
      · have hn0 : n1 = 0 := by omega
        subst hn0
        have hts := HT.out.end (by rw [HQ.out.len])
        subst hts
        have hNZ : N = Z := by have := HI.out.1; simp only [sums] at this; omega
        subst hNZ
        go_wp2_with (first
          | (go_at_call 10; (with_reducible refine (C0.out _ HW.out).mono ?_); rintro r w8 ⟨rfl, b⟩; have B8 := hid (HW.out.trans (b.mono HW.out.size)); clear b)
          | (go_at_call 6; (with_reducible refine (HA.out _).mono ?_); rintro r w9 ⟨rfl, b⟩; have B9 := hid (B8.out.trans (b.mono B8.out.size)); clear b))
        go_ret
        exact ⟨rfl, B9.out⟩
  · go_ret
    exact ⟨rfl, B1.out.trans (Ba.out.mono B1.out.size)⟩
end Go.Proofs.Ytdachagkhjhggaa
