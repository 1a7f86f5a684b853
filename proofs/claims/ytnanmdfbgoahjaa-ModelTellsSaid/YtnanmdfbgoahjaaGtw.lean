/-
  Get, the program's: its walk.
-/
import Derived.Test.YtnanmdfbgoahjaaGtm
import Derived.Test.YtnanmdfbgoahjaaRgm
import Derived.Deep.CutRange
import Derived.Deep.CutBlock
import Derived.Deep.RegionHeld3
namespace Go.Proofs.Ytnanmdfbgoahjaa
open Go.RowKit

/-- What Get leaves. -/
def GetPost (w w' : World) (l : List UInt8) (e : Ending) : Prop :=
  (∃ er : Int, er ≠ 0 ∧ getM l = .error er ∧ e = .returned (.tuple #[.agg zero7, .int .i64 0, .int .i64 er]) ∧ Below w.heap.size w w') ∨
  (∃ (x : Md) (k : Nat) (P C Q : Sl), getM l = .ok (x, k) ∧ e = .returned (.tuple #[vMd x P C Q, .int .i64 (k : Nat), .int .i64 0]) ∧ MdAt w' w'.heap.size x P C Q ∧ w'.ownsRow w.heap.size 5 1 (.slice C.a x.code.length C.c) x.code.length (x.code.map bv) ∧ Below w.heap.size w w')
/-- What stands in the model's block is the model that the bytes say. -/
theorem get_value {w W : World} {xg : Nat} {l : List UInt8} {v1 v2 v3 v4 N : Nat} {Ac1 Ac2 : Option Addr} {cc1 cc2 : Nat}
    (hv : numV l 1 ⟨0, 0⟩ = v1 ∧ numV l 1 (takeS l 1 ⟨0, 0⟩) = v2 ∧ numV l 1 (takeS l 1 (takeS l 1 ⟨0, 0⟩)) = v3 ∧ numV l 1 (takeS l 1 (takeS l 1 (takeS l 1 ⟨0, 0⟩))) = v4) (hn : gn l = N)
    (hp : PtsAt W xg (prtsS l N (g5 l)).2)
    (hc : W.ownsRow w.heap.size 5 1 (.slice Ac1 (bytL l (g6 l)).length cc1) (bytL l (g6 l)).length ((bytL l (g6 l)).map bv)) (hq : W.ownsRow w.heap.size 5 1 (.slice Ac2 (bytL l (g7 l)).length cc2) (bytL l (g7 l)).length ((bytL l (g7 l)).map bv))
    (h1 : (bytL l (g6 l)).length ≤ 70000) (h2 : (bytL l (g7 l)).length ≤ 70000) :
    vMd (gM l) ⟨some ⟨xg, 0, none⟩, N⟩ ⟨Ac1, cc1⟩ ⟨Ac2, cc2⟩ = .agg #[.int .i64 (v1 : Nat), .int .i64 (v2 : Nat), .int .i64 (v3 : Nat), .int .i64 (v4 : Nat), .slice (some ⟨xg, 0, none⟩) N N, .slice Ac1 (bytL l (g6 l)).length cc1, .slice Ac2 (bytL l (g7 l)).length cc2] ∧
    MdAt W W.heap.size (gM l) ⟨some ⟨xg, 0, none⟩, N⟩ ⟨Ac1, cc1⟩ ⟨Ac2, cc2⟩ := by
  obtain ⟨e1, e2, e3, e4⟩ := hv
  have hl : (gM l).parts.length = N := by
    show (prtsS l (gn l) (g5 l)).2.length = N
    rw [prtsS_len, hn]
  have hN : N ≤ 1000 := by
    have := numV_lt l 1 (g4 l)
    have e : gn l = numV l 1 (g4 l) := rfl
    omega
  have hps : (gM l).parts = (prtsS l N (g5 l)).2 := by
    show (prtsS l (gn l) (g5 l)).2 = _
    rw [hn]
  refine ⟨?_, ⟨?_, own_isB2 hc (by show (bytL l (g6 l)).length ≤ _; omega), own_isB2 hq (by show (bytL l (g7 l)).length ≤ _; omega)⟩⟩
  · unfold vMd vMdl
    rw [hl]
    subst e1 e2 e3 e4
    rfl
  · show IsP W W.heap.size (some ⟨xg, 0, none⟩) (gM l).parts.length N (gM l).parts
    rw [hl, hps]
    exact isP_row _ hp (by simp) N (by rw [prtsS_len]) hN
section
variable {w0 w w' : World} {p : Gp} {A : Option Addr} {n c r m g k k2 : Nat} {l : List UInt8} {s s' : St} {cs : Array Value} {Ls : List Pt} {v v2 : Value} {lc l2 : List UInt8}
theorem get_kept (h : GkAt w0 w p r m cs A n c l s g Ls v k lc ∧ w.ownsRow w0.heap.size 5 1 v2 k2 (l2.map bv)) (b : Below w.heap.size w w') : GkAt w0 w' p r m cs A n c l s g Ls v k lc ∧ w'.ownsRow w0.heap.size 5 1 v2 k2 (l2.map bv) :=
  ⟨h.1.below b, own_row2 h.2 fun _ _ hg => b.block _ (lt_of_heap hg)⟩
theorem get_kept2 (h : GkAt w0 w p r m cs A n c l s g Ls v k lc ∧ w.ownsRow w0.heap.size 5 1 v2 k2 (l2.map bv)) (q : GtAt w0 w' p A n c l s') (b : But2 p.a p.e w w') : GkAt w0 w' p r m cs A n c l s' g Ls v k lc ∧ w'.ownsRow w0.heap.size 5 1 v2 k2 (l2.map bv) :=
  ⟨h.1.num q b, own_row2 h.2 fun _ _ hg => b.block _ (lt_of_heap hg) (row_ne hg h.1.gm.gr.gt.ra (by decide)) (row_ne hg h.1.gm.gr.gt.re (by decide))⟩
end
set_option maxRecDepth 10000 in
set_option maxHeartbeats 8000000 in
theorem Get_any (A : Option Addr) (n c : Nat) (l : List UInt8) (w : World) (h : IsBB w w.heap.size A n c l) (_hn : n ≤ 1000000) :
    Calls Try.prog 10 #[.slice A n c] w fun e w' => GetPost w w' l e := by
  have AL := hid (alloc4 w (.cells #[.slice A n c] 23) (.cells zero7 25) (.cells #[.int .i64 0] 3) (.cells #[.int .i64 0] 29))
  unfold zero7 at AL
  go_enter Try.func10, Try.ntmps10
  go_upto_region 2 with fail
  generalize ((((w.alloc (.cells #[.slice A n c] 23)).alloc (.cells #[.int .i64 0, .int .i64 0, .int .i64 0, .int .i64 0, .slice none 0 0, .slice none 0 0, .slice none 0 0] 25)).alloc (.cells #[.int .i64 0] 3)).alloc (.cells #[.int .i64 0] 29)) = W at *
  obtain ⟨r0, r1, r2, r3, hsz, hbel⟩ := AL.out
  clear AL
  obtain ⟨xb, hb⟩ : ∃ x, w.heap.size = x := ⟨_, rfl⟩
  rw [hb] at r0 r1 r2 r3 hsz hbel ⊢
  obtain ⟨xr, hr⟩ : ∃ x, xb + 1 = x := ⟨_, rfl⟩
  rw [hr] at r1 r2 r3 hsz ⊢
  obtain ⟨xa, ha⟩ : ∃ x, xr + 1 = x := ⟨_, rfl⟩
  rw [ha] at r2 r3 hsz ⊢
  obtain ⟨xe, he⟩ : ∃ x, xa + 1 = x := ⟨_, rfl⟩
  rw [he] at r3 hsz ⊢
  obtain ⟨xf, hf⟩ : ∃ x, xe + 1 = x := ⟨_, rfl⟩
  rw [hf] at hsz
  obtain ⟨xt, ht⟩ : ∃ x, xf + 1 = x := ⟨_, rfl⟩
  have HL := hid (get_laid h hb r0 r1 r2 r3 hsz hbel (by omega) (by omega) ht)
  have HS := hid (And.intro hb (And.intro hr (And.intro ha (And.intro he hf))))
  clear r0 r1 r2 r3 hbel hb hr ha he hf h
  have hsa : ∀ o, (W.alloc o).heap.size = xt := fun o => by rw [size_al, hsz, ht]
  go_upto_region 5 with fail
  have HG : Hid (GrAt w ((W.alloc (.cells #[.func (.func 22) #[] #[.pointer (some ⟨xe, 0, none⟩)]] 56)).alloc (.cells #[.func (.func 23) #[] #[.pointer (some ⟨xb, 0, none⟩), .pointer (some ⟨xa, 0, none⟩), .pointer (some ⟨xf, 0, none⟩), .pointer (some ⟨xe, 0, none⟩)]] 57)) ⟨xb, xa, xe, xf, xt⟩ xr A n c l ⟨0, 0⟩) := ⟨HL.out.1, HL.out.2⟩
  clear HL hsa hsz
  generalize (W.alloc (.cells #[.func (.func 22) #[] #[.pointer (some ⟨xe, 0, none⟩)]] 56)).alloc (.cells #[.func (.func 23) #[] #[.pointer (some ⟨xb, 0, none⟩), .pointer (some ⟨xa, 0, none⟩), .pointer (some ⟨xf, 0, none⟩), .pointer (some ⟨xe, 0, none⟩)]] 57) = W1 at *
  clear W
  go_upto_region 6 with (go_at_call 24; refine (num1_any HG.out.gt).mono ?_; rintro r W2 ⟨rfl, h5, b5⟩; replace HG := hid (HG.out.num h5 b5); clear h5 b5)
  have HM : Hid (GmAt w (W2.alloc (.cells #[.int .i64 (numV l 1 ⟨0, 0⟩ : Nat), .int .i64 (numV l 1 (takeS l 1 ⟨0, 0⟩) : Nat), .int .i64 (numV l 1 (takeS l 1 (takeS l 1 ⟨0, 0⟩)) : Nat), .int .i64 (numV l 1 (takeS l 1 (takeS l 1 (takeS l 1 ⟨0, 0⟩))) : Nat), .slice none 0 0, .slice none 0 0, .slice none 0 0] 25)) ⟨xb, xa, xe, xf, xt⟩ xr W2.heap.size _ A n c l (g4 l)) := HG.out.new _
  clear HG
  generalize hw : W2.alloc (.cells #[.int .i64 (numV l 1 ⟨0, 0⟩ : Nat), .int .i64 (numV l 1 (takeS l 1 ⟨0, 0⟩) : Nat), .int .i64 (numV l 1 (takeS l 1 (takeS l 1 ⟨0, 0⟩)) : Nat), .int .i64 (numV l 1 (takeS l 1 (takeS l 1 (takeS l 1 ⟨0, 0⟩))) : Nat), .slice none 0 0, .slice none 0 0, .slice none 0 0] 25) = W3 at *
  clear hw
  generalize W2.heap.size = xm at *
  clear W2 W1
  obtain ⟨v1, hv1⟩ : ∃ v, numV l 1 ⟨0, 0⟩ = v := ⟨_, rfl⟩
  obtain ⟨v2, hv2⟩ : ∃ v, numV l 1 (takeS l 1 ⟨0, 0⟩) = v := ⟨_, rfl⟩
  obtain ⟨v3, hv3⟩ : ∃ v, numV l 1 (takeS l 1 (takeS l 1 ⟨0, 0⟩)) = v := ⟨_, rfl⟩
  obtain ⟨v4, hv4⟩ : ∃ v, numV l 1 (takeS l 1 (takeS l 1 (takeS l 1 ⟨0, 0⟩))) = v := ⟨_, rfl⟩
  rw [hv1, hv2, hv3, hv4] at HM
  rw [hv1, hv2, hv3, hv4]
  have HV := hid (And.intro hv1 (And.intro hv2 (And.intro hv3 hv4)))
  clear hv1 hv2 hv3 hv4
  have hN := numV_lt l 1 (g4 l)
  have HN1 := hid (num1_any HM.out.gr.gt)
  have HGN : Hid (gn l = numV l 1 (g4 l)) := rfl
  generalize numV l 1 (g4 l) = N at *
  have hmk := fun w => make_parts N (by omega) w
  go_upto_region 7 with (go_at_call 24; refine HN1.out.mono ?_; rintro r W4 ⟨rfl, h5, b5⟩; have HM4 := hid (HM.out.num h5 b5); have q4 : ∀ o, (W4.alloc o).cell? ⟨xm, 4, none⟩ = some (.slice none 0 0) := fun o => (World.cell?_of_block (heap_alloc_old W4 o (lt_of_heap HM4.out.rm))).trans (row_cell HM4.out.rm 4); have f4 : ∀ o, (W4.alloc o).frozen? ⟨xm, 4, none⟩ = false := fun o => row_free ((heap_alloc_old W4 o (lt_of_heap HM4.out.rm)).trans HM4.out.rm) 4; clear h5 b5)
  have HGl : Hid (GlAt w ((W4.alloc (.cells ((List.replicate N (part0 0)).flatMap cellsP).toArray 41)).setCell ⟨xm, 4, none⟩ (.slice (some ⟨W4.heap.size, 0, none⟩) N N)) ⟨xb, xa, xe, xf, xt⟩ xr xm #[.int .i64 (v1 : Nat), .int .i64 (v2 : Nat), .int .i64 (v3 : Nat), .int .i64 (v4 : Nat), .slice (some ⟨W4.heap.size, 0, none⟩) N N, .slice none 0 0, .slice none 0 0] W4.heap.size N 0 A n c l (g5 l) (g5 l) []) := gl_start HM4.out
  clear HM4 q4 f4 hmk HN1 HM
  generalize (W4.alloc (.cells ((List.replicate N (part0 0)).flatMap cellsP).toArray 41)).setCell ⟨xm, 4, none⟩ (.slice (some ⟨W4.heap.size, 0, none⟩) N N) = W5 at *
  generalize W4.heap.size = xg at *
  clear W4
  go_upto_block 0 with fail
  go_cut [11] from 28 to 47 (fun _ wx => Hid (GmAt w wx ⟨xb, xa, xe, xf, xt⟩ xr xm #[.int .i64 (v1 : Nat), .int .i64 (v2 : Nat), .int .i64 (v3 : Nat), .int .i64 (v4 : Nat), .slice (some ⟨xg, 0, none⟩) N N, .slice none 0 0, .slice none 0 0] A n c l (prtsS l N (g5 l)).1) ∧ Hid (PtsAt wx xg (prtsS l N (g5 l)).2))
  case first =>
    go_wp2_with fail
    go_loopw [11] (fun vi wr => ∃ (i : Nat) (s : St) (Ld : List Pt), i ≤ N ∧ vi = .int .i64 (i : Nat) ∧ Hid (GlAt w wr ⟨xb, xa, xe, xf, xt⟩ xr xm #[.int .i64 (v1 : Nat), .int .i64 (v2 : Nat), .int .i64 (v3 : Nat), .int .i64 (v4 : Nat), .slice (some ⟨xg, 0, none⟩) N N, .slice none 0 0, .slice none 0 0] xg N i A n c l (g5 l) s Ld)) (fun vi _ => N - (intOf vi).toNat)
    case atStart => exact ⟨0, _, [], Nat.zero_le _, rfl, HGl⟩
    case round =>
      obtain ⟨i, s, Ld, hi, rfl, hs⟩ := hrel
      clear HGl
      have c4 : wr.cell? ⟨xm, 4, none⟩ = some (.slice (some ⟨xg, 0, none⟩) N N) := row_cell hs.out.gm.rm 4
      have ce : wr.cell? ⟨xe, 0, none⟩ = some (.int .i64 s.e) := row_cell hs.out.gm.gr.gt.re 0
      obtain ⟨e, he⟩ : ∃ e, s.e = e := ⟨_, rfl⟩
      rw [he] at ce
      by_cases hgo : i < N
      · have hz : (i : Int) < (N : Int) := by omega
        by_cases h0 : e = 0
        · subst h0
          obtain ⟨h1, h2, h3⟩ := gl_cell hs.out hgo
          have HP := hid (part_any hs.out.gm.gr.gt hs.out.pts hs.out.low i h1 (h3 h1) (by omega))
          have HF := hid (fun w' s' (k : GpAt w wr w' ⟨xb, xa, xe, xf, xt⟩ xg A n c l s' ((Ld ++ List.replicate (N - i) (part0 0)).set i (prtS l s).2)) (h : s' = prtF l s) => hs.out.part hgo he rfl k h)
          have hPF : Hid (prtF l s = if prtOk l s then (prtS l s).1 else failS (prtS l s).1 131) := rfl
          clear h1 h2 h3 hs he
          generalize prtOk l s = ok at *
          generalize prtF l s = sn at *
          generalize prtS l s = res at *
          cases ok
          · go_wp2_with (first
              | (go_at_call 25; refine HP.out.mono ?_; rintro r W6 ⟨rfl, k⟩; have cf : W6.cell? ⟨xf, 0, none⟩ = some (.func (.func 22) #[] #[.pointer (some ⟨xe, 0, none⟩)]) := row_cell k.gt.rf 0; have K := hid k; clear k)
              | (go_at_call 22; refine (fail_any K.out.gt 131).mono ?_; rintro r W7 ⟨rfl, h5, b5⟩; have K7 := hid (K.out.num h5 b5); clear h5 b5))
            go_roundw
            case rel => exact ⟨i + 1, _, _, by omega, by go_num, HF.out _ _ K7.out hPF.out.symm⟩
            case measure => simp [intOf]; omega
          · go_wp2_with (go_at_call 25; refine HP.out.mono ?_; rintro r W6 ⟨rfl, k⟩; have K := hid k; clear k)
            go_roundw
            case rel => exact ⟨i + 1, _, _, by omega, by go_num, HF.out _ _ K.out hPF.out.symm⟩
            case measure => simp [intOf]; omega
        · have HD := hid (hs.out.done (.inl (by rw [he]; exact h0)))
          clear hs he
          go_wp2_with fail
          go_meet
          exact HD.out
      · have hz : ¬ (i : Int) < (N : Int) := by omega
        have HD := hid (hs.out.done (.inr (by omega)))
        clear hs he
        go_wp2_with fail
        go_meet
        exact HD.out
  case rest =>
    obtain ⟨HM6, HP6⟩ := hcut
    have HK : Hid (GkAt w wc ⟨xb, xa, xe, xf, xt⟩ xr xm #[.int .i64 (v1 : Nat), .int .i64 (v2 : Nat), .int .i64 (v3 : Nat), .int .i64 (v4 : Nat), .slice (some ⟨xg, 0, none⟩) N N, .slice none 0 0, .slice none 0 0] A n c l (g6 l) xg (prtsS l N (g5 l)).2 (.slice none 0 0) 0 []) := ⟨by unfold g6; rw [HGN.out]; exact HM6.out, HP6.out, World.ownsRow_nil _ _ _ _⟩
    clear HM6 HP6 HGl
    have hv := numV_lt l 2 (g6 l)
    have ct : wc.cell? ⟨xt, 0, none⟩ = some (.func (.func 23) #[] #[.pointer (some ⟨xb, 0, none⟩), .pointer (some ⟨xa, 0, none⟩), .pointer (some ⟨xf, 0, none⟩), .pointer (some ⟨xe, 0, none⟩)]) := row_cell HK.out.gm.gr.gt.rt 0
    have HB7 : Hid (g7 l = takeS l (numV l 2 (g6 l)) (takeS l 2 (g6 l)) ∧ bytL l (g6 l) = takeL l (numV l 2 (g6 l)) (takeS l 2 (g6 l))) := ⟨rfl, rfl⟩
    clear hv ct
    go_upto_region 12 with fail
    have hv1 : numV l 2 (g6 l) ≤ 65535 := Nat.le_of_lt_succ (numV_lt l 2 (g6 l))
    have hlc1 : (takeL l (numV l 2 (g6 l)) (takeS l 2 (g6 l))).length ≤ 70000 := Nat.le_trans (takeL_le l (numV l 2 (g6 l)) (takeS l 2 (g6 l))) (by omega)
    have ct1 : wc.cell? ⟨xt, 0, none⟩ = some (.func (.func 23) #[] #[.pointer (some ⟨xb, 0, none⟩), .pointer (some ⟨xa, 0, none⟩), .pointer (some ⟨xf, 0, none⟩), .pointer (some ⟨xe, 0, none⟩)]) := row_cell HK.out.gm.gr.gt.rt 0
    have hn1 := gk_num2 HK.out.drew
    dsimp only at hn1
    have HN1 := hid hn1
    clear hn1
    generalize numV l 2 (g6 l) = q1 at *
    generalize takeS l 2 (g6 l) = s1 at *
    go_region_held3 (fun w' => w'.cell? ⟨xt, 0, none⟩ = some (.func (.func 23) #[] #[.pointer (some ⟨xb, 0, none⟩), .pointer (some ⟨xa, 0, none⟩), .pointer (some ⟨xf, 0, none⟩), .pointer (some ⟨xe, 0, none⟩)])) (first | exact ct1 | exact za1 | exact zb1 | exact zc1 | exact zd1.out _ | go_keep)
      (first
      | (go_at_call 24; go_must ((with_reducible refine HN1.out.mono ?_); rintro R Wa1 ⟨rfl, ka⟩; have za1 : Wa1.cell? ⟨xt, 0, none⟩ = some (.func (.func 23) #[] #[.pointer (some ⟨xb, 0, none⟩), .pointer (some ⟨xa, 0, none⟩), .pointer (some ⟨xf, 0, none⟩), .pointer (some ⟨xe, 0, none⟩)]) := (gk_cells ka 5).1; have Ka1 := hid ka; clear ka))
      | (go_at_call 23; go_must (have ht1 := gk_take Ka1.out q1 hv1; dsimp only at ht1; (with_reducible refine ht1.mono ?_); clear ht1; rintro R Wb1 ⟨Ab1, cb1, rfl, hb, kb⟩; have zb1 : Wb1.cell? ⟨xt, 0, none⟩ = some (.func (.func 23) #[] #[.pointer (some ⟨xb, 0, none⟩), .pointer (some ⟨xa, 0, none⟩), .pointer (some ⟨xf, 0, none⟩), .pointer (some ⟨xe, 0, none⟩)]) := (gk_cells kb 5).1; have Kb1 := hid kb; have Hb1 := hid hb; clear kb hb))
      | (go_at_call 26; go_must ((with_reducible refine (gk_owned Kb1.out Hb1.out hlc1).mono ?_); rintro R Wc1 ⟨Ac1, cc1, rfl, ho, kc⟩; have zc1 : Wc1.cell? ⟨xt, 0, none⟩ = some (.func (.func 23) #[] #[.pointer (some ⟨xb, 0, none⟩), .pointer (some ⟨xa, 0, none⟩), .pointer (some ⟨xf, 0, none⟩), .pointer (some ⟨xe, 0, none⟩)]) := (gk_cells kc 5).1; have zx1 : Wc1.cell? ⟨xm, 5, none⟩ = some (.slice none 0 0) := (gk_cells kc 5).2.1; have zf1 : Wc1.frozen? ⟨xm, 5, none⟩ = false := (gk_cells kc 5).2.2.1; have zd1 := hid (gk_cells kc 5).2.2.2; have Kc1 := hid (And.intro kc ho); clear kc ho)))
    have HK2 : Hid (GkAt w (Wc1.setCell ⟨xm, 5, none⟩ (.slice Ac1 (takeL l q1 s1).length cc1)) ⟨xb, xa, xe, xf, xt⟩ xr xm #[.int .i64 (v1 : Nat), .int .i64 (v2 : Nat), .int .i64 (v3 : Nat), .int .i64 (v4 : Nat), .slice (some ⟨xg, 0, none⟩) N N, .slice Ac1 (takeL l q1 s1).length cc1, .slice none 0 0] A n c l (takeS l q1 s1) xg (prtsS l N (g5 l)).2 (.slice Ac1 (takeL l q1 s1).length cc1) (takeL l q1 s1).length (takeL l q1 s1)) := gk_own Kc1.out.1 Kc1.out.2 5 _
    rw [← HB7.out.1, ← HB7.out.2] at HK2
    rw [← HB7.out.2]
    rw [← HB7.out.2] at hlc1
    clear Kc1 Kb1 Ka1 Hb1 HN1 zd1 za1 zb1 zc1 zx1 zf1 HB7
    generalize Wc1.setCell ⟨xm, 5, none⟩ (.slice Ac1 (bytL l (g6 l)).length cc1) = W6 at *
    go_upto_region 13 with fail
    have HB8 : Hid (g8 l = takeS l (numV l 2 (g7 l)) (takeS l 2 (g7 l)) ∧ bytL l (g7 l) = takeL l (numV l 2 (g7 l)) (takeS l 2 (g7 l))) := ⟨rfl, rfl⟩
    have hv2 : numV l 2 (g7 l) ≤ 65535 := Nat.le_of_lt_succ (numV_lt l 2 (g7 l))
    have hlc2 : (takeL l (numV l 2 (g7 l)) (takeS l 2 (g7 l))).length ≤ 70000 := Nat.le_trans (takeL_le l (numV l 2 (g7 l)) (takeS l 2 (g7 l))) (by omega)
    have ct2 : W6.cell? ⟨xt, 0, none⟩ = some (.func (.func 23) #[] #[.pointer (some ⟨xb, 0, none⟩), .pointer (some ⟨xa, 0, none⟩), .pointer (some ⟨xf, 0, none⟩), .pointer (some ⟨xe, 0, none⟩)]) := row_cell HK2.out.gm.gr.gt.rt 0
    have hn2 := gk_num2 HK2.out.drew
    dsimp only at hn2
    have HN2 := hid hn2
    clear hn2
    generalize numV l 2 (g7 l) = q2 at *
    generalize takeS l 2 (g7 l) = s2 at *
    go_region_held3 (fun w' => w'.cell? ⟨xt, 0, none⟩ = some (.func (.func 23) #[] #[.pointer (some ⟨xb, 0, none⟩), .pointer (some ⟨xa, 0, none⟩), .pointer (some ⟨xf, 0, none⟩), .pointer (some ⟨xe, 0, none⟩)])) (first | exact ct2 | exact za2 | exact zb2 | exact zc2 | exact zd2.out _ | go_keep)
      (first
      | (go_at_call 24; go_must ((with_reducible refine HN2.out.mono ?_); rintro R Wa2 ⟨rfl, ka⟩; have za2 : Wa2.cell? ⟨xt, 0, none⟩ = some (.func (.func 23) #[] #[.pointer (some ⟨xb, 0, none⟩), .pointer (some ⟨xa, 0, none⟩), .pointer (some ⟨xf, 0, none⟩), .pointer (some ⟨xe, 0, none⟩)]) := (gk_cells ka 6).1; have Ka2 := hid ka; clear ka))
      | (go_at_call 23; go_must (have ht1 := gk_take Ka2.out q2 hv2; dsimp only at ht1; (with_reducible refine ht1.mono ?_); clear ht1; rintro R Wb2 ⟨Ab2, cb2, rfl, hb, kb⟩; have zb2 : Wb2.cell? ⟨xt, 0, none⟩ = some (.func (.func 23) #[] #[.pointer (some ⟨xb, 0, none⟩), .pointer (some ⟨xa, 0, none⟩), .pointer (some ⟨xf, 0, none⟩), .pointer (some ⟨xe, 0, none⟩)]) := (gk_cells kb 6).1; have Kb2 := hid kb; have Hb2 := hid hb; clear kb hb))
      | (go_at_call 26; go_must ((with_reducible refine (gk_owned Kb2.out Hb2.out hlc2).mono ?_); rintro R Wc2 ⟨Ac2, cc2, rfl, ho, kc⟩; have zc2 : Wc2.cell? ⟨xt, 0, none⟩ = some (.func (.func 23) #[] #[.pointer (some ⟨xb, 0, none⟩), .pointer (some ⟨xa, 0, none⟩), .pointer (some ⟨xf, 0, none⟩), .pointer (some ⟨xe, 0, none⟩)]) := (gk_cells kc 6).1; have zx2 : Wc2.cell? ⟨xm, 6, none⟩ = some (.slice none 0 0) := (gk_cells kc 6).2.1; have zf2 : Wc2.frozen? ⟨xm, 6, none⟩ = false := (gk_cells kc 6).2.2.1; have zd2 := hid (gk_cells kc 6).2.2.2; have Kc2 := hid (And.intro kc ho); clear kc ho)))
    have HK3 : Hid (GkAt w (Wc2.setCell ⟨xm, 6, none⟩ (.slice Ac2 (takeL l q2 s2).length cc2)) ⟨xb, xa, xe, xf, xt⟩ xr xm #[.int .i64 (v1 : Nat), .int .i64 (v2 : Nat), .int .i64 (v3 : Nat), .int .i64 (v4 : Nat), .slice (some ⟨xg, 0, none⟩) N N, .slice Ac1 (bytL l (g6 l)).length cc1, .slice Ac2 (takeL l q2 s2).length cc2] A n c l (takeS l q2 s2) xg (prtsS l N (g5 l)).2 (.slice Ac1 (bytL l (g6 l)).length cc1) (bytL l (g6 l)).length (bytL l (g6 l)) ∧
        (Wc2.setCell ⟨xm, 6, none⟩ (.slice Ac2 (takeL l q2 s2).length cc2)).ownsRow w.heap.size 5 1 (.slice Ac2 (takeL l q2 s2).length cc2) (takeL l q2 s2).length ((takeL l q2 s2).map bv)) := ⟨Kc2.out.1.set 6 _, own_set2 Kc2.out.1 Kc2.out.2 6 _⟩
    rw [← HB8.out.1, ← HB8.out.2] at HK3
    rw [← HB8.out.2]
    rw [← HB8.out.2] at hlc2
    clear Kc2 Kb2 Ka2 Hb2 HN2 zd2 za2 zb2 zc2 zx2 zf2 HB8 HK2 HK
    generalize Wc2.setCell ⟨xm, 6, none⟩ (.slice Ac2 (bytL l (g7 l)).length cc2) = W7 at *
    go_upto_region 14 with fail
    have HW := hid (get_value HV.out HGN.out HK3.out.1.pts HK3.out.1.own HK3.out.2 hlc1 hlc2)
    have d0 : W7.cell? ⟨xm, 0, none⟩ = some (.int .i64 (v1 : Nat)) := row_cell HK3.out.1.gm.rm 0
    have d1 : W7.cell? ⟨xm, 1, none⟩ = some (.int .i64 (v2 : Nat)) := row_cell HK3.out.1.gm.rm 1
    have d2 : W7.cell? ⟨xm, 2, none⟩ = some (.int .i64 (v3 : Nat)) := row_cell HK3.out.1.gm.rm 2
    have d3 : W7.cell? ⟨xm, 3, none⟩ = some (.int .i64 (v4 : Nat)) := row_cell HK3.out.1.gm.rm 3
    have d4 : W7.cell? ⟨xm, 4, none⟩ = some (.slice (some ⟨xg, 0, none⟩) N N) := row_cell HK3.out.1.gm.rm 4
    have d5 : W7.cell? ⟨xm, 5, none⟩ = some (.slice Ac1 (bytL l (g6 l)).length cc1) := row_cell HK3.out.1.gm.rm 5
    have d6 : W7.cell? ⟨xm, 6, none⟩ = some (.slice Ac2 (bytL l (g7 l)).length cc2) := row_cell HK3.out.1.gm.rm 6
    have hrt := Right_md W7 (gM l) _ _ _ HW.out.2
    rw [HW.out.1] at hrt
    have HRt := hid hrt
    clear hrt
    have H9 : Hid (g9 l = if (gM l).right = 0 then g8 l else failS (g8 l) 131) := rfl
    generalize (gM l).right = rr at *
    by_cases hr0 : rr = 0
    · subst hr0
      have e9 : g9 l = g8 l := H9.out.trans (if_pos rfl)
      go_upto_region 16 with (go_at_call 12; refine HRt.out.mono ?_; rintro R W9 ⟨rfl, b9⟩; have HK4 := hid (get_kept HK3.out b9); clear b9)
      have z0 : W9.cell? ⟨xr, 0, none⟩ = some (.int .i64 0) := row_cell HK4.out.1.gm.gr.rr 0
      have y0 : W9.frozen? ⟨xr, 0, none⟩ = false := row_free HK4.out.1.gm.gr.rr 0
      have z1 : W9.cell? ⟨xr, 1, none⟩ = some (.int .i64 0) := row_cell HK4.out.1.gm.gr.rr 1
      have y1 : W9.frozen? ⟨xr, 1, none⟩ = false := row_free HK4.out.1.gm.gr.rr 1
      have z2 : W9.cell? ⟨xr, 2, none⟩ = some (.int .i64 0) := row_cell HK4.out.1.gm.gr.rr 2
      have y2 : W9.frozen? ⟨xr, 2, none⟩ = false := row_free HK4.out.1.gm.gr.rr 2
      have z3 : W9.cell? ⟨xr, 3, none⟩ = some (.int .i64 0) := row_cell HK4.out.1.gm.gr.rr 3
      have y3 : W9.frozen? ⟨xr, 3, none⟩ = false := row_free HK4.out.1.gm.gr.rr 3
      have z4 : W9.cell? ⟨xr, 4, none⟩ = some (.slice none 0 0) := row_cell HK4.out.1.gm.gr.rr 4
      have y4 : W9.frozen? ⟨xr, 4, none⟩ = false := row_free HK4.out.1.gm.gr.rr 4
      have z5 : W9.cell? ⟨xr, 5, none⟩ = some (.slice none 0 0) := row_cell HK4.out.1.gm.gr.rr 5
      have y5 : W9.frozen? ⟨xr, 5, none⟩ = false := row_free HK4.out.1.gm.gr.rr 5
      have z6 : W9.cell? ⟨xr, 6, none⟩ = some (.slice none 0 0) := row_cell HK4.out.1.gm.gr.rr 6
      have y6 : W9.frozen? ⟨xr, 6, none⟩ = false := row_free HK4.out.1.gm.gr.rr 6
      have hxe : xe ≠ xr := row_ne HK4.out.1.gm.gr.gt.re HK4.out.1.gm.gr.rr (by decide)
      have hxa : xa ≠ xr := row_ne HK4.out.1.gm.gr.gt.ra HK4.out.1.gm.gr.rr (by decide)
      have hxm : xm ≠ xr := HK4.out.1.gm.ne
      obtain ⟨e, he⟩ : ∃ e, (g8 l).e = e := ⟨_, rfl⟩
      have ce : W9.cell? ⟨xe, 0, none⟩ = some (.int .i64 e) := by rw [← he]; exact row_cell HK4.out.1.gm.gr.gt.re 0
      clear d0 d1 d2 d3 d4 d5 d6 HK3 HW HRt
      rw [← e9] at he
      by_cases h0 : e = 0
      · subst h0
        have d0 : W9.cell? ⟨xm, 0, none⟩ = some (.int .i64 (v1 : Nat)) := row_cell HK4.out.1.gm.rm 0
        have d1 : W9.cell? ⟨xm, 1, none⟩ = some (.int .i64 (v2 : Nat)) := row_cell HK4.out.1.gm.rm 1
        have d2 : W9.cell? ⟨xm, 2, none⟩ = some (.int .i64 (v3 : Nat)) := row_cell HK4.out.1.gm.rm 2
        have d3 : W9.cell? ⟨xm, 3, none⟩ = some (.int .i64 (v4 : Nat)) := row_cell HK4.out.1.gm.rm 3
        have d4 : W9.cell? ⟨xm, 4, none⟩ = some (.slice (some ⟨xg, 0, none⟩) N N) := row_cell HK4.out.1.gm.rm 4
        have d5 : W9.cell? ⟨xm, 5, none⟩ = some (.slice Ac1 (bytL l (g6 l)).length cc1) := row_cell HK4.out.1.gm.rm 5
        have d6 : W9.cell? ⟨xm, 6, none⟩ = some (.slice Ac2 (bytL l (g7 l)).length cc2) := row_cell HK4.out.1.gm.rm 6
        have ca : W9.cell? ⟨xa, 0, none⟩ = some (.int .i64 ((g8 l).at_ : Nat)) := row_cell HK4.out.1.gm.gr.gt.ra 0
        go_upto_region 18 with fail
        go_region
        go_wp2_with fail
        have RS := row_set7 _ _ _ _ _ _ _ (.int .i64 (v1 : Nat)) (.int .i64 (v2 : Nat)) (.int .i64 (v3 : Nat)) (.int .i64 (v4 : Nat)) (.slice (some ⟨xg, 0, none⟩) N N) (.slice Ac1 (bytL l (g6 l)).length cc1) (.slice Ac2 (bytL l (g7 l)).length cc2) HK4.out.1.gm.gr.rr
        unfold set7 at RS
        obtain ⟨RS1, RS2⟩ := RS
        have SB : ∀ k, k ≠ xr → (((((((W9.setCell ⟨xr, 0, none⟩ (.int .i64 (v1 : Nat))).setCell ⟨xr, 1, none⟩ (.int .i64 (v2 : Nat))).setCell ⟨xr, 2, none⟩ (.int .i64 (v3 : Nat))).setCell ⟨xr, 3, none⟩ (.int .i64 (v4 : Nat))).setCell ⟨xr, 4, none⟩ (.slice (some ⟨xg, 0, none⟩) N N)).setCell ⟨xr, 5, none⟩ (.slice Ac1 (bytL l (g6 l)).length cc1)).setCell ⟨xr, 6, none⟩ (.slice Ac2 (bytL l (g7 l)).length cc2)).heap[k]? = W9.heap[k]? := fun k hk => set7_block hk
        generalize ((((((W9.setCell ⟨xr, 0, none⟩ (.int .i64 (v1 : Nat))).setCell ⟨xr, 1, none⟩ (.int .i64 (v2 : Nat))).setCell ⟨xr, 2, none⟩ (.int .i64 (v3 : Nat))).setCell ⟨xr, 3, none⟩ (.int .i64 (v4 : Nat))).setCell ⟨xr, 4, none⟩ (.slice (some ⟨xg, 0, none⟩) N N)).setCell ⟨xr, 5, none⟩ (.slice Ac1 (bytL l (g6 l)).length cc1)).setCell ⟨xr, 6, none⟩ (.slice Ac2 (bytL l (g7 l)).length cc2) = WE at *
        have RS3 : WE.drew.heap[xr]? = _ := RS1
        refine bodyPost_ret (results_md (by kernel_rfl : Try.f10.results = #[.cell 2 25, .tmp 3, .tmp 4]) _ _ xr _ _ _ rfl RS3 rfl) rfl ?_
        rcases get_is l with ⟨e', he', _, g2⟩ | ⟨g1, _, g3, _⟩
        · exact absurd (g2.symm.trans he) he'
        · have hp : PtsAt WE.drew xg _ := (SB _ (row_ne HK4.out.1.pts HK4.out.1.gm.gr.rr (by decide))).trans HK4.out.1.pts
          have ho1 := own_row2 (w' := WE.drew) HK4.out.1.own fun g _ hg => SB g (row_ne hg HK4.out.1.gm.gr.rr (by decide))
          have ho2 := own_row2 (w' := WE.drew) HK4.out.2 fun g _ hg => SB g (row_ne hg HK4.out.1.gm.gr.rr (by decide))
          have hv := get_value HV.out HGN.out hp ho1 ho2 hlc1 hlc2
          rw [g3] at g1
          exact .inr ⟨gM l, (g8 l).at_, _, ⟨Ac1, cc1⟩, _, g1, by rw [hv.1]; rfl, hv.2, ho1, (RS2 _ _ (by have := HS.out; omega) HK4.out.1.gm.gr.gt.bel).drew⟩
      · skip
        go_upto_region 17 with fail
        go_region
        go_wp2_with fail
        have RS := row_set7 _ _ _ _ _ _ _ (.int .i64 0) (.int .i64 0) (.int .i64 0) (.int .i64 0) (.slice none 0 0) (.slice none 0 0) (.slice none 0 0) HK4.out.1.gm.gr.rr
        unfold set7 at RS
        obtain ⟨RS1, RS2⟩ := RS
        generalize ((((((W9.setCell ⟨xr, 0, none⟩ (.int .i64 0)).setCell ⟨xr, 1, none⟩ (.int .i64 0)).setCell ⟨xr, 2, none⟩ (.int .i64 0)).setCell ⟨xr, 3, none⟩ (.int .i64 0)).setCell ⟨xr, 4, none⟩ (.slice none 0 0)).setCell ⟨xr, 5, none⟩ (.slice none 0 0)).setCell ⟨xr, 6, none⟩ (.slice none 0 0) = WE at *
        have RS3 : WE.drew.heap[xr]? = _ := RS1
        refine bodyPost_ret (results_md (by kernel_rfl : Try.f10.results = #[.cell 2 25, .tmp 3, .tmp 4]) _ _ xr _ _ _ rfl RS3 rfl) rfl ?_
        rcases get_is l with ⟨e', he', g1, g2⟩ | ⟨_, g2, _⟩
        · obtain rfl : e' = e := g2.symm.trans he
          exact .inl ⟨e', he', g1, rfl, (RS2 _ _ (by have := HS.out; omega) HK4.out.1.gm.gr.gt.bel).drew⟩
        · exact absurd (he.symm.trans g2) h0
    · have e9 : g9 l = failS (g8 l) 131 := H9.out.trans (if_neg hr0)
      go_upto_region 16 with (first
        | (go_at_call 12; refine HRt.out.mono ?_; rintro R W8 ⟨rfl, b9⟩; have HK4 := hid (get_kept HK3.out b9); have cf : W8.cell? ⟨xf, 0, none⟩ = some (.func (.func 22) #[] #[.pointer (some ⟨xe, 0, none⟩)]) := row_cell HK4.out.1.gm.gr.gt.rf 0; clear b9)
        | (go_at_call 22; refine (fail_any HK4.out.1.gm.gr.gt 131).mono ?_; rintro R W9 ⟨rfl, k9, b9⟩; replace HK4 := hid (get_kept2 HK4.out k9 b9); clear k9 b9))
      obtain ⟨e, he⟩ : ∃ e, (g9 l).e = e := ⟨_, rfl⟩
      rw [← e9] at HK4
      have h0 : ¬ e = 0 := by
        rw [← he, e9]
        unfold failS
        split
        · show ¬ (131 : Int) = 0; decide
        · assumption
      have ce : W9.cell? ⟨xe, 0, none⟩ = some (.int .i64 e) := by rw [← he]; exact row_cell HK4.out.1.gm.gr.gt.re 0
      have z0 : W9.cell? ⟨xr, 0, none⟩ = some (.int .i64 0) := row_cell HK4.out.1.gm.gr.rr 0
      have y0 : W9.frozen? ⟨xr, 0, none⟩ = false := row_free HK4.out.1.gm.gr.rr 0
      have z1 : W9.cell? ⟨xr, 1, none⟩ = some (.int .i64 0) := row_cell HK4.out.1.gm.gr.rr 1
      have y1 : W9.frozen? ⟨xr, 1, none⟩ = false := row_free HK4.out.1.gm.gr.rr 1
      have z2 : W9.cell? ⟨xr, 2, none⟩ = some (.int .i64 0) := row_cell HK4.out.1.gm.gr.rr 2
      have y2 : W9.frozen? ⟨xr, 2, none⟩ = false := row_free HK4.out.1.gm.gr.rr 2
      have z3 : W9.cell? ⟨xr, 3, none⟩ = some (.int .i64 0) := row_cell HK4.out.1.gm.gr.rr 3
      have y3 : W9.frozen? ⟨xr, 3, none⟩ = false := row_free HK4.out.1.gm.gr.rr 3
      have z4 : W9.cell? ⟨xr, 4, none⟩ = some (.slice none 0 0) := row_cell HK4.out.1.gm.gr.rr 4
      have y4 : W9.frozen? ⟨xr, 4, none⟩ = false := row_free HK4.out.1.gm.gr.rr 4
      have z5 : W9.cell? ⟨xr, 5, none⟩ = some (.slice none 0 0) := row_cell HK4.out.1.gm.gr.rr 5
      have y5 : W9.frozen? ⟨xr, 5, none⟩ = false := row_free HK4.out.1.gm.gr.rr 5
      have z6 : W9.cell? ⟨xr, 6, none⟩ = some (.slice none 0 0) := row_cell HK4.out.1.gm.gr.rr 6
      have y6 : W9.frozen? ⟨xr, 6, none⟩ = false := row_free HK4.out.1.gm.gr.rr 6
      have hxe : xe ≠ xr := row_ne HK4.out.1.gm.gr.gt.re HK4.out.1.gm.gr.rr (by decide)
      clear d0 d1 d2 d3 d4 d5 d6 cf HK3 HW HRt
      go_upto_region 17 with fail
      go_region
      go_wp2_with fail
      have RS := row_set7 _ _ _ _ _ _ _ (.int .i64 0) (.int .i64 0) (.int .i64 0) (.int .i64 0) (.slice none 0 0) (.slice none 0 0) (.slice none 0 0) HK4.out.1.gm.gr.rr
      unfold set7 at RS
      obtain ⟨RS1, RS2⟩ := RS
      generalize ((((((W9.setCell ⟨xr, 0, none⟩ (.int .i64 0)).setCell ⟨xr, 1, none⟩ (.int .i64 0)).setCell ⟨xr, 2, none⟩ (.int .i64 0)).setCell ⟨xr, 3, none⟩ (.int .i64 0)).setCell ⟨xr, 4, none⟩ (.slice none 0 0)).setCell ⟨xr, 5, none⟩ (.slice none 0 0)).setCell ⟨xr, 6, none⟩ (.slice none 0 0) = WE at *
      have RS3 : WE.drew.heap[xr]? = _ := RS1
      refine bodyPost_ret (results_md (by kernel_rfl : Try.f10.results = #[.cell 2 25, .tmp 3, .tmp 4]) _ _ xr _ _ _ rfl RS3 rfl) rfl ?_
      rcases get_is l with ⟨e', he', g1, g2⟩ | ⟨_, g2, _⟩
      · obtain rfl : e' = e := g2.symm.trans he
        exact .inl ⟨e', he', g1, rfl, (RS2 _ _ (by have := HS.out; omega) HK4.out.1.gm.gr.gt.bel).drew⟩
      · exact absurd (he.symm.trans g2) h0
end Go.Proofs.Ytnanmdfbgoahjaa
