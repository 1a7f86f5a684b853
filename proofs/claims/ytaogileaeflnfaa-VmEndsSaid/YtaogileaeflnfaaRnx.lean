/-
  The contract of Run: the walk (written by tools/stage17/gen_rnx.py).
-/
import Derived.Test.YtaogileaeflnfaaRnw
set_option linter.unusedVariables false
set_option linter.unusedSimpArgs false
namespace Go.Proofs.Ytaogileaeflnfaa
open Go.RowKit

set_option maxRecDepth 10000 in
set_option maxHeartbeats 16000000 in
theorem Run_any (w : World) (x : Mn) (l : List UInt8) (A : Option Addr) (n c : Nat) (post : Bool) (fuel most : Int) (AH AM : Option Addr) (nH cH nM cM : Nat) (hb : IsBB w w.heap.size A n c l) (h : U.IsBB w w.heap.size AH nH cH x.h) (hm : IsBB w w.heap.size AM nM cM x.m) (h1 : nH ≤ 5000) (h2 : nM ≤ 5000) (hmo : most ≤ 1000) (hf : fuel ≤ 1000) :
    Calls Try.prog 17 #[.slice A n c, .bool post, vM x (.slice AH nH cH) (.slice AM nM cM), .int .i64 fuel, .int .i64 most] w (RunPost w l post x fuel most nH nM) := by
  have zv := zero30
  have zl : zL.length = 263 := mc_len _ _ _
  have HZ1 := hid (lay_ok zL zl zo).1
  have HZ2 := hid zo
  have hlen := hid hb.len
  have HB := hid hb
  have H0 := hid (TwoM.start2 w (mcL x (.slice AH nH cH) (.slice AM nM cM)) zL)
  have HC := hid (fun W (b : Below w.heap.size w W) => Check_any A n c l post W (hb.on b))
  have HA := hid (fun W (t : TwoM w W w.heap.size (mcL x (.slice AH nH cH) (.slice AM nM cM)) zL) => rn_apart t h hm h1 h2)
  have HRt := hid (fun W (t : TwoM w W w.heap.size (mcL x (.slice AH nH cH) (.slice AM nM cM)) zL) => right_any W w.heap.size x AH AM nH cH nM cM ⟨t.one, h.on t.bel, hm.on t.bel⟩ h1 h2)
  have HS5 := hid (mc_size x (.slice AH nH cH) (.slice AM nM cM))
  clear h hm hb
  unfold vM at HA ⊢
  generalize hL : mcL x (.slice AH nH cH) (.slice AM nM cM) = L at *
  replace hL := hid hL
  have hsz := hid (size30 L.toArray HS5.out)
  go_enter Try.func17, Try.ntmps17
  go_upto_region 1 with fail
  generalize (w.alloc (.cells L.toArray 30)).alloc (.cells zL.toArray 30) = W0 at *
  have HC0 := hid (HC.out W0 H0.out.bel)
  go_upto_region 2 with (go_at_call 15; refine HC0.out.mono ?_; rintro r W1 ⟨S, rfl, b1, hS⟩)
  have H1 := hid (H0.out.below b1)
  have HS := hid hS
  clear b1 hS HC0 HC H0
  obtain ⟨er, her⟩ : ∃ er, chkE l post S = er := ⟨_, rfl⟩
  rw [her]
  have HE := hid (chk_zero (post := post) HS.out)
  rw [her] at HE
  clear her
  have HZr := hid H1.out.two
  by_cases h0 : er = 0
  case neg =>
    have n0 : (er != 0) = true := by simp [h0]
    have RZ := hid (res_row H1.out.two (Nat.le_succ _) H1.out.bel zL)
    have hwr := hid (fun h => h0 (HE.out.2 h))
    clear HA HRt hsz HB
    go_wp2_with (refine wpList_store_row (o := ⟨none, .store 30 (.tmp 10) (.tmp 21), _, _, _, _⟩) rfl 30 (.tmp 10) (.tmp 21) rfl (w.heap.size + 1) zL.toArray rfl rfl 30 zL.toArray HZr.out HZ1.out rfl HZ2.out ?_)
    refine bodyPost_ret (results_30_2 (by kernel_rfl : Try.f17.results = #[.cell 10 30, .tmp 11, .tmp 12]) _ _ (w.heap.size + 1) zL rfl RZ.out.1 zl) rfl ?_
    exact .wrong er hwr.out h0 rfl RZ.out.2
  subst h0
  have hrp := hid (HE.out.1 rfl)
  have hS2 : Hid (starts l = some S) := hid (by
    obtain ⟨h1, h2, S', hS', _⟩ := hrp.out
    refine HS.out ?_
    unfold stE
    rw [if_neg (by omega), if_neg (by omega), hS']
    rfl)
  have hn5 : n ≤ 5000 := by
    have := hlen.out
    have := hrp.out.1
    omega
  clear HE HS
  have HR1 := hid (HRt.out W1 H1.out)
  by_cases hk : x.ok
  case neg =>
    rw [decide_eq_false hk] at HR1
    have RZ := hid (res_row H1.out.two (Nat.le_succ _) H1.out.bel zL)
    clear HA HRt hsz HB
    go_wp2_with (first
      | (go_at_call 24; refine HR1.out.mono ?_; rintro r w2 ⟨rfl, rfl⟩)
      | (refine wpList_store_row (o := ⟨none, .store 30 (.tmp 10) (.tmp 25), _, _, _, _⟩) rfl 30 (.tmp 10) (.tmp 25) rfl (w.heap.size + 1) zL.toArray rfl rfl 30 zL.toArray HZr.out HZ1.out rfl HZ2.out ?_))
    refine bodyPost_ret (results_30_2 (by kernel_rfl : Try.f17.results = #[.cell 10 30, .tmp 11, .tmp 12]) _ _ (w.heap.size + 1) zL rfl RZ.out.1 zl) rfl ?_
    exact .arg hrp.out hk rfl RZ.out.2
  rw [decide_eq_true hk] at HR1
  have HA1 := hid (HA.out W1 H1.out)
  clear HRt HA
  go_upto_region 7 with (first
    | (go_at_call 24; refine HR1.out.mono ?_; rintro r w2 ⟨rfl, rfl⟩)
    | (refine wpList_load_row rfl 30 (.tmp 7) rfl w.heap.size rfl 30 L.toArray (0, 0) _ H1.out.one Try.underlying30 rfl hsz.out ?_)
    | (go_at_call 21; refine HA1.out.mono ?_; rintro r W2 ⟨BH, dH, BM, dM, rfl, H2, HN2⟩; have E1 := hid (lay_ok (mcL x (.slice BH nH dH) (.slice BM nM dM)) (mc_len _ _ _) (mc_one _ _ _ _ _ _ _)); have E0 := hid (show L.toArray.size = (mcL x (.slice BH nH dH) (.slice BM nM dM)).toArray.size by rw [HS5.out, mc_size]))
    | (refine wpList_store_row (o := ⟨none, .store 30 (.tmp 7) (.tmp 27), _, _, _, _⟩) rfl 30 (.tmp 7) (.tmp 27) rfl w.heap.size (mcL x (.slice BH nH dH) (.slice BM nM dM)).toArray rfl rfl 30 L.toArray H2.out.one E1.out.1 E0.out E1.out.2.2 ?_))
  generalize W2.setRow w.heap.size (mcL x (.slice BH nH dH) (.slice BM nM dM)).toArray = W3 at *
  clear H2 E1 E0 HA1 HR1 hL hsz HS5 HZr H1
  have HLd := hid (rn_laid HN2.out HB.out hn5 hS2.out)
  have HFw := hid (fun V gs (hl : LdAt V gs n l S ∧ Rn w V x BH nH dH BM nM dM ∧ W3.heap.size ≤ gs ∧ Below W3.heap.size W3 V) => rn_follow (fuel := fuel) (most := most) hl.2.1 HN2.out hl.2.2.1 hl.1 hlen.out hrp.out hS2.out hk hmo hf h1 h2)
  clear HN2
  go_upto_region 8 with (first
    | (go_at_call 38; refine HLd.out.mono ?_; rintro r W4 ⟨gs, rfl, HL4⟩; have HF4 := hid (HFw.out W4 gs HL4.out))
    | (go_at_call 37; refine HF4.out.mono ?_; rintro r W5 (⟨G, y, out, Av, cv, hrun, rfl, ho, hrn⟩ | ⟨G, er, hrun, hne, rfl, htw, hbl⟩)))
  · have HO := hid ho
    have HR5 := hid hrn
    have HRun := hid hrun
    clear ho hrn hrun HLd HFw HF4 HL4
    have E5 := hid (lay_ok (mcL y (.slice BH nH dH) (.slice BM nM dM)) (mc_len _ _ _) (mc_one _ _ _ _ _ _ _))
    have HQ5 := hid (mc_len y (.slice BH nH dH) (.slice BM nM dM))
    have RR := hid (res_row HR5.out.two.two (Nat.le_succ _) HR5.out.two.bel (mcL y (.slice BH nH dH) (.slice BM nM dM)))
    have OO := hid (fun e n v xs (he : (30 : Nat) ≠ e) (ho : W5.ownsRow w.heap.size e 1 v n xs) => (HR5.out.two.done (mcL y (.slice BH nH dH) (.slice BM nM dM))).2.2 e n v xs he _ ho)
    have H5o := hid HR5.out.two.one
    have H5t := hid HR5.out.two.two
    have P1 := hid (OO.out _ _ _ _ (by decide) HR5.out.o1)
    have P2 := hid (OO.out _ _ _ _ (by decide) HR5.out.o2)
    have P3 := hid (OO.out _ _ _ _ (by decide) HO.out)
    clear OO HR5 HO
    obtain ⟨L5, hL5⟩ : ∃ L5, mcL y (.slice BH nH dH) (.slice BM nM dM) = L5 := ⟨_, rfl⟩
    rw [hL5] at E5 HQ5 RR H5o P1 P2 P3
    replace hL5 := hid hL5
    go_wp2_with (first
      | (refine wpList_load_row rfl 30 (.tmp 7) rfl w.heap.size rfl 30 L5.toArray (0, 0) _ H5o.out Try.underlying30 rfl E5.out.1 ?_)
      | (refine wpList_store_row (o := ⟨none, .store 30 (.tmp 10) (.tmp 40), _, _, _, _⟩) rfl 30 (.tmp 10) (.tmp 40) rfl (w.heap.size + 1) L5.toArray rfl rfl 30 zL.toArray H5t.out E5.out.1 E5.out.2.1 E5.out.2.2 ?_))
    refine bodyPost_ret (results_30_2 (by kernel_rfl : Try.f17.results = #[.cell 10 30, .tmp 11, .tmp 12]) _ _ (w.heap.size + 1) L5 rfl RR.out.1 HQ5.out) rfl ?_
    exact .halt hrp.out hk G y out HRun.out BH dH BM dM (.slice Av out.length cv) (by unfold vM; rw [hL5.out]; rfl) ⟨P1.out, P2.out, P3.out⟩ RR.out.2
  · have n0 : (er != 0) = true := by simp [hne]
    have HZr := hid htw
    have RZ := hid (res_row htw (Nat.le_succ _) hbl zL)
    have HRun := hid hrun
    clear htw hbl hrun hne HLd HFw HF4 HL4
    go_wp2_with (refine wpList_store_row (o := ⟨none, .store 30 (.tmp 10) (.tmp 38), _, _, _, _⟩) rfl 30 (.tmp 10) (.tmp 38) rfl (w.heap.size + 1) zL.toArray rfl rfl 30 zL.toArray HZr.out HZ1.out rfl HZ2.out ?_)
    refine bodyPost_ret (results_30_2 (by kernel_rfl : Try.f17.results = #[.cell 10 30, .tmp 11, .tmp 12]) _ _ (w.heap.size + 1) zL rfl RZ.out.1 zl) rfl ?_
    exact .er hrp.out hk G er HRun.out rfl RZ.out.2
end Go.Proofs.Ytaogileaeflnfaa
