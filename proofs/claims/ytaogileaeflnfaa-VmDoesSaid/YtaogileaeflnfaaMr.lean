/-
  Merged: Rnw Rnx.
-/
import Derived.Test.YtaogileaeflnfaaFlw
import Derived.Test.YtaogileaeflnfaaDow
import Derived.Test.YtaogileaeflnfaaRpl
import Derived.Test.YtaogileaeflnfaaMn
/-
  The contract of Run.
-/
set_option linter.unusedVariables false
set_option linter.unusedSimpArgs false
namespace Go.Proofs.Ytaogileaeflnfaa
open Go.RowKit

theorem results_30_2 {fn : Func} {p u v : Tmp} (h : fn.results = #[.cell p 30, .tmp u, .tmp v]) (tmps : Array Value) (w : World) (g : Nat) (L : List Value)
    (hp : tmps.getD p undef = .pointer (some ⟨g, 0, none⟩)) (hg : w.heap[g]? = some (.cells L.toArray 30 (0, 0))) (h4 : L.length = 263) : (results fn tmps).run Try.prog w = .ok (.tuple #[.agg L.toArray, tmps.getD u undef, tmps.getD v undef]) w := by
  have hp' : tmps[p]?.getD undef = .pointer (some ⟨g, 0, none⟩) := by simpa using hp
  have hl := run_loadVar_row w g 30 30 L.toArray (0, 0) _ hg Try.underlying30 rfl (size30 _ (by rw [List.size_toArray, h4]))
  simp [results, h, hp', asAddr, hl, Result.andThen]
/-- The machine's lists, and what was put out. -/
def Ended (w w' : World) (y : Mn) (BH : Option Addr) (nH dH : Nat) (BM : Option Addr) (nM dM : Nat) (v : Value) (out : List UInt8) : Prop :=
  w'.ownsRow w.heap.size 25 1 (.slice BH nH dH) nH (y.h.map U.bv) ∧ w'.ownsRow w.heap.size 5 1 (.slice BM nM dM) nM (y.m.map bv) ∧ w'.ownsRow w.heap.size 5 1 v out.length (out.map bv)
/-- What Run tells. -/
inductive RunPost (w : World) (l : List UInt8) (post : Bool) (x : Mn) (fuel most : Int) (nH nM : Nat) (e : Ending) (w' : World) : Prop where
  | wrong (er : Int) (h : ¬ rightP l post) (h0 : er ≠ 0) (he : e = .returned (.tuple #[vM zM (.slice none 0 0) (.slice none 0 0), .slice none 0 0, .int .i64 er])) (b : Below w.heap.size w w')
  | arg (h : rightP l post) (hk : ¬ x.ok) (he : e = .returned (.tuple #[vM zM (.slice none 0 0) (.slice none 0 0), .slice none 0 0, .int .i64 2])) (b : Below w.heap.size w w')
  | er (h : rightP l post) (hk : x.ok) (G : Nat) (er : Int) (hr : runF l most G 0 x fuel [] = some (.er er)) (he : e = .returned (.tuple #[vM zM (.slice none 0 0) (.slice none 0 0), .slice none 0 0, .int .i64 er])) (b : Below w.heap.size w w')
  | halt (h : rightP l post) (hk : x.ok) (G : Nat) (y : Mn) (out : List UInt8) (hr : runF l most G 0 x fuel [] = some (.halt y out)) (BH : Option Addr) (dH : Nat) (BM : Option Addr) (dM : Nat) (v : Value)
      (he : e = .returned (.tuple #[vM y (.slice BH nH dH) (.slice BM nM dM), v, .int .i64 0])) (hl : Ended w w' y BH nH dH BM nM dM v out) (b : Below w.heap.size w w')
theorem chk_zero {l : List UInt8} {post : Bool} {S : List Nat} (h : stE l = 0 → starts l = some S) : chkE l post S = 0 ↔ rightP l post := by
  refine ⟨fun e => (chk_right h e).1, fun e => ?_⟩
  have h0 : stE l = 0 := by
    obtain ⟨h1, h2, S', hS', _⟩ := e
    unfold stE
    rw [if_neg (by omega), if_neg (by omega), hS']
    rfl
  exact right_chk e h0 h
theorem lay_ok (L : List Value) (h : L.length = 263) (h1 : L.toArray.all (·.oneCell') = true) : (Try.prog.info? 30).map (·.size) = some L.toArray.size ∧ zL.toArray.size = L.toArray.size ∧ L.toArray.all (·.oneCell') = true :=
  ⟨size30 _ (by rw [List.size_toArray, h]), by rw [List.size_toArray, List.size_toArray, h]; exact mc_len _ _ _, h1⟩
/-- The result's block: a whole machine is stored there. -/
theorem res_row {w W : World} {b : Nat} (h : W.heap[b]? = some (.cells zL.toArray 30 (0, 0))) (hb : w.heap.size ≤ b) (k : Below w.heap.size w W) (L : List Value) :
    (W.setRow b L.toArray).heap[b]? = some (.cells L.toArray 30 (0, 0)) ∧ Below w.heap.size w (W.setRow b L.toArray) := by
  refine ⟨setRow_heap _ _ _ _ _ _ h, k.os, k.tape, k.output, by rw [size_setRow]; exact k.size, fun i hi => ?_⟩
  rw [setRow_other _ _ _ _ (by omega)]
  exact k.block i hi
/-- What stands behind apart, its machine stored. -/
structure Rn (w W : World) (x : Mn) (BH : Option Addr) (nH dH : Nat) (BM : Option Addr) (nM dM : Nat) : Prop where
  two : TwoM w W w.heap.size (mcL x (.slice BH nH dH) (.slice BM nM dM)) zL
  o1 : W.ownsRow w.heap.size 25 1 (.slice BH nH dH) nH (x.h.map U.bv)
  o2 : W.ownsRow w.heap.size 5 1 (.slice BM nM dM) nM (x.m.map bv)
theorem rn_row {w W : World} {x : Mn} {L : List Value} {BH BM : Option Addr} {nH dH nM dM : Nat} (h : TwoM w W w.heap.size L zL) (o1 : W.ownsRow w.heap.size 25 1 (.slice BH nH dH) nH (x.h.map U.bv)) (o2 : W.ownsRow w.heap.size 5 1 (.slice BM nM dM) nM (x.m.map bv)) :
    Rn w (W.setRow w.heap.size (mcL x (.slice BH nH dH) (.slice BM nM dM)).toArray) x BH nH dH BM nM dM := by
  have own : ∀ (e n : Nat) (v : Value) (xs : List Value), (30 : Nat) ≠ e → W.ownsRow w.heap.size e 1 v n xs → (W.setRow w.heap.size (mcL x (.slice BH nH dH) (.slice BM nM dM)).toArray).ownsRow w.heap.size e 1 v n xs := by
    intro e n v xs he ho
    refine ⟨ho.1, ?_⟩
    rcases ho.2 with h2 | ⟨k, cap, cur, rfl, hk, hh, r⟩
    · exact .inl h2
    · exact .inr ⟨k, cap, cur, rfl, hk, by rw [setRow_other _ _ _ _ (fun e2 => by subst e2; exact own_ng (w := W) (base := w.heap.size) (E := e) (g := w.heap.size) ho h.one he rfl)]; exact hh, r⟩
  refine ⟨⟨setRow_heap _ _ _ _ _ _ h.one, by rw [setRow_other _ _ _ _ (by omega)]; exact h.two, Nat.le_refl _, ?_⟩, own _ _ _ _ (by decide) o1, own _ _ _ _ (by decide) o2⟩
  refine ⟨h.bel.os, h.bel.tape, h.bel.output, by rw [size_setRow]; exact h.bel.size, fun i hi => ?_⟩
  rw [setRow_other _ _ _ _ (by omega)]
  exact h.bel.block i hi
/-- apart within Run. -/
theorem rn_apart {w W : World} {x : Mn} {L : List Value} {AH AM : Option Addr} {nH cH nM cM : Nat} (t : TwoM w W w.heap.size L zL) (h : U.IsBB w w.heap.size AH nH cH x.h) (hm : IsBB w w.heap.size AM nM cM x.m) (h1 : nH ≤ 5000) (h2 : nM ≤ 5000) :
    Calls Try.prog 21 #[vM x (.slice AH nH cH) (.slice AM nM cM)] W fun e w' => ∃ BH dH BM dM, e = .returned (vM x (.slice BH nH dH) (.slice BM nM dM)) ∧ Hid (TwoM w w' w.heap.size L zL) ∧ Hid (Rn w (w'.setRow w.heap.size (mcL x (.slice BH nH dH) (.slice BM nM dM)).toArray) x BH nH dH BM nM dM) := by
  refine (apart_any W x AH AM nH cH nM cM (h.on t.bel) (hm.on t.bel) (by omega) (by omega)).mono ?_
  rintro e w' ⟨BH, dH, BM, dM, rfl, o1, o2, b⟩
  exact ⟨BH, dH, BM, dM, rfl, t.below b, rn_row (t.below b) (own_up o1 t.bel.size) (own_up o2 t.bel.size)⟩
/-- laid and follow within Run. -/
theorem rn_laid {w W : World} {x : Mn} {BH BM : Option Addr} {nH dH nM dM : Nat} {A : Option Addr} {n c : Nat} {l : List UInt8} {S : List Nat} (h : Rn w W x BH nH dH BM nM dM) (hb : IsBB w w.heap.size A n c l) (hn : n ≤ 5000) (hS : starts l = some S) :
    Calls Try.prog 38 #[.slice A n c] W fun e w' => ∃ gs, e = .returned (.slice (some ⟨gs, 0, none⟩) n n) ∧ Hid (LdAt w' gs n l S ∧ Rn w w' x BH nH dH BM nM dM ∧ W.heap.size ≤ gs ∧ Below W.heap.size W w') := by
  refine (laid_any W (hb.on h.two.bel) hn hS).mono ?_
  rintro e w' ⟨gs, rfl, hl, b, hg⟩
  exact ⟨gs, rfl, hl, ⟨h.two.below b, own_below h.o1 b, own_below h.o2 b⟩, hg, b⟩
/-- What follow leaves of Run's blocks. -/
def RnEnd (w : World) (l : List UInt8) (most : Int) (x : Mn) (fuel : Int) (BH : Option Addr) (nH dH : Nat) (BM : Option Addr) (nM dM : Nat) (e : Ending) (w' : World) : Prop :=
  (∃ G y out A c, runF l most G 0 x fuel [] = some (.halt y out) ∧ e = .returned (.tuple #[.slice A out.length c, .int .i64 0]) ∧ w'.ownsRow w.heap.size 5 1 (.slice A out.length c) out.length (out.map bv) ∧ Rn w w' y BH nH dH BM nM dM) ∨
  (∃ G er, runF l most G 0 x fuel [] = some (.er er) ∧ er ≠ 0 ∧ e = .returned (.tuple #[.slice none 0 0, .int .i64 er]) ∧ w'.heap[w.heap.size + 1]? = some (.cells zL.toArray 30 (0, 0)) ∧ Below w.heap.size w w')
theorem rn_follow {w W V : World} {x : Mn} {BH BM : Option Addr} {nH dH nM dM gs n : Nat} {l : List UInt8} {S : List Nat} {fuel most : Int} {post : Bool} (h : Rn w V x BH nH dH BM nM dM) (hW : Rn w W x BH nH dH BM nM dM) (hg : W.heap.size ≤ gs) (hl : LdAt V gs n l S) (hn : l.length = n) (hr : rightP l post) (hS : starts l = some S) (hok : x.ok) (hm : most ≤ 1000) (hf : fuel ≤ 1000) (h1 : nH ≤ 5000) (h2 : nM ≤ 5000) :
    Calls Try.prog 37 #[.slice (some ⟨gs, 0, none⟩) n n, .pointer (some ⟨w.heap.size, 0, none⟩), .int .i64 fuel, .int .i64 most] V (RnEnd w l most x fuel BH nH dH BM nM dM) := by
  have n1 : x.h.length = nH := by simpa using h.o1.1
  have n2 : x.m.length = nM := by simpa using h.o2.1
  have p1 : 0 < nH := by rw [← n1]; exact pw_pos hok.1
  have p2 : 0 < nM := by rw [← n2]; exact pw_pos hok.2
  obtain ⟨hb, c1, e1⟩ := U.own_nil h.o1 p1
  obtain ⟨mb, c2, e2⟩ := own_nil h.o2 p2
  cases e1
  cases e2
  have M : MO V w.heap.size w.heap.size hb mb nH dH nM dM x := ⟨h.two.one, h.o1, h.o2, Nat.le_refl _, by omega⟩
  have l1 := hW.o1.lt hb rfl
  have l2 := hW.o2.lt mb rfl
  have l3 := lt_of_heap hW.two.one
  have k1 := own_ng h.o1 h.two.two (by decide)
  have k2 := own_ng h.o2 h.two.two (by decide)
  have j1 : hb ≠ w.heap.size + 1 := fun e => k1 (by rw [e]; rfl)
  have j2 : mb ≠ w.heap.size + 1 := fun e => k2 (by rw [e]; rfl)
  obtain ⟨S', hS', h00⟩ := hr.begin
  rw [hS] at hS'
  cases hS'
  refine (follow_any V gs n w.heap.size w.heap.size hb mb nH dH nM dM l S x fuel most post hn hr hS ⟨hl, M, hok, h00, World.ownsRow_nil V _ _ _, But.refl _ _⟩ ⟨by omega, by omega, by omega⟩ hm hf).mono ?_
  rintro e w' (⟨G, y, out, v, hrun, rfl, ho, hmo, hbut⟩ | ⟨G, er, hrun, rfl, hbut⟩)
  · obtain ⟨A, c, rfl, _⟩ := own_slice ho
    refine .inl ⟨G, y, out, A, c, hrun, rfl, own_up ho (by have := h.two.bel.size; omega), ⟨⟨hmo.row, (hbut.block _ (lt_of_heap h.two.two) (by rintro (e | e | e) <;> omega)).trans h.two.two, Nat.le_refl _, h.two.bel.trans (hbut.below (B := w.heap.size) (by rintro i (e | e | e) <;> omega) h.two.bel.size)⟩, hmo.h, hmo.m⟩⟩
  · have := runF_er G 0 x fuel [] er hrun
    refine .inr ⟨G, er, hrun, by omega, rfl, (hbut.block _ (lt_of_heap h.two.two) (by rintro (e | e | e) <;> omega)).trans h.two.two, h.two.bel.trans (hbut.below (B := w.heap.size) (by rintro i (e | e | e) <;> omega) h.two.bel.size)⟩
end Go.Proofs.Ytaogileaeflnfaa
/-
  The contract of Run: the walk (written by tools/stage17/gen_rnx.py).
-/
set_option linter.unusedVariables false
set_option linter.unusedSimpArgs false
namespace Go.Proofs.Ytaogileaeflnfaa
open Go.RowKit

set_option maxRecDepth 10000 in
set_option maxHeartbeats 16000000 in
theorem Run_any (w : World) (x : Mn) (l : List UInt8) (A : Option Addr) (n c : Nat) (post : Bool) (fuel most : Int) (AH AM : Option Addr) (nH cH nM cM : Nat) (hb : IsBB w w.heap.size A n c l) (h : U.IsBB w w.heap.size AH nH cH x.h) (hm : IsBB w w.heap.size AM nM cM x.m) (h1 : nH ≤ 5000) (h2 : nM ≤ 5000) (hmo : most ≤ 1000) (hf : fuel ≤ 1000) :
    Calls Try.prog 17 #[.slice A n c, .bool post, vM x (.slice AH nH cH) (.slice AM nM cM), .int .i64 fuel, .int .i64 most] w (RunPost w l post x fuel most nH nM) := by
  have zv := zero30
  have zl : zL.length = 263 := mc_len _ _ _
  have HZ1 := hid (lay_ok zL zl zo).1
  have HZ2 := hid zo
  have hlen := hid hb.len
  have HB := hid hb
  have H0 := hid (TwoM.start2 w (mcL x (.slice AH nH cH) (.slice AM nM cM)) zL)
  have HC := hid (fun W (b : Below w.heap.size w W) => Check_any A n c l post W (hb.on b))
  have HA := hid (fun W (t : TwoM w W w.heap.size (mcL x (.slice AH nH cH) (.slice AM nM cM)) zL) => rn_apart t h hm h1 h2)
  have HRt := hid (fun W (t : TwoM w W w.heap.size (mcL x (.slice AH nH cH) (.slice AM nM cM)) zL) => right_any W w.heap.size x AH AM nH cH nM cM ⟨t.one, h.on t.bel, hm.on t.bel⟩ h1 h2)
  have HS5 := hid (mc_size x (.slice AH nH cH) (.slice AM nM cM))
  clear h hm hb
  unfold vM at HA ⊢
  generalize hL : mcL x (.slice AH nH cH) (.slice AM nM cM) = L at *
  replace hL := hid hL
  have hsz := hid (size30 L.toArray HS5.out)
  go_enter Try.func17, Try.ntmps17
  go_upto_region 1 with fail
  generalize (w.alloc (.cells L.toArray 30)).alloc (.cells zL.toArray 30) = W0 at *
  have HC0 := hid (HC.out W0 H0.out.bel)
  go_upto_region 2 with (go_at_call 15; refine HC0.out.mono ?_; rintro r W1 ⟨S, rfl, b1, hS⟩)
  have H1 := hid (H0.out.below b1)
  have HS := hid hS
  clear b1 hS HC0 HC H0
  obtain ⟨er, her⟩ : ∃ er, chkE l post S = er := ⟨_, rfl⟩
  rw [her]
  have HE := hid (chk_zero (post := post) HS.out)
  rw [her] at HE
  clear her
  have HZr := hid H1.out.two
  by_cases h0 : er = 0
  case neg =>
    have n0 : (er != 0) = true := by simp [h0]
    have RZ := hid (res_row H1.out.two (Nat.le_succ _) H1.out.bel zL)
    have hwr := hid (fun h => h0 (HE.out.2 h))
    clear HA HRt hsz HB
    go_wp2_with (refine wpList_store_row (o := ⟨none, .store 30 (.tmp 10) (.tmp 21), _, _, _, _⟩) rfl 30 (.tmp 10) (.tmp 21) rfl (w.heap.size + 1) zL.toArray rfl rfl 30 zL.toArray HZr.out HZ1.out rfl HZ2.out ?_)
    refine bodyPost_ret (results_30_2 (by kernel_rfl : Try.f17.results = #[.cell 10 30, .tmp 11, .tmp 12]) _ _ (w.heap.size + 1) zL rfl RZ.out.1 zl) rfl ?_
    exact .wrong er hwr.out h0 rfl RZ.out.2
  subst h0
  have hrp := hid (HE.out.1 rfl)
  have hS2 : Hid (starts l = some S) := hid (by
    obtain ⟨h1, h2, S', hS', _⟩ := hrp.out
    refine HS.out ?_
    unfold stE
    rw [if_neg (by omega), if_neg (by omega), hS']
    rfl)
  have hn5 : n ≤ 5000 := by
    have := hlen.out
    have := hrp.out.1
    omega
  clear HE HS
  have HR1 := hid (HRt.out W1 H1.out)
  by_cases hk : x.ok
  case neg =>
    rw [decide_eq_false hk] at HR1
    have RZ := hid (res_row H1.out.two (Nat.le_succ _) H1.out.bel zL)
    clear HA HRt hsz HB
    go_wp2_with (first
      | (go_at_call 24; refine HR1.out.mono ?_; rintro r w2 ⟨rfl, rfl⟩)
      | (refine wpList_store_row (o := ⟨none, .store 30 (.tmp 10) (.tmp 25), _, _, _, _⟩) rfl 30 (.tmp 10) (.tmp 25) rfl (w.heap.size + 1) zL.toArray rfl rfl 30 zL.toArray HZr.out HZ1.out rfl HZ2.out ?_))
    refine bodyPost_ret (results_30_2 (by kernel_rfl : Try.f17.results = #[.cell 10 30, .tmp 11, .tmp 12]) _ _ (w.heap.size + 1) zL rfl RZ.out.1 zl) rfl ?_
    exact .arg hrp.out hk rfl RZ.out.2
  rw [decide_eq_true hk] at HR1
  have HA1 := hid (HA.out W1 H1.out)
  clear HRt HA
  go_upto_region 7 with (first
    | (go_at_call 24; refine HR1.out.mono ?_; rintro r w2 ⟨rfl, rfl⟩)
    | (refine wpList_load_row rfl 30 (.tmp 7) rfl w.heap.size rfl 30 L.toArray (0, 0) _ H1.out.one Try.underlying30 rfl hsz.out ?_)
    | (go_at_call 21; refine HA1.out.mono ?_; rintro r W2 ⟨BH, dH, BM, dM, rfl, H2, HN2⟩; have E1 := hid (lay_ok (mcL x (.slice BH nH dH) (.slice BM nM dM)) (mc_len _ _ _) (mc_one _ _ _ _ _ _ _)); have E0 := hid (show L.toArray.size = (mcL x (.slice BH nH dH) (.slice BM nM dM)).toArray.size by rw [HS5.out, mc_size]))
    | (refine wpList_store_row (o := ⟨none, .store 30 (.tmp 7) (.tmp 27), _, _, _, _⟩) rfl 30 (.tmp 7) (.tmp 27) rfl w.heap.size (mcL x (.slice BH nH dH) (.slice BM nM dM)).toArray rfl rfl 30 L.toArray H2.out.one E1.out.1 E0.out E1.out.2.2 ?_))
  generalize W2.setRow w.heap.size (mcL x (.slice BH nH dH) (.slice BM nM dM)).toArray = W3 at *
  clear H2 E1 E0 HA1 HR1 hL hsz HS5 HZr H1
  have HLd := hid (rn_laid HN2.out HB.out hn5 hS2.out)
  have HFw := hid (fun V gs (hl : LdAt V gs n l S ∧ Rn w V x BH nH dH BM nM dM ∧ W3.heap.size ≤ gs ∧ Below W3.heap.size W3 V) => rn_follow (fuel := fuel) (most := most) hl.2.1 HN2.out hl.2.2.1 hl.1 hlen.out hrp.out hS2.out hk hmo hf h1 h2)
  clear HN2
  go_upto_region 8 with (first
    | (go_at_call 38; refine HLd.out.mono ?_; rintro r W4 ⟨gs, rfl, HL4⟩; have HF4 := hid (HFw.out W4 gs HL4.out))
    | (go_at_call 37; refine HF4.out.mono ?_; rintro r W5 (⟨G, y, out, Av, cv, hrun, rfl, ho, hrn⟩ | ⟨G, er, hrun, hne, rfl, htw, hbl⟩)))
  · have HO := hid ho
    have HR5 := hid hrn
    have HRun := hid hrun
    clear ho hrn hrun HLd HFw HF4 HL4
    have E5 := hid (lay_ok (mcL y (.slice BH nH dH) (.slice BM nM dM)) (mc_len _ _ _) (mc_one _ _ _ _ _ _ _))
    have HQ5 := hid (mc_len y (.slice BH nH dH) (.slice BM nM dM))
    have RR := hid (res_row HR5.out.two.two (Nat.le_succ _) HR5.out.two.bel (mcL y (.slice BH nH dH) (.slice BM nM dM)))
    have OO := hid (fun e n v xs (he : (30 : Nat) ≠ e) (ho : W5.ownsRow w.heap.size e 1 v n xs) => (HR5.out.two.done (mcL y (.slice BH nH dH) (.slice BM nM dM))).2.2 e n v xs he _ ho)
    have H5o := hid HR5.out.two.one
    have H5t := hid HR5.out.two.two
    have P1 := hid (OO.out _ _ _ _ (by decide) HR5.out.o1)
    have P2 := hid (OO.out _ _ _ _ (by decide) HR5.out.o2)
    have P3 := hid (OO.out _ _ _ _ (by decide) HO.out)
    clear OO HR5 HO
    obtain ⟨L5, hL5⟩ : ∃ L5, mcL y (.slice BH nH dH) (.slice BM nM dM) = L5 := ⟨_, rfl⟩
    rw [hL5] at E5 HQ5 RR H5o P1 P2 P3
    replace hL5 := hid hL5
    go_wp2_with (first
      | (refine wpList_load_row rfl 30 (.tmp 7) rfl w.heap.size rfl 30 L5.toArray (0, 0) _ H5o.out Try.underlying30 rfl E5.out.1 ?_)
      | (refine wpList_store_row (o := ⟨none, .store 30 (.tmp 10) (.tmp 40), _, _, _, _⟩) rfl 30 (.tmp 10) (.tmp 40) rfl (w.heap.size + 1) L5.toArray rfl rfl 30 zL.toArray H5t.out E5.out.1 E5.out.2.1 E5.out.2.2 ?_))
    refine bodyPost_ret (results_30_2 (by kernel_rfl : Try.f17.results = #[.cell 10 30, .tmp 11, .tmp 12]) _ _ (w.heap.size + 1) L5 rfl RR.out.1 HQ5.out) rfl ?_
    exact .halt hrp.out hk G y out HRun.out BH dH BM dM (.slice Av out.length cv) (by unfold vM; rw [hL5.out]; rfl) ⟨P1.out, P2.out, P3.out⟩ RR.out.2
  · have n0 : (er != 0) = true := by simp [hne]
    have HZr := hid htw
    have RZ := hid (res_row htw (Nat.le_succ _) hbl zL)
    have HRun := hid hrun
    clear htw hbl hrun hne HLd HFw HF4 HL4
    go_wp2_with (refine wpList_store_row (o := ⟨none, .store 30 (.tmp 10) (.tmp 38), _, _, _, _⟩) rfl 30 (.tmp 10) (.tmp 38) rfl (w.heap.size + 1) zL.toArray rfl rfl 30 zL.toArray HZr.out HZ1.out rfl HZ2.out ?_)
    refine bodyPost_ret (results_30_2 (by kernel_rfl : Try.f17.results = #[.cell 10 30, .tmp 11, .tmp 12]) _ _ (w.heap.size + 1) zL rfl RZ.out.1 zl) rfl ?_
    exact .er hrp.out hk G er HRun.out rfl RZ.out.2
end Go.Proofs.Ytaogileaeflnfaa
