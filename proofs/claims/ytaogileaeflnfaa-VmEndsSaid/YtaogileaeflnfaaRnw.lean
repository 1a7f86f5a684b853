/-
  The contract of Run.
-/
import Derived.Test.YtaogileaeflnfaaFlw
import Derived.Test.YtaogileaeflnfaaDow
import Derived.Test.YtaogileaeflnfaaRpl
import Derived.Test.YtaogileaeflnfaaNwg
set_option linter.unusedVariables false
set_option linter.unusedSimpArgs false
namespace Go.Proofs.Ytaogileaeflnfaa
open Go.RowKit

theorem results_30_2 {fn : Func} {p u v : Tmp} (h : fn.results = #[.cell p 30, .tmp u, .tmp v]) (tmps : Array Value) (w : World) (g : Nat) (L : List Value)
    (hp : tmps.getD p undef = .pointer (some ⟨g, 0, none⟩)) (hg : w.heap[g]? = some (.cells L.toArray 30 (0, 0))) (h4 : L.length = 263) : (results fn tmps).run Try.prog w = .ok (.tuple #[.agg L.toArray, tmps.getD u undef, tmps.getD v undef]) w := by
  have hp' : tmps[p]?.getD undef = .pointer (some ⟨g, 0, none⟩) := by simpa using hp
  have hl := run_loadVar_row w g 30 30 L.toArray (0, 0) _ hg Try.underlying30 rfl (size30 _ (by rw [List.size_toArray, h4]))
  simp [results, h, hp', asAddr, hl, Result.andThen]
/-- The machine's lists, and what was put out. -/
def Ended (w w' : World) (y : Mn) (BH : Option Addr) (nH dH : Nat) (BM : Option Addr) (nM dM : Nat) (v : Value) (out : List UInt8) : Prop :=
  w'.ownsRow w.heap.size 25 1 (.slice BH nH dH) nH (y.h.map U.bv) ∧ w'.ownsRow w.heap.size 5 1 (.slice BM nM dM) nM (y.m.map bv) ∧ w'.ownsRow w.heap.size 5 1 v out.length (out.map bv)
/-- What Run tells. -/
inductive RunPost (w : World) (l : List UInt8) (post : Bool) (x : Mn) (fuel most : Int) (nH nM : Nat) (e : Ending) (w' : World) : Prop where
  | wrong (er : Int) (h : ¬ rightP l post) (h0 : er ≠ 0) (he : e = .returned (.tuple #[vM zM (.slice none 0 0) (.slice none 0 0), .slice none 0 0, .int .i64 er])) (b : Below w.heap.size w w')
  | arg (h : rightP l post) (hk : ¬ x.ok) (he : e = .returned (.tuple #[vM zM (.slice none 0 0) (.slice none 0 0), .slice none 0 0, .int .i64 2])) (b : Below w.heap.size w w')
  | er (h : rightP l post) (hk : x.ok) (G : Nat) (er : Int) (hr : runF l most G 0 x fuel [] = some (.er er)) (he : e = .returned (.tuple #[vM zM (.slice none 0 0) (.slice none 0 0), .slice none 0 0, .int .i64 er])) (b : Below w.heap.size w w')
  | halt (h : rightP l post) (hk : x.ok) (G : Nat) (y : Mn) (out : List UInt8) (hr : runF l most G 0 x fuel [] = some (.halt y out)) (BH : Option Addr) (dH : Nat) (BM : Option Addr) (dM : Nat) (v : Value)
      (he : e = .returned (.tuple #[vM y (.slice BH nH dH) (.slice BM nM dM), v, .int .i64 0])) (hl : Ended w w' y BH nH dH BM nM dM v out) (b : Below w.heap.size w w')
theorem chk_zero {l : List UInt8} {post : Bool} {S : List Nat} (h : stE l = 0 → starts l = some S) : chkE l post S = 0 ↔ rightP l post := by
  refine ⟨fun e => (chk_right h e).1, fun e => ?_⟩
  have h0 : stE l = 0 := by
    obtain ⟨h1, h2, S', hS', _⟩ := e
    unfold stE
    rw [if_neg (by omega), if_neg (by omega), hS']
    rfl
  exact right_chk e h0 h
theorem lay_ok (L : List Value) (h : L.length = 263) (h1 : L.toArray.all (·.oneCell') = true) : (Try.prog.info? 30).map (·.size) = some L.toArray.size ∧ zL.toArray.size = L.toArray.size ∧ L.toArray.all (·.oneCell') = true :=
  ⟨size30 _ (by rw [List.size_toArray, h]), by rw [List.size_toArray, List.size_toArray, h]; exact mc_len _ _ _, h1⟩
/-- The result's block: a whole machine is stored there. -/
theorem res_row {w W : World} {b : Nat} (h : W.heap[b]? = some (.cells zL.toArray 30 (0, 0))) (hb : w.heap.size ≤ b) (k : Below w.heap.size w W) (L : List Value) :
    (W.setRow b L.toArray).heap[b]? = some (.cells L.toArray 30 (0, 0)) ∧ Below w.heap.size w (W.setRow b L.toArray) := by
  refine ⟨setRow_heap _ _ _ _ _ _ h, k.os, k.tape, k.output, by rw [size_setRow]; exact k.size, fun i hi => ?_⟩
  rw [setRow_other _ _ _ _ (by omega)]
  exact k.block i hi
/-- What stands behind apart, its machine stored. -/
structure Rn (w W : World) (x : Mn) (BH : Option Addr) (nH dH : Nat) (BM : Option Addr) (nM dM : Nat) : Prop where
  two : TwoM w W w.heap.size (mcL x (.slice BH nH dH) (.slice BM nM dM)) zL
  o1 : W.ownsRow w.heap.size 25 1 (.slice BH nH dH) nH (x.h.map U.bv)
  o2 : W.ownsRow w.heap.size 5 1 (.slice BM nM dM) nM (x.m.map bv)
theorem rn_row {w W : World} {x : Mn} {L : List Value} {BH BM : Option Addr} {nH dH nM dM : Nat} (h : TwoM w W w.heap.size L zL) (o1 : W.ownsRow w.heap.size 25 1 (.slice BH nH dH) nH (x.h.map U.bv)) (o2 : W.ownsRow w.heap.size 5 1 (.slice BM nM dM) nM (x.m.map bv)) :
    Rn w (W.setRow w.heap.size (mcL x (.slice BH nH dH) (.slice BM nM dM)).toArray) x BH nH dH BM nM dM := by
  have own : ∀ (e n : Nat) (v : Value) (xs : List Value), (30 : Nat) ≠ e → W.ownsRow w.heap.size e 1 v n xs → (W.setRow w.heap.size (mcL x (.slice BH nH dH) (.slice BM nM dM)).toArray).ownsRow w.heap.size e 1 v n xs := by
    intro e n v xs he ho
    refine ⟨ho.1, ?_⟩
    rcases ho.2 with h2 | ⟨k, cap, cur, rfl, hk, hh, r⟩
    · exact .inl h2
    · exact .inr ⟨k, cap, cur, rfl, hk, by rw [setRow_other _ _ _ _ (fun e2 => by subst e2; exact own_ng (w := W) (base := w.heap.size) (E := e) (g := w.heap.size) ho h.one he rfl)]; exact hh, r⟩
  refine ⟨⟨setRow_heap _ _ _ _ _ _ h.one, by rw [setRow_other _ _ _ _ (by omega)]; exact h.two, Nat.le_refl _, ?_⟩, own _ _ _ _ (by decide) o1, own _ _ _ _ (by decide) o2⟩
  refine ⟨h.bel.os, h.bel.tape, h.bel.output, by rw [size_setRow]; exact h.bel.size, fun i hi => ?_⟩
  rw [setRow_other _ _ _ _ (by omega)]
  exact h.bel.block i hi
/-- apart within Run. -/
theorem rn_apart {w W : World} {x : Mn} {L : List Value} {AH AM : Option Addr} {nH cH nM cM : Nat} (t : TwoM w W w.heap.size L zL) (h : U.IsBB w w.heap.size AH nH cH x.h) (hm : IsBB w w.heap.size AM nM cM x.m) (h1 : nH ≤ 5000) (h2 : nM ≤ 5000) :
    Calls Try.prog 21 #[vM x (.slice AH nH cH) (.slice AM nM cM)] W fun e w' => ∃ BH dH BM dM, e = .returned (vM x (.slice BH nH dH) (.slice BM nM dM)) ∧ Hid (TwoM w w' w.heap.size L zL) ∧ Hid (Rn w (w'.setRow w.heap.size (mcL x (.slice BH nH dH) (.slice BM nM dM)).toArray) x BH nH dH BM nM dM) := by
  refine (apart_any W x AH AM nH cH nM cM (h.on t.bel) (hm.on t.bel) (by omega) (by omega)).mono ?_
  rintro e w' ⟨BH, dH, BM, dM, rfl, o1, o2, b⟩
  exact ⟨BH, dH, BM, dM, rfl, t.below b, rn_row (t.below b) (own_up o1 t.bel.size) (own_up o2 t.bel.size)⟩
/-- laid and follow within Run. -/
theorem rn_laid {w W : World} {x : Mn} {BH BM : Option Addr} {nH dH nM dM : Nat} {A : Option Addr} {n c : Nat} {l : List UInt8} {S : List Nat} (h : Rn w W x BH nH dH BM nM dM) (hb : IsBB w w.heap.size A n c l) (hn : n ≤ 5000) (hS : starts l = some S) :
    Calls Try.prog 38 #[.slice A n c] W fun e w' => ∃ gs, e = .returned (.slice (some ⟨gs, 0, none⟩) n n) ∧ Hid (LdAt w' gs n l S ∧ Rn w w' x BH nH dH BM nM dM ∧ W.heap.size ≤ gs ∧ Below W.heap.size W w') := by
  refine (laid_any W (hb.on h.two.bel) hn hS).mono ?_
  rintro e w' ⟨gs, rfl, hl, b, hg⟩
  exact ⟨gs, rfl, hl, ⟨h.two.below b, own_below h.o1 b, own_below h.o2 b⟩, hg, b⟩
/-- What follow leaves of Run's blocks. -/
def RnEnd (w : World) (l : List UInt8) (most : Int) (x : Mn) (fuel : Int) (BH : Option Addr) (nH dH : Nat) (BM : Option Addr) (nM dM : Nat) (e : Ending) (w' : World) : Prop :=
  (∃ G y out A c, runF l most G 0 x fuel [] = some (.halt y out) ∧ e = .returned (.tuple #[.slice A out.length c, .int .i64 0]) ∧ w'.ownsRow w.heap.size 5 1 (.slice A out.length c) out.length (out.map bv) ∧ Rn w w' y BH nH dH BM nM dM) ∨
  (∃ G er, runF l most G 0 x fuel [] = some (.er er) ∧ er ≠ 0 ∧ e = .returned (.tuple #[.slice none 0 0, .int .i64 er]) ∧ w'.heap[w.heap.size + 1]? = some (.cells zL.toArray 30 (0, 0)) ∧ Below w.heap.size w w')
theorem rn_follow {w W V : World} {x : Mn} {BH BM : Option Addr} {nH dH nM dM gs n : Nat} {l : List UInt8} {S : List Nat} {fuel most : Int} {post : Bool} (h : Rn w V x BH nH dH BM nM dM) (hW : Rn w W x BH nH dH BM nM dM) (hg : W.heap.size ≤ gs) (hl : LdAt V gs n l S) (hn : l.length = n) (hr : rightP l post) (hS : starts l = some S) (hok : x.ok) (hm : most ≤ 1000) (hf : fuel ≤ 1000) (h1 : nH ≤ 5000) (h2 : nM ≤ 5000) :
    Calls Try.prog 37 #[.slice (some ⟨gs, 0, none⟩) n n, .pointer (some ⟨w.heap.size, 0, none⟩), .int .i64 fuel, .int .i64 most] V (RnEnd w l most x fuel BH nH dH BM nM dM) := by
  have n1 : x.h.length = nH := by simpa using h.o1.1
  have n2 : x.m.length = nM := by simpa using h.o2.1
  have p1 : 0 < nH := by rw [← n1]; exact pw_pos hok.1
  have p2 : 0 < nM := by rw [← n2]; exact pw_pos hok.2
  obtain ⟨hb, c1, e1⟩ := U.own_nil h.o1 p1
  obtain ⟨mb, c2, e2⟩ := own_nil h.o2 p2
  cases e1
  cases e2
  have M : MO V w.heap.size w.heap.size hb mb nH dH nM dM x := ⟨h.two.one, h.o1, h.o2, Nat.le_refl _, by omega⟩
  have l1 := hW.o1.lt hb rfl
  have l2 := hW.o2.lt mb rfl
  have l3 := lt_of_heap hW.two.one
  have k1 := own_ng h.o1 h.two.two (by decide)
  have k2 := own_ng h.o2 h.two.two (by decide)
  have j1 : hb ≠ w.heap.size + 1 := fun e => k1 (by rw [e]; rfl)
  have j2 : mb ≠ w.heap.size + 1 := fun e => k2 (by rw [e]; rfl)
  obtain ⟨S', hS', h00⟩ := hr.begin
  rw [hS] at hS'
  cases hS'
  refine (follow_any V gs n w.heap.size w.heap.size hb mb nH dH nM dM l S x fuel most post hn hr hS ⟨hl, M, hok, h00, World.ownsRow_nil V _ _ _, But.refl _ _⟩ ⟨by omega, by omega, by omega⟩ hm hf).mono ?_
  rintro e w' (⟨G, y, out, v, hrun, rfl, ho, hmo, hbut⟩ | ⟨G, er, hrun, rfl, hbut⟩)
  · obtain ⟨A, c, rfl, _⟩ := own_slice ho
    refine .inl ⟨G, y, out, A, c, hrun, rfl, own_up ho (by have := h.two.bel.size; omega), ⟨⟨hmo.row, (hbut.block _ (lt_of_heap h.two.two) (by rintro (e | e | e) <;> omega)).trans h.two.two, Nat.le_refl _, h.two.bel.trans (hbut.below (B := w.heap.size) (by rintro i (e | e | e) <;> omega) h.two.bel.size)⟩, hmo.h, hmo.m⟩⟩
  · have := runF_er G 0 x fuel [] er hrun
    refine .inr ⟨G, er, hrun, by omega, rfl, (hbut.block _ (lt_of_heap h.two.two) (by rintro (e | e | e) <;> omega)).trans h.two.two, h.two.bel.trans (hbut.below (B := w.heap.size) (by rintro i (e | e | e) <;> omega) h.two.bel.size)⟩
end Go.Proofs.Ytaogileaeflnfaa
