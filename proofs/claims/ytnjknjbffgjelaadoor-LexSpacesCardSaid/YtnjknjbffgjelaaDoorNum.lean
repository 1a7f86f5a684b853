/-
  A token as a value; number, sign (written by tools/stage18/gen_num.py).
-/
import Derived.Test.YtnjknjbffgjelaaDoorRun
import Derived.Test.YtnjknjbffgjelaaDoorShf
import Derived.Lib.AtoiErrMem
import Derived.Deep.MidRow
import Derived.Deep.Cut
import Derived.Laws.OwnMore
import Derived.OwnWalk
set_option linter.unusedVariables false
set_option linter.unusedSimpArgs false
namespace Go.Proofs.YtnjknjbffgjelaaDoor
open Go.RowKit

/-- A token: kind, string, number, line. -/
structure TD where
  k : Nat
  s : List UInt8
  n : Nat
  line : Nat
def c4 (t : TD) : List Value := [.int .u8 (t.k : Nat), .string (str t.s), .int .i64 (t.n : Nat), .int .i64 (t.line : Nat)]
def vT (t : TD) : Value := .agg (c4 t).toArray
def zT : TD := ⟨0, [], 0, 0⟩
theorem u33 : Tryd.prog.underlying 33 = Tryd.prog.underlying 33 := rfl
theorem sz33 (t : TD) : (Tryd.prog.info? 33).map (·.size) = some (c4 t).toArray.size := by show _ = some 4; kernel_rfl
theorem one33 (t : TD) : (c4 t).toArray.all (·.oneCell') = true := by simp [c4, Value.oneCell']
theorem results_33_1 {fn : Func} {p u : Tmp} (h : fn.results = #[.cell p 33, .tmp u]) (tmps : Array Value) (w : World) (g : Nat) (t : TD)
    (hp : tmps.getD p undef = .pointer (some ⟨g, 0, none⟩)) (hg : w.heap[g]? = some (.cells (c4 t).toArray 33 (0, 0))) : (results fn tmps).run Tryd.prog w = .ok (.tuple #[vT t, tmps.getD u undef]) w := by
  have hp' : tmps[p]?.getD undef = .pointer (some ⟨g, 0, none⟩) := by simpa using hp
  have hl := run_loadVar_row w g 33 33 (c4 t).toArray (0, 0) _ hg Tryd.underlying33 rfl (sz33 t)
  simp [results, h, hp', asAddr, hl, Result.andThen, vT]
/-- The result's box. -/
structure Box (w W : World) (cs : Array Value) : Prop where
  row : W.heap[w.heap.size]? = some (.cells cs 33 (0, 0))
  size : cs.size = 4
  bel : Below w.heap.size w W
theorem Box.below {w W V : World} {cs : Array Value} (h : Box w W cs) (b : Below W.heap.size W V) : Box w V cs := ⟨(b.block _ (lt_of_heap h.row)).trans h.row, h.size, bel_trans h.bel b⟩
theorem Box.put {w W : World} {cs : Array Value} (h : Box w W cs) (cs' : Array Value) (hs : cs'.size = 4) : Box w (W.setRow w.heap.size cs') cs' := by
  refine ⟨setRow_heap _ _ _ _ _ _ h.row, hs, h.bel.os, h.bel.tape, h.bel.output, by rw [size_setRow]; exact h.bel.size, fun i hi => ?_⟩
  rw [setRow_other _ _ _ _ (by omega)]
  exact h.bel.block i hi
theorem Box.start (w : World) : Box w (w.alloc (.cells #[.int .u8 0, .string ⟨#[]⟩, .int .i64 0, .int .i64 0] 33)) #[.int .u8 0, .string ⟨#[]⟩, .int .i64 0, .int .i64 0] := ⟨heap_alloc_new _ _, rfl, (Below.refl _ _).alloc (Nat.le_refl _) _⟩
theorem zero33 (w : World) : (zeroValue 33).run Tryd.prog w = .ok (.agg #[.int .u8 0, .string ⟨#[]⟩, .int .i64 0, .int .i64 0]) w := by kernel_rfl
def digD (l : List UInt8) : TD × Nat := if l.length ≤ 5 ∧ valD l ≤ 65535 then (⟨2, [], valD l, 0⟩, l.length) else (zT, 0)
theorem decFrom_val : ∀ (l : List UInt8) (acc : Nat), (∀ c ∈ l, isDigit c = true) → Lib.decFrom acc l = some (l.foldl (fun n c => n * 10 + (c.toNat - 48)) acc)
  | [], acc, _ => rfl
  | c :: l, acc, h => by
    have hc := h c List.mem_cons_self
    have e : Lib.digitVal c = some (c.toNat - 48) := by
      unfold Lib.digitVal
      unfold isDigit at hc
      simp only [Bool.and_eq_true, decide_eq_true_eq] at hc
      rw [if_pos hc]
    show (match Lib.digitVal c with | some d => Lib.decFrom (acc * 10 + d) l | none => none) = _
    rw [e]
    exact decFrom_val l _ (fun x hx => h x (List.mem_cons_of_mem _ hx))
theorem atoi_val (l : List UInt8) (h0 : l ≠ []) (h : ∀ c ∈ l, isDigit c = true) : Lib.atoi l = some (valD l : Int) := by
  match l, h0, h with
  | c :: r, _, h =>
    have hc := h c List.mem_cons_self
    unfold isDigit at hc
    simp only [Bool.and_eq_true, decide_eq_true_eq] at hc
    have n1 : ¬ (c == 45) = true := by
      intro e
      have := eq_of_beq e
      subst this
      exact absurd hc.1 (by decide)
    have n2 : ¬ (c == 43) = true := by
      intro e
      have := eq_of_beq e
      subst this
      exact absurd hc.1 (by decide)
    show (if c == 45 then _ else if c == 43 then _ else (Lib.decNat (c :: r)).map fun (m : Nat) => (m : Int)) = _
    rw [if_neg n1, if_neg n2]
    have e : Lib.decNat (c :: r) = some (valD (c :: r)) := decFrom_val (c :: r) 0 h
    rw [e]
    rfl
theorem val_key (l : List UInt8) : ∀ (acc : Nat), (∀ c ∈ l, isDigit c = true) → l.foldl (fun n c => n * 10 + (c.toNat - 48)) acc < (acc + 1) * 10 ^ l.length := by
  induction l with
  | nil => intro acc _; simp
  | cons c l ih =>
    intro acc h
    have hc := h c List.mem_cons_self
    unfold isDigit at hc
    simp only [Bool.and_eq_true, decide_eq_true_eq] at hc
    have h1 := ih (acc * 10 + (c.toNat - 48)) (fun x hx => h x (List.mem_cons_of_mem _ hx))
    rw [List.foldl_cons]
    refine Nat.lt_of_lt_of_le h1 ?_
    rw [List.length_cons, Nat.pow_succ, Nat.mul_comm (10 ^ l.length) 10, ← Nat.mul_assoc]
    exact Nat.mul_le_mul_right _ (by omega)
theorem val_lt (l : List UInt8) (hl : l.length ≤ 5) (h : ∀ c ∈ l, isDigit c = true) : valD l < 100000 := by
  refine Nat.lt_of_lt_of_le (val_key l 0 h) ?_
  rw [Nat.zero_add, Nat.one_mul]
  exact Nat.le_trans (Nat.pow_le_pow_right (by omega) hl) (by decide)
theorem nil_iface (w : World) : (binOp BinOp.neq 49 .nilIface .nilIface).run Tryd.prog w = .ok (.bool false) w := by kernel_rfl
set_option maxRecDepth 10000 in
set_option maxHeartbeats 4000000 in
theorem number_any (w : World) (s : ByteArray) (hs : s.size ≤ 1000000000) (h0 : bl s ≠ []) (h : ∀ c ∈ bl s, isDigit c = true) :
    Calls Tryd.prog 22 #[.string s] w fun e w' => e = .returned (.tuple #[vT (digD (bl s)).1, .int .i64 ((digD (bl s)).2 : Nat)]) ∧ Below w.heap.size w w' := by
  have hl := bl_len s
  have zv := zero33
  have H0 := hid (Box.start w)
  by_cases h5 : s.size ≤ 5
  case neg =>
    have e : digD (bl s) = (zT, 0) := if_neg (fun q => h5 (by rw [← hl]; exact q.1))
    rw [e]
    have d1 : decide ((5 : Int) < (s.size : Int)) = true := decide_eq_true (by omega)
    clear e h
    go_enter Tryd.func22, Tryd.ntmps22
    go_upto_region 1 with fail
    generalize w.alloc (.cells #[.int .u8 0, .string ⟨#[]⟩, .int .i64 0, .int .i64 0] 33) = W0 at *
    go_wp2_with (refine wpList_store_row (o := ⟨none, .store 33 (.tmp 2) (.tmp 9), _, _, _, _⟩) rfl 33 (.tmp 2) (.tmp 9) rfl w.heap.size (c4 zT).toArray rfl rfl 33 _ H0.out.row (sz33 _) H0.out.size (one33 _) ?_)
    refine bodyPost_ret (results_33_1 (by kernel_rfl : Tryd.f22.results = #[.cell 2 33, .tmp 3]) _ _ w.heap.size zT rfl (H0.out.put (c4 zT).toArray rfl).row) rfl ?_
    exact ⟨rfl, (H0.out.put (c4 zT).toArray rfl).bel⟩
  have hv := val_lt (bl s) (by omega) h
  have HA := hid (fun w => Atoi_any s (valD (bl s) : Int) (by omega) (atoi_val (bl s) h0 h) w)
  have d1 : decide ((5 : Int) < (s.size : Int)) = false := decide_eq_false (by omega)
  have hE : digD (bl s) = if valD (bl s) ≤ 65535 then (⟨2, [], valD (bl s), 0⟩, s.size) else (zT, 0) := by
    unfold digD
    by_cases q : valD (bl s) ≤ 65535
    · rw [if_pos ⟨by omega, q⟩, if_pos q, hl]
    · rw [if_neg (fun h => q h.2), if_neg q]
  rw [hE]
  clear hE h h0
  generalize valD (bl s) = v at *
  have nf := nil_iface
  by_cases hq : v ≤ 65535
  · rw [if_pos hq]
    have d2 : decide ((65535 : Int) < (v : Int)) = false := decide_eq_false (by omega)
    go_enter Tryd.func22, Tryd.ntmps22
    go_upto_region 1 with fail
    generalize w.alloc (.cells #[.int .u8 0, .string ⟨#[]⟩, .int .i64 0, .int .i64 0] 33) = W0 at *
    go_upto_region 4 with (go_at_call 27; refine (HA.out _).mono ?_; rintro e W1 ⟨rfl, t, e1⟩; have HX := hid (H0.out.below (show Below W0.heap.size W0 W1 by rw [e1]; exact Lib.bytesWorld_below _ _ _)); clear e1)
    go_wp2_with (refine wpList_store_row (o := ⟨none, .store 33 (.tmp 2) (.tmp 23), _, _, _, _⟩) rfl 33 (.tmp 2) (.tmp 23) rfl w.heap.size (c4 ⟨2, [], v, 0⟩).toArray rfl rfl 33 _ HX.out.row (sz33 _) HX.out.size (one33 _) ?_)
    refine bodyPost_ret (results_33_1 (by kernel_rfl : Tryd.f22.results = #[.cell 2 33, .tmp 3]) _ _ w.heap.size ⟨2, [], v, 0⟩ rfl (HX.out.put (c4 ⟨2, [], v, 0⟩).toArray rfl).row) rfl ?_
    exact ⟨rfl, (HX.out.put (c4 ⟨2, [], v, 0⟩).toArray rfl).bel⟩
  · rw [if_neg hq]
    have d2 : decide ((65535 : Int) < (v : Int)) = true := decide_eq_true (by omega)
    go_enter Tryd.func22, Tryd.ntmps22
    go_upto_region 1 with fail
    generalize w.alloc (.cells #[.int .u8 0, .string ⟨#[]⟩, .int .i64 0, .int .i64 0] 33) = W0 at *
    go_upto_region 4 with (go_at_call 27; refine (HA.out _).mono ?_; rintro e W1 ⟨rfl, t, e1⟩; have HX := hid (H0.out.below (show Below W0.heap.size W0 W1 by rw [e1]; exact Lib.bytesWorld_below _ _ _)); clear e1)
    go_wp2_with (refine wpList_store_row (o := ⟨none, .store 33 (.tmp 2) (.tmp 21), _, _, _, _⟩) rfl 33 (.tmp 2) (.tmp 21) rfl w.heap.size (c4 zT).toArray rfl rfl 33 _ HX.out.row (sz33 _) HX.out.size (one33 _) ?_)
    refine bodyPost_ret (results_33_1 (by kernel_rfl : Tryd.f22.results = #[.cell 2 33, .tmp 3]) _ _ w.heap.size zT rfl (HX.out.put (c4 zT).toArray rfl).row) rfl ?_
    exact ⟨rfl, (HX.out.put (c4 zT).toArray rfl).bel⟩
/-- The signs, the longer ones first. -/
def sgs : List (List UInt8) := sg3 ++ sg2 ++ sg1
def sg (i : Nat) : List UInt8 := sgs.getD i []
def sgV : List Value := sgs.map (fun s => .string (str s))
theorem sg_pre (s l : List UInt8) : s.isPrefixOf l = true ↔ l.take s.length = s := by
  rw [List.isPrefixOf_iff_prefix, List.prefix_iff_eq_take]
  exact ⟨fun h => h.symm, fun h => h.symm⟩
theorem sg_3 : (∀ i, i < 3 → sg i ∈ sg3 ∧ (sg i).length = 3) ∧ (∀ i, i < 14 → 3 ≤ i → sg i ∈ sg2 ∧ (sg i).length = 2) ∧ (∀ i, i < 21 → 14 ≤ i → sg i ∈ sg1 ∧ (sg i).length = 1) := by decide
theorem sg_in : (∀ s ∈ sg3, s.length = 3 ∧ ∃ i, i < 3 ∧ sg i = s) ∧ (∀ s ∈ sg2, s.length = 2 ∧ ∃ i, i < 14 ∧ sg i = s) ∧ (∀ s ∈ sg1, s.length = 1 ∧ ∃ i, i < 21 ∧ sg i = s) := by
  refine ⟨?_, ?_, ?_⟩ <;> intro s hs <;> simp only [sg3, sg2, sg1, List.mem_cons, List.not_mem_nil, or_false] at hs
  · rcases hs with e | e | e <;> subst e <;> exact ⟨rfl, by decide⟩
  · rcases hs with e | e | e | e | e | e | e | e | e | e | e <;> subst e <;> exact ⟨rfl, by decide⟩
  · rcases hs with e | e | e | e | e | e | e <;> subst e <;> exact ⟨rfl, by decide⟩
theorem sg_not3 (l : List UInt8) (n : Nat) (hn : 3 ≤ n) (h : ∀ j, j < n → (sg j).isPrefixOf l = false) : l.take 3 ∉ sg3 := by
  intro hm
  obtain ⟨hl, i, hi, e⟩ := sg_in.1 _ hm
  have := h i (by omega)
  have h2 := (sg_pre (sg i) l).2 (by rw [(sg_3.1 i hi).2]; exact e.symm)
  rw [this] at h2
  exact absurd h2 (by decide)
theorem sg_not2 (l : List UInt8) (n : Nat) (hn : 14 ≤ n) (h : ∀ j, j < n → (sg j).isPrefixOf l = false) : l.take 2 ∉ sg2 := by
  intro hm
  obtain ⟨hl, i, hi, e⟩ := sg_in.2.1 _ hm
  have := h i (by omega)
  have h2 := (sg_pre (sg i) l).2 (by rw [e, hl])
  rw [this] at h2
  exact absurd h2 (by decide)
theorem sg_not1 (l : List UInt8) (h : ∀ j, j < 21 → (sg j).isPrefixOf l = false) : l.take 1 ∉ sg1 := by
  intro hm
  obtain ⟨hl, i, hi, e⟩ := sg_in.2.2 _ hm
  have := h i hi
  have h2 := (sg_pre (sg i) l).2 (by rw [e, hl])
  rw [this] at h2
  exact absurd h2 (by decide)
theorem sg_none (l : List UInt8) (h : ∀ j, j < 21 → (sg j).isPrefixOf l = false) : sgLen l = 0 := by
  unfold sgLen
  rw [if_neg (sg_not3 l 21 (by omega) h), if_neg (sg_not2 l 21 (by omega) h), if_neg (sg_not1 l h)]
theorem sg_first (l : List UInt8) (i : Nat) (hi : i < 21) (h : ∀ j, j < i → (sg j).isPrefixOf l = false) (hp : (sg i).isPrefixOf l = true) : sgLen l = (sg i).length ∧ l.take (sgLen l) = sg i ∧ sgLen l ≠ 0 := by
  have ht := (sg_pre _ _).1 hp
  have key : sgLen l = (sg i).length ∧ (sg i).length ≠ 0 := by
    unfold sgLen
    by_cases h3 : i < 3
    · obtain ⟨m, e⟩ := sg_3.1 i h3
      rw [e] at ht ⊢
      rw [if_pos (by rw [ht]; exact m)]
      exact ⟨rfl, by omega⟩
    by_cases h2 : i < 14
    · obtain ⟨m, e⟩ := sg_3.2.1 i h2 (by omega)
      rw [e] at ht ⊢
      rw [if_neg (sg_not3 l i (by omega) h), if_pos (by rw [ht]; exact m)]
      exact ⟨rfl, by omega⟩
    · obtain ⟨m, e⟩ := sg_3.2.2 i hi (by omega)
      rw [e] at ht ⊢
      rw [if_neg (sg_not3 l i (by omega) h), if_neg (sg_not2 l i (by omega) h), if_pos (by rw [ht]; exact m)]
      exact ⟨rfl, by omega⟩
  exact ⟨key.1, by rw [key.1]; exact ht, by rw [key.1]; exact key.2⟩
def sgnD (l : List UInt8) : TD × Nat := if sgLen l = 0 then (zT, 0) else (⟨3, l.take (sgLen l), 0, 0⟩, sgLen l)
/-- The table of signs lies in memory. -/
def SgIs (w : World) : Prop := w.rangeAt 0 0 sgV
theorem SgIs.below {w W : World} (h : SgIs w) (b : Below w.heap.size w W) : SgIs W := fun j v hj => keeps b (h j v hj)
theorem ix21 (i : Nat) (hi : i < 21) (w : World) : (Instr.index 52 (.agg sgV.toArray) (.int .i64 (i : Int))).run Tryd.prog w = .ok (.string (str (sg i))) w := by
  rcases (by omega : i = 0 ∨ i = 1 ∨ i = 2 ∨ i = 3 ∨ i = 4 ∨ i = 5 ∨ i = 6 ∨ i = 7 ∨ i = 8 ∨ i = 9 ∨ i = 10 ∨ i = 11 ∨ i = 12 ∨ i = 13 ∨ i = 14 ∨ i = 15 ∨ i = 16 ∨ i = 17 ∨ i = 18 ∨ i = 19 ∨ i = 20) with rfl | rfl | rfl | rfl | rfl | rfl | rfl | rfl | rfl | rfl | rfl | rfl | rfl | rfl | rfl | rfl | rfl | rfl | rfl | rfl | rfl <;> kernel_rfl
set_option maxRecDepth 10000 in
set_option maxHeartbeats 4000000 in
theorem sign_any (w : World) (s : ByteArray) (hs : s.size ≤ 1000000000) (hG : SgIs w) :
    Calls Tryd.prog 23 #[.string s] w fun e w' => e = .returned (.tuple #[vT (sgnD (bl s)).1, .int .i64 ((sgnD (bl s)).2 : Nat)]) ∧ Below w.heap.size w w' := by
  have zv := zero33
  have H0 := hid (Box.start w)
  have HG0 := hid (hG.below H0.out.bel)
  have ix := hid ix21
  have h52 : (Tryd.prog.info? 52).map (·.size) = some sgV.length := by show _ = some 21; kernel_rfl
  replace h52 := hid h52
  have HH := hid (fun i W => HasPrefix_any s (str (sg i)) W)
  obtain ⟨R, hR⟩ : ∃ R, sgnD (bl s) = R := ⟨_, rfl⟩
  rw [hR]
  replace hR := hid hR
  clear hG
  go_enter Tryd.func23, Tryd.ntmps23
  go_upto_region 1 with fail
  generalize w.alloc (.cells #[.int .u8 0, .string ⟨#[]⟩, .int .i64 0, .int .i64 0] 33) = W0 at *
  go_upto_region 2 with (refine wpList_load_mid rfl 52 (.global 0) rfl 0 0 rfl sgV _ HG0.out Tryd.underlying52 rfl h52.out ?_)
  obtain ⟨V, hV⟩ : ∃ V, sgV.toArray = V := ⟨_, rfl⟩
  rw [hV] at ix ⊢
  clear hV h52
  go_loopw [7] (fun v wr => ∃ i : Nat, i ≤ 21 ∧ v = .int .i64 (i : Int) ∧ Hid (∀ j, j < i → (sg j).isPrefixOf (bl s) = false) ∧ wr = W0) (fun v _ => 21 - (intOf v).toNat)
  case atStart => exact ⟨0, by omega, rfl, fun j h => absurd h (Nat.not_lt_zero _), rfl⟩
  case round =>
    obtain ⟨i, hi, rfl, HN, rfl⟩ := hrel
    by_cases h : i < 21
    · have hz : (i : Int) < 21 := by omega
      have ixi := ix.out i h
      have HHi := hid (HH.out i wr)
      unfold Lib.hasPrefix at HHi
      rw [show (str (sg i)).data.toList = sg i from rfl, show s.data.toList = bl s from rfl] at HHi
      by_cases hp : (sg i).isPrefixOf (bl s) = true
      · rw [hp] at HHi
        obtain ⟨f1, f2, f3⟩ := sg_first (bl s) i h HN.out hp
        have e : sgnD (bl s) = (⟨3, sg i, 0, 0⟩, (sg i).length) := by unfold sgnD; rw [if_neg f3, f2, f1]
        have hsz : (str (sg i)).size = (sg i).length := str_size _
        obtain ⟨S, hS⟩ : ∃ S, sg i = S := ⟨_, rfl⟩
        rw [hS] at e hsz ixi HHi
        obtain rfl : R = (⟨3, S, 0, 0⟩, S.length) := hR.out.symm.trans e
        clear e f1 f2 f3 hp HN HH ix hR hS
        have HX := H0
        go_upto_region 5 with (go_at_call 28; refine HHi.out.mono ?_; rintro e wx ⟨rfl, ej⟩; rw [ej]; clear ej wx)
        go_wp2_with (refine wpList_store_row (o := ⟨none, .store 33 (.tmp 2) (.tmp 14), _, _, _, _⟩) rfl 33 (.tmp 2) (.tmp 14) rfl w.heap.size (c4 ⟨3, S, 0, 0⟩).toArray rfl rfl 33 _ HX.out.row (sz33 _) HX.out.size (one33 _) ?_)
        refine bodyPost_ret (results_33_1 (by kernel_rfl : Tryd.f23.results = #[.cell 2 33, .tmp 3]) _ _ w.heap.size ⟨3, S, 0, 0⟩ rfl (HX.out.put (c4 ⟨3, S, 0, 0⟩).toArray rfl).row) rfl ?_
        refine ⟨?_, (HX.out.put (c4 ⟨3, S, 0, 0⟩).toArray rfl).bel⟩
        rw [← hsz]; rfl
      · have hp2 : (sg i).isPrefixOf (bl s) = false := Bool.eq_false_iff.2 hp
        rw [hp2] at HHi
        have HN2 : Hid (∀ j, j < i + 1 → (sg j).isPrefixOf (bl s) = false) := fun j hj => by
          by_cases q : j = i
          · rw [q]; exact hp2
          · exact HN.out j (by omega)
        clear hp hp2 HN HH ix
        generalize (sg i) = S at *
        go_wp2_with (go_at_call 28; refine HHi.out.mono ?_; rintro e wx ⟨rfl, ej⟩; rw [ej]; clear ej wx)
        go_roundw
        case rel => exact ⟨i + 1, by omega, by go_num, HN2, by first | rfl | trivial⟩
        case measure => simp [intOf]; omega
    · obtain rfl : i = 21 := by omega
      have e : sgnD (bl s) = (zT, 0) := if_pos (sg_none _ HN.out)
      obtain rfl : R = (zT, 0) := hR.out.symm.trans e
      clear e HN HH ix hR
      go_wp2_with (refine wpList_store_row (o := ⟨none, .store 33 (.tmp 2) (.tmp 18), _, _, _, _⟩) rfl 33 (.tmp 2) (.tmp 18) rfl w.heap.size (c4 zT).toArray rfl rfl 33 _ H0.out.row (sz33 _) H0.out.size (one33 _) ?_)
      refine bodyPost_ret (results_33_1 (by kernel_rfl : Tryd.f23.results = #[.cell 2 33, .tmp 3]) _ _ w.heap.size zT rfl (H0.out.put (c4 zT).toArray rfl).row) rfl ?_
      exact ⟨rfl, (H0.out.put (c4 zT).toArray rfl).bel⟩
end Go.Proofs.YtnjknjbffgjelaaDoor
