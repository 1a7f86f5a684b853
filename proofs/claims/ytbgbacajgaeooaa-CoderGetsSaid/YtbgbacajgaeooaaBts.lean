/-
  A slice of bits with their chances; what was put is told, bit by bit.
-/
import Derived.Test.YtbgbacajgaeooaaNoneW
import Derived.Test.YtbgbacajgaeooaaDearW
namespace Go.Proofs.Ytbgbacajgaeooaa
open Go.RowKit

/-- The slice a has len bits bt and chances pr; it lies below B. -/
def BitsAt (w : World) (B : Nat) (a : Option Addr) (len : Nat) (bt pr : Nat → Int) : Prop :=
  ∀ i, i < len → ∃ ad, a = some ad ∧ ad.block < B ∧ w.cell? (ad.add (i * 2)) = some (.int .i64 (bt i)) ∧ w.cell? ⟨(ad.add (i * 2)).block, (ad.add (i * 2)).off + 1, none⟩ = some (.int .i64 (pr i))
theorem BitsAt.below {w w' : World} {B : Nat} {a : Option Addr} {len : Nat} {bt pr : Nat → Int} (h : BitsAt w B a len bt pr) (b : Below B w w') : BitsAt w' B a len bt pr := by
  intro i hi
  obtain ⟨ad, e, h1, h2, h3⟩ := h i hi
  exact ⟨ad, e, h1, (b.cell (p := ad.add (i * 2)) (by rw [block_of_add]; exact h1)).trans h2, (b.cell (p := ⟨(ad.add (i * 2)).block, (ad.add (i * 2)).off + 1, none⟩) (by show (ad.add (i * 2)).block < B; rw [block_of_add]; exact h1)).trans h3⟩
theorem slice_cut (A : Option Addr) (n c k : Nat) (hk : k ≤ c) (w' : World) : (Instr.slice 30 (.slice A n c) none (some (.int .i64 (k : Nat))) none).run Try.prog w' = .ok (.slice A k c) w' := by
  have hs : (sizeOf (Try.prog.elem 30)).run Try.prog w' = .ok 1 w' := by kernel_rfl
  have az : ∀ x : Addr, x.add 0 = x := fun x => by simp [Addr.add]
  rw [run_slice_h (ht := by kernel_rfl) (h0 := by omega) (h2 := by omega), hs]
  have e : (if c = 0 then A else A.map (fun x => x.add (0 * 1))) = A := by
    split
    · rfl
    · cases A with
      | none => rfl
      | some a => simp [az]
  simp [Result.andThen, sliced]
  rw [show (fun x : Addr => x.add 0) = id from funext az]
  simp
/-- append of bytes that may be nil, as one step. -/
theorem step_append_o {ops : Array Oper} {o : Oper} {a : Act} {K : Act → World → Prop} {Q : Exit → Act → World → Prop} {E : Prop} (hgd : o.guard = none) (s x : Operand)
    (ho : o.op = .call { callee := .builtin .append, args := #[s, x], argTypes := #[30, 30] }) (w0 w : World) (base : Nat) (v : Value) (n : Nat) (l : List UInt8) (hs : a.eval s = v) (hown : w.ownsRow base 5 1 v n (l.map bv))
    (A : Option Addr) (m c : Nat) (l2 : List UInt8) (hx : a.eval x = .slice A m c) (hB : IsB w A m c l2) (h48 : n + m ≤ 140737488355328) (hb : Below base w0 w) (hbase : base ≤ w0.heap.size)
    (hK : ∀ A' c' w', Hid (w'.ownsRow base 5 1 (.slice A' (n + m) c') (n + m) ((l ++ l2).map bv)) → Hid (Below base w0 w') → K (a.put o.dst (.slice A' (n + m) c')) w') :
    if Region.wanted o (yielded ops a.tmps) = true then Oper.wp Try.prog o a w K Q else E := by
  have hw : Region.wanted o (yielded ops a.tmps) = true := by simp [Region.wanted, hgd]
  have sl : ∀ (w' : World) (v' : Value) (xs : List Value), w'.ownsRow base 5 1 v' (n + m) xs → ∃ A' c', v' = .slice A' (n + m) c' := fun w' v' xs h => by
    rcases h.2 with ⟨rfl, h0⟩ | ⟨g, cap, cur, rfl, _⟩
    · exact ⟨_, _, by rw [h0]⟩
    · exact ⟨_, _, rfl⟩
  rw [if_pos hw]
  rcases A with _ | ad
  · have hm : m = 0 := by
      rcases Nat.eq_zero_or_pos m with h0 | h0
      · exact h0
      · obtain ⟨ad, e, _⟩ := hB.lies (by rw [hB.len]; exact h0)
        cases e
    subst hm
    obtain rfl : l2 = [] := List.eq_nil_of_length_eq_zero hB.len
    have hrun := run_append_nilc (ty := o.type) c hown
    have ho2 : w.ownsRow base 5 1 v (n + 0) ((l ++ []).map bv) := by simpa using hown
    obtain ⟨A', c', rfl⟩ := sl _ _ _ ho2
    unfold Oper.wp execOp
    simp only [ho, resolve, invoke, builtin, Sem.run_bind, Sem.run_pure, Result.andThen_ok, List.map_toArray, List.map_cons, List.map_nil, hs, hx, hrun]
    exact hK _ _ _ ho2 hb
  · have hc : ∀ j u, (l2.map bv)[j]? = some u → w.cell? (ad.add j) = some u := by
      intro j u hu
      have hj : j < l2.length := by have e := (List.getElem?_eq_some_iff.1 hu).1; simpa using e
      obtain ⟨ad', e, hc⟩ := hB.lies (by omega)
      cases e
      rw [map_bv_getElem? l2 j hj] at hu
      cases hu
      exact hc j hj
    obtain ⟨v', w', hr, h2, h3, _, _⟩ := run_append_fresh (ty := o.type) hown ad m c (l2.map bv) (by rw [List.length_map, hB.len]) hc (bv_one l2) h48 (Nat.le_trans hbase hb.size)
    have ho2 : w'.ownsRow base 5 1 v' (n + m) ((l ++ l2).map bv) := by rw [List.map_append]; exact h2
    obtain ⟨A', c', rfl⟩ := sl _ _ _ ho2
    unfold Oper.wp execOp
    simp only [ho, resolve, invoke, builtin, Sem.run_bind, Sem.run_pure, Result.andThen_ok, List.map_toArray, List.map_cons, List.map_nil, hs, hx, hr]
    exact hK _ _ _ ho2 (hb.grown h3 (Nat.le_trans hbase hb.size) (fun k hk => (hown.lt k hk).1))
/-- The first i bits as they are put. -/
def bitF (bt : Nat → Int) (j : Nat) : Bool := decide (bt j % 2 = 1)
def chP (pr : Nat → Int) (j : Nat) : Nat := 1 + pickN (pr j) 65535
theorem chP_in (pr : Nat → Int) (j : Nat) : 1 ≤ chP pr j ∧ chP pr j ≤ 65535 := by
  have := pickN_lt (pr j) 65535 (by omega)
  unfold chP
  omega
def putsL (bt pr : Nat → Int) (i : Nat) : List (Bool × Nat) := (List.range i).map (fun j => (bitF bt j, chP pr j))
theorem putsL_succ (bt pr : Nat → Int) (i : Nat) : putsL bt pr (i + 1) = putsL bt pr i ++ [(bitF bt i, chP pr i)] := by
  unfold putsL
  rw [List.range_succ, List.map_append]
  rfl
theorem putsL_len (bt pr : Nat → Int) (i : Nat) : (putsL bt pr i).length = i := by unfold putsL; simp
theorem putsL_drop (bt pr : Nat → Int) (n j : Nat) (h : j < n) : (putsL bt pr n).drop j = (bitF bt j, chP pr j) :: (putsL bt pr n).drop (j + 1) := by
  rw [List.drop_eq_getElem_cons (by rw [putsL_len]; exact h)]
  congr 1
  unfold putsL
  simp
theorem putsL_ok (bt pr : Nat → Int) (n j : Nat) : ∀ b ∈ (putsL bt pr n).drop j, 1 ≤ b.2 ∧ b.2 ≤ 65535 := by
  intro b hb
  have := List.mem_of_mem_drop hb
  unfold putsL at this
  obtain ⟨i, _, rfl⟩ := List.mem_map.1 this
  exact chP_in pr i
def esP (bt pr : Nat → Int) (i : Nat) : Es := ⟨(putL (putsL bt pr i) 0 4294967295).2.1, (putL (putsL bt pr i) 0 4294967295).2.2, (putL (putsL bt pr i) 0 4294967295).1⟩
theorem bitF_int (bt : Nat → Int) (j : Nat) : bt j % 2 = if bitF bt j then 1 else 0 := by
  unfold bitF
  by_cases h : bt j % 2 = 1
  · simp [h]
  · simp [h]; omega
theorem esP_put (bt pr : Nat → Int) (i : Nat) (hi : i ≤ 6000) : (esP bt pr i).put (bt i % 2) (chP pr i : Int) = (esP bt pr (i + 1), 0) := by
  have hl := putL_len (putsL bt pr i) 0 4294967295
  rw [putsL_len] at hl
  obtain ⟨h1, h2⟩ := chP_in pr i
  rw [bitF_int, es_put (esP bt pr i) (bitF bt i) (chP pr i) h1 h2 (by show (putL (putsL bt pr i) 0 4294967295).1.length < 65536; omega)]
  unfold esP
  rw [putsL_succ, putL_snoc]
theorem esP_len (bt pr : Nat → Int) (i : Nat) (hi : i ≤ 6000) : ((esP bt pr i).l ++ be4 (esP bt pr i).x).length ≤ 24004 := by
  have hl := putL_len (putsL bt pr i) 0 4294967295
  rw [putsL_len] at hl
  rw [List.length_append, be4_len]
  show (putL (putsL bt pr i) 0 4294967295).1.length + 4 ≤ 24004
  omega
/-- What a decoder still has to tell. -/
structure Dv (more : List UInt8) (l : List (Bool × Nat)) (x y : Nat) (R : List UInt8) : Prop where
  ok : IvOk x y
  eq : R = (putL l x y).1 ++ (be4 (putL l x y).2.1 ++ more)
theorem Dv.step {more : List UInt8} {a : Bool × Nat} {l : List (Bool × Nat)} {x y : Nat} {R : List UInt8} (h : Dv more (a :: l) x y R) (hl : ∀ b ∈ a :: l, 1 ≤ b.2 ∧ b.2 ≤ 65535) :
    a.1 = bitOf x y a.2 R ∧ Dv more l (put1 x y a.2 a.1).2.1 (put1 x y a.2 a.1).2.2 (R.drop (put1 x y a.2 a.1).1.length) := by
  obtain ⟨p1, p2⟩ := hl a (List.mem_cons_self ..)
  have hb := bit_back a l x y more h.ok hl
  rw [← h.eq] at hb
  refine ⟨hb.symm, put1_ok x y a.2 a.1 h.ok p1 p2, ?_⟩
  rw [h.eq]
  show List.drop _ (((put1 x y a.2 a.1).1 ++ _) ++ _) = _
  rw [List.append_assoc, List.drop_left]
  rfl
end Go.Proofs.Ytbgbacajgaeooaa
