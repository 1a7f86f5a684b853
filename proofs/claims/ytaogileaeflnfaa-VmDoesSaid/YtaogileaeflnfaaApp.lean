/-
  append on a list of bytes of the call's own: of bytes that may be nil, and of noughts ('make([]byte, k)...').
-/
import Derived.Test.YtaogileaeflnfaaRow
import Derived.Lib.AppendZerosOnto
import Derived.Laws.OwnMore
import Derived.OwnWalk
namespace Go.Proofs.Ytaogileaeflnfaa
open Go.RowKit

theorem run_append_nilc {w : World} {base : Nat} {ty : TypeId} {v : Value} {n : Nat} {xs : List Value} (c : Nat) (hown : w.ownsRow base 5 1 v n xs) :
    (Builtin.append_ #[28, 28] ty #[v, .slice none 0 c]).run Try.prog w = .ok v w := by
  obtain ⟨i0, hi, hz0, hz1, hz2⟩ := info_parts Try.info5
  rcases hown.2 with ⟨rfl, rfl⟩ | ⟨g, cap, cur, rfl, _, _, hnc, _⟩
  · simp [Builtin.append_, run_underlying Try.underlying28, sizeOf, typeInfo, hi, Builtin.lenOf, Builtin.firstCells]
  · simp [Builtin.append_, run_underlying Try.underlying28, sizeOf, typeInfo, hi, Builtin.lenOf, Builtin.firstCells, hnc, storeCells]

theorem own_grown {w w' : World} {base n : Nat} {v : Value} {xs : List Value} {row : Option Nat} (h : w.ownsRow base 5 1 v n xs) (hg : w.grownBy w' row) (hne : ∀ k, v.ownBlock = some k → row ≠ some k) : w'.ownsRow base 5 1 v n xs := by
  refine h.kept hg ?_
  cases hv : v.ownBlock with
  | none => exact .inl rfl
  | some k => exact .inr (by intro e; exact hne k hv e.symm)
/-- Two slices do not lie in one block. -/
def Apart2 (v u : Value) : Prop := ∀ k, v.ownBlock = some k → u.ownBlock ≠ some k
theorem Apart2.swap {v u : Value} (h : Apart2 v u) : Apart2 u v := fun k hk e => h k e hk
theorem apart2_nil (u : Value) : Apart2 (.slice none 0 0) u := fun k hk => by cases hk
/-- What an append to v leaves of the other lists of bytes that are owned. -/
def Keeps (w w' : World) (v v' : Value) : Prop := ∀ b u n xs, w.ownsRow b 5 1 u n xs → Apart2 v u → w'.ownsRow b 5 1 u n xs ∧ Apart2 v' u
theorem keeps_of {w w' : World} {v v' : Value} (hg : w.grownBy w' v.ownBlock) (hf : v'.ownBlock = v.ownBlock ∨ ∃ k, v'.ownBlock = some k ∧ w.heap.size ≤ k) : Keeps w w' v v' := by
  intro b u n xs hu ha
  refine ⟨own_grown hu hg (fun k hk e => ha k e hk), fun k hk e => ?_⟩
  rcases hf with h | ⟨k2, h, h2⟩
  · exact ha k (h ▸ hk) e
  · rw [h] at hk
    cases hk
    have := (hu.lt k e).2
    omega

theorem run_append_fresh {w : World} {base : Nat} {ty : TypeId} {v : Value} {n : Nat} {xs : List Value} (hown : w.ownsRow base 5 1 v n xs)
    (a : Addr) (m c : Nat) (news : List Value) (hl : news.length = m) (hnews : ∀ j u, news[j]? = some u → w.cell? (a.add j) = some u) (h1 : ∀ u ∈ news, u.oneCell' = true) (h48 : n + m ≤ 140737488355328) (hbase : base ≤ w.heap.size) :
    ∃ v' w', (Builtin.append_ #[28, 28] ty #[v, .slice (some a) m c]).run Try.prog w = .ok v' w' ∧ w'.ownsRow base 5 1 v' (n + m) (xs ++ news) ∧ w.grownBy w' v.ownBlock ∧ Keeps w w' v v' ∧ (v'.ownBlock = v.ownBlock ∨ ∃ k, v'.ownBlock = some k ∧ w.heap.size ≤ k) := by
  obtain ⟨i0, hi, hz0, hz1, hz2⟩ := info_parts Try.info5
  have hl' : news.length = m * i0.size := by rw [hz1, Nat.mul_one]; exact hl
  obtain ⟨v', w', hr, h2, h3, h4⟩ := run_append_own (P := Try.prog) w base 28 ty 5 i0 (.int .u8 0) 1 1 Try.underlying28 hi hz0 hz1 hz2 rfl (by decide) v n xs hown a m c news (by rw [Nat.mul_one]; exact hl) hnews h1 (by unfold maxLen; omega) (by omega) hbase
  refine (fun hfr : v'.ownBlock = v.ownBlock ∨ ∃ k, v'.ownBlock = some k ∧ w.heap.size ≤ k => ?_) ?_
  · exact ⟨v', w', hr, h2, h3, keeps_of h3 hfr, hfr⟩
  rcases hown.2 with ⟨rfl, rfl⟩ | ⟨g, cap, cur, rfl, hbg, hg, hnc, hcm, hcs, htake⟩
  · by_cases hm : m = 0
    · left
      rw [h4.2 ⟨rfl, hm⟩]
    · have e := run_append_nil (P := Try.prog) w 28 ty 5 i0 (.int .u8 0) Try.underlying28 hi hz0 a m c news hl' hnews (by omega) (by omega) (by rw [hz2]; omega)
      rw [e] at hr
      injection hr with e1 _
      exact .inr ⟨w.heap.size, by rw [← e1]; rfl, Nat.le_refl _⟩
  · by_cases hroom : n + m ≤ cap
    · have e := run_append_room (P := Try.prog) w 28 ty 5 i0 Try.underlying28 hi g n cap cur hg a m c news hl' hnews h1 hroom (by rw [hl, hz1, hcs]; omega)
      rw [e] at hr
      injection hr with e1 _
      exact .inl (by rw [← e1]; rfl)
    · have holds : ∀ j u, xs[j]? = some u → w.cell? ((⟨g, 0, none⟩ : Addr).add j) = some u := hown.cells (g := g) rfl
      have e := run_append_grow (P := Try.prog) w 28 ty 5 i0 (.int .u8 0) Try.underlying28 hi hz0 ⟨g, 0, none⟩ n cap xs (by rw [hz1]; exact hown.1) holds a m c news hl' hnews (by omega) (by omega) (growslice_fits (by omega) (by rw [hz2]; omega))
      rw [e] at hr
      injection hr with e1 _
      exact .inr ⟨w.heap.size, by rw [← e1]; rfl, Nat.le_refl _⟩

theorem wpList_append_bytes {w : World} {ops : Array Oper} {rest : List Oper} {o : Oper} {a : Act} {Q : Exit → Act → World → Prop} (hgd : o.guard = none) (s x : Operand)
    (ho : o.op = .call { callee := .builtin .append, args := #[s, x], argTypes := #[28, 28] })
    (base : Nat) (w0 : World) (v : Value) (n : Nat) (l : List UInt8) (hs : a.eval s = v) (hown : w.ownsRow base 5 1 v n (l.map bv))
    (A : Option Addr) (m c : Nat) (l2 : List UInt8) (hx : a.eval x = .slice A m c) (hB : IsB w A m c l2) (h48 : n + m ≤ 140737488355328) (hb : Below base w0 w) (hbase : base ≤ w0.heap.size)
    (h : ∀ v' w', Hid (w'.ownsRow base 5 1 v' (n + m) ((l ++ l2).map bv)) → Hid (Below base w0 w') → Hid (Keeps w w' v v') → wpList Try.prog ops Q rest (a.put o.dst v') w') : wpList Try.prog ops Q (o :: rest) a w := by
  rcases A with _ | ad
  · have hm : m = 0 := by
      rcases Nat.eq_zero_or_pos m with h0 | h0
      · exact h0
      · obtain ⟨ad, e, _⟩ := hB.lies (by rw [hB.len]; exact h0)
        cases e
    subst hm
    obtain rfl : l2 = [] := List.eq_nil_of_length_eq_zero hB.len
    refine wpList_plain hgd fun K hK => ?_
    have hrun := run_append_nilc (ty := o.type) c hown
    unfold Oper.wp
    simp [execOp, ho, resolve, invoke, builtin, hs, hx, hrun, Result.andThen]
    refine hK _ _ (h v w ?_ hb (fun _ _ _ _ hu ha => ⟨hu, ha⟩))
    show World.ownsRow _ _ _ _ _ _ _
    simpa using hown
  · have hc : ∀ j u, (l2.map bv)[j]? = some u → w.cell? (ad.add j) = some u := by
      intro j u hu
      have hj : j < l2.length := by have e := (List.getElem?_eq_some_iff.1 hu).1; simpa using e
      obtain ⟨ad', e, hc⟩ := hB.lies (by omega)
      cases e
      rw [map_bv_getElem? l2 j hj] at hu
      cases hu
      exact hc j hj
    obtain ⟨v', w', hr, h2, h3, h4, _⟩ := run_append_fresh (ty := o.type) hown ad m c (l2.map bv) (by rw [List.length_map, hB.len]) hc (bv_one l2) h48 (Nat.le_trans hbase hb.size)
    refine wpList_plain hgd fun K hK => ?_
    unfold Oper.wp execOp
    simp only [ho, resolve, invoke, builtin, Sem.run_bind, Sem.run_pure, Result.andThen_ok, List.map_toArray, List.map_cons, List.map_nil, hs, hx, hr]
    exact hK _ _ (h v' w' (by show World.ownsRow _ _ _ _ _ _ _; rw [List.map_append]; exact h2) (hb.grown h3 (Nat.le_trans hbase hb.size) (fun k hk => (hown.lt k hk).1)) h4)
/-- One byte in a new block. -/
theorem one_isB (W : World) (b : UInt8) (x : Int) (hx : x = (b.toNat : Int)) : IsB (W.alloc (.cells #[.int .u8 x] 5)) (some ⟨W.heap.size, 0, none⟩) 1 1 [b] :=
  ⟨rfl, Nat.le_refl _, by unfold maxLen; omega, by omega, fun _ => ⟨_, rfl, fun j hj => one_cell W b x hx j _ (map_bv_getElem? [b] j hj)⟩⟩
theorem keeps_alloc {W w' : World} {v v' : Value} {o : Obj} (h : Keeps (W.alloc o) w' v v') : Keeps W w' v v' := fun b u n xs hu ha => h b u n xs (hu.alloc _) ha

theorem zero_cells (k : Nat) : (Builtin.zeroCells (Value.int .u8 0).cells k).toList = List.replicate k (Value.int .u8 0) := by
  have e : (Value.int .u8 0).cells = #[Value.int .u8 0] := rfl
  rw [e]
  apply List.ext_getElem
  · simp [Builtin.zeroCells]
  · intro i h1 h2
    simp [Builtin.zeroCells, Nat.mod_one]
theorem zero_size (k : Nat) : (Builtin.zeroCells (Value.int .u8 0).cells k).size = k := by
  have := congrArg List.length (zero_cells k)
  simpa using this

theorem run_append_room_zeros {w : World} {ty : TypeId} (g n cap k : Nat) (cur : Array Value) (hg : w.heap[g]? = some (.cells cur 5 (0, 0))) (hcs : cur.size = cap) (hr : n + k ≤ cap) (hk : k ≤ 1000) :
    (Builtin.append_ #[28, 3] ty #[.slice (some ⟨g, 0, none⟩) n cap, .int .i64 (k : Nat)]).run Try.prog w =
      .ok (.slice (some ⟨g, 0, none⟩) (n + k) cap) (w.setRow g (cur.toList.take n ++ List.replicate k (Value.int .u8 0) ++ cur.toList.drop (n + k)).toArray) := by
  obtain ⟨i0, hi, hz0, hz1, hz2⟩ := info_parts Try.info5
  have hw : IntKind.i64.wrap (k : Int) = k := by rw [IntKind.wrap_i64]; omega
  have hneg : ¬ ((k : Int) < 0) := by omega
  have h48i : ¬ (281474976710656 < (k : Int)) := by omega
  have ha : (⟨g, 0, none⟩ : Addr).add n = ⟨g, n, none⟩ := by rw [Addr.add_lit, Nat.zero_add]
  have hst := run_storeCells_at Try.prog g n 5 (List.replicate k (Value.int .u8 0)) 0 cur w hg (by simp; omega) (by intro v hv; rw [List.eq_of_mem_replicate hv]; rfl)
  simp only [Nat.add_zero, List.length_replicate] at hst
  have hzc := zero_cells k
  rcases Nat.eq_zero_or_pos k with rfl | h0
  · simp only [List.replicate_zero] at hst
    have hw0 : IntKind.i64.wrap 0 = 0 := by rw [IntKind.wrap_i64]; rfl
    have hr0 : n ≤ cap := hr
    simp [Builtin.append_, run_underlying Try.underlying28, run_underlying Try.underlying3, sizeOf, typeInfo, hi, hz1, hz2, asInt, asIntOf, hw0, hr0, ha, hst]
  · have hk0 : k ≠ 0 := by omega
    simp [Builtin.append_, run_underlying Try.underlying28, run_underlying Try.underlying3, sizeOf, typeInfo, zeroValue, hi, hz0, hz1, hz2, asInt, asIntOf, hw, hneg, h48i, hr, ha, hk0, hzc, hst]
end Go.Proofs.Ytaogileaeflnfaa
