/-
  append of a new block's bytes to a list of the call's own, as one step; a slice made with room.
-/
import Derived.Test.YtlcihljpniejeaaLen
import Derived.Deep.RegionLaw
namespace Go.Proofs.Ytlcihljpniejeaa
open Go.RowKit

theorem step_append_b {ops : Array Oper} {o : Oper} {a : Act} {K : Act → World → Prop} {Q : Exit → Act → World → Prop} {E : Prop} (hgd : o.guard = none) (s x : Operand)
    (ho : o.op = .call { callee := .builtin .append, args := #[s, x], argTypes := #[25, 25] }) (w0 w : World) (base : Nat) (v : Value) (n : Nat) (l : List UInt8) (hs : a.eval s = v) (hown : w.ownsRow base 5 1 v n (l.map bv))
    (ad : Addr) (m c : Nat) (l2 : List UInt8) (hx : a.eval x = .slice (some ad) m c) (hB : IsB w (some ad) m c l2) (h48 : n + m ≤ 140737488355328) (hb : Below base w0 w) (hbase : base ≤ w0.heap.size)
    (hK : ∀ v' w', Hid (w'.ownsRow base 5 1 v' (n + m) ((l ++ l2).map bv)) → Hid (Below base w0 w') → K (a.put o.dst v') w') :
    if Region.wanted o (yielded ops a.tmps) = true then Oper.wp Try.prog o a w K Q else E := by
  have hw : Region.wanted o (yielded ops a.tmps) = true := by simp [Region.wanted, hgd]
  rw [if_pos hw]
  have hc : ∀ j u, (l2.map bv)[j]? = some u → w.cell? (ad.add j) = some u := by
    intro j u hu
    have hj : j < l2.length := by have e := (List.getElem?_eq_some_iff.1 hu).1; simpa using e
    obtain ⟨ad', e, hc⟩ := hB.lies (by omega)
    cases e
    rw [map_bv_getElem? l2 j hj] at hu
    cases hu
    exact hc j hj
  obtain ⟨v', w', hr, h2, h3, _, _⟩ := run_append_fresh (ty := o.type) hown ad m c (l2.map bv) (by rw [List.length_map, hB.len]) hc (bv_one l2) h48 (Nat.le_trans hbase hb.size)
  unfold Oper.wp execOp
  simp only [ho, resolve, invoke, builtin, Sem.run_bind, Sem.run_pure, Result.andThen_ok, List.map_toArray, List.map_cons, List.map_nil, hs, hx, hr]
  exact hK _ _ (by show World.ownsRow _ _ _ _ _ _ _; rw [List.map_append]; exact h2) (hb.grown h3 (Nat.le_trans hbase hb.size) (fun k hk => (hown.lt k hk).1))
theorem new_at (w : World) (o : Obj) : (w.alloc o).heap[w.heap.size]? = some o := heap_alloc_new w o
/-- What was made with room for m bytes, behind other calls. -/
theorem made_own {W W' : World} {Z : Array Value} {base m : Nat} (hZ : Z.size = m) (hm : m ≤ 1000) (hb : base ≤ W.heap.size) (h : Below (W.alloc (.cells Z 5)).heap.size (W.alloc (.cells Z 5)) W') :
    W'.ownsRow base 5 1 (.slice (some ⟨W.heap.size, 0, none⟩) 0 m) 0 (([] : List UInt8).map bv) := by
  refine ⟨rfl, .inr ⟨W.heap.size, m, Z, rfl, hb, (h.block _ (by simp)).trans (new_at W _), Nat.zero_le _, by unfold maxLen; omega, by rw [hZ, Nat.mul_one], by simp⟩⟩
set_option maxRecDepth 10000 in
theorem mk1 (w : World) : (Instr.makeSlice 25 (.int .i64 0) (.int .i64 1)).run Try.prog w = .ok (.slice (some ⟨w.heap.size, 0, none⟩) 0 1) (w.alloc (.cells #[.int .u8 0] 5)) := by kernel_rfl
theorem mk2 (w : World) : (Instr.makeSlice 25 (.int .i64 0) (.int .i64 2)).run Try.prog w = .ok (.slice (some ⟨w.heap.size, 0, none⟩) 0 2) (w.alloc (.cells #[.int .u8 0, .int .u8 0] 5)) := by kernel_rfl
theorem mk3 (w : World) : (Instr.makeSlice 25 (.int .i64 0) (.int .i64 3)).run Try.prog w = .ok (.slice (some ⟨w.heap.size, 0, none⟩) 0 3) (w.alloc (.cells #[.int .u8 0, .int .u8 0, .int .u8 0] 5)) := by kernel_rfl
end Go.Proofs.Ytlcihljpniejeaa
