/-
  append of noughts ('append(key, make([]byte, k)...)') to a list of bytes of the call's own.
-/
import Derived.Test.YtnifhgcdpgokhaaApp
namespace Go.Proofs.Ytnifhgcdpgokhaa
open Go.RowKit

theorem run_append_zeros {w : World} {base : Nat} {ty : TypeId} {v : Value} {n : Nat} {l : List UInt8} (hown : w.ownsRow base 5 1 v n (l.map bv)) (k : Nat) (hk : k ≤ 1000) (hn : n ≤ 100000) (hbase : base ≤ w.heap.size) :
    ∃ v' w', (Builtin.append_ #[22, 3] ty #[v, .int .i64 (k : Nat)]).run Try.prog w = .ok v' w' ∧ w'.ownsRow base 5 1 v' (n + k) ((l ++ List.replicate k 0).map bv) ∧ w.grownBy w' v.ownBlock := by
  obtain ⟨i0, hi, hz0, hz1, hz2⟩ := info_parts Try.info5
  have hmap : (l ++ List.replicate k 0).map bv = l.map bv ++ List.replicate k (Value.int .u8 0) := by rw [List.map_append, List.map_replicate]; rfl
  have hlen : l.length = n := by simpa using hown.1
  rcases hown.2 with ⟨rfl, rfl⟩ | ⟨g, cap, cur, rfl, hbg, hg, hnc, hcm, hcs, htake⟩
  · obtain rfl : l = [] := List.eq_nil_of_length_eq_zero hlen
    rcases Nat.eq_zero_or_pos k with rfl | h0
    · have hw0 : IntKind.i64.wrap 0 = 0 := by rw [IntKind.wrap_i64]; rfl
      refine ⟨.slice none 0 0, w, ?_, World.ownsRow_nil w base 5 1, ⟨rfl, rfl, rfl, Nat.le_refl _, fun _ _ _ => rfl⟩⟩
      simp [Builtin.append_, run_underlying Try.underlying22, run_underlying Try.underlying3, sizeOf, typeInfo, hi, hz1, hz2, asInt, asIntOf, hw0]
    · have e := Lib.run_append_nil_zeros (P := Try.prog) w 22 3 ty 5 i0 (.int .u8 0) .i64 .i64 Try.underlying22 Try.underlying3 hi hz0 k h0 (by omega) (by omega) (by rw [hz2]; omega)
      have hge := grownCap_ge w k 0 5
      have hcm := grownCap_le_maxLen w k 0 5 (by unfold maxLen; omega)
      refine ⟨_, _, e, ⟨by simp, .inr ⟨w.heap.size, _, _, by rw [Nat.zero_add], hbase, heap_alloc_new w.drew _, by omega, hcm, ?_, ?_⟩⟩, ⟨rfl, rfl, rfl, by simp, fun j hj _ => heap_alloc_old w.drew _ hj⟩⟩
      · rw [Array.size_append, zero_size, zero_size, Nat.mul_one]; omega
      · rw [Array.toList_append, zero_cells, zero_cells, hmap, List.take_append_of_le_length (by simp), List.take_of_length_le (by simp)]
        rfl
  · by_cases hroom : n + k ≤ cap
    · have e := run_append_room_zeros (ty := ty) g n cap k cur hg (by simpa using hcs) hroom hk
      refine ⟨_, _, e, ⟨by simp [hlen], .inr ⟨g, cap, _, rfl, hbg, setRow_heap w g cur _ 5 _ hg, hroom, hcm, ?_, ?_⟩⟩, ⟨rfl, rfl, rfl, by simp, fun j _ hj => setRow_other w g j _ (fun e => hj (by simp [Value.ownBlock, e]))⟩⟩
      · simp only [List.size_toArray, List.length_append, List.length_take, List.length_drop, Array.length_toList, List.length_replicate]
        omega
      · rw [hmap, Nat.mul_one] at *
        rw [htake, List.toList_toArray, List.take_append_of_le_length (by simp [hlen]), List.take_of_length_le (by simp [hlen])]
    · have holds : ∀ j u, (l.map bv)[j]? = some u → w.drew.cell? ((⟨g, 0, none⟩ : Addr).add j) = some u := hown.cells (g := g) rfl
      have hf := run_firstCells_some (P := Try.prog) w.drew i0.size n ⟨g, 0, none⟩ n cap (l.map bv) (by rw [hz1]; exact hown.1) holds
      rcases Nat.eq_zero_or_pos k with rfl | h0
      · omega
      · have e := Lib.run_append_grow_zeros (P := Try.prog) w 22 3 ty 5 i0 (.int .u8 0) .i64 .i64 Try.underlying22 Try.underlying3 hi hz0 (some ⟨g, 0, none⟩) n cap (l.map bv) hf k h0 (by omega) (by omega) (by omega) (by rw [hz2]; omega) (growslice_fits (by omega) (by rw [hz2]; omega))
        have hge := grownCap_ge w (n + k) cap 5
        have hcm2 := grownCap_le_maxLen w (n + k) cap 5 (by unfold maxLen; omega)
        refine ⟨_, _, e, ⟨by simp [hlen], .inr ⟨w.heap.size, _, _, rfl, hbase, heap_alloc_new w.drew _, hge, hcm2, ?_, ?_⟩⟩, ⟨rfl, rfl, rfl, by simp, fun j hj _ => heap_alloc_old w.drew _ hj⟩⟩
        · simp only [Array.size_append, List.size_toArray, List.length_map, zero_size, hlen]
          omega
        · simp only [Array.toList_append, zero_cells]
          rw [hmap, Nat.mul_one, List.take_append_of_le_length (by simp [hlen]), List.take_of_length_le (by simp [hlen])]

theorem wpList_append_zeros {w : World} {ops : Array Oper} {rest : List Oper} {o : Oper} {a : Act} {Q : Exit → Act → World → Prop} (hgd : o.guard = none) (s x : Operand)
    (ho : o.op = .call { callee := .builtin .append, args := #[s, x], argTypes := #[22, 3] })
    (base : Nat) (w0 : World) (v : Value) (n : Nat) (l : List UInt8) (hs : a.eval s = v) (hown : w.ownsRow base 5 1 v n (l.map bv))
    (k : Nat) (hx : a.eval x = .int .i64 (k : Nat)) (hk : k ≤ 1000) (hn : n ≤ 100000) (hb : Below base w0 w) (hbase : base ≤ w0.heap.size)
    (h : ∀ v' w', Hid (w'.ownsRow base 5 1 v' (n + k) ((l ++ List.replicate k 0).map bv)) → Hid (Below base w0 w') → wpList Try.prog ops Q rest (a.put o.dst v') w') : wpList Try.prog ops Q (o :: rest) a w := by
  obtain ⟨v', w', hr, h2, h3⟩ := run_append_zeros (ty := o.type) hown k hk hn (Nat.le_trans hbase hb.size)
  exact Lib.wpList_append_run w hgd s x 22 3 ho v _ hs hx v' w' hr (h v' w' h2 (hb.grown h3 (Nat.le_trans hbase hb.size) (fun j hj => (hown.lt j hj).1)))
end Go.Proofs.Ytnifhgcdpgokhaa
