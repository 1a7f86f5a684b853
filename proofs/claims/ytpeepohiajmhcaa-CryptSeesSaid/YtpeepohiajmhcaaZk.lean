/-
  Merged: DEq.
-/
import Derived.Test.YtpeepohiajmhcaaZa
import Derived.ChangeKeysEq
import Derived.Laws.StructEq
/-
  Two arrays of the same thirty-two bytes are equal.
-/
namespace Go.Proofs.Ytpeepohiajmhcaa.d
open Go.RowKit

theorem cells5 : Try.prog.cellsOf 5 = 1 := by kernel_rfl
theorem part5 (X : Array Value) (i : Nat) (v : Value) (h : X[i]? = some v) (w : World) : (part 5 X i).run Try.prog w = .ok v w := by
  simp [part, isAgg, Sem.run_bind, run_underlying Try.underlying5, h]
theorem items_same (l : List UInt8) (w : World) : ∀ is : List Nat, (∀ i ∈ is, i < l.length) → (Op.eqItems 9999 5 1 (l.map bv).toArray (l.map bv).toArray is).run Try.prog w = .ok true w
  | [], _ => by simp [Op.eqItems]
  | i :: is, h => by
    have hi := h i (by simp)
    have hp := part5 (l.map bv).toArray (i * 1) (bv l[i]) (by rw [Nat.mul_one, List.getElem?_toArray]; exact map_bv_getElem? l i hi) w
    have he : (Op.equalIn 9999 5 (bv l[i]) (bv l[i])).run Try.prog w = .ok true w := by
      have := run_equalIn_int w 9998 5 .u8 .u8 (l[i].toNat : Int) (l[i].toNat : Int) Try.underlying5
      rw [beq_self_eq_true] at this
      exact this
    have ih := items_same l w is (fun j hj => h j (by simp [hj]))
    simp only [Op.eqItems, Sem.run_bind, hp, he, Result.andThen_ok]
    simpa using ih
theorem eq_same (l : List UInt8) (hl : l.length = 32) (w : World) : (Op.equalIn 10000 46 (.agg (l.map bv).toArray) (.agg (l.map bv).toArray)).run Try.prog w = .ok true w := by
  obtain ⟨i0, hi, hz0, hz1, hz2⟩ := info_parts Try.info5
  have e := run_equalIn_array w 9999 (l.map bv).toArray (l.map bv).toArray Try.underlying46 hi
  rw [cells5] at e
  exact e.trans (items_same l w _ (fun i hi => by rw [hl]; simpa using hi))
end Go.Proofs.Ytpeepohiajmhcaa.d
