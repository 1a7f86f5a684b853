/-
  An array of bytes as an argument: taken apart, and read again in any world; two arrays of sixteen bytes compared.
-/
import Derived.Test.YtlgabihjfjlhkaaEq
import Derived.OpenShut
import Derived.WideShapes
namespace Go.Proofs.Ytlgabihjfjlhkaa
open Go.RowKit

theorem okWide_array {P : Program} {w : World} {r : Reach} {base n : Nat} {t e : TypeId} {v : Value} (ht : P.underlying t = some (.array n e)) (h : Value.okWide P w r base t v) : ∃ cs, v = .agg cs ∧ cs.size = P.cellsOf t := by
  simp only [Value.okWide, ht] at h
  obtain ⟨cs, h1, h2, _⟩ := h
  exact ⟨cs, h1, h2⟩
theorem trod_u8_any {H : Type} {enc : TypeId × Value → H} {P : Program} {e : TypeId} (he : P.underlying e = some (.int .u8)) (m : Nat) (cs : List Value) (w w' : World) (b b' : Nat) (s s' : Nat → Bool) (h h' : Bool) :
    DataW.trod enc P w b s h m e cs = DataW.trod enc P w' b' s' h' m e cs := by
  cases m with
  | zero => rfl
  | succ m =>
    unfold DataW.trod
    rw [he]
    rcases cs with _ | ⟨c, _ | ⟨c2, r⟩⟩
    · rfl
    · cases c <;> rfl
    · cases c <;> rfl
theorem open_bytes {H : Type} {enc : TypeId × Value → H} {P : Program} {w : World} {base0 base n : Nat} {sp : Nat → Bool} {hd : Bool} {r : Reach} {t e : TypeId} {v : Value} {d : DataW H} {p : List MemPlace}
    (ht : P.underlying t = some (.array n e)) (he : P.underlying e = some (.int .u8)) (hce : P.cellsOf e = 1) (hct : P.cellsOf t = n) (hv : Value.okWide P w r base0 t v) (h : DataW.Trod enc P w base sp hd t v d p) :
    ∃ l : List UInt8, l.length = n ∧ v = .agg (l.map bv).toArray ∧ p = [] ∧ ∀ (w' : World) (b' : Nat) (s' : Nat → Bool) (h' : Bool), DataW.Trod enc P w' b' s' h' t v d [] := by
  obtain ⟨cs, rfl, hsz⟩ := okWide_array ht hv
  obtain ⟨fuel, hf⟩ := h
  obtain ⟨xs, m, rfl, hx, hl, hlen, hg⟩ := DataW.trod_array ht hf
  have hcs : (Value.agg cs).cells.toList = cs.toList := rfl
  rw [hcs] at hg hl hf
  have hel : ∀ i, i < n → ∃ (x : Int), cs.toList[i]? = some (.int .u8 x) ∧ 0 ≤ x ∧ x ≤ 255 ∧ xs[i]? = some (.lit (.int .u8 x), []) := by
    intro i hi
    have hi2 := hg i hi
    rw [hce, Nat.mul_one] at hi2
    have hil : i < cs.toList.length := by rw [Array.length_toList]; omega
    rw [List.drop_eq_getElem_cons hil, List.take_succ_cons, List.take_zero] at hi2
    have hxi : xs[i]? = some (xs[i]'(by omega)) := List.getElem?_eq_getElem (by omega)
    rw [hxi] at hi2
    obtain ⟨x, e0, e1, wx⟩ := DataW.trod_int he hi2
    have hb := wf_u8 wx
    refine ⟨x, ?_, hb.1, hb.2, by rw [hxi, e1]⟩
    rw [List.getElem?_eq_getElem hil]
    simpa using e0
  have hp : p = [] := by
    have e : p = xs.flatMap (·.2) := by simpa using congrArg Prod.snd hx
    rw [e, List.flatMap_eq_nil_iff]
    intro y hy
    obtain ⟨i, hi, rfl⟩ := List.getElem_of_mem hy
    obtain ⟨x, _, _, _, h4⟩ := hel i (by omega)
    rw [List.getElem?_eq_getElem hi] at h4
    have := Option.some.inj h4
    rw [this]
  refine ⟨cs.toList.map (fun v => match v with | .int _ x => UInt8.ofNat x.toNat | _ => 0), by simp; omega, ?_, hp, ?_⟩
  · congr 1
    apply Array.ext'
    simp only [List.map_map]
    apply List.ext_getElem?
    intro i
    by_cases hi : i < n
    · obtain ⟨x, h1, h2, h3, _⟩ := hel i hi
      rw [List.getElem?_map, h1]
      simp [bv]
      omega
    · rw [List.getElem?_eq_none (by rw [Array.length_toList]; omega), List.getElem?_eq_none (by rw [List.length_map, Array.length_toList]; omega)]
  · intro w' b' s' h'
    refine ⟨m + 1, ?_⟩
    rw [hcs]
    have e2 : DataW.trod enc P w' b' s' h' (m + 1) t cs.toList = DataW.trod enc P w base sp hd (m + 1) t cs.toList := by
      unfold DataW.trod
      simp only [ht]
      have e3 : (fun i => DataW.trod enc P w' b' s' h' m e ((cs.toList.drop (i * P.cellsOf e)).take (P.cellsOf e))) = (fun i => DataW.trod enc P w base sp hd m e ((cs.toList.drop (i * P.cellsOf e)).take (P.cellsOf e))) := by
        funext i
        exact trod_u8_any he m _ _ _ _ _ _ _ _ _
      rw [e3]
    rw [e2, hf, hp]
theorem items_any (l l2 : List UInt8) (w : World) : ∀ is : List Nat, (∀ i ∈ is, i < l.length ∧ i < l2.length) → (Op.eqItems 9999 5 1 (l.map bv).toArray (l2.map bv).toArray is).run Try.prog w = .ok (is.all fun i => l[i]? == l2[i]?) w
  | [], _ => by simp [Op.eqItems]
  | i :: is, h => by
    obtain ⟨hi, hi2⟩ := h i (by simp)
    have hp := part5 (l.map bv).toArray (i * 1) (bv l[i]) (by rw [Nat.mul_one, List.getElem?_toArray]; exact map_bv_getElem? l i hi) w
    have hp2 := part5 (l2.map bv).toArray (i * 1) (bv l2[i]) (by rw [Nat.mul_one, List.getElem?_toArray]; exact map_bv_getElem? l2 i hi2) w
    have he : (Op.equalIn 9999 5 (bv l[i]) (bv l2[i])).run Try.prog w = .ok (l[i]? == l2[i]?) w := by
      have := run_equalIn_int w 9998 5 .u8 .u8 (l[i].toNat : Int) (l2[i].toNat : Int) Try.underlying5
      rw [List.getElem?_eq_getElem hi, List.getElem?_eq_getElem hi2]
      refine this.trans ?_
      congr 1
      rw [Bool.eq_iff_iff]
      simp only [beq_iff_eq, Option.some.injEq]
      exact ⟨fun e => UInt8.toNat_inj.1 (by omega), fun e => by rw [e]⟩
    have ih := items_any l l2 w is (fun j hj => h j (by simp [hj]))
    simp only [Op.eqItems, Sem.run_bind, hp, hp2, he, Result.andThen_ok]
    cases hq : (l[i]? == l2[i]?) with
    | true => simpa [hq] using ih
    | false => simp [hq]
theorem eq_all (l l2 : List UInt8) (n : Nat) (h1 : l.length = n) (h2 : l2.length = n) : ((List.range n).all fun i => l[i]? == l2[i]?) = (l == l2) := by
  rw [Bool.eq_iff_iff, List.all_eq_true, beq_iff_eq]
  constructor
  · intro h
    apply List.ext_getElem?
    intro i
    by_cases hi : i < n
    · simpa using h i (List.mem_range.2 hi)
    · rw [List.getElem?_eq_none (by omega), List.getElem?_eq_none (by omega)]
  · rintro rfl i _
    simp
theorem eq_arr (l l2 : List UInt8) (h1 : l.length = 16) (h2 : l2.length = 16) (w : World) : (Op.equalIn 10000 52 (.agg (l.map bv).toArray) (.agg (l2.map bv).toArray)).run Try.prog w = .ok (l == l2) w := by
  obtain ⟨i0, hi, hz0, hz1, hz2⟩ := info_parts Try.info5
  have e := run_equalIn_array w 9999 (l.map bv).toArray (l2.map bv).toArray Try.underlying52 hi
  rw [cells5] at e
  refine e.trans ((items_any l l2 w _ (fun i hi => ?_)).trans ?_)
  · have : i < 16 := by simpa using hi
    omega
  · rw [← eq_all l l2 16 h1 h2]
theorem arr_isBB {w : World} {g t : Nat} {l : List UInt8} (h : w.heap[g]? = some (.cells (l.map bv).toArray t (0, 0))) (n : Nat) (hl : l.length = n) (hn : n ≤ 1000000) : IsBB w w.heap.size (some ⟨g, 0, none⟩) n n l := by
  refine ⟨⟨hl, Nat.le_refl _, by unfold maxLen; omega, by omega, fun _ => ⟨_, rfl, fun j hj => ?_⟩⟩, fun _ ad e => ?_⟩
  · rw [Addr.add_lit, Nat.zero_add, row_cell h j, List.getElem?_toArray, map_bv_getElem? l j hj]
  · cases e
    rcases Nat.lt_or_ge g w.heap.size with hlt | hge
    · exact hlt
    · rw [Array.getElem?_eq_none hge] at h; cases h
end Go.Proofs.Ytlgabihjfjlhkaa
