/-
  An array of bytes as an argument: taken apart, and read again in any world.
-/
import Derived.Test.YtpeepohiajmhcaaZa
import Derived.OpenShut
import Derived.WideShapes
namespace Go.Proofs.Ytpeepohiajmhcaa
open Go.RowKit

theorem okWide_array {P : Program} {w : World} {r : Reach} {base n : Nat} {t e : TypeId} {v : Value} (ht : P.underlying t = some (.array n e)) (h : Value.okWide P w r base t v) : ∃ cs, v = .agg cs ∧ cs.size = P.cellsOf t := by
  simp only [Value.okWide, ht] at h
  obtain ⟨cs, h1, h2, _⟩ := h
  exact ⟨cs, h1, h2⟩
theorem trod_u8_any {H : Type} {enc : TypeId × Value → H} {P : Program} {e : TypeId} (he : P.underlying e = some (.int .u8)) (m : Nat) (cs : List Value) (w w' : World) (b b' : Nat) (s s' : Nat → Bool) (h h' : Bool) :
    DataW.trod enc P w b s h m e cs = DataW.trod enc P w' b' s' h' m e cs := by
  cases m with
  | zero => rfl
  | succ m =>
    unfold DataW.trod
    rw [he]
    rcases cs with _ | ⟨c, _ | ⟨c2, r⟩⟩
    · rfl
    · cases c <;> rfl
    · cases c <;> rfl
theorem open_bytes {H : Type} {enc : TypeId × Value → H} {P : Program} {w : World} {base0 base n : Nat} {sp : Nat → Bool} {hd : Bool} {r : Reach} {t e : TypeId} {v : Value} {d : DataW H} {p : List MemPlace}
    (ht : P.underlying t = some (.array n e)) (he : P.underlying e = some (.int .u8)) (hce : P.cellsOf e = 1) (hct : P.cellsOf t = n) (hv : Value.okWide P w r base0 t v) (h : DataW.Trod enc P w base sp hd t v d p) :
    ∃ l : List UInt8, l.length = n ∧ v = .agg (l.map bv).toArray ∧ p = [] ∧ ∀ (w' : World) (b' : Nat) (s' : Nat → Bool) (h' : Bool), DataW.Trod enc P w' b' s' h' t v d [] := by
  obtain ⟨cs, rfl, hsz⟩ := okWide_array ht hv
  obtain ⟨fuel, hf⟩ := h
  obtain ⟨xs, m, rfl, hx, hl, hlen, hg⟩ := DataW.trod_array ht hf
  have hcs : (Value.agg cs).cells.toList = cs.toList := rfl
  rw [hcs] at hg hl hf
  have hel : ∀ i, i < n → ∃ (x : Int), cs.toList[i]? = some (.int .u8 x) ∧ 0 ≤ x ∧ x ≤ 255 ∧ xs[i]? = some (.lit (.int .u8 x), []) := by
    intro i hi
    have hi2 := hg i hi
    rw [hce, Nat.mul_one] at hi2
    have hil : i < cs.toList.length := by rw [Array.length_toList]; omega
    rw [List.drop_eq_getElem_cons hil, List.take_succ_cons, List.take_zero] at hi2
    have hxi : xs[i]? = some (xs[i]'(by omega)) := List.getElem?_eq_getElem (by omega)
    rw [hxi] at hi2
    obtain ⟨x, e0, e1, wx⟩ := DataW.trod_int he hi2
    have hb := wf_u8 wx
    refine ⟨x, ?_, hb.1, hb.2, by rw [hxi, e1]⟩
    rw [List.getElem?_eq_getElem hil]
    simpa using e0
  have hp : p = [] := by
    have e : p = xs.flatMap (·.2) := by simpa using congrArg Prod.snd hx
    rw [e, List.flatMap_eq_nil_iff]
    intro y hy
    obtain ⟨i, hi, rfl⟩ := List.getElem_of_mem hy
    obtain ⟨x, _, _, _, h4⟩ := hel i (by omega)
    rw [List.getElem?_eq_getElem hi] at h4
    have := Option.some.inj h4
    rw [this]
  refine ⟨cs.toList.map (fun v => match v with | .int _ x => UInt8.ofNat x.toNat | _ => 0), by simp; omega, ?_, hp, ?_⟩
  · congr 1
    apply Array.ext'
    simp only [List.map_map]
    apply List.ext_getElem?
    intro i
    by_cases hi : i < n
    · obtain ⟨x, h1, h2, h3, _⟩ := hel i hi
      rw [List.getElem?_map, h1]
      simp [bv]
      omega
    · rw [List.getElem?_eq_none (by rw [Array.length_toList]; omega), List.getElem?_eq_none (by rw [List.length_map, Array.length_toList]; omega)]
  · intro w' b' s' h'
    refine ⟨m + 1, ?_⟩
    rw [hcs]
    have e2 : DataW.trod enc P w' b' s' h' (m + 1) t cs.toList = DataW.trod enc P w base sp hd (m + 1) t cs.toList := by
      unfold DataW.trod
      simp only [ht]
      have e3 : (fun i => DataW.trod enc P w' b' s' h' m e ((cs.toList.drop (i * P.cellsOf e)).take (P.cellsOf e))) = (fun i => DataW.trod enc P w base sp hd m e ((cs.toList.drop (i * P.cellsOf e)).take (P.cellsOf e))) := by
        funext i
        exact trod_u8_any he m _ _ _ _ _ _ _ _ _
      rw [e3]
    rw [e2, hf, hp]
end Go.Proofs.Ytpeepohiajmhcaa
