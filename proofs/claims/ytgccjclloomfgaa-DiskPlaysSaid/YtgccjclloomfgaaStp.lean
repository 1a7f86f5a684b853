/-
  append on a disk's file, as a step of a drawn region; the disk behind it.
-/
import Derived.Test.YtgccjclloomfgaaDsk
import Derived.Deep.RegionLaw
namespace Go.Proofs.Ytgccjclloomfgaa
open Go.RowKit

/-- What an append to v has done. -/
structure Apd (w w' : World) (v v' : Value) (n : Nat) (xs : List Value) : Prop where
  own : w'.ownsRow 0 5 1 v' n xs
  grown : w.grownBy w' v.ownBlock
  keeps : Keeps w w' v v'
  fresh : v'.ownBlock = v.ownBlock ∨ ∃ k, v'.ownBlock = some k ∧ w.heap.size ≤ k
theorem run_append_some {w : World} {ty : TypeId} {v : Value} {n : Nat} {l : List UInt8} (hown : w.ownsRow 0 5 1 v n (l.map bv))
    (A : Option Addr) (m c : Nat) (l2 : List UInt8) (hB : IsB w A m c l2) (h48 : n + m ≤ 140737488355328) :
    ∃ v' w', (Builtin.append_ #[27, 27] ty #[v, .slice A m c]).run Try.prog w = .ok v' w' ∧ Apd w w' v v' (n + m) ((l ++ l2).map bv) := by
  rcases A with _ | ad
  · have hm : m = 0 := by
      rcases Nat.eq_zero_or_pos m with h0 | h0
      · exact h0
      · obtain ⟨ad, e, _⟩ := hB.lies (by rw [hB.len]; exact h0)
        cases e
    subst hm
    obtain rfl : l2 = [] := List.eq_nil_of_length_eq_zero hB.len
    refine ⟨v, w, run_append_nilc c hown, ⟨by simpa using hown, World.grownBy.refl w _, fun _ _ _ _ hu ha => ⟨hu, ha⟩, .inl rfl⟩⟩
  · have hc : ∀ j u, (l2.map bv)[j]? = some u → w.cell? (ad.add j) = some u := by
      intro j u hu
      have hj : j < l2.length := by have e := (List.getElem?_eq_some_iff.1 hu).1; simpa using e
      obtain ⟨ad', e, hc⟩ := hB.lies (by omega)
      cases e
      rw [map_bv_getElem? l2 j hj] at hu
      cases hu
      exact hc j hj
    obtain ⟨v', w', hr, h2, h3, h4, h5⟩ := run_append_fresh (ty := ty) hown ad m c (l2.map bv) (by rw [List.length_map, hB.len]) hc (bv_one l2) h48 (Nat.zero_le _)
    exact ⟨v', w', hr, ⟨by rw [List.map_append]; exact h2, h3, h4, h5⟩⟩
theorem step_append_dk {ops : Array Oper} {o : Oper} {a : Act} {K : Act → World → Prop} {Q : Exit → Act → World → Prop} {E : Prop} (hgd : o.guard = none) (s x : Operand)
    (ho : o.op = .call { callee := .builtin .append, args := #[s, x], argTypes := #[27, 27] }) (w : World) (v : Value) (n : Nat) (l : List UInt8) (hs : a.eval s = v) (hown : w.ownsRow 0 5 1 v n (l.map bv))
    (A : Option Addr) (m c : Nat) (l2 : List UInt8) (hx : a.eval x = .slice A m c) (hB : IsB w A m c l2) (h48 : n + m ≤ 140737488355328)
    (hK : ∀ A' c' w', Hid (Apd w w' v (.slice A' (n + m) c') (n + m) ((l ++ l2).map bv)) → K (a.put o.dst (.slice A' (n + m) c')) w') :
    if Region.wanted o (yielded ops a.tmps) = true then Oper.wp Try.prog o a w K Q else E := by
  have hw : Region.wanted o (yielded ops a.tmps) = true := by simp [Region.wanted, hgd]
  rw [if_pos hw]
  obtain ⟨v', w', hr, ha⟩ := run_append_some (ty := o.type) hown A m c l2 hB h48
  obtain ⟨A', c', rfl⟩ : ∃ A' c', v' = .slice A' (n + m) c' := by
    rcases ha.own.2 with ⟨rfl, h0⟩ | ⟨g, cap, cur, rfl, _⟩
    · exact ⟨_, _, by rw [h0]⟩
    · exact ⟨_, _, rfl⟩
  unfold Oper.wp execOp
  simp only [ho, resolve, invoke, builtin, Sem.run_bind, Sem.run_pure, Result.andThen_ok, List.map_toArray, List.map_cons, List.map_nil, hs, hx, hr]
  exact hK _ _ _ ha
/-- The disk when its file is turned to F' in field 2. -/
theorem DkAt.appd {B : Nat} {S : Nat → Prop} {w w2 : World} {g : Nat} {F L F' : Value} {d : Dk} {e : Int} {l : List UInt8} (h : DkAt B S w g F L d e) (hl : d.now.length + l.length ≤ d.most) (ha : Apd w w2 F F' (d.now.length + l.length) ((d.now ++ l).map bv)) :
    DkAt B (fun i => S i ∨ F'.ownBlock = some i) (w2.setCell ⟨g, 2, none⟩ F') g F' L { d with now := d.now ++ l } e ∧ Stp S (fun i => S i ∨ F'.ownBlock = some i) w (w2.setCell ⟨g, 2, none⟩ F') := by
  have hF := own_gne h.ff h.row (by decide)
  have hgF : some g ≠ F.ownBlock := fun e => hF g e.symm rfl
  have hrow : w2.heap[g]? = some (.cells (dcells g F L d e) 61 (0, 0)) := (ha.grown.block g (lt_of_heap h.row) hgF).trans h.row
  have hF2 := own_gne ha.own hrow (by decide)
  obtain ⟨hL, hap⟩ := ha.keeps 0 L _ _ h.ll h.ap
  have hL2 := own_gne hL hrow (by decide)
  have bg : But (· = g) w2 (w2.setCell ⟨g, 2, none⟩ F') := (But.refl (· = g) w2).set _ _ (.inl rfl)
  have b2 : But S w w2 := (But.refl S w).grown ha.grown (fun k hk => .inl (h.sf k hk))
  refine ⟨⟨?_, ?_, ownsRow_but hL bg hL2, hap, .inl h.sg, fun k hk => .inr hk, fun k hk => .inl (h.sl k hk), ?_, ?_, h.er, h.ae, h.fe⟩, b2.set _ _ (.inl h.sg), ?_⟩
  · rw [row_set hrow 2]; rfl
  · rw [List.length_append]; exact ownsRow_but ha.own bg hF2
  · intro i hi
    rw [World.size_setCell]
    rcases hi with hi | hi
    · exact ⟨(h.lt i hi).1, Nat.lt_of_lt_of_le (h.lt i hi).2 ha.grown.size⟩
    · refine ⟨?_, (own_lt ha.own i hi).2⟩
      rcases ha.fresh with h1 | ⟨k, h1, h2⟩
      · exact (h.lt i (h.sf i (h1 ▸ hi))).1
      · rw [h1] at hi
        cases hi
        have := (h.lt g h.sg)
        omega
  · refine ⟨?_, h.ok.fo, ?_, ?_, h.ok.mo, h.ok.m4, h.ok.fa⟩
    · show d.floor ≤ (d.now ++ l).length
      rw [List.length_append]; have := h.ok.fn; omega
    · show (d.now ++ l).take d.floor = d.old.take d.floor
      rw [List.take_append_of_le_length h.ok.fn]; exact h.ok.same
    · show (d.now ++ l).length ≤ d.most
      rw [List.length_append]; exact hl
  · intro i hi
    rcases hi with hi | hi
    · exact .inl hi
    · rcases ha.fresh with h1 | ⟨k, h1, h2⟩
      · exact .inl (h.sf i (h1 ▸ hi))
      · rw [h1] at hi
        cases hi
        exact .inr h2
end Go.Proofs.Ytgccjclloomfgaa
