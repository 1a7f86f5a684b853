/-
  What a call leaves as it was; bytes that lie outside of some blocks; append to a list that lies in a struct's field.
-/
import Derived.Test.YtbgbacajgaeooaaApp
import Derived.BigRegion
import Derived.BigQuiet
import Derived.Deep.RegionLaw
namespace Go.Proofs.Ytbgbacajgaeooaa
open Go.RowKit

/-- All but the blocks of S stays. -/
structure But (S : Nat → Prop) (w w' : World) : Prop where
  os : w'.os = w.os
  tape : w'.tape = w.tape
  output : w'.output = w.output
  size : w.heap.size ≤ w'.heap.size
  block : ∀ i, i < w.heap.size → ¬ S i → w'.heap[i]? = w.heap[i]?
theorem But.refl (S : Nat → Prop) (w : World) : But S w w := ⟨rfl, rfl, rfl, Nat.le_refl _, fun _ _ _ => rfl⟩
theorem But.trans {S S' : Nat → Prop} {a b c : World} (h : But S a b) (k : But S' b c) (hs : ∀ i, S' i → S i ∨ a.heap.size ≤ i) : But S a c :=
  ⟨k.os.trans h.os, k.tape.trans h.tape, k.output.trans h.output, Nat.le_trans h.size k.size, fun i hi hn => (k.block i (Nat.lt_of_lt_of_le hi h.size) (fun e => by rcases hs i e with h1 | h1; exact hn h1; omega)).trans (h.block i hi hn)⟩
theorem But.mono {S S' : Nat → Prop} {a b : World} (h : But S a b) (hs : ∀ i, S i → S' i ∨ a.heap.size ≤ i) : But S' a b :=
  ⟨h.os, h.tape, h.output, h.size, fun i hi hn => h.block i hi (fun e => by rcases hs i e with h1 | h1; exact hn h1; omega)⟩
theorem But.of_below {S : Nat → Prop} {a b : World} (h : Below a.heap.size a b) : But S a b := ⟨h.os, h.tape, h.output, h.size, fun i hi _ => h.block i hi⟩
theorem But.below {S : Nat → Prop} {B : Nat} {a b : World} (h : But S a b) (hs : ∀ i, S i → B ≤ i) (hB : B ≤ a.heap.size) : Below B a b :=
  ⟨h.os, h.tape, h.output, h.size, fun i hi => h.block i (by omega) (fun e => by have := hs i e; omega)⟩
theorem But.drew {S : Nat → Prop} {a b : World} (h : But S a b) : But S a b.drew := ⟨h.os, h.tape, h.output, h.size, h.block⟩
theorem But.drewN {S : Nat → Prop} {a b : World} (h : But S a b) (n : Nat) : But S a (b.drewN n) := ⟨h.os, h.tape, h.output, h.size, h.block⟩
theorem But.set {S : Nat → Prop} {a b : World} (h : But S a b) (p : Addr) (u : Value) (hp : S p.block ∨ a.heap.size ≤ p.block) : But S a (b.setCell p u) :=
  ⟨h.os, h.tape, h.output, by rw [World.size_setCell]; exact h.size, fun i hi hn => (Below.heap_setCell b p u i (fun e => by subst e; rcases hp with h1 | h1; exact hn h1; omega)).trans (h.block i hi hn)⟩
theorem But.alloc {S : Nat → Prop} {a b : World} (h : But S a b) (o : Obj) : But S a (b.alloc o) :=
  h.trans (S' := S) (But.of_below ((Below.refl _ b).alloc (Nat.le_refl _) o)) (fun _i e => .inl e)
theorem But.grown {S : Nat → Prop} {a b c : World} {row : Option Nat} (h : But S a b) (hg : b.grownBy c row) (hr : ∀ k, row = some k → S k ∨ a.heap.size ≤ k) : But S a c :=
  ⟨hg.os.trans h.os, hg.tape.trans h.tape, hg.output.trans h.output, Nat.le_trans h.size hg.size, fun i hi hn => (hg.block i (Nat.lt_of_lt_of_le hi h.size) (fun e => by rcases hr i e.symm with h1 | h1; exact hn h1; omega)).trans (h.block i hi hn)⟩
theorem But.cell {S : Nat → Prop} {a b : World} (h : But S a b) {p : Addr} {v : Value} (hc : a.cell? p = some v) (hn : ¬ S p.block) : b.cell? p = some v :=
  (World.cell?_of_block (h.block p.block (lt_of_cell hc) hn)).trans hc
/-- The blocks of S may have turned; those of S' are of S, or new. -/
structure Stp (S S' : Nat → Prop) (w w' : World) : Prop where
  but : But S w w'
  new : ∀ i, S' i → S i ∨ w.heap.size ≤ i
theorem Stp.refl (S : Nat → Prop) (w : World) : Stp S S w w := ⟨But.refl S w, fun _ h => .inl h⟩
theorem Stp.trans {S S' S'' : Nat → Prop} {a b c : World} (h : Stp S S' a b) (k : Stp S' S'' b c) : Stp S S'' a c :=
  ⟨h.but.trans k.but h.new, fun i hi => by
    rcases k.new i hi with h1 | h1
    · exact h.new i h1
    · exact .inr (Nat.le_trans h.but.size h1)⟩
theorem Stp.of_but {S : Nat → Prop} {w w' : World} (h : But S w w') : Stp S S w w' := ⟨h, fun _ h => .inl h⟩
theorem Stp.of_below {S : Nat → Prop} {w w' : World} (h : Below w.heap.size w w') : Stp S S w w' := .of_but (.of_below h)
theorem ownsRow_but {S : Nat → Prop} {w w' : World} {base e s n : Nat} {v : Value} {xs : List Value} (h : w.ownsRow base e s v n xs) (hb : But S w w') (hn : ∀ k, v.ownBlock = some k → ¬ S k) : w'.ownsRow base e s v n xs := by
  obtain ⟨h1, h2⟩ := h
  refine ⟨h1, ?_⟩
  rcases h2 with h2 | ⟨g, cap, cur, rfl, hg, hh, r⟩
  · exact .inl h2
  · exact .inr ⟨g, cap, cur, rfl, hg, (hb.block g (lt_of_heap hh) (hn g rfl)).trans hh, r⟩
/-- Bytes that lie outside of S. -/
structure Out (S : Nat → Prop) (w : World) (A : Option Addr) (n c : Nat) (l : List UInt8) : Prop extends IsB w A n c l where
  ap : 0 < l.length → ∀ ad, A = some ad → ¬ S ad.block ∧ ad.block < w.heap.size
theorem Out.stp {S S' : Nat → Prop} {w w' : World} {A : Option Addr} {n c : Nat} {l : List UInt8} (h : Out S w A n c l) (s : Stp S S' w w') : Out S' w' A n c l := by
  refine ⟨⟨h.len, h.cap, h.max, h.small, fun hp => ?_⟩, fun hp ad e => ?_⟩
  · obtain ⟨ad, e, hc⟩ := h.lies hp
    obtain ⟨h1, h2⟩ := h.ap hp ad e
    exact ⟨ad, e, fun j hj => (World.cell?_of_block (by rw [block_of_add]; exact s.but.block _ h2 h1)).trans (hc j hj)⟩
  · obtain ⟨h1, h2⟩ := h.ap hp ad e
    exact ⟨fun e => by rcases s.new _ e with h3 | h3; exact h1 h3; omega, Nat.lt_of_lt_of_le h2 s.but.size⟩
theorem Out.isBB {S : Nat → Prop} {w : World} {A : Option Addr} {n c : Nat} {l : List UInt8} (h : Out S w A n c l) : IsBB w w.heap.size A n c l := ⟨h.toIsB, fun hp ad e => (h.ap hp ad e).2⟩
theorem IsBB.out {S : Nat → Prop} {w : World} {B : Nat} {A : Option Addr} {n c : Nat} {l : List UInt8} (h : IsBB w B A n c l) (hS : ∀ i, S i → B ≤ i) : Out S w A n c l := by
  refine ⟨h.toIsB, fun hp ad e => ⟨fun hs => by have := hS _ hs; have := h.low hp ad e; omega, ?_⟩⟩
  obtain ⟨ad', e', hc⟩ := h.lies hp
  rw [e] at e'
  cases e'
  have := lt_of_cell (hc 0 hp)
  rwa [block_of_add] at this
theorem IsBB.out_new {S : Nat → Prop} {w w' : World} {A : Option Addr} {n c : Nat} {l : List UInt8} (h : IsBB w' w'.heap.size A n c l) (hA : 0 < l.length → ∀ ad, A = some ad → w.heap.size ≤ ad.block) (hS : ∀ i, S i → i < w.heap.size) : Out S w' A n c l :=
  ⟨h.toIsB, fun hp ad e => ⟨fun hs => by have := hS _ hs; have := hA hp ad e; omega, h.low hp ad e⟩⟩
theorem New.out {S : Nat → Prop} {w w' : World} {g n c : Nat} {l : List UInt8} (h : New w w' g n c l) (hS : ∀ i, S i → i < w.heap.size) : Out S w' (some ⟨g, 0, none⟩) n c l :=
  h.isBB.out_new (fun _ ad e => by cases e; exact h.row.1) hS
theorem Out.drew {S : Nat → Prop} {w : World} {A : Option Addr} {n c : Nat} {l : List UInt8} (h : Out S w A n c l) : Out S w.drew A n c l := ⟨⟨h.len, h.cap, h.max, h.small, h.lies⟩, h.ap⟩

theorem own_lt {w : World} {base e s n : Nat} {v : Value} {xs : List Value} (h : w.ownsRow base e s v n xs) : ∀ k, v.ownBlock = some k → base ≤ k ∧ k < w.heap.size := h.lt
theorem own_gne {w : World} {base n g : Nat} {v : Value} {xs : List Value} {cs : Array Value} {t : TypeId} {fz : Nat × Nat} (h : w.ownsRow base 5 1 v n xs) (hg : w.heap[g]? = some (.cells cs t fz)) (ht : t ≠ 5) : ∀ k, v.ownBlock = some k → k ≠ g := by
  intro k hk e
  subst e
  rcases h.2 with ⟨rfl, _⟩ | ⟨g', cap, cur, rfl, _, hh, _⟩
  · cases hk
  · cases hk
    rw [hg] at hh
    injection hh with hh
    injection hh with _ h5
    exact ht h5
/-- What an append to v has done. -/
structure Apd (w w' : World) (v v' : Value) (n : Nat) (xs : List Value) : Prop where
  own : w'.ownsRow 0 5 1 v' n xs
  grown : w.grownBy w' v.ownBlock
  keeps : Keeps w w' v v'
  fresh : v'.ownBlock = v.ownBlock ∨ ∃ k, v'.ownBlock = some k ∧ w.heap.size ≤ k
theorem run_append_some {w : World} {ty : TypeId} {v : Value} {n : Nat} {l : List UInt8} (hown : w.ownsRow 0 5 1 v n (l.map bv))
    (A : Option Addr) (m c : Nat) (l2 : List UInt8) (hB : IsB w A m c l2) (h48 : n + m ≤ 140737488355328) :
    ∃ v' w', (Builtin.append_ #[30, 30] ty #[v, .slice A m c]).run Try.prog w = .ok v' w' ∧ Apd w w' v v' (n + m) ((l ++ l2).map bv) := by
  rcases A with _ | ad
  · have hm : m = 0 := by
      rcases Nat.eq_zero_or_pos m with h0 | h0
      · exact h0
      · obtain ⟨ad, e, _⟩ := hB.lies (by rw [hB.len]; exact h0)
        cases e
    subst hm
    obtain rfl : l2 = [] := List.eq_nil_of_length_eq_zero hB.len
    refine ⟨v, w, run_append_nilc c hown, ⟨by simpa using hown, World.grownBy.refl w _, fun _ _ _ _ hu ha => ⟨hu, ha⟩, .inl rfl⟩⟩
  · have hc : ∀ j u, (l2.map bv)[j]? = some u → w.cell? (ad.add j) = some u := by
      intro j u hu
      have hj : j < l2.length := by have e := (List.getElem?_eq_some_iff.1 hu).1; simpa using e
      obtain ⟨ad', e, hc⟩ := hB.lies (by omega)
      cases e
      rw [map_bv_getElem? l2 j hj] at hu
      cases hu
      exact hc j hj
    obtain ⟨v', w', hr, h2, h3, h4, h5⟩ := run_append_fresh (ty := ty) hown ad m c (l2.map bv) (by rw [List.length_map, hB.len]) hc (bv_one l2) h48 (Nat.zero_le _)
    exact ⟨v', w', hr, ⟨by rw [List.map_append]; exact h2, h3, h4, h5⟩⟩
theorem step_append_dk {ops : Array Oper} {o : Oper} {a : Act} {K : Act → World → Prop} {Q : Exit → Act → World → Prop} {E : Prop} (hgd : o.guard = none) (s x : Operand)
    (ho : o.op = .call { callee := .builtin .append, args := #[s, x], argTypes := #[30, 30] }) (w : World) (v : Value) (n : Nat) (l : List UInt8) (hs : a.eval s = v) (hown : w.ownsRow 0 5 1 v n (l.map bv))
    (A : Option Addr) (m c : Nat) (l2 : List UInt8) (hx : a.eval x = .slice A m c) (hB : IsB w A m c l2) (h48 : n + m ≤ 140737488355328)
    (hK : ∀ A' c' w', Hid (Apd w w' v (.slice A' (n + m) c') (n + m) ((l ++ l2).map bv)) → K (a.put o.dst (.slice A' (n + m) c')) w') :
    if Region.wanted o (yielded ops a.tmps) = true then Oper.wp Try.prog o a w K Q else E := by
  have hw : Region.wanted o (yielded ops a.tmps) = true := by simp [Region.wanted, hgd]
  rw [if_pos hw]
  obtain ⟨v', w', hr, ha⟩ := run_append_some (ty := o.type) hown A m c l2 hB h48
  obtain ⟨A', c', rfl⟩ : ∃ A' c', v' = .slice A' (n + m) c' := by
    rcases ha.own.2 with ⟨rfl, h0⟩ | ⟨g, cap, cur, rfl, _⟩
    · exact ⟨_, _, by rw [h0]⟩
    · exact ⟨_, _, rfl⟩
  unfold Oper.wp execOp
  simp only [ho, resolve, invoke, builtin, Sem.run_bind, Sem.run_pure, Result.andThen_ok, List.map_toArray, List.map_cons, List.map_nil, hs, hx, hr]
  exact hK _ _ _ ha
end Go.Proofs.Ytbgbacajgaeooaa
