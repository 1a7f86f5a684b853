/-
  A disk in memory: the block of its struct, its file, what its old file has from the floor on; what a call keeps of all else.
-/
import Derived.Test.YtgccjclloomfgaaApp
import Derived.Test.YtgccjclloomfgaaDk
import Derived.BigRegion
namespace Go.Proofs.Ytgccjclloomfgaa
open Go.RowKit

/-- All but the blocks of S stays. -/
structure But (S : Nat → Prop) (w w' : World) : Prop where
  os : w'.os = w.os
  tape : w'.tape = w.tape
  output : w'.output = w.output
  size : w.heap.size ≤ w'.heap.size
  block : ∀ i, i < w.heap.size → ¬ S i → w'.heap[i]? = w.heap[i]?
theorem But.refl (S : Nat → Prop) (w : World) : But S w w := ⟨rfl, rfl, rfl, Nat.le_refl _, fun _ _ _ => rfl⟩
theorem But.trans {S S' : Nat → Prop} {a b c : World} (h : But S a b) (k : But S' b c) (hs : ∀ i, S' i → S i ∨ a.heap.size ≤ i) : But S a c :=
  ⟨k.os.trans h.os, k.tape.trans h.tape, k.output.trans h.output, Nat.le_trans h.size k.size, fun i hi hn => (k.block i (Nat.lt_of_lt_of_le hi h.size) (fun e => by rcases hs i e with h1 | h1; exact hn h1; omega)).trans (h.block i hi hn)⟩
theorem But.mono {S S' : Nat → Prop} {a b : World} (h : But S a b) (hs : ∀ i, S i → S' i ∨ a.heap.size ≤ i) : But S' a b :=
  ⟨h.os, h.tape, h.output, h.size, fun i hi hn => h.block i hi (fun e => by rcases hs i e with h1 | h1; exact hn h1; omega)⟩
theorem But.of_below {S : Nat → Prop} {a b : World} (h : Below a.heap.size a b) : But S a b := ⟨h.os, h.tape, h.output, h.size, fun i hi _ => h.block i hi⟩
theorem But.below {S : Nat → Prop} {B : Nat} {a b : World} (h : But S a b) (hs : ∀ i, S i → B ≤ i) (hB : B ≤ a.heap.size) : Below B a b :=
  ⟨h.os, h.tape, h.output, h.size, fun i hi => h.block i (by omega) (fun e => by have := hs i e; omega)⟩
theorem But.drew {S : Nat → Prop} {a b : World} (h : But S a b) : But S a b.drew := ⟨h.os, h.tape, h.output, h.size, h.block⟩
theorem But.drewN {S : Nat → Prop} {a b : World} (h : But S a b) (n : Nat) : But S a (b.drewN n) := ⟨h.os, h.tape, h.output, h.size, h.block⟩
theorem But.set {S : Nat → Prop} {a b : World} (h : But S a b) (p : Addr) (u : Value) (hp : S p.block ∨ a.heap.size ≤ p.block) : But S a (b.setCell p u) :=
  ⟨h.os, h.tape, h.output, by rw [World.size_setCell]; exact h.size, fun i hi hn => (Below.heap_setCell b p u i (fun e => by subst e; rcases hp with h1 | h1; exact hn h1; omega)).trans (h.block i hi hn)⟩
theorem But.alloc {S : Nat → Prop} {a b : World} (h : But S a b) (o : Obj) : But S a (b.alloc o) :=
  h.trans (S' := S) (But.of_below ((Below.refl _ b).alloc (Nat.le_refl _) o)) (fun i e => .inl e)
theorem But.grown {S : Nat → Prop} {a b c : World} {row : Option Nat} (h : But S a b) (hg : b.grownBy c row) (hr : ∀ k, row = some k → S k ∨ a.heap.size ≤ k) : But S a c :=
  ⟨hg.os.trans h.os, hg.tape.trans h.tape, hg.output.trans h.output, Nat.le_trans h.size hg.size, fun i hi hn => (hg.block i (Nat.lt_of_lt_of_le hi h.size) (fun e => by rcases hr i e.symm with h1 | h1; exact hn h1; omega)).trans (h.block i hi hn)⟩
theorem But.cell {S : Nat → Prop} {a b : World} (h : But S a b) {p : Addr} {v : Value} (hc : a.cell? p = some v) (hn : ¬ S p.block) : b.cell? p = some v :=
  (World.cell?_of_block (h.block p.block (lt_of_cell hc) hn)).trans hc
/-- The blocks of S may have turned; those of S' are of S, or new. -/
structure Stp (S S' : Nat → Prop) (w w' : World) : Prop where
  but : But S w w'
  new : ∀ i, S' i → S i ∨ w.heap.size ≤ i
theorem Stp.refl (S : Nat → Prop) (w : World) : Stp S S w w := ⟨But.refl S w, fun _ h => .inl h⟩
theorem Stp.trans {S S' S'' : Nat → Prop} {a b c : World} (h : Stp S S' a b) (k : Stp S' S'' b c) : Stp S S'' a c :=
  ⟨h.but.trans k.but h.new, fun i hi => by
    rcases k.new i hi with h1 | h1
    · exact h.new i h1
    · exact .inr (Nat.le_trans h.but.size h1)⟩
theorem Stp.of_but {S : Nat → Prop} {w w' : World} (h : But S w w') : Stp S S w w' := ⟨h, fun _ h => .inl h⟩
theorem Stp.of_below {S : Nat → Prop} {w w' : World} (h : Below w.heap.size w w') : Stp S S w w' := .of_but (.of_below h)
theorem ownsRow_but {S : Nat → Prop} {w w' : World} {base e s n : Nat} {v : Value} {xs : List Value} (h : w.ownsRow base e s v n xs) (hb : But S w w') (hn : ∀ k, v.ownBlock = some k → ¬ S k) : w'.ownsRow base e s v n xs := by
  obtain ⟨h1, h2⟩ := h
  refine ⟨h1, ?_⟩
  rcases h2 with h2 | ⟨g, cap, cur, rfl, hg, hh, r⟩
  · exact .inl h2
  · exact .inr ⟨g, cap, cur, rfl, hg, (hb.block g (lt_of_heap hh) (hn g rfl)).trans hh, r⟩
/-- Bytes that lie outside of S. -/
structure Out (S : Nat → Prop) (w : World) (A : Option Addr) (n c : Nat) (l : List UInt8) : Prop extends IsB w A n c l where
  ap : 0 < l.length → ∀ ad, A = some ad → ¬ S ad.block ∧ ad.block < w.heap.size
theorem Out.stp {S S' : Nat → Prop} {w w' : World} {A : Option Addr} {n c : Nat} {l : List UInt8} (h : Out S w A n c l) (s : Stp S S' w w') : Out S' w' A n c l := by
  refine ⟨⟨h.len, h.cap, h.max, h.small, fun hp => ?_⟩, fun hp ad e => ?_⟩
  · obtain ⟨ad, e, hc⟩ := h.lies hp
    obtain ⟨h1, h2⟩ := h.ap hp ad e
    exact ⟨ad, e, fun j hj => (World.cell?_of_block (by rw [block_of_add]; exact s.but.block _ h2 h1)).trans (hc j hj)⟩
  · obtain ⟨h1, h2⟩ := h.ap hp ad e
    exact ⟨fun e => by rcases s.new _ e with h3 | h3; exact h1 h3; omega, Nat.lt_of_lt_of_le h2 s.but.size⟩
theorem Out.isBB {S : Nat → Prop} {w : World} {A : Option Addr} {n c : Nat} {l : List UInt8} (h : Out S w A n c l) : IsBB w w.heap.size A n c l := ⟨h.toIsB, fun hp ad e => (h.ap hp ad e).2⟩
theorem IsBB.out {S : Nat → Prop} {w : World} {B : Nat} {A : Option Addr} {n c : Nat} {l : List UInt8} (h : IsBB w B A n c l) (hS : ∀ i, S i → B ≤ i) : Out S w A n c l := by
  refine ⟨h.toIsB, fun hp ad e => ⟨fun hs => by have := hS _ hs; have := h.low hp ad e; omega, ?_⟩⟩
  obtain ⟨ad', e', hc⟩ := h.lies hp
  rw [e] at e'
  cases e'
  have := lt_of_cell (hc 0 hp)
  rwa [block_of_add] at this
theorem IsBB.out_new {S : Nat → Prop} {w w' : World} {A : Option Addr} {n c : Nat} {l : List UInt8} (h : IsBB w' w'.heap.size A n c l) (hA : 0 < l.length → ∀ ad, A = some ad → w.heap.size ≤ ad.block) (hS : ∀ i, S i → i < w.heap.size) : Out S w' A n c l :=
  ⟨h.toIsB, fun hp ad e => ⟨fun hs => by have := hS _ hs; have := hA hp ad e; omega, h.low hp ad e⟩⟩
theorem New.out {S : Nat → Prop} {w w' : World} {g n c : Nat} {l : List UInt8} (h : New w w' g n c l) (hS : ∀ i, S i → i < w.heap.size) : Out S w' (some ⟨g, 0, none⟩) n c l :=
  h.isBB.out_new (fun _ ad e => by cases e; exact h.row.1) hS
theorem Out.drew {S : Nat → Prop} {w : World} {A : Option Addr} {n c : Nat} {l : List UInt8} (h : Out S w A n c l) : Out S w.drew A n c l := ⟨⟨h.len, h.cap, h.max, h.small, h.lies⟩, h.ap⟩

theorem own_lt {w : World} {base e s n : Nat} {v : Value} {xs : List Value} (h : w.ownsRow base e s v n xs) : ∀ k, v.ownBlock = some k → base ≤ k ∧ k < w.heap.size := h.lt
/-- The cells of a disk's struct. -/
def dcells (g : Nat) (F L : Value) (d : Dk) (e : Int) : Array Value :=
  #[.pointer (some ⟨g, 0, none⟩), .int .i64 (d.most : Nat), F, .int .i64 (d.floor : Nat), L, .bool d.down, .int .i64 ((d.armed : Int) - 1), .int .i64 ((d.fails - 1 : Nat) : Int), .int .i64 e]
/-- The disk d lies in block g, its file in F, the old file's end in L; its blocks are of S, from B on. -/
structure DkAt (B : Nat) (S : Nat → Prop) (w : World) (g : Nat) (F L : Value) (d : Dk) (e : Int) : Prop where
  row : w.heap[g]? = some (.cells (dcells g F L d e) 61 (0, 0))
  ff : w.ownsRow 0 5 1 F d.now.length (d.now.map bv)
  ll : w.ownsRow 0 5 1 L (d.old.length - d.floor) ((d.old.drop d.floor).reverse.map bv)
  ap : Apart2 F L
  sg : S g
  sf : ∀ k, F.ownBlock = some k → S k
  sl : ∀ k, L.ownBlock = some k → S k
  lt : ∀ i, S i → B ≤ i ∧ i < w.heap.size
  ok : d.Ok
  er : d.fails ≠ 0 → e = (d.err : Nat) ∧ d.err ≠ 0
  ae : d.armed ≤ 9223372036854775808
  fe : d.fails ≤ 9223372036854775808
theorem own_gne {w : World} {base n g : Nat} {v : Value} {xs : List Value} {cs : Array Value} {t : TypeId} {fz : Nat × Nat} (h : w.ownsRow base 5 1 v n xs) (hg : w.heap[g]? = some (.cells cs t fz)) (ht : t ≠ 5) : ∀ k, v.ownBlock = some k → k ≠ g := by
  intro k hk e
  subst e
  rcases h.2 with ⟨rfl, _⟩ | ⟨g', cap, cur, rfl, _, hh, _⟩
  · cases hk
  · cases hk
    rw [hg] at hh
    injection hh with hh
    injection hh with _ h5
    exact ht h5
theorem DkAt.but {B : Nat} {S T : Nat → Prop} {w w' : World} {g : Nat} {F L : Value} {d : Dk} {e : Int} (h : DkAt B S w g F L d e) (b : But T w w') (hT : ∀ i, S i → ¬ T i) : DkAt B S w' g F L d e :=
  ⟨(b.block g (lt_of_heap h.row) (hT g h.sg)).trans h.row, ownsRow_but h.ff b (fun k hk => hT k (h.sf k hk)), ownsRow_but h.ll b (fun k hk => hT k (h.sl k hk)), h.ap, h.sg, h.sf, h.sl,
    fun i hi => ⟨(h.lt i hi).1, Nat.lt_of_lt_of_le (h.lt i hi).2 b.size⟩, h.ok, h.er, h.ae, h.fe⟩
theorem DkAt.below {B : Nat} {S : Nat → Prop} {w w' : World} {g : Nat} {F L : Value} {d : Dk} {e : Int} (h : DkAt B S w g F L d e) (b : Below w.heap.size w w') : DkAt B S w' g F L d e :=
  h.but (T := fun _ => False) (.of_below b) (fun _ _ h => h)
theorem DkAt.drew {B : Nat} {S : Nat → Prop} {w : World} {g : Nat} {F L : Value} {d : Dk} {e : Int} (h : DkAt B S w g F L d e) : DkAt B S w.drew g F L d e :=
  ⟨h.row, h.ff, h.ll, h.ap, h.sg, h.sf, h.sl, h.lt, h.ok, h.er, h.ae, h.fe⟩
theorem DkAt.drewN {B : Nat} {S : Nat → Prop} {w : World} {g : Nat} {F L : Value} {d : Dk} {e : Int} (h : DkAt B S w g F L d e) (n : Nat) : DkAt B S (w.drewN n) g F L d e :=
  ⟨h.row, h.ff, h.ll, h.ap, h.sg, h.sf, h.sl, h.lt, h.ok, h.er, h.ae, h.fe⟩
/-- The struct's block turned, its file and the old file's end not. -/
theorem DkAt.turn {B : Nat} {S : Nat → Prop} {w w' : World} {g : Nat} {F L : Value} {d d' : Dk} {e e' : Int} (h : DkAt B S w g F L d e) (b : But (· = g) w w')
    (hr : w'.heap[g]? = some (.cells (dcells g F L d' e') 61 (0, 0))) (e1 : d'.now = d.now) (e2 : d'.old = d.old) (e3 : d'.floor = d.floor) (ok : d'.Ok) (er : d'.fails ≠ 0 → e' = (d'.err : Nat) ∧ d'.err ≠ 0) (ae : d'.armed ≤ 9223372036854775808) (fe : d'.fails ≤ 9223372036854775808) : DkAt B S w' g F L d' e' := by
  have h1 := own_gne h.ff h.row (by decide)
  have h2 := own_gne h.ll h.row (by decide)
  refine ⟨hr, ?_, ?_, h.ap, h.sg, h.sf, h.sl, fun i hi => ⟨(h.lt i hi).1, Nat.lt_of_lt_of_le (h.lt i hi).2 b.size⟩, ok, er, ae, fe⟩
  · rw [e1]; exact ownsRow_but h.ff b h1
  · rw [e2, e3]; exact ownsRow_but h.ll b h2
theorem DkAt.butg {B : Nat} {S : Nat → Prop} {w w' : World} {g : Nat} {F L : Value} {d : Dk} {e : Int} (h : DkAt B S w g F L d e) (b : But (· = g) w w') : But S w w' := b.mono (fun i hi => by subst hi; exact .inl h.sg)
theorem op_bounds (d : Dk) : d.op.1.armed ≤ d.armed ∧ d.op.1.fails ≤ d.fails ∧ (d.op.1.fails ≠ 0 → d.fails ≠ 0) ∧ d.op.1.err = d.err := by
  unfold Dk.op
  split
  · exact ⟨Nat.le_refl _, Nat.le_refl _, id, rfl⟩
  · split
    · exact ⟨Nat.le_refl _, Nat.le_refl _, id, rfl⟩
    · split
      · exact ⟨Nat.sub_le _ _, Nat.zero_le _, fun h => absurd rfl h, rfl⟩
      · refine ⟨Nat.sub_le _ _, Nat.sub_le _ _, fun h e => ?_, rfl⟩
        apply h
        show d.fails - _ = 0
        omega
theorem DkAt.op {B : Nat} {S : Nat → Prop} {w w' : World} {g : Nat} {F L : Value} {d : Dk} {e : Int} (h : DkAt B S w g F L d e) (b : But (· = g) w w')
    (hr : w'.heap[g]? = some (.cells (dcells g F L d.op.1 e) 61 (0, 0))) : DkAt B S w' g F L d.op.1 e := by
  obtain ⟨e1, e2, e3, e4⟩ := op_now d
  obtain ⟨b1, b2, b3, b4⟩ := op_bounds d
  exact h.turn b hr e1 e2 e3 h.ok.op (fun hf => by rw [b4]; exact h.er (b3 hf)) (by have := h.ae; omega) (by have := h.fe; omega)
/-- The cells of the struct, one by one. -/
theorem DkAt.cells {B : Nat} {S : Nat → Prop} {w : World} {g : Nat} {F L : Value} {d : Dk} {e : Int} (h : DkAt B S w g F L d e) :
    w.cell? ⟨g, 0, none⟩ = some (.pointer (some ⟨g, 0, none⟩)) ∧ w.cell? ⟨g, 1, none⟩ = some (.int .i64 (d.most : Nat)) ∧ w.cell? ⟨g, 2, none⟩ = some F ∧ w.cell? ⟨g, 3, none⟩ = some (.int .i64 (d.floor : Nat)) ∧ w.cell? ⟨g, 4, none⟩ = some L ∧
    w.cell? ⟨g, 5, none⟩ = some (.bool d.down) ∧ w.cell? ⟨g, 6, none⟩ = some (.int .i64 ((d.armed : Int) - 1)) ∧ w.cell? ⟨g, 7, none⟩ = some (.int .i64 ((d.fails - 1 : Nat) : Int)) ∧ w.cell? ⟨g, 8, none⟩ = some (.int .i64 e) :=
  ⟨row_cell h.row 0, row_cell h.row 1, row_cell h.row 2, row_cell h.row 3, row_cell h.row 4, row_cell h.row 5, row_cell h.row 6, row_cell h.row 7, row_cell h.row 8⟩
end Go.Proofs.Ytgccjclloomfgaa
