/-
  Merged: Dk Dsk Op Opy Fld Lod Stp Syn Apn Slc.
-/
import Derived.Test.YtpeepohiajmhcaaZa
import Derived.BigRegion
import Derived.Deep.Cut
import Derived.OwnWalk
import Derived.LaidEqlPtr
import Derived.Deep.RegionLaw
import Derived.Shelf.Abstract
import Derived.StillTailTactics
/-
  A disk as plain data, after the document: the file, the old file, the floor; what an operation, and a crash, make of it.
-/
namespace Go.Proofs.Ytpeepohiajmhcaa

/-- armed, fails: the number and 1; 0: not. -/
structure Dk where
  most : Nat
  now : List UInt8
  old : List UInt8
  floor : Nat
  down : Bool
  armed : Nat
  fails : Nat
  err : Nat
/-- May an operation be? The disk then, and 0 or the error. -/
def Dk.op (d : Dk) : Dk × Nat :=
  if d.down then (d, 11)
  else if d.armed = 1 then ({ d with down := true }, 11)
  else if d.fails = 2 then ({ d with armed := d.armed - 1, fails := 0 }, d.err)
  else ({ d with armed := d.armed - 1, fails := d.fails - (if d.fails > 2 then 1 else 0) }, 0)
def Dk.app (d : Dk) (b : List UInt8) : Dk × Nat :=
  if d.op.2 ≠ 0 then d.op
  else if d.now.length + b.length > d.most then (d.op.1, 5)
  else ({ d.op.1 with now := d.now ++ b }, 0)
def Dk.syn (d : Dk) : Dk × Nat :=
  if d.op.2 ≠ 0 then d.op else ({ d.op.1 with old := d.now, floor := d.now.length }, 0)
def Dk.trunc (d : Dk) (n : Nat) : Dk × Nat :=
  if d.now.length < n then (d, 2)
  else if d.op.2 ≠ 0 then d.op else ({ d.op.1 with now := d.now.take n, floor := min d.floor n }, 0)
/-- What a crash that keeps k bytes leaves of the file. -/
def leftK (now : List UInt8) (floor k : Nat) : List UInt8 := now.take (floor + k)
/-- Where the last sector's bytes from the floor on begin. -/
def junkFrom (floor len : Nat) : Nat := max floor (512 * ((len - 1) / 512))
def junked (l : List UInt8) (floor : Nat) (junk : List UInt8) : List UInt8 :=
  if junk.length = 0 then l
  else (List.range l.length).map (fun i => if junkFrom floor l.length ≤ i then junk.getD ((i - junkFrom floor l.length) % junk.length) 0 else l.getD i 0)
def Dk.crash (d : Dk) (keep : Int) (junk : List UInt8) : Dk :=
  let l := if keep < 0 then d.old else junked (leftK d.now d.floor keep.toNat) d.floor junk
  { d with now := l, old := l, floor := l.length, down := false, armed := 0, fails := 0 }
/-- The bytes below the floor are the same in both. -/
structure Dk.Ok (d : Dk) : Prop where
  fn : d.floor ≤ d.now.length
  fo : d.floor ≤ d.old.length
  same : d.now.take d.floor = d.old.take d.floor
  mx : d.now.length ≤ d.most
  mo : d.old.length ≤ d.most
  m4 : d.most ≤ 4194304
  fa : d.fails ≠ 1
theorem op_fails (d : Dk) (h : d.fails ≠ 1) : d.op.1.fails ≠ 1 := by
  unfold Dk.op
  split
  · exact h
  · split
    · exact h
    · split
      · show (0 : Nat) ≠ 1; decide
      · rename_i h2
        show d.fails - (if d.fails > 2 then 1 else 0) ≠ 1
        split <;> omega
theorem op_now (d : Dk) : d.op.1.now = d.now ∧ d.op.1.old = d.old ∧ d.op.1.floor = d.floor ∧ d.op.1.most = d.most := by
  unfold Dk.op
  split
  · exact ⟨rfl, rfl, rfl, rfl⟩
  · split
    · exact ⟨rfl, rfl, rfl, rfl⟩
    · split <;> exact ⟨rfl, rfl, rfl, rfl⟩
theorem Dk.Ok.op {d : Dk} (h : d.Ok) : d.op.1.Ok := by
  obtain ⟨e1, e2, e3, e4⟩ := op_now d
  exact ⟨by rw [e1, e3]; exact h.fn, by rw [e2, e3]; exact h.fo, by rw [e1, e2, e3]; exact h.same, by rw [e1, e4]; exact h.mx, by rw [e2, e4]; exact h.mo, by rw [e4]; exact h.m4, op_fails d h.fa⟩
theorem Dk.Ok.app {d : Dk} (h : d.Ok) (b : List UInt8) : (d.app b).1.Ok := by
  obtain ⟨e1, e2, e3, e4⟩ := op_now d
  unfold Dk.app
  split
  · exact h.op
  · split
    · exact h.op
    · rename_i _ hm
      refine ⟨?_, by show d.op.1.floor ≤ d.op.1.old.length; rw [e2, e3]; exact h.fo, ?_, ?_, by show d.op.1.old.length ≤ d.op.1.most; rw [e2, e4]; exact h.mo, by show d.op.1.most ≤ _; rw [e4]; exact h.m4, op_fails d h.fa⟩
      · show d.op.1.floor ≤ (d.now ++ b).length
        rw [e3, List.length_append]; have := h.fn; omega
      · show (d.now ++ b).take d.op.1.floor = d.op.1.old.take d.op.1.floor
        rw [e2, e3, List.take_append_of_le_length h.fn]; exact h.same
      · show (d.now ++ b).length ≤ d.op.1.most
        rw [e4, List.length_append]; omega
theorem Dk.Ok.syn {d : Dk} (h : d.Ok) : d.syn.1.Ok := by
  obtain ⟨e1, e2, e3, e4⟩ := op_now d
  unfold Dk.syn
  split
  · exact h.op
  · exact ⟨by show d.now.length ≤ d.op.1.now.length; rw [e1]; exact Nat.le_refl _, Nat.le_refl _, by show d.op.1.now.take _ = _; rw [e1], by show d.op.1.now.length ≤ d.op.1.most; rw [e1, e4]; exact h.mx, by show d.now.length ≤ d.op.1.most; rw [e4]; exact h.mx, by show d.op.1.most ≤ _; rw [e4]; exact h.m4, op_fails d h.fa⟩
theorem Dk.Ok.trunc {d : Dk} (h : d.Ok) (n : Nat) : (d.trunc n).1.Ok := by
  obtain ⟨e1, e2, e3, e4⟩ := op_now d
  unfold Dk.trunc
  split
  · exact h
  · split
    · exact h.op
    · rename_i hn _
      refine ⟨?_, ?_, ?_, ?_, by show d.op.1.old.length ≤ d.op.1.most; rw [e2, e4]; exact h.mo, by show d.op.1.most ≤ _; rw [e4]; exact h.m4, op_fails d h.fa⟩
      · show min d.floor n ≤ (d.now.take n).length
        rw [List.length_take]; have := h.fn; omega
      · show min d.floor n ≤ d.op.1.old.length
        rw [e2]; have := h.fo; omega
      · show (d.now.take n).take (min d.floor n) = d.op.1.old.take (min d.floor n)
        rw [e2, List.take_take, show min (min d.floor n) n = min (min d.floor n) d.floor by omega, ← List.take_take, h.same, List.take_take]
        congr 1; omega
      · show (d.now.take n).length ≤ d.op.1.most
        rw [e4, List.length_take]; have := h.mx; omega
theorem junked_len (l : List UInt8) (floor : Nat) (junk : List UInt8) : (junked l floor junk).length = l.length := by
  unfold junked; split <;> simp
/-- A byte of what a crash leaves is the file's, but in the last sector, from the floor on. -/
theorem junked_get (l : List UInt8) (floor : Nat) (junk : List UInt8) (i : Nat) (h : i < (junked l floor junk).length) (hk : junk.length = 0 ∨ i < junkFrom floor l.length) : (junked l floor junk)[i] = l[i]'(by rw [junked_len] at h; exact h) := by
  have hl : i < l.length := by rw [junked_len] at h; exact h
  have e : (junked l floor junk)[i]? = l[i]? := by
    unfold junked
    split
    · rfl
    · rename_i hj
      rw [List.getElem?_map, List.getElem?_range hl]
      simp only [Option.map_some]
      rw [if_neg (by rcases hk with h0 | h0 <;> omega), List.getD_eq_getElem?_getD, List.getElem?_eq_getElem hl]
      rfl
  rw [List.getElem?_eq_getElem h, List.getElem?_eq_getElem hl] at e
  exact Option.some.inj e
theorem junk_place (floor len i : Nat) (hi : i < len) : (floor ≤ i ∧ i / 512 = (len - 1) / 512) ↔ junkFrom floor len ≤ i := by
  unfold junkFrom
  constructor
  · rintro ⟨h1, h2⟩; omega
  · intro h
    exact ⟨by omega, by omega⟩
theorem Dk.Ok.crash {d : Dk} (h : d.Ok) (k : Int) (j : List UInt8) : (d.crash k j).Ok := by
  have hl : (if k < 0 then d.old else junked (leftK d.now d.floor k.toNat) d.floor j).length ≤ d.most := by
    split
    · exact h.mo
    · rw [junked_len]; unfold leftK; rw [List.length_take]; have := h.mx; omega
  exact ⟨Nat.le_refl _, Nat.le_refl _, rfl, hl, hl, h.m4, by show (0 : Nat) ≠ 1; decide⟩
end Go.Proofs.Ytpeepohiajmhcaa
/-
  A disk in memory: the block of its struct, its file, what its old file has from the floor on; what a call keeps of all else.
-/
namespace Go.Proofs.Ytpeepohiajmhcaa
open Go.RowKit

/-- All but the blocks of S stays. -/
structure But (S : Nat → Prop) (w w' : World) : Prop where
  os : w'.os = w.os
  tape : w'.tape = w.tape
  output : w'.output = w.output
  size : w.heap.size ≤ w'.heap.size
  block : ∀ i, i < w.heap.size → ¬ S i → w'.heap[i]? = w.heap[i]?
theorem But.refl (S : Nat → Prop) (w : World) : But S w w := ⟨rfl, rfl, rfl, Nat.le_refl _, fun _ _ _ => rfl⟩
theorem But.trans {S S' : Nat → Prop} {a b c : World} (h : But S a b) (k : But S' b c) (hs : ∀ i, S' i → S i ∨ a.heap.size ≤ i) : But S a c :=
  ⟨k.os.trans h.os, k.tape.trans h.tape, k.output.trans h.output, Nat.le_trans h.size k.size, fun i hi hn => (k.block i (Nat.lt_of_lt_of_le hi h.size) (fun e => by rcases hs i e with h1 | h1; exact hn h1; omega)).trans (h.block i hi hn)⟩
theorem But.mono {S S' : Nat → Prop} {a b : World} (h : But S a b) (hs : ∀ i, S i → S' i ∨ a.heap.size ≤ i) : But S' a b :=
  ⟨h.os, h.tape, h.output, h.size, fun i hi hn => h.block i hi (fun e => by rcases hs i e with h1 | h1; exact hn h1; omega)⟩
theorem But.of_below {S : Nat → Prop} {a b : World} (h : Below a.heap.size a b) : But S a b := ⟨h.os, h.tape, h.output, h.size, fun i hi _ => h.block i hi⟩
theorem But.below {S : Nat → Prop} {B : Nat} {a b : World} (h : But S a b) (hs : ∀ i, S i → B ≤ i) (hB : B ≤ a.heap.size) : Below B a b :=
  ⟨h.os, h.tape, h.output, h.size, fun i hi => h.block i (by omega) (fun e => by have := hs i e; omega)⟩
theorem But.drew {S : Nat → Prop} {a b : World} (h : But S a b) : But S a b.drew := ⟨h.os, h.tape, h.output, h.size, h.block⟩
theorem But.drewN {S : Nat → Prop} {a b : World} (h : But S a b) (n : Nat) : But S a (b.drewN n) := ⟨h.os, h.tape, h.output, h.size, h.block⟩
theorem But.set {S : Nat → Prop} {a b : World} (h : But S a b) (p : Addr) (u : Value) (hp : S p.block ∨ a.heap.size ≤ p.block) : But S a (b.setCell p u) :=
  ⟨h.os, h.tape, h.output, by rw [World.size_setCell]; exact h.size, fun i hi hn => (Below.heap_setCell b p u i (fun e => by subst e; rcases hp with h1 | h1; exact hn h1; omega)).trans (h.block i hi hn)⟩
theorem But.alloc {S : Nat → Prop} {a b : World} (h : But S a b) (o : Obj) : But S a (b.alloc o) :=
  h.trans (S' := S) (But.of_below ((Below.refl _ b).alloc (Nat.le_refl _) o)) (fun i e => .inl e)
theorem But.grown {S : Nat → Prop} {a b c : World} {row : Option Nat} (h : But S a b) (hg : b.grownBy c row) (hr : ∀ k, row = some k → S k ∨ a.heap.size ≤ k) : But S a c :=
  ⟨hg.os.trans h.os, hg.tape.trans h.tape, hg.output.trans h.output, Nat.le_trans h.size hg.size, fun i hi hn => (hg.block i (Nat.lt_of_lt_of_le hi h.size) (fun e => by rcases hr i e.symm with h1 | h1; exact hn h1; omega)).trans (h.block i hi hn)⟩
theorem But.cell {S : Nat → Prop} {a b : World} (h : But S a b) {p : Addr} {v : Value} (hc : a.cell? p = some v) (hn : ¬ S p.block) : b.cell? p = some v :=
  (World.cell?_of_block (h.block p.block (lt_of_cell hc) hn)).trans hc
/-- The blocks of S may have turned; those of S' are of S, or new. -/
structure Stp (S S' : Nat → Prop) (w w' : World) : Prop where
  but : But S w w'
  new : ∀ i, S' i → S i ∨ w.heap.size ≤ i
theorem Stp.refl (S : Nat → Prop) (w : World) : Stp S S w w := ⟨But.refl S w, fun _ h => .inl h⟩
theorem Stp.trans {S S' S'' : Nat → Prop} {a b c : World} (h : Stp S S' a b) (k : Stp S' S'' b c) : Stp S S'' a c :=
  ⟨h.but.trans k.but h.new, fun i hi => by
    rcases k.new i hi with h1 | h1
    · exact h.new i h1
    · exact .inr (Nat.le_trans h.but.size h1)⟩
theorem Stp.of_but {S : Nat → Prop} {w w' : World} (h : But S w w') : Stp S S w w' := ⟨h, fun _ h => .inl h⟩
theorem Stp.of_below {S : Nat → Prop} {w w' : World} (h : Below w.heap.size w w') : Stp S S w w' := .of_but (.of_below h)
theorem ownsRow_but {S : Nat → Prop} {w w' : World} {base e s n : Nat} {v : Value} {xs : List Value} (h : w.ownsRow base e s v n xs) (hb : But S w w') (hn : ∀ k, v.ownBlock = some k → ¬ S k) : w'.ownsRow base e s v n xs := by
  obtain ⟨h1, h2⟩ := h
  refine ⟨h1, ?_⟩
  rcases h2 with h2 | ⟨g, cap, cur, rfl, hg, hh, r⟩
  · exact .inl h2
  · exact .inr ⟨g, cap, cur, rfl, hg, (hb.block g (lt_of_heap hh) (hn g rfl)).trans hh, r⟩
/-- Bytes that lie outside of S. -/
structure Out (S : Nat → Prop) (w : World) (A : Option Addr) (n c : Nat) (l : List UInt8) : Prop extends IsB w A n c l where
  ap : 0 < l.length → ∀ ad, A = some ad → ¬ S ad.block ∧ ad.block < w.heap.size
theorem Out.stp {S S' : Nat → Prop} {w w' : World} {A : Option Addr} {n c : Nat} {l : List UInt8} (h : Out S w A n c l) (s : Stp S S' w w') : Out S' w' A n c l := by
  refine ⟨⟨h.len, h.cap, h.max, h.small, fun hp => ?_⟩, fun hp ad e => ?_⟩
  · obtain ⟨ad, e, hc⟩ := h.lies hp
    obtain ⟨h1, h2⟩ := h.ap hp ad e
    exact ⟨ad, e, fun j hj => (World.cell?_of_block (by rw [block_of_add]; exact s.but.block _ h2 h1)).trans (hc j hj)⟩
  · obtain ⟨h1, h2⟩ := h.ap hp ad e
    exact ⟨fun e => by rcases s.new _ e with h3 | h3; exact h1 h3; omega, Nat.lt_of_lt_of_le h2 s.but.size⟩
theorem Out.isBB {S : Nat → Prop} {w : World} {A : Option Addr} {n c : Nat} {l : List UInt8} (h : Out S w A n c l) : IsBB w w.heap.size A n c l := ⟨h.toIsB, fun hp ad e => (h.ap hp ad e).2⟩
theorem IsBB.out {S : Nat → Prop} {w : World} {B : Nat} {A : Option Addr} {n c : Nat} {l : List UInt8} (h : IsBB w B A n c l) (hS : ∀ i, S i → B ≤ i) : Out S w A n c l := by
  refine ⟨h.toIsB, fun hp ad e => ⟨fun hs => by have := hS _ hs; have := h.low hp ad e; omega, ?_⟩⟩
  obtain ⟨ad', e', hc⟩ := h.lies hp
  rw [e] at e'
  cases e'
  have := lt_of_cell (hc 0 hp)
  rwa [block_of_add] at this
theorem IsBB.out_new {S : Nat → Prop} {w w' : World} {A : Option Addr} {n c : Nat} {l : List UInt8} (h : IsBB w' w'.heap.size A n c l) (hA : 0 < l.length → ∀ ad, A = some ad → w.heap.size ≤ ad.block) (hS : ∀ i, S i → i < w.heap.size) : Out S w' A n c l :=
  ⟨h.toIsB, fun hp ad e => ⟨fun hs => by have := hS _ hs; have := hA hp ad e; omega, h.low hp ad e⟩⟩
theorem New.out {S : Nat → Prop} {w w' : World} {g n c : Nat} {l : List UInt8} (h : New w w' g n c l) (hS : ∀ i, S i → i < w.heap.size) : Out S w' (some ⟨g, 0, none⟩) n c l :=
  h.isBB.out_new (fun _ ad e => by cases e; exact h.row.1) hS
theorem Out.drew {S : Nat → Prop} {w : World} {A : Option Addr} {n c : Nat} {l : List UInt8} (h : Out S w A n c l) : Out S w.drew A n c l := ⟨⟨h.len, h.cap, h.max, h.small, h.lies⟩, h.ap⟩

theorem own_lt {w : World} {base e s n : Nat} {v : Value} {xs : List Value} (h : w.ownsRow base e s v n xs) : ∀ k, v.ownBlock = some k → base ≤ k ∧ k < w.heap.size := h.lt
/-- The cells of a disk's struct. -/
def dcells (g : Nat) (F L : Value) (d : Dk) (e : Int) : Array Value :=
  #[.pointer (some ⟨g, 0, none⟩), .int .i64 (d.most : Nat), F, .int .i64 (d.floor : Nat), L, .bool d.down, .int .i64 ((d.armed : Int) - 1), .int .i64 ((d.fails - 1 : Nat) : Int), .int .i64 e]
/-- The disk d lies in block g, its file in F, the old file's end in L; its blocks are of S, from B on. -/
structure DkAt (B : Nat) (S : Nat → Prop) (w : World) (g : Nat) (F L : Value) (d : Dk) (e : Int) : Prop where
  row : w.heap[g]? = some (.cells (dcells g F L d e) 32 (0, 0))
  ff : w.ownsRow 0 5 1 F d.now.length (d.now.map bv)
  ll : w.ownsRow 0 5 1 L (d.old.length - d.floor) ((d.old.drop d.floor).reverse.map bv)
  ap : Apart2 F L
  sg : S g
  sf : ∀ k, F.ownBlock = some k → S k
  sl : ∀ k, L.ownBlock = some k → S k
  lt : ∀ i, S i → B ≤ i ∧ i < w.heap.size
  ok : d.Ok
  er : d.fails ≠ 0 → e = (d.err : Nat) ∧ d.err ≠ 0
  ae : d.armed ≤ 9223372036854775808
  fe : d.fails ≤ 9223372036854775808
theorem own_gne {w : World} {base n g : Nat} {v : Value} {xs : List Value} {cs : Array Value} {t : TypeId} {fz : Nat × Nat} (h : w.ownsRow base 5 1 v n xs) (hg : w.heap[g]? = some (.cells cs t fz)) (ht : t ≠ 5) : ∀ k, v.ownBlock = some k → k ≠ g := by
  intro k hk e
  subst e
  rcases h.2 with ⟨rfl, _⟩ | ⟨g', cap, cur, rfl, _, hh, _⟩
  · cases hk
  · cases hk
    rw [hg] at hh
    injection hh with hh
    injection hh with _ h5
    exact ht h5
theorem DkAt.but {B : Nat} {S T : Nat → Prop} {w w' : World} {g : Nat} {F L : Value} {d : Dk} {e : Int} (h : DkAt B S w g F L d e) (b : But T w w') (hT : ∀ i, S i → ¬ T i) : DkAt B S w' g F L d e :=
  ⟨(b.block g (lt_of_heap h.row) (hT g h.sg)).trans h.row, ownsRow_but h.ff b (fun k hk => hT k (h.sf k hk)), ownsRow_but h.ll b (fun k hk => hT k (h.sl k hk)), h.ap, h.sg, h.sf, h.sl,
    fun i hi => ⟨(h.lt i hi).1, Nat.lt_of_lt_of_le (h.lt i hi).2 b.size⟩, h.ok, h.er, h.ae, h.fe⟩
theorem DkAt.below {B : Nat} {S : Nat → Prop} {w w' : World} {g : Nat} {F L : Value} {d : Dk} {e : Int} (h : DkAt B S w g F L d e) (b : Below w.heap.size w w') : DkAt B S w' g F L d e :=
  h.but (T := fun _ => False) (.of_below b) (fun _ _ h => h)
theorem DkAt.drew {B : Nat} {S : Nat → Prop} {w : World} {g : Nat} {F L : Value} {d : Dk} {e : Int} (h : DkAt B S w g F L d e) : DkAt B S w.drew g F L d e :=
  ⟨h.row, h.ff, h.ll, h.ap, h.sg, h.sf, h.sl, h.lt, h.ok, h.er, h.ae, h.fe⟩
theorem DkAt.drewN {B : Nat} {S : Nat → Prop} {w : World} {g : Nat} {F L : Value} {d : Dk} {e : Int} (h : DkAt B S w g F L d e) (n : Nat) : DkAt B S (w.drewN n) g F L d e :=
  ⟨h.row, h.ff, h.ll, h.ap, h.sg, h.sf, h.sl, h.lt, h.ok, h.er, h.ae, h.fe⟩
/-- The struct's block turned, its file and the old file's end not. -/
theorem DkAt.turn {B : Nat} {S : Nat → Prop} {w w' : World} {g : Nat} {F L : Value} {d d' : Dk} {e e' : Int} (h : DkAt B S w g F L d e) (b : But (· = g) w w')
    (hr : w'.heap[g]? = some (.cells (dcells g F L d' e') 32 (0, 0))) (e1 : d'.now = d.now) (e2 : d'.old = d.old) (e3 : d'.floor = d.floor) (ok : d'.Ok) (er : d'.fails ≠ 0 → e' = (d'.err : Nat) ∧ d'.err ≠ 0) (ae : d'.armed ≤ 9223372036854775808) (fe : d'.fails ≤ 9223372036854775808) : DkAt B S w' g F L d' e' := by
  have h1 := own_gne h.ff h.row (by decide)
  have h2 := own_gne h.ll h.row (by decide)
  refine ⟨hr, ?_, ?_, h.ap, h.sg, h.sf, h.sl, fun i hi => ⟨(h.lt i hi).1, Nat.lt_of_lt_of_le (h.lt i hi).2 b.size⟩, ok, er, ae, fe⟩
  · rw [e1]; exact ownsRow_but h.ff b h1
  · rw [e2, e3]; exact ownsRow_but h.ll b h2
theorem DkAt.butg {B : Nat} {S : Nat → Prop} {w w' : World} {g : Nat} {F L : Value} {d : Dk} {e : Int} (h : DkAt B S w g F L d e) (b : But (· = g) w w') : But S w w' := b.mono (fun i hi => by subst hi; exact .inl h.sg)
theorem op_bounds (d : Dk) : d.op.1.armed ≤ d.armed ∧ d.op.1.fails ≤ d.fails ∧ (d.op.1.fails ≠ 0 → d.fails ≠ 0) ∧ d.op.1.err = d.err := by
  unfold Dk.op
  split
  · exact ⟨Nat.le_refl _, Nat.le_refl _, id, rfl⟩
  · split
    · exact ⟨Nat.le_refl _, Nat.le_refl _, id, rfl⟩
    · split
      · exact ⟨Nat.sub_le _ _, Nat.zero_le _, fun h => absurd rfl h, rfl⟩
      · refine ⟨Nat.sub_le _ _, Nat.sub_le _ _, fun h e => ?_, rfl⟩
        apply h
        show d.fails - _ = 0
        omega
theorem DkAt.op {B : Nat} {S : Nat → Prop} {w w' : World} {g : Nat} {F L : Value} {d : Dk} {e : Int} (h : DkAt B S w g F L d e) (b : But (· = g) w w')
    (hr : w'.heap[g]? = some (.cells (dcells g F L d.op.1 e) 32 (0, 0))) : DkAt B S w' g F L d.op.1 e := by
  obtain ⟨e1, e2, e3, e4⟩ := op_now d
  obtain ⟨b1, b2, b3, b4⟩ := op_bounds d
  exact h.turn b hr e1 e2 e3 h.ok.op (fun hf => by rw [b4]; exact h.er (b3 hf)) (by have := h.ae; omega) (by have := h.fe; omega)
/-- The cells of the struct, one by one. -/
theorem DkAt.cells {B : Nat} {S : Nat → Prop} {w : World} {g : Nat} {F L : Value} {d : Dk} {e : Int} (h : DkAt B S w g F L d e) :
    w.cell? ⟨g, 0, none⟩ = some (.pointer (some ⟨g, 0, none⟩)) ∧ w.cell? ⟨g, 1, none⟩ = some (.int .i64 (d.most : Nat)) ∧ w.cell? ⟨g, 2, none⟩ = some F ∧ w.cell? ⟨g, 3, none⟩ = some (.int .i64 (d.floor : Nat)) ∧ w.cell? ⟨g, 4, none⟩ = some L ∧
    w.cell? ⟨g, 5, none⟩ = some (.bool d.down) ∧ w.cell? ⟨g, 6, none⟩ = some (.int .i64 ((d.armed : Int) - 1)) ∧ w.cell? ⟨g, 7, none⟩ = some (.int .i64 ((d.fails - 1 : Nat) : Int)) ∧ w.cell? ⟨g, 8, none⟩ = some (.int .i64 e) :=
  ⟨row_cell h.row 0, row_cell h.row 1, row_cell h.row 2, row_cell h.row 3, row_cell h.row 4, row_cell h.row 5, row_cell h.row 6, row_cell h.row 7, row_cell h.row 8⟩
end Go.Proofs.Ytpeepohiajmhcaa
/-
  The contracts of made, operate, settle, start.
-/
namespace Go.Proofs.Ytpeepohiajmhcaa
open Go.RowKit

theorem Try.isPtr22 : Try.prog.underlying 22 = some (.pointer 32) := by kernel_rfl
theorem Try.has61 : (Try.prog.info? 32).isSome = true := by kernel_rfl
theorem ptr_self (a : Addr) (w : World) : (binOp BinOp.eql 22 (.pointer (some a)) (.pointer (some a))).run Try.prog w = .ok (.bool true) w := by
  obtain ⟨j, hj⟩ := Option.isSome_iff_exists.1 Try.has61
  exact run_eql_ptr_same w a Try.isPtr22 hj
theorem ptr_none (a : Addr) (w : World) : (binOp BinOp.eql 22 (.pointer none) (.pointer (some a))).run Try.prog w = .ok (.bool false) w := by kernel_rfl
set_option maxRecDepth 10000 in
set_option maxHeartbeats 1000000 in
theorem made_any {B : Nat} {S : Nat → Prop} {w : World} {g : Nat} {F L : Value} {d : Dk} {e : Int} (h : DkAt B S w g F L d e) :
    Calls Try.prog 32 #[.pointer (some ⟨g, 0, none⟩)] w fun r w' => r = .returned (.bool true) ∧ w = w' := by
  have c0 := h.cells.1
  have hp := ptr_self ⟨g, 0, none⟩
  clear h
  go_enter Try.func32, Try.ntmps32
  go_wp2_with fail
  go_ret
  exact ⟨rfl, rfl⟩
set_option maxRecDepth 10000 in
set_option maxHeartbeats 1000000 in
theorem made_nil (w : World) : Calls Try.prog 32 #[.pointer none] w fun r w' => r = .returned (.bool false) ∧ w = w' := by
  go_enter Try.func32, Try.ntmps32
  go_wp2_with fail
  go_ret
  exact ⟨rfl, rfl⟩
set_option maxRecDepth 10000 in
set_option maxHeartbeats 1000000 in
theorem made_zero (g : Nat) (w : World) (c0 : w.cell? ⟨g, 0, none⟩ = some (.pointer none)) : Calls Try.prog 32 #[.pointer (some ⟨g, 0, none⟩)] w fun r w' => r = .returned (.bool false) ∧ w = w' := by
  have hp := ptr_none ⟨g, 0, none⟩
  go_enter Try.func32, Try.ntmps32
  go_wp2_with fail
  go_ret
  exact ⟨rfl, rfl⟩
theorem set5 (g : Nat) (F L : Value) (d : Dk) (e : Int) (b : Bool) : (dcells g F L d e).setIfInBounds 5 (.bool b) = dcells g F L { d with down := b } e := rfl
set_option maxRecDepth 10000 in
set_option maxHeartbeats 2000000 in
theorem operate_no {B : Nat} {S : Nat → Prop} {w : World} {g : Nat} {F L : Value} {d : Dk} {e : Int} (K : Nat) (caps : Array Value) (h : DkAt B S w g F L d e) (hb : d.op.2 ≠ 0) :
    Calls Try.prog 34 #[.pointer (some ⟨g, 0, none⟩), .func (.func K) #[] caps] w fun r w' => r = .returned (.int .i64 (d.op.2 : Nat)) ∧ DkAt B S w' g F L d.op.1 e ∧ But (· = g) w w' := by
  obtain ⟨c0, c1, c2, c3, c4, c5, c6, c7, c8⟩ := h.cells
  have f5 := row_free h.row 5
  have f6 := row_free h.row 6
  have f7 := row_free h.row 7
  have H := hid h
  have hae := h.ae
  have hfe := h.fe
  have hfa := h.ok.fa
  clear c0 c1 c2 c3 c4
  by_cases ha : d.armed = 1
  · have e1 : (d.armed : Int) - 1 = 0 := by omega
    rw [e1] at c6
    have Hfin : Hid (DkAt B S (w.setCell ⟨g, 5, none⟩ (.bool true)) g F L d.op.1 e ∧ d.op.2 = 11) := by
      have ee : d.op.1 = { d with down := true } ∧ d.op.2 = 11 := by
        unfold Dk.op
        by_cases hd : d.down = true
        · rw [if_pos hd]; exact ⟨by cases d; simp at hd ⊢; exact hd, rfl⟩
        · rw [if_neg hd, if_pos ha]; exact ⟨rfl, rfl⟩
      refine ⟨h.op ((But.refl _ w).set ⟨g, 5, none⟩ _ (.inl rfl)) ?_, ee.2⟩
      rw [row_set h.row 5, set5, ee.1]
    clear h hb ha hfa
    go_enter Try.func34, Try.ntmps34
    go_wp2_with fail
    go_ret
    rw [Hfin.out.2]
    exact ⟨rfl, Hfin.out.1, (But.refl _ w).set ⟨g, 5, none⟩ _ (.inl rfl)⟩
  · by_cases hd : d.down = true
    · have ee : d.op = (d, 11) := by unfold Dk.op; rw [if_pos hd]
      rw [hd] at c5
      have hn : ¬ ((d.armed : Int) - 1 = 0) := by omega
      obtain ⟨a, hA⟩ : ∃ a : Int, a = (d.armed : Int) - 1 := ⟨_, rfl⟩
      rw [← hA] at c6 hn
      clear h hb ha hA
      go_enter Try.func34, Try.ntmps34
      go_wp2_with fail
      go_ret
      rw [ee]
      exact ⟨rfl, H.out, But.refl _ w⟩
    · have hd0 : d.down = false := by simpa using hd
      rw [hd0] at c5
      have hf2 : d.fails = 2 := by
        apply Classical.byContradiction
        intro hf
        apply hb
        unfold Dk.op
        rw [if_neg hd, if_neg ha, if_neg hf]
      have ee : d.op = ({ d with armed := d.armed - 1, fails := 0 }, d.err) := by unfold Dk.op; rw [if_neg hd, if_neg ha, if_pos hf2]
      have e8 : e = (d.err : Nat) := (h.er (by omega)).1
      have e7 : ((d.fails - 1 : Nat) : Int) = 1 := by omega
      rw [e7] at c7
      by_cases h0 : d.armed = 0
      · have e1 : (d.armed : Int) - 1 = -1 := by omega
        rw [e1] at c6
        have Hfin : Hid (DkAt B S (w.setCell ⟨g, 7, none⟩ (.int .i64 0)) g F L d.op.1 e) := by
          refine h.op ((But.refl _ w).set ⟨g, 7, none⟩ _ (.inl rfl)) ?_
          rw [row_set h.row 7, ee]
          unfold dcells
          rw [h0]
          rfl
        clear h hb ha hfa hd0 hf2 hfe hae h0
        go_enter Try.func34, Try.ntmps34
        go_wp2_with fail
        go_ret
        refine ⟨?_, Hfin.out, (But.refl _ w).set ⟨g, 7, none⟩ _ (.inl rfl)⟩
        rw [ee]
        rfl
      · obtain ⟨a, hA⟩ : ∃ a : Nat, d.armed = a + 2 := ⟨d.armed - 2, by omega⟩
        have e1 : (d.armed : Int) - 1 = (a : Int) + 1 := by omega
        rw [e1] at c6
        have haz : (a : Int) ≤ 9223372036854775806 := by omega
        have e2 : IntKind.i64.wrap ((a : Int) + 1 - 1) = (a : Int) := by rw [IntKind.wrap_i64]; omega
        have hbb : But (· = g) w ((w.setCell ⟨g, 6, none⟩ (.int .i64 (a : Int))).setCell ⟨g, 7, none⟩ (.int .i64 0)) := ((But.refl (· = g) w).set ⟨g, 6, none⟩ _ (.inl rfl)).set ⟨g, 7, none⟩ _ (.inl rfl)
        have Hfin : Hid (DkAt B S ((w.setCell ⟨g, 6, none⟩ (.int .i64 (a : Int))).setCell ⟨g, 7, none⟩ (.int .i64 0)) g F L d.op.1 e) := by
          refine h.op hbb ?_
          have r1 := row_set h.row 6 (.int .i64 (a : Int))
          rw [row_set r1 7, ee]
          unfold dcells
          rw [hA]
          have e3 : ((a + 2 - 1 : Nat) : Int) - 1 = (a : Int) := by omega
          rw [e3]
          rfl
        clear h hb ha hfa hd0 hf2 hfe hae h0 hA
        go_enter Try.func34, Try.ntmps34
        go_wp2_with fail
        go_ret
        refine ⟨?_, Hfin.out, hbb⟩
        rw [ee]
        rfl
end Go.Proofs.Ytpeepohiajmhcaa
/-
  The contract of operate where an operation may be: its work is done.
-/
namespace Go.Proofs.Ytpeepohiajmhcaa
open Go.RowKit

set_option maxRecDepth 10000 in
set_option maxHeartbeats 2000000 in
theorem operate_yes {B : Nat} {S : Nat → Prop} {w : World} {g : Nat} {F L : Value} {d : Dk} {e : Int} {R : Ending → World → Prop} (K : Nat) (caps : Array Value) (h : DkAt B S w g F L d e) (hb : d.op.2 = 0)
    (he : ∀ args w, (callFunc K args).run Try.prog w = .ok (.enter K args) w)
    (hf : ∀ w1, DkAt B S w1 g F L d.op.1 e → But (· = g) w w1 → Calls Try.prog K caps w1 fun r w' => (∃ n : Int, r = .returned (.int .i64 n)) ∧ R r w') :
    Calls Try.prog 34 #[.pointer (some ⟨g, 0, none⟩), .func (.func K) #[] caps] w R := by
  obtain ⟨c0, c1, c2, c3, c4, c5, c6, c7, c8⟩ := h.cells
  have f5 := row_free h.row 5
  have f6 := row_free h.row 6
  have f7 := row_free h.row 7
  have hae := h.ae
  have hfe := h.fe
  have hfa := h.ok.fa
  clear c0 c1 c2 c3 c4
  have hd : ¬ d.down = true := by
    intro hd
    unfold Dk.op at hb
    rw [if_pos hd] at hb
    exact absurd (show (11 : Nat) = 0 from hb) (by decide)
  have hd0 : d.down = false := by simpa using hd
  have ha : d.armed ≠ 1 := by
    intro ha
    unfold Dk.op at hb
    rw [if_neg hd, if_pos ha] at hb
    exact absurd (show (11 : Nat) = 0 from hb) (by decide)
  rw [hd0] at c5
  have h2 : d.fails ≠ 2 := by
    intro h2
    unfold Dk.op at hb
    rw [if_neg hd, if_neg ha, if_pos h2] at hb
    exact (h.er (by omega)).2 hb
  have hop : d.op.1 = { d with armed := d.armed - 1, fails := d.fails - (if d.fails > 2 then 1 else 0) } := by
    unfold Dk.op
    rw [if_neg hd, if_neg ha, if_neg h2]
  by_cases h0 : d.armed = 0
  · have e1 : (d.armed : Int) - 1 = -1 := by omega
    rw [e1] at c6
    by_cases hz : d.fails = 0
    · have e7 : ((d.fails - 1 : Nat) : Int) = 0 := by omega
      rw [e7] at c7
      have hD1 : DkAt B S w g F L d.op.1 e := by
        refine h.op (But.refl _ w) ?_
        rw [hop, h.row]
        unfold dcells
        rw [h0, hz]
        rfl
      have HF := hid (hf _ hD1 (But.refl _ w))
      clear h hb ha hfa hd0 hfe hae h0 hf h2 hz hD1 hop
      go_enter Try.func34, Try.ntmps34
      go_wp2_with fail
      refine HF.out.mono ?_
      rintro r w' ⟨⟨n, rfl⟩, hR⟩
      dsimp only
      go_wp2_with fail
      exact hR
    · obtain ⟨f, hF⟩ : ∃ f : Nat, d.fails = f + 2 := ⟨d.fails - 2, by omega⟩
      have e7 : ((d.fails - 1 : Nat) : Int) = (f : Int) + 1 := by omega
      rw [e7] at c7
      have hfz : (f : Int) ≤ 9223372036854775806 := by omega
      have hfn : ¬ ((f : Int) = 0) := by omega
      have hbb : But (· = g) w (w.setCell ⟨g, 7, none⟩ (.int .i64 (f : Int))) := (But.refl (· = g) w).set ⟨g, 7, none⟩ _ (.inl rfl)
      have hD1 : DkAt B S (w.setCell ⟨g, 7, none⟩ (.int .i64 (f : Int))) g F L d.op.1 e := by
        refine h.op hbb ?_
        rw [hop, row_set h.row 7]
        unfold dcells
        rw [h0, hF, if_pos (by omega)]
        have e9 : ((f + 2 - 1 - 1 : Nat) : Int) = (f : Int) := by omega
        rw [e9]
        rfl
      have HF := hid (hf _ hD1 hbb)
      clear h hb ha hfa hd0 hfe hae h0 hf h2 hz hD1 hop hF hbb
      go_enter Try.func34, Try.ntmps34
      go_wp2_with fail
      refine HF.out.mono ?_
      rintro r w' ⟨⟨n, rfl⟩, hR⟩
      dsimp only
      go_wp2_with fail
      exact hR
  · obtain ⟨a, hA⟩ : ∃ a : Nat, d.armed = a + 2 := ⟨d.armed - 2, by omega⟩
    have e1 : (d.armed : Int) - 1 = (a : Int) + 1 := by omega
    rw [e1] at c6
    have haz : (a : Int) ≤ 9223372036854775806 := by omega
    have hbb : But (· = g) w (w.setCell ⟨g, 6, none⟩ (.int .i64 (a : Int))) := (But.refl (· = g) w).set ⟨g, 6, none⟩ _ (.inl rfl)
    have r1 := row_set h.row 6 (.int .i64 (a : Int))
    by_cases hz : d.fails = 0
    · have e7 : ((d.fails - 1 : Nat) : Int) = 0 := by omega
      rw [e7] at c7
      have hD1 : DkAt B S (w.setCell ⟨g, 6, none⟩ (.int .i64 (a : Int))) g F L d.op.1 e := by
        refine h.op hbb ?_
        rw [hop, r1]
        unfold dcells
        rw [hA, hz]
        have e3 : ((a + 2 - 1 : Nat) : Int) - 1 = (a : Int) := by omega
        rw [e3]
        rfl
      have HF := hid (hf _ hD1 hbb)
      clear h hb ha hfa hd0 hfe hae h0 hf h2 hz hD1 hop hA hbb r1
      go_enter Try.func34, Try.ntmps34
      go_wp2_with fail
      refine HF.out.mono ?_
      rintro r w' ⟨⟨n, rfl⟩, hR⟩
      dsimp only
      go_wp2_with fail
      exact hR
    · obtain ⟨f, hF⟩ : ∃ f : Nat, d.fails = f + 2 := ⟨d.fails - 2, by omega⟩
      have e7 : ((d.fails - 1 : Nat) : Int) = (f : Int) + 1 := by omega
      rw [e7] at c7
      have hfz : (f : Int) ≤ 9223372036854775806 := by omega
      have hfn : ¬ ((f : Int) = 0) := by omega
      have hb2 : But (· = g) w ((w.setCell ⟨g, 6, none⟩ (.int .i64 (a : Int))).setCell ⟨g, 7, none⟩ (.int .i64 (f : Int))) := hbb.set ⟨g, 7, none⟩ _ (.inl rfl)
      have hD1 : DkAt B S ((w.setCell ⟨g, 6, none⟩ (.int .i64 (a : Int))).setCell ⟨g, 7, none⟩ (.int .i64 (f : Int))) g F L d.op.1 e := by
        refine h.op hb2 ?_
        rw [hop, row_set r1 7]
        unfold dcells
        rw [hA, hF, if_pos (by omega)]
        have e9 : ((f + 2 - 1 - 1 : Nat) : Int) = (f : Int) := by omega
        rw [e9]
        have e3 : ((a + 2 - 1 : Nat) : Int) - 1 = (a : Int) := by omega
        rw [e3]
        rfl
      have HF := hid (hf _ hD1 hb2)
      clear h hb ha hfa hd0 hfe hae h0 hf h2 hz hD1 hop hA hF hbb r1 hb2
      go_enter Try.func34, Try.ntmps34
      go_wp2_with fail
      refine HF.out.mono ?_
      rintro r w' ⟨⟨n, rfl⟩, hR⟩
      dsimp only
      go_wp2_with fail
      exact hR
end Go.Proofs.Ytpeepohiajmhcaa
/-
  The contracts of the disk's small calls: Size, Synced, Down, Arm, Fail; settle and start.
-/
namespace Go.Proofs.Ytpeepohiajmhcaa
open Go.RowKit

theorem own_sl {w : World} {base n : Nat} {v : Value} {xs : List Value} (h : w.ownsRow base 5 1 v n xs) : ∃ A c, v = .slice A n c := by
  rcases h.2 with ⟨rfl, rfl⟩ | ⟨g, cap, cur, rfl, _⟩
  · exact ⟨_, _, rfl⟩
  · exact ⟨_, _, rfl⟩
set_option maxRecDepth 10000 in
set_option maxHeartbeats 1000000 in
theorem Size_any {B : Nat} {S : Nat → Prop} {w : World} {g : Nat} {F L : Value} {d : Dk} {e : Int} (h : DkAt B S w g F L d e) :
    Calls Try.prog 10 #[.pointer (some ⟨g, 0, none⟩)] w fun r w' => r = .returned (.int .i64 (d.now.length : Nat)) ∧ w = w' := by
  have HM := hid (made_any h)
  obtain ⟨A, c, rfl⟩ := own_sl h.ff
  have c2 := h.cells.2.2.1
  clear h
  go_enter Try.func10, Try.ntmps10
  go_wp2_with (go_at_call 32; refine HM.out.mono ?_; rintro r w' ⟨rfl, rfl⟩)
  go_ret
  exact ⟨rfl, rfl⟩
/-- Armed with n. -/
def Dk.arm (d : Dk) (n : Int) : Dk × Nat := if n < 0 then (d, 2) else ({ d with armed := n.toNat + 1 }, 0)
def Dk.fail (d : Dk) (n e : Int) : Dk × Nat := if n < 1 ∨ (e ≠ 10 ∧ e ≠ 5) then (d, 2) else ({ d with fails := n.toNat + 1, err := e.toNat }, 0)
set_option maxRecDepth 10000 in
set_option maxHeartbeats 1000000 in
theorem Arm_any {B : Nat} {S : Nat → Prop} {w : World} {g : Nat} {F L : Value} {d : Dk} {e : Int} (h : DkAt B S w g F L d e) (n : Int) (hn : n ≤ 9223372036854775807) :
    Calls Try.prog 38 #[.pointer (some ⟨g, 0, none⟩), .int .i64 n] w fun r w' => r = .returned (.int .i64 ((d.arm n).2 : Nat)) ∧ DkAt B S w' g F L (d.arm n).1 e ∧ But (· = g) w w' := by
  have HM := hid (made_any h)
  have c6 := h.cells.2.2.2.2.2.2.1
  have f6 := row_free h.row 6
  by_cases h0 : n < 0
  · have H := hid h
    have ee : d.arm n = (d, 2) := by unfold Dk.arm; rw [if_pos h0]
    clear h
    go_enter Try.func38, Try.ntmps38
    go_wp2_with (go_at_call 32; refine HM.out.mono ?_; rintro r w' ⟨rfl, rfl⟩)
    go_ret
    rw [ee]
    exact ⟨rfl, H.out, But.refl _ w⟩
  · have ee : d.arm n = ({ d with armed := n.toNat + 1 }, 0) := by unfold Dk.arm; rw [if_neg h0]
    have hbb : But (· = g) w (w.setCell ⟨g, 6, none⟩ (.int .i64 n)) := (But.refl (· = g) w).set ⟨g, 6, none⟩ _ (.inl rfl)
    have Hfin : Hid (DkAt B S (w.setCell ⟨g, 6, none⟩ (.int .i64 n)) g F L (d.arm n).1 e ∧ But (· = g) w (w.setCell ⟨g, 6, none⟩ (.int .i64 n))) := by
      refine ⟨h.turn hbb ?_ (by rw [ee]) (by rw [ee]) (by rw [ee]) (by rw [ee]; exact ⟨h.ok.fn, h.ok.fo, h.ok.same, h.ok.mx, h.ok.mo, h.ok.m4, h.ok.fa⟩) (by rw [ee]; exact h.er) (by rw [ee]; show n.toNat + 1 ≤ _; omega) (by rw [ee]; exact h.fe), hbb⟩
      rw [row_set h.row 6, ee]
      unfold dcells
      have e3 : ((n.toNat + 1 : Nat) : Int) - 1 = n := by omega
      rw [e3]
      rfl
    have hnn : 0 ≤ n := by omega
    clear h hbb h0
    go_enter Try.func38, Try.ntmps38
    go_wp2_with (go_at_call 32; refine HM.out.mono ?_; rintro r w' ⟨rfl, rfl⟩)
    go_ret
    rw [ee] at Hfin ⊢
    exact ⟨rfl, Hfin.out.1, Hfin.out.2⟩
set_option maxRecDepth 10000 in
set_option maxHeartbeats 1000000 in
theorem Fail_any {B : Nat} {S : Nat → Prop} {w : World} {g : Nat} {F L : Value} {d : Dk} {e : Int} (h : DkAt B S w g F L d e) (n x : Int) (hn : n ≤ 9223372036854775807) :
    Calls Try.prog 9 #[.pointer (some ⟨g, 0, none⟩), .int .i64 n, .int .i64 x] w fun r w' => r = .returned (.int .i64 ((d.fail n x).2 : Nat)) ∧ (∃ e', DkAt B S w' g F L (d.fail n x).1 e') ∧ But (· = g) w w' := by
  have HM := hid (made_any h)
  obtain ⟨_, _, _, _, _, _, _, c7, c8⟩ := h.cells
  have f7 := row_free h.row 7
  have f8 := row_free h.row 8
  by_cases h0 : n < 1 ∨ (x ≠ 10 ∧ x ≠ 5)
  · have H := hid h
    have ee : d.fail n x = (d, 2) := by unfold Dk.fail; rw [if_pos h0]
    clear h
    by_cases h1 : n < 1
    · clear h0
      go_enter Try.func9, Try.ntmps9
      go_wp2_with (go_at_call 32; refine HM.out.mono ?_; rintro r w' ⟨rfl, rfl⟩)
      go_ret
      rw [ee]
      exact ⟨rfl, ⟨e, H.out⟩, But.refl _ w⟩
    · have h2 : x ≠ 10 := by omega
      have h3 : x ≠ 5 := by omega
      have h4 : 1 ≤ n := by omega
      have b2 : (x != 10) = true := by simpa using h2
      have b3 : (x != 5) = true := by simpa using h3
      clear h0
      go_enter Try.func9, Try.ntmps9
      go_wp2_with (go_at_call 32; refine HM.out.mono ?_; rintro r w' ⟨rfl, rfl⟩)
      go_ret
      rw [ee]
      exact ⟨rfl, ⟨e, H.out⟩, But.refl _ w⟩
  · have ee : d.fail n x = ({ d with fails := n.toNat + 1, err := x.toNat }, 0) := by unfold Dk.fail; rw [if_neg h0]
    have hbb : But (· = g) w ((w.setCell ⟨g, 7, none⟩ (.int .i64 n)).setCell ⟨g, 8, none⟩ (.int .i64 x)) := ((But.refl (· = g) w).set ⟨g, 7, none⟩ _ (.inl rfl)).set ⟨g, 8, none⟩ _ (.inl rfl)
    have h4 : 1 ≤ n := by omega
    have Hfin : Hid (DkAt B S ((w.setCell ⟨g, 7, none⟩ (.int .i64 n)).setCell ⟨g, 8, none⟩ (.int .i64 x)) g F L (d.fail n x).1 x ∧ But (· = g) w ((w.setCell ⟨g, 7, none⟩ (.int .i64 n)).setCell ⟨g, 8, none⟩ (.int .i64 x))) := by
      refine ⟨h.turn hbb ?_ (by rw [ee]) (by rw [ee]) (by rw [ee]) (by rw [ee]; exact ⟨h.ok.fn, h.ok.fo, h.ok.same, h.ok.mx, h.ok.mo, h.ok.m4, by show n.toNat + 1 ≠ 1; omega⟩) (by rw [ee]; intro _; show x = ((x.toNat : Nat) : Int) ∧ x.toNat ≠ 0; omega) (by rw [ee]; exact h.ae) (by rw [ee]; show n.toNat + 1 ≤ _; omega), hbb⟩
      have r1 := row_set h.row 7 (.int .i64 n)
      rw [row_set r1 8, ee]
      unfold dcells
      have e3 : ((n.toNat + 1 - 1 : Nat) : Int) = n := by omega
      rw [e3]
      rfl
    by_cases h5 : x = 10
    · subst h5
      clear h hbb h0
      go_enter Try.func9, Try.ntmps9
      go_wp2_with (go_at_call 32; refine HM.out.mono ?_; rintro r w' ⟨rfl, rfl⟩)
      go_ret
      rw [ee] at Hfin ⊢
      exact ⟨rfl, ⟨_, Hfin.out.1⟩, Hfin.out.2⟩
    · obtain rfl : x = 5 := by omega
      clear h hbb h0 h5
      go_enter Try.func9, Try.ntmps9
      go_wp2_with (go_at_call 32; refine HM.out.mono ?_; rintro r w' ⟨rfl, rfl⟩)
      go_ret
      rw [ee] at Hfin ⊢
      exact ⟨rfl, ⟨_, Hfin.out.1⟩, Hfin.out.2⟩
/-- All is synced: the old file is the file. -/
def Dk.settled (d : Dk) : Dk := { d with old := d.now, floor := d.now.length }
theorem settled_ok {d : Dk} (h : d.Ok) : d.settled.Ok := ⟨Nat.le_refl _, Nat.le_refl _, rfl, h.mx, h.mx, h.m4, h.fa⟩
theorem DkAt.settled {B : Nat} {S : Nat → Prop} {w w' : World} {g : Nat} {F L : Value} {d d' : Dk} {e e' : Int} (h : DkAt B S w g F L d e) (b : But (· = g) w w')
    (hr : w'.heap[g]? = some (.cells (dcells g F (.slice none 0 0) d' e') 32 (0, 0))) (e1 : d'.now = d.now) (e2 : d'.old = d.now) (e3 : d'.floor = d.now.length) (ok : d'.Ok) (er : d'.fails ≠ 0 → e' = (d'.err : Nat) ∧ d'.err ≠ 0) (ae : d'.armed ≤ 9223372036854775808) (fe : d'.fails ≤ 9223372036854775808) :
    DkAt B S w' g F (.slice none 0 0) d' e' := by
  have h1 := own_gne h.ff h.row (by decide)
  refine ⟨hr, ?_, ?_, fun k _ e => (by cases e), h.sg, h.sf, fun k e => (by cases e), fun i hi => ⟨(h.lt i hi).1, Nat.lt_of_lt_of_le (h.lt i hi).2 b.size⟩, ok, er, ae, fe⟩
  · rw [e1]; exact ownsRow_but h.ff b h1
  · rw [e2, e3, List.drop_length, Nat.sub_self]; exact World.ownsRow_nil w' _ _ _
set_option maxRecDepth 10000 in
set_option maxHeartbeats 1000000 in
theorem settle_any {B : Nat} {S : Nat → Prop} {w : World} {g : Nat} {F L : Value} {d : Dk} {e : Int} (h : DkAt B S w g F L d e) :
    Calls Try.prog 37 #[.pointer (some ⟨g, 0, none⟩)] w fun r w' => r = .returned noResult ∧ DkAt B S w' g F (.slice none 0 0) d.settled e ∧ But (· = g) w w' := by
  obtain ⟨A, c, rfl⟩ := own_sl h.ff
  obtain ⟨_, _, c2, c3, c4, _, _, _, _⟩ := h.cells
  have f3 := row_free h.row 3
  have f4 := row_free h.row 4
  have hbb : But (· = g) w ((w.setCell ⟨g, 3, none⟩ (.int .i64 (d.now.length : Nat))).setCell ⟨g, 4, none⟩ (.slice none 0 0)) := ((But.refl (· = g) w).set ⟨g, 3, none⟩ _ (.inl rfl)).set ⟨g, 4, none⟩ _ (.inl rfl)
  have r1 := row_set h.row 3 (.int .i64 (d.now.length : Nat))
  have r2 := row_set r1 4 (.slice none 0 0)
  have Hfin := hid (And.intro (h.settled (d' := d.settled) (e' := e) hbb (by rw [r2]; rfl) rfl rfl rfl (settled_ok h.ok) h.er h.ae h.fe) hbb)
  obtain ⟨AL, cL, hL⟩ := own_sl h.ll
  rw [hL] at c4
  clear h hbb r1 r2
  go_enter Try.func37, Try.ntmps37
  go_wp2_with fail
  go_end0
  exact ⟨rfl, Hfin.out.1, Hfin.out.2⟩
/-- The disk put up with its file. -/
def Dk.up (d : Dk) : Dk := { d with old := d.now, floor := d.now.length, down := false, armed := 0, fails := 0 }
theorem up_ok {d : Dk} (h : d.Ok) : d.up.Ok := ⟨Nat.le_refl _, Nat.le_refl _, rfl, h.mx, h.mx, h.m4, by show (0 : Nat) ≠ 1; decide⟩
set_option maxRecDepth 10000 in
set_option maxHeartbeats 1000000 in
theorem start_any {B : Nat} {S : Nat → Prop} {w : World} {g : Nat} {F L : Value} {d : Dk} {e : Int} (h : DkAt B S w g F L d e) :
    Calls Try.prog 41 #[.pointer (some ⟨g, 0, none⟩)] w fun r w' => r = .returned noResult ∧ DkAt B S w' g F (.slice none 0 0) d.up e ∧ But (· = g) w w' := by
  have HS := hid (settle_any h)
  clear h
  go_enter Try.func41, Try.ntmps41
  go_wp2_with (go_at_call 37; refine HS.out.mono ?_; rintro r w1 ⟨rfl, h1, b1⟩; obtain ⟨_, _, _, _, _, c5, c6, c7, _⟩ := h1.cells; have f5 := row_free h1.row 5; have f6 := row_free h1.row 6; have f7 := row_free h1.row 7; have H1 := hid h1; have HB := hid b1; clear h1 b1)
  go_end0
  have hbb : But (· = g) w (((w1.setCell ⟨g, 5, none⟩ (.bool false)).setCell ⟨g, 6, none⟩ (.int .i64 (-1))).setCell ⟨g, 7, none⟩ (.int .i64 0)) := (((HB.out.set ⟨g, 5, none⟩ _ (.inl rfl)).set ⟨g, 6, none⟩ _ (.inl rfl))).set ⟨g, 7, none⟩ _ (.inl rfl)
  have hb1 : But (· = g) w1 (((w1.setCell ⟨g, 5, none⟩ (.bool false)).setCell ⟨g, 6, none⟩ (.int .i64 (-1))).setCell ⟨g, 7, none⟩ (.int .i64 0)) := ((((But.refl (· = g) w1).set ⟨g, 5, none⟩ _ (.inl rfl)).set ⟨g, 6, none⟩ _ (.inl rfl))).set ⟨g, 7, none⟩ _ (.inl rfl)
  refine ⟨rfl, H1.out.turn hb1 ?_ rfl rfl rfl (up_ok (d := d.settled) H1.out.ok) (fun hf => absurd rfl hf) (Nat.zero_le _) (Nat.zero_le _), hbb⟩
  have r1 := row_set H1.out.row 5 (.bool false)
  have r2 := row_set r1 6 (.int .i64 (-1))
  rw [row_set r2 7]
  rfl
theorem nil_nil (n c : Nat) (w : World) : (binOp BinOp.eql 29 (.slice none n c) (.slice none 0 0)).run Try.prog w = .ok (.bool true) w := by kernel_rfl
theorem some_nil (a : Addr) (n c : Nat) (w : World) : (binOp BinOp.eql 29 (.slice (some a) n c) (.slice none 0 0)).run Try.prog w = .ok (.bool false) w := by kernel_rfl
set_option maxHeartbeats 1000000 in
set_option maxRecDepth 10000 in
theorem Clone_any (A : Option Addr) (l : List UInt8) (n c : Nat) (w : World) (h : IsBB w w.heap.size A n c l) :
    Calls Try.prog 42 #[.slice A n c] w fun e w' => ∃ v, e = .returned v ∧ w'.ownsRow w.heap.size 5 1 v n (l.map bv) ∧ Below w.heap.size w w' := by
  obtain ⟨i0, hi, hz0, hz1, hz2⟩ := info_parts Try.info5
  have Hlen := hid h.len
  have hs := h.small
  rcases A with _ | ad
  · have hn : n = 0 := by
      rcases Nat.eq_zero_or_pos n with h0 | h0
      · exact h0
      · obtain ⟨ad, e, _⟩ := h.lies (by rw [Hlen.out]; exact h0)
        cases e
    subst hn
    obtain rfl : l = [] := List.eq_nil_of_length_eq_zero Hlen.out
    go_enter Try.func42, Try.ntmps42
    have hnn := nil_nil 0 c
    go_wp2
    go_ret
    exact ⟨_, rfl, ⟨by simp, .inl ⟨rfl, rfl⟩⟩, Below.refl _ _⟩
  · have hnn := some_nil ad n c
    go_enter Try.func42, Try.ntmps42
    have h0 : (w.alloc (.cells #[] 5)).ownsRow w.heap.size 5 1 (.slice (some ⟨w.heap.size, 0, none⟩) 0 0) 0 [] := World.ownsRow_made w #[] 0 (Nat.le_refl _) (Nat.zero_le _) rfl
    have hb0 : Below w.heap.size w (w.alloc (.cells #[] 5)) := (Below.refl _ w).alloc (Nat.le_refl _) _
    go_wp2_with (at_builtin; go_loud (refine wpList_append_own _ rfl _ _ 29 rfl w.heap.size 5 i0 (.int .u8 0) 1 1 Try.underlying29 hi hz0 hz1 hz2 rfl (by decide) (.slice (some ⟨w.heap.size, 0, none⟩) 0 0) 0 [] rfl h0 ad n c (l.map bv) rfl ?c0 ?c1 (bv_one l) ?c3 ?c4 ?c5 ?_))
    case c0 => rw [List.length_map, Hlen.out, Nat.mul_one]
    case c1 =>
      intro j u hu
      have hp : 0 < (l.map bv).length := by
        have := (List.getElem?_eq_some_iff.1 hu).1
        omega
      obtain ⟨ad', e, hc⟩ := h.src hb0 hp
      cases e
      exact hc j u hu
    case c3 => unfold maxLen; omega
    case c4 => omega
    case c5 => exact hb0.size
    intro v' w1 hown hgrow _
    go_wp2
    go_ret
    exact ⟨_, rfl, by simpa using hown, hb0.grown hgrow hb0.size (fun k e => by cases e; exact Nat.le_refl _)⟩
end Go.Proofs.Ytpeepohiajmhcaa
/-
  The contracts of Load, New and Image.
-/
namespace Go.Proofs.Ytpeepohiajmhcaa
open Go.RowKit

def Dk.load (m : Nat) (l : List UInt8) : Dk := { most := m, now := l, old := l, floor := l.length, down := false, armed := 0, fails := 0, err := 0 }
def Dk.raw (m : Nat) (l : List UInt8) : Dk := { most := m, now := l, old := [], floor := 0, down := false, armed := 1, fails := 0, err := 0 }
def LdOk (m : Int) (n : Nat) : Prop := 0 ≤ m ∧ m ≤ 4194304 ∧ (n : Int) ≤ m

theorem own_base {w : World} {base b2 e s n : Nat} {v : Value} {xs : List Value} (h : w.ownsRow base e s v n xs) (hb : b2 ≤ base) : w.ownsRow b2 e s v n xs := by
  refine ⟨h.1, ?_⟩
  rcases h.2 with h2 | ⟨g, cap, cur, rfl, hg, r⟩
  · exact .inl h2
  · exact .inr ⟨g, cap, cur, rfl, Nat.le_trans hb hg, r⟩
set_option maxRecDepth 10000 in
set_option maxHeartbeats 1000000 in
theorem Load_bad (m : Int) (A : Option Addr) (n c : Nat) (w : World) (h : ¬ LdOk m n) :
    Calls Try.prog 26 #[.int .i64 m, .slice A n c] w fun r w' => r = .returned (.tuple #[.pointer none, .int .i64 2]) ∧ w = w' := by
  by_cases h1 : m < 0
  · clear h
    go_enter Try.func26, Try.ntmps26
    go_wp2_with fail
    go_ret2
    exact ⟨rfl, rfl⟩
  · have h1' : 0 ≤ m := by omega
    by_cases h2 : 4194304 < m
    · clear h h1
      go_enter Try.func26, Try.ntmps26
      go_wp2_with fail
      go_ret2
      exact ⟨rfl, rfl⟩
    · have h2' : m ≤ 4194304 := by omega
      have h3 : m < (n : Int) := by unfold LdOk at h; omega
      clear h h1 h2
      go_enter Try.func26, Try.ntmps26
      go_wp2_with fail
      go_ret2
      exact ⟨rfl, rfl⟩
/-- A struct that was just laid. -/
theorem raw_at {w w1 : World} {m : Nat} {l : List UInt8} {F : Value} (ho : w1.ownsRow w.heap.size 5 1 F l.length (l.map bv)) (hb : Below w.heap.size w w1) (hm : m ≤ 4194304) (hn : l.length ≤ m) :
    DkAt w.heap.size (fun i => w.heap.size ≤ i ∧ i < w1.heap.size + 1) (w1.alloc (.cells (dcells w1.heap.size F (.slice none 0 0) (Dk.raw m l) 0) 32)) w1.heap.size F (.slice none 0 0) (Dk.raw m l) 0 := by
  have hs := hb.size
  refine ⟨heap_alloc_new w1 _, own_base (ho.alloc _) (Nat.zero_le _), World.ownsRow_nil _ _ _ _, fun k _ e => (by cases e), ⟨hs, Nat.lt_succ_self _⟩, fun k hk => ?_, fun k e => (by cases e), fun i hi => ⟨hi.1, by rw [World.size_alloc]; exact hi.2⟩, ?_, fun h => absurd rfl h, by show (1 : Nat) ≤ _; decide, Nat.zero_le _⟩
  · have := own_lt ho k hk; exact ⟨this.1, by omega⟩
  · exact ⟨Nat.zero_le _, Nat.zero_le _, rfl, hn, Nat.zero_le _, hm, by show (0 : Nat) ≠ 1; decide⟩
set_option maxRecDepth 10000 in
set_option maxHeartbeats 2000000 in
theorem Load_any (m : Nat) (A : Option Addr) (n c : Nat) (l : List UInt8) (w : World) (hl : IsBB w w.heap.size A n c l) (hm : m ≤ 4194304) (hn : n ≤ m) :
    Calls Try.prog 26 #[.int .i64 (m : Nat), .slice A n c] w fun r w' => ∃ g S F, r = .returned (.tuple #[.pointer (some ⟨g, 0, none⟩), .int .i64 0]) ∧ DkAt w.heap.size S w' g F (.slice none 0 0) (Dk.load m l) 0 ∧ Below w.heap.size w w' := by
  have HC := hid (Clone_any A l n c w hl)
  obtain rfl : l.length = n := hl.len
  have Hm := hid hm
  have Hn := hid hn
  have h1 : (0 : Int) ≤ (m : Int) := by omega
  have h2 : (m : Int) ≤ 4194304 := by omega
  have h3 : (l.length : Int) ≤ (m : Int) := by omega
  clear hl hm hn
  go_enter Try.func26, Try.ntmps26
  go_wp2_with (first
    | (go_at_call 42; refine HC.out.mono ?_; rintro r w1 ⟨v, rfl, ho, hb⟩; obtain ⟨A1, c1, rfl⟩ := own_sl ho; have HO := hid (raw_at ho hb Hm.out Hn.out); have HB := hid ((hb.alloc hb.size (.cells (dcells w1.heap.size (.slice A1 l.length c1) (.slice none 0 0) (Dk.raw m l) 0) 32))); have Hsz := hid hb.size; clear ho hb HC)
    | (go_at_call 41; refine (start_any HO.out).mono ?_; rintro r w2 ⟨rfl, h2, b2⟩; have H2 := hid h2; have HB2 := hid (But.below b2 (B := w.heap.size) (by rintro i rfl; exact Hsz.out) HB.out.size); clear h2 b2))
  go_ret2
  exact ⟨_, _, _, rfl, H2.out, HB.out.trans HB2.out⟩
set_option maxRecDepth 10000 in
set_option maxHeartbeats 1000000 in
theorem New_any (m : Nat) (w : World) (hm : m ≤ 4194304) :
    Calls Try.prog 6 #[.int .i64 (m : Nat)] w fun r w' => ∃ g S F, r = .returned (.tuple #[.pointer (some ⟨g, 0, none⟩), .int .i64 0]) ∧ DkAt w.heap.size S w' g F (.slice none 0 0) (Dk.load m []) 0 ∧ Below w.heap.size w w' := by
  have HL := hid (Load_any m none 0 0 [] w (isBB_nil w _) hm (Nat.zero_le _))
  clear hm
  go_enter Try.func6, Try.ntmps6
  go_wp2_with (go_at_call 26; refine HL.out.mono ?_; rintro r w1 ⟨g, S, F, rfl, h1, b1⟩; have H1 := hid h1; have HB := hid b1; clear h1 b1)
  go_ret2
  exact ⟨_, _, _, rfl, H1.out, HB.out⟩
set_option maxRecDepth 10000 in
set_option maxHeartbeats 1000000 in
theorem New_bad (m : Int) (w : World) (hm : ¬ LdOk m 0) :
    Calls Try.prog 6 #[.int .i64 m] w fun r w' => r = .returned (.tuple #[.pointer none, .int .i64 2]) ∧ w = w' := by
  have HL := hid (Load_bad m none 0 0 w hm)
  clear hm
  go_enter Try.func6, Try.ntmps6
  go_wp2_with (go_at_call 26; refine HL.out.mono ?_; rintro r w1 ⟨rfl, rfl⟩)
  go_ret2
  exact ⟨rfl, rfl⟩
set_option maxRecDepth 10000 in
set_option maxHeartbeats 1000000 in
theorem Image_any {B : Nat} {S : Nat → Prop} {w : World} {g : Nat} {F L : Value} {d : Dk} {e : Int} (h : DkAt B S w g F L d e) :
    Calls Try.prog 23 #[.pointer (some ⟨g, 0, none⟩)] w fun r w' => ∃ v, r = .returned v ∧ w'.ownsRow w.heap.size 5 1 v d.now.length (d.now.map bv) ∧ Below w.heap.size w w' := by
  have HM := hid (made_any h)
  have hmx := h.ok.mx
  have hm4 := h.ok.m4
  obtain ⟨A, c, rfl, hF⟩ := own_isBB h.ff (by omega)
  have HC := hid (Clone_any A d.now _ c w hF)
  have c2 := h.cells.2.2.1
  clear h hF hmx hm4
  go_enter Try.func23, Try.ntmps23
  go_wp2_with (first
    | (go_at_call 32; refine HM.out.mono ?_; rintro r w' ⟨rfl, rfl⟩)
    | (go_at_call 42; refine HC.out.mono ?_; rintro r w1 ⟨v, rfl, ho, hb⟩; have HO := hid ho; have HB := hid hb; clear ho hb))
  go_ret
  exact ⟨_, rfl, HO.out, HB.out⟩
end Go.Proofs.Ytpeepohiajmhcaa
/-
  append on a disk's file, as a step of a drawn region; the disk behind it.
-/
namespace Go.Proofs.Ytpeepohiajmhcaa
open Go.RowKit

/-- What an append to v has done. -/
structure Apd (w w' : World) (v v' : Value) (n : Nat) (xs : List Value) : Prop where
  own : w'.ownsRow 0 5 1 v' n xs
  grown : w.grownBy w' v.ownBlock
  keeps : Keeps w w' v v'
  fresh : v'.ownBlock = v.ownBlock ∨ ∃ k, v'.ownBlock = some k ∧ w.heap.size ≤ k
theorem run_append_some {w : World} {ty : TypeId} {v : Value} {n : Nat} {l : List UInt8} (hown : w.ownsRow 0 5 1 v n (l.map bv))
    (A : Option Addr) (m c : Nat) (l2 : List UInt8) (hB : IsB w A m c l2) (h48 : n + m ≤ 140737488355328) :
    ∃ v' w', (Builtin.append_ #[29, 29] ty #[v, .slice A m c]).run Try.prog w = .ok v' w' ∧ Apd w w' v v' (n + m) ((l ++ l2).map bv) := by
  rcases A with _ | ad
  · have hm : m = 0 := by
      rcases Nat.eq_zero_or_pos m with h0 | h0
      · exact h0
      · obtain ⟨ad, e, _⟩ := hB.lies (by rw [hB.len]; exact h0)
        cases e
    subst hm
    obtain rfl : l2 = [] := List.eq_nil_of_length_eq_zero hB.len
    refine ⟨v, w, run_append_nilc c hown, ⟨by simpa using hown, World.grownBy.refl w _, fun _ _ _ _ hu ha => ⟨hu, ha⟩, .inl rfl⟩⟩
  · have hc : ∀ j u, (l2.map bv)[j]? = some u → w.cell? (ad.add j) = some u := by
      intro j u hu
      have hj : j < l2.length := by have e := (List.getElem?_eq_some_iff.1 hu).1; simpa using e
      obtain ⟨ad', e, hc⟩ := hB.lies (by omega)
      cases e
      rw [map_bv_getElem? l2 j hj] at hu
      cases hu
      exact hc j hj
    obtain ⟨v', w', hr, h2, h3, h4, h5⟩ := run_append_fresh (ty := ty) hown ad m c (l2.map bv) (by rw [List.length_map, hB.len]) hc (bv_one l2) h48 (Nat.zero_le _)
    exact ⟨v', w', hr, ⟨by rw [List.map_append]; exact h2, h3, h4, h5⟩⟩
theorem step_append_dk {ops : Array Oper} {o : Oper} {a : Act} {K : Act → World → Prop} {Q : Exit → Act → World → Prop} {E : Prop} (hgd : o.guard = none) (s x : Operand)
    (ho : o.op = .call { callee := .builtin .append, args := #[s, x], argTypes := #[29, 29] }) (w : World) (v : Value) (n : Nat) (l : List UInt8) (hs : a.eval s = v) (hown : w.ownsRow 0 5 1 v n (l.map bv))
    (A : Option Addr) (m c : Nat) (l2 : List UInt8) (hx : a.eval x = .slice A m c) (hB : IsB w A m c l2) (h48 : n + m ≤ 140737488355328)
    (hK : ∀ A' c' w', Hid (Apd w w' v (.slice A' (n + m) c') (n + m) ((l ++ l2).map bv)) → K (a.put o.dst (.slice A' (n + m) c')) w') :
    if Region.wanted o (yielded ops a.tmps) = true then Oper.wp Try.prog o a w K Q else E := by
  have hw : Region.wanted o (yielded ops a.tmps) = true := by simp [Region.wanted, hgd]
  rw [if_pos hw]
  obtain ⟨v', w', hr, ha⟩ := run_append_some (ty := o.type) hown A m c l2 hB h48
  obtain ⟨A', c', rfl⟩ : ∃ A' c', v' = .slice A' (n + m) c' := by
    rcases ha.own.2 with ⟨rfl, h0⟩ | ⟨g, cap, cur, rfl, _⟩
    · exact ⟨_, _, by rw [h0]⟩
    · exact ⟨_, _, rfl⟩
  unfold Oper.wp execOp
  simp only [ho, resolve, invoke, builtin, Sem.run_bind, Sem.run_pure, Result.andThen_ok, List.map_toArray, List.map_cons, List.map_nil, hs, hx, hr]
  exact hK _ _ _ ha
/-- The disk when its file is turned to F' in field 2. -/
theorem DkAt.appd {B : Nat} {S : Nat → Prop} {w w2 : World} {g : Nat} {F L F' : Value} {d : Dk} {e : Int} {l : List UInt8} (h : DkAt B S w g F L d e) (hl : d.now.length + l.length ≤ d.most) (ha : Apd w w2 F F' (d.now.length + l.length) ((d.now ++ l).map bv)) :
    DkAt B (fun i => S i ∨ F'.ownBlock = some i) (w2.setCell ⟨g, 2, none⟩ F') g F' L { d with now := d.now ++ l } e ∧ Stp S (fun i => S i ∨ F'.ownBlock = some i) w (w2.setCell ⟨g, 2, none⟩ F') := by
  have hF := own_gne h.ff h.row (by decide)
  have hgF : some g ≠ F.ownBlock := fun e => hF g e.symm rfl
  have hrow : w2.heap[g]? = some (.cells (dcells g F L d e) 32 (0, 0)) := (ha.grown.block g (lt_of_heap h.row) hgF).trans h.row
  have hF2 := own_gne ha.own hrow (by decide)
  obtain ⟨hL, hap⟩ := ha.keeps 0 L _ _ h.ll h.ap
  have hL2 := own_gne hL hrow (by decide)
  have bg : But (· = g) w2 (w2.setCell ⟨g, 2, none⟩ F') := (But.refl (· = g) w2).set _ _ (.inl rfl)
  have b2 : But S w w2 := (But.refl S w).grown ha.grown (fun k hk => .inl (h.sf k hk))
  refine ⟨⟨?_, ?_, ownsRow_but hL bg hL2, hap, .inl h.sg, fun k hk => .inr hk, fun k hk => .inl (h.sl k hk), ?_, ?_, h.er, h.ae, h.fe⟩, b2.set _ _ (.inl h.sg), ?_⟩
  · rw [row_set hrow 2]; rfl
  · rw [List.length_append]; exact ownsRow_but ha.own bg hF2
  · intro i hi
    rw [World.size_setCell]
    rcases hi with hi | hi
    · exact ⟨(h.lt i hi).1, Nat.lt_of_lt_of_le (h.lt i hi).2 ha.grown.size⟩
    · refine ⟨?_, (own_lt ha.own i hi).2⟩
      rcases ha.fresh with h1 | ⟨k, h1, h2⟩
      · exact (h.lt i (h.sf i (h1 ▸ hi))).1
      · rw [h1] at hi
        cases hi
        have := (h.lt g h.sg)
        omega
  · refine ⟨?_, h.ok.fo, ?_, ?_, h.ok.mo, h.ok.m4, h.ok.fa⟩
    · show d.floor ≤ (d.now ++ l).length
      rw [List.length_append]; have := h.ok.fn; omega
    · show (d.now ++ l).take d.floor = d.old.take d.floor
      rw [List.take_append_of_le_length h.ok.fn]; exact h.ok.same
    · show (d.now ++ l).length ≤ d.most
      rw [List.length_append]; exact hl
  · intro i hi
    rcases hi with hi | hi
    · exact .inl hi
    · rcases ha.fresh with h1 | ⟨k, h1, h2⟩
      · exact .inl (h.sf i (h1 ▸ hi))
      · rw [h1] at hi
        cases hi
        exact .inr h2
end Go.Proofs.Ytpeepohiajmhcaa
/-
  The contracts of Sync and Append.
-/
namespace Go.Proofs.Ytpeepohiajmhcaa
open Go.RowKit

theorem syn_of (d : Dk) (h : d.op.2 = 0) : d.syn = (d.op.1.settled, 0) := by
  obtain ⟨e1, _, _, _⟩ := op_now d
  unfold Dk.syn
  rw [if_neg (by simp [h]), ← e1]
  rfl
theorem syn_no (d : Dk) (h : d.op.2 ≠ 0) : d.syn = d.op := by unfold Dk.syn; rw [if_pos h]
set_option maxRecDepth 10000 in
set_option maxHeartbeats 1000000 in
theorem syn_clo {B : Nat} {S : Nat → Prop} {w : World} {g : Nat} {F L : Value} {d : Dk} {e : Int} (a : Addr) (h : DkAt B S w g F L d e) (hc : w.cell? a = some (.pointer (some ⟨g, 0, none⟩))) :
    Calls Try.prog 36 #[.pointer (some a)] w fun r w' => r = .returned (.int .i64 0) ∧ DkAt B S w' g F (.slice none 0 0) d.settled e ∧ But (· = g) w w' := by
  have HS := hid (settle_any h)
  clear h
  go_enter Try.func36, Try.ntmps36
  go_wp2_with (go_at_call 37; refine HS.out.mono ?_; rintro r w1 ⟨rfl, h1, b1⟩; have H1 := hid h1; have HB := hid b1; clear h1 b1 hc)
  go_ret
  exact ⟨rfl, H1.out, HB.out⟩
set_option maxRecDepth 10000 in
set_option maxHeartbeats 1000000 in
theorem Sync_any {B : Nat} {S : Nat → Prop} {w : World} {g : Nat} {F L : Value} {d : Dk} {e : Int} (h : DkAt B S w g F L d e) :
    Calls Try.prog 19 #[.pointer (some ⟨g, 0, none⟩)] w fun r w' => r = .returned (.int .i64 (d.syn.2 : Nat)) ∧ (∃ L', DkAt B S w' g F L' d.syn.1 e) ∧ But S w w' := by
  have hb0 : Below w.heap.size w (w.alloc (.cells #[.pointer (some ⟨g, 0, none⟩)] 22)) := (Below.refl _ w).alloc (Nat.le_refl _) _
  have h0 := h.below hb0
  have HM := hid (made_any h0)
  have hS : ∀ i, i = g → S i ∨ w.heap.size ≤ i := by rintro i rfl; exact .inl h.sg
  have hgl := lt_of_heap h.row
  have hbx : (w.alloc (.cells #[.pointer (some ⟨g, 0, none⟩)] 22)).cell? ⟨w.heap.size, 0, none⟩ = some (.pointer (some ⟨g, 0, none⟩)) := row_cell (heap_alloc_new w _) 0
  by_cases hop : d.op.2 = 0
  · rw [syn_of d hop]
    have HO : Hid (Calls Try.prog 34 #[.pointer (some ⟨g, 0, none⟩), .func (.func 36) #[] #[.pointer (some ⟨w.heap.size, 0, none⟩)]] (w.alloc (.cells #[.pointer (some ⟨g, 0, none⟩)] 22)) fun r w' => r = .returned (.int .i64 0) ∧ DkAt B S w' g F (.slice none 0 0) d.op.1.settled e ∧ But S w w') := by
      refine operate_yes 36 _ h0 hop (enters_of Try.func36 (by kernel_rfl) rfl) fun w1 h1 b1 => ?_
      refine (syn_clo ⟨w.heap.size, 0, none⟩ h1 (b1.cell hbx (by show ¬ w.heap.size = g; omega))).mono ?_
      rintro r w2 ⟨rfl, h2, b2⟩
      exact ⟨⟨_, rfl⟩, rfl, h2, ((But.of_below hb0 (S := S)).trans b1 hS).trans b2 hS⟩
    clear h hb0 h0 hS hgl hbx hop
    go_enter Try.func19, Try.ntmps19
    go_wp2_with (first
      | (go_at_call 32; refine HM.out.mono ?_; rintro r w' ⟨rfl, rfl⟩)
      | (go_at_call 34; refine HO.out.mono ?_; rintro r w2 ⟨rfl, h2, b2⟩; have H2 := hid h2; have HB := hid b2; clear h2 b2))
    go_ret
    exact ⟨rfl, ⟨_, H2.out⟩, HB.out⟩
  · rw [syn_no d hop]
    have HO := hid (operate_no 36 #[.pointer (some ⟨w.heap.size, 0, none⟩)] h0 hop)
    have HS := hid hS
    have HB0 := hid hb0
    clear h hb0 h0 hS hgl hbx hop
    go_enter Try.func19, Try.ntmps19
    go_wp2_with (first
      | (go_at_call 32; refine HM.out.mono ?_; rintro r w' ⟨rfl, rfl⟩)
      | (go_at_call 34; refine HO.out.mono ?_; rintro r w2 ⟨rfl, h2, b2⟩; have H2 := hid h2; have HB := hid ((But.of_below HB0.out (S := S)).trans b2 HS.out); clear h2 b2))
    go_ret
    exact ⟨rfl, ⟨_, H2.out⟩, HB.out⟩
theorem app_full (d : Dk) (b : List UInt8) (h : d.op.2 = 0) (hl : d.most < d.now.length + b.length) : d.app b = (d.op.1, 5) := by
  unfold Dk.app
  rw [if_neg (by simp [h]), if_pos hl]
theorem app_of (d : Dk) (b : List UInt8) (h : d.op.2 = 0) (hl : ¬ d.most < d.now.length + b.length) : d.app b = ({ d.op.1 with now := d.op.1.now ++ b }, 0) := by
  unfold Dk.app
  rw [if_neg (by simp [h]), if_neg hl, (op_now d).1]
theorem app_no (d : Dk) (b : List UInt8) (h : d.op.2 ≠ 0) : d.app b = d.op := by unfold Dk.app; rw [if_pos h]
set_option maxRecDepth 10000 in
set_option maxHeartbeats 1000000 in
theorem app_clo_full {B : Nat} {S : Nat → Prop} {w : World} {g : Nat} {F L : Value} {d : Dk} {e : Int} (a b : Addr) (A : Option Addr) (n c : Nat) (h : DkAt B S w g F L d e) (hc : w.cell? a = some (.pointer (some ⟨g, 0, none⟩))) (hb : w.cell? b = some (.slice A n c))
    (hl : d.most < d.now.length + n) (hn : n ≤ 140737488355328) :
    Calls Try.prog 49 #[.pointer (some b), .pointer (some a)] w fun r w' => r = .returned (.int .i64 5) ∧ ∃ k, w' = w.drewN k := by
  obtain ⟨AF, cF, rfl⟩ := own_sl h.ff
  obtain ⟨_, c1, c2, _, _, _, _, _, _⟩ := h.cells
  have hmx := h.ok.mx
  have hm4 := h.ok.m4
  have hlz : (d.most : Int) - (d.now.length : Int) < (n : Int) := by omega
  have hw : IntKind.i64.wrap ((d.most : Int) - (d.now.length : Int)) = (d.most : Int) - (d.now.length : Int) := IntWalk.i64_in _ (by omega)
  have h1 : (0 : Int) ≤ (d.most : Int) - (d.now.length : Int) := by omega
  have h2 : (d.most : Int) - (d.now.length : Int) ≤ 4194304 := by omega
  clear h hl hmx
  go_enter Try.func49, Try.ntmps49
  go_wp2_with fail
  go_quiet (fail)
  go_wp2_with fail
  go_ret
  exact ⟨rfl, _, rfl⟩
set_option maxRecDepth 10000 in
set_option maxHeartbeats 2000000 in
theorem app_clo {B : Nat} {S : Nat → Prop} {w : World} {g : Nat} {F L : Value} {d : Dk} {e : Int} (a b : Addr) (A : Option Addr) (n c : Nat) (l : List UInt8) (h : DkAt B S w g F L d e) (hc : w.cell? a = some (.pointer (some ⟨g, 0, none⟩))) (hb : w.cell? b = some (.slice A n c))
    (hi : IsB w A n c l) (hl : ¬ d.most < d.now.length + n) (ha : ¬ S a.block) :
    Calls Try.prog 49 #[.pointer (some b), .pointer (some a)] w fun r w' => r = .returned (.int .i64 0) ∧ ∃ F' S', DkAt B S' w' g F' L { d with now := d.now ++ l } e ∧ Stp S S' w w' := by
  obtain ⟨AF, cF, rfl⟩ := own_sl h.ff
  obtain ⟨_, c1, c2, _, _, _, _, _, _⟩ := h.cells
  have hmx := h.ok.mx
  have hm4 := h.ok.m4
  have hlz : ¬ (d.most : Int) - (d.now.length : Int) < (n : Int) := by omega
  have hw : IntKind.i64.wrap ((d.most : Int) - (d.now.length : Int)) = (d.most : Int) - (d.now.length : Int) := IntWalk.i64_in _ (by omega)
  have h1 : (0 : Int) ≤ (d.most : Int) - (d.now.length : Int) := by omega
  have h2 : (d.most : Int) - (d.now.length : Int) ≤ 4194304 := by omega
  have H := hid h
  clear h hl hmx
  go_enter Try.func49, Try.ntmps49
  go_wp2_with fail
  go_quiet (fail)
  go_wp2_with fail
  obtain ⟨w1, hw1⟩ : ∃ w1, w1 = w.drewN nq := ⟨_, rfl⟩
  have hcw : ∀ p, w1.cell? p = w.cell? p := by rw [hw1]; intro p; rfl
  have H1 : Hid (DkAt B S w1.drew g (.slice AF d.now.length cF) L d e ∧ IsB w1.drew A n c l ∧ Stp S S w w1.drew) := by
    subst hw1
    exact ⟨(H.out.drewN _).drew, (hi.drewN _).drewN 1, .of_but ((But.refl S w).drewN _).drew⟩
  rw [← hw1]
  rw [← hcw] at hc hb c2
  have f2 := row_free H1.out.1.row 2
  obtain ⟨hn, hl⟩ : l.length = n ∧ d.now.length + n ≤ d.most := ⟨hi.len, by omega⟩
  subst hn
  have Hl := hid hl
  have HS := hid ha
  have hcl : a.block < w1.heap.size := lt_of_cell hc
  have H5 : Hid (∀ (W : World) (v : Value), Apd w1.drew W (.slice AF d.now.length cF) v (d.now.length + l.length) ((d.now ++ l).map bv) → W.cell? a = some (.pointer (some ⟨g, 0, none⟩)) ∧ W.cell? ⟨g, 2, none⟩ = some (.slice AF d.now.length cF) ∧ W.frozen? ⟨g, 2, none⟩ = false) := by
    intro W v ha
    have hF := own_gne H1.out.1.ff H1.out.1.row (by decide)
    have hgF : some g ≠ (Value.slice AF d.now.length cF).ownBlock := fun e => hF g e.symm rfl
    have hrow : W.heap[g]? = some (.cells (dcells g (.slice AF d.now.length cF) L d e) 32 (0, 0)) := (ha.grown.block g (lt_of_heap H1.out.1.row) hgF).trans H1.out.1.row
    exact ⟨ha.grown.cell (w := w1.drew) hc (fun e => HS.out (H1.out.1.sf _ e.symm)), row_cell hrow 2, row_free hrow 2⟩
  clear hi ha hl hw1 hcw H hcl
  go_region_law (refine step_append_dk rfl (.tmp 20) (.tmp 21) rfl w1.drew _ d.now.length d.now rfl H1.out.1.ff A l.length c l rfl H1.out.2.1 (by omega) ?_; intro A2 n2 W2 hA2; obtain ⟨q1, q2, q3⟩ := H5.out _ _ hA2.out)
  all_goals
    go_wp2_with fail
    go_ret
    obtain ⟨k1, k2⟩ := H1.out.1.appd Hl.out hA2.out
    exact ⟨rfl, _, _, k1, H1.out.2.2.trans k2⟩
end Go.Proofs.Ytpeepohiajmhcaa
/-
  The contract of Append.
-/
namespace Go.Proofs.Ytpeepohiajmhcaa
open Go.RowKit

/-- Two new cells. -/
theorem two_new {w : World} (x y : Value) (t u : TypeId) : ∃ w0, w0 = (w.alloc (.cells #[x] t)).alloc (.cells #[y] u) ∧ Below w.heap.size w w0 ∧ w0.cell? ⟨w.heap.size, 0, none⟩ = some x ∧ w0.cell? ⟨w.heap.size + 1, 0, none⟩ = some y ∧ w0.heap.size = w.heap.size + 2 := by
  refine ⟨_, rfl, ((Below.refl _ w).alloc (Nat.le_refl _) _).alloc (by simp) _, ?_, ?_, by simp⟩
  · rw [row_cell (heap_alloc2_old w _ _)]; rfl
  · rw [row_cell (heap_alloc2_new w _ _)]; rfl
set_option maxRecDepth 10000 in
set_option maxHeartbeats 1000000 in
theorem Append_any {B : Nat} {S : Nat → Prop} {w : World} {g : Nat} {F L : Value} {d : Dk} {e : Int} (A : Option Addr) (n c : Nat) (l : List UInt8) (h : DkAt B S w g F L d e) (hi : Out S w A n c l) :
    Calls Try.prog 29 #[.pointer (some ⟨g, 0, none⟩), .slice A n c] w fun r w' => r = .returned (.int .i64 ((d.app l).2 : Nat)) ∧ ∃ F' S', DkAt B S' w' g F' L (d.app l).1 e ∧ Stp S S' w w' := by
  obtain ⟨w0, hw0, hb0, ca, cb, hs0⟩ := two_new (w := w) (.pointer (some ⟨g, 0, none⟩)) (.slice A n c) 22 29
  have h0 := h.below hb0
  have HM := hid (made_any h0)
  have hS : ∀ i, i = g → S i ∨ w.heap.size ≤ i := by rintro i rfl; exact .inl h.sg
  have hgl := lt_of_heap h.row
  have hsa : ¬ S w.heap.size := fun hs => by have := (h.lt _ hs).2; omega
  have hlen := hi.len
  have hsm := hi.small
  have b0 : But S w w0 := .of_below hb0
  by_cases hop : d.op.2 = 0
  · have hmost : d.op.1.most = d.most := (op_now d).2.2.2
    have hnow : d.op.1.now = d.now := (op_now d).1
    have HO : Hid (Calls Try.prog 34 #[.pointer (some ⟨g, 0, none⟩), .func (.func 49) #[] #[.pointer (some ⟨w.heap.size + 1, 0, none⟩), .pointer (some ⟨w.heap.size, 0, none⟩)]] w0 fun r w' => r = .returned (.int .i64 ((d.app l).2 : Nat)) ∧ ∃ F' S', DkAt B S' w' g F' L (d.app l).1 e ∧ Stp S S' w w') := by
      refine operate_yes 49 _ h0 hop (enters_of Try.func49 (by kernel_rfl) rfl) fun w1 h1 b1 => ?_
      have ca1 := b1.cell ca (by show ¬ w.heap.size = g; omega)
      have cb1 := b1.cell cb (by show ¬ w.heap.size + 1 = g; omega)
      by_cases hl : d.most < d.now.length + l.length
      · rw [app_full d l hop hl]
        refine (app_clo_full _ _ A n c h1 ca1 cb1 (by rw [hmost, hnow, ← hlen]; exact hl) hsm).mono ?_
        rintro r w2 ⟨rfl, k, rfl⟩
        exact ⟨⟨_, rfl⟩, rfl, F, S, h1.drewN k, .of_but ((b0.trans b1 hS).drewN k)⟩
      · rw [app_of d l hop hl]
        have hi1 : IsB w1 A n c l := (hi.stp (.of_but (b0.trans b1 hS))).toIsB
        refine (app_clo _ _ A n c l h1 ca1 cb1 hi1 (by rw [hmost, hnow, ← hlen]; exact hl) hsa).mono ?_
        rintro r w2 ⟨rfl, F', S', h2, s2⟩
        exact ⟨⟨_, rfl⟩, rfl, F', S', h2, (Stp.of_but (b0.trans b1 hS)).trans s2⟩
    subst hw0
    clear h h0 hS hgl hop hi hb0 b0
    go_enter Try.func29, Try.ntmps29
    go_wp2_with (first
      | (go_at_call 32; refine HM.out.mono ?_; rintro r w' ⟨rfl, rfl⟩)
      | (go_at_call 34; refine HO.out.mono ?_; rintro r w2 ⟨rfl, h2⟩; have H2 := hid h2; clear h2))
    go_ret
    exact ⟨rfl, H2.out⟩
  · rw [app_no d l hop]
    have HO := hid (operate_no 49 #[.pointer (some ⟨w.heap.size + 1, 0, none⟩), .pointer (some ⟨w.heap.size, 0, none⟩)] h0 hop)
    have HS := hid hS
    have HB0 := hid b0
    subst hw0
    clear h hb0 h0 hS hgl hop hi b0
    go_enter Try.func29, Try.ntmps29
    go_wp2_with (first
      | (go_at_call 32; refine HM.out.mono ?_; rintro r w' ⟨rfl, rfl⟩)
      | (go_at_call 34; refine HO.out.mono ?_; rintro r w2 ⟨rfl, h2, b2⟩; have H2 := hid h2; have HB := hid (HB0.out.trans b2 HS.out); clear h2 b2))
    go_ret
    exact ⟨rfl, _, _, H2.out, .of_but HB.out⟩
end Go.Proofs.Ytpeepohiajmhcaa
/-
  Parts of a slice: x[k:], x[:k], x[i:j].
-/
namespace Go.Proofs.Ytpeepohiajmhcaa
open Go.RowKit

theorem add_zero (a : Addr) : a.add 0 = a := by unfold Addr.add; simp
theorem slice_cut (A : Option Addr) (n c k : Nat) (hk : k ≤ c) (w' : World) : (Instr.slice 29 (.slice A n c) none (some (.int .i64 (k : Nat))) none).run Try.prog w' = .ok (.slice A k c) w' := by
  have hs : (sizeOf (Try.prog.elem 29)).run Try.prog w' = .ok 1 w' := by kernel_rfl
  rw [run_slice_h (ht := by kernel_rfl) (h0 := by omega) (h2 := by omega), hs]
  have e : (if c = 0 then A else A.map (fun x => x.add (0 * 1))) = A := by
    split
    · rfl
    · cases A with
      | none => rfl
      | some a => simp [add_zero]
  simp [Result.andThen, sliced]
  rw [show (fun x : Addr => x.add 0) = id from funext add_zero]
  simp
theorem slice_part {w : World} {A : Option Addr} {n c : Nat} {l : List UInt8} (h : IsBB w w.heap.size A n c l) (i j : Nat) (hi : i ≤ j) (hj : j ≤ n) :
    ∃ A', (∀ w' : World, (Instr.slice 29 (.slice A n c) (some (.int .i64 (i : Nat))) (some (.int .i64 (j : Nat))) none).run Try.prog w' = .ok (.slice A' (j - i) (c - i)) w') ∧ IsBB w w.heap.size A' (j - i) (c - i) ((l.drop i).take (j - i)) := by
  have hc := h.cap
  have hlen := h.len
  refine ⟨if c = i then A else A.map (·.add (i * 1)), fun w' => ?_, ⟨by rw [List.length_take, List.length_drop, hlen]; omega, by omega, by have := h.max; omega, by have := h.small; omega, fun hp => ?_⟩, fun hp ad' e => ?_⟩
  · have hs : (sizeOf (Try.prog.elem 29)).run Try.prog w' = .ok 1 w' := by kernel_rfl
    rw [run_slice_lh (ht := by kernel_rfl) (h0 := by omega) (h1 := by omega) (h2 := by omega), hs]
    simp [Result.andThen, sliced]
  · rw [List.length_take, List.length_drop, hlen] at hp
    obtain ⟨ad, e, hr⟩ := h.lies (by omega)
    subst e
    rw [if_neg (by omega)]
    refine ⟨_, rfl, fun k hk => ?_⟩
    rw [List.length_take, List.length_drop] at hk
    rw [Nat.mul_one, add_of_add, hr (i + k) (by omega), List.getElem_take, List.getElem_drop]
  · rw [List.length_take, List.length_drop, hlen] at hp
    obtain ⟨ad, e2, hr⟩ := h.lies (by omega)
    subst e2
    rw [if_neg (by omega)] at e
    cases e
    rw [block_of_add]
    exact h.low (by omega) ad rfl
end Go.Proofs.Ytpeepohiajmhcaa
