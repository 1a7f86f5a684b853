/-
  The chapter's examples hold: 'awake' is true: its walk.
-/
import Derived.Test.YtnanmdfbgoahjaaAwm
import Derived.Deep.CutRange
namespace Go.Proofs.Ytnanmdfbgoahjaa
open Go.RowKit

theorem plain_lit (w : World) : Calls Try.prog 16 #[] w fun e w' => ∃ (g gc : Nat), e = .returned (.agg #[.int .i64 0, .int .i64 0, .int .i64 0, .int .i64 0, .slice (some ⟨g, 0, none⟩) 1 1, .slice (some ⟨gc, 0, none⟩) 1 1, .slice none 0 0]) ∧ MdAt w' w'.heap.size plainM ⟨some ⟨g, 0, none⟩, 1⟩ ⟨some ⟨gc, 0, none⟩, 1⟩ ⟨none, 0⟩ ∧ w'.ownsRow w.heap.size 41 7 (.slice (some ⟨g, 0, none⟩) 1 1) 1 (plainM.parts.flatMap cellsP) ∧
    w'.heap[g]? = some (.cells #[.int .u8 1, .int .i64 0, .int .i64 0, .int .i64 0, .int .i64 5, .int .i64 0, .int .i64 0] 41 (0, 0)) ∧ w'.heap[gc]? = some (.cells #[.int .u8 0] 5 (0, 0)) ∧ Below w.heap.size w w' :=
  (plain_any w).mono fun _ _ ⟨g, gc, e, h, ho, hr, hc, hb⟩ => ⟨g, gc, e, h, ho, hr, hc, hb⟩
theorem Put_lit (w : World) (Pa Ca : Option Addr) (Pc Cc : Nat) (a : MdAt w w.heap.size plainM ⟨Pa, Pc⟩ ⟨Ca, Cc⟩ ⟨none, 0⟩) : Calls Try.prog 8 #[.agg #[.int .i64 0, .int .i64 0, .int .i64 0, .int .i64 0, .slice Pa 1 Pc, .slice Ca 1 Cc, .slice none 0 0]] w fun e w' =>
    ∃ A c, e = .returned (.tuple #[.slice A 13 c, .int .i64 0]) ∧ IsBB w' w'.heap.size A 13 c plainM.put ∧ Below w.heap.size w w' := Put_plain w ⟨Pa, Pc⟩ ⟨Ca, Cc⟩ ⟨none, 0⟩ a
theorem Get_lit (w : World) (A : Option Addr) (c : Nat) (h : IsBB w w.heap.size A 14 c (plainM.put ++ [7])) : Calls Try.prog 10 #[.slice A 14 c] w fun e w' => ∃ (Pa Ca Qa : Option Addr) (Pc Cc Qc : Nat), e = .returned (.tuple #[.agg #[.int .i64 0, .int .i64 0, .int .i64 0, .int .i64 0, .slice Pa 1 Pc, .slice Ca 1 Cc, .slice Qa 0 Qc], .int .i64 13, .int .i64 0]) ∧ MdAt w' w'.heap.size plainM ⟨Pa, Pc⟩ ⟨Ca, Cc⟩ ⟨Qa, Qc⟩ ∧ Below w.heap.size w w' :=
  (Get_plain w A c h).mono fun _ _ ⟨P, C, Q, e, h, hb⟩ => ⟨P.a, C.a, Q.a, P.c, C.c, Q.c, e, h, hb⟩
theorem Get_lit2 (w : World) (A : Option Addr) (c : Nat) (h : IsBB w w.heap.size A 12 c (plainM.put.take 12)) : Calls Try.prog 10 #[.slice A 12 c] w fun e w' => e = .returned (.tuple #[.agg #[.int .i64 0, .int .i64 0, .int .i64 0, .int .i64 0, .slice none 0 0, .slice none 0 0, .slice none 0 0], .int .i64 0, .int .i64 12]) ∧ Below w.heap.size w w' := Get_short w A c h
theorem wpList_app7 {ops : Array Oper} {rest : List Oper} {o : Oper} {a : Act} {Q : Exit → Act → World → Prop} (hgd : o.guard = none) (s x : Operand)
    (ho : o.op = .call { callee := .builtin .append, args := #[s, x], argTypes := #[23, 23] }) (w wr : World) (v : Value) (hs : a.eval s = v) (hx : a.eval x = .slice (some ⟨wr.heap.size, 0, none⟩) 1 1)
    (h : OwnB w wr v plainM.put) (hK : ∀ A4 c4 W, Hid (IsBB W W.heap.size A4 14 c4 (plainM.put ++ [7])) → Hid (Below w.heap.size w W) → wpList Try.prog ops Q rest (a.put o.dst (.slice A4 14 c4)) W) : wpList Try.prog ops Q (o :: rest) a (wr.alloc (.cells #[.int .u8 7] 5)) :=
  wpList_app1 hgd s x ho w wr v plainM.put 7 hs hx h (by rw [plain_put]; decide) (by decide) fun v' W hv => by
    have hl4 : (plainM.put ++ [UInt8.ofNat 7]).length = 14 := by rw [plain_put]; rfl
    obtain ⟨A4, c4, hv4, h5⟩ := OwnB.isBB hv.out (by rw [plain_put]; decide)
    rw [hl4] at hv4 h5
    subst hv4
    exact hK A4 c4 W h5 hv.out.bel
/-- What awake has behind its first calls: the bytes, the model that was got, its block. -/
structure AwAt (w W : World) (A : Option Addr) (c : Nat) (Pa Ca Qa : Option Addr) (Pc Cc Qc x3 : Nat) : Prop where
  b : IsBB W W.heap.size A 13 c plainM.put
  m3 : MdAt W W.heap.size plainM ⟨Pa, Pc⟩ ⟨Ca, Cc⟩ ⟨Qa, Qc⟩
  r3 : W.heap[x3]? = some (.cells #[.int .i64 0, .int .i64 0, .int .i64 0, .int .i64 0, .slice Pa 1 Pc, .slice Ca 1 Cc, .slice Qa 0 Qc] 25 (0, 0))
  bel : Below w.heap.size w W
theorem AwAt.on {w W W' : World} {A : Option Addr} {c : Nat} {Pa Ca Qa : Option Addr} {Pc Cc Qc x3 : Nat} (h : AwAt w W A c Pa Ca Qa Pc Cc Qc x3) (k : Below W.heap.size W W') : AwAt w W' A c Pa Ca Qa Pc Cc Qc x3 :=
  ⟨h.b.on k, h.m3.later k, (k.block _ (lt_of_heap h.r3)).trans h.r3, bel_trans h.bel k⟩
theorem aw_start {w w2 w5 : World} {A : Option Addr} {c : Nat} {Pa Ca Qa : Option Addr} {Pc Cc Qc : Nat} (h2 : IsBB w2 w2.heap.size A 13 c plainM.put) (d : Below w2.heap.size w2 w5) (h5 : MdAt w5 w5.heap.size plainM ⟨Pa, Pc⟩ ⟨Ca, Cc⟩ ⟨Qa, Qc⟩) (b5 : Below w.heap.size w w5) :
    AwAt w (w5.alloc (.cells #[.int .i64 0, .int .i64 0, .int .i64 0, .int .i64 0, .slice Pa 1 Pc, .slice Ca 1 Cc, .slice Qa 0 Qc] 25)) A c Pa Ca Qa Pc Cc Qc w5.heap.size := by
  have k := (Below.refl w5.heap.size w5).alloc (Nat.le_refl _) (.cells #[.int .i64 0, .int .i64 0, .int .i64 0, .int .i64 0, .slice Pa 1 Pc, .slice Ca 1 Cc, .slice Qa 0 Qc] 25)
  exact ⟨(h2.on d).on k, h5.later k, heap_alloc_new w5 _, bel_trans b5 k⟩
/-- The same, its lists below B. -/
structure AwB (w W : World) (B : Nat) (A : Option Addr) (c : Nat) (Pa Ca Qa : Option Addr) (Pc Cc Qc x3 : Nat) : Prop where
  b : IsBB W B A 13 c plainM.put
  m3 : MdAt W B plainM ⟨Pa, Pc⟩ ⟨Ca, Cc⟩ ⟨Qa, Qc⟩
  r3 : W.heap[x3]? = some (.cells #[.int .i64 0, .int .i64 0, .int .i64 0, .int .i64 0, .slice Pa 1 Pc, .slice Ca 1 Cc, .slice Qa 0 Qc] 25 (0, 0))
  l3 : x3 < B
  bel : Below w.heap.size w W
  wB : w.heap.size ≤ B
  hB : B ≤ W.heap.size
theorem AwAt.toB {w W : World} {A : Option Addr} {c : Nat} {Pa Ca Qa : Option Addr} {Pc Cc Qc x3 : Nat} (h : AwAt w W A c Pa Ca Qa Pc Cc Qc x3) : AwB w W W.heap.size A c Pa Ca Qa Pc Cc Qc x3 := ⟨h.b, h.m3, h.r3, lt_of_heap h.r3, h.bel, h.bel.size, Nat.le_refl _⟩
theorem AwB.on {w W W' : World} {B : Nat} {A : Option Addr} {c : Nat} {Pa Ca Qa : Option Addr} {Pc Cc Qc x3 : Nat} (h : AwB w W B A c Pa Ca Qa Pc Cc Qc x3) (k : Below B W W') : AwB w W' B A c Pa Ca Qa Pc Cc Qc x3 :=
  ⟨h.b.below k, h.m3.below k, (k.block _ h.l3).trans h.r3, h.l3, h.bel.trans (k.mono h.wB), h.wB, Nat.le_trans h.hB k.size⟩
/-- The second example's model, ahead of the append. -/
structure TwAt (w W : World) (B : Nat) (A : Option Addr) (c : Nat) (Pa Ca Qa : Option Addr) (Pc Cc Qc x3 gp gc x9 : Nat) : Prop where
  aw : AwB w W B A c Pa Ca Qa Pc Cc Qc x3
  own : W.ownsRow B 41 7 (.slice (some ⟨gp, 0, none⟩) 1 1) 1 (plainM.parts.flatMap cellsP)
  rc : W.heap[gc]? = some (.cells #[.int .u8 0] 5 (0, 0))
  rp : W.heap[gp]? = some (.cells #[.int .u8 1, .int .i64 0, .int .i64 0, .int .i64 0, .int .i64 5, .int .i64 0, .int .i64 0] 41 (0, 0))
  r9 : W.heap[x9]? = some (.cells #[.int .i64 0, .int .i64 0, .int .i64 0, .int .i64 0, .slice (some ⟨gp, 0, none⟩) 1 1, .slice (some ⟨gc, 0, none⟩) 1 1, .slice none 0 0] 25 (0, 0))
  low : B ≤ x9
theorem two_start {w W : World} {B : Nat} {A : Option Addr} {c : Nat} {Pa Ca Qa : Option Addr} {Pc Cc Qc x3 gp gc : Nat}
    (h : AwB w W B A c Pa Ca Qa Pc Cc Qc x3 ∧ W.ownsRow B 41 7 (.slice (some ⟨gp, 0, none⟩) 1 1) 1 (plainM.parts.flatMap cellsP) ∧ W.heap[gp]? = some (.cells #[.int .u8 1, .int .i64 0, .int .i64 0, .int .i64 0, .int .i64 5, .int .i64 0, .int .i64 0] 41 (0, 0)) ∧ W.heap[gc]? = some (.cells #[.int .u8 0] 5 (0, 0))) :
    TwAt w (W.alloc (.cells #[.int .i64 0, .int .i64 0, .int .i64 0, .int .i64 0, .slice (some ⟨gp, 0, none⟩) 1 1, .slice (some ⟨gc, 0, none⟩) 1 1, .slice none 0 0] 25)) B A c Pa Ca Qa Pc Cc Qc x3 gp gc W.heap.size := by
  obtain ⟨a, ho, hr, hc⟩ := h
  have k := (Below.refl W.heap.size W).alloc (Nat.le_refl _) (.cells #[.int .i64 0, .int .i64 0, .int .i64 0, .int .i64 0, .slice (some ⟨gp, 0, none⟩) 1 1, .slice (some ⟨gc, 0, none⟩) 1 1, .slice none 0 0] 25)
  exact ⟨a.on (k.mono a.hB), ho.alloc _, (heap_alloc_old W _ (lt_of_heap hc)).trans hc, (heap_alloc_old W _ (lt_of_heap hr)).trans hr, heap_alloc_new W _, a.hB⟩
theorem isBB_row1 {W : World} {g : Nat} (h : W.heap[g]? = some (.cells #[.int .u8 0] 5 (0, 0))) : IsBB W W.heap.size (some ⟨g, 0, none⟩) 1 1 [0] := by
  refine ⟨⟨rfl, Nat.le_refl _, by unfold maxLen; omega, by omega, fun _ => ⟨_, rfl, fun j hj => ?_⟩⟩, fun _ ad e => by cases e; exact lt_of_heap h⟩
  obtain rfl : j = 0 := by simp at hj; exact hj
  exact row_cell h 0
/-- The part is put behind itself: the world, and what stands there. -/
theorem two_app {w W : World} {B : Nat} {A : Option Addr} {c : Nat} {Pa Ca Qa : Option Addr} {Pc Cc Qc x3 gp gc x9 : Nat} (t : TwAt w W B A c Pa Ca Qa Pc Cc Qc x3 gp gc x9) :
    ∃ A' c' W2, (∀ ty, (Builtin.append_ #[22, 22] ty #[.slice (some ⟨gp, 0, none⟩) 1 1, .slice (some ⟨W.heap.size, 0, none⟩) 1 1]).run Try.prog (W.alloc (.cells #[.int .u8 1, .int .i64 0, .int .i64 0, .int .i64 0, .int .i64 5, .int .i64 0, .int .i64 0] 41)).drew = .ok (.slice A' 2 c') W2) ∧
      (W2.heap[x9]? = some (.cells #[.int .i64 0, .int .i64 0, .int .i64 0, .int .i64 0, .slice (some ⟨gp, 0, none⟩) 1 1, .slice (some ⟨gc, 0, none⟩) 1 1, .slice none 0 0] 25 (0, 0))) ∧
      AwB w (W2.setCell ⟨x9, 4, none⟩ (.slice A' 2 c')) B A c Pa Ca Qa Pc Cc Qc x3 ∧ MdAt (W2.setCell ⟨x9, 4, none⟩ (.slice A' 2 c')) (W2.setCell ⟨x9, 4, none⟩ (.slice A' 2 c')).heap.size twoM ⟨A', c'⟩ ⟨some ⟨gc, 0, none⟩, 1⟩ ⟨none, 0⟩ ∧
      (W2.setCell ⟨x9, 4, none⟩ (.slice A' 2 c')).heap[x9]? = some (.cells #[.int .i64 0, .int .i64 0, .int .i64 0, .int .i64 0, .slice A' 2 c', .slice (some ⟨gc, 0, none⟩) 1 1, .slice none 0 0] 25 (0, 0)) := by
  obtain ⟨A', c', W2, hr, ho, hg⟩ := run_parts_app (q := ⟨1, 0, 0, 0, 5, 0, 0⟩) (r := ⟨1, 0, 0, 0, 5, 0, 0⟩) t.own _ rfl t.aw.hB
  have hB : B ≤ gp := (t.own.lt gp rfl).1
  have hz : (W.alloc (.cells (cellsP ⟨1, 0, 0, 0, 5, 0, 0⟩).toArray 41)).drew.heap.size = W.heap.size + 1 := by simp
  have k1 : Below B W (W.alloc (.cells (cellsP ⟨1, 0, 0, 0, 5, 0, 0⟩).toArray 41)).drew := (((Below.refl B W).alloc t.aw.hB _)).drew
  have k2 : Below B W W2 := k1.grown hg (by rw [hz]; have := t.aw.hB; omega) (fun q hq => by cases hq; exact hB)
  have keep : ∀ k o, W.heap[k]? = some o → k ≠ gp → W2.heap[k]? = some o := fun k o hk hne => by
    have hlt := lt_of_heap hk
    exact (hg.block k (by rw [hz]; omega) (fun e => hne (by injection e))).trans ((heap_alloc_old W _ hlt).trans hk)
  have q9 := keep _ _ t.r9 (row_ne t.r9 t.rp (by decide))
  have qc := keep _ _ t.rc (row_ne t.rc t.rp (by decide))
  refine ⟨A', c', W2, hr, q9, t.aw.on (set_bel k2 x9 4 _ t.low), ⟨?_, ?_, isBB_nil _ _⟩, by rw [row_set q9 4]; rfl⟩
  · have h2 := own_set (i := 4) (u := .slice A' 2 c') (g := x9) ho (own_ne ho q9 (by decide))
    obtain ⟨A2, c2, e, hp, _⟩ := own_isP (L := [⟨1, 0, 0, 0, 5, 0, 0⟩, ⟨1, 0, 0, 0, 5, 0, 0⟩]) rfl h2
    cases e
    exact hp
  · exact isBB_row1 ((set_block (row_ne qc q9 (by decide))).trans qc)
/-- Both models, ahead of the last question. -/
structure TzAt (w W : World) (B : Nat) (A : Option Addr) (c : Nat) (Pa Ca Qa : Option Addr) (Pc Cc Qc x3 : Nat) (A2 : Option Addr) (c2 gc x9 : Nat) : Prop where
  aw : AwB w W B A c Pa Ca Qa Pc Cc Qc x3
  m9 : MdAt W W.heap.size twoM ⟨A2, c2⟩ ⟨some ⟨gc, 0, none⟩, 1⟩ ⟨none, 0⟩
  r9 : W.heap[x9]? = some (.cells #[.int .i64 0, .int .i64 0, .int .i64 0, .int .i64 0, .slice A2 2 c2, .slice (some ⟨gc, 0, none⟩) 1 1, .slice none 0 0] 25 (0, 0))
section
variable {w W W' : World} {B : Nat} {A : Option Addr} {c : Nat} {Pa Ca Qa : Option Addr} {Pc Cc Qc x3 : Nat} {A2 : Option Addr} {c2 gc x9 : Nat}
theorem TzAt.on (h : TzAt w W B A c Pa Ca Qa Pc Cc Qc x3 A2 c2 gc x9) (k : Below W.heap.size W W') : TzAt w W' B A c Pa Ca Qa Pc Cc Qc x3 A2 c2 gc x9 :=
  ⟨h.aw.on (k.mono h.aw.hB), h.m9.later k, (k.block _ (lt_of_heap h.r9)).trans h.r9⟩
theorem tz_cells (h : TzAt w W B A c Pa Ca Qa Pc Cc Qc x3 A2 c2 gc x9) : W.cell? ⟨x3, 0, none⟩ = some (.int .i64 0) ∧ W.cell? ⟨x3, 1, none⟩ = some (.int .i64 0) ∧ W.cell? ⟨x3, 2, none⟩ = some (.int .i64 0) ∧ W.cell? ⟨x3, 3, none⟩ = some (.int .i64 0) ∧ W.cell? ⟨x3, 4, none⟩ = some (.slice Pa 1 Pc) ∧ W.cell? ⟨x3, 5, none⟩ = some (.slice Ca 1 Cc) ∧ W.cell? ⟨x3, 6, none⟩ = some (.slice Qa 0 Qc) ∧ W.cell? ⟨x9, 0, none⟩ = some (.int .i64 0) ∧ W.cell? ⟨x9, 1, none⟩ = some (.int .i64 0) ∧ W.cell? ⟨x9, 2, none⟩ = some (.int .i64 0) ∧ W.cell? ⟨x9, 3, none⟩ = some (.int .i64 0) ∧ W.cell? ⟨x9, 4, none⟩ = some (.slice A2 2 c2) ∧ W.cell? ⟨x9, 5, none⟩ = some (.slice (some ⟨gc, 0, none⟩) 1 1) ∧ W.cell? ⟨x9, 6, none⟩ = some (.slice none 0 0) :=
  ⟨row_cell h.aw.r3 0, row_cell h.aw.r3 1, row_cell h.aw.r3 2, row_cell h.aw.r3 3, row_cell h.aw.r3 4, row_cell h.aw.r3 5, row_cell h.aw.r3 6, row_cell h.r9 0, row_cell h.r9 1, row_cell h.r9 2, row_cell h.r9 3, row_cell h.r9 4, row_cell h.r9 5, row_cell h.r9 6⟩
def c13 : Array Value := #[.int .u8 0, .int .u8 0, .int .u8 0, .int .u8 0, .int .u8 1, .int .u8 1, .int .u8 8, .int .u8 5, .int .u8 0, .int .u8 1, .int .u8 0, .int .u8 0, .int .u8 0]
theorem same13 (h : TzAt w W B A c Pa Ca Qa Pc Cc Qc x3 A2 c2 gc x9) : Calls Try.prog 14 #[.slice A 13 c, .slice (some ⟨W.heap.size, 0, none⟩) 13 13] (W.alloc (.cells c13 5)).drew fun e w' => e = .returned (.bool true) ∧ TzAt w w' B A c Pa Ca Qa Pc Cc Qc x3 A2 c2 gc x9 := by
  have k : Below W.heap.size W (W.alloc (.cells c13 5)).drew := ((Below.refl _ W).alloc (Nat.le_refl _) _).drew
  have t := h.on k
  have hr : (W.alloc (.cells c13 5)).drew.heap[W.heap.size]? = some (.cells (plainM.put.map bv).toArray 5 (0, 0)) := by rw [plain_put]; exact heap_alloc_new W _
  have hn : New W (W.alloc (.cells c13 5)).drew W.heap.size plainM.put.length plainM.put.length plainM.put := row_own hr (Nat.le_refl _) (by rw [plain_put]; decide) k
  have hl : plainM.put.length = 13 := by rw [plain_put]; rfl
  rw [hl] at hn
  refine (SameBytes_true A (some ⟨W.heap.size, 0, none⟩) plainM.put 13 c 13 _ t.aw.b.toIsB hn.isBB.toIsB).mono fun e w' hh => ⟨hh.1, ?_⟩
  obtain ⟨k2, rfl⟩ := hh.2
  exact t.on (below_drewN (Below.refl _ _) k2)
theorem sm_lit (h : TzAt w W B A c Pa Ca Qa Pc Cc Qc x3 A2 c2 gc x9) {g2 k2 : Nat} (m : MdAt W W.heap.size plainM ⟨some ⟨g2, 0, none⟩, 1⟩ ⟨some ⟨k2, 0, none⟩, 1⟩ ⟨none, 0⟩) :
    Calls Try.prog 15 #[.agg #[.int .i64 0, .int .i64 0, .int .i64 0, .int .i64 0, .slice Pa 1 Pc, .slice Ca 1 Cc, .slice Qa 0 Qc], .agg #[.int .i64 0, .int .i64 0, .int .i64 0, .int .i64 0, .slice (some ⟨g2, 0, none⟩) 1 1, .slice (some ⟨k2, 0, none⟩) 1 1, .slice none 0 0]] W fun e w' => e = .returned (.bool true) ∧ TzAt w w' B A c Pa Ca Qa Pc Cc Qc x3 A2 c2 gc x9 :=
  (SameModel_true W plainM ⟨Pa, Pc⟩ ⟨Ca, Cc⟩ ⟨Qa, Qc⟩ _ _ _ ⟨⟨h.aw.m3.parts.len, h.aw.m3.parts.cap, h.aw.m3.parts.max, fun h0 => by obtain ⟨ad, e, hl, ha⟩ := h.aw.m3.parts.lies h0; exact ⟨ad, e, Nat.lt_of_lt_of_le hl h.aw.hB, ha⟩⟩, isBB_up h.aw.m3.code h.aw.hB, isBB_up h.aw.m3.post h.aw.hB⟩ m).mono fun _ _ hh => ⟨hh.1, h.on hh.2⟩
theorem right_lit (h : TzAt w W B A c Pa Ca Qa Pc Cc Qc x3 A2 c2 gc x9) : Calls Try.prog 12 #[.agg #[.int .i64 0, .int .i64 0, .int .i64 0, .int .i64 0, .slice A2 2 c2, .slice (some ⟨gc, 0, none⟩) 1 1, .slice none 0 0]] W fun e w' => e = .returned (.int .i64 131) ∧ TzAt w w' B A c Pa Ca Qa Pc Cc Qc x3 A2 c2 gc x9 :=
  (Right_md W twoM ⟨A2, c2⟩ ⟨some ⟨gc, 0, none⟩, 1⟩ ⟨none, 0⟩ h.m9).mono fun _ _ hh => ⟨by rw [hh.1, two_right], h.on hh.2⟩
theorem pl_lit (h : TzAt w W B A c Pa Ca Qa Pc Cc Qc x3 A2 c2 gc x9) : Calls Try.prog 16 #[] W fun e w' => ∃ (g2 k2 : Nat), e = .returned (.agg #[.int .i64 0, .int .i64 0, .int .i64 0, .int .i64 0, .slice (some ⟨g2, 0, none⟩) 1 1, .slice (some ⟨k2, 0, none⟩) 1 1, .slice none 0 0]) ∧ MdAt w' w'.heap.size plainM ⟨some ⟨g2, 0, none⟩, 1⟩ ⟨some ⟨k2, 0, none⟩, 1⟩ ⟨none, 0⟩ ∧ TzAt w w' B A c Pa Ca Qa Pc Cc Qc x3 A2 c2 gc x9 :=
  (plain_lit W).mono fun _ _ ⟨g2, k2, e, hm, _, _, _, hb⟩ => ⟨g2, k2, e, hm, h.on hb⟩
end
set_option maxRecDepth 10000 in
set_option maxHeartbeats 8000000 in
theorem awake_any (w : World) : Calls Try.prog 5 #[] w fun e w' => e = .returned (.bool true) ∧ Below w.heap.size w w' := by
  go_enter Try.func5, Try.ntmps5
  go_upto_region 2 with (first
    | (go_at_call 16; refine (plain_lit _).mono ?_; rintro e w1 ⟨gp, gc, rfl, h1, _, _, _, b1⟩; have H1 := hid h1; have B1 := hid b1; clear h1 b1)
    | (go_at_call 8; refine (Put_lit _ _ _ _ _ H1.out).mono ?_; rintro e w2 ⟨A, c, rfl, h2, b2⟩; have H2 := hid h2; have B2 := hid (bel_trans B1.out b2); clear h2 b2))
  clear H1 B1
  have hcc := H2.out.cap
  have hcm := H2.out.max
  unfold maxLen at hcm
  go_upto_region 3 with (first
    | (go_at_call 7; refine (CopyBytes_any _ _ _ _ _ H2.out (by decide)).mono ?_; rintro e w3 ⟨v3, rfl, h3⟩; have H3 := hid h3; clear h3)
    | (at_builtin; go_loud (refine wpList_app7 rfl (.tmp 17) (.tmp 18) rfl w2 w3 v3 rfl rfl H3.out ?_); intro A4 c4 w4 h4 k4; have H4 := hid h4.out; have B4 := hid (bel_trans B2.out k4.out); have D4 := hid k4.out; clear h4 k4)
    | (go_at_call 10; refine (Get_lit _ _ _ H4.out).mono ?_; rintro e w5 ⟨Pa5, Ca5, Qa5, Pc5, Cc5, Qc5, rfl, h5, b5⟩; have H5 := hid h5; have B5 := hid (bel_trans B4.out b5); have D5 := hid (bel_trans D4.out b5); clear h5 b5))
  have HA := hid (aw_start H2.out D5.out H5.out B5.out)
  have hsl := fun w' => slice_cut A 13 c 12 (by omega) w'
  have htk : Hid (plainM.put.length = 13) := by unfold Hid; rw [plain_put]; rfl
  clear H2 B2 H3 H4 B4 D4 H5 B5 D5
  generalize w5.alloc (.cells #[.int .i64 0, .int .i64 0, .int .i64 0, .int .i64 0, .slice Pa5 1 Pc5, .slice Ca5 1 Cc5, .slice Qa5 0 Qc5] 25) = W6 at *
  generalize w5.heap.size = x3 at *
  have hst := hid (fun (h : IsBB W6 W6.heap.size A 13 c plainM.put) => take_isB h (m := 12) (by decide))
  go_upto_region 4 with (go_at_call 10; refine (Get_lit2 _ _ _ (hst.out HA.out.b)).mono ?_; rintro e w7 ⟨rfl, b7⟩; have HA7 := hid (HA.out.on b7); clear b7)
  have HA8 := hid (HA7.out.on ((Below.refl _ _).alloc (Nat.le_refl _) (.cells #[.int .i64 0, .int .i64 0, .int .i64 0, .int .i64 0, .slice none 0 0, .slice none 0 0, .slice none 0 0] 25)))
  replace HA8 := hid HA8.out.toB
  clear HA HA7 hst hsl
  generalize w7.alloc (.cells #[.int .i64 0, .int .i64 0, .int .i64 0, .int .i64 0, .slice none 0 0, .slice none 0 0, .slice none 0 0] 25) = W8 at *
  generalize w7.heap.size = x6 at *
  go_upto_region 5 with (go_at_call 16; refine (plain_lit _).mono ?_; rintro e w9 ⟨gp9, gc9, rfl, _, o9, r9, k9, b9⟩; have H9 := hid (And.intro (AwB.on HA8.out b9) (And.intro o9 (And.intro r9 k9))); clear o9 r9 k9 b9)
  have H10 := hid (two_start H9.out)
  clear H9 HA8
  generalize w9.alloc (.cells #[.int .i64 0, .int .i64 0, .int .i64 0, .int .i64 0, .slice (some ⟨gp9, 0, none⟩) 1 1, .slice (some ⟨gc9, 0, none⟩) 1 1, .slice none 0 0] 25) = W10 at *
  generalize w9.heap.size = x9 at *
  obtain ⟨A12, c12, W12, hr12, h12⟩ := two_app H10.out
  have q4 : ∀ o, (W10.alloc o).cell? ⟨x9, 4, none⟩ = some (.slice (some ⟨gp9, 0, none⟩) 1 1) := fun o => row_cell ((heap_alloc_old W10 o (lt_of_heap H10.out.r9)).trans H10.out.r9) 4
  have q4' : W10.cell? ⟨x9, 4, none⟩ = some (.slice (some ⟨gp9, 0, none⟩) 1 1) := row_cell H10.out.r9 4
  have p0 : ∀ o, (W10.alloc o).cell? ⟨gp9, 0, none⟩ = some (.int .u8 1) := fun o => row_cell ((heap_alloc_old W10 o (lt_of_heap H10.out.rp)).trans H10.out.rp) 0
  have p0' : W10.cell? ⟨gp9, 0, none⟩ = some (.int .u8 1) := row_cell H10.out.rp 0
  have p1 : ∀ o, (W10.alloc o).cell? ⟨gp9, 1, none⟩ = some (.int .i64 0) := fun o => row_cell ((heap_alloc_old W10 o (lt_of_heap H10.out.rp)).trans H10.out.rp) 1
  have p1' : W10.cell? ⟨gp9, 1, none⟩ = some (.int .i64 0) := row_cell H10.out.rp 1
  have p2 : ∀ o, (W10.alloc o).cell? ⟨gp9, 2, none⟩ = some (.int .i64 0) := fun o => row_cell ((heap_alloc_old W10 o (lt_of_heap H10.out.rp)).trans H10.out.rp) 2
  have p2' : W10.cell? ⟨gp9, 2, none⟩ = some (.int .i64 0) := row_cell H10.out.rp 2
  have p3 : ∀ o, (W10.alloc o).cell? ⟨gp9, 3, none⟩ = some (.int .i64 0) := fun o => row_cell ((heap_alloc_old W10 o (lt_of_heap H10.out.rp)).trans H10.out.rp) 3
  have p3' : W10.cell? ⟨gp9, 3, none⟩ = some (.int .i64 0) := row_cell H10.out.rp 3
  have p4 : ∀ o, (W10.alloc o).cell? ⟨gp9, 4, none⟩ = some (.int .i64 5) := fun o => row_cell ((heap_alloc_old W10 o (lt_of_heap H10.out.rp)).trans H10.out.rp) 4
  have p4' : W10.cell? ⟨gp9, 4, none⟩ = some (.int .i64 5) := row_cell H10.out.rp 4
  have p5 : ∀ o, (W10.alloc o).cell? ⟨gp9, 5, none⟩ = some (.int .i64 0) := fun o => row_cell ((heap_alloc_old W10 o (lt_of_heap H10.out.rp)).trans H10.out.rp) 5
  have p5' : W10.cell? ⟨gp9, 5, none⟩ = some (.int .i64 0) := row_cell H10.out.rp 5
  have p6 : ∀ o, (W10.alloc o).cell? ⟨gp9, 6, none⟩ = some (.int .i64 0) := fun o => row_cell ((heap_alloc_old W10 o (lt_of_heap H10.out.rp)).trans H10.out.rp) 6
  have p6' : W10.cell? ⟨gp9, 6, none⟩ = some (.int .i64 0) := row_cell H10.out.rp 6
  have z12 : W12.cell? ⟨x9, 4, none⟩ = some (.slice (some ⟨gp9, 0, none⟩) 1 1) := row_cell h12.1 4
  have f12 := row_free h12.1 4
  have H12 := hid h12.2
  clear h12
  go_cut [] from 35 to 43 (fun wx => wx = W12.setCell ⟨x9, 4, none⟩ (.slice A12 2 c12))
  case first =>
    go_region_law (refine step_run rfl (.tmp 36) (.tmp 41) 22 rfl _ _ _ rfl rfl _ _ hr12 ?_)
    all_goals
      go_wp2_with fail
      go_meet
      exact rfl
  case rest =>
    subst hcut
    clear hr12 q4 q4' p0 p1 p2 p3 p4 p5 p6 p0' p1' p2' p3' p4' p5' p6' z12 f12 H10
    have HZ := hid (TzAt.mk H12.out.1 H12.out.2.1 H12.out.2.2)
    clear H12
    generalize W12.setCell ⟨x9, 4, none⟩ (.slice A12 2 c12) = WZ at *
    have s0 := tz_cells HZ.out
    have s0a := tz_cells (HZ.out.on ((Below.refl _ WZ).alloc (Nat.le_refl _) (.cells c13 5)))
    have HS := hid (same13 HZ.out)
    unfold c13 at HS s0a
    go_wp2_with fail
    go_region_held3 (fun w' => w'.cell? ⟨x3, 0, none⟩ = some (.int .i64 0) ∧ w'.cell? ⟨x3, 1, none⟩ = some (.int .i64 0) ∧ w'.cell? ⟨x3, 2, none⟩ = some (.int .i64 0) ∧ w'.cell? ⟨x3, 3, none⟩ = some (.int .i64 0) ∧ w'.cell? ⟨x3, 4, none⟩ = some (.slice Pa5 1 Pc5) ∧ w'.cell? ⟨x3, 5, none⟩ = some (.slice Ca5 1 Cc5) ∧ w'.cell? ⟨x3, 6, none⟩ = some (.slice Qa5 0 Qc5) ∧ w'.cell? ⟨x9, 0, none⟩ = some (.int .i64 0) ∧ w'.cell? ⟨x9, 1, none⟩ = some (.int .i64 0) ∧ w'.cell? ⟨x9, 2, none⟩ = some (.int .i64 0) ∧ w'.cell? ⟨x9, 3, none⟩ = some (.int .i64 0) ∧ w'.cell? ⟨x9, 4, none⟩ = some (.slice A12 2 c12) ∧ w'.cell? ⟨x9, 5, none⟩ = some (.slice (some ⟨gc9, 0, none⟩) 1 1) ∧ w'.cell? ⟨x9, 6, none⟩ = some (.slice none 0 0)) (first | exact s0 | exact s0a | exact s1 | exact s2 | exact s3 | exact s4 | go_keep)
      (first
      | (go_at_call 14; go_must ((with_reducible refine HS.out.mono ?_); rintro r V1 ⟨rfl, t1⟩; have s1 := tz_cells t1; have T1 := hid t1; clear t1))
      | (go_at_call 16; go_must ((with_reducible refine (pl_lit T1.out).mono ?_); rintro r V2 ⟨g2, k2, rfl, m2, t2⟩; have s2 := tz_cells t2; have T2 := hid (And.intro t2 m2); clear t2 m2))
      | (go_at_call 15; go_must ((with_reducible refine (sm_lit T2.out.1 T2.out.2).mono ?_); rintro r V3 ⟨rfl, t3⟩; have s3 := tz_cells t3; have T3 := hid t3; clear t3))
      | (go_at_call 12; go_must ((with_reducible refine (right_lit T3.out).mono ?_); rintro r V4 ⟨rfl, t4⟩; have s4 := tz_cells t4; have T4 := hid t4; clear t4)))
    all_goals
      go_wp2_with fail
      go_ret
      exact ⟨rfl, T4.out.aw.bel⟩
end Go.Proofs.Ytnanmdfbgoahjaa
