/-
  A struct with a list of bytes of its own (an encoder, the document's too), in memory; the contracts of made, NewEncoder, Len.
-/
import Derived.Test.YtbgbacajgaeooaaIv
import Derived.Deep.RegionHeld3
namespace Go.Proofs.Ytbgbacajgaeooaa
open Go.RowKit

/-- A struct of type t lies in block g: its cells hang on the list F, whose bytes are l; its blocks are of S, from B on. -/
structure Ob (B : Nat) (S : Nat → Prop) (w : World) (g : Nat) (t : TypeId) (cs : Value → Array Value) (F : Value) (l : List UInt8) : Prop where
  row : w.heap[g]? = some (.cells (cs F) t (0, 0))
  t5 : t ≠ 5
  ff : w.ownsRow 0 5 1 F l.length (l.map bv)
  sg : S g
  sf : ∀ k, F.ownBlock = some k → S k
  lt : ∀ i, S i → B ≤ i ∧ i < w.heap.size
theorem Ob.but {B : Nat} {S T : Nat → Prop} {w w' : World} {g : Nat} {t : TypeId} {cs : Value → Array Value} {F : Value} {l : List UInt8} (h : Ob B S w g t cs F l) (b : But T w w') (hT : ∀ i, S i → ¬ T i) : Ob B S w' g t cs F l :=
  ⟨(b.block g (lt_of_heap h.row) (hT g h.sg)).trans h.row, h.t5, ownsRow_but h.ff b (fun k hk => hT k (h.sf k hk)), h.sg, h.sf, fun i hi => ⟨(h.lt i hi).1, Nat.lt_of_lt_of_le (h.lt i hi).2 b.size⟩⟩
theorem Ob.below {B : Nat} {S : Nat → Prop} {w w' : World} {g : Nat} {t : TypeId} {cs : Value → Array Value} {F : Value} {l : List UInt8} (h : Ob B S w g t cs F l) (b : Below w.heap.size w w') : Ob B S w' g t cs F l :=
  h.but (T := fun _ => False) (.of_below b) (fun _ _ h => h)
theorem Ob.drewN {B : Nat} {S : Nat → Prop} {w : World} {g : Nat} {t : TypeId} {cs : Value → Array Value} {F : Value} {l : List UInt8} (h : Ob B S w g t cs F l) (n : Nat) : Ob B S (w.drewN n) g t cs F l :=
  ⟨h.row, h.t5, h.ff, h.sg, h.sf, h.lt⟩
theorem Ob.drew {B : Nat} {S : Nat → Prop} {w : World} {g : Nat} {t : TypeId} {cs : Value → Array Value} {F : Value} {l : List UInt8} (h : Ob B S w g t cs F l) : Ob B S w.drew g t cs F l :=
  ⟨h.row, h.t5, h.ff, h.sg, h.sf, h.lt⟩
/-- The struct's cells turned, its list not. -/
theorem Ob.turn {B : Nat} {S : Nat → Prop} {w w' : World} {g : Nat} {t : TypeId} {cs cs' : Value → Array Value} {F : Value} {l : List UInt8} (h : Ob B S w g t cs F l) (b : But (· = g) w w') (hr : w'.heap[g]? = some (.cells (cs' F) t (0, 0))) : Ob B S w' g t cs' F l :=
  ⟨hr, h.t5, ownsRow_but h.ff b (own_gne h.ff h.row h.t5), h.sg, h.sf, fun i hi => ⟨(h.lt i hi).1, Nat.lt_of_lt_of_le (h.lt i hi).2 b.size⟩⟩
theorem Ob.butg {B : Nat} {S : Nat → Prop} {w w' : World} {g : Nat} {t : TypeId} {cs : Value → Array Value} {F : Value} {l : List UInt8} (h : Ob B S w g t cs F l) (b : But (· = g) w w') : But S w w' := b.mono (fun i hi => by subst hi; exact .inl h.sg)
/-- The list grown, and stored anew in field j. -/
theorem Ob.appd {B : Nat} {S : Nat → Prop} {w w2 : World} {g : Nat} {t : TypeId} {cs : Value → Array Value} {F F' : Value} {l l2 : List UInt8} (h : Ob B S w g t cs F l) (j n : Nat) (hj : (cs F).setIfInBounds j F' = cs F') (hn : n = (l ++ l2).length) (ha : Apd w w2 F F' n ((l ++ l2).map bv)) :
    Ob B (fun i => S i ∨ F'.ownBlock = some i) (w2.setCell ⟨g, j, none⟩ F') g t cs F' (l ++ l2) ∧ Stp S (fun i => S i ∨ F'.ownBlock = some i) w (w2.setCell ⟨g, j, none⟩ F') := by
  subst hn
  have hF := own_gne h.ff h.row h.t5
  have hgF : some g ≠ F.ownBlock := fun e => hF g e.symm rfl
  have hrow : w2.heap[g]? = some (.cells (cs F) t (0, 0)) := (ha.grown.block g (lt_of_heap h.row) hgF).trans h.row
  have hF2 := own_gne ha.own hrow h.t5
  have bg : But (· = g) w2 (w2.setCell ⟨g, j, none⟩ F') := (But.refl (· = g) w2).set _ _ (.inl rfl)
  have b2 : But S w w2 := (But.refl S w).grown ha.grown (fun k hk => .inl (h.sf k hk))
  refine ⟨⟨?_, h.t5, ownsRow_but ha.own bg hF2, .inl h.sg, fun k hk => .inr hk, ?_⟩, b2.set _ _ (.inl h.sg), ?_⟩
  · rw [row_set hrow j, hj]
  · intro i hi
    rw [World.size_setCell]
    rcases hi with hi | hi
    · exact ⟨(h.lt i hi).1, Nat.lt_of_lt_of_le (h.lt i hi).2 ha.grown.size⟩
    · refine ⟨?_, (own_lt ha.own i hi).2⟩
      rcases ha.fresh with h1 | ⟨k, h1, h2⟩
      · exact (h.lt i (h.sf i (h1 ▸ hi))).1
      · rw [h1] at hi
        cases hi
        have := (h.lt g h.sg)
        omega
  · intro i hi
    rcases hi with hi | hi
    · exact .inl hi
    · rcases ha.fresh with h1 | ⟨k, h1, h2⟩
      · exact .inl (h.sf i (h1 ▸ hi))
      · rw [h1] at hi
        cases hi
        exact .inr h2
theorem wpList_append_ap {w : World} {ops : Array Oper} {rest : List Oper} {o : Oper} {a : Act} {Q : Exit → Act → World → Prop} (hgd : o.guard = none) (s x : Operand)
    (ho : o.op = .call { callee := .builtin .append, args := #[s, x], argTypes := #[30, 30] }) (v : Value) (n : Nat) (l : List UInt8) (hs : a.eval s = v) (hown : w.ownsRow 0 5 1 v n (l.map bv))
    (A : Option Addr) (m c : Nat) (l2 : List UInt8) (hx : a.eval x = .slice A m c) (hB : IsB w A m c l2) (h48 : n + m ≤ 140737488355328)
    (h : ∀ A' c' w', Hid (Apd w w' v (.slice A' (n + m) c') (n + m) ((l ++ l2).map bv)) → wpList Try.prog ops Q rest (a.put o.dst (.slice A' (n + m) c')) w') : wpList Try.prog ops Q (o :: rest) a w := by
  obtain ⟨v', w', hr, ha⟩ := run_append_some (ty := o.type) hown A m c l2 hB h48
  obtain ⟨A', c', rfl⟩ : ∃ A' c', v' = .slice A' (n + m) c' := by
    rcases ha.own.2 with ⟨rfl, h0⟩ | ⟨g, cap, cur, rfl, _⟩
    · exact ⟨_, _, by rw [h0]⟩
    · exact ⟨_, _, rfl⟩
  refine wpList_plain hgd fun K hK => ?_
  unfold Oper.wp execOp
  simp only [ho, resolve, invoke, builtin, Sem.run_bind, Sem.run_pure, Result.andThen_ok, List.map_toArray, List.map_cons, List.map_nil, hs, hx, hr]
  exact hK _ _ (h _ _ _ ha)
/-- An append over a world with one block more than w. -/
theorem Apd.less {w w' : World} {v v' : Value} {n : Nat} {xs : List Value} {o : Obj} (h : Apd (w.alloc o) w' v v' n xs) (_hv : ∀ k, v.ownBlock = some k → k < w.heap.size) : Apd w w' v v' n xs := by
  have hs : w.heap.size ≤ (w.alloc o).heap.size := by simp
  refine ⟨h.own, ⟨h.grown.os, h.grown.tape, h.grown.output, Nat.le_trans hs h.grown.size, fun i hi hn => (h.grown.block i (Nat.lt_of_lt_of_le hi hs) hn).trans (heap_alloc_old _ _ hi)⟩, fun b u n xs hu ha => h.keeps b u n xs (hu.alloc _) ha, ?_⟩
  rcases h.fresh with h1 | ⟨k, h1, h2⟩
  · exact .inl h1
  · exact .inr ⟨k, h1, by omega⟩
/-- The cells of an encoder; of the document's. -/
def ecells (g x y : Nat) (F : Value) : Array Value := #[.pointer (some ⟨g, 0, none⟩), .int .u32 (x : Nat), .int .u32 (y : Nat), F]
def rcells (x y : Nat) (F : Value) : Array Value := #[.int .u64 (x : Nat), .int .u64 (y : Nat), F]
theorem Try.isPtr23 : Try.prog.underlying 23 = some (.pointer 55) := by kernel_rfl
theorem Try.has55 : (Try.prog.info? 55).isSome = true := by kernel_rfl
theorem ptr_self (a : Addr) (w : World) : (binOp BinOp.eql 23 (.pointer (some a)) (.pointer (some a))).run Try.prog w = .ok (.bool true) w := by
  obtain ⟨j, hj⟩ := Option.isSome_iff_exists.1 Try.has55
  exact run_eql_ptr_same w a Try.isPtr23 hj
theorem ptr_none (a : Addr) (w : World) : (binOp BinOp.eql 23 (.pointer none) (.pointer (some a))).run Try.prog w = .ok (.bool false) w := by kernel_rfl
theorem own_sl {w : World} {base n : Nat} {v : Value} {xs : List Value} (h : w.ownsRow base 5 1 v n xs) : ∃ A c, v = .slice A n c := by
  rcases h.2 with ⟨rfl, rfl⟩ | ⟨g, cap, cur, rfl, _⟩
  · exact ⟨_, _, rfl⟩
  · exact ⟨_, _, rfl⟩
set_option maxRecDepth 10000 in
set_option maxHeartbeats 1000000 in
theorem made_yes (g : Nat) (w : World) (h : w.cell? ⟨g, 0, none⟩ = some (.pointer (some ⟨g, 0, none⟩))) :
    Calls Try.prog 26 #[.pointer (some ⟨g, 0, none⟩)] w fun r w' => r = .returned (.bool true) ∧ w = w' := by
  have hp := ptr_self ⟨g, 0, none⟩
  go_enter Try.func26, Try.ntmps26
  go_wp2_with fail
  go_ret
  exact ⟨rfl, rfl⟩
set_option maxRecDepth 10000 in
set_option maxHeartbeats 1000000 in
theorem made_nil (w : World) : Calls Try.prog 26 #[.pointer none] w fun r w' => r = .returned (.bool false) ∧ w = w' := by
  go_enter Try.func26, Try.ntmps26
  go_wp2_with fail
  go_ret
  exact ⟨rfl, rfl⟩
set_option maxRecDepth 10000 in
set_option maxHeartbeats 1000000 in
theorem made_zero (g : Nat) (w : World) (h : w.cell? ⟨g, 0, none⟩ = some (.pointer none)) :
    Calls Try.prog 26 #[.pointer (some ⟨g, 0, none⟩)] w fun r w' => r = .returned (.bool false) ∧ w = w' := by
  have hp := ptr_none ⟨g, 0, none⟩
  go_enter Try.func26, Try.ntmps26
  go_wp2_with fail
  go_ret
  exact ⟨rfl, rfl⟩
set_option maxRecDepth 10000 in
set_option maxHeartbeats 1000000 in
theorem NewEncoder_any (w : World) : Calls Try.prog 8 #[] w fun r w' => ∃ g, r = .returned (.pointer (some ⟨g, 0, none⟩)) ∧ Ob w.heap.size (· = g) w' g 55 (ecells g 0 4294967295) (.slice none 0 0) [] ∧ Below w.heap.size w w' := by
  go_enter Try.func8, Try.ntmps8
  go_wp2_with (go_at_call 25; refine (whole_any w).mono ?_; rintro r w1 ⟨rfl, b1⟩; have B1 := hid b1; clear b1)
  go_ret
  refine ⟨w1.heap.size, rfl, ⟨heap_alloc_new w1 _, by decide, World.ownsRow_nil _ _ _ _, rfl, fun k e => (by cases e), ?_⟩, B1.out.alloc B1.out.size _⟩
  rintro i rfl
  exact ⟨B1.out.size, by simp⟩
set_option maxRecDepth 10000 in
set_option maxHeartbeats 1000000 in
theorem Len_any {B : Nat} {S : Nat → Prop} {w : World} {g x y : Nat} {F : Value} {l : List UInt8} (h : Ob B S w g 55 (ecells g x y) F l) :
    Calls Try.prog 12 #[.pointer (some ⟨g, 0, none⟩)] w fun r w' => r = .returned (.int .i64 (l.length : Nat)) ∧ w = w' := by
  have HM := hid (made_yes g w (row_cell h.row 0))
  have c3 : w.cell? ⟨g, 3, none⟩ = some F := row_cell h.row 3
  obtain ⟨A, c, rfl⟩ := own_sl h.ff
  clear h
  go_enter Try.func12, Try.ntmps12
  go_wp2_with (go_at_call 26; refine HM.out.mono ?_; rintro r w' ⟨rfl, rfl⟩)
  go_ret
  exact ⟨rfl, rfl⟩
end Go.Proofs.Ytbgbacajgaeooaa
