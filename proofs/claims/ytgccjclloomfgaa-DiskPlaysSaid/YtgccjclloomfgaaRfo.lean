/-
  The document's disk as a value: eight cells; an operation of it.
-/
import Derived.Test.YtgccjclloomfgaaSlc
import Derived.Deep.Cut
import Derived.Outline
namespace Go.Proofs.Ytgccjclloomfgaa
open Go.RowKit

/-- The cells of the document's disk: its file in N, its old file in O. -/
def rcells (d : Dk) (N O : Value) : Array Value := #[.int .i64 (d.most : Nat), N, O, .int .i64 (d.floor : Nat), .bool d.down, .int .i64 (d.armed : Nat), .int .i64 (d.fails : Nat), .int .i64 (d.err : Nat)]
structure RfOk (d : Dk) : Prop where
  mo : d.most ≤ 4194304
  nw : d.now.length ≤ d.most
  od : d.old.length ≤ d.most
  fl : d.floor ≤ d.now.length
  ar : d.armed ≤ 1152921504606846977
  fa : d.fails ≤ 1152921504606846977
  f1 : d.fails ≠ 1
  er : d.fails ≠ 0 → d.err ≠ 0
theorem RfOk.op {d : Dk} (h : RfOk d) : RfOk d.op.1 := by
  obtain ⟨e1, e2, e3, e4⟩ := op_now d
  obtain ⟨b1, b2, b3, b4⟩ := op_bounds d
  have h1 := h.ar
  have h2 := h.fa
  exact ⟨by rw [e4]; exact h.mo, by rw [e1, e4]; exact h.nw, by rw [e2, e4]; exact h.od, by rw [e1, e3]; exact h.fl, by omega, by omega, op_fails d h.f1, fun hf => by rw [b4]; exact h.er (b3 hf)⟩
theorem fr (w : World) (o : Obj) : Below w.heap.size w (w.alloc o) := (Below.refl _ w).alloc (Nat.le_refl _) o
theorem u43 : ∃ fs, Try.prog.underlying 43 = some (.struct fs) := by
  have h : (match Try.prog.underlying 43 with | some (.struct _) => true | _ => false) = true := by kernel_rfl
  split at h
  · rename_i fs e
    exact ⟨fs, e⟩
  · cases h
theorem loadVar_row (w : World) (g : Nat) (t : TypeId) (cs : Array Value) (f : Nat × Nat) (h : w.heap[g]? = some (.cells cs t f)) (h8 : cs.size = 8) : (loadVar 43 ⟨g, 0, none⟩).run Try.prog w = .ok (.agg cs) w := by
  obtain ⟨fs, hu⟩ := u43
  exact run_loadVar_row w g t 43 cs f _ h hu rfl (by rw [h8]; kernel_rfl)
/-- The results of a function of the document's disk: the disk, and more. -/
theorem results_d1 {fn : Func} {p u : Tmp} (h : fn.results = #[.cell p 43, .tmp u]) (tmps : Array Value) (w : World) (g : Nat) (t : TypeId) (cs : Array Value) (f : Nat × Nat)
    (hp : tmps.getD p undef = .pointer (some ⟨g, 0, none⟩)) (hg : w.heap[g]? = some (.cells cs t f)) (h8 : cs.size = 8) : (results fn tmps).run Try.prog w = .ok (.tuple #[.agg cs, tmps.getD u undef]) w := by
  have hp' : tmps[p]?.getD undef = .pointer (some ⟨g, 0, none⟩) := by simpa using hp
  simp [results, h, hp', asAddr, loadVar_row w g t cs f hg h8, Sem.run_bind, Result.andThen]
theorem results_d2 {fn : Func} {p u v : Tmp} (h : fn.results = #[.cell p 43, .tmp u, .tmp v]) (tmps : Array Value) (w : World) (g : Nat) (t : TypeId) (cs : Array Value) (f : Nat × Nat)
    (hp : tmps.getD p undef = .pointer (some ⟨g, 0, none⟩)) (hg : w.heap[g]? = some (.cells cs t f)) (h8 : cs.size = 8) : (results fn tmps).run Try.prog w = .ok (.tuple #[.agg cs, tmps.getD u undef, tmps.getD v undef]) w := by
  have hp' : tmps[p]?.getD undef = .pointer (some ⟨g, 0, none⟩) := by simpa using hp
  simp [results, h, hp', asAddr, loadVar_row w g t cs f hg h8, Sem.run_bind, Result.andThen]
theorem results_d0 {fn : Func} {p : Tmp} (h : fn.results = #[.cell p 43]) (tmps : Array Value) (w : World) (g : Nat) (t : TypeId) (cs : Array Value) (f : Nat × Nat)
    (hp : tmps.getD p undef = .pointer (some ⟨g, 0, none⟩)) (hg : w.heap[g]? = some (.cells cs t f)) (h8 : cs.size = 8) : (results fn tmps).run Try.prog w = .ok (.agg cs) w := by
  have hp' : tmps[p]?.getD undef = .pointer (some ⟨g, 0, none⟩) := by simpa using hp
  simp [results, h, hp', asAddr, loadVar_row w g t cs f hg h8]
theorem fr2 (w : World) (A B : Obj) : Below w.heap.size w ((w.alloc A).alloc B) := ((Below.refl _ w).alloc (Nat.le_refl _) A).alloc (by simp) B
set_option maxRecDepth 10000 in
set_option maxHeartbeats 1000000 in
theorem Operation_core (most : Nat) (now old : List UInt8) (floor : Nat) (down : Bool) (armed fails err : Nat) (AN : Option Addr) (nN cN : Nat) (AO : Option Addr) (nO cO : Nat) (w : World) (ha : armed ≤ 1152921504606846977) (hf : fails ≤ 1152921504606846977) (h1 : fails ≠ 1)
    (d' : Dk) (e : Nat) (hd : (⟨most, now, old, floor, down, armed, fails, err⟩ : Dk).op = (d', e)) :
    Calls Try.prog 52 #[.agg (rcells ⟨most, now, old, floor, down, armed, fails, err⟩ (.slice AN nN cN) (.slice AO nO cO))] w fun r w' => r = .returned (.tuple #[.agg (rcells d' (.slice AN nN cN) (.slice AO nO cO)), .int .i64 (e : Nat)]) ∧ Below w.heap.size w w' := by
  unfold Dk.op at hd
  simp only at hd
  unfold rcells
  simp only
  cases down
  · rw [if_neg (by simp)] at hd
    by_cases a1 : armed = 1
    · subst a1
      rw [if_pos rfl] at hd
      cases hd
      go_enter Try.func52, Try.ntmps52
      go_wp2_with fail
      refine bodyPost_ret (results_d1 (by kernel_rfl : Try.f52.results = #[.cell 2 43, .tmp 3]) _ _ (w.heap.size + 1) _ _ _ rfl (heap_alloc2_new w _ _) rfl) rfl ?_
      exact ⟨rfl, fr2 w _ _⟩
    · rw [if_neg a1] at hd
      have a2 : armed = 0 ∨ ∃ a : Nat, armed = a + 1 ∧ (1 : Int) < ((a + 1 : Nat) : Int) := by
        rcases Nat.eq_zero_or_pos armed with h0 | h0
        · exact .inl h0
        · exact .inr ⟨armed - 1, by omega, by omega⟩
      have f2 : fails = 2 ∨ (fails = 0) ∨ ∃ f : Nat, fails = f + 1 ∧ (2 : Int) < ((f + 1 : Nat) : Int) := by
        rcases Nat.eq_zero_or_pos fails with h0 | h0
        · exact .inr (.inl h0)
        · by_cases h2 : fails = 2
          · exact .inl h2
          · exact .inr (.inr ⟨fails - 1, by omega, by omega⟩)
      rcases a2 with rfl | ⟨a, rfl, ha2⟩ <;> rcases f2 with rfl | rfl | ⟨f, rfl, hf2⟩
      · rw [if_pos rfl] at hd
        cases hd
        go_enter Try.func52, Try.ntmps52
        go_wp2_with fail
        go_region
        all_goals
          go_wp2_with fail
          refine bodyPost_ret (results_d1 (by kernel_rfl : Try.f52.results = #[.cell 2 43, .tmp 3]) _ _ (w.heap.size + 1) _ _ _ rfl (heap_alloc2_new w _ _) rfl) rfl ?_
          exact ⟨rfl, (fr2 w _ _).drew⟩
      · rw [if_neg (by omega)] at hd
        cases hd
        go_enter Try.func52, Try.ntmps52
        go_wp2_with fail
        refine bodyPost_ret (results_d1 (by kernel_rfl : Try.f52.results = #[.cell 2 43, .tmp 3]) _ _ (w.heap.size + 1) _ _ _ rfl (heap_alloc2_new w _ _) rfl) rfl ?_
        exact ⟨rfl, fr2 w _ _⟩
      · rw [if_neg (by omega), if_pos (by omega)] at hd
        cases hd
        go_enter Try.func52, Try.ntmps52
        go_wp2_with fail
        refine bodyPost_ret (results_d1 (by kernel_rfl : Try.f52.results = #[.cell 2 43, .tmp 3]) _ _ (w.heap.size + 1) _ _ _ rfl (heap_alloc2_new w _ _) rfl) rfl ?_
        exact ⟨rfl, fr2 w _ _⟩
      · rw [if_pos rfl] at hd
        cases hd
        go_enter Try.func52, Try.ntmps52
        go_wp2_with fail
        go_region
        all_goals
          go_wp2_with fail
          refine bodyPost_ret (results_d1 (by kernel_rfl : Try.f52.results = #[.cell 2 43, .tmp 3]) _ _ (w.heap.size + 1) _ _ _ rfl (heap_alloc2_new w _ _) rfl) rfl ?_
          exact ⟨rfl, (fr2 w _ _).drew⟩
      · rw [if_neg (by omega)] at hd
        cases hd
        go_enter Try.func52, Try.ntmps52
        go_wp2_with fail
        refine bodyPost_ret (results_d1 (by kernel_rfl : Try.f52.results = #[.cell 2 43, .tmp 3]) _ _ (w.heap.size + 1) _ _ _ rfl (heap_alloc2_new w _ _) rfl) rfl ?_
        exact ⟨rfl, fr2 w _ _⟩
      · rw [if_neg (by omega), if_pos (by omega)] at hd
        cases hd
        go_enter Try.func52, Try.ntmps52
        go_wp2_with fail
        refine bodyPost_ret (results_d1 (by kernel_rfl : Try.f52.results = #[.cell 2 43, .tmp 3]) _ _ (w.heap.size + 1) _ _ _ rfl (heap_alloc2_new w _ _) rfl) rfl ?_
        exact ⟨rfl, fr2 w _ _⟩
  · rw [if_pos rfl] at hd
    cases hd
    go_enter Try.func52, Try.ntmps52
    go_wp2_with fail
    refine bodyPost_ret (results_d1 (by kernel_rfl : Try.f52.results = #[.cell 2 43, .tmp 3]) _ _ (w.heap.size + 1) _ _ _ rfl (heap_alloc2_new w _ _) rfl) rfl ?_
    exact ⟨rfl, fr2 w _ _⟩
theorem Operation_any (d : Dk) (AN : Option Addr) (nN cN : Nat) (AO : Option Addr) (nO cO : Nat) (w : World) (h : RfOk d) :
    Calls Try.prog 52 #[.agg (rcells d (.slice AN nN cN) (.slice AO nO cO))] w fun r w' => r = .returned (.tuple #[.agg (rcells d.op.1 (.slice AN nN cN) (.slice AO nO cO)), .int .i64 (d.op.2 : Nat)]) ∧ Below w.heap.size w w' := by
  obtain ⟨most, now, old, floor, down, armed, fails, err⟩ := d
  exact Operation_core most now old floor down armed fails err AN nN cN AO nO cO w h.ar h.fa h.f1 _ _ rfl
end Go.Proofs.Ytgccjclloomfgaa
