/-
  The chapter's examples hold: 'awake' is true.
-/
import Derived.Test.YtnanmdfbgoahjaaMdk
import Derived.Test.YtnanmdfbgoahjaaGtw
import Derived.Test.YtnanmdfbgoahjaaPtw
namespace Go.Proofs.Ytnanmdfbgoahjaa
open Go.RowKit

theorem plain_put : plainM.put = [0, 0, 0, 0, 1, 1, 8, 5, 0, 1, 0, 0, 0] := by decide +kernel
theorem plain_right : plainM.right = 0 := by decide +kernel
def twoM : Md := ⟨0, 0, 0, 0, [⟨1, 0, 0, 0, 5, 0, 0⟩, ⟨1, 0, 0, 0, 5, 0, 0⟩], [0], []⟩
theorem two_right : twoM.right = 131 := by decide +kernel
theorem Put_plain (w : World) (P C Q : Sl) (a : MdAt w w.heap.size plainM P C Q) : Calls Try.prog 8 #[vMd plainM P C Q] w fun e w' => ∃ A c, e = .returned (.tuple #[.slice A 13 c, .int .i64 0]) ∧ IsBB w' w'.heap.size A 13 c plainM.put ∧ Below w.heap.size w w' :=
  (Put_good w plainM P C Q a plain_right).mono fun _ _ ⟨v, e, ho, hb⟩ => by
    have hl : plainM.put.length = 13 := by rw [plain_put]; rfl
    rw [hl] at ho
    obtain ⟨A, c, rfl, _⟩ := own_slice ho
    exact ⟨A, c, e, own_isB2 ho (by decide), hb⟩
theorem Get_plain (w : World) (A : Option Addr) (c : Nat) (h : IsBB w w.heap.size A 14 c (plainM.put ++ [7])) : Calls Try.prog 10 #[.slice A 14 c] w fun e w' => ∃ P C Q, e = .returned (.tuple #[vMd plainM P C Q, .int .i64 13, .int .i64 0]) ∧ MdAt w' w'.heap.size plainM P C Q ∧ Below w.heap.size w w' :=
  (Get_any A 14 c _ w h (by decide)).mono fun e w' hp => by
    have hg := getM_there plainM [7] plain_right
    have hl : plainM.put.length = 13 := by rw [plain_put]; rfl
    rw [hl] at hg
    rcases hp with ⟨er, _, h1, _⟩ | ⟨x, k, P, C, Q, h1, h2, h3, _, h5⟩
    · rw [hg] at h1; cases h1
    · rw [hg] at h1
      cases h1
      exact ⟨P, C, Q, h2, h3, h5⟩
theorem Get_short (w : World) (A : Option Addr) (c : Nat) (h : IsBB w w.heap.size A 12 c (plainM.put.take 12)) : Calls Try.prog 10 #[.slice A 12 c] w fun e w' => e = .returned (.tuple #[.agg zero7, .int .i64 0, .int .i64 12]) ∧ Below w.heap.size w w' :=
  (Get_any A 12 c _ w h (by decide)).mono fun e w' hp => by
    have hl : plainM.put.length = 13 := by rw [plain_put]; rfl
    have hg := getM_short plainM 12 plain_right (by omega)
    rcases hp with ⟨er, _, h1, h2, h3⟩ | ⟨x, k, P, C, Q, h1, _⟩
    · rw [hg] at h1
      cases h1
      exact ⟨h2, h3⟩
    · rw [hg] at h1; cases h1
/-- append of one part to a list of parts of the call's own, as an equation. -/
theorem run_parts_app {w : World} {base g : Nat} {q r : Pt} (ho : w.ownsRow base 41 7 (.slice (some ⟨g, 0, none⟩) 1 1) 1 ([q].flatMap cellsP)) (W : World) (hW : W = (w.alloc (.cells (cellsP r).toArray 41)).drew) (hb : base ≤ w.heap.size) :
    ∃ A' c' w', (∀ ty, (Builtin.append_ #[22, 22] ty #[.slice (some ⟨g, 0, none⟩) 1 1, .slice (some ⟨w.heap.size, 0, none⟩) 1 1]).run Try.prog W = .ok (.slice A' 2 c') w') ∧ w'.ownsRow base 41 7 (.slice A' 2 c') 2 ([q, r].flatMap cellsP) ∧ W.grownBy w' (some g) := by
  subst hW
  obtain ⟨i, hi, hz, hs, hby⟩ := info_parts Try.info41
  have hn := heap_alloc_new w (.cells (cellsP r).toArray 41)
  obtain ⟨v', w', hr, h2, h3, _⟩ := run_append_own (P := Try.prog) ((w.alloc (.cells (cellsP r).toArray 41)).drew) base 22 22 41 i _ 7 56 Try.underlying22 hi hz hs hby rfl (by decide) (.slice (some ⟨g, 0, none⟩) 1 1) 1 ([q].flatMap cellsP) ((ho.alloc _).drew) ⟨w.heap.size, 0, none⟩ 1 1 (cellsP r) rfl
    (fun j u hu => by
      rw [Addr.add_lit, Nat.zero_add]
      exact (row_cell (w := (w.alloc (.cells (cellsP r).toArray 41)).drew) hn j).trans (by rw [List.getElem?_toArray]; exact hu)) (by intro u hu; simp [cellsP] at hu; rcases hu with rfl | rfl | rfl | rfl | rfl | rfl | rfl <;> rfl) (by unfold maxLen; omega) (by omega) (by simp; omega)
  obtain ⟨A', c', rfl, _⟩ := own_slice h2
  exact ⟨A', c', w', fun ty => hr, by simpa using h2, h3⟩
theorem step_run {ops : Array Oper} {o : Oper} {a : Act} {K : Act → World → Prop} {Q : Exit → Act → World → Prop} {E : Prop} (hgd : o.guard = none) (s x : Operand) (t : TypeId)
    (ho : o.op = .call { callee := .builtin .append, args := #[s, x], argTypes := #[t, t] }) (v u v' : Value) (hs : a.eval s = v) (hx : a.eval x = u) (w w' : World)
    (hr : ∀ ty, (Builtin.append_ #[t, t] ty #[v, u]).run Try.prog w = .ok v' w') (hK : K (a.put o.dst v') w') :
    if Region.wanted o (yielded ops a.tmps) = true then Oper.wp Try.prog o a w K Q else E := by
  have hw : Region.wanted o (yielded ops a.tmps) = true := by simp [Region.wanted, hgd]
  rw [if_pos hw]
  have hrun := hr o.type
  unfold Oper.wp execOp
  simp only [ho, resolve, invoke, builtin, Sem.run_bind, Sem.run_pure, Result.andThen_ok, List.map_toArray, List.map_cons, List.map_nil, hs, hx]
  rw [hrun]
  exact hK
end Go.Proofs.Ytnanmdfbgoahjaa
