/-
  A line of the table.
-/
import Derived.Test.YtdachagkhjhggaaBtw
namespace Go.Proofs.Ytdachagkhjhggaa
open Go.RowKit

theorem u45 : ∃ fs, Try.prog.underlying 54 = some (.struct fs) := ⟨#[⟨"d", 3, 0, false, "", "quillpress/code", 0⟩, ⟨"s", 3, 1, false, "", "quillpress/code", 8⟩, ⟨"n", 3, 2, false, "", "quillpress/code", 16⟩, ⟨"behind", 3, 3, false, "", "quillpress/code", 24⟩], by kernel_rfl⟩
theorem u24 : ∃ fs, Try.prog.underlying 38 = some (.struct fs) := ⟨#[⟨"Op", 36, 0, false, "", "", 0⟩, ⟨"D", 3, 1, false, "", "", 8⟩, ⟨"S", 3, 2, false, "", "", 16⟩, ⟨"N", 3, 3, false, "", "", 24⟩], by kernel_rfl⟩
theorem loadVar_45 (w : World) (g : Nat) (t : TypeId) (cs : Array Value) (f : Nat × Nat) (h : w.heap[g]? = some (.cells cs t f)) (h4 : cs.size = 4) : (loadVar 54 ⟨g, 0, none⟩).run Try.prog w = .ok (.agg cs) w := by
  obtain ⟨fs, hu⟩ := u45
  exact run_loadVar_row w g t 54 cs f _ h hu rfl (by rw [h4]; kernel_rfl)
theorem loadVar_24 (w : World) (g : Nat) (t : TypeId) (cs : Array Value) (f : Nat × Nat) (h : w.heap[g]? = some (.cells cs t f)) (h4 : cs.size = 4) : (loadVar 38 ⟨g, 0, none⟩).run Try.prog w = .ok (.agg cs) w := by
  obtain ⟨fs, hu⟩ := u24
  exact run_loadVar_row w g t 38 cs f _ h hu rfl (by rw [h4]; kernel_rfl)
theorem results_45 {fn : Func} {p u : Tmp} (h : fn.results = #[.cell p 54, .tmp u]) (tmps : Array Value) (w : World) (g : Nat) (t : TypeId) (cs : Array Value) (f : Nat × Nat)
    (hp : tmps.getD p undef = .pointer (some ⟨g, 0, none⟩)) (hg : w.heap[g]? = some (.cells cs t f)) (h4 : cs.size = 4) : (results fn tmps).run Try.prog w = .ok (.tuple #[.agg cs, tmps.getD u undef]) w := by
  have hp' : tmps[p]?.getD undef = .pointer (some ⟨g, 0, none⟩) := by simpa using hp
  simp [results, h, hp', asAddr, loadVar_45 w g t cs f hg h4, Result.andThen]
theorem results_24 {fn : Func} {p : Tmp} (h : fn.results = #[.cell p 38]) (tmps : Array Value) (w : World) (g : Nat) (t : TypeId) (cs : Array Value) (f : Nat × Nat)
    (hp : tmps.getD p undef = .pointer (some ⟨g, 0, none⟩)) (hg : w.heap[g]? = some (.cells cs t f)) (h4 : cs.size = 4) : (results fn tmps).run Try.prog w = .ok (.agg cs) w := by
  have hp' : tmps[p]?.getD undef = .pointer (some ⟨g, 0, none⟩) := by simpa using hp
  simp [results, h, hp', asAddr, loadVar_24 w g t cs f hg h4]
theorem results_243 {fn : Func} {p u v : Tmp} (h : fn.results = #[.cell p 38, .tmp u, .tmp v]) (tmps : Array Value) (w : World) (g : Nat) (t : TypeId) (cs : Array Value) (f : Nat × Nat)
    (hp : tmps.getD p undef = .pointer (some ⟨g, 0, none⟩)) (hg : w.heap[g]? = some (.cells cs t f)) (h4 : cs.size = 4) : (results fn tmps).run Try.prog w = .ok (.tuple #[.agg cs, tmps.getD u undef, tmps.getD v undef]) w := by
  have hp' : tmps[p]?.getD undef = .pointer (some ⟨g, 0, none⟩) := by simpa using hp
  simp [results, h, hp', asAddr, loadVar_24 w g t cs f hg h4, Result.andThen]
theorem fr2 (w : World) (A B : Obj) : Below w.heap.size w ((w.alloc A).alloc B) := ((Below.refl _ w).alloc (Nat.le_refl _) A).alloc (by simp) B
set_option maxRecDepth 10000 in
set_option maxHeartbeats 4000000 in
theorem rowOf_any (o d s n : Int) (w : World) : Calls Try.prog 27 #[vI o d s n] w fun e w' => e = .returned (.tuple #[vR (rD o) (rS o s) (rN o s) (rB o s), .bool (rK o)]) ∧ Below w.heap.size w w' := by
  have HR := hid (fun o w => reck_any o w)
  unfold vI
  rcases (by omega : o = 0 ∨ o = 24 ∨ o = 25 ∨ o = 26 ∨ o = 1 ∨ o = 2 ∨ o = 3 ∨ o = 4 ∨ o = 5 ∨ o = 6 ∨ o = 7 ∨ o = 22 ∨ o = 23 ∨ o = 27 ∨ o = 28 ∨ o = 29 ∨ o = 30 ∨ (8 ≤ o ∧ o ≤ 21) ∨ (o < 0 ∨ 30 < o)) with rfl | rfl | rfl | rfl | rfl | rfl | rfl | rfl | rfl | rfl | rfl | rfl | rfl | rfl | rfl | rfl | rfl | hr | hr
  iterate 17
    · clear HR
      go_enter Try.func27, Try.ntmps27
      go_wp2_with fail
      refine bodyPost_ret (results_45 (by kernel_rfl : Try.f27.results = #[.cell 2 54, .tmp 3]) _ _ (w.heap.size + 1) _ _ _ rfl (heap_alloc2_new w _ _) rfl) rfl ?_
      exact ⟨rfl, fr2 w _ _⟩
  · have n0 : (o == 0) = false := by simp only [beq_eq_false_iff_ne, ne_eq]; omega
    have n24 : (o == 24) = false := by simp only [beq_eq_false_iff_ne, ne_eq]; omega
    have n25 : (o == 25) = false := by simp only [beq_eq_false_iff_ne, ne_eq]; omega
    have n26 : (o == 26) = false := by simp only [beq_eq_false_iff_ne, ne_eq]; omega
    have n1 : (o == 1) = false := by simp only [beq_eq_false_iff_ne, ne_eq]; omega
    have n2 : (o == 2) = false := by simp only [beq_eq_false_iff_ne, ne_eq]; omega
    have n3 : (o == 3) = false := by simp only [beq_eq_false_iff_ne, ne_eq]; omega
    have n4 : (o == 4) = false := by simp only [beq_eq_false_iff_ne, ne_eq]; omega
    have n5 : (o == 5) = false := by simp only [beq_eq_false_iff_ne, ne_eq]; omega
    have n6 : (o == 6) = false := by simp only [beq_eq_false_iff_ne, ne_eq]; omega
    have n7 : (o == 7) = false := by simp only [beq_eq_false_iff_ne, ne_eq]; omega
    have n22 : (o == 22) = false := by simp only [beq_eq_false_iff_ne, ne_eq]; omega
    have n23 : (o == 23) = false := by simp only [beq_eq_false_iff_ne, ne_eq]; omega
    have n27 : (o == 27) = false := by simp only [beq_eq_false_iff_ne, ne_eq]; omega
    have n28 : (o == 28) = false := by simp only [beq_eq_false_iff_ne, ne_eq]; omega
    have n29 : (o == 29) = false := by simp only [beq_eq_false_iff_ne, ne_eq]; omega
    have n30 : (o == 30) = false := by simp only [beq_eq_false_iff_ne, ne_eq]; omega
    have hrk : reck o := hr
    have hd : decide (reck o) = true := decide_eq_true hrk
    have hlo := hr.1
    by_cases h7 : s = 7
    · have rc : rD o = 0 ∧ rS o s = 7 ∧ rN o s = 255 ∧ rB o s = 1 ∧ rK o = true := by
        rcases row_cases o s with ⟨r0, r1, r2, r3, r4, hc⟩ | ⟨r0, r1, r2, r3, r4, hc⟩ | ⟨r0, r1, r2, r3, r4, hc⟩ | ⟨r0, r1, r2, r3, r4, hc⟩ | ⟨r0, r1, r2, r3, r4, hc⟩ | ⟨r0, r1, r2, r3, r4, hc⟩ | ⟨r0, r1, r2, r3, r4, hc⟩ | ⟨r0, r1, r2, r3, r4, hc⟩ | ⟨r0, r1, r2, r3, r4, hc⟩ | ⟨r0, r1, r2, r3, r4, hc⟩ | ⟨r0, r1, r2, r3, r4, hc⟩ <;> first | omega | exact ⟨r1, r2, r3, r4, r0⟩
      have RCH := hid rc
      clear rc hrk hr
      have hs : (s == 7) = true := by simp only [beq_iff_eq]; omega
      clear h7
      go_enter Try.func27, Try.ntmps27
      go_wp2_with (go_at_call 33; (with_reducible refine (HR.out _ _).mono ?_); rw [hd]; rintro r w' ⟨rfl, rfl⟩)
      refine bodyPost_ret (results_45 (by kernel_rfl : Try.f27.results = #[.cell 2 54, .tmp 3]) _ _ (w.heap.size + 1) _ _ _ rfl (heap_alloc2_new w _ _) rfl) rfl ?_
      obtain ⟨r1, r2, r3, r4, r5⟩ := RCH.out
      rw [r1, r2, r3, r4, r5]
      exact ⟨rfl, fr2 w _ _⟩
    · have rc : rD o = 0 ∧ rS o s = 6 ∧ rN o s = 0 ∧ rB o s = 0 ∧ rK o = true := by
        rcases row_cases o s with ⟨r0, r1, r2, r3, r4, hc⟩ | ⟨r0, r1, r2, r3, r4, hc⟩ | ⟨r0, r1, r2, r3, r4, hc⟩ | ⟨r0, r1, r2, r3, r4, hc⟩ | ⟨r0, r1, r2, r3, r4, hc⟩ | ⟨r0, r1, r2, r3, r4, hc⟩ | ⟨r0, r1, r2, r3, r4, hc⟩ | ⟨r0, r1, r2, r3, r4, hc⟩ | ⟨r0, r1, r2, r3, r4, hc⟩ | ⟨r0, r1, r2, r3, r4, hc⟩ | ⟨r0, r1, r2, r3, r4, hc⟩ <;> first | omega | exact ⟨r1, r2, r3, r4, r0⟩
      have RCH := hid rc
      clear rc hrk hr
      have hs : (s == 7) = false := by simp only [beq_eq_false_iff_ne, ne_eq]; omega
      clear h7
      go_enter Try.func27, Try.ntmps27
      go_wp2_with (go_at_call 33; (with_reducible refine (HR.out _ _).mono ?_); rw [hd]; rintro r w' ⟨rfl, rfl⟩)
      refine bodyPost_ret (results_45 (by kernel_rfl : Try.f27.results = #[.cell 2 54, .tmp 3]) _ _ (w.heap.size + 1) _ _ _ rfl (heap_alloc2_new w _ _) rfl) rfl ?_
      obtain ⟨r1, r2, r3, r4, r5⟩ := RCH.out
      rw [r1, r2, r3, r4, r5]
      exact ⟨rfl, fr2 w _ _⟩
  · have n0 : (o == 0) = false := by simp only [beq_eq_false_iff_ne, ne_eq]; omega
    have n24 : (o == 24) = false := by simp only [beq_eq_false_iff_ne, ne_eq]; omega
    have n25 : (o == 25) = false := by simp only [beq_eq_false_iff_ne, ne_eq]; omega
    have n26 : (o == 26) = false := by simp only [beq_eq_false_iff_ne, ne_eq]; omega
    have n1 : (o == 1) = false := by simp only [beq_eq_false_iff_ne, ne_eq]; omega
    have n2 : (o == 2) = false := by simp only [beq_eq_false_iff_ne, ne_eq]; omega
    have n3 : (o == 3) = false := by simp only [beq_eq_false_iff_ne, ne_eq]; omega
    have n4 : (o == 4) = false := by simp only [beq_eq_false_iff_ne, ne_eq]; omega
    have n5 : (o == 5) = false := by simp only [beq_eq_false_iff_ne, ne_eq]; omega
    have n6 : (o == 6) = false := by simp only [beq_eq_false_iff_ne, ne_eq]; omega
    have n7 : (o == 7) = false := by simp only [beq_eq_false_iff_ne, ne_eq]; omega
    have n22 : (o == 22) = false := by simp only [beq_eq_false_iff_ne, ne_eq]; omega
    have n23 : (o == 23) = false := by simp only [beq_eq_false_iff_ne, ne_eq]; omega
    have n27 : (o == 27) = false := by simp only [beq_eq_false_iff_ne, ne_eq]; omega
    have n28 : (o == 28) = false := by simp only [beq_eq_false_iff_ne, ne_eq]; omega
    have n29 : (o == 29) = false := by simp only [beq_eq_false_iff_ne, ne_eq]; omega
    have n30 : (o == 30) = false := by simp only [beq_eq_false_iff_ne, ne_eq]; omega
    have hd : decide (reck o) = false := decide_eq_false (fun h => by unfold reck at h; omega)
    have rc : rD o = 0 ∧ rS o s = 0 ∧ rN o s = 0 ∧ rB o s = 0 ∧ rK o = false := by
      rcases row_cases o s with ⟨r0, r1, r2, r3, r4, hc⟩ | ⟨r0, r1, r2, r3, r4, hc⟩ | ⟨r0, r1, r2, r3, r4, hc⟩ | ⟨r0, r1, r2, r3, r4, hc⟩ | ⟨r0, r1, r2, r3, r4, hc⟩ | ⟨r0, r1, r2, r3, r4, hc⟩ | ⟨r0, r1, r2, r3, r4, hc⟩ | ⟨r0, r1, r2, r3, r4, hc⟩ | ⟨r0, r1, r2, r3, r4, hc⟩ | ⟨r0, r1, r2, r3, r4, hc⟩ | ⟨r0, r1, r2, r3, r4, hc⟩ <;> first | omega | exact ⟨r1, r2, r3, r4, r0⟩
    have RCH := hid rc
    clear rc hr
    go_enter Try.func27, Try.ntmps27
    go_wp2_with (go_at_call 33; (with_reducible refine (HR.out _ _).mono ?_); rw [hd]; rintro r w' ⟨rfl, rfl⟩)
    refine bodyPost_ret (results_45 (by kernel_rfl : Try.f27.results = #[.cell 2 54, .tmp 3]) _ _ (w.heap.size + 1) _ _ _ rfl (heap_alloc2_new w _ _) rfl) rfl ?_
    obtain ⟨r1, r2, r3, r4, r5⟩ := RCH.out
    rw [r1, r2, r3, r4, r5]
    exact ⟨rfl, fr2 w _ _⟩
end Go.Proofs.Ytdachagkhjhggaa
