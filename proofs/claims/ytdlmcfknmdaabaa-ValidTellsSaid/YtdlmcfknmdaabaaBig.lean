/-
  Codes that are too long, of whatever length: nothing is read of them.
-/
import Derived.Test.YtdlmcfknmdaabaaAwk
namespace Go.Proofs.Ytdlmcfknmdaabaa
open Go.RowKit Go.Maps
set_option linter.unusedVariables false
set_option linter.unusedSimpArgs false

set_option maxRecDepth 10000 in
theorem each_big (A : Option Addr) (n c f : Nat) (caps : Array Value) (w : World) (h : 4096 < n) :
    Calls Try.prog 15 #[.slice A n c, .func (.func f) #[] caps] w fun e w' => e = .returned (.int .i64 3) ∧ w' = w := by
  have h1z : (4096 : Int) < (n : Int) := by omega
  clear h
  go_enter Try.func15, Try.ntmps15
  go_wp2
  go_ret
  exact ⟨rfl, rfl⟩
set_option maxRecDepth 10000 in
set_option maxHeartbeats 4000000 in
theorem Check_big (A : Option Addr) (n c : Nat) (post : Bool) (w : World) (h : 4096 < n) :
    Calls Try.prog 5 #[.slice A n c, .bool post] w fun e w' => e = .returned (.int .i64 3) ∧ Below w.heap.size w w' := by
  have HC := hid (fun caps w => each_big A n c 16 caps w h)
  have hm : (if (4096 : Int) < (n : Int) then 4096 else (n : Int)) = 4096 := if_pos (by omega)
  have hmk : ∀ w, (Instr.makeMap 42 (some (.int .i64 4096))).run Try.prog w = .ok (.map (some w.heap.size)) (w.alloc (.map #[] 0)) := mk42 4096 (by omega)
  have HB := hid (chk_made w []).2
  clear h
  go_enter Try.func5, Try.ntmps5
  go_wp2_with (go_at_call 15; (with_reducible refine (HC.out _ _).mono ?_); rintro r w2 ⟨rfl, e2⟩; rw [e2]; clear e2 w2)
  go_ret
  exact ⟨rfl, HB.out⟩
set_option maxRecDepth 10000 in
set_option maxHeartbeats 4000000 in
theorem stays_big (A : Option Addr) (n c : Nat) (post : Bool) (v : Value) (w : World) (h : 4096 < n) :
    Calls Try.prog 4 #[.slice A n c, .bool post, v] w fun e w' => e = .returned (.bool true) ∧ Below w.heap.size w w' := by
  have HC := hid (fun post w => Check_big A n c post w h)
  have HA := hid (fun w => awake_any w)
  clear h
  go_enter Try.func4, Try.ntmps4
  go_wp2_with (go_at_call 5; (with_reducible refine (HC.out _ _).mono ?_); rintro r w2 ⟨rfl, b2⟩; have B2 := hid b2; clear b2)
  refine (HA.out _).mono ?_
  rintro r w3 ⟨rfl, b3⟩
  dsimp only
  go_wp2_with fail
  go_ret
  exact ⟨rfl, B2.out.trans (b3.mono B2.out.size)⟩
end Go.Proofs.Ytdlmcfknmdaabaa
