/-
  BlendNone's walk.
-/
import Derived.Test.YtkfdbibgjoaefaaDoorAw
namespace Go.Proofs.YtkfdbibgjoaefaaDoor
open Go.RowKit

set_option maxRecDepth 10000 in
set_option maxHeartbeats 2000000 in
theorem none_any (H : Value) (bit : Int) (w : World) (kn : KnIs w) : Calls Tryd.prog 3 #[H, .int .i64 bit] w fun e w' => e = .returned (.bool true) ∧ Below w.heap.size w w' := by
  obtain ⟨W, hW⟩ : ∃ W, W = w.alloc (Obj.cells #[Value.pointer none, .slice none 0 0, .slice none 0 0, .slice none 0 0, .int .u32 0] 28) := ⟨_, rfl⟩
  have b0 : Below w.heap.size w W := by rw [hW]; exact (Below.refl _ _).alloc (Nat.le_refl _) _
  have c0 : W.cell? ⟨w.heap.size, 0, none⟩ = some (.pointer none) := by rw [hW]; go_simp
  have C0 := hid c0
  have B0 := hid b0
  have KN := hid (kn.below b0)
  clear b0 c0 kn
  obtain ⟨g, hg⟩ : ∃ g, w.heap.size = g := ⟨_, rfl⟩
  rw [hg] at C0
  go_enter Tryd.func3, Tryd.ntmps3
  go_wp2_with fail
  rw [← hW]
  clear hW hg
  refine (Contexts_nil H W).mono ?_
  rintro e w1 ⟨rfl, rfl⟩
  go_wp2_with fail
  have q := Contexts_zero g H W C0.out
  unfold pt at q
  refine q.mono ?_
  rintro e w1 ⟨rfl, rfl⟩
  clear q
  go_wp2_with fail
  refine (Learn_nil bit W).mono ?_
  rintro e w1 ⟨rfl, rfl⟩
  go_wp2_with fail
  have q := Learn_zero g bit W C0.out
  unfold pt at q
  refine q.mono ?_
  rintro e w1 ⟨rfl, rfl⟩
  clear q
  go_wp2_with fail
  refine (Guess_nil W).mono ?_
  rintro e w1 ⟨rfl, rfl⟩
  go_wp2_with fail
  have q := Guess_zero g W C0.out
  unfold pt at q
  refine q.mono ?_
  rintro e w1 ⟨rfl, rfl⟩
  clear q
  go_wp2_with fail
  refine (Bits_nil W).mono ?_
  rintro e w1 ⟨rfl, rfl⟩
  go_wp2_with fail
  have q := Bits_zero g W C0.out
  unfold pt at q
  refine q.mono ?_
  rintro e w1 ⟨rfl, rfl⟩
  clear q
  go_wp2_with fail
  refine (Leans_nil W).mono ?_
  rintro e w1 ⟨rfl, rfl⟩
  go_wp2_with fail
  have q := Leans_zero g W C0.out
  unfold pt at q
  refine q.mono ?_
  rintro e w1 ⟨rfl, rfl⟩
  clear q
  go_wp2_with fail
  refine (awake_any W KN.out).mono ?_
  rintro e w1 ⟨rfl, b1⟩
  go_wp2_with fail
  go_ret
  exact ⟨rfl, bel2 B0.out b1⟩
end Go.Proofs.YtkfdbibgjoaefaaDoor
