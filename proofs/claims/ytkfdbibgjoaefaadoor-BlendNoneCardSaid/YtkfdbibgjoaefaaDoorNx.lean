/-
  The contracts of Next and Chance, the program's and the document's.
-/
import Derived.Test.YtkfdbibgjoaefaaDoorSta
import Derived.Shelf.Abstract
import Derived.IntWalk
namespace Go.Proofs.YtkfdbibgjoaefaaDoor
open Go.RowKit

def oneB (bit : Int) : Bool := !decide (bit = 0)
theorem nx0 (s : Nat) : nxN s (oneB 0) = moreN (s / 16) * 16 + othN (s % 16) := rfl
theorem nx1 (s : Nat) (bit : Int) (h : ¬ bit = 0) : nxN s (oneB bit) = othN (s / 16) * 16 + moreN (s % 16) := by
  have : oneB bit = true := by unfold oneB; simp [h]
  rw [this]; rfl
theorem oth_lt (n : Nat) (h : n < 16) : othN n < 16 := by unfold othN; split <;> omega
theorem more_lt (n : Nat) : moreN n < 16 := by unfold moreN; omega
set_option maxRecDepth 10000 in
set_option maxHeartbeats 1000000 in
theorem next_any (s : Nat) (bit : Int) (hs : s < 256) (w : World) :
    Calls Tryd.prog 75 #[.int .u8 s, .int .i64 bit] w fun e w' => e = .returned (.int .u8 (nxN s (oneB bit) : Nat)) ∧ Below w.heap.size w w' := by
  have HA := hid (fun w => counts_any s hs w)
  obtain ⟨a, ha⟩ : ∃ a, s / 16 = a := ⟨_, rfl⟩
  obtain ⟨b, hb⟩ : ∃ b, s % 16 = b := ⟨_, rfl⟩
  have la : a < 16 := by omega
  have lb : b < 16 := by omega
  by_cases h0 : bit = 0
  · subst h0
    rw [nx0]
    rw [ha, hb] at HA ⊢
    have lo := oth_lt b lb
    have lm := more_lt a
    obtain ⟨W, hW⟩ : ∃ W, W = ((w.alloc (Obj.cells #[Value.int IntKind.i64 0] 3)).alloc (Obj.cells #[Value.int IntKind.i64 a] 3)).alloc (Obj.cells #[Value.int IntKind.i64 b] 3) := ⟨_, rfl⟩
    have HO : ∀ n, Calls Tryd.prog 76 #[.pointer (some ⟨w.heap.size + 1 + 1, 0, none⟩), .pointer (some ⟨w.heap.size, 0, none⟩), .pointer (some ⟨w.heap.size + 1, 0, none⟩)] (W.drewN n) fun e w'' =>
        e = .returned (.int .i64 (othN b : Nat)) ∧ ∃ m, w'' = W.drewN m := fun n =>
      (oth_any (w.heap.size + 1 + 1) w.heap.size (w.heap.size + 1) a b 0 la lb (W.drewN n) (by rw [hW]; go_simp) (by rw [hW]; go_simp) (by rw [hW]; go_simp)).mono fun e w'' ⟨h1, m, h2⟩ =>
        ⟨h1, n + m, by rw [h2, World.drewN_drewN]⟩
    have HS : ∀ n, Calls Tryd.prog 77 #[.int .i64 (moreN a : Nat), .int .i64 (othN b : Nat)] (W.drewN n) fun e w'' => e = .returned (.int .u8 (moreN a * 16 + othN b : Nat)) ∧ ∃ m, w'' = W.drewN m := fun n =>
      (state_any (moreN a) (othN b) lm lo (W.drewN n)).mono fun e w'' ⟨h1, m, h2⟩ => ⟨h1, n + m, by rw [h2, World.drewN_drewN]⟩
    have e1 : IntKind.i64.wrap ((a : Int) + 1) = (a : Int) + 1 := IntWalk.i64_in _ (by omega)
    have e2 : (if (15 : Int) < (a : Int) + 1 then 15 else (a : Int) + 1) = (moreN a : Nat) := by unfold moreN; (try split) <;> omega
    generalize othN b = o at *
    generalize moreN a = M at *
    subst hW
    have HO := hid HO
    have HS := hid HS
    have he : ∀ args w, (callFunc 76 args).run Tryd.prog w = .ok (.enter 76 args) w := enters_of Tryd.func76 (by kernel_rfl) rfl
    go_enter Tryd.func75, Tryd.ntmps75
    go_wp2_with fail
    refine (HA.out _).mono ?_
    rintro e w' ⟨rfl, rfl⟩
    go_wp2_with fail
    go_quiet (first | (with_reducible exact HO.out _) | (with_reducible exact HS.out _))
    go_wp2_with fail
    go_ret
    exact ⟨rfl, ((((Below.refl _ _).alloc (Nat.le_refl _) _).alloc (by simp; try omega) _).alloc (by simp; try omega) _).trans (Below.drewN _ _ _)⟩
  · rw [nx1 s bit h0]
    rw [ha, hb] at HA ⊢
    have lo := oth_lt a la
    have lm := more_lt b
    obtain ⟨W, hW⟩ : ∃ W, W = ((w.alloc (Obj.cells #[Value.int IntKind.i64 bit] 3)).alloc (Obj.cells #[Value.int IntKind.i64 a] 3)).alloc (Obj.cells #[Value.int IntKind.i64 b] 3) := ⟨_, rfl⟩
    have HO : ∀ n, Calls Tryd.prog 76 #[.pointer (some ⟨w.heap.size + 1 + 1, 0, none⟩), .pointer (some ⟨w.heap.size, 0, none⟩), .pointer (some ⟨w.heap.size + 1, 0, none⟩)] (W.drewN n) fun e w'' =>
        e = .returned (.int .i64 (othN a : Nat)) ∧ ∃ m, w'' = W.drewN m := fun n =>
      (oth_any (w.heap.size + 1 + 1) w.heap.size (w.heap.size + 1) a b bit la lb (W.drewN n) (by rw [hW]; go_simp) (by rw [hW]; go_simp) (by rw [hW]; go_simp)).mono fun e w'' ⟨h1, m, h2⟩ =>
        ⟨by first | exact h1 | (rw [if_neg h0] at h1; exact h1), n + m, by rw [h2, World.drewN_drewN]⟩
    have HS : ∀ n, Calls Tryd.prog 77 #[.int .i64 (othN a : Nat), .int .i64 (moreN b : Nat)] (W.drewN n) fun e w'' => e = .returned (.int .u8 (othN a * 16 + moreN b : Nat)) ∧ ∃ m, w'' = W.drewN m := fun n =>
      (state_any (othN a) (moreN b) lo lm (W.drewN n)).mono fun e w'' ⟨h1, m, h2⟩ => ⟨h1, n + m, by rw [h2, World.drewN_drewN]⟩
    have e1 : IntKind.i64.wrap ((b : Int) + 1) = (b : Int) + 1 := IntWalk.i64_in _ (by omega)
    have e2 : (if (15 : Int) < (b : Int) + 1 then 15 else (b : Int) + 1) = (moreN b : Nat) := by unfold moreN; (try split) <;> omega
    generalize othN a = o at *
    generalize moreN b = M at *
    subst hW
    have HO := hid HO
    have HS := hid HS
    have he : ∀ args w, (callFunc 76 args).run Tryd.prog w = .ok (.enter 76 args) w := enters_of Tryd.func76 (by kernel_rfl) rfl
    go_enter Tryd.func75, Tryd.ntmps75
    go_wp2_with fail
    refine (HA.out _).mono ?_
    rintro e w' ⟨rfl, rfl⟩
    go_wp2_with fail
    go_quiet (first | (with_reducible exact HO.out _) | (with_reducible exact HS.out _))
    go_wp2_with fail
    go_ret
    exact ⟨rfl, ((((Below.refl _ _).alloc (Nat.le_refl _) _).alloc (by simp; try omega) _).alloc (by simp; try omega) _).trans (Below.drewN _ _ _)⟩
theorem ch_num (a b : Nat) : (2 * (b : Int) + 1) * 65536 / (2 * (a : Int) + 2 * (b : Int) + 2) = (((2 * b + 1) * 65536 / (2 * a + 2 * b + 2) : Nat) : Int) := by
  rw [Int.natCast_ediv]
  congr 1 <;> omega
set_option maxRecDepth 10000 in
set_option maxHeartbeats 1000000 in
theorem chance_any (s : Nat) (hs : s < 256) (w : World) :
    Calls Tryd.prog 42 #[.int .u8 s] w fun e w' => e = .returned (.int .i64 (chN s : Nat)) ∧ Below w.heap.size w w' := by
  have HA := hid (fun w => counts_any s hs w)
  unfold chN
  obtain ⟨a, ha⟩ : ∃ a, s / 16 = a := ⟨_, rfl⟩
  obtain ⟨b, hb⟩ : ∃ b, s % 16 = b := ⟨_, rfl⟩
  have la : a < 16 := by omega
  have lb : b < 16 := by omega
  rw [ha, hb] at HA ⊢
  clear ha hb
  go_enter Tryd.func42, Tryd.ntmps42
  go_wp2_with fail
  refine (HA.out _).mono ?_
  rintro e w' ⟨rfl, rfl⟩
  go_wp2_with fail
  go_ret
  exact ⟨ret_i64 (ch_num a b), Below.refl _ _⟩
end Go.Proofs.YtkfdbibgjoaefaaDoor
