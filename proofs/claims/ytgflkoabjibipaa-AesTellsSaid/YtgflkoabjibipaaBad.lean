/-
  What Encrypt and Decrypt answer of no cipher, and of blocks of other lengths.
-/
import Derived.Test.YtgflkoabjibipaaEnc
namespace Go.Proofs.Ytgflkoabjibipaa
open Go.RowKit

def noneE (k : Int) : Ending := .returned (.tuple #[.slice none 0 0, .int .i64 k])
set_option maxRecDepth 10000 in
set_option maxHeartbeats 1000000 in
theorem encrypt_bad (gc : Nat) (K : Nat → Nat) (A : Option Addr) (n c : Nat) (hn : n ≠ 16) (w : World) (h : Ci w gc K) :
    Calls Try.prog 9 #[.pointer (some ⟨gc, 0, none⟩), .slice A n c] w fun e w' => e = .returned (.tuple #[.slice none 0 0, .int .i64 2]) ∧ w = w' := by
  have H := hid ((refused_any gc w (ciF K) h A n c).mono fun e w' (x : e = .returned (.int .i64 (if n = 16 then 0 else 2)) ∧ w = w') => (⟨by rw [x.1, if_neg hn], x.2⟩ : e = .returned (.int .i64 2) ∧ w = w'))
  clear h
  go_enter Try.func9, Try.ntmps9
  go_wp2_with (go_at_call 24; refine H.out.mono ?_; rintro e w' ⟨rfl, rfl⟩)
  go_ret2
  exact ⟨rfl, rfl⟩
set_option maxRecDepth 10000 in
set_option maxHeartbeats 1000000 in
theorem decrypt_bad (gc : Nat) (K : Nat → Nat) (A : Option Addr) (n c : Nat) (hn : n ≠ 16) (w : World) (h : Ci w gc K) :
    Calls Try.prog 10 #[.pointer (some ⟨gc, 0, none⟩), .slice A n c] w fun e w' => e = .returned (.tuple #[.slice none 0 0, .int .i64 2]) ∧ w = w' := by
  have H := hid ((refused_any gc w (ciF K) h A n c).mono fun e w' (x : e = .returned (.int .i64 (if n = 16 then 0 else 2)) ∧ w = w') => (⟨by rw [x.1, if_neg hn], x.2⟩ : e = .returned (.int .i64 2) ∧ w = w'))
  clear h
  go_enter Try.func10, Try.ntmps10
  go_wp2_with (go_at_call 24; refine H.out.mono ?_; rintro e w' ⟨rfl, rfl⟩)
  go_ret2
  exact ⟨rfl, rfl⟩
set_option maxRecDepth 10000 in
set_option maxHeartbeats 1000000 in
theorem encrypt_nil (A : Option Addr) (n c : Nat) (w : World) :
    Calls Try.prog 9 #[.pointer none, .slice A n c] w fun e w' => e = .returned (.tuple #[.slice none 0 0, .int .i64 1]) ∧ w = w' := by
  have H := hid (refused_nil w A n c)
  go_enter Try.func9, Try.ntmps9
  go_wp2_with (go_at_call 24; refine H.out.mono ?_; rintro e w' ⟨rfl, rfl⟩)
  go_ret2
  exact ⟨rfl, rfl⟩
set_option maxRecDepth 10000 in
set_option maxHeartbeats 1000000 in
theorem decrypt_not (g : Nat) (A : Option Addr) (n c : Nat) (w : World) (hc : w.cell? ⟨g, 0, none⟩ = some (.bool false)) :
    Calls Try.prog 10 #[.pointer (some ⟨g, 0, none⟩), .slice A n c] w fun e w' => e = .returned (.tuple #[.slice none 0 0, .int .i64 1]) ∧ w = w' := by
  have H := hid (refused_not g w hc A n c)
  clear hc
  go_enter Try.func10, Try.ntmps10
  go_wp2_with (go_at_call 24; refine H.out.mono ?_; rintro e w' ⟨rfl, rfl⟩)
  go_ret2
  exact ⟨rfl, rfl⟩
end Go.Proofs.Ytgflkoabjibipaa
