/-
  each: all starts of a code, told one behind the other to any closure that keeps a relation of its own.
-/
import Derived.Test.YtaogileaeflnfaaIts
import Derived.Shelf.Abstract
namespace Go.Proofs.Ytaogileaeflnfaa
open Go.RowKit
set_option linter.unusedVariables false
set_option linter.unusedSimpArgs false

/-- The starts ahead of k are S. -/
structure Pre (l : List UInt8) (S : List Nat) (k : Nat) : Prop where
  eq : starts l = (startsL l (l.length + 1 - k) k).map (S ++ ·)
  few : S.length ≤ k
  le : k ≤ l.length
theorem pre_0 (l : List UInt8) : Pre l [] 0 := ⟨by unfold starts; simp, Nat.zero_le _, Nat.zero_le _⟩
theorem pre_step {l : List UInt8} {S : List Nat} {k : Nat} (h : Pre l S k) (hk : k < l.length) (he : (getR l k).err = 0) : Pre l (S ++ [k]) (nxt l k) := by
  obtain ⟨_, q2, q3, _⟩ := got_in he
  refine ⟨?_, by have := h.few; simp; omega, q3⟩
  rw [h.eq, show l.length + 1 - k = (l.length - k) + 1 by omega, startsL, if_neg (by omega), if_pos he, Option.map_map, starts_enough l (l.length - k) (l.length + 1 - nxt l k) (nxt l k) q3 (by omega) (by omega)]
  congr 1
  funext T
  simp
theorem pre_end {l : List UInt8} {S : List Nat} {k : Nat} (h : Pre l S k) (hk : l.length ≤ k) : starts l = some S := by
  have := h.le
  rw [h.eq, show l.length + 1 - k = (l.length - k) + 1 by omega, startsL, if_pos hk]
  simp
theorem pre_bad {l : List UInt8} {S : List Nat} {k : Nat} (h : Pre l S k) (hk : k < l.length) (he : ¬ (getR l k).err = 0) : starts l = none := by
  rw [h.eq, show l.length + 1 - k = (l.length - k) + 1 by omega, startsL, if_neg (by omega), if_neg he]
  rfl
theorem stE_end {l : List UInt8} {S : List Nat} (h1 : ¬ 4096 < l.length) (h2 : ¬ l.length = 0) (h : starts l = some S) : stE l = 0 := by
  unfold stE
  rw [if_neg h1, if_neg h2, h]
  rfl
theorem stE_bad {l : List UInt8} (h1 : ¬ 4096 < l.length) (h2 : ¬ l.length = 0) (h : starts l = none) : stE l = 110 := by
  unfold stE
  rw [if_neg h1, if_neg h2, h]
  rfl
/-- What a closure that is told the starts keeps. -/
structure Tel (l : List UInt8) (A : Option Addr) (n c f : Nat) (caps : Array Value) (I : List Nat → World → Prop) : Prop where
  bytes : ∀ S w, I S w → IsBB w w.heap.size A n c l
  later : ∀ S w w', I S w → Below w.heap.size w w' → I S w'
  tell : ∀ S k w, I S w → k < l.length → l.length ≤ 4096 → S.length ≤ k → (getR l k).err = 0 → Calls Try.prog f (#[.int .i64 (k : Int), vI (getR l k).o (getR l k).d (getR l k).s (getR l k).n] ++ caps) w fun e w' => e = .returned (.tuple #[]) ∧ I (S ++ [k]) w'
  enter : ∀ args w, (callFunc f args).run Try.prog w = .ok (.enter f args) w
set_option maxRecDepth 10000 in
set_option maxHeartbeats 4000000 in
theorem each_any {l : List UInt8} {A : Option Addr} {n c f : Nat} {caps : Array Value} {I : List Nat → World → Prop} (H : Tel l A n c f caps I) (w : World) (h : I [] w) :
    Calls Try.prog 33 #[.slice A n c, .func (.func f) #[] caps] w fun e w' => e = .returned (.int .i64 (stE l)) ∧ ∃ S, I S w' ∧ (stE l = 0 → starts l = some S) := by
  have hB := H.bytes _ _ h
  have hlen := hB.len
  have hsm := hB.small
  by_cases h1 : 4096 < n
  · have e : stE l = 3 := if_pos (by omega)
    have h1z : (4096 : Int) < (n : Int) := by omega
    have HI := hid h
    rw [e]
    clear H hB h e hlen
    go_enter Try.func33, Try.ntmps33
    go_wp2
    go_ret
    exact ⟨rfl, _, HI.out, fun h => absurd h (by decide)⟩
  by_cases h2 : n = 0
  · have e : stE l = 110 := by unfold stE; rw [if_neg (by omega), if_pos (by omega)]
    have HI := hid h
    subst h2
    rw [e]
    clear H hB h e hlen
    go_enter Try.func33, Try.ntmps33
    go_wp2
    go_ret
    exact ⟨rfl, _, HI.out, fun h => absurd h (by decide)⟩
  have E2 := hid H.enter
  have he := H.enter
  have HH := hid H
  have HL := hid (And.intro hlen (And.intro h1 h2))
  have hnz : (n : Int) ≤ 4096 := by omega
  have hn0 : ((n : Int) == 0) = false := by simpa using h2
  have HI := hid h
  have HG := hid (fun w h k => Get_any A n c l w h k)
  clear H hB h hlen h1 h2 E2 hsm
  go_enter Try.func33, Try.ntmps33
  go_wp2_with fail
  go_loopw [5] (fun v5 wr => ∃ (k : Nat) (S : List Nat), k ≤ n ∧ v5 = .int .i64 (k : Nat) ∧ Hid (Pre l S k) ∧ Hid (I S wr)) (fun v5 _ => n - (intOf v5).toNat)
  case atStart => exact ⟨0, [], Nat.zero_le _, rfl, hid (pre_0 l), HI⟩
  case round =>
    obtain ⟨k, S, hk, rfl, HP, HS⟩ := hrel
    by_cases hlt : k < n
    · have hltz : (k : Int) < (n : Int) := by omega
      obtain ⟨g, hg⟩ : ∃ g, getR l k = g := ⟨_, rfl⟩
      have HB := hid (HH.out.bytes _ _ HS.out)
      have HBX := hid (fun (W : World) => bx_made W g.o g.d g.s g.n)
      by_cases hge : g.err = 0
      · have hge2 : (g.err != 0) = false := by simp [hge]
        have hg0 : (getR l k).err = 0 := by rw [hg]; exact hge
        have GI := hid (got_in hg0)
        have hnx : g.e = (nxt l k : Nat) := by rw [← hg]; exact GI.out.2.2.2.2
        have PS := hid (pre_step HP.out (by rw [HL.out.1]; exact hlt) hg0)
        have HT := hid (fun w h => HH.out.tell S k w h (by rw [HL.out.1]; exact hlt) (by have := HL.out; omega) HP.out.few hg0)
        rw [hg] at HT
        clear hge
        go_wp2_with (go_at_call 52; (with_reducible refine (HG.out _ HB.out k).mono ?_); rw [hg]; rintro r w2 ⟨rfl, b2⟩; unfold vG vI; have HS2 := hid (HH.out.later _ _ _ HS.out (b2.alloc b2.size (.cells #[.int .u8 g.o, .int .i64 g.d, .int .i64 g.s, .int .i64 g.n] 24))); clear b2; dsimp only)
        refine (HT.out _ HS2.out).mono ?_
        rintro r w3 ⟨rfl, h3⟩
        dsimp only
        go_wp2_with fail
        go_roundw
        case rel => exact ⟨nxt l k, _, by have := GI.out; have := HL.out; omega, by first | rfl | rw [hnx], PS, hid h3⟩
        case measure =>
          try rw [hnx]
          have := GI.out
          have := HL.out
          simp [intOf]
          omega
      · have hge2 : (g.err != 0) = true := by simp [hge]
        have PB := hid (pre_bad HP.out (by rw [HL.out.1]; exact hlt) (by rw [hg]; exact hge))
        clear hge
        go_wp2_with (go_at_call 52; (with_reducible refine (HG.out _ HB.out k).mono ?_); rw [hg]; rintro r w2 ⟨rfl, b2⟩; unfold vG vI; have HS2 := hid (HH.out.later _ _ _ HS.out (b2.alloc b2.size (.cells #[.int .u8 g.o, .int .i64 g.d, .int .i64 g.s, .int .i64 g.n] 24))); clear b2; dsimp only)
        have e := stE_bad (by have := HL.out; omega) (by have := HL.out; omega) PB.out
        rw [e]
        go_ret
        exact ⟨rfl, _, HS2.out, fun h => absurd h (by decide)⟩
    · obtain rfl : k = n := by omega
      have e := pre_end HP.out (by rw [HL.out.1]; exact Nat.le_refl _)
      have e2 := stE_end (by have := HL.out; omega) (by have := HL.out; omega) e
      go_wp2
      rw [e2]
      go_ret
      exact ⟨rfl, _, HS.out, fun _ => e⟩
end Go.Proofs.Ytaogileaeflnfaa
