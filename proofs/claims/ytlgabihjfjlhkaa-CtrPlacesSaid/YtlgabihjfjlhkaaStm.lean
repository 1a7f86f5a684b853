/-
  The contracts of Stream.
-/
import Derived.Test.YtlgabihjfjlhkaaRef
import Derived.OwnWalk
namespace Go.Proofs.Ytlgabihjfjlhkaa
open Go.RowKit

set_option maxRecDepth 10000 in
set_option maxHeartbeats 1000000 in
theorem Stream_bad (gc : Nat) (K : Nat → Nat) (A : Option Addr) (m c : Nat) (a n : Int) (w : World) (hc : Ci w gc K) (h : ¬ May m a n) :
    Calls Try.prog 8 #[.pointer (some ⟨gc, 0, none⟩), .slice A m c, .int .i64 a, .int .i64 n] w fun e w' => e = .returned (.tuple #[.slice none 0 0, .int .i64 2]) ∧ w = w' := by
  have H := hid (mayNot_any gc K A m c a n w hc h)
  clear hc h
  go_enter Try.func8, Try.ntmps8
  go_wp2_with (go_at_call 19; refine H.out.mono ?_; rintro e w' ⟨rfl, rfl⟩)
  go_ret2
  exact ⟨rfl, rfl⟩
set_option maxRecDepth 10000 in
set_option maxHeartbeats 1000000 in
theorem Stream_nil (A : Option Addr) (m c : Nat) (a n : Int) (w : World) :
    Calls Try.prog 8 #[.pointer none, .slice A m c, .int .i64 a, .int .i64 n] w fun e w' => e = .returned (.tuple #[.slice none 0 0, .int .i64 1]) ∧ w = w' := by
  have H := hid (mayNil_any A m c a n w)
  go_enter Try.func8, Try.ntmps8
  go_wp2_with (go_at_call 19; refine H.out.mono ?_; rintro e w' ⟨rfl, rfl⟩)
  go_ret2
  exact ⟨rfl, rfl⟩
set_option maxRecDepth 10000 in
set_option maxHeartbeats 1000000 in
theorem Stream_none (g : Nat) (A : Option Addr) (m c : Nat) (a n : Int) (w : World) (cc : w.cell? ⟨g, 0, none⟩ = some (.bool false)) :
    Calls Try.prog 8 #[.pointer (some ⟨g, 0, none⟩), .slice A m c, .int .i64 a, .int .i64 n] w fun e w' => e = .returned (.tuple #[.slice none 0 0, .int .i64 1]) ∧ w = w' := by
  have H := hid (mayNone_any g A m c a n w cc)
  clear cc
  go_enter Try.func8, Try.ntmps8
  go_wp2_with (go_at_call 19; refine H.out.mono ?_; rintro e w' ⟨rfl, rfl⟩)
  go_ret2
  exact ⟨rfl, rfl⟩
/-- Block g holds these bytes (a list of bytes of its own, all of its room). -/
def LsAt (w : World) (g : Nat) (l : List UInt8) : Prop := w.heap[g]? = some (.cells (l.map bv).toArray 5 (0, 0))
theorem LsAt.lt {w : World} {g : Nat} {l : List UInt8} (h : LsAt w g l) : g < w.heap.size := lt_of_heap h
theorem LsAt.cell {w : World} {g : Nat} {l : List UInt8} (h : LsAt w g l) (j : Nat) (hj : j < l.length) : w.cell? ⟨g, j, none⟩ = some (.int .u8 (l[j].toNat : Int)) := by
  rw [row_cell h j, List.getElem?_toArray, map_bv_getElem? l j hj]
theorem LsAt.free {w : World} {g : Nat} {l : List UInt8} (h : LsAt w g l) (j : Nat) : w.frozen? ⟨g, j, none⟩ = false := row_free h j
theorem LsAt.set {w : World} {g : Nat} {l : List UInt8} (h : LsAt w g l) (j : Nat) (b : UInt8) : LsAt (w.setCell ⟨g, j, none⟩ (.int .u8 (b.toNat : Int))) g (l.set j b) := by
  unfold LsAt
  rw [row_set h j, set_toArray, List.map_set]; rfl
/-- The first k bytes of the stream, and noughts. -/
def stP (K : Nat → Nat) (non : List UInt8) (a n k : Nat) : List UInt8 := stL K non a k ++ List.replicate (n - k) 0
theorem stP_len (K : Nat → Nat) (non : List UInt8) (a n k : Nat) (h : k ≤ n) : (stP K non a n k).length = n := by
  unfold stP; rw [List.length_append, stL_len, List.length_replicate]; omega
theorem stP_zero (K : Nat → Nat) (non : List UInt8) (a n : Nat) : stP K non a n 0 = List.replicate n 0 := by simp [stP, stL]
theorem stP_all (K : Nat → Nat) (non : List UInt8) (a n : Nat) : stP K non a n n = stL K non a n := by simp [stP]
theorem stP_next (K : Nat → Nat) (non : List UInt8) (a n k : Nat) (h : k < n) : (stP K non a n k).set k (stB K non (a + k)) = stP K non a n (k + 1) := by
  have e : n - k = (n - (k + 1)) + 1 := by omega
  unfold stP
  rw [← stL_next, e, List.replicate_succ, List.set_append_right _ _ (by rw [stL_len]; exact Nat.le_refl _), stL_len, Nat.sub_self, List.set_cons_zero]
  simp
/-- What Stream's loop keeps. -/
structure SmSt (w wr : World) (gc : Nat) (A : Option Addr) (c : Nat) (non : List UInt8) (K : Nat → Nat) (X : List UInt8) : Prop where
  st : ∃ v i, StAt wr w.heap.size gc A c non K v i
  ls : LsAt wr (w.heap.size + 4) X
  bel : Below w.heap.size w wr
theorem SmSt.set {w wr : World} {gc : Nat} {A : Option Addr} {c : Nat} {non : List UInt8} {K : Nat → Nat} {X : List UInt8} (s : SmSt w wr gc A c non K X) (j : Nat) (b : UInt8) :
    SmSt w (wr.setCell ⟨w.heap.size + 4, j, none⟩ (.int .u8 (b.toNat : Int))) gc A c non K (X.set j b) := by
  have bu := (But.refl (w.heap.size + 4) wr).set j (.int .u8 (b.toNat : Int))
  obtain ⟨v, i, hs⟩ := s.st
  exact ⟨⟨v, i, hs.but bu⟩, s.ls.set j b, bu.below s.bel (by omega) s.bel.size⟩
theorem SmSt.clo {w wr W : World} {gc : Nat} {A : Option Addr} {c : Nat} {non : List UInt8} {K : Nat → Nat} {X : List UInt8} (s : SmSt w wr gc A c non K X) (h : ∃ v i, StAt W w.heap.size gc A c non K v i) (b : But2 w.heap.size wr W) : SmSt w W gc A c non K X :=
  ⟨h, (b.block _ s.ls.lt (by omega) (by omega)).trans s.ls, b.below s.bel s.bel.size⟩
set_option maxRecDepth 10000 in
set_option maxHeartbeats 2000000 in
theorem Stream_any (gc : Nat) (K : Nat → Nat) (A : Option Addr) (c : Nat) (non : List UInt8) (a n : Nat) (w : World) (hc : Ci w gc K) (hk : ∀ j, j < 32 → K j < 256) (hn : IsBB w w.heap.size A 8 c non) (ha : a ≤ 1099511627776) (hn2 : n ≤ 4194304) :
    Calls Try.prog 8 #[.pointer (some ⟨gc, 0, none⟩), .slice A 8 c, .int .i64 a, .int .i64 n] w fun e w' => ∃ g, e = .returned (.tuple #[.slice (some ⟨g, 0, none⟩) n n, .int .i64 0]) ∧ New w w' g n n (stL K non a n) := by
  obtain ⟨i0, hi, hz0, hz1, hz2⟩ := info_parts Try.info5
  have HM := hid (may_any gc K A 8 c a n w hc ⟨rfl, by omega, by omega, by omega, by omega⟩)
  have HO := hid (streamOf_any gc K A c non w hc hn)
  clear hc hn
  go_enter Try.func8, Try.ntmps8
  go_wp2_with (first
    | (go_at_call 19; refine HM.out.mono ?_; rintro e w' ⟨rfl, rfl⟩)
    | (go_at_call 20; refine HO.out.mono ?_; rintro e W1 ⟨rfl, hS1, hB1, hz⟩; have HS1 := hid hS1; have HB1 := hid hB1; have Hz := hid hz; clear hS1 hB1 hz HO HM)
    | (at_make; (refine wpList_make_full _ rfl _ _ 26 rfl w.heap.size 5 i0 (.int .u8 0) 1 Try.underlying26 hi hz0 hz1 _ _ _ _ n rfl rfl (by omega) (by omega) (by rw [hz2]; omega) (by unfold maxLen; omega) (by have := Hz.out; omega) ?_); intro W2 hown2 hgrow2; have Hrow := hid (own_row hown2); have Hg2 := hid hgrow2; clear hown2 hgrow2))
  rw [Hz.out] at Hrow ⊢
  have hb2 : Below W1.heap.size W1 W2 := (Below.refl W1.heap.size W1).grown Hg2.out (Nat.le_refl _) (by simp)
  have S0 : Hid (SmSt w W2 gc A c non K (stP K non a n 0)) := by
    refine ⟨⟨_, _, HS1.out.below hb2⟩, ?_, bel_trans HB1.out hb2⟩
    have e := Hrow.out
    rw [made_cells] at e
    unfold LsAt
    rw [stP_zero, List.map_replicate]
    exact e
  clear Hrow hb2 Hg2 Hz HS1 HB1
  unfold cloV
  go_loopw [13, 29] (fun _ vj wr => ∃ k : Nat, k ≤ n ∧ vj = .int .i64 k ∧ Hid (SmSt w wr gc A c non K (stP K non a n k))) (fun _ vj _ => n - (intOf vj).toNat)
  case atStart => exact ⟨0, Nat.zero_le _, rfl, S0⟩
  case round =>
    obtain ⟨k, hkn, rfl, hs⟩ := hrel
    clear S0
    by_cases hlt : k < n
    · have hlz : (k : Int) < (n : Int) := by omega
      have HN := hid (stP_next K non a n k hlt)
      have HL := hid (stP_len K non a n k hkn)
      have h5 : w.heap.size + 5 ≤ wr.heap.size := by have := hs.out.ls.lt; omega
      obtain ⟨v, i, hst⟩ := hs.out.st
      have HC := hid (clo_any _ gc A c non K v i (a + k) wr hst hk h5 (by omega))
      rw [Int.natCast_add] at HC
      have HS := hid hs.out
      clear hst h5 hs
      generalize stB K non (a + k) = x at HC HN
      go_wp2_with (go_at_call 36; refine HC.out.mono ?_; rintro e W3 ⟨rfl, hst3, hbu3⟩; have HS3 := hid (HS.out.clo hst3 hbu3); obtain ⟨y, c1⟩ : ∃ y : Int, W3.cell? ⟨w.heap.size + 4, k, none⟩ = some (.int .u8 y) := ⟨_, HS3.out.ls.cell k (by rw [HL.out]; exact hlt)⟩; have f1 := HS3.out.ls.free k; have HS4 := hid (HS3.out.set k x); rw [HN.out] at HS4; clear hst3 hbu3 HC)
      go_roundw
      case rel => exact ⟨k + 1, by omega, by go_num, HS4⟩
      case measure => simp [intOf]; omega
    · obtain rfl : k = n := by omega
      go_wp2_with fail
      go_ret2
      have e := hs.out.ls
      unfold LsAt at e
      rw [stP_all] at e
      refine ⟨_, rfl, ?_⟩
      have r := row_own e (w := w) (by omega) (by rw [stL_len]; omega) hs.out.bel
      rw [stL_len] at r
      exact r
end Go.Proofs.Ytlgabihjfjlhkaa
