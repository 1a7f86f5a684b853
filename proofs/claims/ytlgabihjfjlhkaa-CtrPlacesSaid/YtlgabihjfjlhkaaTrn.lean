/-
  The contracts of Turn.
-/
import Derived.Test.YtlgabihjfjlhkaaStm
namespace Go.Proofs.Ytlgabihjfjlhkaa
open Go.RowKit

set_option maxRecDepth 10000 in
set_option maxHeartbeats 1000000 in
theorem Turn_bad (gc : Nat) (K : Nat → Nat) (A B : Option Addr) (m c n d : Nat) (a : Int) (w : World) (hc : Ci w gc K) (h : ¬ May m a n) :
    Calls Try.prog 10 #[.pointer (some ⟨gc, 0, none⟩), .slice A m c, .int .i64 a, .slice B n d] w fun e w' => e = .returned (.tuple #[.slice none 0 0, .int .i64 2]) ∧ w = w' := by
  have H := hid (Stream_bad gc K A m c a n w hc h)
  clear hc h
  go_enter Try.func10, Try.ntmps10
  go_wp2_with (go_at_call 8; refine H.out.mono ?_; rintro e w' ⟨rfl, rfl⟩)
  go_ret2
  exact ⟨rfl, rfl⟩
set_option maxRecDepth 10000 in
set_option maxHeartbeats 1000000 in
theorem Turn_none (g : Nat) (A B : Option Addr) (m c n d : Nat) (a : Int) (w : World) (cc : w.cell? ⟨g, 0, none⟩ = some (.bool false)) :
    Calls Try.prog 10 #[.pointer (some ⟨g, 0, none⟩), .slice A m c, .int .i64 a, .slice B n d] w fun e w' => e = .returned (.tuple #[.slice none 0 0, .int .i64 1]) ∧ w = w' := by
  have H := hid (Stream_none g A m c a n w cc)
  clear cc
  go_enter Try.func10, Try.ntmps10
  go_wp2_with (go_at_call 8; refine H.out.mono ?_; rintro e w' ⟨rfl, rfl⟩)
  go_ret2
  exact ⟨rfl, rfl⟩
/-- The first k bytes turned, the stream behind. -/
def tuP (K : Nat → Nat) (non : List UInt8) (a : Nat) (l : List UInt8) (k : Nat) : List UInt8 := (turnL K non a l).take k ++ (stL K non a l.length).drop k
theorem tuP_len (K : Nat → Nat) (non : List UInt8) (a : Nat) (l : List UInt8) (k : Nat) (h : k ≤ l.length) : (tuP K non a l k).length = l.length := by
  unfold tuP; rw [List.length_append, List.length_take, List.length_drop, turnL_len, stL_len]; omega
theorem tuP_zero (K : Nat → Nat) (non : List UInt8) (a : Nat) (l : List UInt8) : tuP K non a l 0 = stL K non a l.length := by simp [tuP]
theorem tuP_all (K : Nat → Nat) (non : List UInt8) (a : Nat) (l : List UInt8) : tuP K non a l l.length = turnL K non a l := by
  unfold tuP
  rw [List.take_of_length_le (by rw [turnL_len]; exact Nat.le_refl _), List.drop_eq_nil_of_le (by rw [stL_len]; exact Nat.le_refl _), List.append_nil]
theorem tuP_get (K : Nat → Nat) (non : List UInt8) (a : Nat) (l : List UInt8) (k : Nat) (h : k < l.length) : (tuP K non a l k)[k]'(by rw [tuP_len _ _ _ _ _ (Nat.le_of_lt h)]; exact h) = stB K non (a + k) := by
  have hl : ((turnL K non a l).take k).length = k := by rw [List.length_take, turnL_len]; omega
  unfold tuP
  rw [List.getElem_append_right (by omega), List.getElem_drop, stL_get]
  congr 2
  omega
theorem tuP_next (K : Nat → Nat) (non : List UInt8) (a : Nat) (l : List UInt8) (k : Nat) (h : k < l.length) : (tuP K non a l k).set k (stB K non (a + k) ^^^ l[k]) = tuP K non a l (k + 1) := by
  have hl : ((turnL K non a l).take k).length = k := by rw [List.length_take, turnL_len]; omega
  have hd : (stL K non a l.length).drop k = (stL K non a l.length)[k]'(by rw [stL_len]; exact h) :: (stL K non a l.length).drop (k + 1) := List.drop_eq_getElem_cons _
  have ht : (turnL K non a l).take (k + 1) = (turnL K non a l).take k ++ [(turnL K non a l)[k]'(by rw [turnL_len]; exact h)] := List.take_succ_eq_append_getElem _
  unfold tuP
  rw [List.set_append_right _ _ (by omega), hl, Nat.sub_self, hd, List.set_cons_zero, ht, turnL_get, UInt8.xor_comm]
  simp
/-- What Turn's loop keeps. -/
structure TnSt (w wr : World) (g : Nat) (X : List UInt8) : Prop where
  ls : LsAt wr g X
  bel : Below w.heap.size w wr
  ge : w.heap.size ≤ g
theorem TnSt.set {w wr : World} {g : Nat} {X : List UInt8} (s : TnSt w wr g X) (j : Nat) (b : UInt8) : TnSt w (wr.setCell ⟨g, j, none⟩ (.int .u8 (b.toNat : Int))) g (X.set j b) :=
  ⟨s.ls.set j b, ((But.refl g wr).set j _).below s.bel s.ge s.bel.size, s.ge⟩
theorem u8_xor_u (x y : UInt8) : bits .xor .u8 (x.toNat : Int) (y.toNat : Int) = ((x ^^^ y).toNat : Int) := by
  rw [u8_xor_nat _ _ x.toNat_lt y.toNat_lt, UInt8.toNat_xor]
set_option maxRecDepth 10000 in
set_option maxHeartbeats 2000000 in
theorem Turn_any (gc : Nat) (K : Nat → Nat) (A B : Option Addr) (c d : Nat) (non l : List UInt8) (a n : Nat) (w : World) (hc : Ci w gc K) (hk : ∀ j, j < 32 → K j < 256) (hn : IsBB w w.heap.size A 8 c non) (hb : IsBB w w.heap.size B n d l) (ha : a ≤ 1099511627776) (hn2 : n ≤ 4194304) :
    Calls Try.prog 10 #[.pointer (some ⟨gc, 0, none⟩), .slice A 8 c, .int .i64 a, .slice B n d] w fun e w' => ∃ g, e = .returned (.tuple #[.slice (some ⟨g, 0, none⟩) n n, .int .i64 0]) ∧ New w w' g n n (turnL K non a l) := by
  have HM := hid (Stream_any gc K A c non a n w hc hk hn ha hn2)
  have HB := hid hb
  have HL := hid hb.len
  have hcap := hb.cap
  have hmax := hb.max
  unfold maxLen at hmax
  clear hc hn hb
  go_enter Try.func10, Try.ntmps10
  go_wp2_with (go_at_call 8; refine HM.out.mono ?_; rintro e W1 ⟨g, rfl, hN⟩; have HN := hid hN; clear hN HM)
  have S0 : Hid (TnSt w W1 g (tuP K non a l 0)) := by
    rw [tuP_zero, HL.out]
    refine ⟨?_, HN.out.bel, HN.out.row.1⟩
    exact own_row HN.out.own
  clear HN
  go_loopw [12, 13, 28] (fun _ _ vj wr => ∃ k : Nat, k ≤ n ∧ vj = .int .i64 k ∧ Hid (TnSt w wr g (tuP K non a l k))) (fun _ _ vj _ => n - (intOf vj).toNat)
  case atStart => exact ⟨0, Nat.zero_le _, rfl, S0⟩
  case round =>
    obtain ⟨k, hkn, rfl, hs⟩ := hrel
    clear S0
    by_cases hlt : k < n
    · have hlz : (k : Int) < (n : Int) := by omega
      have hkl : k < l.length := by rw [HL.out]; exact hlt
      have HX := hid (tuP_next K non a l k hkl)
      have c1 := hs.out.ls.cell k (by rw [tuP_len _ _ _ _ _ (Nat.le_of_lt hkl)]; exact hkl)
      rw [tuP_get K non a l k hkl] at c1
      have f1 := hs.out.ls.free k
      obtain ⟨bd, rfl, hbc⟩ := (HB.out.below hs.out.bel).lies (by omega)
      have c2 := hbc k hkl
      have hx := u8_xor_u (stB K non (a + k)) l[k]
      have HS := hid (hs.out.set k (stB K non (a + k) ^^^ l[k]))
      rw [HX.out] at HS
      clear hbc hs HX
      generalize stB K non (a + k) ^^^ l[k] = z at hx HS
      generalize stB K non (a + k) = x at c1 hx
      generalize l[k] = y at c2 hx
      go_wp2_with fail
      go_roundw
      case rel => exact ⟨k + 1, by omega, by go_num, HS⟩
      case measure => simp [intOf]; omega
    · obtain rfl : k = n := by omega
      go_wp2_with fail
      go_ret2
      have e := hs.out.ls
      unfold LsAt at e
      rw [← HL.out, tuP_all] at e
      refine ⟨_, rfl, ?_⟩
      have r := row_own e hs.out.ge (by rw [turnL_len, HL.out]; omega) hs.out.bel
      rw [turnL_len, HL.out] at r
      exact r
end Go.Proofs.Ytlgabihjfjlhkaa
