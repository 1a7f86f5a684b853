/-
  The contracts of Load, New and Image.
-/
import Derived.Test.YtgccjclloomfgaaFld
namespace Go.Proofs.Ytgccjclloomfgaa
open Go.RowKit

def Dk.load (m : Nat) (l : List UInt8) : Dk := { most := m, now := l, old := l, floor := l.length, down := false, armed := 0, fails := 0, err := 0 }
def Dk.raw (m : Nat) (l : List UInt8) : Dk := { most := m, now := l, old := [], floor := 0, down := false, armed := 1, fails := 0, err := 0 }
def LdOk (m : Int) (n : Nat) : Prop := 0 ≤ m ∧ m ≤ 4194304 ∧ (n : Int) ≤ m

theorem own_base {w : World} {base b2 e s n : Nat} {v : Value} {xs : List Value} (h : w.ownsRow base e s v n xs) (hb : b2 ≤ base) : w.ownsRow b2 e s v n xs := by
  refine ⟨h.1, ?_⟩
  rcases h.2 with h2 | ⟨g, cap, cur, rfl, hg, r⟩
  · exact .inl h2
  · exact .inr ⟨g, cap, cur, rfl, Nat.le_trans hb hg, r⟩
set_option maxRecDepth 10000 in
set_option maxHeartbeats 1000000 in
theorem Load_bad (m : Int) (A : Option Addr) (n c : Nat) (w : World) (h : ¬ LdOk m n) :
    Calls Try.prog 14 #[.int .i64 m, .slice A n c] w fun r w' => r = .returned (.tuple #[.pointer none, .int .i64 2]) ∧ w = w' := by
  by_cases h1 : m < 0
  · clear h
    go_enter Try.func14, Try.ntmps14
    go_wp2_with fail
    go_ret2
    exact ⟨rfl, rfl⟩
  · have h1' : 0 ≤ m := by omega
    by_cases h2 : 4194304 < m
    · clear h h1
      go_enter Try.func14, Try.ntmps14
      go_wp2_with fail
      go_ret2
      exact ⟨rfl, rfl⟩
    · have h2' : m ≤ 4194304 := by omega
      have h3 : m < (n : Int) := by unfold LdOk at h; omega
      clear h h1 h2
      go_enter Try.func14, Try.ntmps14
      go_wp2_with fail
      go_ret2
      exact ⟨rfl, rfl⟩
/-- A struct that was just laid. -/
theorem raw_at {w w1 : World} {m : Nat} {l : List UInt8} {F : Value} (ho : w1.ownsRow w.heap.size 5 1 F l.length (l.map bv)) (hb : Below w.heap.size w w1) (hm : m ≤ 4194304) (hn : l.length ≤ m) :
    DkAt w.heap.size (fun i => w.heap.size ≤ i ∧ i < w1.heap.size + 1) (w1.alloc (.cells (dcells w1.heap.size F (.slice none 0 0) (Dk.raw m l) 0) 61)) w1.heap.size F (.slice none 0 0) (Dk.raw m l) 0 := by
  have hs := hb.size
  refine ⟨heap_alloc_new w1 _, own_base (ho.alloc _) (Nat.zero_le _), World.ownsRow_nil _ _ _ _, fun k _ e => (by cases e), ⟨hs, Nat.lt_succ_self _⟩, fun k hk => ?_, fun k e => (by cases e), fun i hi => ⟨hi.1, by rw [World.size_alloc]; exact hi.2⟩, ?_, fun h => absurd rfl h, by show (1 : Nat) ≤ _; decide, Nat.zero_le _⟩
  · have := own_lt ho k hk; exact ⟨this.1, by omega⟩
  · exact ⟨Nat.zero_le _, Nat.zero_le _, rfl, hn, Nat.zero_le _, hm, by show (0 : Nat) ≠ 1; decide⟩
set_option maxRecDepth 10000 in
set_option maxHeartbeats 2000000 in
theorem Load_any (m : Nat) (A : Option Addr) (n c : Nat) (l : List UInt8) (w : World) (hl : IsBB w w.heap.size A n c l) (hm : m ≤ 4194304) (hn : n ≤ m) :
    Calls Try.prog 14 #[.int .i64 (m : Nat), .slice A n c] w fun r w' => ∃ g S F, r = .returned (.tuple #[.pointer (some ⟨g, 0, none⟩), .int .i64 0]) ∧ DkAt w.heap.size S w' g F (.slice none 0 0) (Dk.load m l) 0 ∧ Below w.heap.size w w' := by
  have HC := hid (Clone_any A l n c w hl)
  obtain rfl : l.length = n := hl.len
  have Hm := hid hm
  have Hn := hid hn
  have h1 : (0 : Int) ≤ (m : Int) := by omega
  have h2 : (m : Int) ≤ 4194304 := by omega
  have h3 : (l.length : Int) ≤ (m : Int) := by omega
  clear hl hm hn
  go_enter Try.func14, Try.ntmps14
  go_wp2_with (first
    | (go_at_call 43; refine HC.out.mono ?_; rintro r w1 ⟨v, rfl, ho, hb⟩; obtain ⟨A1, c1, rfl⟩ := own_sl ho; have HO := hid (raw_at ho hb Hm.out Hn.out); have HB := hid ((hb.alloc hb.size (.cells (dcells w1.heap.size (.slice A1 l.length c1) (.slice none 0 0) (Dk.raw m l) 0) 61))); have Hsz := hid hb.size; clear ho hb HC)
    | (go_at_call 44; refine (start_any HO.out).mono ?_; rintro r w2 ⟨rfl, h2, b2⟩; have H2 := hid h2; have HB2 := hid (But.below b2 (B := w.heap.size) (by rintro i rfl; exact Hsz.out) HB.out.size); clear h2 b2))
  go_ret2
  exact ⟨_, _, _, rfl, H2.out, HB.out.trans HB2.out⟩
set_option maxRecDepth 10000 in
set_option maxHeartbeats 1000000 in
theorem New_any (m : Nat) (w : World) (hm : m ≤ 4194304) :
    Calls Try.prog 13 #[.int .i64 (m : Nat)] w fun r w' => ∃ g S F, r = .returned (.tuple #[.pointer (some ⟨g, 0, none⟩), .int .i64 0]) ∧ DkAt w.heap.size S w' g F (.slice none 0 0) (Dk.load m []) 0 ∧ Below w.heap.size w w' := by
  have HL := hid (Load_any m none 0 0 [] w (isBB_nil w _) hm (Nat.zero_le _))
  clear hm
  go_enter Try.func13, Try.ntmps13
  go_wp2_with (go_at_call 14; refine HL.out.mono ?_; rintro r w1 ⟨g, S, F, rfl, h1, b1⟩; have H1 := hid h1; have HB := hid b1; clear h1 b1)
  go_ret2
  exact ⟨_, _, _, rfl, H1.out, HB.out⟩
set_option maxRecDepth 10000 in
set_option maxHeartbeats 1000000 in
theorem New_bad (m : Int) (w : World) (hm : ¬ LdOk m 0) :
    Calls Try.prog 13 #[.int .i64 m] w fun r w' => r = .returned (.tuple #[.pointer none, .int .i64 2]) ∧ w = w' := by
  have HL := hid (Load_bad m none 0 0 w hm)
  clear hm
  go_enter Try.func13, Try.ntmps13
  go_wp2_with (go_at_call 14; refine HL.out.mono ?_; rintro r w1 ⟨rfl, rfl⟩)
  go_ret2
  exact ⟨rfl, rfl⟩
set_option maxRecDepth 10000 in
set_option maxHeartbeats 1000000 in
theorem Image_any {B : Nat} {S : Nat → Prop} {w : World} {g : Nat} {F L : Value} {d : Dk} {e : Int} (h : DkAt B S w g F L d e) :
    Calls Try.prog 35 #[.pointer (some ⟨g, 0, none⟩)] w fun r w' => ∃ v, r = .returned v ∧ w'.ownsRow w.heap.size 5 1 v d.now.length (d.now.map bv) ∧ Below w.heap.size w w' := by
  have HM := hid (made_any h)
  have hmx := h.ok.mx
  have hm4 := h.ok.m4
  obtain ⟨A, c, rfl, hF⟩ := own_isBB h.ff (by omega)
  have HC := hid (Clone_any A d.now _ c w hF)
  have c2 := h.cells.2.2.1
  clear h hF hmx hm4
  go_enter Try.func35, Try.ntmps35
  go_wp2_with (first
    | (go_at_call 39; refine HM.out.mono ?_; rintro r w' ⟨rfl, rfl⟩)
    | (go_at_call 43; refine HC.out.mono ?_; rintro r w1 ⟨v, rfl, ho, hb⟩; have HO := hid ho; have HB := hid hb; clear ho hb))
  go_ret
  exact ⟨_, rfl, HO.out, HB.out⟩
end Go.Proofs.Ytgccjclloomfgaa
