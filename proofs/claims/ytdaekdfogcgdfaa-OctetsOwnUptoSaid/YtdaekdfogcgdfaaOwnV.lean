/-
  The walk of OctetsOwn.
-/
import Derived.Test.YtdaekdfogcgdfaaApart
import Derived.Test.YtdaekdfogcgdfaaText
import Derived.Test.YtdaekdfogcgdfaaAwake
import Derived.Test.YtdaekdfogcgdfaaTwiceN
namespace Go.Proofs.Ytdaekdfogcgdfaa
open Go.RowKit

theorem Add8_own (A : Option Addr) (l : List UInt8) (n c : Nat) (x : Int) (v : Nat) (hx : x = (v : Int)) (w : World) (h : IsBB w w.heap.size A n c l) (hv : v < 256) (hn : n + 8 ≤ 140737488355328) :
    Calls Try.prog 18 #[.slice A n c, .int .u8 x] w fun e w' => ∃ g c', e = .returned (.slice (some ⟨g, 0, none⟩) (n + 1) c') ∧ New w w' g (n + 1) c' (l ++ bytesN 1 v) := by
  subst hx; exact Add8_any A l n c v w h hv hn
theorem Add16_own (A : Option Addr) (l : List UInt8) (n c : Nat) (x : Int) (v : Nat) (hx : x = (v : Int)) (w : World) (h : IsBB w w.heap.size A n c l) (hv : v < 65536) (hn : n + 8 ≤ 140737488355328) :
    Calls Try.prog 17 #[.slice A n c, .int .u16 x] w fun e w' => ∃ g c', e = .returned (.slice (some ⟨g, 0, none⟩) (n + 2) c') ∧ New w w' g (n + 2) c' (l ++ bytesN 2 v) := by
  subst hx; exact Add16_any A l n c v w h hv hn
theorem Add32_own (A : Option Addr) (l : List UInt8) (n c : Nat) (x : Int) (v : Nat) (hx : x = (v : Int)) (w : World) (h : IsBB w w.heap.size A n c l) (hv : v < 4294967296) (hn : n + 8 ≤ 140737488355328) :
    Calls Try.prog 16 #[.slice A n c, .int .u32 x] w fun e w' => ∃ g c', e = .returned (.slice (some ⟨g, 0, none⟩) (n + 4) c') ∧ New w w' g (n + 4) c' (l ++ bytesN 4 v) := by
  subst hx; exact Add32_any A l n c v w h hv hn
theorem AddText_nil (A : Option Addr) (l : List UInt8) (n c : Nat) (w : World) (h : IsBB w w.heap.size A n c l) (hn : n + 100000 ≤ 140737488355328) :
    Calls Try.prog 14 #[.slice A n c, .string ⟨#[]⟩] w fun e w' => ∃ g c' X, e = .returned (.tuple #[.slice (some ⟨g, 0, none⟩) (n + 2) c', .int .i64 0]) ∧ New w w' g (n + 2) c' X :=
  (AddText_any A l n c ⟨#[]⟩ w h (by decide) hn).mono (fun _ _ ⟨g, c', he, hN⟩ => ⟨g, c', _, he, hN⟩)
/-- A list of the call's own. -/
structure Lst (b w : World) (g n c : Nat) : Prop where
  row : RowAt w g c
  cap : n ≤ c
  max : c ≤ maxLen
  hi : b.heap.size ≤ g
theorem New.lst {b w w' : World} {g n c : Nat} {l : List UInt8} (h : New w w' g n c l) (hb : Below b.heap.size b w) : Lst b w' g n c := by
  obtain ⟨h1, _, h3, h4, cur, h5, h6, _⟩ := h.row
  exact ⟨⟨cur, h5, h6⟩, h3, h4, Nat.le_trans hb.size h1⟩
theorem Lst.on {b w w' : World} {g n c : Nat} (h : Lst b w g n c) (hb : Below w.heap.size w w') : Lst b w' g n c := ⟨h.row.to (hb.block _ h.row.lt), h.cap, h.max, h.hi⟩
theorem Sp.isBB {m : Nat} {g : Nat → Nat} {w w' : World} {A : Option Addr} {n c : Nat} {l : List UInt8} (h : IsBB w w.heap.size A n c l) (s : Sp m g w w') (hne : ∀ ad, A = some ad → 0 < l.length → ∀ k, k < m → ad.block ≠ g k) : IsBB w' w'.heap.size A n c l :=
  ⟨⟨h.len, h.cap, h.max, h.small, fun hp => by
    obtain ⟨ad, e, hc⟩ := h.lies hp
    refine ⟨ad, e, fun j hj => ?_⟩
    have hb := s.block ad.block (h.low hp ad e) (hne ad e hp)
    rw [← hc j hj]
    simp only [World.cell?, block_of_add, hb]⟩, fun hp ad e => Nat.lt_of_lt_of_le (h.low hp ad e) s.size⟩
def six (a b c d e f : Nat) : Nat → Nat := fun k => [a, b, c, d, e, f].getD k 0

theorem six_cases (k : Nat) (h : k < 6) : k = 0 ∨ k = 1 ∨ k = 2 ∨ k = 3 ∨ k = 4 ∨ k = 5 := by omega
theorem own_lists (n t g0 g1 g2 g3 g4 g5 c0 c1 c2 c3 c4 c5 G : Nat) (w w8 : World) (hn : n ≤ 1048576) (ht : t ≤ 500)
    (M0 : Lst w w8 g0 (n + 1) c0) (M1 : Lst w w8 g1 (n + 2) c1) (M2 : Lst w w8 g2 (n + 4) c2) (M3 : Lst w w8 g3 (n + 8) c3) (M4 : Lst w w8 g4 (n + 2 + t) c4) (M5 : Lst w w8 g5 (n + 2) c5)
    (ho : g4 < g5 ∧ g5 < g0 ∧ g0 < g1 ∧ g1 < g2 ∧ g2 < g3 ∧ g3 < G)
    (hh : w8.heap[G]? = some (.cells #[.slice (some ⟨g0, 0, none⟩) (n + 1) c0, .slice (some ⟨g1, 0, none⟩) (n + 2) c1, .slice (some ⟨g2, 0, none⟩) (n + 4) c2, .slice (some ⟨g3, 0, none⟩) (n + 8) c3, .slice (some ⟨g4, 0, none⟩) (n + 2 + t) c4, .slice (some ⟨g5, 0, none⟩) (n + 2) c5] 24 (0, 0))) (hs : w8.heap.size = G + 1) :
    ApL 6 G (six g0 g1 g2 g3 g4 g5) (six (n + 1) (n + 2) (n + 4) (n + 8) (n + 2 + t) (n + 2)) (six c0 c1 c2 c3 c4 c5) w8 ∧ ∀ q, q < 6 → RowAt w8 (six g0 g1 g2 g3 g4 g5 q) (six c0 c1 c2 c3 c4 c5 q) := by
  have r0 := M0.row.lt
  have r1 := M1.row.lt
  have r2 := M2.row.lt
  have r3 := M3.row.lt
  have r4 := M4.row.lt
  have r5 := M5.row.lt
  refine ⟨⟨Nat.le_refl _, fun k hk => ?_, fun p q hp hq hne => ?_, fun k hk => ?_, fun k hk => ?_, by omega, fun k hk => ?_⟩, fun k hk => ?_⟩
  · rcases six_cases k hk with rfl | rfl | rfl | rfl | rfl | rfl
    · exact ⟨M0.cap, M0.max, by show n + 1 ≤ _; omega⟩
    · exact ⟨M1.cap, M1.max, by show n + 2 ≤ _; omega⟩
    · exact ⟨M2.cap, M2.max, by show n + 4 ≤ _; omega⟩
    · exact ⟨M3.cap, M3.max, by show n + 8 ≤ _; omega⟩
    · exact ⟨M4.cap, M4.max, by show n + 2 + t ≤ _; omega⟩
    · exact ⟨M5.cap, M5.max, by show n + 2 ≤ _; omega⟩
  · rcases six_cases p hp with rfl | rfl | rfl | rfl | rfl | rfl <;> rcases six_cases q hq with rfl | rfl | rfl | rfl | rfl | rfl <;> simp only [six, List.getD_cons_zero, List.getD_cons_succ] <;> omega
  · rcases six_cases k hk with rfl | rfl | rfl | rfl | rfl | rfl <;> simp only [six, List.getD_cons_zero, List.getD_cons_succ] <;> omega
  · rcases six_cases k hk with rfl | rfl | rfl | rfl | rfl | rfl <;> simp only [six, List.getD_cons_zero, List.getD_cons_succ] <;> omega
  · rw [row_cell hh k]
    rcases six_cases k hk with rfl | rfl | rfl | rfl | rfl | rfl <;> rfl
  · rcases six_cases k hk with rfl | rfl | rfl | rfl | rfl | rfl
    · exact M0.row
    · exact M1.row
    · exact M2.row
    · exact M3.row
    · exact M4.row
    · exact M5.row
set_option maxRecDepth 10000 in
set_option maxHeartbeats 2000000 in
theorem own_long (A : Option Addr) (n c V : Nat) (text : ByteArray) (w : World) (ht : 500 < text.size) (hm : text.size ≤ maxLen) :
    Calls Try.prog 9 #[.slice A n c, .string text, .int .u64 V] w fun e w' => e = .returned (.bool true) ∧ Below w.heap.size w w' := by
  unfold maxLen at hm
  have hz : (500 : Int) < text.size := by omega
  go_enter Try.func9, Try.ntmps9
  go_wp2_with fail
  refine (awake_any _).mono ?_
  rintro e w1 ⟨rfl, hb⟩
  go_wp2_with fail
  go_ret
  exact ⟨rfl, hb⟩
set_option maxRecDepth 10000 in
set_option maxHeartbeats 4000000 in
theorem own_walk (A : Option Addr) (l : List UInt8) (n c V : Nat) (text : ByteArray) (w : World) (h : IsBB w w.heap.size A n c l) (hn : n ≤ 1048576) (ht : text.size ≤ 500) (hV : V < 18446744073709551616) :
    Calls Try.prog 9 #[.slice A n c, .string text, .int .u64 V] w fun e w' => e = .returned (.bool true) ∧ Below w.heap.size w w' := by
  have HV := hid hV
  have hz : (text.size : Int) ≤ 500 := by omega
  have H := hid h
  have Hn := hid hn
  have Ht := hid ht
  clear hV h hn ht
  go_enter Try.func9, Try.ntmps9
  go_wp2_with fail
  refine (LentBytes_any _ _ _ _ _ H.out (by have := Hn.out; omega)).mono ?_
  rintro e w1 ⟨gL, cL, rfl, hN⟩
  have Hf1 := hid (hN.front H.out.len)
  have Hl1 := hid hN.isBB
  have B1 := hid hN.bel
  have Hg := hid hN.row.1
  have Hg2 := hid hN.row.2.1
  clear hN
  go_wp2_with fail
  refine (AddText_any _ _ _ _ text _ Hf1.out (by have := Ht.out; omega) (by have := Hn.out; omega)).mono ?_
  rintro e w2 ⟨g4, c4, rfl, hN⟩
  have L4 := hid (hN.lst B1.out)
  have B2 := hid (B1.out.trans (hN.bel.mono B1.out.size))
  have Hf2 := hid (Hf1.out.on hN.bel)
  have Hl2 := hid (Hl1.out.on hN.bel)
  have q4 := hid hN.row.1
  have r4 := hid hN.row.2.1
  clear hN
  go_wp2_with fail
  refine (AddText_nil _ _ _ _ _ Hf2.out (by have := Hn.out; omega)).mono ?_
  rintro e w3 ⟨g5, c5, X5, rfl, hN⟩
  have L5 := hid (hN.lst B2.out)
  have L4 := hid (L4.out.on hN.bel)
  have B3 := hid (B2.out.trans (hN.bel.mono B2.out.size))
  have Hf3 := hid (Hf2.out.on hN.bel)
  have Hl3 := hid (Hl2.out.on hN.bel)
  have q5 := hid hN.row.1
  have r5 := hid hN.row.2.1
  clear hN
  go_wp2_with fail
  refine (Add8_own _ _ _ _ _ (V % 256) (by omega) _ Hf3.out (by omega) (by have := Hn.out; omega)).mono ?_
  rintro e w4 ⟨g0, c0, rfl, hN⟩
  have L0 := hid (hN.lst B3.out)
  have L4 := hid (L4.out.on hN.bel)
  have L5 := hid (L5.out.on hN.bel)
  have B4 := hid (B3.out.trans (hN.bel.mono B3.out.size))
  have Hf4 := hid (Hf3.out.on hN.bel)
  have Hl4 := hid (Hl3.out.on hN.bel)
  have q0 := hid hN.row.1
  have r0 := hid hN.row.2.1
  clear hN
  go_wp2_with fail
  refine (Add16_own _ _ _ _ _ (V % 65536) (by rw [wrap_u16]; omega) _ Hf4.out (by omega) (by have := Hn.out; omega)).mono ?_
  rintro e w5 ⟨g1, c1, rfl, hN⟩
  have L1 := hid (hN.lst B4.out)
  have L0 := hid (L0.out.on hN.bel)
  have L4 := hid (L4.out.on hN.bel)
  have L5 := hid (L5.out.on hN.bel)
  have B5 := hid (B4.out.trans (hN.bel.mono B4.out.size))
  have Hf5 := hid (Hf4.out.on hN.bel)
  have Hl5 := hid (Hl4.out.on hN.bel)
  have q1 := hid hN.row.1
  have r1 := hid hN.row.2.1
  clear hN
  go_wp2_with fail
  refine (Add32_own _ _ _ _ _ (V % 4294967296) (by omega) _ Hf5.out (by omega) (by have := Hn.out; omega)).mono ?_
  rintro e w6 ⟨g2, c2, rfl, hN⟩
  have L2 := hid (hN.lst B5.out)
  have L1 := hid (L1.out.on hN.bel)
  have L0 := hid (L0.out.on hN.bel)
  have L4 := hid (L4.out.on hN.bel)
  have L5 := hid (L5.out.on hN.bel)
  have B6 := hid (B5.out.trans (hN.bel.mono B5.out.size))
  have Hf6 := hid (Hf5.out.on hN.bel)
  have Hl6 := hid (Hl5.out.on hN.bel)
  have q2 := hid hN.row.1
  have r2 := hid hN.row.2.1
  clear hN
  go_wp2_with fail
  refine (Add64_any _ _ _ _ V _ Hf6.out HV.out (by have := Hn.out; omega)).mono ?_
  rintro e w7 ⟨g3, c3, rfl, hN⟩
  have L3 := hid (hN.lst B6.out)
  have L2 := hid (L2.out.on hN.bel)
  have L1 := hid (L1.out.on hN.bel)
  have L0 := hid (L0.out.on hN.bel)
  have L4 := hid (L4.out.on hN.bel)
  have L5 := hid (L5.out.on hN.bel)
  have B7 := hid (B6.out.trans (hN.bel.mono B6.out.size))
  have Hl7 := hid (Hl6.out.on hN.bel)
  have q3 := hid hN.row.1
  have r3 := hid hN.row.2.1
  have z7 := hid hN.bel.size
  clear hN
  go_wp2_with fail
  have hb8 : Below w7.heap.size w7 (w7.alloc (.cells #[.slice (some ⟨g0, 0, none⟩) (n + 1) c0, .slice (some ⟨g1, 0, none⟩) (n + 2) c1, .slice (some ⟨g2, 0, none⟩) (n + 4) c2, .slice (some ⟨g3, 0, none⟩) (n + 8) c3, .slice (some ⟨g4, 0, none⟩) (n + 2 + text.size) c4, .slice (some ⟨g5, 0, none⟩) (n + 2) c5] 24)) := (Below.refl _ _).alloc (Nat.le_refl _) _
  have hn8 : (w7.alloc (.cells #[.slice (some ⟨g0, 0, none⟩) (n + 1) c0, .slice (some ⟨g1, 0, none⟩) (n + 2) c1, .slice (some ⟨g2, 0, none⟩) (n + 4) c2, .slice (some ⟨g3, 0, none⟩) (n + 8) c3, .slice (some ⟨g4, 0, none⟩) (n + 2 + text.size) c4, .slice (some ⟨g5, 0, none⟩) (n + 2) c5] 24)).heap[w7.heap.size]? = some (.cells #[.slice (some ⟨g0, 0, none⟩) (n + 1) c0, .slice (some ⟨g1, 0, none⟩) (n + 2) c1, .slice (some ⟨g2, 0, none⟩) (n + 4) c2, .slice (some ⟨g3, 0, none⟩) (n + 8) c3, .slice (some ⟨g4, 0, none⟩) (n + 2 + text.size) c4, .slice (some ⟨g5, 0, none⟩) (n + 2) c5] 24 (0, 0)) := heap_alloc_new w7 _
  have hs8 : (w7.alloc (.cells #[.slice (some ⟨g0, 0, none⟩) (n + 1) c0, .slice (some ⟨g1, 0, none⟩) (n + 2) c1, .slice (some ⟨g2, 0, none⟩) (n + 4) c2, .slice (some ⟨g3, 0, none⟩) (n + 8) c3, .slice (some ⟨g4, 0, none⟩) (n + 2 + text.size) c4, .slice (some ⟨g5, 0, none⟩) (n + 2) c5] 24)).heap.size = w7.heap.size + 1 := by simp
  obtain ⟨G, hG⟩ : ∃ G, G = w7.heap.size := ⟨_, rfl⟩
  rw [← hG] at hn8 hs8 ⊢
  generalize (w7.alloc (.cells #[.slice (some ⟨g0, 0, none⟩) (n + 1) c0, .slice (some ⟨g1, 0, none⟩) (n + 2) c1, .slice (some ⟨g2, 0, none⟩) (n + 4) c2, .slice (some ⟨g3, 0, none⟩) (n + 8) c3, .slice (some ⟨g4, 0, none⟩) (n + 2 + text.size) c4, .slice (some ⟨g5, 0, none⟩) (n + 2) c5] 24)) = w8 at hb8 hn8 hs8 ⊢
  have M0 := hid (L0.out.on hb8)
  have M1 := hid (L1.out.on hb8)
  have M2 := hid (L2.out.on hb8)
  have M3 := hid (L3.out.on hb8)
  have M4 := hid (L4.out.on hb8)
  have M5 := hid (L5.out.on hb8)
  have B8 := hid (B7.out.trans (hb8.mono B7.out.size))
  have Hl8 := hid (Hl7.out.on hb8)
  have H8 := hid (H.out.on B8.out)
  have G8 := hid (And.intro hG (And.intro hn8 hs8))
  clear hb8 hn8 hs8 hG
  have hA := hid (own_lists n text.size g0 g1 g2 g3 g4 g5 c0 c1 c2 c3 c4 c5 G w w8 Hn.out Ht.out M0.out M1.out M2.out M3.out M4.out M5.out
    (by have := q5.out; have := r4.out; have := r5.out; have := q0.out; have := r0.out; have := q1.out; have := r1.out; have := q2.out; have := r2.out; have := q3.out; have := r3.out; have := G8.out.1; omega) G8.out.2.1 G8.out.2.2)
  refine (Apart_any 6 G _ _ _ w8 hA.out.1 hA.out.2).mono ?_
  rintro e w9 ⟨rfl, hsp⟩
  have hlo : ∀ k, k < 6 → w.heap.size ≤ six g0 g1 g2 g3 g4 g5 k ∧ gL < six g0 g1 g2 g3 g4 g5 k := fun k hk => by
    have a0 := M0.out.hi
    have a1 := M1.out.hi
    have a2 := M2.out.hi
    have a3 := M3.out.hi
    have a4 := M4.out.hi
    have a5 := M5.out.hi
    have e0 := Hg2.out
    have e1 := q4.out; have e2 := r4.out; have e3 := q5.out; have e4 := r5.out; have e5 := q0.out; have e6 := r0.out; have e7 := q1.out; have e8 := r1.out; have e9 := q2.out; have e10 := r2.out; have e11 := q3.out
    rcases (show k = 0 ∨ k = 1 ∨ k = 2 ∨ k = 3 ∨ k = 4 ∨ k = 5 by omega) with rfl | rfl | rfl | rfl | rfl | rfl <;> simp only [six, List.getD_cons_zero, List.getD_cons_succ] <;> omega
  have H9 := hid (Sp.isBB H8.out hsp (fun ad e hp k hk e2 => by have := H.out.low hp ad e; have := (hlo k hk).1; omega))
  have Hl9 := hid (Sp.isBB Hl8.out hsp (fun ad e _ k hk e2 => by cases e; have := (hlo k hk).2; have e3 : gL = _ := e2; omega))
  have B9 : Hid (Below w.heap.size w w9) := ⟨hsp.os.trans B8.out.os, hsp.tape.trans B8.out.tape, hsp.output.trans B8.out.output, Nat.le_trans B8.out.size hsp.size, fun i hi => (hsp.block i (Nat.lt_of_lt_of_le hi B8.out.size) (fun k hk e => by have := (hlo k hk).1; omega)).trans (B8.out.block i hi)⟩
  clear hsp hlo
  go_wp2_with fail
  refine (KeptBytes_true A l gL n cL c _ H9.out Hl9.out).mono ?_
  rintro e w10 ⟨rfl, hb10⟩
  have B10 := hid (B9.out.trans (hb10.mono B9.out.size))
  clear hb10
  go_wp2_with fail
  refine (awake_any _).mono ?_
  rintro e w11 ⟨rfl, hb11⟩
  have B11 := hid (B10.out.trans (hb11.mono B10.out.size))
  clear hb11
  go_wp2_with fail
  go_ret
  exact ⟨rfl, B11.out⟩
end Go.Proofs.Ytdaekdfogcgdfaa
