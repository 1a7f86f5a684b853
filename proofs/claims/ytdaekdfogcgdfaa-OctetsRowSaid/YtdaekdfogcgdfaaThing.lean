/-
  The contracts of Thing's put and stands.
-/
import Derived.Test.YtdaekdfogcgdfaaLent
import Derived.Test.YtdaekdfogcgdfaaTwiceN
namespace Go.Proofs.Ytdaekdfogcgdfaa
open Go.RowKit

theorem IsB.drewN {w : World} {A : Option Addr} {n c : Nat} {l : List UInt8} (h : IsB w A n c l) (k : Nat) : IsB (w.drewN k) A n c l := ⟨h.len, h.cap, h.max, h.small, h.lies⟩
/-- What a thing comes to in bytes. -/
def encT (wd N : Nat) (S : ByteArray) : List UInt8 :=
  if wd = 1 then bytesN 1 N else if wd = 2 then bytesN 2 N else if wd = 4 then bytesN 4 N else if wd = 8 then bytesN 8 N else bytesN 2 S.size ++ S.data.toList
def lenT (wd : Nat) (S : ByteArray) : Nat := if wd = 1 then 1 else if wd = 2 then 2 else if wd = 4 then 4 else if wd = 8 then 8 else 2 + S.size
theorem encT_len (wd N : Nat) (S : ByteArray) : (encT wd N S).length = lenT wd S := by
  unfold encT lenT
  split
  · exact length_bytesN _ _
  · split
    · exact length_bytesN _ _
    · split
      · exact length_bytesN _ _
      · split
        · exact length_bytesN _ _
        · rw [List.length_append, length_bytesN, Array.length_toList]; rfl
theorem New.base {w0 w w' : World} {g n c : Nat} {l : List UInt8} (h : New w w' g n c l) (hb : Below w0.heap.size w0 w) : New w0 w' g n c l := by
  obtain ⟨h1, h2⟩ := h.own
  refine ⟨⟨h1, ?_⟩, hb.trans (h.bel.mono hb.size), h.small⟩
  rcases h2 with h2 | ⟨g', cap, cur, hv, hg, r⟩
  · exact .inl h2
  · exact .inr ⟨g', cap, cur, hv, Nat.le_trans hb.size hg, r⟩
def thing (wd N : Nat) (S : ByteArray) : Value := .agg #[.int .u8 wd, .int .u64 N, .string S]

theorem ret3_eq {p a b : Bool} {x y : Int} (h1 : a = b) (h2 : x = y) : Ending.returned (.tuple #[.bool p, .bool a, .int .i64 x]) = .returned (.tuple #[.bool p, .bool b, .int .i64 y]) := by rw [h1, h2]
theorem Add8_i (A : Option Addr) (l : List UInt8) (n c : Nat) (x : Int) (v : Nat) (hx : x = (v : Int)) (w : World) (h : IsBB w w.heap.size A n c l) (hv : v < 256) (hn : n + 8 ≤ 140737488355328) :
    Calls Try.prog 18 #[.slice A n c, .int .u8 x] w fun e w' => ∃ g c', e = .returned (.slice (some ⟨g, 0, none⟩) (n + 1) c') ∧ New w w' g (n + 1) c' (l ++ bytesN 1 v) := by
  subst hx; exact Add8_any A l n c v w h hv hn
theorem Add16_i (A : Option Addr) (l : List UInt8) (n c : Nat) (x : Int) (v : Nat) (hx : x = (v : Int)) (w : World) (h : IsBB w w.heap.size A n c l) (hv : v < 65536) (hn : n + 8 ≤ 140737488355328) :
    Calls Try.prog 17 #[.slice A n c, .int .u16 x] w fun e w' => ∃ g c', e = .returned (.slice (some ⟨g, 0, none⟩) (n + 2) c') ∧ New w w' g (n + 2) c' (l ++ bytesN 2 v) := by
  subst hx; exact Add16_any A l n c v w h hv hn
theorem Add32_i (A : Option Addr) (l : List UInt8) (n c : Nat) (x : Int) (v : Nat) (hx : x = (v : Int)) (w : World) (h : IsBB w w.heap.size A n c l) (hv : v < 4294967296) (hn : n + 8 ≤ 140737488355328) :
    Calls Try.prog 16 #[.slice A n c, .int .u32 x] w fun e w' => ∃ g c', e = .returned (.slice (some ⟨g, 0, none⟩) (n + 4) c') ∧ New w w' g (n + 4) c' (l ++ bytesN 4 v) := by
  subst hx; exact Add32_any A l n c v w h hv hn
theorem Add64_i (A : Option Addr) (l : List UInt8) (n c : Nat) (x : Int) (v : Nat) (hx : x = (v : Int)) (w : World) (h : IsBB w w.heap.size A n c l) (hv : v < 18446744073709551616) (hn : n + 8 ≤ 140737488355328) :
    Calls Try.prog 15 #[.slice A n c, .int .u64 x] w fun e w' => ∃ g c', e = .returned (.slice (some ⟨g, 0, none⟩) (n + 8) c') ∧ New w w' g (n + 8) c' (l ++ bytesN 8 v) := by
  subst hx; exact Add64_any A l n c v w h hv hn
set_option maxRecDepth 10000 in
set_option maxHeartbeats 1000000 in
theorem put_1 (A : Option Addr) (l : List UInt8) (n c N : Nat) (S : ByteArray) (w : World) (h : IsBB w w.heap.size A n c l) (hN : N < 18446744073709551616) (hn : n + 100000 ≤ 140737488355328) :
    Calls Try.prog 29 #[.agg #[.int .u8 1, .int .u64 N, .string S], .slice A n c] w fun e w' => ∃ g c', e = .returned (.slice (some ⟨g, 0, none⟩) (n + 1) c') ∧ New w w' g (n + 1) c' (l ++ bytesN 1 N) := by
  have HN := hid hN
  clear hN
  have b0 : Below w.heap.size w (w.alloc (Obj.cells #[.int .u8 1, .int .u64 N, .string S] 56)) := (Below.refl _ _).alloc (Nat.le_refl _) _
  have h1 := h.on b0
  go_enter Try.func29, Try.ntmps29
  go_wp2_with fail
  refine (Add8_i _ _ _ _ _ (N % 256) (by omega) _ h1 (by omega) (by omega)).mono ?_
  rintro e w1 ⟨g, c1, rfl, hN⟩
  have e1 : bytesN 1 (N % 256) = bytesN 1 N := bytesN_mod 1 N
  rw [e1] at hN
  have hM := hN.base b0
  clear hN
  go_wp2_with fail
  go_ret
  exact ⟨g, c1, rfl, hM⟩
set_option maxRecDepth 10000 in
set_option maxHeartbeats 1000000 in
theorem put_2 (A : Option Addr) (l : List UInt8) (n c N : Nat) (S : ByteArray) (w : World) (h : IsBB w w.heap.size A n c l) (hN : N < 18446744073709551616) (hn : n + 100000 ≤ 140737488355328) :
    Calls Try.prog 29 #[.agg #[.int .u8 2, .int .u64 N, .string S], .slice A n c] w fun e w' => ∃ g c', e = .returned (.slice (some ⟨g, 0, none⟩) (n + 2) c') ∧ New w w' g (n + 2) c' (l ++ bytesN 2 N) := by
  have HN := hid hN
  clear hN
  have b0 : Below w.heap.size w (w.alloc (Obj.cells #[.int .u8 2, .int .u64 N, .string S] 56)) := (Below.refl _ _).alloc (Nat.le_refl _) _
  have h1 := h.on b0
  go_enter Try.func29, Try.ntmps29
  go_wp2_with fail
  refine (Add16_i _ _ _ _ _ (N % 65536) (by rw [wrap_u16]; omega) _ h1 (by omega) (by omega)).mono ?_
  rintro e w1 ⟨g, c1, rfl, hN⟩
  have e1 : bytesN 2 (N % 65536) = bytesN 2 N := bytesN_mod 2 N
  rw [e1] at hN
  have hM := hN.base b0
  clear hN
  go_wp2_with fail
  go_ret
  exact ⟨g, c1, rfl, hM⟩
set_option maxRecDepth 10000 in
set_option maxHeartbeats 1000000 in
theorem put_4 (A : Option Addr) (l : List UInt8) (n c N : Nat) (S : ByteArray) (w : World) (h : IsBB w w.heap.size A n c l) (hN : N < 18446744073709551616) (hn : n + 100000 ≤ 140737488355328) :
    Calls Try.prog 29 #[.agg #[.int .u8 4, .int .u64 N, .string S], .slice A n c] w fun e w' => ∃ g c', e = .returned (.slice (some ⟨g, 0, none⟩) (n + 4) c') ∧ New w w' g (n + 4) c' (l ++ bytesN 4 N) := by
  have HN := hid hN
  clear hN
  have b0 : Below w.heap.size w (w.alloc (Obj.cells #[.int .u8 4, .int .u64 N, .string S] 56)) := (Below.refl _ _).alloc (Nat.le_refl _) _
  have h1 := h.on b0
  go_enter Try.func29, Try.ntmps29
  go_wp2_with fail
  refine (Add32_i _ _ _ _ _ (N % 4294967296) (by omega) _ h1 (by omega) (by omega)).mono ?_
  rintro e w1 ⟨g, c1, rfl, hN⟩
  have e1 : bytesN 4 (N % 4294967296) = bytesN 4 N := bytesN_mod 4 N
  rw [e1] at hN
  have hM := hN.base b0
  clear hN
  go_wp2_with fail
  go_ret
  exact ⟨g, c1, rfl, hM⟩
set_option maxRecDepth 10000 in
set_option maxHeartbeats 1000000 in
theorem put_8 (A : Option Addr) (l : List UInt8) (n c N : Nat) (S : ByteArray) (w : World) (h : IsBB w w.heap.size A n c l) (hN : N < 18446744073709551616) (hn : n + 100000 ≤ 140737488355328) :
    Calls Try.prog 29 #[.agg #[.int .u8 8, .int .u64 N, .string S], .slice A n c] w fun e w' => ∃ g c', e = .returned (.slice (some ⟨g, 0, none⟩) (n + 8) c') ∧ New w w' g (n + 8) c' (l ++ bytesN 8 N) := by
  have HN := hid hN
  clear hN
  have b0 : Below w.heap.size w (w.alloc (Obj.cells #[.int .u8 8, .int .u64 N, .string S] 56)) := (Below.refl _ _).alloc (Nat.le_refl _) _
  have h1 := h.on b0
  go_enter Try.func29, Try.ntmps29
  go_wp2_with fail
  refine (Add64_i _ _ _ _ _ N (rfl) _ h1 (HN.out) (by omega)).mono ?_
  rintro e w1 ⟨g, c1, rfl, hN⟩
  have hM := hN.base b0
  clear hN
  go_wp2_with fail
  go_ret
  exact ⟨g, c1, rfl, hM⟩
set_option maxRecDepth 10000 in
set_option maxHeartbeats 1000000 in
theorem put_text (A : Option Addr) (l : List UInt8) (n c wd : Nat) (N : Int) (S : ByteArray) (w : World) (h : IsBB w w.heap.size A n c l) (hS : S.size ≤ 60) (hn : n + 100000 ≤ 140737488355328) (q1 : ((wd : Int) == 1) = false) (q2 : ((wd : Int) == 2) = false) (q4 : ((wd : Int) == 4) = false) (q8 : ((wd : Int) == 8) = false) :
    Calls Try.prog 29 #[.agg #[.int .u8 wd, .int .u64 N, .string S], .slice A n c] w fun e w' => ∃ g c', e = .returned (.slice (some ⟨g, 0, none⟩) (n + 2 + S.size) c') ∧ New w w' g (n + 2 + S.size) c' (l ++ bytesN 2 S.size ++ S.data.toList) := by
  have b0 : Below w.heap.size w (w.alloc (Obj.cells #[.int .u8 wd, .int .u64 N, .string S] 56)) := (Below.refl _ _).alloc (Nat.le_refl _) _
  have h1 := h.on b0
  go_enter Try.func29, Try.ntmps29
  go_wp2_with fail
  refine (AddText_any _ _ _ _ S _ h1 (by omega) (by omega)).mono ?_
  rintro e w1 ⟨g, c1, rfl, hN⟩
  have hM := hN.base b0
  clear hN
  go_wp2_with fail
  go_ret
  exact ⟨g, c1, rfl, hM⟩
theorem put_any (A : Option Addr) (l : List UInt8) (n c wd N : Nat) (S : ByteArray) (w : World) (h : IsBB w w.heap.size A n c l) (hN : N < 18446744073709551616) (hS : S.size ≤ 60) (hn : n + 100000 ≤ 140737488355328) :
    Calls Try.prog 29 #[.agg #[.int .u8 wd, .int .u64 N, .string S], .slice A n c] w fun e w' => ∃ g c', e = .returned (.slice (some ⟨g, 0, none⟩) (n + lenT wd S) c') ∧ New w w' g (n + lenT wd S) c' (l ++ encT wd N S) := by
  unfold lenT encT
  by_cases h1 : wd = 1
  · subst h1; exact put_1 A l n c N S w h hN hn
  · by_cases h2 : wd = 2
    · subst h2; exact put_2 A l n c N S w h hN hn
    · by_cases h4 : wd = 4
      · subst h4; exact put_4 A l n c N S w h hN hn
      · by_cases h8 : wd = 8
        · subst h8; exact put_8 A l n c N S w h hN hn
        · rw [if_neg h1, if_neg h2, if_neg h4, if_neg h8, if_neg h1, if_neg h2, if_neg h4, if_neg h8, ← Nat.add_assoc, ← List.append_assoc]
          have f : ∀ k : Nat, wd ≠ k → ((wd : Int) == (k : Int)) = false := fun k hk => by rw [beq_eq_false_iff_ne]; omega
          exact put_text A l n c wd N S w h hS hn (f 1 h1) (f 2 h2) (f 4 h4) (f 8 h8)
set_option maxRecDepth 10000 in
set_option maxHeartbeats 1000000 in
theorem stands_1 (A : Option Addr) (l : List UInt8) (n c N P : Nat) (S : ByteArray) (w : World) (h : IsBB w w.heap.size A n c l) (hP : P ≤ 1000000) :
    Calls Try.prog 30 #[.agg #[.int .u8 1, .int .u64 N, .string S], .slice A n c, .int .i64 P] w fun e w' =>
      e = .returned (.tuple #[.bool (has 1 n P), .bool (num 1 l P == ((N % 256 : Nat) : Int)), .int .i64 ((P + 1 : Nat) : Int)]) ∧ Below w.heap.size w w' := by
  have b0 : Below w.heap.size w (w.alloc (Obj.cells #[.int .u8 1, .int .u64 N, .string S] 56)) := (Below.refl _ _).alloc (Nat.le_refl _) _
  have h1 := h.on b0
  go_enter Try.func30, Try.ntmps30
  go_wp2_with (go_at_call 21; refine (U8_any _ _ _ _ _ _ h1.toIsB).mono ?_; rintro e w' ⟨rfl, rfl⟩)
  go_quiet (fail)
  go_wp2
  go_ret3
  exact ⟨ret3_eq (by simp) (by omega), below_drewN b0 _⟩
set_option maxRecDepth 10000 in
set_option maxHeartbeats 1000000 in
theorem stands_2 (A : Option Addr) (l : List UInt8) (n c N P : Nat) (S : ByteArray) (w : World) (h : IsBB w w.heap.size A n c l) (hP : P ≤ 1000000) :
    Calls Try.prog 30 #[.agg #[.int .u8 2, .int .u64 N, .string S], .slice A n c, .int .i64 P] w fun e w' =>
      e = .returned (.tuple #[.bool (has 2 n P), .bool (num 2 l P == ((N % 65536 : Nat) : Int)), .int .i64 ((P + 2 : Nat) : Int)]) ∧ Below w.heap.size w w' := by
  have b0 : Below w.heap.size w (w.alloc (Obj.cells #[.int .u8 2, .int .u64 N, .string S] 56)) := (Below.refl _ _).alloc (Nat.le_refl _) _
  have h1 := h.on b0
  go_enter Try.func30, Try.ntmps30
  go_wp2_with (go_at_call 12; refine (U16_any _ _ _ _ _ _ h1.toIsB).mono ?_; rintro e w' ⟨rfl, rfl⟩)
  go_quiet (fail)
  go_wp2
  go_ret3
  exact ⟨ret3_eq (by rw [wrap_u16]; simp) (by omega), below_drewN b0 _⟩
set_option maxRecDepth 10000 in
set_option maxHeartbeats 1000000 in
theorem stands_4 (A : Option Addr) (l : List UInt8) (n c N P : Nat) (S : ByteArray) (w : World) (h : IsBB w w.heap.size A n c l) (hP : P ≤ 1000000) :
    Calls Try.prog 30 #[.agg #[.int .u8 4, .int .u64 N, .string S], .slice A n c, .int .i64 P] w fun e w' =>
      e = .returned (.tuple #[.bool (has 4 n P), .bool (num 4 l P == ((N % 4294967296 : Nat) : Int)), .int .i64 ((P + 4 : Nat) : Int)]) ∧ Below w.heap.size w w' := by
  have b0 : Below w.heap.size w (w.alloc (Obj.cells #[.int .u8 4, .int .u64 N, .string S] 56)) := (Below.refl _ _).alloc (Nat.le_refl _) _
  have h1 := h.on b0
  go_enter Try.func30, Try.ntmps30
  go_wp2_with (go_at_call 22; refine (U32_any _ _ _ _ _ _ h1.toIsB).mono ?_; rintro e w' ⟨rfl, rfl⟩)
  go_quiet (fail)
  go_wp2
  go_ret3
  exact ⟨ret3_eq (by simp) (by omega), below_drewN b0 _⟩
set_option maxRecDepth 10000 in
set_option maxHeartbeats 1000000 in
theorem stands_8 (A : Option Addr) (l : List UInt8) (n c N P : Nat) (S : ByteArray) (w : World) (h : IsBB w w.heap.size A n c l) (hP : P ≤ 1000000) :
    Calls Try.prog 30 #[.agg #[.int .u8 8, .int .u64 N, .string S], .slice A n c, .int .i64 P] w fun e w' =>
      e = .returned (.tuple #[.bool (has 8 n P), .bool (num 8 l P == N), .int .i64 ((P + 8 : Nat) : Int)]) ∧ Below w.heap.size w w' := by
  have b0 : Below w.heap.size w (w.alloc (Obj.cells #[.int .u8 8, .int .u64 N, .string S] 56)) := (Below.refl _ _).alloc (Nat.le_refl _) _
  have h1 := h.on b0
  go_enter Try.func30, Try.ntmps30
  go_wp2_with (go_at_call 11; refine (U64_any _ _ _ _ _ _ h1.toIsB).mono ?_; rintro e w' ⟨rfl, rfl⟩)
  go_quiet (fail)
  go_wp2
  go_ret3
  exact ⟨ret3_eq rfl (by omega), below_drewN b0 _⟩
set_option maxRecDepth 10000 in
set_option maxHeartbeats 1000000 in
theorem stands_text (A : Option Addr) (l : List UInt8) (n c wd P : Nat) (N : Int) (S : ByteArray) (w : World) (h : IsBB w w.heap.size A n c l) (q1 : ((wd : Int) == 1) = false) (q2 : ((wd : Int) == 2) = false) (q4 : ((wd : Int) == 4) = false) (q8 : ((wd : Int) == 8) = false) :
    Calls Try.prog 30 #[.agg #[.int .u8 wd, .int .u64 N, .string S], .slice A n c, .int .i64 P] w fun e w' =>
      e = .returned (.tuple #[.bool (txtHas l n P), .bool (txt l n P == S.data.toList), .int .i64 (txtTo l n P)]) ∧ Below w.heap.size w w' := by
  have b0 : Below w.heap.size w (w.alloc (Obj.cells #[.int .u8 wd, .int .u64 N, .string S] 56)) := (Below.refl _ _).alloc (Nat.le_refl _) _
  have h1 := h.on b0
  go_enter Try.func30, Try.ntmps30
  go_wp2_with (go_at_call 13; refine (Text_any _ _ _ _ _ _ h1.toIsB).mono ?_; rintro e w' ⟨rfl, rfl⟩)
  go_quiet (fail)
  go_wp2
  go_ret3
  exact ⟨ret3_eq (by rw [← ByteArray.toList_eq]) rfl, below_drewN b0 _⟩

/-- Whether one like the thing stands there, whether it is that one, where it ends. -/
def okT (wd : Nat) (l : List UInt8) (n P : Nat) : Bool := if wd = 1 then has 1 n P else if wd = 2 then has 2 n P else if wd = 4 then has 4 n P else if wd = 8 then has 8 n P else txtHas l n P
def sameT (wd N : Nat) (S : ByteArray) (l : List UInt8) (n P : Nat) : Bool :=
  if wd = 1 then num 1 l P == ((N % 256 : Nat) : Int) else if wd = 2 then num 2 l P == ((N % 65536 : Nat) : Int) else if wd = 4 then num 4 l P == ((N % 4294967296 : Nat) : Int) else if wd = 8 then num 8 l P == (N : Int) else txt l n P == S.data.toList
def toT (wd : Nat) (l : List UInt8) (n P : Nat) : Int := if wd = 1 then ((P + 1 : Nat) : Int) else if wd = 2 then ((P + 2 : Nat) : Int) else if wd = 4 then ((P + 4 : Nat) : Int) else if wd = 8 then ((P + 8 : Nat) : Int) else txtTo l n P
theorem stands_any (A : Option Addr) (l : List UInt8) (n c wd N P : Nat) (S : ByteArray) (w : World) (h : IsBB w w.heap.size A n c l) (hP : P ≤ 1000000) :
    Calls Try.prog 30 #[.agg #[.int .u8 wd, .int .u64 N, .string S], .slice A n c, .int .i64 P] w fun e w' =>
      e = .returned (.tuple #[.bool (okT wd l n P), .bool (sameT wd N S l n P), .int .i64 (toT wd l n P)]) ∧ Below w.heap.size w w' := by
  unfold okT sameT toT
  by_cases h1 : wd = 1
  · subst h1; exact stands_1 A l n c N P S w h hP
  · by_cases h2 : wd = 2
    · subst h2; exact stands_2 A l n c N P S w h hP
    · by_cases h4 : wd = 4
      · subst h4; exact stands_4 A l n c N P S w h hP
      · by_cases h8 : wd = 8
        · subst h8; exact stands_8 A l n c N P S w h hP
        · rw [if_neg h1, if_neg h2, if_neg h4, if_neg h8, if_neg h1, if_neg h2, if_neg h4, if_neg h8, if_neg h1, if_neg h2, if_neg h4, if_neg h8]
          have f : ∀ k : Nat, wd ≠ k → ((wd : Int) == (k : Int)) = false := fun k hk => by rw [beq_eq_false_iff_ne]; omega
          exact stands_text A l n c wd P N S w h (f 1 h1) (f 2 h2) (f 4 h4) (f 8 h8)

theorem has_of {k n P : Nat} : has k n (P : Int) = decide (P + k ≤ n) := by
  unfold has
  congr 1
  simp only [eq_iff_iff]
  omega
theorem num_at (k N : Nat) (p q : List UInt8) : num k (p ++ bytesN k N ++ q) (p.length : Int) = ((N % 256 ^ k : Nat) : Int) := by
  rw [num_yes (by simp [length_bytesN])]
  have e : ((p ++ bytesN k N ++ q).drop p.length).take k = bytesN k N := by
    rw [List.append_assoc, List.drop_left, List.take_left' (length_bytesN k N)]
  rw [e, beN_bytesN]
theorem txt_at (S : ByteArray) (p q : List UInt8) (n : Nat) (hS : S.size ≤ 60) (hn : n = (p ++ (bytesN 2 S.size ++ S.data.toList) ++ q).length) :
    txtHas (p ++ (bytesN 2 S.size ++ S.data.toList) ++ q) n (p.length : Int) = true ∧ txt (p ++ (bytesN 2 S.size ++ S.data.toList) ++ q) n (p.length : Int) = S.data.toList ∧ txtTo (p ++ (bytesN 2 S.size ++ S.data.toList) ++ q) n (p.length : Int) = ((p.length + (2 + S.size) : Nat) : Int) := by
  have hl : n = p.length + (2 + S.size) + q.length := by
    rw [hn, List.length_append, List.length_append, List.length_append, length_bytesN, Array.length_toList]; rfl
  have e2 : num 2 (p ++ (bytesN 2 S.size ++ S.data.toList) ++ q) (p.length : Int) = (S.size : Int) := by
    have := num_at 2 S.size p (S.data.toList ++ q)
    rw [Nat.mod_eq_of_lt (by omega)] at this
    rw [← this]
    congr 1
    simp
  have h2 : txtHas (p ++ (bytesN 2 S.size ++ S.data.toList) ++ q) n (p.length : Int) = true := by
    unfold txtHas
    rw [e2, has_of]
    simp
    omega
  refine ⟨h2, ?_, ?_⟩
  · unfold txt
    rw [if_pos h2, e2]
    have e3 : (p ++ (bytesN 2 S.size ++ S.data.toList) ++ q).drop ((p.length : Int).toNat + 2) = S.data.toList ++ q := by
      have : (p.length : Int).toNat + 2 = (p ++ bytesN 2 S.size).length := by simp [length_bytesN]
      rw [this]
      have e4 : p ++ (bytesN 2 S.size ++ S.data.toList) ++ q = (p ++ bytesN 2 S.size) ++ (S.data.toList ++ q) := by simp
      rw [e4, List.drop_left]
    rw [e3]
    exact List.take_left' (by rw [Array.length_toList]; rfl)
  · unfold txtTo
    rw [if_pos h2, e2]
    omega
theorem yes_num (k N n : Nat) (p q : List UInt8) (hn : n = (p ++ bytesN k N ++ q).length) :
    has k n (p.length : Int) = true ∧ (num k (p ++ bytesN k N ++ q) (p.length : Int) == ((N % 256 ^ k : Nat) : Int)) = true := by
  rw [List.length_append, List.length_append, length_bytesN] at hn
  refine ⟨?_, ?_⟩
  · rw [has_of, decide_eq_true_iff]; omega
  · rw [num_at]; simp
theorem encT_text {wd N : Nat} {S : ByteArray} (h1 : wd ≠ 1) (h2 : wd ≠ 2) (h4 : wd ≠ 4) (h8 : wd ≠ 8) : encT wd N S = bytesN 2 S.size ++ S.data.toList := by
  unfold encT; rw [if_neg h1, if_neg h2, if_neg h4, if_neg h8]
theorem lenT_text {wd : Nat} {S : ByteArray} (h1 : wd ≠ 1) (h2 : wd ≠ 2) (h4 : wd ≠ 4) (h8 : wd ≠ 8) : lenT wd S = 2 + S.size := by
  unfold lenT; rw [if_neg h1, if_neg h2, if_neg h4, if_neg h8]
theorem okT_text {wd n P : Nat} {l : List UInt8} (h1 : wd ≠ 1) (h2 : wd ≠ 2) (h4 : wd ≠ 4) (h8 : wd ≠ 8) : okT wd l n P = txtHas l n P := by
  unfold okT; rw [if_neg h1, if_neg h2, if_neg h4, if_neg h8]
theorem sameT_text {wd N n P : Nat} {S : ByteArray} {l : List UInt8} (h1 : wd ≠ 1) (h2 : wd ≠ 2) (h4 : wd ≠ 4) (h8 : wd ≠ 8) : sameT wd N S l n P = (txt l n P == S.data.toList) := by
  unfold sameT; rw [if_neg h1, if_neg h2, if_neg h4, if_neg h8]
theorem toT_text {wd n P : Nat} {l : List UInt8} (h1 : wd ≠ 1) (h2 : wd ≠ 2) (h4 : wd ≠ 4) (h8 : wd ≠ 8) : toT wd l n P = txtTo l n P := by
  unfold toT; rw [if_neg h1, if_neg h2, if_neg h4, if_neg h8]
theorem stands_yes (wd N : Nat) (S : ByteArray) (p q : List UInt8) (n : Nat) (hN : N < 18446744073709551616) (hS : S.size ≤ 60) (hn : n = (p ++ encT wd N S ++ q).length) :
    okT wd (p ++ encT wd N S ++ q) n p.length = true ∧ sameT wd N S (p ++ encT wd N S ++ q) n p.length = true ∧ toT wd (p ++ encT wd N S ++ q) n p.length = ((p.length + lenT wd S : Nat) : Int) := by
  by_cases h1 : wd = 1
  · subst h1
    have := yes_num 1 N n p q hn
    exact ⟨this.1, this.2, rfl⟩
  · by_cases h2 : wd = 2
    · subst h2
      have := yes_num 2 N n p q hn
      exact ⟨this.1, this.2, rfl⟩
    · by_cases h4 : wd = 4
      · subst h4
        have := yes_num 4 N n p q hn
        exact ⟨this.1, this.2, rfl⟩
      · by_cases h8 : wd = 8
        · subst h8
          have := yes_num 8 N n p q hn
          rw [Nat.mod_eq_of_lt (show N < 256 ^ 8 from hN)] at this
          exact ⟨this.1, this.2, rfl⟩
        · rw [encT_text h1 h2 h4 h8] at hn ⊢
          obtain ⟨a, b, c⟩ := txt_at S p q n hS hn
          rw [okT_text h1 h2 h4 h8, sameT_text h1 h2 h4 h8, toT_text h1 h2 h4 h8, lenT_text h1 h2 h4 h8]
          exact ⟨a, by rw [b]; simp, c⟩
/-- Of a thing that is cut nothing stands. -/
theorem stands_no (wd N : Nat) (S : ByteArray) (p q : List UInt8) (n : Nat) (hS : S.size ≤ 60) (h2 : n < p.length + lenT wd S) :
    okT wd ((p ++ encT wd N S ++ q).take n) n p.length = false := by
  have hno : ∀ k : Nat, n < p.length + k → has k n (p.length : Int) = false := fun k hk => by rw [has_of, decide_eq_false_iff_not]; omega
  by_cases e1 : wd = 1
  · subst e1; exact hno 1 h2
  · by_cases e2 : wd = 2
    · subst e2; exact hno 2 h2
    · by_cases e4 : wd = 4
      · subst e4; exact hno 4 h2
      · by_cases e8 : wd = 8
        · subst e8; exact hno 8 h2
        · rw [okT_text e1 e2 e4 e8, encT_text e1 e2 e4 e8]
          rw [lenT_text e1 e2 e4 e8] at h2
          by_cases hp : n < p.length + 2
          · unfold txtHas; rw [hno 2 hp]; rfl
          · have hf : (p ++ (bytesN 2 S.size ++ S.data.toList) ++ q).take n = p ++ bytesN 2 S.size ++ (S.data.toList ++ q).take (n - (p.length + 2)) := by
              have e : p ++ (bytesN 2 S.size ++ S.data.toList) ++ q = (p ++ bytesN 2 S.size) ++ (S.data.toList ++ q) := by simp
              have hl : (p ++ bytesN 2 S.size).length = p.length + 2 := by simp [length_bytesN]
              rw [e, List.take_append, hl, List.take_of_length_le (by omega)]
            rw [hf]
            unfold txtHas
            rw [num_at, Nat.mod_eq_of_lt (by omega)]
            have : decide ((p.length : Int) + 2 + ((S.size : Nat) : Int) ≤ (n : Int)) = false := by rw [decide_eq_false_iff_not]; omega
            rw [this, Bool.and_false]
end Go.Proofs.Ytdaekdfogcgdfaa
