/-
  SHA-1 as plain functions on numbers and lists of bytes: words, rounds, blocks, padding.
-/
import Derived.KernelRfl
namespace Go.Proofs.Ytfohmanojdibcaa

/-- x turned to the left by n. -/
def rot (n x : Nat) : Nat := x * 2 ^ n % 4294967296 + x / 2 ^ (32 - n)
def fN (t b c d : Nat) : Nat :=
  if t < 20 then (b &&& c) ||| ((4294967295 ^^^ b) &&& d)
  else if t < 40 then b ^^^ c ^^^ d
  else if t < 60 then ((b &&& c) ||| (b &&& d)) ||| (c &&& d)
  else b ^^^ c ^^^ d
def kN (t : Nat) : Nat := if t < 20 then 1518500249 else if t < 40 then 1859775393 else if t < 60 then 2400959708 else 3395469782
def be4 (a b c d : Nat) : Nat := ((a * 256 + b) * 256 + c) * 256 + d
def w0 (l : List UInt8) (t : Nat) : Nat := be4 (l.getD (4 * t) 0).toNat (l.getD (4 * t + 1) 0).toNat (l.getD (4 * t + 2) 0).toNat (l.getD (4 * t + 3) 0).toNat
def nextW (l : List UInt8) (ws : List Nat) (t : Nat) : Nat :=
  if t < 16 then w0 l t else rot 1 (ws.getD (t - 3) 0 ^^^ ws.getD (t - 8) 0 ^^^ ws.getD (t - 14) 0 ^^^ ws.getD (t - 16) 0)
/-- The first words of a block. -/
def sched (l : List UInt8) : Nat → List Nat
  | 0 => []
  | t + 1 => sched l t ++ [nextW l (sched l t) t]
def wd (l : List UInt8) (t : Nat) : Nat := nextW l (sched l t) t

structure St where
  a : Nat
  b : Nat
  c : Nat
  d : Nat
  e : Nat

def sumT (x f e k w : Nat) : Nat := (((x + f) % 4294967296 + e) % 4294967296 + k) % 4294967296 + w
def rnd (l : List UInt8) (s : St) (t : Nat) : St :=
  ⟨sumT (rot 5 s.a) (fN t s.b s.c s.d) s.e (kN t) (wd l t) % 4294967296, s.a, rot 30 s.b, s.c, s.d⟩
def rnds (l : List UInt8) (h : St) : Nat → St
  | 0 => h
  | t + 1 => rnd l (rnds l h t) t
def add2 (h s : St) : St := ⟨(h.a + s.a) % 4294967296, (h.b + s.b) % 4294967296, (h.c + s.c) % 4294967296, (h.d + s.d) % 4294967296, (h.e + s.e) % 4294967296⟩
def uponS (l : List UInt8) (h : St) : St := add2 h (rnds l h 80)
def st0 : St := ⟨1732584193, 4023233417, 2562383102, 271733878, 3285377520⟩
def blk (l : List UInt8) (k : Nat) : List UInt8 := (l.drop (64 * k)).take 64
/-- The numbers behind the first k blocks. -/
def absN (l : List UInt8) : Nat → St
  | 0 => st0
  | k + 1 => uponS (blk l k) (absN l k)
/-- The n bytes of a number (of what it is modulo 256 to the power of n). -/
def bytesN : Nat → Nat → List UInt8
  | 0, _ => []
  | n + 1, v => bytesN n (v / 256) ++ [UInt8.ofNat (v % 256)]
def be8 (n : Nat) : List UInt8 := bytesN 8 n
def noughts (n : Nat) : Nat := (64 - (n + 9) % 64) % 64
def pad (n : Nat) : List UInt8 := 128 :: (List.replicate (noughts n) 0 ++ be8 (8 * n))
def padded (l : List UInt8) : List UInt8 := l ++ pad l.length
def sumS (l : List UInt8) : St := absN (padded l) ((padded l).length / 64)
def nth (s : St) (i : Nat) : Nat := if i = 0 then s.a else if i = 1 then s.b else if i = 2 then s.c else if i = 3 then s.d else s.e
def outB (s : St) (i : Nat) : UInt8 := UInt8.ofNat (nth s (i / 4) / 2 ^ (24 - i % 4 * 8))
def sha (l : List UInt8) : List UInt8 := (List.range 20).map (outB (sumS l))

theorem t0 : sha [] = [0xda, 0x39, 0xa3, 0xee, 0x5e, 0x6b, 0x4b, 0x0d, 0x32, 0x55, 0xbf, 0xef, 0x95, 0x60, 0x18, 0x90, 0xaf, 0xd8, 0x07, 0x09] := by kernel_rfl

theorem length_bytesN : ∀ (n v : Nat), (bytesN n v).length = n
  | 0, _ => rfl
  | n + 1, v => by simp [bytesN, length_bytesN n]
theorem bytesN_cons : ∀ (k v : Nat), bytesN (k + 1) v = UInt8.ofNat (v / 256 ^ k % 256) :: bytesN k v
  | 0, v => by simp [bytesN]
  | k + 1, v => by
    rw [bytesN, bytesN_cons k (v / 256)]
    have e : v / 256 / 256 ^ k = v / 256 ^ (k + 1) := by rw [Nat.div_div_eq_div_mul, Nat.pow_succ']
    rw [e, List.cons_append]
    rfl
theorem sched_len (l : List UInt8) : ∀ n, (sched l n).length = n
  | 0 => rfl
  | n + 1 => by simp [sched, sched_len l n]
theorem sched_getD (l : List UInt8) (j : Nat) : ∀ n, j < n → (sched l n).getD j 0 = wd l j
  | 0, h => by omega
  | n + 1, h => by
    by_cases e : j = n
    · subst e
      simp [sched, List.getD, List.getElem?_append_right, sched_len, wd]
    · have ih := sched_getD l j n (by omega)
      rw [← ih]
      simp only [sched, List.getD]
      rw [List.getElem?_append_left (by rw [sched_len]; omega)]
theorem wd_low (l : List UInt8) (t : Nat) (h : t < 16) : wd l t = w0 l t := by
  unfold wd nextW; rw [if_pos h]
theorem wd_high (l : List UInt8) (t : Nat) (h : 16 ≤ t) : wd l t = rot 1 (wd l (t - 3) ^^^ wd l (t - 8) ^^^ wd l (t - 14) ^^^ wd l (t - 16)) := by
  have e : wd l t = nextW l (sched l t) t := rfl
  rw [e]
  unfold nextW
  rw [if_neg (by omega), sched_getD l _ t (by omega), sched_getD l _ t (by omega), sched_getD l _ t (by omega), sched_getD l _ t (by omega)]
theorem be4_lt (a b c d : Nat) (ha : a < 256) (hb : b < 256) (hc : c < 256) (hd : d < 256) : be4 a b c d < 4294967296 := by unfold be4; omega
theorem w0_lt (l : List UInt8) (t : Nat) : w0 l t < 4294967296 := be4_lt _ _ _ _ (UInt8.toNat_lt _) (UInt8.toNat_lt _) (UInt8.toNat_lt _) (UInt8.toNat_lt _)
theorem xorlt (a b : Nat) (ha : a < 4294967296) (hb : b < 4294967296) : a ^^^ b < 4294967296 := Nat.xor_lt_two_pow (n := 32) ha hb
theorem orlt (a b : Nat) (ha : a < 4294967296) (hb : b < 4294967296) : a ||| b < 4294967296 := Nat.or_lt_two_pow (n := 32) ha hb
theorem andlt (a b : Nat) (ha : a < 4294967296) : a &&& b < 4294967296 := Nat.lt_of_le_of_lt Nat.and_le_left ha
theorem rot1lt (x : Nat) (hx : x < 4294967296) : rot 1 x < 4294967296 := by
  show x * 2 % 4294967296 + x / 2147483648 < 4294967296
  omega
theorem rot30lt (x : Nat) (hx : x < 4294967296) : rot 30 x < 4294967296 := by
  show x * 1073741824 % 4294967296 + x / 4 < 4294967296
  omega
theorem rot5lt (x : Nat) (hx : x < 4294967296) : rot 5 x < 4294967296 := by
  show x * 32 % 4294967296 + x / 134217728 < 4294967296
  omega
theorem wd_lt (l : List UInt8) (t : Nat) : wd l t < 4294967296 := by
  induction t using Nat.strongRecOn with
  | ind t ih =>
    by_cases h : t < 16
    · rw [wd_low l t h]; exact w0_lt l t
    · rw [wd_high l t (by omega)]
      exact rot1lt _ (xorlt _ _ (xorlt _ _ (xorlt _ _ (ih _ (by omega)) (ih _ (by omega))) (ih _ (by omega))) (ih _ (by omega)))
structure St.ok (s : St) : Prop where
  a : s.a < 4294967296
  b : s.b < 4294967296
  c : s.c < 4294967296
  d : s.d < 4294967296
  e : s.e < 4294967296
theorem fN_lt (t b c d : Nat) (hb : b < 4294967296) (hc : c < 4294967296) (hd : d < 4294967296) : fN t b c d < 4294967296 := by
  unfold fN
  split
  · exact orlt _ _ (andlt _ _ hb) (andlt _ _ (xorlt _ _ (by omega) hb))
  · split
    · exact xorlt _ _ (xorlt _ _ hb hc) hd
    · split
      · exact orlt _ _ (orlt _ _ (andlt _ _ hb) (andlt _ _ hb)) (andlt _ _ hc)
      · exact xorlt _ _ (xorlt _ _ hb hc) hd
theorem kN_lt (t : Nat) : kN t < 4294967296 := by
  unfold kN
  split
  · omega
  · split
    · omega
    · split <;> omega
theorem rnd_ok (l : List UInt8) (s : St) (t : Nat) (h : s.ok) : (rnd l s t).ok :=
  ⟨Nat.mod_lt _ (by omega), h.a, rot30lt _ h.b, h.c, h.d⟩
theorem rnds_ok (l : List UInt8) (h : St) (hh : h.ok) : ∀ n, (rnds l h n).ok
  | 0 => hh
  | n + 1 => rnd_ok l _ n (rnds_ok l h hh n)
theorem uponS_ok (l : List UInt8) (h : St) : (uponS l h).ok :=
  ⟨Nat.mod_lt _ (by omega), Nat.mod_lt _ (by omega), Nat.mod_lt _ (by omega), Nat.mod_lt _ (by omega), Nat.mod_lt _ (by omega)⟩
theorem st0_ok : st0.ok := ⟨by show 1732584193 < 4294967296; omega, by show 4023233417 < 4294967296; omega, by show 2562383102 < 4294967296; omega, by show 271733878 < 4294967296; omega, by show 3285377520 < 4294967296; omega⟩
theorem absN_ok (l : List UInt8) : ∀ n, (absN l n).ok
  | 0 => st0_ok
  | n + 1 => uponS_ok _ _
theorem blk_prefix (l x : List UInt8) (k : Nat) (h : 64 * (k + 1) ≤ l.length) : blk (l ++ x) k = blk l k := by
  unfold blk
  rw [List.drop_append_of_le_length (by omega), List.take_append_of_le_length (by rw [List.length_drop]; omega)]
theorem absN_prefix (l x : List UInt8) : ∀ k, 64 * k ≤ l.length → absN (l ++ x) k = absN l k
  | 0, _ => rfl
  | k + 1, h => by
    show uponS (blk (l ++ x) k) (absN (l ++ x) k) = uponS (blk l k) (absN l k)
    rw [blk_prefix l x k h, absN_prefix l x k (by omega)]
/-- Bytes that don't fill the block. -/
theorem dig_part (l x b : List UInt8) (hb : b.length = 64) (ht : b.take (l.length % 64) = l.drop (64 * (l.length / 64))) (h : l.length % 64 + x.length < 64) :
    absN (l ++ x) ((l ++ x).length / 64) = absN l (l.length / 64) ∧
    (b.take (l.length % 64) ++ (x ++ b.drop (l.length % 64 + x.length))).take ((l ++ x).length % 64) = (l ++ x).drop (64 * ((l ++ x).length / 64)) := by
  have e1 : (l ++ x).length / 64 = l.length / 64 := by rw [List.length_append]; omega
  have e2 : (l ++ x).length % 64 = l.length % 64 + x.length := by rw [List.length_append]; omega
  rw [e1, e2]
  refine ⟨absN_prefix l x _ (by omega), ?_⟩
  rw [List.drop_append_of_le_length (by omega), ← ht, ← List.append_assoc, List.take_append_of_le_length (by simp [hb]; omega), List.take_of_length_le (by simp [hb]; omega)]
/-- Bytes that fill the block. -/
theorem dig_full (l x b : List UInt8) (hb : b.length = 64) (ht : b.take (l.length % 64) = l.drop (64 * (l.length / 64))) (h : l.length % 64 + x.length = 64) :
    absN (l ++ x) ((l ++ x).length / 64) = uponS (b.take (l.length % 64) ++ (x ++ b.drop (l.length % 64 + x.length))) (absN l (l.length / 64)) ∧
    (b.take (l.length % 64) ++ (x ++ b.drop (l.length % 64 + x.length))).take ((l ++ x).length % 64) = (l ++ x).drop (64 * ((l ++ x).length / 64)) := by
  have e1 : (l ++ x).length / 64 = l.length / 64 + 1 := by rw [List.length_append]; omega
  have e2 : (l ++ x).length % 64 = 0 := by rw [List.length_append]; omega
  rw [e1, e2]
  constructor
  · show uponS (blk (l ++ x) (l.length / 64)) (absN (l ++ x) (l.length / 64)) = _
    rw [absN_prefix l x _ (by omega), h, List.drop_of_length_le (by omega), List.append_nil, ht]
    congr 1
    unfold blk
    rw [List.drop_append_of_le_length (by omega), List.take_of_length_le (by rw [List.length_append, List.length_drop]; omega)]
  · rw [List.take_zero, List.drop_of_length_le (by rw [List.length_append]; omega)]
theorem full_len (l x b : List UInt8) (hb : b.length = 64) (h : l.length % 64 + x.length ≤ 64) : (b.take (l.length % 64) ++ (x ++ b.drop (l.length % 64 + x.length))).length = 64 := by
  simp [hb]; omega
end Go.Proofs.Ytfohmanojdibcaa
