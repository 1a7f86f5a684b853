/-
  Merged: DNum DStep DMul DRoot DBlk DSieve.
-/
import Derived.Test.YtpeepohiajmhcaaProg
import Derived.Test.YtpeepohiajmhcaaZa
import Derived.KernelRfl
import Derived.WalkKit
import Derived.WalkSpells
import Derived.WalkLawsBesides
import Derived.Laws.BitsAllLaws
import Derived.Lib.Mul64
import Derived.Laws.Bits64b
import Derived.Shelf.Abstract
import Derived.RegionTactic
import Derived.BigRegion
import Derived.Deep.QuietTactic
import Derived.BigQuiet
import Derived.Deep.RegionWith
import Derived.Deep.MidRow
import Derived.Deep.RegionHeld3
/-
  SHA-256 as plain functions on numbers and lists of bytes: the numbers K and H (prime by prime), words, rounds, blocks, padding.
-/
namespace Go.Proofs.Ytpeepohiajmhcaa.d

/-- x turned to the right by n. -/
def rr (n x : Nat) : Nat := x * 2 ^ (32 - n) % 4294967296 + x / 2 ^ n
def sq (root p : Nat) : Bool := decide (root * root / 18446744073709551616 < p)
def cu (root p : Nat) : Bool := decide ((root * root / 18446744073709551616 * root + root * root % 18446744073709551616 * root / 18446744073709551616) % 18446744073709551616 < p * 4294967296 % 18446744073709551616)
/-- The root after i bits. -/
def rootN (fits : Nat → Nat → Bool) (p : Nat) : Nat → Nat
  | 0 => 0
  | i + 1 => if fits (rootN fits p i + 2 ^ (34 - i)) p = true then rootN fits p i + 2 ^ (34 - i) else rootN fits p i
def behind (fits : Nat → Nat → Bool) (p : Nat) : Nat := rootN fits p 35 % 4294967296
/-- The first j multiples of p marked. -/
def mark (l : List Bool) (p : Nat) : Nat → List Bool
  | 0 => l
  | j + 1 => (mark l p j).set (j * p) true
structure Sv where
  prod : List Bool
  found : Nat
  h : List Nat
  k : List Nat
/-- What the sieve has behind the first p numbers. -/
def stepS (s : Sv) (p : Nat) : Sv :=
  if (decide (p < 2) || s.prod.getD p false) = true then s
  else ⟨mark s.prod p (311 / p + 1), s.found + 1, if s.found < 8 then s.h.set s.found (behind sq p) else s.h, s.k.set s.found (behind cu p)⟩
def sieve : Nat → Sv
  | 0 => ⟨List.replicate 312 false, 0, List.replicate 8 0, List.replicate 64 0⟩
  | p + 1 => stepS (sieve p) p
def kL : List Nat := [1116352408, 1899447441, 3049323471, 3921009573, 961987163, 1508970993, 2453635748, 2870763221, 3624381080, 310598401, 607225278, 1426881987, 1925078388, 2162078206, 2614888103, 3248222580, 3835390401, 4022224774, 264347078, 604807628, 770255983, 1249150122, 1555081692, 1996064986, 2554220882, 2821834349, 2952996808, 3210313671, 3336571891, 3584528711, 113926993, 338241895, 666307205, 773529912, 1294757372, 1396182291, 1695183700, 1986661051, 2177026350, 2456956037, 2730485921, 2820302411, 3259730800, 3345764771, 3516065817, 3600352804, 4094571909, 275423344, 430227734, 506948616, 659060556, 883997877, 958139571, 1322822218, 1537002063, 1747873779, 1955562222, 2024104815, 2227730452, 2361852424, 2428436474, 2756734187, 3204031479, 3329325298]
def hL : List Nat := [1779033703, 3144134277, 1013904242, 2773480762, 1359893119, 2600822924, 528734635, 1541459225]
theorem sieve_end : (sieve 312).h = hL ∧ (sieve 312).k = kL := by constructor <;> kernel_rfl
theorem found_mono (p : Nat) : (sieve p).found ≤ (sieve (p + 1)).found := by
  show _ ≤ (stepS (sieve p) p).found
  unfold stepS
  split
  · exact Nat.le_refl _
  · exact Nat.le_succ _
theorem found_le' : ∀ d p, p + d = 312 → (sieve p).found ≤ 64
  | 0, p, h => by
    have e : p = 312 := by omega
    subst e
    have : (sieve 312).found = 64 := by kernel_rfl
    omega
  | d + 1, p, h => Nat.le_trans (found_mono p) (found_le' d (p + 1) (by omega))
theorem found_le (p : Nat) (h : p ≤ 312) : (sieve p).found ≤ 64 := found_le' (312 - p) p (by omega)
theorem mark_len (l : List Bool) (p : Nat) : ∀ j, (mark l p j).length = l.length
  | 0 => rfl
  | j + 1 => by simp [mark, mark_len l p j]
theorem sieve_len : ∀ p, (sieve p).prod.length = 312 ∧ (sieve p).h.length = 8 ∧ (sieve p).k.length = 64
  | 0 => ⟨List.length_replicate, List.length_replicate, List.length_replicate⟩
  | p + 1 => by
    have ih := sieve_len p
    show (stepS (sieve p) p).prod.length = 312 ∧ (stepS (sieve p) p).h.length = 8 ∧ (stepS (sieve p) p).k.length = 64
    unfold stepS
    split
    · exact ih
    · refine ⟨by rw [mark_len]; exact ih.1, ?_, by simp [ih.2.2]⟩
      show (if _ then _ else _ : List Nat).length = 8
      split
      · simp [ih.2.1]
      · exact ih.2.1
theorem behind_lt (f : Nat → Nat → Bool) (p : Nat) : behind f p < 4294967296 := Nat.mod_lt _ (by omega)
theorem sieve_skip (p : Nat) (h : (decide (p < 2) || (sieve p).prod.getD p false) = true) : sieve (p + 1) = sieve p := by
  show stepS (sieve p) p = sieve p
  unfold stepS
  rw [if_pos h]
theorem sieve_take (p : Nat) (h : (decide (p < 2) || (sieve p).prod.getD p false) = false) :
    sieve (p + 1) = ⟨mark (sieve p).prod p (311 / p + 1), (sieve p).found + 1, if (sieve p).found < 8 then (sieve p).h.set (sieve p).found (behind sq p) else (sieve p).h, (sieve p).k.set (sieve p).found (behind cu p)⟩ := by
  show stepS (sieve p) p = _
  unfold stepS
  rw [h, if_neg (by decide)]
theorem root_lt (f : Nat → Nat → Bool) (p : Nat) : ∀ i, i ≤ 35 → ∃ q, rootN f p i = q * 2 ^ (35 - i) ∧ q < 2 ^ i
  | 0, _ => ⟨0, by simp [rootN], by omega⟩
  | i + 1, h => by
    obtain ⟨q, e, hq⟩ := root_lt f p i (by omega)
    have e2 : (2 : Nat) ^ (35 - i) = 2 * 2 ^ (34 - i) := by rw [show 35 - i = (34 - i) + 1 by omega, Nat.pow_succ']
    have e3 : 35 - (i + 1) = 34 - i := by omega
    have e4 : (2 : Nat) ^ (i + 1) = 2 * 2 ^ i := Nat.pow_succ'
    unfold rootN
    rw [e3, e4, e, e2]
    by_cases c : f (q * (2 * 2 ^ (34 - i)) + 2 ^ (34 - i)) p = true
    · rw [if_pos c]
      refine ⟨2 * q + 1, ?_, by omega⟩
      rw [Nat.add_mul, Nat.one_mul, ← Nat.mul_assoc, Nat.mul_comm q 2]
    · rw [if_neg c]
      exact ⟨2 * q, by rw [← Nat.mul_assoc, Nat.mul_comm q 2], by omega⟩

/-- One word of 4 bytes. -/
def be4 (a b c d : Nat) : Nat := ((a * 256 + b) * 256 + c) * 256 + d
def w0 (l : List UInt8) (t : Nat) : Nat := be4 (l.getD (4 * t) 0).toNat (l.getD (4 * t + 1) 0).toNat (l.getD (4 * t + 2) 0).toNat (l.getD (4 * t + 3) 0).toNat
def sg0 (x : Nat) : Nat := rr 7 x ^^^ rr 18 x ^^^ x / 8
def sg1 (x : Nat) : Nat := rr 17 x ^^^ rr 19 x ^^^ x / 1024
def bs0 (x : Nat) : Nat := rr 2 x ^^^ rr 13 x ^^^ rr 22 x
def bs1 (x : Nat) : Nat := rr 6 x ^^^ rr 11 x ^^^ rr 25 x
def nextW (l : List UInt8) (ws : List Nat) (t : Nat) : Nat :=
  if t < 16 then w0 l t else (((sg1 (ws.getD (t - 2) 0) + ws.getD (t - 7) 0) % 4294967296 + sg0 (ws.getD (t - 15) 0)) % 4294967296 + ws.getD (t - 16) 0) % 4294967296
/-- The first words of a block. -/
def sched (l : List UInt8) : Nat → List Nat
  | 0 => []
  | t + 1 => sched l t ++ [nextW l (sched l t) t]
def wd (l : List UInt8) (t : Nat) : Nat := nextW l (sched l t) t

structure St where
  a : Nat
  b : Nat
  c : Nat
  d : Nat
  e : Nat
  f : Nat
  g : Nat
  h : Nat

def chN (e f g : Nat) : Nat := (e &&& f) ^^^ ((4294967295 ^^^ e) &&& g)
def maN (a b c : Nat) : Nat := ((a &&& b) ^^^ (a &&& c)) ^^^ (b &&& c)
def kN (t : Nat) : Nat := kL.getD t 0
def t1 (l : List UInt8) (s : St) (t : Nat) : Nat := ((((s.h + bs1 s.e) % 4294967296 + chN s.e s.f s.g) % 4294967296 + kN t) % 4294967296 + wd l t) % 4294967296
def t2 (s : St) : Nat := (bs0 s.a + maN s.a s.b s.c) % 4294967296
def rnd (l : List UInt8) (s : St) (t : Nat) : St := ⟨(t1 l s t + t2 s) % 4294967296, s.a, s.b, s.c, (s.d + t1 l s t) % 4294967296, s.e, s.f, s.g⟩
def rnds (l : List UInt8) (h : St) : Nat → St
  | 0 => h
  | t + 1 => rnd l (rnds l h t) t
def St.list (s : St) : List Nat := [s.a, s.b, s.c, s.d, s.e, s.f, s.g, s.h]
def add2 (h s : St) : St := ⟨(h.a + s.a) % 4294967296, (h.b + s.b) % 4294967296, (h.c + s.c) % 4294967296, (h.d + s.d) % 4294967296, (h.e + s.e) % 4294967296, (h.f + s.f) % 4294967296, (h.g + s.g) % 4294967296, (h.h + s.h) % 4294967296⟩
def uponS (l : List UInt8) (h : St) : St := add2 h (rnds l h 64)
def st0 : St := ⟨1779033703, 3144134277, 1013904242, 2773480762, 1359893119, 2600822924, 528734635, 1541459225⟩
def blk (l : List UInt8) (k : Nat) : List UInt8 := (l.drop (64 * k)).take 64
/-- The numbers behind the first k blocks. -/
def absN (l : List UInt8) : Nat → St
  | 0 => st0
  | k + 1 => uponS (blk l k) (absN l k)
/-- The n bytes of a number (of what it is modulo 256 to the power of n). -/
def bytesN : Nat → Nat → List UInt8
  | 0, _ => []
  | n + 1, v => bytesN n (v / 256) ++ [UInt8.ofNat (v % 256)]
def be8 (n : Nat) : List UInt8 := bytesN 8 n
def noughts (n : Nat) : Nat := (64 - (n + 9) % 64) % 64
def pad (n : Nat) : List UInt8 := 128 :: (List.replicate (noughts n) 0 ++ be8 (8 * n))
def padded (l : List UInt8) : List UInt8 := l ++ pad l.length
def sumS (l : List UInt8) : St := absN (padded l) ((padded l).length / 64)
def nth (s : St) (i : Nat) : Nat := s.list.getD i 0
def outB (s : St) (i : Nat) : UInt8 := UInt8.ofNat (nth s (i / 4) / 2 ^ (24 - i % 4 * 8))
def sha (l : List UInt8) : List UInt8 := (List.range 32).map (outB (sumS l))

theorem sha_nil : sha [] = [0xe3, 0xb0, 0xc4, 0x42, 0x98, 0xfc, 0x1c, 0x14, 0x9a, 0xfb, 0xf4, 0xc8, 0x99, 0x6f, 0xb9, 0x24, 0x27, 0xae, 0x41, 0xe4, 0x64, 0x9b, 0x93, 0x4c, 0xa4, 0x95, 0x99, 0x1b, 0x78, 0x52, 0xb8, 0x55] := by kernel_rfl

theorem length_bytesN : ∀ (n v : Nat), (bytesN n v).length = n
  | 0, _ => rfl
  | n + 1, v => by simp [bytesN, length_bytesN n]
theorem bytesN_cons : ∀ (k v : Nat), bytesN (k + 1) v = UInt8.ofNat (v / 256 ^ k % 256) :: bytesN k v
  | 0, v => by simp [bytesN]
  | k + 1, v => by
    rw [bytesN, bytesN_cons k (v / 256)]
    have e : v / 256 / 256 ^ k = v / 256 ^ (k + 1) := by rw [Nat.div_div_eq_div_mul, Nat.pow_succ']
    rw [e, List.cons_append]
    rfl
theorem sched_len (l : List UInt8) : ∀ n, (sched l n).length = n
  | 0 => rfl
  | n + 1 => by simp [sched, sched_len l n]
theorem sched_getD (l : List UInt8) (j : Nat) : ∀ n, j < n → (sched l n).getD j 0 = wd l j
  | 0, h => by omega
  | n + 1, h => by
    by_cases e : j = n
    · subst e
      simp [sched, List.getD, sched_len, wd]
    · have ih := sched_getD l j n (by omega)
      rw [← ih]
      simp only [sched, List.getD]
      rw [List.getElem?_append_left (by rw [sched_len]; omega)]
theorem wd_low (l : List UInt8) (t : Nat) (h : t < 16) : wd l t = w0 l t := by
  unfold wd nextW; rw [if_pos h]
theorem wd_high (l : List UInt8) (t : Nat) (h : 16 ≤ t) : wd l t = (((sg1 (wd l (t - 2)) + wd l (t - 7)) % 4294967296 + sg0 (wd l (t - 15))) % 4294967296 + wd l (t - 16)) % 4294967296 := by
  have e : wd l t = nextW l (sched l t) t := rfl
  rw [e]
  unfold nextW
  rw [if_neg (by omega), sched_getD l _ t (by omega), sched_getD l _ t (by omega), sched_getD l _ t (by omega), sched_getD l _ t (by omega)]
theorem be4_lt (a b c d : Nat) (ha : a < 256) (hb : b < 256) (hc : c < 256) (hd : d < 256) : be4 a b c d < 4294967296 := by unfold be4; omega
theorem w0_lt (l : List UInt8) (t : Nat) : w0 l t < 4294967296 := be4_lt _ _ _ _ (UInt8.toNat_lt _) (UInt8.toNat_lt _) (UInt8.toNat_lt _) (UInt8.toNat_lt _)
theorem xorlt (a b : Nat) (ha : a < 4294967296) (hb : b < 4294967296) : a ^^^ b < 4294967296 := Nat.xor_lt_two_pow (n := 32) ha hb
theorem orlt (a b : Nat) (ha : a < 4294967296) (hb : b < 4294967296) : a ||| b < 4294967296 := Nat.or_lt_two_pow (n := 32) ha hb
theorem andlt (a b : Nat) (ha : a < 4294967296) : a &&& b < 4294967296 := Nat.lt_of_le_of_lt Nat.and_le_left ha
theorem rr7_lt (x : Nat) (hx : x < 4294967296) : rr 7 x < 4294967296 := by
  show x * 33554432 % 4294967296 + x / 128 < 4294967296
  omega
theorem rr18_lt (x : Nat) (hx : x < 4294967296) : rr 18 x < 4294967296 := by
  show x * 16384 % 4294967296 + x / 262144 < 4294967296
  omega
theorem rr17_lt (x : Nat) (hx : x < 4294967296) : rr 17 x < 4294967296 := by
  show x * 32768 % 4294967296 + x / 131072 < 4294967296
  omega
theorem rr19_lt (x : Nat) (hx : x < 4294967296) : rr 19 x < 4294967296 := by
  show x * 8192 % 4294967296 + x / 524288 < 4294967296
  omega
theorem rr2_lt (x : Nat) (hx : x < 4294967296) : rr 2 x < 4294967296 := by
  show x * 1073741824 % 4294967296 + x / 4 < 4294967296
  omega
theorem rr13_lt (x : Nat) (hx : x < 4294967296) : rr 13 x < 4294967296 := by
  show x * 524288 % 4294967296 + x / 8192 < 4294967296
  omega
theorem rr22_lt (x : Nat) (hx : x < 4294967296) : rr 22 x < 4294967296 := by
  show x * 1024 % 4294967296 + x / 4194304 < 4294967296
  omega
theorem rr6_lt (x : Nat) (hx : x < 4294967296) : rr 6 x < 4294967296 := by
  show x * 67108864 % 4294967296 + x / 64 < 4294967296
  omega
theorem rr11_lt (x : Nat) (hx : x < 4294967296) : rr 11 x < 4294967296 := by
  show x * 2097152 % 4294967296 + x / 2048 < 4294967296
  omega
theorem rr25_lt (x : Nat) (hx : x < 4294967296) : rr 25 x < 4294967296 := by
  show x * 128 % 4294967296 + x / 33554432 < 4294967296
  omega
theorem sg0_lt (x : Nat) (hx : x < 4294967296) : sg0 x < 4294967296 := xorlt _ _ (xorlt _ _ (rr7_lt x hx) (rr18_lt x hx)) (by omega)
theorem sg1_lt (x : Nat) (hx : x < 4294967296) : sg1 x < 4294967296 := xorlt _ _ (xorlt _ _ (rr17_lt x hx) (rr19_lt x hx)) (by omega)
theorem bs0_lt (x : Nat) (hx : x < 4294967296) : bs0 x < 4294967296 := xorlt _ _ (xorlt _ _ (rr2_lt x hx) (rr13_lt x hx)) (rr22_lt x hx)
theorem bs1_lt (x : Nat) (hx : x < 4294967296) : bs1 x < 4294967296 := xorlt _ _ (xorlt _ _ (rr6_lt x hx) (rr11_lt x hx)) (rr25_lt x hx)
theorem chN_lt (e f g : Nat) (he : e < 4294967296) (_hf : f < 4294967296) (_hg : g < 4294967296) : chN e f g < 4294967296 := xorlt _ _ (andlt _ _ he) (andlt _ _ (xorlt _ _ (by omega) he))
theorem maN_lt (a b c : Nat) (ha : a < 4294967296) (hb : b < 4294967296) : maN a b c < 4294967296 := xorlt _ _ (xorlt _ _ (andlt _ _ ha) (andlt _ _ ha)) (andlt _ _ hb)
theorem wd_lt (l : List UInt8) (t : Nat) : wd l t < 4294967296 := by
  by_cases h : t < 16
  · rw [wd_low l t h]; exact w0_lt l t
  · rw [wd_high l t (by omega)]; exact Nat.mod_lt _ (by omega)
theorem kL_all : kL.all (fun x => decide (x < 4294967296)) = true := by kernel_rfl
theorem kN_lt (t : Nat) : kN t < 4294967296 := by
  unfold kN
  by_cases h : t < kL.length
  · rw [List.getD_eq_getElem?_getD, List.getElem?_eq_getElem h]
    have := List.all_eq_true.1 kL_all _ (List.getElem_mem h)
    simpa using this
  · rw [List.getD_eq_getElem?_getD, List.getElem?_eq_none (by omega)]
    decide
structure St.ok (s : St) : Prop where
  a : s.a < 4294967296
  b : s.b < 4294967296
  c : s.c < 4294967296
  d : s.d < 4294967296
  e : s.e < 4294967296
  f : s.f < 4294967296
  g : s.g < 4294967296
  h : s.h < 4294967296
theorem rnd_ok (l : List UInt8) (s : St) (t : Nat) (h : s.ok) : (rnd l s t).ok :=
  ⟨Nat.mod_lt _ (by omega), h.a, h.b, h.c, Nat.mod_lt _ (by omega), h.e, h.f, h.g⟩
theorem rnds_ok (l : List UInt8) (h : St) (hh : h.ok) : ∀ n, (rnds l h n).ok
  | 0 => hh
  | n + 1 => rnd_ok l _ n (rnds_ok l h hh n)
theorem uponS_ok (l : List UInt8) (h : St) : (uponS l h).ok :=
  ⟨Nat.mod_lt _ (by omega), Nat.mod_lt _ (by omega), Nat.mod_lt _ (by omega), Nat.mod_lt _ (by omega), Nat.mod_lt _ (by omega), Nat.mod_lt _ (by omega), Nat.mod_lt _ (by omega), Nat.mod_lt _ (by omega)⟩
theorem st0_ok : st0.ok := by
  refine ⟨?_, ?_, ?_, ?_, ?_, ?_, ?_, ?_⟩ <;> simp [st0]
theorem absN_ok (l : List UInt8) : ∀ n, (absN l n).ok
  | 0 => st0_ok
  | _ + 1 => uponS_ok _ _
theorem blk_prefix (l x : List UInt8) (k : Nat) (h : 64 * (k + 1) ≤ l.length) : blk (l ++ x) k = blk l k := by
  unfold blk
  rw [List.drop_append_of_le_length (by omega), List.take_append_of_le_length (by rw [List.length_drop]; omega)]
theorem absN_prefix (l x : List UInt8) : ∀ k, 64 * k ≤ l.length → absN (l ++ x) k = absN l k
  | 0, _ => rfl
  | k + 1, h => by
    show uponS (blk (l ++ x) k) (absN (l ++ x) k) = uponS (blk l k) (absN l k)
    rw [blk_prefix l x k h, absN_prefix l x k (by omega)]
/-- Bytes that don't fill the block. -/
theorem dig_part (l x b : List UInt8) (hb : b.length = 64) (ht : b.take (l.length % 64) = l.drop (64 * (l.length / 64))) (h : l.length % 64 + x.length < 64) :
    absN (l ++ x) ((l ++ x).length / 64) = absN l (l.length / 64) ∧
    (b.take (l.length % 64) ++ (x ++ b.drop (l.length % 64 + x.length))).take ((l ++ x).length % 64) = (l ++ x).drop (64 * ((l ++ x).length / 64)) := by
  have e1 : (l ++ x).length / 64 = l.length / 64 := by rw [List.length_append]; omega
  have e2 : (l ++ x).length % 64 = l.length % 64 + x.length := by rw [List.length_append]; omega
  rw [e1, e2]
  refine ⟨absN_prefix l x _ (by omega), ?_⟩
  rw [List.drop_append_of_le_length (by omega), ← ht, ← List.append_assoc, List.take_append_of_le_length (by simp [hb]; omega), List.take_of_length_le (by simp [hb]; omega)]
/-- Bytes that fill the block. -/
theorem dig_full (l x b : List UInt8) (hb : b.length = 64) (ht : b.take (l.length % 64) = l.drop (64 * (l.length / 64))) (h : l.length % 64 + x.length = 64) :
    absN (l ++ x) ((l ++ x).length / 64) = uponS (b.take (l.length % 64) ++ (x ++ b.drop (l.length % 64 + x.length))) (absN l (l.length / 64)) ∧
    (b.take (l.length % 64) ++ (x ++ b.drop (l.length % 64 + x.length))).take ((l ++ x).length % 64) = (l ++ x).drop (64 * ((l ++ x).length / 64)) := by
  have e1 : (l ++ x).length / 64 = l.length / 64 + 1 := by rw [List.length_append]; omega
  have e2 : (l ++ x).length % 64 = 0 := by rw [List.length_append]; omega
  rw [e1, e2]
  constructor
  · show uponS (blk (l ++ x) (l.length / 64)) (absN (l ++ x) (l.length / 64)) = _
    rw [absN_prefix l x _ (by omega), h, List.drop_of_length_le (by omega), List.append_nil, ht]
    congr 1
    unfold blk
    rw [List.drop_append_of_le_length (by omega), List.take_of_length_le (by rw [List.length_append, List.length_drop]; omega)]
  · rw [List.take_zero, List.drop_of_length_le (by rw [List.length_append]; omega)]
theorem full_len (l x b : List UInt8) (hb : b.length = 64) (h : l.length % 64 + x.length ≤ 64) : (b.take (l.length % 64) ++ (x ++ b.drop (l.length % 64 + x.length))).length = 64 := by
  simp [hb]; omega
end Go.Proofs.Ytpeepohiajmhcaa.d
/-
  The contracts of math/bits.RotateLeft32, of turned, and of the document's turn.
-/
namespace Go.Proofs.Ytpeepohiajmhcaa.d
open Go.RowKit

theorem ret_u32 {a b : Int} (h : a = b) : Ending.returned (.int .u32 a) = .returned (.int .u32 b) := by rw [h]
theorem not_eq (b : Nat) (hb : b < 4294967296) : bits BinOp.xor IntKind.u32 IntKind.u32.max (b : Int) = ((4294967295 ^^^ b : Nat) : Int) := u32_xor_nat 4294967295 b (by omega) hb
theorem xor3_eq (b c d : Nat) (hb : b < 4294967296) (hc : c < 4294967296) (hd : d < 4294967296) :
    bits BinOp.xor IntKind.u32 (bits BinOp.xor IntKind.u32 b c) d = ((b ^^^ c ^^^ d : Nat) : Int) := by
  rw [u32_xor_nat _ _ hb hc, u32_xor_nat _ _ (xorlt _ _ hb hc) hd]
theorem ch_eq (b c d : Nat) (hb : b < 4294967296) (hc : c < 4294967296) (hd : d < 4294967296) :
    bits BinOp.xor IntKind.u32 (bits BinOp.and IntKind.u32 b c) (bits BinOp.and IntKind.u32 (bits BinOp.xor IntKind.u32 IntKind.u32.max b) d) = ((chN b c d : Nat) : Int) := by
  rw [not_eq b hb, u32_and_nat _ _ hb hc, u32_and_nat _ _ (xorlt _ _ (by omega) hb) hd, u32_xor_nat _ _ (andlt _ _ hb) (andlt _ _ (xorlt _ _ (by omega) hb))]
  rfl
theorem ma_eq (b c d : Nat) (hb : b < 4294967296) (hc : c < 4294967296) (hd : d < 4294967296) :
    bits BinOp.xor IntKind.u32 (bits BinOp.xor IntKind.u32 (bits BinOp.and IntKind.u32 b c) (bits BinOp.and IntKind.u32 b d)) (bits BinOp.and IntKind.u32 c d) = ((maN b c d : Nat) : Int) := by
  rw [u32_and_nat _ _ hb hc, u32_and_nat _ _ hb hd, u32_and_nat _ _ hc hd, xor3_eq _ _ _ (andlt _ _ hb) (andlt _ _ hb) (andlt _ _ hc)]
  rfl
theorem or_add (k x y : Nat) (h : y < 2 ^ k) : 2 ^ k * x ||| y = 2 ^ k * x + y := (Nat.two_pow_add_eq_or_of_lt h x).symm

theorem rr7_eq (x : Nat) : (x : Int) * 33554432 % 4294967296 + (x : Int) / 128 = (rr 7 x : Nat) := by
  show _ = ((x * 33554432 % 4294967296 + x / 128 : Nat) : Int)
  omega
theorem or7_eq (x : Nat) (hx : x < 4294967296) : bits BinOp.or IntKind.u32 ((x : Int) * 33554432 % 4294967296) ((x : Int) / 128) = (rr 7 x : Nat) := by
  have e1 : (x : Int) * 33554432 % 4294967296 = ((33554432 * (x % 128) : Nat) : Int) := by omega
  have e2 : (x : Int) / 128 = ((x / 128 : Nat) : Int) := by omega
  rw [e1, e2, u32_or_nat _ _ (by omega) (by omega)]
  have e3 := or_add 25 (x % 128) (x / 128) (by show _ < 33554432; omega)
  have e4 : (2 : Nat) ^ 25 = 33554432 := rfl
  rw [e4] at e3
  rw [e3]
  show _ = ((x * 33554432 % 4294967296 + x / 128 : Nat) : Int)
  omega
set_option maxRecDepth 10000 in
set_option maxHeartbeats 400000 in
theorem rot7_any (x : Nat) (hx : x < 4294967296) (w : World) : Calls Try.prog 92 #[.int .u32 x, .int .i64 (-7)] w fun e w' => e = .returned (.int .u32 (rr 7 x : Nat)) ∧ w = w' := by
  have e0 : IntKind.u64.wrap (-7) = 18446744073709551609 := by kernel_rfl
  have e1 : bits BinOp.and IntKind.u64 18446744073709551609 31 = 25 := by kernel_rfl
  go_enter Try.func92, Try.ntmps92
  go_wp2_with fail
  go_ret
  exact ⟨ret_u32 (or7_eq x hx), rfl⟩
theorem rr18_eq (x : Nat) : (x : Int) * 16384 % 4294967296 + (x : Int) / 262144 = (rr 18 x : Nat) := by
  show _ = ((x * 16384 % 4294967296 + x / 262144 : Nat) : Int)
  omega
theorem or18_eq (x : Nat) (hx : x < 4294967296) : bits BinOp.or IntKind.u32 ((x : Int) * 16384 % 4294967296) ((x : Int) / 262144) = (rr 18 x : Nat) := by
  have e1 : (x : Int) * 16384 % 4294967296 = ((16384 * (x % 262144) : Nat) : Int) := by omega
  have e2 : (x : Int) / 262144 = ((x / 262144 : Nat) : Int) := by omega
  rw [e1, e2, u32_or_nat _ _ (by omega) (by omega)]
  have e3 := or_add 14 (x % 262144) (x / 262144) (by show _ < 16384; omega)
  have e4 : (2 : Nat) ^ 14 = 16384 := rfl
  rw [e4] at e3
  rw [e3]
  show _ = ((x * 16384 % 4294967296 + x / 262144 : Nat) : Int)
  omega
set_option maxRecDepth 10000 in
set_option maxHeartbeats 400000 in
theorem rot18_any (x : Nat) (hx : x < 4294967296) (w : World) : Calls Try.prog 92 #[.int .u32 x, .int .i64 (-18)] w fun e w' => e = .returned (.int .u32 (rr 18 x : Nat)) ∧ w = w' := by
  have e0 : IntKind.u64.wrap (-18) = 18446744073709551598 := by kernel_rfl
  have e1 : bits BinOp.and IntKind.u64 18446744073709551598 31 = 14 := by kernel_rfl
  go_enter Try.func92, Try.ntmps92
  go_wp2_with fail
  go_ret
  exact ⟨ret_u32 (or18_eq x hx), rfl⟩
theorem rr17_eq (x : Nat) : (x : Int) * 32768 % 4294967296 + (x : Int) / 131072 = (rr 17 x : Nat) := by
  show _ = ((x * 32768 % 4294967296 + x / 131072 : Nat) : Int)
  omega
theorem or17_eq (x : Nat) (hx : x < 4294967296) : bits BinOp.or IntKind.u32 ((x : Int) * 32768 % 4294967296) ((x : Int) / 131072) = (rr 17 x : Nat) := by
  have e1 : (x : Int) * 32768 % 4294967296 = ((32768 * (x % 131072) : Nat) : Int) := by omega
  have e2 : (x : Int) / 131072 = ((x / 131072 : Nat) : Int) := by omega
  rw [e1, e2, u32_or_nat _ _ (by omega) (by omega)]
  have e3 := or_add 15 (x % 131072) (x / 131072) (by show _ < 32768; omega)
  have e4 : (2 : Nat) ^ 15 = 32768 := rfl
  rw [e4] at e3
  rw [e3]
  show _ = ((x * 32768 % 4294967296 + x / 131072 : Nat) : Int)
  omega
set_option maxRecDepth 10000 in
set_option maxHeartbeats 400000 in
theorem rot17_any (x : Nat) (hx : x < 4294967296) (w : World) : Calls Try.prog 92 #[.int .u32 x, .int .i64 (-17)] w fun e w' => e = .returned (.int .u32 (rr 17 x : Nat)) ∧ w = w' := by
  have e0 : IntKind.u64.wrap (-17) = 18446744073709551599 := by kernel_rfl
  have e1 : bits BinOp.and IntKind.u64 18446744073709551599 31 = 15 := by kernel_rfl
  go_enter Try.func92, Try.ntmps92
  go_wp2_with fail
  go_ret
  exact ⟨ret_u32 (or17_eq x hx), rfl⟩
theorem rr19_eq (x : Nat) : (x : Int) * 8192 % 4294967296 + (x : Int) / 524288 = (rr 19 x : Nat) := by
  show _ = ((x * 8192 % 4294967296 + x / 524288 : Nat) : Int)
  omega
theorem or19_eq (x : Nat) (hx : x < 4294967296) : bits BinOp.or IntKind.u32 ((x : Int) * 8192 % 4294967296) ((x : Int) / 524288) = (rr 19 x : Nat) := by
  have e1 : (x : Int) * 8192 % 4294967296 = ((8192 * (x % 524288) : Nat) : Int) := by omega
  have e2 : (x : Int) / 524288 = ((x / 524288 : Nat) : Int) := by omega
  rw [e1, e2, u32_or_nat _ _ (by omega) (by omega)]
  have e3 := or_add 13 (x % 524288) (x / 524288) (by show _ < 8192; omega)
  have e4 : (2 : Nat) ^ 13 = 8192 := rfl
  rw [e4] at e3
  rw [e3]
  show _ = ((x * 8192 % 4294967296 + x / 524288 : Nat) : Int)
  omega
set_option maxRecDepth 10000 in
set_option maxHeartbeats 400000 in
theorem rot19_any (x : Nat) (hx : x < 4294967296) (w : World) : Calls Try.prog 92 #[.int .u32 x, .int .i64 (-19)] w fun e w' => e = .returned (.int .u32 (rr 19 x : Nat)) ∧ w = w' := by
  have e0 : IntKind.u64.wrap (-19) = 18446744073709551597 := by kernel_rfl
  have e1 : bits BinOp.and IntKind.u64 18446744073709551597 31 = 13 := by kernel_rfl
  go_enter Try.func92, Try.ntmps92
  go_wp2_with fail
  go_ret
  exact ⟨ret_u32 (or19_eq x hx), rfl⟩
theorem rr2_eq (x : Nat) : (x : Int) * 1073741824 % 4294967296 + (x : Int) / 4 = (rr 2 x : Nat) := by
  show _ = ((x * 1073741824 % 4294967296 + x / 4 : Nat) : Int)
  omega
theorem or2_eq (x : Nat) (hx : x < 4294967296) : bits BinOp.or IntKind.u32 ((x : Int) * 1073741824 % 4294967296) ((x : Int) / 4) = (rr 2 x : Nat) := by
  have e1 : (x : Int) * 1073741824 % 4294967296 = ((1073741824 * (x % 4) : Nat) : Int) := by omega
  have e2 : (x : Int) / 4 = ((x / 4 : Nat) : Int) := by omega
  rw [e1, e2, u32_or_nat _ _ (by omega) (by omega)]
  have e3 := or_add 30 (x % 4) (x / 4) (by show _ < 1073741824; omega)
  have e4 : (2 : Nat) ^ 30 = 1073741824 := rfl
  rw [e4] at e3
  rw [e3]
  show _ = ((x * 1073741824 % 4294967296 + x / 4 : Nat) : Int)
  omega
set_option maxRecDepth 10000 in
set_option maxHeartbeats 400000 in
theorem rot2_any (x : Nat) (hx : x < 4294967296) (w : World) : Calls Try.prog 92 #[.int .u32 x, .int .i64 (-2)] w fun e w' => e = .returned (.int .u32 (rr 2 x : Nat)) ∧ w = w' := by
  have e0 : IntKind.u64.wrap (-2) = 18446744073709551614 := by kernel_rfl
  have e1 : bits BinOp.and IntKind.u64 18446744073709551614 31 = 30 := by kernel_rfl
  go_enter Try.func92, Try.ntmps92
  go_wp2_with fail
  go_ret
  exact ⟨ret_u32 (or2_eq x hx), rfl⟩
theorem rr13_eq (x : Nat) : (x : Int) * 524288 % 4294967296 + (x : Int) / 8192 = (rr 13 x : Nat) := by
  show _ = ((x * 524288 % 4294967296 + x / 8192 : Nat) : Int)
  omega
theorem or13_eq (x : Nat) (hx : x < 4294967296) : bits BinOp.or IntKind.u32 ((x : Int) * 524288 % 4294967296) ((x : Int) / 8192) = (rr 13 x : Nat) := by
  have e1 : (x : Int) * 524288 % 4294967296 = ((524288 * (x % 8192) : Nat) : Int) := by omega
  have e2 : (x : Int) / 8192 = ((x / 8192 : Nat) : Int) := by omega
  rw [e1, e2, u32_or_nat _ _ (by omega) (by omega)]
  have e3 := or_add 19 (x % 8192) (x / 8192) (by show _ < 524288; omega)
  have e4 : (2 : Nat) ^ 19 = 524288 := rfl
  rw [e4] at e3
  rw [e3]
  show _ = ((x * 524288 % 4294967296 + x / 8192 : Nat) : Int)
  omega
set_option maxRecDepth 10000 in
set_option maxHeartbeats 400000 in
theorem rot13_any (x : Nat) (hx : x < 4294967296) (w : World) : Calls Try.prog 92 #[.int .u32 x, .int .i64 (-13)] w fun e w' => e = .returned (.int .u32 (rr 13 x : Nat)) ∧ w = w' := by
  have e0 : IntKind.u64.wrap (-13) = 18446744073709551603 := by kernel_rfl
  have e1 : bits BinOp.and IntKind.u64 18446744073709551603 31 = 19 := by kernel_rfl
  go_enter Try.func92, Try.ntmps92
  go_wp2_with fail
  go_ret
  exact ⟨ret_u32 (or13_eq x hx), rfl⟩
theorem rr22_eq (x : Nat) : (x : Int) * 1024 % 4294967296 + (x : Int) / 4194304 = (rr 22 x : Nat) := by
  show _ = ((x * 1024 % 4294967296 + x / 4194304 : Nat) : Int)
  omega
theorem or22_eq (x : Nat) (hx : x < 4294967296) : bits BinOp.or IntKind.u32 ((x : Int) * 1024 % 4294967296) ((x : Int) / 4194304) = (rr 22 x : Nat) := by
  have e1 : (x : Int) * 1024 % 4294967296 = ((1024 * (x % 4194304) : Nat) : Int) := by omega
  have e2 : (x : Int) / 4194304 = ((x / 4194304 : Nat) : Int) := by omega
  rw [e1, e2, u32_or_nat _ _ (by omega) (by omega)]
  have e3 := or_add 10 (x % 4194304) (x / 4194304) (by show _ < 1024; omega)
  have e4 : (2 : Nat) ^ 10 = 1024 := rfl
  rw [e4] at e3
  rw [e3]
  show _ = ((x * 1024 % 4294967296 + x / 4194304 : Nat) : Int)
  omega
set_option maxRecDepth 10000 in
set_option maxHeartbeats 400000 in
theorem rot22_any (x : Nat) (hx : x < 4294967296) (w : World) : Calls Try.prog 92 #[.int .u32 x, .int .i64 (-22)] w fun e w' => e = .returned (.int .u32 (rr 22 x : Nat)) ∧ w = w' := by
  have e0 : IntKind.u64.wrap (-22) = 18446744073709551594 := by kernel_rfl
  have e1 : bits BinOp.and IntKind.u64 18446744073709551594 31 = 10 := by kernel_rfl
  go_enter Try.func92, Try.ntmps92
  go_wp2_with fail
  go_ret
  exact ⟨ret_u32 (or22_eq x hx), rfl⟩
theorem rr6_eq (x : Nat) : (x : Int) * 67108864 % 4294967296 + (x : Int) / 64 = (rr 6 x : Nat) := by
  show _ = ((x * 67108864 % 4294967296 + x / 64 : Nat) : Int)
  omega
theorem or6_eq (x : Nat) (hx : x < 4294967296) : bits BinOp.or IntKind.u32 ((x : Int) * 67108864 % 4294967296) ((x : Int) / 64) = (rr 6 x : Nat) := by
  have e1 : (x : Int) * 67108864 % 4294967296 = ((67108864 * (x % 64) : Nat) : Int) := by omega
  have e2 : (x : Int) / 64 = ((x / 64 : Nat) : Int) := by omega
  rw [e1, e2, u32_or_nat _ _ (by omega) (by omega)]
  have e3 := or_add 26 (x % 64) (x / 64) (by show _ < 67108864; omega)
  have e4 : (2 : Nat) ^ 26 = 67108864 := rfl
  rw [e4] at e3
  rw [e3]
  show _ = ((x * 67108864 % 4294967296 + x / 64 : Nat) : Int)
  omega
set_option maxRecDepth 10000 in
set_option maxHeartbeats 400000 in
theorem rot6_any (x : Nat) (hx : x < 4294967296) (w : World) : Calls Try.prog 92 #[.int .u32 x, .int .i64 (-6)] w fun e w' => e = .returned (.int .u32 (rr 6 x : Nat)) ∧ w = w' := by
  have e0 : IntKind.u64.wrap (-6) = 18446744073709551610 := by kernel_rfl
  have e1 : bits BinOp.and IntKind.u64 18446744073709551610 31 = 26 := by kernel_rfl
  go_enter Try.func92, Try.ntmps92
  go_wp2_with fail
  go_ret
  exact ⟨ret_u32 (or6_eq x hx), rfl⟩
theorem rr11_eq (x : Nat) : (x : Int) * 2097152 % 4294967296 + (x : Int) / 2048 = (rr 11 x : Nat) := by
  show _ = ((x * 2097152 % 4294967296 + x / 2048 : Nat) : Int)
  omega
theorem or11_eq (x : Nat) (hx : x < 4294967296) : bits BinOp.or IntKind.u32 ((x : Int) * 2097152 % 4294967296) ((x : Int) / 2048) = (rr 11 x : Nat) := by
  have e1 : (x : Int) * 2097152 % 4294967296 = ((2097152 * (x % 2048) : Nat) : Int) := by omega
  have e2 : (x : Int) / 2048 = ((x / 2048 : Nat) : Int) := by omega
  rw [e1, e2, u32_or_nat _ _ (by omega) (by omega)]
  have e3 := or_add 21 (x % 2048) (x / 2048) (by show _ < 2097152; omega)
  have e4 : (2 : Nat) ^ 21 = 2097152 := rfl
  rw [e4] at e3
  rw [e3]
  show _ = ((x * 2097152 % 4294967296 + x / 2048 : Nat) : Int)
  omega
set_option maxRecDepth 10000 in
set_option maxHeartbeats 400000 in
theorem rot11_any (x : Nat) (hx : x < 4294967296) (w : World) : Calls Try.prog 92 #[.int .u32 x, .int .i64 (-11)] w fun e w' => e = .returned (.int .u32 (rr 11 x : Nat)) ∧ w = w' := by
  have e0 : IntKind.u64.wrap (-11) = 18446744073709551605 := by kernel_rfl
  have e1 : bits BinOp.and IntKind.u64 18446744073709551605 31 = 21 := by kernel_rfl
  go_enter Try.func92, Try.ntmps92
  go_wp2_with fail
  go_ret
  exact ⟨ret_u32 (or11_eq x hx), rfl⟩
theorem rr25_eq (x : Nat) : (x : Int) * 128 % 4294967296 + (x : Int) / 33554432 = (rr 25 x : Nat) := by
  show _ = ((x * 128 % 4294967296 + x / 33554432 : Nat) : Int)
  omega
theorem or25_eq (x : Nat) (hx : x < 4294967296) : bits BinOp.or IntKind.u32 ((x : Int) * 128 % 4294967296) ((x : Int) / 33554432) = (rr 25 x : Nat) := by
  have e1 : (x : Int) * 128 % 4294967296 = ((128 * (x % 33554432) : Nat) : Int) := by omega
  have e2 : (x : Int) / 33554432 = ((x / 33554432 : Nat) : Int) := by omega
  rw [e1, e2, u32_or_nat _ _ (by omega) (by omega)]
  have e3 := or_add 7 (x % 33554432) (x / 33554432) (by show _ < 128; omega)
  have e4 : (2 : Nat) ^ 7 = 128 := rfl
  rw [e4] at e3
  rw [e3]
  show _ = ((x * 128 % 4294967296 + x / 33554432 : Nat) : Int)
  omega
set_option maxRecDepth 10000 in
set_option maxHeartbeats 400000 in
theorem rot25_any (x : Nat) (hx : x < 4294967296) (w : World) : Calls Try.prog 92 #[.int .u32 x, .int .i64 (-25)] w fun e w' => e = .returned (.int .u32 (rr 25 x : Nat)) ∧ w = w' := by
  have e0 : IntKind.u64.wrap (-25) = 18446744073709551591 := by kernel_rfl
  have e1 : bits BinOp.and IntKind.u64 18446744073709551591 31 = 7 := by kernel_rfl
  go_enter Try.func92, Try.ntmps92
  go_wp2_with fail
  go_ret
  exact ⟨ret_u32 (or25_eq x hx), rfl⟩
set_option maxRecDepth 10000 in
set_option maxHeartbeats 400000 in
theorem bs0_any (x : Nat) (hx : x < 4294967296) (w : World) : Calls Try.prog 89 #[.int .u32 x, .int .i64 2, .int .i64 13, .int .i64 22] w fun e w' => e = .returned (.int .u32 (bs0 x : Nat)) ∧ w = w' := by
  go_enter Try.func89, Try.ntmps89
  go_wp2_with (first
    | (go_at_call 92; with_reducible refine (rot2_any x hx _).mono ?_; rintro e w' ⟨rfl, rfl⟩)
    | (go_at_call 92; with_reducible refine (rot13_any x hx _).mono ?_; rintro e w' ⟨rfl, rfl⟩)
    | (go_at_call 92; with_reducible refine (rot22_any x hx _).mono ?_; rintro e w' ⟨rfl, rfl⟩))
  go_ret
  exact ⟨ret_u32 (xor3_eq _ _ _ (rr2_lt x hx) (rr13_lt x hx) (rr22_lt x hx)), rfl⟩

set_option maxRecDepth 10000 in
set_option maxHeartbeats 400000 in
theorem bs1_any (x : Nat) (hx : x < 4294967296) (w : World) : Calls Try.prog 89 #[.int .u32 x, .int .i64 6, .int .i64 11, .int .i64 25] w fun e w' => e = .returned (.int .u32 (bs1 x : Nat)) ∧ w = w' := by
  go_enter Try.func89, Try.ntmps89
  go_wp2_with (first
    | (go_at_call 92; with_reducible refine (rot6_any x hx _).mono ?_; rintro e w' ⟨rfl, rfl⟩)
    | (go_at_call 92; with_reducible refine (rot11_any x hx _).mono ?_; rintro e w' ⟨rfl, rfl⟩)
    | (go_at_call 92; with_reducible refine (rot25_any x hx _).mono ?_; rintro e w' ⟨rfl, rfl⟩))
  go_ret
  exact ⟨ret_u32 (xor3_eq _ _ _ (rr6_lt x hx) (rr11_lt x hx) (rr25_lt x hx)), rfl⟩

end Go.Proofs.Ytpeepohiajmhcaa.d
/-
  The contracts of math/bits.Mul64, squareFits, cubeFits, behindPoint.
-/
namespace Go.Proofs.Ytpeepohiajmhcaa.d
open Go.RowKit

theorem maskN (a : Nat) (ha : a < 18446744073709551616) : bits .and .u64 (a : Int) 4294967295 = ((a % 4294967296 : Nat) : Int) := by
  have h := u64_and_nat a 4294967295 ha (by omega)
  have e : a &&& 4294967295 = a % 4294967296 := Nat.and_two_pow_sub_one_eq_mod a 32
  rw [e] at h
  exact h
theorem divN (a : Nat) : (a : Int) / 4294967296 = ((a / 4294967296 : Nat) : Int) := by omega
theorem mulN (a b : Nat) : (a : Int) * (b : Int) = ((a * b : Nat) : Int) := (Int.natCast_mul a b).symm
theorem addN (a b : Nat) : (a : Int) + (b : Int) = ((a + b : Nat) : Int) := (Int.natCast_add a b).symm
theorem wrapN (a : Nat) (ha : a < 18446744073709551616) : IntKind.u64.wrap (a : Int) = (a : Int) := by rw [IntKind.wrap_u64]; omega
theorem wrapM (a : Nat) : IntKind.u64.wrap (a : Int) = ((a % 18446744073709551616 : Nat) : Int) := by rw [IntKind.wrap_u64]; omega
set_option maxRecDepth 10000 in
set_option maxHeartbeats 1000000 in
theorem Mul_any (x y : Nat) (hx : x < 18446744073709551616) (hy : y < 18446744073709551616) (w : World) : Calls Try.prog 91 #[.int .u64 x, .int .u64 y] w fun e w' => e = .returned (.tuple #[.int .u64 (x * y / 18446744073709551616 : Nat), .int .u64 (x * y % 18446744073709551616 : Nat)]) ∧ w = w' := by
  obtain ⟨bd, bt, bw, hhi⟩ := Lib.mul64_hi x y hx hy
  have ba := Lib.half_mul_le (a := x / 4294967296) (b := y / 4294967296) (by omega) (by omega)
  have bb := Lib.half_mul_le (a := x / 4294967296) (b := y % 4294967296) (by omega) (by omega)
  have bc := Lib.half_mul_le (a := x % 4294967296) (b := y / 4294967296) (by omega) (by omega)
  have ba' : x / 4294967296 * (y / 4294967296) < 18446744073709551616 := by omega
  have bb' : x / 4294967296 * (y % 4294967296) < 18446744073709551616 := by omega
  have bc' : x % 4294967296 * (y / 4294967296) < 18446744073709551616 := by omega
  have bh1 : x / 4294967296 * (y / 4294967296) + (x / 4294967296 * (y % 4294967296) + x % 4294967296 * (y % 4294967296) / 4294967296) / 4294967296 < 18446744073709551616 := by omega
  have bh : x / 4294967296 * (y / 4294967296) + (x / 4294967296 * (y % 4294967296) + x % 4294967296 * (y % 4294967296) / 4294967296) / 4294967296 + ((x / 4294967296 * (y % 4294967296) + x % 4294967296 * (y % 4294967296) / 4294967296) % 4294967296 + x % 4294967296 * (y / 4294967296)) / 4294967296 < 18446744073709551616 := by omega
  go_enter Try.func91, Try.ntmps91
  go_wp2_with fail
  simp only [maskN x hx, maskN y hy, divN, mulN, addN, wrapN _ bd, wrapN _ bb', wrapN _ bt, maskN _ bt, wrapN _ bc', wrapN _ bw, wrapN _ ba', wrapN _ bh1, wrapN _ bh, wrapM (x * y)]
  rw [hhi]
  go_ret2
  exact ⟨rfl, rfl⟩
theorem Mul_at (x y hi lo : Nat) (hx : x < 18446744073709551616) (hy : y < 18446744073709551616) (h1 : hi = x * y / 18446744073709551616) (h2 : lo = x * y % 18446744073709551616) (w : World) : Calls Try.prog 91 #[.int .u64 x, .int .u64 y] w fun e w' => e = .returned (.tuple #[.int .u64 hi, .int .u64 lo]) ∧ w = w' := by
  subst h1 h2; exact Mul_any x y hx hy w
theorem ret_bool {a b : Bool} (h : a = b) : Ending.returned (.bool a) = .returned (.bool b) := by rw [h]
set_option maxRecDepth 10000 in
set_option maxHeartbeats 1000000 in
theorem squareFits_any (x y : Nat) (hx : x < 18446744073709551616) (w : World) : Calls Try.prog 86 #[.int .u64 x, .int .u64 y] w fun e w' => e = .returned (.bool (sq x y)) ∧ w = w' := by
  obtain ⟨hi, h1⟩ : ∃ hi, hi = x * x / 18446744073709551616 := ⟨_, rfl⟩
  obtain ⟨lo, h2⟩ : ∃ lo, lo = x * x % 18446744073709551616 := ⟨_, rfl⟩
  have e : sq x y = decide (hi < y) := by unfold sq; rw [h1]
  have c := fun w => Mul_at x x hi lo hx hx h1 h2 w
  rw [e]
  clear e h1 h2
  go_enter Try.func86, Try.ntmps86
  go_wp2_with (go_at_call 91; refine (c _).mono ?_; rintro e w' ⟨rfl, rfl⟩)
  go_ret
  exact ⟨ret_bool (decide_eq_decide.2 (by omega)), rfl⟩
theorem cube_le (x : Nat) (hx : x < 18446744073709551616) (s : Nat) (hs : s < 18446744073709551616) : s * x / 18446744073709551616 < 18446744073709551616 := by
  apply Nat.div_lt_of_lt_mul
  exact Nat.mul_lt_mul_of_lt_of_le hs (Nat.le_of_lt hx) (by omega)
set_option maxRecDepth 10000 in
set_option maxHeartbeats 1000000 in
theorem cubeFits_any (x y : Nat) (hx : x < 18446744073709551616) (hy : (y : Int) < 1000) (w : World) : Calls Try.prog 87 #[.int .u64 x, .int .u64 y] w fun e w' => e = .returned (.bool (cu x y)) ∧ w = w' := by
  obtain ⟨hi, h1⟩ : ∃ hi, hi = x * x / 18446744073709551616 := ⟨_, rfl⟩
  obtain ⟨lo, h2⟩ : ∃ lo, lo = x * x % 18446744073709551616 := ⟨_, rfl⟩
  obtain ⟨ca, h3⟩ : ∃ ca, ca = lo * x / 18446744073709551616 := ⟨_, rfl⟩
  obtain ⟨l3, h4⟩ : ∃ l3, l3 = lo * x % 18446744073709551616 := ⟨_, rfl⟩
  obtain ⟨pr, h5⟩ : ∃ pr, pr = hi * x % 18446744073709551616 := ⟨_, rfl⟩
  have hlo : lo < 18446744073709551616 := by rw [h2]; exact Nat.mod_lt _ (by omega)
  have hca : ca < 18446744073709551616 := by rw [h3]; exact cube_le x hx lo hlo
  have e : cu x y = decide ((pr + ca) % 18446744073709551616 < y * 4294967296) := by
    unfold cu
    rw [← h1, ← h2, ← h3, h5, Nat.mod_add_mod, Nat.mod_eq_of_lt (a := y * 4294967296) (by omega)]
  have c := fun w => Mul_at x x hi lo hx hx h1 h2 w
  have c2 := fun w => Mul_at lo x ca l3 hlo hx h3 h4 w
  have hm : IntKind.u64.wrap ((hi : Int) * (x : Int)) = (pr : Int) := by rw [mulN, wrapM, h5]
  have hw : IntKind.u64.wrap ((pr : Int) + (ca : Int)) = (((pr + ca) % 18446744073709551616 : Nat) : Int) := by rw [addN, wrapM]
  obtain ⟨z, hz⟩ : ∃ z, z = (pr + ca) % 18446744073709551616 := ⟨_, rfl⟩
  rw [← hz] at e hw
  rw [e]
  clear e h1 h2 h3 h4 h5 hz hlo hca
  go_enter Try.func87, Try.ntmps87
  go_wp2_with (first | (go_at_call 91; with_reducible refine (c _).mono ?_; rintro e w' ⟨rfl, rfl⟩) | (go_at_call 91; with_reducible refine (c2 _).mono ?_; rintro e w' ⟨rfl, rfl⟩))
  go_ret
  exact ⟨ret_bool (decide_eq_decide.2 (by omega)), rfl⟩
end Go.Proofs.Ytpeepohiajmhcaa.d
/-
  The contract of behindPoint.
-/
namespace Go.Proofs.Ytpeepohiajmhcaa.d
open Go.RowKit

theorem pow_lt (k : Nat) (h : k < 64) : 2 ^ k < 18446744073709551616 := Nat.pow_lt_pow_right (by omega) h
theorem pow_cast (k : Nat) (h : k < 64) : IntKind.u64.wrap ((2 : Int) ^ k) = ((2 ^ k : Nat) : Int) := by
  have e : ((2 : Int) ^ k) = ((2 ^ k : Nat) : Int) := by simp
  rw [e]; exact wrapN _ (pow_lt k h)
/-- The next bit. -/
theorem root_or (f : Nat → Nat → Bool) (p k : Nat) (h : k < 35) : bits BinOp.or IntKind.u64 (rootN f p k : Nat) (2 ^ (34 - k) : Nat) = ((rootN f p k + 2 ^ (34 - k) : Nat) : Int) ∧ rootN f p k + 2 ^ (34 - k) < 34359738368 := by
  obtain ⟨q, e, hq⟩ := root_lt f p k (by omega)
  have e2 : (2 : Nat) ^ (35 - k) = 2 * 2 ^ (34 - k) := by rw [show 35 - k = (34 - k) + 1 by omega, Nat.pow_succ']
  have hlt : rootN f p k + 2 ^ (34 - k) < 34359738368 := by
    have h1 : q + 1 ≤ 2 ^ k := hq
    have h2 : (q + 1) * 2 ^ (35 - k) ≤ 2 ^ k * 2 ^ (35 - k) := Nat.mul_le_mul_right _ h1
    have h3 : 2 ^ k * 2 ^ (35 - k) = 34359738368 := by rw [← Nat.pow_add, show k + (35 - k) = 35 by omega]
    have h4 := Nat.two_pow_pos (34 - k)
    rw [Nat.add_mul, Nat.one_mul, h3, ← e, e2] at h2
    omega
  refine ⟨?_, hlt⟩
  rw [u64_or_nat _ _ (by omega) (by omega)]
  have h5 := or_add (35 - k) q (2 ^ (34 - k)) (by rw [e2]; have := Nat.two_pow_pos (34 - k); omega)
  rw [e, Nat.mul_comm q, h5]
theorem root_last (f : Nat → Nat → Bool) (p : Nat) : rootN f p 35 < 34359738368 := by
  obtain ⟨q, e, hq⟩ := root_lt f p 35 (Nat.le_refl _)
  rw [e]; omega
theorem root_next (f : Nat → Nat → Bool) (p k : Nat) : rootN f p (k + 1) = if f (rootN f p k + 2 ^ (34 - k)) p = true then rootN f p k + 2 ^ (34 - k) else rootN f p k := rfl

set_option maxRecDepth 10000 in
set_option maxHeartbeats 1000000 in
theorem behind_any (K : Nat) (f : Nat → Nat → Bool) (p : Nat) (hf : ∀ (x : Nat) w, x < 18446744073709551616 → Calls Try.prog K #[.int .u64 x, .int .u64 p] w fun e w' => e = .returned (.bool (f x p)) ∧ w = w')
    (he : ∀ args w, (callFunc K args).run Try.prog w = .ok (.enter K args) w) (w : World) : Calls Try.prog 85 #[.int .u64 p, .func (.func K) #[] #[]] w fun e w' => e = .returned (.int .u32 (behind f p : Nat)) ∧ w = w' := by
  go_enter Try.func85, Try.ntmps85
  go_wp2_with fail
  go_loop [8, 5] (fun i r => ∃ k : Nat, k ≤ 35 ∧ i = .int .i64 k ∧ r = .int .u64 (rootN f p k : Nat)) (fun i _ => 35 - (intOf i).toNat)
  case atStart => exact ⟨0, Nat.zero_le _, rfl, rfl⟩
  case round =>
    obtain ⟨k, hk, rfl, rfl⟩ := hrel
    by_cases hlt : k < 35
    · have hz : (k : Int) < 35 := by omega
      obtain ⟨ho, hl⟩ := root_or f p k hlt
      have hn := root_next f p k
      have hp := pow_cast (34 - k) (by omega)
      generalize hb : 2 ^ (34 - k) = b at *
      generalize hr : rootN f p k = r at *
      generalize hx : r + b = x at *
      have H := hid (And.intro hb (And.intro hr (And.intro hx hn)))
      clear hb hr hx hn
      have hxx : x < 18446744073709551616 := by omega
      clear hl
      cases hfx : f x p
      all_goals
        go_wp2_with fail
        refine (hf x _ hxx).mono ?_
        rintro e w' ⟨rfl, rfl⟩
        go_wp2_with fail
        go_round
        case rel => exact ⟨k + 1, by omega, by go_num, by rw [H.out.2.2.2, hfx]; rfl⟩
        case measure => simp [intOf]; omega
    · obtain rfl : k = 35 := by omega
      have hl := root_last f p
      go_wp2_with fail
      go_ret
      refine ⟨ret_u32 ?_, rfl⟩
      show _ = ((rootN f p 35 % 4294967296 : Nat) : Int)
      omega
theorem behindSq_any (p : Nat) (w : World) : Calls Try.prog 85 #[.int .u64 p, .func (.func 86) #[] #[]] w fun e w' => e = .returned (.int .u32 (behind sq p : Nat)) ∧ w = w' :=
  behind_any 86 sq p (fun x w hx => squareFits_any x p hx w) (enters_of Try.func86 (by kernel_rfl) rfl) w
theorem behindCu_any (p : Nat) (hp : (p : Int) < 1000) (w : World) : Calls Try.prog 85 #[.int .u64 p, .func (.func 87) #[] #[]] w fun e w' => e = .returned (.int .u32 (behind cu p : Nat)) ∧ w = w' :=
  behind_any 87 cu p (fun x w hx => cubeFits_any x p hx hp w) (enters_of Try.func87 (by kernel_rfl) rfl) w
end Go.Proofs.Ytpeepohiajmhcaa.d
/-
  The contract of spread: the words of all steps of a block.
-/
namespace Go.Proofs.Ytpeepohiajmhcaa.d
open Go.RowKit

def uv (n : Nat) : Value := .int .u32 (n : Int)
def z64 : Array Value := Array.replicate 64 (.int .u32 0)
/-- The first t words, then noughts. -/
def wordsL (l : List UInt8) (t : Nat) : List Value := (sched l t).map uv ++ List.replicate (64 - t) (.int .u32 0)
theorem wordsL_len (l : List UInt8) (t : Nat) (h : t ≤ 64) : (wordsL l t).length = 64 := by simp [wordsL, sched_len]; omega
theorem wordsL_set (l : List UInt8) (t : Nat) (h : t < 64) : (wordsL l t).set t (uv (wd l t)) = wordsL l (t + 1) := by
  unfold wordsL
  rw [List.set_append_right _ _ (by simp [sched_len])]
  obtain ⟨d, hd⟩ : ∃ d, 64 - t = d + 1 := ⟨64 - t - 1, by omega⟩
  rw [hd, show 64 - (t + 1) = d by omega, List.replicate_succ]
  simp [sched_len, sched, wd]
theorem wordsL_get (l : List UInt8) (t j : Nat) (h : j < t) : (wordsL l t)[j]? = some (uv (wd l j)) := by
  unfold wordsL
  rw [List.getElem?_append_left (by simp [sched_len]; exact h), List.getElem?_map]
  have e := sched_getD l j t h
  rw [List.getD_eq_getElem?_getD] at e
  have hl : j < (sched l t).length := by rw [sched_len]; exact h
  rw [List.getElem?_eq_getElem hl] at e ⊢
  simp at e
  simp [e]
theorem zero35 (w : World) : (zeroValue 105).run Try.prog w = .ok (.agg z64) w := by kernel_rfl
theorem sz35 : (Try.prog.info? 105).map (·.size) = some 64 := by kernel_rfl
theorem or4_eq (x0 x1 x2 x3 : Nat) (b0 : x0 < 256) (b1 : x1 < 256) (b2 : x2 < 256) (b3 : x3 < 256) :
    bits BinOp.or IntKind.u32 (bits BinOp.or IntKind.u32 (bits BinOp.or IntKind.u32 ((x0 : Int) * 16777216) ((x1 : Int) * 65536)) ((x2 : Int) * 256)) (x3 : Int) = ((be4 x0 x1 x2 x3 : Nat) : Int) := by
  have e1 : (x0 : Int) * 16777216 = ((2 ^ 24 * x0 : Nat) : Int) := by show _ = ((16777216 * x0 : Nat) : Int); omega
  have e2 : (x1 : Int) * 65536 = ((65536 * x1 : Nat) : Int) := by omega
  have e3 : (x2 : Int) * 256 = ((256 * x2 : Nat) : Int) := by omega
  have h24 : (2 : Nat) ^ 24 = 16777216 := rfl
  have h16 : (2 : Nat) ^ 16 = 65536 := rfl
  have h8 : (2 : Nat) ^ 8 = 256 := rfl
  rw [e1, e2, e3, u32_or_nat _ _ (by omega) (by omega), or_add 24 x0 (65536 * x1) (by omega)]
  have e4 : 2 ^ 24 * x0 + 65536 * x1 = 2 ^ 16 * (256 * x0 + x1) := by omega
  rw [e4, u32_or_nat _ _ (by omega) (by omega), or_add 16 _ (256 * x2) (by omega)]
  have e5 : 2 ^ 16 * (256 * x0 + x1) + 256 * x2 = 2 ^ 8 * (256 * (256 * x0 + x1) + x2) := by omega
  rw [e5, u32_or_nat _ _ (by omega) (by omega), or_add 8 _ x3 (by omega)]
  unfold be4
  omega
theorem slice36 (pb po t : Nat) (ht : t < 16) (w : World) : (Instr.sliceAt 89 (.pointer (some ⟨pb, po, none⟩)) (some (.int .i64 (4 * (t : Int)))) (some (.int .i64 (4 * (t : Int) + 4))) none).run Try.prog w = .ok (.slice (some ⟨pb, po + 4 * t, none⟩) 4 (64 - 4 * t)) w := by
  have hs : (sizeOf (Try.prog.elem 89)).run Try.prog w = .ok 1 w := by kernel_rfl
  have hl : Try.prog.arrayLen 89 = 64 := by kernel_rfl
  rw [run_sliceAt_array_lh w 89 ⟨pb, po, none⟩ (by kernel_rfl) .i64 .i64 (4 * (t : Int)) (4 * (t : Int) + 4) (by omega) (by omega) (by rw [hl]; omega), hs, hl]
  have e1 : (4 * (t : Int)).toNat = 4 * t := by omega
  have e2 : (4 * (t : Int) + 4).toNat = 4 * t + 4 := by omega
  simp only [Result.andThen, slicedAt, e1, e2, Nat.mul_one]
  rw [if_neg (by omega)]
  have e3 : 4 * t + 4 - 4 * t = 4 := by omega
  rw [e3]
  cases t with
  | zero => rfl
  | succ k => rfl
theorem sg0_eq (x : Nat) (hx : x < 4294967296) : bits BinOp.xor IntKind.u32 (bits BinOp.xor IntKind.u32 (rr 7 x : Nat) (rr 18 x : Nat)) ((x : Int) / 8) = ((sg0 x : Nat) : Int) := by
  have e : (x : Int) / 8 = ((x / 8 : Nat) : Int) := by omega
  rw [e]; exact xor3_eq _ _ _ (rr7_lt x hx) (rr18_lt x hx) (by omega)
theorem sg1_eq (x : Nat) (hx : x < 4294967296) : bits BinOp.xor IntKind.u32 (bits BinOp.xor IntKind.u32 (rr 17 x : Nat) (rr 19 x : Nat)) ((x : Int) / 1024) = ((sg1 x : Nat) : Int) := by
  have e : (x : Int) / 1024 = ((x / 1024 : Nat) : Int) := by omega
  rw [e]; exact xor3_eq _ _ _ (rr17_lt x hx) (rr19_lt x hx) (by omega)

theorem words_one (l : List UInt8) (k : Nat) : (wordsL l k).toArray.all (·.oneCell') = true := by
  rw [List.all_toArray, List.all_eq_true]
  intro v hv
  simp only [wordsL, List.mem_append, List.mem_map, List.mem_replicate] at hv
  rcases hv with ⟨i, _, rfl⟩ | ⟨_, rfl⟩ <;> rfl
theorem size35 (L : List Value) (h : L.length = 64) : (Try.prog.info? 105).map (·.size) = some L.toArray.size := by
  rw [List.size_toArray, h]; exact sz35
theorem z64_size (L : List Value) (h : L.length = 64) : z64.size = L.toArray.size := by
  have e : L.toArray.size = 64 := by rw [List.size_toArray, h]
  exact Eq.trans (by kernel_rfl : z64.size = 64) e.symm
structure SpSt (l : List UInt8) (t : Nat) (w wr : World) : Prop where
  bel : Below w.heap.size w wr
  b0 : wr.heap[w.heap.size]? = some (.cells z64 105 (0, 0))
  b1 : wr.heap[w.heap.size + 1]? = some (.cells (wordsL l t).toArray 105 (0, 0))
theorem SpSt.next {l : List UInt8} {t : Nat} {w wr : World} (s : SpSt l t w wr) (ht : t < 64) (k : Nat) : SpSt l (t + 1) w ((wr.setCell ⟨w.heap.size + 1, t, none⟩ (uv (wd l t))).drewN k) := by
  have hk : ((wr.setCell ⟨w.heap.size + 1, t, none⟩ (uv (wd l t))).drewN k).heap = (wr.setCell ⟨w.heap.size + 1, t, none⟩ (uv (wd l t))).heap := rfl
  refine ⟨?_, ?_, ?_⟩
  · exact ⟨s.bel.os, s.bel.tape, s.bel.output, by rw [hk, World.size_setCell]; exact s.bel.size, fun i hi => by rw [hk, heap_setCell_other _ _ _ _ (by show i ≠ w.heap.size + 1; omega)]; exact s.bel.block i hi⟩
  · rw [hk, heap_setCell_other _ _ _ _ (by show w.heap.size ≠ w.heap.size + 1; omega)]; exact s.b0
  · rw [hk, row_set s.b1 t _, set_toArray, wordsL_set l t ht]

set_option maxRecDepth 10000 in
set_option maxHeartbeats 2000000 in
theorem spread_any (l : List UInt8) (pb po : Nat) (w : World) (hl : l.length = 64)
    (hb : ∀ j (hj : j < l.length), w.cell? ⟨pb, po + j, none⟩ = some (bv l[j])) (hp : pb < w.heap.size) :
    Calls Try.prog 88 #[.pointer (some ⟨pb, po, none⟩)] w fun e w' => e = .returned (.agg ((sched l 64).map uv).toArray) ∧ Below w.heap.size w w' := by
  have zv := zero35
  go_enter Try.func88, Try.ntmps88
  go_wp2_with fail
  go_loopw [10] (fun i wr => ∃ t : Nat, t ≤ 64 ∧ i = .int .i64 t ∧ SpSt l t w wr) (fun i _ => 64 - (intOf i).toNat)
  case atStart =>
    refine ⟨0, Nat.zero_le _, rfl, ?_, ?_, ?_⟩
    · have q := (Below.refl w.heap.size w).alloc (Nat.le_refl _) (.cells z64 105)
      exact q.alloc q.size _
    · exact heap_alloc2_old w _ _
    · exact heap_alloc2_new w _ _
  case round =>
    obtain ⟨t, ht, rfl, hs⟩ := hrel
    clear zv
    by_cases hlt : t < 64
    · have hlz : (t : Int) < 64 := by omega
      have cellT : ∃ v0, wr.cell? ⟨w.heap.size + 1, t, none⟩ = some v0 := ⟨(wordsL l t)[t]'(by rw [wordsL_len l t ht]; exact hlt), by rw [row_cell hs.b1 t, List.getElem?_toArray, List.getElem?_eq_getElem (by rw [wordsL_len l t ht]; exact hlt)]⟩
      obtain ⟨v0, hv0⟩ := cellT
      have hf0 := row_free hs.b1 t
      have cellJ : ∀ j, j < t → wr.cell? ⟨w.heap.size + 1, j, none⟩ = some (.int .u32 (wd l j : Nat)) := fun j hj => by
        rw [row_cell hs.b1 j, List.getElem?_toArray, wordsL_get l t j hj]; rfl
      by_cases h16 : t < 16
      · have g : ∀ j (hj : j < 64), wr.cell? ⟨pb, po + j, none⟩ = some (.int .u8 ((l.getD j 0).toNat : Nat)) := fun j hj => by
          rw [hs.bel.cell (p := ⟨pb, po + j, none⟩) hp, hb j (by omega)]
          have : l.getD j 0 = l[j]'(by omega) := by simp [List.getD, show j < l.length by omega]
          rw [this]; rfl
        have hw : wd l t = be4 (l.getD (4 * t) 0).toNat (l.getD (4 * t + 1) 0).toNat (l.getD (4 * t + 2) 0).toNat (l.getD (4 * t + 3) 0).toNat := wd_low l t h16
        have h0 := g (4 * t) (by omega)
        have h1 : wr.cell? ⟨pb, po + 4 * t + 1, none⟩ = _ := g (4 * t + 1) (by omega)
        have h2 : wr.cell? ⟨pb, po + 4 * t + 2, none⟩ = _ := g (4 * t + 2) (by omega)
        have h3 : wr.cell? ⟨pb, po + 4 * t + 3, none⟩ = _ := g (4 * t + 3) (by omega)
        have b0 := UInt8.toNat_lt (l.getD (4 * t) 0)
        have b1 := UInt8.toNat_lt (l.getD (4 * t + 1) 0)
        have b2 := UInt8.toNat_lt (l.getD (4 * t + 2) 0)
        have b3 := UInt8.toNat_lt (l.getD (4 * t + 3) 0)
        generalize (l.getD (4 * t) 0).toNat = x0 at *
        generalize (l.getD (4 * t + 1) 0).toNat = x1 at *
        generalize (l.getD (4 * t + 2) 0).toNat = x2 at *
        generalize (l.getD (4 * t + 3) 0).toNat = x3 at *
        have Hw := hid hw
        have Hs := hid hs
        have HL := hid hl
        clear g hw hs hb cellJ hl
        have sl := slice36 pb po t h16 wr
        have htz : (t : Int) < 16 := by omega
        go_wp2_with fail
        clear sl
        go_region
        go_wp2
        go_roundw
        case rel =>
          rw [or4_eq x0 x1 x2 x3 b0 b1 b2 b3, ← Hw.out]
          exact ⟨t + 1, by omega, by go_num, Hs.out.next hlt _⟩
        case measure => simp [intOf]; omega
      · have hw := wd_high l t (by omega)
        obtain ⟨m15, e15⟩ : ∃ m, m = t - 15 := ⟨_, rfl⟩
        obtain ⟨m2, e2⟩ : ∃ m, m = t - 2 := ⟨_, rfl⟩
        obtain ⟨m7, e7⟩ : ∃ m, m = t - 7 := ⟨_, rfl⟩
        obtain ⟨m16, e16⟩ : ∃ m, m = t - 16 := ⟨_, rfl⟩
        rw [← e15, ← e2, ← e7, ← e16] at hw
        have c15 := cellJ m15 (by omega)
        have c2 := cellJ m2 (by omega)
        have c7 := cellJ m7 (by omega)
        have c16 := cellJ m16 (by omega)
        have l15 := wd_lt l m15
        have l2 := wd_lt l m2
        have l7 := wd_lt l m7
        have l16 := wd_lt l m16
        have z15 : (t : Int) - 15 = (m15 : Int) := by omega
        have z2 : (t : Int) - 2 = (m2 : Int) := by omega
        have z7 : (t : Int) - 7 = (m7 : Int) := by omega
        have z16 : (t : Int) - 16 = (m16 : Int) := by omega
        have y15 : (m15 : Int) < 64 := by omega
        have y2 : (m2 : Int) < 64 := by omega
        have y7 : (m7 : Int) < 64 := by omega
        have y16 : (m16 : Int) < 64 := by omega
        have w15 : IntKind.i64.wrap (m15 : Int) = (m15 : Int) := IntWalk.i64_in _ (by omega)
        have w2 : IntKind.i64.wrap (m2 : Int) = (m2 : Int) := IntWalk.i64_in _ (by omega)
        have w7 : IntKind.i64.wrap (m7 : Int) = (m7 : Int) := IntWalk.i64_in _ (by omega)
        have w16 : IntKind.i64.wrap (m16 : Int) = (m16 : Int) := IntWalk.i64_in _ (by omega)
        generalize wd l m15 = x15 at *
        generalize wd l m2 = x2 at *
        generalize wd l m7 = x7 at *
        generalize wd l m16 = x16 at *
        have q0 := sg0_eq x15 l15
        have q1 := sg1_eq x2 l2
        have k0 := sg0_lt x15 l15
        have k1 := sg1_lt x2 l2
        have Hw := hid hw
        have Hs := hid hs
        have HL := hid hl
        clear hw hs hb cellJ hl e15 e2 e7 e16
        go_wp2_with fail
        go_quiet (fail)
        have HH : Hid ((wr.drewN nq).cell? ⟨w.heap.size + 1, m7, none⟩ = some (.int .u32 x7) ∧ (wr.drewN nq).cell? ⟨w.heap.size + 1, m16, none⟩ = some (.int .u32 x16) ∧ (wr.drewN nq).cell? ⟨w.heap.size + 1, t, none⟩ = some v0 ∧ (wr.drewN nq).frozen? ⟨w.heap.size + 1, t, none⟩ = false) := ⟨c7, c16, hv0, hf0⟩
        clear c15 c2 c7 c16 hv0 hf0
        obtain ⟨W, hW⟩ : ∃ W, W = wr.drewN nq := ⟨_, rfl⟩
        rw [← hW] at HH ⊢
        obtain ⟨d7, d16, dv0, df0⟩ := HH.out
        clear HH
        have HW := hid hW
        clear hW
        go_wp2_with (first
          | (go_at_call 92; with_reducible refine (rot7_any x15 l15 _).mono ?_; rintro e w' ⟨rfl, rfl⟩)
          | (go_at_call 92; with_reducible refine (rot18_any x15 l15 _).mono ?_; rintro e w' ⟨rfl, rfl⟩)
          | (go_at_call 92; with_reducible refine (rot17_any x2 l2 _).mono ?_; rintro e w' ⟨rfl, rfl⟩)
          | (go_at_call 92; with_reducible refine (rot19_any x2 l2 _).mono ?_; rintro e w' ⟨rfl, rfl⟩))
        clear q0 q1
        go_region
        go_wp2
        go_roundw
        case rel =>
          have ev : ((((sg1 x2 : Nat) : Int) + (x7 : Int) + ((sg0 x15 : Nat) : Int) + (x16 : Int)) % 4294967296) = ((wd l t : Nat) : Int) := by
            rw [Hw.out]; omega
          rw [ev]
          have HN := Hs.out.next hlt (nq + 1)
          refine ⟨t + 1, by omega, by go_num, ?_⟩
          rw [HW.out]
          exact HN
        case measure => simp [intOf]; omega
    · obtain rfl : t = 64 := by omega
      have hlen := wordsL_len l 64 ht
      have hfull : wordsL l 64 = (sched l 64).map uv := by simp [wordsL]
      have Hs := hid hs
      have hs1 := hs.b1
      have hs0 := hs.b0
      have hz1 := size35 _ hlen
      have hz2 := z64_size _ hlen
      have h1 := words_one l 64
      clear hs
      generalize wordsL l 64 = X at *
      have Hf := hid hfull
      clear hfull hlen
      go_wp2_with (first
        | (refine wpList_load_row rfl 105 (.tmp 3) rfl (w.heap.size + 1) rfl 105 X.toArray (0, 0) _ hs1 Try.underlying105 rfl hz1 ?_)
        | (refine wpList_store_row (o := ⟨none, .store 105 (.tmp 2) (.tmp 87), _, _, _, _⟩) rfl 105 (.tmp 2) (.tmp 87) rfl w.heap.size X.toArray rfl rfl 105 z64 hs0 hz1 hz2 h1 ?_))
      refine bodyPost_ret (results_cell_row (by kernel_rfl : Try.f88.results = #[.cell 2 105]) _ _ w.heap.size 105 X.toArray (0, 0) _ rfl (setRow_heap _ _ _ _ _ _ hs0) Try.underlying105 rfl hz1) rfl ⟨?_, ?_⟩
      · rw [Hf.out]
      · exact below_setRow Hs.out.bel (Nat.le_refl _) _
end Go.Proofs.Ytpeepohiajmhcaa.d
/-
  The contract of numbers: the numbers H at first and the numbers K, found prime by prime.
-/
namespace Go.Proofs.Ytpeepohiajmhcaa.d
open Go.RowKit

def bvl (b : Bool) : Value := .bool b
def z8 : Array Value := #[.int .u32 0, .int .u32 0, .int .u32 0, .int .u32 0, .int .u32 0, .int .u32 0, .int .u32 0, .int .u32 0]
def z312 : Array Value := Array.replicate 312 (.bool false)
theorem zero64 (w : World) : (zeroValue 122).run Try.prog w = .ok (.agg z312) w := by kernel_rfl
theorem zero34 (w : World) : (zeroValue 104).run Try.prog w = .ok (.agg z8) w := by kernel_rfl
/-- What the call's own three blocks hold. -/
structure SvSt (h k : List Nat) (pr : List Bool) (w wr : World) : Prop where
  bel : Below w.heap.size w wr
  siz : w.heap.size + 3 ≤ wr.heap.size
  b0 : wr.heap[w.heap.size]? = some (.cells (h.map uv).toArray 104 (0, 0))
  b1 : wr.heap[w.heap.size + 1]? = some (.cells (k.map uv).toArray 105 (0, 0))
  b2 : wr.heap[w.heap.size + 1 + 1]? = some (.cells (pr.map bvl).toArray 122 (0, 0))
theorem set_map {α : Type} (f : α → Value) (l : List α) (i : Nat) (v : α) : ((l.map f).toArray.setIfInBounds i (f v)) = ((l.set i v).map f).toArray := by
  rw [set_toArray, List.map_set]
theorem SvSt.setPr {h k : List Nat} {pr : List Bool} {w wr : World} (s : SvSt h k pr w wr) (i : Nat) : SvSt h k (pr.set i true) w (wr.setCell ⟨w.heap.size + 1 + 1, i, none⟩ (.bool true)) :=
  ⟨s.bel.setCell (p := ⟨w.heap.size + 1 + 1, i, none⟩) (by show w.heap.size ≤ w.heap.size + 1 + 1; omega) _, by rw [World.size_setCell]; exact s.siz,
   by rw [heap_setCell_other _ _ _ _ (by show w.heap.size ≠ w.heap.size + 1 + 1; omega)]; exact s.b0,
   by rw [heap_setCell_other _ _ _ _ (by show w.heap.size + 1 ≠ w.heap.size + 1 + 1; omega)]; exact s.b1,
   by rw [row_set s.b2 i _]; exact congrArg (fun x => some (Obj.cells x 122 (0, 0))) (set_map bvl pr i true)⟩
theorem SvSt.setH {h k : List Nat} {pr : List Bool} {w wr : World} (s : SvSt h k pr w wr) (i v : Nat) : SvSt (h.set i v) k pr w (wr.setCell ⟨w.heap.size, i, none⟩ (.int .u32 (v : Int))) :=
  ⟨s.bel.setCell (p := ⟨w.heap.size, i, none⟩) (Nat.le_refl _) _, by rw [World.size_setCell]; exact s.siz,
   by rw [row_set s.b0 i _]; exact congrArg (fun x => some (Obj.cells x 104 (0, 0))) (set_map uv h i v),
   by rw [heap_setCell_other _ _ _ _ (by show w.heap.size + 1 ≠ w.heap.size; omega)]; exact s.b1,
   by rw [heap_setCell_other _ _ _ _ (by show w.heap.size + 1 + 1 ≠ w.heap.size; omega)]; exact s.b2⟩
theorem SvSt.setK {h k : List Nat} {pr : List Bool} {w wr : World} (s : SvSt h k pr w wr) (i v : Nat) : SvSt h (k.set i v) pr w (wr.setCell ⟨w.heap.size + 1, i, none⟩ (.int .u32 (v : Int))) :=
  ⟨s.bel.setCell (p := ⟨w.heap.size + 1, i, none⟩) (by show w.heap.size ≤ w.heap.size + 1; omega) _, by rw [World.size_setCell]; exact s.siz,
   by rw [heap_setCell_other _ _ _ _ (by show w.heap.size ≠ w.heap.size + 1; omega)]; exact s.b0,
   by rw [row_set s.b1 i _]; exact congrArg (fun x => some (Obj.cells x 105 (0, 0))) (set_map uv k i v),
   by rw [heap_setCell_other _ _ _ _ (by show w.heap.size + 1 + 1 ≠ w.heap.size + 1; omega)]; exact s.b2⟩
theorem SvSt.cellPr {h k : List Nat} {pr : List Bool} {w wr : World} (s : SvSt h k pr w wr) (i : Nat) (hi : i < pr.length) : wr.cell? ⟨w.heap.size + 1 + 1, i, none⟩ = some (.bool (pr.getD i false)) := by
  rw [row_cell s.b2 i, List.getElem?_toArray, List.getElem?_map, List.getD_eq_getElem?_getD, List.getElem?_eq_getElem hi]; rfl
theorem SvSt.cellH {h k : List Nat} {pr : List Bool} {w wr : World} (s : SvSt h k pr w wr) (i : Nat) (hi : i < h.length) : wr.cell? ⟨w.heap.size, i, none⟩ = some (uv (h.getD i 0)) := by
  rw [row_cell s.b0 i, List.getElem?_toArray, List.getElem?_map, List.getD_eq_getElem?_getD, List.getElem?_eq_getElem hi]; rfl
theorem SvSt.cellK {h k : List Nat} {pr : List Bool} {w wr : World} (s : SvSt h k pr w wr) (i : Nat) (hi : i < k.length) : wr.cell? ⟨w.heap.size + 1, i, none⟩ = some (uv (k.getD i 0)) := by
  rw [row_cell s.b1 i, List.getElem?_toArray, List.getElem?_map, List.getD_eq_getElem?_getD, List.getElem?_eq_getElem hi]; rfl
theorem mul_le_of (i p : Nat) (h : i < 311 / p + 1) : i * p < 312 := by
  have h1 : i ≤ 311 / p := by omega
  have h2 := Nat.mul_le_mul_right p h1
  have h3 := Nat.div_mul_le_self 311 p
  omega

theorem range_row {w : World} {g t : Nat} {cs : List Value} (h : w.heap[g]? = some (.cells cs.toArray t (0, 0))) : w.rangeAt g 0 cs := fun j v hv => by
  rw [row_cell h, List.getElem?_toArray, Nat.zero_add]; exact hv
theorem there_row {w : World} {g t : Nat} {cs : List Value} (h : w.heap[g]? = some (.cells cs.toArray t (0, 0))) : w.there g 0 cs.length := fun j hj => by
  rw [Nat.zero_add]
  exact ⟨by rw [row_cell h, List.getElem?_toArray, List.getElem?_eq_getElem hj]; rfl, row_free h j⟩
theorem one_of_all {X : List Value} (h : X.toArray.all (·.oneCell') = true) : ∀ v ∈ X, v.oneCell' = true := fun v hv => by
  rw [List.all_toArray, List.all_eq_true] at h
  exact h v hv
theorem results_cells2 {fn : Func} {p q : Tmp} {ty ty2 : TypeId} (h : fn.results = #[.cell p ty, .cell q ty2]) (tmps : Array Value) (w : World) (g g2 : Nat) (cs cs2 : List Value) (d d2 : TypeDesc)
    (hp : tmps.getD p undef = .pointer (some ⟨g, 0, none⟩)) (hq : tmps.getD q undef = .pointer (some ⟨g2, 0, none⟩)) (hc : w.rangeAt g 0 cs) (hc2 : w.rangeAt g2 0 cs2)
    (hu : Try.prog.underlying ty = some d) (hd : d.isRow = true) (hi : (Try.prog.info? ty).map (·.size) = some cs.length)
    (hu2 : Try.prog.underlying ty2 = some d2) (hd2 : d2.isRow = true) (hi2 : (Try.prog.info? ty2).map (·.size) = some cs2.length) :
    (results fn tmps).run Try.prog w = .ok (.tuple #[.agg cs.toArray, .agg cs2.toArray]) w := by
  have hp' : tmps[p]?.getD undef = .pointer (some ⟨g, 0, none⟩) := by simpa using hp
  have hq' : tmps[q]?.getD undef = .pointer (some ⟨g2, 0, none⟩) := by simpa using hq
  simp [results, h, hp', hq', asAddr, run_loadVar_mid w g 0 ty cs d hc hu hd hi, run_loadVar_mid w g2 0 ty2 cs2 d2 hc2 hu2 hd2 hi2]
theorem belowSetCells (B : Nat) (w0 : World) (hB : w0.heap.size ≤ B) : ∀ (vs : List Value) (o : Nat) (w : World), Below w0.heap.size w0 w → Below w0.heap.size w0 (w.setCells B o vs)
  | [], _, _, h => h
  | v :: r, o, _, h => belowSetCells B w0 hB r (o + 1) _ (h.setCell (p := ⟨B, o, none⟩) hB v)
structure Held (B : Nat) (X Y : List Value) (w0 w : World) : Prop where
  r0 : w.rangeAt B 0 X
  t0 : w.there B 0 X.length
  r1 : w.rangeAt (B + 1) 0 Y
  t1 : w.there (B + 1) 0 Y.length
  bel : Below w0.heap.size w0 w
theorem Held.put0 {X Y : List Value} {w0 w : World} (h : Held w0.heap.size X Y w0 w) (Z : List Value) (e : Z = X) : Held w0.heap.size X Y w0 (w.setCells w0.heap.size 0 Z) := by
  subst e
  exact ⟨World.rangeAt_setCells_same _ _ _ _ h.t0, World.there_setCells h.t0 _ _ _, World.rangeAt_setCells_apart h.r1 _ _ _ (.inl (by omega)), World.there_setCells h.t1 _ _ _, belowSetCells _ _ (Nat.le_refl _) _ _ _ h.bel⟩
theorem Held.put1 {X Y : List Value} {w0 w : World} (h : Held w0.heap.size X Y w0 w) (Z : List Value) (e : Z = Y) : Held w0.heap.size X Y w0 (w.setCells (w0.heap.size + 1) 0 Z) := by
  subst e
  exact ⟨World.rangeAt_setCells_apart h.r0 _ _ _ (.inl (by omega)), World.there_setCells h.t0 _ _ _, World.rangeAt_setCells_same _ _ _ _ h.t1, World.there_setCells h.t1 _ _ _, belowSetCells _ _ (Nat.le_succ _) _ _ _ h.bel⟩
theorem e8 : ((sieve 0).h.map uv).toArray = z8 := by kernel_rfl
theorem e64 : ((sieve 0).k.map uv).toArray = z64 := by kernel_rfl
theorem e312 : ((sieve 0).prod.map bvl).toArray = z312 := by kernel_rfl
theorem svSt_start (w : World) : SvSt (sieve 0).h (sieve 0).k (sieve 0).prod w (((w.alloc (.cells z8 104)).alloc (.cells z64 105)).alloc (.cells z312 122)) := by
  refine ⟨?_, by simp, ?_, ?_, ?_⟩
  · have q := (Below.refl w.heap.size w).alloc (Nat.le_refl _) (.cells z8 104)
    have q2 := q.alloc q.size (.cells z64 105)
    exact q2.alloc q2.size _
  · rw [e8, heap_alloc_old (h := by simp; omega)]
    exact heap_alloc2_old w _ _
  · rw [e64, heap_alloc_old (h := by simp)]
    exact heap_alloc2_new w _ _
  · rw [e312]
    have := heap_alloc_new ((w.alloc (.cells z8 104)).alloc (.cells z64 105)) (.cells z312 122)
    simpa using this
set_option maxRecDepth 10000 in
set_option maxHeartbeats 4000000 in
theorem numbers_any (w : World) : Calls Try.prog 76 #[] w fun e w' => e = .returned (.tuple #[.agg (hL.map uv).toArray, .agg (kL.map uv).toArray]) ∧ Below w.heap.size w w' := by
  have zv := zero35
  have zw := zero34
  have zx := zero64
  go_enter Try.func76, Try.ntmps76
  go_wp2_with fail
  go_loopw [6, 3] (fun i f wr => ∃ p : Nat, p ≤ 312 ∧ i = .int .i64 p ∧ f = .int .i64 ((sieve p).found : Nat) ∧ SvSt (sieve p).h (sieve p).k (sieve p).prod w wr) (fun i _ _ => 312 - (intOf i).toNat)
  case atStart => exact ⟨0, Nat.zero_le _, rfl, rfl, svSt_start w⟩
  case round =>
    obtain ⟨p, hp, rfl, rfl, hs⟩ := hrel
    clear zv zw zx
    by_cases hlt : p < 312
    · have hlz : (p : Int) < 312 := by omega
      obtain ⟨len1, len2, len3⟩ := sieve_len p
      have hfl := found_le (p + 1) (by omega)
      have hsk := sieve_skip p
      have htk := sieve_take p
      have hc := hs.cellPr p (by omega)
      by_cases h2 : p < 2
      · have hsk' := hsk (by simp [h2])
        have h2z : (p : Int) < 2 := by omega
        have Hs := hid hs
        have Hk := hid hsk'
        clear hs hsk hsk' htk hc hfl len1 len2 len3
        go_wp2_with fail
        go_roundw
        case rel =>
          have e : SvSt (sieve (p + 1)).h (sieve (p + 1)).k (sieve (p + 1)).prod w wr := by rw [Hk.out]; exact Hs.out
          exact ⟨p + 1, by omega, by go_num, by rw [Hk.out], e⟩
        case measure => simp [intOf]; omega
      · have h2z : (2 : Int) ≤ p := by omega
        cases hpr : (sieve p).prod.getD p false
        · have htk' := htk (by rw [hpr, decide_eq_false h2]; rfl)
          rw [hpr] at hc
          have hfs : (sieve (p + 1)).found = (sieve p).found + 1 := by rw [htk']
          rw [hfs] at hfl
          obtain ⟨m1, hm1⟩ : ∃ m1, m1 = 311 / p := ⟨_, rfl⟩
          have hq : (311 : Int) / (p : Int) = (m1 : Int) := by rw [hm1]; exact (Int.natCast_ediv 311 p).symm
          have hq2 : Int.tdiv (311 : Int) (p : Int) = (m1 : Int) := by rw [Int.tdiv_eq_ediv_of_nonneg (by omega)]; exact hq
          have hmb : m1 ≤ 155 := by rw [hm1]; have : 311 / p ≤ 311 / 2 := Nat.div_le_div_left (by omega) (by omega); omega
          have hmz : (m1 : Int) ≤ 155 := by omega
          have hml : ∀ j, j < m1 + 1 → j * p < 312 := fun j hj => mul_le_of j p (by omega)
          rw [← hm1] at htk'
          have htk := htk'
          clear htk' hsk hfs hm1
          generalize hG : sieve (p + 1) = S1 at *
          have HG := hid hG
          clear hG
          generalize hG0 : sieve p = S0 at *
          obtain ⟨pr, f, h, k⟩ := S0
          simp only at hs hc hfl htk len1 len2 len3 hpr
          have Hk := hid htk
          have Hml := hid hml
          have Hl := hid (And.intro len1 (And.intro len2 len3))
          have Hs := hid hs
          clear htk hml len1 len2 len3 hs hpr hG0
          go_wp2_with fail
          clear hc
          go_loopw [19] (fun i wr => ∃ j : Nat, j ≤ m1 + 1 ∧ i = .int .i64 j ∧ SvSt h k (mark pr p j) w wr) (fun i _ => m1 + 1 - (intOf i).toNat)
          case atStart => exact ⟨0, Nat.zero_le _, rfl, Hs.out⟩
          case round =>
            obtain ⟨j, hj, rfl, hs⟩ := hrel
            by_cases hjl : j < m1 + 1
            · have hjz : (j : Int) < (m1 : Int) + 1 := by omega
              obtain ⟨q, hqq⟩ : ∃ q, q = j * p := ⟨_, rfl⟩
              have hql := Hml.out j hjl
              rw [← hqq] at hql
              have hqz : (q : Int) < 312 := by omega
              have hmul : (j : Int) * (p : Int) = (q : Int) := by rw [hqq]; exact (Int.natCast_mul j p).symm
              have hwq : IntKind.i64.wrap (q : Int) = (q : Int) := IntWalk.i64_in _ (by omega)
              have hcq := hs.cellPr q (by rw [mark_len]; have := Hl.out.1; omega)
              have hfq := row_free hs.b2 q
              have Hs2 := hid hs
              have HQ := hid hqq
              clear hs hqq
              go_wp2_with fail
              go_roundw
              case rel =>
                have hn := Hs2.out.setPr q
                have e : (mark pr p j).set q true = mark pr p (j + 1) := by rw [HQ.out]; rfl
                rw [e] at hn
                exact ⟨j + 1, by omega, by go_num, hn⟩
              case measure => simp [intOf]; omega
            · obtain rfl : j = m1 + 1 := by omega
              have hpz : (p : Int) < 1000 := by omega
              obtain ⟨bs, hbs⟩ : ∃ bs, bs = behind sq p := ⟨_, rfl⟩
              obtain ⟨bc, hbc⟩ : ∃ bc, bc = behind cu p := ⟨_, rfl⟩
              have hfz : (f : Int) < 64 := by omega
              have cs := fun w => behindSq_any p w
              have cc := fun w => behindCu_any p hpz w
              rw [← hbs] at cs
              rw [← hbc] at cc
              have hck := hs.cellK f (by have := Hl.out.2.2; omega)
              have hfk := row_free hs.b1 f
              have hstep := Hk.out
              rw [← hbs, ← hbc] at hstep
              by_cases h8 : f < 8
              · rw [if_pos h8] at hstep
                have Hst := hid hstep
                have h8z : (f : Int) < 8 := by omega
                have hch := hs.cellH f (by have := Hl.out.2.1; omega)
                have hfh := row_free hs.b0 f
                have Hs2 := hid hs
                have Hb := hid (And.intro hbs hbc)
                clear hs hstep hbs hbc
                go_wp2_with (first
                  | (go_at_call 85; with_reducible refine (cs _).mono ?_; rintro e w' ⟨rfl, rfl⟩)
                  | (go_at_call 85; with_reducible refine (cc _).mono ?_; rintro e w' ⟨rfl, rfl⟩))
                go_roundw
                case rel =>
                  have hn := (Hs2.out.setH f bs).setK f bc
                  refine ⟨p + 1, by omega, by go_num, ?_, ?_⟩
                  · rw [HG.out, Hst.out]; go_num
                  · rw [HG.out, Hst.out]; exact hn
                case measure => simp [intOf]; omega
              · rw [if_neg h8] at hstep
                have Hst := hid hstep
                have h8z : (8 : Int) ≤ f := by omega
                have Hs2 := hid hs
                have Hb := hid (And.intro hbs hbc)
                clear hs hstep hbs hbc
                go_wp2_with (first
                  | (go_at_call 85; with_reducible refine (cs _).mono ?_; rintro e w' ⟨rfl, rfl⟩)
                  | (go_at_call 85; with_reducible refine (cc _).mono ?_; rintro e w' ⟨rfl, rfl⟩))
                go_roundw
                case rel =>
                  have hn := Hs2.out.setK f bc
                  refine ⟨p + 1, by omega, by go_num, ?_, ?_⟩
                  · rw [HG.out, Hst.out]; go_num
                  · rw [HG.out, Hst.out]; exact hn
                case measure => simp [intOf]; omega
        · have hsk' := hsk (by rw [hpr, Bool.or_true])
          rw [hpr] at hc
          have Hs := hid hs
          have Hk := hid hsk'
          clear hs hsk hsk' htk hfl len1 len2 len3 hpr
          go_wp2_with fail
          go_roundw
          case rel =>
            have e : SvSt (sieve (p + 1)).h (sieve (p + 1)).k (sieve (p + 1)).prod w wr := by rw [Hk.out]; exact Hs.out
            exact ⟨p + 1, by omega, by go_num, by rw [Hk.out], e⟩
          case measure => simp [intOf]; omega
    · obtain rfl : p = 312 := by omega
      obtain ⟨eh, ek⟩ := sieve_end
      rw [eh, ek] at hs
      have l8 : (hL.map uv).length = 8 := by kernel_rfl
      have l64 : (kL.map uv).length = 64 := by kernel_rfl
      have s8 : (Try.prog.info? 104).map (·.size) = some (hL.map uv).toArray.size := by kernel_rfl
      have s64 := size35 _ l64
      have o8 : (hL.map uv).toArray.all (·.oneCell') = true := by kernel_rfl
      have o64 : (kL.map uv).toArray.all (·.oneCell') = true := by kernel_rfl
      have hb0 := hs.b0
      have hb1 := hs.b1
      have Hs := hid hs
      have hH : Held w.heap.size (hL.map uv) (kL.map uv) w wr.drew := ⟨range_row hs.b0, there_row hs.b0, range_row hs.b1, there_row hs.b1, below_drewN hs.bel 1⟩
      have k8 : (Try.prog.info? 104).map (·.size) = some (hL.map uv).length := s8
      have k64 : (Try.prog.info? 105).map (·.size) = some (kL.map uv).length := by rw [l64]; exact sz35
      clear hs eh ek hp hlt hb0 hb1 Hs l64 l8
      generalize hXe : hL.map uv = X at *
      generalize hYe : kL.map uv = Y at *
      have HXY := hid (And.intro hXe hYe)
      clear hXe hYe
      go_wp2_with fail
      refine wp_region_held_drew (S := Held w.heap.size X Y w) (by kernel_rfl) hH (fun hH1 => ?_)
      refine wpAnyH_take (i := 0) (v := .agg X.toArray) rfl (by kernel_rfl) (by kernel_rfl) (by kernel_rfl) (fun _ _ _ h => h) (yieldsIf_load_mid (by rfl) 104 (.tmp 0) rfl w.heap.size 0 rfl X _ (fun w h => h.r0) Try.underlying104 rfl k8) hH1 ?_
      refine wpAnyH_take (i := 1) (v := .agg Y.toArray) rfl (by kernel_rfl) (by kernel_rfl) (by kernel_rfl) (fun _ _ _ h => h) (yieldsIf_load_mid (by rfl) 105 (.tmp 1) rfl (w.heap.size + 1) 0 rfl Y _ (fun w h => h.r1) Try.underlying105 rfl k64) hH1 ?_
      refine wpAnyH_ready (rs := [2]) (by kernel_rfl) (by simp) (AllReadyH.cons rfl (fun K hK => ?_) AllReadyH.nil)
      rw [if_pos (by rfl)]
      refine wp_store_mid 104 (.tmp 0) (.tmp 42) rfl w.heap.size 0 X.toArray rfl rfl hH1.t0 s8 o8 ?_
      refine hK.out _ _ (hH1.put0 X rfl) (fun hH2 => ?_)
      refine wpAnyH_ready (rs := [3]) (by kernel_rfl) (by simp) (AllReadyH.cons rfl (fun K hK => ?_) AllReadyH.nil)
      rw [if_pos (by rfl)]
      refine wp_store_mid 105 (.tmp 1) (.tmp 43) rfl (w.heap.size + 1) 0 Y.toArray rfl rfl hH2.t1 s64 o64 ?_
      refine hK.out _ _ (hH2.put1 Y rfl) (fun hH3 => ?_)
      refine wpAnyH_done (by kernel_rfl) ?_ _
      generalize World.setCells _ _ _ _ = W at hH3 ⊢
      go_wp2_with fail
      exact bodyPost_ret (results_cells2 (by kernel_rfl : Try.f76.results = #[.cell 0 104, .cell 1 105]) _ _ w.heap.size (w.heap.size + 1) X Y _ _ rfl rfl hH3.r0 hH3.r1 Try.underlying104 rfl k8 Try.underlying105 rfl k64) rfl ⟨by rw [HXY.out.1, HXY.out.2], hH3.bel⟩
end Go.Proofs.Ytpeepohiajmhcaa.d
