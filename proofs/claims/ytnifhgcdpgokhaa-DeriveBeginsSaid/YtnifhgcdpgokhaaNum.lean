/-
  SHA-256 as plain functions on numbers and lists of bytes: the numbers K and H (prime by prime), words, rounds, blocks, padding.
-/
import Derived.KernelRfl
namespace Go.Proofs.Ytnifhgcdpgokhaa

/-- x turned to the right by n. -/
def rr (n x : Nat) : Nat := x * 2 ^ (32 - n) % 4294967296 + x / 2 ^ n
def sq (root p : Nat) : Bool := decide (root * root / 18446744073709551616 < p)
def cu (root p : Nat) : Bool := decide ((root * root / 18446744073709551616 * root + root * root % 18446744073709551616 * root / 18446744073709551616) % 18446744073709551616 < p * 4294967296 % 18446744073709551616)
/-- The root after i bits. -/
def rootN (fits : Nat → Nat → Bool) (p : Nat) : Nat → Nat
  | 0 => 0
  | i + 1 => if fits (rootN fits p i + 2 ^ (34 - i)) p = true then rootN fits p i + 2 ^ (34 - i) else rootN fits p i
def behind (fits : Nat → Nat → Bool) (p : Nat) : Nat := rootN fits p 35 % 4294967296
/-- The first j multiples of p marked. -/
def mark (l : List Bool) (p : Nat) : Nat → List Bool
  | 0 => l
  | j + 1 => (mark l p j).set (j * p) true
structure Sv where
  prod : List Bool
  found : Nat
  h : List Nat
  k : List Nat
/-- What the sieve has behind the first p numbers. -/
def stepS (s : Sv) (p : Nat) : Sv :=
  if (decide (p < 2) || s.prod.getD p false) = true then s
  else ⟨mark s.prod p (311 / p + 1), s.found + 1, if s.found < 8 then s.h.set s.found (behind sq p) else s.h, s.k.set s.found (behind cu p)⟩
def sieve : Nat → Sv
  | 0 => ⟨List.replicate 312 false, 0, List.replicate 8 0, List.replicate 64 0⟩
  | p + 1 => stepS (sieve p) p
def kL : List Nat := [1116352408, 1899447441, 3049323471, 3921009573, 961987163, 1508970993, 2453635748, 2870763221, 3624381080, 310598401, 607225278, 1426881987, 1925078388, 2162078206, 2614888103, 3248222580, 3835390401, 4022224774, 264347078, 604807628, 770255983, 1249150122, 1555081692, 1996064986, 2554220882, 2821834349, 2952996808, 3210313671, 3336571891, 3584528711, 113926993, 338241895, 666307205, 773529912, 1294757372, 1396182291, 1695183700, 1986661051, 2177026350, 2456956037, 2730485921, 2820302411, 3259730800, 3345764771, 3516065817, 3600352804, 4094571909, 275423344, 430227734, 506948616, 659060556, 883997877, 958139571, 1322822218, 1537002063, 1747873779, 1955562222, 2024104815, 2227730452, 2361852424, 2428436474, 2756734187, 3204031479, 3329325298]
def hL : List Nat := [1779033703, 3144134277, 1013904242, 2773480762, 1359893119, 2600822924, 528734635, 1541459225]
theorem sieve_end : (sieve 312).h = hL ∧ (sieve 312).k = kL := by constructor <;> kernel_rfl
theorem found_mono (p : Nat) : (sieve p).found ≤ (sieve (p + 1)).found := by
  show _ ≤ (stepS (sieve p) p).found
  unfold stepS
  split
  · exact Nat.le_refl _
  · exact Nat.le_succ _
theorem found_le' : ∀ d p, p + d = 312 → (sieve p).found ≤ 64
  | 0, p, h => by
    have e : p = 312 := by omega
    subst e
    have : (sieve 312).found = 64 := by kernel_rfl
    omega
  | d + 1, p, h => Nat.le_trans (found_mono p) (found_le' d (p + 1) (by omega))
theorem found_le (p : Nat) (h : p ≤ 312) : (sieve p).found ≤ 64 := found_le' (312 - p) p (by omega)
theorem mark_len (l : List Bool) (p : Nat) : ∀ j, (mark l p j).length = l.length
  | 0 => rfl
  | j + 1 => by simp [mark, mark_len l p j]
theorem sieve_len : ∀ p, (sieve p).prod.length = 312 ∧ (sieve p).h.length = 8 ∧ (sieve p).k.length = 64
  | 0 => ⟨List.length_replicate, List.length_replicate, List.length_replicate⟩
  | p + 1 => by
    have ih := sieve_len p
    show (stepS (sieve p) p).prod.length = 312 ∧ (stepS (sieve p) p).h.length = 8 ∧ (stepS (sieve p) p).k.length = 64
    unfold stepS
    split
    · exact ih
    · refine ⟨by rw [mark_len]; exact ih.1, ?_, by simp [ih.2.2]⟩
      show (if _ then _ else _ : List Nat).length = 8
      split
      · simp [ih.2.1]
      · exact ih.2.1
theorem behind_lt (f : Nat → Nat → Bool) (p : Nat) : behind f p < 4294967296 := Nat.mod_lt _ (by omega)
theorem sieve_skip (p : Nat) (h : (decide (p < 2) || (sieve p).prod.getD p false) = true) : sieve (p + 1) = sieve p := by
  show stepS (sieve p) p = sieve p
  unfold stepS
  rw [if_pos h]
theorem sieve_take (p : Nat) (h : (decide (p < 2) || (sieve p).prod.getD p false) = false) :
    sieve (p + 1) = ⟨mark (sieve p).prod p (311 / p + 1), (sieve p).found + 1, if (sieve p).found < 8 then (sieve p).h.set (sieve p).found (behind sq p) else (sieve p).h, (sieve p).k.set (sieve p).found (behind cu p)⟩ := by
  show stepS (sieve p) p = _
  unfold stepS
  rw [h, if_neg (by decide)]
theorem root_lt (f : Nat → Nat → Bool) (p : Nat) : ∀ i, i ≤ 35 → ∃ q, rootN f p i = q * 2 ^ (35 - i) ∧ q < 2 ^ i
  | 0, _ => ⟨0, by simp [rootN], by omega⟩
  | i + 1, h => by
    obtain ⟨q, e, hq⟩ := root_lt f p i (by omega)
    have e2 : (2 : Nat) ^ (35 - i) = 2 * 2 ^ (34 - i) := by rw [show 35 - i = (34 - i) + 1 by omega, Nat.pow_succ']
    have e3 : 35 - (i + 1) = 34 - i := by omega
    have e4 : (2 : Nat) ^ (i + 1) = 2 * 2 ^ i := Nat.pow_succ'
    unfold rootN
    rw [e3, e4, e, e2]
    by_cases c : f (q * (2 * 2 ^ (34 - i)) + 2 ^ (34 - i)) p = true
    · rw [if_pos c]
      refine ⟨2 * q + 1, ?_, by omega⟩
      rw [Nat.add_mul, Nat.one_mul, ← Nat.mul_assoc, Nat.mul_comm q 2]
    · rw [if_neg c]
      exact ⟨2 * q, by rw [← Nat.mul_assoc, Nat.mul_comm q 2], by omega⟩

/-- One word of 4 bytes. -/
def be4 (a b c d : Nat) : Nat := ((a * 256 + b) * 256 + c) * 256 + d
def w0 (l : List UInt8) (t : Nat) : Nat := be4 (l.getD (4 * t) 0).toNat (l.getD (4 * t + 1) 0).toNat (l.getD (4 * t + 2) 0).toNat (l.getD (4 * t + 3) 0).toNat
def sg0 (x : Nat) : Nat := rr 7 x ^^^ rr 18 x ^^^ x / 8
def sg1 (x : Nat) : Nat := rr 17 x ^^^ rr 19 x ^^^ x / 1024
def bs0 (x : Nat) : Nat := rr 2 x ^^^ rr 13 x ^^^ rr 22 x
def bs1 (x : Nat) : Nat := rr 6 x ^^^ rr 11 x ^^^ rr 25 x
def nextW (l : List UInt8) (ws : List Nat) (t : Nat) : Nat :=
  if t < 16 then w0 l t else (((sg1 (ws.getD (t - 2) 0) + ws.getD (t - 7) 0) % 4294967296 + sg0 (ws.getD (t - 15) 0)) % 4294967296 + ws.getD (t - 16) 0) % 4294967296
/-- The first words of a block. -/
def sched (l : List UInt8) : Nat → List Nat
  | 0 => []
  | t + 1 => sched l t ++ [nextW l (sched l t) t]
def wd (l : List UInt8) (t : Nat) : Nat := nextW l (sched l t) t

structure St where
  a : Nat
  b : Nat
  c : Nat
  d : Nat
  e : Nat
  f : Nat
  g : Nat
  h : Nat

def chN (e f g : Nat) : Nat := (e &&& f) ^^^ ((4294967295 ^^^ e) &&& g)
def maN (a b c : Nat) : Nat := ((a &&& b) ^^^ (a &&& c)) ^^^ (b &&& c)
def kN (t : Nat) : Nat := kL.getD t 0
def t1 (l : List UInt8) (s : St) (t : Nat) : Nat := ((((s.h + bs1 s.e) % 4294967296 + chN s.e s.f s.g) % 4294967296 + kN t) % 4294967296 + wd l t) % 4294967296
def t2 (s : St) : Nat := (bs0 s.a + maN s.a s.b s.c) % 4294967296
def rnd (l : List UInt8) (s : St) (t : Nat) : St := ⟨(t1 l s t + t2 s) % 4294967296, s.a, s.b, s.c, (s.d + t1 l s t) % 4294967296, s.e, s.f, s.g⟩
def rnds (l : List UInt8) (h : St) : Nat → St
  | 0 => h
  | t + 1 => rnd l (rnds l h t) t
def St.list (s : St) : List Nat := [s.a, s.b, s.c, s.d, s.e, s.f, s.g, s.h]
def add2 (h s : St) : St := ⟨(h.a + s.a) % 4294967296, (h.b + s.b) % 4294967296, (h.c + s.c) % 4294967296, (h.d + s.d) % 4294967296, (h.e + s.e) % 4294967296, (h.f + s.f) % 4294967296, (h.g + s.g) % 4294967296, (h.h + s.h) % 4294967296⟩
def uponS (l : List UInt8) (h : St) : St := add2 h (rnds l h 64)
def st0 : St := ⟨1779033703, 3144134277, 1013904242, 2773480762, 1359893119, 2600822924, 528734635, 1541459225⟩
def blk (l : List UInt8) (k : Nat) : List UInt8 := (l.drop (64 * k)).take 64
/-- The numbers behind the first k blocks. -/
def absN (l : List UInt8) : Nat → St
  | 0 => st0
  | k + 1 => uponS (blk l k) (absN l k)
/-- The n bytes of a number (of what it is modulo 256 to the power of n). -/
def bytesN : Nat → Nat → List UInt8
  | 0, _ => []
  | n + 1, v => bytesN n (v / 256) ++ [UInt8.ofNat (v % 256)]
def be8 (n : Nat) : List UInt8 := bytesN 8 n
def noughts (n : Nat) : Nat := (64 - (n + 9) % 64) % 64
def pad (n : Nat) : List UInt8 := 128 :: (List.replicate (noughts n) 0 ++ be8 (8 * n))
def padded (l : List UInt8) : List UInt8 := l ++ pad l.length
def sumS (l : List UInt8) : St := absN (padded l) ((padded l).length / 64)
def nth (s : St) (i : Nat) : Nat := s.list.getD i 0
def outB (s : St) (i : Nat) : UInt8 := UInt8.ofNat (nth s (i / 4) / 2 ^ (24 - i % 4 * 8))
def sha (l : List UInt8) : List UInt8 := (List.range 32).map (outB (sumS l))

theorem sha_nil : sha [] = [0xe3, 0xb0, 0xc4, 0x42, 0x98, 0xfc, 0x1c, 0x14, 0x9a, 0xfb, 0xf4, 0xc8, 0x99, 0x6f, 0xb9, 0x24, 0x27, 0xae, 0x41, 0xe4, 0x64, 0x9b, 0x93, 0x4c, 0xa4, 0x95, 0x99, 0x1b, 0x78, 0x52, 0xb8, 0x55] := by kernel_rfl

theorem length_bytesN : ∀ (n v : Nat), (bytesN n v).length = n
  | 0, _ => rfl
  | n + 1, v => by simp [bytesN, length_bytesN n]
theorem bytesN_cons : ∀ (k v : Nat), bytesN (k + 1) v = UInt8.ofNat (v / 256 ^ k % 256) :: bytesN k v
  | 0, v => by simp [bytesN]
  | k + 1, v => by
    rw [bytesN, bytesN_cons k (v / 256)]
    have e : v / 256 / 256 ^ k = v / 256 ^ (k + 1) := by rw [Nat.div_div_eq_div_mul, Nat.pow_succ']
    rw [e, List.cons_append]
    rfl
theorem sched_len (l : List UInt8) : ∀ n, (sched l n).length = n
  | 0 => rfl
  | n + 1 => by simp [sched, sched_len l n]
theorem sched_getD (l : List UInt8) (j : Nat) : ∀ n, j < n → (sched l n).getD j 0 = wd l j
  | 0, h => by omega
  | n + 1, h => by
    by_cases e : j = n
    · subst e
      simp [sched, List.getD, sched_len, wd]
    · have ih := sched_getD l j n (by omega)
      rw [← ih]
      simp only [sched, List.getD]
      rw [List.getElem?_append_left (by rw [sched_len]; omega)]
theorem wd_low (l : List UInt8) (t : Nat) (h : t < 16) : wd l t = w0 l t := by
  unfold wd nextW; rw [if_pos h]
theorem wd_high (l : List UInt8) (t : Nat) (h : 16 ≤ t) : wd l t = (((sg1 (wd l (t - 2)) + wd l (t - 7)) % 4294967296 + sg0 (wd l (t - 15))) % 4294967296 + wd l (t - 16)) % 4294967296 := by
  have e : wd l t = nextW l (sched l t) t := rfl
  rw [e]
  unfold nextW
  rw [if_neg (by omega), sched_getD l _ t (by omega), sched_getD l _ t (by omega), sched_getD l _ t (by omega), sched_getD l _ t (by omega)]
theorem be4_lt (a b c d : Nat) (ha : a < 256) (hb : b < 256) (hc : c < 256) (hd : d < 256) : be4 a b c d < 4294967296 := by unfold be4; omega
theorem w0_lt (l : List UInt8) (t : Nat) : w0 l t < 4294967296 := be4_lt _ _ _ _ (UInt8.toNat_lt _) (UInt8.toNat_lt _) (UInt8.toNat_lt _) (UInt8.toNat_lt _)
theorem xorlt (a b : Nat) (ha : a < 4294967296) (hb : b < 4294967296) : a ^^^ b < 4294967296 := Nat.xor_lt_two_pow (n := 32) ha hb
theorem orlt (a b : Nat) (ha : a < 4294967296) (hb : b < 4294967296) : a ||| b < 4294967296 := Nat.or_lt_two_pow (n := 32) ha hb
theorem andlt (a b : Nat) (ha : a < 4294967296) : a &&& b < 4294967296 := Nat.lt_of_le_of_lt Nat.and_le_left ha
theorem rr7_lt (x : Nat) (hx : x < 4294967296) : rr 7 x < 4294967296 := by
  show x * 33554432 % 4294967296 + x / 128 < 4294967296
  omega
theorem rr18_lt (x : Nat) (hx : x < 4294967296) : rr 18 x < 4294967296 := by
  show x * 16384 % 4294967296 + x / 262144 < 4294967296
  omega
theorem rr17_lt (x : Nat) (hx : x < 4294967296) : rr 17 x < 4294967296 := by
  show x * 32768 % 4294967296 + x / 131072 < 4294967296
  omega
theorem rr19_lt (x : Nat) (hx : x < 4294967296) : rr 19 x < 4294967296 := by
  show x * 8192 % 4294967296 + x / 524288 < 4294967296
  omega
theorem rr2_lt (x : Nat) (hx : x < 4294967296) : rr 2 x < 4294967296 := by
  show x * 1073741824 % 4294967296 + x / 4 < 4294967296
  omega
theorem rr13_lt (x : Nat) (hx : x < 4294967296) : rr 13 x < 4294967296 := by
  show x * 524288 % 4294967296 + x / 8192 < 4294967296
  omega
theorem rr22_lt (x : Nat) (hx : x < 4294967296) : rr 22 x < 4294967296 := by
  show x * 1024 % 4294967296 + x / 4194304 < 4294967296
  omega
theorem rr6_lt (x : Nat) (hx : x < 4294967296) : rr 6 x < 4294967296 := by
  show x * 67108864 % 4294967296 + x / 64 < 4294967296
  omega
theorem rr11_lt (x : Nat) (hx : x < 4294967296) : rr 11 x < 4294967296 := by
  show x * 2097152 % 4294967296 + x / 2048 < 4294967296
  omega
theorem rr25_lt (x : Nat) (hx : x < 4294967296) : rr 25 x < 4294967296 := by
  show x * 128 % 4294967296 + x / 33554432 < 4294967296
  omega
theorem sg0_lt (x : Nat) (hx : x < 4294967296) : sg0 x < 4294967296 := xorlt _ _ (xorlt _ _ (rr7_lt x hx) (rr18_lt x hx)) (by omega)
theorem sg1_lt (x : Nat) (hx : x < 4294967296) : sg1 x < 4294967296 := xorlt _ _ (xorlt _ _ (rr17_lt x hx) (rr19_lt x hx)) (by omega)
theorem bs0_lt (x : Nat) (hx : x < 4294967296) : bs0 x < 4294967296 := xorlt _ _ (xorlt _ _ (rr2_lt x hx) (rr13_lt x hx)) (rr22_lt x hx)
theorem bs1_lt (x : Nat) (hx : x < 4294967296) : bs1 x < 4294967296 := xorlt _ _ (xorlt _ _ (rr6_lt x hx) (rr11_lt x hx)) (rr25_lt x hx)
theorem chN_lt (e f g : Nat) (he : e < 4294967296) (_hf : f < 4294967296) (_hg : g < 4294967296) : chN e f g < 4294967296 := xorlt _ _ (andlt _ _ he) (andlt _ _ (xorlt _ _ (by omega) he))
theorem maN_lt (a b c : Nat) (ha : a < 4294967296) (hb : b < 4294967296) : maN a b c < 4294967296 := xorlt _ _ (xorlt _ _ (andlt _ _ ha) (andlt _ _ ha)) (andlt _ _ hb)
theorem wd_lt (l : List UInt8) (t : Nat) : wd l t < 4294967296 := by
  by_cases h : t < 16
  · rw [wd_low l t h]; exact w0_lt l t
  · rw [wd_high l t (by omega)]; exact Nat.mod_lt _ (by omega)
theorem kL_all : kL.all (fun x => decide (x < 4294967296)) = true := by kernel_rfl
theorem kN_lt (t : Nat) : kN t < 4294967296 := by
  unfold kN
  by_cases h : t < kL.length
  · rw [List.getD_eq_getElem?_getD, List.getElem?_eq_getElem h]
    have := List.all_eq_true.1 kL_all _ (List.getElem_mem h)
    simpa using this
  · rw [List.getD_eq_getElem?_getD, List.getElem?_eq_none (by omega)]
    decide
structure St.ok (s : St) : Prop where
  a : s.a < 4294967296
  b : s.b < 4294967296
  c : s.c < 4294967296
  d : s.d < 4294967296
  e : s.e < 4294967296
  f : s.f < 4294967296
  g : s.g < 4294967296
  h : s.h < 4294967296
theorem rnd_ok (l : List UInt8) (s : St) (t : Nat) (h : s.ok) : (rnd l s t).ok :=
  ⟨Nat.mod_lt _ (by omega), h.a, h.b, h.c, Nat.mod_lt _ (by omega), h.e, h.f, h.g⟩
theorem rnds_ok (l : List UInt8) (h : St) (hh : h.ok) : ∀ n, (rnds l h n).ok
  | 0 => hh
  | n + 1 => rnd_ok l _ n (rnds_ok l h hh n)
theorem uponS_ok (l : List UInt8) (h : St) : (uponS l h).ok :=
  ⟨Nat.mod_lt _ (by omega), Nat.mod_lt _ (by omega), Nat.mod_lt _ (by omega), Nat.mod_lt _ (by omega), Nat.mod_lt _ (by omega), Nat.mod_lt _ (by omega), Nat.mod_lt _ (by omega), Nat.mod_lt _ (by omega)⟩
theorem st0_ok : st0.ok := by
  refine ⟨?_, ?_, ?_, ?_, ?_, ?_, ?_, ?_⟩ <;> simp [st0]
theorem absN_ok (l : List UInt8) : ∀ n, (absN l n).ok
  | 0 => st0_ok
  | _ + 1 => uponS_ok _ _
theorem blk_prefix (l x : List UInt8) (k : Nat) (h : 64 * (k + 1) ≤ l.length) : blk (l ++ x) k = blk l k := by
  unfold blk
  rw [List.drop_append_of_le_length (by omega), List.take_append_of_le_length (by rw [List.length_drop]; omega)]
theorem absN_prefix (l x : List UInt8) : ∀ k, 64 * k ≤ l.length → absN (l ++ x) k = absN l k
  | 0, _ => rfl
  | k + 1, h => by
    show uponS (blk (l ++ x) k) (absN (l ++ x) k) = uponS (blk l k) (absN l k)
    rw [blk_prefix l x k h, absN_prefix l x k (by omega)]
/-- Bytes that don't fill the block. -/
theorem dig_part (l x b : List UInt8) (hb : b.length = 64) (ht : b.take (l.length % 64) = l.drop (64 * (l.length / 64))) (h : l.length % 64 + x.length < 64) :
    absN (l ++ x) ((l ++ x).length / 64) = absN l (l.length / 64) ∧
    (b.take (l.length % 64) ++ (x ++ b.drop (l.length % 64 + x.length))).take ((l ++ x).length % 64) = (l ++ x).drop (64 * ((l ++ x).length / 64)) := by
  have e1 : (l ++ x).length / 64 = l.length / 64 := by rw [List.length_append]; omega
  have e2 : (l ++ x).length % 64 = l.length % 64 + x.length := by rw [List.length_append]; omega
  rw [e1, e2]
  refine ⟨absN_prefix l x _ (by omega), ?_⟩
  rw [List.drop_append_of_le_length (by omega), ← ht, ← List.append_assoc, List.take_append_of_le_length (by simp [hb]; omega), List.take_of_length_le (by simp [hb]; omega)]
/-- Bytes that fill the block. -/
theorem dig_full (l x b : List UInt8) (hb : b.length = 64) (ht : b.take (l.length % 64) = l.drop (64 * (l.length / 64))) (h : l.length % 64 + x.length = 64) :
    absN (l ++ x) ((l ++ x).length / 64) = uponS (b.take (l.length % 64) ++ (x ++ b.drop (l.length % 64 + x.length))) (absN l (l.length / 64)) ∧
    (b.take (l.length % 64) ++ (x ++ b.drop (l.length % 64 + x.length))).take ((l ++ x).length % 64) = (l ++ x).drop (64 * ((l ++ x).length / 64)) := by
  have e1 : (l ++ x).length / 64 = l.length / 64 + 1 := by rw [List.length_append]; omega
  have e2 : (l ++ x).length % 64 = 0 := by rw [List.length_append]; omega
  rw [e1, e2]
  constructor
  · show uponS (blk (l ++ x) (l.length / 64)) (absN (l ++ x) (l.length / 64)) = _
    rw [absN_prefix l x _ (by omega), h, List.drop_of_length_le (by omega), List.append_nil, ht]
    congr 1
    unfold blk
    rw [List.drop_append_of_le_length (by omega), List.take_of_length_le (by rw [List.length_append, List.length_drop]; omega)]
  · rw [List.take_zero, List.drop_of_length_le (by rw [List.length_append]; omega)]
theorem full_len (l x b : List UInt8) (hb : b.length = 64) (h : l.length % 64 + x.length ≤ 64) : (b.take (l.length % 64) ++ (x ++ b.drop (l.length % 64 + x.length))).length = 64 := by
  simp [hb]; omega
end Go.Proofs.Ytnifhgcdpgokhaa
