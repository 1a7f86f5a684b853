/-
  The stream of a cipher and a nonce as plain functions: its bytes, its parts; a text turned by it, whole and in parts, and back.
-/
import Derived.Test.YtlgabihjfjlhkaaEnc
namespace Go.Proofs.Ytlgabihjfjlhkaa

/-- i as eight bytes, the highest first. -/
def be8L (i : Nat) : List UInt8 := (List.range 8).map (fun j => UInt8.ofNat (i / 2 ^ (8 * (7 - j)) % 256))
theorem be8L_len (i : Nat) : (be8L i).length = 8 := by simp [be8L]
/-- The first n bytes of i, the highest first. -/
def be8P (i n : Nat) : List UInt8 := (List.range n).map (fun j => UInt8.ofNat (i / 2 ^ (8 * (7 - j)) % 256))
theorem be8P_len (i n : Nat) : (be8P i n).length = n := by simp [be8P]
theorem be8P_next (i n : Nat) : be8P i n ++ [UInt8.ofNat (i / 2 ^ (8 * (7 - n)) % 256)] = be8P i (n + 1) := by simp [be8P, List.range_succ]
theorem be8P_end (i : Nat) : be8P i 8 = be8L i := rfl
/-- Block i of the stream. -/
def blkS (K : Nat → Nat) (non : List UInt8) (i : Nat) : List UInt8 := encL K (non ++ be8L i)
theorem blkS_len (K : Nat → Nat) (non : List UInt8) (i : Nat) : (blkS K non i).length = 16 := outL_len _
/-- The stream's byte at place p. -/
def stB (K : Nat → Nat) (non : List UInt8) (p : Nat) : UInt8 := (blkS K non (p / 16)).getD (p % 16) 0
theorem stB_get (K : Nat → Nat) (non : List UInt8) (p : Nat) : stB K non p = (blkS K non (p / 16))[p % 16]'(by rw [blkS_len]; omega) := by
  unfold stB
  rw [List.getD_eq_getElem?_getD, List.getElem?_eq_getElem (by rw [blkS_len]; omega)]
  rfl
/-- n bytes of the stream from place a on. -/
def stL (K : Nat → Nat) (non : List UInt8) (a n : Nat) : List UInt8 := (List.range n).map (fun j => stB K non (a + j))
theorem stL_len (K : Nat → Nat) (non : List UInt8) (a n : Nat) : (stL K non a n).length = n := by simp [stL]
theorem stL_get (K : Nat → Nat) (non : List UInt8) (a n j : Nat) (h : j < (stL K non a n).length) : (stL K non a n)[j] = stB K non (a + j) := by simp [stL]
theorem stL_next (K : Nat → Nat) (non : List UInt8) (a n : Nat) : stL K non a n ++ [stB K non (a + n)] = stL K non a (n + 1) := by simp [stL, List.range_succ]
theorem stL_drop (K : Nat → Nat) (non : List UInt8) (a n k : Nat) (h : k ≤ n) : (stL K non a n).drop k = stL K non (a + k) (n - k) := by
  apply List.ext_getElem
  · rw [List.length_drop, stL_len, stL_len]
  · intro i h1 h2
    rw [List.getElem_drop, stL_get, stL_get, Nat.add_assoc]
theorem stL_take (K : Nat → Nat) (non : List UInt8) (a n k : Nat) (h : k ≤ n) : (stL K non a n).take k = stL K non a k := by
  apply List.ext_getElem
  · rw [List.length_take, stL_len, stL_len]; omega
  · intro i h1 h2
    rw [List.getElem_take, stL_get, stL_get]
/-- b turned at place a. -/
def turnL (K : Nat → Nat) (non : List UInt8) (a : Nat) (b : List UInt8) : List UInt8 := List.zipWith (· ^^^ ·) b (stL K non a b.length)
theorem turnL_len (K : Nat → Nat) (non : List UInt8) (a : Nat) (b : List UInt8) : (turnL K non a b).length = b.length := by
  unfold turnL; rw [List.length_zipWith, stL_len]; omega
theorem turnL_get (K : Nat → Nat) (non : List UInt8) (a : Nat) (b : List UInt8) (j : Nat) (h : j < (turnL K non a b).length) : (turnL K non a b)[j] = (b[j]'(by rw [turnL_len] at h; exact h)) ^^^ stB K non (a + j) := by
  have e : (List.zipWith (· ^^^ ·) b (stL K non a b.length))[j]'h = (b[j]'(by rw [turnL_len] at h; exact h)) ^^^ (stL K non a b.length)[j]'(by rw [stL_len]; rw [turnL_len] at h; exact h) := List.getElem_zipWith
  rw [stL_get] at e
  exact e
theorem turnL_take (K : Nat → Nat) (non : List UInt8) (a k : Nat) (b : List UInt8) : turnL K non a (b.take k) = (turnL K non a b).take k := by
  apply List.ext_getElem
  · rw [turnL_len, List.length_take, List.length_take, turnL_len]
  · intro i h1 h2
    rw [turnL_get, List.getElem_take, List.getElem_take, turnL_get]
theorem turnL_drop (K : Nat → Nat) (non : List UInt8) (a k : Nat) (b : List UInt8) : turnL K non (a + k) (b.drop k) = (turnL K non a b).drop k := by
  apply List.ext_getElem
  · rw [turnL_len, List.length_drop, List.length_drop, turnL_len]
  · intro i h1 h2
    rw [turnL_get, List.getElem_drop, List.getElem_drop, turnL_get, Nat.add_assoc]
/-- In parts, each at its place, is the whole. -/
theorem turnL_parts (K : Nat → Nat) (non : List UInt8) (a k : Nat) (b : List UInt8) : turnL K non a (b.take k) ++ turnL K non (a + k) (b.drop k) = turnL K non a b := by
  rw [turnL_take, turnL_drop, List.take_append_drop]
/-- Turned twice is what it was. -/
theorem turnL_turnL (K : Nat → Nat) (non : List UInt8) (a : Nat) (b : List UInt8) : turnL K non a (turnL K non a b) = b := by
  apply List.ext_getElem
  · rw [turnL_len, turnL_len]
  · intro i h1 h2
    rw [turnL_get, turnL_get, UInt8.xor_assoc, UInt8.xor_self, UInt8.xor_zero]
/-- The first k bytes turned. -/
def turnP (K : Nat → Nat) (non : List UInt8) (a : Nat) (b : List UInt8) (k : Nat) : List UInt8 := turnL K non a (b.take k)
theorem turnP_next (K : Nat → Nat) (non : List UInt8) (a : Nat) (b : List UInt8) (k : Nat) (h : k < b.length) : turnP K non a b k ++ [b[k] ^^^ stB K non (a + k)] = turnP K non a b (k + 1) := by
  unfold turnP
  rw [turnL_take, turnL_take]
  have hl := turnL_len K non a b
  rw [List.take_succ_eq_append_getElem (by omega), turnL_get]
theorem turnP_end (K : Nat → Nat) (non : List UInt8) (a : Nat) (b : List UInt8) : turnP K non a b b.length = turnL K non a b := by
  unfold turnP; rw [List.take_of_length_le (Nat.le_refl _)]
end Go.Proofs.Ytlgabihjfjlhkaa
