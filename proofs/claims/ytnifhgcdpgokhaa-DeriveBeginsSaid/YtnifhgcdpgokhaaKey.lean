/-
  HMAC and PBKDF2 as plain functions on lists of bytes.
-/
import Derived.Test.YtnifhgcdpgokhaaNum
namespace Go.Proofs.Ytnifhgcdpgokhaa

theorem sha_length (l : List UInt8) : (sha l).length = 32 := by simp [sha]
/-- A key of at most 64 bytes; a longer one's SHA-256. -/
def shortK (k : List UInt8) : List UInt8 := if 64 < k.length then sha k else k
theorem shortK_len (k : List UInt8) : (shortK k).length ≤ 64 := by
  unfold shortK
  split
  · rw [sha_length]; omega
  · omega
/-- The key, brought to 64 bytes. -/
def keyL (k : List UInt8) : List UInt8 := shortK k ++ List.replicate (64 - (shortK k).length) 0
theorem keyL_len (k : List UInt8) : (keyL k).length = 64 := by
  have := shortK_len k
  simp [keyL]; omega
def maskL (m : UInt8) (l : List UInt8) : List UInt8 := l.map (· ^^^ m)
theorem maskL_len (m : UInt8) (l : List UInt8) : (maskL m l).length = l.length := by simp [maskL]
/-- The HMAC of b under a key of 64 bytes. -/
def hmacK (K b : List UInt8) : List UInt8 := sha (maskL 92 K ++ sha (maskL 54 K ++ b))
theorem hmacK_len (K b : List UInt8) : (hmacK K b).length = 32 := sha_length _
def hmac (k b : List UInt8) : List UInt8 := hmacK (keyL k) b
def be4L (i : Nat) : List UInt8 := [UInt8.ofNat (i / 16777216), UInt8.ofNat (i / 65536), UInt8.ofNat (i / 256), UInt8.ofNat i]
def xorL (a b : List UInt8) : List UInt8 := List.zipWith (· ^^^ ·) a b
theorem xorL_len (a b : List UInt8) : (xorL a b).length = min a.length b.length := by simp [xorL]
/-- U(j + 1) of block i. -/
def uN (K s : List UInt8) (i : Nat) : Nat → List UInt8
  | 0 => hmacK K (s ++ be4L i)
  | j + 1 => hmacK K (uN K s i j)
theorem uN_len (K s : List UInt8) (i : Nat) : ∀ j, (uN K s i j).length = 32
  | 0 => hmacK_len _ _
  | _ + 1 => hmacK_len _ _
/-- U1 xor .. xor U(j + 1). -/
def xN (K s : List UInt8) (i : Nat) : Nat → List UInt8
  | 0 => uN K s i 0
  | j + 1 => xorL (xN K s i j) (uN K s i (j + 1))
theorem xN_len (K s : List UInt8) (i : Nat) : ∀ j, (xN K s i j).length = 32
  | 0 => uN_len _ _ _ 0
  | j + 1 => by
    show (xorL _ _).length = 32
    rw [xorL_len, xN_len K s i j, uN_len]
    rfl
def blockL (K s : List UInt8) (r i : Nat) : List UInt8 := xN K s i (r - 1)
theorem blockL_len (K s : List UInt8) (r i : Nat) : (blockL K s r i).length = 32 := xN_len _ _ _ _
/-- The first k blocks. -/
def blocksL (K s : List UInt8) (r : Nat) : Nat → List UInt8
  | 0 => []
  | k + 1 => blocksL K s r k ++ blockL K s r (k + 1)
theorem blocksL_len (K s : List UInt8) (r : Nat) : ∀ k, (blocksL K s r k).length = 32 * k
  | 0 => rfl
  | k + 1 => by
    show (blocksL K s r k ++ _).length = _
    rw [List.length_append, blocksL_len K s r k, blockL_len]; omega
/-- The first n bytes of the blocks. -/
def pbk (k s : List UInt8) (r n : Nat) : List UInt8 := (blocksL (keyL k) s r 32).take n
theorem pbk_len (k s : List UInt8) (r n : Nat) (h : n ≤ 1024) : (pbk k s r n).length = n := by
  unfold pbk
  rw [List.length_take, blocksL_len]; omega
theorem blocksL_take (K s : List UInt8) (r : Nat) (k : Nat) : ∀ d, (blocksL K s r (k + d)).take (32 * k) = blocksL K s r k
  | 0 => by rw [List.take_of_length_le]; · rfl
            · rw [Nat.add_zero, blocksL_len]; omega
  | d + 1 => by
    show (blocksL K s r (k + d) ++ _).take _ = _
    rw [List.take_append_of_le_length (by rw [blocksL_len]; omega)]
    exact blocksL_take K s r k d
theorem pbk_of (k s : List UInt8) (r n m : Nat) (h : n ≤ 32 * m) (hm : m ≤ 32) : (blocksL (keyL k) s r m).take n = pbk k s r n := by
  unfold pbk
  have e := blocksL_take (keyL k) s r m (32 - m)
  rw [show m + (32 - m) = 32 by omega] at e
  rw [← e, List.take_take]
  congr 1
  omega
theorem pbk_take (k s : List UInt8) (r n m : Nat) (h : m ≤ n) : (pbk k s r n).take m = pbk k s r m := by
  unfold pbk
  rw [List.take_take]
  congr 1
  omega
/-- A key's bytes and noughts behind it, as long as it is short; a long key's hash: the same key. -/
theorem keyL_noughts (k : List UInt8) (m : Nat) (h : k.length + m ≤ 64) : keyL (k ++ List.replicate m 0) = keyL k := by
  unfold keyL shortK
  rw [if_neg (by simp; omega), if_neg (by omega), List.append_assoc, List.replicate_append_replicate]
  congr 2
  simp; omega
theorem keyL_hash (k : List UInt8) (h : 64 < k.length) : keyL (sha k) = keyL k := by
  unfold keyL
  have e : shortK k = sha k := by unfold shortK; rw [if_pos h]
  have e2 : shortK (sha k) = sha k := by unfold shortK; rw [if_neg (by rw [sha_length]; omega)]
  rw [e, e2]
end Go.Proofs.Ytnifhgcdpgokhaa
