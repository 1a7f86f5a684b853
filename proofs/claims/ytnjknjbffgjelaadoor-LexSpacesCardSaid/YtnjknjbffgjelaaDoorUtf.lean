/-
  Strings as lists of bytes; how many bytes a rune has; ranges over a string.
-/
import Derived.Test.YtnjknjbffgjelaaDoorProg
import Derived.WalkKit
import Derived.WalkSpells
import Derived.Deep.LoopGhost
import Derived.Lib.OthersKept
import Derived.Lib.Strings
import Derived.Lib.Walk
import Derived.Below
import Derived.Lib.Hide
set_option linter.unusedVariables false
set_option linter.unusedSimpArgs false
namespace Go.Proofs.YtnjknjbffgjelaaDoor
open Go.RowKit

/-- A string's bytes; a string of bytes. -/
def bl (s : ByteArray) : List UInt8 := s.data.toList
def str (l : List UInt8) : ByteArray := ⟨l.toArray⟩
theorem bl_str (l : List UInt8) : bl (str l) = l := rfl
theorem str_bl (s : ByteArray) : str (bl s) = s := by cases s; simp [str, bl]
theorem bl_len (s : ByteArray) : (bl s).length = s.size := by
  show s.data.toList.length = s.data.size
  exact Array.length_toList
theorem str_size (l : List UInt8) : (str l).size = l.length := by rw [← bl_len, bl_str]
theorem str_inj {a b : List UInt8} (h : str a = str b) : a = b := by rw [← bl_str a, h, bl_str]
theorem get_bl (s : ByteArray) (i : Nat) (h : i < s.size) : s[i]'h = (bl s)[i]'(by rw [bl_len]; exact h) := rfl
theorem bang_bl (s : ByteArray) (i : Nat) (h : i < s.size) : s.get! i = (bl s)[i]'(by rw [bl_len]; exact h) := by
  simp [ByteArray.get!, getElem!_pos, h]
  rfl
theorem ext_str (s : ByteArray) (a b : Nat) (hb : b ≤ s.size) : s.extract a b = str (((bl s).take b).drop a) := by
  rw [← str_bl (s.extract a b)]
  congr 1
  have h := Lib.extract_toList s a b
  rw [Lib.toList_data] at h
  show (s.extract a b).data.toList = _
  rw [h]
  unfold bl
  rw [List.drop_take]
/-- The width of a rune: it ends within the string, and all but its first byte are high. -/
theorem dec_tail (s : ByteArray) (pos : Nat) (h : pos < s.size) : pos + (Utf8.decode s pos).2 ≤ s.size ∧ 1 ≤ (Utf8.decode s pos).2 ∧ ∀ j, 1 ≤ j → j < (Utf8.decode s pos).2 → 128 ≤ (s.get! (pos + j)).toNat := by
  have hc : ∀ k, (decide (pos + k < s.size) && (s.get! (pos + k)).toNat / 64 == 2) = true → pos + k < s.size ∧ 128 ≤ (s.get! (pos + k)).toNat := by
    intro k hk
    simp only [Bool.and_eq_true, decide_eq_true_eq, beq_iff_eq] at hk
    omega
  simp only [Utf8.decode]
  split
  · exact ⟨by omega, by omega, fun j a b => absurd b (by omega)⟩
  split
  next h2 =>
    simp only [Bool.and_eq_true] at h2
    have c1 := hc 1 (by simpa using h2.2)
    split
    · refine ⟨by show pos + 2 ≤ _; omega, by show 1 ≤ 2; omega, fun j a b => ?_⟩
      obtain rfl : j = 1 := by have : j < 2 := b; omega
      exact c1.2
    · exact ⟨by show pos + 1 ≤ _; omega, Nat.le_refl _, fun j a b => absurd b (by show ¬ j < 1; omega)⟩
  split
  next h2 =>
    simp only [Bool.and_eq_true] at h2
    have c1 := hc 1 (by simpa using h2.1.2)
    have c2 := hc 2 (by simpa using h2.2)
    split
    · refine ⟨by show pos + 3 ≤ _; omega, by show 1 ≤ 3; omega, fun j a b => ?_⟩
      have b3 : j < 3 := b
      rcases (by omega : j = 1 ∨ j = 2) with rfl | rfl
      · exact c1.2
      · exact c2.2
    · exact ⟨by show pos + 1 ≤ _; omega, Nat.le_refl _, fun j a b => absurd b (by show ¬ j < 1; omega)⟩
  split
  next h2 =>
    simp only [Bool.and_eq_true] at h2
    have c1 := hc 1 (by simpa using h2.1.1.2)
    have c2 := hc 2 (by simpa using h2.1.2)
    have c3 := hc 3 (by simpa using h2.2)
    split
    · refine ⟨by show pos + 4 ≤ _; omega, by show 1 ≤ 4; omega, fun j a b => ?_⟩
      have b3 : j < 4 := b
      rcases (by omega : j = 1 ∨ j = 2 ∨ j = 3) with rfl | rfl | rfl
      · exact c1.2
      · exact c2.2
      · exact c3.2
    · exact ⟨by show pos + 1 ≤ _; omega, Nat.le_refl _, fun j a b => absurd b (by show ¬ j < 1; omega)⟩
  · exact ⟨by show pos + 1 ≤ _; omega, Nat.le_refl _, fun j a b => absurd b (by show ¬ j < 1; omega)⟩
/-- What a range tells of a place: the rune, how wide it is; low bytes are runes by themselves. -/
theorem dec_any (s : ByteArray) (pos : Nat) (h : pos < s.size) : ∃ r k : Nat, Utf8.decode s pos = (r, k) ∧ r ≤ 2147483647 ∧ 1 ≤ k ∧ pos + k ≤ s.size ∧
    ((((bl s)[pos]'(by rw [bl_len]; exact h)).toNat < 128 ∧ r = ((bl s)[pos]'(by rw [bl_len]; exact h)).toNat ∧ k = 1) ∨
     (128 ≤ ((bl s)[pos]'(by rw [bl_len]; exact h)).toNat ∧ 128 ≤ r ∧ ∀ j (hj : pos + j < s.size), 1 ≤ j → j < k → 128 ≤ ((bl s)[pos + j]'(by rw [bl_len]; exact hj)).toNat)) := by
  have ht := dec_tail s pos h
  have hl := decode_le s pos
  refine ⟨(Utf8.decode s pos).1, (Utf8.decode s pos).2, rfl, hl, ht.2.1, ht.1, ?_⟩
  by_cases ha : ((bl s)[pos]'(by rw [bl_len]; exact h)).toNat < 128
  · have := decode_ascii s pos h (by rw [get_bl]; exact ha)
    rw [this]
    exact .inl ⟨ha, rfl, rfl⟩
  · have hh := decode_high s pos h (by rw [get_bl]; omega)
    refine .inr ⟨by omega, hh.1, fun j hj a b => ?_⟩
    have := ht.2.2 j a b
    rw [bang_bl s _ hj] at this
    exact this
/-- Where the iterator stands. -/
theorem iterPos_of {w : World} {k : Nat} {s : ByteArray} {p : Nat} (h : w.heap[k]? = some (.stringIter s p)) : w.iterPos k = p := by simp [World.iterPos, h]
end Go.Proofs.YtnjknjbffgjelaaDoor
