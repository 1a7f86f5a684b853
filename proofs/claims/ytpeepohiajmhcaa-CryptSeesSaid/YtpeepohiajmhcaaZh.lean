/-
  Merged: CGf CCip CByte CBox CTurn CMix CUnmix CCi.
-/
import Derived.Test.YtpeepohiajmhcaaZa
import Derived.KernelRfl
import Derived.Laws.BitsAllLaws
import Derived.BigQuiet
import Derived.BigRegion
import Derived.Outline
import Derived.StillTailTactics
import Derived.Laws.Cover3
/-
  AES' field as plain functions on numbers below 256: Times, what a field's multiplication is; Sub and Back.
-/
namespace Go.Proofs.Ytpeepohiajmhcaa.c

/-- x times a. -/
def xtN (a : Nat) : Nat := if a < 128 then 2 * a else (2 * a) ^^^ 283
/-- The first n bits of b times a. -/
def tmN : Nat → Nat → Nat → Nat
  | 0, _, _ => 0
  | n + 1, a, b => (if b % 2 = 1 then a else 0) ^^^ tmN n (xtN a) (b / 2)
def gf (a b : Nat) : Nat := tmN 8 a b

theorem all2 {p : Nat → Nat → Bool} (h : ((List.range 256).all fun x => (List.range 256).all fun y => p x y) = true) (x y : Nat) (hx : x < 256) (hy : y < 256) : p x y = true := by
  have h1 := List.all_eq_true.1 h x (List.mem_range.2 hx)
  exact List.all_eq_true.1 h1 y (List.mem_range.2 hy)
theorem all1 {p : Nat → Bool} (h : ((List.range 256).all fun x => p x) = true) (x : Nat) (hx : x < 256) : p x = true := List.all_eq_true.1 h x (List.mem_range.2 hx)

theorem xor8 {a b : Nat} (ha : a < 256) (hb : b < 256) : a ^^^ b < 256 := Nat.xor_lt_two_pow (n := 8) ha hb
theorem xtN_all : ((List.range 256).all fun x => (List.range 256).all fun y => xtN (x ^^^ y) == xtN x ^^^ xtN y) = true := by kernel_rfl
theorem xtN_xor (x y : Nat) (hx : x < 256) (hy : y < 256) : xtN (x ^^^ y) = xtN x ^^^ xtN y := by
  have := all2 xtN_all x y hx hy
  simpa using this
theorem xtN_lt_all : ((List.range 256).all fun x => decide (xtN x < 256)) = true := by kernel_rfl
theorem xtN_lt (x : Nat) (hx : x < 256) : xtN x < 256 := by simpa using all1 xtN_lt_all x hx
theorem tmN_lt : ∀ (n a b : Nat), a < 256 → tmN n a b < 256
  | 0, _, _, _ => by simp [tmN]
  | n + 1, a, b, h => by
    unfold tmN
    refine xor8 ?_ (tmN_lt n _ _ (xtN_lt a h))
    split <;> omega
theorem gf_lt (a b : Nat) (h : a < 256) : gf a b < 256 := tmN_lt 8 a b h
theorem xor_swap4 (a b c d : Nat) : (a ^^^ b) ^^^ (c ^^^ d) = (a ^^^ c) ^^^ (b ^^^ d) := by
  rw [Nat.xor_assoc, Nat.xor_assoc, ← Nat.xor_assoc b c d, Nat.xor_comm b c, Nat.xor_assoc c b d]
theorem tmN_xor_left : ∀ (n a a' b : Nat), a < 256 → a' < 256 → tmN n (a ^^^ a') b = tmN n a b ^^^ tmN n a' b
  | 0, _, _, _, _, _ => by simp [tmN]
  | n + 1, a, a', b, h, h' => by
    unfold tmN
    rw [xtN_xor a a' h h', tmN_xor_left n _ _ _ (xtN_lt a h) (xtN_lt a' h'), xor_swap4]
    congr 1
    split <;> simp
theorem xor_half (b b' : Nat) : (b ^^^ b') / 2 = (b / 2) ^^^ (b' / 2) := by
  apply Nat.eq_of_testBit_eq
  intro i
  simp [Nat.testBit_div_two, Nat.testBit_xor]
theorem xor_parity (b b' : Nat) : (b ^^^ b') % 2 = (b % 2 + b' % 2) % 2 := by
  have e := Nat.xor_mod_two_eq_one (a := b) (b := b')
  have h1 := Nat.mod_two_eq_zero_or_one b
  have h2 := Nat.mod_two_eq_zero_or_one b'
  have h3 := Nat.mod_two_eq_zero_or_one (b ^^^ b')
  rcases h1 with h1 | h1 <;> rcases h2 with h2 | h2 <;> rcases h3 with h3 | h3 <;> simp_all
theorem tmN_xor_right : ∀ (n a b b' : Nat), tmN n a (b ^^^ b') = tmN n a b ^^^ tmN n a b'
  | 0, _, _, _ => by simp [tmN]
  | n + 1, a, b, b' => by
    unfold tmN
    rw [xor_half, tmN_xor_right n, xor_swap4]
    congr 1
    rw [xor_parity]
    have h1 := Nat.mod_two_eq_zero_or_one b
    have h2 := Nat.mod_two_eq_zero_or_one b'
    rcases h1 with h1 | h1 <;> rcases h2 with h2 | h2 <;> simp [h1, h2]
theorem gf_xor_left (a a' b : Nat) (h : a < 256) (h' : a' < 256) : gf (a ^^^ a') b = gf a b ^^^ gf a' b := tmN_xor_left 8 a a' b h h'
theorem gf_xor_right (a b b' : Nat) : gf a (b ^^^ b') = gf a b ^^^ gf a b' := tmN_xor_right 8 a b b'

theorem basis_all : ((List.range 256).all fun x => x == ((((((x &&& 1) ^^^ (x &&& 2)) ^^^ (x &&& 4)) ^^^ (x &&& 8)) ^^^ (x &&& 16)) ^^^ (x &&& 32)) ^^^ ((x &&& 64) ^^^ (x &&& 128))) = true := by kernel_rfl
theorem bit_all : ((List.range 256).all fun x => (x &&& 1 == 0 || x &&& 1 == 1) && (x &&& 2 == 0 || x &&& 2 == 2) && (x &&& 4 == 0 || x &&& 4 == 4) && (x &&& 8 == 0 || x &&& 8 == 8) && (x &&& 16 == 0 || x &&& 16 == 16) && (x &&& 32 == 0 || x &&& 32 == 32) && (x &&& 64 == 0 || x &&& 64 == 64) && (x &&& 128 == 0 || x &&& 128 == 128)) = true := by kernel_rfl
/-- Goes through sums. -/
def Lin (f : Nat → Nat) : Prop := ∀ x y, x < 256 → y < 256 → f (x ^^^ y) = f x ^^^ f y
theorem Lin.zero {f : Nat → Nat} (h : Lin f) : f 0 = 0 := by
  have := h 0 0 (by omega) (by omega)
  rw [Nat.xor_self, Nat.xor_self] at this
  exact this
/-- What goes through sums is told by the powers of 2. -/
theorem lin_ext {f g : Nat → Nat} (hf : Lin f) (hg : Lin g) (h : ∀ i, i < 8 → f (2 ^ i) = g (2 ^ i)) (x : Nat) (hx : x < 256) : f x = g x := by
  have hb := all1 bit_all x hx
  have hs := all1 basis_all x hx
  simp only [beq_iff_eq] at hs
  simp only [Bool.and_eq_true, Bool.or_eq_true, beq_iff_eq] at hb
  obtain ⟨⟨⟨⟨⟨⟨⟨h0, h1⟩, h2⟩, h3⟩, h4⟩, h5⟩, h6⟩, h7⟩ := hb
  have one : ∀ i, i < 8 → ∀ y, (y = 0 ∨ y = 2 ^ i) → f y = g y ∧ y < 256 := by
    intro i hi y hy
    rcases hy with rfl | rfl
    · exact ⟨by rw [hf.zero, hg.zero], by omega⟩
    · have : 2 ^ i ≤ 2 ^ 7 := Nat.pow_le_pow_right (by omega) (by omega)
      exact ⟨h i hi, by omega⟩
  have two : ∀ y z, (f y = g y ∧ y < 256) → (f z = g z ∧ z < 256) → f (y ^^^ z) = g (y ^^^ z) ∧ y ^^^ z < 256 := by
    intro y z ⟨e1, l1⟩ ⟨e2, l2⟩
    exact ⟨by rw [hf y z l1 l2, hg y z l1 l2, e1, e2], xor8 l1 l2⟩
  rw [hs]
  exact (two _ _ (two _ _ (two _ _ (two _ _ (two _ _ (two _ _ (one 0 (by omega) _ h0) (one 1 (by omega) _ h1)) (one 2 (by omega) _ h2)) (one 3 (by omega) _ h3)) (one 4 (by omega) _ h4)) (one 5 (by omega) _ h5)) (two _ _ (one 6 (by omega) _ h6) (one 7 (by omega) _ h7))).1
theorem pow_lt {i : Nat} (h : i < 8) : 2 ^ i < 256 := by
  have : 2 ^ i ≤ 2 ^ 7 := Nat.pow_le_pow_right (by omega) (by omega)
  omega
theorem all8 {p : Nat → Bool} (h : ((List.range 8).all fun x => p x) = true) (x : Nat) (hx : x < 8) : p x = true := List.all_eq_true.1 h x (List.mem_range.2 hx)
theorem comm_all : ((List.range 8).all fun i => (List.range 8).all fun j => gf (2 ^ i) (2 ^ j) == gf (2 ^ j) (2 ^ i)) = true := by kernel_rfl
theorem gf_comm (a b : Nat) (ha : a < 256) (hb : b < 256) : gf a b = gf b a := by
  refine lin_ext (f := fun a => gf a b) (g := fun a => gf b a) (fun x y hx hy => gf_xor_left x y b hx hy) (fun x y _ _ => gf_xor_right b x y) (fun i hi => ?_) a ha
  refine lin_ext (f := fun b => gf (2 ^ i) b) (g := fun b => gf b (2 ^ i)) (fun x y _ _ => gf_xor_right _ x y) (fun x y hx hy => gf_xor_left x y _ hx hy) (fun j hj => ?_) b hb
  have := all8 (all8 comm_all i hi) j hj
  simpa using this
theorem assoc_all : ((List.range 8).all fun i => (List.range 8).all fun j => (List.range 8).all fun k => gf (2 ^ i) (gf (2 ^ j) (2 ^ k)) == gf (gf (2 ^ i) (2 ^ j)) (2 ^ k)) = true := by kernel_rfl
theorem gf_assoc (a b c : Nat) (ha : a < 256) (hb : b < 256) (hc : c < 256) : gf a (gf b c) = gf (gf a b) c := by
  refine lin_ext (f := fun a => gf a (gf b c)) (g := fun a => gf (gf a b) c) (fun x y hx hy => gf_xor_left x y _ hx hy) (fun x y hx hy => ?_) (fun i hi => ?_) a ha
  · show gf (gf (x ^^^ y) b) c = _
    rw [gf_xor_left x y b hx hy, gf_xor_left _ _ c (gf_lt _ _ hx) (gf_lt _ _ hy)]
  refine lin_ext (f := fun b => gf (2 ^ i) (gf b c)) (g := fun b => gf (gf (2 ^ i) b) c) (fun x y hx hy => ?_) (fun x y hx hy => ?_) (fun j hj => ?_) b hb
  · show gf (2 ^ i) (gf (x ^^^ y) c) = _
    rw [gf_xor_left x y c hx hy, gf_xor_right]
  · show gf (gf (2 ^ i) (x ^^^ y)) c = _
    rw [gf_xor_right, gf_xor_left _ _ c (gf_lt _ _ (pow_lt hi)) (gf_lt _ _ (pow_lt hi))]
  refine lin_ext (f := fun c => gf (2 ^ i) (gf (2 ^ j) c)) (g := fun c => gf (gf (2 ^ i) (2 ^ j)) c) (fun x y hx hy => ?_) (fun x y _ _ => gf_xor_right _ x y) (fun k hk => ?_) c hc
  · show gf (2 ^ i) (gf (2 ^ j) (x ^^^ y)) = _
    rw [gf_xor_right, gf_xor_right]
  have := all8 (all8 (all8 assoc_all i hi) j hj) k hk
  simpa using this
theorem gf_zero (a : Nat) (ha : a < 256) : gf a 0 = 0 := (show Lin (fun b => gf a b) from fun x y _ _ => gf_xor_right a x y).zero
theorem one_all : ((List.range 256).all fun a => gf a 1 == a) = true := by kernel_rfl
theorem gf_one (a : Nat) (ha : a < 256) : gf a 1 = a := by simpa using all1 one_all a ha
theorem gf_two_all : ((List.range 256).all fun a => gf a 2 == xtN a && gf a 3 == xtN a ^^^ a) = true := by kernel_rfl

def invL : List Nat := [0, 1, 141, 246, 203, 82, 123, 209, 232, 79, 41, 192, 176, 225, 229, 199, 116, 180, 170, 75, 153, 43, 96, 95, 88, 63, 253, 204, 255, 64, 238, 178, 58, 110, 90, 241, 85, 77, 168, 201, 193, 10, 152, 21, 48, 68, 162, 194, 44, 69, 146, 108, 243, 57, 102, 66, 242, 53, 32, 111, 119, 187, 89, 25, 29, 254, 55, 103, 45, 49, 245, 105, 167, 100, 171, 19, 84, 37, 233, 9, 237, 92, 5, 202, 76, 36, 135, 191, 24, 62, 34, 240, 81, 236, 97, 23, 22, 94, 175, 211, 73, 166, 54, 67, 244, 71, 145, 223, 51, 147, 33, 59, 121, 183, 151, 133, 16, 181, 186, 60, 182, 112, 208, 6, 161, 250, 129, 130, 131, 126, 127, 128, 150, 115, 190, 86, 155, 158, 149, 217, 247, 2, 185, 164, 222, 106, 50, 109, 216, 138, 132, 114, 42, 20, 159, 136, 249, 220, 137, 154, 251, 124, 46, 195, 143, 184, 101, 72, 38, 200, 18, 74, 206, 231, 210, 98, 12, 224, 31, 239, 17, 117, 120, 113, 165, 142, 118, 61, 189, 188, 134, 87, 11, 40, 47, 163, 218, 212, 228, 15, 169, 39, 83, 4, 27, 252, 172, 230, 122, 7, 174, 99, 197, 219, 226, 234, 148, 139, 196, 213, 157, 248, 144, 107, 177, 13, 214, 235, 198, 14, 207, 173, 8, 78, 215, 227, 93, 80, 30, 179, 91, 35, 56, 52, 104, 70, 3, 140, 221, 156, 125, 160, 205, 26, 65, 28]
def subL : List Nat := [99, 124, 119, 123, 242, 107, 111, 197, 48, 1, 103, 43, 254, 215, 171, 118, 202, 130, 201, 125, 250, 89, 71, 240, 173, 212, 162, 175, 156, 164, 114, 192, 183, 253, 147, 38, 54, 63, 247, 204, 52, 165, 229, 241, 113, 216, 49, 21, 4, 199, 35, 195, 24, 150, 5, 154, 7, 18, 128, 226, 235, 39, 178, 117, 9, 131, 44, 26, 27, 110, 90, 160, 82, 59, 214, 179, 41, 227, 47, 132, 83, 209, 0, 237, 32, 252, 177, 91, 106, 203, 190, 57, 74, 76, 88, 207, 208, 239, 170, 251, 67, 77, 51, 133, 69, 249, 2, 127, 80, 60, 159, 168, 81, 163, 64, 143, 146, 157, 56, 245, 188, 182, 218, 33, 16, 255, 243, 210, 205, 12, 19, 236, 95, 151, 68, 23, 196, 167, 126, 61, 100, 93, 25, 115, 96, 129, 79, 220, 34, 42, 144, 136, 70, 238, 184, 20, 222, 94, 11, 219, 224, 50, 58, 10, 73, 6, 36, 92, 194, 211, 172, 98, 145, 149, 228, 121, 231, 200, 55, 109, 141, 213, 78, 169, 108, 86, 244, 234, 101, 122, 174, 8, 186, 120, 37, 46, 28, 166, 180, 198, 232, 221, 116, 31, 75, 189, 139, 138, 112, 62, 181, 102, 72, 3, 246, 14, 97, 53, 87, 185, 134, 193, 29, 158, 225, 248, 152, 17, 105, 217, 142, 148, 155, 30, 135, 233, 206, 85, 40, 223, 140, 161, 137, 13, 191, 230, 66, 104, 65, 153, 45, 15, 176, 84, 187, 22]
def backL : List Nat := [82, 9, 106, 213, 48, 54, 165, 56, 191, 64, 163, 158, 129, 243, 215, 251, 124, 227, 57, 130, 155, 47, 255, 135, 52, 142, 67, 68, 196, 222, 233, 203, 84, 123, 148, 50, 166, 194, 35, 61, 238, 76, 149, 11, 66, 250, 195, 78, 8, 46, 161, 102, 40, 217, 36, 178, 118, 91, 162, 73, 109, 139, 209, 37, 114, 248, 246, 100, 134, 104, 152, 22, 212, 164, 92, 204, 93, 101, 182, 146, 108, 112, 72, 80, 253, 237, 185, 218, 94, 21, 70, 87, 167, 141, 157, 132, 144, 216, 171, 0, 140, 188, 211, 10, 247, 228, 88, 5, 184, 179, 69, 6, 208, 44, 30, 143, 202, 63, 15, 2, 193, 175, 189, 3, 1, 19, 138, 107, 58, 145, 17, 65, 79, 103, 220, 234, 151, 242, 207, 206, 240, 180, 230, 115, 150, 172, 116, 34, 231, 173, 53, 133, 226, 249, 55, 232, 28, 117, 223, 110, 71, 241, 26, 113, 29, 41, 197, 137, 111, 183, 98, 14, 170, 24, 190, 27, 252, 86, 62, 75, 198, 210, 121, 32, 154, 219, 192, 254, 120, 205, 90, 244, 31, 221, 168, 51, 136, 7, 199, 49, 177, 18, 16, 89, 39, 128, 236, 95, 96, 81, 127, 169, 25, 181, 74, 13, 45, 229, 122, 159, 147, 201, 156, 239, 160, 224, 59, 77, 174, 42, 245, 176, 200, 235, 187, 60, 131, 83, 153, 97, 23, 43, 4, 126, 186, 119, 214, 38, 225, 105, 20, 99, 85, 33, 12, 125]
/-- What times b is 1 (0 for 0). -/
def invN (b : Nat) : Nat := invL.getD b 0
/-- Bit i of Sub. -/
def subBit (c i : Nat) : Nat := ((((((99 / 2 ^ i % 2) ^^^ (c / 2 ^ i % 2)) ^^^ (c / 2 ^ ((i + 4) % 8) % 2)) ^^^ (c / 2 ^ ((i + 5) % 8) % 2)) ^^^ (c / 2 ^ ((i + 6) % 8) % 2)) ^^^ (c / 2 ^ ((i + 7) % 8) % 2))
/-- The first n bits of Sub. -/
def affN (c : Nat) : Nat → Nat
  | 0 => 0
  | i + 1 => affN c i + subBit c i * 2 ^ i
def subN (b : Nat) : Nat := subL.getD b 0
def backN (b : Nat) : Nat := backL.getD b 0
theorem inv_all : ((List.range 256).all fun b => decide (invN b < 256) && (b == 0 || gf b (invN b) == 1) && (invN 0 == 0)) = true := by kernel_rfl
theorem sub_all : ((List.range 256).all fun b => affN (invN b) 8 == subN b && decide (subN b < 256) && decide (backN b < 256) && backN (subN b) == b && subN (backN b) == b) = true := by kernel_rfl
theorem inv_lt (b : Nat) (hb : b < 256) : invN b < 256 := by have := all1 inv_all b hb; simp at this; exact this.1.1
theorem inv_one (b : Nat) (hb : b < 256) (h0 : b ≠ 0) : gf b (invN b) = 1 := by
  have := all1 inv_all b hb
  simp at this
  rcases this.1.2 with h | h
  · exact absurd h h0
  · exact h
theorem inv_zero : invN 0 = 0 := rfl
theorem sub_aff (b : Nat) (hb : b < 256) : affN (invN b) 8 = subN b := by have := all1 sub_all b hb; simp at this; exact this.1.1.1.1
theorem sub_lt (b : Nat) (hb : b < 256) : subN b < 256 := by have := all1 sub_all b hb; simp at this; exact this.1.1.1.2
theorem back_lt (b : Nat) (hb : b < 256) : backN b < 256 := by have := all1 sub_all b hb; simp at this; exact this.1.1.2
theorem back_sub (b : Nat) (hb : b < 256) : backN (subN b) = b := by have := all1 sub_all b hb; simp at this; exact this.1.2
theorem sub_back (b : Nat) (hb : b < 256) : subN (backN b) = b := by have := all1 sub_all b hb; simp at this; exact this.2
theorem gf_one_left (a : Nat) (ha : a < 256) : gf 1 a = a := by rw [gf_comm 1 a (by omega) ha, gf_one a ha]
theorem gf_zero_left (a : Nat) (ha : a < 256) : gf 0 a = 0 := by rw [gf_comm 0 a (by omega) ha, gf_zero a ha]
/-- What times b is 1 is one number alone. -/
theorem inv_unique (x b : Nat) (hx : x < 256) (hb : b < 256) : gf x b = 1 ↔ (b ≠ 0 ∧ x = invN b) := by
  constructor
  · intro h
    have h0 : b ≠ 0 := by rintro rfl; rw [gf_zero x hx] at h; omega
    refine ⟨h0, ?_⟩
    have e := gf_assoc x b (invN b) hx hb (inv_lt b hb)
    rw [inv_one b hb h0, gf_one x hx, h, gf_one_left _ (inv_lt b hb)] at e
    exact e
  · rintro ⟨h0, rfl⟩
    rw [gf_comm _ _ (inv_lt b hb) hb, inv_one b hb h0]
theorem gf_inv_found (a : Nat) (ha : a < 256) : (∃ x, x < 256 ∧ gf a x = 1) ↔ a ≠ 0 := by
  constructor
  · rintro ⟨x, hx, h⟩ rfl
    rw [gf_zero_left x hx] at h
    omega
  · exact fun h0 => ⟨_, inv_lt a ha, inv_one a ha h0⟩

/-- A column mixed: its byte i, of the bytes from i on. -/
def mixN (a b c d : Nat) : Nat := ((gf 2 a ^^^ gf 3 b) ^^^ c) ^^^ d
def unmixN (a b c d : Nat) : Nat := ((gf 14 a ^^^ gf 11 b) ^^^ gf 13 c) ^^^ gf 9 d
theorem mixN_lt (a b c d : Nat) (ha : a < 256) (hb : b < 256) (hc : c < 256) (hd : d < 256) : mixN a b c d < 256 := xor8 (xor8 (xor8 (gf_lt _ _ (by omega)) (gf_lt _ _ (by omega))) hc) hd
theorem unmixN_lt (a b c d : Nat) : unmixN a b c d < 256 := xor8 (xor8 (xor8 (gf_lt _ _ (by omega)) (gf_lt _ _ (by omega))) (gf_lt _ _ (by omega))) (gf_lt _ _ (by omega))
theorem coef_all : ((List.range 256).all fun x =>
    (((gf 14 (gf 2 x) ^^^ gf 11 x) ^^^ gf 13 x) ^^^ gf 9 (gf 3 x)) == x && (((gf 14 (gf 3 x) ^^^ gf 11 (gf 2 x)) ^^^ gf 13 x) ^^^ gf 9 x) == 0 &&
    (((gf 14 x ^^^ gf 11 (gf 3 x)) ^^^ gf 13 (gf 2 x)) ^^^ gf 9 x) == 0 && (((gf 14 x ^^^ gf 11 x) ^^^ gf 13 (gf 3 x)) ^^^ gf 9 (gf 2 x)) == 0) = true := by kernel_rfl
theorem coef_all2 : ((List.range 256).all fun x =>
    (((gf 2 (gf 14 x) ^^^ gf 3 (gf 9 x)) ^^^ gf 13 x) ^^^ gf 11 x) == x && (((gf 2 (gf 11 x) ^^^ gf 3 (gf 14 x)) ^^^ gf 9 x) ^^^ gf 13 x) == 0 &&
    (((gf 2 (gf 13 x) ^^^ gf 3 (gf 11 x)) ^^^ gf 14 x) ^^^ gf 9 x) == 0 && (((gf 2 (gf 9 x) ^^^ gf 3 (gf 13 x)) ^^^ gf 11 x) ^^^ gf 14 x) == 0) = true := by kernel_rfl
theorem unmix_mix (a b c d : Nat) (ha : a < 256) (hb : b < 256) (hc : c < 256) (hd : d < 256) :
    unmixN (mixN a b c d) (mixN b c d a) (mixN c d a b) (mixN d a b c) = a := by
  have h1 := all1 coef_all a ha
  have h2 := all1 coef_all b hb
  have h3 := all1 coef_all c hc
  have h4 := all1 coef_all d hd
  simp only [Bool.and_eq_true, beq_iff_eq] at h1 h2 h3 h4
  have e : unmixN (mixN a b c d) (mixN b c d a) (mixN c d a b) (mixN d a b c) =
      (((((gf 14 (gf 2 a) ^^^ gf 11 a) ^^^ gf 13 a) ^^^ gf 9 (gf 3 a)) ^^^ (((gf 14 (gf 3 b) ^^^ gf 11 (gf 2 b)) ^^^ gf 13 b) ^^^ gf 9 b)) ^^^
      (((gf 14 c ^^^ gf 11 (gf 3 c)) ^^^ gf 13 (gf 2 c)) ^^^ gf 9 c)) ^^^ (((gf 14 d ^^^ gf 11 d) ^^^ gf 13 (gf 3 d)) ^^^ gf 9 (gf 2 d)) := by
    unfold unmixN mixN
    simp only [gf_xor_right]
    ac_rfl
  rw [e, h1.1.1.1, h2.1.1.2, h3.1.2, h4.2]
  simp
theorem mix_unmix (a b c d : Nat) (ha : a < 256) (hb : b < 256) (hc : c < 256) (hd : d < 256) :
    mixN (unmixN a b c d) (unmixN b c d a) (unmixN c d a b) (unmixN d a b c) = a := by
  have h1 := all1 coef_all2 a ha
  have h2 := all1 coef_all2 b hb
  have h3 := all1 coef_all2 c hc
  have h4 := all1 coef_all2 d hd
  simp only [Bool.and_eq_true, beq_iff_eq] at h1 h2 h3 h4
  have e : mixN (unmixN a b c d) (unmixN b c d a) (unmixN c d a b) (unmixN d a b c) =
      (((((gf 2 (gf 14 a) ^^^ gf 3 (gf 9 a)) ^^^ gf 13 a) ^^^ gf 11 a) ^^^ (((gf 2 (gf 11 b) ^^^ gf 3 (gf 14 b)) ^^^ gf 9 b) ^^^ gf 13 b)) ^^^
      (((gf 2 (gf 13 c) ^^^ gf 3 (gf 11 c)) ^^^ gf 14 c) ^^^ gf 9 c)) ^^^ (((gf 2 (gf 9 d) ^^^ gf 3 (gf 13 d)) ^^^ gf 11 d) ^^^ gf 14 d) := by
    unfold unmixN mixN
    simp only [gf_xor_right]
    ac_rfl
  rw [e, h1.1.1.1, h2.1.1.2, h3.1.2, h4.2]
  simp
end Go.Proofs.Ytpeepohiajmhcaa.c
/-
  AES with 256-bit keys as plain functions: a block is told by its bytes' places (byte 4 c + r in row r, column c); a key's words; rounds; and that decrypting undoes encrypting.
-/
namespace Go.Proofs.Ytpeepohiajmhcaa.c

abbrev Blk16 := Nat → Nat
def Low (f : Blk16) : Prop := ∀ j, j < 16 → f j < 256
def Same (f g : Blk16) : Prop := ∀ j, j < 16 → f j = g j
def subsF (f : Blk16) : Blk16 := fun j => subN (f j)
def backsF (f : Blk16) : Blk16 := fun j => backN (f j)
def rowsF (f : Blk16) : Blk16 := fun j => f ((j + 4 * (j % 4)) % 16)
def unrowsF (f : Blk16) : Blk16 := fun j => f ((j + 12 * (j % 4)) % 16)
/-- The place of row r + d in the column of place j. -/
def inCol (j d : Nat) : Nat := 4 * (j / 4) + (j % 4 + d) % 4
def mixF (f : Blk16) : Blk16 := fun j => mixN (f j) (f (inCol j 1)) (f (inCol j 2)) (f (inCol j 3))
def unmixF (f : Blk16) : Blk16 := fun j => unmixN (f j) (f (inCol j 1)) (f (inCol j 2)) (f (inCol j 3))
def addF (f k : Blk16) : Blk16 := fun j => f j ^^^ k j

theorem inCol_lt (j d : Nat) (h : j < 16) : inCol j d < 16 := by unfold inCol; omega
theorem inCol_in (j d e : Nat) (_h : j < 16) : inCol (inCol j d) e = inCol j (d + e) := by unfold inCol; omega
theorem inCol_four (j : Nat) : inCol j 4 = j := by unfold inCol; omega
theorem inCol_mod (j d : Nat) : inCol j (d + 4) = inCol j d := by unfold inCol; omega
theorem Low.subs {f : Blk16} (h : Low f) : Low (subsF f) := fun j hj => sub_lt _ (h j hj)
theorem Low.backs {f : Blk16} (h : Low f) : Low (backsF f) := fun j hj => back_lt _ (h j hj)
theorem Low.rows {f : Blk16} (h : Low f) : Low (rowsF f) := fun j _ => h _ (by omega)
theorem Low.unrows {f : Blk16} (h : Low f) : Low (unrowsF f) := fun j _ => h _ (by omega)
theorem Low.mix {f : Blk16} (h : Low f) : Low (mixF f) := fun j hj => mixN_lt _ _ _ _ (h j hj) (h _ (inCol_lt j 1 hj)) (h _ (inCol_lt j 2 hj)) (h _ (inCol_lt j 3 hj))
theorem Low.unmix {f : Blk16} : Low (unmixF f) := fun _ _ => unmixN_lt _ _ _ _
theorem Low.add {f k : Blk16} (h : Low f) (hk : Low k) : Low (addF f k) := fun j hj => xor8 (h j hj) (hk j hj)
theorem Same.refl (f : Blk16) : Same f f := fun _ _ => rfl
theorem Same.symm {f g : Blk16} (h : Same f g) : Same g f := fun j hj => (h j hj).symm
theorem Same.trans {f g k : Blk16} (h : Same f g) (h2 : Same g k) : Same f k := fun j hj => (h j hj).trans (h2 j hj)
theorem Same.low {f g : Blk16} (h : Same f g) (hf : Low f) : Low g := fun j hj => by rw [← h j hj]; exact hf j hj
theorem Same.subs {f g : Blk16} (h : Same f g) : Same (subsF f) (subsF g) := fun j hj => by unfold subsF; rw [h j hj]
theorem Same.backs {f g : Blk16} (h : Same f g) : Same (backsF f) (backsF g) := fun j hj => by unfold backsF; rw [h j hj]
theorem Same.rows {f g : Blk16} (h : Same f g) : Same (rowsF f) (rowsF g) := fun j _ => h _ (by omega)
theorem Same.unrows {f g : Blk16} (h : Same f g) : Same (unrowsF f) (unrowsF g) := fun j _ => h _ (by omega)
theorem Same.mix {f g : Blk16} (h : Same f g) : Same (mixF f) (mixF g) := fun j hj => by
  unfold mixF; rw [h j hj, h _ (inCol_lt j 1 hj), h _ (inCol_lt j 2 hj), h _ (inCol_lt j 3 hj)]
theorem Same.unmix {f g : Blk16} (h : Same f g) : Same (unmixF f) (unmixF g) := fun j hj => by
  unfold unmixF; rw [h j hj, h _ (inCol_lt j 1 hj), h _ (inCol_lt j 2 hj), h _ (inCol_lt j 3 hj)]
theorem Same.add {f g : Blk16} (k : Blk16) (h : Same f g) : Same (addF f k) (addF g k) := fun j hj => by unfold addF; rw [h j hj]

theorem add_add (f k : Blk16) : Same (addF (addF f k) k) f := fun j _ => by
  show (f j ^^^ k j) ^^^ k j = f j
  rw [Nat.xor_assoc, Nat.xor_self, Nat.xor_zero]
theorem backs_subs {f : Blk16} (h : Low f) : Same (backsF (subsF f)) f := fun j hj => back_sub _ (h j hj)
theorem subs_backs {f : Blk16} (h : Low f) : Same (subsF (backsF f)) f := fun j hj => sub_back _ (h j hj)
theorem unrows_rows (f : Blk16) : Same (unrowsF (rowsF f)) f := fun j hj => by
  show f (((j + 12 * (j % 4)) % 16 + 4 * ((j + 12 * (j % 4)) % 16 % 4)) % 16) = f j
  congr 1; omega
theorem rows_unrows (f : Blk16) : Same (rowsF (unrowsF f)) f := fun j hj => by
  show f (((j + 4 * (j % 4)) % 16 + 12 * ((j + 4 * (j % 4)) % 16 % 4)) % 16) = f j
  congr 1; omega
theorem unmix_mixF {f : Blk16} (h : Low f) : Same (unmixF (mixF f)) f := fun j hj => by
  have e := unmix_mix (f j) (f (inCol j 1)) (f (inCol j 2)) (f (inCol j 3)) (h j hj) (h _ (inCol_lt j 1 hj)) (h _ (inCol_lt j 2 hj)) (h _ (inCol_lt j 3 hj))
  unfold unmixF mixF
  simp only [inCol_in j _ _ hj, Nat.reduceAdd, inCol_four, show inCol j 5 = inCol j 1 from inCol_mod j 1, show inCol j 6 = inCol j 2 from inCol_mod j 2]
  exact e
theorem mix_unmixF {f : Blk16} (h : Low f) : Same (mixF (unmixF f)) f := fun j hj => by
  have e := mix_unmix (f j) (f (inCol j 1)) (f (inCol j 2)) (f (inCol j 3)) (h j hj) (h _ (inCol_lt j 1 hj)) (h _ (inCol_lt j 2 hj)) (h _ (inCol_lt j 3 hj))
  unfold mixF unmixF
  simp only [inCol_in j _ _ hj, Nat.reduceAdd, inCol_four, show inCol j 5 = inCol j 1 from inCol_mod j 1, show inCol j 6 = inCol j 2 from inCol_mod j 2]
  exact e

/-- One round with mixing; and back. -/
def rndF (k f : Blk16) : Blk16 := addF (mixF (rowsF (subsF f))) k
def unrndF (k f : Blk16) : Blk16 := backsF (unrowsF (unmixF (addF f k)))
theorem unrnd_rnd {k f : Blk16} (h : Low f) : Same (unrndF k (rndF k f)) f :=
  (((((add_add (mixF (rowsF (subsF f))) k).unmix).trans (unmix_mixF h.subs.rows)).unrows).trans (unrows_rows _)).backs.trans (backs_subs h)
theorem rnd_unrnd {k f : Blk16} (h : Low f) (hk : Low k) : Same (rndF k (unrndF k f)) f := by
  have h1 : Low (addF f k) := h.add hk
  have h2 : Low (unmixF (addF f k)) := Low.unmix
  have e1 : Same (rowsF (subsF (unrndF k f))) (unmixF (addF f k)) := (subs_backs h2.unrows).rows.trans (rows_unrows _)
  exact ((e1.mix.trans (mix_unmixF h1)).add k).trans (add_add f k)
/-- r rounds with mixing, by round keys 1 to r. -/
def rndsF (k : Nat → Blk16) (f : Blk16) : Nat → Blk16
  | 0 => f
  | r + 1 => rndF (k (r + 1)) (rndsF k f r)
/-- Back through rounds r to 1. -/
def unrndsF (k : Nat → Blk16) : Nat → Blk16 → Blk16
  | 0, f => f
  | r + 1, f => unrndsF k r (unrndF (k (r + 1)) f)
def encF (k : Nat → Blk16) (f : Blk16) : Blk16 := addF (rowsF (subsF (rndsF k (addF f (k 0)) 13))) (k 14)
def decF (k : Nat → Blk16) (f : Blk16) : Blk16 := addF (unrndsF k 13 (backsF (unrowsF (addF f (k 14))))) (k 0)
theorem Same.rnd {f g : Blk16} (k : Blk16) (h : Same f g) : Same (rndF k f) (rndF k g) := (h.subs.rows.mix).add k
theorem Same.unrnd {f g : Blk16} (k : Blk16) (h : Same f g) : Same (unrndF k f) (unrndF k g) := ((h.add k).unmix.unrows).backs
theorem Same.rnds {f g : Blk16} (k : Nat → Blk16) (h : Same f g) : ∀ r, Same (rndsF k f r) (rndsF k g r)
  | 0 => h
  | r + 1 => (Same.rnds k h r).rnd _
theorem Same.unrnds {k : Nat → Blk16} : ∀ (r : Nat) {f g : Blk16}, Same f g → Same (unrndsF k r f) (unrndsF k r g)
  | 0, _, _, h => h
  | r + 1, _, _, h => Same.unrnds r (h.unrnd _)
theorem Low.rnd {k f : Blk16} (h : Low f) (hk : Low k) : Low (rndF k f) := h.subs.rows.mix.add hk
theorem Low.unrnd {k f : Blk16} : Low (unrndF k f) := (Low.unmix.unrows).backs
theorem Low.rnds {k : Nat → Blk16} {f : Blk16} (h : Low f) (hk : ∀ r, Low (k r)) : ∀ r, Low (rndsF k f r)
  | 0 => h
  | r + 1 => (Low.rnds h hk r).rnd (hk _)
theorem Low.unrnds {k : Nat → Blk16} : ∀ (r : Nat) {f : Blk16}, Low f → Low (unrndsF k r f)
  | 0, _, h => h
  | r + 1, _, _ => Low.unrnds r Low.unrnd
theorem unrnds_rnds {k : Nat → Blk16} {f : Blk16} (h : Low f) (hk : ∀ r, Low (k r)) : ∀ r, Same (unrndsF k r (rndsF k f r)) f
  | 0 => Same.refl f
  | r + 1 => (Same.unrnds r (unrnd_rnd (Low.rnds h hk r))).trans (unrnds_rnds h hk r)
theorem rnds_unrnds {k : Nat → Blk16} (hk : ∀ r, Low (k r)) : ∀ (r : Nat) {f : Blk16}, Low f → Same (rndsF k (unrndsF k r f) r) f
  | 0, f, _ => Same.refl f
  | r + 1, f, h => by
    show Same (rndF (k (r + 1)) (rndsF k (unrndsF k r (unrndF (k (r + 1)) f)) r)) f
    exact ((rnds_unrnds hk r (f := unrndF (k (r + 1)) f) Low.unrnd).rnd _).trans (rnd_unrnd h (hk _))
theorem Low.enc {k : Nat → Blk16} {f : Blk16} (h : Low f) (hk : ∀ r, Low (k r)) : Low (encF k f) := ((Low.rnds (h.add (hk 0)) hk 13).subs.rows).add (hk 14)
theorem Low.dec {k : Nat → Blk16} {f : Blk16} (h : Low f) (hk : ∀ r, Low (k r)) : Low (decF k f) := (Low.unrnds 13 ((h.add (hk 14)).unrows.backs)).add (hk 0)
theorem Same.enc {k : Nat → Blk16} {f g : Blk16} (h : Same f g) : Same (encF k f) (encF k g) := ((Same.rnds k (h.add _) 13).subs.rows).add _
theorem Same.dec {k : Nat → Blk16} {f g : Blk16} (h : Same f g) : Same (decF k f) (decF k g) := (Same.unrnds 13 ((h.add _).unrows.backs)).add _
/-- Decrypt undoes Encrypt. -/
theorem dec_enc {k : Nat → Blk16} {f : Blk16} (h : Low f) (hk : ∀ r, Low (k r)) : Same (decF k (encF k f)) f := by
  have h0 := Low.rnds (h.add (hk 0)) hk 13
  have e1 : Same (backsF (unrowsF (addF (encF k f) (k 14)))) (rndsF k (addF f (k 0)) 13) :=
    (((add_add (rowsF (subsF (rndsF k (addF f (k 0)) 13))) (k 14)).unrows).trans (unrows_rows _)).backs.trans (backs_subs h0)
  exact (((Same.unrnds 13 e1).trans (unrnds_rnds (h.add (hk 0)) hk 13)).add (k 0)).trans (add_add f (k 0))
/-- Encrypt undoes Decrypt. -/
theorem enc_dec {k : Nat → Blk16} {f : Blk16} (h : Low f) (hk : ∀ r, Low (k r)) : Same (encF k (decF k f)) f := by
  have hl : Low (backsF (unrowsF (addF f (k 14)))) := (h.add (hk 14)).unrows.backs
  have e1 : Same (rndsF k (addF (decF k f) (k 0)) 13) (backsF (unrowsF (addF f (k 14)))) :=
    (Same.rnds k (add_add _ (k 0)) 13).trans (rnds_unrnds hk 13 hl)
  have e2 : Same (rowsF (subsF (rndsF k (addF (decF k f) (k 0)) 13))) (addF f (k 14)) :=
    ((e1.subs.trans (subs_backs (h.add (hk 14)).unrows)).rows).trans (rows_unrows _)
  exact (e2.add (k 14)).trans (add_add f (k 14))
/-- Unlike blocks have unlike answers. -/
theorem enc_inj {k : Nat → Blk16} {f g : Blk16} (hf : Low f) (hg : Low g) (hk : ∀ r, Low (k r)) (h : Same (encF k f) (encF k g)) : Same f g :=
  (dec_enc hf hk).symm.trans ((Same.dec h).trans (dec_enc hg hk))

/-- 2 to the i by Times. -/
def powX : Nat → Nat
  | 0 => 1
  | i + 1 => xtN (powX i)
/-- Byte j of word i of a key of 32 bytes. -/
def nextW8 (key : Nat → Nat) (w : Nat → Nat → Nat) (i j : Nat) : Nat :=
  if i < 8 then key (4 * i + j)
  else w (i - 8) j ^^^ (if i % 8 = 0 then subN (w (i - 1) ((j + 1) % 4)) ^^^ (if j = 0 then powX (i / 8 - 1) else 0) else if i % 8 = 4 then subN (w (i - 1) j) else w (i - 1) j)
/-- The first n words, byte by byte. -/
def wordsF (key : Nat → Nat) : Nat → Nat → Nat → Nat
  | 0, _, _ => 0
  | n + 1, i, j => if i = n then nextW8 key (wordsF key n) n j else wordsF key n i j
def wordF (key : Nat → Nat) (i j : Nat) : Nat := wordsF key (i + 1) i j
theorem wordsF_stay (key : Nat → Nat) (i j : Nat) : ∀ n, i < n → wordsF key n i j = wordF key i j
  | 0, h => by omega
  | n + 1, h => by
    by_cases e : i = n
    · subst e; rfl
    · show (if i = n then _ else _) = _
      rw [if_neg e]
      exact wordsF_stay key i j n (by omega)
theorem wordF_low (key : Nat → Nat) (i j : Nat) (h : i < 8) : wordF key i j = key (4 * i + j) := by
  show (if i = i then _ else _) = _
  rw [if_pos rfl]
  unfold nextW8
  rw [if_pos h]
theorem wordF_high (key : Nat → Nat) (i j : Nat) (h : 8 ≤ i) :
    wordF key i j = wordF key (i - 8) j ^^^ (if i % 8 = 0 then subN (wordF key (i - 1) ((j + 1) % 4)) ^^^ (if j = 0 then powX (i / 8 - 1) else 0) else if i % 8 = 4 then subN (wordF key (i - 1) j) else wordF key (i - 1) j) := by
  show (if i = i then _ else _) = _
  rw [if_pos rfl]
  unfold nextW8
  rw [if_neg (by omega), wordsF_stay key (i - 8) j i (by omega), wordsF_stay key (i - 1) _ i (by omega), wordsF_stay key (i - 1) j i (by omega)]
def keyF (key : Nat → Nat) (r : Nat) : Blk16 := fun j => wordF key (4 * r + j / 4) (j % 4)
end Go.Proofs.Ytpeepohiajmhcaa.c
/-
  The contracts of double, Times, inverse, left, Sub and Back: on bytes, what the field's plain functions say.
-/
namespace Go.Proofs.Ytpeepohiajmhcaa.c
open Go.RowKit

theorem ret_u8 {a b : Int} (h : a = b) : Ending.returned (.int .u8 a) = .returned (.int .u8 b) := by rw [h]
theorem xtN_alt_all : ((List.range 256).all fun x => (2 * x % 256) ^^^ (if x < 128 then 0 else 27) == xtN x) = true := by kernel_rfl
theorem xtN_alt (x : Nat) (hx : x < 256) : (2 * x % 256) ^^^ (if x < 128 then 0 else 27) = xtN x := by simpa using all1 xtN_alt_all x hx
theorem double_eq (x : Nat) (hx : x < 256) : bits BinOp.xor IntKind.u8 ((x : Int) * 2 % 256) (bits BinOp.and IntKind.u8 27 (-((x : Int) / 128) % 256)) = ((xtN x : Nat) : Int) := by
  have e1 : (x : Int) * 2 % 256 = ((2 * x % 256 : Nat) : Int) := by omega
  rw [← xtN_alt x hx, e1]
  by_cases h : x < 128
  · have e2 : -((x : Int) / 128) % 256 = ((0 : Nat) : Int) := by omega
    rw [e2, show (27 : Int) = ((27 : Nat) : Int) from rfl, u8_and_nat _ _ (by omega) (by omega), u8_xor_nat _ _ (by omega) (by decide), if_pos h]
    rfl
  · have e2 : -((x : Int) / 128) % 256 = ((255 : Nat) : Int) := by omega
    rw [e2, show (27 : Int) = ((27 : Nat) : Int) from rfl, u8_and_nat _ _ (by omega) (by omega), u8_xor_nat _ _ (by omega) (by decide), if_neg h]
    rfl
set_option maxRecDepth 10000 in
set_option maxHeartbeats 400000 in
theorem double_any (x : Nat) (hx : x < 256) (w : World) : Calls Try.prog 66 #[.int .u8 x] w fun e w' => e = .returned (.int .u8 (xtN x : Nat)) ∧ w = w' := by
  go_enter Try.func66, Try.ntmps66
  go_wp2_with fail
  go_ret
  exact ⟨ret_u8 (double_eq x hx), rfl⟩

theorem tmN_zero : ∀ n a, tmN n a 0 = 0
  | 0, _ => rfl
  | n + 1, a => by unfold tmN; rw [show (0 : Nat) / 2 = 0 from rfl, tmN_zero n]; simp
theorem tmN_more : ∀ n a b, b < 2 ^ n → tmN (n + 1) a b = tmN n a b
  | 0, a, b, h => by
    have : b = 0 := by simpa using h
    subst this
    exact tmN_zero 1 a
  | n + 1, a, b, h => by
    show (if b % 2 = 1 then a else 0) ^^^ tmN (n + 1) (xtN a) (b / 2) = (if b % 2 = 1 then a else 0) ^^^ tmN n (xtN a) (b / 2)
    rw [tmN_more n _ _ (by rw [Nat.pow_succ] at h; omega)]
theorem gf_step (a b : Nat) (hb : b < 256) : gf a b = (if b % 2 = 1 then a else 0) ^^^ gf (xtN a) (b / 2) := by
  show (if b % 2 = 1 then a else 0) ^^^ tmN 7 (xtN a) (b / 2) = (if b % 2 = 1 then a else 0) ^^^ tmN 8 (xtN a) (b / 2)
  rw [tmN_more 7 _ _ (by show b / 2 < 128; omega)]
structure TimesSt (a b p x y : Nat) : Prop where
  lp : p < 256
  lx : x < 256
  ly : y < 256
  sum : p ^^^ gf x y = gf a b
theorem TimesSt.one {a b p x y : Nat} (s : TimesSt a b p x y) (h : y % 2 = 1) : TimesSt a b (p ^^^ x) (xtN x) (y / 2) :=
  ⟨xor8 s.lp s.lx, xtN_lt x s.lx, by have := s.ly; omega, by rw [← s.sum, gf_step x y s.ly, if_pos h, Nat.xor_assoc]⟩
theorem TimesSt.none {a b p x y : Nat} (s : TimesSt a b p x y) (h : ¬ y % 2 = 1) : TimesSt a b p (xtN x) (y / 2) :=
  ⟨s.lp, xtN_lt x s.lx, by have := s.ly; omega, by rw [← s.sum, gf_step x y s.ly, if_neg h, Nat.zero_xor]⟩
theorem and1 (y : Nat) (hy : y < 256) : bits BinOp.and IntKind.u8 (y : Int) 1 = ((y % 2 : Nat) : Int) := by
  rw [show (1 : Int) = ((1 : Nat) : Int) from rfl, u8_and_nat _ _ hy (by omega), Nat.and_one_is_mod]
theorem and255_all : ((List.range 256).all fun x => x &&& 255 == x) = true := by kernel_rfl
theorem and255 (x : Nat) (hx : x < 256) : bits BinOp.and IntKind.u8 (x : Int) 255 = (x : Int) := by
  rw [show (255 : Int) = ((255 : Nat) : Int) from rfl, u8_and_nat _ _ hx (by omega)]
  have := all1 and255_all x hx
  simp only [beq_iff_eq] at this
  rw [this]
theorem and0 (x : Nat) (hx : x < 256) : bits BinOp.and IntKind.u8 (x : Int) 0 = 0 := by
  rw [show (0 : Int) = ((0 : Nat) : Int) from rfl, u8_and_nat _ _ hx (by omega), Nat.and_zero]
theorem xor0 (x : Nat) (hx : x < 256) : bits BinOp.xor IntKind.u8 (x : Int) 0 = (x : Int) := by
  rw [show (0 : Int) = ((0 : Nat) : Int) from rfl, u8_xor_nat _ _ hx (by omega), Nat.xor_zero]
set_option maxRecDepth 10000 in
set_option maxHeartbeats 400000 in
theorem times_any (a b : Nat) (ha : a < 256) (hb : b < 256) (w : World) : Calls Try.prog 74 #[.int .u8 a, .int .u8 b] w fun e w' => e = .returned (.int .u8 (gf a b : Nat)) ∧ w = w' := by
  have S0 : TimesSt a b 0 a b := ⟨by omega, ha, hb, Nat.zero_xor _⟩
  go_enter Try.func74, Try.ntmps74
  go_wp2_with fail
  go_loopw [0, 1, 5] (fun va vb vp wr => ∃ x y p : Nat, va = .int .u8 x ∧ vb = .int .u8 y ∧ vp = .int .u8 p ∧ w = wr ∧ TimesSt a b p x y) (fun _ vb _ _ => (intOf vb).toNat)
  case atStart => exact ⟨a, b, 0, rfl, rfl, rfl, rfl, S0⟩
  case round =>
    obtain ⟨x, y, p, rfl, rfl, rfl, rfl, hs⟩ := hrel
    clear S0
    have lx := hs.lx
    have ly := hs.ly
    have lp := hs.lp
    by_cases h0 : y = 0
    · subst h0
      have e := hs.sum
      rw [gf_zero x lx, Nat.xor_zero] at e
      subst e
      go_wp2_with fail
      go_ret
      exact ⟨rfl, rfl⟩
    · have hz : ¬ ((y : Int) = 0) := by omega
      have hd : (((y / 2 : Nat)) : Int) = (y : Int) / 2 := by omega
      by_cases h1 : y % 2 = 1
      · have q1 := and1 y ly
        rw [h1] at q1
        have q1' : bits BinOp.and IntKind.u8 (y : Int) 1 = 1 := q1
        have q2 := and255 x lx
        have q3 := u8_xor_nat p x lp lx
        have l3 := xor8 lp lx
        have hn := hid (hs.one h1)
        generalize p ^^^ x = z at q3 l3 hn
        clear q1
        go_wp2_with (refine (double_any x lx _).mono ?_; rintro e w' ⟨rfl, rfl⟩)
        go_roundw
        case rel => exact ⟨xtN x, y / 2, z, rfl, by rw [hd], by first | rfl | trivial, by first | rfl | trivial, hn⟩
        case measure => simp [intOf]; omega
      · have q1 := and1 y ly
        rw [show y % 2 = 0 by omega] at q1
        have q1' : bits BinOp.and IntKind.u8 (y : Int) 1 = 0 := q1
        have q2 := and0 x lx
        have q3 := xor0 p lp
        have hn := hid (hs.none h1)
        clear q1
        go_wp2_with (refine (double_any x lx _).mono ?_; rintro e w' ⟨rfl, rfl⟩)
        go_roundw
        case rel => exact ⟨xtN x, y / 2, p, rfl, by rw [hd], by first | rfl | trivial, by first | rfl | trivial, hn⟩
        case measure => simp [intOf]; omega

/-- b, squared k times. -/
def sqN (b : Nat) : Nat → Nat
  | 0 => b
  | k + 1 => gf (sqN b k) (sqN b k)
def prN (b : Nat) : Nat → Nat
  | 0 => 1
  | k + 1 => gf (prN b k) (sqN b (k + 1))
theorem sqN_lt (b : Nat) (hb : b < 256) : ∀ k, sqN b k < 256
  | 0 => hb
  | k + 1 => gf_lt _ _ (sqN_lt b hb k)
theorem prN_lt (b : Nat) (hb : b < 256) : ∀ k, prN b k < 256
  | 0 => by show (1 : Nat) < 256; omega
  | k + 1 => gf_lt _ _ (prN_lt b hb k)
theorem prN_all : ((List.range 256).all fun b => prN b 7 == invN b) = true := by kernel_rfl
theorem prN_inv (b : Nat) (hb : b < 256) : prN b 7 = invN b := by
  have := all1 prN_all b hb
  simpa using this
set_option maxRecDepth 10000 in
set_option maxHeartbeats 400000 in
theorem inverse_any (b : Nat) (hb : b < 256) (w : World) : Calls Try.prog 64 #[.int .u8 b] w fun e w' => e = .returned (.int .u8 (invN b : Nat)) ∧ w = w' := by
  go_enter Try.func64, Try.ntmps64
  go_wp2_with fail
  go_loopw [0, 3, 4] (fun vb vp vk wr => ∃ k : Nat, k ≤ 7 ∧ vk = .int .i64 k ∧ vb = .int .u8 (sqN b k : Nat) ∧ vp = .int .u8 (prN b k : Nat) ∧ w = wr) (fun _ _ vk _ => 7 - (intOf vk).toNat)
  case atStart => exact ⟨0, Nat.zero_le _, rfl, rfl, rfl, rfl⟩
  case round =>
    obtain ⟨k, hk, rfl, rfl, rfl, rfl⟩ := hrel
    by_cases hlt : k < 7
    · have hlz : (k : Int) < 7 := by omega
      have ls := sqN_lt b hb k
      have lp := prN_lt b hb k
      have ls2 := sqN_lt b hb (k + 1)
      have H1 := hid (show sqN b (k + 1) = gf (sqN b k) (sqN b k) from rfl)
      have H2 := hid (show prN b (k + 1) = gf (prN b k) (sqN b (k + 1)) from rfl)
      generalize sqN b k = s at ls H1 ⊢
      generalize prN b k = p at lp H2 ⊢
      obtain ⟨s', hs'⟩ : ∃ s', s' = sqN b (k + 1) := ⟨_, rfl⟩
      rw [← hs'] at ls2
      have H1' : gf s s = s' := by rw [hs', H1.out]
      have H2' := hid (show prN b (k + 1) = gf p s' by rw [hs', H2.out])
      have Hs' := hid hs'
      clear H1 H2 hs'
      go_wp2_with (first
        | (go_at_call 74; with_reducible refine (times_any s s ls ls _).mono ?_; rintro e w' ⟨rfl, rfl⟩; rw [H1'])
        | (go_at_call 74; with_reducible refine (times_any p s' lp ls2 _).mono ?_; rintro e w' ⟨rfl, rfl⟩))
      go_roundw
      case rel => exact ⟨k + 1, by omega, by go_num, by rw [Hs'.out], by rw [H2'.out], by first | trivial | rfl⟩
      case measure => simp [intOf]; omega
    · obtain rfl : k = 7 := by omega
      have e := prN_inv b hb
      generalize prN b 7 = p at e ⊢
      subst e
      generalize sqN b 7 = s
      go_wp2_with fail
      go_ret
      exact ⟨rfl, rfl⟩

/-- The bits turned to the left by n. -/
def leftN (x n : Nat) : Nat := (x * 2 ^ n % 256) ||| (x / 2 ^ (8 - n))
theorem left1_eq (x : Nat) (hx : x < 256) : bits BinOp.or IntKind.u8 ((x : Int) * 2 % 256) ((x : Int) / 128) = ((leftN x 1 : Nat) : Int) := by
  have e1 : (x : Int) * 2 % 256 = ((x * 2 % 256 : Nat) : Int) := by omega
  have e2 : (x : Int) / 128 = ((x / 128 : Nat) : Int) := by omega
  rw [e1, e2, u8_or_nat _ _ (by omega) (by omega)]
  rfl
set_option maxRecDepth 10000 in
set_option maxHeartbeats 400000 in
theorem left1_any (x : Nat) (hx : x < 256) (w : World) : Calls Try.prog 65 #[.int .u8 x, .int .i64 1] w fun e w' => e = .returned (.int .u8 (leftN x 1 : Nat)) ∧ ∃ m, w' = w.drewN m := by
  have q := left1_eq x hx
  go_enter Try.func65, Try.ntmps65
  go_wp2_with fail
  go_quiet (fail)
  go_wp2_with fail
  go_ret
  exact ⟨rfl, _, rfl⟩
theorem left2_eq (x : Nat) (hx : x < 256) : bits BinOp.or IntKind.u8 ((x : Int) * 4 % 256) ((x : Int) / 64) = ((leftN x 2 : Nat) : Int) := by
  have e1 : (x : Int) * 4 % 256 = ((x * 4 % 256 : Nat) : Int) := by omega
  have e2 : (x : Int) / 64 = ((x / 64 : Nat) : Int) := by omega
  rw [e1, e2, u8_or_nat _ _ (by omega) (by omega)]
  rfl
set_option maxRecDepth 10000 in
set_option maxHeartbeats 400000 in
theorem left2_any (x : Nat) (hx : x < 256) (w : World) : Calls Try.prog 65 #[.int .u8 x, .int .i64 2] w fun e w' => e = .returned (.int .u8 (leftN x 2 : Nat)) ∧ ∃ m, w' = w.drewN m := by
  have q := left2_eq x hx
  go_enter Try.func65, Try.ntmps65
  go_wp2_with fail
  go_quiet (fail)
  go_wp2_with fail
  go_ret
  exact ⟨rfl, _, rfl⟩
theorem left3_eq (x : Nat) (hx : x < 256) : bits BinOp.or IntKind.u8 ((x : Int) * 8 % 256) ((x : Int) / 32) = ((leftN x 3 : Nat) : Int) := by
  have e1 : (x : Int) * 8 % 256 = ((x * 8 % 256 : Nat) : Int) := by omega
  have e2 : (x : Int) / 32 = ((x / 32 : Nat) : Int) := by omega
  rw [e1, e2, u8_or_nat _ _ (by omega) (by omega)]
  rfl
set_option maxRecDepth 10000 in
set_option maxHeartbeats 400000 in
theorem left3_any (x : Nat) (hx : x < 256) (w : World) : Calls Try.prog 65 #[.int .u8 x, .int .i64 3] w fun e w' => e = .returned (.int .u8 (leftN x 3 : Nat)) ∧ ∃ m, w' = w.drewN m := by
  have q := left3_eq x hx
  go_enter Try.func65, Try.ntmps65
  go_wp2_with fail
  go_quiet (fail)
  go_wp2_with fail
  go_ret
  exact ⟨rfl, _, rfl⟩
theorem left4_eq (x : Nat) (hx : x < 256) : bits BinOp.or IntKind.u8 ((x : Int) * 16 % 256) ((x : Int) / 16) = ((leftN x 4 : Nat) : Int) := by
  have e1 : (x : Int) * 16 % 256 = ((x * 16 % 256 : Nat) : Int) := by omega
  have e2 : (x : Int) / 16 = ((x / 16 : Nat) : Int) := by omega
  rw [e1, e2, u8_or_nat _ _ (by omega) (by omega)]
  rfl
set_option maxRecDepth 10000 in
set_option maxHeartbeats 400000 in
theorem left4_any (x : Nat) (hx : x < 256) (w : World) : Calls Try.prog 65 #[.int .u8 x, .int .i64 4] w fun e w' => e = .returned (.int .u8 (leftN x 4 : Nat)) ∧ ∃ m, w' = w.drewN m := by
  have q := left4_eq x hx
  go_enter Try.func65, Try.ntmps65
  go_wp2_with fail
  go_quiet (fail)
  go_wp2_with fail
  go_ret
  exact ⟨rfl, _, rfl⟩
theorem left6_eq (x : Nat) (hx : x < 256) : bits BinOp.or IntKind.u8 ((x : Int) * 64 % 256) ((x : Int) / 4) = ((leftN x 6 : Nat) : Int) := by
  have e1 : (x : Int) * 64 % 256 = ((x * 64 % 256 : Nat) : Int) := by omega
  have e2 : (x : Int) / 4 = ((x / 4 : Nat) : Int) := by omega
  rw [e1, e2, u8_or_nat _ _ (by omega) (by omega)]
  rfl
set_option maxRecDepth 10000 in
set_option maxHeartbeats 400000 in
theorem left6_any (x : Nat) (hx : x < 256) (w : World) : Calls Try.prog 65 #[.int .u8 x, .int .i64 6] w fun e w' => e = .returned (.int .u8 (leftN x 6 : Nat)) ∧ ∃ m, w' = w.drewN m := by
  have q := left6_eq x hx
  go_enter Try.func65, Try.ntmps65
  go_wp2_with fail
  go_quiet (fail)
  go_wp2_with fail
  go_ret
  exact ⟨rfl, _, rfl⟩
theorem leftN_lt_all : ((List.range 256).all fun x => decide (leftN x 1 < 256) && decide (leftN x 2 < 256) && decide (leftN x 3 < 256) && decide (leftN x 4 < 256) && decide (leftN x 6 < 256)) = true := by kernel_rfl
theorem leftN_lt (x : Nat) (hx : x < 256) : leftN x 1 < 256 ∧ leftN x 2 < 256 ∧ leftN x 3 < 256 ∧ leftN x 4 < 256 ∧ leftN x 6 < 256 := by
  have := all1 leftN_lt_all x hx
  simp only [Bool.and_eq_true, decide_eq_true_eq] at this
  exact ⟨this.1.1.1.1, this.1.1.1.2, this.1.1.2, this.1.2, this.2⟩
theorem subN_left_all : ((List.range 256).all fun b => (((((invN b ^^^ leftN (invN b) 1) ^^^ leftN (invN b) 2) ^^^ leftN (invN b) 3) ^^^ leftN (invN b) 4) ^^^ 99) == subN b) = true := by kernel_rfl
theorem subN_left (b : Nat) (hb : b < 256) : (((((invN b ^^^ leftN (invN b) 1) ^^^ leftN (invN b) 2) ^^^ leftN (invN b) 3) ^^^ leftN (invN b) 4) ^^^ 99) = subN b := by
  have := all1 subN_left_all b hb
  simpa using this
theorem backN_left_all : ((List.range 256).all fun b => invN ((leftN (b ^^^ 99) 1 ^^^ leftN (b ^^^ 99) 3) ^^^ leftN (b ^^^ 99) 6) == backN b) = true := by kernel_rfl
theorem backN_left (b : Nat) (hb : b < 256) : invN ((leftN (b ^^^ 99) 1 ^^^ leftN (b ^^^ 99) 3) ^^^ leftN (b ^^^ 99) 6) = backN b := by
  have := all1 backN_left_all b hb
  simpa using this
theorem xor99 (x : Nat) (hx : x < 256) : bits BinOp.xor IntKind.u8 (x : Int) 99 = ((x ^^^ 99 : Nat) : Int) := by
  rw [show (99 : Int) = ((99 : Nat) : Int) from rfl, u8_xor_nat _ _ hx (by omega)]
set_option maxRecDepth 10000 in
set_option maxHeartbeats 400000 in
theorem sub_any (b : Nat) (hb : b < 256) (w : World) : Calls Try.prog 56 #[.int .u8 b] w fun e w' => e = .returned (.int .u8 (subN b : Nat)) ∧ ∃ m, w' = w.drewN m := by
  have E := hid (subN_left b hb)
  have lc := inv_lt b hb
  obtain ⟨l1, l2, l3, l4, _⟩ := leftN_lt (invN b) lc
  have q1 := u8_xor_nat _ _ lc l1
  have q2 := u8_xor_nat _ _ (xor8 lc l1) l2
  have q3 := u8_xor_nat _ _ (xor8 (xor8 lc l1) l2) l3
  have q4 := u8_xor_nat _ _ (xor8 (xor8 (xor8 lc l1) l2) l3) l4
  have q5 := xor99 _ (xor8 (xor8 (xor8 (xor8 lc l1) l2) l3) l4)
  rw [E.out] at q5
  clear l1 l2 l3 l4 E
  generalize (((invN b ^^^ leftN (invN b) 1) ^^^ leftN (invN b) 2) ^^^ leftN (invN b) 3) ^^^ leftN (invN b) 4 = z4 at q4 q5
  generalize ((invN b ^^^ leftN (invN b) 1) ^^^ leftN (invN b) 2) ^^^ leftN (invN b) 3 = z3 at q3 q4
  generalize (invN b ^^^ leftN (invN b) 1) ^^^ leftN (invN b) 2 = z2 at q2 q3
  generalize invN b ^^^ leftN (invN b) 1 = z1 at q1 q2
  go_enter Try.func56, Try.ntmps56
  go_wp2_with (first
    | (go_at_call 64; with_reducible refine (inverse_any b hb _).mono ?_; rintro e w' ⟨rfl, rfl⟩)
    | (go_at_call 65; with_reducible refine (left1_any (invN b) lc _).mono ?_; rintro e w' ⟨rfl, m1, rfl⟩)
    | (go_at_call 65; with_reducible refine (left2_any (invN b) lc _).mono ?_; rintro e w' ⟨rfl, m2, rfl⟩)
    | (go_at_call 65; with_reducible refine (left3_any (invN b) lc _).mono ?_; rintro e w' ⟨rfl, m3, rfl⟩)
    | (go_at_call 65; with_reducible refine (left4_any (invN b) lc _).mono ?_; rintro e w' ⟨rfl, m4, rfl⟩))
  go_ret
  exact ⟨rfl, _, rfl⟩
end Go.Proofs.Ytpeepohiajmhcaa.c
/-
  A block of sixteen bytes in memory, told by its places; what changes one block alone; the contract of 'add'.
-/
namespace Go.Proofs.Ytpeepohiajmhcaa.c
open Go.RowKit

def nv (n : Nat) : Value := .int .u8 (n : Int)
def blkL (f : Blk16) : List Value := (List.range 16).map (fun j => nv (f j))
theorem blkL_len (f : Blk16) : (blkL f).length = 16 := by simp [blkL]
theorem blkL_get (f : Blk16) (j : Nat) (h : j < 16) : (blkL f)[j]? = some (nv (f j)) := by simp [blkL, h]
theorem blkL_same {f g : Blk16} (h : Same f g) : blkL f = blkL g := by
  unfold blkL
  apply List.map_congr_left
  intro j hj
  rw [h j (List.mem_range.1 hj)]
def upd (f : Blk16) (j v : Nat) : Blk16 := fun i => if i = j then v else f i
theorem blkL_upd (f : Blk16) (j v : Nat) (_h : j < 16) : (blkL f).set j (nv v) = blkL (upd f j v) := by
  apply List.ext_getElem?
  intro i
  rw [List.getElem?_set, blkL_len]
  by_cases hi : i < 16
  · rw [blkL_get _ i hi, blkL_get _ i hi]
    unfold upd
    by_cases e : j = i
    · subst e; rw [if_pos rfl, if_pos hi, if_pos rfl]
    · rw [if_neg e, if_neg (Ne.symm e)]
  · have e1 : (blkL f)[i]? = none := List.getElem?_eq_none (by rw [blkL_len]; omega)
    have e2 : (blkL (upd f j v))[i]? = none := List.getElem?_eq_none (by rw [blkL_len]; omega)
    rw [e1, e2]
    by_cases e : j = i
    · omega
    · rw [if_neg e]
/-- All but block g stays. -/
structure But (g : Nat) (w w' : World) : Prop where
  os : w'.os = w.os
  tape : w'.tape = w.tape
  output : w'.output = w.output
  size : w.heap.size ≤ w'.heap.size
  block : ∀ i, i < w.heap.size → i ≠ g → w'.heap[i]? = w.heap[i]?
theorem But.refl (g : Nat) (w : World) : But g w w := ⟨rfl, rfl, rfl, Nat.le_refl _, fun _ _ _ => rfl⟩
theorem But.trans {g : Nat} {a b c : World} (h : But g a b) (k : But g b c) : But g a c :=
  ⟨k.os.trans h.os, k.tape.trans h.tape, k.output.trans h.output, Nat.le_trans h.size k.size, fun i hi hg => (k.block i (Nat.lt_of_lt_of_le hi h.size) hg).trans (h.block i hi hg)⟩
theorem But.drewN {g : Nat} {a b : World} (h : But g a b) (n : Nat) : But g a (b.drewN n) := ⟨h.os, h.tape, h.output, h.size, h.block⟩
theorem But.drew {g : Nat} {a b : World} (h : But g a b) : But g a b.drew := ⟨h.os, h.tape, h.output, h.size, h.block⟩
theorem But.of {g : Nat} {a b : World} (h : Below a.heap.size a b) : But g a b := ⟨h.os, h.tape, h.output, h.size, fun i hi _ => h.block i hi⟩
theorem But.below {g B : Nat} {w0 w w' : World} (h : But g w w') (hb : Below B w0 w) (hg : B ≤ g) (hs : B ≤ w.heap.size) : Below B w0 w' :=
  ⟨h.os.trans hb.os, h.tape.trans hb.tape, h.output.trans hb.output, Nat.le_trans hb.size h.size, fun i hi => (h.block i (by omega) (by omega)).trans (hb.block i hi)⟩
theorem But.set {g : Nat} {a b : World} (h : But g a b) (j : Nat) (v : Value) : But g a (b.setCell ⟨g, j, none⟩ v) :=
  ⟨h.os, h.tape, h.output, by rw [World.size_setCell]; exact h.size, fun i hi hg => (heap_setCell_other _ _ _ _ hg).trans (h.block i hi hg)⟩
theorem But.cell {g : Nat} {a b : World} (h : But g a b) {ad : Addr} {v : Value} (hc : a.cell? ad = some v) (hg : ad.block ≠ g) : b.cell? ad = some v := by
  have hl := lt_of_cell hc
  unfold World.cell? at *
  rw [h.block _ hl hg]
  exact hc
/-- Block g holds these sixteen bytes. -/
def BlkAt (w : World) (g : Nat) (f : Blk16) : Prop := w.heap[g]? = some (.cells (blkL f).toArray 114 (0, 0))
theorem lt_of_heap {w : World} {g : Nat} {o : Obj} (d : w.heap[g]? = some o) : g < w.heap.size := by
  rcases Nat.lt_or_ge g w.heap.size with hlt | hge
  · exact hlt
  · rw [Array.getElem?_eq_none hge] at d; cases d
theorem BlkAt.lt {w : World} {g : Nat} {f : Blk16} (h : BlkAt w g f) : g < w.heap.size := lt_of_heap h
theorem BlkAt.cell {w : World} {g : Nat} {f : Blk16} (h : BlkAt w g f) (j : Nat) (hj : j < 16) : w.cell? ⟨g, j, none⟩ = some (.int .u8 (f j : Nat)) := by
  rw [row_cell h j, List.getElem?_toArray, blkL_get f j hj]; rfl
theorem BlkAt.free {w : World} {g : Nat} {f : Blk16} (h : BlkAt w g f) (j : Nat) : w.frozen? ⟨g, j, none⟩ = false := row_free h j
theorem BlkAt.set {w : World} {g : Nat} {f : Blk16} (h : BlkAt w g f) (j v : Nat) (hj : j < 16) : BlkAt (w.setCell ⟨g, j, none⟩ (.int .u8 (v : Nat))) g (upd f j v) := by
  unfold BlkAt
  rw [row_set h j, set_toArray, show (Value.int .u8 (v : Nat)) = nv v from rfl, blkL_upd f j v hj]
theorem BlkAt.same {w : World} {g : Nat} {f f' : Blk16} (h : BlkAt w g f) (e : Same f f') : BlkAt w g f' := by
  unfold BlkAt; rw [← blkL_same e]; exact h
theorem BlkAt.drewN {w : World} {g : Nat} {f : Blk16} (h : BlkAt w g f) (n : Nat) : BlkAt (w.drewN n) g f := h
theorem BlkAt.drew {w : World} {g : Nat} {f : Blk16} (h : BlkAt w g f) : BlkAt w.drew g f := h
theorem BlkAt.on {w w' : World} {g g' : Nat} {f : Blk16} (h : BlkAt w g f) (hb : But g' w w') (hg : g ≠ g') : BlkAt w' g f := (hb.block g h.lt hg).trans h
/-- Sixteen bytes at an address. -/
def Reads (w : World) (ad : Addr) (k : Blk16) : Prop := ∀ j, j < 16 → w.cell? (ad.add j) = some (.int .u8 (k j : Nat))
theorem Reads.on {w w' : World} {g : Nat} {ad : Addr} {k : Blk16} (h : Reads w ad k) (hb : But g w w') (hg : ad.block ≠ g) : Reads w' ad k :=
  fun j hj => hb.cell (h j hj) (by rw [block_of_add]; exact hg)
/-- The first n places xor'd. -/
def addP (f k : Blk16) (n : Nat) : Blk16 := fun j => if j < n then f j ^^^ k j else f j
theorem addP_next (f k : Blk16) (n : Nat) : Same (upd (addP f k n) n (f n ^^^ k n)) (addP f k (n + 1)) := by
  intro j _
  unfold upd addP
  by_cases e : j = n
  · subst e; simp
  · rw [if_neg e]
    by_cases h : j < n
    · rw [if_pos h, if_pos (by omega)]
    · rw [if_neg h, if_neg (by omega)]

set_option maxRecDepth 10000 in
set_option maxHeartbeats 1000000 in
theorem add_any (g : Nat) (f k : Blk16) (ad : Addr) (w : World) (h : BlkAt w g f) (hf : Low f) (hk : Reads w ad k) (hl : Low k) (hg : ad.block ≠ g) :
    Calls Try.prog 81 #[.pointer (some ⟨g, 0, none⟩), .pointer (some ad)] w fun e w' => e = .returned (.tuple #[]) ∧ BlkAt w' g (addF f k) ∧ But g w w' := by
  have H0 : Hid (BlkAt w g (addP f k 0)) := h.same (fun j _ => by unfold addP; rw [if_neg (by omega)])
  have B0 : Hid (But g w w) := But.refl g w
  have HK := hid hk
  clear h hk
  go_enter Try.func81, Try.ntmps81
  go_wp2_with fail
  go_loopw [7] (fun i wr => ∃ t : Nat, t ≤ 16 ∧ i = .int .i64 t ∧ Hid (BlkAt wr g (addP f k t)) ∧ Hid (But g w wr)) (fun i _ => 16 - (intOf i).toNat)
  case atStart => exact ⟨0, Nat.zero_le _, rfl, H0, B0⟩
  case round =>
    obtain ⟨t, ht, rfl, hs, hb⟩ := hrel
    clear H0 B0
    by_cases hlt : t < 16
    · have hlz : (t : Int) < 16 := by omega
      have c1 := hs.out.cell t hlt
      rw [show addP f k t t = f t by unfold addP; rw [if_neg (by omega)]] at c1
      have c2 : wr.cell? (ad.add t) = some (.int .u8 (k t : Nat)) := (HK.out.on hb.out hg) t hlt
      have f1 := hs.out.free t
      have l1 := hf t hlt
      have l2 := hl t hlt
      have q := u8_xor_nat _ _ l1 l2
      have hn : Hid (BlkAt (wr.setCell ⟨g, t, none⟩ (.int .u8 ((f t ^^^ k t : Nat) : Int))) g (addP f k (t + 1))) := (hs.out.set t _ hlt).same (addP_next f k t)
      have hn2 : Hid (∀ n, But g w ((wr.drewN n).setCell ⟨g, t, none⟩ (.int .u8 ((f t ^^^ k t : Nat) : Int)))) := fun n => (hb.out.drewN n).set t _
      have lz := xor8 l1 l2
      generalize f t ^^^ k t = z at q hn hn2 lz
      generalize k t = y at c2 l2 q
      generalize f t = x at c1 l1 q
      go_wp2_with fail
      go_quiet (fail)
      go_wp2_with fail
      go_region
      go_wp2_with fail
      go_roundw
      case rel => exact ⟨t + 1, by omega, by go_num, hn, hid (hn2.out _)⟩
      case measure => simp [intOf]; omega
    · obtain rfl : t = 16 := by omega
      have e : Same (addP f k 16) (addF f k) := fun j hj => by unfold addP addF; rw [if_pos hj]
      go_wp2_with fail
      refine bodyPost_end (results_none rfl _ _ _) rfl ⟨rfl, hs.out.same e, hb.out⟩
end Go.Proofs.Ytpeepohiajmhcaa.c
/-
  The contracts of the closure that tells which byte comes where, of who makes it, and of 'replace'.
-/
namespace Go.Proofs.Ytpeepohiajmhcaa.c
open Go.RowKit

theorem and3_all : ((List.range 16).all fun j => decide (bits BinOp.and IntKind.i64 (j : Int) 3 = ((j % 4 : Nat) : Int))) = true := by kernel_rfl
theorem left_all : ((List.range 16).all fun j => decide (bits BinOp.or IntKind.i64 (wrap64 (bits BinOp.and IntKind.i64 ((j : Int) / 4 + (j : Int) % 4) 3 * 4)) ((j : Int) % 4) = (((j + 4 * (j % 4)) % 16 : Nat) : Int))) = true := by kernel_rfl
theorem right_all : ((List.range 16).all fun j => decide (bits BinOp.or IntKind.i64 (wrap64 (bits BinOp.and IntKind.i64 ((j : Int) / 4 + -((j : Int) % 4)) 3 * 4)) ((j : Int) % 4) = (((j + 12 * (j % 4)) % 16 : Nat) : Int))) = true := by kernel_rfl
theorem all16 {p : Nat → Prop} [DecidablePred p] (h : ((List.range 16).all fun j => decide (p j)) = true) (j : Nat) (hj : j < 16) : p j := of_decide_eq_true (List.all_eq_true.1 h j (List.mem_range.2 hj))
theorem ret_i64 {a b : Int} (h : a = b) : Ending.returned (.int .i64 a) = .returned (.int .i64 b) := by rw [h]
set_option maxRecDepth 10000 in
set_option maxHeartbeats 1000000 in
theorem left_place (j : Nat) (hj : j < 16) (ad : Addr) (w : World) (hc : w.cell? ad = some (.int .i64 1)) :
    Calls Try.prog 90 #[.int .i64 j, .pointer (some ad)] w fun e w' => e = .returned (.int .i64 (((j + 4 * (j % 4)) % 16 : Nat) : Int)) ∧ w = w' := by
  have q1 := all16 and3_all j hj
  go_enter Try.func90, Try.ntmps90
  go_wp2_with fail
  go_ret
  exact ⟨ret_i64 (all16 left_all j hj), rfl⟩
set_option maxRecDepth 10000 in
set_option maxHeartbeats 1000000 in
theorem right_place (j : Nat) (hj : j < 16) (ad : Addr) (w : World) (hc : w.cell? ad = some (.int .i64 (-1))) :
    Calls Try.prog 90 #[.int .i64 j, .pointer (some ad)] w fun e w' => e = .returned (.int .i64 (((j + 12 * (j % 4)) % 16 : Nat) : Int)) ∧ w = w' := by
  have q1 := all16 and3_all j hj
  go_enter Try.func90, Try.ntmps90
  go_wp2_with fail
  go_ret
  exact ⟨ret_i64 (all16 right_all j hj), rfl⟩
set_option maxRecDepth 10000 in
set_option maxHeartbeats 1000000 in
theorem turned_any (s : Int) (w : World) :
    Calls Try.prog 80 #[.int .i64 s] w fun e w' => e = .returned (.func (.func 90) #[] #[.pointer (some ⟨w.heap.size, 0, none⟩)]) ∧ w' = w.alloc (.cells #[.int .i64 s] 3) := by
  go_enter Try.func80, Try.ntmps80
  go_wp2_with fail
  go_ret
  exact ⟨rfl, rfl⟩

def zb16 : Array Value := Array.replicate 16 (.int .u8 0)
theorem zero48 (w : World) : (zeroValue 114).run Try.prog w = .ok (.agg zb16) w := by kernel_rfl
theorem size48 (L : List Value) (h : L.length = 16) : (Try.prog.info? 114).map (·.size) = some L.toArray.size := by
  rw [List.size_toArray, h]; kernel_rfl
theorem zb16_size (L : List Value) (h : L.length = 16) : zb16.size = L.toArray.size := by
  have e : L.toArray.size = 16 := by rw [List.size_toArray, h]
  exact Eq.trans (by kernel_rfl : zb16.size = 16) e.symm
theorem blkL_one (f : Blk16) : (blkL f).toArray.all (·.oneCell') = true := by
  rw [List.all_toArray, List.all_eq_true]
  intro v hv
  obtain ⟨j, _, rfl⟩ := List.mem_map.1 hv
  rfl
/-- The first n places replaced. -/
def repP (T : Nat → Nat) (fr : Nat → Nat) (f : Blk16) (n : Nat) : Blk16 := fun j => if j < n then T (f (fr j)) else f j
theorem repP_next (T fr : Nat → Nat) (f : Blk16) (n : Nat) : Same (upd (repP T fr f n) n (T (f (fr n)))) (repP T fr f (n + 1)) := by
  intro j _
  unfold upd repP
  by_cases e : j = n
  · subst e; simp
  · rw [if_neg e]
    by_cases h : j < n
    · rw [if_pos h, if_pos (by omega)]
    · rw [if_neg h, if_neg (by omega)]
/-- A table of 256 bytes at an address. -/
def Tab (w : World) (ad : Addr) (T : Nat → Nat) : Prop := ∀ x, x < 256 → w.cell? (ad.add x) = some (.int .u8 (T x : Nat))
theorem Tab.on {w w' : World} {g : Nat} {ad : Addr} {k : Nat → Nat} (h : Tab w ad k) (hb : But g w w') (hg : ad.block ≠ g) : Tab w' ad k :=
  fun j hj => hb.cell (h j hj) (by rw [block_of_add]; exact hg)
structure RepSt (w wr : World) (g : Nat) (T fr : Nat → Nat) (f : Blk16) (t : Nat) : Prop where
  blk : BlkAt wr g (repP T fr f t)
  was : BlkAt wr w.heap.size f
  but : But g w wr
theorem RepSt.drewN {w wr : World} {g : Nat} {T fr : Nat → Nat} {f : Blk16} {t : Nat} (s : RepSt w wr g T fr f t) (n : Nat) : RepSt w (wr.drewN n) g T fr f t := ⟨s.blk, s.was, s.but.drewN n⟩
theorem RepSt.next {w wr : World} {g : Nat} {T fr : Nat → Nat} {f : Blk16} {t : Nat} (s : RepSt w wr g T fr f t) (ht : t < 16) (hg : g < w.heap.size) : RepSt w (wr.setCell ⟨g, t, none⟩ (.int .u8 (T (f (fr t)) : Nat))) g T fr f (t + 1) :=
  ⟨(s.blk.set t _ ht).same (repP_next T fr f t), s.was.on ((But.refl g wr).set t _) (by omega), s.but.set t _⟩

set_option maxRecDepth 10000 in
set_option maxHeartbeats 1000000 in
theorem replace_any (g : Nat) (f : Blk16) (T fr : Nat → Nat) (td : Addr) (gc : Nat) (s : Int) (w : World) (h : BlkAt w g f) (hf : Low f) (hT : Tab w td T) (hlT : ∀ x, x < 256 → T x < 256) (hfr : ∀ j, j < 16 → fr j < 16) (hgd : td.block ≠ g)
    (hc : w.cell? ⟨gc, 0, none⟩ = some (.int .i64 s)) (hgc : gc ≠ g)
    (hcl : ∀ j : Nat, j < 16 → ∀ W : World, W.cell? ⟨gc, 0, none⟩ = some (.int .i64 s) → Calls Try.prog 90 #[.int .i64 (j : Nat), .pointer (some ⟨gc, 0, none⟩)] W fun e w' => e = .returned (.int .i64 (fr j : Nat)) ∧ W = w') :
    Calls Try.prog 83 #[.pointer (some ⟨g, 0, none⟩), .pointer (some td), .func (.func 90) #[] #[.pointer (some ⟨gc, 0, none⟩)]] w fun e w' => e = .returned (.tuple #[]) ∧ BlkAt w' g (fun j => T (f (fr j))) ∧ But g w w' := by
  have zv := zero48
  have hgl := h.lt
  have hsz := size48 (blkL f) (blkL_len f)
  have r0 : (w.alloc (.cells zb16 114)).heap[w.heap.size]? = some (.cells zb16 114 (0, 0)) := heap_alloc_new w _
  have hg : (w.alloc (.cells zb16 114)).heap[g]? = some (.cells (blkL f).toArray 114 (0, 0)) := by rw [heap_alloc_old _ _ hgl]; exact h
  have Hg0 := hid h
  have Hg := hid hg
  have Hr0 := hid r0
  have Hsz := hid hsz
  have HT := hid hT
  have HC := hid hc
  have HCL := hid hcl
  have S0 : RepSt w ((w.alloc (.cells zb16 114)).setRow w.heap.size (blkL f).toArray) g T fr f 0 := by
    refine ⟨?_, ?_, ?_⟩
    · unfold BlkAt
      rw [setRow_other _ _ _ _ (by omega), hg]
      rw [blkL_same (f := repP T fr f 0) (g := f) (fun j _ => by unfold repP; rw [if_neg (by omega)])]
    · exact setRow_heap _ _ _ _ _ _ r0
    · exact But.of (below_setRow ((Below.refl w.heap.size w).alloc (Nat.le_refl _) _) (Nat.le_refl _) _)
  have HS0 := hid S0
  clear h hg r0 hsz hT hc hcl S0
  go_enter Try.func83, Try.ntmps83
  go_wp2_with (first
    | (refine wpList_load_row rfl 114 (.tmp 9) rfl g rfl 114 (blkL f).toArray (0, 0) _ (by first | exact Hg0.out | exact Hg.out) Try.underlying114 rfl Hsz.out ?_)
    | (refine wpList_store_row (o := ⟨none, .store 114 (.tmp 6) (.tmp 10), _, _, _, _⟩) rfl 114 (.tmp 6) (.tmp 10) rfl w.heap.size (blkL f).toArray rfl rfl 114 zb16 Hr0.out Hsz.out (zb16_size _ (blkL_len f)) (blkL_one f) ?_))
  generalize ((w.alloc (.cells zb16 114)).setRow w.heap.size (blkL f).toArray) = W0 at HS0 ⊢
  clear zv Hr0 Hg Hsz
  go_loopw [11] (fun i wr => ∃ t : Nat, t ≤ 16 ∧ i = .int .i64 t ∧ Hid (RepSt w wr g T fr f t)) (fun i _ => 16 - (intOf i).toNat)
  case atStart => exact ⟨0, Nat.zero_le _, rfl, HS0⟩
  case round =>
    obtain ⟨t, ht, rfl, hs⟩ := hrel
    clear HS0
    by_cases hlt : t < 16
    · have hlz : (t : Int) < 16 := by omega
      have hcc : wr.cell? ⟨gc, 0, none⟩ = some (.int .i64 s) := hs.out.but.cell HC.out hgc
      have hcl := hid (HCL.out t hlt wr.drew hcc)
      have lfr := hfr t hlt
      have c1 := hs.out.was.cell (fr t) lfr
      have l1 := hf (fr t) lfr
      have c2 : wr.cell? (td.add (f (fr t))) = some (.int .u8 (T (f (fr t)) : Nat)) := (HT.out.on hs.out.but hgd) _ l1
      have c3 := hs.out.blk.cell t hlt
      have f1 := hs.out.blk.free t
      have l2 := hlT _ l1
      have hn : Hid (∀ n, RepSt w ((wr.drewN n).setCell ⟨g, t, none⟩ (.int .u8 (T (f (fr t)) : Nat))) g T fr f (t + 1)) := fun n => (hs.out.drewN n).next hlt hgl
      generalize repP T fr f t t = o1 at c3
      generalize T (f (fr t)) = z at c2 l2 hn
      generalize f (fr t) = y at c1 l1 c2
      generalize fr t = u at hcl c1 lfr
      clear hcc
      have iu : (u : Int) < 16 := by omega
      have iy : (y : Int) < 256 := by omega
      go_wp2_with fail
      go_still_tail 13, (by kernel_rfl)
      refine wpStill_step (fun K hK => ?_)
      go_simp
      refine ⟨_, (hcl.out).mono (fun e w' h => ⟨h.1, h.2.symm⟩), hK _ ?_⟩
      clear hK K
      repeat still_step
      refine wpStill_nil ?_
      change wpList _ _ _ _ _ wr.drew
      go_wp2_with fail
      go_roundw
      case rel => exact ⟨t + 1, by omega, by go_num, hid (hn.out 1)⟩
      case measure => simp [intOf]; omega
    · obtain rfl : t = 16 := by omega
      have e : Same (repP T fr f 16) (fun j => T (f (fr j))) := fun j hj => by unfold repP; rw [if_pos hj]
      go_wp2_with fail
      refine bodyPost_end (results_none rfl _ _ _) rfl ⟨rfl, hs.out.blk.same e, hs.out.but⟩
end Go.Proofs.Ytpeepohiajmhcaa.c
/-
  The contract of 'mix': the columns mixed, in memory.
-/
namespace Go.Proofs.Ytpeepohiajmhcaa.c
open Go.RowKit

theorem xt_mix (a b c d : Nat) (ha : a < 256) (hb : b < 256) (_hc : c < 256) (_hd : d < 256) : (a ^^^ (((a ^^^ b) ^^^ c) ^^^ d)) ^^^ xtN (a ^^^ b) = mixN a b c d := by
  have e2 := all1 gf_two_all a ha
  have e3 := all1 gf_two_all b hb
  simp only [Bool.and_eq_true, beq_iff_eq] at e2 e3
  have g2 : gf 2 a = xtN a := by rw [gf_comm 2 a (by omega) ha, e2.1]
  have g3 : gf 3 b = xtN b ^^^ b := by rw [gf_comm 3 b (by omega) hb, e3.2]
  unfold mixN
  rw [g2, g3, xtN_xor a b ha hb]
  have e : (a ^^^ (((a ^^^ b) ^^^ c) ^^^ d)) ^^^ (xtN a ^^^ xtN b) = (a ^^^ a) ^^^ (((xtN a ^^^ (xtN b ^^^ b)) ^^^ c) ^^^ d) := by ac_rfl
  rw [e, Nat.xor_self, Nat.zero_xor]
theorem all_turn (a b c d : Nat) : (((a ^^^ b) ^^^ c) ^^^ d) = (((b ^^^ c) ^^^ d) ^^^ a) := by ac_rfl
/-- The first n columns mixed. -/
def mixP (f : Blk16) (n : Nat) : Blk16 := fun j => if j < 4 * n then mixF f j else f j
theorem mixP_next (f : Blk16) (n : Nat) : Same
    (upd (upd (upd (upd (mixP f n) (4 * n) (mixN (f (4 * n)) (f (4 * n + 1)) (f (4 * n + 2)) (f (4 * n + 3)))) (4 * n + 1) (mixN (f (4 * n + 1)) (f (4 * n + 2)) (f (4 * n + 3)) (f (4 * n)))) (4 * n + 2) (mixN (f (4 * n + 2)) (f (4 * n + 3)) (f (4 * n)) (f (4 * n + 1)))) (4 * n + 3) (mixN (f (4 * n + 3)) (f (4 * n)) (f (4 * n + 1)) (f (4 * n + 2))))
    (mixP f (n + 1)) := by
  intro j _
  unfold upd mixP
  by_cases e3 : j = 4 * n + 3
  · subst e3
    rw [if_pos rfl, if_pos (by omega)]
    unfold mixF
    rw [show inCol (4 * n + 3) 1 = 4 * n by unfold inCol; omega, show inCol (4 * n + 3) 2 = 4 * n + 1 by unfold inCol; omega, show inCol (4 * n + 3) 3 = 4 * n + 2 by unfold inCol; omega]
  rw [if_neg e3]
  by_cases e2 : j = 4 * n + 2
  · subst e2
    rw [if_pos rfl, if_pos (by omega)]
    unfold mixF
    rw [show inCol (4 * n + 2) 1 = 4 * n + 3 by unfold inCol; omega, show inCol (4 * n + 2) 2 = 4 * n by unfold inCol; omega, show inCol (4 * n + 2) 3 = 4 * n + 1 by unfold inCol; omega]
  rw [if_neg e2]
  by_cases e1 : j = 4 * n + 1
  · subst e1
    rw [if_pos rfl, if_pos (by omega)]
    unfold mixF
    rw [show inCol (4 * n + 1) 1 = 4 * n + 2 by unfold inCol; omega, show inCol (4 * n + 1) 2 = 4 * n + 3 by unfold inCol; omega, show inCol (4 * n + 1) 3 = 4 * n by unfold inCol; omega]
  rw [if_neg e1]
  by_cases e0 : j = 4 * n
  · subst e0
    rw [if_pos rfl, if_pos (by omega)]
    unfold mixF
    rw [show inCol (4 * n) 1 = 4 * n + 1 by unfold inCol; omega, show inCol (4 * n) 2 = 4 * n + 2 by unfold inCol; omega, show inCol (4 * n) 3 = 4 * n + 3 by unfold inCol; omega]
  rw [if_neg e0]
  by_cases h : j < 4 * n
  · rw [if_pos h, if_pos (by omega)]
  · rw [if_neg h, if_neg (by omega)]
theorem mixP_at (f : Blk16) (n i : Nat) (h : 4 * n ≤ i) : mixP f n i = f i := by unfold mixP; rw [if_neg (by omega)]
structure MixSt (w wr : World) (g : Nat) (f : Blk16) : Prop where
  blk : BlkAt wr g f
  but : But g w wr
theorem MixSt.drewN {w wr : World} {g : Nat} {f : Blk16} (s : MixSt w wr g f) (n : Nat) : MixSt w (wr.drewN n) g f := ⟨s.blk, s.but.drewN n⟩
theorem MixSt.drew {w wr : World} {g : Nat} {f : Blk16} (s : MixSt w wr g f) : MixSt w wr.drew g f := ⟨s.blk, s.but.drew⟩
theorem MixSt.set {w wr : World} {g : Nat} {f : Blk16} (s : MixSt w wr g f) (j v : Nat) (hj : j < 16) : MixSt w (wr.setCell ⟨g, j, none⟩ (.int .u8 (v : Nat))) g (upd f j v) := ⟨s.blk.set j v hj, s.but.set j _⟩
/-- What a column's four bytes come to, as the walk spells it. -/
structure ColEq (a b c d : Nat) : Prop where
  la : a < 256
  lb : b < 256
  lc : c < 256
  ld : d < 256

set_option maxRecDepth 10000 in
set_option maxHeartbeats 2000000 in
theorem mix_any (g : Nat) (f : Blk16) (w : World) (h : BlkAt w g f) (hf : Low f) :
    Calls Try.prog 84 #[.pointer (some ⟨g, 0, none⟩)] w fun e w' => e = .returned (.tuple #[]) ∧ BlkAt w' g (mixF f) ∧ But g w w' := by
  have S0 : Hid (MixSt w w g (mixP f 0)) := ⟨h.same (fun j _ => by unfold mixP; rw [if_neg (by omega)]), But.refl g w⟩
  clear h
  go_enter Try.func84, Try.ntmps84
  go_wp2_with fail
  go_loopw [2] (fun i wr => ∃ t : Nat, t ≤ 4 ∧ i = .int .i64 ((4 * t : Nat) : Int) ∧ Hid (MixSt w wr g (mixP f t))) (fun i _ => 16 - (intOf i).toNat)
  case atStart => exact ⟨0, Nat.zero_le _, rfl, S0⟩
  case round =>
    obtain ⟨t, ht, rfl, hs⟩ := hrel
    clear S0
    by_cases hlt : t < 4
    · have hlz : ((4 * t : Nat) : Int) < 16 := by omega
      have Hnx := hid (mixP_next f t)
      have c0 := hs.out.blk.cell (4 * t) (by omega)
      have c1 := hs.out.blk.cell (4 * t + 1) (by omega)
      have c2 := hs.out.blk.cell (4 * t + 2) (by omega)
      have c3 := hs.out.blk.cell (4 * t + 3) (by omega)
      rw [mixP_at f t _ (by omega)] at c0 c1 c2 c3
      have la := hf (4 * t) (by omega)
      have lb := hf (4 * t + 1) (by omega)
      have lc := hf (4 * t + 2) (by omega)
      have ld := hf (4 * t + 3) (by omega)
      generalize mixP f t = F at hs Hnx
      generalize f (4 * t) = a at c0 la Hnx
      generalize f (4 * t + 1) = b at c1 lb Hnx
      generalize f (4 * t + 2) = c at c2 lc Hnx
      generalize f (4 * t + 3) = d at c3 ld Hnx
      obtain ⟨i, hi⟩ : ∃ i, i = 4 * t := ⟨_, rfl⟩
      rw [← hi] at hlz c0 c1 c2 c3 Hnx ⊢
      have Hi := hid hi
      have hi16 : i + 3 < 16 := by omega
      have hii : (i : Int) + 3 < 16 := by omega
      have m0 := xt_mix a b c d la lb lc ld
      have m1 := xt_mix b c d a lb lc ld la
      have m2 := xt_mix c d a b lc ld la lb
      have m3 := xt_mix d a b c ld la lb lc
      rw [← all_turn a b c d] at m1
      rw [← all_turn b c d a, ← all_turn a b c d] at m2
      rw [← all_turn c d a b, ← all_turn b c d a, ← all_turn a b c d] at m3
      have p0 := u8_xor_nat _ _ la lb
      have p1 := u8_xor_nat _ _ lb lc
      have p2 := u8_xor_nat _ _ lc ld
      have p3 := u8_xor_nat _ _ ld la
      have s0 := xor8 la lb
      have s1 := xor8 lb lc
      have s2 := xor8 lc ld
      have s3 := xor8 ld la
      have q1 := u8_xor_nat _ _ s0 lc
      have q2 := u8_xor_nat _ _ (xor8 s0 lc) ld
      have lz := xor8 (xor8 s0 lc) ld
      generalize ((a ^^^ b) ^^^ c) ^^^ d = z at q2 lz m0 m1 m2 m3
      generalize (a ^^^ b) ^^^ c = y at q1 q2
      generalize a ^^^ b = ab at p0 s0 q1 m0
      generalize b ^^^ c = bc at p1 s1 m1
      generalize c ^^^ d = cd at p2 s2 m2
      generalize d ^^^ a = da at p3 s3 m3
      have r0 := u8_xor_nat _ _ la lz
      have r1 := u8_xor_nat _ _ lb lz
      have r2 := u8_xor_nat _ _ lc lz
      have r3 := u8_xor_nat _ _ ld lz
      have t0 := u8_xor_nat _ _ (xor8 la lz) (xtN_lt ab s0)
      have t1 := u8_xor_nat _ _ (xor8 lb lz) (xtN_lt bc s1)
      have t2 := u8_xor_nat _ _ (xor8 lc lz) (xtN_lt cd s2)
      have t3 := u8_xor_nat _ _ (xor8 ld lz) (xtN_lt da s3)
      rw [m0] at t0
      rw [m1] at t1
      rw [m2] at t2
      rw [m3] at t3
      clear m0 m1 m2 m3
      generalize mixN a b c d = v0 at t0 Hnx
      generalize mixN b c d a = v1 at t1 Hnx
      generalize mixN c d a b = v2 at t2 Hnx
      generalize mixN d a b c = v3 at t3 Hnx
      generalize a ^^^ z = az at r0 t0
      generalize b ^^^ z = bz at r1 t1
      generalize c ^^^ z = cz at r2 t2
      generalize d ^^^ z = dz at r3 t3
      have D0 := hid (double_any ab s0)
      have D1 := hid (double_any bc s1)
      have D2 := hid (double_any cd s2)
      have D3 := hid (double_any da s3)
      generalize xtN ab = xa at t0 D0
      generalize xtN bc = xb at t1 D1
      generalize xtN cd = xc at t2 D2
      generalize xtN da = xd at t3 D3
      clear hi s0 s1 s2 s3 lz
      have f0 := hs.out.blk.free i
      have f1 := hs.out.blk.free (i + 1)
      have f2 := hs.out.blk.free (i + 2)
      have f3 := hs.out.blk.free (i + 3)
      go_wp2_with fail
      go_quiet (fail)
      go_wp2_with fail
      clear c0 c1 c2 c3 f0 f1 f2 f3
      have S0 := hid (hs.out.drewN nq)
      generalize wr.drewN nq = W0 at S0 ⊢
      have c0 := S0.out.blk.cell (i) (by omega)
      have f0 := S0.out.blk.free (i)
      have S1 := hid ((S0.out.set (i) v0 (by omega)).drew)
      generalize (F) (i) = o0 at c0
      go_still_tail 12, (by kernel_rfl)
      refine wpStill_step (fun K hK => ?_)
      go_simp
      refine ⟨_, (D0.out _).mono (fun e w' h => ⟨h.1, h.2.symm⟩), hK _ ?_⟩
      clear hK K
      repeat still_step
      refine wpStill_nil ?_
      change wpList _ _ _ _ _ W0.drew
      go_wp2_with fail
      clear c0 f0 S0 D0 t0
      generalize (W0.setCell ⟨g, i, none⟩ (.int .u8 (v0 : Nat))).drew = W1 at S1 ⊢
      have c1 := S1.out.blk.cell (i + 1) (by omega)
      have f1 := S1.out.blk.free (i + 1)
      have iw1 : IntKind.i64.wrap ((i : Int) + 1) = (i : Int) + 1 := IntWalk.i64_in _ (by omega)
      have in1 : ((i : Int) + 1).toNat = i + 1 := by omega
      have ip1 : 0 ≤ (i : Int) + 1 := by omega
      have il1 : (i : Int) + 1 < 16 := by omega
      have S2 := hid ((S1.out.set (i + 1) v1 (by omega)).drew)
      generalize (upd (F) (i) v0) (i + 1) = o1 at c1
      go_still_tail 13, (by kernel_rfl)
      refine wpStill_step (fun K hK => ?_)
      go_simp
      refine ⟨_, (D1.out _).mono (fun e w' h => ⟨h.1, h.2.symm⟩), hK _ ?_⟩
      clear hK K
      repeat still_step
      refine wpStill_nil ?_
      change wpList _ _ _ _ _ W1.drew
      go_wp2_with fail
      clear c1 f1 S1 D1 t1
      generalize (W1.setCell ⟨g, i + 1, none⟩ (.int .u8 (v1 : Nat))).drew = W2 at S2 ⊢
      have c2 := S2.out.blk.cell (i + 2) (by omega)
      have f2 := S2.out.blk.free (i + 2)
      have iw2 : IntKind.i64.wrap ((i : Int) + 2) = (i : Int) + 2 := IntWalk.i64_in _ (by omega)
      have in2 : ((i : Int) + 2).toNat = i + 2 := by omega
      have ip2 : 0 ≤ (i : Int) + 2 := by omega
      have il2 : (i : Int) + 2 < 16 := by omega
      have S3 := hid ((S2.out.set (i + 2) v2 (by omega)).drew)
      generalize (upd (upd (F) (i) v0) (i + 1) v1) (i + 2) = o2 at c2
      go_still_tail 13, (by kernel_rfl)
      refine wpStill_step (fun K hK => ?_)
      go_simp
      refine ⟨_, (D2.out _).mono (fun e w' h => ⟨h.1, h.2.symm⟩), hK _ ?_⟩
      clear hK K
      repeat still_step
      refine wpStill_nil ?_
      change wpList _ _ _ _ _ W2.drew
      go_wp2_with fail
      clear c2 f2 S2 D2 t2
      generalize (W2.setCell ⟨g, i + 2, none⟩ (.int .u8 (v2 : Nat))).drew = W3 at S3 ⊢
      have c3 := S3.out.blk.cell (i + 3) (by omega)
      have f3 := S3.out.blk.free (i + 3)
      have iw3 : IntKind.i64.wrap ((i : Int) + 3) = (i : Int) + 3 := IntWalk.i64_in _ (by omega)
      have in3 : ((i : Int) + 3).toNat = i + 3 := by omega
      have ip3 : 0 ≤ (i : Int) + 3 := by omega
      have il3 : (i : Int) + 3 < 16 := by omega
      have S4 := hid ((S3.out.set (i + 3) v3 (by omega)).drew)
      generalize (upd (upd (upd (F) (i) v0) (i + 1) v1) (i + 2) v2) (i + 3) = o3 at c3
      go_still_tail 13, (by kernel_rfl)
      refine wpStill_step (fun K hK => ?_)
      go_simp
      refine ⟨_, (D3.out _).mono (fun e w' h => ⟨h.1, h.2.symm⟩), hK _ ?_⟩
      clear hK K
      repeat still_step
      refine wpStill_nil ?_
      change wpList _ _ _ _ _ W3.drew
      go_wp2_with fail
      clear c3 f3 S3 D3 t3
      go_roundw
      case rel => exact ⟨t + 1, by omega, by rw [Hi.out]; go_num, hid ⟨S4.out.blk.same Hnx.out, S4.out.but⟩⟩
      case measure => simp [intOf]; omega
    · obtain rfl : t = 4 := by omega
      have e : Same (mixP f 4) (mixF f) := fun j hj => by unfold mixP; rw [if_pos (by omega)]
      go_wp2_with fail
      refine bodyPost_end (results_none rfl _ _ _) rfl ⟨rfl, hs.out.blk.same e, hs.out.but⟩
end Go.Proofs.Ytpeepohiajmhcaa.c
/-
  The contract of 'unmix': the columns unmixed, in memory.
-/
namespace Go.Proofs.Ytpeepohiajmhcaa.c
open Go.RowKit

theorem coef3_all : ((List.range 256).all fun x =>
    (gf 2 (x ^^^ xtN (xtN x)) ^^^ xtN (xtN x)) == gf 14 x && (gf 3 (x ^^^ xtN (xtN x)) ^^^ xtN (xtN x)) == gf 11 x &&
    (gf 2 (xtN (xtN x)) ^^^ (x ^^^ xtN (xtN x))) == gf 13 x && (gf 3 (xtN (xtN x)) ^^^ (x ^^^ xtN (xtN x))) == gf 9 x) = true := by kernel_rfl
theorem xt2_xor (a b : Nat) (ha : a < 256) (hb : b < 256) : xtN (xtN (a ^^^ b)) = xtN (xtN a) ^^^ xtN (xtN b) := by
  rw [xtN_xor a b ha hb, xtN_xor _ _ (xtN_lt a ha) (xtN_lt b hb)]
theorem mix_pre (a b c d : Nat) (ha : a < 256) (hb : b < 256) (hc : c < 256) (hd : d < 256) :
    mixN (a ^^^ xtN (xtN (a ^^^ c))) (b ^^^ xtN (xtN (b ^^^ d))) (c ^^^ xtN (xtN (c ^^^ a))) (d ^^^ xtN (xtN (d ^^^ b))) = unmixN a b c d := by
  have h1 := all1 coef3_all a ha
  have h2 := all1 coef3_all b hb
  have h3 := all1 coef3_all c hc
  have h4 := all1 coef3_all d hd
  simp only [Bool.and_eq_true, beq_iff_eq] at h1 h2 h3 h4
  unfold unmixN mixN
  rw [← h1.1.1.1, ← h2.1.1.2, ← h3.1.2, ← h4.2, xt2_xor a c ha hc, xt2_xor b d hb hd, xt2_xor c a hc ha, xt2_xor d b hd hb]
  simp only [gf_xor_right]
  ac_rfl
def preF (f : Blk16) : Blk16 := fun j => f j ^^^ xtN (xtN (f j ^^^ f (inCol j 2)))
theorem Low.pre {f : Blk16} (h : Low f) : Low (preF f) := fun j hj => xor8 (h j hj) (xtN_lt _ (xtN_lt _ (xor8 (h j hj) (h _ (inCol_lt j 2 hj)))))
theorem mix_preF {f : Blk16} (h : Low f) : Same (mixF (preF f)) (unmixF f) := fun j hj => by
  have e := mix_pre (f j) (f (inCol j 1)) (f (inCol j 2)) (f (inCol j 3)) (h j hj) (h _ (inCol_lt j 1 hj)) (h _ (inCol_lt j 2 hj)) (h _ (inCol_lt j 3 hj))
  unfold unmixF mixF preF
  simp only [inCol_in j _ _ hj, Nat.reduceAdd, inCol_four, show inCol j 5 = inCol j 1 from inCol_mod j 1]
  exact e
def preP (f : Blk16) (n : Nat) : Blk16 := fun j => if j < 4 * n then preF f j else f j
theorem preP_at (f : Blk16) (n i : Nat) (h : 4 * n ≤ i) : preP f n i = f i := by unfold preP; rw [if_neg (by omega)]
theorem preP_next (f : Blk16) (n : Nat) : Same
    (upd (upd (upd (upd (preP f n) (4 * n) (f (4 * n) ^^^ xtN (xtN (f (4 * n) ^^^ f (4 * n + 2))))) (4 * n + 1) (f (4 * n + 1) ^^^ xtN (xtN (f (4 * n + 1) ^^^ f (4 * n + 3))))) (4 * n + 2) (f (4 * n + 2) ^^^ xtN (xtN (f (4 * n) ^^^ f (4 * n + 2))))) (4 * n + 3) (f (4 * n + 3) ^^^ xtN (xtN (f (4 * n + 1) ^^^ f (4 * n + 3)))))
    (preP f (n + 1)) := by
  intro j _
  unfold upd preP
  by_cases e3 : j = 4 * n + 3
  · subst e3
    rw [if_pos rfl, if_pos (by omega)]
    unfold preF
    rw [show inCol (4 * n + 3) 2 = 4 * n + 1 by unfold inCol; omega, Nat.xor_comm (f (4 * n + 1)) (f (4 * n + 3))]
  rw [if_neg e3]
  by_cases e2 : j = 4 * n + 2
  · subst e2
    rw [if_pos rfl, if_pos (by omega)]
    unfold preF
    rw [show inCol (4 * n + 2) 2 = 4 * n by unfold inCol; omega, Nat.xor_comm (f (4 * n)) (f (4 * n + 2))]
  rw [if_neg e2]
  by_cases e1 : j = 4 * n + 1
  · subst e1
    rw [if_pos rfl, if_pos (by omega)]
    unfold preF
    rw [show inCol (4 * n + 1) 2 = 4 * n + 3 by unfold inCol; omega]
  rw [if_neg e1]
  by_cases e0 : j = 4 * n
  · subst e0
    rw [if_pos rfl, if_pos (by omega)]
    unfold preF
    rw [show inCol (4 * n) 2 = 4 * n + 2 by unfold inCol; omega]
  rw [if_neg e0]
  by_cases h : j < 4 * n
  · rw [if_pos h, if_pos (by omega)]
  · rw [if_neg h, if_neg (by omega)]
theorem double_z (x : Nat) (hx : x < 256) (w : World) (n : Nat) : Calls Try.prog 66 #[.int .u8 x] (w.drewN n) fun e w' => e = .returned (.int .u8 (xtN x : Nat)) ∧ ∃ m, w' = w.drewN m :=
  (double_any x hx _).mono (fun _ _ h => ⟨h.1, n, h.2.symm⟩)
theorem upd_other (f : Blk16) (i j v : Nat) (h : j ≠ i) : upd f i v j = f j := by unfold upd; rw [if_neg h]

end Go.Proofs.Ytpeepohiajmhcaa.c
/-
  A cipher in memory: its flag, its round keys, its two tables; the contracts of 'key', Made and 'refused'.
-/
namespace Go.Proofs.Ytpeepohiajmhcaa.c
open Go.RowKit

theorem wordF_lt (key : Nat → Nat) (hk : ∀ j, j < 32 → key j < 256) : ∀ n i j, i < n → j < 4 → wordF key i j < 256 := by
  intro n
  induction n with
  | zero => intro i j h; omega
  | succ n ih =>
    intro i j hi hj
    by_cases h8 : i < 8
    · rw [wordF_low key i j h8]; exact hk _ (by omega)
    · rw [wordF_high key i j (by omega)]
      have a1 := ih (i - 8) j (by omega) hj
      have a2 := ih (i - 1) j (by omega) hj
      have a3 := ih (i - 1) ((j + 1) % 4) (by omega) (by omega)
      have hp : ∀ k, powX k < 256 := by
        intro k
        induction k with
        | zero => show 1 < 256; omega
        | succ k ih => exact xtN_lt _ ih
      refine xor8 a1 ?_
      split
      · refine xor8 (sub_lt _ a3) ?_
        split
        · exact hp _
        · omega
      · split
        · exact sub_lt _ a2
        · exact a2
theorem powX_lt (k : Nat) : powX k < 256 := by
  induction k with
  | zero => show 1 < 256; omega
  | succ k ih => exact xtN_lt _ ih
/-- Byte j of the round keys. -/
def kbF (key : Nat → Nat) (j : Nat) : Nat := wordF key (j / 4) (j % 4)
theorem kbF_lt (key : Nat → Nat) (hk : ∀ j, j < 32 → key j < 256) (j : Nat) : kbF key j < 256 := wordF_lt key hk (j / 4 + 1) _ _ (by omega) (by omega)
theorem keyF_kb (key : Nat → Nat) (r j : Nat) (hj : j < 16) : keyF key r j = kbF key (16 * r + j) := by
  unfold keyF kbF
  rw [show (16 * r + j) / 4 = 4 * r + j / 4 by omega, show (16 * r + j) % 4 = j % 4 by omega]
theorem Low.key (key : Nat → Nat) (hk : ∀ j, j < 32 → key j < 256) (r : Nat) : Low (keyF key r) := fun j hj => by rw [keyF_kb key r j hj]; exact kbF_lt key hk _

def ciL (F : Nat → Nat) : List Value := .bool true :: (List.range 752).map (fun j => nv (F j))
theorem ciL_zero (F : Nat → Nat) : (ciL F)[0]? = some (.bool true) := by
  unfold ciL
  generalize (List.range 752).map (fun j => nv (F j)) = L
  rfl
theorem ciL_len (F : Nat → Nat) : (ciL F).length = 753 := by simp only [ciL, List.length_cons, List.length_map, List.length_range]
theorem ciL_get (F : Nat → Nat) (j : Nat) (h : j < 752) : (ciL F)[1 + j]? = some (nv (F j)) := by
  rw [Nat.add_comm]
  unfold ciL
  rw [List.getElem?_cons_succ, List.getElem?_map, List.getElem?_range h]
  rfl
theorem ciL_same {F G : Nat → Nat} (h : ∀ j, j < 752 → F j = G j) : ciL F = ciL G := by
  unfold ciL
  exact congrArg (Value.bool true :: ·) (List.map_congr_left fun j hj => by rw [h j (List.mem_range.1 hj)])
theorem ciL_upd (F : Nat → Nat) (j v : Nat) (_h : j < 752) : (ciL F).set (1 + j) (nv v) = ciL (upd F j v) := by
  apply List.ext_getElem?
  intro i
  rw [List.getElem?_set, ciL_len]
  by_cases hi : i < 753
  · rcases i with _ | i
    · rw [if_neg (by omega), ciL_zero, ciL_zero]
    · rw [show i + 1 = 1 + i by omega, ciL_get F i (by omega), ciL_get _ i (by omega)]
      unfold upd
      by_cases e : i = j
      · subst e; rw [if_pos rfl, if_pos (by omega), if_pos rfl]
      · rw [if_neg (by omega), if_neg e]
  · rw [List.getElem?_eq_none (by rw [ciL_len]; omega), List.getElem?_eq_none (by rw [ciL_len]; omega)]
    by_cases e : 1 + j = i
    · omega
    · rw [if_neg e]
/-- Block g holds a cipher with these bytes behind its flag. -/
def CiAt (w : World) (g : Nat) (F : Nat → Nat) : Prop := w.heap[g]? = some (.cells (ciL F).toArray 82 (0, 0))
theorem CiAt.lt {w : World} {g : Nat} {F : Nat → Nat} (h : CiAt w g F) : g < w.heap.size := lt_of_heap h
theorem CiAt.flag {w : World} {g : Nat} {F : Nat → Nat} (h : CiAt w g F) : w.cell? ⟨g, 0, none⟩ = some (.bool true) := by
  rw [row_cell h 0, List.getElem?_toArray, ciL_zero]
theorem CiAt.cell {w : World} {g : Nat} {F : Nat → Nat} (h : CiAt w g F) (j : Nat) (hj : j < 752) : w.cell? ⟨g, 1 + j, none⟩ = some (.int .u8 (F j : Nat)) := by
  rw [row_cell h (1 + j), List.getElem?_toArray, ciL_get F j hj]; rfl
theorem CiAt.free {w : World} {g : Nat} {F : Nat → Nat} (h : CiAt w g F) (j : Nat) : w.frozen? ⟨g, j, none⟩ = false := row_free h j
theorem CiAt.set {w : World} {g : Nat} {F : Nat → Nat} (h : CiAt w g F) (j v : Nat) (hj : j < 752) : CiAt (w.setCell ⟨g, 1 + j, none⟩ (.int .u8 (v : Nat))) g (upd F j v) := by
  unfold CiAt
  rw [row_set h (1 + j), set_toArray, show (Value.int .u8 (v : Nat)) = nv v from rfl, ciL_upd F j v hj]
theorem CiAt.same {w : World} {g : Nat} {F G : Nat → Nat} (h : CiAt w g F) (e : ∀ j, j < 752 → F j = G j) : CiAt w g G := by
  unfold CiAt; rw [← ciL_same e]; exact h
theorem CiAt.drewN {w : World} {g : Nat} {F : Nat → Nat} (h : CiAt w g F) (n : Nat) : CiAt (w.drewN n) g F := h
theorem CiAt.drew {w : World} {g : Nat} {F : Nat → Nat} (h : CiAt w g F) : CiAt w.drew g F := h
theorem CiAt.on {w w' : World} {g g' : Nat} {F : Nat → Nat} (h : CiAt w g F) (hb : But g' w w') (hg : g ≠ g') : CiAt w' g F := (hb.block g h.lt hg).trans h
theorem CiAt.onB {w w' : World} {g B : Nat} {F : Nat → Nat} (h : CiAt w g F) (hb : Below B w w') (hg : g < B) : CiAt w' g F := (hb.block g hg).trans h
/-- What a cipher of this key holds. -/
def ciF (key : Nat → Nat) (j : Nat) : Nat := if j < 240 then kbF key j else if j < 496 then subN (j - 240) else backN (j - 496)
/-- Block g holds the cipher of this key. -/
def Ci (w : World) (g : Nat) (key : Nat → Nat) : Prop := CiAt w g (ciF key)
theorem ad_add (g o j : Nat) : (⟨g, o, none⟩ : Addr).add j = ⟨g, o + j, none⟩ := Addr.add_lit g o j
theorem Ci.key {w : World} {g : Nat} {key : Nat → Nat} (h : Ci w g key) (r : Nat) (hr : r ≤ 14) : Reads w ⟨g, 1 + 16 * r, none⟩ (keyF key r) := by
  intro j hj
  rw [ad_add, show 1 + 16 * r + j = 1 + (16 * r + j) by omega, CiAt.cell h (16 * r + j) (by omega)]
  unfold ciF
  rw [if_pos (by omega), keyF_kb key r j hj]
theorem Ci.sub {w : World} {g : Nat} {key : Nat → Nat} (h : Ci w g key) (x : Nat) (hx : x < 256) : w.cell? ((⟨g, 241, none⟩ : Addr).add x) = some (.int .u8 (subN x : Nat)) := by
  rw [ad_add, show 241 + x = 1 + (240 + x) by omega, CiAt.cell h (240 + x) (by omega)]
  unfold ciF
  rw [if_neg (by omega), if_pos (by omega), show 240 + x - 240 = x by omega]
theorem Ci.back {w : World} {g : Nat} {key : Nat → Nat} (h : Ci w g key) (x : Nat) (hx : x < 256) : w.cell? ((⟨g, 497, none⟩ : Addr).add x) = some (.int .u8 (backN x : Nat)) := by
  rw [ad_add, show 497 + x = 1 + (496 + x) by omega, CiAt.cell h (496 + x) (by omega)]
  unfold ciF
  rw [if_neg (by omega), if_neg (by omega), show 496 + x - 496 = x by omega]

theorem slice32r (g r : Nat) (hr : r < 240) (x : Int) (hx : x = (r : Int)) (w : World) : (Instr.sliceAt 79 (.pointer (some ⟨g, 1, none⟩)) (some (.int .i64 x)) none none).run Try.prog w = .ok (.slice (some ⟨g, 1 + r, none⟩) (240 - r) (240 - r)) w := by
  subst hx
  have hl : Try.prog.arrayLen 79 = 240 := by kernel_rfl
  have hs : (sizeOf (Try.prog.elem 79)).run Try.prog w = .ok 1 w := by kernel_rfl
  rw [run_sliceAt_array_l w 79 ⟨g, 1, none⟩ (by kernel_rfl) .i64 (r : Int) (by omega) (by rw [hl]; omega), hs, hl]
  simp only [Result.andThen, slicedAt, Nat.mul_one, Int.toNat_natCast, ad_add]
  rw [if_neg (by omega)]
set_option maxRecDepth 10000 in
set_option maxHeartbeats 1000000 in
theorem key_any (g r : Nat) (hr : r ≤ 14) (w : World) : Calls Try.prog 82 #[.pointer (some ⟨g, 0, none⟩), .int .i64 r] w fun e w' => e = .returned (.pointer (some ⟨g, 1 + 16 * r, none⟩)) ∧ w = w' := by
  have hat : ∀ n c w, 16 ≤ n → (Instr.arrayAt 114 (.slice (some ⟨g, 1 + 16 * r, none⟩) n c)).run Try.prog w = .ok (.pointer (some ⟨g, 1 + 16 * r, none⟩)) w := fun n c w h => run_arrayAt w 114 _ 16 _ n c Try.underlying114 h
  have hsl := slice32r g (16 * r) (by omega) (16 * (r : Int)) (by omega)
  have h16 : 16 ≤ 240 - 16 * r := by omega
  go_enter Try.func82, Try.ntmps82
  go_wp2_with fail
  go_ret
  exact ⟨rfl, rfl⟩
set_option maxRecDepth 10000 in
set_option maxHeartbeats 1000000 in
theorem made_any (g : Nat) (w : World) (F : Nat → Nat) (h : CiAt w g F) : Calls Try.prog 67 #[.pointer (some ⟨g, 0, none⟩)] w fun e w' => e = .returned (.bool true) ∧ w = w' := by
  have c := h.flag
  go_enter Try.func67, Try.ntmps67
  go_wp2_with fail
  go_ret
  exact ⟨rfl, rfl⟩
set_option maxRecDepth 10000 in
set_option maxHeartbeats 1000000 in
theorem made_nil (w : World) : Calls Try.prog 67 #[.pointer none] w fun e w' => e = .returned (.bool false) ∧ w = w' := by
  go_enter Try.func67, Try.ntmps67
  go_wp2_with fail
  go_ret
  exact ⟨rfl, rfl⟩
set_option maxRecDepth 10000 in
set_option maxHeartbeats 1000000 in
theorem made_not (g : Nat) (w : World) (c : w.cell? ⟨g, 0, none⟩ = some (.bool false)) : Calls Try.prog 67 #[.pointer (some ⟨g, 0, none⟩)] w fun e w' => e = .returned (.bool false) ∧ w = w' := by
  go_enter Try.func67, Try.ntmps67
  go_wp2_with fail
  go_ret
  exact ⟨rfl, rfl⟩
set_option maxRecDepth 10000 in
set_option maxHeartbeats 1000000 in
theorem refused_any (g : Nat) (w : World) (F : Nat → Nat) (h : CiAt w g F) (A : Option Addr) (n c : Nat) : Calls Try.prog 79 #[.pointer (some ⟨g, 0, none⟩), .slice A n c] w fun e w' => e = .returned (.int .i64 (if n = 16 then 0 else 2)) ∧ w = w' := by
  have H := hid h
  clear h
  by_cases hn : n = 16
  · subst hn
    go_enter Try.func79, Try.ntmps79
    go_wp2_with (refine (made_any g w F H.out).mono ?_; rintro e w' ⟨rfl, rfl⟩)
    go_ret
    exact ⟨rfl, rfl⟩
  · have hz : ¬ ((n : Int) = 16) := by omega
    rw [if_neg hn]
    go_enter Try.func79, Try.ntmps79
    go_wp2_with (refine (made_any g w F H.out).mono ?_; rintro e w' ⟨rfl, rfl⟩)
    go_ret
    exact ⟨rfl, rfl⟩
set_option maxRecDepth 10000 in
set_option maxHeartbeats 1000000 in
theorem refused_nil (w : World) (A : Option Addr) (n c : Nat) : Calls Try.prog 79 #[.pointer none, .slice A n c] w fun e w' => e = .returned (.int .i64 1) ∧ w = w' := by
  go_enter Try.func79, Try.ntmps79
  go_wp2_with (refine (made_nil w).mono ?_; rintro e w' ⟨rfl, rfl⟩)
  go_ret
  exact ⟨rfl, rfl⟩
set_option maxRecDepth 10000 in
set_option maxHeartbeats 1000000 in
theorem refused_not (g : Nat) (w : World) (cc : w.cell? ⟨g, 0, none⟩ = some (.bool false)) (A : Option Addr) (n c : Nat) : Calls Try.prog 79 #[.pointer (some ⟨g, 0, none⟩), .slice A n c] w fun e w' => e = .returned (.int .i64 1) ∧ w = w' := by
  go_enter Try.func79, Try.ntmps79
  go_wp2_with (refine (made_not g w cc).mono ?_; rintro e w' ⟨rfl, rfl⟩)
  go_ret
  exact ⟨rfl, rfl⟩
end Go.Proofs.Ytpeepohiajmhcaa.c
