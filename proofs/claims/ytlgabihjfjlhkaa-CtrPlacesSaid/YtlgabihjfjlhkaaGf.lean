/-
  AES' field as plain functions on numbers below 256: Times, what a field's multiplication is; Sub and Back.
-/
import Derived.KernelRfl
namespace Go.Proofs.Ytlgabihjfjlhkaa

/-- x times a. -/
def xtN (a : Nat) : Nat := if a < 128 then 2 * a else (2 * a) ^^^ 283
/-- The first n bits of b times a. -/
def tmN : Nat → Nat → Nat → Nat
  | 0, _, _ => 0
  | n + 1, a, b => (if b % 2 = 1 then a else 0) ^^^ tmN n (xtN a) (b / 2)
def gf (a b : Nat) : Nat := tmN 8 a b

theorem all2 {p : Nat → Nat → Bool} (h : ((List.range 256).all fun x => (List.range 256).all fun y => p x y) = true) (x y : Nat) (hx : x < 256) (hy : y < 256) : p x y = true := by
  have h1 := List.all_eq_true.1 h x (List.mem_range.2 hx)
  exact List.all_eq_true.1 h1 y (List.mem_range.2 hy)
theorem all1 {p : Nat → Bool} (h : ((List.range 256).all fun x => p x) = true) (x : Nat) (hx : x < 256) : p x = true := List.all_eq_true.1 h x (List.mem_range.2 hx)

theorem xor8 {a b : Nat} (ha : a < 256) (hb : b < 256) : a ^^^ b < 256 := Nat.xor_lt_two_pow (n := 8) ha hb
theorem xtN_all : ((List.range 256).all fun x => (List.range 256).all fun y => xtN (x ^^^ y) == xtN x ^^^ xtN y) = true := by kernel_rfl
theorem xtN_xor (x y : Nat) (hx : x < 256) (hy : y < 256) : xtN (x ^^^ y) = xtN x ^^^ xtN y := by
  have := all2 xtN_all x y hx hy
  simpa using this
theorem xtN_lt_all : ((List.range 256).all fun x => decide (xtN x < 256)) = true := by kernel_rfl
theorem xtN_lt (x : Nat) (hx : x < 256) : xtN x < 256 := by simpa using all1 xtN_lt_all x hx
theorem tmN_lt : ∀ (n a b : Nat), a < 256 → tmN n a b < 256
  | 0, _, _, _ => by simp [tmN]
  | n + 1, a, b, h => by
    unfold tmN
    refine xor8 ?_ (tmN_lt n _ _ (xtN_lt a h))
    split <;> omega
theorem gf_lt (a b : Nat) (h : a < 256) : gf a b < 256 := tmN_lt 8 a b h
theorem xor_swap4 (a b c d : Nat) : (a ^^^ b) ^^^ (c ^^^ d) = (a ^^^ c) ^^^ (b ^^^ d) := by
  rw [Nat.xor_assoc, Nat.xor_assoc, ← Nat.xor_assoc b c d, Nat.xor_comm b c, Nat.xor_assoc c b d]
theorem tmN_xor_left : ∀ (n a a' b : Nat), a < 256 → a' < 256 → tmN n (a ^^^ a') b = tmN n a b ^^^ tmN n a' b
  | 0, _, _, _, _, _ => by simp [tmN]
  | n + 1, a, a', b, h, h' => by
    unfold tmN
    rw [xtN_xor a a' h h', tmN_xor_left n _ _ _ (xtN_lt a h) (xtN_lt a' h'), xor_swap4]
    congr 1
    split <;> simp
theorem xor_half (b b' : Nat) : (b ^^^ b') / 2 = (b / 2) ^^^ (b' / 2) := by
  apply Nat.eq_of_testBit_eq
  intro i
  simp [Nat.testBit_div_two, Nat.testBit_xor]
theorem xor_parity (b b' : Nat) : (b ^^^ b') % 2 = (b % 2 + b' % 2) % 2 := by
  have e := Nat.xor_mod_two_eq_one (a := b) (b := b')
  have h1 := Nat.mod_two_eq_zero_or_one b
  have h2 := Nat.mod_two_eq_zero_or_one b'
  have h3 := Nat.mod_two_eq_zero_or_one (b ^^^ b')
  rcases h1 with h1 | h1 <;> rcases h2 with h2 | h2 <;> rcases h3 with h3 | h3 <;> simp_all
theorem tmN_xor_right : ∀ (n a b b' : Nat), tmN n a (b ^^^ b') = tmN n a b ^^^ tmN n a b'
  | 0, _, _, _ => by simp [tmN]
  | n + 1, a, b, b' => by
    unfold tmN
    rw [xor_half, tmN_xor_right n, xor_swap4]
    congr 1
    rw [xor_parity]
    have h1 := Nat.mod_two_eq_zero_or_one b
    have h2 := Nat.mod_two_eq_zero_or_one b'
    rcases h1 with h1 | h1 <;> rcases h2 with h2 | h2 <;> simp [h1, h2]
theorem gf_xor_left (a a' b : Nat) (h : a < 256) (h' : a' < 256) : gf (a ^^^ a') b = gf a b ^^^ gf a' b := tmN_xor_left 8 a a' b h h'
theorem gf_xor_right (a b b' : Nat) : gf a (b ^^^ b') = gf a b ^^^ gf a b' := tmN_xor_right 8 a b b'

theorem basis_all : ((List.range 256).all fun x => x == ((((((x &&& 1) ^^^ (x &&& 2)) ^^^ (x &&& 4)) ^^^ (x &&& 8)) ^^^ (x &&& 16)) ^^^ (x &&& 32)) ^^^ ((x &&& 64) ^^^ (x &&& 128))) = true := by kernel_rfl
theorem bit_all : ((List.range 256).all fun x => (x &&& 1 == 0 || x &&& 1 == 1) && (x &&& 2 == 0 || x &&& 2 == 2) && (x &&& 4 == 0 || x &&& 4 == 4) && (x &&& 8 == 0 || x &&& 8 == 8) && (x &&& 16 == 0 || x &&& 16 == 16) && (x &&& 32 == 0 || x &&& 32 == 32) && (x &&& 64 == 0 || x &&& 64 == 64) && (x &&& 128 == 0 || x &&& 128 == 128)) = true := by kernel_rfl
/-- Goes through sums. -/
def Lin (f : Nat → Nat) : Prop := ∀ x y, x < 256 → y < 256 → f (x ^^^ y) = f x ^^^ f y
theorem Lin.zero {f : Nat → Nat} (h : Lin f) : f 0 = 0 := by
  have := h 0 0 (by omega) (by omega)
  rw [Nat.xor_self, Nat.xor_self] at this
  exact this
/-- What goes through sums is told by the powers of 2. -/
theorem lin_ext {f g : Nat → Nat} (hf : Lin f) (hg : Lin g) (h : ∀ i, i < 8 → f (2 ^ i) = g (2 ^ i)) (x : Nat) (hx : x < 256) : f x = g x := by
  have hb := all1 bit_all x hx
  have hs := all1 basis_all x hx
  simp only [beq_iff_eq] at hs
  simp only [Bool.and_eq_true, Bool.or_eq_true, beq_iff_eq] at hb
  obtain ⟨⟨⟨⟨⟨⟨⟨h0, h1⟩, h2⟩, h3⟩, h4⟩, h5⟩, h6⟩, h7⟩ := hb
  have one : ∀ i, i < 8 → ∀ y, (y = 0 ∨ y = 2 ^ i) → f y = g y ∧ y < 256 := by
    intro i hi y hy
    rcases hy with rfl | rfl
    · exact ⟨by rw [hf.zero, hg.zero], by omega⟩
    · have : 2 ^ i ≤ 2 ^ 7 := Nat.pow_le_pow_right (by omega) (by omega)
      exact ⟨h i hi, by omega⟩
  have two : ∀ y z, (f y = g y ∧ y < 256) → (f z = g z ∧ z < 256) → f (y ^^^ z) = g (y ^^^ z) ∧ y ^^^ z < 256 := by
    intro y z ⟨e1, l1⟩ ⟨e2, l2⟩
    exact ⟨by rw [hf y z l1 l2, hg y z l1 l2, e1, e2], xor8 l1 l2⟩
  rw [hs]
  exact (two _ _ (two _ _ (two _ _ (two _ _ (two _ _ (two _ _ (one 0 (by omega) _ h0) (one 1 (by omega) _ h1)) (one 2 (by omega) _ h2)) (one 3 (by omega) _ h3)) (one 4 (by omega) _ h4)) (one 5 (by omega) _ h5)) (two _ _ (one 6 (by omega) _ h6) (one 7 (by omega) _ h7))).1
theorem pow_lt {i : Nat} (h : i < 8) : 2 ^ i < 256 := by
  have : 2 ^ i ≤ 2 ^ 7 := Nat.pow_le_pow_right (by omega) (by omega)
  omega
theorem all8 {p : Nat → Bool} (h : ((List.range 8).all fun x => p x) = true) (x : Nat) (hx : x < 8) : p x = true := List.all_eq_true.1 h x (List.mem_range.2 hx)
theorem comm_all : ((List.range 8).all fun i => (List.range 8).all fun j => gf (2 ^ i) (2 ^ j) == gf (2 ^ j) (2 ^ i)) = true := by kernel_rfl
theorem gf_comm (a b : Nat) (ha : a < 256) (hb : b < 256) : gf a b = gf b a := by
  refine lin_ext (f := fun a => gf a b) (g := fun a => gf b a) (fun x y hx hy => gf_xor_left x y b hx hy) (fun x y _ _ => gf_xor_right b x y) (fun i hi => ?_) a ha
  refine lin_ext (f := fun b => gf (2 ^ i) b) (g := fun b => gf b (2 ^ i)) (fun x y _ _ => gf_xor_right _ x y) (fun x y hx hy => gf_xor_left x y _ hx hy) (fun j hj => ?_) b hb
  have := all8 (all8 comm_all i hi) j hj
  simpa using this
theorem assoc_all : ((List.range 8).all fun i => (List.range 8).all fun j => (List.range 8).all fun k => gf (2 ^ i) (gf (2 ^ j) (2 ^ k)) == gf (gf (2 ^ i) (2 ^ j)) (2 ^ k)) = true := by kernel_rfl
theorem gf_assoc (a b c : Nat) (ha : a < 256) (hb : b < 256) (hc : c < 256) : gf a (gf b c) = gf (gf a b) c := by
  refine lin_ext (f := fun a => gf a (gf b c)) (g := fun a => gf (gf a b) c) (fun x y hx hy => gf_xor_left x y _ hx hy) (fun x y hx hy => ?_) (fun i hi => ?_) a ha
  · show gf (gf (x ^^^ y) b) c = _
    rw [gf_xor_left x y b hx hy, gf_xor_left _ _ c (gf_lt _ _ hx) (gf_lt _ _ hy)]
  refine lin_ext (f := fun b => gf (2 ^ i) (gf b c)) (g := fun b => gf (gf (2 ^ i) b) c) (fun x y hx hy => ?_) (fun x y hx hy => ?_) (fun j hj => ?_) b hb
  · show gf (2 ^ i) (gf (x ^^^ y) c) = _
    rw [gf_xor_left x y c hx hy, gf_xor_right]
  · show gf (gf (2 ^ i) (x ^^^ y)) c = _
    rw [gf_xor_right, gf_xor_left _ _ c (gf_lt _ _ (pow_lt hi)) (gf_lt _ _ (pow_lt hi))]
  refine lin_ext (f := fun c => gf (2 ^ i) (gf (2 ^ j) c)) (g := fun c => gf (gf (2 ^ i) (2 ^ j)) c) (fun x y hx hy => ?_) (fun x y _ _ => gf_xor_right _ x y) (fun k hk => ?_) c hc
  · show gf (2 ^ i) (gf (2 ^ j) (x ^^^ y)) = _
    rw [gf_xor_right, gf_xor_right]
  have := all8 (all8 (all8 assoc_all i hi) j hj) k hk
  simpa using this
theorem gf_zero (a : Nat) (ha : a < 256) : gf a 0 = 0 := (show Lin (fun b => gf a b) from fun x y _ _ => gf_xor_right a x y).zero
theorem one_all : ((List.range 256).all fun a => gf a 1 == a) = true := by kernel_rfl
theorem gf_one (a : Nat) (ha : a < 256) : gf a 1 = a := by simpa using all1 one_all a ha
theorem gf_two_all : ((List.range 256).all fun a => gf a 2 == xtN a && gf a 3 == xtN a ^^^ a) = true := by kernel_rfl

def invL : List Nat := [0, 1, 141, 246, 203, 82, 123, 209, 232, 79, 41, 192, 176, 225, 229, 199, 116, 180, 170, 75, 153, 43, 96, 95, 88, 63, 253, 204, 255, 64, 238, 178, 58, 110, 90, 241, 85, 77, 168, 201, 193, 10, 152, 21, 48, 68, 162, 194, 44, 69, 146, 108, 243, 57, 102, 66, 242, 53, 32, 111, 119, 187, 89, 25, 29, 254, 55, 103, 45, 49, 245, 105, 167, 100, 171, 19, 84, 37, 233, 9, 237, 92, 5, 202, 76, 36, 135, 191, 24, 62, 34, 240, 81, 236, 97, 23, 22, 94, 175, 211, 73, 166, 54, 67, 244, 71, 145, 223, 51, 147, 33, 59, 121, 183, 151, 133, 16, 181, 186, 60, 182, 112, 208, 6, 161, 250, 129, 130, 131, 126, 127, 128, 150, 115, 190, 86, 155, 158, 149, 217, 247, 2, 185, 164, 222, 106, 50, 109, 216, 138, 132, 114, 42, 20, 159, 136, 249, 220, 137, 154, 251, 124, 46, 195, 143, 184, 101, 72, 38, 200, 18, 74, 206, 231, 210, 98, 12, 224, 31, 239, 17, 117, 120, 113, 165, 142, 118, 61, 189, 188, 134, 87, 11, 40, 47, 163, 218, 212, 228, 15, 169, 39, 83, 4, 27, 252, 172, 230, 122, 7, 174, 99, 197, 219, 226, 234, 148, 139, 196, 213, 157, 248, 144, 107, 177, 13, 214, 235, 198, 14, 207, 173, 8, 78, 215, 227, 93, 80, 30, 179, 91, 35, 56, 52, 104, 70, 3, 140, 221, 156, 125, 160, 205, 26, 65, 28]
def subL : List Nat := [99, 124, 119, 123, 242, 107, 111, 197, 48, 1, 103, 43, 254, 215, 171, 118, 202, 130, 201, 125, 250, 89, 71, 240, 173, 212, 162, 175, 156, 164, 114, 192, 183, 253, 147, 38, 54, 63, 247, 204, 52, 165, 229, 241, 113, 216, 49, 21, 4, 199, 35, 195, 24, 150, 5, 154, 7, 18, 128, 226, 235, 39, 178, 117, 9, 131, 44, 26, 27, 110, 90, 160, 82, 59, 214, 179, 41, 227, 47, 132, 83, 209, 0, 237, 32, 252, 177, 91, 106, 203, 190, 57, 74, 76, 88, 207, 208, 239, 170, 251, 67, 77, 51, 133, 69, 249, 2, 127, 80, 60, 159, 168, 81, 163, 64, 143, 146, 157, 56, 245, 188, 182, 218, 33, 16, 255, 243, 210, 205, 12, 19, 236, 95, 151, 68, 23, 196, 167, 126, 61, 100, 93, 25, 115, 96, 129, 79, 220, 34, 42, 144, 136, 70, 238, 184, 20, 222, 94, 11, 219, 224, 50, 58, 10, 73, 6, 36, 92, 194, 211, 172, 98, 145, 149, 228, 121, 231, 200, 55, 109, 141, 213, 78, 169, 108, 86, 244, 234, 101, 122, 174, 8, 186, 120, 37, 46, 28, 166, 180, 198, 232, 221, 116, 31, 75, 189, 139, 138, 112, 62, 181, 102, 72, 3, 246, 14, 97, 53, 87, 185, 134, 193, 29, 158, 225, 248, 152, 17, 105, 217, 142, 148, 155, 30, 135, 233, 206, 85, 40, 223, 140, 161, 137, 13, 191, 230, 66, 104, 65, 153, 45, 15, 176, 84, 187, 22]
def backL : List Nat := [82, 9, 106, 213, 48, 54, 165, 56, 191, 64, 163, 158, 129, 243, 215, 251, 124, 227, 57, 130, 155, 47, 255, 135, 52, 142, 67, 68, 196, 222, 233, 203, 84, 123, 148, 50, 166, 194, 35, 61, 238, 76, 149, 11, 66, 250, 195, 78, 8, 46, 161, 102, 40, 217, 36, 178, 118, 91, 162, 73, 109, 139, 209, 37, 114, 248, 246, 100, 134, 104, 152, 22, 212, 164, 92, 204, 93, 101, 182, 146, 108, 112, 72, 80, 253, 237, 185, 218, 94, 21, 70, 87, 167, 141, 157, 132, 144, 216, 171, 0, 140, 188, 211, 10, 247, 228, 88, 5, 184, 179, 69, 6, 208, 44, 30, 143, 202, 63, 15, 2, 193, 175, 189, 3, 1, 19, 138, 107, 58, 145, 17, 65, 79, 103, 220, 234, 151, 242, 207, 206, 240, 180, 230, 115, 150, 172, 116, 34, 231, 173, 53, 133, 226, 249, 55, 232, 28, 117, 223, 110, 71, 241, 26, 113, 29, 41, 197, 137, 111, 183, 98, 14, 170, 24, 190, 27, 252, 86, 62, 75, 198, 210, 121, 32, 154, 219, 192, 254, 120, 205, 90, 244, 31, 221, 168, 51, 136, 7, 199, 49, 177, 18, 16, 89, 39, 128, 236, 95, 96, 81, 127, 169, 25, 181, 74, 13, 45, 229, 122, 159, 147, 201, 156, 239, 160, 224, 59, 77, 174, 42, 245, 176, 200, 235, 187, 60, 131, 83, 153, 97, 23, 43, 4, 126, 186, 119, 214, 38, 225, 105, 20, 99, 85, 33, 12, 125]
/-- What times b is 1 (0 for 0). -/
def invN (b : Nat) : Nat := invL.getD b 0
/-- Bit i of Sub. -/
def subBit (c i : Nat) : Nat := ((((((99 / 2 ^ i % 2) ^^^ (c / 2 ^ i % 2)) ^^^ (c / 2 ^ ((i + 4) % 8) % 2)) ^^^ (c / 2 ^ ((i + 5) % 8) % 2)) ^^^ (c / 2 ^ ((i + 6) % 8) % 2)) ^^^ (c / 2 ^ ((i + 7) % 8) % 2))
/-- The first n bits of Sub. -/
def affN (c : Nat) : Nat → Nat
  | 0 => 0
  | i + 1 => affN c i + subBit c i * 2 ^ i
def subN (b : Nat) : Nat := subL.getD b 0
def backN (b : Nat) : Nat := backL.getD b 0
theorem inv_all : ((List.range 256).all fun b => decide (invN b < 256) && (b == 0 || gf b (invN b) == 1) && (invN 0 == 0)) = true := by kernel_rfl
theorem sub_all : ((List.range 256).all fun b => affN (invN b) 8 == subN b && decide (subN b < 256) && decide (backN b < 256) && backN (subN b) == b && subN (backN b) == b) = true := by kernel_rfl
theorem inv_lt (b : Nat) (hb : b < 256) : invN b < 256 := by have := all1 inv_all b hb; simp at this; exact this.1.1
theorem inv_one (b : Nat) (hb : b < 256) (h0 : b ≠ 0) : gf b (invN b) = 1 := by
  have := all1 inv_all b hb
  simp at this
  rcases this.1.2 with h | h
  · exact absurd h h0
  · exact h
theorem inv_zero : invN 0 = 0 := rfl
theorem sub_aff (b : Nat) (hb : b < 256) : affN (invN b) 8 = subN b := by have := all1 sub_all b hb; simp at this; exact this.1.1.1.1
theorem sub_lt (b : Nat) (hb : b < 256) : subN b < 256 := by have := all1 sub_all b hb; simp at this; exact this.1.1.1.2
theorem back_lt (b : Nat) (hb : b < 256) : backN b < 256 := by have := all1 sub_all b hb; simp at this; exact this.1.1.2
theorem back_sub (b : Nat) (hb : b < 256) : backN (subN b) = b := by have := all1 sub_all b hb; simp at this; exact this.1.2
theorem sub_back (b : Nat) (hb : b < 256) : subN (backN b) = b := by have := all1 sub_all b hb; simp at this; exact this.2
theorem gf_one_left (a : Nat) (ha : a < 256) : gf 1 a = a := by rw [gf_comm 1 a (by omega) ha, gf_one a ha]
theorem gf_zero_left (a : Nat) (ha : a < 256) : gf 0 a = 0 := by rw [gf_comm 0 a (by omega) ha, gf_zero a ha]
/-- What times b is 1 is one number alone. -/
theorem inv_unique (x b : Nat) (hx : x < 256) (hb : b < 256) : gf x b = 1 ↔ (b ≠ 0 ∧ x = invN b) := by
  constructor
  · intro h
    have h0 : b ≠ 0 := by rintro rfl; rw [gf_zero x hx] at h; omega
    refine ⟨h0, ?_⟩
    have e := gf_assoc x b (invN b) hx hb (inv_lt b hb)
    rw [inv_one b hb h0, gf_one x hx, h, gf_one_left _ (inv_lt b hb)] at e
    exact e
  · rintro ⟨h0, rfl⟩
    rw [gf_comm _ _ (inv_lt b hb) hb, inv_one b hb h0]
theorem gf_inv_found (a : Nat) (ha : a < 256) : (∃ x, x < 256 ∧ gf a x = 1) ↔ a ≠ 0 := by
  constructor
  · rintro ⟨x, hx, h⟩ rfl
    rw [gf_zero_left x hx] at h
    omega
  · exact fun h0 => ⟨_, inv_lt a ha, inv_one a ha h0⟩

/-- A column mixed: its byte i, of the bytes from i on. -/
def mixN (a b c d : Nat) : Nat := ((gf 2 a ^^^ gf 3 b) ^^^ c) ^^^ d
def unmixN (a b c d : Nat) : Nat := ((gf 14 a ^^^ gf 11 b) ^^^ gf 13 c) ^^^ gf 9 d
theorem mixN_lt (a b c d : Nat) (ha : a < 256) (hb : b < 256) (hc : c < 256) (hd : d < 256) : mixN a b c d < 256 := xor8 (xor8 (xor8 (gf_lt _ _ (by omega)) (gf_lt _ _ (by omega))) hc) hd
theorem unmixN_lt (a b c d : Nat) : unmixN a b c d < 256 := xor8 (xor8 (xor8 (gf_lt _ _ (by omega)) (gf_lt _ _ (by omega))) (gf_lt _ _ (by omega))) (gf_lt _ _ (by omega))
theorem coef_all : ((List.range 256).all fun x =>
    (((gf 14 (gf 2 x) ^^^ gf 11 x) ^^^ gf 13 x) ^^^ gf 9 (gf 3 x)) == x && (((gf 14 (gf 3 x) ^^^ gf 11 (gf 2 x)) ^^^ gf 13 x) ^^^ gf 9 x) == 0 &&
    (((gf 14 x ^^^ gf 11 (gf 3 x)) ^^^ gf 13 (gf 2 x)) ^^^ gf 9 x) == 0 && (((gf 14 x ^^^ gf 11 x) ^^^ gf 13 (gf 3 x)) ^^^ gf 9 (gf 2 x)) == 0) = true := by kernel_rfl
theorem coef_all2 : ((List.range 256).all fun x =>
    (((gf 2 (gf 14 x) ^^^ gf 3 (gf 9 x)) ^^^ gf 13 x) ^^^ gf 11 x) == x && (((gf 2 (gf 11 x) ^^^ gf 3 (gf 14 x)) ^^^ gf 9 x) ^^^ gf 13 x) == 0 &&
    (((gf 2 (gf 13 x) ^^^ gf 3 (gf 11 x)) ^^^ gf 14 x) ^^^ gf 9 x) == 0 && (((gf 2 (gf 9 x) ^^^ gf 3 (gf 13 x)) ^^^ gf 11 x) ^^^ gf 14 x) == 0) = true := by kernel_rfl
theorem unmix_mix (a b c d : Nat) (ha : a < 256) (hb : b < 256) (hc : c < 256) (hd : d < 256) :
    unmixN (mixN a b c d) (mixN b c d a) (mixN c d a b) (mixN d a b c) = a := by
  have h1 := all1 coef_all a ha
  have h2 := all1 coef_all b hb
  have h3 := all1 coef_all c hc
  have h4 := all1 coef_all d hd
  simp only [Bool.and_eq_true, beq_iff_eq] at h1 h2 h3 h4
  have e : unmixN (mixN a b c d) (mixN b c d a) (mixN c d a b) (mixN d a b c) =
      (((((gf 14 (gf 2 a) ^^^ gf 11 a) ^^^ gf 13 a) ^^^ gf 9 (gf 3 a)) ^^^ (((gf 14 (gf 3 b) ^^^ gf 11 (gf 2 b)) ^^^ gf 13 b) ^^^ gf 9 b)) ^^^
      (((gf 14 c ^^^ gf 11 (gf 3 c)) ^^^ gf 13 (gf 2 c)) ^^^ gf 9 c)) ^^^ (((gf 14 d ^^^ gf 11 d) ^^^ gf 13 (gf 3 d)) ^^^ gf 9 (gf 2 d)) := by
    unfold unmixN mixN
    simp only [gf_xor_right]
    ac_rfl
  rw [e, h1.1.1.1, h2.1.1.2, h3.1.2, h4.2]
  simp
theorem mix_unmix (a b c d : Nat) (ha : a < 256) (hb : b < 256) (hc : c < 256) (hd : d < 256) :
    mixN (unmixN a b c d) (unmixN b c d a) (unmixN c d a b) (unmixN d a b c) = a := by
  have h1 := all1 coef_all2 a ha
  have h2 := all1 coef_all2 b hb
  have h3 := all1 coef_all2 c hc
  have h4 := all1 coef_all2 d hd
  simp only [Bool.and_eq_true, beq_iff_eq] at h1 h2 h3 h4
  have e : mixN (unmixN a b c d) (unmixN b c d a) (unmixN c d a b) (unmixN d a b c) =
      (((((gf 2 (gf 14 a) ^^^ gf 3 (gf 9 a)) ^^^ gf 13 a) ^^^ gf 11 a) ^^^ (((gf 2 (gf 11 b) ^^^ gf 3 (gf 14 b)) ^^^ gf 9 b) ^^^ gf 13 b)) ^^^
      (((gf 2 (gf 13 c) ^^^ gf 3 (gf 11 c)) ^^^ gf 14 c) ^^^ gf 9 c)) ^^^ (((gf 2 (gf 9 d) ^^^ gf 3 (gf 13 d)) ^^^ gf 11 d) ^^^ gf 14 d) := by
    unfold unmixN mixN
    simp only [gf_xor_right]
    ac_rfl
  rw [e, h1.1.1.1, h2.1.1.2, h3.1.2, h4.2]
  simp
end Go.Proofs.Ytlgabihjfjlhkaa
