/-
  The coder of chapter 14 as plain functions: an interval that is cut, what it sheds; what was put in comes out again.
-/
namespace Go.Proofs.Ytbgbacajgaeooaa

/-- Where a chance cuts. -/
def cutM (x y p : Nat) : Nat := x + (y - x) / 65536 * p + (y - x) % 65536 * p / 65536
/-- An interval that may be. -/
structure IvOk (x y : Nat) : Prop where
  le : x ≤ y
  lt : y < 4294967296
  top : x / 16777216 ≠ y / 16777216
theorem cut_in (x y p : Nat) (h : IvOk x y) (_h1 : 1 ≤ p) (h2 : p ≤ 65535) : x ≤ cutM x y p ∧ cutM x y p < y := by
  have hlt : x < y := by
    rcases Nat.lt_or_ge x y with h3 | h3
    · exact h3
    · exact absurd (by rw [Nat.le_antisymm h.le h3]) h.top
  unfold cutM
  obtain ⟨r, hr⟩ : ∃ r, y - x = r := ⟨_, rfl⟩
  rw [hr]
  have hr1 : 1 ≤ r := by omega
  refine ⟨by omega, ?_⟩
  have e := Nat.div_add_mod r 65536
  obtain ⟨a, ha⟩ : ∃ a, r / 65536 = a := ⟨_, rfl⟩
  obtain ⟨b, hb⟩ : ∃ b, r % 65536 = b := ⟨_, rfl⟩
  rw [ha, hb] at e ⊢
  have k1 : a * p ≤ a * 65535 := Nat.mul_le_mul_left a h2
  have k2 : b * p ≤ b * 65535 := Nat.mul_le_mul_left b h2
  have k3 : b * p / 65536 ≤ b * 65535 / 65536 := Nat.div_le_div_right k2
  have k4 : b * 65535 / 65536 ≤ b := by omega
  by_cases hb0 : b = 0
  · subst hb0
    rw [Nat.zero_mul, Nat.zero_div]
    omega
  · have : b * 65535 / 65536 < b := by omega
    omega
def sx (x : Nat) : Nat := x * 256 % 4294967296
def sy (y : Nat) : Nat := (y * 256 + 255) % 4294967296
/-- What is shed, at most f bytes; the interval then. -/
def shd : Nat → Nat → Nat → List UInt8 × Nat × Nat
  | 0, x, y => ([], x, y)
  | f + 1, x, y => if x / 16777216 = y / 16777216 then (UInt8.ofNat (x / 16777216) :: (shd f (sx x) (sy y)).1, (shd f (sx x) (sy y)).2) else ([], x, y)
theorem shd_stop (f x y : Nat) (h : x / 16777216 ≠ y / 16777216) : shd f x y = ([], x, y) := by
  cases f with
  | zero => rfl
  | succ f => unfold shd; rw [if_neg h]
theorem shd_go (f x y : Nat) (h : x / 16777216 = y / 16777216) : shd (f + 1) x y = (UInt8.ofNat (x / 16777216) :: (shd f (sx x) (sy y)).1, (shd f (sx x) (sy y)).2) := by
  rw [shd, if_pos h]
theorem shd_len : ∀ (f x y : Nat), (shd f x y).1.length ≤ f
  | 0, x, y => by simp [shd]
  | f + 1, x, y => by
    unfold shd
    split
    · simp only [List.length_cons]
      have := shd_len f (sx x) (sy y)
      omega
    · simp
theorem s_le (x y : Nat) (hle : x ≤ y) (_hy : y < 4294967296) (ht : x / 16777216 = y / 16777216) : sx x ≤ sy y ∧ sy y < 4294967296 := by
  unfold sx sy; omega
/-- So wide apart: 256 to the power of k. -/
def Wide (k x y : Nat) : Prop := 4294967296 ≤ (y - x + 1) * 256 ^ k
/-- Four bytes are enough. -/
theorem shd_ok : ∀ (k x y : Nat), x ≤ y → y < 4294967296 → 4294967296 ≤ (y - x + 1) * 256 ^ k → IvOk (shd k x y).2.1 (shd k x y).2.2
  | 0, x, y, hle, hy, hw => by
    have : y - x + 1 ≥ 4294967296 := by simpa using hw
    refine ⟨hle, hy, ?_⟩
    show x / 16777216 ≠ y / 16777216
    omega
  | k + 1, x, y, hle, hy, hw => by
    by_cases ht : x / 16777216 = y / 16777216
    · rw [shd_go k x y ht]
      obtain ⟨h1, h2⟩ := s_le x y hle hy ht
      refine shd_ok k (sx x) (sy y) h1 h2 ?_
      have e : sy y - sx x + 1 = (y - x + 1) * 256 := by unfold sx sy; omega
      rw [e, Nat.mul_assoc, ← Nat.pow_succ']
      exact hw
    · rw [shd_stop _ x y ht]
      exact ⟨hle, hy, ht⟩
theorem shd4_ok (x y : Nat) (hle : x ≤ y) (hy : y < 4294967296) : IvOk (shd 4 x y).2.1 (shd 4 x y).2.2 := shd_ok 4 x y hle hy (by
  have : 1 * 256 ^ 4 ≤ (y - x + 1) * 256 ^ 4 := Nat.mul_le_mul_right _ (by omega)
  exact Nat.le_trans (by decide) this)
/-- The interval with a bit taken, ahead of the shedding. -/
def took (x y p : Nat) (b : Bool) : Nat × Nat := if b then (x, cutM x y p) else (cutM x y p + 1, y)
theorem took_ok (x y p : Nat) (b : Bool) (h : IvOk x y) (h1 : 1 ≤ p) (h2 : p ≤ 65535) : x ≤ (took x y p b).1 ∧ (took x y p b).1 ≤ (took x y p b).2 ∧ (took x y p b).2 ≤ y := by
  have c := cut_in x y p h h1 h2
  unfold took
  cases b
  · exact ⟨by show x ≤ cutM x y p + 1; omega, by show cutM x y p + 1 ≤ y; omega, Nat.le_refl _⟩
  · exact ⟨Nat.le_refl _, c.1, Nat.le_of_lt c.2⟩
/-- One bit: what is shed, the interval then. -/
def put1 (x y p : Nat) (b : Bool) : List UInt8 × Nat × Nat := shd 4 (took x y p b).1 (took x y p b).2
theorem put1_ok (x y p : Nat) (b : Bool) (h : IvOk x y) (h1 : 1 ≤ p) (h2 : p ≤ 65535) : IvOk (put1 x y p b).2.1 (put1 x y p b).2.2 := by
  obtain ⟨_, k2, k3⟩ := took_ok x y p b h h1 h2
  exact shd4_ok _ _ k2 (Nat.lt_of_le_of_lt k3 h.lt)
/-- Bits with their chances, from an interval on: all that is shed, the interval then. -/
def putL : List (Bool × Nat) → Nat → Nat → List UInt8 × Nat × Nat
  | [], x, y => ([], x, y)
  | a :: l, x, y => ((put1 x y a.2 a.1).1 ++ (putL l (put1 x y a.2 a.1).2.1 (put1 x y a.2 a.1).2.2).1, (putL l (put1 x y a.2 a.1).2.1 (put1 x y a.2 a.1).2.2).2)
theorem putL_snoc : ∀ (l : List (Bool × Nat)) (a : Bool × Nat) (x y : Nat), putL (l ++ [a]) x y = ((putL l x y).1 ++ (put1 (putL l x y).2.1 (putL l x y).2.2 a.2 a.1).1, (put1 (putL l x y).2.1 (putL l x y).2.2 a.2 a.1).2)
  | [], a, x, y => by simp [putL]
  | c :: l, a, x, y => by
    rw [List.cons_append]
    show (_ ++ (putL (l ++ [a]) _ _).1, (putL (l ++ [a]) _ _).2) = _
    rw [putL_snoc l a]
    show _ = ((_ ++ (putL l _ _).1) ++ _, _)
    rw [List.append_assoc]
    rfl
theorem putL_len : ∀ (l : List (Bool × Nat)) (x y : Nat), (putL l x y).1.length ≤ 4 * l.length
  | [], x, y => by simp [putL]
  | a :: l, x, y => by
    show (_ ++ _ : List UInt8).length ≤ _
    rw [List.length_append, List.length_cons]
    have h1 := putL_len l (put1 x y a.2 a.1).2.1 (put1 x y a.2 a.1).2.2
    have h2 : (put1 x y a.2 a.1).1.length ≤ 4 := shd_len 4 _ _
    omega
/-- The number that bytes begin with; noughts stand behind them. -/
def z4 (R : List UInt8) : Nat := (R.getD 0 0).toNat * 16777216 + (R.getD 1 0).toNat * 65536 + (R.getD 2 0).toNat * 256 + (R.getD 3 0).toNat
theorem z4_lt (R : List UInt8) : z4 R < 4294967296 := by
  have h0 := (R.getD 0 0).toNat_lt
  have h1 := (R.getD 1 0).toNat_lt
  have h2 := (R.getD 2 0).toNat_lt
  have h3 := (R.getD 3 0).toNat_lt
  unfold z4; omega
/-- A byte ahead. -/
theorem z4_cons (b : UInt8) (R : List UInt8) : z4 (b :: R) = b.toNat * 16777216 + z4 R / 256 := by
  have h3 := (R.getD 3 0).toNat_lt
  unfold z4
  simp only [List.getD_cons_zero, List.getD_cons_succ]
  omega
/-- A byte taken off. -/
theorem z4_tail (R : List UInt8) : z4 (R.drop 1) = (z4 R * 256) % 4294967296 + (R.getD 4 0).toNat := by
  have h0 := (R.getD 0 0).toNat_lt
  have h1 := (R.getD 1 0).toNat_lt
  have h2 := (R.getD 2 0).toNat_lt
  have h3 := (R.getD 3 0).toNat_lt
  have h4 := (R.getD 4 0).toNat_lt
  have g : ∀ j, (R.drop 1).getD j 0 = R.getD (j + 1) 0 := by
    intro j
    rw [List.getD_eq_getElem?_getD, List.getD_eq_getElem?_getD, List.getElem?_drop, Nat.add_comm]
  have g0 : (R.drop 1).getD 0 0 = R.getD 1 0 := g 0
  have g1 : (R.drop 1).getD 1 0 = R.getD 2 0 := g 1
  have g2 : (R.drop 1).getD 2 0 = R.getD 3 0 := g 2
  have g3 : (R.drop 1).getD 3 0 = R.getD 4 0 := g 3
  unfold z4
  rw [g0, g1, g2, g3]
  omega
theorem shd_in1 (x y z : Nat) (_hle : x ≤ y) (_hy : y < 4294967296) (ht : x / 16777216 = y / 16777216) (i1 : sx x ≤ z) (i2 : z ≤ sy y) : x ≤ x / 16777216 * 16777216 + z / 256 ∧ x / 16777216 * 16777216 + z / 256 ≤ y := by
  unfold sx at i1
  unfold sy at i2
  omega
/-- What lies in the shed interval lay in the other one. -/
theorem shd_in (k : Nat) : ∀ (x y : Nat) (R : List UInt8), x ≤ y → y < 4294967296 → (shd k x y).2.1 ≤ z4 R → z4 R ≤ (shd k x y).2.2 → x ≤ z4 ((shd k x y).1 ++ R) ∧ z4 ((shd k x y).1 ++ R) ≤ y := by
  induction k with
  | zero => exact fun x y R _ _ h1 h2 => ⟨h1, h2⟩
  | succ k ihk =>
    intro x y R hle hy h1 h2
    by_cases ht : x / 16777216 = y / 16777216
    · rw [shd_go k x y ht] at h1 h2 ⊢
      obtain ⟨q1, q2⟩ := s_le x y hle hy ht
      have ih := ihk (sx x) (sy y) R q1 q2 h1 h2
      rw [List.cons_append, z4_cons]
      have hb : (UInt8.ofNat (x / 16777216)).toNat = x / 16777216 := by
        rw [UInt8.toNat_ofNat']
        omega
      rw [hb]
      exact shd_in1 x y _ hle hy ht ih.1 ih.2
    · rw [shd_stop _ x y ht] at h1 h2 ⊢
      exact ⟨h1, h2⟩
/-- The four bytes of x. -/
def be4 (x : Nat) : List UInt8 := [UInt8.ofNat (x / 16777216), UInt8.ofNat (x / 65536 % 256), UInt8.ofNat (x / 256 % 256), UInt8.ofNat (x % 256)]
theorem z4_be4 (x : Nat) (R : List UInt8) (h : x < 4294967296) : z4 (be4 x ++ R) = x := by
  unfold z4 be4
  simp only [List.cons_append, List.nil_append, List.getD_cons_zero, List.getD_cons_succ]
  have a0 : (UInt8.ofNat (x / 16777216)).toNat = x / 16777216 := by simp; omega
  have a1 : (UInt8.ofNat (x / 65536 % 256)).toNat = x / 65536 % 256 := by simp
  have a2 : (UInt8.ofNat (x / 256 % 256)).toNat = x / 256 % 256 := by simp
  have a3 : (UInt8.ofNat (x % 256)).toNat = x % 256 := by simp
  rw [a0, a1, a2, a3]
  omega
/-- What is told behind some bits begins with a number of the interval. -/
theorem putL_in : ∀ (l : List (Bool × Nat)) (x y : Nat) (R : List UInt8), IvOk x y → (∀ a ∈ l, 1 ≤ a.2 ∧ a.2 ≤ 65535) → x ≤ z4 ((putL l x y).1 ++ (be4 (putL l x y).2.1 ++ R)) ∧ z4 ((putL l x y).1 ++ (be4 (putL l x y).2.1 ++ R)) ≤ y
  | [], x, y, R, h, _ => by
    show x ≤ z4 ([] ++ (be4 x ++ R)) ∧ z4 ([] ++ (be4 x ++ R)) ≤ y
    rw [List.nil_append, z4_be4 x R (Nat.lt_of_le_of_lt h.le h.lt)]
    exact ⟨Nat.le_refl _, h.le⟩
  | a :: l, x, y, R, h, hl => by
    obtain ⟨p1, p2⟩ := hl a (List.mem_cons_self ..)
    have hk := put1_ok x y a.2 a.1 h p1 p2
    have ih := putL_in l _ _ R hk (fun b hb => hl b (List.mem_cons_of_mem _ hb))
    obtain ⟨k1, k2, k3⟩ := took_ok x y a.2 a.1 h p1 p2
    have := shd_in 4 (took x y a.2 a.1).1 (took x y a.2 a.1).2 _ k2 (Nat.lt_of_le_of_lt k3 h.lt) ih.1 ih.2
    show x ≤ z4 (((put1 x y a.2 a.1).1 ++ _) ++ _) ∧ z4 (((put1 x y a.2 a.1).1 ++ _) ++ _) ≤ y
    rw [List.append_assoc]
    exact ⟨Nat.le_trans k1 this.1, Nat.le_trans this.2 k3⟩
/-- The bit that bytes tell. -/
def bitOf (x y p : Nat) (R : List UInt8) : Bool := decide (z4 R ≤ cutM x y p)
/-- Bits out of bytes, by their chances. -/
def getL : List Nat → Nat → Nat → List UInt8 → List Bool
  | [], _, _, _ => []
  | p :: ps, x, y, R => bitOf x y p R :: getL ps (put1 x y p (bitOf x y p R)).2.1 (put1 x y p (bitOf x y p R)).2.2 (R.drop (put1 x y p (bitOf x y p R)).1.length)
/-- The first bit that is told is the one that was put in. -/
theorem bit_back (a : Bool × Nat) (l : List (Bool × Nat)) (x y : Nat) (R : List UInt8) (h : IvOk x y) (hl : ∀ b ∈ a :: l, 1 ≤ b.2 ∧ b.2 ≤ 65535) : bitOf x y a.2 ((putL (a :: l) x y).1 ++ (be4 (putL (a :: l) x y).2.1 ++ R)) = a.1 := by
  obtain ⟨p1, p2⟩ := hl a (List.mem_cons_self ..)
  have hk := put1_ok x y a.2 a.1 h p1 p2
  have ih := putL_in l _ _ R hk (fun b hb => hl b (List.mem_cons_of_mem _ hb))
  obtain ⟨k1, k2, k3⟩ := took_ok x y a.2 a.1 h p1 p2
  have q := shd_in 4 (took x y a.2 a.1).1 (took x y a.2 a.1).2 _ k2 (Nat.lt_of_le_of_lt k3 h.lt) ih.1 ih.2
  have e : (putL (a :: l) x y).1 ++ (be4 (putL (a :: l) x y).2.1 ++ R) = (shd 4 (took x y a.2 a.1).1 (took x y a.2 a.1).2).1 ++ ((putL l (put1 x y a.2 a.1).2.1 (put1 x y a.2 a.1).2.2).1 ++ (be4 (putL l (put1 x y a.2 a.1).2.1 (put1 x y a.2 a.1).2.2).2.1 ++ R)) := by
    show ((put1 x y a.2 a.1).1 ++ _) ++ _ = _
    rw [List.append_assoc]
    rfl
  rw [e]
  unfold bitOf
  revert q
  generalize z4 ((shd 4 (took x y a.2 a.1).1 (took x y a.2 a.1).2).1 ++ ((putL l (put1 x y a.2 a.1).2.1 (put1 x y a.2 a.1).2.2).1 ++ (be4 (putL l (put1 x y a.2 a.1).2.1 (put1 x y a.2 a.1).2.2).2.1 ++ R))) = z
  intro q
  unfold took at q
  cases hb : a.1 with
  | true =>
    rw [hb] at q
    exact decide_eq_true q.2
  | false =>
    rw [hb] at q
    have q1 : cutM x y a.2 + 1 ≤ z := q.1
    exact decide_eq_false (by omega)
/-- Whatever bits are put in, with whatever chances, come out again. -/
theorem getL_putL : ∀ (l : List (Bool × Nat)) (x y : Nat) (R : List UInt8), IvOk x y → (∀ a ∈ l, 1 ≤ a.2 ∧ a.2 ≤ 65535) → getL (l.map (·.2)) x y ((putL l x y).1 ++ (be4 (putL l x y).2.1 ++ R)) = l.map (·.1)
  | [], _, _, _, _, _ => rfl
  | a :: l, x, y, R, h, hl => by
    obtain ⟨p1, p2⟩ := hl a (List.mem_cons_self ..)
    have hk := put1_ok x y a.2 a.1 h p1 p2
    have hb := bit_back a l x y R h hl
    have ih := getL_putL l _ _ R hk (fun b hb => hl b (List.mem_cons_of_mem _ hb))
    show bitOf x y a.2 _ :: getL (l.map (·.2)) (put1 x y a.2 (bitOf x y a.2 _)).2.1 (put1 x y a.2 (bitOf x y a.2 _)).2.2 (List.drop (put1 x y a.2 (bitOf x y a.2 _)).1.length _) = a.1 :: l.map (·.1)
    rw [hb]
    congr 1
    rw [← ih]
    congr 1
    show List.drop _ (((put1 x y a.2 a.1).1 ++ _) ++ _) = _
    rw [List.append_assoc, List.drop_left]
    rfl
/-- How much is shed, not what. -/
def shc : Nat → Nat → Nat → Nat → Nat × Nat × Nat
  | 0, k, x, y => (k, x, y)
  | f + 1, k, x, y => if x / 16777216 = y / 16777216 then shc f (k + 1) (sx x) (sy y) else (k, x, y)
theorem shc_shd : ∀ (f k x y : Nat), shc f k x y = (k + (shd f x y).1.length, (shd f x y).2)
  | 0, k, x, y => by simp [shc, shd]
  | f + 1, k, x, y => by
    unfold shc shd
    split
    · rw [shc_shd f]
      simp only [List.length_cons]
      rw [show k + 1 + (shd f (sx x) (sy y)).1.length = k + ((shd f (sx x) (sy y)).1.length + 1) by omega]
    · simp
/-- A one of chance p; how much was shed. -/
def one1 (p : Nat) (s : Nat × Nat × Nat) : Nat × Nat × Nat := shc 4 s.1 s.2.1 (cutM s.2.1 s.2.2 p)
def ones (p : Nat) : Nat → Nat × Nat × Nat → Nat × Nat × Nat
  | 0, s => s
  | n + 1, s => ones p n (one1 p s)
theorem ones_add (p : Nat) : ∀ (n m : Nat) (s : Nat × Nat × Nat), ones p (n + m) s = ones p m (ones p n s)
  | 0, m, s => by rw [Nat.zero_add]; rfl
  | n + 1, m, s => by
    rw [Nat.add_right_comm]
    exact ones_add p n m (one1 p s)
theorem ones_putL (p : Nat) : ∀ (n k x y : Nat), ones p n (k, x, y) = (k + (putL (List.replicate n (true, p)) x y).1.length, (putL (List.replicate n (true, p)) x y).2)
  | 0, k, x, y => by simp [ones, putL]
  | n + 1, k, x, y => by
    rw [List.replicate_succ]
    show ones p n (shc 4 k x (cutM x y p)) = _
    rw [shc_shd, ones_putL p n]
    show _ = (k + ((put1 x y p true).1 ++ (putL (List.replicate n (true, p)) (put1 x y p true).2.1 (put1 x y p true).2.2).1).length, (putL (List.replicate n (true, p)) (put1 x y p true).2.1 (put1 x y p true).2.2).2)
    rw [List.length_append, ← Nat.add_assoc]
    rfl
end Go.Proofs.Ytbgbacajgaeooaa
