/-
  Models and their bytes (chapter 13) as plain data.
-/
import Derived.Test.YtnanmdfbgoahjaaPrn
import Derived.Test.YtnanmdfbgoahjaaCds
namespace Go.Proofs.Ytnanmdfbgoahjaa

/-- Has a kind the field? In the order Size, A, B, C, Rate, Limit. -/
def hasK (k j : Nat) : Bool :=
  if j = 0 then (k == 2 || k == 3 || k == 4 || k == 6 || k == 7 || k == 8 || k == 9)
  else if j = 1 then (k == 5 || k == 6 || k == 7 || k == 8 || k == 9)
  else if j = 2 then (k == 5 || k == 6 || k == 7)
  else if j = 3 then (k == 1 || k == 5)
  else if j = 4 then (k == 6 || k == 7)
  else (k == 2 || k == 9)
def rKind : Rd Nat := fun b => match b with
  | [] => .error 12
  | x :: r => if 1 ≤ x.toNat ∧ x.toNat ≤ 9 then .ok (x.toNat, r) else .error 131
theorem codes_kind : Codes rKind (fun k => [UInt8.ofNat k]) (fun k => 1 ≤ k ∧ k ≤ 9) where
  there := by
    intro k r h
    have e : (UInt8.ofNat k).toNat = k := by rw [UInt8.toNat_ofNat']; omega
    show (if 1 ≤ (UInt8.ofNat k).toNat ∧ (UInt8.ofNat k).toNat ≤ 9 then Except.ok ((UInt8.ofNat k).toNat, r) else .error 131) = _
    rw [e, if_pos h]
  short := by
    intro k i _ hi
    have : i = 0 := by simp only [List.length_cons, List.length_nil] at hi; omega
    subst this
    rfl
  back := by
    intro b k r e
    match b, e with
    | x :: b, e =>
      unfold rKind at e
      simp only at e
      split at e
      next h =>
        injection e with e
        injection e with e1 e2
        subst e1 e2
        refine ⟨?_, h⟩
        have : UInt8.ofNat x.toNat = x := by
          apply UInt8.toNat_inj.1
          rw [UInt8.toNat_ofNat']
          have := x.toNat_lt
          omega
        rw [this]
        rfl
      next => exact absurd e (by simp)
/-- A field: two bytes or one; none. -/
def rField (two has : Bool) : Rd Int := if has then (if two then rTwo else rOne) else rNone 0
def pField (two has : Bool) (n : Int) : List UInt8 := if has then (if two then [by1 (n / 256), by1 (n % 256)] else [by1 n]) else []
def vField (two has : Bool) (n : Int) : Prop := if has then (if two then 0 ≤ n ∧ n ≤ 65535 else 0 ≤ n ∧ n ≤ 255) else n = 0
theorem codes_field (two has : Bool) : Codes (rField two has) (pField two has) (vField two has) := by
  cases has
  · exact (codes_none 0).to (fun _ => rfl) (fun _ => Iff.rfl) (fun _ _ => rfl)
  · cases two
    · exact codes_one.to (fun _ => rfl) (fun _ => Iff.rfl) (fun _ _ => rfl)
    · exact codes_two.to (fun _ => rfl) (fun _ => Iff.rfl) (fun _ _ => rfl)
abbrev Six := Int × Int × Int × Int × Int × Int
def rSix (k : Nat) : Rd Six := (rField false (hasK k 0)).pair fun _ => (rField false (hasK k 1)).pair fun _ => (rField false (hasK k 2)).pair fun _ => (rField true (hasK k 3)).pair fun _ => (rField false (hasK k 4)).pair fun _ => rField true (hasK k 5)
def pSix (k : Nat) (z : Six) : List UInt8 := pField false (hasK k 0) z.1 ++ (pField false (hasK k 1) z.2.1 ++ (pField false (hasK k 2) z.2.2.1 ++ (pField true (hasK k 3) z.2.2.2.1 ++ (pField false (hasK k 4) z.2.2.2.2.1 ++ pField true (hasK k 5) z.2.2.2.2.2))))
def vSix (k : Nat) (z : Six) : Prop := vField false (hasK k 0) z.1 ∧ vField false (hasK k 1) z.2.1 ∧ vField false (hasK k 2) z.2.2.1 ∧ vField true (hasK k 3) z.2.2.2.1 ∧ vField false (hasK k 4) z.2.2.2.2.1 ∧ vField true (hasK k 5) z.2.2.2.2.2
theorem codes_six (k : Nat) : Codes (rSix k) (pSix k) (vSix k) := by
  have c1 := (codes_field false (hasK k 4)).pair0 (codes_field true (hasK k 5))
  have c2 := (codes_field true (hasK k 3)).pair0 c1
  have c3 := (codes_field false (hasK k 2)).pair0 c2
  have c4 := (codes_field false (hasK k 1)).pair0 c3
  exact ((codes_field false (hasK k 0)).pair0 c4).to (fun _ => rfl) (fun _ => Iff.rfl) (fun _ _ => rfl)
def ptOf (z : Nat × Six) : Pt := ⟨z.1, z.2.1, z.2.2.1, z.2.2.2.1, if hasK z.1 3 then z.2.2.2.2.1 - 2048 else 0, z.2.2.2.2.2.1, z.2.2.2.2.2.2⟩
def ofPt (p : Pt) : Nat × Six := (p.kind, p.size, p.a, p.b, if hasK p.kind 3 then p.c + 2048 else 0, p.rate, p.limit)
def rPart : Rd Pt := (rKind.pair rSix).map ptOf
def Pt.put (p : Pt) : List UInt8 := UInt8.ofNat p.kind :: pSix p.kind (ofPt p).2
def Pt.vp (p : Pt) : Prop := ((1 ≤ p.kind ∧ p.kind ≤ 9) ∧ vSix p.kind (ofPt p).2) ∧ ptOf (ofPt p) = p
theorem codes_part : Codes rPart Pt.put Pt.vp :=
  ((codes_kind.pair fun k _ => codes_six k).map ptOf ofPt (fun z hz => by
    obtain ⟨k, s, a, b, c, r, l⟩ := z
    have h3 := hz.2.2.2.2.1
    unfold ofPt ptOf
    simp only at h3 ⊢
    cases e : hasK k 3
    · rw [e] at h3
      have : c = 0 := h3
      simp [this]
    · simp)).to (fun _ => rfl) (fun _ => Iff.rfl) (fun _ _ => rfl)
/-- What is right goes into its bytes. -/
theorem one_vp (p : Pt) (i : Nat) (hi : i ≤ 16) (h : p.one i) : p.vp := by
  have hk := one_kind p i h
  obtain ⟨hf, h⟩ := h
  obtain ⟨k, s, a, b, c, r, l⟩ := p
  simp only at hk
  refine ⟨⟨hk, ?_⟩, ?_⟩
  · have hs : 0 < (Pt.mk k s a b c r l).places → 0 ≤ s ∧ s ≤ 16 := places_size ⟨k, s, a, b, c, r, l⟩
    have hbb : k = 7 → 0 < (Pt.mk k s a b c r l).places → 1 ≤ b ∧ b ≤ 8 := by
      intro e hp
      subst e
      unfold Pt.places at hp
      simp only [show (7 : Nat) ≠ 3 from by decide, show (7 : Nat) ≠ 4 from by decide, if_false, if_true] at hp
      split at hp
      · split at hp
        · assumption
        · omega
      · omega
    have : k = 1 ∨ k = 2 ∨ k = 3 ∨ k = 4 ∨ k = 5 ∨ k = 6 ∨ k = 7 ∨ k = 8 ∨ k = 9 := by omega
    rcases this with e | e | e | e | e | e | e | e | e <;> subst e <;>
      simp [Pt.fields] at hf <;> simp [Pt.fit, inn] at h <;> simp [vSix, vField, hasK, ofPt] <;> first | omega | (have := hs h; omega) | (have := hs h.1; omega) | (have := hs h.1; have := hbb rfl h.1; omega)
  · have : k = 1 ∨ k = 2 ∨ k = 3 ∨ k = 4 ∨ k = 5 ∨ k = 6 ∨ k = 7 ∨ k = 8 ∨ k = 9 := by omega
    rcases this with e | e | e | e | e | e | e | e | e <;> subst e <;>
      simp [Pt.fields] at hf <;> simp [ofPt, ptOf, hasK] <;> omega

/-- A model. -/
structure Md where
  h : Int
  m : Int
  ph : Int
  pm : Int
  parts : List Pt
  code : List UInt8
  post : List UInt8
def Md.right (x : Md) : Int :=
  if ¬ (inn x.h 0 8 ∧ inn x.ph 0 8 ∧ inn x.m 0 12 ∧ inn x.pm 0 12 ∧ x.code.length ≤ 4096 ∧ x.post.length ≤ 4096) then 131
  else if x.post.length = 0 ∧ (x.ph ≠ 0 ∨ x.pm ≠ 0) then 131
  else if pow2 x.h < x.parts.length then 131
  else rightP x.parts
abbrev Raw := Int × Int × Int × Int × Int × List Pt × List UInt8 × List UInt8
def rRaw : Rd Raw := rOne.pair fun _ => rOne.pair fun _ => rOne.pair fun _ => rOne.pair fun _ => rOne.pair fun n => (rMany rPart n.toNat).pair fun _ => rBytes.pair fun _ => rBytes
def pBytes (l : List UInt8) : List UInt8 := [by1 ((l.length : Int) / 256), by1 ((l.length : Int) % 256)] ++ l
def vOne (n : Int) : Prop := 0 ≤ n ∧ n ≤ 255
def pRaw (z : Raw) : List UInt8 := [by1 z.1] ++ ([by1 z.2.1] ++ ([by1 z.2.2.1] ++ ([by1 z.2.2.2.1] ++ ([by1 z.2.2.2.2.1] ++ (z.2.2.2.2.2.1.flatMap Pt.put ++ (pBytes z.2.2.2.2.2.2.1 ++ pBytes z.2.2.2.2.2.2.2))))))
def vRaw (z : Raw) : Prop := vOne z.1 ∧ vOne z.2.1 ∧ vOne z.2.2.1 ∧ vOne z.2.2.2.1 ∧ vOne z.2.2.2.2.1 ∧ (z.2.2.2.2.2.1.length = z.2.2.2.2.1.toNat ∧ ∀ p ∈ z.2.2.2.2.2.1, p.vp) ∧ z.2.2.2.2.2.2.1.length ≤ 65535 ∧ z.2.2.2.2.2.2.2.length ≤ 65535
theorem codes_raw : Codes rRaw pRaw vRaw := by
  have c7 : Codes (rBytes.pair fun _ => rBytes) (fun z => pBytes z.1 ++ pBytes z.2) (fun z => z.1.length ≤ 65535 ∧ z.2.length ≤ 65535) := codes_bytes.pair (g := fun _ => pBytes) fun _ _ => codes_bytes
  have c6 := fun n : Int => (codes_many codes_part n.toNat).pair fun _ _ => c7
  have c5 := codes_one.pair fun n _ => c6 n
  have c4 := codes_one.pair fun _ _ => c5
  have c3 := codes_one.pair fun _ _ => c4
  have c2 := codes_one.pair fun _ _ => c3
  exact codes_one.pair fun _ _ => c2
def mdOf (z : Raw) : Md := ⟨z.1, z.2.1, z.2.2.1, z.2.2.2.1, z.2.2.2.2.2.1, z.2.2.2.2.2.2.1, z.2.2.2.2.2.2.2⟩
def ofMd (x : Md) : Raw := (x.h, x.m, x.ph, x.pm, (x.parts.length : Int), x.parts, x.code, x.post)
def rMd : Rd Md := rRaw.map mdOf
def Md.put (x : Md) : List UInt8 := pRaw (ofMd x)
def Md.vp (x : Md) : Prop := vRaw (ofMd x)
theorem codes_md : Codes rMd Md.put Md.vp :=
  (codes_raw.map mdOf ofMd (fun z hz => by
    obtain ⟨h, m, ph, pm, n, l, c, p⟩ := z
    have h1 : 0 ≤ n ∧ n ≤ 255 := hz.2.2.2.2.1
    have h2 : l.length = n.toNat := hz.2.2.2.2.2.1.1
    show (h, m, ph, pm, (l.length : Int), l, c, p) = _
    rw [h2, Int.toNat_of_nonneg h1.1])).to (fun _ => rfl) (fun _ => ⟨fun h => ⟨h, rfl⟩, fun h => h.1⟩) (fun _ _ => rfl)
theorem right_vp (x : Md) (h : x.right = 0) : x.vp := by
  unfold Md.right at h
  split at h
  · exact absurd h (by decide)
  next h1 =>
    have h1 := Classical.not_not.1 h1
    unfold inn at h1
    split at h
    · exact absurd h (by decide)
    · split at h
      · exact absurd h (by decide)
      · have h := (rightP_ok _).1 h
        refine ⟨⟨by show 0 ≤ x.h; omega, by show x.h ≤ 255; omega⟩, ⟨by show 0 ≤ x.m; omega, by show x.m ≤ 255; omega⟩, ⟨by show 0 ≤ x.ph; omega, by show x.ph ≤ 255; omega⟩, ⟨by show 0 ≤ x.pm; omega, by show x.pm ≤ 255; omega⟩, ⟨by show (0 : Int) ≤ x.parts.length; omega, by show (x.parts.length : Int) ≤ 255; omega⟩, ⟨by show x.parts.length = ((x.parts.length : Int)).toNat; omega, ?_⟩, by show x.code.length ≤ 65535; omega, by show x.post.length ≤ 65535; omega⟩
        intro p hp
        obtain ⟨i, hi, e⟩ := List.getElem_of_mem hp
        have := h.2.1 i hi
        have hp2 := one_vp _ i (by have := h.1.2; have : i < x.parts.length := hi; omega) this
        have e : x.parts[i] = p := e
        rw [← e]
        exact hp2
/-- Get: the model, and how many bytes it took. -/
def getM (b : List UInt8) : Except Int (Md × Nat) :=
  match rMd b with
  | .error e => .error e
  | .ok (x, r) => if x.right = 0 then .ok (x, b.length - r.length) else .error 131
theorem getM_there (x : Md) (r : List UInt8) (h : x.right = 0) : getM (x.put ++ r) = .ok (x, x.put.length) := by
  unfold getM
  rw [codes_md.there x r (right_vp x h)]
  simp only [h, if_true, List.length_append, Nat.add_sub_cancel]
theorem getM_short (x : Md) (i : Nat) (h : x.right = 0) (hi : i < x.put.length) : getM (x.put.take i) = .error 12 := by
  unfold getM
  rw [codes_md.short x i (right_vp x h) hi]
theorem getM_back (b : List UInt8) (x : Md) (n : Nat) (h : getM b = .ok (x, n)) : x.right = 0 ∧ n ≤ b.length ∧ x.put = b.take n := by
  unfold getM at h
  split at h
  · exact absurd h (by simp)
  next y r e =>
    split at h
    next hr =>
      injection h with h
      injection h with h1 h2
      subst h1 h2
      obtain ⟨h3, _⟩ := codes_md.back b y r e
      refine ⟨hr, Nat.sub_le _ _, ?_⟩
      rw [h3, List.length_append, Nat.add_sub_cancel, List.take_append_of_le_length (Nat.le_refl _), List.take_of_length_le (Nat.le_refl _)]
    next => exact absurd h (by simp)
end Go.Proofs.Ytnanmdfbgoahjaa
