/-
  Instructions and their bytes (chapter 15) as plain functions of whole numbers: what was put is got back; what is got is put to the same bytes.
-/
namespace Go.Proofs.Ytdachagkhjhggaa

/-- An Op's row: 1 nothing, 2 OSet, 3 OSetN, 4 D alone, 5 OAdd to OGt, 6 OLoad, 7 OStore, 8 jumps, 9 OLj; 0: none. -/
def cls (o : Int) : Nat :=
  if o = 0 ∨ o = 24 ∨ o = 25 ∨ o = 26 then 1 else if o = 1 then 2 else if o = 2 then 3 else if 3 ≤ o ∧ o ≤ 7 then 4 else if 8 ≤ o ∧ o ≤ 21 then 5 else if o = 22 then 6 else if o = 23 then 7 else if o = 27 ∨ o = 28 ∨ o = 29 then 8 else if o = 30 then 9 else 0
def inn (n a b : Int) : Prop := a ≤ n ∧ n ≤ b
instance (n a b : Int) : Decidable (inn n a b) := by unfold inn; infer_instance
def rD (o : Int) : Int := match cls o with | 2 => 6 | 3 => 6 | 4 => 6 | 6 => 3 | _ => 0
def rS (o s : Int) : Int := match cls o with | 2 => 6 | 5 => if s = 7 then 7 else 6 | _ => 0
def rN (o s : Int) : Int := match cls o with | 3 => 255 | 5 => if s = 7 then 255 else 0 | 6 => 255 | 7 => 255 | 8 => 65535 | 9 => 65535 | _ => 0
def rB (o s : Int) : Int := match cls o with | 2 => 1 | 3 => 1 | 5 => if s = 7 then 1 else 0 | 6 => 1 | 7 => 1 | 8 => 1 | 9 => 2 | _ => 0
def rK (o : Int) : Bool := decide (cls o ≠ 0)
def okI (o d s n : Int) : Prop := rK o = true ∧ inn d 0 (rD o) ∧ inn s 0 (rS o s) ∧ inn n 0 (rN o s)
instance (o d s n : Int) : Decidable (okI o d s n) := by unfold okI; infer_instance
def rightE (o d s n : Int) : Int := if okI o d s n then 0 else 110
def lenI (o d s n : Int) : Int := if okI o d s n then 1 + rB o s else 0
def near (o : Int) : Prop := o = 27 ∨ o = 28 ∨ o = 29
instance (o : Int) : Decidable (near o) := by unfold near; infer_instance
def reck (o : Int) : Prop := 8 ≤ o ∧ o ≤ 21
instance (o : Int) : Decidable (reck o) := by unfold reck; infer_instance
def oc8 (z : Int) : UInt8 := UInt8.ofNat (z % 256).toNat
theorem oc8_nat (z : Int) : ((oc8 z).toNat : Int) = z % 256 := by
  unfold oc8
  have h1 := Int.emod_nonneg z (show (256 : Int) ≠ 0 by decide)
  have h2 := Int.emod_lt_of_pos z (show (0 : Int) < 256 by decide)
  have : (z % 256).toNat < 256 := by omega
  rw [UInt8.toNat_ofNat', Nat.mod_eq_of_lt (by omega)]
  omega
/-- What stands behind the first byte. -/
def bhP (o s n k : Int) : Int := if o = 1 then s else if near o then n - (k + 2) else n
def firstV (o d s : Int) : Int := o * 8 + (if reck o then s else d)
def putE (o d s n k : Int) : Int := if okI o d s n then if inn k 0 65535 then if near o ∧ ¬ inn (n - (k + 2)) (-128) 127 then 125 else 0 else 2 else 110
def tailL (m : Int) (b : Int) : List UInt8 := if m = 0 then [] else if m = 1 then [oc8 b] else [oc8 (b / 256), oc8 b]
def putL (o d s n k : Int) : List UInt8 := if putE o d s n k = 0 then oc8 (firstV o d s) :: tailL (rB o s) (bhP o s n k) else []
def gX (l : List UInt8) (k : Nat) : Int := ((l.getD k 0).toNat : Int)
def oG (x : Int) : Int := x / 8
def dG (x : Int) : Int := if reck (x / 8) then 0 else x % 8
def sG (x : Int) : Int := if reck (x / 8) then x % 8 else 0
def gEnd (x k : Int) : Int := k + (1 + rB (oG x) (sG x))
def gB (l : List UInt8) (k : Nat) (m : Int) : Int := if m = 0 then 0 else if m = 1 then gX l (k + 1) else gX l (k + 1) * 256 + gX l (k + 2)
def i8 (z : Int) : Int := if z < 128 then z else z - 256
def gS (x b : Int) : Int := if oG x = 1 then b else sG x
def gN (x b e : Int) : Int := if oG x = 1 then 0 else if near (oG x) then e + i8 b else b
/-- An instruction, the place behind it, the error. -/
structure Got where
  o : Int
  d : Int
  s : Int
  n : Int
  e : Int
  err : Int
def noG (err : Int) : Got := ⟨0, 0, 0, 0, 0, err⟩
def getR (l : List UInt8) (k : Int) : Got :=
  if 0 ≤ k ∧ k < l.length ∧ k ≤ 65535 then
    let x := gX l k.toNat
    if okI (oG x) (dG x) (sG x) 0 then
      let e := gEnd x k
      if e ≤ l.length then
        let b := gB l k.toNat (rB (oG x) (sG x))
        if okI (oG x) (dG x) (gS x b) (gN x b e) then ⟨oG x, dG x, gS x b, gN x b e, e, 0⟩ else noG 110
      else noG 12
    else noG 110
  else noG 2
theorem cls_cases (o : Int) : (cls o = 1 ∧ (o = 0 ∨ o = 24 ∨ o = 25 ∨ o = 26)) ∨ (cls o = 2 ∧ o = 1) ∨ (cls o = 3 ∧ o = 2) ∨ (cls o = 4 ∧ 3 ≤ o ∧ o ≤ 7) ∨ (cls o = 5 ∧ 8 ≤ o ∧ o ≤ 21) ∨ (cls o = 6 ∧ o = 22) ∨ (cls o = 7 ∧ o = 23) ∨ (cls o = 8 ∧ (o = 27 ∨ o = 28 ∨ o = 29)) ∨ (cls o = 9 ∧ o = 30) ∨ (cls o = 0 ∧ (o < 0 ∨ 30 < o)) := by
  unfold cls
  by_cases h0 : o = 0 ∨ o = 24 ∨ o = 25 ∨ o = 26
  · rw [if_pos h0]
    exact .inl ⟨rfl, h0⟩
  rw [if_neg h0]
  by_cases h1 : o = 1
  · rw [if_pos h1]
    exact .inr (.inl ⟨rfl, h1⟩)
  rw [if_neg h1]
  by_cases h2 : o = 2
  · rw [if_pos h2]
    exact .inr (.inr (.inl ⟨rfl, h2⟩))
  rw [if_neg h2]
  by_cases h3 : 3 ≤ o ∧ o ≤ 7
  · rw [if_pos h3]
    exact .inr (.inr (.inr (.inl ⟨rfl, h3⟩)))
  rw [if_neg h3]
  by_cases h4 : 8 ≤ o ∧ o ≤ 21
  · rw [if_pos h4]
    exact .inr (.inr (.inr (.inr (.inl ⟨rfl, h4⟩))))
  rw [if_neg h4]
  by_cases h5 : o = 22
  · rw [if_pos h5]
    exact .inr (.inr (.inr (.inr (.inr (.inl ⟨rfl, h5⟩)))))
  rw [if_neg h5]
  by_cases h6 : o = 23
  · rw [if_pos h6]
    exact .inr (.inr (.inr (.inr (.inr (.inr (.inl ⟨rfl, h6⟩))))))
  rw [if_neg h6]
  by_cases h7 : o = 27 ∨ o = 28 ∨ o = 29
  · rw [if_pos h7]
    exact .inr (.inr (.inr (.inr (.inr (.inr (.inr (.inl ⟨rfl, h7⟩)))))))
  rw [if_neg h7]
  by_cases h8 : o = 30
  · rw [if_pos h8]
    exact .inr (.inr (.inr (.inr (.inr (.inr (.inr (.inr (.inl ⟨rfl, h8⟩))))))))
  rw [if_neg h8]
  exact .inr (.inr (.inr (.inr (.inr (.inr (.inr (.inr (.inr (⟨rfl, by omega⟩)))))))))
theorem row_cases (o s : Int) :
    (rK o = true ∧ rD o = 0 ∧ rS o s = 0 ∧ rN o s = 0 ∧ rB o s = 0 ∧ (o = 0 ∨ o = 24 ∨ o = 25 ∨ o = 26)) ∨
    (rK o = true ∧ rD o = 6 ∧ rS o s = 6 ∧ rN o s = 0 ∧ rB o s = 1 ∧ (o = 1)) ∨
    (rK o = true ∧ rD o = 6 ∧ rS o s = 0 ∧ rN o s = 255 ∧ rB o s = 1 ∧ (o = 2)) ∨
    (rK o = true ∧ rD o = 6 ∧ rS o s = 0 ∧ rN o s = 0 ∧ rB o s = 0 ∧ (3 ≤ o ∧ o ≤ 7)) ∨
    (rK o = true ∧ rD o = 0 ∧ rS o s = 7 ∧ rN o s = 255 ∧ rB o s = 1 ∧ ((8 ≤ o ∧ o ≤ 21) ∧ s = 7)) ∨
    (rK o = true ∧ rD o = 0 ∧ rS o s = 6 ∧ rN o s = 0 ∧ rB o s = 0 ∧ ((8 ≤ o ∧ o ≤ 21) ∧ s ≠ 7)) ∨
    (rK o = true ∧ rD o = 3 ∧ rS o s = 0 ∧ rN o s = 255 ∧ rB o s = 1 ∧ (o = 22)) ∨
    (rK o = true ∧ rD o = 0 ∧ rS o s = 0 ∧ rN o s = 255 ∧ rB o s = 1 ∧ (o = 23)) ∨
    (rK o = true ∧ rD o = 0 ∧ rS o s = 0 ∧ rN o s = 65535 ∧ rB o s = 1 ∧ (o = 27 ∨ o = 28 ∨ o = 29)) ∨
    (rK o = true ∧ rD o = 0 ∧ rS o s = 0 ∧ rN o s = 65535 ∧ rB o s = 2 ∧ (o = 30)) ∨
    (rK o = false ∧ rD o = 0 ∧ rS o s = 0 ∧ rN o s = 0 ∧ rB o s = 0 ∧ (o < 0 ∨ 30 < o)) := by
  have hc := cls_cases o
  unfold rK rD rS rN rB
  rcases hc with ⟨e, hc⟩ | ⟨e, hc⟩ | ⟨e, hc⟩ | ⟨e, hc⟩ | ⟨e, hc⟩ | ⟨e, hc⟩ | ⟨e, hc⟩ | ⟨e, hc⟩ | ⟨e, hc⟩ | ⟨e, hc⟩ <;> rw [e]
  · exact .inl ⟨rfl, rfl, rfl, rfl, rfl, hc⟩
  · exact .inr (.inl ⟨rfl, rfl, rfl, rfl, rfl, hc⟩)
  · exact .inr (.inr (.inl ⟨rfl, rfl, rfl, rfl, rfl, hc⟩))
  · exact .inr (.inr (.inr (.inl ⟨rfl, rfl, rfl, rfl, rfl, hc⟩)))
  · by_cases h7 : s = 7
    · subst h7
      exact .inr (.inr (.inr (.inr (.inl ⟨rfl, rfl, rfl, rfl, rfl, hc, rfl⟩))))
    · exact .inr (.inr (.inr (.inr (.inr (.inl ⟨rfl, rfl, if_neg h7, if_neg h7, if_neg h7, hc, h7⟩)))))
  · exact .inr (.inr (.inr (.inr (.inr (.inr (.inl ⟨rfl, rfl, rfl, rfl, rfl, hc⟩))))))
  · exact .inr (.inr (.inr (.inr (.inr (.inr (.inr (.inl ⟨rfl, rfl, rfl, rfl, rfl, hc⟩)))))))
  · exact .inr (.inr (.inr (.inr (.inr (.inr (.inr (.inr (.inl ⟨rfl, rfl, rfl, rfl, rfl, hc⟩))))))))
  · exact .inr (.inr (.inr (.inr (.inr (.inr (.inr (.inr (.inr (.inl ⟨rfl, rfl, rfl, rfl, rfl, hc⟩)))))))))
  · exact .inr (.inr (.inr (.inr (.inr (.inr (.inr (.inr (.inr (.inr (⟨rfl, rfl, rfl, rfl, rfl, hc⟩))))))))))
theorem rB_in (o s : Int) : 0 ≤ rB o s ∧ rB o s ≤ 2 := by
  rcases row_cases o s with ⟨r0, r1, r2, r3, r4, hc⟩ | ⟨r0, r1, r2, r3, r4, hc⟩ | ⟨r0, r1, r2, r3, r4, hc⟩ | ⟨r0, r1, r2, r3, r4, hc⟩ | ⟨r0, r1, r2, r3, r4, hc⟩ | ⟨r0, r1, r2, r3, r4, hc⟩ | ⟨r0, r1, r2, r3, r4, hc⟩ | ⟨r0, r1, r2, r3, r4, hc⟩ | ⟨r0, r1, r2, r3, r4, hc⟩ | ⟨r0, r1, r2, r3, r4, hc⟩ | ⟨r0, r1, r2, r3, r4, hc⟩ <;> omega
theorem gX_in (l : List UInt8) (k : Nat) : 0 ≤ gX l k ∧ gX l k < 256 := by
  unfold gX
  have := (l.getD k 0).toNat_lt
  omega
theorem okI_op {o d s n : Int} (h : okI o d s n) : 0 ≤ o ∧ o ≤ 30 := by
  have h1 := h.1
  rcases row_cases o s with ⟨r0, r1, r2, r3, r4, hc⟩ | ⟨r0, r1, r2, r3, r4, hc⟩ | ⟨r0, r1, r2, r3, r4, hc⟩ | ⟨r0, r1, r2, r3, r4, hc⟩ | ⟨r0, r1, r2, r3, r4, hc⟩ | ⟨r0, r1, r2, r3, r4, hc⟩ | ⟨r0, r1, r2, r3, r4, hc⟩ | ⟨r0, r1, r2, r3, r4, hc⟩ | ⟨r0, r1, r2, r3, r4, hc⟩ | ⟨r0, r1, r2, r3, r4, hc⟩ | ⟨r0, r1, r2, r3, r4, hc⟩ <;> first | omega | (rw [r0] at h1; exact absurd h1 (by decide))
theorem tail_len (m b : Int) (h : 0 ≤ m ∧ m ≤ 2) : ((tailL m b).length : Int) = m := by
  unfold tailL
  split
  · simp; omega
  · split
    · simp; omega
    · simp; omega
theorem put_len (o d s n k : Int) (h : putE o d s n k = 0) : ((putL o d s n k).length : Int) = lenI o d s n := by
  have ho : okI o d s n := by
    unfold putE at h
    split at h
    · assumption
    · omega
  unfold putL lenI
  rw [if_pos h, if_pos ho]
  have := tail_len (rB o s) (bhP o s n k) (rB_in o s)
  simp only [List.length_cons]
  omega
theorem gX_of {l : List UInt8} {k : Nat} {x : UInt8} (h : l[k]? = some x) : gX l k = (x.toNat : Int) := by
  unfold gX
  rw [List.getD_eq_getElem?_getD, h]
  rfl
theorem gX_rep (k : Nat) (l : List UInt8) (j : Nat) : gX (List.replicate k 0 ++ l) (k + j) = gX l j := by
  unfold gX
  rw [List.getD_eq_getElem?_getD, List.getD_eq_getElem?_getD, List.getElem?_append_right (by simp)]
  simp
theorem gX_rep0 (k : Nat) (l : List UInt8) : gX (List.replicate k 0 ++ l) k = gX l 0 := gX_rep k l 0
theorem gX_0 (x : UInt8) (l : List UInt8) : gX (x :: l) 0 = (x.toNat : Int) := rfl
theorem gX_1 (x y : UInt8) (l : List UInt8) : gX (x :: y :: l) 1 = (y.toNat : Int) := rfl
theorem gX_2 (x y z : UInt8) (l : List UInt8) : gX (x :: y :: z :: l) 2 = (z.toNat : Int) := rfl
/-- What was put is got back. -/
theorem get_put (o d s n : Int) (k : Nat) (hk : k ≤ 1000) (h : putE o d s n k = 0) :
    getR (List.replicate k 0 ++ putL o d s n k) k = ⟨o, d, s, n, k + lenI o d s n, 0⟩ := by
  have hl := put_len o d s n k h
  have ho : okI o d s n := by
    unfold putE at h
    split at h
    · assumption
    · omega
  have hn : near o → inn (n - (k + 2)) (-128) 127 := by
    intro hn
    unfold putE at h
    rw [if_pos ho] at h
    split at h
    · split at h
      · omega
      · rename_i h3
        exact Decidable.byContradiction fun h4 => h3 ⟨hn, h4⟩
    · omega
  have hop := okI_op ho
  obtain ⟨o1, o2, o3, o4⟩ := ho
  have hlen : lenI o d s n = 1 + rB o s := by unfold lenI; rw [if_pos ⟨o1, o2, o3, o4⟩]
  have hP : putL o d s n k = oc8 (firstV o d s) :: tailL (rB o s) (bhP o s n k) := by unfold putL; rw [if_pos h]
  have hfl : 0 ≤ (if reck o then s else d) ∧ (if reck o then s else d) ≤ 7 := by
    unfold inn at o2 o3
    have hrk : reck o ↔ (8 ≤ o ∧ o ≤ 21) := Iff.rfl
    by_cases hr : reck o
    · rw [if_pos hr]
      have hr2 := hrk.1 hr
      clear hrk
      rcases row_cases o s with ⟨r0, r1, r2, r3, r4, hc⟩ | ⟨r0, r1, r2, r3, r4, hc⟩ | ⟨r0, r1, r2, r3, r4, hc⟩ | ⟨r0, r1, r2, r3, r4, hc⟩ | ⟨r0, r1, r2, r3, r4, hc⟩ | ⟨r0, r1, r2, r3, r4, hc⟩ | ⟨r0, r1, r2, r3, r4, hc⟩ | ⟨r0, r1, r2, r3, r4, hc⟩ | ⟨r0, r1, r2, r3, r4, hc⟩ | ⟨r0, r1, r2, r3, r4, hc⟩ | ⟨r0, r1, r2, r3, r4, hc⟩ <;> omega
    · rw [if_neg hr]
      have hr2 : ¬ (8 ≤ o ∧ o ≤ 21) := fun h => hr (hrk.2 h)
      clear hrk
      rcases row_cases o s with ⟨r0, r1, r2, r3, r4, hc⟩ | ⟨r0, r1, r2, r3, r4, hc⟩ | ⟨r0, r1, r2, r3, r4, hc⟩ | ⟨r0, r1, r2, r3, r4, hc⟩ | ⟨r0, r1, r2, r3, r4, hc⟩ | ⟨r0, r1, r2, r3, r4, hc⟩ | ⟨r0, r1, r2, r3, r4, hc⟩ | ⟨r0, r1, r2, r3, r4, hc⟩ | ⟨r0, r1, r2, r3, r4, hc⟩ | ⟨r0, r1, r2, r3, r4, hc⟩ | ⟨r0, r1, r2, r3, r4, hc⟩ <;> first | omega | (rw [r0] at o1; exact absurd o1 (by decide))
  have hx : gX (putL o d s n k) 0 = firstV o d s := by
    rw [hP, gX_0, oc8_nat]
    unfold firstV
    omega
  have hoG : oG (firstV o d s) = o := by unfold oG firstV; omega
  have hre : firstV o d s / 8 = o := hoG
  have hsd : dG (firstV o d s) = (if reck o then 0 else d) ∧ sG (firstV o d s) = (if reck o then s else 0) := by
    unfold dG sG
    rw [hre]
    have hm : firstV o d s % 8 = (if reck o then s else d) := by unfold firstV; omega
    rw [hm]
    constructor <;> split <;> rfl
  have hlast : dG (firstV o d s) = d ∧ (o ≠ 1 → sG (firstV o d s) = s) ∧ rB o (sG (firstV o d s)) = rB o s ∧ okI o d (sG (firstV o d s)) 0 ∧ (o = 1 → n = 0) := by
    rw [hsd.1, hsd.2]
    unfold okI
    unfold inn at *
    by_cases hr : reck o
    · rw [if_pos hr, if_pos hr]
      unfold reck at hr
      refine ⟨?_, fun _ => rfl, rfl, ⟨o1, ?_, o3, ?_⟩, ?_⟩
      all_goals rcases row_cases o s with ⟨r0, r1, r2, r3, r4, hc⟩ | ⟨r0, r1, r2, r3, r4, hc⟩ | ⟨r0, r1, r2, r3, r4, hc⟩ | ⟨r0, r1, r2, r3, r4, hc⟩ | ⟨r0, r1, r2, r3, r4, hc⟩ | ⟨r0, r1, r2, r3, r4, hc⟩ | ⟨r0, r1, r2, r3, r4, hc⟩ | ⟨r0, r1, r2, r3, r4, hc⟩ | ⟨r0, r1, r2, r3, r4, hc⟩ | ⟨r0, r1, r2, r3, r4, hc⟩ | ⟨r0, r1, r2, r3, r4, hc⟩ <;> first | omega | (rw [r0] at o1; exact absurd o1 (by decide))
    · rw [if_neg hr, if_neg hr]
      unfold reck at hr
      have e0 : o ≠ 1 → s = 0 := by
        intro h1
        rcases row_cases o s with ⟨r0, r1, r2, r3, r4, hc⟩ | ⟨r0, r1, r2, r3, r4, hc⟩ | ⟨r0, r1, r2, r3, r4, hc⟩ | ⟨r0, r1, r2, r3, r4, hc⟩ | ⟨r0, r1, r2, r3, r4, hc⟩ | ⟨r0, r1, r2, r3, r4, hc⟩ | ⟨r0, r1, r2, r3, r4, hc⟩ | ⟨r0, r1, r2, r3, r4, hc⟩ | ⟨r0, r1, r2, r3, r4, hc⟩ | ⟨r0, r1, r2, r3, r4, hc⟩ | ⟨r0, r1, r2, r3, r4, hc⟩ <;> first | omega | (rw [r0] at o1; exact absurd o1 (by decide))
      have e1 : rB o 0 = rB o s ∧ rS o 0 = rS o s ∧ rN o 0 = rN o s := by
        by_cases h1 : o = 1
        · rw [h1]; exact ⟨rfl, rfl, rfl⟩
        · rw [e0 h1]; exact ⟨rfl, rfl, rfl⟩
      rw [e1.1, e1.2.1, e1.2.2]
      refine ⟨rfl, fun h1 => (e0 h1).symm, rfl, ⟨o1, o2, ?_, ?_⟩, ?_⟩
      all_goals rcases row_cases o s with ⟨r0, r1, r2, r3, r4, hc⟩ | ⟨r0, r1, r2, r3, r4, hc⟩ | ⟨r0, r1, r2, r3, r4, hc⟩ | ⟨r0, r1, r2, r3, r4, hc⟩ | ⟨r0, r1, r2, r3, r4, hc⟩ | ⟨r0, r1, r2, r3, r4, hc⟩ | ⟨r0, r1, r2, r3, r4, hc⟩ | ⟨r0, r1, r2, r3, r4, hc⟩ | ⟨r0, r1, r2, r3, r4, hc⟩ | ⟨r0, r1, r2, r3, r4, hc⟩ | ⟨r0, r1, r2, r3, r4, hc⟩ <;> first | omega | (rw [r0] at o1; exact absurd o1 (by decide))
  obtain ⟨q1, q2, q3, q4, q5⟩ := hlast
  have hln : ((List.replicate k (0 : UInt8) ++ putL o d s n k).length : Int) = k + (1 + rB o s) := by
    rw [List.length_append, List.length_replicate]
    omega
  have hb := rB_in o s
  have hge : gEnd (firstV o d s) k = k + (1 + rB o s) := by unfold gEnd; rw [hoG, q3]
  have hB : gB (List.replicate k 0 ++ putL o d s n k) k (rB o s) = (if rB o s = 0 then 0 else if rB o s = 1 then bhP o s n k % 256 else bhP o s n k / 256 % 256 * 256 + bhP o s n k % 256) := by
    unfold gB
    rw [gX_rep, gX_rep, hP]
    unfold tailL
    split
    · rfl
    · rename_i h1
      split
      · rw [gX_1, oc8_nat]
      · rw [gX_1, gX_2, oc8_nat, oc8_nat]
  unfold getR
  rw [if_pos ⟨by omega, by rw [hln]; omega, by omega⟩]
  simp only [Int.toNat_natCast]
  rw [gX_rep0, hx, hoG, q1, if_pos q4, hge, hln, if_pos (by omega), q3, hB]
  have hfin : gS (firstV o d s) (if rB o s = 0 then 0 else if rB o s = 1 then bhP o s n k % 256 else bhP o s n k / 256 % 256 * 256 + bhP o s n k % 256) = s ∧ gN (firstV o d s) (if rB o s = 0 then 0 else if rB o s = 1 then bhP o s n k % 256 else bhP o s n k / 256 % 256 * 256 + bhP o s n k % 256) (k + (1 + rB o s)) = n := by
    unfold gS gN
    rw [hoG]
    unfold bhP i8
    unfold inn at *
    have hnr : near o ↔ (o = 27 ∨ o = 28 ∨ o = 29) := Iff.rfl
    by_cases h1 : o = 1
    · rw [if_pos h1, if_pos h1, if_pos h1]
      rcases row_cases o s with ⟨r0, r1, r2, r3, r4, hc⟩ | ⟨r0, r1, r2, r3, r4, hc⟩ | ⟨r0, r1, r2, r3, r4, hc⟩ | ⟨r0, r1, r2, r3, r4, hc⟩ | ⟨r0, r1, r2, r3, r4, hc⟩ | ⟨r0, r1, r2, r3, r4, hc⟩ | ⟨r0, r1, r2, r3, r4, hc⟩ | ⟨r0, r1, r2, r3, r4, hc⟩ | ⟨r0, r1, r2, r3, r4, hc⟩ | ⟨r0, r1, r2, r3, r4, hc⟩ | ⟨r0, r1, r2, r3, r4, hc⟩ <;> (try omega)
    · rw [if_neg h1, if_neg h1, if_neg h1]
      refine ⟨q2 h1, ?_⟩
      by_cases h2 : near o
      · rw [if_pos h2, if_pos h2]
        have h3 := hnr.1 h2
        have hn' := hn h2
        clear hnr
        have h4 : rB o s = 1 := by rcases row_cases o s with ⟨r0, r1, r2, r3, r4, hc⟩ | ⟨r0, r1, r2, r3, r4, hc⟩ | ⟨r0, r1, r2, r3, r4, hc⟩ | ⟨r0, r1, r2, r3, r4, hc⟩ | ⟨r0, r1, r2, r3, r4, hc⟩ | ⟨r0, r1, r2, r3, r4, hc⟩ | ⟨r0, r1, r2, r3, r4, hc⟩ | ⟨r0, r1, r2, r3, r4, hc⟩ | ⟨r0, r1, r2, r3, r4, hc⟩ | ⟨r0, r1, r2, r3, r4, hc⟩ | ⟨r0, r1, r2, r3, r4, hc⟩ <;> omega
        rw [h4]
        simp only [if_false, if_true, show ¬ ((1 : Int) = 0) by decide]
        split <;> omega
      · rw [if_neg h2, if_neg h2]
        have h3 : ¬ (o = 27 ∨ o = 28 ∨ o = 29) := fun h => h2 (hnr.2 h)
        clear hnr hn
        rcases row_cases o s with ⟨r0, r1, r2, r3, r4, hc⟩ | ⟨r0, r1, r2, r3, r4, hc⟩ | ⟨r0, r1, r2, r3, r4, hc⟩ | ⟨r0, r1, r2, r3, r4, hc⟩ | ⟨r0, r1, r2, r3, r4, hc⟩ | ⟨r0, r1, r2, r3, r4, hc⟩ | ⟨r0, r1, r2, r3, r4, hc⟩ | ⟨r0, r1, r2, r3, r4, hc⟩ | ⟨r0, r1, r2, r3, r4, hc⟩ | ⟨r0, r1, r2, r3, r4, hc⟩ | ⟨r0, r1, r2, r3, r4, hc⟩ <;> (try (rw [r0] at o1; exact absurd o1 (by decide))) <;> rw [r4]
        all_goals (simp only [if_false, if_true, show ¬ ((1 : Int) = 0) by decide, show ¬ ((2 : Int) = 0) by decide, show ¬ ((2 : Int) = 1) by decide]; omega)
  rw [hfin.1, hfin.2, if_pos ⟨o1, o2, o3, o4⟩, hlen]
/-- What is got is put to the same bytes. -/
theorem put_get (l : List UInt8) (k : Nat) (h : (getR l k).err = 0) :
    putE (getR l k).o (getR l k).d (getR l k).s (getR l k).n k = 0 ∧ okI (getR l k).o (getR l k).d (getR l k).s (getR l k).n ∧ k < l.length ∧ ∃ m : Nat, (getR l k).e = ((k + m : Nat) : Int) ∧ k + m ≤ l.length ∧ putL (getR l k).o (getR l k).d (getR l k).s (getR l k).n k = (l.drop k).take m := by
  unfold getR at h ⊢
  split at h
  case isFalse => exact absurd h (by unfold noG; simp)
  rename_i h1
  rw [if_pos h1]
  simp only [Int.toNat_natCast] at h ⊢
  generalize hx : gX l k = x at *
  split at h
  case isFalse => exact absurd h (by unfold noG; simp)
  rename_i h2
  rw [if_pos h2]
  split at h
  case isFalse => exact absurd h (by unfold noG; simp)
  rename_i h3
  rw [if_pos h3]
  split at h
  case isFalse => exact absurd h (by unfold noG; simp)
  rename_i h4
  rw [if_pos h4]
  simp only
  clear h
  obtain ⟨b, hb⟩ : ∃ b, b = gB l k (rB (oG x) (sG x)) := ⟨_, rfl⟩
  rw [← hb] at h4 ⊢
  have hxi := gX_in l k
  rw [hx] at hxi
  have hkl : k < l.length := by omega
  have y1 := gX_in l (k + 1)
  have y2 := gX_in l (k + 2)
  have hop := okI_op h2
  -- the same first byte, the same bytes behind
  have hrb : rB (oG x) (gS x b) = rB (oG x) (sG x) := by
    unfold gS
    split
    · rename_i h5
      rw [h5]
      rfl
    · rfl
  have hfirst : firstV (oG x) (dG x) (gS x b) = x := by
    unfold firstV gS dG sG oG
    by_cases hr : reck (x / 8)
    · rw [if_pos hr, if_neg (show ¬ x / 8 = 1 by unfold reck at hr; omega), if_pos hr]; omega
    · rw [if_neg hr, if_neg hr]; omega
  have hm := rB_in (oG x) (sG x)
  have hnear : near (oG x) → rB (oG x) (sG x) = 1 := by
    intro hn
    unfold near at hn
    rcases row_cases (oG x) (sG x) with ⟨r0, r1, r2, r3, r4, hc⟩ | ⟨r0, r1, r2, r3, r4, hc⟩ | ⟨r0, r1, r2, r3, r4, hc⟩ | ⟨r0, r1, r2, r3, r4, hc⟩ | ⟨r0, r1, r2, r3, r4, hc⟩ | ⟨r0, r1, r2, r3, r4, hc⟩ | ⟨r0, r1, r2, r3, r4, hc⟩ | ⟨r0, r1, r2, r3, r4, hc⟩ | ⟨r0, r1, r2, r3, r4, hc⟩ | ⟨r0, r1, r2, r3, r4, hc⟩ | ⟨r0, r1, r2, r3, r4, hc⟩ <;> omega
  have hbi : gS x b = gS x b := rfl
  have hbh : tailL (rB (oG x) (sG x)) (bhP (oG x) (gS x b) (gN x b (gEnd x k)) k) = tailL (rB (oG x) (sG x)) b ∧ (near (oG x) → inn (gN x b (gEnd x k) - (k + 2)) (-128) 127) := by
    unfold bhP gS gN
    by_cases e1 : oG x = 1
    · simp only [e1, if_true]
      exact ⟨trivial, fun h => absurd h (by unfold near; omega)⟩
    · simp only [e1, if_false]
      by_cases e2 : near (oG x)
      · simp only [e2, if_true]
        have e3 := hnear e2
        have e4 : b = gX l (k + 1) := by rw [hb, e3]; unfold gB; simp
        rw [e3]
        unfold gEnd
        rw [e3]
        unfold tailL i8 inn
        simp only [if_false, if_true, show ¬ ((1 : Int) = 0) by decide]
        refine ⟨?_, fun _ => ?_⟩
        · congr 1
          apply UInt8.toNat_inj.1
          have a1 := oc8_nat (k + (1 + 1) + (if b < 128 then b else b - 256) - (k + 2))
          have a2 := oc8_nat b
          have a3 : ((oc8 (k + (1 + 1) + (if b < 128 then b else b - 256) - (k + 2))).toNat : Int) = ((oc8 b).toNat : Int) := by
            rw [a1, a2]
            split <;> omega
          exact Int.ofNat_inj.1 a3
        · split <;> omega
      · simp only [e2, if_false]
        exact ⟨trivial, fun h => absurd h (by simp)⟩
  have hpe : putE (oG x) (dG x) (gS x b) (gN x b (gEnd x k)) k = 0 := by
    unfold putE
    rw [if_pos h4, if_pos ⟨by omega, h1.2.2⟩, if_neg (fun hh => hh.2 (hbh.2 hh.1))]
  refine ⟨hpe, h4, hkl, (1 + rB (oG x) (sG x)).toNat, by unfold gEnd; omega, by unfold gEnd at h3; omega, ?_⟩
  unfold putL
  rw [if_pos hpe, hfirst, hrb, hbh.1]
  have hx8 : oc8 x = l[k] := by
    apply UInt8.toNat_inj.1
    have a1 := oc8_nat x
    have a2 := gX_of (List.getElem?_eq_getElem hkl)
    omega
  have hcons : l.drop k = l[k] :: l.drop (k + 1) := List.drop_eq_getElem_cons hkl
  rw [hcons, hx8]
  unfold gEnd at h3
  have key : ∀ j (hj : j < l.length), oc8 (gX l j) = l[j] := by
    intro j hj
    apply UInt8.toNat_inj.1
    have a1 := oc8_nat (gX l j)
    have a2 := gX_of (List.getElem?_eq_getElem hj)
    have a3 := gX_in l j
    omega
  rcases (by omega : rB (oG x) (sG x) = 0 ∨ rB (oG x) (sG x) = 1 ∨ rB (oG x) (sG x) = 2) with e | e | e
  · rw [e]
    rfl
  · rw [e] at hb ⊢
    have hj : k + 1 < l.length := by omega
    rw [List.drop_eq_getElem_cons hj]
    unfold gB at hb
    simp at hb
    rw [hb, show tailL 1 (gX l (k + 1)) = [oc8 (gX l (k + 1))] from rfl, key _ hj]
    rfl
  · rw [e] at hb ⊢
    have hj : k + 1 < l.length := by omega
    have hj2 : k + 1 + 1 < l.length := by omega
    rw [List.drop_eq_getElem_cons hj, List.drop_eq_getElem_cons hj2]
    unfold gB at hb
    simp at hb
    have b1 : oc8 (b / 256) = l[k + 1] := by rw [← key _ hj]; congr 1; omega
    have b2 : oc8 b = l[k + 2] := by
      rw [← key _ hj2]
      apply UInt8.toNat_inj.1
      have a1 := oc8_nat b
      have a2 := oc8_nat (gX l (k + 1 + 1))
      have : b % 256 = gX l (k + 1 + 1) % 256 := by
        rw [show k + 1 + 1 = k + 2 from rfl]
        omega
      omega
    rw [show tailL 2 b = [oc8 (b / 256), oc8 b] from rfl, b1, b2]
    rfl
end Go.Proofs.Ytdachagkhjhggaa
