/-
  A machine (chapter 17) as plain data: what stands at a place, what is put there, what an instruction does.
-/
import Derived.Test.YtaogileaeflnfaaCpy
set_option linter.unusedVariables false
set_option linter.unusedSimpArgs false
namespace Go.Proofs.Ytaogileaeflnfaa
open Go.RowKit

/-- A machine. -/
structure Mn where
  a : UInt32
  b : UInt32
  c : UInt32
  d : UInt32
  f : Bool
  r : Nat → UInt32
  h : List UInt32
  m : List UInt8
/-- An integer's lowest 32 bits. -/
def u32 (n : Int) : UInt32 := UInt32.ofNat (n % 4294967296).toNat
theorem u32_nat (n : Int) : ((u32 n).toNat : Int) = n % 4294967296 := by
  unfold u32
  rw [UInt32.toNat_ofNat']
  omega
theorem u32_eq {x : UInt32} {n : Int} (h : n = (x.toNat : Int)) : u32 n = x := by
  apply UInt32.toNat_inj.1
  have := u32_nat n
  have := x.toNat_lt
  omega
/-- What stands at a place; n is the instruction's number. -/
def atM (x : Mn) (p n : Int) : UInt32 :=
  if p = 0 then x.a else if p = 1 then x.b else if p = 2 then x.c else if p = 3 then x.d else
  if p = 4 then (x.m.getD (x.b.toNat % x.m.length) 0).toUInt32 else if p = 5 then (x.m.getD (x.c.toNat % x.m.length) 0).toUInt32 else
  if p = 6 then x.h.getD (x.d.toNat % x.h.length) 0 else u32 n
/-- A number put at a place. -/
def putM (x : Mn) (p : Int) (v : UInt32) : Mn :=
  if p = 0 then { x with a := v } else if p = 1 then { x with b := v } else if p = 2 then { x with c := v } else if p = 3 then { x with d := v } else
  if p = 4 then { x with m := x.m.set (x.b.toNat % x.m.length) v.toUInt8 } else if p = 5 then { x with m := x.m.set (x.c.toNat % x.m.length) v.toUInt8 } else
  if p = 6 then { x with h := x.h.set (x.d.toNat % x.h.length) v } else x
/-- What an op that changes A alone makes of it and x. -/
def calcM (o : Int) (a x : UInt32) : UInt32 :=
  if o = 8 then a + x else if o = 9 then a - x else if o = 10 then a * x else if o = 11 then (if x = 0 then 0 else a / x) else if o = 12 then (if x = 0 then 0 else a % x) else
  if o = 13 then a &&& x else if o = 14 then a &&& ~~~ x else if o = 15 then a ||| x else if o = 16 then a ^^^ x else if o = 17 then a <<< x else a >>> x
def hashM (x y : UInt32) : UInt32 := (x + y + 512) * 773
def upR (r : Nat → UInt32) (j : Nat) (v : UInt32) : Nat → UInt32 := fun i => if i = j then v else r i
/-- What a right instruction makes of a right machine. -/
def doM (o d s n : Int) (x : Mn) : Mn :=
  if o = 1 then putM x d (atM x s n) else if o = 2 then putM x d (u32 n) else if o = 3 then putM x d (atM x d n + 1) else if o = 4 then putM x d (atM x d n - 1) else
  if o = 5 then putM x d (~~~ (atM x d n)) else if o = 6 then putM x d 0 else if o = 7 then putM { x with a := atM x d n } d x.a else
  if o = 19 then { x with f := decide (x.a = atM x s n) } else if o = 20 then { x with f := decide (x.a < atM x s n) } else if o = 21 then { x with f := decide (atM x s n < x.a) } else
  if o = 22 then putM x d (x.r n.toNat) else if o = 23 then { x with r := upR x.r n.toNat x.a } else
  if o = 24 then { x with a := hashM x.a (atM x 4 0) } else if o = 25 then putM x 6 (hashM (atM x 6 0) x.a) else { x with a := calcM o x.a (atM x s n) }
/-- Is n a power of two, at most 2^k? -/
def pw2 (n k : Nat) : Prop := ∃ j, j ≤ k ∧ n = 2 ^ j
def Mn.ok (x : Mn) : Prop := pw2 x.h.length 8 ∧ pw2 x.m.length 12
/-- As many numbers and bytes. -/
def SzEq (y x : Mn) : Prop := y.h.length = x.h.length ∧ y.m.length = x.m.length
theorem putM_h (x : Mn) (p : Int) (v : UInt32) : SzEq (putM x p v) x := by
  unfold putM
  repeat (split; · exact ⟨by simp, by simp⟩)
  exact ⟨rfl, rfl⟩
theorem sz_if {p : Prop} [Decidable p] {y z x : Mn} (h1 : SzEq y x) (h2 : SzEq z x) : SzEq (if p then y else z) x := by
  split
  · exact h1
  · exact h2
theorem doM_h (o d s n : Int) (x : Mn) : SzEq (doM o d s n x) x := by
  unfold doM
  refine sz_if (putM_h _ _ _) (sz_if (putM_h _ _ _) (sz_if (putM_h _ _ _) (sz_if (putM_h _ _ _) (sz_if (putM_h _ _ _) (sz_if (putM_h _ _ _) (sz_if (putM_h { x with a := atM x d n } d x.a) (sz_if ⟨rfl, rfl⟩ (sz_if ⟨rfl, rfl⟩ (sz_if ⟨rfl, rfl⟩ (sz_if (putM_h _ _ _) (sz_if ⟨rfl, rfl⟩ (sz_if ⟨rfl, rfl⟩ (sz_if (putM_h _ _ _) ⟨rfl, rfl⟩)))))))))))))
theorem doM_ok (o d s n : Int) {x : Mn} (h : x.ok) : (doM o d s n x).ok := by
  unfold Mn.ok
  rw [(doM_h o d s n x).1, (doM_h o d s n x).2]
  exact h
theorem and_low (x k : Nat) (hk : k ≤ 31) : x &&& (2 ^ k - 1) = x % 2 ^ k := Nat.and_two_pow_sub_one_eq_mod x k

/-- The cells of a machine with these lists. -/
def mcL (x : Mn) (sh sm : Value) : List Value := U.bv x.a :: U.bv x.b :: U.bv x.c :: U.bv x.d :: .bool x.f :: ((List.range 256).map (fun j => U.bv (x.r j)) ++ [sh, sm])
theorem mc_len (x : Mn) (sh sm : Value) : (mcL x sh sm).length = 263 := by simp [mcL]
theorem mc_r (x : Mn) (sh sm : Value) (j : Nat) (hj : j < 256) : (mcL x sh sm)[5 + j]? = some (U.bv (x.r j)) := by
  unfold mcL
  rw [Nat.add_comm, List.getElem?_cons_succ, List.getElem?_cons_succ, List.getElem?_cons_succ, List.getElem?_cons_succ, List.getElem?_cons_succ, List.getElem?_append_left (by simpa using hj), List.getElem?_map, List.getElem?_range hj]
  rfl
theorem mc_h (x : Mn) (sh sm : Value) : (mcL x sh sm)[261]? = some sh := by
  unfold mcL
  rw [show 261 = 256 + 5 by rfl, List.getElem?_cons_succ, List.getElem?_cons_succ, List.getElem?_cons_succ, List.getElem?_cons_succ, List.getElem?_cons_succ, List.getElem?_append_right (by simp)]
  simp
theorem mc_m (x : Mn) (sh sm : Value) : (mcL x sh sm)[262]? = some sm := by
  unfold mcL
  rw [show 262 = 257 + 5 by rfl, List.getElem?_cons_succ, List.getElem?_cons_succ, List.getElem?_cons_succ, List.getElem?_cons_succ, List.getElem?_cons_succ, List.getElem?_append_right (by simp)]
  simp
theorem mc_0 (x : Mn) (sh sm : Value) : (mcL x sh sm)[0]? = some (U.bv x.a) := rfl
theorem mc_1 (x : Mn) (sh sm : Value) : (mcL x sh sm)[1]? = some (U.bv x.b) := rfl
theorem mc_2 (x : Mn) (sh sm : Value) : (mcL x sh sm)[2]? = some (U.bv x.c) := rfl
theorem mc_3 (x : Mn) (sh sm : Value) : (mcL x sh sm)[3]? = some (U.bv x.d) := rfl
theorem mc_4 (x : Mn) (sh sm : Value) : (mcL x sh sm)[4]? = some (.bool x.f) := rfl
theorem ms_0 (x : Mn) (sh sm : Value) (v : UInt32) : (mcL x sh sm).set 0 (U.bv v) = mcL { x with a := v } sh sm := rfl
theorem ms_1 (x : Mn) (sh sm : Value) (v : UInt32) : (mcL x sh sm).set 1 (U.bv v) = mcL { x with b := v } sh sm := rfl
theorem ms_2 (x : Mn) (sh sm : Value) (v : UInt32) : (mcL x sh sm).set 2 (U.bv v) = mcL { x with c := v } sh sm := rfl
theorem ms_3 (x : Mn) (sh sm : Value) (v : UInt32) : (mcL x sh sm).set 3 (U.bv v) = mcL { x with d := v } sh sm := rfl
theorem ms_4 (x : Mn) (sh sm : Value) (v : Bool) : (mcL x sh sm).set 4 (.bool v) = mcL { x with f := v } sh sm := rfl
theorem ms_r (x : Mn) (sh sm : Value) (j : Nat) (hj : j < 256) (v : UInt32) : (mcL x sh sm).set (5 + j) (U.bv v) = mcL { x with r := upR x.r j v } sh sm := by
  unfold mcL
  rw [Nat.add_comm]
  simp only [List.set_cons_succ]
  rw [List.set_append_left _ _ (by simpa using hj)]
  congr 6
  apply List.ext_getElem?
  intro i
  rw [List.getElem?_set]
  simp only [List.length_map, List.length_range, List.getElem?_map]
  by_cases e : j = i
  · subst e
    rw [if_pos rfl, if_pos hj, List.getElem?_range hj]
    simp [upR]
  · rw [if_neg e]
    by_cases hi : i < 256
    · rw [List.getElem?_range hi]
      simp [upR, Ne.symm e]
    · rw [List.getElem?_eq_none (by simp; omega)]
      rfl
theorem ms_h (x : Mn) (sh sm u : Value) : (mcL x sh sm).set 261 u = mcL x u sm := by
  unfold mcL
  rw [show 261 = 256 + 5 by rfl]
  simp only [List.set_cons_succ]
  rw [List.set_append_right _ _ (by simp)]
  simp
theorem ms_m (x : Mn) (sh sm u : Value) : (mcL x sh sm).set 262 u = mcL x sh u := by
  unfold mcL
  rw [show 262 = 257 + 5 by rfl]
  simp only [List.set_cons_succ]
  rw [List.set_append_right _ _ (by simp)]
  simp
theorem mc_one (x : Mn) (A B : Option Addr) (n k c e : Nat) : (mcL x (.slice A n c) (.slice B k e)).toArray.all (·.oneCell') = true := by
  rw [List.all_toArray, List.all_eq_true]
  intro v hv
  unfold mcL at hv
  simp only [List.mem_cons, List.mem_append, List.mem_map, List.not_mem_nil, or_false] at hv
  rcases hv with rfl | rfl | rfl | rfl | rfl | ⟨j, _, rfl⟩ | rfl | rfl <;> rfl
theorem size30 (cs : Array Value) (h : cs.size = 263) : (Try.prog.info? 30).map (·.size) = some cs.size := by rw [h]; kernel_rfl
theorem mc_size (x : Mn) (sh sm : Value) : (mcL x sh sm).toArray.size = 263 := by rw [List.size_toArray, mc_len]
end Go.Proofs.Ytaogileaeflnfaa
