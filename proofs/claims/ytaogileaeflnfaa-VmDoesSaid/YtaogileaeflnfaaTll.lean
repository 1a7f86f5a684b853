/-
  A machine in memory that is read; the contracts of teller's closure and of teller.
-/
import Derived.Test.YtaogileaeflnfaaRck
import Derived.BigQuiet
import Derived.Below
set_option linter.unusedVariables false
set_option linter.unusedSimpArgs false
namespace Go.Proofs.Ytaogileaeflnfaa
open Go.RowKit

/-- A machine that is read: block g; its numbers, its bytes lie anywhere. -/
structure MR (w : World) (g : Nat) (x : Mn) (AH : Option Addr) (nH cH : Nat) (AM : Option Addr) (nM cM : Nat) : Prop where
  row : w.heap[g]? = some (.cells (mcL x (.slice AH nH cH) (.slice AM nM cM)).toArray 30 (0, 0))
  h : U.IsBB w w.heap.size AH nH cH x.h
  m : IsBB w w.heap.size AM nM cM x.m
section
variable {w w' : World} {g : Nat} {x : Mn} {AH AM : Option Addr} {nH cH nM cM : Nat}
theorem MR.lt (h : MR w g x AH nH cH AM nM cM) : g < w.heap.size := lt_of_heap h.row
theorem MR.on (h : MR w g x AH nH cH AM nM cM) (b : Below w.heap.size w w') : MR w' g x AH nH cH AM nM cM := ⟨(b.block g h.lt).trans h.row, h.h.on b, h.m.on b⟩
theorem MR.drew (h : MR w g x AH nH cH AM nM cM) : MR w.drew g x AH nH cH AM nM cM := ⟨h.row, h.h.drew, h.m.drew⟩
theorem row_get {L : List Value} {t : TypeId} (h : w.heap[g]? = some (.cells L.toArray t (0, 0))) (i : Nat) : w.cell? ⟨g, i, none⟩ = L[i]? := by
  rw [row_cell h i, List.getElem?_toArray]
theorem MR.ca (h : MR w g x AH nH cH AM nM cM) : w.cell? ⟨g, 0, none⟩ = some (U.bv x.a) := (row_get h.row 0).trans (mc_0 _ _ _)
theorem MR.cb (h : MR w g x AH nH cH AM nM cM) : w.cell? ⟨g, 1, none⟩ = some (U.bv x.b) := (row_get h.row 1).trans (mc_1 _ _ _)
theorem MR.cc (h : MR w g x AH nH cH AM nM cM) : w.cell? ⟨g, 2, none⟩ = some (U.bv x.c) := (row_get h.row 2).trans (mc_2 _ _ _)
theorem MR.cd (h : MR w g x AH nH cH AM nM cM) : w.cell? ⟨g, 3, none⟩ = some (U.bv x.d) := (row_get h.row 3).trans (mc_3 _ _ _)
theorem MR.cf (h : MR w g x AH nH cH AM nM cM) : w.cell? ⟨g, 4, none⟩ = some (.bool x.f) := (row_get h.row 4).trans (mc_4 _ _ _)
theorem MR.cr (h : MR w g x AH nH cH AM nM cM) (j : Nat) (hj : j < 256) : w.cell? ⟨g, 5 + j, none⟩ = some (U.bv (x.r j)) := (row_get h.row _).trans (mc_r _ _ _ j hj)
theorem MR.ch (h : MR w g x AH nH cH AM nM cM) : w.cell? ⟨g, 261, none⟩ = some (.slice AH nH cH) := (row_get h.row _).trans (mc_h _ _ _)
theorem MR.cm (h : MR w g x AH nH cH AM nM cM) : w.cell? ⟨g, 262, none⟩ = some (.slice AM nM cM) := (row_get h.row _).trans (mc_m _ _ _)
theorem MR.free (h : MR w g x AH nH cH AM nM cM) (i : Nat) : w.frozen? ⟨g, i, none⟩ = false := row_free h.row i
end
theorem pw_pos {n k : Nat} (h : pw2 n k) : 0 < n := by
  obtain ⟨j, _, rfl⟩ := h
  exact Nat.two_pow_pos j
theorem IsB.at {w : World} {A : Option Addr} {n c : Nat} {l : List UInt8} (h : IsB w A n c l) (j : Nat) (hj : j < n) : ∃ ad, A = some ad ∧ w.cell? (ad.add j) = some (.int .u8 (l.getD j 0).toNat) := by
  have hl := h.len
  obtain ⟨ad, e, hc⟩ := h.lies (by omega)
  refine ⟨ad, e, ?_⟩
  rw [hc j (by omega), List.getD_eq_getElem?_getD, List.getElem?_eq_getElem (by omega)]
  rfl
theorem U.IsB.at {w : World} {A : Option Addr} {n c : Nat} {l : List UInt32} (h : U.IsB w A n c l) (j : Nat) (hj : j < n) : ∃ ad, A = some ad ∧ w.cell? (ad.add j) = some (.int .u32 (l.getD j 0).toNat) := by
  have hl := h.len
  obtain ⟨ad, e, hc⟩ := h.lies (by omega)
  refine ⟨ad, e, ?_⟩
  rw [hc j (by omega), List.getD_eq_getElem?_getD, List.getElem?_eq_getElem (by omega)]
  rfl
theorem at_0 (x : Mn) (n : Int) : atM x 0 n = x.a := rfl
theorem at_1 (x : Mn) (n : Int) : atM x 1 n = x.b := rfl
theorem at_2 (x : Mn) (n : Int) : atM x 2 n = x.c := rfl
theorem at_3 (x : Mn) (n : Int) : atM x 3 n = x.d := rfl
theorem at_4 (x : Mn) (n : Int) : atM x 4 n = (x.m.getD (x.b.toNat % x.m.length) 0).toUInt32 := rfl
theorem at_5 (x : Mn) (n : Int) : atM x 5 n = (x.m.getD (x.c.toNat % x.m.length) 0).toUInt32 := rfl
theorem at_6 (x : Mn) (n : Int) : atM x 6 n = x.h.getD (x.d.toNat % x.h.length) 0 := rfl
theorem at_else (x : Mn) (p n : Int) (h : p < 0 ∨ 6 < p) : atM x p n = u32 n := by
  unfold atM
  repeat rw [if_neg (by omega)]
set_option maxRecDepth 10000 in
set_option maxHeartbeats 8000000 in
theorem tl_any (w : World) (b1 b2 g : Nat) (x : Mn) (p n : Int) (AH AM : Option Addr) (nH cH nM cM : Nat) (c1 : w.cell? ⟨b1, 0, none⟩ = some (.pointer (some ⟨g, 0, none⟩))) (c2 : w.cell? ⟨b2, 0, none⟩ = some (.int .i64 n)) (hr : MR w g x AH nH cH AM nM cM) (hok : x.ok) :
    Calls Try.prog 57 #[.int .i64 p, .pointer (some ⟨b1, 0, none⟩), .pointer (some ⟨b2, 0, none⟩)] w fun e w' => e = .returned (U.bv (atM x p n)) ∧ ∃ k, w' = w.drewN k := by
  have hlh := hr.h.len
  have hlm := hr.m.len
  by_cases e0 : p = 0
  · subst e0
    rw [at_0]
    have c3 := hr.ca
    unfold U.bv at *
    go_enter Try.func57, Try.ntmps57
    go_wp2_with fail
    go_ret
    exact ⟨rfl, 0, rfl⟩
  by_cases e1 : p = 1
  · subst e1
    rw [at_1]
    have c3 := hr.cb
    unfold U.bv at *
    go_enter Try.func57, Try.ntmps57
    go_wp2_with fail
    go_ret
    exact ⟨rfl, 0, rfl⟩
  by_cases e2 : p = 2
  · subst e2
    rw [at_2]
    have c3 := hr.cc
    unfold U.bv at *
    go_enter Try.func57, Try.ntmps57
    go_wp2_with fail
    go_ret
    exact ⟨rfl, 0, rfl⟩
  by_cases e3 : p = 3
  · subst e3
    rw [at_3]
    have c3 := hr.cd
    unfold U.bv at *
    go_enter Try.func57, Try.ntmps57
    go_wp2_with fail
    go_ret
    exact ⟨rfl, 0, rfl⟩
  by_cases e4 : p = 4
  · subst e4
    rw [at_4, hlm]
    have c3 := hr.cb
    have c4 := hr.cm
    obtain ⟨k, hk, hk2⟩ := hok.2
    rw [hlm] at hk2
    have hn0 : 0 < nM := by rw [hk2]; exact Nat.two_pow_pos k
    have HW := hid (fun w => within_any x.b.toNat nM k (by omega) hk2 x.b.toNat_lt w)
    have hjl := Nat.mod_lt x.b.toNat hn0
    obtain ⟨ad, rfl, c5⟩ := hr.m.toIsB.at _ hjl
    unfold U.bv at *
    have E : ((x.m.getD (x.b.toNat % nM) 0).toNat : Int) = ((x.m.getD (x.b.toNat % nM) 0).toUInt32.toNat : Int) := by simp
    have q1 := (x.m.getD (x.b.toNat % nM) 0).toUInt32.toNat_lt
    clear hr hok hlh hlm hk2 hn0
    generalize (x.m.getD (x.b.toNat % nM) 0).toUInt32.toNat = z at *
    generalize (x.m.getD (x.b.toNat % nM) 0).toNat = y at *
    generalize x.b.toNat % nM = j at *
    generalize x.b.toNat = bb at *
    have hjz : (j : Int) < (nM : Int) := by omega
    go_enter Try.func57, Try.ntmps57
    go_wp2_with fail
    go_quiet ((go_at_call 58; exact Calls.quiet_of_same (HW.out _)))
    go_wp2_with fail
    go_ret
    exact ⟨ret_u32 (by omega), nq, rfl⟩
  by_cases e5 : p = 5
  · subst e5
    rw [at_5, hlm]
    have c3 := hr.cc
    have c4 := hr.cm
    obtain ⟨k, hk, hk2⟩ := hok.2
    rw [hlm] at hk2
    have hn0 : 0 < nM := by rw [hk2]; exact Nat.two_pow_pos k
    have HW := hid (fun w => within_any x.c.toNat nM k (by omega) hk2 x.c.toNat_lt w)
    have hjl := Nat.mod_lt x.c.toNat hn0
    obtain ⟨ad, rfl, c5⟩ := hr.m.toIsB.at _ hjl
    unfold U.bv at *
    have E : ((x.m.getD (x.c.toNat % nM) 0).toNat : Int) = ((x.m.getD (x.c.toNat % nM) 0).toUInt32.toNat : Int) := by simp
    have q1 := (x.m.getD (x.c.toNat % nM) 0).toUInt32.toNat_lt
    clear hr hok hlh hlm hk2 hn0
    generalize (x.m.getD (x.c.toNat % nM) 0).toUInt32.toNat = z at *
    generalize (x.m.getD (x.c.toNat % nM) 0).toNat = y at *
    generalize x.c.toNat % nM = j at *
    generalize x.c.toNat = bb at *
    have hjz : (j : Int) < (nM : Int) := by omega
    go_enter Try.func57, Try.ntmps57
    go_wp2_with fail
    go_quiet ((go_at_call 58; exact Calls.quiet_of_same (HW.out _)))
    go_wp2_with fail
    go_ret
    exact ⟨ret_u32 (by omega), nq, rfl⟩
  by_cases e6 : p = 6
  · subst e6
    rw [at_6, hlh]
    have c3 := hr.cd
    have c4 := hr.ch
    obtain ⟨k, hk, hk2⟩ := hok.1
    rw [hlh] at hk2
    have hn0 : 0 < nH := by rw [hk2]; exact Nat.two_pow_pos k
    have HW := hid (fun w => within_any x.d.toNat nH k (by omega) hk2 x.d.toNat_lt w)
    have hjl := Nat.mod_lt x.d.toNat hn0
    obtain ⟨ad, rfl, c5⟩ := hr.h.toIsB.at _ hjl
    unfold U.bv at *
    clear hr hok hlh hlm hk2 hn0
    generalize (x.h.getD (x.d.toNat % nH) 0).toNat = z at *
    generalize x.d.toNat % nH = j at *
    generalize x.d.toNat = bb at *
    have hjz : (j : Int) < (nH : Int) := by omega
    go_enter Try.func57, Try.ntmps57
    go_wp2_with fail
    go_quiet ((go_at_call 58; exact Calls.quiet_of_same (HW.out _)))
    go_wp2_with fail
    go_ret
    exact ⟨rfl, nq, rfl⟩
  rw [at_else x p n (by omega)]
  have n0 : (p == 0) = false := by simp only [beq_eq_false_iff_ne, ne_eq]; omega
  have n1 : (p == 1) = false := by simp only [beq_eq_false_iff_ne, ne_eq]; omega
  have n2 : (p == 2) = false := by simp only [beq_eq_false_iff_ne, ne_eq]; omega
  have n3 : (p == 3) = false := by simp only [beq_eq_false_iff_ne, ne_eq]; omega
  have n4 : (p == 4) = false := by simp only [beq_eq_false_iff_ne, ne_eq]; omega
  have n5 : (p == 5) = false := by simp only [beq_eq_false_iff_ne, ne_eq]; omega
  have n6 : (p == 6) = false := by simp only [beq_eq_false_iff_ne, ne_eq]; omega
  have E := u32_nat n
  unfold U.bv
  generalize (u32 n).toNat = z at *
  clear hr hok hlh hlm
  go_enter Try.func57, Try.ntmps57
  go_wp2_with fail
  go_ret
  exact ⟨ret_u32 (by first | rfl | omega), 0, rfl⟩
/-- What teller's closure holds: the machine's block and a number, each in a box. -/
structure TlAt (w : World) (t : Nat) (g : Nat) (n : Int) : Prop where
  one : w.heap[t]? = some (.cells #[.pointer (some ⟨g, 0, none⟩)] 55 (0, 0))
  two : w.heap[t + 1]? = some (.cells #[.int .i64 n] 3 (0, 0))
theorem TlAt.call {w : World} {t g : Nat} {n : Int} (h : TlAt w t g n) {x : Mn} {AH AM : Option Addr} {nH cH nM cM : Nat} (hr : MR w g x AH nH cH AM nM cM) (hok : x.ok) (p : Int) :
    Calls Try.prog 57 #[.int .i64 p, .pointer (some ⟨t, 0, none⟩), .pointer (some ⟨t + 1, 0, none⟩)] w fun e w' => e = .returned (U.bv (atM x p n)) ∧ ∃ k, w' = w.drewN k :=
  tl_any w t (t + 1) g x p n AH AM nH cH nM cM (row_cell h.one 0) (row_cell h.two 0) hr hok
theorem TlAt.on {w w' : World} {t g : Nat} {n : Int} (h : TlAt w t g n) (b : Below w.heap.size w w') : TlAt w' t g n := ⟨(b.block _ (lt_of_heap h.one)).trans h.one, (b.block _ (lt_of_heap h.two)).trans h.two⟩
theorem TlAt.made (w : World) (g : Nat) (n : Int) : TlAt ((w.alloc (.cells #[.pointer (some ⟨g, 0, none⟩)] 55)).alloc (.cells #[.int .i64 n] 3)) w.heap.size g n := by
  have hz : (w.alloc (.cells #[.pointer (some ⟨g, 0, none⟩)] 55)).heap.size = w.heap.size + 1 := by simp
  have h1 := heap_alloc_new w (.cells #[.pointer (some ⟨g, 0, none⟩)] 55)
  have h2 := heap_alloc_new (w.alloc (.cells #[.pointer (some ⟨g, 0, none⟩)] 55)) (.cells #[.int .i64 n] 3)
  rw [hz] at h2
  exact ⟨(heap_alloc_old _ _ (lt_of_heap h1)).trans h1, h2⟩
set_option maxRecDepth 10000 in
set_option maxHeartbeats 8000000 in
theorem teller_any (g : Nat) (n : Int) (w : World) : Calls Try.prog 44 #[.pointer (some ⟨g, 0, none⟩), .int .i64 n] w fun e w' => ∃ t, e = .returned (.func (.func 57) #[] #[.pointer (some ⟨t, 0, none⟩), .pointer (some ⟨t + 1, 0, none⟩)]) ∧ TlAt w' t g n ∧ Below w.heap.size w w' ∧ w.heap.size ≤ t := by
  go_enter Try.func44, Try.ntmps44
  go_wp2_with fail
  go_ret
  exact ⟨w.heap.size, by simp, TlAt.made w g n, ((Below.refl _ w).alloc (Nat.le_refl _) _).alloc (by simp) _, Nat.le_refl _⟩
end Go.Proofs.Ytaogileaeflnfaa
