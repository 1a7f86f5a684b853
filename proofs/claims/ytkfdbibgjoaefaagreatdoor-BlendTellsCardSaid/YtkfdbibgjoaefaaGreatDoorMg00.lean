/-
  Merged: Za.
-/
import Derived.Test.YtkfdbibgjoaefaaGreatDoorProg
import Derived.Test.YtkfdbibgjoaefaaGreatDoorRows
import Derived.WalkKit
import Derived.WalkSpells
import Derived.WalkLawsBesides
import Derived.RegionTactic
import Derived.BigRegion
import Derived.Laws.Rows
import Derived.Shelf.Abstract
import Derived.BigQuiet
import Derived.Below
import Derived.IntWalk
import Derived.Lib.LaidTab
/-
  Merged: Sqn Sq Str Stn Sta Nx Lai.
-/
/-
  The two curves of chapter 9 as plain functions: the one never falls, the other is the least place; there and back.
-/
namespace Go.Proofs.YtkfdbibgjoaefaaGreatDoor

/-- The knots. -/
def knL : List Nat := [1, 2, 4, 6, 10, 17, 27, 45, 74, 120, 194, 311, 488, 747, 1102, 1546, 2048, 2550, 2994, 3349, 3608, 3785, 3902, 3976, 4022, 4051, 4069, 4079, 4086, 4090, 4092, 4094, 4095]
def kn (i : Nat) : Nat := knL.getD i 0
/-- The curve between the ends, at n = d + 2048. -/
def sqN (n : Nat) : Nat := (kn (n / 128) * (128 - n % 128) + kn (n / 128 + 1) * (n % 128) + 64) / 128
def sq (d : Int) : Int := if 2047 < d then 4095 else if d < -2047 then 1 else (sqN (d + 2048).toNat : Nat)
theorem kn_up : ∀ i, i < 32 → kn i ≤ kn (i + 1) := by decide +kernel
theorem kn_low : ∀ i, i < 33 → 1 ≤ kn i := by decide +kernel
theorem kn_high : ∀ i, i < 33 → kn i ≤ 4095 := by decide +kernel
theorem sqN_step : (List.range 4094).all (fun n => decide (sqN (n + 1) ≤ sqN (n + 2))) = true := by decide +kernel
theorem sqN_up (n : Nat) (h1 : 1 ≤ n) (h2 : n ≤ 4094) : sqN n ≤ sqN (n + 1) := by
  have h := List.all_eq_true.1 sqN_step (n - 1) (List.mem_range.2 (by omega))
  have e : n - 1 + 1 = n := by omega
  have e2 : n - 1 + 2 = n + 1 := by omega
  rw [e, e2] at h
  exact of_decide_eq_true h
theorem sqN_first : sqN 1 = 1 := by decide +kernel
theorem sqN_last : sqN 4095 = 4095 := by decide +kernel
theorem sqN_mono (n m : Nat) (h1 : 1 ≤ n) (h : n ≤ m) (h2 : m ≤ 4095) : sqN n ≤ sqN m := by
  induction m with
  | zero => omega
  | succ m ih =>
    by_cases e : n = m + 1
    · subst e; exact Nat.le_refl _
    · exact Nat.le_trans (ih (by omega) (by omega)) (sqN_up m (by omega) (by omega))
theorem sqN_range (n : Nat) (h1 : 1 ≤ n) (h2 : n ≤ 4095) : 1 ≤ sqN n ∧ sqN n ≤ 4095 := by
  have a := sqN_mono 1 n (by omega) h1 h2
  have b := sqN_mono n 4095 h1 h2 (by omega)
  rw [sqN_first] at a
  rw [sqN_last] at b
  exact ⟨a, b⟩
theorem sq_range (d : Int) : 1 ≤ sq d ∧ sq d ≤ 4095 := by
  unfold sq
  split
  · exact ⟨by decide, by decide⟩
  · split
    · exact ⟨by decide, by decide⟩
    · have := sqN_range (d + 2048).toNat (by omega) (by omega)
      omega
theorem sq_mono (a b : Int) (h : a ≤ b) : sq a ≤ sq b := by
  have ha := sq_range a
  have hb := sq_range b
  by_cases h1 : 2047 < b
  · have : sq b = 4095 := by unfold sq; rw [if_pos h1]
    omega
  · by_cases h2 : a < -2047
    · have : sq a = 1 := by unfold sq; rw [if_neg (by omega), if_pos h2]
      omega
    · have e1 : sq a = (sqN (a + 2048).toNat : Nat) := by unfold sq; rw [if_neg (by omega), if_neg (by omega)]
      have e2 : sq b = (sqN (b + 2048).toNat : Nat) := by unfold sq; rw [if_neg (by omega), if_neg (by omega)]
      rw [e1, e2]
      have := sqN_mono (a + 2048).toNat (b + 2048).toNat (by omega) (by omega) (by omega)
      omega
theorem sq_top : sq 2047 = 4095 := by decide +kernel
/-- The least place from k on, of so many. -/
def lst (p : Int) (k : Int) : Nat → Int
  | 0 => k
  | f + 1 => if p ≤ sq k then k else lst p (k + 1) f
/-- The least d from -2047 to 2047 with sq d at least p; 2047, if there is none. -/
def stz (p : Int) : Int := lst p (-2047) 4094
theorem lst_range (p : Int) : ∀ (f : Nat) (k : Int), k ≤ lst p k f ∧ lst p k f ≤ k + f
  | 0, k => by unfold lst; omega
  | f + 1, k => by
    unfold lst
    split
    · omega
    · have := lst_range p f (k + 1); omega
/-- Nothing ahead of it reaches p. -/
theorem lst_least (p : Int) : ∀ (f : Nat) (k d : Int), k ≤ d → d < lst p k f → sq d < p
  | 0, k, d, h1, h2 => by unfold lst at h2; omega
  | f + 1, k, d, h1, h2 => by
    unfold lst at h2
    split at h2
    · omega
    · rename_i hn
      by_cases e : d = k
      · subst e; omega
      · exact lst_least p f (k + 1) d (by omega) h2
/-- It reaches p, or is the last. -/
theorem lst_hit (p : Int) : ∀ (f : Nat) (k : Int), p ≤ sq (lst p k f) ∨ lst p k f = k + f
  | 0, k => by unfold lst; exact .inr (by omega)
  | f + 1, k => by
    unfold lst
    split
    · rename_i h; exact .inl h
    · rcases lst_hit p f (k + 1) with h | h
      · exact .inl h
      · exact .inr (by omega)
theorem stz_range (p : Int) : -2047 ≤ stz p ∧ stz p ≤ 2047 := by
  have := lst_range p 4094 (-2047)
  unfold stz; omega
theorem stz_hit (p : Int) (h : p ≤ 4095) : p ≤ sq (stz p) := by
  rcases lst_hit p 4094 (-2047) with h1 | h1
  · exact h1
  · unfold stz
    rw [h1]
    have := sq_top
    have e : (-2047 : Int) + (4094 : Nat) = 2047 := by decide
    rw [e, this]
    exact h
theorem stz_le (p d : Int) (h1 : -2047 ≤ d) (h : p ≤ sq d) : stz p ≤ d := by
  by_cases e : d < stz p
  · have := lst_least p 4094 (-2047) d h1 e; omega
  · omega
theorem stz_mono (p q : Int) (h : p ≤ q) : stz p ≤ stz q := by
  have r := stz_range q
  by_cases e : stz q < stz p
  · have h1 := lst_least p 4094 (-2047) (stz q) (by omega) e
    rcases lst_hit q 4094 (-2047) with h2 | h2
    · have : q ≤ sq (stz q) := h2
      omega
    · have h3 := stz_range p
      have : stz q = -2047 + (4094 : Nat) := h2
      omega
  · omega
/-- There and back. -/
theorem stz_sq (d : Int) (h1 : -2047 ≤ d) : stz (sq d) ≤ d := stz_le _ d h1 (Int.le_refl _)
end Go.Proofs.YtkfdbibgjoaefaaGreatDoor
/-
  The contract of Squash: the curve's plain function, out of the table of knots.
-/
namespace Go.Proofs.YtkfdbibgjoaefaaGreatDoor
open Go.RowKit

theorem hid {p : Prop} (h : p) : RowKit.Hid p := h
theorem ret_i64 {a b : Int} (h : a = b) : Ending.returned (.int .i64 a) = .returned (.int .i64 b) := by rw [h]
/-- The table of knots holds the knots. -/
def KnIs (w : World) : Prop := ∀ i, i < 33 → w.cell? ⟨0, i, none⟩ = some (.int .i64 (kn i : Nat))

theorem wrap_in (n : Int) (h : -9223372036854775808 ≤ n ∧ n ≤ 9223372036854775807) : wrap64 n = n := by unfold wrap64; omega
theorem sum_eq (a b r : Nat) (ha : a ≤ 4095) (hb : b ≤ 4095) (hr : r < 128) :
    wrap64 ((wrap64 (wrap64 (wrap64 ((a : Int) * (128 - (r : Int))) + wrap64 ((b : Int) * (r : Int))) + 64)).tdiv 128) = (((a * (128 - r) + b * r + 64) / 128 : Nat) : Int) := by
  have h1 : a * (128 - r) ≤ 4095 * 128 := Nat.mul_le_mul ha (by omega)
  have h2 : b * r ≤ 4095 * 128 := Nat.mul_le_mul hb (by omega)
  have e1 : (a : Int) * (128 - (r : Int)) = ((a * (128 - r) : Nat) : Int) := by
    rw [show (128 : Int) - (r : Int) = ((128 - r : Nat) : Int) by omega, Int.natCast_mul]
  have e2 : (b : Int) * (r : Int) = ((b * r : Nat) : Int) := by rw [Int.natCast_mul]
  rw [e1, e2]
  generalize a * (128 - r) = x at h1 ⊢
  generalize b * r = y at h2 ⊢
  rw [wrap_in (x : Int) (by omega), wrap_in (y : Int) (by omega), wrap_in ((x : Int) + (y : Int)) (by omega), wrap_in ((x : Int) + (y : Int) + 64) (by omega)]
  rw [Int.tdiv_eq_ediv_of_nonneg (by omega), wrap_in _ (by omega)]
  omega
set_option maxRecDepth 10000 in
set_option maxHeartbeats 1000000 in
theorem squash_any (d : Int) (w : World) (hk : KnIs w) (h1 : -9223372036854775808 ≤ d) (h2 : d ≤ 9223372036854775807) :
    Calls Tryz.prog 23 #[.int .i64 d] w fun e w' => e = .returned (.int .i64 (sq d)) ∧ ∃ m, w' = w.drewN m := by
  by_cases ha : 2047 < d
  · have e : sq d = 4095 := by unfold sq; rw [if_pos ha]
    rw [e]
    go_enter Tryz.func23, Tryz.ntmps23
    go_wp2_with fail
    go_ret
    exact ⟨rfl, 0, rfl⟩
  · by_cases hb : d < -2047
    · have e : sq d = 1 := by unfold sq; rw [if_neg ha, if_pos hb]
      rw [e]
      go_enter Tryz.func23, Tryz.ntmps23
      go_wp2_with fail
      go_ret
      exact ⟨rfl, 0, rfl⟩
    · obtain ⟨q, hq⟩ : ∃ q, q = (d + 2048).toNat / 128 := ⟨_, rfl⟩
      obtain ⟨r, hr⟩ : ∃ r, r = (d + 2048).toNat % 128 := ⟨_, rfl⟩
      have hq33 : q < 32 := by omega
      have e : sq d = (((kn q * (128 - r) + kn (q + 1) * r + 64) / 128 : Nat) : Int) := by
        unfold sq sqN; rw [if_neg ha, if_neg hb, hq, hr]
      rw [e]
      have c1 := hk q (by omega)
      have c2 := hk (q + 1) (by omega)
      have b1 := kn_high q (by omega)
      have b2 := kn_high (q + 1) (by omega)
      generalize kn q = a at c1 b1 ⊢
      generalize kn (q + 1) = b at c2 b2 ⊢
      have b3 : r < 128 := by omega
      obtain ⟨n, hn⟩ : ∃ n : Nat, d + 2047 + 1 = (n : Int) := ⟨(d + 2048).toNat, by omega⟩
      have hn2 : n ≤ 4095 := by omega
      have hq1 : (n : Int) / 128 = (q : Int) := by omega
      have hr1 : (n : Int) % 128 = (r : Int) := by omega
      have hq2 : ((q : Int) + 1).toNat = q + 1 := by omega
      clear e hk hq hr
      go_enter Tryz.func23, Tryz.ntmps23
      go_wp2_with fail
      go_region
      go_wp2_with fail
      go_ret
      exact ⟨ret_i64 (sum_eq a b r b1 b2 b3), 1, rfl⟩
end Go.Proofs.YtkfdbibgjoaefaaGreatDoor
/-
  The contract of Stretch: the least place, found by halving.
-/
namespace Go.Proofs.YtkfdbibgjoaefaaGreatDoor
open Go.RowKit

theorem KnIs.drewN {w : World} (h : KnIs w) (m : Nat) : KnIs (w.drewN m) := fun i hi => by
  have := h i hi
  simpa using this
set_option maxRecDepth 10000 in
set_option maxHeartbeats 1000000 in
theorem clo_any (i : Nat) (p : Int) (g : Nat) (w : World) (hk : KnIs w) (hc : w.cell? ⟨g, 0, none⟩ = some (.int .i64 p)) (hi : i < 4094) :
    Calls Tryz.prog 43 #[.int .i64 i, .pointer (some ⟨g, 0, none⟩)] w fun e w' => e = .returned (.bool (decide (p ≤ sq ((i : Int) - 2047)))) ∧ ∃ m, w' = w.drewN m := by
  have hiz : (i : Int) < 4094 := by omega
  have HS : ∀ n, Calls Tryz.prog 23 #[.int .i64 ((i : Int) - 2047)] (w.drewN n) fun e w'' => e = .returned (.int .i64 (sq ((i : Int) - 2047))) ∧ ∃ m, w'' = w.drewN m := fun n =>
    (squash_any _ _ (hk.drewN n) (by omega) (by omega)).mono fun e w'' ⟨h1, m, h2⟩ => ⟨h1, n + m, by rw [h2, World.drewN_drewN]⟩
  have hr := sq_range ((i : Int) - 2047)
  go_enter Tryz.func43, Tryz.ntmps43
  go_wp2_with fail
  go_quiet (with_reducible exact HS _)
  go_wp2_with fail
  go_ret
  exact ⟨by first | rfl | simp, _, rfl⟩
/-- What halving has found so far. -/
structure SeSt (p : Int) (i j : Nat) : Prop where
  le : i ≤ j
  top : j ≤ 4094
  low : 0 < i → sq ((i : Int) - 1 - 2047) < p
  high : j < 4094 → p ≤ sq ((j : Int) - 2047)
theorem SeSt.done {p : Int} {i : Nat} (s : SeSt p i i) : stz p = (i : Int) - 2047 := by
  have r := stz_range p
  have ht := s.top
  have h1 : stz p ≤ (i : Int) - 2047 := by
    by_cases h : i < 4094
    · exact stz_le p _ (by omega) (s.high h)
    · omega
  by_cases h : stz p < (i : Int) - 2047
  · have h2 := s.low (by omega)
    have h3 := sq_mono (stz p) ((i : Int) - 1 - 2047) (by omega)
    rcases lst_hit p 4094 (-2047) with h4 | h4
    · have : p ≤ sq (stz p) := h4
      omega
    · have : stz p = -2047 + ((4094 : Nat) : Int) := h4
      omega
  · omega
set_option maxRecDepth 10000 in
set_option maxHeartbeats 1000000 in
theorem search_any (p : Int) (g : Nat) (w : World) (hk : KnIs w) (hc : w.cell? ⟨g, 0, none⟩ = some (.int .i64 p)) :
    Calls Tryz.prog 42 #[.int .i64 4094, .func (.func 43) #[] #[.pointer (some ⟨g, 0, none⟩)]] w fun e w' => e = .returned (.int .i64 (stz p + 2047)) ∧ ∃ m, w' = w.drewN m := by
  have he : ∀ args w, (callFunc 43 args).run Tryz.prog w = .ok (.enter 43 args) w := enters_of Tryz.func43 (by kernel_rfl) rfl
  go_enter Tryz.func42, Tryz.ntmps42
  go_wp2_with fail
  go_loopw [5, 6] (fun vi vj wr => ∃ i j m : Nat, vi = .int .i64 i ∧ vj = .int .i64 j ∧ wr = w.drewN m ∧ SeSt p i j) (fun vi vj _ => (intOf vj - intOf vi).toNat)
  case atStart => exact ⟨0, 4094, 0, rfl, rfl, rfl, ⟨by omega, by omega, fun h => by omega, fun h => by omega⟩⟩
  case round =>
    obtain ⟨i, j, m, rfl, rfl, rfl, hs⟩ := hrel
    have h1 := hs.le
    have h2 := hs.top
    by_cases hlt : i < j
    · obtain ⟨h, hh⟩ : ∃ h, h = (i + j) / 2 := ⟨_, rfl⟩
      have hz : (i : Int) < (j : Int) := by omega
      have hh1 : ((i : Int) + (j : Int)) / 2 = (h : Int) := by omega
      have hi4 : h < 4094 := by omega
      have Hh := hid hh
      clear hh
      have HC := hid (clo_any h p g (w.drewN m) (hk.drewN m) (by simpa using hc) hi4)
      by_cases hp : p ≤ sq ((h : Int) - 2047)
      · have hd : decide (p ≤ sq ((h : Int) - 2047)) = true := by simp [hp]
        go_wp2_with fail
        refine HC.out.mono ?_
        rintro e w' ⟨rfl, m', rfl⟩
        go_wp2_with fail
        go_roundw
        case rel => exact ⟨i, h, m + m', rfl, rfl, rfl, ⟨by omega, by omega, hs.low, fun _ => hp⟩⟩
        case measure => simp [intOf]; omega
      · have hd : decide (p ≤ sq ((h : Int) - 2047)) = false := by simp [hp]
        go_wp2_with fail
        refine HC.out.mono ?_
        rintro e w' ⟨rfl, m', rfl⟩
        go_wp2_with fail
        go_roundw
        case rel => exact ⟨h + 1, j, m + m', by go_num, rfl, rfl, ⟨by omega, h2, fun _ => by rw [show (((h + 1 : Nat) : Int) - 1 - 2047) = (h : Int) - 2047 by omega]; omega, hs.high⟩⟩
        case measure => simp [intOf]; omega
    · obtain rfl : i = j := by omega
      have e := hs.done
      have e2 : stz p + 2047 = (i : Int) := by omega
      clear e
      go_wp2_with fail
      go_ret
      exact ⟨ret_i64 e2.symm, m, rfl⟩
theorem Below.drewN (B : Nat) (w : World) (n : Nat) : Below B w (w.drewN n) := ⟨rfl, rfl, rfl, Nat.le_refl _, fun _ _ => rfl⟩
theorem KnIs.below {w w' : World} (h : KnIs w) (b : Below w.heap.size w w') : KnIs w' := fun i hi => by
  have h0 := h i hi
  have : (⟨0, i, none⟩ : Addr).block < w.heap.size := by
    rcases Nat.lt_or_ge 0 w.heap.size with hlt | hge
    · exact hlt
    · unfold World.cell? at h0
      rw [Array.getElem?_eq_none hge] at h0
      simp at h0
  unfold World.cell? at h0 ⊢
  rw [b.block 0 this]
  exact h0
set_option maxRecDepth 10000 in
set_option maxHeartbeats 1000000 in
theorem stretch_any (p : Int) (w : World) (hk : KnIs w) :
    Calls Tryz.prog 24 #[.int .i64 p] w fun e w' => e = .returned (.int .i64 (stz p)) ∧ Below w.heap.size w w' := by
  have hr := stz_range p
  go_enter Tryz.func24, Tryz.ntmps24
  go_wp2_with fail
  have b1 : Below w.heap.size w (w.alloc (Obj.cells #[Value.int IntKind.i64 p] 3)) := (Below.refl _ _).alloc (Nat.le_refl _) _
  refine (search_any p w.heap.size _ (hk.below b1) (by simp)).mono ?_
  rintro e w' ⟨rfl, m, rfl⟩
  go_wp2_with fail
  go_ret
  exact ⟨ret_i64 (by omega), b1.trans (Below.drewN _ _ _)⟩
end Go.Proofs.YtkfdbibgjoaefaaGreatDoor
/-
  The states of chapter 10 as plain numbers: what follows one, how likely it makes a one, a run of fifteen of a kind.
-/
namespace Go.Proofs.YtkfdbibgjoaefaaGreatDoor

/-- The other count. -/
def othN (n : Nat) : Nat := if n ≤ 2 then n else n / 2 + 1
def moreN (n : Nat) : Nat := min (n + 1) 15
/-- What follows a state. -/
def nxN (s : Nat) (one : Bool) : Nat := if one then othN (s / 16) * 16 + moreN (s % 16) else moreN (s / 16) * 16 + othN (s % 16)
def chN (s : Nat) : Nat := (2 * (s % 16) + 1) * 65536 / (2 * (s / 16) + 2 * (s % 16) + 2)
def runN (one : Bool) : Nat → Nat → Nat
  | 0, s => s
  | k + 1, s => runN one k (nxN s one)
theorem all256 {p : Nat → Bool} (h : (List.range 256).all p = true) (s : Nat) (hs : s < 256) : p s = true := List.all_eq_true.1 h s (List.mem_range.2 hs)
theorem nxN_lt (s : Nat) (hs : s < 256) (one : Bool) : nxN s one < 256 := by
  have h : (List.range 256).all (fun s => decide (nxN s true < 256 ∧ nxN s false < 256)) = true := by decide +kernel
  have := of_decide_eq_true (all256 h s hs)
  cases one
  · exact this.2
  · exact this.1
theorem chN_range (s : Nat) (hs : s < 256) : 1 ≤ chN s ∧ chN s ≤ 65535 := by
  have h : (List.range 256).all (fun s => decide (1 ≤ chN s ∧ chN s ≤ 65535)) = true := by decide +kernel
  exact of_decide_eq_true (all256 h s hs)
/-- A bit never makes its own kind less likely. -/
theorem chN_up (s : Nat) (hs : s < 256) : chN s ≤ chN (nxN s true) ∧ chN (nxN s false) ≤ chN s := by
  have h : (List.range 256).all (fun s => decide (chN s ≤ chN (nxN s true) ∧ chN (nxN s false) ≤ chN s)) = true := by decide +kernel
  exact of_decide_eq_true (all256 h s hs)
theorem runN_lt (one : Bool) : ∀ (k s : Nat), s < 256 → runN one k s < 256
  | 0, _, h => h
  | k + 1, s, h => runN_lt one k (nxN s one) (nxN_lt s h one)
theorem runN_succ (one : Bool) : ∀ (k s : Nat), runN one (k + 1) s = nxN (runN one k s) one
  | 0, _ => rfl
  | k + 1, s => by
    show runN one (k + 1) (nxN s one) = nxN (runN one k (nxN s one)) one
    exact runN_succ one k (nxN s one)
/-- Fifteen of a kind. -/
theorem run15 (s : Nat) (hs : s < 256) : (runN true 15 s % 16 = 15 ∧ runN true 15 s / 16 ≤ 2) ∧ (runN false 15 s / 16 = 15 ∧ runN false 15 s % 16 ≤ 2) := by
  have h : (List.range 256).all (fun s => decide ((runN true 15 s % 16 = 15 ∧ runN true 15 s / 16 ≤ 2) ∧ (runN false 15 s / 16 = 15 ∧ runN false 15 s % 16 ≤ 2))) = true := by decide +kernel
  exact of_decide_eq_true (all256 h s hs)
end Go.Proofs.YtkfdbibgjoaefaaGreatDoor
/-
  The contracts of Counts, Next and Chance: the states' plain functions.
-/
namespace Go.Proofs.YtkfdbibgjoaefaaGreatDoor
open Go.RowKit

theorem ret_u8 {a b : Int} (h : a = b) : Ending.returned (.int .u8 a) = .returned (.int .u8 b) := by rw [h]
def Is (v : Value) (e : Ending) (w w' : World) : Prop := e = .returned v ∧ ∃ m, w' = w.drewN m
theorem Is.below {v : Value} {e : Ending} {w w' : World} (h : Is v e w w') : e = .returned v ∧ Below w.heap.size w w' := by
  obtain ⟨h1, m, rfl⟩ := h
  exact ⟨h1, Below.drewN _ _ _⟩
set_option maxRecDepth 10000 in
theorem counts_any (s : Nat) (hs : s < 256) (w : World) :
    Calls Tryz.prog 76 #[.int .u8 s] w fun e w' => e = .returned (.tuple #[.int .i64 (s / 16 : Nat), .int .i64 (s % 16 : Nat)]) ∧ w' = w := by
  obtain ⟨a, ha⟩ : ∃ a, a = s / 16 := ⟨_, rfl⟩
  obtain ⟨b, hb⟩ : ∃ b, b = s % 16 := ⟨_, rfl⟩
  rw [← ha, ← hb]
  have ha1 : (s : Int) / 16 = (a : Int) := by omega
  have hb1 : (s : Int) % 16 = (b : Int) := by omega
  have la : a < 16 := by omega
  have lb : b < 16 := by omega
  clear ha hb
  go_enter Tryz.func76, Tryz.ntmps76
  go_wp2_with fail
  go_ret2
  exact ⟨rfl, rfl⟩
set_option maxRecDepth 10000 in
theorem state_any (a b : Nat) (ha : a < 16) (hb : b < 16) (w : World) :
    Calls Tryz.prog 109 #[.int .i64 a, .int .i64 b] w fun e w' => e = .returned (.int .u8 (a * 16 + b : Nat)) ∧ ∃ m, w' = w.drewN m := by
  have az : (a : Int) < 16 := by omega
  have bz : (b : Int) < 16 := by omega
  go_enter Tryz.func109, Tryz.ntmps109
  go_wp2_with fail
  go_ret
  exact ⟨ret_u8 (by omega), 0, rfl⟩
set_option maxRecDepth 10000 in
theorem oth_any (g1 g2 g3 a b : Nat) (bit : Int) (ha : a < 16) (hb : b < 16) (w : World) (c1 : w.cell? ⟨g1, 0, none⟩ = some (.int .i64 b)) (c2 : w.cell? ⟨g2, 0, none⟩ = some (.int .i64 bit))
    (c3 : w.cell? ⟨g3, 0, none⟩ = some (.int .i64 a)) :
    Calls Tryz.prog 108 #[.pointer (some ⟨g1, 0, none⟩), .pointer (some ⟨g2, 0, none⟩), .pointer (some ⟨g3, 0, none⟩)] w fun e w' =>
      e = .returned (.int .i64 (othN (if bit = 0 then b else a) : Nat)) ∧ ∃ m, w' = w.drewN m := by
  by_cases h0 : bit = 0
  · rw [if_pos h0]
    subst h0
    obtain ⟨h, hh⟩ : ∃ h, b / 2 = h := ⟨_, rfl⟩
    have hz : (b : Int) / 2 = (h : Int) := by omega
    by_cases h2 : b ≤ 2
    · have h2z : (b : Int) ≤ 2 := by omega
      have e : othN b = b := if_pos h2
      rw [e]
      clear hh hz e
      go_enter Tryz.func108, Tryz.ntmps108
      go_wp2_with fail
      go_ret
      exact ⟨rfl, 0, rfl⟩
    · have h2z : ¬ (b : Int) ≤ 2 := by omega
      have e : othN b = h + 1 := by unfold othN; rw [if_neg h2, hh]
      rw [e]
      have hl : h < 16 := by omega
      clear hh e
      go_enter Tryz.func108, Tryz.ntmps108
      go_wp2_with fail
      go_ret
      exact ⟨ret_i64 (by omega), 0, rfl⟩
  · rw [if_neg h0]
    obtain ⟨h, hh⟩ : ∃ h, a / 2 = h := ⟨_, rfl⟩
    have hz : (a : Int) / 2 = (h : Int) := by omega
    by_cases h2 : a ≤ 2
    · have h2z : (a : Int) ≤ 2 := by omega
      have e : othN a = a := if_pos h2
      rw [e]
      clear hh hz e
      go_enter Tryz.func108, Tryz.ntmps108
      go_wp2_with fail
      go_ret
      exact ⟨rfl, 0, rfl⟩
    · have h2z : ¬ (a : Int) ≤ 2 := by omega
      have e : othN a = h + 1 := by unfold othN; rw [if_neg h2, hh]
      rw [e]
      have hl : h < 16 := by omega
      clear hh e
      go_enter Tryz.func108, Tryz.ntmps108
      go_wp2_with fail
      go_ret
      exact ⟨ret_i64 (by omega), 0, rfl⟩
end Go.Proofs.YtkfdbibgjoaefaaGreatDoor
/-
  The contracts of Next and Chance, the program's and the document's.
-/
namespace Go.Proofs.YtkfdbibgjoaefaaGreatDoor
open Go.RowKit

def oneB (bit : Int) : Bool := !decide (bit = 0)
theorem nx0 (s : Nat) : nxN s (oneB 0) = moreN (s / 16) * 16 + othN (s % 16) := rfl
theorem nx1 (s : Nat) (bit : Int) (h : ¬ bit = 0) : nxN s (oneB bit) = othN (s / 16) * 16 + moreN (s % 16) := by
  have : oneB bit = true := by unfold oneB; simp [h]
  rw [this]; rfl
theorem oth_lt (n : Nat) (h : n < 16) : othN n < 16 := by unfold othN; split <;> omega
theorem more_lt (n : Nat) : moreN n < 16 := by unfold moreN; omega
set_option maxRecDepth 10000 in
set_option maxHeartbeats 1000000 in
theorem next_any (s : Nat) (bit : Int) (hs : s < 256) (w : World) :
    Calls Tryz.prog 107 #[.int .u8 s, .int .i64 bit] w fun e w' => e = .returned (.int .u8 (nxN s (oneB bit) : Nat)) ∧ Below w.heap.size w w' := by
  have HA := hid (fun w => counts_any s hs w)
  obtain ⟨a, ha⟩ : ∃ a, s / 16 = a := ⟨_, rfl⟩
  obtain ⟨b, hb⟩ : ∃ b, s % 16 = b := ⟨_, rfl⟩
  have la : a < 16 := by omega
  have lb : b < 16 := by omega
  by_cases h0 : bit = 0
  · subst h0
    rw [nx0]
    rw [ha, hb] at HA ⊢
    have lo := oth_lt b lb
    have lm := more_lt a
    obtain ⟨W, hW⟩ : ∃ W, W = ((w.alloc (Obj.cells #[Value.int IntKind.i64 0] 3)).alloc (Obj.cells #[Value.int IntKind.i64 a] 3)).alloc (Obj.cells #[Value.int IntKind.i64 b] 3) := ⟨_, rfl⟩
    have HO : ∀ n, Calls Tryz.prog 108 #[.pointer (some ⟨w.heap.size + 1 + 1, 0, none⟩), .pointer (some ⟨w.heap.size, 0, none⟩), .pointer (some ⟨w.heap.size + 1, 0, none⟩)] (W.drewN n) fun e w'' =>
        e = .returned (.int .i64 (othN b : Nat)) ∧ ∃ m, w'' = W.drewN m := fun n =>
      (oth_any (w.heap.size + 1 + 1) w.heap.size (w.heap.size + 1) a b 0 la lb (W.drewN n) (by rw [hW]; go_simp) (by rw [hW]; go_simp) (by rw [hW]; go_simp)).mono fun e w'' ⟨h1, m, h2⟩ =>
        ⟨h1, n + m, by rw [h2, World.drewN_drewN]⟩
    have HS : ∀ n, Calls Tryz.prog 109 #[.int .i64 (moreN a : Nat), .int .i64 (othN b : Nat)] (W.drewN n) fun e w'' => e = .returned (.int .u8 (moreN a * 16 + othN b : Nat)) ∧ ∃ m, w'' = W.drewN m := fun n =>
      (state_any (moreN a) (othN b) lm lo (W.drewN n)).mono fun e w'' ⟨h1, m, h2⟩ => ⟨h1, n + m, by rw [h2, World.drewN_drewN]⟩
    have e1 : IntKind.i64.wrap ((a : Int) + 1) = (a : Int) + 1 := IntWalk.i64_in _ (by omega)
    have e2 : (if (15 : Int) < (a : Int) + 1 then 15 else (a : Int) + 1) = (moreN a : Nat) := by unfold moreN; (try split) <;> omega
    generalize othN b = o at *
    generalize moreN a = M at *
    subst hW
    have HO := hid HO
    have HS := hid HS
    have he : ∀ args w, (callFunc 108 args).run Tryz.prog w = .ok (.enter 108 args) w := enters_of Tryz.func108 (by kernel_rfl) rfl
    go_enter Tryz.func107, Tryz.ntmps107
    go_wp2_with fail
    refine (HA.out _).mono ?_
    rintro e w' ⟨rfl, rfl⟩
    go_wp2_with fail
    go_quiet (first | (with_reducible exact HO.out _) | (with_reducible exact HS.out _))
    go_wp2_with fail
    go_ret
    exact ⟨rfl, ((((Below.refl _ _).alloc (Nat.le_refl _) _).alloc (by simp; try omega) _).alloc (by simp; try omega) _).trans (Below.drewN _ _ _)⟩
  · rw [nx1 s bit h0]
    rw [ha, hb] at HA ⊢
    have lo := oth_lt a la
    have lm := more_lt b
    obtain ⟨W, hW⟩ : ∃ W, W = ((w.alloc (Obj.cells #[Value.int IntKind.i64 bit] 3)).alloc (Obj.cells #[Value.int IntKind.i64 a] 3)).alloc (Obj.cells #[Value.int IntKind.i64 b] 3) := ⟨_, rfl⟩
    have HO : ∀ n, Calls Tryz.prog 108 #[.pointer (some ⟨w.heap.size + 1 + 1, 0, none⟩), .pointer (some ⟨w.heap.size, 0, none⟩), .pointer (some ⟨w.heap.size + 1, 0, none⟩)] (W.drewN n) fun e w'' =>
        e = .returned (.int .i64 (othN a : Nat)) ∧ ∃ m, w'' = W.drewN m := fun n =>
      (oth_any (w.heap.size + 1 + 1) w.heap.size (w.heap.size + 1) a b bit la lb (W.drewN n) (by rw [hW]; go_simp) (by rw [hW]; go_simp) (by rw [hW]; go_simp)).mono fun e w'' ⟨h1, m, h2⟩ =>
        ⟨by first | exact h1 | (rw [if_neg h0] at h1; exact h1), n + m, by rw [h2, World.drewN_drewN]⟩
    have HS : ∀ n, Calls Tryz.prog 109 #[.int .i64 (othN a : Nat), .int .i64 (moreN b : Nat)] (W.drewN n) fun e w'' => e = .returned (.int .u8 (othN a * 16 + moreN b : Nat)) ∧ ∃ m, w'' = W.drewN m := fun n =>
      (state_any (othN a) (moreN b) lo lm (W.drewN n)).mono fun e w'' ⟨h1, m, h2⟩ => ⟨h1, n + m, by rw [h2, World.drewN_drewN]⟩
    have e1 : IntKind.i64.wrap ((b : Int) + 1) = (b : Int) + 1 := IntWalk.i64_in _ (by omega)
    have e2 : (if (15 : Int) < (b : Int) + 1 then 15 else (b : Int) + 1) = (moreN b : Nat) := by unfold moreN; (try split) <;> omega
    generalize othN a = o at *
    generalize moreN b = M at *
    subst hW
    have HO := hid HO
    have HS := hid HS
    have he : ∀ args w, (callFunc 108 args).run Tryz.prog w = .ok (.enter 108 args) w := enters_of Tryz.func108 (by kernel_rfl) rfl
    go_enter Tryz.func107, Tryz.ntmps107
    go_wp2_with fail
    refine (HA.out _).mono ?_
    rintro e w' ⟨rfl, rfl⟩
    go_wp2_with fail
    go_quiet (first | (with_reducible exact HO.out _) | (with_reducible exact HS.out _))
    go_wp2_with fail
    go_ret
    exact ⟨rfl, ((((Below.refl _ _).alloc (Nat.le_refl _) _).alloc (by simp; try omega) _).alloc (by simp; try omega) _).trans (Below.drewN _ _ _)⟩
theorem ch_num (a b : Nat) : (2 * (b : Int) + 1) * 65536 / (2 * (a : Int) + 2 * (b : Int) + 2) = (((2 * b + 1) * 65536 / (2 * a + 2 * b + 2) : Nat) : Int) := by
  rw [Int.natCast_ediv]
  congr 1 <;> omega
set_option maxRecDepth 10000 in
set_option maxHeartbeats 1000000 in
theorem chance_any (s : Nat) (hs : s < 256) (w : World) :
    Calls Tryz.prog 68 #[.int .u8 s] w fun e w' => e = .returned (.int .i64 (chN s : Nat)) ∧ Below w.heap.size w w' := by
  have HA := hid (fun w => counts_any s hs w)
  unfold chN
  obtain ⟨a, ha⟩ : ∃ a, s / 16 = a := ⟨_, rfl⟩
  obtain ⟨b, hb⟩ : ∃ b, s % 16 = b := ⟨_, rfl⟩
  have la : a < 16 := by omega
  have lb : b < 16 := by omega
  rw [ha, hb] at HA ⊢
  clear ha hb
  go_enter Tryz.func68, Tryz.ntmps68
  go_wp2_with fail
  refine (HA.out _).mono ?_
  rintro e w' ⟨rfl, rfl⟩
  go_wp2_with fail
  go_ret
  exact ⟨ret_i64 (ch_num a b), Below.refl _ _⟩
end Go.Proofs.YtkfdbibgjoaefaaGreatDoor
/-
  From the row's condition to what the walks ask: the table holds the knots.
-/
namespace Go.Proofs.YtkfdbibgjoaefaaGreatDoor
open Go.RowKit

theorem gKnots : Tryz.prog.globalNamed "quillpress/squash.knots" = some 0 := by kernel_rfl
theorem tKnots : (Tryz.prog.globals[0]?).map (·.type) = some 80 := by kernel_rfl
theorem kn_zs : ∀ i, i < 33 → (knL.map Int.ofNat).getD i 0 = ((kn i : Nat) : Int) := by decide +kernel
theorem knIs_of_laid {W : World} (h : laidMet Tryz.prog [("quillpress/squash.knots", Rows.laid_quillpress_squash_knots)] W) : KnIs W := by
  have hT := Lib.tabIs_of_head (k := .i64) (zs := knL.map Int.ofNat) (rest := []) gKnots tKnots Tryz.underlying80 Tryz.underlying3 (by kernel_rfl) (by kernel_rfl) h
  intro i hi
  have := hT.cell gKnots i (by simpa [knL] using hi)
  rw [kn_zs i hi] at this
  exact this
end Go.Proofs.YtkfdbibgjoaefaaGreatDoor
