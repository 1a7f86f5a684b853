/-
  The states of chapter 10 as plain numbers: what follows one, how likely it makes a one, a run of fifteen of a kind.
-/
namespace Go.Proofs.YtkfdbibgjoaefaaDoor

/-- The other count. -/
def othN (n : Nat) : Nat := if n ≤ 2 then n else n / 2 + 1
def moreN (n : Nat) : Nat := min (n + 1) 15
/-- What follows a state. -/
def nxN (s : Nat) (one : Bool) : Nat := if one then othN (s / 16) * 16 + moreN (s % 16) else moreN (s / 16) * 16 + othN (s % 16)
def chN (s : Nat) : Nat := (2 * (s % 16) + 1) * 65536 / (2 * (s / 16) + 2 * (s % 16) + 2)
def runN (one : Bool) : Nat → Nat → Nat
  | 0, s => s
  | k + 1, s => runN one k (nxN s one)
theorem all256 {p : Nat → Bool} (h : (List.range 256).all p = true) (s : Nat) (hs : s < 256) : p s = true := List.all_eq_true.1 h s (List.mem_range.2 hs)
theorem nxN_lt (s : Nat) (hs : s < 256) (one : Bool) : nxN s one < 256 := by
  have h : (List.range 256).all (fun s => decide (nxN s true < 256 ∧ nxN s false < 256)) = true := by decide +kernel
  have := of_decide_eq_true (all256 h s hs)
  cases one
  · exact this.2
  · exact this.1
theorem chN_range (s : Nat) (hs : s < 256) : 1 ≤ chN s ∧ chN s ≤ 65535 := by
  have h : (List.range 256).all (fun s => decide (1 ≤ chN s ∧ chN s ≤ 65535)) = true := by decide +kernel
  exact of_decide_eq_true (all256 h s hs)
/-- A bit never makes its own kind less likely. -/
theorem chN_up (s : Nat) (hs : s < 256) : chN s ≤ chN (nxN s true) ∧ chN (nxN s false) ≤ chN s := by
  have h : (List.range 256).all (fun s => decide (chN s ≤ chN (nxN s true) ∧ chN (nxN s false) ≤ chN s)) = true := by decide +kernel
  exact of_decide_eq_true (all256 h s hs)
theorem runN_lt (one : Bool) : ∀ (k s : Nat), s < 256 → runN one k s < 256
  | 0, _, h => h
  | k + 1, s, h => runN_lt one k (nxN s one) (nxN_lt s h one)
theorem runN_succ (one : Bool) : ∀ (k s : Nat), runN one (k + 1) s = nxN (runN one k s) one
  | 0, _ => rfl
  | k + 1, s => by
    show runN one (k + 1) (nxN s one) = nxN (runN one k (nxN s one)) one
    exact runN_succ one k (nxN s one)
/-- Fifteen of a kind. -/
theorem run15 (s : Nat) (hs : s < 256) : (runN true 15 s % 16 = 15 ∧ runN true 15 s / 16 ≤ 2) ∧ (runN false 15 s / 16 = 15 ∧ runN false 15 s % 16 ≤ 2) := by
  have h : (List.range 256).all (fun s => decide ((runN true 15 s % 16 = 15 ∧ runN true 15 s / 16 ≤ 2) ∧ (runN false 15 s / 16 = 15 ∧ runN false 15 s % 16 ≤ 2))) = true := by decide +kernel
  exact of_decide_eq_true (all256 h s hs)
end Go.Proofs.YtkfdbibgjoaefaaDoor
