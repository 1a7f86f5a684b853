/-
  What a right tree is made of, as plain data; lists of trees.
-/
import Derived.Test.YtdachagkhjhggaaPur
import Derived.Test.YtdachagkhjhggaaQue
namespace Go.Proofs.Ytdachagkhjhggaa
open Go.RowKit
set_option linter.unusedVariables false
set_option linter.unusedSimpArgs false

/-- How deep. -/
def Tr.fd : Tr → Nat
  | .nil => 0
  | .st _ b e q => max (max b.fd e.fd + 1) q.fd
theorem dp_fd : ∀ (t : Tr) (L : Nat), t.dp L = min t.fd (L + 1)
  | .nil, L => by simp [Tr.dp, Tr.fd]
  | .st x b e q, 0 => by simp only [Tr.dp, Tr.fd]; omega
  | .st x b e q, L + 1 => by
    simp only [Tr.dp, Tr.fd, dp_fd b L, dp_fd e L, dp_fd q (L + 1)]
    omega
theorem cnt_sz : ∀ (t : Tr) (L : Nat), t.fd ≤ L → t.cnt L = t.sz
  | .nil, L, _ => rfl
  | .st x b e q, 0, h => by simp only [Tr.fd] at h; omega
  | .st x b e q, L + 1, h => by
    simp only [Tr.fd] at h
    simp only [Tr.cnt, Tr.sz, cnt_sz b L (by omega), cnt_sz e L (by omega), cnt_sz q (L + 1) (by omega)]
theorem right_iff (post : Bool) (t : Tr) : t.right post = true ↔ t.fd ≤ 20 ∧ t.sz ≤ 500 ∧ t.ok post = true := by
  unfold Tr.right
  simp only [Bool.and_eq_true, decide_eq_true_eq, dp_fd]
  constructor
  · rintro ⟨h1, h2, h3⟩
    have hf : t.fd ≤ 20 := by omega
    rw [cnt_sz t 20 hf] at h2
    exact ⟨hf, h2, h3⟩
  · rintro ⟨h1, h2, h3⟩
    rw [cnt_sz t 20 h1]
    exact ⟨by omega, h2, h3⟩
theorem plainI_up {o d s n : Int} {post : Bool} (h : plainI o d s n post = true) : plainI o d s n true = true := by
  unfold plainI plainOp at *
  rw [decide_eq_true_eq] at *
  refine ⟨h.1, ?_⟩
  rcases h.2 with h | h | h
  · exact .inl h
  · exact .inr (.inl h)
  · exact .inr (.inr ⟨h.1, rfl⟩)
theorem rgt_up {post : Bool} {x : Sd} {nb ne : Nat} (h : rgt post x nb ne = true) : rgt true x nb ne = true := by
  unfold rgt at *
  by_cases h1 : x.k = 1
  · rw [if_pos h1] at *
    simp only [Bool.and_eq_true] at *
    exact ⟨plainI_up h.1, h.2⟩
  · rw [if_neg h1] at *
    exact h
theorem ok_up {post : Bool} : ∀ {t : Tr}, t.ok post = true → t.ok true = true
  | .nil, _ => rfl
  | .st x b e q, h => by
    simp only [Tr.ok, Bool.and_eq_true] at *
    exact ⟨rgt_up h.1, ok_up h.2.1, ok_up h.2.2.1, ok_up h.2.2.2⟩
theorem right_up {post : Bool} {t : Tr} (h : t.right post = true) : t.right true = true := by
  rw [right_iff] at *
  exact ⟨h.1, h.2.1, ok_up h.2.2⟩
theorem right_st {post : Bool} {x : Sd} {b e q : Tr} (h : (Tr.st x b e q).right post = true) : b.right post = true ∧ e.right post = true ∧ q.right post = true ∧ rgt post x b.len e.len = true := by
  rw [right_iff] at *
  rw [right_iff, right_iff]
  simp only [Tr.fd, Tr.sz, Tr.ok, Bool.and_eq_true] at h
  exact ⟨⟨by omega, by omega, h.2.2.2.1⟩, ⟨by omega, by omega, h.2.2.2.2.1⟩, ⟨by omega, by omega, h.2.2.2.2.2⟩, h.2.2.1⟩
/-- A right plain statement. -/
theorem rgt_plain {post : Bool} {x : Sd} {nb ne : Nat} (h : rgt post x nb ne = true) (hk : x.k = 1) : rightE x.o x.d x.s x.n = 0 ∧ (x.o = 26 → post = true) := by
  unfold rgt at h
  rw [if_pos hk] at h
  simp only [Bool.and_eq_true] at h
  have hp := h.1
  unfold plainI plainOp at hp
  rw [decide_eq_true_eq] at hp
  refine ⟨if_pos hp.1, fun ho => ?_⟩
  rcases hp.2 with h | h | h
  · omega
  · omega
  · exact h.2
/-- Lists that wait: right ones, that came in. -/
def Lst (w : World) (post : Bool) : List Tr → List Value → Prop
  | [], [] => True
  | t :: Ts, v :: Vs => (∃ A n c, v = .slice A n c ∧ Sl w w.heap.size t A n c ∧ t.right post = true) ∧ Lst w post Ts Vs
  | _, _ => False
def sums : List Tr → Nat
  | [] => 0
  | t :: Ts => t.sz + sums Ts
theorem Lst.two {w : World} {post : Bool} {x y : Tr} {Ax Ay : Option Addr} {nx cx ny cy : Nat} (hx : Sl w w.heap.size x Ax nx cx) (hy : Sl w w.heap.size y Ay ny cy) (rx : x.right post = true) (ry : y.right post = true) : ∀ {Ts : List Tr} {Vs : List Value}, Lst w post Ts Vs →
    Lst w post (Ts ++ [x, y]) (Vs ++ [.slice Ax nx cx, .slice Ay ny cy])
  | [], [], _ => ⟨⟨_, _, _, rfl, hx, rx⟩, ⟨_, _, _, rfl, hy, ry⟩, trivial⟩
  | t :: Ts, v :: Vs, h => ⟨h.1, Lst.two hx hy rx ry h.2⟩
  | [], _ :: _, h => h.elim
  | _ :: _, [], h => h.elim
theorem sums_two (x y : Tr) : ∀ Ts : List Tr, sums (Ts ++ [x, y]) = sums Ts + x.sz + y.sz
  | [] => by simp [sums]
  | t :: Ts => by simp only [List.cons_append, sums, sums_two x y Ts]; omega
theorem Lst.cons {w : World} {post : Bool} {Ts : List Tr} {Vs : List Value} (h : Lst w post Ts Vs) (hn : 0 < Vs.length) : ∃ t Ts' Vs' A n c, Ts = t :: Ts' ∧ Vs = .slice A n c :: Vs' ∧ Sl w w.heap.size t A n c ∧ t.right post = true ∧ Lst w post Ts' Vs' := by
  cases Vs with
  | nil => simp at hn
  | cons v Vs =>
    cases Ts with
    | nil => exact h.elim
    | cons t Ts =>
      obtain ⟨⟨A, n, c, rfl, hs, hr⟩, h2⟩ := h
      exact ⟨t, Ts, Vs, A, n, c, rfl, rfl, hs, hr, h2⟩
theorem Lst.end {w : World} {post : Bool} {Ts : List Tr} {Vs : List Value} (h : Lst w post Ts Vs) (hn : Vs.length = 0) : Ts = [] := by
  cases Vs with
  | nil =>
    cases Ts with
    | nil => rfl
    | cons t Ts => exact h.elim
  | cons v Vs => simp at hn
def lenOf : Value → Nat
  | .slice _ n _ => n
  | _ => 0
end Go.Proofs.Ytdachagkhjhggaa
