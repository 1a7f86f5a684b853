/-
  What DigestCuts is told of its parts, and small laws of its walk.
-/
import Derived.Test.YtgdofhidjfeehaaAwake
import Derived.Test.YtgdofhidjfeehaaEq
namespace Go.Proofs.Ytgdofhidjfeehaa
open Go.RowKit

/-- A slice of slices of bytes below block B: the first 3000 bytes of each are Ls. -/
structure Parts (w : World) (B : Nat) (A : Option Addr) (n c : Nat) (Ls : List (List UInt8)) : Prop where
  len : Ls.length = n
  cap : n ≤ c
  max : c ≤ maxLen
  lies : ∀ i (h : i < Ls.length), ∃ ad Ai ni ci, A = some ad ∧ ad.block < B ∧ w.cell? (ad.add i) = some (.slice Ai ni ci) ∧ ni ≤ ci ∧ ci ≤ maxLen ∧ IsBB w B Ai (min ni 3000) ci Ls[i] ∧ (Ai = none → ni = 0 ∧ ci = 0)
theorem Parts.below {w w' : World} {B : Nat} {A : Option Addr} {n c : Nat} {Ls : List (List UInt8)} (h : Parts w B A n c Ls) (hb : Below B w w') : Parts w' B A n c Ls :=
  ⟨h.len, h.cap, h.max, fun i hi => by
    obtain ⟨ad, Ai, ni, ci, e, h1, h2, h3, h4, h5, h6⟩ := h.lies i hi
    exact ⟨ad, Ai, ni, ci, e, h1, (hb.cell (p := ad.add i) (by rw [block_of_add]; exact h1)).trans h2, h3, h4, h5.below hb, h6⟩⟩
/-- All bytes of the first k parts. -/
def joined (Ls : List (List UInt8)) (k : Nat) : List UInt8 := (Ls.take k).flatten
theorem joined_succ (Ls : List (List UInt8)) (k : Nat) (h : k < Ls.length) : joined Ls (k + 1) = joined Ls k ++ Ls[k] := by
  unfold joined
  rw [List.take_succ_eq_append_getElem h, List.flatten_append, List.flatten_cons, List.flatten_nil, List.append_nil]
theorem cut_slice (A : Option Addr) (n c m : Nat) (hm : m ≤ n) (hn : n ≤ c) (w : World) : (Instr.slice 25 (.slice A n c) none (some (.int .i64 (m : Nat))) none).run Try.prog w = .ok (.slice A m c) w := by
  have hs : (sizeOf (Try.prog.elem 25)).run Try.prog w = .ok 1 w := by kernel_rfl
  rw [run_slice_h (ht := by kernel_rfl) (h0 := by omega) (h2 := by omega), hs]
  simp [Result.andThen, sliced]
  intro _
  cases A <;> simp [Addr.add]
theorem flip_lt (x : Nat) (h : x < 256) : x ^^^ 255 < 256 := Nat.xor_lt_two_pow (n := 8) h (by omega)
theorem flip_eq (x : Nat) (h : x < 256) : bits BinOp.xor IntKind.u8 (x : Int) 255 = ((x ^^^ 255 : Nat) : Int) := u8_xor_nat x 255 h (by omega)
/-- m cells of block g are bytes. -/
def Bytes (w : World) (g m : Nat) : Prop := ∃ cur : Array Value, w.heap[g]? = some (.cells cur 5 (0, 0)) ∧ m ≤ cur.size ∧ ∀ j, j < m → ∃ y : Nat, y < 256 ∧ cur[j]? = some (.int .u8 (y : Nat))
theorem Bytes.at {w : World} {g m : Nat} (h : Bytes w g m) (j : Nat) (hj : j < m) : ∃ y : Nat, y < 256 ∧ w.cell? ⟨g, j, none⟩ = some (.int .u8 (y : Nat)) ∧ w.frozen? ⟨g, j, none⟩ = false := by
  obtain ⟨cur, h1, h2, h3⟩ := h
  obtain ⟨y, hy, hc⟩ := h3 j hj
  exact ⟨y, hy, by rw [row_cell h1, hc], row_free h1 j⟩
theorem Bytes.set {w : World} {g m : Nat} (h : Bytes w g m) (j y : Nat) (hj : j < m) (hy : y < 256) : Bytes (w.setCell ⟨g, j, none⟩ (.int .u8 (y : Nat))) g m := by
  obtain ⟨cur, h1, h2, h3⟩ := h
  refine ⟨_, row_set h1 j _, by simpa using h2, fun i hi => ?_⟩
  by_cases e : i = j
  · subst e
    exact ⟨y, hy, by simp [show i < cur.size by omega]⟩
  · obtain ⟨z, hz, hc⟩ := h3 i hi
    exact ⟨z, hz, by rw [Array.getElem?_setIfInBounds_ne (by omega)]; exact hc⟩
theorem bytes_of_own {w : World} {base g n c : Nat} {l : List UInt8} (h : w.ownsRow base 5 1 (.slice (some ⟨g, 0, none⟩) n c) n (l.map bv)) : Bytes w g n ∧ base ≤ g ∧ g < w.heap.size := by
  have hl : l.length = n := by simpa using h.1
  rcases h.2 with ⟨h1, _⟩ | ⟨g', cap, cur, hv, hg, hh, hn, hm, hs, ht⟩
  · cases h1
  · cases hv
    refine ⟨⟨cur, hh, by omega, fun j hj => ?_⟩, hg, lt_of_block hh⟩
    refine ⟨(l[j]'(by omega)).toNat, UInt8.toNat_lt _, ?_⟩
    have e : cur.toList.take n = l.map bv := by simpa using ht
    have e2 : (cur.toList.take n)[j]? = (l.map bv)[j]? := by rw [e]
    rw [map_bv_getElem? l j (by omega), List.getElem?_take, if_pos hj] at e2
    simpa using e2
theorem own_grown {w w' : World} {base n : Nat} {v : Value} {xs : List Value} {row : Option Nat} (h : w.ownsRow base 5 1 v n xs) (hg : w.grownBy w' row) (hne : ∀ k, v.ownBlock = some k → row ≠ some k) : w'.ownsRow base 5 1 v n xs := by
  refine h.kept hg ?_
  cases hv : v.ownBlock with
  | none => exact .inl rfl
  | some k => exact .inr (by intro e; exact hne k hv e.symm)
/-- A row of bytes is no digest. -/
theorem own_not_dig {w : World} {base n g : Nat} {v : Value} {xs : List Value} {l : List UInt8} (h : w.ownsRow base 5 1 v n xs) (d : Dig w g l) : ∀ k, v.ownBlock = some k → k ≠ g := by
  intro k hk e
  subst e
  obtain ⟨b, hD, _⟩ := d
  rcases h.2 with ⟨h1, _⟩ | ⟨g', cap, cur, hv, hg, hh, _⟩
  · subst h1; cases hk
  · subst hv
    have : g' = k := by simpa [Value.ownBlock] using hk
    subst this
    have := hD.2
    rw [hh] at this
    cases this
theorem rest_own {w : World} {B g m c : Nat} {A : Option Addr} {x : List UInt8} (h : w.ownsRow B 5 1 (.slice A m c) m (x.map bv)) (hi : IsBB w w.heap.size A m c x) (hg : g < B) : Rest w g w.heap.size A m c x :=
  ⟨hi.toIsB, fun hp ad e => by
    have hm : 0 < m := by rw [← hi.len]; exact hp
    obtain ⟨gi, ci, e2⟩ := own_nil h hm
    cases e2
    cases e
    obtain ⟨_, h1, h2⟩ := bytes_of_own h
    exact ⟨by show gi ≠ g; omega, h2⟩⟩
theorem own_block {w : World} {B m c : Nat} {A : Option Addr} {x : List UInt8} (h : w.ownsRow B 5 1 (.slice A m c) m (x.map bv)) : ∃ gi, B ≤ gi ∧ (0 < m → A = some ⟨gi, 0, none⟩ ∧ Bytes w gi m) := by
  rcases Nat.eq_zero_or_pos m with h0 | h0
  · exact ⟨B, Nat.le_refl _, fun hp => by omega⟩
  · obtain ⟨gi, ci, e⟩ := own_nil h h0
    cases e
    obtain ⟨h1, h2, _⟩ := bytes_of_own h
    exact ⟨gi, h2, fun _ => ⟨rfl, h1⟩⟩
theorem Bytes.grown {w w' : World} {g m : Nat} {row : Option Nat} (h : Bytes w g m) (hg : w.grownBy w' row) (hne : some g ≠ row) : Bytes w' g m := by
  obtain ⟨cur, h1, h2, h3⟩ := h
  exact ⟨cur, (hg.block g (lt_of_block h1) hne).trans h1, h2, h3⟩
theorem own_lt {w : World} {base n : Nat} {v : Value} {xs : List Value} (h : w.ownsRow base 5 1 v n xs) (B : Nat) (hB : w.heap.size ≤ B) : ∀ k, v.ownBlock = some k → some B ≠ some k := by
  intro k hk e
  have := (h.lt k hk).2
  cases e
  omega
theorem below_grown {w a b : World} {row : Option Nat} (h : Below w.heap.size w a) (hg : a.grownBy b row) (hr : ∀ k, row = some k → w.heap.size ≤ k) : Below w.heap.size w b := h.grown hg h.size hr
end Go.Proofs.Ytgdofhidjfeehaa
