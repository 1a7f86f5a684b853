/-
  Merged: Rga Rgh Rgi Rgj Rgr Rgq.
-/
import Derived.Test.YtnanmdfbgoahjaaMdg
import Derived.Test.YtnanmdfbgoahjaaGtw
import Derived.Test.YtnanmdfbgoahjaaHsr
import Derived.Test.YtnanmdfbgoahjaaRrf
/-
  The document's Get: its fields and numbers as plain data.
-/
set_option linter.unusedVariables false
set_option linter.unusedSimpArgs false
namespace Go.Proofs.Ytnanmdfbgoahjaa

/-- Has the field k two bytes? -/
def kb (k : Nat) : Bool := k == 3 || k == 5
def kn (k : Nat) : Nat := if kb k then 2 else 1
/-- The state behind the first j fields of a kind. -/
def sF (l : List UInt8) (kd : Nat) : Nat → St → St
  | 0, s => s
  | j + 1, s => fS l (kb j) (hasK kd j) (sF l kd j s)
def vF (l : List UInt8) (kd : Nat) (s : St) (j : Nat) : Nat := fV l (kb j) (hasK kd j) (sF l kd j s)
theorem sF_6 (l : List UInt8) (kd : Nat) (s : St) : sF l kd 6 s = sx6 l kd s := rfl
theorem fS_no {l : List UInt8} {two : Bool} {s : St} : fS l two false s = s := rfl
theorem fS_yes {l : List UInt8} {k : Nat} {s : St} : fS l (kb k) true s = takeS l (kn k) s := by unfold fS kn; cases kb k <;> rfl
theorem fV_yes {l : List UInt8} {k : Nat} {s : St} : fV l (kb k) true s = numV l (kn k) s := by unfold fV kn; cases kb k <;> rfl
theorem sF_stay {l : List UInt8} {kd : Nat} {s : St} : ∀ j i, (sF l kd j s).e ≠ 0 → sF l kd (j + i) s = sF l kd j s
  | _, 0, _ => rfl
  | j, i + 1, h => by
    have e := sF_stay j i h
    show fS l (kb (j + i)) (hasK kd (j + i)) (sF l kd (j + i) s) = _
    rw [e]
    exact fS_stay h
theorem sF_range {l : List UInt8} {kd : Nat} {s : St} (h : s.at_ ≤ l.length) : ∀ j, (sF l kd j s).at_ ≤ l.length
  | 0 => h
  | j + 1 => fS_range (sF_range h j)
theorem numL_snoc : ∀ (a : List UInt8) (n : Nat) (x : UInt8), numL n (a ++ [x]) = numL n a * 256 + x.toNat
  | [], n, x => rfl
  | y :: a, n, x => numL_snoc a (n * 256 + y.toNat) x
/-- The first j bytes from a place on, as a number. -/
def numJ (l : List UInt8) (at_ j : Nat) : Nat := numL 0 ((l.drop at_).take j)
theorem numJ_succ (l : List UInt8) (at_ j : Nat) (h : at_ + j < l.length) : numJ l at_ (j + 1) = numJ l at_ j * 256 + l[at_ + j].toNat := by
  unfold numJ
  have e : (l.drop at_).take (j + 1) = (l.drop at_).take j ++ [l[at_ + j]] := by
    rw [List.take_succ_eq_append_getElem (by rw [List.length_drop]; omega), List.getElem_drop]
  rw [e, numL_snoc]
theorem numV_J {l : List UInt8} {k : Nat} {s : St} (h : s.e = 0) (hs : ¬ short l k s) : numV l k s = numJ l s.at_ k := by unfold numV numJ; rw [takeL_yes h hs]
/-- What ends Get early. -/
theorem get_err (l : List UInt8) (e : Int) (he : e ≠ 0) (h : (g8 l).e = e) : getM l = .error e := by
  rcases get_is l with ⟨e', _, h1, h2⟩ | ⟨_, h1, h2, _⟩
  · have : (g9 l).e = e := by
      unfold g9
      split
      · exact h
      · unfold failS; rw [if_neg (by rw [h]; exact he)]; exact h
    rw [h1, ← h2, this]
  · rw [h2, h] at h1
    exact absurd h1 he
theorem g8_of7 {l : List UInt8} {e : Int} (he : e ≠ 0) (h : (g7 l).e = e) : (g8 l).e = e := by unfold g8; rw [bytS_stay (by rw [h]; exact he)]; exact h
theorem g8_of6 {l : List UInt8} {e : Int} (he : e ≠ 0) (h : (g6 l).e = e) : (g8 l).e = e := g8_of7 he (by unfold g7; rw [bytS_stay (by rw [h]; exact he)]; exact h)
theorem g8_of5 {l : List UInt8} {e : Int} (he : e ≠ 0) (h : (g5 l).e = e) : (g8 l).e = e := g8_of6 he (by unfold g6; rw [prtsS_stay l _ _ (by rw [h]; exact he)]; exact h)
/-- Fewer than five bytes. -/
theorem g5_short (l : List UInt8) (h : l.length < 5) : (g5 l).e = 12 := by
  have st : ∀ s : St, (s.e = 0 ∧ l.length < s.at_ + 1 ∨ s.e = 12) → (takeS l 1 s).e = 12 := by
    intro s hs
    rcases hs with ⟨h1, h2⟩ | h1
    · rw [takeS_no h1 h2]
    · rw [takeS_stay (by rw [h1]; decide)]; exact h1
  have go : ∀ s : St, s.e = 0 → ¬ l.length < s.at_ + 1 → takeS l 1 s = ⟨s.at_ + 1, 0⟩ := fun s h1 h2 => takeS_yes h1 h2
  rcases (show l.length = 0 ∨ l.length = 1 ∨ l.length = 2 ∨ l.length = 3 ∨ l.length = 4 by omega) with e | e | e | e | e
  · exact st _ (.inr (st _ (.inr (st _ (.inr (st _ (.inr (st _ (.inl ⟨rfl, by rw [e]; decide⟩)))))))))
  · have q1 : g1 l = ⟨1, 0⟩ := go ⟨0, 0⟩ rfl (by rw [e]; decide)
    exact st _ (.inr (st _ (.inr (st _ (.inr (st _ (.inl ⟨by rw [q1], by rw [q1, e]; decide⟩)))))))
  · have q1 : g1 l = ⟨1, 0⟩ := go ⟨0, 0⟩ rfl (by rw [e]; decide)
    have q2 : g2 l = ⟨2, 0⟩ := by unfold g2; rw [q1]; exact go ⟨1, 0⟩ rfl (by rw [e]; decide)
    exact st _ (.inr (st _ (.inr (st _ (.inl ⟨by rw [q2], by rw [q2, e]; decide⟩)))))
  · have q1 : g1 l = ⟨1, 0⟩ := go ⟨0, 0⟩ rfl (by rw [e]; decide)
    have q2 : g2 l = ⟨2, 0⟩ := by unfold g2; rw [q1]; exact go ⟨1, 0⟩ rfl (by rw [e]; decide)
    have q3 : g3 l = ⟨3, 0⟩ := by unfold g3; rw [q2]; exact go ⟨2, 0⟩ rfl (by rw [e]; decide)
    exact st _ (.inr (st _ (.inl ⟨by rw [q3], by rw [q3, e]; decide⟩)))
  · have q1 : g1 l = ⟨1, 0⟩ := go ⟨0, 0⟩ rfl (by rw [e]; decide)
    have q2 : g2 l = ⟨2, 0⟩ := by unfold g2; rw [q1]; exact go ⟨1, 0⟩ rfl (by rw [e]; decide)
    have q3 : g3 l = ⟨3, 0⟩ := by unfold g3; rw [q2]; exact go ⟨2, 0⟩ rfl (by rw [e]; decide)
    have q4 : g4 l = ⟨4, 0⟩ := by unfold g4; rw [q3]; exact go ⟨3, 0⟩ rfl (by rw [e]; decide)
    exact st _ (.inl ⟨by rw [q4], by rw [q4, e]; decide⟩)
/-- Five bytes: the four numbers, and how many parts. -/
theorem g5_five (l : List UInt8) (h : 5 ≤ l.length) : g5 l = ⟨5, 0⟩ ∧ gn l = (l[4]).toNat ∧ numV l 1 ⟨0, 0⟩ = (l[0]).toNat ∧ numV l 1 (g1 l) = (l[1]).toNat ∧ numV l 1 (g2 l) = (l[2]).toNat ∧ numV l 1 (g3 l) = (l[3]).toNat := by
  have go : ∀ (k : Nat), k < 5 → takeS l 1 ⟨k, 0⟩ = ⟨k + 1, 0⟩ := fun k hk => takeS_yes rfl (by unfold short; show ¬ l.length < k + 1; omega)
  have nv : ∀ (k : Nat) (hk : k < 5), numV l 1 ⟨k, 0⟩ = (l[k]'(by omega)).toNat := fun k hk => by
    rw [numV_J rfl (by unfold short; show ¬ l.length < k + 1; omega)]
    have := numJ_succ l k 0 (by omega)
    rw [this]
    show numL 0 ((l.drop k).take 0) * 256 + _ = _
    rw [List.take_zero]
    show 0 * 256 + _ = _
    simp
  have q1 : g1 l = ⟨1, 0⟩ := go 0 (by omega)
  have q2 : g2 l = ⟨2, 0⟩ := by unfold g2; rw [q1]; exact go 1 (by omega)
  have q3 : g3 l = ⟨3, 0⟩ := by unfold g3; rw [q2]; exact go 2 (by omega)
  have q4 : g4 l = ⟨4, 0⟩ := by unfold g4; rw [q3]; exact go 3 (by omega)
  have q5 : g5 l = ⟨5, 0⟩ := by unfold g5; rw [q4]; exact go 4 (by omega)
  exact ⟨q5, by unfold gn; rw [q4]; exact nv 4 (by omega), nv 0 (by omega), by rw [q1]; exact nv 1 (by omega), by rw [q2]; exact nv 2 (by omega), by rw [q3]; exact nv 3 (by omega)⟩
end Go.Proofs.Ytnanmdfbgoahjaa
/-
  The document's Get: parts and errors as plain data; what stands in memory.
-/
namespace Go.Proofs.Ytnanmdfbgoahjaa
open Go.RowKit

theorem one_num {l : List UInt8} {s : St} (h : s.e = 0) (hs : s.at_ < l.length) : takeS l 1 s = ⟨s.at_ + 1, 0⟩ ∧ numV l 1 s = l[s.at_].toNat := by
  have hn : ¬ short l 1 s := by unfold short; omega
  refine ⟨takeS_yes h hn, ?_⟩
  rw [numV_J h hn, numJ_succ l s.at_ 0 (by omega)]
  unfold numJ
  rw [List.take_zero]
  show 0 * 256 + _ = _
  simp
theorem prtF_short {l : List UInt8} {s : St} (h : s.e = 0) (hs : l.length ≤ s.at_) : (prtF l s).e = 12 := by
  have hn : short l 1 s := by unfold short; omega
  have e1 := takeS_no h hn
  have e0 : numV l 1 s = 0 := by unfold numV; rw [takeL_no h hn]; rfl
  unfold prtF prtOk prtS
  rw [e0, e1]
  rfl
theorem prtF_kind {l : List UInt8} {s : St} (h : s.e = 0) (hs : s.at_ < l.length) (hk : ¬ (1 ≤ l[s.at_].toNat ∧ l[s.at_].toNat ≤ 9)) : (prtF l s).e = 131 := by
  obtain ⟨e1, e0⟩ := one_num h hs
  have hf : fldL l[s.at_].toNat = [] := by
    unfold fldL
    rw [if_neg (by omega), if_neg (by omega), if_neg (by omega), if_neg (by omega), if_neg (by omega), if_neg (by omega), if_neg (by omega)]
  unfold prtF prtOk prtS
  rw [e0, e1, hf]
  have : decide (1 ≤ l[s.at_].toNat ∧ l[s.at_].toNat ≤ 9) = false := decide_eq_false hk
  rw [if_neg (by simpa using hk)]
  rfl
theorem prtF_ok {l : List UInt8} {s : St} (h : s.e = 0) (hs : s.at_ < l.length) (hk : 1 ≤ l[s.at_].toNat ∧ l[s.at_].toNat ≤ 9) : prtF l s = sF l l[s.at_].toNat 6 ⟨s.at_ + 1, 0⟩ ∧ (prtS l s).2 = ptOf (l[s.at_].toNat, six l l[s.at_].toNat ⟨s.at_ + 1, 0⟩) := by
  obtain ⟨e1, e0⟩ := one_num h hs
  have hf := fld_six l l[s.at_].toNat hk ⟨s.at_ + 1, 0⟩
  unfold prtF prtOk prtS
  rw [e0, e1, hf, if_pos (decide_eq_true hk)]
  exact ⟨rfl, rfl⟩
theorem prts_err {l : List UInt8} {s : St} {k : Nat} {e : Int} (h : s.e = 0) (he : e ≠ 0) (hF : (prtF l s).e = e) : (prtsS l (k + 1) s).1.e = e := by
  unfold prtsS
  rw [if_neg (not_not_intro h)]
  show (prtsS l k (prtF l s)).1.e = e
  rw [prtsS_stay l k _ (by rw [hF]; exact he)]
  exact hF
theorem prts_next {l : List UInt8} {s : St} {k : Nat} (h : s.e = 0) : prtsS l (k + 1) s = ((prtsS l k (prtF l s)).1, (prtS l s).2 :: (prtsS l k (prtF l s)).2) := by
  rw [prtsS, if_neg (not_not_intro h)]
/-- Where the loop over the parts stands. -/
structure RgL (l : List UInt8) (N i : Nat) (s : St) (Ld : List Pt) : Prop where
  e0 : s.e = 0
  le : s.at_ ≤ l.length
  len : Ld.length = i
  iN : i ≤ N
  eq : prtsS l N (g5 l) = ((prtsS l (N - i) s).1, Ld ++ (prtsS l (N - i) s).2)
theorem RgL.err {l : List UInt8} {N i : Nat} {s : St} {Ld : List Pt} (h : RgL l N i s Ld) (hi : i < N) (hn : gn l = N) {e : Int} (he : e ≠ 0) (hF : (prtF l s).e = e) : getM l = .error e := by
  refine get_err l e he (g8_of6 he ?_)
  unfold g6
  rw [hn, h.eq]
  show (prtsS l (N - i) s).1.e = e
  obtain ⟨k, hk⟩ : ∃ k, N - i = k + 1 := ⟨N - i - 1, by omega⟩
  rw [hk]
  exact prts_err h.e0 he hF
theorem RgL.next {l : List UInt8} {N i : Nat} {s : St} {Ld : List Pt} (h : RgL l N i s Ld) (hi : i < N) (h0 : (prtF l s).e = 0) : RgL l N (i + 1) (prtF l s) (Ld ++ [(prtS l s).2]) := by
  obtain ⟨k, hk⟩ : ∃ k, N - i = k + 1 := ⟨N - i - 1, by omega⟩
  have hk2 : N - (i + 1) = k := by omega
  refine ⟨h0, prtS_range h.le, by rw [List.length_append, h.len]; rfl, hi, ?_⟩
  rw [h.eq, hk, hk2, prts_next h.e0]
  simp
theorem own_any {w w' : World} {base e s n : Nat} {v : Value} {xs : List Value} (h : w.ownsRow base e s v n xs) (hb : ∀ (g : Nat) (o : Obj), w.heap[g]? = some o → w'.heap[g]? = w.heap[g]?) : w'.ownsRow base e s v n xs := by
  obtain ⟨q1, q2⟩ := h
  refine ⟨q1, ?_⟩
  rcases q2 with q2 | ⟨g, cap, cur, rfl, hg, hh, r⟩
  · exact .inl q2
  · exact .inr ⟨g, cap, cur, rfl, hg, (hb g _ hh).trans hh, r⟩
/-- What stands in memory. -/
structure RgS (w0 W : World) (xr xm : Nat) (ad : Addr) (n c : Nat) (l : List UInt8) (cs : Array Value) (F : Value) (Ld : List Pt) : Prop where
  by_ : IsBB W w0.heap.size (some ad) n c l
  rr : W.heap[xr]? = some (.cells zero7 25 (0, 0))
  rm : W.heap[xm]? = some (.cells cs 25 (0, 0))
  ne : xm ≠ xr
  lr : w0.heap.size ≤ xr
  lm : w0.heap.size ≤ xm
  pts : W.ownsRow w0.heap.size 41 7 F Ld.length (Ld.flatMap cellsP)
  bel : Below w0.heap.size w0 W
section
variable {w0 W W' : World} {xr xm : Nat} {ad : Addr} {n c : Nat} {l : List UInt8} {cs : Array Value} {F : Value} {Ld : List Pt}
theorem RgS.later (h : RgS w0 W xr xm ad n c l cs F Ld) (b : Below W.heap.size W W') : RgS w0 W' xr xm ad n c l cs F Ld :=
  ⟨h.by_.below (b.mono h.bel.size), (b.block _ (lt_of_heap h.rr)).trans h.rr, (b.block _ (lt_of_heap h.rm)).trans h.rm, h.ne, h.lr, h.lm, own_any h.pts fun _ _ hg => b.block _ (lt_of_heap hg), h.bel.trans (b.mono h.bel.size)⟩
/-- Blocks of no type of Get's, from K on, turned. -/
theorem RgS.other (h : RgS w0 W xr xm ad n c l cs F Ld) {X : Nat → Prop} (hs : W.heap.size ≤ W'.heap.size) (hb : ∀ k, k < W.heap.size → ¬ X k → W'.heap[k]? = W.heap[k]?) (ho : W'.os = W.os ∧ W'.tape = W.tape ∧ W'.output = W.output)
    (hX : ∀ k, X k → w0.heap.size ≤ k) (hr : ¬ X xr) (hm : ¬ X xm) (hp : ∀ g, F.ownBlock = some g → ¬ X g) : RgS w0 W' xr xm ad n c l cs F Ld := by
  have bw : Below w0.heap.size w0 W' := ⟨ho.1.trans h.bel.os, ho.2.1.trans h.bel.tape, ho.2.2.trans h.bel.output, Nat.le_trans h.bel.size hs, fun k hk => (hb k (Nat.lt_of_lt_of_le hk h.bel.size) (fun hx => Nat.lt_irrefl _ (Nat.lt_of_lt_of_le hk (hX k hx)))).trans (h.bel.block k hk)⟩
  have bw2 : Below w0.heap.size W W' := ⟨ho.1, ho.2.1, ho.2.2, hs, fun k hk => hb k (Nat.lt_of_lt_of_le hk h.bel.size) (fun hx => Nat.lt_irrefl _ (Nat.lt_of_lt_of_le hk (hX k hx)))⟩
  refine ⟨h.by_.below bw2, (hb _ (lt_of_heap h.rr) hr).trans h.rr, (hb _ (lt_of_heap h.rm) hm).trans h.rm, h.ne, h.lr, h.lm, ?_, bw⟩
  obtain ⟨q1, q2⟩ := h.pts
  refine ⟨q1, ?_⟩
  rcases q2 with q2 | ⟨g, cap, cur, rfl, hg, hh, r⟩
  · exact .inl q2
  · exact .inr ⟨g, cap, cur, rfl, hg, (hb g (lt_of_heap hh) (hp g rfl)).trans hh, r⟩
end
end Go.Proofs.Ytnanmdfbgoahjaa
/-
  The document's Get: a part under way, in memory.
-/
namespace Go.Proofs.Ytnanmdfbgoahjaa
open Go.RowKit

theorem rgS_start {w : World} {ad : Addr} {n c : Nat} {l : List UInt8} {cs : Array Value} (h : IsBB w w.heap.size (some ad) n c l) :
    RgS w (((w.alloc (.cells zero7 25)).alloc (.cells cs 25)).drew) w.heap.size (w.heap.size + 1) ad n c l cs (.slice none 0 0) [] := by
  have b : Below w.heap.size w (((w.alloc (.cells zero7 25)).alloc (.cells cs 25)).drew) := (((Below.refl _ w).alloc (Nat.le_refl _) _).alloc (by simp) _).drew
  refine ⟨h.below b, ?_, ?_, by omega, Nat.le_refl _, by omega, World.ownsRow_nil _ _ _ _, b⟩
  · show ((w.alloc _).alloc _).heap[w.heap.size]? = _
    rw [heap_alloc_old _ _ (by simp)]
    exact heap_alloc_new w _
  · show ((w.alloc _).alloc _).heap[w.heap.size + 1]? = _
    have e := heap_alloc_new (w.alloc (.cells zero7 25)) (.cells cs 25)
    rwa [show (w.alloc (.cells zero7 25)).heap.size = w.heap.size + 1 by simp] at e
section
variable {w0 W : World} {xr xm : Nat} {ad : Addr} {n c : Nat} {l : List UInt8} {cs : Array Value} {F : Value} {Ld : List Pt}
theorem RgS.byte (h : RgS w0 W xr xm ad n c l cs F Ld) (i : Nat) (hi : i < l.length) : W.cell? (ad.add i) = some (.int .u8 (l[i].toNat : Nat)) := by
  obtain ⟨a, e, hc⟩ := h.by_.lies (by have := h.by_.len; omega)
  injection e with e
  subst e
  exact hc i hi
theorem RgS.four (h : RgS w0 W xr xm ad n c l cs F Ld) (hi : 4 < l.length) : W.cell? ⟨ad.block, ad.off + 4, none⟩ = some (.int .u8 (l[4].toNat : Nat)) := by
  have := h.byte 4 hi
  simpa [Addr.add] using this
theorem RgS.zeros (h : RgS w0 W xr xm ad n c l cs F Ld) : (W.cell? ⟨xr, 0, none⟩ = some (.int .i64 0) ∧ W.cell? ⟨xr, 1, none⟩ = some (.int .i64 0) ∧ W.cell? ⟨xr, 2, none⟩ = some (.int .i64 0) ∧ W.cell? ⟨xr, 3, none⟩ = some (.int .i64 0) ∧ W.cell? ⟨xr, 4, none⟩ = some (.slice none 0 0) ∧ W.cell? ⟨xr, 5, none⟩ = some (.slice none 0 0) ∧ W.cell? ⟨xr, 6, none⟩ = some (.slice none 0 0)) ∧
    (W.frozen? ⟨xr, 0, none⟩ = false ∧ W.frozen? ⟨xr, 1, none⟩ = false ∧ W.frozen? ⟨xr, 2, none⟩ = false ∧ W.frozen? ⟨xr, 3, none⟩ = false ∧ W.frozen? ⟨xr, 4, none⟩ = false ∧ W.frozen? ⟨xr, 5, none⟩ = false ∧ W.frozen? ⟨xr, 6, none⟩ = false) :=
  ⟨⟨row_cell h.rr 0, row_cell h.rr 1, row_cell h.rr 2, row_cell h.rr 3, row_cell h.rr 4, row_cell h.rr 5, row_cell h.rr 6⟩, row_free h.rr 0, row_free h.rr 1, row_free h.rr 2, row_free h.rr 3, row_free h.rr 4, row_free h.rr 5, row_free h.rr 6⟩
theorem RgS.end_ (h : RgS w0 W xr xm ad n c l cs F Ld) : (((((((W.setCell ⟨xr, 0, none⟩ (.int .i64 0)).setCell ⟨xr, 1, none⟩ (.int .i64 0)).setCell ⟨xr, 2, none⟩ (.int .i64 0)).setCell ⟨xr, 3, none⟩ (.int .i64 0)).setCell ⟨xr, 4, none⟩ (.slice none 0 0)).setCell ⟨xr, 5, none⟩ (.slice none 0 0)).setCell ⟨xr, 6, none⟩ (.slice none 0 0)).heap[xr]? = some (.cells zero7 25 (0, 0)) ∧ Below w0.heap.size w0 (((((((W.setCell ⟨xr, 0, none⟩ (.int .i64 0)).setCell ⟨xr, 1, none⟩ (.int .i64 0)).setCell ⟨xr, 2, none⟩ (.int .i64 0)).setCell ⟨xr, 3, none⟩ (.int .i64 0)).setCell ⟨xr, 4, none⟩ (.slice none 0 0)).setCell ⟨xr, 5, none⟩ (.slice none 0 0)).setCell ⟨xr, 6, none⟩ (.slice none 0 0)) := by
  have E := row_set7 _ _ _ _ _ _ _ (.int .i64 0) (.int .i64 0) (.int .i64 0) (.int .i64 0) (.slice none 0 0) (.slice none 0 0) (.slice none 0 0) h.rr
  exact ⟨E.1, E.2 _ _ h.lr h.bel⟩
/-- With a part under way (xp), its kind's fields (xh) and its values (xv). -/
structure RgK (w0 W : World) (xr xm : Nat) (ad : Addr) (n c : Nat) (l : List UInt8) (cs : Array Value) (F : Value) (Ld : List Pt) (xp xh xv kd : Nat) (pc vals : Array Value) : Prop where
  s : RgS w0 W xr xm ad n c l cs F Ld
  rp : W.heap[xp]? = some (.cells pc 41 (0, 0))
  rh : W.heap[xh]? = some (.cells (hasC kd) 52 (0, 0))
  rv : W.heap[xv]? = some (.cells vals 61 (0, 0))
  fp : ∀ g, F.ownBlock = some g → g ≠ xp
  lp : w0.heap.size ≤ xp
  lh : w0.heap.size ≤ xh
  lv : w0.heap.size ≤ xv
variable {xp xh xv kd : Nat} {pc vals : Array Value}
theorem type_ne {w : World} {g k : Nat} {t t' : TypeId} {c c' : Array Value} {f f' : Nat × Nat} (h : w.heap[g]? = some (.cells c t f)) (h' : w.heap[k]? = some (.cells c' t' f')) (ht : t ≠ t') : g ≠ k := by
  rintro rfl
  rw [h] at h'
  injection h' with h'
  injection h' with _ h2
  exact ht h2
theorem own41_ne {W : World} {base s n k : Nat} {v : Value} {xs : List Value} {t : TypeId} {cs : Array Value} (h : W.ownsRow base 41 s v n xs) (hk : W.heap[k]? = some (.cells cs t (0, 0))) (ht : t ≠ 41) : ∀ g, v.ownBlock = some g → g ≠ k := by
  intro g hg
  obtain ⟨q1, q2⟩ := h
  rcases q2 with q2 | ⟨g', cap, cur, rfl, hg', hh, r⟩
  · obtain ⟨e, _⟩ := q2
    subst e
    cases hg
  · injection hg with hg
    subst hg
    exact type_ne hh hk (fun e => ht e.symm)
theorem RgK.setv (h : RgK w0 W xr xm ad n c l cs F Ld xp xh xv kd pc vals) (i : Nat) (u : Value) : RgK w0 (W.setCell ⟨xv, i, none⟩ u) xr xm ad n c l cs F Ld xp xh xv kd pc (vals.setIfInBounds i u) := by
  have n1 := type_ne h.s.rr h.rv (by decide)
  have n2 := type_ne h.s.rm h.rv (by decide)
  have n3 := type_ne h.rp h.rv (by decide)
  have n4 := type_ne h.rh h.rv (by decide)
  have n5 := own41_ne h.s.pts h.rv (by decide)
  refine ⟨h.s.other (X := (· = xv)) (by rw [World.size_setCell]; exact Nat.le_refl _) (fun k _ hk => set_block hk) ⟨rfl, rfl, rfl⟩ (fun k hk => by rw [hk]; exact h.lv) n1 n2 n5, (set_block n3).trans h.rp, (set_block n4).trans h.rh, row_set h.rv i u, h.fp, h.lp, h.lh, h.lv⟩
theorem RgK.setp (h : RgK w0 W xr xm ad n c l cs F Ld xp xh xv kd pc vals) (i : Nat) (u : Value) : RgK w0 (W.setCell ⟨xp, i, none⟩ u) xr xm ad n c l cs F Ld xp xh xv kd (pc.setIfInBounds i u) vals := by
  have n1 := type_ne h.s.rr h.rp (by decide)
  have n2 := type_ne h.s.rm h.rp (by decide)
  have n3 := type_ne h.rv h.rp (by decide)
  have n4 := type_ne h.rh h.rp (by decide)
  refine ⟨h.s.other (X := (· = xp)) (by rw [World.size_setCell]; exact Nat.le_refl _) (fun k _ hk => set_block hk) ⟨rfl, rfl, rfl⟩ (fun k hk => by rw [hk]; exact h.lp) n1 n2 h.fp, row_set h.rp i u, (set_block n4).trans h.rh, (set_block n3).trans h.rv, h.fp, h.lp, h.lh, h.lv⟩
theorem RgK.drew (h : RgK w0 W xr xm ad n c l cs F Ld xp xh xv kd pc vals) : RgK w0 W.drew xr xm ad n c l cs F Ld xp xh xv kd pc vals :=
  ⟨h.s.other (X := fun _ => False) (Nat.le_refl _) (fun _ _ _ => rfl) ⟨rfl, rfl, rfl⟩ (fun _ h => h.elim) id id (fun _ _ => id), h.rp, h.rh, h.rv, h.fp, h.lp, h.lh, h.lv⟩
theorem rgS_start1 (h : RgS w0 W xr xm ad n c l cs F Ld) {W2 : World} (b : Below (W.heap.size + 1) (W.alloc (.cells pc 41)) W2) (o : Obj) : RgS w0 (W2.alloc o) xr xm ad n c l cs F Ld :=
  have b1 : Below W.heap.size W W2 := ((Below.refl _ W).alloc (Nat.le_refl _) _).trans (b.mono (Nat.le_succ _))
  h.later (b1.trans (((Below.refl _ W2).alloc (Nat.le_refl _) _).mono b1.size))
/-- A part is begun: its block, the call, the two others. -/
theorem rgK_start (h : RgS w0 W xr xm ad n c l cs F Ld) {W2 : World} (b : Below (W.heap.size + 1) (W.alloc (.cells pc 41)) W2) :
    RgK w0 ((W2.alloc (.cells (hasC kd) 52)).alloc (.cells vals 61)) xr xm ad n c l cs F Ld W.heap.size W2.heap.size (W2.heap.size + 1) kd pc vals := by
  have e1 : (W.alloc (.cells pc 41)).heap.size = W.heap.size + 1 := by simp
  have hz : W.heap.size + 1 ≤ W2.heap.size := by have := b.size; omega
  have b2 : Below W2.heap.size W2 ((W2.alloc (.cells (hasC kd) 52)).alloc (.cells vals 61)) := ((Below.refl _ W2).alloc (Nat.le_refl _) _).alloc (by simp) _
  have b1 : Below W.heap.size W W2 := ((Below.refl _ W).alloc (Nat.le_refl _) _).trans (b.mono (Nat.le_succ _))
  have b3 : Below W.heap.size W ((W2.alloc (.cells (hasC kd) 52)).alloc (.cells vals 61)) := b1.trans (b2.mono b1.size)
  have hw := h.bel.size
  refine ⟨h.later b3, ?_, ?_, ?_, ?_, hw, Nat.le_trans hw b1.size, by omega⟩
  · exact (b2.block _ (by omega)).trans ((b.block _ (Nat.lt_succ_self _)).trans (heap_alloc_new W _))
  · rw [heap_alloc_old _ _ (by simp)]
    exact heap_alloc_new W2 _
  · have e := heap_alloc_new (W2.alloc (.cells (hasC kd) 52)) (.cells vals 61)
    rwa [show (W2.alloc (.cells (hasC kd) 52)).heap.size = W2.heap.size + 1 by simp] at e
  · intro g hg
    exact Nat.ne_of_lt (h.pts.lt g hg).2
end
/-- The values: the first k, then y, then noughts. -/
def vc (l : List UInt8) (kd : Nat) (s : St) (k y j : Nat) : Value := .int .i64 ((if j < k then vF l kd s j else if j = k then y else 0 : Nat) : Int)
def vrow (l : List UInt8) (kd : Nat) (s : St) (k y : Nat) : Array Value := #[vc l kd s k y 0, vc l kd s k y 1, vc l kd s k y 2, vc l kd s k y 3, vc l kd s k y 4, vc l kd s k y 5]
section
variable {l : List UInt8} {kd : Nat} {s : St}
theorem vc_at (k y : Nat) : vc l kd s k y k = .int .i64 (y : Nat) := by unfold vc; simp
theorem vc_off {k y y' j : Nat} (h : j ≠ k) : vc l kd s k y j = vc l kd s k y' j := by unfold vc; simp [h]
theorem vc_next (k j : Nat) : vc l kd s k (vF l kd s k) j = vc l kd s (k + 1) 0 j := by
  unfold vc
  by_cases h : j < k
  · rw [if_pos h, if_pos (by omega)]
  · by_cases h2 : j = k
    · subst h2; rw [if_neg h, if_pos rfl, if_pos (by omega)]
    · rw [if_neg h, if_neg h2, if_neg (by omega)]; split <;> rfl
theorem vrow_get {k : Nat} (y : Nat) (h : k < 6) : (vrow l kd s k y)[k]? = some (.int .i64 (y : Nat)) := by
  rcases (by omega : k = 0 ∨ k = 1 ∨ k = 2 ∨ k = 3 ∨ k = 4 ∨ k = 5) with e | e | e | e | e | e <;> subst e <;> exact congrArg some (vc_at _ _)
theorem vrow_set {k : Nat} (y y' : Nat) (h : k < 6) : (vrow l kd s k y).setIfInBounds k (.int .i64 (y' : Nat)) = vrow l kd s k y' := by
  unfold vrow
  rcases (by omega : k = 0 ∨ k = 1 ∨ k = 2 ∨ k = 3 ∨ k = 4 ∨ k = 5) with e | e | e | e | e | e <;> subst e <;> simp [vc_at, vc]
theorem vrow_next (k : Nat) : vrow l kd s k (vF l kd s k) = vrow l kd s (k + 1) 0 := by unfold vrow; simp only [vc_next]
theorem vrow_zero : vrow l kd s 0 0 = #[.int .i64 0, .int .i64 0, .int .i64 0, .int .i64 0, .int .i64 0, .int .i64 0] := rfl
theorem hasC_get {k : Nat} (h : k < 6) : (hasC kd)[k]? = some (.bool (hasK kd k)) := by
  rcases (by omega : k = 0 ∨ k = 1 ∨ k = 2 ∨ k = 3 ∨ k = 4 ∨ k = 5) with e | e | e | e | e | e <;> subst e <;> rfl
/-- A field that the kind has not; that it has. -/
theorem sF_no {k : Nat} (h : hasK kd k = false) : sF l kd (k + 1) s = sF l kd k s ∧ vF l kd s k = 0 := by
  unfold vF fV
  rw [h]
  refine ⟨?_, rfl⟩
  show fS l (kb k) (hasK kd k) (sF l kd k s) = _
  rw [h]; rfl
theorem sF_yes {k : Nat} (h : hasK kd k = true) (h0 : (sF l kd k s).e = 0) (hs : (sF l kd k s).at_ + kn k ≤ l.length) : sF l kd (k + 1) s = ⟨(sF l kd k s).at_ + kn k, 0⟩ ∧ vF l kd s k = numJ l (sF l kd k s).at_ (kn k) := by
  have hn : ¬ short l (kn k) (sF l kd k s) := by unfold short; omega
  constructor
  · show fS l (kb k) (hasK kd k) (sF l kd k s) = _
    rw [h, fS_yes, takeS_yes h0 hn]
  · unfold vF
    rw [h, fV_yes, numV_J h0 hn]
theorem sF_short {k : Nat} (h6 : k < 6) (h : hasK kd k = true) (h0 : (sF l kd k s).e = 0) (hs : ¬ (sF l kd k s).at_ + kn k ≤ l.length) : (sF l kd 6 s).e = 12 := by
  have hn : short l (kn k) (sF l kd k s) := by unfold short; omega
  have e : sF l kd (k + 1) s = ⟨(sF l kd k s).at_, 12⟩ := by
    show fS l (kb k) (hasK kd k) (sF l kd k s) = _
    rw [h, fS_yes, takeS_no h0 hn]
  obtain ⟨i, hi⟩ : ∃ i, 6 = k + 1 + i := ⟨5 - k, by omega⟩
  rw [hi, sF_stay (k + 1) i (by rw [e]; exact (by decide : (12 : Int) ≠ 0)), e]
theorem numJ_lt (l : List UInt8) (a j : Nat) (h : j ≤ 2) (ha : a + j ≤ l.length) : numJ l a j < 65536 := by
  rcases (by omega : j = 0 ∨ j = 1 ∨ j = 2) with e | e | e <;> subst e
  · have z : numJ l a 0 = 0 := by unfold numJ; rw [List.take_zero]; rfl
    omega
  · rw [numJ_succ l a 0 (by omega)]
    have := (l[a + 0]'(by omega)).toNat_lt
    have z : numJ l a 0 = 0 := by unfold numJ; rw [List.take_zero]; rfl
    omega
  · rw [numJ_succ l a 1 (by omega), numJ_succ l a 0 (by omega)]
    have := (l[a + 0]'(by omega)).toNat_lt
    have := (l[a + 1]'(by omega)).toNat_lt
    have z : numJ l a 0 = 0 := by unfold numJ; rw [List.take_zero]; rfl
    omega
theorem vF_lt (l : List UInt8) (kd : Nat) (s : St) (k : Nat) : vF l kd s k < 65536 := by
  unfold vF
  cases hasK kd k
  · exact (by decide : 0 < 65536)
  · rw [fV_yes]
    have h2 : kn k ≤ 2 := by unfold kn; split <;> omega
    by_cases h0 : (sF l kd k s).e = 0
    · by_cases hs : short l (kn k) (sF l kd k s)
      · unfold numV; rw [takeL_no h0 hs]; decide
      · rw [numV_J h0 hs]
        unfold short at hs
        exact numJ_lt l _ _ h2 (by omega)
    · rw [numV_stay h0]; decide
/-- The model's fields are written; a part is put on. -/
theorem RgS.setm {w0 W : World} {xr xm : Nat} {ad : Addr} {n c : Nat} {cs : Array Value} {F : Value} {Ld : List Pt} (h : RgS w0 W xr xm ad n c l cs F Ld) (i : Nat) (u : Value) : RgS w0 (W.setCell ⟨xm, i, none⟩ u) xr xm ad n c l (cs.setIfInBounds i u) F Ld := by
  have n5 := own41_ne h.pts h.rm (by decide)
  have bw : Below w0.heap.size w0 (W.setCell ⟨xm, i, none⟩ u) := set_bel h.bel xm i u h.lm
  have bw2 : Below w0.heap.size W (W.setCell ⟨xm, i, none⟩ u) := set_bel ((Below.refl _ W)) xm i u h.lm
  refine ⟨h.by_.below bw2, (set_block (Ne.symm h.ne)).trans h.rr, row_set h.rm i u, h.ne, h.lr, h.lm, ?_, bw⟩
  obtain ⟨q1, q2⟩ := h.pts
  refine ⟨q1, ?_⟩
  rcases q2 with q2 | ⟨g, cap, cur, rfl, hg, hh, r⟩
  · exact .inl q2
  · exact .inr ⟨g, cap, cur, rfl, hg, (set_block (n5 g rfl)).trans hh, r⟩
theorem RgS.append {w0 W W2 : World} {xr xm : Nat} {ad : Addr} {n c : Nat} {cs : Array Value} {F v : Value} {Ld : List Pt} {p : Pt} {o : Obj} (h : RgS w0 W xr xm ad n c l cs F Ld)
    (ho : W2.ownsRow w0.heap.size 41 7 v (Ld.length + 1) (Ld.flatMap cellsP ++ cellsP p)) (hg : (W.alloc o).grownBy W2 F.ownBlock) : RgS w0 W2 xr xm ad n c l cs v (Ld ++ [p]) := by
  have n1 := own41_ne h.pts h.rr (by decide)
  have n2 := own41_ne h.pts h.rm (by decide)
  have b2 : Below w0.heap.size W W2 := ((Below.refl _ W).alloc h.bel.size _).grown hg (by have := h.bel.size; simp; omega) (fun g hg => (h.pts.lt g hg).1)
  have lr := lt_of_heap h.rr
  have lm := lt_of_heap h.rm
  refine ⟨h.by_.below b2, ?_, ?_, h.ne, h.lr, h.lm, ?_, h.bel.trans b2⟩
  · rw [hg.block _ (by simp; omega) (fun e => n1 _ e.symm rfl), heap_alloc_old _ _ lr]; exact h.rr
  · rw [hg.block _ (by simp; omega) (fun e => n2 _ e.symm rfl), heap_alloc_old _ _ lm]; exact h.rm
  · rw [List.length_append, List.flatMap_append]
    simpa using ho
end
end Go.Proofs.Ytnanmdfbgoahjaa
/-
  The document's Get: a part behind the others, as one step over letters.
-/
namespace Go.Proofs.Ytnanmdfbgoahjaa
open Go.RowKit

theorem wpList_app_part {ops : Array Oper} {rest : List Oper} {o : Oper} {a : Act} {Q : Exit → Act → World → Prop} (hgd : o.guard = none) (s x : Operand)
    (ho : o.op = .call { callee := .builtin .append, args := #[s, x], argTypes := #[22, 22] }) {w0 wr : World} {xr xm : Nat} {ad : Addr} {n c : Nat} {l : List UInt8} {cs : Array Value} {F : Value} {Ld : List Pt}
    (h : RgS w0 wr xr xm ad n c l cs F Ld) (p : Pt) (hs : a.eval s = F) (hx : a.eval x = .slice (some ⟨wr.heap.size, 0, none⟩) 1 1) (hl : Ld.length ≤ 255)
    (hK : ∀ A' c' W, Hid (RgS w0 W xr xm ad n c l cs (.slice A' (Ld.length + 1) c') (Ld ++ [p])) → wpList Try.prog ops Q rest (a.put o.dst (.slice A' (Ld.length + 1) c')) W) :
    wpList Try.prog ops Q (o :: rest) a (wr.alloc (.cells #[.int .u8 p.kind, .int .i64 p.size, .int .i64 p.a, .int .i64 p.b, .int .i64 p.c, .int .i64 p.rate, .int .i64 p.limit] 41)) := by
  obtain ⟨i32, hi32, hz32, hs32, hb32⟩ := info_parts Try.info41
  refine wpList_append_own _ hgd s x 22 ho w0.heap.size 41 i32 _ 7 56 Try.underlying22 hi32 hz32 hs32 hb32 rfl (by decide) F Ld.length (Ld.flatMap cellsP) hs (h.pts.alloc _) ⟨wr.heap.size, 0, none⟩ 1 1 (cellsP p) hx rfl (seven_cells wr p) (by intro u hu; simp [cellsP] at hu; rcases hu with rfl | rfl | rfl | rfl | rfl | rfl | rfl <;> rfl) (by unfold maxLen; omega) (by omega) (by have := h.bel.size; simp; omega) ?_
  intro v1 w2 hown1 hg1 _
  obtain ⟨A1, co1, rfl, _, _⟩ := own_slice hown1
  exact hK A1 co1 w2 (hid (h.append hown1 hg1))
end Go.Proofs.Ytnanmdfbgoahjaa
/-
  The document's Get: region 33 (a part behind the others) by itself.
-/
namespace Go.Proofs.Ytnanmdfbgoahjaa
open Go.RowKit

set_option maxRecDepth 10000 in
set_option maxHeartbeats 4000000 in
theorem reg33 {K : Exit → Act → World → Prop} {v0 v1 v2 v3 v4 v6 v7 v9 v10 v11 v12 v13 v14 v15 v16 v17 v18 v19 v20 v21 v22 v23 v24 v25 v26 v27 v28 v29 v30 v31 v32 v33 v34 v35 v36 v37 v38 v39 v40 v41 v42 v43 v44 v45 v46 v47 v48 v49 v50 v51 v52 v53 v54 v55 v56 v57 v58 v59 v60 v61 v62 v63 v64 v65 v66 v67 v68 v69 v70 v71 v72 v73 v74 v75 v76 v77 v78 v79 v80 v81 v82 v83 v84 v85 v86 v87 v88 v89 v90 v91 v92 v93 v94 v95 v96 v97 v98 v99 v100 v101 v102 v103 v104 v105 v106 v107 v108 v109 v110 v111 v112 v113 v114 v115 v116 v117 v118 v119 v120 v121 v122 v123 v124 v125 v126 v127 v128 v129 v130 v131 v132 v133 v134 v135 v136 v137 v138 v139 v140 v141 v142 v143 v144 v145 v146 v147 v148 v149 v150 v151 v152 v153 v154 v155 v156 v157 v158 v159 v160 v161 v162 v163 v164 v165 v166 v167 v168 v169 v170 v171 v172 v173 v174 v175 v176 v177 v178 v179 v180 v181 v182 v183 v184 v185 v186 v187 v188 v189 v190 v191 v192 v193 v194 v195 v196 v197 : Value} {d : List Deferred}
    {w wc : World} {xr xm xp : Nat} {ad : Addr} {n c : Nat} {l : List UInt8} {cs : Array Value} {F : Value} {Ld : List Pt} {kd : Nat} {f0 f1 f2 C f4 f5 : Int}
    (HO : Hid (RgS w wc xr xm ad n c l cs F Ld)) (HL : Hid (Ld.length ≤ 255)) (d4 : wc.cell? ⟨xm, 4, none⟩ = some F)
    (m0 : wc.cell? ⟨xp, 0, none⟩ = some (.int .u8 kd)) (m1 : wc.cell? ⟨xp, 1, none⟩ = some (.int .i64 f0)) (m2 : wc.cell? ⟨xp, 2, none⟩ = some (.int .i64 f1)) (m3 : wc.cell? ⟨xp, 3, none⟩ = some (.int .i64 f2))
    (m4 : wc.cell? ⟨xp, 4, none⟩ = some (.int .i64 C)) (m5 : wc.cell? ⟨xp, 5, none⟩ = some (.int .i64 f4)) (m6 : wc.cell? ⟨xp, 6, none⟩ = some (.int .i64 f5))
    (hF : ∃ A k, F = .slice A Ld.length k) (h4 : cs[4]? = some F)
    (hK : Hid (∀ A' c' W, RgS w W xr xm ad n c l cs (.slice A' (Ld.length + 1) c') (Ld ++ [⟨kd, f0, f1, f2, C, f4, f5⟩]) → K .normal ⟨#[v0, v1, v2, v3, v4, .pointer (some ⟨xm, 0, none⟩), v6, v7, .pointer (some ⟨xp, 0, none⟩), v9, v10, v11, v12, v13, v14, v15, v16, v17, v18, v19, v20, v21, v22, v23, v24, v25, v26, v27, v28, v29, v30, v31, v32, v33, v34, v35, v36, v37, v38, v39, v40, v41, v42, v43, v44, v45, v46, v47, v48, v49, v50, v51, v52, v53, v54, v55, v56, v57, v58, v59, v60, v61, v62, v63, v64, v65, v66, v67, v68, v69, v70, v71, v72, v73, v74, v75, v76, v77, v78, v79, v80, v81, v82, v83, v84, v85, v86, v87, v88, v89, v90, v91, v92, v93, v94, v95, v96, v97, v98, v99, v100, v101, v102, v103, v104, v105, v106, v107, v108, v109, v110, v111, v112, v113, v114, v115, v116, v117, v118, v119, v120, v121, v122, v123, v124, v125, v126, v127, v128, v129, v130, .pointer (some ⟨xm, 4, none⟩), F, .agg #[.int .u8 kd, .int .i64 f0, .int .i64 f1, .int .i64 f2, .int .i64 C, .int .i64 f4, .int .i64 f5], .slice (some ⟨wc.heap.size, 0, none⟩) 1 1, (.slice A' (Ld.length + 1) c'), .pointer (some ⟨xm, 4, none⟩), v137, v138, v139, v140, v141, v142, v143, v144, v145, v146, v147, v148, v149, v150, v151, v152, v153, v154, v155, v156, v157, v158, v159, v160, v161, v162, v163, v164, v165, v166, v167, v168, v169, v170, v171, v172, v173, v174, v175, v176, v177, v178, v179, v180, v181, v182, v183, v184, v185, v186, v187, v188, v189, v190, v191, v192, v193, v194, v195, v196, v197], d⟩ (W.setCell ⟨xm, 4, none⟩ (.slice A' (Ld.length + 1) c')))) :
    Code.wp Try.prog (Code.region 33
      #[{ dst := some 131, op := Op.fieldAddr 25 (Operand.tmp 5) 4, type := 0, pos := "ref.go:123", after := #[],
          guard := none },
        { dst := some 132, op := Op.load 22 (Operand.tmp 131), type := 22, pos := "ref.go:123",
          after := #[{ on := 0, ground := Ground.data }], guard := none },
        { dst := some 133, op := Op.load 41 (Operand.tmp 8), type := 41, pos := "ref.go:123", after := #[],
          guard := none },
        { dst := some 134, op := Op.buildSlice 22 1 #[(0, Operand.tmp 133)], type := 22, pos := "ref.go:123",
          after := #[{ on := 2, ground := Ground.data }], guard := none },
        { dst := some 135,
          op :=
            Op.call
              { callee := Callee.builtin Builtin.append, args := #[Operand.tmp 132, Operand.tmp 134],
                argTypes := #[22, 22] },
          type := 22, pos := "ref.go:123",
          after := #[{ on := 1, ground := Ground.data }, { on := 3, ground := Ground.data }], guard := none },
        { dst := some 136, op := Op.fieldAddr 25 (Operand.tmp 5) 4, type := 0, pos := "ref.go:123",
          after :=
            #[{ on := 0, ground := Ground.phase }, { on := 1, ground := Ground.phase },
              { on := 2, ground := Ground.phase }, { on := 3, ground := Ground.phase },
              { on := 4, ground := Ground.phase }],
          guard := none },
        { dst := none, op := Op.store 22 (Operand.tmp 136) (Operand.tmp 135), type := 0, pos := "ref.go:123",
          after :=
            #[{ on := 5, ground := Ground.data }, { on := 4, ground := Ground.data },
              { on := 4, ground := Ground.chain }, { on := 0, ground := Ground.phase },
              { on := 1, ground := Ground.phase }, { on := 2, ground := Ground.phase },
              { on := 3, ground := Ground.phase }, { on := 4, ground := Ground.phase }],
          guard := none }]
      false) K ⟨#[v0, v1, v2, v3, v4, .pointer (some ⟨xm, 0, none⟩), v6, v7, .pointer (some ⟨xp, 0, none⟩), v9, v10, v11, v12, v13, v14, v15, v16, v17, v18, v19, v20, v21, v22, v23, v24, v25, v26, v27, v28, v29, v30, v31, v32, v33, v34, v35, v36, v37, v38, v39, v40, v41, v42, v43, v44, v45, v46, v47, v48, v49, v50, v51, v52, v53, v54, v55, v56, v57, v58, v59, v60, v61, v62, v63, v64, v65, v66, v67, v68, v69, v70, v71, v72, v73, v74, v75, v76, v77, v78, v79, v80, v81, v82, v83, v84, v85, v86, v87, v88, v89, v90, v91, v92, v93, v94, v95, v96, v97, v98, v99, v100, v101, v102, v103, v104, v105, v106, v107, v108, v109, v110, v111, v112, v113, v114, v115, v116, v117, v118, v119, v120, v121, v122, v123, v124, v125, v126, v127, v128, v129, v130, v131, v132, v133, v134, v135, v136, v137, v138, v139, v140, v141, v142, v143, v144, v145, v146, v147, v148, v149, v150, v151, v152, v153, v154, v155, v156, v157, v158, v159, v160, v161, v162, v163, v164, v165, v166, v167, v168, v169, v170, v171, v172, v173, v174, v175, v176, v177, v178, v179, v180, v181, v182, v183, v184, v185, v186, v187, v188, v189, v190, v191, v192, v193, v194, v195, v196, v197], d⟩ wc := by
  obtain ⟨Ao, co, rfl⟩ := hF
  go_wp2_with (at_builtin; (refine wpList_app_part rfl (.tmp 132) (.tmp 134) rfl HO.out ⟨kd, f0, f1, f2, C, f4, f5⟩ rfl rfl HL.out ?_); intro A1 co1 w2 HA; have q4 : w2.cell? ⟨xm, 4, none⟩ = some (.slice Ao Ld.length co) := (row_cell HA.out.rm 4).trans h4; have r4 : w2.frozen? ⟨xm, 4, none⟩ = false := row_free HA.out.rm 4)
  exact hK.out _ _ _ HA.out
end Go.Proofs.Ytnanmdfbgoahjaa
/-
  The document's Get: the two lists of bytes at the end, and the model in memory.
-/
namespace Go.Proofs.Ytnanmdfbgoahjaa
open Go.RowKit

theorem numV_two {l : List UInt8} {p : Nat} (h : p + 1 < l.length) : numV l 2 ⟨p, 0⟩ = l[p].toNat * 256 + l[p + 1].toNat := by
  rw [numV_J (s := ⟨p, 0⟩) rfl (by unfold short; simp only; omega)]
  rw [numJ_succ l p 1 h, numJ_succ l p 0 (by omega)]
  have nz : numJ l p 0 = 0 := by unfold numJ; rw [List.take_zero]; rfl
  rw [nz]
  simp
/-- A list of bytes with its length ahead: three ways. -/
theorem byt_no (l : List UInt8) (p : Nat) (h : l.length < p + 2) : (bytS l ⟨p, 0⟩).e = 12 := by
  have h1 : takeS l 2 ⟨p, 0⟩ = ⟨p, 12⟩ := takeS_no rfl h
  unfold bytS
  rw [h1, takeS_stay (show (12 : Int) ≠ 0 by decide)]
theorem byt_short (l : List UInt8) (p N : Nat) (h : p + 1 < l.length) (hN : l[p].toNat * 256 + l[p + 1].toNat = N) (hs : l.length < p + 2 + N) : (bytS l ⟨p, 0⟩).e = 12 := by
  have h1 : takeS l 2 ⟨p, 0⟩ = ⟨p + 2, 0⟩ := takeS_yes rfl (by unfold short; simp only; omega)
  unfold bytS
  rw [h1, numV_two h, hN, takeS_no (s := ⟨p + 2, 0⟩) rfl (show l.length < p + 2 + N from hs)]
theorem byt_yes (l : List UInt8) (p N : Nat) (h : p + 1 < l.length) (hN : l[p].toNat * 256 + l[p + 1].toNat = N) (hs : p + 2 + N ≤ l.length) :
    bytS l ⟨p, 0⟩ = ⟨p + 2 + N, 0⟩ ∧ bytL l ⟨p, 0⟩ = (l.drop (p + 2)).take N := by
  have h1 : takeS l 2 ⟨p, 0⟩ = ⟨p + 2, 0⟩ := takeS_yes rfl (by unfold short; simp only; omega)
  unfold bytS bytL
  rw [h1, numV_two h, hN, takeS_yes rfl (by unfold short; simp only; omega), takeL_yes rfl (by unfold short; simp only; omega)]
  exact ⟨rfl, rfl⟩
/-- What the whole comes to. -/
theorem get_all (l : List UInt8) (h8 : (g8 l).e = 0) : ((gM l).right = 0 → getM l = .ok (gM l, (g8 l).at_)) ∧ ((gM l).right ≠ 0 → getM l = .error 131) := by
  refine ⟨fun hr => ?_, fun hr => ?_⟩
  · have e9 : g9 l = g8 l := if_pos hr
    rcases get_is l with ⟨e, he, _, h2⟩ | ⟨h1, _, _, _⟩
    · rw [e9, h8] at h2
      exact absurd h2.symm he
    · rw [h1, e9]
  · have e9 : g9 l = failS (g8 l) 131 := if_neg hr
    rcases get_is l with ⟨e, he, h1, h2⟩ | ⟨_, _, _, h4⟩
    · rw [e9] at h2
      unfold failS at h2
      rw [if_pos h8] at h2
      rw [h1, ← h2]
    · exact absurd h4 hr
/-- The state of the second loop: k lists are told. -/
structure RgP (l : List UInt8) (s : St) (k : Nat) (t : St) (LC LQ : List UInt8) : Prop where
  e0 : t.e = 0
  le : t.at_ ≤ l.length
  t0 : k = 0 → t = s ∧ LC = [] ∧ LQ = []
  t1 : k = 1 → t = bytS l s ∧ LC = bytL l s ∧ LQ = []
  t2 : k = 2 → t = bytS l (bytS l s) ∧ LC = bytL l s ∧ LQ = bytL l (bytS l s)
theorem RgP.err {l : List UInt8} {s t : St} {k : Nat} {LC LQ : List UInt8} (h : RgP l s k t LC LQ) (hk : k < 2) (hs : g6 l = s) (he : (bytS l t).e = 12) : getM l = .error 12 := by
  refine get_err l 12 (by decide) ?_
  rcases (by omega : k = 0 ∨ k = 1) with rfl | rfl
  · have := (h.t0 rfl).1
    subst this
    exact g8_of7 (by decide) (by unfold g7; rw [hs]; exact he)
  · have := (h.t1 rfl).1
    unfold g8 g7
    rw [hs, ← this]
    exact he
/-- The model under way: its lists of bytes, too. -/
structure RgB (w0 W : World) (xr xm : Nat) (ad : Addr) (n c : Nat) (l : List UInt8) (x0 x1 x2 x3 : Nat) (F : Value) (Ld : List Pt) (CV QV : Value) (LC LQ : List UInt8) : Prop where
  s : RgS w0 W xr xm ad n c l #[.int .i64 (x0 : Nat), .int .i64 (x1 : Nat), .int .i64 (x2 : Nat), .int .i64 (x3 : Nat), F, CV, QV] F Ld
  oc : W.ownsRow w0.heap.size 5 1 CV LC.length (LC.map bv)
  oq : W.ownsRow w0.heap.size 5 1 QV LQ.length (LQ.map bv)
section
variable {w0 W W' : World} {xr xm : Nat} {ad : Addr} {n c : Nat} {l : List UInt8} {x0 x1 x2 x3 : Nat} {F : Value} {Ld : List Pt} {CV QV : Value} {LC LQ : List UInt8}
theorem RgB.later (h : RgB w0 W xr xm ad n c l x0 x1 x2 x3 F Ld CV QV LC LQ) (b : Below W.heap.size W W') : RgB w0 W' xr xm ad n c l x0 x1 x2 x3 F Ld CV QV LC LQ :=
  ⟨h.s.later b, own_any h.oc fun g _ hg => b.block g (lt_of_heap hg), own_any h.oq fun g _ hg => b.block g (lt_of_heap hg)⟩
theorem own5_ne {base s k m : Nat} {v : Value} {xs : List Value} {t : TypeId} {cs : Array Value} (h : W.ownsRow base 5 s v m xs) (hk : W.heap[k]? = some (.cells cs t (0, 0))) (ht : t ≠ 5) : ∀ g, v.ownBlock = some g → g ≠ k := by
  intro g hg e
  subst e
  rcases h.2 with ⟨rfl, _⟩ | ⟨g', cap, cur, rfl, _, hh, _⟩
  · cases hg
  · cases hg
    rw [hk] at hh
    cases hh
    exact ht rfl
theorem own5_set {base s k i m : Nat} {u v : Value} {xs : List Value} {t : TypeId} {cs : Array Value} (h : W.ownsRow base 5 s v m xs) (hk : W.heap[k]? = some (.cells cs t (0, 0))) (ht : t ≠ 5) : (W.setCell ⟨k, i, none⟩ u).ownsRow base 5 s v m xs := by
  have hne := own5_ne h hk ht
  obtain ⟨h1, h2⟩ := h
  refine ⟨h1, ?_⟩
  rcases h2 with h2 | ⟨g, cap, cur, rfl, hg, hh, r⟩
  · exact .inl h2
  · exact .inr ⟨g, cap, cur, rfl, hg, (set_block (hne g rfl)).trans hh, r⟩
theorem RgB.code (h : RgB w0 W xr xm ad n c l x0 x1 x2 x3 F Ld CV QV LC LQ) {v : Value} {L : List UInt8} (ho : W.ownsRow w0.heap.size 5 1 v L.length (L.map bv)) : RgB w0 (W.setCell ⟨xm, 5, none⟩ v) xr xm ad n c l x0 x1 x2 x3 F Ld v QV L LQ :=
  ⟨h.s.setm 5 v, own5_set ho h.s.rm (by decide), own5_set h.oq h.s.rm (by decide)⟩
theorem RgB.post (h : RgB w0 W xr xm ad n c l x0 x1 x2 x3 F Ld CV QV LC LQ) {v : Value} {L : List UInt8} (ho : W.ownsRow w0.heap.size 5 1 v L.length (L.map bv)) : RgB w0 (W.setCell ⟨xm, 6, none⟩ v) xr xm ad n c l x0 x1 x2 x3 F Ld CV v LC L :=
  ⟨h.s.setm 6 v, own5_set h.oc h.s.rm (by decide), own5_set ho h.s.rm (by decide)⟩
theorem own_mono {base base' m : Nat} {v : Value} {xs : List Value} (h : W.ownsRow base 5 1 v m xs) (hb : base' ≤ base) : W.ownsRow base' 5 1 v m xs := by
  obtain ⟨h1, h2⟩ := h
  refine ⟨h1, ?_⟩
  rcases h2 with h2 | ⟨g, cap, cur, rfl, hg, r⟩
  · exact .inl h2
  · exact .inr ⟨g, cap, cur, rfl, Nat.le_trans hb hg, r⟩
/-- append of bytes to a new empty list, as one step over letters. -/
theorem wpList_app_bytes {ops : Array Oper} {rest : List Oper} {o : Oper} {a : Act} {Q : Exit → Act → World → Prop} (hgd : o.guard = none) (s x : Operand)
    (ho : o.op = .call { callee := .builtin .append, args := #[s, x], argTypes := #[23, 23] })
    (h : RgB w0 W xr xm ad n c l x0 x1 x2 x3 F Ld CV QV LC LQ) {A : Option Addr} {m c2 : Nat} {l2 : List UInt8} (hB : IsBB W w0.heap.size A m c2 l2) (hm : m ≤ 100000)
    (hs : a.eval s = .slice (some ⟨W.heap.size, 0, none⟩) 0 0) (hx : a.eval x = .slice A m c2)
    (hK : ∀ A' c' W', Hid (RgB w0 W' xr xm ad n c l x0 x1 x2 x3 F Ld CV QV LC LQ) → Hid (W'.ownsRow w0.heap.size 5 1 (.slice A' m c') l2.length (l2.map bv)) → wpList Try.prog ops Q rest (a.put o.dst (.slice A' m c')) W') :
    wpList Try.prog ops Q (o :: rest) a (W.alloc (.cells #[] 5)) := by
  have hb : Below W.heap.size W (W.alloc (.cells #[] 5)) := (Below.refl _ _).alloc (Nat.le_refl _) _
  have hown : (W.alloc (.cells #[] 5)).ownsRow W.heap.size 5 1 (.slice (some ⟨W.heap.size, 0, none⟩) 0 0) 0 (([] : List UInt8).map bv) :=
    ⟨rfl, .inr ⟨W.heap.size, 0, #[], rfl, Nat.le_refl _, heap_alloc_new W _, Nat.le_refl _, by unfold maxLen; omega, rfl, rfl⟩⟩
  have hB2 : IsB (W.alloc (.cells #[] 5)) A m c2 l2 := (hB.below (hb.mono h.s.bel.size)).toIsB
  refine wpList_append_bytes hgd s x ho W.heap.size W _ 0 [] hs hown A m c2 l2 hx hB2 (by omega) hb (Nat.le_refl _) ?_
  intro v' w' h1 h2 _
  have h3 := h1.out
  rw [Nat.zero_add, List.nil_append] at h3
  obtain ⟨A', c', rfl, _⟩ := own_slice h3
  refine hK A' c' w' (hid (h.later h2.out)) (hid ?_)
  rw [hB.len]
  exact own_mono h3 h.s.bel.size
theorem own_set7 {base e z m xr : Nat} {v : Value} {xs : List Value} {a0 a1 a2 a3 a4 a5 a6 : Value} (h : W.ownsRow base e z v m xs) (hne : ∀ g, v.ownBlock = some g → g ≠ xr) : (set7 W xr a0 a1 a2 a3 a4 a5 a6).ownsRow base e z v m xs := by
  obtain ⟨h1, h2⟩ := h
  refine ⟨h1, ?_⟩
  rcases h2 with h2 | ⟨g, cap, cur, rfl, hg, hh, r⟩
  · exact .inl h2
  · exact .inr ⟨g, cap, cur, rfl, hg, (set7_block (hne g rfl)).trans hh, r⟩
/-- The model in memory is the one that the bytes say. -/
theorem md_value {base : Nat} (hP : W.ownsRow base 41 7 F Ld.length (Ld.flatMap cellsP)) (hC : W.ownsRow base 5 1 CV LC.length (LC.map bv)) (hQ : W.ownsRow base 5 1 QV LQ.length (LQ.map bv))
    (hg : gM l = ⟨x0, x1, x2, x3, Ld, LC, LQ⟩) (hL : LC.length ≤ 100000) (hQl : LQ.length ≤ 100000) :
    ∃ P C Q, vMd (gM l) P C Q = .agg #[.int .i64 (x0 : Nat), .int .i64 (x1 : Nat), .int .i64 (x2 : Nat), .int .i64 (x3 : Nat), F, CV, QV] ∧ MdAt W W.heap.size (gM l) P C Q := by
  obtain ⟨Ap, cp, rfl, ip, _⟩ := own_isP rfl hP
  obtain ⟨Ac, cc, rfl, ic⟩ := own_isBB hC (by omega)
  obtain ⟨Aq, cq, rfl, iq⟩ := own_isBB hQ (by omega)
  rw [hg]
  exact ⟨⟨Ap, cp⟩, ⟨Ac, cc⟩, ⟨Aq, cq⟩, rfl, ⟨ip, ic, iq⟩⟩
theorem RgB.done (h : RgB w0 W xr xm ad n c l x0 x1 x2 x3 F Ld CV QV LC LQ) (a0 a1 a2 a3 a4 a5 a6 : Value) :
    (set7 W xr a0 a1 a2 a3 a4 a5 a6).ownsRow w0.heap.size 41 7 F Ld.length (Ld.flatMap cellsP) ∧ (set7 W xr a0 a1 a2 a3 a4 a5 a6).ownsRow w0.heap.size 5 1 CV LC.length (LC.map bv) ∧ (set7 W xr a0 a1 a2 a3 a4 a5 a6).ownsRow w0.heap.size 5 1 QV LQ.length (LQ.map bv) ∧
    (set7 W xr a0 a1 a2 a3 a4 a5 a6).heap[xr]? = some (.cells #[a0, a1, a2, a3, a4, a5, a6] 25 (0, 0)) ∧ Below w0.heap.size w0 (set7 W xr a0 a1 a2 a3 a4 a5 a6) := by
  have E := row_set7 _ _ _ _ _ _ _ a0 a1 a2 a3 a4 a5 a6 h.s.rr
  exact ⟨own_set7 h.s.pts (own41_ne h.s.pts h.s.rr (by decide)), own_set7 h.oc (own5_ne h.oc h.s.rr (by decide)), own_set7 h.oq (own5_ne h.oq h.s.rr (by decide)), E.1, E.2 _ _ h.s.lr h.s.bel⟩
theorem gM_is (hv : numV l 1 ⟨0, 0⟩ = x0 ∧ numV l 1 (g1 l) = x1 ∧ numV l 1 (g2 l) = x2 ∧ numV l 1 (g3 l) = x3) {s t : St} (h6 : g6 l = s ∧ (prtsS l (gn l) (g5 l)).2 = Ld) (hp : RgP l s 2 t LC LQ) :
    gM l = ⟨x0, x1, x2, x3, Ld, LC, LQ⟩ ∧ g8 l = t ∧ (g8 l).e = 0 ∧ LC.length ≤ l.length ∧ LQ.length ≤ l.length := by
  obtain ⟨e1, e2, e3, e4⟩ := hv
  obtain ⟨q1, q2, q3⟩ := hp.t2 rfl
  have tl : ∀ k s, (takeL l k s).length ≤ l.length := by
    intro k s
    unfold takeL
    split
    · simp
    · split
      · simp
      · rw [List.length_take, List.length_drop]; omega
  have h8 : g8 l = t := by unfold g8 g7; rw [h6.1, q1]
  refine ⟨?_, h8, by rw [h8]; exact hp.e0, by rw [q2]; exact tl _ _, by rw [q3]; exact tl _ _⟩
  unfold gM
  unfold g7
  rw [e1, e2, e3, e4, h6.1, h6.2, q2, q3]
end
/-- What the document's Get leaves. -/
def RGetPost (w w' : World) (l : List UInt8) (e : Ending) : Prop :=
  (∃ er : Int, er ≠ 0 ∧ getM l = .error er ∧ e = .returned (.tuple #[.agg zero7, .int .i64 0, .int .i64 er]) ∧ Below w.heap.size w w') ∨
  (∃ (x : Md) (k : Nat) (P C Q : Sl), getM l = .ok (x, k) ∧ e = .returned (.tuple #[vMd x P C Q, .int .i64 (k : Nat), .int .i64 0]) ∧ MdAt w' w'.heap.size x P C Q ∧ Below w.heap.size w w')
end Go.Proofs.Ytnanmdfbgoahjaa
