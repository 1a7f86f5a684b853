/-
  Merged: Two Rpn Rpw Rpx.
-/
import Derived.Test.YtnanmdfbgoahjaaHsr
import Derived.Test.YtnanmdfbgoahjaaPtb
import Derived.Test.YtnanmdfbgoahjaaPtw
import Derived.Test.YtnanmdfbgoahjaaRrf
/-
  The document's two; a list of bytes of the call's own that grows, and what else stays.
-/
set_option linter.unusedVariables false
set_option linter.unusedSimpArgs false
namespace Go.Proofs.Ytnanmdfbgoahjaa
open Go.RowKit

/-- What is no list of bytes stays. -/
structure S5 (w w' : World) : Prop where
  size : w.heap.size ≤ w'.heap.size
  row : ∀ (k : Nat) (cs : Array Value) (t : TypeId) (fl : Nat × Nat), w.heap[k]? = some (Obj.cells cs t fl) → t ≠ 5 → w'.heap[k]? = some (Obj.cells cs t fl)
theorem S5.refl (w : World) : S5 w w := ⟨Nat.le_refl _, fun _ _ _ _ h _ => h⟩
theorem S5.trans {w w' w'' : World} (h : S5 w w') (k : S5 w' w'') : S5 w w'' := ⟨Nat.le_trans h.size k.size, fun i cs t fl h5 ht => k.row i cs t fl (h.row i cs t fl h5 ht) ht⟩
theorem S5.of_below {w w' : World} (h : Below w.heap.size w w') : S5 w w' := ⟨h.size, fun k _ _ _ hk _ => (h.block k (lt_of_heap hk)).trans hk⟩
theorem S5.alloc (w : World) (o : Obj) : S5 w (w.alloc o) := ⟨by simp, fun k _ _ _ hk _ => (heap_alloc_old w _ (lt_of_heap hk)).trans hk⟩
theorem s5_grown {w w' : World} {base : Nat} {v : Value} {n : Nat} {xs : List Value} (h : w.ownsRow base 5 1 v n xs) (hg : w.grownBy w' v.ownBlock) : S5 w w' :=
  ⟨hg.size, fun k _ _ _ hk ht => (hg.block k (lt_of_heap hk) (fun e => own_ne h hk ht e.symm)).trans hk⟩
theorem wpList_out {w : World} {ops : Array Oper} {rest : List Oper} {o : Oper} {a : Act} {Q : Exit → Act → World → Prop} (hgd : o.guard = none) (s x : Operand)
    (ho : o.op = .call { callee := .builtin .append, args := #[s, x], argTypes := #[23, 23] })
    (w0 : World) (v : Value) (l : List UInt8) (hs : a.eval s = v) (hown : OwnB w0 w v l)
    (A : Option Addr) (m c : Nat) (l2 : List UInt8) (hx : a.eval x = .slice A m c) (hB : IsB w A m c l2) (h48 : l.length + m ≤ 140737488355328)
    (h : ∀ v' w', Hid (OwnB w0 w' v' (l ++ l2)) → Hid (S5 w w') → wpList Try.prog ops Q rest (a.put o.dst v') w') : wpList Try.prog ops Q (o :: rest) a w := by
  rcases A with _ | ad
  · have hm : m = 0 := by
      rcases Nat.eq_zero_or_pos m with h0 | h0
      · exact h0
      · obtain ⟨ad, e, _⟩ := hB.lies (by rw [hB.len]; exact h0)
        cases e
    subst hm
    obtain rfl : l2 = [] := List.eq_nil_of_length_eq_zero hB.len
    refine wpList_plain hgd fun K hK => ?_
    have hrun := run_append_nilc (ty := o.type) c hown.own
    unfold Oper.wp
    simp [execOp, ho, resolve, invoke, builtin, hs, hx, hrun, Result.andThen]
    refine hK _ _ (h v w ?_ (S5.refl w))
    show OwnB w0 w v (l ++ [])
    rw [List.append_nil]
    exact hown
  · have hc : ∀ j u, (l2.map bv)[j]? = some u → w.cell? (ad.add j) = some u := by
      intro j u hu
      have hj : j < l2.length := by have e := (List.getElem?_eq_some_iff.1 hu).1; simpa using e
      obtain ⟨ad', e, hc⟩ := hB.lies (by omega)
      cases e
      rw [map_bv_getElem? l2 j hj] at hu
      cases hu
      exact hc j hj
    obtain ⟨v', w', hr, h2, h3, h4, _⟩ := run_append_fresh (ty := o.type) hown.own ad m c (l2.map bv) (by rw [List.length_map, hB.len]) hc (bv_one l2) h48 hown.bel.size
    refine wpList_plain hgd fun K hK => ?_
    unfold Oper.wp execOp
    simp only [ho, resolve, invoke, builtin, Sem.run_bind, Sem.run_pure, Result.andThen_ok, List.map_toArray, List.map_cons, List.map_nil, hs, hx, hr]
    refine hK _ _ (h v' w' ⟨?_, hown.bel.grown h3 hown.bel.size (fun k hk => (hown.own.lt k hk).1)⟩ (s5_grown hown.own h3))
    rw [List.length_append, List.map_append, hB.len]
    exact h2
theorem OwnB.alloc {w wr : World} {v : Value} {X : List UInt8} (h : OwnB w wr v X) (o : Obj) : OwnB w (wr.alloc o) v X := ⟨h.own.alloc o, h.bel.alloc h.bel.size o⟩
theorem two_isB (W : World) (b c : UInt8) : IsB (W.alloc (.cells #[bv b, bv c] 5)) (some ⟨W.heap.size, 0, none⟩) 2 2 [b, c] := by
  refine ⟨rfl, Nat.le_refl _, by decide, by decide, fun _ => ⟨_, rfl, ?_⟩⟩
  intro j hj
  have hj : j < 2 := hj
  have h1 := heap_alloc_new W (.cells #[bv b, bv c] 5)
  have e : (⟨W.heap.size, 0, none⟩ : Addr).add j = ⟨W.heap.size, j, none⟩ := by unfold Addr.add; split <;> simp_all
  rw [e, row_cell h1 j]
  rcases (by omega : j = 0 ∨ j = 1) with rfl | rfl <;> rfl
set_option maxRecDepth 10000 in
theorem two_any (w0 w : World) (v : Value) (X : List UInt8) (n : Nat) (h : OwnB w0 w v X) (hX : X.length ≤ 900000) (hn : n < 65536) :
    Calls Try.prog 21 #[v, .int .i64 (n : Nat)] w fun e w' => ∃ v', e = .returned v' ∧ Hid (OwnB w0 w' v' (X ++ nb (n : Nat) 2)) ∧ Hid (S5 w w') := by
  have H := hid h
  have e1 : IntKind.u8.wrap ((n : Int) / 256) = ((b8 ((n : Int) / 256)).toNat : Int) := b8_int _
  have e2 : IntKind.u8.wrap ((n : Int) % 256) = ((b8 (n : Int)).toNat : Int) := by rw [← b8_int]; show (n : Int) % 256 % 256 = (n : Int) % 256; omega
  clear h
  go_enter Try.func21, Try.ntmps21
  go_wp2_with (at_builtin; go_loud (refine wpList_out rfl (.tmp 5) (.tmp 12) rfl w0 v X rfl (H.out.alloc _) _ 2 2 [b8 ((n : Int) / 256), b8 (n : Int)] rfl (two_isB w _ _) (by omega) ?_); intro v2 W2 hv2 hs2)
  go_ret
  exact ⟨v2, rfl, hv2, (S5.alloc w _).trans hs2.out⟩
end Go.Proofs.Ytnanmdfbgoahjaa
/-
  The document's Put, plain: a part's bytes as it writes them.
-/
namespace Go.Proofs.Ytnanmdfbgoahjaa
open Go.RowKit

def opB (b : Bool) (l : List UInt8) : List UInt8 := if b then l else []
def refB (p : Pt) : List UInt8 := [b8 (p.kind : Nat)] ++ (opB (hasK p.kind 0) [b8 p.size] ++ (opB (hasK p.kind 1) [b8 p.a] ++ (opB (hasK p.kind 2) [b8 p.b] ++ (opB (hasK p.kind 3) (nb (p.c + 2048) 2) ++ (opB (hasK p.kind 4) [b8 p.rate] ++ opB (hasK p.kind 5) (nb p.limit 2))))))
theorem opB_one (b : Bool) (n : Int) (h : vField false b n) : opB b [b8 n] = pField false b n := by
  cases b
  · rfl
  · have h : 0 ≤ n ∧ n ≤ 255 := h
    show [b8 n] = [by1 n]
    rw [b8_by1 n h]
theorem opB_two (b : Bool) (n : Int) (h : vField true b n) : opB b (nb n 2) = pField true b n := by
  cases b
  · rfl
  · have h : 0 ≤ n ∧ n ≤ 65535 := h
    exact nb_two n h
theorem refB_put (p : Pt) (h : p.vp) : refB p = p.put := by
  obtain ⟨⟨hk, h0, h1, h2, h3, h4, h5⟩, _⟩ := h
  unfold refB Pt.put pSix
  have e3 : opB (hasK p.kind 3) (nb (p.c + 2048) 2) = pField true (hasK p.kind 3) (ofPt p).2.2.2.2.1 := by
    rw [← opB_two _ _ h3]
    show opB (hasK p.kind 3) (nb (p.c + 2048) 2) = opB (hasK p.kind 3) (nb (if hasK p.kind 3 then p.c + 2048 else 0) 2)
    cases hasK p.kind 3 <;> rfl
  have ek : b8 (p.kind : Nat) = UInt8.ofNat p.kind := by
    unfold b8
    rw [show (((p.kind : Nat) : Int) % 256).toNat = p.kind by omega]
  have e0 : opB (hasK p.kind 0) [b8 p.size] = _ := opB_one _ _ h0
  have e1 : opB (hasK p.kind 1) [b8 p.a] = _ := opB_one _ _ h1
  have e2 : opB (hasK p.kind 2) [b8 p.b] = _ := opB_one _ _ h2
  have e4 : opB (hasK p.kind 4) [b8 p.rate] = _ := opB_one _ _ h4
  have e5 : opB (hasK p.kind 5) (nb p.limit 2) = _ := opB_two _ _ h5
  rw [e0, e1, e2, e3, e4, e5, ek]
  rfl
theorem two_int (w0 w : World) (v : Value) (X : List UInt8) (n : Int) (h : OwnB w0 w v X) (hX : X.length ≤ 900000) (hn : 0 ≤ n ∧ n ≤ 65535) :
    Calls Try.prog 21 #[v, .int .i64 n] w fun e w' => ∃ v', e = .returned v' ∧ Hid (OwnB w0 w' v' (X ++ nb n 2)) ∧ Hid (S5 w w') := by
  obtain ⟨k, rfl⟩ := Int.eq_ofNat_of_zero_le hn.1
  exact two_any w0 w v X k h hX (by omega)
/-- The document's Put: its list so far, its model's block. -/
structure RpAt (w W : World) (v : Value) (X : List UInt8) (m : Nat) (cs : Array Value) : Prop where
  own : OwnB w W v X
  rm : W.heap[m]? = some (.cells cs 25 (0, 0))
theorem RpAt.s5 {w W W' : World} {v v' : Value} {X X' : List UInt8} {m : Nat} {cs : Array Value} (h : RpAt w W v X m cs) (o : OwnB w W' v' X') (s : S5 W W') : RpAt w W' v' X' m cs := ⟨o, s.row _ _ _ _ h.rm (by decide)⟩
theorem RpAt.below {w W W' : World} {v : Value} {X : List UInt8} {m : Nat} {cs : Array Value} (h : RpAt w W v X m cs) (b : Below W.heap.size W W') : RpAt w W' v X m cs := ⟨h.own.below b, (b.block _ (lt_of_heap h.rm)).trans h.rm⟩
theorem RpAt.alloc {w W : World} {v : Value} {X : List UInt8} {m : Nat} {cs : Array Value} (h : RpAt w W v X m cs) (o : Obj) : RpAt w (W.alloc o) v X m cs := h.below ((Below.refl _ _).alloc (Nat.le_refl _) _)
theorem RpAt.drew {w W : World} {v : Value} {X : List UInt8} {m : Nat} {cs : Array Value} (h : RpAt w W v X m cs) : RpAt w W.drew v X m cs := ⟨h.own.drew, h.rm⟩
theorem refPut_start {w w2 : World} {cs : Array Value} (b2 : Below (w.alloc (.cells cs 25)).heap.size (w.alloc (.cells cs 25)) w2) (a b c d e : UInt8) :
    RpAt w (w2.alloc (.cells #[bv a, bv b, bv c, bv d, bv e] 5)) (.slice (some ⟨w2.heap.size, 0, none⟩) 5 5) [a, b, c, d, e] w.heap.size cs := by
  have hz : (w.alloc (.cells cs 25)).heap.size = w.heap.size + 1 := by simp
  have h1 := heap_alloc_new w (.cells cs 25)
  have h2 : w2.heap[w.heap.size]? = some (.cells cs 25 (0, 0)) := (b2.block _ (by rw [hz]; exact Nat.lt_succ_self _)).trans h1
  have hs := b2.size
  have hb : Below w.heap.size w w2 := bel_alloc b2
  exact ⟨⟨World.ownsRow_lit w2 #[bv a, bv b, bv c, bv d, bv e] 5 hb.size (by decide) rfl, hb.alloc hb.size _⟩, (heap_alloc_old w2 _ (lt_of_heap h2)).trans h2⟩
end Go.Proofs.Ytnanmdfbgoahjaa
/-
  The document's Put.
-/
namespace Go.Proofs.Ytnanmdfbgoahjaa
open Go.RowKit

set_option maxRecDepth 10000 in
set_option maxHeartbeats 8000000 in
theorem refPut_bad (w : World) (x : Md) (P C Q : Sl) (a : MdAt w w.heap.size x P C Q) (hr : x.right ≠ 0) : Calls Try.prog 9 #[vMd x P C Q] w fun e w' => e = .returned (.tuple #[.slice none 0 0, .int .i64 x.right]) ∧ Below w.heap.size w w' := by
  have hR := fun W (b : Below w.heap.size w W) => refRight_md W x P C Q (a.later b)
  unfold vMd vMdl at hR ⊢
  generalize x.right = r at *
  generalize x.parts.length = n at *
  generalize x.code.length = i at *
  generalize x.post.length = j at *
  obtain ⟨h, m, ph, pm, L, Cl, Ql⟩ := x
  simp only at *
  have HR := hid hR
  clear hR a
  go_enter Try.func9, Try.ntmps9
  go_wp2_with (go_at_call 13; refine (HR.out _ ((Below.refl _ _).alloc (Nat.le_refl _) _)).mono ?_; rintro e w2 ⟨rfl, b2⟩)
  go_ret2
  exact ⟨rfl, ((Below.refl _ _).alloc (Nat.le_refl _) _).trans (b2.mono (by simp))⟩
end Go.Proofs.Ytnanmdfbgoahjaa
/-
  The document's Put, of a model that may be.
-/
namespace Go.Proofs.Ytnanmdfbgoahjaa
open Go.RowKit

theorem refB_len (p : Pt) : (refB p).length ≤ 10 := by
  unfold refB
  have e1 : ∀ b n, (opB b [b8 n]).length ≤ 1 := fun b n => by cases b <;> simp [opB]
  have e2 : ∀ b n, (opB b (nb n 2)).length ≤ 2 := fun b n => by cases b <;> simp [opB, nb]
  simp only [List.length_append, List.length_cons, List.length_nil]
  have := e1 (hasK p.kind 0) p.size
  have := e1 (hasK p.kind 1) p.a
  have := e1 (hasK p.kind 2) p.b
  have := e2 (hasK p.kind 3) (p.c + 2048)
  have := e1 (hasK p.kind 4) p.rate
  have := e2 (hasK p.kind 5) p.limit
  omega
theorem box_after {w w2 : World} {cs : Array Value} (b2 : Below (w.alloc (.cells cs 25)).heap.size (w.alloc (.cells cs 25)) w2) : w2.heap[w.heap.size]? = some (.cells cs 25 (0, 0)) := by
  have hz : (w.alloc (.cells cs 25)).heap.size = w.heap.size + 1 := by simp
  exact (b2.block _ (by rw [hz]; exact Nat.lt_succ_self _)).trans (heap_alloc_new w (.cells cs 25))
theorem vp3 (p : Pt) (h : p.vp) (e : hasK p.kind 3 = true) : 0 ≤ p.c + 2048 ∧ p.c + 2048 ≤ 65535 := by
  obtain ⟨⟨_, _, _, _, h3, _⟩, _⟩ := h
  have h3 : vField true (hasK p.kind 3) (if hasK p.kind 3 then p.c + 2048 else 0) := h3
  rw [e] at h3
  exact h3
theorem vp5 (p : Pt) (h : p.vp) (e : hasK p.kind 5 = true) : 0 ≤ p.limit ∧ p.limit ≤ 65535 := by
  obtain ⟨⟨_, _, _, _, _, _, h5⟩, _⟩ := h
  have h5 : vField true (hasK p.kind 5) p.limit := h5
  rw [e] at h5
  exact h5
theorem two_rp {w W : World} {v : Value} {X : List UInt8} {m : Nat} {cs : Array Value} (n : Nat) (h : Hid (RpAt w W v X m cs)) (hX : X.length ≤ 900000) (hn : n < 65536) :
    Calls Try.prog 21 #[v, .int .i64 (n : Nat)] W fun e w' => ∃ v', e = .returned v' ∧ Hid (RpAt w w' v' (X ++ nb (n : Nat) 2) m cs) := by
  refine (two_any w W v X n h.out.own hX hn).mono ?_
  rintro e w' ⟨v', e1, o, s⟩
  exact ⟨v', e1, h.out.s5 o.out s.out⟩
theorem step_out {ops : Array Oper} {o : Oper} {a : Act} {K : Act → World → Prop} {Q : Exit → Act → World → Prop} {E : Prop} (hgd : o.guard = none) (s x : Operand)
    (ho : o.op = .call { callee := .builtin .append, args := #[s, x], argTypes := #[23, 23] }) (w0 w : World) (v : Value) (l : List UInt8) (hs : a.eval s = v) (hown : OwnB w0 w v l)
    (A : Option Addr) (m c : Nat) (l2 : List UInt8) (hx : a.eval x = .slice A m c) (hB : IsB w A m c l2) (h48 : l.length + m ≤ 140737488355328)
    (hK : ∀ v' w', Hid (OwnB w0 w' v' (l ++ l2)) → Hid (S5 w w') → K (a.put o.dst v') w') : if Region.wanted o (yielded ops a.tmps) = true then Oper.wp Try.prog o a w K Q else E := by
  have hw : Region.wanted o (yielded ops a.tmps) = true := by simp [Region.wanted, hgd]
  rw [if_pos hw]
  rcases A with _ | ad
  · have hm : m = 0 := by
      rcases Nat.eq_zero_or_pos m with h0 | h0
      · exact h0
      · obtain ⟨ad, e, _⟩ := hB.lies (by rw [hB.len]; exact h0)
        cases e
    subst hm
    obtain rfl : l2 = [] := List.eq_nil_of_length_eq_zero hB.len
    have hrun := run_append_nilc (ty := o.type) c hown.own
    unfold Oper.wp
    simp [execOp, ho, resolve, invoke, builtin, hs, hx, hrun, Result.andThen]
    refine hK v w ?_ (S5.refl w)
    show OwnB w0 w v (l ++ [])
    rw [List.append_nil]
    exact hown
  · have hc : ∀ j u, (l2.map bv)[j]? = some u → w.cell? (ad.add j) = some u := by
      intro j u hu
      have hj : j < l2.length := by have e := (List.getElem?_eq_some_iff.1 hu).1; simpa using e
      obtain ⟨ad', e, hc⟩ := hB.lies (by omega)
      cases e
      rw [map_bv_getElem? l2 j hj] at hu
      cases hu
      exact hc j hj
    obtain ⟨v', w', hr, h2, h3, h4, _⟩ := run_append_fresh (ty := o.type) hown.own ad m c (l2.map bv) (by rw [List.length_map, hB.len]) hc (bv_one l2) h48 hown.bel.size
    unfold Oper.wp execOp
    simp only [ho, resolve, invoke, builtin, Sem.run_bind, Sem.run_pure, Result.andThen_ok, List.map_toArray, List.map_cons, List.map_nil, hs, hx, hr]
    refine hK v' w' ⟨?_, hown.bel.grown h3 hown.bel.size (fun k hk => (hown.own.lt k hk).1)⟩ (s5_grown hown.own h3)
    rw [List.length_append, List.map_append, hB.len]
    exact h2
/-- And the part's block, its fields' block. -/
structure RkAt (w W : World) (v : Value) (X : List UInt8) (m : Nat) (cs : Array Value) (xp : Nat) (pc : Array Value) (xh : Nat) (hc : Array Value) : Prop where
  rp : RpAt w W v X m cs
  px : W.heap[xp]? = some (.cells pc 41 (0, 0))
  hx : W.heap[xh]? = some (.cells hc 52 (0, 0))
theorem RkAt.s5 {w W W' : World} {v v' : Value} {X X' : List UInt8} {m xp xh : Nat} {cs pc hc : Array Value} (h : RkAt w W v X m cs xp pc xh hc) (o : OwnB w W' v' X') (s : S5 W W') : RkAt w W' v' X' m cs xp pc xh hc :=
  ⟨h.rp.s5 o s, s.row _ _ _ _ h.px (by decide), s.row _ _ _ _ h.hx (by decide)⟩
theorem RkAt.alloc {w W : World} {v : Value} {X : List UInt8} {m xp xh : Nat} {cs pc hc : Array Value} (h : RkAt w W v X m cs xp pc xh hc) (o : Obj) : RkAt w (W.alloc o) v X m cs xp pc xh hc := h.s5 (h.rp.own.alloc o) (S5.alloc W o)
def bsF (b0 b1 b2 : Bool) (q : Nat) : Bool := if q = 0 then b0 else if q = 1 then b1 else b2
def vsF (s a b : Int) (q : Nat) : Int := if q = 0 then s else if q = 1 then a else b
def opsF (b0 b1 b2 : Bool) (s a b : Int) : Nat → List UInt8
  | 0 => []
  | q + 1 => opsF b0 b1 b2 s a b q ++ opB (bsF b0 b1 b2 q) [b8 (vsF s a b q)]
theorem opB_len (b : Bool) (n : Int) : (opB b [b8 n]).length ≤ 1 := by cases b <;> simp [opB]
theorem opsF_len (b0 b1 b2 : Bool) (s a b : Int) : ∀ q, (opsF b0 b1 b2 s a b q).length ≤ q
  | 0 => Nat.le_refl _
  | q + 1 => by
    have h1 := opsF_len b0 b1 b2 s a b q
    have h2 := opB_len (bsF b0 b1 b2 q) (vsF s a b q)
    show (opsF b0 b1 b2 s a b q ++ opB (bsF b0 b1 b2 q) [b8 (vsF s a b q)]).length ≤ q + 1
    rw [List.length_append]
    omega
theorem RkAt.has {w W : World} {v : Value} {X : List UInt8} {m xp xh : Nat} {cs pc : Array Value} {b0 b1 b2 b3 b4 b5 : Bool} (h : RkAt w W v X m cs xp pc xh #[.bool b0, .bool b1, .bool b2, .bool b3, .bool b4, .bool b5]) (q : Nat) (hq : q < 3) :
    W.cell? ⟨xh, q, none⟩ = some (.bool (bsF b0 b1 b2 q)) := by
  rw [row_cell h.hx q]
  rcases (by omega : q = 0 ∨ q = 1 ∨ q = 2) with rfl | rfl | rfl <;> rfl
theorem one_cell3 {W : World} {xi : Nat} {s a b : Int} (h : W.heap[xi]? = some (.cells #[.int .i64 s, .int .i64 a, .int .i64 b] 3 (0, 0))) (q : Nat) (hq : q < 3) : W.cell? ⟨xi, q, none⟩ = some (.int .i64 (vsF s a b q)) := by
  rw [row_cell h q]
  rcases (by omega : q = 0 ∨ q = 1 ∨ q = 2) with rfl | rfl | rfl <;> rfl
set_option maxRecDepth 10000 in
set_option maxHeartbeats 8000000 in
theorem refPut_good (w : World) (x : Md) (P C Q : Sl) (a : MdAt w w.heap.size x P C Q) (hr : x.right = 0) : Calls Try.prog 9 #[vMd x P C Q] w fun e w' => ∃ v, e = .returned (.tuple #[v, .int .i64 0]) ∧ Hid (OwnB w w' v x.put) := by
  have hR := fun W (b : Below w.heap.size w W) => refRight_md W x P C Q (a.later b)
  rw [hr] at hR
  have hsix := md_six x hr
  have HPB := hid (putB_put x (right_vp x hr))
  have HV := hid (right_vp x hr).2.2.2.2.2.1.2
  have HFB := hid (fun p (hp : p ∈ x.parts) => (refB_put p (HV.out p hp)).trans (prtB_put p (HV.out p hp)).symm)
  have HH : Hid (hdrB x = [b8 x.h, b8 x.m, b8 x.ph, b8 x.pm, b8 (x.parts.length : Nat)]) := rfl
  have aP := a.parts
  have aC := a.code
  have aQ := a.post
  unfold putB at HPB
  generalize hdrB x = hdr at *
  generalize x.put = out at *
  unfold vMd vMdl at hR ⊢
  clear hr a
  obtain ⟨h, m, ph, pm, L, Cl, Ql⟩ := x
  obtain ⟨Pa, Pc⟩ := P
  obtain ⟨Ca, Cc⟩ := C
  obtain ⟨Qa, Qc⟩ := Q
  simp only at *
  obtain ⟨n, hn⟩ : ∃ n, L.length = n := ⟨_, rfl⟩
  obtain ⟨i, hi⟩ : ∃ n, Cl.length = n := ⟨_, rfl⟩
  obtain ⟨j, hj⟩ : ∃ n, Ql.length = n := ⟨_, rfl⟩
  rw [hn] at aP
  rw [hi] at aC
  rw [hj] at aQ
  rw [hn, hi, hj] at hR hsix ⊢
  rw [hn] at HH
  rw [hi, hj] at HPB
  have HR := hid hR
  have HA := hid (And.intro aP (And.intro aC aQ))
  have hCc := aC.cap
  have hQc := aQ.cap
  have hPc := aP.cap
  have hCm := aC.max
  have hQm := aQ.max
  have hPm := aP.max
  unfold maxLen at hCm hQm hPm
  have HLN := hid (And.intro hn (And.intro hi hj))
  clear hR aP aC aQ hn hi hj
  have q1 := b8_int h
  have q2 := b8_int m
  have q3 := b8_int ph
  have q4 := b8_int pm
  have q5 := b8_int (n : Nat)
  go_enter Try.func9, Try.ntmps9
  go_upto_region 4 with (go_at_call 13; refine (HR.out _ ((Below.refl _ _).alloc (Nat.le_refl _) _)).mono ?_; rintro e w2 ⟨rfl, b2⟩; have H0 := hid (refPut_start b2 (b8 h) (b8 m) (b8 ph) (b8 pm) (b8 (n : Nat))); have B0 := hid (box_after b2); clear b2)
  have d0 := row_cell B0.out 0
  have d1 := row_cell B0.out 1
  have d2 := row_cell B0.out 2
  have d3 := row_cell B0.out 3
  have d4 := row_cell B0.out 4
  simp only [List.getElem?_toArray, List.getElem?_cons_zero, List.getElem?_cons_succ] at d0 d1 d2 d3 d4
  rw [← HH.out] at H0
  go_upto_block 0 with fail
  clear d0 d1 d2 d3 d4 q1 q2 q3 q4 q5 B0
  generalize hxm : w.heap.size = xm at *
  have HXM := hid hxm
  clear hxm
  unfold bv at H0
  generalize w2.alloc (.cells _ 5) = W3 at *
  generalize w2.heap.size = g at *
  clear w2
  have d4 : W3.cell? ⟨xm, 4, none⟩ = some (.slice Pa n Pc) := row_cell H0.out.rm 4
  go_cut [5, 6, 7, 8, 9, 10, 11] from 34 to 99 (fun v5 _ _ _ _ _ _ wx => Hid (RpAt w wx v5 (hdr ++ L.flatMap refB) xm #[.int .i64 h, .int .i64 m, .int .i64 ph, .int .i64 pm, .slice Pa n Pc, .slice Ca i Cc, .slice Qa j Qc]))
  case first =>
    go_wp2_with fail
    go_loopw [5, 6] (fun vo vi wr => ∃ (k : Nat) (v : Value), k ≤ n ∧ vi = .int .i64 (k : Nat) ∧ vo = v ∧ Hid (RpAt w wr v (hdr ++ (L.take k).flatMap refB) xm #[.int .i64 h, .int .i64 m, .int .i64 ph, .int .i64 pm, .slice Pa n Pc, .slice Ca i Cc, .slice Qa j Qc])) (fun _ vi _ => n - (intOf vi).toNat)
    case atStart => exact ⟨0, _, Nat.zero_le _, rfl, rfl, by rw [List.take_zero, List.flatMap_nil, List.append_nil]; exact H0⟩
    case round =>
      obtain ⟨k, v, hk, rfl, rfl, hs⟩ := hrel
      clear H0 d4
      obtain ⟨wo, hwo⟩ : ∃ wo, wo = wr := ⟨_, rfl⟩
      rw [← hwo] at hs ⊢
      clear hwo wr
      have e4 : wo.cell? ⟨xm, 4, none⟩ = some (.slice Pa n Pc) := row_cell hs.out.rm 4
      by_cases hgo : k < n
      · have hz : (k : Int) < (n : Int) := by omega
        have hbel : Below xm w wo := by rw [← HXM.out]; exact hs.out.own.bel
        obtain ⟨ad, p, hA0, hl, hp, a1⟩ := (HA.out.1.below hbel).at k hgo
        clear hbel
        have hkl : k < L.length := by rw [HLN.out.1]; exact hgo
        have hpe : L[k] = p := by
          rw [List.getElem?_eq_getElem hkl] at hp
          injection hp
        have HX : Hid (hdr ++ (L.take (k + 1)).flatMap refB = hdr ++ (L.take k).flatMap refB ++ refB p) := by
          unfold Hid
          rw [List.take_succ_eq_append_getElem hkl, List.flatMap_append, hpe, List.append_assoc]
          simp
        have hXl : Hid ((hdr ++ (L.take k).flatMap refB).length ≤ 10 + 160) := by
          unfold Hid
          have h1 := flat_len refB 10 refB_len (L.take k)
          rw [List.length_take] at h1
          rw [List.length_append, HH.out]
          simp only [List.length_cons, List.length_nil]
          omega
        have hvp := hid (HV.out p (hpe ▸ List.getElem_mem hkl))
        generalize hdr ++ (L.take k).flatMap refB = X at *
        obtain ⟨k0, k1, k2, k3, k4, k5, k6⟩ := a1
        subst hA0
        have hkind : p.kind < 256 := hvp.out.1.1.2 |> fun h => Nat.lt_of_le_of_lt h (by decide)
        clear hpe hp hl hkl
        go_upto_region 9 with fail
        have hxp := hid (heap_alloc_new wo (.cells #[.int .u8 p.kind, .int .i64 p.size, .int .i64 p.a, .int .i64 p.b, .int .i64 p.c, .int .i64 p.rate, .int .i64 p.limit] 41))
        have H3 := hid (hs.out.alloc (.cells #[.int .u8 p.kind, .int .i64 p.size, .int .i64 p.a, .int .i64 p.b, .int .i64 p.c, .int .i64 p.rate, .int .i64 p.limit] 41))
        clear k0 k1 k2 k3 k4 k5 k6 hs e4
        generalize wo.alloc (.cells #[.int .u8 p.kind, .int .i64 p.size, .int .i64 p.a, .int .i64 p.b, .int .i64 p.c, .int .i64 p.rate, .int .i64 p.limit] 41) = w5 at *
        generalize wo.heap.size = xp at *
        clear wo
        have c0 : w5.cell? ⟨xp, 0, none⟩ = some (.int .u8 (p.kind : Nat)) := row_cell hxp.out 0
        have HC := hid (Has_any p.kind hkind w5)
        unfold hasV at HC
        go_upto_region 10 with (go_at_call 20; refine HC.out.mono ?_; rintro e w6 ⟨rfl, b6⟩; have H6 := hid (H3.out.below b6); have hx6 := hid ((b6.block _ (lt_of_heap hxp.out)).trans hxp.out); clear b6)
        clear HC c0 hxp H3
        have HB : Hid (refB p = [b8 (p.kind : Nat)] ++ (opB (hasK p.kind 0) [b8 p.size] ++ (opB (hasK p.kind 1) [b8 p.a] ++ (opB (hasK p.kind 2) [b8 p.b] ++ (opB (hasK p.kind 3) (nb (p.c + 2048) 2) ++ (opB (hasK p.kind 4) [b8 p.rate] ++ opB (hasK p.kind 5) (nb p.limit 2))))))) := rfl
        have hb3 := hid (vp3 p hvp.out)
        have hb5 := hid (vp5 p hvp.out)
        generalize hasK p.kind 0 = b0 at *
        generalize hasK p.kind 1 = b1 at *
        generalize hasK p.kind 2 = b2 at *
        generalize hasK p.kind 3 = b3 at *
        generalize hasK p.kind 4 = b4 at *
        generalize hasK p.kind 5 = b5 at *
        have hxh := hid (heap_alloc_new w6 (.cells #[.bool b0, .bool b1, .bool b2, .bool b3, .bool b4, .bool b5] 52))
        have H7 := hid (H6.out.alloc (.cells #[.bool b0, .bool b1, .bool b2, .bool b3, .bool b4, .bool b5] 52))
        have hx7 := hid ((heap_alloc_old w6 (.cells #[.bool b0, .bool b1, .bool b2, .bool b3, .bool b4, .bool b5] 52) (lt_of_heap hx6.out)).trans hx6.out)
        clear H6 hx6
        generalize w6.alloc (.cells #[.bool b0, .bool b1, .bool b2, .bool b3, .bool b4, .bool b5] 52) = w7 at *
        generalize w6.heap.size = xh at *
        clear w6
        have c0 : w7.cell? ⟨xp, 0, none⟩ = some (.int .u8 (p.kind : Nat)) := row_cell hx7.out 0
        have hk8 : Hid (((p.kind : Nat) : Int) = ((b8 (p.kind : Nat)).toNat : Int)) := by unfold Hid; rw [← b8_int]; show _ = ((p.kind : Nat) : Int) % 256; omega
        go_upto_region 11 with (at_builtin; go_loud (refine wpList_out rfl (.tmp 52) (.tmp 55) rfl w _ X rfl (H7.out.own.alloc _) _ 1 1 [b8 (p.kind : Nat)] rfl (one_isB w7 _ _ hk8.out) (by have := hXl.out; omega) ?_); intro v8 W8 hv8 hs8)
        have hs8' := hid ((S5.alloc w7 _).trans hs8.out)
        clear hs8
        have K8 := hid (RkAt.s5 (RkAt.mk H7.out hx7.out hxh.out) hv8.out hs8'.out)
        clear H7 hx7 hxh c0 hk8 hs8' hv8
        generalize w7.heap.size = x7 at *
        clear w7
        have c1 : W8.cell? ⟨xp, 1, none⟩ = some (.int .i64 p.size) := row_cell K8.out.px 1
        have c2 : W8.cell? ⟨xp, 2, none⟩ = some (.int .i64 p.a) := row_cell K8.out.px 2
        have c3 : W8.cell? ⟨xp, 3, none⟩ = some (.int .i64 p.b) := row_cell K8.out.px 3
        go_upto_block 2 with fail
        have K9 := hid (K8.out.alloc (.cells #[.int .i64 p.size, .int .i64 p.a, .int .i64 p.b] 3))
        have hxi := hid (heap_alloc_new W8 (.cells #[.int .i64 p.size, .int .i64 p.a, .int .i64 p.b] 3))
        clear c1 c2 c3 K8
        generalize W8.alloc (.cells #[.int .i64 p.size, .int .i64 p.a, .int .i64 p.b] 3) = W9 at *
        generalize W8.heap.size = xi at *
        clear W8
        go_cut [5, 11] from 64 to 78 (fun v5 _ wx => Hid (RkAt w wx v5 (X ++ [b8 (p.kind : Nat)] ++ opsF b0 b1 b2 p.size p.a p.b 3) xm #[.int .i64 h, .int .i64 m, .int .i64 ph, .int .i64 pm, .slice (some ad) n Pc, .slice Ca i Cc, .slice Qa j Qc] xp #[.int .u8 p.kind, .int .i64 p.size, .int .i64 p.a, .int .i64 p.b, .int .i64 p.c, .int .i64 p.rate, .int .i64 p.limit] xh #[.bool b0, .bool b1, .bool b2, .bool b3, .bool b4, .bool b5]))
        case first =>
          go_wp2_with fail
          go_loopw [5, 11] (fun vo vi wr => ∃ (q : Nat) (v : Value), q ≤ 3 ∧ vi = .int .i64 (q : Nat) ∧ vo = v ∧ Hid (RkAt w wr v (X ++ [b8 (p.kind : Nat)] ++ opsF b0 b1 b2 p.size p.a p.b q) xm #[.int .i64 h, .int .i64 m, .int .i64 ph, .int .i64 pm, .slice (some ad) n Pc, .slice Ca i Cc, .slice Qa j Qc] xp #[.int .u8 p.kind, .int .i64 p.size, .int .i64 p.a, .int .i64 p.b, .int .i64 p.c, .int .i64 p.rate, .int .i64 p.limit] xh #[.bool b0, .bool b1, .bool b2, .bool b3, .bool b4, .bool b5]) ∧ Hid (wr.heap[xi]? = some (.cells #[.int .i64 p.size, .int .i64 p.a, .int .i64 p.b] 3 (0, 0)))) (fun _ vi _ => 3 - (intOf vi).toNat)
          case atStart => exact ⟨0, _, Nat.zero_le _, rfl, rfl, by rw [show opsF b0 b1 b2 p.size p.a p.b 0 = [] from rfl, List.append_nil]; exact K9, hxi⟩
          case round =>
            obtain ⟨q, v, hq, rfl, rfl, hs, hi9⟩ := hrel
            clear K9 hxi
            obtain ⟨wo, hwo⟩ : ∃ wo, wo = wr := ⟨_, rfl⟩
            rw [← hwo] at hs hi9 ⊢
            clear hwo wr
            by_cases hgq : q < 3
            · have hz2 : (q : Int) < 3 := by omega
              have y1 := hs.out.has q hgq
              have y2 := one_cell3 hi9.out q hgq
              have HO : Hid (opsF b0 b1 b2 p.size p.a p.b (q + 1) = opsF b0 b1 b2 p.size p.a p.b q ++ opB (bsF b0 b1 b2 q) [b8 (vsF p.size p.a p.b q)]) := rfl
              have HOl := hid (opsF_len b0 b1 b2 p.size p.a p.b q)
              generalize bsF b0 b1 b2 q = bq at *
              generalize vsF p.size p.a p.b q = vq at *
              have q8 := b8_int vq
              cases bq
              · go_wp2_with fail
                go_roundw
                case rel => exact ⟨q + 1, _, by omega, by go_num, rfl, by rw [HO.out]; simpa [opB] using hs, hi9⟩
                case measure => simp [intOf]; omega
              · go_wp2_with (at_builtin; go_loud (refine wpList_out rfl (.tmp 71) (.tmp 77) rfl w _ _ rfl (hs.out.rp.own.alloc _) _ 1 1 [b8 vq] rfl (one_isB wo _ _ rfl) (by have := hXl.out; have := HOl.out; simp only [List.length_append, List.length_cons, List.length_nil] at *; omega) ?_); intro v8 W8 hv8 hs8)
                go_roundw
                case rel => exact ⟨q + 1, _, by omega, by go_num, rfl, by rw [HO.out, ← List.append_assoc]; exact hs.out.s5 hv8.out ((S5.alloc wo _).trans hs8.out), ((S5.alloc wo _).trans hs8.out).row _ _ _ _ hi9.out (by decide)⟩
                case measure => simp [intOf]; omega
            · obtain rfl : q = 3 := by omega
              go_wp2_with fail
              go_meet
              exact hs
        case rest =>
          clear K9 hxi
          have K10 := hcut
          have hlen : Hid ((X ++ [b8 (p.kind : Nat)] ++ opsF b0 b1 b2 p.size p.a p.b 3).length ≤ 200) := by
            unfold Hid
            have h1 := opsF_len b0 b1 b2 p.size p.a p.b 3
            have h2 := hXl.out
            simp only [List.length_append, List.length_cons, List.length_nil] at *
            omega
          have HB2 : Hid (X ++ refB p = X ++ [b8 (p.kind : Nat)] ++ opsF b0 b1 b2 p.size p.a p.b 3 ++ opB b3 (nb (p.c + 2048) 2) ++ opB b4 [b8 p.rate] ++ opB b5 (nb p.limit 2)) := by
            unfold Hid
            rw [HB.out, show opsF b0 b1 b2 p.size p.a p.b 3 = opB b0 [b8 p.size] ++ opB b1 [b8 p.a] ++ opB b2 [b8 p.b] from rfl]
            simp only [List.append_assoc]
          generalize X ++ [b8 (p.kind : Nat)] ++ opsF b0 b1 b2 p.size p.a p.b 3 = X1 at *
          clear hcut
          have y3 := row_cell K10.out.hx 3
          have y4 := row_cell K10.out.px 4
          simp only [List.getElem?_toArray, List.getElem?_cons_zero, List.getElem?_cons_succ] at y3 y4
          go_upto_if 80 with fail
          go_cut [5] from 81 to 85 (fun v5 wx => Hid (RkAt w wx v5 (X1 ++ opB b3 (nb (p.c + 2048) 2)) xm #[.int .i64 h, .int .i64 m, .int .i64 ph, .int .i64 pm, .slice (some ad) n Pc, .slice Ca i Cc, .slice Qa j Qc] xp #[.int .u8 p.kind, .int .i64 p.size, .int .i64 p.a, .int .i64 p.b, .int .i64 p.c, .int .i64 p.rate, .int .i64 p.limit] xh #[.bool b0, .bool b1, .bool b2, .bool b3, .bool b4, .bool b5]))
          case first =>
            cases b3
            · go_wp2_with fail
              go_meet
              simpa [opB] using K10
            · have hc := hb3.out rfl
              have hc1 := hc.1
              have hc2 := hc.2
              go_wp2_with (go_at_call 21; refine (two_int w _ _ X1 (p.c + 2048) K10.out.rp.own (by have := hlen.out; omega) hc).mono ?_; rintro e W8 ⟨v8, rfl, hv8, hs8⟩)
              go_meet
              exact K10.out.s5 hv8.out hs8.out
          case rest =>
            clear K10 y3 y4
            have K11 := hcut
            clear hcut
            have hlen1 : Hid ((X1 ++ opB b3 (nb (p.c + 2048) 2)).length ≤ 202) := by
              unfold Hid
              have h2 := hlen.out
              have h3 : (opB b3 (nb (p.c + 2048) 2)).length ≤ 2 := by cases b3 <;> simp [opB, nb]
              rw [List.length_append]
              omega
            generalize X1 ++ opB b3 (nb (p.c + 2048) 2) = X2 at *
            have y3 := row_cell K11.out.hx 4
            have y4 := row_cell K11.out.px 5
            simp only [List.getElem?_toArray, List.getElem?_cons_zero, List.getElem?_cons_succ] at y3 y4
            go_upto_if 87 with fail
            go_cut [5] from 88 to 93 (fun v5 wx => Hid (RkAt w wx v5 (X2 ++ opB b4 [b8 p.rate]) xm #[.int .i64 h, .int .i64 m, .int .i64 ph, .int .i64 pm, .slice (some ad) n Pc, .slice Ca i Cc, .slice Qa j Qc] xp #[.int .u8 p.kind, .int .i64 p.size, .int .i64 p.a, .int .i64 p.b, .int .i64 p.c, .int .i64 p.rate, .int .i64 p.limit] xh #[.bool b0, .bool b1, .bool b2, .bool b3, .bool b4, .bool b5]))
            case first =>
              have q8 := b8_int p.rate
              cases b4
              · go_wp2_with fail
                go_meet
                simpa [opB] using K11
              · go_wp2_with (at_builtin; go_loud (refine wpList_out rfl (.tmp 88) (.tmp 92) rfl w _ X2 rfl (K11.out.rp.own.alloc _) _ 1 1 [b8 p.rate] rfl (one_isB _ _ _ rfl) (by have := hlen1.out; omega) ?_); intro v8 W8 hv8 hs8)
                go_meet
                exact K11.out.s5 hv8.out ((S5.alloc _ _).trans hs8.out)
            case rest =>
              clear K11 y3 y4
              have K12 := hcut
              clear hcut
              have hlen2 : Hid ((X2 ++ opB b4 [b8 p.rate]).length ≤ 203) := by
                unfold Hid
                have h2 := hlen1.out
                have h3 := opB_len b4 p.rate
                rw [List.length_append]
                omega
              generalize X2 ++ opB b4 [b8 p.rate] = X3 at *
              have y3 := row_cell K12.out.hx 5
              have y4 := row_cell K12.out.px 6
              simp only [List.getElem?_toArray, List.getElem?_cons_zero, List.getElem?_cons_succ] at y3 y4
              cases b5
              · go_wp2_with fail
                go_roundw
                case rel => exact ⟨k + 1, _, by omega, by go_num, rfl, by rw [HX.out, HB2.out]; simpa [opB] using hid K12.out.rp⟩
                case measure => simp [intOf]; omega
              · have hc := hb5.out rfl
                have hc1 := hc.1
                have hc2 := hc.2
                go_wp2_with (go_at_call 21; refine (two_int w _ _ X3 p.limit K12.out.rp.own (by have := hlen2.out; omega) hc).mono ?_; rintro e W8 ⟨v8, rfl, hv8, hs8⟩)
                go_roundw
                case rel => exact ⟨k + 1, _, by omega, by go_num, rfl, by rw [HX.out, HB2.out]; exact (K12.out.s5 hv8.out hs8.out).rp⟩
                case measure => simp [intOf]; omega
      · obtain rfl : k = n := by omega
        have e : L.take k = L := List.take_of_length_le (by rw [HLN.out.1]; exact Nat.le_refl _)
        rw [e] at hs
        go_wp2_with fail
        go_meet
        exact hs
  case rest =>
    clear H0 d4
    have K0 : Hid (RpAt w wc u5 (hdr ++ L.flatMap refB) xm #[.int .i64 h, .int .i64 m, .int .i64 ph, .int .i64 pm, .slice Pa n Pc, .slice Ca i Cc, .slice Qa j Qc]) := hcut
    clear hcut
    rw [flat_congr _ fun p hp => HFB.out p hp] at K0
    have hXl : Hid ((hdr ++ L.flatMap prtB).length ≤ 10 + 160) := by
      unfold Hid
      have h1 := flat_len prtB 10 prtB_len L
      have h2 := HLN.out.1
      rw [List.length_append, HH.out]
      simp only [List.length_cons, List.length_nil]
      omega
    generalize hdr ++ L.flatMap prtB = X at *
    have K0d := hid K0.out.drew
    have d5 : wc.cell? ⟨xm, 5, none⟩ = some (.slice Ca i Cc) := row_cell K0.out.rm 5
    have hBc : ∀ (W : World) (v : Value) (Y : List UInt8), Hid (RpAt w W v Y xm #[.int .i64 h, .int .i64 m, .int .i64 ph, .int .i64 pm, .slice Pa n Pc, .slice Ca i Cc, .slice Qa j Qc]) → IsB W Ca i Cc Cl ∧ IsB W Qa j Qc Ql := fun W _ _ K => by
      have hb : Below xm w W := by rw [← HXM.out]; exact K.out.own.bel
      exact ⟨(HA.out.2.1.below hb).toIsB, (HA.out.2.2.below hb).toIsB⟩
    have hBc := hid hBc
    have hi := hsix.1
    have hj := hsix.2.1
    go_upto_region 23 with fail
    go_cut [5] from 100 to 107 (fun v5 wx => Hid (RpAt w wx v5 (X ++ (nb (i : Nat) 2 ++ Cl)) xm #[.int .i64 h, .int .i64 m, .int .i64 ph, .int .i64 pm, .slice Pa n Pc, .slice Ca i Cc, .slice Qa j Qc]))
    case first =>
      go_region_law (first
        | (go_simp; go_at_call 21; (first | (with_reducible refine (two_rp i K0 (by have := hXl.out; omega) (by omega)).mono ?_) | (with_reducible refine (two_rp i K0d (by have := hXl.out; omega) (by omega)).mono ?_)); rintro e W8 ⟨v8, rfl, K8⟩; have K8d := hid K8.out.drew; have d58 : W8.cell? ⟨xm, 5, none⟩ = some (.slice Ca i Cc) := row_cell K8.out.rm 5)
        | (refine step_out rfl (.tmp 104) (.tmp 106) rfl w _ _ _ rfl K8.out.own Ca i Cc Cl rfl (hBc.out _ _ _ K8).1 (by have := hXl.out; have := nb_len (i : Nat) 2; rw [List.length_append]; omega) ?_; intro v9 W9 hv9 hs9))
      all_goals
        have K9 := hid (K8.out.s5 hv9.out hs9.out)
        rw [List.append_assoc] at K9
        go_wp2_with fail
        go_meet
        exact K9
    case rest =>
      have K1 := hcut
      clear hcut d5 K0 K0d
      have hX2 : Hid ((X ++ (nb (i : Nat) 2 ++ Cl)).length ≤ 5000) := by
        unfold Hid
        have h1 := hXl.out
        have h2 := HLN.out.2.1
        have h3 := nb_len (i : Nat) 2
        rw [List.length_append, List.length_append]
        omega
      generalize X ++ (nb (i : Nat) 2 ++ Cl) = X2 at *
      have K1d := hid K1.out.drew
      have d6 := row_cell K1.out.rm 6
      simp only [List.getElem?_toArray, List.getElem?_cons_zero, List.getElem?_cons_succ] at d6
      go_upto_region 24 with fail
      go_region_law (first
        | (go_simp; go_at_call 21; (first | (with_reducible refine (two_rp j K1 (by have := hX2.out; omega) (by omega)).mono ?_) | (with_reducible refine (two_rp j K1d (by have := hX2.out; omega) (by omega)).mono ?_)); rintro e W8 ⟨v8, rfl, K8⟩; have K8d := hid K8.out.drew; have d68 : W8.cell? ⟨xm, 6, none⟩ = some (.slice Qa j Qc) := row_cell K8.out.rm 6)
        | (refine step_out rfl (.tmp 112) (.tmp 114) rfl w _ _ _ rfl K8.out.own Qa j Qc Ql rfl (hBc.out _ _ _ K8).2 (by have := hX2.out; have := nb_len (j : Nat) 2; rw [List.length_append]; omega) ?_; intro v9 W9 hv9 hs9))
      all_goals
        rw [List.append_assoc, HPB.out] at hv9
        go_wp2_with fail
        go_ret2
        exact ⟨v9, rfl, hv9⟩
end Go.Proofs.Ytnanmdfbgoahjaa
