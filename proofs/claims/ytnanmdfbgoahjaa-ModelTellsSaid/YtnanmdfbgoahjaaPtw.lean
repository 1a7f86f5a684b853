/-
  Put, the program's: its walk.
-/
import Derived.Test.YtnanmdfbgoahjaaPtb
import Derived.Test.YtnanmdfbgoahjaaRgm
import Derived.Test.YtnanmdfbgoahjaaGtm
import Derived.Deep.CutRange
import Derived.Deep.CutBlock
import Derived.Deep.RegionHeld3
namespace Go.Proofs.Ytnanmdfbgoahjaa
open Go.RowKit

theorem md_six (x : Md) (h : x.right = 0) : x.code.length ≤ 4096 ∧ x.post.length ≤ 4096 ∧ x.parts.length ≤ 16 := by
  rw [md_right] at h
  split at h
  · exact absurd h (by decide)
  next h1 =>
    have h1 := Classical.not_not.1 h1
    split at h
    · exact absurd h (by decide)
    · split at h
      · exact absurd h (by decide)
      · have h := (rightP_ok _).1 h
        exact ⟨h1.2.2.2.2.1, h1.2.2.2.2.2, h.1.2⟩
set_option maxRecDepth 10000 in
set_option maxHeartbeats 8000000 in
theorem Put_bad (w : World) (x : Md) (P C Q : Sl) (a : MdAt w w.heap.size x P C Q) (hr : x.right ≠ 0) : Calls Try.prog 8 #[vMd x P C Q] w fun e w' => e = .returned (.tuple #[.slice none 0 0, .int .i64 x.right]) ∧ Below w.heap.size w w' := by
  have hR := fun W (b : Below w.heap.size w W) => Right_md W x P C Q (a.later b)
  unfold vMd vMdl at hR ⊢
  generalize x.right = r at *
  generalize x.parts.length = n at *
  generalize x.code.length = i at *
  generalize x.post.length = j at *
  obtain ⟨h, m, ph, pm, L, Cl, Ql⟩ := x
  simp only at *
  have HR := hid hR
  clear hR a
  go_enter Try.func8, Try.ntmps8
  go_wp2_with (go_at_call 12; refine (HR.out _ ((Below.refl _ _).alloc (Nat.le_refl _) _)).mono ?_; rintro e w2 ⟨rfl, b2⟩)
  go_ret2
  exact ⟨rfl, ((Below.refl _ _).alloc (Nat.le_refl _) _).trans (b2.mono (by simp))⟩
theorem number1_any {w0 w : World} {g : Nat} {v : Value} {X : List UInt8} (n : Int) (h : PuAt w0 w g v X) (hX : X.length ≤ 900000) : Calls Try.prog 18 #[.int .i64 n, .int .i64 1, .pointer (some ⟨g, 0, none⟩)] w fun e w' => e = .returned noResult ∧ ∃ v', PuAt w0 w' g v' (X ++ nb n 1) ∧ Sty g w w' := number_any n 1 (.inl rfl) h hX
theorem number2_any {w0 w : World} {g : Nat} {v : Value} {X : List UInt8} (n : Int) (h : PuAt w0 w g v X) (hX : X.length ≤ 900000) : Calls Try.prog 18 #[.int .i64 n, .int .i64 2, .pointer (some ⟨g, 0, none⟩)] w fun e w' => e = .returned noResult ∧ ∃ v', PuAt w0 w' g v' (X ++ nb n 2) ∧ Sty g w w' := number_any n 2 (.inr rfl) h hX
theorem PuAt.below {w0 w w' : World} {g : Nat} {v : Value} {X : List UInt8} (h : PuAt w0 w g v X) (b : Below w.heap.size w w') : PuAt w0 w' g v X :=
  ⟨own_row2 h.own fun _ _ hg => b.block _ (lt_of_heap hg), (b.block _ (lt_of_heap h.row)).trans h.row, h.low, h.bel.trans (b.mono h.bel.size)⟩
theorem PuAt.drew {w0 w : World} {g : Nat} {v : Value} {X : List UInt8} (h : PuAt w0 w g v X) : PuAt w0 w.drew g v X := ⟨h.own, h.row, h.low, h.bel.drew⟩
theorem nb_len (n : Int) (b : Nat) : (nb n b).length ≤ 2 := by unfold nb; split <;> simp
theorem flat_len {α : Type} (f : α → List UInt8) (k : Nat) (hf : ∀ a, (f a).length ≤ k) : ∀ L : List α, (L.flatMap f).length ≤ k * L.length
  | [] => by simp
  | a :: L => by
    have := flat_len f k hf L
    have := hf a
    rw [List.flatMap_cons, List.length_append, List.length_cons, Nat.mul_add]
    omega
theorem prtB_len (p : Pt) : (prtB p).length ≤ 10 := by
  unfold prtB
  have h1 := nb_len (p.kind : Nat) 1
  have h2 := flat_len (fieldB p) 2 (fun f => nb_len _ _) (fldL p.kind)
  have h3 := (fldL_ok p.kind).1
  rw [List.length_append]
  omega
theorem vp_field (p : Pt) (h : p.vp) : ∀ x ∈ fldL p.kind, 0 ≤ p.get1 x.1 + ((x.2.2 : Nat) : Int) ∧ p.get1 x.1 + ((x.2.2 : Nat) : Int) ≤ 65535 := by
  obtain ⟨⟨hk, hv⟩, _⟩ := h
  obtain ⟨k, s, a, b, c, r, l⟩ := p
  simp only at hk hv ⊢
  have : k = 1 ∨ k = 2 ∨ k = 3 ∨ k = 4 ∨ k = 5 ∨ k = 6 ∨ k = 7 ∨ k = 8 ∨ k = 9 := by omega
  rcases this with e | e | e | e | e | e | e | e | e <;> subst e <;>
    simp [vSix, vField, hasK, ofPt] at hv <;>
    simp [fldL, Pt.get1] <;> omega
theorem get1_cell (p : Pt) (f : Nat) (hf : 1 ≤ f ∧ f ≤ 6) : (cellsP p)[f]? = some (.int .i64 (p.get1 f)) := by
  rcases (by omega : f = 1 ∨ f = 2 ∨ f = 3 ∨ f = 4 ∨ f = 5 ∨ f = 6) with e | e | e | e | e | e <;> subst e <;> rfl
/-- Put's 'out' and its model's block m. -/
structure PxAt (w0 w : World) (g : Nat) (v : Value) (X : List UInt8) (m : Nat) (cs : Array Value) : Prop where
  pu : PuAt w0 w g v X
  rm : w.heap[m]? = some (.cells cs 25 (0, 0))
theorem PxAt.sty {w0 w w' : World} {g : Nat} {v v' : Value} {X X' : List UInt8} {m : Nat} {cs : Array Value} (h : PxAt w0 w g v X m cs) (k : PuAt w0 w' g v' X') (s : Sty g w w') : PxAt w0 w' g v' X' m cs :=
  ⟨k, s.row h.rm (row_ne h.rm h.pu.row (by decide)) (by decide)⟩
theorem PxAt.below {w0 w w' : World} {g : Nat} {v : Value} {X : List UInt8} {m : Nat} {cs : Array Value} (h : PxAt w0 w g v X m cs) (b : Below w.heap.size w w') : PxAt w0 w' g v X m cs := ⟨h.pu.below b, (b.block _ (lt_of_heap h.rm)).trans h.rm⟩
theorem put_start {w w2 : World} {cs : Array Value} (b2 : Below (w.alloc (.cells cs 25)).heap.size (w.alloc (.cells cs 25)) w2) : PxAt w (w2.alloc (.cells #[.slice none 0 0] 23)) w2.heap.size (.slice none 0 0) [] w.heap.size cs := by
  have hz : (w.alloc (.cells cs 25)).heap.size = w.heap.size + 1 := by simp
  have h1 := heap_alloc_new w (.cells cs 25)
  have h2 : w2.heap[w.heap.size]? = some (.cells cs 25 (0, 0)) := (b2.block _ (by rw [hz]; exact Nat.lt_succ_self _)).trans h1
  have hs := b2.size
  have hb : Below w.heap.size w w2 := bel_alloc b2
  exact ⟨⟨World.ownsRow_nil _ _ _ _, heap_alloc_new w2 _, hb.size, hb.alloc hb.size _⟩, (heap_alloc_old w2 _ (lt_of_heap h2)).trans h2⟩
theorem after_put {w0 w7 W w8 : World} {g m x y f : Nat} {v v8 a b d u : Value} {X X8 : List UInt8} {cs cs2 : Array Value} (H : PxAt w0 W g v X m cs) (hx : W.heap[x]? = some (.cells #[a, b, d] 50 (0, 0))) (hy : W.heap[y]? = some (.cells cs2 41 (0, 0)))
    (hf : W.cell? ⟨y, f, none⟩ = some u) (HB : Sty g w7 W) (p8 : PuAt w0 w8 g v8 X8) (s8 : Sty g W.drew w8) :
    (w8.cell? ⟨x, 0, none⟩ = some a ∧ w8.cell? ⟨x, 1, none⟩ = some b ∧ w8.cell? ⟨x, 2, none⟩ = some d ∧ w8.cell? ⟨y, f, none⟩ = some u) ∧ PxAt w0 w8 g v8 X8 m cs ∧ Sty g w7 w8 := by
  have s9 : Sty g W w8 := ⟨s8.size, s8.block⟩
  have hx8 := s9.row hx (row_ne hx H.pu.row (by decide)) (by decide)
  have hy8 := s9.row hy (row_ne hy H.pu.row (by decide)) (by decide)
  refine ⟨⟨row_cell hx8 0, row_cell hx8 1, row_cell hx8 2, ?_⟩, H.sty p8 s9, HB.trans s9⟩
  rw [row_cell hy f] at hf
  rw [row_cell hy8 f]
  exact hf
theorem wpList_put {ops : Array Oper} {rest : List Oper} {o : Oper} {a : Act} {Q : Exit → Act → World → Prop} (hgd : o.guard = none) (s x : Operand)
    (ho : o.op = .call { callee := .builtin .append, args := #[s, x], argTypes := #[23, 23] }) (v : Value) (A : Option Addr) (m c : Nat) (hs : a.eval s = v) (hx : a.eval x = .slice A m c) (w w' : World) (v' : Value)
    (hr : ∀ ty, (Builtin.append_ #[23, 23] ty #[v, .slice A m c]).run Try.prog w = .ok v' w') (h : wpList Try.prog ops Q rest (a.put o.dst v') w') : wpList Try.prog ops Q (o :: rest) a w := by
  refine wpList_plain hgd fun K hK => ?_
  have hrun := hr o.type
  unfold Oper.wp
  simp [execOp, ho, resolve, invoke, builtin, hs, hx, hrun, Result.andThen]
  exact hK _ _ h
theorem Sty.row23 {w0 w w' : World} {g k : Nat} {v : Value} {X : List UInt8} {cs : Array Value} (h : Sty g w w') (hk : w.heap[k]? = some (.cells cs 23 (0, 0))) (hg : k ≠ g) (_hp : PuAt w0 w g v X) : w'.heap[k]? = some (.cells cs 23 (0, 0)) := h.row hk hg (by decide)
set_option maxRecDepth 10000 in
set_option maxHeartbeats 8000000 in
theorem Put_good (w : World) (x : Md) (P C Q : Sl) (a : MdAt w w.heap.size x P C Q) (hr : x.right = 0) : Calls Try.prog 8 #[vMd x P C Q] w fun e w' => ∃ v, e = .returned (.tuple #[v, .int .i64 0]) ∧ w'.ownsRow w.heap.size 5 1 v x.put.length (x.put.map bv) ∧ Below w.heap.size w w' := by
  have hR := fun W (b : Below w.heap.size w W) => Right_md W x P C Q (a.later b)
  rw [hr] at hR
  have hsix := md_six x hr
  have HPB := hid (putB_put x (right_vp x hr))
  have HV := hid (right_vp x hr).2.2.2.2.2.1.2
  have HN : Hid ((numsM x).map (Value.int .i64) = [.int .i64 x.h, .int .i64 x.m, .int .i64 x.ph, .int .i64 x.pm, .int .i64 (x.parts.length : Nat)]) := rfl
  have HNl : Hid ((numsM x).length = 5) := rfl
  have HH : Hid (hdrB x = (numsM x).flatMap (fun n => nb n 1)) := rfl
  have aP := a.parts
  have aC := a.code
  have aQ := a.post
  unfold putB at HPB
  generalize numsM x = nums at *
  generalize hdrB x = hdr at *
  generalize x.put = out at *
  unfold vMd vMdl at hR ⊢
  clear hr a
  obtain ⟨h, m, ph, pm, L, Cl, Ql⟩ := x
  obtain ⟨Pa, Pc⟩ := P
  obtain ⟨Ca, Cc⟩ := C
  obtain ⟨Qa, Qc⟩ := Q
  simp only at *
  obtain ⟨n, hn⟩ : ∃ n, L.length = n := ⟨_, rfl⟩
  obtain ⟨i, hi⟩ : ∃ n, Cl.length = n := ⟨_, rfl⟩
  obtain ⟨j, hj⟩ : ∃ n, Ql.length = n := ⟨_, rfl⟩
  rw [hn] at aP
  rw [hi] at aC
  rw [hj] at aQ
  rw [hn, hi, hj] at hR hsix ⊢
  rw [hn] at HN
  rw [hi, hj] at HPB
  have HR := hid hR
  have HA := hid (And.intro aP (And.intro aC aQ))
  have hCc := aC.cap
  have hQc := aQ.cap
  have hPc := aP.cap
  have hCm := aC.max
  have hQm := aQ.max
  have hPm := aP.max
  unfold maxLen at hCm hQm hPm
  have HLN := hid (And.intro hn (And.intro hi hj))
  clear hR aP aC aQ hn hi hj
  go_enter Try.func8, Try.ntmps8
  go_upto_region 5 with (go_at_call 12; refine (HR.out _ ((Below.refl _ _).alloc (Nat.le_refl _) _)).mono ?_; rintro e w2 ⟨rfl, b2⟩; have H0 := hid (put_start b2); clear b2)
  generalize w2.alloc (.cells #[.slice none 0 0] 23) = W3 at *
  generalize w2.heap.size = g at *
  generalize hxm : w.heap.size = xm at *
  have HXM := hid hxm
  clear hxm
  clear w2
  have d0 : W3.cell? ⟨xm, 0, none⟩ = some (.int .i64 h) := row_cell H0.out.rm 0
  have d1 : W3.cell? ⟨xm, 1, none⟩ = some (.int .i64 m) := row_cell H0.out.rm 1
  have d2 : W3.cell? ⟨xm, 2, none⟩ = some (.int .i64 ph) := row_cell H0.out.rm 2
  have d3 : W3.cell? ⟨xm, 3, none⟩ = some (.int .i64 pm) := row_cell H0.out.rm 3
  have d4 : W3.cell? ⟨xm, 4, none⟩ = some (.slice Pa n Pc) := row_cell H0.out.rm 4
  have H1 := hid (H0.out.below ((Below.refl _ _).alloc (Nat.le_refl _) (.cells #[.int .i64 h, .int .i64 m, .int .i64 ph, .int .i64 pm, .int .i64 (n : Nat)] 3)))
  have hx : Hid ((W3.alloc (.cells #[.int .i64 h, .int .i64 m, .int .i64 ph, .int .i64 pm, .int .i64 (n : Nat)] 3)).heap[W3.heap.size]? = some (.cells (nums.map (Value.int .i64)).toArray 3 (0, 0))) := by rw [HN.out]; exact heap_alloc_new W3 _
  clear H0
  go_upto_block 0 with fail
  clear d0 d1 d2 d3 d4
  generalize W3.alloc (.cells #[.int .i64 h, .int .i64 m, .int .i64 ph, .int .i64 pm, .int .i64 (n : Nat)] 3) = W4 at *
  generalize W3.heap.size = xi at *
  clear W3
  go_cut [8] from 34 to 41 (fun _ wx => ∃ v, Hid (PxAt w wx g v hdr xm #[.int .i64 h, .int .i64 m, .int .i64 ph, .int .i64 pm, .slice Pa n Pc, .slice Ca i Cc, .slice Qa j Qc]))
  case first =>
    go_wp2_with fail
    go_loopw [34] (fun vi wr => ∃ (k : Nat) (v : Value), k ≤ 5 ∧ vi = .int .i64 (k : Nat) ∧ Hid (PxAt w wr g v ((nums.take k).flatMap (fun n => nb n 1)) xm #[.int .i64 h, .int .i64 m, .int .i64 ph, .int .i64 pm, .slice Pa n Pc, .slice Ca i Cc, .slice Qa j Qc]) ∧ Hid (wr.heap[xi]? = some (.cells (nums.map (Value.int .i64)).toArray 3 (0, 0)))) (fun vi _ => 5 - (intOf vi).toNat)
    case atStart => exact ⟨0, _, Nat.zero_le _, rfl, H1, hx⟩
    case round =>
      obtain ⟨k, v, hk, rfl, hs, hxr⟩ := hrel
      by_cases hgo : k < 5
      · have hz : (k : Int) < 5 := by omega
        have hkl : k < nums.length := by rw [HNl.out]; exact hgo
        have ck : wr.cell? ⟨xi, k, none⟩ = some (.int .i64 nums[k]) := by
          rw [row_cell hxr.out k, List.getElem?_toArray, List.getElem?_map, List.getElem?_eq_getElem hkl]; rfl
        have HX : Hid ((nums.take (k + 1)).flatMap (fun n => nb n 1) = (nums.take k).flatMap (fun n => nb n 1) ++ nb nums[k] 1) := by
          unfold Hid
          rw [List.take_succ_eq_append_getElem hkl, List.flatMap_append]
          simp
        have HC := hid (number1_any nums[k] hs.out.pu (by
          have := flat_len (fun n => nb n 1) 2 (fun n => nb_len n 1) (nums.take k)
          rw [List.length_take] at this
          omega))
        generalize nums[k] = z at *
        clear H1 hx
        go_wp2_with (go_at_call 18; refine HC.out.mono ?_; rintro e w5 ⟨rfl, v5, p5, s5⟩; have H5 := hid (hs.out.sty p5 s5); have hx5 := hid (s5.row hxr.out (row_ne hxr.out hs.out.pu.row (by decide)) (by decide)); clear p5 s5)
        go_roundw
        case rel => exact ⟨k + 1, _, by omega, by go_num, by rw [HX.out]; exact H5, hx5⟩
        case measure => simp [intOf]; omega
      · obtain rfl : k = 5 := by omega
        have e : nums.take 5 = nums := List.take_of_length_le (by rw [HNl.out]; exact Nat.le_refl _)
        rw [e, ← HH.out] at hs
        clear H1 hx
        go_wp2_with fail
        go_meet
        exact ⟨_, hs⟩
  case rest =>
    obtain ⟨v, H2⟩ := hcut
    clear H1 hx
    have d4 : wc.cell? ⟨xm, 4, none⟩ = some (.slice Pa n Pc) := row_cell H2.out.rm 4
    go_upto_block 2 with fail
    go_cut [10, 12] from 45 to 72 (fun _ _ wx => ∃ v, Hid (PxAt w wx g v (hdr ++ L.flatMap prtB) xm #[.int .i64 h, .int .i64 m, .int .i64 ph, .int .i64 pm, .slice Pa n Pc, .slice Ca i Cc, .slice Qa j Qc]))
    case first =>
      go_wp2_with fail
      go_loopw [45] (fun vi wr => ∃ (k : Nat) (v : Value), k ≤ n ∧ vi = .int .i64 (k : Nat) ∧ Hid (PxAt w wr g v (hdr ++ (L.take k).flatMap prtB) xm #[.int .i64 h, .int .i64 m, .int .i64 ph, .int .i64 pm, .slice Pa n Pc, .slice Ca i Cc, .slice Qa j Qc])) (fun vi _ => n - (intOf vi).toNat)
      case atStart => exact ⟨0, _, Nat.zero_le _, rfl, by rw [List.take_zero, List.flatMap_nil, List.append_nil]; exact H2⟩
      case round =>
        obtain ⟨k, v, hk, rfl, hs⟩ := hrel
        clear H2 d4
        obtain ⟨wo, hwo⟩ : ∃ wo, wo = wr := ⟨_, rfl⟩
        rw [← hwo] at hs ⊢
        clear hwo wr
        by_cases hgo : k < n
        · have hz : (k : Int) < (n : Int) := by omega
          have hbel : Below xm w wo := by rw [← HXM.out]; exact hs.out.pu.bel
          obtain ⟨ad, p, hA0, hl, hp, a1⟩ := (HA.out.1.below hbel).at k hgo
          clear hbel
          have hkl : k < L.length := by rw [HLN.out.1]; exact hgo
          have hpe : L[k] = p := by
            rw [List.getElem?_eq_getElem hkl] at hp
            injection hp
          have HX : Hid (hdr ++ (L.take (k + 1)).flatMap prtB = hdr ++ (L.take k).flatMap prtB ++ prtB p) := by
            unfold Hid
            rw [List.take_succ_eq_append_getElem hkl, List.flatMap_append, hpe, List.append_assoc]
            simp
          have hXl : Hid ((hdr ++ (L.take k).flatMap prtB).length ≤ 10 + 160) := by
            unfold Hid
            have h1 := flat_len prtB 10 prtB_len (L.take k)
            have h2 := flat_len (fun n => nb n 1) 2 (fun n => nb_len n 1) nums
            rw [← HH.out, HNl.out] at h2
            rw [List.length_take] at h1
            rw [List.length_append]
            omega
          have hvp := hid (vp_field p (HV.out p (hpe ▸ List.getElem_mem hkl)))
          generalize hdr ++ (L.take k).flatMap prtB = X at *
          obtain ⟨k0, k1, k2, k3, k4, k5, k6⟩ := a1
          subst hA0
          have hkind : p.kind < 256 := (HV.out p (hpe ▸ List.getElem_mem hkl)).1.1.2 |> fun h => Nat.lt_of_le_of_lt h (by decide)
          clear hpe hp hl hkl
          go_upto_region 14 with fail
          have hxp := hid (heap_alloc_new wo (.cells #[.int .u8 p.kind, .int .i64 p.size, .int .i64 p.a, .int .i64 p.b, .int .i64 p.c, .int .i64 p.rate, .int .i64 p.limit] 41))
          have H3 := hid (hs.out.below ((Below.refl _ _).alloc (Nat.le_refl _) (.cells #[.int .u8 p.kind, .int .i64 p.size, .int .i64 p.a, .int .i64 p.b, .int .i64 p.c, .int .i64 p.rate, .int .i64 p.limit] 41)))
          clear k0 k1 k2 k3 k4 k5 k6 hs
          generalize wo.alloc (.cells #[.int .u8 p.kind, .int .i64 p.size, .int .i64 p.a, .int .i64 p.b, .int .i64 p.c, .int .i64 p.rate, .int .i64 p.limit] 41) = w5 at *
          generalize wo.heap.size = xp at *
          clear wo
          have c0 : w5.cell? ⟨xp, 0, none⟩ = some (.int .u8 (p.kind : Nat)) := row_cell hxp.out 0
          have HC := hid (number1_any (p.kind : Nat) H3.out.pu (by have := hXl.out; omega))
          go_upto_region 15 with (go_at_call 18; refine HC.out.mono ?_; rintro e w6 ⟨rfl, v6, p6, s6⟩; have H6 := hid (H3.out.sty p6 s6); have hx6 := hid (s6.row hxp.out (row_ne hxp.out H3.out.pu.row (by decide)) (by decide)); clear p6 s6)
          clear H3 HC c0 hxp
          have HF := hid (flds_any xp 0 p.kind w6 (row_cell hx6.out 0) hkind)
          go_upto_block 4 with (go_at_call 19; refine HF.out.mono ?_; rintro r w7 ⟨Af, cf, rfl, hF, b7⟩; have H7 := hid (H6.out.below b7); have hx7 := hid ((b7.block _ (lt_of_heap hx6.out)).trans hx6.out); have hF2 := hid hF; clear b7 hF)
          clear HF H6 hx6
          have HB : Hid (prtB p = nb (p.kind : Nat) 1 ++ (fldL p.kind).flatMap (fieldB p)) := rfl
          have HK := hid (fldL_ok p.kind)
          generalize fldL p.kind = F at *
          obtain ⟨mm, hm⟩ : ∃ m, F.length = m := ⟨_, rfl⟩
          rw [hm]
          have hm4 : mm ≤ 4 := by rw [← hm]; exact HK.out.1
          have hmc : mm ≤ cf := by rw [← hm]; exact hF2.out.cap
          have hc4 := hF2.out.small
          have HM := hid hm
          clear hm
          go_wp2_with fail
          go_loopw [56] (fun vi wr => ∃ (q : Nat) (v' : Value), q ≤ mm ∧ vi = .int .i64 (q : Nat) ∧ Hid (PxAt w wr g v' (X ++ nb (p.kind : Nat) 1 ++ (F.take q).flatMap (fieldB p)) xm #[.int .i64 h, .int .i64 m, .int .i64 ph, .int .i64 pm, .slice (some ad) n Pc, .slice Ca i Cc, .slice Qa j Qc]) ∧ Hid (Sty g w7 wr)) (fun vi _ => mm - (intOf vi).toNat)
          case atStart => exact ⟨0, _, Nat.zero_le _, rfl, by rw [List.take_zero, List.flatMap_nil, List.append_nil]; exact H7, hid (Sty.refl _ _)⟩
          case round =>
            obtain ⟨q, v', hq, rfl, hs, hb⟩ := hrel
            by_cases hgq : q < mm
            · have hz2 : (q : Int) < (mm : Int) := by omega
              have hql : q < F.length := by rw [HM.out]; exact hgq
              obtain ⟨gf, rfl, hrow⟩ := hF2.out.some (by intro e; rw [e] at hql; simp at hql)
              have hrw : wr.heap[gf]? = _ := hb.out.row hrow (row_ne hrow H7.out.pu.row (by decide)) (by decide)
              have hxw : wr.heap[xp]? = _ := hb.out.row hx7.out (row_ne hx7.out H7.out.pu.row (by decide)) (by decide)
              have cc := fun (j : Nat) (hj : j < 3) => (row_cell hrw (q * 3 + j)).trans ((List.getElem?_toArray).trans (flat3 xp 0 F q j hql hj))
              obtain ⟨f, y, mo, e⟩ : ∃ f y mo, F[q] = (f, y, mo) := ⟨_, _, _, rfl⟩
              have hok := HK.out.2 F[q] (List.getElem_mem hql)
              have hpv := hvp.out F[q] (List.getElem_mem hql)
              rw [e] at hok hpv
              simp only at hok hpv
              obtain ⟨hf, hy, hmo⟩ := hok
              have k0 : wr.cell? ⟨gf, q * 3, none⟩ = some (.pointer (some ⟨xp, f, none⟩)) := (cc 0 (by decide)).trans (by rw [e]; simp [fieldC])
              have k1 : wr.cell? ⟨gf, q * 3 + 1, none⟩ = some (.int .i64 (y : Nat)) := (cc 1 (by decide)).trans (by rw [e]; rfl)
              have k2 : wr.cell? ⟨gf, q * 3 + 2, none⟩ = some (.int .i64 (mo : Nat)) := (cc 2 (by decide)).trans (by rw [e]; rfl)
              have HS : Hid (X ++ nb (p.kind : Nat) 1 ++ (F.take (q + 1)).flatMap (fieldB p) = X ++ nb (p.kind : Nat) 1 ++ (F.take q).flatMap (fieldB p) ++ nb (p.get1 f + (mo : Nat)) y) := by
                unfold Hid
                rw [List.take_succ_eq_append_getElem hql, List.flatMap_append, e, List.append_assoc, List.append_assoc, List.append_assoc]
                simp [fieldB]
              have hlen : (X ++ nb (p.kind : Nat) 1 ++ (F.take q).flatMap (fieldB p)).length ≤ 900000 := by
                have h1 := flat_len (fieldB p) 2 (fun f => nb_len _ _) (F.take q)
                have h2 := nb_len (p.kind : Nat) 1
                have h3 := hXl.out
                rw [List.length_take] at h1
                rw [List.length_append, List.length_append]
                omega
              have hg1 : wr.cell? ⟨xp, f, none⟩ = some (.int .i64 (p.get1 f)) := (row_cell hxw f).trans ((List.getElem?_toArray (xs := cellsP p) (i := f)).trans (get1_cell p f hf))
              generalize X ++ nb (p.kind : Nat) 1 ++ (F.take q).flatMap (fieldB p) = X' at *
              generalize p.get1 f = gv at *
              clear cc hrw hrow e HK
              go_upto_region 18 with fail
              have hxf := heap_alloc_new wr (.cells #[.pointer (some ⟨xp, f, none⟩), .int .i64 (y : Nat), .int .i64 (mo : Nat)] 50)
              have hxw7 := (heap_alloc_old wr (.cells #[.pointer (some ⟨xp, f, none⟩), .int .i64 (y : Nat), .int .i64 (mo : Nat)] 50) (lt_of_heap hxw)).trans hxw
              have hg7 : (wr.alloc (.cells #[.pointer (some ⟨xp, f, none⟩), .int .i64 (y : Nat), .int .i64 (mo : Nat)] 50)).cell? ⟨xp, f, none⟩ = some (.int .i64 gv) := (World.cell?_of_block (heap_alloc_old wr _ (lt_of_heap hxw))).trans hg1
              have HP7 := hid (hs.out.below ((Below.refl _ _).alloc (Nat.le_refl _) (.cells #[.pointer (some ⟨xp, f, none⟩), .int .i64 (y : Nat), .int .i64 (mo : Nat)] 50)))
              have HB7 := hid (hb.out.trans (Sty.of_below ((Below.refl _ _).alloc (Nat.le_refl _) (.cells #[.pointer (some ⟨xp, f, none⟩), .int .i64 (y : Nat), .int .i64 (mo : Nat)] 50))))
              clear k0 k1 k2 hs hb hg1 hxw
              generalize wr.alloc (.cells #[.pointer (some ⟨xp, f, none⟩), .int .i64 (y : Nat), .int .i64 (mo : Nat)] 50) = W7 at *
              generalize wr.heap.size = xf at *
              have x0 : W7.cell? ⟨xf, 0, none⟩ = some (.pointer (some ⟨xp, f, none⟩)) := row_cell hxf 0
              have x1 : W7.cell? ⟨xf, 1, none⟩ = some (.int .i64 (y : Nat)) := row_cell hxf 1
              have x2 : W7.cell? ⟨xf, 2, none⟩ = some (.int .i64 (mo : Nat)) := row_cell hxf 2
              have HXF := hid hxf
              have HXW := hid hxw7
              clear hxf hxw7
              have wz : IntKind.i64.wrap (gv + (mo : Int)) = gv + (mo : Int) := IntWalk.i64_in _ (by omega)
              have HC := hid (number_any (gv + (mo : Nat)) y hy HP7.out.pu.drew hlen)
              go_region_held3 (fun w' => w'.cell? ⟨xf, 0, none⟩ = some (.pointer (some ⟨xp, f, none⟩)) ∧ w'.cell? ⟨xf, 1, none⟩ = some (.int .i64 (y : Nat)) ∧ w'.cell? ⟨xf, 2, none⟩ = some (.int .i64 (mo : Nat)) ∧ w'.cell? ⟨xp, f, none⟩ = some (.int .i64 gv)) (first | exact ⟨x0, x1, x2, hg7⟩ | exact jj | go_keep)
                (first
                | (go_at_call 18; go_must ((with_reducible refine HC.out.mono ?_); rintro r w8 ⟨rfl, v8, p8, s8⟩; have Z := after_put HP7.out HXF.out HXW.out hg7 HB7.out p8 s8; have jj := Z.1; have H8 := hid Z.2; clear Z p8 s8)))
              go_wp2_with fail
              go_roundw
              case rel => exact ⟨q + 1, _, by omega, by go_num, by rw [HS.out]; exact H8.out.1, hid H8.out.2⟩
              case measure => simp [intOf]; omega
            · obtain rfl : q = mm := by omega
              have e : F.take q = F := List.take_of_length_le (by rw [HM.out]; exact Nat.le_refl _)
              rw [e, List.append_assoc, ← HB.out, ← HX.out] at hs
              clear HK e
              go_wp2_with fail
              go_roundw
              case rel => exact ⟨k + 1, _, by omega, by go_num, hs⟩
              case measure => simp [intOf]; omega
        · obtain rfl : k = n := by omega
          have e : L.take k = L := List.take_of_length_le (by rw [HLN.out.1]; exact Nat.le_refl _)
          rw [e] at hs
          go_wp2_with fail
          go_meet
          exact ⟨_, hs⟩
    case rest =>
      obtain ⟨v, H3⟩ := hcut
      have hXb : Hid ((hdr ++ L.flatMap prtB).length ≤ 10000) := by
        unfold Hid
        have h1 := flat_len prtB 10 prtB_len L
        have h2 := flat_len (fun n => nb n 1) 2 (fun n => nb_len n 1) nums
        rw [← HH.out, HNl.out] at h2
        rw [HLN.out.1] at h1
        rw [List.length_append]
        omega
      generalize hdr ++ L.flatMap prtB = X at *
      have d5 : wc.cell? ⟨xm, 5, none⟩ = some (.slice Ca i Cc) := row_cell H3.out.rm 5
      have d6 : wc.cell? ⟨xm, 6, none⟩ = some (.slice Qa j Qc) := row_cell H3.out.rm 6
      go_upto_block 6 with fail
      have hx0 : Hid ((wc.alloc (.cells #[.slice Ca i Cc, .slice Qa j Qc] 23)).heap[wc.heap.size]? = some (.cells #[.slice Ca i Cc, .slice Qa j Qc] 23 (0, 0))) := heap_alloc_new wc _
      have H4 := hid (H3.out.below ((Below.refl _ _).alloc (Nat.le_refl _) (.cells #[.slice Ca i Cc, .slice Qa j Qc] 23)))
      have hne : wc.heap.size ≠ g := by have := lt_of_heap H3.out.pu.row; omega
      clear H3 d5 d6
      generalize wc.alloc (.cells #[.slice Ca i Cc, .slice Qa j Qc] 23) = w4 at *
      generalize wc.heap.size = xs at *
      obtain ⟨Bk, hB0, hB1, hB2⟩ : ∃ Bk : Nat → List UInt8, Bk 0 = [] ∧ Bk 1 = nb (i : Nat) 2 ++ Cl ∧ Bk 2 = nb (i : Nat) 2 ++ Cl ++ (nb (j : Nat) 2 ++ Ql) := ⟨fun k => if k = 0 then [] else if k = 1 then nb (i : Nat) 2 ++ Cl else nb (i : Nat) 2 ++ Cl ++ (nb (j : Nat) 2 ++ Ql), rfl, rfl, rfl⟩
      have HK1 : Hid (X ++ Bk 0 ++ nb (i : Nat) 2 ++ Cl = X ++ Bk 1) := by unfold Hid; rw [hB0, hB1]; simp
      have HK2 : Hid (X ++ Bk 1 ++ nb (j : Nat) 2 ++ Ql = X ++ Bk 2) := by unfold Hid; rw [hB1, hB2]; simp
      have HKE : Hid (X ++ Bk 2 = out) := by unfold Hid; rw [hB2, ← HPB.out]; simp
      have HL0 : Hid ((X ++ Bk 0).length ≤ 20000) := by unfold Hid; rw [hB0, List.append_nil]; have := hXb.out; omega
      have HL1 : Hid ((X ++ Bk 1).length ≤ 20000) := by
        unfold Hid
        rw [hB1, List.length_append, List.length_append, HLN.out.2.1]
        have := hXb.out
        have := nb_len (i : Nat) 2
        omega
      rw [show X = X ++ Bk 0 by rw [hB0, List.append_nil]] at H4
      clear hB0 hB1 hB2
      go_wp2_with fail
      go_loopw [79] (fun vi wr => ∃ (k : Nat) (v : Value), k ≤ 2 ∧ vi = .int .i64 (k : Nat) ∧ Hid (PxAt w wr g v (X ++ Bk k) xm #[.int .i64 h, .int .i64 m, .int .i64 ph, .int .i64 pm, .slice Pa n Pc, .slice Ca i Cc, .slice Qa j Qc]) ∧ Hid (wr.heap[xs]? = some (.cells #[.slice Ca i Cc, .slice Qa j Qc] 23 (0, 0)))) (fun vi _ => 2 - (intOf vi).toNat)
      case atStart => exact ⟨0, _, Nat.zero_le _, rfl, H4, hx0⟩
      case round =>
        obtain ⟨k, v, hk, rfl, hs, hxr⟩ := hrel
        clear H4 hx0
        rcases (by omega : k = 0 ∨ k = 1 ∨ k = 2) with rfl | rfl | rfl
        · skip
          rw [show ((0 : Nat) : Int) = 0 from rfl]
          have ck : wr.cell? ⟨xs, 0, none⟩ = some (.slice Ca i Cc) := row_cell hxr.out 0
          have HC := hid (number2_any (i : Nat) hs.out.pu (by have := HL0.out; omega))
          have hll : ((X ++ Bk 0) ++ nb (i : Nat) 2).length + i ≤ 140737488355328 := by
            have := nb_len (i : Nat) 2
            have := HL0.out
            rw [List.length_append]
            omega
          go_wp2_with (first | (at_builtin; refine wpList_put rfl (.tmp 87) (.tmp 88) rfl _ _ _ _ rfl rfl _ _ _ hr6 ?_) | (go_at_call 18; refine HC.out.mono ?_; rintro e w5 ⟨rfl, v5, p5, s5⟩; have H5 := hid (hs.out.sty p5 s5); have hx5 := hid (Sty.row23 s5 hxr.out hne hs.out.pu); have c5 : w5.cell? ⟨g, 0, none⟩ = some v5 := row_cell p5.row 0; have b5 : Below xm w w5 := HXM.out ▸ p5.bel; obtain ⟨A6, n6, c6, w6, hr6, ⟨q6, f6⟩, p6, s6⟩ := run_put_bytes p5 Ca i Cc Cl (HA.out.2.1.below b5).toIsB hll; have H6 := hid (H5.out.sty p6 s6); have hx6 := hid (Sty.row23 s6 hx5.out hne p5); clear p5 s5 p6 s6 b5))
          go_roundw
          case rel => exact ⟨1, _, by omega, rfl, by rw [← HK1.out]; exact H6, hx6⟩
          case measure => simp [intOf]
        · skip
          rw [show ((1 : Nat) : Int) = 1 from rfl]
          have ck : wr.cell? ⟨xs, 1, none⟩ = some (.slice Qa j Qc) := row_cell hxr.out 1
          have HC := hid (number2_any (j : Nat) hs.out.pu (by have := HL1.out; omega))
          have hll : ((X ++ Bk 1) ++ nb (j : Nat) 2).length + j ≤ 140737488355328 := by
            have := nb_len (j : Nat) 2
            have := HL1.out
            rw [List.length_append]
            omega
          go_wp2_with (first | (at_builtin; refine wpList_put rfl (.tmp 87) (.tmp 88) rfl _ _ _ _ rfl rfl _ _ _ hr6 ?_) | (go_at_call 18; refine HC.out.mono ?_; rintro e w5 ⟨rfl, v5, p5, s5⟩; have H5 := hid (hs.out.sty p5 s5); have hx5 := hid (Sty.row23 s5 hxr.out hne hs.out.pu); have c5 : w5.cell? ⟨g, 0, none⟩ = some v5 := row_cell p5.row 0; have b5 : Below xm w w5 := HXM.out ▸ p5.bel; obtain ⟨A6, n6, c6, w6, hr6, ⟨q6, f6⟩, p6, s6⟩ := run_put_bytes p5 Qa j Qc Ql (HA.out.2.2.below b5).toIsB hll; have H6 := hid (H5.out.sty p6 s6); have hx6 := hid (Sty.row23 s6 hx5.out hne p5); clear p5 s5 p6 s6 b5))
          go_roundw
          case rel => exact ⟨2, _, by omega, rfl, by rw [← HK2.out]; exact H6, hx6⟩
          case measure => simp [intOf]
        · rw [show ((2 : Nat) : Int) = 2 from rfl]
          have cg : wr.cell? ⟨g, 0, none⟩ = some v := row_cell hs.out.pu.row 0
          go_wp2_with fail
          go_ret2
          have hp := hs.out.pu
          have hb := hp.bel
          have ho := hp.own
          rw [HKE.out] at ho
          exact ⟨_, rfl, ho, hb⟩
end Go.Proofs.Ytnanmdfbgoahjaa
