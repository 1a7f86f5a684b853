/-
  build, kind by kind: a part as it begins, in new blocks.
-/
import Derived.Test.YtkfdbibgjoaefaaDoorKn
import Derived.Test.YtkfdbibgjoaefaaDoorBld
namespace Go.Proofs.YtkfdbibgjoaefaaDoor
open Go.RowKit

def BuildK (k : Nat) : Prop := ∀ (p : Pt) (i : Nat) (w : World), p.kind = k → p.one (i : Nat) → KnIs w → Calls Tryd.prog 26 #[vPt p] w fun e w' => ∃ T x, e = .returned (.iface T x) ∧
  UnAt w' (fun a => w.heap.size ≤ a ∧ a < w'.heap.size) (.iface T x) (begun p) 0 ∧ Below w.heap.size w w'
theorem begun_k (p : Pt) : (begun p).p = p := begun_p p
theorem buildK1 : BuildK 1 := by
  intro p i w hk ho kn
  unfold vPt
  rw [hk]
  refine (build_cst p.size p.a p.b p.c p.rate p.limit w).mono ?_
  rintro e w' ⟨rfl, b⟩
  refine ⟨_, _, rfl, .cst (by rw [begun_k]; exact hk) (by rw [begun_k]), b⟩
theorem begun2 {p : Pt} (hk : p.kind = 2) : begun p = { p := p, chance := List.replicate (pw p.size) 2097152, count := List.replicate (pw p.size) 0 } := by unfold begun; rw [if_pos hk]
theorem rep_getD {α : Type} (n k : Nat) (x y : α) (h : k < n) : (List.replicate n x).getD k y = x := by
  rw [gD_in _ _ (by rw [List.length_replicate]; exact h), List.getElem_replicate]
theorem buildK2 : BuildK 2 := by
  intro p i w hk ho kn
  obtain ⟨s0, s1, _⟩ := one_cm ho hk
  obtain ⟨s, hs, s16, hp⟩ := pw_nat p.size s0 s1
  unfold vPt
  rw [hk, hs]
  refine (build_cm s p.a p.b p.c p.rate p.limit w s16).mono ?_
  rintro e w' ⟨g, d, rfl, g1, d1, nd, hg, hd, b⟩
  refine ⟨_, _, rfl, ?_, b⟩
  rw [begun2 hk]
  refine .cm hk g d rfl ⟨g1, lt_of_heap hg⟩ ⟨d1, hd.lt⟩ nd ?_ ?_
  · show w'.heap[g]? = some (.cells #[.int .i64 p.size, .int .i64 1, sl d (pw p.size), .int .i64 p.limit] 85 (0, 0))
    rw [hp, hs]; exact hg
  · show Ro w' d 82 (2 * pw p.size) (oddsF (List.replicate (pw p.size) 2097152) (List.replicate (pw p.size) 0))
    rw [hp]
    refine hd.same fun k hk2 => ?_
    unfold oddsF
    by_cases e : k % 2 = 0
    · rw [if_pos e, if_pos e, rep_getD _ _ _ _ (by omega)]
    · rw [if_neg e, if_neg e, rep_getD _ _ _ _ (by omega)]
theorem begun3 {p : Pt} (hk : p.kind = 3) : begun p = { p := p, state := List.replicate (pw p.size) 0, chance := (List.range 256).map (fun s => (chN s : Int)) } := by unfold begun; rw [if_neg (by omega), if_pos hk]
theorem buildK3 : BuildK 3 := by
  intro p i w hk ho kn
  obtain ⟨s0, s1⟩ := one_icm ho hk
  obtain ⟨s, hs, s16, hp⟩ := pw_nat p.size s0 s1
  unfold vPt
  rw [hk, hs]
  refine (build_icm s p.a p.b p.c p.rate p.limit w s16).mono ?_
  rintro e w' ⟨g, d, rfl, g1, d1, nd, hg, hd, b⟩
  refine ⟨_, _, rfl, ?_, b⟩
  rw [begun3 hk]
  refine .icm hk g d rfl ⟨g1, hg.lt⟩ ⟨d1, hd.lt⟩ nd ?_ ?_
  · show Ro w' g 118 259 (icF p.size d (pw p.size) ((List.range 256).map (fun s => (chN s : Int))))
    rw [hp, hs]; exact hg
  · show Ro w' d 5 (pw p.size) (bytesF (List.replicate (pw p.size) 0))
    rw [hp]
    refine hd.same fun k hk2 => ?_
    unfold bytesF
    rw [rep_getD _ _ _ _ hk2]
    rfl
/-- A row of parts is none of a part's own blocks. -/
theorem UnAt.without {w : World} {S : Nat → Prop} {v : Value} {u : Un} {n k : Nat} {cs : Array Value} (h : UnAt w S v u n) (hk : w.heap[k]? = some (.cells cs 51 (0, 0))) : UnAt w (fun a => S a ∧ a ≠ k) v u n := by
  have key : ∀ {d : Nat} {xs : Array Value} {T : TypeId}, w.heap[d]? = some (.cells xs T (0, 0)) → T ≠ 51 → d ≠ k := by
    intro d xs T hd hT e
    subst e
    rw [hk] at hd
    injection hd with hd
    injection hd with _ h2
    exact hT h2.symm
  cases h with
  | cst k hv => exact .cst k hv
  | avg k hv => exact .avg k hv
  | cm k g d hv sg sd ne hg hd => exact .cm k g d hv ⟨sg, key hg (by decide)⟩ ⟨sd, key hd (by decide)⟩ ne hg hd
  | icm k g d hv sg sd ne hg hd => exact .icm k g d hv ⟨sg, key hg (by decide)⟩ ⟨sd, key hd (by decide)⟩ ne hg hd
  | mch k g dr ds hv sg sr ss n1 n2 n3 hg hr hs => exact .mch k g dr ds hv ⟨sg, key hg (by decide)⟩ ⟨sr, key hr (by decide)⟩ ⟨ss, key hs (by decide)⟩ n1 n2 n3 hg hr hs
  | mix2 k g d hv sg sd ne hg hd => exact .mix2 k g d hv ⟨sg, key hg (by decide)⟩ ⟨sd, key hd (by decide)⟩ ne hg hd
  | mix k g d hv sg sd ne hg hd => exact .mix k g d hv ⟨sg, key hg (by decide)⟩ ⟨sd, key hd (by decide)⟩ ne hg hd
  | isse k g d hv sg sd ne hg hd => exact .isse k g d hv ⟨sg, key hg (by decide)⟩ ⟨sd, key hd (by decide)⟩ ne hg hd
  | sse k g d hv sg sd ne hg hd => exact .sse k g d hv ⟨sg, key hg (by decide)⟩ ⟨sd, key hd (by decide)⟩ ne hg hd
end Go.Proofs.YtkfdbibgjoaefaaDoor
