/-
  DiskKept: the file as its caller holds it: an own list of bytes, or the front of one, with no room behind it.
-/
import Derived.Test.YtgccjclloomfgaaStp
import Derived.Test.YtgccjclloomfgaaSlc
namespace Go.Proofs.Ytgccjclloomfgaa
open Go.RowKit

/-- An own list of bytes, or the front of an own list with no room behind it. -/
def Nw (w : World) (base : Nat) (v : Value) (X : List UInt8) : Prop :=
  w.ownsRow base 5 1 v X.length (X.map bv) ∨ ∃ g c Y, v = .slice (some ⟨g, 0, none⟩) X.length X.length ∧ w.ownsRow base 5 1 (.slice (some ⟨g, 0, none⟩) (X ++ Y).length c) (X ++ Y).length ((X ++ Y).map bv)
theorem Nw.nil (w : World) (base : Nat) : Nw w base (.slice none 0 0) [] := .inl ⟨by simp, .inl ⟨rfl, rfl⟩⟩
section
variable {w w' : World} {base : Nat} {v : Value} {X : List UInt8}
theorem Nw.lt (h : Nw w base v X) : ∀ k, v.ownBlock = some k → base ≤ k ∧ k < w.heap.size := by
  rcases h with h | ⟨g, c, Y, rfl, h⟩
  · exact h.lt
  · intro k hk
    exact h.lt k hk
theorem Nw.but {S : Nat → Prop} (h : Nw w base v X) (b : But S w w') (hn : ∀ k, v.ownBlock = some k → ¬ S k) : Nw w' base v X := by
  rcases h with h | ⟨g, c, Y, rfl, h⟩
  · exact .inl (ownsRow_but h b hn)
  · exact .inr ⟨g, c, Y, rfl, ownsRow_but h b (fun k hk => hn k hk)⟩
theorem Nw.below (h : Nw w base v X) (b : Below w.heap.size w w') : Nw w' base v X := h.but (S := fun _ => False) (.of_below b) (fun _ _ h => h)
theorem Nw.isBB (h : Nw w base v X) (hs : X.length ≤ 1000000000) : ∃ A c, v = .slice A X.length c ∧ X.length ≤ c ∧ IsBB w w.heap.size A X.length c X := by
  rcases h with h | ⟨g, c, Y, rfl, h⟩
  · obtain ⟨A, c, rfl, hb⟩ := own_isBB h (by omega)
    exact ⟨A, c, rfl, hb.cap, hb⟩
  · refine ⟨_, _, rfl, Nat.le_refl _, ?_⟩
    have hlt := h.lt g rfl
    refine ⟨⟨rfl, Nat.le_refl _, by unfold maxLen; omega, by omega, fun hp => ⟨_, rfl, fun j hj => ?_⟩⟩, fun _ ad e => by cases e; exact hlt.2⟩
    have hj2 : j < (X ++ Y).length := by rw [List.length_append]; omega
    have := h.cells (g := g) rfl j _ (map_bv_getElem? (X ++ Y) j hj2)
    rw [this, List.getElem_append_left hj]
theorem Nw.slice (h : Nw w base v X) : ∃ A c, v = .slice A X.length c := by
  rcases h with h | ⟨g, c, Y, rfl, h⟩
  · obtain ⟨A, c, rfl, _, _⟩ := own_slice h
    exact ⟨A, c, rfl⟩
  · exact ⟨_, _, rfl⟩
theorem run_slice3 (A : Option Addr) (n c k : Nat) (hk : k ≤ c) (w' : World) : (Instr.slice 27 (.slice A n c) none (some (.int .i64 (k : Nat))) (some (.int .i64 (k : Nat)))).run Try.prog w' = .ok (.slice A k k) w' := by
  have hs : (sizeOf (Try.prog.elem 27)).run Try.prog w' = .ok 1 w' := by kernel_rfl
  rw [run_slice_hm (ht := by kernel_rfl) (h0 := by omega) (h2 := by omega) (h3 := by omega), hs]
  have e : A.map (fun x => x.add (0 * 1)) = A := by
    cases A with
    | none => rfl
    | some a => simp [add_zero]
  simp only [Result.andThen, sliced]
  simp
  intro _
  cases A <;> simp [Addr.add]
theorem Nw.cut (h : Nw w base v X) (n : Nat) (hn : n ≤ X.length) : ∃ A c, v = .slice A X.length c ∧ (∀ w', (Instr.slice 27 (.slice A X.length c) none (some (.int .i64 (n : Nat))) (some (.int .i64 (n : Nat)))).run Try.prog w' = .ok (.slice A n n) w') ∧ Nw w base (.slice A n n) (X.take n) ∧ (Value.slice A n n).ownBlock = v.ownBlock := by
  have hl : (X.take n).length = n := by rw [List.length_take]; omega
  rcases h with h | ⟨g, c, Y, rfl, h⟩
  · rcases h.2 with ⟨rfl, h0⟩ | ⟨g, cap, cur, rfl, _, _, hnc, _⟩
    · have hX : X = [] := List.eq_nil_of_length_eq_zero h0
      subst hX
      obtain rfl : n = 0 := by simpa using hn
      exact ⟨none, 0, rfl, fun w' => run_slice3 none 0 0 0 (Nat.le_refl _) w', Nw.nil w base, rfl⟩
    · refine ⟨_, cap, rfl, fun w' => run_slice3 _ _ _ n (by omega) w', .inr ⟨g, cap, X.drop n, by rw [hl], ?_⟩, rfl⟩
      rw [List.take_append_drop]
      exact h
  · refine ⟨_, _, rfl, fun w' => run_slice3 _ _ _ n hn w', .inr ⟨g, c, X.drop n ++ Y, by rw [hl], ?_⟩, rfl⟩
    rw [← List.append_assoc, List.take_append_drop]
    exact h
theorem Nw.append {ty : TypeId} (h : Nw w base v X) (A : Option Addr) (m c : Nat) (l2 : List UInt8) (hB : IsB w A m c l2) (h48 : X.length + m ≤ 140737488355328) (hb : base ≤ w.heap.size) (hm : 0 < m) :
    ∃ A' c' w', (Builtin.append_ #[27, 27] ty #[v, .slice A m c]).run Try.prog w = .ok (.slice A' (X.length + m) c') w' ∧ w'.ownsRow base 5 1 (.slice A' (X.length + m) c') (X.length + m) ((X ++ l2).map bv) ∧ w.grownBy w' v.ownBlock ∧
      ((Value.slice A' (X.length + m) c').ownBlock = v.ownBlock ∨ ∃ k, (Value.slice A' (X.length + m) c').ownBlock = some k ∧ w.heap.size ≤ k) := by
  obtain ⟨ad, rfl, hc0⟩ := hB.lies (by rw [hB.len]; exact hm)
  have hc : ∀ j u, (l2.map bv)[j]? = some u → w.cell? (ad.add j) = some u := by
    intro j u hu
    have hj : j < l2.length := by have e := (List.getElem?_eq_some_iff.1 hu).1; simpa using e
    rw [map_bv_getElem? l2 j hj] at hu
    cases hu
    exact hc0 j hj
  have hll : (l2.map bv).length = m := by rw [List.length_map, hB.len]
  rcases h with h | ⟨g, c2, Y, rfl, h⟩
  · obtain ⟨v', w', hr, h2, h3, h4, h5⟩ := run_append_fresh (ty := ty) h ad m c (l2.map bv) hll hc (bv_one l2) h48 hb
    obtain ⟨A', c', rfl, _, _⟩ := own_slice h2
    exact ⟨A', c', w', hr, by rw [List.map_append]; exact h2, h3, h5⟩
  · obtain ⟨i0, hi, hz0, hz1, hz2⟩ := info_parts Try.info5
    have holds : ∀ j u, (X.map bv)[j]? = some u → w.cell? ((⟨g, 0, none⟩ : Addr).add j) = some u := by
      intro j u hu
      have hj : j < X.length := by have e := (List.getElem?_eq_some_iff.1 hu).1; simpa using e
      refine h.cells (g := g) rfl j u ?_
      rw [List.map_append, List.getElem?_append_left (by rw [List.length_map]; exact hj)]
      exact hu
    have e := run_append_grow (P := Try.prog) w 27 ty 5 i0 (.int .u8 0) Try.underlying27 hi hz0 ⟨g, 0, none⟩ X.length X.length (X.map bv) (by rw [hz1, List.length_map, Nat.mul_one]) holds ad m c (l2.map bv) (by rw [hz1, Nat.mul_one]; exact hll) hc (by omega) (by omega) (growslice_fits (by omega) (by rw [hz2]; omega))
    refine ⟨_, _, _, e, ?_, ?_, .inr ⟨w.heap.size, rfl, Nat.le_refl _⟩⟩
    · have hge := grownCap_ge w (X.length + m) X.length 5
      have hgm := grownCap_le_maxLen w (X.length + m) X.length 5 (by unfold maxLen; omega)
      refine ⟨by simp [hB.len], .inr ⟨w.heap.size, _, _, rfl, hb, heap_alloc_new w.drew _, hge, hgm, ?_, ?_⟩⟩
      · rw [Array.size_append, Array.size_append, zero_size]
        simp [hB.len]
        omega
      · rw [Array.toList_append, zero_cells, Array.toList_append, Nat.mul_one, List.map_append]
        rw [List.take_append_of_le_length (by simp [hB.len])]
        exact List.take_of_length_le (by simp [hB.len])
    · exact ⟨rfl, rfl, rfl, by rw [World.size_alloc]; exact Nat.le_succ _, fun k hk _ => Below.heap_alloc w.drew _ k hk⟩
end
end Go.Proofs.Ytgccjclloomfgaa
