/-
  Merged: Nw.
-/
import Derived.Test.YtkfdbibgjoaefaaGreatDoorMg27
import Derived.Test.YtkfdbibgjoaefaaGreatDoorMg05
import Derived.Deep.RegionLaw
/-
  New: a blend of right parts.
-/
namespace Go.Proofs.YtkfdbibgjoaefaaGreatDoor
open Go.RowKit

set_option maxRecDepth 10000 in
set_option maxHeartbeats 1000000 in
theorem New_bad (A : Option Addr) (n c : Nat) (L : List Pt) (w : World) (h : IsP w w.heap.size A n c L) (hr : ¬ rightP L = 0) :
    Calls Tryz.prog 7 #[.slice A n c] w fun e w' => e = .returned (.tuple #[.pointer none, .int .i64 (rightP L)]) ∧ Below w.heap.size w w' := by
  have HR := hid (Right_any A n c L w h)
  have hr2 : (rightP L != 0) = true := by simpa using hr
  generalize rightP L = r at *
  clear h
  go_enter Tryz.func7, Tryz.ntmps7
  go_wp2_with fail
  refine HR.out.mono ?_
  rintro e w1 ⟨rfl, b1⟩
  go_wp2_with fail
  go_ret2
  exact ⟨rfl, b1⟩
theorem Tryz.info61' : (Tryz.prog.info? 61).map (fun i => (i.zero, i.size, i.bytes)) = some (some .nilIface, 1, 16) := by kernel_rfl
theorem one_new (w : World) (v : Value) (T : TypeId) : (w.alloc (.cells #[v] T)).cell? ⟨w.heap.size, 0, none⟩ = some v := row_cell (heap_alloc_new w _) 0
/-- One part more, at the list's end, as a step of a region that draws. -/
theorem step_appP {ops : Array Oper} {o : Oper} {a : Act} {K : Act → World → Prop} {Q : Exit → Act → World → Prop} {E : Prop} {W : World} (hgd : o.guard = none) (s x : Operand)
    (ho : o.op = .call { callee := .builtin .append, args := #[s, x], argTypes := #[57, 57] }) (base : Nat) (pv : Value) (n : Nat) (vs : List Value) (bk : Nat) (T : TypeId) (X : Value) (hs : a.eval s = pv) (hx : a.eval x = .slice (some ⟨bk, 0, none⟩) 1 1)
    (hown : W.ownsRow base 61 1 pv n vs) (hc : W.cell? ⟨bk, 0, none⟩ = some (.iface T X)) (hl : n ≤ 16) (hb : base ≤ W.heap.size)
    (hK : ∀ v' W', Hid (W'.ownsRow base 61 1 v' (n + 1) (vs ++ [.iface T X]) ∧ But (fun k => some k = pv.ownBlock) W W') → K (a.put o.dst v') W') :
    if Region.wanted o (yielded ops a.tmps) = true then Oper.wp Tryz.prog o a W K Q else E := by
  obtain ⟨i0, hi, hz0, hz1, hz2⟩ := info_parts Tryz.info61'
  have hw : Region.wanted o (yielded ops a.tmps) = true := by simp [Region.wanted, hgd]
  rw [if_pos hw]
  refine wp_append_own _ s x 57 ho base 61 i0 .nilIface 1 16 Tryz.underlying57 hi hz0 hz1 hz2 rfl (by decide) pv n vs hs hown ⟨bk, 0, none⟩ 1 1 [.iface T X] hx rfl ?_ ?_ ?_ ?_ hb ?_
  · intro j u hj
    rcases j with _ | j
    · simp only [List.getElem?_cons_zero, Option.some.injEq] at hj
      subst hj
      exact hc
    · simp at hj
  · intro u hu; simp at hu; subst hu; rfl
  · unfold maxLen; omega
  · omega
  · intro v2 W2 hown2 hgrow2 _
    exact hK v2 W2 ⟨hown2, (But.refl _ W).grown hgrow2 (fun k e => .inl e.symm)⟩
theorem UnAt.over {w w' : World} {S : Nat → Prop} {v pv : Value} {u : Un} {n base m : Nat} {vs : List Value} (h : UnAt w S v u n) (o : w.ownsRow base 61 1 pv m vs) (x : But (fun k => some k = pv.ownBlock) w w') : UnAt w' S v u n := by
  rcases o.2 with ⟨rfl, _⟩ | ⟨k, cap, cur, rfl, _, hh, _⟩
  · exact h.on x (fun a _ e => by cases e)
  · refine ((h.without hh).on x (fun a ha e => ha.2 ?_)).mono (fun _ h => h.1)
    injection e
theorem own_ne {w : World} {base m k : Nat} {pv : Value} {vs : List Value} {cs : Array Value} {T : TypeId} (o : w.ownsRow base 61 1 pv m vs) (hk : w.heap[k]? = some (.cells cs T (0, 0))) (hT : T ≠ 61) : ¬ some k = pv.ownBlock := by
  intro e
  rcases o.2 with ⟨rfl, _⟩ | ⟨k2, cap, cur, rfl, _, hh, _⟩
  · cases e
  · injection e with e
    subst e
    rw [hk] at hh
    injection hh with hh
    injection hh with _ h2
    exact hT h2
theorem nw_own_below {w w' : World} {base m : Nat} {pv : Value} {vs : List Value} (o : w.ownsRow base 61 1 pv m vs) (b : Below w.heap.size w w') : w'.ownsRow base 61 1 pv m vs := by
  refine ⟨o.1, ?_⟩
  rcases o.2 with h | ⟨k2, cap, cur, e, hb, hh, r⟩
  · exact .inl h
  · exact .inr ⟨k2, cap, cur, e, hb, (b.block k2 (lt_of_heap hh)).trans hh, r⟩
/-- Parts as New adds them. -/
structure NwSt (w wr : World) (g ct le n i B2 : Nat) (L : List Pt) : Prop where
  bel : Below w.heap.size w wr
  top : B2 ≤ wr.heap.size
  ex : ∃ (pv : Value) (vs : List Value), wr.heap[g]? = some (.cells #[pt g, pv, sl ct n, sl le n, .int .u32 1] 59 (0, 0)) ∧ Ro wr ct 56 n (fun _ => .int .u32 0) ∧ Ro wr le 3 n (fun _ => .int .i64 0) ∧
    wr.ownsRow w.heap.size 61 1 pv i vs ∧ ∃ S : Nat → Nat → Prop, (∀ j (hj : j < L.length), j < i → UnAt wr (S j) (vs.getD j undef) (begun L[j]) 0) ∧ (∀ j, j < i → ∀ a, S j a → B2 ≤ a ∧ a < wr.heap.size) ∧
      (∀ j k, j < i → k < i → j ≠ k → ∀ a, S j a → ¬ S k a)
theorem NwSt.next {w wr W3 w4 W5 : World} {g ct le n i B2 : Nat} {L : List Pt} {pv v5 : Value} {vs : List Value} {S : Nat → Nat → Prop} {T : TypeId} {x : Value} (bel : Below w.heap.size w wr) (top : B2 ≤ wr.heap.size)
    (hrow : wr.heap[g]? = some (.cells #[pt g, pv, sl ct n, sl le n, .int .u32 1] 59 (0, 0))) (hct : Ro wr ct 56 n (fun _ => .int .u32 0)) (hle : Ro wr le 3 n (fun _ => .int .i64 0)) (own : wr.ownsRow w.heap.size 61 1 pv i vs)
    (hu : ∀ j (hj : j < L.length), j < i → UnAt wr (S j) (vs.getD j undef) (begun L[j]) 0) (hS : ∀ j, j < i → ∀ a, S j a → B2 ≤ a ∧ a < wr.heap.size) (hap : ∀ j k, j < i → k < i → j ≠ k → ∀ a, S j a → ¬ S k a)
    (b3 : Below wr.heap.size wr W3) (b4 : Below W3.heap.size W3 w4) (hi : i < L.length) (u4 : UnAt w4 (fun a => W3.heap.size ≤ a ∧ a < w4.heap.size) (.iface T x) (begun L[i]) 0)
    (x5 : But (fun k => some k = pv.ownBlock) w4 W5) (o5 : W5.ownsRow w.heap.size 61 1 v5 (i + 1) (vs ++ [.iface T x])) (hg : w.heap.size ≤ g) (g2 : g < B2) (n1 : ¬ g = ct) (n2 : ¬ g = le) :
    NwSt w (W5.setCell ⟨g, 1, none⟩ v5) g ct le n (i + 1) B2 L := by
  have b34 : Below wr.heap.size wr w4 := bel2 b3 b4
  have own4 := nw_own_below own b34
  have row4 : w4.heap[g]? = _ := (b34.block g (lt_of_heap hrow)).trans hrow
  have row5 := x5.heap row4 (own_ne own4 row4 (by decide))
  have x6 : But (· = g) W5 (W5.setCell ⟨g, 1, none⟩ v5) := (But.refl (· = g) W5).set ⟨g, 1, none⟩ _ (.inl rfl)
  have ct5 : Ro W5 ct 56 n (fun _ => .int .u32 0) := (hct.below b34).on x5 (own_ne own4 (hct.below b34) (by decide))
  have le5 : Ro W5 le 3 n (fun _ => .int .i64 0) := (hle.below b34).on x5 (own_ne own4 (hle.below b34) (by decide))
  have s4 := b34.size
  have s5 := x5.size
  have s6 : W5.heap.size = (W5.setCell ⟨g, 1, none⟩ v5).heap.size := (World.size_setCell _ _ _).symm
  refine ⟨?_, by omega, v5, vs ++ [.iface T x], row_set row5 1 v5, ct5.on x6 (Ne.symm n1), le5.on x6 (Ne.symm n2), ?_, fun j => if j < i then S j else fun a => W3.heap.size ≤ a ∧ a < w4.heap.size, ?_, ?_, ?_⟩
  · have h1 : Below w.heap.size w w4 := bel.trans (b34.mono bel.size)
    have h2 : Below w.heap.size w4 W5 := x5.below (fun k e => (own.lt k e.symm).1) h1.size
    have h3 : Below w.heap.size W5 (W5.setCell ⟨g, 1, none⟩ v5) := x6.below (fun k e => by rw [e]; exact hg) (Nat.le_trans h1.size h2.size)
    exact (h1.trans h2).trans h3
  · refine ⟨o5.1, ?_⟩
    have ng := own_ne o5 row5 (by decide)
    rcases o5.2 with h | ⟨k2, cap, cur, rfl, hb, hh, r⟩
    · exact .inl h
    · exact .inr ⟨k2, cap, cur, rfl, hb, x6.heap hh (fun e => ng (by rw [e]; rfl)), r⟩
  · intro j hj hji
    have hlen : vs.length = i := by have := own.1; omega
    by_cases e : j < i
    · show UnAt _ (if j < i then S j else _) _ _ _
      rw [if_pos e, List.getD_eq_getElem?_getD, List.getElem?_append_left (by omega), ← List.getD_eq_getElem?_getD]
      exact (((hu j hj e).below b34).over own4 x5).on x6 (fun a ha e2 => by have := (hS j e a ha).1; omega)
    · obtain rfl : j = i := by omega
      show UnAt _ (if j < j then S j else _) _ _ _
      rw [if_neg e, List.getD_eq_getElem?_getD, List.getElem?_append_right (by omega), hlen, Nat.sub_self]
      exact (u4.over own4 x5).on x6 (fun a ha e2 => by have := ha.1; have := b3.size; omega)
  · intro j hji a ha
    have ha : (if j < i then S j else fun a => W3.heap.size ≤ a ∧ a < w4.heap.size) a := ha
    by_cases e : j < i
    · rw [if_pos e] at ha
      have := hS j e a ha
      omega
    · rw [if_neg e] at ha
      have := b3.size
      omega
  · intro j k hj hk hjk a ha
    have ha : (if j < i then S j else fun a => W3.heap.size ≤ a ∧ a < w4.heap.size) a := ha
    show ¬ (if k < i then S k else fun a => W3.heap.size ≤ a ∧ a < w4.heap.size) a
    have := b3.size
    by_cases e : j < i
    · rw [if_pos e] at ha
      by_cases e2 : k < i
      · rw [if_pos e2]; exact hap j k e e2 hjk a ha
      · rw [if_neg e2]
        have := hS j e a ha
        omega
    · rw [if_neg e] at ha
      by_cases e2 : k < i
      · rw [if_pos e2]
        intro h2
        have := hS k e2 a h2
        omega
      · omega
theorem begun_h (p : Pt) : (begun p).h = 0 := by
  unfold begun
  repeat' split
  all_goals rfl
theorem kn_pos {w : World} (kn : KnIs w) : 0 < w.heap.size := by
  have := lt_cell (kn 0 (by decide))
  omega
/-- All parts are there: they are asked. -/
theorem NwSt.made {w wr : World} {g ct le n B2 : Nat} {L : List Pt} (st : NwSt w wr g ct le n n B2 L) (kn : KnIs w) (hr : rightP L = 0) (hlen : L.length = n) (hk : ∀ p ∈ L, LeanK p.kind)
    (x1 : w.heap.size ≤ ct) (x2 : w.heap.size ≤ le) (x3 : w.heap.size ≤ g) (y1 : ¬ ct = le) (y2 : ¬ g = ct) (y3 : ¬ g = le) (v1 : ct < B2) (v2 : le < B2) (v3 : g < B2) :
    Calls Tryz.prog 27 #[pt g] wr fun e w' => e = .returned (.tuple #[]) ∧ BlAt w' (fun a => w.heap.size ≤ a ∧ a < w'.heap.size) g (Bl.new L) ∧ Below w.heap.size w w' := by
  obtain ⟨pv, vs, hrow, hct, hle, own, S, hu, hS, hap⟩ := st.ex
  have n1 : 1 ≤ n ∧ n ≤ 16 := by have := ((rightP_ok L).1 hr).1; omega
  have bel := st.bel
  have top := st.top
  have w0 := kn_pos kn
  have hl : (L.map begun).length = n := by rw [List.length_map]; exact hlen
  rcases own.2 with ⟨_, h0⟩ | ⟨pa, cap, cur, rfl, hpa, hh, hcap, _⟩
  · omega
  have ng := own_ne own hrow (by decide)
  have nc := own_ne own hct (by decide)
  have nl := own_ne own hle (by decide)
  have npg : ¬ g = pa := fun e => ng (by rw [e]; rfl)
  have npc : ¬ ct = pa := fun e => nc (by rw [e]; rfl)
  have npl : ¬ le = pa := fun e => nl (by rw [e]; rfl)
  have pal := lt_of_heap hh
  have hz : ∀ k, k < n → ((L.map begun).map (·.h)).getD k 0 = 0 := fun k hk => by
    rw [gD_in _ _ (by simp [hlen, hk]), List.getElem_map, List.getElem_map, begun_h]
  have bx : Bx wr g pa ct le (L.map begun).length cap 1 (fun j => vs.getD j undef) ((L.map begun).map (·.h)) (List.replicate n 0) := by
    refine ⟨by rw [hl]; exact hrow, fun i hi => ?_, ?_, ?_, by rw [List.length_replicate, hl], by rw [List.length_map], by omega, by omega, npg, y2, y3, Ne.symm npc, Ne.symm npl, y1, by omega, by omega, by omega, by omega⟩
    · have hv : vs.length = n := by have := own.1; omega
      have := own.cells (g := pa) rfl i (vs.getD i undef) (by rw [gD_in _ _ (by omega), List.getElem?_eq_getElem (by omega)])
      rcases Nat.eq_zero_or_pos i with rfl | h0
      · exact this
      · have e : (⟨pa, 0, none⟩ : Addr).add i = ⟨pa, i, none⟩ := by
          unfold Addr.add
          rw [if_neg (by omega)]
          simp
        rw [e] at this
        exact this
    · rw [hl]; exact hct.same fun k hk => by unfold u32F; rw [hz k hk]; rfl
    · rw [hl]; exact hle.same fun k hk => by unfold intsF; rw [rep_getD _ _ _ _ hk]
  have ok := new_ok L hr
  have rdy : Rdy (L.map begun) 0 1 0 := ⟨ok.parts, ok.each, fun u hu => by
    obtain ⟨p, _, e⟩ := List.mem_map.1 hu
    rw [← e, begun_h]; omega, by omega, by decide, by decide⟩
  have hun : ∀ i, i < (L.map begun).length → UnAt wr (fun a => S i a ∧ a ≠ pa) (vs.getD i undef) (nth (L.map begun) i) 0 := fun i hi => by
    rw [nth_at _ _ hi, List.getElem_map]
    exact (hu i (by omega) (by omega)).without hh
  have knr : KnIs wr := kn.below (by
    refine ⟨bel.os, bel.tape, bel.output, bel.size, bel.block⟩)
  refine (bl_ask bx knr (fun i a => S i a ∧ a ≠ pa) rdy (fun d hd => by rw [List.eq_of_mem_replicate hd]; unfold Lean1; omega) hun (fun i hi h => by have := (hS i (by omega) _ h.1).1; omega) (fun u hu => by
    obtain ⟨p, hp, e⟩ := List.mem_map.1 hu
    rw [← e, begun_k]; exact hk p hp)).mono ?_
  rintro e w' ⟨rfl, b3, bx3⟩
  have s3 := b3.size
  have b4 : Below w.heap.size wr w' := b3.below (fun k e => by rw [e]; exact x2) bel.size
  refine ⟨rfl, ⟨pa, ct, le, cap, _, fun i a => S i a ∧ a ≠ pa, bx3, fun i hi => (hun i hi).on b3 (fun a ha e => by have := (hS i (by have : i < (L.map begun).length := hi; omega) _ ha.1).1; omega), ?_, ?_, ⟨x3, by omega⟩, ⟨hpa, by omega⟩, ⟨x1, by omega⟩, ⟨x2, by omega⟩, ?_⟩, bel.trans b4⟩
  · intro i j hi hj hij a ha h2
    have hi : i < (L.map begun).length := hi
    have hj : j < (L.map begun).length := hj
    exact hap i j (by omega) (by omega) hij a ha.1 h2.1
  · intro i hi a ha
    have hi : i < (L.map begun).length := hi
    have := (hS i (by omega) a ha.1).1
    exact ⟨by omega, ha.2, by omega, by omega, by omega⟩
  · intro i hi a ha
    have hi : i < (L.map begun).length := hi
    have := hS i (by omega) a ha.1
    exact ⟨by omega, by omega⟩
set_option maxRecDepth 10000 in
set_option maxHeartbeats 2000000 in
theorem New_any (A : Option Addr) (n c : Nat) (L : List Pt) (w : World) (h : IsP w w.heap.size A n c L) (hr : rightP L = 0) (kn : KnIs w) (hb : ∀ p ∈ L, BuildK p.kind) (hk : ∀ p ∈ L, LeanK p.kind) :
    Calls Tryz.prog 7 #[.slice A n c] w fun e w' => ∃ g, e = .returned (.tuple #[pt g, .int .i64 0]) ∧ BlAt w' (fun a => w.heap.size ≤ a ∧ a < w'.heap.size) g (Bl.new L) ∧ Below w.heap.size w w' := by
  have HR := hid (Right_any A n c L w h)
  have hlen := h.len
  have hall := ((rightP_ok L).1 hr).2.1
  have n16 : n ≤ 16 := by have := ((rightP_ok L).1 hr).1; omega
  have n1 : 1 ≤ n := by have := ((rightP_ok L).1 hr).1; omega
  have z16 : (n : Int) ≤ 16 := by omega
  rw [hr] at HR
  have m1 := fun w => make_row 39 56 _ 1 _ Tryz.underlying39 Tryz.info56' (fun _ => .int .u32 0) (by intro k; simp [Value.cells, Nat.mod_one]) n (by omega) (by omega) w
  have m2 := fun w => make_row 46 3 _ 1 _ Tryz.underlying46 Tryz.info3' (fun _ => .int .i64 0) (by intro k; simp [Value.cells, Nat.mod_one]) n (by omega) (by omega) w
  go_enter Tryz.func7, Tryz.ntmps7
  go_wp2_with fail
  refine HR.out.mono ?_
  rintro e w1 ⟨rfl, b1⟩
  go_wp2_with fail
  go_region
  · clear m1 m2
    obtain ⟨W, hW⟩ : ∃ W, W = (((w1.alloc (Obj.cells (fL n fun _ => Value.int .u32 0).toArray 56)).alloc (Obj.cells (fL n fun _ => Value.int .i64 0).toArray 3)).alloc (Obj.cells #[Value.pointer none, Value.slice none 0 0, Value.slice (some ⟨w1.heap.size, 0, none⟩) n n, Value.slice (some ⟨w1.heap.size + 1, 0, none⟩) n n, Value.int IntKind.u32 1] 59)).drew := ⟨_, rfl⟩
    obtain ⟨q1, q2, q3, q4⟩ := alloc3 w1 (Obj.cells (fL n fun _ => Value.int .u32 0).toArray 56) (Obj.cells (fL n fun _ => Value.int .i64 0).toArray 3) (Obj.cells #[Value.pointer none, Value.slice none 0 0, Value.slice (some ⟨w1.heap.size, 0, none⟩) n n, Value.slice (some ⟨w1.heap.size + 1, 0, none⟩) n n, Value.int IntKind.u32 1] 59)
    have hs : W.heap.size = w1.heap.size + 1 + 1 + 1 := by rw [hW]; simp
    have p1 : W.heap[w1.heap.size]? = some (Obj.cells (fL n fun _ => Value.int .u32 0).toArray 56) := by rw [hW]; exact q1
    have p2 : W.heap[w1.heap.size + 1]? = some (Obj.cells (fL n fun _ => Value.int .i64 0).toArray 3) := by rw [hW]; exact q2
    have p3 : W.heap[w1.heap.size + 1 + 1]? = some (Obj.cells #[Value.pointer none, Value.slice none 0 0, Value.slice (some ⟨w1.heap.size, 0, none⟩) n n, Value.slice (some ⟨w1.heap.size + 1, 0, none⟩) n n, Value.int IntKind.u32 1] 59) := by rw [hW]; exact q3
    have p4 : Below w1.heap.size w1 W := by rw [hW]; exact q4.drew
    rw [← hW]
    clear hW q1 q2 q3 q4
    have q5 : Below w.heap.size w W := b1.trans (p4.mono b1.size)
    have hb1 := b1.size
    have x1 : w.heap.size ≤ w1.heap.size := by omega
    have x2 : w.heap.size ≤ w1.heap.size + 1 := by omega
    have x3 : w.heap.size ≤ w1.heap.size + 1 + 1 := by omega
    have y1 : ¬ w1.heap.size = w1.heap.size + 1 := by omega
    have y2 : ¬ w1.heap.size + 1 + 1 = w1.heap.size := by omega
    have y3 : ¬ w1.heap.size + 1 + 1 = w1.heap.size + 1 := by omega
    have v1 : w1.heap.size < W.heap.size := by omega
    have v2 : w1.heap.size + 1 < W.heap.size := by omega
    have v3 : w1.heap.size + 1 + 1 < W.heap.size := by omega
    clear hs b1 hb1 p4
    generalize w1.heap.size + 1 + 1 = g at *
    generalize w1.heap.size + 1 = le at *
    generalize w1.heap.size = ct at *
    have qc : Ro W ct 56 n (fun _ => .int .u32 0) := p1
    have ql : Ro W le 3 n (fun _ => .int .i64 0) := p2
    clear p1 p2
    have k0 : W.cell? ⟨g, 0, none⟩ = some (.pointer none) := row_cell p3 0
    have k1 : W.frozen? ⟨g, 0, none⟩ = false := row_free p3 0
    obtain ⟨W2, hW2⟩ : ∃ W2, W2 = W.setCell ⟨g, 0, none⟩ (.pointer (some ⟨g, 0, none⟩)) := ⟨_, rfl⟩
    have x4 : But (· = g) W W2 := by rw [hW2]; exact (But.refl (· = g) W).set ⟨g, 0, none⟩ _ (.inl rfl)
    have q6 : W2.heap[g]? = some (.cells #[pt g, .slice none 0 0, sl ct n, sl le n, .int .u32 1] 59 (0, 0)) := by rw [hW2]; exact row_set p3 0 _
    have c0 : NwSt w W2 g ct le n 0 W.heap.size L := ⟨q5.trans (x4.below (fun k e => by rw [e]; exact x3) q5.size), x4.size, .slice none 0 0, [], q6, qc.on x4 (Ne.symm y2), ql.on x4 (Ne.symm y3), World.ownsRow_nil _ _ _ _, fun _ _ => False, fun j _ h => absurd h (Nat.not_lt_zero _), fun j h => absurd h (Nat.not_lt_zero _), fun j k h => absurd h (Nat.not_lt_zero _)⟩
    have C0 := hid c0
    have HW2 := hid hW2
    generalize W.heap.size = B2 at *
    clear c0 q6 x4 p3 q5 hW2 qc ql
    go_wp2_with (rw [← HW2.out])
    clear k0 k1 HW2
    go_loopw [27] (fun vi wr => ∃ i : Nat, i ≤ n ∧ vi = .int .i64 i ∧ NwSt w wr g ct le n i B2 L) (fun vi _ => n - (intOf vi).toNat)
    case atStart => exact ⟨0, Nat.zero_le _, rfl, C0.out⟩
    case round =>
      clear C0
      obtain ⟨i, hi, rfl, st⟩ := hrel
      by_cases hgo : i < n
      · have hz : (i : Int) < (n : Int) := by omega
        obtain ⟨ad, p, rfl, hl, hp, a1⟩ := h.at i hgo
        obtain ⟨k0, k1, k2, k3, k4, k5, k6⟩ := a1.below st.bel (by rw [block_of_add]; exact hl)
        have hL : i < L.length := by omega
        have hpe : L[i] = p := by
          rw [List.getElem?_eq_getElem hL] at hp
          injection hp
        have hpm : p ∈ L := by rw [← hpe]; exact List.getElem_mem hL
        have HB := hid (fun w' kn => hb p hpm p i w' rfl (by rw [← hpe]; exact hall i hL) kn)
        have knr := hid (kn.below st.bel)
        have HPe := hid hpe
        have ST := hid st
        obtain ⟨pv, vs, hrow, hct, hle, own, S, hu, hS, hap⟩ := st.ex
        have g1 : wr.cell? ⟨g, 1, none⟩ = some pv := row_cell hrow 1
        have HG := hid hrow
        have HC := hid hct
        have HLe := hid hle
        have HO := hid own
        have HU := hid hu
        have HS := hid hS
        have HA := hid hap
        unfold vPt vP at HB
        obtain ⟨kk, sz, pa, pb, pc, prt, plm⟩ := p
        simp only at k0 k1 k2 k3 k4 k5 k6 HB
        clear hp a1 h hpe hrow hct hle own hu hS hap st hpm
        go_wp2_with fail
        obtain ⟨W3, hW3⟩ : ∃ W3, W3 = wr.alloc (Obj.cells #[Value.int IntKind.u8 kk, Value.int IntKind.i64 sz, Value.int IntKind.i64 pa, Value.int IntKind.i64 pb, Value.int IntKind.i64 pc, Value.int IntKind.i64 prt, Value.int IntKind.i64 plm] 38) := ⟨_, rfl⟩
        have b3 : Below wr.heap.size wr W3 := by rw [hW3]; exact (Below.refl _ _).alloc (Nat.le_refl _) _
        have m0 : W3.cell? ⟨wr.heap.size, 0, none⟩ = some (.int .u8 kk) := by rw [hW3]; go_simp
        have m1 : W3.cell? ⟨wr.heap.size, 1, none⟩ = some (.int .i64 sz) := by rw [hW3]; go_simp
        have m2 : W3.cell? ⟨wr.heap.size, 2, none⟩ = some (.int .i64 pa) := by rw [hW3]; go_simp
        have m3 : W3.cell? ⟨wr.heap.size, 3, none⟩ = some (.int .i64 pb) := by rw [hW3]; go_simp
        have m4 : W3.cell? ⟨wr.heap.size, 4, none⟩ = some (.int .i64 pc) := by rw [hW3]; go_simp
        have m5 : W3.cell? ⟨wr.heap.size, 5, none⟩ = some (.int .i64 prt) := by rw [hW3]; go_simp
        have m6 : W3.cell? ⟨wr.heap.size, 6, none⟩ = some (.int .i64 plm) := by rw [hW3]; go_simp
        rw [← hW3]
        have gp : W3.cell? ⟨g, 1, none⟩ = some pv := keeps b3 g1
        have nb : ¬ some wr.heap.size = pv.ownBlock := fun e => by have := (HO.out.lt _ e.symm).2; omega
        have B3 := hid b3
        have k3n := hid (knr.out.below b3)
        clear hW3 b3 k0 k1 k2 k3 k4 k5 k6 g1
        obtain ⟨bx, hbx⟩ : ∃ bx, wr.heap.size = bx := ⟨_, rfl⟩
        have HBX := hid hbx
        rw [hbx] at m0 m1 m2 m3 m4 m5 m6 nb
        rw [hbx]
        have nbg : ¬ bx = g := by have := ST.out.top; omega
        have nbg2 : ¬ g = bx := Ne.symm nbg
        clear hbx
        go_region_law
          (first
          | (go_simp; go_at_call 26; ((refine (HB.out _ k3n.out.drew').mono ?_); rintro r w4 ⟨T, x, rfl, hu4, b4⟩; have k0 := keeps b4 m0; have k1 := keeps b4 m1; have k2 := keeps b4 m2; have k3 := keeps b4 m3; have k4 := keeps b4 m4; have k5 := keeps b4 m5; have k6 := keeps b4 m6; have kg := keeps b4 gp; have U4 := hid hu4; have B4 := hid (show Below W3.heap.size W3 w4 from undrew b4); have kA : ∀ o, (w4.alloc o).cell? ⟨g, 1, none⟩ = some pv := (fun o => keeps ((Below.refl _ _).alloc (Nat.le_refl _) o) kg); go_wp2_with fail))
          | ((refine step_appP rfl (.tmp 35) (.tmp 38) rfl w.heap.size pv i vs w4.heap.size T x rfl rfl ((nw_own_below HO.out (bel2 B3.out B4.out)).alloc _) (one_new w4 _ _) (by omega) ?_ ?_); (have q1 := ST.out.bel.size; have q2 := B3.out.size; have q3 := B4.out.size; simp; omega); intro v5 W5 h5; obtain ⟨A5, cap5, rfl, _, _⟩ := own_slice h5.out.1; have X5 : Hid (But (fun k => some k = pv.ownBlock) w4 W5) := (by first | exact ((But.refl _ w4).alloc _).trans h5.out.2 | exact ((But.refl _ w4).alloc _).drew.trans h5.out.2 | exact ((But.refl _ w4).drew.alloc _).trans h5.out.2); have j0 := X5.out.cell k0 nb; have j1 := X5.out.cell k1 nb; have j2 := X5.out.cell k2 nb; have j3 := X5.out.cell k3 nb; have j4 := X5.out.cell k4 nb; have j5 := X5.out.cell k5 nb; have j6 := X5.out.cell k6 nb; have b34 := bel2 B3.out B4.out; have row4 := (b34.block g (lt_of_heap HG.out)).trans HG.out; have row5 := X5.out.heap row4 (own_ne (nw_own_below HO.out b34) row4 (by decide)); have f5 := row_free row5 1; have c5 : W5.cell? ⟨g, 1, none⟩ = some pv := row_cell row5 1; clear row4 row5 b34))
        all_goals
          have q1 := ST.out.bel.size
          have FF := hid (NwSt.next ST.out.bel ST.out.top HG.out HC.out HLe.out HO.out HU.out HS.out HA.out B3.out B4.out hL (by have hpe := HPe.out; rw [hpe]; exact U4.out) X5.out h5.out.1 x3 v3 y2 y3)
          clear HB HG HC HLe HO HU HS HA
          go_wp2_with fail
          go_roundw
          case rel => exact ⟨i + 1, by omega, by go_num, FF.out⟩
          case measure => simp [intOf]; omega
      · obtain rfl : i = n := by omega
        have HH := hid (st.made kn hr hlen hk x1 x2 x3 y1 y2 y3 v1 v2 v3)
        clear st h hall hb hk
        unfold pt at *
        go_wp2_with fail
        refine HH.out.mono ?_
        rintro e w5 ⟨rfl, bl, bb⟩
        go_wp2_with fail
        go_ret2
        exact ⟨g, rfl, bl, bb⟩
  · clear m1 m2
    obtain ⟨W, hW⟩ : ∃ W, W = (((w1.alloc (Obj.cells (fL n fun _ => Value.int .i64 0).toArray 3)).alloc (Obj.cells (fL n fun _ => Value.int .u32 0).toArray 56)).alloc (Obj.cells #[Value.pointer none, Value.slice none 0 0, Value.slice (some ⟨w1.heap.size + 1, 0, none⟩) n n, Value.slice (some ⟨w1.heap.size, 0, none⟩) n n, Value.int IntKind.u32 1] 59)).drew := ⟨_, rfl⟩
    obtain ⟨q1, q2, q3, q4⟩ := alloc3 w1 (Obj.cells (fL n fun _ => Value.int .i64 0).toArray 3) (Obj.cells (fL n fun _ => Value.int .u32 0).toArray 56) (Obj.cells #[Value.pointer none, Value.slice none 0 0, Value.slice (some ⟨w1.heap.size + 1, 0, none⟩) n n, Value.slice (some ⟨w1.heap.size, 0, none⟩) n n, Value.int IntKind.u32 1] 59)
    have hs : W.heap.size = w1.heap.size + 1 + 1 + 1 := by rw [hW]; simp
    have p1 : W.heap[w1.heap.size]? = some (Obj.cells (fL n fun _ => Value.int .i64 0).toArray 3) := by rw [hW]; exact q1
    have p2 : W.heap[w1.heap.size + 1]? = some (Obj.cells (fL n fun _ => Value.int .u32 0).toArray 56) := by rw [hW]; exact q2
    have p3 : W.heap[w1.heap.size + 1 + 1]? = some (Obj.cells #[Value.pointer none, Value.slice none 0 0, Value.slice (some ⟨w1.heap.size + 1, 0, none⟩) n n, Value.slice (some ⟨w1.heap.size, 0, none⟩) n n, Value.int IntKind.u32 1] 59) := by rw [hW]; exact q3
    have p4 : Below w1.heap.size w1 W := by rw [hW]; exact q4.drew
    rw [← hW]
    clear hW q1 q2 q3 q4
    have q5 : Below w.heap.size w W := b1.trans (p4.mono b1.size)
    have hb1 := b1.size
    have x1 : w.heap.size ≤ w1.heap.size + 1 := by omega
    have x2 : w.heap.size ≤ w1.heap.size := by omega
    have x3 : w.heap.size ≤ w1.heap.size + 1 + 1 := by omega
    have y1 : ¬ w1.heap.size + 1 = w1.heap.size := by omega
    have y2 : ¬ w1.heap.size + 1 + 1 = w1.heap.size + 1 := by omega
    have y3 : ¬ w1.heap.size + 1 + 1 = w1.heap.size := by omega
    have v1 : w1.heap.size + 1 < W.heap.size := by omega
    have v2 : w1.heap.size < W.heap.size := by omega
    have v3 : w1.heap.size + 1 + 1 < W.heap.size := by omega
    clear hs b1 hb1 p4
    generalize w1.heap.size + 1 + 1 = g at *
    generalize w1.heap.size + 1 = ct at *
    generalize w1.heap.size = le at *
    have qc : Ro W ct 56 n (fun _ => .int .u32 0) := p2
    have ql : Ro W le 3 n (fun _ => .int .i64 0) := p1
    clear p1 p2
    have k0 : W.cell? ⟨g, 0, none⟩ = some (.pointer none) := row_cell p3 0
    have k1 : W.frozen? ⟨g, 0, none⟩ = false := row_free p3 0
    obtain ⟨W2, hW2⟩ : ∃ W2, W2 = W.setCell ⟨g, 0, none⟩ (.pointer (some ⟨g, 0, none⟩)) := ⟨_, rfl⟩
    have x4 : But (· = g) W W2 := by rw [hW2]; exact (But.refl (· = g) W).set ⟨g, 0, none⟩ _ (.inl rfl)
    have q6 : W2.heap[g]? = some (.cells #[pt g, .slice none 0 0, sl ct n, sl le n, .int .u32 1] 59 (0, 0)) := by rw [hW2]; exact row_set p3 0 _
    have c0 : NwSt w W2 g ct le n 0 W.heap.size L := ⟨q5.trans (x4.below (fun k e => by rw [e]; exact x3) q5.size), x4.size, .slice none 0 0, [], q6, qc.on x4 (Ne.symm y2), ql.on x4 (Ne.symm y3), World.ownsRow_nil _ _ _ _, fun _ _ => False, fun j _ h => absurd h (Nat.not_lt_zero _), fun j h => absurd h (Nat.not_lt_zero _), fun j k h => absurd h (Nat.not_lt_zero _)⟩
    have C0 := hid c0
    have HW2 := hid hW2
    generalize W.heap.size = B2 at *
    clear c0 q6 x4 p3 q5 hW2 qc ql
    go_wp2_with (rw [← HW2.out])
    clear k0 k1 HW2
    go_loopw [27] (fun vi wr => ∃ i : Nat, i ≤ n ∧ vi = .int .i64 i ∧ NwSt w wr g ct le n i B2 L) (fun vi _ => n - (intOf vi).toNat)
    case atStart => exact ⟨0, Nat.zero_le _, rfl, C0.out⟩
    case round =>
      clear C0
      obtain ⟨i, hi, rfl, st⟩ := hrel
      by_cases hgo : i < n
      · have hz : (i : Int) < (n : Int) := by omega
        obtain ⟨ad, p, rfl, hl, hp, a1⟩ := h.at i hgo
        obtain ⟨k0, k1, k2, k3, k4, k5, k6⟩ := a1.below st.bel (by rw [block_of_add]; exact hl)
        have hL : i < L.length := by omega
        have hpe : L[i] = p := by
          rw [List.getElem?_eq_getElem hL] at hp
          injection hp
        have hpm : p ∈ L := by rw [← hpe]; exact List.getElem_mem hL
        have HB := hid (fun w' kn => hb p hpm p i w' rfl (by rw [← hpe]; exact hall i hL) kn)
        have knr := hid (kn.below st.bel)
        have HPe := hid hpe
        have ST := hid st
        obtain ⟨pv, vs, hrow, hct, hle, own, S, hu, hS, hap⟩ := st.ex
        have g1 : wr.cell? ⟨g, 1, none⟩ = some pv := row_cell hrow 1
        have HG := hid hrow
        have HC := hid hct
        have HLe := hid hle
        have HO := hid own
        have HU := hid hu
        have HS := hid hS
        have HA := hid hap
        unfold vPt vP at HB
        obtain ⟨kk, sz, pa, pb, pc, prt, plm⟩ := p
        simp only at k0 k1 k2 k3 k4 k5 k6 HB
        clear hp a1 h hpe hrow hct hle own hu hS hap st hpm
        go_wp2_with fail
        obtain ⟨W3, hW3⟩ : ∃ W3, W3 = wr.alloc (Obj.cells #[Value.int IntKind.u8 kk, Value.int IntKind.i64 sz, Value.int IntKind.i64 pa, Value.int IntKind.i64 pb, Value.int IntKind.i64 pc, Value.int IntKind.i64 prt, Value.int IntKind.i64 plm] 38) := ⟨_, rfl⟩
        have b3 : Below wr.heap.size wr W3 := by rw [hW3]; exact (Below.refl _ _).alloc (Nat.le_refl _) _
        have m0 : W3.cell? ⟨wr.heap.size, 0, none⟩ = some (.int .u8 kk) := by rw [hW3]; go_simp
        have m1 : W3.cell? ⟨wr.heap.size, 1, none⟩ = some (.int .i64 sz) := by rw [hW3]; go_simp
        have m2 : W3.cell? ⟨wr.heap.size, 2, none⟩ = some (.int .i64 pa) := by rw [hW3]; go_simp
        have m3 : W3.cell? ⟨wr.heap.size, 3, none⟩ = some (.int .i64 pb) := by rw [hW3]; go_simp
        have m4 : W3.cell? ⟨wr.heap.size, 4, none⟩ = some (.int .i64 pc) := by rw [hW3]; go_simp
        have m5 : W3.cell? ⟨wr.heap.size, 5, none⟩ = some (.int .i64 prt) := by rw [hW3]; go_simp
        have m6 : W3.cell? ⟨wr.heap.size, 6, none⟩ = some (.int .i64 plm) := by rw [hW3]; go_simp
        rw [← hW3]
        have gp : W3.cell? ⟨g, 1, none⟩ = some pv := keeps b3 g1
        have nb : ¬ some wr.heap.size = pv.ownBlock := fun e => by have := (HO.out.lt _ e.symm).2; omega
        have B3 := hid b3
        have k3n := hid (knr.out.below b3)
        clear hW3 b3 k0 k1 k2 k3 k4 k5 k6 g1
        obtain ⟨bx, hbx⟩ : ∃ bx, wr.heap.size = bx := ⟨_, rfl⟩
        have HBX := hid hbx
        rw [hbx] at m0 m1 m2 m3 m4 m5 m6 nb
        rw [hbx]
        have nbg : ¬ bx = g := by have := ST.out.top; omega
        have nbg2 : ¬ g = bx := Ne.symm nbg
        clear hbx
        go_region_law
          (first
          | (go_simp; go_at_call 26; ((refine (HB.out _ k3n.out.drew').mono ?_); rintro r w4 ⟨T, x, rfl, hu4, b4⟩; have k0 := keeps b4 m0; have k1 := keeps b4 m1; have k2 := keeps b4 m2; have k3 := keeps b4 m3; have k4 := keeps b4 m4; have k5 := keeps b4 m5; have k6 := keeps b4 m6; have kg := keeps b4 gp; have U4 := hid hu4; have B4 := hid (show Below W3.heap.size W3 w4 from undrew b4); have kA : ∀ o, (w4.alloc o).cell? ⟨g, 1, none⟩ = some pv := (fun o => keeps ((Below.refl _ _).alloc (Nat.le_refl _) o) kg); go_wp2_with fail))
          | ((refine step_appP rfl (.tmp 35) (.tmp 38) rfl w.heap.size pv i vs w4.heap.size T x rfl rfl ((nw_own_below HO.out (bel2 B3.out B4.out)).alloc _) (one_new w4 _ _) (by omega) ?_ ?_); (have q1 := ST.out.bel.size; have q2 := B3.out.size; have q3 := B4.out.size; simp; omega); intro v5 W5 h5; obtain ⟨A5, cap5, rfl, _, _⟩ := own_slice h5.out.1; have X5 : Hid (But (fun k => some k = pv.ownBlock) w4 W5) := (by first | exact ((But.refl _ w4).alloc _).trans h5.out.2 | exact ((But.refl _ w4).alloc _).drew.trans h5.out.2 | exact ((But.refl _ w4).drew.alloc _).trans h5.out.2); have j0 := X5.out.cell k0 nb; have j1 := X5.out.cell k1 nb; have j2 := X5.out.cell k2 nb; have j3 := X5.out.cell k3 nb; have j4 := X5.out.cell k4 nb; have j5 := X5.out.cell k5 nb; have j6 := X5.out.cell k6 nb; have b34 := bel2 B3.out B4.out; have row4 := (b34.block g (lt_of_heap HG.out)).trans HG.out; have row5 := X5.out.heap row4 (own_ne (nw_own_below HO.out b34) row4 (by decide)); have f5 := row_free row5 1; have c5 : W5.cell? ⟨g, 1, none⟩ = some pv := row_cell row5 1; clear row4 row5 b34))
        all_goals
          have q1 := ST.out.bel.size
          have FF := hid (NwSt.next ST.out.bel ST.out.top HG.out HC.out HLe.out HO.out HU.out HS.out HA.out B3.out B4.out hL (by have hpe := HPe.out; rw [hpe]; exact U4.out) X5.out h5.out.1 x3 v3 y2 y3)
          clear HB HG HC HLe HO HU HS HA
          go_wp2_with fail
          go_roundw
          case rel => exact ⟨i + 1, by omega, by go_num, FF.out⟩
          case measure => simp [intOf]; omega
      · obtain rfl : i = n := by omega
        have HH := hid (st.made kn hr hlen hk x1 x2 x3 y1 y2 y3 v1 v2 v3)
        clear st h hall hb hk
        unfold pt at *
        go_wp2_with fail
        refine HH.out.mono ?_
        rintro e w5 ⟨rfl, bl, bb⟩
        go_wp2_with fail
        go_ret2
        exact ⟨g, rfl, bl, bb⟩
end Go.Proofs.YtkfdbibgjoaefaaGreatDoor
