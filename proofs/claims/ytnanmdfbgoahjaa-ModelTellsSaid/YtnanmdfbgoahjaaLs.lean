/-
  Lists of parts in memory: what came in, what is one's own; CopyParts, SameParts.
-/
import Derived.Test.YtnanmdfbgoahjaaRp
import Derived.Deep.Slices
import Derived.Deep.Strs
import Derived.Laws.AppendOwn
import Derived.OwnWalk
import Derived.ProofKit
import Derived.OpenShut
namespace Go.Proofs.Ytnanmdfbgoahjaa
open Go.RowKit Go.ChangeShapes Go.WideShapes Go.ChangeAt

theorem add_of_add (a : Addr) (i j : Nat) : (a.add i).add j = a.add (i + j) := by
  unfold Addr.add
  by_cases hi : i = 0 <;> by_cases hj : j = 0 <;> simp [hi, hj, Nat.add_assoc]
theorem block_of_add (a : Addr) (i : Nat) : (a.add i).block = a.block := by unfold Addr.add; split <;> rfl
def cellsP (p : Pt) : List Value := [.int .u8 p.kind, .int .i64 p.size, .int .i64 p.a, .int .i64 p.b, .int .i64 p.c, .int .i64 p.rate, .int .i64 p.limit]
def vPt (p : Pt) : Value := vP p.kind p.size p.a p.b p.c p.rate p.limit
/-- A part's cells from x on. -/
structure At7 (w : World) (x : Addr) (p : Pt) : Prop where
  c0 : w.cell? x = some (.int .u8 p.kind)
  c1 : w.cell? ⟨x.block, x.off + 1, none⟩ = some (.int .i64 p.size)
  c2 : w.cell? ⟨x.block, x.off + 2, none⟩ = some (.int .i64 p.a)
  c3 : w.cell? ⟨x.block, x.off + 3, none⟩ = some (.int .i64 p.b)
  c4 : w.cell? ⟨x.block, x.off + 4, none⟩ = some (.int .i64 p.c)
  c5 : w.cell? ⟨x.block, x.off + 5, none⟩ = some (.int .i64 p.rate)
  c6 : w.cell? ⟨x.block, x.off + 6, none⟩ = some (.int .i64 p.limit)
theorem At7.below {w w' : World} {x : Addr} {p : Pt} {B : Nat} (h : At7 w x p) (hb : Below B w w') (hx : x.block < B) : At7 w' x p :=
  ⟨(hb.cell hx).trans h.c0, (hb.cell (p := ⟨x.block, x.off + 1, none⟩) hx).trans h.c1, (hb.cell (p := ⟨x.block, x.off + 2, none⟩) hx).trans h.c2, (hb.cell (p := ⟨x.block, x.off + 3, none⟩) hx).trans h.c3,
    (hb.cell (p := ⟨x.block, x.off + 4, none⟩) hx).trans h.c4, (hb.cell (p := ⟨x.block, x.off + 5, none⟩) hx).trans h.c5, (hb.cell (p := ⟨x.block, x.off + 6, none⟩) hx).trans h.c6⟩
/-- A slice of parts. -/
structure IsP (w : World) (B : Nat) (A : Option Addr) (n c : Nat) (L : List Pt) : Prop where
  len : L.length = n
  cap : n ≤ c
  max : c ≤ maxLen
  lies : 0 < n → ∃ ad, A = some ad ∧ ad.block < B ∧ ∀ i (h : i < L.length), At7 w (ad.add (i * 7)) L[i]
theorem IsP.below {w w' : World} {B : Nat} {A : Option Addr} {n c : Nat} {L : List Pt} (h : IsP w B A n c L) (hb : Below B w w') : IsP w' B A n c L := by
  refine ⟨h.len, h.cap, h.max, fun h0 => ?_⟩
  obtain ⟨ad, e, hl, ha⟩ := h.lies h0
  exact ⟨ad, e, hl, fun i hi => (ha i hi).below hb (by rw [block_of_add]; exact hl)⟩
theorem IsP.at {w : World} {B : Nat} {A : Option Addr} {n c : Nat} {L : List Pt} (h : IsP w B A n c L) (i : Nat) (hi : i < n) : ∃ ad p, A = some ad ∧ ad.block < B ∧ L[i]? = some p ∧ At7 w (ad.add (i * 7)) p := by
  obtain ⟨ad, e, hl, ha⟩ := h.lies (by omega)
  have hL : i < L.length := by rw [h.len]; exact hi
  exact ⟨ad, L[i], e, hl, List.getElem?_eq_getElem hL, ha i hL⟩
theorem IsP.take {w : World} {B : Nat} {A : Option Addr} {n c : Nat} {L : List Pt} (h : IsP w B A n c L) (k : Nat) (hk : k ≤ n) : IsP w B A k c (L.take k) := by
  have hl := h.len
  refine ⟨by rw [List.length_take]; omega, Nat.le_trans hk h.cap, h.max, fun h0 => ?_⟩
  obtain ⟨ad, e, hl, ha⟩ := h.lies (by omega)
  refine ⟨ad, e, hl, fun i hi => ?_⟩
  rw [List.length_take] at hi
  rw [List.getElem_take]
  exact ha i (by omega)
theorem isP_nil (w : World) (B : Nat) : IsP w B none 0 0 [] := ⟨rfl, Nat.le_refl _, Nat.zero_le _, fun h => absurd h (by omega)⟩
theorem flat7 : ∀ (R : List Pt) (j i : Nat) (h : j < R.length), i < 7 → (R.flatMap cellsP)[j * 7 + i]? = (cellsP R[j])[i]?
  | [], j, i, h, _ => by simp at h
  | t :: R, 0, i, _, hi => by
    rw [List.flatMap_cons, Nat.zero_mul, Nat.zero_add, List.getElem?_append_left (by simp [cellsP]; omega)]
    rfl
  | t :: R, j + 1, i, h, hi => by
    have hl : (cellsP t).length = 7 := rfl
    have e : (j + 1) * 7 + i - (cellsP t).length = j * 7 + i := by rw [hl]; omega
    rw [List.flatMap_cons, List.getElem?_append_right (by rw [hl]; omega), e, flat7 R j i (by simpa using h) hi]
    rfl
theorem own_isP {w : World} {base n : Nat} {v : Value} {L : List Pt} (hL : L.length = n) (h : w.ownsRow base 41 7 v n (L.flatMap cellsP)) : ∃ A c, v = .slice A n c ∧ IsP w w.heap.size A n c L ∧ ∀ g, v.ownBlock = some g → base ≤ g := by
  rcases h.2 with ⟨rfl, rfl⟩ | ⟨g, cap, cur, rfl, hg, hh, hn, hm, _, _⟩
  · obtain rfl := List.eq_nil_of_length_eq_zero hL
    exact ⟨none, 0, rfl, isP_nil _ _, fun g hg => by simp [Value.ownBlock] at hg⟩
  · have hc := h.cells (g := g) rfl
    refine ⟨_, cap, rfl, ⟨hL, hn, hm, fun h0 => ⟨⟨g, 0, none⟩, rfl, ?_, fun i hi => ?_⟩⟩, fun g' hg' => ?_⟩
    · show g < w.heap.size
      rcases Nat.lt_or_ge g w.heap.size with hlt | hge
      · exact hlt
      · rw [Array.getElem?_eq_none hge] at hh; cases hh
    · have q := fun (k : Nat) (hk : k < 7) => hc (i * 7 + k) _ ((flat7 L i k hi hk).trans (List.getElem?_eq_getElem (l := cellsP L[i]) (i := k) hk))
      have e : ∀ k, (({ block := g, off := 0 } : Addr).add (i * 7 + k)) = ⟨g, i * 7 + k, none⟩ := fun k => by rw [Addr.add_lit, Nat.zero_add]
      have e0 : (({ block := g, off := 0 } : Addr).add (i * 7)) = ⟨g, i * 7, none⟩ := by rw [Addr.add_lit, Nat.zero_add]
      rw [e0]
      have q0 := q 0 (by omega)
      have q1 := q 1 (by omega)
      have q2 := q 2 (by omega)
      have q3 := q 3 (by omega)
      have q4 := q 4 (by omega)
      have q5 := q 5 (by omega)
      have q6 := q 6 (by omega)
      rw [e] at q0 q1 q2 q3 q4 q5 q6
      exact ⟨q0, q1, q2, q3, q4, q5, q6⟩
    · have : g = g' := by simpa [Value.ownBlock] using hg'
      omega
theorem exists_list {p : Nat → Pt → Prop} : ∀ n : Nat, (∀ i, i < n → ∃ t, p i t) → ∃ Ts : List Pt, Ts.length = n ∧ ∀ i (h : i < Ts.length), p i Ts[i] := by
  intro n
  induction n with
  | zero => intro _; exact ⟨[], rfl, fun i h => absurd h (by simp)⟩
  | succ n ih =>
    intro h
    obtain ⟨Ts, hl, hp⟩ := ih (fun i hi => h i (by omega))
    obtain ⟨t, ht⟩ := h n (by omega)
    refine ⟨Ts ++ [t], by simp [hl], fun i hi => ?_⟩
    by_cases hlt : i < Ts.length
    · rw [List.getElem_append_left hlt]; exact hp i hlt
    · have : i = n := by simp at hi; omega
      subst this
      rw [List.getElem_append_right (by omega)]
      simpa [hl] using ht
theorem u32 : Try.prog.underlying 41 = some (.struct #[⟨"Kind", 39, 0, false, "", "", 0⟩, ⟨"Size", 3, 1, false, "", "", 8⟩, ⟨"A", 3, 2, false, "", "", 16⟩, ⟨"B", 3, 3, false, "", "", 24⟩, ⟨"C", 3, 4, false, "", "", 32⟩, ⟨"Rate", 3, 5, false, "", "", 40⟩, ⟨"Limit", 3, 6, false, "", "", 48⟩]) := by kernel_rfl
theorem u30 : Try.prog.underlying 39 = some (.int .u8) := by kernel_rfl
theorem cells32 : Try.prog.cellsOf 41 = 7 := by kernel_rfl
theorem cells30 : Try.prog.cellsOf 39 = 1 := by kernel_rfl
theorem cells3 : Try.prog.cellsOf 3 = 1 := by kernel_rfl
section
variable {H : Type} {enc : TypeId × Value → H} {w : World} {base : Nat} {sp : Nat → Bool} {held : Bool}
set_option maxRecDepth 10000 in
theorem part_at {fuel : Nat} {cs : List Value} {x : DataW H × List MemPlace} (h : DataW.trod enc Try.prog w base sp held fuel 41 cs = some x) : ∃ p : Pt, cs = cellsP p := by
  obtain ⟨xs, n, _, rfl, hl, hlen, hf⟩ := DataW.trod_struct u32 h
  match xs, hlen with
  | [y0, y1, y2, y3, y4, y5, y6], _ =>
    have h0 := hf 0 _ rfl
    have h1 := hf 1 _ rfl
    have h2 := hf 2 _ rfl
    have h3 := hf 3 _ rfl
    have h4 := hf 4 _ rfl
    have h5 := hf 5 _ rfl
    have h6 := hf 6 _ rfl
    rw [cells32] at hl
    match cs, hl with
    | [c0, c1, c2, c3, c4, c5, c6], _ =>
      simp [cells3, cells30] at h0 h1 h2 h3 h4 h5 h6
      obtain ⟨K, e0, _, w0⟩ := DataW.trod_int u30 h0
      obtain ⟨S, e1, _, _⟩ := DataW.trod_int Try.underlying3 h1
      obtain ⟨A, e2, _, _⟩ := DataW.trod_int Try.underlying3 h2
      obtain ⟨B, e3, _, _⟩ := DataW.trod_int Try.underlying3 h3
      obtain ⟨C, e4, _, _⟩ := DataW.trod_int Try.underlying3 h4
      obtain ⟨R, e5, _, _⟩ := DataW.trod_int Try.underlying3 h5
      obtain ⟨M, e6, _, _⟩ := DataW.trod_int Try.underlying3 h6
      simp at e0 e1 e2 e3 e4 e5 e6
      subst e0 e1 e2 e3 e4 e5 e6
      have b0 := bounds_u8 w0
      refine ⟨⟨K.toNat, S, A, B, C, R, M⟩, ?_⟩
      have : ((K.toNat : Nat) : Int) = K := by omega
      simp [cellsP, this]
theorem open_parts {fuel len cap : Nat} {a : Option Addr} {x : DataW H × List MemPlace} (h : DataW.trod enc Try.prog w base sp held fuel 22 [.slice a len cap] = some x) : ∃ L, IsP w w.heap.size a len cap L := by
  rcases Go.Deep.open_slice Try.underlying22 h with ⟨hcs, _⟩ | ⟨ad, l, c, m, n, D, Pl, hcs, _, hl, hm, hmm, hx, hi⟩
  · simp at hcs
    obtain ⟨rfl, rfl, rfl⟩ := hcs
    exact ⟨[], isP_nil _ _⟩
  · simp at hcs
    obtain ⟨rfl, rfl, rfl⟩ := hcs
    have hlm : len ≤ m := by rw [hmm]; split <;> omega
    have each : ∀ i, i < len → ∃ p : Pt, At7 w (ad.add (i * 7)) p := by
      intro i hil
      obtain ⟨cs', hc, ht⟩ := hi i (by omega)
      rw [cells32] at hc
      obtain ⟨_, _, hat⟩ := World.cells?_some hc
      obtain ⟨p, rfl⟩ := part_at ht
      exact ⟨p, hat 0 (by decide), hat 1 (by decide), hat 2 (by decide), hat 3 (by decide), hat 4 (by decide), hat 5 (by decide), hat 6 (by decide)⟩
    obtain ⟨L, hTl, hT⟩ := exists_list len each
    refine ⟨L, hTl, hl, hm, fun h0 => ⟨ad, rfl, ?_, hT⟩⟩
    have := lt_cell (hT 0 (by omega)).c0
    rw [block_of_add] at this
    exact this
end
theorem Try.info41 : (Try.prog.info? 41).map (fun i => (i.zero, i.size, i.bytes)) = some (some (.agg #[.int .u8 0, .int .i64 0, .int .i64 0, .int .i64 0, .int .i64 0, .int .i64 0, .int .i64 0]), 7, 56) := by kernel_rfl
set_option maxRecDepth 10000 in
theorem SameParts_any (A : Option Addr) (c : Nat) (A' : Option Addr) (c' n : Nat) (L : List Pt) (w : World) (h : IsP w w.heap.size A n c L) (h' : IsP w w.heap.size A' n c' L) :
    Calls Try.prog 31 #[.slice A n c, .slice A' n c'] w fun e w' => e = .returned (.bool true) ∧ ∃ j, w' = w.drewN j := by
  have hm := h.max
  have hcp := h.cap
  unfold maxLen at hm
  go_enter Try.func31, Try.ntmps31
  go_wp2_with fail
  go_loopw [5] (fun vi wr => ∃ i j : Nat, i ≤ n ∧ vi = .int .i64 i ∧ wr = w.drewN j) (fun vi _ => n - (intOf vi).toNat)
  case atStart => exact ⟨0, 0, Nat.zero_le _, rfl, rfl⟩
  case round =>
    obtain ⟨i, j, hi, rfl, rfl⟩ := hrel
    by_cases hgo : i < n
    · have hz : (i : Int) < (n : Int) := by omega
      obtain ⟨ad, p, rfl, _, hp, a1⟩ := h.at i hgo
      obtain ⟨ad', p', rfl, _, hp', a2⟩ := h'.at i hgo
      obtain rfl : p = p' := by rw [hp] at hp'; injection hp'
      obtain ⟨k0, k1, k2, k3, k4, k5, k6⟩ := a1
      obtain ⟨q0, q1, q2, q3, q4, q5, q6⟩ := a2
      clear h h' hp hp'
      go_wp2_with fail
      go_quiet (fail)
      go_wp2_with fail
      go_roundw
      case rel => exact ⟨i + 1, j + nq, by omega, by go_num, rfl⟩
      case measure => simp [intOf]; omega
    · obtain rfl : i = n := by omega
      go_wp2_with fail
      go_ret
      exact ⟨rfl, j, rfl⟩
theorem row_cell {w : World} {g : Nat} {t : TypeId} {cs : Array Value} (h : w.heap[g]? = some (.cells cs t (0, 0))) (i : Nat) : w.cell? ⟨g, i, none⟩ = cs[i]? := cell_of_row w g i cs t (0, 0) h
theorem seven_cells (W : World) (p : Pt) : ∀ (j : Nat) (u : Value), (cellsP p)[j]? = some u →
    (W.alloc (.cells #[.int .u8 p.kind, .int .i64 p.size, .int .i64 p.a, .int .i64 p.b, .int .i64 p.c, .int .i64 p.rate, .int .i64 p.limit] 41)).cell? (({ block := W.heap.size, off := 0 } : Addr).add j) = some u := by
  intro j u hu
  have hh : (W.alloc (.cells #[.int .u8 p.kind, .int .i64 p.size, .int .i64 p.a, .int .i64 p.b, .int .i64 p.c, .int .i64 p.rate, .int .i64 p.limit] 41)).heap[W.heap.size]? = some (.cells #[.int .u8 p.kind, .int .i64 p.size, .int .i64 p.a, .int .i64 p.b, .int .i64 p.c, .int .i64 p.rate, .int .i64 p.limit] 41 (0, 0)) := heap_alloc_new W _
  rw [Addr.add_lit, Nat.zero_add, row_cell hh j]
  simpa [cellsP] using hu
theorem own_slice {w : World} {base e s n : Nat} {v : Value} {xs : List Value} (h : w.ownsRow base e s v n xs) : ∃ A c, v = .slice A n c ∧ n ≤ c ∧ c ≤ maxLen := by
  rcases h.2 with ⟨rfl, rfl⟩ | ⟨g, cap, cur, rfl, _, _, hn, hm, _⟩
  · exact ⟨none, 0, rfl, Nat.le_refl _, Nat.zero_le _⟩
  · exact ⟨_, cap, rfl, hn, hm⟩
set_option maxRecDepth 10000 in
set_option maxHeartbeats 1000000 in
theorem CopyParts_any (A : Option Addr) (n c : Nat) (L : List Pt) (w : World) (h : IsP w w.heap.size A n c L) (hn : n ≤ 5000) :
    Calls Try.prog 17 #[.slice A n c] w fun e w' => ∃ A' c', e = .returned (.slice A' n c') ∧ IsP w' w'.heap.size A' n c' L ∧ w'.ownsRow w.heap.size 41 7 (.slice A' n c') n (L.flatMap cellsP) ∧ Below w.heap.size w w' := by
  have hm := h.max
  have hcp := h.cap
  unfold maxLen at hm
  obtain ⟨i32, hi32, hz32, hs32, hb32⟩ := info_parts Try.info41
  go_enter Try.func17, Try.ntmps17
  go_wp2_with fail
  go_loopw [3, 4] (fun vo vi wr => ∃ i : Nat, i ≤ n ∧ vi = .int .i64 i ∧ wr.ownsRow w.heap.size 41 7 vo i ((L.take i).flatMap cellsP) ∧ Below w.heap.size w wr) (fun _ vi _ => n - (intOf vi).toNat)
  case atStart => exact ⟨0, Nat.zero_le _, rfl, World.ownsRow_nil _ _ _ _, Below.refl _ _⟩
  case round =>
    obtain ⟨i, hi, rfl, ho, hw⟩ := hrel
    by_cases hgo : i < n
    · have hz : (i : Int) < (n : Int) := by omega
      obtain ⟨ad, p, rfl, hl, hp, a1⟩ := h.at i hgo
      obtain ⟨k0, k1, k2, k3, k4, k5, k6⟩ := a1.below hw (by rw [block_of_add]; exact hl)
      obtain ⟨Ao, co, rfl, hoc, hom⟩ := own_slice ho
      have hL : i < L.length := by rw [h.len]; exact hgo
      have HT : Hid ((L.take (i + 1)).flatMap cellsP = (L.take i).flatMap cellsP ++ cellsP p) := by
        unfold Hid
        rw [List.take_succ_eq_append_getElem hL, List.flatMap_append]
        rw [List.getElem?_eq_getElem hL] at hp
        injection hp with hp
        simp [hp]
      have HO := hid ho
      clear hp a1 h ho
      go_wp2_with (at_builtin; refine wpList_append_own _ rfl (.tmp 11) (.tmp 16) 22 rfl w.heap.size 41 i32 _ 7 56 Try.underlying22 hi32 hz32 hs32 hb32 rfl (by decide) (.slice Ao i co) i ((L.take i).flatMap cellsP) rfl (HO.out.alloc _) ⟨wr.heap.size, 0, none⟩ 1 1 (cellsP p) rfl rfl (seven_cells wr p) (by intro u hu; simp [cellsP] at hu; rcases hu with rfl | rfl | rfl | rfl | rfl | rfl | rfl <;> rfl) (by unfold maxLen; omega) (by omega) (by have := hw.size; simp; omega) ?_
                   intro v1 w2 hown1 hg1 _
                   have bl2 : Below w.heap.size w w2 := (hw.alloc hw.size _).grown hg1 (by have := hw.size; simp; omega) (fun g hg => (HO.out.lt g hg).1))
      go_roundw
      case rel => exact ⟨i + 1, by omega, by go_num, by rw [HT.out]; exact hown1, bl2⟩
      case measure => simp [intOf]; omega
    · obtain rfl : i = n := by omega
      go_wp2_with fail
      go_ret
      have hL : L.take i = L := List.take_of_length_le (by rw [h.len]; omega)
      rw [hL] at ho
      obtain ⟨A', c', rfl, hp, _⟩ := own_isP h.len ho
      exact ⟨A', c', rfl, hp, ho, hw⟩
/-- The sum of the places, the first i parts'. -/
theorem places_i (p : Pt) : 0 ≤ plI p.kind p.size p.b ∧ plI p.kind p.size p.b ≤ 131072 := by
  rw [← places_plI]; exact places_range p
set_option maxRecDepth 10000 in
set_option maxHeartbeats 1000000 in
theorem Memory_any (A : Option Addr) (n c : Nat) (L : List Pt) (w : World) (h : IsP w w.heap.size A n c L) (hn : n ≤ 5000) :
    Calls Try.prog 33 #[.slice A n c] w fun e w' => e = .returned (.int .i64 (memP L)) ∧ Below w.heap.size w w' := by
  have hm := h.max
  have hcp := h.cap
  unfold maxLen at hm
  go_enter Try.func33, Try.ntmps33
  go_wp2_with fail
  go_loopw [3, 8] (fun vo vi wr => ∃ i : Nat, i ≤ n ∧ vi = .int .i64 i ∧ vo = .int .i64 (memP (L.take i)) ∧ Below w.heap.size w wr) (fun _ vi _ => n - (intOf vi).toNat)
  case atStart => exact ⟨0, Nat.zero_le _, rfl, rfl, Below.refl _ _⟩
  case round =>
    obtain ⟨i, hi, rfl, rfl, hw⟩ := hrel
    by_cases hgo : i < n
    · have hz : (i : Int) < (n : Int) := by omega
      obtain ⟨ad, p, rfl, hl, hp, a1⟩ := h.at i hgo
      obtain ⟨k0, k1, k2, k3, k4, k5, k6⟩ := a1.below hw (by rw [block_of_add]; exact hl)
      have hL : i < L.length := by rw [h.len]; exact hgo
      have HT : Hid (memP (L.take (i + 1)) = memP (L.take i) + plI p.kind p.size p.b) := by
        unfold Hid
        rw [memP_succ L i hL, places_plI]
        rw [List.getElem?_eq_getElem hL] at hp
        injection hp with hp
        rw [hp]
      have hr := memP_range (L.take i)
      rw [List.length_take] at hr
      have hpr := places_i p
      have HP := hid (fun w => places_any p.kind p.size p.a p.b p.c p.rate p.limit w)
      unfold vP at HP
      obtain ⟨S, hS⟩ : ∃ S, memP (L.take i) = S := ⟨_, rfl⟩
      obtain ⟨q, hq⟩ : ∃ q, plI p.kind p.size p.b = q := ⟨_, rfl⟩
      rw [hq] at HP HT hpr
      rw [hS] at HT hr ⊢
      obtain ⟨T, hT⟩ : ∃ T, memP (L.take (i + 1)) = T := ⟨_, rfl⟩
      rw [hT] at HT
      have HT2 := hid hT
      have s1 : S ≤ 700000000 := by omega
      have s0 := hr.1
      have q0 := hpr.1
      have q1 := hpr.2
      clear hp a1 h hS hq hT hr hpr
      go_wp2_with fail
      refine (HP.out _).mono ?_
      rintro e w2 ⟨rfl, b2⟩
      have B2 : Below w.heap.size w w2 := (hw.alloc hw.size _).trans (b2.mono (by have := hw.size; simp; omega))
      go_wp2_with fail
      go_roundw
      case rel => exact ⟨i + 1, by omega, by go_num, by rw [HT2.out, HT.out], B2⟩
      case measure => simp [intOf]; omega
    · obtain rfl : i = n := by omega
      have hL : L.take i = L := List.take_of_length_le (by rw [h.len]; omega)
      rw [hL]
      go_wp2_with fail
      go_ret
      exact ⟨rfl, hw⟩
set_option maxRecDepth 10000 in
set_option maxHeartbeats 1000000 in
theorem refMemory_any (A : Option Addr) (n c : Nat) (L : List Pt) (w : World) (h : IsP w w.heap.size A n c L) (hn : n ≤ 5000) :
    Calls Try.prog 35 #[.slice A n c] w fun e w' => e = .returned (.int .i64 (memP L)) ∧ Below w.heap.size w w' := by
  have hm := h.max
  have hcp := h.cap
  unfold maxLen at hm
  go_enter Try.func35, Try.ntmps35
  go_wp2_with fail
  go_loopw [3, 4] (fun vo vi wr => ∃ i : Nat, i ≤ n ∧ vi = .int .i64 i ∧ vo = .int .i64 (memP (L.take i)) ∧ Below w.heap.size w wr) (fun _ vi _ => n - (intOf vi).toNat)
  case atStart => exact ⟨0, Nat.zero_le _, rfl, rfl, Below.refl _ _⟩
  case round =>
    obtain ⟨i, hi, rfl, rfl, hw⟩ := hrel
    by_cases hgo : i < n
    · have hz : (i : Int) < (n : Int) := by omega
      obtain ⟨ad, p, rfl, hl, hp, a1⟩ := h.at i hgo
      obtain ⟨k0, k1, k2, k3, k4, k5, k6⟩ := a1.below hw (by rw [block_of_add]; exact hl)
      have hL : i < L.length := by rw [h.len]; exact hgo
      have HT : Hid (memP (L.take (i + 1)) = memP (L.take i) + plI p.kind p.size p.b) := by
        unfold Hid
        rw [memP_succ L i hL, places_plI]
        rw [List.getElem?_eq_getElem hL] at hp
        injection hp with hp
        rw [hp]
      have hr := memP_range (L.take i)
      rw [List.length_take] at hr
      have hpr := places_i p
      have HP := hid (fun w => refPlaces_any p.kind p.size p.a p.b p.c p.rate p.limit w)
      unfold vP at HP
      obtain ⟨S, hS⟩ : ∃ S, memP (L.take i) = S := ⟨_, rfl⟩
      obtain ⟨q, hq⟩ : ∃ q, plI p.kind p.size p.b = q := ⟨_, rfl⟩
      rw [hq] at HP HT hpr
      rw [hS] at HT hr ⊢
      obtain ⟨T, hT⟩ : ∃ T, memP (L.take (i + 1)) = T := ⟨_, rfl⟩
      rw [hT] at HT
      have HT2 := hid hT
      have s1 : S ≤ 700000000 := by omega
      have s0 := hr.1
      have q0 := hpr.1
      have q1 := hpr.2
      clear hp a1 h hS hq hT hr hpr
      go_wp2_with fail
      refine (HP.out _).mono ?_
      rintro e w2 ⟨rfl, b2⟩
      have B2 : Below w.heap.size w w2 := hw.trans (b2.mono hw.size)
      go_wp2_with fail
      go_roundw
      case rel => exact ⟨i + 1, by omega, by go_num, by rw [HT2.out, HT.out], B2⟩
      case measure => simp [intOf]; omega
    · obtain rfl : i = n := by omega
      have hL : L.take i = L := List.take_of_length_le (by rw [h.len]; omega)
      rw [hL]
      go_wp2_with fail
      go_ret
      exact ⟨rfl, hw⟩
end Go.Proofs.Ytnanmdfbgoahjaa
