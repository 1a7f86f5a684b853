/-
  Trees that lie in blocks of a kind; lists of statements of one's own; append of a statement.
-/
import Derived.Test.YtdachagkhjhggaaTre
import Derived.Laws.AppendOwn
import Derived.Laws.OwnMore
import Derived.OwnWalk
namespace Go.Proofs.Ytdachagkhjhggaa
open Go.RowKit
set_option linter.unusedVariables false
set_option linter.unusedSimpArgs false

/-- The statements t lie from p on, all in blocks of the kind P, and so do the lists within them. -/
def RowP (w : World) (P : Nat → Prop) : Tr → Addr → Prop
  | .nil, _ => True
  | .st x b e q, p => P p.block ∧ (∃ (Ab : Option Addr) (nb cb : Nat) (Ae : Option Addr) (ne ce : Nat), At13 w p x (.slice Ab nb cb) (.slice Ae ne ce) ∧
      (b.len = nb ∧ nb ≤ cb ∧ cb ≤ maxLen ∧ nb ≤ 140737488355328 ∧ (0 < nb → ∃ ad, Ab = some ad ∧ RowP w P b ad)) ∧
      (e.len = ne ∧ ne ≤ ce ∧ ce ≤ maxLen ∧ ne ≤ 140737488355328 ∧ (0 < ne → ∃ ad, Ae = some ad ∧ RowP w P e ad))) ∧ RowP w P q (p.add 13)
structure SlP (w : World) (P : Nat → Prop) (t : Tr) (A : Option Addr) (n c : Nat) : Prop where
  len : t.len = n
  cap : n ≤ c
  max : c ≤ maxLen
  sml : n ≤ 140737488355328
  lies : 0 < n → ∃ ad, A = some ad ∧ RowP w P t ad
theorem rowP_st {w : World} {P : Nat → Prop} {x : Sd} {b e q : Tr} {p : Addr} : RowP w P (.st x b e q) p ↔ P p.block ∧ (∃ (Ab : Option Addr) (nb cb : Nat) (Ae : Option Addr) (ne ce : Nat), At13 w p x (.slice Ab nb cb) (.slice Ae ne ce) ∧ SlP w P b Ab nb cb ∧ SlP w P e Ae ne ce) ∧ RowP w P q (p.add 13) := by
  constructor
  · rintro ⟨h1, ⟨Ab, nb, cb, Ae, ne, ce, h2, ⟨b1, b2, b3, b4, b5⟩, ⟨e1, e2, e3, e4, e5⟩⟩, h3⟩
    exact ⟨h1, ⟨Ab, nb, cb, Ae, ne, ce, h2, ⟨b1, b2, b3, b4, b5⟩, ⟨e1, e2, e3, e4, e5⟩⟩, h3⟩
  · rintro ⟨h1, ⟨Ab, nb, cb, Ae, ne, ce, h2, ⟨b1, b2, b3, b4, b5⟩, ⟨e1, e2, e3, e4, e5⟩⟩, h3⟩
    exact ⟨h1, ⟨Ab, nb, cb, Ae, ne, ce, h2, ⟨b1, b2, b3, b4, b5⟩, ⟨e1, e2, e3, e4, e5⟩⟩, h3⟩
theorem RowP.to {w w' : World} {P P' : Nat → Prop} (hP : ∀ i, P i → P' i) (hb : ∀ a : Addr, P a.block → w'.cell? a = w.cell? a) : ∀ (t : Tr) (p : Addr), RowP w P t p → RowP w' P' t p
  | .nil, _, _ => trivial
  | .st x b e q, p, h => by
    obtain ⟨h1, ⟨Ab, nb, cb, Ae, ne, ce, h2, ⟨b1, b2, b3, b4, b5⟩, ⟨e1, e2, e3, e4, e5⟩⟩, h3⟩ := h
    refine ⟨hP _ h1, ⟨Ab, nb, cb, Ae, ne, ce, h2.to (fun a ha => hb a (ha ▸ h1)), ⟨b1, b2, b3, b4, fun h => ?_⟩, ⟨e1, e2, e3, e4, fun h => ?_⟩⟩, RowP.to hP hb q _ h3⟩
    · obtain ⟨ad, e, r⟩ := b5 h
      exact ⟨ad, e, RowP.to hP hb b ad r⟩
    · obtain ⟨ad, e', r⟩ := e5 h
      exact ⟨ad, e', RowP.to hP hb e ad r⟩
theorem SlP.to {w w' : World} {P P' : Nat → Prop} {t : Tr} {A : Option Addr} {n c : Nat} (h : SlP w P t A n c) (hP : ∀ i, P i → P' i) (hb : ∀ a : Addr, P a.block → w'.cell? a = w.cell? a) : SlP w' P' t A n c :=
  ⟨h.len, h.cap, h.max, h.sml, fun h0 => by obtain ⟨ad, e, r⟩ := h.lies h0; exact ⟨ad, e, RowP.to hP hb t ad r⟩⟩
theorem RowP.row {w : World} {P : Nat → Prop} {B : Nat} (hP : ∀ i, P i → i < B) : ∀ (t : Tr) (p : Addr), RowP w P t p → Row w B t p
  | .nil, _, _ => trivial
  | .st x b e q, p, h => by
    obtain ⟨h1, ⟨Ab, nb, cb, Ae, ne, ce, h2, ⟨b1, b2, b3, b4, b5⟩, ⟨e1, e2, e3, e4, e5⟩⟩, h3⟩ := h
    refine ⟨hP _ h1, ⟨Ab, nb, cb, Ae, ne, ce, h2, ⟨b1, b2, b3, b4, fun h => ?_⟩, ⟨e1, e2, e3, e4, fun h => ?_⟩⟩, RowP.row hP q _ h3⟩
    · obtain ⟨ad, e, r⟩ := b5 h
      exact ⟨ad, e, RowP.row hP b ad r⟩
    · obtain ⟨ad, e', r⟩ := e5 h
      exact ⟨ad, e', RowP.row hP e ad r⟩
theorem SlP.sl {w : World} {P : Nat → Prop} {B : Nat} {t : Tr} {A : Option Addr} {n c : Nat} (h : SlP w P t A n c) (hP : ∀ i, P i → i < B) : Sl w B t A n c :=
  ⟨h.len, h.cap, h.max, h.sml, fun h0 => by obtain ⟨ad, e, r⟩ := h.lies h0; exact ⟨ad, e, RowP.row hP t ad r⟩⟩
theorem Row.rowP {w : World} {B : Nat} : ∀ (t : Tr) (p : Addr), Row w B t p → RowP w (fun i => i < B) t p
  | .nil, _, _ => trivial
  | .st x b e q, p, h => by
    obtain ⟨h1, ⟨Ab, nb, cb, Ae, ne, ce, h2, ⟨b1, b2, b3, b4, b5⟩, ⟨e1, e2, e3, e4, e5⟩⟩, h3⟩ := h
    refine ⟨h1, ⟨Ab, nb, cb, Ae, ne, ce, h2, ⟨b1, b2, b3, b4, fun h => ?_⟩, ⟨e1, e2, e3, e4, fun h => ?_⟩⟩, Row.rowP q _ h3⟩
    · obtain ⟨ad, e, r⟩ := b5 h
      exact ⟨ad, e, Row.rowP b ad r⟩
    · obtain ⟨ad, e', r⟩ := e5 h
      exact ⟨ad, e', Row.rowP e ad r⟩
theorem Sl.slP {w : World} {B : Nat} {t : Tr} {A : Option Addr} {n c : Nat} (h : Sl w B t A n c) : SlP w (fun i => i < B) t A n c :=
  ⟨h.len, h.cap, h.max, h.sml, fun h0 => by obtain ⟨ad, e, r⟩ := h.lies h0; exact ⟨ad, e, Row.rowP t ad r⟩⟩
/-- Statements with their slices, and the tree that they say. -/
def Made (w : World) (P : Nat → Prop) : List (Sd × Value × Value) → Tr → Prop
  | [], .nil => True
  | (y, vb, ve) :: L, .st x b e q => y = x ∧ (∃ Ab nb cb, vb = .slice Ab nb cb ∧ SlP w P b Ab nb cb) ∧ (∃ Ae ne ce, ve = .slice Ae ne ce ∧ SlP w P e Ae ne ce) ∧ Made w P L q
  | _, _ => False
theorem Made.len {w : World} {P : Nat → Prop} : ∀ {L : List (Sd × Value × Value)} {t : Tr}, Made w P L t → t.len = L.length
  | [], .nil, _ => rfl
  | (y, vb, ve) :: L, .st x b e q, h => by
    simp only [Tr.len, List.length_cons, Made.len h.2.2.2]
  | [], .st _ _ _ _, h => h.elim
  | _ :: _, .nil, h => h.elim
theorem Made.to {w w' : World} {P P' : Nat → Prop} (hP : ∀ i, P i → P' i) (hb : ∀ a : Addr, P a.block → w'.cell? a = w.cell? a) : ∀ {L : List (Sd × Value × Value)} {t : Tr}, Made w P L t → Made w' P' L t
  | [], .nil, _ => trivial
  | (y, vb, ve) :: L, .st x b e q, h => by
    obtain ⟨h1, ⟨Ab, nb, cb, e1, hb1⟩, ⟨Ae, ne, ce, e2, he1⟩, h3⟩ := h
    exact ⟨h1, ⟨Ab, nb, cb, e1, hb1.to hP hb⟩, ⟨Ae, ne, ce, e2, he1.to hP hb⟩, Made.to hP hb h3⟩
  | [], .st _ _ _ _, h => h.elim
  | _ :: _, .nil, h => h.elim
theorem Made.snoc {w : World} {P : Nat → Prop} {x : Sd} {b e : Tr} {Ab Ae : Option Addr} {nb cb ne ce : Nat} (hb : SlP w P b Ab nb cb) (he : SlP w P e Ae ne ce) : ∀ {L : List (Sd × Value × Value)} {t : Tr}, Made w P L t → Made w P (L ++ [(x, .slice Ab nb cb, .slice Ae ne ce)]) (t.app (.st x b e .nil))
  | [], .nil, _ => ⟨rfl, ⟨_, _, _, rfl, hb⟩, ⟨_, _, _, rfl, he⟩, trivial⟩
  | (y, vb, ve) :: L, .st x' b' e' q, h => ⟨h.1, h.2.1, h.2.2.1, Made.snoc hb he h.2.2.2⟩
  | [], .st _ _ _ _, h => h.elim
  | _ :: _, .nil, h => h.elim
def c13 (z : Sd × Value × Value) : List Value := cells13 z.1 z.2.1 z.2.2
theorem made_row {w : World} {P : Nat → Prop} {g : Nat} (hg : P g) : ∀ {L : List (Sd × Value × Value)} {t : Tr} (k : Nat), Made w P L t → (∀ j u, (L.flatMap c13)[j]? = some u → w.cell? ⟨g, k + j, none⟩ = some u) → RowP w P t ⟨g, k, none⟩
  | [], .nil, _, _, _ => trivial
  | (y, vb, ve) :: L, .st x b e q, k, h, hc => by
    obtain ⟨rfl, ⟨Ab, nb, cb, rfl, hb1⟩, ⟨Ae, ne, ce, rfl, he1⟩, h3⟩ := h
    have hh : ∀ j, j < 13 → ∀ u, (cells13 y (.slice Ab nb cb) (.slice Ae ne ce))[j]? = some u → w.cell? ⟨g, k + j, none⟩ = some u := by
      intro j hj u hu
      refine hc j u ?_
      rw [List.flatMap_cons, List.getElem?_append_left (by simp [c13, cells13]; exact hj)]
      exact hu
    refine rowP_st.2 ⟨hg, ⟨Ab, nb, cb, Ae, ne, ce, ?_, hb1, he1⟩, ?_⟩
    · exact ⟨hh 0 (by omega) _ rfl, hh 1 (by omega) _ rfl, hh 2 (by omega) _ rfl, hh 3 (by omega) _ rfl, hh 4 (by omega) _ rfl, hh 5 (by omega) _ rfl, hh 6 (by omega) _ rfl, hh 7 (by omega) _ rfl, hh 8 (by omega) _ rfl, hh 9 (by omega) _ rfl, hh 10 (by omega) _ rfl, hh 11 (by omega) _ rfl, hh 12 (by omega) _ rfl⟩
    · rw [Addr.add_lit]
      refine made_row hg (k + 13) h3 (fun j u hu => ?_)
      rw [Nat.add_assoc]
      refine hc (13 + j) u ?_
      rw [List.flatMap_cons, List.getElem?_append_right (by simp [c13, cells13])]
      rw [show 13 + j - (c13 (y, .slice Ab nb cb, .slice Ae ne ce)).length = j by simp [c13, cells13]]
      exact hu
  | [], .st _ _ _ _, _, h, _ => h.elim
  | _ :: _, .nil, _, h, _ => h.elim
/-- A list of one's own. -/
theorem own_slP {w : World} {base n : Nat} {v : Value} {L : List (Sd × Value × Value)} {t : Tr} {P : Nat → Prop} (hL : L.length = n) (h : w.ownsRow base 42 13 v n (L.flatMap c13)) (hm : Made w P L t) (hs : n ≤ 140737488355328) (hP : ∀ g, v.ownBlock = some g → P g) : ∃ A c, v = .slice A n c ∧ SlP w P t A n c := by
  have hlen := hm.len
  rcases h.2 with ⟨rfl, rfl⟩ | ⟨g, cap, cur, rfl, hg, hh, hn, hm2, _, _⟩
  · exact ⟨none, 0, rfl, by omega, Nat.le_refl _, Nat.zero_le _, hs, fun h => absurd h (by omega)⟩
  · have hc := h.cells (g := g) rfl
    refine ⟨_, cap, rfl, by omega, hn, hm2, hs, fun _ => ⟨_, rfl, ?_⟩⟩
    refine made_row (hP g rfl) 0 hm (fun j u hu => ?_)
    have := hc j u hu
    rwa [Addr.add_lit] at this
theorem Try.info42 : (Try.prog.info? 42).map (fun i => (i.zero, i.size, i.bytes)) = some (some (.agg #[.int .u8 0, .int .u8 0, .int .i64 0, .int .i64 0, .int .i64 0, .bool false, .int .u8 0, .int .i64 0, .int .i64 0, .int .i64 0, .slice none 0 0, .slice none 0 0, .int .i64 0]), 13, 136) := by kernel_rfl
theorem run_append_fresh {w : World} {base : Nat} {ty : TypeId} {v : Value} {n : Nat} {xs : List Value} (hown : w.ownsRow base 42 13 v n xs)
    (a : Addr) (m c : Nat) (news : List Value) (hl : news.length = m * 13) (hnews : ∀ j u, news[j]? = some u → w.cell? (a.add j) = some u) (h1 : ∀ u ∈ news, u.oneCell' = true) (h48 : n + m ≤ 1000000000) (hbase : base ≤ w.heap.size) :
    ∃ v' w', (Builtin.append_ #[22, 22] ty #[v, .slice (some a) m c]).run Try.prog w = .ok v' w' ∧ w'.ownsRow base 42 13 v' (n + m) (xs ++ news) ∧ w.grownBy w' v.ownBlock ∧ (v'.ownBlock = v.ownBlock ∨ ∃ k, v'.ownBlock = some k ∧ w.heap.size ≤ k) := by
  obtain ⟨i0, hi, hz0, hz1, hz2⟩ := info_parts Try.info42
  have hl' : news.length = m * i0.size := by rw [hz1]; exact hl
  obtain ⟨v', w', hr, h2, h3, h4⟩ := run_append_own (P := Try.prog) w base 22 ty 42 i0 _ 13 136 Try.underlying22 hi hz0 hz1 hz2 rfl (by decide) v n xs hown a m c news hl hnews h1 (by unfold maxLen; omega) (by omega) hbase
  refine (fun hfr : v'.ownBlock = v.ownBlock ∨ ∃ k, v'.ownBlock = some k ∧ w.heap.size ≤ k => ⟨v', w', hr, h2, h3, hfr⟩) ?_
  rcases hown.2 with ⟨rfl, rfl⟩ | ⟨g, cap, cur, rfl, hbg, hg, hnc, hcm, hcs, htake⟩
  · by_cases hm : m = 0
    · left
      rw [h4.2 ⟨rfl, hm⟩]
    · have e := run_append_nil (P := Try.prog) w 22 ty 42 i0 _ Try.underlying22 hi hz0 a m c news hl' hnews (by omega) (by omega) (by rw [hz2]; omega)
      rw [e] at hr
      injection hr with e1 _
      exact .inr ⟨w.heap.size, by rw [← e1]; rfl, Nat.le_refl _⟩
  · by_cases hroom : n + m ≤ cap
    · have e := run_append_room (P := Try.prog) w 22 ty 42 i0 Try.underlying22 hi g n cap cur hg a m c news hl' hnews h1 hroom (by rw [hl, hz1, hcs]; omega)
      rw [e] at hr
      injection hr with e1 _
      exact .inl (by rw [← e1]; rfl)
    · have holds : ∀ j u, xs[j]? = some u → w.cell? ((⟨g, 0, none⟩ : Addr).add j) = some u := hown.cells (g := g) rfl
      have e := run_append_grow (P := Try.prog) w 22 ty 42 i0 _ Try.underlying22 hi hz0 ⟨g, 0, none⟩ n cap xs (by rw [hz1]; exact hown.1) holds a m c news hl' hnews (by omega) (by omega) (growslice_fits (by omega) (by rw [hz2]; omega))
      rw [e] at hr
      injection hr with e1 _
      exact .inr ⟨w.heap.size, by rw [← e1]; rfl, Nat.le_refl _⟩
theorem wpList_append_st {w : World} {ops : Array Oper} {rest : List Oper} {o : Oper} {a : Act} {Q : Exit → Act → World → Prop} (hgd : o.guard = none) (s x : Operand)
    (ho : o.op = .call { callee := .builtin .append, args := #[s, x], argTypes := #[22, 22] })
    (base : Nat) (v : Value) (n : Nat) (xs : List Value) (hs : a.eval s = v) (hown : w.ownsRow base 42 13 v n xs)
    (ad : Addr) (m c : Nat) (news : List Value) (hx : a.eval x = .slice (some ad) m c) (hl : news.length = m * 13) (hnews : ∀ j u, news[j]? = some u → w.cell? (ad.add j) = some u) (h1 : ∀ u ∈ news, u.oneCell' = true) (h48 : n + m ≤ 1000000000) (hbase : base ≤ w.heap.size)
    (h : ∀ v' w', Hid (w'.ownsRow base 42 13 v' (n + m) (xs ++ news)) → Hid (w.grownBy w' v.ownBlock) → Hid (v'.ownBlock = v.ownBlock ∨ ∃ k, v'.ownBlock = some k ∧ w.heap.size ≤ k) → wpList Try.prog ops Q rest (a.put o.dst v') w') : wpList Try.prog ops Q (o :: rest) a w := by
  obtain ⟨v', w', hr, h2, h3, h4⟩ := run_append_fresh (ty := o.type) hown ad m c news hl hnews h1 h48 hbase
  refine wpList_plain hgd fun K hK => ?_
  unfold Oper.wp execOp
  simp only [ho, resolve, invoke, builtin, Sem.run_bind, Sem.run_pure, Result.andThen_ok, List.map_toArray, List.map_cons, List.map_nil, hs, hx, hr]
  exact hK _ _ (h v' w' h2 h3 h4)
end Go.Proofs.Ytdachagkhjhggaa
