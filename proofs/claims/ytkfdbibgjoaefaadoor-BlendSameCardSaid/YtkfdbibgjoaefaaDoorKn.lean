/-
  What a part's value does in memory, kind by kind: how it leans, what it learns, how a byte begins and ends for it.
-/
import Derived.Test.YtkfdbibgjoaefaaDoorZg
import Derived.Test.YtkfdbibgjoaefaaDoorZc
import Derived.Shelf.Abstract
namespace Go.Proofs.YtkfdbibgjoaefaaDoor
open Go.RowKit

/-- A moment at which a part u, the i-th, may be asked. -/
structure At1 (u : Un) (wh i c bits n : Nat) (L : List Int) : Prop where
  one : u.p.one (i : Nat)
  ok : u.ok wh
  hu : u.h < 4294967296
  lt : i < n
  most : n ≤ 16
  len : L.length = n
  rng : ∀ d ∈ L, Lean1 d
  b7 : bits ≤ 7
  c0 : 2 ^ bits ≤ c
  c1 : c < 2 ^ (bits + 1)
theorem At1.c256 {u : Un} {wh i c bits n : Nat} {L : List Int} (a : At1 u wh i c bits n L) : c < 256 := by
  have h1 := a.c1
  have h2 := a.b7
  have := Nat.pow_le_pow_right (n := 2) (by decide) (show bits + 1 ≤ 8 from by omega)
  omega
/-- Methods: function M on R. -/
def Ent (M : FuncId) : Prop := ∀ a w, (callFunc M a).run Tryd.prog w = .ok (.enter M a) w
def LeanK (k : Nat) : Prop := ∀ (u : Un) (S : Nat → Prop) (v : Value) (wh i c bits le n : Nat) (L : List Int) (w0 : World), u.p.kind = k → At1 u wh i c bits n L → UnAt w0 S v u wh →
  ∃ T x M R, v = .iface T x ∧ Ent M ∧ (∀ w, Mth w T x "quillpress/blend.lean" M R) ∧
    ∀ w, KnIs w → UnAt w S v u wh → Ro w le 3 n (intsF L) → Calls Tryd.prog M #[R, mo u.h c le n] w fun e w' => e = .returned (.int .i64 (u.lean c bits L)) ∧ Below w.heap.size w w'
def LearnK (k : Nat) : Prop := ∀ (u : Un) (S : Nat → Prop) (v : Value) (wh i c bits le n : Nat) (L : List Int) (own : Int) (one : Bool) (w0 : World), u.p.kind = k → At1 u wh i c bits n L → Lean1 own → ¬ S le → UnAt w0 S v u wh →
  ∃ T x M R, v = .iface T x ∧ Ent M ∧ (∀ w, (nilAhead 251 T x "quillpress/blend.learn").run Tryd.prog w = .ok (some false) w) ∧ (∀ w, UnAt w S v u wh → (method 251 T x "quillpress/blend.learn").run Tryd.prog w = .ok (M, R) w) ∧
    ∀ w, KnIs w → UnAt w S v u wh → Ro w le 3 n (intsF L) → Calls Tryd.prog M #[R, mo u.h c le n, .int .i64 own, .int .i64 (if one then 1 else 0)] w fun e w' => e = .returned (.tuple #[]) ∧ UnAt w' S v (u.learn c L own one) wh ∧ But S w w'
def EndK (k : Nat) : Prop := ∀ (u : Un) (S : Nat → Prop) (v : Value) (wh i c : Nat) (w0 : World), u.p.kind = k → u.p.one (i : Nat) → u.ok wh → wh < 4294967296 → UnAt w0 S v u wh →
  ∃ T x M R, v = .iface T x ∧ Ent M ∧ (∀ w, UnAt w S v u wh → (method 251 T x "quillpress/blend.end").run Tryd.prog w = .ok (M, R) w) ∧
    ∀ w, KnIs w → UnAt w S v u wh → Calls Tryd.prog M #[R, .int .u8 (c % 256 : Nat)] w fun e w' => e = .returned (.tuple #[]) ∧ UnAt w' S v (u.whole c wh) (wh + 1) ∧ But S w w'
/-- A part for which a byte begins. -/
def Un.beg (u : Un) (wh h : Nat) : Un := if u.p.kind = 4 then ({ u with h := h } : Un).find wh else { u with h := h }
def BeginK (k : Nat) : Prop := ∀ (u : Un) (S : Nat → Prop) (v : Value) (wh i h : Nat) (w0 : World), u.p.kind = k → u.p.one (i : Nat) → u.ok wh → wh < 4294967296 → h < 4294967296 → UnAt w0 S v u wh →
  ∃ T x M R, v = .iface T x ∧ Ent M ∧ (∀ w, (nilAhead 251 T x "quillpress/blend.begin").run Tryd.prog w = .ok (some false) w) ∧ (∀ w, UnAt w S v u wh → (method 251 T x "quillpress/blend.begin").run Tryd.prog w = .ok (M, R) w) ∧
    ∀ w, KnIs w → UnAt w S v u wh → Calls Tryd.prog M #[R, .int .u32 (h : Nat)] w fun e w' => e = .returned (.tuple #[]) ∧ UnAt w' S v (u.beg wh h) wh ∧ But S w w'
/-- A part that is no match does not go by whole bytes, nor by its context's number. -/
theorem UnAt.other {w : World} {S : Nat → Prop} {v : Value} {u : Un} {n : Nat} (m : Nat) (k : u.p.kind ≠ 4) (x : UnAt w S v u n) : UnAt w S v u m := by
  cases x with
  | cst k hv => exact .cst k hv
  | avg k hv => exact .avg k hv
  | cm k g d hv sg sd ne hg hd => exact .cm k g d hv sg sd ne hg hd
  | icm k g d hv sg sd ne hg hd => exact .icm k g d hv sg sd ne hg hd
  | mch k => exact absurd k ‹_›
  | mix2 k g d hv sg sd ne hg hd => exact .mix2 k g d hv sg sd ne hg hd
  | mix k g d hv sg sd ne hg hd => exact .mix k g d hv sg sd ne hg hd
  | isse k g d hv sg sd ne hg hd => exact .isse k g d hv sg sd ne hg hd
  | sse k g d hv sg sd ne hg hd => exact .sse k g d hv sg sd ne hg hd
theorem UnAt.setH {w : World} {S : Nat → Prop} {v : Value} {u : Un} {n : Nat} (h : Nat) (x : UnAt w S v u n) : UnAt w S v { u with h := h } n := by
  cases x with
  | cst k hv => exact .cst k hv
  | avg k hv => exact .avg k hv
  | cm k g d hv sg sd ne hg hd => exact .cm k g d hv sg sd ne hg hd
  | icm k g d hv sg sd ne hg hd => exact .icm k g d hv sg sd ne hg hd
  | mch k g dr ds hv sg sr ss n1 n2 n3 hg hr hs => exact .mch k g dr ds hv sg sr ss n1 n2 n3 hg hr hs
  | mix2 k g d hv sg sd ne hg hd => exact .mix2 k g d hv sg sd ne hg hd
  | mix k g d hv sg sd ne hg hd => exact .mix k g d hv sg sd ne hg hd
  | isse k g d hv sg sd ne hg hd => exact .isse k g d hv sg sd ne hg hd
  | sse k g d hv sg sd ne hg hd => exact .sse k g d hv sg sd ne hg hd
theorem Ent.of {f : FuncId} {fn : Func} {c : Code} (hf : Tryd.prog.funcs[f]? = some fn) (hname : (fn.name == "runtime.NumGoroutine") = false) (hb : fn.body = some c) : Ent f := fun a w => enters_of hf hname hb a w
theorem ent63 : Ent 63 := Ent.of Tryd.func63 (by kernel_rfl) rfl
theorem ent64 : Ent 64 := Ent.of Tryd.func64 (by kernel_rfl) rfl
theorem ent65 : Ent 65 := Ent.of Tryd.func65 (by kernel_rfl) rfl
theorem whole_same (u : Un) (c wh : Nat) (k : u.p.kind ≠ 4) : u.whole c wh = u := by unfold Un.whole; rw [if_neg k]
theorem beg_same (u : Un) (wh h : Nat) (k : u.p.kind ≠ 4) : u.beg wh h = { u with h := h } := by unfold Un.beg; rw [if_neg k]
section
variable {T : TypeId} {x R : Value}
/-- A part whose end is that of a part that goes by bits alone. -/
theorem end_64 {k : Nat} (k4 : k ≠ 4) (h : ∀ (u : Un) (S : Nat → Prop) (v : Value) (wh : Nat) (w0 : World), u.p.kind = k → UnAt w0 S v u wh → ∃ T x, v = .iface T x ∧ ∀ w, UnAt w S v u wh → (method 251 T x "quillpress/blend.end").run Tryd.prog w = .ok (64, .agg #[]) w) : EndK k := by
  intro u S v wh i c w0 hk _ _ _ hu
  obtain ⟨T, x, hv, hm⟩ := h u S v wh w0 hk hu
  refine ⟨T, x, 64, .agg #[], hv, ent64, hm, fun w kn hu => (w_end (c % 256) w).mono ?_⟩
  rintro e w' ⟨rfl, b⟩
  refine ⟨rfl, ?_, But.of_below b⟩
  rw [whole_same u c wh (by omega)]
  exact (hu.below b).other (wh + 1) (by omega)
theorem begin_63 {k : Nat} (k4 : k ≠ 4) (h : ∀ (u : Un) (S : Nat → Prop) (v : Value) (wh : Nat) (w0 : World), u.p.kind = k → UnAt w0 S v u wh → ∃ T x, v = .iface T x ∧ (∀ w, (nilAhead 251 T x "quillpress/blend.begin").run Tryd.prog w = .ok (some false) w) ∧ ∀ w, UnAt w S v u wh → (method 251 T x "quillpress/blend.begin").run Tryd.prog w = .ok (63, .agg #[]) w) : BeginK k := by
  intro u S v wh i c w0 hk _ _ _ _ hu
  obtain ⟨T, x, hv, hn, hm⟩ := h u S v wh w0 hk hu
  refine ⟨T, x, 63, .agg #[], hv, ent63, hn, hm, fun w kn hu => (w_begin c w).mono ?_⟩
  rintro e w' ⟨rfl, b⟩
  refine ⟨rfl, ?_, But.of_below b⟩
  rw [beg_same u wh c (by omega)]
  exact (hu.below b).setH c
theorem learn_65 {k : Nat} (hs : ∀ (u : Un) c L own one, u.p.kind = k → u.learn c L own one = u) (h : ∀ (u : Un) (S : Nat → Prop) (v : Value) (wh : Nat) (w0 : World), u.p.kind = k → UnAt w0 S v u wh → ∃ T x, v = .iface T x ∧ (∀ w, (nilAhead 251 T x "quillpress/blend.learn").run Tryd.prog w = .ok (some false) w) ∧ ∀ w, UnAt w S v u wh → (method 251 T x "quillpress/blend.learn").run Tryd.prog w = .ok (65, .agg #[]) w) : LearnK k := by
  intro u S v wh i c bits le n L own one w0 hk _ _ _ hu
  obtain ⟨T, x, hv, hn, hm⟩ := h u S v wh w0 hk hu
  refine ⟨T, x, 65, .agg #[], hv, ent65, hn, hm, fun w kn hu _ => (w_fixed u.h c le n own _ w).mono ?_⟩
  rintro e w' ⟨rfl, b⟩
  refine ⟨rfl, ?_, But.of_below b⟩
  rw [hs u c L own one hk]
  exact hu.below b
end
theorem iface_inj {T T' : TypeId} {x x' : Value} (h : Value.iface T x = .iface T' x') : T = T' ∧ x = x' := by injection h with h1 h2; exact ⟨h1, h2⟩
theorem pt_inj {g g' : Nat} (h : pt g = pt g') : g = g' := by
  unfold pt at h
  injection h with h; injection h with h; injection h
/-- A PConst. -/
theorem cst_at {w : World} {S : Nat → Prop} {v : Value} {u : Un} {wh : Nat} (k : u.p.kind = 1) (h : UnAt w S v u wh) : v = .iface 75 (.agg #[.int .i64 u.p.c]) := by
  cases h with
  | cst _ hv => exact hv
  | avg k' | cm k' | icm k' | mch k' | mix2 k' | mix k' | isse k' | sse k' => omega
theorem leanK1 : LeanK 1 := by
  intro u S v wh i c bits le n L w0 hk _ hu
  refine ⟨75, _, 66, _, cst_at hk hu, Ent.of Tryd.func66 (by kernel_rfl) rfl, fun w => m_cst_lean u.p.c w, fun w _ _ _ => (w_cst_lean u.p.c u.h c le n w).mono ?_⟩
  rintro e w' ⟨rfl, b⟩
  refine ⟨?_, b⟩
  unfold Un.lean
  simp only
  rw [if_pos hk]
theorem learnK1 : LearnK 1 := learn_65 (fun u c L own one hk => by unfold Un.learn; simp [hk]) (fun u S v wh w0 hk hu => ⟨75, _, cst_at hk hu, fun w => (m_cst_learn u.p.c w).nil, fun w _ => (m_cst_learn u.p.c w).row⟩)
theorem endK1 : EndK 1 := end_64 (by decide) (fun u S v wh w0 hk hu => ⟨75, _, cst_at hk hu, fun w _ => (m_cst_end u.p.c w).row⟩)
theorem beginK1 : BeginK 1 := begin_63 (by decide) (fun u S v wh w0 hk hu => ⟨75, _, cst_at hk hu, fun w => (m_cst_begin u.p.c w).nil, fun w _ => (m_cst_begin u.p.c w).row⟩)
/-- A PCm. -/
theorem cm_at {w : World} {S : Nat → Prop} {v : Value} {u : Un} {wh : Nat} (k : u.p.kind = 2) (h : UnAt w S v u wh) : ∃ g d, v = .iface 76 (pt g) ∧ S g ∧ S d ∧ g ≠ d ∧
    w.heap[g]? = some (.cells #[.int .i64 u.p.size, .int .i64 1, sl d (pw u.p.size), .int .i64 u.p.limit] 85 (0, 0)) ∧ Ro w d 82 (2 * pw u.p.size) (oddsF u.chance u.count) := by
  cases h with
  | cm k g d hv sg sd ne hg hd => exact ⟨g, d, hv, sg, sd, ne, hg, hd⟩
  | cst k' | avg k' | icm k' | mch k' | mix2 k' | mix k' | isse k' | sse k' => omega
theorem cm_at' {w : World} {S : Nat → Prop} {v : Value} {u : Un} {wh g : Nat} (k : u.p.kind = 2) (hv : v = .iface 76 (pt g)) (h : UnAt w S v u wh) : ∃ d, S g ∧ S d ∧ g ≠ d ∧
    w.heap[g]? = some (.cells #[.int .i64 u.p.size, .int .i64 1, sl d (pw u.p.size), .int .i64 u.p.limit] 85 (0, 0)) ∧ Ro w d 82 (2 * pw u.p.size) (oddsF u.chance u.count) := by
  obtain ⟨g', d, hv', r⟩ := cm_at k h
  rw [hv] at hv'
  obtain rfl := pt_inj (iface_inj hv').2
  exact ⟨d, r⟩
theorem ok_cm {u : Un} {wh : Nat} (k : u.p.kind = 2) (h : u.ok wh) : u.chance.length = pw u.p.size ∧ u.count.length = pw u.p.size ∧ InR u.chance 0 4194303 ∧ InR u.count 0 1023 := by
  unfold Un.ok at h; rw [if_pos k] at h; exact h
theorem place_pw (h c : Nat) (size : Int) (s0 : 0 ≤ size) (s1 : size ≤ 16) : placeN h c size < pw size := placeN_lt h c size s0 (by omega)
theorem leanK2 : LeanK 2 := by
  intro u S v wh i c bits le n L w0 hk a hu
  obtain ⟨g, d0, hv, _⟩ := cm_at hk hu
  obtain ⟨s0, s1, _⟩ := one_cm a.one hk
  obtain ⟨l1, l2, q1, q2⟩ := ok_cm hk a.ok
  refine ⟨76, pt g, 67, pt g, hv, Ent.of Tryd.func67 (by kernel_rfl) rfl, fun w => m_cm_lean g w, fun w kn hu _ => ?_⟩
  obtain ⟨d, sg, sd, ne, hg, hd⟩ := cm_at' hk hv hu
  refine (w_cm_lean g d u.h c le n u.p.size u.p.limit u.chance u.count w kn a.hu a.c256 s0 s1 hg hd (q1.get _ (by rw [l1]; exact place_pw _ _ _ s0 s1))).mono ?_
  rintro e w' ⟨rfl, b⟩
  refine ⟨?_, b⟩
  unfold Un.lean
  simp only
  rw [if_neg (by omega), if_pos hk]
theorem learnK2 : LearnK 2 := by
  intro u S v wh i c bits le n L own one w0 hk a _ _ hu
  obtain ⟨g, d0, hv, _⟩ := cm_at hk hu
  obtain ⟨s0, s1, t0, t1⟩ := one_cm a.one hk
  obtain ⟨l1, l2, q1, q2⟩ := ok_cm hk a.ok
  refine ⟨76, pt g, 68, pt g, hv, Ent.of Tryd.func68 (by kernel_rfl) rfl, fun w => (m_cm_learn g w).nil, fun w _ => (m_cm_learn g w).row, fun w kn hu _ => ?_⟩
  obtain ⟨d, sg, sd, ne, hg, hd⟩ := cm_at' hk hv hu
  have hp := place_pw u.h c u.p.size s0 s1
  refine (w_cm_learn g d u.h c le n u.p.size u.p.limit own u.chance u.count one w ne a.hu a.c256 s0 s1 hg hd l1 l2 (q1.get _ (by rw [l1]; exact hp)) (q2.get _ (by rw [l2]; exact hp)) (by omega)).mono ?_
  rintro e w' ⟨rfl, r, b⟩
  have e1 : u.learn c L own one = u.slow (placeN u.h c u.p.size) one := by
    unfold Un.learn
    simp only
    rw [if_pos hk]
  rw [e1]
  exact ⟨rfl, .cm hk g d hv sg sd ne (b.heap hg ne) r, b.mono fun k e => by subst e; exact .inl sd⟩
theorem nil_cm_begin (g : Nat) (w : World) : (nilAhead 251 76 (pt g) "quillpress/blend.begin").run Tryd.prog w = .ok (some false) w := by kernel_rfl
theorem endK2 : EndK 2 := end_64 (by decide) (fun u S v wh w0 hk hu => by
  obtain ⟨g, d0, hv, _⟩ := cm_at hk hu
  exact ⟨76, _, hv, fun w hu => by obtain ⟨d, _, _, _, hg, _⟩ := cm_at' hk hv hu; exact (m_cm_end g w _ hg).row⟩)
theorem beginK2 : BeginK 2 := begin_63 (by decide) (fun u S v wh w0 hk hu => by
  obtain ⟨g, d0, hv, _⟩ := cm_at hk hu
  exact ⟨76, _, hv, nil_cm_begin g, fun w hu => by obtain ⟨d, _, _, _, hg, _⟩ := cm_at' hk hv hu; exact (m_cm_begin g w _ hg).row⟩)
/-- A PIcm. -/
theorem icm_at {w : World} {S : Nat → Prop} {v : Value} {u : Un} {wh : Nat} (k : u.p.kind = 3) (h : UnAt w S v u wh) : ∃ g d, v = .iface 86 (pt g) ∧ S g ∧ S d ∧ g ≠ d ∧
    Ro w g 118 259 (icF u.p.size d (pw u.p.size) u.chance) ∧ Ro w d 5 (pw u.p.size) (bytesF u.state) := by
  cases h with
  | icm k g d hv sg sd ne hg hd => exact ⟨g, d, hv, sg, sd, ne, hg, hd⟩
  | cst k' | avg k' | cm k' | mch k' | mix2 k' | mix k' | isse k' | sse k' => omega
theorem icm_at' {w : World} {S : Nat → Prop} {v : Value} {u : Un} {wh g : Nat} (k : u.p.kind = 3) (hv : v = .iface 86 (pt g)) (h : UnAt w S v u wh) : ∃ d, S g ∧ S d ∧ g ≠ d ∧
    Ro w g 118 259 (icF u.p.size d (pw u.p.size) u.chance) ∧ Ro w d 5 (pw u.p.size) (bytesF u.state) := by
  obtain ⟨g', d, hv', r⟩ := icm_at k h
  rw [hv] at hv'
  obtain rfl := pt_inj (iface_inj hv').2
  exact ⟨d, r⟩
theorem ok_icm {u : Un} {wh : Nat} (k : u.p.kind = 3) (h : u.ok wh) : u.state.length = pw u.p.size ∧ InN u.state 255 ∧ u.chance.length = 256 ∧ InR u.chance 0 65535 := by
  unfold Un.ok at h; rw [if_neg (by omega), if_pos k] at h; exact h
theorem leanK3 : LeanK 3 := by
  intro u S v wh i c bits le n L w0 hk a hu
  obtain ⟨g, d0, hv, _⟩ := icm_at hk hu
  obtain ⟨s0, s1⟩ := one_icm a.one hk
  obtain ⟨l1, q1, l2, q2⟩ := ok_icm hk a.ok
  refine ⟨86, pt g, 72, pt g, hv, Ent.of Tryd.func72 (by kernel_rfl) rfl, fun w => m_icm_lean g w, fun w kn hu _ => ?_⟩
  obtain ⟨d, sg, sd, ne, hg, hd⟩ := icm_at' hk hv hu
  refine (w_icm_lean g d u.h c le n u.p.size u.chance u.state w kn a.hu a.c256 s0 s1 hg hd (q1 _) (q2.get _ (by have := q1 (placeN u.h c u.p.size); omega))).mono ?_
  rintro e w' ⟨rfl, b⟩
  refine ⟨?_, b⟩
  unfold Un.lean
  simp only
  rw [if_neg (by omega), if_neg (by omega), if_pos hk]
theorem learnK3 : LearnK 3 := by
  intro u S v wh i c bits le n L own one w0 hk a _ _ hu
  obtain ⟨g, d0, hv, _⟩ := icm_at hk hu
  obtain ⟨s0, s1⟩ := one_icm a.one hk
  obtain ⟨l1, q1, l2, q2⟩ := ok_icm hk a.ok
  refine ⟨86, pt g, 73, pt g, hv, Ent.of Tryd.func73 (by kernel_rfl) rfl, fun w => (m_icm_learn g w).nil, fun w _ => (m_icm_learn g w).row, fun w kn hu _ => ?_⟩
  obtain ⟨d, sg, sd, ne, hg, hd⟩ := icm_at' hk hv hu
  refine (w_icm_learn g d u.h c le n u.p.size own u.chance u.state one w ne a.hu a.c256 s0 s1 hg hd l2 l1 (q1 _) (q2.get _ (by have := q1 (placeN u.h c u.p.size); omega))).mono ?_
  rintro e w' ⟨rfl, r1, r2, b⟩
  refine ⟨rfl, ?_, b.mono fun k e => by rcases e with rfl | rfl; exact .inl sg; exact .inl sd⟩
  have e1 : u.learn c L own one = { u with chance := u.chance.set (u.state.getD (placeN u.h c u.p.size) 0) (u.chance.getD (u.state.getD (placeN u.h c u.p.size) 0) 0 + Int.tdiv ((if one then 65535 else 0) - u.chance.getD (u.state.getD (placeN u.h c u.p.size) 0) 0) 64), state := u.state.set (placeN u.h c u.p.size) (nxN (u.state.getD (placeN u.h c u.p.size) 0) one) } := by
    unfold Un.learn
    simp only
    rw [if_neg (by omega), if_pos hk]
  rw [e1]
  exact .icm hk g d hv sg sd ne r1 r2
theorem nil_icm_begin (g : Nat) (w : World) : (nilAhead 251 86 (pt g) "quillpress/blend.begin").run Tryd.prog w = .ok (some false) w := by kernel_rfl
theorem endK3 : EndK 3 := end_64 (by decide) (fun u S v wh w0 hk hu => by
  obtain ⟨g, d0, hv, _⟩ := icm_at hk hu
  exact ⟨86, _, hv, fun w hu => by obtain ⟨d, _, _, _, hg, _⟩ := icm_at' hk hv hu; exact (m_icm_end g w _ hg).row⟩)
theorem beginK3 : BeginK 3 := begin_63 (by decide) (fun u S v wh w0 hk hu => by
  obtain ⟨g, d0, hv, _⟩ := icm_at hk hu
  exact ⟨86, _, hv, nil_icm_begin g, fun w hu => by obtain ⟨d, _, _, _, hg, _⟩ := icm_at' hk hv hu; exact (m_icm_begin g w _ hg).row⟩)
end Go.Proofs.YtkfdbibgjoaefaaDoor
