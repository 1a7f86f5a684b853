/-
  What a PAvg, PMix2, PMix, PIsse, PSse does in memory.
-/
import Derived.Test.YtkfdbibgjoaefaaDoorKn
import Derived.Test.YtkfdbibgjoaefaaDoorSse
import Derived.Test.YtkfdbibgjoaefaaDoorIsl
import Derived.Test.YtkfdbibgjoaefaaDoorMixl
namespace Go.Proofs.YtkfdbibgjoaefaaDoor
open Go.RowKit

theorem nat_of {a : Int} {i n : Nat} (h : 0 ≤ a ∧ a < (i : Int)) (hi : i < n) : ∃ k : Nat, a = (k : Int) ∧ k < n ∧ a.toNat = k := ⟨a.toNat, by omega, by omega, rfl⟩
theorem at0_nat (L : List Int) (k : Nat) : at0 L (k : Int) = L.getD k 0 := by unfold at0; rw [show ((k : Int)).toNat = k from rfl]
/-- A PAvg. -/
theorem avg_at {w : World} {S : Nat → Prop} {v : Value} {u : Un} {wh : Nat} (k : u.p.kind = 5) (h : UnAt w S v u wh) : v = .iface 97 (.agg #[.int .i64 u.p.a, .int .i64 u.p.b, .int .i64 u.p.c]) := by
  cases h with
  | avg _ hv => exact hv
  | cst k' | cm k' | icm k' | mch k' | mix2 k' | mix k' | isse k' | sse k' => omega
theorem leanK5 : LeanK 5 := by
  intro u S v wh i c bits le n L w0 hk a hu
  obtain ⟨ha, hb, hc⟩ := one_avg a.one hk
  obtain ⟨ka, ea, la, _⟩ := nat_of ha a.lt
  obtain ⟨kb, eb, lb, _⟩ := nat_of hb a.lt
  refine ⟨97, _, 84, _, avg_at hk hu, Ent.of Tryd.func84 (by kernel_rfl) rfl, fun w => m_avg_lean u.p.a u.p.b u.p.c w, fun w kn _ ro => ?_⟩
  have q := w_avg_lean ka kb u.p.c u.h c le n L w la lb a.most hc (lean_in a.rng ka) (lean_in a.rng kb) ro
  rw [ea, eb]
  refine q.mono ?_
  rintro e w' ⟨rfl, b⟩
  refine ⟨?_, b⟩
  unfold Un.lean
  simp only
  rw [if_neg (by omega), if_neg (by omega), if_neg (by omega), if_neg (by omega), if_pos hk, ea, eb, at0_nat, at0_nat]
theorem learnK5 : LearnK 5 := learn_65 (fun u c L own one hk => by unfold Un.learn; simp [hk]) (fun u S v wh w0 hk hu => ⟨97, _, avg_at hk hu, fun w => (m_avg_learn u.p.a u.p.b u.p.c w).nil, fun w _ => (m_avg_learn u.p.a u.p.b u.p.c w).row⟩)
theorem endK5 : EndK 5 := end_64 (by decide) (fun u S v wh w0 hk hu => ⟨97, _, avg_at hk hu, fun w _ => (m_avg_end u.p.a u.p.b u.p.c w).row⟩)
theorem beginK5 : BeginK 5 := begin_63 (by decide) (fun u S v wh w0 hk hu => ⟨97, _, avg_at hk hu, fun w => (m_avg_begin u.p.a u.p.b u.p.c w).nil, fun w _ => (m_avg_begin u.p.a u.p.b u.p.c w).row⟩)
/-- A PMix2. -/
theorem mix2_at {w : World} {S : Nat → Prop} {v : Value} {u : Un} {wh : Nat} (k : u.p.kind = 6) (h : UnAt w S v u wh) : ∃ g d, v = .iface 98 (pt g) ∧ S g ∧ S d ∧ g ≠ d ∧
    w.heap[g]? = some (.cells #[.int .i64 u.p.size, .int .i64 1, sl d (pw u.p.size), .int .i64 u.p.a, .int .i64 u.p.b, .int .i64 u.p.rate] 100 (0, 0)) ∧ Ro w d 3 (pw u.p.size) (intsF u.weight) := by
  cases h with
  | mix2 k g d hv sg sd ne hg hd => exact ⟨g, d, hv, sg, sd, ne, hg, hd⟩
  | cst k' | avg k' | cm k' | icm k' | mch k' | mix k' | isse k' | sse k' => omega
theorem mix2_at' {w : World} {S : Nat → Prop} {v : Value} {u : Un} {wh g : Nat} (k : u.p.kind = 6) (hv : v = .iface 98 (pt g)) (h : UnAt w S v u wh) : ∃ d, S g ∧ S d ∧ g ≠ d ∧
    w.heap[g]? = some (.cells #[.int .i64 u.p.size, .int .i64 1, sl d (pw u.p.size), .int .i64 u.p.a, .int .i64 u.p.b, .int .i64 u.p.rate] 100 (0, 0)) ∧ Ro w d 3 (pw u.p.size) (intsF u.weight) := by
  obtain ⟨g', d, hv', r⟩ := mix2_at k h
  rw [hv] at hv'
  obtain rfl := pt_inj (iface_inj hv').2
  exact ⟨d, r⟩
theorem ok_mix2 {u : Un} {wh : Nat} (k : u.p.kind = 6) (h : u.ok wh) : u.weight.length = pw u.p.size ∧ InR u.weight 0 65535 := by
  unfold Un.ok at h; rw [if_neg (by omega), if_neg (by omega), if_neg (by omega), if_pos k] at h; exact h
theorem leanK6 : LeanK 6 := by
  intro u S v wh i c bits le n L w0 hk a hu
  obtain ⟨g, d0, hv, _⟩ := mix2_at hk hu
  obtain ⟨⟨s0, s1⟩, ha, hb, _⟩ := one_mix2 a.one hk
  obtain ⟨ka, ea, la, _⟩ := nat_of ha a.lt
  obtain ⟨kb, eb, lb, _⟩ := nat_of hb a.lt
  obtain ⟨l1, q1⟩ := ok_mix2 hk a.ok
  refine ⟨98, pt g, 85, pt g, hv, Ent.of Tryd.func85 (by kernel_rfl) rfl, fun w => m_mix2_lean g w, fun w kn hu ro => ?_⟩
  obtain ⟨d, sg, sd, ne, hg, hd⟩ := mix2_at' hk hv hu
  rw [ea, eb] at hg
  refine (w_mix2_lean g d u.h c le n ka kb u.p.size u.p.rate u.weight L w a.hu a.c256 s0 s1 la lb a.most (lean_in a.rng ka) (lean_in a.rng kb) ro hg hd (q1.get _ (by rw [l1]; exact place_pw _ _ _ s0 s1))).mono ?_
  rintro e w' ⟨rfl, b⟩
  refine ⟨?_, b⟩
  unfold Un.lean
  simp only
  rw [if_neg (by omega), if_neg (by omega), if_neg (by omega), if_neg (by omega), if_neg (by omega), if_pos hk, ea, eb, at0_nat, at0_nat]
theorem learnK6 : LearnK 6 := by
  intro u S v wh i c bits le n L own one w0 hk a hown nle hu
  obtain ⟨g, d0, hv, _⟩ := mix2_at hk hu
  obtain ⟨⟨s0, s1⟩, ha, hb, hrate⟩ := one_mix2 a.one hk
  obtain ⟨ka, ea, la, _⟩ := nat_of ha a.lt
  obtain ⟨kb, eb, lb, _⟩ := nat_of hb a.lt
  obtain ⟨l1, q1⟩ := ok_mix2 hk a.ok
  refine ⟨98, pt g, 86, pt g, hv, Ent.of Tryd.func86 (by kernel_rfl) rfl, fun w => (m_mix2_learn g w).nil, fun w _ => (m_mix2_learn g w).row, fun w kn hu ro => ?_⟩
  obtain ⟨d, sg, sd, ne, hg, hd⟩ := mix2_at' hk hv hu
  have hg2 := hg
  rw [ea, eb] at hg
  refine (w_mix2_learn g d u.h c le n ka kb u.p.size u.p.rate own u.weight L one w kn ne (fun e => nle (e ▸ sd)) hown a.hu a.c256 s0 s1 la lb a.most (lean_in a.rng ka) (lean_in a.rng kb) ro hrate hg hd l1 (q1.get _ (by rw [l1]; exact place_pw _ _ _ s0 s1))).mono ?_
  rintro e w' ⟨rfl, r, b⟩
  refine ⟨rfl, ?_, b.mono fun k e => by subst e; exact .inl sd⟩
  have e1 : u.learn c L own one = { u with weight := u.weight.set (placeN u.h c u.p.size) (into (u.weight.getD (placeN u.h c u.p.size) 0 + (((if one then 4095 else 0) - sq own) * u.p.rate * (L.getD ka 0 - L.getD kb 0) + 512) / 1024) 0 65535) } := by
    unfold Un.learn
    simp only
    rw [if_neg (by omega), if_neg (by omega), if_pos hk, ea, eb, at0_nat, at0_nat]
  rw [e1]
  exact .mix2 hk g d hv sg sd ne (b.heap hg2 ne) r
theorem nil_mix2_begin (g : Nat) (w : World) : (nilAhead 251 98 (pt g) "quillpress/blend.begin").run Tryd.prog w = .ok (some false) w := by kernel_rfl
theorem endK6 : EndK 6 := end_64 (by decide) (fun u S v wh w0 hk hu => by
  obtain ⟨g, d0, hv, _⟩ := mix2_at hk hu
  exact ⟨98, _, hv, fun w hu => by obtain ⟨d, _, _, _, hg, _⟩ := mix2_at' hk hv hu; exact (m_mix2_end g w _ hg).row⟩)
theorem beginK6 : BeginK 6 := begin_63 (by decide) (fun u S v wh w0 hk hu => by
  obtain ⟨g, d0, hv, _⟩ := mix2_at hk hu
  exact ⟨98, _, hv, nil_mix2_begin g, fun w hu => by obtain ⟨d, _, _, _, hg, _⟩ := mix2_at' hk hv hu; exact (m_mix2_begin g w _ hg).row⟩)
/-- A PMix. -/
theorem mix_at {w : World} {S : Nat → Prop} {v : Value} {u : Un} {wh : Nat} (k : u.p.kind = 7) (h : UnAt w S v u wh) : ∃ g d, v = .iface 101 (pt g) ∧ S g ∧ S d ∧ g ≠ d ∧
    w.heap[g]? = some (.cells #[.int .i64 u.p.size, .int .i64 u.p.b, sl d (pw u.p.size * u.p.b.toNat), .int .i64 u.p.a, .int .i64 u.p.rate] 103 (0, 0)) ∧ Ro w d 3 (pw u.p.size * u.p.b.toNat) (intsF u.weight) := by
  cases h with
  | mix k g d hv sg sd ne hg hd => exact ⟨g, d, hv, sg, sd, ne, hg, hd⟩
  | cst k' | avg k' | cm k' | icm k' | mch k' | mix2 k' | isse k' | sse k' => omega
theorem mix_at' {w : World} {S : Nat → Prop} {v : Value} {u : Un} {wh g : Nat} (k : u.p.kind = 7) (hv : v = .iface 101 (pt g)) (h : UnAt w S v u wh) : ∃ d, S g ∧ S d ∧ g ≠ d ∧
    w.heap[g]? = some (.cells #[.int .i64 u.p.size, .int .i64 u.p.b, sl d (pw u.p.size * u.p.b.toNat), .int .i64 u.p.a, .int .i64 u.p.rate] 103 (0, 0)) ∧ Ro w d 3 (pw u.p.size * u.p.b.toNat) (intsF u.weight) := by
  obtain ⟨g', d, hv', r⟩ := mix_at k h
  rw [hv] at hv'
  obtain rfl := pt_inj (iface_inj hv').2
  exact ⟨d, r⟩
theorem ok_mix {u : Un} {wh : Nat} (k : u.p.kind = 7) (h : u.ok wh) : u.weight.length = pw u.p.size * u.p.b.toNat ∧ InR u.weight (-1048576) 1048576 := by
  unfold Un.ok at h; rw [if_neg (by omega), if_neg (by omega), if_neg (by omega), if_neg (by omega), if_pos k] at h; exact h
theorem leanK7 : LeanK 7 := by
  intro u S v wh i c bits le n L w0 hk a hu
  obtain ⟨g, d0, hv, _⟩ := mix_at hk hu
  obtain ⟨⟨s0, s1⟩, ⟨b1, b8⟩, a0, ab, _⟩ := one_mix a.one hk
  obtain ⟨l1, q1⟩ := ok_mix hk a.ok
  have lt := a.lt
  refine ⟨101, pt g, 88, pt g, hv, Ent.of Tryd.func88 (by kernel_rfl) rfl, fun w => m_mix_lean g w, fun w kn hu ro => ?_⟩
  obtain ⟨d, sg, sd, ne, hg, hd⟩ := mix_at' hk hv hu
  obtain ⟨ka, ea⟩ : ∃ k : Nat, u.p.a = (k : Int) := ⟨u.p.a.toNat, by omega⟩
  obtain ⟨kb, eb⟩ : ∃ k : Nat, u.p.b = (k : Int) := ⟨u.p.b.toNat, by omega⟩
  have eb2 : u.p.b.toNat = kb := by omega
  rw [eb2] at hg hd l1
  rw [ea, eb] at hg
  refine (w_mix_lean g d u.h c le n ka kb u.p.size u.p.rate u.weight L w a.hu a.c256 s0 (by omega) (by omega) (by omega) a.most a.rng ro hg hd l1 q1).mono ?_
  rintro e w' ⟨rfl, b⟩
  refine ⟨?_, b⟩
  unfold Un.lean
  simp only
  rw [if_neg (by omega), if_neg (by omega), if_neg (by omega), if_neg (by omega), if_neg (by omega), if_neg (by omega), if_pos hk, eb2, ea]
theorem learnK7 : LearnK 7 := by
  intro u S v wh i c bits le n L own one w0 hk a hown nle hu
  obtain ⟨g, d0, hv, _⟩ := mix_at hk hu
  obtain ⟨⟨s0, s1⟩, ⟨b1, b8⟩, a0, ab, hrate⟩ := one_mix a.one hk
  obtain ⟨l1, q1⟩ := ok_mix hk a.ok
  have lt := a.lt
  refine ⟨101, pt g, 89, pt g, hv, Ent.of Tryd.func89 (by kernel_rfl) rfl, fun w => (m_mix_learn g w).nil, fun w _ => (m_mix_learn g w).row, fun w kn hu ro => ?_⟩
  obtain ⟨d, sg, sd, ne, hg, hd⟩ := mix_at' hk hv hu
  have hg2 := hg
  obtain ⟨ka, ea⟩ : ∃ k : Nat, u.p.a = (k : Int) := ⟨u.p.a.toNat, by omega⟩
  obtain ⟨kb, eb⟩ : ∃ k : Nat, u.p.b = (k : Int) := ⟨u.p.b.toNat, by omega⟩
  have eb2 : u.p.b.toNat = kb := by omega
  rw [eb2] at hg hd l1
  rw [ea, eb] at hg
  refine (w_mix_learn g d u.h c le n ka kb u.p.size u.p.rate own u.weight L one w kn ne (fun e => nle (e ▸ sd)) hown a.hu a.c256 s0 (by omega) (by omega) (by omega) a.most a.rng ro hrate hg hd l1 q1).mono ?_
  rintro e w' ⟨rfl, r, b⟩
  refine ⟨rfl, ?_, b.mono fun k e => by subst e; exact .inl sd⟩
  have e1 : u.learn c L own one = { u with weight := mixLearn u.weight (placeN u.h c u.p.size * kb) L ka (((if one then 4095 else 0) - sq own) * u.p.rate) kb } := by
    unfold Un.learn
    simp only
    rw [if_neg (by omega), if_neg (by omega), if_neg (by omega), if_pos hk, eb2, ea]
  rw [e1]
  refine .mix hk g d hv sg sd ne (b.heap hg2 ne) ?_
  show Ro w' d 3 (pw u.p.size * u.p.b.toNat) _
  rw [eb2]
  exact r
theorem nil_mix_begin (g : Nat) (w : World) : (nilAhead 251 101 (pt g) "quillpress/blend.begin").run Tryd.prog w = .ok (some false) w := by kernel_rfl
theorem endK7 : EndK 7 := end_64 (by decide) (fun u S v wh w0 hk hu => by
  obtain ⟨g, d0, hv, _⟩ := mix_at hk hu
  exact ⟨101, _, hv, fun w hu => by obtain ⟨d, _, _, _, hg, _⟩ := mix_at' hk hv hu; exact (m_mix_end g w _ hg).row⟩)
theorem beginK7 : BeginK 7 := begin_63 (by decide) (fun u S v wh w0 hk hu => by
  obtain ⟨g, d0, hv, _⟩ := mix_at hk hu
  exact ⟨101, _, hv, nil_mix_begin g, fun w hu => by obtain ⟨d, _, _, _, hg, _⟩ := mix_at' hk hv hu; exact (m_mix_begin g w _ hg).row⟩)
/-- A PIsse. -/
theorem isse_at {w : World} {S : Nat → Prop} {v : Value} {u : Un} {wh : Nat} (k : u.p.kind = 8) (h : UnAt w S v u wh) : ∃ g d, v = .iface 104 (pt g) ∧ S g ∧ S d ∧ g ≠ d ∧
    Ro w g 123 516 (isF u.p.size u.p.a d (pw u.p.size) u.weight) ∧ Ro w d 5 (pw u.p.size) (bytesF u.state) := by
  cases h with
  | isse k g d hv sg sd ne hg hd => exact ⟨g, d, hv, sg, sd, ne, hg, hd⟩
  | cst k' | avg k' | cm k' | icm k' | mch k' | mix2 k' | mix k' | sse k' => omega
theorem isse_at' {w : World} {S : Nat → Prop} {v : Value} {u : Un} {wh g : Nat} (k : u.p.kind = 8) (hv : v = .iface 104 (pt g)) (h : UnAt w S v u wh) : ∃ d, S g ∧ S d ∧ g ≠ d ∧
    Ro w g 123 516 (isF u.p.size u.p.a d (pw u.p.size) u.weight) ∧ Ro w d 5 (pw u.p.size) (bytesF u.state) := by
  obtain ⟨g', d, hv', r⟩ := isse_at k h
  rw [hv] at hv'
  obtain rfl := pt_inj (iface_inj hv').2
  exact ⟨d, r⟩
theorem ok_isse {u : Un} {wh : Nat} (k : u.p.kind = 8) (h : u.ok wh) : u.state.length = pw u.p.size ∧ InN u.state 255 ∧ u.weight.length = 512 ∧ InR u.weight (-1048576) 1048576 := by
  unfold Un.ok at h; rw [if_neg (by omega), if_neg (by omega), if_neg (by omega), if_neg (by omega), if_neg (by omega), if_pos k] at h; exact h
theorem inR_all {l : List Int} (h : InR l (-1048576) 1048576) (i : Nat) : -1048576 ≤ l.getD i 0 ∧ l.getD i 0 ≤ 1048576 := by
  by_cases e : i < l.length
  · exact h.get i e
  · rw [gD_out _ _ (by omega)]; omega
theorem leanK8 : LeanK 8 := by
  intro u S v wh i c bits le n L w0 hk a hu
  obtain ⟨g, d0, hv, _⟩ := isse_at hk hu
  obtain ⟨⟨s0, s1⟩, ha⟩ := one_isse a.one hk
  obtain ⟨ka, ea, la, _⟩ := nat_of ha a.lt
  obtain ⟨l1, q1, l2, q2⟩ := ok_isse hk a.ok
  refine ⟨104, pt g, 91, pt g, hv, Ent.of Tryd.func91 (by kernel_rfl) rfl, fun w => m_isse_lean g w, fun w kn hu ro => ?_⟩
  obtain ⟨d, sg, sd, ne, hg, hd⟩ := isse_at' hk hv hu
  rw [ea] at hg
  refine (w_isse_lean g d u.h c le n ka u.p.size u.weight L u.state w a.hu a.c256 s0 s1 la a.most (lean_in a.rng ka) ro hg hd (q1 _) (inR_all q2)).mono ?_
  rintro e w' ⟨rfl, b⟩
  refine ⟨?_, b⟩
  unfold Un.lean
  simp only
  rw [if_neg (by omega), if_neg (by omega), if_neg (by omega), if_neg (by omega), if_neg (by omega), if_neg (by omega), if_neg (by omega), if_pos hk, ea, at0_nat]
theorem learnK8 : LearnK 8 := by
  intro u S v wh i c bits le n L own one w0 hk a hown nle hu
  obtain ⟨g, d0, hv, _⟩ := isse_at hk hu
  obtain ⟨⟨s0, s1⟩, ha⟩ := one_isse a.one hk
  obtain ⟨ka, ea, la, _⟩ := nat_of ha a.lt
  obtain ⟨l1, q1, l2, q2⟩ := ok_isse hk a.ok
  refine ⟨104, pt g, 92, pt g, hv, Ent.of Tryd.func92 (by kernel_rfl) rfl, fun w => (m_isse_learn g w).nil, fun w _ => (m_isse_learn g w).row, fun w kn hu ro => ?_⟩
  obtain ⟨d, sg, sd, ne, hg, hd⟩ := isse_at' hk hv hu
  rw [ea] at hg
  refine (w_isse_learn g d u.h c le n ka u.p.size own u.weight L u.state one w kn ne (fun e => nle (e ▸ sg)) hown a.hu a.c256 s0 s1 la a.most (lean_in a.rng ka) ro hg hd (q1 _) l2 l1 (inR_all q2)).mono ?_
  rintro e w' ⟨rfl, r1, r2, b⟩
  refine ⟨rfl, ?_, b.mono fun k e => by rcases e with rfl | rfl; exact .inl sg; exact .inl sd⟩
  have e1 : u.learn c L own one = { u with weight := (u.weight.set (2 * u.state.getD (placeN u.h c u.p.size) 0) (into (u.weight.getD (2 * u.state.getD (placeN u.h c u.p.size) 0) 0 + (((if one then 4095 else 0) - sq own) * L.getD ka 0 + 4096) / 8192) (-1048576) 1048576)).set (2 * u.state.getD (placeN u.h c u.p.size) 0 + 1) (into (u.weight.getD (2 * u.state.getD (placeN u.h c u.p.size) 0 + 1) 0 + (((if one then 4095 else 0) - sq own) + 16) / 32) (-1048576) 1048576), state := u.state.set (placeN u.h c u.p.size) (nxN (u.state.getD (placeN u.h c u.p.size) 0) one) } := by
    unfold Un.learn
    simp only
    rw [if_neg (by omega), if_neg (by omega), if_neg (by omega), if_neg (by omega), if_pos hk, ea, at0_nat]
  rw [e1]
  refine .isse hk g d hv sg sd ne ?_ r2
  show Ro w' g 123 516 (isF u.p.size u.p.a d (pw u.p.size) _)
  rw [ea]
  exact r1
theorem nil_isse_begin (g : Nat) (w : World) : (nilAhead 251 104 (pt g) "quillpress/blend.begin").run Tryd.prog w = .ok (some false) w := by kernel_rfl
theorem endK8 : EndK 8 := end_64 (by decide) (fun u S v wh w0 hk hu => by
  obtain ⟨g, d0, hv, _⟩ := isse_at hk hu
  exact ⟨104, _, hv, fun w hu => by obtain ⟨d, _, _, _, hg, _⟩ := isse_at' hk hv hu; exact (m_isse_end g w _ hg).row⟩)
theorem beginK8 : BeginK 8 := begin_63 (by decide) (fun u S v wh w0 hk hu => by
  obtain ⟨g, d0, hv, _⟩ := isse_at hk hu
  exact ⟨104, _, hv, nil_isse_begin g, fun w hu => by obtain ⟨d, _, _, _, hg, _⟩ := isse_at' hk hv hu; exact (m_isse_begin g w _ hg).row⟩)
/-- A PSse. -/
theorem sse_at {w : World} {S : Nat → Prop} {v : Value} {u : Un} {wh : Nat} (k : u.p.kind = 9) (h : UnAt w S v u wh) : ∃ g d, v = .iface 106 (pt g) ∧ S g ∧ S d ∧ g ≠ d ∧
    w.heap[g]? = some (.cells #[.int .i64 u.p.size, .int .i64 32, sl d (pw u.p.size * 32), .int .i64 u.p.a, .int .i64 u.p.limit] 108 (0, 0)) ∧ Ro w d 82 (2 * (pw u.p.size * 32)) (oddsF u.chance u.count) := by
  cases h with
  | sse k g d hv sg sd ne hg hd => exact ⟨g, d, hv, sg, sd, ne, hg, hd⟩
  | cst k' | avg k' | cm k' | icm k' | mch k' | mix2 k' | mix k' | isse k' => omega
theorem sse_at' {w : World} {S : Nat → Prop} {v : Value} {u : Un} {wh g : Nat} (k : u.p.kind = 9) (hv : v = .iface 106 (pt g)) (h : UnAt w S v u wh) : ∃ d, S g ∧ S d ∧ g ≠ d ∧
    w.heap[g]? = some (.cells #[.int .i64 u.p.size, .int .i64 32, sl d (pw u.p.size * 32), .int .i64 u.p.a, .int .i64 u.p.limit] 108 (0, 0)) ∧ Ro w d 82 (2 * (pw u.p.size * 32)) (oddsF u.chance u.count) := by
  obtain ⟨g', d, hv', r⟩ := sse_at k h
  rw [hv] at hv'
  obtain rfl := pt_inj (iface_inj hv').2
  exact ⟨d, r⟩
theorem ok_sse {u : Un} {wh : Nat} (k : u.p.kind = 9) (h : u.ok wh) : u.chance.length = pw u.p.size * 32 ∧ u.count.length = pw u.p.size * 32 ∧ InR u.chance 0 4194303 ∧ InR u.count 0 1023 := by
  unfold Un.ok at h; rw [if_neg (by omega), if_neg (by omega), if_neg (by omega), if_neg (by omega), if_neg (by omega), if_neg (by omega), if_pos k] at h; exact h
theorem leanK9 : LeanK 9 := by
  intro u S v wh i c bits le n L w0 hk a hu
  obtain ⟨g, d0, hv, _⟩ := sse_at hk hu
  obtain ⟨⟨s0, s1⟩, ha, _⟩ := one_sse a.one hk
  obtain ⟨ka, ea, la, _⟩ := nat_of ha a.lt
  obtain ⟨l1, l2, q1, q2⟩ := ok_sse hk a.ok
  obtain ⟨j, j1, j2, j3, j4⟩ := jOf (L.getD ka 0) (lean_in a.rng ka)
  refine ⟨106, pt g, 93, pt g, hv, Ent.of Tryd.func93 (by kernel_rfl) rfl, fun w => m_sse_lean g w, fun w kn hu ro => ?_⟩
  obtain ⟨d, sg, sd, ne, hg, hd⟩ := sse_at' hk hv hu
  have hp := place_pw u.h c u.p.size s0 (by omega)
  rw [ea] at hg
  refine (w_sse_lean g d u.h c le n ka j u.p.size u.p.limit L u.chance u.count w kn a.hu a.c256 s0 (by omega) la a.most (lean_in a.rng ka) j2 j4 ro hg hd (q1.get _ (by rw [l1]; omega))).mono ?_
  rintro e w' ⟨rfl, b⟩
  refine ⟨?_, b⟩
  unfold Un.lean
  simp only
  rw [if_neg (by omega), if_neg (by omega), if_neg (by omega), if_neg (by omega), if_neg (by omega), if_neg (by omega), if_neg (by omega), if_neg (by omega), ea, at0_nat, j3]
theorem learnK9 : LearnK 9 := by
  intro u S v wh i c bits le n L own one w0 hk a hown nle hu
  obtain ⟨g, d0, hv, _⟩ := sse_at hk hu
  obtain ⟨⟨s0, s1⟩, ha, t0, t1⟩ := one_sse a.one hk
  obtain ⟨ka, ea, la, _⟩ := nat_of ha a.lt
  obtain ⟨l1, l2, q1, q2⟩ := ok_sse hk a.ok
  obtain ⟨j, j1, j2, j3, j4⟩ := jOf (L.getD ka 0) (lean_in a.rng ka)
  refine ⟨106, pt g, 94, pt g, hv, Ent.of Tryd.func94 (by kernel_rfl) rfl, fun w => (m_sse_learn g w).nil, fun w _ => (m_sse_learn g w).row, fun w kn hu ro => ?_⟩
  obtain ⟨d, sg, sd, ne, hg, hd⟩ := sse_at' hk hv hu
  have hg2 := hg
  have hp := place_pw u.h c u.p.size s0 (by omega)
  rw [ea] at hg
  refine (w_sse_learn g d u.h c le n ka j u.p.size u.p.limit own L u.chance u.count one w ne a.hu a.c256 s0 (by omega) la a.most (lean_in a.rng ka) j2 j4 ro hg hd l1 l2 (q1.get _ (by rw [l1]; omega)) (q2.get _ (by rw [l2]; omega)) (by omega)).mono ?_
  rintro e w' ⟨rfl, r, b⟩
  refine ⟨rfl, ?_, b.mono fun k e => by subst e; exact .inl sd⟩
  have e1 : u.learn c L own one = u.slow (placeN u.h c u.p.size * 32 + j) one := by
    unfold Un.learn
    simp only
    rw [if_neg (by omega), if_neg (by omega), if_neg (by omega), if_neg (by omega), if_neg (by omega), if_pos hk, ea, at0_nat, j3]
  rw [e1]
  exact .sse hk g d hv sg sd ne (b.heap hg2 ne) r
theorem nil_sse_begin (g : Nat) (w : World) : (nilAhead 251 106 (pt g) "quillpress/blend.begin").run Tryd.prog w = .ok (some false) w := by kernel_rfl
theorem endK9 : EndK 9 := end_64 (by decide) (fun u S v wh w0 hk hu => by
  obtain ⟨g, d0, hv, _⟩ := sse_at hk hu
  exact ⟨106, _, hv, fun w hu => by obtain ⟨d, _, _, _, hg, _⟩ := sse_at' hk hv hu; exact (m_sse_end g w _ hg).row⟩)
theorem beginK9 : BeginK 9 := begin_63 (by decide) (fun u S v wh w0 hk hu => by
  obtain ⟨g, d0, hv, _⟩ := sse_at hk hu
  exact ⟨106, _, hv, nil_sse_begin g, fun w hu => by obtain ⟨d, _, _, _, hg, _⟩ := sse_at' hk hv hu; exact (m_sse_begin g w _ hg).row⟩)
end Go.Proofs.YtkfdbibgjoaefaaDoor
