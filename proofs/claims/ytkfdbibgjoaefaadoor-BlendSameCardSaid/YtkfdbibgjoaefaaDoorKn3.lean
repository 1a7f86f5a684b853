/-
  What a PMatch does in memory; all kinds.
-/
import Derived.Test.YtkfdbibgjoaefaaDoorKn2
import Derived.Test.YtkfdbibgjoaefaaDoorMcb
import Derived.Test.YtkfdbibgjoaefaaDoorZl
import Derived.Test.YtkfdbibgjoaefaaDoorBk2
import Derived.Test.YtkfdbibgjoaefaaDoorBld3
import Derived.Test.YtkfdbibgjoaefaaDoorBld4
namespace Go.Proofs.YtkfdbibgjoaefaaDoor
open Go.RowKit

theorem mch_at {w : World} {S : Nat → Prop} {v : Value} {u : Un} {wh : Nat} (k : u.p.kind = 4) (h : UnAt w S v u wh) : ∃ g dr ds, v = .iface 88 (pt g) ∧ S g ∧ S dr ∧ S ds ∧ g ≠ dr ∧ g ≠ ds ∧ dr ≠ ds ∧
    Ro w g 95 7 (maF u.p.size dr (pw u.p.size) ds wh u.pos u.len) ∧ Ro w dr 5 (pw u.p.size) (bytesF u.ring) ∧ Ro w ds 3 (pw u.p.size) (natsF u.number) := by
  cases h with
  | mch k g dr ds hv sg sr ss n1 n2 n3 hg hr hs => exact ⟨g, dr, ds, hv, sg, sr, ss, n1, n2, n3, hg, hr, hs⟩
  | cst k' | avg k' | cm k' | icm k' | mix2 k' | mix k' | isse k' | sse k' => omega
theorem mch_at' {w : World} {S : Nat → Prop} {v : Value} {u : Un} {wh g : Nat} (k : u.p.kind = 4) (hv : v = .iface 88 (pt g)) (h : UnAt w S v u wh) : ∃ dr ds, S g ∧ S dr ∧ S ds ∧ g ≠ dr ∧ g ≠ ds ∧ dr ≠ ds ∧
    Ro w g 95 7 (maF u.p.size dr (pw u.p.size) ds wh u.pos u.len) ∧ Ro w dr 5 (pw u.p.size) (bytesF u.ring) ∧ Ro w ds 3 (pw u.p.size) (natsF u.number) := by
  obtain ⟨g', dr, ds, hv', r⟩ := mch_at k h
  rw [hv] at hv'
  obtain rfl := pt_inj (iface_inj hv').2
  exact ⟨dr, ds, r⟩
theorem ok_mch {u : Un} {wh : Nat} (k : u.p.kind = 4) (h : u.ok wh) : u.ring.length = pw u.p.size ∧ u.number.length = pw u.p.size ∧ InN u.ring 255 ∧ InN u.number wh ∧ u.pos < pw u.p.size ∧ u.len ≤ 32 := by
  unfold Un.ok at h; rw [if_neg (by omega), if_neg (by omega), if_pos k] at h; exact h
theorem leanK4 : LeanK 4 := by
  intro u S v wh i c bits le n L w0 hk a hu
  obtain ⟨g, d0, d1, hv, _⟩ := mch_at hk hu
  obtain ⟨s0, s1⟩ := one_mch a.one hk
  obtain ⟨l1, l2, q1, q2, hp, hl⟩ := ok_mch hk a.ok
  have hw := pw_le u.p.size s1
  refine ⟨88, pt g, 80, pt g, hv, Ent.of Tryd.func80 (by kernel_rfl) rfl, fun w => m_mch_lean g w, fun w kn hu _ => ?_⟩
  obtain ⟨dr, ds, sg, sr, ss, n1, n2, n3, hg, hd, hs⟩ := mch_at' hk hv hu
  have hc := hd.cell u.pos hp
  unfold bytesF at hc
  refine (w_mch_lean g dr (pw u.p.size) u.pos u.len u.h c le n bits (u.ring.getD u.pos 0) w (hg.cell 0 (by omega)) (hg.cell 5 (by omega)) (hg.cell 6 (by omega)) hp hw hl hc (by have := q1 u.pos; omega) a.b7 a.c0 a.c1).mono ?_
  rintro e w' ⟨rfl, b⟩
  have e1 : u.lean c bits L = u.foretold c bits := by
    unfold Un.lean
    simp only
    rw [if_neg (by omega), if_neg (by omega), if_neg (by omega), if_pos hk]
  rw [e1]
  exact ⟨rfl, b⟩
theorem nil_mch_learn (g : Nat) (w : World) : (nilAhead 251 88 (pt g) "quillpress/blend.learn").run Tryd.prog w = .ok (some false) w := by kernel_rfl
theorem learnK4 : LearnK 4 := learn_65 (fun u c L own one hk => by unfold Un.learn; simp [hk]) (fun u S v wh w0 hk hu => by
  obtain ⟨g, d0, d1, hv, _⟩ := mch_at hk hu
  exact ⟨88, _, hv, nil_mch_learn g, fun w hu => by obtain ⟨dr, ds, _, _, _, _, _, _, hg, _⟩ := mch_at' hk hv hu; exact (m_mch_learn g w _ hg).row⟩)
theorem endK4 : EndK 4 := by
  intro u S v wh i c w0 hk ho hok hwh hu
  obtain ⟨g, d0, d1, hv, _⟩ := mch_at hk hu
  obtain ⟨s0, s1⟩ := one_mch ho hk
  obtain ⟨l1, l2, q1, q2, hp, hl⟩ := ok_mch hk hok
  have hw := pw_le u.p.size s1
  refine ⟨88, pt g, 79, pt g, hv, Ent.of Tryd.func79 (by kernel_rfl) rfl, fun w _ => (m_mch_end g w).row, fun w kn hu => ?_⟩
  obtain ⟨dr, ds, sg, sr, ss, n1, n2, n3, hg, hd, hs⟩ := mch_at' hk hv hu
  refine (w_mch_end g dr ds (pw u.p.size) u.pos u.len wh (c % 256) u.p.size u.ring w n1 hg hd l1 ⟨pw_pos _, hw⟩ hp hl hwh (by omega) (by have := q1 u.pos; omega)).mono ?_
  rintro e w' ⟨rfl, r1, r2, b⟩
  refine ⟨rfl, ?_, b.mono fun k e => by rcases e with rfl | rfl; exact .inl sg; exact .inl sr⟩
  unfold Un.whole
  rw [if_pos hk]
  exact .mch hk g dr ds hv sg sr ss n1 n2 n3 r1 r2 (hs.on b (fun e => by rcases e with e | e; exact n2 e.symm; exact n3 e.symm))
theorem beginK4 : BeginK 4 := by
  intro u S v wh i h w0 hk ho hok hwh hh hu
  obtain ⟨g, d0, d1, hv, _⟩ := mch_at hk hu
  obtain ⟨s0, s1⟩ := one_mch ho hk
  obtain ⟨l1, l2, q1, q2, hp, hl⟩ := ok_mch hk hok
  refine ⟨88, pt g, 78, pt g, hv, Ent.of Tryd.func78 (by kernel_rfl) rfl, fun w => (m_mch_begin g w).nil, fun w _ => (m_mch_begin g w).row, fun w kn hu => ?_⟩
  obtain ⟨dr, ds, sg, sr, ss, n1, n2, n3, hg, hd, hs⟩ := mch_at' hk hv hu
  refine (w_mch_begin g dr ds u.pos u.len wh h u.p.size u.ring u.number w n1 n2 n3 hh (by omega) s1 hg hd hs l2 hl hwh (q2 _)).mono ?_
  rintro e w' ⟨rfl, r1, r2, r3, b⟩
  refine ⟨rfl, ?_, b.mono fun k e => by rcases e with rfl | rfl; exact .inl sg; exact .inl ss⟩
  unfold Un.beg
  rw [if_pos hk]
  unfold Un.find
  exact .mch hk g dr ds hv sg sr ss n1 n2 n3 r1 r2 r3
theorem begun4 {p : Pt} (hk : p.kind = 4) : begun p = { p := p, ring := List.replicate (pw p.size) 0, number := List.replicate (pw p.size) 0 } := by unfold begun; rw [if_neg (by omega), if_neg (by omega), if_pos hk]
theorem buildK4 : BuildK 4 := by
  intro p i w hk ho kn
  obtain ⟨s0, s1⟩ := one_mch ho hk
  obtain ⟨s, hs, s16, hp⟩ := pw_nat p.size (by omega) s1
  unfold vPt
  rw [hk, hs]
  refine (build_mch s p.a p.b p.c p.rate p.limit w s16).mono ?_
  rintro e w' ⟨g, dr, ds, rfl, g1, d1, d2, n1, n2, n3, hg, hd, hss, b⟩
  refine ⟨_, _, rfl, ?_, b⟩
  rw [begun4 hk]
  refine .mch hk g dr ds rfl ⟨g1, hg.lt⟩ ⟨d1, hd.lt⟩ ⟨d2, hss.lt⟩ n1 n2 n3 ?_ ?_ ?_
  · show Ro w' g 95 7 (maF p.size dr (pw p.size) ds 0 0 0)
    rw [hp, hs]; exact hg
  · show Ro w' dr 5 (pw p.size) (bytesF (List.replicate (pw p.size) 0))
    rw [hp]
    exact hd.same fun k hk2 => by unfold bytesF; rw [rep_getD _ _ _ _ hk2]; rfl
  · show Ro w' ds 3 (pw p.size) (natsF (List.replicate (pw p.size) 0))
    rw [hp]
    exact hss.same fun k hk2 => by unfold natsF; rw [rep_getD _ _ _ _ hk2]; rfl
/-- Each kind there is. -/
theorem kind_all (k : Nat) (h : 1 ≤ k ∧ k ≤ 9) : BuildK k ∧ LeanK k ∧ LearnK k ∧ EndK k ∧ BeginK k := by
  have : k = 1 ∨ k = 2 ∨ k = 3 ∨ k = 4 ∨ k = 5 ∨ k = 6 ∨ k = 7 ∨ k = 8 ∨ k = 9 := by omega
  rcases this with rfl | rfl | rfl | rfl | rfl | rfl | rfl | rfl | rfl
  · exact ⟨buildK1, leanK1, learnK1, endK1, beginK1⟩
  · exact ⟨buildK2, leanK2, learnK2, endK2, beginK2⟩
  · exact ⟨buildK3, leanK3, learnK3, endK3, beginK3⟩
  · exact ⟨buildK4, leanK4, learnK4, endK4, beginK4⟩
  · exact ⟨buildK5, leanK5, learnK5, endK5, beginK5⟩
  · exact ⟨buildK6, leanK6, learnK6, endK6, beginK6⟩
  · exact ⟨buildK7, leanK7, learnK7, endK7, beginK7⟩
  · exact ⟨buildK8, leanK8, learnK8, endK8, beginK8⟩
  · exact ⟨buildK9, leanK9, learnK9, endK9, beginK9⟩
end Go.Proofs.YtkfdbibgjoaefaaDoor
