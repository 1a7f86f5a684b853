/-
  A whole blend in memory learns.
-/
import Derived.Test.YtkfdbibgjoaefaaDoorBw
namespace Go.Proofs.YtkfdbibgjoaefaaDoor
open Go.RowKit

/-- A blend at block g; F: all blocks that are its own. -/
structure BlAt (w : World) (F : Nat → Prop) (g : Nat) (b : Bl) : Prop where
  ex : ∃ (pa ct le cap : Nat) (v : Nat → Value) (S : Nat → Nat → Prop), Bx w g pa ct le b.l.length cap b.c v (b.l.map (·.h)) b.leans ∧ (∀ i, i < b.l.length → UnAt w (S i) (v i) (nth b.l i) b.whole) ∧
    (∀ i j, i < b.l.length → j < b.l.length → i ≠ j → ∀ a, S i a → ¬ S j a) ∧ (∀ i, i < b.l.length → ∀ a, S i a → a ≠ g ∧ a ≠ pa ∧ a ≠ ct ∧ a ≠ le ∧ a ≠ 0) ∧
    F g ∧ F pa ∧ F ct ∧ F le ∧ (∀ i, i < b.l.length → ∀ a, S i a → F a)
/-- A blend that may be told bits. -/
structure Fit (b : Bl) : Prop where
  ok : b.Ok
  hu : ∀ u ∈ b.l, u.h < 4294967296
  wh : b.whole < 4294967295
theorem Fit.rdy {b : Bl} (f : Fit b) : Rdy b.l b.whole b.c b.bits := ⟨f.ok.parts, f.ok.each, f.hu, f.ok.bits, f.ok.c.1, f.ok.c.2⟩
theorem BlAt.on {w w' : World} {F X : Nat → Prop} {g : Nat} {b : Bl} (h : BlAt w F g b) (x : But X w w') (hn : ∀ a, F a → ¬ X a) : BlAt w' F g b := by
  obtain ⟨pa, ct, le, cap, v, S, bx, hu, h1, h2, f1, f2, f3, f4, f5⟩ := h.ex
  exact ⟨pa, ct, le, cap, v, S, bx.but x (hn _ f1) (hn _ f2) (hn _ f3) (hn _ f4), fun i hi => (hu i hi).on x (fun a ha => hn _ (f5 i hi a ha)), h1, h2, f1, f2, f3, f4, f5⟩
theorem BlAt.below {w w' : World} {F : Nat → Prop} {g : Nat} {b : Bl} (h : BlAt w F g b) (x : Below w.heap.size w w') : BlAt w' F g b := h.on (But.of_below (S := fun _ => False) x) (fun _ _ h => h)
theorem each_len (b : Bl) (one : Bool) : (b.each one).length = b.l.length := by unfold Bl.each; rw [List.length_mapIdx]
theorem each_nth (b : Bl) (one : Bool) (i : Nat) (hi : i < b.l.length) : nth (b.each one) i = (nth b.l i).learn b.c b.leans (b.leans.getD i 0) one := by
  rw [nth_at _ _ (by rw [each_len]; exact hi), nth_at _ _ hi]
  simp [Bl.each]
theorem whole_h (u : Un) (c w : Nat) : (u.whole c w).h = u.h := by
  unfold Un.whole
  split <;> rfl
theorem each_h (b : Bl) (one : Bool) : (b.each one).map (·.h) = b.l.map (·.h) := by
  apply List.ext_getElem
  · simp [each_len]
  · intro i h1 h2
    simp [Bl.each, learn_h]
theorem learn_l (b : Bl) (one : Bool) : (b.learn one).l.length = b.l.length ∧ (b.learn one).l.map (·.h) = b.l.map (·.h) := by
  unfold Bl.learn
  split
  · refine ⟨by rw [List.length_map, each_len], ?_⟩
    show ((b.each one).map _).map _ = _
    rw [List.map_map, ← each_h b one]
    exact List.map_congr_left fun u _ => whole_h u _ _
  · exact ⟨each_len b one, each_h b one⟩
theorem Fit.learn {b : Bl} (f : Fit b) (one : Bool) (hw : b.whole < 4294967294) : Fit (b.learn one) := by
  refine ⟨b.learn_ok one f.ok, fun u hu => ?_, ?_⟩
  · obtain ⟨i, hi, e⟩ := List.getElem_of_mem hu
    have h2 := (learn_l b one).2
    have hi2 : i < b.l.length := by rw [← (learn_l b one).1]; exact hi
    have : ((b.learn one).l.map (·.h))[i]? = (b.l.map (·.h))[i]? := by rw [h2]
    rw [List.getElem?_eq_getElem (by simpa using hi), List.getElem?_eq_getElem (by simpa using hi2), List.getElem_map, List.getElem_map] at this
    injection this with this
    rw [← e, this]
    exact f.hu _ (List.getElem_mem hi2)
  · unfold Bl.learn
    split
    · show b.whole + 1 < _; omega
    · exact f.wh
theorem lean_in {L : List Int} (h : ∀ d ∈ L, Lean1 d) (i : Nat) : Lean1 (L.getD i 0) := by
  by_cases e : i < L.length
  · rw [gD_in _ _ e]; exact h _ (List.getElem_mem e)
  · rw [gD_out _ _ (by omega)]; unfold Lean1; omega
/-- What its parts must be able to do. -/
def Can (l : List Un) : Prop := ∀ u ∈ l, LeanK u.p.kind ∧ LearnK u.p.kind ∧ EndK u.p.kind
theorem map_p_mem {l l' : List Un} (h : l'.map (·.p) = l.map (·.p)) {q : Nat → Prop} (hl : ∀ u ∈ l, q u.p.kind) : ∀ u ∈ l', q u.p.kind := by
  intro u hu
  have : u.p ∈ l'.map (·.p) := List.mem_map.2 ⟨u, hu, rfl⟩
  rw [h] at this
  obtain ⟨x, hx, e⟩ := List.mem_map.1 this
  rw [← e]
  exact hl x hx
theorem learn_ps (b : Bl) (one : Bool) : (b.learn one).l.map (·.p) = b.l.map (·.p) := by
  unfold Bl.learn
  split
  · show ((b.each one).map _).map _ = _
    rw [List.map_map, ← each_p b one]
    exact List.map_congr_left fun u _ => whole_p u _ _
  · exact each_p b one
theorem Can.learn {b : Bl} (c : Can b.l) (one : Bool) : Can (b.learn one).l := map_p_mem (learn_ps b one) (q := fun k => LeanK k ∧ LearnK k ∧ EndK k) c
set_option maxHeartbeats 1000000 in
theorem bl_learn {w : World} {F : Nat → Prop} {g : Nat} {b : Bl} (h : BlAt w F g b) (f : Fit b) (kn : KnIs w) (hk : Can b.l) (one : Bool) :
    Calls Tryd.prog 7 #[pt g, .int .i64 (if one then 1 else 0)] w fun e w' => e = .returned (.int .i64 0) ∧ BlAt w' F g (b.learn one) ∧ But F w w' := by
  obtain ⟨pa, ct, le, cap, v, S, bx, hu, h1, h2, f1, f2, f3, f4, f5⟩ := h.ex
  have hbits := f.ok.bits
  have hc := f.ok.c
  have hc256 : b.c < 256 := by
    have := Nat.pow_le_pow_right (n := 2) (by decide) (show b.bits + 1 ≤ 8 from by omega)
    omega
  obtain ⟨n, hn⟩ : ∃ n, b.l.length = n := ⟨_, rfl⟩
  have hrng := f.rdy.rng
  have hL : b.leans.length = b.l.length := b.leans_len
  obtain ⟨T, x, K, R, hp⟩ := pick4 (n := b.l.length) (fun i hi => (hk _ (nth_mem hi)).2.1 (nth b.l i) (S i) (v i) b.whole i b.c b.bits le b.l.length b.leans (b.leans.getD i 0) one w rfl (f.rdy.at1 i hi _ hL hrng) (lean_in hrng i) (fun e => (h2 i hi _ e).2.2.2.1 rfl) (hu i hi))
  have hh : ∀ i, i < b.l.length → (b.l.map (·.h)).getD i 0 = (nth b.l i).h := fun i hi => by
    rw [gD_in _ _ (by rw [List.length_map]; exact hi), List.getElem_map, nth_at _ _ hi]
  obtain ⟨bn, hbn⟩ : ∃ bn : Nat, bn = if one then 1 else 0 := ⟨_, rfl⟩
  have fam : Fam b.l.length g pa ct le (fun i k w => if k = 0 then UnAt w (S i) (v i) (nth b.l i) b.whole else if k = 1 then UnAt w (S i) (v i) (nth (b.each one) i) b.whole else UnAt w (S i) (v i) ((nth (b.each one) i).whole (b.c * 2 + bn) b.whole) (b.whole + 1)) S := by
    refine ⟨fun i k w w' X hi hP x hX => ?_, h1, h2⟩
    by_cases k0 : k = 0
    · rw [if_pos k0] at hP ⊢; exact hP.on x hX
    · rw [if_neg k0] at hP ⊢
      by_cases k1 : k = 1
      · rw [if_pos k1] at hP ⊢; exact hP.on x hX
      · rw [if_neg k1] at hP ⊢; exact hP.on x hX
  have allF : ∀ a, All b.l.length S a → F a := fun a ⟨i, hi, ha⟩ => f5 i hi a ha
  have hlen := (learn_l b one).1
  have hmh := (learn_l b one).2
  refine (learn_go bx _ S fam kn T x K R (if one then 1 else 0) bn (by rw [hbn]; cases one <;> simp) hc256 (fun i hi => (hp i hi).1) (fun i hi => (hp i hi).2.1) (fun i hi => (hp i hi).2.2.1) (fun i hi w' pw => (hp i hi).2.2.2.1 w' pw) (fun i hi w' knw pw ro => ?_) hu (fun w3 => BlAt w3 F g (b.learn one) ∧ But F w w3) (fun w' bt knw hp1 bx' => ?_)).mono ?_
  · rw [hh i hi]
    refine ((hp i hi).2.2.2.2 w' knw pw ro).mono ?_
    rintro e w2 ⟨rfl, hu2, b2⟩
    refine ⟨rfl, ?_, b2⟩
    show UnAt w2 (S i) (v i) (nth (b.each one) i) b.whole
    rw [each_nth b one i hi]
    exact hu2
  · have hp1 : ∀ i, i < b.l.length → UnAt w' (S i) (v i) (nth (b.each one) i) b.whole := hp1
    have bt' : But F w w' := bt.mono fun a ha => .inl (by rcases ha with ha | rfl; exact allF a ha; exact f1)
    refine ⟨b.bits + 1, by omega, ?_, ?_, ?_⟩
    · rw [Nat.pow_succ]; omega
    · rw [Nat.pow_succ]
      have : bn ≤ 1 := by rw [hbn]; cases one <;> simp
      omega
    · by_cases e7 : b.bits = 7
      · rw [if_pos (by omega)]
        have hl : b.learn one = { l := (b.each one).map (fun u => u.whole (b.c * 2 + bn) b.whole), c := 1, bits := 0, whole := b.whole + 1 } := by
          unfold Bl.learn
          rw [if_pos e7, hbn]
        have hfit : Rdy (b.learn one).l (b.whole + 1) 1 0 := by
          have ok := b.learn_ok one f.ok
          refine ⟨ok.parts, ?_, ?_, by omega, by decide, by decide⟩
          · have := ok.each; rw [hl] at this ⊢; exact this
          · intro u hu
            obtain ⟨i, hi, e⟩ := List.getElem_of_mem hu
            have hi2 : i < b.l.length := by rw [← hlen]; exact hi
            have : ((b.learn one).l.map (·.h))[i]? = (b.l.map (·.h))[i]? := by rw [hmh]
            rw [List.getElem?_eq_getElem (by simpa using hi), List.getElem?_eq_getElem (by simpa using hi2), List.getElem_map, List.getElem_map] at this
            injection this with this
            rw [← e, this]
            exact f.hu _ (List.getElem_mem hi2)
        have hke : ∀ u ∈ b.each one, EndK u.p.kind := map_p_mem (each_p b one) (q := fun k => EndK k) (fun u hu => (hk u hu).2.2)
        have hok := each_ok b one f.ok
        have hrt : rightP ((b.each one).map (·.p)) = 0 := by rw [each_p]; exact f.ok.parts
        have el := each_len b one
        obtain ⟨T2, x2, K2, R2, hp2⟩ := pick4 (n := b.l.length) (fun i hi => hke _ (nth_mem (by rw [el]; exact hi)) (nth (b.each one) i) (S i) (v i) b.whole i (b.c * 2 + bn) w' rfl (right_one hrt i (by rw [el]; exact hi)) (hok _ (nth_mem (by rw [el]; exact hi))) (by have := f.wh; omega) (hp1 i hi))
        refine (end_go bx' _ S fam knw T2 x2 K2 R2 ((b.c * 2 + bn) % 256) (fun i hi => (hp2 i hi).1) (fun i hi => (hp2 i hi).2.1) (fun i hi w' pw => (hp2 i hi).2.2.1 w' pw) (fun i hi w' knw pw => (hp2 i hi).2.2.2 w' knw pw) hp1).mono ?_
        rintro e w2 ⟨rfl, b2, hq2, bx2⟩
        have hq2 : ∀ i, i < b.l.length → UnAt w2 (S i) (v i) ((nth (b.each one) i).whole (b.c * 2 + bn) b.whole) (b.whole + 1) := hq2
        have b2' : But F w' w2 := b2.mono fun a ha => .inl (by rcases ha with ha | rfl; exact allF a ha; exact f1)
        have n0 : ¬ (All b.l.length S 0 ∨ 0 = g) := fun h => by
          rcases h with h | h
          · exact fam.off_all.2.2.2.2 h
          · exact bx.ne.2.2.2.2.2.2.1 h.symm
        have hun : ∀ i, i < b.l.length → UnAt w2 (S i) (v i) (nth (b.learn one).l i) (b.whole + 1) := fun i hi => by
          have e1 : nth (b.learn one).l i = (nth (b.each one) i).whole (b.c * 2 + bn) b.whole := by
            rw [hl, nth_at _ _ (by rw [List.length_map, el]; exact hi), nth_at _ _ (by rw [el]; exact hi)]
            simp
          rw [e1]
          exact hq2 i hi
        refine ⟨rfl, ?_⟩
        rw [← hlen, ← hmh] at bx2
        refine (bl_ask bx2 (knw.but b2 n0) S hfit hrng (fun i hi => hun i (by rw [← hlen]; exact hi)) (fun i hi e => (h2 i (by rw [← hlen]; exact hi) _ e).2.2.2.1 rfl) (fun u hu => ((hk.learn one) u hu).1)).mono ?_
        rintro e w3 ⟨rfl, b3, bx3⟩
        have b3' : But F w2 w3 := b3.mono fun a ha => .inl (by rw [ha]; exact f4)
        refine ⟨rfl, ⟨pa, ct, le, cap, v, S, ?_, ?_, ?_, ?_, f1, f2, f3, f4, ?_⟩, (bt'.trans b2').trans b3'⟩
        · have e1 : (b.learn one).leans = leansGo 1 0 (b.learn one).l [] := by rw [hl]; rfl
          have e2 : (b.learn one).c = 1 := by rw [hl]
          rw [e1, e2]
          exact bx3
        · intro i hi
          have e3 : (b.learn one).whole = b.whole + 1 := by rw [hl]
          rw [e3]
          exact (hun i (by rw [← hlen]; exact hi)).on b3 (fun a ha e => (h2 i (by rw [← hlen]; exact hi) a ha).2.2.2.1 e)
        · rw [hlen]; exact h1
        · rw [hlen]; exact h2
        · rw [hlen]; exact f5
      · rw [if_neg (by omega)]
        have hl : b.learn one = { l := b.each one, c := b.c * 2 + bn, bits := b.bits + 1, whole := b.whole } := by
          unfold Bl.learn
          rw [if_neg e7, hbn]
        have ok := b.learn_ok one f.ok
        have hfit : Rdy (b.learn one).l b.whole (b.c * 2 + bn) (b.bits + 1) := by
          refine ⟨ok.parts, ?_, ?_, by omega, ?_, ?_⟩
          · have := ok.each; rw [hl] at this ⊢; exact this
          · intro u hu
            obtain ⟨i, hi, e⟩ := List.getElem_of_mem hu
            have hi2 : i < b.l.length := by rw [← hlen]; exact hi
            have : ((b.learn one).l.map (·.h))[i]? = (b.l.map (·.h))[i]? := by rw [hmh]
            rw [List.getElem?_eq_getElem (by simpa using hi), List.getElem?_eq_getElem (by simpa using hi2), List.getElem_map, List.getElem_map] at this
            injection this with this
            rw [← e, this]
            exact f.hu _ (List.getElem_mem hi2)
          · have := ok.c.1; rw [hl] at this; exact this
          · have := ok.c.2; rw [hl] at this; exact this
        have hun : ∀ i, i < b.l.length → UnAt w' (S i) (v i) (nth (b.learn one).l i) b.whole := fun i hi => by
          rw [hl]
          exact hp1 i hi
        rw [← hlen, ← hmh] at bx'
        refine (bl_ask bx' knw S hfit hrng (fun i hi => hun i (by rw [← hlen]; exact hi)) (fun i hi e => (h2 i (by rw [← hlen]; exact hi) _ e).2.2.2.1 rfl) (fun u hu => ((hk.learn one) u hu).1)).mono ?_
        rintro e w3 ⟨rfl, b3, bx3⟩
        have b3' : But F w' w3 := b3.mono fun a ha => .inl (by rw [ha]; exact f4)
        refine ⟨rfl, ⟨pa, ct, le, cap, v, S, ?_, ?_, ?_, ?_, f1, f2, f3, f4, ?_⟩, bt'.trans b3'⟩
        · have e1 : (b.learn one).leans = leansGo (b.c * 2 + bn) (b.bits + 1) (b.learn one).l [] := by rw [hl]; rfl
          have e2 : (b.learn one).c = b.c * 2 + bn := by rw [hl]
          rw [e1, e2]
          exact bx3
        · intro i hi
          have e3 : (b.learn one).whole = b.whole := by rw [hl]
          rw [e3]
          exact (hun i (by rw [← hlen]; exact hi)).on b3 (fun a ha e => (h2 i (by rw [← hlen]; exact hi) a ha).2.2.2.1 e)
        · rw [hlen]; exact h1
        · rw [hlen]; exact h2
        · rw [hlen]; exact f5
  · rintro e w' ⟨rfl, hq⟩
    exact ⟨rfl, hq⟩
end Go.Proofs.YtkfdbibgjoaefaaDoor
