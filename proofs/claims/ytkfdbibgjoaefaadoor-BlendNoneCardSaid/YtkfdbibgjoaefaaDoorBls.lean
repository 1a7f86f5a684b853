/-
  A whole blend (chapter 12) as plain data: it stays right, whatever it is handed; its guess lies in its range; a part that counts comes to expect what always comes.
-/
import Derived.Test.YtkfdbibgjoaefaaDoorBln
namespace Go.Proofs.YtkfdbibgjoaefaaDoor

structure Bl where
  l : List Un
  c : Nat := 1
  bits : Nat := 0
  whole : Nat := 0
def leansGo (c bits : Nat) : List Un → List Int → List Int
  | [], a => a
  | u :: us, a => leansGo c bits us (a ++ [u.lean c bits a])
/-- How all parts lean, in order. -/
def Bl.leans (b : Bl) : List Int := leansGo b.c b.bits b.l []
def Bl.guess (b : Bl) : Int := 16 * sq (b.leans.getLastD 0)
def Bl.new (l : List Pt) : Bl := { l := l.map begun }
def Bl.contexts (b : Bl) (h : List Nat) : Bl :=
  { b with l := b.l.mapIdx fun i u => if u.p.kind = 4 then ({ u with h := h.getD i 0 } : Un).find b.whole else { u with h := h.getD i 0 } }
def Bl.each (b : Bl) (one : Bool) : List Un := b.l.mapIdx fun i u => u.learn b.c b.leans (b.leans.getD i 0) one
def Bl.learn (b : Bl) (one : Bool) : Bl :=
  if b.bits = 7 then { l := (b.each one).map (fun u => u.whole (b.c * 2 + if one then 1 else 0) b.whole), c := 1, bits := 0, whole := b.whole + 1 }
  else { l := b.each one, c := b.c * 2 + (if one then 1 else 0), bits := b.bits + 1, whole := b.whole }
/-- A right blend. -/
structure Bl.Ok (b : Bl) : Prop where
  parts : rightP (b.l.map (·.p)) = 0
  each : ∀ u ∈ b.l, u.ok b.whole
  bits : b.bits ≤ 7
  c : 2 ^ b.bits ≤ b.c ∧ b.c < 2 ^ (b.bits + 1)
theorem Bl.Ok.one {b : Bl} (h : b.Ok) (i : Nat) (hi : i < b.l.length) : b.l[i].p.one i := by
  have := ((rightP_ok _).1 h.parts).2.1 i (by rw [List.length_map]; exact hi)
  rw [List.getElem_map] at this
  exact this
theorem leansGo_len (c bits : Nat) : ∀ (l : List Un) (a : List Int), (leansGo c bits l a).length = a.length + l.length
  | [], a => rfl
  | u :: us, a => by
    unfold leansGo
    rw [leansGo_len c bits us, List.length_append, List.length_cons, List.length_cons, List.length_nil]
    omega
theorem leansGo_range (c bits w : Nat) : ∀ (l : List Un) (a : List Int), (∀ d ∈ a, Lean1 d) → (∀ u ∈ l, u.ok w ∧ ∃ i : Nat, u.p.one i) → ∀ d ∈ leansGo c bits l a, Lean1 d
  | [], _, ha, _ => ha
  | u :: us, a, ha, hl => by
    unfold leansGo
    refine leansGo_range c bits w us _ (fun d hd => ?_) (fun v hv => hl v (List.mem_cons_of_mem _ hv))
    rcases List.mem_append.1 hd with e | e
    · exact ha d e
    · rw [List.mem_singleton] at e
      subst e
      obtain ⟨h1, i, h2⟩ := hl u List.mem_cons_self
      exact lean_range u i w c bits a h2 h1 ha
theorem Bl.leans_len (b : Bl) : b.leans.length = b.l.length := by
  unfold Bl.leans
  rw [leansGo_len, List.length_nil, Nat.zero_add]
theorem Bl.Ok.range {b : Bl} (h : b.Ok) : ∀ d ∈ b.leans, Lean1 d := leansGo_range b.c b.bits b.whole b.l [] (fun _ h => absurd h List.not_mem_nil) fun u hu => by
  obtain ⟨i, hi, e⟩ := List.getElem_of_mem hu
  refine ⟨h.each u hu, i, ?_⟩
  have := h.one i hi
  rw [e] at this
  exact this
theorem Bl.guess_range (b : Bl) : 16 ≤ b.guess ∧ b.guess ≤ 65520 := by
  have := sq_range (b.leans.getLastD 0)
  unfold Bl.guess
  omega
theorem new_ok (l : List Pt) (h : rightP l = 0) : (Bl.new l).Ok where
  parts := by
    have : ((l.map begun).map (·.p)) = l := by
      rw [List.map_map]
      conv => rhs; rw [← List.map_id l]
      exact List.map_congr_left fun p _ => begun_p p
    show rightP ((l.map begun).map (·.p)) = 0
    rw [this]
    exact h
  each := by
    intro u hu
    obtain ⟨p, hp, e⟩ := List.mem_map.1 hu
    obtain ⟨i, hi, e2⟩ := List.getElem_of_mem hp
    subst e
    exact begun_ok p i (by rw [← e2]; exact ((rightP_ok _).1 h).2.1 i hi)
  bits := by show 0 ≤ 7; decide
  c := by show 2 ^ 0 ≤ 1 ∧ 1 < 2 ^ (0 + 1); decide
theorem map_p {l : List Un} {f : Nat → Un → Un} (h : ∀ (i : Nat) (u : Un), (f i u).p = u.p) : (l.mapIdx f).map (·.p) = l.map (·.p) := by
  apply List.ext_getElem
  · simp
  · intro i h1 h2
    simp [h]
theorem find_p (u : Un) (w : Nat) : (u.find w).p = u.p := rfl
theorem whole_p (u : Un) (c w : Nat) : (u.whole c w).p = u.p := by
  unfold Un.whole
  split <;> rfl
theorem contexts_ok (b : Bl) (g : List Nat) (h : b.Ok) : (b.contexts g).Ok where
  parts := by
    show rightP ((b.l.mapIdx _).map Un.p) = 0
    rw [map_p (fun _ u => by split <;> rfl)]
    exact h.parts
  each := by
    intro u hu
    obtain ⟨i, hi, e⟩ := List.getElem_of_mem hu
    have hi2 : i < b.l.length := by simpa [Bl.contexts] using hi
    have e2 : (b.contexts g).l[i] = if b.l[i].p.kind = 4 then ({ b.l[i] with h := g.getD i 0 } : Un).find b.whole else { b.l[i] with h := g.getD i 0 } := by
      simp [Bl.contexts]
    rw [← e, e2]
    have := h.each b.l[i] (List.getElem_mem hi2)
    show Un.ok _ b.whole
    split
    next k => exact find_ok _ _ k this
    next => exact this
  bits := h.bits
  c := h.c
theorem each_p (b : Bl) (one : Bool) : (b.each one).map (·.p) = b.l.map (·.p) := map_p (fun _ u => learn_p u _ _ _ _)
theorem each_ok (b : Bl) (one : Bool) (h : b.Ok) : ∀ u ∈ b.each one, u.ok b.whole := by
  intro u hu
  obtain ⟨i, hi, e⟩ := List.getElem_of_mem hu
  have hi2 : i < b.l.length := by simpa [Bl.each] using hi
  have e2 : (b.each one)[i] = b.l[i].learn b.c b.leans (b.leans.getD i 0) one := by simp [Bl.each]
  rw [← e, e2]
  exact learn_ok _ i _ _ _ _ one (h.one i hi2) (h.each _ (List.getElem_mem hi2)) h.range
theorem Bl.learn_ok (b : Bl) (one : Bool) (h : b.Ok) : (b.learn one).Ok := by
  unfold Bl.learn
  split
  next e7 =>
    refine ⟨?_, ?_, by show 0 ≤ 7; decide, by show 2 ^ 0 ≤ 1 ∧ 1 < 2 ^ (0 + 1); decide⟩
    · show rightP (((b.each one).map _).map Un.p) = 0
      rw [List.map_map]
      have : (b.each one).map ((fun u : Un => u.p) ∘ fun u => u.whole (b.c * 2 + if one then 1 else 0) b.whole) = (b.each one).map (·.p) := List.map_congr_left fun u _ => whole_p u _ _
      rw [this, each_p]
      exact h.parts
    · intro u hu
      obtain ⟨v, hv, e⟩ := List.mem_map.1 hu
      subst e
      exact whole_ok v _ _ (each_ok b one h v hv)
  next e7 =>
    have hb := h.bits
    have hc := h.c
    refine ⟨?_, each_ok b one h, by show b.bits + 1 ≤ 7; omega, ?_⟩
    · show rightP ((b.each one).map (·.p)) = 0
      rw [each_p]
      exact h.parts
    · show 2 ^ (b.bits + 1) ≤ b.c * 2 + (if one then 1 else 0) ∧ b.c * 2 + (if one then 1 else 0) < 2 ^ (b.bits + 1 + 1)
      rw [Nat.pow_succ] at hc
      rw [Nat.pow_succ, Nat.pow_succ]
      cases one <;> simp <;> omega

/-- One part alone, with no context, that learns the same bit again and again. -/
def same (one : Bool) (b : Bl) : Nat → Bl
  | 0 => b
  | n + 1 => (same one b n).learn one
theorem learn_h (u : Un) (c : Nat) (l : List Int) (d : Int) (one : Bool) : (u.learn c l d one).h = u.h := by
  unfold Un.learn
  simp only
  repeat' split
  all_goals rfl
/-- Inv u m: what holds of it when its first place was met m times, at least. -/
theorem same_inv (p : Pt) (one : Bool) (h4 : p.kind ≠ 4) (Inv : Un → Nat → Prop) (h0 : Inv (begun p) 0)
    (hf : ∀ u m l d, u.p = p → u.h = 0 → Inv u m → Inv (u.learn 1 l d one) (m + 1))
    (ho : ∀ u m c l d, u.p = p → u.h = 0 → Inv u m → Inv (u.learn c l d one) m) :
    ∀ n, ∃ u, (same one (Bl.new [p]) n).l = [u] ∧ u.p = p ∧ u.h = 0 ∧ (same one (Bl.new [p]) n).bits = n % 8 ∧ (n % 8 = 0 → (same one (Bl.new [p]) n).c = 1) ∧ Inv u ((n + 7) / 8)
  | 0 => ⟨begun p, rfl, begun_p p, by unfold begun; repeat' split
                                      all_goals rfl, rfl, fun _ => rfl, h0⟩
  | n + 1 => by
    obtain ⟨u, e1, e2, e3, e4, e5, e6⟩ := same_inv p one h4 Inv h0 hf ho n
    have hu : ∀ c l d, (u.learn c l d one).p = p ∧ (u.learn c l d one).h = 0 := fun c l d => ⟨by rw [learn_p, e2], by rw [learn_h, e3]⟩
    have he : ∃ l d, (same one (Bl.new [p]) n).each one = [u.learn (same one (Bl.new [p]) n).c l d one] := ⟨_, _, by unfold Bl.each; rw [e1]; rfl⟩
    obtain ⟨l, d, he⟩ := he
    have hi : Inv (u.learn (same one (Bl.new [p]) n).c l d one) ((n + 1 + 7) / 8) := by
      by_cases e : n % 8 = 0
      · rw [e5 e, show (n + 1 + 7) / 8 = (n + 7) / 8 + 1 from by omega]
        exact hf u _ l d e2 e3 e6
      · rw [show (n + 1 + 7) / 8 = (n + 7) / 8 from by omega]
        exact ho u _ _ l d e2 e3 e6
    show ∃ u, ((same one (Bl.new [p]) n).learn one).l = [u] ∧ _ ∧ _ ∧ ((same one (Bl.new [p]) n).learn one).bits = _ ∧ (_ → ((same one (Bl.new [p]) n).learn one).c = 1) ∧ _
    unfold Bl.learn
    by_cases e7 : (same one (Bl.new [p]) n).bits = 7
    · rw [if_pos e7]
      refine ⟨u.learn (same one (Bl.new [p]) n).c l d one, ?_, (hu _ _ _).1, (hu _ _ _).2, ?_, fun _ => rfl, hi⟩
      · show ((same one (Bl.new [p]) n).each one).map _ = _
        rw [he, List.map_cons, List.map_nil]
        congr 1
        unfold Un.whole
        rw [if_neg (by rw [(hu _ _ _).1]; exact h4)]
      · show 0 = (n + 1) % 8
        omega
    · rw [if_neg e7]
      refine ⟨u.learn (same one (Bl.new [p]) n).c l d one, he, (hu _ _ _).1, (hu _ _ _).2, ?_, fun e => ?_, hi⟩
      · show (same one (Bl.new [p]) n).bits + 1 = (n + 1) % 8
        omega
      · omega
theorem guess_one (b : Bl) (u : Un) (h : b.l = [u]) : b.guess = 16 * sq (u.lean b.c b.bits []) := by
  unfold Bl.guess Bl.leans
  rw [h]
  rfl
/-- A chance and its count, of so many bits of a kind. -/
def cmRun (one : Bool) : Nat → Int × Int
  | 0 => (2097152, 0)
  | k + 1 => ((cmRun one k).1 + Int.tdiv ((if one then 4194303 else 0) - (cmRun one k).1) ((cmRun one k).2 + 2), into ((cmRun one k).2 + 1) 0 255)
theorem cmRun_in (one : Bool) : ∀ k, (0 ≤ (cmRun one k).1 ∧ (cmRun one k).1 ≤ 4194303) ∧ 0 ≤ (cmRun one k).2
  | 0 => ⟨⟨(by decide : (0 : Int) ≤ 2097152), (by decide : (2097152 : Int) ≤ 4194303)⟩, (by decide : (0 : Int) ≤ 0)⟩
  | k + 1 => by
    have h := cmRun_in one k
    exact ⟨step_range _ _ _ _ h.1 (by cases one <;> decide) (by omega), (into_range _ _ _ (by decide)).1⟩
theorem cmRun_up (k : Nat) : (cmRun true k).1 ≤ (cmRun true (k + 1)).1 := by
  have h := cmRun_in true k
  have := Int.tdiv_nonneg (a := 4194303 - (cmRun true k).1) (b := (cmRun true k).2 + 2) (by omega) (by omega)
  show _ ≤ (cmRun true k).1 + Int.tdiv (4194303 - (cmRun true k).1) ((cmRun true k).2 + 2)
  omega
theorem cmRun_down (k : Nat) : (cmRun false (k + 1)).1 ≤ (cmRun false k).1 := by
  have h := cmRun_in false k
  have := Int.tdiv_nonneg (a := (cmRun false k).1) (b := (cmRun false k).2 + 2) (by omega) (by omega)
  show (cmRun false k).1 + Int.tdiv (0 - (cmRun false k).1) ((cmRun false k).2 + 2) ≤ _
  rw [Int.zero_sub, Int.neg_tdiv]
  omega
theorem cmRun_mono (k : Nat) : ∀ m, (cmRun true k).1 ≤ (cmRun true (k + m)).1 ∧ (cmRun false (k + m)).1 ≤ (cmRun false k).1
  | 0 => ⟨Int.le_refl _, Int.le_refl _⟩
  | m + 1 => by
    have := cmRun_mono k m
    exact ⟨Int.le_trans this.1 (cmRun_up (k + m)), Int.le_trans (cmRun_down (k + m)) this.2⟩
theorem cm_up200 : (4096000 : Int) ≤ (cmRun true 200).1 := by decide +kernel
theorem cm_down200 : (cmRun false 200).1 ≤ 102400 := by decide +kernel
theorem sq_stz100 : 16 * sq (stz 100) < 5000 := by decide +kernel
theorem sq_stz128 : 16 * sq (stz 128) < 5000 := by decide +kernel
theorem sq_stz3968 : 60000 < 16 * sq (stz 3968) := by decide +kernel
/-- A part that counts, its chances so. -/
def CmInv (p : Pt) (one : Bool) (u : Un) (m : Nat) : Prop :=
  u.chance.length = pw p.size ∧ u.count.length = pw p.size ∧ ∀ i, i < pw p.size → ∃ k, u.chance.getD i 0 = (cmRun one k).1 ∧ u.count.getD i 0 = (cmRun one k).2 ∧ (i = placeN 0 1 p.size → m ≤ k)
theorem getD_set {α : Type} (l : List α) (i j : Nat) (x a : α) (hj : j < l.length) : (l.set i x).getD j a = if i = j then x else l.getD j a := by
  rw [gD_in _ _ (by rw [List.length_set]; exact hj), List.getElem_set, gD_in _ _ hj]
theorem cm_learn (p : Pt) (one : Bool) (hk : p.kind = 2) (hl : p.limit = 255) (hs : 0 ≤ p.size ∧ p.size ≤ 16) (u : Un) (m c : Nat) (l : List Int) (d : Int) (hp : u.p = p) (hh : u.h = 0) (h : CmInv p one u m) : CmInv p one (u.learn c l d one) m ∧ (c = 1 → CmInv p one (u.learn c l d one) (m + 1)) := by
  obtain ⟨h1, h2, h3⟩ := h
  have e : u.learn c l d one = u.slow (placeN 0 c p.size) one := by
    unfold Un.learn
    simp only
    rw [if_pos (by rw [hp]; exact hk), hh, hp]
  have ha : placeN 0 c p.size < pw p.size := placeN_lt 0 c p.size hs.1 (by omega)
  rw [e]
  have key : ∀ i, i < pw p.size → ∃ k, (u.slow (placeN 0 c p.size) one).chance.getD i 0 = (cmRun one k).1 ∧ (u.slow (placeN 0 c p.size) one).count.getD i 0 = (cmRun one k).2 ∧ (i = placeN 0 1 p.size → m ≤ k ∧ (c = 1 → m + 1 ≤ k)) := by
    intro i hi
    obtain ⟨k, k1, k2, k3⟩ := h3 i hi
    unfold Un.slow
    simp only
    rw [getD_set _ _ _ _ _ (by omega), getD_set _ _ _ _ _ (by omega)]
    by_cases ei : placeN 0 c p.size = i
    · rw [if_pos ei, if_pos ei, ei, k1, k2, hp, hl]
      exact ⟨k + 1, rfl, rfl, fun e => by have := k3 e; omega⟩
    · rw [if_neg ei, if_neg ei]
      exact ⟨k, k1, k2, fun ee => ⟨k3 ee, fun e1 => absurd (by rw [e1]; exact ee.symm) ei⟩⟩
  have l1 : (u.slow (placeN 0 c p.size) one).chance.length = pw p.size := by simp [Un.slow, h1]
  have l2 : (u.slow (placeN 0 c p.size) one).count.length = pw p.size := by simp [Un.slow, h2]
  refine ⟨⟨l1, l2, fun i hi => ?_⟩, fun e1 => ⟨l1, l2, fun i hi => ?_⟩⟩
  · obtain ⟨k, k1, k2, k3⟩ := key i hi
    exact ⟨k, k1, k2, fun e => (k3 e).1⟩
  · obtain ⟨k, k1, k2, k3⟩ := key i hi
    exact ⟨k, k1, k2, fun e => (k3 e).2 e1⟩
/-- Behind 1600 bits of a kind a PCm is nearly sure of it. -/
theorem cm_sure (p : Pt) (one : Bool) (hk : p.kind = 2) (hl : p.limit = 255) (hs : 0 ≤ p.size ∧ p.size ≤ 16) : if one then 60000 < (same one (Bl.new [p]) 1600).guess else (same one (Bl.new [p]) 1600).guess < 5000 := by
  have h0 : CmInv p one (begun p) 0 := by
    unfold begun
    rw [if_pos hk]
    refine ⟨List.length_replicate, List.length_replicate, fun i hi => ⟨0, ?_, ?_, fun _ => Nat.le_refl _⟩⟩
    · show (List.replicate _ _).getD i 0 = 2097152
      rw [gD_in _ _ (by rw [List.length_replicate]; exact hi), List.getElem_replicate]
    · show (List.replicate _ _).getD i 0 = 0
      rw [gD_in _ _ (by rw [List.length_replicate]; exact hi), List.getElem_replicate]
  obtain ⟨u, e1, e2, e3, e4, e5, _, _, h3⟩ := same_inv p one (by omega) (CmInv p one) h0 (fun u m l d hp hh h => (cm_learn p one hk hl hs u m 1 l d hp hh h).2 rfl) (fun u m c l d hp hh h => (cm_learn p one hk hl hs u m c l d hp hh h).1) 1600
  have hc := e5 (by decide)
  obtain ⟨k, k1, _, k3⟩ := h3 _ (placeN_lt 0 1 p.size hs.1 (by omega))
  have k3 : 200 ≤ k := k3 rfl
  obtain ⟨m, em⟩ : ∃ m, k = 200 + m := ⟨k - 200, by omega⟩
  rw [guess_one _ u e1, hc]
  have el : u.lean 1 (same one (Bl.new [p]) 1600).bits [] = stz ((cmRun one k).1 / 1024) := by
    unfold Un.lean
    simp only
    rw [if_neg (by rw [e2]; omega), if_pos (by rw [e2]; exact hk), e2, e3, k1]
  rw [el, em]
  have hm := cmRun_mono 200 m
  cases one
  · have h1 := cm_down200
    have h2 := stz_mono ((cmRun false (200 + m)).1 / 1024) 100 (by omega)
    have h3 := sq_mono _ _ h2
    have := sq_stz100
    show 16 * sq (stz ((cmRun false (200 + m)).1 / 1024)) < 5000
    omega
  · have h1 := cm_up200
    have h2 := stz_mono 3968 ((cmRun true (200 + m)).1 / 1024) (by omega)
    have h3 := sq_mono _ _ h2
    have := sq_stz3968
    show 60000 < 16 * sq (stz ((cmRun true (200 + m)).1 / 1024))
    omega
/-- The state behind fifteen of a kind. -/
def endS (one : Bool) : Nat := if one then 15 else 240
theorem run_end (one : Bool) : ∀ m, runN one (15 + m) 0 = endS one
  | 0 => by cases one <;> decide +kernel
  | m + 1 => by
    rw [show 15 + (m + 1) = (15 + m) + 1 from by omega, runN_succ, run_end one m]
    cases one <;> decide +kernel
def IcInv (p : Pt) (one : Bool) (u : Un) (m : Nat) : Prop :=
  u.state.length = pw p.size ∧ u.chance.length = 256 ∧ InN u.state 255 ∧ (∀ i, i < pw p.size → ∃ k, u.state.getD i 0 = runN one k 0 ∧ (i = placeN 0 1 p.size → m ≤ k)) ∧
  (if one then 63488 ≤ u.chance.getD 15 0 ∧ u.chance.getD 15 0 ≤ 65535 else 0 ≤ u.chance.getD 240 0 ∧ u.chance.getD 240 0 ≤ 2048)
theorem ic_learn (p : Pt) (one : Bool) (hk : p.kind = 3) (hs : 0 ≤ p.size ∧ p.size ≤ 16) (u : Un) (m c : Nat) (l : List Int) (d : Int) (hp : u.p = p) (hh : u.h = 0) (h : IcInv p one u m) : IcInv p one (u.learn c l d one) m ∧ (c = 1 → IcInv p one (u.learn c l d one) (m + 1)) := by
  obtain ⟨h1, h2, hn, h3, h4⟩ := h
  have ha : placeN 0 c p.size < pw p.size := placeN_lt 0 c p.size hs.1 (by omega)
  have e : u.learn c l d one = { u with chance := u.chance.set (u.state.getD (placeN 0 c p.size) 0) (u.chance.getD (u.state.getD (placeN 0 c p.size) 0) 0 + Int.tdiv ((if one then 65535 else 0) - u.chance.getD (u.state.getD (placeN 0 c p.size) 0) 0) 64), state := u.state.set (placeN 0 c p.size) (nxN (u.state.getD (placeN 0 c p.size) 0) one) } := by
    unfold Un.learn
    simp only
    rw [if_neg (by rw [hp]; omega), if_pos (by rw [hp]; exact hk), hh, hp]
  rw [e]
  have key : ∀ i, i < pw p.size → ∃ k, (u.state.set (placeN 0 c p.size) (nxN (u.state.getD (placeN 0 c p.size) 0) one)).getD i 0 = runN one k 0 ∧ (i = placeN 0 1 p.size → m ≤ k ∧ (c = 1 → m + 1 ≤ k)) := by
    intro i hi
    obtain ⟨k, k1, k3⟩ := h3 i hi
    rw [getD_set _ _ _ _ _ (by omega)]
    by_cases ei : placeN 0 c p.size = i
    · rw [if_pos ei, ei, k1]
      exact ⟨k + 1, (runN_succ one k 0).symm, fun e => by have := k3 e; omega⟩
    · rw [if_neg ei]
      exact ⟨k, k1, fun ee => ⟨k3 ee, fun e1 => absurd (by rw [e1]; exact ee.symm) ei⟩⟩
  have hch : if one then 63488 ≤ (u.chance.set (u.state.getD (placeN 0 c p.size) 0) (u.chance.getD (u.state.getD (placeN 0 c p.size) 0) 0 + Int.tdiv ((if one then 65535 else 0) - u.chance.getD (u.state.getD (placeN 0 c p.size) 0) 0) 64)).getD 15 0 ∧ (u.chance.set (u.state.getD (placeN 0 c p.size) 0) (u.chance.getD (u.state.getD (placeN 0 c p.size) 0) 0 + Int.tdiv ((if one then 65535 else 0) - u.chance.getD (u.state.getD (placeN 0 c p.size) 0) 0) 64)).getD 15 0 ≤ 65535 else 0 ≤ (u.chance.set (u.state.getD (placeN 0 c p.size) 0) (u.chance.getD (u.state.getD (placeN 0 c p.size) 0) 0 + Int.tdiv ((if one then 65535 else 0) - u.chance.getD (u.state.getD (placeN 0 c p.size) 0) 0) 64)).getD 240 0 ∧ (u.chance.set (u.state.getD (placeN 0 c p.size) 0) (u.chance.getD (u.state.getD (placeN 0 c p.size) 0) 0 + Int.tdiv ((if one then 65535 else 0) - u.chance.getD (u.state.getD (placeN 0 c p.size) 0) 0) 64)).getD 240 0 ≤ 2048 := by
    cases one
    · simp only [Bool.false_eq_true, if_false] at h4 ⊢
      rw [getD_set _ _ _ _ _ (by omega)]
      split
      next es =>
        rw [es]
        have e0 : Int.tdiv (0 - u.chance.getD 240 0) 64 = -(Int.tdiv (u.chance.getD 240 0) 64) := by rw [Int.zero_sub, Int.neg_tdiv]
        have t1 := Int.tdiv_nonneg (a := u.chance.getD 240 0) (b := 64) (by omega) (by omega)
        have t2 := Int.tdiv_le_self (a := u.chance.getD 240 0) 64 (by omega)
        rw [e0]
        omega
      next => exact h4
    · simp only [if_true] at h4 ⊢
      rw [getD_set _ _ _ _ _ (by omega)]
      split
      next es =>
        rw [es]
        have t1 := Int.tdiv_nonneg (a := 65535 - u.chance.getD 15 0) (b := 64) (by omega) (by omega)
        have t2 := Int.tdiv_le_self (a := 65535 - u.chance.getD 15 0) 64 (by omega)
        omega
      next => exact h4
  have hnn : InN (u.state.set (placeN 0 c p.size) (nxN (u.state.getD (placeN 0 c p.size) 0) one)) 255 := hn.set _ _ (nx255 _ (hn _) one)
  refine ⟨⟨by simp [h1], by simp [h2], hnn, fun i hi => ?_, hch⟩, fun e1 => ⟨by simp [h1], by simp [h2], hnn, fun i hi => ?_, hch⟩⟩
  · obtain ⟨k, k1, k3⟩ := key i hi
    exact ⟨k, k1, fun e => (k3 e).1⟩
  · obtain ⟨k, k1, k3⟩ := key i hi
    exact ⟨k, k1, fun e => (k3 e).2 e1⟩
theorem ch15 : (chN 15 : Int) = 63488 := by decide +kernel
theorem ch240 : (chN 240 : Int) = 2048 := by decide +kernel
/-- Behind 1600 bits of a kind a PIcm is nearly sure of it. -/
theorem ic_sure (p : Pt) (one : Bool) (hk : p.kind = 3) (hs : 0 ≤ p.size ∧ p.size ≤ 16) : if one then 60000 < (same one (Bl.new [p]) 1600).guess else (same one (Bl.new [p]) 1600).guess < 5000 := by
  have hget : ∀ j, j < 256 → ((List.range 256).map (fun s => (chN s : Int))).getD j 0 = chN j := fun j hj => by
    rw [gD_in _ _ (by rw [List.length_map, List.length_range]; exact hj), List.getElem_map, List.getElem_range]
  have h0 : IcInv p one (begun p) 0 := by
    unfold begun
    rw [if_neg (by omega), if_pos hk]
    refine ⟨List.length_replicate, by simp, repN_in _ _ _ (by decide), fun i hi => ⟨0, ?_, fun _ => Nat.le_refl _⟩, ?_⟩
    · show (List.replicate _ _).getD i 0 = 0
      rw [gD_in _ _ (by rw [List.length_replicate]; exact hi), List.getElem_replicate]
    · simp only
      rw [hget 15 (by decide), hget 240 (by decide), ch15, ch240]
      cases one <;> decide
  obtain ⟨u, e1, e2, e3, e4, e5, _, _, _, h3, h4⟩ := same_inv p one (by omega) (IcInv p one) h0 (fun u m l d hp hh h => (ic_learn p one hk hs u m 1 l d hp hh h).2 rfl) (fun u m c l d hp hh h => (ic_learn p one hk hs u m c l d hp hh h).1) 1600
  have hc := e5 (by decide)
  obtain ⟨k, k1, k3⟩ := h3 _ (placeN_lt 0 1 p.size hs.1 (by omega))
  have k3 : 200 ≤ k := k3 rfl
  obtain ⟨m, em⟩ : ∃ m, k = 15 + m := ⟨k - 15, by omega⟩
  rw [guess_one _ u e1, hc]
  have el : u.lean 1 (same one (Bl.new [p]) 1600).bits [] = stz (u.chance.getD (endS one) 0 / 16) := by
    unfold Un.lean
    simp only
    rw [if_neg (by rw [e2]; omega), if_neg (by rw [e2]; omega), if_pos (by rw [e2]; exact hk), e2, e3, k1, em, run_end]
  rw [el]
  cases one
  · simp only [Bool.false_eq_true, if_false] at h4 ⊢
    have h2 := stz_mono (u.chance.getD 240 0 / 16) 128 (by omega)
    have h3 := sq_mono _ _ h2
    have := sq_stz128
    show 16 * sq (stz (u.chance.getD 240 0 / 16)) < 5000
    omega
  · simp only [if_true] at h4 ⊢
    have h2 := stz_mono 3968 (u.chance.getD 15 0 / 16) (by omega)
    have h3 := sq_mono _ _ h2
    have := sq_stz3968
    show 60000 < 16 * sq (stz (u.chance.getD 15 0 / 16))
    omega
end Go.Proofs.YtkfdbibgjoaefaaDoor
