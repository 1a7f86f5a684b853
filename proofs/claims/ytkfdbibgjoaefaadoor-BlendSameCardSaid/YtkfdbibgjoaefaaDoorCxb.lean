/-
  A whole blend in memory is given its contexts; all kinds at once.
-/
import Derived.Test.YtkfdbibgjoaefaaDoorCtx
import Derived.Test.YtkfdbibgjoaefaaDoorAw
import Derived.Test.YtkfdbibgjoaefaaDoorKn3
namespace Go.Proofs.YtkfdbibgjoaefaaDoor
open Go.RowKit

theorem ctx_len (b : Bl) (hs : List Nat) : (b.contexts hs).l.length = b.l.length := by unfold Bl.contexts; simp
theorem ctx_nth (b : Bl) (hs : List Nat) (i : Nat) (hi : i < b.l.length) : nth (b.contexts hs).l i = (nth b.l i).beg b.whole (hs.getD i 0) := by
  rw [nth_at _ _ (by rw [ctx_len]; exact hi), nth_at _ _ hi]
  simp [Bl.contexts, Un.beg]
theorem beg_h (u : Un) (wh h : Nat) : (u.beg wh h).h = h := by
  unfold Un.beg
  split <;> rfl
theorem ctx_h (b : Bl) (hs : List Nat) : (b.contexts hs).l.map (·.h) = (List.range b.l.length).map (fun i => hs.getD i 0) := by
  apply List.ext_getElem
  · simp [ctx_len]
  · intro i h1 h2
    have hi : i < b.l.length := by simpa using h2
    have := ctx_nth b hs i hi
    rw [nth_at _ _ (by rw [ctx_len]; exact hi)] at this
    rw [List.getElem_map, this, beg_h]
    simp
theorem ctx_ps (b : Bl) (hs : List Nat) : (b.contexts hs).l.map (·.p) = b.l.map (·.p) := by
  unfold Bl.contexts
  exact map_p (fun _ u => by split <;> rfl)
theorem hs_in {hs : List Nat} (h : ∀ x ∈ hs, x < 4294967296) (i : Nat) : hs.getD i 0 < 4294967296 := by
  by_cases e : i < hs.length
  · rw [gD_in _ _ e]; exact h _ (List.getElem_mem e)
  · rw [gD_out _ _ (by omega)]; decide
theorem Fit.contexts {b : Bl} (f : Fit b) {hs : List Nat} (h : ∀ x ∈ hs, x < 4294967296) : Fit (b.contexts hs) := by
  refine ⟨contexts_ok b hs f.ok, fun u hu => ?_, f.wh⟩
  have : u.h ∈ (b.contexts hs).l.map (·.h) := List.mem_map.2 ⟨u, hu, rfl⟩
  rw [ctx_h] at this
  obtain ⟨i, _, e⟩ := List.mem_map.1 this
  rw [← e]
  exact hs_in h i
theorem Can.contexts {b : Bl} (c : Can b.l) (hs : List Nat) : Can (b.contexts hs).l := map_p_mem (ctx_ps b hs) (q := fun k => LeanK k ∧ LearnK k ∧ EndK k) c
/-- A right part's kind is known. -/
theorem known {b : Bl} (f : Fit b) : ∀ u ∈ b.l, BuildK u.p.kind ∧ LeanK u.p.kind ∧ LearnK u.p.kind ∧ EndK u.p.kind ∧ BeginK u.p.kind := by
  intro u hu
  obtain ⟨i, hi, e⟩ := List.getElem_of_mem hu
  have := one_kinds (right_one f.ok.parts i hi)
  rw [nth_at _ _ hi, e] at this
  exact kind_all _ this
theorem kinds_right {L : List Pt} (h : rightP L = 0) : ∀ p ∈ L, Kind p.kind := by
  intro p hp
  obtain ⟨i, hi, e⟩ := List.getElem_of_mem hp
  have := one_kinds (((rightP_ok _).1 h).2.1 i hi)
  rw [e] at this
  have := kind_all _ this
  exact ⟨this.1, this.2.1, this.2.2.1, this.2.2.2.1⟩
theorem bl_contexts {w : World} {F : Nat → Prop} {g : Nat} {b : Bl} (h : BlAt w F g b) (f : Fit b) (kn : KnIs w) (hc : b.c = 1) {A : Option Addr} {m mc : Nat} {hs : List Nat} (ws : WsAt w w.heap.size A m mc hs) (hd : ∀ ad, A = some ad → 0 < m → ¬ F ad.block) :
    Calls Tryd.prog 6 #[pt g, .slice A m mc] w fun e w' => e = .returned (.int .i64 0) ∧ BlAt w' F g (b.contexts hs) ∧ But F w w' := by
  obtain ⟨pa, ct, le, cap, v, S, bx, hu, h1, h2, f1, f2, f3, f4, f5⟩ := h.ex
  have hrng := f.rdy.rng
  have f' := f.contexts ws.small
  have hlen := ctx_len b hs
  obtain ⟨T, x, K, R, hp⟩ := pick4 (n := b.l.length) (fun i hi => (known f _ (nth_mem hi)).2.2.2.2 (nth b.l i) (S i) (v i) b.whole i (hs.getD i 0) w rfl (right_one f.ok.parts i hi) (f.ok.each _ (nth_mem hi)) (by have := f.wh; omega) (hs_in ws.small i) (hu i hi))
  have fam : Fam b.l.length g pa ct le (fun i k w => if k = 0 then UnAt w (S i) (v i) (nth b.l i) b.whole else UnAt w (S i) (v i) (nth (b.contexts hs).l i) b.whole) S := by
    refine ⟨fun i k w w' X hi hP x hX => ?_, h1, h2⟩
    by_cases k0 : k = 0
    · rw [if_pos k0] at hP ⊢; exact hP.on x hX
    · rw [if_neg k0] at hP ⊢; exact hP.on x hX
  have allF : ∀ a, All b.l.length S a → F a := fun a ⟨i, hi, ha⟩ => f5 i hi a ha
  rw [hc] at bx
  refine (ctx_go bx _ S fam kn T x K R ws (fun ad e hm => fun e2 => hd ad e hm (e2 ▸ f3)) (fun i hi => (hp i hi).1) (fun i hi => (hp i hi).2.1) (fun i hi => (hp i hi).2.2.1) (fun i hi w' pw => (hp i hi).2.2.2.1 w' pw) (fun i hi w' knw pw => ?_) hu (fun w3 => BlAt w3 F g (b.contexts hs) ∧ But F w w3) (fun w' bt knw hp1 bx' => ?_)).mono ?_
  · refine ((hp i hi).2.2.2.2 w' knw pw).mono ?_
    rintro e w2 ⟨rfl, hu2, b2⟩
    refine ⟨rfl, ?_, b2⟩
    show UnAt w2 (S i) (v i) (nth (b.contexts hs).l i) b.whole
    rw [ctx_nth b hs i hi]
    exact hu2
  · have hp1 : ∀ i, i < b.l.length → UnAt w' (S i) (v i) (nth (b.contexts hs).l i) b.whole := hp1
    have bt' : But F w w' := bt.mono fun a ha => .inl (by rcases ha with ha | rfl; exact allF a ha; exact f3)
    rw [← ctx_h, ← hlen] at bx'
    have r : Rdy (b.contexts hs).l b.whole 1 b.bits := by
      have := f'.rdy
      have e : (b.contexts hs).c = 1 := hc
      rw [e] at this
      exact this
    refine (bl_ask bx' knw S r hrng (fun i hi => hp1 i (by rw [← hlen]; exact hi)) (fun i hi e => (h2 i (by rw [← hlen]; exact hi) _ e).2.2.2.1 rfl) (fun u hu => (known f' u hu).2.1)).mono ?_
    rintro e w3 ⟨rfl, b3, bx3⟩
    have b3' : But F w' w3 := b3.mono fun a ha => .inl (by rw [ha]; exact f4)
    refine ⟨rfl, ⟨pa, ct, le, cap, v, S, ?_, ?_, ?_, ?_, f1, f2, f3, f4, ?_⟩, bt'.trans b3'⟩
    · have e2 : (b.contexts hs).c = 1 := hc
      have e1 : (b.contexts hs).leans = leansGo 1 b.bits (b.contexts hs).l [] := by
        unfold Bl.leans
        rw [e2]
        rfl
      rw [e1, e2]
      exact bx3
    · intro i hi
      exact (hp1 i (by rw [← hlen]; exact hi)).on b3 (fun a ha e => (h2 i (by rw [← hlen]; exact hi) a ha).2.2.2.1 e)
    · rw [hlen]; exact h1
    · rw [hlen]; exact h2
    · rw [hlen]; exact f5
  · rintro e w' ⟨rfl, hq⟩
    exact ⟨rfl, hq⟩
section
variable {w0 w w' : World} {F F1 F2 : Nat → Prop} {g g1 g2 : Nat} {b c : Bl} {A : Option Addr} {m mc : Nat} {hs : List Nat}
/-- The caller's numbers lie ahead of the blends. -/
theorem WsAt.up {B B' : Nat} (h : WsAt w B A m mc hs) (hB : B ≤ B') : WsAt w B' A m mc hs := ⟨h.len, fun hm => by
  obtain ⟨ad, e, hb, hc⟩ := h.lies hm
  exact ⟨ad, e, Nat.lt_of_lt_of_le hb hB, hc⟩, h.small⟩
theorem WsAt.keep {B : Nat} (h : WsAt w B A m mc hs) (b : Below B w w') : WsAt w' B A m mc hs := ⟨h.len, fun hm => by
  obtain ⟨ad, e, hb, hc⟩ := h.lies hm
  exact ⟨ad, e, hb, fun j hj => (World.cell?_of_block (b.block _ (by rw [block_of_add]; exact hb))).trans (hc j hj)⟩, h.small⟩
theorem On.contexts (h : On w0 w F g b) (hc : b.c = 1) (ws : WsAt w w0.heap.size A m mc hs) : Calls Tryd.prog 6 #[pt g, .slice A m mc] w fun e w' => e = .returned (.int .i64 0) ∧ On w0 w' F g (b.contexts hs) := by
  refine (bl_contexts h.at_ h.fit h.kn hc (ws.up h.bel.size) (fun ad e hm hF => ?_)).mono ?_
  · obtain ⟨ad', e', hb, _⟩ := ws.lies hm
    rw [e] at e'
    injection e' with e'
    subst e'
    have := h.low _ hF
    omega
  · rintro e w' ⟨rfl, a, x⟩
    exact ⟨rfl, h.kn.but x (fun e => by have := h.low _ e; have := h.pos; omega), h.bel.trans (x.below h.low h.bel.size), a, h.fit.contexts ws.small, h.can.contexts hs, h.low, h.pos⟩
theorem Sd.contexts (h : Sd w0 w F1 F2 g1 g2 b c) (hc : b.c = 1) (ws : WsAt w w0.heap.size A m mc hs) : Calls Tryd.prog 6 #[pt g1, .slice A m mc] w fun e w' => e = .returned (.int .i64 0) ∧ Sd w0 w' F1 F2 g1 g2 (b.contexts hs) c := by
  refine (bl_contexts h.one.at_ h.one.fit h.one.kn hc (ws.up h.one.bel.size) (fun ad e hm hF => ?_)).mono ?_
  · obtain ⟨ad', e', hb, _⟩ := ws.lies hm
    rw [e] at e'
    injection e' with e'
    subst e'
    have := h.one.low _ hF
    omega
  · rintro e w' ⟨rfl, a, x⟩
    have z : ¬ F1 0 := fun e => by have := h.one.low _ e; have := h.one.pos; omega
    exact ⟨rfl, ⟨h.one.kn.but x z, h.one.bel.trans (x.below h.one.low h.one.bel.size), a, h.one.fit.contexts ws.small, h.one.can.contexts hs, h.one.low, h.one.pos⟩,
      ⟨h.one.kn.but x z, h.one.bel.trans (x.below h.one.low h.one.bel.size), h.two.at_.on x (fun a h2 h1 => h.apart a h1 h2), h.two.fit, h.two.can, h.two.low, h.two.pos⟩, h.apart⟩
theorem Sd.contexts2 (h : Sd w0 w F1 F2 g1 g2 b c) (hc : c.c = 1) (ws : WsAt w w0.heap.size A m mc hs) : Calls Tryd.prog 6 #[pt g2, .slice A m mc] w fun e w' => e = .returned (.int .i64 0) ∧ Sd w0 w' F1 F2 g1 g2 b (c.contexts hs) := by
  refine (h.swap.contexts hc ws).mono ?_
  rintro e w' ⟨rfl, x⟩
  exact ⟨rfl, x.swap⟩
end
end Go.Proofs.YtkfdbibgjoaefaaDoor
