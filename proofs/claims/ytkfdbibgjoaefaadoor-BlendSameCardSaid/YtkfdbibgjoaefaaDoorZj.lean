/-
  Merged: Lns Grt Sdb Sme.
-/
import Derived.Test.YtkfdbibgjoaefaaDoorCxb
import Derived.Shelf.Slices.Clone
import Derived.BigQuiet
/-
  Leans: a list of its own; SameInts.
-/
namespace Go.Proofs.YtkfdbibgjoaefaaDoor
open Go.RowKit Go.Shelf
def Tryd.laysClone_ren : Go.Shelf.Ren := ⟨fun | 15 => 22 | n => n, fun | 22 => 25 | 3 => 3 | 4 => 4 | n => n, fun | n => n⟩
theorem Tryd.laysClone : Go.Proofs.Lays2.n15 Tryd.prog Tryd.laysClone_ren := {
  mixed := by kernel_rfl
  f15 := Tryd.func22.trans (congrArg some (by kernel_rfl))
  t3 := Tryd.underlying3
  a3 := Tryd.isAgg3
  z3 := Tryd.sizeOf3
  v3 := Tryd.zeroValue3
  t4 := Tryd.underlying4
  a4 := Tryd.isAgg4
  z4 := Tryd.sizeOf4
  v4 := Tryd.zeroValue4
  t22 := Tryd.underlying25
  a22 := Tryd.isAgg25
  z22 := Tryd.sizeOf25
  v22 := Tryd.zeroValue25
  i3 := by kernel_rfl }
/-- A list of numbers lies in block d. -/
def Ns (w : World) (d : Nat) (L : List Int) : Prop := ∀ i, i < L.length → w.cell? ⟨d, i, none⟩ = some (.int .i64 (L.getD i 0))
theorem Ns.below {w w' : World} {d : Nat} {L : List Int} (h : Ns w d L) (b : Below w.heap.size w w') : Ns w' d L := fun i hi => keeps b (h i hi)
theorem Clone_any {w : World} {b n : Nat} {L : List Int} (hl : L.length = n) (hn : n ≤ 16) (h : Ns w b L) :
    Calls Tryd.prog 22 #[sl b n] w fun e w' => ∃ d cap, e = .returned (.slice (some ⟨d, 0, none⟩) n cap) ∧ Ns w' d L ∧ Below w.heap.size w w' := by
  have hc := Any.slices_Clone_int Tryd.laysClone b 0 n n L w (by omega) (by omega) (fun j hj => by rw [Nat.zero_add]; exact h j hj)
  have ef : Tryd.laysClone_ren.f 15 = 22 := by kernel_rfl
  rw [ef] at hc
  refine hc.mono ?_
  rintro e w' ⟨v', rfl, ho, hne, hb⟩
  obtain ⟨_, ⟨rfl, _⟩ | ⟨d, cap, cur, rfl, _, hg, _, _, _, ht⟩⟩ := ho
  · exact absurd rfl hne
  · refine ⟨d, cap, rfl, fun i hi => ?_, hb⟩
    rw [row_cell hg i]
    have h1 : (cur.toList.take (n * 1))[i]? = cur.toList[i]? := List.getElem?_take_of_lt (by omega)
    rw [ht] at h1
    rw [← Array.getElem?_toList, ← h1, List.getElem?_map, List.getElem?_take_of_lt (by omega), List.getElem?_eq_getElem hi, gD_in _ _ hi]
    rfl
set_option maxRecDepth 10000 in
set_option maxHeartbeats 1000000 in
theorem Leans_any {w : World} {g pa ct le n cap c : Nat} {v : Nat → Value} {h : List Nat} {L : List Int} (b : Bx w g pa ct le n cap c v h L) :
    Calls Tryd.prog 10 #[pt g] w fun e w' => (∃ d cap, e = .returned (.slice (some ⟨d, 0, none⟩) n cap) ∧ Ns w' d L) ∧ Below w.heap.size w w' := by
  have c0 := b.c0
  have c3 := b.c3
  have HM := hid (made_yes g w c0)
  have HC := hid (Clone_any b.lenL b.most (fun i hi => b.lea.cell i (by rw [← b.lenL]; exact hi) : Ns w le L))
  clear b
  unfold sl at HC
  unfold pt
  go_enter Tryd.func10, Tryd.ntmps10
  go_wp2_with fail
  refine HM.out.mono ?_
  rintro r w1 ⟨rfl, rfl⟩
  go_wp2_with fail
  refine HC.out.mono ?_
  rintro r w1 ⟨d, cap, rfl, hN, hB⟩
  go_wp2_with fail
  go_ret
  exact ⟨⟨d, cap, rfl, hN⟩, hB⟩
set_option maxRecDepth 10000 in
set_option maxHeartbeats 1000000 in
theorem SameInts_yes {w : World} {a c n ca cc : Nat} {L : List Int} (hl : L.length = n) (hn : n ≤ 16) (ha : Ns w a L) (hc : Ns w c L) :
    Calls Tryd.prog 14 #[.slice (some ⟨a, 0, none⟩) n ca, .slice (some ⟨c, 0, none⟩) n cc] w fun e w' => e = .returned (.bool true) ∧ Below w.heap.size w w' := by
  have hN : (n : Int) ≤ 16 := by omega
  go_enter Tryd.func14, Tryd.ntmps14
  go_wp2_with fail
  go_loopw [5] (fun vi wr => ∃ i : Nat, i ≤ n ∧ vi = .int .i64 i ∧ Below w.heap.size w wr) (fun vi _ => n - (intOf vi).toNat)
  case atStart => exact ⟨0, Nat.zero_le _, rfl, Below.refl _ _⟩
  case round =>
    obtain ⟨i, hi, rfl, hw⟩ := hrel
    by_cases hgo : i < n
    · have hz : (i : Int) < (n : Int) := by omega
      have k1 := keeps hw (ha i (by omega))
      have k2 := keeps hw (hc i (by omega))
      clear ha hc
      go_wp2_with fail
      go_quiet (fail)
      go_wp2_with fail
      go_roundw
      case rel => exact ⟨i + 1, by omega, by go_num, hw.trans (Below.drewN _ _ _)⟩
      case measure => simp [intOf]; omega
    · obtain rfl : i = n := by omega
      clear ha hc
      go_wp2_with fail
      go_ret
      exact ⟨rfl, hw⟩
end Go.Proofs.YtkfdbibgjoaefaaDoor
/-
  great; SameInts.
-/
namespace Go.Proofs.YtkfdbibgjoaefaaDoor
open Go.RowKit

set_option maxRecDepth 10000 in
set_option maxHeartbeats 1000000 in
theorem great_any (A : Option Addr) (n c : Nat) (L : List Pt) (w : World) (h : IsP w w.heap.size A n c L) :
    Calls Tryd.prog 12 #[.slice A n c] w fun e w' => (∃ r, e = .returned (.bool r)) ∧ Below w.heap.size w w' := by
  by_cases hn : n ≤ 16
  · have HM := hid (Memory_any A n c L w h (by omega))
    have hz : (n : Int) ≤ 16 := by omega
    clear h
    go_enter Tryd.func12, Tryd.ntmps12
    go_wp2_with fail
    refine HM.out.mono ?_
    rintro e w1 ⟨rfl, b⟩
    go_wp2_with fail
    go_ret
    exact ⟨⟨_, rfl⟩, b⟩
  · have hz : ¬ (n : Int) ≤ 16 := by omega
    clear h
    go_enter Tryd.func12, Tryd.ntmps12
    go_wp2_with fail
    go_ret
    exact ⟨.inl rfl, Below.refl _ _⟩
end Go.Proofs.YtkfdbibgjoaefaaDoor
/-
  Two blends that are the same, side by side, are told the same: what each call leaves.
-/
namespace Go.Proofs.YtkfdbibgjoaefaaDoor
open Go.RowKit

section
variable {w0 w w' : World} {F1 F2 : Nat → Prop} {g1 g2 : Nat} {b c : Bl} {A : Option Addr} {m mc : Nat} {hs : List Nat}
theorem Sd.stay (h : Sd w0 w F1 F2 g1 g2 b c) {b' : Bl} (a : BlAt w' F1 g1 b') (x : But F1 w w') (f : Fit b') (k : Can b'.l) : Sd w0 w' F1 F2 g1 g2 b' c := by
  have z : ¬ F1 0 := fun e => by have := h.one.low _ e; have := h.one.pos; omega
  exact ⟨⟨h.one.kn.but x z, h.one.bel.trans (x.below h.one.low h.one.bel.size), a, f, k, h.one.low, h.one.pos⟩,
    ⟨h.one.kn.but x z, h.one.bel.trans (x.below h.one.low h.one.bel.size), h.two.at_.on x (fun a h2 h1 => h.apart a h1 h2), h.two.fit, h.two.can, h.two.low, h.two.pos⟩, h.apart⟩
/-- A call on the first: what Contexts says, whatever its round. -/
def ctxCode (b : Bl) : Int := if b.c = 1 then 0 else 2
def ctxThen (b : Bl) (hs : List Nat) : Bl := if b.c = 1 then b.contexts hs else b
theorem Sd.ctx (h : Sd w0 w F1 F2 g1 g2 b c) (ws : WsAt w w0.heap.size A m mc hs) : Calls Tryd.prog 6 #[pt g1, .slice A m mc] w fun e w' => e = .returned (.int .i64 (ctxCode b)) ∧ Sd w0 w' F1 F2 g1 g2 (ctxThen b hs) c ∧ But F1 w w' := by
  unfold ctxCode ctxThen
  by_cases hc : b.c = 1
  · rw [if_pos hc, if_pos hc]
    refine (bl_contexts h.one.at_ h.one.fit h.one.kn hc (ws.up h.one.bel.size) (fun ad e hm hF => ?_)).mono ?_
    · obtain ⟨ad', e', hb, _⟩ := ws.lies hm
      rw [e] at e'
      injection e' with e'
      subst e'
      have := h.one.low _ hF
      omega
    · rintro e w' ⟨rfl, a, x⟩
      exact ⟨rfl, h.stay a x (h.one.fit.contexts ws.small) (h.one.can.contexts hs), x⟩
  · rw [if_neg hc, if_neg hc]
    refine (bl_ctx_bad h.one.at_ hc _).mono ?_
    rintro e w' ⟨rfl, rfl⟩
    exact ⟨rfl, h, But.refl _ _⟩
theorem Sd.ctx2 (h : Sd w0 w F1 F2 g1 g2 b c) (ws : WsAt w w0.heap.size A m mc hs) : Calls Tryd.prog 6 #[pt g2, .slice A m mc] w fun e w' => e = .returned (.int .i64 (ctxCode c)) ∧ Sd w0 w' F1 F2 g1 g2 b (ctxThen c hs) ∧ But F2 w w' := by
  refine (h.swap.ctx ws).mono ?_
  rintro e w' ⟨rfl, x, y⟩
  exact ⟨rfl, x.swap, y⟩
def bitCode (bt : Int) : Int := if bt = 0 ∨ bt = 1 then 0 else 2
def bitThen (b : Bl) (bt : Int) : Bl := if bt = 0 then b.learn false else if bt = 1 then b.learn true else b
theorem Sd.bit (h : Sd w0 w F1 F2 g1 g2 b c) (bt : Int) (hw : b.whole < 4294967294) : Calls Tryd.prog 7 #[pt g1, .int .i64 bt] w fun e w' => e = .returned (.int .i64 (bitCode bt)) ∧ Sd w0 w' F1 F2 g1 g2 (bitThen b bt) c ∧ But F1 w w' := by
  unfold bitCode bitThen
  by_cases h0 : bt = 0
  · subst h0
    rw [if_pos (.inl rfl), if_pos rfl]
    refine (bl_learn h.one.at_ h.one.fit h.one.kn h.one.can false).mono ?_
    rintro e w' ⟨rfl, a, x⟩
    exact ⟨rfl, h.stay a x (h.one.fit.learn false hw) (h.one.can.learn false), x⟩
  · by_cases h1 : bt = 1
    · subst h1
      rw [if_pos (.inr rfl), if_neg h0, if_pos rfl]
      refine (bl_learn h.one.at_ h.one.fit h.one.kn h.one.can true).mono ?_
      rintro e w' ⟨rfl, a, x⟩
      exact ⟨rfl, h.stay a x (h.one.fit.learn true hw) (h.one.can.learn true), x⟩
    · rw [if_neg (by omega), if_neg h0, if_neg h1]
      refine (bl_learn_bad h.one.at_ bt h0 h1).mono ?_
      rintro e w' ⟨rfl, rfl⟩
      exact ⟨rfl, h, But.refl _ _⟩
theorem Sd.bit2 (h : Sd w0 w F1 F2 g1 g2 b c) (bt : Int) (hw : c.whole < 4294967294) : Calls Tryd.prog 7 #[pt g2, .int .i64 bt] w fun e w' => e = .returned (.int .i64 (bitCode bt)) ∧ Sd w0 w' F1 F2 g1 g2 b (bitThen c bt) ∧ But F2 w w' := by
  refine (h.swap.bit bt hw).mono ?_
  rintro e w' ⟨rfl, x, y⟩
  exact ⟨rfl, x.swap, y⟩
theorem Sd.leans (h : Sd w0 w F1 F2 g1 g2 b c) : Calls Tryd.prog 10 #[pt g1] w fun e w' => (∃ d cap, e = .returned (.slice (some ⟨d, 0, none⟩) b.l.length cap) ∧ Ns w' d b.leans) ∧ Sd w0 w' F1 F2 g1 g2 b c ∧ Below w.heap.size w w' := by
  obtain ⟨pa, ct, le, cap, v, S, bx, _⟩ := h.one.at_.ex
  refine (Leans_any bx).mono ?_
  rintro e w' ⟨h1, x⟩
  exact ⟨h1, h.below x, x⟩
theorem Sd.leans2 (h : Sd w0 w F1 F2 g1 g2 b c) : Calls Tryd.prog 10 #[pt g2] w fun e w' => (∃ d cap, e = .returned (.slice (some ⟨d, 0, none⟩) c.l.length cap) ∧ Ns w' d c.leans) ∧ Sd w0 w' F1 F2 g1 g2 b c ∧ Below w.heap.size w w' := by
  refine h.swap.leans.mono ?_
  rintro e w' ⟨h1, x, y⟩
  exact ⟨h1, x.swap, y⟩
theorem Sd.guessB (h : Sd w0 w F1 F2 g1 g2 b c) : Calls Tryd.prog 8 #[pt g1] w fun e w' => e = .returned (.int .i64 b.guess) ∧ Sd w0 w' F1 F2 g1 g2 b c ∧ Below w.heap.size w w' := by
  refine (bl_guess h.one.at_ h.one.fit h.one.kn).mono ?_
  rintro e w' ⟨rfl, x⟩
  exact ⟨rfl, h.below x, x⟩
theorem Sd.guessB2 (h : Sd w0 w F1 F2 g1 g2 b c) : Calls Tryd.prog 8 #[pt g2] w fun e w' => e = .returned (.int .i64 c.guess) ∧ Sd w0 w' F1 F2 g1 g2 b c ∧ Below w.heap.size w w' := by
  refine h.swap.guessB.mono ?_
  rintro e w' ⟨rfl, x, y⟩
  exact ⟨rfl, x.swap, y⟩
end
theorem ctxThen_len (b : Bl) (hs : List Nat) : (ctxThen b hs).l.length = b.l.length ∧ (ctxThen b hs).whole = b.whole := by
  unfold ctxThen
  split
  · exact ⟨ctx_len b hs, rfl⟩
  · exact ⟨rfl, rfl⟩
theorem learn_whole (b : Bl) (one : Bool) : (b.learn one).whole ≤ b.whole + 1 := by
  unfold Bl.learn
  split
  · exact Nat.le_refl _
  · exact Nat.le_succ _
theorem bitThen_len (b : Bl) (bt : Int) : (bitThen b bt).l.length = b.l.length ∧ (bitThen b bt).whole ≤ b.whole + 1 := by
  unfold bitThen
  split
  · exact ⟨(learn_l b false).1, learn_whole b false⟩
  · split
    · exact ⟨(learn_l b true).1, learn_whole b true⟩
    · exact ⟨rfl, Nat.le_succ _⟩
/-- The acts: a list of structs of three cells; the numbers of each lie below B. -/
def ActsL (w : World) (B : Nat) (a : Option Addr) (n c : Nat) : Prop :=
  n ≤ c ∧ c ≤ maxLen ∧ ∀ i, i < n → ∃ (ad : Addr) (K bt : Int) (A : Option Addr) (m mc : Nat) (hs : List Nat), a = some ad ∧ ad.block < B ∧
    w.cell? (ad.add (i * 3)) = some (.int .i64 K) ∧ w.cell? (ad.add (i * 3 + 1)) = some (.slice A m mc) ∧ w.cell? (ad.add (i * 3 + 2)) = some (.int .i64 bt) ∧ WsAt w B A m mc hs
theorem ActsL.keep {w w' : World} {B : Nat} {a : Option Addr} {n c : Nat} (h : ActsL w B a n c) (b : Below B w w') : ActsL w' B a n c :=
  ⟨h.1, h.2.1, fun i hi => by
    obtain ⟨ad, K, bt, A, m, mc, hs, e, hb, h1, h2, h3, h4⟩ := h.2.2 i hi
    have k : ∀ j v, w.cell? (ad.add j) = some v → w'.cell? (ad.add j) = some v := fun j v hv => (World.cell?_of_block (b.block _ (by rw [block_of_add]; exact hb))).trans hv
    exact ⟨ad, K, bt, A, m, mc, hs, e, hb, k _ _ h1, k _ _ h2, k _ _ h3, h4.keep b⟩⟩
end Go.Proofs.YtkfdbibgjoaefaaDoor
/-
  BlendSame's walk, where it makes no blend.
-/
namespace Go.Proofs.YtkfdbibgjoaefaaDoor
open Go.RowKit

theorem IsP.up {w : World} {B B' : Nat} {A : Option Addr} {n c : Nat} {L : List Pt} (h : IsP w B A n c L) (hB : B ≤ B') : IsP w B' A n c L := ⟨h.len, h.cap, h.max, fun h0 => by
  obtain ⟨ad, e, hl, ha⟩ := h.lies h0
  exact ⟨ad, e, Nat.lt_of_lt_of_le hl hB, ha⟩⟩
set_option maxRecDepth 10000 in
set_option maxHeartbeats 1000000 in
theorem same_great (w : World) (kn : KnIs w) (A : Option Addr) (n c : Nat) (H : Value) (hg : Calls Tryd.prog 12 #[.slice A n c] w fun e w' => e = .returned (.bool true) ∧ Below w.heap.size w w') : Calls Tryd.prog 4 #[.slice A n c, H] w fun e w' => e = .returned (.bool true) ∧ Below w.heap.size w w' := by
  have HG := hid hg
  have HA := hid (fun W (b : Below w.heap.size w W) => (awake_any W (kn.below b)).mono (fun e W' q => (⟨q.1, b.trans (q.2.mono b.size)⟩ : e = .returned (.bool true) ∧ Below w.heap.size w W')))
  clear hg kn
  go_enter Tryd.func4, Tryd.ntmps4
  go_wp2_with fail
  refine HG.out.mono ?_
  rintro e w1 ⟨rfl, b1⟩
  go_wp2_with fail
  refine (HA.out _ b1).mono ?_
  rintro e w2 ⟨rfl, b2⟩
  go_wp2_with fail
  go_ret
  exact ⟨rfl, b2⟩
set_option maxRecDepth 10000 in
set_option maxHeartbeats 1000000 in
theorem same_bad (w : World) (kn : KnIs w) (A : Option Addr) (n c : Nat) (L : List Pt) (h : IsP w w.heap.size A n c L) (hr : ¬ rightP L = 0) (H : Value) (hg : Calls Tryd.prog 12 #[.slice A n c] w fun e w' => e = .returned (.bool false) ∧ Below w.heap.size w w') : Calls Tryd.prog 4 #[.slice A n c, H] w fun e w' => e = .returned (.bool true) ∧ Below w.heap.size w w' := by
  have HG := hid hg
  have HN := hid (fun W (b : Below w.heap.size w W) => (New_bad A n c L W ((h.below b).up b.size) hr).mono (fun e W' q => (⟨q.1, b.trans (q.2.mono b.size)⟩ : e = .returned (.tuple #[.pointer none, .int .i64 (rightP L)]) ∧ Below w.heap.size w W')))
  have HA := hid (fun W (b : Below w.heap.size w W) => (awake_any W (kn.below b)).mono (fun e W' q => (⟨q.1, b.trans (q.2.mono b.size)⟩ : e = .returned (.bool true) ∧ Below w.heap.size w W')))
  have hr2 : (rightP L != 0) = true := by simpa using hr
  clear hg kn h
  generalize rightP L = r at *
  go_enter Tryd.func4, Tryd.ntmps4
  go_wp2_with fail
  refine HG.out.mono ?_
  rintro e w1 ⟨rfl, b1⟩
  go_wp2_with fail
  refine (HN.out _ b1).mono ?_
  rintro e w2 ⟨rfl, b2⟩
  go_wp2_with fail
  refine (HN.out _ b2).mono ?_
  rintro e w3 ⟨rfl, b3⟩
  go_wp2_with fail
  refine (HA.out _ b3).mono ?_
  rintro e w4 ⟨rfl, b4⟩
  go_wp2_with fail
  go_ret
  exact ⟨rfl, b4⟩
end Go.Proofs.YtkfdbibgjoaefaaDoor
