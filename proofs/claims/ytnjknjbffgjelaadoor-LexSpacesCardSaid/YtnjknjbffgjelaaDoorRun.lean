/-
  between, its closure, blank, run.
-/
import Derived.Test.YtnjknjbffgjelaaDoorUtf
import Derived.Test.YtnjknjbffgjelaaDoorLxn
import Derived.WalkLawsBesides
import Derived.RegionTactic
import Derived.BigRegion
import Derived.BigQuiet
import Derived.Laws.Rows
import Derived.IntWalk
set_option linter.unusedVariables false
set_option linter.unusedSimpArgs false
namespace Go.Proofs.YtnjknjbffgjelaaDoor
open Go.RowKit

theorem lt_of_heap {w : World} {g : Nat} {o : Obj} (h : w.heap[g]? = some o) : g < w.heap.size := by
  rcases Nat.lt_or_ge g w.heap.size with hlt | hge
  · exact hlt
  · rw [Array.getElem?_eq_none hge] at h; simp at h
theorem lt_cell {w : World} {p : Addr} {v : Value} (h : w.cell? p = some v) : p.block < w.heap.size := by
  unfold World.cell? at h
  rcases Nat.lt_or_ge p.block w.heap.size with hlt | hge
  · exact hlt
  · rw [Array.getElem?_eq_none hge] at h; simp at h
theorem bel_trans {w W V : World} (h : Below w.heap.size w W) (k : Below W.heap.size W V) : Below w.heap.size w V := h.trans (k.mono h.size)
theorem keeps {w w' : World} {p : Addr} {v : Value} (hb : Below w.heap.size w w') (h : w.cell? p = some v) : w'.cell? p = some v := (hb.cell (lt_cell h)).trans h
def btw (a b n : Int) : Bool := decide (a ≤ n) && decide (n ≤ b)
set_option maxRecDepth 10000 in
theorem asks_any (w : World) (g1 g2 : Nat) (a b n : Int) (h1 : w.cell? ⟨g1, 0, none⟩ = some (.int .i32 a)) (h2 : w.cell? ⟨g2, 0, none⟩ = some (.int .i32 b)) :
    Calls Tryd.prog 25 #[.int .i32 n, .pointer (some ⟨g1, 0, none⟩), .pointer (some ⟨g2, 0, none⟩)] w fun e w' => e = .returned (.bool (btw a b n)) ∧ w' = w := by
  unfold btw
  by_cases h : a ≤ n
  · rw [decide_eq_true h]
    by_cases h' : n ≤ b
    · rw [decide_eq_true h']
      go_enter Tryd.func25, Tryd.ntmps25
      go_wp2_with fail
      go_ret
      exact ⟨rfl, rfl⟩
    · rw [decide_eq_false h']
      go_enter Tryd.func25, Tryd.ntmps25
      go_wp2_with fail
      go_ret
      exact ⟨rfl, rfl⟩
  · rw [decide_eq_false h]
    go_enter Tryd.func25, Tryd.ntmps25
    go_wp2_with fail
    go_ret
    exact ⟨rfl, rfl⟩
/-- A closure that asks whether a rune is from a to b. -/
def Bt (w : World) (f : Value) (a b : Int) : Prop := ∃ g1 g2, f = .func (.func 25) #[] #[.pointer (some ⟨g1, 0, none⟩), .pointer (some ⟨g2, 0, none⟩)] ∧ w.cell? ⟨g1, 0, none⟩ = some (.int .i32 a) ∧ w.cell? ⟨g2, 0, none⟩ = some (.int .i32 b)
theorem Bt.below {w w' : World} {f : Value} {a b : Int} (h : Bt w f a b) (hb : Below w.heap.size w w') : Bt w' f a b := by
  obtain ⟨g1, g2, rfl, h1, h2⟩ := h
  exact ⟨g1, g2, rfl, keeps hb h1, keeps hb h2⟩
set_option maxRecDepth 10000 in
theorem between_any (a b : Int) (w : World) :
    Calls Tryd.prog 17 #[.int .i32 a, .int .i32 b] w fun e w' => ∃ f, e = .returned f ∧ Bt w' f a b ∧ Below w.heap.size w w' := by
  go_enter Tryd.func17, Tryd.ntmps17
  go_wp2_with fail
  go_ret
  exact ⟨_, rfl, ⟨_, _, rfl, by go_simp, by go_simp⟩, ((Below.refl _ _).alloc (Nat.le_refl _) _).alloc (by simp) _⟩
theorem hid {p : Prop} (h : p) : Hid p := h
def notNl (n : Int) : Bool := n != 10
set_option maxRecDepth 10000 in
theorem notNl_any (w : World) (n : Int) : Calls Tryd.prog 20 #[.int .i32 n] w fun e w' => e = .returned (.bool (notNl n)) ∧ w' = w := by
  unfold notNl
  by_cases h : n = 10
  · subst h
    go_enter Tryd.func20, Tryd.ntmps20
    go_wp2_with fail
    go_ret
    exact ⟨rfl, rfl⟩
  · have e : (n != 10) = true := by simpa using h
    rw [e]
    go_enter Tryd.func20, Tryd.ntmps20
    go_wp2_with fail
    go_ret
    exact ⟨rfl, rfl⟩
def blankR (n : Int) : Bool := n == 32 || n == 9 || n == 13 || n == 10
set_option maxRecDepth 10000 in
theorem blank_any (w : World) (n : Int) : Calls Tryd.prog 18 #[.int .i32 n] w fun e w' => e = .returned (.bool (blankR n)) ∧ w' = w := by
  by_cases h1 : n = 32
  · subst h1
    go_enter Tryd.func18, Tryd.ntmps18
    go_wp2_with fail
    go_ret
    exact ⟨rfl, rfl⟩
  by_cases h2 : n = 9
  · subst h2
    go_enter Tryd.func18, Tryd.ntmps18
    go_wp2_with fail
    go_ret
    exact ⟨rfl, rfl⟩
  by_cases h3 : n = 13
  · subst h3
    go_enter Tryd.func18, Tryd.ntmps18
    go_wp2_with fail
    go_ret
    exact ⟨rfl, rfl⟩
  by_cases h4 : n = 10
  · subst h4
    go_enter Tryd.func18, Tryd.ntmps18
    go_wp2_with fail
    go_ret
    exact ⟨rfl, rfl⟩
  have e1 : (n == 32) = false := by simpa using h1
  have e2 : (n == 9) = false := by simpa using h2
  have e3 : (n == 13) = false := by simpa using h3
  have e4 : (n == 10) = false := by simpa using h4
  have e : blankR n = false := by unfold blankR; rw [e1, e2, e3, e4]; rfl
  rw [e]
  clear h1 h2 h3 h4 e
  go_enter Tryd.func18, Tryd.ntmps18
  go_wp2_with fail
  go_ret
  exact ⟨rfl, rfl⟩
theorem tw_len {p : UInt8 → Bool} (l : List UInt8) (n : Nat) (hn : n ≤ l.length) (h1 : ∀ j (h : j < l.length), j < n → p l[j] = true) (h2 : ∀ h : n < l.length, p l[n] = false) : (l.takeWhile p).length = n := by
  induction l generalizing n with
  | nil => simp at hn; simp [hn]
  | cons x l ih =>
    cases n with
    | zero =>
      have := h2 (by simp)
      simp only [List.getElem_cons_zero] at this
      simp [this]
    | succ n =>
      have h0 := h1 0 (by simp) (by omega)
      simp only [List.getElem_cons_zero] at h0
      rw [List.takeWhile_cons_of_pos h0, List.length_cons, ih n (by simp at hn; omega) (fun j h hj => by have := h1 (j + 1) (by simp; omega) (by omega); simpa using this) (fun h => by have := h2 (by simp; omega); simpa using this)]
/-- What is told of runes fits what is told of bytes. -/
structure Fits (g : Int → Bool) (p : UInt8 → Bool) (hb : Bool) : Prop where
  low : ∀ c : UInt8, c.toNat < 128 → g (c.toNat : Int) = p c
  high : ∀ c : UInt8, 128 ≤ c.toNat → p c = hb
  rune : ∀ r : Nat, 128 ≤ r → g (r : Int) = hb
theorem Fits.at {g : Int → Bool} {p : UInt8 → Bool} {hb : Bool} (F : Fits g p hb) (s : ByteArray) (pos : Nat) (h : pos < s.size) : ∃ r k : Nat, Utf8.decode s pos = (r, k) ∧ 1 ≤ k ∧ pos + k ≤ s.size ∧ g (r : Int) = p ((bl s)[pos]'(by rw [bl_len]; exact h)) ∧
    (p ((bl s)[pos]'(by rw [bl_len]; exact h)) = true → ∀ j (hj : j < (bl s).length), pos ≤ j → j < pos + k → p (bl s)[j] = true) := by
  obtain ⟨r, k, e, _, k1, k2, ⟨a, rfl, rfl⟩ | ⟨a, b, c⟩⟩ := dec_any s pos h
  · refine ⟨_, 1, e, k1, k2, F.low _ a, fun hp j hj h1 h2 => ?_⟩
    obtain rfl : j = pos := by omega
    exact hp
  · refine ⟨r, k, e, k1, k2, by rw [F.rune r b, F.high _ a], fun hp j hj h1 h2 => ?_⟩
    rw [F.high _ a] at hp
    by_cases e2 : j = pos
    · subst e2
      rw [F.high _ a]; exact hp
    · obtain ⟨i, rfl⟩ : ∃ i, j = pos + i := ⟨j - pos, by omega⟩
      have := c i (by rw [← bl_len]; exact hj) (by omega) (by omega)
      rw [F.high _ this]; exact hp
set_option maxRecDepth 100000 in
set_option maxHeartbeats 4000000 in
theorem run_btw (w : World) (s : ByteArray) (f : Value) (a b : Int) (hf : Bt w f a b) (p : UInt8 → Bool) (hb : Bool) (hsz : s.size ≤ 1000000000) (F : Fits (btw a b) p hb) :
    Calls Tryd.prog 19 #[.string s, f] w fun e w' => e = .returned (.int .i64 (((bl s).takeWhile p).length : Nat)) ∧ Below w.heap.size w w' := by
  have HFT := hid F
  clear F
  obtain ⟨g1, g2, rfl, h1, h2⟩ := hf
  have HA := hid (fun W (bW : Below w.heap.size w W) n => asks_any W g1 g2 a b n (keeps bW h1) (keeps bW h2))
  clear h1 h2
  go_enter Tryd.func19, Tryd.ntmps19
  go_wp2_with fail
  go_loopw [] (fun wr => ∃ pos : Nat, pos ≤ s.size ∧ wr.heap[w.heap.size]? = some (.stringIter s pos) ∧ Below w.heap.size w wr ∧ Hid (∀ j (h : j < (bl s).length), j < pos → p (bl s)[j] = true)) (fun wr => s.size - wr.iterPos w.heap.size)
  case atStart => exact ⟨0, Nat.zero_le _, World.iter_heap w s 0, (Below.refl _ _).alloc (Nat.le_refl _) _, fun j _ h => absurd h (Nat.not_lt_zero _)⟩
  case round =>
    obtain ⟨pos, hle, hit, hbw, HP⟩ := hrel
    have hpos0 := iterPos_of hit
    by_cases hp : pos < s.size
    · obtain ⟨r, k, hd, k1, k2, hg, hall⟩ := HFT.out.at s pos hp
      have hnx : ∀ ty, (Instr.next (.pointer (some ⟨w.heap.size, 0, none⟩)) true ty).run Tryd.prog wr = _ := fun ty => Lib.run_next_any_at wr w.heap.size s pos ty hit hp
      have hit2 := Lib.iterAt_heap wr w.heap.size s pos (pos + k) hit
      have hbw2 := Lib.below_iterAt hbw (k := w.heap.size) (Nat.le_refl _) s (pos + k)
      rw [hd] at hnx
      obtain ⟨W1, hW1⟩ : ∃ W1, W1 = wr.iterAt w.heap.size s (pos + k) := ⟨_, rfl⟩
      replace hnx : ∀ ty, (Instr.next (.pointer (some ⟨w.heap.size, 0, none⟩)) true ty).run Tryd.prog wr = .ok (.tuple #[.bool true, .int .i64 (pos : Int), .int .i32 (r : Int)]) W1 := fun ty => by rw [hW1]; exact hnx ty
      rw [← hW1] at hit2 hbw2
      replace HP : Hid ((p ((bl s)[pos]'(by rw [bl_len]; exact hp)) = true → ∀ j (h : j < (bl s).length), j < pos + k → p (bl s)[j] = true) ∧ (p ((bl s)[pos]'(by rw [bl_len]; exact hp)) = false → ((bl s).takeWhile p).length = pos)) := hid ⟨fun hq j h hj => by
        by_cases h2 : j < pos
        · exact HP.out j h h2
        · exact hall hq j h (by omega) hj, fun hq => tw_len (bl s) pos (by rw [bl_len]; exact hle) HP.out (fun _ => hq)⟩
      clear hW1 hit hbw hd hall
      generalize p ((bl s)[pos]'(by rw [bl_len]; exact hp)) = q at HP hg
      cases q
      · replace HP := hid (HP.out.2 rfl)
        have HQ := hid (HA.out W1 hbw2 (r : Int))
        rw [hg] at HQ
        go_wp2_with (go_at_call 25; refine HQ.out.mono ?_; rintro e wx ⟨rfl, rfl⟩)
        go_ret
        exact ⟨by rw [HP.out]; rfl, hbw2⟩
      · replace HP := hid (HP.out.1 rfl)
        have HQ := hid (HA.out W1 hbw2 (r : Int))
        rw [hg] at HQ
        go_wp2_with (go_at_call 25; refine HQ.out.mono ?_; rintro e wx ⟨rfl, rfl⟩)
        go_roundw
        case rel => exact ⟨pos + k, k2, hit2, hbw2, HP⟩
        case measure => rw [iterPos_of hit2, hpos0]; omega
    · have hnx : ∀ ty, (Instr.next (.pointer (some ⟨w.heap.size, 0, none⟩)) true ty).run Tryd.prog wr = _ := fun ty => Lib.run_next_end_at wr w.heap.size s pos ty hit hp
      have HT : Hid (((bl s).takeWhile p).length = s.size) := hid (tw_len (bl s) s.size (by rw [bl_len]; omega) (fun j h hj => HP.out j h (by omega)) (fun h => absurd h (by rw [bl_len]; omega)))
      clear HP hit
      go_wp2_with fail
      go_ret
      exact ⟨by rw [HT.out]; rfl, hbw⟩
set_option maxRecDepth 100000 in
set_option maxHeartbeats 4000000 in
theorem run_nl (w : World) (s : ByteArray)  (p : UInt8 → Bool) (hb : Bool) (hsz : s.size ≤ 1000000000) (F : Fits notNl p hb) :
    Calls Tryd.prog 19 #[.string s, .func (.func 20) #[] #[]] w fun e w' => e = .returned (.int .i64 (((bl s).takeWhile p).length : Nat)) ∧ Below w.heap.size w w' := by
  have HFT := hid F
  clear F
  go_enter Tryd.func19, Tryd.ntmps19
  go_wp2_with fail
  go_loopw [] (fun wr => ∃ pos : Nat, pos ≤ s.size ∧ wr.heap[w.heap.size]? = some (.stringIter s pos) ∧ Below w.heap.size w wr ∧ Hid (∀ j (h : j < (bl s).length), j < pos → p (bl s)[j] = true)) (fun wr => s.size - wr.iterPos w.heap.size)
  case atStart => exact ⟨0, Nat.zero_le _, World.iter_heap w s 0, (Below.refl _ _).alloc (Nat.le_refl _) _, fun j _ h => absurd h (Nat.not_lt_zero _)⟩
  case round =>
    obtain ⟨pos, hle, hit, hbw, HP⟩ := hrel
    have hpos0 := iterPos_of hit
    by_cases hp : pos < s.size
    · obtain ⟨r, k, hd, k1, k2, hg, hall⟩ := HFT.out.at s pos hp
      have hnx : ∀ ty, (Instr.next (.pointer (some ⟨w.heap.size, 0, none⟩)) true ty).run Tryd.prog wr = _ := fun ty => Lib.run_next_any_at wr w.heap.size s pos ty hit hp
      have hit2 := Lib.iterAt_heap wr w.heap.size s pos (pos + k) hit
      have hbw2 := Lib.below_iterAt hbw (k := w.heap.size) (Nat.le_refl _) s (pos + k)
      rw [hd] at hnx
      obtain ⟨W1, hW1⟩ : ∃ W1, W1 = wr.iterAt w.heap.size s (pos + k) := ⟨_, rfl⟩
      replace hnx : ∀ ty, (Instr.next (.pointer (some ⟨w.heap.size, 0, none⟩)) true ty).run Tryd.prog wr = .ok (.tuple #[.bool true, .int .i64 (pos : Int), .int .i32 (r : Int)]) W1 := fun ty => by rw [hW1]; exact hnx ty
      rw [← hW1] at hit2 hbw2
      replace HP : Hid ((p ((bl s)[pos]'(by rw [bl_len]; exact hp)) = true → ∀ j (h : j < (bl s).length), j < pos + k → p (bl s)[j] = true) ∧ (p ((bl s)[pos]'(by rw [bl_len]; exact hp)) = false → ((bl s).takeWhile p).length = pos)) := hid ⟨fun hq j h hj => by
        by_cases h2 : j < pos
        · exact HP.out j h h2
        · exact hall hq j h (by omega) hj, fun hq => tw_len (bl s) pos (by rw [bl_len]; exact hle) HP.out (fun _ => hq)⟩
      clear hW1 hit hbw hd hall
      generalize p ((bl s)[pos]'(by rw [bl_len]; exact hp)) = q at HP hg
      cases q
      · replace HP := hid (HP.out.2 rfl)
        have HQ := hid (notNl_any W1 (r : Int))
        rw [hg] at HQ
        go_wp2_with (go_at_call 20; refine HQ.out.mono ?_; rintro e wx ⟨rfl, rfl⟩)
        go_ret
        exact ⟨by rw [HP.out]; rfl, hbw2⟩
      · replace HP := hid (HP.out.1 rfl)
        have HQ := hid (notNl_any W1 (r : Int))
        rw [hg] at HQ
        go_wp2_with (go_at_call 20; refine HQ.out.mono ?_; rintro e wx ⟨rfl, rfl⟩)
        go_roundw
        case rel => exact ⟨pos + k, k2, hit2, hbw2, HP⟩
        case measure => rw [iterPos_of hit2, hpos0]; omega
    · have hnx : ∀ ty, (Instr.next (.pointer (some ⟨w.heap.size, 0, none⟩)) true ty).run Tryd.prog wr = _ := fun ty => Lib.run_next_end_at wr w.heap.size s pos ty hit hp
      have HT : Hid (((bl s).takeWhile p).length = s.size) := hid (tw_len (bl s) s.size (by rw [bl_len]; omega) (fun j h hj => HP.out j h (by omega)) (fun h => absurd h (by rw [bl_len]; omega)))
      clear HP hit
      go_wp2_with fail
      go_ret
      exact ⟨by rw [HT.out]; rfl, hbw⟩
theorem fits_letter : Fits (btw 97 122) isLetter false := by
  refine ⟨fun c h => ?_, fun c h => ?_, fun r h => ?_⟩
  · unfold btw isLetter
    congr 1 <;> (apply decide_eq_decide.2; omega)
  · unfold isLetter
    rw [decide_eq_false (show ¬ c.toNat ≤ 122 by omega), Bool.and_false]
  · unfold btw
    rw [decide_eq_false (show ¬ (r : Int) ≤ 122 by omega), Bool.and_false]
theorem fits_digit : Fits (btw 48 57) isDigit false := by
  refine ⟨fun c h => ?_, fun c h => ?_, fun r h => ?_⟩
  · unfold btw isDigit
    congr 1 <;> (apply decide_eq_decide.2; omega)
  · unfold isDigit
    rw [decide_eq_false (show ¬ c.toNat ≤ 57 by omega), Bool.and_false]
  · unfold btw
    rw [decide_eq_false (show ¬ (r : Int) ≤ 57 by omega), Bool.and_false]
def noNl (c : UInt8) : Bool := c.toNat != 10
theorem fits_nl : Fits notNl noNl true := by
  refine ⟨fun c h => ?_, fun c h => ?_, fun r h => ?_⟩
  · unfold notNl noNl
    show (!decide ((c.toNat : Int) = 10)) = !decide (c.toNat = 10)
    congr 1
    apply decide_eq_decide.2
    omega
  · unfold noNl
    show (!decide (c.toNat = 10)) = true
    rw [decide_eq_false (by omega)]; rfl
  · unfold notNl
    show (!decide ((r : Int) = 10)) = true
    rw [decide_eq_false (by omega)]; rfl
end Go.Proofs.YtnjknjbffgjelaaDoor
