/-
  The contract of New: a cipher of 32 bytes; none of other lengths.
-/
import Derived.Test.YtlgabihjfjlhkaaExp
namespace Go.Proofs.Ytlgabihjfjlhkaa
open Go.RowKit

/-- The tables' first n entries. -/
def tabF (n : Nat) (j : Nat) : Nat := if j < 240 then 0 else if j < 496 then (if j - 240 < n then subN (j - 240) else 0) else (if backN (j - 496) < n then backN (j - 496) else 0)
theorem tabF_next (n : Nat) (hn : n < 256) (j : Nat) (hj : j < 752) : upd (upd (tabF n) (240 + n) (subN n)) (496 + subN n) n j = tabF (n + 1) j := by
  have hs := sub_lt n hn
  unfold upd tabF
  by_cases e : j = 496 + subN n
  · subst e
    rw [if_pos rfl, if_neg (by omega), if_neg (by omega), show 496 + subN n - 496 = subN n by omega, back_sub n hn, if_pos (by omega)]
  · rw [if_neg e]
    by_cases e2 : j = 240 + n
    · subst e2
      rw [if_pos rfl, if_neg (by omega), if_pos (by omega), show 240 + n - 240 = n by omega, if_pos (by omega)]
    · rw [if_neg e2]
      by_cases h1 : j < 240
      · rw [if_pos h1, if_pos h1]
      · rw [if_neg h1, if_neg h1]
        by_cases h2 : j < 496
        · rw [if_pos h2, if_pos h2]
          by_cases h3 : j - 240 < n
          · rw [if_pos h3, if_pos (by omega)]
          · rw [if_neg h3, if_neg (by omega)]
        · rw [if_neg h2, if_neg h2]
          have hb : backN (j - 496) ≠ n := by
            intro hb
            have := sub_back (j - 496) (by omega)
            rw [hb] at this
            omega
          by_cases h3 : backN (j - 496) < n
          · rw [if_pos h3, if_pos (by omega)]
          · rw [if_neg h3, if_neg (by omega)]
theorem tabF_end (K : Nat → Nat) (j : Nat) (hj : j < 752) : expP K (tabF 256) 240 j = ciF K j := by
  unfold expP tabF ciF
  by_cases h1 : j < 240
  · rw [if_pos h1, if_pos h1]
  · rw [if_neg h1, if_neg h1, if_neg h1]
    by_cases h2 : j < 496
    · rw [if_pos h2, if_pos h2, if_pos (by omega)]
    · rw [if_neg h2, if_neg h2, if_pos (back_lt _ (by omega))]
set_option maxRecDepth 10000 in
set_option maxHeartbeats 2000000 in
theorem New_bad (A : Option Addr) (n c : Nat) (w : World) (hn : n ≠ 32) : Calls Try.prog 6 #[.slice A n c] w fun e w' => e = .returned (.tuple #[.pointer none, .int .i64 2]) ∧ w = w' := by
  have hz : ¬ ((n : Int) = 32) := by omega
  go_enter Try.func6, Try.ntmps6
  go_wp2_with fail
  go_ret2
  exact ⟨rfl, rfl⟩
theorem built35 : (Try.prog.built 35 [(0, Value.bool true)]).getD #[] = (ciL (tabF 0)).toArray := by kernel_rfl
set_option maxRecDepth 10000 in
set_option maxHeartbeats 2000000 in
theorem New_any (A : Option Addr) (c : Nat) (l : List UInt8) (w : World) (hl : IsBB w w.heap.size A 32 c l) :
    Calls Try.prog 6 #[.slice A 32 c] w fun e w' => ∃ g, e = .returned (.tuple #[.pointer (some ⟨g, 0, none⟩), .int .i64 0]) ∧ Ci w' g (fnOf l) ∧ Below w.heap.size w w' ∧ w.heap.size ≤ g := by
  have HL := hid hl
  have Hc0 : Hid (CiAt (w.alloc (.cells (ciL (tabF 0)).toArray 35)) w.heap.size (tabF 0)) := heap_alloc_new w _
  have HB0 : Hid (But w.heap.size w (w.alloc (.cells (ciL (tabF 0)).toArray 35))) := But.of ((Below.refl w.heap.size w).alloc (Nat.le_refl _) _)
  obtain ⟨Z, hZ⟩ : ∃ Z, Z = (ciL (tabF 0)).toArray := ⟨_, rfl⟩
  rw [← hZ] at Hc0 HB0
  have HZ := hid hZ
  clear hl hZ
  go_enter Try.func6, Try.ntmps6
  go_wp2_with (first
    | (refine wpList_build rfl 35 _ rfl (by kernel_rfl) ?_; go_loud (generalize hq : (Program.built Try.prog 35 _).getD #[] = Zq; have hZq : Z = Zq := HZ.out.trans (show (ciL (tabF 0)).toArray = Zq by rw [← hq]; kernel_rfl); subst hZq; clear hq)))
  generalize w.alloc (.cells Z 35) = W0 at Hc0 HB0 ⊢
  obtain ⟨gc, hgc⟩ : ∃ gc, gc = w.heap.size := ⟨_, rfl⟩
  rw [← hgc] at Hc0 HB0 ⊢
  have Hgc := hid hgc
  clear hgc
  go_loopw [5, 6, 12] (fun _ _ vi wr => ∃ t : Nat, t ≤ 256 ∧ vi = .int .i64 t ∧ Hid (CiAt wr gc (tabF t)) ∧ Hid (But gc w wr)) (fun _ _ vi _ => 256 - (intOf vi).toNat)
  case atStart => exact ⟨0, Nat.zero_le _, rfl, Hc0, HB0⟩
  case round =>
    obtain ⟨t, ht, rfl, hci, hbu⟩ := hrel
    clear Hc0 HB0
    by_cases hlt : t < 256
    · have hlz : (t : Int) < 256 := by omega
      have RS := hid (fun w => sub_any t hlt w)
      have hsl := sub_lt t hlt
      have Hnx := hid (tabF_next t hlt)
      generalize subN t = z at RS hsl Hnx
      have hz256 : (z : Int) < 256 := by omega
      go_wp2_with (go_at_call 17; refine (RS.out _).mono ?_; rintro e w' ⟨rfl, m, rfl⟩; have hc2 := hid (hci.out.drewN m); have hb2 := hid (hbu.out.drewN m); generalize wr.drewN m = W1 at hc2 hb2 ⊢; have c1 := hc2.out.cell (240 + t) (by omega); have f1 := hc2.out.free (1 + (240 + t)); have e241 : 1 + (240 + t) = 241 + t := (by omega); rw [e241] at c1 f1; have hc3 := hid (hc2.out.set (240 + t) z (by omega)); have hb3 := hid (hb2.out.set (1 + (240 + t)) (.int .u8 (z : Nat))); rw [e241] at hc3 hb3; have c2 := hc3.out.cell (496 + z) (by omega); have f2 := hc3.out.free (1 + (496 + z)); have e497 : 1 + (496 + z) = 497 + z := (by omega); rw [e497] at c2 f2; have hc4 := hid ((hc3.out.set (496 + z) t (by omega)).same Hnx.out); have hb4 := hid (hb3.out.set (1 + (496 + z)) (.int .u8 (t : Nat))); rw [e497] at hc4 hb4; clear e241 e497)
      go_roundw
      case rel => exact ⟨t + 1, by omega, by go_num, hc4, hb4⟩
      case measure => simp [intOf]; omega
    · obtain rfl : t = 256 := by omega
      have hlg : gc ≤ w.heap.size := by rw [Hgc.out]; exact Nat.le_refl _
      have hbel : Below w.heap.size w wr := hbu.out.below (Below.refl _ w) (by rw [Hgc.out]; exact Nat.le_refl _) (Nat.le_refl _)
      have hkey := HL.out.below hbel
      rw [← Hgc.out] at hkey
      have hsub : ∀ x, x < 256 → tabF 256 (240 + x) = subN x := by
        intro x hx
        unfold tabF
        rw [if_neg (by omega), if_pos (by omega), show 240 + x - 240 = x by omega, if_pos hx]
      have HX := hid (expand_any gc (tabF 256) A c l wr hci.out hsub hkey)
      have Hbel := hid hbel
      have Hk := hid hkey
      clear hbel hkey hsub hlg
      go_wp2_with (go_at_call 18; refine HX.out.mono ?_; rintro e w' ⟨rfl, hc5, hb5⟩; have hc6 := hid hc5; have hb6 := hid hb5; clear hc5 hb5)
      go_ret2
      refine ⟨gc, rfl, hc6.out.same (tabF_end _), hb6.out.below Hbel.out ?_ Hbel.out.size, ?_⟩
      · rw [Hgc.out]; exact Nat.le_refl _
      · rw [Hgc.out]; exact Nat.le_refl _
end Go.Proofs.Ytlgabihjfjlhkaa
