/-
  The contract of (*Digest).Write.
-/
import Derived.Test.YtnifhgcdpgokhaaDig
import Derived.StillTailTactics
import Derived.IntWalk
namespace Go.Proofs.Ytnifhgcdpgokhaa
open Go.RowKit

def lenV : Value → Nat | .slice _ n _ => n | _ => 0
/-- The rest of a slice that came in, apart from block g. -/
def Rest (wr : World) (g B : Nat) (A : Option Addr) (n c : Nat) (l : List UInt8) : Prop := IsB wr A n c l ∧ (0 < l.length → ∀ ad, A = some ad → ad.block ≠ g ∧ ad.block < B)
theorem slice36r (g r : Nat) (hr : r < 64) (w : World) : (Instr.sliceAt 46 (.pointer (some ⟨g, 73, none⟩)) (some (.int .i64 (r : Int))) none none).run Try.prog w = .ok (.slice (some ⟨g, 73 + r, none⟩) (64 - r) (64 - r)) w := by
  have hs : (sizeOf (Try.prog.elem 46)).run Try.prog w = .ok 1 w := by kernel_rfl
  have hl : Try.prog.arrayLen 46 = 64 := by kernel_rfl
  rw [run_sliceAt_array_l w 46 ⟨g, 73, none⟩ (by kernel_rfl) .i64 (r : Int) (by omega) (by rw [hl]; omega), hs, hl]
  have e1 : (r : Int).toNat = r := by omega
  simp only [Result.andThen, slicedAt, e1, Nat.mul_one]
  rw [if_neg (by omega)]
  cases r with
  | zero => rfl
  | succ k => rfl

theorem IsB.grown {w w' : World} {row : Option Nat} {ad : Addr} {n c : Nat} {l : List UInt8} (h : IsB w (some ad) n c l) (hg : w.grownBy w' row) (hne : some ad.block ≠ row) : IsB w' (some ad) n c l :=
  ⟨h.len, h.cap, h.max, h.small, fun hp => by
    obtain ⟨ad', e, hc⟩ := h.lies hp
    cases e
    exact ⟨ad, rfl, fun j hj => hg.cell (hc j hj) (by rw [block_of_add]; exact hne)⟩⟩
theorem Rest.grown {w w' : World} {g B : Nat} {A : Option Addr} {n c : Nat} {l : List UInt8} (h : Rest w g B A n c l) (hg : w.grownBy w' (some g)) : Rest w' g B A n c l :=
  ⟨⟨h.1.len, h.1.cap, h.1.max, h.1.small, fun hp => by
    obtain ⟨ad, e, hc⟩ := h.1.lies hp
    obtain ⟨h1, _⟩ := h.2 hp ad e
    exact ⟨ad, e, fun j hj => hg.cell (hc j hj) (by rw [block_of_add]; intro e; cases e; exact h1 rfl)⟩⟩, h.2⟩
theorem Rest.cut {w : World} {g B : Nat} {A A' : Option Addr} {n c k : Nat} {l : List UInt8} (h : Rest w g B A n c l) (hi : IsB w A' (n - k) (c - k) (l.drop k))
    (ha : 0 < (l.drop k).length → ∀ ad', A' = some ad' → ∃ ad, A = some ad ∧ ad'.block = ad.block) : Rest w g B A' (n - k) (c - k) (l.drop k) :=
  ⟨hi, fun hp ad' e => by
    obtain ⟨ad, e2, e3⟩ := ha hp ad' e
    have := h.2 (by rw [List.length_drop] at hp; omega) ad e2
    rw [e3]; exact this⟩
theorem dig_next_full {W : World} {g : Nat} (L x b : List UInt8) (hb : b.length = 64) (ht : b.take (L.length % 64) = L.drop (64 * (L.length / 64))) (h : L.length % 64 + x.length = 64)
    (d : DigAt W g (uponS (b.take (L.length % 64) ++ (x ++ b.drop (L.length % 64 + x.length))) (absN L (L.length / 64))) (b.take (L.length % 64) ++ (x ++ b.drop (L.length % 64 + x.length))) (L.length + x.length)) : Dig W g (L ++ x) := by
  obtain ⟨e1, e2⟩ := dig_full L x b hb ht h
  refine ⟨_, ?_, e2⟩
  rw [e1, List.length_append]
  exact d
theorem dig_next_part {W : World} {g : Nat} (L x b : List UInt8) (hb : b.length = 64) (ht : b.take (L.length % 64) = L.drop (64 * (L.length / 64))) (h : L.length % 64 + x.length < 64)
    (d : DigAt W g (absN L (L.length / 64)) (b.take (L.length % 64) ++ (x ++ b.drop (L.length % 64 + x.length))) (L.length + x.length)) : Dig W g (L ++ x) := by
  obtain ⟨e1, e2⟩ := dig_part L x b hb ht h
  refine ⟨_, ?_, e2⟩
  rw [e1, List.length_append]
  exact d
theorem upon_at (s h : St) (hh : h.ok) (l : List UInt8) (hs : s = uponS l h) (kb ko pb po : Nat) (w : World) (hl : l.length = 64)
    (hk : ∀ j, j < 64 → w.cell? ⟨kb, ko + j, none⟩ = some (.int .u32 (kN j : Nat))) (hkb : kb < w.heap.size)
    (hb : ∀ j (hj : j < l.length), w.cell? ⟨pb, po + j, none⟩ = some (bv l[j])) (hp : pb < w.heap.size) :
    Calls Try.prog 35 #[.agg #[.int .u32 (h.a : Nat), .int .u32 (h.b : Nat), .int .u32 (h.c : Nat), .int .u32 (h.d : Nat), .int .u32 (h.e : Nat), .int .u32 (h.f : Nat), .int .u32 (h.g : Nat), .int .u32 (h.h : Nat)], .pointer (some ⟨kb, ko, none⟩), .pointer (some ⟨pb, po, none⟩)] w fun e w' => e = .returned (.agg #[.int .u32 (s.a : Nat), .int .u32 (s.b : Nat), .int .u32 (s.c : Nat), .int .u32 (s.d : Nat), .int .u32 (s.e : Nat), .int .u32 (s.f : Nat), .int .u32 (s.g : Nat), .int .u32 (s.h : Nat)]) ∧ Below w.heap.size w w' := by
  subst hs; exact upon_any h hh l kb ko pb po w hl hk hkb hb hp
theorem take_take_drop (l : List UInt8) (j k : Nat) : l.take j ++ (l.drop j).take k = l.take (j + k) := by
  rw [List.take_add]

set_option maxRecDepth 100000 in
set_option maxHeartbeats 2000000 in
theorem Write_any (g : Nat) (l l2 : List UInt8) (A : Option Addr) (n c : Nat) (w : World) (hd : Dig w g l) (hb : Rest w g w.heap.size A n c l2) (hs : l.length + n < 1000000000000000) :
    Calls Try.prog 26 #[.pointer (some ⟨g, 0, none⟩), .slice A n c] w fun e w' => e = .returned (.int .i64 0) ∧ Dig w' g (l ++ l2) ∧ w.grownBy w' (some g) := by
  have hlen := hid hb.1.len
  have hm0 : w.cell? ⟨g, 0, none⟩ = some (.bool true) := by obtain ⟨b, h1, _⟩ := hd; exact h1.made
  go_enter Try.func26, Try.ntmps26
  go_wp2_with fail
  go_loopw [1] (fun s wr => ∃ (j : Nat) (A' : Option Addr) (c' : Nat), j ≤ n ∧ s = .slice A' (n - j) c' ∧ Rest wr g w.heap.size A' (n - j) c' (l2.drop j) ∧ Dig wr g (l ++ l2.take j) ∧ w.grownBy wr (some g)) (fun s _ => lenV s)
  case atStart => exact ⟨0, A, c, Nat.zero_le _, rfl, by simpa using hb, by simpa using hd, World.grownBy.refl w _⟩
  case round =>
    obtain ⟨j, A', c', hj, rfl, hR, hD, hG⟩ := hrel
    by_cases hlt : j < n
    · obtain ⟨b, hD1, hD2⟩ := hD
      have hL : (l ++ l2.take j).length = l.length + j := by rw [List.length_append, List.length_take, hlen.out]; omega
      obtain ⟨L, hLd⟩ : ∃ L, L = l ++ l2.take j := ⟨_, rfl⟩
      rw [← hLd] at hD1 hD2 hL
      obtain ⟨N, hN⟩ : ∃ N, N = L.length := ⟨_, rfl⟩
      rw [← hN] at hD1 hD2
      obtain ⟨nn, hnn⟩ : ∃ nn, nn = min (64 - N % 64) (n - j) := ⟨_, rfl⟩
      have hsz := hD1.size
      have hr : N % 64 < 64 := Nat.mod_lt _ (by omega)
      have hNz : (N : Int) ≤ 1000000000000000 := by omega
      obtain ⟨r, hrr⟩ : ∃ r, r = N % 64 := ⟨_, rfl⟩
      have q1 : Int.tmod (N : Int) 64 = (r : Int) := by rw [Int.tmod_eq_emod_of_nonneg (by omega)]; omega
      have q2 : (N : Int) % 64 = (r : Int) := by omega
      have hr0 : r < 64 := by omega
      have hrz : (r : Int) < 64 := by omega
      have hsl := slice36r g r hr0
      have hpos : (0 : Int) < ((n - j : Nat) : Int) := by omega
      obtain ⟨m, hm⟩ : ∃ m, m = n - j := ⟨_, rfl⟩
      rw [← hm] at hR hnn hpos ⊢
      have Hh := hid (And.intro hLd (And.intro hN (And.intro hnn (And.intro hm (And.intro hL hrr)))))
      have HD2 := hid hD2
      have HR := hid hR
      have HD1 := hid hD1
      have HG := hid hG
      clear hLd hN hnn hm hL hrr hr hr0 hD2 hR hD1 hG hd hb hs
      obtain ⟨ad, rfl, ha⟩ := HR.out.1.lies (by have := HR.out.1.len; omega)
      have Ha := hid ha
      obtain ⟨A2, hA2, hI2, hb2⟩ := slice_from HR.out.1 nn (by have := Hh.out.2.2.1; omega)
      have HA2 := hid (And.intro hI2 hb2)
      have hnz : (nn : Int) ≤ 64 := by have := Hh.out.2.2.1; omega
      have hnm : (nn : Int) ≤ m := by have := Hh.out.2.2.1; omega
      obtain ⟨x, hx⟩ : ∃ x, x = ((l2.drop j).take nn) := ⟨_, rfl⟩
      have hxl : x.length = nn := by rw [hx, List.length_take]; have := Hh.out.2.2.1; have := HR.out.1.len; omega
      have Hx := hid (And.intro hx hxl)
      clear ha hI2 hb2 hx hxl
      go_wp2_with fail
      go_still_tail 10, (by kernel_rfl)
      change wpList _ _ _ _ _ wr.drew
      refine wpList_copy_own rfl (.tmp 26) (.tmp 27) 22 22 rfl 5 Try.underlying22 Try.size5 g (73 + r) (64 - r) (64 - r) ad m c' rfl rfl (digCells (absN L (N / 64)) b N).toArray 58 HD1.out.2 (x.map bv) ?c1 ?c2 ?c3 (bv_one x) ?_
      case c1 => rw [List.length_map, Hx.out.2]; have := Hh.out; show nn = min m (64 - r); omega
      case c2 =>
        intro i v hv
        obtain ⟨hx1, hx2⟩ := Hx.out
        have hi : i < x.length := by have := (List.getElem?_eq_some_iff.1 hv).1; simpa using this
        rw [map_bv_getElem? x i hi] at hv
        cases hv
        have hi2 : i < (l2.drop j).length := by rw [hx1, List.length_take] at hi; omega
        have e : x[i] = (l2.drop j)[i] := by subst hx1; simp
        rw [e]
        exact Ha.out i hi2
      case c3 => rw [List.length_map, Hx.out.2]; have := digCells_len (absN L (N / 64)) b N HD1.out.1; have := Hh.out; simp only [List.size_toArray]; omega
      have HD3 : DigAt (wr.drew.setRow g ((digCells (absN L (N / 64)) b N).toArray.toList.take (73 + r) ++ (x.map bv ++ (digCells (absN L (N / 64)) b N).toArray.toList.drop (73 + r + (x.map bv).length))).toArray) g (absN L (N / 64)) (b.take r ++ (x ++ b.drop (r + x.length))) N := by
        have e := setRow_heap wr.drew g _ ((digCells (absN L (N / 64)) b N).toArray.toList.take (73 + r) ++ (x.map bv ++ (digCells (absN L (N / 64)) b N).toArray.toList.drop (73 + r + (x.map bv).length))).toArray 58 (0, 0) HD1.out.2
        have hh := Hh.out
        have hx2 := Hx.out.2
        refine ⟨?_, e.trans ?_⟩
        · rw [List.length_append, List.length_append, List.length_take, List.length_drop, HD1.out.1]; omega
        · rw [List.toList_toArray, dig_splice _ b x N r HD1.out.1 (by omega)]
      have HG3 : wr.grownBy (wr.drew.setRow g ((digCells (absN L (N / 64)) b N).toArray.toList.take (73 + r) ++ (x.map bv ++ (digCells (absN L (N / 64)) b N).toArray.toList.drop (73 + r + (x.map bv).length))).toArray) (some g) := grown_trans (grown_drew _ _) (grownBy_setRow _ _ _)
      generalize (wr.drew.setRow g ((digCells (absN L (N / 64)) b N).toArray.toList.take (73 + r) ++ (x.map bv ++ (digCells (absN L (N / 64)) b N).toArray.toList.drop (73 + r + (x.map bv).length))).toArray) = W1 at HD3 HG3 ⊢
      rw [show (x.map bv).length = nn by rw [List.length_map, Hx.out.2]]
      have hsz3 := HD3.size
      have hfz3 := HD3.free 137
      have H3 := hid (And.intro HD3 HG3)
      clear HD3 HG3 hsz hsl
      by_cases hful : r + nn = 64
      · have hdec : (((N : Int) + (nn : Int)) % 64 == 0) = true := by have := Hh.out; rw [beq_iff_eq]; omega
        go_wp2_with fail
        have D4 : DigAt (W1.setCell ⟨g, 137, none⟩ (.int .i64 ((N : Int) + nn))) g (absN L (N / 64)) (b.take r ++ (x ++ b.drop (r + x.length))) (N + nn) := H3.out.1.setSize (N + nn)
        have G4 : wr.grownBy (W1.setCell ⟨g, 137, none⟩ (.int .i64 ((N : Int) + nn))) (some g) := grown_trans H3.out.2 (grownBy_setCell _ _ _ _)
        generalize W1.setCell ⟨g, 137, none⟩ (.int .i64 ((N : Int) + nn)) = W2 at D4 G4 ⊢
        clear hsz3 hfz3 H3 hdec
        have hok := absN_ok L (N / 64)
        obtain ⟨b2, hb2e⟩ : ∃ b2, b2 = b.take r ++ (x ++ b.drop (r + x.length)) := ⟨_, rfl⟩
        rw [← hb2e] at D4
        obtain ⟨h0, hh0⟩ : ∃ h0, h0 = absN L (N / 64) := ⟨_, rfl⟩
        rw [← hh0] at D4 hok
        obtain ⟨s, hs⟩ : ∃ s, s = uponS b2 h0 := ⟨_, rfl⟩
        have He := hid (And.intro hb2e (And.intro hh0 hs))
        clear hb2e hh0 hs
        have k1 := D4.h0
        have k2 := D4.h1
        have k3 := D4.h2
        have k4 := D4.h3
        have k5 := D4.h4
        have k6 := D4.h5
        have k7 := D4.h6
        have k8 := D4.h7
        have D4d : DigAt W2.drew g h0 b2 (N + nn) := D4
        have HD4 := hid D4d
        clear D4d
        have HG4 := hid G4
        clear D4 G4
        go_region_with (go_at_call 35; refine (upon_at s h0 hok b2 He.out.2.2 g 9 g 73 W2.drew HD4.out.1 HD4.out.kc HD4.out.lt (fun j hj => HD4.out.byte j hj) HD4.out.lt).mono ?_; rintro e w5 ⟨rfl, hbel⟩; have HB := hid hbel; have D5 : DigAt w5 g h0 b2 (N + nn) := (HD4.out.to (HB.out.block g HD4.out.lt)); have j1 := D5.h0; have f1 := D5.free 1; have j2 := D5.h1; have f2 := D5.free 2; have j3 := D5.h2; have f3 := D5.free 3; have j4 := D5.h3; have f4 := D5.free 4; have j5 := D5.h4; have f5 := D5.free 5; have j6 := D5.h5; have f6 := D5.free 6; have j7 := D5.h6; have f7 := D5.free 7; have j8 := D5.h7; have f8 := D5.free 8; have HD5 := hid D5; clear hbel D5)
        all_goals
          go_wp2
          go_roundw
          case rel =>
            obtain ⟨hL, hN, hnn, hm, hLl, hrr⟩ := Hh.out
            obtain ⟨e1, e2, e3⟩ := He.out
            have D := HD5.out.setH s
            have GG : wr.grownBy ((((((((w5.setCell ⟨g, 1, none⟩ (.int .u32 (s.a : Nat))).setCell ⟨g, 2, none⟩ (.int .u32 (s.b : Nat))).setCell ⟨g, 3, none⟩ (.int .u32 (s.c : Nat))).setCell ⟨g, 4, none⟩ (.int .u32 (s.d : Nat))).setCell ⟨g, 5, none⟩ (.int .u32 (s.e : Nat))).setCell ⟨g, 6, none⟩ (.int .u32 (s.f : Nat))).setCell ⟨g, 7, none⟩ (.int .u32 (s.g : Nat))).setCell ⟨g, 8, none⟩ (.int .u32 (s.h : Nat))) (some g) :=
              grown_trans (grown_trans (grown_trans (grown_trans (grown_trans (grown_trans (grown_trans (grown_trans (grown_trans HG4.out (grown_trans (grown_drew _ _) (grown_below (some g) HB.out))) (grownBy_setCell _ _ _ _)) (grownBy_setCell _ _ _ _)) (grownBy_setCell _ _ _ _)) (grownBy_setCell _ _ _ _)) (grownBy_setCell _ _ _ _)) (grownBy_setCell _ _ _ _)) (grownBy_setCell _ _ _ _)) (grownBy_setCell _ _ _ _)
            refine ⟨j + nn, A2, c' - nn, by omega, by rw [show n - (j + nn) = m - nn by omega], ?_, ?_, ?_⟩
            · rw [show n - (j + nn) = m - nn by omega, ← List.drop_drop]
              exact (HR.out.cut HA2.out.1 HA2.out.2).grown GG
            · rw [← take_take_drop, ← List.append_assoc, ← hL, ← Hx.out.1]
              have ht := HD2.out
              rw [hN] at ht
              refine dig_next_full L x b HD1.out.1 ht (by rw [← hN, ← hrr, Hx.out.2]; exact hful) ?_
              rw [← hN, ← hrr, ← e1, ← e2, ← e3, Hx.out.2]
              exact D
            · exact grown_trans HG.out GG
          case measure => show m - nn < m; have := Hh.out.2.2.1; omega
      · have hdec : (((N : Int) + (nn : Int)) % 64 == 0) = false := by have := Hh.out; rw [beq_eq_false_iff_ne]; omega
        go_wp2_with fail
        go_roundw
        case rel =>
          obtain ⟨hL, hN, hnn, hm, hLl, hrr⟩ := Hh.out
          have hlt2 : L.length % 64 + x.length < 64 := by rw [← hN, ← hrr, Hx.out.2]; omega
          have D := H3.out.1.setSize (N + nn)
          refine ⟨j + nn, A2, c' - nn, by omega, by rw [show n - (j + nn) = m - nn by omega], ?_, ?_, ?_⟩
          · rw [show n - (j + nn) = m - nn by omega, ← List.drop_drop]
            exact (HR.out.cut HA2.out.1 HA2.out.2).grown (grown_trans H3.out.2 (grownBy_setCell _ _ _ _))
          · rw [← take_take_drop, ← List.append_assoc, ← hL, ← Hx.out.1]
            have ht := HD2.out
            rw [hN] at ht
            refine dig_next_part L x b HD1.out.1 ht hlt2 ?_
            rw [← hN, ← hrr, Hx.out.2]
            rw [Hx.out.2] at D
            exact D
          · exact grown_trans HG.out (grown_trans H3.out.2 (grownBy_setCell _ _ _ _))
        case measure => show m - nn < m; have := Hh.out.2.2.1; omega
    · obtain rfl : j = n := by omega
      go_wp2
      go_ret
      refine ⟨rfl, ?_, hG⟩
      rw [List.take_of_length_le (by rw [hlen.out]; omega)] at hD
      exact hD
end Go.Proofs.Ytnifhgcdpgokhaa
