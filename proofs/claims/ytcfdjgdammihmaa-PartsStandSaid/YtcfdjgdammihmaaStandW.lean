/-
  The walk of PartsStand: what is right leans on earlier parts alone, and so does each beginning of it.
-/
import Derived.Test.YtcfdjgdammihmaaTellsW
namespace Go.Proofs.Ytcfdjgdammihmaa
open Go.RowKit

set_option maxRecDepth 10000 in
set_option maxHeartbeats 4000000 in
theorem stand_any (A : Option Addr) (n c : Nat) (L : List Pt) (w : World) (h : IsP w w.heap.size A n c L) :
    Calls Try.prog 4 #[.slice A n c] w fun e w' => e = .returned (.bool true) ∧ Below w.heap.size w w' := by
  have hm := h.max
  have hcp := h.cap
  have hlen := h.len
  unfold maxLen at hm
  by_cases hn : 5000 < n
  · have hz : (5000 : Int) < (n : Int) := by omega
    clear h
    go_enter Try.func4, Try.ntmps4
    go_wp2_with fail
    refine (awake_any _).mono ?_
    rintro e w7 ⟨rfl, b7⟩
    go_wp2_with fail
    go_ret
    exact ⟨rfl, b7⟩
  have hz : ¬ (5000 : Int) < (n : Int) := by omega
  have HI := hid h
  have R1 := hid (Right_any A n c L w h)
  by_cases hr : rightP L = 0
  · rw [hr] at R1
    have HR := hid hr
    have hok := (rightP_ok L).1 hr
    have n1 : (1 : Int) ≤ (n : Int) := by omega
    have n2 : (n : Int) ≤ 16 := by omega
    have HO := hid hok
    have RM := hid (fun A c w (h : IsP w w.heap.size A n c L) => Memory_any A n c L w h (by omega))
    clear h hr hok
    go_enter Try.func4, Try.ntmps4
    go_wp2_with fail
    refine R1.out.mono ?_
    rintro e w1 ⟨rfl, b1⟩
    have B1 := hid b1
    clear b1
    go_wp2_with fail
    go_loopw [3, 17] (fun vo vi wr => ∃ i : Nat, i ≤ n ∧ vi = .int .i64 i ∧ vo = .int .i64 (memP (L.take i)) ∧ Below w.heap.size w wr) (fun _ vi _ => n - (intOf vi).toNat)
    case atStart => exact ⟨0, Nat.zero_le _, rfl, rfl, B1.out⟩
    case round =>
      obtain ⟨i, hi, rfl, rfl, hw⟩ := hrel
      by_cases hgo : i < n
      · have hzi : (i : Int) < (n : Int) := by omega
        obtain ⟨ad, p, rfl, hl, hp, a1⟩ := HI.out.at i hgo
        obtain ⟨k0, k1, k2, k3, k4, k5, k6⟩ := a1.below hw (by rw [block_of_add]; exact hl)
        have hL : i < L.length := by rw [hlen]; exact hgo
        have hpe : L[i] = p := by
          rw [List.getElem?_eq_getElem hL] at hp
          injection hp
        have HT : Hid (memP (L.take (i + 1)) = memP (L.take i) + plI p.kind p.size p.b) := by
          unfold Hid
          rw [memP_succ L i hL, places_plI, hpe]
        have hone : p.one (i : Nat) := by rw [← hpe]; exact HO.out.2.1 i hL
        have hlean := one_leans p _ hone
        have hmr := memP_range (L.take i)
        rw [List.length_take] at hmr
        have hpr := places_i p
        have HP := hid (fun w => places_any p.kind p.size p.a p.b p.c p.rate p.limit w)
        unfold vP at HP
        have HTk := hid (rightP_take L HR.out (i + 1) (by omega))
        have R2 : Hid (∀ w', Below w.heap.size w w' → Calls Try.prog 7 #[.slice (some ad) (i + 1) c] w' fun e w'' => e = .returned (.int .i64 0) ∧ Below w'.heap.size w' w'') := by
          intro w' hb
          have := Right_any (some ad) (i + 1) c (L.take (i + 1)) w' ((HI.out.later hb).take (i + 1) (by omega))
          rw [HTk.out] at this
          exact this
        obtain ⟨S, hS⟩ : ∃ S, memP (L.take i) = S := ⟨_, rfl⟩
        obtain ⟨q, hq⟩ : ∃ q, plI p.kind p.size p.b = q := ⟨_, rfl⟩
        rw [hq] at HP HT hpr
        rw [hS] at HT hmr ⊢
        obtain ⟨T, hT⟩ : ∃ T, memP (L.take (i + 1)) = T := ⟨_, rfl⟩
        rw [hT] at HT
        have HT2 := hid hT
        have s1 : S ≤ 700000000 := by omega
        have s0 := hmr.1
        have q0 := hpr.1
        have q1 := hpr.2
        have hic : (i : Int) + 1 ≤ (c : Int) := by omega
        have HL := hid hlean
        clear hp a1 hS hq hT hmr hpr hone hpe hlean
        go_wp2_with fail
        refine (HP.out _).mono ?_
        rintro e w2 ⟨rfl, b2⟩
        have P2 := hid ((boxed wr p.kind p.size p.a p.b p.c p.rate p.limit).below b2)
        have B2 : Below w.heap.size w w2 := hw.trans (Below.mono (bel_alloc b2) hw.size)
        clear b2 k0 k1 k2 k3 k4 k5 k6
        go_wp2_with fail
        refine (R2.out _ B2).mono ?_
        rintro e w3 ⟨rfl, b3⟩
        have B3 := hid (B2.trans (b3.mono B2.size))
        have P3 := P2.out.below b3
        obtain ⟨c0, c1, c2, c3, c4, c5, c6⟩ := P3
        clear b3 P2 B2 hw
        rcases HL.out with hk | ⟨hk, x1, x2, x3⟩ | ⟨hk, x1, x2, x3, x4⟩
        · rcases hk with hk | hk | hk | hk
          all_goals
            rw [hk] at c0
            clear HL hk HP
            go_wp2_with fail
            go_roundw
            case rel => exact ⟨i + 1, by omega, by go_num, by rw [HT2.out, HT.out], B3.out⟩
            case measure => simp [intOf]; omega
        · rw [hk] at c0
          clear HL hk HP
          obtain ⟨t, ht⟩ : ∃ t, p.a + p.b = t := ⟨_, rfl⟩
          have t1 : t ≤ (i : Int) := by omega
          have t2 : IntKind.i64.wrap t = t := IntWalk.i64_in _ (by omega)
          go_wp2_with fail
          go_roundw
          case rel => exact ⟨i + 1, by omega, by go_num, by rw [HT2.out, HT.out], B3.out⟩
          case measure => simp [intOf]; omega
        · rcases hk with hk | hk | hk | hk
          all_goals
            rw [hk] at c0
            clear HL hk HP
            go_wp2_with fail
            go_roundw
            case rel => exact ⟨i + 1, by omega, by go_num, by rw [HT2.out, HT.out], B3.out⟩
            case measure => simp [intOf]; omega
      · obtain rfl : i = n := by omega
        have hL : L.take i = L := List.take_of_length_le (by rw [hlen]; exact Nat.le_refl _)
        have hI := hid (HI.out.later hw)
        rw [hL]
        obtain ⟨S, hS⟩ : ∃ S, memP L = S := ⟨_, rfl⟩
        have hS2 := HO.out.2.2
        rw [hS] at RM hS2 ⊢
        clear hS
        go_wp2_with fail
        refine (RM.out _ _ _ hI.out).mono ?_
        rintro e w2 ⟨rfl, b2⟩
        have B2 := hid (hw.trans (b2.mono hw.size))
        go_wp2_with fail
        refine (awake_any _).mono ?_
        rintro e w7 ⟨rfl, b7⟩
        go_wp2_with fail
        go_ret
        exact ⟨rfl, bel_trans B2.out b7⟩
  · obtain ⟨q, hq⟩ : ∃ q, rightP L = q := ⟨_, rfl⟩
    rw [hq] at R1 hr
    clear hq h
    go_enter Try.func4, Try.ntmps4
    go_wp2_with fail
    refine R1.out.mono ?_
    rintro e w1 ⟨rfl, b1⟩
    have B1 := hid b1
    clear b1
    go_wp2_with fail
    refine (awake_any _).mono ?_
    rintro e w7 ⟨rfl, b7⟩
    go_wp2_with fail
    go_ret
    exact ⟨rfl, bel_trans B1.out b7⟩
end Go.Proofs.Ytcfdjgdammihmaa
