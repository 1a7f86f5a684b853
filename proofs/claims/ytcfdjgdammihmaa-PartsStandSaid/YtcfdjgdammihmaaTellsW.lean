/-
  The walk of PartsTell: which parts may be, how much memory they need; the examples hold.
-/
import Derived.Test.YtcfdjgdammihmaaAwk
import Derived.Deep.RegionHeld3
namespace Go.Proofs.Ytcfdjgdammihmaa
open Go.RowKit

theorem At7.of {w : World} {x : Addr} {p : Pt} (h : At7 w x p) : w.cell? x = some (.int .u8 p.kind) ∧ w.cell? ⟨x.block, x.off + 1, none⟩ = some (.int .i64 p.size) ∧ w.cell? ⟨x.block, x.off + 2, none⟩ = some (.int .i64 p.a) ∧ w.cell? ⟨x.block, x.off + 3, none⟩ = some (.int .i64 p.b) ∧ w.cell? ⟨x.block, x.off + 4, none⟩ = some (.int .i64 p.c) ∧ w.cell? ⟨x.block, x.off + 5, none⟩ = some (.int .i64 p.rate) ∧ w.cell? ⟨x.block, x.off + 6, none⟩ = some (.int .i64 p.limit) :=
  ⟨h.c0, h.c1, h.c2, h.c3, h.c4, h.c5, h.c6⟩
theorem IsP.up {w : World} {B B' : Nat} {A : Option Addr} {n c : Nat} {L : List Pt} (h : IsP w B A n c L) (hB : B ≤ B') : IsP w B' A n c L :=
  ⟨h.len, h.cap, h.max, fun h0 => by
    obtain ⟨ad, e, hl, ha⟩ := h.lies h0
    exact ⟨ad, e, Nat.lt_of_lt_of_le hl hB, ha⟩⟩
set_option maxRecDepth 10000 in
set_option maxHeartbeats 4000000 in
theorem tells_any (A : Option Addr) (n c : Nat) (L : List Pt) (w : World) (h : IsP w w.heap.size A n c L) :
    Calls Try.prog 3 #[.slice A n c] w fun e w' => e = .returned (.bool true) ∧ Below w.heap.size w w' := by
  have hm := h.max
  have hcp := h.cap
  unfold maxLen at hm
  by_cases hn : 5000 < n
  · have hz : (5000 : Int) < (n : Int) := by omega
    clear h
    go_enter Try.func3, Try.ntmps3
    go_wp2_with fail
    refine (awake_any _).mono ?_
    rintro e w7 ⟨rfl, b7⟩
    go_wp2_with fail
    go_ret
    exact ⟨rfl, b7⟩
  have hz : ¬ (5000 : Int) < (n : Int) := by omega
  have R1 := hid (fun A c w (h : IsP w w.heap.size A n c L) => Right_any A n c L w h)
  have R2 := hid (fun A c w (h : IsP w w.heap.size A n c L) => refRight_any A n c L w h)
  have R3 := hid (fun A c w (h : IsP w w.heap.size A n c L) => Memory_any A n c L w h (by omega))
  have R4 := hid (fun A c w (h : IsP w w.heap.size A n c L) => refMemory_any A n c L w h (by omega))
  generalize rightP L = q at R1 R2
  generalize memP L = u at R3 R4
  have HI := hid h
  clear h
  go_enter Try.func3, Try.ntmps3
  go_wp2_with fail
  refine (CopyParts_any A n c L w HI.out (by omega)).mono ?_
  rintro e w1 ⟨A', c', rfl, i1, _, b1⟩
  have I1 := hid i1
  have hc' := i1.cap
  have B1 := hid b1
  clear i1 b1
  go_wp2_with fail
  refine (R1.out _ _ _ I1.out).mono ?_
  rintro e w2 ⟨rfl, b2⟩
  have C2 := hid b2
  clear b2
  go_wp2_with fail
  refine (R2.out _ _ _ (HI.out.later (bel_trans B1.out C2.out))).mono ?_
  rintro e w3 ⟨rfl, b3⟩
  have C3 := hid (bel_trans C2.out b3)
  clear b3
  go_wp2_with fail
  refine (R3.out _ _ _ (I1.out.later C3.out)).mono ?_
  rintro e w4 ⟨rfl, b4⟩
  have C4 := hid (bel_trans C3.out b4)
  clear b4
  go_wp2_with fail
  refine (R4.out _ _ _ (HI.out.later (bel_trans B1.out C4.out))).mono ?_
  rintro e w5 ⟨rfl, b5⟩
  have C5 := hid (bel_trans C4.out b5)
  clear b5
  go_wp2_with fail
  refine (SameParts_any A' c' A c n L w5 (I1.out.later C5.out) (HI.out.later (bel_trans B1.out C5.out))).mono ?_
  rintro e w6 ⟨rfl, j, rfl⟩
  have C6 : Hid (Below w.heap.size w (w5.drewN j)) := bel_trans (bel_trans B1.out C5.out) (Below.drewN _ _ _)
  obtain ⟨w6, hw6⟩ : ∃ w6, w6 = w5.drewN j := ⟨_, rfl⟩
  rw [← hw6] at C6 ⊢
  clear hw6 R1 R2 R3 R4 C2 C3 C4 C5 I1 B1
  go_wp2_with fail
  go_loopw [31] (fun vi wr => ∃ i : Nat, i ≤ n ∧ vi = .int .i64 i ∧ Below w.heap.size w wr) (fun vi _ => n - (intOf vi).toNat)
  case atStart => exact ⟨0, Nat.zero_le _, rfl, C6.out⟩
  case round =>
    obtain ⟨i, hi, rfl, hw⟩ := hrel
    by_cases hgo : i < n
    · have hzi : (i : Int) < (n : Int) := by omega
      obtain ⟨ad, p, rfl, hl, hp, a1⟩ := HI.out.at i hgo
      have a2 := hid (((a1.below hw (by rw [block_of_add]; exact hl)).below (Below.refl _ wr).drew (B := wr.heap.size) (by rw [block_of_add]; have := hw.size; omega)))
      have hbl : (ad.add (i * 7)).block < wr.heap.size := by rw [block_of_add]; have := hw.size; omega
      have HB := hid hbl
      have HW := hid hw
      have P1 := hid (fun w => places_any p.kind p.size p.a p.b p.c p.rate p.limit w)
      have P2 := hid (fun w => refPlaces_any p.kind p.size p.a p.b p.c p.rate p.limit w)
      unfold vP at P1 P2
      obtain ⟨Q, hQ⟩ : ∃ Q, plI p.kind p.size p.b = Q := ⟨_, rfl⟩
      rw [hQ] at P1 P2
      clear hQ a1 hp hbl hw
      go_wp2_with fail
      go_region_held3 (fun w' => w'.cell? (ad.add (i * 7)) = some (.int .u8 p.kind) ∧ w'.cell? ⟨(ad.add (i * 7)).block, (ad.add (i * 7)).off + 1, none⟩ = some (.int .i64 p.size) ∧ w'.cell? ⟨(ad.add (i * 7)).block, (ad.add (i * 7)).off + 2, none⟩ = some (.int .i64 p.a) ∧ w'.cell? ⟨(ad.add (i * 7)).block, (ad.add (i * 7)).off + 3, none⟩ = some (.int .i64 p.b) ∧ w'.cell? ⟨(ad.add (i * 7)).block, (ad.add (i * 7)).off + 4, none⟩ = some (.int .i64 p.c) ∧ w'.cell? ⟨(ad.add (i * 7)).block, (ad.add (i * 7)).off + 5, none⟩ = some (.int .i64 p.rate) ∧ w'.cell? ⟨(ad.add (i * 7)).block, (ad.add (i * 7)).off + 6, none⟩ = some (.int .i64 p.limit)) (first | exact q3.out | exact q2.out | exact q1.out | exact a2.out.of | go_keep)
        (first
        | (go_at_call 12; (with_reducible refine (P1.out wr.drew).mono ?_); rintro e wa ⟨rfl, ba⟩; have A1 := hid (a2.out.below ba HB.out); have q1 := hid A1.out.of; have Ba := hid ba; clear ba)
        | (go_at_call 13; (with_reducible refine (P2.out wr.drew).mono ?_); rintro e wb ⟨rfl, bb⟩; have A2 := hid (a2.out.below bb HB.out); have q2 := hid A2.out.of; have Bb := hid bb; clear bb)
        | (go_at_call 13; (with_reducible refine (P2.out wa).mono ?_); rintro e wc ⟨rfl, bc⟩; have q3 := hid (A1.out.below bc (Nat.lt_of_lt_of_le HB.out Ba.out.size)).of; have Bf := hid (bel_trans Ba.out bc); clear bc)
        | (go_at_call 12; (with_reducible refine (P1.out wb).mono ?_); rintro e wc ⟨rfl, bc⟩; have q3 := hid (A2.out.below bc (Nat.lt_of_lt_of_le HB.out Bb.out.size)).of; have Bf := hid (bel_trans Bb.out bc); clear bc))
      all_goals
        have B9 : Below w.heap.size w wc := HW.out.trans (Below.mono (w := wr) (w' := wc) ((Below.refl _ wr).drew.trans Bf.out) HW.out.size)
        go_wp2_with fail
        go_roundw
        case rel => exact ⟨i + 1, by omega, by go_num, B9⟩
        case measure => simp [intOf]; omega
    · obtain rfl : i = n := by omega
      go_wp2_with fail
      refine (awake_any _).mono ?_
      rintro e w7 ⟨rfl, b7⟩
      go_wp2_with fail
      go_ret
      exact ⟨rfl, hw.trans (b7.mono hw.size)⟩
end Go.Proofs.Ytcfdjgdammihmaa
