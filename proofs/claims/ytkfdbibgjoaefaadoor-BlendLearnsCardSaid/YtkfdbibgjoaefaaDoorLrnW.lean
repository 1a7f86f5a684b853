/-
  BlendLearns' walk.
-/
import Derived.Test.YtkfdbibgjoaefaaDoorAw
namespace Go.Proofs.YtkfdbibgjoaefaaDoor
open Go.RowKit

set_option maxRecDepth 10000 in
set_option maxHeartbeats 1000000 in
theorem pick11 (n : Int) (_h : -9223372036854775808 ≤ n ∧ n ≤ 9223372036854775807) (w : World) : Calls Tryd.prog 15 #[.int .i64 n, .int .i64 11] w fun e w' => ∃ k : Nat, k ≤ 10 ∧ e = .returned (.int .i64 (k : Nat)) ∧ w = w' := by
  have h1 := Int.emod_nonneg n (show (11 : Int) ≠ 0 from by decide)
  have h2 := Int.emod_lt_of_pos n (show (0 : Int) < 11 from by decide)
  obtain ⟨r, hr⟩ : ∃ r, Int.tmod n 11 = r := ⟨_, rfl⟩
  have e3 : -11 < r ∧ r < 11 := by
    rw [← hr]
    have := Int.lt_tmod_of_pos n (b := 11) (by decide)
    have := Int.tmod_lt_of_pos n (b := 11) (by decide)
    omega
  have hw : IntKind.i64.wrap r = r := IntWalk.i64_in _ (by omega)
  have hw2 : IntKind.i64.wrap (r + 11) = r + 11 := IntWalk.i64_in _ (by omega)
  go_enter Tryd.func15, Tryd.ntmps15
  by_cases h0 : r < 0
  · go_wp2_with fail
    go_ret
    exact ⟨(r + 11).toNat, by omega, by rw [show (((r + 11).toNat : Nat) : Int) = r + 11 from by omega]; rfl, rfl⟩
  · go_wp2_with fail
    go_ret
    exact ⟨r.toNat, by omega, by rw [show ((r.toNat : Nat) : Int) = r from by omega]; rfl, rfl⟩
theorem same_whole (one : Bool) (b : Bl) : ∀ n, (same one b n).whole ≤ b.whole + n
  | 0 => Nat.le_refl _
  | n + 1 => by
    have h := same_whole one b n
    have : ((same one b n).learn one).whole ≤ (same one b n).whole + 1 := by
      unfold Bl.learn
      split
      · exact Nat.le_refl _
      · exact Nat.le_succ _
    show ((same one b n).learn one).whole ≤ _
    omega
def pC (icm : Bool) (k : Nat) : Pt := if icm then ⟨3, k, 0, 0, 0, 0, 0⟩ else ⟨2, k, 0, 0, 0, 0, 255⟩
theorem rC : ∀ k : Fin 11, rightP [pC true k.val] = 0 ∧ rightP [pC false k.val] = 0 := by decide +kernel
theorem rC_at (icm : Bool) (k : Nat) (h : k ≤ 10) : rightP [pC icm k] = 0 := by
  have := rC ⟨k, by omega⟩
  cases icm
  · exact this.2
  · exact this.1
theorem kC (icm : Bool) (k : Nat) : ∀ p ∈ [pC icm k], Kind p.kind := fun p hp => by
  rw [List.mem_singleton] at hp
  rw [hp]
  cases icm
  · exact kind2
  · exact kind3
theorem sure (icm one : Bool) (k : Nat) (h : k ≤ 10) : if one then 60000 < (same one (Bl.new [pC icm k]) 1600).guess else (same one (Bl.new [pC icm k]) 1600).guess < 5000 := by
  cases icm
  · exact cm_sure (pC false k) one rfl rfl ⟨by show (0 : Int) ≤ (k : Int); omega, by show (k : Int) ≤ 16; omega⟩
  · exact ic_sure (pC true k) one rfl ⟨by show (0 : Int) ≤ (k : Int); omega, by show (k : Int) ≤ 16; omega⟩
def rowC (icm : Bool) (k : Nat) : Array Value := #[.int .u8 (if icm then 3 else 2), .int .i64 k, .int .i64 0, .int .i64 0, .int .i64 0, .int .i64 0, .int .i64 (if icm then 0 else 255)]
theorem rowC_cells (icm : Bool) (k : Nat) : (rowC icm k).toList = [pC icm k].flatMap cellsP := by cases icm <;> rfl
set_option maxRecDepth 10000 in
set_option maxHeartbeats 2000000 in
theorem learns_true_true (n : Int) (hn : -9223372036854775808 ≤ n ∧ n ≤ 9223372036854775807) (w : World) (kn : KnIs w) : Calls Tryd.prog 5 #[.int .i64 n, .bool true, .bool true] w fun e w' => e = .returned (.bool true) ∧ Below w.heap.size w w' := by
  have w0 := kn_pos kn
  have HP := hid (pick11 n hn w)
  have HN : Hid (∀ k W o bk, k ≤ 10 → bk = W.heap.size → o = Obj.cells (rowC true k) 48 → KnIs W → Below w.heap.size w W → Calls Tryd.prog 13 #[.slice (some ⟨bk, 0, none⟩) 1 1] (W.alloc o) fun e w' => ∃ g, e = .returned (.tuple #[.pointer (some ⟨g, 0, none⟩), .int .i64 0]) ∧
      ∃ F, On w w' F g (Bl.new [pC true k])) := hid fun k W o bk hk hbk ho kW b => by
    subst ho
    subst hbk
    have b1 : Below W.heap.size W (W.alloc (Obj.cells (rowC true k) 48)) := (Below.refl _ _).alloc (Nat.le_refl _) _
    refine (On.new (w0 := w) (isP_row [pC true k] (heap_alloc_new W _) (rowC_cells true k) 1 rfl (by omega)) (rC_at true k hk) (kW.below b1) (b.trans (b1.mono b.size)) w0 (kC true k)).mono ?_
    rintro e w' ⟨g, rfl, o, _⟩
    exact ⟨g, rfl, _, o⟩
  have KN := hid kn
  clear kn
  go_enter Tryd.func5, Tryd.ntmps5
  go_wp2_with fail
  refine HP.out.mono ?_
  rintro e w1 ⟨k, hk, rfl, rfl⟩
  go_wp2_with fail
  refine (HN.out k _ _ _ hk (by simp) rfl (KN.out.below ((Below.refl _ _).alloc (Nat.le_refl _) _)) ((Below.refl _ _).alloc (Nat.le_refl _) _)).mono ?_
  rintro e w2 ⟨g, rfl, F, o2⟩
  have HS := hid (sure true true k hk)
  have HW := hid (same_whole true (Bl.new [pC true k]))
  generalize hb0 : Bl.new [pC true k] = b0 at *
  have hw0 : b0.whole = 0 := by rw [← hb0]; rfl
  have O2 := hid o2
  clear o2 HN HP hb0
  go_wp2_with fail
  go_loopw [11] (fun vi wr => ∃ i : Nat, i ≤ 1600 ∧ vi = .int .i64 i ∧ On w wr F g (same true b0 i)) (fun vi _ => 1600 - (intOf vi).toNat)
  case atStart => exact ⟨0, Nat.zero_le _, rfl, O2.out⟩
  case round =>
    obtain ⟨i, hi, rfl, o⟩ := hrel
    by_cases hgo : i < 1600
    · have hz : (i : Int) < 1600 := by omega
      have q := o.learn true (by have := HW.out i; omega)
      rw [if_pos rfl] at q
      unfold pt at q
      have Q := hid q
      clear q o
      go_wp2_with fail
      refine Q.out.mono ?_
      rintro e w3 ⟨rfl, o3⟩
      have O3 := hid o3
      clear o3
      go_wp2_with fail
      go_roundw
      case rel => exact ⟨i + 1, by omega, by go_num, O3.out⟩
      case measure => simp [intOf]; omega
    · have hi2 : i = 1600 := by omega
      have hz : ¬ (i : Int) < 1600 := by omega
      have hs := HS.out
      rw [if_pos trivial, ← hi2] at hs
      have q := o.guess
      generalize (same true b0 i).guess = gs at q hs
      have z1 : (60000 : Int) < gs := hs
      unfold pt at q
      have Q := hid q
      clear q o hi2 hs
      go_wp2_with fail
      refine Q.out.mono ?_
      rintro e w3 ⟨rfl, o3⟩
      have O3 := hid o3
      clear o3
      go_wp2_with fail
      refine (awake_any w3 O3.out.kn).mono ?_
      rintro e w4 ⟨rfl, b4⟩
      go_wp2_with fail
      go_ret
      exact ⟨rfl, O3.out.bel.trans (b4.mono O3.out.bel.size)⟩
set_option maxRecDepth 10000 in
set_option maxHeartbeats 2000000 in
theorem learns_true_false (n : Int) (hn : -9223372036854775808 ≤ n ∧ n ≤ 9223372036854775807) (w : World) (kn : KnIs w) : Calls Tryd.prog 5 #[.int .i64 n, .bool true, .bool false] w fun e w' => e = .returned (.bool true) ∧ Below w.heap.size w w' := by
  have w0 := kn_pos kn
  have HP := hid (pick11 n hn w)
  have HN : Hid (∀ k W o bk, k ≤ 10 → bk = W.heap.size → o = Obj.cells (rowC true k) 48 → KnIs W → Below w.heap.size w W → Calls Tryd.prog 13 #[.slice (some ⟨bk, 0, none⟩) 1 1] (W.alloc o) fun e w' => ∃ g, e = .returned (.tuple #[.pointer (some ⟨g, 0, none⟩), .int .i64 0]) ∧
      ∃ F, On w w' F g (Bl.new [pC true k])) := hid fun k W o bk hk hbk ho kW b => by
    subst ho
    subst hbk
    have b1 : Below W.heap.size W (W.alloc (Obj.cells (rowC true k) 48)) := (Below.refl _ _).alloc (Nat.le_refl _) _
    refine (On.new (w0 := w) (isP_row [pC true k] (heap_alloc_new W _) (rowC_cells true k) 1 rfl (by omega)) (rC_at true k hk) (kW.below b1) (b.trans (b1.mono b.size)) w0 (kC true k)).mono ?_
    rintro e w' ⟨g, rfl, o, _⟩
    exact ⟨g, rfl, _, o⟩
  have KN := hid kn
  clear kn
  go_enter Tryd.func5, Tryd.ntmps5
  go_wp2_with fail
  refine HP.out.mono ?_
  rintro e w1 ⟨k, hk, rfl, rfl⟩
  go_wp2_with fail
  refine (HN.out k _ _ _ hk (by simp) rfl (KN.out.below ((Below.refl _ _).alloc (Nat.le_refl _) _)) ((Below.refl _ _).alloc (Nat.le_refl _) _)).mono ?_
  rintro e w2 ⟨g, rfl, F, o2⟩
  have HS := hid (sure true false k hk)
  have HW := hid (same_whole false (Bl.new [pC true k]))
  generalize hb0 : Bl.new [pC true k] = b0 at *
  have hw0 : b0.whole = 0 := by rw [← hb0]; rfl
  have O2 := hid o2
  clear o2 HN HP hb0
  go_wp2_with fail
  go_loopw [11] (fun vi wr => ∃ i : Nat, i ≤ 1600 ∧ vi = .int .i64 i ∧ On w wr F g (same false b0 i)) (fun vi _ => 1600 - (intOf vi).toNat)
  case atStart => exact ⟨0, Nat.zero_le _, rfl, O2.out⟩
  case round =>
    obtain ⟨i, hi, rfl, o⟩ := hrel
    by_cases hgo : i < 1600
    · have hz : (i : Int) < 1600 := by omega
      have q := o.learn false (by have := HW.out i; omega)
      rw [if_neg (by decide)] at q
      unfold pt at q
      have Q := hid q
      clear q o
      go_wp2_with fail
      refine Q.out.mono ?_
      rintro e w3 ⟨rfl, o3⟩
      have O3 := hid o3
      clear o3
      go_wp2_with fail
      go_roundw
      case rel => exact ⟨i + 1, by omega, by go_num, O3.out⟩
      case measure => simp [intOf]; omega
    · have hi2 : i = 1600 := by omega
      have hz : ¬ (i : Int) < 1600 := by omega
      have hs := HS.out
      rw [if_neg (by decide), ← hi2] at hs
      have q := o.guess
      generalize (same false b0 i).guess = gs at q hs
      have z1 : gs < 5000 := hs
      unfold pt at q
      have Q := hid q
      clear q o hi2 hs
      go_wp2_with fail
      refine Q.out.mono ?_
      rintro e w3 ⟨rfl, o3⟩
      have O3 := hid o3
      clear o3
      go_wp2_with fail
      refine (awake_any w3 O3.out.kn).mono ?_
      rintro e w4 ⟨rfl, b4⟩
      go_wp2_with fail
      go_ret
      exact ⟨rfl, O3.out.bel.trans (b4.mono O3.out.bel.size)⟩
set_option maxRecDepth 10000 in
set_option maxHeartbeats 2000000 in
theorem learns_false_true (n : Int) (hn : -9223372036854775808 ≤ n ∧ n ≤ 9223372036854775807) (w : World) (kn : KnIs w) : Calls Tryd.prog 5 #[.int .i64 n, .bool false, .bool true] w fun e w' => e = .returned (.bool true) ∧ Below w.heap.size w w' := by
  have w0 := kn_pos kn
  have HP := hid (pick11 n hn w)
  have HN : Hid (∀ k W o bk, k ≤ 10 → bk = W.heap.size → o = Obj.cells (rowC false k) 48 → KnIs W → Below w.heap.size w W → Calls Tryd.prog 13 #[.slice (some ⟨bk, 0, none⟩) 1 1] (W.alloc o) fun e w' => ∃ g, e = .returned (.tuple #[.pointer (some ⟨g, 0, none⟩), .int .i64 0]) ∧
      ∃ F, On w w' F g (Bl.new [pC false k])) := hid fun k W o bk hk hbk ho kW b => by
    subst ho
    subst hbk
    have b1 : Below W.heap.size W (W.alloc (Obj.cells (rowC false k) 48)) := (Below.refl _ _).alloc (Nat.le_refl _) _
    refine (On.new (w0 := w) (isP_row [pC false k] (heap_alloc_new W _) (rowC_cells false k) 1 rfl (by omega)) (rC_at false k hk) (kW.below b1) (b.trans (b1.mono b.size)) w0 (kC false k)).mono ?_
    rintro e w' ⟨g, rfl, o, _⟩
    exact ⟨g, rfl, _, o⟩
  have KN := hid kn
  clear kn
  go_enter Tryd.func5, Tryd.ntmps5
  go_wp2_with fail
  refine HP.out.mono ?_
  rintro e w1 ⟨k, hk, rfl, rfl⟩
  go_wp2_with fail
  refine (HN.out k _ _ _ hk (by simp) rfl (KN.out.below ((Below.refl _ _).alloc (Nat.le_refl _) _)) ((Below.refl _ _).alloc (Nat.le_refl _) _)).mono ?_
  rintro e w2 ⟨g, rfl, F, o2⟩
  have HS := hid (sure false true k hk)
  have HW := hid (same_whole true (Bl.new [pC false k]))
  generalize hb0 : Bl.new [pC false k] = b0 at *
  have hw0 : b0.whole = 0 := by rw [← hb0]; rfl
  have O2 := hid o2
  clear o2 HN HP hb0
  go_wp2_with fail
  go_loopw [11] (fun vi wr => ∃ i : Nat, i ≤ 1600 ∧ vi = .int .i64 i ∧ On w wr F g (same true b0 i)) (fun vi _ => 1600 - (intOf vi).toNat)
  case atStart => exact ⟨0, Nat.zero_le _, rfl, O2.out⟩
  case round =>
    obtain ⟨i, hi, rfl, o⟩ := hrel
    by_cases hgo : i < 1600
    · have hz : (i : Int) < 1600 := by omega
      have q := o.learn true (by have := HW.out i; omega)
      rw [if_pos rfl] at q
      unfold pt at q
      have Q := hid q
      clear q o
      go_wp2_with fail
      refine Q.out.mono ?_
      rintro e w3 ⟨rfl, o3⟩
      have O3 := hid o3
      clear o3
      go_wp2_with fail
      go_roundw
      case rel => exact ⟨i + 1, by omega, by go_num, O3.out⟩
      case measure => simp [intOf]; omega
    · have hi2 : i = 1600 := by omega
      have hz : ¬ (i : Int) < 1600 := by omega
      have hs := HS.out
      rw [if_pos trivial, ← hi2] at hs
      have q := o.guess
      generalize (same true b0 i).guess = gs at q hs
      have z1 : (60000 : Int) < gs := hs
      unfold pt at q
      have Q := hid q
      clear q o hi2 hs
      go_wp2_with fail
      refine Q.out.mono ?_
      rintro e w3 ⟨rfl, o3⟩
      have O3 := hid o3
      clear o3
      go_wp2_with fail
      refine (awake_any w3 O3.out.kn).mono ?_
      rintro e w4 ⟨rfl, b4⟩
      go_wp2_with fail
      go_ret
      exact ⟨rfl, O3.out.bel.trans (b4.mono O3.out.bel.size)⟩
set_option maxRecDepth 10000 in
set_option maxHeartbeats 2000000 in
theorem learns_false_false (n : Int) (hn : -9223372036854775808 ≤ n ∧ n ≤ 9223372036854775807) (w : World) (kn : KnIs w) : Calls Tryd.prog 5 #[.int .i64 n, .bool false, .bool false] w fun e w' => e = .returned (.bool true) ∧ Below w.heap.size w w' := by
  have w0 := kn_pos kn
  have HP := hid (pick11 n hn w)
  have HN : Hid (∀ k W o bk, k ≤ 10 → bk = W.heap.size → o = Obj.cells (rowC false k) 48 → KnIs W → Below w.heap.size w W → Calls Tryd.prog 13 #[.slice (some ⟨bk, 0, none⟩) 1 1] (W.alloc o) fun e w' => ∃ g, e = .returned (.tuple #[.pointer (some ⟨g, 0, none⟩), .int .i64 0]) ∧
      ∃ F, On w w' F g (Bl.new [pC false k])) := hid fun k W o bk hk hbk ho kW b => by
    subst ho
    subst hbk
    have b1 : Below W.heap.size W (W.alloc (Obj.cells (rowC false k) 48)) := (Below.refl _ _).alloc (Nat.le_refl _) _
    refine (On.new (w0 := w) (isP_row [pC false k] (heap_alloc_new W _) (rowC_cells false k) 1 rfl (by omega)) (rC_at false k hk) (kW.below b1) (b.trans (b1.mono b.size)) w0 (kC false k)).mono ?_
    rintro e w' ⟨g, rfl, o, _⟩
    exact ⟨g, rfl, _, o⟩
  have KN := hid kn
  clear kn
  go_enter Tryd.func5, Tryd.ntmps5
  go_wp2_with fail
  refine HP.out.mono ?_
  rintro e w1 ⟨k, hk, rfl, rfl⟩
  go_wp2_with fail
  refine (HN.out k _ _ _ hk (by simp) rfl (KN.out.below ((Below.refl _ _).alloc (Nat.le_refl _) _)) ((Below.refl _ _).alloc (Nat.le_refl _) _)).mono ?_
  rintro e w2 ⟨g, rfl, F, o2⟩
  have HS := hid (sure false false k hk)
  have HW := hid (same_whole false (Bl.new [pC false k]))
  generalize hb0 : Bl.new [pC false k] = b0 at *
  have hw0 : b0.whole = 0 := by rw [← hb0]; rfl
  have O2 := hid o2
  clear o2 HN HP hb0
  go_wp2_with fail
  go_loopw [11] (fun vi wr => ∃ i : Nat, i ≤ 1600 ∧ vi = .int .i64 i ∧ On w wr F g (same false b0 i)) (fun vi _ => 1600 - (intOf vi).toNat)
  case atStart => exact ⟨0, Nat.zero_le _, rfl, O2.out⟩
  case round =>
    obtain ⟨i, hi, rfl, o⟩ := hrel
    by_cases hgo : i < 1600
    · have hz : (i : Int) < 1600 := by omega
      have q := o.learn false (by have := HW.out i; omega)
      rw [if_neg (by decide)] at q
      unfold pt at q
      have Q := hid q
      clear q o
      go_wp2_with fail
      refine Q.out.mono ?_
      rintro e w3 ⟨rfl, o3⟩
      have O3 := hid o3
      clear o3
      go_wp2_with fail
      go_roundw
      case rel => exact ⟨i + 1, by omega, by go_num, O3.out⟩
      case measure => simp [intOf]; omega
    · have hi2 : i = 1600 := by omega
      have hz : ¬ (i : Int) < 1600 := by omega
      have hs := HS.out
      rw [if_neg (by decide), ← hi2] at hs
      have q := o.guess
      generalize (same false b0 i).guess = gs at q hs
      have z1 : gs < 5000 := hs
      unfold pt at q
      have Q := hid q
      clear q o hi2 hs
      go_wp2_with fail
      refine Q.out.mono ?_
      rintro e w3 ⟨rfl, o3⟩
      have O3 := hid o3
      clear o3
      go_wp2_with fail
      refine (awake_any w3 O3.out.kn).mono ?_
      rintro e w4 ⟨rfl, b4⟩
      go_wp2_with fail
      go_ret
      exact ⟨rfl, O3.out.bel.trans (b4.mono O3.out.bel.size)⟩
theorem learns_any (n : Int) (hn : -9223372036854775808 ≤ n ∧ n ≤ 9223372036854775807) (icm one : Bool) (w : World) (kn : KnIs w) : Calls Tryd.prog 5 #[.int .i64 n, .bool icm, .bool one] w fun e w' => e = .returned (.bool true) ∧ Below w.heap.size w w' := by
  cases icm
  · cases one
    · exact learns_false_false n hn w kn
    · exact learns_false_true n hn w kn
  · cases one
    · exact learns_true_false n hn w kn
    · exact learns_true_true n hn w kn
end Go.Proofs.YtkfdbibgjoaefaaDoor
