/-
  Which cells of a part a kind has: the program's 'fields'.
-/
import Derived.Test.YtnanmdfbgoahjaaPto
import Derived.Test.YtnanmdfbgoahjaaMdg
import Derived.Deep.RegionWith
import Derived.Deep.CutRange
namespace Go.Proofs.Ytnanmdfbgoahjaa
open Go.RowKit

def fieldC (b o : Nat) (f : Nat × Nat × Nat) : List Value := [.pointer (some ⟨b, o + f.1, none⟩), .int .i64 (f.2.1 : Nat), .int .i64 (f.2.2 : Nat)]
/-- A field in block x. -/
structure FRow (w : World) (x b o i y m : Nat) : Prop where
  c0 : w.cell? ⟨x, 0, none⟩ = some (.pointer (some ⟨b, o + i, none⟩))
  c1 : w.cell? ⟨x, 1, none⟩ = some (.int .i64 (y : Nat))
  c2 : w.cell? ⟨x, 2, none⟩ = some (.int .i64 (m : Nat))
  lt : x < w.heap.size
theorem FRow.on {w w' : World} {x b o i y m : Nat} (h : FRow w x b o i y m) (k : Below w.heap.size w w') : FRow w' x b o i y m :=
  ⟨(k.cell (p := ⟨x, 0, none⟩) h.lt).trans h.c0, (k.cell (p := ⟨x, 1, none⟩) h.lt).trans h.c1, (k.cell (p := ⟨x, 2, none⟩) h.lt).trans h.c2, Nat.lt_of_lt_of_le h.lt k.size⟩
theorem frow_new (w : World) (b o i : Nat) (y m : Int) (y' m' : Nat) (hy : y = (y' : Int)) (hm : m = (m' : Int)) : FRow (w.alloc (.cells #[.pointer (some ⟨b, o + i, none⟩), .int .i64 y, .int .i64 m] 50)) w.heap.size b o i y' m' := by
  subst hy hm
  have h := heap_alloc_new w (.cells #[.pointer (some ⟨b, o + i, none⟩), .int .i64 (y' : Int), .int .i64 (m' : Int)] 50)
  exact ⟨row_cell h 0, row_cell h 1, row_cell h 2, by simp⟩
theorem FRow.alloc {w : World} {x b o i y m : Nat} (h : FRow w x b o i y m) (q : Obj) : FRow (w.alloc q) x b o i y m := h.on ((Below.refl _ w).alloc (Nat.le_refl _) q)
theorem FRow.drew {w : World} {x b o i y m : Nat} (h : FRow w x b o i y m) : FRow w.drew x b o i y m := ⟨h.c0, h.c1, h.c2, h.lt⟩
theorem size_al (w : World) (q : Obj) : (w.alloc q).heap.size = w.heap.size + 1 := by simp
theorem frow_new2 (w : World) (q1 : Obj) (b o i : Nat) (y m : Int) (y' m' : Nat) (hy : y = (y' : Int)) (hm : m = (m' : Int)) : FRow ((w.alloc q1).alloc (.cells #[.pointer (some ⟨b, o + i, none⟩), .int .i64 y, .int .i64 m] 50)) (w.heap.size + 1) b o i y' m' := by
  have h := frow_new (w.alloc q1) b o i y m y' m' hy hm
  rwa [size_al] at h
theorem frow_new3 (w : World) (q1 q2 : Obj) (b o i : Nat) (y m : Int) (y' m' : Nat) (hy : y = (y' : Int)) (hm : m = (m' : Int)) : FRow (((w.alloc q1).alloc q2).alloc (.cells #[.pointer (some ⟨b, o + i, none⟩), .int .i64 y, .int .i64 m] 50)) (w.heap.size + 1 + 1) b o i y' m' := by
  have h := frow_new2 (w.alloc q1) q2 b o i y m y' m' hy hm
  rwa [size_al] at h
theorem frow_new4 (w : World) (q1 q2 q3 : Obj) (b o i : Nat) (y m : Int) (y' m' : Nat) (hy : y = (y' : Int)) (hm : m = (m' : Int)) : FRow ((((w.alloc q1).alloc q2).alloc q3).alloc (.cells #[.pointer (some ⟨b, o + i, none⟩), .int .i64 y, .int .i64 m] 50)) (w.heap.size + 1 + 1 + 1) b o i y' m' := by
  have h := frow_new3 (w.alloc q1) q2 q3 b o i y m y' m' hy hm
  rwa [size_al] at h
/-- The fields of a list L, of the part at ⟨b, o⟩, in memory. -/
structure FlAt (w : World) (b o : Nat) (A : Option Addr) (c : Nat) (L : List (Nat × Nat × Nat)) : Prop where
  cap : L.length ≤ c
  small : c ≤ 4
  nil : L = [] → A = none
  some : L ≠ [] → ∃ g, A = some ⟨g, 0, none⟩ ∧ w.heap[g]? = some (.cells (L.flatMap (fieldC b o)).toArray 50 (0, 0))
theorem bel4 (w : World) (a b c d : Obj) : Below w.heap.size w ((((w.alloc a).alloc b).alloc c).alloc d) := bel_alloc (bel_alloc (bel_alloc (bel_alloc (Below.refl _ _))))
theorem flat_new (W : World) (b o : Nat) (L : List (Nat × Nat × Nat)) (cs : Array Value) (hc : cs = (L.flatMap (fieldC b o)).toArray) : (W.alloc (.cells cs 50)).heap[W.heap.size]? = some (.cells (L.flatMap (fieldC b o)).toArray 50 (0, 0)) := by
  subst hc; exact heap_alloc_new W _
set_option maxRecDepth 10000 in
set_option maxHeartbeats 8000000 in
theorem flds_any (b o k : Nat) (w : World) (c0 : w.cell? ⟨b, o, none⟩ = some (.int .u8 k)) (hk : k < 256) :
    Calls Try.prog 19 #[.pointer (some ⟨b, o, none⟩)] w fun e w' => ∃ A c, e = .returned (.slice A (fldL k).length c) ∧ FlAt w' b o A c (fldL k) ∧ Below w.heap.size w w' := by
  have hlt : b < w.heap.size := lt_cell c0
  go_enter Try.func19, Try.ntmps19
  go_upto_region 1 with fail
  go_cut [3, 4, 5, 6] from 9 to 24 (fun v3 v4 v5 v6 wx => ∃ x3 x4 x5 x6, v3 = .pointer (some ⟨x3, 0, none⟩) ∧ v4 = .pointer (some ⟨x4, 0, none⟩) ∧ v5 = .pointer (some ⟨x5, 0, none⟩) ∧ v6 = .pointer (some ⟨x6, 0, none⟩) ∧
    FRow wx x3 b o 1 1 0 ∧ FRow wx x4 b o 2 1 0 ∧ FRow wx x5 b o 3 1 0 ∧ FRow wx x6 b o 5 1 0 ∧ Below w.heap.size w wx)
  case first =>
    go_region
    all_goals
      go_wp2_with fail
      go_meet
      refine ⟨_, _, _, _, rfl, rfl, rfl, rfl, ?_, ?_, ?_, ?_, (bel4 w _ _ _ _).drew⟩
    all_goals
      refine FRow.drew ?_
      first
      | exact frow_new4 _ _ _ _ _ _ _ _ _ _ _ rfl rfl
      | exact (frow_new3 _ _ _ _ _ _ _ _ _ _ rfl rfl).alloc _
      | exact ((frow_new2 _ _ _ _ _ _ _ _ _ rfl rfl).alloc _).alloc _
      | exact (((frow_new _ _ _ _ _ _ _ _ rfl rfl).alloc _).alloc _).alloc _
  case rest =>
    obtain ⟨x3, x4, x5, x6, rfl, rfl, rfl, rfl, r3, r4, r5, r6, hb⟩ := hcut
    have c1 := (hb.cell (p := ⟨b, o, none⟩) hlt).trans c0
    have hl2 : b < wc.heap.size := Nat.lt_of_lt_of_le hlt hb.size
    have HB := hid hb
    clear c0 hb hlt
    rename_i W0
    go_upto_region 2 with fail
    go_cut [7, 8] from 25 to 32 (fun v7 v8 wx => ∃ x7 x8, v7 = .pointer (some ⟨x7, 0, none⟩) ∧ v8 = .pointer (some ⟨x8, 0, none⟩) ∧ FRow wx x7 b o 4 2 2048 ∧ FRow wx x8 b o 6 2 0 ∧ Below wc.heap.size wc wx)
    case first =>
      go_region
      all_goals
        go_wp2_with fail
        go_meet
        refine ⟨_, _, rfl, rfl, ?_, ?_, (bel_alloc (bel_alloc (Below.refl _ _))).drew⟩
      all_goals
        refine FRow.drew ?_
        first
        | exact frow_new2 _ _ _ _ _ _ _ _ _ rfl rfl
        | exact (frow_new _ _ _ _ _ _ _ _ rfl rfl).alloc _
    case rest =>
      obtain ⟨x7, x8, rfl, rfl, r7, r8, hb2⟩ := hcut
      have d1 := (hb2.cell (p := ⟨b, o, none⟩) hl2).trans c1
      obtain ⟨a30, a31, a32, _⟩ := r3.on hb2
      obtain ⟨a40, a41, a42, _⟩ := r4.on hb2
      obtain ⟨a50, a51, a52, _⟩ := r5.on hb2
      obtain ⟨a60, a61, a62, _⟩ := r6.on hb2
      obtain ⟨a70, a71, a72, _⟩ := r7
      obtain ⟨a80, a81, a82, _⟩ := r8
      have HF := hid (bel_trans HB.out hb2)
      clear c1 r3 r4 r5 r6 hb2 HB hl2
      rcases (by omega : k = 1 ∨ k = 2 ∨ k = 3 ∨ k = 4 ∨ k = 5 ∨ k = 6 ∨ k = 7 ∨ k = 8 ∨ k = 9 ∨ (k ≠ 1 ∧ k ≠ 2 ∧ k ≠ 3 ∧ k ≠ 4 ∧ k ≠ 5 ∧ k ≠ 6 ∧ k ≠ 7 ∧ k ≠ 8 ∧ k ≠ 9)) with h | h | h | h | h | h | h | h | h | ⟨h1, h2, h3, h4, h5, h6, h7, h8, h9⟩
      · subst h
        rw [show ((1 : Nat) : Int) = 1 from rfl] at d1
        clear hk
        go_wp2_with fail
        go_ret
        exact ⟨_, _, rfl, ⟨by decide, by decide, fun h => absurd h (by decide), fun _ => ⟨_, rfl, flat_new _ _ _ _ _ rfl⟩⟩, HF.out.alloc HF.out.size _⟩
      · subst h
        rw [show ((2 : Nat) : Int) = 2 from rfl] at d1
        clear hk
        go_wp2_with fail
        go_ret
        exact ⟨_, _, rfl, ⟨by decide, by decide, fun h => absurd h (by decide), fun _ => ⟨_, rfl, flat_new _ _ _ _ _ rfl⟩⟩, HF.out.alloc HF.out.size _⟩
      · subst h
        rw [show ((3 : Nat) : Int) = 3 from rfl] at d1
        clear hk
        go_wp2_with fail
        go_ret
        exact ⟨_, _, rfl, ⟨by decide, by decide, fun h => absurd h (by decide), fun _ => ⟨_, rfl, flat_new _ _ _ _ _ rfl⟩⟩, HF.out.alloc HF.out.size _⟩
      · subst h
        rw [show ((4 : Nat) : Int) = 4 from rfl] at d1
        clear hk
        go_wp2_with fail
        go_ret
        exact ⟨_, _, rfl, ⟨by decide, by decide, fun h => absurd h (by decide), fun _ => ⟨_, rfl, flat_new _ _ _ _ _ rfl⟩⟩, HF.out.alloc HF.out.size _⟩
      · subst h
        rw [show ((5 : Nat) : Int) = 5 from rfl] at d1
        clear hk
        go_wp2_with fail
        go_ret
        exact ⟨_, _, rfl, ⟨by decide, by decide, fun h => absurd h (by decide), fun _ => ⟨_, rfl, flat_new _ _ _ _ _ rfl⟩⟩, HF.out.alloc HF.out.size _⟩
      · subst h
        rw [show ((6 : Nat) : Int) = 6 from rfl] at d1
        clear hk
        go_wp2_with fail
        go_ret
        exact ⟨_, _, rfl, ⟨by decide, by decide, fun h => absurd h (by decide), fun _ => ⟨_, rfl, flat_new _ _ _ _ _ rfl⟩⟩, HF.out.alloc HF.out.size _⟩
      · subst h
        rw [show ((7 : Nat) : Int) = 7 from rfl] at d1
        clear hk
        go_wp2_with fail
        go_ret
        exact ⟨_, _, rfl, ⟨by decide, by decide, fun h => absurd h (by decide), fun _ => ⟨_, rfl, flat_new _ _ _ _ _ rfl⟩⟩, HF.out.alloc HF.out.size _⟩
      · subst h
        rw [show ((8 : Nat) : Int) = 8 from rfl] at d1
        clear hk
        go_wp2_with fail
        go_ret
        exact ⟨_, _, rfl, ⟨by decide, by decide, fun h => absurd h (by decide), fun _ => ⟨_, rfl, flat_new _ _ _ _ _ rfl⟩⟩, HF.out.alloc HF.out.size _⟩
      · subst h
        rw [show ((9 : Nat) : Int) = 9 from rfl] at d1
        clear hk
        go_wp2_with fail
        go_ret
        exact ⟨_, _, rfl, ⟨by decide, by decide, fun h => absurd h (by decide), fun _ => ⟨_, rfl, flat_new _ _ _ _ _ rfl⟩⟩, HF.out.alloc HF.out.size _⟩
      · have hf : fldL k = [] := by
          unfold fldL
          rw [if_neg h1, if_neg h2, if_neg (by omega), if_neg h5, if_neg (by omega), if_neg h8, if_neg h9]
        have n1 : ¬ (k : Int) = 1 := by omega
        have n2 : ¬ (k : Int) = 2 := by omega
        have n3 : ¬ (k : Int) = 3 := by omega
        have n4 : ¬ (k : Int) = 4 := by omega
        have n5 : ¬ (k : Int) = 5 := by omega
        have n6 : ¬ (k : Int) = 6 := by omega
        have n7 : ¬ (k : Int) = 7 := by omega
        have n8 : ¬ (k : Int) = 8 := by omega
        have n9 : ¬ (k : Int) = 9 := by omega
        have b1 : ((k : Int) == 1) = false := beq_eq_false_iff_ne.2 n1
        have b2 : ((k : Int) == 2) = false := beq_eq_false_iff_ne.2 n2
        have b3 : ((k : Int) == 3) = false := beq_eq_false_iff_ne.2 n3
        have b4 : ((k : Int) == 4) = false := beq_eq_false_iff_ne.2 n4
        have b5 : ((k : Int) == 5) = false := beq_eq_false_iff_ne.2 n5
        have b6 : ((k : Int) == 6) = false := beq_eq_false_iff_ne.2 n6
        have b7 : ((k : Int) == 7) = false := beq_eq_false_iff_ne.2 n7
        have b8 : ((k : Int) == 8) = false := beq_eq_false_iff_ne.2 n8
        have b9 : ((k : Int) == 9) = false := beq_eq_false_iff_ne.2 n9
        have HL := hid hf
        clear hf h1 h2 h3 h4 h5 h6 h7 h8 h9 hk
        go_wp2_with fail
        go_ret
        rw [HL.out]
        exact ⟨_, _, rfl, ⟨Nat.le_refl _, by decide, fun _ => rfl, fun h => absurd rfl h⟩, HF.out⟩
end Go.Proofs.Ytnanmdfbgoahjaa
