/-
  The law's examples (written by tools/stage18/gen_awk.py).
-/
import Derived.Test.YtnjknjbffgjelaaDoorSmt
set_option linter.unusedVariables false
set_option linter.unusedSimpArgs false
namespace Go.Proofs.YtnjknjbffgjelaaDoor
open Go.RowKit

def lexF : Nat → Nat → List UInt8 → Except Nat (List (Tk × Nat) × Nat)
  | 0, line, _ => .ok ([], line)
  | _ + 1, line, [] => .ok ([], line)
  | n + 1, line, c :: r => match nx c r with
    | .bad => .error line
    | .skip k nl => lexF n (line + nl) (r.drop k)
    | .tok t k => match lexF n line (r.drop k) with
      | .error e => .error e
      | .ok (l, e) => .ok ((t, line) :: l, e)
theorem row_cell {w : World} {g : Nat} {cs : Array Value} {t : TypeId} {fz : Nat × Nat} (h : w.heap[g]? = some (.cells cs t fz)) (i : Nat) : w.cell? ⟨g, i, none⟩ = cs[i]? := by
  unfold World.cell?
  rw [h]
  rfl
theorem lexF_eq : ∀ (n line : Nat) (b : List UInt8), b.length ≤ n → lexF n line b = lexL line b
  | 0, line, [], _ => (lexL_nil line).symm
  | n + 1, line, [], _ => (lexL_nil line).symm
  | 0, line, c :: r, h => absurd h (by simp)
  | n + 1, line, c :: r, h => by
    rw [lexL_cons]
    show (match nx c r with | .bad => _ | .skip k nl => _ | .tok t k => _) = _
    cases nx c r with
    | bad => rfl
    | skip k nl => exact lexF_eq n _ _ (by rw [List.length_drop]; rw [List.length_cons] at h; omega)
    | tok t k =>
      dsimp only
      rw [lexF_eq n line (r.drop k) (by rw [List.length_drop]; rw [List.length_cons] at h; omega)]
      cases lexL line (r.drop k) with
      | error e => rfl
      | ok q => cases q; rfl
theorem lexR_F (l : List UInt8) (n : Nat) (h : l.length ≤ n) (hn : n ≤ 16384) : lexR l = match lexF n 1 l with
  | .error e => ([], 120, e)
  | .ok (ts, e) => (ts.map tkL ++ [⟨4, [], 0, e⟩], 0, 0) := by
  unfold lexR
  rw [if_neg (by omega), lexF_eq n 1 l h]
  cases lexL 1 l with
  | error e => rfl
  | ok q => cases q; rfl
theorem ex0 : lexR [97, 43, 61, 53] = ([⟨1, [97], 0, 1⟩, ⟨3, [43, 61], 0, 1⟩, ⟨2, [], 5, 1⟩, ⟨4, [], 0, 1⟩], 0, 0) := by
  rw [lexR_F _ 12 (by decide) (by decide)]
  rfl
theorem ex1 : lexR [97, 38, 126, 61, 98, 32, 35, 32, 120, 10, 99] = ([⟨1, [97], 0, 1⟩, ⟨3, [38, 126, 61], 0, 1⟩, ⟨1, [98], 0, 1⟩, ⟨1, [99], 0, 2⟩, ⟨4, [], 0, 2⟩], 0, 0) := by
  rw [lexR_F _ 12 (by decide) (by decide)]
  rfl
theorem ex2 : lexR [97, 32, 38, 32, 98] = ([], 120, 1) := by
  rw [lexR_F _ 12 (by decide) (by decide)]
  rfl
theorem ex3 : lexR [10, 32, 55, 48, 48, 48, 48] = ([], 120, 2) := by
  rw [lexR_F _ 12 (by decide) (by decide)]
  rfl
theorem tok0 (w : World) (hG : SgIs w) : Calls Tryd.prog 5 #[.string ⟨#[97, 43, 61, 53]⟩] w fun e w' => ∃ g c, e = .returned (.tuple #[.slice (some ⟨g, 0, none⟩) 4 c, .agg #[.int .i64 0, .int .i64 0]]) ∧ Hid (TkAt w' g (([⟨1, [97], 0, 1⟩, ⟨3, [43, 61], 0, 1⟩, ⟨2, [], 5, 1⟩, ⟨4, [], 0, 1⟩], 0, 0) : List TD × Nat × Nat).1) ∧ Below w.heap.size w w' := by
  refine (Tokens_any w ⟨#[97, 43, 61, 53]⟩ (by decide) hG).mono ?_
  rintro e w' ⟨A, c, rfl, ho, hb⟩
  rw [show bl ⟨#[97, 43, 61, 53]⟩ = [97, 43, 61, 53] from rfl, ex0] at ho ⊢
  obtain ⟨g, rfl, ht⟩ := own_tk ho rfl (by decide)
  exact ⟨g, c, rfl, ht, hb⟩
theorem tok1 (w : World) (hG : SgIs w) : Calls Tryd.prog 5 #[.string ⟨#[97, 38, 126, 61, 98, 32, 35, 32, 120, 10, 99]⟩] w fun e w' => ∃ g c, e = .returned (.tuple #[.slice (some ⟨g, 0, none⟩) 5 c, .agg #[.int .i64 0, .int .i64 0]]) ∧ Hid (TkAt w' g (([⟨1, [97], 0, 1⟩, ⟨3, [38, 126, 61], 0, 1⟩, ⟨1, [98], 0, 1⟩, ⟨1, [99], 0, 2⟩, ⟨4, [], 0, 2⟩], 0, 0) : List TD × Nat × Nat).1) ∧ Below w.heap.size w w' := by
  refine (Tokens_any w ⟨#[97, 38, 126, 61, 98, 32, 35, 32, 120, 10, 99]⟩ (by decide) hG).mono ?_
  rintro e w' ⟨A, c, rfl, ho, hb⟩
  rw [show bl ⟨#[97, 38, 126, 61, 98, 32, 35, 32, 120, 10, 99]⟩ = [97, 38, 126, 61, 98, 32, 35, 32, 120, 10, 99] from rfl, ex1] at ho ⊢
  obtain ⟨g, rfl, ht⟩ := own_tk ho rfl (by decide)
  exact ⟨g, c, rfl, ht, hb⟩
theorem tok2 (w : World) (hG : SgIs w) : Calls Tryd.prog 5 #[.string ⟨#[97, 32, 38, 32, 98]⟩] w fun e w' => ∃ A c, e = .returned (.tuple #[.slice A 0 c, .agg #[.int .i64 120, .int .i64 1]]) ∧ Below w.heap.size w w' := by
  refine (Tokens_any w ⟨#[97, 32, 38, 32, 98]⟩ (by decide) hG).mono ?_
  rintro e w' ⟨A, c, rfl, ho, hb⟩
  rw [show bl ⟨#[97, 32, 38, 32, 98]⟩ = [97, 32, 38, 32, 98] from rfl, ex2]
  exact ⟨A, c, rfl, hb⟩
theorem tok3 (w : World) (hG : SgIs w) : Calls Tryd.prog 5 #[.string ⟨#[10, 32, 55, 48, 48, 48, 48]⟩] w fun e w' => ∃ A c, e = .returned (.tuple #[.slice A 0 c, .agg #[.int .i64 120, .int .i64 2]]) ∧ Below w.heap.size w w' := by
  refine (Tokens_any w ⟨#[10, 32, 55, 48, 48, 48, 48]⟩ (by decide) hG).mono ?_
  rintro e w' ⟨A, c, rfl, ho, hb⟩
  rw [show bl ⟨#[10, 32, 55, 48, 48, 48, 48]⟩ = [10, 32, 55, 48, 48, 48, 48] from rfl, ex3]
  exact ⟨A, c, rfl, hb⟩
structure F25 (V : World) (g : Nat) (a b : Int) : Prop where
  row : V.heap[g]? = some (.cells #[.int .i64 a, .int .i64 b] 25 (0, 0))
theorem F25.below {V W : World} {g : Nat} {a b : Int} (h : F25 V g a b) (k : Below V.heap.size V W) : F25 W g a b := ⟨(k.block _ (lt_of_heap h.row)).trans h.row⟩
set_option maxRecDepth 10000 in
set_option maxHeartbeats 8000000 in
theorem awake_any (w : World) (hG : SgIs w) : Calls Tryd.prog 8 #[] w fun e w' => e = .returned (.bool true) ∧ Below w.heap.size w w' := by
  have zf := zero25
  have HG := hid (fun V (b : Below w.heap.size w V) => hG.below b)
  have HT0 := hid (tok0 w hG)
  clear hG
  go_enter Tryd.func8, Tryd.ntmps8
  go_upto_region 2 with (go_at_call 5; refine HT0.out.mono ?_; rintro e W1 ⟨g1, c1, rfl, t1, b1⟩)
  have B1 := hid (bel_trans b1 (bel_a W1 (.cells #[.int .i64 0, .int .i64 0] 25)))
  have T1 := hid (t1.out.below (bel_a W1 (.cells #[.int .i64 0, .int .i64 0] 25)))
  have F1 : Hid (F25 (W1.alloc (.cells #[.int .i64 0, .int .i64 0] 25)) W1.heap.size 0 0) := hid ⟨heap_alloc_new _ _⟩
  generalize W1.alloc _ = V1 at *
  generalize W1.heap.size = f1 at *
  clear b1 t1 HT0
  have HT1 := hid (tok1 V1 (HG.out V1 B1.out))
  go_upto_region 3 with (go_at_call 5; refine HT1.out.mono ?_; rintro e W2 ⟨g2, c2, rfl, t2, b2⟩)
  have K2 := hid (bel_trans b2 (bel_a W2 (.cells #[.int .i64 0, .int .i64 0] 25)))
  have T2 := hid (t2.out.below (bel_a W2 (.cells #[.int .i64 0, .int .i64 0] 25)))
  have F2 : Hid (F25 (W2.alloc (.cells #[.int .i64 0, .int .i64 0] 25)) W2.heap.size 0 0) := hid ⟨heap_alloc_new _ _⟩
  generalize W2.alloc _ = V2 at *
  generalize W2.heap.size = f2 at *
  have B2 := hid (bel_trans B1.out K2.out)
  have F1b := hid (F1.out.below K2.out)
  have T1b := hid (T1.out.below K2.out)
  clear b2 t2 HT1 F1 T1 B1 K2
  have HT2 := hid (tok2 V2 (HG.out V2 B2.out))
  go_upto_region 4 with (go_at_call 5; refine HT2.out.mono ?_; rintro e W3 ⟨g3, c3, rfl, b3⟩)
  have K3 := hid (bel_trans b3 (bel_a W3 (.cells #[.int .i64 120, .int .i64 1] 25)))
  have F3 : Hid (F25 (W3.alloc (.cells #[.int .i64 120, .int .i64 1] 25)) W3.heap.size 120 1) := hid ⟨heap_alloc_new _ _⟩
  generalize W3.alloc _ = V3 at *
  generalize W3.heap.size = f3 at *
  have B3 := hid (bel_trans B2.out K3.out)
  have F1c := hid (F1b.out.below K3.out)
  have F2c := hid (F2.out.below K3.out)
  have T1c := hid (T1b.out.below K3.out)
  have T2c := hid (T2.out.below K3.out)
  clear b3 HT2 F1b F2 T1b T2 B2 K3
  have HT3 := hid (tok3 V3 (HG.out V3 B3.out))
  go_upto_region 5 with (go_at_call 5; refine HT3.out.mono ?_; rintro e W4 ⟨g4, c4, rfl, b4⟩)
  have K4 := hid (bel_trans b4 (bel_a W4 (.cells #[.int .i64 120, .int .i64 2] 25)))
  have F4 : Hid (F25 (W4.alloc (.cells #[.int .i64 120, .int .i64 2] 25)) W4.heap.size 120 2) := hid ⟨heap_alloc_new _ _⟩
  generalize W4.alloc _ = V4 at *
  generalize W4.heap.size = f4 at *
  have B4 := hid (bel_trans B3.out K4.out)
  have r1 := row_cell (F1c.out.below K4.out).row 0
  have r2 := row_cell (F2c.out.below K4.out).row 0
  have r30 := row_cell (F3.out.below K4.out).row 0
  have r31 := row_cell (F3.out.below K4.out).row 1
  have r40 := row_cell F4.out.row 0
  have r41 := row_cell F4.out.row 1
  have x1 : V4.cell? ⟨g1, 5, none⟩ = some (.string ⟨#[43, 61]⟩) := (T1c.out.below K4.out) 1 (by decide) 1 (by decide)
  have x2 : V4.cell? ⟨g1, 10, none⟩ = some (.int .i64 5) := (T1c.out.below K4.out) 2 (by decide) 2 (by decide)
  have x3 : V4.cell? ⟨g1, 12, none⟩ = some (.int .u8 4) := (T1c.out.below K4.out) 3 (by decide) 0 (by decide)
  have x4 : V4.cell? ⟨g2, 5, none⟩ = some (.string ⟨#[38, 126, 61]⟩) := (T2c.out.below K4.out) 1 (by decide) 1 (by decide)
  have x5 : V4.cell? ⟨g2, 15, none⟩ = some (.int .i64 2) := (T2c.out.below K4.out) 3 (by decide) 3 (by decide)
  clear b4 HT3 F1c F2c F3 F4 T1c T2c B3 K4 HG
  go_wp2_with fail
  go_ret
  exact ⟨rfl, B4.out⟩
end Go.Proofs.YtnjknjbffgjelaaDoor
