/-
  The document's Encoder: New, Put, End.
-/
import Derived.Test.YtbgbacajgaeooaaRte
import Derived.Test.YtbgbacajgaeooaaEnd
namespace Go.Proofs.Ytbgbacajgaeooaa
open Go.RowKit

theorem cells28 (x0 x1 : Value) : (Try.prog.info? 28).map (·.size) = some (#[x0, x1] : Array Value).size := by
  show _ = some 2
  kernel_rfl
set_option maxRecDepth 10000 in
set_option maxHeartbeats 1000000 in
theorem RNew_any (w : World) : Calls Try.prog 9 #[] w fun r w' => r = .returned (.agg #[.int .u64 0, .int .u64 4294967295]) ∧ Below w.heap.size w w' := by
  go_enter Try.func9, Try.ntmps9
  go_wp2_with fail
  refine bodyPost_ret (results_cell_row (by kernel_rfl : Try.f9.results = #[.cell 0 28]) _ _ w.heap.size 28 #[.int .u64 0, .int .u64 4294967295] (0, 0) _ rfl (heap_alloc_new w _) Try.underlying28 rfl (cells28 _ _)) rfl ⟨rfl, ?_⟩
  exact (Below.refl _ w).alloc (Nat.le_refl _) _
theorem rc2 (x y x' y' : Nat) (F : Value) : cs2 (rcells x y F) x' y' = rcells x' y' F := rfl
set_option maxRecDepth 10000 in
set_option maxHeartbeats 1000000 in
theorem RPut_good {B : Nat} {S : Nat → Prop} {w : World} {g x y : Nat} {F : Value} {l : List UInt8} (h : Ob B S w g 32 (rcells x y) F l) (hv : IvOk x y) (hl : l.length < 65536) (bit : Bool) (p : Nat) (h1 : 1 ≤ p) (h2 : p ≤ 65535) :
    Calls Try.prog 11 #[.pointer (some ⟨g, 0, none⟩), .int .i64 (if bit then 1 else 0), .int .i64 (p : Nat)] w fun r w' => r = .returned (.int .i64 0) ∧ ∃ S' F', Ob B S' w' g 32 (rcells (put1 x y p bit).2.1 (put1 x y p bit).2.2) F' (l ++ (put1 x y p bit).1) ∧ Stp S S' w w' := by
  have HT := hid (Take_any g x y p (if bit then 1 else 0) bit 0 w 32 (rcells x y F) h.row rfl rfl hv h1 h2 (.inr rfl))
  have c3 : w.cell? ⟨g, 2, none⟩ = some F := row_cell h.row 2
  obtain ⟨A, c, rfl⟩ := own_sl h.ff
  have hl' : decide ((65536 : Int) ≤ (l.length : Int)) = false := by simp only [decide_eq_false_iff_not]; omega
  have p1 : decide ((p : Int) < 1) = false := by simp only [decide_eq_false_iff_not]; omega
  have p2 : decide ((65535 : Int) < (p : Int)) = false := by simp only [decide_eq_false_iff_not]; omega
  have HS : Hid (∀ w1 v1, Tk w w1 g 32 (rcells x y (.slice A l.length c)) (put1 x y p bit).2.1 (put1 x y p bit).2.2 v1 (put1 x y p bit).1 →
      w1.cell? ⟨g, 2, none⟩ = some (.slice A l.length c) ∧ w1.ownsRow 0 5 1 (.slice A l.length c) l.length (l.map bv) ∧ ∃ A1 c1, v1 = .slice A1 (put1 x y p bit).1.length c1 ∧ IsB w1 A1 (put1 x y p bit).1.length c1 (put1 x y p bit).1 ∧
      ∀ A2 c2 W2, Apd w1 W2 (.slice A l.length c) (.slice A2 (l.length + (put1 x y p bit).1.length) c2) (l.length + (put1 x y p bit).1.length) ((l ++ (put1 x y p bit).1).map bv) →
        (∃ u, W2.cell? ⟨g, 2, none⟩ = some u) ∧ W2.frozen? ⟨g, 2, none⟩ = false ∧ ∃ S' F', Ob B S' (W2.setCell ⟨g, 2, none⟩ (.slice A2 (l.length + (put1 x y p bit).1.length) c2)) g 32 (rcells (put1 x y p bit).2.1 (put1 x y p bit).2.2) F' (l ++ (put1 x y p bit).1) ∧ Stp S S' w (W2.setCell ⟨g, 2, none⟩ (.slice A2 (l.length + (put1 x y p bit).1.length) c2))) := by
    intro w1 v1 hT
    obtain ⟨A1, c1, rfl⟩ := hT.sl
    have ho : Ob B S w1 g 32 (rcells (put1 x y p bit).2.1 (put1 x y p bit).2.2) (.slice A l.length c) l := h.turn hT.but hT.row
    refine ⟨row_cell ho.row 2, ho.ff, A1, c1, rfl, (own_isB2 hT.own (by have := shd_len 4 (took x y p bit).1 (took x y p bit).2; unfold put1; omega)).toIsB, ?_⟩
    intro A2 c2 W2 ha
    have hF := own_gne ho.ff ho.row ho.t5
    have hgF : some g ≠ Value.ownBlock (.slice A l.length c) := fun e => hF g e.symm rfl
    have hr2 := (ha.grown.block g (lt_of_heap ho.row) hgF).trans ho.row
    obtain ⟨h3, s3⟩ := ho.appd (F' := .slice A2 (l.length + (put1 x y p bit).1.length) c2) (l2 := (put1 x y p bit).1) 2 _ rfl (by rw [List.length_append]) ha
    exact ⟨⟨_, row_cell hr2 2⟩, row_free hr2 2, _, _, h3, (Stp.of_but (h.butg hT.but)).trans s3⟩
  have hll := hid hl
  have hln := hid (shd_len 4 (took x y p bit).1 (took x y p bit).2)
  clear h hv hl h1 h2
  obtain ⟨L, hL⟩ : ∃ L, L = put1 x y p bit := ⟨_, rfl⟩
  rw [show shd 4 (took x y p bit).1 (took x y p bit).2 = put1 x y p bit from rfl, ← hL] at hln
  rw [← hL] at HT HS ⊢
  clear hL
  cases bit <;> simp only [Bool.false_eq_true, if_false, if_true] at HT ⊢
  all_goals
    go_enter Try.func11, Try.ntmps11
    go_wp2_with (first
      | (go_at_call 31; refine HT.out.mono ?_; rintro r w1 ⟨v1, rfl, hT⟩; obtain ⟨c31, o31, A1, c1, rfl, hI1, hG⟩ := HS.out w1 v1 hT; have HO := hid o31; have HI := hid hI1; have HG := hid hG; clear hT o31 hI1 hG)
      | (at_builtin; go_loud (refine wpList_append_ap rfl (.tmp 42) (.tmp 43) rfl (.slice A l.length c) l.length l rfl HO.out A1 _ c1 L.1 rfl HI.out (by have := hll.out; have := hln.out; omega) ?_); intro A2 c2 W2 hA2; obtain ⟨⟨u3, c32⟩, f32, hfin⟩ := HG.out A2 c2 W2 hA2.out; have HF := hid hfin; clear hfin))
    go_ret
    refine ⟨rfl, ?_⟩
    first | exact HF.out | (obtain ⟨S', F', k1, k2⟩ := HF.out; exact ⟨_, ⟨_, k1⟩, k2⟩)
set_option maxRecDepth 10000 in
set_option maxHeartbeats 1000000 in
theorem RPut_arg (a : Addr) (w : World) (bit p : Int) (hb : ¬ (bit = 0 ∨ bit = 1) ∨ ¬ (1 ≤ p ∧ p ≤ 65535)) :
    Calls Try.prog 11 #[.pointer (some a), .int .i64 bit, .int .i64 p] w fun r w' => r = .returned (.int .i64 2) ∧ w = w' := by
  by_cases h0 : bit = 0 ∨ bit = 1
  · have hp : ¬ (1 ≤ p ∧ p ≤ 65535) := by rcases hb with hb | hb; exact absurd h0 hb; exact hb
    clear hb
    rcases h0 with rfl | rfl
    all_goals
      by_cases p1 : p < 1
      · clear hp
        go_enter Try.func11, Try.ntmps11
        go_wp2_with fail
        go_ret
        exact ⟨rfl, rfl⟩
      · have p3 : 1 ≤ p := by omega
        have p2 : 65535 < p := by omega
        clear hp p1
        go_enter Try.func11, Try.ntmps11
        go_wp2_with fail
        go_ret
        exact ⟨rfl, rfl⟩
  · have h1 : (bit != 0) = true := by simp only [bne_iff_ne, ne_eq]; omega
    have h2 : (bit != 1) = true := by simp only [bne_iff_ne, ne_eq]; omega
    clear hb h0
    go_enter Try.func11, Try.ntmps11
    go_wp2_with fail
    go_ret
    exact ⟨rfl, rfl⟩
set_option maxRecDepth 10000 in
set_option maxHeartbeats 1000000 in
theorem RPut_long {B : Nat} {S : Nat → Prop} {w : World} {g x y : Nat} {F : Value} {l : List UInt8} (h : Ob B S w g 32 (rcells x y) F l) (hl : 65536 ≤ l.length) (bit p : Int) (hb : bit = 0 ∨ bit = 1) (hp : 1 ≤ p ∧ p ≤ 65535) :
    Calls Try.prog 11 #[.pointer (some ⟨g, 0, none⟩), .int .i64 bit, .int .i64 p] w fun r w' => r = .returned (.int .i64 3) ∧ w = w' := by
  have c2 : w.cell? ⟨g, 2, none⟩ = some F := row_cell h.row 2
  obtain ⟨A, c, rfl⟩ := own_sl h.ff
  have hl' : decide ((65536 : Int) ≤ (l.length : Int)) = true := decide_eq_true (by omega)
  have p1 : decide (p < 1) = false := decide_eq_false (by omega)
  have p2 : decide (65535 < p) = false := decide_eq_false (by omega)
  clear h hp hl
  rcases hb with rfl | rfl
  all_goals
    go_enter Try.func11, Try.ntmps11
    go_wp2_with fail
    go_ret
    exact ⟨rfl, rfl⟩
end Go.Proofs.Ytbgbacajgaeooaa
