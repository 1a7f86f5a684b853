/-
  The contract of Holds.
-/
import Derived.Test.YtaogileaeflnfaaDow
import Derived.Test.YtaogileaeflnfaaDoc
set_option linter.unusedVariables false
set_option linter.unusedSimpArgs false
namespace Go.Proofs.Ytaogileaeflnfaa
open Go.RowKit

/-- What Holds tells. -/
def holdsM (o d s n : Int) (x : Mn) : Bool := if (19 ≤ o ∧ o ≤ 21) ∧ okI o d s n ∧ x.ok then cmpM o s n x else false
structure Hl2 (w W : World) (x : Mn) (AH : Option Addr) (nH cH : Nat) (AM : Option Addr) (nM cM : Nat) (o d s n : Int) : Prop where
  m : MR W (w.heap.size + 1) x AH nH cH AM nM cM
  box : W.heap[w.heap.size]? = some (.cells #[.int .u8 o, .int .i64 d, .int .i64 s, .int .i64 n] 24 (0, 0))
  bel : Below w.heap.size w W
section
variable {w W V : World} {x : Mn} {AH AM : Option Addr} {nH cH nM cM : Nat} {o d s n : Int}
theorem Hl2.start (h : U.IsBB w w.heap.size AH nH cH x.h) (hm : IsBB w w.heap.size AM nM cM x.m) (o d s n : Int) : Hl2 w ((w.alloc (.cells #[.int .u8 o, .int .i64 d, .int .i64 s, .int .i64 n] 24)).alloc (.cells (mcL x (.slice AH nH cH) (.slice AM nM cM)).toArray 30)) x AH nH cH AM nM cM o d s n := by
  have hz : (w.alloc (.cells #[.int .u8 o, .int .i64 d, .int .i64 s, .int .i64 n] 24)).heap.size = w.heap.size + 1 := by simp
  have h0 := heap_alloc_new w (.cells #[.int .u8 o, .int .i64 d, .int .i64 s, .int .i64 n] 24)
  have h1 := heap_alloc_new (w.alloc (.cells #[.int .u8 o, .int .i64 d, .int .i64 s, .int .i64 n] 24)) (.cells (mcL x (.slice AH nH cH) (.slice AM nM cM)).toArray 30)
  rw [hz] at h1
  have b : Below w.heap.size w ((w.alloc (.cells #[.int .u8 o, .int .i64 d, .int .i64 s, .int .i64 n] 24)).alloc (.cells (mcL x (.slice AH nH cH) (.slice AM nM cM)).toArray 30)) := ((Below.refl _ w).alloc (Nat.le_refl _) _).alloc (by rw [hz]; omega) _
  exact ⟨⟨h1, h.on b, hm.on b⟩, (heap_alloc_old _ _ (lt_of_heap h0)).trans h0, b⟩
theorem Hl2.below (h : Hl2 w W x AH nH cH AM nM cM o d s n) (b : Below W.heap.size W V) : Hl2 w V x AH nH cH AM nM cM o d s n := ⟨h.m.on b, (b.block _ (lt_of_heap h.box)).trans h.box, bel_trans h.bel b⟩
theorem Hl2.cells (h : Hl2 w W x AH nH cH AM nM cM o d s n) : W.cell? ⟨w.heap.size, 0, none⟩ = some (.int .u8 o) ∧ W.cell? ⟨w.heap.size, 1, none⟩ = some (.int .i64 d) ∧ W.cell? ⟨w.heap.size, 2, none⟩ = some (.int .i64 s) ∧ W.cell? ⟨w.heap.size, 3, none⟩ = some (.int .i64 n) :=
  ⟨row_cell h.box 0, row_cell h.box 1, row_cell h.box 2, row_cell h.box 3⟩
end
set_option maxRecDepth 10000 in
set_option maxHeartbeats 16000000 in
theorem Holds_any (w : World) (x : Mn) (o d s n : Int) (AH AM : Option Addr) (nH cH nM cM : Nat) (h : U.IsBB w w.heap.size AH nH cH x.h) (hm : IsBB w w.heap.size AM nM cM x.m) (h1 : nH ≤ 5000) (h2 : nM ≤ 5000) :
    Calls Try.prog 13 #[vI o d s n, vM x (.slice AH nH cH) (.slice AM nM cM)] w fun e w' => e = .returned (.bool (holdsM o d s n x)) ∧ Below w.heap.size w w' := by
  have H0 := hid (Hl2.start h hm o d s n)
  have HW := hid (compares_any o)
  have HR := hid (Right_any o d s n)
  have HE : Hid (holdsM o d s n x = if (19 ≤ o ∧ o ≤ 21) ∧ okI o d s n ∧ x.ok then cmpM o s n x else false) := rfl
  clear h hm
  unfold vM
  unfold vI at HR ⊢
  generalize mcL x (.slice AH nH cH) (.slice AM nM cM) = L at *
  go_enter Try.func13, Try.ntmps13
  go_upto_region 1 with fail
  generalize ((w.alloc _).alloc (.cells L.toArray 30)) = W2 at *
  obtain ⟨c0, c1, c2, c3⟩ := H0.out.cells
  have HM := hid (fun V (b : Below W2.heap.size W2 V) => right_any V (w.heap.size + 1) x AH AM nH cH nM cM (H0.out.below b).m h1 h2)
  by_cases hw : 19 ≤ o ∧ o ≤ 21
  case neg =>
    rw [decide_eq_false hw] at HW
    clear HR HM
    go_wp2_with (go_at_call 32; refine (HW.out _).mono ?_; rintro r w2 ⟨rfl, rfl⟩)
    go_ret
    exact ⟨by rw [HE.out, if_neg (fun h => hw h.1)]; rfl, H0.out.bel⟩
  rw [decide_eq_true hw] at HW
  by_cases hi : okI o d s n
  case neg =>
    rw [show rightE o d s n = 110 from if_neg hi] at HR
    clear HM
    go_wp2_with (first
      | (go_at_call 32; refine (HW.out _).mono ?_; rintro r w2 ⟨rfl, rfl⟩)
      | (go_at_call 23; refine (HR.out _).mono ?_; rintro r W3 ⟨rfl, b3⟩; have B3 := hid b3; clear b3))
    go_ret
    exact ⟨by rw [HE.out, if_neg (fun h => hi h.2.1)]; rfl, bel_trans H0.out.bel B3.out⟩
  rw [show rightE o d s n = 0 from if_pos hi] at HR
  by_cases hk : x.ok
  case neg =>
    rw [decide_eq_false hk] at HM
    go_wp2_with (first
      | (go_at_call 32; refine (HW.out _).mono ?_; rintro r w2 ⟨rfl, rfl⟩)
      | (go_at_call 23; refine (HR.out _).mono ?_; rintro r W3 ⟨rfl, b3⟩; have B3 := hid b3; clear b3)
      | (go_at_call 24; refine (HM.out _ B3.out).mono ?_; rintro r w2 ⟨rfl, rfl⟩))
    go_ret
    exact ⟨by rw [HE.out, if_neg (fun h => hk h.2.2)]; rfl, bel_trans H0.out.bel B3.out⟩
  rw [decide_eq_true hk] at HM
  have HD := hid (fun V (b : Below W2.heap.size W2 V) => doc_any V (w.heap.size + 1) AH AM nH cH nM cM x o d s n hw (H0.out.below b).m hk)
  unfold vI at HD
  go_wp2_with (first
    | (go_at_call 32; refine (HW.out _).mono ?_; rintro r w2 ⟨rfl, rfl⟩)
    | (go_at_call 23; refine (HR.out _).mono ?_; rintro r W3 ⟨rfl, b3⟩; have B3 := hid b3; obtain ⟨c0, c1, c2, c3⟩ := (H0.out.below b3).cells; clear b3)
    | (go_at_call 24; refine (HM.out _ B3.out).mono ?_; rintro r w2 ⟨rfl, rfl⟩)
    | (go_at_call 25; refine (HD.out _ B3.out).mono ?_; rintro r W4 ⟨rfl, cf, b4⟩; have B4 := hid b4; clear b4))
  go_ret
  exact ⟨by rw [HE.out, if_pos ⟨hw, hi, hk⟩]; rfl, (bel_trans H0.out.bel B3.out).trans (B4.out.mono (Nat.le_succ _))⟩
end Go.Proofs.Ytaogileaeflnfaa
