/-
  The contract of do, whatever works.
-/
import Derived.Test.YtaogileaeflnfaaDo2
import Derived.Test.YtaogileaeflnfaaDo6
import Derived.Test.YtaogileaeflnfaaDo9
import Derived.Test.YtaogileaeflnfaaMz
import Derived.Test.YtaogileaeflnfaaDod
set_option linter.unusedVariables false
set_option linter.unusedSimpArgs false
namespace Go.Proofs.Ytaogileaeflnfaa
open Go.RowKit

theorem do_any (w : World) (B g hb mb nH cH nM cM : Nat) (x : Mn) (o d s n : Int) (ho : 1 ≤ o ∧ o ≤ 25) (hi : okI o d s n) (h : MO w B g hb mb nH cH nM cM x) (hok : x.ok) :
    Calls Try.prog 25 #[vI o d s n, .pointer (some ⟨g, 0, none⟩)] w (DoneIn w B g hb mb nH cH nM cM (doM o d s n x)) := by
  have hn : o = 22 ∨ o = 23 → 0 ≤ n ∧ n ≤ 255 := by
    rintro (rfl | rfl)
    · exact hi.2.2.2
    · exact hi.2.2.2
  by_cases hc : 8 ≤ o ∧ o ≤ 18
  · exact do_def w B g hb mb nH cH nM cM x o d s n hc h hok
  rcases (by omega : o = 1 ∨ o = 2 ∨ o = 3 ∨ o = 4 ∨ o = 5 ∨ o = 6 ∨ o = 7 ∨ o = 19 ∨ o = 20 ∨ o = 21 ∨ o = 22 ∨ o = 23 ∨ o = 24 ∨ o = 25) with rfl | rfl | rfl | rfl | rfl | rfl | rfl | rfl | rfl | rfl | rfl | rfl | rfl | rfl
  · exact do_1 w B g hb mb nH cH nM cM x d s n h hok
  · exact do_2 w B g hb mb nH cH nM cM x d s n h hok
  · exact do_3 w B g hb mb nH cH nM cM x d s n h hok
  · exact do_4 w B g hb mb nH cH nM cM x d s n h hok
  · exact do_5 w B g hb mb nH cH nM cM x d s n h hok
  · exact do_6 w B g hb mb nH cH nM cM x d s n h hok
  · exact do_7 w B g hb mb nH cH nM cM x d s n h hok
  · exact do_19 w B g hb mb nH cH nM cM x d s n h hok
  · exact do_20 w B g hb mb nH cH nM cM x d s n h hok
  · exact do_21 w B g hb mb nH cH nM cM x d s n h hok
  · exact do_22 w B g hb mb nH cH nM cM x d s n (hn (by omega)) h hok
  · exact do_23 w B g hb mb nH cH nM cM x d s n (hn (by omega)) h hok
  · exact do_24 w B g hb mb nH cH nM cM x d s n h hok
  · exact do_25 w B g hb mb nH cH nM cM x d s n h hok
end Go.Proofs.Ytaogileaeflnfaa
