/-
  The contract of the document's Stream.
-/
import Derived.Test.YtlgabihjfjlhkaaApp
import Derived.Test.YtlgabihjfjlhkaaWith
import Derived.Test.YtlgabihjfjlhkaaWords
import Derived.Test.YtlgabihjfjlhkaaRef
import Derived.Deep.Cut
namespace Go.Proofs.Ytlgabihjfjlhkaa
open Go.RowKit

theorem outW_enc (K : Nat → Nat) (l : List UInt8) : outW K l = encL K l := rfl
theorem wordsAt_of {w w' : World} {v : Value} {K : Nat → Nat} (h : WordsSt w w' v K 60) : ∃ g c, v = .slice (some ⟨g, 0, none⟩) 60 c ∧ WordsAt w' g c K := by
  obtain ⟨vs, hv⟩ := h.wds
  obtain ⟨g, c, rfl, hg, hc⟩ := hv.cells (by omega)
  refine ⟨g, c, rfl, Nat.le_refl _, hg, fun i hi => ?_⟩
  obtain ⟨s, h1, ad, c2, rfl, h2, _, h3⟩ := hc i hi
  exact ⟨ad, c2, h1, h2, h3⟩
set_option maxRecDepth 10000 in
set_option maxHeartbeats 1000000 in
theorem RefStream_bad (A B : Option Addr) (m c d : Nat) (a n : Int) (w : World) (h : ¬ May m a n) :
    Calls Try.prog 11 #[.slice A 32 c, .slice B m d, .int .i64 a, .int .i64 n] w fun e w' => e = .returned (.tuple #[.slice none 0 0, .int .i64 2]) ∧ w = w' := by
  have Hm := hid h
  clear h
  by_cases h1 : m = 8
  · subst h1
    by_cases h2 : a < 0
    · clear Hm
      go_enter Try.func11, Try.ntmps11
      go_wp2_with fail
      go_ret2
      exact ⟨rfl, rfl⟩
    · by_cases h3 : (1099511627776 : Int) < a
      · clear Hm
        go_enter Try.func11, Try.ntmps11
        go_wp2_with fail
        go_ret2
        exact ⟨rfl, rfl⟩
      · by_cases h4 : n < 0
        · clear Hm
          go_enter Try.func11, Try.ntmps11
          go_wp2_with fail
          go_ret2
          exact ⟨rfl, rfl⟩
        · have h5 : (4194304 : Int) < n := by
            have := Hm.out
            unfold May at this
            omega
          clear Hm
          go_enter Try.func11, Try.ntmps11
          go_wp2_with fail
          go_ret2
          exact ⟨rfl, rfl⟩
  · have hz : ¬ ((m : Int) = 8) := by omega
    clear Hm
    go_enter Try.func11, Try.ntmps11
    go_wp2_with fail
    go_ret2
    exact ⟨rfl, rfl⟩
end Go.Proofs.Ytlgabihjfjlhkaa
