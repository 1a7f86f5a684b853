/-
  build: PAvg, PMix2, PMix, PSse: parts as they begin.
-/
import Derived.Test.YtkfdbibgjoaefaaDoorBld2
namespace Go.Proofs.YtkfdbibgjoaefaaDoor
open Go.RowKit

theorem begun5 {p : Pt} (hk : p.kind = 5) : begun p = { p := p } := by unfold begun; rw [if_neg (by omega), if_neg (by omega), if_neg (by omega), if_neg (by omega), if_neg (by omega), if_neg (by omega), if_neg (by omega)]
theorem begun6 {p : Pt} (hk : p.kind = 6) : begun p = { p := p, weight := List.replicate (pw p.size) 32768 } := by unfold begun; rw [if_neg (by omega), if_neg (by omega), if_neg (by omega), if_pos hk]
theorem begun7 {p : Pt} (hk : p.kind = 7) : begun p = { p := p, weight := List.replicate (pw p.size * p.b.toNat) (65536 / p.b) } := by unfold begun; rw [if_neg (by omega), if_neg (by omega), if_neg (by omega), if_neg (by omega), if_pos hk]
theorem begun9 {p : Pt} (hk : p.kind = 9) : begun p = { p := p, chance := (List.range (pw p.size * 32)).map (fun i => sq ((i % 32 : Nat) * 132 - 2047) * 1024), count := List.replicate (pw p.size * 32) 0 } := by unfold begun; rw [if_neg (by omega), if_neg (by omega), if_neg (by omega), if_neg (by omega), if_neg (by omega), if_neg (by omega), if_pos hk]
theorem buildK5 : BuildK 5 := by
  intro p i w hk ho kn
  unfold vPt
  rw [hk]
  refine (build_avg p.size p.a p.b p.c p.rate p.limit w).mono ?_
  rintro e w' ⟨rfl, b⟩
  exact ⟨_, _, rfl, .avg (by rw [begun_k]; exact hk) (by rw [begun_k]), b⟩
theorem buildK6 : BuildK 6 := by
  intro p i w hk ho kn
  obtain ⟨⟨s0, s1⟩, _⟩ := one_mix2 ho hk
  obtain ⟨s, hs, s16, hp⟩ := pw_nat p.size s0 s1
  unfold vPt
  rw [hk, hs]
  refine (build_mix2 s p.a p.b p.c p.rate p.limit w s16).mono ?_
  rintro e w' ⟨g, d, rfl, g1, d1, nd, hg, hd, b⟩
  rw [Nat.one_mul] at hg hd
  refine ⟨_, _, rfl, ?_, b⟩
  rw [begun6 hk]
  refine .mix2 hk g d rfl ⟨g1, lt_of_heap hg⟩ ⟨d1, hd.lt⟩ nd ?_ ?_
  · show w'.heap[g]? = some (.cells #[.int .i64 p.size, .int .i64 1, sl d (pw p.size), .int .i64 p.a, .int .i64 p.b, .int .i64 p.rate] 100 (0, 0))
    rw [hp, hs]; exact hg
  · show Ro w' d 3 (pw p.size) (intsF (List.replicate (pw p.size) 32768))
    rw [hp]
    refine hd.same fun k hk2 => ?_
    unfold intsF
    rw [rep_getD _ _ _ _ hk2]
theorem buildK7 : BuildK 7 := by
  intro p i w hk ho kn
  obtain ⟨⟨s0, s1⟩, ⟨b1, b8⟩, _⟩ := one_mix ho hk
  obtain ⟨s, hs, s16, hp⟩ := pw_nat p.size s0 (by omega)
  obtain ⟨kb, eb⟩ : ∃ k : Nat, p.b = (k : Int) := ⟨p.b.toNat, by omega⟩
  have eb2 : p.b.toNat = kb := by omega
  unfold vPt
  rw [hk, hs, eb]
  refine (build_mix s p.a p.c p.rate p.limit kb w s16 (by omega)).mono ?_
  rintro e w' ⟨g, d, rfl, g1, d1, nd, hg, hd, b⟩
  rw [Nat.mul_comm kb] at hg hd
  refine ⟨_, _, rfl, ?_, b⟩
  rw [begun7 hk]
  refine .mix hk g d rfl ⟨g1, lt_of_heap hg⟩ ⟨d1, hd.lt⟩ nd ?_ ?_
  · show w'.heap[g]? = some (.cells #[.int .i64 p.size, .int .i64 p.b, sl d (pw p.size * p.b.toNat), .int .i64 p.a, .int .i64 p.rate] 103 (0, 0))
    rw [hp, hs, eb2, eb]; exact hg
  · show Ro w' d 3 (pw p.size * p.b.toNat) (intsF (List.replicate (pw p.size * p.b.toNat) (65536 / p.b)))
    rw [hp, eb2, eb]
    refine hd.same fun k hk2 => ?_
    unfold intsF
    rw [rep_getD _ _ _ _ hk2]
theorem buildK9 : BuildK 9 := by
  intro p i w hk ho kn
  obtain ⟨⟨s0, s1⟩, _⟩ := one_sse ho hk
  obtain ⟨s, hs, s16, hp⟩ := pw_nat p.size s0 (by omega)
  unfold vPt
  rw [hk, hs]
  refine (build_sse s p.a p.b p.c p.rate p.limit w s16 kn).mono ?_
  rintro e w' ⟨g, d, rfl, g1, d1, nd, hg, hd, b⟩
  rw [Nat.mul_comm 32] at hg hd
  refine ⟨_, _, rfl, ?_, b⟩
  rw [begun9 hk]
  refine .sse hk g d rfl ⟨g1, lt_of_heap hg⟩ ⟨d1, hd.lt⟩ nd ?_ ?_
  · show w'.heap[g]? = some (.cells #[.int .i64 p.size, .int .i64 32, sl d (pw p.size * 32), .int .i64 p.a, .int .i64 p.limit] 108 (0, 0))
    rw [hp, hs]; exact hg
  · show Ro w' d 82 (2 * (pw p.size * 32)) (oddsF ((List.range (pw p.size * 32)).map (fun i => sq ((i % 32 : Nat) * 132 - 2047) * 1024)) (List.replicate (pw p.size * 32) 0))
    rw [hp]
    refine hd.same fun k hk2 => ?_
    unfold oddsF
    by_cases e : k % 2 = 0
    · rw [if_pos e, if_pos e, range_get _ _ _ (by omega)]
    · rw [if_neg e, if_neg e, rep_getD _ _ _ _ (by omega)]
end Go.Proofs.YtkfdbibgjoaefaaDoor
