/-
  The contract of spoil: junk over what the last sector has from the floor on.
-/
import Derived.Test.YtgccjclloomfgaaSlc
import Derived.Test.YtgccjclloomfgaaFld
import Derived.Deep.Cut
namespace Go.Proofs.Ytgccjclloomfgaa
open Go.RowKit

/-- The first k bytes from place f on are junk. -/
def jkP (l : List UInt8) (f k : Nat) (junk : List UInt8) : List UInt8 :=
  (List.range l.length).map (fun i => if f ≤ i ∧ i < f + k then junk.getD ((i - f) % junk.length) 0 else l.getD i 0)
theorem jkP_len (l : List UInt8) (f k : Nat) (junk : List UInt8) : (jkP l f k junk).length = l.length := by simp [jkP]
theorem jkP_zero (l : List UInt8) (f : Nat) (junk : List UInt8) : jkP l f 0 junk = l := by
  apply List.ext_getElem
  · rw [jkP_len]
  · intro i h1 h2
    simp only [jkP, List.getElem_map, List.getElem_range]
    rw [if_neg (by omega), List.getD_eq_getElem?_getD, List.getElem?_eq_getElem h2]
    rfl
theorem jkP_next (l : List UInt8) (f k : Nat) (junk : List UInt8) (h : f + k < l.length) : (jkP l f k junk).set (f + k) (junk.getD (k % junk.length) 0) = jkP l f (k + 1) junk := by
  apply List.ext_getElem
  · rw [List.length_set, jkP_len, jkP_len]
  · intro i h1 h2
    rw [List.getElem_set]
    simp only [jkP, List.getElem_map, List.getElem_range]
    by_cases e : f + k = i
    · subst e
      rw [if_pos rfl, if_pos (by omega), show f + k - f = k by omega]
    · rw [if_neg e]
      by_cases h3 : f ≤ i ∧ i < f + k
      · rw [if_pos h3, if_pos (by omega)]
      · rw [if_neg h3, if_neg (by omega)]
theorem jkP_all (l : List UInt8) (floor : Nat) (junk : List UInt8) (hj : junk.length ≠ 0) (hf : junkFrom floor l.length ≤ l.length) : jkP l (junkFrom floor l.length) (l.length - junkFrom floor l.length) junk = junked l floor junk := by
  unfold junked
  rw [if_neg hj]
  unfold jkP
  apply List.map_congr_left
  intro i hi
  have := List.mem_range.1 hi
  by_cases h : junkFrom floor l.length ≤ i
  · rw [if_pos (by omega), if_pos h]
  · rw [if_neg (by omega), if_neg h]
set_option maxRecDepth 10000 in
set_option maxHeartbeats 1000000 in
theorem spoil_none {B : Nat} {S : Nat → Prop} {w : World} {g : Nat} {F L : Value} {d : Dk} {e : Int} (A : Option Addr) (n c : Nat) (h : DkAt B S w g F L d e) (hz : n = 0 ∨ d.now.length = 0) :
    Calls Try.prog 49 #[.pointer (some ⟨g, 0, none⟩), .slice A n c] w fun r w' => r = .returned noResult ∧ w = w' := by
  obtain ⟨AF, cF, rfl⟩ := own_sl h.ff
  have c2 := h.cells.2.2.1
  by_cases h1 : n = 0
  · subst h1
    clear h hz
    go_enter Try.func49, Try.ntmps49
    go_wp2_with fail
    refine bodyPost_ret (results_none rfl _ _ _) rfl ?_
    exact ⟨rfl, rfl⟩
  · have h2 : d.now.length = 0 := by omega
    rw [h2] at c2
    have h3 : ¬ ((n : Int) = 0) := by omega
    clear h hz
    go_enter Try.func49, Try.ntmps49
    go_wp2_with fail
    refine bodyPost_ret (results_none rfl _ _ _) rfl ?_
    exact ⟨rfl, rfl⟩
/-- One byte of the file turned, from the floor on. -/
theorem DkAt.putb {B : Nat} {S : Nat → Prop} {w : World} {g gF N c j : Nat} {L : Value} {d : Dk} {e : Int} (h : DkAt B S w g (.slice (some ⟨gF, 0, none⟩) N c) L d e) (hN : d.now.length = N) (hj : j < N) (hf : d.floor ≤ j) (b : UInt8) :
    DkAt B S (w.setCell ⟨gF, j, none⟩ (.int .u8 (b.toNat : Int))) g (.slice (some ⟨gF, 0, none⟩) N c) L { d with now := d.now.set j b } e ∧ But (· = gF) w (w.setCell ⟨gF, j, none⟩ (.int .u8 (b.toNat : Int))) := by
  have bg : But (· = gF) w (w.setCell ⟨gF, j, none⟩ (.int .u8 (b.toNat : Int))) := (But.refl (· = gF) w).set _ _ (.inl rfl)
  have hFg := own_gne h.ff h.row (by decide) gF rfl
  refine ⟨⟨(bg.block g (lt_of_heap h.row) (fun e => hFg e.symm)).trans h.row, ?_, ownsRow_but h.ll bg (fun k hk e => h.ap gF rfl (by rw [← e]; exact hk)), h.ap, h.sg, h.sf, h.sl, fun i hi => by rw [World.size_setCell]; exact h.lt i hi, ?_, h.er, h.ae, h.fe⟩, bg⟩
  · rcases h.ff.2 with ⟨h1, _⟩ | ⟨q, cap, cur, hv, hq, hh, hc, hm, hs, ht⟩
    · cases h1
    · cases hv
      refine ⟨by simp, .inr ⟨gF, c, cur.setIfInBounds j (.int .u8 (b.toNat : Int)), by rw [List.length_set, hN], hq, row_set hh j _, by rw [List.length_set]; omega, hm, by simpa using hs, ?_⟩⟩
      rw [Nat.mul_one] at ht ⊢
      rw [List.length_set, Array.toList_setIfInBounds, List.take_set, ht, List.map_set]
      rfl
  · refine ⟨by show d.floor ≤ (d.now.set j b).length; rw [List.length_set]; exact h.ok.fn, h.ok.fo, ?_, by show (d.now.set j b).length ≤ d.most; rw [List.length_set]; exact h.ok.mx, h.ok.mo, h.ok.m4, h.ok.fa⟩
    show (d.now.set j b).take d.floor = d.old.take d.floor
    rw [List.take_set_of_le hf]
    exact h.ok.same
theorem slice_rest (gF n c k : Nat) (hk : k ≤ n) (hc : k < c) (w' : World) : (Instr.slice 27 (.slice (some ⟨gF, 0, none⟩) n c) (some (.int .i64 (k : Nat))) none none).run Try.prog w' = .ok (.slice (some ⟨gF, k, none⟩) (n - k) (c - k)) w' := by
  have hs : (sizeOf (Try.prog.elem 27)).run Try.prog w' = .ok 1 w' := by kernel_rfl
  rw [run_slice_l (ht := by kernel_rfl) (h0 := by omega) (h1 := by omega), hs]
  have hne : ¬ c = k := by omega
  simp [Result.andThen, sliced, hne, Addr.add_lit]
theorem slice_end (A : Option Addr) (n c k : Nat) (hk : k ≤ n) (w' : World) : (Instr.slice 27 (.slice A n c) (some (.int .i64 (k : Nat))) none none).run Try.prog w' = .ok (.slice (if c = k then A else A.map (·.add (k * 1))) (n - k) (c - k)) w' := by
  have hs : (sizeOf (Try.prog.elem 27)).run Try.prog w' = .ok 1 w' := by kernel_rfl
  rw [run_slice_l (ht := by kernel_rfl) (h0 := by omega) (h1 := by omega), hs]
  simp [Result.andThen, sliced]
set_option maxRecDepth 10000 in
set_option maxHeartbeats 2000000 in
theorem spoil_any {B : Nat} {S : Nat → Prop} {w : World} {g : Nat} {F L : Value} {d : Dk} {e : Int} (A : Option Addr) (n c : Nat) (junk : List UInt8) (h : DkAt B S w g F L d e) (hi : IsB w A n c junk) (ha : 0 < n → ∀ ad, A = some ad → F.ownBlock ≠ some ad.block) (hn : n ≠ 0) (hl : d.now.length ≠ 0) :
    Calls Try.prog 49 #[.pointer (some ⟨g, 0, none⟩), .slice A n c] w fun r w' => r = .returned noResult ∧ DkAt B S w' g F L { d with now := junked d.now d.floor junk } e ∧ But S w w' := by
  obtain ⟨AF, cF, rfl⟩ := own_sl h.ff
  obtain ⟨_, _, c2, c3, _, _, _, _, _⟩ := h.cells
  have hmx := h.ok.mx
  have hm4 := h.ok.m4
  have hfn := h.ok.fn
  have hjl := hi.len
  obtain ⟨N, hN⟩ : ∃ N, d.now.length = N := ⟨_, rfl⟩
  obtain ⟨q, hq⟩ : ∃ q : Nat, q = (N - 1) / 512 := ⟨_, rfl⟩
  obtain ⟨f, hf⟩ : ∃ f : Nat, f = junkFrom d.floor d.now.length := ⟨_, rfl⟩
  obtain ⟨fl, hfl0⟩ : ∃ fl : Nat, d.floor = fl := ⟨_, rfl⟩
  obtain ⟨p, hp⟩ : ∃ p : Nat, p = 512 * q := ⟨_, rfl⟩
  have hfp : f = max fl p := by rw [hf, hN, hfl0, hp, hq]; rfl
  have hfl : f ≤ N := by rw [hfp]; omega
  rw [hN] at c2 hmx hfn hl
  rw [hfl0] at c3 hfn
  obtain ⟨N1, hN1⟩ : ∃ N1 : Nat, N1 = N - 1 := ⟨_, rfl⟩
  have b1 : ((n : Int) == 0) = false := by simpa using hn
  have b2 : ((N : Int) == 0) = false := by simpa using hl
  have ew1 : IntKind.i64.wrap ((N : Int) - 1) = (N1 : Int) := by rw [IntWalk.i64_in _ (by omega)]; omega
  have ed1 : (N1 : Int) / 512 = (q : Int) := by omega
  have ed2 : Int.tdiv (N1 : Int) 512 = (q : Int) := by rw [Int.tdiv_eq_ediv_of_nonneg (by omega)]; omega
  have ew2 : IntKind.i64.wrap ((q : Int) * 512) = (p : Int) := by rw [IntWalk.i64_in _ (by omega)]; omega
  have ew3 : IntKind.i64.wrap (q : Int) = (q : Int) := IntWalk.i64_in _ (by omega)
  have em : (if fl < p then (p : Int) else (fl : Int)) = (f : Int) := by rw [hfp]; split <;> omega
  obtain ⟨R, hR⟩ : ∃ R, R = N - f := ⟨_, rfl⟩
  obtain ⟨C2, hC2⟩ : ∃ C, C = cF - f := ⟨_, rfl⟩
  have hcap : N ≤ cF := by have := h.ff; obtain ⟨A9, c9, e9, h9, _⟩ := own_slice this; cases e9; omega
  obtain ⟨A2, hs1, hA2⟩ : ∃ A', (∀ w' : World, (Instr.slice 27 (.slice AF N cF) (some (.int .i64 (f : Nat))) none none).run Try.prog w' = .ok (.slice A' R C2) w') ∧ (f < N → ∃ gF, AF = some ⟨gF, 0, none⟩ ∧ A' = some ⟨gF, f, none⟩) := by
    rw [hR, hC2]
    by_cases hlt : f < N
    · rcases h.ff.2 with ⟨h9, h8⟩ | ⟨gF, cap, cur, hv, _⟩
      · omega
      · injection hv with e1 e2 e3
        subst e1
        exact ⟨_, fun w' => slice_rest gF N cF f hfl (by omega) w', fun _ => ⟨gF, rfl, rfl⟩⟩
    · exact ⟨_, fun w' => slice_end AF N cF f hfl w', fun h9 => absurd h9 hlt⟩
  have H0 : Hid (DkAt B S w g (.slice AF N cF) L { d with now := jkP d.now f 0 junk } e ∧ But S w w ∧ IsB w A n c junk) := by
    rw [jkP_zero, ← hN]; exact ⟨h, But.refl S w, hi⟩
  have hjk : jkP d.now f R junk = junked d.now d.floor junk := by
    have := jkP_all d.now d.floor junk (by omega) (by rw [← hf, hN]; exact hfl)
    rw [← hf, hN, ← hR] at this
    exact this
  have HJ := hid hjk
  have HN := hid (And.intro hN (And.intro hfl0 (And.intro hf (And.intro hR (And.intro hfp hfl)))))
  have HA := hid ha
  have HA2 := hid hA2
  have hRz : (R : Int) ≤ 4194304 := by omega
  rw [hN]
  clear h hN hf hfl0 hp hq hN1 hfp hi hjk ha hA2 hR hC2
  go_enter Try.func49, Try.ntmps49
  go_wp2_with fail
  go_quiet (fail)
  go_wp2_with fail
  obtain ⟨w0, hw0⟩ : ∃ w0, w0 = w.drewN nq := ⟨_, rfl⟩
  have H1 : Hid (DkAt B S w0 g (.slice AF N cF) L { d with now := jkP d.now f 0 junk } e ∧ But S w w0 ∧ IsB w0 A n c junk) := by
    subst hw0; exact ⟨H0.out.1.drewN _, H0.out.2.1.drewN _, H0.out.2.2.drewN _⟩
  rw [← hw0]
  clear hw0 H0 hs1
  go_loopw [39] (fun v wr => ∃ k : Nat, k ≤ R ∧ v = .int .i64 k ∧ Hid (DkAt B S wr g (.slice AF N cF) L { d with now := jkP d.now f k junk } e ∧ But S w wr ∧ IsB wr A n c junk)) (fun v _ => R - (intOf v).toNat)
  case atStart => exact ⟨0, Nat.zero_le _, rfl, H1⟩
  case round =>
    obtain ⟨k, hk, rfl, hs⟩ := hrel
    clear H1
    by_cases hlt : k < R
    · obtain ⟨gF, rfl, rfl⟩ := HA2.out (by have := HN.out; omega)
      obtain ⟨r, hr⟩ : ∃ r, r = k % n := ⟨_, rfl⟩
      have hrn : r < n := by rw [hr]; exact Nat.mod_lt _ (by omega)
      have er1 : (k : Int) % (n : Int) = (r : Int) := by rw [hr]; exact (Int.natCast_emod k n).symm
      have er2 : Int.tmod (k : Int) (n : Int) = (r : Int) := by rw [Int.tmod_eq_emod_of_nonneg (by omega)]; exact er1
      have hn0 : ¬ ((n : Int) = 0) := by omega
      have hrz : (r : Int) < (n : Int) := by omega
      have hkz : (k : Int) < (R : Int) := by omega
      obtain ⟨ad, rfl, hc⟩ := hs.out.2.2.lies (by rw [hs.out.2.2.len]; omega)
      have cj := hc r (by rw [hs.out.2.2.len]; exact hrn)
      obtain ⟨b, hb⟩ : ∃ b, b = junk[r]'(by rw [hs.out.2.2.len]; exact hrn) := ⟨_, rfl⟩
      rw [← hb] at cj
      have hgd : junk.getD (k % junk.length) 0 = b := by
        rw [hs.out.2.2.len, ← hr, hb, List.getD_eq_getElem?_getD, List.getElem?_eq_getElem]; rfl
      have hlN : (jkP d.now f k junk).length = N := by rw [jkP_len]; exact HN.out.1
      have hnx := jkP_next d.now f k junk (by have := HN.out; omega)
      rw [hgd] at hnx
      obtain ⟨k1, k2⟩ := hs.out.1.putb hlN (j := f + k) (by have := HN.out; omega) (by have := HN.out; show d.floor ≤ f + k; omega) b
      have hadF : ad.block ≠ gF := fun e => HA.out (by omega) ad rfl (by rw [e]; rfl)
      have HS : Hid (DkAt B S (wr.setCell ⟨gF, f + k, none⟩ (.int .u8 (b.toNat : Int))) g (.slice (some ⟨gF, 0, none⟩) N cF) L { d with now := jkP d.now f (k + 1) junk } e ∧ But S w (wr.setCell ⟨gF, f + k, none⟩ (.int .u8 (b.toNat : Int))) ∧ IsB (wr.setCell ⟨gF, f + k, none⟩ (.int .u8 (b.toNat : Int))) (some ad) n c junk) := by
        refine ⟨by rw [← hnx]; exact k1, hs.out.2.1.trans k2 (by rintro i rfl; exact .inl (hs.out.1.sf _ rfl)), hs.out.2.2.to fun ad' e j => ?_⟩
        cases e
        exact World.cell?_of_block (Below.heap_setCell _ _ _ _ (by rw [block_of_add]; exact hadF))
      have hcf : ∃ y : Int, wr.cell? ⟨gF, f + k, none⟩ = some (.int .u8 y) := by
        obtain ⟨A9, c9, e9, h9⟩ := own_isBB hs.out.1.ff (by show (jkP d.now f k junk).length ≤ _; omega)
        injection e9 with e91 _ _
        subst e91
        obtain ⟨ad9, e8, h8⟩ := h9.lies (by show 0 < (jkP d.now f k junk).length; have := HN.out; omega)
        cases e8
        have := h8 (f + k) (by show f + k < (jkP d.now f k junk).length; have := HN.out; omega)
        rw [Addr.add_lit, Nat.zero_add] at this
        exact ⟨_, this⟩
      obtain ⟨y, cy⟩ := hcf
      have fy : wr.frozen? ⟨gF, f + k, none⟩ = false := by
        rcases hs.out.1.ff.2 with ⟨h1, _⟩ | ⟨q9, cap, cur, hv, _, hh, _⟩
        · cases h1
        · cases hv; exact row_free hh _
      clear hc hs hb hgd hnx k1 k2 hr hlN
      go_wp2_with fail
      go_roundw
      case rel => exact ⟨k + 1, by omega, by go_num, HS⟩
      case measure => simp [intOf]; omega
    · obtain rfl : k = R := by omega
      have hs1 := hs.out.1
      rw [HJ.out] at hs1
      go_wp2_with fail
      go_end0
      exact ⟨rfl, hs1, hs.out.2.1⟩
end Go.Proofs.Ytgccjclloomfgaa
