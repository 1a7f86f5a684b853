/-
  The contract of numbers: the numbers H at first and the numbers K, found prime by prime.
-/
import Derived.Test.YtnifhgcdpgokhaaRoot
import Derived.Test.YtnifhgcdpgokhaaBlk
import Derived.Deep.MidRow
import Derived.Deep.RegionHeld3
namespace Go.Proofs.Ytnifhgcdpgokhaa
open Go.RowKit

def bvl (b : Bool) : Value := .bool b
def z8 : Array Value := #[.int .u32 0, .int .u32 0, .int .u32 0, .int .u32 0, .int .u32 0, .int .u32 0, .int .u32 0, .int .u32 0]
def z312 : Array Value := Array.replicate 312 (.bool false)
theorem zero64 (w : World) : (zeroValue 64).run Try.prog w = .ok (.agg z312) w := by kernel_rfl
theorem zero34 (w : World) : (zeroValue 53).run Try.prog w = .ok (.agg z8) w := by kernel_rfl
/-- What the call's own three blocks hold. -/
structure SvSt (h k : List Nat) (pr : List Bool) (w wr : World) : Prop where
  bel : Below w.heap.size w wr
  siz : w.heap.size + 3 ≤ wr.heap.size
  b0 : wr.heap[w.heap.size]? = some (.cells (h.map uv).toArray 53 (0, 0))
  b1 : wr.heap[w.heap.size + 1]? = some (.cells (k.map uv).toArray 54 (0, 0))
  b2 : wr.heap[w.heap.size + 1 + 1]? = some (.cells (pr.map bvl).toArray 64 (0, 0))
theorem set_map {α : Type} (f : α → Value) (l : List α) (i : Nat) (v : α) : ((l.map f).toArray.setIfInBounds i (f v)) = ((l.set i v).map f).toArray := by
  rw [set_toArray, List.map_set]
theorem SvSt.setPr {h k : List Nat} {pr : List Bool} {w wr : World} (s : SvSt h k pr w wr) (i : Nat) : SvSt h k (pr.set i true) w (wr.setCell ⟨w.heap.size + 1 + 1, i, none⟩ (.bool true)) :=
  ⟨s.bel.setCell (p := ⟨w.heap.size + 1 + 1, i, none⟩) (by show w.heap.size ≤ w.heap.size + 1 + 1; omega) _, by rw [World.size_setCell]; exact s.siz,
   by rw [heap_setCell_other _ _ _ _ (by show w.heap.size ≠ w.heap.size + 1 + 1; omega)]; exact s.b0,
   by rw [heap_setCell_other _ _ _ _ (by show w.heap.size + 1 ≠ w.heap.size + 1 + 1; omega)]; exact s.b1,
   by rw [row_set s.b2 i _]; exact congrArg (fun x => some (Obj.cells x 64 (0, 0))) (set_map bvl pr i true)⟩
theorem SvSt.setH {h k : List Nat} {pr : List Bool} {w wr : World} (s : SvSt h k pr w wr) (i v : Nat) : SvSt (h.set i v) k pr w (wr.setCell ⟨w.heap.size, i, none⟩ (.int .u32 (v : Int))) :=
  ⟨s.bel.setCell (p := ⟨w.heap.size, i, none⟩) (Nat.le_refl _) _, by rw [World.size_setCell]; exact s.siz,
   by rw [row_set s.b0 i _]; exact congrArg (fun x => some (Obj.cells x 53 (0, 0))) (set_map uv h i v),
   by rw [heap_setCell_other _ _ _ _ (by show w.heap.size + 1 ≠ w.heap.size; omega)]; exact s.b1,
   by rw [heap_setCell_other _ _ _ _ (by show w.heap.size + 1 + 1 ≠ w.heap.size; omega)]; exact s.b2⟩
theorem SvSt.setK {h k : List Nat} {pr : List Bool} {w wr : World} (s : SvSt h k pr w wr) (i v : Nat) : SvSt h (k.set i v) pr w (wr.setCell ⟨w.heap.size + 1, i, none⟩ (.int .u32 (v : Int))) :=
  ⟨s.bel.setCell (p := ⟨w.heap.size + 1, i, none⟩) (by show w.heap.size ≤ w.heap.size + 1; omega) _, by rw [World.size_setCell]; exact s.siz,
   by rw [heap_setCell_other _ _ _ _ (by show w.heap.size ≠ w.heap.size + 1; omega)]; exact s.b0,
   by rw [row_set s.b1 i _]; exact congrArg (fun x => some (Obj.cells x 54 (0, 0))) (set_map uv k i v),
   by rw [heap_setCell_other _ _ _ _ (by show w.heap.size + 1 + 1 ≠ w.heap.size + 1; omega)]; exact s.b2⟩
theorem SvSt.cellPr {h k : List Nat} {pr : List Bool} {w wr : World} (s : SvSt h k pr w wr) (i : Nat) (hi : i < pr.length) : wr.cell? ⟨w.heap.size + 1 + 1, i, none⟩ = some (.bool (pr.getD i false)) := by
  rw [row_cell s.b2 i, List.getElem?_toArray, List.getElem?_map, List.getD_eq_getElem?_getD, List.getElem?_eq_getElem hi]; rfl
theorem SvSt.cellH {h k : List Nat} {pr : List Bool} {w wr : World} (s : SvSt h k pr w wr) (i : Nat) (hi : i < h.length) : wr.cell? ⟨w.heap.size, i, none⟩ = some (uv (h.getD i 0)) := by
  rw [row_cell s.b0 i, List.getElem?_toArray, List.getElem?_map, List.getD_eq_getElem?_getD, List.getElem?_eq_getElem hi]; rfl
theorem SvSt.cellK {h k : List Nat} {pr : List Bool} {w wr : World} (s : SvSt h k pr w wr) (i : Nat) (hi : i < k.length) : wr.cell? ⟨w.heap.size + 1, i, none⟩ = some (uv (k.getD i 0)) := by
  rw [row_cell s.b1 i, List.getElem?_toArray, List.getElem?_map, List.getD_eq_getElem?_getD, List.getElem?_eq_getElem hi]; rfl
theorem mul_le_of (i p : Nat) (h : i < 311 / p + 1) : i * p < 312 := by
  have h1 : i ≤ 311 / p := by omega
  have h2 := Nat.mul_le_mul_right p h1
  have h3 := Nat.div_mul_le_self 311 p
  omega

theorem range_row {w : World} {g t : Nat} {cs : List Value} (h : w.heap[g]? = some (.cells cs.toArray t (0, 0))) : w.rangeAt g 0 cs := fun j v hv => by
  rw [row_cell h, List.getElem?_toArray, Nat.zero_add]; exact hv
theorem there_row {w : World} {g t : Nat} {cs : List Value} (h : w.heap[g]? = some (.cells cs.toArray t (0, 0))) : w.there g 0 cs.length := fun j hj => by
  rw [Nat.zero_add]
  exact ⟨by rw [row_cell h, List.getElem?_toArray, List.getElem?_eq_getElem hj]; rfl, row_free h j⟩
theorem one_of_all {X : List Value} (h : X.toArray.all (·.oneCell') = true) : ∀ v ∈ X, v.oneCell' = true := fun v hv => by
  rw [List.all_toArray, List.all_eq_true] at h
  exact h v hv
theorem results_cells2 {fn : Func} {p q : Tmp} {ty ty2 : TypeId} (h : fn.results = #[.cell p ty, .cell q ty2]) (tmps : Array Value) (w : World) (g g2 : Nat) (cs cs2 : List Value) (d d2 : TypeDesc)
    (hp : tmps.getD p undef = .pointer (some ⟨g, 0, none⟩)) (hq : tmps.getD q undef = .pointer (some ⟨g2, 0, none⟩)) (hc : w.rangeAt g 0 cs) (hc2 : w.rangeAt g2 0 cs2)
    (hu : Try.prog.underlying ty = some d) (hd : d.isRow = true) (hi : (Try.prog.info? ty).map (·.size) = some cs.length)
    (hu2 : Try.prog.underlying ty2 = some d2) (hd2 : d2.isRow = true) (hi2 : (Try.prog.info? ty2).map (·.size) = some cs2.length) :
    (results fn tmps).run Try.prog w = .ok (.tuple #[.agg cs.toArray, .agg cs2.toArray]) w := by
  have hp' : tmps[p]?.getD undef = .pointer (some ⟨g, 0, none⟩) := by simpa using hp
  have hq' : tmps[q]?.getD undef = .pointer (some ⟨g2, 0, none⟩) := by simpa using hq
  simp [results, h, hp', hq', asAddr, run_loadVar_mid w g 0 ty cs d hc hu hd hi, run_loadVar_mid w g2 0 ty2 cs2 d2 hc2 hu2 hd2 hi2]
theorem belowSetCells (B : Nat) (w0 : World) (hB : w0.heap.size ≤ B) : ∀ (vs : List Value) (o : Nat) (w : World), Below w0.heap.size w0 w → Below w0.heap.size w0 (w.setCells B o vs)
  | [], _, _, h => h
  | v :: r, o, _, h => belowSetCells B w0 hB r (o + 1) _ (h.setCell (p := ⟨B, o, none⟩) hB v)
structure Held (B : Nat) (X Y : List Value) (w0 w : World) : Prop where
  r0 : w.rangeAt B 0 X
  t0 : w.there B 0 X.length
  r1 : w.rangeAt (B + 1) 0 Y
  t1 : w.there (B + 1) 0 Y.length
  bel : Below w0.heap.size w0 w
theorem Held.put0 {X Y : List Value} {w0 w : World} (h : Held w0.heap.size X Y w0 w) (Z : List Value) (e : Z = X) : Held w0.heap.size X Y w0 (w.setCells w0.heap.size 0 Z) := by
  subst e
  exact ⟨World.rangeAt_setCells_same _ _ _ _ h.t0, World.there_setCells h.t0 _ _ _, World.rangeAt_setCells_apart h.r1 _ _ _ (.inl (by omega)), World.there_setCells h.t1 _ _ _, belowSetCells _ _ (Nat.le_refl _) _ _ _ h.bel⟩
theorem Held.put1 {X Y : List Value} {w0 w : World} (h : Held w0.heap.size X Y w0 w) (Z : List Value) (e : Z = Y) : Held w0.heap.size X Y w0 (w.setCells (w0.heap.size + 1) 0 Z) := by
  subst e
  exact ⟨World.rangeAt_setCells_apart h.r0 _ _ _ (.inl (by omega)), World.there_setCells h.t0 _ _ _, World.rangeAt_setCells_same _ _ _ _ h.t1, World.there_setCells h.t1 _ _ _, belowSetCells _ _ (Nat.le_succ _) _ _ _ h.bel⟩
theorem e8 : ((sieve 0).h.map uv).toArray = z8 := by kernel_rfl
theorem e64 : ((sieve 0).k.map uv).toArray = z64 := by kernel_rfl
theorem e312 : ((sieve 0).prod.map bvl).toArray = z312 := by kernel_rfl
theorem svSt_start (w : World) : SvSt (sieve 0).h (sieve 0).k (sieve 0).prod w (((w.alloc (.cells z8 53)).alloc (.cells z64 54)).alloc (.cells z312 64)) := by
  refine ⟨?_, by simp, ?_, ?_, ?_⟩
  · have q := (Below.refl w.heap.size w).alloc (Nat.le_refl _) (.cells z8 53)
    have q2 := q.alloc q.size (.cells z64 54)
    exact q2.alloc q2.size _
  · rw [e8, heap_alloc_old (h := by simp; omega)]
    exact heap_alloc2_old w _ _
  · rw [e64, heap_alloc_old (h := by simp)]
    exact heap_alloc2_new w _ _
  · rw [e312]
    have := heap_alloc_new ((w.alloc (.cells z8 53)).alloc (.cells z64 54)) (.cells z312 64)
    simpa using this
set_option maxRecDepth 10000 in
set_option maxHeartbeats 4000000 in
theorem numbers_any (w : World) : Calls Try.prog 34 #[] w fun e w' => e = .returned (.tuple #[.agg (hL.map uv).toArray, .agg (kL.map uv).toArray]) ∧ Below w.heap.size w w' := by
  have zv := zero35
  have zw := zero34
  have zx := zero64
  go_enter Try.func34, Try.ntmps34
  go_wp2_with fail
  go_loopw [6, 3] (fun i f wr => ∃ p : Nat, p ≤ 312 ∧ i = .int .i64 p ∧ f = .int .i64 ((sieve p).found : Nat) ∧ SvSt (sieve p).h (sieve p).k (sieve p).prod w wr) (fun i _ _ => 312 - (intOf i).toNat)
  case atStart => exact ⟨0, Nat.zero_le _, rfl, rfl, svSt_start w⟩
  case round =>
    obtain ⟨p, hp, rfl, rfl, hs⟩ := hrel
    clear zv zw zx
    by_cases hlt : p < 312
    · have hlz : (p : Int) < 312 := by omega
      obtain ⟨len1, len2, len3⟩ := sieve_len p
      have hfl := found_le (p + 1) (by omega)
      have hsk := sieve_skip p
      have htk := sieve_take p
      have hc := hs.cellPr p (by omega)
      by_cases h2 : p < 2
      · have hsk' := hsk (by simp [h2])
        have h2z : (p : Int) < 2 := by omega
        have Hs := hid hs
        have Hk := hid hsk'
        clear hs hsk hsk' htk hc hfl len1 len2 len3
        go_wp2_with fail
        go_roundw
        case rel =>
          have e : SvSt (sieve (p + 1)).h (sieve (p + 1)).k (sieve (p + 1)).prod w wr := by rw [Hk.out]; exact Hs.out
          exact ⟨p + 1, by omega, by go_num, by rw [Hk.out], e⟩
        case measure => simp [intOf]; omega
      · have h2z : (2 : Int) ≤ p := by omega
        cases hpr : (sieve p).prod.getD p false
        · have htk' := htk (by rw [hpr, decide_eq_false h2]; rfl)
          rw [hpr] at hc
          have hfs : (sieve (p + 1)).found = (sieve p).found + 1 := by rw [htk']
          rw [hfs] at hfl
          obtain ⟨m1, hm1⟩ : ∃ m1, m1 = 311 / p := ⟨_, rfl⟩
          have hq : (311 : Int) / (p : Int) = (m1 : Int) := by rw [hm1]; exact (Int.natCast_ediv 311 p).symm
          have hq2 : Int.tdiv (311 : Int) (p : Int) = (m1 : Int) := by rw [Int.tdiv_eq_ediv_of_nonneg (by omega)]; exact hq
          have hmb : m1 ≤ 155 := by rw [hm1]; have : 311 / p ≤ 311 / 2 := Nat.div_le_div_left (by omega) (by omega); omega
          have hmz : (m1 : Int) ≤ 155 := by omega
          have hml : ∀ j, j < m1 + 1 → j * p < 312 := fun j hj => mul_le_of j p (by omega)
          rw [← hm1] at htk'
          have htk := htk'
          clear htk' hsk hfs hm1
          generalize hG : sieve (p + 1) = S1 at *
          have HG := hid hG
          clear hG
          generalize hG0 : sieve p = S0 at *
          obtain ⟨pr, f, h, k⟩ := S0
          simp only at hs hc hfl htk len1 len2 len3 hpr
          have Hk := hid htk
          have Hml := hid hml
          have Hl := hid (And.intro len1 (And.intro len2 len3))
          have Hs := hid hs
          clear htk hml len1 len2 len3 hs hpr hG0
          go_wp2_with fail
          clear hc
          go_loopw [19] (fun i wr => ∃ j : Nat, j ≤ m1 + 1 ∧ i = .int .i64 j ∧ SvSt h k (mark pr p j) w wr) (fun i _ => m1 + 1 - (intOf i).toNat)
          case atStart => exact ⟨0, Nat.zero_le _, rfl, Hs.out⟩
          case round =>
            obtain ⟨j, hj, rfl, hs⟩ := hrel
            by_cases hjl : j < m1 + 1
            · have hjz : (j : Int) < (m1 : Int) + 1 := by omega
              obtain ⟨q, hqq⟩ : ∃ q, q = j * p := ⟨_, rfl⟩
              have hql := Hml.out j hjl
              rw [← hqq] at hql
              have hqz : (q : Int) < 312 := by omega
              have hmul : (j : Int) * (p : Int) = (q : Int) := by rw [hqq]; exact (Int.natCast_mul j p).symm
              have hwq : IntKind.i64.wrap (q : Int) = (q : Int) := IntWalk.i64_in _ (by omega)
              have hcq := hs.cellPr q (by rw [mark_len]; have := Hl.out.1; omega)
              have hfq := row_free hs.b2 q
              have Hs2 := hid hs
              have HQ := hid hqq
              clear hs hqq
              go_wp2_with fail
              go_roundw
              case rel =>
                have hn := Hs2.out.setPr q
                have e : (mark pr p j).set q true = mark pr p (j + 1) := by rw [HQ.out]; rfl
                rw [e] at hn
                exact ⟨j + 1, by omega, by go_num, hn⟩
              case measure => simp [intOf]; omega
            · obtain rfl : j = m1 + 1 := by omega
              have hpz : (p : Int) < 1000 := by omega
              obtain ⟨bs, hbs⟩ : ∃ bs, bs = behind sq p := ⟨_, rfl⟩
              obtain ⟨bc, hbc⟩ : ∃ bc, bc = behind cu p := ⟨_, rfl⟩
              have hfz : (f : Int) < 64 := by omega
              have cs := fun w => behindSq_any p w
              have cc := fun w => behindCu_any p hpz w
              rw [← hbs] at cs
              rw [← hbc] at cc
              have hck := hs.cellK f (by have := Hl.out.2.2; omega)
              have hfk := row_free hs.b1 f
              have hstep := Hk.out
              rw [← hbs, ← hbc] at hstep
              by_cases h8 : f < 8
              · rw [if_pos h8] at hstep
                have Hst := hid hstep
                have h8z : (f : Int) < 8 := by omega
                have hch := hs.cellH f (by have := Hl.out.2.1; omega)
                have hfh := row_free hs.b0 f
                have Hs2 := hid hs
                have Hb := hid (And.intro hbs hbc)
                clear hs hstep hbs hbc
                go_wp2_with (first
                  | (go_at_call 37; with_reducible refine (cs _).mono ?_; rintro e w' ⟨rfl, rfl⟩)
                  | (go_at_call 37; with_reducible refine (cc _).mono ?_; rintro e w' ⟨rfl, rfl⟩))
                go_roundw
                case rel =>
                  have hn := (Hs2.out.setH f bs).setK f bc
                  refine ⟨p + 1, by omega, by go_num, ?_, ?_⟩
                  · rw [HG.out, Hst.out]; go_num
                  · rw [HG.out, Hst.out]; exact hn
                case measure => simp [intOf]; omega
              · rw [if_neg h8] at hstep
                have Hst := hid hstep
                have h8z : (8 : Int) ≤ f := by omega
                have Hs2 := hid hs
                have Hb := hid (And.intro hbs hbc)
                clear hs hstep hbs hbc
                go_wp2_with (first
                  | (go_at_call 37; with_reducible refine (cs _).mono ?_; rintro e w' ⟨rfl, rfl⟩)
                  | (go_at_call 37; with_reducible refine (cc _).mono ?_; rintro e w' ⟨rfl, rfl⟩))
                go_roundw
                case rel =>
                  have hn := Hs2.out.setK f bc
                  refine ⟨p + 1, by omega, by go_num, ?_, ?_⟩
                  · rw [HG.out, Hst.out]; go_num
                  · rw [HG.out, Hst.out]; exact hn
                case measure => simp [intOf]; omega
        · have hsk' := hsk (by rw [hpr, Bool.or_true])
          rw [hpr] at hc
          have Hs := hid hs
          have Hk := hid hsk'
          clear hs hsk hsk' htk hfl len1 len2 len3 hpr
          go_wp2_with fail
          go_roundw
          case rel =>
            have e : SvSt (sieve (p + 1)).h (sieve (p + 1)).k (sieve (p + 1)).prod w wr := by rw [Hk.out]; exact Hs.out
            exact ⟨p + 1, by omega, by go_num, by rw [Hk.out], e⟩
          case measure => simp [intOf]; omega
    · obtain rfl : p = 312 := by omega
      obtain ⟨eh, ek⟩ := sieve_end
      rw [eh, ek] at hs
      have l8 : (hL.map uv).length = 8 := by kernel_rfl
      have l64 : (kL.map uv).length = 64 := by kernel_rfl
      have s8 : (Try.prog.info? 53).map (·.size) = some (hL.map uv).toArray.size := by kernel_rfl
      have s64 := size35 _ l64
      have o8 : (hL.map uv).toArray.all (·.oneCell') = true := by kernel_rfl
      have o64 : (kL.map uv).toArray.all (·.oneCell') = true := by kernel_rfl
      have hb0 := hs.b0
      have hb1 := hs.b1
      have Hs := hid hs
      have hH : Held w.heap.size (hL.map uv) (kL.map uv) w wr.drew := ⟨range_row hs.b0, there_row hs.b0, range_row hs.b1, there_row hs.b1, below_drewN hs.bel 1⟩
      have k8 : (Try.prog.info? 53).map (·.size) = some (hL.map uv).length := s8
      have k64 : (Try.prog.info? 54).map (·.size) = some (kL.map uv).length := by rw [l64]; exact sz35
      clear hs eh ek hp hlt hb0 hb1 Hs l64 l8
      generalize hXe : hL.map uv = X at *
      generalize hYe : kL.map uv = Y at *
      have HXY := hid (And.intro hXe hYe)
      clear hXe hYe
      go_wp2_with fail
      refine wp_region_held_drew (S := Held w.heap.size X Y w) (by kernel_rfl) hH (fun hH1 => ?_)
      refine wpAnyH_take (i := 0) (v := .agg X.toArray) rfl (by kernel_rfl) (by kernel_rfl) (by kernel_rfl) (fun _ _ _ h => h) (yieldsIf_load_mid (by rfl) 53 (.tmp 0) rfl w.heap.size 0 rfl X _ (fun w h => h.r0) Try.underlying53 rfl k8) hH1 ?_
      refine wpAnyH_take (i := 1) (v := .agg Y.toArray) rfl (by kernel_rfl) (by kernel_rfl) (by kernel_rfl) (fun _ _ _ h => h) (yieldsIf_load_mid (by rfl) 54 (.tmp 1) rfl (w.heap.size + 1) 0 rfl Y _ (fun w h => h.r1) Try.underlying54 rfl k64) hH1 ?_
      refine wpAnyH_ready (rs := [2]) (by kernel_rfl) (by simp) (AllReadyH.cons rfl (fun K hK => ?_) AllReadyH.nil)
      rw [if_pos (by rfl)]
      refine wp_store_mid 53 (.tmp 0) (.tmp 42) rfl w.heap.size 0 X.toArray rfl rfl hH1.t0 s8 o8 ?_
      refine hK.out _ _ (hH1.put0 X rfl) (fun hH2 => ?_)
      refine wpAnyH_ready (rs := [3]) (by kernel_rfl) (by simp) (AllReadyH.cons rfl (fun K hK => ?_) AllReadyH.nil)
      rw [if_pos (by rfl)]
      refine wp_store_mid 54 (.tmp 1) (.tmp 43) rfl (w.heap.size + 1) 0 Y.toArray rfl rfl hH2.t1 s64 o64 ?_
      refine hK.out _ _ (hH2.put1 Y rfl) (fun hH3 => ?_)
      refine wpAnyH_done (by kernel_rfl) ?_ _
      generalize World.setCells _ _ _ _ = W at hH3 ⊢
      go_wp2_with fail
      exact bodyPost_ret (results_cells2 (by kernel_rfl : Try.f34.results = #[.cell 0 53, .cell 1 54]) _ _ w.heap.size (w.heap.size + 1) X Y _ _ rfl rfl hH3.r0 hH3.r1 Try.underlying53 rfl k8 Try.underlying54 rfl k64) rfl ⟨by rw [HXY.out.1, HXY.out.2], hH3.bel⟩
end Go.Proofs.Ytnifhgcdpgokhaa
