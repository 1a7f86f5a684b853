/-
  The document's disk: Crash that keeps bytes of the file.
-/
import Derived.Test.YtgccjclloomfgaaRcr
namespace Go.Proofs.Ytgccjclloomfgaa
open Go.RowKit

theorem rc_cells {W1 q : World} {g g1 : Nat} {a b c d e f i j x y : Value} (T0 : W1.heap[g]? = some (.cells #[a, b, c, d, e, f, i, j] 43 (0, 0))) (T1 : W1.heap[g1]? = some (.cells #[x, y] 40 (0, 0))) (B : Below W1.heap.size W1 q) :
    q.heap[g]? = some (.cells #[a, b, c, d, e, f, i, j] 43 (0, 0)) ∧ q.cell? ⟨g, 1, none⟩ = some b ∧ q.cell? ⟨g, 3, none⟩ = some d ∧ q.cell? ⟨g1, 0, none⟩ = some x ∧ q.cell? ⟨g1, 1, none⟩ = some y := by
  have h0 := (B.block g (lt_of_heap T0)).trans T0
  have h1 := (B.block g1 (lt_of_heap T1)).trans T1
  exact ⟨h0, row_cell h0 1, row_cell h0 3, row_cell h1 0, row_cell h1 1⟩
theorem wpList_app1b {ops : Array Oper} {rest : List Oper} {o : Oper} {a : Act} {Q : Exit → Act → World → Prop} (hgd : o.guard = none) (s x : Operand)
    (ho : o.op = .call { callee := .builtin .append, args := #[s, x], argTypes := #[27, 27] }) (w wr : World) (v : Value) (X : List UInt8) (b : Nat) (hs : a.eval s = v) (hx : a.eval x = .slice (some ⟨wr.heap.size, 0, none⟩) 1 1)
    (h : OwnB w wr v X) (hl : X.length ≤ 10000000) (hb : b < 256)
    (hK : ∀ v' W, Hid (OwnB w W v' (X ++ [UInt8.ofNat b])) → wpList Try.prog ops Q rest (a.put o.dst v') W) : wpList Try.prog ops Q (o :: rest) a (wr.alloc (.cells #[.int .u8 (b : Nat)] 5)) := by
  obtain ⟨i0, hi, hz0, hz1, hz2⟩ := info_parts Try.info5
  refine wpList_append_own _ hgd s x 27 ho w.heap.size 5 i0 (.int .u8 0) 1 1 Try.underlying27 hi hz0 hz1 hz2 rfl (by decide) v X.length (X.map bv) hs (h.own.alloc _) ⟨wr.heap.size, 0, none⟩ 1 1 [bv (UInt8.ofNat b)] hx rfl ?_ ?_ ?_ ?_ ?_ ?_
  · exact one_cell wr _ _ (by simp; omega)
  · intro u hu; simp at hu; subst hu; rfl
  · unfold maxLen; omega
  · omega
  · have := h.bel.size; simp; omega
  · intro v2 W2 hown2 hgrow2 _
    refine hK v2 W2 ⟨by simpa using hown2, ?_⟩
    exact (h.bel.alloc h.bel.size _).grown hgrow2 (by have := h.bel.size; simp; omega) (fun q hq => (h.own.lt q hq).1)
/-- The bytes that are left, in a list of the call's own. -/
structure RcSt (W1 wr : World) (A : Option Addr) (M c : Nat) (Y : List UInt8) : Prop where
  own : wr.ownsRow W1.heap.size 5 1 (.slice A M c) M (Y.map bv)
  bel : Below W1.heap.size W1 wr
theorem RcSt.drew {W1 wr : World} {A : Option Addr} {M c : Nat} {Y : List UInt8} (h : RcSt W1 wr A M c Y) : RcSt W1 wr.drew A M c Y := by
  refine ⟨?_, below_drewN h.bel 1⟩
  obtain ⟨h1, h2⟩ := h.own
  exact ⟨h1, h2⟩
theorem RcSt.far {W1 wr : World} {g M c : Nat} {Y : List UInt8} (h : RcSt W1 wr (some ⟨g, 0, none⟩) M c Y) : W1.heap.size ≤ g := (h.own.lt g rfl).1
theorem RcSt.put {W1 wr : World} {A : Option Addr} {M c : Nat} {Y : List UInt8} (h : RcSt W1 wr A M c Y) {j : Nat} (hj : j < M) (b : UInt8) :
    ∃ g, A = some ⟨g, 0, none⟩ ∧ RcSt W1 (wr.setCell ⟨g, j, none⟩ (.int .u8 (b.toNat : Int))) (some ⟨g, 0, none⟩) M c (Y.set j b) ∧ wr.frozen? ⟨g, j, none⟩ = false ∧ ∃ y, wr.cell? ⟨g, j, none⟩ = some y := by
  obtain ⟨h1, h2⟩ := h.own
  rcases h2 with ⟨_, h0⟩ | ⟨q, cap, cur, hv, hq, hh, hc, hm, hs, ht⟩
  · omega
  · injection hv with e1 e2 e3
    subst e1
    refine ⟨q, rfl, ⟨⟨by simpa using h1, .inr ⟨q, cap, cur.setIfInBounds j (.int .u8 (b.toNat : Int)), by rw [e3], hq, row_set hh j _, hc, hm, by simpa using hs, ?_⟩⟩, ?_⟩, row_free hh _, cur[j]'(by omega), (row_cell hh j).trans (Array.getElem?_eq_getElem _)⟩
    · rw [Array.toList_setIfInBounds, List.take_set, ht, List.map_set]
      rfl
    · exact h.bel.trans ((But.refl (· = q) wr).set ⟨q, j, none⟩ (.int .u8 (b.toNat : Int)) (.inl rfl) |>.below (B := W1.heap.size) (by rintro i rfl; exact hq) h.bel.size)
theorem rc_keep {W1 wr : World} {g j : Nat} {a1 a2 : Addr} {u v1 v2 : Value} (hg : W1.heap.size ≤ g) (h1 : a1.block < W1.heap.size) (h2 : a2.block < W1.heap.size) (h : wr.cell? a1 = some v1 ∧ wr.cell? a2 = some v2) :
    (wr.setCell ⟨g, j, none⟩ u).cell? a1 = some v1 ∧ (wr.setCell ⟨g, j, none⟩ u).cell? a2 = some v2 :=
  ⟨(World.cell?_of_block (Below.heap_setCell wr ⟨g, j, none⟩ u _ (by show a1.block ≠ g; omega))).trans h.1, (World.cell?_of_block (Below.heap_setCell wr ⟨g, j, none⟩ u _ (by show a2.block ≠ g; omega))).trans h.2⟩
theorem rc_end (X junk : List UInt8) (fl j : Nat) (hf : fl ≤ X.length) (h : (junk.length ≠ 0 ∧ j = X.length) ∨ (junk.length = 0 ∧ j = fl)) : jkP X (junkFrom fl X.length) (j - junkFrom fl X.length) junk = junked X fl junk := by
  rcases h with ⟨h1, rfl⟩ | ⟨h1, rfl⟩
  · exact jkP_all X fl junk h1 (by unfold junkFrom; omega)
  · rw [show j - junkFrom j X.length = 0 by unfold junkFrom; omega, jkP_zero]
    unfold junked
    rw [if_pos h1]
set_option maxRecDepth 10000 in
set_option maxHeartbeats 16000000 in
theorem RCrash_pos (d : Dk) (AN : Option Addr) (cN : Nat) (AO : Option Addr) (cO : Nat) (kk : Nat) (J : Option Addr) (jn jc : Nat) (junk : List UInt8) (w : World) (h : RfOk d) (hN : IsBB w w.heap.size AN d.now.length cN d.now) (hO : IsBB w w.heap.size AO d.old.length cO d.old) (hJ : IsBB w w.heap.size J jn jc junk) (hk : (kk : Int) ≤ 9223372036854775807) :
    Calls Try.prog 30 #[.agg (rcells d (.slice AN d.now.length cN) (.slice AO d.old.length cO)), .agg #[.int .i64 (kk : Nat), .slice J jn jc]] w fun r w' => ∃ N' O', r = .returned (.agg (rcells (d.rcrash kk junk) N' O')) ∧ w'.ownsRow w.heap.size 5 1 N' (d.rcrash kk junk).now.length ((d.rcrash kk junk).now.map bv) ∧ w'.ownsRow w.heap.size 5 1 O' (d.rcrash kk junk).now.length ((d.rcrash kk junk).now.map bv) ∧ Below w.heap.size w w' := by
  simp only [rcells]
  obtain rfl := hJ.len
  have hmo := h.mo
  have hnw := h.nw
  have hfl := h.fl
  have hcap := hN.cap
  have hjm : (junk.length : Int) ≤ 140737488355328 := by have := hJ.small; omega
  have HCR : Hid ((d.crash kk junk).now = junked (d.now.take (d.floor + kk)) d.floor junk) := by
    show (if (kk : Int) < 0 then d.old else junked (leftK d.now d.floor (kk : Int).toNat) d.floor junk) = _
    rw [if_neg (by omega)]
    rfl
  have HC1 := fun A B C => hid (copied_any AO d.old cO (((w.alloc A).alloc B).alloc C) (hO.on (fr3 w A B C)))
  have HN := hid hN
  have HJ := hid hJ
  have hL : (d.now.length : Int) ≤ 4194304 := by omega
  have hxl : (d.now.take d.floor).length = d.floor := by rw [List.length_take]; omega
  have hsl := slice_cut AN d.now.length cN d.floor (by omega)
  clear h hO hN hJ
  go_enter Try.func30, Try.ntmps30
  go_upto_region 2 with (go_at_call 50; refine (HC1 _ _ _).out.mono ?_; rintro r W1 ⟨v, rfl, o1, b1⟩; obtain ⟨r0, r1, r2, bT, sT⟩ := three_rows b1; have R0 := hid r0; have R1 := hid r1; have R2 := hid r2; have B1 := hid bT; clear o1 b1 r0 r1 r2 bT)
  clear HC1
  have HN1 := hid (HN.out.on B1.out)
  have HJ1 := hid (HJ.out.on B1.out)
  have hc2 := copied_any AN (d.now.take d.floor) cN W1 (take_isB HN1.out hfl |> fun z => by rw [hxl]; exact z)
  rw [hxl] at hc2
  have HC2 := hid hc2
  have HBX := hid (fun (q : World) (B : Below W1.heap.size W1 q) => rc_cells R0.out R1.out B)
  obtain ⟨_, c1, c3, k0, k1⟩ := HBX.out W1 (Below.refl _ _)
  clear hc2 HN HJ
  have hkz : ¬ (kk : Int) < 0 := by omega
  go_upto_region 4 with (go_at_call 50; refine HC2.out.mono ?_; rintro r W2 ⟨v, rfl, o2, b2⟩; have O2 : Hid (OwnB W1 W2 v (d.now.take d.floor)) := ⟨by rw [hxl]; exact o2, b2⟩; clear o2 b2 c1 c3 k0 k1)
  obtain ⟨_, c1, c3, k0, k1⟩ := HBX.out W2 O2.out.bel
  obtain ⟨fl, hfl0⟩ : ∃ fl, fl = d.floor := ⟨_, rfl⟩
  have HFL := hid hfl0
  rw [← hfl0] at O2 hfl c3 hxl HCR
  clear hsl HC2
  go_wp2_with fail
  clear c1 c3 k0 k1
  go_loopw [5, 6] (fun v i wr => ∃ t : Nat, fl ≤ t ∧ t ≤ d.now.length ∧ t ≤ fl + kk ∧ i = .int .i64 t ∧ Hid (OwnB W1 wr v (d.now.take t))) (fun _ i _ => d.now.length - (intOf i).toNat)
  case atStart => exact ⟨fl, Nat.le_refl _, hfl, by omega, by rw [HFL.out], O2⟩
  case round =>
    obtain ⟨t, htf, htn, htk, rfl, hO⟩ := hrel
    clear O2
    obtain ⟨T0, c1, c3, k0, k1⟩ := HBX.out wr hO.out.bel
    rw [← HFL.out] at c3
    have htz : (t : Int) ≤ 4194304 := by omega
    have hfz : (fl : Int) ≤ (t : Int) := by omega
    by_cases hlt : t < d.now.length ∧ t < fl + kk
    · obtain ⟨hl1, hl2⟩ := hlt
      have z1 : (t : Int) < (d.now.length : Int) := by omega
      have z2 : (t : Int) - (fl : Int) < (kk : Int) := by omega
      obtain ⟨ad, rfl, hc⟩ := HN1.out.lies (by omega)
      obtain ⟨y, hy⟩ : ∃ y : Nat, y = d.now[t].toNat := ⟨_, rfl⟩
      have hy256 : y < 256 := by rw [hy]; exact UInt8.toNat_lt _
      have cy : wr.cell? (ad.add t) = some (.int .u8 (y : Int)) := by rw [hy]; exact (hO.out.bel.cell (lt_of_cell (hc t hl1))).trans (hc t hl1)
      have HNX : Hid (d.now.take t ++ [UInt8.ofNat y] = d.now.take (t + 1)) := by
        show _ = _
        rw [List.take_add_one, List.getElem?_eq_getElem hl1, hy]
        simp
      clear hc hy T0
      go_wp2_with (at_builtin; go_loud (refine wpList_app1b rfl (.tmp 39) (.tmp 45) rfl W1 wr _ (d.now.take t) y rfl rfl hO.out (by rw [List.length_take]; omega) hy256 ?_); intro v' W' hW')
      go_roundw
      case rel => exact ⟨t + 1, by omega, by omega, by omega, by go_num, by rw [← HNX.out]; exact hW'⟩
      case measure => simp [intOf]; omega
    · obtain ⟨X, hX⟩ : ∃ X, X = d.now.take t := ⟨_, rfl⟩
      have hXt : X.length = t := by rw [hX, List.length_take]; omega
      have hXk : X = d.now.take (fl + kk) := by
        rw [hX]
        rcases Nat.lt_or_ge t d.now.length with h9 | h9
        · rw [show t = fl + kk by omega]
        · rw [List.take_of_length_le (by omega), List.take_of_length_le (by omega)]
      rw [← hXk] at HCR
      rw [← hX] at hO
      obtain ⟨M, hM⟩ : ∃ M, X.length = M := ⟨_, rfl⟩
      have ho := hO.out.own
      have hbl := hO.out.bel
      rw [hM] at ho
      obtain ⟨Av, cv, rfl⟩ := own_sl ho
      have HS0 : Hid (RcSt W1 wr Av M cv X) := ⟨ho, hbl⟩
      have hMz : M ≤ 4194304 := by omega
      have hfM : fl ≤ M := by omega
      have hex : (¬ (t : Int) < (d.now.length : Int)) ∨ ((t : Int) < (d.now.length : Int) ∧ ¬ (t : Int) - (fl : Int) < (kk : Int)) := by omega
      obtain ⟨f, hf⟩ : ∃ f, f = junkFrom fl M := ⟨_, rfl⟩
      have hf0 : fl ≤ f := by rw [hf]; unfold junkFrom; omega
      have hflast : ∀ j, fl ≤ j → j < M → (f ≤ j ↔ j / 512 = (M - 1) / 512) := by
        intro j h1 h2
        rw [hf, ← junk_place fl M j h2]
        exact ⟨fun h => h.2, fun h => ⟨h1, h⟩⟩
      have HFM := hid (And.intro hf hM)
      have HFL2 := hid hflast
      obtain ⟨W5, hW5⟩ : ∃ W, W = wr := ⟨_, rfl⟩
      clear ho hbl hX hXt hXk hlt htn htk HN1 hf hM hO htf hflast
      rw [← hW5] at HS0 c1 c3 k0 k1 ⊢
      clear hW5 T0
      rcases hex with he1 | ⟨he1, he2⟩
      · go_wp2_with fail
        clear c1 c3 k0 k1
        go_loopw [7, 8] (fun n i wr => ∃ j : Nat, fl ≤ j ∧ j ≤ M ∧ i = .int .i64 j ∧ n = .int .i64 (j - f : Nat) ∧ (junk.length = 0 → j = fl) ∧ Hid (RcSt W1 wr Av M cv (jkP X f (j - f) junk))) (fun _ i _ => M - (intOf i).toNat)
        case atStart => exact ⟨fl, Nat.le_refl _, hfM, by rw [HFL.out], by rw [show fl - f = 0 by omega]; rfl, fun _ => rfl, by rw [show fl - f = 0 by omega, jkP_zero]; exact HS0⟩
        case round =>
          obtain ⟨j, hjf, hjM, rfl, rfl, hj0, hS⟩ := hrel
          clear HS0
          obtain ⟨T0, c1, c3, k0, k1⟩ := HBX.out wr hS.out.bel
          rw [← HFL.out] at c3
          have hjz : (j : Int) ≤ 4194304 := by omega
          obtain ⟨m, hm⟩ : ∃ m, j - f = m := ⟨_, rfl⟩
          rw [hm] at hS ⊢
          have hmz : (m : Int) ≤ 4194304 := by omega
          by_cases hlt : j < M ∧ junk.length ≠ 0
          · obtain ⟨hl1, hl2⟩ := hlt
            have z1 : (j : Int) < (M : Int) := by omega
            have z2 : (0 : Int) < (junk.length : Int) := by omega
            obtain ⟨q, hq⟩ : ∃ q : Nat, q = (M - 1) / 512 := ⟨_, rfl⟩
            have ed1 : ((M : Int) - 1) / 512 = (q : Int) := by omega
            have ed2 : Int.tdiv ((M : Int) - 1) 512 = (q : Int) := by rw [Int.tdiv_eq_ediv_of_nonneg (by omega)]; omega
            have hMz2 : (M : Int) ≤ 4194304 := by omega
            have hM1 : (1 : Int) ≤ (M : Int) := by omega
            have hiff := HFL2.out j hjf hl1
            rw [← hq] at hiff
            have hqz : (q : Int) ≤ 8192 := by omega
            by_cases hfj : f ≤ j
            · have hjq := hiff.1 hfj
              have ed3 : (j : Int) / 512 = (q : Int) := by omega
              have ed4 : Int.tdiv (j : Int) 512 = (q : Int) := by rw [Int.tdiv_eq_ediv_of_nonneg (by omega)]; omega
              clear hiff hjq hq T0 c1 c3 k0
              obtain ⟨r, hr⟩ : ∃ r, r = m % junk.length := ⟨_, rfl⟩
              have hrn : r < junk.length := by rw [hr]; exact Nat.mod_lt _ (by omega)
              have er1 : (m : Int) % (junk.length : Int) = (r : Int) := by rw [hr]; exact (Int.natCast_emod m junk.length).symm
              have er2 : Int.tmod (m : Int) (junk.length : Int) = (r : Int) := by rw [Int.tmod_eq_emod_of_nonneg (by omega)]; exact er1
              have hn0 : ¬ ((junk.length : Int) = 0) := by omega
              have hrz : (r : Int) < (junk.length : Int) := by omega
              obtain ⟨aj, rfl, hcj⟩ := HJ1.out.lies (by omega)
              obtain ⟨b, hb⟩ : ∃ b, b = junk[r] := ⟨_, rfl⟩
              have hajl : aj.block < W1.heap.size := by have := lt_of_cell (hcj r hrn); rwa [block_of_add] at this
              have sTb : (⟨w.heap.size + 1, 1, none⟩ : Addr).block < W1.heap.size := by show w.heap.size + 1 < _; omega
              have cj : wr.cell? (aj.add r) = some (.int .u8 (b.toNat : Int)) := by rw [hb]; exact (hS.out.bel.cell (lt_of_cell (hcj r hrn))).trans (hcj r hrn)
              have hgd : junk.getD (m % junk.length) 0 = b := by rw [← hr, hb, List.getD_eq_getElem?_getD, List.getElem?_eq_getElem hrn]; rfl
              have hfm : f + m = j := by omega
              have hnx := jkP_next X f m junk (by have := HFM.out.2; omega)
              rw [hgd, hfm] at hnx
              obtain ⟨gA, rfl, HS⟩ := hS.out.drew.put (j := j) (by omega) b
              rw [hnx] at HS
              obtain ⟨fy, yv, cy⟩ := HS.2
              have cy' : wr.cell? ⟨gA, j, none⟩ = some yv := cy
              have HS1 := hid HS.1
              clear hcj hb hgd hnx hr HS
              go_upto_region 13 with fail
              refine wp_region_held_drew (S := fun w' => w'.cell? ⟨w.heap.size + 1, 1, none⟩ = some (.slice (some aj) junk.length jc) ∧ w'.cell? (aj.add r) = some (.int .u8 (b.toNat : Int))) (by kernel_rfl) ⟨k1, cj⟩ (fun hH => ?_)
              refine wpAnyH_take (i := 0) (oi := ⟨some 68, _, _, _, _, _⟩) (v := .slice (some ⟨gA, 0, none⟩) M cv) rfl (by kernel_rfl) (by kernel_rfl) (by kernel_rfl) (fun _ _ _ h => h) (Or.inl ⟨by rfl, by intro w hSw; go_simp⟩) hH ?_
              try simp only [Act.put, List.setIfInBounds_toArray, List.set_cons_zero, List.set_cons_succ]
              refine wpAnyH_take (i := 1) (oi := ⟨some 69, _, _, _, _, _⟩) (v := .int .i64 (j : Nat)) rfl (by kernel_rfl) (by kernel_rfl) (by kernel_rfl) (fun _ _ _ h => h) (Or.inl ⟨by rfl, by intro w hSw; go_simp⟩) hH ?_
              try simp only [Act.put, List.setIfInBounds_toArray, List.set_cons_zero, List.set_cons_succ]
              refine wpAnyH_take (i := 2) (oi := ⟨some 70, _, _, _, _, _⟩) (v := .pointer (some ⟨w.heap.size + 1, 1, none⟩)) rfl (by kernel_rfl) (by kernel_rfl) (by kernel_rfl) (fun _ _ _ h => h) (Or.inl ⟨by rfl, by intro w hSw; go_simp⟩) hH ?_
              try simp only [Act.put, List.setIfInBounds_toArray, List.set_cons_zero, List.set_cons_succ]
              refine wpAnyH_take (i := 3) (oi := ⟨some 71, _, _, _, _, _⟩) (v := .slice (some aj) junk.length jc) rfl (by kernel_rfl) (by kernel_rfl) (by kernel_rfl) (fun _ _ _ h => h) (Or.inl ⟨by rfl, by intro w hSw; go_simp⟩) hH ?_
              try simp only [Act.put, List.setIfInBounds_toArray, List.set_cons_zero, List.set_cons_succ]
              refine wpAnyH_take (i := 4) (oi := ⟨some 72, _, _, _, _, _⟩) (v := .int .i64 (m : Nat)) rfl (by kernel_rfl) (by kernel_rfl) (by kernel_rfl) (fun _ _ _ h => h) (Or.inl ⟨by rfl, by intro w hSw; go_simp⟩) hH ?_
              try simp only [Act.put, List.setIfInBounds_toArray, List.set_cons_zero, List.set_cons_succ]
              refine wpAnyH_take (i := 5) (oi := ⟨some 73, _, _, _, _, _⟩) (v := .pointer (some ⟨w.heap.size + 1, 1, none⟩)) rfl (by kernel_rfl) (by kernel_rfl) (by kernel_rfl) (fun _ _ _ h => h) (Or.inl ⟨by rfl, by intro w hSw; go_simp⟩) hH ?_
              try simp only [Act.put, List.setIfInBounds_toArray, List.set_cons_zero, List.set_cons_succ]
              refine wpAnyH_take (i := 6) (oi := ⟨some 74, _, _, _, _, _⟩) (v := .slice (some aj) junk.length jc) rfl (by kernel_rfl) (by kernel_rfl) (by kernel_rfl) (fun _ _ _ h => h) (Or.inl ⟨by rfl, by intro w hSw; go_simp⟩) hH ?_
              try simp only [Act.put, List.setIfInBounds_toArray, List.set_cons_zero, List.set_cons_succ]
              refine wpAnyH_take (i := 7) (oi := ⟨some 75, _, _, _, _, _⟩) (v := .int .i64 (junk.length : Nat)) rfl (by kernel_rfl) (by kernel_rfl) (by kernel_rfl) (fun _ _ _ h => h) (Or.inl ⟨by rfl, by intro w hSw; go_simp⟩) hH ?_
              try simp only [Act.put, List.setIfInBounds_toArray, List.set_cons_zero, List.set_cons_succ]
              refine wpAnyH_take (i := 8) (oi := ⟨some 76, _, _, _, _, _⟩) (v := .int .i64 (r : Nat)) rfl (by kernel_rfl) (by kernel_rfl) (by kernel_rfl) (fun _ _ _ h => h) (Or.inl ⟨by rfl, by intro w hSw; go_simp⟩) hH ?_
              try simp only [Act.put, List.setIfInBounds_toArray, List.set_cons_zero, List.set_cons_succ]
              refine wpAnyH_take (i := 9) (oi := ⟨some 77, _, _, _, _, _⟩) (v := .pointer (some (aj.add r))) rfl (by kernel_rfl) (by kernel_rfl) (by kernel_rfl) (fun _ _ _ h => h) (Or.inl ⟨by rfl, by intro w hSw; go_simp⟩) hH ?_
              try simp only [Act.put, List.setIfInBounds_toArray, List.set_cons_zero, List.set_cons_succ]
              refine wpAnyH_take (i := 10) (oi := ⟨some 78, _, _, _, _, _⟩) (v := .int .u8 (b.toNat : Int)) rfl (by kernel_rfl) (by kernel_rfl) (by kernel_rfl) (fun _ _ _ h => h) (Or.inl ⟨by rfl, by intro w hSw; go_simp⟩) hH ?_
              try simp only [Act.put, List.setIfInBounds_toArray, List.set_cons_zero, List.set_cons_succ]
              refine wpAnyH_take (i := 11) (oi := ⟨some 79, _, _, _, _, _⟩) (v := .pointer (some ⟨gA, j, none⟩)) rfl (by kernel_rfl) (by kernel_rfl) (by kernel_rfl) (fun _ _ _ h => h) (Or.inl ⟨by rfl, by intro w hSw; go_simp⟩) hH ?_
              try simp only [Act.put, List.setIfInBounds_toArray, List.set_cons_zero, List.set_cons_succ]
              refine wpAnyH_ready (rs := [12]) (by kernel_rfl) (by simp) (AllReadyH.cons rfl (fun K hK => ?_) AllReadyH.nil)
              go_simp
              refine hK.out _ _ (rc_keep HS1.out.far sTb (by rw [block_of_add]; exact hajl) hH) (fun hH2 => ?_)
              clear hK K
              refine wpAnyH_done (by kernel_rfl) ?_ _
              clear hH hH2
              go_wp2_with fail
              go_roundw
              case rel => exact ⟨j + 1, by omega, by omega, by go_num, (by congr 1; omega), fun h => absurd h (by omega), by rw [show j + 1 - f = m + 1 by omega]; exact HS1.out⟩
              case measure => simp [intOf]; omega
            · have hjq : ¬ j / 512 = q := fun e => hfj (hiff.2 e)
              obtain ⟨q2, hq2⟩ : ∃ q2 : Nat, q2 = j / 512 := ⟨_, rfl⟩
              have ed3 : (j : Int) / 512 = (q2 : Int) := by omega
              have ed4 : Int.tdiv (j : Int) 512 = (q2 : Int) := by rw [Int.tdiv_eq_ediv_of_nonneg (by omega)]; omega
              have hne1 : ((q2 : Int) == (q : Int)) = false := by simp; omega
              have hne2 : decide ((q2 : Int) = (q : Int)) = false := by simp; omega
              have hqz2 : (q2 : Int) ≤ 8192 := by omega
              clear hiff hjq hq hq2 T0 c1 c3 k0
              go_wp2_with fail
              go_roundw
              case rel => exact ⟨j + 1, by omega, by omega, by go_num, (by congr 2; omega), fun h => absurd h hl2, by rw [show j + 1 - f = m by omega]; exact hS⟩
              case measure => simp [intOf]; omega
          · obtain ⟨Y, hY⟩ : ∃ Y, Y = jkP X f m junk := ⟨_, rfl⟩
            have hYM : Y.length = M := by rw [hY, jkP_len]; exact HFM.out.2
            have HX : Hid (Y = (d.crash kk junk).now) := by
              show Y = _
              rw [HCR.out, hY, ← hm]
              obtain ⟨e1, e2⟩ := HFM.out
              have e3 := rc_end X junk fl j (by omega) (by
                by_cases h9 : junk.length = 0
                · exact .inr ⟨h9, hj0 h9⟩
                · exact .inl ⟨h9, by omega⟩)
              rw [e2, ← e1] at e3
              exact e3
            rw [← hY] at hS
            have hex2 : (¬ (j : Int) < (M : Int)) ∨ ((j : Int) < (M : Int) ∧ ¬ (0 : Int) < (junk.length : Int)) := by omega
            obtain ⟨wt, hwt⟩ : ∃ W, W = wr := ⟨_, rfl⟩
            rw [← hwt] at hS c1 c3 k0 k1 T0 ⊢
            have HT0 := hid T0
            have T2 : Hid (wt.heap[w.heap.size + 1 + 1]? = some (.cells #[.int .i64 0, .slice none 0 0, .slice none 0 0, .int .i64 0, .bool false, .int .i64 0, .int .i64 0, .int .i64 0] 43 (0, 0))) := (hS.out.bel.block _ (by omega)).trans R2.out
            have BT := hid (B1.out.trans (hS.out.bel.mono B1.out.size))
            have sT2 : w.heap.size + 1 + 1 < wt.heap.size := Nat.lt_of_lt_of_le sT hS.out.bel.size
            have hT := own_base (b2 := w.heap.size) hS.out.own (by omega)
            clear hY hlt hj0 hjM HFM HCR HFL2 hwt R0 R1 R2 HJ1 HBX B1 T0 hm hjf
            have hYz : M ≤ 4194304 := hMz
            subst hYM
            have HT := hid hT
            have T0 := HT0
            clear HT0 hT hS sT
            have sT := sT2
            rcases hex2 with hf1 | ⟨hf1, hf2⟩
            · go_upto_region 15 with fail
              clear c1 c3 k0 k1
              have hI := own_isB2 HT.out (by omega)
              have HC := hid (copied_any Av Y cv wt.drew hI.drew)
              clear hI
              refine wp_region_held_drew (S := fun w' => w'.heap[w.heap.size]? = some (.cells #[.int .i64 (d.most : Nat), .slice AN d.now.length cN, .slice AO d.old.length cO, .int .i64 (d.floor : Nat), .bool d.down, .int .i64 (d.armed : Nat), .int .i64 (d.fails : Nat), .int .i64 (d.err : Nat)] 43 (0, 0))) (by kernel_rfl) T0.out (fun hH => ?_)
              refine wpAnyH_take (i := 0) (oi := ⟨some 82, _, _, _, _, _⟩) (v := .pointer (some ⟨w.heap.size, 0, none⟩)) rfl (by kernel_rfl) (by kernel_rfl) (by kernel_rfl) (fun _ _ _ h => h) (Or.inl ⟨by rfl, by intro w hSw; go_simp⟩) hH ?_
              try simp only [Act.put, List.setIfInBounds_toArray, List.set_cons_zero, List.set_cons_succ]
              refine wpAnyH_take (i := 1) (oi := ⟨some 83, _, _, _, _, _⟩) (v := .int .i64 (d.most : Nat)) rfl (by kernel_rfl) (by kernel_rfl) (by kernel_rfl) (fun _ _ _ h => h) (Or.inl ⟨by rfl, by intro w hSw; obtain ⟨c0, c1, c2, c3, c4, c5, c6, c7⟩ := rcells_at hSw; go_simp⟩) hH ?_
              try simp only [Act.put, List.setIfInBounds_toArray, List.set_cons_zero, List.set_cons_succ]
              refine wpAnyH_take (i := 2) (oi := ⟨some 84, _, _, _, _, _⟩) (v := .slice Av Y.length cv) rfl (by kernel_rfl) (by kernel_rfl) (by kernel_rfl) (fun _ _ _ h => h) (Or.inl ⟨by rfl, by intro w hSw; go_simp⟩) hH ?_
              try simp only [Act.put, List.setIfInBounds_toArray, List.set_cons_zero, List.set_cons_succ]
              refine wpAnyH_take (i := 3) (oi := ⟨some 85, _, _, _, _, _⟩) (v := .slice Av Y.length cv) rfl (by kernel_rfl) (by kernel_rfl) (by kernel_rfl) (fun _ _ _ h => h) (Or.inl ⟨by rfl, by intro w hSw; go_simp⟩) hH ?_
              try simp only [Act.put, List.setIfInBounds_toArray, List.set_cons_zero, List.set_cons_succ]
              refine wpAnyH_take (i := 5) (oi := ⟨some 87, _, _, _, _, _⟩) (v := .slice Av Y.length cv) rfl (by kernel_rfl) (by kernel_rfl) (by kernel_rfl) (fun _ _ _ h => h) (Or.inl ⟨by rfl, by intro w hSw; go_simp⟩) hH ?_
              try simp only [Act.put, List.setIfInBounds_toArray, List.set_cons_zero, List.set_cons_succ]
              refine wpAnyH_take (i := 6) (oi := ⟨some 88, _, _, _, _, _⟩) (v := .int .i64 (Y.length : Nat)) rfl (by kernel_rfl) (by kernel_rfl) (by kernel_rfl) (fun _ _ _ h => h) (Or.inl ⟨by rfl, by intro w hSw; go_simp⟩) hH ?_
              try simp only [Act.put, List.setIfInBounds_toArray, List.set_cons_zero, List.set_cons_succ]
              refine wpAnyH_ready (rs := [4]) (by kernel_rfl) (by simp) (AllReadyH.cons rfl (fun K hK => ?_) AllReadyH.nil)
              go_simp
              go_at_call 50
              refine HC.out.mono ?_
              rintro r W8 ⟨v9, rfl, o9, b9⟩
              obtain ⟨A9, k9, rfl⟩ := own_sl o9
              have b9' := below_at rfl b9
              have U0 := hid ((b9'.block w.heap.size (by omega)).trans T0.out)
              have U2 := hid ((b9'.block (w.heap.size + 1 + 1) (by omega)).trans T2.out)
              have U3 := hid (own_below HT.out b9')
              have B8 := hid (BT.out.trans (b9'.mono BT.out.size))
              have s8 : w.heap.size + 1 + 1 < W8.heap.size := Nat.lt_of_lt_of_le sT b9'.size
              have O9 := hid (own_base (b2 := w.heap.size) (own_at (k := wt.heap.size) rfl o9) (by omega))
              clear o9 b9 b9' HT
              try dsimp only
              refine hK.out _ _ U0.out (fun hH2 => ?_)
              clear hK K
              refine wpAnyH_take (i := 7) (oi := ⟨some 89, _, _, _, _, _⟩) (v := .agg #[.int .i64 (d.most : Nat), .slice Av Y.length cv, .slice A9 Y.length k9, .int .i64 (Y.length : Nat), .bool false, .int .i64 0, .int .i64 0, .int .i64 0]) rfl (by kernel_rfl) (by kernel_rfl) (by kernel_rfl) (fun _ _ _ h => h) (Or.inl ⟨by rfl, by intro w hSw; go_simp⟩) hH2 ?_
              try simp only [Act.put, List.setIfInBounds_toArray, List.set_cons_zero, List.set_cons_succ]
              refine wpAnyH_ready (rs := [8]) (by kernel_rfl) (by simp) (AllReadyH.cons rfl (fun K hK => ?_) AllReadyH.nil)
              refine wp_store_row (o := ⟨none, .store 43 (.tmp 4) (.tmp 89), _, _, _, _⟩) 43 (.tmp 4) (.tmp 89) rfl (w.heap.size + 1 + 1) #[.int .i64 (d.most : Nat), .slice Av Y.length cv, .slice A9 Y.length k9, .int .i64 (Y.length : Nat), .bool false, .int .i64 0, .int .i64 0, .int .i64 0] rfl rfl 43 _ U2.out (by kernel_rfl) rfl (all8 ..) ?_
              have q1 : Hid ((W8.setRow (w.heap.size + 1 + 1) #[.int .i64 (d.most : Nat), .slice Av Y.length cv, .slice A9 Y.length k9, .int .i64 (Y.length : Nat), .bool false, .int .i64 0, .int .i64 0, .int .i64 0]).heap[w.heap.size + 1 + 1]? = some (.cells #[.int .i64 (d.most : Nat), .slice Av Y.length cv, .slice A9 Y.length k9, .int .i64 (Y.length : Nat), .bool false, .int .i64 0, .int .i64 0, .int .i64 0] 43 (0, 0))) := setRow_heap W8 (w.heap.size + 1 + 1) _ _ 43 _ U2.out
              have bb : Hid (But (· = w.heap.size + 1 + 1) W8 (W8.setRow (w.heap.size + 1 + 1) #[.int .i64 (d.most : Nat), .slice Av Y.length cv, .slice A9 Y.length k9, .int .i64 (Y.length : Nat), .bool false, .int .i64 0, .int .i64 0, .int .i64 0])) := ⟨rfl, rfl, rfl, by simp [World.setRow], fun i _ hn => setRow_other W8 (w.heap.size + 1 + 1) i _ (fun e => hn e)⟩
              generalize W8.setRow (w.heap.size + 1 + 1) #[.int .i64 (d.most : Nat), .slice Av Y.length cv, .slice A9 Y.length k9, .int .i64 (Y.length : Nat), .bool false, .int .i64 0, .int .i64 0, .int .i64 0] = W9 at q1 bb ⊢
              try simp only [Act.put, List.setIfInBounds_toArray, List.set_cons_zero, List.set_cons_succ]
              refine hK.out _ _ ((bb.out.block w.heap.size (by omega) (fun e => absurd (show w.heap.size = w.heap.size + 1 + 1 from e) (by omega))).trans U0.out) (fun hH3 => ?_)
              clear hK K
              refine wpAnyH_done (by kernel_rfl) ?_ _
              clear hH hH2 hH3
              go_wp2_with fail
              refine bodyPost_ret (results_d0 (by kernel_rfl : Try.f30.results = #[.cell 4 43]) _ _ (w.heap.size + 1 + 1) _ _ _ rfl q1.out rfl) rfl ?_
              have e1 := own_gne U3.out U2.out (by decide)
              have e2 := own_gne O9.out U2.out (by decide)
              have hx := HX.out
              refine ⟨.slice Av Y.length cv, .slice A9 Y.length k9, rcrash_cells hx .., ?_, ?_, B8.out.trans (bb.out.below (B := w.heap.size) (by rintro i rfl; omega) B8.out.size)⟩
              · show World.ownsRow _ _ _ _ _ (d.crash kk junk).now.length ((d.crash kk junk).now.map bv)
                rw [← hx]
                exact ownsRow_but U3.out bb.out e1
              · show World.ownsRow _ _ _ _ _ (d.crash kk junk).now.length ((d.crash kk junk).now.map bv)
                rw [← hx]
                exact ownsRow_but O9.out bb.out e2
            · go_upto_region 15 with fail
              clear c1 c3 k0 k1
              have hI := own_isB2 HT.out (by omega)
              have HC := hid (copied_any Av Y cv wt.drew hI.drew)
              clear hI
              refine wp_region_held_drew (S := fun w' => w'.heap[w.heap.size]? = some (.cells #[.int .i64 (d.most : Nat), .slice AN d.now.length cN, .slice AO d.old.length cO, .int .i64 (d.floor : Nat), .bool d.down, .int .i64 (d.armed : Nat), .int .i64 (d.fails : Nat), .int .i64 (d.err : Nat)] 43 (0, 0))) (by kernel_rfl) T0.out (fun hH => ?_)
              refine wpAnyH_take (i := 0) (oi := ⟨some 82, _, _, _, _, _⟩) (v := .pointer (some ⟨w.heap.size, 0, none⟩)) rfl (by kernel_rfl) (by kernel_rfl) (by kernel_rfl) (fun _ _ _ h => h) (Or.inl ⟨by rfl, by intro w hSw; go_simp⟩) hH ?_
              try simp only [Act.put, List.setIfInBounds_toArray, List.set_cons_zero, List.set_cons_succ]
              refine wpAnyH_take (i := 1) (oi := ⟨some 83, _, _, _, _, _⟩) (v := .int .i64 (d.most : Nat)) rfl (by kernel_rfl) (by kernel_rfl) (by kernel_rfl) (fun _ _ _ h => h) (Or.inl ⟨by rfl, by intro w hSw; obtain ⟨c0, c1, c2, c3, c4, c5, c6, c7⟩ := rcells_at hSw; go_simp⟩) hH ?_
              try simp only [Act.put, List.setIfInBounds_toArray, List.set_cons_zero, List.set_cons_succ]
              refine wpAnyH_take (i := 2) (oi := ⟨some 84, _, _, _, _, _⟩) (v := .slice Av Y.length cv) rfl (by kernel_rfl) (by kernel_rfl) (by kernel_rfl) (fun _ _ _ h => h) (Or.inl ⟨by rfl, by intro w hSw; go_simp⟩) hH ?_
              try simp only [Act.put, List.setIfInBounds_toArray, List.set_cons_zero, List.set_cons_succ]
              refine wpAnyH_take (i := 3) (oi := ⟨some 85, _, _, _, _, _⟩) (v := .slice Av Y.length cv) rfl (by kernel_rfl) (by kernel_rfl) (by kernel_rfl) (fun _ _ _ h => h) (Or.inl ⟨by rfl, by intro w hSw; go_simp⟩) hH ?_
              try simp only [Act.put, List.setIfInBounds_toArray, List.set_cons_zero, List.set_cons_succ]
              refine wpAnyH_take (i := 5) (oi := ⟨some 87, _, _, _, _, _⟩) (v := .slice Av Y.length cv) rfl (by kernel_rfl) (by kernel_rfl) (by kernel_rfl) (fun _ _ _ h => h) (Or.inl ⟨by rfl, by intro w hSw; go_simp⟩) hH ?_
              try simp only [Act.put, List.setIfInBounds_toArray, List.set_cons_zero, List.set_cons_succ]
              refine wpAnyH_take (i := 6) (oi := ⟨some 88, _, _, _, _, _⟩) (v := .int .i64 (Y.length : Nat)) rfl (by kernel_rfl) (by kernel_rfl) (by kernel_rfl) (fun _ _ _ h => h) (Or.inl ⟨by rfl, by intro w hSw; go_simp⟩) hH ?_
              try simp only [Act.put, List.setIfInBounds_toArray, List.set_cons_zero, List.set_cons_succ]
              refine wpAnyH_ready (rs := [4]) (by kernel_rfl) (by simp) (AllReadyH.cons rfl (fun K hK => ?_) AllReadyH.nil)
              go_simp
              go_at_call 50
              refine HC.out.mono ?_
              rintro r W8 ⟨v9, rfl, o9, b9⟩
              obtain ⟨A9, k9, rfl⟩ := own_sl o9
              have b9' := below_at rfl b9
              have U0 := hid ((b9'.block w.heap.size (by omega)).trans T0.out)
              have U2 := hid ((b9'.block (w.heap.size + 1 + 1) (by omega)).trans T2.out)
              have U3 := hid (own_below HT.out b9')
              have B8 := hid (BT.out.trans (b9'.mono BT.out.size))
              have s8 : w.heap.size + 1 + 1 < W8.heap.size := Nat.lt_of_lt_of_le sT b9'.size
              have O9 := hid (own_base (b2 := w.heap.size) (own_at (k := wt.heap.size) rfl o9) (by omega))
              clear o9 b9 b9' HT
              try dsimp only
              refine hK.out _ _ U0.out (fun hH2 => ?_)
              clear hK K
              refine wpAnyH_take (i := 7) (oi := ⟨some 89, _, _, _, _, _⟩) (v := .agg #[.int .i64 (d.most : Nat), .slice Av Y.length cv, .slice A9 Y.length k9, .int .i64 (Y.length : Nat), .bool false, .int .i64 0, .int .i64 0, .int .i64 0]) rfl (by kernel_rfl) (by kernel_rfl) (by kernel_rfl) (fun _ _ _ h => h) (Or.inl ⟨by rfl, by intro w hSw; go_simp⟩) hH2 ?_
              try simp only [Act.put, List.setIfInBounds_toArray, List.set_cons_zero, List.set_cons_succ]
              refine wpAnyH_ready (rs := [8]) (by kernel_rfl) (by simp) (AllReadyH.cons rfl (fun K hK => ?_) AllReadyH.nil)
              refine wp_store_row (o := ⟨none, .store 43 (.tmp 4) (.tmp 89), _, _, _, _⟩) 43 (.tmp 4) (.tmp 89) rfl (w.heap.size + 1 + 1) #[.int .i64 (d.most : Nat), .slice Av Y.length cv, .slice A9 Y.length k9, .int .i64 (Y.length : Nat), .bool false, .int .i64 0, .int .i64 0, .int .i64 0] rfl rfl 43 _ U2.out (by kernel_rfl) rfl (all8 ..) ?_
              have q1 : Hid ((W8.setRow (w.heap.size + 1 + 1) #[.int .i64 (d.most : Nat), .slice Av Y.length cv, .slice A9 Y.length k9, .int .i64 (Y.length : Nat), .bool false, .int .i64 0, .int .i64 0, .int .i64 0]).heap[w.heap.size + 1 + 1]? = some (.cells #[.int .i64 (d.most : Nat), .slice Av Y.length cv, .slice A9 Y.length k9, .int .i64 (Y.length : Nat), .bool false, .int .i64 0, .int .i64 0, .int .i64 0] 43 (0, 0))) := setRow_heap W8 (w.heap.size + 1 + 1) _ _ 43 _ U2.out
              have bb : Hid (But (· = w.heap.size + 1 + 1) W8 (W8.setRow (w.heap.size + 1 + 1) #[.int .i64 (d.most : Nat), .slice Av Y.length cv, .slice A9 Y.length k9, .int .i64 (Y.length : Nat), .bool false, .int .i64 0, .int .i64 0, .int .i64 0])) := ⟨rfl, rfl, rfl, by simp [World.setRow], fun i _ hn => setRow_other W8 (w.heap.size + 1 + 1) i _ (fun e => hn e)⟩
              generalize W8.setRow (w.heap.size + 1 + 1) #[.int .i64 (d.most : Nat), .slice Av Y.length cv, .slice A9 Y.length k9, .int .i64 (Y.length : Nat), .bool false, .int .i64 0, .int .i64 0, .int .i64 0] = W9 at q1 bb ⊢
              try simp only [Act.put, List.setIfInBounds_toArray, List.set_cons_zero, List.set_cons_succ]
              refine hK.out _ _ ((bb.out.block w.heap.size (by omega) (fun e => absurd (show w.heap.size = w.heap.size + 1 + 1 from e) (by omega))).trans U0.out) (fun hH3 => ?_)
              clear hK K
              refine wpAnyH_done (by kernel_rfl) ?_ _
              clear hH hH2 hH3
              go_wp2_with fail
              refine bodyPost_ret (results_d0 (by kernel_rfl : Try.f30.results = #[.cell 4 43]) _ _ (w.heap.size + 1 + 1) _ _ _ rfl q1.out rfl) rfl ?_
              have e1 := own_gne U3.out U2.out (by decide)
              have e2 := own_gne O9.out U2.out (by decide)
              have hx := HX.out
              refine ⟨.slice Av Y.length cv, .slice A9 Y.length k9, rcrash_cells hx .., ?_, ?_, B8.out.trans (bb.out.below (B := w.heap.size) (by rintro i rfl; omega) B8.out.size)⟩
              · show World.ownsRow _ _ _ _ _ (d.crash kk junk).now.length ((d.crash kk junk).now.map bv)
                rw [← hx]
                exact ownsRow_but U3.out bb.out e1
              · show World.ownsRow _ _ _ _ _ (d.crash kk junk).now.length ((d.crash kk junk).now.map bv)
                rw [← hx]
                exact ownsRow_but O9.out bb.out e2
      · go_wp2_with fail
        clear c1 c3 k0 k1
        go_loopw [7, 8] (fun n i wr => ∃ j : Nat, fl ≤ j ∧ j ≤ M ∧ i = .int .i64 j ∧ n = .int .i64 (j - f : Nat) ∧ (junk.length = 0 → j = fl) ∧ Hid (RcSt W1 wr Av M cv (jkP X f (j - f) junk))) (fun _ i _ => M - (intOf i).toNat)
        case atStart => exact ⟨fl, Nat.le_refl _, hfM, by rw [HFL.out], by rw [show fl - f = 0 by omega]; rfl, fun _ => rfl, by rw [show fl - f = 0 by omega, jkP_zero]; exact HS0⟩
        case round =>
          obtain ⟨j, hjf, hjM, rfl, rfl, hj0, hS⟩ := hrel
          clear HS0
          obtain ⟨T0, c1, c3, k0, k1⟩ := HBX.out wr hS.out.bel
          rw [← HFL.out] at c3
          have hjz : (j : Int) ≤ 4194304 := by omega
          obtain ⟨m, hm⟩ : ∃ m, j - f = m := ⟨_, rfl⟩
          rw [hm] at hS ⊢
          have hmz : (m : Int) ≤ 4194304 := by omega
          by_cases hlt : j < M ∧ junk.length ≠ 0
          · obtain ⟨hl1, hl2⟩ := hlt
            have z1 : (j : Int) < (M : Int) := by omega
            have z2 : (0 : Int) < (junk.length : Int) := by omega
            obtain ⟨q, hq⟩ : ∃ q : Nat, q = (M - 1) / 512 := ⟨_, rfl⟩
            have ed1 : ((M : Int) - 1) / 512 = (q : Int) := by omega
            have ed2 : Int.tdiv ((M : Int) - 1) 512 = (q : Int) := by rw [Int.tdiv_eq_ediv_of_nonneg (by omega)]; omega
            have hMz2 : (M : Int) ≤ 4194304 := by omega
            have hM1 : (1 : Int) ≤ (M : Int) := by omega
            have hiff := HFL2.out j hjf hl1
            rw [← hq] at hiff
            have hqz : (q : Int) ≤ 8192 := by omega
            by_cases hfj : f ≤ j
            · have hjq := hiff.1 hfj
              have ed3 : (j : Int) / 512 = (q : Int) := by omega
              have ed4 : Int.tdiv (j : Int) 512 = (q : Int) := by rw [Int.tdiv_eq_ediv_of_nonneg (by omega)]; omega
              clear hiff hjq hq T0 c1 c3 k0
              obtain ⟨r, hr⟩ : ∃ r, r = m % junk.length := ⟨_, rfl⟩
              have hrn : r < junk.length := by rw [hr]; exact Nat.mod_lt _ (by omega)
              have er1 : (m : Int) % (junk.length : Int) = (r : Int) := by rw [hr]; exact (Int.natCast_emod m junk.length).symm
              have er2 : Int.tmod (m : Int) (junk.length : Int) = (r : Int) := by rw [Int.tmod_eq_emod_of_nonneg (by omega)]; exact er1
              have hn0 : ¬ ((junk.length : Int) = 0) := by omega
              have hrz : (r : Int) < (junk.length : Int) := by omega
              obtain ⟨aj, rfl, hcj⟩ := HJ1.out.lies (by omega)
              obtain ⟨b, hb⟩ : ∃ b, b = junk[r] := ⟨_, rfl⟩
              have hajl : aj.block < W1.heap.size := by have := lt_of_cell (hcj r hrn); rwa [block_of_add] at this
              have sTb : (⟨w.heap.size + 1, 1, none⟩ : Addr).block < W1.heap.size := by show w.heap.size + 1 < _; omega
              have cj : wr.cell? (aj.add r) = some (.int .u8 (b.toNat : Int)) := by rw [hb]; exact (hS.out.bel.cell (lt_of_cell (hcj r hrn))).trans (hcj r hrn)
              have hgd : junk.getD (m % junk.length) 0 = b := by rw [← hr, hb, List.getD_eq_getElem?_getD, List.getElem?_eq_getElem hrn]; rfl
              have hfm : f + m = j := by omega
              have hnx := jkP_next X f m junk (by have := HFM.out.2; omega)
              rw [hgd, hfm] at hnx
              obtain ⟨gA, rfl, HS⟩ := hS.out.drew.put (j := j) (by omega) b
              rw [hnx] at HS
              obtain ⟨fy, yv, cy⟩ := HS.2
              have cy' : wr.cell? ⟨gA, j, none⟩ = some yv := cy
              have HS1 := hid HS.1
              clear hcj hb hgd hnx hr HS
              go_upto_region 13 with fail
              refine wp_region_held_drew (S := fun w' => w'.cell? ⟨w.heap.size + 1, 1, none⟩ = some (.slice (some aj) junk.length jc) ∧ w'.cell? (aj.add r) = some (.int .u8 (b.toNat : Int))) (by kernel_rfl) ⟨k1, cj⟩ (fun hH => ?_)
              refine wpAnyH_take (i := 0) (oi := ⟨some 68, _, _, _, _, _⟩) (v := .slice (some ⟨gA, 0, none⟩) M cv) rfl (by kernel_rfl) (by kernel_rfl) (by kernel_rfl) (fun _ _ _ h => h) (Or.inl ⟨by rfl, by intro w hSw; go_simp⟩) hH ?_
              try simp only [Act.put, List.setIfInBounds_toArray, List.set_cons_zero, List.set_cons_succ]
              refine wpAnyH_take (i := 1) (oi := ⟨some 69, _, _, _, _, _⟩) (v := .int .i64 (j : Nat)) rfl (by kernel_rfl) (by kernel_rfl) (by kernel_rfl) (fun _ _ _ h => h) (Or.inl ⟨by rfl, by intro w hSw; go_simp⟩) hH ?_
              try simp only [Act.put, List.setIfInBounds_toArray, List.set_cons_zero, List.set_cons_succ]
              refine wpAnyH_take (i := 2) (oi := ⟨some 70, _, _, _, _, _⟩) (v := .pointer (some ⟨w.heap.size + 1, 1, none⟩)) rfl (by kernel_rfl) (by kernel_rfl) (by kernel_rfl) (fun _ _ _ h => h) (Or.inl ⟨by rfl, by intro w hSw; go_simp⟩) hH ?_
              try simp only [Act.put, List.setIfInBounds_toArray, List.set_cons_zero, List.set_cons_succ]
              refine wpAnyH_take (i := 3) (oi := ⟨some 71, _, _, _, _, _⟩) (v := .slice (some aj) junk.length jc) rfl (by kernel_rfl) (by kernel_rfl) (by kernel_rfl) (fun _ _ _ h => h) (Or.inl ⟨by rfl, by intro w hSw; go_simp⟩) hH ?_
              try simp only [Act.put, List.setIfInBounds_toArray, List.set_cons_zero, List.set_cons_succ]
              refine wpAnyH_take (i := 4) (oi := ⟨some 72, _, _, _, _, _⟩) (v := .int .i64 (m : Nat)) rfl (by kernel_rfl) (by kernel_rfl) (by kernel_rfl) (fun _ _ _ h => h) (Or.inl ⟨by rfl, by intro w hSw; go_simp⟩) hH ?_
              try simp only [Act.put, List.setIfInBounds_toArray, List.set_cons_zero, List.set_cons_succ]
              refine wpAnyH_take (i := 5) (oi := ⟨some 73, _, _, _, _, _⟩) (v := .pointer (some ⟨w.heap.size + 1, 1, none⟩)) rfl (by kernel_rfl) (by kernel_rfl) (by kernel_rfl) (fun _ _ _ h => h) (Or.inl ⟨by rfl, by intro w hSw; go_simp⟩) hH ?_
              try simp only [Act.put, List.setIfInBounds_toArray, List.set_cons_zero, List.set_cons_succ]
              refine wpAnyH_take (i := 6) (oi := ⟨some 74, _, _, _, _, _⟩) (v := .slice (some aj) junk.length jc) rfl (by kernel_rfl) (by kernel_rfl) (by kernel_rfl) (fun _ _ _ h => h) (Or.inl ⟨by rfl, by intro w hSw; go_simp⟩) hH ?_
              try simp only [Act.put, List.setIfInBounds_toArray, List.set_cons_zero, List.set_cons_succ]
              refine wpAnyH_take (i := 7) (oi := ⟨some 75, _, _, _, _, _⟩) (v := .int .i64 (junk.length : Nat)) rfl (by kernel_rfl) (by kernel_rfl) (by kernel_rfl) (fun _ _ _ h => h) (Or.inl ⟨by rfl, by intro w hSw; go_simp⟩) hH ?_
              try simp only [Act.put, List.setIfInBounds_toArray, List.set_cons_zero, List.set_cons_succ]
              refine wpAnyH_take (i := 8) (oi := ⟨some 76, _, _, _, _, _⟩) (v := .int .i64 (r : Nat)) rfl (by kernel_rfl) (by kernel_rfl) (by kernel_rfl) (fun _ _ _ h => h) (Or.inl ⟨by rfl, by intro w hSw; go_simp⟩) hH ?_
              try simp only [Act.put, List.setIfInBounds_toArray, List.set_cons_zero, List.set_cons_succ]
              refine wpAnyH_take (i := 9) (oi := ⟨some 77, _, _, _, _, _⟩) (v := .pointer (some (aj.add r))) rfl (by kernel_rfl) (by kernel_rfl) (by kernel_rfl) (fun _ _ _ h => h) (Or.inl ⟨by rfl, by intro w hSw; go_simp⟩) hH ?_
              try simp only [Act.put, List.setIfInBounds_toArray, List.set_cons_zero, List.set_cons_succ]
              refine wpAnyH_take (i := 10) (oi := ⟨some 78, _, _, _, _, _⟩) (v := .int .u8 (b.toNat : Int)) rfl (by kernel_rfl) (by kernel_rfl) (by kernel_rfl) (fun _ _ _ h => h) (Or.inl ⟨by rfl, by intro w hSw; go_simp⟩) hH ?_
              try simp only [Act.put, List.setIfInBounds_toArray, List.set_cons_zero, List.set_cons_succ]
              refine wpAnyH_take (i := 11) (oi := ⟨some 79, _, _, _, _, _⟩) (v := .pointer (some ⟨gA, j, none⟩)) rfl (by kernel_rfl) (by kernel_rfl) (by kernel_rfl) (fun _ _ _ h => h) (Or.inl ⟨by rfl, by intro w hSw; go_simp⟩) hH ?_
              try simp only [Act.put, List.setIfInBounds_toArray, List.set_cons_zero, List.set_cons_succ]
              refine wpAnyH_ready (rs := [12]) (by kernel_rfl) (by simp) (AllReadyH.cons rfl (fun K hK => ?_) AllReadyH.nil)
              go_simp
              refine hK.out _ _ (rc_keep HS1.out.far sTb (by rw [block_of_add]; exact hajl) hH) (fun hH2 => ?_)
              clear hK K
              refine wpAnyH_done (by kernel_rfl) ?_ _
              clear hH hH2
              go_wp2_with fail
              go_roundw
              case rel => exact ⟨j + 1, by omega, by omega, by go_num, (by congr 1; omega), fun h => absurd h (by omega), by rw [show j + 1 - f = m + 1 by omega]; exact HS1.out⟩
              case measure => simp [intOf]; omega
            · have hjq : ¬ j / 512 = q := fun e => hfj (hiff.2 e)
              obtain ⟨q2, hq2⟩ : ∃ q2 : Nat, q2 = j / 512 := ⟨_, rfl⟩
              have ed3 : (j : Int) / 512 = (q2 : Int) := by omega
              have ed4 : Int.tdiv (j : Int) 512 = (q2 : Int) := by rw [Int.tdiv_eq_ediv_of_nonneg (by omega)]; omega
              have hne1 : ((q2 : Int) == (q : Int)) = false := by simp; omega
              have hne2 : decide ((q2 : Int) = (q : Int)) = false := by simp; omega
              have hqz2 : (q2 : Int) ≤ 8192 := by omega
              clear hiff hjq hq hq2 T0 c1 c3 k0
              go_wp2_with fail
              go_roundw
              case rel => exact ⟨j + 1, by omega, by omega, by go_num, (by congr 2; omega), fun h => absurd h hl2, by rw [show j + 1 - f = m by omega]; exact hS⟩
              case measure => simp [intOf]; omega
          · obtain ⟨Y, hY⟩ : ∃ Y, Y = jkP X f m junk := ⟨_, rfl⟩
            have hYM : Y.length = M := by rw [hY, jkP_len]; exact HFM.out.2
            have HX : Hid (Y = (d.crash kk junk).now) := by
              show Y = _
              rw [HCR.out, hY, ← hm]
              obtain ⟨e1, e2⟩ := HFM.out
              have e3 := rc_end X junk fl j (by omega) (by
                by_cases h9 : junk.length = 0
                · exact .inr ⟨h9, hj0 h9⟩
                · exact .inl ⟨h9, by omega⟩)
              rw [e2, ← e1] at e3
              exact e3
            rw [← hY] at hS
            have hex2 : (¬ (j : Int) < (M : Int)) ∨ ((j : Int) < (M : Int) ∧ ¬ (0 : Int) < (junk.length : Int)) := by omega
            obtain ⟨wt, hwt⟩ : ∃ W, W = wr := ⟨_, rfl⟩
            rw [← hwt] at hS c1 c3 k0 k1 T0 ⊢
            have HT0 := hid T0
            have T2 : Hid (wt.heap[w.heap.size + 1 + 1]? = some (.cells #[.int .i64 0, .slice none 0 0, .slice none 0 0, .int .i64 0, .bool false, .int .i64 0, .int .i64 0, .int .i64 0] 43 (0, 0))) := (hS.out.bel.block _ (by omega)).trans R2.out
            have BT := hid (B1.out.trans (hS.out.bel.mono B1.out.size))
            have sT2 : w.heap.size + 1 + 1 < wt.heap.size := Nat.lt_of_lt_of_le sT hS.out.bel.size
            have hT := own_base (b2 := w.heap.size) hS.out.own (by omega)
            clear hY hlt hj0 hjM HFM HCR HFL2 hwt R0 R1 R2 HJ1 HBX B1 T0 hm hjf
            have hYz : M ≤ 4194304 := hMz
            subst hYM
            have HT := hid hT
            have T0 := HT0
            clear HT0 hT hS sT
            have sT := sT2
            rcases hex2 with hf1 | ⟨hf1, hf2⟩
            · go_upto_region 15 with fail
              clear c1 c3 k0 k1
              have hI := own_isB2 HT.out (by omega)
              have HC := hid (copied_any Av Y cv wt.drew hI.drew)
              clear hI
              refine wp_region_held_drew (S := fun w' => w'.heap[w.heap.size]? = some (.cells #[.int .i64 (d.most : Nat), .slice AN d.now.length cN, .slice AO d.old.length cO, .int .i64 (d.floor : Nat), .bool d.down, .int .i64 (d.armed : Nat), .int .i64 (d.fails : Nat), .int .i64 (d.err : Nat)] 43 (0, 0))) (by kernel_rfl) T0.out (fun hH => ?_)
              refine wpAnyH_take (i := 0) (oi := ⟨some 82, _, _, _, _, _⟩) (v := .pointer (some ⟨w.heap.size, 0, none⟩)) rfl (by kernel_rfl) (by kernel_rfl) (by kernel_rfl) (fun _ _ _ h => h) (Or.inl ⟨by rfl, by intro w hSw; go_simp⟩) hH ?_
              try simp only [Act.put, List.setIfInBounds_toArray, List.set_cons_zero, List.set_cons_succ]
              refine wpAnyH_take (i := 1) (oi := ⟨some 83, _, _, _, _, _⟩) (v := .int .i64 (d.most : Nat)) rfl (by kernel_rfl) (by kernel_rfl) (by kernel_rfl) (fun _ _ _ h => h) (Or.inl ⟨by rfl, by intro w hSw; obtain ⟨c0, c1, c2, c3, c4, c5, c6, c7⟩ := rcells_at hSw; go_simp⟩) hH ?_
              try simp only [Act.put, List.setIfInBounds_toArray, List.set_cons_zero, List.set_cons_succ]
              refine wpAnyH_take (i := 2) (oi := ⟨some 84, _, _, _, _, _⟩) (v := .slice Av Y.length cv) rfl (by kernel_rfl) (by kernel_rfl) (by kernel_rfl) (fun _ _ _ h => h) (Or.inl ⟨by rfl, by intro w hSw; go_simp⟩) hH ?_
              try simp only [Act.put, List.setIfInBounds_toArray, List.set_cons_zero, List.set_cons_succ]
              refine wpAnyH_take (i := 3) (oi := ⟨some 85, _, _, _, _, _⟩) (v := .slice Av Y.length cv) rfl (by kernel_rfl) (by kernel_rfl) (by kernel_rfl) (fun _ _ _ h => h) (Or.inl ⟨by rfl, by intro w hSw; go_simp⟩) hH ?_
              try simp only [Act.put, List.setIfInBounds_toArray, List.set_cons_zero, List.set_cons_succ]
              refine wpAnyH_take (i := 5) (oi := ⟨some 87, _, _, _, _, _⟩) (v := .slice Av Y.length cv) rfl (by kernel_rfl) (by kernel_rfl) (by kernel_rfl) (fun _ _ _ h => h) (Or.inl ⟨by rfl, by intro w hSw; go_simp⟩) hH ?_
              try simp only [Act.put, List.setIfInBounds_toArray, List.set_cons_zero, List.set_cons_succ]
              refine wpAnyH_take (i := 6) (oi := ⟨some 88, _, _, _, _, _⟩) (v := .int .i64 (Y.length : Nat)) rfl (by kernel_rfl) (by kernel_rfl) (by kernel_rfl) (fun _ _ _ h => h) (Or.inl ⟨by rfl, by intro w hSw; go_simp⟩) hH ?_
              try simp only [Act.put, List.setIfInBounds_toArray, List.set_cons_zero, List.set_cons_succ]
              refine wpAnyH_ready (rs := [4]) (by kernel_rfl) (by simp) (AllReadyH.cons rfl (fun K hK => ?_) AllReadyH.nil)
              go_simp
              go_at_call 50
              refine HC.out.mono ?_
              rintro r W8 ⟨v9, rfl, o9, b9⟩
              obtain ⟨A9, k9, rfl⟩ := own_sl o9
              have b9' := below_at rfl b9
              have U0 := hid ((b9'.block w.heap.size (by omega)).trans T0.out)
              have U2 := hid ((b9'.block (w.heap.size + 1 + 1) (by omega)).trans T2.out)
              have U3 := hid (own_below HT.out b9')
              have B8 := hid (BT.out.trans (b9'.mono BT.out.size))
              have s8 : w.heap.size + 1 + 1 < W8.heap.size := Nat.lt_of_lt_of_le sT b9'.size
              have O9 := hid (own_base (b2 := w.heap.size) (own_at (k := wt.heap.size) rfl o9) (by omega))
              clear o9 b9 b9' HT
              try dsimp only
              refine hK.out _ _ U0.out (fun hH2 => ?_)
              clear hK K
              refine wpAnyH_take (i := 7) (oi := ⟨some 89, _, _, _, _, _⟩) (v := .agg #[.int .i64 (d.most : Nat), .slice Av Y.length cv, .slice A9 Y.length k9, .int .i64 (Y.length : Nat), .bool false, .int .i64 0, .int .i64 0, .int .i64 0]) rfl (by kernel_rfl) (by kernel_rfl) (by kernel_rfl) (fun _ _ _ h => h) (Or.inl ⟨by rfl, by intro w hSw; go_simp⟩) hH2 ?_
              try simp only [Act.put, List.setIfInBounds_toArray, List.set_cons_zero, List.set_cons_succ]
              refine wpAnyH_ready (rs := [8]) (by kernel_rfl) (by simp) (AllReadyH.cons rfl (fun K hK => ?_) AllReadyH.nil)
              refine wp_store_row (o := ⟨none, .store 43 (.tmp 4) (.tmp 89), _, _, _, _⟩) 43 (.tmp 4) (.tmp 89) rfl (w.heap.size + 1 + 1) #[.int .i64 (d.most : Nat), .slice Av Y.length cv, .slice A9 Y.length k9, .int .i64 (Y.length : Nat), .bool false, .int .i64 0, .int .i64 0, .int .i64 0] rfl rfl 43 _ U2.out (by kernel_rfl) rfl (all8 ..) ?_
              have q1 : Hid ((W8.setRow (w.heap.size + 1 + 1) #[.int .i64 (d.most : Nat), .slice Av Y.length cv, .slice A9 Y.length k9, .int .i64 (Y.length : Nat), .bool false, .int .i64 0, .int .i64 0, .int .i64 0]).heap[w.heap.size + 1 + 1]? = some (.cells #[.int .i64 (d.most : Nat), .slice Av Y.length cv, .slice A9 Y.length k9, .int .i64 (Y.length : Nat), .bool false, .int .i64 0, .int .i64 0, .int .i64 0] 43 (0, 0))) := setRow_heap W8 (w.heap.size + 1 + 1) _ _ 43 _ U2.out
              have bb : Hid (But (· = w.heap.size + 1 + 1) W8 (W8.setRow (w.heap.size + 1 + 1) #[.int .i64 (d.most : Nat), .slice Av Y.length cv, .slice A9 Y.length k9, .int .i64 (Y.length : Nat), .bool false, .int .i64 0, .int .i64 0, .int .i64 0])) := ⟨rfl, rfl, rfl, by simp [World.setRow], fun i _ hn => setRow_other W8 (w.heap.size + 1 + 1) i _ (fun e => hn e)⟩
              generalize W8.setRow (w.heap.size + 1 + 1) #[.int .i64 (d.most : Nat), .slice Av Y.length cv, .slice A9 Y.length k9, .int .i64 (Y.length : Nat), .bool false, .int .i64 0, .int .i64 0, .int .i64 0] = W9 at q1 bb ⊢
              try simp only [Act.put, List.setIfInBounds_toArray, List.set_cons_zero, List.set_cons_succ]
              refine hK.out _ _ ((bb.out.block w.heap.size (by omega) (fun e => absurd (show w.heap.size = w.heap.size + 1 + 1 from e) (by omega))).trans U0.out) (fun hH3 => ?_)
              clear hK K
              refine wpAnyH_done (by kernel_rfl) ?_ _
              clear hH hH2 hH3
              go_wp2_with fail
              refine bodyPost_ret (results_d0 (by kernel_rfl : Try.f30.results = #[.cell 4 43]) _ _ (w.heap.size + 1 + 1) _ _ _ rfl q1.out rfl) rfl ?_
              have e1 := own_gne U3.out U2.out (by decide)
              have e2 := own_gne O9.out U2.out (by decide)
              have hx := HX.out
              refine ⟨.slice Av Y.length cv, .slice A9 Y.length k9, rcrash_cells hx .., ?_, ?_, B8.out.trans (bb.out.below (B := w.heap.size) (by rintro i rfl; omega) B8.out.size)⟩
              · show World.ownsRow _ _ _ _ _ (d.crash kk junk).now.length ((d.crash kk junk).now.map bv)
                rw [← hx]
                exact ownsRow_but U3.out bb.out e1
              · show World.ownsRow _ _ _ _ _ (d.crash kk junk).now.length ((d.crash kk junk).now.map bv)
                rw [← hx]
                exact ownsRow_but O9.out bb.out e2
            · go_upto_region 15 with fail
              clear c1 c3 k0 k1
              have hI := own_isB2 HT.out (by omega)
              have HC := hid (copied_any Av Y cv wt.drew hI.drew)
              clear hI
              refine wp_region_held_drew (S := fun w' => w'.heap[w.heap.size]? = some (.cells #[.int .i64 (d.most : Nat), .slice AN d.now.length cN, .slice AO d.old.length cO, .int .i64 (d.floor : Nat), .bool d.down, .int .i64 (d.armed : Nat), .int .i64 (d.fails : Nat), .int .i64 (d.err : Nat)] 43 (0, 0))) (by kernel_rfl) T0.out (fun hH => ?_)
              refine wpAnyH_take (i := 0) (oi := ⟨some 82, _, _, _, _, _⟩) (v := .pointer (some ⟨w.heap.size, 0, none⟩)) rfl (by kernel_rfl) (by kernel_rfl) (by kernel_rfl) (fun _ _ _ h => h) (Or.inl ⟨by rfl, by intro w hSw; go_simp⟩) hH ?_
              try simp only [Act.put, List.setIfInBounds_toArray, List.set_cons_zero, List.set_cons_succ]
              refine wpAnyH_take (i := 1) (oi := ⟨some 83, _, _, _, _, _⟩) (v := .int .i64 (d.most : Nat)) rfl (by kernel_rfl) (by kernel_rfl) (by kernel_rfl) (fun _ _ _ h => h) (Or.inl ⟨by rfl, by intro w hSw; obtain ⟨c0, c1, c2, c3, c4, c5, c6, c7⟩ := rcells_at hSw; go_simp⟩) hH ?_
              try simp only [Act.put, List.setIfInBounds_toArray, List.set_cons_zero, List.set_cons_succ]
              refine wpAnyH_take (i := 2) (oi := ⟨some 84, _, _, _, _, _⟩) (v := .slice Av Y.length cv) rfl (by kernel_rfl) (by kernel_rfl) (by kernel_rfl) (fun _ _ _ h => h) (Or.inl ⟨by rfl, by intro w hSw; go_simp⟩) hH ?_
              try simp only [Act.put, List.setIfInBounds_toArray, List.set_cons_zero, List.set_cons_succ]
              refine wpAnyH_take (i := 3) (oi := ⟨some 85, _, _, _, _, _⟩) (v := .slice Av Y.length cv) rfl (by kernel_rfl) (by kernel_rfl) (by kernel_rfl) (fun _ _ _ h => h) (Or.inl ⟨by rfl, by intro w hSw; go_simp⟩) hH ?_
              try simp only [Act.put, List.setIfInBounds_toArray, List.set_cons_zero, List.set_cons_succ]
              refine wpAnyH_take (i := 5) (oi := ⟨some 87, _, _, _, _, _⟩) (v := .slice Av Y.length cv) rfl (by kernel_rfl) (by kernel_rfl) (by kernel_rfl) (fun _ _ _ h => h) (Or.inl ⟨by rfl, by intro w hSw; go_simp⟩) hH ?_
              try simp only [Act.put, List.setIfInBounds_toArray, List.set_cons_zero, List.set_cons_succ]
              refine wpAnyH_take (i := 6) (oi := ⟨some 88, _, _, _, _, _⟩) (v := .int .i64 (Y.length : Nat)) rfl (by kernel_rfl) (by kernel_rfl) (by kernel_rfl) (fun _ _ _ h => h) (Or.inl ⟨by rfl, by intro w hSw; go_simp⟩) hH ?_
              try simp only [Act.put, List.setIfInBounds_toArray, List.set_cons_zero, List.set_cons_succ]
              refine wpAnyH_ready (rs := [4]) (by kernel_rfl) (by simp) (AllReadyH.cons rfl (fun K hK => ?_) AllReadyH.nil)
              go_simp
              go_at_call 50
              refine HC.out.mono ?_
              rintro r W8 ⟨v9, rfl, o9, b9⟩
              obtain ⟨A9, k9, rfl⟩ := own_sl o9
              have b9' := below_at rfl b9
              have U0 := hid ((b9'.block w.heap.size (by omega)).trans T0.out)
              have U2 := hid ((b9'.block (w.heap.size + 1 + 1) (by omega)).trans T2.out)
              have U3 := hid (own_below HT.out b9')
              have B8 := hid (BT.out.trans (b9'.mono BT.out.size))
              have s8 : w.heap.size + 1 + 1 < W8.heap.size := Nat.lt_of_lt_of_le sT b9'.size
              have O9 := hid (own_base (b2 := w.heap.size) (own_at (k := wt.heap.size) rfl o9) (by omega))
              clear o9 b9 b9' HT
              try dsimp only
              refine hK.out _ _ U0.out (fun hH2 => ?_)
              clear hK K
              refine wpAnyH_take (i := 7) (oi := ⟨some 89, _, _, _, _, _⟩) (v := .agg #[.int .i64 (d.most : Nat), .slice Av Y.length cv, .slice A9 Y.length k9, .int .i64 (Y.length : Nat), .bool false, .int .i64 0, .int .i64 0, .int .i64 0]) rfl (by kernel_rfl) (by kernel_rfl) (by kernel_rfl) (fun _ _ _ h => h) (Or.inl ⟨by rfl, by intro w hSw; go_simp⟩) hH2 ?_
              try simp only [Act.put, List.setIfInBounds_toArray, List.set_cons_zero, List.set_cons_succ]
              refine wpAnyH_ready (rs := [8]) (by kernel_rfl) (by simp) (AllReadyH.cons rfl (fun K hK => ?_) AllReadyH.nil)
              refine wp_store_row (o := ⟨none, .store 43 (.tmp 4) (.tmp 89), _, _, _, _⟩) 43 (.tmp 4) (.tmp 89) rfl (w.heap.size + 1 + 1) #[.int .i64 (d.most : Nat), .slice Av Y.length cv, .slice A9 Y.length k9, .int .i64 (Y.length : Nat), .bool false, .int .i64 0, .int .i64 0, .int .i64 0] rfl rfl 43 _ U2.out (by kernel_rfl) rfl (all8 ..) ?_
              have q1 : Hid ((W8.setRow (w.heap.size + 1 + 1) #[.int .i64 (d.most : Nat), .slice Av Y.length cv, .slice A9 Y.length k9, .int .i64 (Y.length : Nat), .bool false, .int .i64 0, .int .i64 0, .int .i64 0]).heap[w.heap.size + 1 + 1]? = some (.cells #[.int .i64 (d.most : Nat), .slice Av Y.length cv, .slice A9 Y.length k9, .int .i64 (Y.length : Nat), .bool false, .int .i64 0, .int .i64 0, .int .i64 0] 43 (0, 0))) := setRow_heap W8 (w.heap.size + 1 + 1) _ _ 43 _ U2.out
              have bb : Hid (But (· = w.heap.size + 1 + 1) W8 (W8.setRow (w.heap.size + 1 + 1) #[.int .i64 (d.most : Nat), .slice Av Y.length cv, .slice A9 Y.length k9, .int .i64 (Y.length : Nat), .bool false, .int .i64 0, .int .i64 0, .int .i64 0])) := ⟨rfl, rfl, rfl, by simp [World.setRow], fun i _ hn => setRow_other W8 (w.heap.size + 1 + 1) i _ (fun e => hn e)⟩
              generalize W8.setRow (w.heap.size + 1 + 1) #[.int .i64 (d.most : Nat), .slice Av Y.length cv, .slice A9 Y.length k9, .int .i64 (Y.length : Nat), .bool false, .int .i64 0, .int .i64 0, .int .i64 0] = W9 at q1 bb ⊢
              try simp only [Act.put, List.setIfInBounds_toArray, List.set_cons_zero, List.set_cons_succ]
              refine hK.out _ _ ((bb.out.block w.heap.size (by omega) (fun e => absurd (show w.heap.size = w.heap.size + 1 + 1 from e) (by omega))).trans U0.out) (fun hH3 => ?_)
              clear hK K
              refine wpAnyH_done (by kernel_rfl) ?_ _
              clear hH hH2 hH3
              go_wp2_with fail
              refine bodyPost_ret (results_d0 (by kernel_rfl : Try.f30.results = #[.cell 4 43]) _ _ (w.heap.size + 1 + 1) _ _ _ rfl q1.out rfl) rfl ?_
              have e1 := own_gne U3.out U2.out (by decide)
              have e2 := own_gne O9.out U2.out (by decide)
              have hx := HX.out
              refine ⟨.slice Av Y.length cv, .slice A9 Y.length k9, rcrash_cells hx .., ?_, ?_, B8.out.trans (bb.out.below (B := w.heap.size) (by rintro i rfl; omega) B8.out.size)⟩
              · show World.ownsRow _ _ _ _ _ (d.crash kk junk).now.length ((d.crash kk junk).now.map bv)
                rw [← hx]
                exact ownsRow_but U3.out bb.out e1
              · show World.ownsRow _ _ _ _ _ (d.crash kk junk).now.length ((d.crash kk junk).now.map bv)
                rw [← hx]
                exact ownsRow_but O9.out bb.out e2
theorem RCrash_any (d : Dk) (AN : Option Addr) (cN : Nat) (AO : Option Addr) (cO : Nat) (k : Int) (J : Option Addr) (jn jc : Nat) (junk : List UInt8) (w : World) (h : RfOk d) (hN : IsBB w w.heap.size AN d.now.length cN d.now) (hO : IsBB w w.heap.size AO d.old.length cO d.old) (hJ : IsBB w w.heap.size J jn jc junk) (hk : k ≤ 9223372036854775807) :
    Calls Try.prog 30 #[.agg (rcells d (.slice AN d.now.length cN) (.slice AO d.old.length cO)), .agg #[.int .i64 k, .slice J jn jc]] w fun r w' => ∃ N' O', r = .returned (.agg (rcells (d.rcrash k junk) N' O')) ∧ w'.ownsRow w.heap.size 5 1 N' (d.rcrash k junk).now.length ((d.rcrash k junk).now.map bv) ∧ w'.ownsRow w.heap.size 5 1 O' (d.rcrash k junk).now.length ((d.rcrash k junk).now.map bv) ∧ Below w.heap.size w w' := by
  by_cases h0 : k < 0
  · exact RCrash_neg d AN cN AO cO k J jn jc junk w h hO h0
  · obtain ⟨kk, rfl⟩ : ∃ kk : Nat, k = (kk : Int) := ⟨k.toNat, by omega⟩
    exact RCrash_pos d AN cN AO cO kk J jn jc junk w h hN hO hJ hk
end Go.Proofs.Ytgccjclloomfgaa
