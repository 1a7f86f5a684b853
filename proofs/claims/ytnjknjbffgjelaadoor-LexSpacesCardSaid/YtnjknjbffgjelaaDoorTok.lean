/-
  Tokens of the program (written by tools/stage18/gen_tok.py).
-/
import Derived.Test.YtnjknjbffgjelaaDoorLxp
import Derived.Laws.AppendOwn
set_option linter.unusedVariables false
set_option linter.unusedSimpArgs false
namespace Go.Proofs.YtnjknjbffgjelaaDoor
open Go.RowKit

theorem own_below {w w' : World} {base e s n : Nat} {v : Value} {xs : List Value} (h : w.ownsRow base e s v n xs) (hb : Below w.heap.size w w') : w'.ownsRow base e s v n xs := by
  have hlt := h.lt
  obtain ⟨h1, h2⟩ := h
  refine ⟨h1, ?_⟩
  rcases h2 with h2 | ⟨g, cap, cur, rfl, hg, hh, r⟩
  · exact .inl h2
  · exact .inr ⟨g, cap, cur, rfl, hg, (hb.block g (hlt g rfl).2).trans hh, r⟩
theorem own_slice {w : World} {base e s n : Nat} {v : Value} {xs : List Value} (h : w.ownsRow base e s v n xs) : ∃ A c, v = .slice A n c ∧ n ≤ c ∧ c ≤ maxLen := by
  rcases h.2 with ⟨rfl, rfl⟩ | ⟨g, cap, cur, rfl, _, _, hn, hm, _⟩
  · exact ⟨none, 0, rfl, Nat.le_refl _, Nat.zero_le _⟩
  · exact ⟨_, cap, rfl, hn, hm⟩
theorem own_up {w' : World} {B B' e z n : Nat} {v : Value} {xs : List Value} (h : w'.ownsRow B e z v n xs) (hb : B' ≤ B) : w'.ownsRow B' e z v n xs := by
  refine ⟨h.1, ?_⟩
  rcases h.2 with h2 | ⟨g, cap, cur, rfl, hg, r⟩
  · exact .inl h2
  · exact .inr ⟨g, cap, cur, rfl, Nat.le_trans hb hg, r⟩
theorem info_at {t : TypeId} {z : Value} {n b : Nat} (h : (Tryd.prog.info? t).map (fun i => (i.zero, i.size, i.bytes)) = some (some z, n, b)) : ∃ i, Tryd.prog.info? t = some i ∧ i.zero = some z ∧ i.size = n ∧ i.bytes = b := by
  cases hi : Tryd.prog.info? t with
  | none => rw [hi] at h; cases h
  | some i =>
    rw [hi] at h
    injection h with h
    injection h with h1 h2
    injection h2 with h2 h3
    exact ⟨i, rfl, h1, h2, h3⟩
theorem i33 : (Tryd.prog.info? 33).map (fun i => (i.zero, i.size, i.bytes)) = some (some (.agg #[.int .u8 0, .string ⟨#[]⟩, .int .i64 0, .int .i64 0]), 4, 40) := by kernel_rfl
def vF (e l : Nat) : Value := .agg #[.int .i64 (e : Nat), .int .i64 (l : Nat)]
theorem sz25 (a b : Value) : (Tryd.prog.info? 25).map (·.size) = some (#[a, b] : Array Value).size := by show _ = some 2; kernel_rfl
theorem zero25 (w : World) : (zeroValue 25).run Tryd.prog w = .ok (.agg #[.int .i64 0, .int .i64 0]) w := by kernel_rfl
theorem results_25_2 {fn : Func} {p u : Tmp} (h : fn.results = #[.tmp u, .cell p 25]) (tmps : Array Value) (w : World) (g : Nat) (a b : Value)
    (hp : tmps.getD p undef = .pointer (some ⟨g, 0, none⟩)) (hg : w.heap[g]? = some (.cells #[a, b] 25 (0, 0))) : (results fn tmps).run Tryd.prog w = .ok (.tuple #[tmps.getD u undef, .agg #[a, b]]) w := by
  have hp' : tmps[p]?.getD undef = .pointer (some ⟨g, 0, none⟩) := by simpa using hp
  have hl := run_loadVar_row w g 25 25 #[a, b] (0, 0) _ hg Tryd.underlying25 rfl (sz25 a b)
  simp [results, h, hp', asAddr, hl, Result.andThen]
/-- What Tokens leaves. -/
def TokPost (w : World) (R : List TD × Nat × Nat) (e : Ending) (w' : World) : Prop := ∃ A c, e = .returned (.tuple #[.slice A R.1.length c, vF R.2.1 R.2.2]) ∧ w'.ownsRow w.heap.size 33 4 (.slice A R.1.length c) R.1.length (R.1.flatMap c4) ∧ Below w.heap.size w w'
/-- The program on its way. -/
structure St (w wr : World) (s : ByteArray) (pos : Nat) (v : Value) (ts : List TD) : Prop where
  it : wr.heap[w.heap.size + 1]? = some (.stringIter s pos)
  fb : wr.heap[w.heap.size]? = some (.cells #[.int .i64 0, .int .i64 0] 25 (0, 0))
  own : wr.ownsRow (w.heap.size + 2) 33 4 v ts.length (ts.flatMap c4)
  bel : Below w.heap.size w wr
section
variable {w wr V : World} {s : ByteArray} {pos : Nat} {v : Value} {ts : List TD}
theorem St.ge (h : St w wr s pos v ts) : w.heap.size + 2 ≤ wr.heap.size := lt_of_heap h.it
theorem St.below (h : St w wr s pos v ts) (b : Below wr.heap.size wr V) : St w V s pos v ts :=
  ⟨(b.block _ (lt_of_heap h.it)).trans h.it, (b.block _ (lt_of_heap h.fb)).trans h.fb, own_below h.own b, bel_trans h.bel b⟩
theorem St.next (h : St w wr s pos v ts) (p : Nat) : St w (wr.iterAt (w.heap.size + 1) s p) s p v ts := by
  refine ⟨Lib.iterAt_heap wr _ s pos p h.it, (Lib.iterAt_other _ _ _ _ _ (by omega)).trans h.fb, ?_, Lib.below_iterAt h.bel (by omega) s p⟩
  refine ⟨h.own.1, ?_⟩
  rcases h.own.2 with h2 | ⟨g, cap, cur, a, b, c, d⟩
  · exact .inl h2
  · exact .inr ⟨g, cap, cur, a, b, by rw [Lib.iterAt_other _ _ _ _ _ (by omega)]; exact c, d⟩
theorem St.grown {v' : Value} {t : TD} (h : St w wr s pos v ts) (b : Below wr.heap.size wr V) {V' : World} (hg : V.grownBy V' v.ownBlock) (ho : V'.ownsRow (w.heap.size + 2) 33 4 v' (ts.length + 1) (ts.flatMap c4 ++ c4 t)) : St w V' s pos v' (ts ++ [t]) := by
  have h1 := h.below b
  have hlt : ∀ g, v.ownBlock = some g → w.heap.size + 2 ≤ g := fun g hh => (h.own.lt g hh).1
  refine ⟨?_, ?_, ?_, Below.grown h1.bel hg (by have := h1.ge; omega) (fun j hj => by have := hlt j hj; omega)⟩
  · rw [hg.block _ (lt_of_heap h1.it) (fun e => by have := hlt _ e.symm; omega)]; exact h1.it
  · rw [hg.block _ (lt_of_heap h1.fb) (fun e => by have := hlt _ e.symm; omega)]; exact h1.fb
  · rw [List.length_append, List.flatMap_append]
    simpa using ho
theorem St.fin (h : St w wr s pos v ts) (a b : Value) : (wr.setRow w.heap.size #[a, b]).heap[w.heap.size]? = some (.cells #[a, b] 25 (0, 0)) ∧ (wr.setRow w.heap.size #[a, b]).ownsRow w.heap.size 33 4 v ts.length (ts.flatMap c4) ∧ Below w.heap.size w (wr.setRow w.heap.size #[a, b]) := by
  refine ⟨setRow_heap _ _ _ _ _ _ h.fb, ⟨h.own.1, ?_⟩, h.bel.os, h.bel.tape, h.bel.output, by rw [size_setRow]; exact h.bel.size, fun i hi => ?_⟩
  · rcases h.own.2 with h2 | ⟨g, cap, cur, e, hg, c, d⟩
    · exact .inl h2
    · exact .inr ⟨g, cap, cur, e, by omega, by rw [setRow_other _ _ _ _ (by omega)]; exact c, d⟩
  · rw [setRow_other _ _ _ _ (by omega)]
    exact h.bel.block i hi
end
theorem one25 (a b : Int) : (#[.int .i64 a, .int .i64 b] : Array Value).all (·.oneCell') = true := by simp [Value.oneCell']
theorem alloc_two (W : World) (o1 o2 : Obj) : ((W.alloc o1).alloc o2).heap[W.heap.size + 1]? = some o2 := by
  have := heap_alloc_new (W.alloc o1) o2
  rw [show (W.alloc o1).heap.size = W.heap.size + 1 by simp] at this
  exact this
theorem bel_a (W : World) (o : Obj) : Below W.heap.size W (W.alloc o) := (Below.refl _ W).alloc (Nat.le_refl _) o
theorem bel_aa (W : World) (o1 o2 : Obj) : Below W.heap.size W ((W.alloc o1).alloc o2) := (bel_a W o1).alloc (by simp) o2
theorem c4_at (t : TD) (W : World) (g : Nat) (h : W.heap[g]? = some (.cells (c4 t).toArray 33 (0, 0))) : ∀ j u, (c4 t)[j]? = some u → W.cell? ((⟨g, 0, none⟩ : Addr).add j) = some u := by
  intro j u hj
  have : W.cell? ⟨g, 0 + j, none⟩ = some u := by
    unfold World.cell?
    rw [h]
    simpa using hj
  rw [Addr.add_mid]
  exact this
theorem c4_one (t : TD) : ∀ u ∈ c4 t, u.oneCell' = true := by
  intro u hu
  simp only [c4, List.mem_cons, List.not_mem_nil, or_false] at hu
  rcases hu with rfl | rfl | rfl | rfl <;> rfl
set_option maxRecDepth 10000 in
set_option maxHeartbeats 16000000 in
theorem Tokens_any (w : World) (s : ByteArray) (hs : s.size ≤ 1000000000) (hG : SgIs w) : Calls Tryd.prog 5 #[.string s] w (TokPost w (lexR (bl s))) := by
  have hlen := bl_len s
  have zf := zero25
  have z33 := zero33
  obtain ⟨i0, hi, hz0, hz1, hz2⟩ := info_at i33
  by_cases hbig : 16384 < s.size
  · have e : lexR (bl s) = ([], 3, 0) := by unfold lexR; rw [if_pos (by omega)]
    rw [e]
    have d1 : decide ((16384 : Int) < (s.size : Int)) = true := decide_eq_true (by omega)
    go_enter Tryd.func5, Tryd.ntmps5
    go_wp2_with fail
    refine bodyPost_ret (results_25_2 (by kernel_rfl : Tryd.f5.results = #[.tmp 2, .cell 3 25]) _ _ w.heap.size (.int .i64 3) (.int .i64 0) rfl (heap_alloc_new _ _)) rfl ?_
    exact ⟨none, 0, rfl, World.ownsRow_nil _ _ _ _, (Below.refl _ _).alloc (Nat.le_refl _) _⟩
  have hnb : ¬ 16384 < (bl s).length := by omega
  have d1 : decide ((16384 : Int) < (s.size : Int)) = false := decide_eq_false (by omega)
  obtain ⟨R, hR⟩ : ∃ R, lexR (bl s) = R := ⟨_, rfl⟩
  rw [hR]
  replace hR := hid hR
  have HG := hid hG
  replace hnb := hid hnb
  clear hG
  go_enter Tryd.func5, Tryd.ntmps5
  go_upto_region 6 with fail
  have S0 : Hid (St w ((w.alloc (.cells #[.int .i64 0, .int .i64 0] 25)).iter s 0) s 0 (.slice none 0 0) []) := hid (by
    have h0 := heap_alloc_new w (.cells #[.int .i64 0, .int .i64 0] 25)
    have hz : (w.alloc (.cells #[.int .i64 0, .int .i64 0] 25)).heap.size = w.heap.size + 1 := by simp
    have h1 := World.iter_heap (w.alloc (.cells #[.int .i64 0, .int .i64 0] 25)) s 0
    rw [hz] at h1
    exact ⟨h1, (heap_alloc_old _ _ (lt_of_heap h0)).trans h0, World.ownsRow_nil _ _ _ _, ((Below.refl _ w).alloc (Nat.le_refl _) _).alloc (by rw [hz]; omega) _⟩)
  go_loopw [4, 5, 6] (fun v4 v5 v6 wr => ∃ (pos bh line : Nat) (ts : List (Tk × Nat)) (vv : Value), pos ≤ bh ∧ bh ≤ s.size ∧ ts.length ≤ bh ∧ line ≤ bh + 1 ∧ vv = v4 ∧ v5 = .int .i64 (line : Int) ∧ v6 = .int .i64 (bh : Int) ∧ Hid (St w wr s pos vv (ts.map tkL)) ∧ Hid (lexL 1 (bl s) = comb ts (lexL line ((bl s).drop bh))) ∧ Hid (Seg (bl s) pos bh)) (fun _ _ _ wr => s.size - wr.iterPos (w.heap.size + 1))
  case atStart => exact ⟨0, 0, 1, [], _, by omega, by omega, by simp, by omega, rfl, rfl, rfl, S0, (by
    show _ = comb [] (lexL 1 ((bl s).drop 0))
    rw [List.drop_zero]
    cases lexL 1 (bl s) <;> rfl), .inl fun j _ _ h => absurd h (Nat.not_lt_zero _)⟩
  case round =>
    obtain ⟨pos, bh, line, ts, vv, hpb, hbl, htl, hll, rfl, rfl, rfl, HS, HX, HSeg⟩ := hrel
    clear S0
    have hpos0 := iterPos_of HS.out.it
    by_cases hp : pos < s.size
    case neg =>
      have hnx : ∀ ty, (Instr.next (.pointer (some ⟨w.heap.size + 1, 0, none⟩)) true ty).run Tryd.prog wr = _ := fun ty => Lib.run_next_end_at wr (w.heap.size + 1) s pos ty HS.out.it hp
      obtain rfl : bh = s.size := by omega
      have e1 : lexL 1 (bl s) = .ok (ts, line) := by
        rw [HX.out, List.drop_of_length_le (by omega), lexL_nil]
        show Except.ok (ts ++ [], line) = _
        rw [List.append_nil]
      obtain ⟨D, hD⟩ : ∃ D, ts.map tkL = D := ⟨_, rfl⟩
      obtain rfl : R = (D ++ [⟨4, [], 0, line⟩], 0, 0) := hR.out.symm.trans (by rw [← hD]; exact lexR_ok hnb.out e1)
      have hDl : D.length ≤ 16384 := by rw [← hD, List.length_map]; omega
      rw [hD] at HS
      have HS3 := HS
      clear HX HSeg hR hpos0 hD e1 HS
      go_wp2_with (first
        | (at_builtin; refine wpList_append_own _ rfl (.tmp 52) (.tmp 55) 22 rfl (w.heap.size + 2) 33 i0 _ 4 40 Tryd.underlying22 hi hz0 hz1 hz2 rfl (by decide) vv D.length (D.flatMap c4) rfl (HS3.out.own.alloc _) ⟨wr.heap.size, 0, none⟩ 1 1 (c4 ⟨4, [], 0, line⟩) rfl rfl (c4_at _ _ _ (heap_alloc_new _ _)) (c4_one _) (by unfold maxLen; omega) (by omega) (by have := HS3.out.ge; simp; omega) ?_; intro v' w3 ho hg hn; have S3 := hid (HS3.out.grown (t := ⟨4, [], 0, line⟩) (bel_a wr _) hg ho); clear ho hg hn)
        | (refine wpList_store_row (o := ⟨none, .store 25 (.tmp 3) (.tmp 57), _, _, _, _⟩) rfl 25 (.tmp 3) (.tmp 57) rfl w.heap.size #[.int .i64 0, .int .i64 0] rfl rfl 25 _ S3.out.fb (sz25 _ _) rfl (one25 _ _) ?_))
      obtain ⟨q1, q2, q3⟩ := S3.out.fin (.int .i64 0) (.int .i64 0)
      refine bodyPost_ret (results_25_2 (by kernel_rfl : Tryd.f5.results = #[.tmp 2, .cell 3 25]) _ _ w.heap.size (.int .i64 0) (.int .i64 0) rfl q1) rfl ?_
      obtain ⟨A, c, rfl, _⟩ := own_slice q2
      exact ⟨A, c, rfl, q2, q3⟩
    obtain ⟨r, k, hd, hr1, hk1, hk2, hdc⟩ := dec_any s pos hp
    have hnx0 := fun ty => Lib.run_next_any_at (P := Tryd.prog) wr (w.heap.size + 1) s pos ty HS.out.it hp
    rw [hd] at hnx0
    have HS2 := hid (HS.out.next (pos + k))
    obtain ⟨W1, hW1⟩ : ∃ W1, wr.iterAt (w.heap.size + 1) s (pos + k) = W1 := ⟨_, rfl⟩
    have hnx : ∀ ty, (Instr.next (.pointer (some ⟨w.heap.size + 1, 0, none⟩)) true ty).run Tryd.prog wr = .ok (.tuple #[.bool true, .int .i64 (pos : Int), .int .i32 (r : Int)]) W1 := fun ty => by rw [← hW1]; exact hnx0 ty
    rw [hW1] at HS2
    clear hnx0 hW1 hd
    by_cases hlt : pos < bh
    · have hz : (pos : Int) < (bh : Int) := by omega
      obtain ⟨g1, g2⟩ := seg_step hp HSeg.out hlt hbl hk2 hdc
      replace g2 := hid g2
      clear HS HSeg hdc
      go_wp2_with fail
      go_roundw
      case rel => exact ⟨pos + k, bh, line, ts, _, g1, hbl, htl, hll, rfl, rfl, rfl, HS2, HX, g2⟩
      case measure => rw [iterPos_of HS2.out.it, hpos0]; omega
    · obtain rfl : bh = pos := by omega
      have hcl : bh < (bl s).length := by omega
      obtain ⟨c, hc⟩ : ∃ c, (bl s)[bh] = c := ⟨_, rfl⟩
      obtain ⟨l, hl⟩ : ∃ l, (bl s).drop (bh + 1) = l := ⟨_, rfl⟩
      have hdr : (bl s).drop bh = c :: l := by rw [List.drop_eq_getElem_cons hcl, hc, hl]
      have hE : bl (s.extract bh s.size) = c :: l := by
        rw [ext_str s bh s.size (Nat.le_refl _), bl_str, List.take_of_length_le (by omega), hdr]
      rw [hc] at hdc
      have hbg : Begins c r := by
        rcases hdc with ⟨a, b, _⟩ | ⟨a, b, _⟩
        · exact .inl ⟨a, b⟩
        · exact .inr ⟨a, b⟩
      have hw1 : c.toNat < 128 → k = 1 := by
        intro h
        rcases hdc with ⟨a, b, d⟩ | ⟨a, b, _⟩
        · exact d
        · omega
      have hez : (s.extract bh s.size).size ≤ 1000000000 := by
        rw [← bl_len, hE, ← hdr, List.length_drop]; omega
      have HF0 := hid (fun W (h : SgIs W) => first_any W (s.extract bh s.size) r hez c l hE hbg h)
      have e10 : ((r : Int) == 10) = decide (c.toNat = 10) := by
        show decide ((r : Int) = 10) = _
        apply decide_eq_decide.2
        unfold Begins at hbg
        omega
      have HSg := HG.out.below HS2.out.bel
      have hfk := fs_kind c l
      have hgo := nx_goes c l
      rw [hdr] at HX
      have hnlt : decide ((bh : Int) < (bh : Int)) = false := decide_eq_false (by omega)
      have hbi : (bh : Int) ≤ 16384 := by omega
      have hli : (line : Int) ≤ 16385 := by omega
      obtain ⟨D, hD⟩ : ∃ D, ts.map tkL = D := ⟨_, rfl⟩
      have hDl : D.length ≤ 16384 := by rw [← hD, List.length_map]; omega
      rw [hD] at HS2
      replace hD := hid hD
      clear hdc HSeg hE hbg hez HS
      cases hn : nx c l with
      | bad =>
        rw [hn] at hfk hgo
        dsimp only at hfk
        rw [hfk] at HF0
        have HF : Hid (∀ W, SgIs W → Calls Tryd.prog 11 #[.string (s.extract bh s.size), .int .i32 (r : Int)] W fun e w' => e = .returned (.tuple #[.agg #[.int .u8 0, .string ⟨#[]⟩, .int .i64 0, .int .i64 0], .int .i64 0]) ∧ Below W.heap.size W w') := HF0
        have e1 : lexL 1 (bl s) = .error line := HX.out.trans (comb_bad ts hn)
        obtain rfl : R = ([], 120, line) := hR.out.symm.trans (lexR_err hnb.out e1)
        rw [decide_eq_false (show ¬ c.toNat = 10 from hgo)] at e10
        clear HF0 hfk hgo e1 HX hR hw1 hn hdr hc hl
        go_wp2_with (first
          | (go_at_call 11; refine (HF.out _ HSg).mono ?_; rintro e W2 ⟨rfl, b2⟩; have HS3 := hid (HS2.out.below b2); clear b2)
          | (refine wpList_store_row (o := ⟨none, .store 25 (.tmp 3) (.tmp 39), _, _, _, _⟩) rfl 25 (.tmp 3) (.tmp 39) rfl w.heap.size #[.int .i64 120, .int .i64 (line : Int)] rfl rfl 25 _ (HS3.out.below (bel_a W2 _)).fb (sz25 _ _) rfl (one25 _ _) ?_))
        obtain ⟨q1, q2, q3⟩ := (HS3.out.below (bel_a W2 (.cells #[.int .u8 0, .string ⟨#[]⟩, .int .i64 0, .int .i64 0] 33))).fin (.int .i64 120) (.int .i64 (line : Int))
        refine bodyPost_ret (results_25_2 (by kernel_rfl : Tryd.f5.results = #[.tmp 2, .cell 3 25]) _ _ w.heap.size (.int .i64 120) (.int .i64 (line : Int)) rfl q1) rfl ?_
        exact ⟨none, 0, rfl, World.ownsRow_nil _ _ _ _, q3⟩
      | skip q nl =>
        rw [hn] at hfk hgo
        dsimp only at hfk
        rw [hfk] at HF0
        obtain ⟨g1, g2, g3⟩ := seg_next hcl (x := .skip q nl) (k := q) (by rw [hc, hl]; exact hgo) rfl
        rw [hc] at g1
        have hk1' := hw1 g1
        subst hk1'
        have hX2 : Hid (lexL 1 (bl s) = comb ts (lexL (line + nl) ((bl s).drop (bh + 1 + q)))) := hid (by rw [HX.out, comb_skip ts hn, ← hl, List.drop_drop])
        replace g3 := hid g3
        obtain ⟨m, hm⟩ : ∃ m, 1 + q = m := ⟨_, rfl⟩
        have hbq : bh + 1 + q = bh + m := by omega
        rw [hbq] at g2 g3 hX2
        rw [hm] at HF0
        have HF : Hid (∀ W, SgIs W → Calls Tryd.prog 11 #[.string (s.extract bh s.size), .int .i32 (r : Int)] W fun e w' => e = .returned (.tuple #[.agg #[.int .u8 0, .string ⟨#[]⟩, .int .i64 0, .int .i64 0], .int .i64 (m : Int)]) ∧ Below W.heap.size W w') := HF0
        have hm0 : ((m : Int) == 0) = false := by simp only [beq_eq_false_iff_ne, ne_eq]; omega
        have hmi : (m : Int) ≤ 16384 := by omega
        have hm1 : 1 ≤ m := by omega
        have hnl := hgo.2.2.1
        by_cases h10 : c.toNat = 10
        · rw [decide_eq_true h10] at e10
          rw [if_pos h10] at hnl
          subst hnl
          clear HF0 hfk hgo HX hR hw1 hn hdr hc hl hm hbq
          go_wp2_with (go_at_call 11; refine (HF.out _ HSg).mono ?_; rintro e W2 ⟨rfl, b2⟩; have HS3 := hid (HS2.out.below b2); clear b2)
          have HS4 := hid (HS3.out.below (bel_a W2 (.cells #[.int .u8 0, .string ⟨#[]⟩, .int .i64 0, .int .i64 0] 33)))
          go_roundw
          case rel => exact ⟨bh + 1, bh + m, line + 1, ts, _, by omega, by omega, by omega, by omega, rfl, by go_num, by go_num, by rw [hD.out]; exact HS4, hX2, g3⟩
          case measure => rw [iterPos_of HS4.out.it, hpos0]; omega
        · rw [decide_eq_false h10] at e10
          rw [if_neg h10] at hnl
          subst hnl
          clear HF0 hfk hgo HX hR hw1 hn hdr hc hl hm hbq
          go_wp2_with (go_at_call 11; refine (HF.out _ HSg).mono ?_; rintro e W2 ⟨rfl, b2⟩; have HS3 := hid (HS2.out.below b2); clear b2)
          have HS4 := hid (HS3.out.below (bel_a W2 (.cells #[.int .u8 0, .string ⟨#[]⟩, .int .i64 0, .int .i64 0] 33)))
          go_roundw
          case rel => exact ⟨bh + 1, bh + m, line, ts, _, by omega, by omega, by omega, by omega, rfl, rfl, by go_num, by rw [hD.out]; exact HS4, hX2, g3⟩
          case measure => rw [iterPos_of HS4.out.it, hpos0]; omega
      | tok tk q =>
        rw [hn] at hfk hgo
        dsimp only at hfk
        obtain ⟨hfk, hk0, hk3⟩ := hfk
        rw [hfk] at HF0
        obtain ⟨g1, g2, g3⟩ := seg_next hcl (x := .tok tk q) (k := q) (by rw [hc, hl]; exact hgo) rfl
        rw [hc] at g1
        have hk1' := hw1 g1
        subst hk1'
        have hX2 : Hid (lexL 1 (bl s) = comb (ts ++ [(tk, line)]) (lexL line ((bl s).drop (bh + 1 + q)))) := hid (by rw [HX.out, comb_tok ts hn, ← hl, List.drop_drop])
        replace g3 := hid g3
        obtain ⟨m, hm⟩ : ∃ m, 1 + q = m := ⟨_, rfl⟩
        have hbq : bh + 1 + q = bh + m := by omega
        rw [hbq] at g2 g3 hX2
        rw [hm] at HF0
        obtain ⟨kk, ss, nn, hT⟩ : ∃ kk ss nn, tkD tk = ⟨kk, ss, nn, 0⟩ := by cases tk <;> exact ⟨_, _, _, rfl⟩
        rw [hT] at HF0 hk0 hk3
        have HF : Hid (∀ W, SgIs W → Calls Tryd.prog 11 #[.string (s.extract bh s.size), .int .i32 (r : Int)] W fun e w' => e = .returned (.tuple #[.agg #[.int .u8 (kk : Int), .string (str ss), .int .i64 (nn : Int), .int .i64 0], .int .i64 (m : Int)]) ∧ Below W.heap.size W w') := HF0
        have hTL : Hid (tkL (tk, line) = ⟨kk, ss, nn, line⟩) := hid (by unfold tkL; rw [hT])
        have hm0 : ((m : Int) == 0) = false := by simp only [beq_eq_false_iff_ne, ne_eq]; omega
        have hk0z : ((kk : Int) == 0) = false := by simp only [beq_eq_false_iff_ne, ne_eq]; show ¬ ((kk : Int) = 0); have : ¬ kk = 0 := hk0; omega
        have hk0n : ((kk : Int) != 0) = true := by simp only [bne_iff_ne, ne_eq]; have : ¬ kk = 0 := hk0; omega
        have hmi : (m : Int) ≤ 16384 := by omega
        have hm1 : 1 ≤ m := by omega
        rw [decide_eq_false (show ¬ c.toNat = 10 from hgo.2.1)] at e10
        clear HF0 hfk hgo HX hR hw1 hn hdr hc hl hm hbq hT hk0 hk3
        go_wp2_with (first
          | (go_at_call 11; refine (HF.out _ HSg).mono ?_; rintro e W2 ⟨rfl, b2⟩; have HS3 := hid (HS2.out.below b2); clear b2)
          | (at_builtin; refine wpList_append_own _ rfl (.tmp 45) (.tmp 47) 22 rfl (w.heap.size + 2) 33 i0 _ 4 40 Tryd.underlying22 hi hz0 hz1 hz2 rfl (by decide) vv D.length (D.flatMap c4) rfl ((HS3.out.own.alloc _).alloc _) ⟨W2.heap.size + 1, 0, none⟩ 1 1 (c4 ⟨kk, ss, nn, line⟩) rfl rfl (c4_at _ _ _ (alloc_two _ _ _)) (c4_one _) (by unfold maxLen; omega) (by omega) (by have := HS3.out.ge; simp; omega) ?_; intro v' w3 ho hg hn; have S3 := hid (HS3.out.grown (t := ⟨kk, ss, nn, line⟩) (bel_aa W2 _ _) hg ho); clear ho hg hn))
        go_roundw
        case rel => exact ⟨bh + 1, bh + m, line, ts ++ [(tk, line)], _, by omega, by omega, by rw [List.length_append]; simp; omega, by omega, rfl, rfl, by go_num, by rw [List.map_append, hD.out]; simp only [List.map_cons, List.map_nil]; rw [hTL.out]; exact S3, hX2, g3⟩
        case measure => rw [iterPos_of S3.out.it, hpos0]; omega
end Go.Proofs.YtnjknjbffgjelaaDoor
