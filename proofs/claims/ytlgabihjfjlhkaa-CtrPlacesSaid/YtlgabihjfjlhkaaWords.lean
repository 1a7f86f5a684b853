/-
  The contract of the document's Words.
-/
import Derived.Test.YtlgabihjfjlhkaaWds
import Derived.Test.YtlgabihjfjlhkaaExp
import Derived.StillTailTactics
import Derived.Deep.RegionLaw
namespace Go.Proofs.Ytlgabihjfjlhkaa
open Go.RowKit

theorem gf_two (x : Nat) (hx : x < 256) : gf x 2 = xtN x := by
  have := all1 gf_two_all x hx
  simp only [Bool.and_eq_true, beq_iff_eq] at this
  exact this.1
/-- The bytes of word n, the first t of them. -/
def wdL (K : Nat → Nat) (n t : Nat) : List UInt8 := (List.range t).map (fun j => UInt8.ofNat (wordF K n j))
theorem wdL_len (K : Nat → Nat) (n t : Nat) : (wdL K n t).length = t := by simp [wdL]
theorem wdL_next (K : Nat → Nat) (n t : Nat) : wdL K n t ++ [UInt8.ofNat (wordF K n t)] = wdL K n (t + 1) := by simp [wdL, List.range_succ]
theorem wd_of_own {W1 wr : World} {v : Value} {K : Nat → Nat} {n : Nat} (hK : ∀ j, j < 4 → wordF K n j < 256) (h : OwnB W1 wr v (wdL K n 4)) (B : Nat) : WdAt wr B v K n := by
  have hl := wdL_len K n 4
  obtain ⟨g, c, rfl, hn⟩ := h.new (by omega) (by omega)
  obtain ⟨hg, hgl, _, _, cur, hh, _⟩ := hn.row
  refine ⟨⟨g, 0, none⟩, c, by rw [hl], hgl, .inr ⟨cur, hh⟩, fun j hj => ?_⟩
  obtain ⟨ad, e, hc⟩ := hn.isB.lies (by omega)
  cases e
  rw [hc j (by omega)]
  have h1 := hK j hj
  simp [wdL]
  omega
theorem wd_of_key {w : World} {B : Nat} {kad : Addr} {kc : Nat} {l : List UInt8} (h : IsBB w B (some kad) 32 kc l) (hB : B ≤ w.heap.size) (q : Nat) (hq : q < 8) : WdAt w B (.slice (some (kad.add (4 * q))) 4 (kc - 4 * q)) (fnOf l) q := by
  have hlen := h.len
  have hlow := h.low (by omega) kad rfl
  obtain ⟨ad, e, hc⟩ := h.lies (by omega)
  cases e
  refine ⟨_, _, rfl, by rw [block_of_add]; omega, .inl (by rw [block_of_add]; exact hlow), fun j hj => ?_⟩
  rw [add_of_add, hc (4 * q + j) (by omega), wordF_low _ _ _ hq]
  unfold fnOf
  rw [List.getD_eq_getElem?_getD, List.getElem?_eq_getElem (by omega)]
  rfl
theorem cells4 {w : World} {g t : Nat} {a b c d : Value} (h : w.heap[g]? = some (.cells #[a, b, c, d] t (0, 0))) : w.cell? ⟨g, 0, none⟩ = some a ∧ w.cell? ⟨g, 1, none⟩ = some b ∧ w.cell? ⟨g, 2, none⟩ = some c ∧ w.cell? ⟨g, 3, none⟩ = some d :=
  ⟨(row_cell h 0).trans rfl, (row_cell h 1).trans rfl, (row_cell h 2).trans rfl, (row_cell h 3).trans rfl⟩
theorem cell4_sel {w : World} {g t : Nat} {a b c d : Nat} (h : w.heap[g]? = some (.cells #[.int .u8 (a : Nat), .int .u8 (b : Nat), .int .u8 (c : Nat), .int .u8 (d : Nat)] t (0, 0))) (j : Nat) (hj : j < 4) : w.cell? ⟨g, j, none⟩ = some (.int .u8 (sel4 a b c d j : Nat)) := by
  obtain ⟨h0, h1, h2, h3⟩ := cells4 h
  rcases (show j = 0 ∨ j = 1 ∨ j = 2 ∨ j = 3 by omega) with rfl | rfl | rfl | rfl
  · exact h0
  · exact h1
  · exact h2
  · exact h3
structure WordsSt (w wr : World) (v : Value) (K : Nat → Nat) (n : Nat) : Prop where
  wds : ∃ vs, Wds w wr v vs K n
theorem WordsSt.on {w wr w' : World} {v : Value} {K : Nat → Nat} {n : Nat} (h : WordsSt w wr v K n) (hb : Below wr.heap.size wr w') : WordsSt w w' v K n := by
  obtain ⟨vs, h⟩ := h.wds; exact ⟨vs, h.on hb⟩
theorem WordsSt.bel {w wr : World} {v : Value} {K : Nat → Nat} {n : Nat} (h : WordsSt w wr v K n) : Below w.heap.size w wr := by
  obtain ⟨vs, h⟩ := h.wds; exact h.bel
theorem tab_cells {w : World} {B : Nat} {sad : Addr} {sc : Nat} (h : IsBB w B (some sad) 256 sc (tabL 256)) (x : Nat) (hx : x < 256) : w.cell? (sad.add x) = some (.int .u8 (subN x : Nat)) := by
  have hl := tabL_len 256
  obtain ⟨ad, e, hc⟩ := h.lies (by omega)
  cases e
  rw [hc x (by omega)]
  have h1 := sub_lt x hx
  simp [tabL]
  omega
theorem keep {w w' : World} (S : Below w.heap.size w w') {ad : Addr} {v : Value} (hc : w.cell? ad = some v) : w'.cell? ad = some v := (S.cell (lt_of_cell hc)).trans hc
theorem wpList_app1d {ops : Array Oper} {rest : List Oper} {o : Oper} {a : Act} {Q : Exit → Act → World → Prop} (hgd : o.guard = none) (s x : Operand)
    (ho : o.op = .call { callee := .builtin .append, args := #[s, x], argTypes := #[26, 26] }) (w wr : World) (v : Value) (X : List UInt8) (b : Nat) (hs : a.eval s = v) (hx : a.eval x = .slice (some ⟨wr.heap.size, 0, none⟩) 1 1)
    (h : OwnB w wr v X) (hl : X.length ≤ 1000000) (hb : b < 256)
    (hK : ∀ v' W, Hid (OwnB w W v' (X ++ [UInt8.ofNat b])) → wpList Try.prog ops Q rest (a.put o.dst v') W) : wpList Try.prog ops Q (o :: rest) a (wr.alloc (.cells #[.int .u8 (b : Nat)] 5)).drew :=
  wpList_app1 hgd s x ho w wr.drew v X b hs hx h.drew hl hb hK
theorem step_app1 {ops : Array Oper} {o : Oper} {a : Act} {K : Act → World → Prop} {Q : Exit → Act → World → Prop} {E : Prop} (b : Nat) (hgd : o.guard = none) (s x : Operand)
    (ho : o.op = .call { callee := .builtin .append, args := #[s, x], argTypes := #[26, 26] }) (w wr W0 : World) (hW0 : W0 = (wr.alloc (.cells #[.int .u8 (b : Nat)] 5)).drew) (v : Value) (X : List UInt8) (hs : a.eval s = v) (hx : a.eval x = .slice (some ⟨wr.heap.size, 0, none⟩) 1 1)
    (h : OwnB w wr v X) (hl : X.length ≤ 1000000) (hb : b < 256)
    (hK : ∀ v' W, Hid (OwnB w W v' (X ++ [UInt8.ofNat b])) → K (a.put o.dst v') W) :
    if Region.wanted o (yielded ops a.tmps) = true then Oper.wp Try.prog o a W0 K Q else E := by
  subst hW0
  obtain ⟨i0, hi, hz0, hz1, hz2⟩ := info_parts Try.info5
  have hw : Region.wanted o (yielded ops a.tmps) = true := by simp [Region.wanted, hgd]
  rw [if_pos hw]
  refine wp_append_own _ s x 26 ho w.heap.size 5 i0 (.int .u8 0) 1 1 Try.underlying26 hi hz0 hz1 hz2 rfl (by decide) v X.length (X.map bv) hs ((h.own.alloc _).drew) ⟨wr.heap.size, 0, none⟩ 1 1 [bv (UInt8.ofNat b)] hx rfl ?_ ?_ ?_ ?_ ?_ ?_
  · exact one_cell wr _ _ (by simp; omega)
  · intro u hu; simp at hu; subst hu; rfl
  · unfold maxLen; omega
  · omega
  · have := h.bel.size; simp; omega
  · intro v2 W2 hown2 hgrow2 _
    refine hK v2 W2 ⟨by simpa using hown2, ?_⟩
    exact ((h.bel.alloc h.bel.size _).drew).grown hgrow2 (by have := h.bel.size; simp; omega) (fun q hq => (h.own.lt q hq).1)
set_option maxRecDepth 10000 in
set_option maxHeartbeats 4000000 in
theorem Words_any (kad sad : Addr) (kc sc : Nat) (l : List UInt8) (w : World) (hl : IsBB w w.heap.size (some kad) 32 kc l) (ht : IsBB w w.heap.size (some sad) 256 sc (tabL 256)) :
    Calls Try.prog 28 #[.slice (some kad) 32 kc, .slice (some sad) 256 sc] w fun e w' => ∃ v, e = .returned v ∧ WordsSt w w' v (fnOf l) 60 := by
  have S0 : Hid (WordsSt w w (.slice none 0 0) (fnOf l) 0) := ⟨⟨_, Wds.nil w w _ (Below.refl _ w)⟩⟩
  have hK : ∀ j, fnOf l j < 256 := fnOf_lt l
  have hk32 : ∀ j, j < 32 → fnOf l j < 256 := fun j _ => hK j
  have hkc := hl.cap
  have HWk : Hid (∀ wr q, Below w.heap.size w wr → q < 8 → WdAt wr w.heap.size (.slice (some (kad.add (4 * q))) 4 (kc - 4 * q)) (fnOf l) q) := by
    intro wr q hb hq
    exact wd_of_key (hl.below hb) hb.size q hq
  have HTab : Hid (∀ wr x, Below w.heap.size w wr → x < 256 → wr.cell? (sad.add x) = some (.int .u8 (subN x : Nat))) := by
    intro wr x hb hx
    exact tab_cells (ht.below hb) x hx
  clear hl ht
  generalize fnOf l = K at S0 hK hk32 HWk ⊢
  go_enter Try.func28, Try.ntmps28
  go_wp2_with fail
  go_loopw [5, 6] (fun vv i wr => ∃ (v : Value) (k : Nat), k ≤ 8 ∧ i = .int .i64 k ∧ v = vv ∧ Hid (WordsSt w wr v K k)) (fun _ i _ => 8 - (intOf i).toNat)
  case atStart => exact ⟨_, 0, Nat.zero_le _, rfl, rfl, S0⟩
  case round =>
    obtain ⟨v, k, hk, rfl, rfl, hs⟩ := hrel
    clear S0
    by_cases hlt : k < 8
    · have hkz : (k : Int) < 8 := by omega
      have hcut := cut4 kad kc k (by omega) hkc
      have hu := hid (HWk.out wr k hs.out.bel hlt)
      obtain ⟨vs, hv⟩ := hs.out.wds
      have Hv := hid hv
      clear hv hs
      go_wp2_with (at_builtin; refine wpList_appW rfl (.tmp 17) (.tmp 25) rfl w wr v vs K k _ rfl rfl Hv.out hu.out (by omega) ?_; intro v2 vs2 W2 hv2)
      go_roundw
      case rel => exact ⟨v2, k + 1, by omega, by go_num, rfl, hid ⟨⟨_, hv2.out⟩⟩⟩
      case measure => simp [intOf]; omega
    · obtain rfl : k = 8 := by omega
      clear HWk hkc
      rw [show ((8 : Nat) : Int) = 8 from rfl]
      go_wp2_with fail
      go_loopw [5, 7, 8] (fun vv vp vi wr => ∃ (v : Value) (p : Nat), p ≤ 52 ∧ vi = .int .i64 ((p + 8 : Nat) : Int) ∧ vp = .int .u8 (powX ((p + 7) / 8) : Nat) ∧ v = vv ∧ Hid (WordsSt w wr v K (p + 8))) (fun _ _ vi _ => 60 - (intOf vi).toNat)
      case atStart => exact ⟨_, 0, Nat.zero_le _, rfl, rfl, rfl, hs⟩
      case round =>
        obtain ⟨v, p, hp, rfl, rfl, rfl, hst⟩ := hrel
        clear hs
        by_cases hlt : p < 52
        · have hlz : ((p + 8 : Nat) : Int) < 60 := by omega
          obtain ⟨vs, hv⟩ := hst.out.wds
          have hbw0 := hst.out.bel
          obtain ⟨gv, cv, rfl, hgv, hcl⟩ := hv.cells (by omega)
          obtain ⟨s7, hc7, a7, cc7, rfl, hb7, _, hr7⟩ := hcl (p + 7) (by omega)
          obtain ⟨s0, hc0, a0, cc0, rfl, hb0, _, hr0⟩ := hcl p (by omega)
          have hx : ∀ t, t < 4 → wordF K (p + 7) t < 256 := fun t ht => wordF_lt K hk32 (p + 8) (p + 7) t (by omega) ht
          have hnw : ∀ t, t < 4 → wordF K (p + 8) t < 256 := fun t ht => wordF_lt K hk32 (p + 9) (p + 8) t (by omega) ht
          have hop : ∀ t, t < 4 → wordF K p t < 256 := fun t ht => wordF_lt K hk32 (p + 1) p t (by omega) ht
          have Hkb : Hid (∀ t, t < 4 → wordF K (p + 8) t = wordF K p t ^^^ tF K p t) := by
            intro t ht
            have e := kb_next K p t ht
            unfold kbF at e
            rw [show (4 * p + 32 + t) / 4 = p + 8 by omega, show (4 * p + 32 + t) % 4 = t by omega, show (4 * p + t) / 4 = p by omega, show (4 * p + t) % 4 = t by omega] at e
            exact e
          have Hpn := hid (powX_next p)
          have Hps := hid (powX_stay p)
          have hpl := powX_lt ((p + 7) / 8)
          have hv0 := hv
          have HT7 := hid hr7
          have H0 := hid (And.intro hb0 hr0)
          have Hc0 := hid hc0
          have x0l := hx 0 (by omega)
          have x1l := hx 1 (by omega)
          have x2l := hx 2 (by omega)
          have x3l := hx 3 (by omega)
          have r0 : wr.cell? a7 = some (.int .u8 (wordF K (p + 7) 0 : Nat)) := by simpa [Addr.add] using hr7 0 (by omega)
          have r1 : wr.cell? ⟨a7.block, a7.off + 1, none⟩ = some (.int .u8 (wordF K (p + 7) 1 : Nat)) := by simpa [Addr.add] using hr7 1 (by omega)
          have r2 : wr.cell? ⟨a7.block, a7.off + 2, none⟩ = some (.int .u8 (wordF K (p + 7) 2 : Nat)) := by simpa [Addr.add] using hr7 2 (by omega)
          have r3 : wr.cell? ⟨a7.block, a7.off + 3, none⟩ = some (.int .u8 (wordF K (p + 7) 3 : Nat)) := by simpa [Addr.add] using hr7 3 (by omega)
          obtain ⟨x0, h0⟩ : ∃ x, x = wordF K (p + 7) 0 := ⟨_, rfl⟩
          obtain ⟨x1, h1⟩ : ∃ x, x = wordF K (p + 7) 1 := ⟨_, rfl⟩
          obtain ⟨x2, h2⟩ : ∃ x, x = wordF K (p + 7) 2 := ⟨_, rfl⟩
          obtain ⟨x3, h3⟩ : ∃ x, x = wordF K (p + 7) 3 := ⟨_, rfl⟩
          rw [← h0] at x0l r0
          rw [← h1] at x1l r1
          rw [← h2] at x2l r2
          rw [← h3] at x3l r3
          have HX := hid (And.intro (And.intro h0 h1) (And.intro h2 h3))
          obtain ⟨pw, hpw⟩ : ∃ x, x = powX ((p + 7) / 8) := ⟨_, rfl⟩
          rw [← hpw] at hpl ⊢
          have HPw := hid hpw
          obtain ⟨i, hi⟩ : ∃ i, i = p + 8 := ⟨_, rfl⟩
          rw [← hi] at hlz ⊢
          have Hi := hid hi
          rw [← hi] at hv0
          have HV := hid hv0
          have hi7 : (i : Int) - 1 = ((p + 7 : Nat) : Int) := by omega
          obtain ⟨p7, hp7⟩ : ∃ x, x = p + 7 := ⟨_, rfl⟩
          rw [← hp7] at hi7 hc7
          have hil : (p7 : Int) < (i : Int) := by omega
          have Hp7 := hid hp7
          have hbw := hst.out.bel
          have Hb7 := hid hb7
          have Hbw := hid hbw
          have HgV := hid hgv
          have HT := hid (HTab.out wr · hbw)
          have Hst := hid hst
          clear h0 h1 h2 h3 hpw hi hv hcl hx hr7 hr0 hb0 hc0 hb7 hbw hst hgv
          clear Hst hp7
          clear hv0 hbw0
          have hgw := HgV.out
          have i1 : IntKind.i64.wrap ((i : Int) - 8) = (p : Int) := by have := Hi.out; rw [IntWalk.i64_in _ (by omega)]; omega
          have ilp : (p : Int) < (i : Int) := by have := Hi.out; omega
          have HR := hid (And.intro (And.intro r0 r1) (And.intro r2 r3))
          have S1 : Hid (Below wr.heap.size wr (wr.alloc (.cells #[.int .u8 (x0 : Nat), .int .u8 (x1 : Nat), .int .u8 (x2 : Nat), .int .u8 (x3 : Nat)] 5)).drew) := ((Below.refl wr.heap.size wr).alloc (Nat.le_refl _) _).drew
          have R1 : Hid (((wr.alloc (.cells #[.int .u8 (x0 : Nat), .int .u8 (x1 : Nat), .int .u8 (x2 : Nat), .int .u8 (x3 : Nat)] 5)).drew).heap[wr.heap.size]? = some (.cells #[.int .u8 (x0 : Nat), .int .u8 (x1 : Nat), .int .u8 (x2 : Nat), .int .u8 (x3 : Nat)] 5 (0, 0))) := heap_alloc_new wr _
          rcases (show p % 8 = 0 ∨ p % 8 = 4 ∨ (¬ p % 8 = 0 ∧ ¬ p % 8 = 4) by omega) with h8 | h8 | ⟨h8, h8'⟩
          · have hrem : (i : Int) % 8 = 0 := by have := Hi.out; omega
            have hb1 : ((i : Int) % 8 == 0) = true := by rw [hrem]; rfl
            have hb2 : ((i : Int) % 8 == 4) = false := by rw [hrem]; rfl
            go_wp2_with fail
            go_still_tail 12, (by kernel_rfl)
            change wpList _ _ _ _ _ wr.drew
            clear r0 r1 r2 r3 hc7
            go_wp2_with fail
            generalize (wr.alloc (.cells #[.int .u8 (x0 : Nat), .int .u8 (x1 : Nat), .int .u8 (x2 : Nat), .int .u8 (x3 : Nat)] 5)).drew = W1 at S1 R1 ⊢
            have r0 := keep S1.out HR.out.1.1
            have r1 := keep S1.out HR.out.1.2
            have r2 := keep S1.out HR.out.2.1
            have r3 := keep S1.out HR.out.2.2
            have d0 := keep S1.out (HT.out x0 x0l)
            have sl0 := sub_lt x0 x0l
            have ix0 : (x0 : Int) < 256 := by omega
            have d1 := keep S1.out (HT.out x1 x1l)
            have sl1 := sub_lt x1 x1l
            have ix1 : (x1 : Int) < 256 := by omega
            have d2 := keep S1.out (HT.out x2 x2l)
            have sl2 := sub_lt x2 x2l
            have ix2 : (x2 : Int) < 256 := by omega
            have d3 := keep S1.out (HT.out x3 x3l)
            have sl3 := sub_lt x3 x3l
            have ix3 : (x3 : Int) < 256 := by omega
            have HT2 := hid (tF_zero K p x0 x1 x2 x3 HX.out h8)
            generalize subN x0 = s0 at d0 sl0 HT2
            generalize subN x1 = s1 at d1 sl1 HT2
            generalize subN x2 = s2 at d2 sl2 HT2
            generalize subN x3 = s3 at d3 sl3 HT2
            rw [← HPw.out] at HT2
            have qy := u8_xor_nat _ _ sl1 hpl
            have sl1b := xor8 sl1 hpl
            generalize s1 ^^^ pw = y at qy sl1b HT2
            go_still_tail 26, (by kernel_rfl)
            change wpList _ _ _ _ _ W1.drew
            clear r0 r1 r2 r3 d0 d1 d2 d3
            have S2 : Hid (Below wr.heap.size wr (W1.alloc (.cells #[.int .u8 (y : Nat), .int .u8 (s2 : Nat), .int .u8 (s3 : Nat), .int .u8 (s0 : Nat)] 5)).drew) := S1.out.trans ((((Below.refl W1.heap.size W1).alloc (Nat.le_refl _) _).drew).mono S1.out.size)
            have R2 : Hid (((W1.alloc (.cells #[.int .u8 (y : Nat), .int .u8 (s2 : Nat), .int .u8 (s3 : Nat), .int .u8 (s0 : Nat)] 5)).drew).heap[W1.heap.size]? = some (.cells #[.int .u8 (y : Nat), .int .u8 (s2 : Nat), .int .u8 (s3 : Nat), .int .u8 (s0 : Nat)] 5 (0, 0))) := heap_alloc_new W1 _
            have RTm := hid (fun w => RefTimes_any pw 2 hpl (by omega) w)
            rw [gf_two pw hpl] at RTm
            go_wp2_with (go_at_call 40; refine (RTm.out _).mono ?_; rintro e w' ⟨rfl, rfl⟩)
            obtain ⟨gt, hgt⟩ : ∃ g, g = W1.heap.size := ⟨_, rfl⟩
            rw [← hgt] at R2 ⊢
            have Hgt := hid hgt
            clear hgt S1 R1
            generalize (W1.alloc (.cells #[.int .u8 (y : Nat), .int .u8 (s2 : Nat), .int .u8 (s3 : Nat), .int .u8 (s0 : Nat)] 5)).drew = W2 at S2 R2 ⊢
            obtain ⟨wo, rfl⟩ : ∃ wo : World, wo = wr := ⟨_, rfl⟩
            try rw [hrem]
            go_loopw [11, 12] (fun vv vk wx => ∃ (v2 : Value) (t : Nat), t ≤ 4 ∧ vk = .int .i64 t ∧ v2 = vv ∧ Hid (OwnB W2 wx v2 (wdL K (p + 8) t))) (fun _ vk _ => 4 - (intOf vk).toNat)
            case atStart => exact ⟨_, 0, Nat.zero_le _, rfl, rfl, OwnB.nil W2 W2 (Below.refl _ _)⟩
            case round =>
              obtain ⟨v2, t, ht, rfl, rfl, hs2⟩ := hrel
              have hbx := hid (S2.out.trans (hs2.out.bel.mono S2.out.size))
              by_cases hlt2 : t < 4
              · have hl4 : (t : Int) < 4 := by omega
                have c1 := keep hbx.out Hc0.out
                have c2 := keep hbx.out (H0.out.2 t hlt2)
                have c3 := keep hs2.out.bel (cell4_sel R2.out t hlt2)
                have lk := hop t hlt2
                have lz := sel4_lt y s2 s3 s0 t sl1b sl2 sl3 sl0
                have hkn := Hkb.out t hlt2
                rw [HT2.out t hlt2] at hkn
                have hnx := wdL_next K (p + 8) t
                rw [hkn] at hnx
                have Hnx := hid hnx
                have hwl := wdL_len K (p + 8) t
                have lr := xor8 lk lz
                have qx := u8_xor_nat _ _ lk lz
                generalize wordF K p t ^^^ sel4 y s2 s3 s0 t = r at qx lr Hnx
                generalize sel4 y s2 s3 s0 t = z at c3 lz qx
                generalize wordF K p t = k at c2 lk qx
                clear hnx hkn
                go_wp2_with fail
                go_region_law (refine step_app1 r rfl (.tmp 113) (.tmp 127) rfl W2 wr _ (by rfl) v2 (wdL K (p + 8) t) rfl rfl hs2.out (by rw [hwl]; omega) lr ?_; intro v3 W3 hv3)
                all_goals
                  rw [Hnx.out] at hv3
                  go_wp2_with fail
                  go_roundw
                  case rel => exact ⟨v3, t + 1, by omega, by go_num, rfl, hv3⟩
                  case measure => simp [intOf]; omega
              · obtain rfl : t = 4 := by omega
                have hu := wd_of_own hnw hs2.out w.heap.size
                rw [← Hi.out] at hu
                have hu9 := hu
                obtain ⟨ad9, c9, he9, _⟩ := hu9
                subst he9
                have Hu := hid hu
                have Hv := hid (HV.out.on hbx.out)
                clear hu
                go_wp2_with (at_builtin; go_loud (refine wpList_appW rfl (.tmp 129) (.tmp 131) rfl w wr (.slice (some ⟨gv, 0, none⟩) i cv) vs K i (.slice (some ad9) 4 c9) rfl rfl Hv.out Hu.out (by omega) ?_); intro v3 vs3 W3 hv3)
                go_roundw
                case rel => exact ⟨v3, p + 1, by omega, by have := Hi.out; congr 1; omega, by rw [Hpn.out h8, ← HPw.out], rfl, by have := Hi.out; rw [show p + 1 + 8 = i + 1 by omega]; exact hid ⟨⟨_, hv3.out⟩⟩⟩
                case measure => have := Hi.out; simp [intOf]; omega
          · have hrem : (i : Int) % 8 = 4 := by have := Hi.out; omega
            have hb1 : ((i : Int) % 8 == 0) = false := by rw [hrem]; rfl
            have hb2 : ((i : Int) % 8 == 4) = true := by rw [hrem]; rfl
            go_wp2_with fail
            go_still_tail 12, (by kernel_rfl)
            change wpList _ _ _ _ _ wr.drew
            clear r0 r1 r2 r3 hc7
            go_wp2_with fail
            generalize (wr.alloc (.cells #[.int .u8 (x0 : Nat), .int .u8 (x1 : Nat), .int .u8 (x2 : Nat), .int .u8 (x3 : Nat)] 5)).drew = W1 at S1 R1 ⊢
            have r0 := keep S1.out HR.out.1.1
            have r1 := keep S1.out HR.out.1.2
            have r2 := keep S1.out HR.out.2.1
            have r3 := keep S1.out HR.out.2.2
            have d0 := keep S1.out (HT.out x0 x0l)
            have sl0 := sub_lt x0 x0l
            have ix0 : (x0 : Int) < 256 := by omega
            have d1 := keep S1.out (HT.out x1 x1l)
            have sl1 := sub_lt x1 x1l
            have ix1 : (x1 : Int) < 256 := by omega
            have d2 := keep S1.out (HT.out x2 x2l)
            have sl2 := sub_lt x2 x2l
            have ix2 : (x2 : Int) < 256 := by omega
            have d3 := keep S1.out (HT.out x3 x3l)
            have sl3 := sub_lt x3 x3l
            have ix3 : (x3 : Int) < 256 := by omega
            have HT2 := hid (tF_four K p x0 x1 x2 x3 HX.out h8)
            generalize subN x0 = s0 at d0 sl0 HT2
            generalize subN x1 = s1 at d1 sl1 HT2
            generalize subN x2 = s2 at d2 sl2 HT2
            generalize subN x3 = s3 at d3 sl3 HT2
            go_still_tail 24, (by kernel_rfl)
            change wpList _ _ _ _ _ W1.drew
            clear r0 r1 r2 r3 d0 d1 d2 d3
            have S2 : Hid (Below wr.heap.size wr (W1.alloc (.cells #[.int .u8 (s0 : Nat), .int .u8 (s1 : Nat), .int .u8 (s2 : Nat), .int .u8 (s3 : Nat)] 5)).drew) := S1.out.trans ((((Below.refl W1.heap.size W1).alloc (Nat.le_refl _) _).drew).mono S1.out.size)
            have R2 : Hid (((W1.alloc (.cells #[.int .u8 (s0 : Nat), .int .u8 (s1 : Nat), .int .u8 (s2 : Nat), .int .u8 (s3 : Nat)] 5)).drew).heap[W1.heap.size]? = some (.cells #[.int .u8 (s0 : Nat), .int .u8 (s1 : Nat), .int .u8 (s2 : Nat), .int .u8 (s3 : Nat)] 5 (0, 0))) := heap_alloc_new W1 _
            go_wp2_with fail
            obtain ⟨gt, hgt⟩ : ∃ g, g = W1.heap.size := ⟨_, rfl⟩
            rw [← hgt] at R2 ⊢
            have Hgt := hid hgt
            clear hgt S1 R1
            generalize (W1.alloc (.cells #[.int .u8 (s0 : Nat), .int .u8 (s1 : Nat), .int .u8 (s2 : Nat), .int .u8 (s3 : Nat)] 5)).drew = W2 at S2 R2 ⊢
            obtain ⟨wo, rfl⟩ : ∃ wo : World, wo = wr := ⟨_, rfl⟩
            try rw [hrem]
            go_loopw [11, 12] (fun vv vk wx => ∃ (v2 : Value) (t : Nat), t ≤ 4 ∧ vk = .int .i64 t ∧ v2 = vv ∧ Hid (OwnB W2 wx v2 (wdL K (p + 8) t))) (fun _ vk _ => 4 - (intOf vk).toNat)
            case atStart => exact ⟨_, 0, Nat.zero_le _, rfl, rfl, OwnB.nil W2 W2 (Below.refl _ _)⟩
            case round =>
              obtain ⟨v2, t, ht, rfl, rfl, hs2⟩ := hrel
              have hbx := hid (S2.out.trans (hs2.out.bel.mono S2.out.size))
              by_cases hlt2 : t < 4
              · have hl4 : (t : Int) < 4 := by omega
                have c1 := keep hbx.out Hc0.out
                have c2 := keep hbx.out (H0.out.2 t hlt2)
                have c3 := keep hs2.out.bel (cell4_sel R2.out t hlt2)
                have lk := hop t hlt2
                have lz := sel4_lt s0 s1 s2 s3 t sl0 sl1 sl2 sl3
                have hkn := Hkb.out t hlt2
                rw [HT2.out t hlt2] at hkn
                have hnx := wdL_next K (p + 8) t
                rw [hkn] at hnx
                have Hnx := hid hnx
                have hwl := wdL_len K (p + 8) t
                have lr := xor8 lk lz
                have qx := u8_xor_nat _ _ lk lz
                generalize wordF K p t ^^^ sel4 s0 s1 s2 s3 t = r at qx lr Hnx
                generalize sel4 s0 s1 s2 s3 t = z at c3 lz qx
                generalize wordF K p t = k at c2 lk qx
                clear hnx hkn
                go_wp2_with fail
                go_region_law (refine step_app1 r rfl (.tmp 113) (.tmp 127) rfl W2 wr _ (by rfl) v2 (wdL K (p + 8) t) rfl rfl hs2.out (by rw [hwl]; omega) lr ?_; intro v3 W3 hv3)
                all_goals
                  rw [Hnx.out] at hv3
                  go_wp2_with fail
                  go_roundw
                  case rel => exact ⟨v3, t + 1, by omega, by go_num, rfl, hv3⟩
                  case measure => simp [intOf]; omega
              · obtain rfl : t = 4 := by omega
                have hu := wd_of_own hnw hs2.out w.heap.size
                rw [← Hi.out] at hu
                have hu9 := hu
                obtain ⟨ad9, c9, he9, _⟩ := hu9
                subst he9
                have Hu := hid hu
                have Hv := hid (HV.out.on hbx.out)
                clear hu
                go_wp2_with (at_builtin; go_loud (refine wpList_appW rfl (.tmp 129) (.tmp 131) rfl w wr (.slice (some ⟨gv, 0, none⟩) i cv) vs K i (.slice (some ad9) 4 c9) rfl rfl Hv.out Hu.out (by omega) ?_); intro v3 vs3 W3 hv3)
                go_roundw
                case rel => exact ⟨v3, p + 1, by omega, by have := Hi.out; congr 1; omega, by rw [Hps.out (by omega), ← HPw.out], rfl, by have := Hi.out; rw [show p + 1 + 8 = i + 1 by omega]; exact hid ⟨⟨_, hv3.out⟩⟩⟩
                case measure => have := Hi.out; simp [intOf]; omega
          · have hrem : ¬ (i : Int) % 8 = 0 := by have := Hi.out; omega
            have hrem2 : ¬ (i : Int) % 8 = 4 := by have := Hi.out; omega
            have hb1 : ((i : Int) % 8 == 0) = false := beq_eq_false_iff_ne.2 hrem
            have hb2 : ((i : Int) % 8 == 4) = false := beq_eq_false_iff_ne.2 hrem2
            go_wp2_with fail
            go_still_tail 12, (by kernel_rfl)
            change wpList _ _ _ _ _ wr.drew
            clear r0 r1 r2 r3 hc7
            go_wp2_with fail
            have HT2 := hid (tF_else K p x0 x1 x2 x3 HX.out h8 h8')
            obtain ⟨gt, hgt⟩ : ∃ g, g = wr.heap.size := ⟨_, rfl⟩
            rw [← hgt] at R1 ⊢
            have Hgt := hid hgt
            clear hgt
            generalize (wr.alloc (.cells #[.int .u8 (x0 : Nat), .int .u8 (x1 : Nat), .int .u8 (x2 : Nat), .int .u8 (x3 : Nat)] 5)).drew = W2 at S1 R1 ⊢
            have S2 := S1
            have R2 := R1
            clear S1 R1
            obtain ⟨wo, rfl⟩ : ∃ wo : World, wo = wr := ⟨_, rfl⟩
            go_loopw [11, 12] (fun vv vk wx => ∃ (v2 : Value) (t : Nat), t ≤ 4 ∧ vk = .int .i64 t ∧ v2 = vv ∧ Hid (OwnB W2 wx v2 (wdL K (p + 8) t))) (fun _ vk _ => 4 - (intOf vk).toNat)
            case atStart => exact ⟨_, 0, Nat.zero_le _, rfl, rfl, OwnB.nil W2 W2 (Below.refl _ _)⟩
            case round =>
              obtain ⟨v2, t, ht, rfl, rfl, hs2⟩ := hrel
              have hbx := hid (S2.out.trans (hs2.out.bel.mono S2.out.size))
              by_cases hlt2 : t < 4
              · have hl4 : (t : Int) < 4 := by omega
                have c1 := keep hbx.out Hc0.out
                have c2 := keep hbx.out (H0.out.2 t hlt2)
                have c3 := keep hs2.out.bel (cell4_sel R2.out t hlt2)
                have lk := hop t hlt2
                have lz := sel4_lt x0 x1 x2 x3 t x0l x1l x2l x3l
                have hkn := Hkb.out t hlt2
                rw [HT2.out t hlt2] at hkn
                have hnx := wdL_next K (p + 8) t
                rw [hkn] at hnx
                have Hnx := hid hnx
                have hwl := wdL_len K (p + 8) t
                have lr := xor8 lk lz
                have qx := u8_xor_nat _ _ lk lz
                generalize wordF K p t ^^^ sel4 x0 x1 x2 x3 t = r at qx lr Hnx
                generalize sel4 x0 x1 x2 x3 t = z at c3 lz qx
                generalize wordF K p t = k at c2 lk qx
                clear hnx hkn
                go_wp2_with fail
                go_region_law (refine step_app1 r rfl (.tmp 113) (.tmp 127) rfl W2 wr _ (by rfl) v2 (wdL K (p + 8) t) rfl rfl hs2.out (by rw [hwl]; omega) lr ?_; intro v3 W3 hv3)
                all_goals
                  rw [Hnx.out] at hv3
                  go_wp2_with fail
                  go_roundw
                  case rel => exact ⟨v3, t + 1, by omega, by go_num, rfl, hv3⟩
                  case measure => simp [intOf]; omega
              · obtain rfl : t = 4 := by omega
                have hu := wd_of_own hnw hs2.out w.heap.size
                rw [← Hi.out] at hu
                have hu9 := hu
                obtain ⟨ad9, c9, he9, _⟩ := hu9
                subst he9
                have Hu := hid hu
                have Hv := hid (HV.out.on hbx.out)
                clear hu
                go_wp2_with (at_builtin; go_loud (refine wpList_appW rfl (.tmp 129) (.tmp 131) rfl w wr (.slice (some ⟨gv, 0, none⟩) i cv) vs K i (.slice (some ad9) 4 c9) rfl rfl Hv.out Hu.out (by omega) ?_); intro v3 vs3 W3 hv3)
                go_roundw
                case rel => exact ⟨v3, p + 1, by omega, by have := Hi.out; congr 1; omega, by rw [Hps.out h8, ← HPw.out], rfl, by have := Hi.out; rw [show p + 1 + 8 = i + 1 by omega]; exact hid ⟨⟨_, hv3.out⟩⟩⟩
                case measure => have := Hi.out; simp [intOf]; omega
        · obtain rfl : p = 52 := by omega
          go_wp2_with fail
          go_ret
          exact ⟨_, rfl, hst.out⟩
end Go.Proofs.Ytlgabihjfjlhkaa
