/-
  The contract of 'expand': the words of a key, in memory.
-/
import Derived.Test.YtlgabihjfjlhkaaEnc
import Derived.Deep.Cut
namespace Go.Proofs.Ytlgabihjfjlhkaa
open Go.RowKit

/-- What word p + 8 is xor'd by, byte by byte. -/
def tF (K : Nat → Nat) (p t : Nat) : Nat :=
  if p % 8 = 0 then subN (wordF K (p + 7) ((t + 1) % 4)) ^^^ (if t = 0 then powX ((p + 7) / 8) else 0) else if p % 8 = 4 then subN (wordF K (p + 7) t) else wordF K (p + 7) t
theorem kb_next (K : Nat → Nat) (p t : Nat) (ht : t < 4) : kbF K (4 * p + 32 + t) = kbF K (4 * p + t) ^^^ tF K p t := by
  unfold kbF tF
  rw [show (4 * p + 32 + t) / 4 = p + 8 by omega, show (4 * p + 32 + t) % 4 = t by omega, show (4 * p + t) / 4 = p by omega, show (4 * p + t) % 4 = t by omega,
    wordF_high K (p + 8) t (by omega), show p + 8 - 8 = p by omega, show p + 8 - 1 = p + 7 by omega, show (p + 8) % 8 = p % 8 by omega]
  by_cases h : p % 8 = 0
  · rw [if_pos h, if_pos h, show (p + 8) / 8 - 1 = (p + 7) / 8 by omega]
  · rw [if_neg h, if_neg h]
theorem powX_next (p : Nat) (h : p % 8 = 0) : powX ((p + 1 + 7) / 8) = xtN (powX ((p + 7) / 8)) := by
  rw [show (p + 1 + 7) / 8 = (p + 7) / 8 + 1 by omega]; rfl
theorem powX_stay (p : Nat) (h : ¬ p % 8 = 0) : powX ((p + 1 + 7) / 8) = powX ((p + 7) / 8) := by
  rw [show (p + 1 + 7) / 8 = (p + 7) / 8 by omega]
/-- The first m bytes are the key's words'. -/
def expP (K F : Nat → Nat) (m : Nat) : Nat → Nat := fun j => if j < m then kbF K j else F j
theorem expP_next (K F : Nat → Nat) (m v : Nat) (hv : v = kbF K m) (j : Nat) : upd (expP K F m) m v j = expP K F (m + 1) j := by
  unfold upd expP
  by_cases e : j = m
  · subst e; rw [if_pos rfl, if_pos (by omega), hv]
  · rw [if_neg e]
    by_cases h : j < m
    · rw [if_pos h, if_pos (by omega)]
    · rw [if_neg h, if_neg (by omega)]
theorem ci_copied (F : Nat → Nat) (l : List UInt8) (h : l.length = 32) : (ciL F).toArray.toList.take 1 ++ (l.map bv ++ (ciL F).toArray.toList.drop (1 + (l.map bv).length)) = ciL (expP (fnOf l) F 32) := by
  rw [List.length_map, h]
  apply List.ext_getElem?
  intro i
  rcases i with _ | i
  · rw [List.getElem?_append_left (by rw [List.length_take, List.toList_toArray, ciL_len]; omega), List.getElem?_take, if_pos (by omega), List.toList_toArray, ciL_zero, ciL_zero]
  · have h1 : ((ciL F).toArray.toList.take 1).length = 1 := by rw [List.length_take, List.toList_toArray, ciL_len]; omega
    rw [List.getElem?_append_right (by omega), h1, Nat.add_sub_cancel]
    by_cases hi : i < 752
    · rw [show i + 1 = 1 + i by omega, ciL_get _ i hi]
      by_cases h2 : i < 32
      · rw [List.getElem?_append_left (by rw [List.length_map]; omega), List.getElem?_map, List.getElem?_eq_getElem (by omega)]
        unfold expP kbF
        rw [if_pos h2, wordF_low _ _ _ (by omega), show 4 * (i / 4) + i % 4 = i by omega]
        unfold fnOf
        rw [List.getD_eq_getElem?_getD, List.getElem?_eq_getElem (by omega)]
        rfl
      · rw [List.getElem?_append_right (by rw [List.length_map]; omega), List.length_map, h, List.getElem?_drop, List.toList_toArray, show 1 + 32 + (i - 32) = 1 + i by omega, ciL_get F i hi]
        unfold expP
        rw [if_neg h2]
    · rw [List.getElem?_eq_none (by rw [List.length_append, List.length_map, List.length_drop, List.toList_toArray, ciL_len]; omega), List.getElem?_eq_none (by rw [ciL_len]; omega)]
theorem kb_one (l : List UInt8) : ∀ v ∈ l.map bv, v.oneCell' = true := bv_one l
def zb4 : Array Value := #[.int .u8 0, .int .u8 0, .int .u8 0, .int .u8 0]
theorem zero61 (w : World) : (zeroValue 66).run Try.prog w = .ok (.agg zb4) w := by kernel_rfl
def sel4 (a b c d t : Nat) : Nat := if t = 0 then a else if t = 1 then b else if t = 2 then c else d
theorem ix61 (a b c d t : Nat) (ht : t < 4) (w : World) : (Instr.index 66 (.agg #[.int .u8 (a : Nat), .int .u8 (b : Nat), .int .u8 (c : Nat), .int .u8 (d : Nat)]) (.int .i64 (t : Nat))).run Try.prog w = .ok (.int .u8 (sel4 a b c d t : Nat)) w := by
  rcases (show t = 0 ∨ t = 1 ∨ t = 2 ∨ t = 3 by omega) with rfl | rfl | rfl | rfl <;> kernel_rfl
theorem sel4_lt (a b c d t : Nat) (ha : a < 256) (hb : b < 256) (hc : c < 256) (hd : d < 256) : sel4 a b c d t < 256 := by
  unfold sel4; split; exact ha; split; exact hb; split; exact hc; exact hd
theorem row4 (a b c d : Nat) : (#[Value.int .u8 (a : Nat), .int .u8 (b : Nat), .int .u8 (c : Nat), .int .u8 (d : Nat)] : Array Value).all (·.oneCell') = true := by simp [Value.oneCell']
theorem size61 (a b c d : Value) : (Try.prog.info? 66).map (·.size) = some (#[a, b, c, d] : Array Value).size := by
  show _ = some 4
  kernel_rfl
structure ExpSt (w wr : World) (gc : Nat) (G : Nat → Nat) : Prop where
  ci : CiAt wr gc G
  but : But gc w wr
  lt : gc < w.heap.size
theorem ExpSt.drew {w wr : World} {gc : Nat} {G : Nat → Nat} (s : ExpSt w wr gc G) : ExpSt w wr.drew gc G := ⟨s.ci, s.but.drew, s.lt⟩
theorem ExpSt.set {w wr : World} {gc : Nat} {G : Nat → Nat} (s : ExpSt w wr gc G) (j v : Nat) (hj : j < 752) : ExpSt w (wr.setCell ⟨gc, 1 + j, none⟩ (.int .u8 (v : Nat))) gc (upd G j v) := ⟨s.ci.set j v hj, s.but.set _ _, s.lt⟩
theorem ExpSt.same {w wr : World} {gc : Nat} {G G' : Nat → Nat} (s : ExpSt w wr gc G) (h : ∀ j, j < 752 → G j = G' j) : ExpSt w wr gc G' := ⟨s.ci.same h, s.but, s.lt⟩
/-- A word of its own is made, and written. -/
theorem ExpSt.word {w wr : World} {gc : Nat} {G : Nat → Nat} (s : ExpSt w wr gc G) (R : Array Value) : ExpSt w ((wr.alloc (.cells zb4 66)).setRow wr.heap.size R) gc G := by
  have hl := s.ci.lt
  have b : Below wr.heap.size wr ((wr.alloc (.cells zb4 66)).setRow wr.heap.size R) := below_setRow ((Below.refl wr.heap.size wr).alloc (Nat.le_refl _) _) (Nat.le_refl _) _
  exact ⟨s.ci.onB b hl, s.but.trans (But.of b), s.lt⟩
theorem ExpSt.row {w wr : World} {gc g : Nat} {G : Nat → Nat} (s : ExpSt w wr gc G) (hg : gc < g) (h2 : w.heap.size ≤ g) (R : Array Value) : ExpSt w (wr.setRow g R) gc G := by
  refine ⟨(setRow_other _ _ _ _ (by omega)).trans s.ci, ?_, s.lt⟩
  have hb := s.but
  exact ⟨hb.os, hb.tape, hb.output, by simp [World.setRow]; exact hb.size, fun i hi hne => (setRow_other _ _ _ _ (by omega)).trans (hb.block i hi hne)⟩

theorem ExpSt.sub {w wr : World} {gc m : Nat} {K F : Nat → Nat} (s : ExpSt w wr gc (expP K F m)) (hm : m ≤ 240) (hs : ∀ x, x < 256 → F (240 + x) = subN x) (x : Nat) (hx : x < 256) : wr.cell? ⟨gc, 241 + x, none⟩ = some (.int .u8 (subN x : Nat)) := by
  rw [show 241 + x = 1 + (240 + x) by omega, s.ci.cell (240 + x) (by omega)]
  unfold expP
  rw [if_neg (by omega), hs x hx]
theorem ExpSt.old {w wr : World} {gc m : Nat} {K F : Nat → Nat} (s : ExpSt w wr gc (expP K F m)) (u : Nat) (hu : u < m) (hm : m ≤ 240) : wr.cell? ⟨gc, 1 + u, none⟩ = some (.int .u8 (kbF K u : Nat)) := by
  rw [s.ci.cell u (by omega)]
  unfold expP
  rw [if_pos hu]
theorem tF_zero (K : Nat → Nat) (p : Nat) (x0 x1 x2 x3 : Nat) (hx : (x0 = wordF K (p + 7) 0 ∧ x1 = wordF K (p + 7) 1) ∧ (x2 = wordF K (p + 7) 2 ∧ x3 = wordF K (p + 7) 3)) (h : p % 8 = 0) :
    ∀ t, t < 4 → tF K p t = sel4 (subN x1 ^^^ powX ((p + 7) / 8)) (subN x2) (subN x3) (subN x0) t := by
  intro t ht
  unfold tF
  rw [if_pos h]
  obtain ⟨⟨rfl, rfl⟩, ⟨rfl, rfl⟩⟩ := hx
  rcases (show t = 0 ∨ t = 1 ∨ t = 2 ∨ t = 3 by omega) with rfl | rfl | rfl | rfl
  · rfl
  · exact Nat.xor_zero _
  · exact Nat.xor_zero _
  · exact Nat.xor_zero _
theorem tF_four (K : Nat → Nat) (p : Nat) (x0 x1 x2 x3 : Nat) (hx : (x0 = wordF K (p + 7) 0 ∧ x1 = wordF K (p + 7) 1) ∧ (x2 = wordF K (p + 7) 2 ∧ x3 = wordF K (p + 7) 3)) (h : p % 8 = 4) :
    ∀ t, t < 4 → tF K p t = sel4 (subN x0) (subN x1) (subN x2) (subN x3) t := by
  intro t ht
  unfold tF
  rw [if_neg (by omega), if_pos h]
  obtain ⟨⟨rfl, rfl⟩, ⟨rfl, rfl⟩⟩ := hx
  rcases (show t = 0 ∨ t = 1 ∨ t = 2 ∨ t = 3 by omega) with rfl | rfl | rfl | rfl <;> rfl
theorem tF_else (K : Nat → Nat) (p : Nat) (x0 x1 x2 x3 : Nat) (hx : (x0 = wordF K (p + 7) 0 ∧ x1 = wordF K (p + 7) 1) ∧ (x2 = wordF K (p + 7) 2 ∧ x3 = wordF K (p + 7) 3)) (h : ¬ p % 8 = 0) (h' : ¬ p % 8 = 4) :
    ∀ t, t < 4 → tF K p t = sel4 x0 x1 x2 x3 t := by
  intro t ht
  unfold tF
  rw [if_neg h, if_neg h']
  obtain ⟨⟨rfl, rfl⟩, ⟨rfl, rfl⟩⟩ := hx
  rcases (show t = 0 ∨ t = 1 ∨ t = 2 ∨ t = 3 by omega) with rfl | rfl | rfl | rfl <;> rfl
theorem ExpSt.put {w wx : World} {gc m : Nat} {K F : Nat → Nat} (s : ExpSt w wx gc (expP K F m)) (hm : m < 240) (v : Nat) (hv : v = kbF K m) : ExpSt w ((wx.setCell ⟨gc, 1 + m, none⟩ (.int .u8 (v : Nat))).drew) gc (expP K F (m + 1)) :=
  ((s.set m v (by omega)).same fun j _ => expP_next K F m v hv j).drew

set_option maxRecDepth 10000 in
set_option maxHeartbeats 4000000 in
theorem expand_any (gc : Nat) (F : Nat → Nat) (A : Option Addr) (c : Nat) (l : List UInt8) (w : World) (h : CiAt w gc F) (hs : ∀ x, x < 256 → F (240 + x) = subN x) (hl : IsBB w gc A 32 c l) :
    Calls Try.prog 18 #[.pointer (some ⟨gc, 0, none⟩), .slice A 32 c] w fun e w' => e = .returned (.tuple #[]) ∧ CiAt w' gc (expP (fnOf l) F 240) ∧ But gc w w' := by
  have zv := zero61
  have hlen := hl.len
  obtain ⟨ad, rfl, hcell⟩ := hl.lies (by omega)
  have hgl := h.lt
  have hsrc : Hid (∀ (j : Nat) (v : Value), (l.map bv)[j]? = some v → w.cell? (ad.add j) = some v) := by
    intro j v hv
    have hj : j < l.length := by have := (List.getElem?_eq_some_iff.1 hv).1; simpa using this
    rw [map_bv_getElem? l j hj] at hv
    cases hv
    exact hcell j hj
  have HCp := hid (ci_copied F l hlen)
  have HL := hid hlen
  have S0 : Hid (ExpSt w (w.setRow gc (ciL (expP (fnOf l) F 32)).toArray) gc (expP (fnOf l) F 32)) := by
    refine ⟨setRow_heap _ _ _ _ _ _ h, ⟨rfl, rfl, rfl, by simp [World.setRow], fun i hi hne => setRow_other _ _ _ _ (by omega)⟩, hgl⟩
  have H := hid h
  have Hs := hid hs
  have hK : ∀ j, fnOf l j < 256 := fnOf_lt l
  clear h hs hl hcell
  go_enter Try.func18, Try.ntmps18
  go_wp2_with (refine wpList_copy_own rfl (.tmp 12) (.tmp 13) 26 26 rfl 5 Try.underlying26 Try.size5 gc 1 240 240 ad 32 c rfl rfl (ciL F).toArray 35 H.out (l.map bv) (by rw [List.length_map, HL.out]; rfl) hsrc.out (by rw [List.length_map, HL.out, List.size_toArray, ciL_len]; omega) (kb_one l) ?_; rw [HCp.out])
  generalize w.setRow gc (ciL (expP (fnOf l) F 32)).toArray = W0 at S0 ⊢
  obtain ⟨K, HKe⟩ : ∃ K, K = fnOf l := ⟨_, rfl⟩
  rw [← HKe] at S0 hK
  clear HCp H hsrc
  have hk32 : ∀ j, j < 32 → K j < 256 := fun j _ => hK j
  go_loopw [4, 5] (fun vp va wr => ∃ p : Nat, p ≤ 52 ∧ va = .int .i64 ((4 * p + 32 : Nat) : Int) ∧ vp = .int .u8 (powX ((p + 7) / 8) : Nat) ∧ Hid (ExpSt w wr gc (expP K F (4 * p + 32)))) (fun _ va _ => 240 - (intOf va).toNat)
  case atStart => exact ⟨0, Nat.zero_le _, rfl, rfl, S0⟩
  case round =>
    obtain ⟨p, hp, rfl, rfl, hst⟩ := hrel
    clear S0
    by_cases hlt : p < 52
    · have hlz : ((4 * p + 32 : Nat) : Int) < 240 := by omega
      have hrd : Hid (∀ t, t < 4 → wr.cell? ⟨gc, 1 + (4 * p + 28) + t, none⟩ = some (.int .u8 (wordF K (p + 7) t : Nat))) := by
        intro t ht
        rw [show 1 + (4 * p + 28) + t = 1 + (4 * p + 28 + t) by omega, hst.out.ci.cell (4 * p + 28 + t) (by omega)]
        unfold expP kbF
        rw [if_pos (by omega), show (4 * p + 28 + t) / 4 = p + 7 by omega, show (4 * p + 28 + t) % 4 = t by omega]
      have hx : ∀ t, t < 4 → wordF K (p + 7) t < 256 := fun t ht => wordF_lt K hk32 (p + 8) (p + 7) t (by omega) ht
      have Hkb := hid (fun t (ht : t < 4) => kb_next K p t ht)
      have Hpn := hid (powX_next p)
      have Hps := hid (powX_stay p)
      have hpl := powX_lt ((p + 7) / 8)
      have Htf := hid (fun t => show tF K p t = _ from rfl)
      have x0l := hx 0 (by omega)
      have x1l := hx 1 (by omega)
      have x2l := hx 2 (by omega)
      have x3l := hx 3 (by omega)
      have hr4 : wr.rangeAt gc (1 + (4 * p + 28)) [.int .u8 (wordF K (p + 7) 0 : Nat), .int .u8 (wordF K (p + 7) 1 : Nat), .int .u8 (wordF K (p + 7) 2 : Nat), .int .u8 (wordF K (p + 7) 3 : Nat)] := by
        intro j v hv
        have hj : j < 4 := by have := (List.getElem?_eq_some_iff.1 hv).1; simpa using this
        rw [hrd.out j hj]
        rcases (show j = 0 ∨ j = 1 ∨ j = 2 ∨ j = 3 by omega) with rfl | rfl | rfl | rfl <;> simpa using hv
      have e0 : Hid (wordF K (p + 7) 0 = wordF K (p + 7) 0) := rfl
      obtain ⟨x0, h0⟩ : ∃ x, x = wordF K (p + 7) 0 := ⟨_, rfl⟩
      obtain ⟨x1, h1⟩ : ∃ x, x = wordF K (p + 7) 1 := ⟨_, rfl⟩
      obtain ⟨x2, h2⟩ : ∃ x, x = wordF K (p + 7) 2 := ⟨_, rfl⟩
      obtain ⟨x3, h3⟩ : ∃ x, x = wordF K (p + 7) 3 := ⟨_, rfl⟩
      rw [← h0] at x0l hr4
      rw [← h1] at x1l hr4
      rw [← h2] at x2l hr4
      rw [← h3] at x3l hr4
      have HX := hid (And.intro (And.intro h0 h1) (And.intro h2 h3))
      obtain ⟨pw, hpw⟩ : ∃ x, x = powX ((p + 7) / 8) := ⟨_, rfl⟩
      rw [← hpw] at hpl ⊢
      have HPw := hid hpw
      obtain ⟨a, ha⟩ : ∃ a, a = 4 * p + 32 := ⟨_, rfl⟩
      obtain ⟨q, hq⟩ : ∃ q, q = 4 * p := ⟨_, rfl⟩
      obtain ⟨b, hb⟩ : ∃ b, b = 4 * p + 28 := ⟨_, rfl⟩
      rw [← ha] at hlz hst ⊢
      rw [← hb] at hr4
      have Hab := hid (And.intro ha (And.intro hq hb))
      have hab4 : (a : Int) - 4 = (b : Int) := by omega
      have hsl := slice32r gc b (by omega) (b : Int) rfl
      have hat : ∀ n c w, 4 ≤ n → (Instr.arrayAt 66 (.slice (some ⟨gc, 1 + b, none⟩) n c)).run Try.prog w = .ok (.pointer (some ⟨gc, 1 + b, none⟩)) w := fun n c w h => run_arrayAt w 66 _ 4 _ n c Try.underlying66 h
      have h4b : 4 ≤ 240 - b := by omega
      have Hr4 := hid hr4
      have Hw0 := hid (heap_alloc_new wr (.cells zb4 66))
      have SW := hid (hst.out.word #[.int .u8 (x0 : Nat), .int .u8 (x1 : Nat), .int .u8 (x2 : Nat), .int .u8 (x3 : Nat)])
      have HW1 := hid (setRow_heap (wr.alloc (.cells zb4 66)) wr.heap.size _ #[.int .u8 (x0 : Nat), .int .u8 (x1 : Nat), .int .u8 (x2 : Nat), .int .u8 (x3 : Nat)] 66 (0, 0) (heap_alloc_new wr (.cells zb4 66)))
      have hgw : gc < wr.heap.size := hst.out.ci.lt
      have hww : w.heap.size ≤ wr.heap.size := hst.out.but.size
      clear h0 h1 h2 h3 hpw ha hq hb hrd hx hr4 hst e0
      rcases (show p % 8 = 0 ∨ p % 8 = 4 ∨ (¬ p % 8 = 0 ∧ ¬ p % 8 = 4) by omega) with h8 | h8 | ⟨h8, h8'⟩
      · have hrem : (a : Int) % 32 = 0 := by have := Hab.out.1; omega
        go_upto_region 8 with (first
          | (refine wpList_load_mid rfl 66 (.tmp 25) rfl gc (1 + b) rfl [.int .u8 (x0 : Nat), .int .u8 (x1 : Nat), .int .u8 (x2 : Nat), .int .u8 (x3 : Nat)] _ Hr4.out Try.underlying66 rfl (by kernel_rfl) ?_)
          | (refine wpList_store_row (o := ⟨none, .store 66 (.tmp 6) (.tmp 26), _, _, _, _⟩) rfl 66 (.tmp 6) (.tmp 26) rfl wr.heap.size #[.int .u8 (x0 : Nat), .int .u8 (x1 : Nat), .int .u8 (x2 : Nat), .int .u8 (x3 : Nat)] rfl rfl 66 zb4 Hw0.out (size61 _ _ _ _) rfl (row4 _ _ _ _) ?_))
        generalize ((wr.alloc (.cells zb4 66)).setRow wr.heap.size #[.int .u8 (x0 : Nat), .int .u8 (x1 : Nat), .int .u8 (x2 : Nat), .int .u8 (x3 : Nat)]) = W1 at SW HW1 ⊢
        generalize wr.heap.size = gw at HW1 hgw hww ⊢
        clear Hw0 Hr4 hat hsl
        have HT := hid (tF_zero K p x0 x1 x2 x3 HX.out h8)
        have ham : a ≤ 240 := by omega
        have c0 : W1.cell? ⟨gw, 0, none⟩ = some (.int .u8 (x0 : Nat)) := (row_cell HW1.out 0).trans rfl
        have d0 := SW.out.sub ham Hs.out x0 x0l
        have sl0 := sub_lt x0 x0l
        have ix0 : (x0 : Int) < 256 := by omega
        have c1 : W1.cell? ⟨gw, 1, none⟩ = some (.int .u8 (x1 : Nat)) := (row_cell HW1.out 1).trans rfl
        have d1 := SW.out.sub ham Hs.out x1 x1l
        have sl1 := sub_lt x1 x1l
        have ix1 : (x1 : Int) < 256 := by omega
        have c2 : W1.cell? ⟨gw, 2, none⟩ = some (.int .u8 (x2 : Nat)) := (row_cell HW1.out 2).trans rfl
        have d2 := SW.out.sub ham Hs.out x2 x2l
        have sl2 := sub_lt x2 x2l
        have ix2 : (x2 : Int) < 256 := by omega
        have c3 : W1.cell? ⟨gw, 3, none⟩ = some (.int .u8 (x3 : Nat)) := (row_cell HW1.out 3).trans rfl
        have d3 := SW.out.sub ham Hs.out x3 x3l
        have sl3 := sub_lt x3 x3l
        have ix3 : (x3 : Int) < 256 := by omega
        generalize subN x0 = s0 at d0 sl0 HT
        generalize subN x1 = s1 at d1 sl1 HT
        generalize subN x2 = s2 at d2 sl2 HT
        generalize subN x3 = s3 at d3 sl3 HT
        have HPw2 : Hid (pw = powX ((p + 7) / 8)) := HPw
        rw [← HPw.out] at HT
        have qy := u8_xor_nat _ _ sl1 hpl
        have sl1b := xor8 sl1 hpl
        generalize s1 ^^^ pw = y at qy sl1b HT
        go_still_tail 30, (by kernel_rfl)
        change wpList _ _ _ _ _ W1.drew
        have HW1d : Hid (W1.drew.heap[gw]? = some (.cells #[.int .u8 (x0 : Nat), .int .u8 (x1 : Nat), .int .u8 (x2 : Nat), .int .u8 (x3 : Nat)] 66 (0, 0))) := HW1
        have SW2 := hid (SW.out.drew.row hgw hww #[.int .u8 (y : Nat), .int .u8 (s2 : Nat), .int .u8 (s3 : Nat), .int .u8 (s0 : Nat)])
        have HW2 := hid (setRow_heap W1.drew gw _ #[.int .u8 (y : Nat), .int .u8 (s2 : Nat), .int .u8 (s3 : Nat), .int .u8 (s0 : Nat)] 66 (0, 0) HW1d.out)
        clear c0 d0 c1 d1 c2 d2 c3 d3 HW1 SW
        go_wp2_with (first
          | (go_at_call 34; with_reducible refine (double_any pw hpl _).mono ?_; rintro e w' ⟨rfl, rfl⟩)
          | (refine wpList_load_row rfl 66 (.tmp 6) rfl gw rfl 66 #[.int .u8 (y : Nat), .int .u8 (s2 : Nat), .int .u8 (s3 : Nat), .int .u8 (s0 : Nat)] (0, 0) _ HW2.out Try.underlying66 rfl (size61 _ _ _ _) ?_)
          | (refine wpList_store_row (o := ⟨none, .store 66 (.tmp 6) (.tmp 61), _, _, _, _⟩) rfl 66 (.tmp 6) (.tmp 61) rfl gw #[.int .u8 (y : Nat), .int .u8 (s2 : Nat), .int .u8 (s3 : Nat), .int .u8 (s0 : Nat)] rfl rfl 66 #[.int .u8 (x0 : Nat), .int .u8 (x1 : Nat), .int .u8 (x2 : Nat), .int .u8 (x3 : Nat)] HW1d.out (size61 _ _ _ _) rfl (row4 _ _ _ _) ?_; generalize W1.drew.setRow gw #[.int .u8 (y : Nat), .int .u8 (s2 : Nat), .int .u8 (s3 : Nat), .int .u8 (s0 : Nat)] = W2 at SW2 HW2 ⊢; clear HW1d))
        go_loopw [96] (fun vi wx => ∃ t : Nat, t ≤ 4 ∧ vi = .int .i64 t ∧ Hid (ExpSt w wx gc (expP K F (a + t)))) (fun vi _ => 4 - (intOf vi).toNat)
        case atStart => exact ⟨0, Nat.zero_le _, rfl, SW2⟩
        case round =>
          obtain ⟨t, ht, rfl, hsx⟩ := hrel
          clear SW2 HW2
          by_cases hlt2 : t < 4
          · have hl4 : (t : Int) < 4 := by omega
            have hix := ix61 y s2 s3 s0 t hlt2
            have hkn := Hkb.out t hlt2
            rw [HT.out t hlt2] at hkn
            have lz := sel4_lt y s2 s3 s0 t sl1b sl2 sl3 sl0
            generalize sel4 y s2 s3 s0 t = z at hix hkn lz
            obtain ⟨u, hu⟩ : ∃ u, u = q + t := ⟨_, rfl⟩
            obtain ⟨v, hv⟩ : ∃ v, v = a + t := ⟨_, rfl⟩
            have hua : u < a + t := by have := Hab.out; omega
            have hva : a + t < 240 := by have := Hab.out; omega
            have c1 := hsx.out.old u hua (by omega)
            have c2 := hsx.out.ci.cell v (by omega)
            have f2 := hsx.out.ci.free (1 + v)
            rw [show 4 * p + 32 + t = v by have := Hab.out; omega, show 4 * p + t = u by have := Hab.out; omega] at hkn
            have lk := kbF_lt K hk32 u
            have qx := u8_xor_nat _ _ lk lz
            have SN : Hid (ExpSt w ((wr.setCell ⟨gc, 1 + v, none⟩ (.int .u8 ((kbF K u ^^^ z : Nat) : Int))).drew) gc (expP K F (a + (t + 1)))) := by
              have e := hsx.out.put hva (kbF K u ^^^ z) (by rw [← hv, hkn])
              rw [← hv] at e
              exact hid (by rw [show a + (t + 1) = v + 1 by omega]; exact e)
            have lr := xor8 lk lz
            generalize expP K F (a + t) v = o2 at c2
            generalize kbF K u ^^^ z = r at qx SN lr
            generalize kbF K u = k at c1 lk qx
            have iw1 : IntKind.i64.wrap ((a : Int) + (t : Int)) = (v : Int) := by rw [IntWalk.i64_in _ (by omega)]; omega
            have iw2 : IntKind.i64.wrap ((a : Int) - 32) = (q : Int) := by have := Hab.out; rw [IntWalk.i64_in _ (by omega)]; omega
            have iw3 : IntKind.i64.wrap ((q : Int) + (t : Int)) = (u : Int) := by rw [IntWalk.i64_in _ (by omega)]; omega
            have il1 : (u : Int) < 240 := by omega
            have il2 : (v : Int) < 240 := by omega
            clear hkn hu hv hua hva
            go_wp2_with fail
            go_still_tail 18, (by kernel_rfl)
            change wpList _ _ _ _ _ wr.drew
            go_wp2_with fail
            go_roundw
            case rel => exact ⟨t + 1, by omega, by go_num, SN⟩
            case measure => simp [intOf]; omega
          · obtain rfl : t = 4 := by omega
            go_wp2_with fail
            go_roundw
            case rel => exact ⟨p + 1, by omega, by have := Hab.out.1; congr 1; omega, by rw [Hpn.out h8, ← HPw.out], by have e := hsx.out; rw [show a + 4 = 4 * (p + 1) + 32 by have := Hab.out.1; omega] at e; exact hid e⟩
            case measure => have := Hab.out.1; simp [intOf]; omega
      · have hrem : (a : Int) % 32 = 16 := by have := Hab.out.1; omega
        go_upto_region 11 with (first
          | (refine wpList_load_mid rfl 66 (.tmp 25) rfl gc (1 + b) rfl [.int .u8 (x0 : Nat), .int .u8 (x1 : Nat), .int .u8 (x2 : Nat), .int .u8 (x3 : Nat)] _ Hr4.out Try.underlying66 rfl (by kernel_rfl) ?_)
          | (refine wpList_store_row (o := ⟨none, .store 66 (.tmp 6) (.tmp 26), _, _, _, _⟩) rfl 66 (.tmp 6) (.tmp 26) rfl wr.heap.size #[.int .u8 (x0 : Nat), .int .u8 (x1 : Nat), .int .u8 (x2 : Nat), .int .u8 (x3 : Nat)] rfl rfl 66 zb4 Hw0.out (size61 _ _ _ _) rfl (row4 _ _ _ _) ?_))
        generalize ((wr.alloc (.cells zb4 66)).setRow wr.heap.size #[.int .u8 (x0 : Nat), .int .u8 (x1 : Nat), .int .u8 (x2 : Nat), .int .u8 (x3 : Nat)]) = W1 at SW HW1 ⊢
        generalize wr.heap.size = gw at HW1 hgw hww ⊢
        clear Hw0 Hr4 hat hsl
        have HT := hid (tF_four K p x0 x1 x2 x3 HX.out h8)
        have ham : a ≤ 240 := by omega
        have c0 : W1.cell? ⟨gw, 0, none⟩ = some (.int .u8 (x0 : Nat)) := (row_cell HW1.out 0).trans rfl
        have d0 := SW.out.sub ham Hs.out x0 x0l
        have sl0 := sub_lt x0 x0l
        have ix0 : (x0 : Int) < 256 := by omega
        have c1 : W1.cell? ⟨gw, 1, none⟩ = some (.int .u8 (x1 : Nat)) := (row_cell HW1.out 1).trans rfl
        have d1 := SW.out.sub ham Hs.out x1 x1l
        have sl1 := sub_lt x1 x1l
        have ix1 : (x1 : Int) < 256 := by omega
        have c2 : W1.cell? ⟨gw, 2, none⟩ = some (.int .u8 (x2 : Nat)) := (row_cell HW1.out 2).trans rfl
        have d2 := SW.out.sub ham Hs.out x2 x2l
        have sl2 := sub_lt x2 x2l
        have ix2 : (x2 : Int) < 256 := by omega
        have c3 : W1.cell? ⟨gw, 3, none⟩ = some (.int .u8 (x3 : Nat)) := (row_cell HW1.out 3).trans rfl
        have d3 := SW.out.sub ham Hs.out x3 x3l
        have sl3 := sub_lt x3 x3l
        have ix3 : (x3 : Int) < 256 := by omega
        generalize subN x0 = s0 at d0 sl0 HT
        generalize subN x1 = s1 at d1 sl1 HT
        generalize subN x2 = s2 at d2 sl2 HT
        generalize subN x3 = s3 at d3 sl3 HT
        go_still_tail 28, (by kernel_rfl)
        change wpList _ _ _ _ _ W1.drew
        have HW1d : Hid (W1.drew.heap[gw]? = some (.cells #[.int .u8 (x0 : Nat), .int .u8 (x1 : Nat), .int .u8 (x2 : Nat), .int .u8 (x3 : Nat)] 66 (0, 0))) := HW1
        have SW2 := hid (SW.out.drew.row hgw hww #[.int .u8 (s0 : Nat), .int .u8 (s1 : Nat), .int .u8 (s2 : Nat), .int .u8 (s3 : Nat)])
        have HW2 := hid (setRow_heap W1.drew gw _ #[.int .u8 (s0 : Nat), .int .u8 (s1 : Nat), .int .u8 (s2 : Nat), .int .u8 (s3 : Nat)] 66 (0, 0) HW1d.out)
        clear c0 d0 c1 d1 c2 d2 c3 d3 HW1 SW
        go_wp2_with (first
          | (go_at_call 34; with_reducible refine (double_any pw hpl _).mono ?_; rintro e w' ⟨rfl, rfl⟩)
          | (refine wpList_load_row rfl 66 (.tmp 6) rfl gw rfl 66 #[.int .u8 (s0 : Nat), .int .u8 (s1 : Nat), .int .u8 (s2 : Nat), .int .u8 (s3 : Nat)] (0, 0) _ HW2.out Try.underlying66 rfl (size61 _ _ _ _) ?_)
          | (refine wpList_store_row (o := ⟨none, .store 66 (.tmp 6) (.tmp 94), _, _, _, _⟩) rfl 66 (.tmp 6) (.tmp 94) rfl gw #[.int .u8 (s0 : Nat), .int .u8 (s1 : Nat), .int .u8 (s2 : Nat), .int .u8 (s3 : Nat)] rfl rfl 66 #[.int .u8 (x0 : Nat), .int .u8 (x1 : Nat), .int .u8 (x2 : Nat), .int .u8 (x3 : Nat)] HW1d.out (size61 _ _ _ _) rfl (row4 _ _ _ _) ?_; generalize W1.drew.setRow gw #[.int .u8 (s0 : Nat), .int .u8 (s1 : Nat), .int .u8 (s2 : Nat), .int .u8 (s3 : Nat)] = W2 at SW2 HW2 ⊢; clear HW1d))
        go_loopw [96] (fun vi wx => ∃ t : Nat, t ≤ 4 ∧ vi = .int .i64 t ∧ Hid (ExpSt w wx gc (expP K F (a + t)))) (fun vi _ => 4 - (intOf vi).toNat)
        case atStart => exact ⟨0, Nat.zero_le _, rfl, SW2⟩
        case round =>
          obtain ⟨t, ht, rfl, hsx⟩ := hrel
          clear SW2 HW2
          by_cases hlt2 : t < 4
          · have hl4 : (t : Int) < 4 := by omega
            have hix := ix61 s0 s1 s2 s3 t hlt2
            have hkn := Hkb.out t hlt2
            rw [HT.out t hlt2] at hkn
            have lz := sel4_lt s0 s1 s2 s3 t sl0 sl1 sl2 sl3
            generalize sel4 s0 s1 s2 s3 t = z at hix hkn lz
            obtain ⟨u, hu⟩ : ∃ u, u = q + t := ⟨_, rfl⟩
            obtain ⟨v, hv⟩ : ∃ v, v = a + t := ⟨_, rfl⟩
            have hua : u < a + t := by have := Hab.out; omega
            have hva : a + t < 240 := by have := Hab.out; omega
            have c1 := hsx.out.old u hua (by omega)
            have c2 := hsx.out.ci.cell v (by omega)
            have f2 := hsx.out.ci.free (1 + v)
            rw [show 4 * p + 32 + t = v by have := Hab.out; omega, show 4 * p + t = u by have := Hab.out; omega] at hkn
            have lk := kbF_lt K hk32 u
            have qx := u8_xor_nat _ _ lk lz
            have SN : Hid (ExpSt w ((wr.setCell ⟨gc, 1 + v, none⟩ (.int .u8 ((kbF K u ^^^ z : Nat) : Int))).drew) gc (expP K F (a + (t + 1)))) := by
              have e := hsx.out.put hva (kbF K u ^^^ z) (by rw [← hv, hkn])
              rw [← hv] at e
              exact hid (by rw [show a + (t + 1) = v + 1 by omega]; exact e)
            have lr := xor8 lk lz
            generalize expP K F (a + t) v = o2 at c2
            generalize kbF K u ^^^ z = r at qx SN lr
            generalize kbF K u = k at c1 lk qx
            have iw1 : IntKind.i64.wrap ((a : Int) + (t : Int)) = (v : Int) := by rw [IntWalk.i64_in _ (by omega)]; omega
            have iw2 : IntKind.i64.wrap ((a : Int) - 32) = (q : Int) := by have := Hab.out; rw [IntWalk.i64_in _ (by omega)]; omega
            have iw3 : IntKind.i64.wrap ((q : Int) + (t : Int)) = (u : Int) := by rw [IntWalk.i64_in _ (by omega)]; omega
            have il1 : (u : Int) < 240 := by omega
            have il2 : (v : Int) < 240 := by omega
            clear hkn hu hv hua hva
            go_wp2_with fail
            go_still_tail 18, (by kernel_rfl)
            change wpList _ _ _ _ _ wr.drew
            go_wp2_with fail
            go_roundw
            case rel => exact ⟨t + 1, by omega, by go_num, SN⟩
            case measure => simp [intOf]; omega
          · obtain rfl : t = 4 := by omega
            go_wp2_with fail
            go_roundw
            case rel => exact ⟨p + 1, by omega, by have := Hab.out.1; congr 1; omega, by rw [Hps.out (by omega), ← HPw.out], by have e := hsx.out; rw [show a + 4 = 4 * (p + 1) + 32 by have := Hab.out.1; omega] at e; exact hid e⟩
            case measure => have := Hab.out.1; simp [intOf]; omega
      · have hrem : ¬ (a : Int) % 32 = 0 := by have := Hab.out.1; omega
        have hrem2 : ¬ (a : Int) % 32 = 16 := by have := Hab.out.1; omega
        go_upto_region 12 with (first
          | (refine wpList_load_mid rfl 66 (.tmp 25) rfl gc (1 + b) rfl [.int .u8 (x0 : Nat), .int .u8 (x1 : Nat), .int .u8 (x2 : Nat), .int .u8 (x3 : Nat)] _ Hr4.out Try.underlying66 rfl (by kernel_rfl) ?_)
          | (refine wpList_store_row (o := ⟨none, .store 66 (.tmp 6) (.tmp 26), _, _, _, _⟩) rfl 66 (.tmp 6) (.tmp 26) rfl wr.heap.size #[.int .u8 (x0 : Nat), .int .u8 (x1 : Nat), .int .u8 (x2 : Nat), .int .u8 (x3 : Nat)] rfl rfl 66 zb4 Hw0.out (size61 _ _ _ _) rfl (row4 _ _ _ _) ?_))
        generalize ((wr.alloc (.cells zb4 66)).setRow wr.heap.size #[.int .u8 (x0 : Nat), .int .u8 (x1 : Nat), .int .u8 (x2 : Nat), .int .u8 (x3 : Nat)]) = W1 at SW HW1 ⊢
        generalize wr.heap.size = gw at HW1 hgw hww ⊢
        clear Hw0 Hr4 hat hsl
        have HT := hid (tF_else K p x0 x1 x2 x3 HX.out h8 h8')
        have SW2 := SW
        have HW2 := HW1
        clear SW HW1
        go_wp2_with (first
          | (go_at_call 34; with_reducible refine (double_any pw hpl _).mono ?_; rintro e w' ⟨rfl, rfl⟩)
          | (refine wpList_load_row rfl 66 (.tmp 6) rfl gw rfl 66 #[.int .u8 (x0 : Nat), .int .u8 (x1 : Nat), .int .u8 (x2 : Nat), .int .u8 (x3 : Nat)] (0, 0) _ HW2.out Try.underlying66 rfl (size61 _ _ _ _) ?_))
        go_loopw [96] (fun vi wx => ∃ t : Nat, t ≤ 4 ∧ vi = .int .i64 t ∧ Hid (ExpSt w wx gc (expP K F (a + t)))) (fun vi _ => 4 - (intOf vi).toNat)
        case atStart => exact ⟨0, Nat.zero_le _, rfl, SW2⟩
        case round =>
          obtain ⟨t, ht, rfl, hsx⟩ := hrel
          clear SW2 HW2
          by_cases hlt2 : t < 4
          · have hl4 : (t : Int) < 4 := by omega
            have hix := ix61 x0 x1 x2 x3 t hlt2
            have hkn := Hkb.out t hlt2
            rw [HT.out t hlt2] at hkn
            have lz := sel4_lt x0 x1 x2 x3 t x0l x1l x2l x3l
            generalize sel4 x0 x1 x2 x3 t = z at hix hkn lz
            obtain ⟨u, hu⟩ : ∃ u, u = q + t := ⟨_, rfl⟩
            obtain ⟨v, hv⟩ : ∃ v, v = a + t := ⟨_, rfl⟩
            have hua : u < a + t := by have := Hab.out; omega
            have hva : a + t < 240 := by have := Hab.out; omega
            have c1 := hsx.out.old u hua (by omega)
            have c2 := hsx.out.ci.cell v (by omega)
            have f2 := hsx.out.ci.free (1 + v)
            rw [show 4 * p + 32 + t = v by have := Hab.out; omega, show 4 * p + t = u by have := Hab.out; omega] at hkn
            have lk := kbF_lt K hk32 u
            have qx := u8_xor_nat _ _ lk lz
            have SN : Hid (ExpSt w ((wr.setCell ⟨gc, 1 + v, none⟩ (.int .u8 ((kbF K u ^^^ z : Nat) : Int))).drew) gc (expP K F (a + (t + 1)))) := by
              have e := hsx.out.put hva (kbF K u ^^^ z) (by rw [← hv, hkn])
              rw [← hv] at e
              exact hid (by rw [show a + (t + 1) = v + 1 by omega]; exact e)
            have lr := xor8 lk lz
            generalize expP K F (a + t) v = o2 at c2
            generalize kbF K u ^^^ z = r at qx SN lr
            generalize kbF K u = k at c1 lk qx
            have iw1 : IntKind.i64.wrap ((a : Int) + (t : Int)) = (v : Int) := by rw [IntWalk.i64_in _ (by omega)]; omega
            have iw2 : IntKind.i64.wrap ((a : Int) - 32) = (q : Int) := by have := Hab.out; rw [IntWalk.i64_in _ (by omega)]; omega
            have iw3 : IntKind.i64.wrap ((q : Int) + (t : Int)) = (u : Int) := by rw [IntWalk.i64_in _ (by omega)]; omega
            have il1 : (u : Int) < 240 := by omega
            have il2 : (v : Int) < 240 := by omega
            clear hkn hu hv hua hva
            go_wp2_with fail
            go_still_tail 18, (by kernel_rfl)
            change wpList _ _ _ _ _ wr.drew
            go_wp2_with fail
            go_roundw
            case rel => exact ⟨t + 1, by omega, by go_num, SN⟩
            case measure => simp [intOf]; omega
          · obtain rfl : t = 4 := by omega
            go_wp2_with fail
            go_roundw
            case rel => exact ⟨p + 1, by omega, by have := Hab.out.1; congr 1; omega, by rw [Hps.out (by omega), ← HPw.out], by have e := hsx.out; rw [show a + 4 = 4 * (p + 1) + 32 by have := Hab.out.1; omega] at e; exact hid e⟩
            case measure => have := Hab.out.1; simp [intOf]; omega
    · obtain rfl : p = 52 := by omega
      have hci : Hid (CiAt wr gc (expP K F 240)) := hst.out.ci
      have hbut := hid hst.out.but
      clear hst
      go_wp2_with fail
      refine bodyPost_end (results_none rfl _ _ _) rfl ⟨rfl, HKe ▸ hci.out, hbut.out⟩
end Go.Proofs.Ytlgabihjfjlhkaa
