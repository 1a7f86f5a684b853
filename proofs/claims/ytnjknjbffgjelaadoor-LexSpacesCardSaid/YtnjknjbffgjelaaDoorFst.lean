/-
  first (written by tools/stage18/gen_fst.py).
-/
import Derived.Test.YtnjknjbffgjelaaDoorNum
set_option linter.unusedVariables false
set_option linter.unusedSimpArgs false
namespace Go.Proofs.YtnjknjbffgjelaaDoor
open Go.RowKit

set_option maxRecDepth 10000 in
theorem clone_any (s : ByteArray) (w : World) (hs : s.size ≤ 1000000000) : Calls Tryd.prog 21 #[.string s] w fun e w' => e = .returned (.string s) ∧ Below w.heap.size w w' := by
  have HC := hid (fun W => CloneS_any s W (by omega))
  go_enter Tryd.func21, Tryd.ntmps21
  go_wp2_with (go_at_call 26; refine (HC.out _).mono ?_; rintro e W1 ⟨rfl, b⟩)
  go_ret
  exact ⟨rfl, b⟩
def tkD : Tk → TD
  | .word s => ⟨1, s, 0, 0⟩
  | .num n => ⟨2, [], n, 0⟩
  | .sign s => ⟨3, s, 0, 0⟩
def nxD : Nx → TD × Nat
  | .bad => (zT, 0)
  | .skip k _ => (zT, 1 + k)
  | .tok t k => (tkD t, 1 + k)
def fsD (c : UInt8) (l : List UInt8) : TD × Nat := nxD (nx c l)
/-- A rune fits the byte that it begins with. -/
def Begins (c : UInt8) (r : Nat) : Prop := (c.toNat < 128 ∧ r = c.toNat) ∨ (128 ≤ c.toNat ∧ 128 ≤ r)
theorem Fits.begins {g : Int → Bool} {p : UInt8 → Bool} {hb : Bool} (F : Fits g p hb) {c : UInt8} {r : Nat} (h : Begins c r) : g (r : Int) = p c := by
  rcases h with ⟨a, rfl⟩ | ⟨a, b⟩
  · exact F.low c a
  · rw [F.rune r b, F.high c a]
theorem fits_blank : Fits blankR isBlank false := by
  refine ⟨fun c h => ?_, fun c h => ?_, fun r h => ?_⟩
  · unfold blankR isBlank
    congr 1
    · congr 1
      · congr 1 <;> (apply decide_eq_decide.2; omega)
      · apply decide_eq_decide.2; omega
    · apply decide_eq_decide.2; omega
  · unfold isBlank
    rw [decide_eq_false (show ¬ c.toNat = 32 by omega), decide_eq_false (show ¬ c.toNat = 9 by omega), decide_eq_false (show ¬ c.toNat = 13 by omega), decide_eq_false (show ¬ c.toNat = 10 by omega)]; rfl
  · unfold blankR
    rw [show ((r : Int) == 32) = false from by simp only [beq_eq_false_iff_ne, ne_eq]; omega, show ((r : Int) == 9) = false from by simp only [beq_eq_false_iff_ne, ne_eq]; omega, show ((r : Int) == 13) = false from by simp only [beq_eq_false_iff_ne, ne_eq]; omega, show ((r : Int) == 10) = false from by simp only [beq_eq_false_iff_ne, ne_eq]; omega]; rfl
theorem take_tw {p : UInt8 → Bool} : ∀ l : List UInt8, l.take (l.takeWhile p).length = l.takeWhile p
  | [] => rfl
  | c :: l => by
    by_cases h : p c = true
    · rw [List.takeWhile_cons_of_pos h, List.length_cons, List.take_succ_cons, take_tw l]
    · rw [List.takeWhile_cons_of_neg h]; rfl
theorem tw_le {p : UInt8 → Bool} (l : List UInt8) : (l.takeWhile p).length ≤ l.length := (List.takeWhile_prefix p).length_le
theorem fs_blank {c : UInt8} {l : List UInt8} (h : isBlank c = true) : fsD c l = (zT, 1) := by
  unfold fsD nx
  by_cases e : c.toNat = 10
  · rw [if_pos e]; rfl
  · rw [if_neg e, if_pos h]; rfl
theorem n10 {c : UInt8} (h : isBlank c = false) : c.toNat ≠ 10 := by
  intro e
  unfold isBlank at h
  rw [decide_eq_true e, Bool.or_true] at h
  exact absurd h (by decide)
theorem fs_remark {c : UInt8} {l : List UInt8} (h : isBlank c = false) (h2 : c.toNat = 35) : fsD c l = (zT, ((c :: l).takeWhile noNl).length) := by
  have hc : noNl c = true := by unfold noNl; rw [h2]; rfl
  unfold fsD nx
  rw [if_neg (n10 h), h, if_neg (by decide), if_pos h2, List.takeWhile_cons_of_pos hc, List.length_cons, Nat.add_comm]
  rfl
theorem fs_word {c : UInt8} {l : List UInt8} (h : isLetter c = true) : fsD c l = (⟨1, (c :: l).takeWhile isLetter, 0, 0⟩, ((c :: l).takeWhile isLetter).length) := by
  obtain ⟨a, b, d⟩ := letter_byte c h
  unfold fsD nx
  rw [if_neg a, b, if_neg (by decide), if_neg d, if_pos h, List.takeWhile_cons_of_pos h, List.length_cons, Nat.add_comm]
  rfl
theorem fs_num {c : UInt8} {l : List UInt8} (h : isDigit c = true) : fsD c l = digD ((c :: l).takeWhile isDigit) := by
  obtain ⟨a, b, d, e⟩ := digit_byte c h
  unfold fsD nx digD
  rw [if_neg a, b, if_neg (by decide), if_neg d, e, if_neg (by decide), if_pos h, List.takeWhile_cons_of_pos h]
  by_cases q : (c :: l.takeWhile isDigit).length ≤ 5 ∧ valD (c :: l.takeWhile isDigit) ≤ 65535
  · rw [if_pos q, if_pos q, List.length_cons, Nat.add_comm]; rfl
  · rw [if_neg q, if_neg q]; rfl
theorem fs_sign {c : UInt8} {l : List UInt8} (h : isBlank c = false) (h2 : c.toNat ≠ 35) (h3 : isLetter c = false) (h4 : isDigit c = false) : fsD c l = sgnD (c :: l) := by
  unfold fsD nx sgnD
  rw [if_neg (n10 h), h, if_neg (by decide), if_neg h2, h3, if_neg (by decide), h4, if_neg (by decide)]
  by_cases q : sgLen (c :: l) = 0
  · rw [if_pos q, if_pos q]; rfl
  · rw [if_neg q, if_neg q]
    show (_, 1 + (sgLen (c :: l) - 1)) = (_, sgLen (c :: l))
    rw [show 1 + (sgLen (c :: l) - 1) = sgLen (c :: l) by omega]
    rfl
set_option maxRecDepth 10000 in
set_option maxHeartbeats 8000000 in
theorem first_any (w : World) (s : ByteArray) (r : Nat) (hs : s.size ≤ 1000000000) (c : UInt8) (l : List UInt8) (hl : bl s = c :: l) (hr : Begins c r) (hG : SgIs w) :
    Calls Tryd.prog 11 #[.string s, .int .i32 (r : Int)] w fun e w' => e = .returned (.tuple #[vT (fsD c l).1, .int .i64 ((fsD c l).2 : Nat)]) ∧ Below w.heap.size w w' := by
  have zv := zero33
  have H0 := hid (Box.start w)
  have HG0 := hid (hG.below H0.out.bel)
  have HL := hid (fun W => between_any 97 122 W)
  have HD := hid (fun W => between_any 48 57 W)
  have HBk := hid (fun W => blank_any W (r : Int))
  have f1e := fits_letter.begins hr
  have f2e := fits_digit.begins hr
  have f3e := fits_blank.begins hr
  have hlen := bl_len s
  have e35 : ((r : Int) == 35) = decide (c.toNat = 35) := by
    show decide ((r : Int) = 35) = _
    apply decide_eq_decide.2
    unfold Begins at hr
    omega
  rw [f3e] at HBk
  clear hG f3e hr
  by_cases hb : isBlank c = true
  · rw [hb] at HBk
    rw [fs_blank hb]
    clear e35 f1e f2e
    go_enter Tryd.func11, Tryd.ntmps11
    go_upto_region 1 with fail
    generalize w.alloc (.cells #[.int .u8 0, .string ⟨#[]⟩, .int .i64 0, .int .i64 0] 33) = W0 at *
    go_upto_region 2 with (go_at_call 17; first
      | ((with_reducible refine (HL.out _).mono ?_); rintro e W1 ⟨f1, rfl, B1, b1⟩)
      | ((with_reducible refine (HD.out _).mono ?_); rintro e W2 ⟨f2, rfl, B2, b2⟩))
    have HX := hid ((H0.out.below b1).below b2)
    have B1' := hid (B1.below b2)
    have B2' := hid B2
    have HG2 := hid ((HG0.out.below b1).below b2)
    clear B1 B2 b1 b2 HL HD H0 HG0
    clear B1' B2' HG2
    go_wp2_with (first
      | (go_at_call 18; refine (HBk.out _).mono ?_; rintro e wx ⟨rfl, ej⟩; rw [ej]; clear ej wx)
      | (refine wpList_store_row (o := ⟨none, .store 33 (.tmp 4) (.tmp 14), _, _, _, _⟩) rfl 33 (.tmp 4) (.tmp 14) rfl w.heap.size (c4 zT).toArray rfl rfl 33 _ HX.out.row (sz33 _) HX.out.size (one33 _) ?_))
    refine bodyPost_ret (results_33_1 (by kernel_rfl : Tryd.f11.results = #[.cell 4 33, .tmp 5]) _ _ w.heap.size zT rfl (HX.out.put (c4 zT).toArray rfl).row) rfl ?_
    exact ⟨rfl, (HX.out.put (c4 zT).toArray rfl).bel⟩
  replace hb : isBlank c = false := Bool.eq_false_iff.2 hb
  rw [hb] at HBk
  by_cases h35 : c.toNat = 35
  · rw [decide_eq_true h35] at e35
    rw [fs_remark hb h35, ← hl]
    have HRn := hid (fun W => run_nl W s noNl true hs fits_nl)
    clear f1e f2e
    go_enter Tryd.func11, Tryd.ntmps11
    go_upto_region 1 with fail
    generalize w.alloc (.cells #[.int .u8 0, .string ⟨#[]⟩, .int .i64 0, .int .i64 0] 33) = W0 at *
    go_upto_region 2 with (go_at_call 17; first
      | ((with_reducible refine (HL.out _).mono ?_); rintro e W1 ⟨f1, rfl, B1, b1⟩)
      | ((with_reducible refine (HD.out _).mono ?_); rintro e W2 ⟨f2, rfl, B2, b2⟩))
    have HX := hid ((H0.out.below b1).below b2)
    have B1' := hid (B1.below b2)
    have B2' := hid B2
    have HG2 := hid ((HG0.out.below b1).below b2)
    clear B1 B2 b1 b2 HL HD H0 HG0
    clear B1' B2' HG2
    go_wp2_with (first
      | (go_at_call 18; refine (HBk.out _).mono ?_; rintro e wx ⟨rfl, ej⟩; rw [ej]; clear ej wx)
      | (go_at_call 19; refine (HRn.out _).mono ?_; rintro e W3 ⟨rfl, b3⟩; have HY := hid (HX.out.below b3))
      | (refine wpList_store_row (o := ⟨none, .store 33 (.tmp 4) (.tmp 18), _, _, _, _⟩) rfl 33 (.tmp 4) (.tmp 18) rfl w.heap.size (c4 zT).toArray rfl rfl 33 _ HY.out.row (sz33 _) HY.out.size (one33 _) ?_))
    refine bodyPost_ret (results_33_1 (by kernel_rfl : Tryd.f11.results = #[.cell 4 33, .tmp 5]) _ _ w.heap.size zT rfl (HY.out.put (c4 zT).toArray rfl).row) rfl ?_
    exact ⟨by rw [hl]; rfl, (HY.out.put (c4 zT).toArray rfl).bel⟩
  rw [decide_eq_false h35] at e35
  by_cases hL : isLetter c = true
  · rw [hL] at f1e
    rw [fs_word hL, ← hl]
    have HRn := hid (fun W f hf => run_btw W s f 97 122 hf isLetter false hs fits_letter)
    have hn : ((bl s).takeWhile isLetter).length ≤ s.size := by rw [← hlen]; exact tw_le _
    have E : s.extract 0 ((bl s).takeWhile isLetter).length = str ((bl s).takeWhile isLetter) := by rw [ext_str s 0 _ hn, List.drop_zero, take_tw]
    have HCl : Hid (∀ W, Calls Tryd.prog 21 #[.string (s.extract 0 ((bl s).takeWhile isLetter).length)] W fun e w' => e = .returned (.string (str ((bl s).takeWhile isLetter))) ∧ Below W.heap.size W w') := hid (fun W => (clone_any _ W (by rw [E, str_size, ← bl_len] at *; have := tw_le (p := isLetter) (bl s); omega)).mono (fun e w' h => ⟨by rw [h.1, E], h.2⟩))
    clear f2e E
    generalize (bl s).takeWhile isLetter = tw at *
    go_enter Tryd.func11, Tryd.ntmps11
    go_upto_region 1 with fail
    generalize w.alloc (.cells #[.int .u8 0, .string ⟨#[]⟩, .int .i64 0, .int .i64 0] 33) = W0 at *
    go_upto_region 2 with (go_at_call 17; first
      | ((with_reducible refine (HL.out _).mono ?_); rintro e W1 ⟨f1, rfl, B1, b1⟩)
      | ((with_reducible refine (HD.out _).mono ?_); rintro e W2 ⟨f2, rfl, B2, b2⟩))
    have HX := hid ((H0.out.below b1).below b2)
    have B1' := hid (B1.below b2)
    have B2' := hid B2
    have HG2 := hid ((HG0.out.below b1).below b2)
    clear B1 B2 b1 b2 HL HD H0 HG0
    have HRn2 := hid (HRn.out _ f1 B1'.out)
    obtain ⟨p1, p2, rfl, q1, q2⟩ := B1'.out
    have HQ := hid (asks_any W2 p1 p2 97 122 (r : Int) q1 q2)
    rw [f1e] at HQ
    clear B1' B2' HG2 HRn q1 q2
    go_wp2_with (first
      | (go_at_call 18; refine (HBk.out _).mono ?_; rintro e wx ⟨rfl, ej⟩; rw [ej]; clear ej wx)
      | (go_at_call 25; refine HQ.out.mono ?_; rintro e wx ⟨rfl, ej⟩; rw [ej]; clear ej wx)
      | (go_at_call 19; refine HRn2.out.mono ?_; rintro e W3 ⟨rfl, b3⟩; have HY := hid (HX.out.below b3))
      | (go_at_call 21; refine (HCl.out _).mono ?_; rintro e W4 ⟨rfl, b4⟩; have HZ := hid (HY.out.below b4))
      | (refine wpList_store_row (o := ⟨none, .store 33 (.tmp 4) (.tmp 32), _, _, _, _⟩) rfl 33 (.tmp 4) (.tmp 32) rfl w.heap.size (c4 ⟨1, tw, 0, 0⟩).toArray rfl rfl 33 _ HZ.out.row (sz33 _) HZ.out.size (one33 _) ?_))
    refine bodyPost_ret (results_33_1 (by kernel_rfl : Tryd.f11.results = #[.cell 4 33, .tmp 5]) _ _ w.heap.size ⟨1, tw, 0, 0⟩ rfl (HZ.out.put (c4 ⟨1, tw, 0, 0⟩).toArray rfl).row) rfl ?_
    exact ⟨rfl, (HZ.out.put (c4 ⟨1, tw, 0, 0⟩).toArray rfl).bel⟩
  replace hL : isLetter c = false := Bool.eq_false_iff.2 hL
  rw [hL] at f1e
  by_cases hDg : isDigit c = true
  · rw [hDg] at f2e
    rw [fs_num hDg, ← hl]
    have HRn := hid (fun W f hf => run_btw W s f 48 57 hf isDigit false hs fits_digit)
    have hn : ((bl s).takeWhile isDigit).length ≤ s.size := by rw [← hlen]; exact tw_le _
    have E : s.extract 0 ((bl s).takeWhile isDigit).length = str ((bl s).takeWhile isDigit) := by rw [ext_str s 0 _ hn, List.drop_zero, take_tw]
    have HNm : Hid (∀ W, Calls Tryd.prog 22 #[.string (s.extract 0 ((bl s).takeWhile isDigit).length)] W fun e w' => e = .returned (.tuple #[vT (digD ((bl s).takeWhile isDigit)).1, .int .i64 ((digD ((bl s).takeWhile isDigit)).2 : Nat)]) ∧ Below W.heap.size W w') := hid (fun W => by
      rw [E]
      have := number_any W (str ((bl s).takeWhile isDigit)) (by rw [str_size]; omega) (by rw [bl_str, hl, List.takeWhile_cons_of_pos hDg]; exact List.cons_ne_nil _ _) (by rw [bl_str]; exact fun x hx => (List.all_eq_true.1 (List.all_takeWhile (p := isDigit) (l := bl s))) x hx)
      rw [bl_str] at this
      exact this)
    clear E
    generalize (digD ((bl s).takeWhile isDigit)).1 = T at *
    generalize (digD ((bl s).takeWhile isDigit)).2 = m at *
    generalize (bl s).takeWhile isDigit = tw at *
    go_enter Tryd.func11, Tryd.ntmps11
    go_upto_region 1 with fail
    generalize w.alloc (.cells #[.int .u8 0, .string ⟨#[]⟩, .int .i64 0, .int .i64 0] 33) = W0 at *
    go_upto_region 2 with (go_at_call 17; first
      | ((with_reducible refine (HL.out _).mono ?_); rintro e W1 ⟨f1, rfl, B1, b1⟩)
      | ((with_reducible refine (HD.out _).mono ?_); rintro e W2 ⟨f2, rfl, B2, b2⟩))
    have HX := hid ((H0.out.below b1).below b2)
    have B1' := hid (B1.below b2)
    have B2' := hid B2
    have HG2 := hid ((HG0.out.below b1).below b2)
    clear B1 B2 b1 b2 HL HD H0 HG0
    have HRn2 := hid (HRn.out _ f2 B2'.out)
    obtain ⟨p1, p2, rfl, q1, q2⟩ := B1'.out
    obtain ⟨p3, p4, rfl, q3, q4⟩ := B2'.out
    have HQ := hid (asks_any W2 p1 p2 97 122 (r : Int) q1 q2)
    rw [f1e] at HQ
    have HQ2 := hid (asks_any W2 p3 p4 48 57 (r : Int) q3 q4)
    rw [f2e] at HQ2
    clear B1' B2' HG2 HRn q1 q2 q3 q4
    go_wp2_with (first
      | (go_at_call 18; refine (HBk.out _).mono ?_; rintro e wx ⟨rfl, ej⟩; rw [ej]; clear ej wx)
      | (go_at_call 25; (first | (with_reducible refine HQ.out.mono ?_) | (with_reducible refine HQ2.out.mono ?_)); rintro e wx ⟨rfl, ej⟩; rw [ej]; clear ej wx)
      | (go_at_call 19; refine HRn2.out.mono ?_; rintro e W3 ⟨rfl, b3⟩; have HY := hid (HX.out.below b3))
      | (go_at_call 22; refine (HNm.out _).mono ?_; rintro e W4 ⟨rfl, b4⟩; have HZ := hid (HY.out.below b4))
      | (refine wpList_store_row (o := ⟨none, .store 33 (.tmp 4) (.tmp 44), _, _, _, _⟩) rfl 33 (.tmp 4) (.tmp 44) rfl w.heap.size (c4 T).toArray rfl rfl 33 _ HZ.out.row (sz33 _) HZ.out.size (one33 _) ?_))
    refine bodyPost_ret (results_33_1 (by kernel_rfl : Tryd.f11.results = #[.cell 4 33, .tmp 5]) _ _ w.heap.size T rfl (HZ.out.put (c4 T).toArray rfl).row) rfl ?_
    exact ⟨rfl, (HZ.out.put (c4 T).toArray rfl).bel⟩
  replace hDg : isDigit c = false := Bool.eq_false_iff.2 hDg
  rw [hDg] at f2e
  rw [fs_sign hb h35 hL hDg, ← hl]
  have HSg := hid (fun W (h : SgIs W) => sign_any W s hs h)
  generalize (sgnD (bl s)).1 = T at *
  generalize (sgnD (bl s)).2 = m at *
  go_enter Tryd.func11, Tryd.ntmps11
  go_upto_region 1 with fail
  generalize w.alloc (.cells #[.int .u8 0, .string ⟨#[]⟩, .int .i64 0, .int .i64 0] 33) = W0 at *
  go_upto_region 2 with (go_at_call 17; first
    | ((with_reducible refine (HL.out _).mono ?_); rintro e W1 ⟨f1, rfl, B1, b1⟩)
    | ((with_reducible refine (HD.out _).mono ?_); rintro e W2 ⟨f2, rfl, B2, b2⟩))
  have HX := hid ((H0.out.below b1).below b2)
  have B1' := hid (B1.below b2)
  have B2' := hid B2
  have HG2 := hid ((HG0.out.below b1).below b2)
  clear B1 B2 b1 b2 HL HD H0 HG0
  obtain ⟨p1, p2, rfl, q1, q2⟩ := B1'.out
  obtain ⟨p3, p4, rfl, q3, q4⟩ := B2'.out
  have HQ := hid (asks_any W2 p1 p2 97 122 (r : Int) q1 q2)
  rw [f1e] at HQ
  have HQ2 := hid (asks_any W2 p3 p4 48 57 (r : Int) q3 q4)
  rw [f2e] at HQ2
  have HS2 := hid (HSg.out _ HG2.out)
  clear B1' B2' HG2 HSg q1 q2 q3 q4
  go_wp2_with (first
    | (go_at_call 18; refine (HBk.out _).mono ?_; rintro e wx ⟨rfl, ej⟩; rw [ej]; clear ej wx)
    | (go_at_call 25; (first | (with_reducible refine HQ.out.mono ?_) | (with_reducible refine HQ2.out.mono ?_)); rintro e wx ⟨rfl, ej⟩; rw [ej]; clear ej wx)
    | (go_at_call 23; refine HS2.out.mono ?_; rintro e W4 ⟨rfl, b4⟩; have HZ := hid (HX.out.below b4))
    | (refine wpList_store_row (o := ⟨none, .store 33 (.tmp 4) (.tmp 48), _, _, _, _⟩) rfl 33 (.tmp 4) (.tmp 48) rfl w.heap.size (c4 T).toArray rfl rfl 33 _ HZ.out.row (sz33 _) HZ.out.size (one33 _) ?_))
  refine bodyPost_ret (results_33_1 (by kernel_rfl : Tryd.f11.results = #[.cell 4 33, .tmp 5]) _ _ w.heap.size T rfl (HZ.out.put (c4 T).toArray rfl).row) rfl ?_
  exact ⟨rfl, (HZ.out.put (c4 T).toArray rfl).bel⟩
end Go.Proofs.YtnjknjbffgjelaaDoor
