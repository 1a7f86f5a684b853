/-
  The document's Interval: Take.
-/
import Derived.Test.YtbgbacajgaeooaaPut
namespace Go.Proofs.Ytbgbacajgaeooaa
open Go.RowKit

theorem set_same (cs : Array Value) (i : Nat) (v : Value) (h : cs[i]? = some v) : cs.setIfInBounds i v = cs := by
  apply Array.ext'
  rw [Array.toList_setIfInBounds]
  apply List.ext_getElem?
  intro j
  rw [List.getElem?_set]
  split
  · rename_i e
    subst e
    rw [← Array.getElem?_toList] at h
    rw [h]
    split
    · rfl
    · rename_i hn
      rw [List.getElem?_eq_none (by omega)] at h
      cases h
  · rfl
/-- A struct's first two cells turned. -/
def cs2 (cs : Array Value) (x y : Nat) : Array Value := (cs.setIfInBounds 0 (.int .u64 (x : Nat))).setIfInBounds 1 (.int .u64 (y : Nat))
theorem cs2_x (cs : Array Value) (x y : Nat) (h : 2 ≤ cs.size) : (cs2 cs x y)[0]? = some (.int .u64 (x : Nat)) := by
  unfold cs2
  rw [Array.getElem?_setIfInBounds_ne (by decide), Array.getElem?_setIfInBounds_self]
  rw [if_pos (by omega)]
theorem cs2_y (cs : Array Value) (x y : Nat) (h : 2 ≤ cs.size) : (cs2 cs x y)[1]? = some (.int .u64 (y : Nat)) := by
  unfold cs2
  rw [Array.getElem?_setIfInBounds_self, if_pos (by rw [Array.size_setIfInBounds]; omega)]
theorem cs2_setx (cs : Array Value) (x y x' : Nat) : (cs2 cs x y).setIfInBounds 0 (.int .u64 (x' : Nat)) = cs2 cs x' y := by
  unfold cs2
  apply Array.ext'
  simp only [Array.toList_setIfInBounds]
  rw [List.set_comm _ _ (by decide), List.set_set]
theorem cs2_sety (cs : Array Value) (x y y' : Nat) : (cs2 cs x y).setIfInBounds 1 (.int .u64 (y' : Nat)) = cs2 cs x y' := by
  unfold cs2
  apply Array.ext'
  simp only [Array.toList_setIfInBounds]
  rw [List.set_set]
theorem cs2_of (cs : Array Value) (x y : Nat) (hx : cs[0]? = some (.int .u64 (x : Nat))) (hy : cs[1]? = some (.int .u64 (y : Nat))) : cs2 cs x y = cs := by
  unfold cs2
  rw [set_same cs 0 _ hx, set_same cs 1 _ hy]
/-- Take on the way: the struct's interval, the list of what was shed. -/
structure Tk (w wr : World) (g : Nat) (t : TypeId) (cs : Array Value) (x y : Nat) (v : Value) (l : List UInt8) : Prop where
  row : wr.heap[g]? = some (.cells (cs2 cs x y) t (0, 0))
  sz : 2 ≤ cs.size
  lt : g < w.heap.size
  but : But (· = g) w wr
  own : wr.ownsRow 0 5 1 v l.length (l.map bv)
  fr : ∀ k, v.ownBlock = some k → w.heap.size ≤ k
theorem Tk.cx {w wr : World} {g : Nat} {t : TypeId} {cs : Array Value} {x y : Nat} {v : Value} {l : List UInt8} (h : Tk w wr g t cs x y v l) : wr.cell? ⟨g, 0, none⟩ = some (.int .u64 (x : Nat)) := (row_cell h.row 0).trans (cs2_x cs x y h.sz)
theorem Tk.cy {w wr : World} {g : Nat} {t : TypeId} {cs : Array Value} {x y : Nat} {v : Value} {l : List UInt8} (h : Tk w wr g t cs x y v l) : wr.cell? ⟨g, 1, none⟩ = some (.int .u64 (y : Nat)) := (row_cell h.row 1).trans (cs2_y cs x y h.sz)
theorem Tk.drewN {w wr : World} {g : Nat} {t : TypeId} {cs : Array Value} {x y : Nat} {v : Value} {l : List UInt8} (h : Tk w wr g t cs x y v l) (n : Nat) : Tk w (wr.drewN n) g t cs x y v l := ⟨h.row, h.sz, h.lt, h.but.drewN n, h.own, h.fr⟩
theorem Tk.ne {w wr : World} {g : Nat} {t : TypeId} {cs : Array Value} {x y : Nat} {v : Value} {l : List UInt8} (h : Tk w wr g t cs x y v l) : ∀ k, v.ownBlock = some k → k ≠ g := fun k hk e => by have := h.fr k hk; have := h.lt; omega
theorem Tk.setx {w wr : World} {g : Nat} {t : TypeId} {cs : Array Value} {x y : Nat} {v : Value} {l : List UInt8} (h : Tk w wr g t cs x y v l) (x' : Nat) : Tk w (wr.setCell ⟨g, 0, none⟩ (.int .u64 (x' : Nat))) g t cs x' y v l :=
  ⟨by rw [row_set h.row 0, cs2_setx], h.sz, h.lt, h.but.set _ _ (.inl rfl), ownsRow_but h.own ((But.refl (· = g) wr).set _ _ (.inl rfl)) h.ne, h.fr⟩
theorem Tk.sety {w wr : World} {g : Nat} {t : TypeId} {cs : Array Value} {x y : Nat} {v : Value} {l : List UInt8} (h : Tk w wr g t cs x y v l) (y' : Nat) : Tk w (wr.setCell ⟨g, 1, none⟩ (.int .u64 (y' : Nat))) g t cs x y' v l :=
  ⟨by rw [row_set h.row 1, cs2_sety], h.sz, h.lt, h.but.set _ _ (.inl rfl), ownsRow_but h.own ((But.refl (· = g) wr).set _ _ (.inl rfl)) h.ne, h.fr⟩
theorem Tk.appd {w wr W2 : World} {g : Nat} {t : TypeId} {cs : Array Value} {x y n : Nat} {v v' : Value} {l l2 : List UInt8} {o : Obj} (h : Tk w wr g t cs x y v l) (hn : n = (l ++ l2).length) (ha : Apd (wr.alloc o) W2 v v' n ((l ++ l2).map bv)) : Tk w W2 g t cs x y v' (l ++ l2) := by
  subst hn
  have ha' : Apd wr W2 v v' (l ++ l2).length ((l ++ l2).map bv) := ha.less (fun k hk => (h.own.lt k hk).2)
  refine ⟨(ha'.grown.block g (lt_of_heap h.row) (fun e => h.ne g e.symm rfl)).trans h.row, h.sz, h.lt, h.but.grown ha'.grown (fun k hk => .inr (h.fr k hk)), ha'.own, fun k hk => ?_⟩
  rcases ha'.fresh with h1 | ⟨j, h1, h2⟩
  · exact h.fr k (h1 ▸ hk)
  · rw [h1] at hk
    cases hk
    exact Nat.le_trans h.but.size h2
def wdR (w : World) (g : Nat) : Nat :=
  match w.cell? ⟨g, 0, none⟩, w.cell? ⟨g, 1, none⟩ with
  | some (.int _ x), some (.int _ y) => (y - x).toNat
  | _, _ => 0
theorem Tk.wd {w wr : World} {g : Nat} {t : TypeId} {cs : Array Value} {x y : Nat} {v : Value} {l : List UInt8} (h : Tk w wr g t cs x y v l) : wdR wr g = y - x := by
  unfold wdR
  rw [h.cx, h.cy]
  show ((y : Int) - (x : Int)).toNat = y - x
  omega
/-- Take's loop: L will have been shed, the interval will be fx to fy. -/
structure Tp (w wr : World) (g : Nat) (t : TypeId) (cs : Array Value) (L : List UInt8) (fx fy : Nat) (v : Value) : Prop where
  is : ∃ l x y k, Tk w wr g t cs x y v l ∧ Way k x y ∧ l ++ (shd k x y).1 = L ∧ (shd k x y).2 = (fx, fy)
theorem Tk.sl {w wr : World} {g : Nat} {t : TypeId} {cs : Array Value} {x y : Nat} {v : Value} {l : List UInt8} (h : Tk w wr g t cs x y v l) : ∃ A c, v = .slice A l.length c := own_sl h.own
/-- What Take tells: the bit, of a chance and a number. -/
theorem took_way (x y p : Nat) (b : Bool) (hv : IvOk x y) (h1 : 1 ≤ p) (h2 : p ≤ 65535) : Way 4 (took x y p b).1 (took x y p b).2 := by
  obtain ⟨t1, t2, t3⟩ := took_ok x y p b hv h1 h2
  exact way4 t2 (by have := hv.lt; omega)
set_option maxRecDepth 10000 in
set_option maxHeartbeats 4000000 in
theorem Take_any (g x y p : Nat) (bit : Int) (b : Bool) (z : Nat) (w : World) (t : TypeId) (cs : Array Value) (hr : w.heap[g]? = some (.cells cs t (0, 0))) (hx : cs[0]? = some (.int .u64 (x : Nat))) (hy : cs[1]? = some (.int .u64 (y : Nat))) (hv : IvOk x y) (h1 : 1 ≤ p) (h2 : p ≤ 65535)
    (hb : (bit = -1 ∧ b = decide (z ≤ cutM x y p)) ∨ bit = (if b then 1 else 0)) :
    Calls Try.prog 31 #[.pointer (some ⟨g, 0, none⟩), .int .i64 bit, .int .i64 (p : Nat), .int .u64 (z : Nat)] w fun r w' => ∃ v, r = .returned (.tuple #[.int .i64 (if b then 1 else 0), v]) ∧ Tk w w' g t cs (put1 x y p b).2.1 (put1 x y p b).2.2 v (put1 x y p b).1 := by
  have cx : w.cell? ⟨g, 0, none⟩ = some (.int .u64 (x : Nat)) := (row_cell hr 0).trans hx
  have cy : w.cell? ⟨g, 1, none⟩ = some (.int .u64 (y : Nat)) := (row_cell hr 1).trans hy
  have fx0 := row_free hr 0
  have fy0 := row_free hr 1
  have hle := hv.le
  have hcut := cut_in x y p hv h1 h2
  have hlt := hv.lt
  obtain ⟨d, hd⟩ : ∃ d, d = y - x := ⟨_, rfl⟩
  obtain ⟨q, hq⟩ : ∃ q, q = d / 65536 := ⟨_, rfl⟩
  obtain ⟨r, hr2⟩ : ∃ r, r = d % 65536 := ⟨_, rfl⟩
  obtain ⟨A1, hA⟩ : ∃ a, a = q * p := ⟨_, rfl⟩
  obtain ⟨B1, hB⟩ : ∃ a, a = r * p := ⟨_, rfl⟩
  obtain ⟨C1, hC⟩ : ∃ a, a = B1 / 65536 := ⟨_, rfl⟩
  obtain ⟨s1, hs⟩ : ∃ a, a = x + A1 := ⟨_, rfl⟩
  obtain ⟨m, hm⟩ : ∃ a, a = s1 + C1 := ⟨_, rfl⟩
  have hcm : cutM x y p = m := by rw [hm, hs, hA, hC, hB, hq, hr2, hd]; rfl
  rw [hcm] at hcut hb
  have hB2 : B1 ≤ 65535 * 65535 := by rw [hB]; exact Nat.mul_le_mul (by omega) h2
  have qA : (q : Int) * (p : Int) = (A1 : Int) := by rw [hA]; simp
  have rB : (r : Int) * (p : Int) = (B1 : Int) := by rw [hB]; simp
  have e1 : IntKind.u64.wrap ((y : Int) - (x : Int)) = (d : Int) := by rw [IntKind.wrap_u64]; omega
  have e2 : IntKind.u64.wrap (p : Int) = (p : Int) := by rw [IntKind.wrap_u64]; omega
  have e3 : IntKind.u64.wrap ((d : Int) / 65536) = (q : Int) := by rw [IntKind.wrap_u64]; omega
  have e4 : IntKind.u64.wrap ((q : Int) * (p : Int)) = (A1 : Int) := by rw [qA, IntKind.wrap_u64]; omega
  have e5 : IntKind.u64.wrap ((x : Int) + (A1 : Int)) = (s1 : Int) := by rw [IntKind.wrap_u64]; omega
  have e6 : (d : Int) % 65536 = (r : Int) := by omega
  have e7 : IntKind.u64.wrap ((r : Int) * (p : Int)) = (B1 : Int) := by rw [rB, IntKind.wrap_u64]; omega
  have e8 : IntKind.u64.wrap ((B1 : Int).tdiv 65536) = (C1 : Int) := by rw [Int.tdiv_eq_ediv_of_nonneg (by omega), IntKind.wrap_u64]; omega
  have e8' : IntKind.u64.wrap ((B1 : Int) / 65536) = (C1 : Int) := by rw [IntKind.wrap_u64]; omega
  have e9 : IntKind.u64.wrap ((s1 : Int) + (C1 : Int)) = (m : Int) := by rw [IntKind.wrap_u64]; omega
  have e10 : IntKind.u64.wrap ((m : Int) + 1) = ((m + 1 : Nat) : Int) := by rw [IntKind.wrap_u64]; omega
  have hsz : 2 ≤ cs.size := by
    rcases Nat.lt_or_ge cs.size 2 with h | h
    · rw [Array.getElem?_eq_none (by omega)] at hy; cases hy
    · exact h
  have T0 : Tk w w g t cs x y (.slice none 0 0) [] := ⟨by rw [cs2_of cs x y hx hy]; exact hr, hsz, lt_of_heap hr, But.refl _ w, World.ownsRow_nil _ _ _ _, fun k e => (by cases e)⟩
  obtain ⟨L, hL⟩ : ∃ L, L = (put1 x y p b).1 := ⟨_, rfl⟩
  obtain ⟨fx1, hfx⟩ : ∃ z, z = (put1 x y p b).2.1 := ⟨_, rfl⟩
  obtain ⟨fy1, hfy⟩ : ∃ z, z = (put1 x y p b).2.2 := ⟨_, rfl⟩
  rw [← hL, ← hfx, ← hfy]
  have HP1 : b = true → Hid (∀ n, Tp w ((w.drewN n).setCell ⟨g, 1, none⟩ (.int .u64 (m : Nat))) g t cs L fx1 fy1 (.slice none 0 0)) := by
    rintro rfl n
    refine ⟨[], x, m, 4, (T0.drewN n).sety m, ?_, ?_, ?_⟩
    · have := took_way x y p true hv h1 h2
      unfold took at this
      rw [hcm] at this
      exact this
    · rw [hL]; unfold put1 took; rw [hcm]; rfl
    · rw [hfx, hfy]; unfold put1 took; rw [hcm]; rfl
  have HP0 : b = false → Hid (∀ n, Tp w ((w.drewN n).setCell ⟨g, 0, none⟩ (.int .u64 ((m + 1 : Nat) : Int))) g t cs L fx1 fy1 (.slice none 0 0)) := by
    rintro rfl n
    refine ⟨[], m + 1, y, 4, (T0.drewN n).setx (m + 1), ?_, ?_, ?_⟩
    · have := took_way x y p false hv h1 h2
      unfold took at this
      rw [hcm] at this
      exact this
    · rw [hL]; unfold put1 took; rw [hcm]; rfl
    · rw [hfx, hfy]; unfold put1 took; rw [hcm]; rfl
  have hLl : L.length ≤ 4 := by rw [hL]; exact shd_len 4 _ _
  clear hL hfx hfy T0 hsz hd hq hr2 hA hB hC hs hm hcm hB2 qA rB hr hx hy hv hcut hlt hle
  rcases hb with ⟨rfl, hbz⟩ | hbb
  case' inl =>
    by_cases hz : z ≤ m
    case' pos => (obtain rfl : b = true := by rw [hbz]; simp [hz]); have HP := HP1 rfl; have hzi : decide ((z : Int) ≤ (m : Int)) = true := decide_eq_true (by omega); have hzn : decide (z ≤ m) = true := decide_eq_true (by omega)
    case' neg => (obtain rfl : b = false := by rw [hbz]; simp [hz]); have HP := HP0 rfl; have hzi : decide ((z : Int) ≤ (m : Int)) = false := decide_eq_false (by omega); have hzn : decide (z ≤ m) = false := decide_eq_false (by omega)
    all_goals clear hz hbz
  case' inr =>
    cases b
    case' true => have HP := HP1 rfl
    case' false => have HP := HP0 rfl
    all_goals simp only [Bool.false_eq_true, if_false, if_true] at hbb; subst hbb
  all_goals
    clear HP1 HP0
    go_enter Try.func31, Try.ntmps31
    go_wp2_with fail
    go_quiet (fail)
    go_wp2_with fail
    go_loopw [11] (fun vo wr => ∃ v, v = vo ∧ Hid (Tp w wr g t cs L fx1 fy1 v)) (fun _ wr => 4294967296 - wdR wr g)
    case atStart => exact ⟨_, rfl, hid (HP.out _)⟩
    case round =>
      clear cx cy fx0 fy0 e1 e2 e3 e4 e5 e6 e7 e8 e8' e9 e10 HP
      obtain ⟨v, rfl, hst⟩ := hrel
      obtain ⟨l, x1, y1, k, hT, hw, hl, hf⟩ := hst.out.is
      obtain ⟨A, c, rfl⟩ := hT.sl
      have cx := hT.cx
      have cy := hT.cy
      have hx1 := hw.le
      have hy1 := hw.lt
      by_cases ht : x1 / 16777216 = y1 / 16777216
      · obtain ⟨j, rfl, hw', hd⟩ := hw.next ht
        rw [shd_go j x1 y1 ht] at hl hf
        obtain ⟨hh, hhe⟩ : ∃ h, h = x1 / 16777216 := ⟨_, rfl⟩
        have ex : IntKind.u64.wrap ((x1 : Int) / 16777216) = (hh : Int) := by rw [IntKind.wrap_u64]; omega
        have ey : IntKind.u64.wrap ((y1 : Int) / 16777216) = (hh : Int) := by rw [IntKind.wrap_u64]; omega
        have hh256 : hh < 256 := by omega
        have eb : (hh : Int) % 256 = (hh : Int) := by omega
        have eb2 : IntKind.u8.wrap (hh : Int) = (hh : Int) := by rw [IntKind.wrap_u8]; omega
        have HB : Hid (∀ n, IsB ((wr.drewN n).alloc (.cells #[.int .u8 (hh : Int)] 5)) (some ⟨wr.heap.size, 0, none⟩) 1 1 [UInt8.ofNat hh]) := fun n => one_isB (wr.drewN n) (UInt8.ofNat hh) (hh : Int) (by simp; omega)
        have HO : Hid (∀ n, ((wr.drewN n).alloc (.cells #[.int .u8 (hh : Int)] 5)).ownsRow 0 5 1 (.slice A l.length c) l.length (l.map bv)) := fun n => (hT.drewN n).own.alloc _
        have HG : Hid (∀ n W2 A2 c2, Apd ((wr.drewN n).alloc (.cells #[.int .u8 (hh : Int)] 5)) W2 (.slice A l.length c) (.slice A2 (l.length + 1) c2) (l.length + 1) ((l ++ [UInt8.ofNat hh]).map bv) → Tk w W2 g t cs x1 y1 (.slice A2 (l.length + 1) c2) (l ++ [UInt8.ofNat hh])) := fun n W2 A2 c2 ha => (hT.drewN n).appd (by simp) ha
        have hlen : l.length ≤ 4 := by
          have := congrArg List.length hl
          rw [List.length_append] at this
          omega
        have HLN := hid hlen
        obtain ⟨x2, hx2⟩ : ∃ a, a = x1 * 256 := ⟨_, rfl⟩
        obtain ⟨y2, hy2⟩ : ∃ a, a = y1 * 256 := ⟨_, rfl⟩
        obtain ⟨y3, hy3⟩ : ∃ a, a = y2 + 255 := ⟨_, rfl⟩
        obtain ⟨x4, hx4⟩ : ∃ a, a = sx x1 := ⟨_, rfl⟩
        obtain ⟨y4, hy4⟩ : ∃ a, a = sy y1 := ⟨_, rfl⟩
        have f1 : IntKind.u64.wrap ((x1 : Int) * 256) = (x2 : Int) := by rw [IntKind.wrap_u64]; omega
        have f2 : (x2 : Int) % 4294967296 = (x4 : Int) := by rw [hx4, hx2]; unfold sx; omega
        have f3 : IntKind.u64.wrap ((y1 : Int) * 256) = (y2 : Int) := by rw [IntKind.wrap_u64]; omega
        have f4 : IntKind.u64.wrap ((y2 : Int) + 255) = (y3 : Int) := by rw [IntKind.wrap_u64]; omega
        have f5 : (y3 : Int) % 4294967296 = (y4 : Int) := by rw [hy4, hy3, hy2]; unfold sy; omega
        have HT := hid hT
        have HFin : Hid (∀ W2 A2 c2, Tk w W2 g t cs x1 y1 (.slice A2 (l.length + 1) c2) (l ++ [UInt8.ofNat hh]) → Tp w ((W2.setCell ⟨g, 0, none⟩ (.int .u64 (x4 : Nat))).setCell ⟨g, 1, none⟩ (.int .u64 (y4 : Nat))) g t cs L fx1 fy1 (.slice A2 (l.length + 1) c2) ∧ 4294967296 - wdR ((W2.setCell ⟨g, 0, none⟩ (.int .u64 (x4 : Nat))).setCell ⟨g, 1, none⟩ (.int .u64 (y4 : Nat))) g < 4294967296 - wdR wr g) := by
          intro W2 A2 c2 T2
          have T3 := (T2.setx x4).sety y4
          refine ⟨⟨_, x4, y4, j, T3, by rw [hx4, hy4]; exact hw', ?_, by rw [hx4, hy4]; exact hf⟩, ?_⟩
          · rw [← hl, hx4, hy4, hhe, List.append_assoc]
            rfl
          · rw [T3.wd, hT.wd, hx4, hy4]
            have := hw'.lt
            have := hw'.le
            omega
        clear hT hw hw' hl hf hhe hst hx1 hy1 ht hd hlen hx2 hy2 hy3 hx4 hy4 hh256
        go_wp2_with fail
        go_quiet (fail)
        go_wp2_with (at_builtin; go_loud (refine wpList_append_ap rfl (.tmp 72) (.tmp 79) rfl (.slice A l.length c) l.length l rfl (HO.out _) (some ⟨wr.heap.size, 0, none⟩) 1 1 [UInt8.ofNat hh] rfl (HB.out _) (by have := HLN.out; omega) ?_); intro A2 c2 W2 hA2; have T2 := HG.out _ W2 A2 c2 hA2.out; have cx2 := T2.cx; have cy2 := T2.cy; have gx2 := row_free T2.row 0; have gy2 := row_free T2.row 1; have HT2 := hid T2; clear T2)
        go_roundw
        case rel => first | exact ⟨_, rfl, hid (HFin.out _ _ _ HT2.out).1⟩ | exact hid (HFin.out _ _ _ HT2.out).1
        case measure => exact (HFin.out _ _ _ HT2.out).2
      · rw [shd_stop k x1 y1 ht] at hl hf
        simp only [List.append_nil] at hl
        simp only [Prod.mk.injEq] at hf
        obtain ⟨ha, hha⟩ : ∃ h, h = x1 / 16777216 := ⟨_, rfl⟩
        obtain ⟨hb, hhb⟩ : ∃ h, h = y1 / 16777216 := ⟨_, rfl⟩
        have ex : IntKind.u64.wrap ((x1 : Int) / 16777216) = (ha : Int) := by rw [IntKind.wrap_u64]; omega
        have ey : IntKind.u64.wrap ((y1 : Int) / 16777216) = (hb : Int) := by rw [IntKind.wrap_u64]; omega
        have hne : ((ha : Int) == (hb : Int)) = false := by simp only [beq_eq_false_iff_ne, ne_eq]; omega
        have HT := hid hT
        have HL := hid hl
        have HF := hid hf
        clear hT hw hl hf hst hx1 hy1 ht hha hhb
        go_wp2_with fail
        go_quiet (fail)
        go_wp2_with fail
        go_ret2
        refine ⟨_, rfl, ?_⟩
        rw [← HL.out, ← HF.out.1, ← HF.out.2]
        exact HT.out.drewN _
end Go.Proofs.Ytbgbacajgaeooaa
