/-
  Contexts: a byte begins for all parts.
-/
import Derived.Test.YtkfdbibgjoaefaaDoorKn
import Derived.Test.YtkfdbibgjoaefaaDoorZh
import Derived.Test.YtkfdbibgjoaefaaDoorBk
import Derived.Lib.SliceRun
import Derived.Laws.IdiomCopy
namespace Go.Proofs.YtkfdbibgjoaefaaDoor
open Go.RowKit

theorem ro_setCells (d : Nat) (T : TypeId) (n : Nat) : ∀ (vs : List Value) (o : Nat) (w : World) (F : Nat → Value), Ro w d T n F →
    Ro (w.setCells d o vs) d T n (fun k => if o ≤ k ∧ k < o + vs.length then vs.getD (k - o) undef else F k) ∧ But (· = d) w (w.setCells d o vs)
  | [], o, w, F, h => ⟨h.same fun k _ => by rw [if_neg (by simp)], But.refl _ _⟩
  | v :: vs, o, w, F, h => by
    obtain ⟨h1, h2⟩ := ro_setCells d T n vs (o + 1) (w.setCell ⟨d, o, none⟩ v) _ (h.set o v)
    refine ⟨h1.same fun k _ => ?_, ((But.refl (· = d) w).set ⟨d, o, none⟩ v (.inl rfl)).trans h2⟩
    by_cases e : k = o
    · subst e
      rw [if_neg (by omega), if_pos rfl, if_pos (by simp), Nat.sub_self]
      rfl
    · by_cases e2 : o + 1 ≤ k ∧ k < o + 1 + vs.length
      · rw [if_pos e2, if_pos (by simp; omega), show k - o = (k - (o + 1)) + 1 from by omega]
        rfl
      · rw [if_neg e2, if_neg e, if_neg (by simp; omega)]
/-- The caller's numbers. -/
structure WsAt (w : World) (B : Nat) (A : Option Addr) (m mc : Nat) (hs : List Nat) : Prop where
  len : hs.length = m
  lies : 0 < m → ∃ ad, A = some ad ∧ ad.block < B ∧ ∀ j, j < m → w.cell? (ad.add j) = some (.int .u32 (hs.getD j 0 : Nat))
  small : ∀ x ∈ hs, x < 4294967296
theorem Tryd.size26 : (Tryd.prog.info? 26).map (·.size) = some 1 := by kernel_rfl
theorem Tryd.zero26 : ∀ w, (zeroValue 26).run Tryd.prog w = .ok (.int .u32 0) w := fun w => by kernel_rfl
/-- The contexts are laid. -/
theorem ctx_laid {w : World} {ct n m mc : Nat} {F : Nat → Value} {A : Option Addr} {hs : List Nat} (r : Ro w ct 26 n F) (hn : 1 ≤ n ∧ n ≤ 16) (h : WsAt w w.heap.size A m mc hs) (hct : ∀ ad, A = some ad → 0 < m → ad.block ≠ ct) :
    ∃ W1 W2, (∀ ty, (Builtin.clear_ #[22] ty #[.slice (some ⟨ct, 0, none⟩) n n]).run Tryd.prog w = .ok (.tuple #[]) W1) ∧ (∀ ty, (Builtin.copy_ #[22, 22] ty #[.slice (some ⟨ct, 0, none⟩) n n, .slice A m mc]).run Tryd.prog W1 = .ok (goInt (Nat.min m n)) W2) ∧
      But (· = ct) w W1 ∧ Ro W1 ct 26 n (fun _ => .int .u32 0) ∧ Ro W2 ct 26 n (u32F ((List.range n).map (fun i => hs.getD i 0))) ∧ But (· = ct) w W2 := by
  obtain ⟨r1, b1⟩ := ro_setCells ct 26 n (List.replicate n (.int .u32 0)) 0 w F r
  have c1 : Ro (w.setCells ct 0 (List.replicate n (.int .u32 0))) ct 26 n (fun _ => .int .u32 0) := r1.same fun k hk => by
    rw [if_pos (by simp; omega), rep_getD _ _ _ _ (by omega)]
  have hg : ∀ k, k < n → ((List.range n).map (fun i => hs.getD i 0)).getD k 0 = hs.getD k 0 := fun k hk => by
    rw [gD_in _ _ (by simpa using hk)]; simp
  have e1 : ∀ ty, (Builtin.clear_ #[22] ty #[.slice (some ⟨ct, 0, none⟩) n n]).run Tryd.prog w = .ok (.tuple #[]) (w.setCells ct 0 (List.replicate n (.int .u32 0))) := fun ty =>
    Lib.run_clear_slice w 22 26 ty (.int .u32 0) Tryd.underlying22 Tryd.zero26 rfl rfl ct 0 n n (by omega) (fun j hj => by rw [Nat.zero_add, r.cell j hj]; rfl) (fun j _ => by rw [Nat.zero_add]; exact r.free j)
  by_cases h0 : Nat.min m n = 0
  · have hm : m = 0 := by
      have : Nat.min m n = m ∨ Nat.min m n = n := by unfold Nat.min; simp [Nat.min_def]; omega
      omega
    refine ⟨_, _, e1, fun ty => ?_, b1, c1, c1.same fun k hk => ?_, b1⟩
    · rw [h0]
      exact run_copy_none _ 22 22 ty 26 _ _ n n m mc Tryd.underlying22 Tryd.size26 h0
    · unfold u32F
      rw [hg k hk, gD_out _ _ (by have := h.len; omega)]
      rfl
  · have hm : 0 < m := by
      have : Nat.min m n ≤ m := Nat.min_le_left m n
      omega
    obtain ⟨ad, rfl, hb, hc⟩ := h.lies hm
    have hmn : Nat.min m n ≤ m ∧ Nat.min m n ≤ n := ⟨Nat.min_le_left m n, Nat.min_le_right m n⟩
    have hmn2 : Nat.min m n = m ∨ Nat.min m n = n := by
      rcases Nat.le_total m n with h1 | h1
      · exact .inl (Nat.min_eq_left h1)
      · exact .inr (Nat.min_eq_right h1)
    obtain ⟨cs, hcs⟩ : ∃ cs, cs = (List.range (Nat.min m n)).map (fun i => Value.int .u32 (hs.getD i 0 : Nat)) := ⟨_, rfl⟩
    have hl : cs.length = Nat.min m n := by rw [hcs]; simp
    obtain ⟨r2, b2⟩ := ro_setCells ct 26 n cs 0 _ _ c1
    have hcell : ∀ j v, cs[j]? = some v → (w.setCells ct 0 (List.replicate n (.int .u32 0))).cell? (ad.add j) = some v := fun j v hj => by
      have hjl : j < Nat.min m n := by
        rw [← hl]
        rcases Nat.lt_or_ge j cs.length with h1 | h1
        · exact h1
        · rw [List.getElem?_eq_none h1] at hj; cases hj
      have hv : v = .int .u32 (hs.getD j 0 : Nat) := by
        rw [hcs, List.getElem?_map, List.getElem?_range hjl] at hj
        simpa using hj.symm
      rw [hv]
      exact b1.cell (hc j (by omega)) (by rw [block_of_add]; exact hct ad rfl hm)
    have e2 : ∀ ty, (Builtin.copy_ #[22, 22] ty #[.slice (some ⟨ct, 0, none⟩) n n, .slice (some ad) m mc]).run Tryd.prog (w.setCells ct 0 (List.replicate n (.int .u32 0))) = .ok (goInt (Nat.min m n)) ((w.setCells ct 0 (List.replicate n (.int .u32 0))).setCells ct 0 cs) := fun ty => by
      have := run_copy_cells (P := Tryd.prog) _ 22 22 ty 26 ct 0 n n ad m mc cs Tryd.underlying22 Tryd.size26 hl hcell (fun j hj => by rw [Nat.zero_add, c1.cell j (by omega)]; rfl) (fun j _ => by rw [Nat.zero_add]; exact c1.free j) (fun v hv => by rw [hcs] at hv; obtain ⟨i, _, rfl⟩ := List.mem_map.1 hv; rfl)
      rw [hl] at this
      exact this
    refine ⟨_, _, e1, e2, b1, c1, r2.same fun k hk => ?_, b1.trans b2⟩
    unfold u32F
    rw [hg k hk]
    by_cases hkm : k < Nat.min m n
    · rw [if_pos ⟨Nat.zero_le _, by omega⟩, hcs, Nat.sub_zero, List.getD_eq_getElem?_getD, List.getElem?_map, List.getElem?_range hkm]
      rfl
    · rw [if_neg (by omega), gD_out _ _ (by have := h.len; omega)]
      rfl
theorem Bx.setH {w w' : World} {g pa ct le n cap c : Nat} {v : Nat → Value} {h h' : List Nat} {L : List Int} (b : Bx w g pa ct le n cap c v h L) (x : But (· = ct) w w') (r : Ro w' ct 26 n (u32F h')) (hl : h'.length = n) : Bx w' g pa ct le n cap c v h' L := by
  obtain ⟨n1, n2, n3, n4, n5, n6, _⟩ := b.ne
  exact ⟨x.heap b.row n2, fun i hi => x.cell (b.part i hi) n4, r, b.lea.on x (Ne.symm n6), b.lenL, hl, b.one, b.most, b.ne⟩
set_option maxRecDepth 10000 in
set_option maxHeartbeats 2000000 in
theorem ctx_go {w : World} {g pa ct le n cap : Nat} {v : Nat → Value} {h : List Nat} {L : List Int} (b : Bx w g pa ct le n cap 1 v h L) (P : Nat → Nat → World → Prop) (S : Nat → Nat → Prop) (f : Fam n g pa ct le P S) (kn : KnIs w)
    (T : Nat → TypeId) (x : Nat → Value) (K : Nat → FuncId) (R : Nat → Value) {A : Option Addr} {m mc : Nat} {hs : List Nat} (ws : WsAt w w.heap.size A m mc hs) (hd : ∀ ad, A = some ad → 0 < m → ad.block ≠ ct)
    (hv : ∀ i, i < n → v i = .iface (T i) (x i)) (he : ∀ i, i < n → ∀ a w, (callFunc (K i) a).run Tryd.prog w = .ok (.enter (K i) a) w)
    (hn : ∀ i, i < n → ∀ w', (nilAhead 251 (T i) (x i) "quillpress/blend.begin").run Tryd.prog w' = .ok (some false) w')
    (hm : ∀ i, i < n → ∀ w', P i 0 w' → (method 251 (T i) (x i) "quillpress/blend.begin").run Tryd.prog w' = .ok (K i, R i) w')
    (hk : ∀ i, i < n → ∀ w', KnIs w' → P i 0 w' → Calls Tryd.prog (K i) #[R i, .int .u32 (hs.getD i 0 : Nat)] w' fun e w'' => e = .returned (.tuple #[]) ∧ P i 1 w'' ∧ But (S i) w' w'')
    (h0 : ∀ i, i < n → P i 0 w) (Q : World → Prop)
    (hq : ∀ w', But (fun a => All n S a ∨ a = ct) w w' → KnIs w' → (∀ i, i < n → P i 1 w') → Bx w' g pa ct le n cap 1 v ((List.range n).map (fun i => hs.getD i 0)) L → Calls Tryd.prog 17 #[pt g] w' fun e w3 => e = .returned (.tuple #[]) ∧ Q w3) :
    Calls Tryd.prog 6 #[pt g, .slice A m mc] w fun e w' => e = .returned (.int .i64 0) ∧ Q w' := by
  obtain ⟨W1, W2, hcl, hcp, x1, q1, q2, x2⟩ := ctx_laid b.ctx ⟨b.one, b.most⟩ ws hd
  have b1 := b.setH x1 (h' := List.replicate n 0) (q1.same fun k hk => by unfold u32F; rw [rep_getD _ _ _ _ hk]; rfl) (by simp)
  have b2 := b.setH x2 q2 (by simp)
  have cg : ∀ i, i < n → ((List.range n).map (fun i => hs.getD i 0)).getD i 0 = hs.getD i 0 := fun k hk => by
    rw [gD_in _ _ (by simpa using hk)]; simp
  have c0 := b.c0
  have c2 := b.c2
  have c4 := b.c4
  have d2 := b1.c2
  have d1 := b2.c1
  have nmost := b.most
  have HM0 := hid (made_yes g w c0)
  have HQ := hid hq
  have P2 : ∀ i, i < n → P i 0 W2 := fun i hi => f.stay i 0 _ _ _ hi (h0 i hi) x2 (fun a ha e => (f.off i hi a ha).2.2.1 e)
  have K2 : KnIs W2 := kn.but x2 (by have := b.ne.2.2.2.2.2.2.2.2.1; exact fun e => this e.symm)
  have X2 := hid x2
  clear hq b1 x1 x2 q1 q2 h0 kn b
  unfold pt
  go_enter Tryd.func6, Tryd.ntmps6
  go_wp2_with fail
  refine HM0.out.mono ?_
  rintro r w1 ⟨rfl, rfl⟩
  go_wp2_with fail
  go_loopw [30] (fun vi wr => ∃ i : Nat, i ≤ n ∧ vi = .int .i64 i ∧ But (All n S) W2 wr ∧ ∀ j, j < n → P j (if j < i then 0 + 1 else 0) wr) (fun vi _ => n - (intOf vi).toNat)
  case atStart => exact ⟨0, Nat.zero_le _, rfl, But.refl _ _, fun j hj => by rw [if_neg (by omega)]; exact P2 j hj⟩
  case round =>
    obtain ⟨i, hi, rfl, hw, hp⟩ := hrel
    by_cases hgo : i < n
    · have hz : (i : Int) < (n : Int) := by omega
      have b' := b2.all f hw
      have kn' := K2.but hw f.off_all.2.2.2.2
      have p0 : P i 0 wr := by have := hp i hgo; rw [if_neg (by omega)] at this; exact this
      have pc : wr.cell? ⟨pa, i, none⟩ = some (.iface (T i) (x i)) := by rw [b'.part i hgo, hv i hgo]
      have HC := hid (fun w' (k : Below wr.heap.size wr w') => hk i hgo w' (kn'.below k) (f.below hgo p0 k))
      have nn := hn i hgo
      have mm : (method 251 (T i) (x i) "quillpress/blend.begin").run Tryd.prog wr.drew = .ok (K i, R i) wr.drew := hm i hgo _ (f.below hgo p0 (Below.drewN _ _ 1))
      have HS := hid (fun w2 (b2 : But (S i) wr w2) (p2 : P i 1 w2) => (⟨hw.trans (b2.mono fun a ha => .inl ⟨i, hgo, ha⟩), f.step hgo hp b2 p2⟩ : But (All n S) W2 w2 ∧ ∀ j, j < n → P j (if j < i + 1 then 0 + 1 else 0) w2))
      have ee := he i hgo
      have g3 := b'.c2
      have l3 := b'.ctx.cell i hgo
      unfold u32F at l3
      rw [cg i hgo] at l3
      have sg : ¬ S i g := fun h => (f.off i hgo _ h).1 rfl
      have sl3 : ¬ S i ct := fun h => (f.off i hgo _ h).2.2.1 rfl
      clear hk he hn hm hp hw b' cg b2 hcl hcp d1 d2 c0 c2 c4 P2 HQ HM0 ws
      generalize T i = t at *
      generalize x i = y at *
      generalize K i = fn at *
      generalize R i = rv at *
      generalize hs.getD i 0 = hh at *
      go_wp2_with fail
      go_region_held3 (fun w' => w'.cell? ⟨g, 2, none⟩ = some (.slice (some ⟨ct, 0, none⟩) n n) ∧ w'.cell? ⟨ct, i, none⟩ = some (.int .u32 hh))
        (first | exact ⟨g3, l3⟩ | exact ⟨k3, k4⟩ | go_keep)
        (first
        | ((refine (HC.out _ (Below.drewN _ _ 1)).mono ?_); rintro r w2 ⟨rfl, p2, b2⟩; have k3 := b2.cell (keeps (Below.drewN _ _ 1) g3) sg; have k4 := b2.cell (keeps (Below.drewN _ _ 1) l3) sl3; have FF := hid (HS.out _ ((But.of_below (Below.drewN _ _ 1)).trans b2) p2)))
      all_goals
        go_wp2_with fail
        go_roundw
        case rel => exact ⟨i + 1, by omega, by go_num, FF.out.1, FF.out.2⟩
        case measure => simp [intOf]; omega
    · obtain rfl : i = n := by omega
      have b' := b2.all f hw
      have kn' := K2.but hw f.off_all.2.2.2.2
      have p1 : ∀ j, j < i → P j 1 wr := fun j hj => by have := hp j hj; rw [if_pos hj] at this; exact this
      have HX := hid (HQ.out _ ((X2.out.mono fun a h => .inl (.inr h)).trans (hw.mono fun a h => .inl (.inl h))) kn' p1 b')
      clear hk he hn hm hp HQ b' cg b2 hcl hcp d1 d2 c0 c2 c4 P2 HM0 ws
      unfold pt at *
      go_wp2_with fail
      refine HX.out.mono ?_
      rintro r w1 ⟨rfl, hy⟩
      go_wp2_with fail
      go_ret
      exact ⟨rfl, hy⟩
end Go.Proofs.YtkfdbibgjoaefaaDoor
