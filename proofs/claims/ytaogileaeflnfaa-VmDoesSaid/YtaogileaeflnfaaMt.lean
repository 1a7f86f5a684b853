/-
  Merged: Eac Sta.
-/
import Derived.Test.YtaogileaeflnfaaIts
import Derived.Test.YtaogileaeflnfaaTch
import Derived.Shelf.Abstract
/-
  each: all starts of a code, told one behind the other to any closure that keeps a relation of its own.
-/
namespace Go.Proofs.Ytaogileaeflnfaa
open Go.RowKit
set_option linter.unusedVariables false
set_option linter.unusedSimpArgs false

/-- The starts ahead of k are S. -/
structure Pre (l : List UInt8) (S : List Nat) (k : Nat) : Prop where
  eq : starts l = (startsL l (l.length + 1 - k) k).map (S ++ ·)
  few : S.length ≤ k
  le : k ≤ l.length
theorem pre_0 (l : List UInt8) : Pre l [] 0 := ⟨by unfold starts; simp, Nat.zero_le _, Nat.zero_le _⟩
theorem pre_step {l : List UInt8} {S : List Nat} {k : Nat} (h : Pre l S k) (hk : k < l.length) (he : (getR l k).err = 0) : Pre l (S ++ [k]) (nxt l k) := by
  obtain ⟨_, q2, q3, _⟩ := got_in he
  refine ⟨?_, by have := h.few; simp; omega, q3⟩
  rw [h.eq, show l.length + 1 - k = (l.length - k) + 1 by omega, startsL, if_neg (by omega), if_pos he, Option.map_map, starts_enough l (l.length - k) (l.length + 1 - nxt l k) (nxt l k) q3 (by omega) (by omega)]
  congr 1
  funext T
  simp
theorem pre_end {l : List UInt8} {S : List Nat} {k : Nat} (h : Pre l S k) (hk : l.length ≤ k) : starts l = some S := by
  have := h.le
  rw [h.eq, show l.length + 1 - k = (l.length - k) + 1 by omega, startsL, if_pos hk]
  simp
theorem pre_bad {l : List UInt8} {S : List Nat} {k : Nat} (h : Pre l S k) (hk : k < l.length) (he : ¬ (getR l k).err = 0) : starts l = none := by
  rw [h.eq, show l.length + 1 - k = (l.length - k) + 1 by omega, startsL, if_neg (by omega), if_neg he]
  rfl
theorem stE_end {l : List UInt8} {S : List Nat} (h1 : ¬ 4096 < l.length) (h2 : ¬ l.length = 0) (h : starts l = some S) : stE l = 0 := by
  unfold stE
  rw [if_neg h1, if_neg h2, h]
  rfl
theorem stE_bad {l : List UInt8} (h1 : ¬ 4096 < l.length) (h2 : ¬ l.length = 0) (h : starts l = none) : stE l = 110 := by
  unfold stE
  rw [if_neg h1, if_neg h2, h]
  rfl
/-- What a closure that is told the starts keeps. -/
structure Tel (l : List UInt8) (A : Option Addr) (n c f : Nat) (caps : Array Value) (I : List Nat → World → Prop) : Prop where
  bytes : ∀ S w, I S w → IsBB w w.heap.size A n c l
  later : ∀ S w w', I S w → Below w.heap.size w w' → I S w'
  tell : ∀ S k w, I S w → k < l.length → l.length ≤ 4096 → S.length ≤ k → (getR l k).err = 0 → Calls Try.prog f (#[.int .i64 (k : Int), vI (getR l k).o (getR l k).d (getR l k).s (getR l k).n] ++ caps) w fun e w' => e = .returned (.tuple #[]) ∧ I (S ++ [k]) w'
  enter : ∀ args w, (callFunc f args).run Try.prog w = .ok (.enter f args) w
set_option maxRecDepth 10000 in
set_option maxHeartbeats 4000000 in
theorem each_any {l : List UInt8} {A : Option Addr} {n c f : Nat} {caps : Array Value} {I : List Nat → World → Prop} (H : Tel l A n c f caps I) (w : World) (h : I [] w) :
    Calls Try.prog 33 #[.slice A n c, .func (.func f) #[] caps] w fun e w' => e = .returned (.int .i64 (stE l)) ∧ ∃ S, I S w' ∧ (stE l = 0 → starts l = some S) := by
  have hB := H.bytes _ _ h
  have hlen := hB.len
  have hsm := hB.small
  by_cases h1 : 4096 < n
  · have e : stE l = 3 := if_pos (by omega)
    have h1z : (4096 : Int) < (n : Int) := by omega
    have HI := hid h
    rw [e]
    clear H hB h e hlen
    go_enter Try.func33, Try.ntmps33
    go_wp2
    go_ret
    exact ⟨rfl, _, HI.out, fun h => absurd h (by decide)⟩
  by_cases h2 : n = 0
  · have e : stE l = 110 := by unfold stE; rw [if_neg (by omega), if_pos (by omega)]
    have HI := hid h
    subst h2
    rw [e]
    clear H hB h e hlen
    go_enter Try.func33, Try.ntmps33
    go_wp2
    go_ret
    exact ⟨rfl, _, HI.out, fun h => absurd h (by decide)⟩
  have E2 := hid H.enter
  have he := H.enter
  have HH := hid H
  have HL := hid (And.intro hlen (And.intro h1 h2))
  have hnz : (n : Int) ≤ 4096 := by omega
  have hn0 : ((n : Int) == 0) = false := by simpa using h2
  have HI := hid h
  have HG := hid (fun w h k => Get_any A n c l w h k)
  clear H hB h hlen h1 h2 E2 hsm
  go_enter Try.func33, Try.ntmps33
  go_wp2_with fail
  go_loopw [5] (fun v5 wr => ∃ (k : Nat) (S : List Nat), k ≤ n ∧ v5 = .int .i64 (k : Nat) ∧ Hid (Pre l S k) ∧ Hid (I S wr)) (fun v5 _ => n - (intOf v5).toNat)
  case atStart => exact ⟨0, [], Nat.zero_le _, rfl, hid (pre_0 l), HI⟩
  case round =>
    obtain ⟨k, S, hk, rfl, HP, HS⟩ := hrel
    by_cases hlt : k < n
    · have hltz : (k : Int) < (n : Int) := by omega
      obtain ⟨g, hg⟩ : ∃ g, getR l k = g := ⟨_, rfl⟩
      have HB := hid (HH.out.bytes _ _ HS.out)
      have HBX := hid (fun (W : World) => bx_made W g.o g.d g.s g.n)
      by_cases hge : g.err = 0
      · have hge2 : (g.err != 0) = false := by simp [hge]
        have hg0 : (getR l k).err = 0 := by rw [hg]; exact hge
        have GI := hid (got_in hg0)
        have hnx : g.e = (nxt l k : Nat) := by rw [← hg]; exact GI.out.2.2.2.2
        have PS := hid (pre_step HP.out (by rw [HL.out.1]; exact hlt) hg0)
        have HT := hid (fun w h => HH.out.tell S k w h (by rw [HL.out.1]; exact hlt) (by have := HL.out; omega) HP.out.few hg0)
        rw [hg] at HT
        clear hge
        go_wp2_with (go_at_call 52; (with_reducible refine (HG.out _ HB.out k).mono ?_); rw [hg]; rintro r w2 ⟨rfl, b2⟩; unfold vG vI; have HS2 := hid (HH.out.later _ _ _ HS.out (b2.alloc b2.size (.cells #[.int .u8 g.o, .int .i64 g.d, .int .i64 g.s, .int .i64 g.n] 24))); clear b2; dsimp only)
        refine (HT.out _ HS2.out).mono ?_
        rintro r w3 ⟨rfl, h3⟩
        dsimp only
        go_wp2_with fail
        go_roundw
        case rel => exact ⟨nxt l k, _, by have := GI.out; have := HL.out; omega, by first | rfl | rw [hnx], PS, hid h3⟩
        case measure =>
          try rw [hnx]
          have := GI.out
          have := HL.out
          simp [intOf]
          omega
      · have hge2 : (g.err != 0) = true := by simp [hge]
        have PB := hid (pre_bad HP.out (by rw [HL.out.1]; exact hlt) (by rw [hg]; exact hge))
        clear hge
        go_wp2_with (go_at_call 52; (with_reducible refine (HG.out _ HB.out k).mono ?_); rw [hg]; rintro r w2 ⟨rfl, b2⟩; unfold vG vI; have HS2 := hid (HH.out.later _ _ _ HS.out (b2.alloc b2.size (.cells #[.int .u8 g.o, .int .i64 g.d, .int .i64 g.s, .int .i64 g.n] 24))); clear b2; dsimp only)
        have e := stE_bad (by have := HL.out; omega) (by have := HL.out; omega) PB.out
        rw [e]
        go_ret
        exact ⟨rfl, _, HS2.out, fun h => absurd h (by decide)⟩
    · obtain rfl : k = n := by omega
      have e := pre_end HP.out (by rw [HL.out.1]; exact Nat.le_refl _)
      have e2 := stE_end (by have := HL.out; omega) (by have := HL.out; omega) e
      go_wp2
      rw [e2]
      go_ret
      exact ⟨rfl, _, HS.out, fun _ => e⟩
end Go.Proofs.Ytaogileaeflnfaa
/-
  Starts and Check, of any bytes.
-/
namespace Go.Proofs.Ytaogileaeflnfaa
open Go.RowKit Go.Maps
set_option linter.unusedVariables false
set_option linter.unusedSimpArgs false

theorem own_low {w : World} {b b2 n : Nat} {v : Value} {xs : List Value} (h : w.ownsRow b 3 1 v n xs) (hb : b2 ≤ b) : w.ownsRow b2 3 1 v n xs := by
  refine ⟨h.1, ?_⟩
  rcases h.2 with h2 | ⟨g2, cap, cur, rfl, hge, r⟩
  · exact .inl h2
  · exact .inr ⟨g2, cap, cur, rfl, Nat.le_trans hb hge, r⟩
/-- Starts as whole numbers. -/
def nats (S : List Nat) : List Int := S.map fun k : Nat => (k : Int)
theorem nats_len (S : List Nat) : (nats S).length = S.length := List.length_map _
/-- Where jumps go to, what is last, whether anything is put out. -/
def tgts (l : List UInt8) (S : List Nat) : List Int := S.flatMap fun k : Nat => tgt (getR l k).o (getR l k).n
def outs (l : List UInt8) (S : List Nat) : Bool := S.any fun k : Nat => decide ((getR l k).o = 26)
def lastO (l : List UInt8) (S : List Nat) : Int := match S.getLast? with | some k => (getR l (k : Nat)).o | none => 0
theorem tgts_len (l : List UInt8) : ∀ S : List Nat, (tgts l S).length ≤ S.length
  | [] => Nat.le_refl _
  | k :: S => by
    have := tgts_len l S
    unfold tgts at *
    rw [List.flatMap_cons, List.length_append, List.length_cons]
    have : (tgt (getR l (k : Nat)).o (getR l (k : Nat)).n).length ≤ 1 := by unfold tgt; split <;> simp
    omega
theorem tel_check {w : World} {A : Option Addr} {n c : Nat} {l : List UInt8} (h : IsBB w w.heap.size A n c l) :
    Tel l A n c 34 #[.pointer (some ⟨w.heap.size + 1, 0, none⟩), .pointer (some ⟨w.heap.size + 2, 0, none⟩), .pointer (some ⟨w.heap.size + 4, 0, none⟩), .pointer (some ⟨w.heap.size + 3, 0, none⟩)]
      (fun S w' => Chk w' w.heap.size S (tgts l S) (outs l S) (lastO l S) ∧ Below w.heap.size w w') where
  bytes := fun S w' h' => h.on h'.2
  later := fun S w1 w2 h' hb => ⟨h'.1.below hb, h'.2.trans (hb.mono h'.2.size)⟩
  tell := fun S k w' h' hk hl hs he => by
    have ht := tgts_len l S
    refine (tell_check w.heap.size S (tgts l S) (outs l S) (lastO l S) w' k _ _ _ _ h'.1 (by omega) (by omega) (by omega)).mono ?_
    rintro e w2 ⟨rfl, h1, h2⟩
    refine ⟨rfl, ?_, h'.2.trans h2⟩
    have e1 : tgts l (S ++ [k]) = tgts l S ++ tgt (getR l k).o (getR l k).n := by unfold tgts; rw [List.flatMap_append]; simp
    have e2 : outs l (S ++ [k]) = (outs l S || decide ((getR l k).o = 26)) := by unfold outs; rw [List.any_append]; simp
    have e3 : lastO l (S ++ [k]) = (getR l k).o := by unfold lastO; simp
    rw [e1, e2, e3]
    exact h1
  enter := enters_of Try.func34 (by kernel_rfl) rfl
/-- What Check tells of the starts. -/
def chkE (l : List UInt8) (post : Bool) (S : List Nat) : Int := if stE l = 0 then if (outs l S = true ∧ post = false) ∨ ¬ ed (lastO l S) then 110 else if (tgts l S).all (fun t => (nats S).contains t) then 0 else 110 else stE l
theorem mk42 (k : Nat) (hk : k ≤ 5000) (w : World) : (Instr.makeMap 61 (some (.int .i64 (k : Int)))).run Try.prog w = .ok (.map (some w.heap.size)) (w.alloc (.map #[] 0)) := by
  simp [Instr.makeMap, asInt, asIntOf]
theorem starts_few {l : List UInt8} : ∀ {f k S}, startsL l f k = some S → S.length ≤ l.length - k
  | 0, k, S, h => by unfold startsL at h; cases h
  | f + 1, k, S, h => by
    unfold startsL at h
    split at h
    · injection h with h
      subst h
      simp
    · split at h
      · rename_i hl he
        obtain ⟨q1, q2, q3, _⟩ := got_in he
        cases hs : startsL l f (nxt l k) with
        | none => rw [hs] at h; cases h
        | some T =>
          rw [hs] at h
          simp at h
          subst h
          have := starts_few hs
          simp
          omega
      · cases h
theorem stE_le {l : List UInt8} (h : stE l = 0) : l.length ≤ 4096 := by
  unfold stE at h
  by_cases h1 : 4096 < l.length
  · rw [if_pos h1] at h
    exact absurd h (by decide)
  · omega
theorem has_setS (S : List Nat) (t : Int) : Maps.has (setS S) (Lit.int .i64 t) = (nats S).contains t := by
  unfold setS nats
  rw [has_setOf _ _ _ (by intro x hx; obtain ⟨k, _, rfl⟩ := List.mem_map.1 hx; exact trivial)]
  induction S with
  | nil => rfl
  | cons k S ih =>
    rw [List.map_cons, List.map_cons, List.any_cons, ih, List.contains_cons]
    congr 1
    by_cases e : t = (k : Int)
    · subst e
      rw [WideAt.sameKey_self (a := .int .i64 (k : Int)) True.intro]
      simp
    · rw [sameKey_ne (fun h => e (by injection h with _ h; exact h.symm))]
      simp [e]
theorem tgts_in {l : List UInt8} {S : List Nat} (hS : starts l = some S) : ∀ t ∈ tgts l S, 0 ≤ t ∧ t ≤ 65535 := by
  intro t ht
  unfold tgts at ht
  obtain ⟨k, hk, ht⟩ := List.mem_flatMap.1 ht
  obtain ⟨_, he, _⟩ := (starts_mem hS).2 k hk
  obtain ⟨h1, h2, h3, m, h4, h5, h6⟩ := put_get l k he
  unfold tgt at ht
  by_cases hj : jm (getR l k).o
  · rw [if_pos hj] at ht
    obtain rfl : t = (getR l k).n := by simpa using ht
    have h7 := h2.2.2.2
    have h8 : rN (getR l k).o (getR l k).s ≤ 65535 := by rcases row_cases (getR l k).o (getR l k).s with ⟨r0, r1, r2, r3, r4, hc⟩ | ⟨r0, r1, r2, r3, r4, hc⟩ | ⟨r0, r1, r2, r3, r4, hc⟩ | ⟨r0, r1, r2, r3, r4, hc⟩ | ⟨r0, r1, r2, r3, r4, hc⟩ | ⟨r0, r1, r2, r3, r4, hc⟩ | ⟨r0, r1, r2, r3, r4, hc⟩ | ⟨r0, r1, r2, r3, r4, hc⟩ | ⟨r0, r1, r2, r3, r4, hc⟩ | ⟨r0, r1, r2, r3, r4, hc⟩ | ⟨r0, r1, r2, r3, r4, hc⟩ <;> omega
    unfold inn at h7
    omega
  · rw [if_neg hj] at ht
    cases ht
theorem old1 {w : World} {g : Nat} {X : Obj} (h : w.heap[g]? = some X) (o : Obj) : (w.alloc o).heap[g]? = some X := (heap_alloc_old w o (lt_of_heap h)).trans h
theorem al_size (w : World) (o : Obj) : (w.alloc o).heap.size = w.heap.size + 1 := by simp
theorem chk_made (w : World) (l : List UInt8) :
    Chk (((((w.alloc (.map #[] 0)).alloc (.cells #[.map (some w.heap.size)] 61)).alloc (.cells #[.slice none 0 0] 62)).alloc (.cells #[.int .u8 0] 22)).alloc (.cells #[.bool false] 4)) w.heap.size [] (tgts l []) (outs l []) (lastO l []) ∧
    Below w.heap.size w (((((w.alloc (.map #[] 0)).alloc (.cells #[.map (some w.heap.size)] 61)).alloc (.cells #[.slice none 0 0] 62)).alloc (.cells #[.int .u8 0] 22)).alloc (.cells #[.bool false] 4)) := by
  refine ⟨⟨?_, ?_, ⟨_, ?_, World.ownsRow_nil _ _ _ _⟩, ?_, ?_⟩, ?_⟩
  · exact ((((World.ownsMap_made _ _ _ _).alloc _).alloc _).alloc _).alloc _
  · have h := heap_alloc_new (w.alloc (.map #[] 0)) (.cells #[.map (some w.heap.size)] 61)
    rw [al_size] at h
    exact old1 (old1 (old1 h _) _) _
  · have h := heap_alloc_new ((w.alloc (.map #[] 0)).alloc (.cells #[.map (some w.heap.size)] 61)) (.cells #[.slice none 0 0] 62)
    rw [al_size, al_size] at h
    exact old1 (old1 h _) _
  · have h := heap_alloc_new (((w.alloc (.map #[] 0)).alloc (.cells #[.map (some w.heap.size)] 61)).alloc (.cells #[.slice none 0 0] 62)) (.cells #[.int .u8 0] 22)
    rw [al_size, al_size, al_size] at h
    exact old1 h _
  · have h := heap_alloc_new ((((w.alloc (.map #[] 0)).alloc (.cells #[.map (some w.heap.size)] 61)).alloc (.cells #[.slice none 0 0] 62)).alloc (.cells #[.int .u8 0] 22)) (.cells #[.bool false] 4)
    rw [al_size, al_size, al_size, al_size] at h
    exact h
  · exact (((((Below.refl _ w).alloc (Nat.le_refl _) _).alloc (by simp) _).alloc (by simp; omega) _).alloc (by simp; omega) _).alloc (by simp; omega) _
set_option maxRecDepth 10000 in
set_option maxHeartbeats 4000000 in
theorem Check_any (A : Option Addr) (n c : Nat) (l : List UInt8) (post : Bool) (w : World) (h : IsBB w w.heap.size A n c l) :
    Calls Try.prog 15 #[.slice A n c, .bool post] w fun e w' => ∃ S, e = .returned (.int .i64 (chkE l post S)) ∧ Below w.heap.size w w' ∧ (stE l = 0 → starts l = some S) := by
  have HC := hid (each_any (tel_check h) _ (chk_made w l))
  have HE := hid (fun o w => ends_any o w)
  obtain ⟨m, hm, hm5⟩ : ∃ m : Nat, (if (4096 : Int) < (n : Int) then 4096 else (n : Int)) = (m : Int) ∧ m ≤ 5000 := by
    by_cases hn : (4096 : Int) < (n : Int)
    · exact ⟨4096, if_pos hn, by omega⟩
    · exact ⟨n, if_neg hn, by omega⟩
  have hmk := mk42 m hm5
  have hnb : n ≤ 140737488355328 := h.small
  clear h
  go_enter Try.func15, Try.ntmps15
  go_upto_region 6 with (go_at_call 33; refine HC.out.mono ?_; rintro r w2 ⟨rfl, S, ⟨hs1, hs2⟩, hs3⟩)
  have H1 := hid hs1
  have H2 := hid hs2
  have H3 := hid hs3
  obtain ⟨e, he⟩ : ∃ e, stE l = e := ⟨_, rfl⟩
  have E := hid he
  rw [he]
  clear hs1 hs2 hs3 HC hmk hm he
  by_cases h0 : e = 0
  case neg =>
    have hb : (e != 0) = true := by simpa using h0
    have hc : chkE l post S = e := by unfold chkE; rw [E.out, if_neg h0]
    go_wp2
    refine bodyPost_ret (results_tmp (by kernel_rfl : Try.f15.results = #[.tmp 4]) _ _ _) rfl ?_
    exact ⟨S, by rw [hc]; rfl, H2.out, fun h => absurd (E.out.symm.trans h) h0⟩
  subst h0
  have hS := H3.out E.out
  obtain ⟨v, hg, hown⟩ := H1.out.c2
  have c1 : w2.cell? ⟨w.heap.size + 1, 0, none⟩ = some (.map (some w.heap.size)) := row_cell H1.out.c1 0
  have c3 : w2.cell? ⟨w.heap.size + 3, 0, none⟩ = some (.int .u8 (lastO l S)) := row_cell H1.out.c3 0
  have c4 : w2.cell? ⟨w.heap.size + 4, 0, none⟩ = some (.bool (outs l S)) := row_cell H1.out.c4 0
  obtain ⟨A', c', rfl⟩ := own_ints hown
  have c2 : w2.cell? ⟨w.heap.size + 2, 0, none⟩ = some (.slice A' (tgts l S).length c') := row_cell hg 0
  obtain ⟨ou, hou⟩ : ∃ ou, outs l S = ou := ⟨_, rfl⟩
  obtain ⟨lo, hlo⟩ : ∃ lo, lastO l S = lo := ⟨_, rfl⟩
  obtain ⟨eb, heb⟩ : ∃ eb, decide (ed lo) = eb := ⟨_, rfl⟩
  obtain ⟨T, hT⟩ : ∃ T, tgts l S = T := ⟨_, rfl⟩
  have TI := tgts_in hS
  have HT5 : T.length ≤ 5000 := by
    rw [← hT]
    have h1 := tgts_len l S
    have h2 := starts_few hS
    have h3 := stE_le E.out
    omega
  have R1 : ou = true → post = false → chkE l post S = 110 := fun h1 h2 => by unfold chkE; rw [E.out, if_pos rfl, if_pos (.inl ⟨by rw [hou]; exact h1, h2⟩)]
  have R2 : eb = false → chkE l post S = 110 := fun h1 => by unfold chkE; rw [E.out, if_pos rfl, if_pos (.inr (by rw [hlo]; exact of_decide_eq_false (heb.trans h1)))]
  have R3 : ¬ (ou = true ∧ post = false) → eb = true → chkE l post S = if T.all (fun t => (nats S).contains t) then 0 else 110 := fun h1 h2 => by
    unfold chkE
    rw [E.out, if_pos rfl, if_neg, hT]
    rw [hou, hlo]
    rintro (h | h)
    · exact h1 h
    · exact h (of_decide_eq_true (heb.trans h2))
  rw [hou] at c4 H1
  rw [hlo] at c3 H1
  rw [hT] at c2 H1 hown TI
  have HC := hid (And.intro R1 (And.intro R2 R3))
  have HO := hid hown
  have HS := hid hS
  clear R1 R2 R3 hou hlo hT hg hown hS H3
  by_cases hop : ou = true ∧ post = false
  · obtain ⟨rfl, rfl⟩ := hop
    have hc := HC.out.1 rfl rfl
    clear HC
    go_wp2
    refine bodyPost_ret (results_tmp (by kernel_rfl : Try.f15.results = #[.tmp 4]) _ _ _) rfl ?_
    exact ⟨S, by rw [hc]; rfl, H2.out, fun _ => HS.out⟩
  cases eb with
  | false =>
    have hc := HC.out.2.1 rfl
    have hp : ou = true → post = true := fun h => by cases post <;> simp_all
    clear HC hop
    cases ou with
    | true =>
      obtain rfl := hp rfl
      clear hp
      go_wp2_with (go_at_call 36; (with_reducible refine (HE.out _ _).mono ?_); rw [heb]; rintro r wj ⟨rfl, ej⟩; rw [ej]; clear ej wj)
      refine bodyPost_ret (results_tmp (by kernel_rfl : Try.f15.results = #[.tmp 4]) _ _ _) rfl ?_
      exact ⟨S, by rw [hc]; rfl, H2.out, fun _ => HS.out⟩
    | false =>
      clear hp
      go_wp2_with (go_at_call 36; (with_reducible refine (HE.out _ _).mono ?_); rw [heb]; rintro r wj ⟨rfl, ej⟩; rw [ej]; clear ej wj)
      refine bodyPost_ret (results_tmp (by kernel_rfl : Try.f15.results = #[.tmp 4]) _ _ _) rfl ?_
      exact ⟨S, by rw [hc]; rfl, H2.out, fun _ => HS.out⟩
  | true =>
    have HR := hid (HC.out.2.2 hop rfl)
    have hp : ou = true → post = true := fun h => by cases post <;> simp_all
    clear HC hop
    cases ou with
    | true =>
      obtain rfl := hp rfl
      clear hp
      go_upto_region 10 with (go_at_call 36; (with_reducible refine (HE.out _ _).mono ?_); rw [heb]; rintro r wj ⟨rfl, ej⟩; rw [ej]; clear ej wj)
      go_wp2_with fail
      go_loopw [36] (fun v36 wr => ∃ k : Nat, k ≤ T.length ∧ v36 = .int .i64 (k : Nat) ∧ Hid (Below w2.heap.size w2 wr) ∧ Hid ((T.take k).all (fun t => (nats S).contains t) = true)) (fun v36 _ => T.length - (intOf v36).toNat)
      case atStart => exact ⟨0, Nat.zero_le _, rfl, hid (Below.refl _ _), hid (by simp)⟩
      case round =>
        obtain ⟨k, hk, rfl, HB, HA⟩ := hrel
        by_cases hlt : k < T.length
        · have hltz : (k : Int) < (T.length : Int) := by omega
          have hor := HO.out
          rcases hor.2 with ⟨h1, _⟩ | ⟨g2, cap, cur, h1, hge, hh, hrest⟩
          · injection h1 with _ h1
            omega
          cases h1
          have ct : wr.cell? ⟨g2, k, none⟩ = some (.int .i64 T[k]) := by
            have := (ints_below hor HB.out).cells (g := g2) rfl k (iv T[k]) (by simp [hlt])
            rw [Addr.add_lit, Nat.zero_add] at this
            exact this
          have c1r : wr.cell? ⟨w.heap.size + 1, 0, none⟩ = some (.map (some w.heap.size)) := row_cell ((HB.out.block _ (lt_of_heap H1.out.c1)).trans H1.out.c1) 0
          have hm := map_below H1.out.mp HB.out
          obtain ⟨t, ht⟩ : ∃ t, T[k] = t := ⟨_, rfl⟩
          have htm : T[k] ∈ T := List.getElem_mem hlt
          have hti := TI _ htm
          have HN : Hid (T.take (k + 1) = T.take k ++ [t]) := by rw [← ht]; exact List.take_succ_eq_append_getElem hlt
          have HM : Hid (t ∈ T) := by rw [← ht]; exact htm
          rw [ht] at ct hti
          clear htm ht hrest hh hge hor
          have hkey : keyOf Try.prog 3 (.int .i64 t) = some (.int .i64 t) := keyOf_int_mk Try.underlying3 (WalkArith.wf_i64 (by omega))
          obtain ⟨cb, hcb⟩ : ∃ cb, (nats S).contains t = cb := ⟨_, rfl⟩
          have hhas := has_setS S t
          rw [hcb] at hhas
          cases cb with
          | true =>
            go_wp2_with (first
              | (at_lookup; refine wpList_lookup_own_unit _ rfl _ _ 61 rfl 3 64 law3 Try.underlying61 (zero44 _) w.heap.size S.length _ rfl hm _ _ rfl hkey ?_; rw [hhas])
              | go_in)
            go_roundw
            case rel => exact ⟨k + 1, by omega, by go_num, hid (HB.out.alloc HB.out.size _), hid (by rw [HN.out, List.all_append, HA.out]; simp only [List.all_cons, List.all_nil, hcb]; rfl)⟩
            case measure => simp [intOf]; omega
          | false =>
            have hc : chkE l true S = 110 := by
              rw [HR.out, if_neg]
              intro h
              rw [List.all_eq_true] at h
              exact absurd ((h t HM.out).symm.trans hcb) (by decide)
            go_wp2_with (first
              | (at_lookup; refine wpList_lookup_own_unit _ rfl _ _ 61 rfl 3 64 law3 Try.underlying61 (zero44 _) w.heap.size S.length _ rfl hm _ _ rfl hkey ?_; rw [hhas])
              | go_in)
            refine bodyPost_ret (results_tmp (by kernel_rfl : Try.f15.results = #[.tmp 4]) _ _ _) rfl ?_
            exact ⟨S, by rw [hc]; rfl, (H2.out.trans (HB.out.mono H2.out.size)).alloc (Nat.le_trans H2.out.size HB.out.size) _, fun _ => HS.out⟩
        · obtain rfl : k = T.length := by omega
          have hc : chkE l true S = 0 := by
            have := HA.out
            rw [List.take_length] at this
            rw [HR.out, if_pos this]
          go_wp2
          refine bodyPost_ret (results_tmp (by kernel_rfl : Try.f15.results = #[.tmp 4]) _ _ _) rfl ?_
          exact ⟨S, by rw [hc]; rfl, H2.out.trans (HB.out.mono H2.out.size), fun _ => HS.out⟩
    | false =>
      clear hp
      go_upto_region 10 with (go_at_call 36; (with_reducible refine (HE.out _ _).mono ?_); rw [heb]; rintro r wj ⟨rfl, ej⟩; rw [ej]; clear ej wj)
      go_wp2_with fail
      go_loopw [36] (fun v36 wr => ∃ k : Nat, k ≤ T.length ∧ v36 = .int .i64 (k : Nat) ∧ Hid (Below w2.heap.size w2 wr) ∧ Hid ((T.take k).all (fun t => (nats S).contains t) = true)) (fun v36 _ => T.length - (intOf v36).toNat)
      case atStart => exact ⟨0, Nat.zero_le _, rfl, hid (Below.refl _ _), hid (by simp)⟩
      case round =>
        obtain ⟨k, hk, rfl, HB, HA⟩ := hrel
        by_cases hlt : k < T.length
        · have hltz : (k : Int) < (T.length : Int) := by omega
          have hor := HO.out
          rcases hor.2 with ⟨h1, _⟩ | ⟨g2, cap, cur, h1, hge, hh, hrest⟩
          · injection h1 with _ h1
            omega
          cases h1
          have ct : wr.cell? ⟨g2, k, none⟩ = some (.int .i64 T[k]) := by
            have := (ints_below hor HB.out).cells (g := g2) rfl k (iv T[k]) (by simp [hlt])
            rw [Addr.add_lit, Nat.zero_add] at this
            exact this
          have c1r : wr.cell? ⟨w.heap.size + 1, 0, none⟩ = some (.map (some w.heap.size)) := row_cell ((HB.out.block _ (lt_of_heap H1.out.c1)).trans H1.out.c1) 0
          have hm := map_below H1.out.mp HB.out
          obtain ⟨t, ht⟩ : ∃ t, T[k] = t := ⟨_, rfl⟩
          have htm : T[k] ∈ T := List.getElem_mem hlt
          have hti := TI _ htm
          have HN : Hid (T.take (k + 1) = T.take k ++ [t]) := by rw [← ht]; exact List.take_succ_eq_append_getElem hlt
          have HM : Hid (t ∈ T) := by rw [← ht]; exact htm
          rw [ht] at ct hti
          clear htm ht hrest hh hge hor
          have hkey : keyOf Try.prog 3 (.int .i64 t) = some (.int .i64 t) := keyOf_int_mk Try.underlying3 (WalkArith.wf_i64 (by omega))
          obtain ⟨cb, hcb⟩ : ∃ cb, (nats S).contains t = cb := ⟨_, rfl⟩
          have hhas := has_setS S t
          rw [hcb] at hhas
          cases cb with
          | true =>
            go_wp2_with (first
              | (at_lookup; refine wpList_lookup_own_unit _ rfl _ _ 61 rfl 3 64 law3 Try.underlying61 (zero44 _) w.heap.size S.length _ rfl hm _ _ rfl hkey ?_; rw [hhas])
              | go_in)
            go_roundw
            case rel => exact ⟨k + 1, by omega, by go_num, hid (HB.out.alloc HB.out.size _), hid (by rw [HN.out, List.all_append, HA.out]; simp only [List.all_cons, List.all_nil, hcb]; rfl)⟩
            case measure => simp [intOf]; omega
          | false =>
            have hc : chkE l post S = 110 := by
              rw [HR.out, if_neg]
              intro h
              rw [List.all_eq_true] at h
              exact absurd ((h t HM.out).symm.trans hcb) (by decide)
            go_wp2_with (first
              | (at_lookup; refine wpList_lookup_own_unit _ rfl _ _ 61 rfl 3 64 law3 Try.underlying61 (zero44 _) w.heap.size S.length _ rfl hm _ _ rfl hkey ?_; rw [hhas])
              | go_in)
            refine bodyPost_ret (results_tmp (by kernel_rfl : Try.f15.results = #[.tmp 4]) _ _ _) rfl ?_
            exact ⟨S, by rw [hc]; rfl, (H2.out.trans (HB.out.mono H2.out.size)).alloc (Nat.le_trans H2.out.size HB.out.size) _, fun _ => HS.out⟩
        · obtain rfl : k = T.length := by omega
          have hc : chkE l post S = 0 := by
            have := HA.out
            rw [List.take_length] at this
            rw [HR.out, if_pos this]
          go_wp2
          refine bodyPost_ret (results_tmp (by kernel_rfl : Try.f15.results = #[.tmp 4]) _ _ _) rfl ?_
          exact ⟨S, by rw [hc]; rfl, H2.out.trans (HB.out.mono H2.out.size), fun _ => HS.out⟩
end Go.Proofs.Ytaogileaeflnfaa
