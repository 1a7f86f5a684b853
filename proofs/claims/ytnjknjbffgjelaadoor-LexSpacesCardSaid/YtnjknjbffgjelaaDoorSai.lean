/-
  What is said of tokens, as a string (said); the same tokens, but for their lines (same) (written by tools/stage18/gen_sai.py).
-/
import Derived.Test.YtnjknjbffgjelaaDoorSpn
import Derived.Lib.AppendIntMem
import Derived.BigQuiet
import Derived.Deep.QuietTactic
set_option linter.unusedVariables false
set_option linter.unusedSimpArgs false
namespace Go.Proofs.YtnjknjbffgjelaaDoor
open Go.RowKit

theorem str_app (x y : List UInt8) : str x ++ str y = str (x ++ y) := by
  rw [← str_bl (str x ++ str y)]
  congr 1
theorem add_ok (x y : List UInt8) (h : x.length + y.length ≤ 100000000) : ¬ (9223372036854775807 < (str x).size + (str y).size) := by
  rw [str_size, str_size]; omega
theorem add_ok3 (x y z : List UInt8) (h : x.length + (y.length + z.length) ≤ 100000000) : ¬ (9223372036854775807 < (str x).size + ((str y).size + (str z).size)) := by
  rw [str_size, str_size, str_size]; omega
theorem say1_len (t : TD) (bt : List UInt8) (hb : bt.length ≤ 10) (hs : t.s.length ≤ 4000) (hn : t.n ≤ 65535) : (say1 t bt).length ≤ 4010 := by
  unfold say1
  split
  · have := dig_len 4 t.n (by omega)
    rw [List.length_append]; omega
  split
  · exact Nat.zero_le _
  · rw [List.length_append]; omega
theorem said_len : ∀ (D : List TD) (bt : List UInt8), bt.length ≤ 10 → (∀ t ∈ D, t.s.length ≤ 4000 ∧ t.n ≤ 65535) → (saidL D bt).length ≤ D.length * 4010
  | [], _, _, _ => Nat.zero_le _
  | t :: D, bt, hb, h => by
    have h1 := say1_len t bt hb (h t (List.mem_cons_self ..)).1 (h t (List.mem_cons_self ..)).2
    have h2 := said_len D bt hb (fun x hx => h x (List.mem_cons_of_mem _ hx))
    show ((t :: D).flatMap _).length ≤ _
    rw [List.flatMap_cons, List.length_append, List.length_cons]
    unfold saidL at h2
    omega
theorem itoa_str (n : Nat) : (⟨(Lib.itoa (n : Int)).toArray⟩ : ByteArray) = str (Lib.decDigits n) := by
  unfold str
  congr 2
set_option maxRecDepth 10000 in
set_option maxHeartbeats 8000000 in
theorem said_any (w : World) (D : List TD) (g n c : Nat) (hn : D.length = n) (bt : List UInt8) (hb : bt.length ≤ 10) (hG : Good D) (ht : TkAt w g D) (hT : Lib.TabIs Tryd.prog w "internal/strconv.uint64pow10" .u64 Lib.pow10Tab) :
    Calls Tryd.prog 9 #[.slice (some ⟨g, 0, none⟩) n c, .string (str bt)] w fun e w' => e = .returned (.string (str (saidL D bt))) ∧ Below w.heap.size w w' := by
  have hn4 : n ≤ 4001 := hn ▸ hG.len
  have zf := zero33
  have HT := hid (fun V (b : Below w.heap.size w V) => Lib.tabBelow_of_tabIs hT V b)
  have HE := hid hG.each
  have HL : Hid (∀ k, k ≤ n → (saidL (D.take k) bt).length ≤ 16044010) := hid (fun k hk => by
    have := said_len (D.take k) bt hb (fun t ht' => by
      obtain ⟨i, hi, rfl⟩ := List.getElem_of_mem (List.mem_of_mem_take ht')
      exact ⟨(HE.out i hi).1, (HE.out i hi).2.1⟩)
    rw [List.length_take] at this
    omega)
  replace ht := hid ht
  clear hG hT
  go_enter Tryd.func9, Tryd.ntmps9
  go_upto_region 3 with fail
  go_loopw [5, 10] (fun v5 v wr => ∃ (k : Nat) (S : List UInt8), k ≤ n ∧ v5 = .string (str S) ∧ v = .int .i64 (k : Int) ∧ Hid (S = saidL (D.take k) bt) ∧ Hid (Below w.heap.size w wr)) (fun _ v _ => n - (intOf v).toNat)
  case atStart => exact ⟨0, [], by omega, rfl, rfl, hid rfl, hid (Below.refl _ _)⟩
  case round =>
    obtain ⟨k, S, hk, rfl, rfl, HS, HB⟩ := hrel
    by_cases hlt : k < n
    · have hz : (k : Int) < (n : Int) := by omega
      have hkD : k < D.length := by omega
      obtain ⟨a0, a1, a2, a3⟩ := (ht.out.below HB.out).cells k hkD
      obtain ⟨s1, s2, s3, s4, s5⟩ := HE.out k hkD
      have hSl := HL.out k hk
      rw [← HS.out] at hSl
      have hnx := said_snoc D bt k hkD
      rw [← HS.out] at hnx
      have hfin : ∀ S2, say1 D[k] bt = S2 → Hid (S ++ S2 = saidL (D.take (k + 1)) bt) := fun S2 e => hid (by rw [hnx, e])
      have hW : Hid (∀ V, wr.alloc (.cells #[.int .u8 (D[k].k : Nat), .string (str D[k].s), .int .i64 (D[k].n : Nat), .int .i64 (D[k].line : Nat)] 33) = V → V.cell? ⟨wr.heap.size, 0, none⟩ = some (.int .u8 (D[k].k : Nat)) ∧ V.cell? ⟨wr.heap.size, 1, none⟩ = some (.string (str D[k].s)) ∧ V.cell? ⟨wr.heap.size, 2, none⟩ = some (.int .i64 (D[k].n : Nat)) ∧ Hid (Below w.heap.size w V)) := hid (by
        rintro V rfl
        have r := heap_alloc_new wr (.cells #[.int .u8 (D[k].k : Nat), .string (str D[k].s), .int .i64 (D[k].n : Nat), .int .i64 (D[k].line : Nat)] 33)
        exact ⟨row_cell r 0, row_cell r 1, row_cell r 2, hid (bel_trans HB.out (bel_a wr _))⟩)
      clear hnx HS
      unfold say1 at hfin
      generalize D[k].s = x1 at *
      generalize D[k].n = x2 at *
      generalize D[k].line = x3 at *
      generalize D[k].k = x0 at *
      go_upto_region 5 with fail
      obtain ⟨V, hV⟩ : ∃ V, wr.alloc (.cells #[.int .u8 (x0 : Nat), .string (str x1), .int .i64 (x2 : Nat), .int .i64 (x3 : Nat)] 33) = V := ⟨_, rfl⟩
      obtain ⟨q0, q1, q2, BV⟩ := hW.out V hV
      rw [hV]
      generalize wr.heap.size = gb at *
      clear hV hW HB a0 a1 a2 a3
      rcases (by omega : x0 = 2 ∨ x0 = 4 ∨ x0 = 1 ∨ x0 = 3) with rfl | rfl | rfl | rfl
      · have HI := hid (Itoa_any (x2 : Int) (by omega) (by omega) V (HT.out V BV.out))
        have hdl := dig_len 4 x2 (by omega)
        have F := hfin _ (if_pos rfl)
        have e1 := add_ok (Lib.decDigits x2) bt (by omega)
        have e2 := add_ok3 S (Lib.decDigits x2) bt (by omega)
        rw [itoa_str] at HI
        clear hfin
        generalize Lib.decDigits x2 = z at *
        go_wp2_with (go_at_call 16; refine HI.out.mono ?_; rintro e W2 ⟨rfl, kk, os, rfl⟩; have BW := hid (bel_trans BV.out (Lib.below_grow V.heap.size V (Nat.le_refl _) kk os)))
        go_roundw
        case rel => exact ⟨k + 1, _, by omega, by rw [str_app, str_app], by go_num, hid F.out, BW⟩
        case measure => simp [intOf]; omega
      · have F := hfin _ ((if_neg (by decide)).trans (if_pos rfl))
        rw [List.append_nil] at F
        clear hfin
        go_wp2_with fail
        go_roundw
        case rel => exact ⟨k + 1, S, by omega, rfl, by go_num, hid F.out, BV⟩
        case measure => simp [intOf]; omega
      · have F := hfin _ ((if_neg (by decide)).trans (if_neg (by decide)))
        have e1 := add_ok x1 bt (by omega)
        have e2 := add_ok3 S x1 bt (by omega)
        clear hfin
        go_wp2_with fail
        go_roundw
        case rel => exact ⟨k + 1, _, by omega, by rw [str_app, str_app], by go_num, hid F.out, BV⟩
        case measure => simp [intOf]; omega
      · have F := hfin _ ((if_neg (by decide)).trans (if_neg (by decide)))
        have e1 := add_ok x1 bt (by omega)
        have e2 := add_ok3 S x1 bt (by omega)
        clear hfin
        go_wp2_with fail
        go_roundw
        case rel => exact ⟨k + 1, _, by omega, by rw [str_app, str_app], by go_num, hid F.out, BV⟩
        case measure => simp [intOf]; omega
    · obtain rfl : k = n := by omega
      have e : S = saidL D bt := by rw [HS.out, List.take_of_length_le (by omega)]
      clear HS
      go_wp2_with fail
      go_ret
      exact ⟨by rw [← e]; rfl, HB.out⟩
end Go.Proofs.YtnjknjbffgjelaaDoor
