/-
  SameStmts, of two copies of one list.
-/
import Derived.Test.YtdachagkhjhggaaRgs
import Derived.Deep.RegionWith
import Derived.Deep.Cut
namespace Go.Proofs.Ytdachagkhjhggaa
open Go.RowKit
set_option linter.unusedVariables false
set_option linter.unusedSimpArgs false

theorem At13.alloc {w : World} {p : Addr} {x : Sd} {vb ve : Value} (h : At13 w p x vb ve) (o : Obj) : At13 (w.alloc o) p x vb ve := by
  have k : ∀ {a : Addr} {v : Value}, w.cell? a = some v → (w.alloc o).cell? a = some v := fun hc => (World.cell?_alloc_lt _ _ _ (lt_cell hc)).trans hc
  exact ⟨k h.c0, k h.c1, k h.c2, k h.c3, k h.c4, k h.c5, k h.c6, k h.c7, k h.c8, k h.c9, k h.c10, k h.c11, k h.c12⟩
set_option maxRecDepth 10000 in
set_option maxHeartbeats 8000000 in
theorem same_any (m : Nat) : ∀ (t : Tr), t.sz < m → ∀ (A A' : Option Addr) (n c c' : Nat) (w : World), Sl w w.heap.size t A n c → Sl w w.heap.size t A' n c' →
    Calls Try.prog 14 #[.slice A n c, .slice A' n c', .bool true] w fun e w' => e = .returned (.bool true) ∧ Below w.heap.size w w' := by
  induction m with
  | zero => intro t ht; omega
  | succ m ih =>
    intro t ht A A' n c c' w hS hS'
    have hsml := hS.sml
    have HB := hid (And.intro hS.rest hS'.rest)
    have HSL := hid ht
    have IH := hid (fun t h => ih t h)
    clear hS hS' ih
    go_enter Try.func14, Try.ntmps14
    go_wp2_with fail
    go_loopw [7] (fun v7 wr => ∃ (i : Nat) (t' : Tr), v7 = .int .i64 (i : Nat) ∧ Hid (t'.sz ≤ t.sz) ∧ Hid (Rest w w.heap.size t' A i n) ∧ Hid (Rest w w.heap.size t' A' i n) ∧ Hid (Below w.heap.size w wr)) (fun v7 _ => n - (intOf v7).toNat)
    case atStart => exact ⟨0, t, rfl, hid (Nat.le_refl _), hid HB.out.1, hid HB.out.2, hid (Below.refl _ _)⟩
    case round =>
      obtain ⟨i, t', rfl, HL, HR, HR', HW⟩ := hrel
      have hi := HR.out.le
      by_cases hlt : i < n
      · have hltz : (i : Int) < (n : Int) := by omega
        obtain ⟨x, b, e, q, ad, Ab, nb, cb, Ae, ne, ce, rfl, rfl, hab, hat, hb, he, hq⟩ := HR.out.at hlt
        obtain ⟨x', b', e', q', ad', Ab', nb', cb', Ae', ne', ce', et, rfl, hab', hat', hb', he', hq'⟩ := HR'.out.at hlt
        injection et with e1 e2 e3 e4
        subst e1 e2 e3 e4
        have enb : nb' = nb := by rw [← hb.len, ← hb'.len]
        have ene : ne' = ne := by rw [← he.len, ← he'.len]
        subst enb ene
        have HQ := hid hq
        have HQ' := hid hq'
        have hz : b.sz < m ∧ e.sz < m ∧ q.sz ≤ t.sz := by
          have h1 := HL.out
          have h2 := HSL.out
          simp only [Tr.sz] at h1
          omega
        have HZ := hid hz
        have C1 := hid (fun W (h : Below w.heap.size w W) => IH.out b hz.1 Ab Ab' nb' cb cb' W ((hb.below h).up h.size) ((hb'.below h).up h.size))
        have C2 := hid (fun W (h : Below w.heap.size w W) => IH.out e hz.2.1 Ae Ae' ne' ce ce' W ((he.below h).up h.size) ((he'.below h).up h.size))
        have hatw := hat.to (w' := wr) (fun a ha => HW.out.cell (by rw [ha, block_of_add]; exact hab))
        have hatw' := hat'.to (w' := wr) (fun a ha => HW.out.cell (by rw [ha, block_of_add]; exact hab'))
        have ca0 := fun o => (hatw.alloc o).c0
        have ca1 := fun o => (hatw.alloc o).c1
        have ca2 := fun o => (hatw.alloc o).c2
        have ca3 := fun o => (hatw.alloc o).c3
        have ca4 := fun o => (hatw.alloc o).c4
        have ca5 := fun o => (hatw.alloc o).c5
        have ca6 := fun o => (hatw.alloc o).c6
        have ca7 := fun o => (hatw.alloc o).c7
        have ca8 := fun o => (hatw.alloc o).c8
        have ca9 := fun o => (hatw.alloc o).c9
        have ca10 := fun o => (hatw.alloc o).c10
        have ca11 := fun o => (hatw.alloc o).c11
        have ca12 := fun o => (hatw.alloc o).c12
        have da0 := fun o => (hatw'.alloc o).c0
        have da1 := fun o => (hatw'.alloc o).c1
        have da2 := fun o => (hatw'.alloc o).c2
        have da3 := fun o => (hatw'.alloc o).c3
        have da4 := fun o => (hatw'.alloc o).c4
        have da5 := fun o => (hatw'.alloc o).c5
        have da6 := fun o => (hatw'.alloc o).c6
        have da7 := fun o => (hatw'.alloc o).c7
        have da8 := fun o => (hatw'.alloc o).c8
        have da9 := fun o => (hatw'.alloc o).c9
        have da10 := fun o => (hatw'.alloc o).c10
        have da11 := fun o => (hatw'.alloc o).c11
        have da12 := fun o => (hatw'.alloc o).c12
        have cb0 := fun o o' => ((hatw.alloc o).alloc o').c0
        have cb1 := fun o o' => ((hatw.alloc o).alloc o').c1
        have cb2 := fun o o' => ((hatw.alloc o).alloc o').c2
        have cb3 := fun o o' => ((hatw.alloc o).alloc o').c3
        have cb4 := fun o o' => ((hatw.alloc o).alloc o').c4
        have cb5 := fun o o' => ((hatw.alloc o).alloc o').c5
        have cb6 := fun o o' => ((hatw.alloc o).alloc o').c6
        have cb7 := fun o o' => ((hatw.alloc o).alloc o').c7
        have cb8 := fun o o' => ((hatw.alloc o).alloc o').c8
        have cb9 := fun o o' => ((hatw.alloc o).alloc o').c9
        have cb10 := fun o o' => ((hatw.alloc o).alloc o').c10
        have cb11 := fun o o' => ((hatw.alloc o).alloc o').c11
        have cb12 := fun o o' => ((hatw.alloc o).alloc o').c12
        have db0 := fun o o' => ((hatw'.alloc o).alloc o').c0
        have db1 := fun o o' => ((hatw'.alloc o).alloc o').c1
        have db2 := fun o o' => ((hatw'.alloc o).alloc o').c2
        have db3 := fun o o' => ((hatw'.alloc o).alloc o').c3
        have db4 := fun o o' => ((hatw'.alloc o).alloc o').c4
        have db5 := fun o o' => ((hatw'.alloc o).alloc o').c5
        have db6 := fun o o' => ((hatw'.alloc o).alloc o').c6
        have db7 := fun o o' => ((hatw'.alloc o).alloc o').c7
        have db8 := fun o o' => ((hatw'.alloc o).alloc o').c8
        have db9 := fun o o' => ((hatw'.alloc o).alloc o').c9
        have db10 := fun o o' => ((hatw'.alloc o).alloc o').c10
        have db11 := fun o o' => ((hatw'.alloc o).alloc o').c11
        have db12 := fun o o' => ((hatw'.alloc o).alloc o').c12
        obtain ⟨c0, c1, c2, c3, c4, c5, c6, c7, c8, c9, c10, c11, c12⟩ := hatw
        obtain ⟨d0, d1, d2, d3, d4, d5, d6, d7, d8, d9, d10, d11, d12⟩ := hatw'
        obtain ⟨k, o, d, s, n1, nt, co, cd, cs, cn, ln⟩ := x
        dsimp only at *
        clear hb he hb' he' hq hq' hat hat' hz HR HR' HL
        go_upto_region 6 with fail
        go_region
        all_goals clear c0 c1 c2 c3 c4 c5 c6 c7 c8 c9 c10 c11 c12 ca0 ca1 ca2 ca3 ca4 ca5 ca6 ca7 ca8 ca9 ca10 ca11 ca12 cb0 cb1 cb2 cb3 cb4 cb5 cb6 cb7 cb8 cb9 cb10 cb11 cb12 d0 d1 d2 d3 d4 d5 d6 d7 d8 d9 d10 d11 d12 da0 da1 da2 da3 da4 da5 da6 da7 da8 da9 da10 da11 da12 db0 db1 db2 db3 db4 db5 db6 db7 db8 db9 db10 db11 db12
        · have hr1 : ((wr.alloc (.cells #[.int .u8 k, .int .u8 o, .int .i64 d, .int .i64 s, .int .i64 n1, .bool nt, .int .u8 co, .int .i64 cd, .int .i64 cs, .int .i64 cn, .slice Ab nb' cb, .slice Ae ne' ce, .int .i64 ln] 42)).alloc (.cells #[.int .u8 k, .int .u8 o, .int .i64 d, .int .i64 s, .int .i64 n1, .bool nt, .int .u8 co, .int .i64 cd, .int .i64 cs, .int .i64 cn, .slice Ab' nb' cb', .slice Ae' ne' ce', .int .i64 ln] 42)).heap[wr.heap.size]? = some (.cells #[.int .u8 k, .int .u8 o, .int .i64 d, .int .i64 s, .int .i64 n1, .bool nt, .int .u8 co, .int .i64 cd, .int .i64 cs, .int .i64 cn, .slice Ab nb' cb, .slice Ae ne' ce, .int .i64 ln] 42 (0, 0)) := (Below.heap_alloc _ _ _ (by simp)).trans (heap_alloc_new wr _)
          have hr2 : ((wr.alloc (.cells #[.int .u8 k, .int .u8 o, .int .i64 d, .int .i64 s, .int .i64 n1, .bool nt, .int .u8 co, .int .i64 cd, .int .i64 cs, .int .i64 cn, .slice Ab nb' cb, .slice Ae ne' ce, .int .i64 ln] 42)).alloc (.cells #[.int .u8 k, .int .u8 o, .int .i64 d, .int .i64 s, .int .i64 n1, .bool nt, .int .u8 co, .int .i64 cd, .int .i64 cs, .int .i64 cn, .slice Ab' nb' cb', .slice Ae' ne' ce', .int .i64 ln] 42)).heap[wr.heap.size + 1]? = some (.cells #[.int .u8 k, .int .u8 o, .int .i64 d, .int .i64 s, .int .i64 n1, .bool nt, .int .u8 co, .int .i64 cd, .int .i64 cs, .int .i64 cn, .slice Ab' nb' cb', .slice Ae' ne' ce', .int .i64 ln] 42 (0, 0)) := heap_alloc2_new wr _ _
          have HV : Hid (B13 (((wr.alloc (.cells #[.int .u8 k, .int .u8 o, .int .i64 d, .int .i64 s, .int .i64 n1, .bool nt, .int .u8 co, .int .i64 cd, .int .i64 cs, .int .i64 cn, .slice Ab nb' cb, .slice Ae ne' ce, .int .i64 ln] 42)).alloc (.cells #[.int .u8 k, .int .u8 o, .int .i64 d, .int .i64 s, .int .i64 n1, .bool nt, .int .u8 co, .int .i64 cd, .int .i64 cs, .int .i64 cn, .slice Ab' nb' cb', .slice Ae' ne' ce', .int .i64 ln] 42)).drew) wr.heap.size ⟨k, o, d, s, n1, nt, co, cd, cs, cn, ln⟩ (.slice Ab nb' cb) (.slice Ae ne' ce) ∧ B13 (((wr.alloc (.cells #[.int .u8 k, .int .u8 o, .int .i64 d, .int .i64 s, .int .i64 n1, .bool nt, .int .u8 co, .int .i64 cd, .int .i64 cs, .int .i64 cn, .slice Ab nb' cb, .slice Ae ne' ce, .int .i64 ln] 42)).alloc (.cells #[.int .u8 k, .int .u8 o, .int .i64 d, .int .i64 s, .int .i64 n1, .bool nt, .int .u8 co, .int .i64 cd, .int .i64 cs, .int .i64 cn, .slice Ab' nb' cb', .slice Ae' ne' ce', .int .i64 ln] 42)).drew) (wr.heap.size + 1) ⟨k, o, d, s, n1, nt, co, cd, cs, cn, ln⟩ (.slice Ab' nb' cb') (.slice Ae' ne' ce')) := ⟨b13_row hr1, b13_row hr2⟩
          have HBV : Hid (Below w.heap.size w (((wr.alloc (.cells #[.int .u8 k, .int .u8 o, .int .i64 d, .int .i64 s, .int .i64 n1, .bool nt, .int .u8 co, .int .i64 cd, .int .i64 cs, .int .i64 cn, .slice Ab nb' cb, .slice Ae ne' ce, .int .i64 ln] 42)).alloc (.cells #[.int .u8 k, .int .u8 o, .int .i64 d, .int .i64 s, .int .i64 n1, .bool nt, .int .u8 co, .int .i64 cd, .int .i64 cs, .int .i64 cn, .slice Ab' nb' cb', .slice Ae' ne' ce', .int .i64 ln] 42)).drew)) := ((HW.out.alloc HW.out.size _).alloc (by have := HW.out.size; simp; omega) _).drew
          generalize (World.alloc _ _).drew = V at *
          obtain ⟨⟨y0, y1, y2, y3, y4, y5, y6, y7, y8, y9, y10, y11, y12⟩, ⟨z0, z1, z2, z3, z4, z5, z6, z7, z8, z9, z10, z11, z12⟩⟩ := HV.out
          have K := hid (fun (w' : World) (h : Below V.heap.size V w') => And.intro (keeps h y11) (keeps h z11))
          dsimp only at *
          go_wp2_with (go_at_call 14; first
            | ((with_reducible refine (C1.out _ HBV.out).mono ?_); rintro r1 W1 ⟨rfl, b1⟩; have HB1 := hid (HBV.out.trans (b1.mono HBV.out.size)); obtain ⟨q11, q12⟩ := K.out _ b1; clear b1)
            | ((with_reducible refine (C2.out _ HB1.out).mono ?_); rintro r2 W2 ⟨rfl, b2⟩; have HB2 := hid (HB1.out.trans (b2.mono HB1.out.size)); clear b2))
          go_roundw
          case rel => exact ⟨i + 1, q, by go_num, hid HZ.out.2.2, HQ, HQ', HB2⟩
          case measure => simp [intOf]; omega
        · have hr1 : ((wr.alloc (.cells #[.int .u8 k, .int .u8 o, .int .i64 d, .int .i64 s, .int .i64 n1, .bool nt, .int .u8 co, .int .i64 cd, .int .i64 cs, .int .i64 cn, .slice Ab' nb' cb', .slice Ae' ne' ce', .int .i64 ln] 42)).alloc (.cells #[.int .u8 k, .int .u8 o, .int .i64 d, .int .i64 s, .int .i64 n1, .bool nt, .int .u8 co, .int .i64 cd, .int .i64 cs, .int .i64 cn, .slice Ab nb' cb, .slice Ae ne' ce, .int .i64 ln] 42)).heap[wr.heap.size]? = some (.cells #[.int .u8 k, .int .u8 o, .int .i64 d, .int .i64 s, .int .i64 n1, .bool nt, .int .u8 co, .int .i64 cd, .int .i64 cs, .int .i64 cn, .slice Ab' nb' cb', .slice Ae' ne' ce', .int .i64 ln] 42 (0, 0)) := (Below.heap_alloc _ _ _ (by simp)).trans (heap_alloc_new wr _)
          have hr2 : ((wr.alloc (.cells #[.int .u8 k, .int .u8 o, .int .i64 d, .int .i64 s, .int .i64 n1, .bool nt, .int .u8 co, .int .i64 cd, .int .i64 cs, .int .i64 cn, .slice Ab' nb' cb', .slice Ae' ne' ce', .int .i64 ln] 42)).alloc (.cells #[.int .u8 k, .int .u8 o, .int .i64 d, .int .i64 s, .int .i64 n1, .bool nt, .int .u8 co, .int .i64 cd, .int .i64 cs, .int .i64 cn, .slice Ab nb' cb, .slice Ae ne' ce, .int .i64 ln] 42)).heap[wr.heap.size + 1]? = some (.cells #[.int .u8 k, .int .u8 o, .int .i64 d, .int .i64 s, .int .i64 n1, .bool nt, .int .u8 co, .int .i64 cd, .int .i64 cs, .int .i64 cn, .slice Ab nb' cb, .slice Ae ne' ce, .int .i64 ln] 42 (0, 0)) := heap_alloc2_new wr _ _
          have HV : Hid (B13 (((wr.alloc (.cells #[.int .u8 k, .int .u8 o, .int .i64 d, .int .i64 s, .int .i64 n1, .bool nt, .int .u8 co, .int .i64 cd, .int .i64 cs, .int .i64 cn, .slice Ab' nb' cb', .slice Ae' ne' ce', .int .i64 ln] 42)).alloc (.cells #[.int .u8 k, .int .u8 o, .int .i64 d, .int .i64 s, .int .i64 n1, .bool nt, .int .u8 co, .int .i64 cd, .int .i64 cs, .int .i64 cn, .slice Ab nb' cb, .slice Ae ne' ce, .int .i64 ln] 42)).drew) (wr.heap.size + 1) ⟨k, o, d, s, n1, nt, co, cd, cs, cn, ln⟩ (.slice Ab nb' cb) (.slice Ae ne' ce) ∧ B13 (((wr.alloc (.cells #[.int .u8 k, .int .u8 o, .int .i64 d, .int .i64 s, .int .i64 n1, .bool nt, .int .u8 co, .int .i64 cd, .int .i64 cs, .int .i64 cn, .slice Ab' nb' cb', .slice Ae' ne' ce', .int .i64 ln] 42)).alloc (.cells #[.int .u8 k, .int .u8 o, .int .i64 d, .int .i64 s, .int .i64 n1, .bool nt, .int .u8 co, .int .i64 cd, .int .i64 cs, .int .i64 cn, .slice Ab nb' cb, .slice Ae ne' ce, .int .i64 ln] 42)).drew) wr.heap.size ⟨k, o, d, s, n1, nt, co, cd, cs, cn, ln⟩ (.slice Ab' nb' cb') (.slice Ae' ne' ce')) := ⟨b13_row hr2, b13_row hr1⟩
          have HBV : Hid (Below w.heap.size w (((wr.alloc (.cells #[.int .u8 k, .int .u8 o, .int .i64 d, .int .i64 s, .int .i64 n1, .bool nt, .int .u8 co, .int .i64 cd, .int .i64 cs, .int .i64 cn, .slice Ab' nb' cb', .slice Ae' ne' ce', .int .i64 ln] 42)).alloc (.cells #[.int .u8 k, .int .u8 o, .int .i64 d, .int .i64 s, .int .i64 n1, .bool nt, .int .u8 co, .int .i64 cd, .int .i64 cs, .int .i64 cn, .slice Ab nb' cb, .slice Ae ne' ce, .int .i64 ln] 42)).drew)) := ((HW.out.alloc HW.out.size _).alloc (by have := HW.out.size; simp; omega) _).drew
          generalize (World.alloc _ _).drew = V at *
          obtain ⟨⟨y0, y1, y2, y3, y4, y5, y6, y7, y8, y9, y10, y11, y12⟩, ⟨z0, z1, z2, z3, z4, z5, z6, z7, z8, z9, z10, z11, z12⟩⟩ := HV.out
          have K := hid (fun (w' : World) (h : Below V.heap.size V w') => And.intro (keeps h y11) (keeps h z11))
          dsimp only at *
          go_wp2_with (go_at_call 14; first
            | ((with_reducible refine (C1.out _ HBV.out).mono ?_); rintro r1 W1 ⟨rfl, b1⟩; have HB1 := hid (HBV.out.trans (b1.mono HBV.out.size)); obtain ⟨q11, q12⟩ := K.out _ b1; clear b1)
            | ((with_reducible refine (C2.out _ HB1.out).mono ?_); rintro r2 W2 ⟨rfl, b2⟩; have HB2 := hid (HB1.out.trans (b2.mono HB1.out.size)); clear b2))
          go_roundw
          case rel => exact ⟨i + 1, q, by go_num, hid HZ.out.2.2, HQ, HQ', HB2⟩
          case measure => simp [intOf]; omega
      · obtain rfl : i = n := by omega
        go_wp2_with fail
        go_ret
        exact ⟨rfl, HW.out⟩
end Go.Proofs.Ytdachagkhjhggaa
