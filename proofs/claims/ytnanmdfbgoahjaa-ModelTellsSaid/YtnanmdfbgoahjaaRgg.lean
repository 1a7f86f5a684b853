/-
  The document's Get: its walk.
-/
import Derived.Test.YtnanmdfbgoahjaaRgz
import Derived.Deep.CutRange
import Derived.Deep.DeepCutAuto
import Derived.Deep.CutBlock
import Derived.BigRegion
import Derived.BigQuiet
set_option linter.unusedVariables false
set_option linter.unusedSimpArgs false
namespace Go.Proofs.Ytnanmdfbgoahjaa
open Go.RowKit

set_option maxRecDepth 10000 in
set_option maxHeartbeats 100000000 in
theorem RGet_any (A : Option Addr) (n c : Nat) (l : List UInt8) (w : World) (h : IsBB w w.heap.size A n c l) (hn : n ≤ 20000) :
    Calls Try.prog 11 #[.slice A n c] w fun e w' => RGetPost w w' l e := by
  have hlen := h.len
  have hcap := h.cap
  by_cases h5 : n < 5
  · have h5z : (n : Int) < 5 := by omega
    as_aux_lemma =>
      have herr := get_err l 12 (by decide) (g8_of5 (by decide) (g5_short l (by omega)))
      clear h hlen hcap hn
      go_enter Try.func11, Try.ntmps11
      go_wp2_with fail
      refine bodyPost_ret (results_md (by kernel_rfl : Try.f11.results = #[.cell 2 25, .tmp 3, .tmp 4]) _ _ w.heap.size _ _ _ rfl (alloc_at _ _ _) rfl) rfl ?_
      exact .inl ⟨12, by decide, herr, rfl, (Below.refl _ _).alloc (Nat.le_refl _) _⟩
  · obtain ⟨q5, qn, v0, v1, v2, v3⟩ := g5_five l (by omega)
    obtain ⟨ad, rfl, hc⟩ := h.lies (by omega)
    have b0 := hc 0 (by omega)
    have b1 := hc 1 (by omega)
    have b2 := hc 2 (by omega)
    have b3 := hc 3 (by omega)
    have b4 := hc 4 (by omega)
    have h5z : ¬ (n : Int) < 5 := by omega
    have n0 : (0 : Int) < (n : Int) := by omega
    have n1 : (1 : Int) < (n : Int) := by omega
    have n2 : (2 : Int) < (n : Int) := by omega
    have n3 : (3 : Int) < (n : Int) := by omega
    have n4 : (4 : Int) < (n : Int) := by omega
    have bx0 := l[0].toNat_lt
    have bx1 := l[1].toNat_lt
    have bx2 := l[2].toNat_lt
    have bx3 := l[3].toNat_lt
    have bx4 := l[4].toNat_lt
    generalize l[0].toNat = x0 at b0 v0 bx0
    generalize l[1].toNat = x1 at b1 v1 bx1
    generalize l[2].toNat = x2 at b2 v2 bx2
    generalize l[3].toNat = x3 at b3 v3 bx3
    obtain ⟨x4, hx4⟩ : ∃ x, l[4].toNat = x := ⟨_, rfl⟩
    rw [hx4] at b4 qn bx4
    have h4l : 4 < l.length := Nat.lt_of_lt_of_le (by decide : 4 < 5) (hlen ▸ Nat.le_of_not_lt h5)
    have HX4 : Hid ((l[4]'h4l).toNat = x4) := hx4
    clear hx4
    have HBB := hid h
    have ea0 : ad.add 0 = ad := by simp [Addr.add]
    rw [ea0] at b0
    have r1 : w.cell? ⟨ad.block, ad.off + 1, none⟩ = some (.int .u8 (x1 : Nat)) := by simpa [Addr.add] using b1
    have r2 : w.cell? ⟨ad.block, ad.off + 2, none⟩ = some (.int .u8 (x2 : Nat)) := by simpa [Addr.add] using b2
    have r3 : w.cell? ⟨ad.block, ad.off + 3, none⟩ = some (.int .u8 (x3 : Nat)) := by simpa [Addr.add] using b3
    have c0' : ∀ o, (w.alloc o).cell? ad = some (.int .u8 (x0 : Nat)) := fun o => (World.cell?_of_block (heap_alloc_old w o (lt_of_cell b0))).trans b0
    have d0' : ∀ o o', ((w.alloc o).alloc o').cell? ad = some (.int .u8 (x0 : Nat)) := fun o o' => (World.cell?_of_block (heap_alloc_old (w.alloc o) o' (lt_of_cell (c0' o)))).trans (c0' o)
    have c1' : ∀ o, (w.alloc o).cell? ⟨ad.block, ad.off + 1, none⟩ = some (.int .u8 (x1 : Nat)) := fun o => (World.cell?_of_block (heap_alloc_old w o (lt_of_cell r1))).trans r1
    have d1' : ∀ o o', ((w.alloc o).alloc o').cell? ⟨ad.block, ad.off + 1, none⟩ = some (.int .u8 (x1 : Nat)) := fun o o' => (World.cell?_of_block (heap_alloc_old (w.alloc o) o' (lt_of_cell (c1' o)))).trans (c1' o)
    have c2' : ∀ o, (w.alloc o).cell? ⟨ad.block, ad.off + 2, none⟩ = some (.int .u8 (x2 : Nat)) := fun o => (World.cell?_of_block (heap_alloc_old w o (lt_of_cell r2))).trans r2
    have d2' : ∀ o o', ((w.alloc o).alloc o').cell? ⟨ad.block, ad.off + 2, none⟩ = some (.int .u8 (x2 : Nat)) := fun o o' => (World.cell?_of_block (heap_alloc_old (w.alloc o) o' (lt_of_cell (c2' o)))).trans (c2' o)
    have c3' : ∀ o, (w.alloc o).cell? ⟨ad.block, ad.off + 3, none⟩ = some (.int .u8 (x3 : Nat)) := fun o => (World.cell?_of_block (heap_alloc_old w o (lt_of_cell r3))).trans r3
    have d3' : ∀ o o', ((w.alloc o).alloc o').cell? ⟨ad.block, ad.off + 3, none⟩ = some (.int .u8 (x3 : Nat)) := fun o o' => (World.cell?_of_block (heap_alloc_old (w.alloc o) o' (lt_of_cell (c3' o)))).trans (c3' o)
    clear hc b0 b1 b2 b3 b4 h r1 r2 r3 ea0
    go_enter Try.func11, Try.ntmps11
    go_wp2_with fail
    go_region
    go_upto_block 0 with fail
    have HS : Hid (RgS w (((w.alloc (.cells #[.int .i64 0, .int .i64 0, .int .i64 0, .int .i64 0, .slice none 0 0, .slice none 0 0, .slice none 0 0] 25)).alloc (.cells #[.int .i64 (x0 : Nat), .int .i64 (x1 : Nat), .int .i64 (x2 : Nat), .int .i64 (x3 : Nat), .slice none 0 0, .slice none 0 0, .slice none 0 0] 25)).drew) w.heap.size (w.heap.size + 1) ad n c l #[.int .i64 (x0 : Nat), .int .i64 (x1 : Nat), .int .i64 (x2 : Nat), .int .i64 (x3 : Nat), .slice none 0 0, .slice none 0 0, .slice none 0 0] (.slice none 0 0) []) :=
      rgS_start HBB.out
    have HL : Hid (RgL l x4 0 ⟨5, 0⟩ []) := ⟨rfl, by have := hlen; simp only; omega, rfl, Nat.zero_le _, by rw [q5, Nat.sub_zero, List.nil_append]⟩
    generalize (((w.alloc (.cells #[.int .i64 0, .int .i64 0, .int .i64 0, .int .i64 0, .slice none 0 0, .slice none 0 0, .slice none 0 0] 25)).alloc (.cells #[.int .i64 (x0 : Nat), .int .i64 (x1 : Nat), .int .i64 (x2 : Nat), .int .i64 (x3 : Nat), .slice none 0 0, .slice none 0 0, .slice none 0 0] 25)).drew) = W1 at *
    clear c0' d0' c1' d1' c2' d2' c3' d3' HBB n0 n1 n2 n3 bx0 bx1 bx2 bx3
    obtain ⟨xr, hxr⟩ : ∃ r, w.heap.size = r := ⟨_, rfl⟩
    obtain ⟨xm, hxm⟩ : ∃ r, w.heap.size + 1 = r := ⟨_, rfl⟩
    have hnl : l.length = n := hlen
    have HQ : Hid (gn l = x4) := qn
    rw [hxm, hxr] at HS ⊢
    clear hxr hxm hnl qn
    go_cut [6] from 38 to 136 (fun va wx => ∃ (s : St) (F : Value) (Ld : List Pt), va = .int .i64 (s.at_ : Nat) ∧ Hid (RgL l x4 x4 s Ld) ∧ Hid (RgS w wx xr xm ad n c l #[.int .i64 (x0 : Nat), .int .i64 (x1 : Nat), .int .i64 (x2 : Nat), .int .i64 (x3 : Nat), F, .slice none 0 0, .slice none 0 0] F Ld))
    case first => as_aux_lemma =>
      go_wp2_with fail
      go_loopw [6, 7] (fun va vi wr => ∃ (i : Nat) (s : St) (F : Value) (Ld : List Pt), i ≤ x4 ∧ va = .int .i64 (s.at_ : Nat) ∧ vi = .int .i64 (i : Nat) ∧ Hid (RgL l x4 i s Ld) ∧ Hid (RgS w wr xr xm ad n c l #[.int .i64 (x0 : Nat), .int .i64 (x1 : Nat), .int .i64 (x2 : Nat), .int .i64 (x3 : Nat), F, .slice none 0 0, .slice none 0 0] F Ld)) (fun _ vi _ => x4 - (intOf vi).toNat)
      case atStart => exact ⟨0, ⟨5, 0⟩, _, [], Nat.zero_le _, rfl, rfl, HL, HS⟩
      case round => as_aux_lemma =>
        obtain ⟨i, s, F, Ld, hi, rfl, rfl, hl, hs⟩ := hrel
        clear HL HS
        have b4 : wr.cell? ⟨ad.block, ad.off + 4, none⟩ = some (.int .u8 (x4 : Nat)) := by
          have := hs.out.four h4l
          rwa [HX4.out] at this
        by_cases hgo : i < x4
        · have hz : (i : Int) < (x4 : Int) := by omega
          obtain ⟨at_, hat⟩ : ∃ a, s.at_ = a := ⟨_, rfl⟩
          rw [hat]
          by_cases hin : at_ < n
          · have hy : ¬ (at_ : Int) ≥ (n : Int) := by omega
            have hy2 : (at_ : Int) < (n : Int) := by omega
            have hyl : at_ < l.length := by omega
            have c1 := hs.out.byte at_ hyl
            obtain ⟨kd, hkd⟩ : ∃ x, l[at_].toNat = x := ⟨_, rfl⟩
            have hk256 := l[at_].toNat_lt
            rw [hkd] at c1 hk256
            have HH := hid (fun w => Has_any kd (by omega) w)
            have HST := hid (fun (W2 : World) (b : Below (wr.heap.size + 1) (wr.alloc (.cells #[.int .u8 (kd : Nat), .int .i64 0, .int .i64 0, .int .i64 0, .int .i64 0, .int .i64 0, .int .i64 0] 41)) W2) => rgK_start (kd := kd) (vals := vrow l kd ⟨at_ + 1, 0⟩ 0 0) hs.out b)
            have HSE := hid (fun (W2 : World) (b : Below (wr.heap.size + 1) (wr.alloc (.cells #[.int .u8 (kd : Nat), .int .i64 0, .int .i64 0, .int .i64 0, .int .i64 0, .int .i64 0, .int .i64 0] 41)) W2) (o : Obj) => rgS_start1 hs.out b o)
            have e1 : ∀ o, (wr.alloc o).heap.size = wr.heap.size + 1 := fun o => by simp
            by_cases hk : 1 ≤ kd ∧ kd ≤ 9
            · rw [show decide (1 ≤ kd ∧ kd ≤ 9) = true from decide_eq_true hk] at HH
              unfold hasV at HH
              have HPR : Hid (prtF l s = sF l kd 6 ⟨at_ + 1, 0⟩ ∧ (prtS l s).2 = ptOf (kd, six l kd ⟨at_ + 1, 0⟩)) := by
                subst hat hkd
                exact prtF_ok hl.out.e0 hyl hk
              clear HSE hk256 hkd hat v0 v1 v2 v3 hy hcap
              as_aux_lemma =>
                go_upto_block 2 with (go_at_call 20; refine (HH.out _).mono ?_; rintro r W2 ⟨rfl, bb⟩; rw [e1] at bb; have HB2 := hid (HST.out W2 bb); clear bb)
                have HV : Hid (RgK w ((W2.alloc (.cells #[.bool (hasK kd 0), .bool (hasK kd 1), .bool (hasK kd 2), .bool (hasK kd 3), .bool (hasK kd 4), .bool (hasK kd 5)] 52)).alloc (.cells #[.int .i64 0, .int .i64 0, .int .i64 0, .int .i64 0, .int .i64 0, .int .i64 0] 61)) xr xm ad n c l #[.int .i64 (x0 : Nat), .int .i64 (x1 : Nat), .int .i64 (x2 : Nat), .int .i64 (x3 : Nat), F, .slice none 0 0, .slice none 0 0] F Ld wr.heap.size W2.heap.size (W2.heap.size + 1) kd #[.int .u8 (kd : Nat), .int .i64 0, .int .i64 0, .int .i64 0, .int .i64 0, .int .i64 0, .int .i64 0] (vrow l kd ⟨at_ + 1, 0⟩ 0 0)) := HB2.out
                clear HB2 HST HH c1 hs b4 e1
                generalize (W2.alloc (.cells #[.bool (hasK kd 0), .bool (hasK kd 1), .bool (hasK kd 2), .bool (hasK kd 3), .bool (hasK kd 4), .bool (hasK kd 5)] 52)).alloc (.cells #[.int .i64 0, .int .i64 0, .int .i64 0, .int .i64 0, .int .i64 0, .int .i64 0] 61) = W3 at *
                generalize wr.heap.size = xp at *
                generalize W2.heap.size + 1 = xv at *
                generalize W2.heap.size = xh at *
                clear W2
                have es : ((⟨at_ + 1, 0⟩ : St).at_ : Int) = (at_ : Int) + 1 := by simp
                obtain ⟨s1, hs1⟩ : ∃ s1 : St, s1 = ⟨at_ + 1, 0⟩ := ⟨_, rfl⟩
                have hz1 : s1.e = 0 := by rw [hs1]
                have hb1 : s1.at_ ≤ n := by rw [hs1]; exact hin
                rw [← hs1] at HV HPR es
                clear hs1
                have HPC := hid HV
                go_cut [6] from 67 to 109 (fun va wx => ∃ s6 : St, va = .int .i64 (s6.at_ : Nat) ∧ Hid (sF l kd 6 s1 = s6 ∧ s6.e = 0) ∧ Hid (RgK w wx xr xm ad n c l #[.int .i64 (x0 : Nat), .int .i64 (x1 : Nat), .int .i64 (x2 : Nat), .int .i64 (x3 : Nat), F, .slice none 0 0, .slice none 0 0] F Ld xp xh xv kd #[.int .u8 (kd : Nat), .int .i64 0, .int .i64 0, .int .i64 0, .int .i64 0, .int .i64 0, .int .i64 0] (vrow l kd s1 6 0)))
                case first => as_aux_lemma =>
                  go_wp2_with fail
                  go_loopw [6, 12] (fun va vk wx => ∃ (k : Nat) (sk : St), k ≤ 6 ∧ va = .int .i64 (sk.at_ : Nat) ∧ vk = .int .i64 (k : Nat) ∧ Hid (sF l kd k s1 = sk ∧ sk.e = 0) ∧ Hid (RgK w wx xr xm ad n c l #[.int .i64 (x0 : Nat), .int .i64 (x1 : Nat), .int .i64 (x2 : Nat), .int .i64 (x3 : Nat), F, .slice none 0 0, .slice none 0 0] F Ld xp xh xv kd #[.int .u8 (kd : Nat), .int .i64 0, .int .i64 0, .int .i64 0, .int .i64 0, .int .i64 0, .int .i64 0] (vrow l kd s1 k 0))) (fun _ vk _ => 6 - (intOf vk).toNat)
                  case atStart => exact ⟨0, s1, by decide, by rw [es], rfl, hid ⟨rfl, hz1⟩, HV⟩
                  case round => as_aux_lemma =>
                    obtain ⟨k, sk, hk6, rfl, rfl, hsk, hv⟩ := hrel
                    clear HV
                    by_cases hkz : k < 6
                    · have hkz2 : (k : Int) < 6 := by omega
                      have hk2 : 1 ≤ kn k ∧ kn k ≤ 2 := by unfold kn; split <;> omega
                      go_upto_region 20 with fail
                      go_cut [13, 76] from 71 to 76 (fun v13 v76 wx => v13 = .int .i64 1 ∧ v76 = .bool (kb k) ∧ Hid (RgK w wx xr xm ad n c l #[.int .i64 (x0 : Nat), .int .i64 (x1 : Nat), .int .i64 (x2 : Nat), .int .i64 (x3 : Nat), F, .slice none 0 0, .slice none 0 0] F Ld xp xh xv kd #[.int .u8 (kd : Nat), .int .i64 0, .int .i64 0, .int .i64 0, .int .i64 0, .int .i64 0, .int .i64 0] (vrow l kd s1 k 0)))
                      case first => as_aux_lemma =>
                        by_cases h3 : k = 3
                        · subst h3
                          go_wp2_with fail
                          go_meet
                          exact ⟨rfl, rfl, hv⟩
                        · by_cases h5 : k = 5
                          · subst h5
                            go_wp2_with fail
                            go_meet
                            exact ⟨rfl, rfl, hv⟩
                          · have a3 : ¬ (k : Int) = 3 := by omega
                            have a5 : ¬ (k : Int) = 5 := by omega
                            have e1 : Hid (kb k = false) := by unfold Hid kb; simp [h3, h5]
                            go_wp2_with fail
                            go_meet
                            exact ⟨rfl, by rw [e1.out, show ((k : Int) == 3 || (k : Int) == 5) = false by simp [a3, a5]], hv⟩
                      case rest => as_aux_lemma =>
                        obtain ⟨rfl, rfl, hv2⟩ := hcut
                        clear hv
                        go_upto_if 76 with fail
                        go_cut [13] (fun v wx => v = .int .i64 (kn k : Nat) ∧ Hid (RgK w wx xr xm ad n c l #[.int .i64 (x0 : Nat), .int .i64 (x1 : Nat), .int .i64 (x2 : Nat), .int .i64 (x3 : Nat), F, .slice none 0 0, .slice none 0 0] F Ld xp xh xv kd #[.int .u8 (kd : Nat), .int .i64 0, .int .i64 0, .int .i64 0, .int .i64 0, .int .i64 0, .int .i64 0] (vrow l kd s1 k 0)))
                        case first => as_aux_lemma =>
                          cases hkb : kb k
                          · have e1 : Hid (kn k = 1) := by unfold Hid kn; rw [hkb]; rfl
                            clear hkb
                            go_wp2_with fail
                            go_meet
                            exact ⟨by rw [e1.out]; rfl, hv2⟩
                          · have e1 : Hid (kn k = 2) := by unfold Hid kn; rw [hkb]; rfl
                            clear hkb
                            go_wp2_with fail
                            go_meet
                            exact ⟨by rw [e1.out]; rfl, hv2⟩
                        case rest => as_aux_lemma =>
                          obtain ⟨rfl, hw⟩ := hcut
                          clear hv2
                          have ch : wc.cell? ⟨xh, k, none⟩ = some (.bool (hasK kd k)) := (row_cell hw.out.rh k).trans (hasC_get hkz)
                          have hr : (sF l kd k s1).at_ ≤ l.length := sF_range (by omega) k
                          rw [hsk.out.1] at hr
                          obtain ⟨p, hp⟩ : ∃ p, sk.at_ = p := ⟨_, rfl⟩
                          rw [hp] at hr ⊢
                          obtain ⟨t, ht⟩ : ∃ t, kn k = t := ⟨_, rfl⟩
                          rw [ht] at hk2 ⊢
                          by_cases hh : hasK kd k = true
                          · rw [hh] at ch
                            by_cases hsh : p + t ≤ n
                            · as_aux_lemma =>
                                have g1 : ¬ (p : Int) + (t : Int) > (n : Int) := by omega
                                have HSF : Hid (sF l kd (k + 1) s1 = ⟨p + t, 0⟩ ∧ vF l kd s1 k = numJ l p t) := by
                                  have := sF_yes (l := l) (kd := kd) (s := s1) hh (by rw [hsk.out.1]; exact hsk.out.2) (by rw [hsk.out.1, hp, ht, hlen]; exact hsh)
                                  rwa [hsk.out.1, hp, ht] at this
                                have nz : numJ l p 0 = 0 := by unfold numJ; rw [List.take_zero]; rfl
                                have HV0 : Hid (RgK w wc xr xm ad n c l #[.int .i64 (x0 : Nat), .int .i64 (x1 : Nat), .int .i64 (x2 : Nat), .int .i64 (x3 : Nat), F, .slice none 0 0, .slice none 0 0] F Ld xp xh xv kd #[.int .u8 (kd : Nat), .int .i64 0, .int .i64 0, .int .i64 0, .int .i64 0, .int .i64 0, .int .i64 0] (vrow l kd s1 k (numJ l p 0))) := by rw [nz]; exact hw
                                clear hw hp ht nz hsk HPR HPC
                                go_wp2_with fail
                                go_loopw [14] (fun vj wx => ∃ j : Nat, j ≤ t ∧ vj = .int .i64 (j : Nat) ∧ Hid (RgK w wx xr xm ad n c l #[.int .i64 (x0 : Nat), .int .i64 (x1 : Nat), .int .i64 (x2 : Nat), .int .i64 (x3 : Nat), F, .slice none 0 0, .slice none 0 0] F Ld xp xh xv kd #[.int .u8 (kd : Nat), .int .i64 0, .int .i64 0, .int .i64 0, .int .i64 0, .int .i64 0, .int .i64 0] (vrow l kd s1 k (numJ l p j)))) (fun vj _ => t - (intOf vj).toNat)
                                case atStart => exact ⟨0, Nat.zero_le _, rfl, HV0⟩
                                case round => as_aux_lemma =>
                                  obtain ⟨j, hj, rfl, hv⟩ := hrel
                                  clear HV0 ch
                                  by_cases hjt : j < t
                                  · as_aux_lemma =>
                                      have j1 : (j : Int) < (t : Int) := by omega
                                      have j2 : (p : Int) + (j : Int) < (n : Int) := by omega
                                      have j3 : p + j < l.length := by omega
                                      have cv := (row_cell hv.out.rv k).trans (vrow_get (numJ l p j) hkz)
                                      have fv := row_free hv.out.rv k
                                      have cb := hv.out.s.byte (p + j) j3
                                      have ny := numJ_lt l p j (by omega) (by omega)
                                      have nx := l[p + j].toNat_lt
                                      have HJ := hid (numJ_succ l p j j3)
                                      have HN := hid (fun (y' : Nat) => vrow_set (l := l) (kd := kd) (s := s1) (numJ l p j) y' hkz)
                                      generalize numJ l p j = y at *
                                      generalize l[p + j].toNat = x at *
                                      go_wp2_with fail
                                      go_region
                                      go_wp2_with fail
                                      go_roundw
                                      case rel =>
                                        have e1 : ((y : Int) * 256 + (x : Int)) = ((y * 256 + x : Nat) : Int) := by omega
                                        refine ⟨j + 1, by omega, by go_num, ?_⟩
                                        rw [HJ.out, e1, ← HN.out]
                                        exact hid (hv.out.setv k _).drew
                                      case measure => simp [intOf]; omega
                                  · obtain rfl : j = t := by omega
                                    as_aux_lemma =>
                                      have j1 : ¬ (j : Int) < (j : Int) := by omega
                                      have HW : Hid (RgK w wr xr xm ad n c l #[.int .i64 (x0 : Nat), .int .i64 (x1 : Nat), .int .i64 (x2 : Nat), .int .i64 (x3 : Nat), F, .slice none 0 0, .slice none 0 0] F Ld xp xh xv kd #[.int .u8 (kd : Nat), .int .i64 0, .int .i64 0, .int .i64 0, .int .i64 0, .int .i64 0, .int .i64 0] (vrow l kd s1 (k + 1) 0)) := by
                                        have := hv.out
                                        rw [← HSF.out.2, vrow_next] at this
                                        exact hid this
                                      have HS1 := hid HSF.out.1
                                      clear HSF hv
                                      go_wp2_with fail
                                      go_roundw
                                      case rel => exact ⟨k + 1, ⟨p + j, 0⟩, hkz, by go_num, by go_num, hid ⟨HS1.out, rfl⟩, HW⟩
                                      case measure => simp [intOf]; omega
                            · as_aux_lemma =>
                                have g1 : (p : Int) + (t : Int) > (n : Int) := by omega
                                obtain ⟨⟨z0, z1, z2, z3, z4, z5, z6⟩, y0, y1, y2, y3, y4, y5, y6⟩ := hw.out.s.zeros
                                have HE := hid hw.out.s.end_
                                have herr : getM l = .error 12 := hl.out.err hgo HQ.out (by decide) (by
                                  rw [HPR.out.1]
                                  exact sF_short hkz hh (by rw [hsk.out.1]; exact hsk.out.2) (by rw [hsk.out.1, hp, ht, hlen]; exact hsh))
                                clear hp ht hw HPR HPC
                                go_wp2_with fail
                                refine bodyPost_ret (results_md (by kernel_rfl : Try.f11.results = #[.cell 2 25, .tmp 3, .tmp 4]) _ _ xr _ _ _ rfl HE.out.1 rfl) rfl ?_
                                exact .inl ⟨12, by decide, herr, rfl, HE.out.2⟩
                          · as_aux_lemma =>
                              have hf : hasK kd k = false := by simpa using hh
                              rw [hf] at ch
                              have HN := hid (sF_no (l := l) (s := s1) hf)
                              have HW : Hid (RgK w wc xr xm ad n c l #[.int .i64 (x0 : Nat), .int .i64 (x1 : Nat), .int .i64 (x2 : Nat), .int .i64 (x3 : Nat), F, .slice none 0 0, .slice none 0 0] F Ld xp xh xv kd #[.int .u8 (kd : Nat), .int .i64 0, .int .i64 0, .int .i64 0, .int .i64 0, .int .i64 0, .int .i64 0] (vrow l kd s1 (k + 1) 0)) := by
                                have e := vrow_next (l := l) (kd := kd) (s := s1) k
                                rw [HN.out.2] at e
                                rw [← e]
                                exact hw
                              have HS2 : Hid (sF l kd (k + 1) s1 = sk ∧ sk.e = 0) := by
                                unfold Hid
                                rw [HN.out.1]
                                exact hsk.out
                              have HP : Hid (sk.at_ = p) := hp
                              clear hw hp ht HN hsk HPR HPC hh
                              go_wp2_with fail
                              go_roundw
                              case rel => exact ⟨k + 1, sk, hkz, by rw [HP.out], by go_num, HS2, HW⟩
                              case measure => simp [intOf]; omega
                    · obtain rfl : k = 6 := by omega
                      as_aux_lemma =>
                        go_wp2_with fail
                        go_meet
                        exact ⟨sk, rfl, hsk, hv⟩
                case rest => as_aux_lemma =>
                  obtain ⟨s6, rfl, hs6, hv⟩ := hcut
                  have HPT : Hid ((prtS l s).2 = ptOf (kd, vF l kd s1 0, vF l kd s1 1, vF l kd s1 2, vF l kd s1 3, vF l kd s1 4, vF l kd s1 5)) := HPR.out.2
                  have HPF : Hid (prtF l s = s6) := HPR.out.1.trans hs6.out.1
                  have hf3 := vF_lt l kd s1 3
                  have HV6 : Hid (RgK w wc xr xm ad n c l #[.int .i64 (x0 : Nat), .int .i64 (x1 : Nat), .int .i64 (x2 : Nat), .int .i64 (x3 : Nat), F, .slice none 0 0, .slice none 0 0] F Ld xp xh xv kd #[.int .u8 (kd : Nat), .int .i64 0, .int .i64 0, .int .i64 0, .int .i64 0, .int .i64 0, .int .i64 0] #[.int .i64 (vF l kd s1 0 : Nat), .int .i64 (vF l kd s1 1 : Nat), .int .i64 (vF l kd s1 2 : Nat), .int .i64 (vF l kd s1 3 : Nat), .int .i64 (vF l kd s1 4 : Nat), .int .i64 (vF l kd s1 5 : Nat)]) := hv
                  clear hv HV HPR HPC
                  generalize vF l kd s1 0 = f0 at *
                  generalize vF l kd s1 1 = f1 at *
                  generalize vF l kd s1 2 = f2 at *
                  generalize vF l kd s1 3 = f3 at *
                  generalize vF l kd s1 4 = f4 at *
                  generalize vF l kd s1 5 = f5 at *
                  have e0 : wc.cell? ⟨xv, 0, none⟩ = some (.int .i64 (f0 : Nat)) := row_cell HV6.out.rv 0
                  have e1 : wc.cell? ⟨xv, 1, none⟩ = some (.int .i64 (f1 : Nat)) := row_cell HV6.out.rv 1
                  have e2 : wc.cell? ⟨xv, 2, none⟩ = some (.int .i64 (f2 : Nat)) := row_cell HV6.out.rv 2
                  have e4 : wc.cell? ⟨xv, 4, none⟩ = some (.int .i64 (f4 : Nat)) := row_cell HV6.out.rv 4
                  have e5 : wc.cell? ⟨xv, 5, none⟩ = some (.int .i64 (f5 : Nat)) := row_cell HV6.out.rv 5
                  have g1 : wc.cell? ⟨xp, 1, none⟩ = some (.int .i64 0) := row_cell HV6.out.rp 1
                  have g2 : wc.cell? ⟨xp, 2, none⟩ = some (.int .i64 0) := row_cell HV6.out.rp 2
                  have g3 : wc.cell? ⟨xp, 3, none⟩ = some (.int .i64 0) := row_cell HV6.out.rp 3
                  have g5 : wc.cell? ⟨xp, 5, none⟩ = some (.int .i64 0) := row_cell HV6.out.rp 5
                  have g6 : wc.cell? ⟨xp, 6, none⟩ = some (.int .i64 0) := row_cell HV6.out.rp 6
                  have k1 : wc.frozen? ⟨xp, 1, none⟩ = false := row_free HV6.out.rp 1
                  have k2 : wc.frozen? ⟨xp, 2, none⟩ = false := row_free HV6.out.rp 2
                  have k3 : wc.frozen? ⟨xp, 3, none⟩ = false := row_free HV6.out.rp 3
                  have k5 : wc.frozen? ⟨xp, 5, none⟩ = false := row_free HV6.out.rp 5
                  have k6 : wc.frozen? ⟨xp, 6, none⟩ = false := row_free HV6.out.rp 6
                  have HV7 : Hid (∀ W : World, W = (((((wc.setCell ⟨xp, 1, none⟩ (.int .i64 (f0 : Nat))).setCell ⟨xp, 2, none⟩ (.int .i64 (f1 : Nat))).setCell ⟨xp, 3, none⟩ (.int .i64 (f2 : Nat))).setCell ⟨xp, 5, none⟩ (.int .i64 (f4 : Nat))).setCell ⟨xp, 6, none⟩ (.int .i64 (f5 : Nat))).drew → RgK w W xr xm ad n c l #[.int .i64 (x0 : Nat), .int .i64 (x1 : Nat), .int .i64 (x2 : Nat), .int .i64 (x3 : Nat), F, .slice none 0 0, .slice none 0 0] F Ld xp xh xv kd #[.int .u8 (kd : Nat), .int .i64 (f0 : Nat), .int .i64 (f1 : Nat), .int .i64 (f2 : Nat), .int .i64 0, .int .i64 (f4 : Nat), .int .i64 (f5 : Nat)] #[.int .i64 (f0 : Nat), .int .i64 (f1 : Nat), .int .i64 (f2 : Nat), .int .i64 (f3 : Nat), .int .i64 (f4 : Nat), .int .i64 (f5 : Nat)]) := by
                    rintro W rfl
                    exact (((((HV6.out.setp 1 _).setp 2 _).setp 3 _).setp 5 _).setp 6 _).drew
                  have hvp : xv ≠ xp := type_ne HV6.out.rv HV6.out.rp (by decide)
                  go_upto_region 30 with fail
                  go_cut [6] from 110 to 124 (fun v wx => v = .int .i64 (s6.at_ : Nat) ∧ Hid (RgK w wx xr xm ad n c l #[.int .i64 (x0 : Nat), .int .i64 (x1 : Nat), .int .i64 (x2 : Nat), .int .i64 (x3 : Nat), F, .slice none 0 0, .slice none 0 0] F Ld xp xh xv kd #[.int .u8 (kd : Nat), .int .i64 (f0 : Nat), .int .i64 (f1 : Nat), .int .i64 (f2 : Nat), .int .i64 0, .int .i64 (f4 : Nat), .int .i64 (f5 : Nat)] #[.int .i64 (f0 : Nat), .int .i64 (f1 : Nat), .int .i64 (f2 : Nat), .int .i64 (f3 : Nat), .int .i64 (f4 : Nat), .int .i64 (f5 : Nat)]))
                  case first => as_aux_lemma =>
                    go_region
                    all_goals
                      go_wp2_with fail
                      go_meet
                      exact ⟨rfl, hid (HV7.out _ rfl)⟩
                  case rest => as_aux_lemma =>
                    obtain ⟨rfl, hv⟩ := hcut
                    clear e0 e1 e2 e4 e5 g1 g2 g3 g5 g6 k1 k2 k3 k5 k6 HV7 HV6
                    have ch3 : wc.cell? ⟨xh, 3, none⟩ = some (.bool (hasK kd 3)) := row_cell hv.out.rh 3
                    obtain ⟨C, hC⟩ : ∃ C : Int, Hid (C = if hasK kd 3 then (f3 : Int) - 2048 else 0) := ⟨_, hid rfl⟩
                    go_upto_if 126 with fail
                    go_cut [6] (fun v wx => v = .int .i64 (s6.at_ : Nat) ∧ Hid (RgK w wx xr xm ad n c l #[.int .i64 (x0 : Nat), .int .i64 (x1 : Nat), .int .i64 (x2 : Nat), .int .i64 (x3 : Nat), F, .slice none 0 0, .slice none 0 0] F Ld xp xh xv kd #[.int .u8 (kd : Nat), .int .i64 (f0 : Nat), .int .i64 (f1 : Nat), .int .i64 (f2 : Nat), .int .i64 C, .int .i64 (f4 : Nat), .int .i64 (f5 : Nat)] #[.int .i64 (f0 : Nat), .int .i64 (f1 : Nat), .int .i64 (f2 : Nat), .int .i64 (f3 : Nat), .int .i64 (f4 : Nat), .int .i64 (f5 : Nat)]))
                    case first => as_aux_lemma =>
                      have HC := hC.out
                      clear hC ch3
                      have e3 : wc.cell? ⟨xv, 3, none⟩ = some (.int .i64 (f3 : Nat)) := row_cell hv.out.rv 3
                      have g4 : wc.cell? ⟨xp, 4, none⟩ = some (.int .i64 0) := row_cell hv.out.rp 4
                      have k4 : wc.frozen? ⟨xp, 4, none⟩ = false := row_free hv.out.rp 4
                      cases hb : hasK kd 3
                      · rw [hb] at HC
                        have HC2 := hid HC
                        clear HC hb
                        go_wp2_with fail
                        go_meet
                        exact ⟨rfl, by rw [HC2.out]; exact hv⟩
                      · rw [hb] at HC
                        have HC2 := hid HC
                        clear HC hb
                        go_wp2_with fail
                        go_meet
                        exact ⟨rfl, by rw [HC2.out]; exact hid (hv.out.setp 4 _)⟩
                    case rest => as_aux_lemma =>
                      obtain ⟨rfl, hw⟩ := hcut
                      clear hv ch3
                      obtain ⟨Ao, co, rfl, hoc, hom⟩ := own_slice hw.out.s.pts
                      have HO := hid hw.out.s
                      have HLd : Hid (Ld.length ≤ 255) := hid (by have := hl.out.len; omega)
                      have d4 : wc.cell? ⟨xm, 4, none⟩ = some (.slice Ao Ld.length co) := row_cell hw.out.s.rm 4
                      have m0 : wc.cell? ⟨xp, 0, none⟩ = some (.int .u8 (kd : Nat)) := row_cell hw.out.rp 0
                      have m1 : wc.cell? ⟨xp, 1, none⟩ = some (.int .i64 (f0 : Nat)) := row_cell hw.out.rp 1
                      have m2 : wc.cell? ⟨xp, 2, none⟩ = some (.int .i64 (f1 : Nat)) := row_cell hw.out.rp 2
                      have m3 : wc.cell? ⟨xp, 3, none⟩ = some (.int .i64 (f2 : Nat)) := row_cell hw.out.rp 3
                      have m4 : wc.cell? ⟨xp, 4, none⟩ = some (.int .i64 C) := row_cell hw.out.rp 4
                      have m5 : wc.cell? ⟨xp, 5, none⟩ = some (.int .i64 (f4 : Nat)) := row_cell hw.out.rp 5
                      have m6 : wc.cell? ⟨xp, 6, none⟩ = some (.int .i64 (f5 : Nat)) := row_cell hw.out.rp 6
                      have HNX : Hid (RgL l x4 (i + 1) s6 (Ld ++ [⟨kd, (f0 : Nat), (f1 : Nat), (f2 : Nat), C, (f4 : Nat), (f5 : Nat)⟩])) := by
                        have := hl.out.next hgo (by rw [HPF.out]; exact hs6.out.2)
                        rw [HPF.out, HPT.out] at this
                        rw [hC.out]
                        exact hid this
                      clear hw hC HPT HPF hs6 hl hoc
                      go_upto_region 33 with fail
                      refine reg33 HO HLd d4 m0 m1 m2 m3 m4 m5 m6 ⟨_, _, rfl⟩ rfl (hid ?_)
                      intro A1 co1 w2 ha
                      have HA := hid ha
                      clear ha HO HLd d4 m0 m1 m2 m3 m4 m5 m6
                      dsimp only [Exit.inBlock, Exit.then]
                      go_wp2_with fail
                      go_roundw
                      case rel => exact ⟨i + 1, s6, .slice A1 (Ld.length + 1) co1, Ld ++ [⟨kd, (f0 : Nat), (f1 : Nat), (f2 : Nat), C, (f4 : Nat), (f5 : Nat)⟩], hgo, rfl, by go_num, HNX, hid (HA.out.setm 4 _)⟩
                      case measure => simp [intOf]; omega
            · rw [show decide (1 ≤ kd ∧ kd ≤ 9) = false from decide_eq_false hk] at HH
              unfold hasV at HH
              have herr : getM l = .error 131 := by
                subst hat hkd
                exact hl.out.err hgo HQ.out (e := 131) (by decide) (prtF_kind hl.out.e0 hyl hk)
              clear HST hk256 hkd hat v0 v1 v2 v3 hn hcap
              as_aux_lemma =>
                go_wp2_with (go_at_call 20; refine (HH.out _).mono ?_; rintro r W2 ⟨rfl, bb⟩; rw [e1] at bb; have HB2 := hid (HSE.out W2 bb (.cells #[.bool (hasK kd 0), .bool (hasK kd 1), .bool (hasK kd 2), .bool (hasK kd 3), .bool (hasK kd 4), .bool (hasK kd 5)] 52)).end_; obtain ⟨⟨z0, z1, z2, z3, z4, z5, z6⟩, y0, y1, y2, y3, y4, y5, y6⟩ := (HSE.out W2 bb (.cells #[.bool (hasK kd 0), .bool (hasK kd 1), .bool (hasK kd 2), .bool (hasK kd 3), .bool (hasK kd 4), .bool (hasK kd 5)] 52)).zeros; clear bb)
                refine bodyPost_ret (results_md (by kernel_rfl : Try.f11.results = #[.cell 2 25, .tmp 3, .tmp 4]) _ _ xr _ _ _ rfl HB2.out.1 rfl) rfl ?_
                exact .inl ⟨131, by decide, herr, rfl, HB2.out.2⟩
          · have hy : (at_ : Int) ≥ (n : Int) := by omega
            as_aux_lemma =>
              obtain ⟨⟨z0, z1, z2, z3, z4, z5, z6⟩, y0, y1, y2, y3, y4, y5, y6⟩ := hs.out.zeros
              have HE := hid hs.out.end_
              have herr := hl.out.err hgo HQ.out (e := 12) (by decide) (prtF_short hl.out.e0 (by omega))
              clear v0 v1 v2 v3 hat
              go_wp2_with fail
              refine bodyPost_ret (results_md (by kernel_rfl : Try.f11.results = #[.cell 2 25, .tmp 3, .tmp 4]) _ _ xr _ _ _ rfl HE.out.1 rfl) rfl ?_
              exact .inl ⟨12, by decide, herr, rfl, HE.out.2⟩
        · obtain rfl : i = x4 := by omega
          go_wp2_with fail
          go_meet
          exact ⟨s, F, Ld, rfl, hl, hs⟩
    case rest => as_aux_lemma =>
      obtain ⟨s, F, Ld, rfl, hl, hs⟩ := hcut
      have H6 : Hid (g6 l = s ∧ (prtsS l x4 (g5 l)).2 = Ld) := by
        have := hl.out.eq
        rw [Nat.sub_self] at this
        refine ⟨?_, by rw [this]; exact List.append_nil _⟩
        unfold g6
        rw [HQ.out, this]
        rfl
      have hle := hl.out.le
      have hz0 := hl.out.e0
      have HB0 : Hid (RgB w wc xr xm ad n c l x0 x1 x2 x3 F Ld (.slice none 0 0) (.slice none 0 0) [] []) := hid ⟨hs.out, World.ownsRow_nil _ _ _ _, World.ownsRow_nil _ _ _ _⟩
      have HP0 : Hid (RgP l s 0 s [] []) := hid ⟨hz0, hle, fun _ => ⟨rfl, rfl, rfl⟩, fun h => absurd h (by decide), fun h => absurd h (by decide)⟩
      have HVV := hid (And.intro v0 (And.intro v1 (And.intro v2 v3)))
      clear HS HL hl hs hle hz0 v0 v1 v2 v3
      go_wp2_with fail
      go_loopw [6, 15] (fun va vk wx => ∃ (k : Nat) (t : St) (CV QV : Value) (LC LQ : List UInt8), k ≤ 2 ∧ va = .int .i64 (t.at_ : Nat) ∧ vk = .int .i64 (k : Nat) ∧ Hid (RgP l s k t LC LQ) ∧ Hid (RgB w wx xr xm ad n c l x0 x1 x2 x3 F Ld CV QV LC LQ)) (fun _ vk _ => 2 - (intOf vk).toNat)
      case atStart => exact ⟨0, s, _, _, [], [], by decide, rfl, rfl, HP0, HB0⟩
      case round => as_aux_lemma =>
        obtain ⟨k, t, CV, QV, LC, LQ, hk, rfl, rfl, hp, hb⟩ := hrel
        clear HP0 HB0
        by_cases hk2 : k < 2
        · as_aux_lemma =>
            have hkz : (k : Int) < 2 := by omega
            obtain ⟨p, hpp⟩ : ∃ p, t.at_ = p := ⟨_, rfl⟩
            have ht : t = ⟨p, 0⟩ := by
              have h0 := hp.out.e0
              cases t
              simp only at h0 hpp
              rw [h0, hpp]
            have hpn : p ≤ n := by have := hp.out.le; omega
            have HT := hid ht
            rw [hpp]
            clear hpp ht
            by_cases h2 : n < p + 2
            · as_aux_lemma =>
                have g1 : (p : Int) + 2 > (n : Int) := by omega
                obtain ⟨⟨z0, z1, z2, z3, z4, z5, z6⟩, y0, y1, y2, y3, y4, y5, y6⟩ := hb.out.s.zeros
                have HE := hid hb.out.s.end_
                have herr : getM l = .error 12 := hp.out.err hk2 H6.out.1 (by rw [HT.out]; exact byt_no l p (by omega))
                clear hp hb H6 HQ
                go_wp2_with fail
                refine bodyPost_ret (results_md (by kernel_rfl : Try.f11.results = #[.cell 2 25, .tmp 3, .tmp 4]) _ _ xr _ _ _ rfl HE.out.1 rfl) rfl ?_
                exact .inl ⟨12, by decide, herr, rfl, HE.out.2⟩
            · have g1 : ¬ (p : Int) + 2 > (n : Int) := by omega
              have hl1 : p + 1 < l.length := by omega
              have cx := hb.out.s.byte p (by omega)
              have cy := hb.out.s.byte (p + 1) hl1
              have bx := (l[p]'(by omega)).toNat_lt
              have by_ := (l[p + 1]'hl1).toNat_lt
              obtain ⟨N, hN⟩ : ∃ N, (l[p]'(by omega)).toNat * 256 + (l[p + 1]'hl1).toNat = N := ⟨_, rfl⟩
              have HNN := hid hN
              generalize (l[p]'(by omega)).toNat = x at cx bx hN
              generalize (l[p + 1]'hl1).toNat = y at cy by_ hN
              obtain ⟨p1, hp1⟩ : ∃ p1, p + 1 = p1 := ⟨_, rfl⟩
              have hp1z : (p : Int) + 1 = (p1 : Int) := by omega
              have hpy : (p1 : Int) < (n : Int) := by omega
              have cy1 : wr.cell? (ad.add p1) = some (.int .u8 (y : Nat)) := by rw [← hp1]; exact cy
              clear cy
              have hNz : (x : Int) * 256 + (y : Int) = (N : Int) := by omega
              have hN1 : N ≤ 65535 := by omega
              obtain ⟨p2, hp2⟩ : ∃ p2, p + 2 = p2 := ⟨_, rfl⟩
              have hp2z : (p : Int) + 2 = (p2 : Int) := by omega
              obtain ⟨q, hq⟩ : ∃ q, p2 + N = q := ⟨_, rfl⟩
              have hqz : (p2 : Int) + (N : Int) = (q : Int) := by omega
              by_cases h3 : n < q
              · as_aux_lemma =>
                  have g2 : (q : Int) > (n : Int) := by omega
                  have hpx : (p : Int) < (n : Int) := by omega
                  have HSH := hid (byt_short l p N hl1 HNN.out (by omega))
                  go_wp2_with fail
                  go_region
                  have hb2 := hid (hb.out.later (Below.refl _ wr).drew)
                  generalize wr.drew = W at hb2 ⊢
                  obtain ⟨⟨z0, z1, z2, z3, z4, z5, z6⟩, y0, y1, y2, y3, y4, y5, y6⟩ := hb2.out.s.zeros
                  have HE := hid hb2.out.s.end_
                  have herr : getM l = .error 12 := hp.out.err hk2 H6.out.1 (by rw [HT.out]; exact HSH.out)
                  clear hp hb hb2 H6 HQ HSH
                  go_wp2_with fail
                  refine bodyPost_ret (results_md (by kernel_rfl : Try.f11.results = #[.cell 2 25, .tmp 3, .tmp 4]) _ _ xr _ _ _ rfl HE.out.1 rfl) rfl ?_
                  exact .inl ⟨12, by decide, herr, rfl, HE.out.2⟩
              · as_aux_lemma =>
                  have g2 : ¬ (q : Int) > (n : Int) := by omega
                  have hpx : (p : Int) < (n : Int) := by omega
                  obtain ⟨w1, w2⟩ := byt_yes l p N hl1 HNN.out (by omega)
                  rw [hp2, hq] at w1
                  rw [hp2] at w2
                  have hBD := hb.out.later (Below.refl _ wr).drew
                  obtain ⟨A2, hsl, hsb⟩ := slice_part hBD.s.by_ p2 q (by omega) (by omega)
                  rw [show q - p2 = N by omega] at hsl hsb
                  have HBD := hid hBD
                  have HSB := hid hsb
                  have HN1 : Hid (N ≤ 100000) := hid (by omega)
                  have hp2q : p2 ≤ q := by omega
                  have hqn : q ≤ n := by omega
                  have hnc : n ≤ c := hb.out.s.by_.cap
                  have HPN : Hid (∀ k1, k1 = k → (k1 = 0 → RgP l s 1 ⟨q, 0⟩ ((l.drop p2).take N) LQ) ∧ (k1 = 1 → RgP l s 2 ⟨q, 0⟩ LC ((l.drop p2).take N))) := by
                    refine hid ?_
                    rintro k1 rfl
                    have w3 := HT.out
                    refine ⟨?_, ?_⟩
                    · rintro rfl
                      obtain ⟨t1, t2, t3⟩ := hp.out.t0 rfl
                      rw [w3] at t1
                      refine ⟨rfl, by rw [hlen]; exact hqn, fun h => absurd h (by decide), fun _ => ⟨?_, ?_, t3⟩, fun h => absurd h (by decide)⟩
                      · rw [← t1, w1]
                      · rw [← t1, w2]
                    · rintro rfl
                      obtain ⟨t1, t2, t3⟩ := hp.out.t1 rfl
                      rw [w3] at t1
                      refine ⟨rfl, by rw [hlen]; exact hqn, fun h => absurd h (by decide), fun h => absurd h (by decide), fun _ => ⟨?_, t2, ?_⟩⟩
                      · rw [← t1, w1]
                      · rw [← t1, w2]
                  clear w1 w2 hsb hBD hp hb H6 HQ HT HNN hp2 hq
                  rcases (by omega : k = 0 ∨ k = 1) with rfl | rfl
                  · as_aux_lemma =>
                      have HPN := hid ((HPN.out 0 rfl).1 rfl)
                      go_wp2_with fail
                      go_region
                      generalize wr.drew = W at HBD HSB ⊢
                      go_wp2_with (at_builtin; (refine wpList_app_bytes rfl (.tmp 171) (.tmp 177) rfl HBD.out HSB.out HN1.out rfl rfl ?_); intro A1 c1 W1 HA HO; have q5 : W1.cell? ⟨xm, 5, none⟩ = some CV := row_cell HA.out.s.rm 5; have r5 : W1.frozen? ⟨xm, 5, none⟩ = false := row_free HA.out.s.rm 5)
                      go_roundw
                      case rel => exact ⟨1, ⟨q, 0⟩, .slice A1 N c1, QV, (l.drop p2).take N, LQ, by decide, rfl, by go_num, HPN, hid (HA.out.code HO.out)⟩
                      case measure => simp [intOf]
                  · as_aux_lemma =>
                      have HPN := hid ((HPN.out 1 rfl).2 rfl)
                      go_wp2_with fail
                      go_region
                      generalize wr.drew = W at HBD HSB ⊢
                      go_wp2_with (at_builtin; (refine wpList_app_bytes rfl (.tmp 180) (.tmp 186) rfl HBD.out HSB.out HN1.out rfl rfl ?_); intro A1 c1 W1 HA HO; have q5 : W1.cell? ⟨xm, 6, none⟩ = some QV := row_cell HA.out.s.rm 6; have r5 : W1.frozen? ⟨xm, 6, none⟩ = false := row_free HA.out.s.rm 6)
                      go_roundw
                      case rel => exact ⟨2, ⟨q, 0⟩, CV, .slice A1 N c1, LC, (l.drop p2).take N, by decide, rfl, by go_num, HPN, hid (HA.out.post HO.out)⟩
                      case measure => simp [intOf]
        · obtain rfl : k = 2 := by omega
          as_aux_lemma =>
            obtain ⟨hgm, h8, h8e, hL1, hL2⟩ := gM_is HVV.out (by rw [HQ.out]; exact H6.out) hp.out
            have hL3 : LC.length ≤ 100000 := by omega
            have hL4 : LQ.length ≤ 100000 := by omega
            obtain ⟨P, C, Q, hval, hmd⟩ := md_value (W := wr) hb.out.s.pts hb.out.oc hb.out.oq hgm hL3 hL4
            have HR := hid (refRight_md wr (gM l) P C Q hmd)
            rw [hval] at HR
            have HGA := hid (get_all l h8e)
            rw [h8] at HGA
            have HGM := hid (And.intro hgm (And.intro hL3 hL4))
            obtain ⟨tt, htt⟩ : ∃ a, t.at_ = a := ⟨_, rfl⟩
            rw [htt] at HGA ⊢
            have m0 : wr.cell? ⟨xm, 0, none⟩ = some (.int .i64 (x0 : Nat)) := row_cell hb.out.s.rm 0
            have m1 : wr.cell? ⟨xm, 1, none⟩ = some (.int .i64 (x1 : Nat)) := row_cell hb.out.s.rm 1
            have m2 : wr.cell? ⟨xm, 2, none⟩ = some (.int .i64 (x2 : Nat)) := row_cell hb.out.s.rm 2
            have m3 : wr.cell? ⟨xm, 3, none⟩ = some (.int .i64 (x3 : Nat)) := row_cell hb.out.s.rm 3
            have m4 : wr.cell? ⟨xm, 4, none⟩ = some F := row_cell hb.out.s.rm 4
            have m5 : wr.cell? ⟨xm, 5, none⟩ = some CV := row_cell hb.out.s.rm 5
            have m6 : wr.cell? ⟨xm, 6, none⟩ = some QV := row_cell hb.out.s.rm 6
            obtain ⟨rr, hrr⟩ : ∃ r, (gM l).right = r := ⟨_, rfl⟩
            rw [hrr] at HR HGA
            clear hgm h8 h8e hL1 hL2 hL3 hL4 hval hmd htt hp HVV H6 HQ
            go_wp2_with fail
            refine HR.out.mono ?_
            rintro r w6 ⟨rfl, b6⟩
            have HB6 := hid (hb.out.later b6)
            clear b6 hb HR m0 m1 m2 m3 m4 m5 m6
            try dsimp only
            obtain ⟨⟨z0, z1, z2, z3, z4, z5, z6⟩, y0, y1, y2, y3, y4, y5, y6⟩ := HB6.out.s.zeros
            by_cases hr0 : rr = 0
            · as_aux_lemma =>
                subst hr0
                obtain ⟨Ap, cp, rfl, _, _⟩ := own_slice HB6.out.s.pts
                obtain ⟨Ac, cc, rfl, _, _⟩ := own_slice HB6.out.oc
                obtain ⟨Aq, cq, rfl, _, _⟩ := own_slice HB6.out.oq
                have m0 : w6.cell? ⟨xm, 0, none⟩ = some (.int .i64 (x0 : Nat)) := row_cell HB6.out.s.rm 0
                have m1 : w6.cell? ⟨xm, 1, none⟩ = some (.int .i64 (x1 : Nat)) := row_cell HB6.out.s.rm 1
                have m2 : w6.cell? ⟨xm, 2, none⟩ = some (.int .i64 (x2 : Nat)) := row_cell HB6.out.s.rm 2
                have m3 : w6.cell? ⟨xm, 3, none⟩ = some (.int .i64 (x3 : Nat)) := row_cell HB6.out.s.rm 3
                have m4 : w6.cell? ⟨xm, 4, none⟩ = some (.slice Ap Ld.length cp) := row_cell HB6.out.s.rm 4
                have m5 : w6.cell? ⟨xm, 5, none⟩ = some (.slice Ac LC.length cc) := row_cell HB6.out.s.rm 5
                have m6 : w6.cell? ⟨xm, 6, none⟩ = some (.slice Aq LQ.length cq) := row_cell HB6.out.s.rm 6
                obtain ⟨d1, d2, d3, d4, d5⟩ := HB6.out.done (.int .i64 (x0 : Nat)) (.int .i64 (x1 : Nat)) (.int .i64 (x2 : Nat)) (.int .i64 (x3 : Nat)) (.slice Ap Ld.length cp) (.slice Ac LC.length cc) (.slice Aq LQ.length cq)
                obtain ⟨P, C, Q, hval, hmd⟩ := md_value d1 d2 d3 HGM.out.1 HGM.out.2.1 HGM.out.2.2
                unfold set7 at d4 d5 hmd
                have D4 := hid d4
                have D5 := hid d5
                have HVL := hid hval
                have HMD := hid hmd
                clear d1 d2 d3 d4 d5 hval hmd
                go_wp2_with fail
                refine bodyPost_ret (results_md (by kernel_rfl : Try.f11.results = #[.cell 2 25, .tmp 3, .tmp 4]) _ _ xr _ _ _ rfl D4.out rfl) rfl ?_
                exact .inr ⟨gM l, tt, P, C, Q, HGA.out.1 (by trivial), by rw [HVL.out]; rfl, HMD.out, D5.out⟩
            · as_aux_lemma =>
                have hrb : (rr != 0) = true := by simp only [bne_iff_ne, ne_eq]; exact hr0
                have HE := hid HB6.out.s.end_
                have HER := hid (HGA.out.2 hr0)
                clear hr0 HGA HGM
                go_wp2_with fail
                refine bodyPost_ret (results_md (by kernel_rfl : Try.f11.results = #[.cell 2 25, .tmp 3, .tmp 4]) _ _ xr _ _ _ rfl HE.out.1 rfl) rfl ?_
                exact .inl ⟨131, by decide, HER.out, rfl, HE.out.2⟩
end Go.Proofs.Ytnanmdfbgoahjaa
