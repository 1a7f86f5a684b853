/-
  The document's Get, class by class.
-/
import Derived.Test.YtdlmcfknmdaabaaRfk
namespace Go.Proofs.Ytdlmcfknmdaabaa
open Go.RowKit
set_option linter.unusedVariables false
set_option linter.unusedSimpArgs false

set_option maxRecDepth 10000 in
set_option maxHeartbeats 4000000 in
theorem rg_4_bad (ad : Addr) (n c : Nat) (w : World) (k x : Nat) (hk : k < n) (hn : n ≤ 8000) (hc : n ≤ c) (hx8 : x < 256) (CK : Hid (∀ W, Below w.heap.size w W → W.cell? (ad.add k) = some (.int .u8 (x : Nat)))) (o lw : Int) (hq : (x : Int) / 8 = o) (hr : (x : Int) % 8 = lw) (hcls : (cls o : Nat) = 4) (hl : lw = 7) :
    Calls Try.prog 20 #[.slice (some ad) n c, .int .i64 (k : Nat)] w fun e w' => e = .returned (vG (noG 110)) ∧ Below w.heap.size w w' := by
  subst hl
  have HC := hid (fun w => class_any o (by omega) w)
  have HR := hid (fun d s n w => RefRight_any o d s n (by omega) w)
  have G0 := hid (g1_made w)
  have GI := hid (gi_made G0.out o 0 0 0)
  rw [show (w.alloc (.cells #[.int .u8 0, .int .i64 0, .int .i64 0, .int .i64 0] 37)).heap.size = w.heap.size + 1 by simp] at GI
  have hkz : (k : Int) < (n : Int) := by omega
  have hnz : (n : Int) ≤ 8000 := by omega
  have hk0 : decide ((k : Int) < 0) = false := decide_eq_false (by omega)
  have hkn : decide ((n : Int) ≤ (k : Int)) = false := decide_eq_false (by omega)
  have hn6 : decide ((65536 : Int) < (n : Int)) = false := decide_eq_false (by omega)
  have cx := CK.out _ G0.out.bel
  have cx2 := CK.out _ GI.out.bel
  have hcl : ((cls o : Nat) : Int) = 4 := by omega
  rw [hcl] at HC
  unfold vI at HR
  unfold vG vI
  clear hcl
  have E0 := wr64 (k : Int) (by omega)
  have GX := GI.out.toG1
  have e0 := E0.out
  unfold noG
  clear hcls
  go_enter Try.func20, Try.ntmps20
  go_wp2_with (go_at_call 26; (with_reducible refine (HC.out _).mono ?_); rintro r wj ⟨rfl, ej⟩; rw [ej]; clear ej wj)
  refine bodyPost_ret (results_243 (by kernel_rfl : Try.f20.results = #[.cell 4 37, .tmp 5, .tmp 6]) _ _ w.heap.size _ _ _ rfl GX.ra rfl) rfl ?_
  exact ⟨rfl, GX.bel⟩
set_option maxRecDepth 10000 in
set_option maxHeartbeats 4000000 in
theorem rg_4_ok (ad : Addr) (n c : Nat) (w : World) (k x : Nat) (hk : k < n) (hn : n ≤ 8000) (hc : n ≤ c) (hx8 : x < 256) (CK : Hid (∀ W, Below w.heap.size w W → W.cell? (ad.add k) = some (.int .u8 (x : Nat)))) (o lw : Int) (hq : (x : Int) / 8 = o) (hr : (x : Int) % 8 = lw) (hcls : (cls o : Nat) = 4) (hl : lw ≠ 7) (hf : k + 0 < n) :
    Calls Try.prog 20 #[.slice (some ad) n c, .int .i64 (k : Nat)] w fun e w' => e = .returned (vG (if okI o lw 0 0 then ⟨o, lw, 0, 0, ((k + 1 : Nat) : Int), 0⟩ else noG 110)) ∧ Below w.heap.size w w' := by
  have hl7 : (lw == 7) = false := by simpa using hl
  have HC := hid (fun w => class_any o (by omega) w)
  have HR := hid (fun d s n w => RefRight_any o d s n (by omega) w)
  have G0 := hid (g1_made w)
  have GI := hid (gi_made G0.out o 0 0 0)
  rw [show (w.alloc (.cells #[.int .u8 0, .int .i64 0, .int .i64 0, .int .i64 0] 37)).heap.size = w.heap.size + 1 by simp] at GI
  have hkz : (k : Int) < (n : Int) := by omega
  have hnz : (n : Int) ≤ 8000 := by omega
  have hk0 : decide ((k : Int) < 0) = false := decide_eq_false (by omega)
  have hkn : decide ((n : Int) ≤ (k : Int)) = false := decide_eq_false (by omega)
  have hn6 : decide ((65536 : Int) < (n : Int)) = false := decide_eq_false (by omega)
  have cx := CK.out _ G0.out.bel
  have cx2 := CK.out _ GI.out.bel
  have hcl : ((cls o : Nat) : Int) = 4 := by omega
  rw [hcl] at HC
  unfold vI at HR
  unfold vG vI
  clear hcl
  have E0 := wr64 (k : Int) (by omega)
  have GA := hid (gi_made G0.out o lw 0 0)
  have GB := hid (gi_made G0.out o lw 0 0)
  rw [show (w.alloc (.cells #[.int .u8 0, .int .i64 0, .int .i64 0, .int .i64 0] 37)).heap.size = w.heap.size + 1 by simp] at GA GB
  have hfz : decide ((n : Int) ≤ (k : Int) + 0) = false := decide_eq_false (by omega)
  have E3 := wr64 ((k : Int) + 0) (by omega)
  have E4 := wr64 ((k : Int) + 1) (by omega)
  have E5 := wr64 ((k : Int) + 1 + 0) (by omega)
  rw [show ((k + 1 : Nat) : Int) = (k : Int) + 1 + 0 by omega]
  obtain ⟨re, hre⟩ : ∃ re, rightE o lw 0 0 = re := ⟨_, rfl⟩
  have HRR := hid (HR.out lw 0 0)
  rw [hre] at HRR
  by_cases hok : okI o lw 0 0
  · rw [if_pos hok]
    obtain rfl : re = 0 := by rw [← hre]; exact if_pos hok
    clear hcls hf hok hre
    skip
    go_enter Try.func20, Try.ntmps20
    go_wp2_with (go_at_call 26; (with_reducible refine (HC.out _).mono ?_); rintro r wj ⟨rfl, ej⟩; rw [ej]; clear ej wj)
    refine (HRR.out _).mono ?_
    rintro r w9 ⟨rfl, b9⟩
    have G9 := hid (GB.out.below b9)
    clear b9
    dsimp only
    obtain ⟨c0, c1, c2, c3⟩ := G9.out.bx
    obtain ⟨p0, p1, p2, p3, p4, p5, p6, p7⟩ := G9.out.bz
    go_wp2_with fail
    refine bodyPost_ret (results_243 (by kernel_rfl : Try.f20.results = #[.cell 4 37, .tmp 5, .tmp 6]) _ _ w.heap.size _ _ _ rfl (row_set4 _ _ _ _ G9.out.ra) rfl) rfl ?_
    exact ⟨rfl, bel_set4 _ _ _ _ G9.out.bel (Nat.le_refl _)⟩
  · rw [if_neg hok]
    obtain rfl : re = 110 := by rw [← hre]; exact if_neg hok
    clear hcls hf hok hre
    skip
    unfold noG
    go_enter Try.func20, Try.ntmps20
    go_wp2_with (go_at_call 26; (with_reducible refine (HC.out _).mono ?_); rintro r wj ⟨rfl, ej⟩; rw [ej]; clear ej wj)
    refine (HRR.out _).mono ?_
    rintro r w9 ⟨rfl, b9⟩
    have G9 := hid (GB.out.below b9)
    clear b9
    dsimp only
    obtain ⟨p0, p1, p2, p3, p4, p5, p6, p7⟩ := G9.out.bz
    go_wp2_with fail
    refine bodyPost_ret (results_243 (by kernel_rfl : Try.f20.results = #[.cell 4 37, .tmp 5, .tmp 6]) _ _ w.heap.size _ _ _ rfl (row_set4 _ _ _ _ G9.out.ra) rfl) rfl ?_
    exact ⟨rfl, bel_set4 _ _ _ _ G9.out.bel (Nat.le_refl _)⟩
set_option maxRecDepth 10000 in
set_option maxHeartbeats 4000000 in
theorem rg_5a_ok (ad : Addr) (n c : Nat) (w : World) (k x : Nat) (hk : k < n) (hn : n ≤ 8000) (hc : n ≤ c) (hx8 : x < 256) (CK : Hid (∀ W, Below w.heap.size w W → W.cell? (ad.add k) = some (.int .u8 (x : Nat)))) (o lw : Int) (hq : (x : Int) / 8 = o) (hr : (x : Int) % 8 = lw) (hcls : (cls o : Nat) = 5) (hl : lw ≠ 7) (hf : k + 0 < n) :
    Calls Try.prog 20 #[.slice (some ad) n c, .int .i64 (k : Nat)] w fun e w' => e = .returned (vG (if okI o 0 lw 0 then ⟨o, 0, lw, 0, ((k + 1 : Nat) : Int), 0⟩ else noG 110)) ∧ Below w.heap.size w w' := by
  have hl7 : (lw == 7) = false := by simpa using hl
  have HC := hid (fun w => class_any o (by omega) w)
  have HR := hid (fun d s n w => RefRight_any o d s n (by omega) w)
  have G0 := hid (g1_made w)
  have GI := hid (gi_made G0.out o 0 0 0)
  rw [show (w.alloc (.cells #[.int .u8 0, .int .i64 0, .int .i64 0, .int .i64 0] 37)).heap.size = w.heap.size + 1 by simp] at GI
  have hkz : (k : Int) < (n : Int) := by omega
  have hnz : (n : Int) ≤ 8000 := by omega
  have hk0 : decide ((k : Int) < 0) = false := decide_eq_false (by omega)
  have hkn : decide ((n : Int) ≤ (k : Int)) = false := decide_eq_false (by omega)
  have hn6 : decide ((65536 : Int) < (n : Int)) = false := decide_eq_false (by omega)
  have cx := CK.out _ G0.out.bel
  have cx2 := CK.out _ GI.out.bel
  have hcl : ((cls o : Nat) : Int) = 5 := by omega
  rw [hcl] at HC
  unfold vI at HR
  unfold vG vI
  clear hcl
  have E0 := wr64 (k : Int) (by omega)
  have GA := hid (gi_made G0.out o 0 lw 0)
  have GB := hid (gi_made G0.out o 0 lw 0)
  rw [show (w.alloc (.cells #[.int .u8 0, .int .i64 0, .int .i64 0, .int .i64 0] 37)).heap.size = w.heap.size + 1 by simp] at GA GB
  have hfz : decide ((n : Int) ≤ (k : Int) + 0) = false := decide_eq_false (by omega)
  have E3 := wr64 ((k : Int) + 0) (by omega)
  have E4 := wr64 ((k : Int) + 1) (by omega)
  have E5 := wr64 ((k : Int) + 1 + 0) (by omega)
  rw [show ((k + 1 : Nat) : Int) = (k : Int) + 1 + 0 by omega]
  obtain ⟨re, hre⟩ : ∃ re, rightE o 0 lw 0 = re := ⟨_, rfl⟩
  have HRR := hid (HR.out 0 lw 0)
  rw [hre] at HRR
  by_cases hok : okI o 0 lw 0
  · rw [if_pos hok]
    obtain rfl : re = 0 := by rw [← hre]; exact if_pos hok
    clear hcls hf hok hre
    skip
    go_enter Try.func20, Try.ntmps20
    go_wp2_with (go_at_call 26; (with_reducible refine (HC.out _).mono ?_); rintro r wj ⟨rfl, ej⟩; rw [ej]; clear ej wj)
    refine (HRR.out _).mono ?_
    rintro r w9 ⟨rfl, b9⟩
    have G9 := hid (GB.out.below b9)
    clear b9
    dsimp only
    obtain ⟨c0, c1, c2, c3⟩ := G9.out.bx
    obtain ⟨p0, p1, p2, p3, p4, p5, p6, p7⟩ := G9.out.bz
    go_wp2_with fail
    refine bodyPost_ret (results_243 (by kernel_rfl : Try.f20.results = #[.cell 4 37, .tmp 5, .tmp 6]) _ _ w.heap.size _ _ _ rfl (row_set4 _ _ _ _ G9.out.ra) rfl) rfl ?_
    exact ⟨rfl, bel_set4 _ _ _ _ G9.out.bel (Nat.le_refl _)⟩
  · rw [if_neg hok]
    obtain rfl : re = 110 := by rw [← hre]; exact if_neg hok
    clear hcls hf hok hre
    skip
    unfold noG
    go_enter Try.func20, Try.ntmps20
    go_wp2_with (go_at_call 26; (with_reducible refine (HC.out _).mono ?_); rintro r wj ⟨rfl, ej⟩; rw [ej]; clear ej wj)
    refine (HRR.out _).mono ?_
    rintro r w9 ⟨rfl, b9⟩
    have G9 := hid (GB.out.below b9)
    clear b9
    dsimp only
    obtain ⟨p0, p1, p2, p3, p4, p5, p6, p7⟩ := G9.out.bz
    go_wp2_with fail
    refine bodyPost_ret (results_243 (by kernel_rfl : Try.f20.results = #[.cell 4 37, .tmp 5, .tmp 6]) _ _ w.heap.size _ _ _ rfl (row_set4 _ _ _ _ G9.out.ra) rfl) rfl ?_
    exact ⟨rfl, bel_set4 _ _ _ _ G9.out.bel (Nat.le_refl _)⟩
set_option maxRecDepth 10000 in
set_option maxHeartbeats 4000000 in
theorem rg_5b_short (ad : Addr) (n c : Nat) (w : World) (k x : Nat) (hk : k < n) (hn : n ≤ 8000) (hc : n ≤ c) (hx8 : x < 256) (CK : Hid (∀ W, Below w.heap.size w W → W.cell? (ad.add k) = some (.int .u8 (x : Nat)))) (o lw : Int) (hq : (x : Int) / 8 = o) (hr : (x : Int) % 8 = lw) (hcls : (cls o : Nat) = 5) (hl : lw = 7) (hf : n ≤ k + 1) :
    Calls Try.prog 20 #[.slice (some ad) n c, .int .i64 (k : Nat)] w fun e w' => e = .returned (vG (noG 12)) ∧ Below w.heap.size w w' := by
  subst hl
  have HC := hid (fun w => class_any o (by omega) w)
  have HR := hid (fun d s n w => RefRight_any o d s n (by omega) w)
  have G0 := hid (g1_made w)
  have GI := hid (gi_made G0.out o 0 0 0)
  rw [show (w.alloc (.cells #[.int .u8 0, .int .i64 0, .int .i64 0, .int .i64 0] 37)).heap.size = w.heap.size + 1 by simp] at GI
  have hkz : (k : Int) < (n : Int) := by omega
  have hnz : (n : Int) ≤ 8000 := by omega
  have hk0 : decide ((k : Int) < 0) = false := decide_eq_false (by omega)
  have hkn : decide ((n : Int) ≤ (k : Int)) = false := decide_eq_false (by omega)
  have hn6 : decide ((65536 : Int) < (n : Int)) = false := decide_eq_false (by omega)
  have cx := CK.out _ G0.out.bel
  have cx2 := CK.out _ GI.out.bel
  have hcl : ((cls o : Nat) : Int) = 5 := by omega
  rw [hcl] at HC
  unfold vI at HR
  unfold vG vI
  clear hcl
  have E0 := wr64 (k : Int) (by omega)
  have GX := (gi_made G0.out o 0 7 0).toG1
  have hfz : decide ((n : Int) ≤ (k : Int) + 1) = true := decide_eq_true (by omega)
  have E3 := wr64 ((k : Int) + 1) (by omega)
  have e3 := E3.out
  have e0 := E0.out
  unfold noG
  clear hcls hf
  go_enter Try.func20, Try.ntmps20
  go_wp2_with (go_at_call 26; (with_reducible refine (HC.out _).mono ?_); rintro r wj ⟨rfl, ej⟩; rw [ej]; clear ej wj)
  refine bodyPost_ret (results_243 (by kernel_rfl : Try.f20.results = #[.cell 4 37, .tmp 5, .tmp 6]) _ _ w.heap.size _ _ _ rfl GX.ra rfl) rfl ?_
  exact ⟨rfl, GX.bel⟩
set_option maxRecDepth 10000 in
set_option maxHeartbeats 4000000 in
theorem rg_5b_ok (ad : Addr) (n c : Nat) (w : World) (k x : Nat) (hk : k < n) (hn : n ≤ 8000) (hc : n ≤ c) (hx8 : x < 256) (CK : Hid (∀ W, Below w.heap.size w W → W.cell? (ad.add k) = some (.int .u8 (x : Nat)))) (o lw : Int) (hq : (x : Int) / 8 = o) (hr : (x : Int) % 8 = lw) (hcls : (cls o : Nat) = 5) (hl : lw = 7) (hf : k + 1 < n) (y0 : Nat) (hy0 : y0 < 256) (C0 : Hid (∀ W, Below w.heap.size w W → W.cell? (ad.add (k + 1)) = some (.int .u8 (y0 : Nat)))) :
    Calls Try.prog 20 #[.slice (some ad) n c, .int .i64 (k : Nat)] w fun e w' => e = .returned (vG (if okI o 0 7 (y0 : Nat) then ⟨o, 0, 7, (y0 : Nat), ((k + 2 : Nat) : Int), 0⟩ else noG 110)) ∧ Below w.heap.size w w' := by
  subst hl
  have HC := hid (fun w => class_any o (by omega) w)
  have HR := hid (fun d s n w => RefRight_any o d s n (by omega) w)
  have G0 := hid (g1_made w)
  have GI := hid (gi_made G0.out o 0 0 0)
  rw [show (w.alloc (.cells #[.int .u8 0, .int .i64 0, .int .i64 0, .int .i64 0] 37)).heap.size = w.heap.size + 1 by simp] at GI
  have hkz : (k : Int) < (n : Int) := by omega
  have hnz : (n : Int) ≤ 8000 := by omega
  have hk0 : decide ((k : Int) < 0) = false := decide_eq_false (by omega)
  have hkn : decide ((n : Int) ≤ (k : Int)) = false := decide_eq_false (by omega)
  have hn6 : decide ((65536 : Int) < (n : Int)) = false := decide_eq_false (by omega)
  have cx := CK.out _ G0.out.bel
  have cx2 := CK.out _ GI.out.bel
  have hcl : ((cls o : Nat) : Int) = 5 := by omega
  rw [hcl] at HC
  unfold vI at HR
  unfold vG vI
  clear hcl
  have E0 := wr64 (k : Int) (by omega)
  have GA := hid (gi_made G0.out o 0 7 0)
  have GB := hid (gi_made G0.out o 0 7 (y0 : Nat))
  rw [show (w.alloc (.cells #[.int .u8 0, .int .i64 0, .int .i64 0, .int .i64 0] 37)).heap.size = w.heap.size + 1 by simp] at GA GB
  have hfz : decide ((n : Int) ≤ (k : Int) + 1) = false := decide_eq_false (by omega)
  have E3 := wr64 ((k : Int) + 1) (by omega)
  have E4 := wr64 ((k : Int) + 1) (by omega)
  have E5 := wr64 ((k : Int) + 1 + 1) (by omega)
  have cy0 := C0.out _ GA.out.bel
  have cz0 : ((w.alloc (.cells #[.int .u8 0, .int .i64 0, .int .i64 0, .int .i64 0] 37)).alloc (.cells #[.int .u8 o, .int .i64 0, .int .i64 7, .int .i64 0] 37)).cell? ⟨ad.block, ad.off + (k + 1), none⟩ = some (.int .u8 (y0 : Nat)) := by simpa [Addr.add] using cy0
  have hi0 : (k : Int) + 1 < (n : Int) := by omega
  have hj0 : k + 1 < n := by omega
  rw [show ((k + 2 : Nat) : Int) = (k : Int) + 1 + 1 by omega]
  obtain ⟨re, hre⟩ : ∃ re, rightE o 0 7 (y0 : Nat) = re := ⟨_, rfl⟩
  have HRR := hid (HR.out 0 7 (y0 : Nat))
  rw [hre] at HRR
  by_cases hok : okI o 0 7 (y0 : Nat)
  · rw [if_pos hok]
    obtain rfl : re = 0 := by rw [← hre]; exact if_pos hok
    clear hcls hf hok hre
    skip
    go_enter Try.func20, Try.ntmps20
    go_wp2_with (go_at_call 26; (with_reducible refine (HC.out _).mono ?_); rintro r wj ⟨rfl, ej⟩; rw [ej]; clear ej wj)
    refine (HRR.out _).mono ?_
    rintro r w9 ⟨rfl, b9⟩
    have G9 := hid (GB.out.below b9)
    clear b9
    dsimp only
    obtain ⟨c0, c1, c2, c3⟩ := G9.out.bx
    obtain ⟨p0, p1, p2, p3, p4, p5, p6, p7⟩ := G9.out.bz
    go_wp2_with fail
    refine bodyPost_ret (results_243 (by kernel_rfl : Try.f20.results = #[.cell 4 37, .tmp 5, .tmp 6]) _ _ w.heap.size _ _ _ rfl (row_set4 _ _ _ _ G9.out.ra) rfl) rfl ?_
    exact ⟨rfl, bel_set4 _ _ _ _ G9.out.bel (Nat.le_refl _)⟩
  · rw [if_neg hok]
    obtain rfl : re = 110 := by rw [← hre]; exact if_neg hok
    clear hcls hf hok hre
    skip
    unfold noG
    go_enter Try.func20, Try.ntmps20
    go_wp2_with (go_at_call 26; (with_reducible refine (HC.out _).mono ?_); rintro r wj ⟨rfl, ej⟩; rw [ej]; clear ej wj)
    refine (HRR.out _).mono ?_
    rintro r w9 ⟨rfl, b9⟩
    have G9 := hid (GB.out.below b9)
    clear b9
    dsimp only
    obtain ⟨p0, p1, p2, p3, p4, p5, p6, p7⟩ := G9.out.bz
    go_wp2_with fail
    refine bodyPost_ret (results_243 (by kernel_rfl : Try.f20.results = #[.cell 4 37, .tmp 5, .tmp 6]) _ _ w.heap.size _ _ _ rfl (row_set4 _ _ _ _ G9.out.ra) rfl) rfl ?_
    exact ⟨rfl, bel_set4 _ _ _ _ G9.out.bel (Nat.le_refl _)⟩
set_option maxRecDepth 10000 in
set_option maxHeartbeats 4000000 in
theorem rg_6_bad (ad : Addr) (n c : Nat) (w : World) (k x : Nat) (hk : k < n) (hn : n ≤ 8000) (hc : n ≤ c) (hx8 : x < 256) (CK : Hid (∀ W, Below w.heap.size w W → W.cell? (ad.add k) = some (.int .u8 (x : Nat)))) (o lw : Int) (hq : (x : Int) / 8 = o) (hr : (x : Int) % 8 = lw) (hcls : (cls o : Nat) = 6) (hl : 3 < lw) :
    Calls Try.prog 20 #[.slice (some ad) n c, .int .i64 (k : Nat)] w fun e w' => e = .returned (vG (noG 110)) ∧ Below w.heap.size w w' := by
  have hl3 : decide (3 < lw) = true := decide_eq_true hl
  have HC := hid (fun w => class_any o (by omega) w)
  have HR := hid (fun d s n w => RefRight_any o d s n (by omega) w)
  have G0 := hid (g1_made w)
  have GI := hid (gi_made G0.out o 0 0 0)
  rw [show (w.alloc (.cells #[.int .u8 0, .int .i64 0, .int .i64 0, .int .i64 0] 37)).heap.size = w.heap.size + 1 by simp] at GI
  have hkz : (k : Int) < (n : Int) := by omega
  have hnz : (n : Int) ≤ 8000 := by omega
  have hk0 : decide ((k : Int) < 0) = false := decide_eq_false (by omega)
  have hkn : decide ((n : Int) ≤ (k : Int)) = false := decide_eq_false (by omega)
  have hn6 : decide ((65536 : Int) < (n : Int)) = false := decide_eq_false (by omega)
  have cx := CK.out _ G0.out.bel
  have cx2 := CK.out _ GI.out.bel
  have hcl : ((cls o : Nat) : Int) = 6 := by omega
  rw [hcl] at HC
  unfold vI at HR
  unfold vG vI
  clear hcl
  have E0 := wr64 (k : Int) (by omega)
  have GX := GI.out.toG1
  have e0 := E0.out
  unfold noG
  clear hcls
  go_enter Try.func20, Try.ntmps20
  go_wp2_with (go_at_call 26; (with_reducible refine (HC.out _).mono ?_); rintro r wj ⟨rfl, ej⟩; rw [ej]; clear ej wj)
  refine bodyPost_ret (results_243 (by kernel_rfl : Try.f20.results = #[.cell 4 37, .tmp 5, .tmp 6]) _ _ w.heap.size _ _ _ rfl GX.ra rfl) rfl ?_
  exact ⟨rfl, GX.bel⟩
set_option maxRecDepth 10000 in
set_option maxHeartbeats 4000000 in
theorem rg_6_short (ad : Addr) (n c : Nat) (w : World) (k x : Nat) (hk : k < n) (hn : n ≤ 8000) (hc : n ≤ c) (hx8 : x < 256) (CK : Hid (∀ W, Below w.heap.size w W → W.cell? (ad.add k) = some (.int .u8 (x : Nat)))) (o lw : Int) (hq : (x : Int) / 8 = o) (hr : (x : Int) % 8 = lw) (hcls : (cls o : Nat) = 6) (hl : ¬ 3 < lw) (hf : n ≤ k + 1) :
    Calls Try.prog 20 #[.slice (some ad) n c, .int .i64 (k : Nat)] w fun e w' => e = .returned (vG (noG 12)) ∧ Below w.heap.size w w' := by
  have hl3 : decide (3 < lw) = false := decide_eq_false hl
  have HC := hid (fun w => class_any o (by omega) w)
  have HR := hid (fun d s n w => RefRight_any o d s n (by omega) w)
  have G0 := hid (g1_made w)
  have GI := hid (gi_made G0.out o 0 0 0)
  rw [show (w.alloc (.cells #[.int .u8 0, .int .i64 0, .int .i64 0, .int .i64 0] 37)).heap.size = w.heap.size + 1 by simp] at GI
  have hkz : (k : Int) < (n : Int) := by omega
  have hnz : (n : Int) ≤ 8000 := by omega
  have hk0 : decide ((k : Int) < 0) = false := decide_eq_false (by omega)
  have hkn : decide ((n : Int) ≤ (k : Int)) = false := decide_eq_false (by omega)
  have hn6 : decide ((65536 : Int) < (n : Int)) = false := decide_eq_false (by omega)
  have cx := CK.out _ G0.out.bel
  have cx2 := CK.out _ GI.out.bel
  have hcl : ((cls o : Nat) : Int) = 6 := by omega
  rw [hcl] at HC
  unfold vI at HR
  unfold vG vI
  clear hcl
  have E0 := wr64 (k : Int) (by omega)
  have GX := (gi_made G0.out o lw 0 0).toG1
  have hfz : decide ((n : Int) ≤ (k : Int) + 1) = true := decide_eq_true (by omega)
  have E3 := wr64 ((k : Int) + 1) (by omega)
  have e3 := E3.out
  have e0 := E0.out
  unfold noG
  clear hcls hf
  go_enter Try.func20, Try.ntmps20
  go_wp2_with (go_at_call 26; (with_reducible refine (HC.out _).mono ?_); rintro r wj ⟨rfl, ej⟩; rw [ej]; clear ej wj)
  refine bodyPost_ret (results_243 (by kernel_rfl : Try.f20.results = #[.cell 4 37, .tmp 5, .tmp 6]) _ _ w.heap.size _ _ _ rfl GX.ra rfl) rfl ?_
  exact ⟨rfl, GX.bel⟩
set_option maxRecDepth 10000 in
set_option maxHeartbeats 4000000 in
theorem rg_6_ok (ad : Addr) (n c : Nat) (w : World) (k x : Nat) (hk : k < n) (hn : n ≤ 8000) (hc : n ≤ c) (hx8 : x < 256) (CK : Hid (∀ W, Below w.heap.size w W → W.cell? (ad.add k) = some (.int .u8 (x : Nat)))) (o lw : Int) (hq : (x : Int) / 8 = o) (hr : (x : Int) % 8 = lw) (hcls : (cls o : Nat) = 6) (hl : ¬ 3 < lw) (hf : k + 1 < n) (y0 : Nat) (hy0 : y0 < 256) (C0 : Hid (∀ W, Below w.heap.size w W → W.cell? (ad.add (k + 1)) = some (.int .u8 (y0 : Nat)))) :
    Calls Try.prog 20 #[.slice (some ad) n c, .int .i64 (k : Nat)] w fun e w' => e = .returned (vG (if okI o lw 0 (y0 : Nat) then ⟨o, lw, 0, (y0 : Nat), ((k + 2 : Nat) : Int), 0⟩ else noG 110)) ∧ Below w.heap.size w w' := by
  have hl3 : decide (3 < lw) = false := decide_eq_false hl
  have HC := hid (fun w => class_any o (by omega) w)
  have HR := hid (fun d s n w => RefRight_any o d s n (by omega) w)
  have G0 := hid (g1_made w)
  have GI := hid (gi_made G0.out o 0 0 0)
  rw [show (w.alloc (.cells #[.int .u8 0, .int .i64 0, .int .i64 0, .int .i64 0] 37)).heap.size = w.heap.size + 1 by simp] at GI
  have hkz : (k : Int) < (n : Int) := by omega
  have hnz : (n : Int) ≤ 8000 := by omega
  have hk0 : decide ((k : Int) < 0) = false := decide_eq_false (by omega)
  have hkn : decide ((n : Int) ≤ (k : Int)) = false := decide_eq_false (by omega)
  have hn6 : decide ((65536 : Int) < (n : Int)) = false := decide_eq_false (by omega)
  have cx := CK.out _ G0.out.bel
  have cx2 := CK.out _ GI.out.bel
  have hcl : ((cls o : Nat) : Int) = 6 := by omega
  rw [hcl] at HC
  unfold vI at HR
  unfold vG vI
  clear hcl
  have E0 := wr64 (k : Int) (by omega)
  have GA := hid (gi_made G0.out o lw 0 0)
  have GB := hid (gi_made G0.out o lw 0 (y0 : Nat))
  rw [show (w.alloc (.cells #[.int .u8 0, .int .i64 0, .int .i64 0, .int .i64 0] 37)).heap.size = w.heap.size + 1 by simp] at GA GB
  have hfz : decide ((n : Int) ≤ (k : Int) + 1) = false := decide_eq_false (by omega)
  have E3 := wr64 ((k : Int) + 1) (by omega)
  have E4 := wr64 ((k : Int) + 1) (by omega)
  have E5 := wr64 ((k : Int) + 1 + 1) (by omega)
  have cy0 := C0.out _ GA.out.bel
  have cz0 : ((w.alloc (.cells #[.int .u8 0, .int .i64 0, .int .i64 0, .int .i64 0] 37)).alloc (.cells #[.int .u8 o, .int .i64 lw, .int .i64 0, .int .i64 0] 37)).cell? ⟨ad.block, ad.off + (k + 1), none⟩ = some (.int .u8 (y0 : Nat)) := by simpa [Addr.add] using cy0
  have hi0 : (k : Int) + 1 < (n : Int) := by omega
  have hj0 : k + 1 < n := by omega
  rw [show ((k + 2 : Nat) : Int) = (k : Int) + 1 + 1 by omega]
  obtain ⟨re, hre⟩ : ∃ re, rightE o lw 0 (y0 : Nat) = re := ⟨_, rfl⟩
  have HRR := hid (HR.out lw 0 (y0 : Nat))
  rw [hre] at HRR
  by_cases hok : okI o lw 0 (y0 : Nat)
  · rw [if_pos hok]
    obtain rfl : re = 0 := by rw [← hre]; exact if_pos hok
    clear hcls hf hok hre
    skip
    go_enter Try.func20, Try.ntmps20
    go_wp2_with (go_at_call 26; (with_reducible refine (HC.out _).mono ?_); rintro r wj ⟨rfl, ej⟩; rw [ej]; clear ej wj)
    refine (HRR.out _).mono ?_
    rintro r w9 ⟨rfl, b9⟩
    have G9 := hid (GB.out.below b9)
    clear b9
    dsimp only
    obtain ⟨c0, c1, c2, c3⟩ := G9.out.bx
    obtain ⟨p0, p1, p2, p3, p4, p5, p6, p7⟩ := G9.out.bz
    go_wp2_with fail
    refine bodyPost_ret (results_243 (by kernel_rfl : Try.f20.results = #[.cell 4 37, .tmp 5, .tmp 6]) _ _ w.heap.size _ _ _ rfl (row_set4 _ _ _ _ G9.out.ra) rfl) rfl ?_
    exact ⟨rfl, bel_set4 _ _ _ _ G9.out.bel (Nat.le_refl _)⟩
  · rw [if_neg hok]
    obtain rfl : re = 110 := by rw [← hre]; exact if_neg hok
    clear hcls hf hok hre
    skip
    unfold noG
    go_enter Try.func20, Try.ntmps20
    go_wp2_with (go_at_call 26; (with_reducible refine (HC.out _).mono ?_); rintro r wj ⟨rfl, ej⟩; rw [ej]; clear ej wj)
    refine (HRR.out _).mono ?_
    rintro r w9 ⟨rfl, b9⟩
    have G9 := hid (GB.out.below b9)
    clear b9
    dsimp only
    obtain ⟨p0, p1, p2, p3, p4, p5, p6, p7⟩ := G9.out.bz
    go_wp2_with fail
    refine bodyPost_ret (results_243 (by kernel_rfl : Try.f20.results = #[.cell 4 37, .tmp 5, .tmp 6]) _ _ w.heap.size _ _ _ rfl (row_set4 _ _ _ _ G9.out.ra) rfl) rfl ?_
    exact ⟨rfl, bel_set4 _ _ _ _ G9.out.bel (Nat.le_refl _)⟩
end Go.Proofs.Ytdlmcfknmdaabaa
