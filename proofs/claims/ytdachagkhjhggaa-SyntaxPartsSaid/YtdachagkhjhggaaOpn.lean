/-
  A tree of statements that came in.
-/
import Derived.Test.YtdachagkhjhggaaTre
import Derived.Test.YtdachagkhjhggaaRea
import Derived.Deep.Slices
import Derived.ProofKit
import Derived.OpenShut
import Derived.SizedLaws
namespace Go.Proofs.Ytdachagkhjhggaa
open Go.RowKit Go.ChangeShapes Go.WideShapes Go.ChangeAt
set_option linter.unusedVariables false
set_option linter.unusedSimpArgs false

theorem u42 : Try.prog.underlying 42 = some (.struct #[⟨"Kind", 35, 0, false, "", "", 0⟩, ⟨"Ins", 38, 1, false, "", "", 8⟩, ⟨"Cond", 40, 5, false, "", "", 40⟩, ⟨"Body", 22, 10, false, "", "", 80⟩, ⟨"Else", 22, 11, false, "", "", 104⟩, ⟨"Line", 3, 12, false, "", "", 128⟩]) := by kernel_rfl
theorem u38 : Try.prog.underlying 38 = some (.struct #[⟨"Op", 36, 0, false, "", "", 0⟩, ⟨"D", 3, 1, false, "", "", 8⟩, ⟨"S", 3, 2, false, "", "", 16⟩, ⟨"N", 3, 3, false, "", "", 24⟩]) := by kernel_rfl
theorem u40 : Try.prog.underlying 40 = some (.struct #[⟨"Not", 4, 0, false, "", "", 0⟩, ⟨"Ins", 38, 1, false, "", "", 8⟩]) := by kernel_rfl
theorem u35 : Try.prog.underlying 35 = some (.int .u8) := by kernel_rfl
theorem u36 : Try.prog.underlying 36 = some (.int .u8) := by kernel_rfl
theorem cells42 : Try.prog.cellsOf 42 = 13 := by kernel_rfl
theorem cells38 : Try.prog.cellsOf 38 = 4 := by kernel_rfl
theorem cells40 : Try.prog.cellsOf 40 = 5 := by kernel_rfl
theorem cells35 : Try.prog.cellsOf 35 = 1 := by kernel_rfl
theorem cells36 : Try.prog.cellsOf 36 = 1 := by kernel_rfl
theorem cells22 : Try.prog.cellsOf 22 = 1 := by kernel_rfl
theorem cells3 : Try.prog.cellsOf 3 = 1 := by kernel_rfl
theorem cells4 : Try.prog.cellsOf 4 = 1 := by kernel_rfl
theorem bytes42 : Try.prog.bytesOf 42 = 136 := by kernel_rfl
theorem weightsAll_mem {H : Type} {P : Program} {e : TypeId} : ∀ {l : List (DataW H)} {d : DataW H}, d ∈ l → ∀ n ∈ d.weights P e, n ∈ DataW.weightsAll P e l
  | d' :: r, d, hd, n, hn => by
    simp only [DataW.weightsAll, List.mem_append]
    rcases List.mem_cons.1 hd with rfl | h
    · exact Or.inl hn
    · exact Or.inr (weightsAll_mem h n hn)
section
variable {H : Type} {enc : TypeId × Value → H} {w : World} {held : Bool}
/-- What a reading of a slice of statements gives, at fuels below n. -/
def Opens (enc : TypeId × Value → H) (w : World) (held : Bool) (n : Nat) : Prop := ∀ fuel, fuel < n → ∀ (a : Option Addr) (len cap : Nat) (x : DataW H × List MemPlace),
  DataW.trod enc Try.prog w 0 (fun _ => true) held fuel 22 [.slice a len cap] = some x → (∀ k ∈ x.1.weights Try.prog 22, k ≤ reachBytes) → ∃ t, Sl w w.heap.size t a len cap ∧ t.wf
theorem ins_at {fuel : Nat} {cs : List Value} {x : DataW H × List MemPlace} (h : DataW.trod enc Try.prog w 0 (fun _ => true) held fuel 38 cs = some x) : ∃ o d s n : Int, 0 ≤ o ∧ cs = [.int .u8 o, .int .i64 d, .int .i64 s, .int .i64 n] := by
  obtain ⟨xs, n, _, rfl, hl, hlen, hf⟩ := DataW.trod_struct u38 h
  match xs, hlen with
  | [y0, y1, y2, y3], _ =>
    have h0 := hf 0 _ rfl
    have h1 := hf 1 _ rfl
    have h2 := hf 2 _ rfl
    have h3 := hf 3 _ rfl
    rw [cells38] at hl
    match cs, hl with
    | [c0, c1, c2, c3], _ =>
      simp [cells3, cells36] at h0 h1 h2 h3
      obtain ⟨O, e0, _, w0⟩ := DataW.trod_int u36 h0
      obtain ⟨D, e1, _, _⟩ := DataW.trod_int Try.underlying3 h1
      obtain ⟨S, e2, _, _⟩ := DataW.trod_int Try.underlying3 h2
      obtain ⟨Nn, e3, _, _⟩ := DataW.trod_int Try.underlying3 h3
      simp at e0 e1 e2 e3
      subst e0 e1 e2 e3
      have b0 := bounds_u8 w0
      exact ⟨O, D, S, Nn, by omega, rfl⟩
theorem cond_at {fuel : Nat} {cs : List Value} {x : DataW H × List MemPlace} (h : DataW.trod enc Try.prog w 0 (fun _ => true) held fuel 40 cs = some x) : ∃ (nt : Bool) (o d s n : Int), 0 ≤ o ∧ cs = [.bool nt, .int .u8 o, .int .i64 d, .int .i64 s, .int .i64 n] := by
  obtain ⟨xs, n, _, rfl, hl, hlen, hf⟩ := DataW.trod_struct u40 h
  match xs, hlen with
  | [y0, y1], _ =>
    have h0 := hf 0 _ rfl
    have h1 := hf 1 _ rfl
    rw [cells40] at hl
    match cs, hl with
    | [c0, c1, c2, c3, c4], _ =>
      simp [cells38, cells4] at h0 h1
      obtain ⟨nt, e0, _⟩ := DataW.trod_bool Try.underlying4 h0
      obtain ⟨o, d, s, n, ho, e1⟩ := ins_at h1
      simp at e0 e1
      obtain ⟨rfl, rfl, rfl, rfl⟩ := e1
      subst e0
      exact ⟨nt, o, d, s, n, ho, rfl⟩
/-- The slice of a list within a statement. -/
theorem slice_at {fuel n : Nat} {c : Value} {x : DataW H × List MemPlace} (hO : Opens enc w held n) (hn : fuel < n) (h : DataW.trod enc Try.prog w 0 (fun _ => true) held fuel 22 [c] = some x) (hw : ∀ k ∈ x.1.weights Try.prog 22, k ≤ reachBytes) : ∃ a len cap t, c = .slice a len cap ∧ Sl w w.heap.size t a len cap ∧ t.wf := by
  rcases DataW.trod_slice Try.underlying22 h with ⟨hcs, _⟩ | ⟨ad, l, c', elems, rest, m, _, hcs, _⟩
  · simp at hcs
    subst hcs
    obtain ⟨t, h1, h2⟩ := hO fuel hn _ _ _ x h hw
    exact ⟨_, _, _, t, rfl, h1, h2⟩
  · simp at hcs
    subst hcs
    obtain ⟨t, h1, h2⟩ := hO fuel hn _ _ _ x h hw
    exact ⟨_, _, _, t, rfl, h1, h2⟩
theorem stmt_at {fuel n : Nat} {cs : List Value} {x : DataW H × List MemPlace} (hO : Opens enc w held n) (hn : fuel ≤ n) (h : DataW.trod enc Try.prog w 0 (fun _ => true) held fuel 42 cs = some x) (hw : ∀ k ∈ x.1.weights Try.prog 42, k ≤ reachBytes) :
    ∃ (y : Sd) (b e : Tr) (Ab : Option Addr) (nb cb : Nat) (Ae : Option Addr) (ne ce : Nat), cs = cells13 y (.slice Ab nb cb) (.slice Ae ne ce) ∧ (0 ≤ y.o ∧ 0 ≤ y.co) ∧ (Sl w w.heap.size b Ab nb cb ∧ b.wf) ∧ (Sl w w.heap.size e Ae ne ce ∧ e.wf) := by
  obtain ⟨xs, m, hfm, rfl, hl, hlen, hf⟩ := DataW.trod_struct u42 h
  match xs, hlen with
  | [y0, y1, y2, y3, y4, y5], _ =>
    have h0 := hf 0 _ rfl
    have h1 := hf 1 _ rfl
    have h2 := hf 2 _ rfl
    have h3 := hf 3 _ rfl
    have h4 := hf 4 _ rfl
    have h5 := hf 5 _ rfl
    rw [cells42] at hl
    have w3 : ∀ k ∈ y3.1.weights Try.prog 22, k ≤ reachBytes := fun k hk => hw k (by
      simp only [DataW.weights, u42, List.map_cons, List.map_nil]
      exact DataW.weights_mem_each (j := 3) (t := 22) (d := y3.1) rfl rfl k hk)
    have w4 : ∀ k ∈ y4.1.weights Try.prog 22, k ≤ reachBytes := fun k hk => hw k (by
      simp only [DataW.weights, u42, List.map_cons, List.map_nil]
      exact DataW.weights_mem_each (j := 4) (t := 22) (d := y4.1) rfl rfl k hk)
    match cs, hl with
    | [c0, c1, c2, c3, c4, c5, c6, c7, c8, c9, c10, c11, c12], _ =>
      simp [cells3, cells35, cells38, cells40, cells22] at h0 h1 h2 h3 h4 h5
      obtain ⟨K, e0, _, _⟩ := DataW.trod_int u35 h0
      obtain ⟨o, d, s, n1, ho, e1⟩ := ins_at h1
      obtain ⟨nt, co, cd, cs', cn, hco, e2⟩ := cond_at h2
      obtain ⟨Ab, nb, cb, b, rfl, hb, hbw⟩ := slice_at hO (by omega) h3 w3
      obtain ⟨Ae, ne, ce, e, rfl, he, hew⟩ := slice_at hO (by omega) h4 w4
      obtain ⟨Ln, e5, _, _⟩ := DataW.trod_int Try.underlying3 h5
      simp at e0 e1 e2 e5
      obtain ⟨rfl, rfl, rfl, rfl⟩ := e1
      obtain ⟨rfl, rfl, rfl, rfl, rfl⟩ := e2
      subst e0 e5
      exact ⟨⟨K, o, d, s, n1, nt, co, cd, cs', cn, Ln⟩, b, e, Ab, nb, cb, Ae, ne, ce, rfl, ⟨ho, hco⟩, ⟨hb, hbw⟩, ⟨he, hew⟩⟩
theorem opens_all (n : Nat) : Opens enc w held n := by
  induction n with
  | zero => intro fuel hf; omega
  | succ n ih =>
    intro fuel hf a len cap x h hw
    rcases DataW.trod_slice Try.underlying22 h with ⟨hcs, _⟩ | ⟨ad, l, c, elems, rest, m, hm, hcs, hx, _, hl, hmx, hlen, hel, hsp, _⟩
    · simp at hcs
      obtain ⟨rfl, rfl, rfl⟩ := hcs
      exact ⟨.nil, sl_nil _ _, trivial⟩
    · simp at hcs
      obtain ⟨rfl, rfl, rfl⟩ := hcs
      have hsm : len * 136 ≤ reachBytes := by
        have := hw ((elems.length + rest.length) * 136) (by rw [hx]; simp only [DataW.weights, Try.underlying22, bytes42, List.length_map]; exact List.mem_cons_self)
        have h2 : len * 136 ≤ (elems.length + rest.length) * 136 := Nat.mul_le_mul_right _ (by omega)
        omega
      have hsm2 : len ≤ 140737488355328 := by unfold reachBytes at hsm; omega
      have each : ∀ i, i < len → ∃ (y : Sd) (b e : Tr) (Ab : Option Addr) (nb cb : Nat) (Ae : Option Addr) (ne ce : Nat), At13 w (ad.add (i * 13)) y (.slice Ab nb cb) (.slice Ae ne ce) ∧ (0 ≤ y.o ∧ 0 ≤ y.co) ∧ (Sl w w.heap.size b Ab nb cb ∧ b.wf) ∧ (Sl w w.heap.size e Ae ne ce ∧ e.wf) := by
        intro i hi
        have he := hel i hi
        have hil : i < elems.length := by omega
        rw [List.getElem?_eq_getElem hil] at he
        obtain ⟨cs', hc, ht⟩ := Option.bind_eq_some_iff.1 he
        rw [cells42] at hc
        obtain ⟨_, _, hat⟩ := World.cells?_some hc
        have hwe : ∀ k ∈ elems[i].1.weights Try.prog 42, k ≤ reachBytes := fun k hk => hw k (by
          rw [hx]
          simp only [DataW.weights, Try.underlying22]
          refine List.mem_cons_of_mem _ (List.mem_append_left _ (weightsAll_mem (List.mem_map.2 ⟨elems[i], List.getElem_mem hil, rfl⟩) k hk)))
        obtain ⟨y, b, e, Ab, nb, cb, Ae, ne, ce, rfl, h1, h2, h3⟩ := stmt_at ih (by omega) ht hwe
        exact ⟨y, b, e, Ab, nb, cb, Ae, ne, ce, ⟨hat 0 (by decide), hat 1 (by decide), hat 2 (by decide), hat 3 (by decide), hat 4 (by decide), hat 5 (by decide), hat 6 (by decide), hat 7 (by decide), hat 8 (by decide), hat 9 (by decide), hat 10 (by decide), hat 11 (by decide), hat 12 (by decide)⟩, h1, h2, h3⟩
      have build : ∀ j, j ≤ len → ∃ t : Tr, t.len = j ∧ Row w w.heap.size t (ad.add ((len - j) * 13)) ∧ t.wf := by
        intro j
        induction j with
        | zero => intro _; exact ⟨.nil, rfl, trivial, trivial⟩
        | succ j ihj =>
          intro hj
          obtain ⟨q, hql, hqr, hqw⟩ := ihj (by omega)
          obtain ⟨y, b, e, Ab, nb, cb, Ae, ne, ce, hat, h1, h2, h3⟩ := each (len - (j + 1)) (by omega)
          refine ⟨.st y b e q, by simp only [Tr.len, hql], row_st.2 ⟨lt_cell hat.c0, ⟨Ab, nb, cb, Ae, ne, ce, hat, h2.1, h3.1⟩, ?_⟩, h1, h2.2, h3.2, hqw⟩
          rw [add_of_add, show (len - (j + 1)) * 13 + 13 = (len - j) * 13 by omega]
          exact hqr
      obtain ⟨t, h1, h2, h3⟩ := build len (Nat.le_refl _)
      rw [Nat.sub_self, Nat.zero_mul] at h2
      exact ⟨t, ⟨h1, hl, hmx, hsm2, fun _ => ⟨ad, rfl, h2⟩⟩, h3⟩
theorem open_tree {fuel : Nat} {a : Option Addr} {len cap : Nat} {x : DataW H × List MemPlace} (h : DataW.trod enc Try.prog w 0 (fun _ => true) held fuel 22 [.slice a len cap] = some x) (hw : ∀ k ∈ x.1.weights Try.prog 22, k ≤ reachBytes) : ∃ t, Sl w w.heap.size t a len cap ∧ t.wf :=
  opens_all (fuel + 1) fuel (Nat.lt_succ_self _) a len cap x h hw
end
end Go.Proofs.Ytdachagkhjhggaa
