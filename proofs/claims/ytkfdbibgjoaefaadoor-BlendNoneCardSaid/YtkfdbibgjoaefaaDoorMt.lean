/-
  What a part's value answers for each of its methods: whose function it is, and what it is called on.
-/
import Derived.Test.YtkfdbibgjoaefaaDoorUm
import Derived.Laws.Sem
namespace Go.Proofs.YtkfdbibgjoaefaaDoor
open Go.RowKit

/-- A method of an interface's value: function K, called on R. -/
structure Mth (w : World) (T : TypeId) (x : Value) (name : String) (K : FuncId) (R : Value) : Prop where
  nil : (nilAhead 251 T x name).run Tryd.prog w = .ok (some false) w
  row : (method 251 T x name).run Tryd.prog w = .ok (K, R) w
theorem byte0 (T g : Nat) (w : World) (cs : Array Value) (h : w.heap[g]? = some (.cells cs T (0, 0))) (h0 : Tryd.prog.cellsOf T ≠ 0) (h1 : byteOfCell Tryd.prog Tryd.prog.depth T 0 = some 0) :
    (byteOf ⟨g, 0, none⟩).run Tryd.prog w = .ok 0 w := by
  have hs : w.shape? g = some (T, cs.size) := by unfold World.shape?; rw [h]
  unfold byteOf noView viewAt
  simp [hs, h0, h1]
theorem place0 (T g : Nat) (w : World) (cs : Array Value) (h : w.heap[g]? = some (.cells cs T (0, 0))) (h0 : Tryd.prog.cellsOf T ≠ 0) (h1 : byteOfCell Tryd.prog Tryd.prog.depth T 0 = some 0) :
    (partAt ⟨g, 0, none⟩ 0 0).run Tryd.prog w = .ok ⟨g, 0, none⟩ w := by
  unfold partAt
  simp [byte0 T g w cs h h0 h1]
noncomputable def rowM (P : TypeId) (name : String) := (Tryd.prog.info? P).map fun i => (i.methods.find? (·.name == name)).map fun m => (m.path, m.func)
noncomputable def rowF (T : TypeId) : Option (TypeId × Nat × Nat) := match Tryd.prog.underlying T with
  | some (.struct fields) => (fields[0]?).map fun f => (f.type, f.offset, f.byteOffset)
  | _ => none
theorem rowM_some {P : TypeId} {name : String} {x : Array FieldStep × Option (FuncId × Bool)} (h : rowM P name = some (some x)) : ∃ i m, Tryd.prog.info? P = some i ∧ i.methods.find? (·.name == name) = some m ∧ m.path = x.1 ∧ m.func = x.2 := by
  unfold rowM at h
  generalize Tryd.prog.info? P = o at h ⊢
  cases o with
  | none => simp at h
  | some i =>
    simp at h
    obtain ⟨m, h1, h2⟩ := h
    exact ⟨i, m, rfl, h1, by rw [← h2], by rw [← h2]⟩
theorem rowF_some {T : TypeId} {x : TypeId × Nat × Nat} (h : rowF T = some x) : ∃ fs f, Tryd.prog.underlying T = some (.struct fs) ∧ fs[0]? = some f ∧ f.type = x.1 ∧ f.offset = x.2.1 ∧ f.byteOffset = x.2.2 := by
  unfold rowF at h
  generalize Tryd.prog.underlying T = o at h ⊢
  match o, h with
  | some (.struct fs), h =>
    simp at h
    obtain ⟨f, h1, h2⟩ := h
    exact ⟨fs, f, rfl, h1, by rw [← h2], by rw [← h2], by rw [← h2]⟩
/-- A method that an empty first field has. -/
theorem promo (P T E g : TypeId) (name : String) (K : FuncId) (w : World) (cs : Array Value) (h : w.heap[g]? = some (.cells cs T (0, 0)))
    (hM : rowM P name = some (some (#[⟨T, 0, true⟩], some (K, false)))) (hF : rowF T = some (E, 0, 0)) (hE : ∀ w, (sizeOf E).run Tryd.prog w = .ok 0 w) (h0 : Tryd.prog.cellsOf T ≠ 0) (h1 : byteOfCell Tryd.prog Tryd.prog.depth T 0 = some 0)
    (hR : ∀ a w, (receiverAt E (.var a) false none).run Tryd.prog w = .ok (.agg #[]) w) :
    (method 251 P (.pointer (some ⟨g, 0, none⟩)) name).run Tryd.prog w = .ok (K, .agg #[]) w := by
  obtain ⟨i, m, e1, e2, e3, e4⟩ := rowM_some hM
  obtain ⟨fs, f, e5, e6, e7, e8, e9⟩ := rowF_some hF
  simp only at e3 e4 e7 e8 e9
  unfold method
  simp [typeInfo, e1, e2, e3, e4, follow, underlying, e5, e6, Place.get, asAddr, fieldPlace, e7, e8, e9, hE, place0 T g w cs h h0 h1, hR]

theorem m_cm_lean (g : Nat) (w : World) : Mth w 76 (pt g) "quillpress/blend.lean" 67 (pt g) := ⟨by kernel_rfl, by kernel_rfl⟩
theorem m_cm_learn (g : Nat) (w : World) : Mth w 76 (pt g) "quillpress/blend.learn" 68 (pt g) := ⟨by kernel_rfl, by kernel_rfl⟩
theorem m_cm_begin (g : Nat) (w : World) (cs : Array Value) (h : w.heap[g]? = some (.cells cs 85 (0, 0))) : Mth w 76 (pt g) "quillpress/blend.begin" 63 (.agg #[]) :=
  ⟨by kernel_rfl, promo 76 85 72 g "quillpress/blend.begin" 63 w cs h (by kernel_rfl) (by kernel_rfl) (fun _ => by kernel_rfl) (by decide +kernel) (by kernel_rfl) (fun _ _ => by kernel_rfl)⟩
theorem m_cm_end (g : Nat) (w : World) (cs : Array Value) (h : w.heap[g]? = some (.cells cs 85 (0, 0))) : Mth w 76 (pt g) "quillpress/blend.end" 64 (.agg #[]) :=
  ⟨by kernel_rfl, promo 76 85 72 g "quillpress/blend.end" 64 w cs h (by kernel_rfl) (by kernel_rfl) (fun _ => by kernel_rfl) (by decide +kernel) (by kernel_rfl) (fun _ _ => by kernel_rfl)⟩
theorem m_icm_lean (g : Nat) (w : World) : Mth w 86 (pt g) "quillpress/blend.lean" 72 (pt g) := ⟨by kernel_rfl, by kernel_rfl⟩
theorem m_icm_learn (g : Nat) (w : World) : Mth w 86 (pt g) "quillpress/blend.learn" 73 (pt g) := ⟨by kernel_rfl, by kernel_rfl⟩
theorem m_icm_begin (g : Nat) (w : World) (cs : Array Value) (h : w.heap[g]? = some (.cells cs 118 (0, 0))) : Mth w 86 (pt g) "quillpress/blend.begin" 63 (.agg #[]) :=
  ⟨by kernel_rfl, promo 86 118 72 g "quillpress/blend.begin" 63 w cs h (by kernel_rfl) (by kernel_rfl) (fun _ => by kernel_rfl) (by decide +kernel) (by kernel_rfl) (fun _ _ => by kernel_rfl)⟩
theorem m_icm_end (g : Nat) (w : World) (cs : Array Value) (h : w.heap[g]? = some (.cells cs 118 (0, 0))) : Mth w 86 (pt g) "quillpress/blend.end" 64 (.agg #[]) :=
  ⟨by kernel_rfl, promo 86 118 72 g "quillpress/blend.end" 64 w cs h (by kernel_rfl) (by kernel_rfl) (fun _ => by kernel_rfl) (by decide +kernel) (by kernel_rfl) (fun _ _ => by kernel_rfl)⟩
theorem m_mix2_lean (g : Nat) (w : World) : Mth w 98 (pt g) "quillpress/blend.lean" 85 (pt g) := ⟨by kernel_rfl, by kernel_rfl⟩
theorem m_mix2_learn (g : Nat) (w : World) : Mth w 98 (pt g) "quillpress/blend.learn" 86 (pt g) := ⟨by kernel_rfl, by kernel_rfl⟩
theorem m_mix2_begin (g : Nat) (w : World) (cs : Array Value) (h : w.heap[g]? = some (.cells cs 100 (0, 0))) : Mth w 98 (pt g) "quillpress/blend.begin" 63 (.agg #[]) :=
  ⟨by kernel_rfl, promo 98 100 72 g "quillpress/blend.begin" 63 w cs h (by kernel_rfl) (by kernel_rfl) (fun _ => by kernel_rfl) (by decide +kernel) (by kernel_rfl) (fun _ _ => by kernel_rfl)⟩
theorem m_mix2_end (g : Nat) (w : World) (cs : Array Value) (h : w.heap[g]? = some (.cells cs 100 (0, 0))) : Mth w 98 (pt g) "quillpress/blend.end" 64 (.agg #[]) :=
  ⟨by kernel_rfl, promo 98 100 72 g "quillpress/blend.end" 64 w cs h (by kernel_rfl) (by kernel_rfl) (fun _ => by kernel_rfl) (by decide +kernel) (by kernel_rfl) (fun _ _ => by kernel_rfl)⟩
theorem m_mix_lean (g : Nat) (w : World) : Mth w 101 (pt g) "quillpress/blend.lean" 88 (pt g) := ⟨by kernel_rfl, by kernel_rfl⟩
theorem m_mix_learn (g : Nat) (w : World) : Mth w 101 (pt g) "quillpress/blend.learn" 89 (pt g) := ⟨by kernel_rfl, by kernel_rfl⟩
theorem m_mix_begin (g : Nat) (w : World) (cs : Array Value) (h : w.heap[g]? = some (.cells cs 103 (0, 0))) : Mth w 101 (pt g) "quillpress/blend.begin" 63 (.agg #[]) :=
  ⟨by kernel_rfl, promo 101 103 72 g "quillpress/blend.begin" 63 w cs h (by kernel_rfl) (by kernel_rfl) (fun _ => by kernel_rfl) (by decide +kernel) (by kernel_rfl) (fun _ _ => by kernel_rfl)⟩
theorem m_mix_end (g : Nat) (w : World) (cs : Array Value) (h : w.heap[g]? = some (.cells cs 103 (0, 0))) : Mth w 101 (pt g) "quillpress/blend.end" 64 (.agg #[]) :=
  ⟨by kernel_rfl, promo 101 103 72 g "quillpress/blend.end" 64 w cs h (by kernel_rfl) (by kernel_rfl) (fun _ => by kernel_rfl) (by decide +kernel) (by kernel_rfl) (fun _ _ => by kernel_rfl)⟩
theorem m_isse_lean (g : Nat) (w : World) : Mth w 104 (pt g) "quillpress/blend.lean" 91 (pt g) := ⟨by kernel_rfl, by kernel_rfl⟩
theorem m_isse_learn (g : Nat) (w : World) : Mth w 104 (pt g) "quillpress/blend.learn" 92 (pt g) := ⟨by kernel_rfl, by kernel_rfl⟩
theorem m_isse_begin (g : Nat) (w : World) (cs : Array Value) (h : w.heap[g]? = some (.cells cs 123 (0, 0))) : Mth w 104 (pt g) "quillpress/blend.begin" 63 (.agg #[]) :=
  ⟨by kernel_rfl, promo 104 123 72 g "quillpress/blend.begin" 63 w cs h (by kernel_rfl) (by kernel_rfl) (fun _ => by kernel_rfl) (by decide +kernel) (by kernel_rfl) (fun _ _ => by kernel_rfl)⟩
theorem m_isse_end (g : Nat) (w : World) (cs : Array Value) (h : w.heap[g]? = some (.cells cs 123 (0, 0))) : Mth w 104 (pt g) "quillpress/blend.end" 64 (.agg #[]) :=
  ⟨by kernel_rfl, promo 104 123 72 g "quillpress/blend.end" 64 w cs h (by kernel_rfl) (by kernel_rfl) (fun _ => by kernel_rfl) (by decide +kernel) (by kernel_rfl) (fun _ _ => by kernel_rfl)⟩
theorem m_sse_lean (g : Nat) (w : World) : Mth w 106 (pt g) "quillpress/blend.lean" 93 (pt g) := ⟨by kernel_rfl, by kernel_rfl⟩
theorem m_sse_learn (g : Nat) (w : World) : Mth w 106 (pt g) "quillpress/blend.learn" 94 (pt g) := ⟨by kernel_rfl, by kernel_rfl⟩
theorem m_sse_begin (g : Nat) (w : World) (cs : Array Value) (h : w.heap[g]? = some (.cells cs 108 (0, 0))) : Mth w 106 (pt g) "quillpress/blend.begin" 63 (.agg #[]) :=
  ⟨by kernel_rfl, promo 106 108 72 g "quillpress/blend.begin" 63 w cs h (by kernel_rfl) (by kernel_rfl) (fun _ => by kernel_rfl) (by decide +kernel) (by kernel_rfl) (fun _ _ => by kernel_rfl)⟩
theorem m_sse_end (g : Nat) (w : World) (cs : Array Value) (h : w.heap[g]? = some (.cells cs 108 (0, 0))) : Mth w 106 (pt g) "quillpress/blend.end" 64 (.agg #[]) :=
  ⟨by kernel_rfl, promo 106 108 72 g "quillpress/blend.end" 64 w cs h (by kernel_rfl) (by kernel_rfl) (fun _ => by kernel_rfl) (by decide +kernel) (by kernel_rfl) (fun _ _ => by kernel_rfl)⟩
theorem m_mch_lean (g : Nat) (w : World) : Mth w 88 (pt g) "quillpress/blend.lean" 80 (pt g) := ⟨by kernel_rfl, by kernel_rfl⟩
theorem m_mch_begin (g : Nat) (w : World) : Mth w 88 (pt g) "quillpress/blend.begin" 78 (pt g) := ⟨by kernel_rfl, by kernel_rfl⟩
theorem m_mch_end (g : Nat) (w : World) : Mth w 88 (pt g) "quillpress/blend.end" 79 (pt g) := ⟨by kernel_rfl, by kernel_rfl⟩
theorem m_mch_learn (g : Nat) (w : World) (cs : Array Value) (h : w.heap[g]? = some (.cells cs 95 (0, 0))) : Mth w 88 (pt g) "quillpress/blend.learn" 65 (.agg #[]) :=
  ⟨by kernel_rfl, promo 88 95 73 g "quillpress/blend.learn" 65 w cs h (by kernel_rfl) (by kernel_rfl) (fun _ => by kernel_rfl) (by decide +kernel) (by kernel_rfl) (fun _ _ => by kernel_rfl)⟩
theorem m_cst_lean (c : Int) (w : World) : Mth w 75 (.agg #[.int .i64 c]) "quillpress/blend.lean" 66 (.agg #[.int .i64 c]) := ⟨by kernel_rfl, by kernel_rfl⟩
theorem m_cst_learn (c : Int) (w : World) : Mth w 75 (.agg #[.int .i64 c]) "quillpress/blend.learn" 65 (.agg #[]) := ⟨by kernel_rfl, by kernel_rfl⟩
theorem m_cst_begin (c : Int) (w : World) : Mth w 75 (.agg #[.int .i64 c]) "quillpress/blend.begin" 63 (.agg #[]) := ⟨by kernel_rfl, by kernel_rfl⟩
theorem m_cst_end (c : Int) (w : World) : Mth w 75 (.agg #[.int .i64 c]) "quillpress/blend.end" 64 (.agg #[]) := ⟨by kernel_rfl, by kernel_rfl⟩
theorem m_avg_lean (a b c : Int) (w : World) : Mth w 97 (.agg #[.int .i64 a, .int .i64 b, .int .i64 c]) "quillpress/blend.lean" 84 (.agg #[.int .i64 a, .int .i64 b, .int .i64 c]) := ⟨by kernel_rfl, by kernel_rfl⟩
theorem m_avg_learn (a b c : Int) (w : World) : Mth w 97 (.agg #[.int .i64 a, .int .i64 b, .int .i64 c]) "quillpress/blend.learn" 65 (.agg #[]) := ⟨by kernel_rfl, by kernel_rfl⟩
theorem m_avg_begin (a b c : Int) (w : World) : Mth w 97 (.agg #[.int .i64 a, .int .i64 b, .int .i64 c]) "quillpress/blend.begin" 63 (.agg #[]) := ⟨by kernel_rfl, by kernel_rfl⟩
theorem m_avg_end (a b c : Int) (w : World) : Mth w 97 (.agg #[.int .i64 a, .int .i64 b, .int .i64 c]) "quillpress/blend.end" 64 (.agg #[]) := ⟨by kernel_rfl, by kernel_rfl⟩
end Go.Proofs.YtkfdbibgjoaefaaDoor
