/-
  A part at work as it lies in memory: its value, its struct, its table; S: the blocks that are its own.
-/
import Derived.Test.YtkfdbibgjoaefaaDoorFr
namespace Go.Proofs.YtkfdbibgjoaefaaDoor
open Go.RowKit

def iv (n : Int) : Value := .int .i64 n
def oddsF (ch co : List Int) : Nat → Value := fun k => .int .i32 (if k % 2 = 0 then ch.getD (k / 2) 0 else co.getD (k / 2) 0)
def intsF (l : List Int) : Nat → Value := fun k => .int .i64 (l.getD k 0)
def natsF (l : List Nat) : Nat → Value := fun k => .int .i64 (l.getD k 0 : Nat)
def bytesF (l : List Nat) : Nat → Value := fun k => .int .u8 (l.getD k 0 : Nat)
def sl (d n : Nat) : Value := .slice (some ⟨d, 0, none⟩) n n
def pt (g : Nat) : Value := .pointer (some ⟨g, 0, none⟩)
def icF (size : Int) (d n : Nat) (ch : List Int) : Nat → Value := fun k => if k = 0 then .int .i64 size else if k = 1 then .int .i64 1 else if k = 2 then sl d n else .int .i64 (ch.getD (k - 3) 0)
def isF (size a : Int) (d n : Nat) (we : List Int) : Nat → Value := fun k => if k = 0 then .int .i64 size else if k = 1 then .int .i64 1 else if k = 2 then sl d n else if k = 515 then .int .i64 a else .int .i64 (we.getD (k - 3) 0)
def maF (size : Int) (dr n ds : Nat) (whole pos len : Nat) : Nat → Value := fun k => if k = 0 then sl dr n else if k = 1 then .int .i64 size else if k = 2 then .int .i64 1 else if k = 3 then sl ds n else if k = 4 then .int .i64 whole else if k = 5 then .int .i64 pos else .int .i64 len
/-- The part u lies at value v. -/
inductive UnAt (w : World) (S : Nat → Prop) (v : Value) (u : Un) (whole : Nat) : Prop
  | cst (k : u.p.kind = 1) (hv : v = .iface 75 (.agg #[.int .i64 u.p.c]))
  | avg (k : u.p.kind = 5) (hv : v = .iface 97 (.agg #[.int .i64 u.p.a, .int .i64 u.p.b, .int .i64 u.p.c]))
  | cm (k : u.p.kind = 2) (g d : Nat) (hv : v = .iface 76 (pt g)) (sg : S g) (sd : S d) (ne : g ≠ d)
      (hg : w.heap[g]? = some (.cells #[.int .i64 u.p.size, .int .i64 1, sl d (pw u.p.size), .int .i64 u.p.limit] 85 (0, 0))) (hd : Ro w d 82 (2 * pw u.p.size) (oddsF u.chance u.count))
  | icm (k : u.p.kind = 3) (g d : Nat) (hv : v = .iface 86 (pt g)) (sg : S g) (sd : S d) (ne : g ≠ d)
      (hg : Ro w g 118 259 (icF u.p.size d (pw u.p.size) u.chance)) (hd : Ro w d 5 (pw u.p.size) (bytesF u.state))
  | mch (k : u.p.kind = 4) (g dr ds : Nat) (hv : v = .iface 88 (pt g)) (sg : S g) (sr : S dr) (ss : S ds) (n1 : g ≠ dr) (n2 : g ≠ ds) (n3 : dr ≠ ds)
      (hg : Ro w g 95 7 (maF u.p.size dr (pw u.p.size) ds whole u.pos u.len)) (hr : Ro w dr 5 (pw u.p.size) (bytesF u.ring)) (hs : Ro w ds 3 (pw u.p.size) (natsF u.number))
  | mix2 (k : u.p.kind = 6) (g d : Nat) (hv : v = .iface 98 (pt g)) (sg : S g) (sd : S d) (ne : g ≠ d)
      (hg : w.heap[g]? = some (.cells #[.int .i64 u.p.size, .int .i64 1, sl d (pw u.p.size), .int .i64 u.p.a, .int .i64 u.p.b, .int .i64 u.p.rate] 100 (0, 0))) (hd : Ro w d 3 (pw u.p.size) (intsF u.weight))
  | mix (k : u.p.kind = 7) (g d : Nat) (hv : v = .iface 101 (pt g)) (sg : S g) (sd : S d) (ne : g ≠ d)
      (hg : w.heap[g]? = some (.cells #[.int .i64 u.p.size, .int .i64 u.p.b, sl d (pw u.p.size * u.p.b.toNat), .int .i64 u.p.a, .int .i64 u.p.rate] 103 (0, 0))) (hd : Ro w d 3 (pw u.p.size * u.p.b.toNat) (intsF u.weight))
  | isse (k : u.p.kind = 8) (g d : Nat) (hv : v = .iface 104 (pt g)) (sg : S g) (sd : S d) (ne : g ≠ d)
      (hg : Ro w g 123 516 (isF u.p.size u.p.a d (pw u.p.size) u.weight)) (hd : Ro w d 5 (pw u.p.size) (bytesF u.state))
  | sse (k : u.p.kind = 9) (g d : Nat) (hv : v = .iface 106 (pt g)) (sg : S g) (sd : S d) (ne : g ≠ d)
      (hg : w.heap[g]? = some (.cells #[.int .i64 u.p.size, .int .i64 32, sl d (pw u.p.size * 32), .int .i64 u.p.a, .int .i64 u.p.limit] 108 (0, 0))) (hd : Ro w d 82 (2 * (pw u.p.size * 32)) (oddsF u.chance u.count))
theorem UnAt.on {w w' : World} {S X : Nat → Prop} {v : Value} {u : Un} {n : Nat} (h : UnAt w S v u n) (b : But X w w') (hn : ∀ i, S i → ¬ X i) : UnAt w' S v u n := by
  cases h with
  | cst k hv => exact .cst k hv
  | avg k hv => exact .avg k hv
  | cm k g d hv sg sd ne hg hd => exact .cm k g d hv sg sd ne (b.heap hg (hn _ sg)) (hd.on b (hn _ sd))
  | icm k g d hv sg sd ne hg hd => exact .icm k g d hv sg sd ne (hg.on b (hn _ sg)) (hd.on b (hn _ sd))
  | mch k g dr ds hv sg sr ss n1 n2 n3 hg hr hs => exact .mch k g dr ds hv sg sr ss n1 n2 n3 (hg.on b (hn _ sg)) (hr.on b (hn _ sr)) (hs.on b (hn _ ss))
  | mix2 k g d hv sg sd ne hg hd => exact .mix2 k g d hv sg sd ne (b.heap hg (hn _ sg)) (hd.on b (hn _ sd))
  | mix k g d hv sg sd ne hg hd => exact .mix k g d hv sg sd ne (b.heap hg (hn _ sg)) (hd.on b (hn _ sd))
  | isse k g d hv sg sd ne hg hd => exact .isse k g d hv sg sd ne (hg.on b (hn _ sg)) (hd.on b (hn _ sd))
  | sse k g d hv sg sd ne hg hd => exact .sse k g d hv sg sd ne (b.heap hg (hn _ sg)) (hd.on b (hn _ sd))
theorem UnAt.mono {w : World} {S S' : Nat → Prop} {v : Value} {u : Un} {n : Nat} (h : UnAt w S v u n) (hs : ∀ i, S i → S' i) : UnAt w S' v u n := by
  cases h with
  | cst k hv => exact .cst k hv
  | avg k hv => exact .avg k hv
  | cm k g d hv sg sd ne hg hd => exact .cm k g d hv (hs _ sg) (hs _ sd) ne hg hd
  | icm k g d hv sg sd ne hg hd => exact .icm k g d hv (hs _ sg) (hs _ sd) ne hg hd
  | mch k g dr ds hv sg sr ss n1 n2 n3 hg hr hs' => exact .mch k g dr ds hv (hs _ sg) (hs _ sr) (hs _ ss) n1 n2 n3 hg hr hs'
  | mix2 k g d hv sg sd ne hg hd => exact .mix2 k g d hv (hs _ sg) (hs _ sd) ne hg hd
  | mix k g d hv sg sd ne hg hd => exact .mix k g d hv (hs _ sg) (hs _ sd) ne hg hd
  | isse k g d hv sg sd ne hg hd => exact .isse k g d hv (hs _ sg) (hs _ sd) ne hg hd
  | sse k g d hv sg sd ne hg hd => exact .sse k g d hv (hs _ sg) (hs _ sd) ne hg hd
theorem UnAt.drewN {w : World} {S : Nat → Prop} {v : Value} {u : Un} {n : Nat} (h : UnAt w S v u n) (q : Nat) : UnAt (w.drewN q) S v u n := h.on ((But.refl (fun _ => False) w).drewN q) (fun _ _ h => h)
theorem UnAt.below {w w' : World} {S : Nat → Prop} {v : Value} {u : Un} {n : Nat} (h : UnAt w S v u n) (b : Below w.heap.size w w') : UnAt w' S v u n := h.on (But.of_below (S := fun _ => False) b) (fun _ _ h => h)
end Go.Proofs.YtkfdbibgjoaefaaDoor
