/-
  7 texts of a proof, joined.
-/
import Derived.Test.YtniimgbljhmcoaaDoorMg2
import Derived.Test.YtniimgbljhmcoaaDoorMg14
import Derived.Test.YtniimgbljhmcoaaDoorMg12
import Derived.Test.YtniimgbljhmcoaaDoorMg5
import Derived.Test.YtniimgbljhmcoaaDoorMg6
import Derived.Great.BuildSlice
import Derived.Deep.CutRange
import Derived.StillTactics
import Derived.StillTailTactics
import Derived.Deep.LoopGhost
import Derived.Deep.WholeRow
import Derived.Deep.Matrix
import Derived.Deep.RegionWith
import Derived.RegionTactic

/-
  AES in memory: arrays of bytes as lists of numbers.
-/
namespace Go.Proofs.YtniimgbljhmcoaaDoor.aesC
open Go.ChangeShapes Go.WideShapes Go.ChangeAt Go.RowKit
open Go.Proofs.YtniimgbljhmcoaaDoor.memC Go.Proofs.YtniimgbljhmcoaaDoor.genC
set_option linter.unusedVariables false
/-- an array of bytes as a value -/
def vec (xs : List Nat) : Array Value := (xs.map fun n : Nat => Value.int .u8 (n : Int)).toArray
theorem vec_at {xs : List Nat} {j : Nat} (hj : j < xs.length) : (vec xs)[j]? = some (.int .u8 ((xs.getD j 0 : Nat) : Int)) := by
  simp [vec, List.getD_eq_getElem?_getD, hj]
/-- block g holds the bytes xs, and nothing else -/
structure Bl (T : TypeId) (w : World) (g : Nat) (xs : List Nat) : Prop where
  row : w.heap[g]? = some (.cells (vec xs) T (0, 0))
section
variable {T : TypeId} {w w' : World} {g : Nat} {xs ys : List Nat}
theorem Bl.lt (h : Bl T w g xs) : g < w.heap.size := by
  rcases Nat.lt_or_ge g w.heap.size with h1 | h1
  · exact h1
  · have := h.row; rw [Array.getElem?_eq_none h1] at this; cases this
theorem Bl.cell (h : Bl T w g xs) {j : Nat} (hj : j < xs.length) : w.cell? ⟨g, j, none⟩ = some (.int .u8 ((xs.getD j 0 : Nat) : Int)) := by
  rw [cell_of_row w g j _ T (0, 0) h.row, vec_at hj]
theorem Bl.frozen (h : Bl T w g xs) (j : Nat) : w.frozen? ⟨g, j, none⟩ = false := frozen_of_row w g j _ T h.row
theorem vec_set (xs : List Nat) (j x : Nat) : (vec xs).setIfInBounds j (.int .u8 (x : Int)) = vec (xs.set j x) := by
  unfold vec
  rw [List.map_set]; simp
theorem Bl.stored (h : Bl T w g xs) (j x : Nat) : Bl T (w.setCell ⟨g, j, none⟩ (.int .u8 (x : Int))) g (xs.set j x) := by
  refine ⟨?_⟩
  rw [heap_setCell_same w g j _ T _ h.row, vec_set]
theorem Bl.other (h : Bl T w g xs) {a : Addr} (ha : a.block ≠ g) (v : Value) : Bl T (w.setCell a v) g xs := ⟨by rw [heap_setCell_other w a g v (fun e => ha e.symm)]; exact h.row⟩
theorem Bl.heap (h : Bl T w g xs) (e : w'.heap = w.heap) : Bl T w' g xs := ⟨by rw [e]; exact h.row⟩
theorem Bl.below {B : Nat} (h : Bl T w g xs) (hb : Below B w w') (hg : g < B) : Bl T w' g xs := ⟨by rw [hb.block g hg]; exact h.row⟩
theorem Bl.alloc (h : Bl T w g xs) (o : Obj) : Bl T (w.alloc o) g xs := h.below (alloc_below w o) h.lt
theorem Bl.setRow (h : Bl T w g xs) : Bl T (w.setRow g (vec ys)) g ys := ⟨setRow_heap _ _ _ _ _ _ h.row⟩
end
theorem below_setRow {B k : Nat} {w w' : World} (h : Below B w w') (hk : B ≤ k) (cs : Array Value) : Below B w (w'.setRow k cs) :=
  h.trans ⟨rfl, rfl, rfl, by simp, fun z hz => setRow_other _ _ _ _ (by omega)⟩
/-- bytes -/
def BY (xs : List Nat) : Prop := ∀ x ∈ xs, x < 256
theorem BY.map {f : Nat → Nat} {n : Nat} (h : ∀ i, i < n → f i < 256) : BY ((List.range n).map f) := by
  intro x hx
  obtain ⟨i, hi, rfl⟩ := List.mem_map.1 hx
  exact h i (List.mem_range.1 hi)
def zs (n : Nat) : List Nat := List.replicate n 0
section
variable {xs ys : List Nat} {j k : Nat}
end
end Go.Proofs.YtniimgbljhmcoaaDoor.aesC

/-
  AES: a block turned by another one.
-/
namespace Go.Proofs.YtniimgbljhmcoaaDoor.aesC
open Go.ChangeShapes Go.WideShapes Go.ChangeAt Go.RowKit
open Go.Proofs.YtniimgbljhmcoaaDoor.memC Go.Proofs.YtniimgbljhmcoaaDoor.genC
set_option linter.unusedVariables false
/-- the blocks that a call lays: three of 16 bytes -/
structure B3 (w : World) (a b c : List Nat) (wr : World) : Prop where
  b0 : Bl 22 wr w.heap.size a
  b1 : Bl 22 wr (w.heap.size + 1) b
  b2 : Bl 22 wr (w.heap.size + 1 + 1) c
  bel : Below w.heap.size w wr
section
variable {w wr w' : World} {a b c : List Nat}
theorem B3.heap (B : B3 w a b c wr) (e : w'.heap = wr.heap) (e1 : w'.os = wr.os) (e2 : w'.tape = wr.tape) (e3 : w'.output = wr.output) : B3 w a b c w' :=
  ⟨B.b0.heap e, B.b1.heap e, B.b2.heap e, B.bel.trans ⟨e1, e2, e3, by rw [e]; exact Nat.le_refl _, fun k _ => by rw [e]⟩⟩
end
end Go.Proofs.YtniimgbljhmcoaaDoor.aesC

/-
  AES: the round key behind one.
-/
namespace Go.Proofs.YtniimgbljhmcoaaDoor.aesC
open Go.ChangeShapes Go.WideShapes Go.ChangeAt Go.RowKit
open Go.Proofs.YtniimgbljhmcoaaDoor.memC Go.Proofs.YtniimgbljhmcoaaDoor.genC Go.Proofs.YtniimgbljhmcoaaDoor.freeC
set_option linter.unusedVariables false
/-- the key and the result -/
structure NG (w : World) (k : List Nat) (wr : World) : Prop where
  b0 : Bl 22 wr w.heap.size k
  b1 : Bl 22 wr (w.heap.size + 1) (zs 16)
  bel : Below w.heap.size w wr
theorem NG.lt {w wr : World} {k : List Nat} (h : NG w k wr) : w.heap.size + 1 < wr.heap.size := h.b1.lt
theorem NG.below {w wr w' : World} {k : List Nat} (h : NG w k wr) (b : Below wr.heap.size wr w') : NG w k w' := ⟨h.b0.below b h.b0.lt, h.b1.below b h.b1.lt, h.bel.trans (b.mono h.bel.size)⟩
section
variable {w wr w' : World} {g : Nat} {c k : List Nat}
end
end Go.Proofs.YtniimgbljhmcoaaDoor.aesC

/-
  AES: the code's multiply.
-/
namespace Go.Proofs.YtniimgbljhmcoaaDoor.aesC
open Go.ChangeShapes Go.WideShapes Go.ChangeAt Go.RowKit
open Go.Proofs.YtniimgbljhmcoaaDoor.memC Go.Proofs.YtniimgbljhmcoaaDoor.genC Go.Proofs.YtniimgbljhmcoaaDoor.freeC
set_option linter.unusedVariables false
theorem NG.heap {w wr w' : World} {k : List Nat} (B : NG w k wr) (e : w'.heap = wr.heap) (e1 : w'.os = wr.os) (e2 : w'.tape = wr.tape) (e3 : w'.output = wr.output) : NG w k w' :=
  ⟨B.b0.heap e, B.b1.heap e, B.bel.trans ⟨e1, e2, e3, by rw [e]; exact Nat.le_refl _, fun k _ => by rw [e]⟩⟩
theorem NG.sk {w wr : World} {k : List Nat} (B : NG w k wr) (j x : Nat) : NG w (k.set j x) (wr.setCell ⟨w.heap.size, j, none⟩ (.int .u8 (x : Int))) :=
  ⟨B.b0.stored j x, B.b1.other (by show w.heap.size ≠ w.heap.size + 1; omega) _, B.bel.setCell (p := ⟨w.heap.size, j, none⟩) (Nat.le_refl _) _⟩
end Go.Proofs.YtniimgbljhmcoaaDoor.aesC

/-
  AES: the code's Encrypt.
-/
namespace Go.Proofs.YtniimgbljhmcoaaDoor.aesC
open Go.ChangeShapes Go.WideShapes Go.ChangeAt Go.RowKit
open Go.Proofs.YtniimgbljhmcoaaDoor.memC Go.Proofs.YtniimgbljhmcoaaDoor.genC Go.Proofs.YtniimgbljhmcoaaDoor.freeC
set_option linter.unusedVariables false
section
variable {w wr w' : World} {g g7 : Nat} {k b b' y : List Nat}
end
def EV (A S M K R : Array Value) : Nat → Value → World → Prop
  | 0, v, _ => v = .agg A
  | 1, v, _ => v = .agg S
  | 2, v, _ => v = .agg M
  | 3, v, _ => v = .agg K
  | 4, v, _ => v = .agg R
  | _, _, _ => True
theorem EV.keep (A S M K R : Array Value) (i : Nat) (v : Value) (w w' : World) (hb : Below w.heap.size w w') (h : EV A S M K R i v w) : EV A S M K R i v w' := by
  unfold EV at h ⊢
  split at h <;> exact h
def FV (g : Nat) (A S K R : Array Value) : Nat → Value → World → Prop
  | 0, v, _ => v = .agg A
  | 1, v, _ => v = .agg S
  | 2, v, _ => v = .pointer (some ⟨g, 160, none⟩)
  | 3, v, _ => v = .agg K
  | 4, v, _ => v = .agg R
  | _, _, _ => True
theorem FV.keep (g : Nat) (A S K R : Array Value) (i : Nat) (v : Value) (w w' : World) (hb : Below w.heap.size w w') (h : FV g A S K R i v w) : FV g A S K R i v w' := by
  unfold FV at h ⊢
  split at h <;> exact h
end Go.Proofs.YtniimgbljhmcoaaDoor.aesC

/-
  CMAC: a chain in memory; a block mixed in.
-/
namespace Go.Proofs.YtniimgbljhmcoaaDoor.aesC
open Go.ChangeShapes Go.WideShapes Go.ChangeAt Go.RowKit
open Go.Proofs.YtniimgbljhmcoaaDoor.memC Go.Proofs.YtniimgbljhmcoaaDoor.genC Go.Proofs.YtniimgbljhmcoaaDoor.butC Go.Proofs.YtniimgbljhmcoaaDoor.freeC
set_option linter.unusedVariables false
section
variable {w w' : World} {g : Nat} {k m r : List Nat} {h : Nat}
end
section
variable {w wr w' : World} {g : Nat} {k m r : List Nat} {h : Nat}
end
def MV (g : Nat) (K M R X Y : Array Value) : Nat → Value → World → Prop
  | 0, v, _ => v = .pointer (some ⟨g, 0, none⟩)
  | 1, v, _ => v = .pointer (some ⟨g, 0, none⟩)
  | 2, v, _ => v = .pointer (some ⟨g, 0, none⟩)
  | 3, v, _ => v = .pointer (some ⟨g, 0, none⟩)
  | 4, v, _ => v = .agg K
  | 5, v, _ => v = .pointer (some ⟨g, 0, none⟩)
  | 6, v, _ => v = .pointer (some ⟨g, 0, none⟩)
  | 7, v, _ => v = .pointer (some ⟨g, 16, none⟩)
  | 8, v, _ => v = .agg M
  | 9, v, _ => v = .pointer (some ⟨g, 0, none⟩)
  | 10, v, _ => v = .pointer (some ⟨g, 0, none⟩)
  | 11, v, _ => v = .pointer (some ⟨g, 32, none⟩)
  | 12, v, _ => v = .agg R
  | 13, v, _ => v = .agg X
  | 14, v, _ => v = .agg Y
  | 15, v, _ => v = .pointer (some ⟨g, 0, none⟩)
  | 16, v, _ => v = .pointer (some ⟨g, 16, none⟩)
  | _, _, _ => True
theorem MV.keep (g : Nat) (K M R X Y : Array Value) (i : Nat) (v : Value) (w w' : World) (hb : Below w.heap.size w w') (h : MV g K M R X Y i v w) : MV g K M R X Y i v w' := by
  unfold MV at h ⊢
  split at h <;> exact h
end Go.Proofs.YtniimgbljhmcoaaDoor.aesC

/-
  AES: the document's Encrypt.
-/
namespace Go.Proofs.YtniimgbljhmcoaaDoor.aesC
open Go.ChangeShapes Go.WideShapes Go.ChangeAt Go.RowKit
open Go.Proofs.YtniimgbljhmcoaaDoor.memC Go.Proofs.YtniimgbljhmcoaaDoor.genC Go.Proofs.YtniimgbljhmcoaaDoor.freeC
set_option linter.unusedVariables false
section
variable {w wr w' : World} {g5 g6 g8 g9 : Nat} {k b b' x y : List Nat}
end
def RV (g6 n : Nat) (Y K R : Array Value) : Nat → Value → World → Prop
  | 0, v, _ => v = .agg Y
  | 1, v, _ => v = .int .i64 (n : Int)
  | 2, v, _ => v = .pointer (some ⟨g6, n * 16, none⟩)
  | 3, v, _ => v = .agg K
  | 4, v, _ => v = .agg R
  | _, _, _ => True
theorem RV.keep (g6 n : Nat) (Y K R : Array Value) (i : Nat) (v : Value) (w w' : World) (hb : Below w.heap.size w w') (h : RV g6 n Y K R i v w) : RV g6 n Y K R i v w' := by
  unfold RV at h ⊢
  split at h <;> exact h
end Go.Proofs.YtniimgbljhmcoaaDoor.aesC
