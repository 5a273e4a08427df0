/-
  2 texts of a proof, joined.
-/
import Derived.Test.YtflfkhcbkhdahaaMg1
import Derived.ProofKit
import Derived.Outline
import Derived.Deep.QuietTactic
import Derived.BigQuiet
import Derived.Lib.Hide
import Derived.IntWalk
import Derived.Laws.BitsAllLaws
import Derived.Laws.Rows

/-
  Small words for every stage: endings, allocations, arrays of the call's own known whole.
-/
namespace Go.Proofs.Ytflfkhcbkhdahaa.genC
open Go.ChangeShapes Go.WideShapes Go.ChangeAt Go.RowKit
open Go.Proofs.Ytflfkhcbkhdahaa.memC
set_option linter.unusedVariables false
theorem ret_int {k : IntKind} {a b : Int} (h : a = b) : Ending.returned (.int k a) = .returned (.int k b) := by rw [h]
theorem ret_bool {a b : Bool} (h : a = b) : Ending.returned (.bool a) = .returned (.bool b) := by rw [h]
theorem val_int {k : IntKind} {a b : Int} (h : a = b) : Value.int k a = .int k b := by rw [h]
theorem alloc_below (w : World) (o : Obj) : Below w.heap.size w (w.alloc o) := (Below.refl _ _).alloc (Nat.le_refl _) _
theorem alloc_size (w : World) (o : Obj) : (w.alloc o).heap.size = w.heap.size + 1 := by simp
theorem bel_drewN {B : Nat} {a w : World} (h : Below B a w) (n : Nat) : Below B a (w.drewN n) := ⟨h.os, h.tape, h.output, h.size, h.block⟩
theorem cell_alloc_new (w : World) (cs : Array Value) (T : TypeId) (j : Nat) : (w.alloc (.cells cs T)).cell? ⟨w.heap.size, j, none⟩ = cs[j]? := by
  have h : (w.alloc (.cells cs T)).heap[w.heap.size]? = some (.cells cs T (0, 0)) := heap_alloc_new w _
  exact cell_of_row _ _ j cs T (0, 0) h
def Byte (x : Int) : Prop := 0 ≤ x ∧ x ≤ 255
theorem getD_byte {bs : List Int} (hy : ∀ x ∈ bs, Byte x) {k : Nat} (hk : k < bs.length) : Byte (bs.getD k 0) := by
  rw [List.getD_eq_getElem?_getD, List.getElem?_eq_getElem hk]; exact hy _ (List.getElem_mem _)
/-- block g holds the numbers xs, and nothing else -/
structure Arr (k : IntKind) (T : TypeId) (w : World) (g : Nat) (xs : List Int) : Prop where
  row : w.heap[g]? = some (.cells (xs.map (Value.int k)).toArray T (0, 0))
section
variable {k : IntKind} {T : TypeId} {w w' : World} {g : Nat} {xs : List Int}
theorem Arr.lt (h : Arr k T w g xs) : g < w.heap.size := by
  rcases Nat.lt_or_ge g w.heap.size with h1 | h1
  · exact h1
  · have := h.row; rw [Array.getElem?_eq_none h1] at this; cases this
theorem Arr.cell (h : Arr k T w g xs) {j : Nat} (hj : j < xs.length) : w.cell? ⟨g, j, none⟩ = some (.int k (xs.getD j 0)) := by
  rw [cell_of_row w g j _ T (0, 0) h.row]
  simp [List.getD_eq_getElem?_getD, hj]
theorem Arr.frozen (h : Arr k T w g xs) (j : Nat) : w.frozen? ⟨g, j, none⟩ = false := frozen_of_row w g j _ T h.row
theorem Arr.stored (h : Arr k T w g xs) (j : Nat) (x : Int) : Arr k T (w.setCell ⟨g, j, none⟩ (.int k x)) g (xs.set j x) := by
  refine ⟨?_⟩
  rw [heap_setCell_same w g j _ T _ h.row, List.map_set]
  simp
theorem Arr.other (h : Arr k T w g xs) {a : Addr} (ha : a.block ≠ g) (v : Value) : Arr k T (w.setCell a v) g xs := ⟨by rw [heap_setCell_other w a g v (fun e => ha e.symm)]; exact h.row⟩
theorem Arr.heap (h : Arr k T w g xs) (e : w'.heap = w.heap) : Arr k T w' g xs := ⟨by rw [e]; exact h.row⟩
theorem Arr.below {B : Nat} (h : Arr k T w g xs) (hb : Below B w w') (hg : g < B) : Arr k T w' g xs := ⟨by rw [hb.block g hg]; exact h.row⟩
theorem Arr.alloc (h : Arr k T w g xs) (o : Obj) : Arr k T (w.alloc o) g xs := h.below (alloc_below w o) h.lt
theorem Arr.new (w : World) (k : IntKind) (T : TypeId) (xs : List Int) : Arr k T (w.alloc (.cells (xs.map (Value.int k)).toArray T)) w.heap.size xs := ⟨heap_alloc_new w _⟩
theorem Arr.part (h : Arr k T w g xs) {n : Nat} (hn : xs.length = n) : Nums k w w.heap.size (some ⟨g, 0, none⟩) n xs :=
  ⟨hn, fun _ => ⟨g, 0, rfl, h.lt, fun i hi => by rw [Nat.zero_add]; exact h.cell (by omega)⟩⟩
end
theorem list5 {α : Type} {l : List α} (h : l.length = 5) : ∃ a b c d e, l = [a, b, c, d, e] := by
  match l, h with
  | [a, b, c, d, e], _ => exact ⟨a, b, c, d, e, rfl⟩
end Go.Proofs.Ytflfkhcbkhdahaa.genC

/-
  A call that turns one block that was there, and no other.
-/
namespace Go.Proofs.Ytflfkhcbkhdahaa.butC
open Go.ChangeShapes Go.WideShapes Go.ChangeAt Go.RowKit
open Go.Proofs.Ytflfkhcbkhdahaa.memC Go.Proofs.Ytflfkhcbkhdahaa.genC
set_option linter.unusedVariables false
/-- of the blocks that were there, block k alone may have turned -/
structure But (k : Nat) (w w' : World) : Prop where
  os : w'.os = w.os
  tape : w'.tape = w.tape
  output : w'.output = w.output
  size : w.heap.size ≤ w'.heap.size
  block : ∀ g, g < w.heap.size → g ≠ k → w'.heap[g]? = w.heap[g]?
section
variable {k B : Nat} {w w1 w2 : World}
theorem But.below (h : Below w.heap.size w w1) : But k w w1 := ⟨h.os, h.tape, h.output, h.size, fun g hg _ => h.block g hg⟩
theorem But.refl (w : World) : But k w w := But.below (Below.refl _ _)
theorem But.trans (h : But k w w1) (h' : But k w1 w2) : But k w w2 :=
  ⟨h'.os.trans h.os, h'.tape.trans h.tape, h'.output.trans h.output, Nat.le_trans h.size h'.size, fun g hg hn => (h'.block g (Nat.lt_of_lt_of_le hg h.size) hn).trans (h.block g hg hn)⟩
/-- a block that a later world alone has may turn -/
theorem But.under {k2 : Nat} (h : But k w w1) (h' : But k2 w1 w2) (hk : w.heap.size ≤ k2) : But k w w2 :=
  ⟨h'.os.trans h.os, h'.tape.trans h.tape, h'.output.trans h.output, Nat.le_trans h.size h'.size, fun g hg hn => (h'.block g (Nat.lt_of_lt_of_le hg h.size) (by omega)).trans (h.block g hg hn)⟩
theorem But.heap (h : But k w w1) (e : w2.heap = w1.heap) (e1 : w2.os = w1.os) (e2 : w2.tape = w1.tape) (e3 : w2.output = w1.output) : But k w w2 :=
  ⟨e1.trans h.os, e2.trans h.tape, e3.trans h.output, by rw [e]; exact h.size, fun g hg hn => by rw [e]; exact h.block g hg hn⟩
theorem But.alloc (h : But k w w1) (o : Obj) : But k w (w1.alloc o) := h.trans (But.below (alloc_below _ _))
theorem But.setCell (h : But k w w1) (j : Nat) (v : Value) : But k w (w1.setCell ⟨k, j, none⟩ v) :=
  ⟨h.os, h.tape, h.output, by simpa [World.setCell] using h.size, fun g hg hn => by rw [Below.heap_setCell _ _ _ _ hn]; exact h.block g hg hn⟩
/-- a store into a block that was not there -/
theorem But.fresh (h : But k w w1) {a : Addr} (ha : w.heap.size ≤ a.block) (v : Value) : But k w (w1.setCell a v) :=
  ⟨h.os, h.tape, h.output, by simpa [World.setCell] using h.size, fun g hg hn => by rw [Below.heap_setCell _ _ _ _ (by omega)]; exact h.block g hg hn⟩
theorem But.setRow (h : But k w w1) (cs : Array Value) : But k w (w1.setRow k cs) :=
  ⟨h.os, h.tape, h.output, by simpa [World.setRow] using h.size, fun g hg hn => by rw [setRow_other w1 k g cs hn]; exact h.block g hg hn⟩
theorem But.to_below (h : But k w w1) (hk : B ≤ k) (hw : B ≤ w.heap.size) : Below B w w1 :=
  ⟨h.os, h.tape, h.output, h.size, fun g hg => h.block g (by omega) (by omega)⟩
theorem But.cell (h : But k w w1) {a : Addr} (ha : a.block < w.heap.size) (hn : a.block ≠ k) : w1.cell? a = w.cell? a := World.cell?_of_block (w := w) (h.block _ ha hn)
/-- what lies in another block stands -/
def Off (A : Option Addr) (k : Nat) : Prop := ∀ a, A = some a → a.block ≠ k
theorem But.nums {K : IntKind} {A : Option Addr} {n : Nat} {xs : List Int} (h : But k w w1) (hx : Nums K w w.heap.size A n xs) (hA : 0 < n → Off A k) : Nums K w1 w1.heap.size A n xs :=
  ⟨hx.len, fun hn => by
    obtain ⟨b, o, e, hb, hc⟩ := hx.at_ hn
    exact ⟨b, o, e, Nat.lt_of_lt_of_le hb h.size, fun i hi => (h.cell (a := ⟨b, o + i, none⟩) hb (fun e2 => hA hn _ e e2)).trans (hc i hi)⟩⟩
theorem off_below {K : IntKind} {A : Option Addr} {n : Nat} {xs : List Int} (h : Nums K w B A n xs) (hk : B ≤ k) : 0 < n → Off A k := fun hn a ha => by
  obtain ⟨b, o, e, hb, _⟩ := h.at_ hn
  rw [e] at ha
  obtain rfl := Option.some.inj ha
  show b ≠ k
  omega
theorem But.arr {K : IntKind} {T : TypeId} {g : Nat} {xs : List Int} (h : But k w w1) (hx : Arr K T w g xs) (hg : g ≠ k) : Arr K T w1 g xs := ⟨by rw [h.block g hx.lt hg]; exact hx.row⟩
end
end Go.Proofs.Ytflfkhcbkhdahaa.butC
