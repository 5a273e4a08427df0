/-
  Small words for every stage: endings, allocations, arrays of the call's own known whole.
-/
import Derived.Test.YtblgkojeholbnaaApp
import Derived.ProofKit
import Derived.Outline
import Derived.Deep.QuietTactic
import Derived.BigQuiet
import Derived.Lib.Hide
import Derived.IntWalk
import Derived.Laws.BitsAllLaws
import Derived.Laws.Rows
namespace Go.Proofs.Ytblgkojeholbnaa.genC
open Go.ChangeShapes Go.WideShapes Go.ChangeAt Go.RowKit
open Go.Proofs.Ytblgkojeholbnaa.memC
set_option linter.unusedVariables false
theorem ret_int {k : IntKind} {a b : Int} (h : a = b) : Ending.returned (.int k a) = .returned (.int k b) := by rw [h]
theorem ret_bool {a b : Bool} (h : a = b) : Ending.returned (.bool a) = .returned (.bool b) := by rw [h]
theorem val_int {k : IntKind} {a b : Int} (h : a = b) : Value.int k a = .int k b := by rw [h]
theorem alloc_below (w : World) (o : Obj) : Below w.heap.size w (w.alloc o) := (Below.refl _ _).alloc (Nat.le_refl _) _
theorem alloc_size (w : World) (o : Obj) : (w.alloc o).heap.size = w.heap.size + 1 := by simp
theorem bel_drewN {B : Nat} {a w : World} (h : Below B a w) (n : Nat) : Below B a (w.drewN n) := ⟨h.os, h.tape, h.output, h.size, h.block⟩
theorem cell_alloc_new (w : World) (cs : Array Value) (T : TypeId) (j : Nat) : (w.alloc (.cells cs T)).cell? ⟨w.heap.size, j, none⟩ = cs[j]? := by
  have h : (w.alloc (.cells cs T)).heap[w.heap.size]? = some (.cells cs T (0, 0)) := heap_alloc_new w _
  exact cell_of_row _ _ j cs T (0, 0) h
def Byte (x : Int) : Prop := 0 ≤ x ∧ x ≤ 255
theorem getD_byte {bs : List Int} (hy : ∀ x ∈ bs, Byte x) {k : Nat} (hk : k < bs.length) : Byte (bs.getD k 0) := by
  rw [List.getD_eq_getElem?_getD, List.getElem?_eq_getElem hk]; exact hy _ (List.getElem_mem _)
/-- block g holds the numbers xs, and nothing else -/
structure Arr (k : IntKind) (T : TypeId) (w : World) (g : Nat) (xs : List Int) : Prop where
  row : w.heap[g]? = some (.cells (xs.map (Value.int k)).toArray T (0, 0))
section
variable {k : IntKind} {T : TypeId} {w w' : World} {g : Nat} {xs : List Int}
theorem Arr.lt (h : Arr k T w g xs) : g < w.heap.size := by
  rcases Nat.lt_or_ge g w.heap.size with h1 | h1
  · exact h1
  · have := h.row; rw [Array.getElem?_eq_none h1] at this; cases this
theorem Arr.cell (h : Arr k T w g xs) {j : Nat} (hj : j < xs.length) : w.cell? ⟨g, j, none⟩ = some (.int k (xs.getD j 0)) := by
  rw [cell_of_row w g j _ T (0, 0) h.row]
  simp [List.getD_eq_getElem?_getD, hj]
theorem Arr.frozen (h : Arr k T w g xs) (j : Nat) : w.frozen? ⟨g, j, none⟩ = false := frozen_of_row w g j _ T h.row
theorem Arr.stored (h : Arr k T w g xs) (j : Nat) (x : Int) : Arr k T (w.setCell ⟨g, j, none⟩ (.int k x)) g (xs.set j x) := by
  refine ⟨?_⟩
  rw [heap_setCell_same w g j _ T _ h.row, List.map_set]
  simp
theorem Arr.other (h : Arr k T w g xs) {a : Addr} (ha : a.block ≠ g) (v : Value) : Arr k T (w.setCell a v) g xs := ⟨by rw [heap_setCell_other w a g v (fun e => ha e.symm)]; exact h.row⟩
theorem Arr.heap (h : Arr k T w g xs) (e : w'.heap = w.heap) : Arr k T w' g xs := ⟨by rw [e]; exact h.row⟩
theorem Arr.below {B : Nat} (h : Arr k T w g xs) (hb : Below B w w') (hg : g < B) : Arr k T w' g xs := ⟨by rw [hb.block g hg]; exact h.row⟩
theorem Arr.alloc (h : Arr k T w g xs) (o : Obj) : Arr k T (w.alloc o) g xs := h.below (alloc_below w o) h.lt
theorem Arr.new (w : World) (k : IntKind) (T : TypeId) (xs : List Int) : Arr k T (w.alloc (.cells (xs.map (Value.int k)).toArray T)) w.heap.size xs := ⟨heap_alloc_new w _⟩
theorem Arr.part (h : Arr k T w g xs) {n : Nat} (hn : xs.length = n) : Nums k w w.heap.size (some ⟨g, 0, none⟩) n xs :=
  ⟨hn, fun _ => ⟨g, 0, rfl, h.lt, fun i hi => by rw [Nat.zero_add]; exact h.cell (by omega)⟩⟩
end
theorem list5 {α : Type} {l : List α} (h : l.length = 5) : ∃ a b c d e, l = [a, b, c, d, e] := by
  match l, h with
  | [a, b, c, d, e], _ => exact ⟨a, b, c, d, e, rfl⟩
end Go.Proofs.Ytblgkojeholbnaa.genC
