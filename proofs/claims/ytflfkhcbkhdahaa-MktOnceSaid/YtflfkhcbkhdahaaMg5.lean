/-
  1 texts of a proof, joined.
-/
import Derived.Test.YtflfkhcbkhdahaaMg4
import Derived.Lib.Split
import Derived.Lib.ParseIntB
import Derived.Lib.ItoaNum
import Derived.Deep.QuietTactic
import Derived.BigQuiet
import Derived.Laws.BitsAllLaws
import Derived.Great.BuildSlice

/-
  The program's addresses: a text of four numbers.
-/
namespace Go.Proofs.Ytflfkhcbkhdahaa.adC
open Go.ChangeShapes Go.WideShapes Go.ChangeAt Go.RowKit
open Go.Proofs.Ytflfkhcbkhdahaa.memC Go.Proofs.Ytflfkhcbkhdahaa.genC Go.Proofs.Ytflfkhcbkhdahaa.butC Go.Proofs.Ytflfkhcbkhdahaa.freeC Go.Proofs.Ytflfkhcbkhdahaa.txC
set_option linter.unusedVariables false
/-- the state of a call that fills a new address: where its result will lie, and what is filled -/
structure FSt (w : World) (g : Nat) (s : Bool) (b : List Int) (wr : World) : Prop where
  bel : Below w.heap.size w wr
  res : wr.heap[w.heap.size]? = some (.cells zAdr 25 (0, 0))
  row : wr.heap[g]? = some (.cells (adrV s b) 25 (0, 0))
  gt : w.heap.size < g
  len : b.length = 16
section
variable {w wr w' : World} {g : Nat} {s : Bool} {b : List Int}
theorem FSt.below (h : FSt w g s b wr) (hb : Below wr.heap.size wr w') : FSt w g s b w' :=
  ⟨h.bel.trans (hb.mono h.bel.size), by rw [hb.block _ (lt_of_row h.res)]; exact h.res, by rw [hb.block _ (lt_of_row h.row)]; exact h.row, h.gt, h.len⟩
theorem FSt.set (h : FSt w g s b wr) (i : Nat) (x : Int) : FSt w g s (b.set i x) (wr.setCell ⟨g, 1 + i, none⟩ (.int .u8 x)) := by
  have hg := h.gt
  refine ⟨h.bel.setCell (p := ⟨g, 1 + i, none⟩) (by show w.heap.size ≤ g; omega) _, ?_, ?_, hg, by rw [List.length_set]; exact h.len⟩
  · rw [heap_setCell_other wr ⟨g, 1 + i, none⟩ _ _ (fun e => by simp at e; omega)]; exact h.res
  · rw [heap_setCell_same wr g (1 + i) _ 25 _ h.row, adrV_set]
theorem FSt.cell (h : FSt w g s b wr) {i : Nat} (hi : i < 16) : wr.cell? ⟨g, 1 + i, none⟩ = some (.int .u8 (b.getD i 0)) := by
  rw [cell_of_row wr g (1 + i) _ _ (0, 0) h.row]; exact adrV_at (by rw [h.len]; exact hi)
theorem FSt.frozen (h : FSt w g s b wr) (i : Nat) : wr.frozen? ⟨g, i, none⟩ = false := frozen_of_row wr g i _ 25 h.row
end
theorem adr_info (s : Bool) {b : List Int} (h : b.length = 16) : (Try.prog.info? 25).map (·.size) = some (adrV s b).size := by rw [addr_info, adrV_size h]
theorem z_info : (Try.prog.info? 25).map (·.size) = some zAdr.size := adr_info false (zs_len 16)
theorem z_one : zAdr.all (·.oneCell') = true := adrV_one _ _
theorem z_size (s : Bool) {b : List Int} (h : b.length = 16) : zAdr.size = (adrV s b).size := by rw [adrV_size h]; exact adrV_size (zs_len 16)
end Go.Proofs.Ytflfkhcbkhdahaa.adC
