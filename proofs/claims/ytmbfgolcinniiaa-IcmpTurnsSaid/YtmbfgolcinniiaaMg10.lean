/-
  1 texts of a proof, joined.
-/
import Derived.Test.YtmbfgolcinniiaaMg9
import Derived.Lib.Split
import Derived.Lib.ParseIntB
import Derived.Lib.ItoaNum
import Derived.Deep.QuietTactic
import Derived.BigQuiet
import Derived.Laws.BitsAllLaws
import Derived.Great.BuildSlice

/-
  The program's addresses: a text of four numbers.
-/
namespace Go.Proofs.Ytmbfgolcinniiaa.adC
open Go.ChangeShapes Go.WideShapes Go.ChangeAt Go.RowKit
open Go.Proofs.Ytmbfgolcinniiaa.memC Go.Proofs.Ytmbfgolcinniiaa.genC Go.Proofs.Ytmbfgolcinniiaa.butC Go.Proofs.Ytmbfgolcinniiaa.freeC Go.Proofs.Ytmbfgolcinniiaa.txC
set_option linter.unusedVariables false
/-- the state of a call that fills a new address: where its result will lie, and what is filled -/
structure FSt (w : World) (g : Nat) (s : Bool) (b : List Int) (wr : World) : Prop where
  bel : Below w.heap.size w wr
  res : wr.heap[w.heap.size]? = some (.cells zAdr 29 (0, 0))
  row : wr.heap[g]? = some (.cells (adrV s b) 29 (0, 0))
  gt : w.heap.size < g
  len : b.length = 16
section
variable {w wr w' : World} {g : Nat} {s : Bool} {b : List Int}
theorem FSt.below (h : FSt w g s b wr) (hb : Below wr.heap.size wr w') : FSt w g s b w' :=
  ⟨h.bel.trans (hb.mono h.bel.size), by rw [hb.block _ (lt_of_row h.res)]; exact h.res, by rw [hb.block _ (lt_of_row h.row)]; exact h.row, h.gt, h.len⟩
theorem FSt.cell (h : FSt w g s b wr) {i : Nat} (hi : i < 16) : wr.cell? ⟨g, 1 + i, none⟩ = some (.int .u8 (b.getD i 0)) := by
  rw [cell_of_row wr g (1 + i) _ _ (0, 0) h.row]; exact adrV_at (by rw [h.len]; exact hi)
theorem FSt.frozen (h : FSt w g s b wr) (i : Nat) : wr.frozen? ⟨g, i, none⟩ = false := frozen_of_row wr g i _ 29 h.row
end
end Go.Proofs.Ytmbfgolcinniiaa.adC
