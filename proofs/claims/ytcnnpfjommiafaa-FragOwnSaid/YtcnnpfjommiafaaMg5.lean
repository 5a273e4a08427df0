/-
  1 texts of a proof, joined.
-/
import Derived.Test.YtcnnpfjommiafaaMg4
import Derived.Test.YtcnnpfjommiafaaMg3
import Derived.Lib.Split
import Derived.Lib.ParseIntB
import Derived.Lib.ItoaNum
import Derived.Deep.QuietTactic
import Derived.BigQuiet
import Derived.Laws.BitsAllLaws
import Derived.Great.BuildSlice

/-
  The program's addresses: a text of four numbers.
-/
namespace Go.Proofs.Ytcnnpfjommiafaa.adC
open Go.ChangeShapes Go.WideShapes Go.ChangeAt Go.RowKit
open Go.Proofs.Ytcnnpfjommiafaa.memC Go.Proofs.Ytcnnpfjommiafaa.genC Go.Proofs.Ytcnnpfjommiafaa.butC Go.Proofs.Ytcnnpfjommiafaa.freeC Go.Proofs.Ytcnnpfjommiafaa.txC
set_option linter.unusedVariables false
/-- the state of a call that fills a new address: where its result will lie, and what is filled -/
structure FSt (w : World) (g : Nat) (s : Bool) (b : List Int) (wr : World) : Prop where
  bel : Below w.heap.size w wr
  res : wr.heap[w.heap.size]? = some (.cells zAdr 24 (0, 0))
  row : wr.heap[g]? = some (.cells (adrV s b) 24 (0, 0))
  gt : w.heap.size < g
  len : b.length = 16
section
variable {w wr w' : World} {g : Nat} {s : Bool} {b : List Int}
theorem FSt.below (h : FSt w g s b wr) (hb : Below wr.heap.size wr w') : FSt w g s b w' :=
  ⟨h.bel.trans (hb.mono h.bel.size), by rw [hb.block _ (lt_of_row h.res)]; exact h.res, by rw [hb.block _ (lt_of_row h.row)]; exact h.row, h.gt, h.len⟩
theorem FSt.cell (h : FSt w g s b wr) {i : Nat} (hi : i < 16) : wr.cell? ⟨g, 1 + i, none⟩ = some (.int .u8 (b.getD i 0)) := by
  rw [cell_of_row wr g (1 + i) _ _ (0, 0) h.row]; exact adrV_at (by rw [h.len]; exact hi)
end
theorem adr_info (s : Bool) {b : List Int} (h : b.length = 16) : (Try.prog.info? 24).map (·.size) = some (adrV s b).size := by rw [addr_info, adrV_size h]
end Go.Proofs.Ytcnnpfjommiafaa.adC
