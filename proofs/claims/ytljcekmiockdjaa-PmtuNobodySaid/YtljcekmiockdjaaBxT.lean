/-
  The program's addresses: a text of four numbers.
-/
import Derived.Test.YtljcekmiockdjaaAdD
import Derived.Test.YtljcekmiockdjaaTxt
import Derived.Test.YtljcekmiockdjaaFree
import Derived.Test.YtljcekmiockdjaaLast
import Derived.Test.YtljcekmiockdjaaAdJ
import Derived.Lib.Split
import Derived.Lib.ParseIntB
import Derived.Lib.ItoaNum
import Derived.Deep.QuietTactic
import Derived.BigQuiet
import Derived.Laws.BitsAllLaws
import Derived.Great.BuildSlice
namespace Go.Proofs.Ytljcekmiockdjaa.adC
open Go.ChangeShapes Go.WideShapes Go.ChangeAt Go.RowKit
open Go.Proofs.Ytljcekmiockdjaa.memC Go.Proofs.Ytljcekmiockdjaa.genC Go.Proofs.Ytljcekmiockdjaa.butC Go.Proofs.Ytljcekmiockdjaa.freeC Go.Proofs.Ytljcekmiockdjaa.txC
set_option linter.unusedVariables false
/-- the state of a call that fills a new address: where its result will lie, and what is filled -/
structure FSt (w : World) (g : Nat) (s : Bool) (b : List Int) (wr : World) : Prop where
  bel : Below w.heap.size w wr
  res : wr.heap[w.heap.size]? = some (.cells zAdr 24 (0, 0))
  row : wr.heap[g]? = some (.cells (adrV s b) 24 (0, 0))
  gt : w.heap.size < g
  len : b.length = 16
section
variable {w wr w' : World} {g : Nat} {s : Bool} {b : List Int}
theorem FSt.cell (h : FSt w g s b wr) {i : Nat} (hi : i < 16) : wr.cell? ⟨g, 1 + i, none⟩ = some (.int .u8 (b.getD i 0)) := by
  rw [cell_of_row wr g (1 + i) _ _ (0, 0) h.row]; exact adrV_at (by rw [h.len]; exact hi)
end
end Go.Proofs.Ytljcekmiockdjaa.adC
