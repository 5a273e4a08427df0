/-
  4 texts of a proof, joined.
-/
import Derived.Test.YtdoahlhkbhpgpaaDoorMg9
import Derived.Test.YtdoahlhkbhpgpaaDoorMg13
import Derived.Deep.CutRange

namespace Go.Proofs.YtdoahlhkbhpgpaaDoor.adC
open Go.ChangeShapes Go.WideShapes Go.ChangeAt Go.RowKit
open Go.Proofs.YtdoahlhkbhpgpaaDoor.memC Go.Proofs.YtdoahlhkbhpgpaaDoor.genC Go.Proofs.YtdoahlhkbhpgpaaDoor.butC Go.Proofs.YtdoahlhkbhpgpaaDoor.freeC Go.Proofs.YtdoahlhkbhpgpaaDoor.txC
set_option linter.unusedVariables false
end Go.Proofs.YtdoahlhkbhpgpaaDoor.adC

namespace Go.Proofs.YtdoahlhkbhpgpaaDoor.adC
open Go.ChangeShapes Go.WideShapes Go.ChangeAt Go.RowKit
open Go.Proofs.YtdoahlhkbhpgpaaDoor.memC Go.Proofs.YtdoahlhkbhpgpaaDoor.genC Go.Proofs.YtdoahlhkbhpgpaaDoor.butC Go.Proofs.YtdoahlhkbhpgpaaDoor.freeC Go.Proofs.YtdoahlhkbhpgpaaDoor.txC
set_option linter.unusedVariables false
structure MS (w : World) (s : Bool) (b : List Int) (wr : World) : Prop where
  bel : Below w.heap.size w wr
  row : wr.heap[w.heap.size]? = some (.cells (adrV s b) 24 (0, 0))
  res : wr.heap[w.heap.size + 1]? = some (.cells zAdr 24 (0, 0))
  len : b.length = 16
section
variable {w wr w' : World} {s : Bool} {b : List Int}
theorem MS.below (h : MS w s b wr) (hb : Below wr.heap.size wr w') : MS w s b w' :=
  ⟨h.bel.trans (hb.mono h.bel.size), by rw [hb.block _ (lt_of_row h.row)]; exact h.row, by rw [hb.block _ (lt_of_row h.res)]; exact h.res, h.len⟩
theorem MS.cell (h : MS w s b wr) {i : Nat} (hi : i < 16) : wr.cell? ⟨w.heap.size, 1 + i, none⟩ = some (.int .u8 (b.getD i 0)) := by
  rw [cell_of_row wr w.heap.size (1 + i) _ _ (0, 0) h.row]; exact adrV_at (by rw [h.len]; exact hi)
theorem MS.heap (h : MS w s b wr) (h1 : w'.heap = wr.heap) (h2 : w'.os = wr.os) (h3 : w'.output = wr.output) (h4 : w'.tape = wr.tape) : MS w s b w' :=
  ⟨⟨h2.trans h.bel.os, h4.trans h.bel.tape, h3.trans h.bel.output, by rw [h1]; exact h.bel.size, fun j hj => by rw [h1]; exact h.bel.block j hj⟩, by rw [h1]; exact h.row, by rw [h1]; exact h.res, h.len⟩
end
end Go.Proofs.YtdoahlhkbhpgpaaDoor.adC

namespace Go.Proofs.YtdoahlhkbhpgpaaDoor.adC
open Go.ChangeShapes Go.WideShapes Go.ChangeAt Go.RowKit
open Go.Proofs.YtdoahlhkbhpgpaaDoor.memC Go.Proofs.YtdoahlhkbhpgpaaDoor.genC Go.Proofs.YtdoahlhkbhpgpaaDoor.butC Go.Proofs.YtdoahlhkbhpgpaaDoor.freeC Go.Proofs.YtdoahlhkbhpgpaaDoor.txC
set_option linter.unusedVariables false
end Go.Proofs.YtdoahlhkbhpgpaaDoor.adC

namespace Go.Proofs.YtdoahlhkbhpgpaaDoor.adC
open Go.ChangeShapes Go.WideShapes Go.ChangeAt Go.RowKit
open Go.Proofs.YtdoahlhkbhpgpaaDoor.memC Go.Proofs.YtdoahlhkbhpgpaaDoor.genC Go.Proofs.YtdoahlhkbhpgpaaDoor.butC Go.Proofs.YtdoahlhkbhpgpaaDoor.freeC Go.Proofs.YtdoahlhkbhpgpaaDoor.txC
set_option linter.unusedVariables false
end Go.Proofs.YtdoahlhkbhpgpaaDoor.adC
