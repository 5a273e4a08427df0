/-
  1 texts of a proof, joined.
-/
import Derived.Test.YtflfkhcbkhdahaaMg5
import Derived.Laws.CopyOwn

/-
  The program's addresses: four bytes, any bytes as an address, whether one may be.
-/
namespace Go.Proofs.Ytflfkhcbkhdahaa.adC
open Go.ChangeShapes Go.WideShapes Go.ChangeAt Go.RowKit
open Go.Proofs.Ytflfkhcbkhdahaa.memC Go.Proofs.Ytflfkhcbkhdahaa.genC Go.Proofs.Ytflfkhcbkhdahaa.butC Go.Proofs.Ytflfkhcbkhdahaa.freeC Go.Proofs.Ytflfkhcbkhdahaa.txC
open Go.Proofs.Ytflfkhcbkhdahaa.partC (wpList_load_part run_load_part)
set_option linter.unusedVariables false
/-- an address and OK; the zero one and an error -/
def ORet (c : Int) (w : World) (o : Option (Bool × List Int)) (e : Ending) (w' : World) : Prop :=
  (match o with | some (s, b) => e = .returned (.tuple #[.agg (adrV s b), .int .i64 0]) | none => e = .returned (.tuple #[.agg zAdr, .int .i64 c])) ∧ Below w.heap.size w w'
end Go.Proofs.Ytflfkhcbkhdahaa.adC
