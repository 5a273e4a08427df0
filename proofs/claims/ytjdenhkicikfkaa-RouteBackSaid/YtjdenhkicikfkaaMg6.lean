/-
  1 texts of a proof, joined.
-/
import Derived.Test.YtjdenhkicikfkaaMg5
import Derived.Laws.CopyOwn

/-
  The program's addresses: four bytes, any bytes as an address, whether one may be.
-/
namespace Go.Proofs.Ytjdenhkicikfkaa.adC
open Go.ChangeShapes Go.WideShapes Go.ChangeAt Go.RowKit
open Go.Proofs.Ytjdenhkicikfkaa.memC Go.Proofs.Ytjdenhkicikfkaa.genC Go.Proofs.Ytjdenhkicikfkaa.butC Go.Proofs.Ytjdenhkicikfkaa.freeC Go.Proofs.Ytjdenhkicikfkaa.txC
open Go.Proofs.Ytjdenhkicikfkaa.partC (wpList_load_part run_load_part)
set_option linter.unusedVariables false
/-- an address and OK; the zero one and an error -/
def ORet (c : Int) (w : World) (o : Option (Bool × List Int)) (e : Ending) (w' : World) : Prop :=
  (match o with | some (s, b) => e = .returned (.tuple #[.agg (adrV s b), .int .i64 0]) | none => e = .returned (.tuple #[.agg zAdr, .int .i64 c])) ∧ Below w.heap.size w w'
end Go.Proofs.Ytjdenhkicikfkaa.adC
