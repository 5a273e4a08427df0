/-
  The document's addresses: what Six does.
-/
import Derived.Test.YtljcekmiockdjaaAdD
import Derived.Great.BuildSlice
namespace Go.Proofs.Ytljcekmiockdjaa.adC
open Go.ChangeShapes Go.WideShapes Go.ChangeAt Go.RowKit
open Go.Proofs.Ytljcekmiockdjaa.memC Go.Proofs.Ytljcekmiockdjaa.genC Go.Proofs.Ytljcekmiockdjaa.butC Go.Proofs.Ytljcekmiockdjaa.freeC
set_option linter.unusedVariables false
def W16 (x : Int) : Prop := 0 ≤ x ∧ x ≤ 65535
section
variable {w0 w : World} {Z : Array Value} {b : List Int} {i p q g gb go n c : Nat} {x hi lo : Int} {m : Nat → Bool} {us : Nat → Value}
end
end Go.Proofs.Ytljcekmiockdjaa.adC
