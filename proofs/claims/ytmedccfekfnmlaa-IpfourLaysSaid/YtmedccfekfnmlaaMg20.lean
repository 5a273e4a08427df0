/-
  1 texts of a proof, joined.
-/
import Derived.Test.YtmedccfekfnmlaaMg2
import Derived.StillTailTactics
import Derived.Deep.CutRange
import Derived.Deep.RegionHeld3
import Derived.Test.YtmedccfekfnmlaaMg4
import Derived.Test.YtmedccfekfnmlaaMg3
import Derived.Laws.CopyOwn
import Derived.Test.YtmedccfekfnmlaaMg18
import Derived.Test.YtmedccfekfnmlaaMg13
import Derived.Test.YtmedccfekfnmlaaMg19

/-
  Traffic keys over numbers; what both Sizes, long, fit and sixteen do.
-/
namespace Go.Proofs.Ytmedccfekfnmlaa.kdC
open Go.ChangeShapes Go.WideShapes Go.ChangeAt Go.RowKit
open Go.Proofs.Ytmedccfekfnmlaa.memC Go.Proofs.Ytmedccfekfnmlaa.genC Go.Proofs.Ytmedccfekfnmlaa.aesC Go.Proofs.Ytmedccfekfnmlaa.butC Go.Proofs.Ytmedccfekfnmlaa.freeC Go.Proofs.Ytmedccfekfnmlaa.partsC
set_option linter.unusedVariables false
/-- a slice of bytes that came in -/
structure Key (w : World) (A : Option Addr) (n c : Nat) (k : List Int) : Prop where
  nums : Nums .u8 w w.heap.size A n k
  byte : ∀ x ∈ k, Byte x
  cap : n ≤ c
  max : c ≤ 9223372036854775807
section
variable {w w' : World} {A : Option Addr} {n c : Nat} {msg : List Int}
end
end Go.Proofs.Ytmedccfekfnmlaa.kdC
