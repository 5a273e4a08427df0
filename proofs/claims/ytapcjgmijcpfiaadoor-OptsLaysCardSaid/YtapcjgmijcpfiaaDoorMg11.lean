/-
  1 texts of a proof, joined.
-/
import Derived.Test.YtapcjgmijcpfiaaDoorMg3
import Derived.StillTailTactics
import Derived.Deep.CutRange
import Derived.Deep.RegionHeld3
import Derived.Test.YtapcjgmijcpfiaaDoorMg5
import Derived.Test.YtapcjgmijcpfiaaDoorMg4
import Derived.Test.YtapcjgmijcpfiaaDoorMg9
import Derived.Laws.CopyOwn
import Derived.Test.YtapcjgmijcpfiaaDoorMg10
import Derived.Test.YtapcjgmijcpfiaaDoorMg2
import Derived.Lib.AppendZeros

/-
  Traffic keys over numbers; what both Sizes, long, fit and sixteen do.
-/
namespace Go.Proofs.YtapcjgmijcpfiaaDoor.kdC
open Go.ChangeShapes Go.WideShapes Go.ChangeAt Go.RowKit
open Go.Proofs.YtapcjgmijcpfiaaDoor.memC Go.Proofs.YtapcjgmijcpfiaaDoor.genC Go.Proofs.YtapcjgmijcpfiaaDoor.aesC Go.Proofs.YtapcjgmijcpfiaaDoor.butC Go.Proofs.YtapcjgmijcpfiaaDoor.freeC Go.Proofs.YtapcjgmijcpfiaaDoor.partsC
set_option linter.unusedVariables false
/-- a slice of bytes that came in -/
structure Key (w : World) (A : Option Addr) (n c : Nat) (k : List Int) : Prop where
  nums : Nums .u8 w w.heap.size A n k
  byte : ∀ x ∈ k, Byte x
  cap : n ≤ c
  max : c ≤ 9223372036854775807
section
variable {w w' : World} {A : Option Addr} {n c : Nat} {msg : List Int}
end
end Go.Proofs.YtapcjgmijcpfiaaDoor.kdC
