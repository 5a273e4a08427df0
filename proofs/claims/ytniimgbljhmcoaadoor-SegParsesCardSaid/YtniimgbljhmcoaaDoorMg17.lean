/-
  1 texts of a proof, joined.
-/
import Derived.Test.YtniimgbljhmcoaaDoorMg14
import Derived.Test.YtniimgbljhmcoaaDoorMg4
import Derived.Test.YtniimgbljhmcoaaDoorMg5
import Derived.Test.YtniimgbljhmcoaaDoorMg12
import Derived.Laws.CopyOwn
import Derived.Test.YtniimgbljhmcoaaDoorMg13
import Derived.Test.YtniimgbljhmcoaaDoorMg16
import Derived.Test.YtniimgbljhmcoaaDoorMg15
import Derived.Test.YtniimgbljhmcoaaDoorMg2

/-
  Traffic keys over numbers; what both Sizes, long, fit and sixteen do.
-/
namespace Go.Proofs.YtniimgbljhmcoaaDoor.kdC
open Go.ChangeShapes Go.WideShapes Go.ChangeAt Go.RowKit
open Go.Proofs.YtniimgbljhmcoaaDoor.memC Go.Proofs.YtniimgbljhmcoaaDoor.genC Go.Proofs.YtniimgbljhmcoaaDoor.aesC Go.Proofs.YtniimgbljhmcoaaDoor.butC Go.Proofs.YtniimgbljhmcoaaDoor.freeC Go.Proofs.YtniimgbljhmcoaaDoor.partsC
set_option linter.unusedVariables false
/-- a slice of bytes that came in -/
structure Key (w : World) (A : Option Addr) (n c : Nat) (k : List Int) : Prop where
  nums : Nums .u8 w w.heap.size A n k
  byte : ∀ x ∈ k, Byte x
  cap : n ≤ c
  max : c ≤ 9223372036854775807
section
variable {w w' : World} {A : Option Addr} {n c : Nat} {msg : List Int}
theorem Key.below (h : Key w A n c msg) (B : Below w.heap.size w w') : Key w' A n c msg := ⟨(h.nums.below B).more B.size, h.byte, h.cap, h.max⟩
end
end Go.Proofs.YtniimgbljhmcoaaDoor.kdC
