/-
  Which operation a walk stands at: told by its form alone, so that an arm that does not fit falls at once.
-/
import Derived.Test.YtljcekmiockdjaaRows
import Derived.WalkKit
import Derived.ProofKit
import Derived.OpenShut
import Derived.ShutString
import Derived.ChangeOld
import Derived.Below
import Derived.RegionTactic
namespace Go.Proofs.Ytljcekmiockdjaa.atC
open Go.ChangeShapes Go.WideShapes Go.ChangeAt Go.RowKit
section
variable {P : Program} {ops : Array Oper} {rest : List Oper} {a : Act} {w : World} {Q : Exit → Act → World → Prop} {d : Option Tmp} {t : TypeId} {p : String} {f : Array Edge} {g : Option (Nat × Bool)}
theorem at_load (ty : TypeId) (s : Tmp) (h : wpList P ops Q (⟨d, .load ty (.tmp s), t, p, f, g⟩ :: rest) a w) : wpList P ops Q (⟨d, .load ty (.tmp s), t, p, f, g⟩ :: rest) a w := h
theorem at_bin {x y : Operand} {r : TypeId} (o : BinOp) (ty : TypeId) (h : wpList P ops Q (⟨d, .binOp o ty x y r, t, p, f, g⟩ :: rest) a w) : wpList P ops Q (⟨d, .binOp o ty x y r, t, p, f, g⟩ :: rest) a w := h
theorem at_one {o : Oper} (h : wpList P ops Q (o :: rest) a w) : wpList P ops Q (o :: rest) a w := h
end
end Go.Proofs.Ytljcekmiockdjaa.atC
