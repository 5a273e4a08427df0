/-
  1 texts of a proof, joined.
-/
import Derived.Test.YtbhcpbihbecphaaMg15
import Derived.Test.YtbhcpbihbecphaaMg3
import Derived.Test.YtbhcpbihbecphaaMg4
import Derived.Laws.CopyOwn

/-
  CMAC: the document's Of.
-/
namespace Go.Proofs.Ytbhcpbihbecphaa.aesC
open Go.ChangeShapes Go.WideShapes Go.ChangeAt Go.RowKit
open Go.Proofs.Ytbhcpbihbecphaa.memC Go.Proofs.Ytbhcpbihbecphaa.genC Go.Proofs.Ytbhcpbihbecphaa.butC Go.Proofs.Ytbhcpbihbecphaa.freeC Go.Proofs.Ytbhcpbihbecphaa.partsC
set_option linter.unusedVariables false
/-- rows of other types stand -/
def Keeps (e : TypeId) (w w' : World) : Prop := ∀ (g : Nat) (T : TypeId) (cs : Array Value) (f : Nat × Nat), T ≠ e → w.heap[g]? = some (.cells cs T f) → w'.heap[g]? = some (.cells cs T f)
theorem Keeps.trans {e : TypeId} {a b c : World} (h : Keeps e a b) (h' : Keeps e b c) : Keeps e a c := fun g T cs f ht hg => h' g T cs f ht (h g T cs f ht hg)
/-- the block that is turned, and that nothing below it turned -/
structure XF (V : World) (x : List Nat) (wr : World) : Prop where
  b9 : Bl 22 wr V.heap.size x
  bel : Below V.heap.size V wr
section
variable {V wr w' : World} {x y : List Nat}
theorem XF.heap (h : XF V x wr) (e : w'.heap = wr.heap) (e1 : w'.os = wr.os) (e2 : w'.tape = wr.tape) (e3 : w'.output = wr.output) : XF V x w' :=
  ⟨h.b9.heap e, h.bel.trans ⟨e1, e2, e3, by rw [e]; exact Nat.le_refl _, fun k _ => by rw [e]⟩⟩
theorem XF.put (h : XF V x wr) : XF V y (wr.setRow V.heap.size (vec y)) := ⟨h.b9.setRow, below_setRow h.bel (Nat.le_refl _) _⟩
end
end Go.Proofs.Ytbhcpbihbecphaa.aesC
