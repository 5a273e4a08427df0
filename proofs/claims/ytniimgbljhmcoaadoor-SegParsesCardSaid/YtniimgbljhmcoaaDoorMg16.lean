/-
  1 texts of a proof, joined.
-/
import Derived.Test.YtniimgbljhmcoaaDoorMg15
import Derived.Laws.CopyOwn
import Derived.Test.YtniimgbljhmcoaaDoorMg13

/-
  CMAC: the document's Of.
-/
namespace Go.Proofs.YtniimgbljhmcoaaDoor.aesC
open Go.ChangeShapes Go.WideShapes Go.ChangeAt Go.RowKit
open Go.Proofs.YtniimgbljhmcoaaDoor.memC Go.Proofs.YtniimgbljhmcoaaDoor.genC Go.Proofs.YtniimgbljhmcoaaDoor.butC Go.Proofs.YtniimgbljhmcoaaDoor.freeC Go.Proofs.YtniimgbljhmcoaaDoor.partsC
set_option linter.unusedVariables false
/-- rows of other types stand -/
def Keeps (e : TypeId) (w w' : World) : Prop := ∀ (g : Nat) (T : TypeId) (cs : Array Value) (f : Nat × Nat), T ≠ e → w.heap[g]? = some (.cells cs T f) → w'.heap[g]? = some (.cells cs T f)
theorem Keeps.refl (e : TypeId) (w : World) : Keeps e w w := fun _ _ _ _ _ h => h
theorem Keeps.trans {e : TypeId} {a b c : World} (h : Keeps e a b) (h' : Keeps e b c) : Keeps e a c := fun g T cs f ht hg => h' g T cs f ht (h g T cs f ht hg)
/-- the block that is turned, and that nothing below it turned -/
structure XF (V : World) (x : List Nat) (wr : World) : Prop where
  b9 : Bl 22 wr V.heap.size x
  bel : Below V.heap.size V wr
section
variable {V wr w' : World} {x y : List Nat}
theorem XF.heap (h : XF V x wr) (e : w'.heap = wr.heap) (e1 : w'.os = wr.os) (e2 : w'.tape = wr.tape) (e3 : w'.output = wr.output) : XF V x w' :=
  ⟨h.b9.heap e, h.bel.trans ⟨e1, e2, e3, by rw [e]; exact Nat.le_refl _, fun k _ => by rw [e]⟩⟩
theorem XF.below (h : XF V x wr) (b : Below wr.heap.size wr w') : XF V x w' := ⟨h.b9.below b h.b9.lt, h.bel.trans (b.mono h.bel.size)⟩
theorem XF.put (h : XF V x wr) : XF V y (wr.setRow V.heap.size (vec y)) := ⟨h.b9.setRow, below_setRow h.bel (Nat.le_refl _) _⟩
end
end Go.Proofs.YtniimgbljhmcoaaDoor.aesC
