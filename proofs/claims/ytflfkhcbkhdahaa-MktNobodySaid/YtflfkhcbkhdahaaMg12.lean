/-
  1 texts of a proof, joined.
-/
import Derived.Test.YtflfkhcbkhdahaaMg8
import Derived.Test.YtflfkhcbkhdahaaMg11

/-
  The program's addresses: which one is ahead.
-/
namespace Go.Proofs.Ytflfkhcbkhdahaa.adC
open Go.ChangeShapes Go.WideShapes Go.ChangeAt Go.RowKit
open Go.Proofs.Ytflfkhcbkhdahaa.memC Go.Proofs.Ytflfkhcbkhdahaa.genC Go.Proofs.Ytflfkhcbkhdahaa.butC Go.Proofs.Ytflfkhcbkhdahaa.freeC Go.Proofs.Ytflfkhcbkhdahaa.txC
set_option linter.unusedVariables false
def cv4V (g0 g1 : Nat) (CA CB : Array Value) (r : Int) : Nat → Value → World → Prop
  | 0, v, _ => v = .pointer (some ⟨g0, 1, none⟩)
  | 1, v, _ => v = .agg CA
  | 2, v, _ => v = .int .i64 4
  | 3, v, _ => v = .slice (some ⟨g0, 1, none⟩) 4 16
  | 4, v, _ => v = .pointer (some ⟨g1, 1, none⟩)
  | 5, v, _ => v = .agg CB
  | 6, v, _ => v = .int .i64 4
  | 7, v, _ => v = .slice (some ⟨g1, 1, none⟩) 4 16
  | 8, v, _ => v = .int .i64 r
  | 9, v, _ => v = .int .i64 r
  | _, _, _ => True
theorem cv4V.keep (g0 g1 : Nat) (CA CB : Array Value) (r : Int) (i : Nat) (v : Value) (w w' : World) (hb : Below w.heap.size w w') (h : cv4V g0 g1 CA CB r i v w) : cv4V g0 g1 CA CB r i v w' := by
  unfold cv4V at h ⊢
  split at h <;> exact h
def cv16V (g0 g1 : Nat) (CA CB : Array Value) (r : Int) : Nat → Value → World → Prop
  | 0, v, _ => v = .pointer (some ⟨g0, 1, none⟩)
  | 1, v, _ => v = .agg CA
  | 2, v, _ => v = .int .i64 16
  | 3, v, _ => v = .slice (some ⟨g0, 1, none⟩) 16 16
  | 4, v, _ => v = .pointer (some ⟨g1, 1, none⟩)
  | 5, v, _ => v = .agg CB
  | 6, v, _ => v = .int .i64 16
  | 7, v, _ => v = .slice (some ⟨g1, 1, none⟩) 16 16
  | 8, v, _ => v = .int .i64 r
  | 9, v, _ => v = .int .i64 r
  | _, _, _ => True
theorem cv16V.keep (g0 g1 : Nat) (CA CB : Array Value) (r : Int) (i : Nat) (v : Value) (w w' : World) (hb : Below w.heap.size w w') (h : cv16V g0 g1 CA CB r i v w) : cv16V g0 g1 CA CB r i v w' := by
  unfold cv16V at h ⊢
  split at h <;> exact h
end Go.Proofs.Ytflfkhcbkhdahaa.adC
