/-
  a[i] of an array by value, the array a letter.
-/
import Derived.Test.YtljcekmiockdjaaGen
namespace Go.Proofs.Ytljcekmiockdjaa.idxC
open Go.ChangeShapes Go.WideShapes Go.ChangeAt Go.RowKit
set_option linter.unusedVariables false
theorem run_idx {P : Program} (w : World) (t e : TypeId) (n : Nat) (K : IntKind) (i : TypeInfo) (cs : Array Value) (k : Nat) (v : Value) (ht : P.underlying t = some (.array n e)) (he : P.underlying e = some (.int K))
    (hi : P.info? e = some i) (hs : i.size = 1) (hk : k < n) (hv : cs[k]? = some v) : (Instr.index t (.agg cs) (.int .i64 (k : Int))).run P w = .ok v w := by
  have hn : 0 ≤ (k : Int) ∧ (k : Int) < (n : Int) := by omega
  have hagg : (isAgg e).run P w = .ok false w := by
    unfold isAgg
    rw [Sem.run_bind, run_underlying he w]
    rfl
  have hp : (part e cs k).run P w = .ok v w := by
    simp [part, Sem.run_bind, hagg, hv]
  simp [Instr.index, run_underlying ht, asIntOf, hn, sizeOf, typeInfo, hi, hs, hp, Sem.run_bind]
  omega
end Go.Proofs.Ytljcekmiockdjaa.idxC
