/-
  '==' of two arrays of bytes that are the same.
-/
import Derived.Test.YtknemkekmahdmaaGen
import Derived.Laws.StructEq
import Derived.ChangeKeysEq
namespace Go.Proofs.Ytknemkekmahdmaa.eqC
open Go.ChangeShapes Go.WideShapes Go.ChangeAt Go.RowKit
set_option linter.unusedVariables false
theorem run_items {P : Program} (w : World) (d : Nat) (e : TypeId) (K : IntKind) (xs : Array Value) (he : P.underlying e = some (.int K)) :
    ∀ is : List Nat, (∀ j ∈ is, ∃ z, xs[j]? = some (.int K z)) → (Op.eqItems (d + 1) e 1 xs xs is).run P w = .ok true w
  | [], _ => by simp [Op.eqItems]
  | j :: is, h => by
    obtain ⟨z, hz⟩ := h j (by simp)
    have hagg : (isAgg e).run P w = .ok false w := by
      unfold isAgg
      rw [Sem.run_bind, run_underlying he w]
      rfl
    have hp : (part e xs (j * 1)).run P w = .ok (.int K z) w := by
      rw [Nat.mul_one]
      simp [part, Sem.run_bind, hagg, hz]
    have ih := run_items w d e K xs he is fun i hi => h i (by simp [hi])
    have hq := run_equalIn_int (P := P) w d e K K z z he
    simp only [Op.eqItems, Sem.run_bind, hp, Result.andThen_ok, hq, beq_self_eq_true, Bool.not_true, Bool.false_eq_true, if_false, ih]
theorem run_same {P : Program} (w : World) (t e : TypeId) (n : Nat) (K : IntKind) (i : TypeInfo) (xs : Array Value) (ht : P.underlying t = some (.array n e)) (he : P.underlying e = some (.int K)) (hi : P.info? e = some i)
    (hc : P.cellsOf e = 1) (hx : ∀ j, j < n → ∃ z, xs[j]? = some (.int K z)) : (Op.equalIn 10000 t (.agg xs) (.agg xs)).run P w = .ok true w := by
  rw [show (10000 : Nat) = 9998 + 1 + 1 from rfl, run_equalIn_array w _ xs xs ht hi, hc]
  exact run_items w _ e K xs he _ fun j hj => hx j (List.mem_range.1 hj)
end Go.Proofs.Ytknemkekmahdmaa.eqC
