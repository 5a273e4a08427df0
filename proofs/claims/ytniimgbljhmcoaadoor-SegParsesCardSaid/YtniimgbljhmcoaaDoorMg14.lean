/-
  2 texts of a proof, joined.
-/
import Derived.Test.YtniimgbljhmcoaaDoorMg2
import Derived.StillTailTactics
import Derived.Deep.CutRange
import Derived.Deep.RegionHeld3
import Derived.Test.YtniimgbljhmcoaaDoorMg6
import Derived.Laws.StructEq
import Derived.ChangeKeysEq

/-
  The document's sha: a block's eighty numbers.
-/
namespace Go.Proofs.YtniimgbljhmcoaaDoor.shaC
open Go.ChangeShapes Go.WideShapes Go.ChangeAt Go.RowKit
open Go.Proofs.YtniimgbljhmcoaaDoor.memC Go.Proofs.YtniimgbljhmcoaaDoor.genC
set_option linter.unusedVariables false
/-- what lies in a cell -/
def tv (w : World) (b t : Nat) : Value := (w.cell? ⟨b, t, none⟩).getD undef
/-- what region 7 reads, and what it writes -/
def S7 (g q3 q8 q14 q16 t : Nat) (x3 x8 x14 x16 : Int) (w' : World) : Prop :=
  w'.cell? ⟨g, q3, none⟩ = some (.int .u32 x3) ∧ w'.cell? ⟨g, q8, none⟩ = some (.int .u32 x8) ∧ w'.cell? ⟨g, q14, none⟩ = some (.int .u32 x14) ∧
    w'.cell? ⟨g, q16, none⟩ = some (.int .u32 x16) ∧ w'.cell? ⟨g, t, none⟩ = some (tv w' g t) ∧ w'.frozen? ⟨g, t, none⟩ = false
section
variable {g q3 q8 q14 q16 t : Nat} {x3 x8 x14 x16 : Int} {w' : World}
theorem S7.drew (h : S7 g q3 q8 q14 q16 t x3 x8 x14 x16 w') : S7 g q3 q8 q14 q16 t x3 x8 x14 x16 w'.drew := h
theorem S7.drewN (j : Nat) (h : S7 g q3 q8 q14 q16 t x3 x8 x14 x16 w') : S7 g q3 q8 q14 q16 t x3 x8 x14 x16 (w'.drewN j) := h
end
/-- the number in a cell -/
def tn (w : World) (g i : Nat) : Int := match w.cell? ⟨g, i, none⟩ with
  | some (.int _ z) => z
  | _ => 0
theorem tn_val {w : World} {g i : Nat} {k : IntKind} {z : Int} (h : w.cell? ⟨g, i, none⟩ = some (.int k z)) : tn w g i = z := by unfold tn; rw [h]
theorem tn_of {w : World} {g i : Nat} {k : IntKind} {z : Int} (h : w.cell? ⟨g, i, none⟩ = some (.int k z)) : w.cell? ⟨g, i, none⟩ = some (.int k (tn w g i)) := by rw [tn_val h, h]
/-- five numbers that may be read and written -/
def S21 (g : Nat) (w' : World) : Prop :=
  w'.cell? ⟨g, 0, none⟩ = some (.int .u32 (tn w' g 0)) ∧ w'.cell? ⟨g, 1, none⟩ = some (.int .u32 (tn w' g 1)) ∧ w'.cell? ⟨g, 2, none⟩ = some (.int .u32 (tn w' g 2)) ∧ w'.cell? ⟨g, 3, none⟩ = some (.int .u32 (tn w' g 3)) ∧ w'.cell? ⟨g, 4, none⟩ = some (.int .u32 (tn w' g 4)) ∧
    w'.frozen? ⟨g, 0, none⟩ = false ∧ w'.frozen? ⟨g, 1, none⟩ = false ∧ w'.frozen? ⟨g, 2, none⟩ = false ∧ w'.frozen? ⟨g, 3, none⟩ = false ∧ w'.frozen? ⟨g, 4, none⟩ = false
section
variable {g : Nat} {w' : World}
theorem S21.mk {z0 z1 z2 z3 z4 : Int} (c0 : w'.cell? ⟨g, 0, none⟩ = some (.int .u32 z0)) (c1 : w'.cell? ⟨g, 1, none⟩ = some (.int .u32 z1)) (c2 : w'.cell? ⟨g, 2, none⟩ = some (.int .u32 z2)) (c3 : w'.cell? ⟨g, 3, none⟩ = some (.int .u32 z3)) (c4 : w'.cell? ⟨g, 4, none⟩ = some (.int .u32 z4))
    (f0 : w'.frozen? ⟨g, 0, none⟩ = false) (f1 : w'.frozen? ⟨g, 1, none⟩ = false) (f2 : w'.frozen? ⟨g, 2, none⟩ = false) (f3 : w'.frozen? ⟨g, 3, none⟩ = false) (f4 : w'.frozen? ⟨g, 4, none⟩ = false) : S21 g w' :=
  ⟨tn_of c0, tn_of c1, tn_of c2, tn_of c3, tn_of c4, f0, f1, f2, f3, f4⟩
theorem S21.drew (h : S21 g w') : S21 g w'.drew := h
theorem S21.drewN (j : Nat) (h : S21 g w') : S21 g (w'.drewN j) := h
end
end Go.Proofs.YtniimgbljhmcoaaDoor.shaC

/-
  '==' of two arrays of bytes that are the same.
-/
namespace Go.Proofs.YtniimgbljhmcoaaDoor.eqC
open Go.ChangeShapes Go.WideShapes Go.ChangeAt Go.RowKit
set_option linter.unusedVariables false
theorem run_items {P : Program} (w : World) (d : Nat) (e : TypeId) (K : IntKind) (xs : Array Value) (he : P.underlying e = some (.int K)) :
    ∀ is : List Nat, (∀ j ∈ is, ∃ z, xs[j]? = some (.int K z)) → (Op.eqItems (d + 1) e 1 xs xs is).run P w = .ok true w
  | [], _ => by simp [Op.eqItems]
  | j :: is, h => by
    obtain ⟨z, hz⟩ := h j (by simp)
    have hagg : (isAgg e).run P w = .ok false w := by
      unfold isAgg
      rw [Sem.run_bind, run_underlying he w]
      rfl
    have hp : (part e xs (j * 1)).run P w = .ok (.int K z) w := by
      rw [Nat.mul_one]
      simp [part, Sem.run_bind, hagg, hz]
    have ih := run_items w d e K xs he is fun i hi => h i (by simp [hi])
    have hq := run_equalIn_int (P := P) w d e K K z z he
    simp only [Op.eqItems, Sem.run_bind, hp, Result.andThen_ok, hq, beq_self_eq_true, Bool.not_true, Bool.false_eq_true, if_false, ih]
theorem run_same {P : Program} (w : World) (t e : TypeId) (n : Nat) (K : IntKind) (i : TypeInfo) (xs : Array Value) (ht : P.underlying t = some (.array n e)) (he : P.underlying e = some (.int K)) (hi : P.info? e = some i)
    (hc : P.cellsOf e = 1) (hx : ∀ j, j < n → ∃ z, xs[j]? = some (.int K z)) : (Op.equalIn 10000 t (.agg xs) (.agg xs)).run P w = .ok true w := by
  rw [show (10000 : Nat) = 9998 + 1 + 1 from rfl, run_equalIn_array w _ xs xs ht hi, hc]
  exact run_items w _ e K xs he _ fun j hj => hx j (List.mem_range.1 hj)
end Go.Proofs.YtniimgbljhmcoaaDoor.eqC
