/-
  The walk of the third statement.
-/
import Derived.Test.YtpdooajcflofiaaChkQ
import Derived.BigRegion
namespace Go.Proofs.Ytpdooajcflofiaa.chkC
open Go.ChangeShapes Go.WideShapes Go.ChangeAt Go.RowKit
open Go.Proofs.Ytpdooajcflofiaa.memC Go.Proofs.Ytpdooajcflofiaa.chkM
set_option linter.unusedVariables false
/-- an aggregate is loaded out of the midst of a block -/
theorem run_load_part {P : Program} (w : World) (g o : Nat) (ty : TypeId) (l : List Value) (d : TypeDesc) (hc : ∀ j v, l[j]? = some v → w.cell? ⟨g, o + j, none⟩ = some v)
    (hu : P.underlying ty = some d) (hd : (match d with | .struct _ | .array _ _ => true | _ => false) = true) (hi : (P.info? ty).map (·.size) = some l.length) :
    (loadVar ty ⟨g, o, none⟩).run P w = .ok (.agg l.toArray) w := by
  have hl : (loadCells ⟨g, o, none⟩ l.length).run P w = .ok l.toArray w :=
    run_loadCells_list (P := P) w ⟨g, o, none⟩ l (fun j v hv => by rw [memC.add_plain]; exact hc j v hv)
  cases hq : P.info? ty with
  | none => simp [hq] at hi
  | some i =>
    have hs : i.size = l.length := by simpa [hq] using hi
    have hagg : (isAgg ty).run P w = .ok true w := by
      unfold isAgg
      rw [Sem.run_bind, run_underlying hu w]
      cases d <;> simp_all
    simp [loadVar, Sem.run_bind, hagg, sizeOf, typeInfo, hq, hs, hl]
theorem wpList_load_part {P : Program} {ops : Array Oper} {rest : List Oper} {o : Oper} {a : Act} {w : World} {Q : Exit → Act → World → Prop} (hgd : o.guard = none) (ty : TypeId) (x : Operand) (ho : o.op = .load ty x)
    (g q : Nat) (hx : a.eval x = .pointer (some ⟨g, q, none⟩)) (l : List Value) (d : TypeDesc) (hc : ∀ j v, l[j]? = some v → w.cell? ⟨g, q + j, none⟩ = some v)
    (hu : P.underlying ty = some d) (hd : (match d with | .struct _ | .array _ _ => true | _ => false) = true) (hi : (P.info? ty).map (·.size) = some l.length)
    (h : wpList P ops Q rest (a.put o.dst (.agg l.toArray)) w) : wpList P ops Q (o :: rest) a w :=
  wpList_plain hgd fun _ hK => by
    unfold Oper.wp execOp
    simp only [ho, hx, Instr.loadAt, Instr.sureAddr, Sem.run_bind, Sem.run_pure, Result.andThen_ok, run_load_part w g q ty l d hc hu hd hi]
    exact hK _ _ h
theorem good_long (v v2 : Array Value) (A : Option Addr) (n c : Nat) (w : World) (hn : n ≤ 9223372036854775807) (h : 3000 < n ∨ n < 2) :
    Calls Try.prog 5 #[.agg v, .slice A n c, .agg v2] w (AliveRet w) := by
  have LL := Lib.hid (fun w => long_any A n c w hn)
  have AL := Lib.hid (alive_past (w := w) (w1 := (w.alloc (.cells v 35)).alloc (.cells v2 36)) (((Below.refl _ _).alloc (Nat.le_refl _) _).alloc (by simp) _))
  by_cases h1 : 3000 < n
  · have d1 : decide (3000 < n) = true := by simpa using h1
    clear h h1
    go_enter Try.func5, Try.ntmps5
    go_wp2_with (first
      | (go_at_call 9; (refine (LL.out _).mono ?_; rintro e w' ⟨rfl, rfl⟩))
      | (go_at_call 8; (refine AL.out.mono ?_; rintro e w' ⟨rfl, hb⟩)))
    go_ret
    exact ⟨rfl, hb⟩
  · have d1 : decide (3000 < n) = false := by simpa using h1
    have h2 : n < 2 := by omega
    have h3 : (n : Int) < 2 := by omega
    clear h h1
    go_enter Try.func5, Try.ntmps5
    go_wp2_with (first
      | (go_at_call 9; (refine (LL.out _).mono ?_; rintro e w' ⟨rfl, rfl⟩))
      | (go_at_call 8; (refine AL.out.mono ?_; rintro e w' ⟨rfl, hb⟩)))
    go_ret
    exact ⟨rfl, hb⟩
end Go.Proofs.Ytpdooajcflofiaa.chkC
