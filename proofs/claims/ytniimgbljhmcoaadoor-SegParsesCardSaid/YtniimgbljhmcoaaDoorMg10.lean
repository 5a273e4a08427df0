/-
  1 texts of a proof, joined.
-/
import Derived.Test.YtniimgbljhmcoaaDoorMg7
import Derived.Laws.CopyOwn
import Derived.Test.YtniimgbljhmcoaaDoorMg9

/-
  Whether an address may be, by the program and by the document; its bytes, and any bytes' address, by the document.
-/
namespace Go.Proofs.YtniimgbljhmcoaaDoor.adC
open Go.ChangeShapes Go.WideShapes Go.ChangeAt Go.RowKit
open Go.Proofs.YtniimgbljhmcoaaDoor.memC Go.Proofs.YtniimgbljhmcoaaDoor.genC Go.Proofs.YtniimgbljhmcoaaDoor.butC Go.Proofs.YtniimgbljhmcoaaDoor.freeC Go.Proofs.YtniimgbljhmcoaaDoor.txC
open Go.Proofs.YtniimgbljhmcoaaDoor.partC (wpList_load_part run_load_part)
set_option linter.unusedVariables false
theorem run_arrayAt {P : Program} {t e : TypeId} {n : Nat} (ht : P.underlying t = some (.array n e)) (A : Option Addr) (l c : Nat) (h : n ≤ l) (w : World) : (Instr.arrayAt t (.slice A l c)).run P w = .ok (.pointer A) w := by
  unfold Instr.arrayAt
  rw [Sem.run_bind, run_underlying ht w]
  simp [Nat.not_lt.2 h]
set_option maxRecDepth 100000 in
theorem eq12 {xs ys : List Int} (hx : xs.length = 12) (hy : ys.length = 12) (w : World) : (Op.equalIn 10000 29 (.agg (vI xs)) (.agg (vI ys))).run Tryd.prog w = .ok (decide (xs = ys)) w := by
  obtain ⟨i0, hi0, hz0, hz1, hz2⟩ := info_parts byte_inf
  rw [show (10000 : Nat) = 9998 + 1 + 1 from rfl, run_equalIn_array w _ (vI xs) (vI ys) Tryd.underlying29 hi0, show Tryd.prog.cellsOf 5 = 1 by kernel_rfl,
    run_each w _ _ .u8 (vI xs) (vI ys) (fun j => xs.getD j 0) (fun j => ys.getD j 0) rfl _ fun j hj => ⟨vI_at (by rw [hx]; exact List.mem_range.1 hj), vI_at (by rw [hy]; exact List.mem_range.1 hj)⟩]
  congr 1
  by_cases h : xs = ys
  · subst h
    simp
  · rw [decide_eq_false h]
    refine Bool.eq_false_iff.2 fun h2 => h ?_
    apply List.ext_getElem?
    intro j
    by_cases hj : j < 12
    · have := List.all_eq_true.1 h2 j (List.mem_range.2 hj)
      have h3 : xs.getD j 0 = ys.getD j 0 := beq_iff_eq.1 this
      rw [List.getD_eq_getElem?_getD, List.getD_eq_getElem?_getD, List.getElem?_eq_getElem (by omega), List.getElem?_eq_getElem (by omega)] at h3
      rw [List.getElem?_eq_getElem (by omega), List.getElem?_eq_getElem (by omega)]
      exact congrArg some h3
    · rw [List.getElem?_eq_none (by omega), List.getElem?_eq_none (by omega)]
theorem eq_run {P : Program} {fr : Act} {o : Oper} {w : World} {T R : TypeId} {s x : Tmp} {A B : Array Value} {q : Bool} (ho : o.op = .binOp .eql T (.tmp s) (.tmp x) R) (hs : fr.tmps[s]?.getD undef = .agg A) (hx : fr.tmps[x]?.getD undef = .agg B)
    (hq : (Op.equalIn 10000 T (.agg A) (.agg B)).run P w = .ok q w) (hgd : P.eqGuardType P.depth T = false) : (execOp fr.eval o).run P w = .ok (.value (.bool q)) w := by
  unfold execOp
  rw [ho]
  go_simp
theorem built_run {P : Program} {fr : Act} {o : Oper} {w : World} {T : TypeId} {C : Array Value} (ho : o.op = .build T #[]) (hb : P.built T [] = some C) : (execOp fr.eval o).run P w = .ok (.value (.agg C)) w := by
  unfold execOp
  have h : (Instr.build T #[]).run P w = .ok (.agg C) w := run_build w T _ C hb
  simp [ho, h, Result.andThen_ok]
theorem loadp_run {P : Program} {fr : Act} {o : Oper} {w : World} {T : TypeId} {s : Tmp} {g q : Nat} (ho : o.op = .load T (.tmp s)) (hs : fr.tmps[s]?.getD undef = .pointer (some ⟨g, q, none⟩)) (l : List Value) (d : TypeDesc) (hc : ∀ j v, l[j]? = some v → w.cell? ⟨g, q + j, none⟩ = some v)
    (hu : P.underlying T = some d) (hd : (match d with | .struct _ | .array _ _ => true | _ => false) = true) (hi : (P.info? T).map (·.size) = some l.length) : (execOp fr.eval o).run P w = .ok (.value (.agg l.toArray)) w := by
  unfold execOp
  have hs' : fr.eval (.tmp s) = .pointer (some ⟨g, q, none⟩) := by simpa only [Act.eval, Array.getD_eq_getD_getElem?] using hs
  simp only [ho, hs', Instr.loadAt, Instr.sureAddr, Sem.run_bind, Sem.run_pure, Result.andThen_ok, run_load_part w g q T l d hc hu hd hi]
theorem guard12 : Tryd.prog.eqGuardType Tryd.prog.depth 29 = false := by kernel_rfl
/-- whether an address may be -/
def mayL (s : Bool) (b : List Int) : Bool := s || decide (b.drop 4 = zs 12)
end Go.Proofs.YtniimgbljhmcoaaDoor.adC
