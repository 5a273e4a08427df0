/-
  Whether an address may be, by the program and by the document; its bytes, and any bytes' address, by the document.
-/
import Derived.Test.YtljcekmiockdjaaBxT
import Derived.Laws.CopyOwn
import Derived.Test.YtljcekmiockdjaaWPa
import Derived.Test.YtljcekmiockdjaaApp
import Derived.Lib.AppendZeros
import Derived.Lib.SliceRun
import Derived.StillTactics
import Derived.StillTailTactics
import Derived.Laws.BitsAllLaws
namespace Go.Proofs.Ytljcekmiockdjaa.adC
open Go.ChangeShapes Go.WideShapes Go.ChangeAt Go.RowKit
open Go.Proofs.Ytljcekmiockdjaa.memC Go.Proofs.Ytljcekmiockdjaa.genC Go.Proofs.Ytljcekmiockdjaa.butC Go.Proofs.Ytljcekmiockdjaa.freeC Go.Proofs.Ytljcekmiockdjaa.txC
open Go.Proofs.Ytljcekmiockdjaa.partC (wpList_load_part run_load_part)
set_option linter.unusedVariables false
theorem eq_run {P : Program} {fr : Act} {o : Oper} {w : World} {T R : TypeId} {s x : Tmp} {A B : Array Value} {q : Bool} (ho : o.op = .binOp .eql T (.tmp s) (.tmp x) R) (hs : fr.tmps[s]?.getD undef = .agg A) (hx : fr.tmps[x]?.getD undef = .agg B)
    (hq : (Op.equalIn 10000 T (.agg A) (.agg B)).run P w = .ok q w) (hgd : P.eqGuardType P.depth T = false) : (execOp fr.eval o).run P w = .ok (.value (.bool q)) w := by
  unfold execOp
  rw [ho]
  go_simp
theorem built_run {P : Program} {fr : Act} {o : Oper} {w : World} {T : TypeId} {C : Array Value} (ho : o.op = .build T #[]) (hb : P.built T [] = some C) : (execOp fr.eval o).run P w = .ok (.value (.agg C)) w := by
  unfold execOp
  have h : (Instr.build T #[]).run P w = .ok (.agg C) w := run_build w T _ C hb
  simp [ho, h, Result.andThen_ok]
theorem loadp_run {P : Program} {fr : Act} {o : Oper} {w : World} {T : TypeId} {s : Tmp} {g q : Nat} (ho : o.op = .load T (.tmp s)) (hs : fr.tmps[s]?.getD undef = .pointer (some ⟨g, q, none⟩)) (l : List Value) (d : TypeDesc) (hc : ∀ j v, l[j]? = some v → w.cell? ⟨g, q + j, none⟩ = some v)
    (hu : P.underlying T = some d) (hd : (match d with | .struct _ | .array _ _ => true | _ => false) = true) (hi : (P.info? T).map (·.size) = some l.length) : (execOp fr.eval o).run P w = .ok (.value (.agg l.toArray)) w := by
  unfold execOp
  have hs' : fr.eval (.tmp s) = .pointer (some ⟨g, q, none⟩) := by simpa only [Act.eval, Array.getD_eq_getD_getElem?] using hs
  simp only [ho, hs', Instr.loadAt, Instr.sureAddr, Sem.run_bind, Sem.run_pure, Result.andThen_ok, run_load_part w g q T l d hc hu hd hi]
end Go.Proofs.Ytljcekmiockdjaa.adC
