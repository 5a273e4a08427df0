/-
  1 texts of a proof, joined.
-/
import Derived.Test.YtbhcpbihbecphaaMg6
import Derived.Test.YtbhcpbihbecphaaMg8

/-
  Whether an address may be, by the program and by the document; its bytes, and any bytes' address, by the document.
-/
namespace Go.Proofs.Ytbhcpbihbecphaa.adC
open Go.ChangeShapes Go.WideShapes Go.ChangeAt Go.RowKit
open Go.Proofs.Ytbhcpbihbecphaa.memC Go.Proofs.Ytbhcpbihbecphaa.genC Go.Proofs.Ytbhcpbihbecphaa.butC Go.Proofs.Ytbhcpbihbecphaa.freeC Go.Proofs.Ytbhcpbihbecphaa.txC
open Go.Proofs.Ytbhcpbihbecphaa.partC (wpList_load_part run_load_part)
set_option linter.unusedVariables false
theorem eq_run {P : Program} {fr : Act} {o : Oper} {w : World} {T R : TypeId} {s x : Tmp} {A B : Array Value} {q : Bool} (ho : o.op = .binOp .eql T (.tmp s) (.tmp x) R) (hs : fr.tmps[s]?.getD undef = .agg A) (hx : fr.tmps[x]?.getD undef = .agg B)
    (hq : (Op.equalIn 10000 T (.agg A) (.agg B)).run P w = .ok q w) (hgd : P.eqGuardType P.depth T = false) : (execOp fr.eval o).run P w = .ok (.value (.bool q)) w := by
  unfold execOp
  rw [ho]
  go_simp
/-- whether an address may be -/
def mayL (s : Bool) (b : List Int) : Bool := s || decide (b.drop 4 = zs 12)
end Go.Proofs.Ytbhcpbihbecphaa.adC
