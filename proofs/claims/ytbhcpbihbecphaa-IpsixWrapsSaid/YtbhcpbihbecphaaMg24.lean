/-
  1 texts of a proof, joined.
-/
import Derived.Test.YtbhcpbihbecphaaMg10
import Derived.Test.YtbhcpbihbecphaaMg4
import Derived.Test.YtbhcpbihbecphaaMg23
import Derived.Test.YtbhcpbihbecphaaMg13
import Derived.Test.YtbhcpbihbecphaaMg9
import Derived.Test.YtbhcpbihbecphaaMg22
import Derived.Test.YtbhcpbihbecphaaMg20

/-
  The program's ipfour, by contracts: Same, May, Lay, Parse, Hop.
-/
namespace Go.Proofs.Ytbhcpbihbecphaa.pkC
open Go.ChangeShapes Go.WideShapes Go.ChangeAt Go.RowKit
open Go.Proofs.Ytbhcpbihbecphaa.memC Go.Proofs.Ytbhcpbihbecphaa.genC Go.Proofs.Ytbhcpbihbecphaa.adC
set_option linter.unusedVariables false
/-- an own slice has room for what it holds -/
theorem own_cap {k : IntKind} {e : TypeId} {w : World} {base : Nat} {A : Option Addr} {n c : Nat} {xs : List Int} (h : Own k e w base (.slice A n c) xs) : n ≤ c ∧ c ≤ 9223372036854775807 := by
  have hl := h.len
  obtain ⟨A', c', e2, h1, h2, _⟩ := h.form
  cases e2
  unfold maxLen at h2
  exact ⟨h1, by omega⟩
end Go.Proofs.Ytbhcpbihbecphaa.pkC
