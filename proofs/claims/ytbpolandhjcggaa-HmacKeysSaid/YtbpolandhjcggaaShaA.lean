/-
  The document's sha: round.
-/
import Derived.Test.YtbpolandhjcggaaShaM
namespace Go.Proofs.Ytbpolandhjcggaa.shaC
open Go.ChangeShapes Go.WideShapes Go.ChangeAt Go.RowKit
open Go.Proofs.Ytbpolandhjcggaa.memC Go.Proofs.Ytbpolandhjcggaa.genC Go.Proofs.Ytbpolandhjcggaa.shaM
set_option linter.unusedVariables false

set_option maxHeartbeats 400000 in
theorem round_any (n : Int) (s : Nat) (w : World) (h : W32 n) (h1 : 1 ≤ s) (h2 : s ≤ 31) :
    Calls Try.prog 29 #[.int .u32 n, .int .i64 (s : Int)] w fun e w' => e = .returned (.int .u32 (rol n s)) ∧ ∃ j, w' = w.drewN j := by
  obtain ⟨n0, n1⟩ := h
  go_enter Try.func29, Try.ntmps29
  go_wp2_with fail
  go_quiet (fail)
  go_wp2_with fail
  go_ret
  exact ⟨rfl, nq, rfl⟩
end Go.Proofs.Ytbpolandhjcggaa.shaC
