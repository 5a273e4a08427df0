/-
  1 texts of a proof, joined.
-/
import Derived.Test.YtflfkhcbkhdahaaMg5
import Derived.Test.YtflfkhcbkhdahaaMg7
import Derived.Test.YtflfkhcbkhdahaaMg1
import Derived.Lib.AppendZeros
import Derived.Lib.SliceRun
import Derived.StillTactics
import Derived.StillTailTactics
import Derived.Laws.BitsAllLaws

/-
  The program's addresses: how many bytes, which ones, and which groups.
-/
namespace Go.Proofs.Ytflfkhcbkhdahaa.adC
open Go.ChangeShapes Go.WideShapes Go.ChangeAt Go.RowKit
open Go.Proofs.Ytflfkhcbkhdahaa.memC Go.Proofs.Ytflfkhcbkhdahaa.genC Go.Proofs.Ytflfkhcbkhdahaa.butC Go.Proofs.Ytflfkhcbkhdahaa.freeC Go.Proofs.Ytflfkhcbkhdahaa.txC
set_option linter.unusedVariables false
theorem csize_any (s : Bool) (b : List Int) (w : World) (h : b.length = 16) (z : Int) (hz : z = (adrN s : Int)) : Calls Try.prog 57 #[.agg (adrV s b)] w (Ret w (.int .i64 z)) := by
  subst hz
  have k1 : (w.alloc (.cells (adrV s b) 25)).cell? ⟨w.heap.size, 0, none⟩ = some (.bool s) := by rw [cell_new]; exact adrV_six _ _
  have B := Lib.hid (alloc_below w (.cells (adrV s b) 25))
  generalize adrV s b = C at *
  cases s
  all_goals
    go_enter Try.func57, Try.ntmps57
    go_wp2
    go_ret
    exact ⟨rfl, B.out⟩
end Go.Proofs.Ytflfkhcbkhdahaa.adC
