/-
  1 texts of a proof, joined.
-/
import Derived.Test.YtniimgbljhmcoaaDoorMg11
import Derived.Test.YtniimgbljhmcoaaDoorMg6
import Derived.Test.YtniimgbljhmcoaaDoorMg32
import Derived.Test.YtniimgbljhmcoaaDoorMg12
import Derived.Test.YtniimgbljhmcoaaDoorMg10

/-
  Whether two packets are the same: the program's.
-/
namespace Go.Proofs.YtniimgbljhmcoaaDoor.pkC
open Go.ChangeShapes Go.WideShapes Go.ChangeAt Go.RowKit
open Go.Proofs.YtniimgbljhmcoaaDoor.memC Go.Proofs.YtniimgbljhmcoaaDoor.genC Go.Proofs.YtniimgbljhmcoaaDoor.butC Go.Proofs.YtniimgbljhmcoaaDoor.freeC Go.Proofs.YtniimgbljhmcoaaDoor.adC
set_option linter.unusedVariables false
theorem bytes_equal (A : Option Addr) (n c : Nat) (A2 : Option Addr) (m c2 : Nat) (xs ys : List Int) (w : World) (h1 : Nums .u8 w w.heap.size A n xs) (h2 : Nums .u8 w w.heap.size A2 m ys) :
    Calls Tryd.prog 73 #[.slice A n c, .slice A2 m c2] w fun e w' => e = .returned (.bool ((strOfNums xs).toList == (strOfNums ys).toList)) ∧ w = w' := by
  have c1 : (convert 32 9 (.slice A n c)).run Tryd.prog w = .ok (.string (strOfNums xs)) w := run_string h1 c 32 5 9 Tryd.underlying32 Tryd.underlying5 Tryd.underlying9
  have c2' : (convert 32 9 (.slice A2 m c2)).run Tryd.prog w = .ok (.string (strOfNums ys)) w := run_string h2 c2 32 5 9 Tryd.underlying32 Tryd.underlying5 Tryd.underlying9
  go_enter Tryd.func73, Tryd.ntmps73
  go_wp2_with fail
  go_ret
  exact ⟨rfl, rfl⟩
theorem bytes_same (A : Option Addr) (n c : Nat) (A2 : Option Addr) (m c2 : Nat) (xs ys : List Int) (w : World) (h1 : Nums .u8 w w.heap.size A n xs) (h2 : Nums .u8 w w.heap.size A2 m ys) (yx : ∀ x ∈ xs, Byte x) (yy : ∀ x ∈ ys, Byte x) :
    Calls Tryd.prog 39 #[.slice A n c, .slice A2 m c2] w fun e w' => e = .returned (.bool (decide (xs = ys))) ∧ w = w' := by
  have HS : ((strOfNums xs).toList == (strOfNums ys).toList) = decide (xs = ys) := by
    rw [str_eqb yx yy]
    by_cases h : xs = ys
    · subst h; rw [lexL_self]; simp
    · rw [decide_eq_false h]; exact beq_eq_false_iff_ne.2 fun e => h (lexL_zero _ _ e)
  go_enter Tryd.func39, Tryd.ntmps39
  go_wp2_with (go_at_call 73; refine (bytes_equal _ _ _ _ _ _ xs ys _ h1 h2).mono ?_; rintro e w' ⟨rfl, rfl⟩)
  go_ret
  exact ⟨rfl, rfl⟩
end Go.Proofs.YtniimgbljhmcoaaDoor.pkC
