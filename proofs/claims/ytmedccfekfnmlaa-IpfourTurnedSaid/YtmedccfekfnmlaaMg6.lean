/-
  1 texts of a proof, joined.
-/
import Derived.Test.YtmedccfekfnmlaaMg5
import Derived.Laws.CopyOwn

/-
  The program's addresses: four bytes, any bytes as an address, whether one may be.
-/
namespace Go.Proofs.Ytmedccfekfnmlaa.adC
open Go.ChangeShapes Go.WideShapes Go.ChangeAt Go.RowKit
open Go.Proofs.Ytmedccfekfnmlaa.memC Go.Proofs.Ytmedccfekfnmlaa.genC Go.Proofs.Ytmedccfekfnmlaa.butC Go.Proofs.Ytmedccfekfnmlaa.freeC Go.Proofs.Ytmedccfekfnmlaa.txC
open Go.Proofs.Ytmedccfekfnmlaa.partC (wpList_load_part run_load_part)
set_option linter.unusedVariables false
def fourB (a b c d : Int) : List Int := [a, b, c, d] ++ zs 12
theorem fourB_len (a b c d : Int) : (fourB a b c d).length = 16 := rfl
set_option maxRecDepth 100000 in
theorem cfour_any (x0 x1 x2 x3 : Int) (w : World) : Calls Try.prog 53 #[.int .u8 x0, .int .u8 x1, .int .u8 x2, .int .u8 x3] w (Ret w (.agg (adrV false (fourB x0 x1 x2 x3)))) := by
  have hzv := zeroAdr
  have U := Lib.hid (adr_info false (fourB_len x0 x1 x2 x3))
  have Z := Lib.hid (z_size false (fourB_len x0 x1 x2 x3))
  have O := Lib.hid (adrV_one false (fourB x0 x1 x2 x3))
  have R := Lib.hid (show (w.alloc (.cells zAdr 24)).heap[w.heap.size]? = some (.cells zAdr 24 (0, 0)) from heap_alloc_new w _)
  have B := Lib.hid (alloc_below w (.cells zAdr 24))
  go_enter Try.func53, Try.ntmps53
  go_upto_region 1 with fail
  generalize hZ : zAdr = Y at *
  generalize w.alloc (.cells Y 24) = W at *
  go_wp2_with (first
    | (refine wpList_buildTo rfl 22 _ rfl (some 13) rfl (vI (fourB x0 x1 x2 x3)) (by kernel_rfl) ?_)
    | (refine wpList_buildTo rfl 24 _ rfl (some 14) rfl (adrV false (fourB x0 x1 x2 x3)) (by kernel_rfl) ?_)
    | (refine wpList_store_row rfl 24 (.tmp 8) (.tmp 14) rfl w.heap.size _ rfl rfl _ _ R.out U.out Z.out O.out ?_))
  refine bodyPost_ret (v := .agg (adrV false (fourB x0 x1 x2 x3))) (results_cell_row Try.results53 _ _ w.heap.size _ _ _ _ (by rfl) (setRow_heap _ _ _ _ _ _ R.out) Try.underlying24 rfl U.out) rfl ⟨rfl, ?_⟩
  exact B.out.trans ⟨rfl, rfl, rfl, by simp, fun z hz => setRow_other _ _ _ _ (by omega)⟩
end Go.Proofs.Ytmedccfekfnmlaa.adC
