/-
  The code's sha: New and Add.
-/
import Derived.Test.YtbpolandhjcggaaShaH
namespace Go.Proofs.Ytbpolandhjcggaa.shaC
open Go.ChangeShapes Go.WideShapes Go.ChangeAt Go.RowKit
open Go.Proofs.Ytbpolandhjcggaa.memC Go.Proofs.Ytbpolandhjcggaa.genC Go.Proofs.Ytbpolandhjcggaa.shaM Go.Proofs.Ytbpolandhjcggaa.shaN Go.Proofs.Ytbpolandhjcggaa.butC
set_option linter.unusedVariables false
/-- the cells of a Sum of some bytes -/
def sumL (xs : List Int) : List Value := sumC (gOf (hashH xs)) (restL xs) xs.length
theorem sumL_len (xs : List Int) : (sumL xs).length = 70 := sumC_len (gOf_len (hashH_ok xs).1) (rest_len xs)
def zeroC : List Value := sumC [0, 0, 0, 0, 0] (List.replicate 64 0) 0
theorem sumL_nil : sumL [] = zeroC := by
  unfold sumL zeroC
  rw [rest_nil (xs := []) rfl]
  have e : gOf (hashH []) = [0, 0, 0, 0, 0] := gOf_init
  rw [e]; rfl
theorem zero70_info : (Try.prog.info? 41).map (·.zero) = some (some (.agg zeroC.toArray)) := by kernel_rfl
theorem zero70 (w : World) : (zeroValue 41).run Try.prog w = .ok (.agg zeroC.toArray) w := by
  obtain ⟨i, hi, hz⟩ := Option.map_eq_some_iff.1 zero70_info
  simp [zeroValue, typeInfo, hi, hz]
theorem sumC_one (g r : List Int) (n : Nat) : (sumC g r n).toArray.all (·.oneCell') = true := by
  rw [Array.all_eq_true_iff_forall_mem]
  intro v hv
  unfold sumC at hv
  simp at hv
  rcases hv with ⟨z, _, rfl⟩ | ⟨z, _, rfl⟩ | rfl <;> rfl
def SumRet (w : World) (xs : List Int) (e : Ending) (w' : World) : Prop := e = .returned (.agg (sumL xs).toArray) ∧ Below w.heap.size w w'
set_option maxRecDepth 100000 in
theorem new_any (w : World) : Calls Try.prog 21 #[] w (SumRet w []) := by
  obtain ⟨Z, hZ⟩ : ∃ Z, Z = zeroC.toArray := ⟨_, rfl⟩
  have hzv := zero70
  rw [← hZ] at hzv
  have U1 := Lib.hid (show (Try.prog.info? 41).map (·.size) = some Z.size by rw [sum_info, hZ]; rfl)
  have HO := Lib.hid (show Z.all (·.oneCell') = true by rw [hZ]; exact sumC_one [0, 0, 0, 0, 0] (List.replicate 64 0) 0)
  have HZ := Lib.hid hZ
  clear hZ
  go_enter Try.func21, Try.ntmps21
  go_wp2_with (first
    | (refine wpList_store_row rfl 41 (.tmp 0) (.tmp 1) rfl w.heap.size Z rfl rfl _ _ (heap_alloc_new _ _) U1.out rfl HO.out ?_))
  refine bodyPost_ret (v := .agg Z) (results_cell_row Try.results21 _ _ w.heap.size _ _ _ _ (by rfl) (setRow_heap _ _ _ _ _ _ (heap_alloc_new _ _)) Try.underlying41 rfl U1.out) rfl ⟨by rw [sumL_nil, HZ.out], ?_⟩
  rw [World.setRow_alloc_new]
  exact alloc_below _ _
set_option maxRecDepth 100000 in
theorem add_any (xs ys : List Int) (A : Option Addr) (n c : Nat) (w : World) (hb : Nums .u8 w w.heap.size A n ys) (hc : n ≤ c) (hc2 : c ≤ 9223372036854775807)
    (hx : ∀ x ∈ xs, Byte x) (hy : ∀ x ∈ ys, Byte x) (hn : xs.length + n ≤ 1000000000) :
    Calls Try.prog 16 #[.agg (sumL xs).toArray, .slice A n c] w (SumRet w (xs ++ ys)) := by
  obtain ⟨Z, hZ⟩ : ∃ Z, Z = zeroC.toArray := ⟨_, rfl⟩
  have hzv := zero70
  rw [← hZ] at hzv
  obtain ⟨S, hS⟩ : ∃ S, S = (sumL xs).toArray := ⟨_, rfl⟩
  rw [← hS]
  have hs70 : S.size = 70 := by rw [hS]; simp [sumL_len]
  have e1 : (w.alloc (.cells S 41)).heap.size = w.heap.size + 1 := alloc_size _ _
  have B2 : Below w.heap.size w ((w.alloc (.cells S 41)).alloc (.cells Z 41)) := ((Below.refl _ _).alloc (Nat.le_refl _) _).alloc (by simp) _
  have S2 : SumV ((w.alloc (.cells S 41)).alloc (.cells Z 41)) w.heap.size xs := by
    rw [hS]; exact (SumAt.new w (gOf_len (hashH_ok xs).1) (rest_len xs)).alloc _
  have R2 : ((w.alloc (.cells S 41)).alloc (.cells Z 41)).heap[w.heap.size + 1]? = some (.cells Z 41 (0, 0)) := by
    rw [← e1]; exact heap_alloc_new _ _
  have N2 := (hb.below B2).more B2.size
  have HT := Lib.hid (take_any w.heap.size xs ys A n c _ S2 N2 (off_below hb (Nat.le_refl _)) hc hc2 hx hy hn)
  have U1 := Lib.hid (show (Try.prog.info? 41).map (·.size) = some ((sumL (xs ++ ys)).toArray).size by rw [sum_info]; simp [sumL_len])
  have ZS := Lib.hid (show Z.size = ((sumL (xs ++ ys)).toArray).size by rw [hZ]; simp [sumL_len]; rfl)
  have HO := Lib.hid (sumC_one (gOf (hashH (xs ++ ys))) (restL (xs ++ ys)) (xs ++ ys).length)
  have HR2 := Lib.hid R2
  have HB2 := Lib.hid B2
  have ne := Lib.hid (show w.heap.size + 1 < ((w.alloc (.cells S 41)).alloc (.cells Z 41)).heap.size by rw [alloc_size, e1]; omega)
  clear hZ hS e1 S2 N2 R2 B2 hb hx hy
  go_enter Try.func16, Try.ntmps16
  go_upto_region 2 with (first
    | (go_at_call 22; (with_reducible refine HT.out.mono ?_); rintro e w2 ⟨rfl, S3, B3⟩))
  have G1 := Lib.hid S3.row
  have G2 := Lib.hid ((B3.block (w.heap.size + 1) ne.out (by omega)).trans HR2.out)
  have BF := Lib.hid (HB2.out.trans (B3.to_below (B := w.heap.size) (Nat.le_refl _) HB2.out.size))
  clear S3 B3
  go_wp2_with (first
    | (refine wpList_load_row rfl 41 (.tmp 2) rfl w.heap.size rfl _ _ _ _ G1.out Try.underlying41 rfl U1.out ?_)
    | (refine wpList_store_row rfl 41 (.tmp 4) (.tmp 7) rfl (w.heap.size + 1) _ rfl rfl _ _ G2.out U1.out ZS.out HO.out ?_))
  refine bodyPost_ret (v := .agg (sumL (xs ++ ys)).toArray) (results_cell_row Try.results16 _ _ (w.heap.size + 1) _ _ _ _ (by rfl) (setRow_heap _ _ _ _ _ _ G2.out) Try.underlying41 rfl U1.out) rfl ⟨rfl, ?_⟩
  exact BF.out.trans ⟨rfl, rfl, rfl, by simp, fun z hz => setRow_other _ _ _ _ (by omega)⟩
end Go.Proofs.Ytbpolandhjcggaa.shaC
