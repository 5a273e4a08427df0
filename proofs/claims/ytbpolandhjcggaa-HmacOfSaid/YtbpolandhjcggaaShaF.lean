/-
  A Sum in memory; what five does.
-/
import Derived.Test.YtbpolandhjcggaaShaE
namespace Go.Proofs.Ytbpolandhjcggaa.shaC
open Go.ChangeShapes Go.WideShapes Go.ChangeAt Go.RowKit
open Go.Proofs.Ytbpolandhjcggaa.memC Go.Proofs.Ytbpolandhjcggaa.genC Go.Proofs.Ytbpolandhjcggaa.shaM Go.Proofs.Ytbpolandhjcggaa.shaN Go.Proofs.Ytbpolandhjcggaa.butC
set_option linter.unusedVariables false
/-- a Sum's cells: by how much the five grew, the block, the number of bytes -/
def sumC (g r : List Int) (n : Nat) : List Value := g.map (Value.int .u32) ++ (r.map (Value.int .u8) ++ [.int .u64 (n : Int)])
/-- a Sum lies in block k -/
structure SumAt (w : World) (k : Nat) (g r : List Int) (n : Nat) : Prop where
  row : w.heap[k]? = some (.cells (sumC g r n).toArray 41 (0, 0))
  lg : g.length = 5
  lr : r.length = 64
section
variable {w w' : World} {k n : Nat} {g r : List Int}
theorem sumC_len (hg : g.length = 5) (hr : r.length = 64) : (sumC g r n).length = 70 := by simp [sumC, hg, hr]
theorem sumC_g (hg : g.length = 5) {j : Nat} (hj : j < 5) : (sumC g r n)[j]? = some (.int .u32 (g.getD j 0)) := by
  unfold sumC
  rw [List.getElem?_append_left (by simpa [hg] using hj)]
  simp [List.getD_eq_getElem?_getD, hg, hj]
theorem sumC_r (hg : g.length = 5) (hr : r.length = 64) {j : Nat} (hj : j < 64) : (sumC g r n)[5 + j]? = some (.int .u8 (r.getD j 0)) := by
  unfold sumC
  rw [List.getElem?_append_right (by simp [hg]), List.length_map, hg, Nat.add_sub_cancel_left, List.getElem?_append_left (by simpa [hr] using hj)]
  simp [List.getD_eq_getElem?_getD, hr, hj]
theorem sumC_n (hg : g.length = 5) (hr : r.length = 64) : (sumC g r n)[69]? = some (.int .u64 (n : Int)) := by
  unfold sumC
  rw [List.getElem?_append_right (by simp [hg]), List.length_map, hg, List.getElem?_append_right (by simp [hr]), List.length_map, hr]
  rfl
theorem SumAt.lt (h : SumAt w k g r n) : k < w.heap.size := by
  rcases Nat.lt_or_ge k w.heap.size with h1 | h1
  · exact h1
  · have := h.row; rw [Array.getElem?_eq_none h1] at this; cases this
theorem SumAt.cell (h : SumAt w k g r n) (j : Nat) : w.cell? ⟨k, j, none⟩ = (sumC g r n)[j]? := by
  rw [cell_of_row w k j _ _ (0, 0) h.row]; simp
theorem SumAt.cg (h : SumAt w k g r n) {j : Nat} (hj : j < 5) : w.cell? ⟨k, j, none⟩ = some (.int .u32 (g.getD j 0)) := (h.cell j).trans (sumC_g h.lg hj)
theorem SumAt.cr (h : SumAt w k g r n) {j : Nat} (hj : j < 64) : w.cell? ⟨k, 5 + j, none⟩ = some (.int .u8 (r.getD j 0)) := (h.cell _).trans (sumC_r h.lg h.lr hj)
theorem SumAt.cn (h : SumAt w k g r n) : w.cell? ⟨k, 69, none⟩ = some (.int .u64 (n : Int)) := (h.cell _).trans (sumC_n h.lg h.lr)
theorem SumAt.frozen (h : SumAt w k g r n) (j : Nat) : w.frozen? ⟨k, j, none⟩ = false := frozen_of_row w k j _ _ h.row
theorem SumAt.heap (h : SumAt w k g r n) (e : w'.heap = w.heap) : SumAt w' k g r n := ⟨by rw [e]; exact h.row, h.lg, h.lr⟩
theorem SumAt.below {B : Nat} (h : SumAt w k g r n) (hb : Below B w w') (hk : k < B) : SumAt w' k g r n := ⟨by rw [hb.block k hk]; exact h.row, h.lg, h.lr⟩
theorem SumAt.alloc (h : SumAt w k g r n) (o : Obj) : SumAt (w.alloc o) k g r n := h.below (alloc_below w o) h.lt
theorem SumAt.other (h : SumAt w k g r n) {a : Addr} (ha : a.block ≠ k) (v : Value) : SumAt (w.setCell a v) k g r n := ⟨by rw [heap_setCell_other w a k v (fun e => ha e.symm)]; exact h.row, h.lg, h.lr⟩
theorem sumC_setg (hg : g.length = 5) {j : Nat} (hj : j < 5) (x : Int) : (sumC g r n).set j (.int .u32 x) = sumC (g.set j x) r n := by
  unfold sumC; rw [List.set_append_left _ _ (by simpa [hg] using hj), List.map_set]
theorem sumC_setr (hg : g.length = 5) (hr : r.length = 64) {j : Nat} (hj : j < 64) (x : Int) : (sumC g r n).set (5 + j) (.int .u8 x) = sumC g (r.set j x) n := by
  unfold sumC; rw [List.set_append_right _ _ (by simp [hg]), List.length_map, hg, Nat.add_sub_cancel_left, List.set_append_left _ _ (by simpa [hr] using hj), List.map_set]
theorem sumC_setn (hg : g.length = 5) (hr : r.length = 64) (m : Nat) : (sumC g r n).set 69 (.int .u64 (m : Int)) = sumC g r m := by
  unfold sumC; rw [List.set_append_right _ _ (by simp [hg]), List.length_map, hg, List.set_append_right _ _ (by simp [hr]), List.length_map, hr]; rfl
theorem SumAt.setg (h : SumAt w k g r n) {j : Nat} (hj : j < 5) (x : Int) : SumAt (w.setCell ⟨k, j, none⟩ (.int .u32 x)) k (g.set j x) r n :=
  ⟨by rw [heap_setCell_same w k j _ _ _ h.row, ← sumC_setg h.lg hj]; simp, by rw [List.length_set]; exact h.lg, h.lr⟩
theorem SumAt.setr (h : SumAt w k g r n) {j : Nat} (hj : j < 64) (x : Int) : SumAt (w.setCell ⟨k, 5 + j, none⟩ (.int .u8 x)) k g (r.set j x) n :=
  ⟨by rw [heap_setCell_same w k (5 + j) _ _ _ h.row, ← sumC_setr h.lg h.lr hj]; simp, h.lg, by rw [List.length_set]; exact h.lr⟩
theorem SumAt.setn (h : SumAt w k g r n) (m : Nat) : SumAt (w.setCell ⟨k, 69, none⟩ (.int .u64 (m : Int))) k g r m :=
  ⟨by rw [heap_setCell_same w k 69 _ _ _ h.row, ← sumC_setn (n := n) h.lg h.lr m]; simp, h.lg, h.lr⟩
theorem SumAt.new (w : World) (hg : g.length = 5) (hr : r.length = 64) : SumAt (w.alloc (.cells (sumC g r n).toArray 41)) w.heap.size g r n := ⟨heap_alloc_new w _, hg, hr⟩
/-- the five, as they lie -/
theorem SumAt.five (h : SumAt w k g r n) : ∀ j v, (g.map (Value.int .u32))[j]? = some v → w.cell? ⟨k, 0 + j, none⟩ = some v := by
  intro j v hv
  have hj : j < g.length := by
    rcases Nat.lt_or_ge j g.length with h1 | h1
    · exact h1
    · rw [List.getElem?_eq_none (by simpa using h1)] at hv; cases hv
  rw [Nat.zero_add, h.cg (by rw [← h.lg]; exact hj), ← hv]
  simp [List.getD_eq_getElem?_getD, hj]
/-- the block, as it lies -/
theorem SumAt.block (h : SumAt w k g r n) : ∀ j v, (r.map (Value.int .u8))[j]? = some v → w.cell? ⟨k, 5 + j, none⟩ = some v := by
  intro j v hv
  have hj : j < r.length := by
    rcases Nat.lt_or_ge j r.length with h1 | h1
    · exact h1
    · rw [List.getElem?_eq_none (by simpa using h1)] at hv; cases hv
  rw [h.cr (by rw [← h.lr]; exact hj), ← hv]
  simp [List.getD_eq_getElem?_getD, hj]
end
theorem five_info : (Try.prog.info? 38).map (·.size) = some 5 := by kernel_rfl
theorem sum_info : (Try.prog.info? 41).map (·.size) = some 70 := by kernel_rfl
def FiveRet (w : World) (g : List Int) (e : Ending) (w' : World) : Prop := e = .returned (.agg ((List.zipWith ad initH g).map (Value.int .u32)).toArray) ∧ Below w.heap.size w w'
/-- the blocks that a call of five lays -/
structure FR (w : World) (g : List Int) (j : Nat) (wr : World) : Prop where
  b0 : Arr .u32 38 wr w.heap.size [0, 0, 0, 0, 0]
  b1 : Arr .u32 38 wr (w.heap.size + 1) (mixL initH g j)
  bel : Below w.heap.size w wr
theorem mix_zero (g : List Int) : mixL initH g 0 = initH := rfl
theorem mix_len {g : List Int} (h : g.length = 5) (j : Nat) : (mixL initH g j).length = 5 := by unfold mixL; simp [initH, h]; omega
theorem mix_step {a b : List Int} (ha : a.length = 5) (hb : b.length = 5) {j : Nat} (hj : j < 5) : (mixL a b j).set j (ad (a.getD j 0) (b.getD j 0)) = mixL a b (j + 1) := by
  obtain ⟨a0, a1, a2, a3, a4, rfl⟩ := list5 ha
  obtain ⟨b0, b1, b2, b3, b4, rfl⟩ := list5 hb
  rcases (show j = 0 ∨ j = 1 ∨ j = 2 ∨ j = 3 ∨ j = 4 by omega) with rfl | rfl | rfl | rfl | rfl <;> rfl
theorem mix_get {a b : List Int} (ha : a.length = 5) (hb : b.length = 5) {j : Nat} (hj : j < 5) : (mixL a b j).getD j 0 = a.getD j 0 := by
  obtain ⟨a0, a1, a2, a3, a4, rfl⟩ := list5 ha
  obtain ⟨b0, b1, b2, b3, b4, rfl⟩ := list5 hb
  rcases (show j = 0 ∨ j = 1 ∨ j = 2 ∨ j = 3 ∨ j = 4 by omega) with rfl | rfl | rfl | rfl | rfl <;> rfl
theorem u_size : (Try.prog.info? 37).map (·.size) = some 1 := by kernel_rfl
theorem u_info : ∃ i, Try.prog.info? 37 = some i ∧ i.size = 1 := by
  obtain ⟨i, h1, h2⟩ := Option.map_eq_some_iff.1 u_size
  exact ⟨i, h1, h2⟩
theorem mix_full {a b : List Int} (ha : a.length = 5) (hb : b.length = 5) : mixL a b 5 = List.zipWith ad a b := by
  unfold mixL; rw [List.take_of_length_le (by simp [ha, hb]), List.drop_eq_nil_of_le (by simp [ha])]; simp
theorem FR.step {w wr : World} {g : List Int} {j : Nat} (h : FR w g j wr) (hg : g.length = 5) (hj : j < 5) :
    FR w g (j + 1) (wr.setCell ⟨w.heap.size + 1, j, none⟩ (.int .u32 (ad (initH.getD j 0) (g.getD j 0)))) := by
  refine ⟨h.b0.other (by show w.heap.size + 1 ≠ w.heap.size; omega) _, ?_, h.bel.setCell (p := ⟨w.heap.size + 1, j, none⟩) (by show w.heap.size ≤ w.heap.size + 1; omega) _⟩
  rw [← mix_step (by rfl) hg hj]
  exact h.b1.stored j _
set_option maxRecDepth 100000 in
theorem five_any (k n : Nat) (g r : List Int) (w : World) (h : SumAt w k g r n) : Calls Try.prog 24 #[.pointer (some ⟨k, 0, none⟩)] w (FiveRet w g) := by
  obtain ⟨i0, hi0, hz0, hz1, hz2⟩ := info_parts byte_info
  have lk := h.lt
  obtain ⟨a0, a1, a2, a3, a4, hl5⟩ := list5 h.lg
  have H := Lib.hid h
  have L5 := Lib.hid hl5
  have c0 := h.cg (j := 0) (by omega)
  have c1 := h.cg (j := 1) (by omega)
  have c2 := h.cg (j := 2) (by omega)
  have c3 := h.cg (j := 3) (by omega)
  have c4 := h.cg (j := 4) (by omega)
  rw [hl5] at c0 c1 c2 c3 c4
  simp only [List.getD_cons_zero, List.getD_cons_succ] at c0 c1 c2 c3 c4
  have k1 : ¬ k = w.heap.size := by omega
  have k2 : ¬ k = w.heap.size + 1 := by omega
  clear h hl5 hi0 hz0 hz1 hz2
  go_enter Try.func24, Try.ntmps24
  have T1 := Lib.hid u_info
  go_upto_region 3 with fail
  obtain ⟨W, hW⟩ : ∃ W, W = (w.alloc (Obj.cells #[.int .u32 0, .int .u32 0, .int .u32 0, .int .u32 0, .int .u32 0] 38)).alloc (Obj.cells #[.int .u32 1732584193, .int .u32 4023233417, .int .u32 2562383102, .int .u32 271733878, .int .u32 3285377520] 38) := ⟨_, rfl⟩
  rw [← hW]
  have F0 : FR w g 0 W := by
    rw [hW]
    have e1 : (w.alloc (Obj.cells #[.int .u32 0, .int .u32 0, .int .u32 0, .int .u32 0, .int .u32 0] 38)).heap.size = w.heap.size + 1 := alloc_size _ _
    refine ⟨?_, ?_, ?_⟩
    · exact (Arr.new w .u32 38 [0, 0, 0, 0, 0]).alloc _
    · have := Arr.new (w.alloc (Obj.cells #[.int .u32 0, .int .u32 0, .int .u32 0, .int .u32 0, .int .u32 0] 38)) .u32 38 initH
      rw [e1] at this; rw [mix_zero]; exact this
    · exact ((Below.refl _ _).alloc (Nat.le_refl _) _).alloc (by simp) _
  clear hW c0 c1 c2 c3 c4 k1 k2
  go_wp2_with fail
  go_loopw [11] (fun i wr => ∃ j : Nat, j ≤ 5 ∧ i = .int .i64 j ∧ FR w g j wr) (fun i _ => 5 - (intOf i).toNat)
  case atStart => exact ⟨0, by omega, rfl, F0⟩
  case round =>
    obtain ⟨j, hj, rfl, FF⟩ := hrel
    by_cases hlt : j < 5
    · have HS := Lib.hid (FF.step H.out.lg hlt)
      have hv : (#[.int .u32 a0, .int .u32 a1, .int .u32 a2, .int .u32 a3, .int .u32 a4] : Array Value)[j]? = some (.int .u32 (g.getD j 0)) := by
        rw [L5.out]
        rcases (show j = 0 ∨ j = 1 ∨ j = 2 ∨ j = 3 ∨ j = 4 by omega) with rfl | rfl | rfl | rfl | rfl <;> rfl
      have cw := FF.b1.cell (j := j) (by rw [mix_len H.out.lg]; omega)
      rw [mix_get (by rfl) H.out.lg hlt] at cw
      have fw := FF.b1.frozen j
      obtain ⟨i1, hi1, hs1⟩ := T1.out
      have ix : (Instr.index 38 (.agg #[.int .u32 a0, .int .u32 a1, .int .u32 a2, .int .u32 a3, .int .u32 a4]) (.int .i64 (j : Int))).run Try.prog wr = .ok (.int .u32 (g.getD j 0)) wr :=
        Go.Proofs.Ytbpolandhjcggaa.idxC.run_idx wr _ _ 5 .u32 i1 _ j _ Try.underlying38 rfl hi1 hs1 hlt hv
      have hjz : (j : Int) < 5 := by omega
      generalize g.getD j 0 = y at *
      generalize initH.getD j 0 = x at *
      clear FF hv hi1 hs1
      go_wp2_with fail
      go_roundw
      case rel => exact ⟨j + 1, by omega, by go_num, HS.out⟩
      case measure => simp [intOf]; omega
    · have e : j = 5 := by omega
      subst e
      have b1 := FF.b1
      rw [mix_full (by rfl) H.out.lg] at b1
      have hl : (List.zipWith ad initH g).length = 5 := by rw [List.length_zipWith, H.out.lg]; rfl
      have G1 := Lib.hid b1.row
      have G2 := Lib.hid FF.b0.row
      have HL := Lib.hid hl
      have U2 := Lib.hid (show (Try.prog.info? 38).map (·.size) = some (((List.zipWith ad initH g).map (Value.int .u32)).toArray).size by rw [five_info]; simp [H.out.lg, initH])
      have BQ := Lib.hid FF.bel
      clear b1 hl FF hlt hj
      go_wp2_with (first
        | (refine wpList_load_row rfl 38 (.tmp 3) rfl (w.heap.size + 1) rfl _ _ _ _ G1.out Try.underlying38 rfl U2.out ?_)
        | (refine wpList_store_row rfl 38 (.tmp 2) (.tmp 22) rfl w.heap.size _ rfl rfl _ _ G2.out U2.out (by simp [H.out.lg, initH]) (nums_one32 _) ?_))
      refine bodyPost_ret (v := .agg ((List.zipWith ad initH g).map (Value.int .u32)).toArray) (results_cell_row Try.results24 _ _ w.heap.size _ _ _ _ (by rfl) (setRow_heap _ _ _ _ _ _ G2.out) Try.underlying38 rfl U2.out) rfl ⟨rfl, ?_⟩
      exact BQ.out.trans ⟨rfl, rfl, rfl, by simp, fun z hz => setRow_other _ _ _ _ (by omega)⟩
end Go.Proofs.Ytbpolandhjcggaa.shaC
