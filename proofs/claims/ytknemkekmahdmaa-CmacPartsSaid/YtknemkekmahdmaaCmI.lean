/-
  CMAC: the walks of CmacDoubles and CmacBlocks.
-/
import Derived.Test.YtknemkekmahdmaaCmH
import Derived.Test.YtknemkekmahdmaaDec
namespace Go.Proofs.Ytknemkekmahdmaa.aesC
open Go.ChangeShapes Go.WideShapes Go.ChangeAt Go.RowKit
open Go.Proofs.Ytknemkekmahdmaa.memC Go.Proofs.Ytknemkekmahdmaa.genC Go.Proofs.Ytknemkekmahdmaa.aesM Go.Proofs.Ytknemkekmahdmaa.butC Go.Proofs.Ytknemkekmahdmaa.freeC Go.Proofs.Ytknemkekmahdmaa.partsC
set_option linter.unusedVariables false
/-- what there was stands -/
def Gr (w0 w : World) : Prop := Below w0.heap.size w0 w
theorem Gr.below {w0 w w' : World} (h : Gr w0 w) (b : Below w.heap.size w w') : Gr w0 w' := Below.trans h (b.mono (Below.size h))
theorem Gr.row {w0 w : World} (h : Gr w0 w) {g : Nat} {o : Obj} (hg : w0.heap[g]? = some o) : w.heap[g]? = some o := by rw [Below.block h g (row_lt2 hg)]; exact hg
theorem Gr.mono {w0 w : World} {B : Nat} (h : Gr w0 w) (hB : B ≤ w0.heap.size) : Below B w0 w := Below.mono h hB
theorem gr_drew (w : World) : Gr w w.drew := (Below.refl _ _).drew
def DouV (A B DA DB : Array Value) (q : Bool) : Nat → Value → World → Prop
  | 0, v, _ => v = .agg A
  | 1, v, _ => v = .agg DA
  | 2, v, _ => v = .agg B
  | 3, v, _ => v = .agg DB
  | 4, v, _ => v = .bool q
  | 5, v, _ => v = .agg A
  | 6, v, _ => v = .agg B
  | 7, v, _ => v = .bool q
  | 8, v, _ => v = .bool true
  | 9, v, _ => v = .bool true
  | 10, v, _ => v = .bool true
  | 11, v, _ => v = .bool true
  | 12, v, _ => v = .bool true
  | _, _, _ => True
theorem DouV.keep (A B DA DB : Array Value) (q : Bool) (i : Nat) (v : Value) (w w' : World) (hb : Below w.heap.size w w') (h : DouV A B DA DB q i v w) : DouV A B DA DB q i v w' := by
  unfold DouV at h ⊢
  split at h <;> exact h
def DouT : List (Option Nat) := [none, none, none, none, some 12, some 0, some 1, some 2, some 3, some 4, some 5, some 6, some 7, some 8, some 9, some 10, some 11]
set_option maxRecDepth 100000 in
set_option maxHeartbeats 1000000 in
theorem doubles_walk (a b : List Nat) (w : World) (ha : a.length = 16) (ya : BY a) (hb : b.length = 16) (yb : BY b) :
    Calls Try.prog 7 #[.agg (vec a), .agg (vec b)] w (AliveRet w) := by
  obtain ⟨A, hA⟩ : ∃ A, A = vec a := ⟨_, rfl⟩
  obtain ⟨B, hB⟩ : ∃ B, B = vec b := ⟨_, rfl⟩
  obtain ⟨DA, hDA⟩ : ∃ D, D = vec (dL a) := ⟨_, rfl⟩
  obtain ⟨DB, hDB⟩ : ∃ D, D = vec (dL b) := ⟨_, rfl⟩
  obtain ⟨q, hq⟩ : ∃ q, q = decide (a = b) := ⟨_, rfl⟩
  have hq2 : decide (dL a = dL b) = q := by
    rw [hq, decide_eq_decide]
    exact ⟨dL_inj ya yb ha hb, fun h => by rw [h]⟩
  have HED := Lib.hid (show ∀ w, (Op.equalIn 10000 22 (.agg DA) (.agg DB)).run Try.prog w = .ok q w from fun w => by rw [hDA, hDB, ← hq2]; exact eq_dec (dL_len _) (dL_len _) w)
  have HEB := Lib.hid (show ∀ w, (Op.equalIn 10000 22 (.agg A) (.agg B)).run Try.prog w = .ok q w from fun w => by rw [hA, hB, hq]; exact eq_dec ha hb w)
  have CA := Lib.hid (fun w => cdouble_any a w ha ya)
  rw [← hA, ← hDA] at CA
  have CB := Lib.hid (fun w => cdouble_any b w hb yb)
  rw [← hB, ← hDB] at CB
  have UA := Lib.hid (show (Try.prog.info? 22).map (·.size) = some A.size by rw [hA]; exact vec_info ha)
  have UB := Lib.hid (show (Try.prog.info? 22).map (·.size) = some B.size by rw [hB]; exact vec_info hb)
  have e1 : (w.alloc (.cells A 22)).heap.size = w.heap.size + 1 := alloc_size _ _
  obtain ⟨w6, hW⟩ : ∃ W, W = (w.alloc (.cells A 22)).alloc (.cells B 22) := ⟨_, rfl⟩
  have RA := Lib.hid (show w6.heap[w.heap.size]? = some (.cells A 22 (0, 0)) by rw [hW, Below.block (alloc_below _ _) _ (by rw [e1]; omega)]; exact heap_alloc_new w _)
  have RB := Lib.hid (show w6.heap[w.heap.size + 1]? = some (.cells B 22 (0, 0)) by rw [hW, ← e1]; exact heap_alloc_new _ _)
  have BW6 := Lib.hid (show Below w.heap.size w w6 by rw [hW]; exact ((Below.refl _ _).alloc (Nat.le_refl _) _).alloc (by simp) _)
  rw [← hA, ← hB]
  clear hA hB hDA hDB hq hq2 e1 ha ya hb yb
  go_enter Try.func7, Try.ntmps7
  go_upto_region 1 with fail
  rw [← hW]
  clear hW
  refine with_act fun a0 ha0 => ?_
  have hl : DouT.length = a0.tmps.size := by rw [ha0]; rfl
  have k2 : a0.tmps[2]?.getD undef = .pointer (some ⟨w.heap.size, 0, none⟩) := by rw [ha0]; rfl
  have k3 : a0.tmps[3]?.getD undef = .pointer (some ⟨w.heap.size + 1, 0, none⟩) := by rw [ha0]; rfl
  refine wp_region_vals (by kernel_rfl) DouT (by kernel_rfl) (by kernel_rfl) hl (fun i => if i = 12 then .bool false else undef) (by rw [ha0]; rfl) (Gr w6) (DouV A B DA DB q) (gr_drew _) (DouV.keep _ _ _ _ _) ⟨?_, ?_, ?_, ?_, ?_, ?_, ?_, ?_, ?_, ?_, ?_, ?_, ?_, trivial⟩ ?_
  · refine step_plain [] (by kernel_rfl) rfl fun us w' hG hV => ?_
    have o2 := (frame_old2 (us := us) (a := a0) (show (DouT[2]?).join = none from rfl)).trans k2
    have hg1 := hG.row RA.out
    generalize frame DouT a0 us = fr at *
    exact load_ok 22 2 rfl w.heap.size o2 _ _ (0, 0) _ hg1 Try.underlying22 rfl UA.out hG rfl
  · refine step_plain [0] (by kernel_rfl) rfl fun us w' hG hV => ?_
    have e0 : us 0 = .agg A := hV 0 (by simp)
    have v0 := (frame_at2 (us := us) hl (show (DouT[5]?).join = some 0 from rfl)).trans e0
    generalize frame DouT a0 us = fr at *
    exact call_ok (f := 16) (args := #[.agg A]) (by go_simp) ((CA.out w').mono fun e w'' h => ⟨_, h.1, hG.below h.2, h.2, rfl⟩)
  · refine step_plain [] (by kernel_rfl) rfl fun us w' hG hV => ?_
    have o3 := (frame_old2 (us := us) (a := a0) (show (DouT[3]?).join = none from rfl)).trans k3
    have hg1 := hG.row RB.out
    generalize frame DouT a0 us = fr at *
    exact load_ok 22 3 rfl (w.heap.size + 1) o3 _ _ (0, 0) _ hg1 Try.underlying22 rfl UB.out hG rfl
  · refine step_plain [2] (by kernel_rfl) rfl fun us w' hG hV => ?_
    have e2 : us 2 = .agg B := hV 2 (by simp)
    have v2 := (frame_at2 (us := us) hl (show (DouT[7]?).join = some 2 from rfl)).trans e2
    generalize frame DouT a0 us = fr at *
    exact call_ok (f := 16) (args := #[.agg B]) (by go_simp) ((CB.out w').mono fun e w'' h => ⟨_, h.1, hG.below h.2, h.2, rfl⟩)
  · refine step_plain [1, 3] (by kernel_rfl) rfl fun us w' hG hV => ?_
    have e1 : us 1 = .agg DA := hV 1 (by simp)
    have v1 := (frame_at2 (us := us) hl (show (DouT[6]?).join = some 1 from rfl)).trans e1
    have e3 : us 3 = .agg DB := hV 3 (by simp)
    have v3 := (frame_at2 (us := us) hl (show (DouT[8]?).join = some 3 from rfl)).trans e3
    have hq := HED.out w'
    have hgd := guard16
    generalize frame DouT a0 us = fr at *
    exact val_ok (v := .bool q) (w' := w') (by go_simp) hG (Below.refl _ _) rfl
  · refine step_plain [] (by kernel_rfl) rfl fun us w' hG hV => ?_
    have o2 := (frame_old2 (us := us) (a := a0) (show (DouT[2]?).join = none from rfl)).trans k2
    have hg1 := hG.row RA.out
    generalize frame DouT a0 us = fr at *
    exact load_ok 22 2 rfl w.heap.size o2 _ _ (0, 0) _ hg1 Try.underlying22 rfl UA.out hG rfl
  · refine step_plain [] (by kernel_rfl) rfl fun us w' hG hV => ?_
    have o3 := (frame_old2 (us := us) (a := a0) (show (DouT[3]?).join = none from rfl)).trans k3
    have hg1 := hG.row RB.out
    generalize frame DouT a0 us = fr at *
    exact load_ok 22 3 rfl (w.heap.size + 1) o3 _ _ (0, 0) _ hg1 Try.underlying22 rfl UB.out hG rfl
  · refine step_plain [5, 6] (by kernel_rfl) rfl fun us w' hG hV => ?_
    have e5 : us 5 = .agg A := hV 5 (by simp)
    have v5 := (frame_at2 (us := us) hl (show (DouT[10]?).join = some 5 from rfl)).trans e5
    have e6 : us 6 = .agg B := hV 6 (by simp)
    have v6 := (frame_at2 (us := us) hl (show (DouT[11]?).join = some 6 from rfl)).trans e6
    have hq := HEB.out w'
    have hgd := guard16
    generalize frame DouT a0 us = fr at *
    exact val_ok (v := .bool q) (w' := w') (by go_simp) hG (Below.refl _ _) rfl
  · refine step_plain [4, 7] (by kernel_rfl) rfl fun us w' hG hV => ?_
    have e4 : us 4 = .bool q := hV 4 (by simp)
    have v4 := (frame_at2 (us := us) hl (show (DouT[9]?).join = some 4 from rfl)).trans e4
    have e7 : us 7 = .bool q := hV 7 (by simp)
    have v7 := (frame_at2 (us := us) hl (show (DouT[12]?).join = some 7 from rfl)).trans e7
    generalize frame DouT a0 us = fr at *
    cases q <;> exact val_ok (v := .bool true) (w' := w') (by go_simp) hG (Below.refl _ _) rfl
  · refine step_plain [8] (by kernel_rfl) rfl fun us w' hG hV => ?_
    have e8 : us 8 = .bool true := hV 8 (by simp)
    have v8 := (frame_at2 (us := us) hl (show (DouT[13]?).join = some 8 from rfl)).trans e8
    generalize frame DouT a0 us = fr at *
    exact val_ok (v := .bool true) (w' := w') (by go_simp) hG (Below.refl _ _) rfl
  · refine step_guard [9] (by kernel_rfl) (j := 9) (t := 14) (b := true) rfl (by simp) rfl hl rfl (fun v w h => h) fun us w' hG hV => ?_
    have e9 : us 9 = .bool true := hV 9 (by simp)
    have v9 := (frame_at2 (us := us) hl (show (DouT[14]?).join = some 9 from rfl)).trans e9
    generalize frame DouT a0 us = fr at *
    exact call_ok (f := 9) (args := #[]) (by go_simp) ((alive_any w').mono fun e w'' h => ⟨_, h.1, hG.below h.2, h.2, rfl⟩)
  · refine step_plain [9, 10] (by kernel_rfl) rfl fun us w' hG hV => ?_
    have e9 : us 9 = .bool true := hV 9 (by simp)
    have v9 := (frame_at2 (us := us) hl (show (DouT[14]?).join = some 9 from rfl)).trans e9
    have e10 : us 10 = .bool true := hV 10 (by simp)
    have v10 := (frame_at2 (us := us) hl (show (DouT[15]?).join = some 10 from rfl)).trans e10
    generalize frame DouT a0 us = fr at *
    exact val_ok (v := .bool true) (w' := w') (by go_simp) hG (Below.refl _ _) rfl
  · refine step_plain [11] (by kernel_rfl) rfl fun us w' hG hV => ?_
    have e11 : us 11 = .bool true := hV 11 (by simp)
    have v11 := (frame_at2 (us := us) hl (show (DouT[16]?).join = some 11 from rfl)).trans e11
    generalize frame DouT a0 us = fr at *
    exact val_ok (v := .bool true) (w' := w') (by go_simp) hG (Below.refl _ _) rfl
  · intro us w' hG hV
    have eL : us 12 = .bool true := hV 12 (by decide)
    subst ha0
    simp only [frame, DouT, fill]
    rw [eL]
    go_wp2_with fail
    go_ret
    exact ⟨rfl, BW6.out.trans (hG.mono BW6.out.size)⟩
def BloV (B D O T : Array Value) : Nat → Value → World → Prop
  | 0, v, _ => v = .agg B
  | 1, v, _ => v = .agg D
  | 2, v, _ => v = .agg B
  | 3, v, _ => v = .agg D
  | 4, v, _ => v = .bool true
  | 5, v, _ => v = .bool true
  | 6, v, _ => v = .agg O
  | 7, v, _ => v = .agg O
  | 8, v, _ => v = .bool true
  | 9, v, _ => v = .bool true
  | 10, v, _ => v = .bool true
  | 11, v, _ => v = .agg T
  | 12, v, _ => v = .agg T
  | 13, v, _ => v = .bool true
  | 14, v, _ => v = .bool true
  | 15, v, _ => v = .bool true
  | 16, v, _ => v = .bool true
  | 17, v, _ => v = .bool true
  | 18, v, _ => v = .bool true
  | _, _, _ => True
theorem BloV.keep (B D O T : Array Value) (i : Nat) (v : Value) (w w' : World) (hb : Below w.heap.size w w') (h : BloV B D O T i v w) : BloV B D O T i v w' := by
  unfold BloV at h ⊢
  split at h <;> exact h
def BloT : List (Option Nat) := [none, none, none, none, some 18, none, none, none, none, none, none, none, none, none, none, none, none, none, none, some 0, some 1, some 2, some 3, some 4, some 5, some 6, some 7, some 8, some 9, some 10, some 11, some 12, some 13, some 14, some 15, some 16, some 17]
set_option maxRecDepth 100000 in
set_option maxHeartbeats 1000000 in
theorem blocks_walk (k b : List Nat) (w : World) (hk : k.length = 16) (yk : BY k) (hb : b.length = 16) (yb : BY b) :
    Calls Try.prog 4 #[.agg (vec k), .agg (vec b)] w (AliveRet w) := by
  obtain ⟨K, hK⟩ : ∃ K, K = vec k := ⟨_, rfl⟩
  obtain ⟨B, hB⟩ : ∃ B, B = vec b := ⟨_, rfl⟩
  obtain ⟨D, hD⟩ : ∃ D, D = vec (dL b) := ⟨_, rfl⟩
  obtain ⟨O, hO⟩ : ∃ O, O = vec (oneL k) := ⟨_, rfl⟩
  obtain ⟨T, hT⟩ : ∃ T, T = vec (twoL k) := ⟨_, rfl⟩
  obtain ⟨Z, hZ⟩ : ∃ Z, Z = vec (zs 16) := ⟨_, rfl⟩
  have hzv := zero16
  rw [← hZ] at hzv
  have ED := Lib.hid (show ∀ w, (Op.equalIn 10000 22 (.agg D) (.agg D)).run Try.prog w = .ok true w from fun w => by rw [hD]; exact eq16 (dL_len _) w)
  have EO := Lib.hid (show ∀ w, (Op.equalIn 10000 22 (.agg O) (.agg O)).run Try.prog w = .ok true w from fun w => by rw [hO]; exact eq16 (oneL_len _) w)
  have ET := Lib.hid (show ∀ w, (Op.equalIn 10000 22 (.agg T) (.agg T)).run Try.prog w = .ok true w from fun w => by rw [hT]; exact eq16 (twoL_len _) w)
  have CD := Lib.hid (fun w => cdouble_any b w hb yb)
  rw [← hB, ← hD] at CD
  have RD := Lib.hid (fun w => rdouble_any b w hb yb)
  rw [← hB, ← hD] at RD
  have CB := Lib.hid (fun w => cblocks_any k w hk yk)
  rw [← hK, ← hO, ← hT] at CB
  have RBL := Lib.hid (fun w => rblocks_any k w hk yk)
  rw [← hK, ← hO, ← hT] at RBL
  have UK := Lib.hid (show (Try.prog.info? 22).map (·.size) = some K.size by rw [hK]; exact vec_info hk)
  have UB := Lib.hid (show (Try.prog.info? 22).map (·.size) = some B.size by rw [hB]; exact vec_info hb)
  have UO := Lib.hid (show (Try.prog.info? 22).map (·.size) = some O.size by rw [hO]; exact vec_info (oneL_len _))
  have UT := Lib.hid (show (Try.prog.info? 22).map (·.size) = some T.size by rw [hT]; exact vec_info (twoL_len _))
  have OO := Lib.hid (show O.all (·.oneCell') = true by rw [hO]; exact vec_one _)
  have OT := Lib.hid (show T.all (·.oneCell') = true by rw [hT]; exact vec_one _)
  have ZO := Lib.hid (show Z.size = O.size by rw [hZ, hO, vec_size, vec_size, zs_len, oneL_len])
  have ZT := Lib.hid (show Z.size = T.size by rw [hZ, hT, vec_size, vec_size, zs_len, twoL_len])
  have e1 : (w.alloc (.cells K 22)).heap.size = w.heap.size + 1 := alloc_size _ _
  obtain ⟨W, hW⟩ : ∃ W, W = (w.alloc (.cells K 22)).alloc (.cells B 22) := ⟨_, rfl⟩
  have RK0 := Lib.hid (show W.heap[w.heap.size]? = some (.cells K 22 (0, 0)) by rw [hW, Below.block (alloc_below _ _) _ (by rw [e1]; omega)]; exact heap_alloc_new w _)
  have RB0 := Lib.hid (show W.heap[w.heap.size + 1]? = some (.cells B 22 (0, 0)) by rw [hW, ← e1]; exact heap_alloc_new _ _)
  have BW := Lib.hid (show Below w.heap.size w W by rw [hW]; exact ((Below.refl _ _).alloc (Nat.le_refl _) _).alloc (by simp) _)
  rw [← hK, ← hB]
  clear hK hB hD hO hT hZ e1 hk yk hb yb
  go_enter Try.func4, Try.ntmps4
  go_upto_region 1 with fail
  rw [← hW]
  clear hW
  go_upto_region 2 with (first
    | (refine wpList_load_row rfl 22 (.tmp 2) rfl w.heap.size rfl _ _ _ _ RK0.out Try.underlying22 rfl UK.out ?_)
    | (go_at_call 14; (with_reducible refine (CB.out _).mono ?_); rintro e w2 ⟨rfl, B5⟩
       have r8 : ((w2.alloc (.cells Z 22)).alloc (.cells Z 22)).heap[w2.heap.size]? = some (.cells Z 22 (0, 0)) := by
         rw [Below.block (alloc_below _ _) _ (by rw [alloc_size]; omega)]; exact heap_alloc_new _ _
       have r9 : (((w2.alloc (.cells Z 22)).alloc (.cells Z 22)).setRow w2.heap.size O).heap[w2.heap.size + 1]? = some (.cells Z 22 (0, 0)) := by
         rw [setRow_other _ _ _ _ (by omega), ← alloc_size w2 (.cells Z 22)]; exact heap_alloc_new _ _
       have X8 := Lib.hid r8
       have X9 := Lib.hid r9
       have B7 := Lib.hid (show Below w2.heap.size w2 (((w2.alloc (.cells Z 22)).alloc (.cells Z 22)).setRow w2.heap.size O) from below_setRow (((Below.refl _ _).alloc (Nat.le_refl _) _).alloc (by simp) _) (Nat.le_refl _) _)
       have Q8 := Lib.hid (setRow_heap _ _ _ O _ _ r8)
       clear r8 r9)
    | (refine wpList_store_row rfl 22 (.tmp 5) (.tmp 12) rfl w2.heap.size _ rfl rfl _ _ X8.out UO.out ZO.out OO.out ?_)
    | (refine wpList_store_row rfl 22 (.tmp 6) (.tmp 13) rfl (w2.heap.size + 1) _ rfl rfl _ _ X9.out UT.out ZT.out OT.out ?_))
  have Qg6 := Lib.hid (setRow_heap _ _ _ T _ _ X9.out)
  have Qg5 := Lib.hid (show ((((w2.alloc (.cells Z 22)).alloc (.cells Z 22)).setRow w2.heap.size O).setRow (w2.heap.size + 1) T).heap[w2.heap.size]? = some (.cells O 22 (0, 0)) by
    rw [setRow_other _ _ _ _ (by omega)]; exact Q8.out)
  have B72 := Lib.hid (below_setRow (k := w2.heap.size + 1) B7.out (by omega) T)
  clear X8 X9 Q8 B7
  generalize (((w2.alloc (.cells Z 22)).alloc (.cells Z 22)).setRow w2.heap.size O).setRow (w2.heap.size + 1) T = w3 at *
  have bw3 := Lib.hid (show Below W.heap.size W w3 from B5.trans (B72.out.mono B5.size))
  generalize w2.heap.size + 1 = g6 at *
  generalize w2.heap.size = g5 at *
  clear B5 B72
  have RK3 := Lib.hid (Gr.row bw3.out RK0.out)
  go_upto_region 3 with (first
    | (refine wpList_load_row rfl 22 (.tmp 2) rfl w.heap.size rfl _ _ _ _ RK3.out Try.underlying22 rfl UK.out ?_)
    | (go_at_call 15; (with_reducible refine (RBL.out _).mono ?_); rintro e w5 ⟨rfl, B5⟩
       have r8 : ((w5.alloc (.cells Z 22)).alloc (.cells Z 22)).heap[w5.heap.size]? = some (.cells Z 22 (0, 0)) := by
         rw [Below.block (alloc_below _ _) _ (by rw [alloc_size]; omega)]; exact heap_alloc_new _ _
       have r9 : (((w5.alloc (.cells Z 22)).alloc (.cells Z 22)).setRow w5.heap.size O).heap[w5.heap.size + 1]? = some (.cells Z 22 (0, 0)) := by
         rw [setRow_other _ _ _ _ (by omega), ← alloc_size w5 (.cells Z 22)]; exact heap_alloc_new _ _
       have X8 := Lib.hid r8
       have X9 := Lib.hid r9
       have B7 := Lib.hid (show Below w5.heap.size w5 (((w5.alloc (.cells Z 22)).alloc (.cells Z 22)).setRow w5.heap.size O) from below_setRow (((Below.refl _ _).alloc (Nat.le_refl _) _).alloc (by simp) _) (Nat.le_refl _) _)
       have Q8 := Lib.hid (setRow_heap _ _ _ O _ _ r8)
       clear r8 r9)
    | (refine wpList_store_row rfl 22 (.tmp 7) (.tmp 17) rfl w5.heap.size _ rfl rfl _ _ X8.out UO.out ZO.out OO.out ?_)
    | (refine wpList_store_row rfl 22 (.tmp 8) (.tmp 18) rfl (w5.heap.size + 1) _ rfl rfl _ _ X9.out UT.out ZT.out OT.out ?_))
  have Qg8 := Lib.hid (setRow_heap _ _ _ T _ _ X9.out)
  have Qg7 := Lib.hid (show ((((w5.alloc (.cells Z 22)).alloc (.cells Z 22)).setRow w5.heap.size O).setRow (w5.heap.size + 1) T).heap[w5.heap.size]? = some (.cells O 22 (0, 0)) by
    rw [setRow_other _ _ _ _ (by omega)]; exact Q8.out)
  have B72 := Lib.hid (below_setRow (k := w5.heap.size + 1) B7.out (by omega) T)
  clear X8 X9 Q8 B7
  generalize (((w5.alloc (.cells Z 22)).alloc (.cells Z 22)).setRow w5.heap.size O).setRow (w5.heap.size + 1) T = w6 at *
  have bw6 := Lib.hid (show Below w3.heap.size w3 w6 from B5.trans (B72.out.mono B5.size))
  generalize w5.heap.size + 1 = g8 at *
  generalize w5.heap.size = g7 at *
  clear B5 B72
  have R5 := Lib.hid (Gr.row bw6.out Qg5.out)
  have R6 := Lib.hid (Gr.row bw6.out Qg6.out)
  have R7 := Qg7
  have R8 := Qg8
  have RB := Lib.hid (Gr.row bw6.out (Gr.row bw3.out RB0.out))
  have BW3 := BW.out.trans (bw3.out.mono BW.out.size)
  have BW6 := Lib.hid (BW3.trans (bw6.out.mono BW3.size))
  clear BW3 BW bw3 bw6 RB0 RK0 RK3 Qg5 Qg6 Qg7 Qg8 CB RBL hzv
  refine with_act fun a0 ha0 => ?_
  have hl : BloT.length = a0.tmps.size := by rw [ha0]; rfl
  have k3 : a0.tmps[3]?.getD undef = .pointer (some ⟨w.heap.size + 1, 0, none⟩) := by rw [ha0]; rfl
  have k5 : a0.tmps[5]?.getD undef = .pointer (some ⟨g5, 0, none⟩) := by rw [ha0]; rfl
  have k6 : a0.tmps[6]?.getD undef = .pointer (some ⟨g6, 0, none⟩) := by rw [ha0]; rfl
  have k7 : a0.tmps[7]?.getD undef = .pointer (some ⟨g7, 0, none⟩) := by rw [ha0]; rfl
  have k8 : a0.tmps[8]?.getD undef = .pointer (some ⟨g8, 0, none⟩) := by rw [ha0]; rfl
  refine wp_region_vals (by kernel_rfl) BloT (by kernel_rfl) (by kernel_rfl) hl (fun i => if i = 18 then .bool false else undef) (by rw [ha0]; rfl) (Gr w6) (BloV B D O T) (gr_drew _) (BloV.keep _ _ _ _) ⟨?_, ?_, ?_, ?_, ?_, ?_, ?_, ?_, ?_, ?_, ?_, ?_, ?_, ?_, ?_, ?_, ?_, ?_, ?_, trivial⟩ ?_
  · refine step_plain [] (by kernel_rfl) rfl fun us w' hG hV => ?_
    have o3 := (frame_old2 (us := us) (a := a0) (show (BloT[3]?).join = none from rfl)).trans k3
    have hg1 := hG.row RB.out
    generalize frame BloT a0 us = fr at *
    exact load_ok 22 3 rfl (w.heap.size + 1) o3 _ _ (0, 0) _ hg1 Try.underlying22 rfl UB.out hG rfl
  · refine step_plain [0] (by kernel_rfl) rfl fun us w' hG hV => ?_
    have e0 : us 0 = .agg B := hV 0 (by simp)
    have v0 := (frame_at2 (us := us) hl (show (BloT[19]?).join = some 0 from rfl)).trans e0
    generalize frame BloT a0 us = fr at *
    exact call_ok (f := 16) (args := #[.agg B]) (by go_simp) ((CD.out w').mono fun e w'' h => ⟨_, h.1, hG.below h.2, h.2, rfl⟩)
  · refine step_plain [] (by kernel_rfl) rfl fun us w' hG hV => ?_
    have o3 := (frame_old2 (us := us) (a := a0) (show (BloT[3]?).join = none from rfl)).trans k3
    have hg1 := hG.row RB.out
    generalize frame BloT a0 us = fr at *
    exact load_ok 22 3 rfl (w.heap.size + 1) o3 _ _ (0, 0) _ hg1 Try.underlying22 rfl UB.out hG rfl
  · refine step_plain [2] (by kernel_rfl) rfl fun us w' hG hV => ?_
    have e2 : us 2 = .agg B := hV 2 (by simp)
    have v2 := (frame_at2 (us := us) hl (show (BloT[21]?).join = some 2 from rfl)).trans e2
    generalize frame BloT a0 us = fr at *
    exact call_ok (f := 17) (args := #[.agg B]) (by go_simp) ((RD.out w').mono fun e w'' h => ⟨_, h.1, hG.below h.2, h.2, rfl⟩)
  · refine step_plain [1, 3] (by kernel_rfl) rfl fun us w' hG hV => ?_
    have e1 : us 1 = .agg D := hV 1 (by simp)
    have v1 := (frame_at2 (us := us) hl (show (BloT[20]?).join = some 1 from rfl)).trans e1
    have e3 : us 3 = .agg D := hV 3 (by simp)
    have v3 := (frame_at2 (us := us) hl (show (BloT[22]?).join = some 3 from rfl)).trans e3
    have hq := ED.out w'
    have hgd := guard16
    generalize frame BloT a0 us = fr at *
    exact val_ok (v := .bool true) (w' := w') (by go_simp) hG (Below.refl _ _) rfl
  · refine step_plain [4] (by kernel_rfl) rfl fun us w' hG hV => ?_
    have e4 : us 4 = .bool true := hV 4 (by simp)
    have v4 := (frame_at2 (us := us) hl (show (BloT[23]?).join = some 4 from rfl)).trans e4
    generalize frame BloT a0 us = fr at *
    exact val_ok (v := .bool true) (w' := w') (by go_simp) hG (Below.refl _ _) rfl
  · refine step_guard [5] (by kernel_rfl) (j := 5) (t := 24) (b := true) rfl (by simp) rfl hl rfl (fun v w h => h) fun us w' hG hV => ?_
    have e5 : us 5 = .bool true := hV 5 (by simp)
    have v5 := (frame_at2 (us := us) hl (show (BloT[24]?).join = some 5 from rfl)).trans e5
    have o5 := (frame_old2 (us := us) (a := a0) (show (BloT[5]?).join = none from rfl)).trans k5
    have hg1 := hG.row R5.out
    generalize frame BloT a0 us = fr at *
    exact load_ok 22 5 rfl g5 o5 _ _ (0, 0) _ hg1 Try.underlying22 rfl UO.out hG rfl
  · refine step_guard [5] (by kernel_rfl) (j := 5) (t := 24) (b := true) rfl (by simp) rfl hl rfl (fun v w h => h) fun us w' hG hV => ?_
    have e5 : us 5 = .bool true := hV 5 (by simp)
    have v5 := (frame_at2 (us := us) hl (show (BloT[24]?).join = some 5 from rfl)).trans e5
    have o7 := (frame_old2 (us := us) (a := a0) (show (BloT[7]?).join = none from rfl)).trans k7
    have hg1 := hG.row R7.out
    generalize frame BloT a0 us = fr at *
    exact load_ok 22 7 rfl g7 o7 _ _ (0, 0) _ hg1 Try.underlying22 rfl UO.out hG rfl
  · refine step_guard [5, 6, 7] (by kernel_rfl) (j := 5) (t := 24) (b := true) rfl (by simp) rfl hl rfl (fun v w h => h) fun us w' hG hV => ?_
    have e5 : us 5 = .bool true := hV 5 (by simp)
    have v5 := (frame_at2 (us := us) hl (show (BloT[24]?).join = some 5 from rfl)).trans e5
    have e6 : us 6 = .agg O := hV 6 (by simp)
    have v6 := (frame_at2 (us := us) hl (show (BloT[25]?).join = some 6 from rfl)).trans e6
    have e7 : us 7 = .agg O := hV 7 (by simp)
    have v7 := (frame_at2 (us := us) hl (show (BloT[26]?).join = some 7 from rfl)).trans e7
    have hq := EO.out w'
    have hgd := guard16
    generalize frame BloT a0 us = fr at *
    exact val_ok (v := .bool true) (w' := w') (by go_simp) hG (Below.refl _ _) rfl
  · refine step_plain [5, 8] (by kernel_rfl) rfl fun us w' hG hV => ?_
    have e5 : us 5 = .bool true := hV 5 (by simp)
    have v5 := (frame_at2 (us := us) hl (show (BloT[24]?).join = some 5 from rfl)).trans e5
    have e8 : us 8 = .bool true := hV 8 (by simp)
    have v8 := (frame_at2 (us := us) hl (show (BloT[27]?).join = some 8 from rfl)).trans e8
    generalize frame BloT a0 us = fr at *
    exact val_ok (v := .bool true) (w' := w') (by go_simp) hG (Below.refl _ _) rfl
  · refine step_plain [9] (by kernel_rfl) rfl fun us w' hG hV => ?_
    have e9 : us 9 = .bool true := hV 9 (by simp)
    have v9 := (frame_at2 (us := us) hl (show (BloT[28]?).join = some 9 from rfl)).trans e9
    generalize frame BloT a0 us = fr at *
    exact val_ok (v := .bool true) (w' := w') (by go_simp) hG (Below.refl _ _) rfl
  · refine step_guard [10] (by kernel_rfl) (j := 10) (t := 29) (b := true) rfl (by simp) rfl hl rfl (fun v w h => h) fun us w' hG hV => ?_
    have e10 : us 10 = .bool true := hV 10 (by simp)
    have v10 := (frame_at2 (us := us) hl (show (BloT[29]?).join = some 10 from rfl)).trans e10
    have o6 := (frame_old2 (us := us) (a := a0) (show (BloT[6]?).join = none from rfl)).trans k6
    have hg1 := hG.row R6.out
    generalize frame BloT a0 us = fr at *
    exact load_ok 22 6 rfl g6 o6 _ _ (0, 0) _ hg1 Try.underlying22 rfl UT.out hG rfl
  · refine step_guard [10] (by kernel_rfl) (j := 10) (t := 29) (b := true) rfl (by simp) rfl hl rfl (fun v w h => h) fun us w' hG hV => ?_
    have e10 : us 10 = .bool true := hV 10 (by simp)
    have v10 := (frame_at2 (us := us) hl (show (BloT[29]?).join = some 10 from rfl)).trans e10
    have o8 := (frame_old2 (us := us) (a := a0) (show (BloT[8]?).join = none from rfl)).trans k8
    have hg1 := hG.row R8.out
    generalize frame BloT a0 us = fr at *
    exact load_ok 22 8 rfl g8 o8 _ _ (0, 0) _ hg1 Try.underlying22 rfl UT.out hG rfl
  · refine step_guard [10, 11, 12] (by kernel_rfl) (j := 10) (t := 29) (b := true) rfl (by simp) rfl hl rfl (fun v w h => h) fun us w' hG hV => ?_
    have e10 : us 10 = .bool true := hV 10 (by simp)
    have v10 := (frame_at2 (us := us) hl (show (BloT[29]?).join = some 10 from rfl)).trans e10
    have e11 : us 11 = .agg T := hV 11 (by simp)
    have v11 := (frame_at2 (us := us) hl (show (BloT[30]?).join = some 11 from rfl)).trans e11
    have e12 : us 12 = .agg T := hV 12 (by simp)
    have v12 := (frame_at2 (us := us) hl (show (BloT[31]?).join = some 12 from rfl)).trans e12
    have hq := ET.out w'
    have hgd := guard16
    generalize frame BloT a0 us = fr at *
    exact val_ok (v := .bool true) (w' := w') (by go_simp) hG (Below.refl _ _) rfl
  · refine step_plain [10, 13] (by kernel_rfl) rfl fun us w' hG hV => ?_
    have e10 : us 10 = .bool true := hV 10 (by simp)
    have v10 := (frame_at2 (us := us) hl (show (BloT[29]?).join = some 10 from rfl)).trans e10
    have e13 : us 13 = .bool true := hV 13 (by simp)
    have v13 := (frame_at2 (us := us) hl (show (BloT[32]?).join = some 13 from rfl)).trans e13
    generalize frame BloT a0 us = fr at *
    exact val_ok (v := .bool true) (w' := w') (by go_simp) hG (Below.refl _ _) rfl
  · refine step_plain [14] (by kernel_rfl) rfl fun us w' hG hV => ?_
    have e14 : us 14 = .bool true := hV 14 (by simp)
    have v14 := (frame_at2 (us := us) hl (show (BloT[33]?).join = some 14 from rfl)).trans e14
    generalize frame BloT a0 us = fr at *
    exact val_ok (v := .bool true) (w' := w') (by go_simp) hG (Below.refl _ _) rfl
  · refine step_guard [15] (by kernel_rfl) (j := 15) (t := 34) (b := true) rfl (by simp) rfl hl rfl (fun v w h => h) fun us w' hG hV => ?_
    have e15 : us 15 = .bool true := hV 15 (by simp)
    have v15 := (frame_at2 (us := us) hl (show (BloT[34]?).join = some 15 from rfl)).trans e15
    generalize frame BloT a0 us = fr at *
    exact call_ok (f := 9) (args := #[]) (by go_simp) ((alive_any w').mono fun e w'' h => ⟨_, h.1, hG.below h.2, h.2, rfl⟩)
  · refine step_plain [15, 16] (by kernel_rfl) rfl fun us w' hG hV => ?_
    have e15 : us 15 = .bool true := hV 15 (by simp)
    have v15 := (frame_at2 (us := us) hl (show (BloT[34]?).join = some 15 from rfl)).trans e15
    have e16 : us 16 = .bool true := hV 16 (by simp)
    have v16 := (frame_at2 (us := us) hl (show (BloT[35]?).join = some 16 from rfl)).trans e16
    generalize frame BloT a0 us = fr at *
    exact val_ok (v := .bool true) (w' := w') (by go_simp) hG (Below.refl _ _) rfl
  · refine step_plain [17] (by kernel_rfl) rfl fun us w' hG hV => ?_
    have e17 : us 17 = .bool true := hV 17 (by simp)
    have v17 := (frame_at2 (us := us) hl (show (BloT[36]?).join = some 17 from rfl)).trans e17
    generalize frame BloT a0 us = fr at *
    exact val_ok (v := .bool true) (w' := w') (by go_simp) hG (Below.refl _ _) rfl
  · intro us w' hG hV
    have eL : us 18 = .bool true := hV 18 (by decide)
    subst ha0
    simp only [Act.put, frame, BloT, fill]
    rw [eL]
    go_wp2_with fail
    go_ret
    exact ⟨rfl, BW6.out.trans (hG.mono BW6.out.size)⟩
end Go.Proofs.Ytknemkekmahdmaa.aesC
