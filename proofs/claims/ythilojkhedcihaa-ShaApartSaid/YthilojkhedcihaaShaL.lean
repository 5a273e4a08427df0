/-
  What alive does.
-/
import Derived.Test.YthilojkhedcihaaShaK
import Derived.Test.YthilojkhedcihaaEq
import Derived.Lib.SlBytesConst
import Derived.Test.YthilojkhedcihaaFree
namespace Go.Proofs.Ythilojkhedcihaa.shaC
open Go.ChangeShapes Go.WideShapes Go.ChangeAt Go.RowKit
open Go.Proofs.Ythilojkhedcihaa.memC Go.Proofs.Ythilojkhedcihaa.genC Go.Proofs.Ythilojkhedcihaa.shaM Go.Proofs.Ythilojkhedcihaa.shaN Go.Proofs.Ythilojkhedcihaa.butC Go.Proofs.Ythilojkhedcihaa.partsC Go.Proofs.Ythilojkhedcihaa.freeC
set_option linter.unusedVariables false
/-- a digest as a value -/
def digA (xs : List Int) : Array Value := ((shaL xs).map (Value.int .u8)).toArray
theorem dig_len (xs : List Int) : (shaL xs).length = 20 := by unfold shaL; simp
theorem dig_size (xs : List Int) : (digA xs).size = 20 := by unfold digA; simp [dig_len]
theorem dig_info (xs : List Int) : (Try.prog.info? 25).map (·.size) = some (digA xs).size := by rw [digest_info, dig_size]
theorem dig_one (xs : List Int) : (digA xs).all (·.oneCell') = true := nums_one _
theorem dig_eq (xs : List Int) (w : World) : (Op.equalIn 10000 25 (.agg (digA xs)) (.agg (digA xs))).run Try.prog w = .ok true w := by
  obtain ⟨i0, hi0, hz0, hz1, hz2⟩ := info_parts byte_info
  refine Go.Proofs.Ythilojkhedcihaa.eqC.run_same w _ _ 20 .u8 i0 _ Try.underlying25 rfl hi0 (by kernel_rfl) fun j hj => ⟨(shaL xs).getD j 0, ?_⟩
  unfold digA
  simp [List.getD_eq_getElem?_getD, dig_len, hj]
theorem dig_guard : Try.prog.eqGuardType Try.prog.depth 25 = false := by kernel_rfl
theorem dig_hex : shaL [97, 98, 99] = [169, 153, 62, 54, 71, 6, 129, 106, 186, 62, 37, 113, 120, 80, 194, 108, 156, 208, 216, 157] := by decide +kernel
theorem zero20_info : (Try.prog.info? 25).map (·.zero) = some (some (.agg ((List.replicate 20 (0 : Int)).map (Value.int .u8)).toArray)) := by kernel_rfl
theorem zero20 (w : World) : (zeroValue 25).run Try.prog w = .ok (.agg ((List.replicate 20 (0 : Int)).map (Value.int .u8)).toArray) w := by
  obtain ⟨i, hi, hz⟩ := Option.map_eq_some_iff.1 zero20_info
  simp [zeroValue, typeInfo, hi, hz]
/-- block k holds X and nothing else -/
def RowX (k : Nat) (X : Array Value) (w : World) : Prop := w.heap[k]? = some (.cells X 25 (0, 0))
theorem RowX.lt {k : Nat} {X : Array Value} {w : World} (h : RowX k X w) : k < w.heap.size := by
  rcases Nat.lt_or_ge k w.heap.size with h1 | h1
  · exact h1
  · unfold RowX at h; rw [Array.getElem?_eq_none h1] at h; cases h
theorem RowX.below {B k : Nat} {X : Array Value} {w w' : World} (h : RowX k X w) (hb : Below B w w') (hk : k < B) : RowX k X w' := (hb.block k hk).trans h
theorem RowX.alloc {k : Nat} {X : Array Value} {w : World} (h : RowX k X w) (o : Obj) : RowX k X (w.alloc o) := h.below (alloc_below w o) h.lt
theorem RowX.cell {k j : Nat} {X : Array Value} {w : World} {v : Value} (h : RowX k X w) (hv : X[j]? = some v) : w.cell? ⟨k, j, none⟩ = some v := by
  rw [cell_of_row w k j X _ (0, 0) h, hv]
theorem RowX.load {k : Nat} {X : Array Value} {w : World} (h : RowX k X w) (hi : (Try.prog.info? 25).map (·.size) = some X.size) : (Instr.loadAt 25 (.pointer (some ⟨k, 0, none⟩))).run Try.prog w = .ok (.agg X) w := by
  simp only [Instr.loadAt, Instr.sureAddr, Sem.run_bind, Sem.run_pure, Result.andThen]
  exact run_loadVar_row _ _ _ _ X (0, 0) _ h Try.underlying25 rfl hi
/-- block k holds X, and what was there stands -/
def St (w : World) (k : Nat) (X : Array Value) (w' : World) : Prop := RowX k X w' ∧ Below w.heap.size w w'
theorem St.alloc {w w' : World} {k : Nat} {X : Array Value} (h : St w k X w') (o : Obj) : St w k X (w'.alloc o) := ⟨h.1.alloc o, h.2.alloc h.2.size o⟩
theorem St.drew {w w' : World} {k : Nat} {X : Array Value} (h : St w k X w') : St w k X w'.drew := ⟨h.1, h.2.drew⟩
theorem St.below {w w' w'' : World} {k : Nat} {X : Array Value} (h : St w k X w') (b : Below w'.heap.size w' w'') : St w k X w'' := ⟨h.1.below b h.1.lt, h.2.trans (b.mono h.2.size)⟩
theorem abcN (w : World) : Nums .u8 (w.alloc (.cells #[.int .u8 97, .int .u8 98, .int .u8 99] 5)) (w.alloc (.cells #[.int .u8 97, .int .u8 98, .int .u8 99] 5)).heap.size (some ⟨w.heap.size, 0, none⟩) 3 [97, 98, 99] :=
  (Arr.new w .u8 5 [97, 98, 99]).part (n := 3) rfl
def AliveRet (w : World) (e : Ending) (w' : World) : Prop := e = .returned (.bool true) ∧ Below w.heap.size w w'
/-- what the operations give -/
def AV (k : Nat) (X : Array Value) : Nat → Value → World → Prop
  | 0, v, _ => v = .pointer (some ⟨k, 0, none⟩)
  | 1, v, _ => v = .int .u8 169
  | 2, v, _ => v = .bool true
  | 3, v, _ => v = .bool true
  | 4, v, _ => v = .pointer (some ⟨k, 1, none⟩)
  | 5, v, _ => v = .int .u8 153
  | 6, v, _ => v = .bool true
  | 7, v, _ => v = .bool true
  | 8, v, _ => v = .bool true
  | 9, v, _ => v = .pointer (some ⟨k, 19, none⟩)
  | 10, v, _ => v = .int .u8 157
  | 11, v, _ => v = .bool true
  | 12, v, _ => v = .bool true
  | 13, v, _ => v = .bool true
  | 14, v, _ => v = .agg (sumL []).toArray
  | 15, v, w => ∃ g, v = .slice (some ⟨g, 0, none⟩) 3 3 ∧ Nums .u8 w w.heap.size (some ⟨g, 0, none⟩) 3 [97, 98, 99]
  | 16, v, _ => v = .agg (sumL [97, 98, 99]).toArray
  | 17, v, _ => v = .agg X
  | 18, v, _ => v = .agg X
  | 19, v, _ => v = .bool true
  | 20, v, _ => v = .bool true
  | 21, v, _ => v = .bool true
  | _, _, _ => True
theorem AV.keep (k : Nat) (X : Array Value) (i : Nat) (v : Value) (w w' : World) (hb : Below w.heap.size w w') (h : AV k X i v w) : AV k X i v w' := by
  by_cases e : i = 15
  · subst e
    obtain ⟨g, e1, h1⟩ := h
    exact ⟨g, e1, (h1.below hb).more hb.size⟩
  · unfold AV at h ⊢
    split at h <;> first | exact h | exact absurd rfl e
set_option maxRecDepth 100000 in
set_option maxHeartbeats 1000000 in
theorem alive_any (w : World) : Calls Try.prog 8 #[] w (AliveRet w) := by
  have hcv : (convert 22 22 (.slice (some ⟨w.heap.size, 0, none⟩) 3 3)).run Try.prog (w.alloc (.cells #[.int .u8 97, .int .u8 98, .int .u8 99] 5)) =
      .ok (.slice (some ⟨w.heap.size, 0, none⟩) 3 3) (w.alloc (.cells #[.int .u8 97, .int .u8 98, .int .u8 99] 5 (3, 4))) :=
    Lib.run_convert_bytes_const w 22 5 #[.int .u8 97, .int .u8 98, .int .u8 99] 3 3 Try.underlying22 Try.underlying5
  have PA : PartAt (w.alloc (.cells #[.int .u8 97, .int .u8 98, .int .u8 99] 5 (3, 4))) (w.alloc (.cells #[.int .u8 97, .int .u8 98, .int .u8 99] 5 (3, 4))).heap.size ⟨some ⟨w.heap.size, 0, none⟩, 3, 3, [97, 98, 99]⟩ := by
    refine ⟨⟨rfl, fun _ => ⟨_, 0, rfl, by rw [alloc_size]; exact Nat.lt_succ_self _, fun i hi => ?_⟩⟩, (show 3 ≤ 10000 by decide), by unfold Byte; simp, Nat.le_refl _, (show 3 ≤ 9223372036854775807 by decide)⟩
    have hi3 : i < 3 := hi
    rw [cell_of_row _ w.heap.size (0 + i) _ _ (3, 4) (heap_alloc_new w _)]
    rcases (show i = 0 ∨ i = 1 ∨ i = 2 by omega) with rfl | rfl | rfl <;> rfl
  have PS := Lib.hid (parts1 PA 22)
  have e1 : (w.alloc (.cells #[.int .u8 97, .int .u8 98, .int .u8 99] 5 (3, 4))).heap.size = w.heap.size + 1 := alloc_size _ _
  rw [e1] at PS
  have B2 : Below w.heap.size w ((w.alloc (.cells #[.int .u8 97, .int .u8 98, .int .u8 99] 5 (3, 4))).alloc (.cells #[.slice (some ⟨w.heap.size, 0, none⟩) 3 3] 22)) := ((Below.refl _ _).alloc (Nat.le_refl _) _).alloc (by simp) _
  have OF := Lib.hid (ofp_any _ 1 1 _ _ PS.out rfl (by decide))
  have HB2 := Lib.hid B2
  obtain ⟨X, hX⟩ : ∃ X, X = digA [97, 98, 99] := ⟨_, rfl⟩
  obtain ⟨Z, hZ⟩ : ∃ Z, Z = ((List.replicate 20 (0 : Int)).map (Value.int .u8)).toArray := ⟨_, rfl⟩
  have hzv : ∀ w, (zeroValue 25).run Try.prog w = .ok (.agg Z) w := by rw [hZ]; exact zero20
  have U1 := Lib.hid (show (Try.prog.info? 25).map (·.size) = some X.size by rw [hX]; exact dig_info _)
  have ZS := Lib.hid (show Z.size = X.size by rw [hZ, hX, dig_size]; rfl)
  have HO := Lib.hid (show X.all (·.oneCell') = true by rw [hX]; exact dig_one _)
  have HX := Lib.hid hX
  have OF2 := Lib.hid (OF.out.mono fun e w' h => (show e = .returned (.agg X) ∧ Below _ _ w' from ⟨by rw [hX]; exact h.1, h.2⟩))
  clear PA e1 B2 PS OF hX hZ
  go_enter Try.func8, Try.ntmps8
  go_upto_region 2 with (first
    | (go_at_call 9; refine OF2.out.mono ?_; rintro e w1 ⟨rfl, B1⟩)
    | (refine wpList_store_row rfl 25 (.tmp 1) (.tmp 5) rfl w1.heap.size X rfl rfl _ _ (heap_alloc_new _ _) U1.out ZS.out HO.out ?_))
  rw [World.setRow_alloc_new]
  have R0 : RowX w1.heap.size X (w1.alloc (.cells X 25)) := heap_alloc_new w1 _
  have B3 : Below w.heap.size w (w1.alloc (.cells X 25)) := ((HB2.out.trans (B1.mono HB2.out.size))).alloc (HB2.out.trans (B1.mono HB2.out.size)).size _
  generalize w1.alloc (.cells X 25) = w2 at *
  generalize w1.heap.size = k at *
  have c0 : w2.cell? ⟨k, 0, none⟩ = some (.int .u8 169) := R0.cell (by rw [HX.out]; unfold digA; rw [dig_hex]; rfl)
  have c1 : w2.cell? ⟨k, 1, none⟩ = some (.int .u8 153) := R0.cell (by rw [HX.out]; unfold digA; rw [dig_hex]; rfl)
  have c19 : w2.cell? ⟨k, 19, none⟩ = some (.int .u8 157) := R0.cell (by rw [HX.out]; unfold digA; rw [dig_hex]; rfl)
  have S0 : St w k X w2 := ⟨R0, B3⟩
  have hm := dig_guard
  have heq : ∀ w', (Op.equalIn 10000 25 (.agg X) (.agg X)).run Try.prog w' = .ok true w' := fun w' => by rw [HX.out]; exact dig_eq _ w'
  have DG := Lib.hid (fun w' => (digest_any [97, 98, 99] w' (by unfold Byte; simp) (by decide)).mono fun e w'' h => (show e = .returned (.agg X) ∧ Below w'.heap.size w' w'' from ⟨by rw [HX.out]; exact h.1, h.2⟩))
  have AD := Lib.hid (fun w' A (h : Nums .u8 w' w'.heap.size A 3 [97, 98, 99]) => add_any [] [97, 98, 99] A 3 3 w' h (Nat.le_refl _) (by decide) (by simp) (by unfold Byte; simp) (by decide))
  have x0 : ∀ w', St w k X w' → w'.cell? ⟨k, 0, none⟩ = some (.int .u8 169) := fun w' h => h.1.cell (by rw [HX.out]; unfold digA; rw [dig_hex]; rfl)
  have x1 : ∀ w', St w k X w' → w'.cell? ⟨k, 1, none⟩ = some (.int .u8 153) := fun w' h => h.1.cell (by rw [HX.out]; unfold digA; rw [dig_hex]; rfl)
  have x19 : ∀ w', St w k X w' → w'.cell? ⟨k, 19, none⟩ = some (.int .u8 157) := fun w' h => h.1.cell (by rw [HX.out]; unfold digA; rw [dig_hex]; rfl)
  clear hzv hcv B1 B3 R0 c0 c1 c19
  refine with_act fun a0 ha0 => ?_
  have hl : ([some 21, none, none, none, none, none, some 0, some 1, some 2, some 3, some 4, some 5, some 6, some 7, some 8, some 9, some 10, some 11, some 12, some 13, some 14, some 15, some 16, some 17, some 18, some 19, some 20]).length = a0.tmps.size := by rw [ha0]; rfl
  have hk1 : a0.tmps[1]?.getD undef = .pointer (some ⟨k, 0, none⟩) := by rw [ha0]; rfl
  refine wp_region_vals (by kernel_rfl) [some 21, none, none, none, none, none, some 0, some 1, some 2, some 3, some 4, some 5, some 6, some 7, some 8, some 9, some 10, some 11, some 12, some 13, some 14, some 15, some 16, some 17, some 18, some 19, some 20] (by kernel_rfl) (by kernel_rfl) hl (fun i => if i = 21 then .bool false else undef) (by rw [ha0]; rfl) (St w k X) (AV k X) S0.drew (AV.keep k X) ⟨?_, ?_, ?_, ?_, ?_, ?_, ?_, ?_, ?_, ?_, ?_, ?_, ?_, ?_, ?_, ?_, ?_, ?_, ?_, ?_, ?_, ?_, trivial⟩ ?_
  · refine step_plain [] (by kernel_rfl) rfl fun us w' hG hV => ?_
    have v1' := (frame_old2 (us := us) (a := a0) (show (([some 21, none, none, none, none, none, some 0, some 1, some 2, some 3, some 4, some 5, some 6, some 7, some 8, some 9, some 10, some 11, some 12, some 13, some 14, some 15, some 16, some 17, some 18, some 19, some 20] : List (Option Nat))[1]?).join = none from rfl)).trans hk1
    generalize frame _ a0 us = fr at *
    exact val_ok (v := .pointer (some ⟨k, 0, none⟩)) (w' := w') (by go_simp) hG (Below.refl _ _) rfl
  · refine step_plain [0] (by kernel_rfl) rfl fun us w' hG hV => ?_
    have e0 : us 0 = .pointer (some ⟨k, 0, none⟩) := hV 0 (by simp)
    have v0 := (frame_at2 (us := us) hl (show (_ : Option (Option Nat)).join = some 0 from rfl : (([some 21, none, none, none, none, none, some 0, some 1, some 2, some 3, some 4, some 5, some 6, some 7, some 8, some 9, some 10, some 11, some 12, some 13, some 14, some 15, some 16, some 17, some 18, some 19, some 20] : List (Option Nat))[6]?).join = some 0)).trans e0
    have cc := x0 w' hG
    generalize frame _ a0 us = fr at *
    exact val_ok (v := .int .u8 169) (w' := w') (by go_simp) hG (Below.refl _ _) rfl
  · refine step_plain [1] (by kernel_rfl) rfl fun us w' hG hV => ?_
    have e1 : us 1 = .int .u8 169 := hV 1 (by simp)
    have v1 := (frame_at2 (us := us) hl (show (_ : Option (Option Nat)).join = some 1 from rfl : (([some 21, none, none, none, none, none, some 0, some 1, some 2, some 3, some 4, some 5, some 6, some 7, some 8, some 9, some 10, some 11, some 12, some 13, some 14, some 15, some 16, some 17, some 18, some 19, some 20] : List (Option Nat))[7]?).join = some 1)).trans e1
    generalize frame _ a0 us = fr at *
    exact val_ok (v := .bool true) (w' := w') (by go_simp) hG (Below.refl _ _) rfl
  · refine step_plain [2] (by kernel_rfl) rfl fun us w' hG hV => ?_
    have e2 : us 2 = .bool true := hV 2 (by simp)
    have v2 := (frame_at2 (us := us) hl (show (_ : Option (Option Nat)).join = some 2 from rfl : (([some 21, none, none, none, none, none, some 0, some 1, some 2, some 3, some 4, some 5, some 6, some 7, some 8, some 9, some 10, some 11, some 12, some 13, some 14, some 15, some 16, some 17, some 18, some 19, some 20] : List (Option Nat))[8]?).join = some 2)).trans e2
    generalize frame _ a0 us = fr at *
    exact val_ok (v := .bool true) (w' := w') (by go_simp) hG (Below.refl _ _) rfl
  · refine step_guard [3] (by kernel_rfl) (j := 3) (t := 9) (b := true) rfl (by simp) rfl hl rfl (fun v w h => h) fun us w' hG hV => ?_
    have e3 : us 3 = .bool true := hV 3 (by simp)
    have v3 := (frame_at2 (us := us) hl (show (_ : Option (Option Nat)).join = some 3 from rfl : (([some 21, none, none, none, none, none, some 0, some 1, some 2, some 3, some 4, some 5, some 6, some 7, some 8, some 9, some 10, some 11, some 12, some 13, some 14, some 15, some 16, some 17, some 18, some 19, some 20] : List (Option Nat))[9]?).join = some 3)).trans e3
    have v1' := (frame_old2 (us := us) (a := a0) (show (([some 21, none, none, none, none, none, some 0, some 1, some 2, some 3, some 4, some 5, some 6, some 7, some 8, some 9, some 10, some 11, some 12, some 13, some 14, some 15, some 16, some 17, some 18, some 19, some 20] : List (Option Nat))[1]?).join = none from rfl)).trans hk1
    generalize frame _ a0 us = fr at *
    exact val_ok (v := .pointer (some ⟨k, 1, none⟩)) (w' := w') (by go_simp) hG (Below.refl _ _) rfl
  · refine step_guard [4, 3] (by kernel_rfl) (j := 3) (t := 9) (b := true) rfl (by simp) rfl hl rfl (fun v w h => h) fun us w' hG hV => ?_
    have e4 : us 4 = .pointer (some ⟨k, 1, none⟩) := hV 4 (by simp)
    have v4 := (frame_at2 (us := us) hl (show (_ : Option (Option Nat)).join = some 4 from rfl : (([some 21, none, none, none, none, none, some 0, some 1, some 2, some 3, some 4, some 5, some 6, some 7, some 8, some 9, some 10, some 11, some 12, some 13, some 14, some 15, some 16, some 17, some 18, some 19, some 20] : List (Option Nat))[10]?).join = some 4)).trans e4
    have e3 : us 3 = .bool true := hV 3 (by simp)
    have v3 := (frame_at2 (us := us) hl (show (_ : Option (Option Nat)).join = some 3 from rfl : (([some 21, none, none, none, none, none, some 0, some 1, some 2, some 3, some 4, some 5, some 6, some 7, some 8, some 9, some 10, some 11, some 12, some 13, some 14, some 15, some 16, some 17, some 18, some 19, some 20] : List (Option Nat))[9]?).join = some 3)).trans e3
    have cc := x1 w' hG
    generalize frame _ a0 us = fr at *
    exact val_ok (v := .int .u8 153) (w' := w') (by go_simp) hG (Below.refl _ _) rfl
  · refine step_guard [5, 3] (by kernel_rfl) (j := 3) (t := 9) (b := true) rfl (by simp) rfl hl rfl (fun v w h => h) fun us w' hG hV => ?_
    have e5 : us 5 = .int .u8 153 := hV 5 (by simp)
    have v5 := (frame_at2 (us := us) hl (show (_ : Option (Option Nat)).join = some 5 from rfl : (([some 21, none, none, none, none, none, some 0, some 1, some 2, some 3, some 4, some 5, some 6, some 7, some 8, some 9, some 10, some 11, some 12, some 13, some 14, some 15, some 16, some 17, some 18, some 19, some 20] : List (Option Nat))[11]?).join = some 5)).trans e5
    have e3 : us 3 = .bool true := hV 3 (by simp)
    have v3 := (frame_at2 (us := us) hl (show (_ : Option (Option Nat)).join = some 3 from rfl : (([some 21, none, none, none, none, none, some 0, some 1, some 2, some 3, some 4, some 5, some 6, some 7, some 8, some 9, some 10, some 11, some 12, some 13, some 14, some 15, some 16, some 17, some 18, some 19, some 20] : List (Option Nat))[9]?).join = some 3)).trans e3
    generalize frame _ a0 us = fr at *
    exact val_ok (v := .bool true) (w' := w') (by go_simp) hG (Below.refl _ _) rfl
  · refine step_plain [3, 6] (by kernel_rfl) rfl fun us w' hG hV => ?_
    have e3 : us 3 = .bool true := hV 3 (by simp)
    have v3 := (frame_at2 (us := us) hl (show (_ : Option (Option Nat)).join = some 3 from rfl : (([some 21, none, none, none, none, none, some 0, some 1, some 2, some 3, some 4, some 5, some 6, some 7, some 8, some 9, some 10, some 11, some 12, some 13, some 14, some 15, some 16, some 17, some 18, some 19, some 20] : List (Option Nat))[9]?).join = some 3)).trans e3
    have e6 : us 6 = .bool true := hV 6 (by simp)
    have v6 := (frame_at2 (us := us) hl (show (_ : Option (Option Nat)).join = some 6 from rfl : (([some 21, none, none, none, none, none, some 0, some 1, some 2, some 3, some 4, some 5, some 6, some 7, some 8, some 9, some 10, some 11, some 12, some 13, some 14, some 15, some 16, some 17, some 18, some 19, some 20] : List (Option Nat))[12]?).join = some 6)).trans e6
    generalize frame _ a0 us = fr at *
    exact val_ok (v := .bool true) (w' := w') (by go_simp) hG (Below.refl _ _) rfl
  · refine step_plain [7] (by kernel_rfl) rfl fun us w' hG hV => ?_
    have e7 : us 7 = .bool true := hV 7 (by simp)
    have v7 := (frame_at2 (us := us) hl (show (_ : Option (Option Nat)).join = some 7 from rfl : (([some 21, none, none, none, none, none, some 0, some 1, some 2, some 3, some 4, some 5, some 6, some 7, some 8, some 9, some 10, some 11, some 12, some 13, some 14, some 15, some 16, some 17, some 18, some 19, some 20] : List (Option Nat))[13]?).join = some 7)).trans e7
    generalize frame _ a0 us = fr at *
    exact val_ok (v := .bool true) (w' := w') (by go_simp) hG (Below.refl _ _) rfl
  · refine step_guard [8] (by kernel_rfl) (j := 8) (t := 14) (b := true) rfl (by simp) rfl hl rfl (fun v w h => h) fun us w' hG hV => ?_
    have e8 : us 8 = .bool true := hV 8 (by simp)
    have v8 := (frame_at2 (us := us) hl (show (_ : Option (Option Nat)).join = some 8 from rfl : (([some 21, none, none, none, none, none, some 0, some 1, some 2, some 3, some 4, some 5, some 6, some 7, some 8, some 9, some 10, some 11, some 12, some 13, some 14, some 15, some 16, some 17, some 18, some 19, some 20] : List (Option Nat))[14]?).join = some 8)).trans e8
    have v1' := (frame_old2 (us := us) (a := a0) (show (([some 21, none, none, none, none, none, some 0, some 1, some 2, some 3, some 4, some 5, some 6, some 7, some 8, some 9, some 10, some 11, some 12, some 13, some 14, some 15, some 16, some 17, some 18, some 19, some 20] : List (Option Nat))[1]?).join = none from rfl)).trans hk1
    generalize frame _ a0 us = fr at *
    exact val_ok (v := .pointer (some ⟨k, 19, none⟩)) (w' := w') (by go_simp) hG (Below.refl _ _) rfl
  · refine step_guard [9, 8] (by kernel_rfl) (j := 8) (t := 14) (b := true) rfl (by simp) rfl hl rfl (fun v w h => h) fun us w' hG hV => ?_
    have e9 : us 9 = .pointer (some ⟨k, 19, none⟩) := hV 9 (by simp)
    have v9 := (frame_at2 (us := us) hl (show (_ : Option (Option Nat)).join = some 9 from rfl : (([some 21, none, none, none, none, none, some 0, some 1, some 2, some 3, some 4, some 5, some 6, some 7, some 8, some 9, some 10, some 11, some 12, some 13, some 14, some 15, some 16, some 17, some 18, some 19, some 20] : List (Option Nat))[15]?).join = some 9)).trans e9
    have e8 : us 8 = .bool true := hV 8 (by simp)
    have v8 := (frame_at2 (us := us) hl (show (_ : Option (Option Nat)).join = some 8 from rfl : (([some 21, none, none, none, none, none, some 0, some 1, some 2, some 3, some 4, some 5, some 6, some 7, some 8, some 9, some 10, some 11, some 12, some 13, some 14, some 15, some 16, some 17, some 18, some 19, some 20] : List (Option Nat))[14]?).join = some 8)).trans e8
    have cc := x19 w' hG
    generalize frame _ a0 us = fr at *
    exact val_ok (v := .int .u8 157) (w' := w') (by go_simp) hG (Below.refl _ _) rfl
  · refine step_guard [10, 8] (by kernel_rfl) (j := 8) (t := 14) (b := true) rfl (by simp) rfl hl rfl (fun v w h => h) fun us w' hG hV => ?_
    have e10 : us 10 = .int .u8 157 := hV 10 (by simp)
    have v10 := (frame_at2 (us := us) hl (show (_ : Option (Option Nat)).join = some 10 from rfl : (([some 21, none, none, none, none, none, some 0, some 1, some 2, some 3, some 4, some 5, some 6, some 7, some 8, some 9, some 10, some 11, some 12, some 13, some 14, some 15, some 16, some 17, some 18, some 19, some 20] : List (Option Nat))[16]?).join = some 10)).trans e10
    have e8 : us 8 = .bool true := hV 8 (by simp)
    have v8 := (frame_at2 (us := us) hl (show (_ : Option (Option Nat)).join = some 8 from rfl : (([some 21, none, none, none, none, none, some 0, some 1, some 2, some 3, some 4, some 5, some 6, some 7, some 8, some 9, some 10, some 11, some 12, some 13, some 14, some 15, some 16, some 17, some 18, some 19, some 20] : List (Option Nat))[14]?).join = some 8)).trans e8
    generalize frame _ a0 us = fr at *
    exact val_ok (v := .bool true) (w' := w') (by go_simp) hG (Below.refl _ _) rfl
  · refine step_plain [8, 11] (by kernel_rfl) rfl fun us w' hG hV => ?_
    have e8 : us 8 = .bool true := hV 8 (by simp)
    have v8 := (frame_at2 (us := us) hl (show (_ : Option (Option Nat)).join = some 8 from rfl : (([some 21, none, none, none, none, none, some 0, some 1, some 2, some 3, some 4, some 5, some 6, some 7, some 8, some 9, some 10, some 11, some 12, some 13, some 14, some 15, some 16, some 17, some 18, some 19, some 20] : List (Option Nat))[14]?).join = some 8)).trans e8
    have e11 : us 11 = .bool true := hV 11 (by simp)
    have v11 := (frame_at2 (us := us) hl (show (_ : Option (Option Nat)).join = some 11 from rfl : (([some 21, none, none, none, none, none, some 0, some 1, some 2, some 3, some 4, some 5, some 6, some 7, some 8, some 9, some 10, some 11, some 12, some 13, some 14, some 15, some 16, some 17, some 18, some 19, some 20] : List (Option Nat))[17]?).join = some 11)).trans e11
    generalize frame _ a0 us = fr at *
    exact val_ok (v := .bool true) (w' := w') (by go_simp) hG (Below.refl _ _) rfl
  · refine step_plain [12] (by kernel_rfl) rfl fun us w' hG hV => ?_
    have e12 : us 12 = .bool true := hV 12 (by simp)
    have v12 := (frame_at2 (us := us) hl (show (_ : Option (Option Nat)).join = some 12 from rfl : (([some 21, none, none, none, none, none, some 0, some 1, some 2, some 3, some 4, some 5, some 6, some 7, some 8, some 9, some 10, some 11, some 12, some 13, some 14, some 15, some 16, some 17, some 18, some 19, some 20] : List (Option Nat))[18]?).join = some 12)).trans e12
    generalize frame _ a0 us = fr at *
    exact val_ok (v := .bool true) (w' := w') (by go_simp) hG (Below.refl _ _) rfl
  · refine step_guard [13] (by kernel_rfl) (j := 13) (t := 19) (b := true) rfl (by simp) rfl hl rfl (fun v w h => h) fun us w' hG hV => ?_
    have e13 : us 13 = .bool true := hV 13 (by simp)
    have v13 := (frame_at2 (us := us) hl (show (_ : Option (Option Nat)).join = some 13 from rfl : (([some 21, none, none, none, none, none, some 0, some 1, some 2, some 3, some 4, some 5, some 6, some 7, some 8, some 9, some 10, some 11, some 12, some 13, some 14, some 15, some 16, some 17, some 18, some 19, some 20] : List (Option Nat))[19]?).join = some 13)).trans e13
    generalize frame _ a0 us = fr at *
    exact call_ok (f := 11) (args := #[]) (by go_simp) ((new_any w').mono fun e w'' h => ⟨_, h.1, hG.below h.2, h.2, rfl⟩)
  · refine step_guard [13] (by kernel_rfl) (j := 13) (t := 19) (b := true) rfl (by simp) rfl hl rfl (fun v w h => h) fun us w' hG hV => ?_
    have e13 : us 13 = .bool true := hV 13 (by simp)
    have v13 := (frame_at2 (us := us) hl (show (_ : Option (Option Nat)).join = some 13 from rfl : (([some 21, none, none, none, none, none, some 0, some 1, some 2, some 3, some 4, some 5, some 6, some 7, some 8, some 9, some 10, some 11, some 12, some 13, some 14, some 15, some 16, some 17, some 18, some 19, some 20] : List (Option Nat))[19]?).join = some 13)).trans e13
    generalize frame _ a0 us = fr at *
    exact val_ok (v := .slice (some ⟨w'.heap.size, 0, none⟩) 3 3) (w' := w'.alloc (.cells #[.int .u8 97, .int .u8 98, .int .u8 99] 5)) (by go_simp) (hG.alloc _) (alloc_below _ _) ⟨_, rfl, abcN w'⟩
  · refine step_guard [14, 15, 13] (by kernel_rfl) (j := 13) (t := 19) (b := true) rfl (by simp) rfl hl rfl (fun v w h => h) fun us w' hG hV => ?_
    have e14 : us 14 = .agg (sumL []).toArray := hV 14 (by simp)
    have v14 := (frame_at2 (us := us) hl (show (_ : Option (Option Nat)).join = some 14 from rfl : (([some 21, none, none, none, none, none, some 0, some 1, some 2, some 3, some 4, some 5, some 6, some 7, some 8, some 9, some 10, some 11, some 12, some 13, some 14, some 15, some 16, some 17, some 18, some 19, some 20] : List (Option Nat))[20]?).join = some 14)).trans e14
    obtain ⟨g, e15, hN⟩ : ∃ g, us 15 = .slice (some ⟨g, 0, none⟩) 3 3 ∧ Nums .u8 w' w'.heap.size (some ⟨g, 0, none⟩) 3 [97, 98, 99] := hV 15 (by simp)
    have v15 := (frame_at2 (us := us) hl (show (_ : Option (Option Nat)).join = some 15 from rfl : (([some 21, none, none, none, none, none, some 0, some 1, some 2, some 3, some 4, some 5, some 6, some 7, some 8, some 9, some 10, some 11, some 12, some 13, some 14, some 15, some 16, some 17, some 18, some 19, some 20] : List (Option Nat))[21]?).join = some 15)).trans e15
    have e13 : us 13 = .bool true := hV 13 (by simp)
    have v13 := (frame_at2 (us := us) hl (show (_ : Option (Option Nat)).join = some 13 from rfl : (([some 21, none, none, none, none, none, some 0, some 1, some 2, some 3, some 4, some 5, some 6, some 7, some 8, some 9, some 10, some 11, some 12, some 13, some 14, some 15, some 16, some 17, some 18, some 19, some 20] : List (Option Nat))[19]?).join = some 13)).trans e13
    generalize frame _ a0 us = fr at *
    exact call_ok (f := 12) (args := #[.agg (sumL []).toArray, .slice (some ⟨g, 0, none⟩) 3 3]) (by go_simp) ((AD.out w' _ hN).mono fun e w'' h => ⟨_, h.1, hG.below h.2, h.2, rfl⟩)
  · refine step_guard [16, 13] (by kernel_rfl) (j := 13) (t := 19) (b := true) rfl (by simp) rfl hl rfl (fun v w h => h) fun us w' hG hV => ?_
    have e16 : us 16 = .agg (sumL [97, 98, 99]).toArray := hV 16 (by simp)
    have v16 := (frame_at2 (us := us) hl (show (_ : Option (Option Nat)).join = some 16 from rfl : (([some 21, none, none, none, none, none, some 0, some 1, some 2, some 3, some 4, some 5, some 6, some 7, some 8, some 9, some 10, some 11, some 12, some 13, some 14, some 15, some 16, some 17, some 18, some 19, some 20] : List (Option Nat))[22]?).join = some 16)).trans e16
    have e13 : us 13 = .bool true := hV 13 (by simp)
    have v13 := (frame_at2 (us := us) hl (show (_ : Option (Option Nat)).join = some 13 from rfl : (([some 21, none, none, none, none, none, some 0, some 1, some 2, some 3, some 4, some 5, some 6, some 7, some 8, some 9, some 10, some 11, some 12, some 13, some 14, some 15, some 16, some 17, some 18, some 19, some 20] : List (Option Nat))[19]?).join = some 13)).trans e13
    generalize frame _ a0 us = fr at *
    exact call_ok (f := 13) (args := #[.agg (sumL [97, 98, 99]).toArray]) (by go_simp) ((DG.out w').mono fun e w'' h => ⟨_, h.1, hG.below h.2, h.2, rfl⟩)
  · refine step_guard [13] (by kernel_rfl) (j := 13) (t := 19) (b := true) rfl (by simp) rfl hl rfl (fun v w h => h) fun us w' hG hV => ?_
    have e13 : us 13 = .bool true := hV 13 (by simp)
    have v13 := (frame_at2 (us := us) hl (show (_ : Option (Option Nat)).join = some 13 from rfl : (([some 21, none, none, none, none, none, some 0, some 1, some 2, some 3, some 4, some 5, some 6, some 7, some 8, some 9, some 10, some 11, some 12, some 13, some 14, some 15, some 16, some 17, some 18, some 19, some 20] : List (Option Nat))[19]?).join = some 13)).trans e13
    have v1' := (frame_old2 (us := us) (a := a0) (show (([some 21, none, none, none, none, none, some 0, some 1, some 2, some 3, some 4, some 5, some 6, some 7, some 8, some 9, some 10, some 11, some 12, some 13, some 14, some 15, some 16, some 17, some 18, some 19, some 20] : List (Option Nat))[1]?).join = none from rfl)).trans hk1
    generalize frame _ a0 us = fr at *
    exact load_ok 25 1 rfl k v1' _ X (0, 0) _ hG.1 Try.underlying25 rfl U1.out hG rfl
  · refine step_guard [17, 18, 13] (by kernel_rfl) (j := 13) (t := 19) (b := true) rfl (by simp) rfl hl rfl (fun v w h => h) fun us w' hG hV => ?_
    have e17 : us 17 = .agg X := hV 17 (by simp)
    have v17 := (frame_at2 (us := us) hl (show (_ : Option (Option Nat)).join = some 17 from rfl : (([some 21, none, none, none, none, none, some 0, some 1, some 2, some 3, some 4, some 5, some 6, some 7, some 8, some 9, some 10, some 11, some 12, some 13, some 14, some 15, some 16, some 17, some 18, some 19, some 20] : List (Option Nat))[23]?).join = some 17)).trans e17
    have e18 : us 18 = .agg X := hV 18 (by simp)
    have v18 := (frame_at2 (us := us) hl (show (_ : Option (Option Nat)).join = some 18 from rfl : (([some 21, none, none, none, none, none, some 0, some 1, some 2, some 3, some 4, some 5, some 6, some 7, some 8, some 9, some 10, some 11, some 12, some 13, some 14, some 15, some 16, some 17, some 18, some 19, some 20] : List (Option Nat))[24]?).join = some 18)).trans e18
    have e13 : us 13 = .bool true := hV 13 (by simp)
    have v13 := (frame_at2 (us := us) hl (show (_ : Option (Option Nat)).join = some 13 from rfl : (([some 21, none, none, none, none, none, some 0, some 1, some 2, some 3, some 4, some 5, some 6, some 7, some 8, some 9, some 10, some 11, some 12, some 13, some 14, some 15, some 16, some 17, some 18, some 19, some 20] : List (Option Nat))[19]?).join = some 13)).trans e13
    generalize frame _ a0 us = fr at *
    exact val_ok (v := .bool true) (w' := w') (by go_simp) hG (Below.refl _ _) rfl
  · refine step_plain [13, 19] (by kernel_rfl) rfl fun us w' hG hV => ?_
    have e13 : us 13 = .bool true := hV 13 (by simp)
    have v13 := (frame_at2 (us := us) hl (show (_ : Option (Option Nat)).join = some 13 from rfl : (([some 21, none, none, none, none, none, some 0, some 1, some 2, some 3, some 4, some 5, some 6, some 7, some 8, some 9, some 10, some 11, some 12, some 13, some 14, some 15, some 16, some 17, some 18, some 19, some 20] : List (Option Nat))[19]?).join = some 13)).trans e13
    have e19 : us 19 = .bool true := hV 19 (by simp)
    have v19 := (frame_at2 (us := us) hl (show (_ : Option (Option Nat)).join = some 19 from rfl : (([some 21, none, none, none, none, none, some 0, some 1, some 2, some 3, some 4, some 5, some 6, some 7, some 8, some 9, some 10, some 11, some 12, some 13, some 14, some 15, some 16, some 17, some 18, some 19, some 20] : List (Option Nat))[25]?).join = some 19)).trans e19
    generalize frame _ a0 us = fr at *
    exact val_ok (v := .bool true) (w' := w') (by go_simp) hG (Below.refl _ _) rfl
  · refine step_plain [20] (by kernel_rfl) rfl fun us w' hG hV => ?_
    have e20 : us 20 = .bool true := hV 20 (by simp)
    have v20 := (frame_at2 (us := us) hl (show (_ : Option (Option Nat)).join = some 20 from rfl : (([some 21, none, none, none, none, none, some 0, some 1, some 2, some 3, some 4, some 5, some 6, some 7, some 8, some 9, some 10, some 11, some 12, some 13, some 14, some 15, some 16, some 17, some 18, some 19, some 20] : List (Option Nat))[26]?).join = some 20)).trans e20
    generalize frame _ a0 us = fr at *
    exact val_ok (v := .bool true) (w' := w') (by go_simp) hG (Below.refl _ _) rfl
  · intro us w' hG hV
    have e21 : us 21 = .bool true := hV 21 (by decide)
    subst ha0
    simp only [Act.put, frame, fill]
    go_wp2_with fail
    go_ret
    refine ⟨?_, hG.2⟩
    show Ending.returned (us 21) = _
    rw [e21]
end Go.Proofs.Ythilojkhedcihaa.shaC
