/-
  What alive and long do; '==' of arrays that are the same.
-/
import Derived.Test.YtbpolandhjcggaaHmH
import Derived.Test.YtbpolandhjcggaaEq
import Derived.Lib.SlBytesConst
import Derived.Deep.OwnRows
namespace Go.Proofs.Ytbpolandhjcggaa.hmC
open Go.ChangeShapes Go.WideShapes Go.ChangeAt Go.RowKit
open Go.Proofs.Ytbpolandhjcggaa.memC Go.Proofs.Ytbpolandhjcggaa.genC Go.Proofs.Ytbpolandhjcggaa.shaM Go.Proofs.Ytbpolandhjcggaa.shaC Go.Proofs.Ytbpolandhjcggaa.shaN Go.Proofs.Ytbpolandhjcggaa.butC Go.Proofs.Ytbpolandhjcggaa.hmM Go.Proofs.Ytbpolandhjcggaa.freeC Go.Proofs.Ytbpolandhjcggaa.partsC
set_option linter.unusedVariables false
/-- an array of bytes as a value -/
def vecA (xs : List Int) : Array Value := (xs.map (Value.int .u8)).toArray
theorem vec_at {xs : List Int} {n j : Nat} (h : xs.length = n) (hj : j < n) : ∃ z, (vecA xs)[j]? = some (.int .u8 z) := ⟨xs.getD j 0, by unfold vecA; simp [List.getD_eq_getElem?_getD, h, hj]⟩
theorem eq20 {xs : List Int} (h : xs.length = 20) (w : World) : (Op.equalIn 10000 25 (.agg (vecA xs)) (.agg (vecA xs))).run Try.prog w = .ok true w := by
  obtain ⟨i0, hi0, hz0, hz1, hz2⟩ := info_parts byte_info
  exact Go.Proofs.Ytbpolandhjcggaa.eqC.run_same w _ _ 20 .u8 i0 _ Try.underlying25 rfl hi0 (by kernel_rfl) fun j hj => vec_at h hj
theorem eq12 {xs : List Int} (h : xs.length = 12) (w : World) : (Op.equalIn 10000 28 (.agg (vecA xs)) (.agg (vecA xs))).run Try.prog w = .ok true w := by
  obtain ⟨i0, hi0, hz0, hz1, hz2⟩ := info_parts byte_info
  exact Go.Proofs.Ytbpolandhjcggaa.eqC.run_same w _ _ 12 .u8 i0 _ Try.underlying28 rfl hi0 (by kernel_rfl) fun j hj => vec_at h hj
theorem eq64 {xs : List Int} (h : xs.length = 64) (w : World) : (Op.equalIn 10000 31 (.agg (vecA xs)) (.agg (vecA xs))).run Try.prog w = .ok true w := by
  obtain ⟨i0, hi0, hz0, hz1, hz2⟩ := info_parts byte_info
  exact Go.Proofs.Ytbpolandhjcggaa.eqC.run_same w _ _ 64 .u8 i0 _ Try.underlying31 rfl hi0 (by kernel_rfl) fun j hj => vec_at h hj
theorem guard20 : Try.prog.eqGuardType Try.prog.depth 25 = false := by kernel_rfl
theorem guard12 : Try.prog.eqGuardType Try.prog.depth 28 = false := by kernel_rfl
theorem guard64 : Try.prog.eqGuardType Try.prog.depth 31 = false := by kernel_rfl
theorem long_any (A : Option Addr) (n c : Nat) (w : World) (hn : n ≤ 9223372036854775807) :
    Calls Try.prog 7 #[.slice A n c] w fun e w' => e = .returned (.bool (decide (1000 < n))) ∧ w = w' := by
  go_enter Try.func7, Try.ntmps7
  go_wp2
  go_ret
  exact ⟨ret_bool (by rw [decide_eq_decide]; omega), rfl⟩
def AliveRet (w : World) (e : Ending) (w' : World) : Prop := e = .returned (.bool true) ∧ Below w.heap.size w w'
def keyB : List Int := List.replicate 20 11
theorem key_len20 : keyB.length = 20 := rfl
theorem made20 : madeCells #[Value.int .u8 0] 20 = ((nz 20).map (Value.int .u8)).toArray := by kernel_rfl
theorem keyB_byte : ∀ x ∈ keyB, Byte x := fun x hx => by rw [List.eq_of_mem_replicate hx]; unfold Byte; omega
theorem mark_nums (w : World) (xs : List Int) (T : TypeId) (fr : Nat × Nat) {n : Nat} (h : xs.length = n) : Nums .u8 (w.alloc (.cells (vecA xs) T fr)) (w.alloc (.cells (vecA xs) T fr)).heap.size (some ⟨w.heap.size, 0, none⟩) n xs := by
  subst h
  refine ⟨rfl, fun _ => ⟨_, 0, rfl, by rw [alloc_size]; exact Nat.lt_succ_self _, fun i hi => ?_⟩⟩
  rw [cell_of_row _ w.heap.size (0 + i) _ _ fr (heap_alloc_new w _)]
  unfold vecA
  simp [List.getD_eq_getElem?_getD, hi]
set_option maxRecDepth 100000 in
set_option maxHeartbeats 1000000 in
theorem alive_any (w : World) : Calls Try.prog 8 #[] w (AliveRet w) := by
  obtain ⟨M, hM⟩ : ∃ M, M = ((nz 20).map (Value.int .u8)).toArray := ⟨_, rfl⟩
  have hmk : ∀ w, (Instr.makeSlice 22 (.int .i64 20) (.int .i64 20)).run Try.prog w = .ok (.slice (some ⟨w.heap.size, 0, none⟩) 20 20) (w.alloc (.cells M 5)) := fun w => by
    rw [hM, ← made20]
    exact run_make_row' (P := Try.prog) 22 5 (.int .u8 0) 1 Try.underlying22 byte_info rfl .i64 .i64 20 (by decide) (by decide) w
  have K0 : Arr .u8 5 (w.alloc (.cells M 5)) w.heap.size (partL keyB 20 0) := by rw [part_zero, hM]; exact Arr.new w .u8 5 (nz 20)
  have B0 := alloc_below w (.cells M 5)
  have HK0 := Lib.hid K0
  have HB0 := Lib.hid B0
  clear K0 B0 hM
  go_enter Try.func8, Try.ntmps8
  go_wp2_with fail
  go_loopw [7] (fun i wr => ∃ j : Nat, j ≤ 20 ∧ i = .int .i64 j ∧ Arr .u8 5 wr w.heap.size (partL keyB 20 j) ∧ Below w.heap.size w wr) (fun i _ => 20 - (intOf i).toNat)
  case atStart => exact ⟨0, by omega, rfl, HK0.out, HB0.out⟩
  case round =>
    obtain ⟨j, hj, rfl, KK, BB⟩ := hrel
    by_cases hlt : j < 20
    · have cw := KK.cell (j := j) (by rw [part_len (by rw [key_len20]; omega) (by omega)]; exact hlt)
      have fw := KK.frozen j
      have hjz : (j : Int) < 20 := by omega
      have hst := KK.stored j 11
      have e11 : keyB.getD j 0 = 11 := by unfold keyB; rw [List.getD_eq_getElem?_getD, List.getElem?_replicate, if_pos hlt]; rfl
      have hps := part_set (xs := keyB) (n := 20) (j := j) (by rw [key_len20]; exact hlt) hlt
      rw [e11] at hps
      rw [hps] at hst
      have HS := Lib.hid hst
      have HB := Lib.hid (BB.setCell (p := ⟨w.heap.size, j, none⟩) (Nat.le_refl _) (.int .u8 11))
      generalize (partL keyB 20 j).getD j 0 = x at *
      clear KK BB hst hps e11
      go_wp2_with fail
      go_roundw
      case rel => exact ⟨j + 1, by omega, by go_num, HS.out, HB.out⟩
      case measure => simp [intOf]; omega
    · have e : j = 20 := by omega
      subst e
      have hF : partL keyB 20 20 = keyB := by decide
      rw [hF] at KK
      have HKK := Lib.hid KK
      have HBB := Lib.hid BB
      clear hF KK BB hlt hj
      go_upto_region 7 with fail
      obtain ⟨W1, hW1⟩ : ∃ W1, W1 = wr.alloc (.cells (vecA [72, 105, 32]) 5 (3, 4)) := ⟨_, rfl⟩
      obtain ⟨W2, hW2⟩ : ∃ W2, W2 = W1.alloc (.cells (vecA [84, 104, 101, 114, 101]) 5 (5, 6)) := ⟨_, rfl⟩
      have hcv1 : (convert 22 22 (.slice (some ⟨wr.heap.size, 0, none⟩) 3 3)).run Try.prog (wr.alloc (.cells #[.int .u8 72, .int .u8 105, .int .u8 32] 5)) = .ok (.slice (some ⟨wr.heap.size, 0, none⟩) 3 3) W1 := by
        rw [hW1]
        exact Lib.run_convert_bytes_const wr 22 5 #[.int .u8 72, .int .u8 105, .int .u8 32] 3 3 Try.underlying22 Try.underlying5
      have hcv2 : (convert 22 22 (.slice (some ⟨W1.heap.size, 0, none⟩) 5 5)).run Try.prog (W1.alloc (.cells #[.int .u8 84, .int .u8 104, .int .u8 101, .int .u8 114, .int .u8 101] 5)) = .ok (.slice (some ⟨W1.heap.size, 0, none⟩) 5 5) W2 := by
        rw [hW2]
        exact Lib.run_convert_bytes_const W1 22 5 #[.int .u8 84, .int .u8 104, .int .u8 101, .int .u8 114, .int .u8 101] 5 5 Try.underlying22 Try.underlying5
      have b1 : Below wr.heap.size wr W1 := by rw [hW1]; exact alloc_below _ _
      have b2 : Below W1.heap.size W1 W2 := by rw [hW2]; exact alloc_below _ _
      have N1 : PartAt W2 W2.heap.size ⟨some ⟨wr.heap.size, 0, none⟩, 3, 3, [72, 105, 32]⟩ := by
        refine ⟨?_, (show 3 ≤ 10000 by decide), by unfold Byte; simp, Nat.le_refl _, (show 3 ≤ 9223372036854775807 by decide)⟩
        have h := mark_nums wr [72, 105, 32] 5 (3, 4) (n := 3) rfl
        rw [← hW1] at h
        exact (h.below b2).more b2.size
      have N2 : PartAt W2 W2.heap.size ⟨some ⟨W1.heap.size, 0, none⟩, 5, 5, [84, 104, 101, 114, 101]⟩ := by
        refine ⟨?_, (show 5 ≤ 10000 by decide), by unfold Byte; simp, Nat.le_refl _, (show 5 ≤ 9223372036854775807 by decide)⟩
        have h := mark_nums W1 [84, 104, 101, 114, 101] 5 (5, 6) (n := 5) rfl
        rw [← hW2] at h
        exact h
      have b12 : Below wr.heap.size wr W2 := b1.trans (b2.mono b1.size)
      obtain ⟨X, hX⟩ : ∃ X, X = vecA (macL keyB ([72, 105, 32] ++ [84, 104, 101, 114, 101])) := ⟨_, rfl⟩
      have OF := Lib.hid ((cof_any (some ⟨w.heap.size, 0, none⟩) 20 20 keyB (some ⟨W2.heap.size, 0, none⟩) 2 2 [⟨some ⟨wr.heap.size, 0, none⟩, 3, 3, [72, 105, 32]⟩, ⟨some ⟨W1.heap.size, 0, none⟩, 5, 5, [84, 104, 101, 114, 101]⟩]
        (W2.alloc (.cells #[.slice (some ⟨wr.heap.size, 0, none⟩) 3 3, .slice (some ⟨W1.heap.size, 0, none⟩) 5 5] 22))
        ((((HKK.out.part key_len20).below b12).more b12.size).below (alloc_below W2 _) |>.more (alloc_below W2 _).size) keyB_byte (by decide) (by decide) (by decide) (parts2 N1 N2 22) rfl (by decide)).mono fun e w' h => (show e = .returned (.agg X) ∧ Below wr.heap.size wr w' from
          ⟨by rw [hX]; have := h.1; rw [cat2] at this; exact this, (b12.alloc b12.size _).trans (h.2.mono (b12.alloc b12.size _).size)⟩))
      have x0 : X[0]? = some (.int .u8 182) := by rw [hX]; show (vecA (macL (List.replicate 20 11) [72, 105, 32, 84, 104, 101, 114, 101]))[0]? = _; rw [known_mac]; rfl
      have x1 : X[1]? = some (.int .u8 23) := by rw [hX]; show (vecA (macL (List.replicate 20 11) [72, 105, 32, 84, 104, 101, 114, 101]))[1]? = _; rw [known_mac]; rfl
      have x18 : X[18]? = some (.int .u8 190) := by rw [hX]; show (vecA (macL (List.replicate 20 11) [72, 105, 32, 84, 104, 101, 114, 101]))[18]? = _; rw [known_mac]; rfl
      have x19 : X[19]? = some (.int .u8 0) := by rw [hX]; show (vecA (macL (List.replicate 20 11) [72, 105, 32, 84, 104, 101, 114, 101]))[19]? = _; rw [known_mac]; rfl
      obtain ⟨Z, hZ⟩ : ∃ Z, Z = ((nz 20).map (Value.int .u8)).toArray := ⟨_, rfl⟩
      have hzv := z20
      rw [← hZ] at hzv
      have UX := Lib.hid (show (Try.prog.info? 25).map (·.size) = some X.size by rw [digest_info, hX]; simp [vecA, mac_len])
      have ZX := Lib.hid (show Z.size = X.size by rw [hZ, hX]; simp [nz, vecA, mac_len])
      have OX := Lib.hid (show X.all (·.oneCell') = true by rw [hX]; exact nums_one _)
      clear hX hZ N1 N2 b1 b2 b12 hW1 hW2
      go_upto_region 8 with (first
        | (go_at_call 9; (with_reducible refine OF.out.mono ?_); rintro e w1 ⟨rfl, B1⟩)
        | (refine wpList_store_row rfl 25 (.tmp 3) (.tmp 20) rfl w1.heap.size X rfl rfl _ _ (heap_alloc_new _ _) UX.out ZX.out OX.out ?_))
      rw [World.setRow_alloc_new]
      have hr : (w1.alloc (.cells X 25)).heap[w1.heap.size]? = some (.cells X 25 (0, 0)) := heap_alloc_new _ _
      have BF : Below w.heap.size w (w1.alloc (.cells X 25)) := (HBB.out.trans (B1.mono HBB.out.size)).alloc (HBB.out.trans (B1.mono HBB.out.size)).size _
      generalize w1.alloc (.cells X 25) = w2 at *
      generalize w1.heap.size = g at *
      have c0 : w2.cell? ⟨g, 0, none⟩ = some (.int .u8 182) := by rw [cell_of_row w2 g 0 X _ (0, 0) hr, x0]
      have c1 : w2.cell? ⟨g, 1, none⟩ = some (.int .u8 23) := by rw [cell_of_row w2 g 1 X _ (0, 0) hr, x1]
      have c18 : w2.cell? ⟨g, 18, none⟩ = some (.int .u8 190) := by rw [cell_of_row w2 g 18 X _ (0, 0) hr, x18]
      have c19 : w2.cell? ⟨g, 19, none⟩ = some (.int .u8 0) := by rw [cell_of_row w2 g 19 X _ (0, 0) hr, x19]
      have HBF := Lib.hid BF
      clear hr BF x0 x1 x18 x19 hcv1 hcv2 hzv hmk OF UX ZX OX B1
      go_wp2_with fail
      go_ret
      exact ⟨rfl, HBF.out⟩
end Go.Proofs.Ytbpolandhjcggaa.hmC
