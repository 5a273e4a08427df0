/-
  The document's hmac: Block.
-/
import Derived.Test.YtbpolandhjcggaaHmM
import Derived.Test.YtbpolandhjcggaaPart
import Derived.Test.YtbpolandhjcggaaIdx
namespace Go.Proofs.Ytbpolandhjcggaa.hmC
open Go.ChangeShapes Go.WideShapes Go.ChangeAt Go.RowKit
open Go.Proofs.Ytbpolandhjcggaa.memC Go.Proofs.Ytbpolandhjcggaa.genC Go.Proofs.Ytbpolandhjcggaa.shaM Go.Proofs.Ytbpolandhjcggaa.shaC Go.Proofs.Ytbpolandhjcggaa.butC Go.Proofs.Ytbpolandhjcggaa.hmM
set_option linter.unusedVariables false
theorem b64_info : (Try.prog.info? 31).map (·.size) = some 64 := by kernel_rfl
theorem z64_info : (Try.prog.info? 31).map (·.zero) = some (some (.agg ((nz 64).map (Value.int .u8)).toArray)) := by kernel_rfl
theorem z64 (w : World) : (zeroValue 31).run Try.prog w = .ok (.agg ((nz 64).map (Value.int .u8)).toArray) w := by
  obtain ⟨i, hi, hz⟩ := Option.map_eq_some_iff.1 z64_info
  simp [zeroValue, typeInfo, hi, hz]
theorem z20_info : (Try.prog.info? 25).map (·.zero) = some (some (.agg ((nz 20).map (Value.int .u8)).toArray)) := by kernel_rfl
theorem z20 (w : World) : (zeroValue 25).run Try.prog w = .ok (.agg ((nz 20).map (Value.int .u8)).toArray) w := by
  obtain ⟨i, hi, hz⟩ := Option.map_eq_some_iff.1 z20_info
  simp [zeroValue, typeInfo, hi, hz]
/-- the blocks that a call of Block lays -/
structure KR (w : World) (ks : List Int) (A : Option Addr) (j : Nat) (wr : World) : Prop where
  r0 : Arr .u8 31 wr w.heap.size (nz 64)
  r1 : Arr .u8 31 wr (w.heap.size + 1) (partL ks 64 j)
  src : Nums .u8 wr wr.heap.size A ks.length ks
  off : 0 < ks.length → Off A (w.heap.size + 1)
  bel : Below w.heap.size w wr
theorem KR.step {w wr : World} {ks : List Int} {A : Option Addr} {j : Nat} (h : KR w ks A j wr) (hj : j < ks.length) (hl : ks.length ≤ 64) :
    KR w ks A (j + 1) (wr.setCell ⟨w.heap.size + 1, j, none⟩ (.int .u8 (ks.getD j 0))) := by
  refine ⟨h.r0.other (by show w.heap.size + 1 ≠ w.heap.size; omega) _, ?_, ?_, h.off, h.bel.setCell (p := ⟨w.heap.size + 1, j, none⟩) (by show w.heap.size ≤ w.heap.size + 1; omega) _⟩
  · rw [← part_set hj (by omega)]; exact h.r1.stored j _
  · exact ((But.refl wr).setCell (k := w.heap.size + 1) j _).nums h.src h.off
def BlockRet (w : World) (k : List Int) (e : Ending) (w' : World) : Prop := e = .returned (.agg ((blkL k).map (Value.int .u8)).toArray) ∧ Below w.heap.size w w'
set_option maxRecDepth 100000 in
set_option maxHeartbeats 1000000 in
theorem block5_any (A : Option Addr) (n c : Nat) (k : List Int) (w : World) (hb : Nums .u8 w w.heap.size A n k) (hy : ∀ x ∈ k, Byte x) (hn : n ≤ 20000) :
    Calls Try.prog 14 #[.slice A n c] w (BlockRet w k) := by
  obtain ⟨Z, hZ⟩ : ∃ Z, Z = ((nz 64).map (Value.int .u8)).toArray := ⟨_, rfl⟩
  have hzv := z64
  rw [← hZ] at hzv
  have e1 : (w.alloc (.cells Z 31)).heap.size = w.heap.size + 1 := alloc_size _ _
  obtain ⟨W, hW⟩ : ∃ W, W = (w.alloc (.cells Z 31)).alloc (.cells Z 31) := ⟨_, rfl⟩
  have BW : Below w.heap.size w W := by rw [hW]; exact ((Below.refl _ _).alloc (Nat.le_refl _) _).alloc (by simp) _
  have R0 : Arr .u8 31 W w.heap.size (nz 64) := by rw [hW, hZ]; exact (Arr.new w .u8 31 (nz 64)).alloc _
  have R1 : Arr .u8 31 W (w.heap.size + 1) (nz 64) := by
    rw [hW]
    have := Arr.new (w.alloc (.cells Z 31)) .u8 31 (nz 64)
    rw [e1, ← hZ] at this; exact this
  have SW : w.heap.size + 1 < W.heap.size := R1.lt
  have HL := Lib.hid hb.len
  have HSW := Lib.hid SW
  have HBW := Lib.hid BW
  have HR0 := Lib.hid R0
  have HR1 := Lib.hid R1
  have Z20 := Lib.hid z20
  have HN := Lib.hid hb
  have HY := Lib.hid hy
  have HW := Lib.hid hW
  clear e1 BW R0 R1 SW hZ hb hy hW
  rcases Nat.lt_or_ge 64 n with hlong | hshort
  · have hkey : keyL k = shaL k := by unfold keyL; rw [if_pos (by rw [HL.out]; exact hlong)]
    obtain ⟨Y, hY⟩ : ∃ Y, Y = ((nz 20).map (Value.int .u8)).toArray := ⟨_, rfl⟩
    have hyv := Z20.out
    rw [← hY] at hyv
    obtain ⟨X, hX⟩ : ∃ X, X = ((shaL k).map (Value.int .u8)).toArray := ⟨_, rfl⟩
    have U1 := Lib.hid (show (Try.prog.info? 25).map (·.size) = some X.size by rw [digest_info, hX]; simp [sha_len])
    have YS := Lib.hid (show Y.size = X.size by rw [hY, hX]; simp [nz, sha_len])
    have HO := Lib.hid (show X.all (·.oneCell') = true by rw [hX]; exact nums_one _)
    have OF := Lib.hid ((of_any A n c k W ((HN.out.below HBW.out).more HBW.out.size) HY.out hn).mono fun e w' h => (show e = .returned (.agg X) ∧ Below W.heap.size W w' from ⟨by rw [hX]; exact h.1, h.2⟩))
    have HX := Lib.hid hX
    have hz : (64 : Int) < (n : Int) := by omega
    clear hY hX hlong
    go_enter Try.func14, Try.ntmps14
    go_upto_region 2 with fail
    rw [← HW.out]
    go_upto_region 5 with (first
      | (go_at_call 18; (with_reducible refine OF.out.mono ?_); rintro e w3 ⟨rfl, B3⟩)
      | (refine wpList_store_row rfl 25 (.tmp 4) (.tmp 10) rfl w3.heap.size X rfl rfl _ _ (heap_alloc_new _ _) U1.out YS.out HO.out ?_))
    rw [World.setRow_alloc_new]
    have K0 : KR w (keyL k) (some ⟨w3.heap.size, 0, none⟩) 0 (w3.alloc (.cells X 25)) := by
      have BF : Below w.heap.size w (w3.alloc (.cells X 25)) := (HBW.out.trans (B3.mono HBW.out.size)).alloc (HBW.out.trans (B3.mono HBW.out.size)).size _
      have := B3.size
      have := HSW.out
      rw [hkey]
      refine ⟨(HR0.out.below B3 HR0.out.lt).alloc _, by rw [part_zero]; exact (HR1.out.below B3 HR1.out.lt).alloc _, ?_, fun _ a ha => by obtain rfl := Option.some.inj ha; show w3.heap.size ≠ w.heap.size + 1; omega, BF⟩
      rw [HX.out, sha_len]
      exact (Arr.new w3 .u8 25 (shaL k)).part (sha_len k)
    generalize w3.alloc (.cells X 25) = w4 at *
    obtain ⟨A', hA'⟩ : ∃ A', A' = some (⟨w3.heap.size, 0, none⟩ : Addr) := ⟨_, rfl⟩
    rw [← hA'] at K0 ⊢
    have hkl : (keyL k).length = 20 := by rw [hkey, sha_len]
    have hkb : blkL k = keyL k ++ nz (64 - (keyL k).length) := rfl
    obtain ⟨ks, hks⟩ : ∃ ks, ks = keyL k := ⟨_, rfl⟩
    rw [← hks] at K0 hkl hkb
    clear hkey hks B3 hz hyv hA'
    have HKB := Lib.hid hkb
    have HKL := Lib.hid hkl
    have HK0 := Lib.hid K0
    clear hkb hkl K0
    go_wp2_with fail
    go_loopw [5] (fun i wr => ∃ j : Nat, j ≤ 20 ∧ i = .int .i64 j ∧ KR w ks A' j wr) (fun i _ => 20 - (intOf i).toNat)
    case atStart => exact ⟨0, by omega, rfl, HK0.out⟩
    case round =>
      obtain ⟨j, hj, rfl, KK⟩ := hrel
      have HK := Lib.hid KK
      by_cases hlt : j < 20
      · have hjl : j < ks.length := by rw [HKL.out]; exact hlt
        obtain ⟨b, o, rfl, hbb, hcell⟩ := KK.src.cell hjl
        have cw := KK.r1.cell (j := j) (by rw [part_len (by omega) (by omega)]; omega)
        have fw := KK.r1.frozen j
        have hjz : (j : Int) < 20 := by omega
        have hjz2 : (j : Int) < 64 := by omega
        have HS := Lib.hid (KK.step hjl (by rw [HKL.out]; omega))
        generalize ks.getD j 0 = y at *
        clear KK
        go_wp2_with fail
        go_roundw
        case rel => exact ⟨j + 1, by omega, by go_num, HS.out⟩
        case measure => simp [intOf]; omega
      · have e : j = ks.length := by rw [HKL.out]; omega
        have hF : partL ks 64 j = blkL k := by rw [e, part_all, HKB.out]
        have r1 := KK.r1
        rw [hF] at r1
        have G1 := Lib.hid r1.row
        have G2 := Lib.hid KK.r0.row
        have BQ := Lib.hid KK.bel
        have U5 := Lib.hid (show (Try.prog.info? 31).map (·.size) = some (((blkL k).map (Value.int .u8)).toArray).size by rw [b64_info]; simp [blk_len])
        have L5 := Lib.hid (show (((nz 64).map (Value.int .u8)).toArray).size = (((blkL k).map (Value.int .u8)).toArray).size by simp [nz, blk_len])
        have hjz : ¬ (j : Int) < 20 := by omega
        clear hF r1 e HK KK
        go_wp2_with (first
          | (refine wpList_load_row rfl 31 (.tmp 3) rfl (w.heap.size + 1) rfl _ _ _ _ G1.out Try.underlying31 rfl U5.out ?_)
          | (refine wpList_store_row rfl 31 (.tmp 2) (.tmp 24) rfl w.heap.size _ rfl rfl _ _ G2.out U5.out L5.out (nums_one _) ?_))
        refine bodyPost_ret (v := .agg ((blkL k).map (Value.int .u8)).toArray) (results_cell_row Try.results14 _ _ w.heap.size _ _ _ _ (by rfl) (setRow_heap _ _ _ _ _ _ G2.out) Try.underlying31 rfl U5.out) rfl ⟨rfl, ?_⟩
        exact BQ.out.trans ⟨rfl, rfl, rfl, by simp, fun z hz => setRow_other _ _ _ _ (by omega)⟩
  · have hkey : keyL k = k := by unfold keyL; rw [if_neg (by rw [HL.out]; omega)]
    have hz : ¬ (64 : Int) < (n : Int) := by omega
    go_enter Try.func14, Try.ntmps14
    go_upto_region 2 with fail
    rw [← HW.out]
    go_upto_region 5 with fail
    have K0 : KR w (keyL k) A 0 W := by
      refine ⟨HR0.out, by rw [part_zero]; exact HR1.out, ?_, ?_, HBW.out⟩
      · rw [hkey, HL.out]; exact (HN.out.below HBW.out).more HBW.out.size
      · rw [hkey, HL.out]; exact off_below HN.out (Nat.le_succ _)
    have hkl : (keyL k).length = n := by rw [hkey, HL.out]
    have hkb : blkL k = keyL k ++ nz (64 - (keyL k).length) := rfl
    obtain ⟨ks, hks⟩ : ∃ ks, ks = keyL k := ⟨_, rfl⟩
    rw [← hks] at K0 hkl hkb
    have HN2 := HN
    clear hkey hks hz HN HN2 Z20
    have HKB := Lib.hid hkb
    have HKL := Lib.hid hkl
    have HK0 := Lib.hid K0
    clear hkb hkl K0
    go_wp2_with fail
    go_loopw [5] (fun i wr => ∃ j : Nat, j ≤ n ∧ i = .int .i64 j ∧ KR w ks A j wr) (fun i _ => n - (intOf i).toNat)
    case atStart => exact ⟨0, by omega, rfl, HK0.out⟩
    case round =>
      obtain ⟨j, hj, rfl, KK⟩ := hrel
      have HK := Lib.hid KK
      by_cases hlt : j < n
      · have hjl : j < ks.length := by rw [HKL.out]; exact hlt
        obtain ⟨b, o, rfl, hbb, hcell⟩ := KK.src.cell hjl
        have cw := KK.r1.cell (j := j) (by rw [part_len (by omega) (by omega)]; omega)
        have fw := KK.r1.frozen j
        have hjz : (j : Int) < (n : Int) := by omega
        have hjz2 : (j : Int) < 64 := by omega
        have HS := Lib.hid (KK.step hjl (by rw [HKL.out]; omega))
        generalize ks.getD j 0 = y at *
        clear KK
        go_wp2_with fail
        go_roundw
        case rel => exact ⟨j + 1, by omega, by go_num, HS.out⟩
        case measure => simp [intOf]; omega
      · have e : j = ks.length := by rw [HKL.out]; omega
        have hF : partL ks 64 j = blkL k := by rw [e, part_all, HKB.out]
        have r1 := KK.r1
        rw [hF] at r1
        have G1 := Lib.hid r1.row
        have G2 := Lib.hid KK.r0.row
        have BQ := Lib.hid KK.bel
        have U5 := Lib.hid (show (Try.prog.info? 31).map (·.size) = some (((blkL k).map (Value.int .u8)).toArray).size by rw [b64_info]; simp [blk_len])
        have L5 := Lib.hid (show (((nz 64).map (Value.int .u8)).toArray).size = (((blkL k).map (Value.int .u8)).toArray).size by simp [nz, blk_len])
        have hjz : ¬ (j : Int) < (n : Int) := by omega
        clear hF r1 e HK KK
        go_wp2_with (first
          | (refine wpList_load_row rfl 31 (.tmp 3) rfl (w.heap.size + 1) rfl _ _ _ _ G1.out Try.underlying31 rfl U5.out ?_)
          | (refine wpList_store_row rfl 31 (.tmp 2) (.tmp 24) rfl w.heap.size _ rfl rfl _ _ G2.out U5.out L5.out (nums_one _) ?_))
        refine bodyPost_ret (v := .agg ((blkL k).map (Value.int .u8)).toArray) (results_cell_row Try.results14 _ _ w.heap.size _ _ _ _ (by rfl) (setRow_heap _ _ _ _ _ _ G2.out) Try.underlying31 rfl U5.out) rfl ⟨rfl, ?_⟩
        exact BQ.out.trans ⟨rfl, rfl, rfl, by simp, fun z hz => setRow_other _ _ _ _ (by omega)⟩
end Go.Proofs.Ytbpolandhjcggaa.hmC
