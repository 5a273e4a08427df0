/-
  7 texts of a proof, joined.
-/
import Derived.Test.YthbgjjfhgbkbdaaMg4
import Derived.Test.YthbgjjfhgbkbdaaMg5
import Derived.Test.YthbgjjfhgbkbdaaMg3

/-
  The document's hmac: Block.
-/
namespace Go.Proofs.Ythbgjjfhgbkbdaa.hmC
open Go.ChangeShapes Go.WideShapes Go.ChangeAt Go.RowKit
open Go.Proofs.Ythbgjjfhgbkbdaa.memC Go.Proofs.Ythbgjjfhgbkbdaa.genC Go.Proofs.Ythbgjjfhgbkbdaa.shaM Go.Proofs.Ythbgjjfhgbkbdaa.shaC Go.Proofs.Ythbgjjfhgbkbdaa.butC Go.Proofs.Ythbgjjfhgbkbdaa.hmM
set_option linter.unusedVariables false
theorem b64_info : (Try.prog.info? 69).map (·.size) = some 64 := by kernel_rfl
theorem z64_info : (Try.prog.info? 69).map (·.zero) = some (some (.agg ((nz 64).map (Value.int .u8)).toArray)) := by kernel_rfl
theorem z64 (w : World) : (zeroValue 69).run Try.prog w = .ok (.agg ((nz 64).map (Value.int .u8)).toArray) w := by
  obtain ⟨i, hi, hz⟩ := Option.map_eq_some_iff.1 z64_info
  simp [zeroValue, typeInfo, hi, hz]
theorem z20_info : (Try.prog.info? 54).map (·.zero) = some (some (.agg ((nz 20).map (Value.int .u8)).toArray)) := by kernel_rfl
theorem z20 (w : World) : (zeroValue 54).run Try.prog w = .ok (.agg ((nz 20).map (Value.int .u8)).toArray) w := by
  obtain ⟨i, hi, hz⟩ := Option.map_eq_some_iff.1 z20_info
  simp [zeroValue, typeInfo, hi, hz]
/-- the blocks that a call of Block lays -/
structure KR (w : World) (ks : List Int) (A : Option Addr) (j : Nat) (wr : World) : Prop where
  r0 : Arr .u8 69 wr w.heap.size (nz 64)
  r1 : Arr .u8 69 wr (w.heap.size + 1) (partL ks 64 j)
  src : Nums .u8 wr wr.heap.size A ks.length ks
  off : 0 < ks.length → Off A (w.heap.size + 1)
  bel : Below w.heap.size w wr
theorem KR.step {w wr : World} {ks : List Int} {A : Option Addr} {j : Nat} (h : KR w ks A j wr) (hj : j < ks.length) (hl : ks.length ≤ 64) :
    KR w ks A (j + 1) (wr.setCell ⟨w.heap.size + 1, j, none⟩ (.int .u8 (ks.getD j 0))) := by
  refine ⟨h.r0.other (by show w.heap.size + 1 ≠ w.heap.size; omega) _, ?_, ?_, h.off, h.bel.setCell (p := ⟨w.heap.size + 1, j, none⟩) (by show w.heap.size ≤ w.heap.size + 1; omega) _⟩
  · rw [← part_set hj (by omega)]; exact h.r1.stored j _
  · exact ((But.refl wr).setCell (k := w.heap.size + 1) j _).nums h.src h.off
def BlockRet (w : World) (k : List Int) (e : Ending) (w' : World) : Prop := e = .returned (.agg ((blkL k).map (Value.int .u8)).toArray) ∧ Below w.heap.size w w'
set_option maxRecDepth 100000 in
set_option maxHeartbeats 1000000 in
theorem block5_any (A : Option Addr) (n c : Nat) (k : List Int) (w : World) (hb : Nums .u8 w w.heap.size A n k) (hy : ∀ x ∈ k, Byte x) (hn : n ≤ 20000) :
    Calls Try.prog 57 #[.slice A n c] w (BlockRet w k) := by
  obtain ⟨Z, hZ⟩ : ∃ Z, Z = ((nz 64).map (Value.int .u8)).toArray := ⟨_, rfl⟩
  have hzv := z64
  rw [← hZ] at hzv
  have e1 : (w.alloc (.cells Z 69)).heap.size = w.heap.size + 1 := alloc_size _ _
  obtain ⟨W, hW⟩ : ∃ W, W = (w.alloc (.cells Z 69)).alloc (.cells Z 69) := ⟨_, rfl⟩
  have BW : Below w.heap.size w W := by rw [hW]; exact ((Below.refl _ _).alloc (Nat.le_refl _) _).alloc (by simp) _
  have R0 : Arr .u8 69 W w.heap.size (nz 64) := by rw [hW, hZ]; exact (Arr.new w .u8 69 (nz 64)).alloc _
  have R1 : Arr .u8 69 W (w.heap.size + 1) (nz 64) := by
    rw [hW]
    have := Arr.new (w.alloc (.cells Z 69)) .u8 69 (nz 64)
    rw [e1, ← hZ] at this; exact this
  have SW : w.heap.size + 1 < W.heap.size := R1.lt
  have HL := Lib.hid hb.len
  have HSW := Lib.hid SW
  have HBW := Lib.hid BW
  have HR0 := Lib.hid R0
  have HR1 := Lib.hid R1
  have Z20 := Lib.hid z20
  have HN := Lib.hid hb
  have HY := Lib.hid hy
  have HW := Lib.hid hW
  clear e1 BW R0 R1 SW hZ hb hy hW
  rcases Nat.lt_or_ge 64 n with hlong | hshort
  · have hkey : keyL k = shaL k := by unfold keyL; rw [if_pos (by rw [HL.out]; exact hlong)]
    obtain ⟨Y, hY⟩ : ∃ Y, Y = ((nz 20).map (Value.int .u8)).toArray := ⟨_, rfl⟩
    have hyv := Z20.out
    rw [← hY] at hyv
    obtain ⟨X, hX⟩ : ∃ X, X = ((shaL k).map (Value.int .u8)).toArray := ⟨_, rfl⟩
    have U1 := Lib.hid (show (Try.prog.info? 54).map (·.size) = some X.size by rw [digest_info, hX]; simp [sha_len])
    have YS := Lib.hid (show Y.size = X.size by rw [hY, hX]; simp [nz, sha_len])
    have HO := Lib.hid (show X.all (·.oneCell') = true by rw [hX]; exact nums_one _)
    have OF := Lib.hid ((of_any A n c k W ((HN.out.below HBW.out).more HBW.out.size) HY.out hn).mono fun e w' h => (show e = .returned (.agg X) ∧ Below W.heap.size W w' from ⟨by rw [hX]; exact h.1, h.2⟩))
    have HX := Lib.hid hX
    have hz : (64 : Int) < (n : Int) := by omega
    clear hY hX hlong
    go_enter Try.func57, Try.ntmps57
    go_upto_region 2 with fail
    rw [← HW.out]
    go_upto_region 5 with (first
      | (go_at_call 44; (with_reducible refine OF.out.mono ?_); rintro e w3 ⟨rfl, B3⟩)
      | (refine wpList_store_row rfl 54 (.tmp 4) (.tmp 10) rfl w3.heap.size X rfl rfl _ _ (heap_alloc_new _ _) U1.out YS.out HO.out ?_))
    rw [World.setRow_alloc_new]
    have K0 : KR w (keyL k) (some ⟨w3.heap.size, 0, none⟩) 0 (w3.alloc (.cells X 54)) := by
      have BF : Below w.heap.size w (w3.alloc (.cells X 54)) := (HBW.out.trans (B3.mono HBW.out.size)).alloc (HBW.out.trans (B3.mono HBW.out.size)).size _
      have := B3.size
      have := HSW.out
      rw [hkey]
      refine ⟨(HR0.out.below B3 HR0.out.lt).alloc _, by rw [part_zero]; exact (HR1.out.below B3 HR1.out.lt).alloc _, ?_, fun _ a ha => by obtain rfl := Option.some.inj ha; show w3.heap.size ≠ w.heap.size + 1; omega, BF⟩
      rw [HX.out, sha_len]
      exact (Arr.new w3 .u8 54 (shaL k)).part (sha_len k)
    generalize w3.alloc (.cells X 54) = w4 at *
    obtain ⟨A', hA'⟩ : ∃ A', A' = some (⟨w3.heap.size, 0, none⟩ : Addr) := ⟨_, rfl⟩
    rw [← hA'] at K0 ⊢
    have hkl : (keyL k).length = 20 := by rw [hkey, sha_len]
    have hkb : blkL k = keyL k ++ nz (64 - (keyL k).length) := rfl
    obtain ⟨ks, hks⟩ : ∃ ks, ks = keyL k := ⟨_, rfl⟩
    rw [← hks] at K0 hkl hkb
    clear hkey hks B3 hz hyv hA'
    have HKB := Lib.hid hkb
    have HKL := Lib.hid hkl
    have HK0 := Lib.hid K0
    clear hkb hkl K0
    go_wp2_with fail
    go_loopw [5] (fun i wr => ∃ j : Nat, j ≤ 20 ∧ i = .int .i64 j ∧ KR w ks A' j wr) (fun i _ => 20 - (intOf i).toNat)
    case atStart => exact ⟨0, by omega, rfl, HK0.out⟩
    case round =>
      obtain ⟨j, hj, rfl, KK⟩ := hrel
      have HK := Lib.hid KK
      by_cases hlt : j < 20
      · have hjl : j < ks.length := by rw [HKL.out]; exact hlt
        obtain ⟨b, o, rfl, hbb, hcell⟩ := KK.src.cell hjl
        have cw := KK.r1.cell (j := j) (by rw [part_len (by omega) (by omega)]; omega)
        have fw := KK.r1.frozen j
        have hjz : (j : Int) < 20 := by omega
        have hjz2 : (j : Int) < 64 := by omega
        have HS := Lib.hid (KK.step hjl (by rw [HKL.out]; omega))
        generalize ks.getD j 0 = y at *
        clear KK
        go_wp2_with fail
        go_roundw
        case rel => exact ⟨j + 1, by omega, by go_num, HS.out⟩
        case measure => simp [intOf]; omega
      · have e : j = ks.length := by rw [HKL.out]; omega
        have hF : partL ks 64 j = blkL k := by rw [e, part_all, HKB.out]
        have r1 := KK.r1
        rw [hF] at r1
        have G1 := Lib.hid r1.row
        have G2 := Lib.hid KK.r0.row
        have BQ := Lib.hid KK.bel
        have U5 := Lib.hid (show (Try.prog.info? 69).map (·.size) = some (((blkL k).map (Value.int .u8)).toArray).size by rw [b64_info]; simp [blk_len])
        have L5 := Lib.hid (show (((nz 64).map (Value.int .u8)).toArray).size = (((blkL k).map (Value.int .u8)).toArray).size by simp [nz, blk_len])
        have hjz : ¬ (j : Int) < 20 := by omega
        clear hF r1 e HK KK
        go_wp2_with (first
          | (refine wpList_load_row rfl 69 (.tmp 3) rfl (w.heap.size + 1) rfl _ _ _ _ G1.out Try.underlying69 rfl U5.out ?_)
          | (refine wpList_store_row rfl 69 (.tmp 2) (.tmp 24) rfl w.heap.size _ rfl rfl _ _ G2.out U5.out L5.out (nums_one _) ?_))
        refine bodyPost_ret (v := .agg ((blkL k).map (Value.int .u8)).toArray) (results_cell_row Try.results57 _ _ w.heap.size _ _ _ _ (by rfl) (setRow_heap _ _ _ _ _ _ G2.out) Try.underlying69 rfl U5.out) rfl ⟨rfl, ?_⟩
        exact BQ.out.trans ⟨rfl, rfl, rfl, by simp, fun z hz => setRow_other _ _ _ _ (by omega)⟩
  · have hkey : keyL k = k := by unfold keyL; rw [if_neg (by rw [HL.out]; omega)]
    have hz : ¬ (64 : Int) < (n : Int) := by omega
    go_enter Try.func57, Try.ntmps57
    go_upto_region 2 with fail
    rw [← HW.out]
    go_upto_region 5 with fail
    have K0 : KR w (keyL k) A 0 W := by
      refine ⟨HR0.out, by rw [part_zero]; exact HR1.out, ?_, ?_, HBW.out⟩
      · rw [hkey, HL.out]; exact (HN.out.below HBW.out).more HBW.out.size
      · rw [hkey, HL.out]; exact off_below HN.out (Nat.le_succ _)
    have hkl : (keyL k).length = n := by rw [hkey, HL.out]
    have hkb : blkL k = keyL k ++ nz (64 - (keyL k).length) := rfl
    obtain ⟨ks, hks⟩ : ∃ ks, ks = keyL k := ⟨_, rfl⟩
    rw [← hks] at K0 hkl hkb
    have HN2 := HN
    clear hkey hks hz HN HN2 Z20
    have HKB := Lib.hid hkb
    have HKL := Lib.hid hkl
    have HK0 := Lib.hid K0
    clear hkb hkl K0
    go_wp2_with fail
    go_loopw [5] (fun i wr => ∃ j : Nat, j ≤ n ∧ i = .int .i64 j ∧ KR w ks A j wr) (fun i _ => n - (intOf i).toNat)
    case atStart => exact ⟨0, by omega, rfl, HK0.out⟩
    case round =>
      obtain ⟨j, hj, rfl, KK⟩ := hrel
      have HK := Lib.hid KK
      by_cases hlt : j < n
      · have hjl : j < ks.length := by rw [HKL.out]; exact hlt
        obtain ⟨b, o, rfl, hbb, hcell⟩ := KK.src.cell hjl
        have cw := KK.r1.cell (j := j) (by rw [part_len (by omega) (by omega)]; omega)
        have fw := KK.r1.frozen j
        have hjz : (j : Int) < (n : Int) := by omega
        have hjz2 : (j : Int) < 64 := by omega
        have HS := Lib.hid (KK.step hjl (by rw [HKL.out]; omega))
        generalize ks.getD j 0 = y at *
        clear KK
        go_wp2_with fail
        go_roundw
        case rel => exact ⟨j + 1, by omega, by go_num, HS.out⟩
        case measure => simp [intOf]; omega
      · have e : j = ks.length := by rw [HKL.out]; omega
        have hF : partL ks 64 j = blkL k := by rw [e, part_all, HKB.out]
        have r1 := KK.r1
        rw [hF] at r1
        have G1 := Lib.hid r1.row
        have G2 := Lib.hid KK.r0.row
        have BQ := Lib.hid KK.bel
        have U5 := Lib.hid (show (Try.prog.info? 69).map (·.size) = some (((blkL k).map (Value.int .u8)).toArray).size by rw [b64_info]; simp [blk_len])
        have L5 := Lib.hid (show (((nz 64).map (Value.int .u8)).toArray).size = (((blkL k).map (Value.int .u8)).toArray).size by simp [nz, blk_len])
        have hjz : ¬ (j : Int) < (n : Int) := by omega
        clear hF r1 e HK KK
        go_wp2_with (first
          | (refine wpList_load_row rfl 69 (.tmp 3) rfl (w.heap.size + 1) rfl _ _ _ _ G1.out Try.underlying69 rfl U5.out ?_)
          | (refine wpList_store_row rfl 69 (.tmp 2) (.tmp 24) rfl w.heap.size _ rfl rfl _ _ G2.out U5.out L5.out (nums_one _) ?_))
        refine bodyPost_ret (v := .agg ((blkL k).map (Value.int .u8)).toArray) (results_cell_row Try.results57 _ _ w.heap.size _ _ _ _ (by rfl) (setRow_heap _ _ _ _ _ _ G2.out) Try.underlying69 rfl U5.out) rfl ⟨rfl, ?_⟩
        exact BQ.out.trans ⟨rfl, rfl, rfl, by simp, fun z hz => setRow_other _ _ _ _ (by omega)⟩
end Go.Proofs.Ythbgjjfhgbkbdaa.hmC

/-
  The document's hmac: turned.
-/
namespace Go.Proofs.Ythbgjjfhgbkbdaa.hmC
open Go.ChangeShapes Go.WideShapes Go.ChangeAt Go.RowKit
open Go.Proofs.Ythbgjjfhgbkbdaa.memC Go.Proofs.Ythbgjjfhgbkbdaa.genC Go.Proofs.Ythbgjjfhgbkbdaa.shaM Go.Proofs.Ythbgjjfhgbkbdaa.shaC Go.Proofs.Ythbgjjfhgbkbdaa.butC Go.Proofs.Ythbgjjfhgbkbdaa.hmM
set_option linter.unusedVariables false
/-- a slice that is the call's own -/
def OwnR (w : World) (T : List Int) (n : Nat) (e : Ending) (w' : World) : Prop :=
  ∃ A c, e = .returned (.slice A n c) ∧ n ≤ c ∧ c ≤ maxLen ∧ Own .u8 5 w' w.heap.size (.slice A n c) T ∧ Below w.heap.size w w'
/-- while the turned bytes are laid -/
def TurnR (W : World) (g : Nat) (ks T : List Int) (j : Nat) (v : Value) (wr : World) : Prop :=
  ∃ A c, v = .slice A j c ∧ j ≤ c ∧ c ≤ maxLen ∧ Own .u8 5 wr W.heap.size (.slice A j c) (T.take j) ∧ Below W.heap.size W wr ∧ Arr .u8 69 wr g ks
set_option maxRecDepth 100000 in
set_option maxHeartbeats 1000000 in
theorem turned_any (A : Option Addr) (n c : Nat) (k : List Int) (y : Int) (w : World) (hb : Nums .u8 w w.heap.size A n k) (hy : ∀ x ∈ k, Byte x) (hn : n ≤ 20000) (y0 : 0 ≤ y) (y1 : y ≤ 255) :
    Calls Try.prog 45 #[.slice A n c, .int .u8 y] w (OwnR w (turnL k y) 64) := by
  obtain ⟨i0, hi0, hz0, hz1, hz2⟩ := info_parts byte_info
  have T1 := Lib.hid hi0; have T2 := Lib.hid hz0; have T3 := Lib.hid hz1; have T4 := Lib.hid hz2
  obtain ⟨Z, hZ⟩ : ∃ Z, Z = ((nz 64).map (Value.int .u8)).toArray := ⟨_, rfl⟩
  have hzv := z64
  rw [← hZ] at hzv
  obtain ⟨X, hX⟩ : ∃ X, X = ((blkL k).map (Value.int .u8)).toArray := ⟨_, rfl⟩
  have U1 := Lib.hid (show (Try.prog.info? 69).map (·.size) = some X.size by rw [b64_info, hX]; simp [blk_len])
  have ZS := Lib.hid (show Z.size = X.size by rw [hZ, hX]; simp [nz, blk_len])
  have HO := Lib.hid (show X.all (·.oneCell') = true by rw [hX]; exact nums_one _)
  have BL := Lib.hid ((block5_any A n c k w hb hy hn).mono fun e w' h => (show e = .returned (.agg X) ∧ Below w.heap.size w w' from ⟨by rw [hX]; exact h.1, h.2⟩))
  have HX := Lib.hid hX
  have HY := Lib.hid (blk_byte hy)
  clear hZ hX hb hy hi0 hz0 hz1 hz2
  go_enter Try.func45, Try.ntmps45
  go_upto_region 2 with (first
    | (go_at_call 57; (with_reducible refine BL.out.mono ?_); rintro e w1 ⟨rfl, B1⟩)
    | (refine wpList_store_row rfl 69 (.tmp 5) (.tmp 9) rfl w1.heap.size X rfl rfl _ _ (heap_alloc_new _ _) U1.out ZS.out HO.out ?_))
  rw [World.setRow_alloc_new]
  have A1 : Arr .u8 69 (w1.alloc (.cells X 69)) w1.heap.size (blkL k) := by rw [HX.out]; exact Arr.new w1 .u8 69 (blkL k)
  have BW : Below w.heap.size w (w1.alloc (.cells X 69)) := B1.alloc B1.size _
  generalize w1.alloc (.cells X 69) = W at *
  generalize w1.heap.size = g at *
  have R0 : TurnR W g (blkL k) (turnL k y) 0 (.slice none 0 0) W := ⟨none, 0, rfl, Nat.le_refl _, Nat.zero_le _, by rw [List.take_zero]; exact Own.nil _ _, Below.refl _ _, A1⟩
  have HR0 := Lib.hid R0
  have HBW := Lib.hid BW
  have HG := Lib.hid A1.lt
  clear R0 BW A1 B1 hzv
  go_wp2_with fail
  go_loopw [6, 7] (fun v i wr => ∃ j : Nat, j ≤ 64 ∧ i = .int .i64 j ∧ TurnR W g (blkL k) (turnL k y) j v wr) (fun _ i _ => 64 - (intOf i).toNat)
  case atStart => exact ⟨0, by omega, rfl, HR0.out⟩
  case round =>
    obtain ⟨j, hj, rfl, A4, c4, rfl, g4, g4', O4, B4, R4⟩ := hrel
    by_cases hlt : j < 64
    · have cc := R4.cell (j := j) (by rw [blk_len]; exact hlt)
      have hjz : (j : Int) < 64 := by omega
      have hx := getD_byte HY.out (k := j) (by rw [blk_len]; exact hlt)
      have hT : (turnL k y).take j ++ [bits .xor .u8 ((blkL k).getD j 0) y] = (turnL k y).take (j + 1) := by
        rw [List.take_succ_eq_append_getElem (by rw [turn_len]; exact hlt)]
        congr 2
        simp [turnL, List.getD_eq_getElem?_getD, blk_len, hlt]
      have hl : ((turnL k y).take j).length = j := by rw [List.length_take, turn_len]; omega
      have HLl := Lib.hid hl
      have HTT := Lib.hid hT
      have HR4 := Lib.hid R4
      have HB4 := Lib.hid B4
      generalize (blkL k).getD j 0 = x at *
      obtain ⟨x0, x1⟩ := hx
      have S4 := B4.size
      clear hT hl R4 B4
      go_wp2_with (first
        | (at_builtin; (refine wpList_app1T _ rfl (.tmp 14) (.tmp 20) _ rfl 5 i0 _ 1 Try.underlying22 T1.out T2.out T3.out T4.out rfl W.heap.size _ _ rfl O4 _ rfl (by rw [HLl.out]; simp only [maxLen]; omega) (by rw [HLl.out]; omega) S4 (j + 1) (by rw [HLl.out]) ?_)
           intro A5 c5 w5 g5 g5' O5 B5
           have P5 := Lib.hid (show TurnR W g (blkL k) (turnL k y) (j + 1) (.slice A5 (j + 1) c5) w5 from ⟨A5, c5, rfl, g5, g5', by rw [← HTT.out]; exact O5, HB4.out.trans B5, HR4.out.below B5 HG.out⟩)
           clear O5 B5 g5 g5'))
      clear cc
      go_roundw
      case rel => exact ⟨j + 1, by omega, by go_num, P5.out⟩
      case measure => simp [intOf]; omega
    · have e : j = 64 := by omega
      subst e
      have O6 := Lib.hid O4
      have B6 := Lib.hid B4
      clear O4 B4 R4 hlt hj
      go_wp2_with fail
      go_ret
      refine ⟨A4, c4, rfl, g4, g4', ?_, HBW.out.trans (B6.out.mono HBW.out.size)⟩
      have := O6.out
      rw [List.take_of_length_le (by rw [turn_len]; exact Nat.le_refl _)] at this
      exact this.less HBW.out.size
end Go.Proofs.Ythbgjjfhgbkbdaa.hmC

/-
  A region that draws its order, by an invariant: each operation is looked at once, in whatever order it comes up.
-/
namespace Go.Proofs.Ythbgjjfhgbkbdaa.freeC
open Go.ChangeShapes Go.WideShapes Go.ChangeAt Go.RowKit
set_option linter.unusedVariables false
def upd {α : Type} (f : Nat → α) (i : Nat) (v : α) : Nat → α := fun j => if j = i then v else f j
theorem upd_same {α : Type} (f : Nat → α) (i : Nat) (v : α) : upd f i v i = v := if_pos rfl
theorem upd_other {α : Type} (f : Nat → α) {i j : Nat} (v : α) (h : j ≠ i) : upd f i v j = f j := if_neg h
/-- the frame: a slot that operation i writes holds what i has given -/
def fill : List (Option Nat) → (Nat → Value) → List Value → List Value
  | _, _, [] => []
  | [], _, l => l
  | none :: t, us, v :: r => v :: fill t us r
  | some i :: t, us, _ :: r => us i :: fill t us r
def frame (tab : List (Option Nat)) (a : Act) (us : Nat → Value) : Act := { a with tmps := (fill tab us a.tmps.toList).toArray }
theorem fill_len : ∀ (tab : List (Option Nat)) (us : Nat → Value) (l : List Value), (fill tab us l).length = l.length
  | [], us, [] => rfl
  | _ :: _, us, [] => by simp [fill]
  | [], us, _ :: _ => rfl
  | none :: t, us, v :: r => by simp [fill, fill_len t us r]
  | some i :: t, us, v :: r => by simp [fill, fill_len t us r]
theorem fill_at : ∀ (tab : List (Option Nat)) (us : Nat → Value) (l : List Value) (s : Nat), s < l.length → (fill tab us l)[s]? = (match (tab[s]?).join with | some i => some (us i) | none => l[s]?)
  | [], us, v :: r, s, h => by simp [fill]
  | none :: t, us, v :: r, 0, h => by simp [fill]
  | some i :: t, us, v :: r, 0, h => by simp [fill]
  | none :: t, us, v :: r, s + 1, h => by simpa [fill] using fill_at t us r s (by simpa using h)
  | some i :: t, us, v :: r, s + 1, h => by simpa [fill] using fill_at t us r s (by simpa using h)
theorem frame_get {tab : List (Option Nat)} {a : Act} {us : Nat → Value} {s i : Nat} (hl : tab.length = a.tmps.size) (ht : (tab[s]?).join = some i) : (frame tab a us).tmps[s]? = some (us i) := by
  have hs : s < a.tmps.size := by
    rcases Nat.lt_or_ge s tab.length with h1 | h1
    · omega
    · rw [List.getElem?_eq_none h1] at ht; cases ht
  have h := fill_at tab us a.tmps.toList s (by simpa using hs)
  rw [ht] at h
  simpa [frame] using h
theorem frame_at {tab : List (Option Nat)} {a : Act} {us : Nat → Value} {s i : Nat} (hl : tab.length = a.tmps.size) (ht : (tab[s]?).join = some i) : (frame tab a us).eval (.tmp s) = us i := by
  have h := frame_get (us := us) hl ht
  simp only [Act.eval, Array.getD_eq_getD_getElem?, h, Option.getD_some]
theorem frame_old {tab : List (Option Nat)} {a : Act} {us : Nat → Value} {s : Nat} (ht : (tab[s]?).join = none) : (frame tab a us).eval (.tmp s) = a.eval (.tmp s) := by
  rcases Nat.lt_or_ge s a.tmps.size with hs | hs
  · have h := fill_at tab us a.tmps.toList s (by simpa using hs)
    rw [ht] at h
    simp only [frame, Act.eval, Array.getD_eq_getD_getElem?, List.getElem?_toArray, h, Array.getElem?_toList]
  · have h : (fill tab us a.tmps.toList)[s]? = none := List.getElem?_eq_none (by rw [fill_len]; simpa using hs)
    simp only [frame, Act.eval, Array.getD_eq_getD_getElem?, List.getElem?_toArray, h, Array.getElem?_eq_none hs]
theorem frame_at2 {tab : List (Option Nat)} {a : Act} {us : Nat → Value} {s i : Nat} (hl : tab.length = a.tmps.size) (ht : (tab[s]?).join = some i) : (frame tab a us).tmps[s]?.getD undef = us i := by
  rw [frame_get hl ht]; rfl
theorem frame_old2 {tab : List (Option Nat)} {a : Act} {us : Nat → Value} {s : Nat} (ht : (tab[s]?).join = none) : (frame tab a us).tmps[s]?.getD undef = a.tmps[s]?.getD undef := by
  have h := frame_old (us := us) (a := a) ht
  simpa only [Act.eval, Array.getD_eq_getD_getElem?] using h
theorem yield_at {L : List Oper} {tab : List (Option Nat)} {a : Act} {us : Nat → Value} {j t : Nat} {b : Bool} (hl : tab.length = a.tmps.size) (hj : (L[j]?).bind (·.dst) = some t) (ht : (tab[t]?).join = some j) (hv : us j = .bool b) :
    yielded L.toArray (frame tab a us).tmps j = some b := by
  have h := frame_get (us := us) hl ht
  have h2 : (L.toArray[j]?).bind (·.dst) = some t := by rw [List.getElem?_toArray]; exact hj
  unfold yielded
  rw [h2]
  simp only [Option.bind_some, h, hv]
/-- operation i, and it alone, writes slot t -/
def writes (tab : List (Option Nat)) (i : Nat) : Option Tmp → Bool
  | some t => ((tab[t]?).join == some i) && (List.range tab.length).all fun s => s == t || (tab[s]?).join != some i
  | none => (List.range tab.length).all fun s => (tab[s]?).join != some i
theorem frame_put {tab : List (Option Nat)} {a : Act} (us : Nat → Value) {i : Nat} {d : Option Tmp} (h : writes tab i d = true) (hl : tab.length = a.tmps.size) (v : Value) : (frame tab a us).put d v = frame tab a (upd us i v) := by
  have hne : ∀ s, (∀ t, d = some t → s ≠ t) → (tab[s]?).join ≠ some i := by
    intro s hs
    rcases Nat.lt_or_ge s tab.length with h1 | h1
    · cases d with
      | none =>
        have := List.all_eq_true.1 h s (List.mem_range.2 h1)
        simpa using this
      | some t =>
        simp only [writes, Bool.and_eq_true] at h
        have := List.all_eq_true.1 h.2 s (List.mem_range.2 h1)
        have hst := hs t rfl
        simpa [hst] using this
    · rw [List.getElem?_eq_none h1]; simp
  unfold frame Act.put
  cases d with
  | none =>
    show (⟨(fill tab us a.tmps.toList).toArray, a.defers⟩ : Act) = ⟨(fill tab (upd us i v) a.tmps.toList).toArray, a.defers⟩
    congr 2
    apply List.ext_getElem?
    intro s
    rcases Nat.lt_or_ge s a.tmps.size with h1 | h1
    · rw [fill_at _ _ _ _ (by simpa using h1), fill_at _ _ _ _ (by simpa using h1)]
      have := hne s (by simp)
      cases hj : (tab[s]?).join with
      | none => rfl
      | some j => rw [hj] at this; simp only [upd]; rw [if_neg (by intro e; exact this (by rw [e]))]
    · rw [List.getElem?_eq_none (by rw [fill_len]; simpa using h1), List.getElem?_eq_none (by rw [fill_len]; simpa using h1)]
  | some t =>
    have htt : (tab[t]?).join = some i := by
      simp only [writes, Bool.and_eq_true] at h
      simpa using h.1
    show (⟨(fill tab us a.tmps.toList).toArray.setIfInBounds t v, a.defers⟩ : Act) = ⟨(fill tab (upd us i v) a.tmps.toList).toArray, a.defers⟩
    congr 1
    apply Array.ext_getElem?
    intro s
    rw [Array.getElem?_setIfInBounds]
    simp only [List.getElem?_toArray, List.size_toArray, fill_len, Array.length_toList]
    rcases Nat.lt_or_ge s a.tmps.size with h1 | h1
    · rw [fill_at _ _ _ _ (by simpa using h1), fill_at _ _ _ _ (by simpa using h1)]
      by_cases e : t = s
      · subst e
        rw [if_pos rfl, if_pos h1, htt]
        simp [upd]
      · rw [if_neg e]
        have := hne s (by rintro t' ht'; obtain rfl := Option.some.inj ht'; exact fun e2 => e e2.symm)
        cases hj : (tab[s]?).join with
        | none => rfl
        | some j => rw [hj] at this; simp only [upd]; rw [if_neg (by intro e; exact this (by rw [e]))]
    · rw [List.getElem?_eq_none (by rw [fill_len]; simpa using h1), List.getElem?_eq_none (by rw [fill_len]; simpa using h1)]
      by_cases e : t = s
      · subst e; rw [if_pos rfl, if_neg (Nat.not_lt.2 h1)]
      · rw [if_neg e]
/-- how many are not yet listed -/
def left (m : Array Bool) : Nat → Nat
  | 0 => 0
  | k + 1 => left m k + (if m.getD k true then 0 else 1)
theorem getD_set {m : Array Bool} {i j : Nat} (d : Bool) : (m.setIfInBounds i true).getD j d = (if i = j ∧ i < m.size then true else m.getD j d) := by
  simp only [Array.getD_eq_getD_getElem?, Array.getElem?_setIfInBounds]
  by_cases h : i = j
  · subst h
    by_cases h2 : i < m.size
    · simp [h2]
    · simp [h2]
  · simp [h]
theorem left_set {m : Array Bool} {i : Nat} (hi : i < m.size) (h : m.getD i true = false) : ∀ k, left (m.setIfInBounds i true) k + (if i < k then 1 else 0) = left m k
  | 0 => by simp [left]
  | k + 1 => by
    have ih := left_set hi h k
    have hk := getD_set (m := m) (i := i) (j := k) true
    simp only [left]
    by_cases e : i = k
    · subst e
      rw [if_pos ⟨rfl, hi⟩] at hk
      rw [if_neg (Nat.lt_irrefl _)] at ih
      rw [hk, h, if_pos (Nat.lt_succ_self _)]
      simp only [Bool.false_eq_true, if_false, if_true]; omega
    · rw [if_neg (fun hh => e hh.1)] at hk
      rw [hk]
      by_cases e2 : i < k
      · rw [if_pos e2] at ih
        rw [if_pos (Nat.lt_succ_of_lt e2)]; omega
      · rw [if_neg e2] at ih
        rw [if_neg (show ¬ i < k + 1 by omega)]; omega
theorem left_zero {m : Array Bool} : ∀ k, left m k = 0 → ∀ i, i < k → m.getD i true = true
  | 0, _, i, hi => by omega
  | k + 1, h, i, hi => by
    simp only [left] at h
    by_cases e : i = k
    · subst e
      cases hg : m.getD i true with
      | true => rfl
      | false => rw [hg] at h; simp at h
    · exact left_zero k (by omega) i (by omega)
theorem left_le (m : Array Bool) : ∀ k, left m k ≤ k
  | 0 => Nat.le_refl _
  | k + 1 => by have := left_le m k; simp only [left]; split <;> omega
/-- edges go back -/
def backE (L : List Oper) : Bool := (List.range L.length).all fun j => match L[j]? with
  | some o => o.after.all fun e => !Region.binds .any e || decide (e.on < j)
  | none => true
/-- all that an operation waits for are listed -/
def doneB (o : Oper) (m : Nat → Bool) : Bool := o.after.all fun e => !Region.binds .any e || m e.on
def slots (tab : List (Option Nat)) (L : List Oper) : Bool := (List.range L.length).all fun i => match L[i]? with
  | some o => writes tab i o.dst
  | none => true
section
variable {P : Program} {L : List Oper} {Q : Exit → Act → World → Prop}
theorem any_inv (I : Array Bool → Act → World → Prop)
    (hstep : ∀ m a w, m.size = L.length → I m a w → ∀ i, i ∈ Region.ready .any L.toArray m → wpOp P L.toArray Q i (fun a' w' => I (m.setIfInBounds i true) a' w') a w)
    (hend : ∀ m a w, m.size = L.length → I m a w → Region.ready .any L.toArray m = [] → Q .normal a w) :
    ∀ (f : Nat) (m : Array Bool) (a : Act) (w : World), m.size = L.length → left m L.length ≤ f → I m a w → wpAny P .any L.toArray Q f m a w
  | 0, m, a, w, hm, hl, h => by
    have hr : Region.ready .any L.toArray m = [] := by
      refine List.eq_nil_iff_forall_not_mem.2 fun j hj => ?_
      obtain ⟨h1, o, ho, _⟩ := mem_ready.1 hj
      have hjl : j < L.toArray.size := (Array.getElem?_eq_some_iff.1 ho).1
      have := left_zero (m := m) L.length (by omega) j (by simpa using hjl)
      rw [h1] at this; cases this
    exact ⟨hr, hend m a w hm h hr⟩
  | f + 1, m, a, w, hm, hl, h => by
    refine ⟨fun h0 => hend m a w hm h h0, fun i hi => ?_⟩
    obtain ⟨h1, o, ho, _⟩ := mem_ready.1 hi
    have hil : i < L.toArray.size := (Array.getElem?_eq_some_iff.1 ho).1
    have hil2 : i < L.length := by simpa using hil
    refine wpOp_mono (fun a' w' h' => ?_) (hstep m a w hm h i hi)
    refine any_inv I hstep hend f _ a' w' (by simpa using hm) ?_ h'
    have := left_set (m := m) (i := i) (by omega) h1 L.length
    rw [if_pos hil2] at this
    omega
theorem all_listed (hb : backE L = true) {m : Array Bool} (hm : m.size = L.length) (hr : Region.ready .any L.toArray m = []) : ∀ i, i < L.length → m.getD i false = true := by
  intro i
  induction i using Nat.strongRecOn with
  | _ i ih =>
    intro hi
    cases hg : m.getD i false with
    | true => rfl
    | false =>
      exfalso
      have hgt : m.getD i true = false := by
        simp only [Array.getD_eq_getD_getElem?, Array.getElem?_eq_getElem (show i < m.size by omega), Option.getD_some] at hg ⊢
        exact hg
      have hoi : L[i]? = some (L[i]'hi) := List.getElem?_eq_getElem hi
      have hbi := List.all_eq_true.1 hb i (List.mem_range.2 hi)
      rw [hoi] at hbi
      have : i ∈ Region.ready .any L.toArray m := mem_ready.2 ⟨hgt, L[i]'hi, by simp, fun e he hbd => by
        have h2 := Array.all_eq_true'.1 hbi e he
        rw [hbd] at h2
        have h3 : e.on < i := by simpa using h2
        exact ih e.on h3 (by omega)⟩
      rw [hr] at this
      cases this
/-- the rule: tab tells which operation writes a slot; J is what holds, by what is listed and what each has given -/
theorem wp_region_free {id : Nat} {a : Act} {w : World} (hm : P.follows .mixedOrders = true) (tab : List (Option Nat)) (hb : backE L = true) (ht : slots tab L = true) (hl : tab.length = a.tmps.size)
    (us0 : Nat → Value) (ha : frame tab a us0 = a) (J : (Nat → Bool) → (Nat → Value) → World → Prop) (h0 : J (fun _ => false) us0 { w with drawn := w.drawn + 1 })
    (hstep : ∀ i o, L[i]? = some o → ∀ m us w, J m us w → m i = false → doneB o m = true →
      if Region.wanted o (yielded L.toArray (frame tab a us).tmps) then o.wp P (frame tab a us) w (fun a' w' => ∃ v, a' = (frame tab a us).put o.dst v ∧ J (upd m i true) (upd us i v) w') Q else J (upd m i true) (upd us i undef) w)
    (hend : ∀ m us w, (∀ i, i < L.length → m i = true) → J m us w → Q .normal (frame tab a us) w) : (Code.region id L.toArray true).wp P Q a w := by
  refine wp_region_any hm ?_
  have hput : ∀ i o, L[i]? = some o → ∀ us v, (frame tab a us).put o.dst v = frame tab a (upd us i v) := by
    intro i o ho us v
    have hil : i < L.length := (List.getElem?_eq_some_iff.1 ho).1
    have h1 := List.all_eq_true.1 ht i (List.mem_range.2 hil)
    rw [ho] at h1
    exact frame_put us h1 hl v
  have hmk : ∀ (m : Array Bool) (i : Nat), i < m.size → (fun j => (m.setIfInBounds i true).getD j false) = upd (fun j => m.getD j false) i true := by
    intro m i hi
    funext j
    rw [getD_set]
    unfold upd
    by_cases e : j = i
    · subst e; simp [hi]
    · rw [if_neg e, if_neg (fun h => e h.1.symm)]
  refine any_inv (fun m a' w' => ∃ us, a' = frame tab a us ∧ J (fun j => m.getD j false) us w') ?_ ?_ _ _ _ _ (by simp) ?_ ⟨us0, ha.symm, ?_⟩
  · rintro m a' w' hms ⟨us, rfl, hJ⟩ i hi
    obtain ⟨h1, o, ho, hdeps⟩ := mem_ready.1 hi
    have ho' : L[i]? = some o := by simpa using ho
    have hil : i < L.length := (List.getElem?_eq_some_iff.1 ho').1
    have hmf : m.getD i false = false := by
      simp only [Array.getD_eq_getD_getElem?, Array.getElem?_eq_getElem (show i < m.size by omega), Option.getD_some] at h1 ⊢
      exact h1
    have hdone : doneB o (fun j => m.getD j false) = true := by
      unfold doneB
      rw [Array.all_eq_true']
      intro e he
      cases hbd : Region.binds .any e with
      | false => rfl
      | true => simpa using hdeps e he hbd
    have hs := hstep i o ho' _ us w' hJ hmf hdone
    unfold wpOp
    simp only [ho]
    split
    · rename_i hw
      rw [if_pos hw] at hs
      refine .inl (Oper.wp_mono (fun a2 w2 h2 => ?_) hs)
      obtain ⟨v, rfl, hJ2⟩ := h2
      refine ⟨upd us i v, hput i o ho' us v, ?_⟩
      rw [hmk m i (by omega)]; exact hJ2
    · rename_i hw
      rw [if_neg hw] at hs
      refine ⟨upd us i undef, hput i o ho' us undef, ?_⟩
      rw [hmk m i (by omega)]; exact hs
  · rintro m a' w' hms ⟨us, rfl, hJ⟩ hr
    exact hend _ us w' (all_listed hb hms hr) hJ
  · exact left_le _ _
  · have e : (fun j => (Array.replicate L.toArray.size false).getD j false) = fun _ => false := by
      funext j
      simp only [Array.getD_eq_getD_getElem?, Array.getElem?_replicate]
      split <;> rfl
    rw [e]; exact h0
/-- of each operation, from number s on -/
def AllFrom (R : Nat → Oper → Prop) : Nat → List Oper → Prop
  | _, [] => True
  | s, o :: r => R s o ∧ AllFrom R (s + 1) r
theorem all_from {R : Nat → Oper → Prop} : ∀ (L : List Oper) (s : Nat), AllFrom R s L → ∀ i o, L[i]? = some o → R (s + i) o
  | [], _, _, i, o, h => by simp at h
  | o' :: r, s, h, 0, o, ho => by
    obtain rfl : o' = o := by simpa using ho
    exact h.1
  | o' :: r, s, h, i + 1, o, ho => by
    have := all_from r (s + 1) h.2 i o (by simpa using ho)
    rw [show s + (i + 1) = s + 1 + i by omega]; exact this
/-- what is asked of an operation that only makes memory -/
def Step (P : Program) (L : List Oper) (Q : Exit → Act → World → Prop) (tab : List (Option Nat)) (a : Act) (G : World → Prop) (V : Nat → Value → World → Prop) (i : Nat) (o : Oper) : Prop :=
  ∀ m us w, G w → (∀ j, m j = true → V j (us j) w) → doneB o m = true →
    if Region.wanted o (yielded L.toArray (frame tab a us).tmps) then o.wp P (frame tab a us) w (fun a' w' => ∃ v, a' = (frame tab a us).put o.dst v ∧ G w' ∧ Below w.heap.size w w' ∧ V i v w') Q else V i undef w
/-- the rule for operations that write into no block that there was: V tells what each has given -/
theorem wp_region_vals {id : Nat} {a : Act} {w : World} (hm : P.follows .mixedOrders = true) (tab : List (Option Nat)) (hb : backE L = true) (ht : slots tab L = true) (hl : tab.length = a.tmps.size)
    (us0 : Nat → Value) (ha : frame tab a us0 = a) (G : World → Prop) (V : Nat → Value → World → Prop) (hG : G w.drew) (hkeep : ∀ i v w w', Below w.heap.size w w' → V i v w → V i v w')
    (hstep : AllFrom (Step P L Q tab a G V) 0 L)
    (hend : ∀ us w, G w → (∀ i, i < L.length → V i (us i) w) → Q .normal (frame tab a us) w) : (Code.region id L.toArray true).wp P Q a w := by
  refine wp_region_free hm tab hb ht hl us0 ha (fun m us w => G w ∧ ∀ j, m j = true → V j (us j) w) ⟨hG, fun j h => by cases h⟩ ?_ ?_
  · intro i o ho m us w' ⟨hg, hv⟩ hmi hd
    have hs := all_from L 0 hstep i o ho m us w' hg hv hd
    rw [Nat.zero_add] at hs
    have hset : ∀ v w'', Below w'.heap.size w' w'' → V i v w'' → ∀ j, upd m i true j = true → V j (upd us i v j) w'' := by
      intro v w'' hb hvi j hj
      by_cases e : j = i
      · subst e; rw [upd_same]; exact hvi
      · rw [upd_other _ _ e]; rw [upd_other _ _ e] at hj; exact hkeep _ _ _ _ hb (hv j hj)
    split
    · rename_i hw
      rw [if_pos hw] at hs
      refine Oper.wp_mono (fun a2 w2 h2 => ?_) hs
      obtain ⟨v, ha, hg2, hb2, hv2⟩ := h2
      exact ⟨v, ha, hg2, hset v w2 hb2 hv2⟩
    · rename_i hw
      rw [if_neg hw] at hs
      exact ⟨hg, hset undef w' (Below.refl _ _) hs⟩
  · intro m us w' hm ⟨hg, hv⟩
    exact hend us w' hg fun i hi => hv i (hm i hi)
/-- what is asked of an operation, where the invariant is the prover's own -/
def StepJ (P : Program) (L : List Oper) (Q : Exit → Act → World → Prop) (tab : List (Option Nat)) (a : Act) (J : (Nat → Bool) → (Nat → Value) → World → Prop) (i : Nat) (o : Oper) : Prop :=
  ∀ m us w, J m us w → m i = false → doneB o m = true →
    if Region.wanted o (yielded L.toArray (frame tab a us).tmps) then o.wp P (frame tab a us) w (fun a' w' => ∃ v, a' = (frame tab a us).put o.dst v ∧ J (upd m i true) (upd us i v) w') Q else J (upd m i true) (upd us i undef) w
theorem wp_region_J {id : Nat} {a : Act} {w : World} (hm : P.follows .mixedOrders = true) (tab : List (Option Nat)) (hb : backE L = true) (ht : slots tab L = true) (hl : tab.length = a.tmps.size)
    (us0 : Nat → Value) (ha : frame tab a us0 = a) (J : (Nat → Bool) → (Nat → Value) → World → Prop) (h0 : J (fun _ => false) us0 w.drew)
    (hstep : AllFrom (StepJ P L Q tab a J) 0 L)
    (hend : ∀ m us w, (∀ i, i < L.length → m i = true) → J m us w → Q .normal (frame tab a us) w) : (Code.region id L.toArray true).wp P Q a w :=
  wp_region_free hm tab hb ht hl us0 ha J h0 (fun i o ho => by have h := all_from L 0 hstep i o ho; rw [Nat.zero_add] at h; exact h) hend
theorem with_act {c : Code} {a : Act} {w : World} (h : ∀ a', a' = a → c.wp P Q a' w) : c.wp P Q a w := h a rfl
variable {o : Oper} {a : Act} {w w' : World} {K : Act → World → Prop} {tab : List (Option Nat)} {G : World → Prop} {V : Nat → Value → World → Prop} {i : Nat} {us : Nat → Value}
def needs (o : Oper) (need : List Nat) : Bool := need.all fun j => o.after.any fun e => Region.binds .any e && (e.on == j)
theorem need_ok {need : List Nat} {m : Nat → Bool} (hn : needs o need = true) (hd : doneB o m = true) : ∀ j, j ∈ need → m j = true := by
  intro j hj
  have h1 := List.all_eq_true.1 hn j hj
  obtain ⟨e, he, h2⟩ := Array.any_eq_true'.1 h1
  simp only [Bool.and_eq_true, beq_iff_eq] at h2
  have h3 := Array.all_eq_true'.1 hd e he
  rw [h2.1, h2.2] at h3
  simpa using h3
theorem step_plain (need : List Nat) (hn : needs o need = true) (hg : o.guard = none)
    (h : ∀ us w, G w → (∀ j, j ∈ need → V j (us j) w) → o.wp P (frame tab a us) w (fun a' w' => ∃ v, a' = (frame tab a us).put o.dst v ∧ G w' ∧ Below w.heap.size w w' ∧ V i v w') Q) : Step P L Q tab a G V i o := by
  intro m us w hG hV hd
  rw [if_pos (show Region.wanted o (yielded L.toArray (frame tab a us).tmps) = true by simp [Region.wanted, hg])]
  exact h us w hG fun j hj => hV j (need_ok hn hd j hj)
theorem step_guard (need : List Nat) (hn : needs o need = true) {j t : Nat} {b : Bool} (hg : o.guard = some (j, b)) (hj : j ∈ need) (hL : (L[j]?).bind (·.dst) = some t) (hl : tab.length = a.tmps.size) (ht : (tab[t]?).join = some j)
    (hv : ∀ v w, V j v w → v = .bool b)
    (h : ∀ us w, G w → (∀ j, j ∈ need → V j (us j) w) → o.wp P (frame tab a us) w (fun a' w' => ∃ v, a' = (frame tab a us).put o.dst v ∧ G w' ∧ Below w.heap.size w w' ∧ V i v w') Q) : Step P L Q tab a G V i o := by
  intro m us w hG hV hd
  have hy := yield_at (L := L) (us := us) hl hL ht (hv _ _ (hV j (need_ok hn hd j hj)))
  rw [if_pos (show Region.wanted o (yielded L.toArray (frame tab a us).tmps) = true by simp [Region.wanted, hg, hy])]
  exact h us w hG fun j hj => hV j (need_ok hn hd j hj)
theorem free_val {v : Value} (hr : (execOp a.eval o).run P w = .ok (.value v) w') (h : K (a.put o.dst v) w') : o.wp P a w K Q := by
  unfold Oper.wp; rw [hr]; exact h
theorem free_skip (hr : (execOp a.eval o).run P w = .ok .skip w') (h : K (a.put o.dst undef) w') : o.wp P a w K Q := by
  unfold Oper.wp; rw [hr]; exact h
theorem free_call {f : FuncId} {args : Array Value} (hr : (execOp a.eval o).run P w = .ok (.enter f args) w) (h : Calls P f args w fun e w' => ∃ v, e = .returned v ∧ K (a.put o.dst v) w') : o.wp P a w K Q := by
  unfold Oper.wp; rw [hr, Oper.upon_enter]
  exact h.mono fun e w' ⟨v, he, hk⟩ => by subst he; exact hk
theorem stepJ {J : (Nat → Bool) → (Nat → Value) → World → Prop} (need : List Nat) (hn : needs o need = true) (hg : o.guard = none)
    (h : ∀ m us w, J m us w → m i = false → (∀ j, j ∈ need → m j = true) → o.wp P (frame tab a us) w (fun a' w' => ∃ v, a' = (frame tab a us).put o.dst v ∧ J (upd m i true) (upd us i v) w') Q) : StepJ P L Q tab a J i o := by
  intro m us w hJ hmi hd
  rw [if_pos (show Region.wanted o (yielded L.toArray (frame tab a us).tmps) = true by simp [Region.wanted, hg])]
  exact h m us w hJ hmi (need_ok hn hd)
theorem val_J {R : Value → World → Prop} {fr : Act} {v : Value} (hr : (execOp fr.eval o).run P w = .ok (.value v) w') (hR : R v w') :
    o.wp P fr w (fun a' w' => ∃ v, a' = fr.put o.dst v ∧ R v w') Q := free_val hr ⟨v, rfl, hR⟩
theorem call_J {R : Value → World → Prop} {fr : Act} {f : FuncId} {args : Array Value} (hr : (execOp fr.eval o).run P w = .ok (.enter f args) w) (h : Calls P f args w fun e w' => ∃ v, e = .returned v ∧ R v w') :
    o.wp P fr w (fun a' w' => ∃ v, a' = fr.put o.dst v ∧ R v w') Q := free_call hr (h.mono fun e w' ⟨v, he, h1⟩ => ⟨v, he, v, rfl, h1⟩)
theorem load_J {R : Value → World → Prop} {fr : Act} (ty : TypeId) (s : Tmp) (ho : o.op = .load ty (.tmp s)) (g : Nat) (hx : fr.tmps[s]?.getD undef = .pointer (some ⟨g, 0, none⟩)) (t : TypeId) (cs : Array Value) (f : Nat × Nat) (d : TypeDesc) (hg : w.heap[g]? = some (.cells cs t f))
    (hu : P.underlying ty = some d) (hd : (match d with | .struct _ | .array _ _ => true | _ => false) = true) (hi : (P.info? ty).map (·.size) = some cs.size) (hR : R (.agg cs) w) :
    o.wp P fr w (fun a' w' => ∃ v, a' = fr.put o.dst v ∧ R v w') Q :=
  wp_load_row ty (.tmp s) ho g (by simpa only [Act.eval, Array.getD_eq_getD_getElem?] using hx) t cs f d hg hu hd hi ⟨_, rfl, hR⟩
theorem store_J {R : Value → World → Prop} {fr : Act} (ty : TypeId) (s x : Tmp) (ho : o.op = .store ty (.tmp s) (.tmp x)) (g : Nat) (cs : Array Value) (hs : fr.tmps[s]?.getD undef = .pointer (some ⟨g, 0, none⟩)) (hx : fr.tmps[x]?.getD undef = .agg cs)
    (t : TypeId) (old : Array Value) (hg : w.heap[g]? = some (.cells old t (0, 0))) (hi : (P.info? ty).map (·.size) = some cs.size) (hold : old.size = cs.size) (h1 : cs.all (·.oneCell') = true) (hR : R undef (w.setRow g cs)) :
    o.wp P fr w (fun a' w' => ∃ v, a' = fr.put o.dst v ∧ R v w') Q :=
  wp_store_row ty (.tmp s) (.tmp x) ho g cs (by simpa only [Act.eval, Array.getD_eq_getD_getElem?] using hs) (by simpa only [Act.eval, Array.getD_eq_getD_getElem?] using hx) t old hg hi hold h1 ⟨undef, rfl, hR⟩
/-- a load behind a guard that says yes -/
theorem wpList_load_rowG {ops : Array Oper} {rest : List Oper} {a : Act} (hw : Region.wanted o (yielded ops a.tmps) = true) (ty : TypeId) (x : Operand) (ho : o.op = .load ty x)
    (g : Nat) (hx : a.eval x = .pointer (some ⟨g, 0, none⟩)) (t : TypeId) (cs : Array Value) (fr : Nat × Nat) (d : TypeDesc) (hg : w.heap[g]? = some (.cells cs t fr))
    (hu : P.underlying ty = some d) (hd : (match d with | .struct _ | .array _ _ => true | _ => false) = true) (hi : (P.info? ty).map (·.size) = some cs.size)
    (h : wpList P ops Q rest (a.put o.dst (.agg cs)) w) : wpList P ops Q (o :: rest) a w := by
  refine wpList_step fun K hK => ?_
  rw [if_pos hw]
  exact wp_load_row ty x ho g hx t cs fr d hg hu hd hi (hK _ _ h)
theorem val_ok {fr : Act} {v : Value} (hr : (execOp fr.eval o).run P w = .ok (.value v) w') (hG : G w') (hb : Below w.heap.size w w') (hV : V i v w') :
    o.wp P fr w (fun a' w' => ∃ v, a' = fr.put o.dst v ∧ G w' ∧ Below w.heap.size w w' ∧ V i v w') Q := free_val hr ⟨v, rfl, hG, hb, hV⟩
theorem load_ok {fr : Act} (ty : TypeId) (s : Tmp) (ho : o.op = .load ty (.tmp s)) (g : Nat) (hx : fr.tmps[s]?.getD undef = .pointer (some ⟨g, 0, none⟩)) (t : TypeId) (cs : Array Value) (f : Nat × Nat) (d : TypeDesc) (hg : w.heap[g]? = some (.cells cs t f))
    (hu : P.underlying ty = some d) (hd : (match d with | .struct _ | .array _ _ => true | _ => false) = true) (hi : (P.info? ty).map (·.size) = some cs.size) (hG : G w) (hV : V i (.agg cs) w) :
    o.wp P fr w (fun a' w' => ∃ v, a' = fr.put o.dst v ∧ G w' ∧ Below w.heap.size w w' ∧ V i v w') Q :=
  wp_load_row ty (.tmp s) ho g (by simpa only [Act.eval, Array.getD_eq_getD_getElem?] using hx) t cs f d hg hu hd hi ⟨_, rfl, hG, Below.refl _ _, hV⟩
theorem call_ok {fr : Act} {f : FuncId} {args : Array Value} (hr : (execOp fr.eval o).run P w = .ok (.enter f args) w) (h : Calls P f args w fun e w' => ∃ v, e = .returned v ∧ G w' ∧ Below w.heap.size w w' ∧ V i v w') :
    o.wp P fr w (fun a' w' => ∃ v, a' = fr.put o.dst v ∧ G w' ∧ Below w.heap.size w w' ∧ V i v w') Q := free_call hr (h.mono fun e w' ⟨v, he, h1, h2, h3⟩ => ⟨v, he, v, rfl, h1, h2, h3⟩)
end
end Go.Proofs.Ythbgjjfhgbkbdaa.freeC

/-
  The document's hmac: Of.
-/
namespace Go.Proofs.Ythbgjjfhgbkbdaa.hmC
open Go.ChangeShapes Go.WideShapes Go.ChangeAt Go.RowKit
open Go.Proofs.Ythbgjjfhgbkbdaa.memC Go.Proofs.Ythbgjjfhgbkbdaa.genC Go.Proofs.Ythbgjjfhgbkbdaa.shaM Go.Proofs.Ythbgjjfhgbkbdaa.shaC Go.Proofs.Ythbgjjfhgbkbdaa.butC Go.Proofs.Ythbgjjfhgbkbdaa.hmM Go.Proofs.Ythbgjjfhgbkbdaa.freeC
set_option linter.unusedVariables false
def tabH : List (Option Nat) := [none, none, none, none, none, none, none, none, none, none, none, some 0, some 1, some 2, some 3, some 4]
theorem outer_byte (k msg : List Int) : ∀ x ∈ turnL k 92 ++ inL k msg, Byte x := fun x hx => (List.mem_append.1 hx).elim (turn_byte k 92 x) (sha_byte _ x)
theorem inner_byte {k msg : List Int} (h : ∀ x ∈ msg, Byte x) : ∀ x ∈ turnL k 54 ++ msg, Byte x := fun x hx => (List.mem_append.1 hx).elim (turn_byte k 54 x) (h x)
/-- append(own, numbers...) as an operation of a region that draws its order -/
theorem append_J {P : Program} {Q : Exit → Act → World → Prop} {R : Value → World → Prop} {fr : Act} {o : Oper} {w : World} {kd : IntKind} (s x : Tmp) (t : TypeId) (ho : o.op = .call { callee := .builtin .append, args := #[.tmp s, .tmp x], argTypes := #[t, t] })
    (e : TypeId) (i : TypeInfo) (z : Value) (bytes : Nat) (ht : P.underlying t = some (.slice e)) (hi : P.info? e = some i) (hz : i.zero = some z)
    (hsize : i.size = 1) (hby : i.bytes = bytes) (hzs : z.cells.size = 1) (base : Nat) (v : Value) (xs : List Int) (hs : fr.tmps[s]?.getD undef = v) (hown : Own kd e w base v xs)
    (B : Nat) (A : Option Addr) (m c : Nat) (news : List Int) (hx : fr.tmps[x]?.getD undef = .slice A m c) (hr : Nums kd w B A m news) (h63 : xs.length + m ≤ maxLen) (hbytes : (xs.length + m) * bytes ≤ 140737488355328) (hbase : base ≤ w.heap.size) (L : Nat) (hL : xs.length + m = L)
    (h : ∀ A' c' w', L ≤ c' → c' ≤ maxLen → Own kd e w' base (.slice A' L c') (xs ++ news) → Below base w w' → R (.slice A' L c') w') : o.wp P fr w (fun a' w' => ∃ v, a' = fr.put o.dst v ∧ R v w') Q := by
  obtain ⟨v', w', hrun, h2, h3⟩ := run_app (P := P) w t o.type e i z bytes ht hi hz hsize hby hzs base v xs hown B A m c news hr h63 hbytes hbase
  have e : (xs ++ news).length = L := by rw [List.length_append, hr.len]; exact hL
  obtain ⟨A', c', e2, g1, g2, N⟩ := h2.form
  rw [e] at e2 g1 N
  subst e2
  have hs' : fr.eval (.tmp s) = v := by simpa only [Act.eval, Array.getD_eq_getD_getElem?] using hs
  have hx' : fr.eval (.tmp x) = .slice A m c := by simpa only [Act.eval, Array.getD_eq_getD_getElem?] using hx
  unfold Oper.wp execOp
  simp only [ho, resolve, invoke, builtin, Sem.run_bind, Sem.run_pure, Result.andThen_ok, List.map_toArray, List.map_cons, List.map_nil, hs', hx', hrun]
  exact ⟨_, rfl, h A' c' w' g1 g2 h2 (grown_below h3 hbase fun g hg => (hown.blk g hg).1)⟩
/-- what holds while the outer digest is reckoned -/
structure MJ (w0 : World) (K d : Nat) (key : Value) (k msg : List Int) (m : Nat → Bool) (us : Nat → Value) (w : World) : Prop where
  bel : Below w0.heap.size w0 w
  res : w.heap[w0.heap.size]? = some (.cells (((if m 5 then macL k msg else nz 20)).map (Value.int .u8)).toArray 54 (0, 0))
  dig : Arr .u8 54 w d (inL k msg)
  v0 : m 0 = true → us 0 = key
  v1 : m 1 = true → m 3 = false → ∃ A c, us 1 = .slice A 64 c ∧ 64 ≤ c ∧ c ≤ maxLen ∧ Own .u8 5 w K (.slice A 64 c) (turnL k 92)
  v2 : m 2 = true → us 2 = .slice (some ⟨d, 0, none⟩) 20 20
  v3 : m 3 = true → ∃ A c, us 3 = .slice A 84 c ∧ 84 ≤ c ∧ c ≤ maxLen ∧ Own .u8 5 w K (.slice A 84 c) (turnL k 92 ++ inL k msg)
  v4 : m 4 = true → us 4 = .agg ((macL k msg).map (Value.int .u8)).toArray
  sz : K ≤ w.heap.size
  dK : d < K
  rd : w0.heap.size < d
section
variable {w0 w w' : World} {K d : Nat} {key : Value} {k msg : List Int} {m : Nat → Bool} {us : Nat → Value}
theorem MJ.s0 (h : MJ w0 K d key k msg m us w) : MJ w0 K d key k msg (upd m 0 true) (upd us 0 key) w :=
  ⟨h.bel, h.res, h.dig, fun _ => rfl, h.v1, h.v2, h.v3, h.v4, h.sz, h.dK, h.rd⟩
theorem MJ.s2 (h : MJ w0 K d key k msg m us w) : MJ w0 K d key k msg (upd m 2 true) (upd us 2 (.slice (some ⟨d, 0, none⟩) 20 20)) w :=
  ⟨h.bel, h.res, h.dig, h.v0, h.v1, fun _ => rfl, h.v3, h.v4, h.sz, h.dK, h.rd⟩
theorem MJ.ext (h : MJ w0 K d key k msg m us w) (hb : Below w.heap.size w w') : MJ w0 K d key k msg m us w' := by
  have h1 := h.dK
  have h2 := h.rd
  have h3 := h.sz
  refine ⟨h.bel.trans (hb.mono h.bel.size), (hb.block _ (by omega)).trans h.res, h.dig.below hb (by omega), h.v0, fun e1 e3 => ?_, h.v2, fun e3 => ?_, h.v4, Nat.le_trans h.sz hb.size, h.dK, h.rd⟩
  · obtain ⟨A, c, f1, f2, f3, f4⟩ := h.v1 e1 e3
    exact ⟨A, c, f1, f2, f3, f4.below hb⟩
  · obtain ⟨A, c, f1, f2, f3, f4⟩ := h.v3 e3
    exact ⟨A, c, f1, f2, f3, f4.below hb⟩
theorem MJ.s1 (h : MJ w0 K d key k msg m us w) (A : Option Addr) (c : Nat) (g1 : 64 ≤ c) (g2 : c ≤ maxLen) (O : Own .u8 5 w' K (.slice A 64 c) (turnL k 92)) (hb : Below w.heap.size w w') :
    MJ w0 K d key k msg (upd m 1 true) (upd us 1 (.slice A 64 c)) w' := by
  have h' := h.ext hb
  exact ⟨h'.bel, h'.res, h'.dig, h'.v0, fun _ _ => ⟨A, c, rfl, g1, g2, O⟩, h'.v2, h'.v3, h'.v4, h'.sz, h'.dK, h'.rd⟩
theorem MJ.s3 (h : MJ w0 K d key k msg m us w) (A : Option Addr) (c : Nat) (g1 : 84 ≤ c) (g2 : c ≤ maxLen) (O : Own .u8 5 w' K (.slice A 84 c) (turnL k 92 ++ inL k msg)) (hb : Below K w w') :
    MJ w0 K d key k msg (upd m 3 true) (upd us 3 (.slice A 84 c)) w' := by
  have h1 := h.dK
  have h2 := h.rd
  exact ⟨h.bel.trans (hb.mono (by omega)), (hb.block _ (by omega)).trans h.res, h.dig.below hb h.dK, h.v0, fun _ e => (by cases e), h.v2, fun _ => ⟨A, c, rfl, g1, g2, O⟩, h.v4, Nat.le_trans h.sz hb.size, h.dK, h.rd⟩
theorem MJ.s4 (h : MJ w0 K d key k msg m us w) (hb : Below w.heap.size w w') : MJ w0 K d key k msg (upd m 4 true) (upd us 4 (.agg ((macL k msg).map (Value.int .u8)).toArray)) w' := by
  have h' := h.ext hb
  exact ⟨h'.bel, h'.res, h'.dig, h'.v0, h'.v1, h'.v2, h'.v3, fun _ => rfl, h'.sz, h'.dK, h'.rd⟩
theorem MJ.r5 (h : MJ w0 K d key k msg m us w) (hm : m 5 = false) : w.heap[w0.heap.size]? = some (.cells ((nz 20).map (Value.int .u8)).toArray 54 (0, 0)) := by
  have := h.res
  rw [hm] at this; exact this
theorem MJ.s5 (h : MJ w0 K d key k msg m us w) (hm : m 5 = false) : MJ w0 K d key k msg (upd m 5 true) (upd us 5 undef) (w.setRow w0.heap.size ((macL k msg).map (Value.int .u8)).toArray) := by
  have h1 := h.dK
  have h2 := h.rd
  have keep : ∀ g, g ≠ w0.heap.size → (w.setRow w0.heap.size ((macL k msg).map (Value.int .u8)).toArray).heap[g]? = w.heap[g]? := fun g hg => setRow_other _ _ _ _ hg
  refine ⟨h.bel.trans ⟨rfl, rfl, rfl, by simp, fun g hg => keep g (by omega)⟩, setRow_heap _ _ _ _ _ _ (h.r5 hm), ⟨by rw [keep d (by omega)]; exact h.dig.row⟩, h.v0, fun e1 e3 => ?_, h.v2, fun e3 => ?_, h.v4, by simpa using h.sz, h.dK, h.rd⟩
  · obtain ⟨A, c, f1, f2, f3, f4⟩ := h.v1 e1 e3
    exact ⟨A, c, f1, f2, f3, f4.keep fun g hg _ => keep g (by omega)⟩
  · obtain ⟨A, c, f1, f2, f3, f4⟩ := h.v3 e3
    exact ⟨A, c, f1, f2, f3, f4.keep fun g hg _ => keep g (by omega)⟩
end
def MacRet (w : World) (k msg : List Int) (e : Ending) (w' : World) : Prop := e = .returned (.agg ((macL k msg).map (Value.int .u8)).toArray) ∧ Below w.heap.size w w'
set_option maxRecDepth 100000 in
set_option maxHeartbeats 1000000 in
theorem mac_any (A : Option Addr) (n c : Nat) (A2 : Option Addr) (n2 c2 : Nat) (k msg : List Int) (w : World) (hb : Nums .u8 w w.heap.size A n k) (hb2 : Nums .u8 w w.heap.size A2 n2 msg) (hy : ∀ x ∈ k, Byte x) (hy2 : ∀ x ∈ msg, Byte x) (hn : n ≤ 20000) (hn2 : n2 ≤ 10000) :
    Calls Try.prog 25 #[.slice A n c, .slice A2 n2 c2] w (MacRet w k msg) := by
  obtain ⟨i0, hi0, hz0, hz1, hz2⟩ := info_parts byte_info
  have T1 := Lib.hid hi0; have T2 := Lib.hid hz0; have T3 := Lib.hid hz1; have T4 := Lib.hid hz2
  obtain ⟨Z, hZ⟩ : ∃ Z, Z = ((nz 20).map (Value.int .u8)).toArray := ⟨_, rfl⟩
  have hzv := z20
  rw [← hZ] at hzv
  obtain ⟨X, hX⟩ : ∃ X, X = ((inL k msg).map (Value.int .u8)).toArray := ⟨_, rfl⟩
  have U0 := Lib.hid (show (Try.prog.info? 54).map (·.size) = some X.size by rw [digest_info, hX]; simp [inL, sha_len])
  have ZS := Lib.hid (show Z.size = X.size by rw [hZ, hX]; simp [nz, inL, sha_len])
  have HO := Lib.hid (show X.all (·.oneCell') = true by rw [hX]; exact nums_one _)
  have U1 := Lib.hid (show (Try.prog.info? 54).map (·.size) = some (((macL k msg).map (Value.int .u8)).toArray).size by rw [digest_info]; simp [mac_len])
  have L1 := Lib.hid (show (((nz 20).map (Value.int .u8)).toArray).size = (((macL k msg).map (Value.int .u8)).toArray).size by simp [nz, mac_len])
  have SW := alloc_size w (.cells Z 54)
  have BW := alloc_below w (.cells Z 54)
  have RW : (w.alloc (.cells Z 54)).heap[w.heap.size]? = some (.cells ((nz 20).map (Value.int .u8)).toArray 54 (0, 0)) := by rw [← hZ]; exact heap_alloc_new _ _
  have TU := Lib.hid (fun (w' : World) (B : Below w.heap.size w w') => turned_any A n c k 92 w' ((hb.below B).more B.size) hy hn (by decide) (by decide))
  have TI := Lib.hid (fun (w' : World) (B : Below w.heap.size w w') => turned_any A n c k 54 w' ((hb.below B).more B.size) hy hn (by decide) (by decide))
  have NM := Lib.hid (fun (w' : World) (B : Below w.heap.size w w') => hb2.below B)
  have HX := Lib.hid hX
  have HY2 := Lib.hid hy2
  have HSW := Lib.hid SW
  have HBW := Lib.hid BW
  have HRW := Lib.hid RW
  clear hZ hX hb hb2 hy hy2 hi0 hz0 hz1 hz2 SW BW RW
  go_enter Try.func25, Try.ntmps25
  go_upto_region 1 with fail
  generalize w.alloc (.cells Z 54) = W at *
  go_upto_region 2 with (first
    | (go_at_call 45; (with_reducible refine (TI.out _ HBW.out).mono ?_); rintro e w1 ⟨A3, c3, rfl, g1, g2, O3, B3⟩
       have BB := HBW.out.trans (B3.mono HBW.out.size))
    | (at_builtin; (refine wpList_appT _ rfl (.tmp 7) (.tmp 8) _ rfl 5 i0 _ 1 Try.underlying22 T1.out T2.out T3.out T4.out rfl W.heap.size _ _ rfl O3 w.heap.size A2 n2 c2 msg rfl (NM.out _ BB) (by rw [turn_len]; simp only [maxLen]; omega) (by rw [turn_len]; omega) B3.size (64 + n2) (by rw [turn_len]) ?_)
       intro A4 c4 w4 g3 g4 O4 B4)
    | (go_at_call 44; (refine (of_any A4 (64 + n2) c4 _ w4 O4.nums (inner_byte HY2.out) (by omega)).mono ?_); rintro e w5 ⟨he, B5⟩
       obtain rfl : e = .returned (.agg X) := by rw [he, HX.out]; rfl
       clear he)
    | (refine wpList_store_row rfl 54 (.tmp 5) (.tmp 10) rfl w5.heap.size X rfl rfl _ _ (heap_alloc_new _ _) U0.out ZS.out HO.out ?_))
  rw [World.setRow_alloc_new]
  have J0 : MJ w (w5.alloc (.cells X 54)).heap.size w5.heap.size (.slice A n c) k msg (fun _ => false) (fun _ => undef) (w5.alloc (.cells X 54)).drew := by
    have q1 := HSW.out
    have q2 := B3.size
    have q3 := B4.size
    have q4 := B5.size
    have b5 : Below w.heap.size w w5 := (BB.trans (B4.mono (by omega))).trans (B5.mono (by omega))
    refine ⟨(b5.alloc b5.size _).drew, ?_, ?_, ?_, ?_, ?_, ?_, ?_, Nat.le_refl _, by rw [alloc_size]; omega, by omega⟩
    · show (w5.alloc (.cells X 54)).heap[w.heap.size]? = _
      rw [(alloc_below w5 _).block _ (by omega), B5.block _ (by omega), B4.block _ (by omega), B3.block _ (by omega)]
      exact HRW.out
    · rw [HX.out]; exact (Arr.new w5 .u8 54 (inL k msg)).heap rfl
    · intro h; cases h
    · intro h; cases h
    · intro h; cases h
    · intro h; cases h
    · intro h; cases h
  generalize hK : (w5.alloc (.cells X 54)).heap.size = K at *
  generalize w5.alloc (.cells X 54) = w6 at *
  generalize w5.heap.size = d at *
  have HJ0 := Lib.hid J0
  clear J0 hK hzv
  refine with_act fun a0 ha0 => ?_
  have hl : tabH.length = a0.tmps.size := by rw [ha0]; rfl
  have k0 : a0.tmps[0]?.getD undef = .slice A n c := by rw [ha0]; rfl
  have k4 : a0.tmps[4]?.getD undef = .pointer (some ⟨w.heap.size, 0, none⟩) := by rw [ha0]; rfl
  have k5 : a0.tmps[5]?.getD undef = .pointer (some ⟨d, 0, none⟩) := by rw [ha0]; rfl
  refine wp_region_J (by kernel_rfl) tabH (by kernel_rfl) (by kernel_rfl) hl (fun _ => undef) (by rw [ha0]; rfl) (MJ w K d (.slice A n c) k msg) HJ0.out ⟨?_, ?_, ?_, ?_, ?_, ?_, trivial⟩ ?_
  · refine stepJ [] (by kernel_rfl) rfl fun m us w' hJ hmi hd => ?_
    have o0 := (frame_old2 (us := us) (a := a0) (show (tabH[0]?).join = none from rfl)).trans k0
    generalize frame tabH a0 us = fr at *
    exact val_J (v := .slice A n c) (w' := w') (by go_simp) hJ.s0
  · refine stepJ [0] (by kernel_rfl) rfl fun m us w' hJ hmi hd => ?_
    have v0 := (frame_at2 (us := us) hl (show (tabH[11]?).join = some 0 from rfl)).trans (hJ.v0 (hd 0 (by simp)))
    generalize frame tabH a0 us = fr at *
    refine call_J (f := 45) (args := #[.slice A n c, .int .u8 92]) (by go_simp) ((TU.out w' hJ.bel).mono ?_)
    rintro e w'' ⟨A3, c3, rfl, g1, g2, O3, B3⟩
    exact ⟨_, rfl, hJ.s1 A3 c3 g1 g2 (O3.less hJ.sz) B3⟩
  · refine stepJ [] (by kernel_rfl) rfl fun m us w' hJ hmi hd => ?_
    have o5 := (frame_old2 (us := us) (a := a0) (show (tabH[5]?).join = none from rfl)).trans k5
    generalize frame tabH a0 us = fr at *
    exact val_J (v := .slice (some ⟨d, 0, none⟩) 20 20) (w' := w') (by go_simp) hJ.s2
  · refine stepJ [1, 2] (by kernel_rfl) rfl fun m us w' hJ hmi hd => ?_
    obtain ⟨A3, c3, e1, g1, g2, O3⟩ := hJ.v1 (hd 1 (by simp)) hmi
    have v1 := (frame_at2 (us := us) hl (show (tabH[12]?).join = some 1 from rfl)).trans e1
    have v2 := (frame_at2 (us := us) hl (show (tabH[13]?).join = some 2 from rfl)).trans (hJ.v2 (hd 2 (by simp)))
    generalize frame tabH a0 us = fr at *
    exact append_J 12 13 22 rfl 5 i0 _ 1 Try.underlying22 T1.out T2.out T3.out T4.out rfl K _ _ v1 O3 _ _ 20 20 _ v2 (hJ.dig.part (sha_len _)) (by rw [turn_len]; simp [maxLen]) (by rw [turn_len]; decide) hJ.sz 84 (by rw [turn_len]) fun A4 c4 w4 g3 g4 O4 B4 => hJ.s3 A4 c4 g3 g4 O4 B4
  · refine stepJ [3] (by kernel_rfl) rfl fun m us w' hJ hmi hd => ?_
    obtain ⟨A3, c3, e3, g1, g2, O3⟩ := hJ.v3 (hd 3 (by simp))
    have v3 := (frame_at2 (us := us) hl (show (tabH[14]?).join = some 3 from rfl)).trans e3
    generalize frame tabH a0 us = fr at *
    refine call_J (f := 44) (args := #[.slice A3 84 c3]) (by go_simp) ((of_any A3 84 c3 _ w' O3.nums (outer_byte k msg) (by decide)).mono ?_)
    rintro e w'' ⟨rfl, B3⟩
    exact ⟨_, rfl, hJ.s4 B3⟩
  · refine stepJ [4] (by kernel_rfl) rfl fun m us w' hJ hmi hd => ?_
    have v4 := (frame_at2 (us := us) hl (show (tabH[15]?).join = some 4 from rfl)).trans (hJ.v4 (hd 4 (by simp)))
    have o4 := (frame_old2 (us := us) (a := a0) (show (tabH[4]?).join = none from rfl)).trans k4
    generalize frame tabH a0 us = fr at *
    exact store_J 54 4 15 rfl w.heap.size _ o4 v4 _ _ (hJ.r5 hmi) U1.out L1.out (nums_one _) (hJ.s5 hmi)
  · intro m us w7 hmm hJ
    have hr := hJ.res
    rw [hmm 5 (by decide)] at hr
    have HR := Lib.hid hr
    have HB := Lib.hid hJ.bel
    clear hr hJ hmm hl k0 k4 k5
    subst ha0
    simp only [Act.put, frame, tabH, fill]
    go_wp2_with fail
    refine bodyPost_ret (v := .agg ((macL k msg).map (Value.int .u8)).toArray) (results_cell_row Try.results25 _ _ w.heap.size _ _ _ _ (by rfl) HR.out Try.underlying54 rfl U1.out) rfl ⟨rfl, HB.out⟩
end Go.Proofs.Ythbgjjfhgbkbdaa.hmC

/-
  The document's hmac: Short; a MAC that is known.
-/
namespace Go.Proofs.Ythbgjjfhgbkbdaa.hmC
open Go.ChangeShapes Go.WideShapes Go.ChangeAt Go.RowKit
open Go.Proofs.Ythbgjjfhgbkbdaa.memC Go.Proofs.Ythbgjjfhgbkbdaa.genC Go.Proofs.Ythbgjjfhgbkbdaa.shaM Go.Proofs.Ythbgjjfhgbkbdaa.shaC Go.Proofs.Ythbgjjfhgbkbdaa.butC Go.Proofs.Ythbgjjfhgbkbdaa.hmM Go.Proofs.Ythbgjjfhgbkbdaa.freeC
set_option linter.unusedVariables false
theorem known_mac : macL (List.replicate 20 11) [72, 105, 32, 84, 104, 101, 114, 101] = [182, 23, 49, 134, 85, 5, 114, 100, 226, 139, 192, 182, 251, 55, 140, 142, 241, 70, 190, 0] := by decide +kernel
theorem z12_info : (Try.prog.info? 44).map (·.zero) = some (some (.agg ((nz 12).map (Value.int .u8)).toArray)) := by kernel_rfl
theorem z12 (w : World) : (zeroValue 44).run Try.prog w = .ok (.agg ((nz 12).map (Value.int .u8)).toArray) w := by
  obtain ⟨i, hi, hz⟩ := Option.map_eq_some_iff.1 z12_info
  simp [zeroValue, typeInfo, hi, hz]
theorem b12_info : (Try.prog.info? 44).map (·.size) = some 12 := by kernel_rfl
theorem short_len (k m : List Int) : (shortL k m).length = 12 := by unfold shortL; rw [List.length_take, mac_len]; decide
/-- the blocks that a call of Short lays -/
structure SH (w : World) (g : Nat) (d : List Int) (j : Nat) (wr : World) : Prop where
  r0 : Arr .u8 44 wr w.heap.size (nz 12)
  rd : Arr .u8 54 wr g d
  ro : Arr .u8 44 wr (g + 1) (partL d 12 j)
  bel : Below w.heap.size w wr
  lt : w.heap.size < g
theorem SH.step {w wr : World} {g : Nat} {d : List Int} {j : Nat} (h : SH w g d j wr) (hj : j < d.length) (hl : j < 12) : SH w g d (j + 1) (wr.setCell ⟨g + 1, j, none⟩ (.int .u8 (d.getD j 0))) := by
  have := h.lt
  refine ⟨h.r0.other (by show g + 1 ≠ w.heap.size; omega) _, h.rd.other (by show g + 1 ≠ g; omega) _, ?_, h.bel.setCell (p := ⟨g + 1, j, none⟩) (by show w.heap.size ≤ g + 1; omega) _, h.lt⟩
  rw [← part_set hj hl]; exact h.ro.stored j _
def ShortRet (w : World) (k msg : List Int) (e : Ending) (w' : World) : Prop := e = .returned (.agg ((shortL k msg).map (Value.int .u8)).toArray) ∧ Below w.heap.size w w'
set_option maxRecDepth 100000 in
set_option maxHeartbeats 1000000 in
theorem short_any (A : Option Addr) (n c : Nat) (A2 : Option Addr) (n2 c2 : Nat) (k msg : List Int) (w : World) (hb : Nums .u8 w w.heap.size A n k) (hb2 : Nums .u8 w w.heap.size A2 n2 msg) (hy : ∀ x ∈ k, Byte x) (hy2 : ∀ x ∈ msg, Byte x) (hn : n ≤ 20000) (hn2 : n2 ≤ 10000) :
    Calls Try.prog 32 #[.slice A n c, .slice A2 n2 c2] w (ShortRet w k msg) := by
  obtain ⟨Z, hZ⟩ : ∃ Z, Z = ((nz 20).map (Value.int .u8)).toArray := ⟨_, rfl⟩
  have hzv := z20
  rw [← hZ] at hzv
  obtain ⟨Y, hY⟩ : ∃ Y, Y = ((nz 12).map (Value.int .u8)).toArray := ⟨_, rfl⟩
  have hyv := z12
  rw [← hY] at hyv
  obtain ⟨d, hd⟩ : ∃ d, d = macL k msg := ⟨_, rfl⟩
  have hdl : d.length = 20 := by rw [hd]; exact mac_len _ _
  obtain ⟨X, hX⟩ : ∃ X, X = (d.map (Value.int .u8)).toArray := ⟨_, rfl⟩
  have U0 := Lib.hid (show (Try.prog.info? 54).map (·.size) = some X.size by rw [digest_info, hX]; simp [hdl])
  have ZS := Lib.hid (show Z.size = X.size by rw [hZ, hX]; simp [nz, hdl])
  have HO := Lib.hid (show X.all (·.oneCell') = true by rw [hX]; exact nums_one _)
  have SW := alloc_size w (.cells Y 44)
  have BW := alloc_below w (.cells Y 44)
  have RW : Arr .u8 44 (w.alloc (.cells Y 44)) w.heap.size (nz 12) := by rw [hY]; exact Arr.new w .u8 44 (nz 12)
  have MC := Lib.hid (fun (w' : World) (B : Below w.heap.size w w') => (mac_any A n c A2 n2 c2 k msg w' ((hb.below B).more B.size) ((hb2.below B).more B.size) hy hy2 hn hn2).mono fun e w'' h => (show e = .returned (.agg X) ∧ Below w'.heap.size w' w'' from ⟨by rw [hX, hd]; exact h.1, h.2⟩))
  have HX := Lib.hid hX
  have HD := Lib.hid hd
  have HDL := Lib.hid hdl
  have HY := Lib.hid hY
  have HSW := Lib.hid SW
  have HBW := Lib.hid BW
  have HRW := Lib.hid RW
  clear hZ hX hY hd hdl hb hb2 hy hy2 SW BW RW
  go_enter Try.func32, Try.ntmps32
  go_upto_region 1 with fail
  generalize w.alloc (.cells Y 44) = W at *
  go_upto_region 2 with (first
    | (go_at_call 25; (with_reducible refine (MC.out _ HBW.out).mono ?_); rintro e w1 ⟨rfl, B1⟩)
    | (refine wpList_store_row rfl 54 (.tmp 5) (.tmp 10) rfl w1.heap.size X rfl rfl _ _ (heap_alloc_new _ _) U0.out ZS.out HO.out ?_))
  rw [World.setRow_alloc_new]
  have S1 := alloc_size w1 (.cells X 54)
  have D1 : Arr .u8 54 (w1.alloc (.cells X 54)) w1.heap.size d := by rw [HX.out]; exact Arr.new w1 .u8 54 d
  have R1 := (HRW.out.below B1 HRW.out.lt).alloc (.cells X 54)
  have b1 : Below w.heap.size w (w1.alloc (.cells X 54)) := (HBW.out.trans (B1.mono HBW.out.size)).alloc (HBW.out.trans (B1.mono HBW.out.size)).size _
  have lt1 : w.heap.size < w1.heap.size := by have := B1.size; have := HSW.out; omega
  generalize w1.alloc (.cells X 54) = w2 at *
  generalize w1.heap.size = g at *
  have HS1 := Lib.hid S1
  have HD1 := Lib.hid D1
  have HR1 := Lib.hid R1
  have Hb1 := Lib.hid b1
  clear S1 D1 R1 b1 B1 hzv
  go_upto_region 3 with fail
  have K0 : SH w g d 0 (w2.alloc (.cells Y 44)) := by
    refine ⟨HR1.out.alloc _, HD1.out.alloc _, ?_, Hb1.out.alloc Hb1.out.size _, lt1⟩
    have := Arr.new w2 .u8 44 (nz 12)
    rw [HS1.out, ← HY.out] at this; rw [part_zero]; exact this
  have e2 : w2.heap.size = g + 1 := HS1.out
  rw [e2]
  generalize w2.alloc (.cells Y 44) = w3 at *
  have HK0 := Lib.hid K0
  clear K0 e2 hyv
  go_wp2_with fail
  go_loopw [7] (fun i wr => ∃ j : Nat, j ≤ 12 ∧ i = .int .i64 j ∧ SH w g d j wr) (fun i _ => 12 - (intOf i).toNat)
  case atStart => exact ⟨0, by omega, rfl, HK0.out⟩
  case round =>
    obtain ⟨j, hj, rfl, KK⟩ := hrel
    have HK := Lib.hid KK
    by_cases hlt : j < 12
    · have cd := KK.rd.cell (j := j) (by rw [HDL.out]; omega)
      have cw := KK.ro.cell (j := j) (by rw [part_len (by rw [HDL.out]; omega) (by omega)]; omega)
      have fw := KK.ro.frozen j
      have hjz : (j : Int) < 12 := by omega
      have hjz2 : (j : Int) < 20 := by omega
      have HS := Lib.hid (KK.step (by rw [HDL.out]; omega) hlt)
      generalize d.getD j 0 = y at *
      clear KK
      go_wp2_with fail
      go_roundw
      case rel => exact ⟨j + 1, by omega, by go_num, HS.out⟩
      case measure => simp [intOf]; omega
    · have e : j = 12 := by omega
      subst e
      have hF : partL d 12 12 = shortL k msg := by unfold partL shortL nz; rw [HD.out]; simp
      have r1 := KK.ro
      rw [hF] at r1
      have G1 := Lib.hid r1.row
      have G2 := Lib.hid KK.r0.row
      have BQ := Lib.hid KK.bel
      have U5 := Lib.hid (show (Try.prog.info? 44).map (·.size) = some (((shortL k msg).map (Value.int .u8)).toArray).size by rw [b12_info]; simp [short_len])
      have L5 := Lib.hid (show (((nz 12).map (Value.int .u8)).toArray).size = (((shortL k msg).map (Value.int .u8)).toArray).size by simp [nz, short_len])
      clear hF r1 HK KK
      go_wp2_with (first
        | (refine wpList_load_row rfl 44 (.tmp 6) rfl (g + 1) rfl _ _ _ _ G1.out Try.underlying44 rfl U5.out ?_)
        | (refine wpList_store_row rfl 44 (.tmp 4) (.tmp 20) rfl w.heap.size _ rfl rfl _ _ G2.out U5.out L5.out (nums_one _) ?_))
      refine bodyPost_ret (v := .agg ((shortL k msg).map (Value.int .u8)).toArray) (results_cell_row Try.results32 _ _ w.heap.size _ _ _ _ (by rfl) (setRow_heap _ _ _ _ _ _ G2.out) Try.underlying44 rfl U5.out) rfl ⟨rfl, ?_⟩
      exact BQ.out.trans ⟨rfl, rfl, rfl, by simp, fun z hz => setRow_other _ _ _ _ (by omega)⟩
end Go.Proofs.Ythbgjjfhgbkbdaa.hmC

/-
  SHA-1 piece by piece: what a Sum holds of some bytes.
-/
namespace Go.Proofs.Ythbgjjfhgbkbdaa.shaN
open Go.ChangeShapes Go.WideShapes Go.ChangeAt Go.RowKit
open Go.Proofs.Ythbgjjfhgbkbdaa.memC Go.Proofs.Ythbgjjfhgbkbdaa.genC Go.Proofs.Ythbgjjfhgbkbdaa.shaM Go.Proofs.Ythbgjjfhgbkbdaa.shaC Go.Proofs.Ythbgjjfhgbkbdaa.butC
set_option linter.unusedVariables false
def sub (i x : Int) : Int := (x - i) % 4294967296
theorem w32_sub (i x : Int) : W32 (sub i x) := by unfold W32 sub; omega
/-- by how much the five grew -/
def gOf (h : List Int) : List Int := List.zipWith sub initH h
theorem ad_sub {i x : Int} (h : W32 x) : ad i (sub i x) = x := by unfold ad sub W32 at *; omega
theorem sub_ad (i x s : Int) : sub i (ad x s) = ad (sub i x) s := by unfold ad sub; omega
theorem gOf_back {h : List Int} (hl : h.length = 5) (hw : ∀ x ∈ h, W32 x) : List.zipWith ad initH (gOf h) = h := by
  obtain ⟨a, b, c, d, e, rfl⟩ := list5 hl
  simp only [List.mem_cons, List.not_mem_nil, or_false, forall_eq_or_imp, forall_eq] at hw
  obtain ⟨h0, h1, h2, h3, h4⟩ := hw
  simp only [gOf, initH, List.zipWith_cons_cons, List.zipWith_nil_right, ad_sub h0, ad_sub h1, ad_sub h2, ad_sub h3, ad_sub h4]
theorem gOf_step {h s : List Int} (hl : h.length = 5) (hs : s.length = 5) : gOf (List.zipWith ad h s) = List.zipWith ad (gOf h) s := by
  obtain ⟨a, b, c, d, e, rfl⟩ := list5 hl
  obtain ⟨a', b', c', d', e', rfl⟩ := list5 hs
  simp only [gOf, initH, List.zipWith_cons_cons, List.zipWith_nil_right, sub_ad]
theorem gOf_init : gOf initH = [0, 0, 0, 0, 0] := by decide
theorem gOf_len {h : List Int} (hl : h.length = 5) : (gOf h).length = 5 := by simp [gOf, initH, hl]
theorem gOf_w32 (h : List Int) : ∀ x ∈ gOf h, W32 x := by
  intro x hx
  unfold gOf at hx
  rw [List.zipWith_eq_zipWith_take_min] at hx
  obtain ⟨i, hi, rfl⟩ := List.mem_iff_getElem.1 hx
  simp only [List.getElem_zipWith]
  exact w32_sub _ _
/-- the five numbers behind the whole blocks of some bytes -/
def hashH (xs : List Int) : List Int := hashN xs (xs.length / 64)
/-- the bytes behind the whole blocks -/
def tailR (xs : List Int) : List Int := xs.drop (64 * (xs.length / 64))
theorem hashH_ok (xs : List Int) : (hashH xs).length = 5 ∧ ∀ x ∈ hashH xs, W32 x := hash_ok _ _
theorem tail_len (xs : List Int) : (tailR xs).length = xs.length % 64 := by unfold tailR; rw [List.length_drop]; omega
theorem hashN_app (xs ys : List Int) : ∀ k, 64 * k ≤ xs.length → hashN (xs ++ ys) k = hashN xs k
  | 0, _ => rfl
  | k + 1, h => by
    have e : ((xs ++ ys).drop (64 * k)).take 64 = (xs.drop (64 * k)).take 64 := by
      rw [List.drop_append_of_le_length (by omega), List.take_append_of_le_length (by rw [List.length_drop]; omega)]
    rw [hashN, hashN, hashN_app xs ys k (by omega), e]
theorem hash_stay {xs ys : List Int} (h : xs.length % 64 + ys.length < 64) : hashH (xs ++ ys) = hashH xs ∧ tailR (xs ++ ys) = tailR xs ++ ys := by
  have e : (xs ++ ys).length / 64 = xs.length / 64 := by rw [List.length_append]; omega
  unfold hashH tailR
  rw [e]
  exact ⟨hashN_app _ _ _ (by omega), List.drop_append_of_le_length (by omega)⟩
theorem hash_fill {xs ys : List Int} (h : xs.length % 64 + ys.length = 64) : hashH (xs ++ ys) = blk (hashH xs) (tailR xs ++ ys) ∧ tailR (xs ++ ys) = [] := by
  have e : (xs ++ ys).length / 64 = xs.length / 64 + 1 := by rw [List.length_append]; omega
  unfold hashH tailR
  rw [e]
  refine ⟨?_, List.drop_eq_nil_of_le (by rw [List.length_append]; omega)⟩
  rw [hashN, hashN_app _ _ _ (by omega), List.drop_append_of_le_length (by omega), List.take_of_length_le (by rw [List.length_append, List.length_drop]; omega)]
def zs (n : Nat) : List Int := List.replicate n 0
theorem zs_add (a b : Nat) : zs a ++ zs b = zs (a + b) := List.replicate_append_replicate
/-- a Sum's block: the bytes behind the whole blocks, and 0s -/
def restL (xs : List Int) : List Int := tailR xs ++ zs (64 - xs.length % 64)
theorem rest_len (xs : List Int) : (restL xs).length = 64 := by unfold restL zs; rw [List.length_append, tail_len, List.length_replicate]; omega
theorem tail_byte {xs : List Int} (h : ∀ x ∈ xs, Byte x) : ∀ x ∈ tailR xs, Byte x := fun x hx => h x (List.mem_of_mem_drop hx)
theorem zs_byte (n : Nat) : ∀ x ∈ zs n, Byte x := fun x hx => by rw [List.eq_of_mem_replicate hx]; unfold Byte; omega
theorem app_byte {xs ys : List Int} (h : ∀ x ∈ xs, Byte x) (h' : ∀ x ∈ ys, Byte x) : ∀ x ∈ xs ++ ys, Byte x := fun x hx => (List.mem_append.1 hx).elim (h x) (h' x)
theorem rest_byte {xs : List Int} (h : ∀ x ∈ xs, Byte x) : ∀ x ∈ restL xs, Byte x := app_byte (tail_byte h) (zs_byte _)
theorem rest_nil {xs : List Int} (h : xs.length % 64 = 0) : restL xs = zs 64 := by
  have : tailR xs = [] := List.eq_nil_of_length_eq_zero (by rw [tail_len]; exact h)
  unfold restL; rw [this, h]; rfl
/-- the bytes, filled up but for their number -/
def fullL (xs : List Int) : List Int := xs ++ 128 :: zs (zerosN xs.length)
theorem full_len (xs : List Int) : (fullL xs).length % 64 = 56 := by
  unfold fullL zs
  rw [List.length_append, List.length_cons, List.length_replicate]
  have := (zeros_spec xs.length).1
  omega
theorem full_near {xs : List Int} (h : (xs.length + 1) % 64 ≤ 56) : hashH (fullL xs) = hashH (xs ++ [128]) ∧ tailR (fullL xs) ++ zs 8 = restL (xs ++ [128]) := by
  have e : fullL xs = (xs ++ [128]) ++ zs (zerosN xs.length) := by unfold fullL; simp
  have hz : (xs ++ [128]).length % 64 + (zs (zerosN xs.length)).length = 56 := by
    rw [List.length_append]; unfold zs zerosN; simp; omega
  obtain ⟨h1, h2⟩ := hash_stay (xs := xs ++ [128]) (ys := zs (zerosN xs.length)) (by omega)
  rw [e, h1, h2]
  refine ⟨rfl, ?_⟩
  unfold restL
  rw [List.append_assoc]
  congr 1
  have h3 : (zs (zerosN xs.length)).length = zerosN xs.length := by simp [zs]
  have h4 : 64 - (xs ++ [128]).length % 64 = zerosN xs.length + 8 := by omega
  rw [h4, zs_add]
theorem full_far {xs : List Int} (h : 56 < (xs.length + 1) % 64) : hashH (fullL xs) = blk (hashH (xs ++ [128])) (restL (xs ++ [128])) ∧ tailR (fullL xs) ++ zs 8 = zs 64 := by
  have hl : (xs ++ [128]).length % 64 = (xs.length + 1) % 64 := by rw [List.length_append]; rfl
  obtain ⟨q, hq⟩ : ∃ q, q = 64 - (xs ++ [128]).length % 64 := ⟨_, rfl⟩
  have hz : zerosN xs.length = q + 56 := by unfold zerosN; omega
  have e : fullL xs = ((xs ++ [128]) ++ zs q) ++ zs 56 := by
    unfold fullL; rw [hz, ← zs_add]; simp
  obtain ⟨h1, h2⟩ := hash_fill (xs := xs ++ [128]) (ys := zs q) (by simp only [zs, List.length_replicate]; omega)
  have h5 : ((xs ++ [128]) ++ zs q).length % 64 = 0 := by rw [List.length_append]; simp only [zs, List.length_replicate]; omega
  obtain ⟨h3, h4⟩ := hash_stay (xs := (xs ++ [128]) ++ zs q) (ys := zs 56) (by rw [h5]; decide)
  rw [e, h3, h4, h1, h2]
  refine ⟨by unfold restL; rw [← hq], ?_⟩
  rw [List.nil_append, zs_add]
theorem pad_hash (xs : List Int) : hashH (padL xs) = blk (hashH (fullL xs)) (tailR (fullL xs) ++ lenB ((xs.length : Int) * 8)) :=
  (hash_fill (xs := fullL xs) (ys := lenB ((xs.length : Int) * 8)) (by rw [full_len]; rfl)).1
theorem sha_hash (xs : List Int) : shaL xs = (List.range 20).map (outB (hashH (padL xs))) := rfl
end Go.Proofs.Ythbgjjfhgbkbdaa.shaN

/-
  The code's small ones: going round, f and K, the first numbers.
-/
namespace Go.Proofs.Ythbgjjfhgbkbdaa.shaC
open Go.ChangeShapes Go.WideShapes Go.ChangeAt Go.RowKit
open Go.Proofs.Ythbgjjfhgbkbdaa.memC Go.Proofs.Ythbgjjfhgbkbdaa.genC Go.Proofs.Ythbgjjfhgbkbdaa.shaM Go.Proofs.Ythbgjjfhgbkbdaa.shaN Go.Proofs.Ythbgjjfhgbkbdaa.butC
set_option linter.unusedVariables false
theorem and31_1 : bits .and .u64 1 31 = 1 := by decide
theorem and31_5 : bits .and .u64 5 31 = 5 := by decide
theorem and31_30 : bits .and .u64 30 31 = 30 := by decide
theorem rotl_any (n : Int) (s : Nat) (w : World) (h : W32 n) (hs : s = 1 ∨ s = 5 ∨ s = 30) :
    Calls Try.prog 65 #[.int .u32 n, .int .i64 (s : Int)] w fun e w' => e = .returned (.int .u32 (rol n s)) ∧ w = w' := by
  obtain ⟨n0, n1⟩ := h
  have a1 := Lib.hid and31_1
  have a2 := Lib.hid and31_5
  have a3 := Lib.hid and31_30
  rcases hs with rfl | rfl | rfl
  · have b1 : bits .and .u64 1 31 = 1 := a1.out
    go_enter Try.func65, Try.ntmps65
    go_wp2_with fail
    go_ret
    exact ⟨rfl, rfl⟩
  · have b1 : bits .and .u64 5 31 = 5 := a2.out
    go_enter Try.func65, Try.ntmps65
    go_wp2_with fail
    go_ret
    exact ⟨rfl, rfl⟩
  · have b1 : bits .and .u64 30 31 = 30 := a3.out
    go_enter Try.func65, Try.ntmps65
    go_wp2_with fail
    go_ret
    exact ⟨rfl, rfl⟩
theorem pick_any (t : Nat) (b c d : Int) (w : World) (ht : t < 80) (hb : W32 b) (hc : W32 c) (hd : W32 d) :
    Calls Try.prog 64 #[.int .i64 (t : Int), .int .u32 b, .int .u32 c, .int .u32 d] w fun e w' => e = .returned (.tuple #[.int .u32 (fN t b c d), .int .u32 (kN t)]) ∧ w = w' := by
  obtain ⟨b0, b1⟩ := hb
  obtain ⟨c0, c1⟩ := hc
  obtain ⟨d0, d1⟩ := hd
  rcases (show t / 20 = 0 ∨ t / 20 = 1 ∨ t / 20 = 2 ∨ t / 20 = 3 by omega) with h | h | h | h
  · have H := Lib.hid h
    have e1 : (t : Int) < 20 := by omega
    clear h
    go_enter Try.func64, Try.ntmps64
    go_wp2_with fail
    go_ret2
    simp [fN, kN, H.out, an, ro, nt]
  · have H := Lib.hid h
    have e1 : ¬ (t : Int) < 20 := by omega
    have e2 : (t : Int) < 40 := by omega
    clear h
    go_enter Try.func64, Try.ntmps64
    go_wp2_with fail
    go_ret2
    simp [fN, kN, H.out, xo]
  · have H := Lib.hid h
    have e1 : ¬ (t : Int) < 20 := by omega
    have e2 : ¬ (t : Int) < 40 := by omega
    have e3 : (t : Int) < 60 := by omega
    clear h
    go_enter Try.func64, Try.ntmps64
    go_wp2_with fail
    go_ret2
    simp [fN, kN, H.out, an, ro]
  · have H := Lib.hid h
    have e1 : ¬ (t : Int) < 20 := by omega
    have e2 : ¬ (t : Int) < 40 := by omega
    have e3 : ¬ (t : Int) < 60 := by omega
    clear h
    go_enter Try.func64, Try.ntmps64
    go_wp2_with fail
    go_ret2
    simp [fN, kN, H.out, xo]
end Go.Proofs.Ythbgjjfhgbkbdaa.shaC
