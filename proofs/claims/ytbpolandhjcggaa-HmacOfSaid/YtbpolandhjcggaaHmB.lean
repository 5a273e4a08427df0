/-
  The document's hmac: turned.
-/
import Derived.Test.YtbpolandhjcggaaHmA
namespace Go.Proofs.Ytbpolandhjcggaa.hmC
open Go.ChangeShapes Go.WideShapes Go.ChangeAt Go.RowKit
open Go.Proofs.Ytbpolandhjcggaa.memC Go.Proofs.Ytbpolandhjcggaa.genC Go.Proofs.Ytbpolandhjcggaa.shaM Go.Proofs.Ytbpolandhjcggaa.shaC Go.Proofs.Ytbpolandhjcggaa.butC Go.Proofs.Ytbpolandhjcggaa.hmM
set_option linter.unusedVariables false
/-- a slice that is the call's own -/
def OwnR (w : World) (T : List Int) (n : Nat) (e : Ending) (w' : World) : Prop :=
  ∃ A c, e = .returned (.slice A n c) ∧ n ≤ c ∧ c ≤ maxLen ∧ Own .u8 5 w' w.heap.size (.slice A n c) T ∧ Below w.heap.size w w'
/-- while the turned bytes are laid -/
def TurnR (W : World) (g : Nat) (ks T : List Int) (j : Nat) (v : Value) (wr : World) : Prop :=
  ∃ A c, v = .slice A j c ∧ j ≤ c ∧ c ≤ maxLen ∧ Own .u8 5 wr W.heap.size (.slice A j c) (T.take j) ∧ Below W.heap.size W wr ∧ Arr .u8 31 wr g ks
set_option maxRecDepth 100000 in
set_option maxHeartbeats 1000000 in
theorem turned_any (A : Option Addr) (n c : Nat) (k : List Int) (y : Int) (w : World) (hb : Nums .u8 w w.heap.size A n k) (hy : ∀ x ∈ k, Byte x) (hn : n ≤ 20000) (y0 : 0 ≤ y) (y1 : y ≤ 255) :
    Calls Try.prog 19 #[.slice A n c, .int .u8 y] w (OwnR w (turnL k y) 64) := by
  obtain ⟨i0, hi0, hz0, hz1, hz2⟩ := info_parts byte_info
  have T1 := Lib.hid hi0; have T2 := Lib.hid hz0; have T3 := Lib.hid hz1; have T4 := Lib.hid hz2
  obtain ⟨Z, hZ⟩ : ∃ Z, Z = ((nz 64).map (Value.int .u8)).toArray := ⟨_, rfl⟩
  have hzv := z64
  rw [← hZ] at hzv
  obtain ⟨X, hX⟩ : ∃ X, X = ((blkL k).map (Value.int .u8)).toArray := ⟨_, rfl⟩
  have U1 := Lib.hid (show (Try.prog.info? 31).map (·.size) = some X.size by rw [b64_info, hX]; simp [blk_len])
  have ZS := Lib.hid (show Z.size = X.size by rw [hZ, hX]; simp [nz, blk_len])
  have HO := Lib.hid (show X.all (·.oneCell') = true by rw [hX]; exact nums_one _)
  have BL := Lib.hid ((block5_any A n c k w hb hy hn).mono fun e w' h => (show e = .returned (.agg X) ∧ Below w.heap.size w w' from ⟨by rw [hX]; exact h.1, h.2⟩))
  have HX := Lib.hid hX
  have HY := Lib.hid (blk_byte hy)
  clear hZ hX hb hy hi0 hz0 hz1 hz2
  go_enter Try.func19, Try.ntmps19
  go_upto_region 2 with (first
    | (go_at_call 14; (with_reducible refine BL.out.mono ?_); rintro e w1 ⟨rfl, B1⟩)
    | (refine wpList_store_row rfl 31 (.tmp 5) (.tmp 9) rfl w1.heap.size X rfl rfl _ _ (heap_alloc_new _ _) U1.out ZS.out HO.out ?_))
  rw [World.setRow_alloc_new]
  have A1 : Arr .u8 31 (w1.alloc (.cells X 31)) w1.heap.size (blkL k) := by rw [HX.out]; exact Arr.new w1 .u8 31 (blkL k)
  have BW : Below w.heap.size w (w1.alloc (.cells X 31)) := B1.alloc B1.size _
  generalize w1.alloc (.cells X 31) = W at *
  generalize w1.heap.size = g at *
  have R0 : TurnR W g (blkL k) (turnL k y) 0 (.slice none 0 0) W := ⟨none, 0, rfl, Nat.le_refl _, Nat.zero_le _, by rw [List.take_zero]; exact Own.nil _ _, Below.refl _ _, A1⟩
  have HR0 := Lib.hid R0
  have HBW := Lib.hid BW
  have HG := Lib.hid A1.lt
  clear R0 BW A1 B1 hzv
  go_wp2_with fail
  go_loopw [6, 7] (fun v i wr => ∃ j : Nat, j ≤ 64 ∧ i = .int .i64 j ∧ TurnR W g (blkL k) (turnL k y) j v wr) (fun _ i _ => 64 - (intOf i).toNat)
  case atStart => exact ⟨0, by omega, rfl, HR0.out⟩
  case round =>
    obtain ⟨j, hj, rfl, A4, c4, rfl, g4, g4', O4, B4, R4⟩ := hrel
    by_cases hlt : j < 64
    · have cc := R4.cell (j := j) (by rw [blk_len]; exact hlt)
      have hjz : (j : Int) < 64 := by omega
      have hx := getD_byte HY.out (k := j) (by rw [blk_len]; exact hlt)
      have hT : (turnL k y).take j ++ [bits .xor .u8 ((blkL k).getD j 0) y] = (turnL k y).take (j + 1) := by
        rw [List.take_succ_eq_append_getElem (by rw [turn_len]; exact hlt)]
        congr 2
        simp [turnL, List.getD_eq_getElem?_getD, blk_len, hlt]
      have hl : ((turnL k y).take j).length = j := by rw [List.length_take, turn_len]; omega
      have HLl := Lib.hid hl
      have HTT := Lib.hid hT
      have HR4 := Lib.hid R4
      have HB4 := Lib.hid B4
      generalize (blkL k).getD j 0 = x at *
      obtain ⟨x0, x1⟩ := hx
      have S4 := B4.size
      clear hT hl R4 B4
      go_wp2_with (first
        | (at_builtin; (refine wpList_app1T _ rfl (.tmp 14) (.tmp 20) _ rfl 5 i0 _ 1 Try.underlying22 T1.out T2.out T3.out T4.out rfl W.heap.size _ _ rfl O4 _ rfl (by rw [HLl.out]; simp only [maxLen]; omega) (by rw [HLl.out]; omega) S4 (j + 1) (by rw [HLl.out]) ?_)
           intro A5 c5 w5 g5 g5' O5 B5
           have P5 := Lib.hid (show TurnR W g (blkL k) (turnL k y) (j + 1) (.slice A5 (j + 1) c5) w5 from ⟨A5, c5, rfl, g5, g5', by rw [← HTT.out]; exact O5, HB4.out.trans B5, HR4.out.below B5 HG.out⟩)
           clear O5 B5 g5 g5'))
      clear cc
      go_roundw
      case rel => exact ⟨j + 1, by omega, by go_num, P5.out⟩
      case measure => simp [intOf]; omega
    · have e : j = 64 := by omega
      subst e
      have O6 := Lib.hid O4
      have B6 := Lib.hid B4
      clear O4 B4 R4 hlt hj
      go_wp2_with fail
      go_ret
      refine ⟨A4, c4, rfl, g4, g4', ?_, HBW.out.trans (B6.out.mono HBW.out.size)⟩
      have := O6.out
      rw [List.take_of_length_le (by rw [turn_len]; exact Nat.le_refl _)] at this
      exact this.less HBW.out.size
end Go.Proofs.Ytbpolandhjcggaa.hmC
