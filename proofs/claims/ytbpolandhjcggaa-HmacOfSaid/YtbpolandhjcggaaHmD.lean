/-
  The document's hmac: Short; a MAC that is known.
-/
import Derived.Test.YtbpolandhjcggaaHmC
namespace Go.Proofs.Ytbpolandhjcggaa.hmC
open Go.ChangeShapes Go.WideShapes Go.ChangeAt Go.RowKit
open Go.Proofs.Ytbpolandhjcggaa.memC Go.Proofs.Ytbpolandhjcggaa.genC Go.Proofs.Ytbpolandhjcggaa.shaM Go.Proofs.Ytbpolandhjcggaa.shaC Go.Proofs.Ytbpolandhjcggaa.butC Go.Proofs.Ytbpolandhjcggaa.hmM Go.Proofs.Ytbpolandhjcggaa.freeC
set_option linter.unusedVariables false
theorem known_mac : macL (List.replicate 20 11) [72, 105, 32, 84, 104, 101, 114, 101] = [182, 23, 49, 134, 85, 5, 114, 100, 226, 139, 192, 182, 251, 55, 140, 142, 241, 70, 190, 0] := by decide +kernel
theorem z12_info : (Try.prog.info? 28).map (·.zero) = some (some (.agg ((nz 12).map (Value.int .u8)).toArray)) := by kernel_rfl
theorem z12 (w : World) : (zeroValue 28).run Try.prog w = .ok (.agg ((nz 12).map (Value.int .u8)).toArray) w := by
  obtain ⟨i, hi, hz⟩ := Option.map_eq_some_iff.1 z12_info
  simp [zeroValue, typeInfo, hi, hz]
theorem b12_info : (Try.prog.info? 28).map (·.size) = some 12 := by kernel_rfl
theorem short_len (k m : List Int) : (shortL k m).length = 12 := by unfold shortL; rw [List.length_take, mac_len]; decide
/-- the blocks that a call of Short lays -/
structure SH (w : World) (g : Nat) (d : List Int) (j : Nat) (wr : World) : Prop where
  r0 : Arr .u8 28 wr w.heap.size (nz 12)
  rd : Arr .u8 25 wr g d
  ro : Arr .u8 28 wr (g + 1) (partL d 12 j)
  bel : Below w.heap.size w wr
  lt : w.heap.size < g
theorem SH.step {w wr : World} {g : Nat} {d : List Int} {j : Nat} (h : SH w g d j wr) (hj : j < d.length) (hl : j < 12) : SH w g d (j + 1) (wr.setCell ⟨g + 1, j, none⟩ (.int .u8 (d.getD j 0))) := by
  have := h.lt
  refine ⟨h.r0.other (by show g + 1 ≠ w.heap.size; omega) _, h.rd.other (by show g + 1 ≠ g; omega) _, ?_, h.bel.setCell (p := ⟨g + 1, j, none⟩) (by show w.heap.size ≤ g + 1; omega) _, h.lt⟩
  rw [← part_set hj hl]; exact h.ro.stored j _
def ShortRet (w : World) (k msg : List Int) (e : Ending) (w' : World) : Prop := e = .returned (.agg ((shortL k msg).map (Value.int .u8)).toArray) ∧ Below w.heap.size w w'
set_option maxRecDepth 100000 in
set_option maxHeartbeats 1000000 in
theorem short_any (A : Option Addr) (n c : Nat) (A2 : Option Addr) (n2 c2 : Nat) (k msg : List Int) (w : World) (hb : Nums .u8 w w.heap.size A n k) (hb2 : Nums .u8 w w.heap.size A2 n2 msg) (hy : ∀ x ∈ k, Byte x) (hy2 : ∀ x ∈ msg, Byte x) (hn : n ≤ 20000) (hn2 : n2 ≤ 10000) :
    Calls Try.prog 12 #[.slice A n c, .slice A2 n2 c2] w (ShortRet w k msg) := by
  obtain ⟨Z, hZ⟩ : ∃ Z, Z = ((nz 20).map (Value.int .u8)).toArray := ⟨_, rfl⟩
  have hzv := z20
  rw [← hZ] at hzv
  obtain ⟨Y, hY⟩ : ∃ Y, Y = ((nz 12).map (Value.int .u8)).toArray := ⟨_, rfl⟩
  have hyv := z12
  rw [← hY] at hyv
  obtain ⟨d, hd⟩ : ∃ d, d = macL k msg := ⟨_, rfl⟩
  have hdl : d.length = 20 := by rw [hd]; exact mac_len _ _
  obtain ⟨X, hX⟩ : ∃ X, X = (d.map (Value.int .u8)).toArray := ⟨_, rfl⟩
  have U0 := Lib.hid (show (Try.prog.info? 25).map (·.size) = some X.size by rw [digest_info, hX]; simp [hdl])
  have ZS := Lib.hid (show Z.size = X.size by rw [hZ, hX]; simp [nz, hdl])
  have HO := Lib.hid (show X.all (·.oneCell') = true by rw [hX]; exact nums_one _)
  have SW := alloc_size w (.cells Y 28)
  have BW := alloc_below w (.cells Y 28)
  have RW : Arr .u8 28 (w.alloc (.cells Y 28)) w.heap.size (nz 12) := by rw [hY]; exact Arr.new w .u8 28 (nz 12)
  have MC := Lib.hid (fun (w' : World) (B : Below w.heap.size w w') => (mac_any A n c A2 n2 c2 k msg w' ((hb.below B).more B.size) ((hb2.below B).more B.size) hy hy2 hn hn2).mono fun e w'' h => (show e = .returned (.agg X) ∧ Below w'.heap.size w' w'' from ⟨by rw [hX, hd]; exact h.1, h.2⟩))
  have HX := Lib.hid hX
  have HD := Lib.hid hd
  have HDL := Lib.hid hdl
  have HY := Lib.hid hY
  have HSW := Lib.hid SW
  have HBW := Lib.hid BW
  have HRW := Lib.hid RW
  clear hZ hX hY hd hdl hb hb2 hy hy2 SW BW RW
  go_enter Try.func12, Try.ntmps12
  go_upto_region 1 with fail
  generalize w.alloc (.cells Y 28) = W at *
  go_upto_region 2 with (first
    | (go_at_call 10; (with_reducible refine (MC.out _ HBW.out).mono ?_); rintro e w1 ⟨rfl, B1⟩)
    | (refine wpList_store_row rfl 25 (.tmp 5) (.tmp 10) rfl w1.heap.size X rfl rfl _ _ (heap_alloc_new _ _) U0.out ZS.out HO.out ?_))
  rw [World.setRow_alloc_new]
  have S1 := alloc_size w1 (.cells X 25)
  have D1 : Arr .u8 25 (w1.alloc (.cells X 25)) w1.heap.size d := by rw [HX.out]; exact Arr.new w1 .u8 25 d
  have R1 := (HRW.out.below B1 HRW.out.lt).alloc (.cells X 25)
  have b1 : Below w.heap.size w (w1.alloc (.cells X 25)) := (HBW.out.trans (B1.mono HBW.out.size)).alloc (HBW.out.trans (B1.mono HBW.out.size)).size _
  have lt1 : w.heap.size < w1.heap.size := by have := B1.size; have := HSW.out; omega
  generalize w1.alloc (.cells X 25) = w2 at *
  generalize w1.heap.size = g at *
  have HS1 := Lib.hid S1
  have HD1 := Lib.hid D1
  have HR1 := Lib.hid R1
  have Hb1 := Lib.hid b1
  clear S1 D1 R1 b1 B1 hzv
  go_upto_region 3 with fail
  have K0 : SH w g d 0 (w2.alloc (.cells Y 28)) := by
    refine ⟨HR1.out.alloc _, HD1.out.alloc _, ?_, Hb1.out.alloc Hb1.out.size _, lt1⟩
    have := Arr.new w2 .u8 28 (nz 12)
    rw [HS1.out, ← HY.out] at this; rw [part_zero]; exact this
  have e2 : w2.heap.size = g + 1 := HS1.out
  rw [e2]
  generalize w2.alloc (.cells Y 28) = w3 at *
  have HK0 := Lib.hid K0
  clear K0 e2 hyv
  go_wp2_with fail
  go_loopw [7] (fun i wr => ∃ j : Nat, j ≤ 12 ∧ i = .int .i64 j ∧ SH w g d j wr) (fun i _ => 12 - (intOf i).toNat)
  case atStart => exact ⟨0, by omega, rfl, HK0.out⟩
  case round =>
    obtain ⟨j, hj, rfl, KK⟩ := hrel
    have HK := Lib.hid KK
    by_cases hlt : j < 12
    · have cd := KK.rd.cell (j := j) (by rw [HDL.out]; omega)
      have cw := KK.ro.cell (j := j) (by rw [part_len (by rw [HDL.out]; omega) (by omega)]; omega)
      have fw := KK.ro.frozen j
      have hjz : (j : Int) < 12 := by omega
      have hjz2 : (j : Int) < 20 := by omega
      have HS := Lib.hid (KK.step (by rw [HDL.out]; omega) hlt)
      generalize d.getD j 0 = y at *
      clear KK
      go_wp2_with fail
      go_roundw
      case rel => exact ⟨j + 1, by omega, by go_num, HS.out⟩
      case measure => simp [intOf]; omega
    · have e : j = 12 := by omega
      subst e
      have hF : partL d 12 12 = shortL k msg := by unfold partL shortL nz; rw [HD.out]; simp
      have r1 := KK.ro
      rw [hF] at r1
      have G1 := Lib.hid r1.row
      have G2 := Lib.hid KK.r0.row
      have BQ := Lib.hid KK.bel
      have U5 := Lib.hid (show (Try.prog.info? 28).map (·.size) = some (((shortL k msg).map (Value.int .u8)).toArray).size by rw [b12_info]; simp [short_len])
      have L5 := Lib.hid (show (((nz 12).map (Value.int .u8)).toArray).size = (((shortL k msg).map (Value.int .u8)).toArray).size by simp [nz, short_len])
      clear hF r1 HK KK
      go_wp2_with (first
        | (refine wpList_load_row rfl 28 (.tmp 6) rfl (g + 1) rfl _ _ _ _ G1.out Try.underlying28 rfl U5.out ?_)
        | (refine wpList_store_row rfl 28 (.tmp 4) (.tmp 20) rfl w.heap.size _ rfl rfl _ _ G2.out U5.out L5.out (nums_one _) ?_))
      refine bodyPost_ret (v := .agg ((shortL k msg).map (Value.int .u8)).toArray) (results_cell_row Try.results12 _ _ w.heap.size _ _ _ _ (by rfl) (setRow_heap _ _ _ _ _ _ G2.out) Try.underlying28 rfl U5.out) rfl ⟨rfl, ?_⟩
      exact BQ.out.trans ⟨rfl, rfl, rfl, by simp, fun z hz => setRow_other _ _ _ _ (by omega)⟩
end Go.Proofs.Ytbpolandhjcggaa.hmC
