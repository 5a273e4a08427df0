/-
  7 texts of a proof, joined.
-/
import Derived.Test.YthbgjjfhgbkbdaaMg6
import Derived.Test.YthbgjjfhgbkbdaaMg11
import Derived.Laws.CopyOwn
import Derived.Test.YthbgjjfhgbkbdaaMg3
import Derived.Laws.StructEq
import Derived.ChangeKeysEq
import Derived.Test.YthbgjjfhgbkbdaaMg5
import Derived.Great.BuildSlice
import Derived.Deep.CutRange
import Derived.StillTactics
import Derived.StillTailTactics
import Derived.Deep.LoopGhost
import Derived.Deep.WholeRow
import Derived.Deep.Matrix
import Derived.Deep.RegionWith
import Derived.RegionTactic

/-
  The code's hmac: begun.
-/
namespace Go.Proofs.Ythbgjjfhgbkbdaa.hmC
open Go.ChangeShapes Go.WideShapes Go.ChangeAt Go.RowKit
open Go.Proofs.Ythbgjjfhgbkbdaa.memC Go.Proofs.Ythbgjjfhgbkbdaa.genC Go.Proofs.Ythbgjjfhgbkbdaa.shaM Go.Proofs.Ythbgjjfhgbkbdaa.shaC Go.Proofs.Ythbgjjfhgbkbdaa.shaN Go.Proofs.Ythbgjjfhgbkbdaa.butC Go.Proofs.Ythbgjjfhgbkbdaa.hmM Go.Proofs.Ythbgjjfhgbkbdaa.freeC Go.Proofs.Ythbgjjfhgbkbdaa.partsC
set_option linter.unusedVariables false
/-- numbers, each of which is turned -/
def xorL (ks : List Int) (y : Int) : List Int := ks.map fun x => bits .xor .u8 x y
/-- the first j are -/
def xorP (ks : List Int) (y : Int) (j : Nat) : List Int := xorL (ks.take j) y ++ ks.drop j
theorem xorL_len (ks : List Int) (y : Int) : (xorL ks y).length = ks.length := by simp [xorL]
theorem xorL_byte (ks : List Int) (y : Int) : ∀ x ∈ xorL ks y, Byte x := by
  intro x hx
  obtain ⟨z, _, rfl⟩ := List.mem_map.1 hx
  exact bounds_u8 (wf_bits .xor .u8 z y)
theorem xorP_zero (ks : List Int) (y : Int) : xorP ks y 0 = ks := by simp [xorP, xorL]
theorem xorP_len (ks : List Int) (y : Int) (j : Nat) : (xorP ks y j).length = ks.length := by simp [xorP, xorL]; omega
theorem xorP_get {ks : List Int} {y : Int} {j : Nat} (h : j < ks.length) : (xorP ks y j).getD j 0 = ks.getD j 0 := by
  have e : (xorL (ks.take j) y).length = j := by rw [xorL_len, List.length_take]; omega
  unfold xorP
  rw [List.getD_eq_getElem?_getD, List.getElem?_append_right (by omega), e, Nat.sub_self, List.getElem?_drop, Nat.add_zero, List.getD_eq_getElem?_getD]
theorem xorP_set {ks : List Int} {y : Int} {j : Nat} (h : j < ks.length) : (xorP ks y j).set j (bits .xor .u8 (ks.getD j 0) y) = xorP ks y (j + 1) := by
  have e : (xorL (ks.take j) y).length = j := by rw [xorL_len, List.length_take]; omega
  unfold xorP
  rw [List.set_append_right _ _ (by omega), e, Nat.sub_self, List.drop_eq_getElem_cons h, List.set_cons_zero, List.take_succ_eq_append_getElem h, List.getD_eq_getElem?_getD, List.getElem?_eq_getElem h]
  simp only [xorL, List.map_append, List.map_cons, List.map_nil, List.append_assoc, List.cons_append, List.nil_append, Option.getD_some]
theorem xorP_all (ks : List Int) (y : Int) : xorP ks y ks.length = xorL ks y := by simp [xorP]
theorem turn_xor (k : List Int) (y : Int) : turnL k y = xorL (blkL k) y := rfl
/-- the blocks that a call of begun lays -/
structure BR (w : World) (Z : Array Value) (b : List Int) (wr : World) : Prop where
  arr : Arr .u8 69 wr w.heap.size b
  res : wr.heap[w.heap.size + 1]? = some (.cells Z 73 (0, 0))
  bel : Below w.heap.size w wr
theorem BR.step {w wr : World} {Z : Array Value} {b : List Int} (h : BR w Z b wr) (j : Nat) (x : Int) : BR w Z (b.set j x) (wr.setCell ⟨w.heap.size, j, none⟩ (.int .u8 x)) :=
  ⟨h.arr.stored j x, by rw [heap_setCell_other wr _ _ _ (by show w.heap.size + 1 ≠ w.heap.size; omega)]; exact h.res, h.bel.setCell (p := ⟨w.heap.size, j, none⟩) (Nat.le_refl _) _⟩
/-- .. and while the Sum is made -/
structure BJ (w0 : World) (bs : List Int) (Z S0 S1 : Array Value) (m : Nat → Bool) (us : Nat → Value) (w : World) : Prop where
  bel : Below w0.heap.size w0 w
  res : w.heap[w0.heap.size + 1]? = some (.cells (if m 3 then S1 else Z) 73 (0, 0))
  arr : Arr .u8 69 w w0.heap.size bs
  v0 : m 0 = true → us 0 = .agg S0
  v1 : m 1 = true → us 1 = .slice (some ⟨w0.heap.size, 0, none⟩) 64 64
  v2 : m 2 = true → us 2 = .agg S1
  sz : w0.heap.size + 1 < w.heap.size
section
variable {w0 w w' : World} {bs : List Int} {Z S0 S1 : Array Value} {m : Nat → Bool} {us : Nat → Value}
theorem BJ.ext (h : BJ w0 bs Z S0 S1 m us w) (hb : Below w.heap.size w w') : BJ w0 bs Z S0 S1 m us w' :=
  ⟨h.bel.trans (hb.mono h.bel.size), (hb.block _ h.sz).trans h.res, h.arr.below hb h.arr.lt, h.v0, h.v1, h.v2, Nat.lt_of_lt_of_le h.sz hb.size⟩
theorem BJ.s0 (h : BJ w0 bs Z S0 S1 m us w) (hb : Below w.heap.size w w') : BJ w0 bs Z S0 S1 (upd m 0 true) (upd us 0 (.agg S0)) w' := by
  have h' := h.ext hb
  exact ⟨h'.bel, h'.res, h'.arr, fun _ => rfl, h'.v1, h'.v2, h'.sz⟩
theorem BJ.s1 (h : BJ w0 bs Z S0 S1 m us w) : BJ w0 bs Z S0 S1 (upd m 1 true) (upd us 1 (.slice (some ⟨w0.heap.size, 0, none⟩) 64 64)) w :=
  ⟨h.bel, h.res, h.arr, h.v0, fun _ => rfl, h.v2, h.sz⟩
theorem BJ.s2 (h : BJ w0 bs Z S0 S1 m us w) (hb : Below w.heap.size w w') : BJ w0 bs Z S0 S1 (upd m 2 true) (upd us 2 (.agg S1)) w' := by
  have h' := h.ext hb
  exact ⟨h'.bel, h'.res, h'.arr, h'.v0, h'.v1, fun _ => rfl, h'.sz⟩
theorem BJ.r3 (h : BJ w0 bs Z S0 S1 m us w) (hm : m 3 = false) : w.heap[w0.heap.size + 1]? = some (.cells Z 73 (0, 0)) := by
  have := h.res
  rw [hm] at this; exact this
theorem BJ.s3 (h : BJ w0 bs Z S0 S1 m us w) (hm : m 3 = false) : BJ w0 bs Z S0 S1 (upd m 3 true) (upd us 3 undef) (w.setRow (w0.heap.size + 1) S1) :=
  ⟨h.bel.trans ⟨rfl, rfl, rfl, by simp, fun g hg => setRow_other _ _ _ _ (by omega)⟩, setRow_heap _ _ _ _ _ _ (h.r3 hm), ⟨by rw [setRow_other _ _ _ _ (by omega)]; exact h.arr.row⟩, h.v0, h.v1, h.v2, by simpa using h.sz⟩
end
def tabB : List (Option Nat) := [none, none, none, none, none, none, none, none, none, none, none, none, none, none, none, none, some 0, some 1, some 2]
set_option maxRecDepth 100000 in
set_option maxHeartbeats 1000000 in
theorem begun_any (ks : List Int) (y : Int) (w : World) (hk : ks.length = 64) (hy : ∀ x ∈ ks, Byte x) (y0 : 0 ≤ y) (y1 : y ≤ 255) :
    Calls Try.prog 36 #[.agg (ks.map (Value.int .u8)).toArray, .int .u8 y] w (SumRet w (xorL ks y)) := by
  obtain ⟨Z, hZ⟩ : ∃ Z, Z = zeroC.toArray := ⟨_, rfl⟩
  have hzv := zero70
  rw [← hZ] at hzv
  obtain ⟨K, hK⟩ : ∃ K, K = (ks.map (Value.int .u8)).toArray := ⟨_, rfl⟩
  have hk64 : K.size = 64 := by rw [hK]; simp [hk]
  obtain ⟨S0, hS0⟩ : ∃ S, S = (sumL []).toArray := ⟨_, rfl⟩
  obtain ⟨S1, hS1⟩ : ∃ S, S = (sumL (xorL ks y)).toArray := ⟨_, rfl⟩
  have HNW := Lib.hid (fun w' : World => (new_any w').mono fun e w'' h => (show e = .returned (.agg S0) ∧ Below w'.heap.size w' w'' from ⟨by rw [hS0]; exact h.1, h.2⟩))
  have HAD := Lib.hid (fun (w' : World) (A : Arr .u8 69 w' w.heap.size (xorL ks y)) => (show Calls Try.prog 37 #[.agg S0, .slice (some ⟨w.heap.size, 0, none⟩) 64 64] w' fun e w'' => e = .returned (.agg S1) ∧ Below w'.heap.size w' w'' from by
    rw [hS0, hS1]
    exact (add_any [] (xorL ks y) (some ⟨w.heap.size, 0, none⟩) 64 64 w' (A.part (by rw [xorL_len, hk])) (Nat.le_refl _) (by decide) (by simp) (xorL_byte ks y) (by decide)).mono fun e w'' h => ⟨h.1, h.2⟩))
  have U1 := Lib.hid (show (Try.prog.info? 73).map (·.size) = some S1.size by rw [sum_info, hS1]; simp [sumL_len])
  have ZS := Lib.hid (show Z.size = S1.size by rw [hZ, hS1]; simp [sumL_len]; rfl)
  have HO := Lib.hid (show S1.all (·.oneCell') = true by rw [hS1]; exact sumC_one _ _ _)
  have HS1 := Lib.hid hS1
  have e1 : (w.alloc (.cells K 69)).heap.size = w.heap.size + 1 := alloc_size _ _
  have R0 : BR w Z (xorP ks y 0) ((w.alloc (.cells K 69)).alloc (.cells Z 73)) := by
    rw [xorP_zero]
    refine ⟨?_, ?_, ((Below.refl _ _).alloc (Nat.le_refl _) _).alloc (by simp) _⟩
    · rw [hK]; exact (Arr.new w .u8 69 ks).alloc _
    · rw [← e1]; exact heap_alloc_new _ _
  have HR0 := Lib.hid R0
  have HL := Lib.hid hk
  have HY := Lib.hid hy
  rw [← hK]
  clear hZ hK hS0 hS1 R0 e1 hk hy
  go_enter Try.func36, Try.ntmps36
  go_wp2_with fail
  go_loopw [6] (fun i wr => ∃ j : Nat, j ≤ 64 ∧ i = .int .i64 j ∧ BR w Z (xorP ks y j) wr) (fun i _ => 64 - (intOf i).toNat)
  case atStart => exact ⟨0, by omega, rfl, HR0.out⟩
  case round =>
    obtain ⟨j, hj, rfl, KK⟩ := hrel
    have HK := Lib.hid KK
    by_cases hlt : j < 64
    · have hjl : j < ks.length := by rw [HL.out]; exact hlt
      have cw := KK.arr.cell (j := j) (by rw [xorP_len]; exact hjl)
      have fw := KK.arr.frozen j
      rw [xorP_get hjl] at cw
      have hx := getD_byte HY.out hjl
      have hjz : (j : Int) < 64 := by omega
      have hst := KK.step j (bits .xor .u8 (ks.getD j 0) y)
      rw [xorP_set hjl] at hst
      have HS := Lib.hid hst
      generalize ks.getD j 0 = x at *
      obtain ⟨x0, x1⟩ := hx
      clear KK hst
      go_wp2_with fail
      go_roundw
      case rel => exact ⟨j + 1, by omega, by go_num, HS.out⟩
      case measure => simp [intOf]; omega
    · have e : j = ks.length := by rw [HL.out]; omega
      have KB := KK.arr
      rw [e, xorP_all] at KB
      have J0 : BJ w (xorL ks y) Z S0 S1 (fun _ => false) (fun _ => undef) wr.drew :=
        ⟨KK.bel.drew, KK.res, KB.heap rfl, fun h => (by cases h), fun h => (by cases h), fun h => (by cases h), (Array.getElem?_eq_some_iff.1 KK.res).1⟩
      have HJ0 := Lib.hid J0
      have hjz : ¬ (j : Int) < 64 := by omega
      clear KB J0 e KK HK hlt
      go_upto_region 6 with fail
      refine with_act fun a0 ha0 => ?_
      have hl : tabB.length = a0.tmps.size := by rw [ha0]; rfl
      have k2 : a0.tmps[2]?.getD undef = .pointer (some ⟨w.heap.size, 0, none⟩) := by rw [ha0]; rfl
      have k4 : a0.tmps[4]?.getD undef = .pointer (some ⟨w.heap.size + 1, 0, none⟩) := by rw [ha0]; rfl
      refine wp_region_J (by kernel_rfl) tabB (by kernel_rfl) (by kernel_rfl) hl (fun _ => undef) (by rw [ha0]; rfl) (BJ w (xorL ks y) Z S0 S1) HJ0.out ⟨?_, ?_, ?_, ?_, trivial⟩ ?_
      · refine stepJ [] (by kernel_rfl) rfl fun m us w' hJ hmi hd => ?_
        generalize frame tabB a0 us = fr at *
        refine call_J (f := 50) (args := #[]) (by go_simp) ((HNW.out w').mono ?_)
        rintro e w'' ⟨rfl, B⟩
        exact ⟨_, rfl, hJ.s0 B⟩
      · refine stepJ [] (by kernel_rfl) rfl fun m us w' hJ hmi hd => ?_
        have o2 := (frame_old2 (us := us) (a := a0) (show (tabB[2]?).join = none from rfl)).trans k2
        generalize frame tabB a0 us = fr at *
        exact val_J (v := .slice (some ⟨w.heap.size, 0, none⟩) 64 64) (w' := w') (by go_simp) hJ.s1
      · refine stepJ [0, 1] (by kernel_rfl) rfl fun m us w' hJ hmi hd => ?_
        have v0 := (frame_at2 (us := us) hl (show (tabB[16]?).join = some 0 from rfl)).trans (hJ.v0 (hd 0 (by simp)))
        have v1 := (frame_at2 (us := us) hl (show (tabB[17]?).join = some 1 from rfl)).trans (hJ.v1 (hd 1 (by simp)))
        generalize frame tabB a0 us = fr at *
        refine call_J (f := 37) (args := #[.agg S0, .slice (some ⟨w.heap.size, 0, none⟩) 64 64]) (by go_simp) ((HAD.out w' hJ.arr).mono ?_)
        rintro e w'' ⟨rfl, B⟩
        exact ⟨_, rfl, hJ.s2 B⟩
      · refine stepJ [2] (by kernel_rfl) rfl fun m us w' hJ hmi hd => ?_
        have v2 := (frame_at2 (us := us) hl (show (tabB[18]?).join = some 2 from rfl)).trans (hJ.v2 (hd 2 (by simp)))
        have o4 := (frame_old2 (us := us) (a := a0) (show (tabB[4]?).join = none from rfl)).trans k4
        generalize frame tabB a0 us = fr at *
        exact store_J 73 4 18 rfl (w.heap.size + 1) _ o4 v2 _ _ (hJ.r3 hmi) U1.out ZS.out HO.out (hJ.s3 hmi)
      · intro m us w7 hmm hJ
        have hr := hJ.res
        rw [hmm 3 (by decide)] at hr
        have HR := Lib.hid hr
        have HB := Lib.hid hJ.bel
        clear hr hJ hmm hl k2 k4
        subst ha0
        simp only [frame, tabB, fill]
        go_wp2_with fail
        refine bodyPost_ret (v := .agg S1) (results_cell_row Try.results36 _ _ (w.heap.size + 1) _ _ _ _ (by rfl) HR.out Try.underlying73 rfl U1.out) rfl ⟨by rw [HS1.out], HB.out⟩
end Go.Proofs.Ythbgjjfhgbkbdaa.hmC

/-
  The code's hmac: Block.
-/
namespace Go.Proofs.Ythbgjjfhgbkbdaa.hmC
open Go.ChangeShapes Go.WideShapes Go.ChangeAt Go.RowKit
open Go.Proofs.Ythbgjjfhgbkbdaa.memC Go.Proofs.Ythbgjjfhgbkbdaa.genC Go.Proofs.Ythbgjjfhgbkbdaa.shaM Go.Proofs.Ythbgjjfhgbkbdaa.shaC Go.Proofs.Ythbgjjfhgbkbdaa.shaN Go.Proofs.Ythbgjjfhgbkbdaa.butC Go.Proofs.Ythbgjjfhgbkbdaa.hmM Go.Proofs.Ythbgjjfhgbkbdaa.freeC Go.Proofs.Ythbgjjfhgbkbdaa.partsC
set_option linter.unusedVariables false
theorem cat1 (A : Option Addr) (n c : Nat) (bs : List Int) : catL [⟨A, n, c, bs⟩] = bs := by simp [catL]
theorem cat2 (A A2 : Option Addr) (n c n2 c2 : Nat) (bs bs2 : List Int) : catL [⟨A, n, c, bs⟩, ⟨A2, n2, c2, bs2⟩] = bs ++ bs2 := by simp [catL]
/-- sha.Of of one part that the call lays -/
theorem sha1 {w : World} {A : Option Addr} {n c : Nat} {bs : List Int} (h : PartAt w w.heap.size ⟨A, n, c, bs⟩) :
    Calls Try.prog 49 #[.slice (some ⟨w.heap.size, 0, none⟩) 1 1] (w.alloc (.cells #[.slice A n c] 22)) fun e w' => e = .returned (.agg ((shaL bs).map (Value.int .u8)).toArray) ∧ Below w.heap.size w w' :=
  (ofp_any _ 1 1 _ _ (parts1 h 22) rfl (by decide)).mono fun e w' h2 => ⟨by have := h2.1; rw [cat1] at this; exact this, (alloc_below w _).trans (h2.2.mono (alloc_below w (.cells #[.slice A n c] 22)).size)⟩
theorem splice_blk {ks : List Int} (h : ks.length ≤ 64) : splice ((nz 64).map (Value.int .u8)) 0 (ks.map (Value.int .u8)) = (ks ++ nz (64 - ks.length)).map (Value.int .u8) := by
  unfold splice nz
  rw [List.take_zero, List.nil_append, List.map_append, List.length_map, Nat.zero_add, List.map_replicate, List.map_replicate, List.drop_replicate]
/-- the blocks that a call of the code's Block lays -/
structure KB (w : World) (ks : List Int) (A : Option Addr) (wr : World) : Prop where
  r0 : Arr .u8 69 wr w.heap.size (nz 64)
  r1 : Arr .u8 69 wr (w.heap.size + 1) (nz 64)
  src : Nums .u8 wr wr.heap.size A ks.length ks
  bel : Below w.heap.size w wr
set_option maxRecDepth 100000 in
set_option maxHeartbeats 1000000 in
theorem block_any (A : Option Addr) (n c : Nat) (k : List Int) (w : World) (hb : Nums .u8 w w.heap.size A n k) (hy : ∀ x ∈ k, Byte x) (hn : n ≤ 10000) (hc : n ≤ c) (hc2 : c ≤ 9223372036854775807) :
    Calls Try.prog 35 #[.slice A n c] w (BlockRet w k) := by
  obtain ⟨Z, hZ⟩ : ∃ Z, Z = ((nz 64).map (Value.int .u8)).toArray := ⟨_, rfl⟩
  have hzv := z64
  rw [← hZ] at hzv
  have e1 : (w.alloc (.cells Z 69)).heap.size = w.heap.size + 1 := alloc_size _ _
  obtain ⟨W, hW⟩ : ∃ W, W = (w.alloc (.cells Z 69)).alloc (.cells Z 69) := ⟨_, rfl⟩
  have BW : Below w.heap.size w W := by rw [hW]; exact ((Below.refl _ _).alloc (Nat.le_refl _) _).alloc (by simp) _
  have R0 : Arr .u8 69 W w.heap.size (nz 64) := by rw [hW, hZ]; exact (Arr.new w .u8 69 (nz 64)).alloc _
  have R1 : Arr .u8 69 W (w.heap.size + 1) (nz 64) := by
    rw [hW]
    have := Arr.new (w.alloc (.cells Z 69)) .u8 69 (nz 64)
    rw [e1, ← hZ] at this; exact this
  have SW : w.heap.size + 1 < W.heap.size := R1.lt
  have HL := Lib.hid hb.len
  have HSW := Lib.hid SW
  have HBW := Lib.hid BW
  have HR0 := Lib.hid R0
  have HR1 := Lib.hid R1
  have Z20 := Lib.hid z20
  have HSZ := Lib.hid (show (Try.prog.info? 5).map (·.size) = some 1 by kernel_rfl)
  have HN := Lib.hid hb
  have HY := Lib.hid hy
  have HW := Lib.hid hW
  have U5 := Lib.hid (show (Try.prog.info? 69).map (·.size) = some (((blkL k).map (Value.int .u8)).toArray).size by rw [b64_info]; simp [blk_len])
  have L5 := Lib.hid (show (((nz 64).map (Value.int .u8)).toArray).size = (((blkL k).map (Value.int .u8)).toArray).size by simp [nz, blk_len])
  have HKL := Lib.hid (key_len k)
  clear e1 BW R0 R1 SW hZ hb hy hW
  rcases Nat.lt_or_ge 64 n with hlong | hshort
  · have hkey : keyL k = shaL k := by unfold keyL; rw [if_pos (by rw [HL.out]; exact hlong)]
    obtain ⟨Y, hY⟩ : ∃ Y, Y = ((nz 20).map (Value.int .u8)).toArray := ⟨_, rfl⟩
    have hyv := Z20.out
    rw [← hY] at hyv
    obtain ⟨X, hX⟩ : ∃ X, X = ((shaL k).map (Value.int .u8)).toArray := ⟨_, rfl⟩
    have U1 := Lib.hid (show (Try.prog.info? 54).map (·.size) = some X.size by rw [digest_info, hX]; simp [sha_len])
    have YS := Lib.hid (show Y.size = X.size by rw [hY, hX]; simp [nz, sha_len])
    have HO := Lib.hid (show X.all (·.oneCell') = true by rw [hX]; exact nums_one _)
    have OF := Lib.hid ((sha1 (w := W) (A := A) (n := n) (c := c) (bs := k) ⟨(HN.out.below HBW.out).more HBW.out.size, hn, HY.out, hc, hc2⟩).mono fun e w' h => (show e = .returned (.agg X) ∧ Below W.heap.size W w' from ⟨by rw [hX]; exact h.1, h.2⟩))
    have HX := Lib.hid hX
    have hz : (64 : Int) < (n : Int) := by omega
    have hn63 : n ≤ 9223372036854775807 := by omega
    clear hY hX hlong
    go_enter Try.func35, Try.ntmps35
    go_upto_region 2 with fail
    rw [← HW.out]
    go_upto_region 4 with (first
      | (go_at_call 49; (with_reducible refine OF.out.mono ?_); rintro e w3 ⟨rfl, B3⟩)
      | (refine wpList_store_row rfl 54 (.tmp 4) (.tmp 10) rfl w3.heap.size X rfl rfl _ _ (heap_alloc_new _ _) U1.out YS.out HO.out ?_))
    rw [World.setRow_alloc_new]
    have K0 : KB w (keyL k) (some ⟨w3.heap.size, 0, none⟩) (w3.alloc (.cells X 54)) := by
      have BF : Below w.heap.size w (w3.alloc (.cells X 54)) := (HBW.out.trans (B3.mono HBW.out.size)).alloc (HBW.out.trans (B3.mono HBW.out.size)).size _
      have := B3.size
      have := HSW.out
      rw [hkey]
      refine ⟨(HR0.out.below B3 HR0.out.lt).alloc _, (HR1.out.below B3 HR1.out.lt).alloc _, ?_, BF⟩
      rw [HX.out, sha_len]
      exact (Arr.new w3 .u8 54 (shaL k)).part (sha_len k)
    generalize w3.alloc (.cells X 54) = w4 at *
    have hkl : (keyL k).length = 20 := by rw [hkey, sha_len]
    generalize w3.heap.size = g3 at *
    obtain ⟨A', hA'⟩ : ∃ A', A' = some (⟨g3, 0, none⟩ : Addr) := ⟨_, rfl⟩
    obtain ⟨n', hn'⟩ : ∃ n', n' = 20 := ⟨_, rfl⟩
    have HK0 := Lib.hid K0
    clear hkey B3 hz hyv K0
    go_upto_region 5 with fail
    have HQ := Lib.hid hkl
    have r1 := Lib.hid HK0.out.r1.row
    have HS := Lib.hid HK0.out.src
    have hkb : blkL k = keyL k ++ nz (64 - (keyL k).length) := rfl
    have HKB := Lib.hid hkb
    clear hkl hkb
    go_wp2_with (first
      | ((refine wpList_copy_splice rfl (.tmp 12) (.tmp 13) 22 22 rfl 5 Try.underlying22 HSZ.out _ _ 64 64 20 20 rfl rfl (w.heap.size + 1) 0 ((nz 64).map (Value.int .u8)) 69 r1.out ((keyL k).map (Value.int .u8)) ?_ ?_ ?_ ?_ (w.heap.size + 1) _ (Below.refl _ _) (Nat.le_refl _) ?_)
         · rw [List.length_map, HQ.out]; exact (Nat.min_eq_left (by decide)).symm
         · exact fun hp => ⟨rfl, by obtain ⟨b, o, e, _⟩ := HK0.out.src.at_ (by simpa using hp); exact ⟨_, e, HK0.out.src.news e⟩⟩
         · simp [nz]; exact HKL.out
         · exact fun v hv => by obtain ⟨z, _, rfl⟩ := List.mem_map.1 hv; rfl
         intro w5 G5 B5
         have G1 := Lib.hid (show w5.heap[w.heap.size + 1]? = some (.cells ((blkL k).map (Value.int .u8)).toArray 69 (0, 0)) by rw [HKB.out, ← splice_blk HKL.out]; exact G5)
         have G2 := Lib.hid ((B5.block w.heap.size (Nat.lt_succ_self _)).trans HK0.out.r0.row)
         have BQ := Lib.hid (HK0.out.bel.trans (B5.mono (Nat.le_succ _)))
         clear G5 B5)
      | (refine wpList_load_row rfl 69 (.tmp 3) rfl (w.heap.size + 1) rfl _ _ _ _ G1.out Try.underlying69 rfl U5.out ?_)
      | (refine wpList_store_row rfl 69 (.tmp 2) (.tmp 15) rfl w.heap.size _ rfl rfl _ _ G2.out U5.out L5.out (nums_one _) ?_))
    refine bodyPost_ret (v := .agg ((blkL k).map (Value.int .u8)).toArray) (results_cell_row Try.results35 _ _ w.heap.size _ _ _ _ (by rfl) (setRow_heap _ _ _ _ _ _ G2.out) Try.underlying69 rfl U5.out) rfl ⟨rfl, ?_⟩
    exact BQ.out.trans ⟨rfl, rfl, rfl, by simp, fun z hz => setRow_other _ _ _ _ (by omega)⟩
  · have hkey : keyL k = k := by unfold keyL; rw [if_neg (by rw [HL.out]; omega)]
    have hz : ¬ (64 : Int) < (n : Int) := by omega
    have hn63 : n ≤ 9223372036854775807 := by omega
    go_enter Try.func35, Try.ntmps35
    go_upto_region 2 with fail
    rw [← HW.out]
    have K0 : KB w (keyL k) A W := by
      refine ⟨HR0.out, HR1.out, ?_, HBW.out⟩
      rw [hkey, HL.out]; exact (HN.out.below HBW.out).more HBW.out.size
    have hkl : (keyL k).length = n := by rw [hkey, HL.out]
    have HK0 := Lib.hid K0
    clear hkey HN Z20 K0
    go_upto_region 5 with fail
    have HQ := Lib.hid hkl
    have r1 := Lib.hid HK0.out.r1.row
    have HS := Lib.hid HK0.out.src
    have hkb : blkL k = keyL k ++ nz (64 - (keyL k).length) := rfl
    have HKB := Lib.hid hkb
    clear hkl hkb
    go_wp2_with (first
      | ((refine wpList_copy_splice rfl (.tmp 12) (.tmp 13) 22 22 rfl 5 Try.underlying22 HSZ.out _ _ 64 64 n c rfl rfl (w.heap.size + 1) 0 ((nz 64).map (Value.int .u8)) 69 r1.out ((keyL k).map (Value.int .u8)) ?_ ?_ ?_ ?_ (w.heap.size + 1) _ (Below.refl _ _) (Nat.le_refl _) ?_)
         · rw [List.length_map, HQ.out]; exact (Nat.min_eq_left hshort).symm
         · exact fun hp => ⟨rfl, by obtain ⟨b, o, e, _⟩ := HK0.out.src.at_ (by simpa using hp); exact ⟨_, e, HK0.out.src.news e⟩⟩
         · simp [nz]; exact HKL.out
         · exact fun v hv => by obtain ⟨z, _, rfl⟩ := List.mem_map.1 hv; rfl
         intro w5 G5 B5
         have G1 := Lib.hid (show w5.heap[w.heap.size + 1]? = some (.cells ((blkL k).map (Value.int .u8)).toArray 69 (0, 0)) by rw [HKB.out, ← splice_blk HKL.out]; exact G5)
         have G2 := Lib.hid ((B5.block w.heap.size (Nat.lt_succ_self _)).trans HK0.out.r0.row)
         have BQ := Lib.hid (HK0.out.bel.trans (B5.mono (Nat.le_succ _)))
         clear G5 B5)
      | (refine wpList_load_row rfl 69 (.tmp 3) rfl (w.heap.size + 1) rfl _ _ _ _ G1.out Try.underlying69 rfl U5.out ?_)
      | (refine wpList_store_row rfl 69 (.tmp 2) (.tmp 15) rfl w.heap.size _ rfl rfl _ _ G2.out U5.out L5.out (nums_one _) ?_))
    refine bodyPost_ret (v := .agg ((blkL k).map (Value.int .u8)).toArray) (results_cell_row Try.results35 _ _ w.heap.size _ _ _ _ (by rfl) (setRow_heap _ _ _ _ _ _ G2.out) Try.underlying69 rfl U5.out) rfl ⟨rfl, ?_⟩
    exact BQ.out.trans ⟨rfl, rfl, rfl, by simp, fun z hz => setRow_other _ _ _ _ (by omega)⟩
end Go.Proofs.Ythbgjjfhgbkbdaa.hmC

/-
  The code's hmac: Of.
-/
namespace Go.Proofs.Ythbgjjfhgbkbdaa.hmC
open Go.ChangeShapes Go.WideShapes Go.ChangeAt Go.RowKit
open Go.Proofs.Ythbgjjfhgbkbdaa.memC Go.Proofs.Ythbgjjfhgbkbdaa.genC Go.Proofs.Ythbgjjfhgbkbdaa.shaM Go.Proofs.Ythbgjjfhgbkbdaa.shaC Go.Proofs.Ythbgjjfhgbkbdaa.shaN Go.Proofs.Ythbgjjfhgbkbdaa.butC Go.Proofs.Ythbgjjfhgbkbdaa.hmM Go.Proofs.Ythbgjjfhgbkbdaa.freeC Go.Proofs.Ythbgjjfhgbkbdaa.partsC
set_option linter.unusedVariables false
/-- while parts are put behind the inner block -/
structure QR (w : World) (g k : Nat) (bk xs : List Int) (wr : World) : Prop where
  sum : SumV wr k xs
  blk : Arr .u8 69 wr g bk
  out : Arr .u8 54 wr w.heap.size (nz 20)
  bel : Below w.heap.size w wr
  lt : w.heap.size < g
  lt2 : g < k
theorem QR.put {w wr w' : World} {g k : Nat} {bk xs ys : List Int} (D : QR w g k bk xs wr) (B : Below wr.heap.size wr w') : QR w g k bk ys (w'.setRow k (sumL ys).toArray) := by
  have h1 := D.lt
  have h2 := D.lt2
  have h3 := D.sum.lt
  have hk : w'.heap[k]? = some (.cells (sumL xs).toArray 73 (0, 0)) := (B.block k h3).trans D.sum.row
  refine ⟨⟨setRow_heap _ _ _ _ _ _ hk, gOf_len (hashH_ok ys).1, rest_len ys⟩, ⟨?_⟩, ⟨?_⟩, ?_, h1, h2⟩
  · rw [setRow_other _ _ _ _ (by omega), B.block g (by omega)]; exact D.blk.row
  · rw [setRow_other _ _ _ _ (by omega), B.block _ (by omega)]; exact D.out.row
  · exact (D.bel.trans (B.mono D.bel.size)).trans ⟨rfl, rfl, rfl, by simp, fun z hz => setRow_other _ _ _ _ (by omega)⟩
/-- what holds while the outer digest is reckoned -/
structure OJ (w0 : World) (d g : Nat) (bk dg : List Int) (SA SB D : Array Value) (m : Nat → Bool) (us : Nat → Value) (w : World) : Prop where
  bel : Below w0.heap.size w0 w
  res : w.heap[w0.heap.size]? = some (.cells (if m 5 then D else ((nz 20).map (Value.int .u8)).toArray) 54 (0, 0))
  dig : Arr .u8 54 w d dg
  blk : Arr .u8 69 w g bk
  v0 : m 0 = true → us 0 = .agg (bk.map (Value.int .u8)).toArray
  v1 : m 1 = true → us 1 = .agg SA
  v2 : m 2 = true → us 2 = .slice (some ⟨d, 0, none⟩) 20 20
  v3 : m 3 = true → us 3 = .agg SB
  v4 : m 4 = true → us 4 = .agg D
  rd : w0.heap.size < d
  rg : w0.heap.size < g
section
variable {w0 w w' : World} {d g : Nat} {bk dg : List Int} {SA SB D : Array Value} {m : Nat → Bool} {us : Nat → Value}
theorem OJ.ext (h : OJ w0 d g bk dg SA SB D m us w) (hb : Below w.heap.size w w') : OJ w0 d g bk dg SA SB D m us w' := by
  have h1 := h.dig.lt
  have h2 := h.rd
  exact ⟨h.bel.trans (hb.mono h.bel.size), (hb.block _ (by omega)).trans h.res, h.dig.below hb h.dig.lt, h.blk.below hb h.blk.lt, h.v0, h.v1, h.v2, h.v3, h.v4, h.rd, h.rg⟩
theorem OJ.s0 (h : OJ w0 d g bk dg SA SB D m us w) : OJ w0 d g bk dg SA SB D (upd m 0 true) (upd us 0 (.agg (bk.map (Value.int .u8)).toArray)) w :=
  ⟨h.bel, h.res, h.dig, h.blk, fun _ => rfl, h.v1, h.v2, h.v3, h.v4, h.rd, h.rg⟩
theorem OJ.s1 (h : OJ w0 d g bk dg SA SB D m us w) (hb : Below w.heap.size w w') : OJ w0 d g bk dg SA SB D (upd m 1 true) (upd us 1 (.agg SA)) w' := by
  have h' := h.ext hb
  exact ⟨h'.bel, h'.res, h'.dig, h'.blk, h'.v0, fun _ => rfl, h'.v2, h'.v3, h'.v4, h'.rd, h'.rg⟩
theorem OJ.s2 (h : OJ w0 d g bk dg SA SB D m us w) : OJ w0 d g bk dg SA SB D (upd m 2 true) (upd us 2 (.slice (some ⟨d, 0, none⟩) 20 20)) w :=
  ⟨h.bel, h.res, h.dig, h.blk, h.v0, h.v1, fun _ => rfl, h.v3, h.v4, h.rd, h.rg⟩
theorem OJ.s3 (h : OJ w0 d g bk dg SA SB D m us w) (hb : Below w.heap.size w w') : OJ w0 d g bk dg SA SB D (upd m 3 true) (upd us 3 (.agg SB)) w' := by
  have h' := h.ext hb
  exact ⟨h'.bel, h'.res, h'.dig, h'.blk, h'.v0, h'.v1, h'.v2, fun _ => rfl, h'.v4, h'.rd, h'.rg⟩
theorem OJ.s4 (h : OJ w0 d g bk dg SA SB D m us w) (hb : Below w.heap.size w w') : OJ w0 d g bk dg SA SB D (upd m 4 true) (upd us 4 (.agg D)) w' := by
  have h' := h.ext hb
  exact ⟨h'.bel, h'.res, h'.dig, h'.blk, h'.v0, h'.v1, h'.v2, h'.v3, fun _ => rfl, h'.rd, h'.rg⟩
theorem OJ.r5 (h : OJ w0 d g bk dg SA SB D m us w) (hm : m 5 = false) : w.heap[w0.heap.size]? = some (.cells ((nz 20).map (Value.int .u8)).toArray 54 (0, 0)) := by
  have := h.res
  rw [hm] at this; exact this
theorem OJ.s5 (h : OJ w0 d g bk dg SA SB D m us w) (hm : m 5 = false) : OJ w0 d g bk dg SA SB D (upd m 5 true) (upd us 5 undef) (w.setRow w0.heap.size D) := by
  have h1 := h.rd
  have h2 := h.rg
  exact ⟨h.bel.trans ⟨rfl, rfl, rfl, by simp, fun z hz => setRow_other _ _ _ _ (by omega)⟩, setRow_heap _ _ _ _ _ _ (h.r5 hm), ⟨by rw [setRow_other _ _ _ _ (by omega)]; exact h.dig.row⟩, ⟨by rw [setRow_other _ _ _ _ (by omega)]; exact h.blk.row⟩,
    h.v0, h.v1, h.v2, h.v3, h.v4, h1, h2⟩
end
def tabO : List (Option Nat) := [none, none, none, none, none, none, none, none, none, none, none, none, none, none, none, none, none, none, none, none, none, none, none, none, none, none, some 0, some 1, some 2, some 3, some 4]
set_option maxRecDepth 100000 in
set_option maxHeartbeats 1000000 in
theorem cof_any (A : Option Addr) (n c : Nat) (k : List Int) (P : Option Addr) (m c2 : Nat) (ps : List Part) (w : World) (hb : Nums .u8 w w.heap.size A n k) (hy : ∀ x ∈ k, Byte x) (hn : n ≤ 10000) (hc : n ≤ c) (hc2 : c ≤ 9223372036854775807)
    (hp : Parts w w.heap.size P ps) (hl : ps.length = m) (hm : m ≤ 100) :
    Calls Try.prog 21 #[.slice A n c, .slice P m c2] w (MacRet w k (catL ps)) := by
  obtain ⟨Z, hZ⟩ : ∃ Z, Z = ((nz 20).map (Value.int .u8)).toArray := ⟨_, rfl⟩
  have hzv := z20
  rw [← hZ] at hzv
  obtain ⟨Y, hY⟩ : ∃ Y, Y = ((nz 64).map (Value.int .u8)).toArray := ⟨_, rfl⟩
  have hyv := z64
  rw [← hY] at hyv
  obtain ⟨V, hV⟩ : ∃ V, V = zeroC.toArray := ⟨_, rfl⟩
  have hvv := zero70
  rw [← hV] at hvv
  obtain ⟨X, hX⟩ : ∃ X, X = ((blkL k).map (Value.int .u8)).toArray := ⟨_, rfl⟩
  obtain ⟨S1, hS1⟩ : ∃ S, S = (sumL (turnL k 54)).toArray := ⟨_, rfl⟩
  have HPT := Lib.hid hp
  have HL := Lib.hid hl
  have HY := Lib.hid hy
  have hms : nsum ps ≤ 10000 * ps.length := by
    have : ∀ (l : List Part), (∀ p ∈ l, PartAt w w.heap.size p) → nsum l ≤ 10000 * l.length := by
      intro l
      induction l with
      | nil => intro _; exact Nat.le_refl _
      | cons p r ih => intro h; have h1 := (h p (by simp)).few; have h2 := ih fun q hq => h q (by simp [hq]); simp only [nsum, List.length_cons]; omega
    exact this ps hp.all
  have HMS := Lib.hid hms
  have UX := Lib.hid (show (Try.prog.info? 69).map (·.size) = some X.size by rw [b64_info, hX]; simp [blk_len])
  have YX := Lib.hid (show Y.size = X.size by rw [hY, hX]; simp [nz, blk_len])
  have OX := Lib.hid (show X.all (·.oneCell') = true by rw [hX]; exact nums_one _)
  have US := Lib.hid (show (Try.prog.info? 73).map (·.size) = some S1.size by rw [sum_info, hS1]; simp [sumL_len])
  have VS := Lib.hid (show V.size = S1.size by rw [hV, hS1]; simp [sumL_len]; rfl)
  have OS := Lib.hid (show S1.all (·.oneCell') = true by rw [hS1]; exact sumC_one _ _ _)
  have SW := alloc_size w (.cells Z 54)
  have BW := alloc_below w (.cells Z 54)
  have RW : Arr .u8 54 (w.alloc (.cells Z 54)) w.heap.size (nz 20) := by rw [hZ]; exact Arr.new w .u8 54 (nz 20)
  have BL := Lib.hid (fun (w' : World) (B : Below w.heap.size w w') => (block_any A n c k w' ((hb.below B).more B.size) hy hn hc hc2).mono fun e w'' h => (show e = .returned (.agg X) ∧ Below w'.heap.size w' w'' from ⟨by rw [hX]; exact h.1, h.2⟩))
  have BG := Lib.hid (fun (w' : World) => (show Calls Try.prog 36 #[.agg X, .int .u8 54] w' fun e w'' => e = .returned (.agg S1) ∧ Below w'.heap.size w' w'' by
    rw [hX, hS1]; exact (begun_any (blkL k) 54 w' (blk_len k) (blk_byte hy) (by decide) (by decide)).mono fun e w'' h => h))
  have HZ := Lib.hid hZ
  have HX := Lib.hid hX
  have HS1 := Lib.hid hS1
  have HSW := Lib.hid SW
  have HBW := Lib.hid BW
  have HRW := Lib.hid RW
  clear hZ hY hV hX hS1 hb hy hp hl hms SW BW RW
  go_enter Try.func21, Try.ntmps21
  go_upto_region 1 with fail
  generalize w.alloc (.cells Z 54) = W at *
  go_upto_region 2 with (first
    | (go_at_call 35; (with_reducible refine (BL.out _ HBW.out).mono ?_); rintro e w1 ⟨rfl, B1⟩)
    | (refine wpList_store_row rfl 69 (.tmp 5) (.tmp 11) rfl w1.heap.size X rfl rfl _ _ (heap_alloc_new _ _) UX.out YX.out OX.out ?_))
  rw [World.setRow_alloc_new]
  have A2 : Arr .u8 69 (w1.alloc (.cells X 69)) w1.heap.size (blkL k) := by rw [HX.out]; exact Arr.new w1 .u8 69 (blkL k)
  have R2 := (HRW.out.below B1 HRW.out.lt).alloc (.cells X 69)
  have b2 : Below w.heap.size w (w1.alloc (.cells X 69)) := (HBW.out.trans (B1.mono HBW.out.size)).alloc (HBW.out.trans (B1.mono HBW.out.size)).size _
  have lt1 : w.heap.size < w1.heap.size := by have := B1.size; have := HSW.out; omega
  generalize w1.alloc (.cells X 69) = w2 at *
  generalize w1.heap.size = g at *
  have HA2 := Lib.hid A2
  have HR2 := Lib.hid R2
  have Hb2 := Lib.hid b2
  have G2 := Lib.hid (show w2.heap[g]? = some (.cells X 69 (0, 0)) by rw [HX.out]; exact A2.row)
  clear A2 R2 b2 B1 hyv
  go_upto_region 3 with (first
    | (refine wpList_load_row rfl 69 (.tmp 5) rfl g rfl _ _ _ _ G2.out Try.underlying69 rfl UX.out ?_)
    | (go_at_call 36; (with_reducible refine (BG.out _).mono ?_); rintro e w3 ⟨rfl, B3⟩)
    | (refine wpList_store_row rfl 73 (.tmp 6) (.tmp 13) rfl w3.heap.size S1 rfl rfl _ _ (heap_alloc_new _ _) US.out VS.out OS.out ?_))
  rw [World.setRow_alloc_new]
  have P1 : QR w g w3.heap.size (blkL k) (turnL k 54 ++ catL (ps.take 0)) (w3.alloc (.cells S1 73)) := by
    have e : turnL k 54 ++ catL (ps.take 0) = turnL k 54 := by simp [catL]
    rw [e]
    refine ⟨?_, (HA2.out.below B3 HA2.out.lt).alloc _, (HR2.out.below B3 HR2.out.lt).alloc _, (Hb2.out.trans (B3.mono Hb2.out.size)).alloc (Hb2.out.trans (B3.mono Hb2.out.size)).size _, lt1, by have := HA2.out.lt; have := B3.size; omega⟩
    rw [HS1.out]
    exact SumAt.new w3 (gOf_len (hashH_ok (turnL k 54)).1) (rest_len (turnL k 54))
  generalize w3.alloc (.cells S1 73) = w4 at *
  generalize w3.heap.size = s at *
  have HP1 := Lib.hid P1
  clear P1 B3 hvv
  have hm2 : m ≤ 9223372036854775807 := by omega
  go_wp2_with fail
  go_loopw [16] (fun i wr => ∃ j : Nat, j ≤ m ∧ i = .int .i64 j ∧ QR w g s (blkL k) (turnL k 54 ++ catL (ps.take j)) wr) (fun i _ => m - (intOf i).toNat)
  case atStart => exact ⟨0, by omega, rfl, HP1.out⟩
  case round =>
    obtain ⟨j, hj, rfl, PP⟩ := hrel
    have HPP := Lib.hid PP
    by_cases hlt : j < m
    · have hlp : j < ps.length := by rw [HL.out]; exact hlt
      have PB := HPT.out.below PP.bel (Nat.le_refl _)
      obtain ⟨b, o, rfl, hbb, hc, hpa⟩ := PB.cell hlp
      have hjz : (j : Int) < (m : Int) := by omega
      have hs := catL_snoc ps j hlp
      have hsz : (catL (ps.take j)).length ≤ 1000000 := by
        rw [catL_len (w := w) (B := w.heap.size) _ (fun p hp => HPT.out.all p (List.mem_of_mem_take hp))]
        have h1 := nsum_take ps j
        have h2 := HMS.out
        rw [HL.out] at h2
        omega
      obtain ⟨xs, hxs⟩ : ∃ xs, xs = turnL k 54 ++ catL (ps.take j) := ⟨_, rfl⟩
      have hxl : xs.length ≤ 1000064 := by rw [hxs, List.length_append, turn_len]; omega
      have hxb : ∀ x ∈ xs, Byte x := by
        rw [hxs]
        exact fun x hx => (List.mem_append.1 hx).elim (turn_byte k 54 x) (catL_byte (w := w) (B := w.heap.size) (fun p hp => HPT.out.all p (List.mem_of_mem_take hp)) x)
      have hs2 : turnL k 54 ++ catL (ps.take (j + 1)) = xs ++ ps[j].bs := by rw [hs, hxs, List.append_assoc]
      rw [← hxs] at PP
      have HPP := Lib.hid PP
      obtain ⟨S, hS⟩ : ∃ S, S = (sumL xs).toArray := ⟨_, rfl⟩
      obtain ⟨S', hS'⟩ : ∃ S, S = (sumL (xs ++ ps[j].bs)).toArray := ⟨_, rfl⟩
      have AD := Lib.hid ((add_any xs ps[j].bs ps[j].A ps[j].n ps[j].c wr (hpa.nums.more PP.bel.size) hpa.cap hpa.max hxb hpa.byte (by have := hpa.few; omega)).mono fun e w'' h => (show e = .returned (.agg S') ∧ Below wr.heap.size wr w'' from ⟨by rw [hS']; exact h.1, h.2⟩))
      rw [← hS] at AD
      have GS := Lib.hid (show wr.heap[s]? = some (.cells S 73 (0, 0)) by rw [hS]; exact PP.sum.row)
      have UJ := Lib.hid (show (Try.prog.info? 73).map (·.size) = some S.size by rw [sum_info, hS]; simp [sumL_len])
      have UJ' := Lib.hid (show (Try.prog.info? 73).map (·.size) = some S'.size by rw [sum_info, hS']; simp [sumL_len])
      have SS := Lib.hid (show S.size = S'.size by rw [hS, hS']; simp [sumL_len])
      have OJ' := Lib.hid (show S'.all (·.oneCell') = true by rw [hS']; exact sumC_one _ _ _)
      have SL := Lib.hid PP.sum.lt
      have HS' := Lib.hid hS'
      have HS2 := Lib.hid hs2
      generalize ps[j].A = pA at *
      generalize ps[j].n = pn at *
      generalize ps[j].c = pc at *
      generalize ps[j].bs = pbs at *
      clear hs hs2 hxs hxl hxb hsz PP PB hpa hS hS'
      go_wp2_with (first
        | (refine wpList_load_row rfl 73 (.tmp 6) rfl s rfl _ _ _ _ GS.out Try.underlying73 rfl UJ.out ?_)
        | (go_at_call 37; (with_reducible refine AD.out.mono ?_); rintro e w5 ⟨rfl, B5⟩
           have G5 := Lib.hid ((B5.block s SL.out).trans GS.out)
           have P5 := Lib.hid (HPP.out.put (ys := xs ++ pbs) B5)
           rw [← HS'.out, ← HS2.out] at P5
           clear B5)
        | (refine wpList_store_row rfl 73 (.tmp 6) (.tmp 22) rfl s S' rfl rfl _ _ G5.out UJ'.out SS.out OJ'.out ?_))
      clear hc
      go_roundw
      case rel => exact ⟨j + 1, by omega, by go_num, P5.out⟩
      case measure => simp [intOf]; omega
    · have e : j = m := by omega
      subst e
      have hF : catL (ps.take j) = catL ps := by rw [List.take_of_length_le (by rw [HL.out]; exact Nat.le_refl _)]
      rw [hF] at PP
      obtain ⟨msg, hmsg⟩ : ∃ msg, msg = catL ps := ⟨_, rfl⟩
      have hcb := catL_byte (w := w) (B := w.heap.size) (ps := ps) HPT.out.all
      have hcl : (catL ps).length ≤ 1000000 := by
        rw [catL_len (w := w) (B := w.heap.size) ps HPT.out.all]
        have h2 := HMS.out
        rw [HL.out] at h2
        omega
      rw [← hmsg] at PP hcb hcl ⊢
      obtain ⟨S, hS⟩ : ∃ S, S = (sumL (turnL k 54 ++ msg)).toArray := ⟨_, rfl⟩
      obtain ⟨D, hD⟩ : ∃ D, D = ((inL k msg).map (Value.int .u8)).toArray := ⟨_, rfl⟩
      have GS := Lib.hid (show wr.heap[s]? = some (.cells S 73 (0, 0)) by rw [hS]; exact PP.sum.row)
      have UJ := Lib.hid (show (Try.prog.info? 73).map (·.size) = some S.size by rw [sum_info, hS]; simp [sumL_len])
      have DG := Lib.hid ((digest_any (turnL k 54 ++ msg) wr (fun x hx => (List.mem_append.1 hx).elim (turn_byte k 54 x) (hcb x)) (by rw [List.length_append, turn_len]; omega)).mono fun e w'' h => (show e = .returned (.agg D) ∧ Below wr.heap.size wr w'' from ⟨by rw [hD]; exact h.1, h.2⟩))
      rw [← hS] at DG
      have UD := Lib.hid (show (Try.prog.info? 54).map (·.size) = some D.size by rw [digest_info, hD]; simp [inL, sha_len])
      have ZD := Lib.hid (show Z.size = D.size by rw [hD, HZ.out]; simp [nz, inL, sha_len])
      have OD := Lib.hid (show D.all (·.oneCell') = true by rw [hD]; exact nums_one _)
      have HQ := Lib.hid PP
      have HDD := Lib.hid hD
      have HMM := Lib.hid hmsg
      have hjz : ¬ (j : Int) < (j : Int) := by omega
      clear hF hcb hcl PP HPP hlt hj hS hD hmsg
      go_upto_region 9 with (first
        | (refine wpList_load_row rfl 73 (.tmp 6) rfl s rfl _ _ _ _ GS.out Try.underlying73 rfl UJ.out ?_)
        | (go_at_call 38; (with_reducible refine DG.out.mono ?_); rintro e w5 ⟨rfl, B5⟩)
        | (refine wpList_store_row rfl 54 (.tmp 9) (.tmp 25) rfl w5.heap.size D rfl rfl _ _ (heap_alloc_new _ _) UD.out ZD.out OD.out ?_))
      rw [World.setRow_alloc_new]
      obtain ⟨SA, hSA⟩ : ∃ S, S = (sumL (turnL k 92)).toArray := ⟨_, rfl⟩
      obtain ⟨SB, hSB⟩ : ∃ S, S = (sumL (turnL k 92 ++ inL k msg)).toArray := ⟨_, rfl⟩
      obtain ⟨E, hE⟩ : ∃ E, E = ((macL k msg).map (Value.int .u8)).toArray := ⟨_, rfl⟩
      have HBG := Lib.hid (fun (w' : World) => (show Calls Try.prog 36 #[.agg ((blkL k).map (Value.int .u8)).toArray, .int .u8 92] w' fun e w'' => e = .returned (.agg SA) ∧ Below w'.heap.size w' w'' by
        rw [hSA]; exact (begun_any (blkL k) 92 w' (blk_len k) (blk_byte HY.out) (by decide) (by decide)).mono fun e w'' h => h))
      have HAD := Lib.hid (fun (w' : World) (d : Nat) (A : Arr .u8 54 w' d (inL k msg)) => (show Calls Try.prog 37 #[.agg SA, .slice (some ⟨d, 0, none⟩) 20 20] w' fun e w'' => e = .returned (.agg SB) ∧ Below w'.heap.size w' w'' by
        rw [hSA, hSB]
        exact (add_any (turnL k 92) (inL k msg) (some ⟨d, 0, none⟩) 20 20 w' (A.part (sha_len _)) (Nat.le_refl _) (by decide) (turn_byte k 92) (sha_byte _) (by rw [turn_len]; decide)).mono fun e w'' h => h))
      have HDG := Lib.hid (fun (w' : World) => (show Calls Try.prog 38 #[.agg SB] w' fun e w'' => e = .returned (.agg E) ∧ Below w'.heap.size w' w'' by
        rw [hSB, hE]
        exact (digest_any (turnL k 92 ++ inL k msg) w' (outer_byte k msg) (by rw [List.length_append, turn_len]; simp [inL, sha_len])).mono fun e w'' h => h))
      have UE := Lib.hid (show (Try.prog.info? 54).map (·.size) = some E.size by rw [digest_info, hE]; simp [mac_len])
      have ZE := Lib.hid (show (((nz 20).map (Value.int .u8)).toArray).size = E.size by rw [hE]; simp [nz, mac_len])
      have OE := Lib.hid (show E.all (·.oneCell') = true by rw [hE]; exact nums_one _)
      have UB := Lib.hid (show (Try.prog.info? 69).map (·.size) = some (((blkL k).map (Value.int .u8)).toArray).size by rw [b64_info]; simp [blk_len])
      have HE := Lib.hid hE
      have J0 : OJ w w5.heap.size g (blkL k) (inL k msg) SA SB E (fun _ => false) (fun _ => undef) (w5.alloc (.cells D 54)).drew := by
        have q1 := HQ.out.bel.size
        have q2 := B5.size
        have q3 := HQ.out.lt
        refine ⟨((HQ.out.bel.trans (B5.mono q1)).alloc (HQ.out.bel.trans (B5.mono q1)).size _).drew, ?_, ?_, ?_, fun h => (by cases h), fun h => (by cases h), fun h => (by cases h), fun h => (by cases h), fun h => (by cases h), ?_, q3⟩
        · exact ((HQ.out.out.below B5 HQ.out.out.lt).alloc (.cells D 54)).row
        · rw [HDD.out]; exact (Arr.new w5 .u8 54 (inL k msg)).heap rfl
        · exact ((HQ.out.blk.below B5 HQ.out.blk.lt).alloc (.cells D 54)).heap rfl
        · have := HQ.out.out.lt; omega
      generalize w5.alloc (.cells D 54) = w6 at *
      generalize w5.heap.size = d at *
      have HJ0 := Lib.hid J0
      clear J0 hzv B5 hSA hSB hE
      refine with_act fun a0 ha0 => ?_
      have hl : tabO.length = a0.tmps.size := by rw [ha0]; rfl
      have k4 : a0.tmps[4]?.getD undef = .pointer (some ⟨w.heap.size, 0, none⟩) := by rw [ha0]; rfl
      have k5 : a0.tmps[5]?.getD undef = .pointer (some ⟨g, 0, none⟩) := by rw [ha0]; rfl
      have k9 : a0.tmps[9]?.getD undef = .pointer (some ⟨d, 0, none⟩) := by rw [ha0]; rfl
      refine wp_region_J (by kernel_rfl) tabO (by kernel_rfl) (by kernel_rfl) hl (fun _ => undef) (by rw [ha0]; rfl) (OJ w d g (blkL k) (inL k msg) SA SB E) HJ0.out ⟨?_, ?_, ?_, ?_, ?_, ?_, trivial⟩ ?_
      · refine stepJ [] (by kernel_rfl) rfl fun m us w' hJ hmi hd => ?_
        have o5 := (frame_old2 (us := us) (a := a0) (show (tabO[5]?).join = none from rfl)).trans k5
        generalize frame tabO a0 us = fr at *
        exact load_J 69 5 rfl g o5 _ _ (0, 0) _ hJ.blk.row Try.underlying69 rfl UB.out hJ.s0
      · refine stepJ [0] (by kernel_rfl) rfl fun m us w' hJ hmi hd => ?_
        have v0 := (frame_at2 (us := us) hl (show (tabO[26]?).join = some 0 from rfl)).trans (hJ.v0 (hd 0 (by simp)))
        have hc := HBG.out w'
        generalize ((blkL k).map (Value.int .u8)).toArray = KB at v0 hc
        generalize frame tabO a0 us = fr at *
        refine call_J (f := 36) (args := #[.agg KB, .int .u8 92]) (by go_simp) (hc.mono ?_)
        rintro e w'' ⟨rfl, B⟩
        exact ⟨_, rfl, hJ.s1 B⟩
      · refine stepJ [] (by kernel_rfl) rfl fun m us w' hJ hmi hd => ?_
        have o9 := (frame_old2 (us := us) (a := a0) (show (tabO[9]?).join = none from rfl)).trans k9
        generalize frame tabO a0 us = fr at *
        exact val_J (v := .slice (some ⟨d, 0, none⟩) 20 20) (w' := w') (by go_simp) hJ.s2
      · refine stepJ [1, 2] (by kernel_rfl) rfl fun m us w' hJ hmi hd => ?_
        have v1 := (frame_at2 (us := us) hl (show (tabO[27]?).join = some 1 from rfl)).trans (hJ.v1 (hd 1 (by simp)))
        have v2 := (frame_at2 (us := us) hl (show (tabO[28]?).join = some 2 from rfl)).trans (hJ.v2 (hd 2 (by simp)))
        generalize frame tabO a0 us = fr at *
        refine call_J (f := 37) (args := #[.agg SA, .slice (some ⟨d, 0, none⟩) 20 20]) (by go_simp) ((HAD.out w' d hJ.dig).mono ?_)
        rintro e w'' ⟨rfl, B⟩
        exact ⟨_, rfl, hJ.s3 B⟩
      · refine stepJ [3] (by kernel_rfl) rfl fun m us w' hJ hmi hd => ?_
        have v3 := (frame_at2 (us := us) hl (show (tabO[29]?).join = some 3 from rfl)).trans (hJ.v3 (hd 3 (by simp)))
        generalize frame tabO a0 us = fr at *
        refine call_J (f := 38) (args := #[.agg SB]) (by go_simp) ((HDG.out w').mono ?_)
        rintro e w'' ⟨rfl, B⟩
        exact ⟨_, rfl, hJ.s4 B⟩
      · refine stepJ [4] (by kernel_rfl) rfl fun m us w' hJ hmi hd => ?_
        have v4 := (frame_at2 (us := us) hl (show (tabO[30]?).join = some 4 from rfl)).trans (hJ.v4 (hd 4 (by simp)))
        have o4 := (frame_old2 (us := us) (a := a0) (show (tabO[4]?).join = none from rfl)).trans k4
        generalize frame tabO a0 us = fr at *
        exact store_J 54 4 30 rfl w.heap.size _ o4 v4 _ _ (hJ.r5 hmi) UE.out ZE.out OE.out (hJ.s5 hmi)
      · intro m us w7 hmm hJ
        have hr := hJ.res
        rw [hmm 5 (by decide)] at hr
        have HR := Lib.hid hr
        have HB := Lib.hid hJ.bel
        clear hr hJ hmm hl k4 k5 k9
        subst ha0
        simp only [frame, tabO]
        go_wp2_with fail
        refine bodyPost_ret (v := .agg E) (results_cell_row Try.results21 _ _ w.heap.size _ _ _ _ (by rfl) HR.out Try.underlying54 rfl UE.out) rfl ⟨by rw [HE.out, HMM.out], HB.out⟩
end Go.Proofs.Ythbgjjfhgbkbdaa.hmC

/-
  The code's hmac: Short.
-/
namespace Go.Proofs.Ythbgjjfhgbkbdaa.hmC
open Go.ChangeShapes Go.WideShapes Go.ChangeAt Go.RowKit
open Go.Proofs.Ythbgjjfhgbkbdaa.memC Go.Proofs.Ythbgjjfhgbkbdaa.genC Go.Proofs.Ythbgjjfhgbkbdaa.shaM Go.Proofs.Ythbgjjfhgbkbdaa.shaC Go.Proofs.Ythbgjjfhgbkbdaa.shaN Go.Proofs.Ythbgjjfhgbkbdaa.butC Go.Proofs.Ythbgjjfhgbkbdaa.hmM Go.Proofs.Ythbgjjfhgbkbdaa.freeC Go.Proofs.Ythbgjjfhgbkbdaa.partsC
set_option linter.unusedVariables false
/-- a slice as a pointer to an array -/
theorem run_arrayAt {P : Program} {t e : TypeId} {n : Nat} (ht : P.underlying t = some (.array n e)) (A : Option Addr) (l c : Nat) (h : n ≤ l) (w : World) : (Instr.arrayAt t (.slice A l c)).run P w = .ok (.pointer A) w := by
  unfold Instr.arrayAt
  rw [Sem.run_bind, run_underlying ht w]
  simp [Nat.not_lt.2 h]
set_option maxRecDepth 100000 in
set_option maxHeartbeats 1000000 in
theorem cshort_any (A : Option Addr) (n c : Nat) (k : List Int) (P : Option Addr) (m c2 : Nat) (ps : List Part) (w : World) (hb : Nums .u8 w w.heap.size A n k) (hy : ∀ x ∈ k, Byte x) (hn : n ≤ 10000) (hc : n ≤ c) (hc2 : c ≤ 9223372036854775807)
    (hp : Parts w w.heap.size P ps) (hl : ps.length = m) (hm : m ≤ 100) :
    Calls Try.prog 30 #[.slice A n c, .slice P m c2] w (ShortRet w k (catL ps)) := by
  obtain ⟨Z, hZ⟩ : ∃ Z, Z = ((nz 20).map (Value.int .u8)).toArray := ⟨_, rfl⟩
  have hzv := z20
  rw [← hZ] at hzv
  obtain ⟨Y, hY⟩ : ∃ Y, Y = ((nz 12).map (Value.int .u8)).toArray := ⟨_, rfl⟩
  have hyv := z12
  rw [← hY] at hyv
  obtain ⟨d, hd⟩ : ∃ d, d = macL k (catL ps) := ⟨_, rfl⟩
  have hdl : d.length = 20 := by rw [hd]; exact mac_len _ _
  obtain ⟨X, hX⟩ : ∃ X, X = (d.map (Value.int .u8)).toArray := ⟨_, rfl⟩
  obtain ⟨V, hV⟩ : ∃ V, V = (d.take 12).map (Value.int .u8) := ⟨_, rfl⟩
  have U0 := Lib.hid (show (Try.prog.info? 54).map (·.size) = some X.size by rw [digest_info, hX]; simp [hdl])
  have ZS := Lib.hid (show Z.size = X.size by rw [hZ, hX]; simp [nz, hdl])
  have HO := Lib.hid (show X.all (·.oneCell') = true by rw [hX]; exact nums_one _)
  have hvl : V.length = 12 := by rw [hV, List.length_map, List.length_take, hdl]; decide
  have UV := Lib.hid (show (Try.prog.info? 44).map (·.size) = some V.length by rw [b12_info, hvl])
  have YV := Lib.hid (show Y.size = V.toArray.size by rw [hY]; simp [nz, hvl])
  have OV := Lib.hid (show V.toArray.all (·.oneCell') = true by rw [hV]; exact nums_one _)
  have SW := alloc_size w (.cells Y 44)
  have BW := alloc_below w (.cells Y 44)
  have RW : (w.alloc (.cells Y 44)).heap[w.heap.size]? = some (.cells Y 44 (0, 0)) := heap_alloc_new _ _
  have MC := Lib.hid (fun (w' : World) (B : Below w.heap.size w w') => (cof_any A n c k P m c2 ps w' ((hb.below B).more B.size) hy hn hc hc2 (hp.below B B.size) hl hm).mono fun e w'' h => (show e = .returned (.agg X) ∧ Below w'.heap.size w' w'' from ⟨by rw [hX, hd]; exact h.1, h.2⟩))
  have HX := Lib.hid hX
  have HD := Lib.hid hd
  have HDL := Lib.hid hdl
  have HV := Lib.hid hV
  have HSW := Lib.hid SW
  have HBW := Lib.hid BW
  have HRW := Lib.hid RW
  clear hZ hX hY hd hdl hb hp hl hy hV hvl SW BW RW
  go_enter Try.func30, Try.ntmps30
  go_upto_region 1 with fail
  generalize w.alloc (.cells Y 44) = W at *
  go_upto_region 2 with (first
    | (go_at_call 21; (with_reducible refine (MC.out _ HBW.out).mono ?_); rintro e w1 ⟨rfl, B1⟩)
    | (refine wpList_store_row rfl 54 (.tmp 5) (.tmp 8) rfl w1.heap.size X rfl rfl _ _ (heap_alloc_new _ _) U0.out ZS.out HO.out ?_))
  rw [World.setRow_alloc_new]
  have S1 := alloc_size w1 (.cells X 54)
  have D1 : Arr .u8 54 (w1.alloc (.cells X 54)) w1.heap.size d := by rw [HX.out]; exact Arr.new w1 .u8 54 d
  have R1 : (w1.alloc (.cells X 54)).heap[w.heap.size]? = some (.cells Y 44 (0, 0)) := by
    have h1 := HSW.out
    have h2 := B1.size
    rw [(alloc_below w1 _).block _ (by omega), B1.block _ (by omega)]; exact HRW.out
  have b1 : Below w.heap.size w (w1.alloc (.cells X 54)) := (HBW.out.trans (B1.mono HBW.out.size)).alloc (HBW.out.trans (B1.mono HBW.out.size)).size _
  have CL := Lib.hid (show ∀ j v, V[j]? = some v → (w1.alloc (.cells X 54)).cell? ⟨w1.heap.size, 0 + j, none⟩ = some v by
    intro j v hv
    have hj : j < 12 := by
      rcases Nat.lt_or_ge j V.length with h1 | h1
      · rw [HV.out, List.length_map, List.length_take, HDL.out] at h1; omega
      · rw [List.getElem?_eq_none h1] at hv; cases hv
    rw [Nat.zero_add, D1.cell (by rw [HDL.out]; omega), ← hv, HV.out]
    simp [List.getD_eq_getElem?_getD, HDL.out, hj, show j < 20 by omega])
  generalize w1.alloc (.cells X 54) = w2 at *
  generalize w1.heap.size = g at *
  have HR1 := Lib.hid R1
  have HB1 := Lib.hid b1
  clear S1 D1 R1 b1 B1 hzv hyv
  have hat := run_arrayAt (P := Try.prog) (t := 44) Try.underlying44 (some ⟨g, 0, none⟩) 12 20 (by decide) w2
  go_wp2_with (first
    | (refine Go.Proofs.Ythbgjjfhgbkbdaa.partC.wpList_load_part rfl 44 (.tmp 10) rfl g 0 rfl V _ CL.out Try.underlying44 rfl UV.out ?_)
    | (refine wpList_store_row rfl 44 (.tmp 4) (.tmp 11) rfl w.heap.size _ rfl rfl _ _ HR1.out UV.out YV.out OV.out ?_))
  refine bodyPost_ret (v := .agg V.toArray) (results_cell_row Try.results30 _ _ w.heap.size _ _ _ _ (by rfl) (setRow_heap _ _ _ _ _ _ HR1.out) Try.underlying44 rfl UV.out) rfl ⟨by rw [HV.out, HD.out]; rfl, ?_⟩
  exact HB1.out.trans ⟨rfl, rfl, rfl, by simp, fun z hz => setRow_other _ _ _ _ (by omega)⟩
end Go.Proofs.Ythbgjjfhgbkbdaa.hmC

/-
  AES over numbers: bytes multiplied, the box.
-/
namespace Go.Proofs.Ythbgjjfhgbkbdaa.aesM
set_option linter.unusedVariables false
def tbl : List Nat := [99, 124, 119, 123, 242, 107, 111, 197, 48, 1, 103, 43, 254, 215, 171, 118, 202, 130, 201, 125, 250, 89, 71, 240, 173, 212, 162, 175, 156, 164, 114, 192, 183, 253, 147, 38, 54, 63, 247, 204, 52, 165, 229, 241, 113, 216, 49, 21, 4, 199, 35, 195, 24, 150, 5, 154, 7, 18, 128, 226, 235, 39, 178, 117, 9, 131, 44, 26, 27, 110, 90, 160, 82, 59, 214, 179, 41, 227, 47, 132, 83, 209, 0, 237, 32, 252, 177, 91, 106, 203, 190, 57, 74, 76, 88, 207, 208, 239, 170, 251, 67, 77, 51, 133, 69, 249, 2, 127, 80, 60, 159, 168, 81, 163, 64, 143, 146, 157, 56, 245, 188, 182, 218, 33, 16, 255, 243, 210, 205, 12, 19, 236, 95, 151, 68, 23, 196, 167, 126, 61, 100, 93, 25, 115, 96, 129, 79, 220, 34, 42, 144, 136, 70, 238, 184, 20, 222, 94, 11, 219, 224, 50, 58, 10, 73, 6, 36, 92, 194, 211, 172, 98, 145, 149, 228, 121, 231, 200, 55, 109, 141, 213, 78, 169, 108, 86, 244, 234, 101, 122, 174, 8, 186, 120, 37, 46, 28, 166, 180, 198, 232, 221, 116, 31, 75, 189, 139, 138, 112, 62, 181, 102, 72, 3, 246, 14, 97, 53, 87, 185, 134, 193, 29, 158, 225, 248, 152, 17, 105, 217, 142, 148, 155, 30, 135, 233, 206, 85, 40, 223, 140, 161, 137, 13, 191, 230, 66, 104, 65, 153, 45, 15, 176, 84, 187, 22]
/-- the box -/
def box (c : Nat) : Nat := tbl.getD c 0
/-- a byte multiplied with 2 -/
def dbl (a : Nat) : Nat := (a <<< 1) % 256 ^^^ (a >>> 7) * 27
def dblN : Nat → Nat → Nat
  | 0, a => a
  | i + 1, a => dbl (dblN i a)
/-- two bytes multiplied, by the first i bits of the second -/
def tmsN (a b : Nat) : Nat → Nat
  | 0 => 0
  | i + 1 => tmsN a b i ^^^ ((b >>> i) % 2) * dblN i a
def tms (a b : Nat) : Nat := tmsN a b 8
theorem xor_lt {a b : Nat} (ha : a < 256) (hb : b < 256) : a ^^^ b < 256 := Nat.xor_lt_two_pow (n := 8) ha hb
theorem seven {a : Nat} (h : a < 256) : a >>> 7 = 0 ∨ a >>> 7 = 1 := by rw [Nat.shiftRight_eq_div_pow]; omega
theorem seven_lt {a : Nat} (h : a < 256) : (a >>> 7) * 27 < 256 := by rcases seven h with e | e <;> rw [e] <;> decide
theorem dbl_lt {a : Nat} (h : a < 256) : dbl a < 256 := xor_lt (Nat.mod_lt _ (by decide)) (seven_lt h)
theorem x4 (a b c d : Nat) : a ^^^ b ^^^ (c ^^^ d) = a ^^^ c ^^^ (b ^^^ d) := by ac_rfl
theorem dbl_xor {a b : Nat} (ha : a < 256) (hb : b < 256) : dbl (a ^^^ b) = dbl a ^^^ dbl b := by
  unfold dbl
  rw [x4, Nat.shiftLeft_xor_distrib, show (256 : Nat) = 2 ^ 8 from rfl, Nat.xor_mod_two_pow, Nat.shiftRight_xor_distrib]
  congr 1
  rcases seven ha with e | e <;> rcases seven hb with e2 | e2 <;> rw [e, e2] <;> decide
theorem dblN_lt {a : Nat} (h : a < 256) : ∀ i, dblN i a < 256
  | 0 => h
  | i + 1 => dbl_lt (dblN_lt h i)
theorem dblN_xor {a b : Nat} (ha : a < 256) (hb : b < 256) : ∀ i, dblN i (a ^^^ b) = dblN i a ^^^ dblN i b
  | 0 => rfl
  | i + 1 => by rw [dblN, dblN_xor ha hb i, dbl_xor (dblN_lt ha i) (dblN_lt hb i)]; rfl
theorem bit01 (x : Nat) : x % 2 = 0 ∨ x % 2 = 1 := by omega
theorem bit_mul (x a b : Nat) : (x % 2) * (a ^^^ b) = (x % 2) * a ^^^ (x % 2) * b := by
  rcases bit01 x with e | e <;> rw [e] <;> simp
theorem bit_lt {a : Nat} (x : Nat) (h : a < 256) : (x % 2) * a < 256 := by
  rcases bit01 x with e | e <;> rw [e] <;> omega
theorem tmsN_lt {a : Nat} (h : a < 256) (b : Nat) : ∀ i, tmsN a b i < 256
  | 0 => by show 0 < 256; decide
  | i + 1 => xor_lt (tmsN_lt h b i) (bit_lt _ (dblN_lt h i))
theorem tms_lt {a : Nat} (h : a < 256) (b : Nat) : tms a b < 256 := tmsN_lt h b 8
theorem tmsN_xor {a b : Nat} (ha : a < 256) (hb : b < 256) (c : Nat) : ∀ i, tmsN (a ^^^ b) c i = tmsN a c i ^^^ tmsN b c i
  | 0 => by simp [tmsN]
  | i + 1 => by rw [tmsN, tmsN_xor ha hb c i, dblN_xor ha hb i, bit_mul, x4]; rfl
theorem tms_xor {a b : Nat} (ha : a < 256) (hb : b < 256) (c : Nat) : tms (a ^^^ b) c = tms a c ^^^ tms b c := tmsN_xor ha hb c 8
theorem of_all {p : Nat → Bool} (h : (List.range 256).all p = true) {c : Nat} (hc : c < 256) : p c = true := List.all_eq_true.1 h c (List.mem_range.2 hc)
theorem tms2_all : ((List.range 256).all fun x => tms x 2 == dbl x) = true := by decide +kernel
theorem tms3_all : ((List.range 256).all fun x => tms x 3 == (dbl x ^^^ x)) = true := by decide +kernel
theorem tms2 {x : Nat} (h : x < 256) : tms x 2 = dbl x := by simpa using of_all tms2_all h
theorem tms3 {x : Nat} (h : x < 256) : tms x 3 = dbl x ^^^ x := by simpa using of_all tms3_all h
theorem inv_a : ((List.range 256).all fun x => (tms (tms x 2) 14 ^^^ tms x 11 ^^^ tms x 13 ^^^ tms (tms x 3) 9) == x) = true := by decide +kernel
theorem inv_b : ((List.range 256).all fun x => (tms (tms x 3) 14 ^^^ tms (tms x 2) 11 ^^^ tms x 13 ^^^ tms x 9) == 0) = true := by decide +kernel
theorem inv_c : ((List.range 256).all fun x => (tms x 14 ^^^ tms (tms x 3) 11 ^^^ tms (tms x 2) 13 ^^^ tms x 9) == 0) = true := by decide +kernel
theorem inv_d : ((List.range 256).all fun x => (tms x 14 ^^^ tms x 11 ^^^ tms (tms x 3) 13 ^^^ tms (tms x 2) 9) == 0) = true := by decide +kernel
theorem x16 (a1 a2 a3 a4 b1 b2 b3 b4 c1 c2 c3 c4 d1 d2 d3 d4 : Nat) :
    (a1 ^^^ a2 ^^^ a3 ^^^ a4) ^^^ (b1 ^^^ b2 ^^^ b3 ^^^ b4) ^^^ (c1 ^^^ c2 ^^^ c3 ^^^ c4) ^^^ (d1 ^^^ d2 ^^^ d3 ^^^ d4) = (a1 ^^^ b4 ^^^ c3 ^^^ d2) ^^^ ((a2 ^^^ b1 ^^^ c4 ^^^ d3) ^^^ ((a3 ^^^ b2 ^^^ c1 ^^^ d4) ^^^ (a4 ^^^ b3 ^^^ c2 ^^^ d1))) := by ac_rfl
/-- a column that is multiplied, and back -/
theorem col_back {x y z u : Nat} (hx : x < 256) (hy : y < 256) (hz : z < 256) (hu : u < 256) :
    tms (tms x 2 ^^^ tms y 3 ^^^ z ^^^ u) 14 ^^^ tms (tms y 2 ^^^ tms z 3 ^^^ u ^^^ x) 11 ^^^ tms (tms z 2 ^^^ tms u 3 ^^^ x ^^^ y) 13 ^^^ tms (tms u 2 ^^^ tms x 3 ^^^ y ^^^ z) 9 = x := by
  have L : ∀ {a b c d : Nat} (ha : a < 256) (hb : b < 256) (hc : c < 256) (hd : d < 256) (e : Nat), tms (a ^^^ b ^^^ c ^^^ d) e = tms a e ^^^ tms b e ^^^ tms c e ^^^ tms d e := fun ha hb hc hd e => by
    rw [tms_xor (xor_lt (xor_lt ha hb) hc) hd, tms_xor (xor_lt ha hb) hc, tms_xor ha hb]
  rw [L (tms_lt hx 2) (tms_lt hy 3) hz hu, L (tms_lt hy 2) (tms_lt hz 3) hu hx, L (tms_lt hz 2) (tms_lt hu 3) hx hy, L (tms_lt hu 2) (tms_lt hx 3) hy hz, x16]
  have e1 : tms (tms x 2) 14 ^^^ tms x 11 ^^^ tms x 13 ^^^ tms (tms x 3) 9 = x := by simpa using of_all inv_a hx
  have e2 : tms (tms y 3) 14 ^^^ tms (tms y 2) 11 ^^^ tms y 13 ^^^ tms y 9 = 0 := by simpa using of_all inv_b hy
  have e3 : tms z 14 ^^^ tms (tms z 3) 11 ^^^ tms (tms z 2) 13 ^^^ tms z 9 = 0 := by simpa using of_all inv_c hz
  have e4 : tms u 14 ^^^ tms u 11 ^^^ tms (tms u 3) 13 ^^^ tms (tms u 2) 9 = 0 := by simpa using of_all inv_d hu
  rw [e1, e2, e3, e4]
  simp
/-- powers of a byte -/
def pw (c : Nat) : Nat → Nat
  | 0 => 1
  | k + 1 => tms (pw c k) c
def inv (c : Nat) : Nat := if c = 0 then 0 else pw c 254
/-- what a box is made of -/
def rot (x : Nat) : Nat → Nat
  | 0 => x ^^^ 99
  | i + 1 => rot x i ^^^ ((x <<< (i + 1)) % 256 ||| x >>> (8 - (i + 1)))
def rturn (x : Nat) : Nat := rot x 4
theorem box_lt_all : ((List.range 256).all fun c => decide (box c < 256)) = true := by decide +kernel
theorem box_lt (c : Nat) : box c < 256 := by
  rcases Nat.lt_or_ge c 256 with h | h
  · simpa using of_all box_lt_all h
  · unfold box; rw [List.getD_eq_getElem?_getD, List.getElem?_eq_none (by rw [show tbl.length = 256 by decide +kernel]; exact h)]; decide
/-- the boxes' numbers -/
def backS : Nat → List Nat
  | 0 => List.replicate 256 0
  | i + 1 => (backS i).set (box i) i
def back : List Nat := backS 256
theorem back_all : ((List.range 256).all fun c => back.getD (box c) 0 == c) = true := by decide +kernel
theorem back_box {c : Nat} (h : c < 256) : back.getD (box c) 0 = c := by simpa using of_all back_all h
theorem box_inj {c d : Nat} (h : c < 256) (hd : d < 256) (e : box c = box d) : c = d := by rw [← back_box h, e, back_box hd]
/-- the boxes, by powers of 3 -/
def p3 : Nat → Nat
  | 0 => 1
  | i + 1 => tms (p3 i) 3
def pows (n : Nat) : List Nat := (List.range 256).map fun i => if i < n then p3 i else 0
def outS : Nat → List Nat
  | 0 => (List.replicate 256 0).set 0 (rturn 0)
  | i + 1 => (outS i).set (p3 i) (rturn (p3 (255 - i)))
theorem out_all : outS 255 = tbl := by decide +kernel
theorem p3_lt : ∀ i, p3 i < 256
  | 0 => by show 1 < 256; decide
  | i + 1 => tms_lt (p3_lt i) 3
theorem one_all : ((List.range 256).all fun x => tms 1 x == x) = true := by decide +kernel
theorem tms_one {c : Nat} (h : c < 256) : tms 1 c = c := by simpa using of_all one_all h
theorem dblN_dbl (a : Nat) : ∀ i, dblN i (dbl a) = dbl (dblN i a)
  | 0 => rfl
  | i + 1 => by rw [dblN, dblN_dbl a i]; rfl
theorem bit_dbl (x : Nat) (a : Nat) : dbl ((x % 2) * a) = (x % 2) * dbl a := by
  rcases bit01 x with e | e <;> rw [e]
  · rw [Nat.zero_mul, Nat.zero_mul]; rfl
  · rw [Nat.one_mul, Nat.one_mul]
theorem tmsN_dbl {a : Nat} (h : a < 256) (c : Nat) : ∀ i, tmsN (dbl a) c i = dbl (tmsN a c i)
  | 0 => by show (0 : Nat) = dbl 0; decide
  | i + 1 => by rw [tmsN, tmsN_dbl h c i, dblN_dbl, tmsN, dbl_xor (tmsN_lt h c i) (bit_lt _ (dblN_lt h i)), bit_dbl]
theorem tms_thrice {x : Nat} (h : x < 256) (c : Nat) : tms (tms x 3) c = tms (tms x c) 3 := by
  rw [tms3 h, tms_xor (dbl_lt h) h, tms3 (tms_lt h c)]
  congr 1
  exact tmsN_dbl h c 8
theorem p3_add (j : Nat) : ∀ i, tms (p3 i) (p3 j) = p3 (i + j)
  | 0 => by rw [Nat.zero_add]; exact tms_one (p3_lt j)
  | i + 1 => by rw [p3, tms_thrice (p3_lt i), p3_add j i, show i + 1 + j = i + j + 1 by omega]; rfl
theorem p3_round : p3 255 = 1 := by decide +kernel
theorem p3_255 : ∀ n, p3 (n + 255) = p3 n
  | 0 => by rw [Nat.zero_add]; exact p3_round
  | n + 1 => by rw [show n + 1 + 255 = n + 255 + 1 by omega, p3, p3_255 n]; rfl
theorem p3_rounds (n : Nat) : ∀ m, p3 (255 * m + n) = p3 n
  | 0 => by rw [Nat.mul_zero, Nat.zero_add]
  | m + 1 => by rw [show 255 * (m + 1) + n = 255 * m + n + 255 by omega, p3_255, p3_rounds n m]
theorem pw_p3 (l : Nat) : ∀ k, pw (p3 l) k = p3 (l * k)
  | 0 => rfl
  | k + 1 => by rw [pw, pw_p3 l k, p3_add]; rfl
theorem pw_inv {l : Nat} (h : l < 255) : pw (p3 l) 254 = p3 (255 - l) := by
  rw [pw_p3]
  rcases Nat.eq_zero_or_pos l with h0 | h0
  · subst h0; rw [Nat.zero_mul]; exact p3_round.symm
  · rw [show l * 254 = 255 * (l - 1) + (255 - l) by omega, p3_rounds]
def plit : List Nat := [1, 3, 5, 15, 17, 51, 85, 255, 26, 46, 114, 150, 161, 248, 19, 53, 95, 225, 56, 72, 216, 115, 149, 164, 247, 2, 6, 10, 30, 34, 102, 170, 229, 52, 92, 228, 55, 89, 235, 38, 106, 190, 217, 112, 144, 171, 230, 49, 83, 245, 4, 12, 20, 60, 68, 204, 79, 209, 104, 184, 211, 110, 178, 205, 76, 212, 103, 169, 224, 59, 77, 215, 98, 166, 241, 8, 24, 40, 120, 136, 131, 158, 185, 208, 107, 189, 220, 127, 129, 152, 179, 206, 73, 219, 118, 154, 181, 196, 87, 249, 16, 48, 80, 240, 11, 29, 39, 105, 187, 214, 97, 163, 254, 25, 43, 125, 135, 146, 173, 236, 47, 113, 147, 174, 233, 32, 96, 160, 251, 22, 58, 78, 210, 109, 183, 194, 93, 231, 50, 86, 250, 21, 63, 65, 195, 94, 226, 61, 71, 201, 64, 192, 91, 237, 44, 116, 156, 191, 218, 117, 159, 186, 213, 100, 172, 239, 42, 126, 130, 157, 188, 223, 122, 142, 137, 128, 155, 182, 193, 88, 232, 35, 101, 175, 234, 37, 111, 177, 200, 67, 197, 84, 252, 31, 33, 99, 165, 244, 7, 9, 27, 45, 119, 153, 176, 203, 70, 202, 69, 207, 74, 222, 121, 139, 134, 145, 168, 227, 62, 66, 198, 81, 243, 14, 18, 54, 90, 238, 41, 123, 141, 140, 143, 138, 133, 148, 167, 242, 13, 23, 57, 75, 221, 124, 132, 151, 162, 253, 28, 36, 108, 180, 199, 82, 246]
def llit : List Nat := [0, 0, 25, 1, 50, 2, 26, 198, 75, 199, 27, 104, 51, 238, 223, 3, 100, 4, 224, 14, 52, 141, 129, 239, 76, 113, 8, 200, 248, 105, 28, 193, 125, 194, 29, 181, 249, 185, 39, 106, 77, 228, 166, 114, 154, 201, 9, 120, 101, 47, 138, 5, 33, 15, 225, 36, 18, 240, 130, 69, 53, 147, 218, 142, 150, 143, 219, 189, 54, 208, 206, 148, 19, 92, 210, 241, 64, 70, 131, 56, 102, 221, 253, 48, 191, 6, 139, 98, 179, 37, 226, 152, 34, 136, 145, 16, 126, 110, 72, 195, 163, 182, 30, 66, 58, 107, 40, 84, 250, 133, 61, 186, 43, 121, 10, 21, 155, 159, 94, 202, 78, 212, 172, 229, 243, 115, 167, 87, 175, 88, 168, 80, 244, 234, 214, 116, 79, 174, 233, 213, 231, 230, 173, 232, 44, 215, 117, 122, 235, 22, 11, 245, 89, 203, 95, 176, 156, 169, 81, 160, 127, 12, 246, 111, 23, 196, 73, 236, 216, 67, 31, 45, 164, 118, 123, 183, 204, 187, 62, 90, 251, 96, 177, 134, 59, 82, 161, 108, 170, 85, 41, 157, 151, 178, 135, 144, 97, 190, 220, 252, 188, 149, 207, 205, 55, 63, 91, 209, 83, 57, 132, 60, 65, 162, 109, 71, 20, 42, 158, 93, 86, 242, 211, 171, 68, 17, 146, 217, 35, 32, 46, 137, 180, 124, 184, 38, 119, 153, 227, 165, 103, 74, 237, 222, 197, 49, 254, 24, 13, 99, 140, 128, 192, 247, 112, 7]
theorem plit_all : (List.range 255).map p3 = plit := by decide +kernel
theorem p3_at {l : Nat} (h : l < 255) : p3 l = plit.getD l 0 := by
  rw [← plit_all, List.getD_eq_getElem?_getD, List.getElem?_map, List.getElem?_range h]; rfl
theorem log_all : ((List.range 256).all fun c => c == 0 || (decide (llit.getD c 0 < 255) && plit.getD (llit.getD c 0) 0 == c)) = true := by decide +kernel
theorem log_of {c : Nat} (h : c < 256) (h0 : c ≠ 0) : ∃ l, l < 255 ∧ p3 l = c := by
  have := of_all log_all h
  simp only [Bool.or_eq_true, Bool.and_eq_true, beq_iff_eq, decide_eq_true_eq] at this
  rcases this with e | ⟨e1, e2⟩
  · exact absurd e h0
  · exact ⟨_, e1, by rw [p3_at e1, e2]⟩
theorem box_p3 : ((List.range 255).all fun l => rturn (p3 (255 - l)) == box (p3 l)) = true := by decide +kernel
theorem rbox {c : Nat} (h : c < 256) : rturn (inv c) = box c := by
  unfold inv
  by_cases h0 : c = 0
  · subst h0; decide
  · rw [if_neg h0]
    obtain ⟨l, hl, rfl⟩ := log_of h h0
    rw [pw_inv hl]
    simpa using List.all_eq_true.1 box_p3 l (List.mem_range.2 hl)
end Go.Proofs.Ythbgjjfhgbkbdaa.aesM

/-
  '==' of two arrays of bytes that are the same.
-/
namespace Go.Proofs.Ythbgjjfhgbkbdaa.eqC
open Go.ChangeShapes Go.WideShapes Go.ChangeAt Go.RowKit
set_option linter.unusedVariables false
theorem run_items {P : Program} (w : World) (d : Nat) (e : TypeId) (K : IntKind) (xs : Array Value) (he : P.underlying e = some (.int K)) :
    ∀ is : List Nat, (∀ j ∈ is, ∃ z, xs[j]? = some (.int K z)) → (Op.eqItems (d + 1) e 1 xs xs is).run P w = .ok true w
  | [], _ => by simp [Op.eqItems]
  | j :: is, h => by
    obtain ⟨z, hz⟩ := h j (by simp)
    have hagg : (isAgg e).run P w = .ok false w := by
      unfold isAgg
      rw [Sem.run_bind, run_underlying he w]
      rfl
    have hp : (part e xs (j * 1)).run P w = .ok (.int K z) w := by
      rw [Nat.mul_one]
      simp [part, Sem.run_bind, hagg, hz]
    have ih := run_items w d e K xs he is fun i hi => h i (by simp [hi])
    have hq := run_equalIn_int (P := P) w d e K K z z he
    simp only [Op.eqItems, Sem.run_bind, hp, Result.andThen_ok, hq, beq_self_eq_true, Bool.not_true, Bool.false_eq_true, if_false, ih]
theorem run_same {P : Program} (w : World) (t e : TypeId) (n : Nat) (K : IntKind) (i : TypeInfo) (xs : Array Value) (ht : P.underlying t = some (.array n e)) (he : P.underlying e = some (.int K)) (hi : P.info? e = some i)
    (hc : P.cellsOf e = 1) (hx : ∀ j, j < n → ∃ z, xs[j]? = some (.int K z)) : (Op.equalIn 10000 t (.agg xs) (.agg xs)).run P w = .ok true w := by
  rw [show (10000 : Nat) = 9998 + 1 + 1 from rfl, run_equalIn_array w _ xs xs ht hi, hc]
  exact run_items w _ e K xs he _ fun j hj => hx j (List.mem_range.1 hj)
end Go.Proofs.Ythbgjjfhgbkbdaa.eqC

/-
  AES in memory: arrays of bytes as lists of numbers.
-/
namespace Go.Proofs.Ythbgjjfhgbkbdaa.aesC
open Go.ChangeShapes Go.WideShapes Go.ChangeAt Go.RowKit
open Go.Proofs.Ythbgjjfhgbkbdaa.memC Go.Proofs.Ythbgjjfhgbkbdaa.genC Go.Proofs.Ythbgjjfhgbkbdaa.aesM
set_option linter.unusedVariables false
/-- an array of bytes as a value -/
def vec (xs : List Nat) : Array Value := (xs.map fun n : Nat => Value.int .u8 (n : Int)).toArray
theorem vec_size (xs : List Nat) : (vec xs).size = xs.length := by simp [vec]
theorem vec_one (xs : List Nat) : (vec xs).all (·.oneCell') = true := by
  rw [Array.all_eq_true_iff_forall_mem]
  intro v hv
  simp [vec] at hv
  obtain ⟨z, _, rfl⟩ := hv
  rfl
theorem vec_at {xs : List Nat} {j : Nat} (hj : j < xs.length) : (vec xs)[j]? = some (.int .u8 ((xs.getD j 0 : Nat) : Int)) := by
  simp [vec, List.getD_eq_getElem?_getD, hj]
/-- block g holds the bytes xs, and nothing else -/
structure Bl (T : TypeId) (w : World) (g : Nat) (xs : List Nat) : Prop where
  row : w.heap[g]? = some (.cells (vec xs) T (0, 0))
section
variable {T : TypeId} {w w' : World} {g : Nat} {xs ys : List Nat}
theorem Bl.lt (h : Bl T w g xs) : g < w.heap.size := by
  rcases Nat.lt_or_ge g w.heap.size with h1 | h1
  · exact h1
  · have := h.row; rw [Array.getElem?_eq_none h1] at this; cases this
theorem Bl.cell (h : Bl T w g xs) {j : Nat} (hj : j < xs.length) : w.cell? ⟨g, j, none⟩ = some (.int .u8 ((xs.getD j 0 : Nat) : Int)) := by
  rw [cell_of_row w g j _ T (0, 0) h.row, vec_at hj]
theorem Bl.frozen (h : Bl T w g xs) (j : Nat) : w.frozen? ⟨g, j, none⟩ = false := frozen_of_row w g j _ T h.row
theorem vec_set (xs : List Nat) (j x : Nat) : (vec xs).setIfInBounds j (.int .u8 (x : Int)) = vec (xs.set j x) := by
  unfold vec
  rw [List.map_set]; simp
theorem Bl.stored (h : Bl T w g xs) (j x : Nat) : Bl T (w.setCell ⟨g, j, none⟩ (.int .u8 (x : Int))) g (xs.set j x) := by
  refine ⟨?_⟩
  rw [heap_setCell_same w g j _ T _ h.row, vec_set]
theorem Bl.other (h : Bl T w g xs) {a : Addr} (ha : a.block ≠ g) (v : Value) : Bl T (w.setCell a v) g xs := ⟨by rw [heap_setCell_other w a g v (fun e => ha e.symm)]; exact h.row⟩
theorem Bl.heap (h : Bl T w g xs) (e : w'.heap = w.heap) : Bl T w' g xs := ⟨by rw [e]; exact h.row⟩
theorem Bl.below {B : Nat} (h : Bl T w g xs) (hb : Below B w w') (hg : g < B) : Bl T w' g xs := ⟨by rw [hb.block g hg]; exact h.row⟩
theorem Bl.alloc (h : Bl T w g xs) (o : Obj) : Bl T (w.alloc o) g xs := h.below (alloc_below w o) h.lt
theorem Bl.new (w : World) (T : TypeId) (xs : List Nat) : Bl T (w.alloc (.cells (vec xs) T)) w.heap.size xs := ⟨heap_alloc_new w _⟩
theorem Bl.setRow (h : Bl T w g xs) : Bl T (w.setRow g (vec ys)) g ys := ⟨setRow_heap _ _ _ _ _ _ h.row⟩
theorem Bl.row_other (h : Bl T w g xs) {k : Nat} (hk : g ≠ k) (cs : Array Value) : Bl T (w.setRow k cs) g xs := ⟨by rw [setRow_other _ _ _ _ hk]; exact h.row⟩
end
theorem below_setRow {B k : Nat} {w w' : World} (h : Below B w w') (hk : B ≤ k) (cs : Array Value) : Below B w (w'.setRow k cs) :=
  h.trans ⟨rfl, rfl, rfl, by simp, fun z hz => setRow_other _ _ _ _ (by omega)⟩
/-- bytes -/
def BY (xs : List Nat) : Prop := ∀ x ∈ xs, x < 256
theorem BY.at {xs : List Nat} (h : BY xs) (j : Nat) : xs.getD j 0 < 256 := by
  rw [List.getD_eq_getElem?_getD]
  rcases Nat.lt_or_ge j xs.length with h1 | h1
  · rw [List.getElem?_eq_getElem h1]; exact h _ (List.getElem_mem _)
  · rw [List.getElem?_eq_none h1]; decide
theorem BY.map {f : Nat → Nat} {n : Nat} (h : ∀ i, i < n → f i < 256) : BY ((List.range n).map f) := by
  intro x hx
  obtain ⟨i, hi, rfl⟩ := List.mem_map.1 hx
  exact h i (List.mem_range.1 hi)
theorem getD_map {f : Nat → Nat} {n j : Nat} (h : j < n) : ((List.range n).map f).getD j 0 = f j := by
  rw [List.getD_eq_getElem?_getD, List.getElem?_map, List.getElem?_range h]; rfl
def zs (n : Nat) : List Nat := List.replicate n 0
theorem zs_len (n : Nat) : (zs n).length = n := List.length_replicate
theorem zs_by (n : Nat) : BY (zs n) := fun x hx => by rw [List.eq_of_mem_replicate hx]; decide
/-- the first j of xs, the others of ys -/
def mixP (xs ys : List Nat) (j : Nat) : List Nat := xs.take j ++ ys.drop j
section
variable {xs ys : List Nat} {j k : Nat}
theorem mixP_len (h : xs.length = ys.length) (j : Nat) : (mixP xs ys j).length = ys.length := by
  unfold mixP; rw [List.length_append, List.length_take, List.length_drop]; omega
theorem mixP_zero (xs ys : List Nat) : mixP xs ys 0 = ys := by unfold mixP; simp
theorem mixP_full (h : xs.length = ys.length) : mixP xs ys ys.length = xs := by
  unfold mixP; rw [List.drop_length, List.append_nil, List.take_of_length_le (by omega)]
theorem mixP_old (h : xs.length = ys.length) (hj : j ≤ k) : (mixP xs ys j).getD k 0 = ys.getD k 0 := by
  rcases Nat.lt_or_ge k ys.length with h1 | h1
  · rw [List.getD_eq_getElem?_getD, List.getD_eq_getElem?_getD]
    unfold mixP
    rw [List.getElem?_append_right (by rw [List.length_take]; omega), List.getElem?_drop, List.length_take]
    congr 2; omega
  · rw [List.getD_eq_getElem?_getD, List.getD_eq_getElem?_getD, List.getElem?_eq_none h1, List.getElem?_eq_none (by rw [mixP_len h]; exact h1)]
theorem mixP_new (h : xs.length = ys.length) (hj : k < j) : (mixP xs ys j).getD k 0 = xs.getD k 0 := by
  rcases Nat.lt_or_ge k xs.length with h1 | h1
  · rw [List.getD_eq_getElem?_getD, List.getD_eq_getElem?_getD]
    unfold mixP
    rw [List.getElem?_append_left (by rw [List.length_take]; omega), List.getElem?_take, if_pos hj]
  · rw [List.getD_eq_getElem?_getD, List.getD_eq_getElem?_getD, List.getElem?_eq_none h1, List.getElem?_eq_none (by rw [mixP_len h]; omega)]
theorem mixP_set (h : xs.length = ys.length) (hj : j < ys.length) : (mixP xs ys j).set j (xs.getD j 0) = mixP xs ys (j + 1) := by
  unfold mixP
  rw [List.set_append_right _ _ (by rw [List.length_take]; omega), List.length_take, show j - min j xs.length = 0 by omega, List.take_succ_eq_append_getElem (by omega : j < xs.length), List.append_assoc,
    List.drop_eq_getElem_cons hj, List.set_cons_zero, List.getD_eq_getElem?_getD, List.getElem?_eq_getElem (by omega)]
  rfl
end
theorem vec_inj {xs ys : List Nat} (h : vec xs = vec ys) : xs = ys := by
  have h2 : (xs.map fun n : Nat => Value.int .u8 (n : Int)) = ys.map fun n : Nat => Value.int .u8 (n : Int) := by simpa [vec] using h
  exact List.map_inj_right (fun a b e => by injection e with _ e; exact Int.ofNat_inj.1 e) |>.1 h2
theorem xor_b {a b : Nat} (ha : a < 256) (hb : b < 256) : bits .xor .u8 (a : Int) (b : Int) = ((a ^^^ b : Nat) : Int) := Go.u8_xor_nat a b ha hb
/-- numbers that are bytes -/
theorem to_nats : ∀ (z : List Int), (∀ x ∈ z, 0 ≤ x ∧ x ≤ 255) → ∃ ns : List Nat, z = ns.map (fun n : Nat => (n : Int)) ∧ BY ns
  | [], _ => ⟨[], rfl, fun x hx => by cases hx⟩
  | x :: z, h => by
    obtain ⟨ns, rfl, hb⟩ := to_nats z fun y hy => h y (List.mem_cons_of_mem _ hy)
    have hx := h x (List.mem_cons_self ..)
    refine ⟨x.toNat :: ns, ?_, ?_⟩
    · rw [List.map_cons]; congr 1; omega
    · intro y hy
      rcases List.mem_cons.1 hy with rfl | hy
      · omega
      · exact hb y hy
theorem vec_of (ns : List Nat) : ((ns.map fun n : Nat => (n : Int)).map (Value.int .u8)).toArray = vec ns := by unfold vec; rw [List.map_map]; rfl
/-- what the calls do -/
def Ret (w : World) (v : Value) (e : Ending) (w' : World) : Prop := e = .returned v ∧ Below w.heap.size w w'
theorem byte_inf : (Try.prog.info? 5).map (fun i => (i.zero, i.size, i.bytes)) = some (some (.int .u8 0), 1, 1) := by kernel_rfl
theorem b16_info : (Try.prog.info? 32).map (·.size) = some 16 := by kernel_rfl
theorem key_info : (Try.prog.info? 78).map (·.size) = some 16 := by kernel_rfl
theorem b4_info : (Try.prog.info? 110).map (·.size) = some 4 := by kernel_rfl
theorem b256_info : (Try.prog.info? 95).map (·.size) = some 256 := by kernel_rfl
theorem b176_info : (Try.prog.info? 97).map (·.size) = some 176 := by kernel_rfl
theorem w176_info : (Try.prog.info? 111).map (·.size) = some 176 := by kernel_rfl
theorem zero_of {P : Program} {T : TypeId} {n : Nat} (h : (P.info? T).map (·.zero) = some (some (.agg (vec (zs n))))) (w : World) : (zeroValue T).run P w = .ok (.agg (vec (zs n))) w := by
  obtain ⟨i, hi, hz⟩ := Option.map_eq_some_iff.1 h
  simp [zeroValue, typeInfo, hi, hz]
theorem zero16 : ∀ w, (zeroValue 32).run Try.prog w = .ok (.agg (vec (zs 16))) w := zero_of (by kernel_rfl)
theorem zeroK : ∀ w, (zeroValue 78).run Try.prog w = .ok (.agg (vec (zs 16))) w := zero_of (by kernel_rfl)
theorem zero4 : ∀ w, (zeroValue 110).run Try.prog w = .ok (.agg (vec (zs 4))) w := zero_of (by kernel_rfl)
theorem zero256 : ∀ w, (zeroValue 95).run Try.prog w = .ok (.agg (vec (zs 256))) w := zero_of (by kernel_rfl)
theorem zero11 : ∀ w, (zeroValue 97).run Try.prog w = .ok (.agg (vec (zs 176))) w := zero_of (by kernel_rfl)
theorem zero44 : ∀ w, (zeroValue 111).run Try.prog w = .ok (.agg (vec (zs 176))) w := zero_of (by kernel_rfl)
end Go.Proofs.Ythbgjjfhgbkbdaa.aesC
