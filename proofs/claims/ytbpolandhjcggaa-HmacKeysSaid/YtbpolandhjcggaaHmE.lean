/-
  The code's hmac: begun.
-/
import Derived.Test.YtbpolandhjcggaaHmD
import Derived.Test.YtbpolandhjcggaaShaK
namespace Go.Proofs.Ytbpolandhjcggaa.hmC
open Go.ChangeShapes Go.WideShapes Go.ChangeAt Go.RowKit
open Go.Proofs.Ytbpolandhjcggaa.memC Go.Proofs.Ytbpolandhjcggaa.genC Go.Proofs.Ytbpolandhjcggaa.shaM Go.Proofs.Ytbpolandhjcggaa.shaC Go.Proofs.Ytbpolandhjcggaa.shaN Go.Proofs.Ytbpolandhjcggaa.butC Go.Proofs.Ytbpolandhjcggaa.hmM Go.Proofs.Ytbpolandhjcggaa.freeC Go.Proofs.Ytbpolandhjcggaa.partsC
set_option linter.unusedVariables false
/-- numbers, each of which is turned -/
def xorL (ks : List Int) (y : Int) : List Int := ks.map fun x => bits .xor .u8 x y
/-- the first j are -/
def xorP (ks : List Int) (y : Int) (j : Nat) : List Int := xorL (ks.take j) y ++ ks.drop j
theorem xorL_len (ks : List Int) (y : Int) : (xorL ks y).length = ks.length := by simp [xorL]
theorem xorL_byte (ks : List Int) (y : Int) : ∀ x ∈ xorL ks y, Byte x := by
  intro x hx
  obtain ⟨z, _, rfl⟩ := List.mem_map.1 hx
  exact bounds_u8 (wf_bits .xor .u8 z y)
theorem xorP_zero (ks : List Int) (y : Int) : xorP ks y 0 = ks := by simp [xorP, xorL]
theorem xorP_len (ks : List Int) (y : Int) (j : Nat) : (xorP ks y j).length = ks.length := by simp [xorP, xorL]; omega
theorem xorP_get {ks : List Int} {y : Int} {j : Nat} (h : j < ks.length) : (xorP ks y j).getD j 0 = ks.getD j 0 := by
  have e : (xorL (ks.take j) y).length = j := by rw [xorL_len, List.length_take]; omega
  unfold xorP
  rw [List.getD_eq_getElem?_getD, List.getElem?_append_right (by omega), e, Nat.sub_self, List.getElem?_drop, Nat.add_zero, List.getD_eq_getElem?_getD]
theorem xorP_set {ks : List Int} {y : Int} {j : Nat} (h : j < ks.length) : (xorP ks y j).set j (bits .xor .u8 (ks.getD j 0) y) = xorP ks y (j + 1) := by
  have e : (xorL (ks.take j) y).length = j := by rw [xorL_len, List.length_take]; omega
  unfold xorP
  rw [List.set_append_right _ _ (by omega), e, Nat.sub_self, List.drop_eq_getElem_cons h, List.set_cons_zero, List.take_succ_eq_append_getElem h, List.getD_eq_getElem?_getD, List.getElem?_eq_getElem h]
  simp only [xorL, List.map_append, List.map_cons, List.map_nil, List.append_assoc, List.cons_append, List.nil_append, Option.getD_some]
theorem xorP_all (ks : List Int) (y : Int) : xorP ks y ks.length = xorL ks y := by simp [xorP]
theorem turn_xor (k : List Int) (y : Int) : turnL k y = xorL (blkL k) y := rfl
/-- the blocks that a call of begun lays -/
structure BR (w : World) (Z : Array Value) (b : List Int) (wr : World) : Prop where
  arr : Arr .u8 31 wr w.heap.size b
  res : wr.heap[w.heap.size + 1]? = some (.cells Z 41 (0, 0))
  bel : Below w.heap.size w wr
theorem BR.step {w wr : World} {Z : Array Value} {b : List Int} (h : BR w Z b wr) (j : Nat) (x : Int) : BR w Z (b.set j x) (wr.setCell ⟨w.heap.size, j, none⟩ (.int .u8 x)) :=
  ⟨h.arr.stored j x, by rw [heap_setCell_other wr _ _ _ (by show w.heap.size + 1 ≠ w.heap.size; omega)]; exact h.res, h.bel.setCell (p := ⟨w.heap.size, j, none⟩) (Nat.le_refl _) _⟩
/-- .. and while the Sum is made -/
structure BJ (w0 : World) (bs : List Int) (Z S0 S1 : Array Value) (m : Nat → Bool) (us : Nat → Value) (w : World) : Prop where
  bel : Below w0.heap.size w0 w
  res : w.heap[w0.heap.size + 1]? = some (.cells (if m 3 then S1 else Z) 41 (0, 0))
  arr : Arr .u8 31 w w0.heap.size bs
  v0 : m 0 = true → us 0 = .agg S0
  v1 : m 1 = true → us 1 = .slice (some ⟨w0.heap.size, 0, none⟩) 64 64
  v2 : m 2 = true → us 2 = .agg S1
  sz : w0.heap.size + 1 < w.heap.size
section
variable {w0 w w' : World} {bs : List Int} {Z S0 S1 : Array Value} {m : Nat → Bool} {us : Nat → Value}
theorem BJ.ext (h : BJ w0 bs Z S0 S1 m us w) (hb : Below w.heap.size w w') : BJ w0 bs Z S0 S1 m us w' :=
  ⟨h.bel.trans (hb.mono h.bel.size), (hb.block _ h.sz).trans h.res, h.arr.below hb h.arr.lt, h.v0, h.v1, h.v2, Nat.lt_of_lt_of_le h.sz hb.size⟩
theorem BJ.s0 (h : BJ w0 bs Z S0 S1 m us w) (hb : Below w.heap.size w w') : BJ w0 bs Z S0 S1 (upd m 0 true) (upd us 0 (.agg S0)) w' := by
  have h' := h.ext hb
  exact ⟨h'.bel, h'.res, h'.arr, fun _ => rfl, h'.v1, h'.v2, h'.sz⟩
theorem BJ.s1 (h : BJ w0 bs Z S0 S1 m us w) : BJ w0 bs Z S0 S1 (upd m 1 true) (upd us 1 (.slice (some ⟨w0.heap.size, 0, none⟩) 64 64)) w :=
  ⟨h.bel, h.res, h.arr, h.v0, fun _ => rfl, h.v2, h.sz⟩
theorem BJ.s2 (h : BJ w0 bs Z S0 S1 m us w) (hb : Below w.heap.size w w') : BJ w0 bs Z S0 S1 (upd m 2 true) (upd us 2 (.agg S1)) w' := by
  have h' := h.ext hb
  exact ⟨h'.bel, h'.res, h'.arr, h'.v0, h'.v1, fun _ => rfl, h'.sz⟩
theorem BJ.r3 (h : BJ w0 bs Z S0 S1 m us w) (hm : m 3 = false) : w.heap[w0.heap.size + 1]? = some (.cells Z 41 (0, 0)) := by
  have := h.res
  rw [hm] at this; exact this
theorem BJ.s3 (h : BJ w0 bs Z S0 S1 m us w) (hm : m 3 = false) : BJ w0 bs Z S0 S1 (upd m 3 true) (upd us 3 undef) (w.setRow (w0.heap.size + 1) S1) :=
  ⟨h.bel.trans ⟨rfl, rfl, rfl, by simp, fun g hg => setRow_other _ _ _ _ (by omega)⟩, setRow_heap _ _ _ _ _ _ (h.r3 hm), ⟨by rw [setRow_other _ _ _ _ (by omega)]; exact h.arr.row⟩, h.v0, h.v1, h.v2, by simpa using h.sz⟩
end
def tabB : List (Option Nat) := [none, none, none, none, none, none, none, none, none, none, none, none, none, none, none, none, some 0, some 1, some 2]
set_option maxRecDepth 100000 in
set_option maxHeartbeats 1000000 in
theorem begun_any (ks : List Int) (y : Int) (w : World) (hk : ks.length = 64) (hy : ∀ x ∈ ks, Byte x) (y0 : 0 ≤ y) (y1 : y ≤ 255) :
    Calls Try.prog 15 #[.agg (ks.map (Value.int .u8)).toArray, .int .u8 y] w (SumRet w (xorL ks y)) := by
  obtain ⟨Z, hZ⟩ : ∃ Z, Z = zeroC.toArray := ⟨_, rfl⟩
  have hzv := zero70
  rw [← hZ] at hzv
  obtain ⟨K, hK⟩ : ∃ K, K = (ks.map (Value.int .u8)).toArray := ⟨_, rfl⟩
  have hk64 : K.size = 64 := by rw [hK]; simp [hk]
  obtain ⟨S0, hS0⟩ : ∃ S, S = (sumL []).toArray := ⟨_, rfl⟩
  obtain ⟨S1, hS1⟩ : ∃ S, S = (sumL (xorL ks y)).toArray := ⟨_, rfl⟩
  have HNW := Lib.hid (fun w' : World => (new_any w').mono fun e w'' h => (show e = .returned (.agg S0) ∧ Below w'.heap.size w' w'' from ⟨by rw [hS0]; exact h.1, h.2⟩))
  have HAD := Lib.hid (fun (w' : World) (A : Arr .u8 31 w' w.heap.size (xorL ks y)) => (show Calls Try.prog 16 #[.agg S0, .slice (some ⟨w.heap.size, 0, none⟩) 64 64] w' fun e w'' => e = .returned (.agg S1) ∧ Below w'.heap.size w' w'' from by
    rw [hS0, hS1]
    exact (add_any [] (xorL ks y) (some ⟨w.heap.size, 0, none⟩) 64 64 w' (A.part (by rw [xorL_len, hk])) (Nat.le_refl _) (by decide) (by simp) (xorL_byte ks y) (by decide)).mono fun e w'' h => ⟨h.1, h.2⟩))
  have U1 := Lib.hid (show (Try.prog.info? 41).map (·.size) = some S1.size by rw [sum_info, hS1]; simp [sumL_len])
  have ZS := Lib.hid (show Z.size = S1.size by rw [hZ, hS1]; simp [sumL_len]; rfl)
  have HO := Lib.hid (show S1.all (·.oneCell') = true by rw [hS1]; exact sumC_one _ _ _)
  have HS1 := Lib.hid hS1
  have e1 : (w.alloc (.cells K 31)).heap.size = w.heap.size + 1 := alloc_size _ _
  have R0 : BR w Z (xorP ks y 0) ((w.alloc (.cells K 31)).alloc (.cells Z 41)) := by
    rw [xorP_zero]
    refine ⟨?_, ?_, ((Below.refl _ _).alloc (Nat.le_refl _) _).alloc (by simp) _⟩
    · rw [hK]; exact (Arr.new w .u8 31 ks).alloc _
    · rw [← e1]; exact heap_alloc_new _ _
  have HR0 := Lib.hid R0
  have HL := Lib.hid hk
  have HY := Lib.hid hy
  rw [← hK]
  clear hZ hK hS0 hS1 R0 e1 hk hy
  go_enter Try.func15, Try.ntmps15
  go_wp2_with fail
  go_loopw [6] (fun i wr => ∃ j : Nat, j ≤ 64 ∧ i = .int .i64 j ∧ BR w Z (xorP ks y j) wr) (fun i _ => 64 - (intOf i).toNat)
  case atStart => exact ⟨0, by omega, rfl, HR0.out⟩
  case round =>
    obtain ⟨j, hj, rfl, KK⟩ := hrel
    have HK := Lib.hid KK
    by_cases hlt : j < 64
    · have hjl : j < ks.length := by rw [HL.out]; exact hlt
      have cw := KK.arr.cell (j := j) (by rw [xorP_len]; exact hjl)
      have fw := KK.arr.frozen j
      rw [xorP_get hjl] at cw
      have hx := getD_byte HY.out hjl
      have hjz : (j : Int) < 64 := by omega
      have hst := KK.step j (bits .xor .u8 (ks.getD j 0) y)
      rw [xorP_set hjl] at hst
      have HS := Lib.hid hst
      generalize ks.getD j 0 = x at *
      obtain ⟨x0, x1⟩ := hx
      clear KK hst
      go_wp2_with fail
      go_roundw
      case rel => exact ⟨j + 1, by omega, by go_num, HS.out⟩
      case measure => simp [intOf]; omega
    · have e : j = ks.length := by rw [HL.out]; omega
      have KB := KK.arr
      rw [e, xorP_all] at KB
      have J0 : BJ w (xorL ks y) Z S0 S1 (fun _ => false) (fun _ => undef) wr.drew :=
        ⟨KK.bel.drew, KK.res, KB.heap rfl, fun h => (by cases h), fun h => (by cases h), fun h => (by cases h), (Array.getElem?_eq_some_iff.1 KK.res).1⟩
      have HJ0 := Lib.hid J0
      have hjz : ¬ (j : Int) < 64 := by omega
      clear KB J0 e KK HK hlt
      go_upto_region 6 with fail
      refine with_act fun a0 ha0 => ?_
      have hl : tabB.length = a0.tmps.size := by rw [ha0]; rfl
      have k2 : a0.tmps[2]?.getD undef = .pointer (some ⟨w.heap.size, 0, none⟩) := by rw [ha0]; rfl
      have k4 : a0.tmps[4]?.getD undef = .pointer (some ⟨w.heap.size + 1, 0, none⟩) := by rw [ha0]; rfl
      refine wp_region_J (by kernel_rfl) tabB (by kernel_rfl) (by kernel_rfl) hl (fun _ => undef) (by rw [ha0]; rfl) (BJ w (xorL ks y) Z S0 S1) HJ0.out ⟨?_, ?_, ?_, ?_, trivial⟩ ?_
      · refine stepJ [] (by kernel_rfl) rfl fun m us w' hJ hmi hd => ?_
        generalize frame tabB a0 us = fr at *
        refine call_J (f := 21) (args := #[]) (by go_simp) ((HNW.out w').mono ?_)
        rintro e w'' ⟨rfl, B⟩
        exact ⟨_, rfl, hJ.s0 B⟩
      · refine stepJ [] (by kernel_rfl) rfl fun m us w' hJ hmi hd => ?_
        have o2 := (frame_old2 (us := us) (a := a0) (show (tabB[2]?).join = none from rfl)).trans k2
        generalize frame tabB a0 us = fr at *
        exact val_J (v := .slice (some ⟨w.heap.size, 0, none⟩) 64 64) (w' := w') (by go_simp) hJ.s1
      · refine stepJ [0, 1] (by kernel_rfl) rfl fun m us w' hJ hmi hd => ?_
        have v0 := (frame_at2 (us := us) hl (show (tabB[16]?).join = some 0 from rfl)).trans (hJ.v0 (hd 0 (by simp)))
        have v1 := (frame_at2 (us := us) hl (show (tabB[17]?).join = some 1 from rfl)).trans (hJ.v1 (hd 1 (by simp)))
        generalize frame tabB a0 us = fr at *
        refine call_J (f := 16) (args := #[.agg S0, .slice (some ⟨w.heap.size, 0, none⟩) 64 64]) (by go_simp) ((HAD.out w' hJ.arr).mono ?_)
        rintro e w'' ⟨rfl, B⟩
        exact ⟨_, rfl, hJ.s2 B⟩
      · refine stepJ [2] (by kernel_rfl) rfl fun m us w' hJ hmi hd => ?_
        have v2 := (frame_at2 (us := us) hl (show (tabB[18]?).join = some 2 from rfl)).trans (hJ.v2 (hd 2 (by simp)))
        have o4 := (frame_old2 (us := us) (a := a0) (show (tabB[4]?).join = none from rfl)).trans k4
        generalize frame tabB a0 us = fr at *
        exact store_J 41 4 18 rfl (w.heap.size + 1) _ o4 v2 _ _ (hJ.r3 hmi) U1.out ZS.out HO.out (hJ.s3 hmi)
      · intro m us w7 hmm hJ
        have hr := hJ.res
        rw [hmm 3 (by decide)] at hr
        have HR := Lib.hid hr
        have HB := Lib.hid hJ.bel
        clear hr hJ hmm hl k2 k4
        subst ha0
        simp only [frame, tabB, fill]
        go_wp2_with fail
        refine bodyPost_ret (v := .agg S1) (results_cell_row Try.results15 _ _ (w.heap.size + 1) _ _ _ _ (by rfl) HR.out Try.underlying41 rfl U1.out) rfl ⟨by rw [HS1.out], HB.out⟩
end Go.Proofs.Ytbpolandhjcggaa.hmC
