/-
  3 texts of a proof, joined.
-/
import Derived.Test.YtniimgbljhmcoaaDoorMg31
import Derived.Test.YtniimgbljhmcoaaDoorMg34
import Derived.Test.YtniimgbljhmcoaaDoorMg35
import Derived.Test.YtniimgbljhmcoaaDoorMg29
import Derived.BigRegion
import Derived.Deep.CutRange
import Derived.StillTailTactics

/-
  A segment is laid, parsed, and answered.
-/
namespace Go.Proofs.YtniimgbljhmcoaaDoor.sgC
open Go.ChangeShapes Go.WideShapes Go.ChangeAt Go.RowKit
open Go.Proofs.YtniimgbljhmcoaaDoor.memC Go.Proofs.YtniimgbljhmcoaaDoor.genC Go.Proofs.YtniimgbljhmcoaaDoor.butC Go.Proofs.YtniimgbljhmcoaaDoor.freeC Go.Proofs.YtniimgbljhmcoaaDoor.adC
open Go.Proofs.YtniimgbljhmcoaaDoor.opC (Kd Prs zOpt zOpt_ok U32 at_build OwnP)
open Go.Proofs.YtniimgbljhmcoaaDoor.pkC (OwnE)
set_option linter.unusedVariables false
def zAdr : Array Value := #[.bool false, .int .u8 0, .int .u8 0, .int .u8 0, .int .u8 0, .int .u8 0, .int .u8 0, .int .u8 0, .int .u8 0, .int .u8 0, .int .u8 0, .int .u8 0, .int .u8 0, .int .u8 0, .int .u8 0, .int .u8 0, .int .u8 0]
theorem zAdr_ok : chkC.AddrC zAdr false (List.replicate 16 0) := by
  refine ⟨rfl, rfl, rfl, fun i hi => ?_, fun x hx => ?_⟩
  · match i, hi with
    | 0, _ | 1, _ | 2, _ | 3, _ | 4, _ | 5, _ | 6, _ | 7, _ => rfl
    | 8, _ | 9, _ | 10, _ | 11, _ | 12, _ | 13, _ | 14, _ | 15, _ => rfl
    | i + 16, h => exact absurd h (by omega)
  · rw [List.eq_of_mem_replicate hx]; exact ⟨by decide, by decide⟩
theorem zAdr_built : Tryd.prog.built 24 [] = some zAdr := by kernel_rfl
/-- the segment that is tried -/
def kS : Sg := ⟨1, 2, 5, 0, 2, 0, 0, zOpt⟩
def kA : Sg := ⟨2, 1, 0, 6, 20, 0, 0, zOpt⟩
theorem kS_ok : kS.Ok := ⟨by unfold U16 kS; decide, by unfold U16 kS; decide, by unfold U32 kS; decide, by unfold U32 kS; decide, by unfold Byte kS; decide, by unfold U16 kS; decide, by unfold U16 kS; decide, zOpt_ok⟩
theorem kS_may : mayS kS 0 = true := by decide
theorem kS_rst : rstP kS 0 = (kA, true) := by
  unfold rstP
  rw [if_neg (by decide), if_neg (by decide)]
  rfl
theorem kS_built : Tryd.prog.built 34 [(0, .int .u16 1), (1, .int .u16 2), (2, .int .u32 5), (4, .int .u8 2)] = some (segV kS none 0 0 none 0 0) := by kernel_rfl
set_option maxRecDepth 100000 in
set_option maxHeartbeats 8000000 in
theorem alive_any (w : World) (hk : Kd w) : Calls Tryd.prog 10 #[] w (Ret w (.bool true)) := by
  have hzv := zeroSeg
  obtain ⟨CS, hCS⟩ : ∃ C, C = segV kS none 0 0 none 0 0 := ⟨_, rfl⟩
  obtain ⟨CA, hCA⟩ : ∃ C, C = segV kA none 0 0 none 0 0 := ⟨_, rfl⟩
  obtain ⟨ZS, hZS⟩ : ∃ C, C = segV zSg none 0 0 none 0 0 := ⟨_, rfl⟩
  obtain ⟨ZA, hZA⟩ : ∃ C, C = zAdr := ⟨_, rfl⟩
  have BS := Lib.hid kS_built
  have BA := Lib.hid zAdr_built
  rw [← hCS] at BS
  rw [← hZA] at BA
  simp only [← hZS] at hzv
  have IS := Lib.hid (show (Tryd.prog.info? 34).map (·.size) = some CS.size by rw [hCS]; exact (segC zOpt_ok.lm none 0 0 none 0 0 (s := kS)).info)
  have SS := Lib.hid (show ZS.size = CS.size by rw [hCS, hZS]; exact seg_size (s := zSg) (s' := kS) zOpt_ok.lm zOpt_ok.lm none none 0 0 0 0 none none 0 0 0 0)
  have OS := Lib.hid (show CS.all (·.oneCell') = true by rw [hCS]; exact seg_one kS none 0 0 none 0 0)
  have IA := Lib.hid (show (Tryd.prog.info? 34).map (·.size) = some CA.size by rw [hCA]; exact (segC zOpt_ok.lm none 0 0 none 0 0 (s := kA)).info)
  have SA := Lib.hid (show ZS.size = CA.size by rw [hCA, hZS]; exact seg_size (s := zSg) (s' := kA) zOpt_ok.lm zOpt_ok.lm none none 0 0 0 0 none none 0 0 0 0)
  have OA := Lib.hid (show CA.all (·.oneCell') = true by rw [hCA]; exact seg_one kA none 0 0 none 0 0)
  have IX := Lib.hid (fun (A : Option Addr) (n c : Nat) (B : Option Addr) (m d : Nat) => (segC zOpt_ok.lm A n c B m d (s := kS)).info)
  have SX := Lib.hid (fun (A : Option Addr) (n c : Nat) (B : Option Addr) (m d : Nat) => (show ZS.size = (segV kS A n c B m d).size by rw [hZS]; exact seg_size (s := zSg) (s' := kS) zOpt_ok.lm zOpt_ok.lm none A 0 0 n c none B 0 0 m d))
  have OX := Lib.hid (fun (A : Option Addr) (n c : Nat) (B : Option Addr) (m d : Nat) => seg_one kS A n c B m d)
  have LD := laid zAdr_ok zAdr_ok kS_ok (xs := []) kS_may (by simp) (by simp)
  obtain ⟨LL, hLL⟩ : ∃ L, L = laysL false false (List.replicate 16 0) (List.replicate 16 0) kS [] := ⟨_, rfl⟩
  rw [← hLL] at LD
  have KK := Lib.hid (fun (w' : World) (h : Below w.heap.size w w') => hk.bel h)
  have LC := Lib.hid (fun (w' : World) (h : Kd w') => (show Calls Tryd.prog 11 #[.agg ZA, .agg ZA, .agg CS] w' (OwnE w' LL 0) by
    have h1 := clay_any zAdr zAdr false false (List.replicate 16 0) (List.replicate 16 0) kS none 0 0 none 0 0 [] w' zAdr_ok zAdr_ok h kS_ok rfl Prs.none_ (by decide) (Nums.none_ 0) (by simp) (fun _ => by decide)
    rw [← hLL, show laysE kS 0 = 0 by unfold laysE; rw [if_pos kS_may]] at h1
    rw [hZA, hCS]
    exact h1))
  have PC := Lib.hid (fun (w' : World) (h : Kd w') (A : Option Addr) (n c : Nat) (hb : Nums .u8 w' w'.heap.size A n LL) => (show Calls Tryd.prog 21 #[.agg ZA, .agg ZA, .slice A n c] w' (PsS w' (0, kS, [])) by
    have hl := hb.len
    have h1 := cparse_any zAdr zAdr false false (List.replicate 16 0) (List.replicate 16 0) A n c LL w' zAdr_ok zAdr_ok h hb LD.2.2.2.2 (by have := LD.2.2.2.1; simp at this; omega)
    rw [LD.2.2.1] at h1
    rw [hZA]
    exact h1))
  have RC := Lib.hid (fun (A : Option Addr) (n c : Nat) (B : Option Addr) (d : Nat) (w' : World) => (show Calls Tryd.prog 23 #[.agg (segV kS A n c B 0 d)] w' (fun e w'' => e = .returned (.tuple #[.agg CA, .bool true]) ∧ Below w'.heap.size w' w'') by
    have h1 := crst_any kS A n c B 0 d w' zOpt_ok.lm kS_ok.fl (by decide)
    unfold RstR at h1
    rw [kS_rst, ← hCA] at h1
    exact h1))
  have SC := Lib.hid (fun (A : Option Addr) (c : Nat) (B : Option Addr) (d : Nat) (w' : World) => (show Calls Tryd.prog 17 #[.agg CS, .agg (segV kS A 0 c B 0 d)] w' (Ret w' (.bool true)) by
    have h1 := csame_any kS kS none A 0 0 0 c none B 0 0 0 d [] [] w' zOpt_ok.lm zOpt_ok.lm Prs.none_ Prs.none_ (by decide) (by decide) (Nums.none_ 0) ⟨rfl, fun h => absurd h (Nat.lt_irrefl 0)⟩ (by simp) (by simp)
    rw [sameS_self] at h1
    rw [hCS]
    exact h1))
  have NC := Lib.hid (fun (w' : World) => (show Calls Tryd.prog 15 #[.agg CS] w' (Ret w' (.int .u32 1)) by
    have h1 := clen_any kS none 0 0 none 0 0 w' zOpt_ok.lm kS_ok.fl (by decide)
    rw [show lenN kS.fl 0 = 1 by decide] at h1
    rw [hCS]
    exact h1))
  have KF := Lib.hid (fun (w' : World) (g : Nat) (h : w'.heap[g]? = some (.cells CA 34 (0, 0))) => (show w'.cell? ⟨g, 4, none⟩ = some (.int .u8 20) from pkC.PkC.cell h (by rw [hCA]; exact (segC zOpt_ok.lm none 0 0 none 0 0 (s := kA)).fl)))
  have KQ := Lib.hid (fun (w' : World) (g : Nat) (h : w'.heap[g]? = some (.cells CA 34 (0, 0))) => (show w'.cell? ⟨g, 3, none⟩ = some (.int .u32 6) from pkC.PkC.cell h (by rw [hCA]; exact (segC zOpt_ok.lm none 0 0 none 0 0 (s := kA)).ak)))
  clear hCS hCA hZS hZA hLL LD hk
  go_enter Tryd.func10, Tryd.ntmps10
  go_upto_region 2 with (first
    | (with_reducible refine at_build 34 ?_; refine wpList_runG (by kernel_rfl) _ (built_runS (T := 34) (L := [(0, .int .u16 1), (1, .int .u16 2), (2, .int .u32 5), (4, .int .u8 2)]) rfl rfl BS.out) ?_)
    | (refine wpList_store_row rfl 34 (.tmp 1) (.tmp 8) rfl w.heap.size CS rfl rfl _ _ (heap_alloc_new _ _) IS.out SS.out OS.out ?_; rw [World.setRow_alloc_new]))
  have R1 := Lib.hid (heap_alloc_new w (.cells CS 34))
  have B1 := Lib.hid (alloc_below w (.cells CS 34))
  have z1 := Lib.hid (alloc_size w (.cells CS 34))
  generalize w.alloc (.cells CS 34) = w1 at *
  go_upto_region 3 with (first
    | (with_reducible refine at_build 24 ?_; refine wpList_runG (by kernel_rfl) _ (built_run (T := 24) rfl BA.out) ?_)
    | (refine wpList_load_row rfl 34 (.tmp 1) rfl w.heap.size rfl _ _ _ _ R1.out Tryd.underlying34 rfl IS.out ?_)
    | (go_at_call 11; (refine (LC.out w1 (KK.out _ B1.out)).mono ?_); rintro e w2 ⟨A2, n2, c2, rfl, O2, B2⟩
       have HO2 := Lib.hid O2
       have HB2 := Lib.hid (B1.out.trans (B2.mono B1.out.size))
       have R2 := Lib.hid (show w2.heap[w.heap.size]? = some (.cells CS 34 (0, 0)) from (B2.block _ (by rw [z1.out]; omega)).trans R1.out)
       clear O2 B2))
  clear R1 B1 LC BS SS OS z1
  go_upto_region 4 with (first
    | (with_reducible refine at_build 24 ?_; refine wpList_runG (by kernel_rfl) _ (built_run (T := 24) rfl BA.out) ?_)
    | (go_at_call 21; (refine (PC.out w2 (KK.out _ HB2.out) A2 n2 c2 HO2.out.nums).mono ?_); rintro e w3 ⟨A3, n3, c3, B3, m3, d3, rfl, hn3, OP3, OX3, BB⟩
       obtain rfl : n3 = 0 := hn3.symm
       obtain rfl : m3 = 0 := OX3.len.symm
       have HB3 := Lib.hid (HB2.out.trans (BB.mono HB2.out.size))
       have R3 := Lib.hid (show w3.heap[w.heap.size]? = some (.cells CS 34 (0, 0)) from (BB.block _ (opC.lt_of_row R2.out)).trans R2.out)
       clear OP3 OX3 BB hn3)
    | (refine wpList_store_row rfl 34 (.tmp 4) (.tmp 21) rfl w3.heap.size _ rfl rfl _ _ (heap_alloc_new _ _) (IX.out A3 0 c3 B3 0 d3) (SX.out A3 0 c3 B3 0 d3) (OX.out A3 0 c3 B3 0 d3) ?_; rw [World.setRow_alloc_new]))
  have IY := Lib.hid (IX.out A3 0 c3 B3 0 d3)
  have RD := Lib.hid (RC.out A3 0 c3 B3 d3)
  have SD := Lib.hid (SC.out A3 c3 B3 d3)
  clear HO2 R2 PC HB2 IX SX OX RC SC
  generalize segV kS A3 0 c3 B3 0 d3 = CX at *
  have X3 := Lib.hid (heap_alloc_new w3 (.cells CX 34))
  have B3' := Lib.hid (alloc_below w3 (.cells CX 34))
  have HB4 := Lib.hid (HB3.out.trans (B3'.out.mono HB3.out.size))
  have R4 := Lib.hid (show (w3.alloc (.cells CX 34)).heap[w.heap.size]? = some (.cells CS 34 (0, 0)) from (B3'.out.block _ (opC.lt_of_row R3.out)).trans R3.out)
  clear R3 HB3 B3'
  generalize w3.alloc (.cells CX 34) = v3 at *
  generalize w3.heap.size = gx at *
  go_upto_region 5 with (first
    | (refine wpList_load_row rfl 34 (.tmp 4) rfl gx rfl _ _ _ _ X3.out Tryd.underlying34 rfl IY.out ?_)
    | (go_at_call 23; (refine (RD.out v3).mono ?_); rintro e w5 ⟨rfl, BB⟩
       have HB5 := Lib.hid (HB4.out.trans (BB.mono HB4.out.size))
       have R5 := Lib.hid (show w5.heap[w.heap.size]? = some (.cells CS 34 (0, 0)) from (BB.block _ (opC.lt_of_row R4.out)).trans R4.out)
       have X5 := Lib.hid (show w5.heap[gx]? = some (.cells CX 34 (0, 0)) from (BB.block _ (opC.lt_of_row X3.out)).trans X3.out)
       clear BB)
    | (refine wpList_store_row rfl 34 (.tmp 6) (.tmp 26) rfl w5.heap.size CA rfl rfl _ _ (heap_alloc_new _ _) IA.out SA.out OA.out ?_; rw [World.setRow_alloc_new]))
  have A6 := Lib.hid (heap_alloc_new w5 (.cells CA 34))
  have B6 := Lib.hid (alloc_below w5 (.cells CA 34))
  have HB6 := Lib.hid (HB5.out.trans (B6.out.mono HB5.out.size))
  have R6 := Lib.hid (show (w5.alloc (.cells CA 34)).heap[w.heap.size]? = some (.cells CS 34 (0, 0)) from (B6.out.block _ (opC.lt_of_row R5.out)).trans R5.out)
  have X6 := Lib.hid (show (w5.alloc (.cells CA 34)).heap[gx]? = some (.cells CX 34 (0, 0)) from (B6.out.block _ (opC.lt_of_row X5.out)).trans X5.out)
  clear HB4 R4 X3 HB5 R5 X5 B6 SA OA RD hzv
  generalize w5.alloc (.cells CA 34) = v5 at *
  generalize w5.heap.size = ga at *
  go_wp2_with (first
    | (refine wpList_load_rowG (by kernel_rfl) 34 (.tmp 1) rfl w.heap.size (by kernel_rfl) _ _ _ _ R6.out Tryd.underlying34 rfl IS.out ?_)
    | (refine wpList_load_rowG (by kernel_rfl) 34 (.tmp 4) rfl gx (by kernel_rfl) _ _ _ _ X6.out Tryd.underlying34 rfl IY.out ?_)
    | (go_at_call 17; (refine (SD.out v5).mono ?_); rintro e w7 ⟨rfl, BB⟩
       have HB7 := Lib.hid (HB6.out.trans (BB.mono HB6.out.size))
       have R7 := Lib.hid (show w7.heap[w.heap.size]? = some (.cells CS 34 (0, 0)) from (BB.block _ (opC.lt_of_row R6.out)).trans R6.out)
       have A7 := Lib.hid (show w7.heap[ga]? = some (.cells CA 34 (0, 0)) from (BB.block _ (opC.lt_of_row A6.out)).trans A6.out)
       have kf := KF.out w7 ga A7.out
       have kq := KQ.out w7 ga A7.out
       clear BB)
    | (refine wpList_load_rowG (by kernel_rfl) 34 (.tmp 1) rfl w.heap.size (by kernel_rfl) _ _ _ _ R7.out Tryd.underlying34 rfl IS.out ?_)
    | (go_at_call 15; (refine (NC.out _).mono ?_); rintro e w8 ⟨rfl, BB⟩
       have HB8 := Lib.hid (HB7.out.trans (BB.mono HB7.out.size))
       clear BB))
  go_ret
  exact ⟨rfl, HB8.out⟩
end Go.Proofs.YtniimgbljhmcoaaDoor.sgC

/-
  The walks of SegBack and SegAgain.
-/
namespace Go.Proofs.YtniimgbljhmcoaaDoor.sgC
open Go.ChangeShapes Go.WideShapes Go.ChangeAt Go.RowKit
open Go.Proofs.YtniimgbljhmcoaaDoor.memC Go.Proofs.YtniimgbljhmcoaaDoor.genC Go.Proofs.YtniimgbljhmcoaaDoor.butC Go.Proofs.YtniimgbljhmcoaaDoor.freeC Go.Proofs.YtniimgbljhmcoaaDoor.adC
open Go.Proofs.YtniimgbljhmcoaaDoor.opC (Kd Prs zOpt zOpt_ok U32 at_build OwnP psE psO)
open Go.Proofs.YtniimgbljhmcoaaDoor.pkC (OwnE)
set_option linter.unusedVariables false
theorem two_row {w' : World} {g : Nat} {l1 l2 : List Value} (h1 : l1.length = 17) (hr : w'.heap[g]? = some (.cells (l1 ++ l2).toArray 25 (0, 0))) :
    (∀ j v, l1[j]? = some v → w'.cell? ⟨g, 0 + j, none⟩ = some v) ∧ (∀ j v, l2[j]? = some v → w'.cell? ⟨g, 17 + j, none⟩ = some v) := by
  refine ⟨fun j v h => ?_, fun j v h => ?_⟩
  · refine pkC.PkC.cell hr ?_
    have hj : j < l1.length := (List.getElem?_eq_some_iff.1 h).1
    simp only [Nat.zero_add, List.getElem?_toArray]
    rw [List.getElem?_append_left hj]; exact h
  · refine pkC.PkC.cell hr ?_
    simp only [List.getElem?_toArray]
    rw [List.getElem?_append_right (by omega), show 17 + j - l1.length = j by omega]; exact h
/-- what an error gives -/
theorem sgP_bad {gd : Bool} {bs : List Int} (h : (sgP gd bs).1 ≠ 0) : (sgP gd bs).2 = (zSg, []) := by
  unfold sgP at h ⊢
  by_cases c1 : bs.length < 20
  · rw [if_pos c1]
  rw [if_neg c1] at h ⊢
  by_cases c2 : sgN bs < 20
  · rw [if_pos c2]
  rw [if_neg c2] at h ⊢
  by_cases c3 : (bs.length : Int) < sgN bs
  · rw [if_pos c3]
  rw [if_neg c3] at h ⊢
  by_cases c4 : gd = false
  · rw [if_pos c4]
  rw [if_neg c4] at h ⊢
  by_cases c5 : psE (sgO bs) ≠ 0
  · rw [if_pos c5]
  rw [if_neg c5] at h ⊢
  by_cases c6 : mayS (sgR bs) (sgD bs).length = true
  · rw [if_pos c6] at h; exact absurd rfl h
  · rw [if_neg c6]
theorem sgP_good {gd : Bool} {bs : List Int} (hy : ∀ x ∈ bs, Byte x) (h : (sgP gd bs).1 = 0) : (sgP gd bs).2.1.Ok ∧ mayS (sgP gd bs).2.1 (sgP gd bs).2.2.length = true ∧ (∀ x ∈ (sgP gd bs).2.2, Byte x) ∧ (sgP gd bs).2.2.length ≤ bs.length := by
  have hd : ∀ x ∈ sgD bs, Byte x := fun x hx => hy x (by unfold sgD at hx; exact List.mem_of_mem_drop hx)
  have hl : (sgD bs).length ≤ bs.length := by unfold sgD; rw [List.length_drop]; omega
  have hr : ¬ bs.length < 20 → psE (sgO bs) = 0 → (sgR bs).Ok := fun h1 h2 => sgR_ok hy (by omega) h2
  unfold sgP at h ⊢
  by_cases c1 : bs.length < 20
  · rw [if_pos c1] at h; simp at h
  rw [if_neg c1] at h ⊢
  by_cases c2 : sgN bs < 20
  · rw [if_pos c2] at h; simp at h
  rw [if_neg c2] at h ⊢
  by_cases c3 : (bs.length : Int) < sgN bs
  · rw [if_pos c3] at h; simp at h
  rw [if_neg c3] at h ⊢
  by_cases c4 : gd = false
  · rw [if_pos c4] at h; simp at h
  rw [if_neg c4] at h ⊢
  by_cases c5 : psE (sgO bs) ≠ 0
  · rw [if_pos c5] at h; exact absurd h c5
  rw [if_neg c5] at h ⊢
  by_cases c6 : mayS (sgR bs) (sgD bs).length = true
  · rw [if_pos c6] at h ⊢
    exact ⟨hr c1 (Classical.byContradiction c5), c6, hd, hl⟩
  · rw [if_neg c6] at h; simp at h
set_option maxRecDepth 100000 in
set_option maxHeartbeats 8000000 in
theorem back_walk (l1 l2 : List Value) (s1 s2 : Bool) (b1 b2 : List Int) (s : Sg) (A : Option Addr) (n c : Nat) (B : Option Addr) (m d : Nat) (xs : List Int) (w : World) (hk : Kd w) (e1 : l1.length = 17) (e2 : l2.length = 17) (h1 : chkC.AddrC l1.toArray s1 b1) (h2 : chkC.AddrC l2.toArray s2 b2)
    (hs : s.Ok) (hA : Prs w w.heap.size A n s.op.sk) (hx : Nums .u8 w w.heap.size B m xs) (hy : ∀ x ∈ xs, Byte x) : Calls Tryd.prog 6 #[.agg (l1 ++ l2).toArray, .agg (segV s A n c B m d)] w (Ret w (.bool true)) := by
  have hzv := zeroSeg
  have E1 := Lib.hid e1
  have U1 := Lib.hid (show (Tryd.prog.info? 24).map (·.size) = some l1.length by rw [e1]; exact addr_info)
  have U2 := Lib.hid (show (Tryd.prog.info? 24).map (·.size) = some l2.length by rw [e2]; exact addr_info)
  have AL := Lib.hid (fun (w' : World) (h : Below w.heap.size w w') => alive_any w' (hk.bel h))
  obtain ⟨CT, hCT⟩ : ∃ C, C = (l1 ++ l2).toArray := ⟨_, rfl⟩
  have HCT := Lib.hid hCT
  obtain ⟨ZS, hZS⟩ : ∃ C, C = segV zSg none 0 0 none 0 0 := ⟨_, rfl⟩
  have hn := hA.len
  have hml := hx.len
  have z0 : (w.alloc (.cells (l1 ++ l2).toArray 25)).heap.size = w.heap.size + 1 := alloc_size _ _
  obtain ⟨W, hW⟩ : ∃ W, W = (w.alloc (.cells (l1 ++ l2).toArray 25)).alloc (.cells (segV s A n c B m d) 34) := ⟨_, rfl⟩
  have HB_W := Lib.hid (show Below w.heap.size w W by rw [hW]; exact (alloc_below _ _).trans ((alloc_below _ _).mono (alloc_below _ _).size))
  have RT_W := Lib.hid (show W.heap[w.heap.size]? = some (.cells (l1 ++ l2).toArray 25 (0, 0)) by rw [hW, Below.block (alloc_below _ _) _ (by rw [z0]; omega)]; exact heap_alloc_new w _)
  have RP_W := Lib.hid (show W.heap[w.heap.size + 1]? = some (.cells (segV s A n c B m d) 34 (0, 0)) by rw [hW, ← z0]; exact heap_alloc_new _ _)
  have IC := Lib.hid (segC hs.op.lm A n c B m d).info
  have FA := Lib.hid (fun w' => far_any s A n c B m d w' hs.op.lm)
  have PA := Lib.hid (fun (w' : World) (h : Below w.heap.size w w') => (hA.below h).more h.size)
  have XA := Lib.hid (fun (w' : World) (h : Below w.heap.size w w') => (hx.below h).more h.size)
  have IX := Lib.hid (fun (A : Option Addr) (n c : Nat) (B : Option Addr) (m d : Nat) => (segC hs.op.lm A n c B m d).info)
  have SX := Lib.hid (fun (A' : Option Addr) (n' c' : Nat) (B' : Option Addr) (m' d' : Nat) => (show ZS.size = (segV s A' n' c' B' m' d').size by rw [hZS]; exact seg_size (s := zSg) (s' := s) zOpt_ok.lm hs.op.lm none A' 0 0 n' c' none B' 0 0 m' d'))
  have OX := Lib.hid (fun (A : Option Addr) (n c : Nat) (B : Option Addr) (m d : Nat) => seg_one s A n c B m d)
  simp only [← hZS] at hzv
  obtain ⟨fb, hfb⟩ : ∃ f, farB m n = f := ⟨_, rfl⟩
  rw [hfb] at FA
  cases fb
  rotate_left
  · obtain ⟨CP, hCP⟩ : ∃ C, C = segV s A n c B m d := ⟨_, rfl⟩
    rw [← hCP] at RP_W IC FA hW ⊢
    rw [← hCT] at RT_W hW z0 ⊢
    clear hCP hCT PA XA IX SX OX hfb hZS
    go_enter Tryd.func6, Tryd.ntmps6
    go_upto_region 1 with fail
    rw [← hW]
    try rw [z0]
    clear hW z0
    go_wp2_with (first
      | (refine wpList_load_rowG (by kernel_rfl) 34 (.tmp 3) rfl (w.heap.size + 1) (by kernel_rfl) _ _ _ _ RP_W.out Tryd.underlying34 rfl IC.out ?_)
      | (go_at_call 9; (refine (FA.out _).mono ?_); rintro e w2 ⟨rfl, BB⟩
         have HB_w2 := Lib.hid (HB_W.out.trans (BB.mono HB_W.out.size))
         clear BB)
      | (go_at_call 10; (refine (AL.out _ HB_w2.out).mono ?_); rintro e w3 ⟨rfl, BB⟩
         have HB_w3 := Lib.hid (HB_w2.out.trans (BB.mono HB_w2.out.size))
         clear BB))
    go_ret
    exact ⟨rfl, HB_w3.out⟩
  have hf := farB_not hfb
  obtain ⟨my, hmy⟩ : ∃ my, mayS s m = my := ⟨_, rfl⟩
  have hm15 : my = true → m ≤ 1500 := fun h => by
    have h3 : m ≤ 16384 := by
      rw [h] at hmy
      unfold mayS at hmy
      simp only [Bool.and_eq_true, decide_eq_true_eq] at hmy
      exact hmy.2.2
    omega
  have LC := Lib.hid (fun (w' : World) (h : Below w.heap.size w w') => clay_any l1.toArray l2.toArray s1 s2 b1 b2 s A n c B m d xs w' h1 h2 (hk.bel h) hs hn (PA.out w' h) (by omega) (XA.out w' h) hy (fun h => by have := hm15 (hmy.symm.trans h); omega))
  have MA := Lib.hid (fun (w' : World) (h : Below w.heap.size w w') => cmay_any s A n c B m d w' (hk.bel h) hs.op.lm hn (by omega))
  have SM := Lib.hid (fun (A' : Option Addr) (n' c' : Nat) (B' : Option Addr) (m' d' : Nat) (w' : World) (h : Below w.heap.size w w') (P : Prs w' w'.heap.size A' n' s.op.sk) (X : Nums .u8 w' w'.heap.size B' m' xs) => (show Calls Tryd.prog 17 #[.agg (segV s A n c B m d), .agg (segV s A' n' c' B' m' d')] w' (Ret w' (.bool true)) by
    have h9 := csame_any s s A A' n c n' c' B B' m d m' d' xs xs w' hs.op.lm hs.op.lm (PA.out w' h) P (by omega) (by have := P.len; omega) (XA.out w' h) X hy hy
    rw [sameS_self] at h9
    exact h9))
  rw [hmy] at MA
  cases my
  · have eL : laysL s1 s2 b1 b2 s xs = [] := by unfold laysL; rw [hml, if_neg (by rw [hmy]; decide)]
    have eE : laysE s m = 1 := by unfold laysE; rw [if_neg (by rw [hmy]; decide)]
    rw [eL, eE] at LC
    obtain ⟨CP, hCP⟩ : ∃ C, C = segV s A n c B m d := ⟨_, rfl⟩
    simp only [← hCP] at RP_W IC FA hW LC MA ⊢
    rw [← hCT] at hW z0 ⊢
    clear hCT SM hCP PA XA IX SX OX hfb hZS eL eE hf hm15 hmy
    go_enter Tryd.func6, Tryd.ntmps6
    go_upto_region 1 with fail
    rw [← hW]
    try rw [z0]
    clear hW z0
    go_upto_region 4 with (first
      | (refine wpList_load_rowG (by kernel_rfl) 34 (.tmp 3) rfl (w.heap.size + 1) (by kernel_rfl) _ _ _ _ RP_W.out Tryd.underlying34 rfl IC.out ?_)
      | (go_at_call 9; (refine (FA.out _).mono ?_); rintro e w2 ⟨rfl, BB⟩
         have HB_w2 := Lib.hid (HB_W.out.trans (BB.mono HB_W.out.size))
         have RT_w2 := Lib.hid ((BB.block _ (opC.lt_of_row RT_W.out)).trans RT_W.out)
         have RP_w2 := Lib.hid ((BB.block _ (opC.lt_of_row RP_W.out)).trans RP_W.out)
         clear BB)
      | (refine pkC.wpList_load_partG (by kernel_rfl) 24 (.tmp 13) rfl (w.heap.size) 0 (by kernel_rfl) l1 _ (two_row E1.out RT_w2.out).1 Tryd.underlying24 rfl U1.out ?_)
      | (refine pkC.wpList_load_partG (by kernel_rfl) 24 (.tmp 15) rfl (w.heap.size) 17 (by kernel_rfl) l2 _ (two_row E1.out RT_w2.out).2 Tryd.underlying24 rfl U2.out ?_)
      | (refine wpList_load_rowG (by kernel_rfl) 34 (.tmp 3) rfl (w.heap.size + 1) (by kernel_rfl) _ _ _ _ RP_w2.out Tryd.underlying34 rfl IC.out ?_)
      | (go_at_call 11; (refine (LC.out w2 HB_w2.out).mono ?_); rintro e w4 ⟨A4, n4, c4, rfl, O4, BB⟩
         have HB_w4 := Lib.hid (HB_w2.out.trans (BB.mono HB_w2.out.size))
         have RP_w4 := Lib.hid ((BB.block _ (opC.lt_of_row RP_w2.out)).trans RP_w2.out)
         obtain rfl : n4 = 0 := O4.len.symm
         clear O4
         clear BB))
    go_wp2_with (first
      | (refine wpList_load_rowG (by kernel_rfl) 34 (.tmp 3) rfl (w.heap.size + 1) (by kernel_rfl) _ _ _ _ RP_w4.out Tryd.underlying34 rfl IC.out ?_)
      | (go_at_call 13; (refine (MA.out _ HB_w4.out).mono ?_); rintro e w5 ⟨rfl, BB⟩
         have HB_w5 := Lib.hid (HB_w4.out.trans (BB.mono HB_w4.out.size))
         clear BB)
      | (go_at_call 10; (refine (AL.out _ HB_w5.out).mono ?_); rintro e w6 ⟨rfl, BB⟩
         have HB_w6 := Lib.hid (HB_w5.out.trans (BB.mono HB_w5.out.size))
         clear BB))
    go_ret
    exact ⟨rfl, HB_w6.out⟩
  have hmy' : mayS s xs.length = true := by rw [hml]; exact hmy
  have hm15' := hm15 rfl
  obtain ⟨q1, q2, q3, q4, q5⟩ := laid h1 h2 hs hmy' hy (by omega)
  rw [hml] at q2 q4
  rw [q2] at LC
  obtain ⟨L, hL⟩ : ∃ L, L = laysL s1 s2 b1 b2 s xs := ⟨_, rfl⟩
  rw [← hL] at q3 q4 q5
  simp only [← hL] at LC
  have PC := Lib.hid (fun (w' : World) (h : Below w.heap.size w w') (A' : Option Addr) (n' c' : Nat) (hb : Nums .u8 w' w'.heap.size A' n' L) => (show Calls Tryd.prog 21 #[.agg l1.toArray, .agg l2.toArray, .slice A' n' c'] w' (PsS w' (0, s, xs)) by
    have hl := hb.len
    have h9 := cparse_any l1.toArray l2.toArray s1 s2 b1 b2 A' n' c' L w' h1 h2 (hk.bel h) hb q5 (by omega)
    rw [q3] at h9
    exact h9))
  obtain ⟨CP, hCP⟩ : ∃ C, C = segV s A n c B m d := ⟨_, rfl⟩
  simp only [← hCP] at RP_W IC FA hW LC SM ⊢
  rw [← hCT] at hW z0 ⊢
  clear hCT MA hCP PA XA hfb hZS hf hm15 hm15' hmy hmy' q1 q2 q3 q4 q5 hL
  go_enter Tryd.func6, Tryd.ntmps6
  go_upto_region 1 with fail
  rw [← hW]
  try rw [z0]
  clear hW z0
  go_upto_region 4 with (first
    | (refine wpList_load_rowG (by kernel_rfl) 34 (.tmp 3) rfl (w.heap.size + 1) (by kernel_rfl) _ _ _ _ RP_W.out Tryd.underlying34 rfl IC.out ?_)
    | (go_at_call 9; (refine (FA.out _).mono ?_); rintro e w2 ⟨rfl, BB⟩
       have HB_w2 := Lib.hid (HB_W.out.trans (BB.mono HB_W.out.size))
       have RT_w2 := Lib.hid ((BB.block _ (opC.lt_of_row RT_W.out)).trans RT_W.out)
       have RP_w2 := Lib.hid ((BB.block _ (opC.lt_of_row RP_W.out)).trans RP_W.out)
       clear BB)
    | (refine pkC.wpList_load_partG (by kernel_rfl) 24 (.tmp 13) rfl (w.heap.size) 0 (by kernel_rfl) l1 _ (two_row E1.out RT_w2.out).1 Tryd.underlying24 rfl U1.out ?_)
    | (refine pkC.wpList_load_partG (by kernel_rfl) 24 (.tmp 15) rfl (w.heap.size) 17 (by kernel_rfl) l2 _ (two_row E1.out RT_w2.out).2 Tryd.underlying24 rfl U2.out ?_)
    | (refine wpList_load_rowG (by kernel_rfl) 34 (.tmp 3) rfl (w.heap.size + 1) (by kernel_rfl) _ _ _ _ RP_w2.out Tryd.underlying34 rfl IC.out ?_)
    | (go_at_call 11; (refine (LC.out w2 HB_w2.out).mono ?_); rintro e w4 ⟨A4, n4, c4, rfl, O4, BB⟩
       have HB_w4 := Lib.hid (HB_w2.out.trans (BB.mono HB_w2.out.size))
       have RT_w4 := Lib.hid ((BB.block _ (opC.lt_of_row RT_w2.out)).trans RT_w2.out)
       have RP_w4 := Lib.hid ((BB.block _ (opC.lt_of_row RP_w2.out)).trans RP_w2.out)
       have HO4 := Lib.hid O4
       clear O4
       clear BB))
  go_upto_region 7 with (first
    | (refine pkC.wpList_load_partG (by kernel_rfl) 24 (.tmp 35) rfl (w.heap.size) 0 (by kernel_rfl) l1 _ (two_row E1.out RT_w4.out).1 Tryd.underlying24 rfl U1.out ?_)
    | (refine pkC.wpList_load_partG (by kernel_rfl) 24 (.tmp 37) rfl (w.heap.size) 17 (by kernel_rfl) l2 _ (two_row E1.out RT_w4.out).2 Tryd.underlying24 rfl U2.out ?_)
    | (go_at_call 21; (refine (PC.out w4 HB_w4.out A4 n4 c4 HO4.out.nums).mono ?_); rintro e w5 ⟨A5, n5, c5, B5, m5, d5, rfl, hn5, OP5, OX5, BB⟩
       have HB_w5 := Lib.hid (HB_w4.out.trans (BB.mono HB_w4.out.size))
       have RP_w5 := Lib.hid ((BB.block _ (opC.lt_of_row RP_w4.out)).trans RP_w4.out)
       have P5 := Lib.hid OP5.prs
       have X5 := Lib.hid OX5.nums
       clear OP5 OX5 hn5
       clear BB)
    | (refine wpList_store_row rfl 34 (.tmp 7) (.tmp 41) rfl w5.heap.size _ rfl rfl _ _ (heap_alloc_new _ _) (IX.out A5 n5 c5 B5 m5 d5) (SX.out A5 n5 c5 B5 m5 d5) (OX.out A5 n5 c5 B5 m5 d5) ?_; rw [World.setRow_alloc_new]))
  have IY := Lib.hid (IX.out A5 n5 c5 B5 m5 d5)
  have SC := Lib.hid (SM.out A5 n5 c5 B5 m5 d5)
  clear SM IX SX OX
  obtain ⟨CX, hCX⟩ : ∃ C, C = segV s A5 n5 c5 B5 m5 d5 := ⟨_, rfl⟩
  simp only [← hCX] at IY SC ⊢
  clear hCX
  have RX_w6 := Lib.hid (heap_alloc_new w5 (.cells CX 34))
  have BB := alloc_below w5 (.cells CX 34)
  have P6 := Lib.hid ((P5.out.below BB).more BB.size)
  have X6 := Lib.hid ((X5.out.below BB).more BB.size)
  have HB_w6 := Lib.hid (HB_w5.out.trans (BB.mono HB_w5.out.size))
  have RP_w6 := Lib.hid ((BB.block _ (opC.lt_of_row RP_w5.out)).trans RP_w5.out)
  clear BB
  clear P5 X5 hzv
  generalize w5.alloc (.cells CX 34) = w6 at *
  generalize w5.heap.size = gx at *
  go_wp2_with (first
    | (refine wpList_load_rowG (by kernel_rfl) 34 (.tmp 3) rfl (w.heap.size + 1) (by kernel_rfl) _ _ _ _ RP_w6.out Tryd.underlying34 rfl IC.out ?_)
    | (refine wpList_load_rowG (by kernel_rfl) 34 (.tmp 7) rfl (gx) (by kernel_rfl) _ _ _ _ RX_w6.out Tryd.underlying34 rfl IY.out ?_)
    | (go_at_call 17; (refine (SC.out w6 HB_w6.out P6.out X6.out).mono ?_); rintro e w7 ⟨rfl, BB⟩
       have HB_w7 := Lib.hid (HB_w6.out.trans (BB.mono HB_w6.out.size))
       clear BB)
    | (go_at_call 10; (refine (AL.out _ HB_w7.out).mono ?_); rintro e w8 ⟨rfl, BB⟩
       have HB_w8 := Lib.hid (HB_w7.out.trans (BB.mono HB_w7.out.size))
       clear BB))
  go_ret
  exact ⟨rfl, HB_w8.out⟩
set_option maxRecDepth 100000 in
set_option maxHeartbeats 8000000 in
theorem again_walk (l1 l2 : List Value) (s1 s2 : Bool) (b1 b2 : List Int) (A0 : Option Addr) (n0 c0 : Nat) (bs : List Int) (w : World) (hk : Kd w) (e1 : l1.length = 17) (e2 : l2.length = 17) (h1 : chkC.AddrC l1.toArray s1 b1) (h2 : chkC.AddrC l2.toArray s2 b2)
    (hb : Nums .u8 w w.heap.size A0 n0 bs) (hy : ∀ x ∈ bs, Byte x) : Calls Tryd.prog 7 #[.agg (l1 ++ l2).toArray, .slice A0 n0 c0] w (Ret w (.bool true)) := by
  have hzv := zeroSeg
  have E1 := Lib.hid e1
  have U1 := Lib.hid (show (Tryd.prog.info? 24).map (·.size) = some l1.length by rw [e1]; exact addr_info)
  have U2 := Lib.hid (show (Tryd.prog.info? 24).map (·.size) = some l2.length by rw [e2]; exact addr_info)
  have AL := Lib.hid (fun (w' : World) (h : Below w.heap.size w w') => alive_any w' (hk.bel h))
  obtain ⟨CT, hCT⟩ : ∃ C, C = (l1 ++ l2).toArray := ⟨_, rfl⟩
  have HCT := Lib.hid hCT
  obtain ⟨ZS, hZS⟩ : ∃ C, C = segV zSg none 0 0 none 0 0 := ⟨_, rfl⟩
  have hbl := hb.len
  simp only [← hZS] at hzv
  obtain ⟨W, hW⟩ : ∃ W, W = w.alloc (.cells (l1 ++ l2).toArray 25) := ⟨_, rfl⟩
  have HB_W := Lib.hid (show Below w.heap.size w W by rw [hW]; exact alloc_below _ _)
  have RT_W := Lib.hid (show W.heap[w.heap.size]? = some (.cells (l1 ++ l2).toArray 25 (0, 0)) by rw [hW]; exact heap_alloc_new w _)
  by_cases hbig : 2000 < n0
  · have q0 : (2000 : Int) < (n0 : Int) := by omega
    rw [← hCT] at hW ⊢
    clear hCT hZS
    go_enter Tryd.func7, Tryd.ntmps7
    go_upto_region 1 with fail
    rw [← hW]
    clear hW
    go_wp2_with (first
      | (go_at_call 10; (refine (AL.out _ HB_W.out).mono ?_); rintro e w2 ⟨rfl, BB⟩
         have HB_w2 := Lib.hid (HB_W.out.trans (BB.mono HB_W.out.size))
         clear BB))
    go_ret
    exact ⟨rfl, HB_w2.out⟩
  have q0 : ¬ (2000 : Int) < (n0 : Int) := by omega
  have PC := Lib.hid (fun (w' : World) (h : Below w.heap.size w w') => cparse_any l1.toArray l2.toArray s1 s2 b1 b2 A0 n0 c0 bs w' h1 h2 (hk.bel h) ((hb.below h).more h.size) hy (by omega))
  obtain ⟨P, hP⟩ : ∃ P, P = sgP (goodG s1 s2 b1 b2 bs) bs := ⟨_, rfl⟩
  have ML := Lib.hid (show P.2.1.op.mac.length = 12 by rw [hP]; exact sgP_mac _ hy)
  have BAD := sgP_bad (gd := goodG s1 s2 b1 b2 bs) (bs := bs)
  have GOOD := sgP_good (gd := goodG s1 s2 b1 b2 bs) hy
  simp only [← hP] at PC BAD GOOD
  obtain ⟨er, s, xs⟩ := P
  have IX := Lib.hid (fun (A : Option Addr) (n c : Nat) (B : Option Addr) (m d : Nat) => (segC ML.out A n c B m d).info)
  have SX := Lib.hid (fun (A' : Option Addr) (n' c' : Nat) (B' : Option Addr) (m' d' : Nat) => (show ZS.size = (segV s A' n' c' B' m' d').size by rw [hZS]; exact seg_size (s := zSg) (s' := s) zOpt_ok.lm ML.out none A' 0 0 n' c' none B' 0 0 m' d'))
  have OX := Lib.hid (fun (A : Option Addr) (n c : Nat) (B : Option Addr) (m d : Nat) => seg_one s A n c B m d)
  simp only at BAD GOOD ML IX SX OX
  unfold PsS at PC
  simp only at PC
  by_cases hE : er = 0
  rotate_left
  · have e9 := BAD hE
    obtain ⟨rfl, rfl⟩ := Prod.mk.inj e9
    have q1 : (er != (0 : Int)) = true := by simp [hE]
    have EB := Lib.hid (show Tryd.prog.built 34 [] = some ZS by rw [hZS]; exact zSg_built)
    have SM := Lib.hid (fun (A' : Option Addr) (n' c' : Nat) (B' : Option Addr) (m' d' : Nat) (w' : World) (P : Prs w' w'.heap.size A' n' zSg.op.sk) (X : Nums .u8 w' w'.heap.size B' m' []) => (show Calls Tryd.prog 17 #[.agg (segV zSg A' n' c' B' m' d'), .agg ZS] w' (Ret w' (.bool true)) by
      have h9 := csame_any zSg zSg A' none n' c' 0 0 B' none m' d' 0 0 [] [] w' zOpt_ok.lm zOpt_ok.lm P Prs.none_ (by have := P.len; simp [zSg, zOpt] at this; omega) (by decide) X (Nums.none_ 0) (by simp) (by simp)
      rw [sameS_self] at h9
      rw [hZS]
      exact h9))
    rw [← hCT] at hW ⊢
    clear hCT hP e9 BAD GOOD hZS ML hbig
    go_enter Tryd.func7, Tryd.ntmps7
    go_upto_region 1 with fail
    rw [← hW]
    clear hW
    go_upto_region 4 with (first
      | (refine pkC.wpList_load_partG (by kernel_rfl) 24 (.tmp 16) rfl (w.heap.size) 0 (by kernel_rfl) l1 _ (two_row E1.out RT_W.out).1 Tryd.underlying24 rfl U1.out ?_)
      | (refine pkC.wpList_load_partG (by kernel_rfl) 24 (.tmp 18) rfl (w.heap.size) 17 (by kernel_rfl) l2 _ (two_row E1.out RT_W.out).2 Tryd.underlying24 rfl U2.out ?_)
      | (go_at_call 21; (refine (PC.out W HB_W.out).mono ?_); rintro e w2 ⟨A2, n2, c2, B2, m2, d2, rfl, hn2, OP2, OX2, BB⟩
         have HB_w2 := Lib.hid (HB_W.out.trans (BB.mono HB_W.out.size))
         have P2 := Lib.hid OP2.prs
         have X2 := Lib.hid OX2.nums
         clear OP2 OX2 hn2
         clear BB)
      | (refine wpList_store_row rfl 34 (.tmp 5) (.tmp 22) rfl w2.heap.size _ rfl rfl _ _ (heap_alloc_new _ _) (IX.out A2 n2 c2 B2 m2 d2) (SX.out A2 n2 c2 B2 m2 d2) (OX.out A2 n2 c2 B2 m2 d2) ?_; rw [World.setRow_alloc_new]))
    have IY := Lib.hid (IX.out A2 n2 c2 B2 m2 d2)
    have RX_w3 := Lib.hid (heap_alloc_new w2 (.cells (segV zSg A2 n2 c2 B2 m2 d2) 34))
    have BB := alloc_below w2 (.cells (segV zSg A2 n2 c2 B2 m2 d2) 34)
    have P3 := Lib.hid ((P2.out.below BB).more BB.size)
    have X3 := Lib.hid ((X2.out.below BB).more BB.size)
    have HB_w3 := Lib.hid (HB_w2.out.trans (BB.mono HB_w2.out.size))
    clear BB
    generalize w2.alloc (.cells (segV zSg A2 n2 c2 B2 m2 d2) 34) = w3 at *
    generalize w2.heap.size = gx at *
    have SC := Lib.hid (SM.out A2 n2 c2 B2 m2 d2 w3 P3.out X3.out)
    clear SM IX SX OX P2 X2 P3 X3 hzv
    generalize segV zSg A2 n2 c2 B2 m2 d2 = CX at *
    go_wp2_with (first
      | (refine wpList_load_rowG (by kernel_rfl) 34 (.tmp 5) rfl (gx) (by kernel_rfl) _ _ _ _ RX_w3.out Tryd.underlying34 rfl IY.out ?_)
      | (with_reducible refine at_build 34 ?_; refine wpList_runG (by kernel_rfl) _ (built_run (T := 34) rfl EB.out) ?_)
      | (go_at_call 17; (refine (SC.out).mono ?_); rintro e w4 ⟨rfl, BB⟩
         have HB_w4 := Lib.hid (HB_w3.out.trans (BB.mono HB_w3.out.size))
         clear BB)
      | (go_at_call 10; (refine (AL.out _ HB_w4.out).mono ?_); rintro e w5 ⟨rfl, BB⟩
         have HB_w5 := Lib.hid (HB_w4.out.trans (BB.mono HB_w4.out.size))
         clear BB))
    go_ret
    exact ⟨rfl, HB_w5.out⟩
  obtain ⟨gok, gmay, gby, gln⟩ := GOOD hE
  subst hE
  have hx5 : xs.length ≤ 2000 := by omega
  obtain ⟨q1, q2, q3, q4, q5⟩ := laid h1 h2 gok gmay gby (by omega)
  obtain ⟨L, hL⟩ : ∃ L, L = laysL s1 s2 b1 b2 s xs := ⟨_, rfl⟩
  rw [← hL] at q3 q4 q5
  have LC := Lib.hid (fun (A : Option Addr) (n c : Nat) (B : Option Addr) (m d : Nat) (w' : World) (h : Below w.heap.size w w') (PA : Prs w' w'.heap.size A n s.op.sk) (hn4 : n ≤ 4) (XA : Nums .u8 w' w'.heap.size B m xs) => (show Calls Tryd.prog 11 #[.agg l1.toArray, .agg l2.toArray, .agg (segV s A n c B m d)] w' (OwnE w' L 0) by
    have hm : xs.length = m := XA.len
    have h9 := clay_any l1.toArray l2.toArray s1 s2 b1 b2 s A n c B m d xs w' h1 h2 (hk.bel h) gok PA.len PA (by omega) XA gby (fun _ => by omega)
    rw [← hL, ← hm, q2] at h9
    rw [← hm]
    exact h9))
  have PD := Lib.hid (fun (w' : World) (h : Below w.heap.size w w') (A' : Option Addr) (n' c' : Nat) (hb : Nums .u8 w' w'.heap.size A' n' L) => (show Calls Tryd.prog 21 #[.agg l1.toArray, .agg l2.toArray, .slice A' n' c'] w' (PsS w' (0, s, xs)) by
    have hl := hb.len
    have h9 := cparse_any l1.toArray l2.toArray s1 s2 b1 b2 A' n' c' L w' h1 h2 (hk.bel h) hb q5 (by omega)
    rw [q3] at h9
    exact h9))
  have MA := Lib.hid (fun (A : Option Addr) (n c : Nat) (B : Option Addr) (m d : Nat) (w' : World) (h : Below w.heap.size w w') (hn : s.op.sk.length = n) (hn4 : n ≤ 4) (hm : xs.length = m) => (show Calls Tryd.prog 13 #[.agg (segV s A n c B m d)] w' (Ret w' (.bool true)) by
    have h9 := cmay_any s A n c B m d w' (hk.bel h) ML.out hn (by omega)
    rw [← hm, gmay] at h9
    rw [← hm]
    exact h9))
  have SM := Lib.hid (fun (A : Option Addr) (n c : Nat) (B : Option Addr) (m d : Nat) (A' : Option Addr) (n' c' : Nat) (B' : Option Addr) (m' d' : Nat) (w' : World) (P0 : Prs w' w'.heap.size A n s.op.sk) (X0 : Nums .u8 w' w'.heap.size B m xs) (P : Prs w' w'.heap.size A' n' s.op.sk) (X : Nums .u8 w' w'.heap.size B' m' xs) (hn4 : n ≤ 4) => (show Calls Tryd.prog 17 #[.agg (segV s A n c B m d), .agg (segV s A' n' c' B' m' d')] w' (Ret w' (.bool true)) by
    have h9 := csame_any s s A A' n c n' c' B B' m d m' d' xs xs w' ML.out ML.out P0 P (by omega) (by have := P.len; have := P0.len; omega) X0 X gby gby
    rw [sameS_self] at h9
    exact h9))
  have K4 := Lib.hid (show s.op.sk.length ≤ 4 by
    unfold mayS at gmay
    simp only [Bool.and_eq_true, decide_eq_true_eq, opC.mayB] at gmay
    exact gmay.1.2.2.1)
  unfold PsS at PD
  simp only at PD
  rw [← hCT] at hW ⊢
  clear hCT hP BAD GOOD hZS ML hbig gok gmay gby gln hx5 q1 q2 q3 q4 q5 hL
  go_enter Tryd.func7, Tryd.ntmps7
  go_upto_region 1 with fail
  rw [← hW]
  clear hW
  go_upto_region 4 with (first
    | (refine pkC.wpList_load_partG (by kernel_rfl) 24 (.tmp 16) rfl (w.heap.size) 0 (by kernel_rfl) l1 _ (two_row E1.out RT_W.out).1 Tryd.underlying24 rfl U1.out ?_)
    | (refine pkC.wpList_load_partG (by kernel_rfl) 24 (.tmp 18) rfl (w.heap.size) 17 (by kernel_rfl) l2 _ (two_row E1.out RT_W.out).2 Tryd.underlying24 rfl U2.out ?_)
    | (go_at_call 21; (refine (PC.out W HB_W.out).mono ?_); rintro e w2 ⟨A2, n2, c2, B2, m2, d2, rfl, hn2, OP2, OX2, BB⟩
       have HB_w2 := Lib.hid (HB_W.out.trans (BB.mono HB_W.out.size))
       have RT_w2 := Lib.hid ((BB.block _ (opC.lt_of_row RT_W.out)).trans RT_W.out)
       have P2 := Lib.hid OP2.prs
       have X2 := Lib.hid OX2.nums
       clear OP2 OX2 hn2
       clear BB)
    | (refine wpList_store_row rfl 34 (.tmp 5) (.tmp 22) rfl w2.heap.size _ rfl rfl _ _ (heap_alloc_new _ _) (IX.out A2 n2 c2 B2 m2 d2) (SX.out A2 n2 c2 B2 m2 d2) (OX.out A2 n2 c2 B2 m2 d2) ?_; rw [World.setRow_alloc_new]))
  have IY := Lib.hid (IX.out A2 n2 c2 B2 m2 d2)
  have RX_w3 := Lib.hid (heap_alloc_new w2 (.cells (segV s A2 n2 c2 B2 m2 d2) 34))
  have BB := alloc_below w2 (.cells (segV s A2 n2 c2 B2 m2 d2) 34)
  have P3 := Lib.hid ((P2.out.below BB).more BB.size)
  have X3 := Lib.hid ((X2.out.below BB).more BB.size)
  have HB_w3 := Lib.hid (HB_w2.out.trans (BB.mono HB_w2.out.size))
  have RT_w3 := Lib.hid ((BB.block _ (opC.lt_of_row RT_w2.out)).trans RT_w2.out)
  clear BB
  have N4 := Lib.hid (show n2 ≤ 4 by have := P3.out.len; have := K4.out; omega)
  generalize w2.alloc (.cells (segV s A2 n2 c2 B2 m2 d2) 34) = w3 at *
  generalize w2.heap.size = gx at *
  have LD := Lib.hid (LC.out A2 n2 c2 B2 m2 d2 w3 HB_w3.out P3.out N4.out X3.out)
  have MD := Lib.hid (fun (w' : World) (h : Below w.heap.size w w') => MA.out A2 n2 c2 B2 m2 d2 w' h P3.out.len N4.out X3.out.len)
  have SC := Lib.hid (fun (A' : Option Addr) (n' c' : Nat) (B' : Option Addr) (m' d' : Nat) (w' : World) (h : Below w3.heap.size w3 w') (P : Prs w' w'.heap.size A' n' s.op.sk) (X : Nums .u8 w' w'.heap.size B' m' xs) => SM.out A2 n2 c2 B2 m2 d2 A' n' c' B' m' d' w' ((P3.out.below h).more h.size) ((X3.out.below h).more h.size) P X N4.out)
  clear SM LC MA P2 X2 P3 X3 PC
  obtain ⟨CX, hCX⟩ : ∃ C, C = segV s A2 n2 c2 B2 m2 d2 := ⟨_, rfl⟩
  simp only [← hCX] at IY SC LD MD RX_w3 ⊢
  clear hCX
  have H3_w3 := Lib.hid (Below.refl w3.heap.size w3)
  go_upto_region 7 with (first
    | (refine pkC.wpList_load_partG (by kernel_rfl) 24 (.tmp 33) rfl (w.heap.size) 0 (by kernel_rfl) l1 _ (two_row E1.out RT_w3.out).1 Tryd.underlying24 rfl U1.out ?_)
    | (refine pkC.wpList_load_partG (by kernel_rfl) 24 (.tmp 35) rfl (w.heap.size) 17 (by kernel_rfl) l2 _ (two_row E1.out RT_w3.out).2 Tryd.underlying24 rfl U2.out ?_)
    | (refine wpList_load_rowG (by kernel_rfl) 34 (.tmp 5) rfl (gx) (by kernel_rfl) _ _ _ _ RX_w3.out Tryd.underlying34 rfl IY.out ?_)
    | (go_at_call 11; (refine (LD.out).mono ?_); rintro e w4 ⟨A4, n4, c4, rfl, O4, BB⟩
       have HB_w4 := Lib.hid (HB_w3.out.trans (BB.mono HB_w3.out.size))
       have RT_w4 := Lib.hid ((BB.block _ (opC.lt_of_row RT_w3.out)).trans RT_w3.out)
       have RX_w4 := Lib.hid ((BB.block _ (opC.lt_of_row RX_w3.out)).trans RX_w3.out)
       have HO4 := Lib.hid O4
       have H3_w4 := Lib.hid BB
       clear O4
       clear BB))
  go_upto_region 8 with (first
    | (refine pkC.wpList_load_partG (by kernel_rfl) 24 (.tmp 42) rfl (w.heap.size) 0 (by kernel_rfl) l1 _ (two_row E1.out RT_w4.out).1 Tryd.underlying24 rfl U1.out ?_)
    | (refine pkC.wpList_load_partG (by kernel_rfl) 24 (.tmp 44) rfl (w.heap.size) 17 (by kernel_rfl) l2 _ (two_row E1.out RT_w4.out).2 Tryd.underlying24 rfl U2.out ?_)
    | (go_at_call 21; (refine (PD.out w4 HB_w4.out A4 n4 c4 HO4.out.nums).mono ?_); rintro e w5 ⟨A5, n5, c5, B5, m5, d5, rfl, hn5, OP5, OX5, BB⟩
       have HB_w5 := Lib.hid (HB_w4.out.trans (BB.mono HB_w4.out.size))
       have RX_w5 := Lib.hid ((BB.block _ (opC.lt_of_row RX_w4.out)).trans RX_w4.out)
       have P5 := Lib.hid OP5.prs
       have X5 := Lib.hid OX5.nums
       have H3_w5 := Lib.hid (H3_w4.out.trans (BB.mono H3_w4.out.size))
       clear OP5 OX5 hn5
       clear BB)
    | (refine wpList_store_row rfl 34 (.tmp 9) (.tmp 48) rfl w5.heap.size _ rfl rfl _ _ (heap_alloc_new _ _) (IX.out A5 n5 c5 B5 m5 d5) (SX.out A5 n5 c5 B5 m5 d5) (OX.out A5 n5 c5 B5 m5 d5) ?_; rw [World.setRow_alloc_new]))
  have IZ := Lib.hid (IX.out A5 n5 c5 B5 m5 d5)
  have SD := Lib.hid (SC.out A5 n5 c5 B5 m5 d5)
  clear SC IX SX OX
  obtain ⟨CY, hCY⟩ : ∃ C, C = segV s A5 n5 c5 B5 m5 d5 := ⟨_, rfl⟩
  simp only [← hCY] at IZ SD ⊢
  clear hCY
  have RY_w6 := Lib.hid (heap_alloc_new w5 (.cells CY 34))
  have BB := alloc_below w5 (.cells CY 34)
  have P6 := Lib.hid ((P5.out.below BB).more BB.size)
  have X6 := Lib.hid ((X5.out.below BB).more BB.size)
  have H3_w6 := Lib.hid (H3_w5.out.trans (BB.mono H3_w5.out.size))
  have HB_w6 := Lib.hid (HB_w5.out.trans (BB.mono HB_w5.out.size))
  have RX_w6 := Lib.hid ((BB.block _ (opC.lt_of_row RX_w5.out)).trans RX_w5.out)
  clear BB
  clear P5 X5 hzv
  generalize w5.alloc (.cells CY 34) = w6 at *
  generalize w5.heap.size = gy at *
  go_wp2_with (first
    | (refine wpList_load_rowG (by kernel_rfl) 34 (.tmp 5) rfl (gx) (by kernel_rfl) _ _ _ _ RX_w6.out Tryd.underlying34 rfl IY.out ?_)
    | (go_at_call 13; (refine (MD.out w6 HB_w6.out).mono ?_); rintro e w7 ⟨rfl, BB⟩
       have HB_w7 := Lib.hid (HB_w6.out.trans (BB.mono HB_w6.out.size))
       have RX_w7 := Lib.hid ((BB.block _ (opC.lt_of_row RX_w6.out)).trans RX_w6.out)
       have RY_w7 := Lib.hid ((BB.block _ (opC.lt_of_row RY_w6.out)).trans RY_w6.out)
       have P7 := Lib.hid ((P6.out.below BB).more BB.size)
       have X7 := Lib.hid ((X6.out.below BB).more BB.size)
       have H3_w7 := Lib.hid (H3_w6.out.trans (BB.mono H3_w6.out.size))
       clear BB)
    | (refine wpList_load_rowG (by kernel_rfl) 34 (.tmp 5) rfl (gx) (by kernel_rfl) _ _ _ _ RX_w7.out Tryd.underlying34 rfl IY.out ?_)
    | (refine wpList_load_rowG (by kernel_rfl) 34 (.tmp 9) rfl (gy) (by kernel_rfl) _ _ _ _ RY_w7.out Tryd.underlying34 rfl IZ.out ?_)
    | (go_at_call 17; (refine (SD.out w7 H3_w7.out P7.out X7.out).mono ?_); rintro e w8 ⟨rfl, BB⟩
       have HB_w8 := Lib.hid (HB_w7.out.trans (BB.mono HB_w7.out.size))
       clear BB)
    | (go_at_call 10; (refine (AL.out _ HB_w8.out).mono ?_); rintro e w9 ⟨rfl, BB⟩
       have HB_w9 := Lib.hid (HB_w8.out.trans (BB.mono HB_w8.out.size))
       clear BB))
  go_ret
  exact ⟨rfl, HB_w9.out⟩
end Go.Proofs.YtniimgbljhmcoaaDoor.sgC

/-
  How two addresses that came in are opened; the third statement's walk, whole.
-/
namespace Go.Proofs.YtniimgbljhmcoaaDoor.chkC
open Go.ChangeShapes Go.WideShapes Go.ChangeAt Go.RowKit
open Go.Proofs.YtniimgbljhmcoaaDoor.memC Go.Proofs.YtniimgbljhmcoaaDoor.chkM
set_option linter.unusedVariables false
section
variable {P : Program} {w : World} {r : Reach} {b0 : Nat} {t : TypeId}
theorem cell_u8 {ti : TypeId} {v : Value} (hi : P.underlying ti = some (.int .u8)) (h : Cell.okWide P w r b0 ti v) : ∃ z, v = .int .u8 z ∧ Byte z := by
  unfold Cell.okWide at h
  rw [hi] at h
  unfold Cell.ok at h
  rw [hi] at h
  cases v <;> simp at h
  obtain ⟨rfl, h1, h2⟩ := h
  exact ⟨_, rfl, by simpa [IntKind.min, IntKind.max, IntKind.signed, IntKind.bits] using h1, by simpa [IntKind.min, IntKind.max, IntKind.signed, IntKind.bits] using h2⟩
theorem cell_bool {tb : TypeId} {v : Value} (hb : P.underlying tb = some .bool) (h : Cell.okWide P w r b0 tb v) : ∃ s, v = .bool s := by
  unfold Cell.okWide at h
  rw [hb] at h
  unfold Cell.ok at h
  rw [hb] at h
  cases v <;> simp at h
  exact ⟨_, rfl⟩
/-- the number in a cell -/
def numOf : Option Value → Int
  | some (Value.int _ z) => z
  | _ => 0
/-- seventeen cells of which the first is a Bool, the others bytes -/
theorem addr_of {l : List Value} (hl : l.length = 17) (h0 : ∃ s, l[0]? = some (.bool s)) (h1 : ∀ i, i < 16 → ∃ z, l[1 + i]? = some (.int .u8 z) ∧ Byte z) : ∃ s bs, AddrC l.toArray s bs := by
  obtain ⟨s, hs⟩ := h0
  refine ⟨s, (List.range 16).map fun i => numOf l[1 + i]?, ⟨by simpa using hl, by simpa using hs, by simp, fun i hi => ?_, fun x hx => ?_⟩⟩
  · obtain ⟨z, hz, _⟩ := h1 i hi
    rw [List.getD_eq_getElem?_getD]
    simp [hi, hz, numOf]
  · obtain ⟨i, hi, rfl⟩ := List.mem_map.1 hx
    obtain ⟨z, hz, hb⟩ := h1 i (List.mem_range.1 hi)
    rw [hz]; exact hb
theorem open_two {e tb ti : TypeId} {v : Value} (ht : P.underlying t = some (.array 2 e)) (hc : P.cellsOf t = 34) (hts : P.cellTypes P.depth t = some ((tb :: List.replicate 16 ti) ++ (tb :: List.replicate 16 ti)))
    (hb : P.underlying tb = some .bool) (hi : P.underlying ti = some (.int .u8)) (hval : Value.okWide P w r b0 t v) :
    ∃ (l1 l2 : List Value) (s1 s2 : Bool) (b1 b2 : List Int), v = .agg (l1 ++ l2).toArray ∧ l1.length = 17 ∧ l2.length = 17 ∧ AddrC l1.toArray s1 b1 ∧ AddrC l2.toArray s2 b2 := by
  obtain ⟨cs, rfl, hsz, ts, hts', _, hcell⟩ : ∃ cs, v = .agg cs ∧ cs.size = P.cellsOf t ∧ Row.okWide P w r b0 t cs := by
    simpa [Value.okWide, ht] using hval
  obtain ⟨l⟩ := cs
  rw [hc] at hsz
  have hl : l.length = 34 := by simpa using hsz
  rw [hts] at hts'
  obtain rfl := Option.some.inj hts'
  have key : ∀ i, i < 34 → ∃ v u, l[i]? = some v ∧ ((tb :: List.replicate 16 ti) ++ (tb :: List.replicate 16 ti))[i]? = some u ∧ Cell.okWide P w r b0 u v := fun i hi34 => by
    have e : l[i]? = some (l[i]'(by omega)) := List.getElem?_eq_getElem _
    obtain ⟨u, h1, h2⟩ := hcell i (l[i]'(by omega)) (by rw [← e]; simp)
    refine ⟨_, u, e, ?_, h2⟩
    have : i % 34 = i := Nat.mod_eq_of_lt hi34
    simpa [this] using h1
  have kb : ∀ i, i = 0 ∨ i = 17 → ∃ s, l[i]? = some (.bool s) := fun i hi' => by
    obtain ⟨v, u, h1, h2, h3⟩ := key i (by omega)
    have : u = tb := by rcases hi' with rfl | rfl <;> simpa using h2.symm
    subst this
    obtain ⟨s, rfl⟩ := cell_bool hb h3
    exact ⟨s, h1⟩
  have ki : ∀ i, i < 16 → (∃ z, l[1 + i]? = some (.int .u8 z) ∧ Byte z) ∧ ∃ z, l[18 + i]? = some (.int .u8 z) ∧ Byte z := fun i hi' => by
    constructor
    · obtain ⟨v, u, h1, h2, h3⟩ := key (1 + i) (by omega)
      have : u = ti := by
        rw [List.getElem?_append_left (by simp; omega), Nat.add_comm, List.getElem?_cons_succ, List.getElem?_replicate, if_pos hi'] at h2
        exact (Option.some.inj h2).symm
      subst this
      obtain ⟨z, rfl, hz⟩ := cell_u8 hi h3
      exact ⟨z, h1, hz⟩
    · obtain ⟨v, u, h1, h2, h3⟩ := key (18 + i) (by omega)
      have : u = ti := by
        rw [List.getElem?_append_right (by simp; omega)] at h2
        have e : 18 + i - (tb :: List.replicate 16 ti).length = i + 1 := by simp; omega
        rw [e, List.getElem?_cons_succ, List.getElem?_replicate, if_pos hi'] at h2
        exact (Option.some.inj h2).symm
      subst this
      obtain ⟨z, rfl, hz⟩ := cell_u8 hi h3
      exact ⟨z, h1, hz⟩
  obtain ⟨s1, b1, A1⟩ := addr_of (l := l.take 17) (by simp; omega) (by obtain ⟨s, hs⟩ := kb 0 (.inl rfl); exact ⟨s, by simpa using hs⟩)
    (fun i hi' => by obtain ⟨z, hz, hy⟩ := (ki i hi').1; exact ⟨z, by rw [List.getElem?_take, if_pos (by omega)]; exact hz, hy⟩)
  obtain ⟨s2, b2, A2⟩ := addr_of (l := l.drop 17) (by simp; omega) (by obtain ⟨s, hs⟩ := kb 17 (.inr rfl); exact ⟨s, by simpa using hs⟩)
    (fun i hi' => by obtain ⟨z, hz, hy⟩ := (ki i hi').2; exact ⟨z, by rw [List.getElem?_drop, show 17 + (1 + i) = 18 + i by omega]; exact hz, hy⟩)
  exact ⟨l.take 17, l.drop 17, s1, s2, b1, b2, by rw [List.take_append_drop], by simp; omega, by simp; omega, A1, A2⟩
end
end Go.Proofs.YtniimgbljhmcoaaDoor.chkC
