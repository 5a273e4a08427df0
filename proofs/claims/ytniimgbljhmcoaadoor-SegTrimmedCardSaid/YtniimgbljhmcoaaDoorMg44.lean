/-
  3 texts of a proof, joined.
-/
import Derived.Test.YtniimgbljhmcoaaDoorMg31
import Derived.Test.YtniimgbljhmcoaaDoorMg34
import Derived.Test.YtniimgbljhmcoaaDoorMg35
import Derived.Test.YtniimgbljhmcoaaDoorMg39
import Derived.Test.YtniimgbljhmcoaaDoorMg32
import Derived.Test.YtniimgbljhmcoaaDoorMg33

/-
  A segment is laid, parsed, and answered.
-/
namespace Go.Proofs.YtniimgbljhmcoaaDoor.sgC
open Go.ChangeShapes Go.WideShapes Go.ChangeAt Go.RowKit
open Go.Proofs.YtniimgbljhmcoaaDoor.memC Go.Proofs.YtniimgbljhmcoaaDoor.genC Go.Proofs.YtniimgbljhmcoaaDoor.butC Go.Proofs.YtniimgbljhmcoaaDoor.freeC Go.Proofs.YtniimgbljhmcoaaDoor.adC
open Go.Proofs.YtniimgbljhmcoaaDoor.opC (Kd Prs zOpt zOpt_ok U32 at_build OwnP)
open Go.Proofs.YtniimgbljhmcoaaDoor.pkC (OwnE)
set_option linter.unusedVariables false
def zAdr : Array Value := #[.bool false, .int .u8 0, .int .u8 0, .int .u8 0, .int .u8 0, .int .u8 0, .int .u8 0, .int .u8 0, .int .u8 0, .int .u8 0, .int .u8 0, .int .u8 0, .int .u8 0, .int .u8 0, .int .u8 0, .int .u8 0, .int .u8 0]
theorem zAdr_ok : chkC.AddrC zAdr false (List.replicate 16 0) := by
  refine ⟨rfl, rfl, rfl, fun i hi => ?_, fun x hx => ?_⟩
  · match i, hi with
    | 0, _ | 1, _ | 2, _ | 3, _ | 4, _ | 5, _ | 6, _ | 7, _ => rfl
    | 8, _ | 9, _ | 10, _ | 11, _ | 12, _ | 13, _ | 14, _ | 15, _ => rfl
    | i + 16, h => exact absurd h (by omega)
  · rw [List.eq_of_mem_replicate hx]; exact ⟨by decide, by decide⟩
theorem zAdr_built : Tryd.prog.built 24 [] = some zAdr := by kernel_rfl
/-- the segment that is tried -/
def kS : Sg := ⟨1, 2, 5, 0, 2, 0, 0, zOpt⟩
def kA : Sg := ⟨2, 1, 0, 6, 20, 0, 0, zOpt⟩
theorem kS_ok : kS.Ok := ⟨by unfold U16 kS; decide, by unfold U16 kS; decide, by unfold U32 kS; decide, by unfold U32 kS; decide, by unfold Byte kS; decide, by unfold U16 kS; decide, by unfold U16 kS; decide, zOpt_ok⟩
theorem kS_may : mayS kS 0 = true := by decide
theorem kS_rst : rstP kS 0 = (kA, true) := by
  unfold rstP
  rw [if_neg (by decide), if_neg (by decide)]
  rfl
theorem kS_built : Tryd.prog.built 34 [(0, .int .u16 1), (1, .int .u16 2), (2, .int .u32 5), (4, .int .u8 2)] = some (segV kS none 0 0 none 0 0) := by kernel_rfl
set_option maxRecDepth 100000 in
set_option maxHeartbeats 8000000 in
theorem alive_any (w : World) (hk : Kd w) : Calls Tryd.prog 10 #[] w (Ret w (.bool true)) := by
  have hzv := zeroSeg
  obtain ⟨CS, hCS⟩ : ∃ C, C = segV kS none 0 0 none 0 0 := ⟨_, rfl⟩
  obtain ⟨CA, hCA⟩ : ∃ C, C = segV kA none 0 0 none 0 0 := ⟨_, rfl⟩
  obtain ⟨ZS, hZS⟩ : ∃ C, C = segV zSg none 0 0 none 0 0 := ⟨_, rfl⟩
  obtain ⟨ZA, hZA⟩ : ∃ C, C = zAdr := ⟨_, rfl⟩
  have BS := Lib.hid kS_built
  have BA := Lib.hid zAdr_built
  rw [← hCS] at BS
  rw [← hZA] at BA
  simp only [← hZS] at hzv
  have IS := Lib.hid (show (Tryd.prog.info? 34).map (·.size) = some CS.size by rw [hCS]; exact (segC zOpt_ok.lm none 0 0 none 0 0 (s := kS)).info)
  have SS := Lib.hid (show ZS.size = CS.size by rw [hCS, hZS]; exact seg_size (s := zSg) (s' := kS) zOpt_ok.lm zOpt_ok.lm none none 0 0 0 0 none none 0 0 0 0)
  have OS := Lib.hid (show CS.all (·.oneCell') = true by rw [hCS]; exact seg_one kS none 0 0 none 0 0)
  have IA := Lib.hid (show (Tryd.prog.info? 34).map (·.size) = some CA.size by rw [hCA]; exact (segC zOpt_ok.lm none 0 0 none 0 0 (s := kA)).info)
  have SA := Lib.hid (show ZS.size = CA.size by rw [hCA, hZS]; exact seg_size (s := zSg) (s' := kA) zOpt_ok.lm zOpt_ok.lm none none 0 0 0 0 none none 0 0 0 0)
  have OA := Lib.hid (show CA.all (·.oneCell') = true by rw [hCA]; exact seg_one kA none 0 0 none 0 0)
  have IX := Lib.hid (fun (A : Option Addr) (n c : Nat) (B : Option Addr) (m d : Nat) => (segC zOpt_ok.lm A n c B m d (s := kS)).info)
  have SX := Lib.hid (fun (A : Option Addr) (n c : Nat) (B : Option Addr) (m d : Nat) => (show ZS.size = (segV kS A n c B m d).size by rw [hZS]; exact seg_size (s := zSg) (s' := kS) zOpt_ok.lm zOpt_ok.lm none A 0 0 n c none B 0 0 m d))
  have OX := Lib.hid (fun (A : Option Addr) (n c : Nat) (B : Option Addr) (m d : Nat) => seg_one kS A n c B m d)
  have LD := laid zAdr_ok zAdr_ok kS_ok (xs := []) kS_may (by simp) (by simp)
  obtain ⟨LL, hLL⟩ : ∃ L, L = laysL false false (List.replicate 16 0) (List.replicate 16 0) kS [] := ⟨_, rfl⟩
  rw [← hLL] at LD
  have KK := Lib.hid (fun (w' : World) (h : Below w.heap.size w w') => hk.bel h)
  have LC := Lib.hid (fun (w' : World) (h : Kd w') => (show Calls Tryd.prog 11 #[.agg ZA, .agg ZA, .agg CS] w' (OwnE w' LL 0) by
    have h1 := clay_any zAdr zAdr false false (List.replicate 16 0) (List.replicate 16 0) kS none 0 0 none 0 0 [] w' zAdr_ok zAdr_ok h kS_ok rfl Prs.none_ (by decide) (Nums.none_ 0) (by simp) (fun _ => by decide)
    rw [← hLL, show laysE kS 0 = 0 by unfold laysE; rw [if_pos kS_may]] at h1
    rw [hZA, hCS]
    exact h1))
  have PC := Lib.hid (fun (w' : World) (h : Kd w') (A : Option Addr) (n c : Nat) (hb : Nums .u8 w' w'.heap.size A n LL) => (show Calls Tryd.prog 21 #[.agg ZA, .agg ZA, .slice A n c] w' (PsS w' (0, kS, [])) by
    have hl := hb.len
    have h1 := cparse_any zAdr zAdr false false (List.replicate 16 0) (List.replicate 16 0) A n c LL w' zAdr_ok zAdr_ok h hb LD.2.2.2.2 (by have := LD.2.2.2.1; simp at this; omega)
    rw [LD.2.2.1] at h1
    rw [hZA]
    exact h1))
  have RC := Lib.hid (fun (A : Option Addr) (n c : Nat) (B : Option Addr) (d : Nat) (w' : World) => (show Calls Tryd.prog 23 #[.agg (segV kS A n c B 0 d)] w' (fun e w'' => e = .returned (.tuple #[.agg CA, .bool true]) ∧ Below w'.heap.size w' w'') by
    have h1 := crst_any kS A n c B 0 d w' zOpt_ok.lm kS_ok.fl (by decide)
    unfold RstR at h1
    rw [kS_rst, ← hCA] at h1
    exact h1))
  have SC := Lib.hid (fun (A : Option Addr) (c : Nat) (B : Option Addr) (d : Nat) (w' : World) => (show Calls Tryd.prog 17 #[.agg CS, .agg (segV kS A 0 c B 0 d)] w' (Ret w' (.bool true)) by
    have h1 := csame_any kS kS none A 0 0 0 c none B 0 0 0 d [] [] w' zOpt_ok.lm zOpt_ok.lm Prs.none_ Prs.none_ (by decide) (by decide) (Nums.none_ 0) ⟨rfl, fun h => absurd h (Nat.lt_irrefl 0)⟩ (by simp) (by simp)
    rw [sameS_self] at h1
    rw [hCS]
    exact h1))
  have NC := Lib.hid (fun (w' : World) => (show Calls Tryd.prog 15 #[.agg CS] w' (Ret w' (.int .u32 1)) by
    have h1 := clen_any kS none 0 0 none 0 0 w' zOpt_ok.lm kS_ok.fl (by decide)
    rw [show lenN kS.fl 0 = 1 by decide] at h1
    rw [hCS]
    exact h1))
  have KF := Lib.hid (fun (w' : World) (g : Nat) (h : w'.heap[g]? = some (.cells CA 34 (0, 0))) => (show w'.cell? ⟨g, 4, none⟩ = some (.int .u8 20) from pkC.PkC.cell h (by rw [hCA]; exact (segC zOpt_ok.lm none 0 0 none 0 0 (s := kA)).fl)))
  have KQ := Lib.hid (fun (w' : World) (g : Nat) (h : w'.heap[g]? = some (.cells CA 34 (0, 0))) => (show w'.cell? ⟨g, 3, none⟩ = some (.int .u32 6) from pkC.PkC.cell h (by rw [hCA]; exact (segC zOpt_ok.lm none 0 0 none 0 0 (s := kA)).ak)))
  clear hCS hCA hZS hZA hLL LD hk
  go_enter Tryd.func10, Tryd.ntmps10
  go_upto_region 2 with (first
    | (with_reducible refine at_build 34 ?_; refine wpList_runG (by kernel_rfl) _ (built_runS (T := 34) (L := [(0, .int .u16 1), (1, .int .u16 2), (2, .int .u32 5), (4, .int .u8 2)]) rfl rfl BS.out) ?_)
    | (refine wpList_store_row rfl 34 (.tmp 1) (.tmp 8) rfl w.heap.size CS rfl rfl _ _ (heap_alloc_new _ _) IS.out SS.out OS.out ?_; rw [World.setRow_alloc_new]))
  have R1 := Lib.hid (heap_alloc_new w (.cells CS 34))
  have B1 := Lib.hid (alloc_below w (.cells CS 34))
  have z1 := Lib.hid (alloc_size w (.cells CS 34))
  generalize w.alloc (.cells CS 34) = w1 at *
  go_upto_region 3 with (first
    | (with_reducible refine at_build 24 ?_; refine wpList_runG (by kernel_rfl) _ (built_run (T := 24) rfl BA.out) ?_)
    | (refine wpList_load_row rfl 34 (.tmp 1) rfl w.heap.size rfl _ _ _ _ R1.out Tryd.underlying34 rfl IS.out ?_)
    | (go_at_call 11; (refine (LC.out w1 (KK.out _ B1.out)).mono ?_); rintro e w2 ⟨A2, n2, c2, rfl, O2, B2⟩
       have HO2 := Lib.hid O2
       have HB2 := Lib.hid (B1.out.trans (B2.mono B1.out.size))
       have R2 := Lib.hid (show w2.heap[w.heap.size]? = some (.cells CS 34 (0, 0)) from (B2.block _ (by rw [z1.out]; omega)).trans R1.out)
       clear O2 B2))
  clear R1 B1 LC BS SS OS z1
  go_upto_region 4 with (first
    | (with_reducible refine at_build 24 ?_; refine wpList_runG (by kernel_rfl) _ (built_run (T := 24) rfl BA.out) ?_)
    | (go_at_call 21; (refine (PC.out w2 (KK.out _ HB2.out) A2 n2 c2 HO2.out.nums).mono ?_); rintro e w3 ⟨A3, n3, c3, B3, m3, d3, rfl, hn3, OP3, OX3, BB⟩
       obtain rfl : n3 = 0 := hn3.symm
       obtain rfl : m3 = 0 := OX3.len.symm
       have HB3 := Lib.hid (HB2.out.trans (BB.mono HB2.out.size))
       have R3 := Lib.hid (show w3.heap[w.heap.size]? = some (.cells CS 34 (0, 0)) from (BB.block _ (opC.lt_of_row R2.out)).trans R2.out)
       clear OP3 OX3 BB hn3)
    | (refine wpList_store_row rfl 34 (.tmp 4) (.tmp 21) rfl w3.heap.size _ rfl rfl _ _ (heap_alloc_new _ _) (IX.out A3 0 c3 B3 0 d3) (SX.out A3 0 c3 B3 0 d3) (OX.out A3 0 c3 B3 0 d3) ?_; rw [World.setRow_alloc_new]))
  have IY := Lib.hid (IX.out A3 0 c3 B3 0 d3)
  have RD := Lib.hid (RC.out A3 0 c3 B3 d3)
  have SD := Lib.hid (SC.out A3 c3 B3 d3)
  clear HO2 R2 PC HB2 IX SX OX RC SC
  generalize segV kS A3 0 c3 B3 0 d3 = CX at *
  have X3 := Lib.hid (heap_alloc_new w3 (.cells CX 34))
  have B3' := Lib.hid (alloc_below w3 (.cells CX 34))
  have HB4 := Lib.hid (HB3.out.trans (B3'.out.mono HB3.out.size))
  have R4 := Lib.hid (show (w3.alloc (.cells CX 34)).heap[w.heap.size]? = some (.cells CS 34 (0, 0)) from (B3'.out.block _ (opC.lt_of_row R3.out)).trans R3.out)
  clear R3 HB3 B3'
  generalize w3.alloc (.cells CX 34) = v3 at *
  generalize w3.heap.size = gx at *
  go_upto_region 5 with (first
    | (refine wpList_load_row rfl 34 (.tmp 4) rfl gx rfl _ _ _ _ X3.out Tryd.underlying34 rfl IY.out ?_)
    | (go_at_call 23; (refine (RD.out v3).mono ?_); rintro e w5 ⟨rfl, BB⟩
       have HB5 := Lib.hid (HB4.out.trans (BB.mono HB4.out.size))
       have R5 := Lib.hid (show w5.heap[w.heap.size]? = some (.cells CS 34 (0, 0)) from (BB.block _ (opC.lt_of_row R4.out)).trans R4.out)
       have X5 := Lib.hid (show w5.heap[gx]? = some (.cells CX 34 (0, 0)) from (BB.block _ (opC.lt_of_row X3.out)).trans X3.out)
       clear BB)
    | (refine wpList_store_row rfl 34 (.tmp 6) (.tmp 26) rfl w5.heap.size CA rfl rfl _ _ (heap_alloc_new _ _) IA.out SA.out OA.out ?_; rw [World.setRow_alloc_new]))
  have A6 := Lib.hid (heap_alloc_new w5 (.cells CA 34))
  have B6 := Lib.hid (alloc_below w5 (.cells CA 34))
  have HB6 := Lib.hid (HB5.out.trans (B6.out.mono HB5.out.size))
  have R6 := Lib.hid (show (w5.alloc (.cells CA 34)).heap[w.heap.size]? = some (.cells CS 34 (0, 0)) from (B6.out.block _ (opC.lt_of_row R5.out)).trans R5.out)
  have X6 := Lib.hid (show (w5.alloc (.cells CA 34)).heap[gx]? = some (.cells CX 34 (0, 0)) from (B6.out.block _ (opC.lt_of_row X5.out)).trans X5.out)
  clear HB4 R4 X3 HB5 R5 X5 B6 SA OA RD hzv
  generalize w5.alloc (.cells CA 34) = v5 at *
  generalize w5.heap.size = ga at *
  go_wp2_with (first
    | (refine wpList_load_rowG (by kernel_rfl) 34 (.tmp 1) rfl w.heap.size (by kernel_rfl) _ _ _ _ R6.out Tryd.underlying34 rfl IS.out ?_)
    | (refine wpList_load_rowG (by kernel_rfl) 34 (.tmp 4) rfl gx (by kernel_rfl) _ _ _ _ X6.out Tryd.underlying34 rfl IY.out ?_)
    | (go_at_call 17; (refine (SD.out v5).mono ?_); rintro e w7 ⟨rfl, BB⟩
       have HB7 := Lib.hid (HB6.out.trans (BB.mono HB6.out.size))
       have R7 := Lib.hid (show w7.heap[w.heap.size]? = some (.cells CS 34 (0, 0)) from (BB.block _ (opC.lt_of_row R6.out)).trans R6.out)
       have A7 := Lib.hid (show w7.heap[ga]? = some (.cells CA 34 (0, 0)) from (BB.block _ (opC.lt_of_row A6.out)).trans A6.out)
       have kf := KF.out w7 ga A7.out
       have kq := KQ.out w7 ga A7.out
       clear BB)
    | (refine wpList_load_rowG (by kernel_rfl) 34 (.tmp 1) rfl w.heap.size (by kernel_rfl) _ _ _ _ R7.out Tryd.underlying34 rfl IS.out ?_)
    | (go_at_call 15; (refine (NC.out _).mono ?_); rintro e w8 ⟨rfl, BB⟩
       have HB8 := Lib.hid (HB7.out.trans (BB.mono HB7.out.size))
       clear BB))
  go_ret
  exact ⟨rfl, HB8.out⟩
end Go.Proofs.YtniimgbljhmcoaaDoor.sgC

/-
  What is trimmed: its numbers, its data, its flags, and what is trimmed again.
-/
namespace Go.Proofs.YtniimgbljhmcoaaDoor.sgC
open Go.ChangeShapes Go.WideShapes Go.ChangeAt Go.RowKit
open Go.Proofs.YtniimgbljhmcoaaDoor.memC Go.Proofs.YtniimgbljhmcoaaDoor.genC Go.Proofs.YtniimgbljhmcoaaDoor.butC Go.Proofs.YtniimgbljhmcoaaDoor.freeC Go.Proofs.YtniimgbljhmcoaaDoor.adC
open Go.Proofs.YtniimgbljhmcoaaDoor.opC (zOpt zOpt_ok U32 Prs OwnP)
open Go.Proofs.YtniimgbljhmcoaaDoor.ringM
set_option linter.unusedVariables false
section
variable {s : Sg} {xs : List Int} {g z : Int}
theorem trR_pos (hs : s.Ok) (hg : U32 g) (hz : U32 z) : 0 < trA s.sq g → 0 ≤ trR s.sq g z := fun h => trR_lo s.sq g z hz.1 hs.sq hg h
theorem trA_nn (q g : Int) : 0 ≤ trA q g := by unfold trA; omega
/-- what is trimmed is trimmed once -/
theorem trim_once (hs : s.Ok) (hg : U32 g) (hz : U32 z) :
    trimS (trimS s xs.length g z) (trimL s xs g z).length g z = trimS s xs.length g z ∧ trimL (trimS s xs.length g z) (trimL s xs g z) g z = trimL s xs g z := by
  obtain ⟨t1, t2, t3⟩ := trim_again s.sq g z hz.1 hs.sq hg
  obtain ⟨c1, c2⟩ := cut_again s.fl xs (a := trA s.sq g) (r := trR s.sq g z) (trA_nn _ _) (trR_pos hs hg hz)
  unfold trimS trimL
  simp only
  rw [t1, t2, t3, Int.zero_add]
  exact ⟨by rw [c1], c2⟩
/-- its numbers -/
theorem trim_len (hs : s.Ok) (hg : U32 g) (hz : U32 z) :
    0 ≤ lenN (trimS s xs.length g z).fl (trimL s xs g z).length ∧ (0 < lenN (trimS s xs.length g z).fl (trimL s xs g z).length → lenN (trimS s xs.length g z).fl (trimL s xs g z).length ≤ trR s.sq g z) ∧ lenN (trimS s xs.length g z).fl (trimL s xs g z).length ≤ lenN s.fl xs.length :=
  cut_most s.fl xs (trA_nn _ _) (trR_pos hs hg hz)
theorem trim_flags (hs : s.Ok) : bits .andNot .u8 (trimS s xs.length g z).fl s.fl = 0 := by
  have y := cuY_bd s.fl (trA s.sq g) (trA s.sq g + trR s.sq g z)
  unfold trimS
  simp only
  unfold cutF
  refine sub_flags hs.fl ?_ ?_
  · unfold cuY; split
    · exact .inr rfl
    · exact .inl rfl
  · unfold cuI; split
    · exact .inr rfl
    · exact .inl rfl
/-- its data is a part -/
theorem trim_part (s : Sg) (xs : List Int) (g z : Int) : ∃ lo, trimL s xs g z = (xs.drop lo).take (trimL s xs g z).length ∧ ((trimL s xs g z).length = 0 ∨ lo + (trimL s xs g z).length ≤ xs.length) ∧ lo ≤ xs.length := by
  refine ⟨cLo s.fl xs.length (trA s.sq g), ?_, ?_, cLo_le _ _ _⟩
  · unfold trimL cutL
    rw [List.drop_take, List.length_take, List.length_drop]
    have := cLo_le s.fl xs.length (trA s.sq g + trR s.sq g z)
    rw [Nat.min_eq_left (by omega)]
  · unfold trimL
    rw [cutL_len]
    have := cLo_le s.fl xs.length (trA s.sq g + trR s.sq g z)
    omega
end
end Go.Proofs.YtniimgbljhmcoaaDoor.sgC

/-
  The walk of SegTrimmed.
-/
namespace Go.Proofs.YtniimgbljhmcoaaDoor.sgC
open Go.ChangeShapes Go.WideShapes Go.ChangeAt Go.RowKit
open Go.Proofs.YtniimgbljhmcoaaDoor.memC Go.Proofs.YtniimgbljhmcoaaDoor.genC Go.Proofs.YtniimgbljhmcoaaDoor.butC Go.Proofs.YtniimgbljhmcoaaDoor.freeC Go.Proofs.YtniimgbljhmcoaaDoor.adC
open Go.Proofs.YtniimgbljhmcoaaDoor.opC (Kd Prs zOpt zOpt_ok U32 OwnP gr_drewG)
open Go.Proofs.YtniimgbljhmcoaaDoor.ringM
set_option linter.unusedVariables false
theorem some_in {l : List Int} (h : ∀ x ∈ l, Byte x) (i j : Nat) : ∀ x ∈ (l.take i).drop j, Byte x := fun x hx => h x (List.mem_of_mem_take (List.mem_of_mem_drop hx))
def taV (g0 gt : Nat) (B BX : Option Addr) (m d K dX ix : Nat) (B2 : Option Addr) (d2 : Nat) (S1 ST : ByteArray) (e : Bool) : Nat → Value → World → Prop
  | 0, v, _ => v = .pointer (some ⟨g0, 31, none⟩)
  | 1, v, _ => v = .slice B m d
  | 2, v, _ => v = .int .i64 ix
  | 3, v, _ => v = .int .i64 ix
  | 4, v, _ => v = .pointer (some ⟨gt, 31, none⟩)
  | 5, v, _ => v = .slice BX K dX
  | 6, v, _ => v = .int .i64 K
  | 7, v, _ => v = .int .i64 ((ix : Int) + (K : Int))
  | 8, v, _ => v = .slice B2 K d2
  | 9, v, _ => v = .string S1
  | 10, v, _ => v = .pointer (some ⟨gt, 31, none⟩)
  | 11, v, _ => v = .slice BX K dX
  | 12, v, _ => v = .string ST
  | 13, v, _ => v = .bool e
  | 14, v, _ => v = .bool e
  | _, _, _ => True
theorem taV.keep (g0 gt : Nat) (B BX : Option Addr) (m d K dX ix : Nat) (B2 : Option Addr) (d2 : Nat) (S1 ST : ByteArray) (e : Bool) (i : Nat) (v : Value) (w w' : World) (hb : Below w.heap.size w w') (h : taV g0 gt B BX m d K dX ix B2 d2 S1 ST e i v w) : taV g0 gt B BX m d K dX ix B2 d2 S1 ST e i v w' := by
  unfold taV at h ⊢
  split at h <;> exact h
def taT : List (Option Nat) := [none, none, none, none, none, none, none, none, none, none, some 14, none, none, none, none, none, none, none, none, none, none, none, none, none, none, none, none, none, none, none, none, none, none, none, none, none, none, none, none, none, none, none, none, none, none, none, none, none, none, none, none, none, none, none, none, none, none, none, none, none, none, none, none, none, none, none, none, none, none, none, none, none, none, none, none, none, none, none, none, none, none, none, none, none, none, none, none, none, none, some 0, some 1, some 2, some 3, some 4, some 5, some 6, some 7, some 8, some 9, some 10, some 11, some 12, some 13, none, none, none, none, none, none, none, none, none, none, none, none, none, none, none, none, none, none, none, none]
def tbV (g0 gt : Nat) (CX : Array Value) (g z fT fS : Int) (sT : Sg) (n : Nat) (sk : List (Int × Int)) (XT : List Int) (base : Nat) : Nat → Value → World → Prop
  | 0, v, _ => v = .bool true
  | 1, v, _ => v = .bool true
  | 2, v, _ => v = .agg CX
  | 3, v, _ => v = .int .u32 g
  | 4, v, _ => v = .int .u32 z
  | 5, v, w => ∃ A' c' B' m' d' p', v = .agg (segV sT A' n c' B' m' d') ∧ OwnP w base (.slice A' n c') sk ∧ Own .u8 5 w base (.slice B' m' p') XT
  | 6, v, _ => v = .agg CX
  | 7, v, _ => v = .bool true
  | 8, v, _ => v = .bool true
  | 9, v, _ => v = .bool true
  | 10, v, _ => v = .pointer (some ⟨gt, 4, none⟩)
  | 11, v, _ => v = .int .u8 fT
  | 12, v, _ => v = .pointer (some ⟨g0, 4, none⟩)
  | 13, v, _ => v = .int .u8 fS
  | 14, v, _ => v = .int .u8 0
  | 15, v, _ => v = .bool true
  | 16, v, _ => v = .bool true
  | 17, v, _ => v = .bool true
  | 18, v, _ => v = .bool true
  | 19, v, _ => v = .bool true
  | 20, v, _ => v = .bool true
  | _, _, _ => True
theorem tbV.keep (g0 gt : Nat) (CX : Array Value) (g z fT fS : Int) (sT : Sg) (n : Nat) (sk : List (Int × Int)) (XT : List Int) (base : Nat) (i : Nat) (v : Value) (w w' : World) (hb : Below w.heap.size w w') (h : tbV g0 gt CX g z fT fS sT n sk XT base i v w) : tbV g0 gt CX g z fT fS sT n sk XT base i v w' := by
  by_cases e5 : i = 5
  · subst e5
    obtain ⟨A', c', B', m', d', p', h1, h2, h3⟩ := h
    exact ⟨A', c', B', m', d', p', h1, h2.below hb, h3.below hb⟩
  unfold tbV at h ⊢
  split at h <;> first | exact h | exact absurd rfl (by assumption)
def tbT : List (Option Nat) := [none, none, none, none, none, none, some 20, none, none, none, none, none, none, none, none, none, none, none, none, none, none, none, none, none, none, none, none, none, none, none, none, none, none, none, none, none, none, none, none, none, none, none, none, none, none, none, none, none, none, none, none, none, none, none, none, none, none, none, none, none, none, none, none, none, none, none, none, none, none, none, none, none, none, none, none, none, none, none, none, none, none, none, none, none, none, none, none, none, none, none, none, none, none, none, none, none, none, none, none, none, none, none, none, some 0, some 1, some 2, some 3, some 4, some 5, some 6, some 7, some 8, some 9, some 10, some 11, some 12, some 13, some 14, some 15, some 16, some 17, some 18, some 19]
set_option maxRecDepth 100000 in
set_option maxHeartbeats 8000000 in
theorem trimmed_walk (s : Sg) (A : Option Addr) (n c : Nat) (B : Option Addr) (m d : Nat) (xs : List Int) (g z : Int) (w : World) (hk : Kd w) (hs : s.Ok) (hA : Prs w w.heap.size A n s.op.sk) (hx : Nums .u8 w w.heap.size B m xs) (hy : ∀ x ∈ xs, Byte x) (hmd : m ≤ d) (hg : U32 g) (hz : U32 z) :
    Calls Tryd.prog 8 #[.agg (segV s A n c B m d), .int .u32 g, .int .u32 z] w (Ret w (.bool true)) := by
  have hzv := zeroSeg
  have hn := hA.len
  have hxl := hx.len
  obtain ⟨W, hW⟩ : ∃ W, W = w.alloc (.cells (segV s A n c B m d) 34) := ⟨_, rfl⟩
  have HB_W := Lib.hid (show Below w.heap.size w W by rw [hW]; exact alloc_below _ _)
  have R_W := Lib.hid (show W.heap[w.heap.size]? = some (.cells (segV s A n c B m d) 34 (0, 0)) by rw [hW]; exact heap_alloc_new _ _)
  have AL0 := Lib.hid (fun (w' : World) (h : Below w.heap.size w w') => alive_any w' (hk.bel h))
  have OC := segC hs.op.lm A n c B m d
  have IC := Lib.hid OC.info
  have FA := Lib.hid (fun w' => far_any s A n c B m d w' hs.op.lm)
  have KD := Lib.hid (fun (w' : World) (h : w'.heap[w.heap.size]? = some (.cells (segV s A n c B m d) 34 (0, 0))) => pkC.PkC.cell h OC.da)
  have KFS0 := Lib.hid (fun (w' : World) (h : w'.heap[w.heap.size]? = some (.cells (segV s A n c B m d) 34 (0, 0))) => pkC.PkC.cell h OC.fl)
  have kq := pkC.PkC.cell R_W.out OC.sq
  obtain ⟨dz, hdz⟩ : ∃ q, q = dZ g s.sq := ⟨_, rfl⟩
  have D1 := Lib.hid (fun w' => (show Calls Tryd.prog 27 #[.int .u32 g, .int .u32 s.sq] w' (fun e w'' => e = .returned (.int .i32 dz) ∧ w' = w'') by rw [hdz]; exact ringC.dref_any g s.sq w' hg.1 hg.2 hs.sq.1 hs.sq.2))
  obtain ⟨fb, hfb⟩ : ∃ f, farB m n = f := ⟨_, rfl⟩
  rw [hfb] at FA
  have TC0 := Lib.hid (fun (hn' : n ≤ 100000) (hm : m ≤ 100000) (w' : World) (h : Below w.heap.size w w') => ctrim_any s A n c B m d xs g z w' hs ((hA.below h).more h.size) hn' ((hx.below h).more h.size) hm hmd hg hz)
  have LS0 := Lib.hid (fun (hm : m ≤ 100000) (w' : World) => clen_any s A n c B m d w' hs.op.lm hs.fl hm)
  have XS0 := Lib.hid (fun (w' : World) (h : Below w.heap.size w w') => (hx.below h).more h.size)
  obtain ⟨CP, hCP⟩ : ∃ C, C = segV s A n c B m d := ⟨_, rfl⟩
  simp only [← hCP] at R_W IC FA TC0 LS0 hW KD KFS0 ⊢
  clear hCP OC
  cases fb
  rotate_left
  · clear TC0 LS0 XS0 KFS0 hx hy hA hs hzv hdz
    go_enter Tryd.func8, Tryd.ntmps8
    go_upto_region 1 with fail
    rw [← hW]
    clear hW
    go_upto_region 2 with (first
      | (go_at_call 27; (refine (D1.out _).mono ?_); rintro e w' ⟨rfl, rfl⟩))
    clear D1 kq
    go_wp2_with (first
      | (refine wpList_load_rowG (by kernel_rfl) 34 (.tmp 3) rfl (w.heap.size) (by kernel_rfl) _ _ _ _ R_W.out Tryd.underlying34 rfl IC.out ?_)
      | (go_at_call 9; (refine (FA.out _).mono ?_); rintro e w2 ⟨rfl, BB⟩
         have HB_w2 := Lib.hid (HB_W.out.trans (BB.mono HB_W.out.size))
         have R_w2 := Lib.hid ((BB.block _ (opC.lt_of_row R_W.out)).trans R_W.out)
         have kd2 := KD.out w2 R_w2.out
         clear BB)
      | (go_at_call 10; (refine (AL0.out _ HB_w2.out).mono ?_); rintro e w3 ⟨rfl, BB⟩
         have HB_w3 := Lib.hid (HB_w2.out.trans (BB.mono HB_w2.out.size))
         clear BB))
    go_ret
    exact ⟨rfl, HB_w3.out⟩
  have hf := farB_not hfb
  by_cases b0 : 1500 < m
  · have q0 : (1500 : Int) < (m : Int) := by omega
    have qb0 : decide ((1500 : Int) < (m : Int)) = true := decide_eq_true q0
    clear TC0 LS0 XS0 KFS0 hx hy hA hs hzv hdz
    go_enter Tryd.func8, Tryd.ntmps8
    go_upto_region 1 with fail
    rw [← hW]
    clear hW
    go_upto_region 2 with (first
      | (go_at_call 27; (refine (D1.out _).mono ?_); rintro e w' ⟨rfl, rfl⟩))
    clear D1 kq
    go_wp2_with (first
      | (refine wpList_load_rowG (by kernel_rfl) 34 (.tmp 3) rfl (w.heap.size) (by kernel_rfl) _ _ _ _ R_W.out Tryd.underlying34 rfl IC.out ?_)
      | (go_at_call 9; (refine (FA.out _).mono ?_); rintro e w2 ⟨rfl, BB⟩
         have HB_w2 := Lib.hid (HB_W.out.trans (BB.mono HB_W.out.size))
         have R_w2 := Lib.hid ((BB.block _ (opC.lt_of_row R_W.out)).trans R_W.out)
         have kd2 := KD.out w2 R_w2.out
         clear BB)
      | (go_at_call 10; (refine (AL0.out _ HB_w2.out).mono ?_); rintro e w3 ⟨rfl, BB⟩
         have HB_w3 := Lib.hid (HB_w2.out.trans (BB.mono HB_w2.out.size))
         clear BB))
    go_ret
    exact ⟨rfl, HB_w3.out⟩
  have q0 : ¬ (1500 : Int) < (m : Int) := by omega
  have qb0 : decide ((1500 : Int) < (m : Int)) = false := decide_eq_false q0
  by_cases b1 : (1073741824 : Int) < dz
  · have q1 : (1073741824 : Int) < dz := by omega
    have qb1 : decide ((1073741824 : Int) < dz) = true := decide_eq_true q1
    clear TC0 LS0 XS0 KFS0 hx hy hA hs hzv hdz
    go_enter Tryd.func8, Tryd.ntmps8
    go_upto_region 1 with fail
    rw [← hW]
    clear hW
    go_upto_region 2 with (first
      | (go_at_call 27; (refine (D1.out _).mono ?_); rintro e w' ⟨rfl, rfl⟩))
    clear D1 kq
    go_wp2_with (first
      | (refine wpList_load_rowG (by kernel_rfl) 34 (.tmp 3) rfl (w.heap.size) (by kernel_rfl) _ _ _ _ R_W.out Tryd.underlying34 rfl IC.out ?_)
      | (go_at_call 9; (refine (FA.out _).mono ?_); rintro e w2 ⟨rfl, BB⟩
         have HB_w2 := Lib.hid (HB_W.out.trans (BB.mono HB_W.out.size))
         have R_w2 := Lib.hid ((BB.block _ (opC.lt_of_row R_W.out)).trans R_W.out)
         have kd2 := KD.out w2 R_w2.out
         clear BB)
      | (go_at_call 10; (refine (AL0.out _ HB_w2.out).mono ?_); rintro e w3 ⟨rfl, BB⟩
         have HB_w3 := Lib.hid (HB_w2.out.trans (BB.mono HB_w2.out.size))
         clear BB))
    go_ret
    exact ⟨rfl, HB_w3.out⟩
  have q1 : ¬ (1073741824 : Int) < dz := by omega
  have qb1 : decide ((1073741824 : Int) < dz) = false := decide_eq_false q1
  by_cases b2 : dz < -1073741824
  · have q2 : dz < -1073741824 := by omega
    have qb2 : decide (dz < -1073741824) = true := decide_eq_true q2
    clear TC0 LS0 XS0 KFS0 hx hy hA hs hzv hdz
    go_enter Tryd.func8, Tryd.ntmps8
    go_upto_region 1 with fail
    rw [← hW]
    clear hW
    go_upto_region 2 with (first
      | (go_at_call 27; (refine (D1.out _).mono ?_); rintro e w' ⟨rfl, rfl⟩))
    clear D1 kq
    go_wp2_with (first
      | (refine wpList_load_rowG (by kernel_rfl) 34 (.tmp 3) rfl (w.heap.size) (by kernel_rfl) _ _ _ _ R_W.out Tryd.underlying34 rfl IC.out ?_)
      | (go_at_call 9; (refine (FA.out _).mono ?_); rintro e w2 ⟨rfl, BB⟩
         have HB_w2 := Lib.hid (HB_W.out.trans (BB.mono HB_W.out.size))
         have R_w2 := Lib.hid ((BB.block _ (opC.lt_of_row R_W.out)).trans R_W.out)
         have kd2 := KD.out w2 R_w2.out
         clear BB)
      | (go_at_call 10; (refine (AL0.out _ HB_w2.out).mono ?_); rintro e w3 ⟨rfl, BB⟩
         have HB_w3 := Lib.hid (HB_w2.out.trans (BB.mono HB_w2.out.size))
         clear BB))
    go_ret
    exact ⟨rfl, HB_w3.out⟩
  have q2 : ¬ dz < -1073741824 := by omega
  have qb2 : decide (dz < -1073741824) = false := decide_eq_false q2
  by_cases b3 : (1073741824 : Int) < z
  · have q3 : (1073741824 : Int) < z := by omega
    have qb3 : decide ((1073741824 : Int) < z) = true := decide_eq_true q3
    clear TC0 LS0 XS0 KFS0 hx hy hA hs hzv hdz
    go_enter Tryd.func8, Tryd.ntmps8
    go_upto_region 1 with fail
    rw [← hW]
    clear hW
    go_upto_region 2 with (first
      | (go_at_call 27; (refine (D1.out _).mono ?_); rintro e w' ⟨rfl, rfl⟩))
    clear D1 kq
    go_wp2_with (first
      | (refine wpList_load_rowG (by kernel_rfl) 34 (.tmp 3) rfl (w.heap.size) (by kernel_rfl) _ _ _ _ R_W.out Tryd.underlying34 rfl IC.out ?_)
      | (go_at_call 9; (refine (FA.out _).mono ?_); rintro e w2 ⟨rfl, BB⟩
         have HB_w2 := Lib.hid (HB_W.out.trans (BB.mono HB_W.out.size))
         have R_w2 := Lib.hid ((BB.block _ (opC.lt_of_row R_W.out)).trans R_W.out)
         have kd2 := KD.out w2 R_w2.out
         clear BB)
      | (go_at_call 10; (refine (AL0.out _ HB_w2.out).mono ?_); rintro e w3 ⟨rfl, BB⟩
         have HB_w3 := Lib.hid (HB_w2.out.trans (BB.mono HB_w2.out.size))
         clear BB))
    go_ret
    exact ⟨rfl, HB_w3.out⟩
  have q3 : ¬ (1073741824 : Int) < z := by omega
  have qb3 : decide ((1073741824 : Int) < z) = false := decide_eq_false q3
  have hm9 : m ≤ 100000 := by omega
  have hn9 : n ≤ 100000 := by omega
  have TC1 := Lib.hid (TC0.out hn9 hm9)
  have LS := Lib.hid (LS0.out hm9)
  obtain ⟨o1, o2⟩ := trim_once (xs := xs) hs hg hz
  obtain ⟨l1, l2, l3⟩ := trim_len (xs := xs) hs hg hz
  have fl9 := trim_flags (xs := xs) (g := g) (z := z) hs
  obtain ⟨lo, p1, p2, p3⟩ := trim_part s xs g z
  have sTsq : (trimS s m g z).sq = trQ s.sq g := rfl
  have wi9 := fun (N : Int) (h0 : 0 < N) (h1 : N ≤ trR s.sq g z) => within s.sq g z N hz.1 (by omega) hs.sq hg (by omega) (by omega) h0 h1
  rw [hxl] at o1 o2 l1 l2 l3 fl9 p2 p3
  have ok9 : (trimS s m g z).Ok := by
    have hb := hs.fl
    refine { hs with sq := trQ_in hs.sq hg, fl := cutF_byte hb _ _ _ }
  have HYT := Lib.hid (show ∀ x ∈ trimL s xs g z, Byte x from some_in hy _ _)
  obtain ⟨sT, hsT⟩ : ∃ q, q = trimS s m g z := ⟨_, rfl⟩
  obtain ⟨XT, hXT⟩ : ∃ q, q = trimL s xs g z := ⟨_, rfl⟩
  have HST := Lib.hid (show sT.op.sk = s.op.sk by rw [hsT]; rfl)
  simp only [← hsT, ← hXT] at TC1 o1 o2 l1 l2 l3 fl9 p1 p2 sTsq ok9 HYT
  obtain ⟨Qs, hQs⟩ : ∃ q, q = trQ s.sq g := ⟨_, rfl⟩
  rw [← hQs] at sTsq wi9
  obtain ⟨K, hK⟩ : ∃ k, k = XT.length := ⟨_, rfl⟩
  rw [← hK] at o1 l1 l2 l3 p1 p2
  obtain ⟨N, hN⟩ : ∃ q, q = lenN sT.fl K := ⟨_, rfl⟩
  rw [← hN] at l1 l2 l3
  obtain ⟨LL, hLL⟩ : ∃ q, q = lenN s.fl m := ⟨_, rfl⟩
  rw [← hLL] at l3 LS
  have HOK := Lib.hid ok9
  have hKm : K ≤ m := by omega
  have lL : ¬ LL < N := by omega
  have lLb : decide (LL < N) = false := decide_eq_false lL
  have IX := Lib.hid (fun (A : Option Addr) (n c : Nat) (B : Option Addr) (m d : Nat) => (segC HOK.out.op.lm A n c B m d).info)
  have SX := Lib.hid (fun (A' : Option Addr) (n' c' : Nat) (B' : Option Addr) (m' d' : Nat) => seg_size (s := zSg) (s' := sT) zOpt_ok.lm HOK.out.op.lm none A' 0 0 n' c' none B' 0 0 m' d')
  have OX := Lib.hid (fun (A : Option Addr) (n c : Nat) (B : Option Addr) (m d : Nat) => seg_one sT A n c B m d)
  have QU : U32 Qs := by rw [hQs]; exact trQ_in hs.sq hg
  have IN1 := Lib.hid (fun (h : 0 < N) w' => (show Calls Tryd.prog 28 #[.int .u32 Qs, .int .u32 g, .int .u32 z] w' (fun e w'' => e = .returned (.bool true) ∧ w' = w'') by
    have h9 := ringC.inref_any Qs g z w' QU.1 QU.2 hg.1 hg.2 hz.1 hz.2
    rw [(wi9 N h (l2 h)).1] at h9
    exact h9))
  have IN2 := Lib.hid (fun (h : 0 < N) w' => (show Calls Tryd.prog 28 #[.int .u32 ((Qs + N - 1) % 4294967296), .int .u32 g, .int .u32 z] w' (fun e w'' => e = .returned (.bool true) ∧ w' = w'') by
    have h9 := ringC.inref_any ((Qs + N - 1) % 4294967296) g z w' (by omega) (by omega) hg.1 hg.2 hz.1 hz.2
    rw [(wi9 N h (l2 h)).2] at h9
    exact h9))
  have HP3 := Lib.hid p3; have HP1 := Lib.hid p1; have HP2 := Lib.hid p2; have HO1 := Lib.hid o1; have HO2 := Lib.hid o2; have FL := Lib.hid fl9; have HK := Lib.hid hK; have HSQ := Lib.hid sTsq
  have HXL := Lib.hid hxl; have HMD := Lib.hid hmd; have HN9 := Lib.hid hn9; have HM9 := Lib.hid hm9; have HKM := Lib.hid hKm; have HNN := Lib.hid hN
  generalize segV zSg none 0 0 none 0 0 = ZS at *
  clear TC0 LS0 hx hy hA hs hdz hsT hXT hQs hK hN hLL l2 l3 o1 o2 fl9 p1 p2 p3 sTsq wi9 ok9 hf hfb hm9 hn9 hxl hmd QU hKm hn
  go_enter Tryd.func8, Tryd.ntmps8
  go_upto_region 1 with fail
  rw [← hW]
  clear hW
  go_upto_region 2 with (first
    | (go_at_call 27; (refine (D1.out _).mono ?_); rintro e w' ⟨rfl, rfl⟩))
  clear D1 kq
  go_upto_region 4 with (first
    | (refine wpList_load_rowG (by kernel_rfl) 34 (.tmp 3) rfl (w.heap.size) (by kernel_rfl) _ _ _ _ R_W.out Tryd.underlying34 rfl IC.out ?_)
    | (go_at_call 9; (refine (FA.out _).mono ?_); rintro e w2 ⟨rfl, BB⟩
       have HB_w2 := Lib.hid (HB_W.out.trans (BB.mono HB_W.out.size))
       have R_w2 := Lib.hid ((BB.block _ (opC.lt_of_row R_W.out)).trans R_W.out)
       have kd2 := KD.out w2 R_w2.out
       clear BB))
  clear kd2
  go_upto_region 5 with (first
    | (refine wpList_load_rowG (by kernel_rfl) 34 (.tmp 3) rfl (w.heap.size) (by kernel_rfl) _ _ _ _ R_w2.out Tryd.underlying34 rfl IC.out ?_)
    | (go_at_call 25; (refine (TC1.out w2 HB_w2.out).mono ?_); rintro e w4 ⟨A4, c4, B4, m4, d4, p4, rfl, t1, t2, t3, t4, BB⟩
       obtain rfl : m4 = K := by rw [HK.out]; exact t3.len.symm
       have HB_w4 := Lib.hid (HB_w2.out.trans (BB.mono HB_w2.out.size))
       have R_w4 := Lib.hid ((BB.block _ (opC.lt_of_row R_w2.out)).trans R_w2.out)
       have HP4 := Lib.hid t2.prs
       have HX4 := Lib.hid t3.nums
       have HD4 := Lib.hid t4
       clear t1 t2 t3 t4 BB)
    | (refine wpList_store_row rfl 34 (.tmp 8) (.tmp 40) rfl w4.heap.size _ rfl rfl _ _ (heap_alloc_new _ _) (IX.out A4 n c4 B4 m4 d4) (SX.out A4 n c4 B4 m4 d4) (OX.out A4 n c4 B4 m4 d4) ?_; rw [World.setRow_alloc_new]))
  have IY := Lib.hid (IX.out A4 n c4 B4 m4 d4)
  have OT := segC HOK.out.op.lm A4 n c4 B4 m4 d4
  have X_w5 := Lib.hid (heap_alloc_new w4 (.cells (segV sT A4 n c4 B4 m4 d4) 34))
  have BB := alloc_below w4 (.cells (segV sT A4 n c4 B4 m4 d4) 34)
  have P5 := Lib.hid ((HP4.out.below BB).more BB.size)
  have X5 := Lib.hid ((HX4.out.below BB).more BB.size)
  have HB_w5 := Lib.hid (HB_w4.out.trans (BB.mono HB_w4.out.size))
  have R_w5 := Lib.hid ((BB.block _ (opC.lt_of_row R_w4.out)).trans R_w4.out)
  have KT2 := Lib.hid (fun (w' : World) (h : w'.heap[w4.heap.size]? = some (.cells (segV sT A4 n c4 B4 m4 d4) 34 (0, 0))) => (show w'.cell? ⟨w4.heap.size, 2, none⟩ = some (.int .u32 Qs) by rw [← HSQ.out]; exact pkC.PkC.cell h OT.sq))
  have KT4 := Lib.hid (fun (w' : World) (h : w'.heap[w4.heap.size]? = some (.cells (segV sT A4 n c4 B4 m4 d4) 34 (0, 0))) => pkC.PkC.cell h OT.fl)
  have KT31 := Lib.hid (fun (w' : World) (h : w'.heap[w4.heap.size]? = some (.cells (segV sT A4 n c4 B4 m4 d4) 34 (0, 0))) => pkC.PkC.cell h OT.da)
  have LT := Lib.hid (fun (w' : World) => (show Calls Tryd.prog 15 #[.agg (segV sT A4 n c4 B4 m4 d4)] w' (Ret w' (.int .u32 N)) by
    have h9 := clen_any sT A4 n c4 B4 m4 d4 w' HOK.out.op.lm HOK.out.fl (by have := HKM.out; have := HM9.out; omega)
    rw [← HNN.out] at h9
    exact h9))
  have TC5 := Lib.hid (fun (w' : World) (h : Below w.heap.size w w') (P : Prs w' w'.heap.size A4 n s.op.sk) (X : Nums .u8 w' w'.heap.size B4 m4 XT) => (show Calls Tryd.prog 25 #[.agg (segV sT A4 n c4 B4 m4 d4), .int .u32 g, .int .u32 z] w' (PtR w' sT n XT) by
    have h9 := ctrim_any sT A4 n c4 B4 m4 d4 XT g z w' HOK.out (by rw [HST.out]; exact P) HN9.out X (by have := HKM.out; have := HM9.out; omega) HD4.out hg hz
    rw [HO1.out, HO2.out] at h9
    exact h9))
  have SM5 := Lib.hid (fun (A' : Option Addr) (c' : Nat) (B' : Option Addr) (m' d' : Nat) (w' : World) (P : Prs w' w'.heap.size A' n s.op.sk) (X : Nums .u8 w' w'.heap.size B' m' XT) (P4 : Prs w' w'.heap.size A4 n s.op.sk) (X4 : Nums .u8 w' w'.heap.size B4 m4 XT) => (show Calls Tryd.prog 17 #[.agg (segV sT A' n c' B' m' d'), .agg (segV sT A4 n c4 B4 m4 d4)] w' (Ret w' (.bool true)) by
    have h9 := csame_any sT sT A' A4 n c' n c4 B' B4 m' d' m4 d4 XT XT w' HOK.out.op.lm HOK.out.op.lm (by rw [HST.out]; exact P) (by rw [HST.out]; exact P4) (by have := HN9.out; omega) (by have := HN9.out; omega) X X4 HYT.out HYT.out
    rw [sameS_self] at h9
    exact h9))
  obtain ⟨CX, hCX⟩ : ∃ C, C = segV sT A4 n c4 B4 m4 d4 := ⟨_, rfl⟩
  simp only [← hCX] at IY X_w5 KT2 KT4 KT31 LT TC5 SM5 P5 X5 HB_w5 R_w5 ⊢
  clear hCX OT BB HP4 HX4 IX SX OX hzv TC1 R_w2 R_w4 HB_w2 HB_w4 FA
  generalize w4.alloc (.cells CX 34) = w5 at *
  generalize w4.heap.size = gt at *
  go_upto_region 6 with (first
    | (refine wpList_load_rowG (by kernel_rfl) 34 (.tmp 8) rfl (gt) (by kernel_rfl) _ _ _ _ X_w5.out Tryd.underlying34 rfl IY.out ?_)
    | (go_at_call 15; (refine (LT.out _).mono ?_); rintro e w6 ⟨rfl, BB⟩
       have HB_w6 := Lib.hid (HB_w5.out.trans (BB.mono HB_w5.out.size))
       have R_w6 := Lib.hid ((BB.block _ (opC.lt_of_row R_w5.out)).trans R_w5.out)
       have X_w6 := Lib.hid ((BB.block _ (opC.lt_of_row X_w5.out)).trans X_w5.out)
       have kt2 := KT2.out w6 X_w6.out
       have P6 := Lib.hid ((P5.out.below BB).more BB.size)
       have X6 := Lib.hid ((X5.out.below BB).more BB.size)
       clear BB))
  clear P5 X5 R_w5 X_w5 HB_w5
  by_cases n0 : 0 < N
  · have n0b : decide (0 < N) = true := decide_eq_true n0
    have I1 := Lib.hid (IN1.out n0)
    have I2 := Lib.hid (IN2.out n0)
    go_upto_region 8 with (first
      | (go_at_call 28; (with_reducible refine (I1.out _).mono ?_); rintro e w' ⟨rfl, rfl⟩)
      | (go_at_call 28; (with_reducible refine (I2.out _).mono ?_); rintro e w' ⟨rfl, rfl⟩)
      | (refine wpList_load_rowG (by kernel_rfl) 34 (.tmp 3) rfl (w.heap.size) (by kernel_rfl) _ _ _ _ R_w6.out Tryd.underlying34 rfl IC.out ?_)
      | (go_at_call 15; (refine (LS.out _).mono ?_); rintro e w7 ⟨rfl, BB⟩
         have HB_w7 := Lib.hid (HB_w6.out.trans (BB.mono HB_w6.out.size))
         have R_w7 := Lib.hid ((BB.block _ (opC.lt_of_row R_w6.out)).trans R_w6.out)
         have X_w7 := Lib.hid ((BB.block _ (opC.lt_of_row X_w6.out)).trans X_w6.out)
         have P7 := Lib.hid ((P6.out.below BB).more BB.size)
         have X7 := Lib.hid ((X6.out.below BB).more BB.size)
         clear BB))
    clear I1 I2 n0b
    clear P6 X6 R_w6 X_w6 HB_w6 kt2 LS LT IN1 IN2
    have HBV := Lib.hid HB_w7.out
    generalize w7 = V at *
    have kt31 := KT31.out V X_w7.out
    go_wp2_with fail
    clear kt31
    go_loopw [10, 11] (fun v10 v11 wr => ∃ (i : Nat) (fnd : Bool), v10 = .bool fnd ∧ v11 = .int .i64 i ∧ (fnd = false → i ≤ lo ∧ 0 < m4) ∧ i ≤ lo + 1 ∧ Below V.heap.size V wr) (fun _ v11 _ => lo + 1 - (intOf v11).toNat)
    case atStart => exact ⟨0, _, rfl, rfl, fun h => ⟨Nat.zero_le _, by simp at h; omega⟩, Nat.zero_le _, Below.refl _ _⟩
    case round =>
      obtain ⟨i, fnd, rfl, rfl, hfd, hi1, hbr⟩ := hrel
      have HBR := Lib.hid hbr
      have RS := Lib.hid ((hbr.block _ (opC.lt_of_row R_w7.out)).trans R_w7.out)
      have XS := Lib.hid ((hbr.block _ (opC.lt_of_row X_w7.out)).trans X_w7.out)
      have ks := KD.out wr RS.out
      have kt := KT31.out wr XS.out
      have PW := Lib.hid ((P7.out.below hbr).more hbr.size)
      have XW := Lib.hid ((X7.out.below hbr).more hbr.size)
      have XSW := Lib.hid (XS0.out wr (HBV.out.trans (hbr.mono HBV.out.size)))
      have hp2 := HP2.out
      have hp3 := HP3.out
      have hkm := HKM.out
      have hm9 := HM9.out
      have wI : IntKind.i64.wrap ((i : Int) + (m4 : Int)) = (i : Int) + (m4 : Int) := IntWalk.i64_in _ (by omega)
      clear hbr
      cases fnd
      · obtain ⟨hi, hm0⟩ := hfd rfl
        have le : (i : Int) + (m4 : Int) ≤ (m : Int) := by omega
        have leb : decide ((i : Int) + (m4 : Int) ≤ (m : Int)) = true := decide_eq_true le
        have HI := Lib.hid hi
        have WI1 := Lib.hid (show wrap64 ((i : Int) + 1) = ((i + 1 : Nat) : Int) by rw [IntWalk.wrap64_in _ (by omega)]; omega)
        obtain ⟨B2, hB2⟩ : ∃ q, q = (if d = i then B else B.map (·.add i)) := ⟨_, rfl⟩
        obtain ⟨d2, hd2⟩ : ∃ q, q = d - i := ⟨_, rfl⟩
        have hmd := HMD.out
        have SC := Lib.hid (fun w' => (show (Instr.slice 32 (.slice B m d) (some (.int .i64 (i : Int))) (some (.int .i64 ((i : Int) + (m4 : Int)))) none).run Tryd.prog w' = .ok (.slice B2 m4 d2) w' by
          have h9 := pkC.cut_two B m d i (i + m4) (by omega) (by omega) w'
          rw [← hB2, ← hd2, show i + m4 - i = m4 by omega, show ((i + m4 : Nat) : Int) = (i : Int) + (m4 : Int) by omega] at h9
          exact h9))
        obtain ⟨YS, hYS⟩ : ∃ q, q = (xs.take (i + m4)).drop i := ⟨_, rfl⟩
        have N2 := Lib.hid (show Nums .u8 wr wr.heap.size B2 m4 YS by
          have h9 := nums_cut XSW.out (lo := i) (hi := i + m4) (by omega) (by omega) hmd
          rw [← hB2, ← hYS, show i + m4 - i = m4 by omega] at h9
          exact h9)
        obtain ⟨S1, hS1⟩ : ∃ S, S = strOfNums YS := ⟨_, rfl⟩
        obtain ⟨ST, hST⟩ : ∃ S, S = strOfNums XT := ⟨_, rfl⟩
        have CV1 := Lib.hid (fun w' (h : Gr wr w') => (show (convert 32 9 (.slice B2 m4 d2)).run Tryd.prog w' = .ok (.string S1) w' by rw [hS1]; exact run_string (N2.out.below h) d2 32 5 9 Tryd.underlying32 Tryd.underlying5 Tryd.underlying9))
        have CV2 := Lib.hid (fun w' (h : Gr wr w') => (show (convert 32 9 (.slice B4 m4 d4)).run Tryd.prog w' = .ok (.string ST) w' by rw [hST]; exact run_string (XW.out.below h) d4 32 5 9 Tryd.underlying32 Tryd.underlying5 Tryd.underlying9))
        obtain ⟨e, he⟩ : ∃ e, e = (S1.toList == ST.toList) := ⟨_, rfl⟩
        have EQ := Lib.hid he.symm
        have HE := Lib.hid (show e = false → i + 1 ≤ lo ∧ 0 < m4 from fun h => ⟨by
          rcases Nat.lt_or_ge i lo with h1 | h1
          · exact h1
          · obtain rfl : i = lo := by omega
            have e1 : YS = XT := by rw [hYS, HP1.out, List.drop_take, show i + m4 - i = m4 by omega]
            rw [he, hS1, hST, e1] at h
            simp at h, hm0⟩)
        have KDS := Lib.hid (fun (w' : World) (h : Gr wr w') => KD.out w' ((Below.block h _ (opC.lt_of_row RS.out)).trans RS.out))
        have KDT := Lib.hid (fun (w' : World) (h : Gr wr w') => KT31.out w' ((Below.block h _ (opC.lt_of_row XS.out)).trans XS.out))
        have WI := Lib.hid wI
        clear hB2 hd2 hYS hS1 hST he hfd hi hm0 hp2 hp3 hkm hm9 hi1 hmd N2 XSW
        go_upto_region 12 with fail
        clear ks kt wI le leb
        refine with_act fun a0 ha0 => ?_
        have hl : taT.length = a0.tmps.size := by rw [ha0]; rfl
        have k3 : a0.tmps[3]?.getD undef = .pointer (some ⟨(w.heap.size), 0, none⟩) := by rw [ha0]; rfl
        have k8 : a0.tmps[8]?.getD undef = .pointer (some ⟨gt, 0, none⟩) := by rw [ha0]; rfl
        have k11 : a0.tmps[11]?.getD undef = .int .i64 i := by rw [ha0]; rfl
        refine wp_region_vals (by kernel_rfl) taT (by kernel_rfl) (by kernel_rfl) hl (fun i => ([u89, u90, u91, u92, u93, u94, u95, u96, u97, u98, u99, u100, u101, u102, .bool false] : List Value).getD i undef) (by rw [ha0]; rfl) (Gr wr) (taV (w.heap.size) gt B B4 m d m4 d4 i B2 d2 S1 ST e) (gr_drewG _ _) (taV.keep _ _ _ _ _ _ _ _ _ _ _ _ _ _) ⟨?_, ?_, ?_, ?_, ?_, ?_, ?_, ?_, ?_, ?_, ?_, ?_, ?_, ?_, ?_, trivial⟩ ?_
        · refine step_plain [] (by kernel_rfl) rfl fun us w' hG hV => ?_
          have o3 := (frame_old2 (us := us) (a := a0) (show (taT[3]?).join = none from rfl)).trans k3
          generalize frame taT a0 us = fr at *
          exact val_ok (v := .pointer (some ⟨(w.heap.size), 31, none⟩)) (w' := w') (by go_simp) hG (Below.refl _ _) rfl
        · refine step_plain [0] (by kernel_rfl) rfl fun us w' hG hV => ?_
          have e0 : us 0 = .pointer (some ⟨(w.heap.size), 31, none⟩) := hV 0 (by simp)
          have v0 := (frame_at2 (us := us) hl (show (taT[89]?).join = some 0 from rfl)).trans e0
          have hc := KDS.out w' hG
          generalize frame taT a0 us = fr at *
          exact val_ok (v := .slice B m d) (w' := w') (by go_simp) hG (Below.refl _ _) rfl
        · refine step_plain [] (by kernel_rfl) rfl fun us w' hG hV => ?_
          have o11 := (frame_old2 (us := us) (a := a0) (show (taT[11]?).join = none from rfl)).trans k11
          generalize frame taT a0 us = fr at *
          exact val_ok (v := .int .i64 i) (w' := w') (by go_simp) hG (Below.refl _ _) rfl
        · refine step_plain [] (by kernel_rfl) rfl fun us w' hG hV => ?_
          have o11 := (frame_old2 (us := us) (a := a0) (show (taT[11]?).join = none from rfl)).trans k11
          generalize frame taT a0 us = fr at *
          exact val_ok (v := .int .i64 i) (w' := w') (by go_simp) hG (Below.refl _ _) rfl
        · refine step_plain [] (by kernel_rfl) rfl fun us w' hG hV => ?_
          have o8 := (frame_old2 (us := us) (a := a0) (show (taT[8]?).join = none from rfl)).trans k8
          generalize frame taT a0 us = fr at *
          exact val_ok (v := .pointer (some ⟨gt, 31, none⟩)) (w' := w') (by go_simp) hG (Below.refl _ _) rfl
        · refine step_plain [4] (by kernel_rfl) rfl fun us w' hG hV => ?_
          have e4 : us 4 = .pointer (some ⟨gt, 31, none⟩) := hV 4 (by simp)
          have v4 := (frame_at2 (us := us) hl (show (taT[93]?).join = some 4 from rfl)).trans e4
          have hc := KDT.out w' hG
          generalize frame taT a0 us = fr at *
          exact val_ok (v := .slice B4 m4 d4) (w' := w') (by go_simp) hG (Below.refl _ _) rfl
        · refine step_plain [5] (by kernel_rfl) rfl fun us w' hG hV => ?_
          have e5 : us 5 = .slice B4 m4 d4 := hV 5 (by simp)
          have v5 := (frame_at2 (us := us) hl (show (taT[94]?).join = some 5 from rfl)).trans e5
          generalize frame taT a0 us = fr at *
          exact val_ok (v := .int .i64 m4) (w' := w') (by go_simp) hG (Below.refl _ _) rfl
        · refine step_plain [3, 6] (by kernel_rfl) rfl fun us w' hG hV => ?_
          have e3 : us 3 = .int .i64 i := hV 3 (by simp)
          have v3 := (frame_at2 (us := us) hl (show (taT[92]?).join = some 3 from rfl)).trans e3
          have e6 : us 6 = .int .i64 m4 := hV 6 (by simp)
          have v6 := (frame_at2 (us := us) hl (show (taT[95]?).join = some 6 from rfl)).trans e6
          have hw := WI.out
          generalize frame taT a0 us = fr at *
          exact val_ok (v := .int .i64 ((i : Int) + (m4 : Int))) (w' := w') (by go_simp) hG (Below.refl _ _) rfl
        · refine step_plain [1, 2, 7] (by kernel_rfl) rfl fun us w' hG hV => ?_
          have e1 : us 1 = .slice B m d := hV 1 (by simp)
          have v1 := (frame_at2 (us := us) hl (show (taT[90]?).join = some 1 from rfl)).trans e1
          have e2 : us 2 = .int .i64 i := hV 2 (by simp)
          have v2 := (frame_at2 (us := us) hl (show (taT[91]?).join = some 2 from rfl)).trans e2
          have e7 : us 7 = .int .i64 ((i : Int) + (m4 : Int)) := hV 7 (by simp)
          have v7 := (frame_at2 (us := us) hl (show (taT[96]?).join = some 7 from rfl)).trans e7
          have hsc := SC.out w'
          generalize frame taT a0 us = fr at *
          exact val_ok (v := .slice B2 m4 d2) (w' := w') (by go_simp) hG (Below.refl _ _) rfl
        · refine step_plain [8] (by kernel_rfl) rfl fun us w' hG hV => ?_
          have e8 : us 8 = .slice B2 m4 d2 := hV 8 (by simp)
          have v8 := (frame_at2 (us := us) hl (show (taT[97]?).join = some 8 from rfl)).trans e8
          have hcv := CV1.out w' hG
          generalize frame taT a0 us = fr at *
          exact val_ok (v := .string S1) (w' := w') (by go_simp) hG (Below.refl _ _) rfl
        · refine step_plain [] (by kernel_rfl) rfl fun us w' hG hV => ?_
          have o8 := (frame_old2 (us := us) (a := a0) (show (taT[8]?).join = none from rfl)).trans k8
          generalize frame taT a0 us = fr at *
          exact val_ok (v := .pointer (some ⟨gt, 31, none⟩)) (w' := w') (by go_simp) hG (Below.refl _ _) rfl
        · refine step_plain [10] (by kernel_rfl) rfl fun us w' hG hV => ?_
          have e10 : us 10 = .pointer (some ⟨gt, 31, none⟩) := hV 10 (by simp)
          have v10 := (frame_at2 (us := us) hl (show (taT[99]?).join = some 10 from rfl)).trans e10
          have hc := KDT.out w' hG
          generalize frame taT a0 us = fr at *
          exact val_ok (v := .slice B4 m4 d4) (w' := w') (by go_simp) hG (Below.refl _ _) rfl
        · refine step_plain [11] (by kernel_rfl) rfl fun us w' hG hV => ?_
          have e11 : us 11 = .slice B4 m4 d4 := hV 11 (by simp)
          have v11 := (frame_at2 (us := us) hl (show (taT[100]?).join = some 11 from rfl)).trans e11
          have hcv := CV2.out w' hG
          generalize frame taT a0 us = fr at *
          exact val_ok (v := .string ST) (w' := w') (by go_simp) hG (Below.refl _ _) rfl
        · refine step_plain [9, 12] (by kernel_rfl) rfl fun us w' hG hV => ?_
          have e9 : us 9 = .string S1 := hV 9 (by simp)
          have v9 := (frame_at2 (us := us) hl (show (taT[98]?).join = some 9 from rfl)).trans e9
          have e12 : us 12 = .string ST := hV 12 (by simp)
          have v12 := (frame_at2 (us := us) hl (show (taT[101]?).join = some 12 from rfl)).trans e12
          generalize frame taT a0 us = fr at *
          exact val_ok (v := .bool e) (w' := w') (seq_run rfl (by simpa only [Act.eval, Array.getD_eq_getD_getElem?] using v9) (by simpa only [Act.eval, Array.getD_eq_getD_getElem?] using v12) EQ.out) hG (Below.refl _ _) rfl
        · refine step_plain [13] (by kernel_rfl) rfl fun us w' hG hV => ?_
          have e13 : us 13 = .bool e := hV 13 (by simp)
          have v13 := (frame_at2 (us := us) hl (show (taT[102]?).join = some 13 from rfl)).trans e13
          generalize frame taT a0 us = fr at *
          exact val_ok (v := .bool e) (w' := w') (by go_simp) hG (Below.refl _ _) rfl
        · intro us w5 hG hV
          have e14 : us 14 = .bool e := hV 14 (by decide)
          subst ha0
          simp only [frame, taT, fill]
          rw [e14]
          have HG5 := Lib.hid hG
          clear hV hl hG k3 k8 k11 e14 KDS KDT SC CV1 CV2 EQ WI
          go_wp2_with fail
          rw [show wrap64 ((i : Int) + 1) = ((i + 1 : Nat) : Int) from WI1.out]
          exact ⟨⟨i + 1, e, rfl, rfl, HE.out, by have := HI.out; omega, HBR.out.trans (Below.mono HG5.out HBR.out.size)⟩, by simp only [intOf]; have := HI.out; omega⟩
      · by_cases le : (i : Int) + (m4 : Int) ≤ (m : Int)
        · have leb : decide ((i : Int) + (m4 : Int) ≤ (m : Int)) = true := decide_eq_true le
          have HT := Lib.hid (fun (w' : World) (h : Gr wr w') => (show Below w.heap.size w w' from (HBV.out.trans (HBR.out.mono HBV.out.size)).trans (Below.mono h (Nat.le_trans HBV.out.size HBR.out.size))))
          have KX := Lib.hid (fun (w' : World) (h : Gr wr w') => (Below.block h _ (opC.lt_of_row XS.out)).trans XS.out)
          have KFT := Lib.hid (fun (w' : World) (h : Gr wr w') => KT4.out w' (KX.out w' h))
          have KFS := Lib.hid (fun (w' : World) (h : Gr wr w') => KFS0.out w' ((Below.block h _ (opC.lt_of_row RS.out)).trans RS.out))
          have PX := Lib.hid (fun (w' : World) (h : Gr wr w') => (show Prs w' w'.heap.size A4 n s.op.sk by rw [← HST.out]; exact (PW.out.below h).more (Below.size h)))
          have NX := Lib.hid (fun (w' : World) (h : Gr wr w') => (XW.out.below h).more (Below.size h))
          have TC := Lib.hid (fun (w' : World) (h : Gr wr w') => TC5.out w' (HT.out w' h) (PX.out w' h) (NX.out w' h))
          unfold PtR at TC
          rw [HST.out] at TC
          have SM := Lib.hid (fun (A' : Option Addr) (c' : Nat) (B' : Option Addr) (m' d' : Nat) (w' : World) (h : Gr wr w') (P : Prs w' w'.heap.size A' n s.op.sk) (X : Nums .u8 w' w'.heap.size B' m' XT) => SM5.out A' c' B' m' d' w' P X (PX.out w' h) (NX.out w' h))
          have AL := Lib.hid (fun (w' : World) (h : Gr wr w') => AL0.out w' (HT.out w' h))
          have IX := IY
          obtain ⟨sk, hsk⟩ : ∃ q, q = s.op.sk := ⟨_, rfl⟩
          rw [← hsk] at TC SM
          obtain ⟨fT, hfT⟩ : ∃ q, q = sT.fl := ⟨_, rfl⟩
          obtain ⟨fS, hfS⟩ : ∃ q, q = s.fl := ⟨_, rfl⟩
          rw [← hfT, ← hfS] at FL
          rw [← hfT] at KFT
          rw [← hfS] at KFS
          clear hfT hfS hsk hfd hp2 hp3 hkm hm9 hi1 TC5 SM5 HST HYT HOK
          go_upto_region 13 with fail
          clear ks kt wI le leb
          refine with_act fun a0 ha0 => ?_
          have hl : tbT.length = a0.tmps.size := by rw [ha0]; rfl
          have k1 : a0.tmps[1]?.getD undef = .int .u32 g := by rw [ha0]; rfl
          have k2 : a0.tmps[2]?.getD undef = .int .u32 z := by rw [ha0]; rfl
          have k3 : a0.tmps[3]?.getD undef = .pointer (some ⟨(w.heap.size), 0, none⟩) := by rw [ha0]; rfl
          have k8 : a0.tmps[8]?.getD undef = .pointer (some ⟨gt, 0, none⟩) := by rw [ha0]; rfl
          have k10 : a0.tmps[10]?.getD undef = .bool true := by rw [ha0]; rfl
          refine wp_region_vals (by kernel_rfl) tbT (by kernel_rfl) (by kernel_rfl) hl (fun i => if i = 20 then .bool false else undef) (by rw [ha0]; rfl) (Gr wr) (tbV (w.heap.size) gt CX g z fT fS sT n sk XT (wr.heap.size)) (gr_drewG _ _) (tbV.keep _ _ _ _ _ _ _ _ _ _ _ _) ⟨?_, ?_, ?_, ?_, ?_, ?_, ?_, ?_, ?_, ?_, ?_, ?_, ?_, ?_, ?_, ?_, ?_, ?_, ?_, ?_, ?_, trivial⟩ ?_
          · refine step_plain [] (by kernel_rfl) rfl fun us w' hG hV => ?_
            have o10 := (frame_old2 (us := us) (a := a0) (show (tbT[10]?).join = none from rfl)).trans k10
            generalize frame tbT a0 us = fr at *
            exact val_ok (v := .bool true) (w' := w') (by go_simp) hG (Below.refl _ _) rfl
          · refine step_plain [0] (by kernel_rfl) rfl fun us w' hG hV => ?_
            have e0 : us 0 = .bool true := hV 0 (by simp)
            have v0 := (frame_at2 (us := us) hl (show (tbT[103]?).join = some 0 from rfl)).trans e0
            generalize frame tbT a0 us = fr at *
            exact val_ok (v := .bool true) (w' := w') (by go_simp) hG (Below.refl _ _) rfl
          · refine step_guard [1] (by kernel_rfl) (j := 1) (t := 104) (b := true) rfl (by simp) rfl hl rfl (fun v w h => h) fun us w' hG hV => ?_
            have o8 := (frame_old2 (us := us) (a := a0) (show (tbT[8]?).join = none from rfl)).trans k8
            have hg1 := (KX.out w' hG)
            generalize frame tbT a0 us = fr at *
            exact load_ok 34 8 rfl (gt) o8 _ _ (0, 0) _ hg1 Tryd.underlying34 rfl IX.out hG rfl
          · refine step_guard [1] (by kernel_rfl) (j := 1) (t := 104) (b := true) rfl (by simp) rfl hl rfl (fun v w h => h) fun us w' hG hV => ?_
            have o1 := (frame_old2 (us := us) (a := a0) (show (tbT[1]?).join = none from rfl)).trans k1
            generalize frame tbT a0 us = fr at *
            exact val_ok (v := .int .u32 g) (w' := w') (by go_simp) hG (Below.refl _ _) rfl
          · refine step_guard [1] (by kernel_rfl) (j := 1) (t := 104) (b := true) rfl (by simp) rfl hl rfl (fun v w h => h) fun us w' hG hV => ?_
            have o2 := (frame_old2 (us := us) (a := a0) (show (tbT[2]?).join = none from rfl)).trans k2
            generalize frame tbT a0 us = fr at *
            exact val_ok (v := .int .u32 z) (w' := w') (by go_simp) hG (Below.refl _ _) rfl
          · refine step_guard [1, 2, 3, 4] (by kernel_rfl) (j := 1) (t := 104) (b := true) rfl (by simp) rfl hl rfl (fun v w h => h) fun us w' hG hV => ?_
            have e2 : us 2 = .agg CX := hV 2 (by simp)
            have v2 := (frame_at2 (us := us) hl (show (tbT[105]?).join = some 2 from rfl)).trans e2
            have e3 : us 3 = .int .u32 g := hV 3 (by simp)
            have v3 := (frame_at2 (us := us) hl (show (tbT[106]?).join = some 3 from rfl)).trans e3
            have e4 : us 4 = .int .u32 z := hV 4 (by simp)
            have v4 := (frame_at2 (us := us) hl (show (tbT[107]?).join = some 4 from rfl)).trans e4
            generalize frame tbT a0 us = fr at *
            exact call_ok (f := 25) (args := #[.agg CX, .int .u32 g, .int .u32 z]) (by go_simp) ((TC.out w' hG).mono fun e w'' ⟨A', c', B', m', d', p', h1, h2, h3, h4, h5, h6⟩ => ⟨_, h1, hG.below h6, h6, A', c', B', m', d', p', rfl, h3.less hG.size, h4.less hG.size⟩)
          · refine step_guard [1] (by kernel_rfl) (j := 1) (t := 104) (b := true) rfl (by simp) rfl hl rfl (fun v w h => h) fun us w' hG hV => ?_
            have o8 := (frame_old2 (us := us) (a := a0) (show (tbT[8]?).join = none from rfl)).trans k8
            have hg1 := (KX.out w' hG)
            generalize frame tbT a0 us = fr at *
            exact load_ok 34 8 rfl (gt) o8 _ _ (0, 0) _ hg1 Tryd.underlying34 rfl IX.out hG rfl
          · refine step_guard [1, 5, 6] (by kernel_rfl) (j := 1) (t := 104) (b := true) rfl (by simp) rfl hl rfl (fun v w h => h) fun us w' hG hV => ?_
            obtain ⟨A5, c5, B5, m5, d5, p5, e5, q5, x5⟩ := (show ∃ A' c' B' m' d' p', us 5 = .agg (segV sT A' n c' B' m' d') ∧ OwnP w' (wr.heap.size) (.slice A' n c') sk ∧ Own .u8 5 w' (wr.heap.size) (.slice B' m' p') XT from hV 5 (by simp))
            have v5 := (frame_at2 (us := us) hl (show (tbT[108]?).join = some 5 from rfl)).trans e5
            have e6 : us 6 = .agg CX := hV 6 (by simp)
            have v6 := (frame_at2 (us := us) hl (show (tbT[109]?).join = some 6 from rfl)).trans e6
            generalize frame tbT a0 us = fr at *
            exact call_ok (f := 17) (args := #[.agg (segV sT A5 n c5 B5 m5 d5), .agg CX]) (by go_simp) ((SM.out A5 c5 B5 m5 d5 w' hG q5.prs x5.nums).mono fun e w'' h => ⟨_, h.1, hG.below h.2, h.2, rfl⟩)
          · refine step_plain [1, 7] (by kernel_rfl) rfl fun us w' hG hV => ?_
            have e1 : us 1 = .bool true := hV 1 (by simp)
            have v1 := (frame_at2 (us := us) hl (show (tbT[104]?).join = some 1 from rfl)).trans e1
            have e7 : us 7 = .bool true := hV 7 (by simp)
            have v7 := (frame_at2 (us := us) hl (show (tbT[110]?).join = some 7 from rfl)).trans e7
            generalize frame tbT a0 us = fr at *
            exact val_ok (v := .bool true) (w' := w') (by go_simp) hG (Below.refl _ _) rfl
          · refine step_plain [8] (by kernel_rfl) rfl fun us w' hG hV => ?_
            have e8 : us 8 = .bool true := hV 8 (by simp)
            have v8 := (frame_at2 (us := us) hl (show (tbT[111]?).join = some 8 from rfl)).trans e8
            generalize frame tbT a0 us = fr at *
            exact val_ok (v := .bool true) (w' := w') (by go_simp) hG (Below.refl _ _) rfl
          · refine step_guard [9] (by kernel_rfl) (j := 9) (t := 112) (b := true) rfl (by simp) rfl hl rfl (fun v w h => h) fun us w' hG hV => ?_
            have o8 := (frame_old2 (us := us) (a := a0) (show (tbT[8]?).join = none from rfl)).trans k8
            generalize frame tbT a0 us = fr at *
            exact val_ok (v := .pointer (some ⟨gt, 4, none⟩)) (w' := w') (by go_simp) hG (Below.refl _ _) rfl
          · refine step_guard [9, 10] (by kernel_rfl) (j := 9) (t := 112) (b := true) rfl (by simp) rfl hl rfl (fun v w h => h) fun us w' hG hV => ?_
            have e10 : us 10 = .pointer (some ⟨gt, 4, none⟩) := hV 10 (by simp)
            have v10 := (frame_at2 (us := us) hl (show (tbT[113]?).join = some 10 from rfl)).trans e10
            have hc := KFT.out w' hG
            generalize frame tbT a0 us = fr at *
            exact val_ok (v := .int .u8 fT) (w' := w') (by go_simp) hG (Below.refl _ _) rfl
          · refine step_guard [9] (by kernel_rfl) (j := 9) (t := 112) (b := true) rfl (by simp) rfl hl rfl (fun v w h => h) fun us w' hG hV => ?_
            have o3 := (frame_old2 (us := us) (a := a0) (show (tbT[3]?).join = none from rfl)).trans k3
            generalize frame tbT a0 us = fr at *
            exact val_ok (v := .pointer (some ⟨(w.heap.size), 4, none⟩)) (w' := w') (by go_simp) hG (Below.refl _ _) rfl
          · refine step_guard [9, 12] (by kernel_rfl) (j := 9) (t := 112) (b := true) rfl (by simp) rfl hl rfl (fun v w h => h) fun us w' hG hV => ?_
            have e12 : us 12 = .pointer (some ⟨(w.heap.size), 4, none⟩) := hV 12 (by simp)
            have v12 := (frame_at2 (us := us) hl (show (tbT[115]?).join = some 12 from rfl)).trans e12
            have hc := KFS.out w' hG
            generalize frame tbT a0 us = fr at *
            exact val_ok (v := .int .u8 fS) (w' := w') (by go_simp) hG (Below.refl _ _) rfl
          · refine step_guard [9, 11, 13] (by kernel_rfl) (j := 9) (t := 112) (b := true) rfl (by simp) rfl hl rfl (fun v w h => h) fun us w' hG hV => ?_
            have e11 : us 11 = .int .u8 fT := hV 11 (by simp)
            have v11 := (frame_at2 (us := us) hl (show (tbT[114]?).join = some 11 from rfl)).trans e11
            have e13 : us 13 = .int .u8 fS := hV 13 (by simp)
            have v13 := (frame_at2 (us := us) hl (show (tbT[116]?).join = some 13 from rfl)).trans e13
            have hfl := FL.out
            generalize frame tbT a0 us = fr at *
            exact val_ok (v := .int .u8 0) (w' := w') (by go_simp) hG (Below.refl _ _) rfl
          · refine step_guard [9, 14] (by kernel_rfl) (j := 9) (t := 112) (b := true) rfl (by simp) rfl hl rfl (fun v w h => h) fun us w' hG hV => ?_
            have e14 : us 14 = .int .u8 0 := hV 14 (by simp)
            have v14 := (frame_at2 (us := us) hl (show (tbT[117]?).join = some 14 from rfl)).trans e14
            generalize frame tbT a0 us = fr at *
            exact val_ok (v := .bool true) (w' := w') (by go_simp) hG (Below.refl _ _) rfl
          · refine step_plain [9, 15] (by kernel_rfl) rfl fun us w' hG hV => ?_
            have e9 : us 9 = .bool true := hV 9 (by simp)
            have v9 := (frame_at2 (us := us) hl (show (tbT[112]?).join = some 9 from rfl)).trans e9
            have e15 : us 15 = .bool true := hV 15 (by simp)
            have v15 := (frame_at2 (us := us) hl (show (tbT[118]?).join = some 15 from rfl)).trans e15
            generalize frame tbT a0 us = fr at *
            exact val_ok (v := .bool true) (w' := w') (by go_simp) hG (Below.refl _ _) rfl
          · refine step_plain [16] (by kernel_rfl) rfl fun us w' hG hV => ?_
            have e16 : us 16 = .bool true := hV 16 (by simp)
            have v16 := (frame_at2 (us := us) hl (show (tbT[119]?).join = some 16 from rfl)).trans e16
            generalize frame tbT a0 us = fr at *
            exact val_ok (v := .bool true) (w' := w') (by go_simp) hG (Below.refl _ _) rfl
          · refine step_guard [17] (by kernel_rfl) (j := 17) (t := 120) (b := true) rfl (by simp) rfl hl rfl (fun v w h => h) fun us w' hG hV => ?_
            generalize frame tbT a0 us = fr at *
            exact call_ok (f := 10) (args := #[]) (by go_simp) ((AL.out w' hG).mono fun e w'' h => ⟨_, h.1, hG.below h.2, h.2, rfl⟩)
          · refine step_plain [17, 18] (by kernel_rfl) rfl fun us w' hG hV => ?_
            have e17 : us 17 = .bool true := hV 17 (by simp)
            have v17 := (frame_at2 (us := us) hl (show (tbT[120]?).join = some 17 from rfl)).trans e17
            have e18 : us 18 = .bool true := hV 18 (by simp)
            have v18 := (frame_at2 (us := us) hl (show (tbT[121]?).join = some 18 from rfl)).trans e18
            generalize frame tbT a0 us = fr at *
            exact val_ok (v := .bool true) (w' := w') (by go_simp) hG (Below.refl _ _) rfl
          · refine step_plain [19] (by kernel_rfl) rfl fun us w' hG hV => ?_
            have e19 : us 19 = .bool true := hV 19 (by simp)
            have v19 := (frame_at2 (us := us) hl (show (tbT[122]?).join = some 19 from rfl)).trans e19
            generalize frame tbT a0 us = fr at *
            exact val_ok (v := .bool true) (w' := w') (by go_simp) hG (Below.refl _ _) rfl
          · intro us w5 hG hV
            have e20 : us 20 = .bool true := hV 20 (by decide)
            subst ha0
            simp only [frame, tbT, fill]
            rw [e20]
            have HG5 := Lib.hid hG
            clear hV hl hG k1 k2 k3 k8 k10 e20
            go_wp2_with fail
            go_ret
            exact ⟨rfl, (HBV.out.trans (HBR.out.mono HBV.out.size)).trans (Below.mono HG5.out (Nat.le_trans HBV.out.size HBR.out.size))⟩
        · have leb : decide ((i : Int) + (m4 : Int) ≤ (m : Int)) = false := decide_eq_false le
          have le' : (m : Int) < (i : Int) + (m4 : Int) := by omega
          have HT := Lib.hid (fun (w' : World) (h : Gr wr w') => (show Below w.heap.size w w' from (HBV.out.trans (HBR.out.mono HBV.out.size)).trans (Below.mono h (Nat.le_trans HBV.out.size HBR.out.size))))
          have KX := Lib.hid (fun (w' : World) (h : Gr wr w') => (Below.block h _ (opC.lt_of_row XS.out)).trans XS.out)
          have KFT := Lib.hid (fun (w' : World) (h : Gr wr w') => KT4.out w' (KX.out w' h))
          have KFS := Lib.hid (fun (w' : World) (h : Gr wr w') => KFS0.out w' ((Below.block h _ (opC.lt_of_row RS.out)).trans RS.out))
          have PX := Lib.hid (fun (w' : World) (h : Gr wr w') => (show Prs w' w'.heap.size A4 n s.op.sk by rw [← HST.out]; exact (PW.out.below h).more (Below.size h)))
          have NX := Lib.hid (fun (w' : World) (h : Gr wr w') => (XW.out.below h).more (Below.size h))
          have TC := Lib.hid (fun (w' : World) (h : Gr wr w') => TC5.out w' (HT.out w' h) (PX.out w' h) (NX.out w' h))
          unfold PtR at TC
          rw [HST.out] at TC
          have SM := Lib.hid (fun (A' : Option Addr) (c' : Nat) (B' : Option Addr) (m' d' : Nat) (w' : World) (h : Gr wr w') (P : Prs w' w'.heap.size A' n s.op.sk) (X : Nums .u8 w' w'.heap.size B' m' XT) => SM5.out A' c' B' m' d' w' P X (PX.out w' h) (NX.out w' h))
          have AL := Lib.hid (fun (w' : World) (h : Gr wr w') => AL0.out w' (HT.out w' h))
          have IX := IY
          obtain ⟨sk, hsk⟩ : ∃ q, q = s.op.sk := ⟨_, rfl⟩
          rw [← hsk] at TC SM
          obtain ⟨fT, hfT⟩ : ∃ q, q = sT.fl := ⟨_, rfl⟩
          obtain ⟨fS, hfS⟩ : ∃ q, q = s.fl := ⟨_, rfl⟩
          rw [← hfT, ← hfS] at FL
          rw [← hfT] at KFT
          rw [← hfS] at KFS
          clear hfT hfS hsk hfd hp2 hp3 hkm hm9 hi1 TC5 SM5 HST HYT HOK
          go_upto_region 13 with fail
          clear ks kt wI le leb
          refine with_act fun a0 ha0 => ?_
          have hl : tbT.length = a0.tmps.size := by rw [ha0]; rfl
          have k1 : a0.tmps[1]?.getD undef = .int .u32 g := by rw [ha0]; rfl
          have k2 : a0.tmps[2]?.getD undef = .int .u32 z := by rw [ha0]; rfl
          have k3 : a0.tmps[3]?.getD undef = .pointer (some ⟨(w.heap.size), 0, none⟩) := by rw [ha0]; rfl
          have k8 : a0.tmps[8]?.getD undef = .pointer (some ⟨gt, 0, none⟩) := by rw [ha0]; rfl
          have k10 : a0.tmps[10]?.getD undef = .bool true := by rw [ha0]; rfl
          refine wp_region_vals (by kernel_rfl) tbT (by kernel_rfl) (by kernel_rfl) hl (fun i => if i = 20 then .bool false else undef) (by rw [ha0]; rfl) (Gr wr) (tbV (w.heap.size) gt CX g z fT fS sT n sk XT (wr.heap.size)) (gr_drewG _ _) (tbV.keep _ _ _ _ _ _ _ _ _ _ _ _) ⟨?_, ?_, ?_, ?_, ?_, ?_, ?_, ?_, ?_, ?_, ?_, ?_, ?_, ?_, ?_, ?_, ?_, ?_, ?_, ?_, ?_, trivial⟩ ?_
          · refine step_plain [] (by kernel_rfl) rfl fun us w' hG hV => ?_
            have o10 := (frame_old2 (us := us) (a := a0) (show (tbT[10]?).join = none from rfl)).trans k10
            generalize frame tbT a0 us = fr at *
            exact val_ok (v := .bool true) (w' := w') (by go_simp) hG (Below.refl _ _) rfl
          · refine step_plain [0] (by kernel_rfl) rfl fun us w' hG hV => ?_
            have e0 : us 0 = .bool true := hV 0 (by simp)
            have v0 := (frame_at2 (us := us) hl (show (tbT[103]?).join = some 0 from rfl)).trans e0
            generalize frame tbT a0 us = fr at *
            exact val_ok (v := .bool true) (w' := w') (by go_simp) hG (Below.refl _ _) rfl
          · refine step_guard [1] (by kernel_rfl) (j := 1) (t := 104) (b := true) rfl (by simp) rfl hl rfl (fun v w h => h) fun us w' hG hV => ?_
            have o8 := (frame_old2 (us := us) (a := a0) (show (tbT[8]?).join = none from rfl)).trans k8
            have hg1 := (KX.out w' hG)
            generalize frame tbT a0 us = fr at *
            exact load_ok 34 8 rfl (gt) o8 _ _ (0, 0) _ hg1 Tryd.underlying34 rfl IX.out hG rfl
          · refine step_guard [1] (by kernel_rfl) (j := 1) (t := 104) (b := true) rfl (by simp) rfl hl rfl (fun v w h => h) fun us w' hG hV => ?_
            have o1 := (frame_old2 (us := us) (a := a0) (show (tbT[1]?).join = none from rfl)).trans k1
            generalize frame tbT a0 us = fr at *
            exact val_ok (v := .int .u32 g) (w' := w') (by go_simp) hG (Below.refl _ _) rfl
          · refine step_guard [1] (by kernel_rfl) (j := 1) (t := 104) (b := true) rfl (by simp) rfl hl rfl (fun v w h => h) fun us w' hG hV => ?_
            have o2 := (frame_old2 (us := us) (a := a0) (show (tbT[2]?).join = none from rfl)).trans k2
            generalize frame tbT a0 us = fr at *
            exact val_ok (v := .int .u32 z) (w' := w') (by go_simp) hG (Below.refl _ _) rfl
          · refine step_guard [1, 2, 3, 4] (by kernel_rfl) (j := 1) (t := 104) (b := true) rfl (by simp) rfl hl rfl (fun v w h => h) fun us w' hG hV => ?_
            have e2 : us 2 = .agg CX := hV 2 (by simp)
            have v2 := (frame_at2 (us := us) hl (show (tbT[105]?).join = some 2 from rfl)).trans e2
            have e3 : us 3 = .int .u32 g := hV 3 (by simp)
            have v3 := (frame_at2 (us := us) hl (show (tbT[106]?).join = some 3 from rfl)).trans e3
            have e4 : us 4 = .int .u32 z := hV 4 (by simp)
            have v4 := (frame_at2 (us := us) hl (show (tbT[107]?).join = some 4 from rfl)).trans e4
            generalize frame tbT a0 us = fr at *
            exact call_ok (f := 25) (args := #[.agg CX, .int .u32 g, .int .u32 z]) (by go_simp) ((TC.out w' hG).mono fun e w'' ⟨A', c', B', m', d', p', h1, h2, h3, h4, h5, h6⟩ => ⟨_, h1, hG.below h6, h6, A', c', B', m', d', p', rfl, h3.less hG.size, h4.less hG.size⟩)
          · refine step_guard [1] (by kernel_rfl) (j := 1) (t := 104) (b := true) rfl (by simp) rfl hl rfl (fun v w h => h) fun us w' hG hV => ?_
            have o8 := (frame_old2 (us := us) (a := a0) (show (tbT[8]?).join = none from rfl)).trans k8
            have hg1 := (KX.out w' hG)
            generalize frame tbT a0 us = fr at *
            exact load_ok 34 8 rfl (gt) o8 _ _ (0, 0) _ hg1 Tryd.underlying34 rfl IX.out hG rfl
          · refine step_guard [1, 5, 6] (by kernel_rfl) (j := 1) (t := 104) (b := true) rfl (by simp) rfl hl rfl (fun v w h => h) fun us w' hG hV => ?_
            obtain ⟨A5, c5, B5, m5, d5, p5, e5, q5, x5⟩ := (show ∃ A' c' B' m' d' p', us 5 = .agg (segV sT A' n c' B' m' d') ∧ OwnP w' (wr.heap.size) (.slice A' n c') sk ∧ Own .u8 5 w' (wr.heap.size) (.slice B' m' p') XT from hV 5 (by simp))
            have v5 := (frame_at2 (us := us) hl (show (tbT[108]?).join = some 5 from rfl)).trans e5
            have e6 : us 6 = .agg CX := hV 6 (by simp)
            have v6 := (frame_at2 (us := us) hl (show (tbT[109]?).join = some 6 from rfl)).trans e6
            generalize frame tbT a0 us = fr at *
            exact call_ok (f := 17) (args := #[.agg (segV sT A5 n c5 B5 m5 d5), .agg CX]) (by go_simp) ((SM.out A5 c5 B5 m5 d5 w' hG q5.prs x5.nums).mono fun e w'' h => ⟨_, h.1, hG.below h.2, h.2, rfl⟩)
          · refine step_plain [1, 7] (by kernel_rfl) rfl fun us w' hG hV => ?_
            have e1 : us 1 = .bool true := hV 1 (by simp)
            have v1 := (frame_at2 (us := us) hl (show (tbT[104]?).join = some 1 from rfl)).trans e1
            have e7 : us 7 = .bool true := hV 7 (by simp)
            have v7 := (frame_at2 (us := us) hl (show (tbT[110]?).join = some 7 from rfl)).trans e7
            generalize frame tbT a0 us = fr at *
            exact val_ok (v := .bool true) (w' := w') (by go_simp) hG (Below.refl _ _) rfl
          · refine step_plain [8] (by kernel_rfl) rfl fun us w' hG hV => ?_
            have e8 : us 8 = .bool true := hV 8 (by simp)
            have v8 := (frame_at2 (us := us) hl (show (tbT[111]?).join = some 8 from rfl)).trans e8
            generalize frame tbT a0 us = fr at *
            exact val_ok (v := .bool true) (w' := w') (by go_simp) hG (Below.refl _ _) rfl
          · refine step_guard [9] (by kernel_rfl) (j := 9) (t := 112) (b := true) rfl (by simp) rfl hl rfl (fun v w h => h) fun us w' hG hV => ?_
            have o8 := (frame_old2 (us := us) (a := a0) (show (tbT[8]?).join = none from rfl)).trans k8
            generalize frame tbT a0 us = fr at *
            exact val_ok (v := .pointer (some ⟨gt, 4, none⟩)) (w' := w') (by go_simp) hG (Below.refl _ _) rfl
          · refine step_guard [9, 10] (by kernel_rfl) (j := 9) (t := 112) (b := true) rfl (by simp) rfl hl rfl (fun v w h => h) fun us w' hG hV => ?_
            have e10 : us 10 = .pointer (some ⟨gt, 4, none⟩) := hV 10 (by simp)
            have v10 := (frame_at2 (us := us) hl (show (tbT[113]?).join = some 10 from rfl)).trans e10
            have hc := KFT.out w' hG
            generalize frame tbT a0 us = fr at *
            exact val_ok (v := .int .u8 fT) (w' := w') (by go_simp) hG (Below.refl _ _) rfl
          · refine step_guard [9] (by kernel_rfl) (j := 9) (t := 112) (b := true) rfl (by simp) rfl hl rfl (fun v w h => h) fun us w' hG hV => ?_
            have o3 := (frame_old2 (us := us) (a := a0) (show (tbT[3]?).join = none from rfl)).trans k3
            generalize frame tbT a0 us = fr at *
            exact val_ok (v := .pointer (some ⟨(w.heap.size), 4, none⟩)) (w' := w') (by go_simp) hG (Below.refl _ _) rfl
          · refine step_guard [9, 12] (by kernel_rfl) (j := 9) (t := 112) (b := true) rfl (by simp) rfl hl rfl (fun v w h => h) fun us w' hG hV => ?_
            have e12 : us 12 = .pointer (some ⟨(w.heap.size), 4, none⟩) := hV 12 (by simp)
            have v12 := (frame_at2 (us := us) hl (show (tbT[115]?).join = some 12 from rfl)).trans e12
            have hc := KFS.out w' hG
            generalize frame tbT a0 us = fr at *
            exact val_ok (v := .int .u8 fS) (w' := w') (by go_simp) hG (Below.refl _ _) rfl
          · refine step_guard [9, 11, 13] (by kernel_rfl) (j := 9) (t := 112) (b := true) rfl (by simp) rfl hl rfl (fun v w h => h) fun us w' hG hV => ?_
            have e11 : us 11 = .int .u8 fT := hV 11 (by simp)
            have v11 := (frame_at2 (us := us) hl (show (tbT[114]?).join = some 11 from rfl)).trans e11
            have e13 : us 13 = .int .u8 fS := hV 13 (by simp)
            have v13 := (frame_at2 (us := us) hl (show (tbT[116]?).join = some 13 from rfl)).trans e13
            have hfl := FL.out
            generalize frame tbT a0 us = fr at *
            exact val_ok (v := .int .u8 0) (w' := w') (by go_simp) hG (Below.refl _ _) rfl
          · refine step_guard [9, 14] (by kernel_rfl) (j := 9) (t := 112) (b := true) rfl (by simp) rfl hl rfl (fun v w h => h) fun us w' hG hV => ?_
            have e14 : us 14 = .int .u8 0 := hV 14 (by simp)
            have v14 := (frame_at2 (us := us) hl (show (tbT[117]?).join = some 14 from rfl)).trans e14
            generalize frame tbT a0 us = fr at *
            exact val_ok (v := .bool true) (w' := w') (by go_simp) hG (Below.refl _ _) rfl
          · refine step_plain [9, 15] (by kernel_rfl) rfl fun us w' hG hV => ?_
            have e9 : us 9 = .bool true := hV 9 (by simp)
            have v9 := (frame_at2 (us := us) hl (show (tbT[112]?).join = some 9 from rfl)).trans e9
            have e15 : us 15 = .bool true := hV 15 (by simp)
            have v15 := (frame_at2 (us := us) hl (show (tbT[118]?).join = some 15 from rfl)).trans e15
            generalize frame tbT a0 us = fr at *
            exact val_ok (v := .bool true) (w' := w') (by go_simp) hG (Below.refl _ _) rfl
          · refine step_plain [16] (by kernel_rfl) rfl fun us w' hG hV => ?_
            have e16 : us 16 = .bool true := hV 16 (by simp)
            have v16 := (frame_at2 (us := us) hl (show (tbT[119]?).join = some 16 from rfl)).trans e16
            generalize frame tbT a0 us = fr at *
            exact val_ok (v := .bool true) (w' := w') (by go_simp) hG (Below.refl _ _) rfl
          · refine step_guard [17] (by kernel_rfl) (j := 17) (t := 120) (b := true) rfl (by simp) rfl hl rfl (fun v w h => h) fun us w' hG hV => ?_
            generalize frame tbT a0 us = fr at *
            exact call_ok (f := 10) (args := #[]) (by go_simp) ((AL.out w' hG).mono fun e w'' h => ⟨_, h.1, hG.below h.2, h.2, rfl⟩)
          · refine step_plain [17, 18] (by kernel_rfl) rfl fun us w' hG hV => ?_
            have e17 : us 17 = .bool true := hV 17 (by simp)
            have v17 := (frame_at2 (us := us) hl (show (tbT[120]?).join = some 17 from rfl)).trans e17
            have e18 : us 18 = .bool true := hV 18 (by simp)
            have v18 := (frame_at2 (us := us) hl (show (tbT[121]?).join = some 18 from rfl)).trans e18
            generalize frame tbT a0 us = fr at *
            exact val_ok (v := .bool true) (w' := w') (by go_simp) hG (Below.refl _ _) rfl
          · refine step_plain [19] (by kernel_rfl) rfl fun us w' hG hV => ?_
            have e19 : us 19 = .bool true := hV 19 (by simp)
            have v19 := (frame_at2 (us := us) hl (show (tbT[122]?).join = some 19 from rfl)).trans e19
            generalize frame tbT a0 us = fr at *
            exact val_ok (v := .bool true) (w' := w') (by go_simp) hG (Below.refl _ _) rfl
          · intro us w5 hG hV
            have e20 : us 20 = .bool true := hV 20 (by decide)
            subst ha0
            simp only [frame, tbT, fill]
            rw [e20]
            have HG5 := Lib.hid hG
            clear hV hl hG k1 k2 k3 k8 k10 e20
            go_wp2_with fail
            go_ret
            exact ⟨rfl, (HBV.out.trans (HBR.out.mono HBV.out.size)).trans (Below.mono HG5.out (Nat.le_trans HBV.out.size HBR.out.size))⟩
  · have n0b : decide (0 < N) = false := decide_eq_false n0
    have n0c : N ≤ 0 := by omega
    go_upto_region 8 with (first
      | go_skip
      | (refine wpList_load_rowG (by kernel_rfl) 34 (.tmp 3) rfl (w.heap.size) (by kernel_rfl) _ _ _ _ R_w6.out Tryd.underlying34 rfl IC.out ?_)
      | (go_at_call 15; (refine (LS.out _).mono ?_); rintro e w7 ⟨rfl, BB⟩
         have HB_w7 := Lib.hid (HB_w6.out.trans (BB.mono HB_w6.out.size))
         have R_w7 := Lib.hid ((BB.block _ (opC.lt_of_row R_w6.out)).trans R_w6.out)
         have X_w7 := Lib.hid ((BB.block _ (opC.lt_of_row X_w6.out)).trans X_w6.out)
         have P7 := Lib.hid ((P6.out.below BB).more BB.size)
         have X7 := Lib.hid ((X6.out.below BB).more BB.size)
         clear BB))
    clear n0b n0c
    clear P6 X6 R_w6 X_w6 HB_w6 kt2 LS LT IN1 IN2
    have HBV := Lib.hid HB_w7.out
    generalize w7 = V at *
    have kt31 := KT31.out V X_w7.out
    go_wp2_with fail
    clear kt31
    go_loopw [10, 11] (fun v10 v11 wr => ∃ (i : Nat) (fnd : Bool), v10 = .bool fnd ∧ v11 = .int .i64 i ∧ (fnd = false → i ≤ lo ∧ 0 < m4) ∧ i ≤ lo + 1 ∧ Below V.heap.size V wr) (fun _ v11 _ => lo + 1 - (intOf v11).toNat)
    case atStart => exact ⟨0, _, rfl, rfl, fun h => ⟨Nat.zero_le _, by simp at h; omega⟩, Nat.zero_le _, Below.refl _ _⟩
    case round =>
      obtain ⟨i, fnd, rfl, rfl, hfd, hi1, hbr⟩ := hrel
      have HBR := Lib.hid hbr
      have RS := Lib.hid ((hbr.block _ (opC.lt_of_row R_w7.out)).trans R_w7.out)
      have XS := Lib.hid ((hbr.block _ (opC.lt_of_row X_w7.out)).trans X_w7.out)
      have ks := KD.out wr RS.out
      have kt := KT31.out wr XS.out
      have PW := Lib.hid ((P7.out.below hbr).more hbr.size)
      have XW := Lib.hid ((X7.out.below hbr).more hbr.size)
      have XSW := Lib.hid (XS0.out wr (HBV.out.trans (hbr.mono HBV.out.size)))
      have hp2 := HP2.out
      have hp3 := HP3.out
      have hkm := HKM.out
      have hm9 := HM9.out
      have wI : IntKind.i64.wrap ((i : Int) + (m4 : Int)) = (i : Int) + (m4 : Int) := IntWalk.i64_in _ (by omega)
      clear hbr
      cases fnd
      · obtain ⟨hi, hm0⟩ := hfd rfl
        have le : (i : Int) + (m4 : Int) ≤ (m : Int) := by omega
        have leb : decide ((i : Int) + (m4 : Int) ≤ (m : Int)) = true := decide_eq_true le
        have HI := Lib.hid hi
        have WI1 := Lib.hid (show wrap64 ((i : Int) + 1) = ((i + 1 : Nat) : Int) by rw [IntWalk.wrap64_in _ (by omega)]; omega)
        obtain ⟨B2, hB2⟩ : ∃ q, q = (if d = i then B else B.map (·.add i)) := ⟨_, rfl⟩
        obtain ⟨d2, hd2⟩ : ∃ q, q = d - i := ⟨_, rfl⟩
        have hmd := HMD.out
        have SC := Lib.hid (fun w' => (show (Instr.slice 32 (.slice B m d) (some (.int .i64 (i : Int))) (some (.int .i64 ((i : Int) + (m4 : Int)))) none).run Tryd.prog w' = .ok (.slice B2 m4 d2) w' by
          have h9 := pkC.cut_two B m d i (i + m4) (by omega) (by omega) w'
          rw [← hB2, ← hd2, show i + m4 - i = m4 by omega, show ((i + m4 : Nat) : Int) = (i : Int) + (m4 : Int) by omega] at h9
          exact h9))
        obtain ⟨YS, hYS⟩ : ∃ q, q = (xs.take (i + m4)).drop i := ⟨_, rfl⟩
        have N2 := Lib.hid (show Nums .u8 wr wr.heap.size B2 m4 YS by
          have h9 := nums_cut XSW.out (lo := i) (hi := i + m4) (by omega) (by omega) hmd
          rw [← hB2, ← hYS, show i + m4 - i = m4 by omega] at h9
          exact h9)
        obtain ⟨S1, hS1⟩ : ∃ S, S = strOfNums YS := ⟨_, rfl⟩
        obtain ⟨ST, hST⟩ : ∃ S, S = strOfNums XT := ⟨_, rfl⟩
        have CV1 := Lib.hid (fun w' (h : Gr wr w') => (show (convert 32 9 (.slice B2 m4 d2)).run Tryd.prog w' = .ok (.string S1) w' by rw [hS1]; exact run_string (N2.out.below h) d2 32 5 9 Tryd.underlying32 Tryd.underlying5 Tryd.underlying9))
        have CV2 := Lib.hid (fun w' (h : Gr wr w') => (show (convert 32 9 (.slice B4 m4 d4)).run Tryd.prog w' = .ok (.string ST) w' by rw [hST]; exact run_string (XW.out.below h) d4 32 5 9 Tryd.underlying32 Tryd.underlying5 Tryd.underlying9))
        obtain ⟨e, he⟩ : ∃ e, e = (S1.toList == ST.toList) := ⟨_, rfl⟩
        have EQ := Lib.hid he.symm
        have HE := Lib.hid (show e = false → i + 1 ≤ lo ∧ 0 < m4 from fun h => ⟨by
          rcases Nat.lt_or_ge i lo with h1 | h1
          · exact h1
          · obtain rfl : i = lo := by omega
            have e1 : YS = XT := by rw [hYS, HP1.out, List.drop_take, show i + m4 - i = m4 by omega]
            rw [he, hS1, hST, e1] at h
            simp at h, hm0⟩)
        have KDS := Lib.hid (fun (w' : World) (h : Gr wr w') => KD.out w' ((Below.block h _ (opC.lt_of_row RS.out)).trans RS.out))
        have KDT := Lib.hid (fun (w' : World) (h : Gr wr w') => KT31.out w' ((Below.block h _ (opC.lt_of_row XS.out)).trans XS.out))
        have WI := Lib.hid wI
        clear hB2 hd2 hYS hS1 hST he hfd hi hm0 hp2 hp3 hkm hm9 hi1 hmd N2 XSW
        go_upto_region 12 with fail
        clear ks kt wI le leb
        refine with_act fun a0 ha0 => ?_
        have hl : taT.length = a0.tmps.size := by rw [ha0]; rfl
        have k3 : a0.tmps[3]?.getD undef = .pointer (some ⟨(w.heap.size), 0, none⟩) := by rw [ha0]; rfl
        have k8 : a0.tmps[8]?.getD undef = .pointer (some ⟨gt, 0, none⟩) := by rw [ha0]; rfl
        have k11 : a0.tmps[11]?.getD undef = .int .i64 i := by rw [ha0]; rfl
        refine wp_region_vals (by kernel_rfl) taT (by kernel_rfl) (by kernel_rfl) hl (fun i => ([u89, u90, u91, u92, u93, u94, u95, u96, u97, u98, u99, u100, u101, u102, .bool false] : List Value).getD i undef) (by rw [ha0]; rfl) (Gr wr) (taV (w.heap.size) gt B B4 m d m4 d4 i B2 d2 S1 ST e) (gr_drewG _ _) (taV.keep _ _ _ _ _ _ _ _ _ _ _ _ _ _) ⟨?_, ?_, ?_, ?_, ?_, ?_, ?_, ?_, ?_, ?_, ?_, ?_, ?_, ?_, ?_, trivial⟩ ?_
        · refine step_plain [] (by kernel_rfl) rfl fun us w' hG hV => ?_
          have o3 := (frame_old2 (us := us) (a := a0) (show (taT[3]?).join = none from rfl)).trans k3
          generalize frame taT a0 us = fr at *
          exact val_ok (v := .pointer (some ⟨(w.heap.size), 31, none⟩)) (w' := w') (by go_simp) hG (Below.refl _ _) rfl
        · refine step_plain [0] (by kernel_rfl) rfl fun us w' hG hV => ?_
          have e0 : us 0 = .pointer (some ⟨(w.heap.size), 31, none⟩) := hV 0 (by simp)
          have v0 := (frame_at2 (us := us) hl (show (taT[89]?).join = some 0 from rfl)).trans e0
          have hc := KDS.out w' hG
          generalize frame taT a0 us = fr at *
          exact val_ok (v := .slice B m d) (w' := w') (by go_simp) hG (Below.refl _ _) rfl
        · refine step_plain [] (by kernel_rfl) rfl fun us w' hG hV => ?_
          have o11 := (frame_old2 (us := us) (a := a0) (show (taT[11]?).join = none from rfl)).trans k11
          generalize frame taT a0 us = fr at *
          exact val_ok (v := .int .i64 i) (w' := w') (by go_simp) hG (Below.refl _ _) rfl
        · refine step_plain [] (by kernel_rfl) rfl fun us w' hG hV => ?_
          have o11 := (frame_old2 (us := us) (a := a0) (show (taT[11]?).join = none from rfl)).trans k11
          generalize frame taT a0 us = fr at *
          exact val_ok (v := .int .i64 i) (w' := w') (by go_simp) hG (Below.refl _ _) rfl
        · refine step_plain [] (by kernel_rfl) rfl fun us w' hG hV => ?_
          have o8 := (frame_old2 (us := us) (a := a0) (show (taT[8]?).join = none from rfl)).trans k8
          generalize frame taT a0 us = fr at *
          exact val_ok (v := .pointer (some ⟨gt, 31, none⟩)) (w' := w') (by go_simp) hG (Below.refl _ _) rfl
        · refine step_plain [4] (by kernel_rfl) rfl fun us w' hG hV => ?_
          have e4 : us 4 = .pointer (some ⟨gt, 31, none⟩) := hV 4 (by simp)
          have v4 := (frame_at2 (us := us) hl (show (taT[93]?).join = some 4 from rfl)).trans e4
          have hc := KDT.out w' hG
          generalize frame taT a0 us = fr at *
          exact val_ok (v := .slice B4 m4 d4) (w' := w') (by go_simp) hG (Below.refl _ _) rfl
        · refine step_plain [5] (by kernel_rfl) rfl fun us w' hG hV => ?_
          have e5 : us 5 = .slice B4 m4 d4 := hV 5 (by simp)
          have v5 := (frame_at2 (us := us) hl (show (taT[94]?).join = some 5 from rfl)).trans e5
          generalize frame taT a0 us = fr at *
          exact val_ok (v := .int .i64 m4) (w' := w') (by go_simp) hG (Below.refl _ _) rfl
        · refine step_plain [3, 6] (by kernel_rfl) rfl fun us w' hG hV => ?_
          have e3 : us 3 = .int .i64 i := hV 3 (by simp)
          have v3 := (frame_at2 (us := us) hl (show (taT[92]?).join = some 3 from rfl)).trans e3
          have e6 : us 6 = .int .i64 m4 := hV 6 (by simp)
          have v6 := (frame_at2 (us := us) hl (show (taT[95]?).join = some 6 from rfl)).trans e6
          have hw := WI.out
          generalize frame taT a0 us = fr at *
          exact val_ok (v := .int .i64 ((i : Int) + (m4 : Int))) (w' := w') (by go_simp) hG (Below.refl _ _) rfl
        · refine step_plain [1, 2, 7] (by kernel_rfl) rfl fun us w' hG hV => ?_
          have e1 : us 1 = .slice B m d := hV 1 (by simp)
          have v1 := (frame_at2 (us := us) hl (show (taT[90]?).join = some 1 from rfl)).trans e1
          have e2 : us 2 = .int .i64 i := hV 2 (by simp)
          have v2 := (frame_at2 (us := us) hl (show (taT[91]?).join = some 2 from rfl)).trans e2
          have e7 : us 7 = .int .i64 ((i : Int) + (m4 : Int)) := hV 7 (by simp)
          have v7 := (frame_at2 (us := us) hl (show (taT[96]?).join = some 7 from rfl)).trans e7
          have hsc := SC.out w'
          generalize frame taT a0 us = fr at *
          exact val_ok (v := .slice B2 m4 d2) (w' := w') (by go_simp) hG (Below.refl _ _) rfl
        · refine step_plain [8] (by kernel_rfl) rfl fun us w' hG hV => ?_
          have e8 : us 8 = .slice B2 m4 d2 := hV 8 (by simp)
          have v8 := (frame_at2 (us := us) hl (show (taT[97]?).join = some 8 from rfl)).trans e8
          have hcv := CV1.out w' hG
          generalize frame taT a0 us = fr at *
          exact val_ok (v := .string S1) (w' := w') (by go_simp) hG (Below.refl _ _) rfl
        · refine step_plain [] (by kernel_rfl) rfl fun us w' hG hV => ?_
          have o8 := (frame_old2 (us := us) (a := a0) (show (taT[8]?).join = none from rfl)).trans k8
          generalize frame taT a0 us = fr at *
          exact val_ok (v := .pointer (some ⟨gt, 31, none⟩)) (w' := w') (by go_simp) hG (Below.refl _ _) rfl
        · refine step_plain [10] (by kernel_rfl) rfl fun us w' hG hV => ?_
          have e10 : us 10 = .pointer (some ⟨gt, 31, none⟩) := hV 10 (by simp)
          have v10 := (frame_at2 (us := us) hl (show (taT[99]?).join = some 10 from rfl)).trans e10
          have hc := KDT.out w' hG
          generalize frame taT a0 us = fr at *
          exact val_ok (v := .slice B4 m4 d4) (w' := w') (by go_simp) hG (Below.refl _ _) rfl
        · refine step_plain [11] (by kernel_rfl) rfl fun us w' hG hV => ?_
          have e11 : us 11 = .slice B4 m4 d4 := hV 11 (by simp)
          have v11 := (frame_at2 (us := us) hl (show (taT[100]?).join = some 11 from rfl)).trans e11
          have hcv := CV2.out w' hG
          generalize frame taT a0 us = fr at *
          exact val_ok (v := .string ST) (w' := w') (by go_simp) hG (Below.refl _ _) rfl
        · refine step_plain [9, 12] (by kernel_rfl) rfl fun us w' hG hV => ?_
          have e9 : us 9 = .string S1 := hV 9 (by simp)
          have v9 := (frame_at2 (us := us) hl (show (taT[98]?).join = some 9 from rfl)).trans e9
          have e12 : us 12 = .string ST := hV 12 (by simp)
          have v12 := (frame_at2 (us := us) hl (show (taT[101]?).join = some 12 from rfl)).trans e12
          generalize frame taT a0 us = fr at *
          exact val_ok (v := .bool e) (w' := w') (seq_run rfl (by simpa only [Act.eval, Array.getD_eq_getD_getElem?] using v9) (by simpa only [Act.eval, Array.getD_eq_getD_getElem?] using v12) EQ.out) hG (Below.refl _ _) rfl
        · refine step_plain [13] (by kernel_rfl) rfl fun us w' hG hV => ?_
          have e13 : us 13 = .bool e := hV 13 (by simp)
          have v13 := (frame_at2 (us := us) hl (show (taT[102]?).join = some 13 from rfl)).trans e13
          generalize frame taT a0 us = fr at *
          exact val_ok (v := .bool e) (w' := w') (by go_simp) hG (Below.refl _ _) rfl
        · intro us w5 hG hV
          have e14 : us 14 = .bool e := hV 14 (by decide)
          subst ha0
          simp only [frame, taT, fill]
          rw [e14]
          have HG5 := Lib.hid hG
          clear hV hl hG k3 k8 k11 e14 KDS KDT SC CV1 CV2 EQ WI
          go_wp2_with fail
          rw [show wrap64 ((i : Int) + 1) = ((i + 1 : Nat) : Int) from WI1.out]
          exact ⟨⟨i + 1, e, rfl, rfl, HE.out, by have := HI.out; omega, HBR.out.trans (Below.mono HG5.out HBR.out.size)⟩, by simp only [intOf]; have := HI.out; omega⟩
      · by_cases le : (i : Int) + (m4 : Int) ≤ (m : Int)
        · have leb : decide ((i : Int) + (m4 : Int) ≤ (m : Int)) = true := decide_eq_true le
          have HT := Lib.hid (fun (w' : World) (h : Gr wr w') => (show Below w.heap.size w w' from (HBV.out.trans (HBR.out.mono HBV.out.size)).trans (Below.mono h (Nat.le_trans HBV.out.size HBR.out.size))))
          have KX := Lib.hid (fun (w' : World) (h : Gr wr w') => (Below.block h _ (opC.lt_of_row XS.out)).trans XS.out)
          have KFT := Lib.hid (fun (w' : World) (h : Gr wr w') => KT4.out w' (KX.out w' h))
          have KFS := Lib.hid (fun (w' : World) (h : Gr wr w') => KFS0.out w' ((Below.block h _ (opC.lt_of_row RS.out)).trans RS.out))
          have PX := Lib.hid (fun (w' : World) (h : Gr wr w') => (show Prs w' w'.heap.size A4 n s.op.sk by rw [← HST.out]; exact (PW.out.below h).more (Below.size h)))
          have NX := Lib.hid (fun (w' : World) (h : Gr wr w') => (XW.out.below h).more (Below.size h))
          have TC := Lib.hid (fun (w' : World) (h : Gr wr w') => TC5.out w' (HT.out w' h) (PX.out w' h) (NX.out w' h))
          unfold PtR at TC
          rw [HST.out] at TC
          have SM := Lib.hid (fun (A' : Option Addr) (c' : Nat) (B' : Option Addr) (m' d' : Nat) (w' : World) (h : Gr wr w') (P : Prs w' w'.heap.size A' n s.op.sk) (X : Nums .u8 w' w'.heap.size B' m' XT) => SM5.out A' c' B' m' d' w' P X (PX.out w' h) (NX.out w' h))
          have AL := Lib.hid (fun (w' : World) (h : Gr wr w') => AL0.out w' (HT.out w' h))
          have IX := IY
          obtain ⟨sk, hsk⟩ : ∃ q, q = s.op.sk := ⟨_, rfl⟩
          rw [← hsk] at TC SM
          obtain ⟨fT, hfT⟩ : ∃ q, q = sT.fl := ⟨_, rfl⟩
          obtain ⟨fS, hfS⟩ : ∃ q, q = s.fl := ⟨_, rfl⟩
          rw [← hfT, ← hfS] at FL
          rw [← hfT] at KFT
          rw [← hfS] at KFS
          clear hfT hfS hsk hfd hp2 hp3 hkm hm9 hi1 TC5 SM5 HST HYT HOK
          go_upto_region 13 with fail
          clear ks kt wI le leb
          refine with_act fun a0 ha0 => ?_
          have hl : tbT.length = a0.tmps.size := by rw [ha0]; rfl
          have k1 : a0.tmps[1]?.getD undef = .int .u32 g := by rw [ha0]; rfl
          have k2 : a0.tmps[2]?.getD undef = .int .u32 z := by rw [ha0]; rfl
          have k3 : a0.tmps[3]?.getD undef = .pointer (some ⟨(w.heap.size), 0, none⟩) := by rw [ha0]; rfl
          have k8 : a0.tmps[8]?.getD undef = .pointer (some ⟨gt, 0, none⟩) := by rw [ha0]; rfl
          have k10 : a0.tmps[10]?.getD undef = .bool true := by rw [ha0]; rfl
          refine wp_region_vals (by kernel_rfl) tbT (by kernel_rfl) (by kernel_rfl) hl (fun i => if i = 20 then .bool false else undef) (by rw [ha0]; rfl) (Gr wr) (tbV (w.heap.size) gt CX g z fT fS sT n sk XT (wr.heap.size)) (gr_drewG _ _) (tbV.keep _ _ _ _ _ _ _ _ _ _ _ _) ⟨?_, ?_, ?_, ?_, ?_, ?_, ?_, ?_, ?_, ?_, ?_, ?_, ?_, ?_, ?_, ?_, ?_, ?_, ?_, ?_, ?_, trivial⟩ ?_
          · refine step_plain [] (by kernel_rfl) rfl fun us w' hG hV => ?_
            have o10 := (frame_old2 (us := us) (a := a0) (show (tbT[10]?).join = none from rfl)).trans k10
            generalize frame tbT a0 us = fr at *
            exact val_ok (v := .bool true) (w' := w') (by go_simp) hG (Below.refl _ _) rfl
          · refine step_plain [0] (by kernel_rfl) rfl fun us w' hG hV => ?_
            have e0 : us 0 = .bool true := hV 0 (by simp)
            have v0 := (frame_at2 (us := us) hl (show (tbT[103]?).join = some 0 from rfl)).trans e0
            generalize frame tbT a0 us = fr at *
            exact val_ok (v := .bool true) (w' := w') (by go_simp) hG (Below.refl _ _) rfl
          · refine step_guard [1] (by kernel_rfl) (j := 1) (t := 104) (b := true) rfl (by simp) rfl hl rfl (fun v w h => h) fun us w' hG hV => ?_
            have o8 := (frame_old2 (us := us) (a := a0) (show (tbT[8]?).join = none from rfl)).trans k8
            have hg1 := (KX.out w' hG)
            generalize frame tbT a0 us = fr at *
            exact load_ok 34 8 rfl (gt) o8 _ _ (0, 0) _ hg1 Tryd.underlying34 rfl IX.out hG rfl
          · refine step_guard [1] (by kernel_rfl) (j := 1) (t := 104) (b := true) rfl (by simp) rfl hl rfl (fun v w h => h) fun us w' hG hV => ?_
            have o1 := (frame_old2 (us := us) (a := a0) (show (tbT[1]?).join = none from rfl)).trans k1
            generalize frame tbT a0 us = fr at *
            exact val_ok (v := .int .u32 g) (w' := w') (by go_simp) hG (Below.refl _ _) rfl
          · refine step_guard [1] (by kernel_rfl) (j := 1) (t := 104) (b := true) rfl (by simp) rfl hl rfl (fun v w h => h) fun us w' hG hV => ?_
            have o2 := (frame_old2 (us := us) (a := a0) (show (tbT[2]?).join = none from rfl)).trans k2
            generalize frame tbT a0 us = fr at *
            exact val_ok (v := .int .u32 z) (w' := w') (by go_simp) hG (Below.refl _ _) rfl
          · refine step_guard [1, 2, 3, 4] (by kernel_rfl) (j := 1) (t := 104) (b := true) rfl (by simp) rfl hl rfl (fun v w h => h) fun us w' hG hV => ?_
            have e2 : us 2 = .agg CX := hV 2 (by simp)
            have v2 := (frame_at2 (us := us) hl (show (tbT[105]?).join = some 2 from rfl)).trans e2
            have e3 : us 3 = .int .u32 g := hV 3 (by simp)
            have v3 := (frame_at2 (us := us) hl (show (tbT[106]?).join = some 3 from rfl)).trans e3
            have e4 : us 4 = .int .u32 z := hV 4 (by simp)
            have v4 := (frame_at2 (us := us) hl (show (tbT[107]?).join = some 4 from rfl)).trans e4
            generalize frame tbT a0 us = fr at *
            exact call_ok (f := 25) (args := #[.agg CX, .int .u32 g, .int .u32 z]) (by go_simp) ((TC.out w' hG).mono fun e w'' ⟨A', c', B', m', d', p', h1, h2, h3, h4, h5, h6⟩ => ⟨_, h1, hG.below h6, h6, A', c', B', m', d', p', rfl, h3.less hG.size, h4.less hG.size⟩)
          · refine step_guard [1] (by kernel_rfl) (j := 1) (t := 104) (b := true) rfl (by simp) rfl hl rfl (fun v w h => h) fun us w' hG hV => ?_
            have o8 := (frame_old2 (us := us) (a := a0) (show (tbT[8]?).join = none from rfl)).trans k8
            have hg1 := (KX.out w' hG)
            generalize frame tbT a0 us = fr at *
            exact load_ok 34 8 rfl (gt) o8 _ _ (0, 0) _ hg1 Tryd.underlying34 rfl IX.out hG rfl
          · refine step_guard [1, 5, 6] (by kernel_rfl) (j := 1) (t := 104) (b := true) rfl (by simp) rfl hl rfl (fun v w h => h) fun us w' hG hV => ?_
            obtain ⟨A5, c5, B5, m5, d5, p5, e5, q5, x5⟩ := (show ∃ A' c' B' m' d' p', us 5 = .agg (segV sT A' n c' B' m' d') ∧ OwnP w' (wr.heap.size) (.slice A' n c') sk ∧ Own .u8 5 w' (wr.heap.size) (.slice B' m' p') XT from hV 5 (by simp))
            have v5 := (frame_at2 (us := us) hl (show (tbT[108]?).join = some 5 from rfl)).trans e5
            have e6 : us 6 = .agg CX := hV 6 (by simp)
            have v6 := (frame_at2 (us := us) hl (show (tbT[109]?).join = some 6 from rfl)).trans e6
            generalize frame tbT a0 us = fr at *
            exact call_ok (f := 17) (args := #[.agg (segV sT A5 n c5 B5 m5 d5), .agg CX]) (by go_simp) ((SM.out A5 c5 B5 m5 d5 w' hG q5.prs x5.nums).mono fun e w'' h => ⟨_, h.1, hG.below h.2, h.2, rfl⟩)
          · refine step_plain [1, 7] (by kernel_rfl) rfl fun us w' hG hV => ?_
            have e1 : us 1 = .bool true := hV 1 (by simp)
            have v1 := (frame_at2 (us := us) hl (show (tbT[104]?).join = some 1 from rfl)).trans e1
            have e7 : us 7 = .bool true := hV 7 (by simp)
            have v7 := (frame_at2 (us := us) hl (show (tbT[110]?).join = some 7 from rfl)).trans e7
            generalize frame tbT a0 us = fr at *
            exact val_ok (v := .bool true) (w' := w') (by go_simp) hG (Below.refl _ _) rfl
          · refine step_plain [8] (by kernel_rfl) rfl fun us w' hG hV => ?_
            have e8 : us 8 = .bool true := hV 8 (by simp)
            have v8 := (frame_at2 (us := us) hl (show (tbT[111]?).join = some 8 from rfl)).trans e8
            generalize frame tbT a0 us = fr at *
            exact val_ok (v := .bool true) (w' := w') (by go_simp) hG (Below.refl _ _) rfl
          · refine step_guard [9] (by kernel_rfl) (j := 9) (t := 112) (b := true) rfl (by simp) rfl hl rfl (fun v w h => h) fun us w' hG hV => ?_
            have o8 := (frame_old2 (us := us) (a := a0) (show (tbT[8]?).join = none from rfl)).trans k8
            generalize frame tbT a0 us = fr at *
            exact val_ok (v := .pointer (some ⟨gt, 4, none⟩)) (w' := w') (by go_simp) hG (Below.refl _ _) rfl
          · refine step_guard [9, 10] (by kernel_rfl) (j := 9) (t := 112) (b := true) rfl (by simp) rfl hl rfl (fun v w h => h) fun us w' hG hV => ?_
            have e10 : us 10 = .pointer (some ⟨gt, 4, none⟩) := hV 10 (by simp)
            have v10 := (frame_at2 (us := us) hl (show (tbT[113]?).join = some 10 from rfl)).trans e10
            have hc := KFT.out w' hG
            generalize frame tbT a0 us = fr at *
            exact val_ok (v := .int .u8 fT) (w' := w') (by go_simp) hG (Below.refl _ _) rfl
          · refine step_guard [9] (by kernel_rfl) (j := 9) (t := 112) (b := true) rfl (by simp) rfl hl rfl (fun v w h => h) fun us w' hG hV => ?_
            have o3 := (frame_old2 (us := us) (a := a0) (show (tbT[3]?).join = none from rfl)).trans k3
            generalize frame tbT a0 us = fr at *
            exact val_ok (v := .pointer (some ⟨(w.heap.size), 4, none⟩)) (w' := w') (by go_simp) hG (Below.refl _ _) rfl
          · refine step_guard [9, 12] (by kernel_rfl) (j := 9) (t := 112) (b := true) rfl (by simp) rfl hl rfl (fun v w h => h) fun us w' hG hV => ?_
            have e12 : us 12 = .pointer (some ⟨(w.heap.size), 4, none⟩) := hV 12 (by simp)
            have v12 := (frame_at2 (us := us) hl (show (tbT[115]?).join = some 12 from rfl)).trans e12
            have hc := KFS.out w' hG
            generalize frame tbT a0 us = fr at *
            exact val_ok (v := .int .u8 fS) (w' := w') (by go_simp) hG (Below.refl _ _) rfl
          · refine step_guard [9, 11, 13] (by kernel_rfl) (j := 9) (t := 112) (b := true) rfl (by simp) rfl hl rfl (fun v w h => h) fun us w' hG hV => ?_
            have e11 : us 11 = .int .u8 fT := hV 11 (by simp)
            have v11 := (frame_at2 (us := us) hl (show (tbT[114]?).join = some 11 from rfl)).trans e11
            have e13 : us 13 = .int .u8 fS := hV 13 (by simp)
            have v13 := (frame_at2 (us := us) hl (show (tbT[116]?).join = some 13 from rfl)).trans e13
            have hfl := FL.out
            generalize frame tbT a0 us = fr at *
            exact val_ok (v := .int .u8 0) (w' := w') (by go_simp) hG (Below.refl _ _) rfl
          · refine step_guard [9, 14] (by kernel_rfl) (j := 9) (t := 112) (b := true) rfl (by simp) rfl hl rfl (fun v w h => h) fun us w' hG hV => ?_
            have e14 : us 14 = .int .u8 0 := hV 14 (by simp)
            have v14 := (frame_at2 (us := us) hl (show (tbT[117]?).join = some 14 from rfl)).trans e14
            generalize frame tbT a0 us = fr at *
            exact val_ok (v := .bool true) (w' := w') (by go_simp) hG (Below.refl _ _) rfl
          · refine step_plain [9, 15] (by kernel_rfl) rfl fun us w' hG hV => ?_
            have e9 : us 9 = .bool true := hV 9 (by simp)
            have v9 := (frame_at2 (us := us) hl (show (tbT[112]?).join = some 9 from rfl)).trans e9
            have e15 : us 15 = .bool true := hV 15 (by simp)
            have v15 := (frame_at2 (us := us) hl (show (tbT[118]?).join = some 15 from rfl)).trans e15
            generalize frame tbT a0 us = fr at *
            exact val_ok (v := .bool true) (w' := w') (by go_simp) hG (Below.refl _ _) rfl
          · refine step_plain [16] (by kernel_rfl) rfl fun us w' hG hV => ?_
            have e16 : us 16 = .bool true := hV 16 (by simp)
            have v16 := (frame_at2 (us := us) hl (show (tbT[119]?).join = some 16 from rfl)).trans e16
            generalize frame tbT a0 us = fr at *
            exact val_ok (v := .bool true) (w' := w') (by go_simp) hG (Below.refl _ _) rfl
          · refine step_guard [17] (by kernel_rfl) (j := 17) (t := 120) (b := true) rfl (by simp) rfl hl rfl (fun v w h => h) fun us w' hG hV => ?_
            generalize frame tbT a0 us = fr at *
            exact call_ok (f := 10) (args := #[]) (by go_simp) ((AL.out w' hG).mono fun e w'' h => ⟨_, h.1, hG.below h.2, h.2, rfl⟩)
          · refine step_plain [17, 18] (by kernel_rfl) rfl fun us w' hG hV => ?_
            have e17 : us 17 = .bool true := hV 17 (by simp)
            have v17 := (frame_at2 (us := us) hl (show (tbT[120]?).join = some 17 from rfl)).trans e17
            have e18 : us 18 = .bool true := hV 18 (by simp)
            have v18 := (frame_at2 (us := us) hl (show (tbT[121]?).join = some 18 from rfl)).trans e18
            generalize frame tbT a0 us = fr at *
            exact val_ok (v := .bool true) (w' := w') (by go_simp) hG (Below.refl _ _) rfl
          · refine step_plain [19] (by kernel_rfl) rfl fun us w' hG hV => ?_
            have e19 : us 19 = .bool true := hV 19 (by simp)
            have v19 := (frame_at2 (us := us) hl (show (tbT[122]?).join = some 19 from rfl)).trans e19
            generalize frame tbT a0 us = fr at *
            exact val_ok (v := .bool true) (w' := w') (by go_simp) hG (Below.refl _ _) rfl
          · intro us w5 hG hV
            have e20 : us 20 = .bool true := hV 20 (by decide)
            subst ha0
            simp only [frame, tbT, fill]
            rw [e20]
            have HG5 := Lib.hid hG
            clear hV hl hG k1 k2 k3 k8 k10 e20
            go_wp2_with fail
            go_ret
            exact ⟨rfl, (HBV.out.trans (HBR.out.mono HBV.out.size)).trans (Below.mono HG5.out (Nat.le_trans HBV.out.size HBR.out.size))⟩
        · have leb : decide ((i : Int) + (m4 : Int) ≤ (m : Int)) = false := decide_eq_false le
          have le' : (m : Int) < (i : Int) + (m4 : Int) := by omega
          have HT := Lib.hid (fun (w' : World) (h : Gr wr w') => (show Below w.heap.size w w' from (HBV.out.trans (HBR.out.mono HBV.out.size)).trans (Below.mono h (Nat.le_trans HBV.out.size HBR.out.size))))
          have KX := Lib.hid (fun (w' : World) (h : Gr wr w') => (Below.block h _ (opC.lt_of_row XS.out)).trans XS.out)
          have KFT := Lib.hid (fun (w' : World) (h : Gr wr w') => KT4.out w' (KX.out w' h))
          have KFS := Lib.hid (fun (w' : World) (h : Gr wr w') => KFS0.out w' ((Below.block h _ (opC.lt_of_row RS.out)).trans RS.out))
          have PX := Lib.hid (fun (w' : World) (h : Gr wr w') => (show Prs w' w'.heap.size A4 n s.op.sk by rw [← HST.out]; exact (PW.out.below h).more (Below.size h)))
          have NX := Lib.hid (fun (w' : World) (h : Gr wr w') => (XW.out.below h).more (Below.size h))
          have TC := Lib.hid (fun (w' : World) (h : Gr wr w') => TC5.out w' (HT.out w' h) (PX.out w' h) (NX.out w' h))
          unfold PtR at TC
          rw [HST.out] at TC
          have SM := Lib.hid (fun (A' : Option Addr) (c' : Nat) (B' : Option Addr) (m' d' : Nat) (w' : World) (h : Gr wr w') (P : Prs w' w'.heap.size A' n s.op.sk) (X : Nums .u8 w' w'.heap.size B' m' XT) => SM5.out A' c' B' m' d' w' P X (PX.out w' h) (NX.out w' h))
          have AL := Lib.hid (fun (w' : World) (h : Gr wr w') => AL0.out w' (HT.out w' h))
          have IX := IY
          obtain ⟨sk, hsk⟩ : ∃ q, q = s.op.sk := ⟨_, rfl⟩
          rw [← hsk] at TC SM
          obtain ⟨fT, hfT⟩ : ∃ q, q = sT.fl := ⟨_, rfl⟩
          obtain ⟨fS, hfS⟩ : ∃ q, q = s.fl := ⟨_, rfl⟩
          rw [← hfT, ← hfS] at FL
          rw [← hfT] at KFT
          rw [← hfS] at KFS
          clear hfT hfS hsk hfd hp2 hp3 hkm hm9 hi1 TC5 SM5 HST HYT HOK
          go_upto_region 13 with fail
          clear ks kt wI le leb
          refine with_act fun a0 ha0 => ?_
          have hl : tbT.length = a0.tmps.size := by rw [ha0]; rfl
          have k1 : a0.tmps[1]?.getD undef = .int .u32 g := by rw [ha0]; rfl
          have k2 : a0.tmps[2]?.getD undef = .int .u32 z := by rw [ha0]; rfl
          have k3 : a0.tmps[3]?.getD undef = .pointer (some ⟨(w.heap.size), 0, none⟩) := by rw [ha0]; rfl
          have k8 : a0.tmps[8]?.getD undef = .pointer (some ⟨gt, 0, none⟩) := by rw [ha0]; rfl
          have k10 : a0.tmps[10]?.getD undef = .bool true := by rw [ha0]; rfl
          refine wp_region_vals (by kernel_rfl) tbT (by kernel_rfl) (by kernel_rfl) hl (fun i => if i = 20 then .bool false else undef) (by rw [ha0]; rfl) (Gr wr) (tbV (w.heap.size) gt CX g z fT fS sT n sk XT (wr.heap.size)) (gr_drewG _ _) (tbV.keep _ _ _ _ _ _ _ _ _ _ _ _) ⟨?_, ?_, ?_, ?_, ?_, ?_, ?_, ?_, ?_, ?_, ?_, ?_, ?_, ?_, ?_, ?_, ?_, ?_, ?_, ?_, ?_, trivial⟩ ?_
          · refine step_plain [] (by kernel_rfl) rfl fun us w' hG hV => ?_
            have o10 := (frame_old2 (us := us) (a := a0) (show (tbT[10]?).join = none from rfl)).trans k10
            generalize frame tbT a0 us = fr at *
            exact val_ok (v := .bool true) (w' := w') (by go_simp) hG (Below.refl _ _) rfl
          · refine step_plain [0] (by kernel_rfl) rfl fun us w' hG hV => ?_
            have e0 : us 0 = .bool true := hV 0 (by simp)
            have v0 := (frame_at2 (us := us) hl (show (tbT[103]?).join = some 0 from rfl)).trans e0
            generalize frame tbT a0 us = fr at *
            exact val_ok (v := .bool true) (w' := w') (by go_simp) hG (Below.refl _ _) rfl
          · refine step_guard [1] (by kernel_rfl) (j := 1) (t := 104) (b := true) rfl (by simp) rfl hl rfl (fun v w h => h) fun us w' hG hV => ?_
            have o8 := (frame_old2 (us := us) (a := a0) (show (tbT[8]?).join = none from rfl)).trans k8
            have hg1 := (KX.out w' hG)
            generalize frame tbT a0 us = fr at *
            exact load_ok 34 8 rfl (gt) o8 _ _ (0, 0) _ hg1 Tryd.underlying34 rfl IX.out hG rfl
          · refine step_guard [1] (by kernel_rfl) (j := 1) (t := 104) (b := true) rfl (by simp) rfl hl rfl (fun v w h => h) fun us w' hG hV => ?_
            have o1 := (frame_old2 (us := us) (a := a0) (show (tbT[1]?).join = none from rfl)).trans k1
            generalize frame tbT a0 us = fr at *
            exact val_ok (v := .int .u32 g) (w' := w') (by go_simp) hG (Below.refl _ _) rfl
          · refine step_guard [1] (by kernel_rfl) (j := 1) (t := 104) (b := true) rfl (by simp) rfl hl rfl (fun v w h => h) fun us w' hG hV => ?_
            have o2 := (frame_old2 (us := us) (a := a0) (show (tbT[2]?).join = none from rfl)).trans k2
            generalize frame tbT a0 us = fr at *
            exact val_ok (v := .int .u32 z) (w' := w') (by go_simp) hG (Below.refl _ _) rfl
          · refine step_guard [1, 2, 3, 4] (by kernel_rfl) (j := 1) (t := 104) (b := true) rfl (by simp) rfl hl rfl (fun v w h => h) fun us w' hG hV => ?_
            have e2 : us 2 = .agg CX := hV 2 (by simp)
            have v2 := (frame_at2 (us := us) hl (show (tbT[105]?).join = some 2 from rfl)).trans e2
            have e3 : us 3 = .int .u32 g := hV 3 (by simp)
            have v3 := (frame_at2 (us := us) hl (show (tbT[106]?).join = some 3 from rfl)).trans e3
            have e4 : us 4 = .int .u32 z := hV 4 (by simp)
            have v4 := (frame_at2 (us := us) hl (show (tbT[107]?).join = some 4 from rfl)).trans e4
            generalize frame tbT a0 us = fr at *
            exact call_ok (f := 25) (args := #[.agg CX, .int .u32 g, .int .u32 z]) (by go_simp) ((TC.out w' hG).mono fun e w'' ⟨A', c', B', m', d', p', h1, h2, h3, h4, h5, h6⟩ => ⟨_, h1, hG.below h6, h6, A', c', B', m', d', p', rfl, h3.less hG.size, h4.less hG.size⟩)
          · refine step_guard [1] (by kernel_rfl) (j := 1) (t := 104) (b := true) rfl (by simp) rfl hl rfl (fun v w h => h) fun us w' hG hV => ?_
            have o8 := (frame_old2 (us := us) (a := a0) (show (tbT[8]?).join = none from rfl)).trans k8
            have hg1 := (KX.out w' hG)
            generalize frame tbT a0 us = fr at *
            exact load_ok 34 8 rfl (gt) o8 _ _ (0, 0) _ hg1 Tryd.underlying34 rfl IX.out hG rfl
          · refine step_guard [1, 5, 6] (by kernel_rfl) (j := 1) (t := 104) (b := true) rfl (by simp) rfl hl rfl (fun v w h => h) fun us w' hG hV => ?_
            obtain ⟨A5, c5, B5, m5, d5, p5, e5, q5, x5⟩ := (show ∃ A' c' B' m' d' p', us 5 = .agg (segV sT A' n c' B' m' d') ∧ OwnP w' (wr.heap.size) (.slice A' n c') sk ∧ Own .u8 5 w' (wr.heap.size) (.slice B' m' p') XT from hV 5 (by simp))
            have v5 := (frame_at2 (us := us) hl (show (tbT[108]?).join = some 5 from rfl)).trans e5
            have e6 : us 6 = .agg CX := hV 6 (by simp)
            have v6 := (frame_at2 (us := us) hl (show (tbT[109]?).join = some 6 from rfl)).trans e6
            generalize frame tbT a0 us = fr at *
            exact call_ok (f := 17) (args := #[.agg (segV sT A5 n c5 B5 m5 d5), .agg CX]) (by go_simp) ((SM.out A5 c5 B5 m5 d5 w' hG q5.prs x5.nums).mono fun e w'' h => ⟨_, h.1, hG.below h.2, h.2, rfl⟩)
          · refine step_plain [1, 7] (by kernel_rfl) rfl fun us w' hG hV => ?_
            have e1 : us 1 = .bool true := hV 1 (by simp)
            have v1 := (frame_at2 (us := us) hl (show (tbT[104]?).join = some 1 from rfl)).trans e1
            have e7 : us 7 = .bool true := hV 7 (by simp)
            have v7 := (frame_at2 (us := us) hl (show (tbT[110]?).join = some 7 from rfl)).trans e7
            generalize frame tbT a0 us = fr at *
            exact val_ok (v := .bool true) (w' := w') (by go_simp) hG (Below.refl _ _) rfl
          · refine step_plain [8] (by kernel_rfl) rfl fun us w' hG hV => ?_
            have e8 : us 8 = .bool true := hV 8 (by simp)
            have v8 := (frame_at2 (us := us) hl (show (tbT[111]?).join = some 8 from rfl)).trans e8
            generalize frame tbT a0 us = fr at *
            exact val_ok (v := .bool true) (w' := w') (by go_simp) hG (Below.refl _ _) rfl
          · refine step_guard [9] (by kernel_rfl) (j := 9) (t := 112) (b := true) rfl (by simp) rfl hl rfl (fun v w h => h) fun us w' hG hV => ?_
            have o8 := (frame_old2 (us := us) (a := a0) (show (tbT[8]?).join = none from rfl)).trans k8
            generalize frame tbT a0 us = fr at *
            exact val_ok (v := .pointer (some ⟨gt, 4, none⟩)) (w' := w') (by go_simp) hG (Below.refl _ _) rfl
          · refine step_guard [9, 10] (by kernel_rfl) (j := 9) (t := 112) (b := true) rfl (by simp) rfl hl rfl (fun v w h => h) fun us w' hG hV => ?_
            have e10 : us 10 = .pointer (some ⟨gt, 4, none⟩) := hV 10 (by simp)
            have v10 := (frame_at2 (us := us) hl (show (tbT[113]?).join = some 10 from rfl)).trans e10
            have hc := KFT.out w' hG
            generalize frame tbT a0 us = fr at *
            exact val_ok (v := .int .u8 fT) (w' := w') (by go_simp) hG (Below.refl _ _) rfl
          · refine step_guard [9] (by kernel_rfl) (j := 9) (t := 112) (b := true) rfl (by simp) rfl hl rfl (fun v w h => h) fun us w' hG hV => ?_
            have o3 := (frame_old2 (us := us) (a := a0) (show (tbT[3]?).join = none from rfl)).trans k3
            generalize frame tbT a0 us = fr at *
            exact val_ok (v := .pointer (some ⟨(w.heap.size), 4, none⟩)) (w' := w') (by go_simp) hG (Below.refl _ _) rfl
          · refine step_guard [9, 12] (by kernel_rfl) (j := 9) (t := 112) (b := true) rfl (by simp) rfl hl rfl (fun v w h => h) fun us w' hG hV => ?_
            have e12 : us 12 = .pointer (some ⟨(w.heap.size), 4, none⟩) := hV 12 (by simp)
            have v12 := (frame_at2 (us := us) hl (show (tbT[115]?).join = some 12 from rfl)).trans e12
            have hc := KFS.out w' hG
            generalize frame tbT a0 us = fr at *
            exact val_ok (v := .int .u8 fS) (w' := w') (by go_simp) hG (Below.refl _ _) rfl
          · refine step_guard [9, 11, 13] (by kernel_rfl) (j := 9) (t := 112) (b := true) rfl (by simp) rfl hl rfl (fun v w h => h) fun us w' hG hV => ?_
            have e11 : us 11 = .int .u8 fT := hV 11 (by simp)
            have v11 := (frame_at2 (us := us) hl (show (tbT[114]?).join = some 11 from rfl)).trans e11
            have e13 : us 13 = .int .u8 fS := hV 13 (by simp)
            have v13 := (frame_at2 (us := us) hl (show (tbT[116]?).join = some 13 from rfl)).trans e13
            have hfl := FL.out
            generalize frame tbT a0 us = fr at *
            exact val_ok (v := .int .u8 0) (w' := w') (by go_simp) hG (Below.refl _ _) rfl
          · refine step_guard [9, 14] (by kernel_rfl) (j := 9) (t := 112) (b := true) rfl (by simp) rfl hl rfl (fun v w h => h) fun us w' hG hV => ?_
            have e14 : us 14 = .int .u8 0 := hV 14 (by simp)
            have v14 := (frame_at2 (us := us) hl (show (tbT[117]?).join = some 14 from rfl)).trans e14
            generalize frame tbT a0 us = fr at *
            exact val_ok (v := .bool true) (w' := w') (by go_simp) hG (Below.refl _ _) rfl
          · refine step_plain [9, 15] (by kernel_rfl) rfl fun us w' hG hV => ?_
            have e9 : us 9 = .bool true := hV 9 (by simp)
            have v9 := (frame_at2 (us := us) hl (show (tbT[112]?).join = some 9 from rfl)).trans e9
            have e15 : us 15 = .bool true := hV 15 (by simp)
            have v15 := (frame_at2 (us := us) hl (show (tbT[118]?).join = some 15 from rfl)).trans e15
            generalize frame tbT a0 us = fr at *
            exact val_ok (v := .bool true) (w' := w') (by go_simp) hG (Below.refl _ _) rfl
          · refine step_plain [16] (by kernel_rfl) rfl fun us w' hG hV => ?_
            have e16 : us 16 = .bool true := hV 16 (by simp)
            have v16 := (frame_at2 (us := us) hl (show (tbT[119]?).join = some 16 from rfl)).trans e16
            generalize frame tbT a0 us = fr at *
            exact val_ok (v := .bool true) (w' := w') (by go_simp) hG (Below.refl _ _) rfl
          · refine step_guard [17] (by kernel_rfl) (j := 17) (t := 120) (b := true) rfl (by simp) rfl hl rfl (fun v w h => h) fun us w' hG hV => ?_
            generalize frame tbT a0 us = fr at *
            exact call_ok (f := 10) (args := #[]) (by go_simp) ((AL.out w' hG).mono fun e w'' h => ⟨_, h.1, hG.below h.2, h.2, rfl⟩)
          · refine step_plain [17, 18] (by kernel_rfl) rfl fun us w' hG hV => ?_
            have e17 : us 17 = .bool true := hV 17 (by simp)
            have v17 := (frame_at2 (us := us) hl (show (tbT[120]?).join = some 17 from rfl)).trans e17
            have e18 : us 18 = .bool true := hV 18 (by simp)
            have v18 := (frame_at2 (us := us) hl (show (tbT[121]?).join = some 18 from rfl)).trans e18
            generalize frame tbT a0 us = fr at *
            exact val_ok (v := .bool true) (w' := w') (by go_simp) hG (Below.refl _ _) rfl
          · refine step_plain [19] (by kernel_rfl) rfl fun us w' hG hV => ?_
            have e19 : us 19 = .bool true := hV 19 (by simp)
            have v19 := (frame_at2 (us := us) hl (show (tbT[122]?).join = some 19 from rfl)).trans e19
            generalize frame tbT a0 us = fr at *
            exact val_ok (v := .bool true) (w' := w') (by go_simp) hG (Below.refl _ _) rfl
          · intro us w5 hG hV
            have e20 : us 20 = .bool true := hV 20 (by decide)
            subst ha0
            simp only [frame, tbT, fill]
            rw [e20]
            have HG5 := Lib.hid hG
            clear hV hl hG k1 k2 k3 k8 k10 e20
            go_wp2_with fail
            go_ret
            exact ⟨rfl, (HBV.out.trans (HBR.out.mono HBV.out.size)).trans (Below.mono HG5.out (Nat.le_trans HBV.out.size HBR.out.size))⟩
end Go.Proofs.YtniimgbljhmcoaaDoor.sgC
