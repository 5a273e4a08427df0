/-
  2 texts of a proof, joined.
-/
import Derived.Test.YtniimgbljhmcoaaDoorMg23
import Derived.Test.YtniimgbljhmcoaaDoorMg24
import Derived.Test.YtniimgbljhmcoaaDoorMg20
import Derived.Test.YtniimgbljhmcoaaDoorMg12

/-
  Options in a block of memory: what stores make of them; how many bytes they have, and they without what they do not have: the document's.
-/
namespace Go.Proofs.YtniimgbljhmcoaaDoor.opC
open Go.ChangeShapes Go.WideShapes Go.ChangeAt Go.RowKit
open Go.Proofs.YtniimgbljhmcoaaDoor.memC Go.Proofs.YtniimgbljhmcoaaDoor.genC Go.Proofs.YtniimgbljhmcoaaDoor.butC Go.Proofs.YtniimgbljhmcoaaDoor.freeC Go.Proofs.YtniimgbljhmcoaaDoor.adC
open Go.Proofs.YtniimgbljhmcoaaDoor.pkC (OwnE)
set_option linter.unusedVariables false
/-- block g holds options -/
def OptAt (w : World) (g : Nat) (o : Opt) (A : Option Addr) (n c : Nat) : Prop := w.heap[g]? = some (.cells (optV o A n c) 31 (0, 0))
section
variable {w w' : World} {g : Nat} {o o' : Opt} {A A' : Option Addr} {n c n' c' : Nat}
theorem OptAt.row (h : OptAt w g o A n c) : w.heap[g]? = some (.cells (optV o A n c) 31 (0, 0)) := h
theorem OptAt.frozen (h : OptAt w g o A n c) (j : Nat) : w.frozen? ⟨g, j, none⟩ = false := frozen_of_row w g j _ _ h
theorem OptAt.lt (h : OptAt w g o A n c) : g < w.heap.size := lt_of_row h
theorem OptAt.set_ (h : OptAt w g o A n c) (j : Nat) (v : Value) (e : (optV o A n c).setIfInBounds j v = optV o' A' n' c') : OptAt (w.setCell ⟨g, j, none⟩ v) g o' A' n' c' := by
  unfold OptAt
  rw [heap_setCell_same w g j _ _ _ h, ← e]
theorem OptAt.other (h : OptAt w g o A n c) {a : Addr} (ha : a.block ≠ g) (v : Value) : OptAt (w.setCell a v) g o A n c := by
  unfold OptAt
  rw [heap_setCell_other w a g v (fun e => ha e.symm)]; exact h
theorem OptAt.below {B : Nat} (h : OptAt w g o A n c) (hb : Below B w w') (hB : g < B) : OptAt w' g o A n c := by
  unfold OptAt
  rw [hb.block _ hB]; exact h
theorem OptAt.bel (h : OptAt w g o A n c) (hb : Below w.heap.size w w') : OptAt w' g o A n c := h.below hb h.lt
theorem optV_hm (b : Bool) : (optV o A n c).setIfInBounds 0 (.bool b) = optV { o with hm := b } A n c := by simp [optV, optL, optH]
theorem optV_ms (z : Int) : (optV o A n c).setIfInBounds 1 (.int .u16 z) = optV { o with ms := z } A n c := by simp [optV, optL, optH]
theorem optV_hs (b : Bool) : (optV o A n c).setIfInBounds 2 (.bool b) = optV { o with hs := b } A n c := by simp [optV, optL, optH]
theorem optV_sc (z : Int) : (optV o A n c).setIfInBounds 3 (.int .u8 z) = optV { o with sc := z } A n c := by simp [optV, optL, optH]
theorem optV_so (b : Bool) : (optV o A n c).setIfInBounds 4 (.bool b) = optV { o with so := b } A n c := by simp [optV, optL, optH]
theorem optV_sk (l : List (Int × Int)) : (optV o A n c).setIfInBounds 5 (.slice A' n' c') = optV { o with sk := l } A' n' c' := by simp [optV, optL, optH]
theorem optV_ht (b : Bool) : (optV o A n c).setIfInBounds 6 (.bool b) = optV { o with ht := b } A n c := by simp [optV, optL, optH]
theorem optV_va (z : Int) : (optV o A n c).setIfInBounds 7 (.int .u32 z) = optV { o with va := z } A n c := by simp [optV, optL, optH]
theorem optV_ec (z : Int) : (optV o A n c).setIfInBounds 8 (.int .u32 z) = optV { o with ec := z } A n c := by simp [optV, optL, optH]
theorem optV_ha (b : Bool) : (optV o A n c).setIfInBounds 9 (.bool b) = optV { o with ha := b } A n c := by simp [optV, optL, optH]
theorem optV_ki (z : Int) : (optV o A n c).setIfInBounds 10 (.int .u8 z) = optV { o with ki := z } A n c := by simp [optV, optL, optH]
theorem optV_ni (z : Int) : (optV o A n c).setIfInBounds 11 (.int .u8 z) = optV { o with ni := z } A n c := by simp [optV, optL, optH]
end
theorem mac_one (m : List Int) : (macL m).toArray.all (·.oneCell') = true := by
  rw [Array.all_eq_true_iff_forall_mem]
  intro v hv
  simp [macL] at hv
  obtain ⟨z, _, rfl⟩ := hv
  rfl
theorem optV_mac {o : Opt} {A : Option Addr} {n c : Nat} {m : List Int} (h : o.mac.length = 12) (hm : m.length = 12) :
    ((optV o A n c).toList.take 12 ++ (macL m).toArray.toList ++ (optV o A n c).toList.drop (12 + (macL m).toArray.size)).toArray = optV { o with mac := m } A n c := by
  have e1 : (macL o.mac).length = 12 := by simp [macL, h]
  have e2 : (macL m).length = 12 := by simp [macL, hm]
  have e3 : (optV o A n c).toList = optH o A n c ++ macL o.mac := rfl
  have e4 : (optH o A n c).length = 12 := rfl
  rw [e3, List.size_toArray, e2, List.take_append_of_le_length (by rw [e4]; exact Nat.le_refl _), List.take_of_length_le (by rw [e4]; exact Nat.le_refl _), List.drop_of_length_le (by rw [List.length_append, e4, e1]; exact Nat.le_refl _), List.append_nil]
  rfl
set_option maxRecDepth 100000 in
set_option maxHeartbeats 2000000 in
theorem rkept_any (o : Opt) (A : Option Addr) (n c : Nat) (w : World) (ho : o.Ok) :
    Calls Tryd.prog 70 #[.agg (optV o A n c)] w (Ret w (.agg (optV (keptO o) A n c))) := by
  have hzv := zeroOpt
  obtain ⟨W, hW⟩ : ∃ W, W = (w.alloc (.cells (optV o A n c) 31)).alloc (.cells (optV zOpt none 0 0) 31) := ⟨_, rfl⟩
  have e1 : (w.alloc (.cells (optV o A n c) 31)).heap.size = w.heap.size + 1 := alloc_size _ _
  have R0 : OptAt W w.heap.size o A n c := by unfold OptAt; rw [hW, Below.block (alloc_below _ _) _ (by rw [e1]; omega)]; exact heap_alloc_new w _
  have Z0 : OptAt W (w.heap.size + 1) zOpt none 0 0 := by unfold OptAt; rw [hW, ← e1]; exact heap_alloc_new _ _
  have B0 : Below w.heap.size w W := by rw [hW]; exact ((Below.refl _ _).alloc (Nat.le_refl _) _).alloc (by simp) _
  obtain ⟨o1, h1⟩ : ∃ o1, o1 = { o with ms := if o.hm then o.ms else 0 } := ⟨_, rfl⟩
  obtain ⟨o2, h2⟩ : ∃ o2, o2 = { o1 with sc := if o.hs then o.sc else 0 } := ⟨_, rfl⟩
  obtain ⟨o3, h3⟩ : ∃ o3, o3 = { o2 with va := if o.ht then o.va else 0, ec := if o.ht then o.ec else 0 } := ⟨_, rfl⟩
  obtain ⟨o4, h4⟩ : ∃ o4, o4 = { o3 with ki := if o.ha then o.ki else 0, ni := if o.ha then o.ni else 0, mac := if o.ha then o.mac else List.replicate 12 0 } := ⟨_, rfl⟩
  have K4 := Lib.hid (show keptO o = o4 by rw [h4, h3, h2, h1]; rfl)
  have m0 := ho.lm
  have m1 : o1.mac.length = 12 := by rw [h1]; exact m0
  have m2 : o2.mac.length = 12 := by rw [h2]; exact m1
  have m3 : o3.mac.length = 12 := by rw [h3]; exact m2
  have m4 : o4.mac.length = 12 := by rw [h4]; simp only; split; exact m0; rfl
  have HZ := Lib.hid (show (optV zOpt none 0 0).size = (optV o4 A n c).size by rw [(optC zOpt_ok.lm none 0 0).size, (optC m4 A n c).size])
  have I4 := Lib.hid (optC m4 A n c).info
  have O4 := Lib.hid (opt_one o4 A n c)
  have q2 : o1.hs = o.hs := by rw [h1]
  have q3 : o2.ht = o.ht := by rw [h2, h1]
  have q4 : o3.ha = o.ha := by rw [h3, h2, h1]
  have M0 := Lib.hid m0; have M1 := Lib.hid m1; have M2 := Lib.hid m2; have M3 := Lib.hid m3; have M4 := Lib.hid m4
  have H1 := Lib.hid h1; have H2 := Lib.hid h2; have H3 := Lib.hid h3; have H4 := Lib.hid h4
  have Q2 := Lib.hid q2; have Q3 := Lib.hid q3; have Q4 := Lib.hid q4
  rw [K4.out]
  have k0 := pkC.PkC.cell R0 (optC m0 A n c).hm
  clear h1 h2 h3 h4 m1 m2 m3 m4 q2 q3 q4
  have RR := Lib.hid R0; have ZZ := Lib.hid Z0; have BB := Lib.hid B0
  have k1 := pkC.PkC.cell R0 (optC m0 A n c).ms
  have f1 := R0.frozen 1
  clear R0 Z0 B0 m0 e1
  go_enter Tryd.func70, Tryd.ntmps70
  go_upto_region 1 with fail
  rw [← hW]
  clear hW hzv
  go_upto_if 5 with fail
  go_cut [] from 3 (fun wc => OptAt wc w.heap.size o1 A n c ∧ OptAt wc (w.heap.size + 1) zOpt none 0 0 ∧ Below w.heap.size w wc)
  case first =>
    cases hb : o.hm
    · rw [hb] at k0
      have E := Lib.hid (show o1 = { o with ms := 0 } by rw [H1.out, if_neg (by rw [hb]; decide)])
      clear hb
      go_wp2_with fail
      go_meet
      refine ⟨?_, ZZ.out.other (by show w.heap.size ≠ w.heap.size + 1; omega) _, BB.out.setCell (p := ⟨w.heap.size, 1, none⟩) (Nat.le_refl _) _⟩
      rw [E.out]
      exact RR.out.set_ 1 _ (optV_ms 0)
    · rw [hb] at k0
      have E := Lib.hid (show o1 = o by rw [H1.out, if_pos hb])
      clear hb
      go_wp2_with fail
      go_meet
      rw [E.out]
      exact ⟨RR.out, ZZ.out, BB.out⟩
  case rest =>
  obtain ⟨R1, Z1, B1⟩ := hcut
  clear k0 k1 f1
  generalize wc = wc1 at *
  have RR1 := Lib.hid R1; have ZZ1 := Lib.hid Z1; have BB1 := Lib.hid B1
  have k2 := pkC.PkC.cell R1 (optC M1.out A n c).hs
  have k3 := pkC.PkC.cell R1 (optC M1.out A n c).sc
  have f3 := R1.frozen 3
  rw [Q2.out] at k2
  clear R1 Z1 B1
  go_upto_if 9 with fail
  go_cut [] from 3 (fun wc => OptAt wc w.heap.size o2 A n c ∧ OptAt wc (w.heap.size + 1) zOpt none 0 0 ∧ Below w.heap.size w wc)
  case first =>
    cases hb : o.hs
    · rw [hb] at k2
      have E := Lib.hid (show o2 = { o1 with sc := 0 } by rw [H2.out, if_neg (by rw [hb]; decide)])
      clear hb
      go_wp2_with fail
      go_meet
      refine ⟨?_, ZZ1.out.other (by show w.heap.size ≠ w.heap.size + 1; omega) _, BB1.out.setCell (p := ⟨w.heap.size, 3, none⟩) (Nat.le_refl _) _⟩
      rw [E.out]
      exact RR1.out.set_ 3 _ (optV_sc 0)
    · rw [hb] at k2
      have E := Lib.hid (show o2 = o1 by rw [H2.out, if_pos hb, H1.out])
      clear hb
      go_wp2_with fail
      go_meet
      rw [E.out]
      exact ⟨RR1.out, ZZ1.out, BB1.out⟩
  case rest =>
  obtain ⟨R2, Z2, B2⟩ := hcut
  clear k2 k3 f3
  generalize wc = wc2 at *
  have RR2 := Lib.hid R2; have ZZ2 := Lib.hid Z2; have BB2 := Lib.hid B2
  have k6 := pkC.PkC.cell R2 (optC M2.out A n c).ht
  have k7 := pkC.PkC.cell R2 (optC M2.out A n c).va
  have k8 := pkC.PkC.cell R2 (optC M2.out A n c).ec
  have f7 := R2.frozen 7
  have f8 := R2.frozen 8
  rw [Q3.out] at k6
  clear R2 Z2 B2
  go_upto_if 13 with fail
  go_cut [] from 3 (fun wc => OptAt wc w.heap.size o3 A n c ∧ OptAt wc (w.heap.size + 1) zOpt none 0 0 ∧ Below w.heap.size w wc)
  case first =>
    cases hb : o.ht
    · rw [hb] at k6
      have E := Lib.hid (show o3 = { o2 with va := 0, ec := 0 } by rw [H3.out, if_neg (by rw [hb]; decide), if_neg (by rw [hb]; decide)])
      clear hb
      go_wp2_with fail
      go_meet
      refine ⟨?_, (ZZ2.out.other (by show w.heap.size ≠ w.heap.size + 1; omega) _).other (by show w.heap.size ≠ w.heap.size + 1; omega) _, (BB2.out.setCell (p := ⟨w.heap.size, 7, none⟩) (Nat.le_refl _) _).setCell (p := ⟨w.heap.size, 8, none⟩) (Nat.le_refl _) _⟩
      rw [E.out]
      exact (RR2.out.set_ 7 _ (optV_va 0)).set_ 8 _ (optV_ec 0)
    · rw [hb] at k6
      have E := Lib.hid (show o3 = o2 by rw [H3.out, if_pos hb, if_pos hb, H2.out, H1.out])
      clear hb
      go_wp2_with fail
      go_meet
      rw [E.out]
      exact ⟨RR2.out, ZZ2.out, BB2.out⟩
  case rest =>
  obtain ⟨R3, Z3, B3⟩ := hcut
  clear k6 k7 k8 f7 f8
  generalize wc = wc3 at *
  have RR3 := Lib.hid R3; have ZZ3 := Lib.hid Z3; have BB3 := Lib.hid B3
  have k9 := pkC.PkC.cell R3 (optC M3.out A n c).ha
  have k10 := pkC.PkC.cell R3 (optC M3.out A n c).ki
  have k11 := pkC.PkC.cell R3 (optC M3.out A n c).ni
  have f10 := R3.frozen 10
  have f11 := R3.frozen 11
  rw [Q4.out] at k9
  clear R3 Z3 B3
  go_upto_if 18 with fail
  go_cut [] from 3 (fun wc => OptAt wc w.heap.size o4 A n c ∧ OptAt wc (w.heap.size + 1) zOpt none 0 0 ∧ Below w.heap.size w wc)
  case first =>
    cases hb : o.ha
    · rw [hb] at k9
      have E := Lib.hid (show o4 = { { { o3 with ki := 0 } with ni := 0 } with mac := List.replicate 12 0 } by rw [H4.out, if_neg (by rw [hb]; decide), if_neg (by rw [hb]; decide), if_neg (by rw [hb]; decide)])
      clear hb
      have X1 := Lib.hid ((RR3.out.set_ 10 _ (optV_ki 0)).set_ 11 _ (optV_ni 0))
      obtain ⟨Z12, hZ12⟩ : ∃ Z, Z = (macL (List.replicate 12 0)).toArray := ⟨_, rfl⟩
      have MZ := Lib.hid (show Tryd.prog.built 29 [] = some Z12 by rw [hZ12]; exact mac_zero)
      have IZ := Lib.hid (show (Tryd.prog.info? 29).map (·.size) = some Z12.size by rw [hZ12]; exact mac_info (m := List.replicate 12 0) rfl)
      have SZ := Lib.hid (show 12 + Z12.size ≤ (optV { { o3 with ki := 0 } with ni := 0 } A n c).size by
        have h9 := (optC (o := { { o3 with ki := 0 } with ni := 0 }) M3.out A n c).size
        have h8 : Z12.size = 12 := by rw [hZ12]; rfl
        omega)
      have OZ := Lib.hid (show Z12.all (·.oneCell') = true by rw [hZ12]; exact mac_one _)
      have HE := Lib.hid (optV_mac (o := { { o3 with ki := 0 } with ni := 0 }) (A := A) (n := n) (c := c) (m := List.replicate 12 0) M3.out rfl)
      rw [← hZ12] at HE
      clear hZ12
      unfold OptAt at X1
      go_wp2_with (first
        | (with_reducible refine at_build 29 ?_; refine wpList_runG (by kernel_rfl) _ (built_run (T := 29) rfl MZ.out) ?_)
        | (refine partC.wpList_store_part rfl 29 (.tmp 22) (.tmp 19) rfl w.heap.size 12 Z12 rfl rfl 31 _ X1.out IZ.out SZ.out OZ.out ?_))
      go_meet
      refine ⟨?_, ?_, ?_⟩
      · rw [E.out]
        unfold OptAt
        rw [← HE.out]
        exact setRow_heap _ _ _ _ _ _ X1.out
      · unfold OptAt
        rw [setRow_other _ _ _ _ (show w.heap.size + 1 ≠ w.heap.size by omega)]
        exact (ZZ3.out.other (a := ⟨w.heap.size, 10, none⟩) (by show w.heap.size ≠ w.heap.size + 1; omega) _).other (a := ⟨w.heap.size, 11, none⟩) (by show w.heap.size ≠ w.heap.size + 1; omega) _
      · have B5 := (BB3.out.setCell (p := ⟨w.heap.size, 10, none⟩) (Nat.le_refl _) (.int .u8 0)).setCell (p := ⟨w.heap.size, 11, none⟩) (Nat.le_refl _) (.int .u8 0)
        refine ⟨B5.os, B5.tape, B5.output, by simpa using B5.size, fun k hk => ?_⟩
        rw [setRow_other _ _ _ _ (show k ≠ w.heap.size by omega)]
        exact B5.block k hk
    · rw [hb] at k9
      have E := Lib.hid (show o4 = o3 by rw [H4.out, if_pos hb, if_pos hb, if_pos hb, H3.out, H2.out, H1.out])
      clear hb
      go_wp2_with fail
      go_meet
      rw [E.out]
      exact ⟨RR3.out, ZZ3.out, BB3.out⟩
  case rest =>
  obtain ⟨R4, Z4, B4⟩ := hcut
  clear k9 k10 k11 f10 f11
  generalize wc = wc4 at *
  have RR4 := Lib.hid R4; have ZZ4 := Lib.hid Z4; have BB4 := Lib.hid B4
  clear R4 Z4 B4
  unfold OptAt at RR4 ZZ4
  generalize optV o4 A n c = C4 at *
  go_wp2_with (first
    | (refine wpList_load_row rfl 31 (.tmp 1) rfl w.heap.size rfl _ _ _ _ RR4.out Tryd.underlying31 rfl I4.out ?_)
    | (refine wpList_store_row rfl 31 (.tmp 2) (.tmp 23) rfl (w.heap.size + 1) C4 rfl rfl _ _ ZZ4.out I4.out HZ.out O4.out ?_))
  refine bodyPost_ret (v := .agg C4) (Go.results_cell_row Tryd.results70 _ _ (w.heap.size + 1) _ _ _ _ (by rfl) (setRow_heap _ _ _ _ _ _ ZZ4.out) Tryd.underlying31 rfl I4.out) rfl ?_
  refine ⟨rfl, BB4.out.os, BB4.out.tape, BB4.out.output, by simpa using BB4.out.size, fun k hk => ?_⟩
  rw [setRow_other _ _ _ _ (by omega)]
  exact BB4.out.block k hk
end Go.Proofs.YtniimgbljhmcoaaDoor.opC

/-
  Segments as values: their cells; in a block of memory; how one that came in is opened.
-/
namespace Go.Proofs.YtniimgbljhmcoaaDoor.sgC
open Go.ChangeShapes Go.WideShapes Go.ChangeAt Go.RowKit
open Go.Proofs.YtniimgbljhmcoaaDoor.memC Go.Proofs.YtniimgbljhmcoaaDoor.genC Go.Proofs.YtniimgbljhmcoaaDoor.butC Go.Proofs.YtniimgbljhmcoaaDoor.freeC Go.Proofs.YtniimgbljhmcoaaDoor.adC
open Go.Proofs.YtniimgbljhmcoaaDoor.opC (Opt optV optL optH macL zOpt zOpt_ok U32 Prs cell_intO cell_boolO open_prs is_opts opts_sacks sameB)
set_option linter.unusedVariables false
/-- a segment, but for its data -/
structure Sg where
  sp : Int
  dp : Int
  sq : Int
  ak : Int
  fl : Int
  wi : Int
  ur : Int
  op : Opt
def U16 (x : Int) : Prop := 0 ≤ x ∧ x ≤ 65535
structure Sg.Ok (s : Sg) : Prop where
  sp : U16 s.sp
  dp : U16 s.dp
  sq : U32 s.sq
  ak : U32 s.ak
  fl : Byte s.fl
  wi : U16 s.wi
  ur : U16 s.ur
  op : s.op.Ok
def zSg : Sg := ⟨0, 0, 0, 0, 0, 0, 0, zOpt⟩
theorem zSg_ok : zSg.Ok := ⟨by unfold U16 zSg; decide, by unfold U16 zSg; decide, by unfold U32 zSg; decide, by unfold U32 zSg; decide, by unfold Byte zSg; decide, by unfold U16 zSg; decide, by unfold U16 zSg; decide, zOpt_ok⟩
def segH (s : Sg) : List Value := [.int .u16 s.sp, .int .u16 s.dp, .int .u32 s.sq, .int .u32 s.ak, .int .u8 s.fl, .int .u16 s.wi, .int .u16 s.ur]
def segL (s : Sg) (A : Option Addr) (n c : Nat) (B : Option Addr) (m d : Nat) : List Value := segH s ++ (optL s.op A n c ++ [.slice B m d])
def segV (s : Sg) (A : Option Addr) (n c : Nat) (B : Option Addr) (m d : Nat) : Array Value := (segL s A n c B m d).toArray
theorem optL_len {o : Opt} (h : o.mac.length = 12) (A : Option Addr) (n c : Nat) : (optL o A n c).length = 24 := by simp [optL, optH, macL, h]
/-- what is known of their cells -/
structure SegC (C : Array Value) (s : Sg) (A : Option Addr) (n c : Nat) (B : Option Addr) (m d : Nat) : Prop where
  size : C.size = 32
  sp : C[0]? = some (.int .u16 s.sp)
  dp : C[1]? = some (.int .u16 s.dp)
  sq : C[2]? = some (.int .u32 s.sq)
  ak : C[3]? = some (.int .u32 s.ak)
  fl : C[4]? = some (.int .u8 s.fl)
  wi : C[5]? = some (.int .u16 s.wi)
  ur : C[6]? = some (.int .u16 s.ur)
  op : ∀ j v, (optL s.op A n c)[j]? = some v → C[7 + j]? = some v
  sk : C[12]? = some (.slice A n c)
  da : C[31]? = some (.slice B m d)
theorem segC {s : Sg} (h : s.op.mac.length = 12) (A : Option Addr) (n c : Nat) (B : Option Addr) (m d : Nat) : SegC (segV s A n c B m d) s A n c B m d := by
  have hl := optL_len h A n c
  have e : ∀ j : Nat, (segV s A n c B m d)[j]? = (segL s A n c B m d)[j]? := fun j => by simp [segV]
  have hop : ∀ j v, (optL s.op A n c)[j]? = some v → (segL s A n c B m d)[7 + j]? = some v := fun j v hv => by
    have hj : j < (optL s.op A n c).length := (List.getElem?_eq_some_iff.1 hv).1
    unfold segL
    rw [List.getElem?_append_right (by simp [segH]), show 7 + j - (segH s).length = j by simp [segH], List.getElem?_append_left hj]
    exact hv
  refine ⟨by simp [segV, segL, segH, hl], by rw [e]; rfl, by rw [e]; rfl, by rw [e]; rfl, by rw [e]; rfl, by rw [e]; rfl, by rw [e]; rfl, by rw [e]; rfl, fun j v hv => by rw [e]; exact hop j v hv, by rw [e]; exact hop 5 _ rfl, ?_⟩
  rw [e]
  unfold segL
  rw [List.getElem?_append_right (by simp [segH]), List.getElem?_append_right (by rw [hl]; simp [segH]), hl]
  rfl
theorem seg_info0 : (Tryd.prog.info? 34).map (·.size) = some 32 := by kernel_rfl
theorem SegC.info {C : Array Value} {s : Sg} {A B : Option Addr} {n c m d : Nat} (h : SegC C s A n c B m d) : (Tryd.prog.info? 34).map (·.size) = some C.size := by rw [seg_info0, h.size]
theorem opt_infoL {o : Opt} (h : o.mac.length = 12) (A : Option Addr) (n c : Nat) : (Tryd.prog.info? 31).map (·.size) = some (optL o A n c).length := by rw [optL_len h]; exact opC.opt_info0
theorem seg_one (s : Sg) (A : Option Addr) (n c : Nat) (B : Option Addr) (m d : Nat) : (segV s A n c B m d).all (·.oneCell') = true := by
  rw [Array.all_eq_true_iff_forall_mem]
  intro v hv
  simp [segV, segL, segH, optL, optH, macL] at hv
  rcases hv with rfl | rfl | rfl | rfl | rfl | rfl | rfl | rfl | rfl | rfl | rfl | rfl | rfl | rfl | rfl | rfl | rfl | rfl | rfl | ⟨z, _, rfl⟩ | rfl <;> rfl
theorem zSg_info : (Tryd.prog.info? 34).map (·.zero) = some (some (.agg (segV zSg none 0 0 none 0 0))) := by kernel_rfl
theorem zeroSeg (w : World) : (zeroValue 34).run Tryd.prog w = .ok (.agg (segV zSg none 0 0 none 0 0)) w := by
  obtain ⟨i, hi, hz⟩ := Option.map_eq_some_iff.1 zSg_info
  simp [zeroValue, typeInfo, hi, hz]
theorem zSg_built : Tryd.prog.built 34 [] = some (segV zSg none 0 0 none 0 0) := by kernel_rfl
theorem seg_size {s s' : Sg} (h : s.op.mac.length = 12) (h' : s'.op.mac.length = 12) (A A' : Option Addr) (n c n' c' : Nat) (B B' : Option Addr) (m d m' d' : Nat) : (segV s A n c B m d).size = (segV s' A' n' c' B' m' d').size := by
  rw [(segC h A n c B m d).size, (segC h' A' n' c' B' m' d').size]
/-- block g holds a segment -/
def SegAt (w : World) (g : Nat) (s : Sg) (A : Option Addr) (n c : Nat) (B : Option Addr) (m d : Nat) : Prop := w.heap[g]? = some (.cells (segV s A n c B m d) 34 (0, 0))
section
variable {w w' : World} {g : Nat} {s s' : Sg} {A A' B B' : Option Addr} {n c n' c' m d m' d' : Nat}
theorem SegAt.row (h : SegAt w g s A n c B m d) : w.heap[g]? = some (.cells (segV s A n c B m d) 34 (0, 0)) := h
theorem SegAt.frozen (h : SegAt w g s A n c B m d) (j : Nat) : w.frozen? ⟨g, j, none⟩ = false := frozen_of_row w g j _ _ h
theorem SegAt.lt (h : SegAt w g s A n c B m d) : g < w.heap.size := opC.lt_of_row h
theorem SegAt.set_ (h : SegAt w g s A n c B m d) (j : Nat) (v : Value) (e : (segV s A n c B m d).setIfInBounds j v = segV s' A' n' c' B' m' d') : SegAt (w.setCell ⟨g, j, none⟩ v) g s' A' n' c' B' m' d' := by
  unfold SegAt
  rw [heap_setCell_same w g j _ _ _ h, ← e]
theorem SegAt.other (h : SegAt w g s A n c B m d) {a : Addr} (ha : a.block ≠ g) (v : Value) : SegAt (w.setCell a v) g s A n c B m d := by
  unfold SegAt
  rw [heap_setCell_other w a g v (fun e => ha e.symm)]; exact h
theorem SegAt.below {b : Nat} (h : SegAt w g s A n c B m d) (hb : Below b w w') (hB : g < b) : SegAt w' g s A n c B m d := by
  unfold SegAt
  rw [hb.block _ hB]; exact h
theorem SegAt.bel (h : SegAt w g s A n c B m d) (hb : Below w.heap.size w w') : SegAt w' g s A n c B m d := h.below hb h.lt
theorem SegAt.new (w : World) (s : Sg) (A : Option Addr) (n c : Nat) (B : Option Addr) (m d : Nat) : SegAt (w.alloc (.cells (segV s A n c B m d) 34)) w.heap.size s A n c B m d := heap_alloc_new w _
theorem segV_sp (z : Int) : (segV s A n c B m d).setIfInBounds 0 (.int .u16 z) = segV { s with sp := z } A n c B m d := by simp [segV, segL, segH]
theorem segV_dp (z : Int) : (segV s A n c B m d).setIfInBounds 1 (.int .u16 z) = segV { s with dp := z } A n c B m d := by simp [segV, segL, segH]
theorem segV_sq (z : Int) : (segV s A n c B m d).setIfInBounds 2 (.int .u32 z) = segV { s with sq := z } A n c B m d := by simp [segV, segL, segH]
theorem segV_ak (z : Int) : (segV s A n c B m d).setIfInBounds 3 (.int .u32 z) = segV { s with ak := z } A n c B m d := by simp [segV, segL, segH]
theorem segV_fl (z : Int) : (segV s A n c B m d).setIfInBounds 4 (.int .u8 z) = segV { s with fl := z } A n c B m d := by simp [segV, segL, segH]
theorem segV_wi (z : Int) : (segV s A n c B m d).setIfInBounds 5 (.int .u16 z) = segV { s with wi := z } A n c B m d := by simp [segV, segL, segH]
theorem segV_ur (z : Int) : (segV s A n c B m d).setIfInBounds 6 (.int .u16 z) = segV { s with ur := z } A n c B m d := by simp [segV, segL, segH]
theorem segV_sk : (segV s A n c B m d).setIfInBounds 12 (.slice A' n' c') = segV s A' n' c' B m d := by simp [segV, segL, segH, optL, optH]
theorem segV_da (h : s.op.mac.length = 12) : (segV s A n c B m d).setIfInBounds 31 (.slice B' m' d') = segV s A n c B' m' d' := by
  have hl := optL_len h A n c
  unfold segV segL
  rw [List.setIfInBounds_toArray, List.set_append_right _ _ (by simp [segH]), List.set_append_right _ _ (by rw [hl]; simp [segH]), hl]
  rfl
theorem segV_op {o : Opt} (h : s.op.mac.length = 12) (h' : o.mac.length = 12) :
    ((segV s A n c B m d).toList.take 7 ++ (optV o A' n' c').toList ++ (segV s A n c B m d).toList.drop (7 + (optV o A' n' c').size)).toArray = segV { s with op := o } A' n' c' B m d := by
  have hl := optL_len h A n c
  have hl' := optL_len h' A' n' c'
  have e3 : (segV s A n c B m d).toList = segH s ++ (optL s.op A n c ++ [.slice B m d]) := rfl
  have e4 : (segH s).length = 7 := rfl
  have e5 : (optV o A' n' c').size = 24 := (opC.optC h' A' n' c').size
  rw [e3, e5, List.take_append_of_le_length (by rw [e4]; exact Nat.le_refl _), List.take_of_length_le (by rw [e4]; exact Nat.le_refl _), List.drop_append, List.drop_of_length_le (by rw [e4]; omega), e4, List.nil_append, show 7 + 24 - 7 = 24 from rfl, List.drop_append, List.drop_of_length_le (by rw [hl]; exact Nat.le_refl _), hl]
  unfold segV segL
  rw [show (optV o A' n' c').toList = optL o A' n' c' from rfl, List.append_assoc]
  rfl
end
theorem is_seg : Tryd.prog.underlying 34 = some (.struct (Tryd.prog.fieldsOf 34)) := by simp [Program.fieldsOf, Tryd.underlying34]
theorem seg_opts : ((Tryd.prog.fieldsOf 34)[7]?).map (fun f => (f.type, f.offset)) = some (31, 7) := by kernel_rfl
theorem seg_data : ((Tryd.prog.fieldsOf 34)[8]?).map (fun f => (f.type, f.offset)) = some (32, 31) := by kernel_rfl
def segT : List TypeId := [26, 26, 27, 27, 5, 26, 26, 4, 26, 4, 5, 4, 28, 4, 27, 27, 4, 5, 5, 5, 5, 5, 5, 5, 5, 5, 5, 5, 5, 5, 5, 32]
theorem seg_types : Tryd.prog.cellTypes Tryd.prog.depth 34 = some segT := by kernel_rfl
theorem seg_cells : Tryd.prog.cellsOf 34 = 32 := by kernel_rfl
theorem opt_cells : Tryd.prog.cellsOf 31 = 24 := by kernel_rfl
theorem prs_cells : Tryd.prog.cellsOf 28 = 1 := by kernel_rfl
theorem nums_cells : Tryd.prog.cellsOf 32 = 1 := by kernel_rfl
theorem byte_cells : Tryd.prog.cellsOf 5 = 1 := by kernel_rfl
/-- a slice of bytes within a struct that came in -/
theorem open_bytes {H : Type} {enc : TypeId × Value → H} {w : World} {base : Nat} {spare : Nat → Bool} {held : Bool} {fuel : Nat} {cs : List Value} {x : DataW H × List MemPlace} (hsp : ∀ b, spare b = true)
    (h : DataW.trod enc Tryd.prog w base spare held fuel 32 cs = some x) :
    ∃ (A : Option Addr) (n c : Nat) (zs : List Int), cs = [.slice A n c] ∧ n ≤ c ∧ c ≤ 9223372036854775807 ∧ Nums .u8 w w.heap.size A n zs ∧ ∀ x ∈ zs, Byte x := by
  rcases open_ints Tryd.underlying32 Tryd.underlying5 byte_cells h with ⟨hcs, _⟩ | ⟨x, ln, cp, zs, hcs, _, hl', hm, hz, _, hcell', hwz⟩
  · exact ⟨none, 0, 0, [], hcs, Nat.le_refl _, Nat.zero_le _, Nums.none_ 0, by simp⟩
  · unfold maxLen at hm
    rw [hsp, if_pos rfl] at hz
    refine ⟨some x, ln, cp, zs.take ln, hcs, hl', by omega, ⟨by simp; omega, fun hn => ?_⟩, fun n hn => by
      have := hwz n (List.mem_of_mem_take hn)
      simpa [Lit.wf, Byte, IntKind.min, IntKind.max, IntKind.signed, IntKind.bits] using this⟩
    obtain ⟨b, off, spot⟩ := x
    have hc := hcell' 0 (by omega)
    have hspot : spot = none := by simpa [Addr.add] using World.cell?_spot hc
    subst hspot
    refine ⟨b, off, rfl, ?_, fun i hi => ?_⟩
    · have := World.block_lt_of_cell? _ _ hc
      rw [memC.add_plain] at this
      exact this
    · have h1 := hcell' i (by omega)
      have h2 : (zs.take ln).getD i 0 = zs.getD i 0 := by simp [List.getD_eq_getElem?_getD, hi]
      rw [memC.add_plain] at h1
      rw [h2]; exact h1
theorem list_of {l : List Value} {k : Nat} (h : k < l.length) : ∃ v, l[k]? = some v := ⟨l[k], List.getElem?_eq_getElem h⟩
set_option maxRecDepth 100000 in
set_option maxHeartbeats 1000000 in
/-- a segment that came in -/
theorem open_seg {H : Type} {enc : TypeId × Value → H} {w : World} {base : Nat} {spare : Nat → Bool} {held : Bool} {r : Reach} {b0 : Nat} {v : Value} {dt : DataW H} {ps : List MemPlace} (hsp : ∀ b, spare b = true)
    (hval : Value.okWide Tryd.prog w r b0 34 v) (hd : DataW.Trod enc Tryd.prog w base spare held 34 v dt ps) :
    ∃ (s : Sg) (A : Option Addr) (n c : Nat) (B : Option Addr) (m d : Nat) (xs : List Int), v = .agg (segV s A n c B m d) ∧ s.Ok ∧ n ≤ c ∧ c ≤ 9223372036854775807 ∧ Prs w w.heap.size A n s.op.sk ∧ m ≤ d ∧ d ≤ 9223372036854775807 ∧ Nums .u8 w w.heap.size B m xs ∧ ∀ x ∈ xs, Byte x := by
  obtain ⟨f7, h7, hf7⟩ := Option.map_eq_some_iff.1 seg_opts
  obtain ⟨e7, o7⟩ := Prod.mk.inj hf7
  obtain ⟨f8, h8, hf8⟩ := Option.map_eq_some_iff.1 seg_data
  obtain ⟨e8, o8⟩ := Prod.mk.inj hf8
  obtain ⟨f5, h5, hf5⟩ := Option.map_eq_some_iff.1 opts_sacks
  obtain ⟨e5, o5⟩ := Prod.mk.inj hf5
  obtain ⟨fuel, hf⟩ := hd
  have ht := is_seg
  obtain ⟨cs, rfl, hsz, ts', hts', _, hcell⟩ : ∃ cs, v = .agg cs ∧ cs.size = Tryd.prog.cellsOf 34 ∧ Row.okWide Tryd.prog w r b0 34 cs := by
    simpa [Value.okWide, ht] using hval
  obtain ⟨l⟩ := cs
  have hl : l.length = 32 := by rw [seg_cells] at hsz; simpa using hsz
  rw [seg_types] at hts'
  obtain rfl := Option.some.inj hts'
  have key : ∀ i, i < 32 → ∃ v u, l[i]? = some v ∧ segT[i]? = some u ∧ Cell.okWide Tryd.prog w r b0 u v := fun i hi => by
    have e : l[i]? = some (l[i]'(by omega)) := List.getElem?_eq_getElem _
    obtain ⟨u, h1, h2⟩ := hcell i (l[i]'(by omega)) (by rw [← e]; simp)
    refine ⟨_, u, e, ?_, h2⟩
    have : i % 32 = i := Nat.mod_eq_of_lt hi
    simpa [segT, this] using h1
  have kB : ∀ i, i < 32 → segT[i]? = some 4 → ∃ s, l[i]? = some (.bool s) := fun i hi hT => by
    obtain ⟨v, u, h1, h2, h3⟩ := key i hi
    rw [hT] at h2
    obtain rfl := Option.some.inj h2
    obtain ⟨s, rfl⟩ := cell_boolO Tryd.underlying4 h3
    exact ⟨s, h1⟩
  have kI : ∀ (k : IntKind) (T : TypeId) (hT0 : Tryd.prog.underlying T = some (.int k)) i, i < 32 → segT[i]? = some T → ∃ z, l[i]? = some (.int k z) ∧ k.min ≤ z ∧ z ≤ k.max := fun k T hT0 i hi hT => by
    obtain ⟨v, u, h1, h2, h3⟩ := key i hi
    rw [hT] at h2
    obtain rfl := Option.some.inj h2
    obtain ⟨z, rfl, hz⟩ := cell_intO hT0 h3
    exact ⟨z, h1, hz⟩
  obtain ⟨s0, g0, y0⟩ := kI .u16 _ Tryd.underlying26 0 (by omega) rfl
  obtain ⟨s1, g1, y1⟩ := kI .u16 _ Tryd.underlying26 1 (by omega) rfl
  obtain ⟨s2, g2, y2⟩ := kI .u32 _ Tryd.underlying27 2 (by omega) rfl
  obtain ⟨s3, g3, y3⟩ := kI .u32 _ Tryd.underlying27 3 (by omega) rfl
  obtain ⟨s4, g4, y4⟩ := kI .u8 _ Tryd.underlying5 4 (by omega) rfl
  obtain ⟨s5, g5, y5⟩ := kI .u16 _ Tryd.underlying26 5 (by omega) rfl
  obtain ⟨s6, g6, y6⟩ := kI .u16 _ Tryd.underlying26 6 (by omega) rfl
  obtain ⟨x0, q0⟩ := kB 7 (by omega) rfl
  obtain ⟨x1, q1, z1⟩ := kI .u16 _ Tryd.underlying26 8 (by omega) rfl
  obtain ⟨x2, q2⟩ := kB 9 (by omega) rfl
  obtain ⟨x3, q3, z3⟩ := kI .u8 _ Tryd.underlying5 10 (by omega) rfl
  obtain ⟨x4, q4⟩ := kB 11 (by omega) rfl
  obtain ⟨x6, q6⟩ := kB 13 (by omega) rfl
  obtain ⟨x7, q7, z7⟩ := kI .u32 _ Tryd.underlying27 14 (by omega) rfl
  obtain ⟨x8, q8, z8⟩ := kI .u32 _ Tryd.underlying27 15 (by omega) rfl
  obtain ⟨x9, q9⟩ := kB 16 (by omega) rfl
  obtain ⟨x10, q10, z10⟩ := kI .u8 _ Tryd.underlying5 17 (by omega) rfl
  obtain ⟨x11, q11, z11⟩ := kI .u8 _ Tryd.underlying5 18 (by omega) rfl
  have km : ∀ i, i < 12 → ∃ z, l[19 + i]? = some (.int .u8 z) ∧ Byte z := fun i hi => by
    obtain ⟨z, h, hz⟩ := kI .u8 _ Tryd.underlying5 (19 + i) (by omega) (by
      have : ∀ j : Fin 12, segT[19 + j.val]? = some 5 := by decide
      exact this ⟨i, hi⟩)
    exact ⟨z, h, by simpa [Byte, IntKind.min, IntKind.max, IntKind.signed, IntKind.bits] using hz⟩
  obtain ⟨f, hf12⟩ := Deep.choose_lt km
  have ecl : (Value.agg { toList := l }).cells.toList = l := by simp [Value.cells]
  rw [ecl] at hf
  obtain ⟨ys, n5, _, _, _, hyl, hg⟩ := DataW.trod_struct ht hf
  have gt7 := hg 7 f7 h7
  rw [e7, o7, opt_cells] at gt7
  have gt8 := hg 8 f8 h8
  rw [e8, o8, nums_cells] at gt8
  have l31 : l[31]? = some (l[31]'(by omega)) := List.getElem?_eq_getElem _
  have l12 : l[12]? = some (l[12]'(by omega)) := List.getElem?_eq_getElem _
  have e31 : (l.drop 31).take 1 = [l[31]'(by omega)] := by rw [List.drop_eq_getElem_cons (by omega)]; rfl
  rw [e31] at gt8
  obtain ⟨B, m, d, xs, hB, hmd, hdm, hX, hXy⟩ : ∃ B m d xs, l[31]? = some (.slice B m d) ∧ m ≤ d ∧ d ≤ 9223372036854775807 ∧ Nums .u8 w w.heap.size B m xs ∧ ∀ x ∈ xs, Byte x := by
    cases hy : ys[8]? with
    | none =>
      have h1 := (Array.getElem?_eq_some_iff.1 h8).1
      have h2 := List.getElem?_eq_none_iff.1 hy
      omega
    | some y =>
      rw [hy] at gt8
      obtain ⟨B, m, d, xs, hcs, h⟩ := open_bytes hsp gt8
      rw [l31, (List.cons.inj hcs).1]
      exact ⟨B, m, d, xs, rfl, h⟩
  obtain ⟨A, n, c, qs, hA, hnc, hcm, hN, hwf⟩ : ∃ A n c qs, l[12]? = some (.slice A n c) ∧ n ≤ c ∧ c ≤ 9223372036854775807 ∧ Prs w w.heap.size A n qs ∧ ∀ p ∈ qs, U32 p.1 ∧ U32 p.2 := by
    cases hy : ys[7]? with
    | none =>
      have h1 := (Array.getElem?_eq_some_iff.1 h7).1
      have h2 := List.getElem?_eq_none_iff.1 hy
      omega
    | some y =>
      rw [hy] at gt7
      obtain ⟨ys2, n6, _, _, _, hyl2, hg2⟩ := DataW.trod_struct is_opts gt7
      have gt5 := hg2 5 f5 h5
      rw [e5, o5, prs_cells] at gt5
      have e12 : (((l.drop 7).take 24).drop 5).take 1 = [l[12]'(by omega)] := by
        rw [List.drop_take, List.drop_drop, List.take_take, List.drop_eq_getElem_cons (by omega)]
        rfl
      rw [e12] at gt5
      cases hy2 : ys2[5]? with
      | none =>
        have h1 := (Array.getElem?_eq_some_iff.1 h5).1
        have h2 := List.getElem?_eq_none_iff.1 hy2
        omega
      | some y2 =>
        rw [hy2] at gt5
        obtain ⟨A, n, c, qs, hcs, h⟩ := open_prs hsp gt5
        rw [l12, (List.cons.inj hcs).1]
        exact ⟨A, n, c, qs, rfl, h⟩
  have by8 : ∀ {z : Int}, IntKind.u8.min ≤ z ∧ z ≤ IntKind.u8.max → Byte z := fun {z} h => by simpa [Byte, IntKind.min, IntKind.max, IntKind.signed, IntKind.bits] using h
  have by32 : ∀ {z : Int}, IntKind.u32.min ≤ z ∧ z ≤ IntKind.u32.max → U32 z := fun {z} h => by simpa [U32, IntKind.min, IntKind.max, IntKind.signed, IntKind.bits] using h
  have by16 : ∀ {z : Int}, IntKind.u16.min ≤ z ∧ z ≤ IntKind.u16.max → U16 z := fun {z} h => by simpa [U16, IntKind.min, IntKind.max, IntKind.signed, IntKind.bits] using h
  refine ⟨⟨s0, s1, s2, s3, s4, s5, s6, ⟨x0, x1, x2, x3, x4, qs, x6, x7, x8, x9, x10, x11, (List.range 12).map f⟩⟩, A, n, c, B, m, d, xs, ?_,
    ⟨by16 y0, by16 y1, by32 y2, by32 y3, by8 y4, by16 y5, by16 y6, ⟨by16 z1, by8 z3, hwf, by32 z7, by32 z8, by8 z10, by8 z11, by simp, fun x hx => ?_⟩⟩, hnc, hcm, hN, hmd, hdm, hX, hXy⟩
  · unfold segV
    congr 2
    apply List.ext_getElem?
    intro j
    have SC := segC (s := ⟨s0, s1, s2, s3, s4, s5, s6, ⟨x0, x1, x2, x3, x4, qs, x6, x7, x8, x9, x10, x11, (List.range 12).map f⟩⟩) (by simp) A n c B m d
    have eS : ∀ j : Nat, (segV ⟨s0, s1, s2, s3, s4, s5, s6, ⟨x0, x1, x2, x3, x4, qs, x6, x7, x8, x9, x10, x11, (List.range 12).map f⟩⟩ A n c B m d)[j]? = (segL ⟨s0, s1, s2, s3, s4, s5, s6, ⟨x0, x1, x2, x3, x4, qs, x6, x7, x8, x9, x10, x11, (List.range 12).map f⟩⟩ A n c B m d)[j]? := fun j => by simp [segV]
    rw [← eS]
    by_cases hj0 : j < 10
    · match j, hj0 with
      | 0, _ => exact g0
      | 1, _ => exact g1
      | 2, _ => exact g2
      | 3, _ => exact g3
      | 4, _ => exact g4
      | 5, _ => exact g5
      | 6, _ => exact g6
      | 7, _ => exact q0
      | 8, _ => exact q1
      | 9, _ => exact q2
    by_cases hj : j < 19
    · obtain ⟨i, rfl, hi⟩ : ∃ i, j = 10 + i ∧ i < 9 := ⟨j - 10, by omega, by omega⟩
      match i, hi with
      | 0, _ => exact q3
      | 1, _ => exact q4
      | 2, _ => exact hA
      | 3, _ => exact q6
      | 4, _ => exact q7
      | 5, _ => exact q8
      | 6, _ => exact q9
      | 7, _ => exact q10
      | 8, _ => exact q11
    · by_cases hj2 : j < 31
      · have e := (hf12 (j - 19) (by omega)).1
        rw [show 19 + (j - 19) = j by omega] at e
        rw [e]
        have h2 := SC.op (j - 7) (.int .u8 (f (j - 19))) (by
          unfold optL
          rw [List.getElem?_append_right (by simp [optH]; omega), show j - 7 - (optH _ A n c).length = j - 19 by simp [optH]; omega]
          simp [macL, show j - 19 < 12 by omega])
        rw [show 7 + (j - 7) = j by omega] at h2
        exact h2.symm
      · by_cases hj3 : j = 31
        · subst hj3
          rw [hB]; exact SC.da.symm
        · rw [List.getElem?_eq_none (by omega), Array.getElem?_eq_none (by rw [SC.size]; omega)]
  · obtain ⟨i, hi, rfl⟩ := List.mem_map.1 hx
    exact (hf12 i (List.mem_range.1 hi)).2
/-- whether two segments, and their data, are the same -/
def sameS (p : Sg) (xs : List Int) (q : Sg) (ys : List Int) : Bool :=
  decide (p.sp = q.sp) && (decide (p.dp = q.dp) && (decide (p.sq = q.sq) && (decide (p.ak = q.ak) && (decide (p.fl = q.fl) && (decide (p.wi = q.wi) && (decide (p.ur = q.ur) && (sameB p.op q.op && decide (xs = ys))))))))
theorem sameS_iff {p q : Sg} {xs ys : List Int} : sameS p xs q ys = true ↔ p = q ∧ xs = ys := by
  obtain ⟨a1, a2, a3, a4, a5, a6, a7, a8⟩ := p
  obtain ⟨b1, b2, b3, b4, b5, b6, b7, b8⟩ := q
  simp [sameS, opC.sameB_iff]
  constructor
  · rintro ⟨h1, h2, h3, h4, h5, h6, h7, h8, h9⟩
    exact ⟨⟨h1, h2, h3, h4, h5, h6, h7, h8⟩, h9⟩
  · rintro ⟨⟨h1, h2, h3, h4, h5, h6, h7, h8⟩, h9⟩
    exact ⟨h1, h2, h3, h4, h5, h6, h7, h8, h9⟩
theorem sameS_self (p : Sg) (xs : List Int) : sameS p xs p xs = true := sameS_iff.2 ⟨rfl, rfl⟩
end Go.Proofs.YtniimgbljhmcoaaDoor.sgC
