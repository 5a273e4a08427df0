/-
  2 texts of a proof, joined.
-/
import Derived.Test.YtapcjgmijcpfiaaDoorMg16
import Derived.Test.YtapcjgmijcpfiaaDoorMg17
import Derived.Test.YtapcjgmijcpfiaaDoorMg13
import Derived.Test.YtapcjgmijcpfiaaDoorMg14
import Derived.Test.YtapcjgmijcpfiaaDoorMg12

/-
  Options in a block of memory: what stores make of them; how many bytes they have, and they without what they do not have: the document's.
-/
namespace Go.Proofs.YtapcjgmijcpfiaaDoor.opC
open Go.ChangeShapes Go.WideShapes Go.ChangeAt Go.RowKit
open Go.Proofs.YtapcjgmijcpfiaaDoor.memC Go.Proofs.YtapcjgmijcpfiaaDoor.genC Go.Proofs.YtapcjgmijcpfiaaDoor.butC Go.Proofs.YtapcjgmijcpfiaaDoor.freeC Go.Proofs.YtapcjgmijcpfiaaDoor.adC
open Go.Proofs.YtapcjgmijcpfiaaDoor.pkC (OwnE)
set_option linter.unusedVariables false
/-- block g holds options -/
def OptAt (w : World) (g : Nat) (o : Opt) (A : Option Addr) (n c : Nat) : Prop := w.heap[g]? = some (.cells (optV o A n c) 27 (0, 0))
section
variable {w w' : World} {g : Nat} {o o' : Opt} {A A' : Option Addr} {n c n' c' : Nat}
theorem OptAt.row (h : OptAt w g o A n c) : w.heap[g]? = some (.cells (optV o A n c) 27 (0, 0)) := h
theorem OptAt.frozen (h : OptAt w g o A n c) (j : Nat) : w.frozen? ⟨g, j, none⟩ = false := frozen_of_row w g j _ _ h
theorem OptAt.lt (h : OptAt w g o A n c) : g < w.heap.size := lt_of_row h
theorem OptAt.set_ (h : OptAt w g o A n c) (j : Nat) (v : Value) (e : (optV o A n c).setIfInBounds j v = optV o' A' n' c') : OptAt (w.setCell ⟨g, j, none⟩ v) g o' A' n' c' := by
  unfold OptAt
  rw [heap_setCell_same w g j _ _ _ h, ← e]
theorem OptAt.other (h : OptAt w g o A n c) {a : Addr} (ha : a.block ≠ g) (v : Value) : OptAt (w.setCell a v) g o A n c := by
  unfold OptAt
  rw [heap_setCell_other w a g v (fun e => ha e.symm)]; exact h
theorem OptAt.below {B : Nat} (h : OptAt w g o A n c) (hb : Below B w w') (hB : g < B) : OptAt w' g o A n c := by
  unfold OptAt
  rw [hb.block _ hB]; exact h
theorem OptAt.bel (h : OptAt w g o A n c) (hb : Below w.heap.size w w') : OptAt w' g o A n c := h.below hb h.lt
theorem optV_hm (b : Bool) : (optV o A n c).setIfInBounds 0 (.bool b) = optV { o with hm := b } A n c := by simp [optV, optL, optH]
theorem optV_ms (z : Int) : (optV o A n c).setIfInBounds 1 (.int .u16 z) = optV { o with ms := z } A n c := by simp [optV, optL, optH]
theorem optV_hs (b : Bool) : (optV o A n c).setIfInBounds 2 (.bool b) = optV { o with hs := b } A n c := by simp [optV, optL, optH]
theorem optV_sc (z : Int) : (optV o A n c).setIfInBounds 3 (.int .u8 z) = optV { o with sc := z } A n c := by simp [optV, optL, optH]
theorem optV_so (b : Bool) : (optV o A n c).setIfInBounds 4 (.bool b) = optV { o with so := b } A n c := by simp [optV, optL, optH]
theorem optV_sk (l : List (Int × Int)) : (optV o A n c).setIfInBounds 5 (.slice A' n' c') = optV { o with sk := l } A' n' c' := by simp [optV, optL, optH]
theorem optV_ht (b : Bool) : (optV o A n c).setIfInBounds 6 (.bool b) = optV { o with ht := b } A n c := by simp [optV, optL, optH]
theorem optV_va (z : Int) : (optV o A n c).setIfInBounds 7 (.int .u32 z) = optV { o with va := z } A n c := by simp [optV, optL, optH]
theorem optV_ec (z : Int) : (optV o A n c).setIfInBounds 8 (.int .u32 z) = optV { o with ec := z } A n c := by simp [optV, optL, optH]
theorem optV_ha (b : Bool) : (optV o A n c).setIfInBounds 9 (.bool b) = optV { o with ha := b } A n c := by simp [optV, optL, optH]
theorem optV_ki (z : Int) : (optV o A n c).setIfInBounds 10 (.int .u8 z) = optV { o with ki := z } A n c := by simp [optV, optL, optH]
theorem optV_ni (z : Int) : (optV o A n c).setIfInBounds 11 (.int .u8 z) = optV { o with ni := z } A n c := by simp [optV, optL, optH]
end
theorem mac_one (m : List Int) : (macL m).toArray.all (·.oneCell') = true := by
  rw [Array.all_eq_true_iff_forall_mem]
  intro v hv
  simp [macL] at hv
  obtain ⟨z, _, rfl⟩ := hv
  rfl
theorem optV_mac {o : Opt} {A : Option Addr} {n c : Nat} {m : List Int} (h : o.mac.length = 12) (hm : m.length = 12) :
    ((optV o A n c).toList.take 12 ++ (macL m).toArray.toList ++ (optV o A n c).toList.drop (12 + (macL m).toArray.size)).toArray = optV { o with mac := m } A n c := by
  have e1 : (macL o.mac).length = 12 := by simp [macL, h]
  have e2 : (macL m).length = 12 := by simp [macL, hm]
  have e3 : (optV o A n c).toList = optH o A n c ++ macL o.mac := rfl
  have e4 : (optH o A n c).length = 12 := rfl
  rw [e3, List.size_toArray, e2, List.take_append_of_le_length (by rw [e4]; exact Nat.le_refl _), List.take_of_length_le (by rw [e4]; exact Nat.le_refl _), List.drop_of_length_le (by rw [List.length_append, e4, e1]; exact Nat.le_refl _), List.append_nil]
  rfl
theorem rsize_any (o : Opt) (A : Option Addr) (n c : Nat) (w : World) (ho : o.Ok) (hn : o.sk.length = n) (hs : Prs w w.heap.size A n o.sk) (hm : n ≤ 600) :
    Calls Tryd.prog 13 #[.agg (optV o A n c)] w (Ret w (.int .i64 (sizeN o : Nat))) := by
  obtain ⟨W, hW⟩ : ∃ W, W = w.alloc (.cells (optV o A n c) 27) := ⟨_, rfl⟩
  have R := Lib.hid (show W.heap[w.heap.size]? = some (.cells (optV o A n c) 27 (0, 0)) by rw [hW]; exact heap_alloc_new _ _)
  have HB := Lib.hid (show Below w.heap.size w W by rw [hW]; exact alloc_below _ _)
  have BY := Lib.hid (bytes_any o A n c W ho hn ((hs.below HB.out).more HB.out.size) hm)
  have IC := Lib.hid (optC ho.lm A n c).info
  have L := Lib.hid (lay_len ho.lm)
  generalize optV o A n c = C at *
  clear hn hs hm ho
  go_enter Tryd.func13, Tryd.ntmps13
  go_upto_region 1 with fail
  rw [← hW]
  clear hW
  go_wp2_with (first
    | (refine wpList_load_row rfl 27 (.tmp 1) rfl w.heap.size rfl _ _ _ _ R.out Tryd.underlying27 rfl IC.out ?_)
    | (go_at_call 27; (refine BY.out.mono ?_); rintro e w2 ⟨A2, c2, rfl, O2, B2⟩
       have HB2 := Lib.hid (HB.out.trans (B2.mono HB.out.size))
       clear O2 B2))
  go_ret
  exact ⟨octC.ret_int (by rw [L.out]), HB2.out⟩
set_option maxRecDepth 100000 in
set_option maxHeartbeats 2000000 in
theorem rkept_any (o : Opt) (A : Option Addr) (n c : Nat) (w : World) (ho : o.Ok) :
    Calls Tryd.prog 29 #[.agg (optV o A n c)] w (Ret w (.agg (optV (keptO o) A n c))) := by
  have hzv := zeroOpt
  obtain ⟨W, hW⟩ : ∃ W, W = (w.alloc (.cells (optV o A n c) 27)).alloc (.cells (optV zOpt none 0 0) 27) := ⟨_, rfl⟩
  have e1 : (w.alloc (.cells (optV o A n c) 27)).heap.size = w.heap.size + 1 := alloc_size _ _
  have R0 : OptAt W w.heap.size o A n c := by unfold OptAt; rw [hW, Below.block (alloc_below _ _) _ (by rw [e1]; omega)]; exact heap_alloc_new w _
  have Z0 : OptAt W (w.heap.size + 1) zOpt none 0 0 := by unfold OptAt; rw [hW, ← e1]; exact heap_alloc_new _ _
  have B0 : Below w.heap.size w W := by rw [hW]; exact ((Below.refl _ _).alloc (Nat.le_refl _) _).alloc (by simp) _
  obtain ⟨o1, h1⟩ : ∃ o1, o1 = { o with ms := if o.hm then o.ms else 0 } := ⟨_, rfl⟩
  obtain ⟨o2, h2⟩ : ∃ o2, o2 = { o1 with sc := if o.hs then o.sc else 0 } := ⟨_, rfl⟩
  obtain ⟨o3, h3⟩ : ∃ o3, o3 = { o2 with va := if o.ht then o.va else 0, ec := if o.ht then o.ec else 0 } := ⟨_, rfl⟩
  obtain ⟨o4, h4⟩ : ∃ o4, o4 = { o3 with ki := if o.ha then o.ki else 0, ni := if o.ha then o.ni else 0, mac := if o.ha then o.mac else List.replicate 12 0 } := ⟨_, rfl⟩
  have K4 := Lib.hid (show keptO o = o4 by rw [h4, h3, h2, h1]; rfl)
  have m0 := ho.lm
  have m1 : o1.mac.length = 12 := by rw [h1]; exact m0
  have m2 : o2.mac.length = 12 := by rw [h2]; exact m1
  have m3 : o3.mac.length = 12 := by rw [h3]; exact m2
  have m4 : o4.mac.length = 12 := by rw [h4]; simp only; split; exact m0; rfl
  have HZ := Lib.hid (show (optV zOpt none 0 0).size = (optV o4 A n c).size by rw [(optC zOpt_ok.lm none 0 0).size, (optC m4 A n c).size])
  have I4 := Lib.hid (optC m4 A n c).info
  have O4 := Lib.hid (opt_one o4 A n c)
  have q2 : o1.hs = o.hs := by rw [h1]
  have q3 : o2.ht = o.ht := by rw [h2, h1]
  have q4 : o3.ha = o.ha := by rw [h3, h2, h1]
  have M0 := Lib.hid m0; have M1 := Lib.hid m1; have M2 := Lib.hid m2; have M3 := Lib.hid m3; have M4 := Lib.hid m4
  have H1 := Lib.hid h1; have H2 := Lib.hid h2; have H3 := Lib.hid h3; have H4 := Lib.hid h4
  have Q2 := Lib.hid q2; have Q3 := Lib.hid q3; have Q4 := Lib.hid q4
  rw [K4.out]
  have k0 := pkC.PkC.cell R0 (optC m0 A n c).hm
  clear h1 h2 h3 h4 m1 m2 m3 m4 q2 q3 q4
  have RR := Lib.hid R0; have ZZ := Lib.hid Z0; have BB := Lib.hid B0
  have k1 := pkC.PkC.cell R0 (optC m0 A n c).ms
  have f1 := R0.frozen 1
  clear R0 Z0 B0 m0 e1
  go_enter Tryd.func29, Tryd.ntmps29
  go_upto_region 1 with fail
  rw [← hW]
  clear hW hzv
  go_upto_if 5 with fail
  go_cut [] from 3 (fun wc => OptAt wc w.heap.size o1 A n c ∧ OptAt wc (w.heap.size + 1) zOpt none 0 0 ∧ Below w.heap.size w wc)
  case first =>
    cases hb : o.hm
    · rw [hb] at k0
      have E := Lib.hid (show o1 = { o with ms := 0 } by rw [H1.out, if_neg (by rw [hb]; decide)])
      clear hb
      go_wp2_with fail
      go_meet
      refine ⟨?_, ZZ.out.other (by show w.heap.size ≠ w.heap.size + 1; omega) _, BB.out.setCell (p := ⟨w.heap.size, 1, none⟩) (Nat.le_refl _) _⟩
      rw [E.out]
      exact RR.out.set_ 1 _ (optV_ms 0)
    · rw [hb] at k0
      have E := Lib.hid (show o1 = o by rw [H1.out, if_pos hb])
      clear hb
      go_wp2_with fail
      go_meet
      rw [E.out]
      exact ⟨RR.out, ZZ.out, BB.out⟩
  case rest =>
  obtain ⟨R1, Z1, B1⟩ := hcut
  clear k0 k1 f1
  generalize wc = wc1 at *
  have RR1 := Lib.hid R1; have ZZ1 := Lib.hid Z1; have BB1 := Lib.hid B1
  have k2 := pkC.PkC.cell R1 (optC M1.out A n c).hs
  have k3 := pkC.PkC.cell R1 (optC M1.out A n c).sc
  have f3 := R1.frozen 3
  rw [Q2.out] at k2
  clear R1 Z1 B1
  go_upto_if 9 with fail
  go_cut [] from 3 (fun wc => OptAt wc w.heap.size o2 A n c ∧ OptAt wc (w.heap.size + 1) zOpt none 0 0 ∧ Below w.heap.size w wc)
  case first =>
    cases hb : o.hs
    · rw [hb] at k2
      have E := Lib.hid (show o2 = { o1 with sc := 0 } by rw [H2.out, if_neg (by rw [hb]; decide)])
      clear hb
      go_wp2_with fail
      go_meet
      refine ⟨?_, ZZ1.out.other (by show w.heap.size ≠ w.heap.size + 1; omega) _, BB1.out.setCell (p := ⟨w.heap.size, 3, none⟩) (Nat.le_refl _) _⟩
      rw [E.out]
      exact RR1.out.set_ 3 _ (optV_sc 0)
    · rw [hb] at k2
      have E := Lib.hid (show o2 = o1 by rw [H2.out, if_pos hb, H1.out])
      clear hb
      go_wp2_with fail
      go_meet
      rw [E.out]
      exact ⟨RR1.out, ZZ1.out, BB1.out⟩
  case rest =>
  obtain ⟨R2, Z2, B2⟩ := hcut
  clear k2 k3 f3
  generalize wc = wc2 at *
  have RR2 := Lib.hid R2; have ZZ2 := Lib.hid Z2; have BB2 := Lib.hid B2
  have k6 := pkC.PkC.cell R2 (optC M2.out A n c).ht
  have k7 := pkC.PkC.cell R2 (optC M2.out A n c).va
  have k8 := pkC.PkC.cell R2 (optC M2.out A n c).ec
  have f7 := R2.frozen 7
  have f8 := R2.frozen 8
  rw [Q3.out] at k6
  clear R2 Z2 B2
  go_upto_if 13 with fail
  go_cut [] from 3 (fun wc => OptAt wc w.heap.size o3 A n c ∧ OptAt wc (w.heap.size + 1) zOpt none 0 0 ∧ Below w.heap.size w wc)
  case first =>
    cases hb : o.ht
    · rw [hb] at k6
      have E := Lib.hid (show o3 = { o2 with va := 0, ec := 0 } by rw [H3.out, if_neg (by rw [hb]; decide), if_neg (by rw [hb]; decide)])
      clear hb
      go_wp2_with fail
      go_meet
      refine ⟨?_, (ZZ2.out.other (by show w.heap.size ≠ w.heap.size + 1; omega) _).other (by show w.heap.size ≠ w.heap.size + 1; omega) _, (BB2.out.setCell (p := ⟨w.heap.size, 7, none⟩) (Nat.le_refl _) _).setCell (p := ⟨w.heap.size, 8, none⟩) (Nat.le_refl _) _⟩
      rw [E.out]
      exact (RR2.out.set_ 7 _ (optV_va 0)).set_ 8 _ (optV_ec 0)
    · rw [hb] at k6
      have E := Lib.hid (show o3 = o2 by rw [H3.out, if_pos hb, if_pos hb, H2.out, H1.out])
      clear hb
      go_wp2_with fail
      go_meet
      rw [E.out]
      exact ⟨RR2.out, ZZ2.out, BB2.out⟩
  case rest =>
  obtain ⟨R3, Z3, B3⟩ := hcut
  clear k6 k7 k8 f7 f8
  generalize wc = wc3 at *
  have RR3 := Lib.hid R3; have ZZ3 := Lib.hid Z3; have BB3 := Lib.hid B3
  have k9 := pkC.PkC.cell R3 (optC M3.out A n c).ha
  have k10 := pkC.PkC.cell R3 (optC M3.out A n c).ki
  have k11 := pkC.PkC.cell R3 (optC M3.out A n c).ni
  have f10 := R3.frozen 10
  have f11 := R3.frozen 11
  rw [Q4.out] at k9
  clear R3 Z3 B3
  go_upto_if 18 with fail
  go_cut [] from 3 (fun wc => OptAt wc w.heap.size o4 A n c ∧ OptAt wc (w.heap.size + 1) zOpt none 0 0 ∧ Below w.heap.size w wc)
  case first =>
    cases hb : o.ha
    · rw [hb] at k9
      have E := Lib.hid (show o4 = { { { o3 with ki := 0 } with ni := 0 } with mac := List.replicate 12 0 } by rw [H4.out, if_neg (by rw [hb]; decide), if_neg (by rw [hb]; decide), if_neg (by rw [hb]; decide)])
      clear hb
      have X1 := Lib.hid ((RR3.out.set_ 10 _ (optV_ki 0)).set_ 11 _ (optV_ni 0))
      obtain ⟨Z12, hZ12⟩ : ∃ Z, Z = (macL (List.replicate 12 0)).toArray := ⟨_, rfl⟩
      have MZ := Lib.hid (show Tryd.prog.built 25 [] = some Z12 by rw [hZ12]; exact mac_zero)
      have IZ := Lib.hid (show (Tryd.prog.info? 25).map (·.size) = some Z12.size by rw [hZ12]; exact mac_info (m := List.replicate 12 0) rfl)
      have SZ := Lib.hid (show 12 + Z12.size ≤ (optV { { o3 with ki := 0 } with ni := 0 } A n c).size by
        have h9 := (optC (o := { { o3 with ki := 0 } with ni := 0 }) M3.out A n c).size
        have h8 : Z12.size = 12 := by rw [hZ12]; rfl
        omega)
      have OZ := Lib.hid (show Z12.all (·.oneCell') = true by rw [hZ12]; exact mac_one _)
      have HE := Lib.hid (optV_mac (o := { { o3 with ki := 0 } with ni := 0 }) (A := A) (n := n) (c := c) (m := List.replicate 12 0) M3.out rfl)
      rw [← hZ12] at HE
      clear hZ12
      unfold OptAt at X1
      go_wp2_with (first
        | (with_reducible refine at_build 25 ?_; refine wpList_runG (by kernel_rfl) _ (built_run (T := 25) rfl MZ.out) ?_)
        | (refine partC.wpList_store_part rfl 25 (.tmp 22) (.tmp 19) rfl w.heap.size 12 Z12 rfl rfl 27 _ X1.out IZ.out SZ.out OZ.out ?_))
      go_meet
      refine ⟨?_, ?_, ?_⟩
      · rw [E.out]
        unfold OptAt
        rw [← HE.out]
        exact setRow_heap _ _ _ _ _ _ X1.out
      · unfold OptAt
        rw [setRow_other _ _ _ _ (show w.heap.size + 1 ≠ w.heap.size by omega)]
        exact (ZZ3.out.other (a := ⟨w.heap.size, 10, none⟩) (by show w.heap.size ≠ w.heap.size + 1; omega) _).other (a := ⟨w.heap.size, 11, none⟩) (by show w.heap.size ≠ w.heap.size + 1; omega) _
      · have B5 := (BB3.out.setCell (p := ⟨w.heap.size, 10, none⟩) (Nat.le_refl _) (.int .u8 0)).setCell (p := ⟨w.heap.size, 11, none⟩) (Nat.le_refl _) (.int .u8 0)
        refine ⟨B5.os, B5.tape, B5.output, by simpa using B5.size, fun k hk => ?_⟩
        rw [setRow_other _ _ _ _ (show k ≠ w.heap.size by omega)]
        exact B5.block k hk
    · rw [hb] at k9
      have E := Lib.hid (show o4 = o3 by rw [H4.out, if_pos hb, if_pos hb, if_pos hb, H3.out, H2.out, H1.out])
      clear hb
      go_wp2_with fail
      go_meet
      rw [E.out]
      exact ⟨RR3.out, ZZ3.out, BB3.out⟩
  case rest =>
  obtain ⟨R4, Z4, B4⟩ := hcut
  clear k9 k10 k11 f10 f11
  generalize wc = wc4 at *
  have RR4 := Lib.hid R4; have ZZ4 := Lib.hid Z4; have BB4 := Lib.hid B4
  clear R4 Z4 B4
  unfold OptAt at RR4 ZZ4
  generalize optV o4 A n c = C4 at *
  go_wp2_with (first
    | (refine wpList_load_row rfl 27 (.tmp 1) rfl w.heap.size rfl _ _ _ _ RR4.out Tryd.underlying27 rfl I4.out ?_)
    | (refine wpList_store_row rfl 27 (.tmp 2) (.tmp 23) rfl (w.heap.size + 1) C4 rfl rfl _ _ ZZ4.out I4.out HZ.out O4.out ?_))
  refine bodyPost_ret (v := .agg C4) (Go.results_cell_row Tryd.results29 _ _ (w.heap.size + 1) _ _ _ _ (by rfl) (setRow_heap _ _ _ _ _ _ ZZ4.out) Tryd.underlying27 rfl I4.out) rfl ?_
  refine ⟨rfl, BB4.out.os, BB4.out.tape, BB4.out.output, by simpa using BB4.out.size, fun k hk => ?_⟩
  rw [setRow_other _ _ _ _ (by omega)]
  exact BB4.out.block k hk
end Go.Proofs.YtapcjgmijcpfiaaDoor.opC

/-
  Whether options may be, and their bytes: the document's.
-/
namespace Go.Proofs.YtapcjgmijcpfiaaDoor.opC
open Go.ChangeShapes Go.WideShapes Go.ChangeAt Go.RowKit
open Go.Proofs.YtapcjgmijcpfiaaDoor.memC Go.Proofs.YtapcjgmijcpfiaaDoor.genC Go.Proofs.YtapcjgmijcpfiaaDoor.butC Go.Proofs.YtapcjgmijcpfiaaDoor.freeC Go.Proofs.YtapcjgmijcpfiaaDoor.adC
open Go.Proofs.YtapcjgmijcpfiaaDoor.pkC (OwnE)
set_option linter.unusedVariables false
def maV (g0 : Nat) (CP CK : Array Value) (sc : Int) (A : Option Addr) (n c N : Nat) : Nat → Value → World → Prop
  | 0, v, _ => v = .agg CP
  | 1, v, _ => v = .agg CK
  | 2, v, _ => v = .agg CP
  | 3, v, _ => v = .bool false
  | 4, v, _ => v = .bool false
  | 8, v, _ => v = .bool false
  | 9, v, _ => v = .bool false
  | 14, v, _ => v = .bool false
  | 15, v, _ => v = .bool false
  | 20, v, _ => v = .bool false
  | 21, v, _ => v = .bool false
  | _, _, _ => True
theorem maV.keep (g0 : Nat) (CP CK : Array Value) (sc : Int) (A : Option Addr) (n c N : Nat) (i : Nat) (v : Value) (w w' : World) (hb : Below w.heap.size w w') (h : maV g0 CP CK sc A n c N i v w) : maV g0 CP CK sc A n c N i v w' := by
  unfold maV at h ⊢
  split at h <;> exact h
def maT : List (Option Nat) := [none, none, some 21, some 0, some 1, some 2, some 3, some 4, some 5, some 6, some 7, some 8, some 9, some 10, some 11, some 12, some 13, some 14, some 15, some 16, some 17, some 18, some 19, some 20]
def mbV (g0 : Nat) (CP CK : Array Value) (sc : Int) (A : Option Addr) (n c N : Nat) : Nat → Value → World → Prop
  | 0, v, _ => v = .agg CP
  | 1, v, _ => v = .agg CK
  | 2, v, _ => v = .agg CP
  | 3, v, _ => v = .bool true
  | 4, v, _ => v = .bool true
  | 5, v, _ => v = .pointer (some ⟨g0, 3, none⟩)
  | 6, v, _ => v = .int .u8 sc
  | 7, v, _ => v = .bool false
  | 8, v, _ => v = .bool false
  | 9, v, _ => v = .bool false
  | 14, v, _ => v = .bool false
  | 15, v, _ => v = .bool false
  | 20, v, _ => v = .bool false
  | 21, v, _ => v = .bool false
  | _, _, _ => True
theorem mbV.keep (g0 : Nat) (CP CK : Array Value) (sc : Int) (A : Option Addr) (n c N : Nat) (i : Nat) (v : Value) (w w' : World) (hb : Below w.heap.size w w') (h : mbV g0 CP CK sc A n c N i v w) : mbV g0 CP CK sc A n c N i v w' := by
  unfold mbV at h ⊢
  split at h <;> exact h
def mbT : List (Option Nat) := [none, none, some 21, some 0, some 1, some 2, some 3, some 4, some 5, some 6, some 7, some 8, some 9, some 10, some 11, some 12, some 13, some 14, some 15, some 16, some 17, some 18, some 19, some 20]
def mcV (g0 : Nat) (CP CK : Array Value) (sc : Int) (A : Option Addr) (n c N : Nat) : Nat → Value → World → Prop
  | 0, v, _ => v = .agg CP
  | 1, v, _ => v = .agg CK
  | 2, v, _ => v = .agg CP
  | 3, v, _ => v = .bool true
  | 4, v, _ => v = .bool true
  | 5, v, _ => v = .pointer (some ⟨g0, 3, none⟩)
  | 6, v, _ => v = .int .u8 sc
  | 7, v, _ => v = .bool true
  | 8, v, _ => v = .bool true
  | 9, v, _ => v = .bool true
  | 10, v, _ => v = .pointer (some ⟨g0, 5, none⟩)
  | 11, v, _ => v = .slice A n c
  | 12, v, _ => v = .int .i64 n
  | 13, v, _ => v = .bool false
  | 14, v, _ => v = .bool false
  | 15, v, _ => v = .bool false
  | 20, v, _ => v = .bool false
  | 21, v, _ => v = .bool false
  | _, _, _ => True
theorem mcV.keep (g0 : Nat) (CP CK : Array Value) (sc : Int) (A : Option Addr) (n c N : Nat) (i : Nat) (v : Value) (w w' : World) (hb : Below w.heap.size w w') (h : mcV g0 CP CK sc A n c N i v w) : mcV g0 CP CK sc A n c N i v w' := by
  unfold mcV at h ⊢
  split at h <;> exact h
def mcT : List (Option Nat) := [none, none, some 21, some 0, some 1, some 2, some 3, some 4, some 5, some 6, some 7, some 8, some 9, some 10, some 11, some 12, some 13, some 14, some 15, some 16, some 17, some 18, some 19, some 20]
def mdV (g0 : Nat) (CP CK : Array Value) (sc : Int) (A : Option Addr) (n c N : Nat) : Nat → Value → World → Prop
  | 0, v, _ => v = .agg CP
  | 1, v, _ => v = .agg CK
  | 2, v, _ => v = .agg CP
  | 3, v, _ => v = .bool true
  | 4, v, _ => v = .bool true
  | 5, v, _ => v = .pointer (some ⟨g0, 3, none⟩)
  | 6, v, _ => v = .int .u8 sc
  | 7, v, _ => v = .bool true
  | 8, v, _ => v = .bool true
  | 9, v, _ => v = .bool true
  | 10, v, _ => v = .pointer (some ⟨g0, 5, none⟩)
  | 11, v, _ => v = .slice A n c
  | 12, v, _ => v = .int .i64 n
  | 13, v, _ => v = .bool true
  | 14, v, _ => v = .bool true
  | 15, v, _ => v = .bool true
  | 16, v, _ => v = .agg CP
  | 17, v, w => ∃ A' c', v = .slice A' N c'
  | 18, v, _ => v = .int .i64 N
  | 19, v, _ => v = .bool false
  | 20, v, _ => v = .bool false
  | 21, v, _ => v = .bool false
  | _, _, _ => True
theorem mdV.keep (g0 : Nat) (CP CK : Array Value) (sc : Int) (A : Option Addr) (n c N : Nat) (i : Nat) (v : Value) (w w' : World) (hb : Below w.heap.size w w') (h : mdV g0 CP CK sc A n c N i v w) : mdV g0 CP CK sc A n c N i v w' := by
  by_cases e17 : i = 17
  · subst e17
    exact h
  unfold mdV at h ⊢
  split at h <;> first | exact h | exact absurd rfl (by assumption)
def mdT : List (Option Nat) := [none, none, some 21, some 0, some 1, some 2, some 3, some 4, some 5, some 6, some 7, some 8, some 9, some 10, some 11, some 12, some 13, some 14, some 15, some 16, some 17, some 18, some 19, some 20]
def meV (g0 : Nat) (CP CK : Array Value) (sc : Int) (A : Option Addr) (n c N : Nat) : Nat → Value → World → Prop
  | 0, v, _ => v = .agg CP
  | 1, v, _ => v = .agg CK
  | 2, v, _ => v = .agg CP
  | 3, v, _ => v = .bool true
  | 4, v, _ => v = .bool true
  | 5, v, _ => v = .pointer (some ⟨g0, 3, none⟩)
  | 6, v, _ => v = .int .u8 sc
  | 7, v, _ => v = .bool true
  | 8, v, _ => v = .bool true
  | 9, v, _ => v = .bool true
  | 10, v, _ => v = .pointer (some ⟨g0, 5, none⟩)
  | 11, v, _ => v = .slice A n c
  | 12, v, _ => v = .int .i64 n
  | 13, v, _ => v = .bool true
  | 14, v, _ => v = .bool true
  | 15, v, _ => v = .bool true
  | 16, v, _ => v = .agg CP
  | 17, v, w => ∃ A' c', v = .slice A' N c'
  | 18, v, _ => v = .int .i64 N
  | 19, v, _ => v = .bool true
  | 20, v, _ => v = .bool true
  | 21, v, _ => v = .bool true
  | _, _, _ => True
theorem meV.keep (g0 : Nat) (CP CK : Array Value) (sc : Int) (A : Option Addr) (n c N : Nat) (i : Nat) (v : Value) (w w' : World) (hb : Below w.heap.size w w') (h : meV g0 CP CK sc A n c N i v w) : meV g0 CP CK sc A n c N i v w' := by
  by_cases e17 : i = 17
  · subst e17
    exact h
  unfold meV at h ⊢
  split at h <;> first | exact h | exact absurd rfl (by assumption)
def meT : List (Option Nat) := [none, none, some 21, some 0, some 1, some 2, some 3, some 4, some 5, some 6, some 7, some 8, some 9, some 10, some 11, some 12, some 13, some 14, some 15, some 16, some 17, some 18, some 19, some 20]
set_option maxRecDepth 100000 in
set_option maxHeartbeats 4000000 in
theorem rmay_any (o : Opt) (A : Option Addr) (n c : Nat) (w : World) (ho : o.Ok) (hn : o.sk.length = n) (hs : Prs w w.heap.size A n o.sk) (hm : n ≤ 600) :
    Calls Tryd.prog 15 #[.agg (optV o A n c)] w (Ret w (.bool (mayB o))) := by
  obtain ⟨W, hW⟩ : ∃ W, W = w.alloc (.cells (optV o A n c) 27) := ⟨_, rfl⟩
  have R : W.heap[w.heap.size]? = some (.cells (optV o A n c) 27 (0, 0)) := by rw [hW]; exact heap_alloc_new _ _
  have HB := Lib.hid (show Below w.heap.size w W by rw [hW]; exact alloc_below _ _)
  have KR := Lib.hid (fun (w' : World) (h : Gr W w') => (show w'.heap[w.heap.size]? = some (.cells (optV o A n c) 27 (0, 0)) by rw [Below.block h _ (lt_of_row R)]; exact R))
  have OC := optC ho.lm A n c
  have K3 := Lib.hid (fun w' (h : Gr W w') => pkC.PkC.cell (KR.out w' h) OC.sc)
  have K5 := Lib.hid (fun w' (h : Gr W w') => pkC.PkC.cell (KR.out w' h) OC.sk)
  have IP := Lib.hid OC.info
  have PR := fun (w' : World) (h : Gr W w') => (hs.below (HB.out.trans (Below.mono h HB.out.size))).more (Nat.le_trans HB.out.size (Below.size h))
  have KT := Lib.hid (fun w' => rkept_any o A n c w' ho)
  have SM := Lib.hid (fun w' (h : Gr W w') => (show Calls Tryd.prog 17 #[.agg (optV (keptO o) A n c), .agg (optV o A n c)] w' (Ret w' (.bool (keptB o))) by
    have hk : Prs w' w'.heap.size A n (keptO o).sk := PR w' h
    have h9 := rsame_any (keptO o) o A A n c n c w' (keptO_ok ho).lm ho.lm hk (PR w' h) (by omega) (by omega)
    rw [kept_same] at h9
    exact h9))
  have BY := Lib.hid (fun w' (h : Gr W w') => bytes_any o A n c w' ho hn (PR w' h) hm)
  obtain ⟨N, hN⟩ : ∃ N, N = (layL o).length := ⟨_, rfl⟩
  have eN : N = sizeN o := hN.trans (lay_len ho.lm)
  unfold OwnB at BY
  rw [← hN] at BY
  obtain ⟨V, hV⟩ : ∃ V, V = mayB o := ⟨_, rfl⟩
  rw [← hV]
  unfold mayB at hV
  rw [hn, ← eN] at hV
  have HV0 := Lib.hid hV
  generalize optV (keptO o) A n c = CK at *
  generalize optV o A n c = CP at *
  generalize layL o = LY at *
  generalize keptB o = b0 at *
  generalize o.sc = sc at *
  clear OC hN eN hV hn hs hm PR R
  cases b0
  · have HV := Lib.hid (show V = false by rw [HV0.out]; rfl)
    clear HV0
    go_enter Tryd.func15, Tryd.ntmps15
    go_upto_region 1 with fail
    rw [← hW]
    clear hW
    refine with_act fun a0 ha0 => ?_
    have hl : maT.length = a0.tmps.size := by rw [ha0]; rfl
    have k1 : a0.tmps[1]?.getD undef = .pointer (some ⟨w.heap.size, 0, none⟩) := by rw [ha0]; rfl
    refine wp_region_vals (by kernel_rfl) maT (by kernel_rfl) (by kernel_rfl) hl (fun i => if i = 21 then .bool false else undef) (by rw [ha0]; rfl) (Gr W) (maV w.heap.size CP CK sc A n c N) (gr_drewG _ _) (maV.keep _ _ _ _ _ _ _ _) ⟨?_, ?_, ?_, ?_, ?_, ?_, ?_, ?_, ?_, ?_, ?_, ?_, ?_, ?_, ?_, ?_, ?_, ?_, ?_, ?_, ?_, ?_, trivial⟩ ?_
    · refine step_plain [] (by kernel_rfl) rfl fun us w' hG hV => ?_
      have o1 := (frame_old2 (us := us) (a := a0) (show (maT[1]?).join = none from rfl)).trans k1
      have hg1 := (KR.out w' hG)
      generalize frame maT a0 us = fr at *
      exact load_ok 27 1 rfl (w.heap.size) o1 _ _ (0, 0) _ hg1 Tryd.underlying27 rfl IP.out hG rfl
    · refine step_plain [0] (by kernel_rfl) rfl fun us w' hG hV => ?_
      have e0 : us 0 = .agg CP := hV 0 (by simp)
      have v0 := (frame_at2 (us := us) hl (show (maT[3]?).join = some 0 from rfl)).trans e0
      generalize frame maT a0 us = fr at *
      exact call_ok (f := 29) (args := #[.agg CP]) (by go_simp) ((KT.out w').mono fun e w'' h => ⟨_, h.1, hG.below h.2, h.2, rfl⟩)
    · refine step_plain [] (by kernel_rfl) rfl fun us w' hG hV => ?_
      have o1 := (frame_old2 (us := us) (a := a0) (show (maT[1]?).join = none from rfl)).trans k1
      have hg1 := (KR.out w' hG)
      generalize frame maT a0 us = fr at *
      exact load_ok 27 1 rfl (w.heap.size) o1 _ _ (0, 0) _ hg1 Tryd.underlying27 rfl IP.out hG rfl
    · refine step_plain [1, 2] (by kernel_rfl) rfl fun us w' hG hV => ?_
      have e1 : us 1 = .agg CK := hV 1 (by simp)
      have v1 := (frame_at2 (us := us) hl (show (maT[4]?).join = some 1 from rfl)).trans e1
      have e2 : us 2 = .agg CP := hV 2 (by simp)
      have v2 := (frame_at2 (us := us) hl (show (maT[5]?).join = some 2 from rfl)).trans e2
      generalize frame maT a0 us = fr at *
      exact call_ok (f := 17) (args := #[.agg CK, .agg CP]) (by go_simp) ((SM.out w' hG).mono fun e w'' h => ⟨_, h.1, hG.below h.2, h.2, rfl⟩)
    · refine step_plain [3] (by kernel_rfl) rfl fun us w' hG hV => ?_
      have e3 : us 3 = .bool false := hV 3 (by simp)
      have v3 := (frame_at2 (us := us) hl (show (maT[6]?).join = some 3 from rfl)).trans e3
      generalize frame maT a0 us = fr at *
      exact val_ok (v := .bool false) (w' := w') (by go_simp) hG (Below.refl _ _) rfl
    · refine step_cnd [4] (by kernel_rfl) (j := 4) (t := 7) rfl (by simp) rfl hl rfl false (fun v w h => h) (fun _ w => trivial) fun hc => by cases hc
    · refine step_cnd [4] (by kernel_rfl) (j := 4) (t := 7) rfl (by simp) rfl hl rfl false (fun v w h => h) (fun _ w => trivial) fun hc => by cases hc
    · refine step_cnd [4] (by kernel_rfl) (j := 4) (t := 7) rfl (by simp) rfl hl rfl false (fun v w h => h) (fun _ w => trivial) fun hc => by cases hc
    · refine step_plain [4] (by kernel_rfl) rfl fun us w' hG hV => ?_
      have e4 : us 4 = .bool false := hV 4 (by simp)
      have v4 := (frame_at2 (us := us) hl (show (maT[7]?).join = some 4 from rfl)).trans e4
      generalize frame maT a0 us = fr at *
      exact val_ok (v := .bool false) (w' := w') (by go_simp) hG (Below.refl _ _) rfl
    · refine step_plain [8] (by kernel_rfl) rfl fun us w' hG hV => ?_
      have e8 : us 8 = .bool false := hV 8 (by simp)
      have v8 := (frame_at2 (us := us) hl (show (maT[11]?).join = some 8 from rfl)).trans e8
      generalize frame maT a0 us = fr at *
      exact val_ok (v := .bool false) (w' := w') (by go_simp) hG (Below.refl _ _) rfl
    · refine step_cnd [9] (by kernel_rfl) (j := 9) (t := 12) rfl (by simp) rfl hl rfl false (fun v w h => h) (fun _ w => trivial) fun hc => by cases hc
    · refine step_cnd [9] (by kernel_rfl) (j := 9) (t := 12) rfl (by simp) rfl hl rfl false (fun v w h => h) (fun _ w => trivial) fun hc => by cases hc
    · refine step_cnd [9] (by kernel_rfl) (j := 9) (t := 12) rfl (by simp) rfl hl rfl false (fun v w h => h) (fun _ w => trivial) fun hc => by cases hc
    · refine step_cnd [9] (by kernel_rfl) (j := 9) (t := 12) rfl (by simp) rfl hl rfl false (fun v w h => h) (fun _ w => trivial) fun hc => by cases hc
    · refine step_plain [9] (by kernel_rfl) rfl fun us w' hG hV => ?_
      have e9 : us 9 = .bool false := hV 9 (by simp)
      have v9 := (frame_at2 (us := us) hl (show (maT[12]?).join = some 9 from rfl)).trans e9
      generalize frame maT a0 us = fr at *
      exact val_ok (v := .bool false) (w' := w') (by go_simp) hG (Below.refl _ _) rfl
    · refine step_plain [14] (by kernel_rfl) rfl fun us w' hG hV => ?_
      have e14 : us 14 = .bool false := hV 14 (by simp)
      have v14 := (frame_at2 (us := us) hl (show (maT[17]?).join = some 14 from rfl)).trans e14
      generalize frame maT a0 us = fr at *
      exact val_ok (v := .bool false) (w' := w') (by go_simp) hG (Below.refl _ _) rfl
    · refine step_cnd [15] (by kernel_rfl) (j := 15) (t := 18) rfl (by simp) rfl hl rfl false (fun v w h => h) (fun _ w => trivial) fun hc => by cases hc
    · refine step_cnd [15] (by kernel_rfl) (j := 15) (t := 18) rfl (by simp) rfl hl rfl false (fun v w h => h) (fun _ w => trivial) fun hc => by cases hc
    · refine step_cnd [15] (by kernel_rfl) (j := 15) (t := 18) rfl (by simp) rfl hl rfl false (fun v w h => h) (fun _ w => trivial) fun hc => by cases hc
    · refine step_cnd [15] (by kernel_rfl) (j := 15) (t := 18) rfl (by simp) rfl hl rfl false (fun v w h => h) (fun _ w => trivial) fun hc => by cases hc
    · refine step_plain [15] (by kernel_rfl) rfl fun us w' hG hV => ?_
      have e15 : us 15 = .bool false := hV 15 (by simp)
      have v15 := (frame_at2 (us := us) hl (show (maT[18]?).join = some 15 from rfl)).trans e15
      generalize frame maT a0 us = fr at *
      exact val_ok (v := .bool false) (w' := w') (by go_simp) hG (Below.refl _ _) rfl
    · refine step_plain [20] (by kernel_rfl) rfl fun us w' hG hV => ?_
      have e20 : us 20 = .bool false := hV 20 (by simp)
      have v20 := (frame_at2 (us := us) hl (show (maT[23]?).join = some 20 from rfl)).trans e20
      generalize frame maT a0 us = fr at *
      exact val_ok (v := .bool false) (w' := w') (by go_simp) hG (Below.refl _ _) rfl
    · intro us w5 hG hV
      have e8 : us 21 = .bool false := hV 21 (by decide)
      subst ha0
      simp only [frame, maT, fill]
      rw [e8]
      have HG3 := Lib.hid hG
      clear hV hl hG k1 e8
      go_wp2_with fail
      go_ret
      exact ⟨ret_bool HV.out.symm, HB.out.trans (Below.mono HG3.out HB.out.size)⟩
  by_cases h1 : sc ≤ 14
  rotate_left
  · have Q1 := Lib.hid (show decide (sc ≤ 14) = false from decide_eq_false h1)
    have HV := Lib.hid (show V = false by rw [HV0.out, Q1.out]; rfl)
    clear HV0 h1
    go_enter Tryd.func15, Tryd.ntmps15
    go_upto_region 1 with fail
    rw [← hW]
    clear hW
    refine with_act fun a0 ha0 => ?_
    have hl : mbT.length = a0.tmps.size := by rw [ha0]; rfl
    have k1 : a0.tmps[1]?.getD undef = .pointer (some ⟨w.heap.size, 0, none⟩) := by rw [ha0]; rfl
    refine wp_region_vals (by kernel_rfl) mbT (by kernel_rfl) (by kernel_rfl) hl (fun i => if i = 21 then .bool false else undef) (by rw [ha0]; rfl) (Gr W) (mbV w.heap.size CP CK sc A n c N) (gr_drewG _ _) (mbV.keep _ _ _ _ _ _ _ _) ⟨?_, ?_, ?_, ?_, ?_, ?_, ?_, ?_, ?_, ?_, ?_, ?_, ?_, ?_, ?_, ?_, ?_, ?_, ?_, ?_, ?_, ?_, trivial⟩ ?_
    · refine step_plain [] (by kernel_rfl) rfl fun us w' hG hV => ?_
      have o1 := (frame_old2 (us := us) (a := a0) (show (mbT[1]?).join = none from rfl)).trans k1
      have hg1 := (KR.out w' hG)
      generalize frame mbT a0 us = fr at *
      exact load_ok 27 1 rfl (w.heap.size) o1 _ _ (0, 0) _ hg1 Tryd.underlying27 rfl IP.out hG rfl
    · refine step_plain [0] (by kernel_rfl) rfl fun us w' hG hV => ?_
      have e0 : us 0 = .agg CP := hV 0 (by simp)
      have v0 := (frame_at2 (us := us) hl (show (mbT[3]?).join = some 0 from rfl)).trans e0
      generalize frame mbT a0 us = fr at *
      exact call_ok (f := 29) (args := #[.agg CP]) (by go_simp) ((KT.out w').mono fun e w'' h => ⟨_, h.1, hG.below h.2, h.2, rfl⟩)
    · refine step_plain [] (by kernel_rfl) rfl fun us w' hG hV => ?_
      have o1 := (frame_old2 (us := us) (a := a0) (show (mbT[1]?).join = none from rfl)).trans k1
      have hg1 := (KR.out w' hG)
      generalize frame mbT a0 us = fr at *
      exact load_ok 27 1 rfl (w.heap.size) o1 _ _ (0, 0) _ hg1 Tryd.underlying27 rfl IP.out hG rfl
    · refine step_plain [1, 2] (by kernel_rfl) rfl fun us w' hG hV => ?_
      have e1 : us 1 = .agg CK := hV 1 (by simp)
      have v1 := (frame_at2 (us := us) hl (show (mbT[4]?).join = some 1 from rfl)).trans e1
      have e2 : us 2 = .agg CP := hV 2 (by simp)
      have v2 := (frame_at2 (us := us) hl (show (mbT[5]?).join = some 2 from rfl)).trans e2
      generalize frame mbT a0 us = fr at *
      exact call_ok (f := 17) (args := #[.agg CK, .agg CP]) (by go_simp) ((SM.out w' hG).mono fun e w'' h => ⟨_, h.1, hG.below h.2, h.2, rfl⟩)
    · refine step_plain [3] (by kernel_rfl) rfl fun us w' hG hV => ?_
      have e3 : us 3 = .bool true := hV 3 (by simp)
      have v3 := (frame_at2 (us := us) hl (show (mbT[6]?).join = some 3 from rfl)).trans e3
      generalize frame mbT a0 us = fr at *
      exact val_ok (v := .bool true) (w' := w') (by go_simp) hG (Below.refl _ _) rfl
    · refine step_guard [4] (by kernel_rfl) (j := 4) (t := 7) (b := true) rfl (by simp) rfl hl rfl (fun v w h => h) fun us w' hG hV => ?_
      have o1 := (frame_old2 (us := us) (a := a0) (show (mbT[1]?).join = none from rfl)).trans k1
      generalize frame mbT a0 us = fr at *
      exact val_ok (v := .pointer (some ⟨w.heap.size, 3, none⟩)) (w' := w') (by go_simp) hG (Below.refl _ _) rfl
    · refine step_guard [4, 5] (by kernel_rfl) (j := 4) (t := 7) (b := true) rfl (by simp) rfl hl rfl (fun v w h => h) fun us w' hG hV => ?_
      have e5 : us 5 = .pointer (some ⟨w.heap.size, 3, none⟩) := hV 5 (by simp)
      have v5 := (frame_at2 (us := us) hl (show (mbT[8]?).join = some 5 from rfl)).trans e5
      have hc := K3.out w' hG
      generalize frame mbT a0 us = fr at *
      exact val_ok (v := .int .u8 sc) (w' := w') (by go_simp) hG (Below.refl _ _) rfl
    · refine step_guard [4, 6] (by kernel_rfl) (j := 4) (t := 7) (b := true) rfl (by simp) rfl hl rfl (fun v w h => h) fun us w' hG hV => ?_
      have e6 : us 6 = .int .u8 sc := hV 6 (by simp)
      have v6 := (frame_at2 (us := us) hl (show (mbT[9]?).join = some 6 from rfl)).trans e6
      have q := Q1.out
      generalize frame mbT a0 us = fr at *
      exact val_ok (v := .bool false) (w' := w') (by go_simp) hG (Below.refl _ _) rfl
    · refine step_plain [4, 7] (by kernel_rfl) rfl fun us w' hG hV => ?_
      have e4 : us 4 = .bool true := hV 4 (by simp)
      have v4 := (frame_at2 (us := us) hl (show (mbT[7]?).join = some 4 from rfl)).trans e4
      have e7 : us 7 = .bool false := hV 7 (by simp)
      have v7 := (frame_at2 (us := us) hl (show (mbT[10]?).join = some 7 from rfl)).trans e7
      generalize frame mbT a0 us = fr at *
      exact val_ok (v := .bool false) (w' := w') (by go_simp) hG (Below.refl _ _) rfl
    · refine step_plain [8] (by kernel_rfl) rfl fun us w' hG hV => ?_
      have e8 : us 8 = .bool false := hV 8 (by simp)
      have v8 := (frame_at2 (us := us) hl (show (mbT[11]?).join = some 8 from rfl)).trans e8
      generalize frame mbT a0 us = fr at *
      exact val_ok (v := .bool false) (w' := w') (by go_simp) hG (Below.refl _ _) rfl
    · refine step_cnd [9] (by kernel_rfl) (j := 9) (t := 12) rfl (by simp) rfl hl rfl false (fun v w h => h) (fun _ w => trivial) fun hc => by cases hc
    · refine step_cnd [9] (by kernel_rfl) (j := 9) (t := 12) rfl (by simp) rfl hl rfl false (fun v w h => h) (fun _ w => trivial) fun hc => by cases hc
    · refine step_cnd [9] (by kernel_rfl) (j := 9) (t := 12) rfl (by simp) rfl hl rfl false (fun v w h => h) (fun _ w => trivial) fun hc => by cases hc
    · refine step_cnd [9] (by kernel_rfl) (j := 9) (t := 12) rfl (by simp) rfl hl rfl false (fun v w h => h) (fun _ w => trivial) fun hc => by cases hc
    · refine step_plain [9] (by kernel_rfl) rfl fun us w' hG hV => ?_
      have e9 : us 9 = .bool false := hV 9 (by simp)
      have v9 := (frame_at2 (us := us) hl (show (mbT[12]?).join = some 9 from rfl)).trans e9
      generalize frame mbT a0 us = fr at *
      exact val_ok (v := .bool false) (w' := w') (by go_simp) hG (Below.refl _ _) rfl
    · refine step_plain [14] (by kernel_rfl) rfl fun us w' hG hV => ?_
      have e14 : us 14 = .bool false := hV 14 (by simp)
      have v14 := (frame_at2 (us := us) hl (show (mbT[17]?).join = some 14 from rfl)).trans e14
      generalize frame mbT a0 us = fr at *
      exact val_ok (v := .bool false) (w' := w') (by go_simp) hG (Below.refl _ _) rfl
    · refine step_cnd [15] (by kernel_rfl) (j := 15) (t := 18) rfl (by simp) rfl hl rfl false (fun v w h => h) (fun _ w => trivial) fun hc => by cases hc
    · refine step_cnd [15] (by kernel_rfl) (j := 15) (t := 18) rfl (by simp) rfl hl rfl false (fun v w h => h) (fun _ w => trivial) fun hc => by cases hc
    · refine step_cnd [15] (by kernel_rfl) (j := 15) (t := 18) rfl (by simp) rfl hl rfl false (fun v w h => h) (fun _ w => trivial) fun hc => by cases hc
    · refine step_cnd [15] (by kernel_rfl) (j := 15) (t := 18) rfl (by simp) rfl hl rfl false (fun v w h => h) (fun _ w => trivial) fun hc => by cases hc
    · refine step_plain [15] (by kernel_rfl) rfl fun us w' hG hV => ?_
      have e15 : us 15 = .bool false := hV 15 (by simp)
      have v15 := (frame_at2 (us := us) hl (show (mbT[18]?).join = some 15 from rfl)).trans e15
      generalize frame mbT a0 us = fr at *
      exact val_ok (v := .bool false) (w' := w') (by go_simp) hG (Below.refl _ _) rfl
    · refine step_plain [20] (by kernel_rfl) rfl fun us w' hG hV => ?_
      have e20 : us 20 = .bool false := hV 20 (by simp)
      have v20 := (frame_at2 (us := us) hl (show (mbT[23]?).join = some 20 from rfl)).trans e20
      generalize frame mbT a0 us = fr at *
      exact val_ok (v := .bool false) (w' := w') (by go_simp) hG (Below.refl _ _) rfl
    · intro us w5 hG hV
      have e8 : us 21 = .bool false := hV 21 (by decide)
      subst ha0
      simp only [frame, mbT, fill]
      rw [e8]
      have HG3 := Lib.hid hG
      clear hV hl hG k1 e8
      go_wp2_with fail
      go_ret
      exact ⟨ret_bool HV.out.symm, HB.out.trans (Below.mono HG3.out HB.out.size)⟩
  have Q1 := Lib.hid (show decide (sc ≤ 14) = true from decide_eq_true h1)
  by_cases h2 : n ≤ 4
  rotate_left
  · have Q2 := Lib.hid (show decide ((n : Int) ≤ 4) = false from decide_eq_false (by omega))
    have HV := Lib.hid (show V = false by rw [HV0.out, Q1.out, decide_eq_false h2]; rfl)
    clear HV0 h1 h2
    go_enter Tryd.func15, Tryd.ntmps15
    go_upto_region 1 with fail
    rw [← hW]
    clear hW
    refine with_act fun a0 ha0 => ?_
    have hl : mcT.length = a0.tmps.size := by rw [ha0]; rfl
    have k1 : a0.tmps[1]?.getD undef = .pointer (some ⟨w.heap.size, 0, none⟩) := by rw [ha0]; rfl
    refine wp_region_vals (by kernel_rfl) mcT (by kernel_rfl) (by kernel_rfl) hl (fun i => if i = 21 then .bool false else undef) (by rw [ha0]; rfl) (Gr W) (mcV w.heap.size CP CK sc A n c N) (gr_drewG _ _) (mcV.keep _ _ _ _ _ _ _ _) ⟨?_, ?_, ?_, ?_, ?_, ?_, ?_, ?_, ?_, ?_, ?_, ?_, ?_, ?_, ?_, ?_, ?_, ?_, ?_, ?_, ?_, ?_, trivial⟩ ?_
    · refine step_plain [] (by kernel_rfl) rfl fun us w' hG hV => ?_
      have o1 := (frame_old2 (us := us) (a := a0) (show (mcT[1]?).join = none from rfl)).trans k1
      have hg1 := (KR.out w' hG)
      generalize frame mcT a0 us = fr at *
      exact load_ok 27 1 rfl (w.heap.size) o1 _ _ (0, 0) _ hg1 Tryd.underlying27 rfl IP.out hG rfl
    · refine step_plain [0] (by kernel_rfl) rfl fun us w' hG hV => ?_
      have e0 : us 0 = .agg CP := hV 0 (by simp)
      have v0 := (frame_at2 (us := us) hl (show (mcT[3]?).join = some 0 from rfl)).trans e0
      generalize frame mcT a0 us = fr at *
      exact call_ok (f := 29) (args := #[.agg CP]) (by go_simp) ((KT.out w').mono fun e w'' h => ⟨_, h.1, hG.below h.2, h.2, rfl⟩)
    · refine step_plain [] (by kernel_rfl) rfl fun us w' hG hV => ?_
      have o1 := (frame_old2 (us := us) (a := a0) (show (mcT[1]?).join = none from rfl)).trans k1
      have hg1 := (KR.out w' hG)
      generalize frame mcT a0 us = fr at *
      exact load_ok 27 1 rfl (w.heap.size) o1 _ _ (0, 0) _ hg1 Tryd.underlying27 rfl IP.out hG rfl
    · refine step_plain [1, 2] (by kernel_rfl) rfl fun us w' hG hV => ?_
      have e1 : us 1 = .agg CK := hV 1 (by simp)
      have v1 := (frame_at2 (us := us) hl (show (mcT[4]?).join = some 1 from rfl)).trans e1
      have e2 : us 2 = .agg CP := hV 2 (by simp)
      have v2 := (frame_at2 (us := us) hl (show (mcT[5]?).join = some 2 from rfl)).trans e2
      generalize frame mcT a0 us = fr at *
      exact call_ok (f := 17) (args := #[.agg CK, .agg CP]) (by go_simp) ((SM.out w' hG).mono fun e w'' h => ⟨_, h.1, hG.below h.2, h.2, rfl⟩)
    · refine step_plain [3] (by kernel_rfl) rfl fun us w' hG hV => ?_
      have e3 : us 3 = .bool true := hV 3 (by simp)
      have v3 := (frame_at2 (us := us) hl (show (mcT[6]?).join = some 3 from rfl)).trans e3
      generalize frame mcT a0 us = fr at *
      exact val_ok (v := .bool true) (w' := w') (by go_simp) hG (Below.refl _ _) rfl
    · refine step_guard [4] (by kernel_rfl) (j := 4) (t := 7) (b := true) rfl (by simp) rfl hl rfl (fun v w h => h) fun us w' hG hV => ?_
      have o1 := (frame_old2 (us := us) (a := a0) (show (mcT[1]?).join = none from rfl)).trans k1
      generalize frame mcT a0 us = fr at *
      exact val_ok (v := .pointer (some ⟨w.heap.size, 3, none⟩)) (w' := w') (by go_simp) hG (Below.refl _ _) rfl
    · refine step_guard [4, 5] (by kernel_rfl) (j := 4) (t := 7) (b := true) rfl (by simp) rfl hl rfl (fun v w h => h) fun us w' hG hV => ?_
      have e5 : us 5 = .pointer (some ⟨w.heap.size, 3, none⟩) := hV 5 (by simp)
      have v5 := (frame_at2 (us := us) hl (show (mcT[8]?).join = some 5 from rfl)).trans e5
      have hc := K3.out w' hG
      generalize frame mcT a0 us = fr at *
      exact val_ok (v := .int .u8 sc) (w' := w') (by go_simp) hG (Below.refl _ _) rfl
    · refine step_guard [4, 6] (by kernel_rfl) (j := 4) (t := 7) (b := true) rfl (by simp) rfl hl rfl (fun v w h => h) fun us w' hG hV => ?_
      have e6 : us 6 = .int .u8 sc := hV 6 (by simp)
      have v6 := (frame_at2 (us := us) hl (show (mcT[9]?).join = some 6 from rfl)).trans e6
      have q := Q1.out
      generalize frame mcT a0 us = fr at *
      exact val_ok (v := .bool true) (w' := w') (by go_simp) hG (Below.refl _ _) rfl
    · refine step_plain [4, 7] (by kernel_rfl) rfl fun us w' hG hV => ?_
      have e4 : us 4 = .bool true := hV 4 (by simp)
      have v4 := (frame_at2 (us := us) hl (show (mcT[7]?).join = some 4 from rfl)).trans e4
      have e7 : us 7 = .bool true := hV 7 (by simp)
      have v7 := (frame_at2 (us := us) hl (show (mcT[10]?).join = some 7 from rfl)).trans e7
      generalize frame mcT a0 us = fr at *
      exact val_ok (v := .bool true) (w' := w') (by go_simp) hG (Below.refl _ _) rfl
    · refine step_plain [8] (by kernel_rfl) rfl fun us w' hG hV => ?_
      have e8 : us 8 = .bool true := hV 8 (by simp)
      have v8 := (frame_at2 (us := us) hl (show (mcT[11]?).join = some 8 from rfl)).trans e8
      generalize frame mcT a0 us = fr at *
      exact val_ok (v := .bool true) (w' := w') (by go_simp) hG (Below.refl _ _) rfl
    · refine step_guard [9] (by kernel_rfl) (j := 9) (t := 12) (b := true) rfl (by simp) rfl hl rfl (fun v w h => h) fun us w' hG hV => ?_
      have o1 := (frame_old2 (us := us) (a := a0) (show (mcT[1]?).join = none from rfl)).trans k1
      generalize frame mcT a0 us = fr at *
      exact val_ok (v := .pointer (some ⟨w.heap.size, 5, none⟩)) (w' := w') (by go_simp) hG (Below.refl _ _) rfl
    · refine step_guard [9, 10] (by kernel_rfl) (j := 9) (t := 12) (b := true) rfl (by simp) rfl hl rfl (fun v w h => h) fun us w' hG hV => ?_
      have e10 : us 10 = .pointer (some ⟨w.heap.size, 5, none⟩) := hV 10 (by simp)
      have v10 := (frame_at2 (us := us) hl (show (mcT[13]?).join = some 10 from rfl)).trans e10
      have hc := K5.out w' hG
      generalize frame mcT a0 us = fr at *
      exact val_ok (v := .slice A n c) (w' := w') (by go_simp) hG (Below.refl _ _) rfl
    · refine step_guard [9, 11] (by kernel_rfl) (j := 9) (t := 12) (b := true) rfl (by simp) rfl hl rfl (fun v w h => h) fun us w' hG hV => ?_
      have e11 : us 11 = .slice A n c := hV 11 (by simp)
      have v11 := (frame_at2 (us := us) hl (show (mcT[14]?).join = some 11 from rfl)).trans e11
      generalize frame mcT a0 us = fr at *
      exact val_ok (v := .int .i64 n) (w' := w') (by go_simp) hG (Below.refl _ _) rfl
    · refine step_guard [9, 12] (by kernel_rfl) (j := 9) (t := 12) (b := true) rfl (by simp) rfl hl rfl (fun v w h => h) fun us w' hG hV => ?_
      have e12 : us 12 = .int .i64 n := hV 12 (by simp)
      have v12 := (frame_at2 (us := us) hl (show (mcT[15]?).join = some 12 from rfl)).trans e12
      have q := Q2.out
      generalize frame mcT a0 us = fr at *
      exact val_ok (v := .bool false) (w' := w') (by go_simp) hG (Below.refl _ _) rfl
    · refine step_plain [9, 13] (by kernel_rfl) rfl fun us w' hG hV => ?_
      have e9 : us 9 = .bool true := hV 9 (by simp)
      have v9 := (frame_at2 (us := us) hl (show (mcT[12]?).join = some 9 from rfl)).trans e9
      have e13 : us 13 = .bool false := hV 13 (by simp)
      have v13 := (frame_at2 (us := us) hl (show (mcT[16]?).join = some 13 from rfl)).trans e13
      generalize frame mcT a0 us = fr at *
      exact val_ok (v := .bool false) (w' := w') (by go_simp) hG (Below.refl _ _) rfl
    · refine step_plain [14] (by kernel_rfl) rfl fun us w' hG hV => ?_
      have e14 : us 14 = .bool false := hV 14 (by simp)
      have v14 := (frame_at2 (us := us) hl (show (mcT[17]?).join = some 14 from rfl)).trans e14
      generalize frame mcT a0 us = fr at *
      exact val_ok (v := .bool false) (w' := w') (by go_simp) hG (Below.refl _ _) rfl
    · refine step_cnd [15] (by kernel_rfl) (j := 15) (t := 18) rfl (by simp) rfl hl rfl false (fun v w h => h) (fun _ w => trivial) fun hc => by cases hc
    · refine step_cnd [15] (by kernel_rfl) (j := 15) (t := 18) rfl (by simp) rfl hl rfl false (fun v w h => h) (fun _ w => trivial) fun hc => by cases hc
    · refine step_cnd [15] (by kernel_rfl) (j := 15) (t := 18) rfl (by simp) rfl hl rfl false (fun v w h => h) (fun _ w => trivial) fun hc => by cases hc
    · refine step_cnd [15] (by kernel_rfl) (j := 15) (t := 18) rfl (by simp) rfl hl rfl false (fun v w h => h) (fun _ w => trivial) fun hc => by cases hc
    · refine step_plain [15] (by kernel_rfl) rfl fun us w' hG hV => ?_
      have e15 : us 15 = .bool false := hV 15 (by simp)
      have v15 := (frame_at2 (us := us) hl (show (mcT[18]?).join = some 15 from rfl)).trans e15
      generalize frame mcT a0 us = fr at *
      exact val_ok (v := .bool false) (w' := w') (by go_simp) hG (Below.refl _ _) rfl
    · refine step_plain [20] (by kernel_rfl) rfl fun us w' hG hV => ?_
      have e20 : us 20 = .bool false := hV 20 (by simp)
      have v20 := (frame_at2 (us := us) hl (show (mcT[23]?).join = some 20 from rfl)).trans e20
      generalize frame mcT a0 us = fr at *
      exact val_ok (v := .bool false) (w' := w') (by go_simp) hG (Below.refl _ _) rfl
    · intro us w5 hG hV
      have e8 : us 21 = .bool false := hV 21 (by decide)
      subst ha0
      simp only [frame, mcT, fill]
      rw [e8]
      have HG3 := Lib.hid hG
      clear hV hl hG k1 e8
      go_wp2_with fail
      go_ret
      exact ⟨ret_bool HV.out.symm, HB.out.trans (Below.mono HG3.out HB.out.size)⟩
  have Q2 := Lib.hid (show decide ((n : Int) ≤ 4) = true from decide_eq_true (by omega))
  by_cases h3 : N ≤ 40
  rotate_left
  · have Q3 := Lib.hid (show decide ((N : Int) ≤ 40) = false from decide_eq_false (by omega))
    have HV := Lib.hid (show V = false by rw [HV0.out, Q1.out, decide_eq_true h2, decide_eq_false h3]; rfl)
    clear HV0 h1 h2 h3
    go_enter Tryd.func15, Tryd.ntmps15
    go_upto_region 1 with fail
    rw [← hW]
    clear hW
    refine with_act fun a0 ha0 => ?_
    have hl : mdT.length = a0.tmps.size := by rw [ha0]; rfl
    have k1 : a0.tmps[1]?.getD undef = .pointer (some ⟨w.heap.size, 0, none⟩) := by rw [ha0]; rfl
    refine wp_region_vals (by kernel_rfl) mdT (by kernel_rfl) (by kernel_rfl) hl (fun i => if i = 21 then .bool false else undef) (by rw [ha0]; rfl) (Gr W) (mdV w.heap.size CP CK sc A n c N) (gr_drewG _ _) (mdV.keep _ _ _ _ _ _ _ _) ⟨?_, ?_, ?_, ?_, ?_, ?_, ?_, ?_, ?_, ?_, ?_, ?_, ?_, ?_, ?_, ?_, ?_, ?_, ?_, ?_, ?_, ?_, trivial⟩ ?_
    · refine step_plain [] (by kernel_rfl) rfl fun us w' hG hV => ?_
      have o1 := (frame_old2 (us := us) (a := a0) (show (mdT[1]?).join = none from rfl)).trans k1
      have hg1 := (KR.out w' hG)
      generalize frame mdT a0 us = fr at *
      exact load_ok 27 1 rfl (w.heap.size) o1 _ _ (0, 0) _ hg1 Tryd.underlying27 rfl IP.out hG rfl
    · refine step_plain [0] (by kernel_rfl) rfl fun us w' hG hV => ?_
      have e0 : us 0 = .agg CP := hV 0 (by simp)
      have v0 := (frame_at2 (us := us) hl (show (mdT[3]?).join = some 0 from rfl)).trans e0
      generalize frame mdT a0 us = fr at *
      exact call_ok (f := 29) (args := #[.agg CP]) (by go_simp) ((KT.out w').mono fun e w'' h => ⟨_, h.1, hG.below h.2, h.2, rfl⟩)
    · refine step_plain [] (by kernel_rfl) rfl fun us w' hG hV => ?_
      have o1 := (frame_old2 (us := us) (a := a0) (show (mdT[1]?).join = none from rfl)).trans k1
      have hg1 := (KR.out w' hG)
      generalize frame mdT a0 us = fr at *
      exact load_ok 27 1 rfl (w.heap.size) o1 _ _ (0, 0) _ hg1 Tryd.underlying27 rfl IP.out hG rfl
    · refine step_plain [1, 2] (by kernel_rfl) rfl fun us w' hG hV => ?_
      have e1 : us 1 = .agg CK := hV 1 (by simp)
      have v1 := (frame_at2 (us := us) hl (show (mdT[4]?).join = some 1 from rfl)).trans e1
      have e2 : us 2 = .agg CP := hV 2 (by simp)
      have v2 := (frame_at2 (us := us) hl (show (mdT[5]?).join = some 2 from rfl)).trans e2
      generalize frame mdT a0 us = fr at *
      exact call_ok (f := 17) (args := #[.agg CK, .agg CP]) (by go_simp) ((SM.out w' hG).mono fun e w'' h => ⟨_, h.1, hG.below h.2, h.2, rfl⟩)
    · refine step_plain [3] (by kernel_rfl) rfl fun us w' hG hV => ?_
      have e3 : us 3 = .bool true := hV 3 (by simp)
      have v3 := (frame_at2 (us := us) hl (show (mdT[6]?).join = some 3 from rfl)).trans e3
      generalize frame mdT a0 us = fr at *
      exact val_ok (v := .bool true) (w' := w') (by go_simp) hG (Below.refl _ _) rfl
    · refine step_guard [4] (by kernel_rfl) (j := 4) (t := 7) (b := true) rfl (by simp) rfl hl rfl (fun v w h => h) fun us w' hG hV => ?_
      have o1 := (frame_old2 (us := us) (a := a0) (show (mdT[1]?).join = none from rfl)).trans k1
      generalize frame mdT a0 us = fr at *
      exact val_ok (v := .pointer (some ⟨w.heap.size, 3, none⟩)) (w' := w') (by go_simp) hG (Below.refl _ _) rfl
    · refine step_guard [4, 5] (by kernel_rfl) (j := 4) (t := 7) (b := true) rfl (by simp) rfl hl rfl (fun v w h => h) fun us w' hG hV => ?_
      have e5 : us 5 = .pointer (some ⟨w.heap.size, 3, none⟩) := hV 5 (by simp)
      have v5 := (frame_at2 (us := us) hl (show (mdT[8]?).join = some 5 from rfl)).trans e5
      have hc := K3.out w' hG
      generalize frame mdT a0 us = fr at *
      exact val_ok (v := .int .u8 sc) (w' := w') (by go_simp) hG (Below.refl _ _) rfl
    · refine step_guard [4, 6] (by kernel_rfl) (j := 4) (t := 7) (b := true) rfl (by simp) rfl hl rfl (fun v w h => h) fun us w' hG hV => ?_
      have e6 : us 6 = .int .u8 sc := hV 6 (by simp)
      have v6 := (frame_at2 (us := us) hl (show (mdT[9]?).join = some 6 from rfl)).trans e6
      have q := Q1.out
      generalize frame mdT a0 us = fr at *
      exact val_ok (v := .bool true) (w' := w') (by go_simp) hG (Below.refl _ _) rfl
    · refine step_plain [4, 7] (by kernel_rfl) rfl fun us w' hG hV => ?_
      have e4 : us 4 = .bool true := hV 4 (by simp)
      have v4 := (frame_at2 (us := us) hl (show (mdT[7]?).join = some 4 from rfl)).trans e4
      have e7 : us 7 = .bool true := hV 7 (by simp)
      have v7 := (frame_at2 (us := us) hl (show (mdT[10]?).join = some 7 from rfl)).trans e7
      generalize frame mdT a0 us = fr at *
      exact val_ok (v := .bool true) (w' := w') (by go_simp) hG (Below.refl _ _) rfl
    · refine step_plain [8] (by kernel_rfl) rfl fun us w' hG hV => ?_
      have e8 : us 8 = .bool true := hV 8 (by simp)
      have v8 := (frame_at2 (us := us) hl (show (mdT[11]?).join = some 8 from rfl)).trans e8
      generalize frame mdT a0 us = fr at *
      exact val_ok (v := .bool true) (w' := w') (by go_simp) hG (Below.refl _ _) rfl
    · refine step_guard [9] (by kernel_rfl) (j := 9) (t := 12) (b := true) rfl (by simp) rfl hl rfl (fun v w h => h) fun us w' hG hV => ?_
      have o1 := (frame_old2 (us := us) (a := a0) (show (mdT[1]?).join = none from rfl)).trans k1
      generalize frame mdT a0 us = fr at *
      exact val_ok (v := .pointer (some ⟨w.heap.size, 5, none⟩)) (w' := w') (by go_simp) hG (Below.refl _ _) rfl
    · refine step_guard [9, 10] (by kernel_rfl) (j := 9) (t := 12) (b := true) rfl (by simp) rfl hl rfl (fun v w h => h) fun us w' hG hV => ?_
      have e10 : us 10 = .pointer (some ⟨w.heap.size, 5, none⟩) := hV 10 (by simp)
      have v10 := (frame_at2 (us := us) hl (show (mdT[13]?).join = some 10 from rfl)).trans e10
      have hc := K5.out w' hG
      generalize frame mdT a0 us = fr at *
      exact val_ok (v := .slice A n c) (w' := w') (by go_simp) hG (Below.refl _ _) rfl
    · refine step_guard [9, 11] (by kernel_rfl) (j := 9) (t := 12) (b := true) rfl (by simp) rfl hl rfl (fun v w h => h) fun us w' hG hV => ?_
      have e11 : us 11 = .slice A n c := hV 11 (by simp)
      have v11 := (frame_at2 (us := us) hl (show (mdT[14]?).join = some 11 from rfl)).trans e11
      generalize frame mdT a0 us = fr at *
      exact val_ok (v := .int .i64 n) (w' := w') (by go_simp) hG (Below.refl _ _) rfl
    · refine step_guard [9, 12] (by kernel_rfl) (j := 9) (t := 12) (b := true) rfl (by simp) rfl hl rfl (fun v w h => h) fun us w' hG hV => ?_
      have e12 : us 12 = .int .i64 n := hV 12 (by simp)
      have v12 := (frame_at2 (us := us) hl (show (mdT[15]?).join = some 12 from rfl)).trans e12
      have q := Q2.out
      generalize frame mdT a0 us = fr at *
      exact val_ok (v := .bool true) (w' := w') (by go_simp) hG (Below.refl _ _) rfl
    · refine step_plain [9, 13] (by kernel_rfl) rfl fun us w' hG hV => ?_
      have e9 : us 9 = .bool true := hV 9 (by simp)
      have v9 := (frame_at2 (us := us) hl (show (mdT[12]?).join = some 9 from rfl)).trans e9
      have e13 : us 13 = .bool true := hV 13 (by simp)
      have v13 := (frame_at2 (us := us) hl (show (mdT[16]?).join = some 13 from rfl)).trans e13
      generalize frame mdT a0 us = fr at *
      exact val_ok (v := .bool true) (w' := w') (by go_simp) hG (Below.refl _ _) rfl
    · refine step_plain [14] (by kernel_rfl) rfl fun us w' hG hV => ?_
      have e14 : us 14 = .bool true := hV 14 (by simp)
      have v14 := (frame_at2 (us := us) hl (show (mdT[17]?).join = some 14 from rfl)).trans e14
      generalize frame mdT a0 us = fr at *
      exact val_ok (v := .bool true) (w' := w') (by go_simp) hG (Below.refl _ _) rfl
    · refine step_guard [15] (by kernel_rfl) (j := 15) (t := 18) (b := true) rfl (by simp) rfl hl rfl (fun v w h => h) fun us w' hG hV => ?_
      have o1 := (frame_old2 (us := us) (a := a0) (show (mdT[1]?).join = none from rfl)).trans k1
      have hg1 := (KR.out w' hG)
      generalize frame mdT a0 us = fr at *
      exact load_ok 27 1 rfl (w.heap.size) o1 _ _ (0, 0) _ hg1 Tryd.underlying27 rfl IP.out hG rfl
    · refine step_guard [15, 16] (by kernel_rfl) (j := 15) (t := 18) (b := true) rfl (by simp) rfl hl rfl (fun v w h => h) fun us w' hG hV => ?_
      have e16 : us 16 = .agg CP := hV 16 (by simp)
      have v16 := (frame_at2 (us := us) hl (show (mdT[19]?).join = some 16 from rfl)).trans e16
      generalize frame mdT a0 us = fr at *
      exact call_ok (f := 27) (args := #[.agg CP]) (by go_simp) ((BY.out w' hG).mono fun e w'' ⟨A', c', h1, h2, h3⟩ => ⟨_, h1, hG.below h3, h3, A', c', rfl⟩)
    · refine step_guard [15, 17] (by kernel_rfl) (j := 15) (t := 18) (b := true) rfl (by simp) rfl hl rfl (fun v w h => h) fun us w' hG hV => ?_
      obtain ⟨A17, c17, e17⟩ := (show ∃ A' c', us 17 = .slice A' N c' from hV 17 (by simp))
      have v17 := (frame_at2 (us := us) hl (show (mdT[20]?).join = some 17 from rfl)).trans e17
      generalize frame mdT a0 us = fr at *
      exact val_ok (v := .int .i64 N) (w' := w') (by go_simp) hG (Below.refl _ _) rfl
    · refine step_guard [15, 18] (by kernel_rfl) (j := 15) (t := 18) (b := true) rfl (by simp) rfl hl rfl (fun v w h => h) fun us w' hG hV => ?_
      have e18 : us 18 = .int .i64 N := hV 18 (by simp)
      have v18 := (frame_at2 (us := us) hl (show (mdT[21]?).join = some 18 from rfl)).trans e18
      have q := Q3.out
      generalize frame mdT a0 us = fr at *
      exact val_ok (v := .bool false) (w' := w') (by go_simp) hG (Below.refl _ _) rfl
    · refine step_plain [15, 19] (by kernel_rfl) rfl fun us w' hG hV => ?_
      have e15 : us 15 = .bool true := hV 15 (by simp)
      have v15 := (frame_at2 (us := us) hl (show (mdT[18]?).join = some 15 from rfl)).trans e15
      have e19 : us 19 = .bool false := hV 19 (by simp)
      have v19 := (frame_at2 (us := us) hl (show (mdT[22]?).join = some 19 from rfl)).trans e19
      generalize frame mdT a0 us = fr at *
      exact val_ok (v := .bool false) (w' := w') (by go_simp) hG (Below.refl _ _) rfl
    · refine step_plain [20] (by kernel_rfl) rfl fun us w' hG hV => ?_
      have e20 : us 20 = .bool false := hV 20 (by simp)
      have v20 := (frame_at2 (us := us) hl (show (mdT[23]?).join = some 20 from rfl)).trans e20
      generalize frame mdT a0 us = fr at *
      exact val_ok (v := .bool false) (w' := w') (by go_simp) hG (Below.refl _ _) rfl
    · intro us w5 hG hV
      have e8 : us 21 = .bool false := hV 21 (by decide)
      subst ha0
      simp only [frame, mdT, fill]
      rw [e8]
      have HG3 := Lib.hid hG
      clear hV hl hG k1 e8
      go_wp2_with fail
      go_ret
      exact ⟨ret_bool HV.out.symm, HB.out.trans (Below.mono HG3.out HB.out.size)⟩
  have Q3 := Lib.hid (show decide ((N : Int) ≤ 40) = true from decide_eq_true (by omega))
  have HV := Lib.hid (show V = true by rw [HV0.out, Q1.out, decide_eq_true h2, decide_eq_true h3]; rfl)
  clear HV0 h1 h2 h3
  go_enter Tryd.func15, Tryd.ntmps15
  go_upto_region 1 with fail
  rw [← hW]
  clear hW
  refine with_act fun a0 ha0 => ?_
  have hl : meT.length = a0.tmps.size := by rw [ha0]; rfl
  have k1 : a0.tmps[1]?.getD undef = .pointer (some ⟨w.heap.size, 0, none⟩) := by rw [ha0]; rfl
  refine wp_region_vals (by kernel_rfl) meT (by kernel_rfl) (by kernel_rfl) hl (fun i => if i = 21 then .bool false else undef) (by rw [ha0]; rfl) (Gr W) (meV w.heap.size CP CK sc A n c N) (gr_drewG _ _) (meV.keep _ _ _ _ _ _ _ _) ⟨?_, ?_, ?_, ?_, ?_, ?_, ?_, ?_, ?_, ?_, ?_, ?_, ?_, ?_, ?_, ?_, ?_, ?_, ?_, ?_, ?_, ?_, trivial⟩ ?_
  · refine step_plain [] (by kernel_rfl) rfl fun us w' hG hV => ?_
    have o1 := (frame_old2 (us := us) (a := a0) (show (meT[1]?).join = none from rfl)).trans k1
    have hg1 := (KR.out w' hG)
    generalize frame meT a0 us = fr at *
    exact load_ok 27 1 rfl (w.heap.size) o1 _ _ (0, 0) _ hg1 Tryd.underlying27 rfl IP.out hG rfl
  · refine step_plain [0] (by kernel_rfl) rfl fun us w' hG hV => ?_
    have e0 : us 0 = .agg CP := hV 0 (by simp)
    have v0 := (frame_at2 (us := us) hl (show (meT[3]?).join = some 0 from rfl)).trans e0
    generalize frame meT a0 us = fr at *
    exact call_ok (f := 29) (args := #[.agg CP]) (by go_simp) ((KT.out w').mono fun e w'' h => ⟨_, h.1, hG.below h.2, h.2, rfl⟩)
  · refine step_plain [] (by kernel_rfl) rfl fun us w' hG hV => ?_
    have o1 := (frame_old2 (us := us) (a := a0) (show (meT[1]?).join = none from rfl)).trans k1
    have hg1 := (KR.out w' hG)
    generalize frame meT a0 us = fr at *
    exact load_ok 27 1 rfl (w.heap.size) o1 _ _ (0, 0) _ hg1 Tryd.underlying27 rfl IP.out hG rfl
  · refine step_plain [1, 2] (by kernel_rfl) rfl fun us w' hG hV => ?_
    have e1 : us 1 = .agg CK := hV 1 (by simp)
    have v1 := (frame_at2 (us := us) hl (show (meT[4]?).join = some 1 from rfl)).trans e1
    have e2 : us 2 = .agg CP := hV 2 (by simp)
    have v2 := (frame_at2 (us := us) hl (show (meT[5]?).join = some 2 from rfl)).trans e2
    generalize frame meT a0 us = fr at *
    exact call_ok (f := 17) (args := #[.agg CK, .agg CP]) (by go_simp) ((SM.out w' hG).mono fun e w'' h => ⟨_, h.1, hG.below h.2, h.2, rfl⟩)
  · refine step_plain [3] (by kernel_rfl) rfl fun us w' hG hV => ?_
    have e3 : us 3 = .bool true := hV 3 (by simp)
    have v3 := (frame_at2 (us := us) hl (show (meT[6]?).join = some 3 from rfl)).trans e3
    generalize frame meT a0 us = fr at *
    exact val_ok (v := .bool true) (w' := w') (by go_simp) hG (Below.refl _ _) rfl
  · refine step_guard [4] (by kernel_rfl) (j := 4) (t := 7) (b := true) rfl (by simp) rfl hl rfl (fun v w h => h) fun us w' hG hV => ?_
    have o1 := (frame_old2 (us := us) (a := a0) (show (meT[1]?).join = none from rfl)).trans k1
    generalize frame meT a0 us = fr at *
    exact val_ok (v := .pointer (some ⟨w.heap.size, 3, none⟩)) (w' := w') (by go_simp) hG (Below.refl _ _) rfl
  · refine step_guard [4, 5] (by kernel_rfl) (j := 4) (t := 7) (b := true) rfl (by simp) rfl hl rfl (fun v w h => h) fun us w' hG hV => ?_
    have e5 : us 5 = .pointer (some ⟨w.heap.size, 3, none⟩) := hV 5 (by simp)
    have v5 := (frame_at2 (us := us) hl (show (meT[8]?).join = some 5 from rfl)).trans e5
    have hc := K3.out w' hG
    generalize frame meT a0 us = fr at *
    exact val_ok (v := .int .u8 sc) (w' := w') (by go_simp) hG (Below.refl _ _) rfl
  · refine step_guard [4, 6] (by kernel_rfl) (j := 4) (t := 7) (b := true) rfl (by simp) rfl hl rfl (fun v w h => h) fun us w' hG hV => ?_
    have e6 : us 6 = .int .u8 sc := hV 6 (by simp)
    have v6 := (frame_at2 (us := us) hl (show (meT[9]?).join = some 6 from rfl)).trans e6
    have q := Q1.out
    generalize frame meT a0 us = fr at *
    exact val_ok (v := .bool true) (w' := w') (by go_simp) hG (Below.refl _ _) rfl
  · refine step_plain [4, 7] (by kernel_rfl) rfl fun us w' hG hV => ?_
    have e4 : us 4 = .bool true := hV 4 (by simp)
    have v4 := (frame_at2 (us := us) hl (show (meT[7]?).join = some 4 from rfl)).trans e4
    have e7 : us 7 = .bool true := hV 7 (by simp)
    have v7 := (frame_at2 (us := us) hl (show (meT[10]?).join = some 7 from rfl)).trans e7
    generalize frame meT a0 us = fr at *
    exact val_ok (v := .bool true) (w' := w') (by go_simp) hG (Below.refl _ _) rfl
  · refine step_plain [8] (by kernel_rfl) rfl fun us w' hG hV => ?_
    have e8 : us 8 = .bool true := hV 8 (by simp)
    have v8 := (frame_at2 (us := us) hl (show (meT[11]?).join = some 8 from rfl)).trans e8
    generalize frame meT a0 us = fr at *
    exact val_ok (v := .bool true) (w' := w') (by go_simp) hG (Below.refl _ _) rfl
  · refine step_guard [9] (by kernel_rfl) (j := 9) (t := 12) (b := true) rfl (by simp) rfl hl rfl (fun v w h => h) fun us w' hG hV => ?_
    have o1 := (frame_old2 (us := us) (a := a0) (show (meT[1]?).join = none from rfl)).trans k1
    generalize frame meT a0 us = fr at *
    exact val_ok (v := .pointer (some ⟨w.heap.size, 5, none⟩)) (w' := w') (by go_simp) hG (Below.refl _ _) rfl
  · refine step_guard [9, 10] (by kernel_rfl) (j := 9) (t := 12) (b := true) rfl (by simp) rfl hl rfl (fun v w h => h) fun us w' hG hV => ?_
    have e10 : us 10 = .pointer (some ⟨w.heap.size, 5, none⟩) := hV 10 (by simp)
    have v10 := (frame_at2 (us := us) hl (show (meT[13]?).join = some 10 from rfl)).trans e10
    have hc := K5.out w' hG
    generalize frame meT a0 us = fr at *
    exact val_ok (v := .slice A n c) (w' := w') (by go_simp) hG (Below.refl _ _) rfl
  · refine step_guard [9, 11] (by kernel_rfl) (j := 9) (t := 12) (b := true) rfl (by simp) rfl hl rfl (fun v w h => h) fun us w' hG hV => ?_
    have e11 : us 11 = .slice A n c := hV 11 (by simp)
    have v11 := (frame_at2 (us := us) hl (show (meT[14]?).join = some 11 from rfl)).trans e11
    generalize frame meT a0 us = fr at *
    exact val_ok (v := .int .i64 n) (w' := w') (by go_simp) hG (Below.refl _ _) rfl
  · refine step_guard [9, 12] (by kernel_rfl) (j := 9) (t := 12) (b := true) rfl (by simp) rfl hl rfl (fun v w h => h) fun us w' hG hV => ?_
    have e12 : us 12 = .int .i64 n := hV 12 (by simp)
    have v12 := (frame_at2 (us := us) hl (show (meT[15]?).join = some 12 from rfl)).trans e12
    have q := Q2.out
    generalize frame meT a0 us = fr at *
    exact val_ok (v := .bool true) (w' := w') (by go_simp) hG (Below.refl _ _) rfl
  · refine step_plain [9, 13] (by kernel_rfl) rfl fun us w' hG hV => ?_
    have e9 : us 9 = .bool true := hV 9 (by simp)
    have v9 := (frame_at2 (us := us) hl (show (meT[12]?).join = some 9 from rfl)).trans e9
    have e13 : us 13 = .bool true := hV 13 (by simp)
    have v13 := (frame_at2 (us := us) hl (show (meT[16]?).join = some 13 from rfl)).trans e13
    generalize frame meT a0 us = fr at *
    exact val_ok (v := .bool true) (w' := w') (by go_simp) hG (Below.refl _ _) rfl
  · refine step_plain [14] (by kernel_rfl) rfl fun us w' hG hV => ?_
    have e14 : us 14 = .bool true := hV 14 (by simp)
    have v14 := (frame_at2 (us := us) hl (show (meT[17]?).join = some 14 from rfl)).trans e14
    generalize frame meT a0 us = fr at *
    exact val_ok (v := .bool true) (w' := w') (by go_simp) hG (Below.refl _ _) rfl
  · refine step_guard [15] (by kernel_rfl) (j := 15) (t := 18) (b := true) rfl (by simp) rfl hl rfl (fun v w h => h) fun us w' hG hV => ?_
    have o1 := (frame_old2 (us := us) (a := a0) (show (meT[1]?).join = none from rfl)).trans k1
    have hg1 := (KR.out w' hG)
    generalize frame meT a0 us = fr at *
    exact load_ok 27 1 rfl (w.heap.size) o1 _ _ (0, 0) _ hg1 Tryd.underlying27 rfl IP.out hG rfl
  · refine step_guard [15, 16] (by kernel_rfl) (j := 15) (t := 18) (b := true) rfl (by simp) rfl hl rfl (fun v w h => h) fun us w' hG hV => ?_
    have e16 : us 16 = .agg CP := hV 16 (by simp)
    have v16 := (frame_at2 (us := us) hl (show (meT[19]?).join = some 16 from rfl)).trans e16
    generalize frame meT a0 us = fr at *
    exact call_ok (f := 27) (args := #[.agg CP]) (by go_simp) ((BY.out w' hG).mono fun e w'' ⟨A', c', h1, h2, h3⟩ => ⟨_, h1, hG.below h3, h3, A', c', rfl⟩)
  · refine step_guard [15, 17] (by kernel_rfl) (j := 15) (t := 18) (b := true) rfl (by simp) rfl hl rfl (fun v w h => h) fun us w' hG hV => ?_
    obtain ⟨A17, c17, e17⟩ := (show ∃ A' c', us 17 = .slice A' N c' from hV 17 (by simp))
    have v17 := (frame_at2 (us := us) hl (show (meT[20]?).join = some 17 from rfl)).trans e17
    generalize frame meT a0 us = fr at *
    exact val_ok (v := .int .i64 N) (w' := w') (by go_simp) hG (Below.refl _ _) rfl
  · refine step_guard [15, 18] (by kernel_rfl) (j := 15) (t := 18) (b := true) rfl (by simp) rfl hl rfl (fun v w h => h) fun us w' hG hV => ?_
    have e18 : us 18 = .int .i64 N := hV 18 (by simp)
    have v18 := (frame_at2 (us := us) hl (show (meT[21]?).join = some 18 from rfl)).trans e18
    have q := Q3.out
    generalize frame meT a0 us = fr at *
    exact val_ok (v := .bool true) (w' := w') (by go_simp) hG (Below.refl _ _) rfl
  · refine step_plain [15, 19] (by kernel_rfl) rfl fun us w' hG hV => ?_
    have e15 : us 15 = .bool true := hV 15 (by simp)
    have v15 := (frame_at2 (us := us) hl (show (meT[18]?).join = some 15 from rfl)).trans e15
    have e19 : us 19 = .bool true := hV 19 (by simp)
    have v19 := (frame_at2 (us := us) hl (show (meT[22]?).join = some 19 from rfl)).trans e19
    generalize frame meT a0 us = fr at *
    exact val_ok (v := .bool true) (w' := w') (by go_simp) hG (Below.refl _ _) rfl
  · refine step_plain [20] (by kernel_rfl) rfl fun us w' hG hV => ?_
    have e20 : us 20 = .bool true := hV 20 (by simp)
    have v20 := (frame_at2 (us := us) hl (show (meT[23]?).join = some 20 from rfl)).trans e20
    generalize frame meT a0 us = fr at *
    exact val_ok (v := .bool true) (w' := w') (by go_simp) hG (Below.refl _ _) rfl
  · intro us w5 hG hV
    have e8 : us 21 = .bool true := hV 21 (by decide)
    subst ha0
    simp only [frame, meT, fill]
    rw [e8]
    have HG3 := Lib.hid hG
    clear hV hl hG k1 e8
    go_wp2_with fail
    go_ret
    exact ⟨ret_bool HV.out.symm, HB.out.trans (Below.mono HG3.out HB.out.size)⟩
theorem rlay_any (o : Opt) (A : Option Addr) (n c : Nat) (w : World) (ho : o.Ok) (hn : o.sk.length = n) (hs : Prs w w.heap.size A n o.sk) (hm : n ≤ 600) :
    Calls Tryd.prog 11 #[.agg (optV o A n c)] w (OwnE w (layX o) (layE o)) := by
  obtain ⟨W, hW⟩ : ∃ W, W = w.alloc (.cells (optV o A n c) 27) := ⟨_, rfl⟩
  have R := Lib.hid (show W.heap[w.heap.size]? = some (.cells (optV o A n c) 27 (0, 0)) by rw [hW]; exact heap_alloc_new _ _)
  have HB := Lib.hid (show Below w.heap.size w W by rw [hW]; exact alloc_below _ _)
  have hp := (hs.below HB.out).more HB.out.size
  have MA := Lib.hid (rmay_any o A n c W ho hn hp hm)
  have BY := Lib.hid (fun w' (h : Below W.heap.size W w') => bytes_any o A n c w' ho hn ((hp.below h).more h.size) hm)
  have IC := Lib.hid (optC ho.lm A n c).info
  unfold layX layE
  unfold OwnB at BY
  generalize optV o A n c = C at *
  generalize layL o = T at *
  generalize mayB o = b at *
  clear hn hs hm ho hp
  cases b
  · rw [if_neg (by decide), if_neg (by decide)]
    go_enter Tryd.func11, Tryd.ntmps11
    go_upto_region 1 with fail
    rw [← hW]
    clear hW
    go_wp2_with (first
      | (refine wpList_load_row rfl 27 (.tmp 1) rfl w.heap.size rfl _ _ _ _ R.out Tryd.underlying27 rfl IC.out ?_)
      | (go_at_call 15; (refine MA.out.mono ?_); rintro e w2 ⟨rfl, B2⟩
         have HB2 := Lib.hid (HB.out.trans (B2.mono HB.out.size))
         clear B2))
    go_ret2
    exact ⟨none, 0, 0, rfl, Own.nil _ _, HB2.out⟩
  · rw [if_pos rfl, if_pos rfl]
    go_enter Tryd.func11, Tryd.ntmps11
    go_upto_region 1 with fail
    rw [← hW]
    clear hW
    go_upto_region 2 with (first
      | (refine wpList_load_row rfl 27 (.tmp 1) rfl w.heap.size rfl _ _ _ _ R.out Tryd.underlying27 rfl IC.out ?_)
      | (go_at_call 15; (refine MA.out.mono ?_); rintro e w2 ⟨rfl, B2⟩
         have HB2 := Lib.hid B2
         have R2 := Lib.hid (show w2.heap[w.heap.size]? = some (.cells C 27 (0, 0)) by rw [B2.block _ (lt_of_row R.out)]; exact R.out)
         clear B2)
      | (refine wpList_load_row rfl 27 (.tmp 1) rfl w.heap.size rfl _ _ _ _ R2.out Tryd.underlying27 rfl IC.out ?_)
      | (go_at_call 27; (refine (BY.out _ HB2.out).mono ?_); rintro e w3 ⟨A3, c3, rfl, O3, B3⟩
         have HO := Lib.hid (O3.less (Nat.le_trans HB.out.size HB2.out.size))
         have HB3 := Lib.hid (HB.out.trans ((HB2.out.trans (B3.mono HB2.out.size)).mono HB.out.size))
         clear O3 B3))
    go_ret2
    exact ⟨A3, T.length, c3, rfl, HO.out, HB3.out⟩
end Go.Proofs.YtapcjgmijcpfiaaDoor.opC
