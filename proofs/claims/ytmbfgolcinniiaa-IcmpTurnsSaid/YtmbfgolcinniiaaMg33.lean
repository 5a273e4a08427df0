/-
  5 texts of a proof, joined.
-/
import Derived.Test.YtmbfgolcinniiaaMg32
import Derived.Test.YtmbfgolcinniiaaMg28
import Derived.Test.YtmbfgolcinniiaaMg23
import Derived.Test.YtmbfgolcinniiaaMg31
import Derived.Test.YtmbfgolcinniiaaRows
import Derived.WalkKit
import Derived.ProofKit
import Derived.OpenShut
import Derived.ShutString
import Derived.ChangeOld
import Derived.Below

/-
  The message of bytes: the program's.
-/
namespace Go.Proofs.Ytmbfgolcinniiaa.icC
open Go.ChangeShapes Go.WideShapes Go.ChangeAt Go.RowKit
open Go.Proofs.Ytmbfgolcinniiaa.memC Go.Proofs.Ytmbfgolcinniiaa.genC Go.Proofs.Ytmbfgolcinniiaa.butC Go.Proofs.Ytmbfgolcinniiaa.freeC Go.Proofs.Ytmbfgolcinniiaa.adC
open Go.Proofs.Ytmbfgolcinniiaa.octC (Rd Fr)
set_option linter.unusedVariables false
theorem may_zero (n : Nat) (six : Bool) : mayM zMs n six = false := by
  unfold mayM
  rw [show decide (1 ≤ zMs.ki) = false from rfl]; rfl
/-- what Parse answers of bytes that are long enough and good -/
theorem psI_rd {six : Bool} {bs : List Int} (h8 : 8 ≤ bs.length) : psI six true bs = if mayM (rdM six bs).1 (rdM six bs).2.length six = true then (0, (rdM six bs).1, (rdM six bs).2) else (11, zMs, []) := by
  unfold psI rdM
  rw [if_neg (by omega), if_neg (by decide), loop_kd]
  by_cases hk : kdM six (bs.getD 0 0) (bs.getD 1 0) = 0
  · rw [if_pos hk, if_pos hk]
    simp only [may_zero]
    rfl
  · rw [if_neg hk, if_neg hk]
    simp only [List.length_drop]
    by_cases hm : mayM (keptM { headI bs with ki := (kdM six (bs.getD 0 0) (bs.getD 1 0) : Nat) }) (bs.length - 8) six = true
    · rw [if_pos hm, if_pos hm]; rfl
    · rw [if_neg hm, if_neg hm]; rfl
theorem rd_byte {six : Bool} {bs : List Int} (hy : ∀ x ∈ bs, Byte x) : ∀ x ∈ (rdM six bs).2, Byte x := by
  unfold rdM
  split
  · simp
  · exact fun x hx => hy x (List.mem_of_mem_drop hx)
/-- while the message is read and kept -/
structure PJ (w0 : World) (g1 : Nat) (SL : Value) (six : Bool) (bs : List Int) (ZS : Array Value) (mR : Ms) (XR : List Int) (p q : Nat) (A : Option Addr) (n c : Nat) (m : Nat → Bool) (us : Nat → Value) (w : World) : Prop where
  bel : Below w0.heap.size w0 w
  v0 : m 0 = true → us 0 = SL
  v1 : m 1 = true → us 1 = .pointer (some ⟨p, 0, none⟩) ∧ w0.heap.size ≤ p
  rd : m 1 = true → m 4 = false → Rd w p bs
  v2 : m 2 = true → us 2 = .pointer (some ⟨g1, 0, none⟩)
  v3 : m 3 = true → us 3 = .bool six
  v4 : m 4 = true → us 4 = .agg (msV mR A n c) ∧ Own .u8 5 w w0.heap.size (.slice A n c) XR
  v5 : m 5 = true → us 5 = .pointer (some ⟨q, 0, none⟩) ∧ w0.heap.size ≤ q
  r5 : m 5 = true → m 6 = false → w.heap[q]? = some (.cells ZS 36 (0, 0))
  r6 : m 6 = true → w.heap[q]? = some (.cells (msV mR A n c) 36 (0, 0))
  cl : m 6 = true → m 0 = true ∧ m 1 = true ∧ m 2 = true ∧ m 3 = true ∧ m 4 = true ∧ m 5 = true
def PJx (w0 : World) (g1 : Nat) (SL : Value) (six : Bool) (bs : List Int) (ZS : Array Value) (mR : Ms) (XR : List Int) (m : Nat → Bool) (us : Nat → Value) (w : World) : Prop := ∃ p q A n c, PJ w0 g1 SL six bs ZS mR XR p q A n c m us w
theorem off6 {w0 : World} {g1 : Nat} {SL : Value} {six : Bool} {bs : List Int} {ZS : Array Value} {mR : Ms} {XR : List Int} {p q : Nat} {A : Option Addr} {n c : Nat} {m : Nat → Bool} {us : Nat → Value} {w : World} (J : PJ w0 g1 SL six bs ZS mR XR p q A n c m us w) {i : Nat} (hi : i < 6) (hm : m i = false) : m 6 = false := by
  cases h : m 6
  · rfl
  · obtain ⟨a0, a1, a2, a3, a4, a5⟩ := J.cl h
    have : i = 0 ∨ i = 1 ∨ i = 2 ∨ i = 3 ∨ i = 4 ∨ i = 5 := by omega
    rcases this with rfl | rfl | rfl | rfl | rfl | rfl <;> simp_all
theorem rd_rdD {w : World} {p : Nat} {bs : List Int} (h : Rd w p bs) : octC.RdD w p p bs := by
  obtain ⟨A, n, c, h1, h2, h3, N, h4, h5⟩ := h
  exact ⟨A, n, c, h1, h2, h3, N, h4, h5, Nat.le_refl _⟩
theorem fr_to {S : Nat → Prop} {w w1 : World} {B : Nat} (h : Fr S w w1) (hB : ∀ k, S k → B ≤ k) (hw : B ≤ w.heap.size) : Below B w w1 :=
  ⟨h.os, h.tape, h.output, h.size, fun k hk => h.block k (by omega) (fun hs => by have := hB k hs; omega)⟩
theorem ne_rd {w : World} {p q : Nat} {bs : List Int} {C : Array Value} {T : TypeId} {z : Int} (hr : w.heap[q]? = some (.cells C T (0, 0))) (h0 : C[0]? = some (.int .i64 z)) (hR : Rd w p bs) : q ≠ p := by
  rintro rfl
  obtain ⟨A, n, c, h1, -⟩ := hR
  rw [cell_of_row w q 0 _ _ (0, 0) hr, h0] at h1
  cases h1
def ptT : List (Option Nat) := [none, none, none, none, none, none, none, none, some 5, none, none, none, none, none, none, none, none, none, none, none, none, none, none, none, none, some 0, some 1, some 2, some 3, some 4, none, none, none, none, none, none, none]
set_option maxRecDepth 100000 in
set_option maxHeartbeats 4000000 in
theorem cparse_any (C1 C2 : Array Value) (s1 s2 : Bool) (b1 b2 : List Int) (A0 : Option Addr) (n0 c0 : Nat) (bs : List Int) (w : World) (h1 : chkC.AddrC C1 s1 b1) (h2 : chkC.AddrC C2 s2 b2) (hb : Nums .u8 w w.heap.size A0 n0 bs) (hy : ∀ x ∈ bs, Byte x) (hn : n0 ≤ 3000) :
    Calls Try.prog 17 #[.slice A0 n0 c0, .agg C1, .agg C2] w (PsM w (psI s1 (goodI s1 s2 b1 b2 bs) bs)) := by
  have hzv := zeroCs
  have hbl := hb.len
  obtain ⟨W0, hW0⟩ : ∃ W, W = w.alloc (.cells C1 29) := ⟨_, rfl⟩
  obtain ⟨W1, hW1⟩ : ∃ W, W = W0.alloc (.cells C2 29) := ⟨_, rfl⟩
  obtain ⟨W, hW⟩ : ∃ W, W = W1.alloc (.cells (msV zMs none 0 0) 36) := ⟨_, rfl⟩
  have z0 : W0.heap.size = w.heap.size + 1 := by rw [hW0, alloc_size]
  have z1 : W1.heap.size = w.heap.size + 2 := by rw [hW1, alloc_size, z0]
  have z2 : W.heap.size = w.heap.size + 3 := by rw [hW, alloc_size, z1]
  have B0 : Below w.heap.size w W0 := by rw [hW0]; exact alloc_below _ _
  have B1 : Below W0.heap.size W0 W1 := by rw [hW1]; exact alloc_below _ _
  have B2 : Below W1.heap.size W1 W := by rw [hW]; exact alloc_below _ _
  have HB := Lib.hid (show Below w.heap.size w W from (B0.trans (B1.mono (by omega))).trans (B2.mono (by omega)))
  have r1 : W.heap[w.heap.size]? = some (.cells C1 29 (0, 0)) := by rw [B2.block _ (by omega), B1.block _ (by omega), hW0]; exact heap_alloc_new _ _
  have r2 : W.heap[w.heap.size + 1]? = some (.cells C2 29 (0, 0)) := by rw [B2.block _ (by omega), hW1, ← z0]; exact heap_alloc_new _ _
  have RZ := Lib.hid (show W.heap[w.heap.size + 2]? = some (.cells (msV zMs none 0 0) 36 (0, 0)) by rw [hW, ← z1]; exact heap_alloc_new _ _)
  have R1 := Lib.hid r1
  have R2 := Lib.hid r2
  have LR := Lib.hid (show w.heap.size + 2 < W.heap.size by omega)
  have SW := Lib.hid (show w.heap.size ≤ W.heap.size by omega)
  have IC1 := Lib.hid (show (Try.prog.info? 29).map (·.size) = some C1.size by rw [h1.size]; exact chkC.addr_info)
  have IC2 := Lib.hid (show (Try.prog.info? 29).map (·.size) = some C2.size by rw [h2.size]; exact chkC.addr_info)
  have IZ := Lib.hid (msC zMs none 0 0).cinfo
  have OZ := Lib.hid (ms_one zMs none 0 0)
  have BZ := Lib.hid zCs_built
  have K1 := Lib.hid h1.six
  have XN := Lib.hid (fun (w' : World) (h : Below W.heap.size W w') => (show Nums .u8 w' w'.heap.size A0 n0 bs from (hb.below (HB.out.trans (h.mono HB.out.size))).more (HB.out.trans (h.mono HB.out.size)).size))
  have RZ0 := Lib.hid (show ∀ w', Below W.heap.size W w' → w'.heap[w.heap.size + 2]? = some (.cells (msV zMs none 0 0) 36 (0, 0)) from fun w' h => by rw [h.block _ LR.out]; exact RZ.out)
  obtain ⟨gd, hgd⟩ : ∃ g, goodI s1 s2 b1 b2 bs = g := ⟨_, rfl⟩
  rw [hgd]
  unfold goodI at hgd
  obtain ⟨PR, hPR⟩ : ∃ P, psI s1 gd bs = P := ⟨_, rfl⟩
  rw [hPR]
  have ERR := Lib.hid (fun (er : Int) (wr : World) (hbw : Below W.heap.size W wr) (h : psI s1 gd bs = (er, zMs, [])) => psm_err (w := w) (HB.out.trans (hbw.mono HB.out.size)) (show w.heap.size ≤ w.heap.size + 2 by omega) er h (msV zMs none 0 0) rfl)
  rw [hPR] at ERR
  by_cases hl8 : n0 < 8
  · have hps : PR = (4, zMs, []) := by rw [← hPR]; unfold psI; rw [if_pos (by omega)]
    have q1 : (n0 : Int) < 8 := by omega
    have FE := Lib.hid (ERR.out 4 W (Below.refl _ _) hps)
    obtain ⟨ZS, hZS⟩ : ∃ Z, Z = msV zMs none 0 0 := ⟨_, rfl⟩
    rw [← hZS] at hW RZ IZ OZ BZ FE
    simp only [← hZS] at hzv
    clear h1 h2 hb hbl hy hn B0 B1 B2 r1 r2 z2 hgd hPR ERR RZ0 hZS hl8 hps
    go_enter Try.func17, Try.ntmps17
    go_upto_region 1 with fail
    rw [← hW0, ← hW1, ← hW]
    try rw [z0]
    try rw [z1]
    clear hW0 hW1 hW z0 z1
    go_wp2_with (first
      | (refine adC.wpList_zero rfl 36 rfl ZS BZ.out ?_)
      | (refine wpList_store_row rfl 36 (.tmp 6) (.tmp 13) rfl (w.heap.size + 2) _ rfl rfl _ _ RZ.out IZ.out rfl OZ.out ?_))
    refine bodyPost_ret (v := .tuple #[.agg ZS, .int .i64 4]) (adC.results_cell_tmp Try.results17 _ _ (w.heap.size + 2) _ _ _ _ _ (by rfl) (setRow_heap _ _ _ _ _ _ RZ.out) Try.underlying36 rfl IZ.out (by rfl)) rfl ?_
    exact FE.out
  have q1 : ¬ (n0 : Int) < 8 := by omega
  have PS := Lib.hid (cpse_any C1 C2 s1 s2 b1 b2 (n0 : Int) W h1 h2 (by omega) (by omega))
  have HPY := Lib.hid hy
  have HN := Lib.hid hn
  have HBL := Lib.hid hbl
  have H8 := Lib.hid (show 8 ≤ n0 by omega)
  obtain ⟨sm, hsm⟩ : ∃ s, sumM s1 s2 b1 b2 bs = s := ⟨_, rfl⟩
  have hpl := sum_psL s1 s2 b1 b2 bs
  rw [hbl, hsm] at hpl
  have HPL := Lib.hid hpl
  generalize psL s1 s2 b1 b2 (n0 : Int) = PL at *
  rw [hsm] at hgd
  cases gd
  · have hps : PR = (8, zMs, []) := by rw [← hPR]; unfold psI; rw [if_neg (by omega), if_pos rfl]
    have Q2 := Lib.hid (show (sm != 65535) = true from bne_iff_ne.2 (of_decide_eq_false hgd))
    have ERR8 := Lib.hid (fun wr hbw => ERR.out 8 wr hbw hps)
    obtain ⟨ZS, hZS⟩ : ∃ Z, Z = msV zMs none 0 0 := ⟨_, rfl⟩
    rw [← hZS] at hW RZ IZ OZ BZ
    simp only [← hZS] at hzv ERR8 RZ0
    clear h1 h2 hb hbl hy hn B0 B1 B2 r1 r2 z2 hgd hPR ERR hZS hl8 hps hsm hpl
    go_enter Try.func17, Try.ntmps17
    go_upto_region 1 with fail
    rw [← hW0, ← hW1, ← hW]
    try rw [z0]
    try rw [z1]
    clear hW0 hW1 hW z0 z1
    go_upto_region 3 with fail
    have q2 := Q2.out
    clear q1
    go_upto_region 4 with (first
      | (refine wpList_load_row rfl 29 (.tmp 4) rfl (w.heap.size) rfl _ _ _ _ R1.out Try.underlying29 rfl IC1.out ?_)
      | (refine wpList_load_row rfl 29 (.tmp 5) rfl (w.heap.size + 1) rfl _ _ _ _ R2.out Try.underlying29 rfl IC2.out ?_)
      | (go_at_call 29; refine PS.out.mono ?_; rintro e w5 ⟨A5, n5, c5, rfl, P5, B5⟩
         have HB5 := Lib.hid B5
         have SS := Lib.hid (chkC.sum2_on (f := sm) (Below.refl w5.heap.size w5) P5 (show chkC.PartAt w5 w5.heap.size ⟨A0, n0, c0, bs⟩ from ⟨XN.out w5 B5, (show n0 ≤ 10000 by have := HN.out; omega), HPY.out⟩) HPL.out)
         clear P5 B5)
      | (go_at_call 35; refine SS.out.mono ?_; rintro e w6 ⟨rfl, B6⟩
         have W6 := Lib.hid (HB5.out.trans (B6.mono HB5.out.size))
         clear B6))
    clear SS PS HB5
    have FE := Lib.hid (ERR8.out w6 W6.out)
    have RW := Lib.hid (RZ0.out w6 W6.out)
    clear ERR8 RZ0 q2
    go_wp2_with (first
      | (refine adC.wpList_zero rfl 36 rfl ZS BZ.out ?_)
      | (refine wpList_store_row rfl 36 (.tmp 6) (.tmp 24) rfl (w.heap.size + 2) _ rfl rfl _ _ RW.out IZ.out rfl OZ.out ?_))
    refine bodyPost_ret (v := .tuple #[.agg ZS, .int .i64 8]) (adC.results_cell_tmp Try.results17 _ _ (w.heap.size + 2) _ _ _ _ _ (by rfl) (setRow_heap _ _ _ _ _ _ RW.out) Try.underlying36 rfl IZ.out (by rfl)) rfl ?_
    exact FE.out
  have Q2 := Lib.hid (show (sm != 65535) = false by rw [of_decide_eq_true hgd]; rfl)
  have hpr := psI_rd (six := s1) (bs := bs) (by omega)
  rw [hPR] at hpr
  have hry := rd_byte (six := s1) hy
  have CRD := Lib.hid (fun (p : Nat) (w' : World) (h : octC.RdD w' p p bs) => cread_any p p bs s1 w' h (by omega) (by omega) hy)
  have RDC0 := Lib.hid (fun (w' : World) (h : Below W.heap.size W w') => octC.read_any A0 n0 c0 bs w' (XN.out w' h) (by omega))
  obtain ⟨mR, hmR⟩ : ∃ q, q = (rdM s1 bs).1 := ⟨_, rfl⟩
  obtain ⟨XR, hXR⟩ : ∃ q, q = (rdM s1 bs).2 := ⟨_, rfl⟩
  rw [← hmR, ← hXR] at hpr
  rw [← hXR] at hry
  rw [show rdM s1 bs = (mR, XR) by rw [hmR, hXR]] at CRD
  have CRD := Lib.hid (fun (p : Nat) (w' : World) (h : octC.RdD w' p p bs) => (show Calls Try.prog 36 #[.pointer (some ⟨p, 0, none⟩), .bool s1] w' fun e w'' => ∃ A n c, e = .returned (.agg (msV mR A n c)) ∧ Own .u8 5 w'' w'.heap.size (.slice A n c) XR ∧ Fr (· = p) w' w'' from CRD.out p w' h))
  have HPR := Lib.hid hpr
  have HRY := Lib.hid hry
  have ZS0 := Lib.hid (show (msV zMs none 0 0)[0]? = some (.int .i64 0) from rfl)
  have SZS := Lib.hid (fun (A : Option Addr) (n c : Nat) => ms_size zMs mR none A 0 0 n c)
  obtain ⟨ZS, hZS⟩ : ∃ Z, Z = msV zMs none 0 0 := ⟨_, rfl⟩
  rw [← hZS] at hW RZ IZ OZ BZ ZS0
  simp only [← hZS] at hzv RZ0 ERR SZS
  have HZS := Lib.hid hZS
  clear h1 h2 hb hbl hy hn B0 B1 B2 r1 r2 z2 hgd hPR hZS hl8 hsm hpl hpr hry hmR hXR
  go_enter Try.func17, Try.ntmps17
  go_upto_region 1 with fail
  rw [← hW0, ← hW1, ← hW]
  try rw [z0]
  try rw [z1]
  clear hW0 hW1 hW z0 z1
  go_upto_region 3 with fail
  have q2 := Q2.out
  clear q1
  go_upto_region 5 with (first
    | (refine wpList_load_row rfl 29 (.tmp 4) rfl (w.heap.size) rfl _ _ _ _ R1.out Try.underlying29 rfl IC1.out ?_)
    | (refine wpList_load_row rfl 29 (.tmp 5) rfl (w.heap.size + 1) rfl _ _ _ _ R2.out Try.underlying29 rfl IC2.out ?_)
    | (go_at_call 29; refine PS.out.mono ?_; rintro e w5 ⟨A5, n5, c5, rfl, P5, B5⟩
       have HB5 := Lib.hid B5
       have SS := Lib.hid (chkC.sum2_on (f := sm) (Below.refl w5.heap.size w5) P5 (show chkC.PartAt w5 w5.heap.size ⟨A0, n0, c0, bs⟩ from ⟨XN.out w5 B5, (show n0 ≤ 10000 by have := HN.out; omega), HPY.out⟩) HPL.out)
       clear P5 B5)
    | (go_at_call 35; refine SS.out.mono ?_; rintro e w6 ⟨rfl, B6⟩
       have W6 := Lib.hid (HB5.out.trans (B6.mono HB5.out.size))
       clear B6))
  clear SS PS HB5
  have RDC := Lib.hid (fun w' (h : Below w6.heap.size w6 w') => RDC0.out w' (W6.out.trans (h.mono W6.out.size)))
  have KS := Lib.hid (fun w' (h : Below w6.heap.size w6 w') => (show w'.cell? ⟨w.heap.size, 0, none⟩ = some (.bool s1) from pkC.PkC.cell (show w'.heap[w.heap.size]? = some (.cells C1 29 (0, 0)) by rw [(W6.out.trans (h.mono W6.out.size)).block _ (by have := LR.out; omega)]; exact R1.out) K1.out))
  unfold octC.RdRet at RDC
  clear RDC0 q2
  generalize hWr : w6 = Wr at *
  clear hWr
  refine with_act fun a0 ha0 => ?_
  have hl : ptT.length = a0.tmps.size := by rw [ha0]; rfl
  have k0 : a0.tmps[0]?.getD undef = .slice A0 n0 c0 := by rw [ha0]; rfl
  have k4 : a0.tmps[4]?.getD undef = .pointer (some ⟨w.heap.size, 0, none⟩) := by rw [ha0]; rfl
  refine wp_region_J (by kernel_rfl) ptT (by kernel_rfl) (by kernel_rfl) hl (fun i => undef) (by rw [ha0]; rfl) (PJx Wr w.heap.size (.slice A0 n0 c0) s1 bs ZS mR XR) ⟨0, 0, none, 0, 0, (Below.refl _ _).drew, (fun h => by cases h), (fun h => by cases h), (fun h => by cases h), (fun h => by cases h), (fun h => by cases h), (fun h => by cases h), (fun h => by cases h), (fun h => by cases h), (fun h => by cases h), (fun h => by cases h)⟩ ⟨?_, ?_, ?_, ?_, ?_, ?_, ?_, trivial⟩ ?_
  · refine stepJ [] (by kernel_rfl) rfl fun m us w' ⟨p, q, A, n, c, J⟩ hmi hm => ?_
    have h6 := off6 J (i := 0) (by decide) hmi
    have o0 := (frame_old2 (us := us) (a := a0) (show (ptT[0]?).join = none from rfl)).trans k0
    generalize frame ptT a0 us = fr at *
    exact val_J (R := fun v w'' => PJx Wr w.heap.size (.slice A0 n0 c0) s1 bs ZS mR XR (upd m 0 true) (upd us 0 v) w'') (v := .slice A0 n0 c0) (w' := w') (by go_simp) ⟨p, q, A, n, c, ⟨(J.bel), (fun _ => rfl), (J.v1), (J.rd), (J.v2), (J.v3), (J.v4), (J.v5), (J.r5), (fun h => by have h2 : m 6 = true := h; rw [h6] at h2; cases h2), (fun h => by have h2 : m 6 = true := h; rw [h6] at h2; cases h2)⟩⟩
  · refine stepJ [0] (by kernel_rfl) rfl fun m us w' ⟨p, q, A, n, c, J⟩ hmi hm => ?_
    have h6 := off6 J (i := 1) (by decide) hmi
    have v0 := (frame_at2 (us := us) hl (show (ptT[25]?).join = some 0 from rfl)).trans (J.v0 (hm 0 (by simp)))
    generalize frame ptT a0 us = fr at *
    exact call_J (R := fun v w'' => PJx Wr w.heap.size (.slice A0 n0 c0) s1 bs ZS mR XR (upd m 1 true) (upd us 1 v) w'') (f := 37) (args := #[.slice A0 n0 c0]) (by go_simp) ((RDC.out w' J.bel).mono fun e w'' ⟨p', he, hp, hR, hB⟩ => ⟨_, he, p', q, A, n, c, ⟨(J.bel.trans (hB.mono J.bel.size)), (J.v0), (fun _ => ⟨rfl, Nat.le_trans J.bel.size hp⟩), (fun _ _ => hR), (J.v2), (J.v3), (fun h => ⟨(J.v4 h).1, (J.v4 h).2.below hB⟩), (J.v5), (fun a b => ((hB).block _ (lt_of_rowI (J.r5 a b))).trans (J.r5 a b)), (fun h => by have h2 : m 6 = true := h; rw [h6] at h2; cases h2), (fun h => by have h2 : m 6 = true := h; rw [h6] at h2; cases h2)⟩⟩)
  · refine stepJ [] (by kernel_rfl) rfl fun m us w' ⟨p, q, A, n, c, J⟩ hmi hm => ?_
    have h6 := off6 J (i := 2) (by decide) hmi
    have o4 := (frame_old2 (us := us) (a := a0) (show (ptT[4]?).join = none from rfl)).trans k4
    generalize frame ptT a0 us = fr at *
    exact val_J (R := fun v w'' => PJx Wr w.heap.size (.slice A0 n0 c0) s1 bs ZS mR XR (upd m 2 true) (upd us 2 v) w'') (v := .pointer (some ⟨w.heap.size, 0, none⟩)) (w' := w') (by go_simp) ⟨p, q, A, n, c, ⟨(J.bel), (J.v0), (J.v1), (J.rd), (fun _ => rfl), (J.v3), (J.v4), (J.v5), (J.r5), (fun h => by have h2 : m 6 = true := h; rw [h6] at h2; cases h2), (fun h => by have h2 : m 6 = true := h; rw [h6] at h2; cases h2)⟩⟩
  · refine stepJ [2] (by kernel_rfl) rfl fun m us w' ⟨p, q, A, n, c, J⟩ hmi hm => ?_
    have h6 := off6 J (i := 3) (by decide) hmi
    have v2 := (frame_at2 (us := us) hl (show (ptT[27]?).join = some 2 from rfl)).trans (J.v2 (hm 2 (by simp)))
    have hc := KS.out w' J.bel
    generalize frame ptT a0 us = fr at *
    exact val_J (R := fun v w'' => PJx Wr w.heap.size (.slice A0 n0 c0) s1 bs ZS mR XR (upd m 3 true) (upd us 3 v) w'') (v := .bool s1) (w' := w') (by go_simp) ⟨p, q, A, n, c, ⟨(J.bel), (J.v0), (J.v1), (J.rd), (J.v2), (fun _ => rfl), (J.v4), (J.v5), (J.r5), (fun h => by have h2 : m 6 = true := h; rw [h6] at h2; cases h2), (fun h => by have h2 : m 6 = true := h; rw [h6] at h2; cases h2)⟩⟩
  · refine stepJ [1, 3] (by kernel_rfl) rfl fun m us w' ⟨p, q, A, n, c, J⟩ hmi hm => ?_
    have h6 := off6 J (i := 4) (by decide) hmi
    obtain ⟨e1, hp⟩ := J.v1 (hm 1 (by simp))
    have hRd := J.rd (hm 1 (by simp)) hmi
    have v1 := (frame_at2 (us := us) hl (show (ptT[26]?).join = some 1 from rfl)).trans e1
    have v3 := (frame_at2 (us := us) hl (show (ptT[28]?).join = some 3 from rfl)).trans (J.v3 (hm 3 (by simp)))
    generalize frame ptT a0 us = fr at *
    exact call_J (R := fun v w'' => PJx Wr w.heap.size (.slice A0 n0 c0) s1 bs ZS mR XR (upd m 4 true) (upd us 4 v) w'') (f := 36) (args := #[.pointer (some ⟨p, 0, none⟩), .bool s1]) (by go_simp) ((CRD.out p w' (rd_rdD hRd)).mono fun e w'' ⟨A', n', c', he, hO, hF⟩ => ⟨_, he, p, q, A', n', c', ⟨(J.bel.trans (fr_to hF (fun k hk => by obtain rfl := hk; exact hp) J.bel.size)), (J.v0), (J.v1), (fun _ h => by cases h), (J.v2), (J.v3), (fun _ => ⟨rfl, hO.less J.bel.size⟩), (J.v5), (fun a b => hF.row (J.r5 a b) (ne_rd (J.r5 a b) ZS0.out hRd)), (fun h => by have h2 : m 6 = true := h; rw [h6] at h2; cases h2), (fun h => by have h2 : m 6 = true := h; rw [h6] at h2; cases h2)⟩⟩)
  · refine stepJ [] (by kernel_rfl) rfl fun m us w' ⟨p, q, A, n, c, J⟩ hmi hm => ?_
    have h6 := off6 J (i := 5) (by decide) hmi
    generalize frame ptT a0 us = fr at *
    exact val_J (R := fun v w'' => PJx Wr w.heap.size (.slice A0 n0 c0) s1 bs ZS mR XR (upd m 5 true) (upd us 5 v) w'') (v := .pointer (some ⟨w'.heap.size, 0, none⟩)) (w' := w'.alloc (.cells ZS 36)) (by have hz := hzv; go_simp) ⟨p, w'.heap.size, A, n, c, ⟨(J.bel.trans ((alloc_below _ _).mono J.bel.size)), (J.v0), (J.v1), (fun a b => octC.Rd.below (J.rd a b) (alloc_below _ _)), (J.v2), (J.v3), (fun h => ⟨(J.v4 h).1, (J.v4 h).2.below (alloc_below _ _)⟩), (fun _ => ⟨rfl, J.bel.size⟩), (fun _ _ => heap_alloc_new _ _), (fun h => by have h2 : m 6 = true := h; rw [h6] at h2; cases h2), (fun h => by have h2 : m 6 = true := h; rw [h6] at h2; cases h2)⟩⟩
  · refine stepJ [5, 4, 0, 1, 2, 3] (by kernel_rfl) rfl fun m us w' ⟨p, q, A, n, c, J⟩ hmi hm => ?_
    obtain ⟨e5, hql⟩ := J.v5 (hm 5 (by simp))
    obtain ⟨e4, hO⟩ := J.v4 (hm 4 (by simp))
    have hq := J.r5 (hm 5 (by simp)) hmi
    have v5 := (frame_at2 (us := us) hl (show (ptT[8]?).join = some 5 from rfl)).trans e5
    have v4 := (frame_at2 (us := us) hl (show (ptT[29]?).join = some 4 from rfl)).trans e4
    generalize frame ptT a0 us = fr at *
    exact store_J (R := fun v w'' => PJx Wr w.heap.size (.slice A0 n0 c0) s1 bs ZS mR XR (upd m 6 true) (upd us 6 v) w'') 36 8 29 rfl q (msV mR A n c) v5 v4 _ _ hq (msC mR A n c).cinfo (SZS.out A n c) (ms_one mR A n c) ⟨p, q, A, n, c, ⟨(setR_belowI J.bel hql _), (J.v0), (J.v1), (fun _ h => by have h2 : m 4 = false := h; rw [hm 4 (by simp)] at h2; cases h2), (J.v2), (J.v3), (fun h => ⟨e4, own_otherI hO hq (by decide)⟩), (J.v5), (fun _ h => by cases h), (fun _ => setRow_heap _ _ _ _ _ _ hq), (fun _ => ⟨hm 0 (by simp), hm 1 (by simp), hm 2 (by simp), hm 3 (by simp), hm 4 (by simp), hm 5 (by simp)⟩)⟩⟩
  · rintro m us w6 hall ⟨p, q, A, n, c, J⟩
    obtain ⟨e5, hql⟩ := J.v5 (hall 5 (by decide))
    obtain ⟨e4, hO⟩ := J.v4 (hall 4 (by decide))
    have HQ := Lib.hid (J.r6 (hall 6 (by decide)))
    have HQL := Lib.hid hql
    have HO := Lib.hid hO
    have HB6 := Lib.hid J.bel
    subst ha0
    simp only [frame, ptT, fill]
    rw [e5]
    clear hl J hO e4 e5 hql k0 k4 hall
    have W7 := Lib.hid (W6.out.trans (HB6.out.mono W6.out.size))
    have NXR := Lib.hid HO.out.nums
    have hxl := HO.out.len
    have MC := Lib.hid (cmay_any mR A n c s1 XR w6 NXR.out HRY.out)
    have ICR := Lib.hid (msC mR A n c).cinfo
    have OCR := Lib.hid (ms_one mR A n c)
    have SCR := Lib.hid (SZS.out A n c)
    have hpr := HPR.out
    rw [hxl] at hpr
    have LW := Lib.hid (show w.heap.size ≤ Wr.heap.size by have := SW.out; have := W6.out.size; omega)
    have PT := Lib.hid (pkC.PkC.cell (show w6.heap[w.heap.size]? = some (.cells C1 29 (0, 0)) by rw [W7.out.block _ (by have := LR.out; omega)]; exact R1.out) K1.out)
    have p4 := PT.out
    obtain ⟨mC, hmC⟩ : ∃ C, C = msV mR A n c := ⟨_, rfl⟩
    rw [← hmC] at MC ICR OCR SCR HQ
    have HMC := Lib.hid hmC
    clear hmC
    generalize mayM mR n s1 = my at *
    have HRW := Lib.hid (fun w7 (h : Below w6.heap.size w6 w7) => RZ0.out w7 (W7.out.trans (h.mono W7.out.size)))
    cases my
    · have hps : PR = (11, zMs, []) := by rw [hpr, if_neg (by decide)]
      have ERR11 := Lib.hid (fun wr hbw => ERR.out 11 wr hbw hps)
      clear hpr hps HPR ERR hxl
      go_upto_region 7 with (first
        | (refine wpList_load_row rfl 36 (.tmp 8) rfl q rfl _ _ _ _ HQ.out Try.underlying36 rfl ICR.out ?_)
        | (go_at_call 13; refine MC.out.mono ?_; rintro e w7 ⟨rfl, BB⟩
           have HB7 := Lib.hid BB
           clear BB))
      have FE := Lib.hid (ERR11.out w7 (W7.out.trans (HB7.out.mono W7.out.size)))
      have RW := Lib.hid (HRW.out w7 HB7.out)
      clear ERR11 RZ0 HRW p4
      go_wp2_with (first
        | (refine adC.wpList_zero rfl 36 rfl ZS BZ.out ?_)
        | (refine wpList_store_row rfl 36 (.tmp 6) (.tmp 35) rfl (w.heap.size + 2) _ rfl rfl _ _ RW.out IZ.out rfl OZ.out ?_))
      refine bodyPost_ret (v := .tuple #[.agg ZS, .int .i64 11]) (adC.results_cell_tmp Try.results17 _ _ (w.heap.size + 2) _ _ _ _ _ (by rfl) (setRow_heap _ _ _ _ _ _ RW.out) Try.underlying36 rfl IZ.out (by rfl)) rfl ?_
      exact FE.out
    · have hps : PR = (0, mR, XR) := by rw [hpr, if_pos rfl]
      have HPS := Lib.hid hps
      clear hpr hps HPR ERR hxl
      go_upto_region 8 with (first
        | (refine wpList_load_row rfl 36 (.tmp 8) rfl q rfl _ _ _ _ HQ.out Try.underlying36 rfl ICR.out ?_)
        | (go_at_call 13; refine MC.out.mono ?_; rintro e w7 ⟨rfl, BB⟩
           have HB7 := Lib.hid BB
           clear BB))
      have RW := Lib.hid (HRW.out w7 HB7.out)
      have HQ7 := Lib.hid (show w7.heap[q]? = some (.cells mC 36 (0, 0)) by rw [HB7.out.block _ (lt_of_rowI HQ.out)]; exact HQ.out)
      clear RZ0 HRW p4
      go_wp2_with (first
        | (refine wpList_load_row rfl 36 (.tmp 8) rfl q rfl _ _ _ _ HQ7.out Try.underlying36 rfl ICR.out ?_)
        | (refine wpList_store_row rfl 36 (.tmp 6) (.tmp 36) rfl (w.heap.size + 2) _ rfl rfl _ _ RW.out ICR.out SCR.out OCR.out ?_))
      refine bodyPost_ret (v := .tuple #[.agg mC, .int .i64 0]) (adC.results_cell_tmp Try.results17 _ _ (w.heap.size + 2) _ _ _ _ _ (by rfl) (setRow_heap _ _ _ _ _ _ RW.out) Try.underlying36 rfl ICR.out (by rfl)) rfl ?_
      rw [HPS.out]
      exact ⟨A, n, c, by rw [HMC.out], own_otherI ((HO.out.below HB7.out).less LW.out) RW.out (by decide), setR_belowI ((HB.out.trans (W7.out.mono SW.out)).trans (HB7.out.mono (Nat.le_trans SW.out W7.out.size))) (by omega) _⟩
end Go.Proofs.Ytmbfgolcinniiaa.icC

/-
  Reply: the program's.
-/
namespace Go.Proofs.Ytmbfgolcinniiaa.icC
open Go.ChangeShapes Go.WideShapes Go.ChangeAt Go.RowKit
open Go.Proofs.Ytmbfgolcinniiaa.memC Go.Proofs.Ytmbfgolcinniiaa.genC Go.Proofs.Ytmbfgolcinniiaa.butC Go.Proofs.Ytmbfgolcinniiaa.freeC Go.Proofs.Ytmbfgolcinniiaa.adC
set_option linter.unusedVariables false
/-- what a store of a message does, at or behind a block -/
def MsDq (Bq : Nat) (w1 w2 : World) : Prop := Below w1.heap.size w1 w2 ∨ ∃ g cs cs', w1.heap[g]? = some (.cells cs 36 (0, 0)) ∧ Bq ≤ g ∧ w2 = w1.setRow g cs'
def GrMq (B : Nat) (w0 w : World) : Prop := Below B w0 w ∧ B ≤ w.heap.size
theorem GrMq.row {B : Nat} {w0 w : World} (h : GrMq B w0 w) {g : Nat} {ob : Obj} (hg : g < B) (hr : w0.heap[g]? = some ob) : w.heap[g]? = some ob := by rw [h.1.block _ hg]; exact hr
theorem GrMq.keep {B : Nat} {w0 w w' : World} (h : GrMq B w0 w) (hd : Below w.heap.size w w' ∨ MsDq B w w') : GrMq B w0 w' := by
  rcases hd with hd | hd | ⟨g, cs, cs', hr, hg, rfl⟩
  · exact ⟨h.1.trans (hd.mono h.2), Nat.le_trans h.2 hd.size⟩
  · exact ⟨h.1.trans (hd.mono h.2), Nat.le_trans h.2 hd.size⟩
  · exact ⟨setR_belowI h.1 hg _, by simpa using h.2⟩
theorem cs_built4 (x a b : Int) (A : Option Addr) (n c : Nat) : Try.prog.built 36 [(0, .int .i64 x), (2, .int .u16 a), (3, .int .u16 b), (5, .slice A n c)] = some (msV ⟨x, 0, a, b, 0⟩ A n c) := by kernel_rfl
def rqR (Bq base : Nat) (ZS : Array Value) (rM : Ms) (mm : Nat) (XD : List Int) : Nat → (Nat → Value) → World → Prop
  | 0, _, w => w.heap[Bq]? = some (.cells ZS 36 (0, 0))
  | 1, _, w => ∃ B' d', w.heap[Bq]? = some (.cells (msV rM B' mm d') 36 (0, 0)) ∧ Own .u8 5 w base (.slice B' mm d') XD
  | _, _, _ => True
theorem rqR.keep (Bq base : Nat) (ZS : Array Value) (rM : Ms) (mm : Nat) (XD : List Int) (k : Nat) (us us' : Nat → Value) (w1 w2 : World) (hb : Below w1.heap.size w1 w2) (hR : rqR Bq base ZS rM mm XD k us w1) : rqR Bq base ZS rM mm XD k us' w2 := by
  unfold rqR at hR ⊢
  split at hR
  · rw [hb.block _ (lt_of_rowI hR)]; exact hR
  · obtain ⟨B', d', h3, h4⟩ := hR
    exact ⟨B', d', by rw [hb.block _ (lt_of_rowI h3)]; exact h3, h4.below hb⟩
  · trivial
def rqV (g1 g2 : Nat) (xi xs : Int) (BD : Option Addr) (mm dd : Nat) (rM : Ms) (XD : List Int) (base Bq : Nat) : Nat → Value → World → Prop
  | 0, v, _ => v = .pointer (some ⟨g1, 2, none⟩)
  | 1, v, _ => v = .int .u16 xi
  | 2, v, _ => v = .pointer (some ⟨g1, 3, none⟩)
  | 3, v, _ => v = .int .u16 xs
  | 4, v, _ => v = .pointer (some ⟨g1, 5, none⟩)
  | 5, v, _ => v = .slice BD mm dd
  | 6, v, wX => ∃ B' d', v = .slice B' mm d' ∧ Own .u8 5 wX base (.slice B' mm d') XD
  | 7, v, wX => ∃ B' d', v = .agg (msV rM B' mm d') ∧ Own .u8 5 wX base (.slice B' mm d') XD
  | 9, v, _ => v = .bool true
  | _, _, _ => True
theorem rqV.keep (g1 g2 : Nat) (xi xs : Int) (BD : Option Addr) (mm dd : Nat) (rM : Ms) (XD : List Int) (base Bq : Nat) (i : Nat) (v : Value) (w w' : World) (hd : Below w.heap.size w w' ∨ MsDq Bq w w') (h : rqV g1 g2 xi xs BD mm dd rM XD base Bq i v w) : rqV g1 g2 xi xs BD mm dd rM XD base Bq i v w' := by
  by_cases e6 : i = 6
  · subst e6
    obtain ⟨B', d', h1, h2⟩ := h
    rcases hd with hd | hd | ⟨g, cs, cs', hr, hg, rfl⟩
    · exact ⟨B', d', h1, h2.below hd⟩
    · exact ⟨B', d', h1, h2.below hd⟩
    · exact ⟨B', d', h1, own_otherI h2 hr (by decide)⟩
  by_cases e7 : i = 7
  · subst e7
    obtain ⟨B', d', h1, h2⟩ := h
    rcases hd with hd | hd | ⟨g, cs, cs', hr, hg, rfl⟩
    · exact ⟨B', d', h1, h2.below hd⟩
    · exact ⟨B', d', h1, h2.below hd⟩
    · exact ⟨B', d', h1, own_otherI h2 hr (by decide)⟩
  unfold rqV at h ⊢
  split at h <;> first | exact h | exact absurd rfl (by assumption)
def rqT : List (Option Nat) := [none, none, none, some 9, none, none, none, none, some 0, some 1, some 2, some 3, some 4, some 5, some 6, some 7]
set_option maxRecDepth 100000 in
set_option maxHeartbeats 1000000 in
theorem creply_any (m : Ms) (A : Option Addr) (n c : Nat) (zs : List Int) (w : World) (hx : Nums .u8 w w.heap.size A n zs) (hn : n ≤ 100000) :
    Calls Try.prog 20 #[.agg (msV m A n c)] w (MsB w (repM m) (repL m zs) (decide (m.ki = 1))) := by
  have hzv := zeroCs
  obtain ⟨W0, hW0⟩ : ∃ W, W = w.alloc (.cells (msV m A n c) 36) := ⟨_, rfl⟩
  obtain ⟨W, hW⟩ : ∃ W, W = W0.alloc (.cells (msV zMs none 0 0) 36) := ⟨_, rfl⟩
  have z0 : W0.heap.size = w.heap.size + 1 := by rw [hW0, alloc_size]
  have B0 : Below w.heap.size w W0 := by rw [hW0]; exact alloc_below _ _
  have B1 : Below W0.heap.size W0 W := by rw [hW]; exact alloc_below _ _
  have HB := Lib.hid (show Below w.heap.size w W from B0.trans (B1.mono (by omega)))
  have RP : W.heap[w.heap.size]? = some (.cells (msV m A n c) 36 (0, 0)) := by rw [B1.block _ (by omega), hW0]; exact heap_alloc_new _ _
  have RZ := Lib.hid (show W.heap[w.heap.size + 1]? = some (.cells (msV zMs none 0 0) 36 (0, 0)) by rw [hW, ← z0]; exact heap_alloc_new _ _)
  have OC := msC m A n c
  have k0 := pkC.PkC.cell RP OC.ki
  have IZ := Lib.hid (msC zMs none 0 0).cinfo
  have OZ := Lib.hid (ms_one zMs none 0 0)
  have BZ := Lib.hid zCs_built
  unfold repM repL
  by_cases h1 : m.ki = 1
  rotate_left
  · have d1 : (m.ki != 1) = true := bne_iff_ne.2 h1
    rw [if_neg h1, if_neg h1, decide_eq_false h1]
    generalize msV m A n c = CP at *
    obtain ⟨ZS, hZS⟩ : ∃ Z, Z = msV zMs none 0 0 := ⟨_, rfl⟩
    simp only [← hZS] at hW hzv RZ IZ OZ BZ
    have EZ := Lib.hid hZS
    generalize m.ki = ki at *
    clear OC hx B0 B1 hZS h1
    go_enter Try.func20, Try.ntmps20
    go_upto_region 1 with fail
    rw [← hW0, ← hW]
    try rw [z0]
    clear hW0 hW z0 hzv
    go_wp2_with (first
      | (refine adC.wpList_zero rfl 36 rfl ZS BZ.out ?_)
      | (refine wpList_store_row rfl 36 (.tmp 2) (.tmp 7) rfl (w.heap.size + 1) _ rfl rfl _ _ RZ.out IZ.out rfl OZ.out ?_))
    refine bodyPost_ret (v := .tuple #[.agg ZS, .bool false]) (adC.results_cell_tmp Try.results20 _ _ (w.heap.size + 1) _ _ _ _ _ (by rfl) (setRow_heap _ _ _ _ _ _ RZ.out) Try.underlying36 rfl IZ.out (by rfl)) rfl ?_
    exact ⟨none, 0, 0, by rw [EZ.out], Own.nil _ _, setR_belowI HB.out (by omega) _⟩
  have d1 : (m.ki != 1) = false := by rw [h1]; rfl
  rw [if_pos h1, if_pos h1, decide_eq_true h1]
  have BQW := Lib.hid (show w.heap.size + 1 ≤ W.heap.size by rw [hW, alloc_size, z0]; omega)
  have BQL := Lib.hid (show w.heap.size ≤ w.heap.size + 1 from Nat.le_succ _)
  have KRP := fun (w' : World) (h : GrMq (w.heap.size + 1) W w') => h.row (Nat.lt_succ_self _) RP
  have KI := Lib.hid (fun (w' : World) (h : GrMq (w.heap.size + 1) W w') => pkC.PkC.cell (KRP w' h) OC.id)
  have KQ := Lib.hid (fun (w' : World) (h : GrMq (w.heap.size + 1) W w') => pkC.PkC.cell (KRP w' h) OC.sq)
  have KD := Lib.hid (fun (w' : World) (h : GrMq (w.heap.size + 1) W w') => pkC.PkC.cell (KRP w' h) OC.da)
  have NXD := Lib.hid (fun (w' : World) (h : GrMq (w.heap.size + 1) W w') => (show Nums .u8 w' w'.heap.size A n zs from (hx.below (HB.out.trans (h.1.mono (Nat.le_succ _)))).more (Nat.le_trans (Nat.le_succ _) h.2)))
  have MM9 := Lib.hid hn
  have IX := Lib.hid (fun (B' : Option Addr) (d' : Nat) => (msC ⟨2, 0, m.id, m.sq, 0⟩ B' n d').cinfo)
  have SX := Lib.hid (fun (B' : Option Addr) (d' : Nat) => ms_size zMs ⟨2, 0, m.id, m.sq, 0⟩ none B' 0 0 n d')
  have OX := Lib.hid (fun (B' : Option Addr) (d' : Nat) => ms_one ⟨2, 0, m.id, m.sq, 0⟩ B' n d')
  have BLT := Lib.hid (fun (B' : Option Addr) (d' : Nat) => cs_built4 2 m.id m.sq B' n d')
  obtain ⟨i0, hi0, hz0, hz1, hz2⟩ := info_parts byte_inf
  have I1 := Lib.hid hi0; have I2 := Lib.hid hz0; have I3 := Lib.hid hz1; have I4 := Lib.hid hz2
  generalize msV m A n c = CP at *
  obtain ⟨ZS, hZS⟩ : ∃ Z, Z = msV zMs none 0 0 := ⟨_, rfl⟩
  simp only [← hZS] at hW hzv RZ IZ OZ BZ SX
  clear OC hx B0 B1 hZS KRP RP hn hi0 hz0 hz1 hz2
  go_enter Try.func20, Try.ntmps20
  go_upto_region 1 with fail
  rw [← hW0, ← hW]
  try rw [z0]
  clear hW0 hW z0 hzv
  go_upto_region 3 with fail
  clear k0 d1 h1
  refine with_act fun a0 ha0 => ?_
  have hl : rqT.length = a0.tmps.size := by rw [ha0]; rfl
  have k1 : a0.tmps[1]?.getD undef = .pointer (some ⟨(w.heap.size), 0, none⟩) := by rw [ha0]; rfl
  have k2 : a0.tmps[2]?.getD undef = .pointer (some ⟨(w.heap.size + 1), 0, none⟩) := by rw [ha0]; rfl
  refine wp_region_che (by kernel_rfl) rqT (by kernel_rfl) (by kernel_rfl) hl (fun i => if i = 9 then .bool false else undef) (by rw [ha0]; rfl) (0) (MsDq (w.heap.size + 1)) [8] (by kernel_rfl) (by decide) (by decide) (fun w' => GrMq (w.heap.size + 1) W w') (rqV (w.heap.size) (w.heap.size + 1) m.id m.sq A n c (⟨2, 0, m.id, m.sq, 0⟩ : Ms) zs (w.heap.size) (w.heap.size + 1)) ((rqR (w.heap.size + 1) (w.heap.size) ZS (⟨2, 0, m.id, m.sq, 0⟩ : Ms) n zs)) (Nat.zero_le _) ⟨(Below.refl _ _).drew.mono BQW.out, BQW.out⟩ RZ.out (fun w1 w2 hb hd h => h.keep hd) (fun i v w w' _ hd h => rqV.keep _ _ _ _ _ _ _ _ _ _ _ i v w w' hd h) (fun k us us' w w' h _ hb hR => rqR.keep _ _ _ _ _ _ k us us' w w' hb hR) ⟨?_, ?_, ?_, ?_, ?_, ?_, ?_, ?_, ?_, ?_, trivial⟩ ?_
  · refine stepE_val [] (by kernel_rfl) (by decide) (by decide) rfl fun us w' hB hG hV => ?_
    have o1 := (frame_old2 (us := us) (a := a0) (show (rqT[1]?).join = none from rfl)).trans k1
    generalize frame rqT a0 us = fr at *
    exact val_C (v := .pointer (some ⟨(w.heap.size), 2, none⟩)) (w' := w') (by go_simp) (Below.refl _ _) rfl
  · refine stepE_val [0] (by kernel_rfl) (by decide) (by decide) rfl fun us w' hB hG hV => ?_
    have e0 : us 0 = .pointer (some ⟨(w.heap.size), 2, none⟩) := hV 0 (by simp)
    have v0 := (frame_at2 (us := us) hl (show (rqT[8]?).join = some 0 from rfl)).trans e0
    have hc := KI.out w' hG
    generalize frame rqT a0 us = fr at *
    exact val_C (v := .int .u16 m.id) (w' := w') (by go_simp) (Below.refl _ _) rfl
  · refine stepE_val [] (by kernel_rfl) (by decide) (by decide) rfl fun us w' hB hG hV => ?_
    have o1 := (frame_old2 (us := us) (a := a0) (show (rqT[1]?).join = none from rfl)).trans k1
    generalize frame rqT a0 us = fr at *
    exact val_C (v := .pointer (some ⟨(w.heap.size), 3, none⟩)) (w' := w') (by go_simp) (Below.refl _ _) rfl
  · refine stepE_val [2] (by kernel_rfl) (by decide) (by decide) rfl fun us w' hB hG hV => ?_
    have e2 : us 2 = .pointer (some ⟨(w.heap.size), 3, none⟩) := hV 2 (by simp)
    have v2 := (frame_at2 (us := us) hl (show (rqT[10]?).join = some 2 from rfl)).trans e2
    have hc := KQ.out w' hG
    generalize frame rqT a0 us = fr at *
    exact val_C (v := .int .u16 m.sq) (w' := w') (by go_simp) (Below.refl _ _) rfl
  · refine stepE_val [] (by kernel_rfl) (by decide) (by decide) rfl fun us w' hB hG hV => ?_
    have o1 := (frame_old2 (us := us) (a := a0) (show (rqT[1]?).join = none from rfl)).trans k1
    generalize frame rqT a0 us = fr at *
    exact val_C (v := .pointer (some ⟨(w.heap.size), 5, none⟩)) (w' := w') (by go_simp) (Below.refl _ _) rfl
  · refine stepE_val [4] (by kernel_rfl) (by decide) (by decide) rfl fun us w' hB hG hV => ?_
    have e4 : us 4 = .pointer (some ⟨(w.heap.size), 5, none⟩) := hV 4 (by simp)
    have v4 := (frame_at2 (us := us) hl (show (rqT[12]?).join = some 4 from rfl)).trans e4
    have hc := KD.out w' hG
    generalize frame rqT a0 us = fr at *
    exact val_C (v := .slice A n c) (w' := w') (by go_simp) (Below.refl _ _) rfl
  · refine stepE_val [5] (by kernel_rfl) (by decide) (by decide) rfl fun us w' hB hG hV => ?_
    have e5 : us 5 = .slice A n c := hV 5 (by simp)
    have v5 := (frame_at2 (us := us) hl (show (rqT[13]?).join = some 5 from rfl)).trans e5
    have hl9 := (NXD.out w' hG).len
    generalize frame rqT a0 us = fr at *
    exact call_C (f := 40) (args := #[.slice A n c]) (by go_simp) ((octC.clone_any A n c zs w' (NXD.out w' hG) (by have := MM9.out; omega)).mono fun e w'' h => by
      obtain ⟨A', c', h1, h2, -, -, -, h6⟩ := h
      rw [hl9] at h1 h2
      exact ⟨_, h1, h6, A', c', rfl, h2.less (Nat.le_trans BQL.out hG.2)⟩)
  · refine stepE_val [1, 3, 6] (by kernel_rfl) (by decide) (by decide) rfl fun us w' hB hG hV => ?_
    have e1 : us 1 = .int .u16 m.id := hV 1 (by simp)
    have v1 := (frame_at2 (us := us) hl (show (rqT[9]?).join = some 1 from rfl)).trans e1
    have e3 : us 3 = .int .u16 m.sq := hV 3 (by simp)
    have v3 := (frame_at2 (us := us) hl (show (rqT[11]?).join = some 3 from rfl)).trans e3
    obtain ⟨B6, d6, e6, O6⟩ := (show ∃ B' d', us 6 = .slice B' n d' ∧ Own .u8 5 w' (w.heap.size) (.slice B' n d') zs from hV 6 (by simp))
    have v6 := (frame_at2 (us := us) hl (show (rqT[14]?).join = some 6 from rfl)).trans e6
    generalize frame rqT a0 us = fr at *
    exact val_C (v := .agg (msV (⟨2, 0, m.id, m.sq, 0⟩ : Ms) B6 n d6)) (w' := w') (built4_runI (T := 36) rfl (by rfl) (eval_tmp v1) (eval_tmp v3) (eval_tmp v6) (BLT.out B6 d6)) (Below.refl _ _) ⟨B6, d6, rfl, O6⟩
  · refine stepE_chain 0 rfl (by decide) [7] (by kernel_rfl) (by decide) rfl fun us w' hB hG hV hR => ?_
    obtain ⟨B7, d7, e7, O7⟩ := (show ∃ B' d', us 7 = .agg (msV (⟨2, 0, m.id, m.sq, 0⟩ : Ms) B' n d') ∧ Own .u8 5 w' (w.heap.size) (.slice B' n d') zs from hV 7 (by simp))
    have v7 := (frame_at2 (us := us) hl (show (rqT[15]?).join = some 7 from rfl)).trans e7
    have o2 := (frame_old2 (us := us) (a := a0) (show (rqT[2]?).join = none from rfl)).trans k2
    generalize frame rqT a0 us = fr at *
    exact store_J (R := fun v w'' => (MsDq (w.heap.size + 1) w' w'' ∧ Below 0 w' w'') ∧ rqR (w.heap.size + 1) (w.heap.size) ZS (⟨2, 0, m.id, m.sq, 0⟩ : Ms) n zs 1 (upd us 8 v) w'') 36 2 15 rfl (w.heap.size + 1) (msV (⟨2, 0, m.id, m.sq, 0⟩ : Ms) B7 n d7) o2 v7 _ _ hR (IX.out B7 d7) (SX.out B7 d7) (OX.out B7 d7) ⟨⟨.inr ⟨(w.heap.size + 1), _, _, hR, Nat.le_refl _, rfl⟩, setR_belowI (Below.refl _ _) (Nat.zero_le _) _⟩, B7, d7, setRow_heap _ _ _ _ _ _ hR, own_otherI O7 hR (by decide)⟩
  · refine stepE_val [] (by kernel_rfl) (by decide) (by decide) rfl fun us w' hB hG hV => ?_
    generalize frame rqT a0 us = fr at *
    exact val_C (v := .bool true) (w' := w') (by go_simp) (Below.refl _ _) rfl
  · intro us w8 hB2 hG hV hR
    obtain ⟨B6, d6, hgr, O6⟩ := (show ∃ B' d', w8.heap[(w.heap.size + 1)]? = some (.cells (msV (⟨2, 0, m.id, m.sq, 0⟩ : Ms) B' n d') 36 (0, 0)) ∧ Own .u8 5 w8 (w.heap.size) (.slice B' n d') zs from hR)
    have e9 : us 9 = .bool true := hV 9 (by decide) (by decide)
    have HG8 := Lib.hid hG
    have HGR := Lib.hid hgr
    have HO6 := Lib.hid O6
    subst ha0
    simp only [frame, rqT, fill]
    rw [e9]
    clear hV hG hl hR hgr O6 k1 k2 e9
    have IY := Lib.hid (IX.out B6 d6)
    clear IX SX OX KI KQ KD NXD BLT
    go_wp2_with fail
    refine bodyPost_ret (v := .tuple #[.agg (msV (⟨2, 0, m.id, m.sq, 0⟩ : Ms) B6 n d6), .bool true]) (adC.results_cell_tmp Try.results20 _ _ (w.heap.size + 1) _ _ _ _ _ (by rfl) HGR.out Try.underlying36 rfl IY.out (by rfl)) rfl ?_
    exact ⟨B6, n, d6, rfl, HO6.out, HB.out.trans (HG8.out.1.mono (Nat.le_succ _))⟩
end Go.Proofs.Ytmbfgolcinniiaa.icC

/-
  About: the program's.
-/
namespace Go.Proofs.Ytmbfgolcinniiaa.icC
open Go.ChangeShapes Go.WideShapes Go.ChangeAt Go.RowKit
open Go.Proofs.Ytmbfgolcinniiaa.memC Go.Proofs.Ytmbfgolcinniiaa.genC Go.Proofs.Ytmbfgolcinniiaa.butC Go.Proofs.Ytmbfgolcinniiaa.freeC Go.Proofs.Ytmbfgolcinniiaa.adC
set_option linter.unusedVariables false
set_option maxRecDepth 100000 in
set_option maxHeartbeats 1000000 in
theorem cabout_any (k : Int) (A : Option Addr) (n c : Nat) (six : Bool) (xs : List Int) (w : World) (hx : Nums .u8 w w.heap.size A n xs) (hn : n ≤ 100000) (hnc : n ≤ c) :
    Calls Try.prog 22 #[.int .i64 k, .slice A n c, .bool six] w (MsR w (abM k) (abL k six xs)) := by
  have hzv := zeroCs
  obtain ⟨W, hW⟩ : ∃ W, W = w.alloc (.cells (msV zMs none 0 0) 36) := ⟨_, rfl⟩
  have HB := Lib.hid (show Below w.heap.size w W by rw [hW]; exact alloc_below _ _)
  have RZ := Lib.hid (show W.heap[w.heap.size]? = some (.cells (msV zMs none 0 0) 36 (0, 0)) by rw [hW]; exact heap_alloc_new _ _)
  have IZ := Lib.hid (msC zMs none 0 0).cinfo
  have OZ := Lib.hid (ms_one zMs none 0 0)
  have BZ := Lib.hid zCs_built
  unfold abM abL
  obtain ⟨ZS, hZS⟩ : ∃ Z, Z = msV zMs none 0 0 := ⟨_, rfl⟩
  simp only [← hZS] at hW hzv RZ IZ OZ BZ
  have EZ := Lib.hid hZS
  clear hZS
  by_cases h1 : k = 3 ∨ k = 4 ∨ k = 5
  rotate_left
  · rw [if_neg h1, if_neg h1]
    have d3 : (k == 3) = false := beq_eq_false_iff_ne.2 (by omega)
    have d4 : (k == 4) = false := beq_eq_false_iff_ne.2 (by omega)
    have d5 : (k == 5) = false := beq_eq_false_iff_ne.2 (by omega)
    clear hx h1
    go_enter Try.func22, Try.ntmps22
    go_upto_region 1 with fail
    rw [← hW]
    clear hW hzv
    go_wp2_with (first
      | (refine adC.wpList_zero rfl 36 rfl ZS BZ.out ?_)
      | (refine wpList_store_row rfl 36 (.tmp 6) (.tmp 23) rfl (w.heap.size) _ rfl rfl _ _ RZ.out IZ.out rfl OZ.out ?_))
    all_goals
      refine bodyPost_ret (v := .agg ZS) (Go.results_cell_row Try.results22 _ _ (w.heap.size) _ _ _ _ (by rfl) (setRow_heap _ _ _ _ _ _ RZ.out) Try.underlying36 rfl IZ.out) rfl ?_
      exact ⟨none, 0, 0, by rw [EZ.out], Own.nil _ _, setR_belowI HB.out (by omega) _⟩
  rw [if_pos h1, if_pos h1]
  have SZ := Lib.hid (show w.heap.size < W.heap.size by rw [hW, alloc_size]; omega)
  have NX := Lib.hid (fun q => nums_min (hx.below HB.out) q)
  have HNn := Lib.hid hn
  have SC := Lib.hid (fun q => cut_headI A n c (min n q) (Nat.le_trans (Nat.min_le_left _ _) hnc))
  obtain ⟨i0, hi0, hz0, hz1, hz2⟩ := info_parts byte_inf
  have I1 := Lib.hid hi0; have I2 := Lib.hid hz0; have I3 := Lib.hid hz1; have I4 := Lib.hid hz2
  have LXS := Lib.hid hx.len
  have IX := Lib.hid (fun (A' : Option Addr) (n' d' : Nat) => (msC ⟨k, 0, 0, 0, 0⟩ A' n' d').cinfo)
  have SX := Lib.hid (fun (A' : Option Addr) (n' d' : Nat) => ms_size zMs ⟨k, 0, 0, 0, 0⟩ none A' 0 0 n' d')
  have OX := Lib.hid (fun (A' : Option Addr) (n' d' : Nat) => ms_one ⟨k, 0, 0, 0, 0⟩ A' n' d')
  have BT := Lib.hid (fun (A' : Option Addr) (n' d' : Nat) => cs_built2 k A' n' d')
  rw [← EZ.out] at SX
  clear hx hn hi0 hz0 hz1 hz2
  by_cases h3 : k = 3
  · have d3 : (k == 3) = true := by rw [h3]; rfl
    clear h1 h3
    cases six
    · have hm : (if (548 : Int) < (n : Int) then (548 : Int) else (n : Int)) = ((min n 548 : Nat) : Int) := by split <;> omega
      have sc := SC.out 548
      have NMW := Lib.hid ((NX.out 548).more HB.out.size)
      have E6 : abN false = 548 := rfl
      have ML := Lib.hid (show min n 548 ≤ n from Nat.min_le_left _ _)
      have TL := Lib.hid (show (xs.take 548).length = min n 548 by rw [List.length_take, LXS.out]; omega)
      rw [E6]
      generalize xs.take 548 = zs at *
      generalize min n 548 = n9 at *
      clear SC NX E6
      go_enter Try.func22, Try.ntmps22
      go_upto_region 1 with fail
      rw [← hW]
      clear hW hzv
      go_upto_region 8 with fail
      go_wp2_with (first
        | (go_at_call 40; refine (octC.clone_any A n9 c zs W NMW.out (by have := HNn.out; have := ML.out; omega)).mono ?_; rintro e w6 ⟨A6, c6, rfl, O6, -, -, -, B6⟩
           rw [TL.out] at O6
           rw [TL.out]
           have HB6 := Lib.hid B6
           have HO6 := Lib.hid O6
           have RZ6 := Lib.hid (show w6.heap[w.heap.size]? = some (.cells ZS 36 (0, 0)) by rw [B6.block _ SZ.out]; exact RZ.out)
           have BT6 := Lib.hid (BT.out A6 n9 c6)
           have IX6 := Lib.hid (IX.out A6 n9 c6)
           have SX6 := Lib.hid (SX.out A6 n9 c6)
           have OX6 := Lib.hid (OX.out A6 n9 c6)
           clear B6 O6)
        | (with_reducible refine at_buildI 36 ?_; refine wpList_runG (by kernel_rfl) _ (built2_runI (T := 36) rfl (by kernel_rfl) (by kernel_rfl) BT6.out) ?_)
        | (refine wpList_store_row rfl 36 (.tmp 6) (.tmp 22) rfl (w.heap.size) _ rfl rfl _ _ RZ6.out IX6.out SX6.out OX6.out ?_))
      refine bodyPost_ret (v := .agg (msV ⟨k, 0, 0, 0, 0⟩ A6 n9 c6)) (Go.results_cell_row Try.results22 _ _ (w.heap.size) _ _ _ _ (by rfl) (setRow_heap _ _ _ _ _ _ RZ6.out) Try.underlying36 rfl IX6.out) rfl ?_
      exact ⟨A6, n9, c6, rfl, (own_otherI HO6.out RZ6.out (by decide)).less HB.out.size, setR_belowI (HB.out.trans (HB6.out.mono HB.out.size)) (Nat.le_refl _) _⟩
    · have hm : (if (1232 : Int) < (n : Int) then (1232 : Int) else (n : Int)) = ((min n 1232 : Nat) : Int) := by split <;> omega
      have sc := SC.out 1232
      have NMW := Lib.hid ((NX.out 1232).more HB.out.size)
      have E6 : abN true = 1232 := rfl
      have ML := Lib.hid (show min n 1232 ≤ n from Nat.min_le_left _ _)
      have TL := Lib.hid (show (xs.take 1232).length = min n 1232 by rw [List.length_take, LXS.out]; omega)
      rw [E6]
      generalize xs.take 1232 = zs at *
      generalize min n 1232 = n9 at *
      clear SC NX E6
      go_enter Try.func22, Try.ntmps22
      go_upto_region 1 with fail
      rw [← hW]
      clear hW hzv
      go_upto_region 8 with fail
      go_wp2_with (first
        | (go_at_call 40; refine (octC.clone_any A n9 c zs W NMW.out (by have := HNn.out; have := ML.out; omega)).mono ?_; rintro e w6 ⟨A6, c6, rfl, O6, -, -, -, B6⟩
           rw [TL.out] at O6
           rw [TL.out]
           have HB6 := Lib.hid B6
           have HO6 := Lib.hid O6
           have RZ6 := Lib.hid (show w6.heap[w.heap.size]? = some (.cells ZS 36 (0, 0)) by rw [B6.block _ SZ.out]; exact RZ.out)
           have BT6 := Lib.hid (BT.out A6 n9 c6)
           have IX6 := Lib.hid (IX.out A6 n9 c6)
           have SX6 := Lib.hid (SX.out A6 n9 c6)
           have OX6 := Lib.hid (OX.out A6 n9 c6)
           clear B6 O6)
        | (with_reducible refine at_buildI 36 ?_; refine wpList_runG (by kernel_rfl) _ (built2_runI (T := 36) rfl (by kernel_rfl) (by kernel_rfl) BT6.out) ?_)
        | (refine wpList_store_row rfl 36 (.tmp 6) (.tmp 22) rfl (w.heap.size) _ rfl rfl _ _ RZ6.out IX6.out SX6.out OX6.out ?_))
      refine bodyPost_ret (v := .agg (msV ⟨k, 0, 0, 0, 0⟩ A6 n9 c6)) (Go.results_cell_row Try.results22 _ _ (w.heap.size) _ _ _ _ (by rfl) (setRow_heap _ _ _ _ _ _ RZ6.out) Try.underlying36 rfl IX6.out) rfl ?_
      exact ⟨A6, n9, c6, rfl, (own_otherI HO6.out RZ6.out (by decide)).less HB.out.size, setR_belowI (HB.out.trans (HB6.out.mono HB.out.size)) (Nat.le_refl _) _⟩
  have d3 : (k == 3) = false := beq_eq_false_iff_ne.2 h3
  by_cases h4 : k = 4
  · have d4 : (k == 4) = true := by rw [h4]; rfl
    clear h1 h3 h4
    cases six
    · have hm : (if (548 : Int) < (n : Int) then (548 : Int) else (n : Int)) = ((min n 548 : Nat) : Int) := by split <;> omega
      have sc := SC.out 548
      have NMW := Lib.hid ((NX.out 548).more HB.out.size)
      have E6 : abN false = 548 := rfl
      have ML := Lib.hid (show min n 548 ≤ n from Nat.min_le_left _ _)
      have TL := Lib.hid (show (xs.take 548).length = min n 548 by rw [List.length_take, LXS.out]; omega)
      rw [E6]
      generalize xs.take 548 = zs at *
      generalize min n 548 = n9 at *
      clear SC NX E6
      go_enter Try.func22, Try.ntmps22
      go_upto_region 1 with fail
      rw [← hW]
      clear hW hzv
      go_upto_region 8 with fail
      go_wp2_with (first
        | (go_at_call 40; refine (octC.clone_any A n9 c zs W NMW.out (by have := HNn.out; have := ML.out; omega)).mono ?_; rintro e w6 ⟨A6, c6, rfl, O6, -, -, -, B6⟩
           rw [TL.out] at O6
           rw [TL.out]
           have HB6 := Lib.hid B6
           have HO6 := Lib.hid O6
           have RZ6 := Lib.hid (show w6.heap[w.heap.size]? = some (.cells ZS 36 (0, 0)) by rw [B6.block _ SZ.out]; exact RZ.out)
           have BT6 := Lib.hid (BT.out A6 n9 c6)
           have IX6 := Lib.hid (IX.out A6 n9 c6)
           have SX6 := Lib.hid (SX.out A6 n9 c6)
           have OX6 := Lib.hid (OX.out A6 n9 c6)
           clear B6 O6)
        | (with_reducible refine at_buildI 36 ?_; refine wpList_runG (by kernel_rfl) _ (built2_runI (T := 36) rfl (by kernel_rfl) (by kernel_rfl) BT6.out) ?_)
        | (refine wpList_store_row rfl 36 (.tmp 6) (.tmp 22) rfl (w.heap.size) _ rfl rfl _ _ RZ6.out IX6.out SX6.out OX6.out ?_))
      refine bodyPost_ret (v := .agg (msV ⟨k, 0, 0, 0, 0⟩ A6 n9 c6)) (Go.results_cell_row Try.results22 _ _ (w.heap.size) _ _ _ _ (by rfl) (setRow_heap _ _ _ _ _ _ RZ6.out) Try.underlying36 rfl IX6.out) rfl ?_
      exact ⟨A6, n9, c6, rfl, (own_otherI HO6.out RZ6.out (by decide)).less HB.out.size, setR_belowI (HB.out.trans (HB6.out.mono HB.out.size)) (Nat.le_refl _) _⟩
    · have hm : (if (1232 : Int) < (n : Int) then (1232 : Int) else (n : Int)) = ((min n 1232 : Nat) : Int) := by split <;> omega
      have sc := SC.out 1232
      have NMW := Lib.hid ((NX.out 1232).more HB.out.size)
      have E6 : abN true = 1232 := rfl
      have ML := Lib.hid (show min n 1232 ≤ n from Nat.min_le_left _ _)
      have TL := Lib.hid (show (xs.take 1232).length = min n 1232 by rw [List.length_take, LXS.out]; omega)
      rw [E6]
      generalize xs.take 1232 = zs at *
      generalize min n 1232 = n9 at *
      clear SC NX E6
      go_enter Try.func22, Try.ntmps22
      go_upto_region 1 with fail
      rw [← hW]
      clear hW hzv
      go_upto_region 8 with fail
      go_wp2_with (first
        | (go_at_call 40; refine (octC.clone_any A n9 c zs W NMW.out (by have := HNn.out; have := ML.out; omega)).mono ?_; rintro e w6 ⟨A6, c6, rfl, O6, -, -, -, B6⟩
           rw [TL.out] at O6
           rw [TL.out]
           have HB6 := Lib.hid B6
           have HO6 := Lib.hid O6
           have RZ6 := Lib.hid (show w6.heap[w.heap.size]? = some (.cells ZS 36 (0, 0)) by rw [B6.block _ SZ.out]; exact RZ.out)
           have BT6 := Lib.hid (BT.out A6 n9 c6)
           have IX6 := Lib.hid (IX.out A6 n9 c6)
           have SX6 := Lib.hid (SX.out A6 n9 c6)
           have OX6 := Lib.hid (OX.out A6 n9 c6)
           clear B6 O6)
        | (with_reducible refine at_buildI 36 ?_; refine wpList_runG (by kernel_rfl) _ (built2_runI (T := 36) rfl (by kernel_rfl) (by kernel_rfl) BT6.out) ?_)
        | (refine wpList_store_row rfl 36 (.tmp 6) (.tmp 22) rfl (w.heap.size) _ rfl rfl _ _ RZ6.out IX6.out SX6.out OX6.out ?_))
      refine bodyPost_ret (v := .agg (msV ⟨k, 0, 0, 0, 0⟩ A6 n9 c6)) (Go.results_cell_row Try.results22 _ _ (w.heap.size) _ _ _ _ (by rfl) (setRow_heap _ _ _ _ _ _ RZ6.out) Try.underlying36 rfl IX6.out) rfl ?_
      exact ⟨A6, n9, c6, rfl, (own_otherI HO6.out RZ6.out (by decide)).less HB.out.size, setR_belowI (HB.out.trans (HB6.out.mono HB.out.size)) (Nat.le_refl _) _⟩
  have d4 : (k == 4) = false := beq_eq_false_iff_ne.2 h4
  have d5 : (k == 5) = true := by
    have : k = 5 := by omega
    rw [this]; rfl
  clear h1 h3 h4
  cases six
  · have hm : (if (548 : Int) < (n : Int) then (548 : Int) else (n : Int)) = ((min n 548 : Nat) : Int) := by split <;> omega
    have sc := SC.out 548
    have NMW := Lib.hid ((NX.out 548).more HB.out.size)
    have E6 : abN false = 548 := rfl
    have ML := Lib.hid (show min n 548 ≤ n from Nat.min_le_left _ _)
    have TL := Lib.hid (show (xs.take 548).length = min n 548 by rw [List.length_take, LXS.out]; omega)
    rw [E6]
    generalize xs.take 548 = zs at *
    generalize min n 548 = n9 at *
    clear SC NX E6
    go_enter Try.func22, Try.ntmps22
    go_upto_region 1 with fail
    rw [← hW]
    clear hW hzv
    go_upto_region 8 with fail
    go_wp2_with (first
      | (go_at_call 40; refine (octC.clone_any A n9 c zs W NMW.out (by have := HNn.out; have := ML.out; omega)).mono ?_; rintro e w6 ⟨A6, c6, rfl, O6, -, -, -, B6⟩
         rw [TL.out] at O6
         rw [TL.out]
         have HB6 := Lib.hid B6
         have HO6 := Lib.hid O6
         have RZ6 := Lib.hid (show w6.heap[w.heap.size]? = some (.cells ZS 36 (0, 0)) by rw [B6.block _ SZ.out]; exact RZ.out)
         have BT6 := Lib.hid (BT.out A6 n9 c6)
         have IX6 := Lib.hid (IX.out A6 n9 c6)
         have SX6 := Lib.hid (SX.out A6 n9 c6)
         have OX6 := Lib.hid (OX.out A6 n9 c6)
         clear B6 O6)
      | (with_reducible refine at_buildI 36 ?_; refine wpList_runG (by kernel_rfl) _ (built2_runI (T := 36) rfl (by kernel_rfl) (by kernel_rfl) BT6.out) ?_)
      | (refine wpList_store_row rfl 36 (.tmp 6) (.tmp 22) rfl (w.heap.size) _ rfl rfl _ _ RZ6.out IX6.out SX6.out OX6.out ?_))
    refine bodyPost_ret (v := .agg (msV ⟨k, 0, 0, 0, 0⟩ A6 n9 c6)) (Go.results_cell_row Try.results22 _ _ (w.heap.size) _ _ _ _ (by rfl) (setRow_heap _ _ _ _ _ _ RZ6.out) Try.underlying36 rfl IX6.out) rfl ?_
    exact ⟨A6, n9, c6, rfl, (own_otherI HO6.out RZ6.out (by decide)).less HB.out.size, setR_belowI (HB.out.trans (HB6.out.mono HB.out.size)) (Nat.le_refl _) _⟩
  · have hm : (if (1232 : Int) < (n : Int) then (1232 : Int) else (n : Int)) = ((min n 1232 : Nat) : Int) := by split <;> omega
    have sc := SC.out 1232
    have NMW := Lib.hid ((NX.out 1232).more HB.out.size)
    have E6 : abN true = 1232 := rfl
    have ML := Lib.hid (show min n 1232 ≤ n from Nat.min_le_left _ _)
    have TL := Lib.hid (show (xs.take 1232).length = min n 1232 by rw [List.length_take, LXS.out]; omega)
    rw [E6]
    generalize xs.take 1232 = zs at *
    generalize min n 1232 = n9 at *
    clear SC NX E6
    go_enter Try.func22, Try.ntmps22
    go_upto_region 1 with fail
    rw [← hW]
    clear hW hzv
    go_upto_region 8 with fail
    go_wp2_with (first
      | (go_at_call 40; refine (octC.clone_any A n9 c zs W NMW.out (by have := HNn.out; have := ML.out; omega)).mono ?_; rintro e w6 ⟨A6, c6, rfl, O6, -, -, -, B6⟩
         rw [TL.out] at O6
         rw [TL.out]
         have HB6 := Lib.hid B6
         have HO6 := Lib.hid O6
         have RZ6 := Lib.hid (show w6.heap[w.heap.size]? = some (.cells ZS 36 (0, 0)) by rw [B6.block _ SZ.out]; exact RZ.out)
         have BT6 := Lib.hid (BT.out A6 n9 c6)
         have IX6 := Lib.hid (IX.out A6 n9 c6)
         have SX6 := Lib.hid (SX.out A6 n9 c6)
         have OX6 := Lib.hid (OX.out A6 n9 c6)
         clear B6 O6)
      | (with_reducible refine at_buildI 36 ?_; refine wpList_runG (by kernel_rfl) _ (built2_runI (T := 36) rfl (by kernel_rfl) (by kernel_rfl) BT6.out) ?_)
      | (refine wpList_store_row rfl 36 (.tmp 6) (.tmp 22) rfl (w.heap.size) _ rfl rfl _ _ RZ6.out IX6.out SX6.out OX6.out ?_))
    refine bodyPost_ret (v := .agg (msV ⟨k, 0, 0, 0, 0⟩ A6 n9 c6)) (Go.results_cell_row Try.results22 _ _ (w.heap.size) _ _ _ _ (by rfl) (setRow_heap _ _ _ _ _ _ RZ6.out) Try.underlying36 rfl IX6.out) rfl ?_
    exact ⟨A6, n9, c6, rfl, (own_otherI HO6.out RZ6.out (by decide)).less HB.out.size, setR_belowI (HB.out.trans (HB6.out.mono HB.out.size)) (Nat.le_refl _) _⟩
end Go.Proofs.Ytmbfgolcinniiaa.icC

/-
  The program's six functions do what the laws ask of them.
-/
namespace Go.Proofs.Ytmbfgolcinniiaa.icC
open Go.ChangeShapes Go.WideShapes Go.ChangeAt Go.RowKit
open Go.Proofs.Ytmbfgolcinniiaa.memC Go.Proofs.Ytmbfgolcinniiaa.genC Go.Proofs.Ytmbfgolcinniiaa.butC Go.Proofs.Ytmbfgolcinniiaa.freeC Go.Proofs.Ytmbfgolcinniiaa.adC
theorem icF : IcF (fun _ => True) where
  keep := fun _ _ _ _ => trivial
  may := fun m A n c six xs w _ _ hx hy _ _ => cmay_any m A n c six xs w hx hy
  same := fun p q A A' n c n' c' xs ys w _ hx hy yx yy _ _ => csame_any p q A A' n c n' c' xs ys w hx hy yx yy
  lay := fun C1 C2 s1 s2 b1 b2 m A n c xs w _ h1 h2 hm hx hy _ _ => clay_any C1 C2 s1 s2 b1 b2 m A n c xs w h1 h2 hm hx hy
  parse := fun C1 C2 s1 s2 b1 b2 A n c bs w _ h1 h2 hb hy _ _ hn => cparse_any C1 C2 s1 s2 b1 b2 A n c bs w h1 h2 hb hy hn
  reply := fun m A n c xs w _ _ hx _ _ hn => creply_any m A n c xs w hx (by omega)
  about := fun k A n c six xs w _ hx _ hc _ hn => cabout_any k A n c six xs w hx (by omega) hc
end Go.Proofs.Ytmbfgolcinniiaa.icC

/-
  How the arguments of a statement are opened: an array of numbers, a slice of numbers.
-/
namespace Go.Proofs.Ytmbfgolcinniiaa.openC
open Go.ChangeShapes Go.WideShapes Go.ChangeAt Go.RowKit
set_option linter.unusedVariables false
variable {H : Type} {enc : TypeId × Value → H} {P : Program} {w : World} {base : Nat} {spare : Nat → Bool} {held : Bool}

theorem list2 {α : Type} {l : List α} (h : l.length = 2) : ∃ a b, l = [a, b] := by
  match l, h with
  | [a, b], _ => exact ⟨a, b, rfl⟩
theorem list3 {α : Type} {l : List α} (h : l.length = 3) : ∃ a b c, l = [a, b, c] := by
  match l, h with
  | [a, b, c], _ => exact ⟨a, b, c, rfl⟩
theorem list4 {α : Type} {l : List α} (h : l.length = 4) : ∃ a b c d, l = [a, b, c, d] := by
  match l, h with
  | [a, b, c, d], _ => exact ⟨a, b, c, d, rfl⟩
theorem open_array_ints {r : Reach} {b0 : Nat} {t e : TypeId} {n : Nat} {k : IntKind} {v : Value} {d : DataW H} {ps : List MemPlace} (ht : P.underlying t = some (.array n e)) (he : P.underlying e = some (.int k))
    (hce : P.cellsOf e = 1) (hct : P.cellsOf t = n) (hval : Value.okWide P w r b0 t v) (hd : DataW.Trod enc P w base spare held t v d ps) :
    ∃ zs : List Int, zs.length = n ∧ v = .agg (zs.map (Value.int k)).toArray ∧ ∀ x ∈ zs, (Lit.int k x).wf = true := by
  obtain ⟨cs, rfl, hsz, _⟩ : ∃ cs, v = .agg cs ∧ cs.size = P.cellsOf t ∧ Row.okWide P w r b0 t cs := by
    simpa [Value.okWide, ht] using hval
  obtain ⟨l⟩ := cs
  rw [hct] at hsz
  obtain ⟨fuel, hf⟩ := hd
  obtain ⟨xs, m, rfl, _, hl, hxl, hx⟩ := DataW.trod_array ht hf
  rw [hce] at hx
  have hsz' : l.length = n := by simpa using hsz
  have key : ∀ i, (hi : i < n) → ∃ z, l[i]? = some (.int k z) ∧ (Lit.int k z).wf = true := by
    intro i hi
    have h1 := hx i hi
    have hxi : xs[i]? = some (xs[i]'(by omega)) := List.getElem?_eq_getElem _
    rw [hxi] at h1
    obtain ⟨z, h2, _, h3⟩ := DataW.trod_int he h1
    refine ⟨z, ?_, h3⟩
    have h4 : ((Value.agg { toList := l }).cells.toList.drop (i * 1)).take 1 = [Value.int k z] := h2
    have h5 : (Value.agg { toList := l }).cells.toList = l := by simp [Value.cells]
    rw [h5, Nat.mul_one] at h4
    have h6 := congrArg (fun q => q[0]?) h4
    simpa using h6
  refine ⟨l.map fun v => match v with | .int _ z => z | _ => 0, by simpa using hsz', ?_, ?_⟩
  · congr 1
    simp only [List.map_map]
    congr 1
    apply List.ext_getElem?
    intro i
    by_cases hi : i < n
    · obtain ⟨z, hz, _⟩ := key i hi
      rw [List.getElem?_map, hz]; rfl
    · rw [List.getElem?_eq_none (by omega), List.getElem?_eq_none (by simp; omega)]
  · intro x hx
    obtain ⟨v, hv, rfl⟩ := List.mem_map.1 hx
    obtain ⟨i, hi, rfl⟩ := List.getElem_of_mem hv
    obtain ⟨z, hz, hw⟩ := key i (by omega)
    rw [List.getElem?_eq_getElem hi] at hz
    obtain hz := Option.some.inj hz
    rw [hz]; exact hw
/-- a slice of numbers that came in: of no number, or a row of cells -/
theorem open_slice_ints {r : Reach} {b0 : Nat} {t e : TypeId} {k : IntKind} {v : Value} {d : DataW H} {ps : List MemPlace} (ht : P.underlying t = some (.slice e)) (he : P.underlying e = some (.int k))
    (hce : P.cellsOf e = 1) (hsp : ∀ b, spare b = true) (hval : Value.okWide P w r b0 t v) (hd : DataW.Trod enc P w base spare held t v d ps) :
    (∃ a cap, v = .slice a 0 cap) ∨
    ∃ (b off len cap : Nat) (zs : List Int), v = .slice (some ⟨b, off, none⟩) len cap ∧ len ≤ cap ∧ cap ≤ maxLen ∧ zs.length = len ∧ (∀ i, i < len → w.cell? ⟨b, off + i, none⟩ = some (.int k (zs.getD i 0))) ∧ ∀ n ∈ zs, (Lit.int k n).wf = true := by
  obtain ⟨a, len, cap, rfl⟩ := okWide_slice ht hval
  obtain ⟨fuel, hf⟩ := hd
  rcases open_ints ht he hce hf with ⟨hcs, _⟩ | ⟨x, l, c, zs, hcs, _, hl, hm, hz, _, hcell, hwz⟩
  · simp [Value.cells] at hcs
    obtain ⟨rfl, rfl, rfl⟩ := hcs
    exact .inl ⟨_, _, rfl⟩
  · simp [Value.cells] at hcs
    obtain ⟨rfl, rfl, rfl⟩ := hcs
    by_cases h0 : len = 0
    · subst h0; exact .inl ⟨_, _, rfl⟩
    · rw [hsp, if_pos rfl] at hz
      obtain ⟨b, off, spot⟩ := x
      have hc := hcell 0 (by omega)
      have hspot : spot = none := by simpa [Addr.add] using World.cell?_spot hc
      subst hspot
      refine .inr ⟨b, off, len, cap, zs.take len, rfl, hl, hm, by simp; omega, ?_, fun n hn => hwz n (List.mem_of_mem_take hn)⟩
      intro i hi
      have h1 := hcell i (by omega)
      have h2 : (zs.take len).getD i 0 = zs.getD i 0 := by simp [List.getD_eq_getElem?_getD, hi]
      rw [h2]
      have e : (Addr.add ⟨b, off, none⟩ i) = (⟨b, off + i, none⟩ : Addr) := by
        unfold Addr.add; split
        · rename_i hi0; subst hi0; rfl
        · rfl
      rw [e] at h1; exact h1
end Go.Proofs.Ytmbfgolcinniiaa.openC
