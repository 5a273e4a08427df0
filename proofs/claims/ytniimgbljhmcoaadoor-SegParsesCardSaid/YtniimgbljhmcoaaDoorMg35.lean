/-
  1 texts of a proof, joined.
-/
import Derived.Test.YtniimgbljhmcoaaDoorMg28
import Derived.Test.YtniimgbljhmcoaaDoorMg22
import Derived.Test.YtniimgbljhmcoaaDoorMg27

/-
  What answers a segment: both.
-/
namespace Go.Proofs.YtniimgbljhmcoaaDoor.sgC
open Go.ChangeShapes Go.WideShapes Go.ChangeAt Go.RowKit
open Go.Proofs.YtniimgbljhmcoaaDoor.memC Go.Proofs.YtniimgbljhmcoaaDoor.genC Go.Proofs.YtniimgbljhmcoaaDoor.butC Go.Proofs.YtniimgbljhmcoaaDoor.freeC Go.Proofs.YtniimgbljhmcoaaDoor.adC
open Go.Proofs.YtniimgbljhmcoaaDoor.opC (zOpt zOpt_ok U32 at_build)
set_option linter.unusedVariables false
theorem skip_J {P : Program} {Q : Exit → Act → World → Prop} {o : Oper} {w w' : World} {R : Value → World → Prop} {fr : Act} (hr : (execOp fr.eval o).run P w = .ok .skip w') (hR : R undef w') :
    o.wp P fr w (fun a' w' => ∃ v, a' = fr.put o.dst v ∧ R v w') Q := free_skip hr ⟨undef, rfl, hR⟩
theorem built_runS {P : Program} {fr : Act} {o : Oper} {w : World} {T : TypeId} {fs : Array (Nat × Operand)} {L : List (Nat × Value)} {C : Array Value} (ho : o.op = .build T fs) (hl : (fs.toList.map fun (i, x) => (i, fr.eval x)) = L) (hb : P.built T L = some C) : (execOp fr.eval o).run P w = .ok (.value (.agg C)) w := by
  unfold execOp
  have h : (Instr.build T (fs.map fun (i, x) => (i, fr.eval x))).run P w = .ok (.agg C) w := run_build w T _ C (by rw [Array.toList_map, hl]; exact hb)
  simp only [ho]
  simp [h, Result.andThen_ok]
/-- what answers a segment of m bytes where no connection is -/
def rstP (s : Sg) (m : Nat) : Sg × Bool := if hasS s.fl 4 = true then (zSg, false) else if hasS s.fl 16 = true then (⟨s.dp, s.sp, s.ak, 0, 4, 0, 0, zOpt⟩, true) else (⟨s.dp, s.sp, 0, IntKind.u32.wrap (s.sq + lenN s.fl m), 20, 0, 0, zOpt⟩, true)
def RstR (w : World) (s : Sg) (m : Nat) (e : Ending) (w' : World) : Prop := e = .returned (.tuple #[.agg (segV (rstP s m).1 none 0 0 none 0 0), .bool (rstP s m).2]) ∧ Below w.heap.size w w'
/-- what stands while the answer is made -/
structure Rs (w0 w : World) (g : Nat) (s : Sg) (A : Option Addr) (n c : Nat) (B : Option Addr) (m d : Nat) (x : Sg) : Prop where
  inn : SegAt w w0.heap.size s A n c B m d
  res : SegAt w (w0.heap.size + 1) zSg none 0 0 none 0 0
  ans : SegAt w g x none 0 0 none 0 0
  bel : Below w0.heap.size w0 w
  gt : w0.heap.size + 1 < g
section
variable {w0 w w' : World} {g : Nat} {s : Sg} {A : Option Addr} {n c : Nat} {B : Option Addr} {m d : Nat} {x x' : Sg}
theorem Rs.next (h : Rs w0 w g s A n c B m d x) (b : Below w.heap.size w w') : Rs w0 w' g s A n c B m d x :=
  ⟨h.inn.bel b, h.res.bel b, h.ans.bel b, h.bel.trans (b.mono h.bel.size), h.gt⟩
theorem Rs.set_ (h : Rs w0 w g s A n c B m d x) (j : Nat) (v : Value) (e : (segV x none 0 0 none 0 0).setIfInBounds j v = segV x' none 0 0 none 0 0) : Rs w0 (w.setCell ⟨g, j, none⟩ v) g s A n c B m d x' := by
  have hg := h.gt
  exact ⟨h.inn.other (by show g ≠ w0.heap.size; omega) v, h.res.other (by show g ≠ w0.heap.size + 1; omega) v, h.ans.set_ j v e, h.bel.setCell (by show w0.heap.size ≤ g; omega) v, hg⟩
theorem only_set (g j : Nat) (w : World) (v : Value) : OnlyAt g w (w.setCell ⟨g, j, none⟩ v) :=
  ⟨(Below.refl g w).setCell (show g ≤ g from Nat.le_refl _) v, fun k hk => Below.heap_setCell _ _ _ _ hk⟩
end
def rsR (w0 : World) (g : Nat) (s : Sg) (A : Option Addr) (n c : Nat) (B : Option Addr) (m d : Nat) (x x' : Sg) : Nat → (Nat → Value) → World → Prop
  | 0, _, w => Rs w0 w g s A n c B m d x
  | 1, _, w => Rs w0 w g s A n c B m d x'
  | _, _, _ => True
theorem rsR.keep (w0 : World) (g : Nat) (s : Sg) (A : Option Addr) (n c : Nat) (B : Option Addr) (m d : Nat) (x x' : Sg) (k : Nat) (us us' : Nat → Value) (w w' : World) (hb : Below w.heap.size w w') (hR : rsR w0 g s A n c B m d x x' k us w) : rsR w0 g s A n c B m d x x' k us' w' := by
  unfold rsR at hR ⊢
  split at hR
  · exact hR.next hb
  · exact hR.next hb
  · trivial
theorem ans_built (dp sp : Int) : Tryd.prog.built 34 [(0, .int .u16 dp), (1, .int .u16 sp), (4, .int .u8 4)] = some (segV ⟨dp, sp, 0, 0, 4, 0, 0, zOpt⟩ none 0 0 none 0 0) := by kernel_rfl
def crstV (g0 g : Nat) (CP : Array Value) (sq ln z : Int) : Nat → Value → World → Prop
  | 0, v, _ => v = .pointer (some ⟨g0, 2, none⟩)
  | 1, v, _ => v = .int .u32 sq
  | 2, v, _ => v = .agg CP
  | 3, v, _ => v = .int .u32 ln
  | 4, v, _ => v = .int .u32 z
  | 5, v, _ => v = .pointer (some ⟨g, 3, none⟩)
  | _, _, _ => True
theorem crstV.keep (g0 g : Nat) (CP : Array Value) (sq ln z : Int) (i : Nat) (v : Value) (w w' : World) (hd : Below w.heap.size w w' ∨ OnlyAt g w w') (h : crstV g0 g CP sq ln z i v w) : crstV g0 g CP sq ln z i v w' := by
  unfold crstV at h ⊢
  split at h <;> exact h
def crstT : List (Option Nat) := [none, none, none, none, none, none, none, none, none, none, none, none, none, none, none, none, none, none, none, none, none, none, some 0, some 1, some 2, some 3, some 4, some 5, none]
set_option maxRecDepth 100000 in
set_option maxHeartbeats 8000000 in
theorem crst_any (s : Sg) (A : Option Addr) (n c : Nat) (B : Option Addr) (m d : Nat) (w : World) (hs : s.op.mac.length = 12) (hf : Byte s.fl) (hm : m ≤ 100000) :
    Calls Tryd.prog 23 #[.agg (segV s A n c B m d)] w (RstR w s m) := by
  have hzv := zeroSeg
  have e1 : (w.alloc (.cells (segV s A n c B m d) 34)).heap.size = w.heap.size + 1 := alloc_size _ _
  obtain ⟨W, hW⟩ : ∃ W, W = (w.alloc (.cells (segV s A n c B m d) 34)).alloc (.cells (segV zSg none 0 0 none 0 0) 34) := ⟨_, rfl⟩
  have HB := Lib.hid (show Below w.heap.size w W by rw [hW]; exact ((Below.refl _ _).alloc (Nat.le_refl _) _).alloc (by simp) _)
  have zW : W.heap.size = w.heap.size + 2 := by rw [hW, alloc_size, e1]
  have R0 := Lib.hid (show SegAt W w.heap.size s A n c B m d by unfold SegAt; rw [hW, Below.block (alloc_below _ _) _ (by rw [e1]; omega)]; exact heap_alloc_new w _)
  have Z0 := Lib.hid (show SegAt W (w.heap.size + 1) zSg none 0 0 none 0 0 by unfold SegAt; rw [hW, ← e1]; exact heap_alloc_new _ _)
  have OC := segC hs A n c B m d
  have IC := Lib.hid OC.info
  have HA := Lib.hid (fun k w' => chas_any s A n c B m d k w' hs)
  have HL := Lib.hid (fun w' => clen_any s A n c B m d w' hs hf hm)
  have KX := fun (k : Nat) (v : Value) (h : (segV s A n c B m d)[k]? = some v) (w' : World) (hb : w'.heap[w.heap.size]? = some (.cells (segV s A n c B m d) 34 (0, 0))) => pkC.PkC.cell hb h
  have KS := Lib.hid (KX 0 _ OC.sp)
  have KD := Lib.hid (KX 1 _ OC.dp)
  have KQ := Lib.hid (KX 2 _ OC.sq)
  have KA := Lib.hid (KX 3 _ OC.ak)
  have BZ := Lib.hid zSg_built
  have BA := Lib.hid (ans_built s.dp s.sp)
  have IZ := Lib.hid (segC (s := zSg) zOpt_ok.lm none 0 0 none 0 0).info
  have OZ := Lib.hid (seg_one zSg none 0 0 none 0 0)
  unfold RstR rstP
  clear KX OC
  obtain ⟨r1, hr1⟩ : ∃ r, hasS s.fl 4 = r := ⟨_, rfl⟩
  have H4 := Lib.hid (fun w' => (show Calls Tryd.prog 19 #[.agg (segV s A n c B m d), .int .u8 4] w' (Ret w' (.bool r1)) by rw [← hr1]; exact HA.out 4 w'))
  rw [hr1]
  obtain ⟨CP, hCP⟩ : ∃ C, C = segV s A n c B m d := ⟨_, rfl⟩
  have HCP := Lib.hid (fun (w' : World) (h : w'.heap[w.heap.size]? = some (.cells (segV s A n c B m d) 34 (0, 0))) => (show w'.heap[w.heap.size]? = some (.cells CP 34 (0, 0)) by rw [hCP]; exact h))
  have RCP := Lib.hid (HCP.out _ R0.out.row)
  obtain ⟨Z, hZ⟩ : ∃ C, C = segV zSg none 0 0 none 0 0 := ⟨_, rfl⟩
  have RZ := Lib.hid (show W.heap[w.heap.size + 1]? = some (.cells Z 34 (0, 0)) by rw [hZ]; exact Z0.out)
  rw [← hCP] at IC KS KD KQ KA hW e1 H4 ⊢
  rw [← hZ] at hW BZ IZ OZ
  simp only [← hZ] at hzv
  cases r1
  rotate_left
  · rw [if_pos rfl]
    rw [← hZ]
    clear hZ hCP KS KD KQ KA BA
    go_enter Tryd.func23, Tryd.ntmps23
    go_upto_region 1 with fail
    rw [← hW]
    try rw [e1]
    clear hW hzv e1
    go_wp2_with (first
      | (refine wpList_load_row rfl 34 (.tmp 1) rfl w.heap.size rfl _ _ _ _ RCP.out Tryd.underlying34 rfl IC.out ?_)
      | (go_at_call 19; (refine (H4.out _).mono ?_); rintro e w2 ⟨rfl, B2⟩
         have HB2 := Lib.hid (HB.out.trans (B2.mono HB.out.size))
         have Z2 := Lib.hid (show w2.heap[w.heap.size + 1]? = some (.cells Z 34 (0, 0)) from (B2.block _ (by omega)).trans RZ.out)
         clear B2)
      | (with_reducible refine at_build 34 ?_; refine wpList_runG (by kernel_rfl) _ (built_run (T := 34) rfl BZ.out) ?_)
      | (refine wpList_store_row rfl 34 (.tmp 2) (.tmp 7) rfl (w.heap.size + 1) Z rfl rfl _ _ Z2.out IZ.out rfl OZ.out ?_))
    refine bodyPost_ret (v := .tuple #[.agg Z, .bool false]) (adC.results_cell_tmp Tryd.results23 _ _ (w.heap.size + 1) _ _ _ _ _ (by rfl) (setRow_heap _ _ _ _ _ _ Z2.out) Tryd.underlying34 rfl IZ.out (by rfl)) rfl ?_
    exact ⟨rfl, aesC.below_setRow HB2.out (by omega) _⟩
  rw [if_neg (by decide)]
  obtain ⟨r2, hr2⟩ : ∃ r, hasS s.fl 16 = r := ⟨_, rfl⟩
  have H16 := Lib.hid (fun w' => (show Calls Tryd.prog 19 #[.agg (segV s A n c B m d), .int .u8 16] w' (Ret w' (.bool r2)) by rw [← hr2]; exact HA.out 16 w'))
  rw [hr2]
  obtain ⟨CB, hCB⟩ : ∃ C, C = segV (⟨s.dp, s.sp, 0, 0, 4, 0, 0, zOpt⟩ : Sg) none 0 0 none 0 0 := ⟨_, rfl⟩
  have IB := Lib.hid (segC (s := (⟨s.dp, s.sp, 0, 0, 4, 0, 0, zOpt⟩ : Sg)) zOpt_ok.lm none 0 0 none 0 0).info
  have SB := Lib.hid (seg_size (s := zSg) (s' := (⟨s.dp, s.sp, 0, 0, 4, 0, 0, zOpt⟩ : Sg)) zOpt_ok.lm zOpt_ok.lm none none 0 0 0 0 none none 0 0 0 0)
  have OB := Lib.hid (seg_one (⟨s.dp, s.sp, 0, 0, 4, 0, 0, zOpt⟩ : Sg) none 0 0 none 0 0)
  have NB := Lib.hid (fun (w' : World) => (show SegAt (w'.alloc (.cells CB 34)) w'.heap.size (⟨s.dp, s.sp, 0, 0, 4, 0, 0, zOpt⟩ : Sg) none 0 0 none 0 0 by rw [hCB]; exact SegAt.new w' _ _ _ _ _ _ _))
  simp only [← hCP] at H16 HL
  rw [← hZ] at SB
  rw [← hCB] at BA IB SB OB
  clear hr1 hr2 hCP hCB HA BZ IZ OZ RZ hZ
  cases r2
  · rw [if_neg (by decide)]
    obtain ⟨CA, hCA⟩ : ∃ C, C = segV (⟨s.dp, s.sp, 0, IntKind.u32.wrap (s.sq + lenN s.fl m), 20, 0, 0, zOpt⟩ : Sg) none 0 0 none 0 0 := ⟨_, rfl⟩
    have IA := Lib.hid (segC (s := (⟨s.dp, s.sp, 0, IntKind.u32.wrap (s.sq + lenN s.fl m), 20, 0, 0, zOpt⟩ : Sg)) zOpt_ok.lm none 0 0 none 0 0).info
    have SZ := Lib.hid (seg_size (s := zSg) (s' := (⟨s.dp, s.sp, 0, IntKind.u32.wrap (s.sq + lenN s.fl m), 20, 0, 0, zOpt⟩ : Sg)) zOpt_ok.lm zOpt_ok.lm none none 0 0 0 0 none none 0 0 0 0)
    have OO := Lib.hid (seg_one (⟨s.dp, s.sp, 0, IntKind.u32.wrap (s.sq + lenN s.fl m), 20, 0, 0, zOpt⟩ : Sg) none 0 0 none 0 0)
    rw [← hCA] at IA SZ OO
    simp only [← hCA]
    have HCA := Lib.hid hCA
    clear hCA
    go_enter Tryd.func23, Tryd.ntmps23
    go_upto_region 1 with fail
    rw [← hW]
    try rw [e1]
    clear hW e1
    go_upto_region 3 with (first
      | (refine wpList_load_row rfl 34 (.tmp 1) rfl w.heap.size rfl _ _ _ _ RCP.out Tryd.underlying34 rfl IC.out ?_)
      | (go_at_call 19; (refine (H4.out _).mono ?_); rintro e w2 ⟨rfl, B2⟩
         have HB2 := Lib.hid B2
         have k1 := KD.out w2 ((B2.block _ (by omega)).trans RCP.out)
         have k0 := KS.out w2 ((B2.block _ (by omega)).trans RCP.out)
         clear B2))
    go_upto_region 4 with (first
      | (with_reducible refine at_build 34 ?_; refine wpList_runG (by kernel_rfl) _ (built_runS (T := 34) (L := [(0, .int .u16 s.dp), (1, .int .u16 s.sp), (4, .int .u8 4)]) rfl rfl BA.out) ?_)
      | (refine wpList_store_row rfl 34 (.tmp 4) (.tmp 12) rfl w2.heap.size CB rfl rfl _ _ (heap_alloc_new _ _) IB.out SB.out OB.out ?_; rw [World.setRow_alloc_new]))
    clear k0 k1 hzv
    have B23 := Lib.hid (alloc_below w2 (.cells CB 34))
    have NW := Lib.hid (NB.out w2)
    have R3 := Lib.hid (show Rs w (w2.alloc (.cells CB 34)) w2.heap.size s A n c B m d (⟨s.dp, s.sp, 0, 0, 4, 0, 0, zOpt⟩ : Sg) from ⟨(R0.out.bel HB2.out).bel B23.out, (Z0.out.bel HB2.out).bel B23.out, NW.out, ((HB.out.trans (HB2.out.mono HB.out.size)).trans (B23.out.mono (Nat.le_trans HB.out.size HB2.out.size))), by have := HB2.out.size; omega⟩)
    have RC3 := Lib.hid (HCP.out _ R3.out.inn.row)
    generalize w2.alloc (.cells CB 34) = w3 at *
    generalize hg : w2.heap.size = g at *
    clear B23 NW
    go_upto_region 6 with (first
      | (refine wpList_load_row rfl 34 (.tmp 1) rfl w.heap.size rfl _ _ _ _ RC3.out Tryd.underlying34 rfl IC.out ?_)
      | (go_at_call 19; (refine (H16.out _).mono ?_); rintro e w4 ⟨rfl, B4⟩
         have R4 := Lib.hid (R3.out.next B4)
         have kfl := pkC.PkC.cell R4.out.ans.row (segC zOpt_ok.lm none 0 0 none 0 0).fl
         have ffl := R4.out.ans.frozen 4
         clear B4))
    have hor : bits .or .u8 4 16 = 20 := by decide
    go_upto_region 7 with fail
    have HR6 := Lib.hid (R4.out.set_ (x' := (⟨s.dp, s.sp, 0, 0, 20, 0, 0, zOpt⟩ : Sg)) 4 (.int .u8 20) (segV_fl _))
    generalize (w4.setCell ⟨g, 4, none⟩ (.int .u8 20)) = u6 at *
    clear kfl ffl hor R4 R3 RC3 RCP R0 Z0 KS KD KA
    have HGT := Lib.hid HR6.out.gt
    have LN := HL
    obtain ⟨ln, hln⟩ : ∃ l, l = lenN s.fl m := ⟨_, rfl⟩
    obtain ⟨sq, hsq⟩ : ∃ l, l = s.sq := ⟨_, rfl⟩
    obtain ⟨z, hz⟩ : ∃ z, z = IntKind.u32.wrap (s.sq + lenN s.fl m) := ⟨_, rfl⟩
    have HZ := Lib.hid hz
    rw [← hln] at LN
    rw [← hsq] at KQ
    have WZ := Lib.hid (show IntKind.u32.wrap (sq + ln) = z by rw [hz, hln, hsq])
    have WZ2 := Lib.hid (show (sq + ln) % 4294967296 = z by rw [← WZ.out, IntKind.wrap_u32])
    clear hz hln hsq
    refine with_act fun a0 ha0 => ?_
    have hl : crstT.length = a0.tmps.size := by rw [ha0]; rfl
    have k1 : a0.tmps[1]?.getD undef = .pointer (some ⟨w.heap.size, 0, none⟩) := by rw [ha0]; rfl
    have k4 : a0.tmps[4]?.getD undef = .pointer (some ⟨g, 0, none⟩) := by rw [ha0]; rfl
    refine wp_region_che (by kernel_rfl) crstT (by kernel_rfl) (by kernel_rfl) hl (fun i => undef) (by rw [ha0]; rfl) (g) (OnlyAt g) [6] (by kernel_rfl) (by decide) (by decide) (fun w' => w'.heap[w.heap.size]? = some (.cells CP 34 (0, 0))) (crstV (w.heap.size) g CP sq ln z) (rsR w g s A n c B m d (⟨s.dp, s.sp, 0, 0, 20, 0, 0, zOpt⟩ : Sg) (⟨s.dp, s.sp, 0, IntKind.u32.wrap (s.sq + lenN s.fl m), 20, 0, 0, zOpt⟩ : Sg)) (Nat.le_of_lt HR6.out.ans.lt) (HCP.out _ HR6.out.inn.row) (show Rs w _ g s A n c B m d (⟨s.dp, s.sp, 0, 0, 20, 0, 0, zOpt⟩ : Sg) from ⟨HR6.out.inn, HR6.out.res, HR6.out.ans, HR6.out.bel.drew, HR6.out.gt⟩) (fun w1 w2 hb hd h => by rcases hd with hd | hd; exact (hd.block _ (opC.lt_of_row h)).trans h; exact (hd.2 _ (by have := HGT.out; omega)).trans h) (fun i v w w' _ hd h => crstV.keep _ _ _ _ _ _ i v w w' hd h) (fun k us us' w w' _ _ hb hR => rsR.keep _ _ _ _ _ _ _ _ _ _ _ _ _ _ _ _ hb hR) ⟨?_, ?_, ?_, ?_, ?_, ?_, ?_, trivial⟩ ?_
    · refine stepE_val [] (by kernel_rfl) (by decide) (by decide) rfl fun us w' hB hG hV => ?_
      have o1 := (frame_old2 (us := us) (a := a0) (show (crstT[1]?).join = none from rfl)).trans k1
      generalize frame crstT a0 us = fr at *
      exact val_C (v := .pointer (some ⟨(w.heap.size), 2, none⟩)) (w' := w') (by go_simp) (Below.refl _ _) rfl
    · refine stepE_val [0] (by kernel_rfl) (by decide) (by decide) rfl fun us w' hB hG hV => ?_
      have e0 : us 0 = .pointer (some ⟨(w.heap.size), 2, none⟩) := hV 0 (by simp)
      have v0 := (frame_at2 (us := us) hl (show (crstT[22]?).join = some 0 from rfl)).trans e0
      have hc := KQ.out w' hG
      generalize frame crstT a0 us = fr at *
      exact val_C (v := .int .u32 sq) (w' := w') (by go_simp) (Below.refl _ _) rfl
    · refine stepE_val [] (by kernel_rfl) (by decide) (by decide) rfl fun us w' hB hG hV => ?_
      have o1 := (frame_old2 (us := us) (a := a0) (show (crstT[1]?).join = none from rfl)).trans k1
      have hg1 := hG
      generalize frame crstT a0 us = fr at *
      exact load_C 34 1 rfl ((w.heap.size)) o1 _ _ (0, 0) _ hg1 Tryd.underlying34 rfl IC.out rfl
    · refine stepE_val [2] (by kernel_rfl) (by decide) (by decide) rfl fun us w' hB hG hV => ?_
      have e2 : us 2 = .agg CP := hV 2 (by simp)
      have v2 := (frame_at2 (us := us) hl (show (crstT[24]?).join = some 2 from rfl)).trans e2
      generalize frame crstT a0 us = fr at *
      exact call_C (f := 15) (args := #[.agg CP]) (by go_simp) ((LN.out w').mono fun e w'' h => ⟨_, h.1, h.2, rfl⟩)
    · refine stepE_val [1, 3] (by kernel_rfl) (by decide) (by decide) rfl fun us w' hB hG hV => ?_
      have e1 : us 1 = .int .u32 sq := hV 1 (by simp)
      have v1 := (frame_at2 (us := us) hl (show (crstT[23]?).join = some 1 from rfl)).trans e1
      have e3 : us 3 = .int .u32 ln := hV 3 (by simp)
      have v3 := (frame_at2 (us := us) hl (show (crstT[25]?).join = some 3 from rfl)).trans e3
      have hz := WZ.out
      have hz2 := WZ2.out
      generalize frame crstT a0 us = fr at *
      exact val_C (v := .int .u32 z) (w' := w') (by go_simp) (Below.refl _ _) rfl
    · refine stepE_val [] (by kernel_rfl) (by decide) (by decide) rfl fun us w' hB hG hV => ?_
      have o4 := (frame_old2 (us := us) (a := a0) (show (crstT[4]?).join = none from rfl)).trans k4
      generalize frame crstT a0 us = fr at *
      exact val_C (v := .pointer (some ⟨g, 3, none⟩)) (w' := w') (by go_simp) (Below.refl _ _) rfl
    · refine stepE_chain 0 rfl (by decide) [4, 5] (by kernel_rfl) (by decide) rfl fun us w' hB hG hV hR => ?_
      have e4 : us 4 = .int .u32 z := hV 4 (by simp)
      have v4 := (frame_at2 (us := us) hl (show (crstT[26]?).join = some 4 from rfl)).trans e4
      have e5 : us 5 = .pointer (some ⟨g, 3, none⟩) := hV 5 (by simp)
      have v5 := (frame_at2 (us := us) hl (show (crstT[27]?).join = some 5 from rfl)).trans e5
      generalize frame crstT a0 us = fr at *
      have hR0 := (show Rs w w' g s A n c B m d (⟨s.dp, s.sp, 0, 0, 20, 0, 0, zOpt⟩ : Sg) from hR)
      have kc := pkC.PkC.cell hR0.ans.row (segC zOpt_ok.lm none 0 0 none 0 0).ak
      have fz := hR0.ans.frozen 3
      exact skip_J (R := fun v w'' => (OnlyAt g w' w'' ∧ Below g w' w'') ∧ rsR w g s A n c B m d (⟨s.dp, s.sp, 0, 0, 20, 0, 0, zOpt⟩ : Sg) (⟨s.dp, s.sp, 0, IntKind.u32.wrap (s.sq + lenN s.fl m), 20, 0, 0, zOpt⟩ : Sg) 1 (upd us 6 v) w'') (w' := w'.setCell ⟨g, 3, none⟩ (.int .u32 z)) (by go_simp) ⟨⟨only_set _ _ _ _, (only_set _ _ _ _).1⟩, by have h3 := hR0.set_ (x' := (⟨s.dp, s.sp, 0, IntKind.u32.wrap (s.sq + lenN s.fl m), 20, 0, 0, zOpt⟩ : Sg)) 3 (.int .u32 z) (by rw [← HZ.out]; exact segV_ak _); exact h3⟩
    · intro us w2 hB2 hG hV hR
      have HRR := Lib.hid (show Rs w w2 g s A n c B m d (⟨s.dp, s.sp, 0, IntKind.u32.wrap (s.sq + lenN s.fl m), 20, 0, 0, zOpt⟩ : Sg) from hR)
      subst ha0
      simp only [frame, crstT, fill]
      clear hV hR hG hl k1 k4 HR6 KQ IC LN WZ WZ2 HZ HCP
      have RW := Lib.hid HRR.out.ans.row
      have ZW := Lib.hid HRR.out.res.row
      have FW := Lib.hid HRR.out.bel
      rw [← HCA.out] at RW
      clear HRR HCA
      go_wp2_with (first
        | (refine wpList_load_row rfl 34 (.tmp 4) rfl g rfl _ _ _ _ RW.out Tryd.underlying34 rfl IA.out ?_)
        | (refine wpList_store_row rfl 34 (.tmp 2) (.tmp 28) rfl (w.heap.size + 1) CA rfl rfl _ _ ZW.out IA.out SZ.out OO.out ?_))
      refine bodyPost_ret (v := .tuple #[.agg CA, .bool true]) (adC.results_cell_tmp Tryd.results23 _ _ (w.heap.size + 1) _ _ _ _ _ (by rfl) (setRow_heap _ _ _ _ _ _ ZW.out) Tryd.underlying34 rfl IA.out (by rfl)) rfl ?_
      exact ⟨rfl, aesC.below_setRow FW.out (by omega) _⟩
  · rw [if_pos rfl]
    obtain ⟨CA, hCA⟩ : ∃ C, C = segV (⟨s.dp, s.sp, s.ak, 0, 4, 0, 0, zOpt⟩ : Sg) none 0 0 none 0 0 := ⟨_, rfl⟩
    have IA := Lib.hid (segC (s := (⟨s.dp, s.sp, s.ak, 0, 4, 0, 0, zOpt⟩ : Sg)) zOpt_ok.lm none 0 0 none 0 0).info
    have SZ := Lib.hid (seg_size (s := zSg) (s' := (⟨s.dp, s.sp, s.ak, 0, 4, 0, 0, zOpt⟩ : Sg)) zOpt_ok.lm zOpt_ok.lm none none 0 0 0 0 none none 0 0 0 0)
    have OO := Lib.hid (seg_one (⟨s.dp, s.sp, s.ak, 0, 4, 0, 0, zOpt⟩ : Sg) none 0 0 none 0 0)
    rw [← hCA] at IA SZ OO
    simp only [← hCA]
    have HCA := Lib.hid hCA
    clear hCA
    go_enter Tryd.func23, Tryd.ntmps23
    go_upto_region 1 with fail
    rw [← hW]
    try rw [e1]
    clear hW e1
    go_upto_region 3 with (first
      | (refine wpList_load_row rfl 34 (.tmp 1) rfl w.heap.size rfl _ _ _ _ RCP.out Tryd.underlying34 rfl IC.out ?_)
      | (go_at_call 19; (refine (H4.out _).mono ?_); rintro e w2 ⟨rfl, B2⟩
         have HB2 := Lib.hid B2
         have k1 := KD.out w2 ((B2.block _ (by omega)).trans RCP.out)
         have k0 := KS.out w2 ((B2.block _ (by omega)).trans RCP.out)
         clear B2))
    go_upto_region 4 with (first
      | (with_reducible refine at_build 34 ?_; refine wpList_runG (by kernel_rfl) _ (built_runS (T := 34) (L := [(0, .int .u16 s.dp), (1, .int .u16 s.sp), (4, .int .u8 4)]) rfl rfl BA.out) ?_)
      | (refine wpList_store_row rfl 34 (.tmp 4) (.tmp 12) rfl w2.heap.size CB rfl rfl _ _ (heap_alloc_new _ _) IB.out SB.out OB.out ?_; rw [World.setRow_alloc_new]))
    clear k0 k1 hzv
    have B23 := Lib.hid (alloc_below w2 (.cells CB 34))
    have NW := Lib.hid (NB.out w2)
    have R3 := Lib.hid (show Rs w (w2.alloc (.cells CB 34)) w2.heap.size s A n c B m d (⟨s.dp, s.sp, 0, 0, 4, 0, 0, zOpt⟩ : Sg) from ⟨(R0.out.bel HB2.out).bel B23.out, (Z0.out.bel HB2.out).bel B23.out, NW.out, ((HB.out.trans (HB2.out.mono HB.out.size)).trans (B23.out.mono (Nat.le_trans HB.out.size HB2.out.size))), by have := HB2.out.size; omega⟩)
    have RC3 := Lib.hid (HCP.out _ R3.out.inn.row)
    generalize w2.alloc (.cells CB 34) = w3 at *
    generalize hg : w2.heap.size = g at *
    clear B23 NW
    go_upto_region 5 with (first
      | (refine wpList_load_row rfl 34 (.tmp 1) rfl w.heap.size rfl _ _ _ _ RC3.out Tryd.underlying34 rfl IC.out ?_)
      | (go_at_call 19; (refine (H16.out _).mono ?_); rintro e w4 ⟨rfl, B4⟩
         have R4 := Lib.hid (R3.out.next B4)
         have kak := KA.out w4 (HCP.out _ R4.out.inn.row)
         have ksq := pkC.PkC.cell R4.out.ans.row (segC zOpt_ok.lm none 0 0 none 0 0).sq
         have fsq := R4.out.ans.frozen 2
         clear B4))
    go_upto_region 8 with fail
    have HRR := Lib.hid (R4.out.set_ (x' := (⟨s.dp, s.sp, s.ak, 0, 4, 0, 0, zOpt⟩ : Sg)) 2 (.int .u32 s.ak) (segV_sq _))
    generalize (w4.setCell ⟨g, 2, none⟩ (.int .u32 s.ak)) = u5 at *
    clear kak ksq fsq R4 R3 RC3 RCP R0 Z0 KS KD KQ KA
    have RW := Lib.hid HRR.out.ans.row
    have ZW := Lib.hid HRR.out.res.row
    have FW := Lib.hid HRR.out.bel
    rw [← HCA.out] at RW
    clear HRR HCA
    go_wp2_with (first
      | (refine wpList_load_row rfl 34 (.tmp 4) rfl g rfl _ _ _ _ RW.out Tryd.underlying34 rfl IA.out ?_)
      | (refine wpList_store_row rfl 34 (.tmp 2) (.tmp 28) rfl (w.heap.size + 1) CA rfl rfl _ _ ZW.out IA.out SZ.out OO.out ?_))
    refine bodyPost_ret (v := .tuple #[.agg CA, .bool true]) (adC.results_cell_tmp Tryd.results23 _ _ (w.heap.size + 1) _ _ _ _ _ (by rfl) (setRow_heap _ _ _ _ _ _ ZW.out) Tryd.underlying34 rfl IA.out (by rfl)) rfl ?_
    exact ⟨rfl, aesC.below_setRow FW.out (by omega) _⟩
def rrstV (g0 g : Nat) (CP : Array Value) (sq ln z : Int) : Nat → Value → World → Prop
  | 0, v, _ => v = .pointer (some ⟨g0, 2, none⟩)
  | 1, v, _ => v = .int .u32 sq
  | 2, v, _ => v = .agg CP
  | 3, v, _ => v = .int .u32 ln
  | 4, v, _ => v = .int .u32 z
  | 5, v, _ => v = .pointer (some ⟨g, 3, none⟩)
  | _, _, _ => True
theorem rrstV.keep (g0 g : Nat) (CP : Array Value) (sq ln z : Int) (i : Nat) (v : Value) (w w' : World) (hd : Below w.heap.size w w' ∨ OnlyAt g w w') (h : rrstV g0 g CP sq ln z i v w) : rrstV g0 g CP sq ln z i v w' := by
  unfold rrstV at h ⊢
  split at h <;> exact h
def rrstT : List (Option Nat) := [none, none, none, none, none, none, none, none, none, none, none, none, none, none, none, none, none, none, none, none, some 0, some 1, some 2, some 3, some 4, some 5, none]
set_option maxRecDepth 100000 in
set_option maxHeartbeats 8000000 in
theorem rrst_any (s : Sg) (A : Option Addr) (n c : Nat) (B : Option Addr) (m d : Nat) (w : World) (hs : s.op.mac.length = 12) (hf : Byte s.fl) (hm : m ≤ 100000) :
    Calls Tryd.prog 24 #[.agg (segV s A n c B m d)] w (RstR w s m) := by
  have hzv := zeroSeg
  have e1 : (w.alloc (.cells (segV s A n c B m d) 34)).heap.size = w.heap.size + 1 := alloc_size _ _
  obtain ⟨W, hW⟩ : ∃ W, W = (w.alloc (.cells (segV s A n c B m d) 34)).alloc (.cells (segV zSg none 0 0 none 0 0) 34) := ⟨_, rfl⟩
  have HB := Lib.hid (show Below w.heap.size w W by rw [hW]; exact ((Below.refl _ _).alloc (Nat.le_refl _) _).alloc (by simp) _)
  have zW : W.heap.size = w.heap.size + 2 := by rw [hW, alloc_size, e1]
  have R0 := Lib.hid (show SegAt W w.heap.size s A n c B m d by unfold SegAt; rw [hW, Below.block (alloc_below _ _) _ (by rw [e1]; omega)]; exact heap_alloc_new w _)
  have Z0 := Lib.hid (show SegAt W (w.heap.size + 1) zSg none 0 0 none 0 0 by unfold SegAt; rw [hW, ← e1]; exact heap_alloc_new _ _)
  have OC := segC hs A n c B m d
  have IC := Lib.hid OC.info
  have HA := Lib.hid (fun k w' => rhas_any s A n c B m d k w' hs)
  have HL := Lib.hid (fun w' => rlen_any s A n c B m d w' hs hf hm)
  have KX := fun (k : Nat) (v : Value) (h : (segV s A n c B m d)[k]? = some v) (w' : World) (hb : w'.heap[w.heap.size]? = some (.cells (segV s A n c B m d) 34 (0, 0))) => pkC.PkC.cell hb h
  have KS := Lib.hid (KX 0 _ OC.sp)
  have KD := Lib.hid (KX 1 _ OC.dp)
  have KQ := Lib.hid (KX 2 _ OC.sq)
  have KA := Lib.hid (KX 3 _ OC.ak)
  have BZ := Lib.hid zSg_built
  have BA := Lib.hid (ans_built s.dp s.sp)
  have IZ := Lib.hid (segC (s := zSg) zOpt_ok.lm none 0 0 none 0 0).info
  have OZ := Lib.hid (seg_one zSg none 0 0 none 0 0)
  unfold RstR rstP
  clear KX OC
  obtain ⟨r1, hr1⟩ : ∃ r, hasS s.fl 4 = r := ⟨_, rfl⟩
  have H4 := Lib.hid (fun w' => (show Calls Tryd.prog 20 #[.agg (segV s A n c B m d), .int .u8 4] w' (Ret w' (.bool r1)) by rw [← hr1]; exact HA.out 4 w'))
  rw [hr1]
  obtain ⟨CP, hCP⟩ : ∃ C, C = segV s A n c B m d := ⟨_, rfl⟩
  have HCP := Lib.hid (fun (w' : World) (h : w'.heap[w.heap.size]? = some (.cells (segV s A n c B m d) 34 (0, 0))) => (show w'.heap[w.heap.size]? = some (.cells CP 34 (0, 0)) by rw [hCP]; exact h))
  have RCP := Lib.hid (HCP.out _ R0.out.row)
  obtain ⟨Z, hZ⟩ : ∃ C, C = segV zSg none 0 0 none 0 0 := ⟨_, rfl⟩
  have RZ := Lib.hid (show W.heap[w.heap.size + 1]? = some (.cells Z 34 (0, 0)) by rw [hZ]; exact Z0.out)
  rw [← hCP] at IC KS KD KQ KA hW e1 H4 ⊢
  rw [← hZ] at hW BZ IZ OZ
  simp only [← hZ] at hzv
  cases r1
  rotate_left
  · rw [if_pos rfl]
    rw [← hZ]
    clear hZ hCP KS KD KQ KA BA
    go_enter Tryd.func24, Tryd.ntmps24
    go_upto_region 1 with fail
    rw [← hW]
    try rw [e1]
    clear hW hzv e1
    go_wp2_with (first
      | (refine wpList_load_row rfl 34 (.tmp 1) rfl w.heap.size rfl _ _ _ _ RCP.out Tryd.underlying34 rfl IC.out ?_)
      | (go_at_call 20; (refine (H4.out _).mono ?_); rintro e w2 ⟨rfl, B2⟩
         have HB2 := Lib.hid (HB.out.trans (B2.mono HB.out.size))
         have Z2 := Lib.hid (show w2.heap[w.heap.size + 1]? = some (.cells Z 34 (0, 0)) from (B2.block _ (by omega)).trans RZ.out)
         clear B2)
      | (with_reducible refine at_build 34 ?_; refine wpList_runG (by kernel_rfl) _ (built_run (T := 34) rfl BZ.out) ?_)
      | (refine wpList_store_row rfl 34 (.tmp 2) (.tmp 7) rfl (w.heap.size + 1) Z rfl rfl _ _ Z2.out IZ.out rfl OZ.out ?_))
    refine bodyPost_ret (v := .tuple #[.agg Z, .bool false]) (adC.results_cell_tmp Tryd.results24 _ _ (w.heap.size + 1) _ _ _ _ _ (by rfl) (setRow_heap _ _ _ _ _ _ Z2.out) Tryd.underlying34 rfl IZ.out (by rfl)) rfl ?_
    exact ⟨rfl, aesC.below_setRow HB2.out (by omega) _⟩
  rw [if_neg (by decide)]
  obtain ⟨r2, hr2⟩ : ∃ r, hasS s.fl 16 = r := ⟨_, rfl⟩
  have H16 := Lib.hid (fun w' => (show Calls Tryd.prog 20 #[.agg (segV s A n c B m d), .int .u8 16] w' (Ret w' (.bool r2)) by rw [← hr2]; exact HA.out 16 w'))
  rw [hr2]
  obtain ⟨CB, hCB⟩ : ∃ C, C = segV (⟨s.dp, s.sp, 0, 0, 4, 0, 0, zOpt⟩ : Sg) none 0 0 none 0 0 := ⟨_, rfl⟩
  have IB := Lib.hid (segC (s := (⟨s.dp, s.sp, 0, 0, 4, 0, 0, zOpt⟩ : Sg)) zOpt_ok.lm none 0 0 none 0 0).info
  have SB := Lib.hid (seg_size (s := zSg) (s' := (⟨s.dp, s.sp, 0, 0, 4, 0, 0, zOpt⟩ : Sg)) zOpt_ok.lm zOpt_ok.lm none none 0 0 0 0 none none 0 0 0 0)
  have OB := Lib.hid (seg_one (⟨s.dp, s.sp, 0, 0, 4, 0, 0, zOpt⟩ : Sg) none 0 0 none 0 0)
  have NB := Lib.hid (fun (w' : World) => (show SegAt (w'.alloc (.cells CB 34)) w'.heap.size (⟨s.dp, s.sp, 0, 0, 4, 0, 0, zOpt⟩ : Sg) none 0 0 none 0 0 by rw [hCB]; exact SegAt.new w' _ _ _ _ _ _ _))
  simp only [← hCP] at H16 HL
  rw [← hZ] at SB
  rw [← hCB] at BA IB SB OB
  clear hr1 hr2 hCP hCB HA BZ IZ OZ RZ hZ
  cases r2
  · rw [if_neg (by decide)]
    obtain ⟨CA, hCA⟩ : ∃ C, C = segV (⟨s.dp, s.sp, 0, IntKind.u32.wrap (s.sq + lenN s.fl m), 20, 0, 0, zOpt⟩ : Sg) none 0 0 none 0 0 := ⟨_, rfl⟩
    have IA := Lib.hid (segC (s := (⟨s.dp, s.sp, 0, IntKind.u32.wrap (s.sq + lenN s.fl m), 20, 0, 0, zOpt⟩ : Sg)) zOpt_ok.lm none 0 0 none 0 0).info
    have SZ := Lib.hid (seg_size (s := zSg) (s' := (⟨s.dp, s.sp, 0, IntKind.u32.wrap (s.sq + lenN s.fl m), 20, 0, 0, zOpt⟩ : Sg)) zOpt_ok.lm zOpt_ok.lm none none 0 0 0 0 none none 0 0 0 0)
    have OO := Lib.hid (seg_one (⟨s.dp, s.sp, 0, IntKind.u32.wrap (s.sq + lenN s.fl m), 20, 0, 0, zOpt⟩ : Sg) none 0 0 none 0 0)
    rw [← hCA] at IA SZ OO
    simp only [← hCA]
    have HCA := Lib.hid hCA
    clear hCA
    go_enter Tryd.func24, Tryd.ntmps24
    go_upto_region 1 with fail
    rw [← hW]
    try rw [e1]
    clear hW e1
    go_upto_region 3 with (first
      | (refine wpList_load_row rfl 34 (.tmp 1) rfl w.heap.size rfl _ _ _ _ RCP.out Tryd.underlying34 rfl IC.out ?_)
      | (go_at_call 20; (refine (H4.out _).mono ?_); rintro e w2 ⟨rfl, B2⟩
         have HB2 := Lib.hid B2
         have k1 := KD.out w2 ((B2.block _ (by omega)).trans RCP.out)
         have k0 := KS.out w2 ((B2.block _ (by omega)).trans RCP.out)
         clear B2))
    go_upto_region 4 with (first
      | (with_reducible refine at_build 34 ?_; refine wpList_runG (by kernel_rfl) _ (built_runS (T := 34) (L := [(0, .int .u16 s.dp), (1, .int .u16 s.sp), (4, .int .u8 4)]) rfl rfl BA.out) ?_)
      | (refine wpList_store_row rfl 34 (.tmp 4) (.tmp 12) rfl w2.heap.size CB rfl rfl _ _ (heap_alloc_new _ _) IB.out SB.out OB.out ?_; rw [World.setRow_alloc_new]))
    clear k0 k1 hzv
    have B23 := Lib.hid (alloc_below w2 (.cells CB 34))
    have NW := Lib.hid (NB.out w2)
    have R3 := Lib.hid (show Rs w (w2.alloc (.cells CB 34)) w2.heap.size s A n c B m d (⟨s.dp, s.sp, 0, 0, 4, 0, 0, zOpt⟩ : Sg) from ⟨(R0.out.bel HB2.out).bel B23.out, (Z0.out.bel HB2.out).bel B23.out, NW.out, ((HB.out.trans (HB2.out.mono HB.out.size)).trans (B23.out.mono (Nat.le_trans HB.out.size HB2.out.size))), by have := HB2.out.size; omega⟩)
    have RC3 := Lib.hid (HCP.out _ R3.out.inn.row)
    generalize w2.alloc (.cells CB 34) = w3 at *
    generalize hg : w2.heap.size = g at *
    clear B23 NW
    go_upto_region 7 with (first
      | (refine wpList_load_row rfl 34 (.tmp 1) rfl w.heap.size rfl _ _ _ _ RC3.out Tryd.underlying34 rfl IC.out ?_)
      | (go_at_call 20; (refine (H16.out _).mono ?_); rintro e w4 ⟨rfl, B4⟩
         have R4 := Lib.hid (R3.out.next B4)
         have kfl := pkC.PkC.cell R4.out.ans.row (segC zOpt_ok.lm none 0 0 none 0 0).fl
         have ffl := R4.out.ans.frozen 4
         clear B4))
    have hor : bits .or .u8 4 16 = 20 := by decide
    go_upto_region 8 with fail
    have HR6 := Lib.hid (R4.out.set_ (x' := (⟨s.dp, s.sp, 0, 0, 20, 0, 0, zOpt⟩ : Sg)) 4 (.int .u8 20) (segV_fl _))
    generalize (w4.setCell ⟨g, 4, none⟩ (.int .u8 20)) = u6 at *
    clear kfl ffl hor R4 R3 RC3 RCP R0 Z0 KS KD KA
    have HGT := Lib.hid HR6.out.gt
    have LN := HL
    obtain ⟨ln, hln⟩ : ∃ l, l = lenN s.fl m := ⟨_, rfl⟩
    obtain ⟨sq, hsq⟩ : ∃ l, l = s.sq := ⟨_, rfl⟩
    obtain ⟨z, hz⟩ : ∃ z, z = IntKind.u32.wrap (s.sq + lenN s.fl m) := ⟨_, rfl⟩
    have HZ := Lib.hid hz
    rw [← hln] at LN
    rw [← hsq] at KQ
    have WZ := Lib.hid (show IntKind.u32.wrap (sq + ln) = z by rw [hz, hln, hsq])
    have WZ2 := Lib.hid (show (sq + ln) % 4294967296 = z by rw [← WZ.out, IntKind.wrap_u32])
    clear hz hln hsq
    refine with_act fun a0 ha0 => ?_
    have hl : rrstT.length = a0.tmps.size := by rw [ha0]; rfl
    have k1 : a0.tmps[1]?.getD undef = .pointer (some ⟨w.heap.size, 0, none⟩) := by rw [ha0]; rfl
    have k4 : a0.tmps[4]?.getD undef = .pointer (some ⟨g, 0, none⟩) := by rw [ha0]; rfl
    refine wp_region_che (by kernel_rfl) rrstT (by kernel_rfl) (by kernel_rfl) hl (fun i => undef) (by rw [ha0]; rfl) (g) (OnlyAt g) [6] (by kernel_rfl) (by decide) (by decide) (fun w' => w'.heap[w.heap.size]? = some (.cells CP 34 (0, 0))) (rrstV (w.heap.size) g CP sq ln z) (rsR w g s A n c B m d (⟨s.dp, s.sp, 0, 0, 20, 0, 0, zOpt⟩ : Sg) (⟨s.dp, s.sp, 0, IntKind.u32.wrap (s.sq + lenN s.fl m), 20, 0, 0, zOpt⟩ : Sg)) (Nat.le_of_lt HR6.out.ans.lt) (HCP.out _ HR6.out.inn.row) (show Rs w _ g s A n c B m d (⟨s.dp, s.sp, 0, 0, 20, 0, 0, zOpt⟩ : Sg) from ⟨HR6.out.inn, HR6.out.res, HR6.out.ans, HR6.out.bel.drew, HR6.out.gt⟩) (fun w1 w2 hb hd h => by rcases hd with hd | hd; exact (hd.block _ (opC.lt_of_row h)).trans h; exact (hd.2 _ (by have := HGT.out; omega)).trans h) (fun i v w w' _ hd h => rrstV.keep _ _ _ _ _ _ i v w w' hd h) (fun k us us' w w' _ _ hb hR => rsR.keep _ _ _ _ _ _ _ _ _ _ _ _ _ _ _ _ hb hR) ⟨?_, ?_, ?_, ?_, ?_, ?_, ?_, trivial⟩ ?_
    · refine stepE_val [] (by kernel_rfl) (by decide) (by decide) rfl fun us w' hB hG hV => ?_
      have o1 := (frame_old2 (us := us) (a := a0) (show (rrstT[1]?).join = none from rfl)).trans k1
      generalize frame rrstT a0 us = fr at *
      exact val_C (v := .pointer (some ⟨(w.heap.size), 2, none⟩)) (w' := w') (by go_simp) (Below.refl _ _) rfl
    · refine stepE_val [0] (by kernel_rfl) (by decide) (by decide) rfl fun us w' hB hG hV => ?_
      have e0 : us 0 = .pointer (some ⟨(w.heap.size), 2, none⟩) := hV 0 (by simp)
      have v0 := (frame_at2 (us := us) hl (show (rrstT[20]?).join = some 0 from rfl)).trans e0
      have hc := KQ.out w' hG
      generalize frame rrstT a0 us = fr at *
      exact val_C (v := .int .u32 sq) (w' := w') (by go_simp) (Below.refl _ _) rfl
    · refine stepE_val [] (by kernel_rfl) (by decide) (by decide) rfl fun us w' hB hG hV => ?_
      have o1 := (frame_old2 (us := us) (a := a0) (show (rrstT[1]?).join = none from rfl)).trans k1
      have hg1 := hG
      generalize frame rrstT a0 us = fr at *
      exact load_C 34 1 rfl ((w.heap.size)) o1 _ _ (0, 0) _ hg1 Tryd.underlying34 rfl IC.out rfl
    · refine stepE_val [2] (by kernel_rfl) (by decide) (by decide) rfl fun us w' hB hG hV => ?_
      have e2 : us 2 = .agg CP := hV 2 (by simp)
      have v2 := (frame_at2 (us := us) hl (show (rrstT[22]?).join = some 2 from rfl)).trans e2
      generalize frame rrstT a0 us = fr at *
      exact call_C (f := 16) (args := #[.agg CP]) (by go_simp) ((LN.out w').mono fun e w'' h => ⟨_, h.1, h.2, rfl⟩)
    · refine stepE_val [1, 3] (by kernel_rfl) (by decide) (by decide) rfl fun us w' hB hG hV => ?_
      have e1 : us 1 = .int .u32 sq := hV 1 (by simp)
      have v1 := (frame_at2 (us := us) hl (show (rrstT[21]?).join = some 1 from rfl)).trans e1
      have e3 : us 3 = .int .u32 ln := hV 3 (by simp)
      have v3 := (frame_at2 (us := us) hl (show (rrstT[23]?).join = some 3 from rfl)).trans e3
      have hz := WZ.out
      have hz2 := WZ2.out
      generalize frame rrstT a0 us = fr at *
      exact val_C (v := .int .u32 z) (w' := w') (by go_simp) (Below.refl _ _) rfl
    · refine stepE_val [] (by kernel_rfl) (by decide) (by decide) rfl fun us w' hB hG hV => ?_
      have o4 := (frame_old2 (us := us) (a := a0) (show (rrstT[4]?).join = none from rfl)).trans k4
      generalize frame rrstT a0 us = fr at *
      exact val_C (v := .pointer (some ⟨g, 3, none⟩)) (w' := w') (by go_simp) (Below.refl _ _) rfl
    · refine stepE_chain 0 rfl (by decide) [4, 5] (by kernel_rfl) (by decide) rfl fun us w' hB hG hV hR => ?_
      have e4 : us 4 = .int .u32 z := hV 4 (by simp)
      have v4 := (frame_at2 (us := us) hl (show (rrstT[24]?).join = some 4 from rfl)).trans e4
      have e5 : us 5 = .pointer (some ⟨g, 3, none⟩) := hV 5 (by simp)
      have v5 := (frame_at2 (us := us) hl (show (rrstT[25]?).join = some 5 from rfl)).trans e5
      generalize frame rrstT a0 us = fr at *
      have hR0 := (show Rs w w' g s A n c B m d (⟨s.dp, s.sp, 0, 0, 20, 0, 0, zOpt⟩ : Sg) from hR)
      have kc := pkC.PkC.cell hR0.ans.row (segC zOpt_ok.lm none 0 0 none 0 0).ak
      have fz := hR0.ans.frozen 3
      exact skip_J (R := fun v w'' => (OnlyAt g w' w'' ∧ Below g w' w'') ∧ rsR w g s A n c B m d (⟨s.dp, s.sp, 0, 0, 20, 0, 0, zOpt⟩ : Sg) (⟨s.dp, s.sp, 0, IntKind.u32.wrap (s.sq + lenN s.fl m), 20, 0, 0, zOpt⟩ : Sg) 1 (upd us 6 v) w'') (w' := w'.setCell ⟨g, 3, none⟩ (.int .u32 z)) (by go_simp) ⟨⟨only_set _ _ _ _, (only_set _ _ _ _).1⟩, by have h3 := hR0.set_ (x' := (⟨s.dp, s.sp, 0, IntKind.u32.wrap (s.sq + lenN s.fl m), 20, 0, 0, zOpt⟩ : Sg)) 3 (.int .u32 z) (by rw [← HZ.out]; exact segV_ak _); exact h3⟩
    · intro us w2 hB2 hG hV hR
      have HRR := Lib.hid (show Rs w w2 g s A n c B m d (⟨s.dp, s.sp, 0, IntKind.u32.wrap (s.sq + lenN s.fl m), 20, 0, 0, zOpt⟩ : Sg) from hR)
      subst ha0
      simp only [frame, rrstT, fill]
      clear hV hR hG hl k1 k4 HR6 KQ IC LN WZ WZ2 HZ HCP
      have RW := Lib.hid HRR.out.ans.row
      have ZW := Lib.hid HRR.out.res.row
      have FW := Lib.hid HRR.out.bel
      rw [← HCA.out] at RW
      clear HRR HCA
      go_wp2_with (first
        | (refine wpList_load_row rfl 34 (.tmp 4) rfl g rfl _ _ _ _ RW.out Tryd.underlying34 rfl IA.out ?_)
        | (refine wpList_store_row rfl 34 (.tmp 2) (.tmp 26) rfl (w.heap.size + 1) CA rfl rfl _ _ ZW.out IA.out SZ.out OO.out ?_))
      refine bodyPost_ret (v := .tuple #[.agg CA, .bool true]) (adC.results_cell_tmp Tryd.results24 _ _ (w.heap.size + 1) _ _ _ _ _ (by rfl) (setRow_heap _ _ _ _ _ _ ZW.out) Tryd.underlying34 rfl IA.out (by rfl)) rfl ?_
      exact ⟨rfl, aesC.below_setRow FW.out (by omega) _⟩
  · rw [if_pos rfl]
    obtain ⟨CA, hCA⟩ : ∃ C, C = segV (⟨s.dp, s.sp, s.ak, 0, 4, 0, 0, zOpt⟩ : Sg) none 0 0 none 0 0 := ⟨_, rfl⟩
    have IA := Lib.hid (segC (s := (⟨s.dp, s.sp, s.ak, 0, 4, 0, 0, zOpt⟩ : Sg)) zOpt_ok.lm none 0 0 none 0 0).info
    have SZ := Lib.hid (seg_size (s := zSg) (s' := (⟨s.dp, s.sp, s.ak, 0, 4, 0, 0, zOpt⟩ : Sg)) zOpt_ok.lm zOpt_ok.lm none none 0 0 0 0 none none 0 0 0 0)
    have OO := Lib.hid (seg_one (⟨s.dp, s.sp, s.ak, 0, 4, 0, 0, zOpt⟩ : Sg) none 0 0 none 0 0)
    rw [← hCA] at IA SZ OO
    simp only [← hCA]
    have HCA := Lib.hid hCA
    clear hCA
    go_enter Tryd.func24, Tryd.ntmps24
    go_upto_region 1 with fail
    rw [← hW]
    try rw [e1]
    clear hW e1
    go_upto_region 3 with (first
      | (refine wpList_load_row rfl 34 (.tmp 1) rfl w.heap.size rfl _ _ _ _ RCP.out Tryd.underlying34 rfl IC.out ?_)
      | (go_at_call 20; (refine (H4.out _).mono ?_); rintro e w2 ⟨rfl, B2⟩
         have HB2 := Lib.hid B2
         have k1 := KD.out w2 ((B2.block _ (by omega)).trans RCP.out)
         have k0 := KS.out w2 ((B2.block _ (by omega)).trans RCP.out)
         clear B2))
    go_upto_region 4 with (first
      | (with_reducible refine at_build 34 ?_; refine wpList_runG (by kernel_rfl) _ (built_runS (T := 34) (L := [(0, .int .u16 s.dp), (1, .int .u16 s.sp), (4, .int .u8 4)]) rfl rfl BA.out) ?_)
      | (refine wpList_store_row rfl 34 (.tmp 4) (.tmp 12) rfl w2.heap.size CB rfl rfl _ _ (heap_alloc_new _ _) IB.out SB.out OB.out ?_; rw [World.setRow_alloc_new]))
    clear k0 k1 hzv
    have B23 := Lib.hid (alloc_below w2 (.cells CB 34))
    have NW := Lib.hid (NB.out w2)
    have R3 := Lib.hid (show Rs w (w2.alloc (.cells CB 34)) w2.heap.size s A n c B m d (⟨s.dp, s.sp, 0, 0, 4, 0, 0, zOpt⟩ : Sg) from ⟨(R0.out.bel HB2.out).bel B23.out, (Z0.out.bel HB2.out).bel B23.out, NW.out, ((HB.out.trans (HB2.out.mono HB.out.size)).trans (B23.out.mono (Nat.le_trans HB.out.size HB2.out.size))), by have := HB2.out.size; omega⟩)
    have RC3 := Lib.hid (HCP.out _ R3.out.inn.row)
    generalize w2.alloc (.cells CB 34) = w3 at *
    generalize hg : w2.heap.size = g at *
    clear B23 NW
    go_upto_region 5 with (first
      | (refine wpList_load_row rfl 34 (.tmp 1) rfl w.heap.size rfl _ _ _ _ RC3.out Tryd.underlying34 rfl IC.out ?_)
      | (go_at_call 20; (refine (H16.out _).mono ?_); rintro e w4 ⟨rfl, B4⟩
         have R4 := Lib.hid (R3.out.next B4)
         have kak := KA.out w4 (HCP.out _ R4.out.inn.row)
         have ksq := pkC.PkC.cell R4.out.ans.row (segC zOpt_ok.lm none 0 0 none 0 0).sq
         have fsq := R4.out.ans.frozen 2
         clear B4))
    go_upto_region 6 with fail
    have HRR := Lib.hid (R4.out.set_ (x' := (⟨s.dp, s.sp, s.ak, 0, 4, 0, 0, zOpt⟩ : Sg)) 2 (.int .u32 s.ak) (segV_sq _))
    generalize (w4.setCell ⟨g, 2, none⟩ (.int .u32 s.ak)) = u5 at *
    clear kak ksq fsq R4 R3 RC3 RCP R0 Z0 KS KD KQ KA
    have RW := Lib.hid HRR.out.ans.row
    have ZW := Lib.hid HRR.out.res.row
    have FW := Lib.hid HRR.out.bel
    rw [← HCA.out] at RW
    clear HRR HCA
    go_wp2_with (first
      | (refine wpList_load_row rfl 34 (.tmp 4) rfl g rfl _ _ _ _ RW.out Tryd.underlying34 rfl IA.out ?_)
      | (refine wpList_store_row rfl 34 (.tmp 2) (.tmp 18) rfl (w.heap.size + 1) CA rfl rfl _ _ ZW.out IA.out SZ.out OO.out ?_))
    refine bodyPost_ret (v := .tuple #[.agg CA, .bool true]) (adC.results_cell_tmp Tryd.results24 _ _ (w.heap.size + 1) _ _ _ _ _ (by rfl) (setRow_heap _ _ _ _ _ _ ZW.out) Tryd.underlying34 rfl IA.out (by rfl)) rfl ?_
    exact ⟨rfl, aesC.below_setRow FW.out (by omega) _⟩
end Go.Proofs.YtniimgbljhmcoaaDoor.sgC
