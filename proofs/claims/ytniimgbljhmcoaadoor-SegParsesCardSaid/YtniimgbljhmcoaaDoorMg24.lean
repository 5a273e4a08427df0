/-
  1 texts of a proof, joined.
-/
import Derived.Test.YtniimgbljhmcoaaDoorMg21

/-
  Whether two options are the same: the document's.
-/
namespace Go.Proofs.YtniimgbljhmcoaaDoor.opC
open Go.ChangeShapes Go.WideShapes Go.ChangeAt Go.RowKit
open Go.Proofs.YtniimgbljhmcoaaDoor.memC Go.Proofs.YtniimgbljhmcoaaDoor.genC Go.Proofs.YtniimgbljhmcoaaDoor.butC Go.Proofs.YtniimgbljhmcoaaDoor.freeC Go.Proofs.YtniimgbljhmcoaaDoor.adC
set_option linter.unusedVariables false
def qrV (g0 g1 b1 o1 b2 o2 kx : Nat) (x1 y1 x2 y2 : Int) (n c m d : Nat) (q : Bool) : Nat → Value → World → Prop
  | 0, v, _ => v = .pointer (some ⟨g0, 5, none⟩)
  | 1, v, _ => v = .slice (some ⟨b1, o1, none⟩) n c
  | 2, v, _ => v = .int .i64 kx
  | 3, v, _ => v = .pointer (some ⟨b1, o1 + kx * 2, none⟩)
  | 4, v, _ => v = .agg #[.int .u32 x1, .int .u32 y1]
  | 5, v, _ => v = .pointer (some ⟨g1, 5, none⟩)
  | 6, v, _ => v = .slice (some ⟨b2, o2, none⟩) m d
  | 7, v, _ => v = .int .i64 kx
  | 8, v, _ => v = .pointer (some ⟨b2, o2 + kx * 2, none⟩)
  | 9, v, _ => v = .agg #[.int .u32 x2, .int .u32 y2]
  | 10, v, _ => v = .bool (!q)
  | _, _, _ => True
theorem qrV.keep (g0 g1 b1 o1 b2 o2 kx : Nat) (x1 y1 x2 y2 : Int) (n c m d : Nat) (q : Bool) (i : Nat) (v : Value) (w w' : World) (hb : Below w.heap.size w w') (h : qrV g0 g1 b1 o1 b2 o2 kx x1 y1 x2 y2 n c m d q i v w) : qrV g0 g1 b1 o1 b2 o2 kx x1 y1 x2 y2 n c m d q i v w' := by
  unfold qrV at h ⊢
  split at h <;> exact h
def qrT : List (Option Nat) := [none, none, none, none, none, none, none, none, none, none, none, none, none, none, none, none, none, none, none, none, some 0, some 1, some 2, some 3, some 4, some 5, some 6, some 7, some 8, some 9, some 10, none, none, none, none, none, none, none, none, none, none, none, none, none, none, none, none, none, none, none, none, none, none, none, none, none, none, none, none, none, none, none, none, none, none, none, none, none, none, none, none, none, none, none, none, none, none, none, none, none, none, none, none, none, none, none, none, none, none, none, none, none, none, none, none, none, none, none, none, none, none, none, none, none, none, none, none, none, none, none, none, none, none]
set_option maxRecDepth 100000 in
set_option maxHeartbeats 8000000 in
theorem rsame_any (p q : Opt) (A A' : Option Addr) (n c m d : Nat) (w : World) (hp : p.mac.length = 12) (hq : q.mac.length = 12) (hx : Prs w w.heap.size A n p.sk) (hy : Prs w w.heap.size A' m q.sk) (hn : n ≤ 1000000) (hm : m ≤ 1000000) :
    Calls Tryd.prog 40 #[.agg (optV p A n c), .agg (optV q A' m d)] w (Ret w (.bool (sameB p q))) := by
  obtain ⟨CP, hCP⟩ : ∃ C, C = optV p A n c := ⟨_, rfl⟩
  obtain ⟨CQ, hCQ⟩ : ∃ C, C = optV q A' m d := ⟨_, rfl⟩
  have OP : OptC CP p A n c := by rw [hCP]; exact optC hp A n c
  have OQ : OptC CQ q A' m d := by rw [hCQ]; exact optC hq A' m d
  rw [← hCP, ← hCQ]
  clear hCP hCQ
  have e1 : (w.alloc (.cells CP 31)).heap.size = w.heap.size + 1 := alloc_size _ _
  obtain ⟨W, hW⟩ : ∃ W, W = (w.alloc (.cells CP 31)).alloc (.cells CQ 31) := ⟨_, rfl⟩
  have R0 : W.heap[w.heap.size]? = some (.cells CP 31 (0, 0)) := by rw [hW, Below.block (alloc_below _ _) _ (by rw [e1]; omega)]; exact heap_alloc_new w _
  have R1 : W.heap[w.heap.size + 1]? = some (.cells CQ 31 (0, 0)) := by rw [hW, ← e1]; exact heap_alloc_new _ _
  have HB := Lib.hid (show Below w.heap.size w W by rw [hW]; exact ((Below.refl _ _).alloc (Nat.le_refl _) _).alloc (by simp) _)
  have HP := Lib.hid ((hx.below HB.out).more HB.out.size)
  have HQ := Lib.hid ((hy.below HB.out).more HB.out.size)
  have RA := fun (w' : World) (h : Below W.heap.size W w') => (show w'.heap[w.heap.size]? = some (.cells CP 31 (0, 0)) by rw [h.block _ (lt_of_row R0)]; exact R0)
  have RB := fun (w' : World) (h : Below W.heap.size W w') => (show w'.heap[w.heap.size + 1]? = some (.cells CQ 31 (0, 0)) by rw [h.block _ (lt_of_row R1)]; exact R1)
  have SA := Lib.hid (fun w' h => pkC.PkC.cell (RA w' h) OP.sk)
  have SB := Lib.hid (fun w' h => pkC.PkC.cell (RB w' h) OQ.sk)
  have K0 := Lib.hid (fun w' h => pkC.PkC.cell (RA w' h) OP.hm)
  have J0 := Lib.hid (fun w' h => pkC.PkC.cell (RB w' h) OQ.hm)
  have K1 := Lib.hid (fun w' h => pkC.PkC.cell (RA w' h) OP.ms)
  have J1 := Lib.hid (fun w' h => pkC.PkC.cell (RB w' h) OQ.ms)
  have K2 := Lib.hid (fun w' h => pkC.PkC.cell (RA w' h) OP.hs)
  have J2 := Lib.hid (fun w' h => pkC.PkC.cell (RB w' h) OQ.hs)
  have K3 := Lib.hid (fun w' h => pkC.PkC.cell (RA w' h) OP.sc)
  have J3 := Lib.hid (fun w' h => pkC.PkC.cell (RB w' h) OQ.sc)
  have K4 := Lib.hid (fun w' h => pkC.PkC.cell (RA w' h) OP.so)
  have J4 := Lib.hid (fun w' h => pkC.PkC.cell (RB w' h) OQ.so)
  have K6 := Lib.hid (fun w' h => pkC.PkC.cell (RA w' h) OP.ht)
  have J6 := Lib.hid (fun w' h => pkC.PkC.cell (RB w' h) OQ.ht)
  have K7 := Lib.hid (fun w' h => pkC.PkC.cell (RA w' h) OP.va)
  have J7 := Lib.hid (fun w' h => pkC.PkC.cell (RB w' h) OQ.va)
  have K8 := Lib.hid (fun w' h => pkC.PkC.cell (RA w' h) OP.ec)
  have J8 := Lib.hid (fun w' h => pkC.PkC.cell (RB w' h) OQ.ec)
  have K9 := Lib.hid (fun w' h => pkC.PkC.cell (RA w' h) OP.ha)
  have J9 := Lib.hid (fun w' h => pkC.PkC.cell (RB w' h) OQ.ha)
  have K10 := Lib.hid (fun w' h => pkC.PkC.cell (RA w' h) OP.ki)
  have J10 := Lib.hid (fun w' h => pkC.PkC.cell (RB w' h) OQ.ki)
  have K11 := Lib.hid (fun w' h => pkC.PkC.cell (RA w' h) OP.ni)
  have J11 := Lib.hid (fun w' h => pkC.PkC.cell (RB w' h) OQ.ni)
  have MA := Lib.hid (fun (w' : World) (h : Below W.heap.size W w') => (show ∀ j v, (macL p.mac)[j]? = some v → w'.cell? ⟨w.heap.size, 12 + j, none⟩ = some v from fun j v hv => pkC.PkC.cell (RA w' h) (OP.mac j v hv)))
  have MB := Lib.hid (fun (w' : World) (h : Below W.heap.size W w') => (show ∀ j v, (macL q.mac)[j]? = some v → w'.cell? ⟨w.heap.size + 1, 12 + j, none⟩ = some v from fun j v hv => pkC.PkC.cell (RB w' h) (OQ.mac j v hv)))
  have IA := Lib.hid (mac_info hp)
  have IB := Lib.hid (mac_info hq)
  have EM := Lib.hid (fun w => eq12 hp hq w)
  have LP := Lib.hid hx.len
  have LQ := Lib.hid hy.len
  obtain ⟨V, hV⟩ : ∃ V, V = sameB p q := ⟨_, rfl⟩
  rw [← hV]
  unfold sameB at hV
  generalize p.sk = ps at *
  generalize q.sk = qs at *
  obtain ⟨bs, hbs⟩ : ∃ b, decide (ps = qs) = b := ⟨_, rfl⟩
  rw [hbs] at hV
  have HBS := Lib.hid hbs
  generalize decide (p.mac = q.mac) = bm at *
  generalize macL p.mac = LA at *
  generalize macL q.mac = LB at *
  generalize p.hm = xhm at *
  generalize q.hm = yhm at *
  generalize p.ms = xms at *
  generalize q.ms = yms at *
  generalize p.hs = xhs at *
  generalize q.hs = yhs at *
  generalize p.sc = xsc at *
  generalize q.sc = ysc at *
  generalize p.so = xso at *
  generalize q.so = yso at *
  generalize p.ht = xht at *
  generalize q.ht = yht at *
  generalize p.va = xva at *
  generalize q.va = yva at *
  generalize p.ec = xec at *
  generalize q.ec = yec at *
  generalize p.ha = xha at *
  generalize q.ha = yha at *
  generalize p.ki = xki at *
  generalize q.ki = yki at *
  generalize p.ni = xni at *
  generalize q.ni = yni at *
  have HV := Lib.hid hV
  have k5 := SA.out W (Below.refl _ _)
  have j5 := SB.out W (Below.refl _ _)
  clear hp hq hx hy OP OQ R0 R1 RA RB e1 hV hbs
  by_cases hnm : n = m
  rotate_left
  · have q1 : ((n : Int) == (m : Int)) = false := beq_eq_false_iff_ne.2 (by omega)
    have q2 : ((n : Int) != (m : Int)) = true := by simp; omega
    have hb : bs = false := by rw [← HBS.out]; exact decide_eq_false (fun h => hnm (by rw [← LP.out, ← LQ.out, h]))
    have hv := Lib.hid (show V = false by rw [HV.out, hb]; simp)
    clear hnm hb
    go_enter Tryd.func40, Tryd.ntmps40
    go_upto_region 1 with fail
    rw [← hW]
    clear hW
    go_wp2_with fail
    go_ret
    exact ⟨ret_bool hv.out.symm, HB.out⟩
  subst hnm
  have q1 : ((n : Int) != (n : Int)) = false := by simp
  go_enter Tryd.func40, Tryd.ntmps40
  simp only [List.append_eq, List.cons_append, List.nil_append]
  go_upto_region 1 with fail
  rw [← hW]
  clear hW
  go_upto_region 4 with fail
  clear k5 j5
  go_loopw [5] (fun u wr => ∃ i : Nat, i ≤ n ∧ u = .int .i64 i ∧ ps.take i = qs.take i ∧ Below W.heap.size W wr) (fun u _ => n - (intOf u).toNat)
  case atStart => exact ⟨0, by omega, rfl, rfl, Below.refl _ _⟩
  case round =>
    obtain ⟨i, hi, rfl, E, BW⟩ := hrel
    have HBW := Lib.hid BW
    have k5 := SA.out wr BW
    have j5 := SB.out wr BW
    by_cases hlt : i < n
    · obtain ⟨b1, o1, hA1, hb1, c0, c1⟩ := HP.out.cell hlt
      obtain ⟨b2, o2, hA2, hb2, d0, d1⟩ := HQ.out.cell hlt
      have hE := fun e => take_eq (ps := ps) (qs := qs) E (by rw [LP.out]; exact hlt) (by rw [LQ.out]; exact hlt) e
      obtain ⟨p', hp⟩ : ∃ p', p' = ps.getD i (0, 0) := ⟨_, rfl⟩
      obtain ⟨q', hq⟩ : ∃ q', q' = qs.getD i (0, 0) := ⟨_, rfl⟩
      have EB := Lib.hid (fun w => eqB p' q' w)
      have hne : p' ≠ q' → ps ≠ qs := fun h e => h (by rw [hp, hq, e])
      rw [← hp] at c0 c1 hE
      rw [← hq] at d0 d1 hE
      have C1 := Lib.hid (fun w' (h : Gr wr w') => Prs.cells2 c0 c1 hb1 (BW.trans (Below.mono h BW.size)))
      have C2 := Lib.hid (fun w' (h : Gr wr w') => Prs.cells2 d0 d1 hb2 (BW.trans (Below.mono h BW.size)))
      have HE := Lib.hid hE
      have HNE := Lib.hid hne
      unfold pairV at EB
      clear hp hq
      obtain ⟨x1, y1⟩ := p'
      obtain ⟨x2, y2⟩ := q'
      simp only at C1 C2 EB
      obtain ⟨q, hq⟩ : ∃ q, q = decide ((x1, y1) = (x2, y2)) := ⟨_, rfl⟩
      rw [← hq] at EB
      have HQB := Lib.hid hq
      subst hA1
      subst hA2
      have S0 := Lib.hid (fun w' (h : Gr wr w') => SA.out w' (HBW.out.trans (Below.mono h HBW.out.size)))
      have S1 := Lib.hid (fun w' (h : Gr wr w') => SB.out w' (HBW.out.trans (Below.mono h HBW.out.size)))
      have I1 := Lib.hid (show (i : Int) < (n : Int) by omega)
      have I2 := Lib.hid (show (i : Int) < (n : Int) by omega)
      have KI := Lib.hid (show (0 : Int) ≤ (i : Int) by omega)
      have q6 : (i : Int) < (n : Int) := by omega
      have wi : IntKind.i64.wrap ((i : Int) + 1) = (i : Int) + 1 := IntWalk.i64_in _ (by omega)
      have HI := Lib.hid hlt
      clear E BW hE hne c0 c1 d0 d1 hb1 hb2 hq hi hlt
      go_upto_region 6 with fail
      clear k5 j5
      refine with_act fun a0 ha0 => ?_
      have hl : qrT.length = a0.tmps.size := by rw [ha0]; rfl
      have k2 : a0.tmps[2]?.getD undef = .pointer (some ⟨w.heap.size, 0, none⟩) := by rw [ha0]; rfl
      have k3 : a0.tmps[3]?.getD undef = .pointer (some ⟨(w.heap.size + 1), 0, none⟩) := by rw [ha0]; rfl
      have k5 : a0.tmps[5]?.getD undef = .int .i64 i := by rw [ha0]; rfl
      refine wp_region_vals (by kernel_rfl) qrT (by kernel_rfl) (by kernel_rfl) hl (fun i => a0.tmps[i + 20]?.getD undef) (by rw [ha0]; rfl) (Gr wr) (qrV w.heap.size (w.heap.size + 1) b1 o1 b2 o2 i x1 y1 x2 y2 n c n d q) (gr_drewG _ _) (qrV.keep _ _ _ _ _ _ _ _ _ _ _ _ _ _ _ _) ⟨?_, ?_, ?_, ?_, ?_, ?_, ?_, ?_, ?_, ?_, ?_, trivial⟩ ?_
      · refine step_plain [] (by kernel_rfl) rfl fun us w' hG hV => ?_
        have o2 := (frame_old2 (us := us) (a := a0) (show (qrT[2]?).join = none from rfl)).trans k2
        generalize frame qrT a0 us = fr at *
        exact val_ok (v := .pointer (some ⟨w.heap.size, 5, none⟩)) (w' := w') (by go_simp) hG (Below.refl _ _) rfl
      · refine step_plain [0] (by kernel_rfl) rfl fun us w' hG hV => ?_
        have e0 : us 0 = .pointer (some ⟨w.heap.size, 5, none⟩) := hV 0 (by simp)
        have v0 := (frame_at2 (us := us) hl (show (qrT[20]?).join = some 0 from rfl)).trans e0
        have hc := S0.out w' hG
        generalize frame qrT a0 us = fr at *
        exact val_ok (v := .slice (some ⟨b1, o1, none⟩) n c) (w' := w') (by go_simp) hG (Below.refl _ _) rfl
      · refine step_plain [] (by kernel_rfl) rfl fun us w' hG hV => ?_
        have o5 := (frame_old2 (us := us) (a := a0) (show (qrT[5]?).join = none from rfl)).trans k5
        generalize frame qrT a0 us = fr at *
        exact val_ok (v := .int .i64 i) (w' := w') (by go_simp) hG (Below.refl _ _) rfl
      · refine step_plain [1, 2] (by kernel_rfl) rfl fun us w' hG hV => ?_
        have e1 : us 1 = .slice (some ⟨b1, o1, none⟩) n c := hV 1 (by simp)
        have v1 := (frame_at2 (us := us) hl (show (qrT[21]?).join = some 1 from rfl)).trans e1
        have e2 : us 2 = .int .i64 i := hV 2 (by simp)
        have v2 := (frame_at2 (us := us) hl (show (qrT[22]?).join = some 2 from rfl)).trans e2
        have hi := I1.out
        have hk := KI.out
        generalize frame qrT a0 us = fr at *
        exact val_ok (v := .pointer (some ⟨b1, o1 + i * 2, none⟩)) (w' := w') (by go_simp) hG (Below.refl _ _) rfl
      · refine step_plain [3] (by kernel_rfl) rfl fun us w' hG hV => ?_
        have e3 : us 3 = .pointer (some ⟨b1, o1 + i * 2, none⟩) := hV 3 (by simp)
        have v3 := (frame_at2 (us := us) hl (show (qrT[23]?).join = some 3 from rfl)).trans e3
        have hg1 := C1.out w' hG
        generalize frame qrT a0 us = fr at *
        exact val_ok (v := .agg #[.int .u32 x1, .int .u32 y1]) (w' := w') (loadp_run (s := 23) rfl v3 [.int .u32 x1, .int .u32 y1] _ hg1 Tryd.underlying101 rfl (blk_sizeL _ _)) hG (Below.refl _ _) rfl
      · refine step_plain [] (by kernel_rfl) rfl fun us w' hG hV => ?_
        have o3 := (frame_old2 (us := us) (a := a0) (show (qrT[3]?).join = none from rfl)).trans k3
        generalize frame qrT a0 us = fr at *
        exact val_ok (v := .pointer (some ⟨(w.heap.size + 1), 5, none⟩)) (w' := w') (by go_simp) hG (Below.refl _ _) rfl
      · refine step_plain [5] (by kernel_rfl) rfl fun us w' hG hV => ?_
        have e5 : us 5 = .pointer (some ⟨(w.heap.size + 1), 5, none⟩) := hV 5 (by simp)
        have v5 := (frame_at2 (us := us) hl (show (qrT[25]?).join = some 5 from rfl)).trans e5
        have hc := S1.out w' hG
        generalize frame qrT a0 us = fr at *
        exact val_ok (v := .slice (some ⟨b2, o2, none⟩) n d) (w' := w') (by go_simp) hG (Below.refl _ _) rfl
      · refine step_plain [] (by kernel_rfl) rfl fun us w' hG hV => ?_
        have o5 := (frame_old2 (us := us) (a := a0) (show (qrT[5]?).join = none from rfl)).trans k5
        generalize frame qrT a0 us = fr at *
        exact val_ok (v := .int .i64 i) (w' := w') (by go_simp) hG (Below.refl _ _) rfl
      · refine step_plain [6, 7] (by kernel_rfl) rfl fun us w' hG hV => ?_
        have e6 : us 6 = .slice (some ⟨b2, o2, none⟩) n d := hV 6 (by simp)
        have v6 := (frame_at2 (us := us) hl (show (qrT[26]?).join = some 6 from rfl)).trans e6
        have e7 : us 7 = .int .i64 i := hV 7 (by simp)
        have v7 := (frame_at2 (us := us) hl (show (qrT[27]?).join = some 7 from rfl)).trans e7
        have hi := I2.out
        have hk := KI.out
        generalize frame qrT a0 us = fr at *
        exact val_ok (v := .pointer (some ⟨b2, o2 + i * 2, none⟩)) (w' := w') (by go_simp) hG (Below.refl _ _) rfl
      · refine step_plain [8] (by kernel_rfl) rfl fun us w' hG hV => ?_
        have e8 : us 8 = .pointer (some ⟨b2, o2 + i * 2, none⟩) := hV 8 (by simp)
        have v8 := (frame_at2 (us := us) hl (show (qrT[28]?).join = some 8 from rfl)).trans e8
        have hg1 := C2.out w' hG
        generalize frame qrT a0 us = fr at *
        exact val_ok (v := .agg #[.int .u32 x2, .int .u32 y2]) (w' := w') (loadp_run (s := 28) rfl v8 [.int .u32 x2, .int .u32 y2] _ hg1 Tryd.underlying101 rfl (blk_sizeL _ _)) hG (Below.refl _ _) rfl
      · refine step_plain [4, 9] (by kernel_rfl) rfl fun us w' hG hV => ?_
        have e4 : us 4 = .agg #[.int .u32 x1, .int .u32 y1] := hV 4 (by simp)
        have v4 := (frame_at2 (us := us) hl (show (qrT[24]?).join = some 4 from rfl)).trans e4
        have e9 : us 9 = .agg #[.int .u32 x2, .int .u32 y2] := hV 9 (by simp)
        have v9 := (frame_at2 (us := us) hl (show (qrT[29]?).join = some 9 from rfl)).trans e9
        generalize frame qrT a0 us = fr at *
        exact val_ok (v := .bool (!q)) (w' := w') (neq_run (T := 101) (s := 24) (x := 29) rfl v4 v9 (EB.out w') guard_blk) hG (Below.refl _ _) rfl
      · intro us w5 hG hV
        have e8 : us 10 = .bool (!q) := hV 10 (by decide)
        subst ha0
        simp only [frame, qrT, fill]
        rw [e8]
        have HG3 := Lib.hid hG
        clear hV hl hG k2 k3 k5 e8
        cases q
        · have hb : bs = false := by rw [← HBS.out]; exact decide_eq_false (HNE.out (of_decide_eq_false HQB.out.symm))
          have hv := Lib.hid (show V = false by rw [HV.out, hb]; simp)
          clear hb
          go_wp2_with fail
          go_ret
          exact ⟨ret_bool hv.out.symm, HB.out.trans ((HBW.out.trans (Below.mono HG3.out HBW.out.size)).mono HB.out.size)⟩
        · have he := Lib.hid (HE.out (of_decide_eq_true HQB.out.symm))
          go_wp2_with fail
          go_roundw
          case rel => exact ⟨i + 1, by have := HI.out; omega, by go_num, he.out, HBW.out.trans (Below.mono HG3.out HBW.out.size)⟩
          case measure => simp [intOf]; omega
    · have hin : i = n := by omega
      subst hin
      have hb : bs = true := by
        rw [← HBS.out]
        rw [List.take_of_length_le (by rw [LP.out]; exact Nat.le_refl _), List.take_of_length_le (by rw [LQ.out]; exact Nat.le_refl _)] at E
        exact decide_eq_true E
      subst hb
      have B2 := Lib.hid BW
      have HB2 := Lib.hid (HB.out.trans (BW.mono HB.out.size))
      have k0 := K0.out _ BW
      have j0 := J0.out _ BW
      have k1 := K1.out _ BW
      have j1 := J1.out _ BW
      have k2 := K2.out _ BW
      have j2 := J2.out _ BW
      have k3 := K3.out _ BW
      have j3 := J3.out _ BW
      have k4 := K4.out _ BW
      have j4 := J4.out _ BW
      have k6 := K6.out _ BW
      have j6 := J6.out _ BW
      have k7 := K7.out _ BW
      have j7 := J7.out _ BW
      have k8 := K8.out _ BW
      have j8 := J8.out _ BW
      have k9 := K9.out _ BW
      have j9 := J9.out _ BW
      have k10 := K10.out _ BW
      have j10 := J10.out _ BW
      have k11 := K11.out _ BW
      have j11 := J11.out _ BW
      clear E BW hi hlt
      cases hb0 : (xhm == yhm)
      · have h0 : ¬ xhm = yhm := by simpa using hb0
        have hv := Lib.hid (show V = false by rw [HV.out]; simp [h0])
        clear h0
        go_wp2_with (first
          | go_skip
          | (with_reducible refine atC.at_load 29 107 ?_; refine pkC.wpList_load_partG (by kernel_rfl) 29 (.tmp 107) (by kernel_rfl) w.heap.size 12 (by kernel_rfl) LA _ (MA.out _ B2.out) Tryd.underlying29 rfl IA.out ?_)
          | (with_reducible refine atC.at_load 29 109 ?_; refine pkC.wpList_load_partG (by kernel_rfl) 29 (.tmp 109) (by kernel_rfl) (w.heap.size + 1) 12 (by kernel_rfl) LB _ (MB.out _ B2.out) Tryd.underlying29 rfl IB.out ?_)
          | (with_reducible refine atC.at_bin .eql 29 ?_; refine wpList_runG (by kernel_rfl) _ (eq_run (T := 29) (s := 108) (x := 110) rfl (by kernel_rfl) (by kernel_rfl) (EM.out _) guard12) ?_))
        go_ret
        exact ⟨ret_bool hv.out.symm, HB2.out⟩
      obtain rfl : xhm = yhm := by simpa using hb0
      clear hb0
      by_cases h1 : xms = yms
      rotate_left
      · have hq1 : (xms == yms) = false := beq_eq_false_iff_ne.2 h1
        have hv := Lib.hid (show V = false by rw [HV.out]; simp [h1])
        clear h1
        go_wp2_with (first
          | go_skip
          | (with_reducible refine atC.at_load 29 107 ?_; refine pkC.wpList_load_partG (by kernel_rfl) 29 (.tmp 107) (by kernel_rfl) w.heap.size 12 (by kernel_rfl) LA _ (MA.out _ B2.out) Tryd.underlying29 rfl IA.out ?_)
          | (with_reducible refine atC.at_load 29 109 ?_; refine pkC.wpList_load_partG (by kernel_rfl) 29 (.tmp 109) (by kernel_rfl) (w.heap.size + 1) 12 (by kernel_rfl) LB _ (MB.out _ B2.out) Tryd.underlying29 rfl IB.out ?_)
          | (with_reducible refine atC.at_bin .eql 29 ?_; refine wpList_runG (by kernel_rfl) _ (eq_run (T := 29) (s := 108) (x := 110) rfl (by kernel_rfl) (by kernel_rfl) (EM.out _) guard12) ?_))
        go_ret
        exact ⟨ret_bool hv.out.symm, HB2.out⟩
      subst h1
      cases hb2 : (xhs == yhs)
      · have h2 : ¬ xhs = yhs := by simpa using hb2
        have hv := Lib.hid (show V = false by rw [HV.out]; simp [h2])
        clear h2
        go_wp2_with (first
          | go_skip
          | (with_reducible refine atC.at_load 29 107 ?_; refine pkC.wpList_load_partG (by kernel_rfl) 29 (.tmp 107) (by kernel_rfl) w.heap.size 12 (by kernel_rfl) LA _ (MA.out _ B2.out) Tryd.underlying29 rfl IA.out ?_)
          | (with_reducible refine atC.at_load 29 109 ?_; refine pkC.wpList_load_partG (by kernel_rfl) 29 (.tmp 109) (by kernel_rfl) (w.heap.size + 1) 12 (by kernel_rfl) LB _ (MB.out _ B2.out) Tryd.underlying29 rfl IB.out ?_)
          | (with_reducible refine atC.at_bin .eql 29 ?_; refine wpList_runG (by kernel_rfl) _ (eq_run (T := 29) (s := 108) (x := 110) rfl (by kernel_rfl) (by kernel_rfl) (EM.out _) guard12) ?_))
        go_ret
        exact ⟨ret_bool hv.out.symm, HB2.out⟩
      obtain rfl : xhs = yhs := by simpa using hb2
      clear hb2
      by_cases h3 : xsc = ysc
      rotate_left
      · have hq3 : (xsc == ysc) = false := beq_eq_false_iff_ne.2 h3
        have hv := Lib.hid (show V = false by rw [HV.out]; simp [h3])
        clear h3
        go_wp2_with (first
          | go_skip
          | (with_reducible refine atC.at_load 29 107 ?_; refine pkC.wpList_load_partG (by kernel_rfl) 29 (.tmp 107) (by kernel_rfl) w.heap.size 12 (by kernel_rfl) LA _ (MA.out _ B2.out) Tryd.underlying29 rfl IA.out ?_)
          | (with_reducible refine atC.at_load 29 109 ?_; refine pkC.wpList_load_partG (by kernel_rfl) 29 (.tmp 109) (by kernel_rfl) (w.heap.size + 1) 12 (by kernel_rfl) LB _ (MB.out _ B2.out) Tryd.underlying29 rfl IB.out ?_)
          | (with_reducible refine atC.at_bin .eql 29 ?_; refine wpList_runG (by kernel_rfl) _ (eq_run (T := 29) (s := 108) (x := 110) rfl (by kernel_rfl) (by kernel_rfl) (EM.out _) guard12) ?_))
        go_ret
        exact ⟨ret_bool hv.out.symm, HB2.out⟩
      subst h3
      cases hb4 : (xso == yso)
      · have h4 : ¬ xso = yso := by simpa using hb4
        have hv := Lib.hid (show V = false by rw [HV.out]; simp [h4])
        clear h4
        go_wp2_with (first
          | go_skip
          | (with_reducible refine atC.at_load 29 107 ?_; refine pkC.wpList_load_partG (by kernel_rfl) 29 (.tmp 107) (by kernel_rfl) w.heap.size 12 (by kernel_rfl) LA _ (MA.out _ B2.out) Tryd.underlying29 rfl IA.out ?_)
          | (with_reducible refine atC.at_load 29 109 ?_; refine pkC.wpList_load_partG (by kernel_rfl) 29 (.tmp 109) (by kernel_rfl) (w.heap.size + 1) 12 (by kernel_rfl) LB _ (MB.out _ B2.out) Tryd.underlying29 rfl IB.out ?_)
          | (with_reducible refine atC.at_bin .eql 29 ?_; refine wpList_runG (by kernel_rfl) _ (eq_run (T := 29) (s := 108) (x := 110) rfl (by kernel_rfl) (by kernel_rfl) (EM.out _) guard12) ?_))
        go_ret
        exact ⟨ret_bool hv.out.symm, HB2.out⟩
      obtain rfl : xso = yso := by simpa using hb4
      clear hb4
      cases hb6 : (xht == yht)
      · have h6 : ¬ xht = yht := by simpa using hb6
        have hv := Lib.hid (show V = false by rw [HV.out]; simp [h6])
        clear h6
        go_wp2_with (first
          | go_skip
          | (with_reducible refine atC.at_load 29 107 ?_; refine pkC.wpList_load_partG (by kernel_rfl) 29 (.tmp 107) (by kernel_rfl) w.heap.size 12 (by kernel_rfl) LA _ (MA.out _ B2.out) Tryd.underlying29 rfl IA.out ?_)
          | (with_reducible refine atC.at_load 29 109 ?_; refine pkC.wpList_load_partG (by kernel_rfl) 29 (.tmp 109) (by kernel_rfl) (w.heap.size + 1) 12 (by kernel_rfl) LB _ (MB.out _ B2.out) Tryd.underlying29 rfl IB.out ?_)
          | (with_reducible refine atC.at_bin .eql 29 ?_; refine wpList_runG (by kernel_rfl) _ (eq_run (T := 29) (s := 108) (x := 110) rfl (by kernel_rfl) (by kernel_rfl) (EM.out _) guard12) ?_))
        go_ret
        exact ⟨ret_bool hv.out.symm, HB2.out⟩
      obtain rfl : xht = yht := by simpa using hb6
      clear hb6
      by_cases h7 : xva = yva
      rotate_left
      · have hq7 : (xva == yva) = false := beq_eq_false_iff_ne.2 h7
        have hv := Lib.hid (show V = false by rw [HV.out]; simp [h7])
        clear h7
        go_wp2_with (first
          | go_skip
          | (with_reducible refine atC.at_load 29 107 ?_; refine pkC.wpList_load_partG (by kernel_rfl) 29 (.tmp 107) (by kernel_rfl) w.heap.size 12 (by kernel_rfl) LA _ (MA.out _ B2.out) Tryd.underlying29 rfl IA.out ?_)
          | (with_reducible refine atC.at_load 29 109 ?_; refine pkC.wpList_load_partG (by kernel_rfl) 29 (.tmp 109) (by kernel_rfl) (w.heap.size + 1) 12 (by kernel_rfl) LB _ (MB.out _ B2.out) Tryd.underlying29 rfl IB.out ?_)
          | (with_reducible refine atC.at_bin .eql 29 ?_; refine wpList_runG (by kernel_rfl) _ (eq_run (T := 29) (s := 108) (x := 110) rfl (by kernel_rfl) (by kernel_rfl) (EM.out _) guard12) ?_))
        go_ret
        exact ⟨ret_bool hv.out.symm, HB2.out⟩
      subst h7
      by_cases h8 : xec = yec
      rotate_left
      · have hq8 : (xec == yec) = false := beq_eq_false_iff_ne.2 h8
        have hv := Lib.hid (show V = false by rw [HV.out]; simp [h8])
        clear h8
        go_wp2_with (first
          | go_skip
          | (with_reducible refine atC.at_load 29 107 ?_; refine pkC.wpList_load_partG (by kernel_rfl) 29 (.tmp 107) (by kernel_rfl) w.heap.size 12 (by kernel_rfl) LA _ (MA.out _ B2.out) Tryd.underlying29 rfl IA.out ?_)
          | (with_reducible refine atC.at_load 29 109 ?_; refine pkC.wpList_load_partG (by kernel_rfl) 29 (.tmp 109) (by kernel_rfl) (w.heap.size + 1) 12 (by kernel_rfl) LB _ (MB.out _ B2.out) Tryd.underlying29 rfl IB.out ?_)
          | (with_reducible refine atC.at_bin .eql 29 ?_; refine wpList_runG (by kernel_rfl) _ (eq_run (T := 29) (s := 108) (x := 110) rfl (by kernel_rfl) (by kernel_rfl) (EM.out _) guard12) ?_))
        go_ret
        exact ⟨ret_bool hv.out.symm, HB2.out⟩
      subst h8
      cases hb9 : (xha == yha)
      · have h9 : ¬ xha = yha := by simpa using hb9
        have hv := Lib.hid (show V = false by rw [HV.out]; simp [h9])
        clear h9
        go_wp2_with (first
          | go_skip
          | (with_reducible refine atC.at_load 29 107 ?_; refine pkC.wpList_load_partG (by kernel_rfl) 29 (.tmp 107) (by kernel_rfl) w.heap.size 12 (by kernel_rfl) LA _ (MA.out _ B2.out) Tryd.underlying29 rfl IA.out ?_)
          | (with_reducible refine atC.at_load 29 109 ?_; refine pkC.wpList_load_partG (by kernel_rfl) 29 (.tmp 109) (by kernel_rfl) (w.heap.size + 1) 12 (by kernel_rfl) LB _ (MB.out _ B2.out) Tryd.underlying29 rfl IB.out ?_)
          | (with_reducible refine atC.at_bin .eql 29 ?_; refine wpList_runG (by kernel_rfl) _ (eq_run (T := 29) (s := 108) (x := 110) rfl (by kernel_rfl) (by kernel_rfl) (EM.out _) guard12) ?_))
        go_ret
        exact ⟨ret_bool hv.out.symm, HB2.out⟩
      obtain rfl : xha = yha := by simpa using hb9
      clear hb9
      by_cases h10 : xki = yki
      rotate_left
      · have hq10 : (xki == yki) = false := beq_eq_false_iff_ne.2 h10
        have hv := Lib.hid (show V = false by rw [HV.out]; simp [h10])
        clear h10
        go_wp2_with (first
          | go_skip
          | (with_reducible refine atC.at_load 29 107 ?_; refine pkC.wpList_load_partG (by kernel_rfl) 29 (.tmp 107) (by kernel_rfl) w.heap.size 12 (by kernel_rfl) LA _ (MA.out _ B2.out) Tryd.underlying29 rfl IA.out ?_)
          | (with_reducible refine atC.at_load 29 109 ?_; refine pkC.wpList_load_partG (by kernel_rfl) 29 (.tmp 109) (by kernel_rfl) (w.heap.size + 1) 12 (by kernel_rfl) LB _ (MB.out _ B2.out) Tryd.underlying29 rfl IB.out ?_)
          | (with_reducible refine atC.at_bin .eql 29 ?_; refine wpList_runG (by kernel_rfl) _ (eq_run (T := 29) (s := 108) (x := 110) rfl (by kernel_rfl) (by kernel_rfl) (EM.out _) guard12) ?_))
        go_ret
        exact ⟨ret_bool hv.out.symm, HB2.out⟩
      subst h10
      by_cases h11 : xni = yni
      rotate_left
      · have hq11 : (xni == yni) = false := beq_eq_false_iff_ne.2 h11
        have hv := Lib.hid (show V = false by rw [HV.out]; simp [h11])
        clear h11
        go_wp2_with (first
          | go_skip
          | (with_reducible refine atC.at_load 29 107 ?_; refine pkC.wpList_load_partG (by kernel_rfl) 29 (.tmp 107) (by kernel_rfl) w.heap.size 12 (by kernel_rfl) LA _ (MA.out _ B2.out) Tryd.underlying29 rfl IA.out ?_)
          | (with_reducible refine atC.at_load 29 109 ?_; refine pkC.wpList_load_partG (by kernel_rfl) 29 (.tmp 109) (by kernel_rfl) (w.heap.size + 1) 12 (by kernel_rfl) LB _ (MB.out _ B2.out) Tryd.underlying29 rfl IB.out ?_)
          | (with_reducible refine atC.at_bin .eql 29 ?_; refine wpList_runG (by kernel_rfl) _ (eq_run (T := 29) (s := 108) (x := 110) rfl (by kernel_rfl) (by kernel_rfl) (EM.out _) guard12) ?_))
        go_ret
        exact ⟨ret_bool hv.out.symm, HB2.out⟩
      subst h11
      cases bm
      · have hv := Lib.hid (show V = false by rw [HV.out]; simp [*])
        go_wp2_with (first
          | go_skip
          | (with_reducible refine atC.at_load 29 107 ?_; refine pkC.wpList_load_partG (by kernel_rfl) 29 (.tmp 107) (by kernel_rfl) w.heap.size 12 (by kernel_rfl) LA _ (MA.out _ B2.out) Tryd.underlying29 rfl IA.out ?_)
          | (with_reducible refine atC.at_load 29 109 ?_; refine pkC.wpList_load_partG (by kernel_rfl) 29 (.tmp 109) (by kernel_rfl) (w.heap.size + 1) 12 (by kernel_rfl) LB _ (MB.out _ B2.out) Tryd.underlying29 rfl IB.out ?_)
          | (with_reducible refine atC.at_bin .eql 29 ?_; refine wpList_runG (by kernel_rfl) _ (eq_run (T := 29) (s := 108) (x := 110) rfl (by kernel_rfl) (by kernel_rfl) (EM.out _) guard12) ?_))
        go_ret
        exact ⟨ret_bool hv.out.symm, HB2.out⟩
      have hv := Lib.hid (show V = true by rw [HV.out]; simp [*])
      go_wp2_with (first
        | go_skip
        | (with_reducible refine atC.at_load 29 107 ?_; refine pkC.wpList_load_partG (by kernel_rfl) 29 (.tmp 107) (by kernel_rfl) w.heap.size 12 (by kernel_rfl) LA _ (MA.out _ B2.out) Tryd.underlying29 rfl IA.out ?_)
        | (with_reducible refine atC.at_load 29 109 ?_; refine pkC.wpList_load_partG (by kernel_rfl) 29 (.tmp 109) (by kernel_rfl) (w.heap.size + 1) 12 (by kernel_rfl) LB _ (MB.out _ B2.out) Tryd.underlying29 rfl IB.out ?_)
        | (with_reducible refine atC.at_bin .eql 29 ?_; refine wpList_runG (by kernel_rfl) _ (eq_run (T := 29) (s := 108) (x := 110) rfl (by kernel_rfl) (by kernel_rfl) (EM.out _) guard12) ?_))
      go_ret
      exact ⟨ret_bool hv.out.symm, HB2.out⟩
end Go.Proofs.YtniimgbljhmcoaaDoor.opC
