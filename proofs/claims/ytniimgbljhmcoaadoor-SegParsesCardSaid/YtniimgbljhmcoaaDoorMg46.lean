/-
  6 texts of a proof, joined.
-/
import Derived.Test.YtniimgbljhmcoaaDoorMg29
import Derived.Test.YtniimgbljhmcoaaDoorMg22
import Derived.Test.YtniimgbljhmcoaaDoorMg18
import Derived.Test.YtniimgbljhmcoaaDoorMg31
import Derived.Test.YtniimgbljhmcoaaDoorMg34
import Derived.Test.YtniimgbljhmcoaaDoorMg35
import Derived.BigRegion
import Derived.Deep.CutRange
import Derived.StillTailTactics
import Derived.Test.YtniimgbljhmcoaaDoorMg45
import Derived.Test.YtniimgbljhmcoaaDoorMg28

/-
  The pseudo header, and the check sum of a load with it: the document's.
-/
namespace Go.Proofs.YtniimgbljhmcoaaDoor.sgC
open Go.ChangeShapes Go.WideShapes Go.ChangeAt Go.RowKit
open Go.Proofs.YtniimgbljhmcoaaDoor.memC Go.Proofs.YtniimgbljhmcoaaDoor.genC Go.Proofs.YtniimgbljhmcoaaDoor.butC Go.Proofs.YtniimgbljhmcoaaDoor.freeC Go.Proofs.YtniimgbljhmcoaaDoor.adC
open Go.Proofs.YtniimgbljhmcoaaDoor.chkC (CatRet PartAt)
set_option linter.unusedVariables false
/-- a row of bytes as it grows, twice -/
def psR (B : Nat) (vv : Value) (X0 X1 X2 : List Int) : Nat → (Nat → Value) → World → Prop
  | 0, us, w => us 7 = vv ∧ B ≤ w.heap.size ∧ Own .u8 5 w B vv X0
  | 1, us, w => B ≤ w.heap.size ∧ Own .u8 5 w B (us 3) X1
  | 2, us, w => B ≤ w.heap.size ∧ Own .u8 5 w B (us 6) X2
  | 3, us, w => B ≤ w.heap.size ∧ Own .u8 5 w B (us 7) X2
  | _, _, _ => True
theorem psR.keep (B : Nat) (vv : Value) (X0 X1 X2 : List Int) (k : Nat) (us us' : Nat → Value) (w w' : World) (h : ∀ x ∈ [3, 6, 7], us' x = us x) (hb : Below w.heap.size w w') (hR : psR B vv X0 X1 X2 k us w) : psR B vv X0 X1 X2 k us' w' := by
  have h4 := h 3 (by simp); have h8 := h 6 (by simp); have h9 := h 7 (by simp)
  have hz := hb.size
  unfold psR at hR ⊢
  split at hR
  · exact ⟨h9.trans hR.1, Nat.le_trans hR.2.1 hz, hR.2.2.below hb⟩
  · rw [h4]; exact ⟨Nat.le_trans hR.1 hz, hR.2.below hb⟩
  · rw [h8]; exact ⟨Nat.le_trans hR.1 hz, hR.2.below hb⟩
  · rw [h9]; exact ⟨Nat.le_trans hR.1 hz, hR.2.below hb⟩
  · trivial
theorem belowBS {B : Nat} {w w' : World} (h : Below B w w') : Below B w w' ∧ Below 0 w w' := ⟨h, h.mono (Nat.zero_le _)⟩
def psV (vv : Value) (g1 g2 B : Nat) : Nat → Value → World → Prop
  | 0, v, _ => v = vv
  | 1, v, _ => v = .pointer (some ⟨g1, 1, none⟩)
  | 2, v, _ => v = .slice (some ⟨g1, 1, none⟩) 16 16
  | 4, v, _ => v = .pointer (some ⟨g2, 1, none⟩)
  | 5, v, _ => v = .slice (some ⟨g2, 1, none⟩) 16 16
  | _, _, _ => True
theorem psV.keep (vv : Value) (g1 g2 B : Nat) (i : Nat) (v : Value) (w w' : World) (hd : Below w.heap.size w w' ∨ Below B w w') (h : psV vv g1 g2 B i v w) : psV vv g1 g2 B i v w' := by
  unfold psV at h ⊢
  split at h <;> exact h
def psT : List (Option Nat) := [none, none, none, none, none, none, none, none, none, some 7, none, none, none, none, none, none, none, none, none, some 0, some 1, some 2, some 3, some 4, some 5, some 6, none, none, none, none, none, none, none, none, none, none, none, none, none, none, none, none, none, none, none, none, none, none, none, none, none, none, none, none, none, none, none]
def pfV (vv : Value) (g1 g2 B : Nat) : Nat → Value → World → Prop
  | 0, v, _ => v = vv
  | 1, v, _ => v = .pointer (some ⟨g1, 1, none⟩)
  | 2, v, _ => v = .slice (some ⟨g1, 1, none⟩) 4 16
  | 4, v, _ => v = .pointer (some ⟨g2, 1, none⟩)
  | 5, v, _ => v = .slice (some ⟨g2, 1, none⟩) 4 16
  | _, _, _ => True
theorem pfV.keep (vv : Value) (g1 g2 B : Nat) (i : Nat) (v : Value) (w w' : World) (hd : Below w.heap.size w w' ∨ Below B w w') (h : pfV vv g1 g2 B i v w) : pfV vv g1 g2 B i v w' := by
  unfold pfV at h ⊢
  split at h <;> exact h
def pfT : List (Option Nat) := [none, none, none, none, none, none, none, none, none, some 7, none, none, none, none, none, none, none, none, none, none, none, none, none, none, none, none, none, none, none, none, none, none, none, none, none, none, none, none, none, none, none, some 0, some 1, some 2, some 3, some 4, some 5, some 6, none, none, none, none, none, none, none, none, none]
set_option maxRecDepth 100000 in
set_option maxHeartbeats 4000000 in
theorem rpse_six (C1 C2 : Array Value) (s1 s2 : Bool) (b1 b2 : List Int) (p n : Int) (w : World) (h1 : chkC.AddrC C1 s1 b1) (h2 : chkC.AddrC C2 s2 b2) (hs : (s1 || s2) = true) (p0 : 0 ≤ p) (p1 : p ≤ 255) (n0 : 0 ≤ n) (n1 : n ≤ 10000) :
    Calls Tryd.prog 48 #[.agg C1, .agg C2, .int .u8 p, .int .i64 n] w (CatRet w (b1 ++ (b2 ++ [n / 16777216, n / 65536, n / 256, n % 256, 0, 0, 0, p])) 40) := by
  obtain ⟨i0, hi0, hz0, hz1, hz2⟩ := info_parts byte_inf
  have I1 := Lib.hid hi0; have I2 := Lib.hid hz0; have I3 := Lib.hid hz1; have I4 := Lib.hid hz2
  obtain ⟨W0, hW0⟩ : ∃ W, W = w.alloc (.cells C1 24) := ⟨_, rfl⟩
  obtain ⟨W, hW⟩ : ∃ W, W = W0.alloc (.cells C2 24) := ⟨_, rfl⟩
  have z0 : W0.heap.size = w.heap.size + 1 := by rw [hW0, alloc_size]
  have z1 : W.heap.size = w.heap.size + 2 := by rw [hW, alloc_size, z0]
  have B0 : Below w.heap.size w W0 := by rw [hW0]; exact alloc_below _ _
  have B1 : Below W0.heap.size W0 W := by rw [hW]; exact alloc_below _ _
  have HB := Lib.hid (show Below w.heap.size w W from B0.trans (B1.mono (by omega)))
  have r1 : W.heap[w.heap.size]? = some (.cells C1 24 (0, 0)) := by rw [B1.block _ (by omega), hW0]; exact heap_alloc_new _ _
  have r2 : W.heap[w.heap.size + 1]? = some (.cells C2 24 (0, 0)) := by rw [hW, ← z0]; exact heap_alloc_new _ _
  have k1 := pkC.PkC.cell r1 h1.six
  have k2 := pkC.PkC.cell r2 h2.six
  have M1 : Nums .u8 W W.heap.size (some ⟨w.heap.size, 1, none⟩) 16 b1 := ⟨h1.len, fun _ => ⟨_, 1, rfl, by omega, fun i hi => pkC.PkC.cell r1 (h1.at_ i hi)⟩⟩
  have M2 : Nums .u8 W W.heap.size (some ⟨w.heap.size + 1, 1, none⟩) 16 b2 := ⟨h2.len, fun _ => ⟨_, 1, rfl, by omega, fun i hi => pkC.PkC.cell r2 (h2.at_ i hi)⟩⟩
  have V1 := M1
  have V2 := M2
  obtain ⟨Y1, hY1⟩ : ∃ Y, Y = b1 := ⟨_, rfl⟩
  obtain ⟨Y2, hY2⟩ : ∃ Y, Y = b2 := ⟨_, rfl⟩
  rw [← hY1] at V1
  rw [← hY2] at V2
  rw [← hY1, ← hY2]
  clear hY1 hY2
  have U1 := Lib.hid (show Nums .u8 W W.heap.size (some ⟨w.heap.size, 1, none⟩) 16 Y1 from V1)
  have U2 := Lib.hid (show Nums .u8 W W.heap.size (some ⟨w.heap.size + 1, 1, none⟩) 16 Y2 from V2)
  have L0 := Lib.hid (show ([] : List Int).length = 0 from rfl)
  obtain ⟨X1, hX1⟩ : ∃ X, X = [] ++ Y1 := ⟨_, rfl⟩
  obtain ⟨X2, hX2⟩ : ∃ X, X = X1 ++ Y2 := ⟨_, rfl⟩
  have L1 := Lib.hid (show X1.length = 16 by rw [hX1, List.nil_append]; exact V1.len)
  have L2 := Lib.hid (show X2.length = 32 by rw [hX2, List.length_append, L1.out, V2.len])
  have E9 := Lib.hid (show X2 ++ [n / 16777216, n / 65536, n / 256, n % 256, 0, 0, 0, p] = Y1 ++ (Y2 ++ [n / 16777216, n / 65536, n / 256, n % 256, 0, 0, 0, p]) by rw [hX2, hX1, List.nil_append, List.append_assoc])
  have E1 := Lib.hid hX1.symm
  have E2 := Lib.hid hX2.symm
  have HBB := HB
  have HBw := Lib.hid (show w.heap.size ≤ W.heap.size from HB.out.size)
  have HO0 := Lib.hid (show Own .u8 5 W W.heap.size (.slice none 0 0) ([] : List Int) from Own.nil _ _)
  have wn : IntKind.u32.wrap n = n := IntWalk.u32_in _ (by omega)
  clear V1 V2 M1 M2 hX1 hX2 h1 h2 r1 r2 B0 B1 z1 HB hi0 hz0 hz1 hz2
  obtain ⟨vv, hvv⟩ : ∃ v : Value, v = .slice none 0 0 := ⟨_, rfl⟩
  rw [← hvv] at HO0
  cases s1 <;> cases s2
  all_goals try (exfalso; cases hs; done)
  all_goals
    clear hs
    go_enter Tryd.func48, Tryd.ntmps48
    go_upto_region 1 with fail
    rw [← hW0, ← hW]
    try rw [z0]
    clear hW0 hW z0
    go_upto_region 4 with go_skip
    clear k1 k2
    rw [← hvv]
    clear hvv
    obtain ⟨B, hB⟩ : ∃ B, B = W.heap.size := ⟨_, rfl⟩
    have HB0 := Lib.hid (Nat.le_of_eq hB)
    rw [← hB] at U1 U2 HO0 HBw
    clear hB
    have N1 := Lib.hid (fun (w' : World) (h : Below B W w') => U1.out.below h)
    have N2 := Lib.hid (fun (w' : World) (h : Below B W w') => U2.out.below h)
    clear U1 U2
    refine with_act fun a0 ha0 => ?_
    have hl : psT.length = a0.tmps.size := by rw [ha0]; rfl
    have k4 : a0.tmps[4]?.getD undef = .pointer (some ⟨w.heap.size, 0, none⟩) := by rw [ha0]; rfl
    have k5 : a0.tmps[5]?.getD undef = .pointer (some ⟨w.heap.size + 1, 0, none⟩) := by rw [ha0]; rfl
    have k9 : a0.tmps[9]?.getD undef = vv := by rw [ha0]; rfl
    refine wp_region_che (by kernel_rfl) psT (by kernel_rfl) (by kernel_rfl) hl (fun i => if i = 7 then a0.tmps[9]?.getD undef else undef) (by rw [ha0]; rfl) (0) (Below B) [3, 6, 7] (by kernel_rfl) (by decide) (by decide) (fun w' => Below B W w' ∧ B ≤ w'.heap.size) (psV vv (w.heap.size) (w.heap.size + 1) B) (psR B vv [] X1 X2) (Nat.zero_le _) ⟨(Below.refl _ _).drew, HB0.out⟩ ⟨by rw [ha0]; rfl, HB0.out, HO0.out.keep fun _ _ _ => rfl⟩ (fun w1 w2 hb hd h => by rcases hd with hd | hd; exact ⟨h.1.trans (hd.mono h.2), Nat.le_trans h.2 hd.size⟩; exact ⟨h.1.trans hd, Nat.le_trans h.2 hd.size⟩) (fun i v w w' _ hd h => psV.keep _ _ _ _ i v w w' hd h) (fun k us us' w w' h _ hb hR => psR.keep _ _ _ _ _ k us us' w w' h hb hR) ⟨?_, ?_, ?_, ?_, ?_, ?_, ?_, ?_, trivial⟩ ?_
    · refine stepE_early 0 0 (.inl rfl) (.inr ⟨_, _, rfl, rfl, by kernel_rfl⟩) [] (by kernel_rfl) (by decide) (by decide) rfl fun us w' k hB hG hV hk hR => ?_
      have hq : us 7 = vv := by
        obtain ⟨h1, h2⟩ := hk
        match k, h1, h2, hR with
        | 0, _, _, hR => exact hR.1
      have o9 := (frame_at2 (us := us) hl (show (psT[9]?).join = some 7 from rfl)).trans hq
      generalize frame psT a0 us = fr at *
      exact val_C (v := vv) (w' := w') (by go_simp) (Below.refl _ _) rfl
    · refine stepE_val [] (by kernel_rfl) (by decide) (by decide) rfl fun us w' hB hG hV => ?_
      have o4 := (frame_old2 (us := us) (a := a0) (show (psT[4]?).join = none from rfl)).trans k4
      generalize frame psT a0 us = fr at *
      exact val_C (v := .pointer (some ⟨w.heap.size, 1, none⟩)) (w' := w') (by go_simp) (Below.refl _ _) rfl
    · refine stepE_val [1] (by kernel_rfl) (by decide) (by decide) rfl fun us w' hB hG hV => ?_
      have e1 : us 1 = .pointer (some ⟨w.heap.size, 1, none⟩) := hV 1 (by simp)
      have v1 := (frame_at2 (us := us) hl (show (psT[20]?).join = some 1 from rfl)).trans e1
      generalize frame psT a0 us = fr at *
      exact val_C (v := .slice (some ⟨w.heap.size, 1, none⟩) 16 16) (w' := w') (by go_simp) (Below.refl _ _) rfl
    · refine stepE_chain 0 rfl (by decide) [0, 2] (by kernel_rfl) (by decide) rfl fun us w' hB hG hV hR => ?_
      have e0 : us 0 = vv := hV 0 (by simp)
      have v0 := (frame_at2 (us := us) hl (show (psT[19]?).join = some 0 from rfl)).trans e0
      have e2 : us 2 = .slice (some ⟨w.heap.size, 1, none⟩) 16 16 := hV 2 (by simp)
      have v2 := (frame_at2 (us := us) hl (show (psT[21]?).join = some 2 from rfl)).trans e2
      generalize frame psT a0 us = fr at *
      obtain ⟨h7, hz, HO⟩ : us 7 = vv ∧ B ≤ w'.heap.size ∧ Own .u8 5 w' B vv [] := hR
      exact append_Jo (R := fun v w'' => (Below B w' w'' ∧ Below 0 w' w'') ∧ psR B vv [] X1 X2 1 (upd us 3 v) w'') (.tmp 19) (.tmp 21) 32 rfl 5 i0 _ 1 Tryd.underlying32 I1.out I2.out I3.out I4.out rfl B _ [] (eval_tmp v0) HO B _ 16 16 Y1 (eval_tmp v2) (N1.out w' hG.1) (by rw [L0.out]; decide) (by rw [L0.out]; decide) hz 16 (by rw [L0.out]) fun A' c' w'' _ _ O' B' => ⟨belowBS B', Nat.le_trans hz B'.size, by rw [upd_same]; exact E1.out ▸ O'⟩
    · refine stepE_val [] (by kernel_rfl) (by decide) (by decide) rfl fun us w' hB hG hV => ?_
      have o5 := (frame_old2 (us := us) (a := a0) (show (psT[5]?).join = none from rfl)).trans k5
      generalize frame psT a0 us = fr at *
      exact val_C (v := .pointer (some ⟨w.heap.size + 1, 1, none⟩)) (w' := w') (by go_simp) (Below.refl _ _) rfl
    · refine stepE_val [4] (by kernel_rfl) (by decide) (by decide) rfl fun us w' hB hG hV => ?_
      have e4 : us 4 = .pointer (some ⟨w.heap.size + 1, 1, none⟩) := hV 4 (by simp)
      have v4 := (frame_at2 (us := us) hl (show (psT[23]?).join = some 4 from rfl)).trans e4
      generalize frame psT a0 us = fr at *
      exact val_C (v := .slice (some ⟨w.heap.size + 1, 1, none⟩) 16 16) (w' := w') (by go_simp) (Below.refl _ _) rfl
    · refine stepE_chain 1 rfl (by decide) [5] (by kernel_rfl) (by decide) rfl fun us w' hB hG hV hR => ?_
      have e5 : us 5 = .slice (some ⟨w.heap.size + 1, 1, none⟩) 16 16 := hV 5 (by simp)
      have v5 := (frame_at2 (us := us) hl (show (psT[24]?).join = some 5 from rfl)).trans e5
      have vc := frame_at2 (us := us) hl (show (psT[22]?).join = some 3 from rfl)
      generalize frame psT a0 us = fr at *
      exact append_Jo (R := fun v w'' => (Below B w' w'' ∧ Below 0 w' w'') ∧ psR B vv [] X1 X2 2 (upd us 6 v) w'') (.tmp 22) (.tmp 24) 32 rfl 5 i0 _ 1 Tryd.underlying32 I1.out I2.out I3.out I4.out rfl B _ X1 (eval_tmp vc) hR.2 B _ 16 16 Y2 (eval_tmp v5) (N2.out w' hG.1) (by rw [L1.out]; decide) (by rw [L1.out]; decide) hR.1 32 (by rw [L1.out]) fun A' c' w'' _ _ O' B' => ⟨belowBS B', Nat.le_trans hR.1 B'.size, by rw [upd_same]; exact E2.out ▸ O'⟩
    · refine stepE_chain 2 rfl (by decide) [] (by kernel_rfl) (by decide) rfl fun us w' hB hG hV hR => ?_
      have vc := frame_at2 (us := us) hl (show (psT[25]?).join = some 6 from rfl)
      generalize frame psT a0 us = fr at *
      exact val_J (R := fun v w'' => (Below B w' w'' ∧ Below 0 w' w'') ∧ psR B vv [] X1 X2 3 (upd us 7 v) w'') (v := us 6) (w' := w') (by go_simp) ⟨belowBS (Below.refl _ _), hR.1, by rw [upd_same]; exact hR.2⟩
    · intro us w2 hB hG hV hR
      subst ha0
      simp only [frame, psT, fill]
      have HR : Hid (Own .u8 5 w2 B (us 7) X2) := Lib.hid hR.2
      have HG := Lib.hid hG.1
      have S2 := Lib.hid (show B ≤ w2.heap.size from hG.2)
      clear hV hR hG hl k4 k5 k9 hB
      generalize us 7 = v9 at *
      have e1 : IntKind.u8.wrap (n / 16777216) = n / 16777216 := IntWalk.u8_in _ (by omega)
      have e2 : IntKind.u8.wrap (n / 65536) = n / 65536 := IntWalk.u8_in _ (by omega)
      have e3 : IntKind.u8.wrap (n / 256) = n / 256 := IntWalk.u8_in _ (by omega)
      have e4 : IntKind.u8.wrap n = n % 256 := IntKind.wrap_u8 n
      have n8 := Lib.hid (lit_nums .u8 w2 [n / 16777216, n / 65536, n / 256, n % 256, 0, 0, 0, p] 5 _ rfl 8 rfl)
      have O8 := Lib.hid (HR.out.alloc (.cells #[.int .u8 (n / 16777216), .int .u8 (n / 65536), .int .u8 (n / 256), .int .u8 (n % 256), .int .u8 0, .int .u8 0, .int .u8 0, .int .u8 p] 5))
      have NB := Lib.hid (alloc_below w2 (.cells #[.int .u8 (n / 16777216), .int .u8 (n / 65536), .int .u8 (n / 256), .int .u8 (n % 256), .int .u8 0, .int .u8 0, .int .u8 0, .int .u8 p] 5))
      have S8 := Lib.hid (show B ≤ (w2.alloc (.cells #[.int .u8 (n / 16777216), .int .u8 (n / 65536), .int .u8 (n / 256), .int .u8 (n % 256), .int .u8 0, .int .u8 0, .int .u8 0, .int .u8 p] 5)).heap.size from Nat.le_trans S2.out NB.out.size)
      go_wp2_with (first
        | (at_builtin; (refine wpList_app _ rfl (.tmp 26) (.tmp 39) _ rfl 5 i0 _ 1 Tryd.underlying32 I1.out I2.out I3.out I4.out rfl B v9 X2 rfl O8.out (w2.heap.size + 1) _ 8 8 [n / 16777216, n / 65536, n / 256, n % 256, 0, 0, 0, p] rfl n8.out (by rw [L2.out]; decide) (by rw [L2.out]; decide) S8.out ?_)
           intro v6 w6 O hg
           have BF := Lib.hid (show Below B w2 w6 from (NB.out.mono S2.out).grown hg S8.out fun q hq => (O8.out.blk q hq).1)
           obtain ⟨A6, c6, ev, g1, g2, -⟩ := O.form
           rw [show (X2 ++ [n / 16777216, n / 65536, n / 256, n % 256, 0, 0, 0, p]).length = 40 by rw [List.length_append, L2.out]; rfl] at ev g1
           subst ev
           have HO := Lib.hid O
           have HL := Lib.hid (And.intro g1 g2)
           clear O hg g1 g2))
      go_ret
      exact ⟨A6, c6, rfl, HL.out.1, HL.out.2, by rw [← E9.out]; exact HO.out.less HBw.out, HBB.out.trans ((HG.out.trans BF.out).mono HBw.out)⟩
set_option maxRecDepth 100000 in
set_option maxHeartbeats 4000000 in
theorem rpse_four (C1 C2 : Array Value) (s1 s2 : Bool) (b1 b2 : List Int) (p n : Int) (w : World) (h1 : chkC.AddrC C1 s1 b1) (h2 : chkC.AddrC C2 s2 b2) (hs : (s1 || s2) = false) (p0 : 0 ≤ p) (p1 : p ≤ 255) (n0 : 0 ≤ n) (n1 : n ≤ 10000) :
    Calls Tryd.prog 48 #[.agg C1, .agg C2, .int .u8 p, .int .i64 n] w (CatRet w (b1.take 4 ++ (b2.take 4 ++ [0, p, n / 256, n % 256])) 12) := by
  obtain ⟨i0, hi0, hz0, hz1, hz2⟩ := info_parts byte_inf
  have I1 := Lib.hid hi0; have I2 := Lib.hid hz0; have I3 := Lib.hid hz1; have I4 := Lib.hid hz2
  obtain ⟨W0, hW0⟩ : ∃ W, W = w.alloc (.cells C1 24) := ⟨_, rfl⟩
  obtain ⟨W, hW⟩ : ∃ W, W = W0.alloc (.cells C2 24) := ⟨_, rfl⟩
  have z0 : W0.heap.size = w.heap.size + 1 := by rw [hW0, alloc_size]
  have z1 : W.heap.size = w.heap.size + 2 := by rw [hW, alloc_size, z0]
  have B0 : Below w.heap.size w W0 := by rw [hW0]; exact alloc_below _ _
  have B1 : Below W0.heap.size W0 W := by rw [hW]; exact alloc_below _ _
  have HB := Lib.hid (show Below w.heap.size w W from B0.trans (B1.mono (by omega)))
  have r1 : W.heap[w.heap.size]? = some (.cells C1 24 (0, 0)) := by rw [B1.block _ (by omega), hW0]; exact heap_alloc_new _ _
  have r2 : W.heap[w.heap.size + 1]? = some (.cells C2 24 (0, 0)) := by rw [hW, ← z0]; exact heap_alloc_new _ _
  have k1 := pkC.PkC.cell r1 h1.six
  have k2 := pkC.PkC.cell r2 h2.six
  have M1 : Nums .u8 W W.heap.size (some ⟨w.heap.size, 1, none⟩) 16 b1 := ⟨h1.len, fun _ => ⟨_, 1, rfl, by omega, fun i hi => pkC.PkC.cell r1 (h1.at_ i hi)⟩⟩
  have M2 : Nums .u8 W W.heap.size (some ⟨w.heap.size + 1, 1, none⟩) 16 b2 := ⟨h2.len, fun _ => ⟨_, 1, rfl, by omega, fun i hi => pkC.PkC.cell r2 (h2.at_ i hi)⟩⟩
  have V1 := M1.upto (show 4 ≤ 16 by decide)
  have V2 := M2.upto (show 4 ≤ 16 by decide)
  generalize b1.take 4 = Y1 at *
  generalize b2.take 4 = Y2 at *
  have U1 := Lib.hid (show Nums .u8 W W.heap.size (some ⟨w.heap.size, 1, none⟩) 4 Y1 from V1)
  have U2 := Lib.hid (show Nums .u8 W W.heap.size (some ⟨w.heap.size + 1, 1, none⟩) 4 Y2 from V2)
  have L0 := Lib.hid (show ([] : List Int).length = 0 from rfl)
  obtain ⟨X1, hX1⟩ : ∃ X, X = [] ++ Y1 := ⟨_, rfl⟩
  obtain ⟨X2, hX2⟩ : ∃ X, X = X1 ++ Y2 := ⟨_, rfl⟩
  have L1 := Lib.hid (show X1.length = 4 by rw [hX1, List.nil_append]; exact V1.len)
  have L2 := Lib.hid (show X2.length = 8 by rw [hX2, List.length_append, L1.out, V2.len])
  have E9 := Lib.hid (show X2 ++ [0, p, n / 256, n % 256] = Y1 ++ (Y2 ++ [0, p, n / 256, n % 256]) by rw [hX2, hX1, List.nil_append, List.append_assoc])
  have E1 := Lib.hid hX1.symm
  have E2 := Lib.hid hX2.symm
  have HBB := HB
  have HBw := Lib.hid (show w.heap.size ≤ W.heap.size from HB.out.size)
  have HO0 := Lib.hid (show Own .u8 5 W W.heap.size (.slice none 0 0) ([] : List Int) from Own.nil _ _)
  have wn : IntKind.u32.wrap n = n := IntWalk.u32_in _ (by omega)
  clear V1 V2 M1 M2 hX1 hX2 h1 h2 r1 r2 B0 B1 z1 HB hi0 hz0 hz1 hz2
  obtain ⟨vv, hvv⟩ : ∃ v : Value, v = .slice none 0 0 := ⟨_, rfl⟩
  rw [← hvv] at HO0
  cases s1 <;> cases s2
  all_goals try (exfalso; cases hs; done)
  all_goals
    clear hs
    go_enter Tryd.func48, Tryd.ntmps48
    go_upto_region 1 with fail
    rw [← hW0, ← hW]
    try rw [z0]
    clear hW0 hW z0
    go_upto_region 6 with go_skip
    clear k1 k2
    rw [← hvv]
    clear hvv
    obtain ⟨B, hB⟩ : ∃ B, B = W.heap.size := ⟨_, rfl⟩
    have HB0 := Lib.hid (Nat.le_of_eq hB)
    rw [← hB] at U1 U2 HO0 HBw
    clear hB
    have N1 := Lib.hid (fun (w' : World) (h : Below B W w') => U1.out.below h)
    have N2 := Lib.hid (fun (w' : World) (h : Below B W w') => U2.out.below h)
    clear U1 U2
    refine with_act fun a0 ha0 => ?_
    have hl : pfT.length = a0.tmps.size := by rw [ha0]; rfl
    have k4 : a0.tmps[4]?.getD undef = .pointer (some ⟨w.heap.size, 0, none⟩) := by rw [ha0]; rfl
    have k5 : a0.tmps[5]?.getD undef = .pointer (some ⟨w.heap.size + 1, 0, none⟩) := by rw [ha0]; rfl
    have k9 : a0.tmps[9]?.getD undef = vv := by rw [ha0]; rfl
    refine wp_region_che (by kernel_rfl) pfT (by kernel_rfl) (by kernel_rfl) hl (fun i => if i = 7 then a0.tmps[9]?.getD undef else undef) (by rw [ha0]; rfl) (0) (Below B) [3, 6, 7] (by kernel_rfl) (by decide) (by decide) (fun w' => Below B W w' ∧ B ≤ w'.heap.size) (pfV vv (w.heap.size) (w.heap.size + 1) B) (psR B vv [] X1 X2) (Nat.zero_le _) ⟨(Below.refl _ _).drew, HB0.out⟩ ⟨by rw [ha0]; rfl, HB0.out, HO0.out.keep fun _ _ _ => rfl⟩ (fun w1 w2 hb hd h => by rcases hd with hd | hd; exact ⟨h.1.trans (hd.mono h.2), Nat.le_trans h.2 hd.size⟩; exact ⟨h.1.trans hd, Nat.le_trans h.2 hd.size⟩) (fun i v w w' _ hd h => pfV.keep _ _ _ _ i v w w' hd h) (fun k us us' w w' h _ hb hR => psR.keep _ _ _ _ _ k us us' w w' h hb hR) ⟨?_, ?_, ?_, ?_, ?_, ?_, ?_, ?_, trivial⟩ ?_
    · refine stepE_early 0 0 (.inl rfl) (.inr ⟨_, _, rfl, rfl, by kernel_rfl⟩) [] (by kernel_rfl) (by decide) (by decide) rfl fun us w' k hB hG hV hk hR => ?_
      have hq : us 7 = vv := by
        obtain ⟨h1, h2⟩ := hk
        match k, h1, h2, hR with
        | 0, _, _, hR => exact hR.1
      have o9 := (frame_at2 (us := us) hl (show (pfT[9]?).join = some 7 from rfl)).trans hq
      generalize frame pfT a0 us = fr at *
      exact val_C (v := vv) (w' := w') (by go_simp) (Below.refl _ _) rfl
    · refine stepE_val [] (by kernel_rfl) (by decide) (by decide) rfl fun us w' hB hG hV => ?_
      have o4 := (frame_old2 (us := us) (a := a0) (show (pfT[4]?).join = none from rfl)).trans k4
      generalize frame pfT a0 us = fr at *
      exact val_C (v := .pointer (some ⟨w.heap.size, 1, none⟩)) (w' := w') (by go_simp) (Below.refl _ _) rfl
    · refine stepE_val [1] (by kernel_rfl) (by decide) (by decide) rfl fun us w' hB hG hV => ?_
      have e1 : us 1 = .pointer (some ⟨w.heap.size, 1, none⟩) := hV 1 (by simp)
      have v1 := (frame_at2 (us := us) hl (show (pfT[42]?).join = some 1 from rfl)).trans e1
      generalize frame pfT a0 us = fr at *
      exact val_C (v := .slice (some ⟨w.heap.size, 1, none⟩) 4 16) (w' := w') (by go_simp) (Below.refl _ _) rfl
    · refine stepE_chain 0 rfl (by decide) [0, 2] (by kernel_rfl) (by decide) rfl fun us w' hB hG hV hR => ?_
      have e0 : us 0 = vv := hV 0 (by simp)
      have v0 := (frame_at2 (us := us) hl (show (pfT[41]?).join = some 0 from rfl)).trans e0
      have e2 : us 2 = .slice (some ⟨w.heap.size, 1, none⟩) 4 16 := hV 2 (by simp)
      have v2 := (frame_at2 (us := us) hl (show (pfT[43]?).join = some 2 from rfl)).trans e2
      generalize frame pfT a0 us = fr at *
      obtain ⟨h7, hz, HO⟩ : us 7 = vv ∧ B ≤ w'.heap.size ∧ Own .u8 5 w' B vv [] := hR
      exact append_Jo (R := fun v w'' => (Below B w' w'' ∧ Below 0 w' w'') ∧ psR B vv [] X1 X2 1 (upd us 3 v) w'') (.tmp 41) (.tmp 43) 32 rfl 5 i0 _ 1 Tryd.underlying32 I1.out I2.out I3.out I4.out rfl B _ [] (eval_tmp v0) HO B _ 4 16 Y1 (eval_tmp v2) (N1.out w' hG.1) (by rw [L0.out]; decide) (by rw [L0.out]; decide) hz 4 (by rw [L0.out]) fun A' c' w'' _ _ O' B' => ⟨belowBS B', Nat.le_trans hz B'.size, by rw [upd_same]; exact E1.out ▸ O'⟩
    · refine stepE_val [] (by kernel_rfl) (by decide) (by decide) rfl fun us w' hB hG hV => ?_
      have o5 := (frame_old2 (us := us) (a := a0) (show (pfT[5]?).join = none from rfl)).trans k5
      generalize frame pfT a0 us = fr at *
      exact val_C (v := .pointer (some ⟨w.heap.size + 1, 1, none⟩)) (w' := w') (by go_simp) (Below.refl _ _) rfl
    · refine stepE_val [4] (by kernel_rfl) (by decide) (by decide) rfl fun us w' hB hG hV => ?_
      have e4 : us 4 = .pointer (some ⟨w.heap.size + 1, 1, none⟩) := hV 4 (by simp)
      have v4 := (frame_at2 (us := us) hl (show (pfT[45]?).join = some 4 from rfl)).trans e4
      generalize frame pfT a0 us = fr at *
      exact val_C (v := .slice (some ⟨w.heap.size + 1, 1, none⟩) 4 16) (w' := w') (by go_simp) (Below.refl _ _) rfl
    · refine stepE_chain 1 rfl (by decide) [5] (by kernel_rfl) (by decide) rfl fun us w' hB hG hV hR => ?_
      have e5 : us 5 = .slice (some ⟨w.heap.size + 1, 1, none⟩) 4 16 := hV 5 (by simp)
      have v5 := (frame_at2 (us := us) hl (show (pfT[46]?).join = some 5 from rfl)).trans e5
      have vc := frame_at2 (us := us) hl (show (pfT[44]?).join = some 3 from rfl)
      generalize frame pfT a0 us = fr at *
      exact append_Jo (R := fun v w'' => (Below B w' w'' ∧ Below 0 w' w'') ∧ psR B vv [] X1 X2 2 (upd us 6 v) w'') (.tmp 44) (.tmp 46) 32 rfl 5 i0 _ 1 Tryd.underlying32 I1.out I2.out I3.out I4.out rfl B _ X1 (eval_tmp vc) hR.2 B _ 4 16 Y2 (eval_tmp v5) (N2.out w' hG.1) (by rw [L1.out]; decide) (by rw [L1.out]; decide) hR.1 8 (by rw [L1.out]) fun A' c' w'' _ _ O' B' => ⟨belowBS B', Nat.le_trans hR.1 B'.size, by rw [upd_same]; exact E2.out ▸ O'⟩
    · refine stepE_chain 2 rfl (by decide) [] (by kernel_rfl) (by decide) rfl fun us w' hB hG hV hR => ?_
      have vc := frame_at2 (us := us) hl (show (pfT[47]?).join = some 6 from rfl)
      generalize frame pfT a0 us = fr at *
      exact val_J (R := fun v w'' => (Below B w' w'' ∧ Below 0 w' w'') ∧ psR B vv [] X1 X2 3 (upd us 7 v) w'') (v := us 6) (w' := w') (by go_simp) ⟨belowBS (Below.refl _ _), hR.1, by rw [upd_same]; exact hR.2⟩
    · intro us w2 hB hG hV hR
      subst ha0
      simp only [frame, pfT, fill]
      have HR : Hid (Own .u8 5 w2 B (us 7) X2) := Lib.hid hR.2
      have HG := Lib.hid hG.1
      have S2 := Lib.hid (show B ≤ w2.heap.size from hG.2)
      clear hV hR hG hl k4 k5 k9 hB
      generalize us 7 = v9 at *
      have e1 : IntKind.u8.wrap (n / 16777216) = n / 16777216 := IntWalk.u8_in _ (by omega)
      have e2 : IntKind.u8.wrap (n / 65536) = n / 65536 := IntWalk.u8_in _ (by omega)
      have e3 : IntKind.u8.wrap (n / 256) = n / 256 := IntWalk.u8_in _ (by omega)
      have e4 : IntKind.u8.wrap n = n % 256 := IntKind.wrap_u8 n
      have n8 := Lib.hid (lit_nums .u8 w2 [0, p, n / 256, n % 256] 5 _ rfl 4 rfl)
      have O8 := Lib.hid (HR.out.alloc (.cells #[.int .u8 0, .int .u8 p, .int .u8 (n / 256), .int .u8 (n % 256)] 5))
      have NB := Lib.hid (alloc_below w2 (.cells #[.int .u8 0, .int .u8 p, .int .u8 (n / 256), .int .u8 (n % 256)] 5))
      have S8 := Lib.hid (show B ≤ (w2.alloc (.cells #[.int .u8 0, .int .u8 p, .int .u8 (n / 256), .int .u8 (n % 256)] 5)).heap.size from Nat.le_trans S2.out NB.out.size)
      go_wp2_with (first
        | (at_builtin; (refine wpList_app _ rfl (.tmp 48) (.tmp 55) _ rfl 5 i0 _ 1 Tryd.underlying32 I1.out I2.out I3.out I4.out rfl B v9 X2 rfl O8.out (w2.heap.size + 1) _ 4 4 [0, p, n / 256, n % 256] rfl n8.out (by rw [L2.out]; decide) (by rw [L2.out]; decide) S8.out ?_)
           intro v6 w6 O hg
           have BF := Lib.hid (show Below B w2 w6 from (NB.out.mono S2.out).grown hg S8.out fun q hq => (O8.out.blk q hq).1)
           obtain ⟨A6, c6, ev, g1, g2, -⟩ := O.form
           rw [show (X2 ++ [0, p, n / 256, n % 256]).length = 12 by rw [List.length_append, L2.out]; rfl] at ev g1
           subst ev
           have HO := Lib.hid O
           have HL := Lib.hid (And.intro g1 g2)
           clear O hg g1 g2))
      go_ret
      exact ⟨A6, c6, rfl, HL.out.1, HL.out.2, by rw [← E9.out]; exact HO.out.less HBw.out, HBB.out.trans ((HG.out.trans BF.out).mono HBw.out)⟩
theorem rpse_any {C1 C2 : Array Value} {s1 s2 : Bool} {b1 b2 : List Int} {p n : Int} (h1 : chkC.AddrC C1 s1 b1) (h2 : chkC.AddrC C2 s2 b2) (p0 : 0 ≤ p) (p1 : p ≤ 255) (n0 : 0 ≤ n) (n1 : n ≤ 10000) (w : World) :
    Calls Tryd.prog 48 #[.agg C1, .agg C2, .int .u8 p, .int .i64 n] w (CatRet w (pseL s1 s2 b1 b2 p n) (pseN s1 s2)) := by
  unfold pseL pseN
  by_cases hs : (s1 || s2) = true
  · rw [if_pos hs, if_pos hs]
    exact rpse_six C1 C2 s1 s2 b1 b2 p n w h1 h2 hs p0 p1 n0 n1
  · rw [if_neg hs, if_neg hs]
    exact rpse_four C1 C2 s1 s2 b1 b2 p n w h1 h2 (by simpa using hs) p0 p1 n0 n1
theorem rsum2_on {w w0 : World} {A A' : Option Addr} {n c n' c' : Nat} {bs bs' : List Int} {f : Int} (B : Below w.heap.size w w0) (h : PartAt w0 w0.heap.size ⟨A, n, c, bs⟩) (h' : PartAt w0 w0.heap.size ⟨A', n', c', bs'⟩) (hf : chkM.fo (chkM.wsum bs + chkM.wsum bs') = f) :
    Calls Tryd.prog 47 #[.slice (some ⟨w0.heap.size, 0, none⟩) 2 2] (w0.alloc (.cells #[.slice A n c, .slice A' n' c'] 32)) (chkC.NumRet w f) :=
  (chkC.sumref_any _ 2 2 _ _ (chkC.parts2 h h' 32) (by decide) rfl).mono fun e w' ⟨he, hw⟩ =>
    ⟨by rw [he]; exact chkC.ret_int (by rw [← hf]; exact congrArg chkM.fo (by simp [chkC.numsOf, chkM.psum])), by rw [← hw]; exact B.trans ((alloc_below w0 _).mono B.size)⟩
set_option maxRecDepth 100000 in
set_option maxHeartbeats 1000000 in
theorem rload_any (cs1 cs2 : Array Value) (p : Int) (A : Option Addr) (n c N : Nat) (T bs : List Int) (f : Int) (w : World) (z1 : cs1.size = 17) (z2 : cs2.size = 17) (hN : N ≤ 100) (hT : ∀ x ∈ T, Byte x)
    (hP : ∀ w, Calls Tryd.prog 48 #[.agg cs1, .agg cs2, .int .u8 p, .int .i64 n] w (CatRet w T N)) (hb : PartAt w w.heap.size ⟨A, n, c, bs⟩) (hf : f = 65535 - chkM.fo (chkM.wsum T + chkM.wsum bs)) :
    Calls Tryd.prog 34 #[.agg cs1, .agg cs2, .int .u8 p, .slice A n c] w (chkC.NumRet w f) := by
  have g1 := heap_alloc2_old w (.cells cs1 24) (.cells cs2 24)
  have g2 := heap_alloc2_new w (.cells cs1 24) (.cells cs2 24)
  have u1 : (Tryd.prog.info? 24).map (·.size) = some cs1.size := by rw [z1]; exact chkC.addr_info
  have u2 : (Tryd.prog.info? 24).map (·.size) = some cs2.size := by rw [z2]; exact chkC.addr_info
  have BW : Below w.heap.size w ((w.alloc (.cells cs1 24)).alloc (.cells cs2 24)) := ((Below.refl _ _).alloc (Nat.le_refl _) _).alloc (by simp) _
  have hn := hb.few
  simp only at hn
  have G1 := Lib.hid g1; have G2 := Lib.hid g2; have U1 := Lib.hid u1; have U2 := Lib.hid u2
  have PP := Lib.hid hP
  obtain ⟨q, hq⟩ : ∃ q, q = chkM.fo (chkM.wsum T + chkM.wsum bs) := ⟨_, rfl⟩
  have fb := chkM.fo_bd (chkM.wsum T + chkM.wsum bs)
  rw [← hq] at fb hf
  have HQ := Lib.hid hq.symm
  obtain ⟨fb0, fb1⟩ := fb
  have n1 := chkC.not16 fb0 fb1
  have HF := Lib.hid hf
  clear g1 g2 u1 u2 z1 z2 hf hP hq
  go_enter Tryd.func34, Tryd.ntmps34
  go_wp2_with (first
    | (refine wpList_load_row rfl 24 (.tmp 4) rfl w.heap.size rfl _ cs1 _ _ G1.out Tryd.underlying24 rfl U1.out ?_)
    | (refine wpList_load_row rfl 24 (.tmp 5) rfl (w.heap.size + 1) rfl _ cs2 _ _ G2.out Tryd.underlying24 rfl U2.out ?_)
    | (go_at_call 48; (refine (PP.out _).mono ?_)
       rintro e w3 ⟨A3, c3, rfl, g1, g2, O3, B3⟩
       have B4 : Below w.heap.size w w3 := BW.trans (B3.mono BW.size)
       have P3 : PartAt w3 w3.heap.size ⟨A3, N, c3, T⟩ := ⟨O3.nums, by show N ≤ 10000; omega, hT⟩)
    | (go_at_call 47; ((with_reducible refine (rsum2_on B4 P3 (hb.past B4) HQ.out).mono ?_); rintro e w5 ⟨rfl, B5⟩)))
  go_ret
  exact ⟨chkC.ret_int HF.out.symm, B5⟩
end Go.Proofs.YtniimgbljhmcoaaDoor.sgC

/-
  A segment is laid, parsed, and answered.
-/
namespace Go.Proofs.YtniimgbljhmcoaaDoor.sgC
open Go.ChangeShapes Go.WideShapes Go.ChangeAt Go.RowKit
open Go.Proofs.YtniimgbljhmcoaaDoor.memC Go.Proofs.YtniimgbljhmcoaaDoor.genC Go.Proofs.YtniimgbljhmcoaaDoor.butC Go.Proofs.YtniimgbljhmcoaaDoor.freeC Go.Proofs.YtniimgbljhmcoaaDoor.adC
open Go.Proofs.YtniimgbljhmcoaaDoor.opC (Kd Prs zOpt zOpt_ok U32 at_build OwnP)
open Go.Proofs.YtniimgbljhmcoaaDoor.pkC (OwnE)
set_option linter.unusedVariables false
def zAdr : Array Value := #[.bool false, .int .u8 0, .int .u8 0, .int .u8 0, .int .u8 0, .int .u8 0, .int .u8 0, .int .u8 0, .int .u8 0, .int .u8 0, .int .u8 0, .int .u8 0, .int .u8 0, .int .u8 0, .int .u8 0, .int .u8 0, .int .u8 0]
theorem zAdr_ok : chkC.AddrC zAdr false (List.replicate 16 0) := by
  refine ⟨rfl, rfl, rfl, fun i hi => ?_, fun x hx => ?_⟩
  · match i, hi with
    | 0, _ | 1, _ | 2, _ | 3, _ | 4, _ | 5, _ | 6, _ | 7, _ => rfl
    | 8, _ | 9, _ | 10, _ | 11, _ | 12, _ | 13, _ | 14, _ | 15, _ => rfl
    | i + 16, h => exact absurd h (by omega)
  · rw [List.eq_of_mem_replicate hx]; exact ⟨by decide, by decide⟩
theorem zAdr_built : Tryd.prog.built 24 [] = some zAdr := by kernel_rfl
/-- the segment that is tried -/
def kS : Sg := ⟨1, 2, 5, 0, 2, 0, 0, zOpt⟩
def kA : Sg := ⟨2, 1, 0, 6, 20, 0, 0, zOpt⟩
theorem kS_ok : kS.Ok := ⟨by unfold U16 kS; decide, by unfold U16 kS; decide, by unfold U32 kS; decide, by unfold U32 kS; decide, by unfold Byte kS; decide, by unfold U16 kS; decide, by unfold U16 kS; decide, zOpt_ok⟩
theorem kS_may : mayS kS 0 = true := by decide
theorem kS_rst : rstP kS 0 = (kA, true) := by
  unfold rstP
  rw [if_neg (by decide), if_neg (by decide)]
  rfl
theorem kS_built : Tryd.prog.built 34 [(0, .int .u16 1), (1, .int .u16 2), (2, .int .u32 5), (4, .int .u8 2)] = some (segV kS none 0 0 none 0 0) := by kernel_rfl
set_option maxRecDepth 100000 in
set_option maxHeartbeats 8000000 in
theorem alive_any (w : World) (hk : Kd w) : Calls Tryd.prog 10 #[] w (Ret w (.bool true)) := by
  have hzv := zeroSeg
  obtain ⟨CS, hCS⟩ : ∃ C, C = segV kS none 0 0 none 0 0 := ⟨_, rfl⟩
  obtain ⟨CA, hCA⟩ : ∃ C, C = segV kA none 0 0 none 0 0 := ⟨_, rfl⟩
  obtain ⟨ZS, hZS⟩ : ∃ C, C = segV zSg none 0 0 none 0 0 := ⟨_, rfl⟩
  obtain ⟨ZA, hZA⟩ : ∃ C, C = zAdr := ⟨_, rfl⟩
  have BS := Lib.hid kS_built
  have BA := Lib.hid zAdr_built
  rw [← hCS] at BS
  rw [← hZA] at BA
  simp only [← hZS] at hzv
  have IS := Lib.hid (show (Tryd.prog.info? 34).map (·.size) = some CS.size by rw [hCS]; exact (segC zOpt_ok.lm none 0 0 none 0 0 (s := kS)).info)
  have SS := Lib.hid (show ZS.size = CS.size by rw [hCS, hZS]; exact seg_size (s := zSg) (s' := kS) zOpt_ok.lm zOpt_ok.lm none none 0 0 0 0 none none 0 0 0 0)
  have OS := Lib.hid (show CS.all (·.oneCell') = true by rw [hCS]; exact seg_one kS none 0 0 none 0 0)
  have IA := Lib.hid (show (Tryd.prog.info? 34).map (·.size) = some CA.size by rw [hCA]; exact (segC zOpt_ok.lm none 0 0 none 0 0 (s := kA)).info)
  have SA := Lib.hid (show ZS.size = CA.size by rw [hCA, hZS]; exact seg_size (s := zSg) (s' := kA) zOpt_ok.lm zOpt_ok.lm none none 0 0 0 0 none none 0 0 0 0)
  have OA := Lib.hid (show CA.all (·.oneCell') = true by rw [hCA]; exact seg_one kA none 0 0 none 0 0)
  have IX := Lib.hid (fun (A : Option Addr) (n c : Nat) (B : Option Addr) (m d : Nat) => (segC zOpt_ok.lm A n c B m d (s := kS)).info)
  have SX := Lib.hid (fun (A : Option Addr) (n c : Nat) (B : Option Addr) (m d : Nat) => (show ZS.size = (segV kS A n c B m d).size by rw [hZS]; exact seg_size (s := zSg) (s' := kS) zOpt_ok.lm zOpt_ok.lm none A 0 0 n c none B 0 0 m d))
  have OX := Lib.hid (fun (A : Option Addr) (n c : Nat) (B : Option Addr) (m d : Nat) => seg_one kS A n c B m d)
  have LD := laid zAdr_ok zAdr_ok kS_ok (xs := []) kS_may (by simp) (by simp)
  obtain ⟨LL, hLL⟩ : ∃ L, L = laysL false false (List.replicate 16 0) (List.replicate 16 0) kS [] := ⟨_, rfl⟩
  rw [← hLL] at LD
  have KK := Lib.hid (fun (w' : World) (h : Below w.heap.size w w') => hk.bel h)
  have LC := Lib.hid (fun (w' : World) (h : Kd w') => (show Calls Tryd.prog 11 #[.agg ZA, .agg ZA, .agg CS] w' (OwnE w' LL 0) by
    have h1 := clay_any zAdr zAdr false false (List.replicate 16 0) (List.replicate 16 0) kS none 0 0 none 0 0 [] w' zAdr_ok zAdr_ok h kS_ok rfl Prs.none_ (by decide) (Nums.none_ 0) (by simp) (fun _ => by decide)
    rw [← hLL, show laysE kS 0 = 0 by unfold laysE; rw [if_pos kS_may]] at h1
    rw [hZA, hCS]
    exact h1))
  have PC := Lib.hid (fun (w' : World) (h : Kd w') (A : Option Addr) (n c : Nat) (hb : Nums .u8 w' w'.heap.size A n LL) => (show Calls Tryd.prog 21 #[.agg ZA, .agg ZA, .slice A n c] w' (PsS w' (0, kS, [])) by
    have hl := hb.len
    have h1 := cparse_any zAdr zAdr false false (List.replicate 16 0) (List.replicate 16 0) A n c LL w' zAdr_ok zAdr_ok h hb LD.2.2.2.2 (by have := LD.2.2.2.1; simp at this; omega)
    rw [LD.2.2.1] at h1
    rw [hZA]
    exact h1))
  have RC := Lib.hid (fun (A : Option Addr) (n c : Nat) (B : Option Addr) (d : Nat) (w' : World) => (show Calls Tryd.prog 23 #[.agg (segV kS A n c B 0 d)] w' (fun e w'' => e = .returned (.tuple #[.agg CA, .bool true]) ∧ Below w'.heap.size w' w'') by
    have h1 := crst_any kS A n c B 0 d w' zOpt_ok.lm kS_ok.fl (by decide)
    unfold RstR at h1
    rw [kS_rst, ← hCA] at h1
    exact h1))
  have SC := Lib.hid (fun (A : Option Addr) (c : Nat) (B : Option Addr) (d : Nat) (w' : World) => (show Calls Tryd.prog 17 #[.agg CS, .agg (segV kS A 0 c B 0 d)] w' (Ret w' (.bool true)) by
    have h1 := csame_any kS kS none A 0 0 0 c none B 0 0 0 d [] [] w' zOpt_ok.lm zOpt_ok.lm Prs.none_ Prs.none_ (by decide) (by decide) (Nums.none_ 0) ⟨rfl, fun h => absurd h (Nat.lt_irrefl 0)⟩ (by simp) (by simp)
    rw [sameS_self] at h1
    rw [hCS]
    exact h1))
  have NC := Lib.hid (fun (w' : World) => (show Calls Tryd.prog 15 #[.agg CS] w' (Ret w' (.int .u32 1)) by
    have h1 := clen_any kS none 0 0 none 0 0 w' zOpt_ok.lm kS_ok.fl (by decide)
    rw [show lenN kS.fl 0 = 1 by decide] at h1
    rw [hCS]
    exact h1))
  have KF := Lib.hid (fun (w' : World) (g : Nat) (h : w'.heap[g]? = some (.cells CA 34 (0, 0))) => (show w'.cell? ⟨g, 4, none⟩ = some (.int .u8 20) from pkC.PkC.cell h (by rw [hCA]; exact (segC zOpt_ok.lm none 0 0 none 0 0 (s := kA)).fl)))
  have KQ := Lib.hid (fun (w' : World) (g : Nat) (h : w'.heap[g]? = some (.cells CA 34 (0, 0))) => (show w'.cell? ⟨g, 3, none⟩ = some (.int .u32 6) from pkC.PkC.cell h (by rw [hCA]; exact (segC zOpt_ok.lm none 0 0 none 0 0 (s := kA)).ak)))
  clear hCS hCA hZS hZA hLL LD hk
  go_enter Tryd.func10, Tryd.ntmps10
  go_upto_region 2 with (first
    | (with_reducible refine at_build 34 ?_; refine wpList_runG (by kernel_rfl) _ (built_runS (T := 34) (L := [(0, .int .u16 1), (1, .int .u16 2), (2, .int .u32 5), (4, .int .u8 2)]) rfl rfl BS.out) ?_)
    | (refine wpList_store_row rfl 34 (.tmp 1) (.tmp 8) rfl w.heap.size CS rfl rfl _ _ (heap_alloc_new _ _) IS.out SS.out OS.out ?_; rw [World.setRow_alloc_new]))
  have R1 := Lib.hid (heap_alloc_new w (.cells CS 34))
  have B1 := Lib.hid (alloc_below w (.cells CS 34))
  have z1 := Lib.hid (alloc_size w (.cells CS 34))
  generalize w.alloc (.cells CS 34) = w1 at *
  go_upto_region 3 with (first
    | (with_reducible refine at_build 24 ?_; refine wpList_runG (by kernel_rfl) _ (built_run (T := 24) rfl BA.out) ?_)
    | (refine wpList_load_row rfl 34 (.tmp 1) rfl w.heap.size rfl _ _ _ _ R1.out Tryd.underlying34 rfl IS.out ?_)
    | (go_at_call 11; (refine (LC.out w1 (KK.out _ B1.out)).mono ?_); rintro e w2 ⟨A2, n2, c2, rfl, O2, B2⟩
       have HO2 := Lib.hid O2
       have HB2 := Lib.hid (B1.out.trans (B2.mono B1.out.size))
       have R2 := Lib.hid (show w2.heap[w.heap.size]? = some (.cells CS 34 (0, 0)) from (B2.block _ (by rw [z1.out]; omega)).trans R1.out)
       clear O2 B2))
  clear R1 B1 LC BS SS OS z1
  go_upto_region 4 with (first
    | (with_reducible refine at_build 24 ?_; refine wpList_runG (by kernel_rfl) _ (built_run (T := 24) rfl BA.out) ?_)
    | (go_at_call 21; (refine (PC.out w2 (KK.out _ HB2.out) A2 n2 c2 HO2.out.nums).mono ?_); rintro e w3 ⟨A3, n3, c3, B3, m3, d3, rfl, hn3, OP3, OX3, BB⟩
       obtain rfl : n3 = 0 := hn3.symm
       obtain rfl : m3 = 0 := OX3.len.symm
       have HB3 := Lib.hid (HB2.out.trans (BB.mono HB2.out.size))
       have R3 := Lib.hid (show w3.heap[w.heap.size]? = some (.cells CS 34 (0, 0)) from (BB.block _ (opC.lt_of_row R2.out)).trans R2.out)
       clear OP3 OX3 BB hn3)
    | (refine wpList_store_row rfl 34 (.tmp 4) (.tmp 21) rfl w3.heap.size _ rfl rfl _ _ (heap_alloc_new _ _) (IX.out A3 0 c3 B3 0 d3) (SX.out A3 0 c3 B3 0 d3) (OX.out A3 0 c3 B3 0 d3) ?_; rw [World.setRow_alloc_new]))
  have IY := Lib.hid (IX.out A3 0 c3 B3 0 d3)
  have RD := Lib.hid (RC.out A3 0 c3 B3 d3)
  have SD := Lib.hid (SC.out A3 c3 B3 d3)
  clear HO2 R2 PC HB2 IX SX OX RC SC
  generalize segV kS A3 0 c3 B3 0 d3 = CX at *
  have X3 := Lib.hid (heap_alloc_new w3 (.cells CX 34))
  have B3' := Lib.hid (alloc_below w3 (.cells CX 34))
  have HB4 := Lib.hid (HB3.out.trans (B3'.out.mono HB3.out.size))
  have R4 := Lib.hid (show (w3.alloc (.cells CX 34)).heap[w.heap.size]? = some (.cells CS 34 (0, 0)) from (B3'.out.block _ (opC.lt_of_row R3.out)).trans R3.out)
  clear R3 HB3 B3'
  generalize w3.alloc (.cells CX 34) = v3 at *
  generalize w3.heap.size = gx at *
  go_upto_region 5 with (first
    | (refine wpList_load_row rfl 34 (.tmp 4) rfl gx rfl _ _ _ _ X3.out Tryd.underlying34 rfl IY.out ?_)
    | (go_at_call 23; (refine (RD.out v3).mono ?_); rintro e w5 ⟨rfl, BB⟩
       have HB5 := Lib.hid (HB4.out.trans (BB.mono HB4.out.size))
       have R5 := Lib.hid (show w5.heap[w.heap.size]? = some (.cells CS 34 (0, 0)) from (BB.block _ (opC.lt_of_row R4.out)).trans R4.out)
       have X5 := Lib.hid (show w5.heap[gx]? = some (.cells CX 34 (0, 0)) from (BB.block _ (opC.lt_of_row X3.out)).trans X3.out)
       clear BB)
    | (refine wpList_store_row rfl 34 (.tmp 6) (.tmp 26) rfl w5.heap.size CA rfl rfl _ _ (heap_alloc_new _ _) IA.out SA.out OA.out ?_; rw [World.setRow_alloc_new]))
  have A6 := Lib.hid (heap_alloc_new w5 (.cells CA 34))
  have B6 := Lib.hid (alloc_below w5 (.cells CA 34))
  have HB6 := Lib.hid (HB5.out.trans (B6.out.mono HB5.out.size))
  have R6 := Lib.hid (show (w5.alloc (.cells CA 34)).heap[w.heap.size]? = some (.cells CS 34 (0, 0)) from (B6.out.block _ (opC.lt_of_row R5.out)).trans R5.out)
  have X6 := Lib.hid (show (w5.alloc (.cells CA 34)).heap[gx]? = some (.cells CX 34 (0, 0)) from (B6.out.block _ (opC.lt_of_row X5.out)).trans X5.out)
  clear HB4 R4 X3 HB5 R5 X5 B6 SA OA RD hzv
  generalize w5.alloc (.cells CA 34) = v5 at *
  generalize w5.heap.size = ga at *
  go_wp2_with (first
    | (refine wpList_load_rowG (by kernel_rfl) 34 (.tmp 1) rfl w.heap.size (by kernel_rfl) _ _ _ _ R6.out Tryd.underlying34 rfl IS.out ?_)
    | (refine wpList_load_rowG (by kernel_rfl) 34 (.tmp 4) rfl gx (by kernel_rfl) _ _ _ _ X6.out Tryd.underlying34 rfl IY.out ?_)
    | (go_at_call 17; (refine (SD.out v5).mono ?_); rintro e w7 ⟨rfl, BB⟩
       have HB7 := Lib.hid (HB6.out.trans (BB.mono HB6.out.size))
       have R7 := Lib.hid (show w7.heap[w.heap.size]? = some (.cells CS 34 (0, 0)) from (BB.block _ (opC.lt_of_row R6.out)).trans R6.out)
       have A7 := Lib.hid (show w7.heap[ga]? = some (.cells CA 34 (0, 0)) from (BB.block _ (opC.lt_of_row A6.out)).trans A6.out)
       have kf := KF.out w7 ga A7.out
       have kq := KQ.out w7 ga A7.out
       clear BB)
    | (refine wpList_load_rowG (by kernel_rfl) 34 (.tmp 1) rfl w.heap.size (by kernel_rfl) _ _ _ _ R7.out Tryd.underlying34 rfl IS.out ?_)
    | (go_at_call 15; (refine (NC.out _).mono ?_); rintro e w8 ⟨rfl, BB⟩
       have HB8 := Lib.hid (HB7.out.trans (BB.mono HB7.out.size))
       clear BB))
  go_ret
  exact ⟨rfl, HB8.out⟩
end Go.Proofs.YtniimgbljhmcoaaDoor.sgC

/-
  How two addresses that came in are opened; the third statement's walk, whole.
-/
namespace Go.Proofs.YtniimgbljhmcoaaDoor.chkC
open Go.ChangeShapes Go.WideShapes Go.ChangeAt Go.RowKit
open Go.Proofs.YtniimgbljhmcoaaDoor.memC Go.Proofs.YtniimgbljhmcoaaDoor.chkM
set_option linter.unusedVariables false
section
variable {P : Program} {w : World} {r : Reach} {b0 : Nat} {t : TypeId}
theorem cell_u8 {ti : TypeId} {v : Value} (hi : P.underlying ti = some (.int .u8)) (h : Cell.okWide P w r b0 ti v) : ∃ z, v = .int .u8 z ∧ Byte z := by
  unfold Cell.okWide at h
  rw [hi] at h
  unfold Cell.ok at h
  rw [hi] at h
  cases v <;> simp at h
  obtain ⟨rfl, h1, h2⟩ := h
  exact ⟨_, rfl, by simpa [IntKind.min, IntKind.max, IntKind.signed, IntKind.bits] using h1, by simpa [IntKind.min, IntKind.max, IntKind.signed, IntKind.bits] using h2⟩
theorem cell_bool {tb : TypeId} {v : Value} (hb : P.underlying tb = some .bool) (h : Cell.okWide P w r b0 tb v) : ∃ s, v = .bool s := by
  unfold Cell.okWide at h
  rw [hb] at h
  unfold Cell.ok at h
  rw [hb] at h
  cases v <;> simp at h
  exact ⟨_, rfl⟩
/-- the number in a cell -/
def numOf : Option Value → Int
  | some (Value.int _ z) => z
  | _ => 0
/-- seventeen cells of which the first is a Bool, the others bytes -/
theorem addr_of {l : List Value} (hl : l.length = 17) (h0 : ∃ s, l[0]? = some (.bool s)) (h1 : ∀ i, i < 16 → ∃ z, l[1 + i]? = some (.int .u8 z) ∧ Byte z) : ∃ s bs, AddrC l.toArray s bs := by
  obtain ⟨s, hs⟩ := h0
  refine ⟨s, (List.range 16).map fun i => numOf l[1 + i]?, ⟨by simpa using hl, by simpa using hs, by simp, fun i hi => ?_, fun x hx => ?_⟩⟩
  · obtain ⟨z, hz, _⟩ := h1 i hi
    rw [List.getD_eq_getElem?_getD]
    simp [hi, hz, numOf]
  · obtain ⟨i, hi, rfl⟩ := List.mem_map.1 hx
    obtain ⟨z, hz, hb⟩ := h1 i (List.mem_range.1 hi)
    rw [hz]; exact hb
theorem open_two {e tb ti : TypeId} {v : Value} (ht : P.underlying t = some (.array 2 e)) (hc : P.cellsOf t = 34) (hts : P.cellTypes P.depth t = some ((tb :: List.replicate 16 ti) ++ (tb :: List.replicate 16 ti)))
    (hb : P.underlying tb = some .bool) (hi : P.underlying ti = some (.int .u8)) (hval : Value.okWide P w r b0 t v) :
    ∃ (l1 l2 : List Value) (s1 s2 : Bool) (b1 b2 : List Int), v = .agg (l1 ++ l2).toArray ∧ l1.length = 17 ∧ l2.length = 17 ∧ AddrC l1.toArray s1 b1 ∧ AddrC l2.toArray s2 b2 := by
  obtain ⟨cs, rfl, hsz, ts, hts', _, hcell⟩ : ∃ cs, v = .agg cs ∧ cs.size = P.cellsOf t ∧ Row.okWide P w r b0 t cs := by
    simpa [Value.okWide, ht] using hval
  obtain ⟨l⟩ := cs
  rw [hc] at hsz
  have hl : l.length = 34 := by simpa using hsz
  rw [hts] at hts'
  obtain rfl := Option.some.inj hts'
  have key : ∀ i, i < 34 → ∃ v u, l[i]? = some v ∧ ((tb :: List.replicate 16 ti) ++ (tb :: List.replicate 16 ti))[i]? = some u ∧ Cell.okWide P w r b0 u v := fun i hi34 => by
    have e : l[i]? = some (l[i]'(by omega)) := List.getElem?_eq_getElem _
    obtain ⟨u, h1, h2⟩ := hcell i (l[i]'(by omega)) (by rw [← e]; simp)
    refine ⟨_, u, e, ?_, h2⟩
    have : i % 34 = i := Nat.mod_eq_of_lt hi34
    simpa [this] using h1
  have kb : ∀ i, i = 0 ∨ i = 17 → ∃ s, l[i]? = some (.bool s) := fun i hi' => by
    obtain ⟨v, u, h1, h2, h3⟩ := key i (by omega)
    have : u = tb := by rcases hi' with rfl | rfl <;> simpa using h2.symm
    subst this
    obtain ⟨s, rfl⟩ := cell_bool hb h3
    exact ⟨s, h1⟩
  have ki : ∀ i, i < 16 → (∃ z, l[1 + i]? = some (.int .u8 z) ∧ Byte z) ∧ ∃ z, l[18 + i]? = some (.int .u8 z) ∧ Byte z := fun i hi' => by
    constructor
    · obtain ⟨v, u, h1, h2, h3⟩ := key (1 + i) (by omega)
      have : u = ti := by
        rw [List.getElem?_append_left (by simp; omega), Nat.add_comm, List.getElem?_cons_succ, List.getElem?_replicate, if_pos hi'] at h2
        exact (Option.some.inj h2).symm
      subst this
      obtain ⟨z, rfl, hz⟩ := cell_u8 hi h3
      exact ⟨z, h1, hz⟩
    · obtain ⟨v, u, h1, h2, h3⟩ := key (18 + i) (by omega)
      have : u = ti := by
        rw [List.getElem?_append_right (by simp; omega)] at h2
        have e : 18 + i - (tb :: List.replicate 16 ti).length = i + 1 := by simp; omega
        rw [e, List.getElem?_cons_succ, List.getElem?_replicate, if_pos hi'] at h2
        exact (Option.some.inj h2).symm
      subst this
      obtain ⟨z, rfl, hz⟩ := cell_u8 hi h3
      exact ⟨z, h1, hz⟩
  obtain ⟨s1, b1, A1⟩ := addr_of (l := l.take 17) (by simp; omega) (by obtain ⟨s, hs⟩ := kb 0 (.inl rfl); exact ⟨s, by simpa using hs⟩)
    (fun i hi' => by obtain ⟨z, hz, hy⟩ := (ki i hi').1; exact ⟨z, by rw [List.getElem?_take, if_pos (by omega)]; exact hz, hy⟩)
  obtain ⟨s2, b2, A2⟩ := addr_of (l := l.drop 17) (by simp; omega) (by obtain ⟨s, hs⟩ := kb 17 (.inr rfl); exact ⟨s, by simpa using hs⟩)
    (fun i hi' => by obtain ⟨z, hz, hy⟩ := (ki i hi').2; exact ⟨z, by rw [List.getElem?_drop, show 17 + (1 + i) = 18 + i by omega]; exact hz, hy⟩)
  exact ⟨l.take 17, l.drop 17, s1, s2, b1, b2, by rw [List.take_append_drop], by simp; omega, by simp; omega, A1, A2⟩
end
end Go.Proofs.YtniimgbljhmcoaaDoor.chkC

/-
  What errors give, and what is read is: of the program's.
-/
namespace Go.Proofs.YtniimgbljhmcoaaDoor.sgC
open Go.ChangeShapes Go.WideShapes Go.ChangeAt Go.RowKit
open Go.Proofs.YtniimgbljhmcoaaDoor.memC Go.Proofs.YtniimgbljhmcoaaDoor.genC Go.Proofs.YtniimgbljhmcoaaDoor.butC Go.Proofs.YtniimgbljhmcoaaDoor.freeC Go.Proofs.YtniimgbljhmcoaaDoor.adC
open Go.Proofs.YtniimgbljhmcoaaDoor.opC (Kd Prs zOpt zOpt_ok U32 at_build OwnP psE psO)
open Go.Proofs.YtniimgbljhmcoaaDoor.pkC (OwnE)
set_option linter.unusedVariables false
theorem two_row {w' : World} {g : Nat} {l1 l2 : List Value} (h1 : l1.length = 17) (hr : w'.heap[g]? = some (.cells (l1 ++ l2).toArray 25 (0, 0))) :
    (∀ j v, l1[j]? = some v → w'.cell? ⟨g, 0 + j, none⟩ = some v) ∧ (∀ j v, l2[j]? = some v → w'.cell? ⟨g, 17 + j, none⟩ = some v) := by
  refine ⟨fun j v h => ?_, fun j v h => ?_⟩
  · refine pkC.PkC.cell hr ?_
    have hj : j < l1.length := (List.getElem?_eq_some_iff.1 h).1
    simp only [Nat.zero_add, List.getElem?_toArray]
    rw [List.getElem?_append_left hj]; exact h
  · refine pkC.PkC.cell hr ?_
    simp only [List.getElem?_toArray]
    rw [List.getElem?_append_right (by omega), show 17 + j - l1.length = j by omega]; exact h
/-- what an error gives -/
theorem sgP_bad {gd : Bool} {bs : List Int} (h : (sgP gd bs).1 ≠ 0) : (sgP gd bs).2 = (zSg, []) := by
  unfold sgP at h ⊢
  by_cases c1 : bs.length < 20
  · rw [if_pos c1]
  rw [if_neg c1] at h ⊢
  by_cases c2 : sgN bs < 20
  · rw [if_pos c2]
  rw [if_neg c2] at h ⊢
  by_cases c3 : (bs.length : Int) < sgN bs
  · rw [if_pos c3]
  rw [if_neg c3] at h ⊢
  by_cases c4 : gd = false
  · rw [if_pos c4]
  rw [if_neg c4] at h ⊢
  by_cases c5 : psE (sgO bs) ≠ 0
  · rw [if_pos c5]
  rw [if_neg c5] at h ⊢
  by_cases c6 : mayS (sgR bs) (sgD bs).length = true
  · rw [if_pos c6] at h; exact absurd rfl h
  · rw [if_neg c6]
theorem sgP_good {gd : Bool} {bs : List Int} (hy : ∀ x ∈ bs, Byte x) (h : (sgP gd bs).1 = 0) : (sgP gd bs).2.1.Ok ∧ mayS (sgP gd bs).2.1 (sgP gd bs).2.2.length = true ∧ (∀ x ∈ (sgP gd bs).2.2, Byte x) ∧ (sgP gd bs).2.2.length ≤ bs.length := by
  have hd : ∀ x ∈ sgD bs, Byte x := fun x hx => hy x (by unfold sgD at hx; exact List.mem_of_mem_drop hx)
  have hl : (sgD bs).length ≤ bs.length := by unfold sgD; rw [List.length_drop]; omega
  have hr : ¬ bs.length < 20 → psE (sgO bs) = 0 → (sgR bs).Ok := fun h1 h2 => sgR_ok hy (by omega) h2
  unfold sgP at h ⊢
  by_cases c1 : bs.length < 20
  · rw [if_pos c1] at h; simp at h
  rw [if_neg c1] at h ⊢
  by_cases c2 : sgN bs < 20
  · rw [if_pos c2] at h; simp at h
  rw [if_neg c2] at h ⊢
  by_cases c3 : (bs.length : Int) < sgN bs
  · rw [if_pos c3] at h; simp at h
  rw [if_neg c3] at h ⊢
  by_cases c4 : gd = false
  · rw [if_pos c4] at h; simp at h
  rw [if_neg c4] at h ⊢
  by_cases c5 : psE (sgO bs) ≠ 0
  · rw [if_pos c5] at h; exact absurd h c5
  rw [if_neg c5] at h ⊢
  by_cases c6 : mayS (sgR bs) (sgD bs).length = true
  · rw [if_pos c6] at h ⊢
    exact ⟨hr c1 (Classical.byContradiction c5), c6, hd, hl⟩
  · rw [if_neg c6] at h; simp at h
end Go.Proofs.YtniimgbljhmcoaaDoor.sgC

/-
  The segment of bytes: the document's Parse.
-/
namespace Go.Proofs.YtniimgbljhmcoaaDoor.sgC
open Go.ChangeShapes Go.WideShapes Go.ChangeAt Go.RowKit
open Go.Proofs.YtniimgbljhmcoaaDoor.memC Go.Proofs.YtniimgbljhmcoaaDoor.genC Go.Proofs.YtniimgbljhmcoaaDoor.butC Go.Proofs.YtniimgbljhmcoaaDoor.freeC Go.Proofs.YtniimgbljhmcoaaDoor.adC
open Go.Proofs.YtniimgbljhmcoaaDoor.octC (getZ)
open Go.Proofs.YtniimgbljhmcoaaDoor.opC (Prs OwnP optL optV psE psO PsP zOpt zOpt_ok rget_ret pkCutAt sxNumsAt partN at_build)
set_option linter.unusedVariables false
/-- an own row stands where a row of another type is turned -/
theorem own_other {w : World} {base : Nat} {v : Value} {xs : List Int} {e U : TypeId} (h : Own .u8 e w base v xs) {g : Nat} {cs cs' : Array Value} (hr : w.heap[g]? = some (.cells cs U (0, 0))) (hU : U ≠ e) : Own .u8 e (w.setRow g cs') base v xs := by
  refine ⟨h.1, ?_⟩
  rcases h.2 with h0 | ⟨k, cap, cur, e1, hb, hh, h'⟩
  · exact .inl h0
  · refine .inr ⟨k, cap, cur, e1, hb, ?_, h'⟩
    have hne : k ≠ g := fun q => by
      subst q
      rw [hr] at hh
      injection hh with hh
      injection hh with _ hh _
      exact hU hh
    rw [setRow_other _ _ _ _ hne]; exact hh
theorem list24 {l : List Value} (h : l.length = 24) : ∃ l0 l1 l2 l3 l4 l5 l6 l7 l8 l9 l10 l11 l12 l13 l14 l15 l16 l17 l18 l19 l20 l21 l22 l23, l = [l0, l1, l2, l3, l4, l5, l6, l7, l8, l9, l10, l11, l12, l13, l14, l15, l16, l17, l18, l19, l20, l21, l22, l23] := by
  match l, h with
  | [l0, l1, l2, l3, l4, l5, l6, l7, l8, l9, l10, l11, l12, l13, l14, l15, l16, l17, l18, l19, l20, l21, l22, l23], _ => exact ⟨l0, l1, l2, l3, l4, l5, l6, l7, l8, l9, l10, l11, l12, l13, l14, l15, l16, l17, l18, l19, l20, l21, l22, l23, rfl⟩
theorem seg_built0 (a0 a1 a2 a3 a4 a5 a6 : Int) (l0 l1 l2 l3 l4 l5 l6 l7 l8 l9 l10 l11 l12 l13 l14 l15 l16 l17 l18 l19 l20 l21 l22 l23 : Value) (B : Option Addr) (m d : Nat) : Tryd.prog.built 34 [(0, .int .u16 a0), (1, .int .u16 a1), (2, .int .u32 a2), (3, .int .u32 a3), (4, .int .u8 a4), (5, .int .u16 a5), (6, .int .u16 a6), (7, .agg #[l0, l1, l2, l3, l4, l5, l6, l7, l8, l9, l10, l11, l12, l13, l14, l15, l16, l17, l18, l19, l20, l21, l22, l23]), (8, .slice B m d)] =
    some #[.int .u16 a0, .int .u16 a1, .int .u32 a2, .int .u32 a3, .int .u8 a4, .int .u16 a5, .int .u16 a6, l0, l1, l2, l3, l4, l5, l6, l7, l8, l9, l10, l11, l12, l13, l14, l15, l16, l17, l18, l19, l20, l21, l22, l23, .slice B m d] := by kernel_rfl
theorem seg_built (s : Sg) (A : Option Addr) (n c : Nat) (B : Option Addr) (m d : Nat) (hm : s.op.mac.length = 12) : Tryd.prog.built 34 [(0, .int .u16 s.sp), (1, .int .u16 s.dp), (2, .int .u32 s.sq), (3, .int .u32 s.ak), (4, .int .u8 s.fl), (5, .int .u16 s.wi), (6, .int .u16 s.ur), (7, .agg (optV s.op A n c)), (8, .slice B m d)] = some (segV s A n c B m d) := by
  obtain ⟨l0, l1, l2, l3, l4, l5, l6, l7, l8, l9, l10, l11, l12, l13, l14, l15, l16, l17, l18, l19, l20, l21, l22, l23, hL⟩ := list24 (optL_len hm A n c)
  have e1 : optV s.op A n c = (optL s.op A n c).toArray := rfl
  have e2 : segV s A n c B m d = (segH s ++ (optL s.op A n c ++ [Value.slice B m d])).toArray := rfl
  rw [e1, e2, hL]
  exact seg_built0 _ _ _ _ _ _ _ l0 l1 l2 l3 l4 l5 l6 l7 l8 l9 l10 l11 l12 l13 l14 l15 l16 l17 l18 l19 l20 l21 l22 l23 B m d
theorem built9_runS {P : Program} {fr : Act} {o : Oper} {w : World} {T : TypeId} {x0 x1 x2 x3 x4 x5 x6 x7 x8 : Operand} {v0 v1 v2 v3 v4 v5 v6 v7 v8 : Value} {C : Array Value} (ho : o.op = .build T #[(0, x0), (1, x1), (2, x2), (3, x3), (4, x4), (5, x5), (6, x6), (7, x7), (8, x8)])
    (h0 : fr.eval x0 = v0) (h1 : fr.eval x1 = v1) (h2 : fr.eval x2 = v2) (h3 : fr.eval x3 = v3) (h4 : fr.eval x4 = v4) (h5 : fr.eval x5 = v5) (h6 : fr.eval x6 = v6) (h7 : fr.eval x7 = v7) (h8 : fr.eval x8 = v8) (hb : P.built T [(0, v0), (1, v1), (2, v2), (3, v3), (4, v4), (5, v5), (6, v6), (7, v7), (8, v8)] = some C) :
    (execOp fr.eval o).run P w = .ok (.value (.agg C)) w := by
  unfold execOp
  have h : (Instr.build T #[(0, v0), (1, v1), (2, v2), (3, v3), (4, v4), (5, v5), (6, v6), (7, v7), (8, v8)]).run P w = .ok (.agg C) w := run_build w T _ C hb
  simp [ho, h0, h1, h2, h3, h4, h5, h6, h7, h8, h, Result.andThen_ok]
/-- the segment that is made -/
def pbR (Bq : Nat) (ZS : Array Value) (sR : Sg) (A5 : Option Addr) (n5 c5 mm : Nat) (XD : List Int) : Nat → (Nat → Value) → World → Prop
  | 0, _, _ => True
  | 1, us, w => ∃ g, us 34 = .pointer (some ⟨g, 0, none⟩) ∧ Bq ≤ g ∧ w.heap[g]? = some (.cells ZS 34 (0, 0))
  | 2, us, w => ∃ g B' d', us 34 = .pointer (some ⟨g, 0, none⟩) ∧ Bq ≤ g ∧ w.heap[g]? = some (.cells (segV sR A5 n5 c5 B' mm d') 34 (0, 0)) ∧ Own .u8 5 w Bq (.slice B' mm d') XD
  | _, _, _ => True
theorem pbR.keep (Bq : Nat) (ZS : Array Value) (sR : Sg) (A5 : Option Addr) (n5 c5 mm : Nat) (XD : List Int) (k : Nat) (us us' : Nat → Value) (w1 w2 : World) (h : ∀ x ∈ [34, 35], us' x = us x) (hb : Below w1.heap.size w1 w2) (hR : pbR Bq ZS sR A5 n5 c5 mm XD k us w1) : pbR Bq ZS sR A5 n5 c5 mm XD k us' w2 := by
  unfold pbR at hR ⊢
  split at hR
  · trivial
  · obtain ⟨g, h1, h2, h3⟩ := hR
    exact ⟨g, (h 34 (by simp)).trans h1, h2, by rw [hb.block _ (lt_of_row h3)]; exact h3⟩
  · obtain ⟨g, B', d', h1, h2, h3, h4⟩ := hR
    exact ⟨g, B', d', (h 34 (by simp)).trans h1, h2, by rw [hb.block _ (lt_of_row h3)]; exact h3, h4.below hb⟩
  · trivial
def SgD (Bq : Nat) (w1 w2 : World) : Prop := Below w1.heap.size w1 w2 ∨ ∃ g cs cs', w1.heap[g]? = some (.cells cs 34 (0, 0)) ∧ Bq ≤ g ∧ w2 = w1.setRow g cs'
def GrQ (B : Nat) (w0 w : World) : Prop := Below B w0 w ∧ B ≤ w.heap.size
theorem GrQ.row {B : Nat} {w0 w : World} (h : GrQ B w0 w) {g : Nat} {ob : Obj} (hg : g < B) (hr : w0.heap[g]? = some ob) : w.heap[g]? = some ob := by rw [h.1.block _ hg]; exact hr
theorem at_take {bs : List Int} {k s : Nat} (h : k + s ≤ 20) : at_ (bs.take 20) k s = getZ ((bs.drop k).take s) := by
  unfold at_
  rw [List.drop_take, List.take_take, show min s (20 - k) = s by omega]
theorem below_setRowP {w w1 : World} {b : Nat} (h : Below b w w1) {g : Nat} (hg : b ≤ g) (cs : Array Value) : Below b w (w1.setRow g cs) :=
  ⟨h.os, h.tape, h.output, by simpa using h.size, fun k hk => by rw [setRow_other _ _ _ _ (by omega)]; exact h.block k hk⟩
theorem GrQ.keep {B : Nat} {w0 w w' : World} (h : GrQ B w0 w) (hd : Below w.heap.size w w' ∨ SgD B w w') : GrQ B w0 w' := by
  rcases hd with hd | hd | ⟨g, cs, cs', hr, hg, rfl⟩
  · exact ⟨h.1.trans (hd.mono h.2), Nat.le_trans h.2 hd.size⟩
  · exact ⟨h.1.trans (hd.mono h.2), Nat.le_trans h.2 hd.size⟩
  · exact ⟨below_setRowP h.1 hg _, by simpa using h.2⟩
theorem pss_err {w wr : World} {gd : Bool} {bs : List Int} (hb : Below w.heap.size w wr) (er : Int) (h : sgP gd bs = (er, zSg, [])) (Z : Array Value) (hZ : Z = segV zSg none 0 0 none 0 0) :
    PsS w (sgP gd bs) (.returned (.tuple #[.agg Z, .int .i64 er])) (wr.setRow (w.heap.size + 2) Z) := by
  rw [h]
  exact ⟨none, 0, 0, none, 0, 0, by rw [hZ], rfl, OwnP.nil _ _, Own.nil _ _, below_setRowP hb (by omega) _⟩
def pbV (gb ob n0 c0 N : Nat) (x0 x1 x2 x3 x4 x5 x6 x13 : Int) (d2 d4 d8 d14 d18 : Nat) (BD : Option Addr) (mm dd : Nat) (CO : Array Value) (sR : Sg) (A5 : Option Addr) (n5 c5 : Nat) (XD : List Int) (base g9 Bq : Nat) : Nat → Value → World → Prop
  | 0, v, _ => v = .slice (some ⟨gb, ob, none⟩) n0 c0
  | 1, v, _ => v = .slice (some ⟨gb, ob, none⟩) 2 c0
  | 2, v, _ => v = .int .u64 x0
  | 3, v, _ => v = .int .u16 x0
  | 4, v, _ => v = .slice (some ⟨gb, ob, none⟩) n0 c0
  | 5, v, _ => v = .slice (some ⟨gb, ob + 2, none⟩) 2 d2
  | 6, v, _ => v = .int .u64 x1
  | 7, v, _ => v = .int .u16 x1
  | 8, v, _ => v = .slice (some ⟨gb, ob, none⟩) n0 c0
  | 9, v, _ => v = .slice (some ⟨gb, ob + 4, none⟩) 4 d4
  | 10, v, _ => v = .int .u64 x2
  | 11, v, _ => v = .int .u32 x2
  | 12, v, _ => v = .slice (some ⟨gb, ob, none⟩) n0 c0
  | 13, v, _ => v = .slice (some ⟨gb, ob + 8, none⟩) 4 d8
  | 14, v, _ => v = .int .u64 x3
  | 15, v, _ => v = .int .u32 x3
  | 16, v, _ => v = .slice (some ⟨gb, ob, none⟩) n0 c0
  | 17, v, _ => v = .pointer (some ⟨gb, ob + 13, none⟩)
  | 18, v, _ => v = .int .u8 x13
  | 19, v, _ => v = .int .u8 x4
  | 20, v, _ => v = .slice (some ⟨gb, ob, none⟩) n0 c0
  | 21, v, _ => v = .slice (some ⟨gb, ob + 14, none⟩) 2 d14
  | 22, v, _ => v = .int .u64 x5
  | 23, v, _ => v = .int .u16 x5
  | 24, v, _ => v = .slice (some ⟨gb, ob, none⟩) n0 c0
  | 25, v, _ => v = .slice (some ⟨gb, ob + 18, none⟩) 2 d18
  | 26, v, _ => v = .int .u64 x6
  | 27, v, _ => v = .int .u16 x6
  | 28, v, _ => v = .agg CO
  | 29, v, _ => v = .slice (some ⟨gb, ob, none⟩) n0 c0
  | 30, v, _ => v = .int .i64 (N : Int)
  | 31, v, _ => v = .slice BD mm dd
  | 32, v, wX => ∃ B' d', v = .slice B' mm d' ∧ Own .u8 5 wX base (.slice B' mm d') XD
  | 33, v, wX => ∃ B' d', v = .agg (segV sR A5 n5 c5 B' mm d') ∧ Own .u8 5 wX base (.slice B' mm d') XD
  | _, _, _ => True
theorem pbV.keep (gb ob n0 c0 N : Nat) (x0 x1 x2 x3 x4 x5 x6 x13 : Int) (d2 d4 d8 d14 d18 : Nat) (BD : Option Addr) (mm dd : Nat) (CO : Array Value) (sR : Sg) (A5 : Option Addr) (n5 c5 : Nat) (XD : List Int) (base g9 Bq : Nat) (i : Nat) (v : Value) (w w' : World) (hd : Below w.heap.size w w' ∨ SgD Bq w w') (h : pbV gb ob n0 c0 N x0 x1 x2 x3 x4 x5 x6 x13 d2 d4 d8 d14 d18 BD mm dd CO sR A5 n5 c5 XD base g9 Bq i v w) : pbV gb ob n0 c0 N x0 x1 x2 x3 x4 x5 x6 x13 d2 d4 d8 d14 d18 BD mm dd CO sR A5 n5 c5 XD base g9 Bq i v w' := by
  by_cases e32 : i = 32
  · subst e32
    obtain ⟨B', d', h1, h2⟩ := h
    rcases hd with hd | hd | ⟨g, cs, cs', hr, hg, rfl⟩
    · exact ⟨B', d', h1, h2.below hd⟩
    · exact ⟨B', d', h1, h2.below hd⟩
    · exact ⟨B', d', h1, own_other h2 hr (by decide)⟩
  by_cases e33 : i = 33
  · subst e33
    obtain ⟨B', d', h1, h2⟩ := h
    rcases hd with hd | hd | ⟨g, cs, cs', hr, hg, rfl⟩
    · exact ⟨B', d', h1, h2.below hd⟩
    · exact ⟨B', d', h1, h2.below hd⟩
    · exact ⟨B', d', h1, own_other h2 hr (by decide)⟩
  unfold pbV at h ⊢
  split at h <;> first | exact h | exact absurd rfl (by assumption)
def pbT : List (Option Nat) := [none, none, none, none, none, none, none, none, none, none, none, some 34, none, none, none, none, none, none, none, none, none, none, none, none, none, none, none, none, none, none, none, none, none, none, none, none, none, none, none, none, none, none, none, none, none, none, none, none, none, none, none, some 0, some 1, some 2, some 3, some 4, some 5, some 6, some 7, some 8, some 9, some 10, some 11, some 12, some 13, some 14, some 15, some 16, some 17, some 18, some 19, some 20, some 21, some 22, some 23, some 24, some 25, some 26, some 27, some 28, some 29, some 30, some 31, some 32, some 33, none, none, none, none, none]
set_option maxRecDepth 100000 in
set_option maxHeartbeats 8000000 in
theorem rparse_seg (C1 C2 : Array Value) (s1 s2 : Bool) (b1 b2 : List Int) (A0 : Option Addr) (n0 c0 : Nat) (bs : List Int) (w : World) (h1 : chkC.AddrC C1 s1 b1) (h2 : chkC.AddrC C2 s2 b2) (hb : Nums .u8 w w.heap.size A0 n0 bs) (hy : ∀ x ∈ bs, Byte x) (hn : n0 ≤ 9000) (hnc : n0 ≤ c0) (hcm : c0 ≤ 9223372036854775807) :
    Calls Tryd.prog 22 #[.agg C1, .agg C2, .slice A0 n0 c0] w (PsS w (sgP (goodG s1 s2 b1 b2 bs) bs)) := by
  have hzv := zeroSeg
  have hzo := opC.zeroOpt
  obtain ⟨i0, hi0, hz0, hz1, hz2⟩ := info_parts byte_inf
  have I1 := Lib.hid hi0; have I2 := Lib.hid hz0; have I3 := Lib.hid hz1; have I4 := Lib.hid hz2
  obtain ⟨ZS, hZS⟩ : ∃ Z, Z = segV zSg none 0 0 none 0 0 := ⟨_, rfl⟩
  have EZ := Lib.hid hZS
  have BZ := Lib.hid (show Tryd.prog.built 34 [] = some ZS by rw [hZS]; exact zSg_built)
  have IZ := Lib.hid (show (Tryd.prog.info? 34).map (·.size) = some ZS.size by rw [hZS]; exact (segC zOpt_ok.lm none 0 0 none 0 0).info)
  have OZ := Lib.hid (show ZS.all (·.oneCell') = true by rw [hZS]; exact seg_one zSg none 0 0 none 0 0)
  simp only [← hZS] at hzv
  obtain ⟨W0, hW0⟩ : ∃ W, W = w.alloc (.cells C1 24) := ⟨_, rfl⟩
  obtain ⟨W1, hW1⟩ : ∃ W, W = W0.alloc (.cells C2 24) := ⟨_, rfl⟩
  obtain ⟨W, hW⟩ : ∃ W, W = W1.alloc (.cells ZS 34) := ⟨_, rfl⟩
  have z0 : W0.heap.size = w.heap.size + 1 := by rw [hW0, alloc_size]
  have z1 : W1.heap.size = w.heap.size + 2 := by rw [hW1, alloc_size, z0]
  have z2 : W.heap.size = w.heap.size + 3 := by rw [hW, alloc_size, z1]
  have B0 : Below w.heap.size w W0 := by rw [hW0]; exact alloc_below _ _
  have B1 : Below W0.heap.size W0 W1 := by rw [hW1]; exact alloc_below _ _
  have B2 : Below W1.heap.size W1 W := by rw [hW]; exact alloc_below _ _
  have HB := Lib.hid (show Below w.heap.size w W from (B0.trans (B1.mono (by omega))).trans (B2.mono (by omega)))
  have R1 := Lib.hid (show W.heap[w.heap.size]? = some (.cells C1 24 (0, 0)) by rw [B2.block _ (by omega), B1.block _ (by omega), hW0]; exact heap_alloc_new _ _)
  have R2 := Lib.hid (show W.heap[w.heap.size + 1]? = some (.cells C2 24 (0, 0)) by rw [B2.block _ (by omega), hW1, ← z0]; exact heap_alloc_new _ _)
  have RES := Lib.hid (show W.heap[w.heap.size + 2]? = some (.cells ZS 34 (0, 0)) by rw [hW, ← z1]; exact heap_alloc_new _ _)
  have KRES := Lib.hid (fun (w' : World) (h : Below W.heap.size W w') => (show w'.heap[w.heap.size + 2]? = some (.cells ZS 34 (0, 0)) from (h.block _ (by omega)).trans RES.out))
  have SW := Lib.hid (show w.heap.size + 3 ≤ W.heap.size by omega)
  have FER := Lib.hid (fun (wr : World) (hb : Below W.heap.size W wr) (er : Int) (h : sgP (goodG s1 s2 b1 b2 bs) bs = (er, zSg, [])) => pss_err (HB.out.trans (hb.mono (by omega))) er h ZS EZ.out)
  have IC1 := Lib.hid (show (Tryd.prog.info? 24).map (·.size) = some C1.size by rw [h1.size]; exact addr_info)
  have IC2 := Lib.hid (show (Tryd.prog.info? 24).map (·.size) = some C2.size by rw [h2.size]; exact addr_info)
  have hlen := hb.len
  have HN0 := Lib.hid (fun (w' : World) (h : Below w.heap.size w w') => hb.below h)
  have HYB := Lib.hid hy
  have n9 : (n0 : Int) ≤ 9000 := by omega
  have HNC := Lib.hid hnc
  have HCM := Lib.hid hcm
  clear B0 B1 B2 z2 hi0 hz0 hz1 hz2 hZS
  by_cases h20 : n0 < 20
  · have q20 : (n0 : Int) < 20 := by omega
    have FE := Lib.hid (FER.out W (Below.refl _ _) 4 (by unfold sgP; rw [if_pos (by omega)]))
    clear FER h20 hlen hb hy hn hnc hcm h1 h2
    go_enter Tryd.func22, Tryd.ntmps22
    try simp only [List.append_eq, List.cons_append, List.nil_append]
    go_upto_region 1 with fail
    rw [← hW0, ← hW1, ← hW]
    try rw [z0]
    try rw [z1]
    clear hW0 hW1 hW z0 z1
    go_wp2_with (first
      | (refine adC.wpList_zero rfl 34 rfl ZS BZ.out ?_)
      | (refine wpList_store_row rfl 34 (.tmp 6) (.tmp 15) rfl (w.heap.size + 2) _ rfl rfl _ _ RES.out IZ.out rfl OZ.out ?_))
    refine bodyPost_ret (v := .tuple #[.agg ZS, .int .i64 4]) (adC.results_cell_tmp Tryd.results22 _ _ (w.heap.size + 2) _ _ _ _ _ (by rfl) (setRow_heap _ _ _ _ _ _ RES.out) Tryd.underlying34 rfl IZ.out (by rfl)) rfl ?_
    exact FE.out
  have q20 : ¬ (n0 : Int) < 20 := by omega
  have q20b : decide ((n0 : Int) < 20) = false := decide_eq_false q20
  obtain ⟨gb, ob, rfl⟩ := opC.some_at hb (by omega)
  have KC := Lib.hid (fun (i : Nat) (hi : i < n0) (w' : World) (h : Below w.heap.size w w') => (show w'.cell? ⟨gb, ob + i, none⟩ = some (.int .u8 (bs.getD i 0)) by
    obtain ⟨b2, o2, e, hlt, hc⟩ := (HN0.out w' h).at_ (by omega)
    cases e
    exact hc i hi))
  have c12 := KC.out 12 (by omega) W HB.out
  have y12 := opC.getD_byte0 hy 12
  unfold Byte at y12
  obtain ⟨u, hu⟩ : ∃ u : Nat, (u : Int) = bs.getD 12 0 / 16 := ⟨(bs.getD 12 0 / 16).toNat, by omega⟩
  obtain ⟨N, hN⟩ : ∃ N : Nat, N = 4 * u := ⟨_, rfl⟩
  have EN : sgN bs = (N : Int) := by
    have e1 : (bs.take 20).getD 12 0 = bs.getD 12 0 := by rw [List.getD_eq_getElem?_getD, List.getElem?_take_of_lt (by decide), ← List.getD_eq_getElem?_getD]
    unfold sgN hdN
    rw [e1, ← hu]; omega
  have l20 : ¬ bs.length < 20 := by omega
  have tu : (bs.getD 12 0).tdiv 16 = (u : Int) := by rw [Int.tdiv_eq_ediv_of_nonneg (by omega)]; exact hu.symm
  have wu : IntKind.u8.wrap (u : Int) = (u : Int) := IntWalk.u8_in _ (by omega)
  have wu2 : IntKind.i64.wrap (u : Int) = (u : Int) := IntWalk.i64_in _ (by omega)
  have eu : (u : Int) * 4 = (N : Int) := by omega
  have wN : IntKind.i64.wrap (N : Int) = (N : Int) := IntWalk.i64_in _ (by omega)
  have N60 : N ≤ 60 := by omega
  generalize bs.getD 12 0 = x12 at *
  have q12 : (12 : Int) < (n0 : Int) := by omega
  by_cases hN20 : N < 20
  · have qN : (N : Int) < 20 := by omega
    have FE := Lib.hid (FER.out W (Below.refl _ _) 3 (by unfold sgP; rw [if_neg l20, EN, if_pos (by omega)]))
    clear FER h20 hlen hN20 EN l20 hu hN KC hb hy hn hnc hcm h1 h2
    go_enter Tryd.func22, Tryd.ntmps22
    try simp only [List.append_eq, List.cons_append, List.nil_append]
    go_upto_region 1 with fail
    rw [← hW0, ← hW1, ← hW]
    try rw [z0]
    try rw [z1]
    clear hW0 hW1 hW z0 z1
    go_wp2_with (first
      | (refine adC.wpList_zero rfl 34 rfl ZS BZ.out ?_)
      | (refine wpList_store_row rfl 34 (.tmp 6) (.tmp 24) rfl (w.heap.size + 2) _ rfl rfl _ _ RES.out IZ.out rfl OZ.out ?_))
    refine bodyPost_ret (v := .tuple #[.agg ZS, .int .i64 3]) (adC.results_cell_tmp Tryd.results22 _ _ (w.heap.size + 2) _ _ _ _ _ (by rfl) (setRow_heap _ _ _ _ _ _ RES.out) Tryd.underlying34 rfl IZ.out (by rfl)) rfl ?_
    exact FE.out
  have qN : ¬ (N : Int) < 20 := by omega
  have qNb : decide ((N : Int) < 20) = false := decide_eq_false qN
  by_cases hnN : n0 < N
  · have qn : (n0 : Int) < (N : Int) := by omega
    have FE := Lib.hid (FER.out W (Below.refl _ _) 4 (by unfold sgP; rw [if_neg l20, EN, if_neg qN, if_pos (by omega)]))
    clear FER h20 hlen hN20 EN l20 hu hN KC hnN hb hy hn hnc hcm h1 h2
    go_enter Tryd.func22, Tryd.ntmps22
    try simp only [List.append_eq, List.cons_append, List.nil_append]
    go_upto_region 1 with fail
    rw [← hW0, ← hW1, ← hW]
    try rw [z0]
    try rw [z1]
    clear hW0 hW1 hW z0 z1
    go_wp2_with (first
      | (refine adC.wpList_zero rfl 34 rfl ZS BZ.out ?_)
      | (refine wpList_store_row rfl 34 (.tmp 6) (.tmp 29) rfl (w.heap.size + 2) _ rfl rfl _ _ RES.out IZ.out rfl OZ.out ?_))
    refine bodyPost_ret (v := .tuple #[.agg ZS, .int .i64 4]) (adC.results_cell_tmp Tryd.results22 _ _ (w.heap.size + 2) _ _ _ _ _ (by rfl) (setRow_heap _ _ _ _ _ _ RES.out) Tryd.underlying34 rfl IZ.out (by rfl)) rfl ?_
    exact FE.out
  have qn : ¬ (n0 : Int) < (N : Int) := by omega
  have qnb : decide ((n0 : Int) < (N : Int)) = false := decide_eq_false qn
  have qn2 : ¬ (bs.length : Int) < (N : Int) := by omega
  have PP := Lib.hid (fun (w' : World) => rpse_any h1 h2 (p := 6) (n := (n0 : Int)) (by decide) (by decide) (by omega) (by omega) w')
  have YP := Lib.hid (pse_byte h1 h2 (p := 6) (n := (n0 : Int)) (by decide) (by decide) (by omega) (by omega))
  have PB := Lib.hid (fun (w' : World) (h : Below W.heap.size W w') => (show chkC.PartAt w' w'.heap.size ⟨some ⟨gb, ob, none⟩, n0, c0, bs⟩ from ⟨(HN0.out w' (HB.out.trans (h.mono (by have := SW.out; omega)))).more (Nat.le_trans (by have := SW.out; omega) h.size), (show n0 ≤ 10000 by omega), HYB.out⟩))
  obtain ⟨PL, hPL⟩ : ∃ P, P = pseL s1 s2 b1 b2 6 (n0 : Int) := ⟨_, rfl⟩
  rw [← hPL] at PP YP
  unfold chkC.CatRet at PP
  obtain ⟨f, hf⟩ : ∃ f, f = sumG s1 s2 b1 b2 bs := ⟨_, rfl⟩
  have FS := Lib.hid (show chkM.fo (chkM.wsum PL + chkM.wsum bs) = f by rw [hf, hPL]; unfold sumG; rw [hlen])
  have hg : goodG s1 s2 b1 b2 bs = decide (f = 65535) := by unfold goodG; rw [← hf]
  by_cases hf9 : f = 65535
  rotate_left
  · have qf : (f != 65535) = true := by simp [hf9]
    have FE := Lib.hid (fun wr hb => FER.out wr hb 8 (by unfold sgP; rw [if_neg l20, EN, if_neg qN, if_neg qn2, if_pos (by rw [hg]; exact decide_eq_false hf9)]))
    clear FER h20 hlen hN20 EN l20 hu hN KC hnN hg hf hPL hf9 hb hy hn hnc hcm h1 h2
    go_enter Tryd.func22, Tryd.ntmps22
    try simp only [List.append_eq, List.cons_append, List.nil_append]
    go_upto_region 1 with fail
    rw [← hW0, ← hW1, ← hW]
    try rw [z0]
    try rw [z1]
    clear hW0 hW1 hW z0 z1
    go_wp2_with (first
      | (refine wpList_load_row rfl 24 (.tmp 3) rfl w.heap.size rfl _ C1 _ _ R1.out Tryd.underlying24 rfl IC1.out ?_)
      | (refine wpList_load_row rfl 24 (.tmp 4) rfl (w.heap.size + 1) rfl _ C2 _ _ R2.out Tryd.underlying24 rfl IC2.out ?_)
      | (go_at_call 48; (refine (PP.out _).mono ?_)
         rintro e w3 ⟨A3, c3, rfl, g1, g2, O3, B3⟩
         have B4 := Lib.hid B3
         have P3 := Lib.hid (show chkC.PartAt w3 w3.heap.size ⟨A3, pseN s1 s2, c3, PL⟩ from ⟨O3.nums, (show pseN s1 s2 ≤ 10000 from Nat.le_trans (pseN_le _ _) (by decide)), YP.out⟩)
         clear g1 g2 O3 B3)
      | (go_at_call 47; ((with_reducible refine (rsum2_on B4.out P3.out (PB.out w3 B4.out) FS.out).mono ?_); rintro e w5 ⟨rfl, BB⟩)
         have B5 := Lib.hid BB
         clear BB)
      | (refine adC.wpList_zero rfl 34 rfl ZS BZ.out ?_)
      | (refine wpList_store_row rfl 34 (.tmp 6) (.tmp 39) rfl (w.heap.size + 2) _ rfl rfl _ _ (KRES.out w5 B5.out) IZ.out rfl OZ.out ?_))
    refine bodyPost_ret (v := .tuple #[.agg ZS, .int .i64 8]) (adC.results_cell_tmp Tryd.results22 _ _ (w.heap.size + 2) _ _ _ _ _ (by rfl) (setRow_heap _ _ _ _ _ _ (KRES.out w5 B5.out)) Tryd.underlying34 rfl IZ.out (by rfl)) rfl ?_
    exact FE.out w5 B5.out
  have qf : (f != 65535) = false := by simp [hf9]
  rw [decide_eq_true hf9] at hg
  rw [hg] at FER ⊢
  obtain ⟨SB, hSB⟩ : ∃ q, q = sgO bs := ⟨_, rfl⟩
  obtain ⟨mo, hmo⟩ : ∃ q, q = N - 20 := ⟨_, rfl⟩
  have eSB : SB = (bs.drop 20).take mo := by rw [hSB, hmo]; unfold sgO; rw [EN]; rfl
  obtain ⟨BO, hBO⟩ : ∃ q, q = (if c0 = 20 then (some ⟨gb, ob, none⟩ : Option Addr) else (some ⟨gb, ob, none⟩ : Option Addr).map (·.add 20)) := ⟨_, rfl⟩
  obtain ⟨dO, hdO⟩ : ∃ q, q = c0 - 20 := ⟨_, rfl⟩
  have sco : ∀ w', (Instr.slice 32 (.slice (some ⟨gb, ob, none⟩) n0 c0) (some (.int .i64 20)) (some (.int .i64 (N : Int))) none).run Tryd.prog w' = .ok (.slice BO mo dO) w' := fun w' => by
    have h9 := pkC.cut_two (some ⟨gb, ob, none⟩) n0 c0 20 N (by omega) (by omega) w'
    rw [← hBO, ← hdO, ← hmo] at h9
    exact h9
  have YS : ∀ x ∈ SB, Byte x := fun x hx => hy x (by rw [eSB] at hx; exact List.mem_of_mem_drop (List.mem_of_mem_take hx))
  have PO := Lib.hid (fun (w' : World) (h : Below w.heap.size w w') => opC.rparse_opt BO mo dO SB w' (by
    have h9 := (partN ((HN0.out w' h).more h.size) (show 20 ≤ n0 by omega) hnc).upto (show mo ≤ n0 - 20 by omega)
    rw [← hBO, ← eSB] at h9
    exact h9) YS (by omega) (by omega) (by omega))
  unfold PsP at PO
  have PG := opC.ps_good YS
  have PM := Lib.hid (show (psO SB).mac.length = 12 by rcases PG with h | h; exact h.2.ok.lm; rw [h.2]; rfl)
  obtain ⟨er, her⟩ : ∃ e, e = psE SB := ⟨_, rfl⟩
  obtain ⟨oo, hoo⟩ : ∃ q, q = psO SB := ⟨_, rfl⟩
  rw [← her, ← hoo] at PG
  simp only [← her, ← hoo] at PO PM
  have IOX := Lib.hid (fun (A : Option Addr) (n c : Nat) => (opC.optC PM.out A n c).info)
  have SOX := Lib.hid (fun (A : Option Addr) (n c : Nat) => (opC.optC zOpt_ok.lm none 0 0).size.trans (opC.optC PM.out A n c).size.symm)
  have OOX := Lib.hid (fun (A : Option Addr) (n c : Nat) => opC.opt_one oo A n c)
  generalize hZO : optV zOpt none 0 0 = ZO at *
  clear hZO
  have hBW := Lib.hid (show w.heap.size ≤ W.heap.size by have := SW.out; omega)
  by_cases he : er = 0
  rotate_left
  · have qe : (er != 0) = true := by simp [he]
    have FE := Lib.hid (fun wr hb => FER.out wr hb er (by unfold sgP; rw [if_neg l20, EN, if_neg qN, if_neg qn2, if_neg (by decide), ← hSB, ← her, if_pos he]))
    clear FER h20 hlen hN20 EN l20 hu hN KC hnN hg hf hPL hf9 her hoo PG he YS hSB eSB hmo hBO hdO hb hy hn hnc hcm h1 h2
    go_enter Tryd.func22, Tryd.ntmps22
    try simp only [List.append_eq, List.cons_append, List.nil_append]
    go_upto_region 1 with fail
    rw [← hW0, ← hW1, ← hW]
    try rw [z0]
    try rw [z1]
    clear hW0 hW1 hW z0 z1
    go_upto_region 10 with (first
      | (refine wpList_load_row rfl 24 (.tmp 3) rfl w.heap.size rfl _ C1 _ _ R1.out Tryd.underlying24 rfl IC1.out ?_)
      | (refine wpList_load_row rfl 24 (.tmp 4) rfl (w.heap.size + 1) rfl _ C2 _ _ R2.out Tryd.underlying24 rfl IC2.out ?_)
      | (go_at_call 48; (refine (PP.out _).mono ?_)
         rintro e w3 ⟨A3, c3, rfl, g1, g2, O3, B3⟩
         have B4 := Lib.hid B3
         have P3 := Lib.hid (show chkC.PartAt w3 w3.heap.size ⟨A3, pseN s1 s2, c3, PL⟩ from ⟨O3.nums, (show pseN s1 s2 ≤ 10000 from Nat.le_trans (pseN_le _ _) (by decide)), YP.out⟩)
         clear g1 g2 O3 B3)
      | (go_at_call 47; ((with_reducible refine (rsum2_on B4.out P3.out (PB.out w3 B4.out) FS.out).mono ?_); rintro e w5 ⟨rfl, BB⟩)
         have B5 := Lib.hid BB
         clear BB))
    clear PP P3 FS
    have HB5 := Lib.hid (HB.out.trans (B5.out.mono hBW.out))
    go_upto_region 11 with (first
      | (go_at_call 49; (refine (PO.out w5 HB5.out).mono ?_); rintro e w6 ⟨A5, n5, c5, rfl, q1, q2, BB⟩
         have B6 := Lib.hid BB
         have HS5 := Lib.hid q1
         have O5 := Lib.hid q2
         clear q1 q2 BB)
      | (refine wpList_store_row rfl 31 (.tmp 9) (.tmp 45) rfl w6.heap.size _ rfl rfl _ _ (heap_alloc_new _ _) (IOX.out A5 n5 c5) (SOX.out A5 n5 c5) (OOX.out A5 n5 c5) ?_; rw [World.setRow_alloc_new]))
    have B7 := Lib.hid (alloc_below w6 (.cells (optV oo A5 n5 c5) 31))
    have R9 := Lib.hid (heap_alloc_new w6 (.cells (optV oo A5 n5 c5) 31))
    obtain ⟨Wr, hWr⟩ : ∃ q, q = w6.alloc (.cells (optV oo A5 n5 c5) 31) := ⟨_, rfl⟩
    rw [← hWr] at B7 R9 ⊢
    have BW5 := Lib.hid (show Below W.heap.size W w6 from B5.out.trans (B6.out.mono B5.out.size))
    have BW7 := Lib.hid (show Below W.heap.size W Wr from BW5.out.trans (B7.out.mono BW5.out.size))
    have G9L := Lib.hid (show w6.heap.size < Wr.heap.size by rw [hWr, alloc_size]; exact Nat.lt_succ_self _)
    clear hWr
    go_wp2_with (first
      | (refine adC.wpList_zero rfl 34 rfl ZS BZ.out ?_)
      | (refine wpList_store_row rfl 34 (.tmp 6) (.tmp 49) rfl (w.heap.size + 2) _ rfl rfl _ _ (KRES.out Wr BW7.out) IZ.out rfl OZ.out ?_))
    refine bodyPost_ret (v := .tuple #[.agg ZS, .int .i64 er]) (adC.results_cell_tmp Tryd.results22 _ _ (w.heap.size + 2) _ _ _ _ _ (by rfl) (setRow_heap _ _ _ _ _ _ (KRES.out Wr BW7.out)) Tryd.underlying34 rfl IZ.out (by rfl)) rfl ?_
    exact FE.out Wr BW7.out
  subst he
  have GO : opC.Good oo := by rcases PG with h | h; exact h.2; exact absurd rfl h.1
  have sOK : (sgR bs).Ok := sgR_ok hy (by omega) (by rw [← hSB]; exact her.symm)
  have e_op : (sgR bs).op = oo := by unfold sgR; rw [← hSB]; exact hoo.symm
  obtain ⟨mm, hmm⟩ : ∃ q, q = n0 - N := ⟨_, rfl⟩
  have eXD : sgD bs = bs.drop N := by unfold sgD; rw [EN]; rfl
  have lXD : (sgD bs).length = mm := by rw [eXD, List.length_drop, hlen, hmm]
  have FIN0 : sgP true bs = if mayS (sgR bs) mm = true then (0, sgR bs, sgD bs) else (3, zSg, []) := by
    unfold sgP
    rw [if_neg l20, EN, if_neg qN, if_neg qn2, if_neg (by decide), ← hSB, ← her, if_neg (by simp), lXD]
  have E0 : (sgR bs).sp = getZ ((bs.drop 0).take 2) := at_take (by decide)
  have E1 : (sgR bs).dp = getZ ((bs.drop 2).take 2) := at_take (by decide)
  have E2 : (sgR bs).sq = getZ ((bs.drop 4).take 4) := at_take (by decide)
  have E3 : (sgR bs).ak = getZ ((bs.drop 8).take 4) := at_take (by decide)
  have E5 : (sgR bs).wi = getZ ((bs.drop 14).take 2) := at_take (by decide)
  have E6 : (sgR bs).ur = getZ ((bs.drop 18).take 2) := at_take (by decide)
  have E4 : (sgR bs).fl = bs.getD 13 0 % 64 := by
    show (bs.take 20).getD 13 0 % 64 = _
    rw [List.getD_eq_getElem?_getD, List.getElem?_take_of_lt (by decide), ← List.getD_eq_getElem?_getD]
  have y13 := opC.getD_byte0 hy 13
  unfold Byte at y13
  have hsp := sOK.sp; have hdp := sOK.dp; have hsq := sOK.sq; have hak := sOK.ak; have hfl := sOK.fl; have hwi := sOK.wi; have hur := sOK.ur
  unfold U16 at hsp hdp hwi hur
  unfold opC.U32 at hsq hak
  unfold Byte at hfl
  have BLT := Lib.hid (fun (B : Option Addr) (d : Nat) (A5 : Option Addr) (n5 c5 : Nat) => seg_built (sgR bs) A5 n5 c5 B mm d sOK.op.lm)
  rw [e_op] at BLT
  obtain ⟨sR, hsR⟩ : ∃ q, q = sgR bs := ⟨_, rfl⟩
  rw [← hsR] at sOK FIN0 E0 E1 E2 E3 E4 E5 E6 hsp hdp hsq hak hfl hwi hur BLT e_op
  obtain ⟨XD, hXD⟩ : ∃ q, q = sgD bs := ⟨_, rfl⟩
  rw [← hXD] at FIN0 lXD eXD
  have W0 := Lib.hid (show IntKind.u16.wrap sR.sp = sR.sp from IntWalk.u16_in _ (by omega))
  have W1' := Lib.hid (show IntKind.u16.wrap sR.dp = sR.dp from IntWalk.u16_in _ (by omega))
  have W2 := Lib.hid (show IntKind.u32.wrap sR.sq = sR.sq from IntWalk.u32_in _ (by omega))
  have W3 := Lib.hid (show IntKind.u32.wrap sR.ak = sR.ak from IntWalk.u32_in _ (by omega))
  have W5 := Lib.hid (show IntKind.u16.wrap sR.wi = sR.wi from IntWalk.u16_in _ (by omega))
  have W6 := Lib.hid (show IntKind.u16.wrap sR.ur = sR.ur from IntWalk.u16_in _ (by omega))
  have W4 := Lib.hid (show IntKind.u8.wrap sR.fl = sR.fl from IntWalk.u8_in _ (by omega))
  have M4 := Lib.hid (show (bs.getD 13 0).tmod 64 = sR.fl by rw [Int.tmod_eq_emod_of_nonneg (by omega)]; exact E4.symm)
  have GX := Lib.hid (fun (k m d : Nat) (hk : k + m ≤ n0) (hm : m ≤ 8) (hd : m ≤ d) (hdm : d ≤ 9223372036854775807) (w' : World) (h : Below w.heap.size w w') => rget_ret w' (sxNumsAt ((HN0.out w' h).more h.size) k m hk) hm hd hdm (fun x hx => HYB.out x (List.mem_of_mem_drop (List.mem_of_mem_take hx))))
  have G0 := Lib.hid (fun (w' : World) (h : Below w.heap.size w w') => (show Calls Tryd.prog 50 #[.slice (some ⟨gb, ob, none⟩) 2 c0] w' (Ret w' (.int .u64 sR.sp)) by rw [E0]; exact GX.out 0 2 c0 (by omega) (by decide) (by omega) hcm w' h))
  have G2 := Lib.hid (fun (w' : World) (h : Below w.heap.size w w') => (show Calls Tryd.prog 50 #[.slice (some ⟨gb, ob + 2, none⟩) 2 (c0 - 2)] w' (Ret w' (.int .u64 sR.dp)) by rw [E1]; exact GX.out 2 2 (c0 - 2) (by omega) (by decide) (by omega) (by omega) w' h))
  have G4 := Lib.hid (fun (w' : World) (h : Below w.heap.size w w') => (show Calls Tryd.prog 50 #[.slice (some ⟨gb, ob + 4, none⟩) 4 (c0 - 4)] w' (Ret w' (.int .u64 sR.sq)) by rw [E2]; exact GX.out 4 4 (c0 - 4) (by omega) (by decide) (by omega) (by omega) w' h))
  have G8 := Lib.hid (fun (w' : World) (h : Below w.heap.size w w') => (show Calls Tryd.prog 50 #[.slice (some ⟨gb, ob + 8, none⟩) 4 (c0 - 8)] w' (Ret w' (.int .u64 sR.ak)) by rw [E3]; exact GX.out 8 4 (c0 - 8) (by omega) (by decide) (by omega) (by omega) w' h))
  have G14 := Lib.hid (fun (w' : World) (h : Below w.heap.size w w') => (show Calls Tryd.prog 50 #[.slice (some ⟨gb, ob + 14, none⟩) 2 (c0 - 14)] w' (Ret w' (.int .u64 sR.wi)) by rw [E5]; exact GX.out 14 2 (c0 - 14) (by omega) (by decide) (by omega) (by omega) w' h))
  have G18 := Lib.hid (fun (w' : World) (h : Below w.heap.size w w') => (show Calls Tryd.prog 50 #[.slice (some ⟨gb, ob + 18, none⟩) 2 (c0 - 18)] w' (Ret w' (.int .u64 sR.ur)) by rw [E6]; exact GX.out 18 2 (c0 - 18) (by omega) (by decide) (by omega) (by omega) w' h))
  have SC2 := Lib.hid (fun w' => (show (Instr.slice 32 (.slice (some ⟨gb, ob, none⟩) n0 c0) (some (.int .i64 2)) (some (.int .i64 4)) none).run Tryd.prog w' = .ok (.slice (some ⟨gb, ob + 2, none⟩) 2 (c0 - 2)) w' from pkCutAt gb ob n0 c0 2 4 2 (c0 - 2) (by omega) (by omega) (by omega) rfl rfl w'))
  have SC4 := Lib.hid (fun w' => (show (Instr.slice 32 (.slice (some ⟨gb, ob, none⟩) n0 c0) (some (.int .i64 4)) (some (.int .i64 8)) none).run Tryd.prog w' = .ok (.slice (some ⟨gb, ob + 4, none⟩) 4 (c0 - 4)) w' from pkCutAt gb ob n0 c0 4 8 4 (c0 - 4) (by omega) (by omega) (by omega) rfl rfl w'))
  have SC8 := Lib.hid (fun w' => (show (Instr.slice 32 (.slice (some ⟨gb, ob, none⟩) n0 c0) (some (.int .i64 8)) (some (.int .i64 12)) none).run Tryd.prog w' = .ok (.slice (some ⟨gb, ob + 8, none⟩) 4 (c0 - 8)) w' from pkCutAt gb ob n0 c0 8 12 4 (c0 - 8) (by omega) (by omega) (by omega) rfl rfl w'))
  have SC14 := Lib.hid (fun w' => (show (Instr.slice 32 (.slice (some ⟨gb, ob, none⟩) n0 c0) (some (.int .i64 14)) (some (.int .i64 16)) none).run Tryd.prog w' = .ok (.slice (some ⟨gb, ob + 14, none⟩) 2 (c0 - 14)) w' from pkCutAt gb ob n0 c0 14 16 2 (c0 - 14) (by omega) (by omega) (by omega) rfl rfl w'))
  have SC18 := Lib.hid (fun w' => (show (Instr.slice 32 (.slice (some ⟨gb, ob, none⟩) n0 c0) (some (.int .i64 18)) (some (.int .i64 20)) none).run Tryd.prog w' = .ok (.slice (some ⟨gb, ob + 18, none⟩) 2 (c0 - 18)) w' from pkCutAt gb ob n0 c0 18 20 2 (c0 - 18) (by omega) (by omega) (by omega) rfl rfl w'))
  obtain ⟨BD, hBD⟩ : ∃ q, q = (if c0 = N then (some ⟨gb, ob, none⟩ : Option Addr) else (some ⟨gb, ob, none⟩ : Option Addr).map (·.add N)) := ⟨_, rfl⟩
  obtain ⟨dd, hdd⟩ : ∃ q, q = c0 - N := ⟨_, rfl⟩
  have SCN := Lib.hid (fun w' => (show (Instr.slice 32 (.slice (some ⟨gb, ob, none⟩) n0 c0) (some (.int .i64 (N : Int))) none none).run Tryd.prog w' = .ok (.slice BD mm dd) w' by
    have h9 := pkC.cut_tail (some ⟨gb, ob, none⟩) n0 c0 N (by omega) hnc w'
    rw [← hBD, ← hdd, ← hmm] at h9
    exact h9))
  have NXD := Lib.hid (fun (w' : World) (h : Below w.heap.size w w') => (show Nums .u8 w' w'.heap.size BD mm XD by
    have h9 := partN ((HN0.out w' h).more h.size) (show N ≤ n0 by omega) hnc
    rw [← hBD, ← hmm, ← eXD] at h9
    exact h9))
  have K13 := Lib.hid (fun (w' : World) (h : Below w.heap.size w w') => KC.out 13 (by omega) w' h)
  have HD2 := Lib.hid (show (2 : Int) ≤ (c0 : Int) by omega)
  have L13 := Lib.hid (show (13 : Int) < (n0 : Int) by omega)
  have MM9 := Lib.hid (show mm ≤ 9000 by omega)
  have IX := Lib.hid (fun (A : Option Addr) (n c : Nat) (B : Option Addr) (m d : Nat) => (segC sOK.op.lm A n c B m d).info)
  have SX := Lib.hid (fun (A' : Option Addr) (n' c' : Nat) (B' : Option Addr) (m' d' : Nat) => (show ZS.size = (segV sR A' n' c' B' m' d').size by rw [EZ.out]; exact seg_size (s := zSg) (s' := sR) zOpt_ok.lm sOK.op.lm none A' 0 0 n' c' none B' 0 0 m' d'))
  have OX := Lib.hid (fun (A : Option Addr) (n c : Nat) (B : Option Addr) (m d : Nat) => seg_one sR A n c B m d)
  have HOK := Lib.hid sOK
  have HOP := Lib.hid e_op
  have GSK := Lib.hid (show oo.sk.length ≤ 4 from GO.sk)
  have HLX := Lib.hid lXD
  have YXD := Lib.hid (show ∀ x ∈ XD, Byte x from fun x hx => hy x (by rw [eXD] at hx; exact List.mem_of_mem_drop hx))
  obtain ⟨my, hmy⟩ : ∃ q, q = mayS sR mm := ⟨_, rfl⟩
  rw [← hmy] at FIN0
  have MYE := Lib.hid hmy
  have FINH := Lib.hid FIN0
  rw [FINH.out]
  have qe : ((0 : Int) != 0) = false := rfl
  generalize bs.getD 13 0 = x13 at *
  clear GX FIN0 hmy E0 E1 E2 E3 E4 E5 E6 hsp hdp hsq hak hfl hwi hur hsR hXD eXD lXD e_op sOK GO y13 hmm hBD hdd h20 hlen hN20 EN l20 hu hN KC hnN hg hf hPL hf9 her hoo PG YS hSB eSB hmo hBO hdO hb hy hn hnc hcm h1 h2
  go_enter Tryd.func22, Tryd.ntmps22
  try simp only [List.append_eq, List.cons_append, List.nil_append]
  go_upto_region 1 with fail
  rw [← hW0, ← hW1, ← hW]
  try rw [z0]
  try rw [z1]
  clear hW0 hW1 hW z0 z1
  go_upto_region 10 with (first
    | (refine wpList_load_row rfl 24 (.tmp 3) rfl w.heap.size rfl _ C1 _ _ R1.out Tryd.underlying24 rfl IC1.out ?_)
    | (refine wpList_load_row rfl 24 (.tmp 4) rfl (w.heap.size + 1) rfl _ C2 _ _ R2.out Tryd.underlying24 rfl IC2.out ?_)
    | (go_at_call 48; (refine (PP.out _).mono ?_)
       rintro e w3 ⟨A3, c3, rfl, g1, g2, O3, B3⟩
       have B4 := Lib.hid B3
       have P3 := Lib.hid (show chkC.PartAt w3 w3.heap.size ⟨A3, pseN s1 s2, c3, PL⟩ from ⟨O3.nums, (show pseN s1 s2 ≤ 10000 from Nat.le_trans (pseN_le _ _) (by decide)), YP.out⟩)
       clear g1 g2 O3 B3)
    | (go_at_call 47; ((with_reducible refine (rsum2_on B4.out P3.out (PB.out w3 B4.out) FS.out).mono ?_); rintro e w5 ⟨rfl, BB⟩)
       have B5 := Lib.hid BB
       clear BB))
  clear PP P3 FS
  have HB5 := Lib.hid (HB.out.trans (B5.out.mono hBW.out))
  go_upto_region 11 with (first
    | (go_at_call 49; (refine (PO.out w5 HB5.out).mono ?_); rintro e w6 ⟨A5, n5, c5, rfl, q1, q2, BB⟩
       have B6 := Lib.hid BB
       have HS5 := Lib.hid q1
       have O5 := Lib.hid q2
       clear q1 q2 BB)
    | (refine wpList_store_row rfl 31 (.tmp 9) (.tmp 45) rfl w6.heap.size _ rfl rfl _ _ (heap_alloc_new _ _) (IOX.out A5 n5 c5) (SOX.out A5 n5 c5) (OOX.out A5 n5 c5) ?_; rw [World.setRow_alloc_new]))
  have B7 := Lib.hid (alloc_below w6 (.cells (optV oo A5 n5 c5) 31))
  have R9 := Lib.hid (heap_alloc_new w6 (.cells (optV oo A5 n5 c5) 31))
  obtain ⟨Wr, hWr⟩ : ∃ q, q = w6.alloc (.cells (optV oo A5 n5 c5) 31) := ⟨_, rfl⟩
  rw [← hWr] at B7 R9 ⊢
  have BW5 := Lib.hid (show Below W.heap.size W w6 from B5.out.trans (B6.out.mono B5.out.size))
  have BW7 := Lib.hid (show Below W.heap.size W Wr from BW5.out.trans (B7.out.mono BW5.out.size))
  have G9L := Lib.hid (show w6.heap.size < Wr.heap.size by rw [hWr, alloc_size]; exact Nat.lt_succ_self _)
  clear hWr
  clear PO IOX SOX OOX
  go_upto_region 13 with fail
  clear sco c12 tu wu wu2 eu wN q20b qNb qnb qf q12
  have BQ0 := Lib.hid (show Wr.heap.size = Wr.heap.size from rfl)
  obtain ⟨Bq, hBq⟩ : ∃ q, q = Wr.heap.size := ⟨_, rfl⟩
  have BQ := Lib.hid hBq
  have BQE := BQ
  have IO := Lib.hid (opC.optC (show oo.mac.length = 12 by rw [← HOP.out]; exact HOK.out.op.lm) A5 n5 c5).info
  have G9Q := Lib.hid (show w6.heap.size < Bq by rw [BQ.out]; exact G9L.out)
  have TG := Lib.hid (fun (w' : World) (h : GrQ Bq Wr w') => (show Below w.heap.size w w' from HB.out.trans ((BW7.out.trans (h.1.mono (by rw [BQ.out]; exact BW7.out.size))).mono HB.out.size)))
  refine with_act fun a0 ha0 => ?_
  have hl : pbT.length = a0.tmps.size := by rw [ha0]; rfl
  have k2 : a0.tmps[2]?.getD undef = .slice (some ⟨gb, ob, none⟩) n0 c0 := by rw [ha0]; rfl
  have k8 : a0.tmps[8]?.getD undef = .int .i64 (N : Int) := by rw [ha0]; rfl
  have k9 : a0.tmps[9]?.getD undef = .pointer (some ⟨(w6.heap.size), 0, none⟩) := by rw [ha0]; rfl
  refine wp_region_che (by kernel_rfl) pbT (by kernel_rfl) (by kernel_rfl) hl (fun i => undef) (by rw [ha0]; rfl) (0) (SgD Bq) [34, 35] (by kernel_rfl) (by decide) (by decide) (fun w' => GrQ Bq Wr w') (pbV gb ob n0 c0 N sR.sp sR.dp sR.sq sR.ak sR.fl sR.wi sR.ur x13 (c0 - 2) (c0 - 4) (c0 - 8) (c0 - 14) (c0 - 18) BD mm dd (optV oo A5 n5 c5) sR A5 n5 c5 XD Bq (w6.heap.size) Bq) (pbR Bq ZS sR A5 n5 c5 mm XD) (Nat.zero_le _) ⟨(Below.refl _ _).drew.mono (Nat.le_of_eq BQ.out), Nat.le_of_eq BQ.out⟩ trivial (fun w1 w2 hb hd h => h.keep hd) (fun i v w w' _ hd h => pbV.keep _ _ _ _ _ _ _ _ _ _ _ _ _ _ _ _ _ _ _ _ _ _ _ _ _ _ _ _ _ _ i v w w' hd h) (fun k us us' w w' h _ hb hR => pbR.keep _ _ _ _ _ _ _ _ k us us' w w' h hb hR) ⟨?_, ?_, ?_, ?_, ?_, ?_, ?_, ?_, ?_, ?_, ?_, ?_, ?_, ?_, ?_, ?_, ?_, ?_, ?_, ?_, ?_, ?_, ?_, ?_, ?_, ?_, ?_, ?_, ?_, ?_, ?_, ?_, ?_, ?_, ?_, ?_, trivial⟩ ?_
  · refine stepE_val [] (by kernel_rfl) (by decide) (by decide) rfl fun us w' hB hG hV => ?_
    have o2 := (frame_old2 (us := us) (a := a0) (show (pbT[2]?).join = none from rfl)).trans k2
    generalize frame pbT a0 us = fr at *
    exact val_C (v := .slice (some ⟨gb, ob, none⟩) n0 c0) (w' := w') (by go_simp) (Below.refl _ _) rfl
  · refine stepE_val [0] (by kernel_rfl) (by decide) (by decide) rfl fun us w' hB hG hV => ?_
    have e0 : us 0 = .slice (some ⟨gb, ob, none⟩) n0 c0 := hV 0 (by simp)
    have v0 := (frame_at2 (us := us) hl (show (pbT[51]?).join = some 0 from rfl)).trans e0
    have hd2 := HD2.out
    generalize frame pbT a0 us = fr at *
    exact val_C (v := .slice (some ⟨gb, ob, none⟩) 2 c0) (w' := w') (by go_simp) (Below.refl _ _) rfl
  · refine stepE_val [1] (by kernel_rfl) (by decide) (by decide) rfl fun us w' hB hG hV => ?_
    have e1 : us 1 = .slice (some ⟨gb, ob, none⟩) 2 c0 := hV 1 (by simp)
    have v1 := (frame_at2 (us := us) hl (show (pbT[52]?).join = some 1 from rfl)).trans e1
    generalize frame pbT a0 us = fr at *
    exact call_C (f := 50) (args := #[.slice (some ⟨gb, ob, none⟩) 2 c0]) (by go_simp) ((G0.out w' (TG.out w' hG)).mono fun e w'' h => ⟨_, h.1, h.2, rfl⟩)
  · refine stepE_val [2] (by kernel_rfl) (by decide) (by decide) rfl fun us w' hB hG hV => ?_
    have e2 : us 2 = .int .u64 sR.sp := hV 2 (by simp)
    have v2 := (frame_at2 (us := us) hl (show (pbT[53]?).join = some 2 from rfl)).trans e2
    have hw := W0.out
    generalize frame pbT a0 us = fr at *
    exact val_C (v := .int .u16 sR.sp) (w' := w') (by go_simp) (Below.refl _ _) rfl
  · refine stepE_val [] (by kernel_rfl) (by decide) (by decide) rfl fun us w' hB hG hV => ?_
    have o2 := (frame_old2 (us := us) (a := a0) (show (pbT[2]?).join = none from rfl)).trans k2
    generalize frame pbT a0 us = fr at *
    exact val_C (v := .slice (some ⟨gb, ob, none⟩) n0 c0) (w' := w') (by go_simp) (Below.refl _ _) rfl
  · refine stepE_val [4] (by kernel_rfl) (by decide) (by decide) rfl fun us w' hB hG hV => ?_
    have e4 : us 4 = .slice (some ⟨gb, ob, none⟩) n0 c0 := hV 4 (by simp)
    have v4 := (frame_at2 (us := us) hl (show (pbT[55]?).join = some 4 from rfl)).trans e4
    have hsc := SC2.out w'
    generalize frame pbT a0 us = fr at *
    exact val_C (v := .slice (some ⟨gb, ob + 2, none⟩) 2 (c0 - 2)) (w' := w') (by go_simp) (Below.refl _ _) rfl
  · refine stepE_val [5] (by kernel_rfl) (by decide) (by decide) rfl fun us w' hB hG hV => ?_
    have e5 : us 5 = .slice (some ⟨gb, ob + 2, none⟩) 2 (c0 - 2) := hV 5 (by simp)
    have v5 := (frame_at2 (us := us) hl (show (pbT[56]?).join = some 5 from rfl)).trans e5
    generalize frame pbT a0 us = fr at *
    exact call_C (f := 50) (args := #[.slice (some ⟨gb, ob + 2, none⟩) 2 (c0 - 2)]) (by go_simp) ((G2.out w' (TG.out w' hG)).mono fun e w'' h => ⟨_, h.1, h.2, rfl⟩)
  · refine stepE_val [6] (by kernel_rfl) (by decide) (by decide) rfl fun us w' hB hG hV => ?_
    have e6 : us 6 = .int .u64 sR.dp := hV 6 (by simp)
    have v6 := (frame_at2 (us := us) hl (show (pbT[57]?).join = some 6 from rfl)).trans e6
    have hw := W1'.out
    generalize frame pbT a0 us = fr at *
    exact val_C (v := .int .u16 sR.dp) (w' := w') (by go_simp) (Below.refl _ _) rfl
  · refine stepE_val [] (by kernel_rfl) (by decide) (by decide) rfl fun us w' hB hG hV => ?_
    have o2 := (frame_old2 (us := us) (a := a0) (show (pbT[2]?).join = none from rfl)).trans k2
    generalize frame pbT a0 us = fr at *
    exact val_C (v := .slice (some ⟨gb, ob, none⟩) n0 c0) (w' := w') (by go_simp) (Below.refl _ _) rfl
  · refine stepE_val [8] (by kernel_rfl) (by decide) (by decide) rfl fun us w' hB hG hV => ?_
    have e8 : us 8 = .slice (some ⟨gb, ob, none⟩) n0 c0 := hV 8 (by simp)
    have v8 := (frame_at2 (us := us) hl (show (pbT[59]?).join = some 8 from rfl)).trans e8
    have hsc := SC4.out w'
    generalize frame pbT a0 us = fr at *
    exact val_C (v := .slice (some ⟨gb, ob + 4, none⟩) 4 (c0 - 4)) (w' := w') (by go_simp) (Below.refl _ _) rfl
  · refine stepE_val [9] (by kernel_rfl) (by decide) (by decide) rfl fun us w' hB hG hV => ?_
    have e9 : us 9 = .slice (some ⟨gb, ob + 4, none⟩) 4 (c0 - 4) := hV 9 (by simp)
    have v9 := (frame_at2 (us := us) hl (show (pbT[60]?).join = some 9 from rfl)).trans e9
    generalize frame pbT a0 us = fr at *
    exact call_C (f := 50) (args := #[.slice (some ⟨gb, ob + 4, none⟩) 4 (c0 - 4)]) (by go_simp) ((G4.out w' (TG.out w' hG)).mono fun e w'' h => ⟨_, h.1, h.2, rfl⟩)
  · refine stepE_val [10] (by kernel_rfl) (by decide) (by decide) rfl fun us w' hB hG hV => ?_
    have e10 : us 10 = .int .u64 sR.sq := hV 10 (by simp)
    have v10 := (frame_at2 (us := us) hl (show (pbT[61]?).join = some 10 from rfl)).trans e10
    have hw := W2.out
    generalize frame pbT a0 us = fr at *
    exact val_C (v := .int .u32 sR.sq) (w' := w') (by go_simp) (Below.refl _ _) rfl
  · refine stepE_val [] (by kernel_rfl) (by decide) (by decide) rfl fun us w' hB hG hV => ?_
    have o2 := (frame_old2 (us := us) (a := a0) (show (pbT[2]?).join = none from rfl)).trans k2
    generalize frame pbT a0 us = fr at *
    exact val_C (v := .slice (some ⟨gb, ob, none⟩) n0 c0) (w' := w') (by go_simp) (Below.refl _ _) rfl
  · refine stepE_val [12] (by kernel_rfl) (by decide) (by decide) rfl fun us w' hB hG hV => ?_
    have e12 : us 12 = .slice (some ⟨gb, ob, none⟩) n0 c0 := hV 12 (by simp)
    have v12 := (frame_at2 (us := us) hl (show (pbT[63]?).join = some 12 from rfl)).trans e12
    have hsc := SC8.out w'
    generalize frame pbT a0 us = fr at *
    exact val_C (v := .slice (some ⟨gb, ob + 8, none⟩) 4 (c0 - 8)) (w' := w') (by go_simp) (Below.refl _ _) rfl
  · refine stepE_val [13] (by kernel_rfl) (by decide) (by decide) rfl fun us w' hB hG hV => ?_
    have e13 : us 13 = .slice (some ⟨gb, ob + 8, none⟩) 4 (c0 - 8) := hV 13 (by simp)
    have v13 := (frame_at2 (us := us) hl (show (pbT[64]?).join = some 13 from rfl)).trans e13
    generalize frame pbT a0 us = fr at *
    exact call_C (f := 50) (args := #[.slice (some ⟨gb, ob + 8, none⟩) 4 (c0 - 8)]) (by go_simp) ((G8.out w' (TG.out w' hG)).mono fun e w'' h => ⟨_, h.1, h.2, rfl⟩)
  · refine stepE_val [14] (by kernel_rfl) (by decide) (by decide) rfl fun us w' hB hG hV => ?_
    have e14 : us 14 = .int .u64 sR.ak := hV 14 (by simp)
    have v14 := (frame_at2 (us := us) hl (show (pbT[65]?).join = some 14 from rfl)).trans e14
    have hw := W3.out
    generalize frame pbT a0 us = fr at *
    exact val_C (v := .int .u32 sR.ak) (w' := w') (by go_simp) (Below.refl _ _) rfl
  · refine stepE_val [] (by kernel_rfl) (by decide) (by decide) rfl fun us w' hB hG hV => ?_
    have o2 := (frame_old2 (us := us) (a := a0) (show (pbT[2]?).join = none from rfl)).trans k2
    generalize frame pbT a0 us = fr at *
    exact val_C (v := .slice (some ⟨gb, ob, none⟩) n0 c0) (w' := w') (by go_simp) (Below.refl _ _) rfl
  · refine stepE_val [16] (by kernel_rfl) (by decide) (by decide) rfl fun us w' hB hG hV => ?_
    have e16 : us 16 = .slice (some ⟨gb, ob, none⟩) n0 c0 := hV 16 (by simp)
    have v16 := (frame_at2 (us := us) hl (show (pbT[67]?).join = some 16 from rfl)).trans e16
    have hl13 := L13.out
    generalize frame pbT a0 us = fr at *
    exact val_C (v := .pointer (some ⟨gb, ob + 13, none⟩)) (w' := w') (by go_simp) (Below.refl _ _) rfl
  · refine stepE_val [17] (by kernel_rfl) (by decide) (by decide) rfl fun us w' hB hG hV => ?_
    have e17 : us 17 = .pointer (some ⟨gb, ob + 13, none⟩) := hV 17 (by simp)
    have v17 := (frame_at2 (us := us) hl (show (pbT[68]?).join = some 17 from rfl)).trans e17
    have hc := K13.out w' (TG.out w' hG)
    generalize frame pbT a0 us = fr at *
    exact val_C (v := .int .u8 x13) (w' := w') (by go_simp) (Below.refl _ _) rfl
  · refine stepE_val [18] (by kernel_rfl) (by decide) (by decide) rfl fun us w' hB hG hV => ?_
    have e18 : us 18 = .int .u8 x13 := hV 18 (by simp)
    have v18 := (frame_at2 (us := us) hl (show (pbT[69]?).join = some 18 from rfl)).trans e18
    have hw := W4.out
    have hm := M4.out
    generalize frame pbT a0 us = fr at *
    exact val_C (v := .int .u8 sR.fl) (w' := w') (by go_simp) (Below.refl _ _) rfl
  · refine stepE_val [] (by kernel_rfl) (by decide) (by decide) rfl fun us w' hB hG hV => ?_
    have o2 := (frame_old2 (us := us) (a := a0) (show (pbT[2]?).join = none from rfl)).trans k2
    generalize frame pbT a0 us = fr at *
    exact val_C (v := .slice (some ⟨gb, ob, none⟩) n0 c0) (w' := w') (by go_simp) (Below.refl _ _) rfl
  · refine stepE_val [20] (by kernel_rfl) (by decide) (by decide) rfl fun us w' hB hG hV => ?_
    have e20 : us 20 = .slice (some ⟨gb, ob, none⟩) n0 c0 := hV 20 (by simp)
    have v20 := (frame_at2 (us := us) hl (show (pbT[71]?).join = some 20 from rfl)).trans e20
    have hsc := SC14.out w'
    generalize frame pbT a0 us = fr at *
    exact val_C (v := .slice (some ⟨gb, ob + 14, none⟩) 2 (c0 - 14)) (w' := w') (by go_simp) (Below.refl _ _) rfl
  · refine stepE_val [21] (by kernel_rfl) (by decide) (by decide) rfl fun us w' hB hG hV => ?_
    have e21 : us 21 = .slice (some ⟨gb, ob + 14, none⟩) 2 (c0 - 14) := hV 21 (by simp)
    have v21 := (frame_at2 (us := us) hl (show (pbT[72]?).join = some 21 from rfl)).trans e21
    generalize frame pbT a0 us = fr at *
    exact call_C (f := 50) (args := #[.slice (some ⟨gb, ob + 14, none⟩) 2 (c0 - 14)]) (by go_simp) ((G14.out w' (TG.out w' hG)).mono fun e w'' h => ⟨_, h.1, h.2, rfl⟩)
  · refine stepE_val [22] (by kernel_rfl) (by decide) (by decide) rfl fun us w' hB hG hV => ?_
    have e22 : us 22 = .int .u64 sR.wi := hV 22 (by simp)
    have v22 := (frame_at2 (us := us) hl (show (pbT[73]?).join = some 22 from rfl)).trans e22
    have hw := W5.out
    generalize frame pbT a0 us = fr at *
    exact val_C (v := .int .u16 sR.wi) (w' := w') (by go_simp) (Below.refl _ _) rfl
  · refine stepE_val [] (by kernel_rfl) (by decide) (by decide) rfl fun us w' hB hG hV => ?_
    have o2 := (frame_old2 (us := us) (a := a0) (show (pbT[2]?).join = none from rfl)).trans k2
    generalize frame pbT a0 us = fr at *
    exact val_C (v := .slice (some ⟨gb, ob, none⟩) n0 c0) (w' := w') (by go_simp) (Below.refl _ _) rfl
  · refine stepE_val [24] (by kernel_rfl) (by decide) (by decide) rfl fun us w' hB hG hV => ?_
    have e24 : us 24 = .slice (some ⟨gb, ob, none⟩) n0 c0 := hV 24 (by simp)
    have v24 := (frame_at2 (us := us) hl (show (pbT[75]?).join = some 24 from rfl)).trans e24
    have hsc := SC18.out w'
    generalize frame pbT a0 us = fr at *
    exact val_C (v := .slice (some ⟨gb, ob + 18, none⟩) 2 (c0 - 18)) (w' := w') (by go_simp) (Below.refl _ _) rfl
  · refine stepE_val [25] (by kernel_rfl) (by decide) (by decide) rfl fun us w' hB hG hV => ?_
    have e25 : us 25 = .slice (some ⟨gb, ob + 18, none⟩) 2 (c0 - 18) := hV 25 (by simp)
    have v25 := (frame_at2 (us := us) hl (show (pbT[76]?).join = some 25 from rfl)).trans e25
    generalize frame pbT a0 us = fr at *
    exact call_C (f := 50) (args := #[.slice (some ⟨gb, ob + 18, none⟩) 2 (c0 - 18)]) (by go_simp) ((G18.out w' (TG.out w' hG)).mono fun e w'' h => ⟨_, h.1, h.2, rfl⟩)
  · refine stepE_val [26] (by kernel_rfl) (by decide) (by decide) rfl fun us w' hB hG hV => ?_
    have e26 : us 26 = .int .u64 sR.ur := hV 26 (by simp)
    have v26 := (frame_at2 (us := us) hl (show (pbT[77]?).join = some 26 from rfl)).trans e26
    have hw := W6.out
    generalize frame pbT a0 us = fr at *
    exact val_C (v := .int .u16 sR.ur) (w' := w') (by go_simp) (Below.refl _ _) rfl
  · refine stepE_val [] (by kernel_rfl) (by decide) (by decide) rfl fun us w' hB hG hV => ?_
    have o9 := (frame_old2 (us := us) (a := a0) (show (pbT[9]?).join = none from rfl)).trans k9
    have hg1 := (hG.row G9Q.out R9.out)
    generalize frame pbT a0 us = fr at *
    exact load_C 31 9 rfl ((w6.heap.size)) o9 _ _ (0, 0) _ hg1 Tryd.underlying31 rfl IO.out rfl
  · refine stepE_val [] (by kernel_rfl) (by decide) (by decide) rfl fun us w' hB hG hV => ?_
    have o2 := (frame_old2 (us := us) (a := a0) (show (pbT[2]?).join = none from rfl)).trans k2
    generalize frame pbT a0 us = fr at *
    exact val_C (v := .slice (some ⟨gb, ob, none⟩) n0 c0) (w' := w') (by go_simp) (Below.refl _ _) rfl
  · refine stepE_val [] (by kernel_rfl) (by decide) (by decide) rfl fun us w' hB hG hV => ?_
    have o8 := (frame_old2 (us := us) (a := a0) (show (pbT[8]?).join = none from rfl)).trans k8
    generalize frame pbT a0 us = fr at *
    exact val_C (v := .int .i64 (N : Int)) (w' := w') (by go_simp) (Below.refl _ _) rfl
  · refine stepE_val [29, 30] (by kernel_rfl) (by decide) (by decide) rfl fun us w' hB hG hV => ?_
    have e29 : us 29 = .slice (some ⟨gb, ob, none⟩) n0 c0 := hV 29 (by simp)
    have v29 := (frame_at2 (us := us) hl (show (pbT[80]?).join = some 29 from rfl)).trans e29
    have e30 : us 30 = .int .i64 (N : Int) := hV 30 (by simp)
    have v30 := (frame_at2 (us := us) hl (show (pbT[81]?).join = some 30 from rfl)).trans e30
    have hsc := SCN.out w'
    generalize frame pbT a0 us = fr at *
    exact val_C (v := .slice BD mm dd) (w' := w') (by go_simp) (Below.refl _ _) rfl
  · refine stepE_val [31] (by kernel_rfl) (by decide) (by decide) rfl fun us w' hB hG hV => ?_
    have e31 : us 31 = .slice BD mm dd := hV 31 (by simp)
    have v31 := (frame_at2 (us := us) hl (show (pbT[82]?).join = some 31 from rfl)).trans e31
    generalize frame pbT a0 us = fr at *
    exact append_Jo (R := fun v w'' => Below w'.heap.size w' w'' ∧ pbV gb ob n0 c0 N sR.sp sR.dp sR.sq sR.ak sR.fl sR.wi sR.ur x13 (c0 - 2) (c0 - 4) (c0 - 8) (c0 - 14) (c0 - 18) BD mm dd (optV oo A5 n5 c5) sR A5 n5 c5 XD Bq (w6.heap.size) Bq 32 v w'') (.const (.slice none 0 0)) (.tmp 82) 32 rfl 5 i0 _ 1 Tryd.underlying32 I1.out I2.out I3.out I4.out rfl w'.heap.size _ [] (by rfl) (Own.nil _ _) w'.heap.size _ mm dd XD (eval_tmp v31) (NXD.out w' (TG.out w' hG)) (by rw [List.length_nil]; have := MM9.out; unfold maxLen; omega) (by rw [List.length_nil]; have := MM9.out; omega) (Nat.le_refl _) mm (by simp) fun A' c' w'' _ _ O' B' => ⟨B', A', c', rfl, O'.less hG.2⟩
  · refine stepE_val [3, 7, 11, 15, 19, 23, 27, 28, 32] (by kernel_rfl) (by decide) (by decide) rfl fun us w' hB hG hV => ?_
    have e3 : us 3 = .int .u16 sR.sp := hV 3 (by simp)
    have v3 := (frame_at2 (us := us) hl (show (pbT[54]?).join = some 3 from rfl)).trans e3
    have e7 : us 7 = .int .u16 sR.dp := hV 7 (by simp)
    have v7 := (frame_at2 (us := us) hl (show (pbT[58]?).join = some 7 from rfl)).trans e7
    have e11 : us 11 = .int .u32 sR.sq := hV 11 (by simp)
    have v11 := (frame_at2 (us := us) hl (show (pbT[62]?).join = some 11 from rfl)).trans e11
    have e15 : us 15 = .int .u32 sR.ak := hV 15 (by simp)
    have v15 := (frame_at2 (us := us) hl (show (pbT[66]?).join = some 15 from rfl)).trans e15
    have e19 : us 19 = .int .u8 sR.fl := hV 19 (by simp)
    have v19 := (frame_at2 (us := us) hl (show (pbT[70]?).join = some 19 from rfl)).trans e19
    have e23 : us 23 = .int .u16 sR.wi := hV 23 (by simp)
    have v23 := (frame_at2 (us := us) hl (show (pbT[74]?).join = some 23 from rfl)).trans e23
    have e27 : us 27 = .int .u16 sR.ur := hV 27 (by simp)
    have v27 := (frame_at2 (us := us) hl (show (pbT[78]?).join = some 27 from rfl)).trans e27
    have e28 : us 28 = .agg (optV oo A5 n5 c5) := hV 28 (by simp)
    have v28 := (frame_at2 (us := us) hl (show (pbT[79]?).join = some 28 from rfl)).trans e28
    obtain ⟨B32, d32, e32, O32⟩ := (show ∃ B' d', us 32 = .slice B' mm d' ∧ Own .u8 5 w' Bq (.slice B' mm d') XD from hV 32 (by simp))
    have v32 := (frame_at2 (us := us) hl (show (pbT[83]?).join = some 32 from rfl)).trans e32
    generalize frame pbT a0 us = fr at *
    exact val_C (v := .agg (segV sR A5 n5 c5 B32 mm d32)) (w' := w') (built9_runS (T := 34) rfl (eval_tmp v3) (eval_tmp v7) (eval_tmp v11) (eval_tmp v15) (eval_tmp v19) (eval_tmp v23) (eval_tmp v27) (eval_tmp v28) (eval_tmp v32) (BLT.out B32 d32 A5 n5 c5)) (Below.refl _ _) ⟨B32, d32, rfl, O32⟩
  · refine stepE_chain 0 rfl (by decide) [] (by kernel_rfl) (by decide) rfl fun us w' hB hG hV hR => ?_
    have hBw : Bq ≤ w'.heap.size := hG.2
    generalize frame pbT a0 us = fr at *
    exact val_J (R := fun v w'' => (SgD Bq w' w'' ∧ Below 0 w' w'') ∧ pbR Bq ZS sR A5 n5 c5 mm XD 1 (upd us 34 v) w'') (v := .pointer (some ⟨w'.heap.size, 0, none⟩)) (w' := w'.alloc (.cells ZS 34)) (by have hz := hzv; go_simp) ⟨⟨.inl (alloc_below w' _), (alloc_below w' _).mono (Nat.zero_le _)⟩, w'.heap.size, upd_same _ _ _, hBw, heap_alloc_new _ _⟩
  · refine stepE_chain 1 rfl (by decide) [33] (by kernel_rfl) (by decide) rfl fun us w' hB hG hV hR => ?_
    obtain ⟨B33, d33, e33, O33⟩ := (show ∃ B' d', us 33 = .agg (segV sR A5 n5 c5 B' mm d') ∧ Own .u8 5 w' Bq (.slice B' mm d') XD from hV 33 (by simp))
    have v33 := (frame_at2 (us := us) hl (show (pbT[84]?).join = some 33 from rfl)).trans e33
    obtain ⟨g, e34, hgb, hgr⟩ : ∃ g, us 34 = .pointer (some ⟨g, 0, none⟩) ∧ Bq ≤ g ∧ w'.heap[g]? = some (.cells ZS 34 (0, 0)) := hR
    have v34 := (frame_at2 (us := us) hl (show (pbT[11]?).join = some 34 from rfl)).trans e34
    generalize frame pbT a0 us = fr at *
    exact store_J (R := fun v w'' => (SgD Bq w' w'' ∧ Below 0 w' w'') ∧ pbR Bq ZS sR A5 n5 c5 mm XD 2 (upd us 35 v) w'') 34 11 84 rfl g (segV sR A5 n5 c5 B33 mm d33) v34 v33 _ _ hgr (IX.out A5 n5 c5 B33 mm d33) (SX.out A5 n5 c5 B33 mm d33) (OX.out A5 n5 c5 B33 mm d33) ⟨⟨.inr ⟨g, _, _, hgr, hgb, rfl⟩, below_setRowP (Below.refl _ _) (Nat.zero_le _) _⟩, g, B33, d33, by rw [upd_other _ _ (by decide)]; exact e34, hgb, setRow_heap _ _ _ _ _ _ hgr, (own_other O33 hgr (by decide)).less (Nat.le_refl _)⟩
  · intro us w8 hB2 hG hV hR
    obtain ⟨g1, B6, d6, e34, hgb, hgr, O6⟩ := (show ∃ g B' d', us 34 = .pointer (some ⟨g, 0, none⟩) ∧ Bq ≤ g ∧ w8.heap[g]? = some (.cells (segV sR A5 n5 c5 B' mm d') 34 (0, 0)) ∧ Own .u8 5 w8 Bq (.slice B' mm d') XD from hR)
    have HG8 := Lib.hid hG
    have HGR := Lib.hid hgr
    have HO8 := Lib.hid O6
    subst ha0
    simp only [frame, pbT, fill]
    rw [e34]
    clear hV hG hl hR hgr O6 k2 k8 k9 e34
    have BW8 := Lib.hid (show Below W.heap.size W w8 from BW7.out.trans (HG8.out.1.mono (by rw [BQ.out]; exact BW7.out.size)))
    have OP8 := Lib.hid (show OwnP w8 w5.heap.size (.slice A5 n5 c5) oo.sk from (O5.out.below B7.out).below (by have h := HG8.out.1; rw [BQ.out] at h; exact h))
    have MC := Lib.hid (rmay_any sR A5 n5 c5 B6 mm d6 w8 HOK.out.op (by rw [HOP.out]; exact HS5.out) (by rw [HOP.out]; exact OP8.out.prs) (by have h1 := HS5.out; have h2 := GSK.out; omega))
    rw [← MYE.out] at MC
    have ICX := Lib.hid (IX.out A5 n5 c5 B6 mm d6)
    have SCX := Lib.hid (SX.out A5 n5 c5 B6 mm d6)
    have OCX := Lib.hid (OX.out A5 n5 c5 B6 mm d6)
    obtain ⟨CX, hCX⟩ : ∃ C, C = segV sR A5 n5 c5 B6 mm d6 := ⟨_, rfl⟩
    simp only [← hCX] at MC ICX SCX OCX HGR
    have HCX := Lib.hid hCX
    clear hCX IX SX OX G0 G2 G4 G8 G14 G18 SC2 SC4 SC8 SC14 SC18 SCN NXD K13 BLT
    cases my
    · go_wp2_with (first
        | (refine wpList_load_row rfl 34 (.tmp 11) rfl g1 rfl _ _ _ _ HGR.out Tryd.underlying34 rfl ICX.out ?_)
        | (go_at_call 14; (refine MC.out.mono ?_); rintro e w9 ⟨rfl, BB⟩
           have B9 := Lib.hid BB
           have BW9 := Lib.hid (BW8.out.trans (BB.mono BW8.out.size))
           have RES9 := Lib.hid (KRES.out w9 BW9.out)
           have HG9 := Lib.hid ((BB.block _ (lt_of_row HGR.out)).trans HGR.out)
           clear BB)
        | (refine adC.wpList_zero rfl 34 rfl ZS BZ.out ?_)
        | (refine wpList_store_row rfl 34 (.tmp 6) (.tmp 88) rfl (w.heap.size + 2) _ rfl rfl _ _ RES9.out IZ.out rfl OZ.out ?_))
      refine bodyPost_ret (v := .tuple #[.agg ZS, .int .i64 3]) (adC.results_cell_tmp Tryd.results22 _ _ (w.heap.size + 2) _ _ _ _ _ (by rfl) (setRow_heap _ _ _ _ _ _ RES9.out) Tryd.underlying34 rfl IZ.out (by rfl)) rfl ?_
      try rw [if_neg (by decide)]
      exact ⟨none, 0, 0, none, 0, 0, by rw [EZ.out], rfl, OwnP.nil _ _, Own.nil _ _, below_setRowP (HB.out.trans (BW9.out.mono HB.out.size)) (by omega) _⟩
    · go_wp2_with (first
        | (refine wpList_load_row rfl 34 (.tmp 11) rfl g1 rfl _ _ _ _ HGR.out Tryd.underlying34 rfl ICX.out ?_)
        | (go_at_call 14; (refine MC.out.mono ?_); rintro e w9 ⟨rfl, BB⟩
           have B9 := Lib.hid BB
           have BW9 := Lib.hid (BW8.out.trans (BB.mono BW8.out.size))
           have RES9 := Lib.hid (KRES.out w9 BW9.out)
           have HG9 := Lib.hid ((BB.block _ (lt_of_row HGR.out)).trans HGR.out)
           clear BB)
        | (refine wpList_load_row rfl 34 (.tmp 11) rfl g1 rfl _ _ _ _ HG9.out Tryd.underlying34 rfl ICX.out ?_)
        | (refine wpList_store_row rfl 34 (.tmp 6) (.tmp 89) rfl (w.heap.size + 2) _ rfl rfl _ _ RES9.out ICX.out SCX.out OCX.out ?_))
      refine bodyPost_ret (v := .tuple #[.agg CX, .int .i64 0]) (adC.results_cell_tmp Tryd.results22 _ _ (w.heap.size + 2) _ _ _ _ _ (by rfl) (setRow_heap _ _ _ _ _ _ RES9.out) Tryd.underlying34 rfl ICX.out (by rfl)) rfl ?_
      try rw [if_pos rfl]
      have z5 : w.heap.size + 3 ≤ w5.heap.size := Nat.le_trans SW.out B5.out.size
      have z7 : w.heap.size + 3 ≤ Bq := by rw [BQ.out]; exact Nat.le_trans SW.out BW7.out.size
      refine ⟨A5, n5, c5, B6, mm, d6, by rw [HCX.out], by show sR.op.sk.length = n5; rw [HOP.out]; exact HS5.out, ?_, ?_, below_setRowP (HB.out.trans (BW9.out.mono HB.out.size)) (by omega) _⟩
      · show OwnP _ _ _ sR.op.sk
        rw [HOP.out]
        exact ((OP8.out.below B9.out).keep fun k h1 h2 => setRow_other _ _ _ _ (by omega)).less (by omega)
      · exact ((HO8.out.below B9.out).keep fun k h1 h2 => setRow_other _ _ _ _ (by omega)).less (by omega)
end Go.Proofs.YtniimgbljhmcoaaDoor.sgC

/-
  The walk of SegParses.
-/
namespace Go.Proofs.YtniimgbljhmcoaaDoor.sgC
open Go.ChangeShapes Go.WideShapes Go.ChangeAt Go.RowKit
open Go.Proofs.YtniimgbljhmcoaaDoor.memC Go.Proofs.YtniimgbljhmcoaaDoor.genC Go.Proofs.YtniimgbljhmcoaaDoor.butC Go.Proofs.YtniimgbljhmcoaaDoor.freeC Go.Proofs.YtniimgbljhmcoaaDoor.adC
open Go.Proofs.YtniimgbljhmcoaaDoor.opC (Kd Prs zOpt zOpt_ok U32 OwnP)
set_option linter.unusedVariables false
theorem sgP_bytes (gd : Bool) {bs : List Int} (hy : ∀ x ∈ bs, Byte x) : ∀ x ∈ (sgP gd bs).2.2, Byte x := by
  by_cases h : (sgP gd bs).1 = 0
  · exact (sgP_good hy h).2.2.1
  · rw [sgP_bad h]; simp
theorem sgP_len (gd : Bool) {bs : List Int} (hy : ∀ x ∈ bs, Byte x) : (sgP gd bs).2.1.op.sk.length ≤ 4 := by
  by_cases h : (sgP gd bs).1 = 0
  · have h2 := (sgP_good hy h).2.1
    unfold mayS at h2
    simp only [Bool.and_eq_true, decide_eq_true_eq, opC.mayB] at h2
    exact h2.1.2.2.1
  · rw [sgP_bad h]; simp [zSg, zOpt]
set_option maxRecDepth 100000 in
set_option maxHeartbeats 8000000 in
theorem parses_walk (l1 l2 : List Value) (s1 s2 : Bool) (b1 b2 : List Int) (A0 : Option Addr) (n0 c0 : Nat) (bs : List Int) (w : World) (hk : Kd w) (e1 : l1.length = 17) (e2 : l2.length = 17) (h1 : chkC.AddrC l1.toArray s1 b1) (h2 : chkC.AddrC l2.toArray s2 b2)
    (hb : Nums .u8 w w.heap.size A0 n0 bs) (hy : ∀ x ∈ bs, Byte x) (hnc : n0 ≤ c0) (hcm : c0 ≤ 9223372036854775807) : Calls Tryd.prog 4 #[.agg (l1 ++ l2).toArray, .slice A0 n0 c0] w (Ret w (.bool true)) := by
  have hzv := zeroSeg
  have E1 := Lib.hid e1
  have U1 := Lib.hid (show (Tryd.prog.info? 24).map (·.size) = some l1.length by rw [e1]; exact addr_info)
  have U2 := Lib.hid (show (Tryd.prog.info? 24).map (·.size) = some l2.length by rw [e2]; exact addr_info)
  have AL := Lib.hid (fun (w' : World) (h : Below w.heap.size w w') => alive_any w' (hk.bel h))
  obtain ⟨CT, hCT⟩ : ∃ C, C = (l1 ++ l2).toArray := ⟨_, rfl⟩
  have HCT := Lib.hid hCT
  obtain ⟨ZS, hZS⟩ : ∃ C, C = segV zSg none 0 0 none 0 0 := ⟨_, rfl⟩
  simp only [← hZS] at hzv
  obtain ⟨W, hW⟩ : ∃ W, W = w.alloc (.cells (l1 ++ l2).toArray 25) := ⟨_, rfl⟩
  have HB_W := Lib.hid (show Below w.heap.size w W by rw [hW]; exact alloc_below _ _)
  have RT_W := Lib.hid (show W.heap[w.heap.size]? = some (.cells (l1 ++ l2).toArray 25 (0, 0)) by rw [hW]; exact heap_alloc_new w _)
  by_cases hbig : 2000 < n0
  · have q0 : (2000 : Int) < (n0 : Int) := by omega
    rw [← hCT] at hW ⊢
    clear hCT hZS hcm hnc
    go_enter Tryd.func4, Tryd.ntmps4
    go_upto_region 1 with fail
    rw [← hW]
    clear hW
    go_wp2_with (first
      | (go_at_call 10; (refine (AL.out _ HB_W.out).mono ?_); rintro e w2 ⟨rfl, BB⟩
         have HB_w2 := Lib.hid (HB_W.out.trans (BB.mono HB_W.out.size))
         clear BB))
    go_ret
    exact ⟨rfl, HB_w2.out⟩
  have q0 : ¬ (2000 : Int) < (n0 : Int) := by omega
  have PC := Lib.hid (fun (w' : World) (h : Below w.heap.size w w') => cparse_any l1.toArray l2.toArray s1 s2 b1 b2 A0 n0 c0 bs w' h1 h2 (hk.bel h) ((hb.below h).more h.size) hy (by omega))
  have PR := Lib.hid (fun (w' : World) (h : Below w.heap.size w w') => rparse_seg l1.toArray l2.toArray s1 s2 b1 b2 A0 n0 c0 bs w' h1 h2 ((hb.below h).more h.size) hy (by omega) hnc hcm)
  obtain ⟨P, hP⟩ : ∃ P, P = sgP (goodG s1 s2 b1 b2 bs) bs := ⟨_, rfl⟩
  have ML := Lib.hid (show P.2.1.op.mac.length = 12 by rw [hP]; exact sgP_mac _ hy)
  have YX := Lib.hid (show ∀ x ∈ P.2.2, Byte x by rw [hP]; exact sgP_bytes _ hy)
  have K4 := Lib.hid (show P.2.1.op.sk.length ≤ 4 by rw [hP]; exact sgP_len _ hy)
  simp only [← hP] at PC PR
  obtain ⟨er, s, xs⟩ := P
  have IX := Lib.hid (fun (A : Option Addr) (n c : Nat) (B : Option Addr) (m d : Nat) => (segC ML.out A n c B m d).info)
  have SX := Lib.hid (fun (A' : Option Addr) (n' c' : Nat) (B' : Option Addr) (m' d' : Nat) => (show ZS.size = (segV s A' n' c' B' m' d').size by rw [hZS]; exact seg_size (s := zSg) (s' := s) zOpt_ok.lm ML.out none A' 0 0 n' c' none B' 0 0 m' d'))
  have OX := Lib.hid (fun (A : Option Addr) (n c : Nat) (B : Option Addr) (m d : Nat) => seg_one s A n c B m d)
  simp only at ML YX K4 IX SX OX
  unfold PsS at PC PR
  simp only at PC PR
  have SM := Lib.hid (fun (A : Option Addr) (n c : Nat) (B : Option Addr) (m d : Nat) (A' : Option Addr) (n' c' : Nat) (B' : Option Addr) (m' d' : Nat) (w' : World) (P0 : Prs w' w'.heap.size A n s.op.sk) (X0 : Nums .u8 w' w'.heap.size B m xs) (P : Prs w' w'.heap.size A' n' s.op.sk) (X : Nums .u8 w' w'.heap.size B' m' xs) => (show Calls Tryd.prog 18 #[.agg (segV s A n c B m d), .agg (segV s A' n' c' B' m' d')] w' (Ret w' (.bool true)) by
    have h9 := rsame_any s s A A' n c n' c' B B' m d m' d' xs xs w' ML.out ML.out P0 P (by have := K4.out; have := P0.len; omega) (by have := K4.out; have := P.len; omega) X0 X YX.out YX.out
    rw [sameS_self] at h9
    exact h9))
  rw [← hCT] at hW ⊢
  clear hCT hP hZS hbig h1 h2 hb hy hnc hcm
  go_enter Tryd.func4, Tryd.ntmps4
  go_upto_region 1 with fail
  rw [← hW]
  clear hW
  go_upto_region 4 with (first
    | (with_reducible refine atC.at_load 24 14 ?_; refine pkC.wpList_load_partG (by kernel_rfl) 24 (.tmp 14) rfl (w.heap.size) 0 (by kernel_rfl) l1 _ (two_row E1.out RT_W.out).1 Tryd.underlying24 rfl U1.out ?_)
    | (with_reducible refine atC.at_load 24 16 ?_; refine pkC.wpList_load_partG (by kernel_rfl) 24 (.tmp 16) rfl (w.heap.size) 17 (by kernel_rfl) l2 _ (two_row E1.out RT_W.out).2 Tryd.underlying24 rfl U2.out ?_)
    | (go_at_call 21; (refine (PC.out W HB_W.out).mono ?_); rintro e w2 ⟨A2, n2, c2, B2, m2, d2, rfl, hn2, OP2, OX2, BB⟩
       have HB_w2 := Lib.hid (HB_W.out.trans (BB.mono HB_W.out.size))
       have RT_w2 := Lib.hid ((BB.block _ (opC.lt_of_row RT_W.out)).trans RT_W.out)
       have P2 := Lib.hid OP2.prs
       have X2 := Lib.hid OX2.nums
       clear OP2 OX2 hn2
       clear BB)
    | (refine wpList_store_row rfl 34 (.tmp 5) (.tmp 20) rfl w2.heap.size _ rfl rfl _ _ (heap_alloc_new _ _) (IX.out A2 n2 c2 B2 m2 d2) (SX.out A2 n2 c2 B2 m2 d2) (OX.out A2 n2 c2 B2 m2 d2) ?_; rw [World.setRow_alloc_new]))
  have IY := Lib.hid (IX.out A2 n2 c2 B2 m2 d2)
  have RX_w3 := Lib.hid (heap_alloc_new w2 (.cells (segV s A2 n2 c2 B2 m2 d2) 34))
  have BB := alloc_below w2 (.cells (segV s A2 n2 c2 B2 m2 d2) 34)
  have P3 := Lib.hid ((P2.out.below BB).more BB.size)
  have X3 := Lib.hid ((X2.out.below BB).more BB.size)
  have HB_w3 := Lib.hid (HB_w2.out.trans (BB.mono HB_w2.out.size))
  have RT_w3 := Lib.hid ((BB.block _ (opC.lt_of_row RT_w2.out)).trans RT_w2.out)
  clear BB
  generalize w2.alloc (.cells (segV s A2 n2 c2 B2 m2 d2) 34) = w3 at *
  generalize w2.heap.size = gx at *
  clear P2 X2 PC
  go_upto_region 5 with (first
    | (with_reducible refine atC.at_load 24 23 ?_; refine pkC.wpList_load_partG (by kernel_rfl) 24 (.tmp 23) rfl (w.heap.size) 0 (by kernel_rfl) l1 _ (two_row E1.out RT_w3.out).1 Tryd.underlying24 rfl U1.out ?_)
    | (with_reducible refine atC.at_load 24 25 ?_; refine pkC.wpList_load_partG (by kernel_rfl) 24 (.tmp 25) rfl (w.heap.size) 17 (by kernel_rfl) l2 _ (two_row E1.out RT_w3.out).2 Tryd.underlying24 rfl U2.out ?_)
    | (go_at_call 22; (refine (PR.out w3 HB_w3.out).mono ?_); rintro e w5 ⟨A5, n5, c5, B5, m5, d5, rfl, hn5, OP5, OX5, BB⟩
       have HB_w5 := Lib.hid (HB_w3.out.trans (BB.mono HB_w3.out.size))
       have RX_w5 := Lib.hid ((BB.block _ (opC.lt_of_row RX_w3.out)).trans RX_w3.out)
       have P5 := Lib.hid OP5.prs
       have X5 := Lib.hid OX5.nums
       have P4 := Lib.hid ((P3.out.below BB).more BB.size)
       have X4 := Lib.hid ((X3.out.below BB).more BB.size)
       clear OP5 OX5 hn5
       clear BB)
    | (refine wpList_store_row rfl 34 (.tmp 7) (.tmp 29) rfl w5.heap.size _ rfl rfl _ _ (heap_alloc_new _ _) (IX.out A5 n5 c5 B5 m5 d5) (SX.out A5 n5 c5 B5 m5 d5) (OX.out A5 n5 c5 B5 m5 d5) ?_; rw [World.setRow_alloc_new]))
  have IV := Lib.hid (IX.out A5 n5 c5 B5 m5 d5)
  have RY_w6 := Lib.hid (heap_alloc_new w5 (.cells (segV s A5 n5 c5 B5 m5 d5) 34))
  have BB := alloc_below w5 (.cells (segV s A5 n5 c5 B5 m5 d5) 34)
  have SC := Lib.hid (fun (w' : World) (h : Below w5.heap.size w5 w') => SM.out A2 n2 c2 B2 m2 d2 A5 n5 c5 B5 m5 d5 w' ((P4.out.below h).more h.size) ((X4.out.below h).more h.size) ((P5.out.below h).more h.size) ((X5.out.below h).more h.size))
  have SD := Lib.hid (SC.out _ BB)
  have HB_w6 := Lib.hid (HB_w5.out.trans (BB.mono HB_w5.out.size))
  have RX_w6 := Lib.hid ((BB.block _ (opC.lt_of_row RX_w5.out)).trans RX_w5.out)
  clear BB
  clear SM SC IX SX OX P3 X3 P4 X4 P5 X5 hzv PR
  obtain ⟨CX, hCX⟩ : ∃ C, C = segV s A2 n2 c2 B2 m2 d2 := ⟨_, rfl⟩
  obtain ⟨CY, hCY⟩ : ∃ C, C = segV s A5 n5 c5 B5 m5 d5 := ⟨_, rfl⟩
  simp only [← hCX, ← hCY] at IY IV SD RX_w6 RY_w6 HB_w6 ⊢
  clear hCX hCY
  generalize w5.alloc (.cells CY 34) = w6 at *
  generalize w5.heap.size = gy at *
  go_wp2_with (first
    | go_skip
    | (with_reducible refine atC.at_load 34 5 ?_; refine wpList_load_rowG (by kernel_rfl) 34 (.tmp 5) rfl (gx) (by kernel_rfl) _ _ _ _ RX_w6.out Tryd.underlying34 rfl IY.out ?_)
    | (with_reducible refine atC.at_load 34 7 ?_; refine wpList_load_rowG (by kernel_rfl) 34 (.tmp 7) rfl (gy) (by kernel_rfl) _ _ _ _ RY_w6.out Tryd.underlying34 rfl IV.out ?_)
    | (go_at_call 18; (refine (SD.out).mono ?_); rintro e w7 ⟨rfl, BB⟩
       have HB_w7 := Lib.hid (HB_w6.out.trans (BB.mono HB_w6.out.size))
       clear BB)
    | (go_at_call 10; (refine (AL.out _ HB_w7.out).mono ?_); rintro e w8 ⟨rfl, BB⟩
       have HB_w8 := Lib.hid (HB_w7.out.trans (BB.mono HB_w7.out.size))
       clear BB))
  go_ret
  exact ⟨rfl, HB_w8.out⟩
end Go.Proofs.YtniimgbljhmcoaaDoor.sgC
