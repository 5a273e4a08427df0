/-
  2 texts of a proof, joined.
-/
import Derived.Test.YtniimgbljhmcoaaDoorMg29
import Derived.Test.YtniimgbljhmcoaaDoorMg22
import Derived.Test.YtniimgbljhmcoaaDoorMg18
import Derived.Test.YtniimgbljhmcoaaDoorMg31
import Derived.Test.YtniimgbljhmcoaaDoorMg28
import Derived.Test.YtniimgbljhmcoaaDoorMg19
import Derived.Test.YtniimgbljhmcoaaDoorMg26

/-
  The pseudo header, and the check sum of a load with it: the document's.
-/
namespace Go.Proofs.YtniimgbljhmcoaaDoor.sgC
open Go.ChangeShapes Go.WideShapes Go.ChangeAt Go.RowKit
open Go.Proofs.YtniimgbljhmcoaaDoor.memC Go.Proofs.YtniimgbljhmcoaaDoor.genC Go.Proofs.YtniimgbljhmcoaaDoor.butC Go.Proofs.YtniimgbljhmcoaaDoor.freeC Go.Proofs.YtniimgbljhmcoaaDoor.adC
open Go.Proofs.YtniimgbljhmcoaaDoor.chkC (CatRet PartAt)
set_option linter.unusedVariables false
/-- a row of bytes as it grows, twice -/
def psR (B : Nat) (vv : Value) (X0 X1 X2 : List Int) : Nat → (Nat → Value) → World → Prop
  | 0, us, w => us 7 = vv ∧ B ≤ w.heap.size ∧ Own .u8 5 w B vv X0
  | 1, us, w => B ≤ w.heap.size ∧ Own .u8 5 w B (us 3) X1
  | 2, us, w => B ≤ w.heap.size ∧ Own .u8 5 w B (us 6) X2
  | 3, us, w => B ≤ w.heap.size ∧ Own .u8 5 w B (us 7) X2
  | _, _, _ => True
theorem psR.keep (B : Nat) (vv : Value) (X0 X1 X2 : List Int) (k : Nat) (us us' : Nat → Value) (w w' : World) (h : ∀ x ∈ [3, 6, 7], us' x = us x) (hb : Below w.heap.size w w') (hR : psR B vv X0 X1 X2 k us w) : psR B vv X0 X1 X2 k us' w' := by
  have h4 := h 3 (by simp); have h8 := h 6 (by simp); have h9 := h 7 (by simp)
  have hz := hb.size
  unfold psR at hR ⊢
  split at hR
  · exact ⟨h9.trans hR.1, Nat.le_trans hR.2.1 hz, hR.2.2.below hb⟩
  · rw [h4]; exact ⟨Nat.le_trans hR.1 hz, hR.2.below hb⟩
  · rw [h8]; exact ⟨Nat.le_trans hR.1 hz, hR.2.below hb⟩
  · rw [h9]; exact ⟨Nat.le_trans hR.1 hz, hR.2.below hb⟩
  · trivial
theorem belowBS {B : Nat} {w w' : World} (h : Below B w w') : Below B w w' ∧ Below 0 w w' := ⟨h, h.mono (Nat.zero_le _)⟩
def psV (vv : Value) (g1 g2 B : Nat) : Nat → Value → World → Prop
  | 0, v, _ => v = vv
  | 1, v, _ => v = .pointer (some ⟨g1, 1, none⟩)
  | 2, v, _ => v = .slice (some ⟨g1, 1, none⟩) 16 16
  | 4, v, _ => v = .pointer (some ⟨g2, 1, none⟩)
  | 5, v, _ => v = .slice (some ⟨g2, 1, none⟩) 16 16
  | _, _, _ => True
theorem psV.keep (vv : Value) (g1 g2 B : Nat) (i : Nat) (v : Value) (w w' : World) (hd : Below w.heap.size w w' ∨ Below B w w') (h : psV vv g1 g2 B i v w) : psV vv g1 g2 B i v w' := by
  unfold psV at h ⊢
  split at h <;> exact h
def psT : List (Option Nat) := [none, none, none, none, none, none, none, none, none, some 7, none, none, none, none, none, none, none, none, none, some 0, some 1, some 2, some 3, some 4, some 5, some 6, none, none, none, none, none, none, none, none, none, none, none, none, none, none, none, none, none, none, none, none, none, none, none, none, none, none, none, none, none, none, none]
def pfV (vv : Value) (g1 g2 B : Nat) : Nat → Value → World → Prop
  | 0, v, _ => v = vv
  | 1, v, _ => v = .pointer (some ⟨g1, 1, none⟩)
  | 2, v, _ => v = .slice (some ⟨g1, 1, none⟩) 4 16
  | 4, v, _ => v = .pointer (some ⟨g2, 1, none⟩)
  | 5, v, _ => v = .slice (some ⟨g2, 1, none⟩) 4 16
  | _, _, _ => True
theorem pfV.keep (vv : Value) (g1 g2 B : Nat) (i : Nat) (v : Value) (w w' : World) (hd : Below w.heap.size w w' ∨ Below B w w') (h : pfV vv g1 g2 B i v w) : pfV vv g1 g2 B i v w' := by
  unfold pfV at h ⊢
  split at h <;> exact h
def pfT : List (Option Nat) := [none, none, none, none, none, none, none, none, none, some 7, none, none, none, none, none, none, none, none, none, none, none, none, none, none, none, none, none, none, none, none, none, none, none, none, none, none, none, none, none, none, none, some 0, some 1, some 2, some 3, some 4, some 5, some 6, none, none, none, none, none, none, none, none, none]
set_option maxRecDepth 100000 in
set_option maxHeartbeats 4000000 in
theorem rpse_six (C1 C2 : Array Value) (s1 s2 : Bool) (b1 b2 : List Int) (p n : Int) (w : World) (h1 : chkC.AddrC C1 s1 b1) (h2 : chkC.AddrC C2 s2 b2) (hs : (s1 || s2) = true) (p0 : 0 ≤ p) (p1 : p ≤ 255) (n0 : 0 ≤ n) (n1 : n ≤ 10000) :
    Calls Tryd.prog 48 #[.agg C1, .agg C2, .int .u8 p, .int .i64 n] w (CatRet w (b1 ++ (b2 ++ [n / 16777216, n / 65536, n / 256, n % 256, 0, 0, 0, p])) 40) := by
  obtain ⟨i0, hi0, hz0, hz1, hz2⟩ := info_parts byte_inf
  have I1 := Lib.hid hi0; have I2 := Lib.hid hz0; have I3 := Lib.hid hz1; have I4 := Lib.hid hz2
  obtain ⟨W0, hW0⟩ : ∃ W, W = w.alloc (.cells C1 24) := ⟨_, rfl⟩
  obtain ⟨W, hW⟩ : ∃ W, W = W0.alloc (.cells C2 24) := ⟨_, rfl⟩
  have z0 : W0.heap.size = w.heap.size + 1 := by rw [hW0, alloc_size]
  have z1 : W.heap.size = w.heap.size + 2 := by rw [hW, alloc_size, z0]
  have B0 : Below w.heap.size w W0 := by rw [hW0]; exact alloc_below _ _
  have B1 : Below W0.heap.size W0 W := by rw [hW]; exact alloc_below _ _
  have HB := Lib.hid (show Below w.heap.size w W from B0.trans (B1.mono (by omega)))
  have r1 : W.heap[w.heap.size]? = some (.cells C1 24 (0, 0)) := by rw [B1.block _ (by omega), hW0]; exact heap_alloc_new _ _
  have r2 : W.heap[w.heap.size + 1]? = some (.cells C2 24 (0, 0)) := by rw [hW, ← z0]; exact heap_alloc_new _ _
  have k1 := pkC.PkC.cell r1 h1.six
  have k2 := pkC.PkC.cell r2 h2.six
  have M1 : Nums .u8 W W.heap.size (some ⟨w.heap.size, 1, none⟩) 16 b1 := ⟨h1.len, fun _ => ⟨_, 1, rfl, by omega, fun i hi => pkC.PkC.cell r1 (h1.at_ i hi)⟩⟩
  have M2 : Nums .u8 W W.heap.size (some ⟨w.heap.size + 1, 1, none⟩) 16 b2 := ⟨h2.len, fun _ => ⟨_, 1, rfl, by omega, fun i hi => pkC.PkC.cell r2 (h2.at_ i hi)⟩⟩
  have V1 := M1
  have V2 := M2
  obtain ⟨Y1, hY1⟩ : ∃ Y, Y = b1 := ⟨_, rfl⟩
  obtain ⟨Y2, hY2⟩ : ∃ Y, Y = b2 := ⟨_, rfl⟩
  rw [← hY1] at V1
  rw [← hY2] at V2
  rw [← hY1, ← hY2]
  clear hY1 hY2
  have U1 := Lib.hid (show Nums .u8 W W.heap.size (some ⟨w.heap.size, 1, none⟩) 16 Y1 from V1)
  have U2 := Lib.hid (show Nums .u8 W W.heap.size (some ⟨w.heap.size + 1, 1, none⟩) 16 Y2 from V2)
  have L0 := Lib.hid (show ([] : List Int).length = 0 from rfl)
  obtain ⟨X1, hX1⟩ : ∃ X, X = [] ++ Y1 := ⟨_, rfl⟩
  obtain ⟨X2, hX2⟩ : ∃ X, X = X1 ++ Y2 := ⟨_, rfl⟩
  have L1 := Lib.hid (show X1.length = 16 by rw [hX1, List.nil_append]; exact V1.len)
  have L2 := Lib.hid (show X2.length = 32 by rw [hX2, List.length_append, L1.out, V2.len])
  have E9 := Lib.hid (show X2 ++ [n / 16777216, n / 65536, n / 256, n % 256, 0, 0, 0, p] = Y1 ++ (Y2 ++ [n / 16777216, n / 65536, n / 256, n % 256, 0, 0, 0, p]) by rw [hX2, hX1, List.nil_append, List.append_assoc])
  have E1 := Lib.hid hX1.symm
  have E2 := Lib.hid hX2.symm
  have HBB := HB
  have HBw := Lib.hid (show w.heap.size ≤ W.heap.size from HB.out.size)
  have HO0 := Lib.hid (show Own .u8 5 W W.heap.size (.slice none 0 0) ([] : List Int) from Own.nil _ _)
  have wn : IntKind.u32.wrap n = n := IntWalk.u32_in _ (by omega)
  clear V1 V2 M1 M2 hX1 hX2 h1 h2 r1 r2 B0 B1 z1 HB hi0 hz0 hz1 hz2
  obtain ⟨vv, hvv⟩ : ∃ v : Value, v = .slice none 0 0 := ⟨_, rfl⟩
  rw [← hvv] at HO0
  cases s1 <;> cases s2
  all_goals try (exfalso; cases hs; done)
  all_goals
    clear hs
    go_enter Tryd.func48, Tryd.ntmps48
    go_upto_region 1 with fail
    rw [← hW0, ← hW]
    try rw [z0]
    clear hW0 hW z0
    go_upto_region 4 with go_skip
    clear k1 k2
    rw [← hvv]
    clear hvv
    obtain ⟨B, hB⟩ : ∃ B, B = W.heap.size := ⟨_, rfl⟩
    have HB0 := Lib.hid (Nat.le_of_eq hB)
    rw [← hB] at U1 U2 HO0 HBw
    clear hB
    have N1 := Lib.hid (fun (w' : World) (h : Below B W w') => U1.out.below h)
    have N2 := Lib.hid (fun (w' : World) (h : Below B W w') => U2.out.below h)
    clear U1 U2
    refine with_act fun a0 ha0 => ?_
    have hl : psT.length = a0.tmps.size := by rw [ha0]; rfl
    have k4 : a0.tmps[4]?.getD undef = .pointer (some ⟨w.heap.size, 0, none⟩) := by rw [ha0]; rfl
    have k5 : a0.tmps[5]?.getD undef = .pointer (some ⟨w.heap.size + 1, 0, none⟩) := by rw [ha0]; rfl
    have k9 : a0.tmps[9]?.getD undef = vv := by rw [ha0]; rfl
    refine wp_region_che (by kernel_rfl) psT (by kernel_rfl) (by kernel_rfl) hl (fun i => if i = 7 then a0.tmps[9]?.getD undef else undef) (by rw [ha0]; rfl) (0) (Below B) [3, 6, 7] (by kernel_rfl) (by decide) (by decide) (fun w' => Below B W w' ∧ B ≤ w'.heap.size) (psV vv (w.heap.size) (w.heap.size + 1) B) (psR B vv [] X1 X2) (Nat.zero_le _) ⟨(Below.refl _ _).drew, HB0.out⟩ ⟨by rw [ha0]; rfl, HB0.out, HO0.out.keep fun _ _ _ => rfl⟩ (fun w1 w2 hb hd h => by rcases hd with hd | hd; exact ⟨h.1.trans (hd.mono h.2), Nat.le_trans h.2 hd.size⟩; exact ⟨h.1.trans hd, Nat.le_trans h.2 hd.size⟩) (fun i v w w' _ hd h => psV.keep _ _ _ _ i v w w' hd h) (fun k us us' w w' h _ hb hR => psR.keep _ _ _ _ _ k us us' w w' h hb hR) ⟨?_, ?_, ?_, ?_, ?_, ?_, ?_, ?_, trivial⟩ ?_
    · refine stepE_early 0 0 (.inl rfl) (.inr ⟨_, _, rfl, rfl, by kernel_rfl⟩) [] (by kernel_rfl) (by decide) (by decide) rfl fun us w' k hB hG hV hk hR => ?_
      have hq : us 7 = vv := by
        obtain ⟨h1, h2⟩ := hk
        match k, h1, h2, hR with
        | 0, _, _, hR => exact hR.1
      have o9 := (frame_at2 (us := us) hl (show (psT[9]?).join = some 7 from rfl)).trans hq
      generalize frame psT a0 us = fr at *
      exact val_C (v := vv) (w' := w') (by go_simp) (Below.refl _ _) rfl
    · refine stepE_val [] (by kernel_rfl) (by decide) (by decide) rfl fun us w' hB hG hV => ?_
      have o4 := (frame_old2 (us := us) (a := a0) (show (psT[4]?).join = none from rfl)).trans k4
      generalize frame psT a0 us = fr at *
      exact val_C (v := .pointer (some ⟨w.heap.size, 1, none⟩)) (w' := w') (by go_simp) (Below.refl _ _) rfl
    · refine stepE_val [1] (by kernel_rfl) (by decide) (by decide) rfl fun us w' hB hG hV => ?_
      have e1 : us 1 = .pointer (some ⟨w.heap.size, 1, none⟩) := hV 1 (by simp)
      have v1 := (frame_at2 (us := us) hl (show (psT[20]?).join = some 1 from rfl)).trans e1
      generalize frame psT a0 us = fr at *
      exact val_C (v := .slice (some ⟨w.heap.size, 1, none⟩) 16 16) (w' := w') (by go_simp) (Below.refl _ _) rfl
    · refine stepE_chain 0 rfl (by decide) [0, 2] (by kernel_rfl) (by decide) rfl fun us w' hB hG hV hR => ?_
      have e0 : us 0 = vv := hV 0 (by simp)
      have v0 := (frame_at2 (us := us) hl (show (psT[19]?).join = some 0 from rfl)).trans e0
      have e2 : us 2 = .slice (some ⟨w.heap.size, 1, none⟩) 16 16 := hV 2 (by simp)
      have v2 := (frame_at2 (us := us) hl (show (psT[21]?).join = some 2 from rfl)).trans e2
      generalize frame psT a0 us = fr at *
      obtain ⟨h7, hz, HO⟩ : us 7 = vv ∧ B ≤ w'.heap.size ∧ Own .u8 5 w' B vv [] := hR
      exact append_Jo (R := fun v w'' => (Below B w' w'' ∧ Below 0 w' w'') ∧ psR B vv [] X1 X2 1 (upd us 3 v) w'') (.tmp 19) (.tmp 21) 32 rfl 5 i0 _ 1 Tryd.underlying32 I1.out I2.out I3.out I4.out rfl B _ [] (eval_tmp v0) HO B _ 16 16 Y1 (eval_tmp v2) (N1.out w' hG.1) (by rw [L0.out]; decide) (by rw [L0.out]; decide) hz 16 (by rw [L0.out]) fun A' c' w'' _ _ O' B' => ⟨belowBS B', Nat.le_trans hz B'.size, by rw [upd_same]; exact E1.out ▸ O'⟩
    · refine stepE_val [] (by kernel_rfl) (by decide) (by decide) rfl fun us w' hB hG hV => ?_
      have o5 := (frame_old2 (us := us) (a := a0) (show (psT[5]?).join = none from rfl)).trans k5
      generalize frame psT a0 us = fr at *
      exact val_C (v := .pointer (some ⟨w.heap.size + 1, 1, none⟩)) (w' := w') (by go_simp) (Below.refl _ _) rfl
    · refine stepE_val [4] (by kernel_rfl) (by decide) (by decide) rfl fun us w' hB hG hV => ?_
      have e4 : us 4 = .pointer (some ⟨w.heap.size + 1, 1, none⟩) := hV 4 (by simp)
      have v4 := (frame_at2 (us := us) hl (show (psT[23]?).join = some 4 from rfl)).trans e4
      generalize frame psT a0 us = fr at *
      exact val_C (v := .slice (some ⟨w.heap.size + 1, 1, none⟩) 16 16) (w' := w') (by go_simp) (Below.refl _ _) rfl
    · refine stepE_chain 1 rfl (by decide) [5] (by kernel_rfl) (by decide) rfl fun us w' hB hG hV hR => ?_
      have e5 : us 5 = .slice (some ⟨w.heap.size + 1, 1, none⟩) 16 16 := hV 5 (by simp)
      have v5 := (frame_at2 (us := us) hl (show (psT[24]?).join = some 5 from rfl)).trans e5
      have vc := frame_at2 (us := us) hl (show (psT[22]?).join = some 3 from rfl)
      generalize frame psT a0 us = fr at *
      exact append_Jo (R := fun v w'' => (Below B w' w'' ∧ Below 0 w' w'') ∧ psR B vv [] X1 X2 2 (upd us 6 v) w'') (.tmp 22) (.tmp 24) 32 rfl 5 i0 _ 1 Tryd.underlying32 I1.out I2.out I3.out I4.out rfl B _ X1 (eval_tmp vc) hR.2 B _ 16 16 Y2 (eval_tmp v5) (N2.out w' hG.1) (by rw [L1.out]; decide) (by rw [L1.out]; decide) hR.1 32 (by rw [L1.out]) fun A' c' w'' _ _ O' B' => ⟨belowBS B', Nat.le_trans hR.1 B'.size, by rw [upd_same]; exact E2.out ▸ O'⟩
    · refine stepE_chain 2 rfl (by decide) [] (by kernel_rfl) (by decide) rfl fun us w' hB hG hV hR => ?_
      have vc := frame_at2 (us := us) hl (show (psT[25]?).join = some 6 from rfl)
      generalize frame psT a0 us = fr at *
      exact val_J (R := fun v w'' => (Below B w' w'' ∧ Below 0 w' w'') ∧ psR B vv [] X1 X2 3 (upd us 7 v) w'') (v := us 6) (w' := w') (by go_simp) ⟨belowBS (Below.refl _ _), hR.1, by rw [upd_same]; exact hR.2⟩
    · intro us w2 hB hG hV hR
      subst ha0
      simp only [frame, psT, fill]
      have HR : Hid (Own .u8 5 w2 B (us 7) X2) := Lib.hid hR.2
      have HG := Lib.hid hG.1
      have S2 := Lib.hid (show B ≤ w2.heap.size from hG.2)
      clear hV hR hG hl k4 k5 k9 hB
      generalize us 7 = v9 at *
      have e1 : IntKind.u8.wrap (n / 16777216) = n / 16777216 := IntWalk.u8_in _ (by omega)
      have e2 : IntKind.u8.wrap (n / 65536) = n / 65536 := IntWalk.u8_in _ (by omega)
      have e3 : IntKind.u8.wrap (n / 256) = n / 256 := IntWalk.u8_in _ (by omega)
      have e4 : IntKind.u8.wrap n = n % 256 := IntKind.wrap_u8 n
      have n8 := Lib.hid (lit_nums .u8 w2 [n / 16777216, n / 65536, n / 256, n % 256, 0, 0, 0, p] 5 _ rfl 8 rfl)
      have O8 := Lib.hid (HR.out.alloc (.cells #[.int .u8 (n / 16777216), .int .u8 (n / 65536), .int .u8 (n / 256), .int .u8 (n % 256), .int .u8 0, .int .u8 0, .int .u8 0, .int .u8 p] 5))
      have NB := Lib.hid (alloc_below w2 (.cells #[.int .u8 (n / 16777216), .int .u8 (n / 65536), .int .u8 (n / 256), .int .u8 (n % 256), .int .u8 0, .int .u8 0, .int .u8 0, .int .u8 p] 5))
      have S8 := Lib.hid (show B ≤ (w2.alloc (.cells #[.int .u8 (n / 16777216), .int .u8 (n / 65536), .int .u8 (n / 256), .int .u8 (n % 256), .int .u8 0, .int .u8 0, .int .u8 0, .int .u8 p] 5)).heap.size from Nat.le_trans S2.out NB.out.size)
      go_wp2_with (first
        | (at_builtin; (refine wpList_app _ rfl (.tmp 26) (.tmp 39) _ rfl 5 i0 _ 1 Tryd.underlying32 I1.out I2.out I3.out I4.out rfl B v9 X2 rfl O8.out (w2.heap.size + 1) _ 8 8 [n / 16777216, n / 65536, n / 256, n % 256, 0, 0, 0, p] rfl n8.out (by rw [L2.out]; decide) (by rw [L2.out]; decide) S8.out ?_)
           intro v6 w6 O hg
           have BF := Lib.hid (show Below B w2 w6 from (NB.out.mono S2.out).grown hg S8.out fun q hq => (O8.out.blk q hq).1)
           obtain ⟨A6, c6, ev, g1, g2, -⟩ := O.form
           rw [show (X2 ++ [n / 16777216, n / 65536, n / 256, n % 256, 0, 0, 0, p]).length = 40 by rw [List.length_append, L2.out]; rfl] at ev g1
           subst ev
           have HO := Lib.hid O
           have HL := Lib.hid (And.intro g1 g2)
           clear O hg g1 g2))
      go_ret
      exact ⟨A6, c6, rfl, HL.out.1, HL.out.2, by rw [← E9.out]; exact HO.out.less HBw.out, HBB.out.trans ((HG.out.trans BF.out).mono HBw.out)⟩
set_option maxRecDepth 100000 in
set_option maxHeartbeats 4000000 in
theorem rpse_four (C1 C2 : Array Value) (s1 s2 : Bool) (b1 b2 : List Int) (p n : Int) (w : World) (h1 : chkC.AddrC C1 s1 b1) (h2 : chkC.AddrC C2 s2 b2) (hs : (s1 || s2) = false) (p0 : 0 ≤ p) (p1 : p ≤ 255) (n0 : 0 ≤ n) (n1 : n ≤ 10000) :
    Calls Tryd.prog 48 #[.agg C1, .agg C2, .int .u8 p, .int .i64 n] w (CatRet w (b1.take 4 ++ (b2.take 4 ++ [0, p, n / 256, n % 256])) 12) := by
  obtain ⟨i0, hi0, hz0, hz1, hz2⟩ := info_parts byte_inf
  have I1 := Lib.hid hi0; have I2 := Lib.hid hz0; have I3 := Lib.hid hz1; have I4 := Lib.hid hz2
  obtain ⟨W0, hW0⟩ : ∃ W, W = w.alloc (.cells C1 24) := ⟨_, rfl⟩
  obtain ⟨W, hW⟩ : ∃ W, W = W0.alloc (.cells C2 24) := ⟨_, rfl⟩
  have z0 : W0.heap.size = w.heap.size + 1 := by rw [hW0, alloc_size]
  have z1 : W.heap.size = w.heap.size + 2 := by rw [hW, alloc_size, z0]
  have B0 : Below w.heap.size w W0 := by rw [hW0]; exact alloc_below _ _
  have B1 : Below W0.heap.size W0 W := by rw [hW]; exact alloc_below _ _
  have HB := Lib.hid (show Below w.heap.size w W from B0.trans (B1.mono (by omega)))
  have r1 : W.heap[w.heap.size]? = some (.cells C1 24 (0, 0)) := by rw [B1.block _ (by omega), hW0]; exact heap_alloc_new _ _
  have r2 : W.heap[w.heap.size + 1]? = some (.cells C2 24 (0, 0)) := by rw [hW, ← z0]; exact heap_alloc_new _ _
  have k1 := pkC.PkC.cell r1 h1.six
  have k2 := pkC.PkC.cell r2 h2.six
  have M1 : Nums .u8 W W.heap.size (some ⟨w.heap.size, 1, none⟩) 16 b1 := ⟨h1.len, fun _ => ⟨_, 1, rfl, by omega, fun i hi => pkC.PkC.cell r1 (h1.at_ i hi)⟩⟩
  have M2 : Nums .u8 W W.heap.size (some ⟨w.heap.size + 1, 1, none⟩) 16 b2 := ⟨h2.len, fun _ => ⟨_, 1, rfl, by omega, fun i hi => pkC.PkC.cell r2 (h2.at_ i hi)⟩⟩
  have V1 := M1.upto (show 4 ≤ 16 by decide)
  have V2 := M2.upto (show 4 ≤ 16 by decide)
  generalize b1.take 4 = Y1 at *
  generalize b2.take 4 = Y2 at *
  have U1 := Lib.hid (show Nums .u8 W W.heap.size (some ⟨w.heap.size, 1, none⟩) 4 Y1 from V1)
  have U2 := Lib.hid (show Nums .u8 W W.heap.size (some ⟨w.heap.size + 1, 1, none⟩) 4 Y2 from V2)
  have L0 := Lib.hid (show ([] : List Int).length = 0 from rfl)
  obtain ⟨X1, hX1⟩ : ∃ X, X = [] ++ Y1 := ⟨_, rfl⟩
  obtain ⟨X2, hX2⟩ : ∃ X, X = X1 ++ Y2 := ⟨_, rfl⟩
  have L1 := Lib.hid (show X1.length = 4 by rw [hX1, List.nil_append]; exact V1.len)
  have L2 := Lib.hid (show X2.length = 8 by rw [hX2, List.length_append, L1.out, V2.len])
  have E9 := Lib.hid (show X2 ++ [0, p, n / 256, n % 256] = Y1 ++ (Y2 ++ [0, p, n / 256, n % 256]) by rw [hX2, hX1, List.nil_append, List.append_assoc])
  have E1 := Lib.hid hX1.symm
  have E2 := Lib.hid hX2.symm
  have HBB := HB
  have HBw := Lib.hid (show w.heap.size ≤ W.heap.size from HB.out.size)
  have HO0 := Lib.hid (show Own .u8 5 W W.heap.size (.slice none 0 0) ([] : List Int) from Own.nil _ _)
  have wn : IntKind.u32.wrap n = n := IntWalk.u32_in _ (by omega)
  clear V1 V2 M1 M2 hX1 hX2 h1 h2 r1 r2 B0 B1 z1 HB hi0 hz0 hz1 hz2
  obtain ⟨vv, hvv⟩ : ∃ v : Value, v = .slice none 0 0 := ⟨_, rfl⟩
  rw [← hvv] at HO0
  cases s1 <;> cases s2
  all_goals try (exfalso; cases hs; done)
  all_goals
    clear hs
    go_enter Tryd.func48, Tryd.ntmps48
    go_upto_region 1 with fail
    rw [← hW0, ← hW]
    try rw [z0]
    clear hW0 hW z0
    go_upto_region 6 with go_skip
    clear k1 k2
    rw [← hvv]
    clear hvv
    obtain ⟨B, hB⟩ : ∃ B, B = W.heap.size := ⟨_, rfl⟩
    have HB0 := Lib.hid (Nat.le_of_eq hB)
    rw [← hB] at U1 U2 HO0 HBw
    clear hB
    have N1 := Lib.hid (fun (w' : World) (h : Below B W w') => U1.out.below h)
    have N2 := Lib.hid (fun (w' : World) (h : Below B W w') => U2.out.below h)
    clear U1 U2
    refine with_act fun a0 ha0 => ?_
    have hl : pfT.length = a0.tmps.size := by rw [ha0]; rfl
    have k4 : a0.tmps[4]?.getD undef = .pointer (some ⟨w.heap.size, 0, none⟩) := by rw [ha0]; rfl
    have k5 : a0.tmps[5]?.getD undef = .pointer (some ⟨w.heap.size + 1, 0, none⟩) := by rw [ha0]; rfl
    have k9 : a0.tmps[9]?.getD undef = vv := by rw [ha0]; rfl
    refine wp_region_che (by kernel_rfl) pfT (by kernel_rfl) (by kernel_rfl) hl (fun i => if i = 7 then a0.tmps[9]?.getD undef else undef) (by rw [ha0]; rfl) (0) (Below B) [3, 6, 7] (by kernel_rfl) (by decide) (by decide) (fun w' => Below B W w' ∧ B ≤ w'.heap.size) (pfV vv (w.heap.size) (w.heap.size + 1) B) (psR B vv [] X1 X2) (Nat.zero_le _) ⟨(Below.refl _ _).drew, HB0.out⟩ ⟨by rw [ha0]; rfl, HB0.out, HO0.out.keep fun _ _ _ => rfl⟩ (fun w1 w2 hb hd h => by rcases hd with hd | hd; exact ⟨h.1.trans (hd.mono h.2), Nat.le_trans h.2 hd.size⟩; exact ⟨h.1.trans hd, Nat.le_trans h.2 hd.size⟩) (fun i v w w' _ hd h => pfV.keep _ _ _ _ i v w w' hd h) (fun k us us' w w' h _ hb hR => psR.keep _ _ _ _ _ k us us' w w' h hb hR) ⟨?_, ?_, ?_, ?_, ?_, ?_, ?_, ?_, trivial⟩ ?_
    · refine stepE_early 0 0 (.inl rfl) (.inr ⟨_, _, rfl, rfl, by kernel_rfl⟩) [] (by kernel_rfl) (by decide) (by decide) rfl fun us w' k hB hG hV hk hR => ?_
      have hq : us 7 = vv := by
        obtain ⟨h1, h2⟩ := hk
        match k, h1, h2, hR with
        | 0, _, _, hR => exact hR.1
      have o9 := (frame_at2 (us := us) hl (show (pfT[9]?).join = some 7 from rfl)).trans hq
      generalize frame pfT a0 us = fr at *
      exact val_C (v := vv) (w' := w') (by go_simp) (Below.refl _ _) rfl
    · refine stepE_val [] (by kernel_rfl) (by decide) (by decide) rfl fun us w' hB hG hV => ?_
      have o4 := (frame_old2 (us := us) (a := a0) (show (pfT[4]?).join = none from rfl)).trans k4
      generalize frame pfT a0 us = fr at *
      exact val_C (v := .pointer (some ⟨w.heap.size, 1, none⟩)) (w' := w') (by go_simp) (Below.refl _ _) rfl
    · refine stepE_val [1] (by kernel_rfl) (by decide) (by decide) rfl fun us w' hB hG hV => ?_
      have e1 : us 1 = .pointer (some ⟨w.heap.size, 1, none⟩) := hV 1 (by simp)
      have v1 := (frame_at2 (us := us) hl (show (pfT[42]?).join = some 1 from rfl)).trans e1
      generalize frame pfT a0 us = fr at *
      exact val_C (v := .slice (some ⟨w.heap.size, 1, none⟩) 4 16) (w' := w') (by go_simp) (Below.refl _ _) rfl
    · refine stepE_chain 0 rfl (by decide) [0, 2] (by kernel_rfl) (by decide) rfl fun us w' hB hG hV hR => ?_
      have e0 : us 0 = vv := hV 0 (by simp)
      have v0 := (frame_at2 (us := us) hl (show (pfT[41]?).join = some 0 from rfl)).trans e0
      have e2 : us 2 = .slice (some ⟨w.heap.size, 1, none⟩) 4 16 := hV 2 (by simp)
      have v2 := (frame_at2 (us := us) hl (show (pfT[43]?).join = some 2 from rfl)).trans e2
      generalize frame pfT a0 us = fr at *
      obtain ⟨h7, hz, HO⟩ : us 7 = vv ∧ B ≤ w'.heap.size ∧ Own .u8 5 w' B vv [] := hR
      exact append_Jo (R := fun v w'' => (Below B w' w'' ∧ Below 0 w' w'') ∧ psR B vv [] X1 X2 1 (upd us 3 v) w'') (.tmp 41) (.tmp 43) 32 rfl 5 i0 _ 1 Tryd.underlying32 I1.out I2.out I3.out I4.out rfl B _ [] (eval_tmp v0) HO B _ 4 16 Y1 (eval_tmp v2) (N1.out w' hG.1) (by rw [L0.out]; decide) (by rw [L0.out]; decide) hz 4 (by rw [L0.out]) fun A' c' w'' _ _ O' B' => ⟨belowBS B', Nat.le_trans hz B'.size, by rw [upd_same]; exact E1.out ▸ O'⟩
    · refine stepE_val [] (by kernel_rfl) (by decide) (by decide) rfl fun us w' hB hG hV => ?_
      have o5 := (frame_old2 (us := us) (a := a0) (show (pfT[5]?).join = none from rfl)).trans k5
      generalize frame pfT a0 us = fr at *
      exact val_C (v := .pointer (some ⟨w.heap.size + 1, 1, none⟩)) (w' := w') (by go_simp) (Below.refl _ _) rfl
    · refine stepE_val [4] (by kernel_rfl) (by decide) (by decide) rfl fun us w' hB hG hV => ?_
      have e4 : us 4 = .pointer (some ⟨w.heap.size + 1, 1, none⟩) := hV 4 (by simp)
      have v4 := (frame_at2 (us := us) hl (show (pfT[45]?).join = some 4 from rfl)).trans e4
      generalize frame pfT a0 us = fr at *
      exact val_C (v := .slice (some ⟨w.heap.size + 1, 1, none⟩) 4 16) (w' := w') (by go_simp) (Below.refl _ _) rfl
    · refine stepE_chain 1 rfl (by decide) [5] (by kernel_rfl) (by decide) rfl fun us w' hB hG hV hR => ?_
      have e5 : us 5 = .slice (some ⟨w.heap.size + 1, 1, none⟩) 4 16 := hV 5 (by simp)
      have v5 := (frame_at2 (us := us) hl (show (pfT[46]?).join = some 5 from rfl)).trans e5
      have vc := frame_at2 (us := us) hl (show (pfT[44]?).join = some 3 from rfl)
      generalize frame pfT a0 us = fr at *
      exact append_Jo (R := fun v w'' => (Below B w' w'' ∧ Below 0 w' w'') ∧ psR B vv [] X1 X2 2 (upd us 6 v) w'') (.tmp 44) (.tmp 46) 32 rfl 5 i0 _ 1 Tryd.underlying32 I1.out I2.out I3.out I4.out rfl B _ X1 (eval_tmp vc) hR.2 B _ 4 16 Y2 (eval_tmp v5) (N2.out w' hG.1) (by rw [L1.out]; decide) (by rw [L1.out]; decide) hR.1 8 (by rw [L1.out]) fun A' c' w'' _ _ O' B' => ⟨belowBS B', Nat.le_trans hR.1 B'.size, by rw [upd_same]; exact E2.out ▸ O'⟩
    · refine stepE_chain 2 rfl (by decide) [] (by kernel_rfl) (by decide) rfl fun us w' hB hG hV hR => ?_
      have vc := frame_at2 (us := us) hl (show (pfT[47]?).join = some 6 from rfl)
      generalize frame pfT a0 us = fr at *
      exact val_J (R := fun v w'' => (Below B w' w'' ∧ Below 0 w' w'') ∧ psR B vv [] X1 X2 3 (upd us 7 v) w'') (v := us 6) (w' := w') (by go_simp) ⟨belowBS (Below.refl _ _), hR.1, by rw [upd_same]; exact hR.2⟩
    · intro us w2 hB hG hV hR
      subst ha0
      simp only [frame, pfT, fill]
      have HR : Hid (Own .u8 5 w2 B (us 7) X2) := Lib.hid hR.2
      have HG := Lib.hid hG.1
      have S2 := Lib.hid (show B ≤ w2.heap.size from hG.2)
      clear hV hR hG hl k4 k5 k9 hB
      generalize us 7 = v9 at *
      have e1 : IntKind.u8.wrap (n / 16777216) = n / 16777216 := IntWalk.u8_in _ (by omega)
      have e2 : IntKind.u8.wrap (n / 65536) = n / 65536 := IntWalk.u8_in _ (by omega)
      have e3 : IntKind.u8.wrap (n / 256) = n / 256 := IntWalk.u8_in _ (by omega)
      have e4 : IntKind.u8.wrap n = n % 256 := IntKind.wrap_u8 n
      have n8 := Lib.hid (lit_nums .u8 w2 [0, p, n / 256, n % 256] 5 _ rfl 4 rfl)
      have O8 := Lib.hid (HR.out.alloc (.cells #[.int .u8 0, .int .u8 p, .int .u8 (n / 256), .int .u8 (n % 256)] 5))
      have NB := Lib.hid (alloc_below w2 (.cells #[.int .u8 0, .int .u8 p, .int .u8 (n / 256), .int .u8 (n % 256)] 5))
      have S8 := Lib.hid (show B ≤ (w2.alloc (.cells #[.int .u8 0, .int .u8 p, .int .u8 (n / 256), .int .u8 (n % 256)] 5)).heap.size from Nat.le_trans S2.out NB.out.size)
      go_wp2_with (first
        | (at_builtin; (refine wpList_app _ rfl (.tmp 48) (.tmp 55) _ rfl 5 i0 _ 1 Tryd.underlying32 I1.out I2.out I3.out I4.out rfl B v9 X2 rfl O8.out (w2.heap.size + 1) _ 4 4 [0, p, n / 256, n % 256] rfl n8.out (by rw [L2.out]; decide) (by rw [L2.out]; decide) S8.out ?_)
           intro v6 w6 O hg
           have BF := Lib.hid (show Below B w2 w6 from (NB.out.mono S2.out).grown hg S8.out fun q hq => (O8.out.blk q hq).1)
           obtain ⟨A6, c6, ev, g1, g2, -⟩ := O.form
           rw [show (X2 ++ [0, p, n / 256, n % 256]).length = 12 by rw [List.length_append, L2.out]; rfl] at ev g1
           subst ev
           have HO := Lib.hid O
           have HL := Lib.hid (And.intro g1 g2)
           clear O hg g1 g2))
      go_ret
      exact ⟨A6, c6, rfl, HL.out.1, HL.out.2, by rw [← E9.out]; exact HO.out.less HBw.out, HBB.out.trans ((HG.out.trans BF.out).mono HBw.out)⟩
theorem rpse_any {C1 C2 : Array Value} {s1 s2 : Bool} {b1 b2 : List Int} {p n : Int} (h1 : chkC.AddrC C1 s1 b1) (h2 : chkC.AddrC C2 s2 b2) (p0 : 0 ≤ p) (p1 : p ≤ 255) (n0 : 0 ≤ n) (n1 : n ≤ 10000) (w : World) :
    Calls Tryd.prog 48 #[.agg C1, .agg C2, .int .u8 p, .int .i64 n] w (CatRet w (pseL s1 s2 b1 b2 p n) (pseN s1 s2)) := by
  unfold pseL pseN
  by_cases hs : (s1 || s2) = true
  · rw [if_pos hs, if_pos hs]
    exact rpse_six C1 C2 s1 s2 b1 b2 p n w h1 h2 hs p0 p1 n0 n1
  · rw [if_neg hs, if_neg hs]
    exact rpse_four C1 C2 s1 s2 b1 b2 p n w h1 h2 (by simpa using hs) p0 p1 n0 n1
theorem rsum2_on {w w0 : World} {A A' : Option Addr} {n c n' c' : Nat} {bs bs' : List Int} {f : Int} (B : Below w.heap.size w w0) (h : PartAt w0 w0.heap.size ⟨A, n, c, bs⟩) (h' : PartAt w0 w0.heap.size ⟨A', n', c', bs'⟩) (hf : chkM.fo (chkM.wsum bs + chkM.wsum bs') = f) :
    Calls Tryd.prog 47 #[.slice (some ⟨w0.heap.size, 0, none⟩) 2 2] (w0.alloc (.cells #[.slice A n c, .slice A' n' c'] 32)) (chkC.NumRet w f) :=
  (chkC.sumref_any _ 2 2 _ _ (chkC.parts2 h h' 32) (by decide) rfl).mono fun e w' ⟨he, hw⟩ =>
    ⟨by rw [he]; exact chkC.ret_int (by rw [← hf]; exact congrArg chkM.fo (by simp [chkC.numsOf, chkM.psum])), by rw [← hw]; exact B.trans ((alloc_below w0 _).mono B.size)⟩
set_option maxRecDepth 100000 in
set_option maxHeartbeats 1000000 in
theorem rload_any (cs1 cs2 : Array Value) (p : Int) (A : Option Addr) (n c N : Nat) (T bs : List Int) (f : Int) (w : World) (z1 : cs1.size = 17) (z2 : cs2.size = 17) (hN : N ≤ 100) (hT : ∀ x ∈ T, Byte x)
    (hP : ∀ w, Calls Tryd.prog 48 #[.agg cs1, .agg cs2, .int .u8 p, .int .i64 n] w (CatRet w T N)) (hb : PartAt w w.heap.size ⟨A, n, c, bs⟩) (hf : f = 65535 - chkM.fo (chkM.wsum T + chkM.wsum bs)) :
    Calls Tryd.prog 34 #[.agg cs1, .agg cs2, .int .u8 p, .slice A n c] w (chkC.NumRet w f) := by
  have g1 := heap_alloc2_old w (.cells cs1 24) (.cells cs2 24)
  have g2 := heap_alloc2_new w (.cells cs1 24) (.cells cs2 24)
  have u1 : (Tryd.prog.info? 24).map (·.size) = some cs1.size := by rw [z1]; exact chkC.addr_info
  have u2 : (Tryd.prog.info? 24).map (·.size) = some cs2.size := by rw [z2]; exact chkC.addr_info
  have BW : Below w.heap.size w ((w.alloc (.cells cs1 24)).alloc (.cells cs2 24)) := ((Below.refl _ _).alloc (Nat.le_refl _) _).alloc (by simp) _
  have hn := hb.few
  simp only at hn
  have G1 := Lib.hid g1; have G2 := Lib.hid g2; have U1 := Lib.hid u1; have U2 := Lib.hid u2
  have PP := Lib.hid hP
  obtain ⟨q, hq⟩ : ∃ q, q = chkM.fo (chkM.wsum T + chkM.wsum bs) := ⟨_, rfl⟩
  have fb := chkM.fo_bd (chkM.wsum T + chkM.wsum bs)
  rw [← hq] at fb hf
  have HQ := Lib.hid hq.symm
  obtain ⟨fb0, fb1⟩ := fb
  have n1 := chkC.not16 fb0 fb1
  have HF := Lib.hid hf
  clear g1 g2 u1 u2 z1 z2 hf hP hq
  go_enter Tryd.func34, Tryd.ntmps34
  go_wp2_with (first
    | (refine wpList_load_row rfl 24 (.tmp 4) rfl w.heap.size rfl _ cs1 _ _ G1.out Tryd.underlying24 rfl U1.out ?_)
    | (refine wpList_load_row rfl 24 (.tmp 5) rfl (w.heap.size + 1) rfl _ cs2 _ _ G2.out Tryd.underlying24 rfl U2.out ?_)
    | (go_at_call 48; (refine (PP.out _).mono ?_)
       rintro e w3 ⟨A3, c3, rfl, g1, g2, O3, B3⟩
       have B4 : Below w.heap.size w w3 := BW.trans (B3.mono BW.size)
       have P3 : PartAt w3 w3.heap.size ⟨A3, N, c3, T⟩ := ⟨O3.nums, by show N ≤ 10000; omega, hT⟩)
    | (go_at_call 47; ((with_reducible refine (rsum2_on B4 P3 (hb.past B4) HQ.out).mono ?_); rintro e w5 ⟨rfl, B5⟩)))
  go_ret
  exact ⟨chkC.ret_int HF.out.symm, B5⟩
end Go.Proofs.YtniimgbljhmcoaaDoor.sgC

/-
  The bytes of a segment, and Lay: the document's.
-/
namespace Go.Proofs.YtniimgbljhmcoaaDoor.sgC
open Go.ChangeShapes Go.WideShapes Go.ChangeAt Go.RowKit
open Go.Proofs.YtniimgbljhmcoaaDoor.memC Go.Proofs.YtniimgbljhmcoaaDoor.genC Go.Proofs.YtniimgbljhmcoaaDoor.butC Go.Proofs.YtniimgbljhmcoaaDoor.freeC Go.Proofs.YtniimgbljhmcoaaDoor.adC
open Go.Proofs.YtniimgbljhmcoaaDoor.octC (numL getZ putL)
open Go.Proofs.YtniimgbljhmcoaaDoor.opC (Kd Prs optL optV mayB gr_drewG)
open Go.Proofs.YtniimgbljhmcoaaDoor.pkC (OwnE)
set_option linter.unusedVariables false
/-- the segment's bytes as they grow -/
def byR (B : Nat) (vv : Value) (X0 X1 X2 : List Int) : Nat → (Nat → Value) → World → Prop
  | 0, _, w => Own .u8 5 w B vv X0
  | 1, us, w => Own .u8 5 w B (us 2) X1
  | 2, us, w => Own .u8 5 w B (us 5) X2
  | 3, us, w => Own .u8 5 w B (us 6) X2
  | _, _, _ => True
theorem byR.keep (B : Nat) (vv : Value) (X0 X1 X2 : List Int) (k : Nat) (us us' : Nat → Value) (w w' : World) (h : ∀ x ∈ [2, 5, 6], us' x = us x) (hB : B ≤ w.heap.size) (hb : Below w.heap.size w w') (hR : byR B vv X0 X1 X2 k us w) : byR B vv X0 X1 X2 k us' w' := by
  have h4 := h 2 (by simp); have h8 := h 5 (by simp); have h9 := h 6 (by simp)
  unfold byR at hR ⊢
  split at hR <;> first | exact hR.below hb | (rw [h4]; exact hR.below hb) | (rw [h8]; exact hR.below hb) | (rw [h9]; exact hR.below hb) | trivial
theorem byR.m1 {B : Nat} {vv v : Value} {X0 X1 X2 : List Int} {us : Nat → Value} {w : World} (h : Own .u8 5 w B v X1) : byR B vv X0 X1 X2 1 (upd us 2 v) w := by
  show Own .u8 5 w B (upd us 2 v 2) X1
  rw [upd_same]; exact h
theorem byR.m2 {B : Nat} {vv v : Value} {X0 X1 X2 : List Int} {us : Nat → Value} {w : World} (h : Own .u8 5 w B v X2) : byR B vv X0 X1 X2 2 (upd us 5 v) w := by
  show Own .u8 5 w B (upd us 5 v 5) X2
  rw [upd_same]; exact h
theorem byR.m3 {B : Nat} {vv v : Value} {X0 X1 X2 : List Int} {us : Nat → Value} {w : World} (h : Own .u8 5 w B v X2) : byR B vv X0 X1 X2 3 (upd us 6 v) w := by
  show Own .u8 5 w B (upd us 6 v 6) X2
  rw [upd_same]; exact h
def byV (vv : Value) (g0 : Nat) (A3 : Option Addr) (n3 c3 : Nat) (Bx : Option Addr) (m d : Nat) : Nat → Value → World → Prop
  | 0, v, _ => v = vv
  | 1, v, _ => v = .slice A3 n3 c3
  | 3, v, _ => v = .pointer (some ⟨g0, 31, none⟩)
  | 4, v, _ => v = .slice Bx m d
  | _, _, _ => True
theorem byV.keep (vv : Value) (g0 : Nat) (A3 : Option Addr) (n3 c3 : Nat) (Bx : Option Addr) (m d : Nat) (i : Nat) (v : Value) (w w' : World) (h : byV vv g0 A3 n3 c3 Bx m d i v w) : byV vv g0 A3 n3 c3 Bx m d i v w' := by
  unfold byV at h ⊢
  split at h <;> exact h
def byT : List (Option Nat) := [none, none, none, none, some 6, none, none, none, none, none, none, none, none, none, none, none, none, none, none, none, none, none, none, none, none, none, none, none, none, none, none, none, none, none, none, none, none, none, none, none, none, none, none, none, none, none, none, none, none, none, none, none, none, some 0, some 1, some 2, some 3, some 4, some 5]
/-- some bytes of the call's own -/
def OwnN (w : World) (N : Nat) (T : List Int) (e : Ending) (w' : World) : Prop := ∃ A c, e = .returned (.slice A N c) ∧ Own .u8 5 w' w.heap.size (.slice A N c) T ∧ Below w.heap.size w w'
set_option maxRecDepth 100000 in
set_option maxHeartbeats 8000000 in
theorem rbytes_any (s : Sg) (A : Option Addr) (n c : Nat) (B : Option Addr) (m d : Nat) (xs : List Int) (ck : Int) (w : World) (hs : s.Ok) (hn : s.op.sk.length = n) (hA : Prs w w.heap.size A n s.op.sk) (hnm : n ≤ 600) (hmb : mayB s.op = true)
    (hx : Nums .u8 w w.heap.size B m xs) (hm9 : m ≤ 20000) (k0 : 0 ≤ ck) (k1 : ck ≤ 65535) :
    Calls Tryd.prog 33 #[.agg (segV s A n c B m d), .int .u16 ck] w (OwnN w (bytesS s xs ck).length (bytesS s xs ck)) := by
  have hxl := hx.len
  obtain ⟨W, hW⟩ : ∃ W, W = w.alloc (.cells (segV s A n c B m d) 34) := ⟨_, rfl⟩
  have HB := Lib.hid (show Below w.heap.size w W by rw [hW]; exact alloc_below _ _)
  have R3 := Lib.hid (show W.heap[w.heap.size]? = some (.cells (segV s A n c B m d) 34 (0, 0)) by rw [hW]; exact heap_alloc_new _ _)
  have OC := segC hs.op.lm A n c B m d
  have KR := Lib.hid (fun (w' : World) (h : Below W.heap.size W w') => (show w'.heap[w.heap.size]? = some (.cells (segV s A n c B m d) 34 (0, 0)) by rw [h.block _ (lt_of_row R3.out)]; exact R3.out))
  have KX := fun (k : Nat) (v : Value) (h : (segV s A n c B m d)[k]? = some v) (w' : World) (hb : Below W.heap.size W w') => pkC.PkC.cell (KR.out w' hb) h
  have KS := Lib.hid (KX 0 _ OC.sp)
  have KD := Lib.hid (KX 1 _ OC.dp)
  have KQ := Lib.hid (KX 2 _ OC.sq)
  have KA := Lib.hid (KX 3 _ OC.ak)
  have KF := Lib.hid (KX 4 _ OC.fl)
  have KW := Lib.hid (KX 5 _ OC.wi)
  have KU := Lib.hid (KX 6 _ OC.ur)
  have KT0 := Lib.hid (KX 31 _ OC.da)
  have KO := Lib.hid (pkC.PkC.part R3.out OC.op)
  have IO0 := Lib.hid (opt_infoL hs.op.lm A n c)
  have LC := opC.rlay_any s.op A n c W hs.op hn ((hA.below HB.out).more HB.out.size) hnm
  have XN := Lib.hid (fun (w' : World) (h : Below W.heap.size W w') => (show Nums .u8 w' w.heap.size B m xs from hx.below (HB.out.trans (h.mono HB.out.size))))
  have HWW := Lib.hid (Below.refl W.heap.size W)
  have SW := Lib.hid HB.out.size
  rw [show optV s.op A n c = (optL s.op A n c).toArray from rfl] at LC
  rw [show opC.layX s.op = opC.layL s.op by unfold opC.layX; rw [if_pos hmb], show opC.layE s.op = 0 by unfold opC.layE; rw [if_pos hmb]] at LC
  have LC := Lib.hid LC
  have hol : (opC.layL s.op).length ≤ 40 := by rw [opC.lay_len hs.op.lm]; simp only [mayB, Bool.and_eq_true, decide_eq_true_eq] at hmb; exact hmb.2.2.2
  have E2 : headS s (opC.layL s.op).length ck = putL (putL (putL [] 2 [s.sp, s.dp]) 4 [s.sq, s.ak] ++ [(((20 + (opC.layL s.op).length) / 4 * 16 : Nat) : Int), s.fl]) 2 [s.wi, ck, s.ur] := rfl
  have E3 : bytesS s xs ck = (headS s (opC.layL s.op).length ck ++ opC.layL s.op) ++ xs := by unfold bytesS; rw [List.append_assoc]
  have hlh := headS_len s (opC.layL s.op).length ck
  have hbl := bytesS_len s xs ck
  have VS : IntKind.u64.wrap s.sp = s.sp := IntWalk.u64_in _ (by have := hs.sp; unfold U16 at this; omega)
  have VD : IntKind.u64.wrap s.dp = s.dp := IntWalk.u64_in _ (by have := hs.dp; unfold U16 at this; omega)
  have VQ : IntKind.u64.wrap s.sq = s.sq := IntWalk.u64_in _ (by have := hs.sq; unfold opC.U32 at this; omega)
  have VA : IntKind.u64.wrap s.ak = s.ak := IntWalk.u64_in _ (by have := hs.ak; unfold opC.U32 at this; omega)
  have VW : IntKind.u64.wrap s.wi = s.wi := IntWalk.u64_in _ (by have := hs.wi; unfold U16 at this; omega)
  have VU : IntKind.u64.wrap s.ur = s.ur := IntWalk.u64_in _ (by have := hs.ur; unfold U16 at this; omega)
  have VC : IntKind.u64.wrap ck = ck := IntWalk.u64_in _ (by omega)
  have hfb := hs.fl
  obtain ⟨T1, hT1⟩ : ∃ T, T = putL [] 2 [s.sp, s.dp] := ⟨_, rfl⟩
  have L1' : T1.length = 4 := by rw [hT1]; simp [putL, List.flatMap_cons, opC.numL_len]
  rw [← hT1] at E2
  obtain ⟨T2, hT2⟩ : ∃ T, T = putL T1 4 [s.sq, s.ak] := ⟨_, rfl⟩
  have L2' : T2.length = 12 := by rw [hT2]; simp [putL, List.flatMap_cons, opC.numL_len, L1']
  rw [← hT2] at E2
  obtain ⟨ol, hole⟩ : ∃ ol, ol = (opC.layL s.op).length := ⟨_, rfl⟩
  rw [← hole] at hol hbl E2 E3 hlh
  obtain ⟨hb, hhb⟩ : ∃ hb : Int, hb = (((20 + ol) / 4 * 16 : Nat) : Int) := ⟨_, rfl⟩
  rw [← hhb] at E2
  obtain ⟨T3, hT3⟩ : ∃ T, T = T2 ++ [hb, s.fl] := ⟨_, rfl⟩
  have L3' : T3.length = 14 := by rw [hT3, List.length_append, L2']; rfl
  have Y3 : ∀ x ∈ T3, Byte x := by
    intro x hx2
    rw [hT3] at hx2
    rcases List.mem_append.1 hx2 with h | h
    · rw [hT2, hT1] at h; exact putL_byte (putL_byte (by simp) _ _) _ _ x h
    · simp at h
      rcases h with rfl | rfl
      · rw [hhb]; unfold Byte; omega
      · exact hfb
  rw [← hT3] at E2
  obtain ⟨L2, hL2⟩ : ∃ N, N = (bytesS s xs ck).length := ⟨_, rfl⟩
  rw [← hL2]
  rw [← hL2] at hbl
  generalize bytesS s xs ck = X2 at *
  generalize headS s ol ck = X0 at *
  obtain ⟨X1, hX1⟩ : ∃ X, X = X0 ++ opC.layL s.op := ⟨_, rfl⟩
  rw [← hX1] at E3
  generalize s.sp = sp at *
  generalize s.dp = dp at *
  generalize s.sq = sq at *
  generalize s.ak = ak at *
  generalize s.fl = fl at *
  generalize s.wi = wi at *
  generalize s.ur = ur at *
  generalize opC.layL s.op = OL at *
  have P1 := Lib.hid (fun w' => rput_lit w' (key_none w') [sp, dp] #[.int .u64 sp, .int .u64 dp] 2 2 2 4 T1 rfl rfl rfl (by decide) (by decide) (by decide) hT1.symm L1')
  have P2 := Lib.hid (fun (w' : World) (A : Option Addr) (c : Nat) (K : kdC.Key w' A 4 c T1) => rput_lit w' K [sq, ak] #[.int .u64 sq, .int .u64 ak] 2 4 4 12 T2 rfl rfl rfl (by decide) (by decide) (by decide) hT2.symm L2')
  have P4 := Lib.hid (fun (w' : World) (A : Option Addr) (c : Nat) (K : kdC.Key w' A 14 c T3) => rput_lit w' K [wi, ck, ur] #[.int .u64 wi, .int .u64 ck, .int .u64 ur] 3 2 2 20 X0 rfl rfl rfl (by decide) (by decide) (by decide) E2.symm hlh)
  unfold PutR at P1 P2 P4
  obtain ⟨i0, hi0, hz0, hz1, hz2⟩ := info_parts byte_inf
  have I1 := Lib.hid hi0; have I2 := Lib.hid hz0; have I3 := Lib.hid hz1; have I4 := Lib.hid hz2
  obtain ⟨L1, hL1⟩ : ∃ N, N = 20 + ol := ⟨_, rfl⟩
  have HL1 := Lib.hid hL1.symm
  have HL2 := Lib.hid (show L1 + m = L2 by omega)
  have LX0 := Lib.hid hlh
  have LX1 := Lib.hid (show X1.length = L1 by rw [hX1, List.length_append, hlh, ← hole, hL1])
  have LX2 := Lib.hid hL2.symm
  have E1H := Lib.hid hX1.symm
  have E2H := Lib.hid E3.symm
  have HM9 := Lib.hid hm9
  have HOL := Lib.hid hol
  have HOLE := Lib.hid hole
  have LT2 := Lib.hid L2'
  have LT3 := Lib.hid L3'
  have YT3 := Lib.hid Y3
  have ET3 := Lib.hid hT3
  have hd4 : (ol : Int).tdiv 4 = ((ol / 4 : Nat) : Int) := by rw [Int.tdiv_eq_ediv_of_nonneg (by omega)]; omega
  obtain ⟨o4, ho4⟩ : ∃ q : Nat, q = ol / 4 := ⟨_, rfl⟩
  rw [← ho4] at hd4
  have o40 : o4 ≤ 10 := by omega
  have hb9 : hb = 16 * (5 + (o4 : Int)) := by omega
  have b1 : 16 * (5 + (o4 : Int)) ≤ 255 := by omega
  have HB9 := Lib.hid hb9
  generalize segV s A n c B m d = CP at *
  generalize optL s.op A n c = L0 at *
  clear hs hn hA hnm hx OC KX hmb hm9 hol hbl E2 E3 hlh hT1 hT2 hT3 hfb L1' L2' L3' Y3 hole hxl hi0 hz0 hz1 hz2 hL1 hL2 hX1 k0 k1 ho4 hhb
  subst hb9
  go_enter Tryd.func33, Tryd.ntmps33
  try simp only [List.append_eq, List.cons_append, List.nil_append]
  go_upto_region 1 with fail
  rw [← hW]
  clear hW
  go_upto_region 2 with (first
    | (with_reducible refine atC.at_load 31 9 ?_; refine pkC.wpList_load_partG (by kernel_rfl) 31 (.tmp 9) rfl (w.heap.size) 7 (by kernel_rfl) L0 _ KO.out Tryd.underlying31 rfl IO0.out ?_)
    | (go_at_call 66; (refine LC.out.mono ?_); rintro e w3 ⟨A3, n3, c3, rfl, O3, BB⟩
       obtain rfl : n3 = ol := by rw [HOLE.out]; exact O3.len.symm
       have HW3 := Lib.hid BB
       have HO3 := Lib.hid (show Own .u8 5 w3 W.heap.size (.slice A3 n3 c3) OL from O3)
       have k0 := KS.out w3 HW3.out
       have k1 := KD.out w3 HW3.out
       clear O3 BB))
  clear LC
  go_upto_region 3 with (first
    | (go_at_call 67; (refine (P1.out _).mono ?_); rintro e w4 ⟨A4, c4, rfl, O4, K4, BB⟩
       have HW4 := Lib.hid (HW3.out.trans (BB.mono HW3.out.size))
       have HO4 := Lib.hid (HO3.out.below BB)
       have HK4 := Lib.hid K4
       have k2 := KQ.out w4 HW4.out
       have k3 := KA.out w4 HW4.out
       clear O4 K4 BB))
  clear k0 k1 P1 HO3 HW3 VS VD
  go_upto_region 4 with (first
    | (go_at_call 67; (refine (P2.out _ _ _ HK4.out).mono ?_); rintro e w5 ⟨A5, c5, rfl, O5, K5, BB⟩
       have HW5 := Lib.hid (HW4.out.trans (BB.mono HW4.out.size))
       have HT5 := Lib.hid O5
       have BB5 := Lib.hid BB
       have k4 := KF.out w5 HW5.out
       clear O5 K5 BB))
  clear k2 k3 P2 HK4 VQ VA
  have n2 := Lib.hid (lit_nums .u8 w5 [16 * (5 + (o4 : Int)), fl] 5 _ rfl 2 rfl)
  have O5A := Lib.hid (HT5.out.alloc (.cells #[.int .u8 (16 * (5 + (o4 : Int))), .int .u8 fl] 5))
  have S5 := Lib.hid (show w4.heap.size ≤ (w5.alloc (.cells #[.int .u8 (16 * (5 + (o4 : Int))), .int .u8 fl] 5)).heap.size by rw [alloc_size]; have := BB5.out.size; omega)
  have NB5 := Lib.hid (alloc_below w5 (.cells #[.int .u8 (16 * (5 + (o4 : Int))), .int .u8 fl] 5))
  go_upto_region 5 with (at_builtin
                         (refine wpList_app _ rfl (.tmp 31) (.tmp 40) _ rfl 5 i0 _ 1 Tryd.underlying32 I1.out I2.out I3.out I4.out rfl w4.heap.size _ T2 rfl O5A.out (w5.heap.size + 1) _ 2 2 [16 * (5 + (o4 : Int)), fl] rfl n2.out (by rw [LT2.out]; unfold maxLen; omega) (by rw [LT2.out]; omega) S5.out ?_)
                         intro v6 w6 O hg
                         have B6 := Lib.hid (show Below w4.heap.size w4 w6 from (BB5.out.trans (NB5.out.mono BB5.out.size)).grown hg S5.out fun q hq => (O5A.out.blk q hq).1)
                         have HW6 := Lib.hid (HW4.out.trans (B6.out.mono HW4.out.size))
                         have HO6 := Lib.hid (HO4.out.below B6.out)
                         have k5 := KW.out w6 HW6.out
                         have k6 := KU.out w6 HW6.out
                         obtain ⟨A6, c6, ev, g1, g2, N6⟩ := O.form
                         rw [← ET3.out, LT3.out] at ev g1 N6
                         subst ev
                         have HK6 := Lib.hid (show kdC.Key w6 A6 14 c6 T3 from ⟨N6, YT3.out, g1, by unfold maxLen at g2; omega⟩)
                         clear O hg g1 g2 N6)
  clear HW4 HO4 HW5 BB5 HT5 O5A S5 NB5 B6 n2 k4 ET3 YT3 LT2 LT3 hd4 b1 HB9 o40
  go_upto_region 6 with (first
    | (go_at_call 67; (refine (P4.out _ _ _ HK6.out).mono ?_); rintro e w7 ⟨A7, c7, rfl, O7, K7, BB⟩
       have HW7 := Lib.hid (HW6.out.trans (BB.mono HW6.out.size))
       have HB7 := Lib.hid BB
       have HO0 := Lib.hid O7
       clear O7 K7 BB))
  have HB0 := Lib.hid HB7.out.size
  have HBw := Lib.hid (Nat.le_trans SW.out HW6.out.size)
  have HBB := Lib.hid (HB.out.trans (HW7.out.mono SW.out))
  have NO0 := Lib.hid (show Nums .u8 w7 w6.heap.size A3 n3 OL from HO6.out.nums.below HB7.out)
  have NX0 := Lib.hid (show Nums .u8 w7 w6.heap.size B m xs from ((XN.out w6 HW6.out).more HBw.out).below HB7.out)
  have KT1 := Lib.hid (show ∀ w' (h : Below w6.heap.size w7 w'), w'.cell? ⟨w.heap.size, 31, none⟩ = some (.slice B m d) from fun w' h => KT0.out w' (HW6.out.trans ((HB7.out.trans h).mono HW6.out.size)))
  clear P4 HW6 HK6 k5 k6 VW VU VC HO6 HW7 HB7 KR KS KD KQ KA KF KW KU KT0 KO IO0 XN HWW R3
  obtain ⟨vv, hvv⟩ : ∃ v : Value, v = .slice A7 20 c7 := ⟨_, rfl⟩
  rw [← hvv]
  rw [← hvv] at HO0
  clear hvv
  generalize w6.heap.size = BX at *
  have NO := Lib.hid (fun (w' : World) (h : Below BX w7 w') => NO0.out.below h)
  have NX := Lib.hid (fun (w' : World) (h : Below BX w7 w') => NX0.out.below h)
  have KT := Lib.hid (fun (w' : World) (h : Below BX w7 w') => KT1.out w' h)
  have E1 := E1H
  have E2 := E2H
  clear NO0 NX0 KT1 E1H E2H
  refine with_act fun a0 ha0 => ?_
  have hl : byT.length = a0.tmps.size := by rw [ha0]; rfl
  have k2 : a0.tmps[2]?.getD undef = .pointer (some ⟨(w.heap.size), 0, none⟩) := by rw [ha0]; rfl
  have k5 : a0.tmps[5]?.getD undef = .slice A3 n3 c3 := by rw [ha0]; rfl
  have k7 : a0.tmps[7]?.getD undef = vv := by rw [ha0]; rfl
  refine wp_region_chain (by kernel_rfl) byT (by kernel_rfl) (by kernel_rfl) hl (fun i => if i = 6 then .slice none 0 0 else undef) (by rw [ha0]; rfl) (BX) [2, 5, 6] (by kernel_rfl) (by decide) (by decide) (fun w' => Below BX w7 w') (byV vv (w.heap.size) A3 n3 c3 B m d) (byR BX vv X0 X1 X2) HB0.out ((Below.refl _ _).drew) (show Own .u8 5 w7.drew BX vv X0 from HO0.out.keep fun _ _ _ => rfl) (fun w w' _ h1 h2 => h2.trans h1) (fun i v w w' _ _ h => byV.keep _ _ _ _ _ _ _ _ i v w w' h) (byR.keep _ _ _ _ _) ⟨?_, ?_, ?_, ?_, ?_, ?_, ?_, trivial⟩ ?_
  · refine stepC_val [] (by kernel_rfl) (by decide) (by decide) rfl fun us w' hB hG hV => ?_
    have o7 := (frame_old2 (us := us) (a := a0) (show (byT[7]?).join = none from rfl)).trans k7
    generalize frame byT a0 us = fr at *
    exact val_C (v := vv) (w' := w') (by go_simp) (Below.refl _ _) rfl
  · refine stepC_val [] (by kernel_rfl) (by decide) (by decide) rfl fun us w' hB hG hV => ?_
    have o5 := (frame_old2 (us := us) (a := a0) (show (byT[5]?).join = none from rfl)).trans k5
    generalize frame byT a0 us = fr at *
    exact val_C (v := .slice A3 n3 c3) (w' := w') (by go_simp) (Below.refl _ _) rfl
  · refine stepC_chain 0 rfl (by decide) [0, 1] (by kernel_rfl) (by decide) rfl fun us w' hB hG hV hR => ?_
    have e0 : us 0 = vv := hV 0 (by simp)
    have v0 := (frame_at2 (us := us) hl (show (byT[53]?).join = some 0 from rfl)).trans e0
    have e1 : us 1 = .slice A3 n3 c3 := hV 1 (by simp)
    have v1 := (frame_at2 (us := us) hl (show (byT[54]?).join = some 1 from rfl)).trans e1
    generalize frame byT a0 us = fr at *
    exact append_Jo (R := fun v w'' => Below BX w' w'' ∧ byR BX vv X0 X1 X2 1 (upd us 2 v) w'') (.tmp 53) (.tmp 54) 32 rfl 5 i0 _ 1 Tryd.underlying32 I1.out I2.out I3.out I4.out rfl BX _ X0 (eval_tmp v0) hR BX _ n3 c3 OL (eval_tmp v1) (NO.out w' hG) (by rw [LX0.out]; have := HOL.out; unfold maxLen; omega) (by rw [LX0.out]; have := HOL.out; omega) hB L1 (by rw [LX0.out]; exact HL1.out) fun A' c' w'' _ _ O' B' => ⟨B', byR.m1 (E1.out ▸ O')⟩
  · refine stepC_val [] (by kernel_rfl) (by decide) (by decide) rfl fun us w' hB hG hV => ?_
    have o2 := (frame_old2 (us := us) (a := a0) (show (byT[2]?).join = none from rfl)).trans k2
    generalize frame byT a0 us = fr at *
    exact val_C (v := .pointer (some ⟨(w.heap.size), 31, none⟩)) (w' := w') (by go_simp) (Below.refl _ _) rfl
  · refine stepC_val [3] (by kernel_rfl) (by decide) (by decide) rfl fun us w' hB hG hV => ?_
    have e3 : us 3 = .pointer (some ⟨(w.heap.size), 31, none⟩) := hV 3 (by simp)
    have v3 := (frame_at2 (us := us) hl (show (byT[56]?).join = some 3 from rfl)).trans e3
    have hc := KT.out w' hG
    generalize frame byT a0 us = fr at *
    exact val_C (v := .slice B m d) (w' := w') (by go_simp) (Below.refl _ _) rfl
  · refine stepC_chain 1 rfl (by decide) [4] (by kernel_rfl) (by decide) rfl fun us w' hB hG hV hR => ?_
    have e4 : us 4 = .slice B m d := hV 4 (by simp)
    have v4 := (frame_at2 (us := us) hl (show (byT[57]?).join = some 4 from rfl)).trans e4
    have vc := frame_at2 (us := us) hl (show (byT[55]?).join = some 2 from rfl)
    generalize frame byT a0 us = fr at *
    exact append_Jo (R := fun v w'' => Below BX w' w'' ∧ byR BX vv X0 X1 X2 2 (upd us 5 v) w'') (.tmp 55) (.tmp 57) 32 rfl 5 i0 _ 1 Tryd.underlying32 I1.out I2.out I3.out I4.out rfl BX _ X1 (eval_tmp vc) hR BX _ m d xs (eval_tmp v4) (NX.out w' hG) (by rw [LX1.out]; have := HOL.out; have := HM9.out; have := HL1.out; unfold maxLen; omega) (by rw [LX1.out]; have := HOL.out; have := HM9.out; have := HL1.out; omega) hB L2 (by rw [LX1.out]; exact HL2.out) fun A' c' w'' _ _ O' B' => ⟨B', byR.m2 (E2.out ▸ O')⟩
  · refine stepC_chain 2 rfl (by decide) [] (by kernel_rfl) (by decide) rfl fun us w' hB hG hV hR => ?_
    have vc := frame_at2 (us := us) hl (show (byT[58]?).join = some 5 from rfl)
    generalize frame byT a0 us = fr at *
    exact val_J (R := fun v w'' => Below BX w' w'' ∧ byR BX vv X0 X1 X2 3 (upd us 6 v) w'') (v := us 5) (w' := w') (by go_simp) ⟨Below.refl _ _, byR.m3 hR⟩
  · intro us w2 hB hG hV hR
    subst ha0
    simp only [frame, byT, fill]
    have HR : Hid (Own .u8 5 w2 BX (us 6) X2) := Lib.hid hR
    have HG := Lib.hid hG
    clear hV hR hG hl k2 k5 k7
    generalize us 6 = v9 at *
    go_wp2_with fail
    go_ret
    have O9 := HR.out.less HBw.out
    obtain ⟨A9, c9, e9, -, -, -⟩ := O9.form
    rw [LX2.out] at e9
    subst e9
    exact ⟨A9, c9, rfl, O9, HBB.out.trans (HG.out.mono HBw.out)⟩
def rlV (g1 g2 g3 : Nat) (C1 C2 CP : Array Value) (ck : Int) (N : Nat) (X0 X1 : List Int) (base : Nat) : Nat → Value → World → Prop
  | 0, v, _ => v = .agg CP
  | 1, v, _ => v = .agg C1
  | 2, v, _ => v = .agg C2
  | 3, v, _ => v = .agg CP
  | 4, v, w => ∃ A' c', v = .slice A' N c' ∧ Own .u8 5 w base (.slice A' N c') X0
  | 5, v, _ => v = .int .u16 ck
  | 6, v, w => ∃ A' c', v = .slice A' N c' ∧ Own .u8 5 w base (.slice A' N c') X1
  | 7, v, w => ∃ A' c', v = .slice A' N c' ∧ Own .u8 5 w base (.slice A' N c') X1
  | 8, v, _ => v = .int .i64 0
  | _, _, _ => True
theorem rlV.keep (g1 g2 g3 : Nat) (C1 C2 CP : Array Value) (ck : Int) (N : Nat) (X0 X1 : List Int) (base : Nat) (i : Nat) (v : Value) (w w' : World) (hb : Below w.heap.size w w') (h : rlV g1 g2 g3 C1 C2 CP ck N X0 X1 base i v w) : rlV g1 g2 g3 C1 C2 CP ck N X0 X1 base i v w' := by
  by_cases e4 : i = 4
  · subst e4
    obtain ⟨A', c', h1, h2⟩ := h
    exact ⟨A', c', h1, h2.below hb⟩
  by_cases e6 : i = 6
  · subst e6
    obtain ⟨A', c', h1, h2⟩ := h
    exact ⟨A', c', h1, h2.below hb⟩
  by_cases e7 : i = 7
  · subst e7
    obtain ⟨A', c', h1, h2⟩ := h
    exact ⟨A', c', h1, h2.below hb⟩
  unfold rlV at h ⊢
  split at h <;> first | exact h | exact absurd rfl (by assumption)
def rlT : List (Option Nat) := [none, none, none, none, none, none, some 7, some 8, none, none, none, some 0, some 1, some 2, some 3, some 4, some 5, some 6]
set_option maxRecDepth 100000 in
set_option maxHeartbeats 8000000 in
theorem rlay_any (C1 C2 : Array Value) (s1 s2 : Bool) (b1 b2 : List Int) (s : Sg) (A : Option Addr) (n c : Nat) (B : Option Addr) (m d : Nat) (xs : List Int) (w : World) (h1 : chkC.AddrC C1 s1 b1) (h2 : chkC.AddrC C2 s2 b2) (hs : s.Ok) (hn : s.op.sk.length = n) (hA : Prs w w.heap.size A n s.op.sk) (hnm : n ≤ 600)
    (hx : Nums .u8 w w.heap.size B m xs) (hy : ∀ x ∈ xs, Byte x) (hf : mayS s m = true → m ≤ 9000) :
    Calls Tryd.prog 12 #[.agg C1, .agg C2, .agg (segV s A n c B m d)] w (OwnE w (laysL s1 s2 b1 b2 s xs) (laysE s m)) := by
  have hxl := hx.len
  unfold laysL laysE
  rw [hxl]
  obtain ⟨W0, hW0⟩ : ∃ W, W = w.alloc (.cells C1 24) := ⟨_, rfl⟩
  obtain ⟨W1, hW1⟩ : ∃ W, W = W0.alloc (.cells C2 24) := ⟨_, rfl⟩
  obtain ⟨W, hW⟩ : ∃ W, W = W1.alloc (.cells (segV s A n c B m d) 34) := ⟨_, rfl⟩
  have z0 : W0.heap.size = w.heap.size + 1 := by rw [hW0, alloc_size]
  have z1 : W1.heap.size = w.heap.size + 2 := by rw [hW1, alloc_size, z0]
  have z2 : W.heap.size = w.heap.size + 3 := by rw [hW, alloc_size, z1]
  have B0 : Below w.heap.size w W0 := by rw [hW0]; exact alloc_below _ _
  have B1 : Below W0.heap.size W0 W1 := by rw [hW1]; exact alloc_below _ _
  have B2 : Below W1.heap.size W1 W := by rw [hW]; exact alloc_below _ _
  have HB := Lib.hid (show Below w.heap.size w W from (B0.trans (B1.mono (by omega))).trans (B2.mono (by omega)))
  have r1 : W.heap[w.heap.size]? = some (.cells C1 24 (0, 0)) := by rw [B2.block _ (by omega), B1.block _ (by omega), hW0]; exact heap_alloc_new _ _
  have r2 : W.heap[w.heap.size + 1]? = some (.cells C2 24 (0, 0)) := by rw [B2.block _ (by omega), hW1, ← z0]; exact heap_alloc_new _ _
  have r3 : W.heap[w.heap.size + 2]? = some (.cells (segV s A n c B m d) 34 (0, 0)) := by rw [hW, ← z1]; exact heap_alloc_new _ _
  have OC := segC hs.op.lm A n c B m d
  have IC := Lib.hid OC.info
  have KR := Lib.hid (fun (w' : World) (h : Below W.heap.size W w') => (show w'.heap[w.heap.size + 2]? = some (.cells (segV s A n c B m d) 34 (0, 0)) by rw [h.block _ (by omega)]; exact r3))
  have KG1 := Lib.hid (fun (w' : World) (h : Below W.heap.size W w') => (show w'.heap[w.heap.size]? = some (.cells C1 24 (0, 0)) by rw [h.block _ (by omega)]; exact r1))
  have KG2 := Lib.hid (fun (w' : World) (h : Below W.heap.size W w') => (show w'.heap[w.heap.size + 1]? = some (.cells C2 24 (0, 0)) by rw [h.block _ (by omega)]; exact r2))
  have IC1 := Lib.hid (show (Tryd.prog.info? 24).map (·.size) = some C1.size by rw [h1.size]; exact addr_info)
  have IC2 := Lib.hid (show (Tryd.prog.info? 24).map (·.size) = some C2.size by rw [h2.size]; exact addr_info)
  have MC := Lib.hid (rmay_any s A n c B m d W hs.op hn ((hA.below HB.out).more HB.out.size) hnm)
  have HWW := Lib.hid (Below.refl W.heap.size W)
  obtain ⟨my, hmy⟩ : ∃ my, mayS s m = my := ⟨_, rfl⟩
  rw [hmy] at MC hf ⊢
  cases my
  · rw [if_neg (by decide), if_neg (by decide)]
    generalize segV s A n c B m d = CP at *
    clear h1 h2 hs hn hA hnm hx hy hf hxl OC r1 r2 r3 hmy B0 B1 B2 z2
    go_enter Tryd.func12, Tryd.ntmps12
    go_upto_region 1 with fail
    rw [← hW0, ← hW1, ← hW]
    try rw [z0]
    try rw [z1]
    clear hW0 hW1 hW z0 z1
    go_wp2_with (first
      | (refine wpList_load_row rfl 34 (.tmp 5) rfl (w.heap.size + 2) rfl _ _ _ _ (KR.out _ HWW.out) Tryd.underlying34 rfl IC.out ?_)
      | (go_at_call 14; (refine MC.out.mono ?_); rintro e w2 ⟨rfl, BB⟩
         have HW2 := Lib.hid BB
         clear BB))
    go_ret2
    exact ⟨none, 0, 0, rfl, Own.nil _ _, HB.out.trans (HW2.out.mono HB.out.size)⟩
  rw [if_pos rfl, if_pos rfl]
  have hm9 := hf rfl
  have hmb : mayB s.op = true := by unfold mayS at hmy; simp only [Bool.and_eq_true] at hmy; exact hmy.1
  have hol : (opC.layL s.op).length ≤ 40 := by rw [opC.lay_len hs.op.lm]; simp only [mayB, Bool.and_eq_true, decide_eq_true_eq] at hmb; exact hmb.2.2.2
  have hyb := bytesS_byte hs hmb hy 0
  have hbl := bytesS_len s xs 0
  have cb := ckS_bd s1 s2 b1 b2 s xs
  have hck : ckS s1 s2 b1 b2 s xs = 65535 - chkM.fo (chkM.wsum (pseL s1 s2 b1 b2 6 ((bytesS s xs 0).length : Nat)) + chkM.wsum (bytesS s xs 0)) := rfl
  have hle : (bytesS s xs (ckS s1 s2 b1 b2 s xs)).length = (bytesS s xs 0).length := by rw [bytesS_len, bytesS_len]
  have SG := fun (w' : World) (h : Below W.heap.size W w') => (HB.out.trans (h.mono HB.out.size))
  have BY := fun (ck : Int) (k0 : 0 ≤ ck) (k1 : ck ≤ 65535) (w' : World) (h : Below W.heap.size W w') => rbytes_any s A n c B m d xs ck w' hs hn ((hA.below (SG w' h)).more (SG w' h).size) hnm hmb ((hx.below (SG w' h)).more (SG w' h).size) (by omega) k0 k1
  have Y0 := Lib.hid (BY 0 (by decide) (by decide))
  have Y1 := Lib.hid (BY _ cb.1 cb.2)
  unfold OwnN at Y0 Y1
  rw [hle] at Y1
  obtain ⟨N, hN⟩ : ∃ N, N = (bytesS s xs 0).length := ⟨_, rfl⟩
  rw [← hN] at hbl hck Y0 Y1
  generalize ckS s1 s2 b1 b2 s xs = ck at *
  generalize bytesS s xs ck = X1 at *
  generalize bytesS s xs 0 = X0 at *
  have HN20 : 20 ≤ N ∧ N ≤ 9060 := by omega
  have LD0 := Lib.hid (fun (A' : Option Addr) (c' : Nat) (w' : World) (h : Nums .u8 w' w'.heap.size A' N X0) => rload_any C1 C2 6 A' N c' (pseN s1 s2) (pseL s1 s2 b1 b2 6 (N : Nat)) X0 ck w' h1.size h2.size (pseN_le _ _) (pse_byte h1 h2 (by decide) (by decide) (by omega) (by omega)) (fun w => rpse_any h1 h2 (by decide) (by decide) (by omega) (by omega) w) ⟨h, (show N ≤ 10000 by omega), hyb⟩ hck)
  generalize segV s A n c B m d = CP at *
  clear h1 h2 hs hn hA hnm hx hf OC r1 r2 r3 hmy B0 B1 B2 z2 hm9 hmb hol hyb hbl cb hy hxl hN HN20 hck hle BY SG
  go_enter Tryd.func12, Tryd.ntmps12
  go_upto_region 1 with fail
  rw [← hW0, ← hW1, ← hW]
  try rw [z0]
  try rw [z1]
  clear hW0 hW1 hW z0 z1
  go_upto_region 3 with (first
    | (refine wpList_load_row rfl 34 (.tmp 5) rfl (w.heap.size + 2) rfl _ _ _ _ (KR.out _ HWW.out) Tryd.underlying34 rfl IC.out ?_)
    | (go_at_call 14; (refine MC.out.mono ?_); rintro e Wr ⟨rfl, BB⟩
       have HW2 := Lib.hid BB
       clear BB))
  have HBr := Lib.hid (HB.out.trans (HW2.out.mono HB.out.size))
  have TG := Lib.hid (fun (w' : World) (h : Gr Wr w') => (show Below W.heap.size W w' from HW2.out.trans (Below.mono h HW2.out.size)))
  have K1 := Lib.hid (fun (w' : World) (h : Gr Wr w') => KG1.out w' (TG.out w' h))
  have K2 := Lib.hid (fun (w' : World) (h : Gr Wr w') => KG2.out w' (TG.out w' h))
  have K3 := Lib.hid (fun (w' : World) (h : Gr Wr w') => KR.out w' (TG.out w' h))
  have BY0 := Lib.hid (fun (w' : World) (h : Gr Wr w') => Y0.out w' (TG.out w' h))
  have BY1 := Lib.hid (fun (w' : World) (h : Gr Wr w') => Y1.out w' (TG.out w' h))
  have LD := LD0
  clear KG1 KG2 KR Y0 Y1 MC HWW LD0 HW2 HB TG
  refine with_act fun a0 ha0 => ?_
  have hl : rlT.length = a0.tmps.size := by rw [ha0]; rfl
  have k3 : a0.tmps[3]?.getD undef = .pointer (some ⟨(w.heap.size), 0, none⟩) := by rw [ha0]; rfl
  have k4 : a0.tmps[4]?.getD undef = .pointer (some ⟨(w.heap.size + 1), 0, none⟩) := by rw [ha0]; rfl
  have k5 : a0.tmps[5]?.getD undef = .pointer (some ⟨(w.heap.size + 2), 0, none⟩) := by rw [ha0]; rfl
  refine wp_region_vals (by kernel_rfl) rlT (by kernel_rfl) (by kernel_rfl) hl (fun i => if i = 7 then .slice none 0 0 else if i = 8 then .int .i64 0 else undef) (by rw [ha0]; rfl) (Gr Wr) (rlV (w.heap.size) (w.heap.size + 1) (w.heap.size + 2) C1 C2 CP ck N X0 X1 (Wr.heap.size)) (gr_drewG _ _) (rlV.keep _ _ _ _ _ _ _ _ _ _ _) ⟨?_, ?_, ?_, ?_, ?_, ?_, ?_, ?_, ?_, trivial⟩ ?_
  · refine step_plain [] (by kernel_rfl) rfl fun us w' hG hV => ?_
    have o5 := (frame_old2 (us := us) (a := a0) (show (rlT[5]?).join = none from rfl)).trans k5
    have hg1 := (K3.out w' hG)
    generalize frame rlT a0 us = fr at *
    exact load_ok 34 5 rfl ((w.heap.size + 2)) o5 _ _ (0, 0) _ hg1 Tryd.underlying34 rfl IC.out hG rfl
  · refine step_plain [] (by kernel_rfl) rfl fun us w' hG hV => ?_
    have o3 := (frame_old2 (us := us) (a := a0) (show (rlT[3]?).join = none from rfl)).trans k3
    have hg1 := (K1.out w' hG)
    generalize frame rlT a0 us = fr at *
    exact load_ok 24 3 rfl ((w.heap.size)) o3 _ _ (0, 0) _ hg1 Tryd.underlying24 rfl IC1.out hG rfl
  · refine step_plain [] (by kernel_rfl) rfl fun us w' hG hV => ?_
    have o4 := (frame_old2 (us := us) (a := a0) (show (rlT[4]?).join = none from rfl)).trans k4
    have hg1 := (K2.out w' hG)
    generalize frame rlT a0 us = fr at *
    exact load_ok 24 4 rfl ((w.heap.size + 1)) o4 _ _ (0, 0) _ hg1 Tryd.underlying24 rfl IC2.out hG rfl
  · refine step_plain [] (by kernel_rfl) rfl fun us w' hG hV => ?_
    have o5 := (frame_old2 (us := us) (a := a0) (show (rlT[5]?).join = none from rfl)).trans k5
    have hg1 := (K3.out w' hG)
    generalize frame rlT a0 us = fr at *
    exact load_ok 34 5 rfl ((w.heap.size + 2)) o5 _ _ (0, 0) _ hg1 Tryd.underlying34 rfl IC.out hG rfl
  · refine step_plain [3] (by kernel_rfl) rfl fun us w' hG hV => ?_
    have e3 : us 3 = .agg CP := hV 3 (by simp)
    have v3 := (frame_at2 (us := us) hl (show (rlT[14]?).join = some 3 from rfl)).trans e3
    generalize frame rlT a0 us = fr at *
    exact call_ok (f := 33) (args := #[.agg CP, .int .u16 0]) (by go_simp) ((BY0.out w' hG).mono fun e w'' ⟨A', c', h1, h2, h3⟩ => ⟨_, h1, hG.below h3, h3, A', c', rfl, h2.less hG.size⟩)
  · refine step_plain [1, 2, 4] (by kernel_rfl) rfl fun us w' hG hV => ?_
    have e1 : us 1 = .agg C1 := hV 1 (by simp)
    have v1 := (frame_at2 (us := us) hl (show (rlT[12]?).join = some 1 from rfl)).trans e1
    have e2 : us 2 = .agg C2 := hV 2 (by simp)
    have v2 := (frame_at2 (us := us) hl (show (rlT[13]?).join = some 2 from rfl)).trans e2
    obtain ⟨A4, c4, e4, O4⟩ := (show ∃ A' c', us 4 = .slice A' N c' ∧ Own .u8 5 w' (Wr.heap.size) (.slice A' N c') X0 from hV 4 (by simp))
    have v4 := (frame_at2 (us := us) hl (show (rlT[15]?).join = some 4 from rfl)).trans e4
    generalize frame rlT a0 us = fr at *
    exact call_ok (f := 34) (args := #[.agg C1, .agg C2, .int .u8 6, .slice A4 N c4]) (by go_simp) ((LD.out A4 c4 w' O4.nums).mono fun e w'' h => ⟨_, h.1, hG.below h.2, h.2, rfl⟩)
  · refine step_plain [0, 5] (by kernel_rfl) rfl fun us w' hG hV => ?_
    have e0 : us 0 = .agg CP := hV 0 (by simp)
    have v0 := (frame_at2 (us := us) hl (show (rlT[11]?).join = some 0 from rfl)).trans e0
    have e5 : us 5 = .int .u16 ck := hV 5 (by simp)
    have v5 := (frame_at2 (us := us) hl (show (rlT[16]?).join = some 5 from rfl)).trans e5
    generalize frame rlT a0 us = fr at *
    exact call_ok (f := 33) (args := #[.agg CP, .int .u16 ck]) (by go_simp) ((BY1.out w' hG).mono fun e w'' ⟨A', c', h1, h2, h3⟩ => ⟨_, h1, hG.below h3, h3, A', c', rfl, h2.less hG.size⟩)
  · refine step_plain [6] (by kernel_rfl) rfl fun us w' hG hV => ?_
    obtain ⟨A6, c6, e6, O6⟩ := (show ∃ A' c', us 6 = .slice A' N c' ∧ Own .u8 5 w' (Wr.heap.size) (.slice A' N c') X1 from hV 6 (by simp))
    have v6 := (frame_at2 (us := us) hl (show (rlT[17]?).join = some 6 from rfl)).trans e6
    generalize frame rlT a0 us = fr at *
    exact val_ok (v := .slice A6 N c6) (w' := w') (by go_simp) hG (Below.refl _ _) ⟨A6, c6, rfl, O6⟩
  · refine step_plain [] (by kernel_rfl) rfl fun us w' hG hV => ?_
    generalize frame rlT a0 us = fr at *
    exact val_ok (v := .int .i64 0) (w' := w') (by go_simp) hG (Below.refl _ _) rfl
  · intro us w5 hG hV
    obtain ⟨A7, c7, e7, O7⟩ := (show ∃ A' c', us 7 = .slice A' N c' ∧ Own .u8 5 w5 (Wr.heap.size) (.slice A' N c') X1 from hV 7 (by decide))
    have e8 : us 8 = .int .i64 0 := hV 8 (by decide)
    subst ha0
    simp only [frame, rlT, fill]
    rw [e7, e8]
    have HG5 := Lib.hid hG
    have HO7 := Lib.hid O7
    clear hV hl hG k3 k4 k5 e7 e8 O7
    go_wp2_with fail
    go_ret2
    exact ⟨A7, N, c7, rfl, HO7.out.less HBr.out.size, HBr.out.trans (Below.mono HG5.out HBr.out.size)⟩
end Go.Proofs.YtniimgbljhmcoaaDoor.sgC
