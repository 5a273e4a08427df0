/-
  1 texts of a proof, joined.
-/
import Derived.Test.YtmbfgolcinniiaaMg5
import Derived.Test.YtmbfgolcinniiaaMg6
import Derived.Test.YtmbfgolcinniiaaMg14

/-
  The pseudo header over numbers, and the document's; the check sum of a load with it.
-/
namespace Go.Proofs.Ytmbfgolcinniiaa.pseC
open Go.ChangeShapes Go.WideShapes Go.ChangeAt Go.RowKit
open Go.Proofs.Ytmbfgolcinniiaa.memC Go.Proofs.Ytmbfgolcinniiaa.genC Go.Proofs.Ytmbfgolcinniiaa.butC Go.Proofs.Ytmbfgolcinniiaa.freeC Go.Proofs.Ytmbfgolcinniiaa.adC
open Go.Proofs.Ytmbfgolcinniiaa.chkC (CatRet PartAt)
set_option linter.unusedVariables false
/-- the pseudo header -/
def pseL (s1 s2 : Bool) (b1 b2 : List Int) (p n : Int) : List Int := if (s1 || s2) = true then b1 ++ (b2 ++ [n / 16777216, n / 65536, n / 256, n % 256, 0, 0, 0, p]) else b1.take 4 ++ (b2.take 4 ++ [0, p, n / 256, n % 256])
def pseN (s1 s2 : Bool) : Nat := if (s1 || s2) = true then 40 else 12
theorem pseN_le (s1 s2 : Bool) : pseN s1 s2 ≤ 100 := by unfold pseN; split <;> decide
section
variable {C1 C2 : Array Value} {s1 s2 : Bool} {b1 b2 : List Int} {p n : Int}
theorem pse_byte (h1 : chkC.AddrC C1 s1 b1) (h2 : chkC.AddrC C2 s2 b2) (p0 : 0 ≤ p) (p1 : p ≤ 255) (n0 : 0 ≤ n) (n1 : n ≤ 10000) : ∀ x ∈ pseL s1 s2 b1 b2 p n, Byte x := by
  intro x hx
  unfold pseL at hx
  split at hx
  · rcases List.mem_append.1 hx with hx | hx
    · exact h1.byte x hx
    · rcases List.mem_append.1 hx with hx | hx
      · exact h2.byte x hx
      · revert x; simp [Byte]; omega
  · rcases List.mem_append.1 hx with hx | hx
    · exact h1.byte x (List.mem_of_mem_take hx)
    · rcases List.mem_append.1 hx with hx | hx
      · exact h2.byte x (List.mem_of_mem_take hx)
      · revert x; simp [Byte]; omega
theorem pse_len (h1 : chkC.AddrC C1 s1 b1) (h2 : chkC.AddrC C2 s2 b2) : (pseL s1 s2 b1 b2 p n).length = pseN s1 s2 := by
  have l1 := h1.len
  have l2 := h2.len
  unfold pseL pseN
  split <;> simp [l1, l2]
theorem pse_any (h1 : chkC.AddrC C1 s1 b1) (h2 : chkC.AddrC C2 s2 b2) (p0 : 0 ≤ p) (p1 : p ≤ 255) (n0 : 0 ≤ n) (n1 : n ≤ 10000) (w : World) :
    Calls Try.prog 42 #[.agg C1, .agg C2, .int .u8 p, .int .i64 n] w (chkC.CatRet w (pseL s1 s2 b1 b2 p n) (pseN s1 s2)) := by
  unfold pseL pseN
  by_cases hs : (s1 || s2) = true
  · rw [if_pos hs, if_pos hs]
    exact chkC.pseudo_six C1 C2 s1 s2 b1 b2 p n w h1 h2 hs p0 p1 n0 n1
  · rw [if_neg hs, if_neg hs]
    exact chkC.pseudo_four C1 C2 s1 s2 b1 b2 p n w h1 h2 (by simpa using hs) p0 p1 n0 n1
end
/-- a row of bytes as it grows, twice -/
def psR (B : Nat) (vv : Value) (X0 X1 X2 : List Int) : Nat → (Nat → Value) → World → Prop
  | 0, us, w => us 7 = vv ∧ B ≤ w.heap.size ∧ Own .u8 5 w B vv X0
  | 1, us, w => B ≤ w.heap.size ∧ Own .u8 5 w B (us 3) X1
  | 2, us, w => B ≤ w.heap.size ∧ Own .u8 5 w B (us 6) X2
  | 3, us, w => B ≤ w.heap.size ∧ Own .u8 5 w B (us 7) X2
  | _, _, _ => True
theorem psR.keep (B : Nat) (vv : Value) (X0 X1 X2 : List Int) (k : Nat) (us us' : Nat → Value) (w w' : World) (h : ∀ x ∈ [3, 6, 7], us' x = us x) (hb : Below w.heap.size w w') (hR : psR B vv X0 X1 X2 k us w) : psR B vv X0 X1 X2 k us' w' := by
  have h4 := h 3 (by simp); have h8 := h 6 (by simp); have h9 := h 7 (by simp)
  have hz := hb.size
  unfold psR at hR ⊢
  split at hR
  · exact ⟨h9.trans hR.1, Nat.le_trans hR.2.1 hz, hR.2.2.below hb⟩
  · rw [h4]; exact ⟨Nat.le_trans hR.1 hz, hR.2.below hb⟩
  · rw [h8]; exact ⟨Nat.le_trans hR.1 hz, hR.2.below hb⟩
  · rw [h9]; exact ⟨Nat.le_trans hR.1 hz, hR.2.below hb⟩
  · trivial
theorem belowBS {B : Nat} {w w' : World} (h : Below B w w') : Below B w w' ∧ Below 0 w w' := ⟨h, h.mono (Nat.zero_le _)⟩
def psV (vv : Value) (g1 g2 B : Nat) : Nat → Value → World → Prop
  | 0, v, _ => v = vv
  | 1, v, _ => v = .pointer (some ⟨g1, 1, none⟩)
  | 2, v, _ => v = .slice (some ⟨g1, 1, none⟩) 16 16
  | 4, v, _ => v = .pointer (some ⟨g2, 1, none⟩)
  | 5, v, _ => v = .slice (some ⟨g2, 1, none⟩) 16 16
  | _, _, _ => True
theorem psV.keep (vv : Value) (g1 g2 B : Nat) (i : Nat) (v : Value) (w w' : World) (hd : Below w.heap.size w w' ∨ Below B w w') (h : psV vv g1 g2 B i v w) : psV vv g1 g2 B i v w' := by
  unfold psV at h ⊢
  split at h <;> exact h
def psT : List (Option Nat) := [none, none, none, none, none, none, none, none, none, some 7, none, none, none, none, none, none, none, none, none, some 0, some 1, some 2, some 3, some 4, some 5, some 6, none, none, none, none, none, none, none, none, none, none, none, none, none, none, none, none, none, none, none, none, none, none, none, none, none, none, none, none, none, none, none]
def pfV (vv : Value) (g1 g2 B : Nat) : Nat → Value → World → Prop
  | 0, v, _ => v = vv
  | 1, v, _ => v = .pointer (some ⟨g1, 1, none⟩)
  | 2, v, _ => v = .slice (some ⟨g1, 1, none⟩) 4 16
  | 4, v, _ => v = .pointer (some ⟨g2, 1, none⟩)
  | 5, v, _ => v = .slice (some ⟨g2, 1, none⟩) 4 16
  | _, _, _ => True
theorem pfV.keep (vv : Value) (g1 g2 B : Nat) (i : Nat) (v : Value) (w w' : World) (hd : Below w.heap.size w w' ∨ Below B w w') (h : pfV vv g1 g2 B i v w) : pfV vv g1 g2 B i v w' := by
  unfold pfV at h ⊢
  split at h <;> exact h
def pfT : List (Option Nat) := [none, none, none, none, none, none, none, none, none, some 7, none, none, none, none, none, none, none, none, none, none, none, none, none, none, none, none, none, none, none, none, none, none, none, none, none, none, none, none, none, none, none, some 0, some 1, some 2, some 3, some 4, some 5, some 6, none, none, none, none, none, none, none, none, none]
set_option maxRecDepth 100000 in
set_option maxHeartbeats 4000000 in
theorem rpse_six (C1 C2 : Array Value) (s1 s2 : Bool) (b1 b2 : List Int) (p n : Int) (w : World) (h1 : chkC.AddrC C1 s1 b1) (h2 : chkC.AddrC C2 s2 b2) (hs : (s1 || s2) = true) (p0 : 0 ≤ p) (p1 : p ≤ 255) (n0 : 0 ≤ n) (n1 : n ≤ 10000) :
    Calls Try.prog 45 #[.agg C1, .agg C2, .int .u8 p, .int .i64 n] w (CatRet w (b1 ++ (b2 ++ [n / 16777216, n / 65536, n / 256, n % 256, 0, 0, 0, p])) 40) := by
  obtain ⟨i0, hi0, hz0, hz1, hz2⟩ := info_parts byte_inf
  have I1 := Lib.hid hi0; have I2 := Lib.hid hz0; have I3 := Lib.hid hz1; have I4 := Lib.hid hz2
  obtain ⟨W0, hW0⟩ : ∃ W, W = w.alloc (.cells C1 29) := ⟨_, rfl⟩
  obtain ⟨W, hW⟩ : ∃ W, W = W0.alloc (.cells C2 29) := ⟨_, rfl⟩
  have z0 : W0.heap.size = w.heap.size + 1 := by rw [hW0, alloc_size]
  have z1 : W.heap.size = w.heap.size + 2 := by rw [hW, alloc_size, z0]
  have B0 : Below w.heap.size w W0 := by rw [hW0]; exact alloc_below _ _
  have B1 : Below W0.heap.size W0 W := by rw [hW]; exact alloc_below _ _
  have HB := Lib.hid (show Below w.heap.size w W from B0.trans (B1.mono (by omega)))
  have r1 : W.heap[w.heap.size]? = some (.cells C1 29 (0, 0)) := by rw [B1.block _ (by omega), hW0]; exact heap_alloc_new _ _
  have r2 : W.heap[w.heap.size + 1]? = some (.cells C2 29 (0, 0)) := by rw [hW, ← z0]; exact heap_alloc_new _ _
  have k1 := pkC.PkC.cell r1 h1.six
  have k2 := pkC.PkC.cell r2 h2.six
  have M1 : Nums .u8 W W.heap.size (some ⟨w.heap.size, 1, none⟩) 16 b1 := ⟨h1.len, fun _ => ⟨_, 1, rfl, by omega, fun i hi => pkC.PkC.cell r1 (h1.at_ i hi)⟩⟩
  have M2 : Nums .u8 W W.heap.size (some ⟨w.heap.size + 1, 1, none⟩) 16 b2 := ⟨h2.len, fun _ => ⟨_, 1, rfl, by omega, fun i hi => pkC.PkC.cell r2 (h2.at_ i hi)⟩⟩
  have V1 := M1
  have V2 := M2
  obtain ⟨Y1, hY1⟩ : ∃ Y, Y = b1 := ⟨_, rfl⟩
  obtain ⟨Y2, hY2⟩ : ∃ Y, Y = b2 := ⟨_, rfl⟩
  rw [← hY1] at V1
  rw [← hY2] at V2
  rw [← hY1, ← hY2]
  clear hY1 hY2
  have U1 := Lib.hid (show Nums .u8 W W.heap.size (some ⟨w.heap.size, 1, none⟩) 16 Y1 from V1)
  have U2 := Lib.hid (show Nums .u8 W W.heap.size (some ⟨w.heap.size + 1, 1, none⟩) 16 Y2 from V2)
  have L0 := Lib.hid (show ([] : List Int).length = 0 from rfl)
  obtain ⟨X1, hX1⟩ : ∃ X, X = [] ++ Y1 := ⟨_, rfl⟩
  obtain ⟨X2, hX2⟩ : ∃ X, X = X1 ++ Y2 := ⟨_, rfl⟩
  have L1 := Lib.hid (show X1.length = 16 by rw [hX1, List.nil_append]; exact V1.len)
  have L2 := Lib.hid (show X2.length = 32 by rw [hX2, List.length_append, L1.out, V2.len])
  have E9 := Lib.hid (show X2 ++ [n / 16777216, n / 65536, n / 256, n % 256, 0, 0, 0, p] = Y1 ++ (Y2 ++ [n / 16777216, n / 65536, n / 256, n % 256, 0, 0, 0, p]) by rw [hX2, hX1, List.nil_append, List.append_assoc])
  have E1 := Lib.hid hX1.symm
  have E2 := Lib.hid hX2.symm
  have HBB := HB
  have HBw := Lib.hid (show w.heap.size ≤ W.heap.size from HB.out.size)
  have HO0 := Lib.hid (show Own .u8 5 W W.heap.size (.slice none 0 0) ([] : List Int) from Own.nil _ _)
  have wn : IntKind.u32.wrap n = n := IntWalk.u32_in _ (by omega)
  clear V1 V2 M1 M2 hX1 hX2 h1 h2 r1 r2 B0 B1 z1 HB hi0 hz0 hz1 hz2
  obtain ⟨vv, hvv⟩ : ∃ v : Value, v = .slice none 0 0 := ⟨_, rfl⟩
  rw [← hvv] at HO0
  cases s1 <;> cases s2
  all_goals try (exfalso; cases hs; done)
  all_goals
    clear hs
    go_enter Try.func45, Try.ntmps45
    go_upto_region 1 with fail
    rw [← hW0, ← hW]
    try rw [z0]
    clear hW0 hW z0
    go_upto_region 4 with go_skip
    clear k1 k2
    rw [← hvv]
    clear hvv
    obtain ⟨B, hB⟩ : ∃ B, B = W.heap.size := ⟨_, rfl⟩
    have HB0 := Lib.hid (Nat.le_of_eq hB)
    rw [← hB] at U1 U2 HO0 HBw
    clear hB
    have N1 := Lib.hid (fun (w' : World) (h : Below B W w') => U1.out.below h)
    have N2 := Lib.hid (fun (w' : World) (h : Below B W w') => U2.out.below h)
    clear U1 U2
    refine with_act fun a0 ha0 => ?_
    have hl : psT.length = a0.tmps.size := by rw [ha0]; rfl
    have k4 : a0.tmps[4]?.getD undef = .pointer (some ⟨w.heap.size, 0, none⟩) := by rw [ha0]; rfl
    have k5 : a0.tmps[5]?.getD undef = .pointer (some ⟨w.heap.size + 1, 0, none⟩) := by rw [ha0]; rfl
    have k9 : a0.tmps[9]?.getD undef = vv := by rw [ha0]; rfl
    refine wp_region_che (by kernel_rfl) psT (by kernel_rfl) (by kernel_rfl) hl (fun i => if i = 7 then a0.tmps[9]?.getD undef else undef) (by rw [ha0]; rfl) (0) (Below B) [3, 6, 7] (by kernel_rfl) (by decide) (by decide) (fun w' => Below B W w' ∧ B ≤ w'.heap.size) (psV vv (w.heap.size) (w.heap.size + 1) B) (psR B vv [] X1 X2) (Nat.zero_le _) ⟨(Below.refl _ _).drew, HB0.out⟩ ⟨by rw [ha0]; rfl, HB0.out, HO0.out.keep fun _ _ _ => rfl⟩ (fun w1 w2 hb hd h => by rcases hd with hd | hd; exact ⟨h.1.trans (hd.mono h.2), Nat.le_trans h.2 hd.size⟩; exact ⟨h.1.trans hd, Nat.le_trans h.2 hd.size⟩) (fun i v w w' _ hd h => psV.keep _ _ _ _ i v w w' hd h) (fun k us us' w w' h _ hb hR => psR.keep _ _ _ _ _ k us us' w w' h hb hR) ⟨?_, ?_, ?_, ?_, ?_, ?_, ?_, ?_, trivial⟩ ?_
    · refine stepE_early 0 0 (.inl rfl) (.inr ⟨_, _, rfl, rfl, by kernel_rfl⟩) [] (by kernel_rfl) (by decide) (by decide) rfl fun us w' k hB hG hV hk hR => ?_
      have hq : us 7 = vv := by
        obtain ⟨h1, h2⟩ := hk
        match k, h1, h2, hR with
        | 0, _, _, hR => exact hR.1
      have o9 := (frame_at2 (us := us) hl (show (psT[9]?).join = some 7 from rfl)).trans hq
      generalize frame psT a0 us = fr at *
      exact val_C (v := vv) (w' := w') (by go_simp) (Below.refl _ _) rfl
    · refine stepE_val [] (by kernel_rfl) (by decide) (by decide) rfl fun us w' hB hG hV => ?_
      have o4 := (frame_old2 (us := us) (a := a0) (show (psT[4]?).join = none from rfl)).trans k4
      generalize frame psT a0 us = fr at *
      exact val_C (v := .pointer (some ⟨w.heap.size, 1, none⟩)) (w' := w') (by go_simp) (Below.refl _ _) rfl
    · refine stepE_val [1] (by kernel_rfl) (by decide) (by decide) rfl fun us w' hB hG hV => ?_
      have e1 : us 1 = .pointer (some ⟨w.heap.size, 1, none⟩) := hV 1 (by simp)
      have v1 := (frame_at2 (us := us) hl (show (psT[20]?).join = some 1 from rfl)).trans e1
      generalize frame psT a0 us = fr at *
      exact val_C (v := .slice (some ⟨w.heap.size, 1, none⟩) 16 16) (w' := w') (by go_simp) (Below.refl _ _) rfl
    · refine stepE_chain 0 rfl (by decide) [0, 2] (by kernel_rfl) (by decide) rfl fun us w' hB hG hV hR => ?_
      have e0 : us 0 = vv := hV 0 (by simp)
      have v0 := (frame_at2 (us := us) hl (show (psT[19]?).join = some 0 from rfl)).trans e0
      have e2 : us 2 = .slice (some ⟨w.heap.size, 1, none⟩) 16 16 := hV 2 (by simp)
      have v2 := (frame_at2 (us := us) hl (show (psT[21]?).join = some 2 from rfl)).trans e2
      generalize frame psT a0 us = fr at *
      obtain ⟨h7, hz, HO⟩ : us 7 = vv ∧ B ≤ w'.heap.size ∧ Own .u8 5 w' B vv [] := hR
      exact append_Jo (R := fun v w'' => (Below B w' w'' ∧ Below 0 w' w'') ∧ psR B vv [] X1 X2 1 (upd us 3 v) w'') (.tmp 19) (.tmp 21) 24 rfl 5 i0 _ 1 Try.underlying24 I1.out I2.out I3.out I4.out rfl B _ [] (eval_tmp v0) HO B _ 16 16 Y1 (eval_tmp v2) (N1.out w' hG.1) (by rw [L0.out]; decide) (by rw [L0.out]; decide) hz 16 (by rw [L0.out]) fun A' c' w'' _ _ O' B' => ⟨belowBS B', Nat.le_trans hz B'.size, by rw [upd_same]; exact E1.out ▸ O'⟩
    · refine stepE_val [] (by kernel_rfl) (by decide) (by decide) rfl fun us w' hB hG hV => ?_
      have o5 := (frame_old2 (us := us) (a := a0) (show (psT[5]?).join = none from rfl)).trans k5
      generalize frame psT a0 us = fr at *
      exact val_C (v := .pointer (some ⟨w.heap.size + 1, 1, none⟩)) (w' := w') (by go_simp) (Below.refl _ _) rfl
    · refine stepE_val [4] (by kernel_rfl) (by decide) (by decide) rfl fun us w' hB hG hV => ?_
      have e4 : us 4 = .pointer (some ⟨w.heap.size + 1, 1, none⟩) := hV 4 (by simp)
      have v4 := (frame_at2 (us := us) hl (show (psT[23]?).join = some 4 from rfl)).trans e4
      generalize frame psT a0 us = fr at *
      exact val_C (v := .slice (some ⟨w.heap.size + 1, 1, none⟩) 16 16) (w' := w') (by go_simp) (Below.refl _ _) rfl
    · refine stepE_chain 1 rfl (by decide) [5] (by kernel_rfl) (by decide) rfl fun us w' hB hG hV hR => ?_
      have e5 : us 5 = .slice (some ⟨w.heap.size + 1, 1, none⟩) 16 16 := hV 5 (by simp)
      have v5 := (frame_at2 (us := us) hl (show (psT[24]?).join = some 5 from rfl)).trans e5
      have vc := frame_at2 (us := us) hl (show (psT[22]?).join = some 3 from rfl)
      generalize frame psT a0 us = fr at *
      exact append_Jo (R := fun v w'' => (Below B w' w'' ∧ Below 0 w' w'') ∧ psR B vv [] X1 X2 2 (upd us 6 v) w'') (.tmp 22) (.tmp 24) 24 rfl 5 i0 _ 1 Try.underlying24 I1.out I2.out I3.out I4.out rfl B _ X1 (eval_tmp vc) hR.2 B _ 16 16 Y2 (eval_tmp v5) (N2.out w' hG.1) (by rw [L1.out]; decide) (by rw [L1.out]; decide) hR.1 32 (by rw [L1.out]) fun A' c' w'' _ _ O' B' => ⟨belowBS B', Nat.le_trans hR.1 B'.size, by rw [upd_same]; exact E2.out ▸ O'⟩
    · refine stepE_chain 2 rfl (by decide) [] (by kernel_rfl) (by decide) rfl fun us w' hB hG hV hR => ?_
      have vc := frame_at2 (us := us) hl (show (psT[25]?).join = some 6 from rfl)
      generalize frame psT a0 us = fr at *
      exact val_J (R := fun v w'' => (Below B w' w'' ∧ Below 0 w' w'') ∧ psR B vv [] X1 X2 3 (upd us 7 v) w'') (v := us 6) (w' := w') (by go_simp) ⟨belowBS (Below.refl _ _), hR.1, by rw [upd_same]; exact hR.2⟩
    · intro us w2 hB hG hV hR
      subst ha0
      simp only [frame, psT, fill]
      have HR : Hid (Own .u8 5 w2 B (us 7) X2) := Lib.hid hR.2
      have HG := Lib.hid hG.1
      have S2 := Lib.hid (show B ≤ w2.heap.size from hG.2)
      clear hV hR hG hl k4 k5 k9 hB
      generalize us 7 = v9 at *
      have e1 : IntKind.u8.wrap (n / 16777216) = n / 16777216 := IntWalk.u8_in _ (by omega)
      have e2 : IntKind.u8.wrap (n / 65536) = n / 65536 := IntWalk.u8_in _ (by omega)
      have e3 : IntKind.u8.wrap (n / 256) = n / 256 := IntWalk.u8_in _ (by omega)
      have e4 : IntKind.u8.wrap n = n % 256 := IntKind.wrap_u8 n
      have n8 := Lib.hid (lit_nums .u8 w2 [n / 16777216, n / 65536, n / 256, n % 256, 0, 0, 0, p] 5 _ rfl 8 rfl)
      have O8 := Lib.hid (HR.out.alloc (.cells #[.int .u8 (n / 16777216), .int .u8 (n / 65536), .int .u8 (n / 256), .int .u8 (n % 256), .int .u8 0, .int .u8 0, .int .u8 0, .int .u8 p] 5))
      have NB := Lib.hid (alloc_below w2 (.cells #[.int .u8 (n / 16777216), .int .u8 (n / 65536), .int .u8 (n / 256), .int .u8 (n % 256), .int .u8 0, .int .u8 0, .int .u8 0, .int .u8 p] 5))
      have S8 := Lib.hid (show B ≤ (w2.alloc (.cells #[.int .u8 (n / 16777216), .int .u8 (n / 65536), .int .u8 (n / 256), .int .u8 (n % 256), .int .u8 0, .int .u8 0, .int .u8 0, .int .u8 p] 5)).heap.size from Nat.le_trans S2.out NB.out.size)
      go_wp2_with (first
        | (at_builtin; (refine wpList_app _ rfl (.tmp 26) (.tmp 39) _ rfl 5 i0 _ 1 Try.underlying24 I1.out I2.out I3.out I4.out rfl B v9 X2 rfl O8.out (w2.heap.size + 1) _ 8 8 [n / 16777216, n / 65536, n / 256, n % 256, 0, 0, 0, p] rfl n8.out (by rw [L2.out]; decide) (by rw [L2.out]; decide) S8.out ?_)
           intro v6 w6 O hg
           have BF := Lib.hid (show Below B w2 w6 from (NB.out.mono S2.out).grown hg S8.out fun q hq => (O8.out.blk q hq).1)
           obtain ⟨A6, c6, ev, g1, g2, -⟩ := O.form
           rw [show (X2 ++ [n / 16777216, n / 65536, n / 256, n % 256, 0, 0, 0, p]).length = 40 by rw [List.length_append, L2.out]; rfl] at ev g1
           subst ev
           have HO := Lib.hid O
           have HL := Lib.hid (And.intro g1 g2)
           clear O hg g1 g2))
      go_ret
      exact ⟨A6, c6, rfl, HL.out.1, HL.out.2, by rw [← E9.out]; exact HO.out.less HBw.out, HBB.out.trans ((HG.out.trans BF.out).mono HBw.out)⟩
set_option maxRecDepth 100000 in
set_option maxHeartbeats 4000000 in
theorem rpse_four (C1 C2 : Array Value) (s1 s2 : Bool) (b1 b2 : List Int) (p n : Int) (w : World) (h1 : chkC.AddrC C1 s1 b1) (h2 : chkC.AddrC C2 s2 b2) (hs : (s1 || s2) = false) (p0 : 0 ≤ p) (p1 : p ≤ 255) (n0 : 0 ≤ n) (n1 : n ≤ 10000) :
    Calls Try.prog 45 #[.agg C1, .agg C2, .int .u8 p, .int .i64 n] w (CatRet w (b1.take 4 ++ (b2.take 4 ++ [0, p, n / 256, n % 256])) 12) := by
  obtain ⟨i0, hi0, hz0, hz1, hz2⟩ := info_parts byte_inf
  have I1 := Lib.hid hi0; have I2 := Lib.hid hz0; have I3 := Lib.hid hz1; have I4 := Lib.hid hz2
  obtain ⟨W0, hW0⟩ : ∃ W, W = w.alloc (.cells C1 29) := ⟨_, rfl⟩
  obtain ⟨W, hW⟩ : ∃ W, W = W0.alloc (.cells C2 29) := ⟨_, rfl⟩
  have z0 : W0.heap.size = w.heap.size + 1 := by rw [hW0, alloc_size]
  have z1 : W.heap.size = w.heap.size + 2 := by rw [hW, alloc_size, z0]
  have B0 : Below w.heap.size w W0 := by rw [hW0]; exact alloc_below _ _
  have B1 : Below W0.heap.size W0 W := by rw [hW]; exact alloc_below _ _
  have HB := Lib.hid (show Below w.heap.size w W from B0.trans (B1.mono (by omega)))
  have r1 : W.heap[w.heap.size]? = some (.cells C1 29 (0, 0)) := by rw [B1.block _ (by omega), hW0]; exact heap_alloc_new _ _
  have r2 : W.heap[w.heap.size + 1]? = some (.cells C2 29 (0, 0)) := by rw [hW, ← z0]; exact heap_alloc_new _ _
  have k1 := pkC.PkC.cell r1 h1.six
  have k2 := pkC.PkC.cell r2 h2.six
  have M1 : Nums .u8 W W.heap.size (some ⟨w.heap.size, 1, none⟩) 16 b1 := ⟨h1.len, fun _ => ⟨_, 1, rfl, by omega, fun i hi => pkC.PkC.cell r1 (h1.at_ i hi)⟩⟩
  have M2 : Nums .u8 W W.heap.size (some ⟨w.heap.size + 1, 1, none⟩) 16 b2 := ⟨h2.len, fun _ => ⟨_, 1, rfl, by omega, fun i hi => pkC.PkC.cell r2 (h2.at_ i hi)⟩⟩
  have V1 := M1.upto (show 4 ≤ 16 by decide)
  have V2 := M2.upto (show 4 ≤ 16 by decide)
  generalize b1.take 4 = Y1 at *
  generalize b2.take 4 = Y2 at *
  have U1 := Lib.hid (show Nums .u8 W W.heap.size (some ⟨w.heap.size, 1, none⟩) 4 Y1 from V1)
  have U2 := Lib.hid (show Nums .u8 W W.heap.size (some ⟨w.heap.size + 1, 1, none⟩) 4 Y2 from V2)
  have L0 := Lib.hid (show ([] : List Int).length = 0 from rfl)
  obtain ⟨X1, hX1⟩ : ∃ X, X = [] ++ Y1 := ⟨_, rfl⟩
  obtain ⟨X2, hX2⟩ : ∃ X, X = X1 ++ Y2 := ⟨_, rfl⟩
  have L1 := Lib.hid (show X1.length = 4 by rw [hX1, List.nil_append]; exact V1.len)
  have L2 := Lib.hid (show X2.length = 8 by rw [hX2, List.length_append, L1.out, V2.len])
  have E9 := Lib.hid (show X2 ++ [0, p, n / 256, n % 256] = Y1 ++ (Y2 ++ [0, p, n / 256, n % 256]) by rw [hX2, hX1, List.nil_append, List.append_assoc])
  have E1 := Lib.hid hX1.symm
  have E2 := Lib.hid hX2.symm
  have HBB := HB
  have HBw := Lib.hid (show w.heap.size ≤ W.heap.size from HB.out.size)
  have HO0 := Lib.hid (show Own .u8 5 W W.heap.size (.slice none 0 0) ([] : List Int) from Own.nil _ _)
  have wn : IntKind.u32.wrap n = n := IntWalk.u32_in _ (by omega)
  clear V1 V2 M1 M2 hX1 hX2 h1 h2 r1 r2 B0 B1 z1 HB hi0 hz0 hz1 hz2
  obtain ⟨vv, hvv⟩ : ∃ v : Value, v = .slice none 0 0 := ⟨_, rfl⟩
  rw [← hvv] at HO0
  cases s1 <;> cases s2
  all_goals try (exfalso; cases hs; done)
  all_goals
    clear hs
    go_enter Try.func45, Try.ntmps45
    go_upto_region 1 with fail
    rw [← hW0, ← hW]
    try rw [z0]
    clear hW0 hW z0
    go_upto_region 6 with go_skip
    clear k1 k2
    rw [← hvv]
    clear hvv
    obtain ⟨B, hB⟩ : ∃ B, B = W.heap.size := ⟨_, rfl⟩
    have HB0 := Lib.hid (Nat.le_of_eq hB)
    rw [← hB] at U1 U2 HO0 HBw
    clear hB
    have N1 := Lib.hid (fun (w' : World) (h : Below B W w') => U1.out.below h)
    have N2 := Lib.hid (fun (w' : World) (h : Below B W w') => U2.out.below h)
    clear U1 U2
    refine with_act fun a0 ha0 => ?_
    have hl : pfT.length = a0.tmps.size := by rw [ha0]; rfl
    have k4 : a0.tmps[4]?.getD undef = .pointer (some ⟨w.heap.size, 0, none⟩) := by rw [ha0]; rfl
    have k5 : a0.tmps[5]?.getD undef = .pointer (some ⟨w.heap.size + 1, 0, none⟩) := by rw [ha0]; rfl
    have k9 : a0.tmps[9]?.getD undef = vv := by rw [ha0]; rfl
    refine wp_region_che (by kernel_rfl) pfT (by kernel_rfl) (by kernel_rfl) hl (fun i => if i = 7 then a0.tmps[9]?.getD undef else undef) (by rw [ha0]; rfl) (0) (Below B) [3, 6, 7] (by kernel_rfl) (by decide) (by decide) (fun w' => Below B W w' ∧ B ≤ w'.heap.size) (pfV vv (w.heap.size) (w.heap.size + 1) B) (psR B vv [] X1 X2) (Nat.zero_le _) ⟨(Below.refl _ _).drew, HB0.out⟩ ⟨by rw [ha0]; rfl, HB0.out, HO0.out.keep fun _ _ _ => rfl⟩ (fun w1 w2 hb hd h => by rcases hd with hd | hd; exact ⟨h.1.trans (hd.mono h.2), Nat.le_trans h.2 hd.size⟩; exact ⟨h.1.trans hd, Nat.le_trans h.2 hd.size⟩) (fun i v w w' _ hd h => pfV.keep _ _ _ _ i v w w' hd h) (fun k us us' w w' h _ hb hR => psR.keep _ _ _ _ _ k us us' w w' h hb hR) ⟨?_, ?_, ?_, ?_, ?_, ?_, ?_, ?_, trivial⟩ ?_
    · refine stepE_early 0 0 (.inl rfl) (.inr ⟨_, _, rfl, rfl, by kernel_rfl⟩) [] (by kernel_rfl) (by decide) (by decide) rfl fun us w' k hB hG hV hk hR => ?_
      have hq : us 7 = vv := by
        obtain ⟨h1, h2⟩ := hk
        match k, h1, h2, hR with
        | 0, _, _, hR => exact hR.1
      have o9 := (frame_at2 (us := us) hl (show (pfT[9]?).join = some 7 from rfl)).trans hq
      generalize frame pfT a0 us = fr at *
      exact val_C (v := vv) (w' := w') (by go_simp) (Below.refl _ _) rfl
    · refine stepE_val [] (by kernel_rfl) (by decide) (by decide) rfl fun us w' hB hG hV => ?_
      have o4 := (frame_old2 (us := us) (a := a0) (show (pfT[4]?).join = none from rfl)).trans k4
      generalize frame pfT a0 us = fr at *
      exact val_C (v := .pointer (some ⟨w.heap.size, 1, none⟩)) (w' := w') (by go_simp) (Below.refl _ _) rfl
    · refine stepE_val [1] (by kernel_rfl) (by decide) (by decide) rfl fun us w' hB hG hV => ?_
      have e1 : us 1 = .pointer (some ⟨w.heap.size, 1, none⟩) := hV 1 (by simp)
      have v1 := (frame_at2 (us := us) hl (show (pfT[42]?).join = some 1 from rfl)).trans e1
      generalize frame pfT a0 us = fr at *
      exact val_C (v := .slice (some ⟨w.heap.size, 1, none⟩) 4 16) (w' := w') (by go_simp) (Below.refl _ _) rfl
    · refine stepE_chain 0 rfl (by decide) [0, 2] (by kernel_rfl) (by decide) rfl fun us w' hB hG hV hR => ?_
      have e0 : us 0 = vv := hV 0 (by simp)
      have v0 := (frame_at2 (us := us) hl (show (pfT[41]?).join = some 0 from rfl)).trans e0
      have e2 : us 2 = .slice (some ⟨w.heap.size, 1, none⟩) 4 16 := hV 2 (by simp)
      have v2 := (frame_at2 (us := us) hl (show (pfT[43]?).join = some 2 from rfl)).trans e2
      generalize frame pfT a0 us = fr at *
      obtain ⟨h7, hz, HO⟩ : us 7 = vv ∧ B ≤ w'.heap.size ∧ Own .u8 5 w' B vv [] := hR
      exact append_Jo (R := fun v w'' => (Below B w' w'' ∧ Below 0 w' w'') ∧ psR B vv [] X1 X2 1 (upd us 3 v) w'') (.tmp 41) (.tmp 43) 24 rfl 5 i0 _ 1 Try.underlying24 I1.out I2.out I3.out I4.out rfl B _ [] (eval_tmp v0) HO B _ 4 16 Y1 (eval_tmp v2) (N1.out w' hG.1) (by rw [L0.out]; decide) (by rw [L0.out]; decide) hz 4 (by rw [L0.out]) fun A' c' w'' _ _ O' B' => ⟨belowBS B', Nat.le_trans hz B'.size, by rw [upd_same]; exact E1.out ▸ O'⟩
    · refine stepE_val [] (by kernel_rfl) (by decide) (by decide) rfl fun us w' hB hG hV => ?_
      have o5 := (frame_old2 (us := us) (a := a0) (show (pfT[5]?).join = none from rfl)).trans k5
      generalize frame pfT a0 us = fr at *
      exact val_C (v := .pointer (some ⟨w.heap.size + 1, 1, none⟩)) (w' := w') (by go_simp) (Below.refl _ _) rfl
    · refine stepE_val [4] (by kernel_rfl) (by decide) (by decide) rfl fun us w' hB hG hV => ?_
      have e4 : us 4 = .pointer (some ⟨w.heap.size + 1, 1, none⟩) := hV 4 (by simp)
      have v4 := (frame_at2 (us := us) hl (show (pfT[45]?).join = some 4 from rfl)).trans e4
      generalize frame pfT a0 us = fr at *
      exact val_C (v := .slice (some ⟨w.heap.size + 1, 1, none⟩) 4 16) (w' := w') (by go_simp) (Below.refl _ _) rfl
    · refine stepE_chain 1 rfl (by decide) [5] (by kernel_rfl) (by decide) rfl fun us w' hB hG hV hR => ?_
      have e5 : us 5 = .slice (some ⟨w.heap.size + 1, 1, none⟩) 4 16 := hV 5 (by simp)
      have v5 := (frame_at2 (us := us) hl (show (pfT[46]?).join = some 5 from rfl)).trans e5
      have vc := frame_at2 (us := us) hl (show (pfT[44]?).join = some 3 from rfl)
      generalize frame pfT a0 us = fr at *
      exact append_Jo (R := fun v w'' => (Below B w' w'' ∧ Below 0 w' w'') ∧ psR B vv [] X1 X2 2 (upd us 6 v) w'') (.tmp 44) (.tmp 46) 24 rfl 5 i0 _ 1 Try.underlying24 I1.out I2.out I3.out I4.out rfl B _ X1 (eval_tmp vc) hR.2 B _ 4 16 Y2 (eval_tmp v5) (N2.out w' hG.1) (by rw [L1.out]; decide) (by rw [L1.out]; decide) hR.1 8 (by rw [L1.out]) fun A' c' w'' _ _ O' B' => ⟨belowBS B', Nat.le_trans hR.1 B'.size, by rw [upd_same]; exact E2.out ▸ O'⟩
    · refine stepE_chain 2 rfl (by decide) [] (by kernel_rfl) (by decide) rfl fun us w' hB hG hV hR => ?_
      have vc := frame_at2 (us := us) hl (show (pfT[47]?).join = some 6 from rfl)
      generalize frame pfT a0 us = fr at *
      exact val_J (R := fun v w'' => (Below B w' w'' ∧ Below 0 w' w'') ∧ psR B vv [] X1 X2 3 (upd us 7 v) w'') (v := us 6) (w' := w') (by go_simp) ⟨belowBS (Below.refl _ _), hR.1, by rw [upd_same]; exact hR.2⟩
    · intro us w2 hB hG hV hR
      subst ha0
      simp only [frame, pfT, fill]
      have HR : Hid (Own .u8 5 w2 B (us 7) X2) := Lib.hid hR.2
      have HG := Lib.hid hG.1
      have S2 := Lib.hid (show B ≤ w2.heap.size from hG.2)
      clear hV hR hG hl k4 k5 k9 hB
      generalize us 7 = v9 at *
      have e1 : IntKind.u8.wrap (n / 16777216) = n / 16777216 := IntWalk.u8_in _ (by omega)
      have e2 : IntKind.u8.wrap (n / 65536) = n / 65536 := IntWalk.u8_in _ (by omega)
      have e3 : IntKind.u8.wrap (n / 256) = n / 256 := IntWalk.u8_in _ (by omega)
      have e4 : IntKind.u8.wrap n = n % 256 := IntKind.wrap_u8 n
      have n8 := Lib.hid (lit_nums .u8 w2 [0, p, n / 256, n % 256] 5 _ rfl 4 rfl)
      have O8 := Lib.hid (HR.out.alloc (.cells #[.int .u8 0, .int .u8 p, .int .u8 (n / 256), .int .u8 (n % 256)] 5))
      have NB := Lib.hid (alloc_below w2 (.cells #[.int .u8 0, .int .u8 p, .int .u8 (n / 256), .int .u8 (n % 256)] 5))
      have S8 := Lib.hid (show B ≤ (w2.alloc (.cells #[.int .u8 0, .int .u8 p, .int .u8 (n / 256), .int .u8 (n % 256)] 5)).heap.size from Nat.le_trans S2.out NB.out.size)
      go_wp2_with (first
        | (at_builtin; (refine wpList_app _ rfl (.tmp 48) (.tmp 55) _ rfl 5 i0 _ 1 Try.underlying24 I1.out I2.out I3.out I4.out rfl B v9 X2 rfl O8.out (w2.heap.size + 1) _ 4 4 [0, p, n / 256, n % 256] rfl n8.out (by rw [L2.out]; decide) (by rw [L2.out]; decide) S8.out ?_)
           intro v6 w6 O hg
           have BF := Lib.hid (show Below B w2 w6 from (NB.out.mono S2.out).grown hg S8.out fun q hq => (O8.out.blk q hq).1)
           obtain ⟨A6, c6, ev, g1, g2, -⟩ := O.form
           rw [show (X2 ++ [0, p, n / 256, n % 256]).length = 12 by rw [List.length_append, L2.out]; rfl] at ev g1
           subst ev
           have HO := Lib.hid O
           have HL := Lib.hid (And.intro g1 g2)
           clear O hg g1 g2))
      go_ret
      exact ⟨A6, c6, rfl, HL.out.1, HL.out.2, by rw [← E9.out]; exact HO.out.less HBw.out, HBB.out.trans ((HG.out.trans BF.out).mono HBw.out)⟩
theorem rpse_any {C1 C2 : Array Value} {s1 s2 : Bool} {b1 b2 : List Int} {p n : Int} (h1 : chkC.AddrC C1 s1 b1) (h2 : chkC.AddrC C2 s2 b2) (p0 : 0 ≤ p) (p1 : p ≤ 255) (n0 : 0 ≤ n) (n1 : n ≤ 10000) (w : World) :
    Calls Try.prog 45 #[.agg C1, .agg C2, .int .u8 p, .int .i64 n] w (CatRet w (pseL s1 s2 b1 b2 p n) (pseN s1 s2)) := by
  unfold pseL pseN
  by_cases hs : (s1 || s2) = true
  · rw [if_pos hs, if_pos hs]
    exact rpse_six C1 C2 s1 s2 b1 b2 p n w h1 h2 hs p0 p1 n0 n1
  · rw [if_neg hs, if_neg hs]
    exact rpse_four C1 C2 s1 s2 b1 b2 p n w h1 h2 (by simpa using hs) p0 p1 n0 n1
theorem rsum2_on {w w0 : World} {A A' : Option Addr} {n c n' c' : Nat} {bs bs' : List Int} {f : Int} (B : Below w.heap.size w w0) (h : PartAt w0 w0.heap.size ⟨A, n, c, bs⟩) (h' : PartAt w0 w0.heap.size ⟨A', n', c', bs'⟩) (hf : chkM.fo (chkM.wsum bs + chkM.wsum bs') = f) :
    Calls Try.prog 44 #[.slice (some ⟨w0.heap.size, 0, none⟩) 2 2] (w0.alloc (.cells #[.slice A n c, .slice A' n' c'] 24)) (chkC.NumRet w f) :=
  (chkC.sumref_any _ 2 2 _ _ (chkC.parts2 h h' 24) (by decide) rfl).mono fun e w' ⟨he, hw⟩ =>
    ⟨by rw [he]; exact chkC.ret_int (by rw [← hf]; exact congrArg chkM.fo (by simp [chkC.numsOf, chkM.psum])), by rw [← hw]; exact B.trans ((alloc_below w0 _).mono B.size)⟩
end Go.Proofs.Ytmbfgolcinniiaa.pseC
