/-
  6 texts of a proof, joined.
-/
import Derived.Test.YtmbfgolcinniiaaMg28
import Derived.Test.YtmbfgolcinniiaaMg14
import Derived.Test.YtmbfgolcinniiaaMg9
import Derived.Test.YtmbfgolcinniiaaMg16
import Derived.Test.YtmbfgolcinniiaaMg13
import Derived.Test.YtmbfgolcinniiaaMg22
import Derived.Test.YtmbfgolcinniiaaMg21
import Derived.Test.YtmbfgolcinniiaaMg5
import Derived.Test.YtmbfgolcinniiaaMg18
import Derived.Test.YtmbfgolcinniiaaMg6
import Derived.Test.YtmbfgolcinniiaaMg24
import Derived.Test.YtmbfgolcinniiaaMg4
import Derived.Test.YtmbfgolcinniiaaMg20
import Derived.Test.YtmbfgolcinniiaaMg3

/-
  What counts of a message, and whether there is such a kind: the program's.
-/
namespace Go.Proofs.Ytmbfgolcinniiaa.icC
open Go.ChangeShapes Go.WideShapes Go.ChangeAt Go.RowKit
open Go.Proofs.Ytmbfgolcinniiaa.memC Go.Proofs.Ytmbfgolcinniiaa.genC Go.Proofs.Ytmbfgolcinniiaa.butC Go.Proofs.Ytmbfgolcinniiaa.freeC Go.Proofs.Ytmbfgolcinniiaa.adC
set_option linter.unusedVariables false
theorem cs_built2 (x : Int) (A : Option Addr) (n c : Nat) : Try.prog.built 36 [(0, .int .i64 x), (5, .slice A n c)] = some (msV ⟨x, 0, 0, 0, 0⟩ A n c) := by kernel_rfl
/-- the message, the result, what is made -/
structure Kc (w0 w : World) (m o : Ms) (A : Option Addr) (n c : Nat) : Prop where
  par : w.heap[w0.heap.size]? = some (.cells (msV m A n c) 36 (0, 0))
  res : w.heap[w0.heap.size + 1]? = some (.cells (msV zMs none 0 0) 36 (0, 0))
  out : w.heap[w0.heap.size + 2]? = some (.cells (msV o A n c) 36 (0, 0))
  bel : Below w0.heap.size w0 w
section
variable {w0 w w' : World} {m o o' : Ms} {A : Option Addr} {n c : Nat}
theorem Kc.belw (h : Kc w0 w m o A n c) (hb : Below w.heap.size w w') : Kc w0 w' m o A n c :=
  ⟨by rw [hb.block _ (lt_of_rowI h.par)]; exact h.par, by rw [hb.block _ (lt_of_rowI h.res)]; exact h.res, by rw [hb.block _ (lt_of_rowI h.out)]; exact h.out, h.bel.trans (hb.mono h.bel.size)⟩
theorem Kc.set_ (h : Kc w0 w m o A n c) (j : Nat) (v : Value) (e : (msV o A n c).setIfInBounds j v = msV o' A n c) : Kc w0 (w.setCell ⟨w0.heap.size + 2, j, none⟩ v) m o' A n c := by
  have hd : ∀ k, k ≠ w0.heap.size + 2 → (w.setCell ⟨w0.heap.size + 2, j, none⟩ v).heap[k]? = w.heap[k]? := fun k hk => Below.heap_setCell _ _ _ _ hk
  refine ⟨(hd _ (by omega)).trans h.par, (hd _ (by omega)).trans h.res, ?_, h.bel.setCell (p := ⟨w0.heap.size + 2, j, none⟩) (by show w0.heap.size ≤ w0.heap.size + 2; omega) _⟩
  rw [heap_setCell_same w (w0.heap.size + 2) j _ _ _ h.out, e]
end
def kcR (w0 : World) (m : Ms) (A : Option Addr) (n c : Nat) (f : Nat → Ms) : Nat → (Nat → Value) → World → Prop := fun k _ w => Kc w0 w m (f k) A n c
theorem kcR.keep {w0 : World} {m : Ms} {A : Option Addr} {n c : Nat} {f : Nat → Ms} {k : Nat} {us us' : Nat → Value} {w w' : World} (hb : Below w.heap.size w w') (h : kcR w0 m A n c f k us w) : kcR w0 m A n c f k us' w' := Kc.belw h hb
def cnV (g1 g3 : Nat) (xi xs : Int) : Nat → Value → World → Prop
  | 0, v, _ => v = .pointer (some ⟨g1, 2, none⟩)
  | 1, v, _ => v = .int .u16 xi
  | 2, v, _ => v = .pointer (some ⟨g1, 3, none⟩)
  | 3, v, _ => v = .int .u16 xs
  | 4, v, _ => v = .pointer (some ⟨g3, 2, none⟩)
  | 6, v, _ => v = .pointer (some ⟨g3, 3, none⟩)
  | _, _, _ => True
theorem cnV.keep (g1 g3 : Nat) (xi xs : Int) (i : Nat) (v : Value) (w w' : World) (hd : Below w.heap.size w w' ∨ (fun _ _ => True) w w') (h : cnV g1 g3 xi xs i v w) : cnV g1 g3 xi xs i v w' := by
  unfold cnV at h ⊢
  split at h <;> exact h
def cnT : List (Option Nat) := [none, none, none, none, none, none, none, none, none, none, none, none, none, none, none, none, some 0, some 1, some 2, some 3, some 4, some 6, none, none, none, none, none, none, none, none, none, none, none, none]
set_option maxRecDepth 100000 in
set_option maxHeartbeats 4000000 in
/-- a message and its data as they are, and a bool -/
def CtR (w : World) (C : Array Value) (b : Bool) (e : Ending) (w' : World) : Prop := e = .returned (.tuple #[.agg C, .bool b]) ∧ Below w.heap.size w w'
theorem count_any (m : Ms) (A : Option Addr) (n c : Nat) (w : World) : Calls Try.prog 32 #[.agg (msV m A n c)] w (CtR w (if 1 ≤ m.ki ∧ m.ki ≤ 5 then msV (keptM m) A n c else msV zMs none 0 0) (decide (1 ≤ m.ki ∧ m.ki ≤ 5))) := by
  have hzv := zeroCs
  obtain ⟨W0, hW0⟩ : ∃ W, W = w.alloc (.cells (msV m A n c) 36) := ⟨_, rfl⟩
  obtain ⟨W1, hW1⟩ : ∃ W, W = W0.alloc (.cells (msV zMs none 0 0) 36) := ⟨_, rfl⟩
  have z0 : W0.heap.size = w.heap.size + 1 := by rw [hW0, alloc_size]
  have z1 : W1.heap.size = w.heap.size + 2 := by rw [hW1, alloc_size, z0]
  have B0 : Below w.heap.size w W0 := by rw [hW0]; exact alloc_below _ _
  have B1 : Below W0.heap.size W0 W1 := by rw [hW1]; exact alloc_below _ _
  have RP : W1.heap[w.heap.size]? = some (.cells (msV m A n c) 36 (0, 0)) := by rw [B1.block _ (by omega), hW0]; exact heap_alloc_new _ _
  have k0 := pkC.PkC.cell RP (msC m A n c).ki
  have k5 := pkC.PkC.cell RP (msC m A n c).da
  have KW := Lib.hid (show ∀ W, W = W1.alloc (.cells (msV ⟨m.ki, 0, 0, 0, 0⟩ A n c) 36) → Kc w W m ⟨m.ki, 0, 0, 0, 0⟩ A n c from fun W h => by
    have B2 : Below W1.heap.size W1 W := by rw [h]; exact alloc_below _ _
    refine ⟨(B2.block _ (by omega)).trans RP, ?_, ?_, (B0.trans (B1.mono (by omega))).trans (B2.mono (by omega))⟩
    · rw [B2.block _ (by omega), hW1, ← z0]; exact heap_alloc_new _ _
    · rw [h, ← z1]; exact heap_alloc_new _ _)
  have HR1 := Lib.hid (show (W1.alloc (.cells (msV zMs none 0 0) 36)).heap[w.heap.size + 2]? = some (.cells (msV zMs none 0 0) 36 (0, 0)) by rw [← z1]; exact heap_alloc_new _ _)
  have SR := Lib.hid (show (W1.alloc (.cells (msV zMs none 0 0) 36)).setRow (w.heap.size + 2) (msV ⟨m.ki, 0, 0, 0, 0⟩ A n c) = W1.alloc (.cells (msV ⟨m.ki, 0, 0, 0, 0⟩ A n c) 36) by rw [← z1, World.setRow_alloc_new])
  have BT := Lib.hid (cs_built2 m.ki A n c)
  have I5 := Lib.hid (msC ⟨m.ki, 0, 0, 0, 0⟩ A n c).cinfo
  have S5 := Lib.hid (ms_size zMs ⟨m.ki, 0, 0, 0, 0⟩ none A 0 0 n c)
  have O5 := Lib.hid (ms_one ⟨m.ki, 0, 0, 0, 0⟩ A n c)
  obtain ⟨CP, hCP⟩ : ∃ C, C = msV m A n c := ⟨_, rfl⟩
  rw [← hCP] at hW0 RP ⊢
  generalize hC5 : msV ⟨m.ki, 0, 0, 0, 0⟩ A n c = C5 at *
  generalize hCZ : msV zMs none 0 0 = CZ at *
  have HCP := Lib.hid hCP
  have HC5 := Lib.hid hC5
  have HCZ := Lib.hid hCZ
  clear B0 B1 hCP hC5 hCZ
  go_enter Try.func32, Try.ntmps32
  go_upto_region 1 with fail
  rw [← hW0, ← hW1]
  try rw [z0]
  clear hW0 hW1 z0
  go_upto_region 2 with (first
    | (with_reducible refine at_buildI 36 ?_; refine wpList_runG (by kernel_rfl) _ (built2_runI (T := 36) rfl (by kernel_rfl) (by kernel_rfl) BT.out) ?_)
    | (refine wpList_store_row rfl 36 (.tmp 4) (.tmp 9) rfl (w.heap.size + 2) _ rfl rfl _ _ HR1.out I5.out S5.out O5.out ?_; rw [SR.out]))
  have hT := KW.out _ rfl
  generalize W1.alloc (.cells C5 36) = W at *
  have T0 := Lib.hid hT
  have p0 := pkC.PkC.cell hT.par (msC m A n c).ki
  have HWS := Lib.hid (show w.heap.size ≤ W.heap.size from hT.bel.size)
  clear hT KW HR1 SR BT I5 S5 O5 k0 k5 RP hzv HCP z1
  try clear HC5
  try rw [HCZ.out]
  by_cases h1 : m.ki = 1
  · have e1 : (m.ki == 1) = true := beq_iff_eq.2 h1
    rw [if_pos (by omega), decide_eq_true (by omega)]
    have eK : keptM m = ⟨m.ki, 0, m.id, m.sq, 0⟩ := by unfold keptM; rw [if_pos (by omega)]
    rw [eK]
    go_upto_region 6 with fail
    clear p0 e1
    have KI := Lib.hid (fun (w' : World) (h : Below w.heap.size w w' ∧ w'.heap[w.heap.size]? = some (.cells (msV m A n c) 36 (0, 0))) => pkC.PkC.cell h.2 (msC m A n c).id)
    have KQ := Lib.hid (fun (w' : World) (h : Below w.heap.size w w' ∧ w'.heap[w.heap.size]? = some (.cells (msV m A n c) 36 (0, 0))) => pkC.PkC.cell h.2 (msC m A n c).sq)
    refine with_act fun a0 ha0 => ?_
    have hl : cnT.length = a0.tmps.size := by rw [ha0]; rfl
    have k1 : a0.tmps[1]?.getD undef = .pointer (some ⟨(w.heap.size), 0, none⟩) := by rw [ha0]; rfl
    have k4 : a0.tmps[4]?.getD undef = .pointer (some ⟨(w.heap.size + 2), 0, none⟩) := by rw [ha0]; rfl
    refine wp_region_che (by kernel_rfl) cnT (by kernel_rfl) (by kernel_rfl) hl (fun i => undef) (by rw [ha0]; rfl) ((w.heap.size)) (fun w1 w2 => Below w.heap.size w1 w2 ∧ w2.heap[w.heap.size]? = w1.heap[w.heap.size]?) [5, 7] (by kernel_rfl) (by decide) (by decide) (fun w' => Below w.heap.size w w' ∧ w'.heap[w.heap.size]? = some (.cells (msV m A n c) 36 (0, 0))) (cnV (w.heap.size) (w.heap.size + 2) m.id m.sq) (kcR w m A n c (fun k => ([⟨m.ki, 0, 0, 0, 0⟩, ⟨m.ki, 0, m.id, 0, 0⟩, ⟨m.ki, 0, m.id, m.sq, 0⟩] : List Ms).getD k m)) HWS.out ⟨T0.out.bel.trans ((Below.refl _ _).drew.mono HWS.out), (T0.out.belw (Below.refl _ _).drew).par⟩ (show Kc w W.drew m ⟨m.ki, 0, 0, 0, 0⟩ A n c from T0.out.belw (Below.refl _ _).drew) (fun w1 w2 hb hd h => ⟨bel_orI hb h.1 (hd.imp id And.left), by rcases hd with hd | hd; exact (hd.block _ (lt_of_rowI h.2)).trans h.2; exact hd.2.trans h.2⟩) (fun i v w w' _ _ h => cnV.keep _ _ _ _ i v w w' (.inr trivial) h) (fun k us us' w1 w2 _ _ hb hR => kcR.keep hb hR) ⟨?_, ?_, ?_, ?_, ?_, ?_, ?_, ?_, trivial⟩ ?_
    · refine stepE_val [] (by kernel_rfl) (by decide) (by decide) rfl fun us w' hB hG hV => ?_
      have o1 := (frame_old2 (us := us) (a := a0) (show (cnT[1]?).join = none from rfl)).trans k1
      generalize frame cnT a0 us = fr at *
      exact val_C (v := .pointer (some ⟨(w.heap.size), 2, none⟩)) (w' := w') (by go_simp) (Below.refl _ _) rfl
    · refine stepE_val [0] (by kernel_rfl) (by decide) (by decide) rfl fun us w' hB hG hV => ?_
      have e0 : us 0 = .pointer (some ⟨(w.heap.size), 2, none⟩) := hV 0 (by simp)
      have v0 := (frame_at2 (us := us) hl (show (cnT[16]?).join = some 0 from rfl)).trans e0
      have hc := KI.out w' hG
      generalize frame cnT a0 us = fr at *
      exact val_C (v := .int .u16 m.id) (w' := w') (by go_simp) (Below.refl _ _) rfl
    · refine stepE_val [] (by kernel_rfl) (by decide) (by decide) rfl fun us w' hB hG hV => ?_
      have o1 := (frame_old2 (us := us) (a := a0) (show (cnT[1]?).join = none from rfl)).trans k1
      generalize frame cnT a0 us = fr at *
      exact val_C (v := .pointer (some ⟨(w.heap.size), 3, none⟩)) (w' := w') (by go_simp) (Below.refl _ _) rfl
    · refine stepE_val [2] (by kernel_rfl) (by decide) (by decide) rfl fun us w' hB hG hV => ?_
      have e2 : us 2 = .pointer (some ⟨(w.heap.size), 3, none⟩) := hV 2 (by simp)
      have v2 := (frame_at2 (us := us) hl (show (cnT[18]?).join = some 2 from rfl)).trans e2
      have hc := KQ.out w' hG
      generalize frame cnT a0 us = fr at *
      exact val_C (v := .int .u16 m.sq) (w' := w') (by go_simp) (Below.refl _ _) rfl
    · refine stepE_val [] (by kernel_rfl) (by decide) (by decide) rfl fun us w' hB hG hV => ?_
      have o4 := (frame_old2 (us := us) (a := a0) (show (cnT[4]?).join = none from rfl)).trans k4
      generalize frame cnT a0 us = fr at *
      exact val_C (v := .pointer (some ⟨(w.heap.size + 2), 2, none⟩)) (w' := w') (by go_simp) (Below.refl _ _) rfl
    · refine stepE_chain 0 rfl (by decide) [4, 1] (by kernel_rfl) (by decide) rfl fun us w' hB hG hV hR => ?_
      have e4 : us 4 = .pointer (some ⟨(w.heap.size + 2), 2, none⟩) := hV 4 (by simp)
      have v4 := (frame_at2 (us := us) hl (show (cnT[20]?).join = some 4 from rfl)).trans e4
      have e1 : us 1 = .int .u16 m.id := hV 1 (by simp)
      have v1 := (frame_at2 (us := us) hl (show (cnT[17]?).join = some 1 from rfl)).trans e1
      have T5 := (show Kc w w' m ⟨m.ki, 0, 0, 0, 0⟩ A n c from hR)
      have hc := pkC.PkC.cell T5.out (msC (⟨m.ki, 0, 0, 0, 0⟩ : Ms) A n c).id
      have hf := frozen_of_row w' (w.heap.size + 2) 2 _ _ T5.out
      generalize frame cnT a0 us = fr at *
      exact free_skip (w' := w'.setCell ⟨w.heap.size + 2, 2, none⟩ (.int .u16 m.id)) (by go_simp) ⟨undef, rfl, ⟨⟨(Below.refl w.heap.size w').setCell (p := ⟨w.heap.size + 2, 2, none⟩) (by show w.heap.size ≤ w.heap.size + 2; omega) _, Below.heap_setCell _ _ _ _ (by show w.heap.size ≠ w.heap.size + 2; omega)⟩, (Below.refl w.heap.size w').setCell (p := ⟨w.heap.size + 2, 2, none⟩) (by show w.heap.size ≤ w.heap.size + 2; omega) _⟩, (show Kc w _ m ⟨m.ki, 0, m.id, 0, 0⟩ A n c from T5.set_ 2 _ (msV_id m.id))⟩
    · refine stepE_val [] (by kernel_rfl) (by decide) (by decide) rfl fun us w' hB hG hV => ?_
      have o4 := (frame_old2 (us := us) (a := a0) (show (cnT[4]?).join = none from rfl)).trans k4
      generalize frame cnT a0 us = fr at *
      exact val_C (v := .pointer (some ⟨(w.heap.size + 2), 3, none⟩)) (w' := w') (by go_simp) (Below.refl _ _) rfl
    · refine stepE_chain 1 rfl (by decide) [6, 3] (by kernel_rfl) (by decide) rfl fun us w' hB hG hV hR => ?_
      have e6 : us 6 = .pointer (some ⟨(w.heap.size + 2), 3, none⟩) := hV 6 (by simp)
      have v6 := (frame_at2 (us := us) hl (show (cnT[21]?).join = some 6 from rfl)).trans e6
      have e3 : us 3 = .int .u16 m.sq := hV 3 (by simp)
      have v3 := (frame_at2 (us := us) hl (show (cnT[19]?).join = some 3 from rfl)).trans e3
      have T5 := (show Kc w w' m ⟨m.ki, 0, m.id, 0, 0⟩ A n c from hR)
      have hc := pkC.PkC.cell T5.out (msC (⟨m.ki, 0, m.id, 0, 0⟩ : Ms) A n c).sq
      have hf := frozen_of_row w' (w.heap.size + 2) 3 _ _ T5.out
      generalize frame cnT a0 us = fr at *
      exact free_skip (w' := w'.setCell ⟨w.heap.size + 2, 3, none⟩ (.int .u16 m.sq)) (by go_simp) ⟨undef, rfl, ⟨⟨(Below.refl w.heap.size w').setCell (p := ⟨w.heap.size + 2, 3, none⟩) (by show w.heap.size ≤ w.heap.size + 2; omega) _, Below.heap_setCell _ _ _ _ (by show w.heap.size ≠ w.heap.size + 2; omega)⟩, (Below.refl w.heap.size w').setCell (p := ⟨w.heap.size + 2, 3, none⟩) (by show w.heap.size ≤ w.heap.size + 2; omega) _⟩, (show Kc w _ m ⟨m.ki, 0, m.id, m.sq, 0⟩ A n c from T5.set_ 3 _ (msV_sq m.sq))⟩
    · intro us w6 hB2 hG hV hR
      have T1 := Lib.hid (show Kc w w6 m ⟨m.ki, 0, m.id, m.sq, 0⟩ A n c from hR)
      subst ha0
      simp only [frame, cnT, fill]
      clear hV hG hl HWS hR k1 k4
      go_upto_region 12 with fail
      have RW := Lib.hid T1.out.out
      have ZW := Lib.hid T1.out.res
      have BW := Lib.hid T1.out.bel
      have IQ := Lib.hid (msC ⟨m.ki, 0, m.id, m.sq, 0⟩ A n c).cinfo
      have SQ := Lib.hid (ms_size zMs ⟨m.ki, 0, m.id, m.sq, 0⟩ none A 0 0 n c)
      have OQ := Lib.hid (ms_one ⟨m.ki, 0, m.id, m.sq, 0⟩ A n c)
      clear T1
      generalize hC1 : msV ⟨m.ki, 0, m.id, m.sq, 0⟩ A n c = C1 at *
      have HC1 := Lib.hid hC1
      clear hC1
      go_wp2_with (first
        | (refine wpList_load_rowG (by kernel_rfl) 36 (.tmp 4) rfl (w.heap.size + 2) (by kernel_rfl) _ _ _ _ RW.out Try.underlying36 rfl IQ.out ?_)
        | (refine wpList_store_row rfl 36 (.tmp 2) (.tmp 33) rfl (w.heap.size + 1) C1 rfl rfl _ _ ZW.out IQ.out SQ.out OQ.out ?_))
      refine bodyPost_ret (v := .tuple #[.agg C1, .bool true]) (adC.results_cell_tmp Try.results32 _ _ (w.heap.size + 1) _ _ _ _ _ (by rfl) (setRow_heap _ _ _ _ _ _ ZW.out) Try.underlying36 rfl IQ.out (by rfl)) rfl ?_
      refine ⟨?_, setR_belowI BW.out (by omega) _⟩
      first | rfl | (rw [← HC1.out]; first | rfl | (rw [eK]; done) | simp only [h3] | simp only [h5] | simp only [h4] | simp only [h1] | simp only [h2])
  by_cases h2 : m.ki = 2
  · have e1 : (m.ki == 1) = false := beq_eq_false_iff_ne.2 h1
    have e2 : (m.ki == 2) = true := beq_iff_eq.2 h2
    rw [if_pos (by omega), decide_eq_true (by omega)]
    have eK : keptM m = ⟨m.ki, 0, m.id, m.sq, 0⟩ := by unfold keptM; rw [if_pos (by omega)]
    rw [eK]
    go_upto_region 6 with fail
    clear p0 e1 e2
    have KI := Lib.hid (fun (w' : World) (h : Below w.heap.size w w' ∧ w'.heap[w.heap.size]? = some (.cells (msV m A n c) 36 (0, 0))) => pkC.PkC.cell h.2 (msC m A n c).id)
    have KQ := Lib.hid (fun (w' : World) (h : Below w.heap.size w w' ∧ w'.heap[w.heap.size]? = some (.cells (msV m A n c) 36 (0, 0))) => pkC.PkC.cell h.2 (msC m A n c).sq)
    refine with_act fun a0 ha0 => ?_
    have hl : cnT.length = a0.tmps.size := by rw [ha0]; rfl
    have k1 : a0.tmps[1]?.getD undef = .pointer (some ⟨(w.heap.size), 0, none⟩) := by rw [ha0]; rfl
    have k4 : a0.tmps[4]?.getD undef = .pointer (some ⟨(w.heap.size + 2), 0, none⟩) := by rw [ha0]; rfl
    refine wp_region_che (by kernel_rfl) cnT (by kernel_rfl) (by kernel_rfl) hl (fun i => undef) (by rw [ha0]; rfl) ((w.heap.size)) (fun w1 w2 => Below w.heap.size w1 w2 ∧ w2.heap[w.heap.size]? = w1.heap[w.heap.size]?) [5, 7] (by kernel_rfl) (by decide) (by decide) (fun w' => Below w.heap.size w w' ∧ w'.heap[w.heap.size]? = some (.cells (msV m A n c) 36 (0, 0))) (cnV (w.heap.size) (w.heap.size + 2) m.id m.sq) (kcR w m A n c (fun k => ([⟨m.ki, 0, 0, 0, 0⟩, ⟨m.ki, 0, m.id, 0, 0⟩, ⟨m.ki, 0, m.id, m.sq, 0⟩] : List Ms).getD k m)) HWS.out ⟨T0.out.bel.trans ((Below.refl _ _).drew.mono HWS.out), (T0.out.belw (Below.refl _ _).drew).par⟩ (show Kc w W.drew m ⟨m.ki, 0, 0, 0, 0⟩ A n c from T0.out.belw (Below.refl _ _).drew) (fun w1 w2 hb hd h => ⟨bel_orI hb h.1 (hd.imp id And.left), by rcases hd with hd | hd; exact (hd.block _ (lt_of_rowI h.2)).trans h.2; exact hd.2.trans h.2⟩) (fun i v w w' _ _ h => cnV.keep _ _ _ _ i v w w' (.inr trivial) h) (fun k us us' w1 w2 _ _ hb hR => kcR.keep hb hR) ⟨?_, ?_, ?_, ?_, ?_, ?_, ?_, ?_, trivial⟩ ?_
    · refine stepE_val [] (by kernel_rfl) (by decide) (by decide) rfl fun us w' hB hG hV => ?_
      have o1 := (frame_old2 (us := us) (a := a0) (show (cnT[1]?).join = none from rfl)).trans k1
      generalize frame cnT a0 us = fr at *
      exact val_C (v := .pointer (some ⟨(w.heap.size), 2, none⟩)) (w' := w') (by go_simp) (Below.refl _ _) rfl
    · refine stepE_val [0] (by kernel_rfl) (by decide) (by decide) rfl fun us w' hB hG hV => ?_
      have e0 : us 0 = .pointer (some ⟨(w.heap.size), 2, none⟩) := hV 0 (by simp)
      have v0 := (frame_at2 (us := us) hl (show (cnT[16]?).join = some 0 from rfl)).trans e0
      have hc := KI.out w' hG
      generalize frame cnT a0 us = fr at *
      exact val_C (v := .int .u16 m.id) (w' := w') (by go_simp) (Below.refl _ _) rfl
    · refine stepE_val [] (by kernel_rfl) (by decide) (by decide) rfl fun us w' hB hG hV => ?_
      have o1 := (frame_old2 (us := us) (a := a0) (show (cnT[1]?).join = none from rfl)).trans k1
      generalize frame cnT a0 us = fr at *
      exact val_C (v := .pointer (some ⟨(w.heap.size), 3, none⟩)) (w' := w') (by go_simp) (Below.refl _ _) rfl
    · refine stepE_val [2] (by kernel_rfl) (by decide) (by decide) rfl fun us w' hB hG hV => ?_
      have e2 : us 2 = .pointer (some ⟨(w.heap.size), 3, none⟩) := hV 2 (by simp)
      have v2 := (frame_at2 (us := us) hl (show (cnT[18]?).join = some 2 from rfl)).trans e2
      have hc := KQ.out w' hG
      generalize frame cnT a0 us = fr at *
      exact val_C (v := .int .u16 m.sq) (w' := w') (by go_simp) (Below.refl _ _) rfl
    · refine stepE_val [] (by kernel_rfl) (by decide) (by decide) rfl fun us w' hB hG hV => ?_
      have o4 := (frame_old2 (us := us) (a := a0) (show (cnT[4]?).join = none from rfl)).trans k4
      generalize frame cnT a0 us = fr at *
      exact val_C (v := .pointer (some ⟨(w.heap.size + 2), 2, none⟩)) (w' := w') (by go_simp) (Below.refl _ _) rfl
    · refine stepE_chain 0 rfl (by decide) [4, 1] (by kernel_rfl) (by decide) rfl fun us w' hB hG hV hR => ?_
      have e4 : us 4 = .pointer (some ⟨(w.heap.size + 2), 2, none⟩) := hV 4 (by simp)
      have v4 := (frame_at2 (us := us) hl (show (cnT[20]?).join = some 4 from rfl)).trans e4
      have e1 : us 1 = .int .u16 m.id := hV 1 (by simp)
      have v1 := (frame_at2 (us := us) hl (show (cnT[17]?).join = some 1 from rfl)).trans e1
      have T5 := (show Kc w w' m ⟨m.ki, 0, 0, 0, 0⟩ A n c from hR)
      have hc := pkC.PkC.cell T5.out (msC (⟨m.ki, 0, 0, 0, 0⟩ : Ms) A n c).id
      have hf := frozen_of_row w' (w.heap.size + 2) 2 _ _ T5.out
      generalize frame cnT a0 us = fr at *
      exact free_skip (w' := w'.setCell ⟨w.heap.size + 2, 2, none⟩ (.int .u16 m.id)) (by go_simp) ⟨undef, rfl, ⟨⟨(Below.refl w.heap.size w').setCell (p := ⟨w.heap.size + 2, 2, none⟩) (by show w.heap.size ≤ w.heap.size + 2; omega) _, Below.heap_setCell _ _ _ _ (by show w.heap.size ≠ w.heap.size + 2; omega)⟩, (Below.refl w.heap.size w').setCell (p := ⟨w.heap.size + 2, 2, none⟩) (by show w.heap.size ≤ w.heap.size + 2; omega) _⟩, (show Kc w _ m ⟨m.ki, 0, m.id, 0, 0⟩ A n c from T5.set_ 2 _ (msV_id m.id))⟩
    · refine stepE_val [] (by kernel_rfl) (by decide) (by decide) rfl fun us w' hB hG hV => ?_
      have o4 := (frame_old2 (us := us) (a := a0) (show (cnT[4]?).join = none from rfl)).trans k4
      generalize frame cnT a0 us = fr at *
      exact val_C (v := .pointer (some ⟨(w.heap.size + 2), 3, none⟩)) (w' := w') (by go_simp) (Below.refl _ _) rfl
    · refine stepE_chain 1 rfl (by decide) [6, 3] (by kernel_rfl) (by decide) rfl fun us w' hB hG hV hR => ?_
      have e6 : us 6 = .pointer (some ⟨(w.heap.size + 2), 3, none⟩) := hV 6 (by simp)
      have v6 := (frame_at2 (us := us) hl (show (cnT[21]?).join = some 6 from rfl)).trans e6
      have e3 : us 3 = .int .u16 m.sq := hV 3 (by simp)
      have v3 := (frame_at2 (us := us) hl (show (cnT[19]?).join = some 3 from rfl)).trans e3
      have T5 := (show Kc w w' m ⟨m.ki, 0, m.id, 0, 0⟩ A n c from hR)
      have hc := pkC.PkC.cell T5.out (msC (⟨m.ki, 0, m.id, 0, 0⟩ : Ms) A n c).sq
      have hf := frozen_of_row w' (w.heap.size + 2) 3 _ _ T5.out
      generalize frame cnT a0 us = fr at *
      exact free_skip (w' := w'.setCell ⟨w.heap.size + 2, 3, none⟩ (.int .u16 m.sq)) (by go_simp) ⟨undef, rfl, ⟨⟨(Below.refl w.heap.size w').setCell (p := ⟨w.heap.size + 2, 3, none⟩) (by show w.heap.size ≤ w.heap.size + 2; omega) _, Below.heap_setCell _ _ _ _ (by show w.heap.size ≠ w.heap.size + 2; omega)⟩, (Below.refl w.heap.size w').setCell (p := ⟨w.heap.size + 2, 3, none⟩) (by show w.heap.size ≤ w.heap.size + 2; omega) _⟩, (show Kc w _ m ⟨m.ki, 0, m.id, m.sq, 0⟩ A n c from T5.set_ 3 _ (msV_sq m.sq))⟩
    · intro us w6 hB2 hG hV hR
      have T1 := Lib.hid (show Kc w w6 m ⟨m.ki, 0, m.id, m.sq, 0⟩ A n c from hR)
      subst ha0
      simp only [frame, cnT, fill]
      clear hV hG hl HWS hR k1 k4
      go_upto_region 12 with fail
      have RW := Lib.hid T1.out.out
      have ZW := Lib.hid T1.out.res
      have BW := Lib.hid T1.out.bel
      have IQ := Lib.hid (msC ⟨m.ki, 0, m.id, m.sq, 0⟩ A n c).cinfo
      have SQ := Lib.hid (ms_size zMs ⟨m.ki, 0, m.id, m.sq, 0⟩ none A 0 0 n c)
      have OQ := Lib.hid (ms_one ⟨m.ki, 0, m.id, m.sq, 0⟩ A n c)
      clear T1
      generalize hC1 : msV ⟨m.ki, 0, m.id, m.sq, 0⟩ A n c = C1 at *
      have HC1 := Lib.hid hC1
      clear hC1
      go_wp2_with (first
        | (refine wpList_load_rowG (by kernel_rfl) 36 (.tmp 4) rfl (w.heap.size + 2) (by kernel_rfl) _ _ _ _ RW.out Try.underlying36 rfl IQ.out ?_)
        | (refine wpList_store_row rfl 36 (.tmp 2) (.tmp 33) rfl (w.heap.size + 1) C1 rfl rfl _ _ ZW.out IQ.out SQ.out OQ.out ?_))
      refine bodyPost_ret (v := .tuple #[.agg C1, .bool true]) (adC.results_cell_tmp Try.results32 _ _ (w.heap.size + 1) _ _ _ _ _ (by rfl) (setRow_heap _ _ _ _ _ _ ZW.out) Try.underlying36 rfl IQ.out (by rfl)) rfl ?_
      refine ⟨?_, setR_belowI BW.out (by omega) _⟩
      first | rfl | (rw [← HC1.out]; first | rfl | (rw [eK]; done) | simp only [h3] | simp only [h5] | simp only [h4] | simp only [h1] | simp only [h2])
  by_cases h3 : m.ki = 3
  · have e1 : (m.ki == 1) = false := beq_eq_false_iff_ne.2 h1
    have e2 : (m.ki == 2) = false := beq_eq_false_iff_ne.2 h2
    have e3 : (m.ki == 3) = true := beq_iff_eq.2 h3
    rw [if_pos (by omega), decide_eq_true (by omega)]
    have eK : keptM m = ⟨m.ki, m.co, 0, 0, 0⟩ := by unfold keptM; rw [if_neg (by omega), if_pos (by omega)]
    rw [eK]
    have p1 := pkC.PkC.cell T0.out.par (msC m A n c).co
    have o1 := pkC.PkC.cell T0.out.out (msC ⟨m.ki, 0, 0, 0, 0⟩ A n c).co
    have f1 := frozen_of_row W (w.heap.size + 2) 1 _ _ T0.out.out
    have T1 := Lib.hid (show Kc w _ m ⟨m.ki, m.co, 0, 0, 0⟩ A n c from T0.out.set_ 1 _ (msV_co m.co))
    clear T0 HWS
    go_upto_region 12 with fail
    have RW := Lib.hid T1.out.out
    have ZW := Lib.hid T1.out.res
    have BW := Lib.hid T1.out.bel
    have IQ := Lib.hid (msC ⟨m.ki, m.co, 0, 0, 0⟩ A n c).cinfo
    have SQ := Lib.hid (ms_size zMs ⟨m.ki, m.co, 0, 0, 0⟩ none A 0 0 n c)
    have OQ := Lib.hid (ms_one ⟨m.ki, m.co, 0, 0, 0⟩ A n c)
    clear T1
    generalize hC1 : msV ⟨m.ki, m.co, 0, 0, 0⟩ A n c = C1 at *
    have HC1 := Lib.hid hC1
    clear hC1
    generalize W.setCell ⟨w.heap.size + 2, 1, none⟩ (.int .u8 m.co) = W1 at *
    go_wp2_with (first
      | (refine wpList_load_rowG (by kernel_rfl) 36 (.tmp 4) rfl (w.heap.size + 2) (by kernel_rfl) _ _ _ _ RW.out Try.underlying36 rfl IQ.out ?_)
      | (refine wpList_store_row rfl 36 (.tmp 2) (.tmp 33) rfl (w.heap.size + 1) C1 rfl rfl _ _ ZW.out IQ.out SQ.out OQ.out ?_))
    refine bodyPost_ret (v := .tuple #[.agg C1, .bool true]) (adC.results_cell_tmp Try.results32 _ _ (w.heap.size + 1) _ _ _ _ _ (by rfl) (setRow_heap _ _ _ _ _ _ ZW.out) Try.underlying36 rfl IQ.out (by rfl)) rfl ?_
    refine ⟨?_, setR_belowI BW.out (by omega) _⟩
    first | rfl | (rw [← HC1.out]; first | rfl | (rw [eK]; done) | simp only [h3] | simp only [h5] | simp only [h4] | simp only [h1] | simp only [h2])
  by_cases h5 : m.ki = 5
  · have e1 : (m.ki == 1) = false := beq_eq_false_iff_ne.2 h1
    have e2 : (m.ki == 2) = false := beq_eq_false_iff_ne.2 h2
    have e3 : (m.ki == 3) = false := beq_eq_false_iff_ne.2 h3
    have e5 : (m.ki == 5) = true := beq_iff_eq.2 h5
    rw [if_pos (by omega), decide_eq_true (by omega)]
    have eK : keptM m = ⟨m.ki, m.co, 0, 0, 0⟩ := by unfold keptM; rw [if_neg (by omega), if_pos (by omega)]
    rw [eK]
    have p1 := pkC.PkC.cell T0.out.par (msC m A n c).co
    have o1 := pkC.PkC.cell T0.out.out (msC ⟨m.ki, 0, 0, 0, 0⟩ A n c).co
    have f1 := frozen_of_row W (w.heap.size + 2) 1 _ _ T0.out.out
    have T1 := Lib.hid (show Kc w _ m ⟨m.ki, m.co, 0, 0, 0⟩ A n c from T0.out.set_ 1 _ (msV_co m.co))
    clear T0 HWS
    go_upto_region 12 with fail
    have RW := Lib.hid T1.out.out
    have ZW := Lib.hid T1.out.res
    have BW := Lib.hid T1.out.bel
    have IQ := Lib.hid (msC ⟨m.ki, m.co, 0, 0, 0⟩ A n c).cinfo
    have SQ := Lib.hid (ms_size zMs ⟨m.ki, m.co, 0, 0, 0⟩ none A 0 0 n c)
    have OQ := Lib.hid (ms_one ⟨m.ki, m.co, 0, 0, 0⟩ A n c)
    clear T1
    generalize hC1 : msV ⟨m.ki, m.co, 0, 0, 0⟩ A n c = C1 at *
    have HC1 := Lib.hid hC1
    clear hC1
    generalize W.setCell ⟨w.heap.size + 2, 1, none⟩ (.int .u8 m.co) = W1 at *
    go_wp2_with (first
      | (refine wpList_load_rowG (by kernel_rfl) 36 (.tmp 4) rfl (w.heap.size + 2) (by kernel_rfl) _ _ _ _ RW.out Try.underlying36 rfl IQ.out ?_)
      | (refine wpList_store_row rfl 36 (.tmp 2) (.tmp 33) rfl (w.heap.size + 1) C1 rfl rfl _ _ ZW.out IQ.out SQ.out OQ.out ?_))
    refine bodyPost_ret (v := .tuple #[.agg C1, .bool true]) (adC.results_cell_tmp Try.results32 _ _ (w.heap.size + 1) _ _ _ _ _ (by rfl) (setRow_heap _ _ _ _ _ _ ZW.out) Try.underlying36 rfl IQ.out (by rfl)) rfl ?_
    refine ⟨?_, setR_belowI BW.out (by omega) _⟩
    first | rfl | (rw [← HC1.out]; first | rfl | (rw [eK]; done) | simp only [h3] | simp only [h5] | simp only [h4] | simp only [h1] | simp only [h2])
  by_cases h4 : m.ki = 4
  · have e1 : (m.ki == 1) = false := beq_eq_false_iff_ne.2 h1
    have e2 : (m.ki == 2) = false := beq_eq_false_iff_ne.2 h2
    have e3 : (m.ki == 3) = false := beq_eq_false_iff_ne.2 h3
    have e5 : (m.ki == 5) = false := beq_eq_false_iff_ne.2 h5
    have e4 : (m.ki == 4) = true := beq_iff_eq.2 h4
    rw [if_pos (by omega), decide_eq_true (by omega)]
    have eK : keptM m = ⟨m.ki, 0, 0, 0, m.mt⟩ := by unfold keptM; rw [if_neg (by omega), if_neg (by omega), if_pos (by omega)]
    rw [eK]
    have p1 := pkC.PkC.cell T0.out.par (msC m A n c).mt
    have o1 := pkC.PkC.cell T0.out.out (msC ⟨m.ki, 0, 0, 0, 0⟩ A n c).mt
    have f1 := frozen_of_row W (w.heap.size + 2) 4 _ _ T0.out.out
    have T1 := Lib.hid (show Kc w _ m ⟨m.ki, 0, 0, 0, m.mt⟩ A n c from T0.out.set_ 4 _ (msV_mt m.mt))
    clear T0 HWS
    go_upto_region 12 with fail
    have RW := Lib.hid T1.out.out
    have ZW := Lib.hid T1.out.res
    have BW := Lib.hid T1.out.bel
    have IQ := Lib.hid (msC ⟨m.ki, 0, 0, 0, m.mt⟩ A n c).cinfo
    have SQ := Lib.hid (ms_size zMs ⟨m.ki, 0, 0, 0, m.mt⟩ none A 0 0 n c)
    have OQ := Lib.hid (ms_one ⟨m.ki, 0, 0, 0, m.mt⟩ A n c)
    clear T1
    generalize hC1 : msV ⟨m.ki, 0, 0, 0, m.mt⟩ A n c = C1 at *
    have HC1 := Lib.hid hC1
    clear hC1
    generalize W.setCell ⟨w.heap.size + 2, 4, none⟩ (.int .u32 m.mt) = W1 at *
    go_wp2_with (first
      | (refine wpList_load_rowG (by kernel_rfl) 36 (.tmp 4) rfl (w.heap.size + 2) (by kernel_rfl) _ _ _ _ RW.out Try.underlying36 rfl IQ.out ?_)
      | (refine wpList_store_row rfl 36 (.tmp 2) (.tmp 33) rfl (w.heap.size + 1) C1 rfl rfl _ _ ZW.out IQ.out SQ.out OQ.out ?_))
    refine bodyPost_ret (v := .tuple #[.agg C1, .bool true]) (adC.results_cell_tmp Try.results32 _ _ (w.heap.size + 1) _ _ _ _ _ (by rfl) (setRow_heap _ _ _ _ _ _ ZW.out) Try.underlying36 rfl IQ.out (by rfl)) rfl ?_
    refine ⟨?_, setR_belowI BW.out (by omega) _⟩
    first | rfl | (rw [← HC1.out]; first | rfl | (rw [eK]; done) | simp only [h3] | simp only [h5] | simp only [h4] | simp only [h1] | simp only [h2])
  have e1 : (m.ki == 1) = false := beq_eq_false_iff_ne.2 h1
  have e2 : (m.ki == 2) = false := beq_eq_false_iff_ne.2 h2
  have e3 : (m.ki == 3) = false := beq_eq_false_iff_ne.2 h3
  have e5 : (m.ki == 5) = false := beq_eq_false_iff_ne.2 h5
  have e4 : (m.ki == 4) = false := beq_eq_false_iff_ne.2 h4
  rw [if_neg (by omega), decide_eq_false (by omega), ← HCZ.out]
  have ZW := Lib.hid T0.out.res
  have BW := Lib.hid T0.out.bel
  have IQ := Lib.hid (msC zMs none 0 0).cinfo
  have OQ := Lib.hid (ms_one zMs none 0 0)
  have BZ := Lib.hid zCs_built
  clear T0 HWS
  generalize hC1 : msV zMs none 0 0 = C1 at *
  clear hC1
  go_wp2_with (first
    | (refine adC.wpList_zero rfl 36 rfl C1 BZ.out ?_)
    | (refine wpList_store_row rfl 36 (.tmp 2) (.tmp 12) rfl (w.heap.size + 1) C1 rfl rfl _ _ ZW.out IQ.out rfl OQ.out ?_))
  refine bodyPost_ret (v := .tuple #[.agg C1, .bool false]) (adC.results_cell_tmp Try.results32 _ _ (w.heap.size + 1) _ _ _ _ _ (by rfl) (setRow_heap _ _ _ _ _ _ ZW.out) Try.underlying36 rfl IQ.out (by rfl)) rfl ?_
  exact ⟨by rw [HCZ.out], setR_belowI BW.out (by omega) _⟩
end Go.Proofs.Ytmbfgolcinniiaa.icC

/-
  Whether two packets are the same: the program's.
-/
namespace Go.Proofs.Ytmbfgolcinniiaa.pkC
open Go.ChangeShapes Go.WideShapes Go.ChangeAt Go.RowKit
open Go.Proofs.Ytmbfgolcinniiaa.memC Go.Proofs.Ytmbfgolcinniiaa.genC Go.Proofs.Ytmbfgolcinniiaa.butC Go.Proofs.Ytmbfgolcinniiaa.freeC Go.Proofs.Ytmbfgolcinniiaa.adC
set_option linter.unusedVariables false
theorem bytes_equal (A : Option Addr) (n c : Nat) (A2 : Option Addr) (m c2 : Nat) (xs ys : List Int) (w : World) (h1 : Nums .u8 w w.heap.size A n xs) (h2 : Nums .u8 w w.heap.size A2 m ys) :
    Calls Try.prog 46 #[.slice A n c, .slice A2 m c2] w fun e w' => e = .returned (.bool ((strOfNums xs).toList == (strOfNums ys).toList)) ∧ w = w' := by
  have c1 : (convert 24 9 (.slice A n c)).run Try.prog w = .ok (.string (strOfNums xs)) w := run_string h1 c 24 5 9 Try.underlying24 Try.underlying5 Try.underlying9
  have c2' : (convert 24 9 (.slice A2 m c2)).run Try.prog w = .ok (.string (strOfNums ys)) w := run_string h2 c2 24 5 9 Try.underlying24 Try.underlying5 Try.underlying9
  go_enter Try.func46, Try.ntmps46
  go_wp2_with fail
  go_ret
  exact ⟨rfl, rfl⟩
theorem bytes_same (A : Option Addr) (n c : Nat) (A2 : Option Addr) (m c2 : Nat) (xs ys : List Int) (w : World) (h1 : Nums .u8 w w.heap.size A n xs) (h2 : Nums .u8 w w.heap.size A2 m ys) (yx : ∀ x ∈ xs, Byte x) (yy : ∀ x ∈ ys, Byte x) :
    Calls Try.prog 34 #[.slice A n c, .slice A2 m c2] w fun e w' => e = .returned (.bool (decide (xs = ys))) ∧ w = w' := by
  have HS : ((strOfNums xs).toList == (strOfNums ys).toList) = decide (xs = ys) := by
    rw [str_eqb yx yy]
    by_cases h : xs = ys
    · subst h; rw [lexL_self]; simp
    · rw [decide_eq_false h]; exact beq_eq_false_iff_ne.2 fun e => h (lexL_zero _ _ e)
  go_enter Try.func34, Try.ntmps34
  go_wp2_with (go_at_call 46; refine (bytes_equal _ _ _ _ _ _ xs ys _ h1 h2).mono ?_; rintro e w' ⟨rfl, rfl⟩)
  go_ret
  exact ⟨rfl, rfl⟩
end Go.Proofs.Ytmbfgolcinniiaa.pkC

/-
  Whether two messages are the same, whether one may be: the program's.
-/
namespace Go.Proofs.Ytmbfgolcinniiaa.icC
open Go.ChangeShapes Go.WideShapes Go.ChangeAt Go.RowKit
open Go.Proofs.Ytmbfgolcinniiaa.memC Go.Proofs.Ytmbfgolcinniiaa.genC Go.Proofs.Ytmbfgolcinniiaa.butC Go.Proofs.Ytmbfgolcinniiaa.freeC Go.Proofs.Ytmbfgolcinniiaa.adC
set_option linter.unusedVariables false
set_option maxRecDepth 100000 in
set_option maxHeartbeats 8000000 in
theorem csame_any (p q : Ms) (A A' : Option Addr) (n c n' c' : Nat) (xs ys : List Int) (w : World)
    (hx : Nums .u8 w w.heap.size A n xs) (hy : Nums .u8 w w.heap.size A' n' ys) (yx : ∀ x ∈ xs, Byte x) (yy : ∀ x ∈ ys, Byte x) :
    Calls Try.prog 15 #[.agg (msV p A n c), .agg (msV q A' n' c')] w (Ret w (.bool (sameM p xs q ys))) := by
  have e1 : (w.alloc (.cells (msV p A n c) 36)).heap.size = w.heap.size + 1 := alloc_size _ _
  obtain ⟨W, hW⟩ : ∃ W, W = (w.alloc (.cells (msV p A n c) 36)).alloc (.cells (msV q A' n' c') 36) := ⟨_, rfl⟩
  have R0 : W.heap[w.heap.size]? = some (.cells (msV p A n c) 36 (0, 0)) := by rw [hW, Below.block (alloc_below _ _) _ (by rw [e1]; omega)]; exact heap_alloc_new w _
  have R1 : W.heap[w.heap.size + 1]? = some (.cells (msV q A' n' c') 36 (0, 0)) := by rw [hW, ← e1]; exact heap_alloc_new _ _
  have HB := Lib.hid (show Below w.heap.size w W by rw [hW]; exact ((Below.refl _ _).alloc (Nat.le_refl _) _).alloc (by simp) _)
  have c0 := msC p A n c
  have c1 := msC q A' n' c'
  have k5 := pkC.PkC.cell R0 c0.da
  have j5 := pkC.PkC.cell R1 c1.da
  have SS := Lib.hid (pkC.bytes_same A n c A' n' c' xs ys W ((hx.below HB.out).more HB.out.size) ((hy.below HB.out).more HB.out.size) yx yy)
  have k0 := pkC.PkC.cell R0 c0.ki
  have j0 := pkC.PkC.cell R1 c1.ki
  have k1 := pkC.PkC.cell R0 c0.co
  have j1 := pkC.PkC.cell R1 c1.co
  have k2 := pkC.PkC.cell R0 c0.id
  have j2 := pkC.PkC.cell R1 c1.id
  have k3 := pkC.PkC.cell R0 c0.sq
  have j3 := pkC.PkC.cell R1 c1.sq
  have k4 := pkC.PkC.cell R0 c0.mt
  have j4 := pkC.PkC.cell R1 c1.mt
  obtain ⟨V, hV⟩ : ∃ V, V = sameM p xs q ys := ⟨_, rfl⟩
  rw [← hV]
  unfold sameM at hV
  generalize decide (xs = ys) = e5 at *
  generalize msV p A n c = CP at *
  generalize msV q A' n' c' = CQ at *
  generalize p.ki = ki1 at *
  generalize q.ki = ki2 at *
  generalize p.co = co1 at *
  generalize q.co = co2 at *
  generalize p.id = id1 at *
  generalize q.id = id2 at *
  generalize p.sq = sq1 at *
  generalize q.sq = sq2 at *
  generalize p.mt = mt1 at *
  generalize q.mt = mt2 at *
  have HV := Lib.hid hV
  clear hx hy yx yy c0 c1 R0 R1 e1 hV
  go_enter Try.func15, Try.ntmps15
  try simp only [List.append_eq, List.cons_append, List.nil_append]
  go_upto_region 1 with fail
  rw [← hW]
  clear hW
  by_cases h0 : ki1 = ki2
  · subst h0
    by_cases h1 : co1 = co2
    · subst h1
      by_cases h2 : id1 = id2
      · subst h2
        by_cases h3 : sq1 = sq2
        · subst h3
          by_cases h4 : mt1 = mt2
          · subst h4
            cases e5
            · have hv := Lib.hid (show V = false by rw [HV.out]; simp)
              go_wp2_with (first
                | go_skip
                | (go_at_call 34; refine SS.out.mono ?_; rintro e w2 ⟨rfl, hw⟩; obtain rfl := hw.symm))
              go_ret
              exact ⟨ret_bool hv.out.symm, HB.out⟩
            · have hv := Lib.hid (show V = true by rw [HV.out]; simp)
              go_wp2_with (first
                | go_skip
                | (go_at_call 34; refine SS.out.mono ?_; rintro e w2 ⟨rfl, hw⟩; obtain rfl := hw.symm))
              go_ret
              exact ⟨ret_bool hv.out.symm, HB.out⟩
          · have hq4 : (mt1 == mt2) = false := beq_eq_false_iff_ne.2 h4
            have hv := Lib.hid (show V = false by rw [HV.out]; simp [h4])
            go_wp2_with (first
              | go_skip
              | (go_at_call 34; refine SS.out.mono ?_; rintro e w2 ⟨rfl, hw⟩; obtain rfl := hw.symm))
            go_ret
            exact ⟨ret_bool hv.out.symm, HB.out⟩
        · have hq3 : (sq1 == sq2) = false := beq_eq_false_iff_ne.2 h3
          have hv := Lib.hid (show V = false by rw [HV.out]; simp [h3])
          go_wp2_with (first
            | go_skip
            | (go_at_call 34; refine SS.out.mono ?_; rintro e w2 ⟨rfl, hw⟩; obtain rfl := hw.symm))
          go_ret
          exact ⟨ret_bool hv.out.symm, HB.out⟩
      · have hq2 : (id1 == id2) = false := beq_eq_false_iff_ne.2 h2
        have hv := Lib.hid (show V = false by rw [HV.out]; simp [h2])
        go_wp2_with (first
          | go_skip
          | (go_at_call 34; refine SS.out.mono ?_; rintro e w2 ⟨rfl, hw⟩; obtain rfl := hw.symm))
        go_ret
        exact ⟨ret_bool hv.out.symm, HB.out⟩
    · have hq1 : (co1 == co2) = false := beq_eq_false_iff_ne.2 h1
      have hv := Lib.hid (show V = false by rw [HV.out]; simp [h1])
      go_wp2_with (first
        | go_skip
        | (go_at_call 34; refine SS.out.mono ?_; rintro e w2 ⟨rfl, hw⟩; obtain rfl := hw.symm))
      go_ret
      exact ⟨ret_bool hv.out.symm, HB.out⟩
  · have hq0 : (ki1 == ki2) = false := beq_eq_false_iff_ne.2 h0
    have hv := Lib.hid (show V = false by rw [HV.out]; simp [h0])
    go_wp2_with (first
      | go_skip
      | (go_at_call 34; refine SS.out.mono ?_; rintro e w2 ⟨rfl, hw⟩; obtain rfl := hw.symm))
    go_ret
    exact ⟨ret_bool hv.out.symm, HB.out⟩
theorem same_keptQ (m : Ms) (xs : List Int) : sameM m xs (keptM m) xs = decide (keptM m = m) := by
  by_cases h : keptM m = m
  · rw [decide_eq_true h, h]; exact sameM_self _ _
  · rw [decide_eq_false h]
    cases h2 : sameM m xs (keptM m) xs
    · rfl
    · exact absurd (sameM_iff.1 h2).1.symm h
set_option maxRecDepth 100000 in
set_option maxHeartbeats 4000000 in
theorem cmay_any (m : Ms) (A : Option Addr) (n c : Nat) (six : Bool) (xs : List Int) (w : World) (hx : Nums .u8 w w.heap.size A n xs) (yx : ∀ x ∈ xs, Byte x) :
    Calls Try.prog 13 #[.agg (msV m A n c), .bool six] w (Ret w (.bool (mayM m n six))) := by
  have hzv := zeroCs
  obtain ⟨W, hW⟩ : ∃ W, W = w.alloc (.cells (msV m A n c) 36) := ⟨_, rfl⟩
  have R := Lib.hid (show W.heap[w.heap.size]? = some (.cells (msV m A n c) 36 (0, 0)) by rw [hW]; exact heap_alloc_new _ _)
  have HB := Lib.hid (show Below w.heap.size w W by rw [hW]; exact alloc_below _ _)
  have HS1 := Lib.hid (show w.heap.size < W.heap.size by rw [hW, alloc_size]; omega)
  have OC := Lib.hid (msC m A n c)
  have IP := Lib.hid OC.out.cinfo
  have MC := Lib.hid (count_any m A n c W)
  obtain ⟨V, hV⟩ : ∃ V, V = mayM m n six := ⟨_, rfl⟩
  rw [← hV]
  by_cases hk : 1 ≤ m.ki ∧ m.ki ≤ 5
  rotate_left
  · have hv := Lib.hid (show V = false by
      rw [hV]; unfold mayM
      rcases Decidable.not_and_iff_not_or_not.1 hk with h | h <;> simp [h])
    rw [if_neg hk, decide_eq_false hk] at MC
    have IZ := Lib.hid (msC zMs none 0 0).cinfo
    have OZ := Lib.hid (ms_one zMs none 0 0)
    generalize msV m A n c = CP at *
    generalize msV zMs none 0 0 = CZ at *
    clear hV hk OC hx yx
    go_enter Try.func13, Try.ntmps13
    go_upto_region 1 with fail
    rw [← hW]
    clear hW
    go_wp2_with (first
      | go_skip
      | (refine wpList_load_row rfl 36 (.tmp 2) rfl (w.heap.size) rfl _ _ _ _ R.out Try.underlying36 rfl IP.out ?_)
      | (go_at_call 32; refine MC.out.mono ?_; rintro e w2 ⟨rfl, hb2⟩; have HB2 := Lib.hid hb2; clear hb2)
      | (refine wpList_store_row rfl 36 (.tmp 5) (.tmp 10) rfl (w2.heap.size) _ rfl rfl _ _ (heap_alloc_new _ _) IZ.out rfl OZ.out ?_; rw [World.setRow_alloc_new]))
    go_ret
    exact ⟨ret_bool hv.out.symm, (HB.out.trans (HB2.out.mono HB.out.size)).trans ((alloc_below _ _).mono (Nat.le_trans HB.out.size HB2.out.size))⟩
  rw [if_pos hk, decide_eq_true hk] at MC
  have NX := Lib.hid (fun (w' : World) (h : Below w.heap.size w w') => (hx.below h).more h.size)
  have SM := Lib.hid (fun w' (h : Below w.heap.size w w') => (show Calls Try.prog 15 #[.agg (msV m A n c), .agg (msV (keptM m) A n c)] w' (Ret w' (.bool (decide (keptM m = m)))) by
    have h9 := csame_any m (keptM m) A A n c n c xs xs w' (NX.out w' h) (NX.out w' h) yx yx
    rw [same_keptQ] at h9
    exact h9))
  have HV := Lib.hid (show V = (decide (keptM m = m) && (decide (n ≤ 1400) && (six || decide (m.mt ≤ 65535)))) by
    rw [hV]; unfold mayM; rw [decide_eq_true hk.1, decide_eq_true hk.2]; rfl)
  have q3 : decide ((n : Int) ≤ 1400) = decide (n ≤ 1400) := decide_eq_decide.2 ⟨fun h => by omega, fun h => by omega⟩
  obtain ⟨q4', q4⟩ : ∃ q, decide (m.mt ≤ 65535) = q := ⟨_, rfl⟩
  rw [q4] at HV
  generalize decide (n ≤ 1400) = q3' at *
  generalize decide (keptM m = m) = b0 at *
  have IK := Lib.hid (msC (keptM m) A n c).cinfo
  have OK := Lib.hid (ms_one (keptM m) A n c)
  have SK := Lib.hid (ms_size zMs (keptM m) none A 0 0 n c)
  generalize msV (keptM m) A n c = CK at *
  have CMT := OC.out.mt
  have CDA := OC.out.da
  have HMT := Lib.hid CMT
  have HDA := Lib.hid CDA
  generalize msV m A n c = CP at *
  generalize msV zMs none 0 0 = CZ at *
  generalize m.mt = mt at *
  have h5 : (b0 = false) ∨ (b0 = true ∧ q3' = false) ∨ (b0 = true ∧ q3' = true ∧ six = true) ∨ (b0 = true ∧ q3' = true ∧ six = false ∧ q4' = false) ∨ (b0 = true ∧ q3' = true ∧ six = false ∧ q4' = true) := by
    cases b0 <;> cases q3' <;> cases six <;> cases q4' <;> simp
  have Q3 := Lib.hid q3
  have Q4 := Lib.hid q4
  clear hV hk OC hx yx CMT CDA q3 q4
  rcases h5 with rfl | ⟨rfl, rfl⟩ | ⟨rfl, rfl, rfl⟩ | ⟨rfl, rfl, rfl, rfl⟩ | ⟨rfl, rfl, rfl, rfl⟩
  all_goals
    go_enter Try.func13, Try.ntmps13
    go_upto_region 1 with fail
    rw [← hW]
    clear hW
    go_upto_region 2 with (first
      | (refine wpList_load_row rfl 36 (.tmp 2) rfl (w.heap.size) rfl _ _ _ _ R.out Try.underlying36 rfl IP.out ?_)
      | (go_at_call 32; refine MC.out.mono ?_; rintro e w2 ⟨rfl, hb2⟩; have HB2 := Lib.hid hb2; clear hb2)
      | (refine wpList_store_row rfl 36 (.tmp 5) (.tmp 10) rfl (w2.heap.size) _ rfl rfl _ _ (heap_alloc_new _ _) IK.out SK.out OK.out ?_; rw [World.setRow_alloc_new]))
    have HB3 := Lib.hid (show Below w2.heap.size w2 (w2.alloc (.cells CK 36)) from alloc_below _ _)
    have R1 := Lib.hid (show (w2.alloc (.cells CK 36)).heap[w2.heap.size]? = some (.cells CK 36 (0, 0)) from heap_alloc_new _ _)
    generalize w2.alloc (.cells CK 36) = w3 at *
    have R0 := Lib.hid (show w3.heap[w.heap.size]? = some (.cells CP 36 (0, 0)) by rw [HB3.out.block _ (Nat.lt_of_lt_of_le HS1.out HB2.out.size), HB2.out.block _ HS1.out]; exact R.out)
    have HB4 := Lib.hid (show Below w.heap.size w w3 from (HB.out.trans (HB2.out.mono HB.out.size)).trans (HB3.out.mono (Nat.le_trans HB.out.size HB2.out.size)))
    have SM3 := Lib.hid (SM.out w3 HB4.out)
    have KM := Lib.hid (fun (w' : World) (h : Below w3.heap.size w3 w') => pkC.PkC.cell (show w'.heap[w.heap.size]? = some (.cells CP 36 (0, 0)) by rw [h.block _ (lt_of_rowI R0.out)]; exact R0.out) HMT.out)
    have KD := Lib.hid (fun (w' : World) (h : Below w3.heap.size w3 w') => pkC.PkC.cell (show w'.heap[w.heap.size]? = some (.cells CP 36 (0, 0)) by rw [h.block _ (lt_of_rowI R0.out)]; exact R0.out) HDA.out)
    have q3 := Q3.out
    have q4 := Q4.out
    clear SM MC R HB HB2 HB3
    go_wp2_with (first
      | go_skip
      | (with_reducible refine atC.at_load 36 2 ?_; refine wpList_load_rowG (by kernel_rfl) 36 (.tmp 2) rfl (w.heap.size) (by kernel_rfl) _ _ _ _ R0.out Try.underlying36 rfl IP.out ?_)
      | (with_reducible refine atC.at_load 36 5 ?_; refine wpList_load_rowG (by kernel_rfl) 36 (.tmp 5) rfl (w2.heap.size) (by kernel_rfl) _ _ _ _ R1.out Try.underlying36 rfl IK.out ?_)
      | (go_at_call 15; refine SM3.out.mono ?_; rintro e w4 ⟨rfl, hb4⟩; have HB5 := Lib.hid hb4; have km := KM.out w4 hb4; have kd := KD.out w4 hb4; clear hb4))
    go_ret
    exact ⟨ret_bool (by rw [HV.out]; rfl), HB4.out.trans (HB5.out.mono HB4.out.size)⟩
end Go.Proofs.Ytmbfgolcinniiaa.icC

/-
  Types, codes, what is taken for a TooBig, the pseudo header: the program's.
-/
namespace Go.Proofs.Ytmbfgolcinniiaa.icC
open Go.ChangeShapes Go.WideShapes Go.ChangeAt Go.RowKit
open Go.Proofs.Ytmbfgolcinniiaa.idxC (run_idx)
open Go.Proofs.Ytmbfgolcinniiaa.memC Go.Proofs.Ytmbfgolcinniiaa.genC Go.Proofs.Ytmbfgolcinniiaa.butC Go.Proofs.Ytmbfgolcinniiaa.freeC Go.Proofs.Ytmbfgolcinniiaa.adC
set_option linter.unusedVariables false
/-- a literal with fields -/
theorem built_runQ {P : Program} {fr : Act} {o : Oper} {w : World} {T : TypeId} {fs : Array (Nat × Operand)} {L : List (Nat × Value)} {C : Array Value} (ho : o.op = .build T fs) (hL : fs.toList.map (fun p => (p.1, fr.eval p.2)) = L) (hb : P.built T L = some C) :
    (execOp fr.eval o).run P w = .ok (.value (.agg C)) w := by
  unfold execOp
  have e1 : (fs.map fun p => (p.1, fr.eval p.2)) = L.toArray := by rw [← hL]; apply Array.ext'; simp
  have h : (Instr.build T L.toArray).run P w = .ok (.agg C) w := run_build w T L.toArray C (by simpa using hb)
  simp [ho, e1, h, Result.andThen_ok]
def tyL (six : Bool) : Array Value := if six then #[.int .u8 0, .int .u8 128, .int .u8 129, .int .u8 1, .int .u8 2, .int .u8 3] else #[.int .u8 0, .int .u8 8, .int .u8 0, .int .u8 3, .int .u8 3, .int .u8 11]
theorem tyL_at (k : Nat) (six : Bool) (hk : k < 6) : (tyL six)[k]? = some (.int .u8 (tyM k six)) := by
  have h6 : k = 0 ∨ k = 1 ∨ k = 2 ∨ k = 3 ∨ k = 4 ∨ k = 5 := by omega
  rcases h6 with rfl | rfl | rfl | rfl | rfl | rfl <;> cases six <;> rfl
theorem ty_six : Try.prog.built 78 [(1, .int .u8 128), (2, .int .u8 129), (3, .int .u8 1), (4, .int .u8 2), (5, .int .u8 3)] = some (tyL true) := by kernel_rfl
theorem ty_four : Try.prog.built 78 [(1, .int .u8 8), (2, .int .u8 0), (3, .int .u8 3), (4, .int .u8 3), (5, .int .u8 11)] = some (tyL false) := by kernel_rfl
theorem ctype_any (k : Nat) (six : Bool) (w : World) (hk : k < 6) : Calls Try.prog 26 #[.int .i64 (k : Int), .bool six] w fun e w' => e = .returned (.int .u8 (tyM k six)) ∧ w' = w := by
  obtain ⟨i0, hi0, hz0, hz1, hz2⟩ := info_parts chkC.byte_info
  have hix := run_idx w 78 5 6 .u8 i0 (tyL six) k _ Try.underlying78 Try.underlying5 hi0 hz1 hk (tyL_at k six hk)
  generalize tyM k six = ty at *
  clear hi0 hz0 hz1 hz2 hk
  cases six
  · have BT := Lib.hid ty_four
    generalize tyL false = TL at *
    generalize (k : Int) = kz at *
    go_enter Try.func26, Try.ntmps26
    go_wp2_with (first
      | (with_reducible refine at_buildI 78 ?_; refine wpList_runG (by kernel_rfl) _ (built_runQ (T := 78) (L := [(1, .int .u8 8), (2, .int .u8 0), (3, .int .u8 3), (4, .int .u8 3), (5, .int .u8 11)]) rfl rfl BT.out) ?_))
    go_ret
    exact ⟨rfl, rfl⟩
  · have BT := Lib.hid ty_six
    generalize tyL true = TL at *
    generalize (k : Int) = kz at *
    go_enter Try.func26, Try.ntmps26
    go_wp2_with (first
      | (with_reducible refine at_buildI 78 ?_; refine wpList_runG (by kernel_rfl) _ (built_runQ (T := 78) (L := [(1, .int .u8 128), (2, .int .u8 129), (3, .int .u8 1), (4, .int .u8 2), (5, .int .u8 3)]) rfl rfl BT.out) ?_))
    go_ret
    exact ⟨rfl, rfl⟩
/-- whether a type and a code stand for a TooBig -/
def tkM (k co : Int) (six : Bool) : Bool := decide (k = 3) && (decide (co = 4) && !six)
theorem ctaken_any (k co : Int) (six : Bool) (w : World) : Calls Try.prog 24 #[.int .i64 k, .int .u8 co, .bool six] w fun e w' => e = .returned (.bool (tkM k co six)) ∧ w' = w := by
  obtain ⟨V, hV⟩ : ∃ V, V = tkM k co six := ⟨_, rfl⟩
  rw [← hV]
  unfold tkM at hV
  have HV := Lib.hid hV
  clear hV
  by_cases h1 : k = 3
  · subst h1
    by_cases h2 : co = 4
    · subst h2
      have hv := Lib.hid (show V = !six by rw [HV.out]; simp)
      go_enter Try.func24, Try.ntmps24
      go_wp2_with (first | go_skip)
      go_ret
      exact ⟨ret_bool hv.out.symm, rfl⟩
    · have q2 : (co == 4) = false := beq_eq_false_iff_ne.2 h2
      have hv := Lib.hid (show V = false by rw [HV.out]; simp [h2])
      go_enter Try.func24, Try.ntmps24
      go_wp2_with (first | go_skip)
      go_ret
      exact ⟨ret_bool hv.out.symm, rfl⟩
  · have q1 : (k == 3) = false := beq_eq_false_iff_ne.2 h1
    have hv := Lib.hid (show V = false by rw [HV.out]; simp [h1])
    go_enter Try.func24, Try.ntmps24
    go_wp2_with (first | go_skip)
    go_ret
    exact ⟨ret_bool hv.out.symm, rfl⟩
theorem ccode_any (m : Ms) (A : Option Addr) (n c : Nat) (six : Bool) (w : World) : Calls Try.prog 27 #[.agg (msV m A n c), .bool six] w (Ret w (.int .u8 (coM m six))) := by
  obtain ⟨W, hW⟩ : ∃ W, W = w.alloc (.cells (msV m A n c) 36) := ⟨_, rfl⟩
  have R : W.heap[w.heap.size]? = some (.cells (msV m A n c) 36 (0, 0)) := by rw [hW]; exact heap_alloc_new _ _
  have HB := Lib.hid (show Below w.heap.size w W by rw [hW]; exact alloc_below _ _)
  have p0 := pkC.PkC.cell R (msC m A n c).ki
  have p1 := pkC.PkC.cell R (msC m A n c).co
  obtain ⟨V, hV⟩ : ∃ V, V = coM m six := ⟨_, rfl⟩
  rw [← hV]
  unfold coM at hV
  have HV := Lib.hid hV
  generalize msV m A n c = CP at *
  generalize m.ki = ki at *
  generalize m.co = co at *
  clear hV R
  by_cases h1 : ki = 4
  · subst h1
    cases six
    · have hv := Lib.hid (show V = 4 by rw [HV.out]; simp)
      go_enter Try.func27, Try.ntmps27
      go_upto_region 1 with fail
      rw [← hW]
      clear hW
      go_wp2_with (first | go_skip)
      go_ret
      exact ⟨ret_int hv.out.symm, HB.out⟩
    · have hv := Lib.hid (show V = co by rw [HV.out]; simp)
      go_enter Try.func27, Try.ntmps27
      go_upto_region 1 with fail
      rw [← hW]
      clear hW
      go_wp2_with (first | go_skip)
      go_ret
      exact ⟨ret_int hv.out.symm, HB.out⟩
  · have q1 : (ki == 4) = false := beq_eq_false_iff_ne.2 h1
    have hv := Lib.hid (show V = co by rw [HV.out]; simp [h1])
    go_enter Try.func27, Try.ntmps27
    go_upto_region 1 with fail
    rw [← hW]
    clear hW
    go_wp2_with (first | go_skip)
    go_ret
    exact ⟨ret_int hv.out.symm, HB.out⟩
/-- the pseudo header, where there is one -/
def psL (s1 s2 : Bool) (b1 b2 : List Int) (n : Int) : List Int := if s1 = true then pseC.pseL s1 s2 b1 b2 58 n else []
def PsR (w : World) (T : List Int) (e : Ending) (w' : World) : Prop := ∃ A N c, e = .returned (.slice A N c) ∧ chkC.PartAt w' w'.heap.size ⟨A, N, c, T⟩ ∧ Below w.heap.size w w'
theorem cpse_any (C1 C2 : Array Value) (s1 s2 : Bool) (b1 b2 : List Int) (n : Int) (w : World) (h1 : chkC.AddrC C1 s1 b1) (h2 : chkC.AddrC C2 s2 b2) (n0 : 0 ≤ n) (n1 : n ≤ 10000) :
    Calls Try.prog 29 #[.agg C1, .agg C2, .int .i64 n] w (PsR w (psL s1 s2 b1 b2 n)) := by
  have g1 := heap_alloc2_old w (.cells C1 29) (.cells C2 29)
  have g2 := heap_alloc2_new w (.cells C1 29) (.cells C2 29)
  have u1 := Lib.hid (show (Try.prog.info? 29).map (·.size) = some C1.size by rw [h1.size]; exact chkC.addr_info)
  have u2 := Lib.hid (show (Try.prog.info? 29).map (·.size) = some C2.size by rw [h2.size]; exact chkC.addr_info)
  obtain ⟨W, hW⟩ : ∃ W, W = (w.alloc (.cells C1 29)).alloc (.cells C2 29) := ⟨_, rfl⟩
  rw [← hW] at g1 g2
  have HB := Lib.hid (show Below w.heap.size w W by rw [hW]; exact ((Below.refl _ _).alloc (Nat.le_refl _) _).alloc (by simp) _)
  have G1 := Lib.hid g1
  have G2 := Lib.hid g2
  have p0 := pkC.PkC.cell g1 h1.six
  have PP := Lib.hid (fun (w' : World) => pseC.pse_any h1 h2 (p := 58) (by decide) (by decide) n0 n1 w')
  have PB := Lib.hid (fun x hx => pseC.pse_byte (p := 58) h1 h2 (by decide) (by decide) n0 n1 x hx)
  have PL := Lib.hid (pseC.pse_len (p := 58) (n := n) h1 h2)
  unfold psL
  clear h1 h2 g1 g2
  cases s1
  · rw [if_neg (by decide)]
    go_enter Try.func29, Try.ntmps29
    go_upto_region 1 with fail
    rw [← hW]
    clear hW
    go_wp2_with fail
    go_ret
    exact ⟨none, 0, 0, rfl, ⟨Nums.none_ 0, by decide, by simp⟩, HB.out⟩
  · rw [if_pos rfl]
    go_enter Try.func29, Try.ntmps29
    go_upto_region 1 with fail
    rw [← hW]
    clear hW
    go_wp2_with (first
      | (refine wpList_load_row rfl 29 (.tmp 3) rfl (w.heap.size) rfl _ _ _ _ G1.out Try.underlying29 rfl u1.out ?_)
      | (refine wpList_load_row rfl 29 (.tmp 4) rfl (w.heap.size + 1) rfl _ _ _ _ G2.out Try.underlying29 rfl u2.out ?_)
      | (go_at_call 42; refine (PP.out _).mono ?_; rintro e w2 ⟨A5, c5, rfl, _, _, O5, B5⟩
         have HO := Lib.hid O5
         have HB5 := Lib.hid B5
         clear O5 B5))
    go_ret
    exact ⟨A5, _, c5, rfl, ⟨by have := HO.out.nums; exact this, by have := pseC.pseN_le true s2; show pseC.pseN true s2 ≤ 10000; omega, PB.out⟩, HB.out.trans (HB5.out.mono HB.out.size)⟩
end Go.Proofs.Ytmbfgolcinniiaa.icC

/-
  A region of any order with a chain: an operation may be waited for by way of another.
-/
namespace Go.Proofs.Ytmbfgolcinniiaa.freeC
open Go.ChangeShapes Go.WideShapes Go.RowKit
section
variable {P : Program} {L : List Oper} {Q : Exit → Act → World → Prop}
/-- an operation waits for the i-th, or for one that does -/
def waits2 (L : List Oper) (o : Oper) (i : Nat) : Bool := waitsE o i || o.after.any fun e => Region.binds .any e && (match L[e.on]? with | some y => waitsE y i | none => false)
/-- what is asked of an operation: of one that is no part of the chain C, that it makes memory alone; of the chain's p-th, that it leads from R p to R (p + 1) -/
def StepF (P : Program) (L : List Oper) (Q : Exit → Act → World → Prop) (tab : List (Option Nat)) (a : Act) (B : Nat) (D : World → World → Prop) (C : List Nat) (G : World → Prop) (V : Nat → Value → World → Prop) (R : Nat → (Nat → Value) → World → Prop) (i : Nat) (o : Oper) : Prop :=
  ∀ (m : Nat → Bool) us w, B ≤ w.heap.size → G w → (∀ j, j ∉ C → m j = true → V j (us j) w) → doneB o m = true →
    (i ∉ C → (∃ k, k ≤ C.length ∧ (∀ b x, C[b]? = some x → waitsE o x = true → b < k) ∧ (∀ b x o', C[b]? = some x → L[x]? = some o' → waits2 L o' i = true → k ≤ b) ∧ R k us w) → if Region.wanted o (yielded L.toArray (frame tab a us).tmps) then o.wp P (frame tab a us) w (fun a' w' => ∃ v, a' = (frame tab a us).put o.dst v ∧ Below w.heap.size w w' ∧ V i v w') Q else V i undef w) ∧
    (∀ p, C[p]? = some i → R p us w → if Region.wanted o (yielded L.toArray (frame tab a us).tmps) then o.wp P (frame tab a us) w (fun a' w' => ∃ v, a' = (frame tab a us).put o.dst v ∧ (D w w' ∧ Below B w w') ∧ R (p + 1) (upd us i v) w') Q else R (p + 1) (upd us i undef) w)
theorem wp_region_chf {id : Nat} {a : Act} {w : World} (hm : P.follows .mixedOrders = true) (tab : List (Option Nat)) (hb : backE L = true) (ht : slots tab L = true) (hl : tab.length = a.tmps.size)
    (us0 : Nat → Value) (ha : frame tab a us0 = a) (B : Nat) (D : World → World → Prop) (C : List Nat) (hC : links L C = true) (hnd : C.Nodup) (hin : ∀ x ∈ C, x < L.length)
    (G : World → Prop) (V : Nat → Value → World → Prop) (R : Nat → (Nat → Value) → World → Prop) (hB : B ≤ w.heap.size) (hG : G w.drew) (h0 : R 0 us0 w.drew)
    (hkG : ∀ w w', B ≤ w.heap.size → (Below w.heap.size w w' ∨ D w w') → G w → G w') (hkV : ∀ i v w w', B ≤ w.heap.size → (Below w.heap.size w w' ∨ D w w') → V i v w → V i v w')
    (hkR : ∀ k us us' w w', (∀ x ∈ C, us' x = us x) → B ≤ w.heap.size → Below w.heap.size w w' → R k us w → R k us' w')
    (hstep : AllFrom (StepF P L Q tab a B D C G V R) 0 L)
    (hend : ∀ us w, B ≤ w.heap.size → G w → (∀ i, i < L.length → i ∉ C → V i (us i) w) → R C.length us w → Q .normal (frame tab a us) w) : (Code.region id L.toArray true).wp P Q a w := by
  refine wp_region_free hm tab hb ht hl us0 ha (fun m us w => B ≤ w.heap.size ∧ G w ∧ (∀ j, j ∉ C → m j = true → V j (us j) w) ∧ ∃ k, k ≤ C.length ∧ (∀ j x, C[j]? = some x → (m x = true ↔ j < k)) ∧ (∀ x o', L[x]? = some o' → m x = true → doneB o' m = true) ∧ R k us w)
    ⟨(by simpa using hB), hG, (fun j _ h => by cases h), 0, Nat.zero_le _, (fun j x _ => by simp), (fun x o' _ h => by cases h), h0⟩ ?_ ?_
  · intro i o ho m us w' ⟨hb', hg, hv, k, hk, hcm, hcl, hr⟩ hmi hd
    have hs := all_from L 0 hstep i o ho m us w' hb' hg hv hd
    rw [Nat.zero_add] at hs
    have hcl2 : ∀ x o', L[x]? = some o' → upd m i true x = true → doneB o' (upd m i true) = true := fun x o' hx hm' => by
      by_cases q : x = i
      · subst q
        obtain rfl := Option.some.inj (ho.symm.trans hx)
        exact doneB_more hd
      · rw [upd_other _ _ q] at hm'
        exact doneB_more (hcl x o' hx hm')
    by_cases hi : i ∈ C
    · obtain ⟨p, hp⟩ := List.getElem?_of_mem hi
      have hkp : k = p := by
        have h1 : ¬ p < k := fun h => by rw [(hcm p i hp).2 h] at hmi; cases hmi
        rcases Nat.eq_zero_or_pos p with h2 | h2
        · omega
        · obtain ⟨q, rfl⟩ : ∃ q, p = q + 1 := ⟨p - 1, by omega⟩
          have hq : q < C.length := by have := (List.getElem?_eq_some_iff.1 hp).1; omega
          have e := List.getElem?_eq_getElem hq
          have := (hcm q _ e).1 (links_at hC q _ i o e hp ho m hd)
          omega
      subst hkp
      have hs2 := hs.2 k hp hr
      have hset : ∀ v w'', (w'' = w' ∨ D w' w'') → Below B w' w'' → R (k + 1) (upd us i v) w'' → B ≤ w''.heap.size ∧ G w'' ∧ (∀ j, j ∉ C → upd m i true j = true → V j (upd us i v j) w'') ∧ ∃ k, k ≤ C.length ∧ (∀ j x, C[j]? = some x → (upd m i true x = true ↔ j < k)) ∧ (∀ x o', L[x]? = some o' → upd m i true x = true → doneB o' (upd m i true) = true) ∧ R k (upd us i v) w'' := fun v w'' hd2 hb2 hr2 => by
        refine ⟨Nat.le_trans hb' hb2.size, (by rcases hd2 with rfl | hd2
                                               · exact hg
                                               · exact hkG _ _ hb' (.inr hd2) hg), fun j hj hm' => ?_, k + 1, ?_, fun j x hx => ?_, hcl2, hr2⟩
        · have hji : j ≠ i := fun e => hj (e ▸ hi)
          rw [upd_other _ _ hji] at hm' ⊢
          rcases hd2 with rfl | hd2
          · exact hv j hj hm'
          · exact hkV _ _ _ _ hb' (.inr hd2) (hv j hj hm')
        · have := (List.getElem?_eq_some_iff.1 hp).1; omega
        · by_cases hx2 : x = i
          · subst hx2
            have hjk : j = k := nodup_at hnd hx hp
            rw [upd_same]; simp [hjk]
          · rw [upd_other _ _ hx2, hcm j x hx]
            have hjk : j ≠ k := fun e => by rw [e, hp] at hx; exact hx2 (Option.some.inj hx).symm
            omega
      split
      · rename_i hw
        rw [if_pos hw] at hs2
        refine Oper.wp_mono (fun a2 w2 h2 => ?_) hs2
        obtain ⟨v, ha, ⟨hd2, hb2⟩, hr2⟩ := h2
        exact ⟨v, ha, hset v w2 (.inr hd2) hb2 hr2⟩
      · rename_i hw
        rw [if_neg hw] at hs2
        exact hset undef w' (.inl rfl) (Below.refl _ _) hs2
    · have hs1 := hs.1 hi ⟨k, hk, fun b x hx hw => (hcm b x hx).1 (waitsE_done hw hd), fun b x o' hx hox hw => by
        rcases Nat.lt_or_ge b k with h | h
        · have hdo := hcl x o' hox ((hcm b x hx).2 h)
          unfold waits2 at hw
          rcases Bool.or_eq_true_iff.1 hw with hw | hw
          · have h1 := waitsE_done hw hdo
            rw [h1] at hmi; cases hmi
          · obtain ⟨e, he, h2⟩ := Array.any_eq_true'.1 hw
            simp only [Bool.and_eq_true] at h2
            have h3 := Array.all_eq_true'.1 hdo e he
            rw [h2.1] at h3
            have h4 := h2.2
            split at h4
            · rename_i y hy
              have h5 := waitsE_done h4 (hcl e.on y hy (by simpa using h3))
              rw [h5] at hmi; cases hmi
            · cases h4
        · exact h, hr⟩
      have hset : ∀ v w'', Below w'.heap.size w' w'' → V i v w'' → B ≤ w''.heap.size ∧ G w'' ∧ (∀ j, j ∉ C → upd m i true j = true → V j (upd us i v j) w'') ∧ ∃ k, k ≤ C.length ∧ (∀ j x, C[j]? = some x → (upd m i true x = true ↔ j < k)) ∧ (∀ x o', L[x]? = some o' → upd m i true x = true → doneB o' (upd m i true) = true) ∧ R k (upd us i v) w'' := fun v w'' hb2 hv2 => by
        have hb3 := hb2.mono hb'
        refine ⟨Nat.le_trans hb' hb2.size, hkG _ _ hb' (.inl hb2) hg, fun j hj hm' => ?_, k, hk, fun j x hx => ?_, hcl2, hkR k us (upd us i v) w' w'' (fun x hx => ?_) hb' hb2 hr⟩
        · by_cases hji : j = i
          · subst hji; rw [upd_same]; exact hv2
          · rw [upd_other _ _ hji] at hm' ⊢
            exact hkV _ _ _ _ hb' (.inl hb2) (hv j hj hm')
        · have hxi : x ≠ i := fun e => hi (e ▸ List.mem_of_getElem? hx)
          rw [upd_other _ _ hxi]; exact hcm j x hx
        · have hxi : x ≠ i := fun e => hi (e ▸ hx)
          rw [upd_other _ _ hxi]
      split
      · rename_i hw
        rw [if_pos hw] at hs1
        refine Oper.wp_mono (fun a2 w2 h2 => ?_) hs1
        obtain ⟨v, ha, hb2, hv2⟩ := h2
        exact ⟨v, ha, hset v w2 hb2 hv2⟩
      · rename_i hw
        rw [if_neg hw] at hs1
        exact hset undef w' (Below.refl _ _) hs1
  · intro m us w' hm' ⟨hb', hg, hv, k, hk, hcm, hcl, hr⟩
    have hkl : k = C.length := by
      rcases Nat.lt_or_ge k C.length with h | h
      · have e := List.getElem?_eq_getElem h
        have := (hcm k _ e).1 (hm' _ (hin _ (List.getElem_mem h)))
        omega
      · omega
    subst hkl
    exact hend us w' hb' hg (fun i hi hc => hv i hc (hm' i hi)) hr
variable {o : Oper} {a : Act} {tab : List (Option Nat)} {B : Nat} {D : World → World → Prop} {C : List Nat} {G : World → Prop} {V : Nat → Value → World → Prop} {R : Nat → (Nat → Value) → World → Prop} {i : Nat}
/-- an operation that only makes memory -/
theorem stepF_val (need : List Nat) (hn : needs o need = true) (hc : (need.all fun j => !C.contains j) = true) (hi : C.contains i = false) (hg : o.guard = none)
    (h : ∀ us w, B ≤ w.heap.size → G w → (∀ j, j ∈ need → V j (us j) w) → o.wp P (frame tab a us) w (fun a' w' => ∃ v, a' = (frame tab a us).put o.dst v ∧ Below w.heap.size w w' ∧ V i v w') Q) : StepF P L Q tab a B D C G V R i o := by
  intro m us w hB hG hV hd
  have hiC : i ∉ C := fun e => by rw [List.contains_iff_mem.2 e] at hi; cases hi
  refine ⟨fun _ _ => ?_, fun p hp => absurd (List.mem_of_getElem? hp) hiC⟩
  rw [if_pos (show Region.wanted o (yielded L.toArray (frame tab a us).tmps) = true by simp [Region.wanted, hg])]
  exact h us w hB hG fun j hj => hV j (fun e => by have h1 := List.all_eq_true.1 hc j hj; rw [List.contains_iff_mem.2 e] at h1; cases h1) (need_ok hn hd j hj)
/-- .. that waits for the chain's (lo - 1)-th, and for which its hi-th waits -/
theorem stepF_early (lo hi : Nat) (hlo : lo = 0 ∨ ∃ x, C[lo - 1]? = some x ∧ waitsE o x = true) (hhi : hi = C.length ∨ ∃ x o', C[hi]? = some x ∧ L[x]? = some o' ∧ waits2 L o' i = true) (need : List Nat) (hn : needs o need = true) (hc : (need.all fun j => !C.contains j) = true) (hi' : C.contains i = false) (hg : o.guard = none)
    (h : ∀ us w k, B ≤ w.heap.size → G w → (∀ j, j ∈ need → V j (us j) w) → lo ≤ k ∧ k ≤ hi → R k us w → o.wp P (frame tab a us) w (fun a' w' => ∃ v, a' = (frame tab a us).put o.dst v ∧ Below w.heap.size w w' ∧ V i v w') Q) : StepF P L Q tab a B D C G V R i o := by
  intro m us w hB hG hV hd
  have hiC : i ∉ C := fun e => by rw [List.contains_iff_mem.2 e] at hi'; cases hi'
  refine ⟨fun _ ⟨k, hkl, hk1, hk2, hr⟩ => ?_, fun p hp => absurd (List.mem_of_getElem? hp) hiC⟩
  rw [if_pos (show Region.wanted o (yielded L.toArray (frame tab a us).tmps) = true by simp [Region.wanted, hg])]
  refine h us w k hB hG (fun j hj => hV j (fun e => by have h1 := List.all_eq_true.1 hc j hj; rw [List.contains_iff_mem.2 e] at h1; cases h1) (need_ok hn hd j hj)) ⟨?_, ?_⟩ hr
  · rcases hlo with rfl | ⟨x, hx, hw⟩
    · exact Nat.zero_le _
    · have := hk1 (lo - 1) x hx hw; omega
  · rcases hhi with rfl | ⟨x, o', hx, hox, hw⟩
    · exact hkl
    · exact hk2 hi x o' hx hox hw
/-- .. behind a guard that says b, as is known -/
theorem stepF_guard (need : List Nat) (hn : needs o need = true) (hc : (need.all fun j => !C.contains j) = true) (hi : C.contains i = false) {j t : Nat} {b : Bool} (hg : o.guard = some (j, b)) (hj : j ∈ need) (hL : (L[j]?).bind (·.dst) = some t) (hl : tab.length = a.tmps.size) (ht : (tab[t]?).join = some j)
    (hv : ∀ v w, V j v w → v = .bool b)
    (h : ∀ us w, B ≤ w.heap.size → G w → (∀ j, j ∈ need → V j (us j) w) → o.wp P (frame tab a us) w (fun a' w' => ∃ v, a' = (frame tab a us).put o.dst v ∧ Below w.heap.size w w' ∧ V i v w') Q) : StepF P L Q tab a B D C G V R i o := by
  intro m us w hB hG hV hd
  have hiC : i ∉ C := fun e => by rw [List.contains_iff_mem.2 e] at hi; cases hi
  have hV2 : ∀ j, j ∈ need → V j (us j) w := fun j hj => hV j (fun e => by have h1 := List.all_eq_true.1 hc j hj; rw [List.contains_iff_mem.2 e] at h1; cases h1) (need_ok hn hd j hj)
  refine ⟨fun _ _ => ?_, fun p hp => absurd (List.mem_of_getElem? hp) hiC⟩
  have hy := yield_at (L := L) (us := us) hl hL ht (hv _ _ (hV2 j hj))
  rw [if_pos (show Region.wanted o (yielded L.toArray (frame tab a us).tmps) = true by simp [Region.wanted, hg, hy])]
  exact h us w hB hG hV2
/-- .. that is not wanted -/
theorem stepF_skip (need : List Nat) (hn : needs o need = true) (hc : (need.all fun j => !C.contains j) = true) (hi : C.contains i = false) {j t : Nat} {b : Bool} (hg : o.guard = some (j, b)) (hj : j ∈ need) (hL : (L[j]?).bind (·.dst) = some t) (hl : tab.length = a.tmps.size) (ht : (tab[t]?).join = some j)
    (hv : ∀ v w, V j v w → v = .bool !b) (h : ∀ w, V i undef w) : StepF P L Q tab a B D C G V R i o := by
  intro m us w hB hG hV hd
  have hiC : i ∉ C := fun e => by rw [List.contains_iff_mem.2 e] at hi; cases hi
  have hV2 : ∀ j, j ∈ need → V j (us j) w := fun j hj => hV j (fun e => by have h1 := List.all_eq_true.1 hc j hj; rw [List.contains_iff_mem.2 e] at h1; cases h1) (need_ok hn hd j hj)
  refine ⟨fun _ _ => ?_, fun p hp => absurd (List.mem_of_getElem? hp) hiC⟩
  have hy := yield_at (L := L) (us := us) hl hL ht (hv _ _ (hV2 j hj))
  rw [if_neg (by simp [Region.wanted, hg, hy])]
  exact h w
/-- the chain's p-th -/
theorem stepF_chain (p : Nat) (hp : C[p]? = some i) (hnd : C.Nodup) (need : List Nat) (hn : needs o need = true) (hc : (need.all fun j => !C.contains j) = true) (hg : o.guard = none)
    (h : ∀ us w, B ≤ w.heap.size → G w → (∀ j, j ∈ need → V j (us j) w) → R p us w → o.wp P (frame tab a us) w (fun a' w' => ∃ v, a' = (frame tab a us).put o.dst v ∧ (D w w' ∧ Below B w w') ∧ R (p + 1) (upd us i v) w') Q) : StepF P L Q tab a B D C G V R i o := by
  intro m us w hB hG hV hd
  refine ⟨fun hi _ => absurd (List.mem_of_getElem? hp) hi, fun q hq hr => ?_⟩
  have hqp : q = p := nodup_at hnd hq hp
  subst hqp
  rw [if_pos (show Region.wanted o (yielded L.toArray (frame tab a us).tmps) = true by simp [Region.wanted, hg])]
  exact h us w hB hG (fun j hj => hV j (fun e => by have h1 := List.all_eq_true.1 hc j hj; rw [List.contains_iff_mem.2 e] at h1; cases h1) (need_ok hn hd j hj)) hr
/-- .. behind a guard that says b, as is known -/
theorem stepF_chainG (p : Nat) (hp : C[p]? = some i) (hnd : C.Nodup) (need : List Nat) (hn : needs o need = true) (hc : (need.all fun j => !C.contains j) = true) {j t : Nat} {b : Bool} (hg : o.guard = some (j, b)) (hj : j ∈ need) (hL : (L[j]?).bind (·.dst) = some t) (hl : tab.length = a.tmps.size) (ht : (tab[t]?).join = some j)
    (hv : ∀ v w, V j v w → v = .bool b)
    (h : ∀ us w, B ≤ w.heap.size → G w → (∀ j, j ∈ need → V j (us j) w) → R p us w → o.wp P (frame tab a us) w (fun a' w' => ∃ v, a' = (frame tab a us).put o.dst v ∧ (D w w' ∧ Below B w w') ∧ R (p + 1) (upd us i v) w') Q) : StepF P L Q tab a B D C G V R i o := by
  intro m us w hB hG hV hd
  have hV2 : ∀ j, j ∈ need → V j (us j) w := fun j hj => hV j (fun e => by have h1 := List.all_eq_true.1 hc j hj; rw [List.contains_iff_mem.2 e] at h1; cases h1) (need_ok hn hd j hj)
  refine ⟨fun hi _ => absurd (List.mem_of_getElem? hp) hi, fun q hq hr => ?_⟩
  have hqp : q = p := nodup_at hnd hq hp
  subst hqp
  have hy := yield_at (L := L) (us := us) hl hL ht (hv _ _ (hV2 j hj))
  rw [if_pos (show Region.wanted o (yielded L.toArray (frame tab a us).tmps) = true by simp [Region.wanted, hg, hy])]
  exact h us w hB hG hV2 hr
end
end Go.Proofs.Ytmbfgolcinniiaa.freeC

/-
  A packet's bytes: the program's Lay.
-/
namespace Go.Proofs.Ytmbfgolcinniiaa.pkC
open Go.ChangeShapes Go.WideShapes Go.ChangeAt Go.RowKit
open Go.Proofs.Ytmbfgolcinniiaa.memC Go.Proofs.Ytmbfgolcinniiaa.genC Go.Proofs.Ytmbfgolcinniiaa.butC Go.Proofs.Ytmbfgolcinniiaa.freeC Go.Proofs.Ytmbfgolcinniiaa.adC
set_option linter.unusedVariables false
/-- a literal of two slices of bytes, by its row -/
theorem parts_row2 {w : World} {q : Nat} {A A' : Option Addr} {n c n' c' : Nat} {bs bs' : List Int} {T : TypeId} (hr : w.heap[q]? = some (.cells #[.slice A n c, .slice A' n' c'] T (0, 0))) (h : chkC.PartAt w w.heap.size ⟨A, n, c, bs⟩) (h' : chkC.PartAt w w.heap.size ⟨A', n', c', bs'⟩) :
    chkC.Parts w w.heap.size (some ⟨q, 0, none⟩) [⟨A, n, c, bs⟩, ⟨A', n', c', bs'⟩] := by
  refine ⟨fun _ => ⟨_, 0, rfl, lt_of_row hr, fun i hi => ?_⟩, fun p hp => ?_⟩
  · rw [cell_of_row w q (0 + i) _ _ (0, 0) hr]
    simp only [List.length_cons, List.length_nil] at hi
    match i, hi with
    | 0, _ => rfl
    | 1, _ => rfl
  · rcases List.mem_cons.1 hp with rfl | hp
    · exact h
    · obtain rfl := List.mem_singleton.1 hp
      exact h'
theorem put_check (w : World) (ck : Int) (hT : octC.putL [] 2 [ck] = [ck / 256, ck % 256]) :
    Calls Try.prog 25 #[.slice none 0 0, .int .i64 2, .slice (some ⟨w.heap.size, 0, none⟩) 1 1] (w.alloc (.cells #[.int .u64 ck] 60)) (kdC.BytesRet (w.alloc (.cells #[.int .u64 ck] 60)) 2 [ck / 256, ck % 256]) :=
  kdC.put_key (bs := []) (ns := [ck]) 2 2 2 [ck / 256, ck % 256] rfl (by decide) ⟨Nums.none_ 0, (by simp), (by decide), (by decide)⟩ (row_nums .u64 (xs := [ck]) (T := 60) (C := #[.int .u64 ck]) (heap_alloc_new w _) rfl 1 rfl) (by decide) (by decide) hT rfl
end Go.Proofs.Ytmbfgolcinniiaa.pkC
