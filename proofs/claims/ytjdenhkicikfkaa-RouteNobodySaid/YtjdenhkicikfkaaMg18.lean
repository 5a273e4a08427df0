/-
  1 texts of a proof, joined.
-/
import Derived.Test.YtjdenhkicikfkaaMg13
import Derived.Test.YtjdenhkicikfkaaMg14
import Derived.Test.YtjdenhkicikfkaaMg12
import Derived.Test.YtjdenhkicikfkaaMg3
import Derived.Sort.Grow

/-
  Which of two ways is ahead, by their prefixes and their lengths, with how the world grows.
-/
namespace Go.Proofs.Ytjdenhkicikfkaa.rtC
open Go.ChangeShapes Go.WideShapes Go.ChangeAt Go.RowKit
open Go.Proofs.Ytjdenhkicikfkaa.memC Go.Proofs.Ytjdenhkicikfkaa.genC Go.Proofs.Ytjdenhkicikfkaa.butC Go.Proofs.Ytjdenhkicikfkaa.freeC Go.Proofs.Ytjdenhkicikfkaa.adC
set_option linter.unusedVariables false
/-- a value; what there was stands, and what was drawn stays drawn -/
def RetD (w : World) (v : Value) (e : Ending) (w' : World) : Prop := e = .returned v ∧ Below w.heap.size w w' ∧ w.drawn ≤ w'.drawn
def GrD (w0 w : World) : Prop := Gr w0 w ∧ w0.drawn ≤ w.drawn
theorem GrD.below {w0 w w' : World} (h : GrD w0 w) (b : Below w.heap.size w w' ∧ w.drawn ≤ w'.drawn) : GrD w0 w' := ⟨h.1.below b.1, Nat.le_trans h.2 b.2⟩
theorem grD_drew (w : World) : GrD w w.drew := ⟨gr_drew w, Nat.le_succ _⟩
/-- so it has grown -/
theorem grow_of {w w' : World} (h : Below w.heap.size w w') (d : w.drawn ≤ w'.drawn) : ∃ q os, w' = Sort.grow (w.drewN q) os := by
  refine ⟨w'.drawn - w.drawn, w'.heap.extract w.heap.size w'.heap.size, ?_⟩
  have hh : w'.heap = w.heap ++ w'.heap.extract w.heap.size w'.heap.size := by
    apply Array.ext
    · rw [Array.size_append, Array.size_extract]; have := h.size; omega
    · intro i h1 h2
      rw [Array.getElem_append]
      split
      · rename_i hi
        have := h.block i hi
        rw [Array.getElem?_eq_getElem h1, Array.getElem?_eq_getElem hi] at this
        exact Option.some.inj this
      · rename_i hi
        rw [Array.getElem_extract]
        congr 1
        omega
  have h1 := h.os
  have h2 := h.tape
  have h3 := h.output
  cases w'
  cases w
  unfold Sort.grow World.drewN
  simp only at h1 h2 h3 hh d ⊢
  rw [h1, h2, h3]
  congr 1
  omega
theorem gsize_any (s : Bool) (b : List Int) (w : World) (h : b.length = 16) (z : Int) (hz : z = (adrN s : Int)) : Calls Try.prog 29 #[.agg (adrV s b)] w (RetD w (.int .i64 z)) := by
  subst hz
  have k1 : (w.alloc (.cells (adrV s b) 25)).cell? ⟨w.heap.size, 0, none⟩ = some (.bool s) := by rw [cell_new]; exact adrV_six _ _
  have B := Lib.hid (alloc_below w (.cells (adrV s b) 25))
  generalize adrV s b = C at *
  cases s
  all_goals
    go_enter Try.func29, Try.ntmps29
    go_wp2
    go_ret
    exact ⟨rfl, B.out, Nat.le_refl _⟩
set_option maxRecDepth 100000 in
set_option maxHeartbeats 2000000 in
theorem gcomp_any (s s' : Bool) (a b : List Int) (w : World) (ha : a.length = 16) (hb : b.length = 16) (ya : ∀ x ∈ a, Byte x) (yb : ∀ x ∈ b, Byte x) :
    Calls Try.prog 34 #[.agg (adrV s a), .agg (adrV s' b)] w (RetD w (.int .i64 (cmpV s a s' b))) := by
  have e1 : (w.alloc (.cells (adrV s a) 25)).heap.size = w.heap.size + 1 := alloc_size _ _
  obtain ⟨W, hW⟩ : ∃ W, W = (w.alloc (.cells (adrV s a) 25)).alloc (.cells (adrV s' b) 25) := ⟨_, rfl⟩
  have R0_W := Lib.hid (show W.heap[w.heap.size]? = some (.cells (adrV s a) 25 (0, 0)) by rw [hW, Below.block (alloc_below _ _) _ (by rw [e1]; omega)]; exact heap_alloc_new w _)
  have R1_W := Lib.hid (show W.heap[w.heap.size + 1]? = some (.cells (adrV s' b) 25 (0, 0)) by rw [hW, ← e1]; exact heap_alloc_new _ _)
  have HB_W := Lib.hid (show Below w.heap.size w W ∧ w.drawn ≤ W.drawn by rw [hW]; exact ⟨((Below.refl _ _).alloc (Nat.le_refl _) _).alloc (by simp) _, Nat.le_refl _⟩)
  have k0 : W.cell? ⟨w.heap.size, 0, none⟩ = some (.bool s) := by rw [cell_of_row W w.heap.size 0 _ _ (0, 0) R0_W.out]; exact adrV_six _ _
  have k1 : W.cell? ⟨w.heap.size + 1, 0, none⟩ = some (.bool s') := by rw [cell_of_row W (w.heap.size + 1) 0 _ _ (0, 0) R1_W.out]; exact adrV_six _ _
  have I0 := Lib.hid (adr_info s ha)
  have I1 := Lib.hid (adr_info s' hb)
  by_cases hs : s = s'
  · subst hs
    have hv : cmpV s a s b = lexL (adrL s a) (adrL s b) := by unfold cmpV; rw [if_pos rfl]
    rw [hv]
    have CC0 := Lib.hid (fun w' (hG : GrD W w') (n : Nat) (hn : n = adrN s) => (show Calls Try.prog 39 #[.slice (some ⟨w.heap.size, 1, none⟩) n 16, .slice (some ⟨w.heap.size + 1, 1, none⟩) n 16] w' (RetD w' (.int .i64 (lexL (adrL s a) (adrL s b)))) by
      subst hn
      exact (bcomp_any _ _ _ _ 16 16 _ _ w' (adr_row ha (hG.1.row R0_W.out)) (adr_row hb (hG.1.row R1_W.out)) (adrL_byte ya) (adrL_byte yb)).mono fun e w'' h => ⟨h.1, by rw [h.2]; exact ⟨Below.refl _ _, Nat.le_refl _⟩⟩))
    generalize lexL (adrL s a) (adrL s b) = r at *
    have ZA := Lib.hid (fun w' (z : Int) (hz : z = (adrN s : Int)) => gsize_any s a w' ha z hz)
    have ZB := Lib.hid (fun w' (z : Int) (hz : z = (adrN s : Int)) => gsize_any s b w' hb z hz)
    generalize adrV s a = CA at *
    generalize adrV s b = CB at *
    clear ha hb ya yb e1 hv
    cases s
    · have CC := Lib.hid (fun w' hG => CC0.out w' hG 4 rfl)
      have Z0 := Lib.hid (fun w' => ZA.out w' 4 rfl)
      have Z1 := Lib.hid (fun w' => ZB.out w' 4 rfl)
      clear CC0 ZA ZB
      go_enter Try.func34, Try.ntmps34
      go_upto_region 1 with fail
      rw [← hW]
      clear hW
      go_upto_region 2 with fail
      refine with_act fun a0 ha0 => ?_
      have hl : cv4T.length = a0.tmps.size := by rw [ha0]; rfl
      have k2 : a0.tmps[2]?.getD undef = .pointer (some ⟨w.heap.size, 0, none⟩) := by rw [ha0]; rfl
      have k3 : a0.tmps[3]?.getD undef = .pointer (some ⟨(w.heap.size + 1), 0, none⟩) := by rw [ha0]; rfl
      refine wp_region_vals (by kernel_rfl) cv4T (by kernel_rfl) (by kernel_rfl) hl (fun i => if i = 9 then .int .i64 0 else undef) (by rw [ha0]; rfl) (GrD W) (cv4V w.heap.size (w.heap.size + 1) CA CB r) (grD_drew _) (cv4V.keep _ _ _ _ _) ⟨?_, ?_, ?_, ?_, ?_, ?_, ?_, ?_, ?_, ?_, trivial⟩ ?_
      · refine step_plain [] (by kernel_rfl) rfl fun us w' hG hV => ?_
        have o2 := (frame_old2 (us := us) (a := a0) (show (cv4T[2]?).join = none from rfl)).trans k2
        generalize frame cv4T a0 us = fr at *
        exact val_ok (v := .pointer (some ⟨w.heap.size, 1, none⟩)) (w' := w') (by go_simp) hG (Below.refl _ _) rfl
      · refine step_plain [] (by kernel_rfl) rfl fun us w' hG hV => ?_
        have o2 := (frame_old2 (us := us) (a := a0) (show (cv4T[2]?).join = none from rfl)).trans k2
        have hg1 := hG.1.row R0_W.out
        generalize frame cv4T a0 us = fr at *
        exact load_ok 25 2 rfl (w.heap.size) o2 _ _ (0, 0) _ hg1 Try.underlying25 rfl I0.out hG rfl
      · refine step_plain [1] (by kernel_rfl) rfl fun us w' hG hV => ?_
        have e1 : us 1 = .agg CA := hV 1 (by simp)
        have v1 := (frame_at2 (us := us) hl (show (cv4T[12]?).join = some 1 from rfl)).trans e1
        generalize frame cv4T a0 us = fr at *
        exact call_ok (f := 29) (args := #[.agg CA]) (by go_simp) ((Z0.out w').mono fun e w'' h => ⟨_, h.1, hG.below h.2, h.2.1, rfl⟩)
      · refine step_plain [0, 2] (by kernel_rfl) rfl fun us w' hG hV => ?_
        have e0 : us 0 = .pointer (some ⟨w.heap.size, 1, none⟩) := hV 0 (by simp)
        have v0 := (frame_at2 (us := us) hl (show (cv4T[11]?).join = some 0 from rfl)).trans e0
        have e2 : us 2 = .int .i64 4 := hV 2 (by simp)
        have v2 := (frame_at2 (us := us) hl (show (cv4T[13]?).join = some 2 from rfl)).trans e2
        generalize frame cv4T a0 us = fr at *
        exact val_ok (v := .slice (some ⟨w.heap.size, 1, none⟩) 4 16) (w' := w') (by go_simp) hG (Below.refl _ _) rfl
      · refine step_plain [] (by kernel_rfl) rfl fun us w' hG hV => ?_
        have o3 := (frame_old2 (us := us) (a := a0) (show (cv4T[3]?).join = none from rfl)).trans k3
        generalize frame cv4T a0 us = fr at *
        exact val_ok (v := .pointer (some ⟨(w.heap.size + 1), 1, none⟩)) (w' := w') (by go_simp) hG (Below.refl _ _) rfl
      · refine step_plain [] (by kernel_rfl) rfl fun us w' hG hV => ?_
        have o3 := (frame_old2 (us := us) (a := a0) (show (cv4T[3]?).join = none from rfl)).trans k3
        have hg1 := hG.1.row R1_W.out
        generalize frame cv4T a0 us = fr at *
        exact load_ok 25 3 rfl ((w.heap.size + 1)) o3 _ _ (0, 0) _ hg1 Try.underlying25 rfl I1.out hG rfl
      · refine step_plain [5] (by kernel_rfl) rfl fun us w' hG hV => ?_
        have e5 : us 5 = .agg CB := hV 5 (by simp)
        have v5 := (frame_at2 (us := us) hl (show (cv4T[16]?).join = some 5 from rfl)).trans e5
        generalize frame cv4T a0 us = fr at *
        exact call_ok (f := 29) (args := #[.agg CB]) (by go_simp) ((Z1.out w').mono fun e w'' h => ⟨_, h.1, hG.below h.2, h.2.1, rfl⟩)
      · refine step_plain [4, 6] (by kernel_rfl) rfl fun us w' hG hV => ?_
        have e4 : us 4 = .pointer (some ⟨(w.heap.size + 1), 1, none⟩) := hV 4 (by simp)
        have v4 := (frame_at2 (us := us) hl (show (cv4T[15]?).join = some 4 from rfl)).trans e4
        have e6 : us 6 = .int .i64 4 := hV 6 (by simp)
        have v6 := (frame_at2 (us := us) hl (show (cv4T[17]?).join = some 6 from rfl)).trans e6
        generalize frame cv4T a0 us = fr at *
        exact val_ok (v := .slice (some ⟨(w.heap.size + 1), 1, none⟩) 4 16) (w' := w') (by go_simp) hG (Below.refl _ _) rfl
      · refine step_plain [3, 7] (by kernel_rfl) rfl fun us w' hG hV => ?_
        have e3 : us 3 = .slice (some ⟨w.heap.size, 1, none⟩) 4 16 := hV 3 (by simp)
        have v3 := (frame_at2 (us := us) hl (show (cv4T[14]?).join = some 3 from rfl)).trans e3
        have e7 : us 7 = .slice (some ⟨(w.heap.size + 1), 1, none⟩) 4 16 := hV 7 (by simp)
        have v7 := (frame_at2 (us := us) hl (show (cv4T[18]?).join = some 7 from rfl)).trans e7
        generalize frame cv4T a0 us = fr at *
        exact call_ok (f := 39) (args := #[.slice (some ⟨w.heap.size, 1, none⟩) 4 16, .slice (some ⟨(w.heap.size + 1), 1, none⟩) 4 16]) (by go_simp) ((CC.out w' hG).mono fun e w'' h => ⟨_, h.1, hG.below h.2, h.2.1, rfl⟩)
      · refine step_plain [8] (by kernel_rfl) rfl fun us w' hG hV => ?_
        have e8 : us 8 = .int .i64 r := hV 8 (by simp)
        have v8 := (frame_at2 (us := us) hl (show (cv4T[19]?).join = some 8 from rfl)).trans e8
        generalize frame cv4T a0 us = fr at *
        exact val_ok (v := .int .i64 r) (w' := w') (by go_simp) hG (Below.refl _ _) rfl
      · intro us w' hG hV
        have eL : us 9 = .int .i64 r := hV 9 (by decide)
        subst ha0
        simp only [frame, cv4T, fill]
        rw [eL]
        go_wp2_with fail
        go_ret
        exact ⟨rfl, HB_W.out.1.trans (hG.1.mono HB_W.out.1.size), Nat.le_trans HB_W.out.2 hG.2⟩
    · have CC := Lib.hid (fun w' hG => CC0.out w' hG 16 rfl)
      have Z0 := Lib.hid (fun w' => ZA.out w' 16 rfl)
      have Z1 := Lib.hid (fun w' => ZB.out w' 16 rfl)
      clear CC0 ZA ZB
      go_enter Try.func34, Try.ntmps34
      go_upto_region 1 with fail
      rw [← hW]
      clear hW
      go_upto_region 2 with fail
      refine with_act fun a0 ha0 => ?_
      have hl : cv16T.length = a0.tmps.size := by rw [ha0]; rfl
      have k2 : a0.tmps[2]?.getD undef = .pointer (some ⟨w.heap.size, 0, none⟩) := by rw [ha0]; rfl
      have k3 : a0.tmps[3]?.getD undef = .pointer (some ⟨(w.heap.size + 1), 0, none⟩) := by rw [ha0]; rfl
      refine wp_region_vals (by kernel_rfl) cv16T (by kernel_rfl) (by kernel_rfl) hl (fun i => if i = 9 then .int .i64 0 else undef) (by rw [ha0]; rfl) (GrD W) (cv16V w.heap.size (w.heap.size + 1) CA CB r) (grD_drew _) (cv16V.keep _ _ _ _ _) ⟨?_, ?_, ?_, ?_, ?_, ?_, ?_, ?_, ?_, ?_, trivial⟩ ?_
      · refine step_plain [] (by kernel_rfl) rfl fun us w' hG hV => ?_
        have o2 := (frame_old2 (us := us) (a := a0) (show (cv16T[2]?).join = none from rfl)).trans k2
        generalize frame cv16T a0 us = fr at *
        exact val_ok (v := .pointer (some ⟨w.heap.size, 1, none⟩)) (w' := w') (by go_simp) hG (Below.refl _ _) rfl
      · refine step_plain [] (by kernel_rfl) rfl fun us w' hG hV => ?_
        have o2 := (frame_old2 (us := us) (a := a0) (show (cv16T[2]?).join = none from rfl)).trans k2
        have hg1 := hG.1.row R0_W.out
        generalize frame cv16T a0 us = fr at *
        exact load_ok 25 2 rfl (w.heap.size) o2 _ _ (0, 0) _ hg1 Try.underlying25 rfl I0.out hG rfl
      · refine step_plain [1] (by kernel_rfl) rfl fun us w' hG hV => ?_
        have e1 : us 1 = .agg CA := hV 1 (by simp)
        have v1 := (frame_at2 (us := us) hl (show (cv16T[12]?).join = some 1 from rfl)).trans e1
        generalize frame cv16T a0 us = fr at *
        exact call_ok (f := 29) (args := #[.agg CA]) (by go_simp) ((Z0.out w').mono fun e w'' h => ⟨_, h.1, hG.below h.2, h.2.1, rfl⟩)
      · refine step_plain [0, 2] (by kernel_rfl) rfl fun us w' hG hV => ?_
        have e0 : us 0 = .pointer (some ⟨w.heap.size, 1, none⟩) := hV 0 (by simp)
        have v0 := (frame_at2 (us := us) hl (show (cv16T[11]?).join = some 0 from rfl)).trans e0
        have e2 : us 2 = .int .i64 16 := hV 2 (by simp)
        have v2 := (frame_at2 (us := us) hl (show (cv16T[13]?).join = some 2 from rfl)).trans e2
        generalize frame cv16T a0 us = fr at *
        exact val_ok (v := .slice (some ⟨w.heap.size, 1, none⟩) 16 16) (w' := w') (by go_simp) hG (Below.refl _ _) rfl
      · refine step_plain [] (by kernel_rfl) rfl fun us w' hG hV => ?_
        have o3 := (frame_old2 (us := us) (a := a0) (show (cv16T[3]?).join = none from rfl)).trans k3
        generalize frame cv16T a0 us = fr at *
        exact val_ok (v := .pointer (some ⟨(w.heap.size + 1), 1, none⟩)) (w' := w') (by go_simp) hG (Below.refl _ _) rfl
      · refine step_plain [] (by kernel_rfl) rfl fun us w' hG hV => ?_
        have o3 := (frame_old2 (us := us) (a := a0) (show (cv16T[3]?).join = none from rfl)).trans k3
        have hg1 := hG.1.row R1_W.out
        generalize frame cv16T a0 us = fr at *
        exact load_ok 25 3 rfl ((w.heap.size + 1)) o3 _ _ (0, 0) _ hg1 Try.underlying25 rfl I1.out hG rfl
      · refine step_plain [5] (by kernel_rfl) rfl fun us w' hG hV => ?_
        have e5 : us 5 = .agg CB := hV 5 (by simp)
        have v5 := (frame_at2 (us := us) hl (show (cv16T[16]?).join = some 5 from rfl)).trans e5
        generalize frame cv16T a0 us = fr at *
        exact call_ok (f := 29) (args := #[.agg CB]) (by go_simp) ((Z1.out w').mono fun e w'' h => ⟨_, h.1, hG.below h.2, h.2.1, rfl⟩)
      · refine step_plain [4, 6] (by kernel_rfl) rfl fun us w' hG hV => ?_
        have e4 : us 4 = .pointer (some ⟨(w.heap.size + 1), 1, none⟩) := hV 4 (by simp)
        have v4 := (frame_at2 (us := us) hl (show (cv16T[15]?).join = some 4 from rfl)).trans e4
        have e6 : us 6 = .int .i64 16 := hV 6 (by simp)
        have v6 := (frame_at2 (us := us) hl (show (cv16T[17]?).join = some 6 from rfl)).trans e6
        generalize frame cv16T a0 us = fr at *
        exact val_ok (v := .slice (some ⟨(w.heap.size + 1), 1, none⟩) 16 16) (w' := w') (by go_simp) hG (Below.refl _ _) rfl
      · refine step_plain [3, 7] (by kernel_rfl) rfl fun us w' hG hV => ?_
        have e3 : us 3 = .slice (some ⟨w.heap.size, 1, none⟩) 16 16 := hV 3 (by simp)
        have v3 := (frame_at2 (us := us) hl (show (cv16T[14]?).join = some 3 from rfl)).trans e3
        have e7 : us 7 = .slice (some ⟨(w.heap.size + 1), 1, none⟩) 16 16 := hV 7 (by simp)
        have v7 := (frame_at2 (us := us) hl (show (cv16T[18]?).join = some 7 from rfl)).trans e7
        generalize frame cv16T a0 us = fr at *
        exact call_ok (f := 39) (args := #[.slice (some ⟨w.heap.size, 1, none⟩) 16 16, .slice (some ⟨(w.heap.size + 1), 1, none⟩) 16 16]) (by go_simp) ((CC.out w' hG).mono fun e w'' h => ⟨_, h.1, hG.below h.2, h.2.1, rfl⟩)
      · refine step_plain [8] (by kernel_rfl) rfl fun us w' hG hV => ?_
        have e8 : us 8 = .int .i64 r := hV 8 (by simp)
        have v8 := (frame_at2 (us := us) hl (show (cv16T[19]?).join = some 8 from rfl)).trans e8
        generalize frame cv16T a0 us = fr at *
        exact val_ok (v := .int .i64 r) (w' := w') (by go_simp) hG (Below.refl _ _) rfl
      · intro us w' hG hV
        have eL : us 9 = .int .i64 r := hV 9 (by decide)
        subst ha0
        simp only [frame, cv16T, fill]
        rw [eL]
        go_wp2_with fail
        go_ret
        exact ⟨rfl, HB_W.out.1.trans (hG.1.mono HB_W.out.1.size), Nat.le_trans HB_W.out.2 hG.2⟩
  · have hne : (s == s') = false := by cases s <;> cases s' <;> first | rfl | exact absurd rfl hs
    generalize adrV s a = CA at *
    generalize adrV s' b = CB at *
    cases s'
    · have hv : cmpV s a false b = 1 := by unfold cmpV; rw [if_neg hs]; rfl
      rw [hv]
      clear ha hb ya yb e1 hv hs
      go_enter Try.func34, Try.ntmps34
      go_upto_region 1 with fail
      rw [← hW]
      clear hW
      go_wp2_with fail
      go_ret
      exact ⟨rfl, HB_W.out.1, HB_W.out.2⟩
    · have hv : cmpV s a true b = -1 := by unfold cmpV; rw [if_neg hs]; rfl
      rw [hv]
      clear ha hb ya yb e1 hv hs
      go_enter Try.func34, Try.ntmps34
      go_upto_region 1 with fail
      rw [← hW]
      clear hW
      go_wp2_with fail
      go_ret
      exact ⟨rfl, HB_W.out.1, HB_W.out.2⟩
/-! ### numbers -/
def sgnI (x y : Int) : Int := if x < y then -1 else if y < x then 1 else 0
set_option maxRecDepth 100000 in
theorem nanI_any (x : Int) (w : World) : Calls Try.prog 40 #[.int .i64 x] w fun e w' => e = .returned (.bool false) ∧ w' = w := by
  go_enter Try.func40, Try.ntmps40
  go_wp2
  go_ret
  exact ⟨ret_bool (by simp), rfl⟩
set_option maxRecDepth 100000 in
theorem compI_any (x y : Int) (w : World) : Calls Try.prog 35 #[.int .i64 x, .int .i64 y] w (RetD w (.int .i64 (sgnI x y))) := by
  have NA := Lib.hid (fun v => nanI_any v w)
  obtain ⟨r, hr⟩ : ∃ r, r = sgnI x y := ⟨_, rfl⟩
  rw [← hr]
  have HR := Lib.hid hr
  clear hr
  by_cases h1 : x < y
  · have hv := Lib.hid (show r = -1 by rw [HR.out]; unfold sgnI; simp [h1])
    go_enter Try.func35, Try.ntmps35
    go_wp2_with (go_at_call 40; refine (NA.out _).mono ?_; rintro e w2 ⟨rfl, hw⟩; obtain rfl := hw.symm)
    go_ret
    exact ⟨by rw [hv.out]; rfl, Below.refl _ _, Nat.le_refl _⟩
  · by_cases h2 : y < x
    · have hv := Lib.hid (show r = 1 by rw [HR.out]; unfold sgnI; simp [h1, h2])
      go_enter Try.func35, Try.ntmps35
      go_wp2_with (go_at_call 40; refine (NA.out _).mono ?_; rintro e w2 ⟨rfl, hw⟩; obtain rfl := hw.symm)
      go_ret
      exact ⟨by rw [hv.out]; rfl, Below.refl _ _, Nat.le_refl _⟩
    · have hv := Lib.hid (show r = 0 by rw [HR.out]; unfold sgnI; simp [h1, h2])
      go_enter Try.func35, Try.ntmps35
      go_wp2_with (go_at_call 40; refine (NA.out _).mono ?_; rintro e w2 ⟨rfl, hw⟩; obtain rfl := hw.symm)
      go_ret
      exact ⟨by rw [hv.out]; rfl, Below.refl _ _, Nat.le_refl _⟩
set_option maxRecDepth 100000 in
theorem gor0 (a b : Int) (g : Nat) (w : World) (h : w.heap[g]? = some (.cells #[.int .i64 a, .int .i64 b] 3 (0, 0))) :
    Calls Try.prog 33 #[.slice (some ⟨g, 0, none⟩) 2 2] w fun e w' => e = .returned (.int .i64 (if a = 0 then b else a)) ∧ w = w' := by
  have c0 : w.cell? ⟨g, 0, none⟩ = some (.int .i64 a) := by rw [cell_of_row w g 0 _ _ (0, 0) h]; rfl
  have c1 : w.cell? ⟨g, 1, none⟩ = some (.int .i64 b) := by rw [cell_of_row w g 1 _ _ (0, 0) h]; rfl
  clear h
  go_enter Try.func33, Try.ntmps33
  go_wp2_with fail
  go_loop [8] (fun i => ∃ k : Nat, k ≤ 2 ∧ i = .int .i64 k ∧ (1 ≤ k → a = 0) ∧ (2 ≤ k → b = 0)) (fun i => 2 - (intOf i).toNat)
  case atStart => exact ⟨0, by omega, rfl, by omega, by omega⟩
  case round =>
    obtain ⟨k, hk, rfl, h1, h2⟩ := hrel
    match k, hk with
    | 0, _ =>
      by_cases ha : a = 0
      · subst ha
        clear h1 h2
        go_wp2_with fail
        go_round
        case rel => exact ⟨1, by omega, rfl, by simp, by omega⟩
        case measure => simp [intOf]
      · have q : (a == 0) = false := beq_eq_false_iff_ne.2 ha
        clear h1 h2
        go_wp2_with fail
        go_ret
        exact ⟨by first | rfl | rw [if_neg ha], rfl⟩
    | 1, _ =>
      obtain rfl := h1 (by omega)
      by_cases hb : b = 0
      · subst hb
        clear h1 h2
        go_wp2_with fail
        go_round
        case rel => exact ⟨2, by omega, rfl, by simp, by simp⟩
        case measure => simp [intOf]
      · have q : (b == 0) = false := beq_eq_false_iff_ne.2 hb
        clear h1 h2
        go_wp2_with fail
        go_ret
        exact ⟨rfl, rfl⟩
    | 2, _ =>
      obtain rfl := h1 (by omega)
      obtain rfl := h2 (by omega)
      clear h1 h2
      go_wp2_with fail
      go_ret
      exact ⟨rfl, rfl⟩
theorem gor_any (a b : Int) (g : Nat) (w : World) (h : w.heap[g]? = some (.cells #[.int .i64 a, .int .i64 b] 3 (0, 0))) : Calls Try.prog 33 #[.slice (some ⟨g, 0, none⟩) 2 2] w (RetD w (.int .i64 (if a = 0 then b else a))) :=
  (gor0 a b g w h).mono fun e w' h => ⟨h.1, by rw [← h.2]; exact ⟨Below.refl _ _, Nat.le_refl _⟩⟩
/-! ### order -/
theorem loadp_runK {P : Program} {fr : Act} {o : Oper} {w : World} {s : Tmp} {T : TypeId} {g q : Nat} (ho : o.op = .load T (.tmp s)) (hx : fr.tmps[s]?.getD undef = .pointer (some ⟨g, q, none⟩)) (L : List Value) (d : TypeDesc)
    (hc : ∀ j v, L[j]? = some v → w.cell? ⟨g, q + j, none⟩ = some v) (hu : P.underlying T = some d) (hd : (match d with | .struct _ | .array _ _ => true | _ => false) = true) (hi : (P.info? T).map (·.size) = some L.length) : (execOp fr.eval o).run P w = .ok (.value (.agg L.toArray)) w := by
  have hl := Go.Proofs.Ytjdenhkicikfkaa.partC.run_load_part (P := P) w g q T L d hc hu hd hi
  have hx2 : fr.eval (.tmp s) = .pointer (some ⟨g, q, none⟩) := by simpa only [Act.eval, Array.getD_eq_getD_getElem?] using hx
  unfold execOp
  simp only [ho, hx2, Instr.loadAt, Instr.sureAddr, Sem.run_bind, Sem.run_pure, Result.andThen_ok, hl]
/-- which of two ways is ahead -/
def ordW (y z : Wy) : Int := if cmpV y.s y.a z.s z.a = 0 then sgnI y.len z.len else cmpV y.s y.a z.s z.a
def orV (g0 g1 : Nat) (KA KB : List Value) (c d r la lb : Int) : Nat → Value → World → Prop
  | 0, v, _ => v = .pointer (some ⟨g0, 0, none⟩)
  | 1, v, _ => v = .agg KA.toArray
  | 2, v, _ => v = .pointer (some ⟨g1, 0, none⟩)
  | 3, v, _ => v = .agg KB.toArray
  | 4, v, _ => v = .int .i64 c
  | 5, v, _ => v = .pointer (some ⟨g0, 17, none⟩)
  | 6, v, _ => v = .int .i64 la
  | 7, v, _ => v = .pointer (some ⟨g1, 17, none⟩)
  | 8, v, _ => v = .int .i64 lb
  | 9, v, _ => v = .int .i64 d
  | 10, v, w => ∃ q, v = .slice (some ⟨q, 0, none⟩) 2 2 ∧ w.heap[q]? = some (.cells #[.int .i64 c, .int .i64 d] 3 (0, 0))
  | 11, v, _ => v = .int .i64 r
  | 12, v, _ => v = .int .i64 r
  | _, _, _ => True
theorem orV.keep (g0 g1 : Nat) (KA KB : List Value) (c d r la lb : Int) (i : Nat) (v : Value) (w w' : World) (hb : Below w.heap.size w w') (h : orV g0 g1 KA KB c d r la lb i v w) : orV g0 g1 KA KB c d r la lb i v w' := by
  by_cases e10 : i = 10
  · subst e10
    obtain ⟨q, h1, h2⟩ := h
    exact ⟨q, h1, (hb.block q (lt_of_row h2)).trans h2⟩
  unfold orV at h ⊢
  split at h <;> first | exact h | exact absurd rfl (by assumption)
def orT : List (Option Nat) := [none, none, none, none, some 12, some 0, some 1, some 2, some 3, some 4, some 5, some 6, some 7, some 8, some 9, some 10, some 11]
set_option maxRecDepth 100000 in
set_option maxHeartbeats 2000000 in
theorem order_any (y z : Wy) (w : World) (hy : y.Ok) (hz : z.Ok) : Calls Try.prog 23 #[.agg (wyV y), .agg (wyV z)] w (RetD w (.int .i64 (ordW y z))) := by
  obtain ⟨W, hW⟩ : ∃ W, W = (w.alloc (.cells (wyV y) 35)).alloc (.cells (wyV z) 35) := ⟨_, rfl⟩
  have e1 : (w.alloc (.cells (wyV y) 35)).heap.size = w.heap.size + 1 := alloc_size _ _
  have R0 := Lib.hid (show W.heap[w.heap.size]? = some (.cells (wyV y) 35 (0, 0)) by rw [hW, Below.block (alloc_below _ _) _ (by rw [e1]; omega)]; exact heap_alloc_new w _)
  have R1 := Lib.hid (show W.heap[w.heap.size + 1]? = some (.cells (wyV z) 35 (0, 0)) by rw [hW, ← e1]; exact heap_alloc_new _ _)
  have HB_W := Lib.hid (show Below w.heap.size w W ∧ w.drawn ≤ W.drawn by rw [hW]; exact ⟨((Below.refl _ _).alloc (Nat.le_refl _) _).alloc (by simp) _, Nat.le_refl _⟩)
  have CA := Lib.hid (fun w' (hG : GrD W w') => (show ∀ j v, (adrK y.s y.a)[j]? = some v → w'.cell? ⟨w.heap.size, 0 + j, none⟩ = some v from fun j v hv => wyV_row (hG.1.row R0.out) (wy_src hy j v hv)))
  have CB := Lib.hid (fun w' (hG : GrD W w') => (show ∀ j v, (adrK z.s z.a)[j]? = some v → w'.cell? ⟨w.heap.size + 1, 0 + j, none⟩ = some v from fun j v hv => wyV_row (hG.1.row R1.out) (wy_src hz j v hv)))
  have CL := Lib.hid (fun w' (hG : GrD W w') => (show w'.cell? ⟨w.heap.size, 17, none⟩ = some (.int .i64 y.len) from wyV_row (hG.1.row R0.out) (wy_len hy)))
  have DL := Lib.hid (fun w' (hG : GrD W w') => (show w'.cell? ⟨w.heap.size + 1, 17, none⟩ = some (.int .i64 z.len) from wyV_row (hG.1.row R1.out) (wy_len hz)))
  have IA := Lib.hid (adrK_info (s := y.s) hy.la)
  have IB := Lib.hid (adrK_info (s := z.s) hz.la)
  have CC := Lib.hid (fun w' => (show Calls Try.prog 34 #[.agg (adrK y.s y.a).toArray, .agg (adrK z.s z.a).toArray] w' (RetD w' (.int .i64 (cmpV y.s y.a z.s z.a))) from gcomp_any y.s z.s y.a z.a w' hy.la hz.la hy.ya hz.ya))
  have CI := Lib.hid (fun w' => compI_any y.len z.len w')
  have CO := Lib.hid (fun g w' (h : w'.heap[g]? = some (.cells #[.int .i64 (cmpV y.s y.a z.s z.a), .int .i64 (sgnI y.len z.len)] 3 (0, 0))) => (show Calls Try.prog 33 #[.slice (some ⟨g, 0, none⟩) 2 2] w' (RetD w' (.int .i64 (ordW y z))) from gor_any _ _ g w' h))
  generalize ordW y z = r at *
  generalize cmpV y.s y.a z.s z.a = c at *
  generalize sgnI y.len z.len = d at *
  generalize adrK y.s y.a = KA at *
  generalize adrK z.s z.a = KB at *
  generalize y.len = la at *
  generalize z.len = lb at *
  generalize wyV y = VA at *
  generalize wyV z = VB at *
  clear e1 R0 R1 hy hz
  go_enter Try.func23, Try.ntmps23
  go_upto_region 1 with fail
  rw [← hW]
  clear hW
  refine with_act fun a0 ha0 => ?_
  have hl : orT.length = a0.tmps.size := by rw [ha0]; rfl
  have k2 : a0.tmps[2]?.getD undef = .pointer (some ⟨w.heap.size, 0, none⟩) := by rw [ha0]; rfl
  have k3 : a0.tmps[3]?.getD undef = .pointer (some ⟨w.heap.size + 1, 0, none⟩) := by rw [ha0]; rfl
  refine wp_region_vals (by kernel_rfl) orT (by kernel_rfl) (by kernel_rfl) hl (fun i => if i = 12 then .int .i64 0 else undef) (by rw [ha0]; rfl) (GrD W) (orV w.heap.size (w.heap.size + 1) KA KB c d r la lb) (grD_drew _) (orV.keep _ _ _ _ _ _ _ _ _) ⟨?_, ?_, ?_, ?_, ?_, ?_, ?_, ?_, ?_, ?_, ?_, ?_, ?_, trivial⟩ ?_
  · refine step_plain [] (by kernel_rfl) rfl fun us w' hG hV => ?_
    have o2 := (frame_old2 (us := us) (a := a0) (show (orT[2]?).join = none from rfl)).trans k2
    generalize frame orT a0 us = fr at *
    exact val_ok (v := .pointer (some ⟨w.heap.size, 0, none⟩)) (w' := w') (by go_simp) hG (Below.refl _ _) rfl
  · refine step_plain [0] (by kernel_rfl) rfl fun us w' hG hV => ?_
    have e0 : us 0 = .pointer (some ⟨w.heap.size, 0, none⟩) := hV 0 (by simp)
    have v0 := (frame_at2 (us := us) hl (show (orT[5]?).join = some 0 from rfl)).trans e0
    have hc := CA.out w' hG
    generalize frame orT a0 us = fr at *
    exact val_ok (v := .agg KA.toArray) (w' := w') (loadp_runK rfl v0 KA _ hc Try.underlying25 rfl IA.out) hG (Below.refl _ _) rfl
  · refine step_plain [] (by kernel_rfl) rfl fun us w' hG hV => ?_
    have o3 := (frame_old2 (us := us) (a := a0) (show (orT[3]?).join = none from rfl)).trans k3
    generalize frame orT a0 us = fr at *
    exact val_ok (v := .pointer (some ⟨w.heap.size + 1, 0, none⟩)) (w' := w') (by go_simp) hG (Below.refl _ _) rfl
  · refine step_plain [2] (by kernel_rfl) rfl fun us w' hG hV => ?_
    have e2 : us 2 = .pointer (some ⟨w.heap.size + 1, 0, none⟩) := hV 2 (by simp)
    have v2 := (frame_at2 (us := us) hl (show (orT[7]?).join = some 2 from rfl)).trans e2
    have hc := CB.out w' hG
    generalize frame orT a0 us = fr at *
    exact val_ok (v := .agg KB.toArray) (w' := w') (loadp_runK rfl v2 KB _ hc Try.underlying25 rfl IB.out) hG (Below.refl _ _) rfl
  · refine step_plain [1, 3] (by kernel_rfl) rfl fun us w' hG hV => ?_
    have e1 : us 1 = .agg KA.toArray := hV 1 (by simp)
    have v1 := (frame_at2 (us := us) hl (show (orT[6]?).join = some 1 from rfl)).trans e1
    have e3 : us 3 = .agg KB.toArray := hV 3 (by simp)
    have v3 := (frame_at2 (us := us) hl (show (orT[8]?).join = some 3 from rfl)).trans e3
    generalize frame orT a0 us = fr at *
    exact call_ok (f := 34) (args := #[.agg KA.toArray, .agg KB.toArray]) (by go_simp) ((CC.out w').mono fun e w'' h => ⟨_, h.1, hG.below h.2, h.2.1, rfl⟩)
  · refine step_plain [] (by kernel_rfl) rfl fun us w' hG hV => ?_
    have o2 := (frame_old2 (us := us) (a := a0) (show (orT[2]?).join = none from rfl)).trans k2
    generalize frame orT a0 us = fr at *
    exact val_ok (v := .pointer (some ⟨w.heap.size, 17, none⟩)) (w' := w') (by go_simp) hG (Below.refl _ _) rfl
  · refine step_plain [5] (by kernel_rfl) rfl fun us w' hG hV => ?_
    have e5 : us 5 = .pointer (some ⟨w.heap.size, 17, none⟩) := hV 5 (by simp)
    have v5 := (frame_at2 (us := us) hl (show (orT[10]?).join = some 5 from rfl)).trans e5
    have hc := CL.out w' hG
    generalize frame orT a0 us = fr at *
    exact val_ok (v := .int .i64 la) (w' := w') (by go_simp) hG (Below.refl _ _) rfl
  · refine step_plain [] (by kernel_rfl) rfl fun us w' hG hV => ?_
    have o3 := (frame_old2 (us := us) (a := a0) (show (orT[3]?).join = none from rfl)).trans k3
    generalize frame orT a0 us = fr at *
    exact val_ok (v := .pointer (some ⟨w.heap.size + 1, 17, none⟩)) (w' := w') (by go_simp) hG (Below.refl _ _) rfl
  · refine step_plain [7] (by kernel_rfl) rfl fun us w' hG hV => ?_
    have e7 : us 7 = .pointer (some ⟨w.heap.size + 1, 17, none⟩) := hV 7 (by simp)
    have v7 := (frame_at2 (us := us) hl (show (orT[12]?).join = some 7 from rfl)).trans e7
    have hc := DL.out w' hG
    generalize frame orT a0 us = fr at *
    exact val_ok (v := .int .i64 lb) (w' := w') (by go_simp) hG (Below.refl _ _) rfl
  · refine step_plain [6, 8] (by kernel_rfl) rfl fun us w' hG hV => ?_
    have e6 : us 6 = .int .i64 la := hV 6 (by simp)
    have v6 := (frame_at2 (us := us) hl (show (orT[11]?).join = some 6 from rfl)).trans e6
    have e8 : us 8 = .int .i64 lb := hV 8 (by simp)
    have v8 := (frame_at2 (us := us) hl (show (orT[13]?).join = some 8 from rfl)).trans e8
    generalize frame orT a0 us = fr at *
    exact call_ok (f := 35) (args := #[.int .i64 la, .int .i64 lb]) (by go_simp) ((CI.out w').mono fun e w'' h => ⟨_, h.1, hG.below h.2, h.2.1, rfl⟩)
  · refine step_plain [4, 9] (by kernel_rfl) rfl fun us w' hG hV => ?_
    have e4 : us 4 = .int .i64 c := hV 4 (by simp)
    have v4 := (frame_at2 (us := us) hl (show (orT[9]?).join = some 4 from rfl)).trans e4
    have e9 : us 9 = .int .i64 d := hV 9 (by simp)
    have v9 := (frame_at2 (us := us) hl (show (orT[14]?).join = some 9 from rfl)).trans e9
    generalize frame orT a0 us = fr at *
    exact val_ok (v := .slice (some ⟨w'.heap.size, 0, none⟩) 2 2) (w' := w'.alloc (.cells #[.int .i64 c, .int .i64 d] 3)) (by go_simp) (hG.below ⟨alloc_below _ _, Nat.le_refl _⟩) (alloc_below _ _) ⟨_, rfl, heap_alloc_new _ _⟩
  · refine step_plain [10] (by kernel_rfl) rfl fun us w' hG hV => ?_
    obtain ⟨q10, e10, r10⟩ := (show ∃ q, us 10 = .slice (some ⟨q, 0, none⟩) 2 2 ∧ w'.heap[q]? = some (.cells #[.int .i64 c, .int .i64 d] 3 (0, 0)) from hV 10 (by simp))
    have v10 := (frame_at2 (us := us) hl (show (orT[15]?).join = some 10 from rfl)).trans e10
    generalize frame orT a0 us = fr at *
    exact call_ok (f := 33) (args := #[.slice (some ⟨q10, 0, none⟩) 2 2]) (by go_simp) ((CO.out q10 w' r10).mono fun e w'' h => ⟨_, h.1, hG.below h.2, h.2.1, rfl⟩)
  · refine step_plain [11] (by kernel_rfl) rfl fun us w' hG hV => ?_
    have e11 : us 11 = .int .i64 r := hV 11 (by simp)
    have v11 := (frame_at2 (us := us) hl (show (orT[16]?).join = some 11 from rfl)).trans e11
    generalize frame orT a0 us = fr at *
    exact val_ok (v := .int .i64 r) (w' := w') (by go_simp) hG (Below.refl _ _) rfl
  · intro us w' hG hV
    have eL : us 12 = .int .i64 r := hV 12 (by decide)
    subst ha0
    simp only [frame, orT, fill]
    rw [eL]
    go_wp2_with fail
    go_ret
    exact ⟨rfl, HB_W.out.1.trans (hG.1.mono HB_W.out.1.size), Nat.le_trans HB_W.out.2 hG.2⟩
end Go.Proofs.Ytjdenhkicikfkaa.rtC
