/-
  1 texts of a proof, joined.
-/
import Derived.Test.YtjdenhkicikfkaaMg8
import Derived.Test.YtjdenhkicikfkaaMg11

/-
  The program's addresses: which one is ahead.
-/
namespace Go.Proofs.Ytjdenhkicikfkaa.adC
open Go.ChangeShapes Go.WideShapes Go.ChangeAt Go.RowKit
open Go.Proofs.Ytjdenhkicikfkaa.memC Go.Proofs.Ytjdenhkicikfkaa.genC Go.Proofs.Ytjdenhkicikfkaa.butC Go.Proofs.Ytjdenhkicikfkaa.freeC Go.Proofs.Ytjdenhkicikfkaa.txC
set_option linter.unusedVariables false
/-- which of two addresses is ahead -/
def cmpV (s : Bool) (a : List Int) (s' : Bool) (b : List Int) : Int := if s = s' then lexL (adrL s a) (adrL s' b) else if s' then -1 else 1
theorem adrL_byte {s : Bool} {b : List Int} (h : ∀ x ∈ b, Byte x) : ∀ x ∈ adrL s b, Byte x := fun x hx => h x (List.mem_of_mem_take hx)
theorem adr_row {w : World} {g : Nat} {s : Bool} {b : List Int} (hb : b.length = 16) (h : w.heap[g]? = some (.cells (adrV s b) 25 (0, 0))) : Nums .u8 w w.heap.size (some ⟨g, 1, none⟩) (adrN s) (adrL s b) :=
  ⟨adrL_len hb, fun _ => ⟨g, 1, rfl, lt_of_row h, fun i hi => by
    have := adrN_le s
    rw [cell_of_row w g (1 + i) _ _ (0, 0) h, adrV_at (by omega)]
    unfold adrL
    rw [List.getD_eq_getElem?_getD, List.getD_eq_getElem?_getD, List.getElem?_take, if_pos hi]⟩⟩
def cv4V (g0 g1 : Nat) (CA CB : Array Value) (r : Int) : Nat → Value → World → Prop
  | 0, v, _ => v = .pointer (some ⟨g0, 1, none⟩)
  | 1, v, _ => v = .agg CA
  | 2, v, _ => v = .int .i64 4
  | 3, v, _ => v = .slice (some ⟨g0, 1, none⟩) 4 16
  | 4, v, _ => v = .pointer (some ⟨g1, 1, none⟩)
  | 5, v, _ => v = .agg CB
  | 6, v, _ => v = .int .i64 4
  | 7, v, _ => v = .slice (some ⟨g1, 1, none⟩) 4 16
  | 8, v, _ => v = .int .i64 r
  | 9, v, _ => v = .int .i64 r
  | _, _, _ => True
theorem cv4V.keep (g0 g1 : Nat) (CA CB : Array Value) (r : Int) (i : Nat) (v : Value) (w w' : World) (hb : Below w.heap.size w w') (h : cv4V g0 g1 CA CB r i v w) : cv4V g0 g1 CA CB r i v w' := by
  unfold cv4V at h ⊢
  split at h <;> exact h
def cv4T : List (Option Nat) := [none, none, none, none, some 9, none, none, none, none, none, none, some 0, some 1, some 2, some 3, some 4, some 5, some 6, some 7, some 8, none, none, none]
def cv16V (g0 g1 : Nat) (CA CB : Array Value) (r : Int) : Nat → Value → World → Prop
  | 0, v, _ => v = .pointer (some ⟨g0, 1, none⟩)
  | 1, v, _ => v = .agg CA
  | 2, v, _ => v = .int .i64 16
  | 3, v, _ => v = .slice (some ⟨g0, 1, none⟩) 16 16
  | 4, v, _ => v = .pointer (some ⟨g1, 1, none⟩)
  | 5, v, _ => v = .agg CB
  | 6, v, _ => v = .int .i64 16
  | 7, v, _ => v = .slice (some ⟨g1, 1, none⟩) 16 16
  | 8, v, _ => v = .int .i64 r
  | 9, v, _ => v = .int .i64 r
  | _, _, _ => True
theorem cv16V.keep (g0 g1 : Nat) (CA CB : Array Value) (r : Int) (i : Nat) (v : Value) (w w' : World) (hb : Below w.heap.size w w') (h : cv16V g0 g1 CA CB r i v w) : cv16V g0 g1 CA CB r i v w' := by
  unfold cv16V at h ⊢
  split at h <;> exact h
def cv16T : List (Option Nat) := [none, none, none, none, some 9, none, none, none, none, none, none, some 0, some 1, some 2, some 3, some 4, some 5, some 6, some 7, some 8, none, none, none]
set_option maxRecDepth 100000 in
set_option maxHeartbeats 2000000 in
theorem comp_any (s s' : Bool) (a b : List Int) (w : World) (ha : a.length = 16) (hb : b.length = 16) (ya : ∀ x ∈ a, Byte x) (yb : ∀ x ∈ b, Byte x) :
    Calls Try.prog 34 #[.agg (adrV s a), .agg (adrV s' b)] w (Ret w (.int .i64 (cmpV s a s' b))) := by
  have e1 : (w.alloc (.cells (adrV s a) 25)).heap.size = w.heap.size + 1 := alloc_size _ _
  obtain ⟨W, hW⟩ : ∃ W, W = (w.alloc (.cells (adrV s a) 25)).alloc (.cells (adrV s' b) 25) := ⟨_, rfl⟩
  have R0_W := Lib.hid (show W.heap[w.heap.size]? = some (.cells (adrV s a) 25 (0, 0)) by rw [hW, Below.block (alloc_below _ _) _ (by rw [e1]; omega)]; exact heap_alloc_new w _)
  have R1_W := Lib.hid (show W.heap[w.heap.size + 1]? = some (.cells (adrV s' b) 25 (0, 0)) by rw [hW, ← e1]; exact heap_alloc_new _ _)
  have HB_W := Lib.hid (show Below w.heap.size w W by rw [hW]; exact ((Below.refl _ _).alloc (Nat.le_refl _) _).alloc (by simp) _)
  have k0 : W.cell? ⟨w.heap.size, 0, none⟩ = some (.bool s) := by rw [cell_of_row W w.heap.size 0 _ _ (0, 0) R0_W.out]; exact adrV_six _ _
  have k1 : W.cell? ⟨w.heap.size + 1, 0, none⟩ = some (.bool s') := by rw [cell_of_row W (w.heap.size + 1) 0 _ _ (0, 0) R1_W.out]; exact adrV_six _ _
  have I0 := Lib.hid (adr_info s ha)
  have I1 := Lib.hid (adr_info s' hb)
  by_cases hs : s = s'
  · subst hs
    have hv : cmpV s a s b = lexL (adrL s a) (adrL s b) := by unfold cmpV; rw [if_pos rfl]
    rw [hv]
    have CC0 := Lib.hid (fun w' (hG : Gr W w') (n : Nat) (hn : n = adrN s) => (show Calls Try.prog 39 #[.slice (some ⟨w.heap.size, 1, none⟩) n 16, .slice (some ⟨w.heap.size + 1, 1, none⟩) n 16] w' (Ret w' (.int .i64 (lexL (adrL s a) (adrL s b)))) by
      subst hn
      exact (bcomp_any _ _ _ _ 16 16 _ _ w' (adr_row ha (hG.row R0_W.out)) (adr_row hb (hG.row R1_W.out)) (adrL_byte ya) (adrL_byte yb)).mono fun e w'' h => ⟨h.1, by rw [h.2]; exact Below.refl _ _⟩))
    generalize lexL (adrL s a) (adrL s b) = r at *
    have ZA := Lib.hid (fun w' (z : Int) (hz : z = (adrN s : Int)) => csize_any s a w' ha z hz)
    have ZB := Lib.hid (fun w' (z : Int) (hz : z = (adrN s : Int)) => csize_any s b w' hb z hz)
    generalize adrV s a = CA at *
    generalize adrV s b = CB at *
    clear ha hb ya yb e1 hv
    cases s
    · have CC := Lib.hid (fun w' hG => CC0.out w' hG 4 rfl)
      have Z0 := Lib.hid (fun w' => ZA.out w' 4 rfl)
      have Z1 := Lib.hid (fun w' => ZB.out w' 4 rfl)
      clear CC0 ZA ZB
      go_enter Try.func34, Try.ntmps34
      go_upto_region 1 with fail
      rw [← hW]
      clear hW
      go_upto_region 2 with fail
      refine with_act fun a0 ha0 => ?_
      have hl : cv4T.length = a0.tmps.size := by rw [ha0]; rfl
      have k2 : a0.tmps[2]?.getD undef = .pointer (some ⟨w.heap.size, 0, none⟩) := by rw [ha0]; rfl
      have k3 : a0.tmps[3]?.getD undef = .pointer (some ⟨(w.heap.size + 1), 0, none⟩) := by rw [ha0]; rfl
      refine wp_region_vals (by kernel_rfl) cv4T (by kernel_rfl) (by kernel_rfl) hl (fun i => if i = 9 then .int .i64 0 else undef) (by rw [ha0]; rfl) (Gr W) (cv4V w.heap.size (w.heap.size + 1) CA CB r) (gr_drew _) (cv4V.keep _ _ _ _ _) ⟨?_, ?_, ?_, ?_, ?_, ?_, ?_, ?_, ?_, ?_, trivial⟩ ?_
      · refine step_plain [] (by kernel_rfl) rfl fun us w' hG hV => ?_
        have o2 := (frame_old2 (us := us) (a := a0) (show (cv4T[2]?).join = none from rfl)).trans k2
        generalize frame cv4T a0 us = fr at *
        exact val_ok (v := .pointer (some ⟨w.heap.size, 1, none⟩)) (w' := w') (by go_simp) hG (Below.refl _ _) rfl
      · refine step_plain [] (by kernel_rfl) rfl fun us w' hG hV => ?_
        have o2 := (frame_old2 (us := us) (a := a0) (show (cv4T[2]?).join = none from rfl)).trans k2
        have hg1 := hG.row R0_W.out
        generalize frame cv4T a0 us = fr at *
        exact load_ok 25 2 rfl (w.heap.size) o2 _ _ (0, 0) _ hg1 Try.underlying25 rfl I0.out hG rfl
      · refine step_plain [1] (by kernel_rfl) rfl fun us w' hG hV => ?_
        have e1 : us 1 = .agg CA := hV 1 (by simp)
        have v1 := (frame_at2 (us := us) hl (show (cv4T[12]?).join = some 1 from rfl)).trans e1
        generalize frame cv4T a0 us = fr at *
        exact call_ok (f := 29) (args := #[.agg CA]) (by go_simp) ((Z0.out w').mono fun e w'' h => ⟨_, h.1, hG.below h.2, h.2, rfl⟩)
      · refine step_plain [0, 2] (by kernel_rfl) rfl fun us w' hG hV => ?_
        have e0 : us 0 = .pointer (some ⟨w.heap.size, 1, none⟩) := hV 0 (by simp)
        have v0 := (frame_at2 (us := us) hl (show (cv4T[11]?).join = some 0 from rfl)).trans e0
        have e2 : us 2 = .int .i64 4 := hV 2 (by simp)
        have v2 := (frame_at2 (us := us) hl (show (cv4T[13]?).join = some 2 from rfl)).trans e2
        generalize frame cv4T a0 us = fr at *
        exact val_ok (v := .slice (some ⟨w.heap.size, 1, none⟩) 4 16) (w' := w') (by go_simp) hG (Below.refl _ _) rfl
      · refine step_plain [] (by kernel_rfl) rfl fun us w' hG hV => ?_
        have o3 := (frame_old2 (us := us) (a := a0) (show (cv4T[3]?).join = none from rfl)).trans k3
        generalize frame cv4T a0 us = fr at *
        exact val_ok (v := .pointer (some ⟨(w.heap.size + 1), 1, none⟩)) (w' := w') (by go_simp) hG (Below.refl _ _) rfl
      · refine step_plain [] (by kernel_rfl) rfl fun us w' hG hV => ?_
        have o3 := (frame_old2 (us := us) (a := a0) (show (cv4T[3]?).join = none from rfl)).trans k3
        have hg1 := hG.row R1_W.out
        generalize frame cv4T a0 us = fr at *
        exact load_ok 25 3 rfl ((w.heap.size + 1)) o3 _ _ (0, 0) _ hg1 Try.underlying25 rfl I1.out hG rfl
      · refine step_plain [5] (by kernel_rfl) rfl fun us w' hG hV => ?_
        have e5 : us 5 = .agg CB := hV 5 (by simp)
        have v5 := (frame_at2 (us := us) hl (show (cv4T[16]?).join = some 5 from rfl)).trans e5
        generalize frame cv4T a0 us = fr at *
        exact call_ok (f := 29) (args := #[.agg CB]) (by go_simp) ((Z1.out w').mono fun e w'' h => ⟨_, h.1, hG.below h.2, h.2, rfl⟩)
      · refine step_plain [4, 6] (by kernel_rfl) rfl fun us w' hG hV => ?_
        have e4 : us 4 = .pointer (some ⟨(w.heap.size + 1), 1, none⟩) := hV 4 (by simp)
        have v4 := (frame_at2 (us := us) hl (show (cv4T[15]?).join = some 4 from rfl)).trans e4
        have e6 : us 6 = .int .i64 4 := hV 6 (by simp)
        have v6 := (frame_at2 (us := us) hl (show (cv4T[17]?).join = some 6 from rfl)).trans e6
        generalize frame cv4T a0 us = fr at *
        exact val_ok (v := .slice (some ⟨(w.heap.size + 1), 1, none⟩) 4 16) (w' := w') (by go_simp) hG (Below.refl _ _) rfl
      · refine step_plain [3, 7] (by kernel_rfl) rfl fun us w' hG hV => ?_
        have e3 : us 3 = .slice (some ⟨w.heap.size, 1, none⟩) 4 16 := hV 3 (by simp)
        have v3 := (frame_at2 (us := us) hl (show (cv4T[14]?).join = some 3 from rfl)).trans e3
        have e7 : us 7 = .slice (some ⟨(w.heap.size + 1), 1, none⟩) 4 16 := hV 7 (by simp)
        have v7 := (frame_at2 (us := us) hl (show (cv4T[18]?).join = some 7 from rfl)).trans e7
        generalize frame cv4T a0 us = fr at *
        exact call_ok (f := 39) (args := #[.slice (some ⟨w.heap.size, 1, none⟩) 4 16, .slice (some ⟨(w.heap.size + 1), 1, none⟩) 4 16]) (by go_simp) ((CC.out w' hG).mono fun e w'' h => ⟨_, h.1, hG.below h.2, h.2, rfl⟩)
      · refine step_plain [8] (by kernel_rfl) rfl fun us w' hG hV => ?_
        have e8 : us 8 = .int .i64 r := hV 8 (by simp)
        have v8 := (frame_at2 (us := us) hl (show (cv4T[19]?).join = some 8 from rfl)).trans e8
        generalize frame cv4T a0 us = fr at *
        exact val_ok (v := .int .i64 r) (w' := w') (by go_simp) hG (Below.refl _ _) rfl
      · intro us w' hG hV
        have eL : us 9 = .int .i64 r := hV 9 (by decide)
        subst ha0
        simp only [frame, cv4T, fill]
        rw [eL]
        go_wp2_with fail
        go_ret
        exact ⟨rfl, HB_W.out.trans (hG.mono HB_W.out.size)⟩
    · have CC := Lib.hid (fun w' hG => CC0.out w' hG 16 rfl)
      have Z0 := Lib.hid (fun w' => ZA.out w' 16 rfl)
      have Z1 := Lib.hid (fun w' => ZB.out w' 16 rfl)
      clear CC0 ZA ZB
      go_enter Try.func34, Try.ntmps34
      go_upto_region 1 with fail
      rw [← hW]
      clear hW
      go_upto_region 2 with fail
      refine with_act fun a0 ha0 => ?_
      have hl : cv16T.length = a0.tmps.size := by rw [ha0]; rfl
      have k2 : a0.tmps[2]?.getD undef = .pointer (some ⟨w.heap.size, 0, none⟩) := by rw [ha0]; rfl
      have k3 : a0.tmps[3]?.getD undef = .pointer (some ⟨(w.heap.size + 1), 0, none⟩) := by rw [ha0]; rfl
      refine wp_region_vals (by kernel_rfl) cv16T (by kernel_rfl) (by kernel_rfl) hl (fun i => if i = 9 then .int .i64 0 else undef) (by rw [ha0]; rfl) (Gr W) (cv16V w.heap.size (w.heap.size + 1) CA CB r) (gr_drew _) (cv16V.keep _ _ _ _ _) ⟨?_, ?_, ?_, ?_, ?_, ?_, ?_, ?_, ?_, ?_, trivial⟩ ?_
      · refine step_plain [] (by kernel_rfl) rfl fun us w' hG hV => ?_
        have o2 := (frame_old2 (us := us) (a := a0) (show (cv16T[2]?).join = none from rfl)).trans k2
        generalize frame cv16T a0 us = fr at *
        exact val_ok (v := .pointer (some ⟨w.heap.size, 1, none⟩)) (w' := w') (by go_simp) hG (Below.refl _ _) rfl
      · refine step_plain [] (by kernel_rfl) rfl fun us w' hG hV => ?_
        have o2 := (frame_old2 (us := us) (a := a0) (show (cv16T[2]?).join = none from rfl)).trans k2
        have hg1 := hG.row R0_W.out
        generalize frame cv16T a0 us = fr at *
        exact load_ok 25 2 rfl (w.heap.size) o2 _ _ (0, 0) _ hg1 Try.underlying25 rfl I0.out hG rfl
      · refine step_plain [1] (by kernel_rfl) rfl fun us w' hG hV => ?_
        have e1 : us 1 = .agg CA := hV 1 (by simp)
        have v1 := (frame_at2 (us := us) hl (show (cv16T[12]?).join = some 1 from rfl)).trans e1
        generalize frame cv16T a0 us = fr at *
        exact call_ok (f := 29) (args := #[.agg CA]) (by go_simp) ((Z0.out w').mono fun e w'' h => ⟨_, h.1, hG.below h.2, h.2, rfl⟩)
      · refine step_plain [0, 2] (by kernel_rfl) rfl fun us w' hG hV => ?_
        have e0 : us 0 = .pointer (some ⟨w.heap.size, 1, none⟩) := hV 0 (by simp)
        have v0 := (frame_at2 (us := us) hl (show (cv16T[11]?).join = some 0 from rfl)).trans e0
        have e2 : us 2 = .int .i64 16 := hV 2 (by simp)
        have v2 := (frame_at2 (us := us) hl (show (cv16T[13]?).join = some 2 from rfl)).trans e2
        generalize frame cv16T a0 us = fr at *
        exact val_ok (v := .slice (some ⟨w.heap.size, 1, none⟩) 16 16) (w' := w') (by go_simp) hG (Below.refl _ _) rfl
      · refine step_plain [] (by kernel_rfl) rfl fun us w' hG hV => ?_
        have o3 := (frame_old2 (us := us) (a := a0) (show (cv16T[3]?).join = none from rfl)).trans k3
        generalize frame cv16T a0 us = fr at *
        exact val_ok (v := .pointer (some ⟨(w.heap.size + 1), 1, none⟩)) (w' := w') (by go_simp) hG (Below.refl _ _) rfl
      · refine step_plain [] (by kernel_rfl) rfl fun us w' hG hV => ?_
        have o3 := (frame_old2 (us := us) (a := a0) (show (cv16T[3]?).join = none from rfl)).trans k3
        have hg1 := hG.row R1_W.out
        generalize frame cv16T a0 us = fr at *
        exact load_ok 25 3 rfl ((w.heap.size + 1)) o3 _ _ (0, 0) _ hg1 Try.underlying25 rfl I1.out hG rfl
      · refine step_plain [5] (by kernel_rfl) rfl fun us w' hG hV => ?_
        have e5 : us 5 = .agg CB := hV 5 (by simp)
        have v5 := (frame_at2 (us := us) hl (show (cv16T[16]?).join = some 5 from rfl)).trans e5
        generalize frame cv16T a0 us = fr at *
        exact call_ok (f := 29) (args := #[.agg CB]) (by go_simp) ((Z1.out w').mono fun e w'' h => ⟨_, h.1, hG.below h.2, h.2, rfl⟩)
      · refine step_plain [4, 6] (by kernel_rfl) rfl fun us w' hG hV => ?_
        have e4 : us 4 = .pointer (some ⟨(w.heap.size + 1), 1, none⟩) := hV 4 (by simp)
        have v4 := (frame_at2 (us := us) hl (show (cv16T[15]?).join = some 4 from rfl)).trans e4
        have e6 : us 6 = .int .i64 16 := hV 6 (by simp)
        have v6 := (frame_at2 (us := us) hl (show (cv16T[17]?).join = some 6 from rfl)).trans e6
        generalize frame cv16T a0 us = fr at *
        exact val_ok (v := .slice (some ⟨(w.heap.size + 1), 1, none⟩) 16 16) (w' := w') (by go_simp) hG (Below.refl _ _) rfl
      · refine step_plain [3, 7] (by kernel_rfl) rfl fun us w' hG hV => ?_
        have e3 : us 3 = .slice (some ⟨w.heap.size, 1, none⟩) 16 16 := hV 3 (by simp)
        have v3 := (frame_at2 (us := us) hl (show (cv16T[14]?).join = some 3 from rfl)).trans e3
        have e7 : us 7 = .slice (some ⟨(w.heap.size + 1), 1, none⟩) 16 16 := hV 7 (by simp)
        have v7 := (frame_at2 (us := us) hl (show (cv16T[18]?).join = some 7 from rfl)).trans e7
        generalize frame cv16T a0 us = fr at *
        exact call_ok (f := 39) (args := #[.slice (some ⟨w.heap.size, 1, none⟩) 16 16, .slice (some ⟨(w.heap.size + 1), 1, none⟩) 16 16]) (by go_simp) ((CC.out w' hG).mono fun e w'' h => ⟨_, h.1, hG.below h.2, h.2, rfl⟩)
      · refine step_plain [8] (by kernel_rfl) rfl fun us w' hG hV => ?_
        have e8 : us 8 = .int .i64 r := hV 8 (by simp)
        have v8 := (frame_at2 (us := us) hl (show (cv16T[19]?).join = some 8 from rfl)).trans e8
        generalize frame cv16T a0 us = fr at *
        exact val_ok (v := .int .i64 r) (w' := w') (by go_simp) hG (Below.refl _ _) rfl
      · intro us w' hG hV
        have eL : us 9 = .int .i64 r := hV 9 (by decide)
        subst ha0
        simp only [frame, cv16T, fill]
        rw [eL]
        go_wp2_with fail
        go_ret
        exact ⟨rfl, HB_W.out.trans (hG.mono HB_W.out.size)⟩
  · have hne : (s == s') = false := by cases s <;> cases s' <;> first | rfl | exact absurd rfl hs
    generalize adrV s a = CA at *
    generalize adrV s' b = CB at *
    cases s'
    · have hv : cmpV s a false b = 1 := by unfold cmpV; rw [if_neg hs]; rfl
      rw [hv]
      clear ha hb ya yb e1 hv hs
      go_enter Try.func34, Try.ntmps34
      go_upto_region 1 with fail
      rw [← hW]
      clear hW
      go_wp2_with fail
      go_ret
      exact ⟨rfl, HB_W.out⟩
    · have hv : cmpV s a true b = -1 := by unfold cmpV; rw [if_neg hs]; rfl
      rw [hv]
      clear ha hb ya yb e1 hv hs
      go_enter Try.func34, Try.ntmps34
      go_upto_region 1 with fail
      rw [← hW]
      clear hW
      go_wp2_with fail
      go_ret
      exact ⟨rfl, HB_W.out⟩
end Go.Proofs.Ytjdenhkicikfkaa.adC
