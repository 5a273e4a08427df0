/-
  1 texts of a proof, joined.
-/
import Derived.Test.YtniimgbljhmcoaaDoorMg39
import Derived.Test.YtniimgbljhmcoaaDoorMg36

/-
  The walk of SegTurns.
-/
namespace Go.Proofs.YtniimgbljhmcoaaDoor.sgC
open Go.ChangeShapes Go.WideShapes Go.ChangeAt Go.RowKit
open Go.Proofs.YtniimgbljhmcoaaDoor.memC Go.Proofs.YtniimgbljhmcoaaDoor.genC Go.Proofs.YtniimgbljhmcoaaDoor.butC Go.Proofs.YtniimgbljhmcoaaDoor.freeC Go.Proofs.YtniimgbljhmcoaaDoor.adC
open Go.Proofs.YtniimgbljhmcoaaDoor.opC (Kd Prs zOpt zOpt_ok U32 OwnP gr_drewG)
set_option linter.unusedVariables false
theorem cut_in {l : List Int} (h : ∀ x ∈ l, Byte x) (i j : Nat) : ∀ x ∈ (l.take i).drop j, Byte x := fun x hx => h x (List.mem_of_mem_take (List.mem_of_mem_drop hx))
def tuV (g0 g7 g9 : Nat) (CP CX : Array Value) (ok : Bool) (g z : Int) (sT : Sg) (A : Option Addr) (n c : Nat) (sk : List (Int × Int)) (XT : List Int) (base : Nat) : Nat → Value → World → Prop
  | 0, v, _ => v = .agg CX
  | 1, v, _ => v = .agg CX
  | 2, v, _ => v = .bool true
  | 3, v, _ => v = .bool true
  | 4, v, _ => v = .bool ok
  | 5, v, _ => v = .bool ok
  | 6, v, _ => v = .bool true
  | 7, v, _ => v = .bool true
  | 8, v, _ => v = .bool true
  | 9, v, _ => v = .agg CP
  | 10, v, _ => v = .int .u32 g
  | 11, v, _ => v = .int .u32 z
  | 12, v, w => ∃ A' c' B' m' d' p', v = .agg (segV sT A' n c' B' m' d') ∧ OwnP w base (.slice A' n c') sk ∧ Own .u8 5 w base (.slice B' m' p') XT
  | 13, v, _ => v = .agg CP
  | 14, v, _ => v = .int .u32 g
  | 15, v, _ => v = .int .u32 z
  | 16, v, w => ∃ B' m' d', v = .agg (segV sT A n c B' m' d') ∧ Nums .u8 w w.heap.size B' m' XT
  | 17, v, _ => v = .bool true
  | 18, v, _ => v = .bool true
  | 19, v, _ => v = .bool true
  | 20, v, _ => v = .bool true
  | 21, v, _ => v = .bool true
  | 22, v, _ => v = .bool true
  | _, _, _ => True
theorem tuV.keep (g0 g7 g9 : Nat) (CP CX : Array Value) (ok : Bool) (g z : Int) (sT : Sg) (A : Option Addr) (n c : Nat) (sk : List (Int × Int)) (XT : List Int) (base : Nat) (i : Nat) (v : Value) (w w' : World) (hb : Below w.heap.size w w') (h : tuV g0 g7 g9 CP CX ok g z sT A n c sk XT base i v w) : tuV g0 g7 g9 CP CX ok g z sT A n c sk XT base i v w' := by
  by_cases e12 : i = 12
  · subst e12
    obtain ⟨A', c', B', m', d', p', h1, h2, h3⟩ := h
    exact ⟨A', c', B', m', d', p', h1, h2.below hb, h3.below hb⟩
  by_cases e16 : i = 16
  · subst e16
    obtain ⟨B', m', d', h1, h2⟩ := h
    exact ⟨B', m', d', h1, (h2.below hb).more hb.size⟩
  unfold tuV at h ⊢
  split at h <;> first | exact h | exact absurd rfl (by assumption)
def tuT : List (Option Nat) := [none, none, none, none, none, none, some 22, none, none, none, none, none, none, none, none, none, none, none, none, none, none, none, none, none, none, none, none, none, none, none, some 0, some 1, some 2, some 3, some 4, some 5, some 6, some 7, some 8, some 9, some 10, some 11, some 12, some 13, some 14, some 15, some 16, some 17, some 18, some 19, some 20, some 21]
set_option maxRecDepth 100000 in
set_option maxHeartbeats 8000000 in
theorem turns_walk (s : Sg) (A : Option Addr) (n c : Nat) (B : Option Addr) (m d : Nat) (xs : List Int) (g z : Int) (w : World) (hk : Kd w) (hs : s.Ok) (hA : Prs w w.heap.size A n s.op.sk) (hx : Nums .u8 w w.heap.size B m xs) (hy : ∀ x ∈ xs, Byte x) (hmd : m ≤ d) (hg : U32 g) (hz : U32 z) :
    Calls Tryd.prog 5 #[.agg (segV s A n c B m d), .int .u32 g, .int .u32 z] w (Ret w (.bool true)) := by
  have hzv := zeroSeg
  have hn := hA.len
  obtain ⟨W, hW⟩ : ∃ W, W = w.alloc (.cells (segV s A n c B m d) 34) := ⟨_, rfl⟩
  have HB_W := Lib.hid (show Below w.heap.size w W by rw [hW]; exact alloc_below _ _)
  have R_W := Lib.hid (show W.heap[w.heap.size]? = some (.cells (segV s A n c B m d) 34 (0, 0)) by rw [hW]; exact heap_alloc_new _ _)
  have AL0 := Lib.hid (fun (w' : World) (h : Below w.heap.size w w') => alive_any w' (hk.bel h))
  have IC := Lib.hid (segC hs.op.lm A n c B m d).info
  have FA := Lib.hid (fun w' => far_any s A n c B m d w' hs.op.lm)
  have KD := Lib.hid (fun (w' : World) (h : w'.heap[w.heap.size]? = some (.cells (segV s A n c B m d) 34 (0, 0))) => pkC.PkC.cell h (segC hs.op.lm A n c B m d).da)
  obtain ⟨fb, hfb⟩ : ∃ f, farB m n = f := ⟨_, rfl⟩
  rw [hfb] at FA
  have RC0 := Lib.hid (fun (hm : m ≤ 100000) (w' : World) => crst_any s A n c B m d w' hs.op.lm hs.fl hm)
  have RR0 := Lib.hid (fun (hm : m ≤ 100000) (w' : World) => rrst_any s A n c B m d w' hs.op.lm hs.fl hm)
  have TC0 := Lib.hid (fun (hn' : n ≤ 100000) (hm : m ≤ 100000) (w' : World) (h : Below w.heap.size w w') => ctrim_any s A n c B m d xs g z w' hs ((hA.below h).more h.size) hn' ((hx.below h).more h.size) hm hmd hg hz)
  have TR0 := Lib.hid (fun (hm : m ≤ 100000) (w' : World) (h : Below w.heap.size w w') => rtrim_any s A n c B m d xs g z w' hs ((hx.below h).more h.size) hm hmd hg hz)
  have HMR := Lib.hid (show (rstP s m).1.op.mac.length = 12 by unfold rstP; split; exact zOpt_ok.lm; split <;> exact zOpt_ok.lm)
  have HSR := Lib.hid (show (rstP s m).1.op.sk = [] by unfold rstP; split; rfl; split <;> rfl)
  obtain ⟨sR, hsR⟩ : ∃ q, q = (rstP s m).1 := ⟨_, rfl⟩
  obtain ⟨ok, hok⟩ : ∃ q, q = (rstP s m).2 := ⟨_, rfl⟩
  unfold RstR at RC0 RR0
  simp only [← hsR, ← hok] at RC0 RR0 HMR HSR
  clear hsR hok
  have IX := Lib.hid (segC HMR.out none 0 0 none 0 0).info
  have SXZ := Lib.hid (seg_size (s := zSg) (s' := sR) zOpt_ok.lm HMR.out none none 0 0 0 0 none none 0 0 0 0)
  have OX := Lib.hid (seg_one sR none 0 0 none 0 0)
  have SX := Lib.hid (fun (w' : World) => (show Calls Tryd.prog 18 #[.agg (segV sR none 0 0 none 0 0), .agg (segV sR none 0 0 none 0 0)] w' (Ret w' (.bool true)) by
    have h9 := rsame_any sR sR none none 0 0 0 0 none none 0 0 0 0 [] [] w' HMR.out HMR.out (by rw [HSR.out]; exact Prs.none_) (by rw [HSR.out]; exact Prs.none_) (by decide) (by decide) (Nums.none_ 0) (Nums.none_ 0) (by simp) (by simp)
    rw [sameS_self] at h9
    exact h9))
  obtain ⟨sT, hsT⟩ : ∃ q, q = trimS s m g z := ⟨_, rfl⟩
  obtain ⟨XT, hXT⟩ : ∃ q, q = trimL s xs g z := ⟨_, rfl⟩
  have HMT := Lib.hid (show sT.op.mac.length = 12 by rw [hsT]; exact hs.op.lm)
  have HST := Lib.hid (show sT.op.sk = s.op.sk by rw [hsT]; rfl)
  have HYT := Lib.hid (show ∀ x ∈ XT, Byte x by rw [hXT]; exact cut_in hy _ _)
  rw [← hsT, ← hXT] at TC0 TR0
  clear hsT hXT
  have SM0 := Lib.hid (fun (hn' : n ≤ 100000) (A' : Option Addr) (c' : Nat) (B' : Option Addr) (m' d' : Nat) (B'' : Option Addr) (m'' d'' : Nat) (w' : World) (h : Below w.heap.size w w') (P : Prs w' w'.heap.size A' n s.op.sk) (X1 : Nums .u8 w' w'.heap.size B' m' XT) (X2 : Nums .u8 w' w'.heap.size B'' m'' XT) => (show Calls Tryd.prog 18 #[.agg (segV sT A' n c' B' m' d'), .agg (segV sT A n c B'' m'' d'')] w' (Ret w' (.bool true)) by
    have h9 := rsame_any sT sT A' A n c' n c B' B'' m' d' m'' d'' XT XT w' HMT.out HMT.out (by rw [HST.out]; exact P) (by rw [HST.out]; exact (hA.below h).more h.size) (by omega) (by omega) X1 X2 HYT.out HYT.out
    rw [sameS_self] at h9
    exact h9))
  obtain ⟨CP, hCP⟩ : ∃ C, C = segV s A n c B m d := ⟨_, rfl⟩
  simp only [← hCP] at R_W IC FA RC0 RR0 TC0 TR0 hW KD ⊢
  clear hCP
  generalize segV zSg none 0 0 none 0 0 = ZS at *
  cases fb
  rotate_left
  · clear SX SM0 TC0 TR0 RC0 RR0 hx hy hA hs hzv
    go_enter Tryd.func5, Tryd.ntmps5
    go_upto_region 1 with fail
    rw [← hW]
    clear hW
    go_wp2_with (first
      | (refine wpList_load_rowG (by kernel_rfl) 34 (.tmp 3) rfl w.heap.size (by kernel_rfl) _ _ _ _ R_W.out Tryd.underlying34 rfl IC.out ?_)
      | (go_at_call 9; (refine (FA.out _).mono ?_); rintro e w2 ⟨rfl, BB⟩
         have HB_2 := Lib.hid (HB_W.out.trans (BB.mono HB_W.out.size))
         clear BB)
      | (go_at_call 10; (refine (AL0.out _ HB_2.out).mono ?_); rintro e w3 ⟨rfl, BB⟩
         have HB_3 := Lib.hid (HB_2.out.trans (BB.mono HB_2.out.size))
         clear BB))
    go_ret
    exact ⟨rfl, HB_3.out⟩
  have hf := farB_not hfb
  by_cases hbig : 1500 < m
  · have q0 : (1500 : Int) < (m : Int) := by omega
    have q1 : decide ((1500 : Int) < (m : Int)) = true := decide_eq_true q0
    clear SX SM0 TC0 TR0 RC0 RR0 hx hy hA hs hzv
    go_enter Tryd.func5, Tryd.ntmps5
    go_upto_region 1 with fail
    rw [← hW]
    clear hW
    go_wp2_with (first
      | (refine wpList_load_rowG (by kernel_rfl) 34 (.tmp 3) rfl w.heap.size (by kernel_rfl) _ _ _ _ R_W.out Tryd.underlying34 rfl IC.out ?_)
      | (go_at_call 9; (refine (FA.out _).mono ?_); rintro e w2 ⟨rfl, BB⟩
         have HB_2 := Lib.hid (HB_W.out.trans (BB.mono HB_W.out.size))
         have kd2 := KD.out w2 ((BB.block _ (opC.lt_of_row R_W.out)).trans R_W.out)
         clear BB)
      | (go_at_call 10; (refine (AL0.out _ HB_2.out).mono ?_); rintro e w3 ⟨rfl, BB⟩
         have HB_3 := Lib.hid (HB_2.out.trans (BB.mono HB_2.out.size))
         clear BB))
    go_ret
    exact ⟨rfl, HB_3.out⟩
  have q0 : ¬ (1500 : Int) < (m : Int) := by omega
  have q1 : decide ((1500 : Int) < (m : Int)) = false := decide_eq_false q0
  have hm9 : m ≤ 100000 := by omega
  have hn9 : n ≤ 100000 := by omega
  have RC := Lib.hid (RC0.out hm9)
  have RR := Lib.hid (RR0.out hm9)
  have TC1 := Lib.hid (TC0.out hn9 hm9)
  have TR1 := Lib.hid (TR0.out hm9)
  have SM1 := Lib.hid (SM0.out hn9)
  obtain ⟨CX, hCX⟩ : ∃ C, C = segV sR none 0 0 none 0 0 := ⟨_, rfl⟩
  simp only [← hCX] at RC RR IX SXZ OX SX
  clear SM0 TC0 TR0 RC0 RR0 hx hy hA hs hCX hf hfb hm9 hn9
  go_enter Tryd.func5, Tryd.ntmps5
  go_upto_region 1 with fail
  rw [← hW]
  clear hW
  go_upto_region 4 with (first
    | (refine wpList_load_rowG (by kernel_rfl) 34 (.tmp 3) rfl w.heap.size (by kernel_rfl) _ _ _ _ R_W.out Tryd.underlying34 rfl IC.out ?_)
    | (go_at_call 9; (refine (FA.out _).mono ?_); rintro e w2 ⟨rfl, BB⟩
       have HB_2 := Lib.hid (HB_W.out.trans (BB.mono HB_W.out.size))
       have R_2 := Lib.hid ((BB.block _ (opC.lt_of_row R_W.out)).trans R_W.out)
       have kd2 := KD.out w2 R_2.out
       clear BB)
    | (refine wpList_load_rowG (by kernel_rfl) 34 (.tmp 3) rfl w.heap.size (by kernel_rfl) _ _ _ _ R_2.out Tryd.underlying34 rfl IC.out ?_)
    | (go_at_call 23; (refine (RC.out _).mono ?_); rintro e w3 ⟨rfl, BB⟩
       have HB_3 := Lib.hid (HB_2.out.trans (BB.mono HB_2.out.size))
       have R_3 := Lib.hid ((BB.block _ (opC.lt_of_row R_2.out)).trans R_2.out)
       clear BB)
    | (refine wpList_store_row rfl 34 (.tmp 7) (.tmp 23) rfl w3.heap.size CX rfl rfl _ _ (heap_alloc_new _ _) IX.out SXZ.out OX.out ?_; rw [World.setRow_alloc_new]))
  have X_4 := Lib.hid (heap_alloc_new w3 (.cells CX 34))
  have BB := alloc_below w3 (.cells CX 34)
  have HB_4 := Lib.hid (HB_3.out.trans (BB.mono HB_3.out.size))
  have R_4 := Lib.hid ((BB.block _ (opC.lt_of_row R_3.out)).trans R_3.out)
  clear BB kd2 R_W R_2 R_3 HB_W HB_2 HB_3 FA KD
  generalize w3.alloc (.cells CX 34) = w4 at *
  generalize w3.heap.size = g7 at *
  go_upto_region 5 with (first
    | (refine wpList_load_rowG (by kernel_rfl) 34 (.tmp 3) rfl w.heap.size (by kernel_rfl) _ _ _ _ R_4.out Tryd.underlying34 rfl IC.out ?_)
    | (go_at_call 24; (refine (RR.out _).mono ?_); rintro e w5 ⟨rfl, BB⟩
       have HB_5 := Lib.hid (HB_4.out.trans (BB.mono HB_4.out.size))
       have R_5 := Lib.hid ((BB.block _ (opC.lt_of_row R_4.out)).trans R_4.out)
       have X_5 := Lib.hid ((BB.block _ (opC.lt_of_row X_4.out)).trans X_4.out)
       clear BB)
    | (refine wpList_store_row rfl 34 (.tmp 9) (.tmp 28) rfl w5.heap.size CX rfl rfl _ _ (heap_alloc_new _ _) IX.out SXZ.out OX.out ?_; rw [World.setRow_alloc_new]))
  have Y_6 := Lib.hid (heap_alloc_new w5 (.cells CX 34))
  have BB := alloc_below w5 (.cells CX 34)
  have HBr := Lib.hid (HB_5.out.trans (BB.mono HB_5.out.size))
  have R_6 := Lib.hid ((BB.block _ (opC.lt_of_row R_5.out)).trans R_5.out)
  have X_6 := Lib.hid ((BB.block _ (opC.lt_of_row X_5.out)).trans X_5.out)
  clear BB R_4 R_5 X_4 X_5 HB_4 HB_5 RC RR hzv SXZ OX
  generalize w5.alloc (.cells CX 34) = Wr at *
  generalize w5.heap.size = g9 at *
  have KP := Lib.hid (fun (w' : World) (h : Gr Wr w') => (Below.block h _ (opC.lt_of_row R_6.out)).trans R_6.out)
  have K7 := Lib.hid (fun (w' : World) (h : Gr Wr w') => (Below.block h _ (opC.lt_of_row X_6.out)).trans X_6.out)
  have K9 := Lib.hid (fun (w' : World) (h : Gr Wr w') => (Below.block h _ (opC.lt_of_row Y_6.out)).trans Y_6.out)
  have HT := Lib.hid (fun (w' : World) (h : Gr Wr w') => (show Below w.heap.size w w' from HBr.out.trans (Below.mono h HBr.out.size)))
  have TC := Lib.hid (fun (w' : World) (h : Gr Wr w') => TC1.out w' (HT.out w' h))
  unfold PtR at TC
  rw [HST.out] at TC
  have TR := Lib.hid (fun (w' : World) (h : Gr Wr w') => TR1.out w' (HT.out w' h))
  unfold FsR at TR
  have SM := Lib.hid (fun (A' : Option Addr) (c' : Nat) (B' : Option Addr) (m' d' : Nat) (B'' : Option Addr) (m'' d'' : Nat) (w' : World) (h : Gr Wr w') => SM1.out A' c' B' m' d' B'' m'' d'' w' (HT.out w' h))
  have AL := Lib.hid (fun (w' : World) (h : Gr Wr w') => AL0.out w' (HT.out w' h))
  obtain ⟨sk, hsk⟩ : ∃ q, q = s.op.sk := ⟨_, rfl⟩
  rw [← hsk] at TC SM
  clear TC1 TR1 SM1 AL0 R_6 X_6 Y_6 HST HYT hsk hn
  refine with_act fun a0 ha0 => ?_
  have hl : tuT.length = a0.tmps.size := by rw [ha0]; rfl
  have k1 : a0.tmps[1]?.getD undef = .int .u32 g := by rw [ha0]; rfl
  have k2 : a0.tmps[2]?.getD undef = .int .u32 z := by rw [ha0]; rfl
  have k3 : a0.tmps[3]?.getD undef = .pointer (some ⟨(w.heap.size), 0, none⟩) := by rw [ha0]; rfl
  have k7 : a0.tmps[7]?.getD undef = .pointer (some ⟨g7, 0, none⟩) := by rw [ha0]; rfl
  have k8 : a0.tmps[8]?.getD undef = .bool ok := by rw [ha0]; rfl
  have k9 : a0.tmps[9]?.getD undef = .pointer (some ⟨g9, 0, none⟩) := by rw [ha0]; rfl
  have k10 : a0.tmps[10]?.getD undef = .bool ok := by rw [ha0]; rfl
  refine wp_region_vals (by kernel_rfl) tuT (by kernel_rfl) (by kernel_rfl) hl (fun i => if i = 22 then .bool false else undef) (by rw [ha0]; rfl) (Gr Wr) (tuV (w.heap.size) g7 g9 CP CX ok g z sT A n c sk XT (Wr.heap.size)) (gr_drewG _ _) (tuV.keep _ _ _ _ _ _ _ _ _ _ _ _ _ _ _) ⟨?_, ?_, ?_, ?_, ?_, ?_, ?_, ?_, ?_, ?_, ?_, ?_, ?_, ?_, ?_, ?_, ?_, ?_, ?_, ?_, ?_, ?_, ?_, trivial⟩ ?_
  · refine step_plain [] (by kernel_rfl) rfl fun us w' hG hV => ?_
    have o7 := (frame_old2 (us := us) (a := a0) (show (tuT[7]?).join = none from rfl)).trans k7
    have hg1 := (K7.out w' hG)
    generalize frame tuT a0 us = fr at *
    exact load_ok 34 7 rfl (g7) o7 _ _ (0, 0) _ hg1 Tryd.underlying34 rfl IX.out hG rfl
  · refine step_plain [] (by kernel_rfl) rfl fun us w' hG hV => ?_
    have o9 := (frame_old2 (us := us) (a := a0) (show (tuT[9]?).join = none from rfl)).trans k9
    have hg1 := (K9.out w' hG)
    generalize frame tuT a0 us = fr at *
    exact load_ok 34 9 rfl (g9) o9 _ _ (0, 0) _ hg1 Tryd.underlying34 rfl IX.out hG rfl
  · refine step_plain [0, 1] (by kernel_rfl) rfl fun us w' hG hV => ?_
    have e0 : us 0 = .agg CX := hV 0 (by simp)
    have v0 := (frame_at2 (us := us) hl (show (tuT[30]?).join = some 0 from rfl)).trans e0
    have e1 : us 1 = .agg CX := hV 1 (by simp)
    have v1 := (frame_at2 (us := us) hl (show (tuT[31]?).join = some 1 from rfl)).trans e1
    generalize frame tuT a0 us = fr at *
    exact call_ok (f := 18) (args := #[.agg CX, .agg CX]) (by go_simp) ((SX.out w').mono fun e w'' h => ⟨_, h.1, hG.below h.2, h.2, rfl⟩)
  · refine step_plain [2] (by kernel_rfl) rfl fun us w' hG hV => ?_
    have e2 : us 2 = .bool true := hV 2 (by simp)
    have v2 := (frame_at2 (us := us) hl (show (tuT[32]?).join = some 2 from rfl)).trans e2
    generalize frame tuT a0 us = fr at *
    exact val_ok (v := .bool true) (w' := w') (by go_simp) hG (Below.refl _ _) rfl
  · refine step_guard [3] (by kernel_rfl) (j := 3) (t := 33) (b := true) rfl (by simp) rfl hl rfl (fun v w h => h) fun us w' hG hV => ?_
    have o8 := (frame_old2 (us := us) (a := a0) (show (tuT[8]?).join = none from rfl)).trans k8
    generalize frame tuT a0 us = fr at *
    exact val_ok (v := .bool ok) (w' := w') (by go_simp) hG (Below.refl _ _) rfl
  · refine step_guard [3] (by kernel_rfl) (j := 3) (t := 33) (b := true) rfl (by simp) rfl hl rfl (fun v w h => h) fun us w' hG hV => ?_
    have o10 := (frame_old2 (us := us) (a := a0) (show (tuT[10]?).join = none from rfl)).trans k10
    generalize frame tuT a0 us = fr at *
    exact val_ok (v := .bool ok) (w' := w') (by go_simp) hG (Below.refl _ _) rfl
  · refine step_guard [3, 4, 5] (by kernel_rfl) (j := 3) (t := 33) (b := true) rfl (by simp) rfl hl rfl (fun v w h => h) fun us w' hG hV => ?_
    have e4 : us 4 = .bool ok := hV 4 (by simp)
    have v4 := (frame_at2 (us := us) hl (show (tuT[34]?).join = some 4 from rfl)).trans e4
    have e5 : us 5 = .bool ok := hV 5 (by simp)
    have v5 := (frame_at2 (us := us) hl (show (tuT[35]?).join = some 5 from rfl)).trans e5
    generalize frame tuT a0 us = fr at *
    exact val_ok (v := .bool true) (w' := w') (by go_simp) hG (Below.refl _ _) rfl
  · refine step_plain [3, 6] (by kernel_rfl) rfl fun us w' hG hV => ?_
    have e3 : us 3 = .bool true := hV 3 (by simp)
    have v3 := (frame_at2 (us := us) hl (show (tuT[33]?).join = some 3 from rfl)).trans e3
    have e6 : us 6 = .bool true := hV 6 (by simp)
    have v6 := (frame_at2 (us := us) hl (show (tuT[36]?).join = some 6 from rfl)).trans e6
    generalize frame tuT a0 us = fr at *
    exact val_ok (v := .bool true) (w' := w') (by go_simp) hG (Below.refl _ _) rfl
  · refine step_plain [7] (by kernel_rfl) rfl fun us w' hG hV => ?_
    have e7 : us 7 = .bool true := hV 7 (by simp)
    have v7 := (frame_at2 (us := us) hl (show (tuT[37]?).join = some 7 from rfl)).trans e7
    generalize frame tuT a0 us = fr at *
    exact val_ok (v := .bool true) (w' := w') (by go_simp) hG (Below.refl _ _) rfl
  · refine step_guard [8] (by kernel_rfl) (j := 8) (t := 38) (b := true) rfl (by simp) rfl hl rfl (fun v w h => h) fun us w' hG hV => ?_
    have o3 := (frame_old2 (us := us) (a := a0) (show (tuT[3]?).join = none from rfl)).trans k3
    have hg1 := (KP.out w' hG)
    generalize frame tuT a0 us = fr at *
    exact load_ok 34 3 rfl ((w.heap.size)) o3 _ _ (0, 0) _ hg1 Tryd.underlying34 rfl IC.out hG rfl
  · refine step_guard [8] (by kernel_rfl) (j := 8) (t := 38) (b := true) rfl (by simp) rfl hl rfl (fun v w h => h) fun us w' hG hV => ?_
    have o1 := (frame_old2 (us := us) (a := a0) (show (tuT[1]?).join = none from rfl)).trans k1
    generalize frame tuT a0 us = fr at *
    exact val_ok (v := .int .u32 g) (w' := w') (by go_simp) hG (Below.refl _ _) rfl
  · refine step_guard [8] (by kernel_rfl) (j := 8) (t := 38) (b := true) rfl (by simp) rfl hl rfl (fun v w h => h) fun us w' hG hV => ?_
    have o2 := (frame_old2 (us := us) (a := a0) (show (tuT[2]?).join = none from rfl)).trans k2
    generalize frame tuT a0 us = fr at *
    exact val_ok (v := .int .u32 z) (w' := w') (by go_simp) hG (Below.refl _ _) rfl
  · refine step_guard [8, 9, 10, 11] (by kernel_rfl) (j := 8) (t := 38) (b := true) rfl (by simp) rfl hl rfl (fun v w h => h) fun us w' hG hV => ?_
    have e9 : us 9 = .agg CP := hV 9 (by simp)
    have v9 := (frame_at2 (us := us) hl (show (tuT[39]?).join = some 9 from rfl)).trans e9
    have e10 : us 10 = .int .u32 g := hV 10 (by simp)
    have v10 := (frame_at2 (us := us) hl (show (tuT[40]?).join = some 10 from rfl)).trans e10
    have e11 : us 11 = .int .u32 z := hV 11 (by simp)
    have v11 := (frame_at2 (us := us) hl (show (tuT[41]?).join = some 11 from rfl)).trans e11
    generalize frame tuT a0 us = fr at *
    exact call_ok (f := 25) (args := #[.agg CP, .int .u32 g, .int .u32 z]) (by go_simp) ((TC.out w' hG).mono fun e w'' ⟨A', c', B', m', d', p', h1, h2, h3, h4, h5, h6⟩ => ⟨_, h1, hG.below h6, h6, A', c', B', m', d', p', rfl, h3.less hG.size, h4.less hG.size⟩)
  · refine step_guard [8] (by kernel_rfl) (j := 8) (t := 38) (b := true) rfl (by simp) rfl hl rfl (fun v w h => h) fun us w' hG hV => ?_
    have o3 := (frame_old2 (us := us) (a := a0) (show (tuT[3]?).join = none from rfl)).trans k3
    have hg1 := (KP.out w' hG)
    generalize frame tuT a0 us = fr at *
    exact load_ok 34 3 rfl ((w.heap.size)) o3 _ _ (0, 0) _ hg1 Tryd.underlying34 rfl IC.out hG rfl
  · refine step_guard [8] (by kernel_rfl) (j := 8) (t := 38) (b := true) rfl (by simp) rfl hl rfl (fun v w h => h) fun us w' hG hV => ?_
    have o1 := (frame_old2 (us := us) (a := a0) (show (tuT[1]?).join = none from rfl)).trans k1
    generalize frame tuT a0 us = fr at *
    exact val_ok (v := .int .u32 g) (w' := w') (by go_simp) hG (Below.refl _ _) rfl
  · refine step_guard [8] (by kernel_rfl) (j := 8) (t := 38) (b := true) rfl (by simp) rfl hl rfl (fun v w h => h) fun us w' hG hV => ?_
    have o2 := (frame_old2 (us := us) (a := a0) (show (tuT[2]?).join = none from rfl)).trans k2
    generalize frame tuT a0 us = fr at *
    exact val_ok (v := .int .u32 z) (w' := w') (by go_simp) hG (Below.refl _ _) rfl
  · refine step_guard [8, 13, 14, 15] (by kernel_rfl) (j := 8) (t := 38) (b := true) rfl (by simp) rfl hl rfl (fun v w h => h) fun us w' hG hV => ?_
    have e13 : us 13 = .agg CP := hV 13 (by simp)
    have v13 := (frame_at2 (us := us) hl (show (tuT[43]?).join = some 13 from rfl)).trans e13
    have e14 : us 14 = .int .u32 g := hV 14 (by simp)
    have v14 := (frame_at2 (us := us) hl (show (tuT[44]?).join = some 14 from rfl)).trans e14
    have e15 : us 15 = .int .u32 z := hV 15 (by simp)
    have v15 := (frame_at2 (us := us) hl (show (tuT[45]?).join = some 15 from rfl)).trans e15
    generalize frame tuT a0 us = fr at *
    exact call_ok (f := 26) (args := #[.agg CP, .int .u32 g, .int .u32 z]) (by go_simp) ((TR.out w' hG).mono fun e w'' ⟨B', m', d', h1, h2, h3, h4⟩ => ⟨_, h1, hG.below h4, h4, B', m', d', rfl, (h2.below h4).more h4.size⟩)
  · refine step_guard [8, 12, 16] (by kernel_rfl) (j := 8) (t := 38) (b := true) rfl (by simp) rfl hl rfl (fun v w h => h) fun us w' hG hV => ?_
    obtain ⟨A12, c12, B12, m12, d12, p12, e12, q12, x12⟩ := (show ∃ A' c' B' m' d' p', us 12 = .agg (segV sT A' n c' B' m' d') ∧ OwnP w' (Wr.heap.size) (.slice A' n c') sk ∧ Own .u8 5 w' (Wr.heap.size) (.slice B' m' p') XT from hV 12 (by simp))
    have v12 := (frame_at2 (us := us) hl (show (tuT[42]?).join = some 12 from rfl)).trans e12
    obtain ⟨B16, m16, d16, e16, x16⟩ := (show ∃ B' m' d', us 16 = .agg (segV sT A n c B' m' d') ∧ Nums .u8 w' w'.heap.size B' m' XT from hV 16 (by simp))
    have v16 := (frame_at2 (us := us) hl (show (tuT[46]?).join = some 16 from rfl)).trans e16
    generalize frame tuT a0 us = fr at *
    exact call_ok (f := 18) (args := #[.agg (segV sT A12 n c12 B12 m12 d12), .agg (segV sT A n c B16 m16 d16)]) (by go_simp) ((SM.out A12 c12 B12 m12 d12 B16 m16 d16 w' hG q12.prs x12.nums x16).mono fun e w'' h => ⟨_, h.1, hG.below h.2, h.2, rfl⟩)
  · refine step_plain [8, 17] (by kernel_rfl) rfl fun us w' hG hV => ?_
    have e8 : us 8 = .bool true := hV 8 (by simp)
    have v8 := (frame_at2 (us := us) hl (show (tuT[38]?).join = some 8 from rfl)).trans e8
    have e17 : us 17 = .bool true := hV 17 (by simp)
    have v17 := (frame_at2 (us := us) hl (show (tuT[47]?).join = some 17 from rfl)).trans e17
    generalize frame tuT a0 us = fr at *
    exact val_ok (v := .bool true) (w' := w') (by go_simp) hG (Below.refl _ _) rfl
  · refine step_plain [18] (by kernel_rfl) rfl fun us w' hG hV => ?_
    have e18 : us 18 = .bool true := hV 18 (by simp)
    have v18 := (frame_at2 (us := us) hl (show (tuT[48]?).join = some 18 from rfl)).trans e18
    generalize frame tuT a0 us = fr at *
    exact val_ok (v := .bool true) (w' := w') (by go_simp) hG (Below.refl _ _) rfl
  · refine step_guard [19] (by kernel_rfl) (j := 19) (t := 49) (b := true) rfl (by simp) rfl hl rfl (fun v w h => h) fun us w' hG hV => ?_
    generalize frame tuT a0 us = fr at *
    exact call_ok (f := 10) (args := #[]) (by go_simp) ((AL.out w' hG).mono fun e w'' h => ⟨_, h.1, hG.below h.2, h.2, rfl⟩)
  · refine step_plain [19, 20] (by kernel_rfl) rfl fun us w' hG hV => ?_
    have e19 : us 19 = .bool true := hV 19 (by simp)
    have v19 := (frame_at2 (us := us) hl (show (tuT[49]?).join = some 19 from rfl)).trans e19
    have e20 : us 20 = .bool true := hV 20 (by simp)
    have v20 := (frame_at2 (us := us) hl (show (tuT[50]?).join = some 20 from rfl)).trans e20
    generalize frame tuT a0 us = fr at *
    exact val_ok (v := .bool true) (w' := w') (by go_simp) hG (Below.refl _ _) rfl
  · refine step_plain [21] (by kernel_rfl) rfl fun us w' hG hV => ?_
    have e21 : us 21 = .bool true := hV 21 (by simp)
    have v21 := (frame_at2 (us := us) hl (show (tuT[51]?).join = some 21 from rfl)).trans e21
    generalize frame tuT a0 us = fr at *
    exact val_ok (v := .bool true) (w' := w') (by go_simp) hG (Below.refl _ _) rfl
  · intro us w5 hG hV
    have e22 : us 22 = .bool true := hV 22 (by decide)
    subst ha0
    simp only [frame, tuT, fill]
    rw [e22]
    have HG := Lib.hid hG
    clear hV hl hG k1 k2 k3 k7 k8 k9 k10 e22
    go_wp2_with fail
    go_ret
    exact ⟨rfl, HBr.out.trans (Below.mono HG.out HBr.out.size)⟩
end Go.Proofs.YtniimgbljhmcoaaDoor.sgC
