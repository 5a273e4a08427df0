/-
  2 texts of a proof, joined.
-/
import Derived.Test.YtmkekdmkefkfiaaDoorMg21
import Derived.Test.YtmkekdmkefkfiaaDoorMg24
import Derived.Test.YtmkekdmkefkfiaaDoorMg4

/-
  The walk of AddrTexts.
-/
namespace Go.Proofs.YtmkekdmkefkfiaaDoor.adC
open Go.ChangeShapes Go.WideShapes Go.ChangeAt Go.RowKit
open Go.Proofs.YtmkekdmkefkfiaaDoor.memC Go.Proofs.YtmkekdmkefkfiaaDoor.genC Go.Proofs.YtmkekdmkefkfiaaDoor.butC Go.Proofs.YtmkekdmkefkfiaaDoor.freeC Go.Proofs.YtmkekdmkefkfiaaDoor.txC
set_option linter.unusedVariables false
theorem text_same (s : Bool) {b : List Int} (hl : b.length = 16) : ctextL s b = textL s b := by
  cases s
  · exact text_four_same hl
  · exact text_six_same b
theorem out_len (xs : List Int) : (outO (cprsL xs)).2.length = 16 := by
  cases h : cprsL xs with
  | none => exact zs_len 16
  | some q => obtain ⟨s, b⟩ := q; exact (read_ok h).1
def ttV (g0 g1 g2 : Nat) (TX CA : Array Value) (er : Int) (T : ByteArray) : Nat → Value → World → Prop
  | 0, v, _ => v = .agg CA
  | 1, v, _ => v = .string T
  | 2, v, _ => v = .agg CA
  | 3, v, _ => v = .string T
  | 4, v, _ => v = .bool true
  | 5, v, _ => v = .bool true
  | 6, v, _ => v = .agg TX
  | 7, v, _ => v = .agg TX
  | 8, v, _ => v = .bool true
  | 9, v, _ => v = .bool true
  | 10, v, _ => v = .bool true
  | 11, v, _ => v = .int .i64 er
  | 12, v, _ => v = .int .i64 er
  | 13, v, _ => v = .bool true
  | 14, v, _ => v = .bool true
  | 15, v, _ => v = .bool true
  | 16, v, _ => v = .bool true
  | 17, v, _ => v = .bool true
  | 18, v, _ => v = .bool true
  | _, _, _ => True
theorem ttV.keep (g0 g1 g2 : Nat) (TX CA : Array Value) (er : Int) (T : ByteArray) (i : Nat) (v : Value) (w w' : World) (hb : Below w.heap.size w w') (h : ttV g0 g1 g2 TX CA er T i v w) : ttV g0 g1 g2 TX CA er T i v w' := by
  unfold ttV at h ⊢
  split at h <;> exact h
def ttT : List (Option Nat) := [none, none, none, none, some 18, none, none, none, none, none, none, none, none, none, none, none, none, none, none, none, none, none, none, some 0, some 1, some 2, some 3, some 4, some 5, some 6, some 7, some 8, some 9, some 10, some 11, some 12, some 13, some 14, some 15, some 16, some 17]
set_option maxRecDepth 100000 in
set_option maxHeartbeats 4000000 in
theorem texts_long (s : Bool) (b : List Int) (S0 : ByteArray) (w : World) (hg : Gb w) (h2 : 200 < S0.size) :
    Calls Tryd.prog 4 #[.agg (adrV s b), .string S0] w (Ret w (.bool true)) := by
  obtain ⟨W, hW⟩ : ∃ W, W = w.alloc (.cells (adrV s b) 24) := ⟨_, rfl⟩
  have HB_W := Lib.hid (show Below w.heap.size w W by rw [hW]; exact alloc_below _ _)
  have HA := Lib.hid (alive_any W (hg.below HB_W.out))
  have q1 : (200 : Int) < (S0.size : Int) := by omega
  generalize adrV s b = CA at *
  clear hg h2
  go_enter Tryd.func4, Tryd.ntmps4
  go_upto_region 1 with fail
  rw [← hW]
  clear hW
  go_wp2_with (first
    | (go_at_call 7; (refine HA.out.mono ?_); rintro e w6 ⟨rfl, BB⟩
       have HB_w6 := Lib.hid (HB_W.out.trans (BB.mono HB_W.out.size))
       clear BB))
  go_ret
  exact ⟨rfl, HB_w6.out⟩
set_option maxRecDepth 100000 in
set_option maxHeartbeats 4000000 in
theorem texts_walk (s : Bool) (b : List Int) (xs : List Int) (w : World) (hg : Gb w) (hl : b.length = 16) (hy : ∀ x ∈ b, Byte x) (hx : ∀ x ∈ xs, Byte x) (hn : xs.length ≤ 200) :
    Calls Tryd.prog 4 #[.agg (adrV s b), .string (strOfNums xs)] w (Ret w (.bool true)) := by
  have hzv := zeroAdr
  obtain ⟨W, hW⟩ : ∃ W, W = w.alloc (.cells (adrV s b) 24) := ⟨_, rfl⟩
  have R0_W := Lib.hid (show W.heap[w.heap.size]? = some (.cells (adrV s b) 24 (0, 0)) by rw [hW]; exact heap_alloc_new w _)
  have HB_W := Lib.hid (show Below w.heap.size w W by rw [hW]; exact alloc_below _ _)
  have HG_W := Lib.hid (hg.below HB_W.out)
  have UA := Lib.hid (adr_info s hl)
  have T1 := Lib.hid (fun w' (h : Gb w') => ctext_any s b w' h hl hy)
  have T2 := Lib.hid (fun w' => (show Calls Tryd.prog 20 #[.agg (adrV s b)] w' (Ret w' (.string (strOfNums (ctextL s b)))) by
    have h1 := text_any s b w' hl hy
    rw [← text_same s hl] at h1; exact h1))
  have lx := out_len xs
  have UX := Lib.hid (And.intro (adr_info (outO (cprsL xs)).1 lx) (And.intro (z_size (outO (cprsL xs)).1 lx) (adrV_one (outO (cprsL xs)).1 (outO (cprsL xs)).2)))
  have EQX := Lib.hid (fun w' => eqa_self (outO (cprsL xs)).1 lx w')
  have P1 := Lib.hid (fun w' (h : Gb w') => (cparse_any xs w' h hx (by omega)).mono fun e w'' h => h.o.two)
  have P2 := Lib.hid (fun w' => (show Calls Tryd.prog 18 #[.string (strOfNums xs)] w' (Two w' (outO (cprsL xs)).1 (outO (cprsL xs)).2 (errO 3 (cprsL xs))) by
    have h1 := (rparse_any xs w' hx (by omega)).mono fun e w'' h => h.o.two
    rw [← read_same xs] at h1; exact h1))
  obtain ⟨m, hm⟩ : ∃ m, m = xs.length := ⟨_, rfl⟩
  have hsz : (strOfNums xs).size = m := by rw [strOfNums_size, hm]
  have hm2 : (m : Int) ≤ 200 := by omega
  generalize strOfNums xs = S0 at *
  generalize errO 3 (cprsL xs) = er at *
  have P1' : Hid (∀ w' (h : Gb w'), Calls Tryd.prog 17 #[.string S0] w' fun e w'' => e = .returned (.tuple #[.agg (adrV (outO (cprsL xs)).1 (outO (cprsL xs)).2), .int .i64 er]) ∧ Below w'.heap.size w' w'') := Lib.hid P1.out
  have P2' : Hid (∀ w', Calls Tryd.prog 18 #[.string S0] w' fun e w'' => e = .returned (.tuple #[.agg (adrV (outO (cprsL xs)).1 (outO (cprsL xs)).2), .int .i64 er]) ∧ Below w'.heap.size w' w'') := Lib.hid P2.out
  generalize strOfNums (ctextL s b) = T at *
  generalize adrV (outO (cprsL xs)).1 (outO (cprsL xs)).2 = TX at *
  generalize adrV s b = CA at *
  generalize zAdr = Z at *
  clear hg hl hy hx hn lx hm P1 P2
  go_enter Tryd.func4, Tryd.ntmps4
  go_upto_region 1 with fail
  rw [← hW]
  clear hW
  go_upto_region 4 with (first
    | (go_at_call 17; (refine (P1'.out _ HG_W.out).mono ?_); rintro e v1 ⟨rfl, BB⟩
       have HB_v1 := Lib.hid (HB_W.out.trans (BB.mono HB_W.out.size))
       have R0_v1 := Lib.hid (show v1.heap[w.heap.size]? = some (.cells CA 24 (0, 0)) by rw [BB.block _ (lt_of_row R0_W.out)]; exact R0_W.out)
       have HN_v1 := Lib.hid (show (v1.alloc (.cells Z 24)).heap[v1.heap.size]? = some (.cells Z 24 (0, 0)) from heap_alloc_new _ _)
       have HG_v1 := Lib.hid (HG_W.out.below BB)
       clear BB)
    | (refine wpList_store_row rfl 24 (.tmp 5) (.tmp 16) rfl v1.heap.size TX rfl rfl _ _ HN_v1.out UX.out.1 UX.out.2.1 UX.out.2.2 ?_))
  rw [World.setRow_alloc_new]
  have HB_W1 := Lib.hid (show Below w.heap.size w (v1.alloc (.cells TX 24)) from HB_v1.out.trans ((alloc_below _ _).mono HB_v1.out.size))
  have R0_W1 := Lib.hid (show (v1.alloc (.cells TX 24)).heap[w.heap.size]? = some (.cells CA 24 (0, 0)) by rw [(alloc_below _ _).block _ (lt_of_row R0_v1.out)]; exact R0_v1.out)
  have RX_W1 := Lib.hid (show (v1.alloc (.cells TX 24)).heap[v1.heap.size]? = some (.cells TX 24 (0, 0)) from heap_alloc_new _ _)
  have HG_W1 := Lib.hid (HG_v1.out.below (alloc_below v1 (.cells TX 24)))
  clear HB_v1 HN_v1 R0_v1 HG_v1
  generalize v1.heap.size = g1 at *
  generalize v1.alloc (.cells TX 24) = W1 at *
  go_upto_region 5 with (first
    | (go_at_call 18; (refine (P2'.out _).mono ?_); rintro e v2 ⟨rfl, BB⟩
       have HB_v2 := Lib.hid (HB_W1.out.trans (BB.mono HB_W1.out.size))
       have R0_v2 := Lib.hid (show v2.heap[w.heap.size]? = some (.cells CA 24 (0, 0)) by rw [BB.block _ (lt_of_row R0_W1.out)]; exact R0_W1.out)
       have RX_v2 := Lib.hid (show v2.heap[g1]? = some (.cells TX 24 (0, 0)) by rw [BB.block _ (lt_of_row RX_W1.out)]; exact RX_W1.out)
       have HN_v2 := Lib.hid (show (v2.alloc (.cells Z 24)).heap[v2.heap.size]? = some (.cells Z 24 (0, 0)) from heap_alloc_new _ _)
       have HG_v2 := Lib.hid (HG_W1.out.below BB)
       clear BB)
    | (refine wpList_store_row rfl 24 (.tmp 7) (.tmp 21) rfl v2.heap.size TX rfl rfl _ _ HN_v2.out UX.out.1 UX.out.2.1 UX.out.2.2 ?_))
  rw [World.setRow_alloc_new]
  have HB_W2 := Lib.hid (show Below w.heap.size w (v2.alloc (.cells TX 24)) from HB_v2.out.trans ((alloc_below _ _).mono HB_v2.out.size))
  have R0_W2 := Lib.hid (show (v2.alloc (.cells TX 24)).heap[w.heap.size]? = some (.cells CA 24 (0, 0)) by rw [(alloc_below _ _).block _ (lt_of_row R0_v2.out)]; exact R0_v2.out)
  have RX_W2 := Lib.hid (show (v2.alloc (.cells TX 24)).heap[g1]? = some (.cells TX 24 (0, 0)) by rw [(alloc_below _ _).block _ (lt_of_row RX_v2.out)]; exact RX_v2.out)
  have RY_W2 := Lib.hid (show (v2.alloc (.cells TX 24)).heap[v2.heap.size]? = some (.cells TX 24 (0, 0)) from heap_alloc_new _ _)
  have HG_W2 := Lib.hid (HG_v2.out.below (alloc_below v2 (.cells TX 24)))
  clear HB_v2 HN_v2 R0_v2 RX_v2 HG_v2
  generalize v2.heap.size = g2 at *
  generalize v2.alloc (.cells TX 24) = W2 at *
  refine with_act fun a0 ha0 => ?_
  have hl : ttT.length = a0.tmps.size := by rw [ha0]; rfl
  have k2 : a0.tmps[2]?.getD undef = .pointer (some ⟨w.heap.size, 0, none⟩) := by rw [ha0]; rfl
  have k5 : a0.tmps[5]?.getD undef = .pointer (some ⟨g1, 0, none⟩) := by rw [ha0]; rfl
  have k6 : a0.tmps[6]?.getD undef = .int .i64 er := by rw [ha0]; rfl
  have k7 : a0.tmps[7]?.getD undef = .pointer (some ⟨g2, 0, none⟩) := by rw [ha0]; rfl
  have k8 : a0.tmps[8]?.getD undef = .int .i64 er := by rw [ha0]; rfl
  refine wp_region_vals (by kernel_rfl) ttT (by kernel_rfl) (by kernel_rfl) hl (fun i => if i = 18 then .bool false else undef) (by rw [ha0]; rfl) (Gr W2) (ttV w.heap.size g1 g2 TX CA er T) (gr_drew _) (ttV.keep _ _ _ _ _ _ _) ⟨?_, ?_, ?_, ?_, ?_, ?_, ?_, ?_, ?_, ?_, ?_, ?_, ?_, ?_, ?_, ?_, ?_, ?_, ?_, trivial⟩ ?_
  · refine step_plain [] (by kernel_rfl) rfl fun us w' hG hV => ?_
    have o2 := (frame_old2 (us := us) (a := a0) (show (ttT[2]?).join = none from rfl)).trans k2
    have hg1 := hG.row R0_W2.out
    generalize frame ttT a0 us = fr at *
    exact load_ok 24 2 rfl (w.heap.size) o2 _ _ (0, 0) _ hg1 Tryd.underlying24 rfl UA.out hG rfl
  · refine step_plain [0] (by kernel_rfl) rfl fun us w' hG hV => ?_
    have e0 : us 0 = .agg CA := hV 0 (by simp)
    have v0 := (frame_at2 (us := us) hl (show (ttT[23]?).join = some 0 from rfl)).trans e0
    generalize frame ttT a0 us = fr at *
    exact call_ok (f := 19) (args := #[.agg CA]) (by go_simp) ((T1.out w' (HG_W2.out.below hG)).mono fun e w'' h => ⟨_, h.1, hG.below h.2, h.2, rfl⟩)
  · refine step_plain [] (by kernel_rfl) rfl fun us w' hG hV => ?_
    have o2 := (frame_old2 (us := us) (a := a0) (show (ttT[2]?).join = none from rfl)).trans k2
    have hg1 := hG.row R0_W2.out
    generalize frame ttT a0 us = fr at *
    exact load_ok 24 2 rfl (w.heap.size) o2 _ _ (0, 0) _ hg1 Tryd.underlying24 rfl UA.out hG rfl
  · refine step_plain [2] (by kernel_rfl) rfl fun us w' hG hV => ?_
    have e2 : us 2 = .agg CA := hV 2 (by simp)
    have v2 := (frame_at2 (us := us) hl (show (ttT[25]?).join = some 2 from rfl)).trans e2
    generalize frame ttT a0 us = fr at *
    exact call_ok (f := 20) (args := #[.agg CA]) (by go_simp) ((T2.out w').mono fun e w'' h => ⟨_, h.1, hG.below h.2, h.2, rfl⟩)
  · refine step_plain [1, 3] (by kernel_rfl) rfl fun us w' hG hV => ?_
    have e1 : us 1 = .string T := hV 1 (by simp)
    have v1 := (frame_at2 (us := us) hl (show (ttT[24]?).join = some 1 from rfl)).trans e1
    have e3 : us 3 = .string T := hV 3 (by simp)
    have v3 := (frame_at2 (us := us) hl (show (ttT[26]?).join = some 3 from rfl)).trans e3
    generalize frame ttT a0 us = fr at *
    exact val_ok (v := .bool true) (w' := w') (seq_self (S := T) (a := fr) rfl (by simpa only [Act.eval, Array.getD_eq_getD_getElem?] using v1) (by simpa only [Act.eval, Array.getD_eq_getD_getElem?] using v3)) hG (Below.refl _ _) rfl
  · refine step_plain [4] (by kernel_rfl) rfl fun us w' hG hV => ?_
    have e4 : us 4 = .bool true := hV 4 (by simp)
    have v4 := (frame_at2 (us := us) hl (show (ttT[27]?).join = some 4 from rfl)).trans e4
    generalize frame ttT a0 us = fr at *
    exact val_ok (v := .bool true) (w' := w') (by go_simp) hG (Below.refl _ _) rfl
  · refine step_guard [5] (by kernel_rfl) (j := 5) (t := 28) (b := true) rfl (by simp) rfl hl rfl (fun v w h => h) fun us w' hG hV => ?_
    have o5 := (frame_old2 (us := us) (a := a0) (show (ttT[5]?).join = none from rfl)).trans k5
    have hg1 := hG.row RX_W2.out
    generalize frame ttT a0 us = fr at *
    exact load_ok 24 5 rfl (g1) o5 _ _ (0, 0) _ hg1 Tryd.underlying24 rfl UX.out.1 hG rfl
  · refine step_guard [5] (by kernel_rfl) (j := 5) (t := 28) (b := true) rfl (by simp) rfl hl rfl (fun v w h => h) fun us w' hG hV => ?_
    have o7 := (frame_old2 (us := us) (a := a0) (show (ttT[7]?).join = none from rfl)).trans k7
    have hg1 := hG.row RY_W2.out
    generalize frame ttT a0 us = fr at *
    exact load_ok 24 7 rfl (g2) o7 _ _ (0, 0) _ hg1 Tryd.underlying24 rfl UX.out.1 hG rfl
  · refine step_guard [5, 6, 7] (by kernel_rfl) (j := 5) (t := 28) (b := true) rfl (by simp) rfl hl rfl (fun v w h => h) fun us w' hG hV => ?_
    have e6 : us 6 = .agg TX := hV 6 (by simp)
    have v6 := (frame_at2 (us := us) hl (show (ttT[29]?).join = some 6 from rfl)).trans e6
    have e7 : us 7 = .agg TX := hV 7 (by simp)
    have v7 := (frame_at2 (us := us) hl (show (ttT[30]?).join = some 7 from rfl)).trans e7
    generalize frame ttT a0 us = fr at *
    exact val_ok (v := .bool true) (w' := w') (eq_run rfl v6 v7 (EQX.out w') guard_addr) hG (Below.refl _ _) rfl
  · refine step_plain [5, 8] (by kernel_rfl) rfl fun us w' hG hV => ?_
    have e5 : us 5 = .bool true := hV 5 (by simp)
    have v5 := (frame_at2 (us := us) hl (show (ttT[28]?).join = some 5 from rfl)).trans e5
    have e8 : us 8 = .bool true := hV 8 (by simp)
    have v8 := (frame_at2 (us := us) hl (show (ttT[31]?).join = some 8 from rfl)).trans e8
    generalize frame ttT a0 us = fr at *
    exact val_ok (v := .bool true) (w' := w') (by go_simp) hG (Below.refl _ _) rfl
  · refine step_plain [9] (by kernel_rfl) rfl fun us w' hG hV => ?_
    have e9 : us 9 = .bool true := hV 9 (by simp)
    have v9 := (frame_at2 (us := us) hl (show (ttT[32]?).join = some 9 from rfl)).trans e9
    generalize frame ttT a0 us = fr at *
    exact val_ok (v := .bool true) (w' := w') (by go_simp) hG (Below.refl _ _) rfl
  · refine step_guard [10] (by kernel_rfl) (j := 10) (t := 33) (b := true) rfl (by simp) rfl hl rfl (fun v w h => h) fun us w' hG hV => ?_
    have o6 := (frame_old2 (us := us) (a := a0) (show (ttT[6]?).join = none from rfl)).trans k6
    generalize frame ttT a0 us = fr at *
    exact val_ok (v := .int .i64 er) (w' := w') (by go_simp) hG (Below.refl _ _) rfl
  · refine step_guard [10] (by kernel_rfl) (j := 10) (t := 33) (b := true) rfl (by simp) rfl hl rfl (fun v w h => h) fun us w' hG hV => ?_
    have o8 := (frame_old2 (us := us) (a := a0) (show (ttT[8]?).join = none from rfl)).trans k8
    generalize frame ttT a0 us = fr at *
    exact val_ok (v := .int .i64 er) (w' := w') (by go_simp) hG (Below.refl _ _) rfl
  · refine step_guard [10, 11, 12] (by kernel_rfl) (j := 10) (t := 33) (b := true) rfl (by simp) rfl hl rfl (fun v w h => h) fun us w' hG hV => ?_
    have e11 : us 11 = .int .i64 er := hV 11 (by simp)
    have v11 := (frame_at2 (us := us) hl (show (ttT[34]?).join = some 11 from rfl)).trans e11
    have e12 : us 12 = .int .i64 er := hV 12 (by simp)
    have v12 := (frame_at2 (us := us) hl (show (ttT[35]?).join = some 12 from rfl)).trans e12
    generalize frame ttT a0 us = fr at *
    exact val_ok (v := .bool true) (w' := w') (by go_simp) hG (Below.refl _ _) rfl
  · refine step_plain [10, 13] (by kernel_rfl) rfl fun us w' hG hV => ?_
    have e10 : us 10 = .bool true := hV 10 (by simp)
    have v10 := (frame_at2 (us := us) hl (show (ttT[33]?).join = some 10 from rfl)).trans e10
    have e13 : us 13 = .bool true := hV 13 (by simp)
    have v13 := (frame_at2 (us := us) hl (show (ttT[36]?).join = some 13 from rfl)).trans e13
    generalize frame ttT a0 us = fr at *
    exact val_ok (v := .bool true) (w' := w') (by go_simp) hG (Below.refl _ _) rfl
  · refine step_plain [14] (by kernel_rfl) rfl fun us w' hG hV => ?_
    have e14 : us 14 = .bool true := hV 14 (by simp)
    have v14 := (frame_at2 (us := us) hl (show (ttT[37]?).join = some 14 from rfl)).trans e14
    generalize frame ttT a0 us = fr at *
    exact val_ok (v := .bool true) (w' := w') (by go_simp) hG (Below.refl _ _) rfl
  · refine step_guard [15] (by kernel_rfl) (j := 15) (t := 38) (b := true) rfl (by simp) rfl hl rfl (fun v w h => h) fun us w' hG hV => ?_
    generalize frame ttT a0 us = fr at *
    exact call_ok (f := 7) (args := #[]) (by go_simp) ((alive_any w' (HG_W2.out.below hG)).mono fun e w'' h => ⟨_, h.1, hG.below h.2, h.2, rfl⟩)
  · refine step_plain [15, 16] (by kernel_rfl) rfl fun us w' hG hV => ?_
    have e15 : us 15 = .bool true := hV 15 (by simp)
    have v15 := (frame_at2 (us := us) hl (show (ttT[38]?).join = some 15 from rfl)).trans e15
    have e16 : us 16 = .bool true := hV 16 (by simp)
    have v16 := (frame_at2 (us := us) hl (show (ttT[39]?).join = some 16 from rfl)).trans e16
    generalize frame ttT a0 us = fr at *
    exact val_ok (v := .bool true) (w' := w') (by go_simp) hG (Below.refl _ _) rfl
  · refine step_plain [17] (by kernel_rfl) rfl fun us w' hG hV => ?_
    have e17 : us 17 = .bool true := hV 17 (by simp)
    have v17 := (frame_at2 (us := us) hl (show (ttT[40]?).join = some 17 from rfl)).trans e17
    generalize frame ttT a0 us = fr at *
    exact val_ok (v := .bool true) (w' := w') (by go_simp) hG (Below.refl _ _) rfl
  · intro us w' hG hV
    have eL : us 18 = .bool true := hV 18 (by decide)
    subst ha0
    simp only [frame, ttT, fill]
    rw [eL]
    go_wp2_with fail
    go_ret
    exact ⟨rfl, HB_W2.out.trans (hG.mono HB_W2.out.size)⟩
end Go.Proofs.YtmkekdmkefkfiaaDoor.adC

/-
  How an argument that is an address is opened.
-/
namespace Go.Proofs.YtmkekdmkefkfiaaDoor.adC
open Go.ChangeShapes Go.WideShapes Go.ChangeAt Go.RowKit
open Go.Proofs.YtmkekdmkefkfiaaDoor.memC Go.Proofs.YtmkekdmkefkfiaaDoor.genC Go.Proofs.YtmkekdmkefkfiaaDoor.butC Go.Proofs.YtmkekdmkefkfiaaDoor.freeC
set_option linter.unusedVariables false
section
variable {P : Program} {w : World} {r : Reach} {b0 : Nat} {t : TypeId}
theorem cell_u8 {ti : TypeId} {v : Value} (hi : P.underlying ti = some (.int .u8)) (h : Cell.okWide P w r b0 ti v) : ∃ z, v = .int .u8 z ∧ Byte z := by
  unfold Cell.okWide at h
  rw [hi] at h
  unfold Cell.ok at h
  rw [hi] at h
  cases v <;> simp at h
  obtain ⟨rfl, h1, h2⟩ := h
  exact ⟨_, rfl, by simpa [IntKind.min, IntKind.max, IntKind.signed, IntKind.bits] using h1, by simpa [IntKind.min, IntKind.max, IntKind.signed, IntKind.bits] using h2⟩
theorem cell_bool {tb : TypeId} {v : Value} (hb : P.underlying tb = some .bool) (h : Cell.okWide P w r b0 tb v) : ∃ s, v = .bool s := by
  unfold Cell.okWide at h
  rw [hb] at h
  unfold Cell.ok at h
  rw [hb] at h
  cases v <;> simp at h
  exact ⟨_, rfl⟩
theorem open_addr {fs : Array Field} {tb ti : TypeId} {v : Value} (ht : P.underlying t = some (.struct fs)) (hc : P.cellsOf t = 17) (hts : P.cellTypes P.depth t = some (tb :: List.replicate 16 ti))
    (hb : P.underlying tb = some .bool) (hi : P.underlying ti = some (.int .u8)) (hval : Value.okWide P w r b0 t v) :
    ∃ (s : Bool) (bs : List Int), v = .agg (adrV s bs) ∧ bs.length = 16 ∧ ∀ x ∈ bs, Byte x := by
  obtain ⟨cs, rfl, hsz, ts, hts', _, hcell⟩ : ∃ cs, v = .agg cs ∧ cs.size = P.cellsOf t ∧ Row.okWide P w r b0 t cs := by
    simpa [Value.okWide, ht] using hval
  obtain ⟨l⟩ := cs
  rw [hc] at hsz
  have hl : l.length = 17 := by simpa using hsz
  rw [hts] at hts'
  obtain rfl := Option.some.inj hts'
  have key : ∀ i, i < 17 → ∃ v u, l[i]? = some v ∧ (tb :: List.replicate 16 ti)[i]? = some u ∧ Cell.okWide P w r b0 u v := fun i hi36 => by
    have e : l[i]? = some (l[i]'(by omega)) := List.getElem?_eq_getElem _
    obtain ⟨u, h1, h2⟩ := hcell i (l[i]'(by omega)) (by rw [← e]; simp)
    refine ⟨_, u, e, ?_, h2⟩
    have : i % 17 = i := Nat.mod_eq_of_lt hi36
    simpa [this] using h1
  obtain ⟨s, hs⟩ : ∃ s, l[0]? = some (.bool s) := by
    obtain ⟨v, u, h1, h2, h3⟩ := key 0 (by decide)
    obtain rfl : tb = u := by simpa using h2
    obtain ⟨s, rfl⟩ := cell_bool hb h3
    exact ⟨s, h1⟩
  have kb : ∀ i, i < 16 → ∃ z, l[1 + i]? = some (.int .u8 z) ∧ Byte z := fun i hi' => by
    obtain ⟨v, u, h1, h2, h3⟩ := key (1 + i) (by omega)
    have : u = ti := by
      rw [Nat.add_comm, List.getElem?_cons_succ, List.getElem?_replicate, if_pos hi'] at h2
      exact (Option.some.inj h2).symm
    subst this
    obtain ⟨z, rfl, hz⟩ := cell_u8 hi h3
    exact ⟨z, h1, hz⟩
  match l, hl, hs, kb with
  | v0 :: rest, hl, hs, kb =>
    have e0 : v0 = .bool s := by simpa using hs
    subst e0
    have hr : rest.length = 16 := by simpa using hl
    refine ⟨s, rest.map fun v => match v with | .int _ z => z | _ => 0, ?_, by rw [List.length_map, hr], fun x hx => ?_⟩
    · unfold adrV
      congr 2
      rw [List.map_map]
      apply congrArg (Value.bool s :: ·)
      apply List.ext_getElem?
      intro i
      by_cases hi : i < 16
      · obtain ⟨z, hz, _⟩ := kb i hi
        rw [Nat.add_comm, List.getElem?_cons_succ] at hz
        rw [List.getElem?_map, hz]; rfl
      · rw [List.getElem?_eq_none (by omega), List.getElem?_eq_none (by rw [List.length_map]; omega)]
    · obtain ⟨v, hv, rfl⟩ := List.mem_map.1 hx
      obtain ⟨i, hi, rfl⟩ := List.getElem_of_mem hv
      obtain ⟨z, hz, hw⟩ := kb i (by omega)
      rw [Nat.add_comm, List.getElem?_cons_succ, List.getElem?_eq_getElem hi] at hz
      rw [Option.some.inj hz]; exact hw
end
end Go.Proofs.YtmkekdmkefkfiaaDoor.adC
