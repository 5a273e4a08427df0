/-
  CMAC: the walks of CmacOf and CmacParts.
-/
import Derived.Test.YtknemkekmahdmaaCmI
namespace Go.Proofs.Ytknemkekmahdmaa.aesC
open Go.ChangeShapes Go.WideShapes Go.ChangeAt Go.RowKit
open Go.Proofs.Ytknemkekmahdmaa.memC Go.Proofs.Ytknemkekmahdmaa.genC Go.Proofs.Ytknemkekmahdmaa.aesM Go.Proofs.Ytknemkekmahdmaa.butC Go.Proofs.Ytknemkekmahdmaa.freeC Go.Proofs.Ytknemkekmahdmaa.partsC
set_option linter.unusedVariables false
theorem cmacof_long (k : List Nat) (A : Option Addr) (n c : Nat) (w : World) (hn : n ≤ 9223372036854775807) (h : 300 < n) : Calls Try.prog 3 #[.agg (vec k), .slice A n c] w (AliveRet w) := by
  have d1 : decide (300 < n) = true := by simpa using h
  have BA := alloc_below w (.cells (vec k) 22)
  generalize vec k = K at *
  clear h
  go_enter Try.func3, Try.ntmps3
  go_wp2_with (first
    | (go_at_call 8; (with_reducible refine (long_any A _ _ _ hn).mono ?_); rintro e w' ⟨rfl, rfl⟩)
    | (go_at_call 9; refine (alive_any _).mono ?_; rintro e w' ⟨rfl, B⟩))
  go_ret
  exact ⟨rfl, BA.trans (B.mono BA.size)⟩
def OfRV (A : Option Addr) (n c : Nat) (msg : List Int) (K X Y : Array Value) : Nat → Value → World → Prop
  | 0, v, _ => v = .agg K
  | 1, v, _ => v = .slice A n c
  | 2, v, w => ∃ g, v = .slice (some ⟨g, 0, none⟩) 1 1 ∧ Parts w w.heap.size (some ⟨g, 0, none⟩) [⟨A, n, c, msg⟩]
  | 3, v, _ => v = .agg X
  | 4, v, _ => v = .agg K
  | 5, v, _ => v = .slice A n c
  | 6, v, _ => v = .agg X
  | 7, v, _ => v = .bool true
  | 8, v, _ => v = .bool true
  | 9, v, _ => v = .agg K
  | 10, v, _ => v = .slice A n c
  | 11, v, w => ∃ g, v = .slice (some ⟨g, 0, none⟩) 1 1 ∧ Parts w w.heap.size (some ⟨g, 0, none⟩) [⟨A, n, c, msg⟩]
  | 12, v, _ => v = .agg Y
  | 13, v, _ => v = .agg K
  | 14, v, _ => v = .slice A n c
  | 15, v, _ => v = .agg Y
  | 16, v, _ => v = .bool true
  | 17, v, _ => v = .bool true
  | 18, v, _ => v = .bool true
  | 19, v, _ => v = .bool true
  | 20, v, _ => v = .bool true
  | 21, v, _ => v = .bool true
  | _, _, _ => True
theorem OfRV.keep (A : Option Addr) (n c : Nat) (msg : List Int) (K X Y : Array Value) (i : Nat) (v : Value) (w w' : World) (hb : Below w.heap.size w w') (h : OfRV A n c msg K X Y i v w) : OfRV A n c msg K X Y i v w' := by
  by_cases e : i = 2 ∨ i = 11
  · rcases e with rfl | rfl
    · obtain ⟨g, e1, h1⟩ := h
      exact ⟨g, e1, h1.below hb hb.size⟩
    · obtain ⟨g, e1, h1⟩ := h
      exact ⟨g, e1, h1.below hb hb.size⟩
  · unfold OfRV at h ⊢
    split at h <;> first | exact h | exact absurd (by simp) e
def OfRT : List (Option Nat) := [none, none, none, none, some 21, none, none, none, some 0, some 1, some 2, some 3, some 4, some 5, some 6, some 7, some 8, some 9, some 10, some 11, some 12, some 13, some 14, some 15, some 16, some 17, some 18, some 19, some 20]
set_option maxRecDepth 100000 in
set_option maxHeartbeats 1000000 in
theorem cmacof_short (k : List Nat) (A : Option Addr) (n c : Nat) (msg : List Int) (w : World) (hk : k.length = 16) (yk : BY k) (hm : Key w A n c msg) (h : n ≤ 300) :
    Calls Try.prog 3 #[.agg (vec k), .slice A n c] w (AliveRet w) := by
  have d1 : decide (300 < n) = false := by simpa using h
  have hn : n ≤ 9223372036854775807 := by omega
  obtain ⟨K, hK⟩ : ∃ K, K = vec k := ⟨_, rfl⟩
  obtain ⟨X, hX⟩ : ∃ X, X = vec (macL k (nats msg)) := ⟨_, rfl⟩
  obtain ⟨Y, hY⟩ : ∃ Y, Y = vec (shoL k (nats msg)) := ⟨_, rfl⟩
  have EX := Lib.hid (show ∀ w, (Op.equalIn 10000 22 (.agg X) (.agg X)).run Try.prog w = .ok true w from fun w => by rw [hX]; exact eq16 (macL_len _ _) w)
  have EY := Lib.hid (show ∀ w, (Op.equalIn 10000 28 (.agg Y) (.agg Y)).run Try.prog w = .ok true w from fun w => by rw [hY]; exact eq12 (shoL_len _ _) w)
  obtain ⟨w6, hW⟩ : ∃ W, W = w.alloc (.cells K 22) := ⟨_, rfl⟩
  have RK := Lib.hid (show w6.heap[w.heap.size]? = some (.cells K 22 (0, 0)) by rw [hW]; exact heap_alloc_new w _)
  have BW6 := Lib.hid (show Below w.heap.size w w6 by rw [hW]; exact alloc_below _ _)
  have UK := Lib.hid (show (Try.prog.info? 22).map (·.size) = some K.size by rw [hK]; exact vec_info hk)
  have KM := Lib.hid (show ∀ w', Gr w6 w' → Key w' A n c msg from fun w' hG => hm.below (BW6.out.trans (hG.mono BW6.out.size)))
  have PM := Lib.hid (show ∀ w', Gr w6 w' → PartAt w' w'.heap.size ⟨A, n, c, msg⟩ from fun w' hG => (KM.out w' hG).partAt (by omega))
  have OA := Lib.hid (show ∀ w' g, Gr w6 w' → Parts w' w'.heap.size (some ⟨g, 0, none⟩) [⟨A, n, c, msg⟩] → Calls Try.prog 10 #[.agg K, .slice (some ⟨g, 0, none⟩) 1 1] w' (Ret w' (.agg X)) from fun w' g _ hP => by rw [hK, hX]; exact mac1 hP hk yk)
  have SA := Lib.hid (show ∀ w' g, Gr w6 w' → Parts w' w'.heap.size (some ⟨g, 0, none⟩) [⟨A, n, c, msg⟩] → Calls Try.prog 12 #[.agg K, .slice (some ⟨g, 0, none⟩) 1 1] w' (Ret w' (.agg Y)) from fun w' g _ hP => by rw [hK, hY]; exact short1 hP hk yk)
  have RO := Lib.hid (show ∀ w', Gr w6 w' → Calls Try.prog 11 #[.agg K, .slice A n c] w' (Ret w' (.agg X)) from fun w' hG => by rw [hK, hX]; exact rof_any A n c msg k w' (KM.out w' hG).nums hm.byte (by omega) hk yk)
  have RS := Lib.hid (show ∀ w', Gr w6 w' → Calls Try.prog 13 #[.agg K, .slice A n c] w' (Ret w' (.agg Y)) from fun w' hG => by rw [hK, hY]; exact rshort_any A n c msg k w' (KM.out w' hG).nums hm.byte (by omega) hk yk)
  rw [← hK]
  clear hK hX hY hk yk hm h KM
  go_enter Try.func3, Try.ntmps3
  go_upto_region 1 with fail
  rw [← hW]
  clear hW
  go_upto_region 3 with (first
    | (go_at_call 8; (with_reducible refine (long_any A n c _ hn).mono ?_); rintro e w' ⟨rfl, rfl⟩))
  refine with_act fun a0 ha0 => ?_
  have hl : OfRT.length = a0.tmps.size := by rw [ha0]; rfl
  have k1 : a0.tmps[1]?.getD undef = .slice A n c := by rw [ha0]; rfl
  have k2 : a0.tmps[2]?.getD undef = .pointer (some ⟨w.heap.size, 0, none⟩) := by rw [ha0]; rfl
  refine wp_region_vals (by kernel_rfl) OfRT (by kernel_rfl) (by kernel_rfl) hl (fun i => if i = 21 then .bool false else undef) (by rw [ha0]; rfl) (Gr w6) (OfRV A n c msg K X Y) (gr_drew _) (OfRV.keep _ _ _ _ _ _ _) ⟨?_, ?_, ?_, ?_, ?_, ?_, ?_, ?_, ?_, ?_, ?_, ?_, ?_, ?_, ?_, ?_, ?_, ?_, ?_, ?_, ?_, ?_, trivial⟩ ?_
  · refine step_plain [] (by kernel_rfl) rfl fun us w' hG hV => ?_
    have o2 := (frame_old2 (us := us) (a := a0) (show (OfRT[2]?).join = none from rfl)).trans k2
    have hg1 := hG.row RK.out
    generalize frame OfRT a0 us = fr at *
    exact load_ok 22 2 rfl w.heap.size o2 _ _ (0, 0) _ hg1 Try.underlying22 rfl UK.out hG rfl
  · refine step_plain [] (by kernel_rfl) rfl fun us w' hG hV => ?_
    have o1 := (frame_old2 (us := us) (a := a0) (show (OfRT[1]?).join = none from rfl)).trans k1
    generalize frame OfRT a0 us = fr at *
    exact val_ok (v := .slice A n c) (w' := w') (by go_simp) hG (Below.refl _ _) rfl
  · refine step_plain [1] (by kernel_rfl) rfl fun us w' hG hV => ?_
    have e1 : us 1 = .slice A n c := hV 1 (by simp)
    have v1 := (frame_at2 (us := us) hl (show (OfRT[9]?).join = some 1 from rfl)).trans e1
    generalize frame OfRT a0 us = fr at *
    exact val_ok (v := .slice (some ⟨w'.heap.size, 0, none⟩) 1 1) (w' := w'.alloc (.cells #[.slice A n c] 23)) (by go_simp) (hG.below (alloc_below _ _)) (alloc_below _ _) ⟨_, rfl, parts1 (PM.out w' hG) _⟩
  · refine step_plain [0, 2] (by kernel_rfl) rfl fun us w' hG hV => ?_
    have e0 : us 0 = .agg K := hV 0 (by simp)
    have v0 := (frame_at2 (us := us) hl (show (OfRT[8]?).join = some 0 from rfl)).trans e0
    obtain ⟨g, e2, hP⟩ : ∃ g, us 2 = .slice (some ⟨g, 0, none⟩) 1 1 ∧ Parts w' w'.heap.size (some ⟨g, 0, none⟩) [⟨A, n, c, msg⟩] := hV 2 (by simp)
    have v2 := (frame_at2 (us := us) hl (show (OfRT[10]?).join = some 2 from rfl)).trans e2
    generalize frame OfRT a0 us = fr at *
    exact call_ok (f := 10) (args := #[.agg K, .slice (some ⟨g, 0, none⟩) 1 1]) (by go_simp) ((OA.out w' g hG hP).mono fun e w'' h => ⟨_, h.1, hG.below h.2, h.2, rfl⟩)
  · refine step_plain [] (by kernel_rfl) rfl fun us w' hG hV => ?_
    have o2 := (frame_old2 (us := us) (a := a0) (show (OfRT[2]?).join = none from rfl)).trans k2
    have hg1 := hG.row RK.out
    generalize frame OfRT a0 us = fr at *
    exact load_ok 22 2 rfl w.heap.size o2 _ _ (0, 0) _ hg1 Try.underlying22 rfl UK.out hG rfl
  · refine step_plain [] (by kernel_rfl) rfl fun us w' hG hV => ?_
    have o1 := (frame_old2 (us := us) (a := a0) (show (OfRT[1]?).join = none from rfl)).trans k1
    generalize frame OfRT a0 us = fr at *
    exact val_ok (v := .slice A n c) (w' := w') (by go_simp) hG (Below.refl _ _) rfl
  · refine step_plain [4, 5] (by kernel_rfl) rfl fun us w' hG hV => ?_
    have e4 : us 4 = .agg K := hV 4 (by simp)
    have v4 := (frame_at2 (us := us) hl (show (OfRT[12]?).join = some 4 from rfl)).trans e4
    have e5 : us 5 = .slice A n c := hV 5 (by simp)
    have v5 := (frame_at2 (us := us) hl (show (OfRT[13]?).join = some 5 from rfl)).trans e5
    generalize frame OfRT a0 us = fr at *
    exact call_ok (f := 11) (args := #[.agg K, .slice A n c]) (by go_simp) ((RO.out w' hG).mono fun e w'' h => ⟨_, h.1, hG.below h.2, h.2, rfl⟩)
  · refine step_plain [3, 6] (by kernel_rfl) rfl fun us w' hG hV => ?_
    have e3 : us 3 = .agg X := hV 3 (by simp)
    have v3 := (frame_at2 (us := us) hl (show (OfRT[11]?).join = some 3 from rfl)).trans e3
    have e6 : us 6 = .agg X := hV 6 (by simp)
    have v6 := (frame_at2 (us := us) hl (show (OfRT[14]?).join = some 6 from rfl)).trans e6
    have hq := EX.out w'
    have hgd := guard16
    generalize frame OfRT a0 us = fr at *
    exact val_ok (v := .bool true) (w' := w') (by go_simp) hG (Below.refl _ _) rfl
  · refine step_plain [7] (by kernel_rfl) rfl fun us w' hG hV => ?_
    have e7 : us 7 = .bool true := hV 7 (by simp)
    have v7 := (frame_at2 (us := us) hl (show (OfRT[15]?).join = some 7 from rfl)).trans e7
    generalize frame OfRT a0 us = fr at *
    exact val_ok (v := .bool true) (w' := w') (by go_simp) hG (Below.refl _ _) rfl
  · refine step_guard [8] (by kernel_rfl) (j := 8) (t := 16) (b := true) rfl (by simp) rfl hl rfl (fun v w h => h) fun us w' hG hV => ?_
    have e8 : us 8 = .bool true := hV 8 (by simp)
    have v8 := (frame_at2 (us := us) hl (show (OfRT[16]?).join = some 8 from rfl)).trans e8
    have o2 := (frame_old2 (us := us) (a := a0) (show (OfRT[2]?).join = none from rfl)).trans k2
    have hg1 := hG.row RK.out
    generalize frame OfRT a0 us = fr at *
    exact load_ok 22 2 rfl w.heap.size o2 _ _ (0, 0) _ hg1 Try.underlying22 rfl UK.out hG rfl
  · refine step_guard [8] (by kernel_rfl) (j := 8) (t := 16) (b := true) rfl (by simp) rfl hl rfl (fun v w h => h) fun us w' hG hV => ?_
    have e8 : us 8 = .bool true := hV 8 (by simp)
    have v8 := (frame_at2 (us := us) hl (show (OfRT[16]?).join = some 8 from rfl)).trans e8
    have o1 := (frame_old2 (us := us) (a := a0) (show (OfRT[1]?).join = none from rfl)).trans k1
    generalize frame OfRT a0 us = fr at *
    exact val_ok (v := .slice A n c) (w' := w') (by go_simp) hG (Below.refl _ _) rfl
  · refine step_guard [8, 10] (by kernel_rfl) (j := 8) (t := 16) (b := true) rfl (by simp) rfl hl rfl (fun v w h => h) fun us w' hG hV => ?_
    have e8 : us 8 = .bool true := hV 8 (by simp)
    have v8 := (frame_at2 (us := us) hl (show (OfRT[16]?).join = some 8 from rfl)).trans e8
    have e10 : us 10 = .slice A n c := hV 10 (by simp)
    have v10 := (frame_at2 (us := us) hl (show (OfRT[18]?).join = some 10 from rfl)).trans e10
    generalize frame OfRT a0 us = fr at *
    exact val_ok (v := .slice (some ⟨w'.heap.size, 0, none⟩) 1 1) (w' := w'.alloc (.cells #[.slice A n c] 23)) (by go_simp) (hG.below (alloc_below _ _)) (alloc_below _ _) ⟨_, rfl, parts1 (PM.out w' hG) _⟩
  · refine step_guard [8, 9, 11] (by kernel_rfl) (j := 8) (t := 16) (b := true) rfl (by simp) rfl hl rfl (fun v w h => h) fun us w' hG hV => ?_
    have e8 : us 8 = .bool true := hV 8 (by simp)
    have v8 := (frame_at2 (us := us) hl (show (OfRT[16]?).join = some 8 from rfl)).trans e8
    have e9 : us 9 = .agg K := hV 9 (by simp)
    have v9 := (frame_at2 (us := us) hl (show (OfRT[17]?).join = some 9 from rfl)).trans e9
    obtain ⟨g, e11, hP⟩ : ∃ g, us 11 = .slice (some ⟨g, 0, none⟩) 1 1 ∧ Parts w' w'.heap.size (some ⟨g, 0, none⟩) [⟨A, n, c, msg⟩] := hV 11 (by simp)
    have v11 := (frame_at2 (us := us) hl (show (OfRT[19]?).join = some 11 from rfl)).trans e11
    generalize frame OfRT a0 us = fr at *
    exact call_ok (f := 12) (args := #[.agg K, .slice (some ⟨g, 0, none⟩) 1 1]) (by go_simp) ((SA.out w' g hG hP).mono fun e w'' h => ⟨_, h.1, hG.below h.2, h.2, rfl⟩)
  · refine step_guard [8] (by kernel_rfl) (j := 8) (t := 16) (b := true) rfl (by simp) rfl hl rfl (fun v w h => h) fun us w' hG hV => ?_
    have e8 : us 8 = .bool true := hV 8 (by simp)
    have v8 := (frame_at2 (us := us) hl (show (OfRT[16]?).join = some 8 from rfl)).trans e8
    have o2 := (frame_old2 (us := us) (a := a0) (show (OfRT[2]?).join = none from rfl)).trans k2
    have hg1 := hG.row RK.out
    generalize frame OfRT a0 us = fr at *
    exact load_ok 22 2 rfl w.heap.size o2 _ _ (0, 0) _ hg1 Try.underlying22 rfl UK.out hG rfl
  · refine step_guard [8] (by kernel_rfl) (j := 8) (t := 16) (b := true) rfl (by simp) rfl hl rfl (fun v w h => h) fun us w' hG hV => ?_
    have e8 : us 8 = .bool true := hV 8 (by simp)
    have v8 := (frame_at2 (us := us) hl (show (OfRT[16]?).join = some 8 from rfl)).trans e8
    have o1 := (frame_old2 (us := us) (a := a0) (show (OfRT[1]?).join = none from rfl)).trans k1
    generalize frame OfRT a0 us = fr at *
    exact val_ok (v := .slice A n c) (w' := w') (by go_simp) hG (Below.refl _ _) rfl
  · refine step_guard [8, 13, 14] (by kernel_rfl) (j := 8) (t := 16) (b := true) rfl (by simp) rfl hl rfl (fun v w h => h) fun us w' hG hV => ?_
    have e8 : us 8 = .bool true := hV 8 (by simp)
    have v8 := (frame_at2 (us := us) hl (show (OfRT[16]?).join = some 8 from rfl)).trans e8
    have e13 : us 13 = .agg K := hV 13 (by simp)
    have v13 := (frame_at2 (us := us) hl (show (OfRT[21]?).join = some 13 from rfl)).trans e13
    have e14 : us 14 = .slice A n c := hV 14 (by simp)
    have v14 := (frame_at2 (us := us) hl (show (OfRT[22]?).join = some 14 from rfl)).trans e14
    generalize frame OfRT a0 us = fr at *
    exact call_ok (f := 13) (args := #[.agg K, .slice A n c]) (by go_simp) ((RS.out w' hG).mono fun e w'' h => ⟨_, h.1, hG.below h.2, h.2, rfl⟩)
  · refine step_guard [8, 12, 15] (by kernel_rfl) (j := 8) (t := 16) (b := true) rfl (by simp) rfl hl rfl (fun v w h => h) fun us w' hG hV => ?_
    have e8 : us 8 = .bool true := hV 8 (by simp)
    have v8 := (frame_at2 (us := us) hl (show (OfRT[16]?).join = some 8 from rfl)).trans e8
    have e12 : us 12 = .agg Y := hV 12 (by simp)
    have v12 := (frame_at2 (us := us) hl (show (OfRT[20]?).join = some 12 from rfl)).trans e12
    have e15 : us 15 = .agg Y := hV 15 (by simp)
    have v15 := (frame_at2 (us := us) hl (show (OfRT[23]?).join = some 15 from rfl)).trans e15
    have hq := EY.out w'
    have hgd := guard12
    generalize frame OfRT a0 us = fr at *
    exact val_ok (v := .bool true) (w' := w') (by go_simp) hG (Below.refl _ _) rfl
  · refine step_plain [8, 16] (by kernel_rfl) rfl fun us w' hG hV => ?_
    have e8 : us 8 = .bool true := hV 8 (by simp)
    have v8 := (frame_at2 (us := us) hl (show (OfRT[16]?).join = some 8 from rfl)).trans e8
    have e16 : us 16 = .bool true := hV 16 (by simp)
    have v16 := (frame_at2 (us := us) hl (show (OfRT[24]?).join = some 16 from rfl)).trans e16
    generalize frame OfRT a0 us = fr at *
    exact val_ok (v := .bool true) (w' := w') (by go_simp) hG (Below.refl _ _) rfl
  · refine step_plain [17] (by kernel_rfl) rfl fun us w' hG hV => ?_
    have e17 : us 17 = .bool true := hV 17 (by simp)
    have v17 := (frame_at2 (us := us) hl (show (OfRT[25]?).join = some 17 from rfl)).trans e17
    generalize frame OfRT a0 us = fr at *
    exact val_ok (v := .bool true) (w' := w') (by go_simp) hG (Below.refl _ _) rfl
  · refine step_guard [18] (by kernel_rfl) (j := 18) (t := 26) (b := true) rfl (by simp) rfl hl rfl (fun v w h => h) fun us w' hG hV => ?_
    have e18 : us 18 = .bool true := hV 18 (by simp)
    have v18 := (frame_at2 (us := us) hl (show (OfRT[26]?).join = some 18 from rfl)).trans e18
    generalize frame OfRT a0 us = fr at *
    exact call_ok (f := 9) (args := #[]) (by go_simp) ((alive_any w').mono fun e w'' h => ⟨_, h.1, hG.below h.2, h.2, rfl⟩)
  · refine step_plain [18, 19] (by kernel_rfl) rfl fun us w' hG hV => ?_
    have e18 : us 18 = .bool true := hV 18 (by simp)
    have v18 := (frame_at2 (us := us) hl (show (OfRT[26]?).join = some 18 from rfl)).trans e18
    have e19 : us 19 = .bool true := hV 19 (by simp)
    have v19 := (frame_at2 (us := us) hl (show (OfRT[27]?).join = some 19 from rfl)).trans e19
    generalize frame OfRT a0 us = fr at *
    exact val_ok (v := .bool true) (w' := w') (by go_simp) hG (Below.refl _ _) rfl
  · refine step_plain [20] (by kernel_rfl) rfl fun us w' hG hV => ?_
    have e20 : us 20 = .bool true := hV 20 (by simp)
    have v20 := (frame_at2 (us := us) hl (show (OfRT[28]?).join = some 20 from rfl)).trans e20
    generalize frame OfRT a0 us = fr at *
    exact val_ok (v := .bool true) (w' := w') (by go_simp) hG (Below.refl _ _) rfl
  · intro us w' hG hV
    have eL : us 21 = .bool true := hV 21 (by decide)
    subst ha0
    simp only [frame, OfRT, fill]
    rw [eL]
    go_wp2_with fail
    go_ret
    exact ⟨rfl, BW6.out.trans (hG.mono BW6.out.size)⟩
theorem cmacof_walk (k : List Nat) (A : Option Addr) (n c : Nat) (msg : List Int) (w : World) (hk : k.length = 16) (yk : BY k) (hm : Key w A n c msg) :
    Calls Try.prog 3 #[.agg (vec k), .slice A n c] w (AliveRet w) := by
  have h1 := hm.cap
  have h2 := hm.max
  by_cases h : 300 < n
  · exact cmacof_long k A n c w (by omega) h
  · exact cmacof_short k A n c msg w hk yk hm (by omega)
def PaRV (P : Option Addr) (m c2 : Nat) (A4 : Option Addr) (L c4 : Nat) (bs : List Int) (K X : Array Value) : Nat → Value → World → Prop
  | 0, v, _ => v = .agg K
  | 1, v, _ => v = .slice P m c2
  | 2, v, _ => v = .agg X
  | 3, v, _ => v = .agg K
  | 4, v, _ => v = .slice A4 L c4
  | 5, v, w => ∃ g, v = .slice (some ⟨g, 0, none⟩) 1 1 ∧ Parts w w.heap.size (some ⟨g, 0, none⟩) [⟨A4, L, c4, bs⟩]
  | 6, v, _ => v = .agg X
  | 7, v, _ => v = .bool true
  | 8, v, _ => v = .bool true
  | 9, v, _ => v = .bool true
  | 10, v, _ => v = .bool true
  | 11, v, _ => v = .bool true
  | _, _, _ => True
theorem PaRV.keep (P : Option Addr) (m c2 : Nat) (A4 : Option Addr) (L c4 : Nat) (bs : List Int) (K X : Array Value) (i : Nat) (v : Value) (w w' : World) (hb : Below w.heap.size w w') (h : PaRV P m c2 A4 L c4 bs K X i v w) : PaRV P m c2 A4 L c4 bs K X i v w' := by
  by_cases e : i = 5
  · rcases e with rfl
    obtain ⟨g, e1, h1⟩ := h
    exact ⟨g, e1, h1.below hb hb.size⟩
  · unfold PaRV at h ⊢
    split at h <;> first | exact h | exact absurd (by simp) e
def PaRT : List (Option Nat) := [none, none, none, none, some 11, none, none, none, none, none, none, none, none, none, none, none, none, none, none, none, none, none, none, none, none, none, some 0, some 1, some 2, some 3, some 4, some 5, some 6, some 7, some 8, some 9, some 10]
/-- all bytes so far: the call's own -/
def AllR (w : World) (T : List Int) (v : Value) (wr : World) : Prop := ∃ A c L, v = .slice A L c ∧ T.length = L ∧ L ≤ c ∧ c ≤ maxLen ∧ Own .u8 5 wr w.heap.size (.slice A L c) T ∧ Below w.heap.size w wr
theorem few_sum {ps : List Part} {N : Nat} : ∀ k, k ≤ ps.length → FewR N ps k → nsum (ps.take k) ≤ N * k
  | 0, _, _ => by simp [nsum]
  | k + 1, hk, h => by
    have h1 := few_sum k (by omega) fun i hi hik => h i hi (by omega)
    have h2 := h k (by omega) (by omega)
    rw [nsum_snoc ps k (by omega), Nat.mul_succ]; omega
theorem came_cat {w : World} {B : Nat} {P : Option Addr} {ps : List Part} (h : Came w B P ps) : ∀ k, k ≤ ps.length → (catL (ps.take k)).length = nsum (ps.take k)
  | 0, _ => by simp [catL, nsum]
  | k + 1, hk => by
    rw [catL_snoc ps k (by omega), List.length_append, came_cat h k (by omega), (h.nums _ (List.getElem_mem (by omega : k < ps.length))).len, nsum_snoc ps k (by omega)]
theorem cmacparts_long (k : List Nat) (P : Option Addr) (m c2 : Nat) (w : World) (hm : m ≤ 9223372036854775807) (h : 10 < m) :
    Calls Try.prog 5 #[.agg (vec k), .slice P m c2] w (AliveRet w) := by
  have d2 : (10 : Int) < (m : Int) := by omega
  have BA := alloc_below w (.cells (vec k) 22)
  generalize vec k = K at *
  clear h
  go_enter Try.func5, Try.ntmps5
  go_wp2_with (first
    | (go_at_call 9; refine (alive_any _).mono ?_; rintro e w' ⟨rfl, B⟩))
  go_ret
  exact ⟨rfl, BA.trans (B.mono BA.size)⟩
set_option maxRecDepth 100000 in
set_option maxHeartbeats 1000000 in
theorem cmacparts_short (k : List Nat) (P : Option Addr) (m c2 : Nat) (ps : List Part) (w : World) (hk : k.length = 16) (yk : BY k) (hp : Came w w.heap.size P ps) (hl : ps.length = m) (hm10 : m ≤ 10) :
    Calls Try.prog 5 #[.agg (vec k), .slice P m c2] w (AliveRet w) := by
  obtain ⟨i0, hi0, hz0, hz1, hz2⟩ := info_parts byte_inf
  have T1 := Lib.hid hi0; have T2 := Lib.hid hz0; have T3 := Lib.hid hz1; have T4 := Lib.hid hz2
  obtain ⟨K, hK⟩ : ∃ K, K = vec k := ⟨_, rfl⟩
  obtain ⟨W, hW⟩ : ∃ W, W = w.alloc (.cells K 22) := ⟨_, rfl⟩
  have RK0 := Lib.hid (show W.heap[w.heap.size]? = some (.cells K 22 (0, 0)) by rw [hW]; exact heap_alloc_new w _)
  have BW := Lib.hid (show Below w.heap.size w W by rw [hW]; exact alloc_below _ _)
  have UK := Lib.hid (show (Try.prog.info? 22).map (·.size) = some K.size by rw [hK]; exact vec_info hk)
  have HK := Lib.hid hK
  have LK := Lib.hid hk
  have YK := Lib.hid yk
  have HP := Lib.hid hp
  have HL := Lib.hid hl
  have hm : m ≤ 9223372036854775807 := by omega
  have R0 : AllR W (catL (ps.take 0)) (.slice none 0 0) W := ⟨none, 0, 0, rfl, rfl, Nat.le_refl _, Nat.zero_le _, Own.nil _ _, Below.refl _ _⟩
  have HR0 := Lib.hid R0
  rw [← hK]
  clear hp hl hi0 hz0 hz1 hz2 hK hk yk R0
  go_enter Try.func5, Try.ntmps5
  go_upto_region 1 with fail
  rw [← hW]
  clear hW
  go_wp2_with fail
  go_loopw [5, 14] (fun v i wr => ∃ j : Nat, j ≤ m ∧ i = .int .i64 j ∧ FewR 60 ps j ∧ AllR W (catL (ps.take j)) v wr) (fun _ i _ => m - (intOf i).toNat)
  case atStart => exact ⟨0, Nat.zero_le _, rfl, fun i _ h => absurd h (by omega), HR0.out⟩
  case round =>
    obtain ⟨j, hj, rfl, hfew, A4, c4, L, rfl, hlen, g4, g4', O4, B4⟩ := hrel
    have HF := Lib.hid hfew
    have HLen := Lib.hid hlen
    have hL : L ≤ 600 := by
      have h1 := few_sum j (by rw [HL.out]; exact hj) hfew
      have h2 := came_cat HP.out j (by rw [HL.out]; exact hj)
      rw [hlen] at h2
      have : 60 * j ≤ 60 * 10 := Nat.mul_le_mul_left _ (by omega)
      omega
    have HO4 := Lib.hid O4
    have HB4 := Lib.hid B4
    have HB5 := Lib.hid (BW.out.trans (B4.mono BW.out.size))
    clear hfew hlen O4 B4
    by_cases hlt : j < m
    · have hkl : j < ps.length := by rw [HL.out]; exact hlt
      obtain ⟨b, o, rfl, hbb, hcell⟩ := HP.out.at_ (by rw [HL.out]; omega)
      have cc := (HB5.out.cell (p := ⟨b, o + j, none⟩) hbb).trans (hcell j hkl)
      have hsz := HP.out.size _ (List.getElem_mem hkl)
      have hnp := ((HP.out.nums _ (List.getElem_mem hkl)).below HB5.out).more HB5.out.size
      have HN : Hid (ps[j].n ≤ 60 → FewR 60 ps (j + 1)) := Lib.hid fun h i hi hik => by
        by_cases e : i = j
        · subst e; exact h
        · exact HF.out i hi (by omega)
      have hsn := catL_snoc ps j hkl
      generalize hpk : ps[j] = p at *
      obtain ⟨A', n', c', bs⟩ := p
      simp only at cc hsz HN hnp hsn
      have HSN := Lib.hid hsn
      have HNP := Lib.hid hnp
      have hn63 : n' ≤ 9223372036854775807 := by omega
      have hkz : (j : Int) < (m : Int) := by omega
      clear hcell hpk hsn hnp
      by_cases hlong : 60 < n'
      · have hlz : (60 : Int) < (n' : Int) := by omega
        go_wp2_with (go_at_call 9; ((with_reducible refine (alive_any _).mono ?_); rintro e w' ⟨rfl, BB⟩))
        go_ret
        exact ⟨rfl, HB5.out.trans (BB.mono HB5.out.size)⟩
      · have hlz : ¬ (60 : Int) < (n' : Int) := by omega
        have hn := HN.out (by omega)
        have HN2 := Lib.hid hn
        have hn5 : n' ≤ 60 := by omega
        clear hlong hn HN
        go_wp2_with (first
          | (at_builtin; (refine wpList_appT _ rfl (.tmp 22) (.tmp 23) _ rfl 5 i0 _ 1 Try.underlying23 T1.out T2.out T3.out T4.out rfl W.heap.size _ _ rfl HO4.out wr.heap.size A' n' c' bs rfl HNP.out (by rw [HLen.out]; simp only [maxLen]; omega) (by rw [HLen.out]; omega) HB4.out.size (L + n') (by rw [HLen.out]) ?_)
             intro A5 c5 w5 g5 g5' O5 B5
             have P5 := Lib.hid (show AllR W (catL (ps.take (j + 1))) (.slice A5 (L + n') c5) w5 by
               rw [HSN.out]
               exact ⟨A5, c5, L + n', rfl, by rw [List.length_append, HLen.out, HNP.out.len], g5, g5', O5, HB4.out.trans B5⟩)
             clear O5 B5 g5 g5'))
        clear cc hlz hkz
        go_roundw
        case rel => exact ⟨j + 1, by omega, by go_num, HN2.out, P5.out⟩
        case measure => simp [intOf]; omega
    · have e : j = m := by omega
      have hF : catL (ps.take j) = catL ps := by rw [List.take_of_length_le (by rw [HL.out]; omega)]
      have hparts := HP.out.parts (N := 60) (by decide) (fun i hi => HF.out i hi (by rw [e, ← HL.out]; exact hi))
      have HPA := Lib.hid hparts
      have HCB := Lib.hid (catL_byte (w := w) (B := w.heap.size) (ps := ps) hparts.all)
      rw [hF] at HO4 HLen
      obtain ⟨bs, hbs⟩ : ∃ bs, bs = catL ps := ⟨_, rfl⟩
      rw [← hbs] at HO4 HLen HCB
      obtain ⟨X, hX⟩ : ∃ X, X = vec (macL k (nats bs)) := ⟨_, rfl⟩
      have EX := Lib.hid (show ∀ w, (Op.equalIn 10000 22 (.agg X) (.agg X)).run Try.prog w = .ok true w from fun w => by rw [hX]; exact eq16 (macL_len _ _) w)
      obtain ⟨w6, hw6⟩ : ∃ w6, w6 = wr := ⟨_, rfl⟩
      subst hw6
      have BW6 := HB5
      have RK := Lib.hid (show w6.heap[w.heap.size]? = some (.cells K 22 (0, 0)) by rw [HB4.out.block _ (row_lt2 RK0.out)]; exact RK0.out)
      have PM := Lib.hid (show ∀ w', Gr w6 w' → PartAt w' w'.heap.size ⟨A4, L, c4, bs⟩ from fun w' hG => ⟨(HO4.out.below hG).nums, (show L ≤ 10000 by omega), HCB.out, g4, (show c4 ≤ 9223372036854775807 by simpa [maxLen] using g4')⟩)
      have O1 := Lib.hid (show ∀ w', Gr w6 w' → Calls Try.prog 10 #[.agg K, .slice P m c2] w' (Ret w' (.agg X)) from fun w' hG => by
        have hb := BW6.out.trans (hG.mono BW6.out.size)
        rw [HK.out, hX, hbs]; exact cof_any P m c2 ps k w' (HPA.out.below hb hb.size) HL.out (by omega) LK.out YK.out)
      have OA := Lib.hid (show ∀ w' g, Gr w6 w' → Parts w' w'.heap.size (some ⟨g, 0, none⟩) [⟨A4, L, c4, bs⟩] → Calls Try.prog 10 #[.agg K, .slice (some ⟨g, 0, none⟩) 1 1] w' (Ret w' (.agg X)) from fun w' g _ hP => by rw [HK.out, hX]; exact mac1 hP LK.out YK.out)
      have hkz : ¬ (j : Int) < (m : Int) := by omega
      clear hparts hF hbs hX e hlt HLen
      go_upto_region 11 with fail
      clear hkz
      refine with_act fun a0 ha0 => ?_
      have hl : PaRT.length = a0.tmps.size := by rw [ha0]; rfl
      have k1 : a0.tmps[1]?.getD undef = .slice P m c2 := by rw [ha0]; rfl
      have k2 : a0.tmps[2]?.getD undef = .pointer (some ⟨w.heap.size, 0, none⟩) := by rw [ha0]; rfl
      have k5 : a0.tmps[5]?.getD undef = .slice A4 L c4 := by rw [ha0]; rfl
      refine wp_region_vals (by kernel_rfl) PaRT (by kernel_rfl) (by kernel_rfl) hl (fun i => if i = 11 then a0.tmps[4]?.getD undef else undef) (by rw [ha0]; rfl) (Gr w6) (PaRV P m c2 A4 L c4 bs K X) (gr_drew _) (PaRV.keep _ _ _ _ _ _ _ _ _) ⟨?_, ?_, ?_, ?_, ?_, ?_, ?_, ?_, ?_, ?_, ?_, ?_, trivial⟩ ?_
      · refine step_plain [] (by kernel_rfl) rfl fun us w' hG hV => ?_
        have o2 := (frame_old2 (us := us) (a := a0) (show (PaRT[2]?).join = none from rfl)).trans k2
        have hg1 := hG.row RK.out
        generalize frame PaRT a0 us = fr at *
        exact load_ok 22 2 rfl w.heap.size o2 _ _ (0, 0) _ hg1 Try.underlying22 rfl UK.out hG rfl
      · refine step_plain [] (by kernel_rfl) rfl fun us w' hG hV => ?_
        have o1 := (frame_old2 (us := us) (a := a0) (show (PaRT[1]?).join = none from rfl)).trans k1
        generalize frame PaRT a0 us = fr at *
        exact val_ok (v := .slice P m c2) (w' := w') (by go_simp) hG (Below.refl _ _) rfl
      · refine step_plain [0, 1] (by kernel_rfl) rfl fun us w' hG hV => ?_
        have e0 : us 0 = .agg K := hV 0 (by simp)
        have v0 := (frame_at2 (us := us) hl (show (PaRT[26]?).join = some 0 from rfl)).trans e0
        have e1 : us 1 = .slice P m c2 := hV 1 (by simp)
        have v1 := (frame_at2 (us := us) hl (show (PaRT[27]?).join = some 1 from rfl)).trans e1
        generalize frame PaRT a0 us = fr at *
        exact call_ok (f := 10) (args := #[.agg K, .slice P m c2]) (by go_simp) ((O1.out w' hG).mono fun e w'' h => ⟨_, h.1, hG.below h.2, h.2, rfl⟩)
      · refine step_plain [] (by kernel_rfl) rfl fun us w' hG hV => ?_
        have o2 := (frame_old2 (us := us) (a := a0) (show (PaRT[2]?).join = none from rfl)).trans k2
        have hg1 := hG.row RK.out
        generalize frame PaRT a0 us = fr at *
        exact load_ok 22 2 rfl w.heap.size o2 _ _ (0, 0) _ hg1 Try.underlying22 rfl UK.out hG rfl
      · refine step_plain [] (by kernel_rfl) rfl fun us w' hG hV => ?_
        have o5 := (frame_old2 (us := us) (a := a0) (show (PaRT[5]?).join = none from rfl)).trans k5
        generalize frame PaRT a0 us = fr at *
        exact val_ok (v := .slice A4 L c4) (w' := w') (by go_simp) hG (Below.refl _ _) rfl
      · refine step_plain [4] (by kernel_rfl) rfl fun us w' hG hV => ?_
        have e4 : us 4 = .slice A4 L c4 := hV 4 (by simp)
        have v4 := (frame_at2 (us := us) hl (show (PaRT[30]?).join = some 4 from rfl)).trans e4
        generalize frame PaRT a0 us = fr at *
        exact val_ok (v := .slice (some ⟨w'.heap.size, 0, none⟩) 1 1) (w' := w'.alloc (.cells #[.slice A4 L c4] 23)) (by go_simp) (hG.below (alloc_below _ _)) (alloc_below _ _) ⟨_, rfl, parts1 (PM.out w' hG) _⟩
      · refine step_plain [3, 5] (by kernel_rfl) rfl fun us w' hG hV => ?_
        have e3 : us 3 = .agg K := hV 3 (by simp)
        have v3 := (frame_at2 (us := us) hl (show (PaRT[29]?).join = some 3 from rfl)).trans e3
        obtain ⟨g, e5, hP⟩ : ∃ g, us 5 = .slice (some ⟨g, 0, none⟩) 1 1 ∧ Parts w' w'.heap.size (some ⟨g, 0, none⟩) [⟨A4, L, c4, bs⟩] := hV 5 (by simp)
        have v5 := (frame_at2 (us := us) hl (show (PaRT[31]?).join = some 5 from rfl)).trans e5
        generalize frame PaRT a0 us = fr at *
        exact call_ok (f := 10) (args := #[.agg K, .slice (some ⟨g, 0, none⟩) 1 1]) (by go_simp) ((OA.out w' g hG hP).mono fun e w'' h => ⟨_, h.1, hG.below h.2, h.2, rfl⟩)
      · refine step_plain [2, 6] (by kernel_rfl) rfl fun us w' hG hV => ?_
        have e2 : us 2 = .agg X := hV 2 (by simp)
        have v2 := (frame_at2 (us := us) hl (show (PaRT[28]?).join = some 2 from rfl)).trans e2
        have e6 : us 6 = .agg X := hV 6 (by simp)
        have v6 := (frame_at2 (us := us) hl (show (PaRT[32]?).join = some 6 from rfl)).trans e6
        have hq := EX.out w'
        have hgd := guard16
        generalize frame PaRT a0 us = fr at *
        exact val_ok (v := .bool true) (w' := w') (by go_simp) hG (Below.refl _ _) rfl
      · refine step_plain [7] (by kernel_rfl) rfl fun us w' hG hV => ?_
        have e7 : us 7 = .bool true := hV 7 (by simp)
        have v7 := (frame_at2 (us := us) hl (show (PaRT[33]?).join = some 7 from rfl)).trans e7
        generalize frame PaRT a0 us = fr at *
        exact val_ok (v := .bool true) (w' := w') (by go_simp) hG (Below.refl _ _) rfl
      · refine step_guard [8] (by kernel_rfl) (j := 8) (t := 34) (b := true) rfl (by simp) rfl hl rfl (fun v w h => h) fun us w' hG hV => ?_
        have e8 : us 8 = .bool true := hV 8 (by simp)
        have v8 := (frame_at2 (us := us) hl (show (PaRT[34]?).join = some 8 from rfl)).trans e8
        generalize frame PaRT a0 us = fr at *
        exact call_ok (f := 9) (args := #[]) (by go_simp) ((alive_any w').mono fun e w'' h => ⟨_, h.1, hG.below h.2, h.2, rfl⟩)
      · refine step_plain [8, 9] (by kernel_rfl) rfl fun us w' hG hV => ?_
        have e8 : us 8 = .bool true := hV 8 (by simp)
        have v8 := (frame_at2 (us := us) hl (show (PaRT[34]?).join = some 8 from rfl)).trans e8
        have e9 : us 9 = .bool true := hV 9 (by simp)
        have v9 := (frame_at2 (us := us) hl (show (PaRT[35]?).join = some 9 from rfl)).trans e9
        generalize frame PaRT a0 us = fr at *
        exact val_ok (v := .bool true) (w' := w') (by go_simp) hG (Below.refl _ _) rfl
      · refine step_plain [10] (by kernel_rfl) rfl fun us w' hG hV => ?_
        have e10 : us 10 = .bool true := hV 10 (by simp)
        have v10 := (frame_at2 (us := us) hl (show (PaRT[36]?).join = some 10 from rfl)).trans e10
        generalize frame PaRT a0 us = fr at *
        exact val_ok (v := .bool true) (w' := w') (by go_simp) hG (Below.refl _ _) rfl
      · intro us w' hG hV
        have eL : us 11 = .bool true := hV 11 (by decide)
        subst ha0
        simp only [frame, PaRT, fill]
        rw [eL]
        go_wp2_with fail
        go_ret
        exact ⟨rfl, BW6.out.trans (hG.mono BW6.out.size)⟩
theorem cmacparts_walk (k : List Nat) (P : Option Addr) (m c2 : Nat) (ps : List Part) (w : World) (hk : k.length = 16) (yk : BY k) (hp : Came w w.heap.size P ps) (hl : ps.length = m) (hm : m ≤ 9223372036854775807) :
    Calls Try.prog 5 #[.agg (vec k), .slice P m c2] w (AliveRet w) := by
  by_cases h : 10 < m
  · exact cmacparts_long k P m c2 w hm h
  · exact cmacparts_short k P m c2 ps w hk yk hp hl (by omega)
end Go.Proofs.Ytknemkekmahdmaa.aesC
