/-
  3 texts of a proof, joined.
-/
import Derived.Test.YtniimgbljhmcoaaDoorMg25
import Derived.Test.YtniimgbljhmcoaaDoorMg21
import Derived.Test.YtniimgbljhmcoaaDoorMg18
import Derived.Lib.SlBytesConst
import Derived.Test.YtniimgbljhmcoaaDoorMg22

/-
  Whether options may be, and their bytes: the document's.
-/
namespace Go.Proofs.YtniimgbljhmcoaaDoor.opC
open Go.ChangeShapes Go.WideShapes Go.ChangeAt Go.RowKit
open Go.Proofs.YtniimgbljhmcoaaDoor.memC Go.Proofs.YtniimgbljhmcoaaDoor.genC Go.Proofs.YtniimgbljhmcoaaDoor.butC Go.Proofs.YtniimgbljhmcoaaDoor.freeC Go.Proofs.YtniimgbljhmcoaaDoor.adC
open Go.Proofs.YtniimgbljhmcoaaDoor.pkC (OwnE)
set_option linter.unusedVariables false
def maV (g0 : Nat) (CP CK : Array Value) (sc : Int) (A : Option Addr) (n c N : Nat) : Nat → Value → World → Prop
  | 0, v, _ => v = .agg CP
  | 1, v, _ => v = .agg CK
  | 2, v, _ => v = .agg CP
  | 3, v, _ => v = .bool false
  | 4, v, _ => v = .bool false
  | 8, v, _ => v = .bool false
  | 9, v, _ => v = .bool false
  | 14, v, _ => v = .bool false
  | 15, v, _ => v = .bool false
  | 20, v, _ => v = .bool false
  | 21, v, _ => v = .bool false
  | _, _, _ => True
theorem maV.keep (g0 : Nat) (CP CK : Array Value) (sc : Int) (A : Option Addr) (n c N : Nat) (i : Nat) (v : Value) (w w' : World) (hb : Below w.heap.size w w') (h : maV g0 CP CK sc A n c N i v w) : maV g0 CP CK sc A n c N i v w' := by
  unfold maV at h ⊢
  split at h <;> exact h
def maT : List (Option Nat) := [none, none, some 21, some 0, some 1, some 2, some 3, some 4, some 5, some 6, some 7, some 8, some 9, some 10, some 11, some 12, some 13, some 14, some 15, some 16, some 17, some 18, some 19, some 20]
def mbV (g0 : Nat) (CP CK : Array Value) (sc : Int) (A : Option Addr) (n c N : Nat) : Nat → Value → World → Prop
  | 0, v, _ => v = .agg CP
  | 1, v, _ => v = .agg CK
  | 2, v, _ => v = .agg CP
  | 3, v, _ => v = .bool true
  | 4, v, _ => v = .bool true
  | 5, v, _ => v = .pointer (some ⟨g0, 3, none⟩)
  | 6, v, _ => v = .int .u8 sc
  | 7, v, _ => v = .bool false
  | 8, v, _ => v = .bool false
  | 9, v, _ => v = .bool false
  | 14, v, _ => v = .bool false
  | 15, v, _ => v = .bool false
  | 20, v, _ => v = .bool false
  | 21, v, _ => v = .bool false
  | _, _, _ => True
theorem mbV.keep (g0 : Nat) (CP CK : Array Value) (sc : Int) (A : Option Addr) (n c N : Nat) (i : Nat) (v : Value) (w w' : World) (hb : Below w.heap.size w w') (h : mbV g0 CP CK sc A n c N i v w) : mbV g0 CP CK sc A n c N i v w' := by
  unfold mbV at h ⊢
  split at h <;> exact h
def mbT : List (Option Nat) := [none, none, some 21, some 0, some 1, some 2, some 3, some 4, some 5, some 6, some 7, some 8, some 9, some 10, some 11, some 12, some 13, some 14, some 15, some 16, some 17, some 18, some 19, some 20]
def mcV (g0 : Nat) (CP CK : Array Value) (sc : Int) (A : Option Addr) (n c N : Nat) : Nat → Value → World → Prop
  | 0, v, _ => v = .agg CP
  | 1, v, _ => v = .agg CK
  | 2, v, _ => v = .agg CP
  | 3, v, _ => v = .bool true
  | 4, v, _ => v = .bool true
  | 5, v, _ => v = .pointer (some ⟨g0, 3, none⟩)
  | 6, v, _ => v = .int .u8 sc
  | 7, v, _ => v = .bool true
  | 8, v, _ => v = .bool true
  | 9, v, _ => v = .bool true
  | 10, v, _ => v = .pointer (some ⟨g0, 5, none⟩)
  | 11, v, _ => v = .slice A n c
  | 12, v, _ => v = .int .i64 n
  | 13, v, _ => v = .bool false
  | 14, v, _ => v = .bool false
  | 15, v, _ => v = .bool false
  | 20, v, _ => v = .bool false
  | 21, v, _ => v = .bool false
  | _, _, _ => True
theorem mcV.keep (g0 : Nat) (CP CK : Array Value) (sc : Int) (A : Option Addr) (n c N : Nat) (i : Nat) (v : Value) (w w' : World) (hb : Below w.heap.size w w') (h : mcV g0 CP CK sc A n c N i v w) : mcV g0 CP CK sc A n c N i v w' := by
  unfold mcV at h ⊢
  split at h <;> exact h
def mcT : List (Option Nat) := [none, none, some 21, some 0, some 1, some 2, some 3, some 4, some 5, some 6, some 7, some 8, some 9, some 10, some 11, some 12, some 13, some 14, some 15, some 16, some 17, some 18, some 19, some 20]
def mdV (g0 : Nat) (CP CK : Array Value) (sc : Int) (A : Option Addr) (n c N : Nat) : Nat → Value → World → Prop
  | 0, v, _ => v = .agg CP
  | 1, v, _ => v = .agg CK
  | 2, v, _ => v = .agg CP
  | 3, v, _ => v = .bool true
  | 4, v, _ => v = .bool true
  | 5, v, _ => v = .pointer (some ⟨g0, 3, none⟩)
  | 6, v, _ => v = .int .u8 sc
  | 7, v, _ => v = .bool true
  | 8, v, _ => v = .bool true
  | 9, v, _ => v = .bool true
  | 10, v, _ => v = .pointer (some ⟨g0, 5, none⟩)
  | 11, v, _ => v = .slice A n c
  | 12, v, _ => v = .int .i64 n
  | 13, v, _ => v = .bool true
  | 14, v, _ => v = .bool true
  | 15, v, _ => v = .bool true
  | 16, v, _ => v = .agg CP
  | 17, v, w => ∃ A' c', v = .slice A' N c'
  | 18, v, _ => v = .int .i64 N
  | 19, v, _ => v = .bool false
  | 20, v, _ => v = .bool false
  | 21, v, _ => v = .bool false
  | _, _, _ => True
theorem mdV.keep (g0 : Nat) (CP CK : Array Value) (sc : Int) (A : Option Addr) (n c N : Nat) (i : Nat) (v : Value) (w w' : World) (hb : Below w.heap.size w w') (h : mdV g0 CP CK sc A n c N i v w) : mdV g0 CP CK sc A n c N i v w' := by
  by_cases e17 : i = 17
  · subst e17
    exact h
  unfold mdV at h ⊢
  split at h <;> first | exact h | exact absurd rfl (by assumption)
def mdT : List (Option Nat) := [none, none, some 21, some 0, some 1, some 2, some 3, some 4, some 5, some 6, some 7, some 8, some 9, some 10, some 11, some 12, some 13, some 14, some 15, some 16, some 17, some 18, some 19, some 20]
def meV (g0 : Nat) (CP CK : Array Value) (sc : Int) (A : Option Addr) (n c N : Nat) : Nat → Value → World → Prop
  | 0, v, _ => v = .agg CP
  | 1, v, _ => v = .agg CK
  | 2, v, _ => v = .agg CP
  | 3, v, _ => v = .bool true
  | 4, v, _ => v = .bool true
  | 5, v, _ => v = .pointer (some ⟨g0, 3, none⟩)
  | 6, v, _ => v = .int .u8 sc
  | 7, v, _ => v = .bool true
  | 8, v, _ => v = .bool true
  | 9, v, _ => v = .bool true
  | 10, v, _ => v = .pointer (some ⟨g0, 5, none⟩)
  | 11, v, _ => v = .slice A n c
  | 12, v, _ => v = .int .i64 n
  | 13, v, _ => v = .bool true
  | 14, v, _ => v = .bool true
  | 15, v, _ => v = .bool true
  | 16, v, _ => v = .agg CP
  | 17, v, w => ∃ A' c', v = .slice A' N c'
  | 18, v, _ => v = .int .i64 N
  | 19, v, _ => v = .bool true
  | 20, v, _ => v = .bool true
  | 21, v, _ => v = .bool true
  | _, _, _ => True
theorem meV.keep (g0 : Nat) (CP CK : Array Value) (sc : Int) (A : Option Addr) (n c N : Nat) (i : Nat) (v : Value) (w w' : World) (hb : Below w.heap.size w w') (h : meV g0 CP CK sc A n c N i v w) : meV g0 CP CK sc A n c N i v w' := by
  by_cases e17 : i = 17
  · subst e17
    exact h
  unfold meV at h ⊢
  split at h <;> first | exact h | exact absurd rfl (by assumption)
def meT : List (Option Nat) := [none, none, some 21, some 0, some 1, some 2, some 3, some 4, some 5, some 6, some 7, some 8, some 9, some 10, some 11, some 12, some 13, some 14, some 15, some 16, some 17, some 18, some 19, some 20]
set_option maxRecDepth 100000 in
set_option maxHeartbeats 4000000 in
theorem rmay_any (o : Opt) (A : Option Addr) (n c : Nat) (w : World) (ho : o.Ok) (hn : o.sk.length = n) (hs : Prs w w.heap.size A n o.sk) (hm : n ≤ 600) :
    Calls Tryd.prog 36 #[.agg (optV o A n c)] w (Ret w (.bool (mayB o))) := by
  obtain ⟨W, hW⟩ : ∃ W, W = w.alloc (.cells (optV o A n c) 31) := ⟨_, rfl⟩
  have R : W.heap[w.heap.size]? = some (.cells (optV o A n c) 31 (0, 0)) := by rw [hW]; exact heap_alloc_new _ _
  have HB := Lib.hid (show Below w.heap.size w W by rw [hW]; exact alloc_below _ _)
  have KRX := Lib.hid (fun (w' : World) (h : Gr W w') => (show w'.heap[w.heap.size]? = some (.cells (optV o A n c) 31 (0, 0)) by rw [Below.block h _ (lt_of_row R)]; exact R))
  have OC := optC ho.lm A n c
  have K3 := Lib.hid (fun w' (h : Gr W w') => pkC.PkC.cell (KRX.out w' h) OC.sc)
  have K5 := Lib.hid (fun w' (h : Gr W w') => pkC.PkC.cell (KRX.out w' h) OC.sk)
  have IP := Lib.hid OC.info
  have PRX := fun (w' : World) (h : Gr W w') => (hs.below (HB.out.trans (Below.mono h HB.out.size))).more (Nat.le_trans HB.out.size (Below.size h))
  have KT := Lib.hid (fun w' => rkept_any o A n c w' ho)
  have SM := Lib.hid (fun w' (h : Gr W w') => (show Calls Tryd.prog 40 #[.agg (optV (keptO o) A n c), .agg (optV o A n c)] w' (Ret w' (.bool (keptB o))) by
    have hk : Prs w' w'.heap.size A n (keptO o).sk := PRX w' h
    have h9 := rsame_any (keptO o) o A A n c n c w' (keptO_ok ho).lm ho.lm hk (PRX w' h) (by omega) (by omega)
    rw [kept_same] at h9
    exact h9))
  have BY := Lib.hid (fun w' (h : Gr W w') => bytes_any o A n c w' ho hn (PRX w' h) hm)
  obtain ⟨N, hN⟩ : ∃ N, N = (layL o).length := ⟨_, rfl⟩
  have eN : N = sizeN o := hN.trans (lay_len ho.lm)
  unfold OwnB at BY
  rw [← hN] at BY
  obtain ⟨V, hV⟩ : ∃ V, V = mayB o := ⟨_, rfl⟩
  rw [← hV]
  unfold mayB at hV
  rw [hn, ← eN] at hV
  have HV0 := Lib.hid hV
  generalize optV (keptO o) A n c = CK at *
  generalize optV o A n c = CP at *
  generalize layL o = LY at *
  generalize keptB o = b0 at *
  generalize o.sc = sc at *
  clear OC hN eN hV hn hs hm PRX R
  cases b0
  · have HV := Lib.hid (show V = false by rw [HV0.out]; rfl)
    clear HV0
    go_enter Tryd.func36, Tryd.ntmps36
    go_upto_region 1 with fail
    rw [← hW]
    clear hW
    refine with_act fun a0 ha0 => ?_
    have hl : maT.length = a0.tmps.size := by rw [ha0]; rfl
    have k1 : a0.tmps[1]?.getD undef = .pointer (some ⟨w.heap.size, 0, none⟩) := by rw [ha0]; rfl
    refine wp_region_vals (by kernel_rfl) maT (by kernel_rfl) (by kernel_rfl) hl (fun i => if i = 21 then .bool false else undef) (by rw [ha0]; rfl) (Gr W) (maV w.heap.size CP CK sc A n c N) (gr_drewG _ _) (maV.keep _ _ _ _ _ _ _ _) ⟨?_, ?_, ?_, ?_, ?_, ?_, ?_, ?_, ?_, ?_, ?_, ?_, ?_, ?_, ?_, ?_, ?_, ?_, ?_, ?_, ?_, ?_, trivial⟩ ?_
    · refine step_plain [] (by kernel_rfl) rfl fun us w' hG hV => ?_
      have o1 := (frame_old2 (us := us) (a := a0) (show (maT[1]?).join = none from rfl)).trans k1
      have hg1 := (KRX.out w' hG)
      generalize frame maT a0 us = fr at *
      exact load_ok 31 1 rfl (w.heap.size) o1 _ _ (0, 0) _ hg1 Tryd.underlying31 rfl IP.out hG rfl
    · refine step_plain [0] (by kernel_rfl) rfl fun us w' hG hV => ?_
      have e0 : us 0 = .agg CP := hV 0 (by simp)
      have v0 := (frame_at2 (us := us) hl (show (maT[3]?).join = some 0 from rfl)).trans e0
      generalize frame maT a0 us = fr at *
      exact call_ok (f := 70) (args := #[.agg CP]) (by go_simp) ((KT.out w').mono fun e w'' h => ⟨_, h.1, hG.below h.2, h.2, rfl⟩)
    · refine step_plain [] (by kernel_rfl) rfl fun us w' hG hV => ?_
      have o1 := (frame_old2 (us := us) (a := a0) (show (maT[1]?).join = none from rfl)).trans k1
      have hg1 := (KRX.out w' hG)
      generalize frame maT a0 us = fr at *
      exact load_ok 31 1 rfl (w.heap.size) o1 _ _ (0, 0) _ hg1 Tryd.underlying31 rfl IP.out hG rfl
    · refine step_plain [1, 2] (by kernel_rfl) rfl fun us w' hG hV => ?_
      have e1 : us 1 = .agg CK := hV 1 (by simp)
      have v1 := (frame_at2 (us := us) hl (show (maT[4]?).join = some 1 from rfl)).trans e1
      have e2 : us 2 = .agg CP := hV 2 (by simp)
      have v2 := (frame_at2 (us := us) hl (show (maT[5]?).join = some 2 from rfl)).trans e2
      generalize frame maT a0 us = fr at *
      exact call_ok (f := 40) (args := #[.agg CK, .agg CP]) (by go_simp) ((SM.out w' hG).mono fun e w'' h => ⟨_, h.1, hG.below h.2, h.2, rfl⟩)
    · refine step_plain [3] (by kernel_rfl) rfl fun us w' hG hV => ?_
      have e3 : us 3 = .bool false := hV 3 (by simp)
      have v3 := (frame_at2 (us := us) hl (show (maT[6]?).join = some 3 from rfl)).trans e3
      generalize frame maT a0 us = fr at *
      exact val_ok (v := .bool false) (w' := w') (by go_simp) hG (Below.refl _ _) rfl
    · refine step_cnd [4] (by kernel_rfl) (j := 4) (t := 7) rfl (by simp) rfl hl rfl false (fun v w h => h) (fun _ w => trivial) fun hc => by cases hc
    · refine step_cnd [4] (by kernel_rfl) (j := 4) (t := 7) rfl (by simp) rfl hl rfl false (fun v w h => h) (fun _ w => trivial) fun hc => by cases hc
    · refine step_cnd [4] (by kernel_rfl) (j := 4) (t := 7) rfl (by simp) rfl hl rfl false (fun v w h => h) (fun _ w => trivial) fun hc => by cases hc
    · refine step_plain [4] (by kernel_rfl) rfl fun us w' hG hV => ?_
      have e4 : us 4 = .bool false := hV 4 (by simp)
      have v4 := (frame_at2 (us := us) hl (show (maT[7]?).join = some 4 from rfl)).trans e4
      generalize frame maT a0 us = fr at *
      exact val_ok (v := .bool false) (w' := w') (by go_simp) hG (Below.refl _ _) rfl
    · refine step_plain [8] (by kernel_rfl) rfl fun us w' hG hV => ?_
      have e8 : us 8 = .bool false := hV 8 (by simp)
      have v8 := (frame_at2 (us := us) hl (show (maT[11]?).join = some 8 from rfl)).trans e8
      generalize frame maT a0 us = fr at *
      exact val_ok (v := .bool false) (w' := w') (by go_simp) hG (Below.refl _ _) rfl
    · refine step_cnd [9] (by kernel_rfl) (j := 9) (t := 12) rfl (by simp) rfl hl rfl false (fun v w h => h) (fun _ w => trivial) fun hc => by cases hc
    · refine step_cnd [9] (by kernel_rfl) (j := 9) (t := 12) rfl (by simp) rfl hl rfl false (fun v w h => h) (fun _ w => trivial) fun hc => by cases hc
    · refine step_cnd [9] (by kernel_rfl) (j := 9) (t := 12) rfl (by simp) rfl hl rfl false (fun v w h => h) (fun _ w => trivial) fun hc => by cases hc
    · refine step_cnd [9] (by kernel_rfl) (j := 9) (t := 12) rfl (by simp) rfl hl rfl false (fun v w h => h) (fun _ w => trivial) fun hc => by cases hc
    · refine step_plain [9] (by kernel_rfl) rfl fun us w' hG hV => ?_
      have e9 : us 9 = .bool false := hV 9 (by simp)
      have v9 := (frame_at2 (us := us) hl (show (maT[12]?).join = some 9 from rfl)).trans e9
      generalize frame maT a0 us = fr at *
      exact val_ok (v := .bool false) (w' := w') (by go_simp) hG (Below.refl _ _) rfl
    · refine step_plain [14] (by kernel_rfl) rfl fun us w' hG hV => ?_
      have e14 : us 14 = .bool false := hV 14 (by simp)
      have v14 := (frame_at2 (us := us) hl (show (maT[17]?).join = some 14 from rfl)).trans e14
      generalize frame maT a0 us = fr at *
      exact val_ok (v := .bool false) (w' := w') (by go_simp) hG (Below.refl _ _) rfl
    · refine step_cnd [15] (by kernel_rfl) (j := 15) (t := 18) rfl (by simp) rfl hl rfl false (fun v w h => h) (fun _ w => trivial) fun hc => by cases hc
    · refine step_cnd [15] (by kernel_rfl) (j := 15) (t := 18) rfl (by simp) rfl hl rfl false (fun v w h => h) (fun _ w => trivial) fun hc => by cases hc
    · refine step_cnd [15] (by kernel_rfl) (j := 15) (t := 18) rfl (by simp) rfl hl rfl false (fun v w h => h) (fun _ w => trivial) fun hc => by cases hc
    · refine step_cnd [15] (by kernel_rfl) (j := 15) (t := 18) rfl (by simp) rfl hl rfl false (fun v w h => h) (fun _ w => trivial) fun hc => by cases hc
    · refine step_plain [15] (by kernel_rfl) rfl fun us w' hG hV => ?_
      have e15 : us 15 = .bool false := hV 15 (by simp)
      have v15 := (frame_at2 (us := us) hl (show (maT[18]?).join = some 15 from rfl)).trans e15
      generalize frame maT a0 us = fr at *
      exact val_ok (v := .bool false) (w' := w') (by go_simp) hG (Below.refl _ _) rfl
    · refine step_plain [20] (by kernel_rfl) rfl fun us w' hG hV => ?_
      have e20 : us 20 = .bool false := hV 20 (by simp)
      have v20 := (frame_at2 (us := us) hl (show (maT[23]?).join = some 20 from rfl)).trans e20
      generalize frame maT a0 us = fr at *
      exact val_ok (v := .bool false) (w' := w') (by go_simp) hG (Below.refl _ _) rfl
    · intro us w5 hG hV
      have e8 : us 21 = .bool false := hV 21 (by decide)
      subst ha0
      simp only [frame, maT, fill]
      rw [e8]
      have HG3 := Lib.hid hG
      clear hV hl hG k1 e8
      go_wp2_with fail
      go_ret
      exact ⟨ret_bool HV.out.symm, HB.out.trans (Below.mono HG3.out HB.out.size)⟩
  by_cases h1 : sc ≤ 14
  rotate_left
  · have Q1 := Lib.hid (show decide (sc ≤ 14) = false from decide_eq_false h1)
    have HV := Lib.hid (show V = false by rw [HV0.out, Q1.out]; rfl)
    clear HV0 h1
    go_enter Tryd.func36, Tryd.ntmps36
    go_upto_region 1 with fail
    rw [← hW]
    clear hW
    refine with_act fun a0 ha0 => ?_
    have hl : mbT.length = a0.tmps.size := by rw [ha0]; rfl
    have k1 : a0.tmps[1]?.getD undef = .pointer (some ⟨w.heap.size, 0, none⟩) := by rw [ha0]; rfl
    refine wp_region_vals (by kernel_rfl) mbT (by kernel_rfl) (by kernel_rfl) hl (fun i => if i = 21 then .bool false else undef) (by rw [ha0]; rfl) (Gr W) (mbV w.heap.size CP CK sc A n c N) (gr_drewG _ _) (mbV.keep _ _ _ _ _ _ _ _) ⟨?_, ?_, ?_, ?_, ?_, ?_, ?_, ?_, ?_, ?_, ?_, ?_, ?_, ?_, ?_, ?_, ?_, ?_, ?_, ?_, ?_, ?_, trivial⟩ ?_
    · refine step_plain [] (by kernel_rfl) rfl fun us w' hG hV => ?_
      have o1 := (frame_old2 (us := us) (a := a0) (show (mbT[1]?).join = none from rfl)).trans k1
      have hg1 := (KRX.out w' hG)
      generalize frame mbT a0 us = fr at *
      exact load_ok 31 1 rfl (w.heap.size) o1 _ _ (0, 0) _ hg1 Tryd.underlying31 rfl IP.out hG rfl
    · refine step_plain [0] (by kernel_rfl) rfl fun us w' hG hV => ?_
      have e0 : us 0 = .agg CP := hV 0 (by simp)
      have v0 := (frame_at2 (us := us) hl (show (mbT[3]?).join = some 0 from rfl)).trans e0
      generalize frame mbT a0 us = fr at *
      exact call_ok (f := 70) (args := #[.agg CP]) (by go_simp) ((KT.out w').mono fun e w'' h => ⟨_, h.1, hG.below h.2, h.2, rfl⟩)
    · refine step_plain [] (by kernel_rfl) rfl fun us w' hG hV => ?_
      have o1 := (frame_old2 (us := us) (a := a0) (show (mbT[1]?).join = none from rfl)).trans k1
      have hg1 := (KRX.out w' hG)
      generalize frame mbT a0 us = fr at *
      exact load_ok 31 1 rfl (w.heap.size) o1 _ _ (0, 0) _ hg1 Tryd.underlying31 rfl IP.out hG rfl
    · refine step_plain [1, 2] (by kernel_rfl) rfl fun us w' hG hV => ?_
      have e1 : us 1 = .agg CK := hV 1 (by simp)
      have v1 := (frame_at2 (us := us) hl (show (mbT[4]?).join = some 1 from rfl)).trans e1
      have e2 : us 2 = .agg CP := hV 2 (by simp)
      have v2 := (frame_at2 (us := us) hl (show (mbT[5]?).join = some 2 from rfl)).trans e2
      generalize frame mbT a0 us = fr at *
      exact call_ok (f := 40) (args := #[.agg CK, .agg CP]) (by go_simp) ((SM.out w' hG).mono fun e w'' h => ⟨_, h.1, hG.below h.2, h.2, rfl⟩)
    · refine step_plain [3] (by kernel_rfl) rfl fun us w' hG hV => ?_
      have e3 : us 3 = .bool true := hV 3 (by simp)
      have v3 := (frame_at2 (us := us) hl (show (mbT[6]?).join = some 3 from rfl)).trans e3
      generalize frame mbT a0 us = fr at *
      exact val_ok (v := .bool true) (w' := w') (by go_simp) hG (Below.refl _ _) rfl
    · refine step_guard [4] (by kernel_rfl) (j := 4) (t := 7) (b := true) rfl (by simp) rfl hl rfl (fun v w h => h) fun us w' hG hV => ?_
      have o1 := (frame_old2 (us := us) (a := a0) (show (mbT[1]?).join = none from rfl)).trans k1
      generalize frame mbT a0 us = fr at *
      exact val_ok (v := .pointer (some ⟨w.heap.size, 3, none⟩)) (w' := w') (by go_simp) hG (Below.refl _ _) rfl
    · refine step_guard [4, 5] (by kernel_rfl) (j := 4) (t := 7) (b := true) rfl (by simp) rfl hl rfl (fun v w h => h) fun us w' hG hV => ?_
      have e5 : us 5 = .pointer (some ⟨w.heap.size, 3, none⟩) := hV 5 (by simp)
      have v5 := (frame_at2 (us := us) hl (show (mbT[8]?).join = some 5 from rfl)).trans e5
      have hc := K3.out w' hG
      generalize frame mbT a0 us = fr at *
      exact val_ok (v := .int .u8 sc) (w' := w') (by go_simp) hG (Below.refl _ _) rfl
    · refine step_guard [4, 6] (by kernel_rfl) (j := 4) (t := 7) (b := true) rfl (by simp) rfl hl rfl (fun v w h => h) fun us w' hG hV => ?_
      have e6 : us 6 = .int .u8 sc := hV 6 (by simp)
      have v6 := (frame_at2 (us := us) hl (show (mbT[9]?).join = some 6 from rfl)).trans e6
      have q := Q1.out
      generalize frame mbT a0 us = fr at *
      exact val_ok (v := .bool false) (w' := w') (by go_simp) hG (Below.refl _ _) rfl
    · refine step_plain [4, 7] (by kernel_rfl) rfl fun us w' hG hV => ?_
      have e4 : us 4 = .bool true := hV 4 (by simp)
      have v4 := (frame_at2 (us := us) hl (show (mbT[7]?).join = some 4 from rfl)).trans e4
      have e7 : us 7 = .bool false := hV 7 (by simp)
      have v7 := (frame_at2 (us := us) hl (show (mbT[10]?).join = some 7 from rfl)).trans e7
      generalize frame mbT a0 us = fr at *
      exact val_ok (v := .bool false) (w' := w') (by go_simp) hG (Below.refl _ _) rfl
    · refine step_plain [8] (by kernel_rfl) rfl fun us w' hG hV => ?_
      have e8 : us 8 = .bool false := hV 8 (by simp)
      have v8 := (frame_at2 (us := us) hl (show (mbT[11]?).join = some 8 from rfl)).trans e8
      generalize frame mbT a0 us = fr at *
      exact val_ok (v := .bool false) (w' := w') (by go_simp) hG (Below.refl _ _) rfl
    · refine step_cnd [9] (by kernel_rfl) (j := 9) (t := 12) rfl (by simp) rfl hl rfl false (fun v w h => h) (fun _ w => trivial) fun hc => by cases hc
    · refine step_cnd [9] (by kernel_rfl) (j := 9) (t := 12) rfl (by simp) rfl hl rfl false (fun v w h => h) (fun _ w => trivial) fun hc => by cases hc
    · refine step_cnd [9] (by kernel_rfl) (j := 9) (t := 12) rfl (by simp) rfl hl rfl false (fun v w h => h) (fun _ w => trivial) fun hc => by cases hc
    · refine step_cnd [9] (by kernel_rfl) (j := 9) (t := 12) rfl (by simp) rfl hl rfl false (fun v w h => h) (fun _ w => trivial) fun hc => by cases hc
    · refine step_plain [9] (by kernel_rfl) rfl fun us w' hG hV => ?_
      have e9 : us 9 = .bool false := hV 9 (by simp)
      have v9 := (frame_at2 (us := us) hl (show (mbT[12]?).join = some 9 from rfl)).trans e9
      generalize frame mbT a0 us = fr at *
      exact val_ok (v := .bool false) (w' := w') (by go_simp) hG (Below.refl _ _) rfl
    · refine step_plain [14] (by kernel_rfl) rfl fun us w' hG hV => ?_
      have e14 : us 14 = .bool false := hV 14 (by simp)
      have v14 := (frame_at2 (us := us) hl (show (mbT[17]?).join = some 14 from rfl)).trans e14
      generalize frame mbT a0 us = fr at *
      exact val_ok (v := .bool false) (w' := w') (by go_simp) hG (Below.refl _ _) rfl
    · refine step_cnd [15] (by kernel_rfl) (j := 15) (t := 18) rfl (by simp) rfl hl rfl false (fun v w h => h) (fun _ w => trivial) fun hc => by cases hc
    · refine step_cnd [15] (by kernel_rfl) (j := 15) (t := 18) rfl (by simp) rfl hl rfl false (fun v w h => h) (fun _ w => trivial) fun hc => by cases hc
    · refine step_cnd [15] (by kernel_rfl) (j := 15) (t := 18) rfl (by simp) rfl hl rfl false (fun v w h => h) (fun _ w => trivial) fun hc => by cases hc
    · refine step_cnd [15] (by kernel_rfl) (j := 15) (t := 18) rfl (by simp) rfl hl rfl false (fun v w h => h) (fun _ w => trivial) fun hc => by cases hc
    · refine step_plain [15] (by kernel_rfl) rfl fun us w' hG hV => ?_
      have e15 : us 15 = .bool false := hV 15 (by simp)
      have v15 := (frame_at2 (us := us) hl (show (mbT[18]?).join = some 15 from rfl)).trans e15
      generalize frame mbT a0 us = fr at *
      exact val_ok (v := .bool false) (w' := w') (by go_simp) hG (Below.refl _ _) rfl
    · refine step_plain [20] (by kernel_rfl) rfl fun us w' hG hV => ?_
      have e20 : us 20 = .bool false := hV 20 (by simp)
      have v20 := (frame_at2 (us := us) hl (show (mbT[23]?).join = some 20 from rfl)).trans e20
      generalize frame mbT a0 us = fr at *
      exact val_ok (v := .bool false) (w' := w') (by go_simp) hG (Below.refl _ _) rfl
    · intro us w5 hG hV
      have e8 : us 21 = .bool false := hV 21 (by decide)
      subst ha0
      simp only [frame, mbT, fill]
      rw [e8]
      have HG3 := Lib.hid hG
      clear hV hl hG k1 e8
      go_wp2_with fail
      go_ret
      exact ⟨ret_bool HV.out.symm, HB.out.trans (Below.mono HG3.out HB.out.size)⟩
  have Q1 := Lib.hid (show decide (sc ≤ 14) = true from decide_eq_true h1)
  by_cases h2 : n ≤ 4
  rotate_left
  · have Q2 := Lib.hid (show decide ((n : Int) ≤ 4) = false from decide_eq_false (by omega))
    have HV := Lib.hid (show V = false by rw [HV0.out, Q1.out, decide_eq_false h2]; rfl)
    clear HV0 h1 h2
    go_enter Tryd.func36, Tryd.ntmps36
    go_upto_region 1 with fail
    rw [← hW]
    clear hW
    refine with_act fun a0 ha0 => ?_
    have hl : mcT.length = a0.tmps.size := by rw [ha0]; rfl
    have k1 : a0.tmps[1]?.getD undef = .pointer (some ⟨w.heap.size, 0, none⟩) := by rw [ha0]; rfl
    refine wp_region_vals (by kernel_rfl) mcT (by kernel_rfl) (by kernel_rfl) hl (fun i => if i = 21 then .bool false else undef) (by rw [ha0]; rfl) (Gr W) (mcV w.heap.size CP CK sc A n c N) (gr_drewG _ _) (mcV.keep _ _ _ _ _ _ _ _) ⟨?_, ?_, ?_, ?_, ?_, ?_, ?_, ?_, ?_, ?_, ?_, ?_, ?_, ?_, ?_, ?_, ?_, ?_, ?_, ?_, ?_, ?_, trivial⟩ ?_
    · refine step_plain [] (by kernel_rfl) rfl fun us w' hG hV => ?_
      have o1 := (frame_old2 (us := us) (a := a0) (show (mcT[1]?).join = none from rfl)).trans k1
      have hg1 := (KRX.out w' hG)
      generalize frame mcT a0 us = fr at *
      exact load_ok 31 1 rfl (w.heap.size) o1 _ _ (0, 0) _ hg1 Tryd.underlying31 rfl IP.out hG rfl
    · refine step_plain [0] (by kernel_rfl) rfl fun us w' hG hV => ?_
      have e0 : us 0 = .agg CP := hV 0 (by simp)
      have v0 := (frame_at2 (us := us) hl (show (mcT[3]?).join = some 0 from rfl)).trans e0
      generalize frame mcT a0 us = fr at *
      exact call_ok (f := 70) (args := #[.agg CP]) (by go_simp) ((KT.out w').mono fun e w'' h => ⟨_, h.1, hG.below h.2, h.2, rfl⟩)
    · refine step_plain [] (by kernel_rfl) rfl fun us w' hG hV => ?_
      have o1 := (frame_old2 (us := us) (a := a0) (show (mcT[1]?).join = none from rfl)).trans k1
      have hg1 := (KRX.out w' hG)
      generalize frame mcT a0 us = fr at *
      exact load_ok 31 1 rfl (w.heap.size) o1 _ _ (0, 0) _ hg1 Tryd.underlying31 rfl IP.out hG rfl
    · refine step_plain [1, 2] (by kernel_rfl) rfl fun us w' hG hV => ?_
      have e1 : us 1 = .agg CK := hV 1 (by simp)
      have v1 := (frame_at2 (us := us) hl (show (mcT[4]?).join = some 1 from rfl)).trans e1
      have e2 : us 2 = .agg CP := hV 2 (by simp)
      have v2 := (frame_at2 (us := us) hl (show (mcT[5]?).join = some 2 from rfl)).trans e2
      generalize frame mcT a0 us = fr at *
      exact call_ok (f := 40) (args := #[.agg CK, .agg CP]) (by go_simp) ((SM.out w' hG).mono fun e w'' h => ⟨_, h.1, hG.below h.2, h.2, rfl⟩)
    · refine step_plain [3] (by kernel_rfl) rfl fun us w' hG hV => ?_
      have e3 : us 3 = .bool true := hV 3 (by simp)
      have v3 := (frame_at2 (us := us) hl (show (mcT[6]?).join = some 3 from rfl)).trans e3
      generalize frame mcT a0 us = fr at *
      exact val_ok (v := .bool true) (w' := w') (by go_simp) hG (Below.refl _ _) rfl
    · refine step_guard [4] (by kernel_rfl) (j := 4) (t := 7) (b := true) rfl (by simp) rfl hl rfl (fun v w h => h) fun us w' hG hV => ?_
      have o1 := (frame_old2 (us := us) (a := a0) (show (mcT[1]?).join = none from rfl)).trans k1
      generalize frame mcT a0 us = fr at *
      exact val_ok (v := .pointer (some ⟨w.heap.size, 3, none⟩)) (w' := w') (by go_simp) hG (Below.refl _ _) rfl
    · refine step_guard [4, 5] (by kernel_rfl) (j := 4) (t := 7) (b := true) rfl (by simp) rfl hl rfl (fun v w h => h) fun us w' hG hV => ?_
      have e5 : us 5 = .pointer (some ⟨w.heap.size, 3, none⟩) := hV 5 (by simp)
      have v5 := (frame_at2 (us := us) hl (show (mcT[8]?).join = some 5 from rfl)).trans e5
      have hc := K3.out w' hG
      generalize frame mcT a0 us = fr at *
      exact val_ok (v := .int .u8 sc) (w' := w') (by go_simp) hG (Below.refl _ _) rfl
    · refine step_guard [4, 6] (by kernel_rfl) (j := 4) (t := 7) (b := true) rfl (by simp) rfl hl rfl (fun v w h => h) fun us w' hG hV => ?_
      have e6 : us 6 = .int .u8 sc := hV 6 (by simp)
      have v6 := (frame_at2 (us := us) hl (show (mcT[9]?).join = some 6 from rfl)).trans e6
      have q := Q1.out
      generalize frame mcT a0 us = fr at *
      exact val_ok (v := .bool true) (w' := w') (by go_simp) hG (Below.refl _ _) rfl
    · refine step_plain [4, 7] (by kernel_rfl) rfl fun us w' hG hV => ?_
      have e4 : us 4 = .bool true := hV 4 (by simp)
      have v4 := (frame_at2 (us := us) hl (show (mcT[7]?).join = some 4 from rfl)).trans e4
      have e7 : us 7 = .bool true := hV 7 (by simp)
      have v7 := (frame_at2 (us := us) hl (show (mcT[10]?).join = some 7 from rfl)).trans e7
      generalize frame mcT a0 us = fr at *
      exact val_ok (v := .bool true) (w' := w') (by go_simp) hG (Below.refl _ _) rfl
    · refine step_plain [8] (by kernel_rfl) rfl fun us w' hG hV => ?_
      have e8 : us 8 = .bool true := hV 8 (by simp)
      have v8 := (frame_at2 (us := us) hl (show (mcT[11]?).join = some 8 from rfl)).trans e8
      generalize frame mcT a0 us = fr at *
      exact val_ok (v := .bool true) (w' := w') (by go_simp) hG (Below.refl _ _) rfl
    · refine step_guard [9] (by kernel_rfl) (j := 9) (t := 12) (b := true) rfl (by simp) rfl hl rfl (fun v w h => h) fun us w' hG hV => ?_
      have o1 := (frame_old2 (us := us) (a := a0) (show (mcT[1]?).join = none from rfl)).trans k1
      generalize frame mcT a0 us = fr at *
      exact val_ok (v := .pointer (some ⟨w.heap.size, 5, none⟩)) (w' := w') (by go_simp) hG (Below.refl _ _) rfl
    · refine step_guard [9, 10] (by kernel_rfl) (j := 9) (t := 12) (b := true) rfl (by simp) rfl hl rfl (fun v w h => h) fun us w' hG hV => ?_
      have e10 : us 10 = .pointer (some ⟨w.heap.size, 5, none⟩) := hV 10 (by simp)
      have v10 := (frame_at2 (us := us) hl (show (mcT[13]?).join = some 10 from rfl)).trans e10
      have hc := K5.out w' hG
      generalize frame mcT a0 us = fr at *
      exact val_ok (v := .slice A n c) (w' := w') (by go_simp) hG (Below.refl _ _) rfl
    · refine step_guard [9, 11] (by kernel_rfl) (j := 9) (t := 12) (b := true) rfl (by simp) rfl hl rfl (fun v w h => h) fun us w' hG hV => ?_
      have e11 : us 11 = .slice A n c := hV 11 (by simp)
      have v11 := (frame_at2 (us := us) hl (show (mcT[14]?).join = some 11 from rfl)).trans e11
      generalize frame mcT a0 us = fr at *
      exact val_ok (v := .int .i64 n) (w' := w') (by go_simp) hG (Below.refl _ _) rfl
    · refine step_guard [9, 12] (by kernel_rfl) (j := 9) (t := 12) (b := true) rfl (by simp) rfl hl rfl (fun v w h => h) fun us w' hG hV => ?_
      have e12 : us 12 = .int .i64 n := hV 12 (by simp)
      have v12 := (frame_at2 (us := us) hl (show (mcT[15]?).join = some 12 from rfl)).trans e12
      have q := Q2.out
      generalize frame mcT a0 us = fr at *
      exact val_ok (v := .bool false) (w' := w') (by go_simp) hG (Below.refl _ _) rfl
    · refine step_plain [9, 13] (by kernel_rfl) rfl fun us w' hG hV => ?_
      have e9 : us 9 = .bool true := hV 9 (by simp)
      have v9 := (frame_at2 (us := us) hl (show (mcT[12]?).join = some 9 from rfl)).trans e9
      have e13 : us 13 = .bool false := hV 13 (by simp)
      have v13 := (frame_at2 (us := us) hl (show (mcT[16]?).join = some 13 from rfl)).trans e13
      generalize frame mcT a0 us = fr at *
      exact val_ok (v := .bool false) (w' := w') (by go_simp) hG (Below.refl _ _) rfl
    · refine step_plain [14] (by kernel_rfl) rfl fun us w' hG hV => ?_
      have e14 : us 14 = .bool false := hV 14 (by simp)
      have v14 := (frame_at2 (us := us) hl (show (mcT[17]?).join = some 14 from rfl)).trans e14
      generalize frame mcT a0 us = fr at *
      exact val_ok (v := .bool false) (w' := w') (by go_simp) hG (Below.refl _ _) rfl
    · refine step_cnd [15] (by kernel_rfl) (j := 15) (t := 18) rfl (by simp) rfl hl rfl false (fun v w h => h) (fun _ w => trivial) fun hc => by cases hc
    · refine step_cnd [15] (by kernel_rfl) (j := 15) (t := 18) rfl (by simp) rfl hl rfl false (fun v w h => h) (fun _ w => trivial) fun hc => by cases hc
    · refine step_cnd [15] (by kernel_rfl) (j := 15) (t := 18) rfl (by simp) rfl hl rfl false (fun v w h => h) (fun _ w => trivial) fun hc => by cases hc
    · refine step_cnd [15] (by kernel_rfl) (j := 15) (t := 18) rfl (by simp) rfl hl rfl false (fun v w h => h) (fun _ w => trivial) fun hc => by cases hc
    · refine step_plain [15] (by kernel_rfl) rfl fun us w' hG hV => ?_
      have e15 : us 15 = .bool false := hV 15 (by simp)
      have v15 := (frame_at2 (us := us) hl (show (mcT[18]?).join = some 15 from rfl)).trans e15
      generalize frame mcT a0 us = fr at *
      exact val_ok (v := .bool false) (w' := w') (by go_simp) hG (Below.refl _ _) rfl
    · refine step_plain [20] (by kernel_rfl) rfl fun us w' hG hV => ?_
      have e20 : us 20 = .bool false := hV 20 (by simp)
      have v20 := (frame_at2 (us := us) hl (show (mcT[23]?).join = some 20 from rfl)).trans e20
      generalize frame mcT a0 us = fr at *
      exact val_ok (v := .bool false) (w' := w') (by go_simp) hG (Below.refl _ _) rfl
    · intro us w5 hG hV
      have e8 : us 21 = .bool false := hV 21 (by decide)
      subst ha0
      simp only [frame, mcT, fill]
      rw [e8]
      have HG3 := Lib.hid hG
      clear hV hl hG k1 e8
      go_wp2_with fail
      go_ret
      exact ⟨ret_bool HV.out.symm, HB.out.trans (Below.mono HG3.out HB.out.size)⟩
  have Q2 := Lib.hid (show decide ((n : Int) ≤ 4) = true from decide_eq_true (by omega))
  by_cases h3 : N ≤ 40
  rotate_left
  · have Q3 := Lib.hid (show decide ((N : Int) ≤ 40) = false from decide_eq_false (by omega))
    have HV := Lib.hid (show V = false by rw [HV0.out, Q1.out, decide_eq_true h2, decide_eq_false h3]; rfl)
    clear HV0 h1 h2 h3
    go_enter Tryd.func36, Tryd.ntmps36
    go_upto_region 1 with fail
    rw [← hW]
    clear hW
    refine with_act fun a0 ha0 => ?_
    have hl : mdT.length = a0.tmps.size := by rw [ha0]; rfl
    have k1 : a0.tmps[1]?.getD undef = .pointer (some ⟨w.heap.size, 0, none⟩) := by rw [ha0]; rfl
    refine wp_region_vals (by kernel_rfl) mdT (by kernel_rfl) (by kernel_rfl) hl (fun i => if i = 21 then .bool false else undef) (by rw [ha0]; rfl) (Gr W) (mdV w.heap.size CP CK sc A n c N) (gr_drewG _ _) (mdV.keep _ _ _ _ _ _ _ _) ⟨?_, ?_, ?_, ?_, ?_, ?_, ?_, ?_, ?_, ?_, ?_, ?_, ?_, ?_, ?_, ?_, ?_, ?_, ?_, ?_, ?_, ?_, trivial⟩ ?_
    · refine step_plain [] (by kernel_rfl) rfl fun us w' hG hV => ?_
      have o1 := (frame_old2 (us := us) (a := a0) (show (mdT[1]?).join = none from rfl)).trans k1
      have hg1 := (KRX.out w' hG)
      generalize frame mdT a0 us = fr at *
      exact load_ok 31 1 rfl (w.heap.size) o1 _ _ (0, 0) _ hg1 Tryd.underlying31 rfl IP.out hG rfl
    · refine step_plain [0] (by kernel_rfl) rfl fun us w' hG hV => ?_
      have e0 : us 0 = .agg CP := hV 0 (by simp)
      have v0 := (frame_at2 (us := us) hl (show (mdT[3]?).join = some 0 from rfl)).trans e0
      generalize frame mdT a0 us = fr at *
      exact call_ok (f := 70) (args := #[.agg CP]) (by go_simp) ((KT.out w').mono fun e w'' h => ⟨_, h.1, hG.below h.2, h.2, rfl⟩)
    · refine step_plain [] (by kernel_rfl) rfl fun us w' hG hV => ?_
      have o1 := (frame_old2 (us := us) (a := a0) (show (mdT[1]?).join = none from rfl)).trans k1
      have hg1 := (KRX.out w' hG)
      generalize frame mdT a0 us = fr at *
      exact load_ok 31 1 rfl (w.heap.size) o1 _ _ (0, 0) _ hg1 Tryd.underlying31 rfl IP.out hG rfl
    · refine step_plain [1, 2] (by kernel_rfl) rfl fun us w' hG hV => ?_
      have e1 : us 1 = .agg CK := hV 1 (by simp)
      have v1 := (frame_at2 (us := us) hl (show (mdT[4]?).join = some 1 from rfl)).trans e1
      have e2 : us 2 = .agg CP := hV 2 (by simp)
      have v2 := (frame_at2 (us := us) hl (show (mdT[5]?).join = some 2 from rfl)).trans e2
      generalize frame mdT a0 us = fr at *
      exact call_ok (f := 40) (args := #[.agg CK, .agg CP]) (by go_simp) ((SM.out w' hG).mono fun e w'' h => ⟨_, h.1, hG.below h.2, h.2, rfl⟩)
    · refine step_plain [3] (by kernel_rfl) rfl fun us w' hG hV => ?_
      have e3 : us 3 = .bool true := hV 3 (by simp)
      have v3 := (frame_at2 (us := us) hl (show (mdT[6]?).join = some 3 from rfl)).trans e3
      generalize frame mdT a0 us = fr at *
      exact val_ok (v := .bool true) (w' := w') (by go_simp) hG (Below.refl _ _) rfl
    · refine step_guard [4] (by kernel_rfl) (j := 4) (t := 7) (b := true) rfl (by simp) rfl hl rfl (fun v w h => h) fun us w' hG hV => ?_
      have o1 := (frame_old2 (us := us) (a := a0) (show (mdT[1]?).join = none from rfl)).trans k1
      generalize frame mdT a0 us = fr at *
      exact val_ok (v := .pointer (some ⟨w.heap.size, 3, none⟩)) (w' := w') (by go_simp) hG (Below.refl _ _) rfl
    · refine step_guard [4, 5] (by kernel_rfl) (j := 4) (t := 7) (b := true) rfl (by simp) rfl hl rfl (fun v w h => h) fun us w' hG hV => ?_
      have e5 : us 5 = .pointer (some ⟨w.heap.size, 3, none⟩) := hV 5 (by simp)
      have v5 := (frame_at2 (us := us) hl (show (mdT[8]?).join = some 5 from rfl)).trans e5
      have hc := K3.out w' hG
      generalize frame mdT a0 us = fr at *
      exact val_ok (v := .int .u8 sc) (w' := w') (by go_simp) hG (Below.refl _ _) rfl
    · refine step_guard [4, 6] (by kernel_rfl) (j := 4) (t := 7) (b := true) rfl (by simp) rfl hl rfl (fun v w h => h) fun us w' hG hV => ?_
      have e6 : us 6 = .int .u8 sc := hV 6 (by simp)
      have v6 := (frame_at2 (us := us) hl (show (mdT[9]?).join = some 6 from rfl)).trans e6
      have q := Q1.out
      generalize frame mdT a0 us = fr at *
      exact val_ok (v := .bool true) (w' := w') (by go_simp) hG (Below.refl _ _) rfl
    · refine step_plain [4, 7] (by kernel_rfl) rfl fun us w' hG hV => ?_
      have e4 : us 4 = .bool true := hV 4 (by simp)
      have v4 := (frame_at2 (us := us) hl (show (mdT[7]?).join = some 4 from rfl)).trans e4
      have e7 : us 7 = .bool true := hV 7 (by simp)
      have v7 := (frame_at2 (us := us) hl (show (mdT[10]?).join = some 7 from rfl)).trans e7
      generalize frame mdT a0 us = fr at *
      exact val_ok (v := .bool true) (w' := w') (by go_simp) hG (Below.refl _ _) rfl
    · refine step_plain [8] (by kernel_rfl) rfl fun us w' hG hV => ?_
      have e8 : us 8 = .bool true := hV 8 (by simp)
      have v8 := (frame_at2 (us := us) hl (show (mdT[11]?).join = some 8 from rfl)).trans e8
      generalize frame mdT a0 us = fr at *
      exact val_ok (v := .bool true) (w' := w') (by go_simp) hG (Below.refl _ _) rfl
    · refine step_guard [9] (by kernel_rfl) (j := 9) (t := 12) (b := true) rfl (by simp) rfl hl rfl (fun v w h => h) fun us w' hG hV => ?_
      have o1 := (frame_old2 (us := us) (a := a0) (show (mdT[1]?).join = none from rfl)).trans k1
      generalize frame mdT a0 us = fr at *
      exact val_ok (v := .pointer (some ⟨w.heap.size, 5, none⟩)) (w' := w') (by go_simp) hG (Below.refl _ _) rfl
    · refine step_guard [9, 10] (by kernel_rfl) (j := 9) (t := 12) (b := true) rfl (by simp) rfl hl rfl (fun v w h => h) fun us w' hG hV => ?_
      have e10 : us 10 = .pointer (some ⟨w.heap.size, 5, none⟩) := hV 10 (by simp)
      have v10 := (frame_at2 (us := us) hl (show (mdT[13]?).join = some 10 from rfl)).trans e10
      have hc := K5.out w' hG
      generalize frame mdT a0 us = fr at *
      exact val_ok (v := .slice A n c) (w' := w') (by go_simp) hG (Below.refl _ _) rfl
    · refine step_guard [9, 11] (by kernel_rfl) (j := 9) (t := 12) (b := true) rfl (by simp) rfl hl rfl (fun v w h => h) fun us w' hG hV => ?_
      have e11 : us 11 = .slice A n c := hV 11 (by simp)
      have v11 := (frame_at2 (us := us) hl (show (mdT[14]?).join = some 11 from rfl)).trans e11
      generalize frame mdT a0 us = fr at *
      exact val_ok (v := .int .i64 n) (w' := w') (by go_simp) hG (Below.refl _ _) rfl
    · refine step_guard [9, 12] (by kernel_rfl) (j := 9) (t := 12) (b := true) rfl (by simp) rfl hl rfl (fun v w h => h) fun us w' hG hV => ?_
      have e12 : us 12 = .int .i64 n := hV 12 (by simp)
      have v12 := (frame_at2 (us := us) hl (show (mdT[15]?).join = some 12 from rfl)).trans e12
      have q := Q2.out
      generalize frame mdT a0 us = fr at *
      exact val_ok (v := .bool true) (w' := w') (by go_simp) hG (Below.refl _ _) rfl
    · refine step_plain [9, 13] (by kernel_rfl) rfl fun us w' hG hV => ?_
      have e9 : us 9 = .bool true := hV 9 (by simp)
      have v9 := (frame_at2 (us := us) hl (show (mdT[12]?).join = some 9 from rfl)).trans e9
      have e13 : us 13 = .bool true := hV 13 (by simp)
      have v13 := (frame_at2 (us := us) hl (show (mdT[16]?).join = some 13 from rfl)).trans e13
      generalize frame mdT a0 us = fr at *
      exact val_ok (v := .bool true) (w' := w') (by go_simp) hG (Below.refl _ _) rfl
    · refine step_plain [14] (by kernel_rfl) rfl fun us w' hG hV => ?_
      have e14 : us 14 = .bool true := hV 14 (by simp)
      have v14 := (frame_at2 (us := us) hl (show (mdT[17]?).join = some 14 from rfl)).trans e14
      generalize frame mdT a0 us = fr at *
      exact val_ok (v := .bool true) (w' := w') (by go_simp) hG (Below.refl _ _) rfl
    · refine step_guard [15] (by kernel_rfl) (j := 15) (t := 18) (b := true) rfl (by simp) rfl hl rfl (fun v w h => h) fun us w' hG hV => ?_
      have o1 := (frame_old2 (us := us) (a := a0) (show (mdT[1]?).join = none from rfl)).trans k1
      have hg1 := (KRX.out w' hG)
      generalize frame mdT a0 us = fr at *
      exact load_ok 31 1 rfl (w.heap.size) o1 _ _ (0, 0) _ hg1 Tryd.underlying31 rfl IP.out hG rfl
    · refine step_guard [15, 16] (by kernel_rfl) (j := 15) (t := 18) (b := true) rfl (by simp) rfl hl rfl (fun v w h => h) fun us w' hG hV => ?_
      have e16 : us 16 = .agg CP := hV 16 (by simp)
      have v16 := (frame_at2 (us := us) hl (show (mdT[19]?).join = some 16 from rfl)).trans e16
      generalize frame mdT a0 us = fr at *
      exact call_ok (f := 71) (args := #[.agg CP]) (by go_simp) ((BY.out w' hG).mono fun e w'' ⟨A', c', h1, h2, h3⟩ => ⟨_, h1, hG.below h3, h3, A', c', rfl⟩)
    · refine step_guard [15, 17] (by kernel_rfl) (j := 15) (t := 18) (b := true) rfl (by simp) rfl hl rfl (fun v w h => h) fun us w' hG hV => ?_
      obtain ⟨A17, c17, e17⟩ := (show ∃ A' c', us 17 = .slice A' N c' from hV 17 (by simp))
      have v17 := (frame_at2 (us := us) hl (show (mdT[20]?).join = some 17 from rfl)).trans e17
      generalize frame mdT a0 us = fr at *
      exact val_ok (v := .int .i64 N) (w' := w') (by go_simp) hG (Below.refl _ _) rfl
    · refine step_guard [15, 18] (by kernel_rfl) (j := 15) (t := 18) (b := true) rfl (by simp) rfl hl rfl (fun v w h => h) fun us w' hG hV => ?_
      have e18 : us 18 = .int .i64 N := hV 18 (by simp)
      have v18 := (frame_at2 (us := us) hl (show (mdT[21]?).join = some 18 from rfl)).trans e18
      have q := Q3.out
      generalize frame mdT a0 us = fr at *
      exact val_ok (v := .bool false) (w' := w') (by go_simp) hG (Below.refl _ _) rfl
    · refine step_plain [15, 19] (by kernel_rfl) rfl fun us w' hG hV => ?_
      have e15 : us 15 = .bool true := hV 15 (by simp)
      have v15 := (frame_at2 (us := us) hl (show (mdT[18]?).join = some 15 from rfl)).trans e15
      have e19 : us 19 = .bool false := hV 19 (by simp)
      have v19 := (frame_at2 (us := us) hl (show (mdT[22]?).join = some 19 from rfl)).trans e19
      generalize frame mdT a0 us = fr at *
      exact val_ok (v := .bool false) (w' := w') (by go_simp) hG (Below.refl _ _) rfl
    · refine step_plain [20] (by kernel_rfl) rfl fun us w' hG hV => ?_
      have e20 : us 20 = .bool false := hV 20 (by simp)
      have v20 := (frame_at2 (us := us) hl (show (mdT[23]?).join = some 20 from rfl)).trans e20
      generalize frame mdT a0 us = fr at *
      exact val_ok (v := .bool false) (w' := w') (by go_simp) hG (Below.refl _ _) rfl
    · intro us w5 hG hV
      have e8 : us 21 = .bool false := hV 21 (by decide)
      subst ha0
      simp only [frame, mdT, fill]
      rw [e8]
      have HG3 := Lib.hid hG
      clear hV hl hG k1 e8
      go_wp2_with fail
      go_ret
      exact ⟨ret_bool HV.out.symm, HB.out.trans (Below.mono HG3.out HB.out.size)⟩
  have Q3 := Lib.hid (show decide ((N : Int) ≤ 40) = true from decide_eq_true (by omega))
  have HV := Lib.hid (show V = true by rw [HV0.out, Q1.out, decide_eq_true h2, decide_eq_true h3]; rfl)
  clear HV0 h1 h2 h3
  go_enter Tryd.func36, Tryd.ntmps36
  go_upto_region 1 with fail
  rw [← hW]
  clear hW
  refine with_act fun a0 ha0 => ?_
  have hl : meT.length = a0.tmps.size := by rw [ha0]; rfl
  have k1 : a0.tmps[1]?.getD undef = .pointer (some ⟨w.heap.size, 0, none⟩) := by rw [ha0]; rfl
  refine wp_region_vals (by kernel_rfl) meT (by kernel_rfl) (by kernel_rfl) hl (fun i => if i = 21 then .bool false else undef) (by rw [ha0]; rfl) (Gr W) (meV w.heap.size CP CK sc A n c N) (gr_drewG _ _) (meV.keep _ _ _ _ _ _ _ _) ⟨?_, ?_, ?_, ?_, ?_, ?_, ?_, ?_, ?_, ?_, ?_, ?_, ?_, ?_, ?_, ?_, ?_, ?_, ?_, ?_, ?_, ?_, trivial⟩ ?_
  · refine step_plain [] (by kernel_rfl) rfl fun us w' hG hV => ?_
    have o1 := (frame_old2 (us := us) (a := a0) (show (meT[1]?).join = none from rfl)).trans k1
    have hg1 := (KRX.out w' hG)
    generalize frame meT a0 us = fr at *
    exact load_ok 31 1 rfl (w.heap.size) o1 _ _ (0, 0) _ hg1 Tryd.underlying31 rfl IP.out hG rfl
  · refine step_plain [0] (by kernel_rfl) rfl fun us w' hG hV => ?_
    have e0 : us 0 = .agg CP := hV 0 (by simp)
    have v0 := (frame_at2 (us := us) hl (show (meT[3]?).join = some 0 from rfl)).trans e0
    generalize frame meT a0 us = fr at *
    exact call_ok (f := 70) (args := #[.agg CP]) (by go_simp) ((KT.out w').mono fun e w'' h => ⟨_, h.1, hG.below h.2, h.2, rfl⟩)
  · refine step_plain [] (by kernel_rfl) rfl fun us w' hG hV => ?_
    have o1 := (frame_old2 (us := us) (a := a0) (show (meT[1]?).join = none from rfl)).trans k1
    have hg1 := (KRX.out w' hG)
    generalize frame meT a0 us = fr at *
    exact load_ok 31 1 rfl (w.heap.size) o1 _ _ (0, 0) _ hg1 Tryd.underlying31 rfl IP.out hG rfl
  · refine step_plain [1, 2] (by kernel_rfl) rfl fun us w' hG hV => ?_
    have e1 : us 1 = .agg CK := hV 1 (by simp)
    have v1 := (frame_at2 (us := us) hl (show (meT[4]?).join = some 1 from rfl)).trans e1
    have e2 : us 2 = .agg CP := hV 2 (by simp)
    have v2 := (frame_at2 (us := us) hl (show (meT[5]?).join = some 2 from rfl)).trans e2
    generalize frame meT a0 us = fr at *
    exact call_ok (f := 40) (args := #[.agg CK, .agg CP]) (by go_simp) ((SM.out w' hG).mono fun e w'' h => ⟨_, h.1, hG.below h.2, h.2, rfl⟩)
  · refine step_plain [3] (by kernel_rfl) rfl fun us w' hG hV => ?_
    have e3 : us 3 = .bool true := hV 3 (by simp)
    have v3 := (frame_at2 (us := us) hl (show (meT[6]?).join = some 3 from rfl)).trans e3
    generalize frame meT a0 us = fr at *
    exact val_ok (v := .bool true) (w' := w') (by go_simp) hG (Below.refl _ _) rfl
  · refine step_guard [4] (by kernel_rfl) (j := 4) (t := 7) (b := true) rfl (by simp) rfl hl rfl (fun v w h => h) fun us w' hG hV => ?_
    have o1 := (frame_old2 (us := us) (a := a0) (show (meT[1]?).join = none from rfl)).trans k1
    generalize frame meT a0 us = fr at *
    exact val_ok (v := .pointer (some ⟨w.heap.size, 3, none⟩)) (w' := w') (by go_simp) hG (Below.refl _ _) rfl
  · refine step_guard [4, 5] (by kernel_rfl) (j := 4) (t := 7) (b := true) rfl (by simp) rfl hl rfl (fun v w h => h) fun us w' hG hV => ?_
    have e5 : us 5 = .pointer (some ⟨w.heap.size, 3, none⟩) := hV 5 (by simp)
    have v5 := (frame_at2 (us := us) hl (show (meT[8]?).join = some 5 from rfl)).trans e5
    have hc := K3.out w' hG
    generalize frame meT a0 us = fr at *
    exact val_ok (v := .int .u8 sc) (w' := w') (by go_simp) hG (Below.refl _ _) rfl
  · refine step_guard [4, 6] (by kernel_rfl) (j := 4) (t := 7) (b := true) rfl (by simp) rfl hl rfl (fun v w h => h) fun us w' hG hV => ?_
    have e6 : us 6 = .int .u8 sc := hV 6 (by simp)
    have v6 := (frame_at2 (us := us) hl (show (meT[9]?).join = some 6 from rfl)).trans e6
    have q := Q1.out
    generalize frame meT a0 us = fr at *
    exact val_ok (v := .bool true) (w' := w') (by go_simp) hG (Below.refl _ _) rfl
  · refine step_plain [4, 7] (by kernel_rfl) rfl fun us w' hG hV => ?_
    have e4 : us 4 = .bool true := hV 4 (by simp)
    have v4 := (frame_at2 (us := us) hl (show (meT[7]?).join = some 4 from rfl)).trans e4
    have e7 : us 7 = .bool true := hV 7 (by simp)
    have v7 := (frame_at2 (us := us) hl (show (meT[10]?).join = some 7 from rfl)).trans e7
    generalize frame meT a0 us = fr at *
    exact val_ok (v := .bool true) (w' := w') (by go_simp) hG (Below.refl _ _) rfl
  · refine step_plain [8] (by kernel_rfl) rfl fun us w' hG hV => ?_
    have e8 : us 8 = .bool true := hV 8 (by simp)
    have v8 := (frame_at2 (us := us) hl (show (meT[11]?).join = some 8 from rfl)).trans e8
    generalize frame meT a0 us = fr at *
    exact val_ok (v := .bool true) (w' := w') (by go_simp) hG (Below.refl _ _) rfl
  · refine step_guard [9] (by kernel_rfl) (j := 9) (t := 12) (b := true) rfl (by simp) rfl hl rfl (fun v w h => h) fun us w' hG hV => ?_
    have o1 := (frame_old2 (us := us) (a := a0) (show (meT[1]?).join = none from rfl)).trans k1
    generalize frame meT a0 us = fr at *
    exact val_ok (v := .pointer (some ⟨w.heap.size, 5, none⟩)) (w' := w') (by go_simp) hG (Below.refl _ _) rfl
  · refine step_guard [9, 10] (by kernel_rfl) (j := 9) (t := 12) (b := true) rfl (by simp) rfl hl rfl (fun v w h => h) fun us w' hG hV => ?_
    have e10 : us 10 = .pointer (some ⟨w.heap.size, 5, none⟩) := hV 10 (by simp)
    have v10 := (frame_at2 (us := us) hl (show (meT[13]?).join = some 10 from rfl)).trans e10
    have hc := K5.out w' hG
    generalize frame meT a0 us = fr at *
    exact val_ok (v := .slice A n c) (w' := w') (by go_simp) hG (Below.refl _ _) rfl
  · refine step_guard [9, 11] (by kernel_rfl) (j := 9) (t := 12) (b := true) rfl (by simp) rfl hl rfl (fun v w h => h) fun us w' hG hV => ?_
    have e11 : us 11 = .slice A n c := hV 11 (by simp)
    have v11 := (frame_at2 (us := us) hl (show (meT[14]?).join = some 11 from rfl)).trans e11
    generalize frame meT a0 us = fr at *
    exact val_ok (v := .int .i64 n) (w' := w') (by go_simp) hG (Below.refl _ _) rfl
  · refine step_guard [9, 12] (by kernel_rfl) (j := 9) (t := 12) (b := true) rfl (by simp) rfl hl rfl (fun v w h => h) fun us w' hG hV => ?_
    have e12 : us 12 = .int .i64 n := hV 12 (by simp)
    have v12 := (frame_at2 (us := us) hl (show (meT[15]?).join = some 12 from rfl)).trans e12
    have q := Q2.out
    generalize frame meT a0 us = fr at *
    exact val_ok (v := .bool true) (w' := w') (by go_simp) hG (Below.refl _ _) rfl
  · refine step_plain [9, 13] (by kernel_rfl) rfl fun us w' hG hV => ?_
    have e9 : us 9 = .bool true := hV 9 (by simp)
    have v9 := (frame_at2 (us := us) hl (show (meT[12]?).join = some 9 from rfl)).trans e9
    have e13 : us 13 = .bool true := hV 13 (by simp)
    have v13 := (frame_at2 (us := us) hl (show (meT[16]?).join = some 13 from rfl)).trans e13
    generalize frame meT a0 us = fr at *
    exact val_ok (v := .bool true) (w' := w') (by go_simp) hG (Below.refl _ _) rfl
  · refine step_plain [14] (by kernel_rfl) rfl fun us w' hG hV => ?_
    have e14 : us 14 = .bool true := hV 14 (by simp)
    have v14 := (frame_at2 (us := us) hl (show (meT[17]?).join = some 14 from rfl)).trans e14
    generalize frame meT a0 us = fr at *
    exact val_ok (v := .bool true) (w' := w') (by go_simp) hG (Below.refl _ _) rfl
  · refine step_guard [15] (by kernel_rfl) (j := 15) (t := 18) (b := true) rfl (by simp) rfl hl rfl (fun v w h => h) fun us w' hG hV => ?_
    have o1 := (frame_old2 (us := us) (a := a0) (show (meT[1]?).join = none from rfl)).trans k1
    have hg1 := (KRX.out w' hG)
    generalize frame meT a0 us = fr at *
    exact load_ok 31 1 rfl (w.heap.size) o1 _ _ (0, 0) _ hg1 Tryd.underlying31 rfl IP.out hG rfl
  · refine step_guard [15, 16] (by kernel_rfl) (j := 15) (t := 18) (b := true) rfl (by simp) rfl hl rfl (fun v w h => h) fun us w' hG hV => ?_
    have e16 : us 16 = .agg CP := hV 16 (by simp)
    have v16 := (frame_at2 (us := us) hl (show (meT[19]?).join = some 16 from rfl)).trans e16
    generalize frame meT a0 us = fr at *
    exact call_ok (f := 71) (args := #[.agg CP]) (by go_simp) ((BY.out w' hG).mono fun e w'' ⟨A', c', h1, h2, h3⟩ => ⟨_, h1, hG.below h3, h3, A', c', rfl⟩)
  · refine step_guard [15, 17] (by kernel_rfl) (j := 15) (t := 18) (b := true) rfl (by simp) rfl hl rfl (fun v w h => h) fun us w' hG hV => ?_
    obtain ⟨A17, c17, e17⟩ := (show ∃ A' c', us 17 = .slice A' N c' from hV 17 (by simp))
    have v17 := (frame_at2 (us := us) hl (show (meT[20]?).join = some 17 from rfl)).trans e17
    generalize frame meT a0 us = fr at *
    exact val_ok (v := .int .i64 N) (w' := w') (by go_simp) hG (Below.refl _ _) rfl
  · refine step_guard [15, 18] (by kernel_rfl) (j := 15) (t := 18) (b := true) rfl (by simp) rfl hl rfl (fun v w h => h) fun us w' hG hV => ?_
    have e18 : us 18 = .int .i64 N := hV 18 (by simp)
    have v18 := (frame_at2 (us := us) hl (show (meT[21]?).join = some 18 from rfl)).trans e18
    have q := Q3.out
    generalize frame meT a0 us = fr at *
    exact val_ok (v := .bool true) (w' := w') (by go_simp) hG (Below.refl _ _) rfl
  · refine step_plain [15, 19] (by kernel_rfl) rfl fun us w' hG hV => ?_
    have e15 : us 15 = .bool true := hV 15 (by simp)
    have v15 := (frame_at2 (us := us) hl (show (meT[18]?).join = some 15 from rfl)).trans e15
    have e19 : us 19 = .bool true := hV 19 (by simp)
    have v19 := (frame_at2 (us := us) hl (show (meT[22]?).join = some 19 from rfl)).trans e19
    generalize frame meT a0 us = fr at *
    exact val_ok (v := .bool true) (w' := w') (by go_simp) hG (Below.refl _ _) rfl
  · refine step_plain [20] (by kernel_rfl) rfl fun us w' hG hV => ?_
    have e20 : us 20 = .bool true := hV 20 (by simp)
    have v20 := (frame_at2 (us := us) hl (show (meT[23]?).join = some 20 from rfl)).trans e20
    generalize frame meT a0 us = fr at *
    exact val_ok (v := .bool true) (w' := w') (by go_simp) hG (Below.refl _ _) rfl
  · intro us w5 hG hV
    have e8 : us 21 = .bool true := hV 21 (by decide)
    subst ha0
    simp only [frame, meT, fill]
    rw [e8]
    have HG3 := Lib.hid hG
    clear hV hl hG k1 e8
    go_wp2_with fail
    go_ret
    exact ⟨ret_bool HV.out.symm, HB.out.trans (Below.mono HG3.out HB.out.size)⟩
set_option maxRecDepth 100000 in
theorem rlay_any (o : Opt) (A : Option Addr) (n c : Nat) (w : World) (ho : o.Ok) (hn : o.sk.length = n) (hs : Prs w w.heap.size A n o.sk) (hm : n ≤ 600) :
    Calls Tryd.prog 66 #[.agg (optV o A n c)] w (OwnE w (layX o) (layE o)) := by
  obtain ⟨W, hW⟩ : ∃ W, W = w.alloc (.cells (optV o A n c) 31) := ⟨_, rfl⟩
  have R := Lib.hid (show W.heap[w.heap.size]? = some (.cells (optV o A n c) 31 (0, 0)) by rw [hW]; exact heap_alloc_new _ _)
  have HB := Lib.hid (show Below w.heap.size w W by rw [hW]; exact alloc_below _ _)
  have hp := (hs.below HB.out).more HB.out.size
  have MA := Lib.hid (rmay_any o A n c W ho hn hp hm)
  have BY := Lib.hid (fun w' (h : Below W.heap.size W w') => bytes_any o A n c w' ho hn ((hp.below h).more h.size) hm)
  have IC := Lib.hid (optC ho.lm A n c).info
  unfold layX layE
  unfold OwnB at BY
  generalize optV o A n c = C at *
  generalize layL o = T at *
  generalize mayB o = b at *
  clear hn hs hm ho hp
  cases b
  · rw [if_neg (by decide), if_neg (by decide)]
    go_enter Tryd.func66, Tryd.ntmps66
    go_upto_region 1 with fail
    rw [← hW]
    clear hW
    go_wp2_with (first
      | (refine wpList_load_row rfl 31 (.tmp 1) rfl w.heap.size rfl _ _ _ _ R.out Tryd.underlying31 rfl IC.out ?_)
      | (go_at_call 36; (refine MA.out.mono ?_); rintro e w2 ⟨rfl, B2⟩
         have HB2 := Lib.hid (HB.out.trans (B2.mono HB.out.size))
         clear B2))
    go_ret2
    exact ⟨none, 0, 0, rfl, Own.nil _ _, HB2.out⟩
  · rw [if_pos rfl, if_pos rfl]
    go_enter Tryd.func66, Tryd.ntmps66
    go_upto_region 1 with fail
    rw [← hW]
    clear hW
    go_upto_region 2 with (first
      | (refine wpList_load_row rfl 31 (.tmp 1) rfl w.heap.size rfl _ _ _ _ R.out Tryd.underlying31 rfl IC.out ?_)
      | (go_at_call 36; (refine MA.out.mono ?_); rintro e w2 ⟨rfl, B2⟩
         have HB2 := Lib.hid B2
         have R2 := Lib.hid (show w2.heap[w.heap.size]? = some (.cells C 31 (0, 0)) by rw [B2.block _ (lt_of_row R.out)]; exact R.out)
         clear B2)
      | (refine wpList_load_row rfl 31 (.tmp 1) rfl w.heap.size rfl _ _ _ _ R2.out Tryd.underlying31 rfl IC.out ?_)
      | (go_at_call 71; (refine (BY.out _ HB2.out).mono ?_); rintro e w3 ⟨A3, c3, rfl, O3, B3⟩
         have HO := Lib.hid (O3.less (Nat.le_trans HB.out.size HB2.out.size))
         have HB3 := Lib.hid (HB.out.trans ((HB2.out.trans (B3.mono HB2.out.size)).mono HB.out.size))
         clear O3 B3))
    go_ret2
    exact ⟨A3, T.length, c3, rfl, HO.out, HB3.out⟩
end Go.Proofs.YtniimgbljhmcoaaDoor.opC

/-
  Options without all but AO, and with as many pairs as fit: the program's, and the document's.
-/
namespace Go.Proofs.YtniimgbljhmcoaaDoor.opC
open Go.ChangeShapes Go.WideShapes Go.ChangeAt Go.RowKit
open Go.Proofs.YtniimgbljhmcoaaDoor.memC Go.Proofs.YtniimgbljhmcoaaDoor.genC Go.Proofs.YtniimgbljhmcoaaDoor.butC Go.Proofs.YtniimgbljhmcoaaDoor.freeC Go.Proofs.YtniimgbljhmcoaaDoor.adC
set_option linter.unusedVariables false
theorem setR_below {w w1 : World} {g : Nat} (h : Below w.heap.size w w1) (hg : w.heap.size ≤ g) (cs : Array Value) : Below w.heap.size w (w1.setRow g cs) :=
  ⟨h.os, h.tape, h.output, by simpa using h.size, fun k hk => by rw [setRow_other _ _ _ _ (by omega)]; exact h.block k hk⟩
/-- append(own, pairs...), the result written out -/
theorem wpList_appP {ops : Array Oper} {rest : List Oper} {o : Oper} {a : Act} {Q : Exit → Act → World → Prop} (w : World) (hgd : o.guard = none) (s x : Operand)
    (ho : o.op = .call { callee := .builtin .append, args := #[s, x], argTypes := #[28, 28] }) (base : Nat) (v : Value) (ps : List (Int × Int)) (hs : a.eval s = v) (hown : OwnP w base v ps)
    (B : Nat) (A : Option Addr) (m c : Nat) (qs : List (Int × Int)) (hx : a.eval x = .slice A m c) (hr : Prs w B A m qs) (hl : ps.length + m ≤ 1000000) (hbase : base ≤ w.heap.size) (L : Nat) (hL : ps.length + m = L)
    (h : ∀ A' c' w', L ≤ c' → OwnP w' base (.slice A' L c') (ps ++ qs) → Below base w w' → wpList Tryd.prog ops Q rest (a.put o.dst (.slice A' L c')) w') : wpList Tryd.prog ops Q (o :: rest) a w := by
  obtain ⟨v', w', hrun, h2, h3⟩ := run_appP w base v ps hown o.type B A m c qs hr hl hbase
  refine wpList_plain hgd fun K hK => ?_
  unfold Oper.wp execOp
  simp only [ho, resolve, invoke, builtin, Sem.run_bind, Sem.run_pure, Result.andThen_ok, List.map_toArray, List.map_cons, List.map_nil, hs, hx, hrun]
  refine hK _ _ ?_
  have e : (ps ++ qs).length = L := by rw [List.length_append, hr.len]; exact hL
  obtain ⟨A', c', e2, g1, g2, N⟩ := h2.form
  rw [e] at e2 g1
  subst e2
  exact h A' c' w' g1 h2 (grown_below h3 hbase fun g hg => (hown.blk g hg).1)
/-- pairs copied -/
def PrRet (w : World) (ps : List (Int × Int)) (e : Ending) (w' : World) : Prop := ∃ A c, e = .returned (.slice A ps.length c) ∧ ps.length ≤ c ∧ OwnP w' w.heap.size (.slice A ps.length c) ps ∧ Below w.heap.size w w'
theorem pclone_any (A : Option Addr) (n c : Nat) (ps : List (Int × Int)) (w : World) (hb : Prs w w.heap.size A n ps) (hn : n ≤ 100000) :
    Calls Tryd.prog 88 #[.slice A n c] w (PrRet w ps) := by
  have q := fun (w : World) (a : Option Addr) (n c n' c' : Nat) => Lib.run_eql_slice_nil (P := Tryd.prog) w _ _ a n c n' c' Tryd.underlying28
  rcases A with _ | ad
  · have h0 : n = 0 := by
      rcases Nat.eq_zero_or_pos n with h | h
      · exact h
      · obtain ⟨b, o, h, _⟩ := hb.at_ h; cases h
    subst h0
    obtain rfl := hb.zero
    clear hb hn
    go_enter Tryd.func88, Tryd.ntmps88
    go_wp2
    go_ret
    exact ⟨none, 0, rfl, Nat.le_refl _, OwnP.nil _ _, Below.refl _ _⟩
  · have O1 : OwnP (w.alloc (.cells #[] 101)) w.heap.size (.slice (some ⟨w.heap.size, 0, none⟩) 0 0) [] := World.ownsRow_lit w #[] 0 (Nat.le_refl _) (Nat.zero_le _) rfl
    have B1 : Below w.heap.size w (w.alloc (.cells #[] 101)) := (Below.refl _ _).alloc (Nat.le_refl _) _
    have hl := hb.len
    have O2 := Lib.hid O1
    have B2 := Lib.hid B1
    have P1 := Lib.hid (hb.below B1)
    have HN := Lib.hid hn
    have HL := Lib.hid hl
    clear O1 B1 hb hn hl
    go_enter Tryd.func88, Tryd.ntmps88
    go_wp2_with (at_builtin
                 (refine wpList_appP _ rfl (.tmp 5) (.tmp 6) rfl w.heap.size _ [] rfl O2.out w.heap.size _ n c ps rfl P1.out (by have := HN.out; simp; omega) B2.out.size n (by simp) ?_)
                 intro A3 c3 w3 g3 O3 B3
                 have HO := Lib.hid O3
                 have HG := Lib.hid g3
                 have HB := Lib.hid (B2.out.trans B3)
                 clear O3 B3 g3)
    go_ret
    have e := HL.out
    subst e
    exact ⟨A3, c3, rfl, HG.out, by simpa using HO.out, HB.out⟩
end Go.Proofs.YtniimgbljhmcoaaDoor.opC

/-
  One more option that is read: the program's.
-/
namespace Go.Proofs.YtniimgbljhmcoaaDoor.opC
open Go.ChangeShapes Go.WideShapes Go.ChangeAt Go.RowKit
open Go.Proofs.YtniimgbljhmcoaaDoor.memC Go.Proofs.YtniimgbljhmcoaaDoor.genC Go.Proofs.YtniimgbljhmcoaaDoor.butC Go.Proofs.YtniimgbljhmcoaaDoor.freeC Go.Proofs.YtniimgbljhmcoaaDoor.adC
open Go.Proofs.YtniimgbljhmcoaaDoor.octC (Fr Rd RdD stopped getZ)
set_option linter.unusedVariables false
/-- options that are being read, in block g -/
structure St (w : World) (g : Nat) (o : Opt) (A : Option Addr) (n c : Nat) : Prop where
  row : OptAt w g o A n c
  mac : o.mac.length = 12
  len : o.sk.length = n
  own : OwnP w (g + 1) (.slice A n c) o.sk
  nil : o.sk = [] → A = none ∧ n = 0 ∧ c = 0
theorem St.lt {w : World} {g : Nat} {o : Opt} {A : Option Addr} {n c : Nat} (h : St w g o A n c) : g < w.heap.size := h.row.lt
theorem St.fr {S : Nat → Prop} {w w' : World} {g : Nat} {o : Opt} {A : Option Addr} {n c : Nat} (h : St w g o A n c) (F : Fr S w w') (hg : ¬ S g) (ho : ∀ k, (Value.slice A n c).ownBlock = some k → ¬ S k) : St w' g o A n c :=
  ⟨(show w'.heap[g]? = _ by rw [F.block _ h.lt hg]; exact h.row), h.mac, h.len, by
    have O := h.own
    refine ⟨O.1, ?_⟩
    rcases O.2 with h0 | ⟨k, cap, cur, e, hb, hh, h'⟩
    · exact .inl h0
    · have hb2 := (OwnP.blk O k (by rw [e]; rfl)).2
      exact .inr ⟨k, cap, cur, e, hb, (F.block k hb2 (ho k (by rw [e]; rfl))).trans hh, h'⟩, h.nil⟩
theorem St.bel {w w' : World} {g : Nat} {o : Opt} {A : Option Addr} {n c : Nat} (h : St w g o A n c) (B : Below w.heap.size w w') : St w' g o A n c := h.fr (S := fun _ => False) (Fr.below B) (fun h => h) fun _ _ h => h
/-- a store into the options -/
theorem St.set_ {w : World} {g : Nat} {o o' : Opt} {A : Option Addr} {n c : Nat} (h : St w g o A n c) (j : Nat) (v : Value) (e : (optV o A n c).setIfInBounds j v = optV o' A n c) (hs : o'.sk = o.sk) (hm : o'.mac.length = 12) : St (w.setCell ⟨g, j, none⟩ v) g o' A n c :=
  ⟨h.row.set_ j v e, hm, by rw [hs]; exact h.len, by
    have O := h.own
    unfold OwnP at O ⊢
    rw [hs]
    exact OwnP.keep (ps := o.sk) h.own (fun k h1 h2 => Below.heap_setCell _ _ _ _ (by show k ≠ g; omega)), by rw [hs]; exact h.nil⟩
def AddR (w : World) (q g : Nat) (o' : Opt) (e : Ending) (w' : World) : Prop := e = .returned (.tuple #[]) ∧ Fr (fun x => x = q ∨ x = g) w w' ∧ ∃ A n c, St w' g o' A n c
theorem frq {q g : Nat} {w w' : World} (h : Fr (· = q) w w') : Fr (fun x => x = q ∨ x = g) w w' := h.mono fun _ _ h => .inl h
theorem fr_set {q g j : Nat} {w w' : World} (h : Fr (fun x => x = q ∨ x = g) w w') (v : Value) : Fr (fun x => x = q ∨ x = g) w (w'.setCell ⟨g, j, none⟩ v) := by
  refine ⟨h.os, h.tape, h.output, by simpa [World.setCell] using h.size, fun k hk hn => ?_⟩
  rw [Below.heap_setCell _ _ _ _ (show k ≠ g from fun e => hn (.inr e))]
  exact h.block k hk hn
theorem left_any {q B : Nat} {b : List Int} {w : World} (h : RdD w q B b) : Calls Tryd.prog 79 #[.pointer (some ⟨q, 0, none⟩)] w fun e w' => e = .returned (.int .i64 (b.length : Nat)) ∧ w' = w := by
  obtain ⟨A, n, c, h1, h2, h3, N, h4⟩ := h
  rw [N.len]
  exact (octC.left_some q A n c w h1).mono fun e w' h => ⟨h.1, h.2.symm⟩
theorem run_arrayAt {P : Program} {t e : TypeId} {n : Nat} (ht : P.underlying t = some (.array n e)) (A : Option Addr) (l c : Nat) (h : n ≤ l) (w : World) : (Instr.arrayAt t (.slice A l c)).run P w = .ok (.pointer A) w := by
  unfold Instr.arrayAt
  rw [Sem.run_bind, run_underlying ht w]
  simp [Nat.not_lt.2 h]
theorem mac_cells {w : World} {g : Nat} {M : List Int} (hM : M.length = 12) (h : ∀ j, j < 12 → w.cell? ⟨g, j, none⟩ = some (.int .u8 (M.getD j 0))) : ∀ j v, (macL M)[j]? = some v → w.cell? ⟨g, 0 + j, none⟩ = some v := by
  intro j v hv
  have hj : j < 12 := by
    have := (List.getElem?_eq_some_iff.1 hv).1
    simp [macL, hM] at this; exact this
  rw [Nat.zero_add, h j hj]
  have hj2 : j < M.length := by rw [hM]; exact hj
  simp [macL, List.getElem?_eq_getElem hj2] at hv
  rw [← hv]
  simp [List.getD_eq_getElem?_getD, hj2]
section
variable {w : World} {q g B : Nat} {o : Opt} {A : Option Addr} {n c : Nat} {b : List Int}
set_option maxRecDepth 100000 in
set_option maxHeartbeats 1000000 in
theorem add2 (hS : St w g o A n c) (hR : RdD w q B b) (hgq : g < q) (hBg : B ≤ g) (hne : ∀ k, (Value.slice A n c).ownBlock = some k → k ≠ q) (hy : ∀ x ∈ b, Byte x) (hl : b.length = 2) : Calls Tryd.prog 101 #[.pointer (some ⟨g, 0, none⟩), .int .u8 2, .pointer (some ⟨q, 0, none⟩)] w (AddR w q g (addO o 2 b)) := by
  have T := octC.num_okD q B b 2 w hR (by decide) (by decide) (by rw [show octC.fitN 2 = 2 by decide]; omega) (by omega) hy
  unfold octC.NumD at T
  rw [show octC.fitN 2 = 2 by decide, List.take_of_length_le (by omega)] at T
  have zb := getZ_bound hy
  rw [hl] at zb
  have wz : IntKind.u16.wrap (getZ b) = getZ b := IntWalk.u16_in _ (by omega)
  have TT := Lib.hid T
  have HS := Lib.hid hS
  have HG := Lib.hid hgq
  have HN := Lib.hid hne
  show Calls _ _ _ _ (AddR w q g { o with hm := true, ms := getZ b })
  generalize getZ b = z at *
  clear T hS hR hgq hBg hne hy hl zb
  go_enter Tryd.func101, Tryd.ntmps101
  go_upto_region 2 with fail
  go_wp2_with (first
    | (go_at_call 97; refine TT.out.mono ?_; rintro e w1 ⟨rfl, R1, F1⟩
       have FF := Lib.hid F1
       have S1 := Lib.hid (HS.out.fr F1 (by have := HG.out; omega) HN.out)
       have k0 := pkC.PkC.cell S1.out.row (optC S1.out.mac A n c).hm
       have k1 := pkC.PkC.cell S1.out.row (optC S1.out.mac A n c).ms
       have f0 := S1.out.row.frozen 0
       have f1 := S1.out.row.frozen 1
       clear R1 F1))
  go_end0
  exact ⟨rfl, fr_set (fr_set (frq FF.out) _) _, A, n, c, (S1.out.set_ 0 _ (optV_hm true) rfl S1.out.mac).set_ 1 _ (optV_ms z) rfl S1.out.mac⟩
set_option maxRecDepth 100000 in
set_option maxHeartbeats 1000000 in
theorem add3 (hS : St w g o A n c) (hR : RdD w q B b) (hgq : g < q) (hBg : B ≤ g) (hne : ∀ k, (Value.slice A n c).ownBlock = some k → k ≠ q) (hy : ∀ x ∈ b, Byte x) (hl : b.length = 1) : Calls Tryd.prog 101 #[.pointer (some ⟨g, 0, none⟩), .int .u8 3, .pointer (some ⟨q, 0, none⟩)] w (AddR w q g (addO o 3 b)) := by
  have T := octet_ok q B b w hR (by omega) (by omega) hy
  unfold NxR at T
  have hb := getD_byte0 hy 0
  unfold Byte at hb
  have TT := Lib.hid T
  have HS := Lib.hid hS
  have HG := Lib.hid hgq
  have HN := Lib.hid hne
  show Calls _ _ _ _ (AddR w q g { o with hs := true, sc := min (b.getD 0 0) 14 })
  generalize b.getD 0 0 = z at *
  clear T hS hR hgq hBg hne hy hl
  by_cases h14 : z ≤ 14
  · rw [Int.min_eq_left h14]
    go_enter Tryd.func101, Tryd.ntmps101
    go_upto_region 4 with fail
    go_wp2_with (first
      | (go_at_call 98; refine TT.out.mono ?_; rintro e w1 ⟨rfl, R1, F1⟩
         have FF := Lib.hid F1
         have S1 := Lib.hid (HS.out.fr F1 (by have := HG.out; omega) HN.out)
         have k0 := pkC.PkC.cell S1.out.row (optC S1.out.mac A n c).hs
         have k1 := pkC.PkC.cell S1.out.row (optC S1.out.mac A n c).sc
         have f0 := S1.out.row.frozen 2
         have f1 := S1.out.row.frozen 3
         clear R1 F1))
    go_end0
    exact ⟨rfl, fr_set (fr_set (frq FF.out) _) _, A, n, c, (S1.out.set_ 2 _ (optV_hs true) rfl S1.out.mac).set_ 3 _ (optV_sc z) rfl S1.out.mac⟩
  · rw [Int.min_eq_right (by omega)]
    go_enter Tryd.func101, Tryd.ntmps101
    go_upto_region 4 with fail
    go_wp2_with (first
      | (go_at_call 98; refine TT.out.mono ?_; rintro e w1 ⟨rfl, R1, F1⟩
         have FF := Lib.hid F1
         have S1 := Lib.hid (HS.out.fr F1 (by have := HG.out; omega) HN.out)
         have k0 := pkC.PkC.cell S1.out.row (optC S1.out.mac A n c).hs
         have k1 := pkC.PkC.cell S1.out.row (optC S1.out.mac A n c).sc
         have f0 := S1.out.row.frozen 2
         have f1 := S1.out.row.frozen 3
         clear R1 F1))
    go_end0
    exact ⟨rfl, fr_set (fr_set (frq FF.out) _) _, A, n, c, (S1.out.set_ 2 _ (optV_hs true) rfl S1.out.mac).set_ 3 _ (optV_sc 14) rfl S1.out.mac⟩
set_option maxRecDepth 100000 in
set_option maxHeartbeats 1000000 in
theorem add4 (hS : St w g o A n c) (hR : RdD w q B b) (hgq : g < q) (hBg : B ≤ g) (hne : ∀ k, (Value.slice A n c).ownBlock = some k → k ≠ q) (hy : ∀ x ∈ b, Byte x) : Calls Tryd.prog 101 #[.pointer (some ⟨g, 0, none⟩), .int .u8 4, .pointer (some ⟨q, 0, none⟩)] w (AddR w q g (addO o 4 b)) := by
  have HS := Lib.hid hS
  have k4 := pkC.PkC.cell hS.row (optC hS.mac A n c).so
  have f4 := hS.row.frozen 4
  show Calls _ _ _ _ (AddR w q g { o with so := true })
  clear hS hR hgq hBg hne hy
  go_enter Tryd.func101, Tryd.ntmps101
  go_upto_region 6 with fail
  go_wp2_with fail
  go_end0
  exact ⟨rfl, fr_set (Fr.refl _) _, A, n, c, HS.out.set_ 4 _ (optV_so true) rfl HS.out.mac⟩
set_option maxRecDepth 100000 in
set_option maxHeartbeats 2000000 in
theorem add8 (hS : St w g o A n c) (hR : RdD w q B b) (hgq : g < q) (hBg : B ≤ g) (hne : ∀ k, (Value.slice A n c).ownBlock = some k → k ≠ q) (hy : ∀ x ∈ b, Byte x) (hl : b.length = 8) : Calls Tryd.prog 101 #[.pointer (some ⟨g, 0, none⟩), .int .u8 8, .pointer (some ⟨q, 0, none⟩)] w (AddR w q g (addO o 8 b)) := by
  have T1 := Lib.hid (number_ok q B b w hR (by omega) (by omega) hy)
  have T2 := Lib.hid (fun w' (h : RdD w' q B (b.drop 4)) => number_ok q B (b.drop 4) w' h (by rw [List.length_drop]; omega) (by rw [List.length_drop]; omega) (fun x hx => hy x (List.mem_of_mem_drop hx)))
  have e4 : (b.drop 4).take 4 = b.drop 4 := List.take_of_length_le (by rw [List.length_drop]; omega)
  rw [e4] at T2
  unfold NxR at T1 T2
  have HS := Lib.hid hS
  have HG := Lib.hid hgq
  have HN := Lib.hid hne
  show Calls _ _ _ _ (AddR w q g { o with ht := true, va := getZ (b.take 4), ec := getZ (b.drop 4) })
  generalize getZ (b.take 4) = x at *
  generalize getZ (b.drop 4) = y at *
  clear hS hR hgq hBg hne hy hl e4
  go_enter Tryd.func101, Tryd.ntmps101
  go_upto_region 8 with fail
  go_wp2_with (first
    | (go_at_call 102; (with_reducible refine T1.out.mono ?_); rintro e w1 ⟨rfl, R1, F1⟩
       have RR1 := Lib.hid R1
       have FF1 := Lib.hid F1
       clear R1 F1)
    | (go_at_call 102; (refine (T2.out _ RR1.out).mono ?_); rintro e w2 ⟨rfl, R2, F2⟩
       have FF := Lib.hid (FF1.out.trans F2)
       have S1 := Lib.hid (HS.out.fr FF.out (by have := HG.out; omega) HN.out)
       have k6 := pkC.PkC.cell S1.out.row (optC S1.out.mac A n c).ht
       have k7 := pkC.PkC.cell S1.out.row (optC S1.out.mac A n c).va
       have k8 := pkC.PkC.cell S1.out.row (optC S1.out.mac A n c).ec
       have f6 := S1.out.row.frozen 6
       have f7 := S1.out.row.frozen 7
       have f8 := S1.out.row.frozen 8
       clear R2 F2))
  go_end0
  exact ⟨rfl, fr_set (fr_set (fr_set (frq FF.out) _) _) _, A, n, c, ((S1.out.set_ 6 _ (optV_ht true) rfl S1.out.mac).set_ 7 _ (optV_va x) rfl S1.out.mac).set_ 8 _ (optV_ec y) rfl S1.out.mac⟩
set_option maxRecDepth 100000 in
set_option maxHeartbeats 2000000 in
theorem add29 (hS : St w g o A n c) (hR : RdD w q B b) (hgq : g < q) (hBg : B ≤ g) (hne : ∀ k, (Value.slice A n c).ownBlock = some k → k ≠ q) (hy : ∀ x ∈ b, Byte x) (hl : b.length = 14) : Calls Tryd.prog 101 #[.pointer (some ⟨g, 0, none⟩), .int .u8 29, .pointer (some ⟨q, 0, none⟩)] w (AddR w q g (addO o 29 b)) := by
  have T1 := Lib.hid (octet_ok q B b w hR (by omega) (by omega) hy)
  have T2 := Lib.hid (fun w' (h : RdD w' q B (b.drop 1)) => octet_ok q B (b.drop 1) w' h (by rw [List.length_drop]; omega) (by rw [List.length_drop]; omega) (fun x hx => hy x (List.mem_of_mem_drop hx)))
  have T3 := Lib.hid (fun w' (h : RdD w' q B (b.drop 2)) => octC.bytes_okD q B (b.drop 2) 12 12 w' h rfl (by rw [List.length_drop]; omega) (by rw [List.length_drop]; omega))
  have e1 : (b.drop 1).getD 0 0 = b.getD 1 0 := by simp [List.getD_eq_getElem?_getD]
  have e2 : (b.drop 1).drop 1 = b.drop 2 := by rw [List.drop_drop]
  have e3 : (b.drop 2).take 12 = b.drop 2 := List.take_of_length_le (by rw [List.length_drop]; omega)
  have hM : (b.drop 2).length = 12 := by rw [List.length_drop]; omega
  unfold NxR at T1 T2
  unfold octC.ByD at T3
  rw [e1, e2] at T2
  rw [e3] at T3
  have HS := Lib.hid hS
  have HG := Lib.hid hgq
  have HN := Lib.hid hne
  have HM := Lib.hid hM
  have HBG := Lib.hid hBg
  show Calls _ _ _ _ (AddR w q g { o with ha := true, ki := b.getD 0 0, ni := b.getD 1 0, mac := b.drop 2 })
  generalize b.getD 0 0 = x at *
  generalize b.getD 1 0 = y at *
  generalize b.drop 2 = M at *
  clear hS hR hgq hBg hne hy hl e1 e2 e3 hM
  go_enter Tryd.func101, Tryd.ntmps101
  go_upto_region 13 with fail
  go_upto_region 14 with (first
    | (go_at_call 98; (with_reducible refine T1.out.mono ?_); rintro e w1 ⟨rfl, R1, F1⟩
       have RR1 := Lib.hid R1
       have FF1 := Lib.hid F1
       clear R1 F1)
    | (go_at_call 98; (refine (T2.out _ RR1.out).mono ?_); rintro e w2 ⟨rfl, R2, F2⟩
       have RR2 := Lib.hid R2
       have FF := Lib.hid (FF1.out.trans F2)
       have S1 := Lib.hid (HS.out.fr FF.out (by have := HG.out; omega) HN.out)
       have k9 := pkC.PkC.cell S1.out.row (optC S1.out.mac A n c).ha
       have k10 := pkC.PkC.cell S1.out.row (optC S1.out.mac A n c).ki
       have k11 := pkC.PkC.cell S1.out.row (optC S1.out.mac A n c).ni
       have f9 := S1.out.row.frozen 9
       have f10 := S1.out.row.frozen 10
       have f11 := S1.out.row.frozen 11
       clear R2 F2))
  obtain ⟨o3, ho3⟩ : ∃ o3, o3 = { o with ha := true, ki := x, ni := y } := ⟨_, rfl⟩
  have HO3 := Lib.hid ho3
  have S4 := Lib.hid (show St (((w2.setCell ⟨g, 9, none⟩ (.bool true)).setCell ⟨g, 10, none⟩ (.int .u8 x)).setCell ⟨g, 11, none⟩ (.int .u8 y)) g o3 A n c by
    rw [ho3]
    exact ((S1.out.set_ 9 _ (optV_ha true) rfl S1.out.mac).set_ 10 _ (optV_ki x) rfl S1.out.mac).set_ 11 _ (optV_ni y) rfl S1.out.mac)
  clear ho3
  have F4 := Lib.hid (fr_set (j := 11) (fr_set (j := 10) (fr_set (j := 9) (frq (g := g) FF.out) (.bool true)) (.int .u8 x)) (.int .u8 y))
  have R4 := Lib.hid (show RdD (((w2.setCell ⟨g, 9, none⟩ (.bool true)).setCell ⟨g, 10, none⟩ (.int .u8 x)).setCell ⟨g, 11, none⟩ (.int .u8 y)) q B M by
    have hg2 := HG.out
    have hle := RR2.out.le
    have hBg := HBG.out
    have e : ∀ k, k ≠ g → (((w2.setCell ⟨g, 9, none⟩ (.bool true)).setCell ⟨g, 10, none⟩ (.int .u8 x)).setCell ⟨g, 11, none⟩ (.int .u8 y)).heap[k]? = w2.heap[k]? := fun k hk => by
      rw [Below.heap_setCell _ _ _ _ (show k ≠ g from hk), Below.heap_setCell _ _ _ _ (show k ≠ g from hk), Below.heap_setCell _ _ _ _ (show k ≠ g from hk)]
    exact RR2.out.keep (by simp [World.setCell]) (e q (by omega)) fun k hk => e k (by omega))
  generalize ((w2.setCell ⟨g, 9, none⟩ (.bool true)).setCell ⟨g, 10, none⟩ (.int .u8 x)).setCell ⟨g, 11, none⟩ (.int .u8 y) = w4 at *
  clear k9 k10 k11 f9 f10 f11
  have SM := Lib.hid (show 12 + (macL M).toArray.size ≤ (optV o3 A n c).size by
    have h9 := (optC S4.out.mac A n c).size
    have h8 : (macL M).toArray.size = 12 := by simp [macL, HM.out]
    rw [h8]
    exact Nat.le_of_eq h9.symm)
  have IM := Lib.hid (mac_info HM.out)
  have OM := Lib.hid (mac_one M)
  have hat := fun (A : Option Addr) (c : Nat) (w : World) => run_arrayAt (P := Tryd.prog) (t := 29) Tryd.underlying29 A 12 c (by decide) w
  go_wp2_with (first
    | (go_at_call 77; (refine (T3.out _ R4.out).mono ?_); rintro e w5 ⟨A5, c5, rfl, O5, g5, g6, R5, F5⟩
       obtain ⟨g7, hA5, hg7, hl7, hc7, _⟩ := O5.row (by decide)
       have S5 := Lib.hid (S4.out.fr F5 (by have := HG.out; omega) HN.out)
       have F6 := Lib.hid (F4.out.trans (frq F5))
       have C7 := Lib.hid (mac_cells HM.out hc7)
       have RW := Lib.hid (show w5.heap[g]? = some (.cells (optV o3 A n c) 31 (0, 0)) from S5.out.row)
       subst hA5
       clear O5 g5 g6 R5 F5 hg7 hl7 hc7)
    | (refine partC.wpList_load_part rfl 29 (.tmp 86) rfl g7 0 rfl (macL M) _ C7.out Tryd.underlying29 rfl IM.out ?_)
    | (refine partC.wpList_store_part rfl 29 (.tmp 89) (.tmp 87) rfl g 12 (macL M).toArray rfl rfl 31 _ RW.out IM.out SM.out OM.out ?_))
  go_end0
  have em := optV_mac (o := o3) (A := A) (n := n) (c := c) (m := M) S5.out.mac HM.out
  have e3 : ({ o with ha := true, ki := x, ni := y, mac := M } : Opt) = { o3 with mac := M } := by rw [HO3.out]
  rw [e3]
  refine ⟨rfl, ?_, A, n, c, ?_, HM.out, S5.out.len, ?_, S5.out.nil⟩
  · refine ⟨F6.out.os, F6.out.tape, F6.out.output, by simpa using F6.out.size, fun k hk hn => ?_⟩
    rw [setRow_other _ _ _ _ (show k ≠ g from fun e => hn (.inr e))]
    exact F6.out.block k hk hn
  · show (World.heap _)[g]? = _
    rw [← em]
    exact setRow_heap _ _ _ _ _ _ RW.out
  · exact OwnP.keep (ps := o3.sk) S5.out.own fun k h1 h2 => setRow_other _ _ _ _ (by omega)
end
end Go.Proofs.YtniimgbljhmcoaaDoor.opC
