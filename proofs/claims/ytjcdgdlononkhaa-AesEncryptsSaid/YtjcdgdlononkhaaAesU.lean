/-
  The walks of AesEncrypts and AesRounds.
-/
import Derived.Test.YtjcdgdlononkhaaAesT
namespace Go.Proofs.Ytjcdgdlononkhaa.aesC
open Go.ChangeShapes Go.WideShapes Go.ChangeAt Go.RowKit
open Go.Proofs.Ytjcdgdlononkhaa.memC Go.Proofs.Ytjcdgdlononkhaa.genC Go.Proofs.Ytjcdgdlononkhaa.aesM Go.Proofs.Ytjcdgdlononkhaa.freeC
set_option linter.unusedVariables false
def tabP : List (Option Nat) := [none, none, none, none, some 11, some 0, some 1, some 2, some 3, some 4, some 5, some 6, some 7, some 8, some 9, some 10]
def PV (K B R : Array Value) : Nat → Value → World → Prop
  | 0, v, _ => v = .agg K
  | 1, v, _ => v = .agg K
  | 2, v, _ => v = .agg B
  | 3, v, _ => v = .agg R
  | 4, v, _ => v = .agg K
  | 5, v, _ => v = .agg B
  | 6, v, _ => v = .agg R
  | 7, v, _ => v = .bool true
  | 8, v, _ => v = .bool true
  | 9, v, _ => v = .bool true
  | 10, v, _ => v = .bool true
  | 11, v, _ => v = .bool true
  | _, _, _ => True
theorem PV.keep (K B R : Array Value) (i : Nat) (v : Value) (w w' : World) (hb : Below w.heap.size w w') (h : PV K B R i v w) : PV K B R i v w' := by
  unfold PV at h ⊢
  split at h <;> exact h
def tabG : List (Option Nat) := [none, none, none, none, none, none, none, none, none, none, none, none, some 0, some 1, some 2, some 3, some 4, none, none, none, none, none, none, none, none, none]
def GV (n : Int) (K T F R : Array Value) : Nat → Value → World → Prop
  | 0, v, _ => v = .agg K
  | 1, v, _ => v = .agg T
  | 2, v, _ => v = .agg F
  | 3, v, _ => v = .int .i64 n
  | 4, v, _ => v = .agg R
  | _, _, _ => True
theorem GV.keep (n : Int) (K T F R : Array Value) (i : Nat) (v : Value) (w w' : World) (hb : Below w.heap.size w w') (h : GV n K T F R i v w) : GV n K T F R i v w' := by
  unfold GV at h ⊢
  split at h <;> exact h
def tabH : List (Option Nat) := [none, none, none, none, some 9, none, none, none, none, none, none, none, none, none, none, none, none, some 0, some 1, some 2, some 3, some 4, some 5, some 6, some 7, some 8]
def HV (n : Int) (K R : Array Value) : Nat → Value → World → Prop
  | 0, v, _ => v = .agg K
  | 1, v, _ => v = .agg K
  | 2, v, _ => v = .int .i64 n
  | 3, v, _ => v = .agg R
  | 4, v, _ => v = .agg R
  | 5, v, _ => v = .bool true
  | 6, v, _ => v = .bool true
  | 7, v, _ => v = .bool true
  | 8, v, _ => v = .bool true
  | 9, v, _ => v = .bool true
  | _, _, _ => True
theorem HV.keep (n : Int) (K R : Array Value) (i : Nat) (v : Value) (w w' : World) (hb : Below w.heap.size w w') (h : HV n K R i v w) : HV n K R i v w' := by
  unfold HV at h ⊢
  split at h <;> exact h
set_option maxRecDepth 100000 in
set_option maxHeartbeats 1000000 in
theorem aesencrypts_walk (k b : List Nat) (w : World) (hk : k.length = 16) (yk : BY k) (hb : b.length = 16) (yb : BY b) :
    Calls Try.prog 3 #[.agg (vec k), .agg (vec b)] w (AliveRet w) := by
  obtain ⟨K, hK⟩ : ∃ K, K = vec k := ⟨_, rfl⟩
  obtain ⟨B, hB⟩ : ∃ B, B = vec b := ⟨_, rfl⟩
  obtain ⟨R, hR⟩ : ∃ R, R = vec (encL k b) := ⟨_, rfl⟩
  have CN := Lib.hid (fun w => new_any k w hk)
  have CE := Lib.hid (fun w => encrypt_any k b w hk yk hb yb)
  have CF := Lib.hid (fun w => refencrypt_any k b w hk yk hb yb)
  rw [← hK] at CN
  rw [← hK, ← hB, ← hR] at CE CF
  have HER := Lib.hid (fun w => by rw [hR]; exact eq16 (encL_len _ _) w : ∀ w, (Op.equalIn 10000 22 (.agg R) (.agg R)).run Try.prog w = .ok true w)
  have UK := Lib.hid (show (Try.prog.info? 22).map (·.size) = some K.size by rw [hK]; exact vec_info hk)
  have UB := Lib.hid (show (Try.prog.info? 22).map (·.size) = some B.size by rw [hB]; exact vec_info hb)
  have HK := Lib.hid hK.symm
  have HB := Lib.hid hB.symm
  obtain ⟨W, hW⟩ : ∃ W, W = (w.alloc (.cells K 22)).alloc (.cells B 22) := ⟨_, rfl⟩
  have G0 : Hid (A2 w k b W) := Lib.hid (by rw [hW, hK, hB]; exact a2_new w _ _)
  rw [← hK, ← hB]
  clear hK hB hR hk yk hb yb
  go_enter Try.func3, Try.ntmps3
  go_upto_region 1 with fail
  rw [← hW]
  clear hW
  refine with_act fun a0 ha0 => ?_
  have hl : tabP.length = a0.tmps.size := by rw [ha0]; rfl
  have k2 : a0.tmps[2]?.getD undef = .pointer (some ⟨w.heap.size, 0, none⟩) := by rw [ha0]; rfl
  have k3 : a0.tmps[3]?.getD undef = .pointer (some ⟨w.heap.size + 1, 0, none⟩) := by rw [ha0]; rfl
  refine wp_region_vals (by kernel_rfl) tabP (by kernel_rfl) (by kernel_rfl) hl (fun i => if i = 11 then .bool false else undef) (by rw [ha0]; rfl) (A2 w k b) (PV K B R) ?_ (PV.keep _ _ _) ⟨?_, ?_, ?_, ?_, ?_, ?_, ?_, ?_, ?_, ?_, ?_, ?_, trivial⟩ ?_
  · exact ⟨G0.out.b0.heap rfl, G0.out.b1.heap rfl, G0.out.bel.drew⟩
  · refine step_plain [] (by kernel_rfl) rfl fun us w' hG hV => ?_
    have o2 := (frame_old2 (us := us) (a := a0) (show (tabP[2]?).join = none from rfl)).trans k2
    have hg1 := hG.b0.row
    rw [HK.out] at hg1
    generalize frame tabP a0 us = fr at *
    exact load_ok 22 2 rfl w.heap.size o2 _ _ _ _ hg1 Try.underlying22 rfl UK.out hG rfl
  · refine step_plain [0] (by kernel_rfl) rfl fun us w' hG hV => ?_
    have e0 : us 0 = .agg K := hV 0 (by simp)
    have v0 := (frame_at2 (us := us) hl (show (tabP[5]?).join = some 0 from rfl)).trans e0
    generalize frame tabP a0 us = fr at *
    exact call_ok (f := 8) (args := #[.agg K]) (by go_simp) ((CN.out w').mono fun e w'' h => ⟨_, h.1, hG.below h.2, h.2, rfl⟩)
  · refine step_plain [] (by kernel_rfl) rfl fun us w' hG hV => ?_
    have o3 := (frame_old2 (us := us) (a := a0) (show (tabP[3]?).join = none from rfl)).trans k3
    have hg1 := hG.b1.row
    rw [HB.out] at hg1
    generalize frame tabP a0 us = fr at *
    exact load_ok 22 3 rfl (w.heap.size + 1) o3 _ _ _ _ hg1 Try.underlying22 rfl UB.out hG rfl
  · refine step_plain [1, 2] (by kernel_rfl) rfl fun us w' hG hV => ?_
    have e1 : us 1 = .agg K := hV 1 (by simp)
    have v1 := (frame_at2 (us := us) hl (show (tabP[6]?).join = some 1 from rfl)).trans e1
    have e2 : us 2 = .agg B := hV 2 (by simp)
    have v2 := (frame_at2 (us := us) hl (show (tabP[7]?).join = some 2 from rfl)).trans e2
    generalize frame tabP a0 us = fr at *
    exact call_ok (f := 9) (args := #[.agg K, .agg B]) (by go_simp) ((CE.out w').mono fun e w'' h => ⟨_, h.1, hG.below h.2, h.2, rfl⟩)
  · refine step_plain [] (by kernel_rfl) rfl fun us w' hG hV => ?_
    have o2 := (frame_old2 (us := us) (a := a0) (show (tabP[2]?).join = none from rfl)).trans k2
    have hg1 := hG.b0.row
    rw [HK.out] at hg1
    generalize frame tabP a0 us = fr at *
    exact load_ok 22 2 rfl w.heap.size o2 _ _ _ _ hg1 Try.underlying22 rfl UK.out hG rfl
  · refine step_plain [] (by kernel_rfl) rfl fun us w' hG hV => ?_
    have o3 := (frame_old2 (us := us) (a := a0) (show (tabP[3]?).join = none from rfl)).trans k3
    have hg1 := hG.b1.row
    rw [HB.out] at hg1
    generalize frame tabP a0 us = fr at *
    exact load_ok 22 3 rfl (w.heap.size + 1) o3 _ _ _ _ hg1 Try.underlying22 rfl UB.out hG rfl
  · refine step_plain [4, 5] (by kernel_rfl) rfl fun us w' hG hV => ?_
    have e4 : us 4 = .agg K := hV 4 (by simp)
    have v4 := (frame_at2 (us := us) hl (show (tabP[9]?).join = some 4 from rfl)).trans e4
    have e5 : us 5 = .agg B := hV 5 (by simp)
    have v5 := (frame_at2 (us := us) hl (show (tabP[10]?).join = some 5 from rfl)).trans e5
    generalize frame tabP a0 us = fr at *
    exact call_ok (f := 10) (args := #[.agg K, .agg B]) (by go_simp) ((CF.out w').mono fun e w'' h => ⟨_, h.1, hG.below h.2, h.2, rfl⟩)
  · refine step_plain [3, 6] (by kernel_rfl) rfl fun us w' hG hV => ?_
    have e3 : us 3 = .agg R := hV 3 (by simp)
    have v3 := (frame_at2 (us := us) hl (show (tabP[8]?).join = some 3 from rfl)).trans e3
    have e6 : us 6 = .agg R := hV 6 (by simp)
    have v6 := (frame_at2 (us := us) hl (show (tabP[11]?).join = some 6 from rfl)).trans e6
    have hq := HER.out w'
    have hgd := guard16
    generalize frame tabP a0 us = fr at *
    exact val_ok (v := .bool true) (w' := w') (by go_simp) hG (Below.refl _ _) rfl
  · refine step_plain [7] (by kernel_rfl) rfl fun us w' hG hV => ?_
    have e7 : us 7 = .bool true := hV 7 (by simp)
    have v7 := (frame_at2 (us := us) hl (show (tabP[12]?).join = some 7 from rfl)).trans e7
    generalize frame tabP a0 us = fr at *
    exact val_ok (v := .bool true) (w' := w') (by go_simp) hG (Below.refl _ _) rfl
  · refine step_guard [8] (by kernel_rfl) (j := 8) (t := 13) (b := true) rfl (by simp) rfl hl rfl (fun v w h => h) fun us w' hG hV => ?_
    have e8 : us 8 = .bool true := hV 8 (by simp)
    have v8 := (frame_at2 (us := us) hl (show (tabP[13]?).join = some 8 from rfl)).trans e8
    generalize frame tabP a0 us = fr at *
    exact call_ok (f := 11) (args := #[]) (by go_simp) ((alive_any w').mono fun e w'' h => ⟨_, h.1, hG.below h.2, h.2, rfl⟩)
  · refine step_plain [8, 9] (by kernel_rfl) rfl fun us w' hG hV => ?_
    have e8 : us 8 = .bool true := hV 8 (by simp)
    have v8 := (frame_at2 (us := us) hl (show (tabP[13]?).join = some 8 from rfl)).trans e8
    have e9 : us 9 = .bool true := hV 9 (by simp)
    have v9 := (frame_at2 (us := us) hl (show (tabP[14]?).join = some 9 from rfl)).trans e9
    generalize frame tabP a0 us = fr at *
    exact val_ok (v := .bool true) (w' := w') (by go_simp) hG (Below.refl _ _) rfl
  · refine step_plain [10] (by kernel_rfl) rfl fun us w' hG hV => ?_
    have e10 : us 10 = .bool true := hV 10 (by simp)
    have v10 := (frame_at2 (us := us) hl (show (tabP[15]?).join = some 10 from rfl)).trans e10
    generalize frame tabP a0 us = fr at *
    exact val_ok (v := .bool true) (w' := w') (by go_simp) hG (Below.refl _ _) rfl
  · intro us w' hG hV
    have e11 : us 11 = .bool true := hV 11 (by decide)
    subst ha0
    simp only [frame, tabP, fill]
    rw [e11]
    go_wp2_with fail
    go_ret
    exact ⟨rfl, hG.bel⟩
set_option maxRecDepth 100000 in
set_option maxHeartbeats 1000000 in
theorem aesrounds_walk (k : List Nat) (n : Int) (w : World) (hk : k.length = 16) (yk : BY k) (lo : -9223372036854775808 ≤ n) (hi : n ≤ 9223372036854775807) :
    Calls Try.prog 4 #[.agg (vec k), .int .i64 n] w (AliveRet w) := by
  obtain ⟨K, hK⟩ : ∃ K, K = vec k := ⟨_, rfl⟩
  obtain ⟨T, hT⟩ : ∃ T, T = vec tbl := ⟨_, rfl⟩
  obtain ⟨F, hF⟩ : ∃ F, F = vec (FL k) := ⟨_, rfl⟩
  obtain ⟨Z, hZ⟩ : ∃ Z, Z = vec (zs 16) := ⟨_, rfl⟩
  obtain ⟨R, hR⟩ : ∃ R, R = vec (rnd k n) := ⟨_, rfl⟩
  have hzv := zero16
  rw [← hZ] at hzv
  have hrl := rnd_len yk hk n
  have CN := Lib.hid (fun w => new_any k w hk)
  have CO := Lib.hid (fun w => round_any k n w hk yk lo hi)
  have CB := Lib.hid (fun w => boxes_any w)
  have CR := Lib.hid (fun w => refrounds_any k w hk yk)
  rw [← hK] at CN
  rw [← hK, ← hR] at CO
  rw [← hT] at CB
  rw [← hK, ← hT, ← hF] at CR
  have HER := Lib.hid (fun w => by rw [hR]; exact eq16 hrl w : ∀ w, (Op.equalIn 10000 22 (.agg R) (.agg R)).run Try.prog w = .ok true w)
  have UK := Lib.hid (show (Try.prog.info? 22).map (·.size) = some K.size by rw [hK]; exact vec_info hk)
  have UR := Lib.hid (show (Try.prog.info? 22).map (·.size) = some R.size by rw [hR]; exact vec_info hrl)
  have SR := Lib.hid (show (vec (zs 16)).size = R.size by rw [hR, vec_size, vec_size, hrl, zs_len])
  have OR := Lib.hid (show R.all (·.oneCell') = true by rw [hR]; exact vec_one _)
  have HK := Lib.hid hK.symm
  have HR := Lib.hid hR.symm
  have HE := Lib.hid (fun (m : Nat) (hm : m < 11) => FL_ext yk hk hm)
  rw [← hF] at HE
  obtain ⟨W, hW⟩ : ∃ W, W = (w.alloc (.cells K 22)).alloc (.cells Z 22) := ⟨_, rfl⟩
  have G0 : Hid (A2 w k (zs 16) W) := Lib.hid (by rw [hW, hK, hZ]; exact a2_new w _ _)
  rw [← hK]
  by_cases h : 0 ≤ n ∧ n ≤ 10
  · obtain ⟨m, hm⟩ := Int.eq_ofNat_of_zero_le h.1
    have m0 : (0 : Int) ≤ n := h.1
    have m1 : n ≤ 10 := h.2
    have hmm : m < 11 := by omega
    have hre : F.extract (m * 16) (m * 16 + 16) = R := by
      rw [HE.out m hmm, hR]; unfold rnd; rw [if_pos h, hm]; rfl
    have HIX := Lib.hid (fun w => run_idx_agg (P := Try.prog) w 30 22 11 16 _ F m Try.underlying30 Try.underlying22 rfl b16_info hmm)
    rw [hre, ← hm] at HIX
    clear h hm hmm hre HE hK hR hF hZ hT hk yk hrl lo hi
    go_enter Try.func4, Try.ntmps4
    go_upto_region 2 with fail
    rw [← hW]
    clear hW hzv
    go_upto_region 3 with fail
    refine with_act fun a0 ha0 => ?_
    have hl : tabG.length = a0.tmps.size := by rw [ha0]; rfl
    have k1 : a0.tmps[1]?.getD undef = .int .i64 n := by rw [ha0]; rfl
    have k2 : a0.tmps[2]?.getD undef = .pointer (some ⟨w.heap.size, 0, none⟩) := by rw [ha0]; rfl
    have k5 : a0.tmps[5]?.getD undef = .pointer (some ⟨w.heap.size + 1, 0, none⟩) := by rw [ha0]; rfl
    refine wp_region_end 5 (by kernel_rfl) tabG (by kernel_rfl) (by kernel_rfl) hl (by kernel_rfl) (by kernel_rfl) (fun _ => undef) (by rw [ha0]; rfl) (A2 w k (zs 16)) (GV n K T F R) ?_ (GV.keep _ _ _ _ _) ⟨?_, ?_, ?_, ?_, ?_, trivial⟩ ?_
    · exact ⟨G0.out.b0.heap rfl, G0.out.b1.heap rfl, G0.out.bel.drew⟩
    · refine step_plain [] (by kernel_rfl) rfl fun us w' hG hV => ?_
      have o2 := (frame_old2 (us := us) (a := a0) (show (tabG[2]?).join = none from rfl)).trans k2
      have hg1 := hG.b0.row
      rw [HK.out] at hg1
      generalize frame tabG a0 us = fr at *
      exact load_ok 22 2 rfl w.heap.size o2 _ _ _ _ hg1 Try.underlying22 rfl UK.out hG rfl
    · refine step_plain [] (by kernel_rfl) rfl fun us w' hG hV => ?_
      generalize frame tabG a0 us = fr at *
      exact call_ok (f := 13) (args := #[]) (by go_simp) ((CB.out w').mono fun e w'' h => ⟨_, h.1, hG.below h.2, h.2, rfl⟩)
    · refine step_plain [0, 1] (by kernel_rfl) rfl fun us w' hG hV => ?_
      have e0 : us 0 = .agg K := hV 0 (by simp)
      have v0 := (frame_at2 (us := us) hl (show (tabG[12]?).join = some 0 from rfl)).trans e0
      have e1 : us 1 = .agg T := hV 1 (by simp)
      have v1 := (frame_at2 (us := us) hl (show (tabG[13]?).join = some 1 from rfl)).trans e1
      generalize frame tabG a0 us = fr at *
      exact call_ok (f := 12) (args := #[.agg K, .agg T]) (by go_simp) ((CR.out w').mono fun e w'' h => ⟨_, h.1, hG.below h.2, h.2, rfl⟩)
    · refine step_plain [] (by kernel_rfl) rfl fun us w' hG hV => ?_
      have o1 := (frame_old2 (us := us) (a := a0) (show (tabG[1]?).join = none from rfl)).trans k1
      generalize frame tabG a0 us = fr at *
      exact val_ok (v := .int .i64 n) (w' := w') (by go_simp) hG (Below.refl _ _) rfl
    · refine step_plain [2, 3] (by kernel_rfl) rfl fun us w' hG hV => ?_
      have e2 : us 2 = .agg F := hV 2 (by simp)
      have v2 := (frame_at2 (us := us) hl (show (tabG[14]?).join = some 2 from rfl)).trans e2
      have e3 : us 3 = .int .i64 n := hV 3 (by simp)
      have v3 := (frame_at2 (us := us) hl (show (tabG[15]?).join = some 3 from rfl)).trans e3
      have hix := HIX.out w'
      generalize frame tabG a0 us = fr at *
      exact val_ok (v := .agg R) (w' := w') (by go_simp) hG (Below.refl _ _) rfl
    · intro us w' o ho hG hV
      obtain rfl := Option.some.inj ho
      have e4 : us 4 = .agg R := hV 4 (by decide)
      have v4 := (frame_at2 (us := us) hl (show (tabG[16]?).join = some 4 from rfl)).trans e4
      have o5 := (frame_old2 (us := us) (a := a0) (show (tabG[5]?).join = none from rfl)).trans k5
      refine store_J 22 5 16 rfl (w.heap.size + 1) R o5 v4 _ _ hG.b1.row UR.out SR.out OR.out ?_
      have G1 : Hid (A2 w k (rnd k n) (w'.setRow (w.heap.size + 1) R)) := Lib.hid (by rw [← HR.out]; exact ⟨hG.b0.row_other (by omega) _, hG.b1.setRow, below_setRow hG.bel (by omega) _⟩)
      generalize w'.setRow (w.heap.size + 1) R = w6 at *
      subst ha0
      simp only [Act.put, frame, tabG, fill]
      clear hV v4 o5 e4 hG k1 k2 k5 hl G0
      clear HIX
      go_upto_region 4 with fail
      refine with_act fun a0 ha0 => ?_
      have hl : tabH.length = a0.tmps.size := by rw [ha0]; rfl
      have k1 : a0.tmps[1]?.getD undef = .int .i64 n := by rw [ha0]; rfl
      have k2 : a0.tmps[2]?.getD undef = .pointer (some ⟨w.heap.size, 0, none⟩) := by rw [ha0]; rfl
      have k5 : a0.tmps[5]?.getD undef = .pointer (some ⟨w.heap.size + 1, 0, none⟩) := by rw [ha0]; rfl
      refine wp_region_vals (by kernel_rfl) tabH (by kernel_rfl) (by kernel_rfl) hl (fun i => if i = 9 then .bool false else a0.tmps[i + 17]?.getD undef) (by rw [ha0]; rfl) (A2 w k (rnd k n)) (HV n K R) ?_ (HV.keep _ _ _) ⟨?_, ?_, ?_, ?_, ?_, ?_, ?_, ?_, ?_, ?_, trivial⟩ ?_
      · exact ⟨G1.out.b0.heap rfl, G1.out.b1.heap rfl, G1.out.bel.drew⟩
      · refine step_plain [] (by kernel_rfl) rfl fun us w' hG hV => ?_
        have o2 := (frame_old2 (us := us) (a := a0) (show (tabH[2]?).join = none from rfl)).trans k2
        have hg1 := hG.b0.row
        rw [HK.out] at hg1
        generalize frame tabH a0 us = fr at *
        exact load_ok 22 2 rfl w.heap.size o2 _ _ _ _ hg1 Try.underlying22 rfl UK.out hG rfl
      · refine step_plain [0] (by kernel_rfl) rfl fun us w' hG hV => ?_
        have e0 : us 0 = .agg K := hV 0 (by simp)
        have v0 := (frame_at2 (us := us) hl (show (tabH[17]?).join = some 0 from rfl)).trans e0
        generalize frame tabH a0 us = fr at *
        exact call_ok (f := 8) (args := #[.agg K]) (by go_simp) ((CN.out w').mono fun e w'' h => ⟨_, h.1, hG.below h.2, h.2, rfl⟩)
      · refine step_plain [] (by kernel_rfl) rfl fun us w' hG hV => ?_
        have o1 := (frame_old2 (us := us) (a := a0) (show (tabH[1]?).join = none from rfl)).trans k1
        generalize frame tabH a0 us = fr at *
        exact val_ok (v := .int .i64 n) (w' := w') (by go_simp) hG (Below.refl _ _) rfl
      · refine step_plain [1, 2] (by kernel_rfl) rfl fun us w' hG hV => ?_
        have e1 : us 1 = .agg K := hV 1 (by simp)
        have v1 := (frame_at2 (us := us) hl (show (tabH[18]?).join = some 1 from rfl)).trans e1
        have e2 : us 2 = .int .i64 n := hV 2 (by simp)
        have v2 := (frame_at2 (us := us) hl (show (tabH[19]?).join = some 2 from rfl)).trans e2
        generalize frame tabH a0 us = fr at *
        exact call_ok (f := 14) (args := #[.agg K, .int .i64 n]) (by go_simp) ((CO.out w').mono fun e w'' h => ⟨_, h.1, hG.below h.2, h.2, rfl⟩)
      · refine step_plain [] (by kernel_rfl) rfl fun us w' hG hV => ?_
        have o5 := (frame_old2 (us := us) (a := a0) (show (tabH[5]?).join = none from rfl)).trans k5
        have hg1 := hG.b1.row
        rw [HR.out] at hg1
        generalize frame tabH a0 us = fr at *
        exact load_ok 22 5 rfl (w.heap.size + 1) o5 _ _ _ _ hg1 Try.underlying22 rfl UR.out hG rfl
      · refine step_plain [3, 4] (by kernel_rfl) rfl fun us w' hG hV => ?_
        have e3 : us 3 = .agg R := hV 3 (by simp)
        have v3 := (frame_at2 (us := us) hl (show (tabH[20]?).join = some 3 from rfl)).trans e3
        have e4 : us 4 = .agg R := hV 4 (by simp)
        have v4 := (frame_at2 (us := us) hl (show (tabH[21]?).join = some 4 from rfl)).trans e4
        have hq := HER.out w'
        have hgd := guard16
        generalize frame tabH a0 us = fr at *
        exact val_ok (v := .bool true) (w' := w') (by go_simp) hG (Below.refl _ _) rfl
      · refine step_plain [5] (by kernel_rfl) rfl fun us w' hG hV => ?_
        have e5 : us 5 = .bool true := hV 5 (by simp)
        have v5 := (frame_at2 (us := us) hl (show (tabH[22]?).join = some 5 from rfl)).trans e5
        generalize frame tabH a0 us = fr at *
        exact val_ok (v := .bool true) (w' := w') (by go_simp) hG (Below.refl _ _) rfl
      · refine step_guard [6] (by kernel_rfl) (j := 6) (t := 23) (b := true) rfl (by simp) rfl hl rfl (fun v w h => h) fun us w' hG hV => ?_
        have e6 : us 6 = .bool true := hV 6 (by simp)
        have v6 := (frame_at2 (us := us) hl (show (tabH[23]?).join = some 6 from rfl)).trans e6
        generalize frame tabH a0 us = fr at *
        exact call_ok (f := 11) (args := #[]) (by go_simp) ((alive_any w').mono fun e w'' h => ⟨_, h.1, hG.below h.2, h.2, rfl⟩)
      · refine step_plain [6, 7] (by kernel_rfl) rfl fun us w' hG hV => ?_
        have e6 : us 6 = .bool true := hV 6 (by simp)
        have v6 := (frame_at2 (us := us) hl (show (tabH[23]?).join = some 6 from rfl)).trans e6
        have e7 : us 7 = .bool true := hV 7 (by simp)
        have v7 := (frame_at2 (us := us) hl (show (tabH[24]?).join = some 7 from rfl)).trans e7
        generalize frame tabH a0 us = fr at *
        exact val_ok (v := .bool true) (w' := w') (by go_simp) hG (Below.refl _ _) rfl
      · refine step_plain [8] (by kernel_rfl) rfl fun us w' hG hV => ?_
        have e8 : us 8 = .bool true := hV 8 (by simp)
        have v8 := (frame_at2 (us := us) hl (show (tabH[25]?).join = some 8 from rfl)).trans e8
        generalize frame tabH a0 us = fr at *
        exact val_ok (v := .bool true) (w' := w') (by go_simp) hG (Below.refl _ _) rfl
      · intro us w' hG hV
        have e9 : us 9 = .bool true := hV 9 (by decide)
        subst ha0
        simp only [frame, tabH, fill]
        rw [e9]
        go_wp2_with fail
        go_ret
        exact ⟨rfl, hG.bel⟩
  · have hRZ : rnd k n = zs 16 := by unfold rnd; rw [if_neg h]
    have G1 : Hid (A2 w k (rnd k n) W) := Lib.hid (by rw [hRZ]; exact G0.out)
    have hd : decide (0 ≤ n) = true → decide (n ≤ 10) = false := fun h1 => by simp at h1 ⊢; omega
    clear hRZ hK hR hF hZ hT hk yk hrl lo hi HE G0
    rcases (show n < 0 ∨ 10 < n by omega) with hn | hn
    · have hn0 : ¬ 0 ≤ n := by omega
      clear h hd
      go_enter Try.func4, Try.ntmps4
      go_upto_region 2 with fail
      rw [← hW]
      clear hW hzv
      go_upto_region 4 with fail
      refine with_act fun a0 ha0 => ?_
      have hl : tabH.length = a0.tmps.size := by rw [ha0]; rfl
      have k1 : a0.tmps[1]?.getD undef = .int .i64 n := by rw [ha0]; rfl
      have k2 : a0.tmps[2]?.getD undef = .pointer (some ⟨w.heap.size, 0, none⟩) := by rw [ha0]; rfl
      have k5 : a0.tmps[5]?.getD undef = .pointer (some ⟨w.heap.size + 1, 0, none⟩) := by rw [ha0]; rfl
      refine wp_region_vals (by kernel_rfl) tabH (by kernel_rfl) (by kernel_rfl) hl (fun i => if i = 9 then .bool false else a0.tmps[i + 17]?.getD undef) (by rw [ha0]; rfl) (A2 w k (rnd k n)) (HV n K R) ?_ (HV.keep _ _ _) ⟨?_, ?_, ?_, ?_, ?_, ?_, ?_, ?_, ?_, ?_, trivial⟩ ?_
      · exact ⟨G1.out.b0.heap rfl, G1.out.b1.heap rfl, G1.out.bel.drew⟩
      · refine step_plain [] (by kernel_rfl) rfl fun us w' hG hV => ?_
        have o2 := (frame_old2 (us := us) (a := a0) (show (tabH[2]?).join = none from rfl)).trans k2
        have hg1 := hG.b0.row
        rw [HK.out] at hg1
        generalize frame tabH a0 us = fr at *
        exact load_ok 22 2 rfl w.heap.size o2 _ _ _ _ hg1 Try.underlying22 rfl UK.out hG rfl
      · refine step_plain [0] (by kernel_rfl) rfl fun us w' hG hV => ?_
        have e0 : us 0 = .agg K := hV 0 (by simp)
        have v0 := (frame_at2 (us := us) hl (show (tabH[17]?).join = some 0 from rfl)).trans e0
        generalize frame tabH a0 us = fr at *
        exact call_ok (f := 8) (args := #[.agg K]) (by go_simp) ((CN.out w').mono fun e w'' h => ⟨_, h.1, hG.below h.2, h.2, rfl⟩)
      · refine step_plain [] (by kernel_rfl) rfl fun us w' hG hV => ?_
        have o1 := (frame_old2 (us := us) (a := a0) (show (tabH[1]?).join = none from rfl)).trans k1
        generalize frame tabH a0 us = fr at *
        exact val_ok (v := .int .i64 n) (w' := w') (by go_simp) hG (Below.refl _ _) rfl
      · refine step_plain [1, 2] (by kernel_rfl) rfl fun us w' hG hV => ?_
        have e1 : us 1 = .agg K := hV 1 (by simp)
        have v1 := (frame_at2 (us := us) hl (show (tabH[18]?).join = some 1 from rfl)).trans e1
        have e2 : us 2 = .int .i64 n := hV 2 (by simp)
        have v2 := (frame_at2 (us := us) hl (show (tabH[19]?).join = some 2 from rfl)).trans e2
        generalize frame tabH a0 us = fr at *
        exact call_ok (f := 14) (args := #[.agg K, .int .i64 n]) (by go_simp) ((CO.out w').mono fun e w'' h => ⟨_, h.1, hG.below h.2, h.2, rfl⟩)
      · refine step_plain [] (by kernel_rfl) rfl fun us w' hG hV => ?_
        have o5 := (frame_old2 (us := us) (a := a0) (show (tabH[5]?).join = none from rfl)).trans k5
        have hg1 := hG.b1.row
        rw [HR.out] at hg1
        generalize frame tabH a0 us = fr at *
        exact load_ok 22 5 rfl (w.heap.size + 1) o5 _ _ _ _ hg1 Try.underlying22 rfl UR.out hG rfl
      · refine step_plain [3, 4] (by kernel_rfl) rfl fun us w' hG hV => ?_
        have e3 : us 3 = .agg R := hV 3 (by simp)
        have v3 := (frame_at2 (us := us) hl (show (tabH[20]?).join = some 3 from rfl)).trans e3
        have e4 : us 4 = .agg R := hV 4 (by simp)
        have v4 := (frame_at2 (us := us) hl (show (tabH[21]?).join = some 4 from rfl)).trans e4
        have hq := HER.out w'
        have hgd := guard16
        generalize frame tabH a0 us = fr at *
        exact val_ok (v := .bool true) (w' := w') (by go_simp) hG (Below.refl _ _) rfl
      · refine step_plain [5] (by kernel_rfl) rfl fun us w' hG hV => ?_
        have e5 : us 5 = .bool true := hV 5 (by simp)
        have v5 := (frame_at2 (us := us) hl (show (tabH[22]?).join = some 5 from rfl)).trans e5
        generalize frame tabH a0 us = fr at *
        exact val_ok (v := .bool true) (w' := w') (by go_simp) hG (Below.refl _ _) rfl
      · refine step_guard [6] (by kernel_rfl) (j := 6) (t := 23) (b := true) rfl (by simp) rfl hl rfl (fun v w h => h) fun us w' hG hV => ?_
        have e6 : us 6 = .bool true := hV 6 (by simp)
        have v6 := (frame_at2 (us := us) hl (show (tabH[23]?).join = some 6 from rfl)).trans e6
        generalize frame tabH a0 us = fr at *
        exact call_ok (f := 11) (args := #[]) (by go_simp) ((alive_any w').mono fun e w'' h => ⟨_, h.1, hG.below h.2, h.2, rfl⟩)
      · refine step_plain [6, 7] (by kernel_rfl) rfl fun us w' hG hV => ?_
        have e6 : us 6 = .bool true := hV 6 (by simp)
        have v6 := (frame_at2 (us := us) hl (show (tabH[23]?).join = some 6 from rfl)).trans e6
        have e7 : us 7 = .bool true := hV 7 (by simp)
        have v7 := (frame_at2 (us := us) hl (show (tabH[24]?).join = some 7 from rfl)).trans e7
        generalize frame tabH a0 us = fr at *
        exact val_ok (v := .bool true) (w' := w') (by go_simp) hG (Below.refl _ _) rfl
      · refine step_plain [8] (by kernel_rfl) rfl fun us w' hG hV => ?_
        have e8 : us 8 = .bool true := hV 8 (by simp)
        have v8 := (frame_at2 (us := us) hl (show (tabH[25]?).join = some 8 from rfl)).trans e8
        generalize frame tabH a0 us = fr at *
        exact val_ok (v := .bool true) (w' := w') (by go_simp) hG (Below.refl _ _) rfl
      · intro us w' hG hV
        have e9 : us 9 = .bool true := hV 9 (by decide)
        subst ha0
        simp only [frame, tabH, fill]
        rw [e9]
        go_wp2_with fail
        go_ret
        exact ⟨rfl, hG.bel⟩
    · have hn0 : 0 ≤ n := by omega
      have hn1 : ¬ n ≤ 10 := by omega
      clear h hd
      go_enter Try.func4, Try.ntmps4
      go_upto_region 2 with fail
      rw [← hW]
      clear hW hzv
      go_upto_region 4 with fail
      refine with_act fun a0 ha0 => ?_
      have hl : tabH.length = a0.tmps.size := by rw [ha0]; rfl
      have k1 : a0.tmps[1]?.getD undef = .int .i64 n := by rw [ha0]; rfl
      have k2 : a0.tmps[2]?.getD undef = .pointer (some ⟨w.heap.size, 0, none⟩) := by rw [ha0]; rfl
      have k5 : a0.tmps[5]?.getD undef = .pointer (some ⟨w.heap.size + 1, 0, none⟩) := by rw [ha0]; rfl
      refine wp_region_vals (by kernel_rfl) tabH (by kernel_rfl) (by kernel_rfl) hl (fun i => if i = 9 then .bool false else a0.tmps[i + 17]?.getD undef) (by rw [ha0]; rfl) (A2 w k (rnd k n)) (HV n K R) ?_ (HV.keep _ _ _) ⟨?_, ?_, ?_, ?_, ?_, ?_, ?_, ?_, ?_, ?_, trivial⟩ ?_
      · exact ⟨G1.out.b0.heap rfl, G1.out.b1.heap rfl, G1.out.bel.drew⟩
      · refine step_plain [] (by kernel_rfl) rfl fun us w' hG hV => ?_
        have o2 := (frame_old2 (us := us) (a := a0) (show (tabH[2]?).join = none from rfl)).trans k2
        have hg1 := hG.b0.row
        rw [HK.out] at hg1
        generalize frame tabH a0 us = fr at *
        exact load_ok 22 2 rfl w.heap.size o2 _ _ _ _ hg1 Try.underlying22 rfl UK.out hG rfl
      · refine step_plain [0] (by kernel_rfl) rfl fun us w' hG hV => ?_
        have e0 : us 0 = .agg K := hV 0 (by simp)
        have v0 := (frame_at2 (us := us) hl (show (tabH[17]?).join = some 0 from rfl)).trans e0
        generalize frame tabH a0 us = fr at *
        exact call_ok (f := 8) (args := #[.agg K]) (by go_simp) ((CN.out w').mono fun e w'' h => ⟨_, h.1, hG.below h.2, h.2, rfl⟩)
      · refine step_plain [] (by kernel_rfl) rfl fun us w' hG hV => ?_
        have o1 := (frame_old2 (us := us) (a := a0) (show (tabH[1]?).join = none from rfl)).trans k1
        generalize frame tabH a0 us = fr at *
        exact val_ok (v := .int .i64 n) (w' := w') (by go_simp) hG (Below.refl _ _) rfl
      · refine step_plain [1, 2] (by kernel_rfl) rfl fun us w' hG hV => ?_
        have e1 : us 1 = .agg K := hV 1 (by simp)
        have v1 := (frame_at2 (us := us) hl (show (tabH[18]?).join = some 1 from rfl)).trans e1
        have e2 : us 2 = .int .i64 n := hV 2 (by simp)
        have v2 := (frame_at2 (us := us) hl (show (tabH[19]?).join = some 2 from rfl)).trans e2
        generalize frame tabH a0 us = fr at *
        exact call_ok (f := 14) (args := #[.agg K, .int .i64 n]) (by go_simp) ((CO.out w').mono fun e w'' h => ⟨_, h.1, hG.below h.2, h.2, rfl⟩)
      · refine step_plain [] (by kernel_rfl) rfl fun us w' hG hV => ?_
        have o5 := (frame_old2 (us := us) (a := a0) (show (tabH[5]?).join = none from rfl)).trans k5
        have hg1 := hG.b1.row
        rw [HR.out] at hg1
        generalize frame tabH a0 us = fr at *
        exact load_ok 22 5 rfl (w.heap.size + 1) o5 _ _ _ _ hg1 Try.underlying22 rfl UR.out hG rfl
      · refine step_plain [3, 4] (by kernel_rfl) rfl fun us w' hG hV => ?_
        have e3 : us 3 = .agg R := hV 3 (by simp)
        have v3 := (frame_at2 (us := us) hl (show (tabH[20]?).join = some 3 from rfl)).trans e3
        have e4 : us 4 = .agg R := hV 4 (by simp)
        have v4 := (frame_at2 (us := us) hl (show (tabH[21]?).join = some 4 from rfl)).trans e4
        have hq := HER.out w'
        have hgd := guard16
        generalize frame tabH a0 us = fr at *
        exact val_ok (v := .bool true) (w' := w') (by go_simp) hG (Below.refl _ _) rfl
      · refine step_plain [5] (by kernel_rfl) rfl fun us w' hG hV => ?_
        have e5 : us 5 = .bool true := hV 5 (by simp)
        have v5 := (frame_at2 (us := us) hl (show (tabH[22]?).join = some 5 from rfl)).trans e5
        generalize frame tabH a0 us = fr at *
        exact val_ok (v := .bool true) (w' := w') (by go_simp) hG (Below.refl _ _) rfl
      · refine step_guard [6] (by kernel_rfl) (j := 6) (t := 23) (b := true) rfl (by simp) rfl hl rfl (fun v w h => h) fun us w' hG hV => ?_
        have e6 : us 6 = .bool true := hV 6 (by simp)
        have v6 := (frame_at2 (us := us) hl (show (tabH[23]?).join = some 6 from rfl)).trans e6
        generalize frame tabH a0 us = fr at *
        exact call_ok (f := 11) (args := #[]) (by go_simp) ((alive_any w').mono fun e w'' h => ⟨_, h.1, hG.below h.2, h.2, rfl⟩)
      · refine step_plain [6, 7] (by kernel_rfl) rfl fun us w' hG hV => ?_
        have e6 : us 6 = .bool true := hV 6 (by simp)
        have v6 := (frame_at2 (us := us) hl (show (tabH[23]?).join = some 6 from rfl)).trans e6
        have e7 : us 7 = .bool true := hV 7 (by simp)
        have v7 := (frame_at2 (us := us) hl (show (tabH[24]?).join = some 7 from rfl)).trans e7
        generalize frame tabH a0 us = fr at *
        exact val_ok (v := .bool true) (w' := w') (by go_simp) hG (Below.refl _ _) rfl
      · refine step_plain [8] (by kernel_rfl) rfl fun us w' hG hV => ?_
        have e8 : us 8 = .bool true := hV 8 (by simp)
        have v8 := (frame_at2 (us := us) hl (show (tabH[25]?).join = some 8 from rfl)).trans e8
        generalize frame tabH a0 us = fr at *
        exact val_ok (v := .bool true) (w' := w') (by go_simp) hG (Below.refl _ _) rfl
      · intro us w' hG hV
        have e9 : us 9 = .bool true := hV 9 (by decide)
        subst ha0
        simp only [frame, tabH, fill]
        rw [e9]
        go_wp2_with fail
        go_ret
        exact ⟨rfl, hG.bel⟩
end Go.Proofs.Ytjcdgdlononkhaa.aesC
