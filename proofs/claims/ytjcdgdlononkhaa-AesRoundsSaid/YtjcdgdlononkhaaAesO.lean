/-
  The walks of AesBytes and AesZero.
-/
import Derived.Test.YtjcdgdlononkhaaAesN
namespace Go.Proofs.Ytjcdgdlononkhaa.aesC
open Go.ChangeShapes Go.WideShapes Go.ChangeAt Go.RowKit
open Go.Proofs.Ytjcdgdlononkhaa.memC Go.Proofs.Ytjcdgdlononkhaa.genC Go.Proofs.Ytjcdgdlononkhaa.aesM Go.Proofs.Ytjcdgdlononkhaa.freeC
set_option linter.unusedVariables false
theorem eq16 {xs : List Nat} (h : xs.length = 16) (w : World) : (Op.equalIn 10000 22 (.agg (vec xs)) (.agg (vec xs))).run Try.prog w = .ok true w := by
  obtain ⟨i0, hi0, hz0, hz1, hz2⟩ := info_parts byte_inf
  exact Go.Proofs.Ytjcdgdlononkhaa.eqC.run_same w _ _ 16 .u8 i0 _ Try.underlying22 rfl hi0 (by kernel_rfl) fun j hj => ⟨_, vec_at (by rw [h]; exact hj)⟩
theorem guard16 : Try.prog.eqGuardType Try.prog.depth 22 = false := by kernel_rfl
theorem aesbytes_walk (c d : Nat) (w : World) (hc : c < 256) (hd : d < 256) : Calls Try.prog 5 #[.int .u8 (c : Int), .int .u8 (d : Int)] w (AliveRet w) := by
  have C1 := Lib.hid (fun w => box_any c w hc)
  have C2 := Lib.hid (fun w => refbox_any c w hc)
  have C3 := Lib.hid (fun w => box_any d w hd)
  have C4 := Lib.hid (fun w => double_any c w hc)
  have C5 := Lib.hid (fun w => times_any c 2 w hc (by decide))
  have C6 := Lib.hid (show ∀ w, Calls Try.prog 18 #[.int .u8 (c : Int), .int .u8 2] w (Same w (.int .u8 ((dbl c : Nat) : Int))) from fun w => by rw [← tms2 hc]; exact C5.out w)
  have hi := fun e : box c = box d => box_inj hc hd e
  generalize dbl c = x at *
  clear C5
  by_cases e : c = d
  · subst e
    generalize box c = z at *
    clear hi C3
    go_enter Try.func5, Try.ntmps5
    go_wp2_with (first
      | (go_at_call 15; (with_reducible refine (C1.out _).mono ?_); rintro e w1 ⟨rfl, rfl⟩)
      | (go_at_call 16; (with_reducible refine (C2.out _).mono ?_); rintro e w1 ⟨rfl, j, rfl⟩)
      | (go_at_call 17; (with_reducible refine (C4.out _).mono ?_); rintro e w1 ⟨rfl, rfl⟩)
      | (go_at_call 18; (with_reducible refine (C6.out _).mono ?_); rintro e w1 ⟨rfl, rfl⟩)
      | (go_at_call 11; refine (alive_any _).mono ?_; rintro e w1 ⟨rfl, B⟩))
    go_ret
    exact ⟨rfl, (bel_drewN (Below.refl _ _) j).trans B⟩
  · have hz : (((box c : Nat) : Int) == ((box d : Nat) : Int)) = false := beq_eq_false_iff_ne.2 fun h => e (hi (Int.ofNat_inj.1 h))
    have hcd : ((c : Int) == (d : Int)) = false := beq_eq_false_iff_ne.2 fun h => e (Int.ofNat_inj.1 h)
    generalize box c = z at *
    generalize box d = y at *
    clear hi
    go_enter Try.func5, Try.ntmps5
    go_wp2_with (first
      | (go_at_call 15; (with_reducible refine (C1.out _).mono ?_); rintro e w1 ⟨rfl, rfl⟩)
      | (go_at_call 15; (with_reducible refine (C3.out _).mono ?_); rintro e w1 ⟨rfl, rfl⟩)
      | (go_at_call 16; (with_reducible refine (C2.out _).mono ?_); rintro e w1 ⟨rfl, j, rfl⟩)
      | (go_at_call 17; (with_reducible refine (C4.out _).mono ?_); rintro e w1 ⟨rfl, rfl⟩)
      | (go_at_call 18; (with_reducible refine (C6.out _).mono ?_); rintro e w1 ⟨rfl, rfl⟩)
      | (go_at_call 11; refine (alive_any _).mono ?_; rintro e w1 ⟨rfl, B⟩))
    go_ret
    exact ⟨rfl, (bel_drewN (Below.refl _ _) j).trans B⟩
/-- the block, and the zero key -/
structure ZG (w : World) (g5 : Nat) (b : List Nat) (wr : World) : Prop where
  bb : Bl 22 wr w.heap.size b
  bk : Bl 24 wr g5 (zs 16)
  bel : Below w.heap.size w wr
theorem ZG.below {w wr w' : World} {g5 : Nat} {b : List Nat} (B : ZG w g5 b wr) (h : Below wr.heap.size wr w') : ZG w g5 b w' := ⟨B.bb.below h B.bb.lt, B.bk.below h B.bk.lt, B.bel.trans (h.mono B.bel.size)⟩
def tabZ : List (Option Nat) := [none, none, none, none, some 19, none, none, none, some 0, some 1, some 2, some 3, some 4, some 5, some 6, some 7, some 8, some 9, some 10, some 11, some 12, some 13, some 14, some 15, some 16, some 17, some 18]
def ZV (Z B R Q : Array Value) (n : Int) : Nat → Value → World → Prop
  | 0, v, _ => v = .agg Z
  | 1, v, _ => v = .agg B
  | 2, v, _ => v = .agg R
  | 3, v, _ => v = .agg Z
  | 4, v, _ => v = .agg B
  | 5, v, _ => v = .agg R
  | 6, v, _ => v = .bool true
  | 7, v, _ => v = .bool true
  | 8, v, _ => v = .agg Z
  | 9, v, _ => v = .int .i64 n
  | 10, v, _ => v = .agg Q
  | 11, v, _ => v = .agg Z
  | 12, v, _ => v = .int .i64 n
  | 13, v, _ => v = .agg Q
  | 14, v, _ => v = .bool true
  | 15, v, _ => v = .bool true
  | 16, v, _ => v = .bool true
  | 17, v, _ => v = .bool true
  | 18, v, _ => v = .bool true
  | 19, v, _ => v = .bool true
  | _, _, _ => True
theorem ZV.keep (Z B R Q : Array Value) (n : Int) (i : Nat) (v : Value) (w w' : World) (hb : Below w.heap.size w w') (h : ZV Z B R Q n i v w) : ZV Z B R Q n i v w' := by
  unfold ZV at h ⊢
  split at h <;> exact h
theorem built_zeroK : Try.prog.built 24 [] = some (vec (zs 16)) := by kernel_rfl
set_option maxRecDepth 100000 in
set_option maxHeartbeats 1000000 in
theorem aeszero_walk (b : List Nat) (n : Int) (w : World) (hb : b.length = 16) (yb : BY b) (lo : -9223372036854775808 ≤ n) (hi : n ≤ 9223372036854775807) :
    Calls Try.prog 7 #[.agg (vec b), .int .i64 n] w (AliveRet w) := by
  obtain ⟨Z, hZ⟩ : ∃ Z, Z = vec (zs 16) := ⟨_, rfl⟩
  obtain ⟨B, hB⟩ : ∃ B, B = vec b := ⟨_, rfl⟩
  obtain ⟨R, hR⟩ : ∃ R, R = vec (encL (zs 16) b) := ⟨_, rfl⟩
  obtain ⟨Q, hQ⟩ : ∃ Q, Q = vec (rnd (zs 16) n) := ⟨_, rfl⟩
  have CN := Lib.hid (fun w => new_any (zs 16) w (zs_len 16))
  have CE := Lib.hid (fun w => encrypt_any (zs 16) b w (zs_len 16) (zs_by 16) hb yb)
  have CR := Lib.hid (fun w => round_any (zs 16) n w (zs_len 16) (zs_by 16) lo hi)
  rw [← hZ] at CN
  rw [← hZ, ← hB, ← hR] at CE
  rw [← hZ, ← hQ] at CR
  have HBu := Lib.hid (fun w => run_build (P := Try.prog) w 24 #[] Z (by rw [hZ]; exact built_zeroK))
  have HER := Lib.hid (fun w => by rw [hR]; exact eq16 (encL_len _ _) w : ∀ w, (Op.equalIn 10000 22 (.agg R) (.agg R)).run Try.prog w = .ok true w)
  have HEQ := Lib.hid (fun w => by rw [hQ]; exact eq16 (rnd_len (zs_by 16) (zs_len 16) n) w : ∀ w, (Op.equalIn 10000 22 (.agg Q) (.agg Q)).run Try.prog w = .ok true w)
  have UZ := Lib.hid (show (Try.prog.info? 24).map (·.size) = some Z.size by rw [key_info, hZ, vec_size, zs_len])
  have UB := Lib.hid (show (Try.prog.info? 22).map (·.size) = some B.size by rw [hB]; exact vec_info hb)
  have OZ := Lib.hid (show Z.all (·.oneCell') = true by rw [hZ]; exact vec_one _)
  have hzv := zeroK
  rw [← hZ] at hzv
  have hbz := Lib.hid (show Try.prog.built 22 [] = some Z by rw [hZ]; exact built_zero)
  have HZ := Lib.hid hZ.symm
  have HB := Lib.hid hB.symm
  rw [← hB]
  clear hZ hB hR hQ lo hi hb yb
  go_enter Try.func7, Try.ntmps7
  go_upto_region 2 with (first
    | (refine wpList_zero rfl 22 rfl Z hbz.out ?_)
    | (go_at_call 8; (with_reducible refine (CN.out _).mono ?_); rintro e w1 ⟨rfl, B1⟩)
    | (refine wpList_store_row rfl 24 (.tmp 5) (.tmp 7) rfl w1.heap.size Z rfl rfl _ _ (heap_alloc_new _ _) UZ.out rfl OZ.out ?_))
  rw [World.setRow_alloc_new]
  have G0 : Hid (ZG w w1.heap.size b (w1.alloc (.cells Z 24))) := by
    have hb0 := alloc_below w (.cells B 22)
    have hl0 : w.heap.size < (w.alloc (.cells B 22)).heap.size := by rw [alloc_size]; omega
    refine Lib.hid ⟨?_, ?_, (hb0.trans (B1.mono (by rw [alloc_size]; omega))).alloc (Nat.le_trans (by omega) B1.size) _⟩
    · have : Bl 22 (w.alloc (.cells B 22)) w.heap.size b := by rw [← HB.out]; exact Bl.new w _ b
      exact (this.below B1 hl0).alloc _
    · rw [← HZ.out]; exact Bl.new w1 _ _
  generalize w1.alloc (.cells Z 24) = w2 at *
  generalize w1.heap.size = g5 at *
  refine with_act fun a0 ha0 => ?_
  have hl : tabZ.length = a0.tmps.size := by rw [ha0]; rfl
  have k1 : a0.tmps[1]?.getD undef = .int .i64 n := by rw [ha0]; rfl
  have k2 : a0.tmps[2]?.getD undef = .pointer (some ⟨w.heap.size, 0, none⟩) := by rw [ha0]; rfl
  have k5 : a0.tmps[5]?.getD undef = .pointer (some ⟨g5, 0, none⟩) := by rw [ha0]; rfl
  refine wp_region_vals (by kernel_rfl) tabZ (by kernel_rfl) (by kernel_rfl) hl (fun i => if i = 19 then .bool false else undef) (by rw [ha0]; rfl) (ZG w g5 b) (ZV Z B R Q n) ?_ (ZV.keep _ _ _ _ _) ⟨?_, ?_, ?_, ?_, ?_, ?_, ?_, ?_, ?_, ?_, ?_, ?_, ?_, ?_, ?_, ?_, ?_, ?_, ?_, ?_, trivial⟩ ?_
  · exact ⟨G0.out.bb.heap rfl, G0.out.bk.heap rfl, G0.out.bel.drew⟩
  · refine step_plain [] (by kernel_rfl) rfl fun us w' hG hV => ?_
    have hb := HBu.out w'
    generalize frame tabZ a0 us = fr at *
    exact val_ok (v := .agg Z) (w' := w') (by go_simp) hG (Below.refl _ _) rfl
  · refine step_plain [] (by kernel_rfl) rfl fun us w' hG hV => ?_
    have o2 := (frame_old2 (us := us) (a := a0) (show (tabZ[2]?).join = none from rfl)).trans k2
    have hg1 := hG.bb.row
    rw [HB.out] at hg1
    generalize frame tabZ a0 us = fr at *
    exact load_ok 22 2 rfl w.heap.size o2 _ _ _ _ hg1 Try.underlying22 rfl UB.out hG rfl
  · refine step_plain [0, 1] (by kernel_rfl) rfl fun us w' hG hV => ?_
    have e0 : us 0 = .agg Z := hV 0 (by simp)
    have v0 := (frame_at2 (us := us) hl (show (tabZ[8]?).join = some 0 from rfl)).trans e0
    have e1 : us 1 = .agg B := hV 1 (by simp)
    have v1 := (frame_at2 (us := us) hl (show (tabZ[9]?).join = some 1 from rfl)).trans e1
    generalize frame tabZ a0 us = fr at *
    exact call_ok (f := 9) (args := #[.agg Z, .agg B]) (by go_simp) ((CE.out w').mono fun e w'' h => ⟨_, h.1, hG.below h.2, h.2, rfl⟩)
  · refine step_plain [] (by kernel_rfl) rfl fun us w' hG hV => ?_
    have o5 := (frame_old2 (us := us) (a := a0) (show (tabZ[5]?).join = none from rfl)).trans k5
    have hg5 := hG.bk.row
    rw [HZ.out] at hg5
    generalize frame tabZ a0 us = fr at *
    exact load_ok 24 5 rfl g5 o5 _ _ _ _ hg5 Try.underlying24 rfl UZ.out hG rfl
  · refine step_plain [] (by kernel_rfl) rfl fun us w' hG hV => ?_
    have o2 := (frame_old2 (us := us) (a := a0) (show (tabZ[2]?).join = none from rfl)).trans k2
    have hg1 := hG.bb.row
    rw [HB.out] at hg1
    generalize frame tabZ a0 us = fr at *
    exact load_ok 22 2 rfl w.heap.size o2 _ _ _ _ hg1 Try.underlying22 rfl UB.out hG rfl
  · refine step_plain [3, 4] (by kernel_rfl) rfl fun us w' hG hV => ?_
    have e3 : us 3 = .agg Z := hV 3 (by simp)
    have v3 := (frame_at2 (us := us) hl (show (tabZ[11]?).join = some 3 from rfl)).trans e3
    have e4 : us 4 = .agg B := hV 4 (by simp)
    have v4 := (frame_at2 (us := us) hl (show (tabZ[12]?).join = some 4 from rfl)).trans e4
    generalize frame tabZ a0 us = fr at *
    exact call_ok (f := 9) (args := #[.agg Z, .agg B]) (by go_simp) ((CE.out w').mono fun e w'' h => ⟨_, h.1, hG.below h.2, h.2, rfl⟩)
  · refine step_plain [2, 5] (by kernel_rfl) rfl fun us w' hG hV => ?_
    have e2 : us 2 = .agg R := hV 2 (by simp)
    have v2 := (frame_at2 (us := us) hl (show (tabZ[10]?).join = some 2 from rfl)).trans e2
    have e5 : us 5 = .agg R := hV 5 (by simp)
    have v5 := (frame_at2 (us := us) hl (show (tabZ[13]?).join = some 5 from rfl)).trans e5
    have hq := HER.out w'
    have hgd := guard16
    generalize frame tabZ a0 us = fr at *
    exact val_ok (v := .bool true) (w' := w') (by go_simp) hG (Below.refl _ _) rfl
  · refine step_plain [6] (by kernel_rfl) rfl fun us w' hG hV => ?_
    have e6 : us 6 = .bool true := hV 6 (by simp)
    have v6 := (frame_at2 (us := us) hl (show (tabZ[14]?).join = some 6 from rfl)).trans e6
    generalize frame tabZ a0 us = fr at *
    exact val_ok (v := .bool true) (w' := w') (by go_simp) hG (Below.refl _ _) rfl
  · refine step_guard [7] (by kernel_rfl) (j := 7) (t := 15) (b := true) rfl (by simp) rfl hl rfl (fun v w h => h) fun us w' hG hV => ?_
    have e7 : us 7 = .bool true := hV 7 (by simp)
    have v7 := (frame_at2 (us := us) hl (show (tabZ[15]?).join = some 7 from rfl)).trans e7
    have hb := HBu.out w'
    generalize frame tabZ a0 us = fr at *
    exact val_ok (v := .agg Z) (w' := w') (by go_simp) hG (Below.refl _ _) rfl
  · refine step_guard [7] (by kernel_rfl) (j := 7) (t := 15) (b := true) rfl (by simp) rfl hl rfl (fun v w h => h) fun us w' hG hV => ?_
    have e7 : us 7 = .bool true := hV 7 (by simp)
    have v7 := (frame_at2 (us := us) hl (show (tabZ[15]?).join = some 7 from rfl)).trans e7
    have o1 := (frame_old2 (us := us) (a := a0) (show (tabZ[1]?).join = none from rfl)).trans k1
    generalize frame tabZ a0 us = fr at *
    exact val_ok (v := .int .i64 n) (w' := w') (by go_simp) hG (Below.refl _ _) rfl
  · refine step_guard [7, 8, 9] (by kernel_rfl) (j := 7) (t := 15) (b := true) rfl (by simp) rfl hl rfl (fun v w h => h) fun us w' hG hV => ?_
    have e7 : us 7 = .bool true := hV 7 (by simp)
    have v7 := (frame_at2 (us := us) hl (show (tabZ[15]?).join = some 7 from rfl)).trans e7
    have e8 : us 8 = .agg Z := hV 8 (by simp)
    have v8 := (frame_at2 (us := us) hl (show (tabZ[16]?).join = some 8 from rfl)).trans e8
    have e9 : us 9 = .int .i64 n := hV 9 (by simp)
    have v9 := (frame_at2 (us := us) hl (show (tabZ[17]?).join = some 9 from rfl)).trans e9
    generalize frame tabZ a0 us = fr at *
    exact call_ok (f := 14) (args := #[.agg Z, .int .i64 n]) (by go_simp) ((CR.out w').mono fun e w'' h => ⟨_, h.1, hG.below h.2, h.2, rfl⟩)
  · refine step_guard [7] (by kernel_rfl) (j := 7) (t := 15) (b := true) rfl (by simp) rfl hl rfl (fun v w h => h) fun us w' hG hV => ?_
    have e7 : us 7 = .bool true := hV 7 (by simp)
    have v7 := (frame_at2 (us := us) hl (show (tabZ[15]?).join = some 7 from rfl)).trans e7
    have o5 := (frame_old2 (us := us) (a := a0) (show (tabZ[5]?).join = none from rfl)).trans k5
    have hg5 := hG.bk.row
    rw [HZ.out] at hg5
    generalize frame tabZ a0 us = fr at *
    exact load_ok 24 5 rfl g5 o5 _ _ _ _ hg5 Try.underlying24 rfl UZ.out hG rfl
  · refine step_guard [7] (by kernel_rfl) (j := 7) (t := 15) (b := true) rfl (by simp) rfl hl rfl (fun v w h => h) fun us w' hG hV => ?_
    have e7 : us 7 = .bool true := hV 7 (by simp)
    have v7 := (frame_at2 (us := us) hl (show (tabZ[15]?).join = some 7 from rfl)).trans e7
    have o1 := (frame_old2 (us := us) (a := a0) (show (tabZ[1]?).join = none from rfl)).trans k1
    generalize frame tabZ a0 us = fr at *
    exact val_ok (v := .int .i64 n) (w' := w') (by go_simp) hG (Below.refl _ _) rfl
  · refine step_guard [7, 11, 12] (by kernel_rfl) (j := 7) (t := 15) (b := true) rfl (by simp) rfl hl rfl (fun v w h => h) fun us w' hG hV => ?_
    have e7 : us 7 = .bool true := hV 7 (by simp)
    have v7 := (frame_at2 (us := us) hl (show (tabZ[15]?).join = some 7 from rfl)).trans e7
    have e11 : us 11 = .agg Z := hV 11 (by simp)
    have v11 := (frame_at2 (us := us) hl (show (tabZ[19]?).join = some 11 from rfl)).trans e11
    have e12 : us 12 = .int .i64 n := hV 12 (by simp)
    have v12 := (frame_at2 (us := us) hl (show (tabZ[20]?).join = some 12 from rfl)).trans e12
    generalize frame tabZ a0 us = fr at *
    exact call_ok (f := 14) (args := #[.agg Z, .int .i64 n]) (by go_simp) ((CR.out w').mono fun e w'' h => ⟨_, h.1, hG.below h.2, h.2, rfl⟩)
  · refine step_guard [7, 10, 13] (by kernel_rfl) (j := 7) (t := 15) (b := true) rfl (by simp) rfl hl rfl (fun v w h => h) fun us w' hG hV => ?_
    have e7 : us 7 = .bool true := hV 7 (by simp)
    have v7 := (frame_at2 (us := us) hl (show (tabZ[15]?).join = some 7 from rfl)).trans e7
    have e10 : us 10 = .agg Q := hV 10 (by simp)
    have v10 := (frame_at2 (us := us) hl (show (tabZ[18]?).join = some 10 from rfl)).trans e10
    have e13 : us 13 = .agg Q := hV 13 (by simp)
    have v13 := (frame_at2 (us := us) hl (show (tabZ[21]?).join = some 13 from rfl)).trans e13
    have hq := HEQ.out w'
    have hgd := guard16
    generalize frame tabZ a0 us = fr at *
    exact val_ok (v := .bool true) (w' := w') (by go_simp) hG (Below.refl _ _) rfl
  · refine step_plain [7, 14] (by kernel_rfl) rfl fun us w' hG hV => ?_
    have e7 : us 7 = .bool true := hV 7 (by simp)
    have v7 := (frame_at2 (us := us) hl (show (tabZ[15]?).join = some 7 from rfl)).trans e7
    have e14 : us 14 = .bool true := hV 14 (by simp)
    have v14 := (frame_at2 (us := us) hl (show (tabZ[22]?).join = some 14 from rfl)).trans e14
    generalize frame tabZ a0 us = fr at *
    exact val_ok (v := .bool true) (w' := w') (by go_simp) hG (Below.refl _ _) rfl
  · refine step_plain [15] (by kernel_rfl) rfl fun us w' hG hV => ?_
    have e15 : us 15 = .bool true := hV 15 (by simp)
    have v15 := (frame_at2 (us := us) hl (show (tabZ[23]?).join = some 15 from rfl)).trans e15
    generalize frame tabZ a0 us = fr at *
    exact val_ok (v := .bool true) (w' := w') (by go_simp) hG (Below.refl _ _) rfl
  · refine step_guard [16] (by kernel_rfl) (j := 16) (t := 24) (b := true) rfl (by simp) rfl hl rfl (fun v w h => h) fun us w' hG hV => ?_
    have e16 : us 16 = .bool true := hV 16 (by simp)
    have v16 := (frame_at2 (us := us) hl (show (tabZ[24]?).join = some 16 from rfl)).trans e16
    generalize frame tabZ a0 us = fr at *
    exact call_ok (f := 11) (args := #[]) (by go_simp) ((alive_any w').mono fun e w'' h => ⟨_, h.1, hG.below h.2, h.2, rfl⟩)
  · refine step_plain [16, 17] (by kernel_rfl) rfl fun us w' hG hV => ?_
    have e16 : us 16 = .bool true := hV 16 (by simp)
    have v16 := (frame_at2 (us := us) hl (show (tabZ[24]?).join = some 16 from rfl)).trans e16
    have e17 : us 17 = .bool true := hV 17 (by simp)
    have v17 := (frame_at2 (us := us) hl (show (tabZ[25]?).join = some 17 from rfl)).trans e17
    generalize frame tabZ a0 us = fr at *
    exact val_ok (v := .bool true) (w' := w') (by go_simp) hG (Below.refl _ _) rfl
  · refine step_plain [18] (by kernel_rfl) rfl fun us w' hG hV => ?_
    have e18 : us 18 = .bool true := hV 18 (by simp)
    have v18 := (frame_at2 (us := us) hl (show (tabZ[26]?).join = some 18 from rfl)).trans e18
    generalize frame tabZ a0 us = fr at *
    exact val_ok (v := .bool true) (w' := w') (by go_simp) hG (Below.refl _ _) rfl
  · intro us w' hG hV
    have e19 : us 19 = .bool true := hV 19 (by decide)
    subst ha0
    simp only [Act.put, frame, tabZ, fill]
    rw [e19]
    go_wp2_with fail
    go_ret
    exact ⟨rfl, hG.bel⟩
end Go.Proofs.Ytjcdgdlononkhaa.aesC
