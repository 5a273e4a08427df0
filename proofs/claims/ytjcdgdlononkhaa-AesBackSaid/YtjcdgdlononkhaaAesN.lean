/-
  AES: what alive does.
-/
import Derived.Test.YtjcdgdlononkhaaAesL
namespace Go.Proofs.Ytjcdgdlononkhaa.aesC
open Go.ChangeShapes Go.WideShapes Go.ChangeAt Go.RowKit
open Go.Proofs.Ytjcdgdlononkhaa.memC Go.Proofs.Ytjcdgdlononkhaa.genC Go.Proofs.Ytjcdgdlononkhaa.aesM Go.Proofs.Ytjcdgdlononkhaa.freeC
set_option linter.unusedVariables false
set_option maxRecDepth 10000
def keyX : List Nat := [0, 1, 2, 3, 4, 5, 6, 7, 8, 9, 10, 11, 12, 13, 14, 15]
def blkX : List Nat := [0, 17, 34, 51, 68, 85, 102, 119, 136, 153, 170, 187, 204, 221, 238, 255]
theorem nx0 : nxt [0, 1, 2, 3, 4, 5, 6, 7, 8, 9, 10, 11, 12, 13, 14, 15] 1 = [214, 170, 116, 253, 210, 175, 114, 250, 218, 166, 120, 241, 214, 171, 118, 254] := by decide +kernel
theorem nx1 : nxt [214, 170, 116, 253, 210, 175, 114, 250, 218, 166, 120, 241, 214, 171, 118, 254] 2 = [182, 146, 207, 11, 100, 61, 189, 241, 190, 155, 197, 0, 104, 48, 179, 254] := by decide +kernel
theorem nx2 : nxt [182, 146, 207, 11, 100, 61, 189, 241, 190, 155, 197, 0, 104, 48, 179, 254] 4 = [182, 255, 116, 78, 210, 194, 201, 191, 108, 89, 12, 191, 4, 105, 191, 65] := by decide +kernel
theorem nx3 : nxt [182, 255, 116, 78, 210, 194, 201, 191, 108, 89, 12, 191, 4, 105, 191, 65] 8 = [71, 247, 247, 188, 149, 53, 62, 3, 249, 108, 50, 188, 253, 5, 141, 253] := by decide +kernel
theorem nx4 : nxt [71, 247, 247, 188, 149, 53, 62, 3, 249, 108, 50, 188, 253, 5, 141, 253] 16 = [60, 170, 163, 232, 169, 159, 157, 235, 80, 243, 175, 87, 173, 246, 34, 170] := by decide +kernel
theorem nx5 : nxt [60, 170, 163, 232, 169, 159, 157, 235, 80, 243, 175, 87, 173, 246, 34, 170] 32 = [94, 57, 15, 125, 247, 166, 146, 150, 167, 85, 61, 193, 10, 163, 31, 107] := by decide +kernel
theorem nx6 : nxt [94, 57, 15, 125, 247, 166, 146, 150, 167, 85, 61, 193, 10, 163, 31, 107] 64 = [20, 249, 112, 26, 227, 95, 226, 140, 68, 10, 223, 77, 78, 169, 192, 38] := by decide +kernel
theorem nx7 : nxt [20, 249, 112, 26, 227, 95, 226, 140, 68, 10, 223, 77, 78, 169, 192, 38] 128 = [71, 67, 135, 53, 164, 28, 101, 185, 224, 22, 186, 244, 174, 191, 122, 210] := by decide +kernel
theorem nx8 : nxt [71, 67, 135, 53, 164, 28, 101, 185, 224, 22, 186, 244, 174, 191, 122, 210] 27 = [84, 153, 50, 209, 240, 133, 87, 104, 16, 147, 237, 156, 190, 44, 151, 78] := by decide +kernel
theorem nx9 : nxt [84, 153, 50, 209, 240, 133, 87, 104, 16, 147, 237, 156, 190, 44, 151, 78] 54 = [19, 17, 29, 127, 227, 148, 74, 23, 243, 7, 167, 139, 77, 43, 48, 197] := by decide +kernel
theorem rx1 : rk keyX 1 = [214, 170, 116, 253, 210, 175, 114, 250, 218, 166, 120, 241, 214, 171, 118, 254] := by
  show nxt (rk keyX 0) (rc 0) = _
  rw [show rk keyX 0 = [0, 1, 2, 3, 4, 5, 6, 7, 8, 9, 10, 11, 12, 13, 14, 15] from rfl, show rc 0 = 1 by decide]; exact nx0
theorem rx2 : rk keyX 2 = [182, 146, 207, 11, 100, 61, 189, 241, 190, 155, 197, 0, 104, 48, 179, 254] := by
  show nxt (rk keyX 1) (rc 1) = _
  rw [rx1, show rc 1 = 2 by decide]; exact nx1
theorem rx3 : rk keyX 3 = [182, 255, 116, 78, 210, 194, 201, 191, 108, 89, 12, 191, 4, 105, 191, 65] := by
  show nxt (rk keyX 2) (rc 2) = _
  rw [rx2, show rc 2 = 4 by decide]; exact nx2
theorem rx4 : rk keyX 4 = [71, 247, 247, 188, 149, 53, 62, 3, 249, 108, 50, 188, 253, 5, 141, 253] := by
  show nxt (rk keyX 3) (rc 3) = _
  rw [rx3, show rc 3 = 8 by decide]; exact nx3
theorem rx5 : rk keyX 5 = [60, 170, 163, 232, 169, 159, 157, 235, 80, 243, 175, 87, 173, 246, 34, 170] := by
  show nxt (rk keyX 4) (rc 4) = _
  rw [rx4, show rc 4 = 16 by decide]; exact nx4
theorem rx6 : rk keyX 6 = [94, 57, 15, 125, 247, 166, 146, 150, 167, 85, 61, 193, 10, 163, 31, 107] := by
  show nxt (rk keyX 5) (rc 5) = _
  rw [rx5, show rc 5 = 32 by decide]; exact nx5
theorem rx7 : rk keyX 7 = [20, 249, 112, 26, 227, 95, 226, 140, 68, 10, 223, 77, 78, 169, 192, 38] := by
  show nxt (rk keyX 6) (rc 6) = _
  rw [rx6, show rc 6 = 64 by decide]; exact nx6
theorem rx8 : rk keyX 8 = [71, 67, 135, 53, 164, 28, 101, 185, 224, 22, 186, 244, 174, 191, 122, 210] := by
  show nxt (rk keyX 7) (rc 7) = _
  rw [rx7, show rc 7 = 128 by decide]; exact nx7
theorem rx9 : rk keyX 9 = [84, 153, 50, 209, 240, 133, 87, 104, 16, 147, 237, 156, 190, 44, 151, 78] := by
  show nxt (rk keyX 8) (rc 8) = _
  rw [rx8, show rc 8 = 27 by decide]; exact nx8
theorem rx10 : rk keyX 10 = [19, 17, 29, 127, 227, 148, 74, 23, 243, 7, 167, 139, 77, 43, 48, 197] := by
  show nxt (rk keyX 9) (rc 9) = _
  rw [rx9, show rc 9 = 54 by decide]; exact nx9
theorem sx0 : encS keyX blkX 0 = [0, 16, 32, 48, 64, 80, 96, 112, 128, 144, 160, 176, 192, 208, 224, 240] := by decide +kernel
theorem sx1 : encS keyX blkX 1 = [137, 216, 16, 232, 133, 90, 206, 104, 45, 24, 67, 216, 203, 18, 143, 228] := by
  show xorL (mixL (shL (encS keyX blkX 0))) (rk keyX 1) = _
  rw [sx0, rx1]; decide +kernel
theorem sx2 : encS keyX blkX 2 = [73, 21, 89, 143, 85, 229, 215, 160, 218, 202, 148, 250, 31, 10, 99, 247] := by
  show xorL (mixL (shL (encS keyX blkX 1))) (rk keyX 2) = _
  rw [sx1, rx2]; decide +kernel
theorem sx3 : encS keyX blkX 3 = [250, 99, 106, 40, 37, 179, 57, 201, 64, 102, 138, 49, 87, 36, 77, 23] := by
  show xorL (mixL (shL (encS keyX blkX 2))) (rk keyX 3) = _
  rw [sx2, rx3]; decide +kernel
theorem sx4 : encS keyX blkX 4 = [36, 114, 64, 35, 105, 102, 179, 250, 110, 210, 117, 50, 136, 66, 91, 108] := by
  show xorL (mixL (shL (encS keyX blkX 3))) (rk keyX 4) = _
  rw [sx3, rx4]; decide +kernel
theorem sx5 : encS keyX blkX 5 = [200, 22, 119, 188, 155, 122, 201, 59, 37, 2, 121, 146, 176, 38, 25, 150] := by
  show xorL (mixL (shL (encS keyX blkX 4))) (rk keyX 5) = _
  rw [sx4, rx5]; decide +kernel
theorem sx6 : encS keyX blkX 6 = [198, 47, 225, 9, 247, 94, 237, 195, 204, 121, 57, 93, 132, 249, 207, 93] := by
  show xorL (mixL (shL (encS keyX blkX 5))) (rk keyX 6) = _
  rw [sx5, rx6]; decide +kernel
theorem sx7 : encS keyX blkX 7 = [209, 135, 108, 15, 121, 196, 48, 10, 180, 85, 148, 173, 214, 111, 244, 31] := by
  show xorL (mixL (shL (encS keyX blkX 6))) (rk keyX 7) = _
  rw [sx6, rx7]; decide +kernel
theorem sx8 : encS keyX blkX 8 = [253, 227, 186, 210, 5, 229, 208, 215, 53, 71, 150, 78, 241, 254, 55, 241] := by
  show xorL (mixL (shL (encS keyX blkX 7))) (rk keyX 8) = _
  rw [sx7, rx8]; decide +kernel
theorem sx9 : encS keyX blkX 9 = [189, 110, 124, 61, 242, 181, 119, 158, 11, 97, 33, 110, 139, 16, 182, 137] := by
  show xorL (mixL (shL (encS keyX blkX 8))) (rk keyX 9) = _
  rw [sx8, rx9]; decide +kernel
theorem known_enc : encL keyX blkX = [105, 196, 224, 216, 106, 123, 4, 48, 216, 205, 183, 128, 112, 180, 197, 90] := by
  show xorL (shL (encS keyX blkX 9)) (rk keyX 10) = _
  rw [sx9, rx10]; decide +kernel

theorem keyX_at : ∀ n, n < 16 → keyX.getD n 0 = n := by decide
theorem blkX_at : ∀ n, n < 16 → blkX.getD n 0 = 17 * n := by decide
theorem keyX_by : BY keyX := by unfold BY; decide
theorem blkX_by : BY blkX := by unfold BY; decide
/-- two blocks of 16 bytes that the call lays -/
structure A2 (w : World) (a b : List Nat) (wr : World) : Prop where
  b0 : Bl 22 wr w.heap.size a
  b1 : Bl 22 wr (w.heap.size + 1) b
  bel : Below w.heap.size w wr
section
variable {w wr w' : World} {a b : List Nat}
theorem A2.lt (h : A2 w a b wr) : w.heap.size + 1 < wr.heap.size := h.b1.lt
theorem A2.below (B : A2 w a b wr) (h : Below wr.heap.size wr w') : A2 w a b w' := ⟨B.b0.below h B.b0.lt, B.b1.below h B.b1.lt, B.bel.trans (h.mono B.bel.size)⟩
theorem A2.s0 (B : A2 w a b wr) (j x : Nat) : A2 w (a.set j x) b (wr.setCell ⟨w.heap.size, j, none⟩ (.int .u8 (x : Int))) :=
  ⟨B.b0.stored j x, B.b1.other (by show w.heap.size ≠ w.heap.size + 1; omega) _, B.bel.setCell (p := ⟨w.heap.size, j, none⟩) (Nat.le_refl _) _⟩
theorem A2.s1 (B : A2 w a b wr) (j x : Nat) : A2 w a (b.set j x) (wr.setCell ⟨w.heap.size + 1, j, none⟩ (.int .u8 (x : Int))) :=
  ⟨B.b0.other (by show w.heap.size + 1 ≠ w.heap.size; omega) _, B.b1.stored j x, B.bel.setCell (p := ⟨w.heap.size + 1, j, none⟩) (by show w.heap.size ≤ w.heap.size + 1; omega) _⟩
theorem a2_new (w : World) (a b : List Nat) : A2 w a b ((w.alloc (.cells (vec a) 22)).alloc (.cells (vec b) 22)) := by
  refine ⟨(Bl.new w _ a).alloc _, ?_, ((Below.refl _ _).alloc (Nat.le_refl _) _).alloc (by simp) _⟩
  have := Bl.new (w.alloc (.cells (vec a) 22)) 22 b
  rw [alloc_size] at this; exact this
end
def AliveRet (w : World) (e : Ending) (w' : World) : Prop := e = .returned (.bool true) ∧ Below w.heap.size w w'
def tabL : List (Option Nat) := [none, none, none, none, some 4, none, none, none, none, none, none, none, none, none, none, none, none, none, some 0, some 1, some 2, some 3, none, none, none, none, none, none, none, none, none, none, none, none, none, none, none, none, none]
def LV (N : Nat) (K B R : Array Value) : Nat → Value → World → Prop
  | 0, v, _ => v = .agg K
  | 1, v, _ => v = .agg K
  | 2, v, _ => v = .agg B
  | 3, v, _ => v = .agg R
  | 4, v, w => ∃ g, v = .pointer (some ⟨g, 0, none⟩) ∧ N + 1 < g ∧ Bl 22 w g (zs 16)
  | _, _, _ => True
theorem LV.keep (N : Nat) (K B R : Array Value) (i : Nat) (v : Value) (w w' : World) (hb : Below w.heap.size w w') (h : LV N K B R i v w) : LV N K B R i v w' := by
  unfold LV at h ⊢
  split at h <;> first | exact h | (obtain ⟨g, e, hg, hn⟩ := h; exact ⟨g, e, hg, hn.below hb hn.lt⟩)
set_option maxRecDepth 100000 in
set_option maxHeartbeats 1000000 in
theorem alive_any (w : World) : Calls Try.prog 11 #[] w (AliveRet w) := by
  obtain ⟨Z, hZ⟩ : ∃ Z, Z = vec (zs 16) := ⟨_, rfl⟩
  have hzv := zero16
  rw [← hZ] at hzv
  obtain ⟨W, hW⟩ : ∃ W, W = (w.alloc (.cells Z 22)).alloc (.cells Z 22) := ⟨_, rfl⟩
  have T1 : Hid (A2 w (zs 16) (zs 16) W) := Lib.hid (by rw [hW, hZ]; exact a2_new w _ _)
  clear hZ
  go_enter Try.func11, Try.ntmps11
  go_upto_region 2 with fail
  rw [← hW]
  clear hW hzv
  go_wp2_with fail
  go_loopw [5] (fun i wr => ∃ n : Nat, n ≤ 16 ∧ i = .int .i64 n ∧ A2 w (mixP keyX (zs 16) n) (mixP blkX (zs 16) n) wr) (fun i _ => 16 - (intOf i).toNat)
  case atStart => exact ⟨0, by omega, rfl, by rw [mixP_zero, mixP_zero]; exact T1.out⟩
  case round =>
    obtain ⟨n, hn, rfl, BB⟩ := hrel
    by_cases hlt : n < 16
    · have hnz : (n : Int) < 16 := by omega
      have q1 : keyX.length = (zs 16).length := rfl
      have q2 : blkX.length = (zs 16).length := rfl
      have l1 : (mixP keyX (zs 16) n).length = 16 := by rw [mixP_len q1]; rfl
      have l2 : (mixP blkX (zs 16) n).length = 16 := by rw [mixP_len q2]; rfl
      have c0 := BB.b0.cell (j := n) (by rw [l1]; exact hlt)
      have c1 := BB.b1.cell (j := n) (by rw [l2]; exact hlt)
      have f0 := BB.b0.frozen n
      have f1 := BB.b1.frozen n
      obtain ⟨m, hm⟩ : ∃ m, m = 17 * n := ⟨_, rfl⟩
      have e1 : (17 : Int) * (n : Int) = (m : Int) := by omega
      have m1 : (m : Int) < 256 := by omega
      have hs0 := BB.s0 n (keyX.getD n 0)
      rw [mixP_set q1 (by rw [zs_len]; exact hlt), keyX_at n hlt] at hs0
      have hs1 := hs0.s1 n (blkX.getD n 0)
      rw [mixP_set q2 (by rw [zs_len]; exact hlt), blkX_at n hlt, ← hm] at hs1
      have HS := Lib.hid hs1
      generalize (mixP keyX (zs 16) n).getD n 0 = x0 at *
      generalize (mixP blkX (zs 16) n).getD n 0 = x1 at *
      clear BB hs0 hs1 l1 l2 hm q1 q2
      go_wp2_with fail
      go_roundw
      case rel => exact ⟨n + 1, by omega, by go_num, HS.out⟩
      case measure => simp [intOf]; omega
    · have e : n = 16 := by omega
      subst e
      rw [show mixP keyX (zs 16) 16 = keyX from mixP_full (ys := zs 16) rfl, show mixP blkX (zs 16) 16 = blkX from mixP_full (ys := zs 16) rfl] at BB
      have H0 := Lib.hid BB
      clear BB hlt hn T1
      obtain ⟨K, hK⟩ : ∃ K, K = vec keyX := ⟨_, rfl⟩
      obtain ⟨B, hB⟩ : ∃ B, B = vec blkX := ⟨_, rfl⟩
      obtain ⟨R, hR⟩ : ∃ R, R = vec (encL keyX blkX) := ⟨_, rfl⟩
      have CN := Lib.hid (fun w => new_any keyX w rfl)
      have CE := Lib.hid (fun w => encrypt_any keyX blkX w rfl keyX_by rfl blkX_by)
      rw [← hK] at CN
      rw [← hK, ← hB, ← hR] at CE
      have UK := Lib.hid (show (Try.prog.info? 22).map (·.size) = some K.size by rw [hK]; exact vec_info rfl)
      have UB := Lib.hid (show (Try.prog.info? 22).map (·.size) = some B.size by rw [hB]; exact vec_info rfl)
      have UR := Lib.hid (show (Try.prog.info? 22).map (·.size) = some R.size by rw [hR]; exact vec_info (encL_len _ _))
      have OR := Lib.hid (show R.all (·.oneCell') = true by rw [hR]; exact vec_one _)
      have SR := Lib.hid (show (vec (zs 16)).size = R.size by rw [hR, vec_size, vec_size, encL_len, zs_len])
      have HK := Lib.hid hK.symm
      have HB := Lib.hid hB.symm
      have r0 : R[0]? = some (.int .u8 105) := by rw [hR, known_enc]; rfl
      have r1 : R[1]? = some (.int .u8 196) := by rw [hR, known_enc]; rfl
      have r15 : R[15]? = some (.int .u8 90) := by rw [hR, known_enc]; rfl
      have BX := Lib.hid (fun w => (show Calls Try.prog 15 #[.int .u8 0] w (fun e w' => e = .returned (.int .u8 99) ∧ w = w') from (box_any 0 w (by decide)).mono fun e w' h => h))
      have HR0 := Lib.hid r0; have HR1 := Lib.hid r1; have HR15 := Lib.hid r15
      clear hK hB hR r0 r1 r15
      go_upto_region 7 with fail
      refine with_act fun a0 ha0 => ?_
      have hl : tabL.length = a0.tmps.size := by rw [ha0]; rfl
      have k1 : a0.tmps[1]?.getD undef = .pointer (some ⟨w.heap.size, 0, none⟩) := by rw [ha0]; rfl
      have k2 : a0.tmps[2]?.getD undef = .pointer (some ⟨w.heap.size + 1, 0, none⟩) := by rw [ha0]; rfl
      refine wp_region_end 5 (by kernel_rfl) tabL (by kernel_rfl) (by kernel_rfl) hl (by kernel_rfl) (by kernel_rfl) (fun i => if i = 4 then a0.tmps[4]?.getD undef else a0.tmps[i + 18]?.getD undef) (by rw [ha0]; rfl) (A2 w keyX blkX) (LV w.heap.size K B R) ?_ (LV.keep _ _ _ _) ⟨?_, ?_, ?_, ?_, ?_, trivial⟩ ?_
      · exact ⟨H0.out.b0.heap rfl, H0.out.b1.heap rfl, H0.out.bel.drew⟩
      · refine step_plain [] (by kernel_rfl) rfl fun us w' hG hV => ?_
        have o1 := (frame_old2 (us := us) (a := a0) (show (tabL[1]?).join = none from rfl)).trans k1
        have hg1 := hG.b0.row
        rw [HK.out] at hg1
        generalize frame tabL a0 us = fr at *
        exact load_ok 22 1 rfl w.heap.size o1 _ _ _ _ hg1 Try.underlying22 rfl UK.out hG rfl
      · refine step_plain [0] (by kernel_rfl) rfl fun us w' hG hV => ?_
        have e0 : us 0 = .agg K := hV 0 (by simp)
        have v0 := (frame_at2 (us := us) hl (show (tabL[18]?).join = some 0 from rfl)).trans e0
        generalize frame tabL a0 us = fr at *
        exact call_ok (f := 8) (args := #[.agg K]) (by go_simp) ((CN.out w').mono fun e w'' h => ⟨_, h.1, hG.below h.2, h.2, rfl⟩)
      · refine step_plain [] (by kernel_rfl) rfl fun us w' hG hV => ?_
        have o2 := (frame_old2 (us := us) (a := a0) (show (tabL[2]?).join = none from rfl)).trans k2
        have hg1 := hG.b1.row
        rw [HB.out] at hg1
        generalize frame tabL a0 us = fr at *
        exact load_ok 22 2 rfl (w.heap.size + 1) o2 _ _ _ _ hg1 Try.underlying22 rfl UB.out hG rfl
      · refine step_plain [1, 2] (by kernel_rfl) rfl fun us w' hG hV => ?_
        have e1 : us 1 = .agg K := hV 1 (by simp)
        have v1 := (frame_at2 (us := us) hl (show (tabL[19]?).join = some 1 from rfl)).trans e1
        have e2 : us 2 = .agg B := hV 2 (by simp)
        have v2 := (frame_at2 (us := us) hl (show (tabL[20]?).join = some 2 from rfl)).trans e2
        generalize frame tabL a0 us = fr at *
        exact call_ok (f := 9) (args := #[.agg K, .agg B]) (by go_simp) ((CE.out w').mono fun e w'' h => ⟨_, h.1, hG.below h.2, h.2, rfl⟩)
      · refine step_plain [] (by kernel_rfl) rfl fun us w' hG hV => ?_
        have hz := zero16
        have hb := alloc_below w' (.cells (vec (zs 16)) 22)
        have hn := Bl.new w' 22 (zs 16)
        have hsz := hG.lt
        generalize frame tabL a0 us = fr at *
        generalize vec (zs 16) = Z at *
        exact val_ok (v := .pointer (some ⟨w'.heap.size, 0, none⟩)) (w' := w'.alloc (.cells Z 22)) (by go_simp) (hG.below hb) hb ⟨_, rfl, hsz, hn⟩
      · intro us w' o ho hG hV
        obtain rfl := Option.some.inj ho
        have e3 : us 3 = .agg R := hV 3 (by decide)
        obtain ⟨g, e4, hg, hn⟩ : ∃ g, us 4 = .pointer (some ⟨g, 0, none⟩) ∧ w.heap.size + 1 < g ∧ Bl 22 w' g (zs 16) := hV 4 (by decide)
        have v3 := (frame_at2 (us := us) hl (show (tabL[21]?).join = some 3 from rfl)).trans e3
        have v4 := (frame_at2 (us := us) hl (show (tabL[4]?).join = some 4 from rfl)).trans e4
        refine store_J 22 4 21 rfl g R v4 v3 _ _ hn.row UR.out SR.out OR.out ?_
        have hrow := setRow_heap w' g _ R _ _ hn.row
        have BF := Lib.hid (below_setRow (k := g) hG.bel (by omega) R)
        generalize w'.setRow g R = w6 at *
        have c0 := (cell_of_row w6 g 0 R _ (0, 0) hrow).trans HR0.out
        have c1 := (cell_of_row w6 g 1 R _ (0, 0) hrow).trans HR1.out
        have c15 := (cell_of_row w6 g 15 R _ (0, 0) hrow).trans HR15.out
        subst ha0
        simp only [Act.put, frame, tabL, fill]
        rw [e4]
        clear hV v3 v4 e3 e4 hG hn hrow k1 k2 hl CN CE UK UB UR OR SR HK HB HR0 HR1 HR15 H0
        go_wp2_with (first | (go_at_call 15; (with_reducible refine (BX.out _).mono ?_); rintro e w3 ⟨rfl, rfl⟩))
        go_ret
        exact ⟨rfl, BF.out⟩
end Go.Proofs.Ytjcdgdlononkhaa.aesC
