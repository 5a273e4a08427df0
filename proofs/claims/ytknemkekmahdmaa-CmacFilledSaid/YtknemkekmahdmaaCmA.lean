/-
  CMAC: a block turned by another one; the code's Double.
-/
import Derived.Test.YtknemkekmahdmaaCmM
namespace Go.Proofs.Ytknemkekmahdmaa.aesC
open Go.ChangeShapes Go.WideShapes Go.ChangeAt Go.RowKit
open Go.Proofs.Ytknemkekmahdmaa.memC Go.Proofs.Ytknemkekmahdmaa.genC Go.Proofs.Ytknemkekmahdmaa.aesM
set_option linter.unusedVariables false
set_option maxRecDepth 100000 in
set_option maxHeartbeats 1000000 in
theorem cturn_any (a b : List Nat) (w : World) (ha : a.length = 16) (hb : b.length = 16) (ya : BY a) (yb : BY b) :
    Calls Try.prog 20 #[.agg (vec a), .agg (vec b)] w (Ret w (.agg (vec (xorL a b)))) := by
  have T0 := Lib.hid (b3_new w a b (zs 16))
  obtain ⟨X, hX⟩ : ∃ X, X = vec a := ⟨_, rfl⟩
  obtain ⟨Y, hY⟩ : ∃ Y, Y = vec b := ⟨_, rfl⟩
  obtain ⟨Z, hZ⟩ : ∃ Z, Z = vec (zs 16) := ⟨_, rfl⟩
  rw [← hX, ← hY]
  have hzv := zero16
  rw [← hZ] at hzv
  obtain ⟨W, hW⟩ : ∃ W, W = ((w.alloc (.cells X 22)).alloc (.cells Y 22)).alloc (.cells Z 22) := ⟨_, rfl⟩
  have T1 : Hid (B3 w a b (zs 16) W) := Lib.hid (by rw [hW, hX, hY, hZ]; exact T0.out)
  have HL := Lib.hid (xorL_len a b)
  have L1 := Lib.hid ha
  have L2 := Lib.hid hb
  have U1 := Lib.hid (show (Try.prog.info? 22).map (·.size) = some (vec (xorL a b)).size by rw [b16_info, vec_size, xorL_len])
  clear T0 ha hb hX hY hZ
  go_enter Try.func20, Try.ntmps20
  go_upto_region 1 with fail
  rw [← hW]
  clear hW hzv
  go_wp2_with fail
  go_loopw [6] (fun i wr => ∃ k : Nat, k ≤ 16 ∧ i = .int .i64 k ∧ B3 w (mixP (xorL a b) a k) b (zs 16) wr) (fun i _ => 16 - (intOf i).toNat)
  case atStart => exact ⟨0, by omega, rfl, by rw [mixP_zero]; exact T1.out⟩
  case round =>
    obtain ⟨k, hk, rfl, BB⟩ := hrel
    have hlen : (xorL a b).length = a.length := by rw [HL.out, L1.out]
    have HB := Lib.hid BB
    by_cases hlt : k < 16
    · have hkz : (k : Int) < 16 := by omega
      have c0 := BB.b0.cell (j := k) (by rw [mixP_len hlen, L1.out]; exact hlt)
      rw [mixP_old hlen (Nat.le_refl _)] at c0
      have c1 := BB.b1.cell (j := k) (by rw [L2.out]; exact hlt)
      have f0 := BB.b0.frozen k
      have hst := HB.out.s0 k ((xorL a b).getD k 0)
      rw [mixP_set hlen (by rw [L1.out]; exact hlt)] at hst
      have hxe : (xorL a b).getD k 0 = a.getD k 0 ^^^ b.getD k 0 := getD_map hlt
      have hx := xor_b (ya.at k) (yb.at k)
      rw [hxe, ← hx] at hst
      have HS := Lib.hid hst
      generalize a.getD k 0 = x at *
      generalize b.getD k 0 = y at *
      clear hst hx hxe BB hlen
      go_upto_region 4 with fail
      go_still_tail 8, (by kernel_rfl)
      change wpList _ _ _ _ _ wr.drew
      go_wp2_with fail
      go_roundw
      case rel =>
        refine ⟨k + 1, by omega, by go_num, ?_⟩
        exact HS.out.heap rfl rfl rfl rfl
      case measure => simp [intOf]; omega
    · have e : k = 16 := by omega
      subst e
      have hf : mixP (xorL a b) a 16 = xorL a b := by have := mixP_full hlen; rwa [L1.out] at this
      rw [hf] at BB
      have G1 := Lib.hid BB.b0.row
      have G2 := Lib.hid BB.b2.row
      have BQ := Lib.hid BB.bel
      clear BB HB hlen hf hlt hk
      go_wp2_with (first
        | (refine wpList_load_row rfl 22 (.tmp 2) rfl w.heap.size rfl _ _ _ _ G1.out Try.underlying22 rfl U1.out ?_)
        | (refine wpList_store_row rfl 22 (.tmp 4) (.tmp 18) rfl (w.heap.size + 1 + 1) _ rfl rfl _ _ G2.out U1.out (by rw [vec_size, vec_size, HL.out]; rfl) (vec_one _) ?_))
      refine bodyPost_ret (v := .agg (vec (xorL a b))) (results_cell_row Try.results20 _ _ (w.heap.size + 1 + 1) _ _ _ _ (by rfl) (setRow_heap _ _ _ _ _ _ G2.out) Try.underlying22 rfl U1.out) rfl ⟨rfl, ?_⟩
      exact below_setRow BQ.out (by omega) _
theorem NG.s0 {w wr : World} {k : List Nat} (B : NG w k wr) (j x : Nat) : NG w (k.set j x) (wr.setCell ⟨w.heap.size, j, none⟩ (.int .u8 (x : Int))) :=
  ⟨B.b0.stored j x, B.b1.other (by show w.heap.size ≠ w.heap.size + 1; omega) _, B.bel.setCell (p := ⟨w.heap.size, j, none⟩) (Nat.le_refl _) _⟩
/-- a byte that goes to the left -/
theorem left_b {x y : Nat} (hx : x < 256) (hy : y < 256) : bits .or .u8 ((x : Int) * 2 % 256) ((y : Int) / 128) = ((x * 2 % 256 + y / 128 : Nat) : Int) := by
  have h1 : y / 128 < 2 ^ 1 := by omega
  have h2 := Nat.shiftLeft_add_eq_or_of_lt h1 (x % 128)
  rw [show (x : Int) * 2 % 256 = ((x * 2 % 256 : Nat) : Int) by omega, show (y : Int) / 128 = ((y / 128 : Nat) : Int) by omega, or_b (Nat.mod_lt _ (by decide)) (by omega)]
  rw [Nat.shiftLeft_eq, show x % 128 * 2 ^ 1 = x * 2 % 256 by omega] at h2
  rw [h2]
theorem dL_mix {a : List Nat} (h : a.length = 16) : (mixP (lowL a) a 15).set 15 (topB a) = dL a := by
  have e : (lowL a).length = a.length := by rw [lowL_len, h]
  refine getD_ext (by rw [List.length_set, mixP_len e, dL_len, h]) fun i hi => ?_
  rw [List.length_set, mixP_len e, h] at hi
  rcases Nat.lt_or_ge i 15 with h1 | h1
  · rw [dL_at h1, List.getD_eq_getElem?_getD, List.getElem?_set_ne (by omega), ← List.getD_eq_getElem?_getD, mixP_new e h1]
    exact getD_map hi
  · obtain rfl : i = 15 := by omega
    rw [dL_top, List.getD_eq_getElem?_getD, List.getElem?_set_self (by rw [mixP_len e, h]; decide)]
    rfl
set_option maxRecDepth 100000 in
set_option maxHeartbeats 1000000 in
theorem cdouble_any (a : List Nat) (w : World) (ha : a.length = 16) (ya : BY a) :
    Calls Try.prog 16 #[.agg (vec a)] w (Ret w (.agg (vec (dL a)))) := by
  have T0 := Lib.hid (ng_new w a)
  obtain ⟨X, hX⟩ : ∃ X, X = vec a := ⟨_, rfl⟩
  obtain ⟨Z, hZ⟩ : ∃ Z, Z = vec (zs 16) := ⟨_, rfl⟩
  rw [← hX]
  have hzv := zero16
  rw [← hZ] at hzv
  obtain ⟨W, hW⟩ : ∃ W, W = (w.alloc (.cells X 22)).alloc (.cells Z 22) := ⟨_, rfl⟩
  have T1 : Hid (NG w a W) := Lib.hid (by rw [hW, hX, hZ]; exact T0.out)
  have L1 := Lib.hid ha
  have U1 := Lib.hid (show (Try.prog.info? 22).map (·.size) = some (vec (dL a)).size by rw [b16_info, vec_size, dL_len])
  have c00 := T1.out.b0.cell (j := 0) (by rw [ha]; decide)
  have y0 := ya.at 0
  obtain ⟨h, hh⟩ : ∃ h, h = a.getD 0 0 / 128 := ⟨_, rfl⟩
  have HH := Lib.hid hh
  obtain ⟨x0, hx0⟩ : ∃ x0, x0 = a.getD 0 0 := ⟨_, rfl⟩
  rw [← hx0] at c00 y0
  have hz : (x0 : Int) / 128 = (h : Int) := by omega
  have h2 : (h : Int) ≤ 1 := by omega
  obtain ⟨m, hm⟩ : ∃ m, m = h * 135 := ⟨_, rfl⟩
  have hmz : (h : Int) * 135 = (m : Int) := by omega
  have hm2 : (m : Int) ≤ 135 := by omega
  have HM := Lib.hid hm
  clear T0 ha hX hZ hh hx0 hm
  go_enter Try.func16, Try.ntmps16
  go_upto_region 1 with fail
  rw [← hW]
  clear hW hzv
  go_upto_region 2 with fail
  clear c00 hz y0
  go_wp2_with fail
  go_loopw [8] (fun i wr => ∃ k : Nat, k ≤ 15 ∧ i = .int .i64 k ∧ NG w (mixP (lowL a) a k) wr) (fun i _ => 15 - (intOf i).toNat)
  case atStart => exact ⟨0, by omega, rfl, by rw [mixP_zero]; exact T1.out⟩
  case round =>
    obtain ⟨k, hk, rfl, BB⟩ := hrel
    have hlen : (lowL a).length = a.length := by rw [lowL_len, L1.out]
    have HB := Lib.hid BB
    by_cases hlt : k < 15
    · have hkz : (k : Int) < 15 := by omega
      obtain ⟨k1, hk1⟩ : ∃ k1, k1 = k + 1 := ⟨_, rfl⟩
      have hk1z : (k : Int) + 1 = (k1 : Int) := by omega
      have hk16 : (k1 : Int) < 16 := by omega
      have hk0 : (k : Int) < 16 := by omega
      have hkw : IntKind.i64.wrap (k1 : Int) = (k1 : Int) := IntWalk.i64_in _ (by omega)
      have c0 := BB.b0.cell (j := k) (by rw [mixP_len hlen, L1.out]; omega)
      rw [mixP_old hlen (Nat.le_refl _)] at c0
      have c1 := BB.b0.cell (j := k1) (by rw [mixP_len hlen, L1.out]; omega)
      rw [mixP_old hlen (by omega)] at c1
      have f0 := BB.b0.frozen k
      have hst := HB.out.s0 k ((lowL a).getD k 0)
      rw [mixP_set hlen (by rw [L1.out]; omega)] at hst
      have hxe : (lowL a).getD k 0 = a.getD k 0 * 2 % 256 + a.getD k1 0 / 128 := by rw [hk1]; exact getD_map (by omega)
      have hx := left_b (ya.at k) (ya.at k1)
      have y0 := ya.at k
      have y1 := ya.at k1
      rw [hxe, ← hx] at hst
      have HS := Lib.hid hst
      have HK1 := Lib.hid hk1
      generalize a.getD k 0 = x at *
      generalize a.getD k1 0 = y at *
      clear hst hx hxe BB hlen hk1
      go_upto_region 5 with fail
      go_still_tail 12, (by kernel_rfl)
      change wpList _ _ _ _ _ wr.drew
      go_wp2_with fail
      go_roundw
      case rel =>
        refine ⟨k + 1, by omega, by go_num, ?_⟩
        exact HS.out.heap rfl rfl rfl rfl
      case measure => simp [intOf]; omega
    · have e : k = 15 := by omega
      subst e
      have c15 := BB.b0.cell (j := 15) (by rw [mixP_len hlen, L1.out]; decide)
      rw [mixP_old hlen (Nat.le_refl _)] at c15
      have f15 := BB.b0.frozen 15
      have hst := HB.out.s0 15 (topB a)
      rw [dL_mix L1.out] at hst
      have hx : bits .xor .u8 ((a.getD 15 0 : Int) * 2 % 256) (m : Int) = ((topB a : Nat) : Int) := by
        rw [show (a.getD 15 0 : Int) * 2 % 256 = ((a.getD 15 0 * 2 % 256 : Nat) : Int) by omega, xor_b (Nat.mod_lt _ (by decide)) (by omega), HM.out, HH.out]
        rfl
      have y15 := ya.at 15
      have HT := Lib.hid hst
      generalize a.getD 15 0 = x at *
      generalize topB a = z at *
      clear hst BB HB hlen hlt hk
      go_upto_region 8 with fail
      generalize wr.setCell ⟨w.heap.size, 15, none⟩ (.int .u8 (z : Int)) = w8 at *
      have G1 := Lib.hid HT.out.b0.row
      have G2 := Lib.hid HT.out.b1.row
      have BQ := Lib.hid HT.out.bel
      clear hx c15 f15 y15
      go_wp2_with (first
        | (refine wpList_load_row rfl 22 (.tmp 1) rfl w.heap.size rfl _ _ _ _ G1.out Try.underlying22 rfl U1.out ?_)
        | (refine wpList_store_row rfl 22 (.tmp 2) (.tmp 31) rfl (w.heap.size + 1) _ rfl rfl _ _ G2.out U1.out (by rw [vec_size, vec_size, dL_len]; rfl) (vec_one _) ?_))
      refine bodyPost_ret (v := .agg (vec (dL a))) (results_cell_row Try.results16 _ _ (w.heap.size + 1) _ _ _ _ (by rfl) (setRow_heap _ _ _ _ _ _ G2.out) Try.underlying22 rfl U1.out) rfl ⟨rfl, ?_⟩
      exact below_setRow BQ.out (by omega) _
end Go.Proofs.Ytknemkekmahdmaa.aesC
