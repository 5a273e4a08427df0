/-
  AES: the code's shift.
-/
import Derived.Test.YtknemkekmahdmaaAesB
import Derived.Test.YtknemkekmahdmaaAesE
namespace Go.Proofs.Ytknemkekmahdmaa.aesC
open Go.ChangeShapes Go.WideShapes Go.ChangeAt Go.RowKit
open Go.Proofs.Ytknemkekmahdmaa.memC Go.Proofs.Ytknemkekmahdmaa.genC Go.Proofs.Ytknemkekmahdmaa.aesM
set_option linter.unusedVariables false
def shL (b : List Nat) : List Nat := (List.range 16).map fun i => box (b.getD ((i + i % 4 * 4) % 16) 0)
theorem shL_len (b : List Nat) : (shL b).length = 16 := by simp [shL]
theorem shL_by (b : List Nat) : BY (shL b) := BY.map fun i _ => box_lt _
set_option maxRecDepth 100000 in
set_option maxHeartbeats 1000000 in
theorem shift_any (b : List Nat) (w : World) (hb : b.length = 16) (yb : BY b) :
    Calls Try.prog 31 #[.agg (vec b)] w (Ret w (.agg (vec (shL b)))) := by
  have T0 := Lib.hid (b3_new w b (zs 16) (zs 16))
  obtain ⟨X, hX⟩ : ∃ X, X = vec b := ⟨_, rfl⟩
  obtain ⟨Z, hZ⟩ : ∃ Z, Z = vec (zs 16) := ⟨_, rfl⟩
  rw [← hX]
  have hzv := zero16
  rw [← hZ] at hzv
  obtain ⟨W, hW⟩ : ∃ W, W = ((w.alloc (.cells X 22)).alloc (.cells Z 22)).alloc (.cells Z 22) := ⟨_, rfl⟩
  have T1 : Hid (B3 w b (zs 16) (zs 16) W) := Lib.hid (by rw [hW, hX, hZ]; exact T0.out)
  have HL := Lib.hid (shL_len b)
  have L2 := Lib.hid hb
  have U1 := Lib.hid (show (Try.prog.info? 22).map (·.size) = some (vec (shL b)).size by rw [b16_info, vec_size, shL_len])
  clear T0 hb hX hZ
  go_enter Try.func31, Try.ntmps31
  go_upto_region 2 with fail
  rw [← hW]
  clear hW hzv
  go_wp2_with fail
  go_loopw [5] (fun i wr => ∃ k : Nat, k ≤ 16 ∧ i = .int .i64 k ∧ B3 w b (zs 16) (mixP (shL b) (zs 16) k) wr) (fun i _ => 16 - (intOf i).toNat)
  case atStart => exact ⟨0, by omega, rfl, by rw [mixP_zero]; exact T1.out⟩
  case round =>
    obtain ⟨k, hk, rfl, BB⟩ := hrel
    have hlen : (shL b).length = (zs 16).length := by rw [HL.out, zs_len]
    have HB := Lib.hid BB
    by_cases hlt : k < 16
    · have hkz : (k : Int) < 16 := by omega
      obtain ⟨r, hr⟩ : ∃ r, r = k % 4 := ⟨_, rfl⟩
      obtain ⟨m, hm⟩ : ∃ m, m = r * 4 := ⟨_, rfl⟩
      obtain ⟨s, hs⟩ : ∃ s, s = k + m := ⟨_, rfl⟩
      obtain ⟨q, hq⟩ : ∃ q, q = s % 16 := ⟨_, rfl⟩
      have e1 : (k : Int) % 4 = (r : Int) := by omega
      have e2 : (r : Int) * 4 = (m : Int) := by omega
      have e3 : (k : Int) + (m : Int) = (s : Int) := by omega
      have e4 : (s : Int) % 16 = (q : Int) := by omega
      have r4 : (r : Int) < 4 := by omega
      have m16 : (m : Int) ≤ 12 := by omega
      have s28 : (s : Int) < 28 := by omega
      have q16 : (q : Int) < 16 := by omega
      have c0 := BB.b0.cell (j := q) (by rw [L2.out]; omega)
      have c2 := BB.b2.cell (j := k) (by rw [mixP_len hlen, zs_len]; exact hlt)
      have f2 := BB.b2.frozen k
      have hst := HB.out.s2 k ((shL b).getD k 0)
      rw [mixP_set hlen (by rw [zs_len]; exact hlt)] at hst
      have hxe : (shL b).getD k 0 = box (b.getD q 0) := by rw [hq, hs, hm, hr]; exact getD_map hlt
      rw [hxe] at hst
      have hx := yb.at q
      have HS := Lib.hid hst
      generalize b.getD q 0 = x at *
      generalize (mixP (shL b) (zs 16) k).getD k 0 = old at *
      have BX := Lib.hid (fun w => box_any x w hx)
      generalize box x = y at *
      clear hst hxe BB hlen hr hm hs hq
      go_wp2_with (first | (go_at_call 35; (with_reducible refine (BX.out _).mono ?_); rintro e w1 ⟨rfl, rfl⟩))
      go_roundw
      case rel => exact ⟨k + 1, by omega, by go_num, HS.out⟩
      case measure => simp [intOf]; omega
    · have e : k = 16 := by omega
      subst e
      have hf : mixP (shL b) (zs 16) 16 = shL b := mixP_full hlen
      rw [hf] at BB
      have G1 := Lib.hid BB.b2.row
      have G2 := Lib.hid BB.b1.row
      have BQ := Lib.hid BB.bel
      clear BB HB hlen hf hlt hk
      go_wp2_with (first
        | (refine wpList_load_row rfl 22 (.tmp 3) rfl (w.heap.size + 1 + 1) rfl _ _ _ _ G1.out Try.underlying22 rfl U1.out ?_)
        | (refine wpList_store_row rfl 22 (.tmp 2) (.tmp 20) rfl (w.heap.size + 1) _ rfl rfl _ _ G2.out U1.out (by rw [vec_size, vec_size, HL.out]; rfl) (vec_one _) ?_))
      refine bodyPost_ret (v := .agg (vec (shL b))) (results_cell_row Try.results31 _ _ (w.heap.size + 1) _ _ _ _ (by rfl) (setRow_heap _ _ _ _ _ _ G2.out) Try.underlying22 rfl U1.out) rfl ⟨rfl, ?_⟩
      exact below_setRow BQ.out (by omega) _
end Go.Proofs.Ytknemkekmahdmaa.aesC
