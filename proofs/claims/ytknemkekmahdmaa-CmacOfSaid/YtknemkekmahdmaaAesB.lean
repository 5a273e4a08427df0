/-
  AES: a block turned by another one.
-/
import Derived.Test.YtknemkekmahdmaaAesA
namespace Go.Proofs.Ytknemkekmahdmaa.aesC
open Go.ChangeShapes Go.WideShapes Go.ChangeAt Go.RowKit
open Go.Proofs.Ytknemkekmahdmaa.memC Go.Proofs.Ytknemkekmahdmaa.genC Go.Proofs.Ytknemkekmahdmaa.aesM
set_option linter.unusedVariables false
def xorL (a b : List Nat) : List Nat := (List.range 16).map fun i => a.getD i 0 ^^^ b.getD i 0
theorem xorL_len (a b : List Nat) : (xorL a b).length = 16 := by simp [xorL]
theorem xorL_by {a b : List Nat} (ha : BY a) (hb : BY b) : BY (xorL a b) := BY.map fun i _ => xor_lt (ha.at i) (hb.at i)
/-- the blocks that a call lays: three of 16 bytes -/
structure B3 (w : World) (a b c : List Nat) (wr : World) : Prop where
  b0 : Bl 22 wr w.heap.size a
  b1 : Bl 22 wr (w.heap.size + 1) b
  b2 : Bl 22 wr (w.heap.size + 1 + 1) c
  bel : Below w.heap.size w wr
section
variable {w wr w' : World} {a b c : List Nat}
theorem B3.heap (B : B3 w a b c wr) (e : w'.heap = wr.heap) (e1 : w'.os = wr.os) (e2 : w'.tape = wr.tape) (e3 : w'.output = wr.output) : B3 w a b c w' :=
  ⟨B.b0.heap e, B.b1.heap e, B.b2.heap e, B.bel.trans ⟨e1, e2, e3, by rw [e]; exact Nat.le_refl _, fun k _ => by rw [e]⟩⟩
theorem B3.s0 (B : B3 w a b c wr) (j x : Nat) : B3 w (a.set j x) b c (wr.setCell ⟨w.heap.size, j, none⟩ (.int .u8 (x : Int))) :=
  ⟨B.b0.stored j x, B.b1.other (by show w.heap.size ≠ w.heap.size + 1; omega) _, B.b2.other (by show w.heap.size ≠ w.heap.size + 1 + 1; omega) _, B.bel.setCell (p := ⟨w.heap.size, j, none⟩) (Nat.le_refl _) _⟩
theorem B3.s2 (B : B3 w a b c wr) (j x : Nat) : B3 w a b (c.set j x) (wr.setCell ⟨w.heap.size + 1 + 1, j, none⟩ (.int .u8 (x : Int))) :=
  ⟨B.b0.other (by show w.heap.size + 1 + 1 ≠ w.heap.size; omega) _, B.b1.other (by show w.heap.size + 1 + 1 ≠ w.heap.size + 1; omega) _, B.b2.stored j x, B.bel.setCell (p := ⟨w.heap.size + 1 + 1, j, none⟩) (by show w.heap.size ≤ w.heap.size + 1 + 1; omega) _⟩
end
theorem b3_new (w : World) (a b c : List Nat) : B3 w a b c (((w.alloc (.cells (vec a) 22)).alloc (.cells (vec b) 22)).alloc (.cells (vec c) 22)) := by
  have e1 : (w.alloc (.cells (vec a) 22)).heap.size = w.heap.size + 1 := alloc_size _ _
  have e2 : ((w.alloc (.cells (vec a) 22)).alloc (.cells (vec b) 22)).heap.size = w.heap.size + 1 + 1 := by rw [alloc_size, e1]
  refine ⟨((Bl.new w _ a).alloc _).alloc _, ?_, ?_, (((Below.refl _ _).alloc (Nat.le_refl _) _).alloc (by simp) _).alloc (by simp; omega) _⟩
  · have := (Bl.new (w.alloc (.cells (vec a) 22)) 22 b).alloc (.cells (vec c) 22)
    rw [e1] at this; exact this
  · have := Bl.new ((w.alloc (.cells (vec a) 22)).alloc (.cells (vec b) 22)) 22 c
    rw [e2] at this; exact this
set_option maxRecDepth 100000 in
set_option maxHeartbeats 1000000 in
theorem turn_any (a b : List Nat) (w : World) (ha : a.length = 16) (hb : b.length = 16) (ya : BY a) (yb : BY b) :
    Calls Try.prog 29 #[.agg (vec a), .agg (vec b)] w (Ret w (.agg (vec (xorL a b)))) := by
  have T0 := Lib.hid (b3_new w a b (zs 16))
  obtain ⟨X, hX⟩ : ∃ X, X = vec a := ⟨_, rfl⟩
  obtain ⟨Y, hY⟩ : ∃ Y, Y = vec b := ⟨_, rfl⟩
  obtain ⟨Z, hZ⟩ : ∃ Z, Z = vec (zs 16) := ⟨_, rfl⟩
  rw [← hX, ← hY]
  have hzv := zero16
  rw [← hZ] at hzv
  obtain ⟨W, hW⟩ : ∃ W, W = ((w.alloc (.cells X 22)).alloc (.cells Y 22)).alloc (.cells Z 22) := ⟨_, rfl⟩
  have T1 : Hid (B3 w a b (zs 16) W) := Lib.hid (by rw [hW, hX, hY, hZ]; exact T0.out)
  have HL := Lib.hid (xorL_len a b)
  have L1 := Lib.hid ha
  have L2 := Lib.hid hb
  have U1 := Lib.hid (show (Try.prog.info? 22).map (·.size) = some (vec (xorL a b)).size by rw [b16_info, vec_size, xorL_len])
  clear T0 ha hb hX hY hZ
  go_enter Try.func29, Try.ntmps29
  go_upto_region 1 with fail
  rw [← hW]
  clear hW hzv
  go_wp2_with fail
  go_loopw [6] (fun i wr => ∃ k : Nat, k ≤ 16 ∧ i = .int .i64 k ∧ B3 w (mixP (xorL a b) a k) b (zs 16) wr) (fun i _ => 16 - (intOf i).toNat)
  case atStart => exact ⟨0, by omega, rfl, by rw [mixP_zero]; exact T1.out⟩
  case round =>
    obtain ⟨k, hk, rfl, BB⟩ := hrel
    have hlen : (xorL a b).length = a.length := by rw [HL.out, L1.out]
    have HB := Lib.hid BB
    by_cases hlt : k < 16
    · have hkz : (k : Int) < 16 := by omega
      have c0 := BB.b0.cell (j := k) (by rw [mixP_len hlen, L1.out]; exact hlt)
      rw [mixP_old hlen (Nat.le_refl _)] at c0
      have c1 := BB.b1.cell (j := k) (by rw [L2.out]; exact hlt)
      have f0 := BB.b0.frozen k
      have hst := HB.out.s0 k ((xorL a b).getD k 0)
      rw [mixP_set hlen (by rw [L1.out]; exact hlt)] at hst
      have hxe : (xorL a b).getD k 0 = a.getD k 0 ^^^ b.getD k 0 := getD_map hlt
      have hx := xor_b (ya.at k) (yb.at k)
      rw [hxe, ← hx] at hst
      have HS := Lib.hid hst
      generalize a.getD k 0 = x at *
      generalize b.getD k 0 = y at *
      clear hst hx hxe BB hlen
      go_upto_region 4 with fail
      go_still_tail 8, (by kernel_rfl)
      change wpList _ _ _ _ _ wr.drew
      go_wp2_with fail
      go_roundw
      case rel =>
        refine ⟨k + 1, by omega, by go_num, ?_⟩
        exact HS.out.heap rfl rfl rfl rfl
      case measure => simp [intOf]; omega
    · have e : k = 16 := by omega
      subst e
      have hf : mixP (xorL a b) a 16 = xorL a b := by have := mixP_full hlen; rwa [L1.out] at this
      rw [hf] at BB
      have G1 := Lib.hid BB.b0.row
      have G2 := Lib.hid BB.b2.row
      have BQ := Lib.hid BB.bel
      clear BB HB hlen hf hlt hk
      go_wp2_with (first
        | (refine wpList_load_row rfl 22 (.tmp 2) rfl w.heap.size rfl _ _ _ _ G1.out Try.underlying22 rfl U1.out ?_)
        | (refine wpList_store_row rfl 22 (.tmp 4) (.tmp 18) rfl (w.heap.size + 1 + 1) _ rfl rfl _ _ G2.out U1.out (by rw [vec_size, vec_size, HL.out]; rfl) (vec_one _) ?_))
      refine bodyPost_ret (v := .agg (vec (xorL a b))) (results_cell_row Try.results29 _ _ (w.heap.size + 1 + 1) _ _ _ _ (by rfl) (setRow_heap _ _ _ _ _ _ G2.out) Try.underlying22 rfl U1.out) rfl ⟨rfl, ?_⟩
      exact below_setRow BQ.out (by omega) _
set_option maxRecDepth 100000 in
set_option maxHeartbeats 1000000 in
theorem turned_any (a b : List Nat) (w : World) (ha : a.length = 16) (hb : b.length = 16) (ya : BY a) (yb : BY b) :
    Calls Try.prog 26 #[.agg (vec a), .agg (vec b)] w (Ret w (.agg (vec (xorL a b)))) := by
  have T0 := Lib.hid (b3_new w a b (zs 16))
  obtain ⟨X, hX⟩ : ∃ X, X = vec a := ⟨_, rfl⟩
  obtain ⟨Y, hY⟩ : ∃ Y, Y = vec b := ⟨_, rfl⟩
  obtain ⟨Z, hZ⟩ : ∃ Z, Z = vec (zs 16) := ⟨_, rfl⟩
  rw [← hX, ← hY]
  have hzv := zero16
  rw [← hZ] at hzv
  obtain ⟨W, hW⟩ : ∃ W, W = ((w.alloc (.cells X 22)).alloc (.cells Y 22)).alloc (.cells Z 22) := ⟨_, rfl⟩
  have T1 : Hid (B3 w a b (zs 16) W) := Lib.hid (by rw [hW, hX, hY, hZ]; exact T0.out)
  have HL := Lib.hid (xorL_len a b)
  have L1 := Lib.hid ha
  have L2 := Lib.hid hb
  have U1 := Lib.hid (show (Try.prog.info? 22).map (·.size) = some (vec (xorL a b)).size by rw [b16_info, vec_size, xorL_len])
  clear T0 ha hb hX hY hZ
  go_enter Try.func26, Try.ntmps26
  go_upto_region 1 with fail
  rw [← hW]
  clear hW hzv
  go_wp2_with fail
  go_loopw [5] (fun i wr => ∃ k : Nat, k ≤ 16 ∧ i = .int .i64 k ∧ B3 w (mixP (xorL a b) a k) b (zs 16) wr) (fun i _ => 16 - (intOf i).toNat)
  case atStart => exact ⟨0, by omega, rfl, by rw [mixP_zero]; exact T1.out⟩
  case round =>
    obtain ⟨k, hk, rfl, BB⟩ := hrel
    have hlen : (xorL a b).length = a.length := by rw [HL.out, L1.out]
    have HB := Lib.hid BB
    by_cases hlt : k < 16
    · have hkz : (k : Int) < 16 := by omega
      have c0 := BB.b0.cell (j := k) (by rw [mixP_len hlen, L1.out]; exact hlt)
      rw [mixP_old hlen (Nat.le_refl _)] at c0
      have c1 := BB.b1.cell (j := k) (by rw [L2.out]; exact hlt)
      have f0 := BB.b0.frozen k
      have hst := HB.out.s0 k ((xorL a b).getD k 0)
      rw [mixP_set hlen (by rw [L1.out]; exact hlt)] at hst
      have hxe : (xorL a b).getD k 0 = a.getD k 0 ^^^ b.getD k 0 := getD_map hlt
      have hx := xor_b (ya.at k) (yb.at k)
      rw [hxe, ← hx] at hst
      have HS := Lib.hid hst
      generalize a.getD k 0 = x at *
      generalize b.getD k 0 = y at *
      clear hst hx hxe BB hlen
      go_upto_region 4 with fail
      go_still_tail 8, (by kernel_rfl)
      change wpList _ _ _ _ _ wr.drew
      go_wp2_with fail
      go_roundw
      case rel =>
        refine ⟨k + 1, by omega, by go_num, ?_⟩
        exact HS.out.heap rfl rfl rfl rfl
      case measure => simp [intOf]; omega
    · have e : k = 16 := by omega
      subst e
      have hf : mixP (xorL a b) a 16 = xorL a b := by have := mixP_full hlen; rwa [L1.out] at this
      rw [hf] at BB
      have G1 := Lib.hid BB.b0.row
      have G2 := Lib.hid BB.b2.row
      have BQ := Lib.hid BB.bel
      clear BB HB hlen hf hlt hk
      go_wp2_with (first
        | (refine wpList_load_row rfl 22 (.tmp 2) rfl w.heap.size rfl _ _ _ _ G1.out Try.underlying22 rfl U1.out ?_)
        | (refine wpList_store_row rfl 22 (.tmp 4) (.tmp 18) rfl (w.heap.size + 1 + 1) _ rfl rfl _ _ G2.out U1.out (by rw [vec_size, vec_size, HL.out]; rfl) (vec_one _) ?_))
      refine bodyPost_ret (v := .agg (vec (xorL a b))) (results_cell_row Try.results26 _ _ (w.heap.size + 1 + 1) _ _ _ _ (by rfl) (setRow_heap _ _ _ _ _ _ G2.out) Try.underlying22 rfl U1.out) rfl ⟨rfl, ?_⟩
      exact below_setRow BQ.out (by omega) _
end Go.Proofs.Ytknemkekmahdmaa.aesC
