/-
  CMAC: Short of both; what alive and long do; '==' of arrays that are the same.
-/
import Derived.Test.YtknemkekmahdmaaCmF
import Derived.Test.YtknemkekmahdmaaCmK
namespace Go.Proofs.Ytknemkekmahdmaa.aesC
open Go.ChangeShapes Go.WideShapes Go.ChangeAt Go.RowKit
open Go.Proofs.Ytknemkekmahdmaa.memC Go.Proofs.Ytknemkekmahdmaa.genC Go.Proofs.Ytknemkekmahdmaa.aesM Go.Proofs.Ytknemkekmahdmaa.butC Go.Proofs.Ytknemkekmahdmaa.freeC Go.Proofs.Ytknemkekmahdmaa.partsC
set_option linter.unusedVariables false
/-- the short MAC -/
def shoL (k bs : List Nat) : List Nat := (macL k bs).take 12
theorem shoL_len (k bs : List Nat) : (shoL k bs).length = 12 := by unfold shoL; rw [List.length_take, macL_len]; decide
theorem b12_info : (Try.prog.info? 28).map (·.size) = some 12 := by kernel_rfl
theorem zero12 : ∀ w, (zeroValue 28).run Try.prog w = .ok (.agg (vec (zs 12))) w := zero_of (by kernel_rfl)
/-- a slice as a pointer to an array -/
theorem run_arrayAt {P : Program} {t e : TypeId} {n : Nat} (ht : P.underlying t = some (.array n e)) (A : Option Addr) (l c : Nat) (h : n ≤ l) (w : World) : (Instr.arrayAt t (.slice A l c)).run P w = .ok (.pointer A) w := by
  unfold Instr.arrayAt
  rw [Sem.run_bind, run_underlying ht w]
  simp [Nat.not_lt.2 h]
theorem take_cells {w : World} {T : TypeId} {g : Nat} {xs : List Nat} (h : Bl T w g xs) (n : Nat) (hn : n ≤ xs.length) (j : Nat) (v : Value) (hv : (vec (xs.take n))[j]? = some v) : w.cell? ⟨g, 0 + j, none⟩ = some v := by
  have hj : j < n := by
    have h1 := (Array.getElem?_eq_some_iff.1 hv).1
    rw [vec_size, List.length_take] at h1; omega
  rw [Nat.zero_add, h.cell (by omega), ← hv, vec_at (by rw [List.length_take]; omega), getD_take hj]
set_option maxRecDepth 100000 in
set_option maxHeartbeats 1000000 in
theorem cshort_any (P : Option Addr) (m c : Nat) (ps : List Part) (k : List Nat) (w : World) (hp : Parts w w.heap.size P ps) (hl : ps.length = m) (hm : m ≤ 100) (hk : k.length = 16) (yk : BY k) :
    Calls Try.prog 12 #[.agg (vec k), .slice P m c] w (Ret w (.agg (vec (shoL k (nats (catL ps)))))) := by
  obtain ⟨X, hX⟩ : ∃ X, X = vec k := ⟨_, rfl⟩
  obtain ⟨Z, hZ⟩ : ∃ Z, Z = vec (zs 16) := ⟨_, rfl⟩
  obtain ⟨Y, hY⟩ : ∃ Y, Y = vec (zs 12) := ⟨_, rfl⟩
  obtain ⟨D, hD⟩ : ∃ D, D = vec (macL k (nats (catL ps))) := ⟨_, rfl⟩
  obtain ⟨V, hV⟩ : ∃ V, V = vec (shoL k (nats (catL ps))) := ⟨_, rfl⟩
  have hzv := zero16
  rw [← hZ] at hzv
  have hyv := zero12
  rw [← hY] at hyv
  have UX := Lib.hid (show (Try.prog.info? 22).map (·.size) = some X.size by rw [hX]; exact vec_info hk)
  have UD := Lib.hid (show (Try.prog.info? 22).map (·.size) = some D.size by rw [hD]; exact vec_info (macL_len _ _))
  have ZD := Lib.hid (show Z.size = D.size by rw [hZ, hD, vec_size, vec_size, macL_len, zs_len])
  have OD := Lib.hid (show D.all (·.oneCell') = true by rw [hD]; exact vec_one _)
  have UV := Lib.hid (show (Try.prog.info? 28).map (·.size) = some V.size by rw [hV, b12_info, vec_size, shoL_len])
  have YV := Lib.hid (show Y.size = V.size by rw [hY, hV, vec_size, vec_size, shoL_len, zs_len])
  have OV := Lib.hid (show V.all (·.oneCell') = true by rw [hV]; exact vec_one _)
  have MC := Lib.hid (fun (w' : World) (B : Below w.heap.size w w') => (cof_any P m c ps k w' (hp.below B B.size) hl hm hk yk).mono fun e w'' h => (show e = .returned (.agg D) ∧ Below w'.heap.size w' w'' from ⟨by rw [hD]; exact h.1, h.2⟩))
  rw [← hX] at MC
  have HX := Lib.hid hX
  have HD := Lib.hid hD
  have HV := Lib.hid hV
  have e1 : (w.alloc (.cells X 22)).heap.size = w.heap.size + 1 := alloc_size _ _
  obtain ⟨W, hW⟩ : ∃ W, W = (w.alloc (.cells X 22)).alloc (.cells Y 28) := ⟨_, rfl⟩
  have R0 := Lib.hid (show W.heap[w.heap.size]? = some (.cells X 22 (0, 0)) by rw [hW, Below.block (alloc_below _ _) _ (by rw [e1]; omega)]; exact heap_alloc_new w _)
  have R1 := Lib.hid (show W.heap[w.heap.size + 1]? = some (.cells Y 28 (0, 0)) by rw [hW, ← e1]; exact heap_alloc_new _ _)
  have BW := Lib.hid (show Below w.heap.size w W by rw [hW]; exact ((Below.refl _ _).alloc (Nat.le_refl _) _).alloc (by simp) _)
  have EW := Lib.hid (show W.heap.size = w.heap.size + 1 + 1 by rw [hW, alloc_size, e1])
  rw [← hX, ← hV]
  clear hX hZ hY hD hV e1 hp hl hm hk yk
  go_enter Try.func12, Try.ntmps12
  go_upto_region 1 with fail
  rw [← hW]
  clear hW
  go_upto_region 2 with (first
    | (refine wpList_load_row rfl 22 (.tmp 2) rfl w.heap.size rfl _ _ _ _ R0.out Try.underlying22 rfl UX.out ?_)
    | (go_at_call 10; (with_reducible refine (MC.out _ BW.out).mono ?_); rintro e w1 ⟨rfl, B1⟩)
    | (refine wpList_store_row rfl 22 (.tmp 5) (.tmp 8) rfl w1.heap.size D rfl rfl _ _ (heap_alloc_new _ _) UD.out ZD.out OD.out ?_))
  rw [World.setRow_alloc_new]
  have D1 := Lib.hid (show Bl 22 (w1.alloc (.cells D 22)) w1.heap.size (macL k (nats (catL ps))) by rw [HD.out]; exact Bl.new _ _ _)
  have HR1 := Lib.hid (show (w1.alloc (.cells D 22)).heap[w.heap.size + 1]? = some (.cells Y 28 (0, 0)) by
    have h1 := EW.out
    have h2 := B1.size
    rw [(alloc_below w1 _).block _ (by omega), B1.block _ (by omega)]; exact R1.out)
  have HB1 := Lib.hid ((BW.out.trans (B1.mono BW.out.size)).alloc (BW.out.trans (B1.mono BW.out.size)).size (.cells D 22))
  generalize w1.alloc (.cells D 22) = w2 at *
  generalize w1.heap.size = g at *
  have CL := Lib.hid (show ∀ j v, V[j]? = some v → w2.cell? ⟨g, 0 + j, none⟩ = some v from fun j v hv => take_cells D1.out 12 (by rw [macL_len]; decide) j v (by rw [HV.out] at hv; exact hv))
  clear B1 hzv hyv D1 R0 R1
  have hat := run_arrayAt (P := Try.prog) (t := 28) Try.underlying28 (some ⟨g, 0, none⟩) 12 16 (by decide) w2
  go_wp2_with (first
    | (refine wpList_load_piece rfl 28 (.tmp 10) rfl g 0 rfl V _ CL.out Try.underlying28 rfl UV.out ?_)
    | (refine wpList_store_row rfl 28 (.tmp 4) (.tmp 11) rfl (w.heap.size + 1) _ rfl rfl _ _ HR1.out UV.out YV.out OV.out ?_))
  refine bodyPost_ret (v := .agg V) (results_cell_row Try.results12 _ _ (w.heap.size + 1) _ _ _ _ (by rfl) (setRow_heap _ _ _ _ _ _ HR1.out) Try.underlying28 rfl UV.out) rfl ⟨rfl, ?_⟩
  exact below_setRow HB1.out (by omega) _
/-- while the document's short one is made -/
structure SH (w : World) (g : Nat) (d : List Nat) (j : Nat) (wr : World) : Prop where
  out : Bl 28 wr (w.heap.size + 1) (zs 12)
  rd : Bl 22 wr g d
  ro : Bl 28 wr (g + 1) (mixP (d.take 12) (zs 12) j)
  bel : Below w.heap.size w wr
  lt : w.heap.size + 1 < g
theorem SH.step {w wr : World} {g : Nat} {d : List Nat} {j : Nat} (h : SH w g d j wr) (hd : d.length = 16) (hj : j < 12) : SH w g d (j + 1) (wr.setCell ⟨g + 1, j, none⟩ (.int .u8 ((d.getD j 0 : Nat) : Int))) := by
  have hl := h.lt
  have ht : (d.take 12).length = (zs 12).length := by rw [List.length_take, hd, zs_len]; decide
  have hs := h.ro.stored j (d.getD j 0)
  rw [← getD_take (a := d) (n := 12) hj, mixP_set ht (by rw [zs_len]; exact hj), getD_take hj] at hs
  exact ⟨h.out.other (by show g + 1 ≠ w.heap.size + 1; omega) _, h.rd.other (by show g + 1 ≠ g; omega) _, hs, h.bel.setCell (p := ⟨g + 1, j, none⟩) (by show w.heap.size ≤ g + 1; omega) _, hl⟩
set_option maxRecDepth 100000 in
set_option maxHeartbeats 1000000 in
theorem rshort_any (A : Option Addr) (n c : Nat) (bs : List Int) (k : List Nat) (w : World) (hb : Nums .u8 w w.heap.size A n bs) (hy : ∀ x ∈ bs, Byte x) (hn : n ≤ 10000) (hk : k.length = 16) (yk : BY k) :
    Calls Try.prog 13 #[.agg (vec k), .slice A n c] w (Ret w (.agg (vec (shoL k (nats bs))))) := by
  obtain ⟨X, hX⟩ : ∃ X, X = vec k := ⟨_, rfl⟩
  obtain ⟨Z, hZ⟩ : ∃ Z, Z = vec (zs 16) := ⟨_, rfl⟩
  obtain ⟨Y, hY⟩ : ∃ Y, Y = vec (zs 12) := ⟨_, rfl⟩
  obtain ⟨d, hd⟩ : ∃ d, d = macL k (nats bs) := ⟨_, rfl⟩
  have hdl : d.length = 16 := by rw [hd]; exact macL_len _ _
  obtain ⟨D, hD⟩ : ∃ D, D = vec d := ⟨_, rfl⟩
  obtain ⟨V, hV⟩ : ∃ V, V = vec (shoL k (nats bs)) := ⟨_, rfl⟩
  have hzv := zero16
  rw [← hZ] at hzv
  have hyv := zero12
  rw [← hY] at hyv
  have UX := Lib.hid (show (Try.prog.info? 22).map (·.size) = some X.size by rw [hX]; exact vec_info hk)
  have UD := Lib.hid (show (Try.prog.info? 22).map (·.size) = some D.size by rw [hD]; exact vec_info hdl)
  have ZD := Lib.hid (show Z.size = D.size by rw [hZ, hD, vec_size, vec_size, hdl, zs_len])
  have OD := Lib.hid (show D.all (·.oneCell') = true by rw [hD]; exact vec_one _)
  have UV := Lib.hid (show (Try.prog.info? 28).map (·.size) = some V.size by rw [hV, b12_info, vec_size, shoL_len])
  have YV := Lib.hid (show (vec (zs 12)).size = V.size by rw [hV, vec_size, vec_size, shoL_len, zs_len])
  have OV := Lib.hid (show V.all (·.oneCell') = true by rw [hV]; exact vec_one _)
  have MC := Lib.hid (fun (w' : World) (B : Below w.heap.size w w') => (rof_any A n c bs k w' ((hb.below B).more B.size) hy hn hk yk).mono fun e w'' h => (show e = .returned (.agg D) ∧ Below w'.heap.size w' w'' from ⟨by rw [hD, hd]; exact h.1, h.2⟩))
  rw [← hX] at MC
  have HX := Lib.hid hX
  have HD := Lib.hid hD
  have Hd := Lib.hid hd
  have HDL := Lib.hid hdl
  have HV := Lib.hid hV
  have HY := Lib.hid hY
  have e1 : (w.alloc (.cells X 22)).heap.size = w.heap.size + 1 := alloc_size _ _
  obtain ⟨W, hW⟩ : ∃ W, W = (w.alloc (.cells X 22)).alloc (.cells Y 28) := ⟨_, rfl⟩
  have R0 := Lib.hid (show W.heap[w.heap.size]? = some (.cells X 22 (0, 0)) by rw [hW, Below.block (alloc_below _ _) _ (by rw [e1]; omega)]; exact heap_alloc_new w _)
  have R1 := Lib.hid (show Bl 28 W (w.heap.size + 1) (zs 12) by rw [hW, hY, ← e1]; exact Bl.new _ _ _)
  have BW := Lib.hid (show Below w.heap.size w W by rw [hW]; exact ((Below.refl _ _).alloc (Nat.le_refl _) _).alloc (by simp) _)
  have EW := Lib.hid (show W.heap.size = w.heap.size + 1 + 1 by rw [hW, alloc_size, e1])
  rw [← hX, ← hV]
  clear hX hZ hY hD hV hd hdl e1 hb hy hn hk yk
  go_enter Try.func13, Try.ntmps13
  go_upto_region 1 with fail
  rw [← hW]
  clear hW
  go_upto_region 2 with (first
    | (refine wpList_load_row rfl 22 (.tmp 2) rfl w.heap.size rfl _ _ _ _ R0.out Try.underlying22 rfl UX.out ?_)
    | (go_at_call 11; (with_reducible refine (MC.out _ BW.out).mono ?_); rintro e w1 ⟨rfl, B1⟩)
    | (refine wpList_store_row rfl 22 (.tmp 5) (.tmp 10) rfl w1.heap.size D rfl rfl _ _ (heap_alloc_new _ _) UD.out ZD.out OD.out ?_))
  rw [World.setRow_alloc_new]
  have D1 := Lib.hid (show Bl 22 (w1.alloc (.cells D 22)) w1.heap.size d by rw [HD.out]; exact Bl.new _ _ _)
  have HR1 := Lib.hid ((R1.out.below B1 R1.out.lt).alloc (.cells D 22))
  have HB1 := Lib.hid ((BW.out.trans (B1.mono BW.out.size)).alloc (BW.out.trans (B1.mono BW.out.size)).size (.cells D 22))
  have lt1 := Lib.hid (show w.heap.size + 1 < w1.heap.size by have := B1.size; have := EW.out; omega)
  have S1 := Lib.hid (alloc_size w1 (.cells D 22))
  generalize w1.alloc (.cells D 22) = w2 at *
  generalize w1.heap.size = g at *
  clear B1 hzv R0 R1
  go_upto_region 3 with fail
  have K0 : SH w g d 0 (w2.alloc (.cells Y 28)) := by
    refine ⟨HR1.out.alloc _, D1.out.alloc _, ?_, HB1.out.alloc HB1.out.size _, lt1.out⟩
    have := Bl.new w2 28 (zs 12)
    rw [S1.out, ← HY.out] at this; rw [mixP_zero]; exact this
  have e2 : w2.heap.size = g + 1 := S1.out
  rw [e2]
  generalize w2.alloc (.cells Y 28) = w3 at *
  have HK0 := Lib.hid K0
  clear K0 e2 hyv
  go_wp2_with fail
  go_loopw [7] (fun i wr => ∃ j : Nat, j ≤ 12 ∧ i = .int .i64 j ∧ SH w g d j wr) (fun i _ => 12 - (intOf i).toNat)
  case atStart => exact ⟨0, by omega, rfl, HK0.out⟩
  case round =>
    obtain ⟨j, hj, rfl, KK⟩ := hrel
    have HK := Lib.hid KK
    have ht := Lib.hid (show (d.take 12).length = (zs 12).length by rw [List.length_take, HDL.out, zs_len]; decide)
    by_cases hlt : j < 12
    · have cd := KK.rd.cell (j := j) (by rw [HDL.out]; omega)
      have cw := KK.ro.cell (j := j) (by rw [mixP_len ht.out, zs_len]; exact hlt)
      have fw := KK.ro.frozen j
      have hjz : (j : Int) < 12 := by omega
      have hjz2 : (j : Int) < 16 := by omega
      have HS := Lib.hid (KK.step HDL.out hlt)
      generalize d.getD j 0 = y at *
      generalize (mixP (d.take 12) (zs 12) j).getD j 0 = x at *
      clear KK
      go_wp2_with fail
      go_roundw
      case rel => exact ⟨j + 1, by omega, by go_num, HS.out⟩
      case measure => simp [intOf]; omega
    · have e : j = 12 := by omega
      subst e
      have hF : mixP (d.take 12) (zs 12) 12 = shoL k (nats bs) := by have h := mixP_full ht.out; rw [zs_len] at h; rw [h, Hd.out]; rfl
      have r1 := KK.ro
      rw [hF] at r1
      have G1 := Lib.hid (HV.out ▸ r1.row : wr.heap[g + 1]? = some (.cells V 28 (0, 0)))
      have G2 := Lib.hid KK.out.row
      have BQ := Lib.hid KK.bel
      clear hF r1 HK KK
      go_wp2_with (first
        | (refine wpList_load_row rfl 28 (.tmp 6) rfl (g + 1) rfl _ _ _ _ G1.out Try.underlying28 rfl UV.out ?_)
        | (refine wpList_store_row rfl 28 (.tmp 4) (.tmp 20) rfl (w.heap.size + 1) _ rfl rfl _ _ G2.out UV.out YV.out OV.out ?_))
      refine bodyPost_ret (v := .agg V) (results_cell_row Try.results13 _ _ (w.heap.size + 1) _ _ _ _ (by rfl) (setRow_heap _ _ _ _ _ _ G2.out) Try.underlying28 rfl UV.out) rfl ⟨rfl, ?_⟩
      exact below_setRow BQ.out (by omega) _
end Go.Proofs.Ytknemkekmahdmaa.aesC
