/-
  4 texts of a proof, joined.
-/
import Derived.Test.YthbgjjfhgbkbdaaMg19
import Derived.Test.YthbgjjfhgbkbdaaMg18
import Derived.Test.YthbgjjfhgbkbdaaMg14
import Derived.Test.YthbgjjfhgbkbdaaMg2
import Derived.ProofKit
import Derived.Outline
import Derived.Deep.QuietTactic
import Derived.BigQuiet
import Derived.Lib.Hide
import Derived.IntWalk

/-
  CMAC: Short of both; what alive and long do; '==' of arrays that are the same.
-/
namespace Go.Proofs.Ythbgjjfhgbkbdaa.aesC
open Go.ChangeShapes Go.WideShapes Go.ChangeAt Go.RowKit
open Go.Proofs.Ythbgjjfhgbkbdaa.memC Go.Proofs.Ythbgjjfhgbkbdaa.genC Go.Proofs.Ythbgjjfhgbkbdaa.aesM Go.Proofs.Ythbgjjfhgbkbdaa.butC Go.Proofs.Ythbgjjfhgbkbdaa.freeC Go.Proofs.Ythbgjjfhgbkbdaa.partsC
set_option linter.unusedVariables false
/-- the short MAC -/
def shoL (k bs : List Nat) : List Nat := (macL k bs).take 12
theorem shoL_len (k bs : List Nat) : (shoL k bs).length = 12 := by unfold shoL; rw [List.length_take, macL_len]; decide
theorem b12_info : (Try.prog.info? 44).map (·.size) = some 12 := by kernel_rfl
theorem zero12 : ∀ w, (zeroValue 44).run Try.prog w = .ok (.agg (vec (zs 12))) w := zero_of (by kernel_rfl)
/-- a slice as a pointer to an array -/
theorem run_arrayAt {P : Program} {t e : TypeId} {n : Nat} (ht : P.underlying t = some (.array n e)) (A : Option Addr) (l c : Nat) (h : n ≤ l) (w : World) : (Instr.arrayAt t (.slice A l c)).run P w = .ok (.pointer A) w := by
  unfold Instr.arrayAt
  rw [Sem.run_bind, run_underlying ht w]
  simp [Nat.not_lt.2 h]
theorem take_cells {w : World} {T : TypeId} {g : Nat} {xs : List Nat} (h : Bl T w g xs) (n : Nat) (hn : n ≤ xs.length) (j : Nat) (v : Value) (hv : (vec (xs.take n))[j]? = some v) : w.cell? ⟨g, 0 + j, none⟩ = some v := by
  have hj : j < n := by
    have h1 := (Array.getElem?_eq_some_iff.1 hv).1
    rw [vec_size, List.length_take] at h1; omega
  rw [Nat.zero_add, h.cell (by omega), ← hv, vec_at (by rw [List.length_take]; omega), getD_take hj]
set_option maxRecDepth 100000 in
set_option maxHeartbeats 1000000 in
theorem cshort_any (P : Option Addr) (m c : Nat) (ps : List Part) (k : List Nat) (w : World) (hp : Parts w w.heap.size P ps) (hl : ps.length = m) (hm : m ≤ 100) (hk : k.length = 16) (yk : BY k) :
    Calls Try.prog 31 #[.agg (vec k), .slice P m c] w (Ret w (.agg (vec (shoL k (nats (catL ps)))))) := by
  obtain ⟨X, hX⟩ : ∃ X, X = vec k := ⟨_, rfl⟩
  obtain ⟨Z, hZ⟩ : ∃ Z, Z = vec (zs 16) := ⟨_, rfl⟩
  obtain ⟨Y, hY⟩ : ∃ Y, Y = vec (zs 12) := ⟨_, rfl⟩
  obtain ⟨D, hD⟩ : ∃ D, D = vec (macL k (nats (catL ps))) := ⟨_, rfl⟩
  obtain ⟨V, hV⟩ : ∃ V, V = vec (shoL k (nats (catL ps))) := ⟨_, rfl⟩
  have hzv := zero16
  rw [← hZ] at hzv
  have hyv := zero12
  rw [← hY] at hyv
  have UX := Lib.hid (show (Try.prog.info? 32).map (·.size) = some X.size by rw [hX]; exact vec_info hk)
  have UD := Lib.hid (show (Try.prog.info? 32).map (·.size) = some D.size by rw [hD]; exact vec_info (macL_len _ _))
  have ZD := Lib.hid (show Z.size = D.size by rw [hZ, hD, vec_size, vec_size, macL_len, zs_len])
  have OD := Lib.hid (show D.all (·.oneCell') = true by rw [hD]; exact vec_one _)
  have UV := Lib.hid (show (Try.prog.info? 44).map (·.size) = some V.size by rw [hV, b12_info, vec_size, shoL_len])
  have YV := Lib.hid (show Y.size = V.size by rw [hY, hV, vec_size, vec_size, shoL_len, zs_len])
  have OV := Lib.hid (show V.all (·.oneCell') = true by rw [hV]; exact vec_one _)
  have MC := Lib.hid (fun (w' : World) (B : Below w.heap.size w w') => (cof_any P m c ps k w' (hp.below B B.size) hl hm hk yk).mono fun e w'' h => (show e = .returned (.agg D) ∧ Below w'.heap.size w' w'' from ⟨by rw [hD]; exact h.1, h.2⟩))
  rw [← hX] at MC
  have HX := Lib.hid hX
  have HD := Lib.hid hD
  have HV := Lib.hid hV
  have e1 : (w.alloc (.cells X 32)).heap.size = w.heap.size + 1 := alloc_size _ _
  obtain ⟨W, hW⟩ : ∃ W, W = (w.alloc (.cells X 32)).alloc (.cells Y 44) := ⟨_, rfl⟩
  have R0 := Lib.hid (show W.heap[w.heap.size]? = some (.cells X 32 (0, 0)) by rw [hW, Below.block (alloc_below _ _) _ (by rw [e1]; omega)]; exact heap_alloc_new w _)
  have R1 := Lib.hid (show W.heap[w.heap.size + 1]? = some (.cells Y 44 (0, 0)) by rw [hW, ← e1]; exact heap_alloc_new _ _)
  have BW := Lib.hid (show Below w.heap.size w W by rw [hW]; exact ((Below.refl _ _).alloc (Nat.le_refl _) _).alloc (by simp) _)
  have EW := Lib.hid (show W.heap.size = w.heap.size + 1 + 1 by rw [hW, alloc_size, e1])
  rw [← hX, ← hV]
  clear hX hZ hY hD hV e1 hp hl hm hk yk
  go_enter Try.func31, Try.ntmps31
  go_upto_region 1 with fail
  rw [← hW]
  clear hW
  go_upto_region 2 with (first
    | (refine wpList_load_row rfl 32 (.tmp 2) rfl w.heap.size rfl _ _ _ _ R0.out Try.underlying32 rfl UX.out ?_)
    | (go_at_call 22; (with_reducible refine (MC.out _ BW.out).mono ?_); rintro e w1 ⟨rfl, B1⟩)
    | (refine wpList_store_row rfl 32 (.tmp 5) (.tmp 8) rfl w1.heap.size D rfl rfl _ _ (heap_alloc_new _ _) UD.out ZD.out OD.out ?_))
  rw [World.setRow_alloc_new]
  have D1 := Lib.hid (show Bl 32 (w1.alloc (.cells D 32)) w1.heap.size (macL k (nats (catL ps))) by rw [HD.out]; exact Bl.new _ _ _)
  have HR1 := Lib.hid (show (w1.alloc (.cells D 32)).heap[w.heap.size + 1]? = some (.cells Y 44 (0, 0)) by
    have h1 := EW.out
    have h2 := B1.size
    rw [(alloc_below w1 _).block _ (by omega), B1.block _ (by omega)]; exact R1.out)
  have HB1 := Lib.hid ((BW.out.trans (B1.mono BW.out.size)).alloc (BW.out.trans (B1.mono BW.out.size)).size (.cells D 32))
  generalize w1.alloc (.cells D 32) = w2 at *
  generalize w1.heap.size = g at *
  have CL := Lib.hid (show ∀ j v, V[j]? = some v → w2.cell? ⟨g, 0 + j, none⟩ = some v from fun j v hv => take_cells D1.out 12 (by rw [macL_len]; decide) j v (by rw [HV.out] at hv; exact hv))
  clear B1 hzv hyv D1 R0 R1
  have hat := run_arrayAt (P := Try.prog) (t := 44) Try.underlying44 (some ⟨g, 0, none⟩) 12 16 (by decide) w2
  go_wp2_with (first
    | (refine wpList_load_piece rfl 44 (.tmp 10) rfl g 0 rfl V _ CL.out Try.underlying44 rfl UV.out ?_)
    | (refine wpList_store_row rfl 44 (.tmp 4) (.tmp 11) rfl (w.heap.size + 1) _ rfl rfl _ _ HR1.out UV.out YV.out OV.out ?_))
  refine bodyPost_ret (v := .agg V) (results_cell_row Try.results31 _ _ (w.heap.size + 1) _ _ _ _ (by rfl) (setRow_heap _ _ _ _ _ _ HR1.out) Try.underlying44 rfl UV.out) rfl ⟨rfl, ?_⟩
  exact below_setRow HB1.out (by omega) _
/-- while the document's short one is made -/
structure SH (w : World) (g : Nat) (d : List Nat) (j : Nat) (wr : World) : Prop where
  out : Bl 44 wr (w.heap.size + 1) (zs 12)
  rd : Bl 32 wr g d
  ro : Bl 44 wr (g + 1) (mixP (d.take 12) (zs 12) j)
  bel : Below w.heap.size w wr
  lt : w.heap.size + 1 < g
theorem SH.step {w wr : World} {g : Nat} {d : List Nat} {j : Nat} (h : SH w g d j wr) (hd : d.length = 16) (hj : j < 12) : SH w g d (j + 1) (wr.setCell ⟨g + 1, j, none⟩ (.int .u8 ((d.getD j 0 : Nat) : Int))) := by
  have hl := h.lt
  have ht : (d.take 12).length = (zs 12).length := by rw [List.length_take, hd, zs_len]; decide
  have hs := h.ro.stored j (d.getD j 0)
  rw [← getD_take (a := d) (n := 12) hj, mixP_set ht (by rw [zs_len]; exact hj), getD_take hj] at hs
  exact ⟨h.out.other (by show g + 1 ≠ w.heap.size + 1; omega) _, h.rd.other (by show g + 1 ≠ g; omega) _, hs, h.bel.setCell (p := ⟨g + 1, j, none⟩) (by show w.heap.size ≤ g + 1; omega) _, hl⟩
set_option maxRecDepth 100000 in
set_option maxHeartbeats 1000000 in
theorem rshort_any (A : Option Addr) (n c : Nat) (bs : List Int) (k : List Nat) (w : World) (hb : Nums .u8 w w.heap.size A n bs) (hy : ∀ x ∈ bs, Byte x) (hn : n ≤ 10000) (hk : k.length = 16) (yk : BY k) :
    Calls Try.prog 33 #[.agg (vec k), .slice A n c] w (Ret w (.agg (vec (shoL k (nats bs))))) := by
  obtain ⟨X, hX⟩ : ∃ X, X = vec k := ⟨_, rfl⟩
  obtain ⟨Z, hZ⟩ : ∃ Z, Z = vec (zs 16) := ⟨_, rfl⟩
  obtain ⟨Y, hY⟩ : ∃ Y, Y = vec (zs 12) := ⟨_, rfl⟩
  obtain ⟨d, hd⟩ : ∃ d, d = macL k (nats bs) := ⟨_, rfl⟩
  have hdl : d.length = 16 := by rw [hd]; exact macL_len _ _
  obtain ⟨D, hD⟩ : ∃ D, D = vec d := ⟨_, rfl⟩
  obtain ⟨V, hV⟩ : ∃ V, V = vec (shoL k (nats bs)) := ⟨_, rfl⟩
  have hzv := zero16
  rw [← hZ] at hzv
  have hyv := zero12
  rw [← hY] at hyv
  have UX := Lib.hid (show (Try.prog.info? 32).map (·.size) = some X.size by rw [hX]; exact vec_info hk)
  have UD := Lib.hid (show (Try.prog.info? 32).map (·.size) = some D.size by rw [hD]; exact vec_info hdl)
  have ZD := Lib.hid (show Z.size = D.size by rw [hZ, hD, vec_size, vec_size, hdl, zs_len])
  have OD := Lib.hid (show D.all (·.oneCell') = true by rw [hD]; exact vec_one _)
  have UV := Lib.hid (show (Try.prog.info? 44).map (·.size) = some V.size by rw [hV, b12_info, vec_size, shoL_len])
  have YV := Lib.hid (show (vec (zs 12)).size = V.size by rw [hV, vec_size, vec_size, shoL_len, zs_len])
  have OV := Lib.hid (show V.all (·.oneCell') = true by rw [hV]; exact vec_one _)
  have MC := Lib.hid (fun (w' : World) (B : Below w.heap.size w w') => (rof_any A n c bs k w' ((hb.below B).more B.size) hy hn hk yk).mono fun e w'' h => (show e = .returned (.agg D) ∧ Below w'.heap.size w' w'' from ⟨by rw [hD, hd]; exact h.1, h.2⟩))
  rw [← hX] at MC
  have HX := Lib.hid hX
  have HD := Lib.hid hD
  have Hd := Lib.hid hd
  have HDL := Lib.hid hdl
  have HV := Lib.hid hV
  have HY := Lib.hid hY
  have e1 : (w.alloc (.cells X 32)).heap.size = w.heap.size + 1 := alloc_size _ _
  obtain ⟨W, hW⟩ : ∃ W, W = (w.alloc (.cells X 32)).alloc (.cells Y 44) := ⟨_, rfl⟩
  have R0 := Lib.hid (show W.heap[w.heap.size]? = some (.cells X 32 (0, 0)) by rw [hW, Below.block (alloc_below _ _) _ (by rw [e1]; omega)]; exact heap_alloc_new w _)
  have R1 := Lib.hid (show Bl 44 W (w.heap.size + 1) (zs 12) by rw [hW, hY, ← e1]; exact Bl.new _ _ _)
  have BW := Lib.hid (show Below w.heap.size w W by rw [hW]; exact ((Below.refl _ _).alloc (Nat.le_refl _) _).alloc (by simp) _)
  have EW := Lib.hid (show W.heap.size = w.heap.size + 1 + 1 by rw [hW, alloc_size, e1])
  rw [← hX, ← hV]
  clear hX hZ hY hD hV hd hdl e1 hb hy hn hk yk
  go_enter Try.func33, Try.ntmps33
  go_upto_region 1 with fail
  rw [← hW]
  clear hW
  go_upto_region 2 with (first
    | (refine wpList_load_row rfl 32 (.tmp 2) rfl w.heap.size rfl _ _ _ _ R0.out Try.underlying32 rfl UX.out ?_)
    | (go_at_call 27; (with_reducible refine (MC.out _ BW.out).mono ?_); rintro e w1 ⟨rfl, B1⟩)
    | (refine wpList_store_row rfl 32 (.tmp 5) (.tmp 10) rfl w1.heap.size D rfl rfl _ _ (heap_alloc_new _ _) UD.out ZD.out OD.out ?_))
  rw [World.setRow_alloc_new]
  have D1 := Lib.hid (show Bl 32 (w1.alloc (.cells D 32)) w1.heap.size d by rw [HD.out]; exact Bl.new _ _ _)
  have HR1 := Lib.hid ((R1.out.below B1 R1.out.lt).alloc (.cells D 32))
  have HB1 := Lib.hid ((BW.out.trans (B1.mono BW.out.size)).alloc (BW.out.trans (B1.mono BW.out.size)).size (.cells D 32))
  have lt1 := Lib.hid (show w.heap.size + 1 < w1.heap.size by have := B1.size; have := EW.out; omega)
  have S1 := Lib.hid (alloc_size w1 (.cells D 32))
  generalize w1.alloc (.cells D 32) = w2 at *
  generalize w1.heap.size = g at *
  clear B1 hzv R0 R1
  go_upto_region 3 with fail
  have K0 : SH w g d 0 (w2.alloc (.cells Y 44)) := by
    refine ⟨HR1.out.alloc _, D1.out.alloc _, ?_, HB1.out.alloc HB1.out.size _, lt1.out⟩
    have := Bl.new w2 44 (zs 12)
    rw [S1.out, ← HY.out] at this; rw [mixP_zero]; exact this
  have e2 : w2.heap.size = g + 1 := S1.out
  rw [e2]
  generalize w2.alloc (.cells Y 44) = w3 at *
  have HK0 := Lib.hid K0
  clear K0 e2 hyv
  go_wp2_with fail
  go_loopw [7] (fun i wr => ∃ j : Nat, j ≤ 12 ∧ i = .int .i64 j ∧ SH w g d j wr) (fun i _ => 12 - (intOf i).toNat)
  case atStart => exact ⟨0, by omega, rfl, HK0.out⟩
  case round =>
    obtain ⟨j, hj, rfl, KK⟩ := hrel
    have HK := Lib.hid KK
    have ht := Lib.hid (show (d.take 12).length = (zs 12).length by rw [List.length_take, HDL.out, zs_len]; decide)
    by_cases hlt : j < 12
    · have cd := KK.rd.cell (j := j) (by rw [HDL.out]; omega)
      have cw := KK.ro.cell (j := j) (by rw [mixP_len ht.out, zs_len]; exact hlt)
      have fw := KK.ro.frozen j
      have hjz : (j : Int) < 12 := by omega
      have hjz2 : (j : Int) < 16 := by omega
      have HS := Lib.hid (KK.step HDL.out hlt)
      generalize d.getD j 0 = y at *
      generalize (mixP (d.take 12) (zs 12) j).getD j 0 = x at *
      clear KK
      go_wp2_with fail
      go_roundw
      case rel => exact ⟨j + 1, by omega, by go_num, HS.out⟩
      case measure => simp [intOf]; omega
    · have e : j = 12 := by omega
      subst e
      have hF : mixP (d.take 12) (zs 12) 12 = shoL k (nats bs) := by have h := mixP_full ht.out; rw [zs_len] at h; rw [h, Hd.out]; rfl
      have r1 := KK.ro
      rw [hF] at r1
      have G1 := Lib.hid (HV.out ▸ r1.row : wr.heap[g + 1]? = some (.cells V 44 (0, 0)))
      have G2 := Lib.hid KK.out.row
      have BQ := Lib.hid KK.bel
      clear hF r1 HK KK
      go_wp2_with (first
        | (refine wpList_load_row rfl 44 (.tmp 6) rfl (g + 1) rfl _ _ _ _ G1.out Try.underlying44 rfl UV.out ?_)
        | (refine wpList_store_row rfl 44 (.tmp 4) (.tmp 20) rfl (w.heap.size + 1) _ rfl rfl _ _ G2.out UV.out YV.out OV.out ?_))
      refine bodyPost_ret (v := .agg V) (results_cell_row Try.results33 _ _ (w.heap.size + 1) _ _ _ _ (by rfl) (setRow_heap _ _ _ _ _ _ G2.out) Try.underlying44 rfl UV.out) rfl ⟨rfl, ?_⟩
      exact below_setRow BQ.out (by omega) _
end Go.Proofs.Ythbgjjfhgbkbdaa.aesC

/-
  CMAC: a traffic key that is known, and a MAC by it.
-/
namespace Go.Proofs.Ythbgjjfhgbkbdaa.aesC
open Go.Proofs.Ythbgjjfhgbkbdaa.genC Go.Proofs.Ythbgjjfhgbkbdaa.aesM
set_option linter.unusedVariables false
set_option maxRecDepth 10000
def keyZ : List Nat := [0, 0, 0, 0, 0, 0, 0, 0, 0, 0, 0, 0, 0, 0, 0, 0]
def inZ : List Nat := [1, 84, 67, 80, 45, 65, 79, 0, 128]
def keyT : List Nat := [33, 226, 40, 9, 64, 142, 150, 171, 250, 45, 191, 130, 185, 74, 146, 143]
def macT : List Nat := [184, 121, 104, 86, 199, 122, 206, 228, 164, 92, 81, 87, 148, 55, 201, 16]
def yblk : List Nat := [154, 241, 108, 3, 147, 105, 255, 238, 161, 179, 233, 103, 40, 208, 172, 63]
theorem ynk0 : nxt [0, 0, 0, 0, 0, 0, 0, 0, 0, 0, 0, 0, 0, 0, 0, 0] 1 = [98, 99, 99, 99, 98, 99, 99, 99, 98, 99, 99, 99, 98, 99, 99, 99] := by decide +kernel
theorem ynk1 : nxt [98, 99, 99, 99, 98, 99, 99, 99, 98, 99, 99, 99, 98, 99, 99, 99] 2 = [155, 152, 152, 201, 249, 251, 251, 170, 155, 152, 152, 201, 249, 251, 251, 170] := by decide +kernel
theorem ynk2 : nxt [155, 152, 152, 201, 249, 251, 251, 170, 155, 152, 152, 201, 249, 251, 251, 170] 4 = [144, 151, 52, 80, 105, 108, 207, 250, 242, 244, 87, 51, 11, 15, 172, 153] := by decide +kernel
theorem ynk3 : nxt [144, 151, 52, 80, 105, 108, 207, 250, 242, 244, 87, 51, 11, 15, 172, 153] 8 = [238, 6, 218, 123, 135, 106, 21, 129, 117, 158, 66, 178, 126, 145, 238, 43] := by decide +kernel
theorem ynk4 : nxt [238, 6, 218, 123, 135, 106, 21, 129, 117, 158, 66, 178, 126, 145, 238, 43] 16 = [127, 46, 43, 136, 248, 68, 62, 9, 141, 218, 124, 187, 243, 75, 146, 144] := by decide +kernel
theorem ynk5 : nxt [127, 46, 43, 136, 248, 68, 62, 9, 141, 218, 124, 187, 243, 75, 146, 144] 32 = [236, 97, 75, 133, 20, 37, 117, 140, 153, 255, 9, 55, 106, 180, 155, 167] := by decide +kernel
theorem ynk6 : nxt [236, 97, 75, 133, 20, 37, 117, 140, 153, 255, 9, 55, 106, 180, 155, 167] 64 = [33, 117, 23, 135, 53, 80, 98, 11, 172, 175, 107, 60, 198, 27, 240, 155] := by decide +kernel
theorem ynk7 : nxt [33, 117, 23, 135, 53, 80, 98, 11, 172, 175, 107, 60, 198, 27, 240, 155] 128 = [14, 249, 3, 51, 59, 169, 97, 56, 151, 6, 10, 4, 81, 29, 250, 159] := by decide +kernel
theorem ynk8 : nxt [14, 249, 3, 51, 59, 169, 97, 56, 151, 6, 10, 4, 81, 29, 250, 159] 27 = [177, 212, 216, 226, 138, 125, 185, 218, 29, 123, 179, 222, 76, 102, 73, 65] := by decide +kernel
theorem ynk9 : nxt [177, 212, 216, 226, 138, 125, 185, 218, 29, 123, 179, 222, 76, 102, 73, 65] 54 = [180, 239, 91, 203, 62, 146, 226, 17, 35, 233, 81, 207, 111, 143, 24, 142] := by decide +kernel
theorem yrkk1 : rk keyZ 1 = [98, 99, 99, 99, 98, 99, 99, 99, 98, 99, 99, 99, 98, 99, 99, 99] := by
  show nxt (rk keyZ 0) (rc 0) = _
  rw [show rk keyZ 0 = [0, 0, 0, 0, 0, 0, 0, 0, 0, 0, 0, 0, 0, 0, 0, 0] from rfl, show rc 0 = 1 by decide]; exact ynk0
theorem yrkk2 : rk keyZ 2 = [155, 152, 152, 201, 249, 251, 251, 170, 155, 152, 152, 201, 249, 251, 251, 170] := by
  show nxt (rk keyZ 1) (rc 1) = _
  rw [yrkk1, show rc 1 = 2 by decide]; exact ynk1
theorem yrkk3 : rk keyZ 3 = [144, 151, 52, 80, 105, 108, 207, 250, 242, 244, 87, 51, 11, 15, 172, 153] := by
  show nxt (rk keyZ 2) (rc 2) = _
  rw [yrkk2, show rc 2 = 4 by decide]; exact ynk2
theorem yrkk4 : rk keyZ 4 = [238, 6, 218, 123, 135, 106, 21, 129, 117, 158, 66, 178, 126, 145, 238, 43] := by
  show nxt (rk keyZ 3) (rc 3) = _
  rw [yrkk3, show rc 3 = 8 by decide]; exact ynk3
theorem yrkk5 : rk keyZ 5 = [127, 46, 43, 136, 248, 68, 62, 9, 141, 218, 124, 187, 243, 75, 146, 144] := by
  show nxt (rk keyZ 4) (rc 4) = _
  rw [yrkk4, show rc 4 = 16 by decide]; exact ynk4
theorem yrkk6 : rk keyZ 6 = [236, 97, 75, 133, 20, 37, 117, 140, 153, 255, 9, 55, 106, 180, 155, 167] := by
  show nxt (rk keyZ 5) (rc 5) = _
  rw [yrkk5, show rc 5 = 32 by decide]; exact ynk5
theorem yrkk7 : rk keyZ 7 = [33, 117, 23, 135, 53, 80, 98, 11, 172, 175, 107, 60, 198, 27, 240, 155] := by
  show nxt (rk keyZ 6) (rc 6) = _
  rw [yrkk6, show rc 6 = 64 by decide]; exact ynk6
theorem yrkk8 : rk keyZ 8 = [14, 249, 3, 51, 59, 169, 97, 56, 151, 6, 10, 4, 81, 29, 250, 159] := by
  show nxt (rk keyZ 7) (rc 7) = _
  rw [yrkk7, show rc 7 = 128 by decide]; exact ynk7
theorem yrkk9 : rk keyZ 9 = [177, 212, 216, 226, 138, 125, 185, 218, 29, 123, 179, 222, 76, 102, 73, 65] := by
  show nxt (rk keyZ 8) (rc 8) = _
  rw [yrkk8, show rc 8 = 27 by decide]; exact ynk8
theorem yrkk10 : rk keyZ 10 = [180, 239, 91, 203, 62, 146, 226, 17, 35, 233, 81, 207, 111, 143, 24, 142] := by
  show nxt (rk keyZ 9) (rc 9) = _
  rw [yrkk9, show rc 9 = 54 by decide]; exact ynk9
theorem ysz0 : encS keyZ (zs 16) 0 = [0, 0, 0, 0, 0, 0, 0, 0, 0, 0, 0, 0, 0, 0, 0, 0] := by decide +kernel
theorem ysz1 : encS keyZ (zs 16) 1 = [1, 0, 0, 0, 1, 0, 0, 0, 1, 0, 0, 0, 1, 0, 0, 0] := by
  show xorL (mixL (shL (encS keyZ (zs 16) 0))) (rk keyZ 1) = _
  rw [ysz0, yrkk1]; decide +kernel
theorem ysz2 : encS keyZ (zs 16) 2 = [198, 228, 228, 139, 164, 135, 135, 232, 198, 228, 228, 139, 164, 135, 135, 232] := by
  show xorL (mixL (shL (encS keyZ (zs 16) 1))) (rk keyZ 2) = _
  rw [ysz1, yrkk2]; decide +kernel
theorem ysz3 : encS keyZ (zs 16) 3 = [40, 45, 243, 196, 106, 243, 134, 37, 74, 78, 144, 167, 8, 144, 229, 70] := by
  show xorL (mixL (shL (encS keyZ (zs 16) 2))) (rk keyZ 3) = _
  rw [ysz2, yrkk3]; decide +kernel
theorem ysz4 : encS keyZ (zs 16) 4 = [171, 210, 205, 254, 55, 90, 181, 73, 80, 160, 175, 192, 117, 154, 106, 95] := by
  show xorL (mixL (shL (encS keyZ (zs 16) 3))) (rk keyZ 4) = _
  rw [ysz3, yrkk4]; decide +kernel
theorem ysz5 : encS keyZ (zs 16) 5 = [212, 111, 79, 108, 85, 184, 150, 51, 126, 5, 187, 61, 121, 121, 222, 35] := by
  show xorL (mixL (shL (encS keyZ (zs 16) 4))) (rk keyZ 5) = _
  rw [ysz4, yrkk5]; decide +kernel
theorem ysz6 : encS keyZ (zs 16) 6 = [4, 242, 202, 151, 7, 120, 40, 69, 226, 47, 1, 150, 73, 197, 215, 16] := by
  show xorL (mixL (shL (encS keyZ (zs 16) 5))) (rk keyZ 6) = _
  rw [ysz5, yrkk6]; decide +kernel
theorem ysz7 : encS keyZ (zs 16) 7 = [183, 170, 228, 197, 29, 37, 45, 79, 108, 146, 15, 129, 148, 229, 129, 80] := by
  show xorL (mixL (shL (encS keyZ (zs 16) 6))) (rk keyZ 7) = _
  rw [ysz6, yrkk7]; decide +kernel
theorem ysz8 : encS keyZ (zs 16) 8 = [35, 231, 140, 60, 19, 33, 99, 219, 170, 192, 198, 87, 46, 3, 203, 149] := by
  show xorL (mixL (shL (encS keyZ (zs 16) 7))) (rk keyZ 8) = _
  rw [ysz7, yrkk8]; decide +kernel
theorem ysz9 : encS keyZ (zs 16) 9 = [127, 254, 14, 149, 81, 165, 102, 53, 14, 52, 124, 71, 41, 41, 236, 203] := by
  show xorL (mixL (shL (encS keyZ (zs 16) 8))) (rk keyZ 9) = _
  rw [ysz8, yrkk9]; decide +kernel
theorem yencz : encL keyZ (zs 16) = [102, 233, 75, 212, 239, 138, 44, 59, 136, 76, 250, 89, 202, 52, 43, 46] := by
  show xorL (shL (encS keyZ (zs 16) 9)) (rk keyZ 10) = _
  rw [ysz9, yrkk10]; decide +kernel
theorem ysb0 : encS keyZ yblk 0 = [154, 241, 108, 3, 147, 105, 255, 238, 161, 179, 233, 103, 40, 208, 172, 63] := by decide +kernel
theorem ysb1 : encS keyZ yblk 1 = [114, 101, 129, 189, 156, 182, 102, 22, 238, 105, 249, 69, 97, 177, 78, 153] := by
  show xorL (mixL (shL (encS keyZ yblk 0))) (rk keyZ 1) = _
  rw [ysb0, yrkk1]; decide +kernel
theorem ysb2 : encS keyZ yblk 2 = [190, 26, 150, 25, 27, 199, 12, 241, 195, 104, 169, 251, 182, 181, 141, 34] := by
  show xorL (mixL (shL (encS keyZ yblk 1))) (rk keyZ 2) = _
  rw [ysb1, yrkk2]; decide +kernel
theorem ysb3 : encS keyZ yblk 3 = [198, 83, 79, 145, 106, 122, 248, 187, 251, 97, 111, 93, 155, 8, 182, 9] := by
  show xorL (mixL (shL (encS keyZ yblk 2))) (rk keyZ 3) = _
  rw [ysb2, yrkk3]; decide +kernel
theorem ysb4 : encS keyZ yblk 4 = [65, 255, 252, 204, 102, 254, 252, 63, 85, 140, 75, 216, 119, 203, 65, 35] := by
  show xorL (mixL (shL (encS keyZ yblk 3))) (rk keyZ 4) = _
  rw [ysb3, yrkk4]; decide +kernel
theorem ysb5 : encS keyZ yblk 5 = [33, 40, 4, 82, 250, 106, 169, 45, 138, 166, 123, 225, 233, 56, 169, 240] := by
  show xorL (mixL (shL (encS keyZ yblk 4))) (rk keyZ 5) = _
  rw [ysb4, yrkk5]; decide +kernel
theorem ysb6 : encS keyZ yblk 6 = [166, 119, 121, 185, 241, 46, 193, 12, 70, 90, 252, 235, 33, 84, 31, 137] := by
  show xorL (mixL (shL (encS keyZ yblk 5))) (rk keyZ 6) = _
  rw [ysb5, yrkk6]; decide +kernel
theorem ysb7 : encS keyZ yblk 7 = [45, 95, 139, 63, 35, 155, 28, 33, 48, 138, 127, 163, 178, 118, 40, 195] := by
  show xorL (mixL (shL (encS keyZ yblk 6))) (rk keyZ 7) = _
  rw [ysb6, yrkk7]; decide +kernel
theorem ysb8 : encS keyZ yblk 8 = [101, 74, 2, 218, 180, 90, 206, 242, 23, 200, 80, 236, 227, 26, 63, 129] := by
  show xorL (mixL (shL (encS keyZ yblk 7))) (rk keyZ 8) = _
  rw [ysb7, yrkk8]; decide +kernel
theorem ysb9 : encS keyZ yblk 9 = [173, 7, 153, 192, 138, 243, 207, 101, 229, 196, 143, 9, 74, 136, 202, 168] := by
  show xorL (mixL (shL (encS keyZ yblk 8))) (rk keyZ 9) = _
  rw [ysb8, yrkk9]; decide +kernel
theorem yencb : encL keyZ yblk = [33, 226, 40, 9, 64, 142, 150, 171, 250, 45, 191, 130, 185, 74, 146, 143] := by
  show xorL (shL (encS keyZ yblk 9)) (rk keyZ 10) = _
  rw [ysb9, yrkk10]; decide +kernel
theorem yone : oneL keyZ = [205, 210, 151, 169, 223, 20, 88, 119, 16, 153, 244, 179, 148, 104, 86, 92] := by
  unfold oneL
  rw [yencz]; decide +kernel
theorem ytwo : twoL keyZ = [155, 165, 47, 83, 190, 40, 176, 238, 33, 51, 233, 103, 40, 208, 172, 63] := by
  unfold twoL
  rw [yone]; decide +kernel
theorem ymac : macL keyZ inZ = [33, 226, 40, 9, 64, 142, 150, 171, 250, 45, 191, 130, 185, 74, 146, 143] := by
  rw [macL_part (k := keyZ) (bs := inZ) (n := 0) (q := 9) rfl (by decide) (fun h => by cases h), ytwo, ← yencb]
  rfl
def xblk : List Nat := [159, 63, 85, 96, 69, 228, 15, 229, 21, 244, 127, 222, 234, 92, 29, 166]
theorem xnk0 : nxt [33, 226, 40, 9, 64, 142, 150, 171, 250, 45, 191, 130, 185, 74, 146, 143] 1 = [246, 173, 91, 95, 182, 35, 205, 244, 76, 14, 114, 118, 245, 68, 224, 249] := by decide +kernel
theorem xnk1 : nxt [246, 173, 91, 95, 182, 35, 205, 244, 76, 14, 114, 118, 245, 68, 224, 249] 2 = [239, 76, 194, 185, 89, 111, 15, 77, 21, 97, 125, 59, 224, 37, 157, 194] := by decide +kernel
theorem xnk2 : nxt [239, 76, 194, 185, 89, 111, 15, 77, 21, 97, 125, 59, 224, 37, 157, 194] 4 = [212, 18, 231, 88, 141, 125, 232, 21, 152, 28, 149, 46, 120, 57, 8, 236] := by decide +kernel
theorem xnk3 : nxt [212, 18, 231, 88, 141, 125, 232, 21, 152, 28, 149, 46, 120, 57, 8, 236] 8 = [206, 34, 41, 228, 67, 95, 193, 241, 219, 67, 84, 223, 163, 122, 92, 51] := by decide +kernel
theorem xnk4 : nxt [206, 34, 41, 228, 67, 95, 193, 241, 219, 67, 84, 223, 163, 122, 92, 51] 16 = [4, 104, 234, 238, 71, 55, 43, 31, 156, 116, 127, 192, 63, 14, 35, 243] := by decide +kernel
theorem xnk5 : nxt [4, 104, 234, 238, 71, 55, 43, 31, 156, 116, 127, 192, 63, 14, 35, 243] 32 = [143, 78, 231, 155, 200, 121, 204, 132, 84, 13, 179, 68, 107, 3, 144, 183] := by decide +kernel
theorem xnk6 : nxt [143, 78, 231, 155, 200, 121, 204, 132, 84, 13, 179, 68, 107, 3, 144, 183] 64 = [180, 46, 78, 228, 124, 87, 130, 96, 40, 90, 49, 36, 67, 89, 161, 147] := by decide +kernel
theorem xnk7 : nxt [180, 46, 78, 228, 124, 87, 130, 96, 40, 90, 49, 36, 67, 89, 161, 147] 128 = [255, 28, 146, 254, 131, 75, 16, 158, 171, 17, 33, 186, 232, 72, 128, 41] := by decide +kernel
theorem xnk8 : nxt [255, 28, 146, 254, 131, 75, 16, 158, 171, 17, 33, 186, 232, 72, 128, 41] 27 = [182, 209, 55, 101, 53, 154, 39, 251, 158, 139, 6, 65, 118, 195, 134, 104] := by decide +kernel
theorem xnk9 : nxt [182, 209, 55, 101, 53, 154, 39, 251, 158, 139, 6, 65, 118, 195, 134, 104] 54 = [174, 149, 114, 93, 155, 15, 85, 166, 5, 132, 83, 231, 115, 71, 213, 143] := by decide +kernel
theorem xrkk1 : rk keyT 1 = [246, 173, 91, 95, 182, 35, 205, 244, 76, 14, 114, 118, 245, 68, 224, 249] := by
  show nxt (rk keyT 0) (rc 0) = _
  rw [show rk keyT 0 = [33, 226, 40, 9, 64, 142, 150, 171, 250, 45, 191, 130, 185, 74, 146, 143] from rfl, show rc 0 = 1 by decide]; exact xnk0
theorem xrkk2 : rk keyT 2 = [239, 76, 194, 185, 89, 111, 15, 77, 21, 97, 125, 59, 224, 37, 157, 194] := by
  show nxt (rk keyT 1) (rc 1) = _
  rw [xrkk1, show rc 1 = 2 by decide]; exact xnk1
theorem xrkk3 : rk keyT 3 = [212, 18, 231, 88, 141, 125, 232, 21, 152, 28, 149, 46, 120, 57, 8, 236] := by
  show nxt (rk keyT 2) (rc 2) = _
  rw [xrkk2, show rc 2 = 4 by decide]; exact xnk2
theorem xrkk4 : rk keyT 4 = [206, 34, 41, 228, 67, 95, 193, 241, 219, 67, 84, 223, 163, 122, 92, 51] := by
  show nxt (rk keyT 3) (rc 3) = _
  rw [xrkk3, show rc 3 = 8 by decide]; exact xnk3
theorem xrkk5 : rk keyT 5 = [4, 104, 234, 238, 71, 55, 43, 31, 156, 116, 127, 192, 63, 14, 35, 243] := by
  show nxt (rk keyT 4) (rc 4) = _
  rw [xrkk4, show rc 4 = 16 by decide]; exact xnk4
theorem xrkk6 : rk keyT 6 = [143, 78, 231, 155, 200, 121, 204, 132, 84, 13, 179, 68, 107, 3, 144, 183] := by
  show nxt (rk keyT 5) (rc 5) = _
  rw [xrkk5, show rc 5 = 32 by decide]; exact xnk5
theorem xrkk7 : rk keyT 7 = [180, 46, 78, 228, 124, 87, 130, 96, 40, 90, 49, 36, 67, 89, 161, 147] := by
  show nxt (rk keyT 6) (rc 6) = _
  rw [xrkk6, show rc 6 = 64 by decide]; exact xnk6
theorem xrkk8 : rk keyT 8 = [255, 28, 146, 254, 131, 75, 16, 158, 171, 17, 33, 186, 232, 72, 128, 41] := by
  show nxt (rk keyT 7) (rc 7) = _
  rw [xrkk7, show rc 7 = 128 by decide]; exact xnk7
theorem xrkk9 : rk keyT 9 = [182, 209, 55, 101, 53, 154, 39, 251, 158, 139, 6, 65, 118, 195, 134, 104] := by
  show nxt (rk keyT 8) (rc 8) = _
  rw [xrkk8, show rc 8 = 27 by decide]; exact xnk8
theorem xrkk10 : rk keyT 10 = [174, 149, 114, 93, 155, 15, 85, 166, 5, 132, 83, 231, 115, 71, 213, 143] := by
  show nxt (rk keyT 9) (rc 9) = _
  rw [xrkk9, show rc 9 = 54 by decide]; exact xnk9
theorem xsz0 : encS keyT (zs 16) 0 = [33, 226, 40, 9, 64, 142, 150, 171, 250, 45, 191, 130, 185, 74, 146, 143] := by decide +kernel
theorem xsz1 : encS keyT (zs 16) 1 = [71, 9, 58, 180, 153, 81, 129, 122, 33, 170, 71, 39, 105, 129, 32, 45] := by
  show xorL (mixL (shL (encS keyT (zs 16) 0))) (rk keyT 1) = _
  rw [xsz0, xrkk1]; decide +kernel
theorem xsz2 : encS keyT (zs 16) 2 = [164, 118, 155, 152, 75, 141, 180, 126, 186, 197, 226, 4, 202, 6, 50, 92] := by
  show xorL (mixL (shL (encS keyT (zs 16) 1))) (rk keyT 2) = _
  rw [xsz1, xrkk2]; decide +kernel
theorem xsz3 : encS keyT (zs 16) 3 = [115, 24, 6, 210, 100, 186, 113, 210, 61, 249, 40, 175, 167, 67, 72, 58] := by
  show xorL (mixL (shL (encS keyT (zs 16) 2))) (rk keyT 3) = _
  rw [xsz2, xrkk3]; decide +kernel
theorem xsz4 : encS keyT (zs 16) 4 = [120, 130, 161, 181, 146, 118, 123, 142, 97, 84, 115, 178, 45, 224, 123, 43] := by
  show xorL (mixL (shL (encS keyT (zs 16) 3))) (rk keyT 4) = _
  rw [xsz3, xrkk4]; decide +kernel
theorem xsz5 : encS keyT (zs 16) 5 = [81, 223, 99, 127, 77, 142, 98, 126, 74, 13, 62, 11, 183, 164, 243, 220] := by
  show xorL (mixL (shL (encS keyT (zs 16) 4))) (rk keyT 5) = _
  rw [xsz4, xrkk5]; decide +kernel
theorem xsz6 : encS keyT (zs 16) 6 = [41, 230, 193, 79, 168, 234, 143, 223, 48, 172, 207, 106, 26, 67, 149, 53] := by
  show xorL (mixL (shL (encS keyT (zs 16) 5))) (rk keyT 6) = _
  rw [xsz5, xrkk6]; decide +kernel
theorem xsz7 : encS keyT (zs 16) 7 = [107, 141, 194, 42, 229, 86, 18, 149, 232, 124, 102, 109, 228, 107, 109, 151] := by
  show xorL (mixL (shL (encS keyT (zs 16) 6))) (rk keyT 7) = _
  rw [xsz6, xrkk7]; decide +kernel
theorem xsz8 : encS keyT (zs 16) 8 = [114, 199, 185, 246, 195, 19, 149, 19, 8, 49, 241, 2, 40, 231, 121, 126] := by
  show xorL (mixL (shL (encS keyT (zs 16) 7))) (rk keyT 8) = _
  rw [xsz7, xrkk8]; decide +kernel
theorem xsz9 : encS keyT (zs 16) 9 = [227, 96, 93, 132, 207, 162, 127, 124, 114, 15, 137, 41, 18, 105, 185, 54] := by
  show xorL (mixL (shL (encS keyT (zs 16) 8))) (rk keyT 9) = _
  rw [xsz8, xrkk9]; decide +kernel
theorem xencz : encL keyT (zs 16) = [191, 175, 213, 88, 17, 121, 3, 249, 69, 125, 31, 247, 186, 151, 7, 42] := by
  show xorL (shL (encS keyT (zs 16) 9)) (rk keyT 10) = _
  rw [xsz9, xrkk10]; decide +kernel
theorem xsb0 : encS keyT xblk 0 = [190, 221, 125, 105, 5, 106, 153, 78, 239, 217, 192, 92, 83, 22, 143, 41] := by decide +kernel
theorem xsb1 : encS keyT xblk 1 = [168, 119, 108, 95, 181, 78, 101, 230, 240, 106, 126, 234, 200, 83, 213, 110] := by
  show xorL (mixL (shL (encS keyT xblk 0))) (rk keyT 1) = _
  rw [xsb0, xrkk1]; decide +kernel
theorem xsb2 : encS keyT xblk 2 = [109, 65, 104, 29, 34, 116, 148, 173, 228, 82, 53, 14, 229, 108, 136, 76] := by
  show xorL (mixL (shL (encS keyT xblk 1))) (rk keyT 2) = _
  rw [xsb1, xrkk2]; decide +kernel
theorem xsb3 : encS keyT xblk 3 = [190, 153, 5, 74, 208, 29, 31, 44, 106, 143, 130, 177, 198, 48, 240, 112] := by
  show xorL (mixL (shL (encS keyT xblk 2))) (rk keyT 3) = _
  rw [xsb2, xrkk3]; decide +kernel
theorem xsb4 : encS keyT xblk 4 = [60, 187, 246, 24, 108, 144, 160, 41, 201, 133, 23, 84, 241, 154, 222, 81] := by
  show xorL (mixL (shL (encS keyT xblk 3))) (rk keyT 4) = _
  rw [xsb3, xrkk4]; decide +kernel
theorem xsb5 : encS keyT xblk 5 = [72, 153, 242, 225, 245, 216, 58, 36, 9, 161, 106, 23, 131, 123, 211, 65] := by
  show xorL (mixL (shL (encS keyT xblk 4))) (rk keyT 5) = _
  rw [xsb4, xrkk5]; decide +kernel
theorem xsb6 : encS keyT xblk 6 = [9, 91, 78, 19, 215, 169, 199, 10, 138, 248, 192, 131, 241, 67, 130, 13] := by
  show xorL (mixL (shL (encS keyT xblk 5))) (rk keyT 6) = _
  rw [xsb5, xrkk6]; decide +kernel
theorem xsb7 : encS keyT xblk 7 = [181, 144, 145, 59, 205, 147, 108, 218, 178, 6, 162, 93, 123, 55, 129, 87] := by
  show xorL (mixL (shL (encS keyT xblk 6))) (rk keyT 7) = _
  rw [xsb6, xrkk7]; decide +kernel
theorem xsb8 : encS keyT xblk 8 = [80, 127, 2, 202, 189, 222, 231, 254, 166, 198, 108, 86, 22, 21, 181, 226] := by
  show xorL (mixL (shL (encS keyT xblk 7))) (rk keyT 8) = _
  rw [xsb7, xrkk8]; decide +kernel
theorem xsb9 : encS keyT xblk 9 = [255, 208, 106, 246, 167, 131, 196, 252, 241, 63, 67, 110, 176, 45, 232, 158] := by
  show xorL (mixL (shL (encS keyT xblk 8))) (rk keyT 9) = _
  rw [xsb8, xrkk9]; decide +kernel
theorem xencb : encL keyT xblk = [184, 121, 104, 86, 199, 122, 206, 228, 164, 92, 81, 87, 148, 55, 201, 16] := by
  show xorL (shL (encS keyT xblk 9)) (rk keyT 10) = _
  rw [xsb9, xrkk10]; decide +kernel
theorem xone : oneL keyT = [127, 95, 170, 176, 34, 242, 7, 242, 138, 250, 63, 239, 117, 46, 14, 211] := by
  unfold oneL
  rw [xencz]; decide +kernel
theorem xtwo : twoL keyT = [254, 191, 85, 96, 69, 228, 15, 229, 21, 244, 127, 222, 234, 92, 29, 166] := by
  unfold twoL
  rw [xone]; decide +kernel
theorem xmac : macL keyT [97] = [184, 121, 104, 86, 199, 122, 206, 228, 164, 92, 81, 87, 148, 55, 201, 16] := by
  rw [macL_part (k := keyT) (bs := [97]) (n := 0) (q := 1) rfl (by decide) (fun h => by cases h), xtwo, ← xencb]
  rfl
theorem keyT_is : macL keyZ inZ = keyT := ymac
theorem macT_is : macL keyT [97] = macT := xmac
theorem keyT_by : BY keyT := by unfold BY; decide
theorem keyZ_by : BY keyZ := by unfold BY; decide
theorem keyZ_is : keyZ = zs 16 := rfl
end Go.Proofs.Ythbgjjfhgbkbdaa.aesC

/-
  What fit and the code's Put do (as stage 2 told it, without what its statements name).
-/
namespace Go.Proofs.Ythbgjjfhgbkbdaa.octC
open Go.ChangeShapes Go.WideShapes Go.ChangeAt Go.RowKit
open Go.Proofs.Ythbgjjfhgbkbdaa.memC
set_option linter.unusedVariables false
theorem ret_int {k : IntKind} {a b : Int} (h : a = b) : Ending.returned (.int k a) = .returned (.int k b) := by rw [h]
theorem ret_bool {a b : Bool} (h : a = b) : Ending.returned (.bool a) = .returned (.bool b) := by rw [h]

def fitN (size : Int) : Nat := (min (max size 0) 8).toNat
theorem fitN_eq (size : Int) : (fitN size : Int) = min (max size 0) 8 := by unfold fitN; omega
theorem fitN_le (size : Int) : fitN size ≤ 8 := by unfold fitN; omega

theorem fit_any (size : Int) (w : World) (h1 : -9223372036854775808 ≤ size) (h2 : size ≤ 9223372036854775807) :
    Calls Try.prog 34 #[.int .i64 size] w fun e w' => e = .returned (.int .i64 (fitN size)) ∧ w = w' := by
  have E := Lib.hid (fitN_eq size)
  go_enter Try.func34, Try.ntmps34
  go_wp2
  all_goals
    go_ret
    exact ⟨ret_int (by have := E.out; split at * <;> omega), rfl⟩

theorem byte_info : (Try.prog.info? 5).map (fun i => (i.zero, i.size, i.bytes)) = some (some (.int .u8 0), 1, 1) := by kernel_rfl
/-- byte number i of x, from below -/
def byteAt (x : Int) (i : Nat) : Int := x / 2 ^ (8 * i) % 256
/-- the lowest s bytes of x, the highest first -/
def numL : Nat → Int → List Int
  | 0, _ => []
  | s + 1, x => byteAt x s :: numL s x
def putL (bs : List Int) (s : Nat) (ns : List Int) : List Int := bs ++ ns.flatMap (numL s)
theorem numL_len (s : Nat) (x : Int) : (numL s x).length = s := by
  induction s with
  | zero => rfl
  | succ s ih => simp [numL, ih]
theorem flat_len (s : Nat) (ns : List Int) : (ns.flatMap (numL s)).length = s * ns.length := by
  induction ns with
  | nil => simp
  | cons x ns ih => rw [List.flatMap_cons, List.length_append, ih, numL_len, List.length_cons, Nat.mul_add]; omega
theorem byte_of (x : Int) (i : Nat) (hi : i < 8) : x / 2 ^ min ((8 : Int) * (i : Int)).toNat 64 = x / 2 ^ (8 * i) := by
  have : min ((8 : Int) * (i : Int)).toNat 64 = 8 * i := by omega
  rw [this]

/-- what has been put so far, and what is still to come, is T -/
def PutR (w wr : World) (B : Nat) (T : List Int) (v : Value) (rest : List Int) : Prop := ∃ ys, Own .u8 5 wr B v ys ∧ ys ++ rest = T ∧ Below B w wr
theorem len_of {T rest ys : List Int} (h : ys ++ rest = T) : ys.length ≤ T.length := by rw [← h, List.length_append]; omega
theorem put_step {w wr w' : World} {B : Nat} {T : List Int} {v' : Value} {rest ys : List Int} {y : Int} (h : ys ++ y :: rest = T) (hb : Below B w wr) (O : Own .u8 5 w' B v' (ys ++ [y])) (hw : Below B wr w') : PutR w w' B T v' rest :=
  ⟨_, O, by rw [← h]; simp, hb.trans hw⟩
theorem cast_add {a b q n : Nat} (h : a * b = q) : (n : Int) + (q : Int) = ((n + q : Nat) : Int) := by omega

set_option maxRecDepth 100000 in
set_option maxHeartbeats 400000 in
theorem put_any (A : Option Addr) (n c : Nat) (size : Int) (A2 : Option Addr) (m c2 : Nat) (bs ns : List Int) (w : World) (h1 : -9223372036854775808 ≤ size) (h2 : size ≤ 9223372036854775807)
    (hb : Nums .u8 w w.heap.size A n bs) (hns : Nums .u64 w w.heap.size A2 m ns) (hn : n ≤ 3000) (hm : m ≤ 300) :
    Calls Try.prog 20 #[.slice A n c, .int .i64 size, .slice A2 m c2] w fun e w' =>
      ∃ v, e = .returned v ∧ Own .u8 5 w' w.heap.size v (putL bs (fitN size) ns) ∧ Below w.heap.size w w' := by
  have hf := fitN_le size
  obtain ⟨q, hq⟩ : ∃ q, q = fitN size * m := ⟨_, rfl⟩
  have hq8 : q ≤ 2400 := by rw [hq]; exact Nat.mul_le_mul hf hm
  have hqz : (fitN size : Int) * (m : Int) = (q : Int) := by rw [hq]; simp
  have HQ := Lib.hid hq
  clear hq
  obtain ⟨i0, hi0, hz0, hz1, hz2⟩ := info_parts byte_info
  have T1 := Lib.hid hi0; have T2 := Lib.hid hz0; have T3 := Lib.hid hz1; have T4 := Lib.hid hz2
  have b2 : i0.bytes * (n + q) ≤ 281474976710656 := by rw [hz2]; omega
  clear hi0 hz0 hz1 hz2
  go_enter Try.func20, Try.ntmps20
  go_wp2_with (first
    | (go_at_call 34; refine (fit_any _ _ h1 h2).mono ?_; rintro e w' ⟨rfl, rfl⟩)
    | (at_make; (refine wpList_make_own _ rfl (.const (.int .i64 0)) (.tmp 19) _ rfl w.heap.size 5 i0 _ 1 Try.underlying22 T1.out T2.out T3.out .i64 .i64 _ (n + q) rfl rfl (by omega) b2 (by simp only [maxLen]; omega) (Nat.le_refl _) ?_); intro w1 hown1 hg1
       have O1 : Own .u8 5 w1 w.heap.size (.slice (some ⟨w.heap.size, 0, none⟩) 0 (n + q)) [] := hown1
       have B1 : Below w.heap.size w w1 := grown_below hg1 (Nat.le_refl _) (by nofun)
       clear hown1 hg1)
    | (at_builtin; (refine wpList_app _ rfl (.tmp 21) (.tmp 22) _ rfl 5 i0 _ 1 Try.underlying22 T1.out T2.out T3.out T4.out rfl w.heap.size _ [] rfl O1 w.heap.size A n c bs rfl (hb.below B1) (by simp only [maxLen, List.length_nil]; omega) (by simp only [List.length_nil]; omega) B1.size ?_)
       intro v2 w2 O2 hg2
       have B2 : Below w.heap.size w w2 := B1.grown hg2 B1.size fun g hg => (O1.blk g hg).1
       clear hg2))
  have hT : (putL bs (fitN size) ns).length = n + q := by rw [putL, List.length_append, flat_len, hb.len, hns.len, HQ.out]
  have R0 : PutR w w2 w.heap.size (putL bs (fitN size) ns) v2 ((ns.drop 0).flatMap (numL (fitN size))) := ⟨_, O2, by simp [putL], B2⟩
  obtain ⟨T, eT⟩ : ∃ T, T = putL bs (fitN size) ns := ⟨_, rfl⟩
  rw [← eT] at hT R0
  have ET := Lib.hid eT
  clear eT
  clear O1 B1 O2 B2
  go_loopw [7, 26] (fun v i wr => ∃ j : Nat, j ≤ m ∧ i = .int .i64 j ∧ PutR w wr w.heap.size T v ((ns.drop j).flatMap (numL (fitN size)))) (fun _ i _ => m - (intOf i).toNat)
  case atStart => exact ⟨0, Nat.zero_le _, rfl, R0⟩
  case round =>
    obtain ⟨j, hj, rfl, R⟩ := hrel
    by_cases hlt : j < m
    · obtain ⟨b2, o2, rfl, hb2, hcell⟩ := hns.cell hlt
      obtain ⟨x, hx⟩ : ∃ x, x = ns.getD j 0 := ⟨_, rfl⟩
      have hc : wr.cell? ⟨b2, o2 + j, none⟩ = some (.int .u64 x) := by obtain ⟨ys, O, E, Bw⟩ := R; rw [Bw.cell (p := ⟨b2, o2 + j, none⟩) hb2, hx]; exact hcell
      have hdrop : ns.drop j = x :: ns.drop (j + 1) := by
        rw [hx, List.getD_eq_getElem?_getD, List.getElem?_eq_getElem (by rw [hns.len]; exact hlt)]
        exact List.drop_eq_getElem_cons (by rw [hns.len]; exact hlt)
      have R1 : PutR w wr w.heap.size T u7 (numL (fitN size) x ++ (ns.drop (j + 1)).flatMap (numL (fitN size))) := by rw [hdrop, List.flatMap_cons] at R; exact R
      clear hcell hdrop R hx
      obtain ⟨R2, e2⟩ : ∃ R2, R2 = (ns.drop (j + 1)).flatMap (numL (fitN size)) := ⟨_, rfl⟩
      rw [← e2] at R1
      have E2 := Lib.hid e2
      clear e2
      go_wp2_with fail
      obtain ⟨wo, rfl⟩ : ∃ wo : World, wo = wr := ⟨_, rfl⟩
      go_loopw [7, 10] (fun v i wr => ∃ s : Nat, s ≤ fitN size ∧ i = .int .i64 ((s : Int) - 1) ∧ PutR w wr w.heap.size T v (numL s x ++ R2)) (fun _ i _ => (intOf i + 1).toNat)
      case atStart => exact ⟨_, Nat.le_refl _, rfl, R1⟩
      case round =>
        obtain ⟨s, hs, rfl, ys, O, E, Bw⟩ := hrel
        rcases s with _ | s
        · go_wp2_with fail
          go_roundw
          case rel => exact ⟨j + 1, by omega, by go_num, ys, O, by rw [← E2.out]; exact E, Bw⟩
          case measure => simp [intOf]; omega
        · have e1 : ((s + 1 : Nat) : Int) - 1 = (s : Int) := by omega
          rw [e1]
          have hyl := len_of E
          have EE := Lib.hid E
          clear E e1
          go_wp2_with (at_builtin; (refine wpList_app1 _ rfl (.tmp 36) (.tmp 42) _ rfl 5 i0 _ 1 Try.underlying22 T1.out T2.out T3.out T4.out rfl w.heap.size _ ys rfl O _ rfl (by simp only [maxLen]; omega) (by omega) Bw.size ?_)
                       intro v' w' O' B')
          go_roundw
          case rel =>
            refine ⟨s, by omega, by go_num, ?_⟩
            exact put_step EE.out Bw O' B'
          case measure => simp [intOf]
    · obtain ⟨ys, O, E, Bw⟩ := R
      have hj : j = m := by omega
      subst hj
      have E' : ys = T := by rw [← E, List.drop_eq_nil_of_le (by rw [hns.len]; omega)]; simp
      clear E
      subst E'
      go_wp2_with fail
      go_ret
      exact ⟨u7, rfl, by rw [← ET.out]; exact O, Bw⟩
end Go.Proofs.Ythbgjjfhgbkbdaa.octC

/-
  What the document's Put does.
-/
namespace Go.Proofs.Ythbgjjfhgbkbdaa.octC
open Go.ChangeShapes Go.WideShapes Go.ChangeAt Go.RowKit
open Go.Proofs.Ythbgjjfhgbkbdaa.memC
set_option linter.unusedVariables false
set_option maxRecDepth 100000 in
set_option maxHeartbeats 800000 in
theorem putref_any (A : Option Addr) (n c : Nat) (size : Int) (A2 : Option Addr) (m c2 : Nat) (bs ns : List Int) (w : World) (h1 : -9223372036854775808 ≤ size) (h2 : size ≤ 9223372036854775807)
    (hb : Nums .u8 w w.heap.size A n bs) (hns : Nums .u64 w w.heap.size A2 m ns) (hn : n ≤ 3000) (hm : m ≤ 300) :
    Calls Try.prog 24 #[.slice A n c, .int .i64 size, .slice A2 m c2] w fun e w' =>
      ∃ v, e = .returned v ∧ Own .u8 5 w' w.heap.size v (putL bs (fitN size) ns) ∧ Below w.heap.size w w' := by
  have hf := fitN_le size
  have hfz := fitN_eq size
  obtain ⟨q, hq⟩ : ∃ q, q = fitN size * m := ⟨_, rfl⟩
  have hq8 : q ≤ 2400 := by rw [hq]; exact Nat.mul_le_mul hf hm
  have HQ := Lib.hid hq
  have HF := Lib.hid hfz
  clear hq hfz
  obtain ⟨i0, hi0, hz0, hz1, hz2⟩ := info_parts byte_info
  have T1 := Lib.hid hi0; have T2 := Lib.hid hz0; have T3 := Lib.hid hz1; have T4 := Lib.hid hz2
  clear hi0 hz0 hz1 hz2
  have O1 : Own .u8 5 w w.heap.size (.slice none 0 0) [] := Own.nil _ _
  go_enter Try.func24, Try.ntmps24
  go_wp2_with (first
    | (at_builtin; (refine wpList_app _ rfl (.const (.slice none 0 0)) (.tmp 10) _ rfl 5 i0 _ 1 Try.underlying22 T1.out T2.out T3.out T4.out rfl w.heap.size _ [] rfl O1 w.heap.size A n c bs rfl hb (by simp only [maxLen, List.length_nil]; omega) (by simp only [List.length_nil]; omega) (Nat.le_refl _) ?_)
       intro v2 w2 O2 hg2
       have B2 : Below w.heap.size w w2 := grown_below hg2 (Nat.le_refl _) (by nofun)
       clear hg2))
  have hT : (putL bs (fitN size) ns).length = n + q := by rw [putL, List.length_append, flat_len, hb.len, hns.len, HQ.out]
  have R0 : PutR w w2 w.heap.size (putL bs (fitN size) ns) v2 ((ns.drop 0).flatMap (numL (fitN size))) := ⟨_, O2, by simp [putL], B2⟩
  obtain ⟨T, eT⟩ : ∃ T, T = putL bs (fitN size) ns := ⟨_, rfl⟩
  rw [← eT] at hT R0
  have ET := Lib.hid eT
  clear eT O1 O2 B2
  go_loopw [7, 8] (fun v i wr => ∃ j : Nat, j ≤ m ∧ i = .int .i64 j ∧ PutR w wr w.heap.size T v ((ns.drop j).flatMap (numL (fitN size)))) (fun _ i _ => m - (intOf i).toNat)
  case atStart => exact ⟨0, Nat.zero_le _, rfl, R0⟩
  case round =>
    obtain ⟨j, hj, rfl, R⟩ := hrel
    by_cases hlt : j < m
    · obtain ⟨b2, o2, rfl, hb2, hcell⟩ := hns.cell hlt
      obtain ⟨x, hx⟩ : ∃ x, x = ns.getD j 0 := ⟨_, rfl⟩
      rw [← hx] at hcell
      have hdrop : ns.drop j = x :: ns.drop (j + 1) := by
        rw [hx, List.getD_eq_getElem?_getD, List.getElem?_eq_getElem (by rw [hns.len]; exact hlt)]
        exact List.drop_eq_getElem_cons (by rw [hns.len]; exact hlt)
      have R1 : PutR w wr w.heap.size T u7 (numL (fitN size) x ++ (ns.drop (j + 1)).flatMap (numL (fitN size))) := by rw [hdrop, List.flatMap_cons] at R; exact R
      have HC := Lib.hid hcell
      clear hcell hdrop R hx
      obtain ⟨R2, e2⟩ : ∃ R2, R2 = (ns.drop (j + 1)).flatMap (numL (fitN size)) := ⟨_, rfl⟩
      rw [← e2] at R1
      have E2 := Lib.hid e2
      clear e2
      go_wp2_with fail
      all_goals
        obtain ⟨wo, rfl⟩ : ∃ wo : World, wo = wr := ⟨_, rfl⟩
        go_loopw [7, 9] (fun v i wr => ∃ s : Nat, s ≤ fitN size ∧ i = .int .i64 ((s : Int) - 1) ∧ PutR w wr w.heap.size T v (numL s x ++ R2)) (fun _ i _ => (intOf i + 1).toNat)
        case atStart => exact ⟨fitN size, Nat.le_refl _, congrArg (Value.int .i64) (by have := HF.out; omega), R1⟩
        case round =>
          obtain ⟨s, hs, rfl, ys, O, E, Bw⟩ := hrel
          rcases s with _ | s
          · go_wp2_with fail
            go_roundw
            case rel => exact ⟨j + 1, by omega, by go_num, ys, O, by rw [← E2.out]; exact E, Bw⟩
            case measure => simp [intOf]; omega
          · have e1 : ((s + 1 : Nat) : Int) - 1 = (s : Int) := by omega
            rw [e1]
            have hyl := len_of E
            have EE := Lib.hid E
            have hc : wr.cell? ⟨b2, o2 + j, none⟩ = some (.int .u64 x) := by rw [Bw.cell (p := ⟨b2, o2 + j, none⟩) hb2]; exact HC.out
            clear E e1
            go_wp2_with (at_builtin; (refine wpList_app1 _ rfl (.tmp 26) (.tmp 35) _ rfl 5 i0 _ 1 Try.underlying22 T1.out T2.out T3.out T4.out rfl w.heap.size _ ys rfl O _ rfl (by simp only [maxLen]; omega) (by omega) Bw.size ?_)
                         intro v' w' O' B')
            go_roundw
            case rel =>
              refine ⟨s, by omega, by go_num, ?_⟩
              exact put_step EE.out Bw O' B'
            case measure => simp [intOf]
    · obtain ⟨ys, O, E, Bw⟩ := R
      have hj : j = m := by omega
      subst hj
      have E' : ys = T := by rw [← E, List.drop_eq_nil_of_le (by rw [hns.len]; omega)]; simp
      clear E
      subst E'
      go_wp2_with fail
      go_ret
      exact ⟨u7, rfl, by rw [← ET.out]; exact O, Bw⟩
end Go.Proofs.Ythbgjjfhgbkbdaa.octC
