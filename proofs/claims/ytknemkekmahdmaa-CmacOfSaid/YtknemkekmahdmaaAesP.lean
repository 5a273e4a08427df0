/-
  AES: the document's boxes.
-/
import Derived.Test.YtknemkekmahdmaaAesL
namespace Go.Proofs.Ytknemkekmahdmaa.aesC
open Go.ChangeShapes Go.WideShapes Go.ChangeAt Go.RowKit
open Go.Proofs.Ytknemkekmahdmaa.memC Go.Proofs.Ytknemkekmahdmaa.genC Go.Proofs.Ytknemkekmahdmaa.aesM Go.Proofs.Ytknemkekmahdmaa.freeC
set_option linter.unusedVariables false
def PL : List Nat := (List.range 256).map p3
theorem PL_len : PL.length = 256 := by unfold PL; rw [List.length_map, List.length_range]
theorem PL_at {i : Nat} (h : i < 256) : PL.getD i 0 = p3 i := getD_map h
theorem outS_len : ∀ i, (outS i).length = 256
  | 0 => by rw [outS, List.length_set, List.length_replicate]
  | i + 1 => by rw [outS, List.length_set, outS_len i]
/-- the blocks that a call of Boxes lays first -/
structure PX (w : World) (p : List Nat) (wr : World) : Prop where
  b0 : Bl 47 wr w.heap.size (zs 256)
  b1 : Bl 47 wr (w.heap.size + 1) p
  sz : wr.heap.size = w.heap.size + 1 + 1
  bel : Below w.heap.size w wr
/-- .. and all of them -/
structure BX (w : World) (o : List Nat) (wr : World) : Prop where
  b0 : Bl 47 wr w.heap.size (zs 256)
  b1 : Bl 47 wr (w.heap.size + 1) PL
  b2 : Bl 47 wr (w.heap.size + 1 + 1) o
  bel : Below w.heap.size w wr
section
variable {w wr w' : World} {p o : List Nat}
theorem PX.s1 (B : PX w p wr) (j x : Nat) : PX w (p.set j x) (wr.setCell ⟨w.heap.size + 1, j, none⟩ (.int .u8 (x : Int))) :=
  ⟨B.b0.other (by show w.heap.size + 1 ≠ w.heap.size; omega) _, B.b1.stored j x, by simpa [World.setCell] using B.sz, B.bel.setCell (p := ⟨w.heap.size + 1, j, none⟩) (by show w.heap.size ≤ w.heap.size + 1; omega) _⟩
theorem px_new (w : World) (p : List Nat) : PX w p ((w.alloc (.cells (vec (zs 256)) 47)).alloc (.cells (vec p) 47)) := by
  refine ⟨(Bl.new w _ _).alloc _, ?_, by rw [alloc_size, alloc_size], ((Below.refl _ _).alloc (Nat.le_refl _) _).alloc (by simp) _⟩
  have := Bl.new (w.alloc (.cells (vec (zs 256)) 47)) 47 p
  rw [alloc_size] at this; exact this
theorem PX.out (B : PX w PL wr) (o : List Nat) : BX w o (wr.alloc (.cells (vec o) 47)) := by
  refine ⟨B.b0.alloc _, B.b1.alloc _, ?_, B.bel.alloc B.bel.size _⟩
  rw [← B.sz]; exact Bl.new wr _ o
theorem BX.heap (B : BX w o wr) (e : w'.heap = wr.heap) (e1 : w'.os = wr.os) (e2 : w'.tape = wr.tape) (e3 : w'.output = wr.output) : BX w o w' :=
  ⟨B.b0.heap e, B.b1.heap e, B.b2.heap e, B.bel.trans ⟨e1, e2, e3, by rw [e]; exact Nat.le_refl _, fun k _ => by rw [e]⟩⟩
theorem BX.s2 (B : BX w o wr) (j x : Nat) : BX w (o.set j x) (wr.setCell ⟨w.heap.size + 1 + 1, j, none⟩ (.int .u8 (x : Int))) :=
  ⟨B.b0.other (by show w.heap.size + 1 + 1 ≠ w.heap.size; omega) _, B.b1.other (by show w.heap.size + 1 + 1 ≠ w.heap.size + 1; omega) _, B.b2.stored j x, B.bel.setCell (p := ⟨w.heap.size + 1 + 1, j, none⟩) (by show w.heap.size ≤ w.heap.size + 1 + 1; omega) _⟩
end
theorem rturn_lt {c : Nat} (h : c < 256) : rturn c < 256 := rot_lt h 4
set_option maxRecDepth 100000 in
set_option maxHeartbeats 1000000 in
theorem boxes_any (w : World) : Calls Try.prog 24 #[] w (Ret w (.agg (vec tbl))) := by
  obtain ⟨Z, hZ⟩ : ∃ Z, Z = vec (zs 256) := ⟨_, rfl⟩
  have hzv := zero256
  rw [← hZ] at hzv
  obtain ⟨W, hW⟩ : ∃ W, W = (w.alloc (.cells Z 47)).alloc (.cells Z 47) := ⟨_, rfl⟩
  have T1 : PX w (zs 256) W := by rw [hW, hZ]; exact px_new w _
  have hpl : PL.length = (zs 256).length := by rw [PL_len, zs_len]
  have HP := Lib.hid hpl
  have T2 := T1.s1 0 (PL.getD 0 0)
  rw [show (zs 256).set 0 (PL.getD 0 0) = mixP PL (zs 256) 1 by have := mixP_set hpl (j := 0) (by rw [zs_len]; decide); rwa [mixP_zero] at this] at T2
  have HT2 := Lib.hid (show PX w (mixP PL (zs 256) 1) (W.setCell ⟨w.heap.size + 1, 0, none⟩ (.int .u8 1)) from T2)
  have f0 := T1.b1.frozen 0
  have c0 := T1.b1.cell (j := 0) (by rw [zs_len]; decide)
  have HZ := Lib.hid hZ.symm
  have UT := Lib.hid (show (Try.prog.info? 47).map (·.size) = some (vec tbl).size by rw [b256_info, vec_size]; rfl)
  have ZT := Lib.hid (show (vec (zs 256)).size = (vec tbl).size by rw [vec_size, vec_size]; rfl)
  generalize (zs 256).getD 0 0 = z0 at *
  clear T1 T2 hpl hZ
  go_enter Try.func24, Try.ntmps24
  go_upto_region 2 with fail
  rw [← hW]
  clear hW
  go_upto_region 3 with fail
  generalize W.setCell ⟨w.heap.size + 1, 0, none⟩ (.int .u8 1) = W2 at *
  clear f0 c0
  go_wp2_with fail
  go_loopw [2] (fun i wr => ∃ m n : Nat, n < 256 ∧ Hid (m = n + 1) ∧ i = .int .i64 m ∧ PX w (mixP PL (zs 256) m) wr) (fun i _ => 256 - (intOf i).toNat)
  case atStart => exact ⟨1, 0, by omega, Lib.hid rfl, rfl, HT2.out⟩
  case round =>
    obtain ⟨m, n, hn, hm, rfl, BB⟩ := hrel
    have hm' := hm.out
    have hmn : (m : Int) - 1 = (n : Int) := by omega
    by_cases hlt : m < 256
    · have hmz : (m : Int) < 256 := by omega
      have hnz : (n : Int) < 256 := by omega
      have hlen : (mixP PL (zs 256) m).length = 256 := by rw [mixP_len HP.out, zs_len]
      have c1 := BB.b1.cell (j := n) (by rw [hlen]; omega)
      rw [mixP_new HP.out (by omega), PL_at (by omega)] at c1
      have c2 := BB.b1.cell (j := m) (by rw [hlen]; exact hlt)
      have f2 := BB.b1.frozen m
      have hst := BB.s1 m (PL.getD m 0)
      rw [mixP_set HP.out (by rw [zs_len]; exact hlt), PL_at hlt] at hst
      have hp : p3 m = tms (p3 n) 3 := by rw [hm']; rfl
      have TT := Lib.hid (fun w => (show Calls Try.prog 27 #[.int .u8 ((p3 n : Nat) : Int), .int .u8 3] w (Same w (.int .u8 ((p3 m : Nat) : Int))) from by rw [hp]; exact times_any (p3 n) 3 w (p3_lt n) (by decide)))
      have hy := p3_lt m
      have HS := Lib.hid hst
      have H1 := Lib.hid hm'
      generalize (mixP PL (zs 256) m).getD m 0 = old at *
      generalize p3 n = x at *
      generalize p3 m = y at *
      clear hst hp BB hlen hm hm'
      go_wp2_with (first | (go_at_call 27; (with_reducible refine (TT.out _).mono ?_); rintro e w1 ⟨rfl, rfl⟩))
      go_roundw
      case rel => exact ⟨m + 1, m, hlt, Lib.hid rfl, by go_num, HS.out⟩
      case measure => simp [intOf]; omega
    · have e : m = 256 := by omega
      subst e
      have hf : mixP PL (zs 256) 256 = PL := by have := mixP_full HP.out; rwa [zs_len] at this
      rw [hf] at BB
      have hO := BB.out (zs 256)
      rw [HZ.out] at hO
      have HO := Lib.hid hO
      have HSZ := Lib.hid BB.sz
      have RT := Lib.hid (fun w => (show Calls Try.prog 32 #[.int .u8 0] w (Drew (.int .u8 ((rturn 0 : Nat) : Int)) w) from rturn_any 0 w (by decide)))
      clear BB hf hlt hm hm' hmn hn
      go_upto_region 8 with fail
      rw [HSZ.out]
      have HO2 := HO.out
      generalize wr.alloc (.cells Z 47) = w3 at *
      have c0 := HO2.b2.cell (j := 0) (by rw [zs_len]; decide)
      have f0 := HO2.b2.frozen 0
      have hO3 := HO2.s2 0 (rturn 0)
      rw [show (zs 256).set 0 (rturn 0) = outS 0 from rfl] at hO3
      have HO3 := Lib.hid hO3
      generalize (zs 256).getD 0 0 = z0 at *
      generalize rturn 0 = r0 at *
      clear hO3 HO HO2 hzv
      go_upto_region 9 with (first | (go_at_call 32; (with_reducible refine (RT.out _).mono ?_); rintro e w4 ⟨rfl, j4, rfl⟩))
      have HO4 : Hid (BX w (outS 0) ((w3.drewN j4).setCell ⟨w.heap.size + 1 + 1, 0, none⟩ (.int .u8 (r0 : Int)))) := Lib.hid (HO3.out.heap rfl rfl rfl rfl)
      generalize (w3.drewN j4).setCell ⟨w.heap.size + 1 + 1, 0, none⟩ (.int .u8 (r0 : Int)) = w5 at *
      clear HO3 c0 f0 RT
      go_wp2_with fail
      go_loopw [4] (fun i wr => ∃ n : Nat, n ≤ 255 ∧ i = .int .i64 n ∧ BX w (outS n) wr) (fun i _ => 255 - (intOf i).toNat)
      case atStart => exact ⟨0, by omega, rfl, HO4.out⟩
      case round =>
        obtain ⟨n, hn, rfl, BB⟩ := hrel
        by_cases hlt : n < 255
        · have hnz : (n : Int) < 255 := by omega
          obtain ⟨m, hm⟩ : ∃ m, m = 255 - n := ⟨_, rfl⟩
          have hmz : (255 : Int) - (n : Int) = (m : Int) := by omega
          have mz : (m : Int) < 256 := by omega
          have mn : m < 256 := by omega
          have nn : n < 256 := by omega
          have nz2 : (n : Int) < 256 := by omega
          have wz : IntKind.i64.wrap (m : Int) = (m : Int) := IntWalk.i64_in _ (by omega)
          have c1 := BB.b1.cell (j := n) (by rw [PL_len]; exact nn)
          have c2 := BB.b1.cell (j := m) (by rw [PL_len]; exact mn)
          rw [PL_at nn] at c1
          rw [PL_at mn] at c2
          have hx := p3_lt n
          have hy := p3_lt m
          have hso : outS (n + 1) = (outS n).set (p3 n) (rturn (p3 m)) := by rw [hm]; rfl
          have HS := Lib.hid (fun (w' : World) (B : BX w (outS n) w') => hso ▸ B.s2 (p3 n) (rturn (p3 m)))
          have RT := Lib.hid (fun w => rturn_any (p3 m) w hy)
          have c3 := BB.b2.cell (j := p3 n) (by rw [outS_len]; exact hx)
          have f3 := BB.b2.frozen (p3 n)
          have hb := Lib.hid BB
          generalize (outS n).getD (p3 n) 0 = old at *
          generalize rturn (p3 m) = r at *
          generalize p3 n = x at *
          generalize p3 m = y at *
          have xz : (x : Int) < 256 := by omega
          clear hso BB hm
          go_upto_region 12 with fail
          refine Go.Proofs.Ytknemkekmahdmaa.lastC.wp_region_last 9 (by kernel_rfl) (by kernel_rfl) (by kernel_rfl) (by kernel_rfl) ?_
          simp only [List.take_succ_cons, List.take_zero, List.drop_succ_cons, List.drop_zero]
          repeat (first | go_big_quiet_step ((go_at_call 32; exact Calls.quiet_of (RT.out _))) | quiet_step ((go_at_call 32; exact Calls.quiet_of (RT.out _))))
          refine wpQuiet_nil ?_
          intro w2 hw2
          obtain ⟨n2, hw3⟩ := hw2
          subst hw3
          have HS2 := Lib.hid (HS.out _ (hb.out.heap (w' := wr.drewN n2) rfl rfl rfl rfl))
          go_wp2_with fail
          go_roundw
          case rel => exact ⟨n + 1, by omega, by go_num, HS2.out⟩
          case measure => simp [intOf]; omega
        · have e : n = 255 := by omega
          subst e
          rw [out_all] at BB
          have G1 := Lib.hid BB.b2.row
          have G2 := Lib.hid BB.b0.row
          have BQ := Lib.hid BB.bel
          have OT := Lib.hid (vec_one tbl)
          generalize vec tbl = T at *
          clear BB hlt hn
          go_wp2_with (first
            | (refine wpList_load_row rfl 47 (.tmp 3) rfl (w.heap.size + 1 + 1) rfl _ _ _ _ G1.out Try.underlying47 rfl UT.out ?_)
            | (refine wpList_store_row rfl 47 (.tmp 0) (.tmp 32) rfl w.heap.size _ rfl rfl _ _ G2.out UT.out ZT.out OT.out ?_))
          refine bodyPost_ret (v := .agg T) (results_cell_row Try.results24 _ _ w.heap.size _ _ _ _ (by rfl) (setRow_heap _ _ _ _ _ _ G2.out) Try.underlying47 rfl UT.out) rfl ⟨rfl, ?_⟩
          exact below_setRow BQ.out (by omega) _
end Go.Proofs.Ytknemkekmahdmaa.aesC
