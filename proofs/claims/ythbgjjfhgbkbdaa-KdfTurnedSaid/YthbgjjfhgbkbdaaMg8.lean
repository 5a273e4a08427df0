/-
  1 texts of a proof, joined.
-/
import Derived.Test.YthbgjjfhgbkbdaaMg7
import Derived.Test.YthbgjjfhgbkbdaaMg5

/-
  The code's sha: a block mixed in.
-/
namespace Go.Proofs.Ythbgjjfhgbkbdaa.shaC
open Go.ChangeShapes Go.WideShapes Go.ChangeAt Go.RowKit
open Go.Proofs.Ythbgjjfhgbkbdaa.memC Go.Proofs.Ythbgjjfhgbkbdaa.genC Go.Proofs.Ythbgjjfhgbkbdaa.shaM Go.Proofs.Ythbgjjfhgbkbdaa.shaN Go.Proofs.Ythbgjjfhgbkbdaa.butC
set_option linter.unusedVariables false
/-- what lies in memory while a block is mixed in -/
structure MR (w : World) (k n : Nat) (g r ws : List Int) (b : Nat) (wr : World) : Prop where
  sum : SumAt wr k g r n
  arr : Arr .u32 101 wr b ws
  but : But k w wr
  lt : w.heap.size ≤ b
theorem MR.heap {w wr w' : World} {k n b : Nat} {g r ws : List Int} (B : MR w k n g r ws b wr) (e : w'.heap = wr.heap) (e1 : w'.os = wr.os) (e2 : w'.tape = wr.tape) (e3 : w'.output = wr.output) : MR w k n g r ws b w' :=
  ⟨B.sum.heap e, B.arr.heap e, B.but.heap e e1 e2 e3, B.lt⟩
theorem MR.below {w wr w' : World} {k n b : Nat} {g r ws : List Int} (B : MR w k n g r ws b wr) (h : Below wr.heap.size wr w') : MR w k n g r ws b w' :=
  ⟨B.sum.below h B.sum.lt, B.arr.below h B.arr.lt, B.but.trans (But.below h), B.lt⟩
theorem MR.g {w wr : World} {k n b : Nat} {g r ws : List Int} (B : MR w k n g r ws b wr) (hk : k < w.heap.size) {j : Nat} (hj : j < 5) (x : Int) : MR w k n (g.set j x) r ws b (wr.setCell ⟨k, j, none⟩ (.int .u32 x)) :=
  ⟨B.sum.setg hj x, B.arr.other (by show k ≠ b; have := B.lt; omega) _, B.but.setCell j _, B.lt⟩
theorem rotl5 (n : Int) (w : World) (h : W32 n) : Calls Try.prog 65 #[.int .u32 n, .int .i64 5] w fun e w' => e = .returned (.int .u32 (rol n 5)) ∧ ∃ j, w' = w.drewN j :=
  (rotl_any n 5 w h (by omega)).mono fun e w' h2 => ⟨h2.1, 0, h2.2.symm⟩
theorem rotl30 (n : Int) (w : World) (h : W32 n) : Calls Try.prog 65 #[.int .u32 n, .int .i64 30] w fun e w' => e = .returned (.int .u32 (rol n 30)) ∧ ∃ j, w' = w.drewN j :=
  (rotl_any n 30 w h (by omega)).mono fun e w' h2 => ⟨h2.1, 0, h2.2.symm⟩
theorem sumC_rest {n : Nat} {g r : List Int} (hg : g.length = 5) (hr : r.length = 64) (r' : List Int) (hr' : r'.length = 64) :
    (sumC g r n).take 5 ++ (r'.map (Value.int .u8) ++ (sumC g r n).drop (5 + r'.length)) = sumC g r' n := by
  have e1 : (sumC g r n).take 5 = g.map (Value.int .u32) := by unfold sumC; exact List.take_left' (by simp [hg])
  have e2 : (sumC g r n).drop (5 + r'.length) = [.int .u64 (n : Int)] := by
    have : sumC g r n = (g.map (Value.int .u32) ++ r.map (Value.int .u8)) ++ [.int .u64 (n : Int)] := by unfold sumC; rw [List.append_assoc]
    rw [this]; exact List.drop_left' (by simp [hg, hr, hr'])
  rw [e1, e2]; rfl
theorem zero64_built : Try.prog.built 69 [] = some ((zs 64).map (Value.int .u8)).toArray := by kernel_rfl
def StR (ws h : List Int) (t : Nat) (a b c d e : Value) : Prop :=
  ∃ x0 x1 x2 x3 x4, a = .int .u32 x0 ∧ b = .int .u32 x1 ∧ c = .int .u32 x2 ∧ d = .int .u32 x3 ∧ e = .int .u32 x4 ∧ steps ws h t = [x0, x1, x2, x3, x4]
def mixG (g r : List Int) : List Int := List.zipWith ad g (steps (sched r 80) (List.zipWith ad initH g) 80)
def MixRet (w : World) (k n : Nat) (g r : List Int) (e : Ending) (w' : World) : Prop := e = .returned (.tuple #[]) ∧ SumAt w' k (mixG g r) (zs 64) n ∧ But k w w'
set_option maxRecDepth 100000 in
set_option maxHeartbeats 1000000 in
theorem mix_any (k n : Nat) (g r : List Int) (w : World) (h : SumAt w k g r n) (hy : ∀ x ∈ r, Byte x) :
    Calls Try.prog 52 #[.pointer (some ⟨k, 0, none⟩)] w (MixRet w k n g r) := by
  obtain ⟨Z, hZ⟩ : ∃ Z, Z = ((List.replicate 80 (0 : Int)).map (Value.int .u32)).toArray := ⟨_, rfl⟩
  have hzv := zero80
  rw [← hZ] at hzv
  have HZ := Lib.hid hZ
  have HY := Lib.hid hy
  have lk := h.lt
  have H := Lib.hid h
  have HBk := Lib.hid h.block
  have U1 := Lib.hid (show (Try.prog.info? 69).map (·.size) = some (r.map (Value.int .u8)).length by rw [block_info]; simp [h.lr])
  have hsl := sched_len r 80
  obtain ⟨S, hS⟩ : ∃ S, S = ((sched r 80).map (Value.int .u32)).toArray := ⟨_, rfl⟩
  have U2 := Lib.hid (show (Try.prog.info? 101).map (·.size) = some S.size by rw [eighty_info, hS]; simp [hsl])
  have SO := Lib.hid (show S.all (·.oneCell') = true by rw [hS]; exact nums_one32 _)
  have ZS := Lib.hid (show Z.size = S.size by rw [hZ, hS]; simp [hsl])
  have SP := Lib.hid ((spread_any r w h.lr hy).mono fun e w' h2 => (show e = .returned (.agg S) ∧ Below w.heap.size w w' from ⟨by rw [hS]; exact h2.1, h2.2⟩))
  have HS := Lib.hid hS
  clear hZ hS hsl h hy
  go_enter Try.func52, Try.ntmps52
  go_upto_region 1 with (first
    | (refine Go.Proofs.Ythbgjjfhgbkbdaa.partC.wpList_load_part rfl 69 (.tmp 16) rfl k 5 rfl (r.map (Value.int .u8)) _ HBk.out Try.underlying69 rfl U1.out ?_)
    | (go_at_call 63; (with_reducible refine SP.out.mono ?_); rintro e w1 ⟨rfl, B1⟩)
    | (refine wpList_store_row rfl 101 (.tmp 2) (.tmp 18) rfl w1.heap.size S rfl rfl _ _ (heap_alloc_new _ _) U2.out ZS.out SO.out ?_))
  rw [World.setRow_alloc_new]
  have M1 : MR w k n g r (sched r 80) w1.heap.size (w1.alloc (.cells S 101)) :=
    ⟨(H.out.below B1 lk).alloc _, by rw [HS.out]; exact Arr.new w1 .u32 101 (sched r 80), (But.below B1).alloc _, B1.size⟩
  generalize w1.alloc (.cells S 101) = w2 at *
  generalize w1.heap.size = b at *
  obtain ⟨h0, h1, h2, h3, h4, hh⟩ := list5 (show (List.zipWith ad initH g).length = 5 by rw [List.length_zipWith, H.out.lg]; rfl)
  have F5 := Lib.hid ((five_any k n g r w2 M1.sum).mono fun e w' h => (show e = .returned (.agg #[.int .u32 h0, .int .u32 h1, .int .u32 h2, .int .u32 h3, .int .u32 h4]) ∧ Below w2.heap.size w2 w' from ⟨by rw [h.1, hh]; rfl, h.2⟩))
  have HH := Lib.hid hh
  have HM := Lib.hid M1
  clear B1 hh M1 hzv
  go_upto_region 2 with (first
    | (go_at_call 53; (with_reducible refine F5.out.mono ?_); rintro e w3 ⟨rfl, B3⟩))
  have M3 := (HM.out.below B3).below (alloc_below w3 (.cells #[.int .u32 h0, .int .u32 h1, .int .u32 h2, .int .u32 h3, .int .u32 h4] 71))
  have A3 := Arr.new w3 .u32 71 [h0, h1, h2, h3, h4]
  change Code.wp _ _ _ _ (w3.alloc (.cells ([h0, h1, h2, h3, h4].map (Value.int .u32)).toArray 71))
  have e3 : w3.alloc (.cells #[.int .u32 h0, .int .u32 h1, .int .u32 h2, .int .u32 h3, .int .u32 h4] 71) = w3.alloc (.cells ([h0, h1, h2, h3, h4].map (Value.int .u32)).toArray 71) := rfl
  rw [e3] at M3
  generalize w3.alloc (.cells ([h0, h1, h2, h3, h4].map (Value.int .u32)).toArray 71) = w4 at *
  have c0 := A3.cell (j := 0) (by simp)
  have c1 := A3.cell (j := 1) (by simp)
  have c2 := A3.cell (j := 2) (by simp)
  have c3 := A3.cell (j := 3) (by simp)
  have c4 := A3.cell (j := 4) (by simp)
  simp only [List.getD_cons_zero, List.getD_cons_succ] at c0 c1 c2 c3 c4
  have HM4 := Lib.hid M3
  clear e3 A3 B3 M3
  go_quiet (fail)
  go_upto_region 3 with fail
  have M5 : MR w k n g r (sched r 80) b (w4.drewN nq) := HM4.out.heap rfl rfl rfl rfl
  clear c0 c1 c2 c3 c4
  generalize w4.drewN nq = w5 at *
  have hw5 : ∀ x ∈ ([h0, h1, h2, h3, h4] : List Int), W32 x := by rw [← HH.out]; exact w32_zip _ _
  have HW := Lib.hid hw5
  have HM5 := Lib.hid M5
  clear hw5 M5
  go_wp2_with fail
  go_loopw [4, 5, 6, 7, 8, 31] (fun a b' c d e i wx => ∃ t : Nat, t ≤ 80 ∧ i = .int .i64 t ∧ StR (sched r 80) [h0, h1, h2, h3, h4] t a b' c d e ∧ MR w k n g r (sched r 80) b wx) (fun _ _ _ _ _ i _ => 80 - (intOf i).toNat)
  case atStart => exact ⟨0, by omega, rfl, ⟨h0, h1, h2, h3, h4, rfl, rfl, rfl, rfl, rfl, rfl⟩, HM5.out⟩
  case round =>
    obtain ⟨t, ht, rfl, ⟨x0, x1, x2, x3, x4, rfl, rfl, rfl, rfl, rfl, hx⟩, MM⟩ := hrel
    have HB := Lib.hid MM
    have hS := steps_w32 (ws := sched r 80) (h := [h0, h1, h2, h3, h4]) rfl HW.out t
    rw [hx] at hS
    have k0 := hS x0 (by simp)
    have k1 := hS x1 (by simp)
    have k2 := hS x2 (by simp)
    have k3 := hS x3 (by simp)
    have k4 := hS x4 (by simp)
    have HX := Lib.hid hx
    clear hS hx
    by_cases hlt : t < 80
    · have cw := MM.arr.cell (j := t) (by rw [sched_len]; exact hlt)
      have kw : W32 ((sched r 80).getD t 0) := by
        rw [List.getD_eq_getElem?_getD, List.getElem?_eq_getElem (by rw [sched_len]; exact hlt)]
        exact sched_w32 HY.out H.out.lr 80 _ (List.getElem_mem _)
      obtain ⟨y, hyw⟩ : ∃ y, y = (sched r 80).getD t 0 := ⟨_, rfl⟩
      rw [← hyw] at cw kw
      have HT := Lib.hid (step_eq HX.out hyw)
      have PK := Lib.hid (fun w => pick_any t x1 x2 x3 w hlt k1 k2 k3)
      have R0 := Lib.hid (fun w => rotl5 x0 w k0)
      have R1 := Lib.hid (fun w => rotl30 x1 w k1)
      have hl4 : (t : Int) < 80 := by omega
      obtain ⟨k00, k01⟩ := k0
      obtain ⟨k40, k41⟩ := k4
      obtain ⟨kw0, kw1⟩ := kw
      clear hyw MM
      go_upto_region 7 with (first
        | (go_at_call 64; (with_reducible refine (PK.out _).mono ?_); rintro e w6 ⟨rfl, rfl⟩))
      go_quiet ((go_at_call 65; first | (with_reducible exact Calls.quiet_of (R0.out _)) | (with_reducible exact Calls.quiet_of (R1.out _))))
      go_wp2_with fail
      go_roundw
      case rel =>
        refine ⟨t + 1, by omega, by go_num, ⟨_, _, _, _, _, rfl, rfl, rfl, rfl, rfl, HT.out.trans (by simp only [ad]; congr 1; omega)⟩, HB.out.heap rfl rfl rfl rfl⟩
      case measure => simp [intOf]; omega
    · have e : t = 80 := by omega
      subst e
      have MX : MR w k n (mixL g [x0, x1, x2, x3, x4] 0) r (sched r 80) b wr := MM
      clear hlt ht MM HB k0 k1 k2 k3 k4
      go_wp2_with fail
      go_loopw [66] (fun i wx => ∃ j : Nat, j ≤ 5 ∧ i = .int .i64 j ∧ MR w k n (mixL g [x0, x1, x2, x3, x4] j) r (sched r 80) b wx) (fun i _ => 5 - (intOf i).toNat)
      case atStart => exact ⟨0, by omega, rfl, MX⟩
      case round =>
        obtain ⟨j, hj, rfl, MM⟩ := hrel
        have HB := Lib.hid MM
        by_cases hlt : j < 5
        · have hv : (#[.int .u32 x0, .int .u32 x1, .int .u32 x2, .int .u32 x3, .int .u32 x4] : Array Value)[j]? = some (.int .u32 ([x0, x1, x2, x3, x4].getD j 0)) := by
            rcases (show j = 0 ∨ j = 1 ∨ j = 2 ∨ j = 3 ∨ j = 4 by omega) with rfl | rfl | rfl | rfl | rfl <;> rfl
          have cw := MM.sum.cg (j := j) hlt
          rw [mix_get H.out.lg rfl hlt] at cw
          have fw := MM.sum.frozen j
          obtain ⟨i1, hi1, hs1⟩ := u_info
          have ix : (Instr.index 71 (.agg #[.int .u32 x0, .int .u32 x1, .int .u32 x2, .int .u32 x3, .int .u32 x4]) (.int .i64 (j : Int))).run Try.prog wr = .ok (.int .u32 ([x0, x1, x2, x3, x4].getD j 0)) wr :=
            Go.Proofs.Ythbgjjfhgbkbdaa.idxC.run_idx wr _ _ 5 .u32 i1 _ j _ Try.underlying71 rfl hi1 hs1 hlt hv
          have hst := mix_step (a := g) (b := [x0, x1, x2, x3, x4]) H.out.lg rfl hlt
          have hjz : (j : Int) < 5 := by omega
          generalize [x0, x1, x2, x3, x4].getD j 0 = y at *
          generalize g.getD j 0 = x at *
          have HS := Lib.hid hst
          clear hst MM hv hi1 hs1
          go_upto_region 12 with fail
          go_still_tail 11, (by kernel_rfl)
          change wpList _ _ _ _ _ wr.drew
          go_wp2_with fail
          go_roundw
          case rel =>
            refine ⟨_, _, _, _, _, _, _, _, _, _, _, _, _, _, _, _, _, _, ?_, rfl⟩
            refine ⟨j + 1, by omega, by go_num, ?_⟩
            rw [← HS.out]
            exact (HB.out.g lk hlt _).heap rfl rfl rfl rfl
          case measure => simp [intOf]; omega
        · have e : j = 5 := by omega
          subst e
          have SM := MM.sum
          rw [mix_full H.out.lg rfl, ← HX.out, ← HH.out] at SM
          have SM : SumAt wr k (mixG g r) r n := SM
          have BU := Lib.hid MM.but
          have HSM := Lib.hid SM
          have RW := Lib.hid SM.row
          have U3 := Lib.hid (show (Try.prog.info? 69).map (·.size) = some ((zs 64).map (Value.int .u8)).toArray.size by rw [block_info]; simp [zs])
          have YS := Lib.hid (show 5 + ((zs 64).map (Value.int .u8)).toArray.size ≤ (sumC (mixG g r) r n).toArray.size by simp [zs, sumC, SM.lg, SM.lr])
          have YO := Lib.hid (nums_one (zs 64))
          clear hlt hj MM HB SM
          go_wp2_with (first
            | (refine Go.Proofs.Ythbgjjfhgbkbdaa.partC.wpList_store_part rfl 69 (.tmp 85) (.tmp 83) rfl k 5 ((zs 64).map (Value.int .u8)).toArray rfl rfl _ _ RW.out U3.out YS.out YO.out ?_))
          refine bodyPost_end (results_none rfl _ _ _) rfl ⟨rfl, ⟨?_, HSM.out.lg, by simp [zs]⟩, BU.out.setRow _⟩
          rw [setRow_heap _ _ _ _ _ _ RW.out, sumC_rest HSM.out.lg HSM.out.lr (zs 64) (by simp [zs])]
end Go.Proofs.Ythbgjjfhgbkbdaa.shaC
