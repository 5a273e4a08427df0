/-
  The program's Pick; what the laws ask of the program.
-/
import Derived.Test.YtblgkojeholbnaaDrR
namespace Go.Proofs.Ytblgkojeholbnaa.ieC
open Go.ChangeShapes Go.WideShapes Go.ChangeAt Go.RowKit
open Go.Proofs.Ytblgkojeholbnaa.memC Go.Proofs.Ytblgkojeholbnaa.genC Go.Proofs.Ytblgkojeholbnaa.butC Go.Proofs.Ytblgkojeholbnaa.freeC
set_option linter.unusedVariables false
/-- where no weight is above 0, no sum is passed -/
theorem lastF_keep : ∀ (l : List Nat) (i : Nat) (a : Int), 0 ≤ a → 0 ≤ lastF l i a
  | [], _, a, h => h
  | w :: r, i, a, h => by unfold lastF; exact lastF_keep r _ _ (by split <;> omega)
theorem lastF_none : ∀ (l : List Nat) (i : Nat), lastF l i (-1) < 0 → ∀ w ∈ l, weightB w = 0
  | [], _, _ => by simp
  | x :: r, i, h => by
    unfold lastF at h
    by_cases hx : 0 < weightB x
    · rw [if_pos hx] at h
      have := lastF_keep r (i + 1) (i : Int) (by omega)
      omega
    · rw [if_neg hx] at h
      intro w hw
      rcases List.mem_cons.1 hw with rfl | hw
      · omega
      · exact lastF_none r _ h w hw
theorem pick_none {Q : Nat → Bool} (hQ : Q 0 = false) : ∀ (l : List Nat) (i : Nat), (∀ w ∈ l, weightB w = 0) → pickQ Q 0 l i = none
  | [], _, _ => rfl
  | x :: r, i, h => by
    have h0 : plus 0 (weightB x) = 0 := by rw [h x (by simp)]; decide
    rw [pickQ_cons, h0, hQ, if_neg (by simp)]
    exact pick_none hQ r _ (fun w hw => h w (by simp [hw]))
theorem below_zero (p : Option Nat) : belowB p 0 = false := by
  cases p with
  | none => rfl
  | some v => simp [belowB]
theorem pickB_is (d : Nat) (ws : List Nat) : pickB d ws = match pickQ (belowB (Ieee.double.mul (drawB d) (sumB ws))) 0 ws 0 with | some i => (i : Int) | none => lastB ws := by
  unfold pickB
  by_cases h : lastB ws < 0
  · have h1 : lastB ws = -1 := by have := lastB_lt ws; omega
    rw [if_pos h, pick_none (below_zero _) ws 0 (lastF_none ws 0 h), h1]
  · rw [if_neg h]; rfl
set_option maxRecDepth 100000 in
set_option maxHeartbeats 2000000 in
theorem ppick_any {d : Nat} (hd : d < 18446744073709551616) (A : Option Addr) (n c : Nat) (ws : List Nat) (w : World) (h : FlsE w w.heap.size A n ws) (hn : n ≤ 1000000) :
    Calls Try.prog 22 #[.float .f64 d, .slice A n c] w (RetB w (.int .i64 (pickB d ws))) := by
  have HW := Lib.hid h
  have HN := Lib.hid hn
  have D1 := Lib.hid (fun w' => pdraw_any hd w')
  have T1 := Lib.hid (ptotal_any A n c ws w h hn)
  have AT := at_all (draw_le hd) (sum_le h.ok)
  have PB := Lib.hid (pickB_is d ws)
  clear h hn hd
  obtain ⟨Q, hQd⟩ : ∃ Q, Q = belowB (Ieee.double.mul (drawB d) (sumB ws)) := ⟨_, rfl⟩
  rw [← hQd] at PB
  generalize drawB d = DD at *
  generalize hSS : sumB ws = SS at *
  rcases AT with ⟨h1, -, -⟩ | ⟨v, h1, h2⟩
  · go_enter Try.func22, Try.ntmps22
    go_upto_region 2 with (first
      | (go_at_call 14; (refine (D1.out _).mono ?_); rintro e w3 ⟨rfl, hw⟩; obtain rfl := hw.symm)
      | (go_at_call 32; (refine T1.out.mono ?_); rintro e w3 ⟨rfl, hw⟩; obtain rfl := hw.symm)
      | (refine wpList_nan rfl (.tmp 11) (.tmp 13) rfl rfl rfl h1 ?_; intro bb w9 hnan hb9; have B9 := Lib.hid hb9; have HNAN := Lib.hid hnan; clear hb9 hnan))
    have HQ := Lib.hid (show ∀ s, s ≤ 9218868437227405312 → (FloatKind.f64.format.order bb s == some .lt) = Q s from fun s _ => by
      obtain ⟨s1, f1, hr⟩ := HNAN.out
      show (Ieee.double.order bb s == some .lt) = Q s
      rw [order_nan hr, hQd, h1]; rfl)
    clear h1 hQd hSS D1 T1 HNAN
    go_upto_region 4 with fail
    go_loopw [6, 7, 17] (fun u v z wz => ∃ i : Nat, i ≤ n ∧ u = .float .f64 (sumB (ws.take i)) ∧ v = .int .i64 (lastB (ws.take i)) ∧ z = .int .i64 i ∧ pickQ Q 0 ws 0 = pickQ Q (sumB (ws.take i)) (ws.drop i) i ∧ wz = w9) (fun u v z _ => n - (intOf z).toNat)
    case atStart => exact ⟨0, by omega, rfl, rfl, rfl, rfl, rfl⟩
    case round =>
      obtain ⟨i, hi, rfl, rfl, rfl, hpk, rfl⟩ := hrel
      have HPK := Lib.hid hpk
      clear hpk
      by_cases hlt : i < n
      rotate_left
      · have ei : n = i := by omega
        subst ei
        have q6 : ¬ (n : Int) < (n : Int) := by omega
        rw [show ws.take n = ws from List.take_of_length_le (by rw [HW.out.len]; exact Nat.le_refl _)]
        have hend := Lib.hid (show pickB d ws = lastB ws by
          have h1 := HPK.out
          rw [show ws.drop n = [] from List.drop_of_length_le (by rw [HW.out.len]; exact Nat.le_refl _)] at h1
          rw [PB.out, h1]; rfl)
        clear hi hlt
        go_wp2_with fail
        go_ret
        exact ⟨by rw [hend.out]; rfl, B9.out⟩
      have q6 : (i : Int) < (n : Int) := by omega
      have wi : IntKind.i64.wrap ((i : Int) + 1) = (i : Int) + 1 := IntWalk.i64_in _ (by have := HN.out; omega)
      obtain ⟨x, hx⟩ : ∃ x, ws[i]? = some x := ⟨_, List.getElem?_eq_getElem (by rw [HW.out.len]; exact hlt)⟩
      have ox := HW.out.ok x (List.mem_of_getElem? hx)
      obtain ⟨b1, o1, hA1, hb1, c1⟩ := HW.out.at_ (by omega)
      have c0 : wr.cell? ⟨b1, o1 + i, none⟩ = some (.float .f64 x) := (B9.out.cell (p := ⟨b1, o1 + i, none⟩) hb1).trans (c1 i x hx)
      have RW := Lib.hid (fun w' => pweight_any ox w')
      have hs := sum_le (ws := ws.take i) (fun y hy => HW.out.ok y (List.mem_of_mem_take hy))
      obtain ⟨p1, p2, -, -⟩ := plus_all hs (weight_lt ox)
      have HSN := Lib.hid (show sumB (ws.take (i + 1)) = plus (sumB (ws.take i)) (weightB x) by rw [take_snoc hx, sumB_snoc])
      have HLN := Lib.hid (show lastB (ws.take (i + 1)) = if 0 < weightB x then (i : Int) else lastB (ws.take i) by rw [take_snoc hx, lastB_snoc, List.length_take, HW.out.len, Nat.min_eq_left (by omega)])
      have r1 := arith (op := .add) (x := sumB (ws.take i)) (y := weightB x) p1
      have HDR := Lib.hid (show ws.drop i = x :: ws.drop (i + 1) by
        obtain ⟨h2, h3⟩ := List.getElem?_eq_some_iff.1 hx
        rw [List.drop_eq_getElem_cons h2, h3])
      have hq0 := HQ.out _ p2
      have hq1 : (FloatKind.f64.format.order (weightB x) 0 == some .gt) = decide (0 < weightB x) := gt0_all (by have := weight_lt ox; omega)
      have HI := Lib.hid hlt
      subst hA1
      generalize hPS : plus (sumB (ws.take i)) (weightB x) = PS at *
      generalize hSI : sumB (ws.take i) = SI at *
      generalize lastB (ws.take i) = LI at *
      generalize hWX : weightB x = WX at *
      cases hq : Q PS
      · rw [hq] at hq0
        have HNX := Lib.hid (show pickQ Q 0 ws 0 = pickQ Q PS (ws.drop (i + 1)) (i + 1) by
          rw [HPK.out, HDR.out]
          rw [pickQ_cons, hWX, hPS, hq, if_neg (by simp)])
        by_cases hp : 0 < WX
        · rw [decide_eq_true hp] at hq1
          rw [if_pos hp] at HLN
          clear hi hlt hx ox hb1 c1 hs p1 p2 hq hPS hSI hWX hp
          go_wp2_with (first
            | (go_at_call 33; (refine (RW.out _).mono ?_); rintro e w3 ⟨rfl, hw⟩; obtain rfl := hw.symm))
          go_roundw
          case rel => exact ⟨i + 1, HI.out, by rw [HSN.out], by rw [HLN.out], by simp, by rw [HSN.out]; exact HNX.out, by first | rfl | trivial⟩
          case measure => have := HI.out; simp [intOf]; omega
        · rw [decide_eq_false hp] at hq1
          rw [if_neg hp] at HLN
          clear hi hlt hx ox hb1 c1 hs p1 p2 hq hPS hSI hWX hp
          go_wp2_with (first
            | (go_at_call 33; (refine (RW.out _).mono ?_); rintro e w3 ⟨rfl, hw⟩; obtain rfl := hw.symm))
          go_roundw
          case rel => exact ⟨i + 1, HI.out, by rw [HSN.out], by rw [HLN.out], by simp, by rw [HSN.out]; exact HNX.out, by first | rfl | trivial⟩
          case measure => have := HI.out; simp [intOf]; omega
      · rw [hq] at hq0
        have hend := Lib.hid (show pickB d ws = (i : Int) by
          have h1 : pickQ Q 0 ws 0 = some i := by
            rw [HPK.out, HDR.out]
            rw [pickQ_cons, hWX, hPS, hq, if_pos rfl]
          rw [PB.out, h1])
        by_cases hp : 0 < WX
        · rw [decide_eq_true hp] at hq1
          clear hi hlt hx ox hb1 c1 hs p1 p2 hq hPS hSI hWX hp HLN
          go_wp2_with (first
            | (go_at_call 33; (refine (RW.out _).mono ?_); rintro e w3 ⟨rfl, hw⟩; obtain rfl := hw.symm))
          go_ret
          exact ⟨by rw [hend.out]; rfl, B9.out⟩
        · rw [decide_eq_false hp] at hq1
          clear hi hlt hx ox hb1 c1 hs p1 p2 hq hPS hSI hWX hp HLN
          go_wp2_with (first
            | (go_at_call 33; (refine (RW.out _).mono ?_); rintro e w3 ⟨rfl, hw⟩; obtain rfl := hw.symm))
          go_ret
          exact ⟨by rw [hend.out]; rfl, B9.out⟩
  · have r0 := arith (op := .mul) (x := DD) (y := SS) h1
    have HQ := Lib.hid (show ∀ s, s ≤ 9218868437227405312 → (FloatKind.f64.format.order v s == some .lt) = Q s from fun s hs => by
      show (Ieee.double.order v s == some .lt) = Q s
      rw [order_all h2 hs, hQd, h1]
      unfold belowB
      rcases Nat.lt_trichotomy v s with q | q | q
      · rw [Nat.compare_eq_lt.2 q]; simp [q]
      · rw [Nat.compare_eq_eq.2 q]; simp; omega
      · rw [Nat.compare_eq_gt.2 q]; simp; omega)
    clear h1 h2 hQd hSS
    have B9 := Lib.hid (Below.refl w.heap.size w)
    go_enter Try.func22, Try.ntmps22
    go_upto_region 2 with (first
      | (go_at_call 14; (refine (D1.out _).mono ?_); rintro e w3 ⟨rfl, hw⟩; obtain rfl := hw.symm)
      | (go_at_call 32; (refine T1.out.mono ?_); rintro e w3 ⟨rfl, hw⟩; obtain rfl := hw.symm))
    clear r0 D1 T1
    go_upto_region 4 with fail
    go_loopw [6, 7, 17] (fun u v z wz => ∃ i : Nat, i ≤ n ∧ u = .float .f64 (sumB (ws.take i)) ∧ v = .int .i64 (lastB (ws.take i)) ∧ z = .int .i64 i ∧ pickQ Q 0 ws 0 = pickQ Q (sumB (ws.take i)) (ws.drop i) i ∧ wz = w) (fun u v z _ => n - (intOf z).toNat)
    case atStart => exact ⟨0, by omega, rfl, rfl, rfl, rfl, rfl⟩
    case round =>
      obtain ⟨i, hi, rfl, rfl, rfl, hpk, rfl⟩ := hrel
      have HPK := Lib.hid hpk
      clear hpk
      by_cases hlt : i < n
      rotate_left
      · have ei : n = i := by omega
        subst ei
        have q6 : ¬ (n : Int) < (n : Int) := by omega
        rw [show ws.take n = ws from List.take_of_length_le (by rw [HW.out.len]; exact Nat.le_refl _)]
        have hend := Lib.hid (show pickB d ws = lastB ws by
          have h1 := HPK.out
          rw [show ws.drop n = [] from List.drop_of_length_le (by rw [HW.out.len]; exact Nat.le_refl _)] at h1
          rw [PB.out, h1]; rfl)
        clear hi hlt
        go_wp2_with fail
        go_ret
        exact ⟨by rw [hend.out]; rfl, B9.out⟩
      have q6 : (i : Int) < (n : Int) := by omega
      have wi : IntKind.i64.wrap ((i : Int) + 1) = (i : Int) + 1 := IntWalk.i64_in _ (by have := HN.out; omega)
      obtain ⟨x, hx⟩ : ∃ x, ws[i]? = some x := ⟨_, List.getElem?_eq_getElem (by rw [HW.out.len]; exact hlt)⟩
      have ox := HW.out.ok x (List.mem_of_getElem? hx)
      obtain ⟨b1, o1, hA1, hb1, c1⟩ := HW.out.at_ (by omega)
      have c0 : wr.cell? ⟨b1, o1 + i, none⟩ = some (.float .f64 x) := (B9.out.cell (p := ⟨b1, o1 + i, none⟩) hb1).trans (c1 i x hx)
      have RW := Lib.hid (fun w' => pweight_any ox w')
      have hs := sum_le (ws := ws.take i) (fun y hy => HW.out.ok y (List.mem_of_mem_take hy))
      obtain ⟨p1, p2, -, -⟩ := plus_all hs (weight_lt ox)
      have HSN := Lib.hid (show sumB (ws.take (i + 1)) = plus (sumB (ws.take i)) (weightB x) by rw [take_snoc hx, sumB_snoc])
      have HLN := Lib.hid (show lastB (ws.take (i + 1)) = if 0 < weightB x then (i : Int) else lastB (ws.take i) by rw [take_snoc hx, lastB_snoc, List.length_take, HW.out.len, Nat.min_eq_left (by omega)])
      have r1 := arith (op := .add) (x := sumB (ws.take i)) (y := weightB x) p1
      have HDR := Lib.hid (show ws.drop i = x :: ws.drop (i + 1) by
        obtain ⟨h2, h3⟩ := List.getElem?_eq_some_iff.1 hx
        rw [List.drop_eq_getElem_cons h2, h3])
      have hq0 := HQ.out _ p2
      have hq1 : (FloatKind.f64.format.order (weightB x) 0 == some .gt) = decide (0 < weightB x) := gt0_all (by have := weight_lt ox; omega)
      have HI := Lib.hid hlt
      subst hA1
      generalize hPS : plus (sumB (ws.take i)) (weightB x) = PS at *
      generalize hSI : sumB (ws.take i) = SI at *
      generalize lastB (ws.take i) = LI at *
      generalize hWX : weightB x = WX at *
      cases hq : Q PS
      · rw [hq] at hq0
        have HNX := Lib.hid (show pickQ Q 0 ws 0 = pickQ Q PS (ws.drop (i + 1)) (i + 1) by
          rw [HPK.out, HDR.out]
          rw [pickQ_cons, hWX, hPS, hq, if_neg (by simp)])
        by_cases hp : 0 < WX
        · rw [decide_eq_true hp] at hq1
          rw [if_pos hp] at HLN
          clear hi hlt hx ox hb1 c1 hs p1 p2 hq hPS hSI hWX hp
          go_wp2_with (first
            | (go_at_call 33; (refine (RW.out _).mono ?_); rintro e w3 ⟨rfl, hw⟩; obtain rfl := hw.symm))
          go_roundw
          case rel => exact ⟨i + 1, HI.out, by rw [HSN.out], by rw [HLN.out], by simp, by rw [HSN.out]; exact HNX.out, by first | rfl | trivial⟩
          case measure => have := HI.out; simp [intOf]; omega
        · rw [decide_eq_false hp] at hq1
          rw [if_neg hp] at HLN
          clear hi hlt hx ox hb1 c1 hs p1 p2 hq hPS hSI hWX hp
          go_wp2_with (first
            | (go_at_call 33; (refine (RW.out _).mono ?_); rintro e w3 ⟨rfl, hw⟩; obtain rfl := hw.symm))
          go_roundw
          case rel => exact ⟨i + 1, HI.out, by rw [HSN.out], by rw [HLN.out], by simp, by rw [HSN.out]; exact HNX.out, by first | rfl | trivial⟩
          case measure => have := HI.out; simp [intOf]; omega
      · rw [hq] at hq0
        have hend := Lib.hid (show pickB d ws = (i : Int) by
          have h1 : pickQ Q 0 ws 0 = some i := by
            rw [HPK.out, HDR.out]
            rw [pickQ_cons, hWX, hPS, hq, if_pos rfl]
          rw [PB.out, h1])
        by_cases hp : 0 < WX
        · rw [decide_eq_true hp] at hq1
          clear hi hlt hx ox hb1 c1 hs p1 p2 hq hPS hSI hWX hp HLN
          go_wp2_with (first
            | (go_at_call 33; (refine (RW.out _).mono ?_); rintro e w3 ⟨rfl, hw⟩; obtain rfl := hw.symm))
          go_ret
          exact ⟨by rw [hend.out]; rfl, B9.out⟩
        · rw [decide_eq_false hp] at hq1
          clear hi hlt hx ox hb1 c1 hs p1 p2 hq hPS hSI hWX hp HLN
          go_wp2_with (first
            | (go_at_call 33; (refine (RW.out _).mono ?_); rintro e w3 ⟨rfl, hw⟩; obtain rfl := hw.symm))
          go_ret
          exact ⟨by rw [hend.out]; rfl, B9.out⟩
/-- what the laws ask of the program -/
theorem frD : FrD where
  chance := fun x w hx => (pchance_any hx w).mono fun _ _ h => h.ret
  draw := fun x w hx => (pdraw_any hx w).mono fun _ _ h => h.ret
  hit := fun p d w hp hd => (phit_any hp hd w).mono fun _ _ h => h.ret
  pick := fun d A n c ws w hd h hn _ _ => ppick_any hd A n c ws w h (by omega)
  delay := fun mean most d w hm _ h2 hd => (pdelay_any hm h2 hd w).mono fun _ _ h => h.ret
  mix := fun a b s w ha hb hs => (pmix_any ha hb hs w).mono fun _ _ h => h.ret
  bits := fun x w hx => (pbits_any x w).mono fun _ _ h => h.ret
  same := fun x y w hx hy => (psame_any x y w).mono fun _ _ h => h.ret
theorem aliveD : Alive := alive_any frD
end Go.Proofs.Ytblgkojeholbnaa.ieC
