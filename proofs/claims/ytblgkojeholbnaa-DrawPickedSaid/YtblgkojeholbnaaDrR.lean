/-
  The program's weights and delays.
-/
import Derived.Test.YtblgkojeholbnaaDrQ
namespace Go.Proofs.Ytblgkojeholbnaa.ieC
open Go.ChangeShapes Go.WideShapes Go.ChangeAt Go.RowKit
open Go.Proofs.Ytblgkojeholbnaa.memC Go.Proofs.Ytblgkojeholbnaa.genC Go.Proofs.Ytblgkojeholbnaa.butC Go.Proofs.Ytblgkojeholbnaa.freeC
set_option linter.unusedVariables false
/-- above the greatest number there is one only -/
theorem above_max {x : Nat} (hx : x < 18446744073709551616) : (Ieee.double.order x 9218868437227405311 == some .gt) = decide (x = 9218868437227405312) := by
  cases h : (Ieee.double.order x 9218868437227405311 == some .gt)
  · rw [decide_eq_false fun e => ?_]
    rw [e, gt_all (by omega) (by omega), decide_eq_true (by omega)] at h
    cases h
  · have := gt_pos hx (by omega) (by omega) h
    rw [decide_eq_true (by omega)]
set_option maxRecDepth 100000 in
theorem isinf_any {x : Nat} (hx : x < 18446744073709551616) (w : World) : Calls Try.prog 36 #[.float .f64 x, .int .i64 1] w (Is w (.bool (decide (x = 9218868437227405312)))) := by
  have q1 : (FloatKind.f64.format.order x 9218868437227405311 == some .gt) = decide (x = 9218868437227405312) := above_max hx
  generalize decide (x = 9218868437227405312) = V at *
  clear hx
  go_enter Try.func36, Try.ntmps36
  go_wp2_with go_skip
  go_ret
  exact ⟨rfl, rfl⟩
set_option maxRecDepth 100000 in
theorem pweight_any {x : Nat} (hx : x < 18446744073709551616) (w : World) : Calls Try.prog 33 #[.float .f64 x] w (Is w (.float .f64 (weightB x))) := by
  have N := Lib.hid (fun w' => isinf_any hx w')
  by_cases h1 : x = 9218868437227405312
  · rw [decide_eq_true h1] at N
    have HV : weightB x = 8660422083433463808 := by rw [h1]; decide
    rw [HV]
    clear HV h1 hx
    go_enter Try.func33, Try.ntmps33
    go_wp2_with (first
      | go_skip
      | (go_at_call 36; (refine (N.out _).mono ?_); rintro e w2 ⟨rfl, hw⟩; obtain rfl := hw.symm))
    go_ret
    exact ⟨rfl, rfl⟩
  · rw [decide_eq_false h1] at N
    cases h2 : (Ieee.double.order x 0 == some .gt)
    · have HV : weightB x = 0 := by unfold weightB; rw [h2]; rfl
      rw [HV]
      have q2 : (FloatKind.f64.format.order x 0 == some .gt) = false := h2
      clear HV h1 h2 hx
      go_enter Try.func33, Try.ntmps33
      go_wp2_with (first
        | go_skip
        | (go_at_call 36; (refine (N.out _).mono ?_); rintro e w2 ⟨rfl, hw⟩; obtain rfl := hw.symm))
      go_ret
      exact ⟨rfl, rfl⟩
    · have HV : weightB x = x := by unfold weightB; rw [h2, if_pos rfl, if_neg h1]
      rw [HV]
      have q2 : (FloatKind.f64.format.order x 0 == some .gt) = true := h2
      clear HV h1 h2 hx
      go_enter Try.func33, Try.ntmps33
      go_wp2_with (first
        | go_skip
        | (go_at_call 36; (refine (N.out _).mono ?_); rintro e w2 ⟨rfl, hw⟩; obtain rfl := hw.symm))
      go_ret
      exact ⟨rfl, rfl⟩
set_option maxRecDepth 100000 in
set_option maxHeartbeats 1000000 in
theorem ptotal_any (A : Option Addr) (n c : Nat) (ws : List Nat) (w : World) (h : FlsE w w.heap.size A n ws) (hn : n ≤ 1000000) :
    Calls Try.prog 32 #[.slice A n c] w (Is w (.float .f64 (sumB ws))) := by
  have HW := Lib.hid h
  have HN := Lib.hid hn
  clear h hn
  go_enter Try.func32, Try.ntmps32
  go_upto_region 3 with fail
  go_loopw [3, 8] (fun u z wr => ∃ i : Nat, i ≤ n ∧ u = .float .f64 (sumB (ws.take i)) ∧ z = .int .i64 i ∧ wr = w) (fun u z _ => n - (intOf z).toNat)
  case atStart => exact ⟨0, by omega, rfl, rfl, rfl⟩
  case round =>
    obtain ⟨i, hi, rfl, rfl, rfl⟩ := hrel
    by_cases hlt : i < n
    · have q6 : (i : Int) < (n : Int) := by omega
      have wi : IntKind.i64.wrap ((i : Int) + 1) = (i : Int) + 1 := IntWalk.i64_in _ (by have := HN.out; omega)
      obtain ⟨x, hx⟩ : ∃ x, ws[i]? = some x := ⟨_, List.getElem?_eq_getElem (by rw [HW.out.len]; exact hlt)⟩
      have ox := HW.out.ok x (List.mem_of_getElem? hx)
      obtain ⟨b1, o1, hA1, hb1, c1⟩ := HW.out.at_ (by omega)
      have c0 : wr.cell? ⟨b1, o1 + i, none⟩ = some (.float .f64 x) := c1 i x hx
      have RW := Lib.hid (fun w' => pweight_any ox w')
      have hs := sum_le (ws := ws.take i) (fun y hy => HW.out.ok y (List.mem_of_mem_take hy))
      obtain ⟨p1, p2, -, -⟩ := plus_all hs (weight_lt ox)
      have HSN := Lib.hid (show sumB (ws.take (i + 1)) = plus (sumB (ws.take i)) (weightB x) by rw [take_snoc hx, sumB_snoc])
      have r1 := arith (op := .add) (x := sumB (ws.take i)) (y := weightB x) p1
      have HI := Lib.hid hlt
      subst hA1
      generalize plus (sumB (ws.take i)) (weightB x) = PS at *
      generalize sumB (ws.take i) = SI at *
      generalize weightB x = WX at *
      clear hi hlt hx ox hb1 c1 hs p1 p2
      go_wp2_with (first
        | (go_at_call 33; (refine (RW.out _).mono ?_); rintro e w3 ⟨rfl, hw⟩; obtain rfl := hw.symm))
      go_roundw
      case rel => exact ⟨i + 1, HI.out, by rw [HSN.out], by simp, by first | rfl | trivial⟩
      case measure => have := HI.out; simp [intOf]; omega
    have ei : n = i := by omega
    subst ei
    have q6 : ¬ (n : Int) < (n : Int) := by omega
    rw [show ws.take n = ws from List.take_of_length_le (by rw [HW.out.len]; exact Nat.le_refl _)]
    clear hi hlt
    go_wp2_with fail
    go_ret
    exact ⟨rfl, rfl⟩
/-! ### delays -/
theorem twice_pos {mean tw : Nat} (h0 : 0 < mean) (hi : mean ≤ 9218868437227405312) (h : Ieee.double.mul 4611686018427387904 mean = some tw) : (Ieee.double.order tw 0 == some .gt) = true := by
  rcases Nat.lt_or_ge mean 9218868437227405312 with h1 | h1
  · obtain ⟨v, -, h2, h3, h4⟩ := twice_num h0 h1
    rw [h2] at h
    obtain rfl : v = tw := by simpa using h
    rw [gt0_all h4, decide_eq_true (by omega)]
  · obtain rfl : mean = 9218868437227405312 := by omega
    rw [twice_inf.2] at h
    obtain rfl : 9218868437227405312 = tw := by simpa using h
    rw [gt0_all (by omega), decide_eq_true (by omega)]
set_option maxRecDepth 100000 in
set_option maxHeartbeats 1000000 in
theorem pdelay_any {mean d : Nat} {most : Int} (hmean : mean < 18446744073709551616) (hm2 : most ≤ 4503599627370496) (hd : d < 18446744073709551616) (w : World) :
    Calls Try.prog 24 #[.float .f64 mean, .int .i64 most, .float .f64 d] w (Is w (.int .i64 (delayB mean most d))) := by
  have D1 := Lib.hid (fun w' => pdraw_any hd w')
  by_cases h1 : most < 1
  · have hV : delayB mean most d = 0 := by unfold delayB; rw [if_pos (.inl h1)]
    rw [hV]
    clear hV hm2 hmean hd
    go_enter Try.func24, Try.ntmps24
    go_wp2_with go_skip
    go_ret
    exact ⟨rfl, rfl⟩
  cases h2 : (Ieee.double.order mean 0 == some .gt)
  · have hV : delayB mean most d = 0 := by unfold delayB; rw [if_pos (.inr h2)]
    rw [hV]
    have q2 : (FloatKind.f64.format.order mean 0 == some .gt) = false := h2
    clear hV hm2 hmean h2 hd
    go_enter Try.func24, Try.ntmps24
    go_wp2_with go_skip
    go_ret
    exact ⟨rfl, rfl⟩
  obtain ⟨k0, k1⟩ := order_gt0 hmean (by simpa using h2)
  obtain ⟨tw, t, p, k, a1, a2, a3, a4, a5, a6, a7⟩ := delay_run (mean := mean) (d := d) (most := most) (by omega) hm2 k0 k1 hd
  rw [a7]
  have ht : uptoB tw (floatOfInt .f64 most) = t := by
    rw [a2]
    unfold uptoB
    rw [twice_pos k0 k1 a1]
    rfl
  have U := Lib.hid (fun w' => pupto_any tw (floatOfInt .f64 most) w')
  rw [ht] at U
  have q2 : (FloatKind.f64.format.order mean 0 == some .gt) = true := h2
  have r1 := arith (op := .mul) (x := 4611686018427387904) (y := mean) a1
  have r2 := arith (op := .mul) (x := t) (y := drawB d) a3
  have r3 := fun (w' : World) => run_convert_float_int (P := Try.prog) w' 22 3 .f64 .i64 p k (by rw [Try.underlying22]; rfl) Try.underlying3 a4
  have wk : IntKind.i64.wrap (k + 1) = k + 1 := IntWalk.i64_in _ (by omega)
  have hmin : (if most < k + 1 then most else k + 1) = min (k + 1) most := by rw [Int.min_def]; split <;> split <;> omega
  rw [hmin]
  generalize drawB d = X at *
  clear a1 a2 a3 a4 a5 a6 a7 ht h2 hm2 hmean k0 k1 hd
  go_enter Try.func24, Try.ntmps24
  go_wp2_with (first
    | go_skip
    | (go_at_call 29; (refine (U.out _).mono ?_); rintro e w2 ⟨rfl, hw⟩; obtain rfl := hw.symm)
    | (go_at_call 14; (refine (D1.out _).mono ?_); rintro e w2 ⟨rfl, hw⟩; obtain rfl := hw.symm))
  go_ret
  exact ⟨by first | rfl | trace_state, rfl⟩
end Go.Proofs.Ytblgkojeholbnaa.ieC
