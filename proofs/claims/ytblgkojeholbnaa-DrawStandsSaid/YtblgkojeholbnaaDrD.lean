/-
  The document's Delay.
-/
import Derived.Test.YtblgkojeholbnaaDrP
namespace Go.Proofs.Ytblgkojeholbnaa.ieC
open Go.ChangeShapes Go.WideShapes Go.ChangeAt Go.RowKit
open Go.Proofs.Ytblgkojeholbnaa.memC Go.Proofs.Ytblgkojeholbnaa.genC Go.Proofs.Ytblgkojeholbnaa.butC Go.Proofs.Ytblgkojeholbnaa.freeC
set_option linter.unusedVariables false
/-- the delay of a mean and a draw -/
def delayB (mean : Nat) (most : Int) (d : Nat) : Int :=
  if most < 1 ∨ (Ieee.double.order mean 0 == some .gt) = false then 0 else
  let tw := (Ieee.double.mul 4611686018427387904 mean).getD 0
  let fm := floatOfInt .f64 most
  let t := if (Ieee.double.order tw fm == some .gt) = true then fm else tw
  let p := (Ieee.double.mul t (drawB d)).getD 0
  let k := ((Ieee.double.read p).toInt .zero).getD 0
  if most < k + 1 then most else k + 1
theorem floatOfInt_pos {n : Nat} (h0 : 0 < n) (h : n ≤ 4503599627370496) : floatOfInt .f64 (n : Int) < 9218868437227405312 ∧ ∀ c, c = 1074 → V (floatOfInt .f64 (n : Int)) = n * 2 ^ c := by
  obtain ⟨r, h1, h2, h3⟩ := int_num h0 h
  have e : floatOfInt .f64 (n : Int) = Ieee.double.nearest false n 0 := by
    show Ieee.double.nearest (decide ((n : Int) < 0)) (n : Int).natAbs 0 = _
    rw [decide_eq_false (by omega)]
    rfl
  rw [e, h1]
  exact ⟨h2, h3⟩
theorem delay_run {mean d : Nat} {most : Int} (hm1 : 1 ≤ most) (hm2 : most ≤ 4503599627370496) (h0 : 0 < mean) (hi : mean ≤ 9218868437227405312) (hd : d < 18446744073709551616) :
    ∃ tw t p k, Ieee.double.mul 4611686018427387904 mean = some tw ∧ t = (if (Ieee.double.order tw (floatOfInt .f64 most) == some .gt) = true then floatOfInt .f64 most else tw) ∧ Ieee.double.mul t (drawB d) = some p ∧ floatToIntVal .f64 p .i64 = some k ∧ 0 ≤ k ∧ k ≤ most ∧ delayB mean most d = (if most < k + 1 then most else k + 1) := by
  obtain ⟨n, rfl⟩ : ∃ n : Nat, most = n := ⟨most.toNat, by omega⟩
  obtain ⟨c, hc⟩ : ∃ c : Nat, c = 1074 := ⟨_, rfl⟩
  obtain ⟨f1, f2⟩ := floatOfInt_pos (n := n) (by omega) (by omega)
  obtain ⟨tw, t1, t2⟩ : ∃ tw, Ieee.double.mul 4611686018427387904 mean = some tw ∧ tw ≤ 9218868437227405312 := by
    rcases Nat.lt_or_ge mean 9218868437227405312 with h | h
    · obtain ⟨v, -, h1, -, h2⟩ := twice_num h0 h
      exact ⟨v, h1, h2⟩
    · obtain rfl : mean = 9218868437227405312 := by omega
      exact ⟨_, twice_inf.2, by omega⟩
  have f2 := f2 c hc
  have hgt : (Ieee.double.order mean 0 == some .gt) = true := by rw [gt0_all hi, decide_eq_true h0]
  have hD : delayB mean (n : Int) d = (let t := if (Ieee.double.order tw (floatOfInt .f64 (n : Int)) == some .gt) = true then floatOfInt .f64 (n : Int) else tw
      let p := (Ieee.double.mul t (drawB d)).getD 0
      let k := ((Ieee.double.read p).toInt .zero).getD 0
      if (n : Int) < k + 1 then (n : Int) else k + 1) := by
    unfold delayB
    rw [if_neg (by rw [hgt]; simp; omega), t1]
    rfl
  generalize floatOfInt .f64 (n : Int) = fm at *
  have ht : (if (Ieee.double.order tw fm == some .gt) = true then fm else tw) ≤ fm := by
    split
    · omega
    · rename_i h
      rw [order_all t2 (by omega)] at h
      rcases Nat.lt_or_ge fm tw with q | q
      · rw [Nat.compare_eq_gt.2 q] at h
        exact absurd rfl h
      · exact q
  generalize hT : (if (Ieee.double.order tw fm == some .gt) = true then fm else tw) = t at *
  have hdl := draw_le hd
  obtain ⟨r, m1, m2⟩ := mul_num (x := t) (y := drawB d) (by omega) (by omega)
  have hr : r ≤ t := (m2 c hc).le (Nat.two_pow_pos _) (by
    rw [← V_one hc]
    exact Nat.mul_le_mul_left _ (V_le (by omega)))
  rw [Nat.min_eq_left (by omega)] at m1
  obtain ⟨k, k1, k2⟩ := toInt_num (r := r) (by omega)
  have hk : k ≤ n := by
    rw [k2 c hc]
    have h1 : V r ≤ n * 2 ^ c := by rw [← f2]; exact V_le (by omega)
    exact Nat.div_le_of_le_mul (by rw [Nat.mul_comm]; exact h1)
  refine ⟨tw, t, r, (k : Int), t1, hT.symm, m1, ?_, by omega, by omega, ?_⟩
  · unfold floatToIntVal
    have e : (FloatKind.f64.decode r).toInt .zero = some (k : Int) := k1
    rw [e]
    have b1 : IntKind.i64.min ≤ (k : Int) ∧ (k : Int) ≤ IntKind.i64.max := by
      have a1 : IntKind.i64.min = -9223372036854775808 := by decide
      have a2 : IntKind.i64.max = 9223372036854775807 := by decide
      rw [a1, a2]; omega
    simp only [b1, and_self, if_true]
  · rw [hD]
    simp only [m1, Option.getD_some, k1]
set_option maxRecDepth 100000 in
set_option maxHeartbeats 1000000 in
theorem rdelay_any {mean d : Nat} {most : Int} (hmean : mean < 18446744073709551616) (hm2 : most ≤ 4503599627370496) (hd : d < 18446744073709551616) (w : World) :
    Calls Try.prog 25 #[.float .f64 mean, .int .i64 most, .float .f64 d] w (Is w (.int .i64 (delayB mean most d))) := by
  have D1 := Lib.hid (fun w' => rdraw_any d w')
  by_cases h1 : most < 1
  · have hV : delayB mean most d = 0 := by unfold delayB; rw [if_pos (.inl h1)]
    rw [hV]
    clear hV hm2 hmean
    go_enter Try.func25, Try.ntmps25
    go_wp2_with go_skip
    go_ret
    exact ⟨rfl, rfl⟩
  cases h2 : (Ieee.double.order mean 0 == some .gt)
  · have hV : delayB mean most d = 0 := by unfold delayB; rw [if_pos (.inr h2)]
    rw [hV]
    have q2 : (FloatKind.f64.format.order mean 0 == some .gt) = false := h2
    clear hV hm2 hmean h2
    go_enter Try.func25, Try.ntmps25
    go_wp2_with go_skip
    go_ret
    exact ⟨rfl, rfl⟩
  obtain ⟨k0, k1⟩ := order_gt0 hmean (by simpa using h2)
  obtain ⟨tw, t, p, k, a1, a2, a3, a4, a5, a6, a7⟩ := delay_run (mean := mean) (d := d) (most := most) (by omega) hm2 k0 k1 hd
  rw [a7]
  have q2 : (FloatKind.f64.format.order mean 0 == some .gt) = true := h2
  have r1 := arith (op := .mul) (x := 4611686018427387904) (y := mean) a1
  have r2 := arith (op := .mul) (x := t) (y := drawB d) a3
  have r3 := fun (w' : World) => run_convert_float_int (P := Try.prog) w' 22 3 .f64 .i64 p k (by rw [Try.underlying22]; rfl) Try.underlying3 a4
  have wk : IntKind.i64.wrap (k + 1) = k + 1 := IntWalk.i64_in _ (by omega)
  generalize drawB d = X at *
  cases h3 : (Ieee.double.order tw (floatOfInt .f64 most) == some .gt)
  · rw [h3] at a2
    simp only [Bool.false_eq_true, if_false] at a2
    subst a2
    have q3 : (FloatKind.f64.format.order t (floatOfInt .f64 most) == some .gt) = false := h3
    by_cases h4 : most < k + 1
    · rw [if_pos h4]
      have q4 : k + 1 > most := h4
      clear a1 a3 a4 a5 a6 a7 h2 h3 hm2 hmean k0 k1 hd
      go_enter Try.func25, Try.ntmps25
      go_wp2_with (first
        | go_skip
        | (go_at_call 15; (refine (D1.out _).mono ?_); rintro e w2 ⟨rfl, hw⟩; obtain rfl := hw.symm))
      go_ret
      exact ⟨rfl, rfl⟩
    · rw [if_neg h4]
      have q4 : ¬ k + 1 > most := h4
      clear a1 a3 a4 a5 a6 a7 h2 h3 hm2 hmean k0 k1 hd
      go_enter Try.func25, Try.ntmps25
      go_wp2_with (first
        | go_skip
        | (go_at_call 15; (refine (D1.out _).mono ?_); rintro e w2 ⟨rfl, hw⟩; obtain rfl := hw.symm))
      go_ret
      exact ⟨rfl, rfl⟩
  · rw [h3] at a2
    simp only [if_true] at a2
    subst a2
    have q3 : (FloatKind.f64.format.order tw (floatOfInt .f64 most) == some .gt) = true := h3
    by_cases h4 : most < k + 1
    · rw [if_pos h4]
      have q4 : k + 1 > most := h4
      clear a1 a3 a4 a5 a6 a7 h2 h3 hm2 hmean k0 k1 hd
      go_enter Try.func25, Try.ntmps25
      go_wp2_with (first
        | go_skip
        | (go_at_call 15; (refine (D1.out _).mono ?_); rintro e w2 ⟨rfl, hw⟩; obtain rfl := hw.symm))
      go_ret
      exact ⟨rfl, rfl⟩
    · rw [if_neg h4]
      have q4 : ¬ k + 1 > most := h4
      clear a1 a3 a4 a5 a6 a7 h2 h3 hm2 hmean k0 k1 hd
      go_enter Try.func25, Try.ntmps25
      go_wp2_with (first
        | go_skip
        | (go_at_call 15; (refine (D1.out _).mono ?_); rintro e w2 ⟨rfl, hw⟩; obtain rfl := hw.symm))
      go_ret
      exact ⟨rfl, rfl⟩
end Go.Proofs.Ytblgkojeholbnaa.ieC
