/-
  The walks of DrawSure, DrawPicked, DrawBounds; alive.
-/
import Derived.Test.YtblgkojeholbnaaDrF
namespace Go.Proofs.Ytblgkojeholbnaa.ieC
open Go.ChangeShapes Go.WideShapes Go.ChangeAt Go.RowKit
open Go.Proofs.Ytblgkojeholbnaa.memC Go.Proofs.Ytblgkojeholbnaa.genC Go.Proofs.Ytblgkojeholbnaa.butC Go.Proofs.Ytblgkojeholbnaa.freeC
set_option linter.unusedVariables false
/-! ### DrawSure -/
theorem hit_zero {d : Nat} (hd : d < 18446744073709551616) : hitB 0 d = false := by
  rw [hit_iff (by omega) hd, decide_eq_false_iff_not, chance_num (by omega)]; omega
theorem hit_one {d : Nat} (hd : d < 18446744073709551616) : hitB 4607182418800017408 d = true := by
  have := draw_le hd
  rw [hit_iff (by omega) hd, decide_eq_true_eq, chance_num (by omega)]; omega
theorem hit_ninf {d : Nat} (hd : d < 18446744073709551616) : hitB 18442240474082181120 d = false := by
  rw [hit_iff (by omega) hd, decide_eq_false_iff_not, chance_not (by omega) (by omega)]; omega
theorem hit_inf {d : Nat} (hd : d < 18446744073709551616) : hitB 9218868437227405312 d = true := by
  have := draw_le hd
  rw [hit_iff (by omega) hd, decide_eq_true_eq, chance_num (by omega)]; omega
theorem hit_mono {p q d : Nat} (hp : p < 18446744073709551616) (hq : q < 18446744073709551616) (hd : d < 18446744073709551616) (h : geq (Ieee.double.order q p) = true) (h1 : hitB p d = true) : hitB q d = true := by
  have := chance_mono hp hq h
  rw [hit_iff hp hd, decide_eq_true_eq] at h1
  rw [hit_iff hq hd, decide_eq_true_eq]; omega
set_option maxRecDepth 100000 in
set_option maxHeartbeats 2000000 in
theorem sure_walk (F : FrD) (hal : Alive) {p q d : Nat} (hp : p < 18446744073709551616) (hq : q < 18446744073709551616) (hd : d < 18446744073709551616) (w : World) :
    Calls Try.prog 7 #[.float .f64 p, .float .f64 q, .float .f64 d] w (RetB w (.bool true)) := by
  have AL := Lib.hid hal
  have BB := Lib.hid (Below.refl w.heap.size w)
  have HP := Lib.hid (fun w' => F.hit p d w' hp hd)
  have HQ := Lib.hid (fun w' => F.hit q d w' hq hd)
  have H0 := Lib.hid (fun w' => F.hit 0 d w' (by omega) hd)
  have H1 := Lib.hid (fun w' => F.hit 4607182418800017408 d w' (by omega) hd)
  have HN := Lib.hid (fun w' => F.hit 18442240474082181120 d w' (by omega) hd)
  have HF := Lib.hid (fun w' => F.hit 9218868437227405312 d w' (by omega) hd)
  have NI := Lib.hid inf_neg
  have PI := Lib.hid inf_pos
  rw [hit_zero hd] at H0
  rw [hit_one hd] at H1
  rw [hit_ninf hd] at HN
  rw [hit_inf hd] at HF
  have hmono := hit_mono (p := p) (q := q) hp hq hd
  unfold geq at hmono
  clear F hal hp hq hd
  cases hg : (Ieee.double.order q p == some .gt || Ieee.double.order q p == some .eq)
  · have qg : (FloatKind.f64.format.order q p == some .gt || FloatKind.f64.format.order q p == some .eq) = false := hg
    clear hg hmono
    generalize hitB p d = X at *
    generalize hitB q d = Y at *
    go_enter Try.func7, Try.ntmps7
    go_wp2_with (first
      | go_skip
      | (go_at_call 18; (first | with_reducible refine (HP.out _).mono ?_ | with_reducible refine (HQ.out _).mono ?_ | with_reducible refine (H0.out _).mono ?_ | with_reducible refine (H1.out _).mono ?_ | with_reducible refine (HN.out _).mono ?_ | with_reducible refine (HF.out _).mono ?_); rintro e w103 ⟨rfl, hb⟩
         have BB := Lib.hid (BB.out.trans (hb.mono BB.out.size))
         clear hb)
      | (go_at_call 26; (first | with_reducible refine (NI.out _).mono ?_ | with_reducible refine (PI.out _).mono ?_); rintro e w104 ⟨rfl, hw⟩; obtain rfl := hw.symm)
      | (go_at_call 17; (first | refine (AL.out _).mono ?_); rintro e w102 ⟨rfl, hb⟩
         have BB := Lib.hid (BB.out.trans (hb.mono BB.out.size))
         clear hb))
    go_ret
    exact ⟨rfl, BB.out⟩
  · have qg : (FloatKind.f64.format.order q p == some .gt || FloatKind.f64.format.order q p == some .eq) = true := hg
    cases hx : hitB p d
    · rw [hx] at HP
      clear hg hmono hx
      generalize hitB q d = Y at *
      go_enter Try.func7, Try.ntmps7
      go_wp2_with (first
        | go_skip
        | (go_at_call 18; (first | with_reducible refine (HP.out _).mono ?_ | with_reducible refine (HQ.out _).mono ?_ | with_reducible refine (H0.out _).mono ?_ | with_reducible refine (H1.out _).mono ?_ | with_reducible refine (HN.out _).mono ?_ | with_reducible refine (HF.out _).mono ?_); rintro e w105 ⟨rfl, hb⟩
           have BB := Lib.hid (BB.out.trans (hb.mono BB.out.size))
           clear hb)
        | (go_at_call 26; (first | with_reducible refine (NI.out _).mono ?_ | with_reducible refine (PI.out _).mono ?_); rintro e w106 ⟨rfl, hw⟩; obtain rfl := hw.symm)
        | (go_at_call 17; (first | refine (AL.out _).mono ?_); rintro e w102 ⟨rfl, hb⟩
           have BB := Lib.hid (BB.out.trans (hb.mono BB.out.size))
           clear hb))
      go_ret
      exact ⟨rfl, BB.out⟩
    · rw [hmono hg hx] at HQ
      rw [hx] at HP
      clear hg hmono hx
      go_enter Try.func7, Try.ntmps7
      go_wp2_with (first
        | go_skip
        | (go_at_call 18; (first | with_reducible refine (HP.out _).mono ?_ | with_reducible refine (HQ.out _).mono ?_ | with_reducible refine (H0.out _).mono ?_ | with_reducible refine (H1.out _).mono ?_ | with_reducible refine (HN.out _).mono ?_ | with_reducible refine (HF.out _).mono ?_); rintro e w107 ⟨rfl, hb⟩
           have BB := Lib.hid (BB.out.trans (hb.mono BB.out.size))
           clear hb)
        | (go_at_call 26; (first | with_reducible refine (NI.out _).mono ?_ | with_reducible refine (PI.out _).mono ?_); rintro e w108 ⟨rfl, hw⟩; obtain rfl := hw.symm)
        | (go_at_call 17; (first | refine (AL.out _).mono ?_); rintro e w102 ⟨rfl, hb⟩
           have BB := Lib.hid (BB.out.trans (hb.mono BB.out.size))
           clear hb))
      go_ret
      exact ⟨rfl, BB.out⟩
/-! ### DrawBounds -/
theorem delay_zero {mean d : Nat} {most : Int} (h : most < 1 ∨ (Ieee.double.order mean 0 == some .gt) = false) : delayB mean most d = 0 := by unfold delayB; rw [if_pos h]
theorem delay_pos {mean d : Nat} {most : Int} (hm : mean < 18446744073709551616) (hd : d < 18446744073709551616) (h1 : ¬ most < 1) (h2 : (Ieee.double.order mean 0 == some .gt) = true) (h3 : most ≤ 4503599627370496) : 1 ≤ delayB mean most d ∧ delayB mean most d ≤ most := by
  obtain ⟨k0, k1⟩ := order_gt0 hm (by simpa using h2)
  obtain ⟨tw, t, p, k, -, -, -, -, a5, a6, a7⟩ := delay_run (mean := mean) (d := d) (most := most) (by omega) h3 k0 k1 hd
  rw [a7]
  split <;> omega
theorem leq_all {x y : Nat} (hx : x ≤ 9218868437227405312) (hy : y ≤ 9218868437227405312) (h : x ≤ y) : (FloatKind.f64.format.order x y == some .lt || FloatKind.f64.format.order x y == some .eq) = true := by
  have e : FloatKind.f64.format.order x y = some (compare x y) := order_all hx hy
  rw [e]
  rcases Nat.lt_trichotomy x y with q | q | q
  · rw [Nat.compare_eq_lt.2 q]; rfl
  · rw [Nat.compare_eq_eq.2 q]; rfl
  · omega
theorem geq_zero {x : Nat} (hx : x ≤ 9218868437227405312) : (FloatKind.f64.format.order x 0 == some .gt || FloatKind.f64.format.order x 0 == some .eq) = true := by
  have e : FloatKind.f64.format.order x 0 = some (compare x 0) := order_all hx (by omega)
  rw [e]
  rcases Nat.eq_zero_or_pos x with q | q
  · rw [Nat.compare_eq_eq.2 q]; rfl
  · rw [Nat.compare_eq_gt.2 q]; rfl
theorem lss_all {x y : Nat} (hx : x ≤ 9218868437227405312) (hy : y ≤ 9218868437227405312) (h : x < y) : (FloatKind.f64.format.order x y == some .lt) = true := by
  have e : FloatKind.f64.format.order x y = some (compare x y) := order_all hx hy
  rw [e, Nat.compare_eq_lt.2 h]; rfl
set_option maxRecDepth 100000 in
set_option maxHeartbeats 2000000 in
theorem bounds_walk (F : FrD) (hal : Alive) {mean d : Nat} {most : Int} (hm : mean < 18446744073709551616) (h0 : -9223372036854775808 ≤ most) (hd : d < 18446744073709551616) (w : World) :
    Calls Try.prog 9 #[.float .f64 mean, .int .i64 most, .float .f64 d] w (RetB w (.bool true)) := by
  have AL := Lib.hid hal
  have BB := Lib.hid (Below.refl w.heap.size w)
  by_cases h3 : 4503599627370496 < most
  · have q3 : most > 4503599627370496 := h3
    clear F hal hm hd h3 h0
    go_enter Try.func9, Try.ntmps9
    go_wp2_with (first
      | go_skip
      | (go_at_call 17; (first | refine (AL.out _).mono ?_); rintro e w102 ⟨rfl, hb⟩
         have BB := Lib.hid (BB.out.trans (hb.mono BB.out.size))
         clear hb))
    go_ret
    exact ⟨rfl, BB.out⟩
  have q3 : ¬ most > 4503599627370496 := h3
  have lc := chance_le hm
  have ld := draw_le hd
  have lm := mixB_le (a := mean) (b := d) (s := 4602678819172646912) hm hd (by omega)
  have DL := Lib.hid (fun w' => F.delay mean most d w' hm h0 (by omega) hd)
  have CH := Lib.hid (fun w' => F.chance mean w' hm)
  have DR := Lib.hid (fun w' => F.draw d w' hd)
  have CC := Lib.hid (fun w' => F.chance (chanceB mean) w' (by omega))
  have DD := Lib.hid (fun w' => F.draw (drawB d) w' (by omega))
  have MX := Lib.hid (fun w' => F.mix mean d 4602678819172646912 w' hm hd (by omega))
  have SC := Lib.hid (fun w' => F.same (chanceB mean) (chanceB mean) w' (by omega) (by omega))
  have SD := Lib.hid (fun w' => F.same (drawB d) (drawB d) w' (by omega) (by omega))
  rw [chance_self hm] at CC
  rw [draw_self hd] at DD
  rw [show (bitsB (chanceB mean) == bitsB (chanceB mean)) = true from beq_self_eq_true _] at SC
  rw [show (bitsB (drawB d) == bitsB (drawB d)) = true from beq_self_eq_true _] at SD
  have c1 := geq_zero (x := chanceB mean) (by omega)
  have c2 := leq_all (x := chanceB mean) (y := 4607182418800017408) (by omega) (by omega) lc
  have c3 := geq_zero (x := drawB d) (by omega)
  have c4 := lss_all (x := drawB d) (y := 4607182418800017408) (by omega) (by omega) (by omega)
  have c5 := geq_zero (x := mixB mean d 4602678819172646912) (by omega)
  have c6 := leq_all (x := mixB mean d 4602678819172646912) (y := 4607182418800017408) (by omega) (by omega) lm
  have hz := delay_zero (mean := mean) (d := d) (most := most)
  have hpp := delay_pos (mean := mean) (d := d) (most := most) hm hd
  clear F hal lc ld lm hm hd
  generalize chanceB mean = CA at *
  generalize drawB d = DA at *
  generalize mixB mean d 4602678819172646912 = MM at *
  generalize delayB mean most d = N at *
  by_cases h1 : most < 1
  · obtain rfl := (hz (.inl h1))
    clear hz hpp h3 h0
    have m1 : max most 0 = if 0 < most then most else 0 := by split <;> omega
    have m2 : ¬ (0 : Int) > (if (0 : Int) > most then (0 : Int) else most) := by split <;> omega
    have m3 : ¬ (0 : Int) > (if most < (0 : Int) then (0 : Int) else most) := by split <;> omega
    have m4 : ¬ (0 : Int) > max most 0 := by omega
    go_enter Try.func9, Try.ntmps9
    go_wp2_with (first
      | go_skip
      | (go_at_call 24; (first | with_reducible refine (DL.out _).mono ?_); rintro e w109 ⟨rfl, hb⟩
         have BB := Lib.hid (BB.out.trans (hb.mono BB.out.size))
         clear hb)
      | (go_at_call 11; (first | with_reducible refine (CH.out _).mono ?_ | with_reducible refine (CC.out _).mono ?_); rintro e w110 ⟨rfl, hb⟩
         have BB := Lib.hid (BB.out.trans (hb.mono BB.out.size))
         clear hb)
      | (go_at_call 14; (first | with_reducible refine (DR.out _).mono ?_ | with_reducible refine (DD.out _).mono ?_); rintro e w111 ⟨rfl, hb⟩
         have BB := Lib.hid (BB.out.trans (hb.mono BB.out.size))
         clear hb)
      | (go_at_call 20; (first | with_reducible refine (MX.out _).mono ?_); rintro e w112 ⟨rfl, hb⟩
         have BB := Lib.hid (BB.out.trans (hb.mono BB.out.size))
         clear hb)
      | (go_at_call 16; (first | with_reducible refine (SC.out _).mono ?_ | with_reducible refine (SD.out _).mono ?_); rintro e w113 ⟨rfl, hb⟩
         have BB := Lib.hid (BB.out.trans (hb.mono BB.out.size))
         clear hb)
      | (go_at_call 17; (first | refine (AL.out _).mono ?_); rintro e w102 ⟨rfl, hb⟩
         have BB := Lib.hid (BB.out.trans (hb.mono BB.out.size))
         clear hb))
    all_goals (go_ret; exact ⟨rfl, BB.out⟩)
  cases h2 : (Ieee.double.order mean 0 == some .gt)
  · obtain rfl := (hz (.inr h2))
    have qg : (FloatKind.f64.format.order mean 0 == some .gt) = false := h2
    clear hz hpp h3 h0 h2
    have m2 : ¬ (0 : Int) > (if (0 : Int) > most then (0 : Int) else most) := by split <;> omega
    have m3 : ¬ (0 : Int) > (if most < (0 : Int) then (0 : Int) else most) := by split <;> omega
    have m4 : ¬ (0 : Int) > max most 0 := by omega
    go_enter Try.func9, Try.ntmps9
    go_wp2_with (first
      | go_skip
      | (go_at_call 24; (first | with_reducible refine (DL.out _).mono ?_); rintro e w114 ⟨rfl, hb⟩
         have BB := Lib.hid (BB.out.trans (hb.mono BB.out.size))
         clear hb)
      | (go_at_call 11; (first | with_reducible refine (CH.out _).mono ?_ | with_reducible refine (CC.out _).mono ?_); rintro e w115 ⟨rfl, hb⟩
         have BB := Lib.hid (BB.out.trans (hb.mono BB.out.size))
         clear hb)
      | (go_at_call 14; (first | with_reducible refine (DR.out _).mono ?_ | with_reducible refine (DD.out _).mono ?_); rintro e w116 ⟨rfl, hb⟩
         have BB := Lib.hid (BB.out.trans (hb.mono BB.out.size))
         clear hb)
      | (go_at_call 20; (first | with_reducible refine (MX.out _).mono ?_); rintro e w117 ⟨rfl, hb⟩
         have BB := Lib.hid (BB.out.trans (hb.mono BB.out.size))
         clear hb)
      | (go_at_call 16; (first | with_reducible refine (SC.out _).mono ?_ | with_reducible refine (SD.out _).mono ?_); rintro e w118 ⟨rfl, hb⟩
         have BB := Lib.hid (BB.out.trans (hb.mono BB.out.size))
         clear hb)
      | (go_at_call 17; (first | refine (AL.out _).mono ?_); rintro e w102 ⟨rfl, hb⟩
         have BB := Lib.hid (BB.out.trans (hb.mono BB.out.size))
         clear hb))
    all_goals (go_ret; exact ⟨rfl, BB.out⟩)
  · obtain ⟨n1, n2⟩ := hpp h1 h2 (by omega)
    have qg : (FloatKind.f64.format.order mean 0 == some .gt) = true := h2
    clear hz hpp h3 h0 h2
    have m0 : ¬ N < 0 := by omega
    have m1 : ¬ N = 0 := by omega
    have m2 : ¬ N > (if (0 : Int) > most then (0 : Int) else most) := by split <;> omega
    have m3 : ¬ N > (if most < (0 : Int) then (0 : Int) else most) := by split <;> omega
    have m4 : ¬ N > max most 0 := by omega
    have m5 : (N == 0) = false := by simpa using m1
    clear n1 n2
    go_enter Try.func9, Try.ntmps9
    go_wp2_with (first
      | go_skip
      | (go_at_call 24; (first | with_reducible refine (DL.out _).mono ?_); rintro e w119 ⟨rfl, hb⟩
         have BB := Lib.hid (BB.out.trans (hb.mono BB.out.size))
         clear hb)
      | (go_at_call 11; (first | with_reducible refine (CH.out _).mono ?_ | with_reducible refine (CC.out _).mono ?_); rintro e w120 ⟨rfl, hb⟩
         have BB := Lib.hid (BB.out.trans (hb.mono BB.out.size))
         clear hb)
      | (go_at_call 14; (first | with_reducible refine (DR.out _).mono ?_ | with_reducible refine (DD.out _).mono ?_); rintro e w121 ⟨rfl, hb⟩
         have BB := Lib.hid (BB.out.trans (hb.mono BB.out.size))
         clear hb)
      | (go_at_call 20; (first | with_reducible refine (MX.out _).mono ?_); rintro e w122 ⟨rfl, hb⟩
         have BB := Lib.hid (BB.out.trans (hb.mono BB.out.size))
         clear hb)
      | (go_at_call 16; (first | with_reducible refine (SC.out _).mono ?_ | with_reducible refine (SD.out _).mono ?_); rintro e w123 ⟨rfl, hb⟩
         have BB := Lib.hid (BB.out.trans (hb.mono BB.out.size))
         clear hb)
      | (go_at_call 17; (first | refine (AL.out _).mono ?_); rintro e w102 ⟨rfl, hb⟩
         have BB := Lib.hid (BB.out.trans (hb.mono BB.out.size))
         clear hb))
    all_goals (go_ret; exact ⟨rfl, BB.out⟩)
end Go.Proofs.Ytblgkojeholbnaa.ieC
