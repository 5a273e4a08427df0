/-
  The program's chances and draws.
-/
import Derived.Test.YtblgkojeholbnaaDrH
namespace Go.Proofs.Ytblgkojeholbnaa.ieC
open Go.ChangeShapes Go.WideShapes Go.ChangeAt Go.RowKit
open Go.Proofs.Ytblgkojeholbnaa.memC Go.Proofs.Ytblgkojeholbnaa.genC Go.Proofs.Ytblgkojeholbnaa.butC Go.Proofs.Ytblgkojeholbnaa.freeC
set_option linter.unusedVariables false
theorem Is.ret {w : World} {v : Value} {e : Ending} {w' : World} (h : Is w v e w') : RetB w v e w' := by
  obtain ⟨h1, h2⟩ := h
  exact ⟨h1, by rw [h2]; exact Below.refl _ _⟩
/-! ### from 0 to a most -/
def uptoB (x m : Nat) : Nat := if (Ieee.double.order x m == some .gt) = true then m else if (Ieee.double.order x 0 == some .gt) = true then x else 0
theorem gt_geq {c : Option Ordering} (h : (c == some .gt) = true) : geq c = true := by unfold geq; rw [h]; rfl
theorem gt_all {x y : Nat} (hx : x ≤ 9218868437227405312) (hy : y ≤ 9218868437227405312) : (Ieee.double.order x y == some .gt) = decide (y < x) := by
  rw [order_all hx hy]
  rcases Nat.lt_trichotomy x y with h | h | h
  · rw [Nat.compare_eq_lt.2 h, decide_eq_false (by omega)]; rfl
  · rw [Nat.compare_eq_eq.2 h, decide_eq_false (by omega)]; rfl
  · rw [Nat.compare_eq_gt.2 h, decide_eq_true (by omega)]; rfl
/-- what is above a number above 0 -/
theorem gt_pos {x m : Nat} (hx : x < 18446744073709551616) (h0 : 0 < m) (hm : m ≤ 9218868437227405312) (h : (Ieee.double.order x m == some .gt) = true) : m < x ∧ x ≤ 9218868437227405312 := by
  obtain ⟨h1, h2⟩ := geq_pos hx h0 hm (gt_geq h)
  rw [gt_all h2 hm] at h
  exact ⟨by simpa using h, h2⟩
theorem upto_num {x m : Nat} (hx : x ≤ 9218868437227405312) (hm : m ≤ 9218868437227405312) : uptoB x m = min x m := by
  unfold uptoB
  rw [gt_all hx hm, gt0_all hx]
  simp only [decide_eq_true_eq]
  split
  · omega
  · split <;> omega
theorem upto_not {x m : Nat} (hx : x < 18446744073709551616) (h0 : 0 < m) (hm : m ≤ 9218868437227405312) (h : ¬ (0 < x ∧ x ≤ 9218868437227405312)) : uptoB x m = 0 := by
  unfold uptoB
  rw [if_neg (fun hg => by have := gt_pos hx h0 hm hg; omega), if_neg (fun hg => h (order_gt0 hx (by simpa using hg)))]
theorem upto_chance {x : Nat} (hx : x < 18446744073709551616) : uptoB x 4607182418800017408 = chanceB x := by
  by_cases h : 0 < x ∧ x ≤ 9218868437227405312
  · rw [upto_num h.2 (by omega), chance_num h.2]
  · rw [upto_not hx (by omega) (by omega) h, chance_not hx h]
theorem upto_draw {x : Nat} (hx : x < 18446744073709551616) : uptoB x 4607182418800017407 = drawB x := by
  by_cases h : 0 < x ∧ x ≤ 9218868437227405312
  · rw [upto_num h.2 (by omega), draw_num h.2]
  · rw [upto_not hx (by omega) (by omega) h, draw_not hx h]
set_option maxRecDepth 100000 in
theorem pupto_any (x m : Nat) (w : World) : Calls Try.prog 29 #[.float .f64 x, .float .f64 m] w (Is w (.float .f64 (uptoB x m))) := by
  unfold uptoB
  cases h1 : (Ieee.double.order x m == some .gt)
  · cases h2 : (Ieee.double.order x 0 == some .gt)
    · have q1 : (FloatKind.f64.format.order x m == some .gt) = false := h1
      have q2 : (FloatKind.f64.format.order x 0 == some .gt) = false := h2
      clear h1 h2
      go_enter Try.func29, Try.ntmps29
      go_wp2_with fail
      go_ret
      exact ⟨rfl, rfl⟩
    · have q1 : (FloatKind.f64.format.order x m == some .gt) = false := h1
      have q2 : (FloatKind.f64.format.order x 0 == some .gt) = true := h2
      clear h1 h2
      go_enter Try.func29, Try.ntmps29
      go_wp2_with fail
      go_ret
      exact ⟨rfl, rfl⟩
  · have q1 : (FloatKind.f64.format.order x m == some .gt) = true := h1
    clear h1
    go_enter Try.func29, Try.ntmps29
    go_wp2_with fail
    go_ret
    exact ⟨rfl, rfl⟩
set_option maxRecDepth 100000 in
theorem pchance_any {x : Nat} (hx : x < 18446744073709551616) (w : World) : Calls Try.prog 11 #[.float .f64 x] w (Is w (.float .f64 (chanceB x))) := by
  have U := Lib.hid (fun w' => pupto_any x 4607182418800017408 w')
  rw [upto_chance hx] at U
  generalize chanceB x = C at *
  clear hx
  go_enter Try.func11, Try.ntmps11
  go_wp2_with (first
    | (go_at_call 29; (refine (U.out _).mono ?_); rintro e w2 ⟨rfl, hw⟩; obtain rfl := hw.symm))
  go_ret
  exact ⟨rfl, rfl⟩
set_option maxRecDepth 100000 in
theorem pdraw_any {x : Nat} (hx : x < 18446744073709551616) (w : World) : Calls Try.prog 14 #[.float .f64 x] w (Is w (.float .f64 (drawB x))) := by
  have U := Lib.hid (fun w' => pupto_any x 4607182418800017407 w')
  rw [upto_draw hx] at U
  generalize drawB x = C at *
  clear hx
  go_enter Try.func14, Try.ntmps14
  go_wp2_with (first
    | (go_at_call 29; (refine (U.out _).mono ?_); rintro e w2 ⟨rfl, hw⟩; obtain rfl := hw.symm))
  go_ret
  exact ⟨rfl, rfl⟩
set_option maxRecDepth 100000 in
theorem phit_any {p d : Nat} (hp : p < 18446744073709551616) (hd : d < 18446744073709551616) (w : World) : Calls Try.prog 18 #[.float .f64 p, .float .f64 d] w (Is w (.bool (hitB p d))) := by
  have C := Lib.hid (fun w' => pchance_any hp w')
  have D := Lib.hid (fun w' => pdraw_any hd w')
  have q1 : (FloatKind.f64.format.order (drawB d) (chanceB p) == some .lt) = hitB p d := rfl
  generalize hitB p d = V at *
  generalize drawB d = X at *
  generalize chanceB p = Y at *
  clear hp hd
  go_enter Try.func18, Try.ntmps18
  go_wp2_with (first
    | (go_at_call 14; (refine (D.out _).mono ?_); rintro e w2 ⟨rfl, hw⟩; obtain rfl := hw.symm)
    | (go_at_call 11; (refine (C.out _).mono ?_); rintro e w2 ⟨rfl, hw⟩; obtain rfl := hw.symm))
  go_ret
  exact ⟨rfl, rfl⟩
set_option maxRecDepth 100000 in
theorem pmix_any {a b s : Nat} (ha : a < 18446744073709551616) (hb : b < 18446744073709551616) (hs : s < 18446744073709551616) (w : World) :
    Calls Try.prog 20 #[.float .f64 a, .float .f64 b, .float .f64 s] w (Is w (.float .f64 (mixB a b s))) := by
  obtain ⟨t, x, y, z, h1, h2, h3, h4, -, -, -, -⟩ := mix_le (chance_le ha) (chance_le hb) (chance_le hs)
  have e : mixB a b s = z := by
    unfold mixB
    rw [h1, Option.getD_some, h2, Option.getD_some, h3, Option.getD_some, h4, Option.getD_some]
  rw [e]
  have A1 := Lib.hid (fun w' => pchance_any ha w')
  have B1 := Lib.hid (fun w' => pchance_any hb w')
  have S1 := Lib.hid (fun w' => pchance_any hs w')
  have r1 := fun (T : TypeId) (w' : World) => run_float_arith (P := Try.prog) w' .sub T .f64 _ _ _ h1
  have r2 := fun (T : TypeId) (w' : World) => run_float_arith (P := Try.prog) w' .mul T .f64 _ _ _ h2
  have r3 := fun (T : TypeId) (w' : World) => run_float_arith (P := Try.prog) w' .mul T .f64 _ _ _ h3
  have r4 := fun (T : TypeId) (w' : World) => run_float_arith (P := Try.prog) w' .add T .f64 _ _ _ h4
  clear e
  generalize chanceB a = CA at *
  generalize chanceB b = CB at *
  generalize chanceB s = CS at *
  clear h1 h2 h3 h4 ha hb hs
  go_enter Try.func20, Try.ntmps20
  go_wp2_with (first
    | (go_at_call 11; (first | with_reducible refine (A1.out _).mono ?_ | with_reducible refine (B1.out _).mono ?_ | with_reducible refine (S1.out _).mono ?_); rintro e w2 ⟨rfl, hw⟩; obtain rfl := hw.symm))
  go_ret
  exact ⟨rfl, rfl⟩
/-! ### bits -/
set_option maxRecDepth 100000 in
theorem isnan_any (x : Nat) (w : World) : Calls Try.prog 27 #[.float .f64 x] w (Is w (.bool (Ieee.double.order x x != some .eq))) := by
  have q1 : (FloatKind.f64.format.order x x != some .eq) = (Ieee.double.order x x != some .eq) := rfl
  generalize (Ieee.double.order x x != some .eq) = V at *
  go_enter Try.func27, Try.ntmps27
  go_wp2_with fail
  go_ret
  exact ⟨rfl, rfl⟩
set_option maxRecDepth 100000 in
theorem pbits_any (x : Nat) (w : World) : Calls Try.prog 10 #[.float .f64 x] w (Is w (.int .u64 (bitsB x))) := by
  have hb := bits_call x
  have N := Lib.hid (fun w' => isnan_any x w')
  unfold bitsB
  generalize (Ieee.double.order x x != some .eq) = V at *
  cases V
  · go_enter Try.func10, Try.ntmps10
    go_wp2_with (first
      | (go_at_call 27; (refine (N.out _).mono ?_); rintro e w2 ⟨rfl, hw⟩; obtain rfl := hw.symm))
    go_ret
    exact ⟨rfl, rfl⟩
  · go_enter Try.func10, Try.ntmps10
    go_wp2_with (first
      | (go_at_call 27; (refine (N.out _).mono ?_); rintro e w2 ⟨rfl, hw⟩; obtain rfl := hw.symm))
    go_ret
    exact ⟨rfl, rfl⟩
set_option maxRecDepth 100000 in
theorem psame_any (x y : Nat) (w : World) : Calls Try.prog 16 #[.float .f64 x, .float .f64 y] w (Is w (.bool (bitsB x == bitsB y))) := by
  have X := Lib.hid (fun w' => pbits_any x w')
  have Y := Lib.hid (fun w' => pbits_any y w')
  generalize bitsB x = BX at *
  generalize bitsB y = BY at *
  go_enter Try.func16, Try.ntmps16
  go_wp2_with (first
    | (go_at_call 10; (first | with_reducible refine (X.out _).mono ?_ | with_reducible refine (Y.out _).mono ?_); rintro e w2 ⟨rfl, hw⟩; obtain rfl := hw.symm))
  go_ret
  exact ⟨rfl, rfl⟩
end Go.Proofs.Ytblgkojeholbnaa.ieC
