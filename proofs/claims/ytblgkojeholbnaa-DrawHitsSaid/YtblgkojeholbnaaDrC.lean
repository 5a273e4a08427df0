/-
  The document's chances and draws: walked.
-/
import Derived.Test.YtblgkojeholbnaaIeC
import Derived.Test.YtblgkojeholbnaaPart
import Derived.Test.YtblgkojeholbnaaFree
import Derived.Laws.Cover2
import Derived.Laws.FloatArith
import Derived.Deep.CutRange
import Derived.Deep.Cut
namespace Go.Proofs.Ytblgkojeholbnaa.ieC
open Go.ChangeShapes Go.WideShapes Go.ChangeAt Go.RowKit
open Go.Proofs.Ytblgkojeholbnaa.memC Go.Proofs.Ytblgkojeholbnaa.genC Go.Proofs.Ytblgkojeholbnaa.butC Go.Proofs.Ytblgkojeholbnaa.freeC
set_option linter.unusedVariables false
/-- a call's value, and nothing else -/
def Is (w : World) (v : Value) (e : Ending) (w' : World) : Prop := e = .returned v ∧ w' = w
set_option maxRecDepth 100000 in
theorem rchance_any (x : Nat) (w : World) : Calls Try.prog 13 #[.float .f64 x] w (Is w (.float .f64 (chanceB x))) := by
  unfold chanceB geq
  cases h1 : (Ieee.double.order x 4607182418800017408 == some .gt || Ieee.double.order x 4607182418800017408 == some .eq)
  · cases h2 : (Ieee.double.order x 0 == some .gt)
    · have q1 : (FloatKind.f64.format.order x 4607182418800017408 == some .gt || FloatKind.f64.format.order x 4607182418800017408 == some .eq) = false := h1
      have q2 : (FloatKind.f64.format.order x 0 == some .gt) = false := h2
      clear h1 h2
      go_enter Try.func13, Try.ntmps13
      go_wp2_with fail
      go_ret
      exact ⟨rfl, rfl⟩
    · have q1 : (FloatKind.f64.format.order x 4607182418800017408 == some .gt || FloatKind.f64.format.order x 4607182418800017408 == some .eq) = false := h1
      have q2 : (FloatKind.f64.format.order x 0 == some .gt) = true := h2
      clear h1 h2
      go_enter Try.func13, Try.ntmps13
      go_wp2_with fail
      go_ret
      exact ⟨rfl, rfl⟩
  · have q1 : (FloatKind.f64.format.order x 4607182418800017408 == some .gt || FloatKind.f64.format.order x 4607182418800017408 == some .eq) = true := h1
    clear h1
    go_enter Try.func13, Try.ntmps13
    go_wp2_with fail
    go_ret
    exact ⟨rfl, rfl⟩
set_option maxRecDepth 100000 in
theorem rdraw_any (x : Nat) (w : World) : Calls Try.prog 15 #[.float .f64 x] w (Is w (.float .f64 (drawB x))) := by
  unfold drawB geq
  cases h1 : (Ieee.double.order x 4607182418800017408 == some .gt || Ieee.double.order x 4607182418800017408 == some .eq)
  · cases h2 : (Ieee.double.order x 0 == some .gt)
    · have q1 : (FloatKind.f64.format.order x 4607182418800017408 == some .gt || FloatKind.f64.format.order x 4607182418800017408 == some .eq) = false := h1
      have q2 : (FloatKind.f64.format.order x 0 == some .gt) = false := h2
      clear h1 h2
      go_enter Try.func15, Try.ntmps15
      go_wp2_with fail
      go_ret
      exact ⟨rfl, rfl⟩
    · have q1 : (FloatKind.f64.format.order x 4607182418800017408 == some .gt || FloatKind.f64.format.order x 4607182418800017408 == some .eq) = false := h1
      have q2 : (FloatKind.f64.format.order x 0 == some .gt) = true := h2
      clear h1 h2
      go_enter Try.func15, Try.ntmps15
      go_wp2_with fail
      go_ret
      exact ⟨rfl, rfl⟩
  · have q1 : (FloatKind.f64.format.order x 4607182418800017408 == some .gt || FloatKind.f64.format.order x 4607182418800017408 == some .eq) = true := h1
    clear h1
    go_enter Try.func15, Try.ntmps15
    go_wp2_with fail
    go_ret
    exact ⟨rfl, rfl⟩
set_option maxRecDepth 100000 in
theorem rhit_any (p d : Nat) (w : World) : Calls Try.prog 19 #[.float .f64 p, .float .f64 d] w (Is w (.bool (hitB p d))) := by
  have C := Lib.hid (fun w' => rchance_any p w')
  have D := Lib.hid (fun w' => rdraw_any d w')
  have q1 : (FloatKind.f64.format.order (drawB d) (chanceB p) == some .lt) = hitB p d := rfl
  generalize hitB p d = V at *
  generalize drawB d = X at *
  generalize chanceB p = Y at *
  go_enter Try.func19, Try.ntmps19
  go_wp2_with (first
    | (go_at_call 15; (refine (D.out _).mono ?_); rintro e w2 ⟨rfl, hw⟩; obtain rfl := hw.symm)
    | (go_at_call 13; (refine (C.out _).mono ?_); rintro e w2 ⟨rfl, hw⟩; obtain rfl := hw.symm))
  go_ret
  exact ⟨rfl, rfl⟩
set_option maxRecDepth 100000 in
/-- what the document's Mix gives -/
theorem rmix_any {a b s : Nat} (ha : a < 18446744073709551616) (hb : b < 18446744073709551616) (hs : s < 18446744073709551616) (w : World) :
    ∃ t x y z, Ieee.double.sub 4607182418800017408 (chanceB s) = some t ∧ Ieee.double.mul (chanceB a) t = some x ∧ Ieee.double.mul (chanceB b) (chanceB s) = some y ∧ Ieee.double.add x y = some z ∧ z ≤ 4607182418800017408 ∧
      Calls Try.prog 21 #[.float .f64 a, .float .f64 b, .float .f64 s] w (Is w (.float .f64 z)) := by
  obtain ⟨t, x, y, z, h1, h2, h3, h4, -, -, -, h5⟩ := mix_le (chance_le ha) (chance_le hb) (chance_le hs)
  refine ⟨t, x, y, z, h1, h2, h3, h4, h5, ?_⟩
  have A1 := Lib.hid (fun w' => rchance_any a w')
  have B1 := Lib.hid (fun w' => rchance_any b w')
  have S1 := Lib.hid (fun w' => rchance_any s w')
  have r1 := fun (T : TypeId) (w' : World) => run_float_arith (P := Try.prog) w' .sub T .f64 _ _ _ h1
  have r2 := fun (T : TypeId) (w' : World) => run_float_arith (P := Try.prog) w' .mul T .f64 _ _ _ h2
  have r3 := fun (T : TypeId) (w' : World) => run_float_arith (P := Try.prog) w' .mul T .f64 _ _ _ h3
  have r4 := fun (T : TypeId) (w' : World) => run_float_arith (P := Try.prog) w' .add T .f64 _ _ _ h4
  generalize chanceB a = CA at *
  generalize chanceB b = CB at *
  generalize chanceB s = CS at *
  clear h1 h2 h3 h4 h5 ha hb hs
  go_enter Try.func21, Try.ntmps21
  go_wp2_with (first
    | (go_at_call 13; (first | with_reducible refine (A1.out _).mono ?_ | with_reducible refine (B1.out _).mono ?_ | with_reducible refine (S1.out _).mono ?_); rintro e w2 ⟨rfl, hw⟩; obtain rfl := hw.symm))
  go_ret
  exact ⟨rfl, rfl⟩
end Go.Proofs.Ytblgkojeholbnaa.ieC
