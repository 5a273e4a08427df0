/-
  The document's Bits, weight, Delay: walked.
-/
import Derived.Test.YtblgkojeholbnaaDrC
import Derived.Test.YtblgkojeholbnaaIeP
namespace Go.Proofs.Ytblgkojeholbnaa.ieC
open Go.ChangeShapes Go.WideShapes Go.ChangeAt Go.RowKit
open Go.Proofs.Ytblgkojeholbnaa.memC Go.Proofs.Ytblgkojeholbnaa.genC Go.Proofs.Ytblgkojeholbnaa.butC Go.Proofs.Ytblgkojeholbnaa.freeC
set_option linter.unusedVariables false
/-- a number's bits; of what is no number those that are agreed -/
def bitsB (x : Nat) : Int := if (Ieee.double.order x x != some .eq) = true then 9221120237041090561 else (x : Int)
theorem bits_call (x : Nat) (w : World) : (callFunc 28 #[.float .f64 x]).run Try.prog w = .ok (.value (.int .u64 (x : Nat))) w := by
  have h := run_callFunc_extern (e := Extern.MathFloatBits.float64bits) Try.func28 (by kernel_rfl) (by kernel_rfl) (by kernel_rfl) (by kernel_rfl) #[.float .f64 x] w
  rw [h]
  rfl
set_option maxRecDepth 100000 in
theorem rbits_any (x : Nat) (w : World) : Calls Try.prog 12 #[.float .f64 x] w (Is w (.int .u64 (bitsB x))) := by
  have hb := bits_call x
  unfold bitsB
  cases h1 : (Ieee.double.order x x != some .eq)
  · have q1 : (FloatKind.f64.format.order x x != some .eq) = false := h1
    clear h1
    go_enter Try.func12, Try.ntmps12
    go_wp2_with fail
    go_ret
    exact ⟨rfl, rfl⟩
  · have q1 : (FloatKind.f64.format.order x x != some .eq) = true := h1
    clear h1
    go_enter Try.func12, Try.ntmps12
    go_wp2_with fail
    go_ret
    exact ⟨rfl, rfl⟩
/-- an equation of a float's reckoning, for the walk -/
theorem arith {op : BinOp} {x y r : Nat} (h : floatBits op .f64 x y = some r) : ∀ (T : TypeId) (w' : World), (binOp op T (.float .f64 x) (.float .f64 y)).run Try.prog w' = .ok (.float .f64 r) w' := fun T w' => run_float_arith (P := Try.prog) w' op T .f64 x y r h
set_option maxRecDepth 100000 in
set_option maxHeartbeats 1000000 in
theorem rweight_any {x : Nat} (hx : x < 18446744073709551616) (w : World) : Calls Try.prog 34 #[.float .f64 x] w (Is w (.float .f64 (weightB x))) := by
  have HV := Lib.hid (show weightB x = if (Ieee.double.order x 0 == some .gt) = true then (if x = 9218868437227405312 then GREAT else x) else 0 from rfl)
  have HX := Lib.hid (fun h => order_gt0 hx h)
  generalize weightB x = W0 at *
  clear hx
  go_enter Try.func34, Try.ntmps34
  go_upto_region 3 with fail
  go_loopw [3, 4] (fun u v wr => ∃ i : Nat, i ≤ 900 ∧ u = .float .f64 (4607182418800017408 + i * 4503599627370496) ∧ v = .int .i64 i ∧ wr = w) (fun u v _ => 900 - (intOf v).toNat)
  case atStart => exact ⟨0, by omega, rfl, rfl, rfl⟩
  case round =>
    obtain ⟨i, hi, rfl, rfl, rfl⟩ := hrel
    by_cases hlt : i < 900
    · have q6 : (i : Int) < 900 := by omega
      have wi : IntKind.i64.wrap ((i : Int) + 1) = (i : Int) + 1 := IntWalk.i64_in _ (by omega)
      have h1 := great_all i hlt
      obtain ⟨g, hg⟩ : ∃ g, g = 4607182418800017408 + i * 4503599627370496 := ⟨_, rfl⟩
      obtain ⟨g', hg'⟩ : ∃ g, g = 4607182418800017408 + (i + 1) * 4503599627370496 := ⟨_, rfl⟩
      rw [← hg, ← hg'] at h1
      rw [← hg]
      have r1 := arith (op := .mul) (x := g) (y := 4611686018427387904) h1
      have HG := Lib.hid hg'
      have HI := Lib.hid hlt
      clear h1 hg hg' hi hlt
      go_wp2_with fail
      go_roundw
      case rel => exact ⟨i + 1, HI.out, by rw [HG.out], by simp, by first | rfl | trivial⟩
      case measure => have := HI.out; simp [intOf]; omega
    obtain rfl : i = 900 := by omega
    rw [great_is]
    clear hi hlt
    cases h2 : (Ieee.double.order x 0 == some .gt)
    · have q2 : (FloatKind.f64.format.order x 0 == some .gt) = false := h2
      have hw := Lib.hid HV.out
      rw [h2] at hw
      have hw2 := Lib.hid (show W0 = 0 by have := hw.out; simpa using this)
      clear h2 hw
      generalize GREAT = G at *
      go_wp2_with go_skip
      go_ret
      exact ⟨by rw [hw2.out]; rfl, rfl⟩
    · have q2 : (FloatKind.f64.format.order x 0 == some .gt) = true := h2
      obtain ⟨k1, k2⟩ := HX.out (by simpa using h2)
      have hw := HV.out
      rw [h2, if_pos rfl] at hw
      by_cases h3 : x = 9218868437227405312
      · rw [if_pos h3] at hw
        have h4 : Ieee.double.mul x 4611686018427387904 = some x := by rw [h3]; exact twice_inf.1
        have q3 : (FloatKind.f64.format.order x x == some .eq) = true := by rw [h3]; decide
        have r1 := arith (op := .mul) (x := x) (y := 4611686018427387904) h4
        have HW := Lib.hid hw
        clear h2 h3 h4 hw k1 k2
        generalize GREAT = G at *
        go_wp2_with go_skip
        go_ret
        exact ⟨by rw [HW.out]; rfl, rfl⟩
      · rw [if_neg h3] at hw
        obtain ⟨v, h4, -, h5, h6⟩ := twice_num k1 (by omega)
        have q3 : (FloatKind.f64.format.order v x == some .eq) = false := by
          show (Ieee.double.order v x == some .eq) = false
          rw [order_all h6 k2, Nat.compare_eq_gt.2 h5]; rfl
        have r1 := arith (op := .mul) (x := x) (y := 4611686018427387904) h4
        have HW := Lib.hid hw
        clear h2 h3 h4 h5 h6 hw k1 k2
        generalize GREAT = G at *
        go_wp2_with go_skip
        go_ret
        exact ⟨by rw [HW.out]; rfl, rfl⟩
end Go.Proofs.Ytblgkojeholbnaa.ieC
