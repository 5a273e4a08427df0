/-
  Contracts, more: Overlap.
-/
import Derived.Test.YtfclegelcobdoaaRingB
namespace Go.Proofs.Ytfclegelcobdoaa.ringC
open Go.ChangeShapes Go.WideShapes Go.ChangeAt Go.RowKit
open Go.Proofs.Ytfclegelcobdoaa.ringM
set_option linter.unusedVariables false

theorem Below.drewN {B : Nat} {a w : World} {n : Nat} (h : Below B a w) : Below B a (w.drewN n) := ⟨h.os, h.tape, h.output, h.size, h.block⟩
theorem ovl_any (al ar bl br : Int) (w : World) (h1 : 0 ≤ al) (h2 : al ≤ 4294967295) (h3 : 0 ≤ ar) (h4 : ar ≤ 4294967295) (h5 : 0 ≤ bl) (h6 : bl ≤ 4294967295) (h7 : 0 ≤ br) (h8 : br ≤ 4294967295) :
    Calls Try.prog 21 #[.agg #[.int .u32 al, .int .u32 ar], .agg #[.int .u32 bl, .int .u32 br]] w fun e w' => e = .returned (.bool (ovB al ar bl br)) ∧ Below w.heap.size w w' := by
  cases c1 : (al == ar)
  · cases c2 : (bl == br)
    · cases c3 : inB al bl (aZ bl br)
      all_goals
        go_enter Try.func21, Try.ntmps21
        go_wp2_with (go_at_call 28; refine (inrun_any _ _ _ _ (by omega) (by omega) (by omega) (by omega) (by omega) (by omega)).mono ?_; rintro e w' ⟨rfl, rfl⟩)
        go_ret
        exact ⟨ret_bool (by unfold ovB; rw [c1, c2, c3]; simp), by repeat (first | exact Below.refl _ _ | apply Below.drewN | apply Below.drew | (refine Below.alloc ?_ (by simp <;> omega) _))⟩
    · go_enter Try.func21, Try.ntmps21
      go_wp2_with fail
      go_ret
      exact ⟨ret_bool (by unfold ovB; rw [c1, c2]; simp), by repeat (first | exact Below.refl _ _ | apply Below.drewN | apply Below.drew | (refine Below.alloc ?_ (by simp <;> omega) _))⟩
  · go_enter Try.func21, Try.ntmps21
    go_wp2_with fail
    go_ret
    exact ⟨ret_bool (by unfold ovB; rw [c1]; simp), by repeat (first | exact Below.refl _ _ | apply Below.drewN | apply Below.drew | (refine Below.alloc ?_ (by simp <;> omega) _))⟩
theorem aZ_zero (a b : Int) (h1 : 0 ≤ a) (h2 : a ≤ 4294967295) (h3 : 0 ≤ b) (h4 : b ≤ 4294967295) : (aZ a b == 0) = (a == b) := by
  rw [Bool.eq_iff_iff]; unfold aZ; simp; omega
theorem ovlref_any (al ar bl br : Int) (w : World) (h1 : 0 ≤ al) (h2 : al ≤ 4294967295) (h3 : 0 ≤ ar) (h4 : ar ≤ 4294967295) (h5 : 0 ≤ bl) (h6 : bl ≤ 4294967295) (h7 : 0 ≤ br) (h8 : br ≤ 4294967295) :
    Calls Try.prog 22 #[.agg #[.int .u32 al, .int .u32 ar], .agg #[.int .u32 bl, .int .u32 br]] w fun e w' => e = .returned (.bool (ovB al ar bl br)) ∧ Below w.heap.size w w' := by
  have z1 := aZ_zero al ar h1 h2 h3 h4
  have z2 := aZ_zero bl br h5 h6 h7 h8
  cases c1 : (al == ar)
  · rw [c1] at z1
    cases c2 : (bl == br)
    · rw [c2] at z2
      cases c3 : inB bl al (aZ al ar)
      all_goals
        have C3 := Lib.hid c3
        have c4 : decide (aZ al bl < aZ al ar) = inB bl al (aZ al ar) := rfl
        rw [c3] at c4
        clear c3
        go_enter Try.func22, Try.ntmps22
        go_wp2_with fail
        go_quiet ((go_at_call 27; exact Calls.quiet_of_same ((ahead_any _ _ _ (by omega) (by omega) (by omega) (by omega)).mono fun e w' h => ⟨h.1, h.2.symm⟩)))
        go_wp2_with (go_at_call 27; refine (ahead_any _ _ _ (by omega) (by omega) (by omega) (by omega)).mono ?_; rintro e w' ⟨rfl, rfl⟩)
        go_ret
        exact ⟨ret_bool (by unfold ovB; rw [c1, c2, C3.out]; simp [inB]), by repeat (first | exact Below.refl _ _ | apply Below.drewN | apply Below.drew | (refine Below.alloc ?_ (by simp <;> omega) _))⟩
    · rw [c2] at z2
      go_enter Try.func22, Try.ntmps22
      go_wp2_with fail
      go_quiet ((go_at_call 27; exact Calls.quiet_of_same ((ahead_any _ _ _ (by omega) (by omega) (by omega) (by omega)).mono fun e w' h => ⟨h.1, h.2.symm⟩)))
      go_wp2_with (go_at_call 27; refine (ahead_any _ _ _ (by omega) (by omega) (by omega) (by omega)).mono ?_; rintro e w' ⟨rfl, rfl⟩)
      go_ret
      exact ⟨ret_bool (by unfold ovB; rw [c1, c2]; rfl), by repeat (first | exact Below.refl _ _ | apply Below.drewN | apply Below.drew | (refine Below.alloc ?_ (by simp <;> omega) _))⟩
  · rw [c1] at z1
    go_enter Try.func22, Try.ntmps22
    go_wp2_with fail
    go_quiet ((go_at_call 27; exact Calls.quiet_of_same ((ahead_any _ _ _ (by omega) (by omega) (by omega) (by omega)).mono fun e w' h => ⟨h.1, h.2.symm⟩)))
    go_wp2_with (go_at_call 27; refine (ahead_any _ _ _ (by omega) (by omega) (by omega) (by omega)).mono ?_; rintro e w' ⟨rfl, rfl⟩)
    go_ret
    exact ⟨ret_bool (by unfold ovB; rw [c1]; rfl), by repeat (first | exact Below.refl _ _ | apply Below.drewN | apply Below.drew | (refine Below.alloc ?_ (by simp <;> omega) _))⟩
end Go.Proofs.Ytfclegelcobdoaa.ringC
