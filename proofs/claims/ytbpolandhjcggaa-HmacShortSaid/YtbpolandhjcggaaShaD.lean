/-
  The code's small ones: going round, f and K, the first numbers.
-/
import Derived.Test.YtbpolandhjcggaaShaN
namespace Go.Proofs.Ytbpolandhjcggaa.shaC
open Go.ChangeShapes Go.WideShapes Go.ChangeAt Go.RowKit
open Go.Proofs.Ytbpolandhjcggaa.memC Go.Proofs.Ytbpolandhjcggaa.genC Go.Proofs.Ytbpolandhjcggaa.shaM Go.Proofs.Ytbpolandhjcggaa.shaN Go.Proofs.Ytbpolandhjcggaa.butC
set_option linter.unusedVariables false
theorem and31_1 : bits .and .u64 1 31 = 1 := by decide
theorem and31_5 : bits .and .u64 5 31 = 5 := by decide
theorem and31_30 : bits .and .u64 30 31 = 30 := by decide
theorem rotl_any (n : Int) (s : Nat) (w : World) (h : W32 n) (hs : s = 1 ∨ s = 5 ∨ s = 30) :
    Calls Try.prog 28 #[.int .u32 n, .int .i64 (s : Int)] w fun e w' => e = .returned (.int .u32 (rol n s)) ∧ w = w' := by
  obtain ⟨n0, n1⟩ := h
  have a1 := Lib.hid and31_1
  have a2 := Lib.hid and31_5
  have a3 := Lib.hid and31_30
  rcases hs with rfl | rfl | rfl
  · have b1 : bits .and .u64 1 31 = 1 := a1.out
    go_enter Try.func28, Try.ntmps28
    go_wp2_with fail
    go_ret
    exact ⟨rfl, rfl⟩
  · have b1 : bits .and .u64 5 31 = 5 := a2.out
    go_enter Try.func28, Try.ntmps28
    go_wp2_with fail
    go_ret
    exact ⟨rfl, rfl⟩
  · have b1 : bits .and .u64 30 31 = 30 := a3.out
    go_enter Try.func28, Try.ntmps28
    go_wp2_with fail
    go_ret
    exact ⟨rfl, rfl⟩
theorem pick_any (t : Nat) (b c d : Int) (w : World) (ht : t < 80) (hb : W32 b) (hc : W32 c) (hd : W32 d) :
    Calls Try.prog 27 #[.int .i64 (t : Int), .int .u32 b, .int .u32 c, .int .u32 d] w fun e w' => e = .returned (.tuple #[.int .u32 (fN t b c d), .int .u32 (kN t)]) ∧ w = w' := by
  obtain ⟨b0, b1⟩ := hb
  obtain ⟨c0, c1⟩ := hc
  obtain ⟨d0, d1⟩ := hd
  rcases (show t / 20 = 0 ∨ t / 20 = 1 ∨ t / 20 = 2 ∨ t / 20 = 3 by omega) with h | h | h | h
  · have H := Lib.hid h
    have e1 : (t : Int) < 20 := by omega
    clear h
    go_enter Try.func27, Try.ntmps27
    go_wp2_with fail
    go_ret2
    simp [fN, kN, H.out, an, ro, nt]
  · have H := Lib.hid h
    have e1 : ¬ (t : Int) < 20 := by omega
    have e2 : (t : Int) < 40 := by omega
    clear h
    go_enter Try.func27, Try.ntmps27
    go_wp2_with fail
    go_ret2
    simp [fN, kN, H.out, xo]
  · have H := Lib.hid h
    have e1 : ¬ (t : Int) < 20 := by omega
    have e2 : ¬ (t : Int) < 40 := by omega
    have e3 : (t : Int) < 60 := by omega
    clear h
    go_enter Try.func27, Try.ntmps27
    go_wp2_with fail
    go_ret2
    simp [fN, kN, H.out, an, ro]
  · have H := Lib.hid h
    have e1 : ¬ (t : Int) < 20 := by omega
    have e2 : ¬ (t : Int) < 40 := by omega
    have e3 : ¬ (t : Int) < 60 := by omega
    clear h
    go_enter Try.func27, Try.ntmps27
    go_wp2_with fail
    go_ret2
    simp [fN, kN, H.out, xo]
end Go.Proofs.Ytbpolandhjcggaa.shaC
