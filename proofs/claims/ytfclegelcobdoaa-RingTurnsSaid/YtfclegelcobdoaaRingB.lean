/-
  Contracts, more: Overlap, Long, Max, and what stands in each statement beside.
-/
import Derived.Test.YtfclegelcobdoaaRing
import Derived.Laws.BitsAllLaws
namespace Go.Proofs.Ytfclegelcobdoaa.ringC
open Go.ChangeShapes Go.WideShapes Go.ChangeAt Go.RowKit
open Go.Proofs.Ytfclegelcobdoaa.ringM
set_option linter.unusedVariables false

theorem long_any (near n : Int) (w : World) (h1 : 0 ≤ near) (h2 : near ≤ 18446744073709551615) (h3 : 0 ≤ n) (h4 : n ≤ 4294967295) :
    Calls Try.prog 23 #[.int .u64 near, .int .u32 n] w fun e w' => e = .returned (.int .u64 (lgZ near n)) ∧ w = w' := by
  have b1 := dZ_lo (near % 4294967296) n
  have b2 := dZ_hi (near % 4294967296) n
  go_enter Try.func23, Try.ntmps23
  go_wp2_with (go_at_call 11; refine (diff_any _ _ _ (by omega) (by omega) h3 h4).mono ?_; rintro e w' ⟨rfl, rfl⟩)
  all_goals
    go_ret
    exact ⟨ret_int (by unfold lgZ; split <;> (try split) <;> omega), rfl⟩
theorem low_bits (x : Int) (h0 : 0 ≤ x) (h1 : x ≤ 18446744073709551615) : bits .and .u64 x 4294967295 = x % 4294967296 := by
  rw [Go.u64_and x 4294967295 h0 (by omega) (by omega) (by omega)]
  have e : (4294967295 : Int).toNat = 2 ^ 32 - 1 := by decide
  rw [e, Nat.and_two_pow_sub_one_eq_mod]
  omega
theorem longref_any (near n : Int) (w : World) (h1 : 0 ≤ near) (h2 : near ≤ 18446744073709551615) (h3 : 0 ≤ n) (h4 : n ≤ 4294967295) :
    Calls Try.prog 24 #[.int .u64 near, .int .u32 n] w fun e w' => e = .returned (.int .u64 (lgZ near n)) ∧ w = w' := by
  have b1 := dZ_lo (near % 4294967296) n
  have b2 := dZ_hi (near % 4294967296) n
  have hb := low_bits near h1 h2
  have hd := Lib.hid (dZ_of (near % 4294967296) n (by omega) (by omega) h3 h4)
  by_cases c1 : near % 4294967296 + dZ (near % 4294967296) n < 0
  · by_cases c2 : 0 < near / 4294967296
    all_goals
      go_enter Try.func24, Try.ntmps24
      go_wp2_with (go_at_call 12; refine (dref_any _ _ _ (by omega) (by omega) h3 h4).mono ?_; rintro e w' ⟨rfl, rfl⟩)
      go_ret
      have hd := hd.out
      exact ⟨ret_int (by unfold lgZ; split <;> (try split) <;> omega), rfl⟩
  · by_cases c3 : 4294967296 ≤ near % 4294967296 + dZ (near % 4294967296) n
    · by_cases c2 : near / 4294967296 < 4294967295
      all_goals
        go_enter Try.func24, Try.ntmps24
        go_wp2_with (go_at_call 12; refine (dref_any _ _ _ (by omega) (by omega) h3 h4).mono ?_; rintro e w' ⟨rfl, rfl⟩)
        go_ret
        have hd := hd.out
        exact ⟨ret_int (by unfold lgZ; split <;> (try split) <;> omega), rfl⟩
    · go_enter Try.func24, Try.ntmps24
      go_wp2_with (go_at_call 12; refine (dref_any _ _ _ (by omega) (by omega) h3 h4).mono ?_; rintro e w' ⟨rfl, rfl⟩)
      go_ret
      have hd := hd.out
      exact ⟨ret_int (by unfold lgZ; split <;> (try split) <;> omega), rfl⟩

end Go.Proofs.Ytfclegelcobdoaa.ringC
