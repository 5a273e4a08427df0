/-
  What each function of package ring, and of the document's answers, does: a contract each.
-/
import Derived.Test.YtfclegelcobdoaaMath
import Derived.ProofKit
import Derived.OpenShut
import Derived.Outline
import Derived.Below
import Derived.Deep.QuietTactic
import Derived.BigQuiet
import Derived.Lib.Hide
namespace Go.Proofs.Ytfclegelcobdoaa.ringC
open Go.ChangeShapes Go.WideShapes Go.ChangeAt Go.RowKit
open Go.Proofs.Ytfclegelcobdoaa.ringM
set_option linter.unusedVariables false
theorem ret_int {k : IntKind} {a b : Int} (h : a = b) : Ending.returned (.int k a) = .returned (.int k b) := by rw [h]
theorem ret_bool {a b : Bool} (h : a = b) : Ending.returned (.bool a) = .returned (.bool b) := by rw [h]

theorem diff_any (a b : Int) (w : World) (ha : 0 ≤ a) (ha' : a ≤ 4294967295) (hb : 0 ≤ b) (hb' : b ≤ 4294967295) :
    Calls Try.prog 11 #[.int .u32 a, .int .u32 b] w fun e w' => e = .returned (.int .i32 (dZ a b)) ∧ w = w' := by
  go_enter Try.func11, Try.ntmps11
  go_wp2
  go_ret
  exact ⟨ret_int rfl, rfl⟩
theorem ahead_any (a b : Int) (w : World) (ha : 0 ≤ a) (ha' : a ≤ 4294967295) (hb : 0 ≤ b) (hb' : b ≤ 4294967295) :
    Calls Try.prog 27 #[.int .u32 a, .int .u32 b] w fun e w' => e = .returned (.int .i64 (aZ a b)) ∧ w = w' := by
  have ht := tmod_small (b - a) (by omega) (by omega)
  go_enter Try.func27, Try.ntmps27
  go_wp2
  all_goals
    go_ret
    exact ⟨ret_int (by unfold aZ; omega), rfl⟩
theorem dref_any (a b : Int) (w : World) (ha : 0 ≤ a) (ha' : a ≤ 4294967295) (hb : 0 ≤ b) (hb' : b ≤ 4294967295) :
    Calls Try.prog 12 #[.int .u32 a, .int .u32 b] w fun e w' => e = .returned (.int .i32 (dZ a b)) ∧ w = w' := by
  have h1 := aZ_lo a b
  have h2 := aZ_hi a b
  by_cases c : aZ a b < 2147483648
  all_goals
    go_enter Try.func12, Try.ntmps12
    go_wp2_with (go_at_call 27; refine (ahead_any _ _ _ ha ha' hb hb').mono ?_; rintro e w' ⟨rfl, rfl⟩)
    go_ret
    exact ⟨ret_int (by rw [dZ_eq]; split <;> omega), rfl⟩
theorem bf_any (a b : Int) (w : World) (ha : 0 ≤ a) (ha' : a ≤ 4294967295) (hb : 0 ≤ b) (hb' : b ≤ 4294967295) :
    Calls Try.prog 13 #[.int .u32 a, .int .u32 b] w fun e w' => e = .returned (.bool (bfB a b)) ∧ w = w' := by
  go_enter Try.func13, Try.ntmps13
  go_wp2_with (go_at_call 11; refine (diff_any _ _ _ ha ha' hb hb').mono ?_; rintro e w' ⟨rfl, rfl⟩)
  go_ret
  exact ⟨ret_bool rfl, rfl⟩
theorem bfref_any (a b : Int) (w : World) (ha : 0 ≤ a) (ha' : a ≤ 4294967295) (hb : 0 ≤ b) (hb' : b ≤ 4294967295) :
    Calls Try.prog 14 #[.int .u32 a, .int .u32 b] w fun e w' => e = .returned (.bool (bfB a b)) ∧ w = w' := by
  go_enter Try.func14, Try.ntmps14
  go_wp2_with (go_at_call 12; refine (dref_any _ _ _ ha ha' hb hb').mono ?_; rintro e w' ⟨rfl, rfl⟩)
  go_ret
  exact ⟨ret_bool rfl, rfl⟩
theorem in_any (n a b : Int) (w : World) (hn : 0 ≤ n) (hn' : n ≤ 4294967295) (ha : 0 ≤ a) (ha' : a ≤ 4294967295) :
    Calls Try.prog 17 #[.int .u32 n, .int .u32 a, .int .u32 b] w fun e w' => e = .returned (.bool (inB n a b)) ∧ w = w' := by
  go_enter Try.func17, Try.ntmps17
  go_wp2
  go_ret
  exact ⟨ret_bool rfl, rfl⟩
theorem inref_any (n a b : Int) (w : World) (hn : 0 ≤ n) (hn' : n ≤ 4294967295) (ha : 0 ≤ a) (ha' : a ≤ 4294967295) (hb : 0 ≤ b) (hb' : b ≤ 4294967295) :
    Calls Try.prog 18 #[.int .u32 n, .int .u32 a, .int .u32 b] w fun e w' => e = .returned (.bool (inB n a b)) ∧ w = w' := by
  go_enter Try.func18, Try.ntmps18
  go_wp2_with (go_at_call 27; refine (ahead_any _ _ _ ha ha' hn hn').mono ?_; rintro e w' ⟨rfl, rfl⟩)
  go_ret
  exact ⟨ret_bool rfl, rfl⟩
theorem bt_any (n a b : Int) (w : World) (hn : 0 ≤ n) (hn' : n ≤ 4294967295) (ha : 0 ≤ a) (ha' : a ≤ 4294967295) (hb : 0 ≤ b) (hb' : b ≤ 4294967295) :
    Calls Try.prog 19 #[.int .u32 n, .int .u32 a, .int .u32 b] w fun e w' => e = .returned (.bool (btB n a b)) ∧ w = w' := by
  go_enter Try.func19, Try.ntmps19
  go_wp2_with (go_at_call 17; refine (in_any _ _ _ _ hn hn' (by omega) (by omega)).mono ?_; rintro e w' ⟨rfl, rfl⟩)
  go_ret
  exact ⟨ret_bool rfl, rfl⟩
theorem btref_any (n a b : Int) (w : World) (hn : 0 ≤ n) (hn' : n ≤ 4294967295) (ha : 0 ≤ a) (ha' : a ≤ 4294967295) (hb : 0 ≤ b) (hb' : b ≤ 4294967295) :
    Calls Try.prog 20 #[.int .u32 n, .int .u32 a, .int .u32 b] w fun e w' => e = .returned (.bool (btB n a b)) ∧ w = w' := by
  have K := Lib.hid (btB_eq n a b hn hn' ha ha')
  by_cases c : n = a
  · subst c
    go_enter Try.func20, Try.ntmps20
    go_wp2_with (go_at_call 27; refine (ahead_any _ _ _ (by assumption) (by assumption) (by assumption) (by assumption)).mono ?_; rintro e w' ⟨rfl, rfl⟩)
    go_ret
    exact ⟨ret_bool (by rw [K.out]; simp), rfl⟩
  · have c' : (n == a) = false := by simpa using c
    go_enter Try.func20, Try.ntmps20
    go_wp2_with (go_at_call 27; refine (ahead_any _ _ _ (by assumption) (by assumption) (by assumption) (by assumption)).mono ?_; rintro e w' ⟨rfl, rfl⟩)
    go_ret
    exact ⟨ret_bool (by rw [K.out, c']; simp [c]), rfl⟩
theorem inrun_any (n l r : Int) (w : World) (hn : 0 ≤ n) (hn' : n ≤ 4294967295) (hl : 0 ≤ l) (hl' : l ≤ 4294967295) (hr : 0 ≤ r) (hr' : r ≤ 4294967295) :
    Calls Try.prog 28 #[.int .u32 n, .agg #[.int .u32 l, .int .u32 r]] w fun e w' => e = .returned (.bool (inB n l (aZ l r))) ∧ w.alloc (.cells #[.int .u32 l, .int .u32 r] 31) = w' := by
  go_enter Try.func28, Try.ntmps28
  go_wp2_with (go_at_call 17; refine (in_any _ _ _ _ hn hn' hl hl').mono ?_; rintro e w' ⟨rfl, rfl⟩)
  go_ret
  exact ⟨ret_bool rfl, rfl⟩
theorem acc_any (b s q l : Int) (w : World) (h1 : 0 ≤ b) (h2 : b ≤ 4294967295) (h3 : 0 ≤ s) (h4 : s ≤ 4294967295) (h5 : 0 ≤ q) (h6 : q ≤ 4294967295) (h7 : 0 ≤ l) (h8 : l ≤ 4294967295) :
    Calls Try.prog 25 #[.int .u32 b, .int .u32 s, .int .u32 q, .int .u32 l] w fun e w' => e = .returned (.bool (acB b s q l)) ∧ w = w' := by
  by_cases c : l = 0
  · by_cases d : s = 0
    · have C := Lib.hid c
      have D := Lib.hid d
      have c' : (l == 0) = true := by simpa using c
      have d' : (s == 0) = true := by simpa using d
      clear c d
      go_enter Try.func25, Try.ntmps25
      go_wp2_with fail
      go_ret
      exact ⟨ret_bool (by unfold acB; rw [if_pos C.out, if_pos D.out]), rfl⟩
    · have C := Lib.hid c
      have D := Lib.hid d
      have c' : (l == 0) = true := by simpa using c
      have d' : (s == 0) = false := by simpa using d
      clear c d
      go_enter Try.func25, Try.ntmps25
      go_wp2_with (go_at_call 17; refine (in_any _ _ _ _ h5 h6 h1 h2).mono ?_; rintro e w' ⟨rfl, rfl⟩)
      go_ret
      exact ⟨ret_bool (by unfold acB; rw [if_pos C.out, if_neg D.out]), rfl⟩
  · have C := Lib.hid c
    have c' : (l == 0) = false := by simpa using c
    clear c
    have e1 : ((q + l) % 4294967296 - 1) % 4294967296 = (q + l - 1) % 4294967296 := by omega
    cases d : inB q b s
    all_goals
      go_enter Try.func25, Try.ntmps25
      go_wp2_with (go_at_call 17; refine (in_any _ _ _ _ (by omega) (by omega) h1 h2).mono ?_; rintro e w' ⟨rfl, rfl⟩)
      go_ret
      exact ⟨ret_bool (by unfold acB; rw [if_neg C.out, d]; simp), rfl⟩
theorem accref_any (b s q l : Int) (w : World) (h1 : 0 ≤ b) (h2 : b ≤ 4294967295) (h3 : 0 ≤ s) (h4 : s ≤ 4294967295) (h5 : 0 ≤ q) (h6 : q ≤ 4294967295) (h7 : 0 ≤ l) (h8 : l ≤ 4294967295) :
    Calls Try.prog 26 #[.int .u32 b, .int .u32 s, .int .u32 q, .int .u32 l] w fun e w' => e = .returned (.bool (acB b s q l)) ∧ w = w' := by
  by_cases c : l = 0
  · by_cases d : s = 0
    · have C := Lib.hid c
      have D := Lib.hid d
      have c' : (l == 0) = true := by simpa using c
      have d' : (s == 0) = true := by simpa using d
      have i0 : inB q b s = false := by rw [d]; unfold inB; have := aZ_lo b q; simp; omega
      clear c d
      cases g : (q == b)
      all_goals
        go_enter Try.func26, Try.ntmps26
        go_wp2_with (go_at_call 18; refine (inref_any _ _ _ _ h5 h6 h1 h2 h3 h4).mono ?_; rintro e w' ⟨rfl, rfl⟩)
        go_ret
        exact ⟨ret_bool (by unfold acB; rw [if_pos C.out, if_pos D.out, g]), rfl⟩
    · have C := Lib.hid c
      have D := Lib.hid d
      have c' : (l == 0) = true := by simpa using c
      have d' : (s == 0) = false := by simpa using d
      clear c d
      go_enter Try.func26, Try.ntmps26
      go_wp2_with (go_at_call 18; refine (inref_any _ _ _ _ h5 h6 h1 h2 h3 h4).mono ?_; rintro e w' ⟨rfl, rfl⟩)
      go_ret
      exact ⟨ret_bool (by unfold acB; rw [if_pos C.out, if_neg D.out]), rfl⟩
  · have C := Lib.hid c
    have c' : (l == 0) = false := by simpa using c
    have l1 : 1 ≤ l := by omega
    clear c
    have e1 : (q + l - 1).tmod 4294967296 = (q + l - 1) % 4294967296 := Int.tmod_eq_emod_of_nonneg (by omega)
    cases d : inB q b s
    all_goals
      go_enter Try.func26, Try.ntmps26
      go_wp2_with (go_at_call 18; refine (inref_any _ _ _ _ (by omega) (by omega) h1 h2 h3 h4).mono ?_; rintro e w' ⟨rfl, rfl⟩)
      go_ret
      exact ⟨ret_bool (by unfold acB; rw [if_neg C.out, d]; simp), rfl⟩
end Go.Proofs.Ytfclegelcobdoaa.ringC
