/-
  The walk of the statement that all hangs on differences alone.
-/
import Derived.Test.YtfclegelcobdoaaRingE
namespace Go.Proofs.Ytfclegelcobdoaa.ringC
open Go.ChangeShapes Go.WideShapes Go.ChangeAt Go.RowKit
open Go.Proofs.Ytfclegelcobdoaa.ringM
set_option linter.unusedVariables false

theorem aZ_by (a b t : Int) : aZ ((a + t) % 4294967296) ((b + t) % 4294967296) = aZ a b := by unfold aZ; omega
theorem dZ_by (a b t : Int) : dZ ((a + t) % 4294967296) ((b + t) % 4294967296) = dZ a b := by rw [dZ_eq, dZ_eq, aZ_by]
theorem inB_by (a b c t : Int) : inB ((a + t) % 4294967296) ((b + t) % 4294967296) c = inB a b c := by unfold inB; rw [aZ_by]
theorem btB_by (a b c t : Int) : btB ((a + t) % 4294967296) ((b + t) % 4294967296) ((c + t) % 4294967296) = btB a b c := by
  have e : ((b + t) % 4294967296 + 1) % 4294967296 = ((b + 1) % 4294967296 + t) % 4294967296 := by omega
  unfold btB; rw [aZ_by, e, inB_by]
theorem acB_by (a b c d t : Int) (ha : 0 ≤ a) (ha' : a ≤ 4294967295) (hc : 0 ≤ c) (hc' : c ≤ 4294967295) : acB ((a + t) % 4294967296) b ((c + t) % 4294967296) d = acB a b c d := by
  have e : ((c + t) % 4294967296 + d - 1) % 4294967296 = ((c + d - 1) % 4294967296 + t) % 4294967296 := by omega
  have f : ((c + t) % 4294967296 == (a + t) % 4294967296) = (c == a) := by rw [Bool.eq_iff_iff]; simp; omega
  unfold acB; rw [e, inB_by, inB_by, f]
theorem mxZ_by (t : Int) : ∀ (l : List Int) (n : Int), mxZ ((n + t) % 4294967296) (l.map fun x => (x + t) % 4294967296) = (mxZ n l + t) % 4294967296 := by
  intro l
  induction l with
  | nil => intro n; rfl
  | cons x r ih =>
    intro n
    simp only [List.map_cons, mxZ]
    have e : bfB ((n + t) % 4294967296) ((x + t) % 4294967296) = bfB n x := by unfold bfB; rw [dZ_by]
    rw [e]
    cases bfB n x
    · exact ih n
    · exact ih x
theorem max_two (n x y : Int) (W : World) (k : Nat) (t : TypeId) (hk : k = W.heap.size) (h1 : 0 ≤ n) (h2 : n ≤ 4294967295) (h3 : 0 ≤ x) (h4 : x ≤ 4294967295) (h5 : 0 ≤ y) (h6 : y ≤ 4294967295) :
    Calls Try.prog 15 #[.int .u32 n, .slice (some ⟨k, 0, none⟩) 2 2] (W.alloc (.cells #[.int .u32 x, .int .u32 y] t)) fun e w' => e = .returned (.int .u32 (mxZ n [x, y])) ∧ W.alloc (.cells #[.int .u32 x, .int .u32 y] t) = w' := by
  subst hk
  exact max_row n _ 0 2 2 [x, y] _ h1 h2 rfl (by simp [maxLen]) (two_row W x y t) (by intro z hz; simp at hz; omega)
set_option maxHeartbeats 1600000 in
theorem turns_walk (a b c d t : Int) (w : World) (h1 : 0 ≤ a) (h2 : a ≤ 4294967295) (h3 : 0 ≤ b) (h4 : b ≤ 4294967295) (h5 : 0 ≤ c) (h6 : c ≤ 4294967295) (h7 : 0 ≤ d) (h8 : d ≤ 4294967295) (h9 : 0 ≤ t) (h10 : t ≤ 4294967295) :
    Calls Try.prog 7 #[.agg #[.int .u32 a, .int .u32 b, .int .u32 c, .int .u32 d], .int .u32 t] w fun e w' => e = .returned (.bool true) ∧ Below w.heap.size w w' := by
  have e1 := dZ_by a b t
  have e2 := inB_by a b c t
  have e3 := btB_by a b c t
  have e4 := acB_by a b c d t h1 h2 h5 h6
  have e5 : mxZ ((a + t) % 4294967296) [(b + t) % 4294967296, (c + t) % 4294967296] = (mxZ a [b, c] + t) % 4294967296 := mxZ_by t [b, c] a
  go_enter Try.func7, Try.ntmps7
  go_wp2_with fail
  go_quiet (fail)
  go_wp2_with (first
      | (go_at_call 11; refine (diff_any _ _ _ (by omega) (by omega) (by omega) (by omega)).mono ?_; rintro e w' ⟨rfl, rfl⟩)
      | (go_at_call 17; refine (in_any _ _ _ _ (by omega) (by omega) (by omega) (by omega)).mono ?_; rintro e w' ⟨rfl, rfl⟩)
      | (go_at_call 19; refine (bt_any _ _ _ _ (by omega) (by omega) (by omega) (by omega) (by omega) (by omega)).mono ?_; rintro e w' ⟨rfl, rfl⟩)
      | (go_at_call 25; refine (acc_any _ _ _ _ _ (by omega) (by omega) (by omega) (by omega) (by omega) (by omega) (by omega) (by omega)).mono ?_; rintro e w' ⟨rfl, rfl⟩)
      | (go_at_call 15; refine (max_two _ _ _ _ _ _ (by simp) (by omega) (by omega) (by omega) (by omega) (by omega) (by omega)).mono ?_; rintro e w' ⟨rfl, rfl⟩)
      | (go_at_call 10; refine (alive_any _).mono ?_; rintro e w' ⟨rfl, hg⟩))
  go_ret
  exact ⟨rfl, Below.trans (by repeat (first | exact Below.refl _ _ | apply Below.drewN | apply Below.drew | (refine Below.alloc ?_ (by simp <;> omega) _))) (hg.mono (by simp; omega))⟩
end Go.Proofs.Ytfclegelcobdoaa.ringC
