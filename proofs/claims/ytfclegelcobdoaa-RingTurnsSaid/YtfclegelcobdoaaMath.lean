/-
  Plain mathematics of sequence numbers that go round: no Go in sight.
-/
import Derived.Test.YtfclegelcobdoaaRows
import Derived.WalkKit
namespace Go.Proofs.Ytfclegelcobdoaa.ringM
open Go.RowKit

/-- how far b is ahead of a, from 0 on -/
def aZ (a b : Int) : Int := (b - a) % 4294967296
theorem aZ_lo (a b : Int) : 0 ≤ aZ a b := by unfold aZ; omega
theorem aZ_hi (a b : Int) : aZ a b ≤ 4294967295 := by unfold aZ; omega

theorem tmod_small (x : Int) (h1 : -4294967296 < x) (h2 : x < 4294967296) : x.tmod 4294967296 = x := by
  by_cases h : 0 ≤ x
  · rw [Int.tmod_eq_emod_of_nonneg h]; omega
  · have e : x = -(-x) := by omega
    rw [e, Int.neg_tmod, Int.tmod_eq_emod_of_nonneg (by omega)]; omega

/-- the same, signed -/
def dZ (a b : Int) : Int := wrap32 ((b - a) % 4294967296)
theorem dZ_eq (a b : Int) : dZ a b = if aZ a b < 2147483648 then aZ a b else aZ a b - 4294967296 := by
  unfold dZ aZ wrap32
  split <;> omega
theorem dZ_lo (a b : Int) : -2147483648 ≤ dZ a b := by rw [dZ_eq]; have := aZ_lo a b; split <;> omega
theorem dZ_hi (a b : Int) : dZ a b ≤ 2147483647 := by rw [dZ_eq]; have := aZ_hi a b; split <;> omega

theorem dZ_of (a b : Int) (h1 : 0 ≤ a) (h2 : a ≤ 4294967295) (h3 : 0 ≤ b) (h4 : b ≤ 4294967295) : a + dZ a b = b ∨ a + dZ a b = b - 4294967296 ∨ a + dZ a b = b + 4294967296 := by
  rw [dZ_eq]; unfold aZ; split <;> omega

/-- is a before b? -/
def bfB (a b : Int) : Bool := decide (0 < dZ a b)
/-- is n in the window? -/
def inB (n a s : Int) : Bool := decide (aZ a n < s)
/-- is n in the window behind a, up to b? -/
def btB (n a b : Int) : Bool := inB n ((a + 1) % 4294967296) (aZ a b)
theorem btB_eq (n a b : Int) (h1 : 0 ≤ n) (h2 : n ≤ 4294967295) (h3 : 0 ≤ a) (h4 : a ≤ 4294967295) :
    btB n a b = (!(n == a) && decide (aZ a n ≤ aZ a b)) := by
  unfold btB inB aZ
  rw [Bool.eq_iff_iff]
  simp
  omega
/-- do two runs overlap? -/
def ovB (al ar bl br : Int) : Bool := !(al == ar) && !(bl == br) && (inB al bl (aZ bl br) || inB bl al (aZ al ar))

/-- the long number nearest to near -/
def lgZ (near n : Int) : Int :=
  if near + dZ (near % 4294967296) n < 0 then near + dZ (near % 4294967296) n + 4294967296
  else if 18446744073709551615 < near + dZ (near % 4294967296) n then near + dZ (near % 4294967296) n - 4294967296
  else near + dZ (near % 4294967296) n

/-- acceptable -/
def acB (b s q l : Int) : Bool := if l = 0 then (if s = 0 then q == b else inB q b s) else (inB q b s || inB ((q + l - 1) % 4294967296) b s)

/-- the last one -/
def mxZ : Int → List Int → Int
  | n, [] => n
  | n, m :: r => mxZ (if bfB n m then m else n) r
theorem mxZ_snoc (n : Int) (l : List Int) (x : Int) : mxZ n (l ++ [x]) = if bfB (mxZ n l) x then x else mxZ n l := by
  induction l generalizing n with
  | nil => rfl
  | cons a r ih => exact ih _
theorem mxZ_bd (n : Int) (l : List Int) (h : 0 ≤ n ∧ n ≤ 4294967295) (hl : ∀ x ∈ l, 0 ≤ x ∧ x ≤ 4294967295) : 0 ≤ mxZ n l ∧ mxZ n l ≤ 4294967295 := by
  induction l generalizing n with
  | nil => exact h
  | cons a r ih =>
    simp only [mxZ]
    refine ih _ ?_ (fun x hx => hl x (List.mem_cons_of_mem _ hx))
    split
    · exact hl a (List.mem_cons_self ..)
    · exact h
end Go.Proofs.Ytfclegelcobdoaa.ringM
