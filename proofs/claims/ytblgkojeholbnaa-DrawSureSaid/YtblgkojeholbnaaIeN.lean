/-
  Doubles that are numbers from 0 on: read, added, taken away, multiplied, put in order.
-/
import Derived.Test.YtblgkojeholbnaaIeM
namespace Go.Proofs.Ytblgkojeholbnaa.ieC
open Ieee
set_option linter.unusedVariables false
theorem Mid.scale {r x p : Nat} (h : Mid r x p) (c : Nat) : Mid r (x * c) (p * c) := by
  obtain ⟨h1, h2⟩ := h
  constructor
  · intro h0
    have := Nat.mul_le_mul_right c (h1 h0)
    rw [← Nat.mul_assoc, ← Nat.mul_assoc]; exact this
  · have := Nat.mul_le_mul_right c h2
    rw [← Nat.mul_assoc, ← Nat.mul_assoc]; exact this
/-- what is below a midpoint is rounded to no more -/
theorem Mid.half {r x p s : Nat} (h : Mid r x p) (hx : 2 * x < (V s + V (s + 1)) * p) : r ≤ s := by
  rcases Nat.lt_or_ge s r with h1 | h1
  · exfalso
    have h2 := h.1 (by omega)
    have h3 : (V s + V (s + 1)) * p ≤ (V (r - 1) + V r) * p := Nat.mul_le_mul_right _ (Nat.add_le_add (V_le (by omega)) (V_le (by omega)))
    omega
  · exact h1
theorem Mid.le {r x p s : Nat} (h : Mid r x p) (hp : 0 < p) (hx : x ≤ V s * p) : r ≤ s := by
  refine h.half ?_
  have h1 : V s * p < V (s + 1) * p := Nat.mul_lt_mul_of_pos_right (V_step s) hp
  rw [Nat.add_mul]; omega
theorem Mid.ge {r x p s : Nat} (h : Mid r x p) (hp : 0 < p) (hx : V s * p ≤ x) : s ≤ r := by
  rcases Nat.lt_or_ge r s with h1 | h1
  · exfalso
    have h2 := h.2
    have h3 : V (r + 1) * p ≤ V s * p := Nat.mul_le_mul_right _ (V_le (by omega))
    have h4 : V r * p < V (r + 1) * p := Nat.mul_lt_mul_of_pos_right (V_step r) hp
    rw [Nat.add_mul] at h2
    omega
  · exact h1
theorem Mid.same {r x p s : Nat} (h : Mid r x p) (hp : 0 < p) (hx : x = V s * p) : r = s := Nat.le_antisymm (h.le hp (by omega)) (h.ge hp (by omega))
theorem Mid.zero (p : Nat) : Mid 0 0 p := ⟨fun h => absurd h (Nat.lt_irrefl 0), by omega⟩
/-! ### words -/
/-- infinity's rung -/
def INF : Nat := 9218868437227405312
theorem read_num {r : Nat} (h : r < 9218868437227405312) : ∃ m q : Nat, double.read r = .number false m ((q : Int) - 1074) ∧ m * 2 ^ q = V r := by
  have e1 : (r / 9223372036854775808 % 2 == 1) = false := by
    rw [Nat.div_eq_of_lt (by omega)]; rfl
  have e2 : r % 9223372036854775808 = r := Nat.mod_eq_of_lt (by omega)
  unfold Format.read
  simp only [d_sign, d_binade, d_inf, d_least, e1, e2]
  by_cases h1 : r < 4503599627370496
  · rw [if_pos h1]
    exact ⟨r, 0, rfl, by rw [V_low (by omega), Nat.pow_zero, Nat.mul_one]⟩
  · rw [if_neg h1, if_pos h]
    refine ⟨4503599627370496 + r % 4503599627370496, r / 4503599627370496 - 1, ?_, ?_⟩
    · congr 1
    · unfold V
      rw [if_neg h1]
theorem word_pos (r : Nat) : double.word false r = r := rfl
theorem near (neg : Bool) (mag : Nat) (place : Int) : ∃ r, double.nearest neg mag place = double.word neg (min r 9218868437227405312) ∧ Mid r (mag * 2 ^ (place + 1074).toNat) (2 ^ (-1074 - place).toNat) := by
  rcases Nat.eq_zero_or_pos mag with rfl | h
  · refine ⟨0, ?_, ?_⟩
    · unfold Format.nearest
      rw [if_pos rfl]; rfl
    · rw [Nat.zero_mul]; exact Mid.zero _
  · exact near0 neg place h
theorem signed_pos (m up : Nat) : signed false m up = ((m * 2 ^ up : Nat) : Int) := by unfold signed; rw [Nat.shiftLeft_eq]; simp
theorem signed_neg (m up : Nat) : signed true m up = -((m * 2 ^ up : Nat) : Int) := by unfold signed; rw [Nat.shiftLeft_eq]; simp
theorem shift_to {m i b q : Nat} (hb : b ≤ i) (h : m * 2 ^ i = q) : m * 2 ^ (i - b) * 2 ^ b = q := by
  rw [Nat.mul_assoc, ← Nat.pow_add, show i - b + b = i by omega, h]
/-- the sum -/
theorem add_num {x y : Nat} (hx : x < 9218868437227405312) (hy : y < 9218868437227405312) : ∃ r, double.add x y = some (min r 9218868437227405312) ∧ Mid r (V x + V y) 1 := by
  obtain ⟨m, i, h1, h2⟩ := read_num hx
  obtain ⟨n, j, h3, h4⟩ := read_num hy
  unfold Format.add
  rw [h1, h3]
  unfold Datum.sum
  simp only [signed_pos, Option.map_some]
  have hb : min ((i : Int) - 1074) ((j : Int) - 1074) = ((min i j : Nat) : Int) - 1074 := by omega
  rw [hb]
  generalize hbb : min i j = b
  have e1 : ((i : Int) - 1074 - ((b : Int) - 1074)).toNat = i - b := by omega
  have e2 : ((j : Int) - 1074 - ((b : Int) - 1074)).toNat = j - b := by omega
  rw [e1, e2]
  have k1 := shift_to (show b ≤ i by omega) h2
  have k2 := shift_to (show b ≤ j by omega) h4
  generalize m * 2 ^ (i - b) = M at *
  generalize n * 2 ^ (j - b) = N at *
  obtain ⟨s, hs⟩ : ∃ s : Bool, (if ((M : Int) + (N : Int) = 0) then (false && false) else decide ((M : Int) + (N : Int) < 0)) = s := ⟨_, rfl⟩
  have hs2 : s = false := by
    rw [← hs]
    split
    · rfl
    · exact decide_eq_false (by omega)
  obtain ⟨r, hr, hm⟩ := near false (M + N) ((b : Int) - 1074)
  refine ⟨r, ?_, ?_⟩
  · unfold Format.write
    have e3 : ((M : Int) + (N : Int)).natAbs = M + N := by omega
    have e4 : (if ((M : Int) + (N : Int) = 0) then (false && false) else decide ((M : Int) + (N : Int) < 0)) = false := hs.trans hs2
    simp only [e3]
    rw [show (if ((M : Int) + (N : Int) = 0) then (false && false) else decide ((M : Int) + (N : Int) < 0)) = false from e4] at *
    simp only [hr, word_pos]
  · rw [show ((b : Int) - 1074 + 1074).toNat = b by omega, show (-1074 - ((b : Int) - 1074)).toNat = 0 by omega, Nat.add_mul, k1, k2] at hm
    exact hm
/-- the difference -/
theorem sub_num {x y : Nat} (hx : x < 9218868437227405312) (hy : y < 9218868437227405312) (h : y ≤ x) : ∃ r, double.sub x y = some (min r 9218868437227405312) ∧ Mid r (V x - V y) 1 := by
  obtain ⟨m, i, h1, h2⟩ := read_num hx
  obtain ⟨n, j, h3, h4⟩ := read_num hy
  unfold Format.sub
  rw [h1, h3]
  unfold Datum.opposite Datum.sum
  simp only [signed_pos, signed_neg, Bool.not_false, Option.map_some]
  have hb : min ((i : Int) - 1074) ((j : Int) - 1074) = ((min i j : Nat) : Int) - 1074 := by omega
  rw [hb]
  generalize hbb : min i j = b
  have e1 : ((i : Int) - 1074 - ((b : Int) - 1074)).toNat = i - b := by omega
  have e2 : ((j : Int) - 1074 - ((b : Int) - 1074)).toNat = j - b := by omega
  rw [e1, e2]
  have k1 := shift_to (show b ≤ i by omega) h2
  have k2 := shift_to (show b ≤ j by omega) h4
  generalize m * 2 ^ (i - b) = M at *
  generalize n * 2 ^ (j - b) = N at *
  have hMN : N ≤ M := by
    have h5 := V_le h
    rw [← k1, ← k2] at h5
    exact Nat.le_of_mul_le_mul_right h5 (Nat.two_pow_pos _)
  have e4 : (if ((M : Int) + -(N : Int) = 0) then (false && true) else decide ((M : Int) + -(N : Int) < 0)) = false := by
    split
    · rfl
    · exact decide_eq_false (by omega)
  obtain ⟨r, hr, hm⟩ := near false (M - N) ((b : Int) - 1074)
  refine ⟨r, ?_, ?_⟩
  · unfold Format.write
    have e3 : ((M : Int) + -(N : Int)).natAbs = M - N := by omega
    simp only [e3]
    rw [e4]
    simp only [hr, word_pos]
  · rw [show ((b : Int) - 1074 + 1074).toNat = b by omega, show (-1074 - ((b : Int) - 1074)).toNat = 0 by omega, Nat.sub_mul, k1, k2] at hm
    exact hm
/-- the product -/
theorem mul_num {x y : Nat} (hx : x < 9218868437227405312) (hy : y < 9218868437227405312) : ∃ r, double.mul x y = some (min r 9218868437227405312) ∧ ∀ c, c = 1074 → Mid r (V x * V y) (2 ^ c) := by
  obtain ⟨m, i, h1, h2⟩ := read_num hx
  obtain ⟨n, j, h3, h4⟩ := read_num hy
  unfold Format.mul
  rw [h1, h3]
  unfold Datum.product
  simp only [Option.map_some, Bool.xor_false]
  obtain ⟨r, hr, hm⟩ := near false (m * n) ((i : Int) - 1074 + ((j : Int) - 1074))
  refine ⟨r, ?_, ?_⟩
  · unfold Format.write
    simp only [hr, word_pos]
  · intro c hc
    have e1 : ((i : Int) - 1074 + ((j : Int) - 1074) + 1074).toNat = i + j - 1074 := by omega
    have e2 : (-1074 - ((i : Int) - 1074 + ((j : Int) - 1074))).toNat = 1074 - (i + j) := by omega
    rw [e1, e2] at hm
    have h5 := hm.scale (2 ^ (min 1074 (i + j)))
    rw [Nat.mul_assoc, ← Nat.pow_add, ← Nat.pow_add, show i + j - 1074 + min 1074 (i + j) = i + j by omega, show 1074 - (i + j) + min 1074 (i + j) = c by omega] at h5
    have e3 : m * n * 2 ^ (i + j) = V x * V y := by
      rw [← h2, ← h4, Nat.pow_add, Nat.mul_mul_mul_comm]
    rwa [e3] at h5
theorem compare_lt {a b c d : Nat} (h : a < b ↔ c < d) (h2 : a = b ↔ c = d) : compare ((a : Nat) : Int) (b : Int) = compare c d := by
  rcases Nat.lt_trichotomy a b with q | q | q
  · rw [Int.compare_eq_lt.2 (by omega), Nat.compare_eq_lt.2 (h.1 q)]
  · rw [Int.compare_eq_eq.2 (by omega), Nat.compare_eq_eq.2 (h2.1 q)]
  · have q2 : d < c := by
      rcases Nat.lt_trichotomy c d with z | z | z
      · have := h.2 z; omega
      · have := h2.2 z; omega
      · exact z
    rw [Int.compare_eq_gt.2 (by omega), Nat.compare_eq_gt.2 q2]
/-- numbers from 0 on are in the order of their words -/
theorem order_num {x y : Nat} (hx : x < 9218868437227405312) (hy : y < 9218868437227405312) : double.order x y = some (compare x y) := by
  obtain ⟨m, i, h1, h2⟩ := read_num hx
  obtain ⟨n, j, h3, h4⟩ := read_num hy
  unfold Format.order
  rw [h1, h3]
  unfold Datum.order
  simp only [signed_pos]
  have hb : min ((i : Int) - 1074) ((j : Int) - 1074) = ((min i j : Nat) : Int) - 1074 := by omega
  rw [hb]
  generalize hbb : min i j = b
  have e1 : ((i : Int) - 1074 - ((b : Int) - 1074)).toNat = i - b := by omega
  have e2 : ((j : Int) - 1074 - ((b : Int) - 1074)).toNat = j - b := by omega
  rw [e1, e2]
  have k1 := shift_to (show b ≤ i by omega) h2
  have k2 := shift_to (show b ≤ j by omega) h4
  generalize m * 2 ^ (i - b) = M at *
  generalize n * 2 ^ (j - b) = N at *
  have hpos : 0 < 2 ^ b := Nat.two_pow_pos _
  congr 1
  refine compare_lt ?_ ?_
  · refine Iff.trans ?_ (V_lt_iff (r := x) (s := y))
    rw [← k1, ← k2]
    exact (Nat.mul_lt_mul_right hpos).symm
  · constructor
    · intro e
      exact V_inj (by rw [← k1, ← k2, e])
    · intro e
      have : M * 2 ^ b = N * 2 ^ b := by rw [k1, k2, e]
      exact Nat.eq_of_mul_eq_mul_right hpos this
/-- what is above 0 -/
theorem order_gt0 {x : Nat} (hx : x < 18446744073709551616) (h : double.order x 0 = some .gt) : 0 < x ∧ x ≤ 9218868437227405312 := by
  have z : double.read 0 = .number false 0 (-1074) := by decide
  unfold Format.order at h
  rw [z] at h
  by_cases h1 : x < 9223372036854775808
  · have e1 : (x / 9223372036854775808 % 2 == 1) = false := by rw [Nat.div_eq_of_lt h1]; rfl
    have e2 : x % 9223372036854775808 = x := Nat.mod_eq_of_lt h1
    by_cases h2 : x ≤ 9218868437227405312
    · refine ⟨?_, h2⟩
      rcases Nat.eq_zero_or_pos x with rfl | h3
      · rw [z] at h
        exact absurd h (by decide)
      · exact h3
    · exfalso
      unfold Format.read at h
      simp only [d_sign, d_binade, d_inf, d_least, e1, e2] at h
      rw [if_neg (by omega), if_neg (by omega), if_neg (by omega)] at h
      cases h
  · exfalso
    have e1 : (x / 9223372036854775808 % 2 == 1) = true := by
      have : x / 9223372036854775808 = 1 := by omega
      rw [this]; rfl
    unfold Format.read at h
    simp only [d_sign, d_binade, d_inf, d_least, e1] at h
    have key : ∀ (m : Nat) (pl : Int), (Datum.number true m pl).order (.number false 0 (-1074)) ≠ some .gt := fun m pl hh => by
      unfold Datum.order at hh
      simp only [signed_neg, signed_pos, Option.some.injEq, Nat.zero_mul] at hh
      have := Int.compare_eq_gt.1 hh
      omega
    split at h
    · exact key _ _ h
    · split at h
      · exact key _ _ h
      · split at h
        · cases h
        · cases h
end Go.Proofs.Ytblgkojeholbnaa.ieC
