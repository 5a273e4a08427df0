/-
  Doubles as whole numbers of their least unit; what rounding gives.
-/
import Derived.Laws.FloatArith
namespace Go.Proofs.Ytblgkojeholbnaa.ieC
open Ieee
set_option linter.unusedVariables false
/-- the magnitude of a rung, in units of the least one (2 ^ -1074) -/
def V (r : Nat) : Nat := if r < 4503599627370496 then r else (4503599627370496 + r % 4503599627370496) * 2 ^ (r / 4503599627370496 - 1)
theorem V_low {r : Nat} (h : r ≤ 4503599627370496) : V r = r := by
  unfold V
  split
  · rfl
  · have e : r = 4503599627370496 := by omega
    subst e
    decide
theorem V_mk {e k : Nat} (h1 : 4503599627370496 ≤ k) (h2 : k ≤ 9007199254740992) : V (e * 4503599627370496 + k) = k * 2 ^ e := by
  unfold V
  rw [if_neg (by omega)]
  by_cases h : k = 9007199254740992
  · subst h
    have e1 : (e * 4503599627370496 + 9007199254740992) % 4503599627370496 = 0 := by omega
    have e2 : (e * 4503599627370496 + 9007199254740992) / 4503599627370496 - 1 = e + 1 := by omega
    rw [e1, e2, Nat.pow_succ]
    omega
  · have e1 : (e * 4503599627370496 + k) % 4503599627370496 = k - 4503599627370496 := by omega
    have e2 : (e * 4503599627370496 + k) / 4503599627370496 - 1 = e := by omega
    rw [e1, e2, show 4503599627370496 + (k - 4503599627370496) = k by omega]
/-- a rung that is no least one: its binade and its significand -/
theorem rung_of {r : Nat} (h : 4503599627370496 ≤ r) : ∃ e k, r = e * 4503599627370496 + k ∧ 4503599627370496 ≤ k ∧ k < 9007199254740992 :=
  ⟨r / 4503599627370496 - 1, 4503599627370496 + r % 4503599627370496, by omega, by omega, by omega⟩
theorem V_step (r : Nat) : V r < V (r + 1) := by
  rcases Nat.lt_or_ge r 4503599627370496 with h | h
  · rw [V_low (by omega), V_low (by omega)]; omega
  · obtain ⟨e, k, rfl, h1, h2⟩ := rung_of h
    rw [V_mk h1 (by omega), Nat.add_assoc, V_mk (by omega) (by omega)]
    exact Nat.mul_lt_mul_of_pos_right (by omega) (Nat.two_pow_pos _)
theorem V_lt : ∀ {r s : Nat}, r < s → V r < V s
  | r, 0, h => absurd h (Nat.not_lt_zero _)
  | r, s + 1, h => by
    rcases Nat.lt_or_ge r s with h1 | h1
    · exact Nat.lt_trans (V_lt h1) (V_step s)
    · obtain rfl : r = s := by omega
      exact V_step r
theorem V_le {r s : Nat} (h : r ≤ s) : V r ≤ V s := by
  rcases Nat.lt_or_ge r s with h1 | h1
  · exact Nat.le_of_lt (V_lt h1)
  · obtain rfl : r = s := by omega
    exact Nat.le_refl _
theorem V_lt_iff {r s : Nat} : V r < V s ↔ r < s := ⟨fun h => by
  rcases Nat.lt_or_ge r s with h1 | h1
  · exact h1
  · have := V_le h1; omega, V_lt⟩
theorem V_inj {r s : Nat} (h : V r = V s) : r = s := by
  rcases Nat.lt_trichotomy r s with h1 | h1 | h1
  · have := V_lt h1; omega
  · exact h1
  · have := V_lt h1; omega
/-! ### cut to the nearest, ties to even -/
theorem cut_zero (neg : Bool) (n : Nat) : Toward.even.cut neg n 0 = n := by
  unfold Toward.cut
  simp [Nat.mod_one]
theorem cut_even (neg : Bool) (n drop : Nat) : 2 * Toward.even.cut neg n drop * 2 ^ drop ≤ 2 * n + 2 ^ drop ∧ 2 * n ≤ 2 * Toward.even.cut neg n drop * 2 ^ drop + 2 ^ drop ∧ n / 2 ^ drop ≤ Toward.even.cut neg n drop ∧ Toward.even.cut neg n drop ≤ n / 2 ^ drop + 1 := by
  unfold Toward.cut
  simp only
  by_cases hd : drop ≤ n.log2 + 2
  · rw [Nat.min_eq_left hd, Nat.one_shiftLeft]
    have hpos : 0 < 2 ^ drop := Nat.two_pow_pos _
    generalize 2 ^ drop = g at *
    have hdm := Nat.div_add_mod n g
    have hlt := Nat.mod_lt n hpos
    generalize n / g = q at *
    generalize n % g = t at *
    have e0 : g * q = q * g := Nat.mul_comm _ _
    rw [e0] at hdm
    by_cases hm : (decide (g < 2 * t) || (g == 2 * t && q % 2 == 1)) = true
    · rw [hm]
      have ht : g ≤ 2 * t := by
        simp only [Bool.or_eq_true, decide_eq_true_eq, Bool.and_eq_true, beq_iff_eq] at hm
        omega
      show 2 * (q + 1) * g ≤ _ ∧ _ ≤ 2 * (q + 1) * g + g ∧ _ ≤ q + 1 ∧ q + 1 ≤ _
      have e1 : 2 * (q + 1) * g = 2 * (q * g) + 2 * g := by rw [Nat.mul_assoc, Nat.add_mul, Nat.one_mul]; omega
      rw [e1]
      refine ⟨by omega, by omega, by omega, by omega⟩
    · rw [Bool.not_eq_true] at hm
      rw [hm]
      have ht : 2 * t ≤ g := by
        simp only [Bool.or_eq_false_iff, decide_eq_false_iff_not] at hm
        omega
      show 2 * (q + 0) * g ≤ _ ∧ _ ≤ 2 * (q + 0) * g + g ∧ _ ≤ q + 0 ∧ q + 0 ≤ _
      have e1 : 2 * (q + 0) * g = 2 * (q * g) := by rw [Nat.add_zero, Nat.mul_assoc]
      rw [e1]
      refine ⟨by omega, by omega, by omega, by omega⟩
  · rw [Nat.min_eq_right (by omega), Nat.one_shiftLeft]
    have h1 : n < 2 ^ (n.log2 + 1) := Nat.lt_log2_self
    have h2 : (2 : Nat) ^ (n.log2 + 2) = 2 * 2 ^ (n.log2 + 1) := by rw [Nat.pow_succ]; omega
    have h3 : (2 : Nat) ^ (n.log2 + 2) ≤ 2 ^ drop := Nat.pow_le_pow_right (by decide) (by omega)
    have h4 : n / 2 ^ (n.log2 + 2) = 0 := Nat.div_eq_of_lt (by omega)
    have h5 : n % 2 ^ (n.log2 + 2) = n := Nat.mod_eq_of_lt (by omega)
    have h6 : n / 2 ^ drop = 0 := Nat.div_eq_of_lt (by omega)
    rw [h4, h5, h6]
    have hm : (decide (2 ^ (n.log2 + 2) < 2 * n) || (2 ^ (n.log2 + 2) == 2 * n && 0 % 2 == 1)) = false := by
      simp only [Bool.or_eq_false_iff, decide_eq_false_iff_not]
      refine ⟨by omega, by simp⟩
    rw [hm]
    show 2 * (0 + 0) * _ ≤ _ ∧ _ ≤ 2 * (0 + 0) * _ + _ ∧ _ ≤ 0 + 0 ∧ 0 + 0 ≤ _
    refine ⟨by omega, by omega, by omega, by omega⟩
/-! ### what rounding gives lies between the midpoints -/
theorem d_least : double.leastPlace = -1074 := by decide
theorem d_binade : double.binade = 4503599627370496 := by decide
theorem d_inf : double.infRung = 9218868437227405312 := by decide
theorem d_sign : double.signWeight = 9223372036854775808 := by decide
/-- r is where 'm', in units of 2 ^ -p, is rounded to: no further than the midpoints -/
def Mid (r x p : Nat) : Prop := (0 < r → (V (r - 1) + V r) * p ≤ 2 * x) ∧ 2 * x ≤ (V r + V (r + 1)) * p
theorem Mid.exact {r x p : Nat} (h : V r * p = x) : Mid r x p := by
  constructor
  · intro _
    have h1 : V (r - 1) * p ≤ V r * p := Nat.mul_le_mul_right _ (V_le (by omega))
    rw [Nat.add_mul]; omega
  · have h1 : V r * p ≤ V (r + 1) * p := Nat.mul_le_mul_right _ (V_le (by omega))
    rw [Nat.add_mul]; omega
/-- a significand that was cut -/
theorem Mid.cut {E k mag d p q : Nat} (hk : 4503599627370496 ≤ k) (hk2 : k ≤ 9007199254740992) (hpq : 2 ^ d * q = 2 ^ E * p)
    (h1 : 2 * k * 2 ^ d ≤ 2 * mag + 2 ^ d) (h2 : 2 * mag ≤ 2 * k * 2 ^ d + 2 ^ d) (h3 : mag / 2 ^ d ≤ k) (h4 : 4503599627370496 ≤ mag / 2 ^ d) : Mid (E * 4503599627370496 + k) (mag * q) p := by
  have hV : V (E * 4503599627370496 + k) * p = k * 2 ^ d * q := by
    rw [V_mk hk hk2, Nat.mul_assoc, ← hpq, Nat.mul_assoc]
  have hpos : 0 < 2 ^ d := Nat.two_pow_pos _
  have hS : 2 ^ E * p = 2 ^ d * q := hpq.symm
  constructor
  · intro _
    by_cases hc : k = 4503599627370496
    · have h5 : k * 2 ^ d ≤ mag := by
        rw [hc]
        exact (Nat.le_div_iff_mul_le hpos).1 h4
      have h6 : V (E * 4503599627370496 + k - 1) * p ≤ V (E * 4503599627370496 + k) * p := Nat.mul_le_mul_right _ (V_le (by omega))
      have h7 : k * 2 ^ d * q ≤ mag * q := Nat.mul_le_mul_right _ h5
      rw [Nat.add_mul]; omega
    · have e1 : V (E * 4503599627370496 + k - 1) = (k - 1) * 2 ^ E := by
        rw [show E * 4503599627370496 + k - 1 = E * 4503599627370496 + (k - 1) by omega]
        exact V_mk (by omega) (by omega)
      have e2 : V (E * 4503599627370496 + k - 1) * p + 2 ^ d * q = k * 2 ^ d * q := by
        rw [e1, Nat.mul_assoc, hS, ← Nat.succ_mul, show Nat.succ (k - 1) = k by omega, Nat.mul_assoc]
      have h6 : 2 * k * 2 ^ d * q ≤ (2 * mag + 2 ^ d) * q := Nat.mul_le_mul_right _ h1
      rw [Nat.add_mul, Nat.mul_assoc 2 k, Nat.mul_assoc 2 (k * 2 ^ d), Nat.mul_assoc 2 mag] at h6
      rw [Nat.add_mul]; omega
  · have e1 : (k + 1) * 2 ^ E ≤ V (E * 4503599627370496 + k + 1) := by
      by_cases hc : k = 9007199254740992
      · subst hc
        rw [show E * 4503599627370496 + 9007199254740992 + 1 = (E + 1) * 4503599627370496 + 4503599627370497 by omega, V_mk (by omega) (by omega), Nat.pow_succ]
        have : 0 < 2 ^ E := Nat.two_pow_pos _
        omega
      · rw [Nat.add_assoc, V_mk (by omega) (by omega)]
        exact Nat.le_refl _
    have e2 : (k + 1) * 2 ^ E * p ≤ V (E * 4503599627370496 + k + 1) * p := Nat.mul_le_mul_right _ e1
    rw [Nat.mul_assoc, hS, Nat.add_mul, Nat.one_mul, ← Nat.mul_assoc] at e2
    have h6 : 2 * mag * q ≤ (2 * k * 2 ^ d + 2 ^ d) * q := Nat.mul_le_mul_right _ h2
    rw [Nat.add_mul, Nat.mul_assoc 2 k, Nat.mul_assoc 2 (k * 2 ^ d), Nat.mul_assoc 2 mag] at h6
    rw [Nat.add_mul]; omega
/-- a small number that was cut -/
theorem Mid.low {k mag p : Nat} (hk : k ≤ 4503599627370496) (h1 : 2 * k * p ≤ 2 * mag + p) (h2 : 2 * mag ≤ 2 * k * p + p) : Mid k mag p := by
  constructor
  · intro h0
    rw [V_low hk, V_low (r := k - 1) (by omega)]
    have e : (k - 1 + k) * p + p = 2 * k * p := by
      rw [← Nat.succ_mul, show Nat.succ (k - 1 + k) = 2 * k by omega]
    omega
  · have e1 : k + 1 ≤ V (k + 1) := by
      have := V_step k
      rw [V_low hk] at this
      omega
    rw [V_low hk]
    have e2 : (k + (k + 1)) * p ≤ (k + V (k + 1)) * p := Nat.mul_le_mul_right _ (by omega)
    have e3 : (k + (k + 1)) * p = 2 * k * p + p := by rw [← Nat.succ_mul, show Nat.succ (2 * k) = k + (k + 1) by omega]
    omega
set_option maxRecDepth 10000 in
theorem near0 (neg : Bool) {mag : Nat} (place : Int) (hm : 0 < mag) :
    ∃ r, double.nearest neg mag place = double.word neg (min r 9218868437227405312) ∧ Mid r (mag * 2 ^ (place + 1074).toNat) (2 ^ (-1074 - place).toNat) := by
  unfold Format.nearest
  rw [if_neg (by omega)]
  simp only [d_least, d_binade, d_inf, show (double.fractionBits : Int) = 52 from rfl]
  have hm0 : mag ≠ 0 := by omega
  have hl1 : 2 ^ mag.log2 ≤ mag := Nat.log2_self_le hm0
  have hl2 : mag < 2 ^ (mag.log2 + 1) := Nat.lt_log2_self
  generalize mag.log2 = n at *
  by_cases hA : (-1074 : Int) ≤ place + (n : Int) - 52
  · rw [Int.max_eq_left hA]
    obtain ⟨E, hE⟩ : ∃ E : Nat, place + (n : Int) - 52 = (E : Int) - 1074 := ⟨(place + n - 52 + 1074).toNat, by omega⟩
    refine ⟨_, rfl, ?_⟩
    rw [show (place + (n : Int) - 52 - -1074).toNat = E by omega]
    by_cases hn : n ≤ 52
    · rw [show (place - (place + (n : Int) - 52)).toNat = 52 - n by omega, show (place + (n : Int) - 52 - place).toNat = 0 by omega, cut_zero, Nat.shiftLeft_eq]
      have h1 : 4503599627370496 ≤ mag * 2 ^ (52 - n) := by
        have : 2 ^ n * 2 ^ (52 - n) ≤ mag * 2 ^ (52 - n) := Nat.mul_le_mul_right _ hl1
        rw [← Nat.pow_add, show n + (52 - n) = 52 by omega] at this
        exact this
      have h2 : mag * 2 ^ (52 - n) ≤ 9007199254740992 := by
        have : mag * 2 ^ (52 - n) ≤ 2 ^ (n + 1) * 2 ^ (52 - n) := Nat.mul_le_mul_right _ (Nat.le_of_lt hl2)
        rw [← Nat.pow_add, show n + 1 + (52 - n) = 53 by omega] at this
        exact this
      refine Mid.exact ?_
      rw [V_mk h1 h2, show (-1074 - place).toNat = 0 by omega, show (place + 1074).toNat = (52 - n) + E by omega, Nat.pow_add, Nat.pow_zero, Nat.mul_one, Nat.mul_assoc]
    · rw [show (place - (place + (n : Int) - 52)).toNat = 0 by omega, show (place + (n : Int) - 52 - place).toNat = n - 52 by omega, Nat.shiftLeft_zero]
      obtain ⟨c1, c2, c3, c4⟩ := cut_even neg mag (n - 52)
      have hpos : 0 < 2 ^ (n - 52) := Nat.two_pow_pos _
      have h4 : 4503599627370496 ≤ mag / 2 ^ (n - 52) := by
        rw [Nat.le_div_iff_mul_le hpos]
        have : 4503599627370496 * 2 ^ (n - 52) = 2 ^ n := by
          rw [show (4503599627370496 : Nat) = 2 ^ 52 from rfl, ← Nat.pow_add, show 52 + (n - 52) = n by omega]
        omega
      have h5 : mag / 2 ^ (n - 52) < 9007199254740992 := by
        rw [Nat.div_lt_iff_lt_mul hpos]
        have : 9007199254740992 * 2 ^ (n - 52) = 2 ^ (n + 1) := by
          rw [show (9007199254740992 : Nat) = 2 ^ 53 from rfl, ← Nat.pow_add, show 53 + (n - 52) = n + 1 by omega]
        omega
      refine Mid.cut (by omega) (by omega) ?_ c1 c2 c3 h4
      rw [← Nat.pow_add, ← Nat.pow_add]
      congr 1
      omega
  · rw [Int.max_eq_right (by omega)]
    refine ⟨_, rfl, ?_⟩
    rw [show ((-1074 : Int) - -1074).toNat = 0 from rfl, Nat.zero_mul, Nat.zero_add]
    by_cases hp : (-1074 : Int) ≤ place
    · rw [show (place - -1074).toNat = (place + 1074).toNat by omega, show (-1074 - place).toNat = 0 by omega, cut_zero, Nat.shiftLeft_eq]
      refine Mid.exact ?_
      rw [Nat.pow_zero, Nat.mul_one]
      refine V_low ?_
      have h1 : mag * 2 ^ (place + 1074).toNat ≤ 2 ^ (n + 1) * 2 ^ (place + 1074).toNat := Nat.mul_le_mul_right _ (Nat.le_of_lt hl2)
      rw [← Nat.pow_add] at h1
      have h2 : (2 : Nat) ^ (n + 1 + (place + 1074).toNat) ≤ 2 ^ 52 := Nat.pow_le_pow_right (by decide) (by omega)
      have h3 : (2 : Nat) ^ 52 = 4503599627370496 := rfl
      omega
    · rw [show (place - -1074).toNat = 0 by omega, show (place + 1074).toNat = 0 by omega, Nat.shiftLeft_zero, Nat.pow_zero, Nat.mul_one]
      obtain ⟨c1, c2, c3, c4⟩ := cut_even neg mag (-1074 - place).toNat
      refine Mid.low ?_ c1 c2
      have hpos : 0 < 2 ^ (-1074 - place).toNat := Nat.two_pow_pos _
      have h5 : mag / 2 ^ (-1074 - place).toNat < 4503599627370496 := by
        rw [Nat.div_lt_iff_lt_mul hpos]
        have h6 : (2 : Nat) ^ (n + 1) ≤ 2 ^ (52 + (-1074 - place).toNat) := Nat.pow_le_pow_right (by decide) (by omega)
        rw [Nat.pow_add 2 52] at h6
        have h3 : (2 : Nat) ^ 52 = 4503599627370496 := rfl
        rw [h3] at h6
        omega
      omega
end Go.Proofs.Ytblgkojeholbnaa.ieC
