/-
  Weights and their sums; a float cut to an integer.
-/
import Derived.Test.YtblgkojeholbnaaIeC
namespace Go.Proofs.Ytblgkojeholbnaa.ieC
open Ieee
set_option linter.unusedVariables false
theorem V_two {c : Nat} (hc : c = 1074) : V 4611686018427387904 = 2 * 2 ^ c := by
  obtain ⟨e, he⟩ : ∃ e : Nat, e = 1023 := ⟨_, rfl⟩
  have h1 : c + 1 = 52 + e := by omega
  have h2 : (2 : Nat) * 2 ^ c = 2 ^ 52 * 2 ^ e := by
    rw [← Nat.pow_add, ← h1, Nat.pow_succ]; omega
  rw [show (4611686018427387904 : Nat) = e * 4503599627370496 + 4503599627370496 by omega, V_mk (by omega) (by omega), h2]
theorem mul_comm_num {x y : Nat} (hx : x < 9218868437227405312) (hy : y < 9218868437227405312) : double.mul x y = double.mul y x := by
  obtain ⟨m, i, h1, -⟩ := read_num hx
  obtain ⟨n, j, h3, -⟩ := read_num hy
  unfold Format.mul
  rw [h1, h3]
  unfold Datum.product
  simp only [Nat.mul_comm m n, Int.add_comm ((i : Int) - 1074)]
theorem V_next_le {r : Nat} (h : 0 < r) : V (r + 1) ≤ 2 * V r := by
  rcases Nat.lt_or_ge r 4503599627370496 with h1 | h1
  · rw [V_low (by omega), V_low (by omega)]; omega
  · obtain ⟨e, k, rfl, h2, h3⟩ := rung_of h1
    rw [V_mk h2 (by omega), Nat.add_assoc, V_mk (by omega) (by omega), Nat.add_mul, Nat.one_mul]
    have : 2 ^ e ≤ k * 2 ^ e := Nat.le_mul_of_pos_left _ (by omega)
    omega
/-- twice a number above 0 is another one -/
theorem twice_num {x : Nat} (h0 : 0 < x) (hx : x < 9218868437227405312) : ∃ v, double.mul x 4611686018427387904 = some v ∧ double.mul 4611686018427387904 x = some v ∧ x < v ∧ v ≤ 9218868437227405312 := by
  obtain ⟨c, hc⟩ : ∃ c : Nat, c = 1074 := ⟨_, rfl⟩
  obtain ⟨r, h1, m1⟩ := mul_num (x := x) (y := 4611686018427387904) hx (by omega)
  obtain ⟨r', h2, m2⟩ := mul_num (x := 4611686018427387904) (y := x) (by omega) hx
  have hv := V_two hc
  have hs := V_next_le h0
  have e1 : V (x + 1) * 2 ^ c ≤ V x * V 4611686018427387904 := by
    rw [hv, ← Nat.mul_assoc, Nat.mul_comm (V x) 2]
    exact Nat.mul_le_mul_right _ hs
  have g1 : x + 1 ≤ r := (m1 c hc).ge (Nat.two_pow_pos _) e1
  refine ⟨_, h1, by rw [← mul_comm_num hx (by omega), h1], by omega, by omega⟩
theorem twice_inf : double.mul 9218868437227405312 4611686018427387904 = some 9218868437227405312 ∧ double.mul 4611686018427387904 9218868437227405312 = some 9218868437227405312 := by decide
/-! ### weights -/
/-- 2^900 -/
def GREAT : Nat := 8660422083433463808
theorem great_all : ∀ i : Nat, i < 900 → double.mul (4607182418800017408 + i * 4503599627370496) 4611686018427387904 = some (4607182418800017408 + (i + 1) * 4503599627370496) := by decide +kernel
theorem great_is : 4607182418800017408 + 900 * 4503599627370496 = GREAT := by decide
/-- what a weight stands for -/
def weightB (w : Nat) : Nat := if (double.order w 0 == some .gt) = true then (if w = 9218868437227405312 then GREAT else w) else 0
theorem weight_lt {w : Nat} (hw : w < 18446744073709551616) : weightB w < 9218868437227405312 := by
  unfold weightB
  split
  · rename_i h
    have := order_gt0 hw (by simpa using h)
    split
    · unfold GREAT; omega
    · omega
  · omega
/-- a sum so far and a weight -/
def plus (a w : Nat) : Nat := (double.add a w).getD 0
theorem add_inf {w : Nat} (hw : w < 9218868437227405312) : double.add 9218868437227405312 w = some 9218868437227405312 := by
  obtain ⟨m, i, h1, -⟩ := read_num hw
  unfold Format.add
  rw [read_inf, h1]
  unfold Datum.sum
  simp only [Option.map_some]
  rfl
theorem plus_all {a w : Nat} (ha : a ≤ 9218868437227405312) (hw : w < 9218868437227405312) : double.add a w = some (plus a w) ∧ plus a w ≤ 9218868437227405312 ∧ a ≤ plus a w ∧ (w = 0 → plus a w = a) := by
  rcases Nat.lt_or_ge a 9218868437227405312 with h | h
  · obtain ⟨r, h1, m1⟩ := add_num h hw
    have e : plus a w = min r 9218868437227405312 := by unfold plus; rw [h1]; rfl
    have g1 : a ≤ r := m1.ge (by omega) (by omega)
    refine ⟨by rw [h1, e], by omega, by omega, fun h0 => ?_⟩
    subst h0
    have : r = a := m1.same (by omega) (by show V a + V 0 = V a * 1; have : V 0 = 0 := rfl; omega)
    omega
  · obtain rfl : a = 9218868437227405312 := by omega
    have h1 := add_inf hw
    have e : plus 9218868437227405312 w = 9218868437227405312 := by unfold plus; rw [h1]; rfl
    exact ⟨by rw [h1, e], by omega, by omega, fun _ => e⟩
/-- the sum of some weights -/
def sumB (ws : List Nat) : Nat := ws.foldl (fun a w => plus a (weightB w)) 0
theorem sumB_snoc (ws : List Nat) (w : Nat) : sumB (ws ++ [w]) = plus (sumB ws) (weightB w) := by unfold sumB; rw [List.foldl_append]; rfl
theorem sumB_le : ∀ (ws : List Nat) (a : Nat), (∀ w ∈ ws, w < 18446744073709551616) → a ≤ 9218868437227405312 → ws.foldl (fun a w => plus a (weightB w)) a ≤ 9218868437227405312
  | [], a, _, h => h
  | w :: r, a, hw, h => sumB_le r _ (fun x hx => hw x (by simp [hx])) (plus_all h (weight_lt (hw w (by simp)))).2.1
theorem sum_le {ws : List Nat} (hw : ∀ w ∈ ws, w < 18446744073709551616) : sumB ws ≤ 9218868437227405312 := sumB_le ws 0 hw (by omega)
/-- of no number nothing is below -/
theorem order_nan {x y : Nat} {s : Bool} {f : Nat} (h : double.read x = .nan s f) : double.order x y = none := by
  unfold Format.order
  rw [h]
  rfl
/-- the product of a draw and a sum -/
theorem at_all {d a : Nat} (hd : d ≤ 4607182418800017407) (ha : a ≤ 9218868437227405312) : (double.mul d a = none ∧ a = 9218868437227405312 ∧ d = 0) ∨ ∃ v, double.mul d a = some v ∧ v ≤ 9218868437227405312 := by
  rcases Nat.lt_or_ge a 9218868437227405312 with h | h
  · obtain ⟨r, h1, -⟩ := mul_num (x := d) (y := a) (by omega) h
    exact .inr ⟨_, h1, by omega⟩
  · obtain rfl : a = 9218868437227405312 := by omega
    rcases Nat.eq_zero_or_pos d with rfl | h0
    · exact .inl ⟨by decide, rfl, rfl⟩
    · obtain ⟨m, i, h1, h2⟩ := read_num (r := d) (by omega)
      refine .inr ⟨9218868437227405312, ?_, by omega⟩
      have hm : m ≠ 0 := fun e => by
        have h3 : V 0 < V d := V_lt h0
        rw [e, Nat.zero_mul] at h2
        omega
      unfold Format.mul
      rw [read_inf, h1]
      unfold Datum.product
      simp only [if_neg hm, Option.map_some]
      rfl
/-! ### cut to an integer -/
theorem cut_zero_way (neg : Bool) (n drop : Nat) : Toward.zero.cut neg n drop = n / 2 ^ drop := by
  unfold Toward.cut
  simp only
  by_cases hd : drop ≤ n.log2 + 2
  · rw [Nat.min_eq_left hd, Nat.one_shiftLeft]; rfl
  · rw [Nat.min_eq_right (by omega), Nat.one_shiftLeft]
    have h1 : n < 2 ^ (n.log2 + 1) := Nat.lt_log2_self
    have h2 : (2 : Nat) ^ (n.log2 + 2) = 2 * 2 ^ (n.log2 + 1) := by rw [Nat.pow_succ]; omega
    have h3 : (2 : Nat) ^ (n.log2 + 2) ≤ 2 ^ drop := Nat.pow_le_pow_right (by decide) (by omega)
    rw [Nat.div_eq_of_lt (show n < 2 ^ (n.log2 + 2) by omega), Nat.div_eq_of_lt (show n < 2 ^ drop by omega)]
    rfl
theorem toInt_num {r : Nat} (hr : r < 9218868437227405312) : ∃ k : Nat, (double.read r).toInt .zero = some (k : Int) ∧ ∀ c, c = 1074 → k = V r / 2 ^ c := by
  obtain ⟨m, q, h1, h2⟩ := read_num hr
  rw [h1]
  unfold Datum.toInt Datum.integral
  simp only [cut_zero_way, signed_pos, Nat.pow_zero, Nat.mul_one, Nat.shiftLeft_eq]
  refine ⟨_, rfl, fun c hc => ?_⟩
  rw [← h2]
  have hpos : ∀ e : Nat, 0 < 2 ^ e := fun e => Nat.two_pow_pos _
  by_cases hq : 1074 ≤ q
  · rw [show ((q : Int) - 1074).toNat = q - c by omega, show (-((q : Int) - 1074)).toNat = 0 by omega, Nat.pow_zero, Nat.div_one, show m * 2 ^ q = m * 2 ^ (q - c) * 2 ^ c by rw [Nat.mul_assoc, ← Nat.pow_add, show q - c + c = q by omega], Nat.mul_div_cancel _ (hpos c)]
  · rw [show ((q : Int) - 1074).toNat = 0 by omega, show (-((q : Int) - 1074)).toNat = c - q by omega, Nat.pow_zero, Nat.mul_one, show (2 : Nat) ^ c = 2 ^ (c - q) * 2 ^ q by rw [← Nat.pow_add, show c - q + q = c by omega], Nat.mul_div_mul_right _ _ (hpos q)]
/-- a whole number of up to 53 digits is a float -/
theorem int_num {n : Nat} (h0 : 0 < n) (h : n ≤ 4503599627370496) : ∃ r, double.nearest false n 0 = r ∧ r < 9218868437227405312 ∧ ∀ c, c = 1074 → V r = n * 2 ^ c := by
  obtain ⟨r, h1, m1⟩ := near false n 0
  have hm0 : n ≠ 0 := by omega
  have hl1 : 2 ^ n.log2 ≤ n := Nat.log2_self_le hm0
  have hl2 : n < 2 ^ (n.log2 + 1) := Nat.lt_log2_self
  obtain ⟨g, hg⟩ : ∃ g, g = n.log2 := ⟨_, rfl⟩
  rw [← hg] at hl1 hl2
  have hg52 : g ≤ 52 := by
    rcases Nat.lt_or_ge 52 g with q | q
    · exfalso
      have h3 : (2 : Nat) ^ 53 ≤ 2 ^ g := Nat.pow_le_pow_right (by decide) q
      have h4 : (2 : Nat) ^ 53 = 9007199254740992 := rfl
      omega
    · exact q
  obtain ⟨c, hc⟩ : ∃ c : Nat, c = 1074 := ⟨_, rfl⟩
  obtain ⟨E, hE⟩ : ∃ E : Nat, E = 1022 + g := ⟨_, rfl⟩
  have k1 : 4503599627370496 ≤ n * 2 ^ (52 - g) := by
    have : 2 ^ g * 2 ^ (52 - g) ≤ n * 2 ^ (52 - g) := Nat.mul_le_mul_right _ hl1
    rw [← Nat.pow_add, show g + (52 - g) = 52 by omega] at this
    exact this
  have k2 : n * 2 ^ (52 - g) ≤ 9007199254740992 := by
    have : n * 2 ^ (52 - g) ≤ 2 ^ (g + 1) * 2 ^ (52 - g) := Nat.mul_le_mul_right _ (Nat.le_of_lt hl2)
    rw [← Nat.pow_add, show g + 1 + (52 - g) = 53 by omega] at this
    exact this
  have hV : V (E * 4503599627370496 + n * 2 ^ (52 - g)) = n * 2 ^ c := by
    rw [V_mk k1 k2, Nat.mul_assoc, ← Nat.pow_add, show 52 - g + E = c by omega]
  rw [show ((0 : Int) + 1074).toNat = c by omega, show ((-1074 : Int) - 0).toNat = 0 by omega] at m1
  have hr : r = E * 4503599627370496 + n * 2 ^ (52 - g) := m1.same (by omega) (by rw [hV, Nat.pow_zero, Nat.mul_one])
  have hlt : r < 9218868437227405312 := by omega
  refine ⟨r, by rw [h1, Nat.min_eq_left (by omega), word_pos], hlt, fun c' hc' => ?_⟩
  rw [hr, hV, hc, hc']
end Go.Proofs.Ytblgkojeholbnaa.ieC
