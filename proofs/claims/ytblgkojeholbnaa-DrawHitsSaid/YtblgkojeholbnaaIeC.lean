/-
  Chances and draws as words; what is hit; two mixed.
-/
import Derived.Test.YtblgkojeholbnaaIeN
namespace Go.Proofs.Ytblgkojeholbnaa.ieC
open Ieee
set_option linter.unusedVariables false
/-- 1 -/
def ONE : Nat := 4607182418800017408
def geq (c : Option Ordering) : Bool := c == some .gt || c == some .eq
theorem read_inf : double.read 9218868437227405312 = .infinity false := by decide
/-- infinity is above any number from 0 on -/
theorem order_inf {y : Nat} (hy : y < 9218868437227405312) : double.order 9218868437227405312 y = some .gt := by
  obtain ⟨m, q, h, -⟩ := read_num hy
  unfold Format.order
  rw [read_inf, h]
  rfl
theorem order_num_inf {y : Nat} (hy : y < 9218868437227405312) : double.order y 9218868437227405312 = some .lt := by
  obtain ⟨m, q, h, -⟩ := read_num hy
  unfold Format.order
  rw [read_inf, h]
  rfl
theorem order_inf_inf : double.order 9218868437227405312 9218868437227405312 = some .eq := by decide
/-- from 0 to infinity words are in the order of what they stand for -/
theorem order_all {x y : Nat} (hx : x ≤ 9218868437227405312) (hy : y ≤ 9218868437227405312) : double.order x y = some (compare x y) := by
  rcases Nat.lt_or_ge x 9218868437227405312 with h1 | h1
  · rcases Nat.lt_or_ge y 9218868437227405312 with h2 | h2
    · exact order_num h1 h2
    · obtain rfl : y = 9218868437227405312 := by omega
      rw [order_num_inf h1, Nat.compare_eq_lt.2 h1]
  · obtain rfl : x = 9218868437227405312 := by omega
    rcases Nat.lt_or_ge y 9218868437227405312 with h2 | h2
    · rw [order_inf h2, Nat.compare_eq_gt.2 h2]
    · obtain rfl : y = 9218868437227405312 := by omega
      rw [order_inf_inf, Nat.compare_eq_eq.2 rfl]
theorem geq_all {x y : Nat} (hx : x ≤ 9218868437227405312) (hy : y ≤ 9218868437227405312) : geq (double.order x y) = decide (y ≤ x) := by
  rw [order_all hx hy]
  rcases Nat.lt_trichotomy x y with h | h | h
  · rw [Nat.compare_eq_lt.2 h, decide_eq_false (by omega)]; rfl
  · rw [Nat.compare_eq_eq.2 h, decide_eq_true (by omega)]; rfl
  · rw [Nat.compare_eq_gt.2 h, decide_eq_true (by omega)]; rfl
theorem gt0_all {x : Nat} (hx : x ≤ 9218868437227405312) : (double.order x 0 == some .gt) = decide (0 < x) := by
  rw [order_all hx (by omega)]
  rcases Nat.eq_zero_or_pos x with h | h
  · rw [Nat.compare_eq_eq.2 h, decide_eq_false (by omega)]; rfl
  · rw [Nat.compare_eq_gt.2 h, decide_eq_true (by omega)]; rfl
/-- a word from 2^63 on stands for nothing above 0 -/
theorem neg_read {x : Nat} (h1 : 9223372036854775808 ≤ x) (hx : x < 18446744073709551616) : (∃ m pl, double.read x = .number true m pl) ∨ double.read x = .infinity true ∨ ∃ f, double.read x = .nan true f := by
  have e1 : (x / 9223372036854775808 % 2 == 1) = true := by
    have : x / 9223372036854775808 = 1 := by omega
    rw [this]; rfl
  unfold Format.read
  simp only [d_sign, d_binade, d_inf, d_least, e1]
  split
  · exact .inl ⟨_, _, rfl⟩
  · split
    · exact .inl ⟨_, _, rfl⟩
    · split
      · exact .inr (.inl rfl)
      · exact .inr (.inr ⟨_, rfl⟩)
theorem nan_read {x : Nat} (h1 : 9218868437227405312 < x) (hx : x < 9223372036854775808) : ∃ f, double.read x = .nan false f := by
  have e1 : (x / 9223372036854775808 % 2 == 1) = false := by rw [Nat.div_eq_of_lt hx]; rfl
  have e2 : x % 9223372036854775808 = x := Nat.mod_eq_of_lt hx
  unfold Format.read
  simp only [d_sign, d_binade, d_inf, d_least, e1, e2]
  rw [if_neg (by omega), if_neg (by omega), if_neg (by omega)]
  exact ⟨_, rfl⟩
/-- what is no less than something above 0 -/
theorem geq_pos {q p : Nat} (hq : q < 18446744073709551616) (h0 : 0 < p) (hp : p ≤ 9218868437227405312) (h : geq (double.order q p) = true) : p ≤ q ∧ q ≤ 9218868437227405312 := by
  rcases Nat.lt_or_ge 9218868437227405312 q with h1 | h1
  · exfalso
    have hp2 : (∃ m k : Nat, double.read p = .number false m ((k : Int) - 1074) ∧ 0 < m) ∨ double.read p = .infinity false := by
      rcases Nat.lt_or_ge p 9218868437227405312 with h2 | h2
      · obtain ⟨m, k, h3, h4⟩ := read_num h2
        refine .inl ⟨m, k, h3, ?_⟩
        rcases Nat.eq_zero_or_pos m with h5 | h5
        · have h6 : V 0 < V p := V_lt h0
          rw [h5, Nat.zero_mul] at h4
          omega
        · exact h5
      · obtain rfl : p = 9218868437227405312 := by omega
        exact .inr read_inf
    unfold Format.order at h
    rcases Nat.lt_or_ge q 9223372036854775808 with h2 | h2
    · obtain ⟨f, hf⟩ := nan_read h1 h2
      rw [hf] at h
      rcases hp2 with ⟨m, k, h3, -⟩ | h3 <;> rw [h3] at h <;> cases h
    · rcases neg_read h2 hq with ⟨m', pl, hf⟩ | hf | ⟨f, hf⟩
      · rw [hf] at h
        rcases hp2 with ⟨m, k, h3, h4⟩ | h3
        · rw [h3] at h
          unfold Datum.order geq at h
          simp only [signed_neg, signed_pos] at h
          have h5 : 0 < m * 2 ^ ((k : Int) - 1074 - min pl ((k : Int) - 1074)).toNat := Nat.mul_pos h4 (Nat.two_pow_pos _)
          generalize m * 2 ^ ((k : Int) - 1074 - min pl ((k : Int) - 1074)).toNat = M at *
          generalize m' * 2 ^ (pl - min pl ((k : Int) - 1074)).toNat = N at *
          rw [Int.compare_eq_lt.2 (by omega)] at h
          cases h
        · rw [h3] at h; cases h
      · rw [hf] at h
        rcases hp2 with ⟨m, k, h3, -⟩ | h3 <;> rw [h3] at h <;> cases h
      · rw [hf] at h
        rcases hp2 with ⟨m, k, h3, -⟩ | h3 <;> rw [h3] at h <;> cases h
  · rw [geq_all h1 hp, decide_eq_true_eq] at h
    exact ⟨h, h1⟩
/-- what a chance stands for -/
def chanceB (x : Nat) : Nat := if geq (double.order x 4607182418800017408) = true then 4607182418800017408 else if (double.order x 0 == some .gt) = true then x else 0
/-- what a draw stands for -/
def drawB (x : Nat) : Nat := if geq (double.order x 4607182418800017408) = true then 4607182418800017407 else if (double.order x 0 == some .gt) = true then x else 0
theorem chance_num {x : Nat} (h : x ≤ 9218868437227405312) : chanceB x = min x 4607182418800017408 := by
  unfold chanceB
  rw [geq_all h (by omega), gt0_all h]
  simp only [decide_eq_true_eq]
  split
  · omega
  · split <;> omega
theorem chance_not {x : Nat} (hx : x < 18446744073709551616) (h : ¬ (0 < x ∧ x ≤ 9218868437227405312)) : chanceB x = 0 := by
  unfold chanceB
  have h1 : ¬ geq (double.order x 4607182418800017408) = true := fun hg => by
    have := geq_pos hx (by omega) (by omega) hg
    omega
  have h2 : ¬ (double.order x 0 == some .gt) = true := fun hg => h (order_gt0 hx (by simpa using hg))
  rw [if_neg h1, if_neg h2]
theorem chance_le {x : Nat} (hx : x < 18446744073709551616) : chanceB x ≤ 4607182418800017408 := by
  by_cases h : 0 < x ∧ x ≤ 9218868437227405312
  · rw [chance_num h.2]; omega
  · rw [chance_not hx h]; omega
theorem chance_self {x : Nat} (hx : x < 18446744073709551616) : chanceB (chanceB x) = chanceB x := by
  have h := chance_le hx
  rw [chance_num (x := chanceB x) (by omega)]; omega
theorem draw_num {x : Nat} (h : x ≤ 9218868437227405312) : drawB x = min x 4607182418800017407 := by
  unfold drawB
  rw [geq_all h (by omega), gt0_all h]
  simp only [decide_eq_true_eq]
  split
  · omega
  · split <;> omega
theorem draw_not {x : Nat} (hx : x < 18446744073709551616) (h : ¬ (0 < x ∧ x ≤ 9218868437227405312)) : drawB x = 0 := by
  unfold drawB
  have h1 : ¬ geq (double.order x 4607182418800017408) = true := fun hg => by
    have := geq_pos hx (by omega) (by omega) hg
    omega
  have h2 : ¬ (double.order x 0 == some .gt) = true := fun hg => h (order_gt0 hx (by simpa using hg))
  rw [if_neg h1, if_neg h2]
theorem draw_le {x : Nat} (hx : x < 18446744073709551616) : drawB x ≤ 4607182418800017407 := by
  by_cases h : 0 < x ∧ x ≤ 9218868437227405312
  · rw [draw_num h.2]; omega
  · rw [draw_not hx h]; omega
theorem draw_self {x : Nat} (hx : x < 18446744073709551616) : drawB (drawB x) = drawB x := by
  have h := draw_le hx
  rw [draw_num (x := drawB x) (by omega)]; omega
/-- a greater chance stands for no less -/
theorem chance_mono {p q : Nat} (hp : p < 18446744073709551616) (hq : q < 18446744073709551616) (h : geq (double.order q p) = true) : chanceB p ≤ chanceB q := by
  by_cases h1 : 0 < p ∧ p ≤ 9218868437227405312
  · obtain ⟨h2, h3⟩ := geq_pos hq h1.1 h1.2 h
    rw [chance_num h1.2, chance_num h3]; omega
  · rw [chance_not hp h1]; omega
/-- whether a draw hits -/
def hitB (p d : Nat) : Bool := double.order (drawB d) (chanceB p) == some .lt
theorem hit_iff {p d : Nat} (hp : p < 18446744073709551616) (hd : d < 18446744073709551616) : hitB p d = decide (drawB d < chanceB p) := by
  unfold hitB
  have h1 := chance_le hp
  have h2 := draw_le hd
  rw [order_all (by omega) (by omega)]
  rcases Nat.lt_trichotomy (drawB d) (chanceB p) with h | h | h
  · rw [Nat.compare_eq_lt.2 h, decide_eq_true h]; rfl
  · rw [Nat.compare_eq_eq.2 h, decide_eq_false (by omega)]; rfl
  · rw [Nat.compare_eq_gt.2 h, decide_eq_false (by omega)]; rfl
/-! ### mixed -/
theorem V_one {c : Nat} (hc : c = 1074) : V 4607182418800017408 = 2 ^ c := by
  obtain ⟨e, he⟩ : ∃ e : Nat, e = 1022 := ⟨_, rfl⟩
  rw [show (4607182418800017408 : Nat) = e * 4503599627370496 + 4503599627370496 by omega, V_mk (by omega) (by omega), show c = 52 + e by omega, Nat.pow_add]
theorem V_one_next {c d : Nat} (hc : c = 1074) (hd : d = 1022) : V (4607182418800017408 + 1) = 2 ^ c + 2 ^ d := by
  rw [show (4607182418800017408 + 1 : Nat) = d * 4503599627370496 + 4503599627370497 by omega, V_mk (by omega) (by omega), show c = 52 + d by omega, Nat.pow_add, show (4503599627370497 : Nat) = 2 ^ 52 + 1 from rfl, Nat.add_mul, Nat.one_mul]
/-- steps below 1 -/
theorem V_gap {t q : Nat} (hq : q = 1021) (h0 : 0 < t) (h : t ≤ 4607182418800017408) : V t ≤ V (t - 1) + 2 ^ q := by
  rcases Nat.lt_or_ge (t - 1) 4503599627370496 with h1 | h1
  · rw [V_low (by omega), V_low (by omega)]
    have : 0 < 2 ^ q := Nat.two_pow_pos _
    omega
  · obtain ⟨e, k, h2, h3, h4⟩ := rung_of h1
    have he : e ≤ q := by omega
    rw [h2, V_mk h3 (by omega), show t = e * 4503599627370496 + (k + 1) by omega, V_mk (by omega) (by omega), Nat.add_mul, Nat.one_mul]
    have : 2 ^ e ≤ 2 ^ q := Nat.pow_le_pow_right (by decide) he
    omega
/-- 1 less a chance; a chance of each; both added: at most 1 -/
theorem mix_le {a b s : Nat} (ha : a ≤ 4607182418800017408) (hb : b ≤ 4607182418800017408) (hs : s ≤ 4607182418800017408) :
    ∃ t x y z, double.sub 4607182418800017408 s = some t ∧ double.mul a t = some x ∧ double.mul b s = some y ∧ double.add x y = some z ∧ t ≤ 4607182418800017408 ∧ x ≤ t ∧ y ≤ s ∧ z ≤ 4607182418800017408 := by
  obtain ⟨c, hc⟩ : ∃ c : Nat, c = 1074 := ⟨_, rfl⟩
  obtain ⟨d, hd⟩ : ∃ c : Nat, c = 1022 := ⟨_, rfl⟩
  obtain ⟨q, hq⟩ : ∃ c : Nat, c = 1021 := ⟨_, rfl⟩
  have v1 := V_one hc
  obtain ⟨t, h1, m1⟩ := sub_num (x := 4607182418800017408) (y := s) (by omega) (by omega) hs
  have t1 : t ≤ 4607182418800017408 := m1.le (by omega) (by omega)
  rw [Nat.min_eq_left (by omega)] at h1
  have hle : ∀ {u v : Nat}, u ≤ 4607182418800017408 → V u * V v ≤ V v * 2 ^ c := fun {u v} hu => by
    rw [Nat.mul_comm (V v), ← v1]
    exact Nat.mul_le_mul_right _ (V_le hu)
  obtain ⟨x, h2, m2⟩ := mul_num (x := a) (y := t) (by omega) (by omega)
  have x1 : x ≤ t := (m2 c hc).le (Nat.two_pow_pos _) (hle ha)
  rw [Nat.min_eq_left (by omega)] at h2
  obtain ⟨y, h3, m3⟩ := mul_num (x := b) (y := s) (by omega) (by omega)
  have y1 : y ≤ s := (m3 c hc).le (Nat.two_pow_pos _) (hle hb)
  rw [Nat.min_eq_left (by omega)] at h3
  obtain ⟨z, h4, m4⟩ := add_num (x := x) (y := y) (by omega) (by omega)
  have z1 : z ≤ 4607182418800017408 := by
    refine m4.half ?_
    rw [V_one_next hc hd, v1]
    have e1 := V_le x1
    have e2 := V_le y1
    have e3 := V_le hs
    have e4 : 2 * V t + 2 * V s ≤ 2 * 2 ^ c + 2 ^ q := by
      rw [v1] at e3
      rcases Nat.eq_zero_or_pos t with h0 | h0
      · subst h0
        have : V 0 = 0 := rfl
        have e6 : 0 < 2 ^ q := Nat.two_pow_pos _
        omega
      · have h5 := m1.1 h0
        have h6 := V_gap hq h0 t1
        rw [v1] at h5
        omega
    have e5 : (2 : Nat) ^ d = 2 * 2 ^ q := by rw [show d = q + 1 by omega, Nat.pow_succ]; omega
    have e6 : 0 < 2 ^ q := Nat.two_pow_pos _
    generalize (2 : Nat) ^ d = P at *
    generalize (2 : Nat) ^ q = Q at *
    generalize (2 : Nat) ^ 1074 = R at *
    omega
  rw [Nat.min_eq_left (by omega)] at h4
  exact ⟨t, x, y, z, h1, h2, h3, h4, t1, x1, y1, z1⟩
end Go.Proofs.Ytblgkojeholbnaa.ieC
