/-
  AES: what the round keys' bytes are, one by another.
-/
import Derived.Test.YtknemkekmahdmaaAesP
namespace Go.Proofs.Ytknemkekmahdmaa.aesC
open Go.ChangeShapes Go.WideShapes Go.ChangeAt Go.RowKit
open Go.Proofs.Ytknemkekmahdmaa.memC Go.Proofs.Ytknemkekmahdmaa.genC Go.Proofs.Ytknemkekmahdmaa.aesM Go.Proofs.Ytknemkekmahdmaa.freeC
set_option linter.unusedVariables false
theorem nxt_head {l : List Nat} (hl : l.length = 16) (y : Nat) {c : Nat} (hc : c < 4) :
    (nxt l y).getD c 0 = l.getD c 0 ^^^ box (l.getD (12 + (c + 1) % 4) 0) ^^^ (if c = 0 then y else 0) := by
  obtain ⟨a, b, c', d, e, f, g, i, j, k, m, n, o, p, q, r, rfl⟩ := list16 hl
  rcases (show c = 0 ∨ c = 1 ∨ c = 2 ∨ c = 3 by omega) with rfl | rfl | rfl | rfl
  · refine (?_ : _ = box p ^^^ y ^^^ a).trans (Eq.trans ?_ (?_ : a ^^^ box p ^^^ y = _))
    · kernel_rfl
    · ac_rfl
    · kernel_rfl
  · refine (?_ : _ = box q ^^^ b).trans (Eq.trans ?_ (?_ : b ^^^ box q ^^^ 0 = _))
    · kernel_rfl
    · rw [Nat.xor_zero, Nat.xor_comm]
    · kernel_rfl
  · refine (?_ : _ = box r ^^^ c').trans (Eq.trans ?_ (?_ : c' ^^^ box r ^^^ 0 = _))
    · kernel_rfl
    · rw [Nat.xor_zero, Nat.xor_comm]
    · kernel_rfl
  · refine (?_ : _ = box o ^^^ d).trans (Eq.trans ?_ (?_ : d ^^^ box o ^^^ 0 = _))
    · kernel_rfl
    · rw [Nat.xor_zero, Nat.xor_comm]
    · kernel_rfl
theorem nxt_tail {l : List Nat} (hl : l.length = 16) (y : Nat) {t : Nat} (ht : t < 12) : (nxt l y).getD (4 + t) 0 = (nxt l y).getD t 0 ^^^ l.getD (4 + t) 0 := by
  obtain ⟨a, b, c', d, e, f, g, i, j, k, m, n, o, p, q, r, rfl⟩ := list16 hl
  rcases (show t = 0 ∨ t = 1 ∨ t = 2 ∨ t = 3 ∨ t = 4 ∨ t = 5 ∨ t = 6 ∨ t = 7 ∨ t = 8 ∨ t = 9 ∨ t = 10 ∨ t = 11 by omega) with rfl | rfl | rfl | rfl | rfl | rfl | rfl | rfl | rfl | rfl | rfl | rfl <;> kernel_rfl
section
variable {k : List Nat}
theorem relA {j : Nat} (h : j < 16) : (FL k).getD j 0 = k.getD j 0 := by
  have := FL_at16 (k := k) (n := 0) (by decide) h
  rwa [Nat.mul_zero, Nat.zero_add] at this
theorem relB (hk : BY k) (hl : k.length = 16) {n c i p1 p4 cm : Nat} (hi : i = 4 * (n + 1)) (hn : n ≤ 9) (hc : c < 4) (h1 : i = p1 + 1) (h4 : i = p4 + 4) (hm : cm = (c + 1) % 4) :
    (FL k).getD (i * 4 + c) 0 = (FL k).getD (p4 * 4 + c) 0 ^^^ box ((FL k).getD (p1 * 4 + cm) 0) ^^^ (if c = 0 then rc n else 0) := by
  rw [show i * 4 + c = 16 * (n + 1) + c by omega, show p4 * 4 + c = 16 * n + c by omega, show p1 * 4 + cm = 16 * n + (12 + (c + 1) % 4) by omega, FL_at16 (by omega) (by omega), FL_at16 (by omega) (by omega), FL_at16 (by omega) (by omega)]
  exact nxt_head (rk_ok hk hl n).2 (rc n) hc
theorem relC (hk : BY k) (hl : k.length = 16) {c i p1 p4 : Nat} (hi : i % 4 ≠ 0) (hi4 : i < 44) (hc : c < 4) (h1 : i = p1 + 1) (h4 : i = p4 + 4) :
    (FL k).getD (i * 4 + c) 0 = (FL k).getD (p4 * 4 + c) 0 ^^^ (FL k).getD (p1 * 4 + c) 0 := by
  obtain ⟨n, q, hq, hin, hn⟩ : ∃ n q, q < 3 ∧ i = 4 * (n + 1) + (q + 1) ∧ n ≤ 9 := ⟨i / 4 - 1, i % 4 - 1, by omega, by omega, by omega⟩
  rw [show i * 4 + c = 16 * (n + 1) + (4 + (4 * q + c)) by omega, show p4 * 4 + c = 16 * n + (4 + (4 * q + c)) by omega, show p1 * 4 + c = 16 * (n + 1) + (4 * q + c) by omega, FL_at16 (by omega) (by omega), FL_at16 (by omega) (by omega), FL_at16 (by omega) (by omega), Nat.xor_comm]
  exact nxt_tail (rk_ok hk hl n).2 (rc n) (by omega)
end
section
variable {xs ys : List Nat} {p m v : Nat}
theorem getD_set_same (h : p < xs.length) : (xs.set p v).getD p 0 = v := by
  rw [List.getD_eq_getElem?_getD, List.getElem?_set_self h]; rfl
theorem getD_set_other {q : Nat} (h : q ≠ p) : (xs.set p v).getD q 0 = xs.getD q 0 := by
  rw [List.getD_eq_getElem?_getD, List.getD_eq_getElem?_getD, List.getElem?_set_ne (Ne.symm h)]
/-- a byte behind those that are there -/
theorem mixP_later (h : m ≤ p) : mixP (xs.set p v) ys m = mixP xs ys m := by
  unfold mixP
  rw [List.take_set_of_le h]
/-- a byte of those that are there is set right -/
theorem mixP_fix (h : xs.length = ys.length) (hp : p < m) (hm : p < ys.length) : (mixP (xs.set p v) ys m).set p (xs.getD p 0) = mixP xs ys m := by
  have hl : (xs.set p v).length = ys.length := by rw [List.length_set, h]
  apply List.ext_getElem?
  intro j
  rcases Nat.lt_or_ge j ys.length with hj | hj
  · rw [getD_eq (by rw [List.length_set, mixP_len hl]; exact hj), getD_eq (by rw [mixP_len h]; exact hj)]
    by_cases e : j = p
    · subst e
      rw [getD_set_same (by rw [mixP_len hl]; exact hm), mixP_new h hp]
    · rw [getD_set_other e]
      rcases Nat.lt_or_ge j m with h1 | h1
      · rw [mixP_new hl h1, mixP_new h h1, getD_set_other e]
      · rw [mixP_old hl h1, mixP_old h h1]
  · rw [List.getElem?_eq_none (by rw [List.length_set, mixP_len hl]; exact hj), List.getElem?_eq_none (by rw [mixP_len h]; exact hj)]
end
end Go.Proofs.Ytknemkekmahdmaa.aesC
