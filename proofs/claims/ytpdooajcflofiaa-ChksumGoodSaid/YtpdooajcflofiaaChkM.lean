/-
  The sum of 16-bit numbers, and what passes 16 bits added below: plain mathematics.
-/
import Derived.Test.YtpdooajcflofiaaMem
namespace Go.Proofs.Ytpdooajcflofiaa.chkM
open Go.Proofs.Ytpdooajcflofiaa.memC
set_option linter.unusedVariables false
def Byte (x : Int) : Prop := 0 ≤ x ∧ x ≤ 255
/-- the numbers of 16 bits, added -/
def wsum : List Int → Int
  | [] => 0
  | [a] => a * 256
  | a :: b :: r => a * 256 + b + wsum r
/-- what passes 16 bits is added again below -/
def fo (s : Int) : Int := if s ≤ 0 then 0 else (s - 1) % 65535 + 1
theorem fo_bd (s : Int) : 0 ≤ fo s ∧ fo s ≤ 65535 := by unfold fo; split <;> omega
theorem fo_id {s : Int} (h0 : 0 ≤ s) (h1 : s ≤ 65535) : fo s = s := by unfold fo; split <;> omega
theorem fo_add {a b : Int} (ha : 0 ≤ a) (hb : 0 ≤ b) : fo (fo a + b) = fo (a + b) := by unfold fo; (repeat' split) <;> omega
theorem fo_add' {a b : Int} (ha : 0 ≤ a) (hb : 0 ≤ b) : fo (a + fo b) = fo (a + b) := by rw [Int.add_comm, fo_add hb ha, Int.add_comm]
theorem fo_step {s : Int} (h : 65535 < s) : fo (s / 65536 + s % 65536) = fo s := by unfold fo; (repeat' split) <;> omega
theorem fo_lt {s : Int} (h : 65535 < s) : s / 65536 + s % 65536 < s := by omega
theorem fo_full {s : Int} : fo s = 65535 ↔ 0 < s ∧ s % 65535 = 0 := by unfold fo; split <;> omega
theorem wsum_bd : ∀ (l : List Int), (∀ x ∈ l, Byte x) → 0 ≤ wsum l ∧ wsum l ≤ 65535 * l.length
  | [], _ => by simp [wsum]
  | [a], h => by have := h a (by simp); unfold Byte at this; simp [wsum]; omega
  | a :: b :: r, h => by
    have h1 := h a (by simp)
    have h2 := h b (by simp)
    have ih := wsum_bd r fun x hx => h x (by simp [hx])
    unfold Byte at h1 h2
    simp only [wsum, List.length_cons]
    omega
theorem wsum_append : ∀ (a b : List Int), a.length % 2 = 0 → wsum (a ++ b) = wsum a + wsum b
  | [], b, _ => by simp [wsum]
  | [x], b, h => by simp at h
  | x :: y :: r, b, h => by
    have ih := wsum_append r b (by simp at h; omega)
    simp only [List.cons_append, wsum]
    omega
theorem wsum_two (l : List Int) (k : Nat) (hk : k % 2 = 0) (h : k + 1 < l.length) : wsum (l.take (k + 2)) = wsum (l.take k) + (l.getD k 0 * 256 + l.getD (k + 1) 0) := by
  have e : l.take (k + 2) = l.take k ++ [l.getD k 0, l.getD (k + 1) 0] := by
    rw [List.take_succ_eq_append_getElem h, List.take_succ_eq_append_getElem (show k < l.length by omega)]
    simp only [List.getD_eq_getElem?_getD, List.getElem?_eq_getElem h, List.getElem?_eq_getElem (show k < l.length by omega), Option.getD_some, List.append_assoc, List.cons_append, List.nil_append]
  rw [e, wsum_append _ _ (by rw [List.length_take]; omega)]
  simp [wsum]
theorem wsum_last (l : List Int) (k : Nat) (hk : k % 2 = 0) (h : k + 1 = l.length) : wsum l = wsum (l.take k) + l.getD k 0 * 256 := by
  have e : l = l.take k ++ [l.getD k 0] := by
    have h2 := List.take_succ_eq_append_getElem (l := l) (i := k) (by omega)
    rw [List.take_of_length_le (by omega)] at h2
    simpa [List.getD_eq_getElem?_getD, List.getElem?_eq_getElem (show k < l.length by omega)] using h2
  have e2 := congrArg wsum e
  rw [wsum_append _ _ (by rw [List.length_take]; omega)] at e2
  simpa [wsum] using e2
/-- what a byte at place i counts -/
def wt (i : Nat) : Int := if i % 2 = 0 then 256 else 1
theorem wsum_set : ∀ (l : List Int) (i : Nat) (x : Int), i < l.length → wsum (l.set i x) = wsum l + (x - l.getD i 0) * wt i
  | [], _, _, h => by simp at h
  | [a], i, x, h => by
    obtain rfl : i = 0 := by simpa using h
    simp [wsum, wt]; omega
  | a :: b :: r, 0, x, h => by simp [wsum, wt]; omega
  | a :: b :: r, 1, x, h => by simp [wsum, wt]; omega
  | a :: b :: r, i + 2, x, h => by
    have ih := wsum_set r i x (by simpa using h)
    have e : wt (i + 2) = wt i := by unfold wt; simp
    have e2 : (a :: b :: r).getD (i + 2) 0 = r.getD i 0 := by simp [List.getD_eq_getElem?_getD]
    have e3 : (a :: b :: r).set (i + 2) x = a :: b :: r.set i x := rfl
    rw [e, e2, e3]
    simp only [wsum]
    omega
/-- all parts' numbers, added -/
def psum : List (List Int) → Int
  | [] => 0
  | p :: r => wsum p + psum r
theorem psum_bd : ∀ (ps : List (List Int)), (∀ p ∈ ps, ∀ x ∈ p, Byte x) → 0 ≤ psum ps
  | [], _ => by simp [psum]
  | p :: r, h => by
    have h1 := (wsum_bd p (h p (by simp))).1
    have ih := psum_bd r fun q hq => h q (by simp [hq])
    simp only [psum]; omega
theorem psum_append : ∀ (a b : List (List Int)), psum (a ++ b) = psum a + psum b
  | [], b => by simp [psum]
  | p :: r, b => by simp only [List.cons_append, psum, psum_append r b]; omega
theorem psum_snoc (ps : List (List Int)) (k : Nat) (h : k < ps.length) : psum (ps.take (k + 1)) = psum (ps.take k) + wsum (ps.getD k []) := by
  rw [List.take_succ_eq_append_getElem h, psum_append]
  simp [psum, List.getD_eq_getElem?_getD, List.getElem?_eq_getElem h]
end Go.Proofs.Ytpdooajcflofiaa.chkM
