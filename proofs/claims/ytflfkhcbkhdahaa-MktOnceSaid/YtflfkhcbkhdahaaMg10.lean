/-
  2 texts of a proof, joined.
-/
import Derived.Test.YtflfkhcbkhdahaaMg9
import Derived.Maps.OwnSet
import Derived.DeepKeys4

/-
  Ways as values: their cells, as keys of a map, '==' of them.
-/
namespace Go.Proofs.Ytflfkhcbkhdahaa.rtC
open Go.ChangeShapes Go.WideShapes Go.ChangeAt Go.RowKit
open Go.Proofs.Ytflfkhcbkhdahaa.memC Go.Proofs.Ytflfkhcbkhdahaa.genC Go.Proofs.Ytflfkhcbkhdahaa.butC Go.Proofs.Ytflfkhcbkhdahaa.freeC Go.Proofs.Ytflfkhcbkhdahaa.adC
open Go.Maps (Keyed)
set_option linter.unusedVariables false
def adrK (s : Bool) (b : List Int) : List Value := .bool s :: b.map (Value.int .u8)
/-- '!=' of two values of many cells -/
theorem ne_run {P : Program} {fr : Act} {o : Oper} {w : World} {T R : TypeId} {s x : Tmp} {A B : Array Value} {q : Bool} (ho : o.op = .binOp .neq T (.tmp s) (.tmp x) R) (hs : fr.tmps[s]?.getD undef = .agg A) (hx : fr.tmps[x]?.getD undef = .agg B)
    (hq : (Op.equalIn 10000 T (.agg A) (.agg B)).run P w = .ok q w) (hgd : P.eqGuardType P.depth T = false) : (execOp fr.eval o).run P w = .ok (.value (.bool (!q))) w := by
  unfold execOp
  rw [ho]
  go_simp
end Go.Proofs.Ytflfkhcbkhdahaa.rtC

/-
  What follows of masking: what is masked is masked to itself; what lies in a longer prefix lies in a shorter one.
-/
namespace Go.Proofs.Ytflfkhcbkhdahaa.adC
open Go.ChangeShapes Go.WideShapes Go.ChangeAt Go.RowKit
open Go.Proofs.Ytflfkhcbkhdahaa.memC Go.Proofs.Ytflfkhcbkhdahaa.genC
set_option linter.unusedVariables false
theorem mk1_less_all : ∀ k' : Nat, k' < 9 → ∀ k : Nat, k < k' + 1 → ∀ n : Nat, n < 256 → mk1 (mk1 (n : Int) k') k = mk1 n k := by decide +kernel
theorem mk1_less {x : Int} (h : Byte x) {k k' : Nat} (h8 : k' ≤ 8) (hk : k ≤ k') : mk1 (mk1 x k') k = mk1 x k := by
  unfold Byte at h
  have := mk1_less_all k' (by omega) k (by omega) x.toNat (by omega)
  rwa [show ((x.toNat : Nat) : Int) = x by omega] at this
theorem kpN_mono {l l' : Int} (h : l ≤ l') (i : Nat) : kpN l i ≤ kpN l' i := by unfold kpN; omega
theorem ext16 {x y : List Int} (hx : x.length = 16) (hy : y.length = 16) (h : ∀ j, j < 16 → x.getD j 0 = y.getD j 0) : x = y := by
  apply List.ext_getElem?
  intro j
  by_cases hj : j < 16
  · have := h j hj
    rw [List.getD_eq_getElem?_getD, List.getD_eq_getElem?_getD, List.getElem?_eq_getElem (by omega), List.getElem?_eq_getElem (by omega)] at this
    rw [List.getElem?_eq_getElem (by omega), List.getElem?_eq_getElem (by omega)]
    exact congrArg some this
  · rw [List.getElem?_eq_none (by omega), List.getElem?_eq_none (by omega)]
theorem mskL_byte {b : List Int} (hl : b.length = 16) (hy : ∀ x ∈ b, Byte x) (len : Int) : ∀ x ∈ mskL b len, Byte x := by
  have hm := mskL_len len hl
  have ha := fun j hj => mskL_at len hl (j := j) hj
  generalize mskL b len = m at *
  intro x hx
  obtain ⟨i, hi, rfl⟩ := List.getElem_of_mem hx
  have h1 := ha i (by omega)
  rw [List.getD_eq_getElem?_getD, List.getElem?_eq_getElem hi] at h1
  simp only [Option.getD_some] at h1
  rw [h1]
  exact mk1_byte (getD_byte hy (by omega)) _
/-- what is masked at a longer length, masked at a shorter one -/
theorem mskL_less {b : List Int} (hl : b.length = 16) (hy : ∀ x ∈ b, Byte x) {l l' : Int} (h : l ≤ l') : mskL (mskL b l') l = mskL b l := by
  have hm := mskL_len l' hl
  have ha := fun j hj => mskL_at l' hl (j := j) hj
  have hc := fun j hj => mskL_at l hl (j := j) hj
  have hn := mskL_len l hl
  generalize mskL b l' = m at *
  generalize mskL b l = n at *
  have hd := fun j hj => mskL_at l hm (j := j) hj
  have he := mskL_len l hm
  generalize mskL m l = q at *
  refine ext16 he hn fun j hj => ?_
  rw [hd j hj, ha j hj, hc j hj]
  exact mk1_less (getD_byte hy (by omega)) (kpN_le _ _) (kpN_mono h j)
theorem outO_some (x : Bool × List Int) : outO (some x) = x := rfl
theorem maskO_some {s : Bool} {b : List Int} {len : Int} (h0 : ¬ len < 0) (h : ¬ 8 * (adrN s : Int) < len) : maskO s b len = some (s, mskL b len) := by unfold maskO; rw [if_neg (by omega)]
theorem maskO_of {s : Bool} {b : List Int} {len : Int} (h : maskO s b len ≠ none) : ¬ len < 0 ∧ ¬ 8 * (adrN s : Int) < len := by
  unfold maskO at h
  split at h
  · exact absurd rfl h
  · omega
theorem lies_self {s : Bool} {a b : List Int} {len : Int} (h0 : ¬ len < 0) (h : ¬ 8 * (adrN s : Int) < len) (hm : mskL a len = mskL b len) : liesL s a s b len = true := by
  unfold liesL
  rw [maskO_some h0 h, maskO_some h0 h, outO_some, outO_some, hm]
  simp
theorem lies_none {s s' : Bool} {a b : List Int} {len : Int} (h : maskO s a len = none) : liesL s a s' b len = false := by
  unfold liesL
  rw [h]; rfl
/-- what lies in a longer prefix lies in a shorter one -/
theorem lies_less {s s' : Bool} {a b : List Int} {len less : Int} (ha : a.length = 16) (hb : b.length = 16) (ya : ∀ x ∈ a, Byte x) (yb : ∀ x ∈ b, Byte x) (h0 : ¬ len < 0) (h : ¬ 8 * (adrN s : Int) < len)
    (l0 : ¬ less < 0) (l1 : less ≤ len) (hL : liesL s' b s a len = true) : liesL s' b s a less = true := by
  unfold liesL at hL
  rw [Bool.and_eq_true, decide_eq_true_eq] at hL
  obtain ⟨h1, h2, h3⟩ := hL
  have hn : maskO s' b len ≠ none := fun e => by rw [e] at h1; cases h1
  obtain ⟨g0, g1⟩ := maskO_of hn
  rw [maskO_some g0 g1, maskO_some h0 h, outO_some, outO_some] at h2 h3
  have h2' : s' = s := h2
  subst h2'
  have h3' : mskL b len = mskL a len := h3
  refine lies_self l0 (by omega) ?_
  rw [← mskL_less hb yb l1, ← mskL_less ha ya l1, h3']
end Go.Proofs.Ytflfkhcbkhdahaa.adC
