/-
  '==' of two arrays of bytes, as it comes out.
-/
import Derived.Test.YtknemkekmahdmaaAesI
namespace Go.Proofs.Ytknemkekmahdmaa.aesC
open Go.ChangeShapes Go.WideShapes Go.ChangeAt Go.RowKit
open Go.Proofs.Ytknemkekmahdmaa.memC Go.Proofs.Ytknemkekmahdmaa.genC Go.Proofs.Ytknemkekmahdmaa.aesM Go.Proofs.Ytknemkekmahdmaa.freeC
set_option linter.unusedVariables false
theorem run_each {P : Program} (w : World) (d : Nat) (e : TypeId) (K : IntKind) (xs ys : Array Value) (f g : Nat → Int) (he : P.underlying e = some (.int K)) :
    ∀ is : List Nat, (∀ j ∈ is, xs[j]? = some (.int K (f j)) ∧ ys[j]? = some (.int K (g j))) → (Op.eqItems (d + 1) e 1 xs ys is).run P w = .ok (is.all fun j => f j == g j) w
  | [], _ => by simp [Op.eqItems]
  | j :: is, h => by
    obtain ⟨hx, hy⟩ := h j (by simp)
    have hagg : (isAgg e).run P w = .ok false w := by
      unfold isAgg
      rw [Sem.run_bind, run_underlying he w]
      rfl
    have hp : (part e xs (j * 1)).run P w = .ok (.int K (f j)) w := by
      rw [Nat.mul_one]
      simp [part, Sem.run_bind, hagg, hx]
    have hp2 : (part e ys (j * 1)).run P w = .ok (.int K (g j)) w := by
      rw [Nat.mul_one]
      simp [part, Sem.run_bind, hagg, hy]
    have ih := run_each w d e K xs ys f g he is fun i hi => h i (by simp [hi])
    have hq := run_equalIn_int (P := P) w d e K K (f j) (g j) he
    by_cases hfg : f j = g j
    · have hb : (f j == g j) = true := beq_iff_eq.2 hfg
      simp only [Op.eqItems, Sem.run_bind, hp, hp2, Result.andThen_ok, hq, hb, Bool.not_true, Bool.false_eq_true, if_false, ih, List.all_cons, Bool.true_and]
    · have hb : (f j == g j) = false := beq_eq_false_iff_ne.2 hfg
      simp only [Op.eqItems, Sem.run_bind, hp, hp2, Result.andThen_ok, hq, hb, Bool.not_false, if_true, Sem.run_pure, List.all_cons, Bool.false_and]
theorem eq_dec {xs ys : List Nat} (hx : xs.length = 16) (hy : ys.length = 16) (w : World) : (Op.equalIn 10000 22 (.agg (vec xs)) (.agg (vec ys))).run Try.prog w = .ok (decide (xs = ys)) w := by
  obtain ⟨i0, hi0, hz0, hz1, hz2⟩ := info_parts byte_inf
  rw [show (10000 : Nat) = 9998 + 1 + 1 from rfl, run_equalIn_array w _ (vec xs) (vec ys) Try.underlying22 hi0, show Try.prog.cellsOf 5 = 1 by kernel_rfl,
    run_each w _ _ .u8 (vec xs) (vec ys) (fun j => ((xs.getD j 0 : Nat) : Int)) (fun j => ((ys.getD j 0 : Nat) : Int)) rfl _ fun j hj => ⟨vec_at (by rw [hx]; exact List.mem_range.1 hj), vec_at (by rw [hy]; exact List.mem_range.1 hj)⟩]
  congr 1
  by_cases h : xs = ys
  · subst h
    simp
  · rw [decide_eq_false h]
    refine Bool.eq_false_iff.2 fun h2 => h ?_
    apply List.ext_getElem?
    intro j
    by_cases hj : j < 16
    · have := List.all_eq_true.1 h2 j (List.mem_range.2 hj)
      have h3 : xs.getD j 0 = ys.getD j 0 := Int.ofNat_inj.1 (beq_iff_eq.1 this)
      rw [getD_eq (by rw [hx]; exact hj), getD_eq (by rw [hy]; exact hj), h3]
    · rw [List.getElem?_eq_none (by omega), List.getElem?_eq_none (by omega)]
end Go.Proofs.Ytknemkekmahdmaa.aesC
