/-
  1 texts of a proof, joined.
-/
import Derived.Test.YtmbfgolcinniiaaMg21
import Derived.Test.YtmbfgolcinniiaaMg6
import Derived.Laws.BitsAllLaws
import Derived.Test.YtmbfgolcinniiaaMg23
import Derived.Test.YtmbfgolcinniiaaMg14
import Derived.Test.YtmbfgolcinniiaaMg16
import Derived.Test.YtmbfgolcinniiaaMg13
import Derived.Test.YtmbfgolcinniiaaMg3
import Derived.Test.YtmbfgolcinniiaaMg5
import Derived.Test.YtmbfgolcinniiaaMg20
import Derived.Laws.CopyRow

/-
  One hop less: the program's.
-/
namespace Go.Proofs.Ytmbfgolcinniiaa.memC
open Go.ChangeShapes Go.WideShapes Go.ChangeAt Go.RowKit
set_option linter.unusedVariables false
/-- some numbers copied into the midst of an own slice -/
theorem Own.copied {k : IntKind} {e : TypeId} {w : World} {base g n c : Nat} {xs : List Int} (h : Own k e w base (.slice (some ⟨g, 0, none⟩) n c) xs) (hn : 0 < n) (off m : Nat) (ys : List Int) (hm : ys.length = m) (ho : off + m ≤ n) :
    ∃ cur, w.heap[g]? = some (.cells cur e (0, 0)) ∧ n ≤ cur.size ∧ Own k e (w.setRow g (cur.toList.take off ++ ys.map (Value.int k) ++ cur.toList.drop (off + m)).toArray) base (.slice (some ⟨g, 0, none⟩) n c) (xs.take off ++ ys ++ xs.drop (off + m)) := by
  have hl := h.len
  subst hl
  unfold Own at h ⊢
  rcases h.2 with ⟨e2, h0⟩ | ⟨g', cap, cur, e2, hb, hh, h1, h2, h3, h4⟩
  · cases e2
  · cases e2
    rw [Nat.mul_one] at h3 h4
    have hl2 : (xs.take off ++ ys ++ xs.drop (off + m)).length = xs.length := by simp; omega
    have ec : cur.toList = xs.map (Value.int k) ++ cur.toList.drop xs.length := by
      have := List.take_append_drop xs.length cur.toList
      rw [← h4]; exact this.symm
    have en : cur.toList.take off ++ ys.map (Value.int k) ++ cur.toList.drop (off + m) = (xs.take off ++ ys ++ xs.drop (off + m)).map (Value.int k) ++ cur.toList.drop xs.length := by
      generalize cur.toList.drop xs.length = R at *
      rw [ec, List.take_append_of_le_length (by rw [List.length_map]; omega), List.drop_append_of_le_length (by rw [List.length_map]; omega)]
      simp [List.map_take, List.map_drop]
    refine ⟨cur, hh, by omega, by rw [Nat.mul_one, List.length_map], .inr ⟨g, c, _, by rw [hl2], hb, setRow_heap _ _ _ _ _ _ hh, by rw [hl2]; exact h1, h2, ?_, ?_⟩⟩
    · rw [en]
      simp only [List.size_toArray, List.length_append, List.length_map, hl2, List.length_drop, Array.length_toList]
      omega
    · rw [en, Nat.mul_one]
      rw [List.take_append_of_le_length (by rw [List.length_map]; exact Nat.le_refl _), List.take_of_length_le (by rw [List.length_map]; exact Nat.le_refl _)]
end Go.Proofs.Ytmbfgolcinniiaa.memC
namespace Go.Proofs.Ytmbfgolcinniiaa.pkC
open Go.ChangeShapes Go.WideShapes Go.ChangeAt Go.RowKit
open Go.Proofs.Ytmbfgolcinniiaa.memC Go.Proofs.Ytmbfgolcinniiaa.genC Go.Proofs.Ytmbfgolcinniiaa.butC Go.Proofs.Ytmbfgolcinniiaa.freeC Go.Proofs.Ytmbfgolcinniiaa.adC
set_option linter.unusedVariables false
/-- copy as an operation of a region that draws its order -/
theorem copy_J {P : Program} {Q : Exit → Act → World → Prop} {R : Value → World → Prop} {fr : Act} {o : Oper} {w : World} (d s : Tmp) (dT sT : TypeId) (ho : o.op = .call { callee := .builtin .copy, args := #[.tmp d, .tmp s], argTypes := #[dT, sT] })
    (v u : Value) (hd : fr.tmps[d]?.getD undef = v) (hs : fr.tmps[s]?.getD undef = u) {v' : Value} {w' : World} (hr : (Builtin.copy_ #[dT, sT] o.type #[v, u]).run P w = .ok v' w') (hR : R v' w') : o.wp P fr w (fun a' w' => ∃ v, a' = fr.put o.dst v ∧ R v w') Q := by
  have hd' := eval_tmp hd
  have hs' := eval_tmp hs
  unfold Oper.wp execOp
  simp only [ho, resolve, invoke, builtin, Sem.run_bind, Sem.run_pure, Result.andThen_ok, List.map_toArray, List.map_cons, List.map_nil, hd', hs', hr]
  exact ⟨_, rfl, hR⟩
/-- a literal of numbers, by its row -/
theorem row_nums (k : IntKind) {w : World} {g : Nat} {xs : List Int} {T : TypeId} {C : Array Value} (h : w.heap[g]? = some (.cells C T (0, 0))) (hC : C = (xs.map (Value.int k)).toArray) (n : Nat) (hn : xs.length = n) :
    Nums k w w.heap.size (some ⟨g, 0, none⟩) n xs := by
  subst hC
  refine ⟨hn, fun _ => ⟨_, 0, rfl, lt_of_row h, fun i hi => ?_⟩⟩
  have hi2 : i < xs.length := by omega
  rw [cell_of_row w g (0 + i) _ _ (0, 0) h]
  simp [List.getD_eq_getElem?_getD, hi2]
/-- b[f:] -/
theorem cut_tail (A : Option Addr) (n c f : Nat) (h1 : f ≤ n) (h2 : n ≤ c) (w : World) :
    (Instr.slice 24 (.slice A n c) (some (.int .i64 (f : Int))) none none).run Try.prog w = .ok (.slice (if c = f then A else A.map (·.add f)) (n - f) (c - f)) w := by
  have k1 : (f : Int) ≤ (n : Int) := by omega
  by_cases h : c = f
  · subst h
    rw [if_pos rfl]
    go_simp
  · rw [if_neg h]
    go_simp
end Go.Proofs.Ytmbfgolcinniiaa.pkC
