/-
  AES: the code's Round and Encrypt.
-/
import Derived.Test.YtknemkekmahdmaaAesJ
namespace Go.Proofs.Ytknemkekmahdmaa.aesC
open Go.ChangeShapes Go.WideShapes Go.ChangeAt Go.RowKit
open Go.Proofs.Ytknemkekmahdmaa.memC Go.Proofs.Ytknemkekmahdmaa.genC Go.Proofs.Ytknemkekmahdmaa.aesM Go.Proofs.Ytknemkekmahdmaa.freeC
set_option linter.unusedVariables false
/-- an array out of an array of arrays -/
theorem run_idx_agg {P : Program} (w : World) (t e : TypeId) (n s : Nat) (d : TypeDesc) (cs : Array Value) (k : Nat) (ht : P.underlying t = some (.array n e)) (he : P.underlying e = some d)
    (hd : (match d with | .struct _ | .array _ _ => true | _ => false) = true) (hi : (P.info? e).map (·.size) = some s) (hk : k < n) : (Instr.index t (.agg cs) (.int .i64 (k : Int))).run P w = .ok (.agg (cs.extract (k * s) (k * s + s))) w := by
  have hn : 0 ≤ (k : Int) ∧ (k : Int) < (n : Int) := by omega
  cases hq : P.info? e with
  | none => simp [hq] at hi
  | some i =>
    have hs : i.size = s := by simpa [hq] using hi
    have hagg : (isAgg e).run P w = .ok true w := by
      unfold isAgg
      rw [Sem.run_bind, run_underlying he w]
      cases d <;> simp_all
    have hp : (part e cs (k * s)).run P w = .ok (.agg (cs.extract (k * s) (k * s + s))) w := by
      simp [part, Sem.run_bind, hagg, sizeOf, typeInfo, hq, hs]
    simp [Instr.index, run_underlying ht, asIntOf, hn, sizeOf, typeInfo, hq, hs, hp, Sem.run_bind]
    omega
theorem FL_ext {k : List Nat} (hk : BY k) (hl : k.length = 16) {n : Nat} (h : n < 11) : (vec (FL k)).extract (n * 16) (n * 16 + 16) = vec (rk k n) := by
  rw [← FL_win hk hl h, Nat.mul_comm n 16]
  unfold vec
  apply Array.toList_inj.1
  simp [List.map_take, List.map_drop, List.extract_eq_take_drop]
theorem built_zero : Try.prog.built 22 [] = some (vec (zs 16)) := by kernel_rfl
theorem wpList_zero {P : Program} {ops : Array Oper} {rest : List Oper} {o : Oper} {a : Act} {w : World} {Q : Exit → Act → World → Prop} (hg : o.guard = none) (t : TypeId) (ho : o.op = .build t #[])
    (cells : Array Value) (hf : P.built t [] = some cells)
    (h : wpList P ops Q rest (a.put o.dst (.agg cells)) w) : wpList P ops Q (o :: rest) a w := by
  refine wpList_plain hg fun _ hK => ?_
  unfold Oper.wp execOp
  have hb : (Instr.build t #[]).run P w = .ok (.agg cells) w := run_build w t _ cells hf
  simp [ho, hb, Result.andThen_ok]
  exact hK _ _ h
end Go.Proofs.Ytknemkekmahdmaa.aesC
