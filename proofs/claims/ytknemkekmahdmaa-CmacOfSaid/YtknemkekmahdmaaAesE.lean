/-
  AES: the code's box.
-/
import Derived.Test.YtknemkekmahdmaaAesD
namespace Go.Proofs.Ytknemkekmahdmaa.aesC
open Go.ChangeShapes Go.WideShapes Go.ChangeAt Go.RowKit
open Go.Proofs.Ytknemkekmahdmaa.memC Go.Proofs.Ytknemkekmahdmaa.genC Go.Proofs.Ytknemkekmahdmaa.aesM
set_option linter.unusedVariables false
theorem run_idxK {P : Program} (w : World) (t e : TypeId) (n : Nat) (K IK : IntKind) (i : TypeInfo) (cs : Array Value) (k : Nat) (v : Value) (ht : P.underlying t = some (.array n e)) (he : P.underlying e = some (.int K))
    (hi : P.info? e = some i) (hs : i.size = 1) (hk : k < n) (hv : cs[k]? = some v) : (Instr.index t (.agg cs) (.int IK (k : Int))).run P w = .ok v w := by
  have hn : 0 ≤ (k : Int) ∧ (k : Int) < (n : Int) := by omega
  have hagg : (isAgg e).run P w = .ok false w := by
    unfold isAgg
    rw [Sem.run_bind, run_underlying he w]
    rfl
  have hp : (part e cs k).run P w = .ok v w := by
    simp [part, Sem.run_bind, hagg, hv]
  simp [Instr.index, run_underlying ht, asIntOf, hn, sizeOf, typeInfo, hi, hs, hp, Sem.run_bind]
  omega
theorem byte_size : (Try.prog.info? 5).map (·.size) = some 1 := by kernel_rfl
theorem z256 : ((Try.prog.info? 47).bind (·.zero)).map (·.cells.size) = some (tbl.map fun n : Nat => (n : Int)).length := by kernel_rfl
theorem vec_ints (xs : List Nat) : ((xs.map fun n : Nat => (n : Int)).map (Value.int .u8)).toArray = vec xs := vec_of xs
set_option maxRecDepth 100000 in
set_option maxHeartbeats 1000000 in
theorem box_any (c : Nat) (w : World) (hc : c < 256) : Calls Try.prog 35 #[.int .u8 (c : Int)] w (Same w (.int .u8 ((box c : Nat) : Int))) := by
  obtain ⟨i0, hi0, hz0, hz1, hz2⟩ := info_parts byte_inf
  obtain ⟨T, hT⟩ : ∃ T, T = vec tbl := ⟨_, rfl⟩
  have hv : T[c]? = some (.int .u8 ((box c : Nat) : Int)) := by
    rw [hT]; exact vec_at (by rw [show tbl.length = 256 by decide +kernel]; exact hc)
  have HT := Lib.hid ((vec_ints tbl).trans hT.symm)
  have HV := Lib.hid hv
  have hu8 : (Instr.index 47 (.agg T) (.int .u8 (c : Int))).run Try.prog w = .ok (.int .u8 ((box c : Nat) : Int)) w := run_idxK w _ _ 256 .u8 .u8 i0 T c _ Try.underlying47 rfl hi0 hz1 hc hv
  generalize box c = z at *
  clear hT hv hi0 hz0 hz1 hz2
  go_enter Try.func35, Try.ntmps35
  go_wp2_with (first
    | ((refine wpList_buildFlatArr rfl 47 5 256 _ rfl .u8 (tbl.map fun n : Nat => (n : Int)) Try.underlying47 byte_size z256 (by kernel_rfl) ?_); rw [HT.out]))
  go_ret
  exact ⟨rfl, rfl⟩
end Go.Proofs.Ytknemkekmahdmaa.aesC
