/-
  2 texts of a proof, joined.
-/
import Derived.Test.YtapcjgmijcpfiaaDoorMg5
import Derived.Lib.Split
import Derived.Lib.ParseIntB
import Derived.Lib.ItoaNum
import Derived.Deep.QuietTactic
import Derived.BigQuiet
import Derived.Laws.BitsAllLaws
import Derived.Great.BuildSlice
import Derived.Laws.CopyOwn
import Derived.Test.YtapcjgmijcpfiaaDoorMg7
import Derived.Test.YtapcjgmijcpfiaaDoorMg4

/-
  Whether an address may be, by the program and by the document; its bytes, and any bytes' address, by the document.
-/
namespace Go.Proofs.YtapcjgmijcpfiaaDoor.adC
open Go.ChangeShapes Go.WideShapes Go.ChangeAt Go.RowKit
open Go.Proofs.YtapcjgmijcpfiaaDoor.memC Go.Proofs.YtapcjgmijcpfiaaDoor.genC Go.Proofs.YtapcjgmijcpfiaaDoor.butC Go.Proofs.YtapcjgmijcpfiaaDoor.freeC Go.Proofs.YtapcjgmijcpfiaaDoor.txC
open Go.Proofs.YtapcjgmijcpfiaaDoor.partC (wpList_load_part run_load_part)
set_option linter.unusedVariables false
theorem eq_run {P : Program} {fr : Act} {o : Oper} {w : World} {T R : TypeId} {s x : Tmp} {A B : Array Value} {q : Bool} (ho : o.op = .binOp .eql T (.tmp s) (.tmp x) R) (hs : fr.tmps[s]?.getD undef = .agg A) (hx : fr.tmps[x]?.getD undef = .agg B)
    (hq : (Op.equalIn 10000 T (.agg A) (.agg B)).run P w = .ok q w) (hgd : P.eqGuardType P.depth T = false) : (execOp fr.eval o).run P w = .ok (.value (.bool q)) w := by
  unfold execOp
  rw [ho]
  go_simp
theorem built_run {P : Program} {fr : Act} {o : Oper} {w : World} {T : TypeId} {C : Array Value} (ho : o.op = .build T #[]) (hb : P.built T [] = some C) : (execOp fr.eval o).run P w = .ok (.value (.agg C)) w := by
  unfold execOp
  have h : (Instr.build T #[]).run P w = .ok (.agg C) w := run_build w T _ C hb
  simp [ho, h, Result.andThen_ok]
theorem loadp_run {P : Program} {fr : Act} {o : Oper} {w : World} {T : TypeId} {s : Tmp} {g q : Nat} (ho : o.op = .load T (.tmp s)) (hs : fr.tmps[s]?.getD undef = .pointer (some ⟨g, q, none⟩)) (l : List Value) (d : TypeDesc) (hc : ∀ j v, l[j]? = some v → w.cell? ⟨g, q + j, none⟩ = some v)
    (hu : P.underlying T = some d) (hd : (match d with | .struct _ | .array _ _ => true | _ => false) = true) (hi : (P.info? T).map (·.size) = some l.length) : (execOp fr.eval o).run P w = .ok (.value (.agg l.toArray)) w := by
  unfold execOp
  have hs' : fr.eval (.tmp s) = .pointer (some ⟨g, q, none⟩) := by simpa only [Act.eval, Array.getD_eq_getD_getElem?] using hs
  simp only [ho, hs', Instr.loadAt, Instr.sureAddr, Sem.run_bind, Sem.run_pure, Result.andThen_ok, run_load_part w g q T l d hc hu hd hi]
theorem zs_get {n j : Nat} (h : j < n) : (zs n)[j]? = some 0 := by unfold zs; rw [List.getElem?_replicate, if_pos h]
/-- some numbers are 0 from a place on -/
theorem drop_zero {b : List Int} (hl : b.length = 16) : (∀ j, 4 ≤ j → j < 16 → b.getD j 0 = 0) ↔ b.drop 4 = zs 12 := by
  constructor
  · intro h
    apply List.ext_getElem?
    intro j
    rw [List.getElem?_drop]
    by_cases hj : j < 12
    · have := h (4 + j) (by omega) (by omega)
      rw [List.getD_eq_getElem?_getD, List.getElem?_eq_getElem (by omega)] at this
      rw [List.getElem?_eq_getElem (by omega)]
      simp only [Option.getD_some] at this
      rw [this, zs_get hj]
    · rw [List.getElem?_eq_none (by omega), List.getElem?_eq_none (by rw [zs_len]; omega)]
  · intro h j h4 h16
    have h1 : (b.drop 4)[j - 4]? = (zs 12)[j - 4]? := by rw [h]
    rw [List.getElem?_drop, show 4 + (j - 4) = j by omega] at h1
    rw [List.getD_eq_getElem?_getD, h1, zs_get (by omega)]
    rfl
end Go.Proofs.YtapcjgmijcpfiaaDoor.adC

/-
  Packets as values: their cells, and how one that came in is opened.
-/
namespace Go.Proofs.YtapcjgmijcpfiaaDoor.pkC
open Go.ChangeShapes Go.WideShapes Go.ChangeAt Go.RowKit
open Go.Proofs.YtapcjgmijcpfiaaDoor.memC Go.Proofs.YtapcjgmijcpfiaaDoor.genC Go.Proofs.YtapcjgmijcpfiaaDoor.butC Go.Proofs.YtapcjgmijcpfiaaDoor.freeC Go.Proofs.YtapcjgmijcpfiaaDoor.adC
set_option linter.unusedVariables false
/-- a packet, but for its load -/
structure Pkt where
  s : Bool
  a : List Int
  t : Bool
  b : List Int
  proto : Int
  hops : Int
  id : Int
  whole : Bool
  more : Bool
  off : Int
def adrC (s : Bool) (b : List Int) : List Value := .bool s :: b.map (Value.int .u8)
/-- what is known of a packet's cells -/
structure PkC (C : Array Value) (p : Pkt) (A : Option Addr) (n c : Nat) : Prop where
  size : C.size = 41
  src : ∀ j v, (adrC p.s p.a)[j]? = some v → C[0 + j]? = some v
  dst : ∀ j v, (adrC p.t p.b)[j]? = some v → C[17 + j]? = some v
  proto : C[34]? = some (.int .u8 p.proto)
  hops : C[35]? = some (.int .u8 p.hops)
  id : C[36]? = some (.int .u32 p.id)
  whole : C[37]? = some (.bool p.whole)
  more : C[38]? = some (.bool p.more)
  off : C[39]? = some (.int .i64 p.off)
  load : C[40]? = some (.slice A n c)
theorem wpList_load_partG {P : Program} {ops : Array Oper} {rest : List Oper} {o : Oper} {a : Act} {w : World} {Q : Exit → Act → World → Prop} (hw : Region.wanted o (yielded ops a.tmps) = true) (ty : TypeId) (x : Operand) (ho : o.op = .load ty x)
    (g q : Nat) (hx : a.eval x = .pointer (some ⟨g, q, none⟩)) (l : List Value) (d : TypeDesc) (hc : ∀ j v, l[j]? = some v → w.cell? ⟨g, q + j, none⟩ = some v)
    (hu : P.underlying ty = some d) (hd : (match d with | .struct _ | .array _ _ => true | _ => false) = true) (hi : (P.info? ty).map (·.size) = some l.length)
    (h : wpList P ops Q rest (a.put o.dst (.agg l.toArray)) w) : wpList P ops Q (o :: rest) a w := by
  refine wpList_step fun K hK => ?_
  rw [if_pos hw]
  unfold Oper.wp execOp
  simp only [ho, hx, Instr.loadAt, Instr.sureAddr, Sem.run_bind, Sem.run_pure, Result.andThen_ok, partC.run_load_part w g q ty l d hc hu hd hi]
  exact hK _ _ h
/-- a block's cells, read -/
theorem PkC.cell {C : Array Value} {w : World} {g : Nat} {T : TypeId} (R : w.heap[g]? = some (.cells C T (0, 0))) {k : Nat} {v : Value} (h : C[k]? = some v) : w.cell? ⟨g, k, none⟩ = some v := by
  rw [cell_of_row w g k C T (0, 0) R]; exact h
section
variable {P : Program} {w : World} {r : Reach} {b0 : Nat} {t : TypeId}
end
end Go.Proofs.YtapcjgmijcpfiaaDoor.pkC
