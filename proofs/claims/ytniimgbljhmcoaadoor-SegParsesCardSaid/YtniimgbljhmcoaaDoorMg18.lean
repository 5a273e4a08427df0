/-
  3 texts of a proof, joined.
-/
import Derived.Test.YtniimgbljhmcoaaDoorMg17
import Derived.Lib.SlBytesConst
import Derived.Lib.AppendStr
import Derived.Test.YtniimgbljhmcoaaDoorMg5
import Derived.Test.YtniimgbljhmcoaaDoorMg1

/-
  Traffic keys: what Key of the code does.
-/
namespace Go.Proofs.YtniimgbljhmcoaaDoor.kdC
open Go.ChangeShapes Go.WideShapes Go.ChangeAt Go.RowKit
open Go.Proofs.YtniimgbljhmcoaaDoor.memC Go.Proofs.YtniimgbljhmcoaaDoor.genC Go.Proofs.YtniimgbljhmcoaaDoor.aesC Go.Proofs.YtniimgbljhmcoaaDoor.butC Go.Proofs.YtniimgbljhmcoaaDoor.freeC Go.Proofs.YtniimgbljhmcoaaDoor.partsC
set_option linter.unusedVariables false
theorem key_nil (w : World) : Key w none 0 0 [] := ⟨Nums.none_ 0, by simp, Nat.le_refl _, Nat.zero_le _⟩
theorem lit64 (w : World) (xs : List Int) (T : TypeId) : Nums .u64 (w.alloc (.cells (xs.map (Value.int .u64)).toArray T)) (w.alloc (.cells (xs.map (Value.int .u64)).toArray T)).heap.size (some ⟨w.heap.size, 0, none⟩) xs.length xs := by
  refine ⟨rfl, fun _ => ⟨_, 0, rfl, by rw [alloc_size]; exact Nat.lt_succ_self _, fun i hi => ?_⟩⟩
  rw [cell_of_row _ w.heap.size (0 + i) _ _ (0, 0) (heap_alloc_new w _)]
  simp [List.getD_eq_getElem?_getD, hi]
theorem numL_byte (s : Nat) (x : Int) : ∀ y ∈ octC.numL s x, Byte y := by
  induction s with
  | zero => simp [octC.numL]
  | succ s ih =>
    intro y hy
    rcases List.mem_cons.1 hy with rfl | h
    · unfold octC.byteAt Byte; omega
    · exact ih y h
theorem putL_byte {bs : List Int} (h : ∀ x ∈ bs, Byte x) (s : Nat) (ns : List Int) : ∀ y ∈ octC.putL bs s ns, Byte y := by
  intro y hy
  rcases List.mem_append.1 hy with h1 | h1
  · exact h y h1
  · obtain ⟨n, _, h2⟩ := List.mem_flatMap.1 h1
    exact numL_byte s n y h2
/-- some bytes that are the call's own, of a number of their own -/
def BytesRet (w : World) (N : Nat) (T : List Int) (e : Ending) (w' : World) : Prop := ∃ A c, e = .returned (.slice A N c) ∧ Own .u8 5 w' w.heap.size (.slice A N c) T ∧ Key w' A N c T ∧ Below w.heap.size w w'
theorem bytes_ret {w w' : World} {e : Ending} {v : Value} {N : Nat} {T : List Int} (he : e = .returned v) (O : Own .u8 5 w' w.heap.size v T) (B : Below w.heap.size w w') (hN : T.length = N) (hy : ∀ x ∈ T, Byte x) : BytesRet w N T e w' := by
  obtain ⟨A, c, rfl, h1, h2, N1⟩ := O.form
  rw [hN] at he O N1 h1
  exact ⟨A, c, he, O, ⟨N1, hy, h1, h2⟩, B⟩
theorem put_key {A : Option Addr} {n c : Nat} {P : Option Addr} {m c2 : Nat} {bs ns : List Int} {w : World} (s : Nat) (z : Int) (N : Nat) (T : List Int) (hz : (s : Int) = z) (hs : s ≤ 8) (hb : Key w A n c bs) (hns : Nums .u64 w w.heap.size P m ns) (hn : n ≤ 3000) (hm : m ≤ 300)
    (hT : octC.putL bs s ns = T) (hN : T.length = N) : Calls Tryd.prog 30 #[.slice A n c, .int .i64 z, .slice P m c2] w (BytesRet w N T) := by
  subst hz
  have e : octC.fitN (s : Int) = s := by unfold octC.fitN; omega
  refine (octC.put_any A n c s P m c2 bs ns w (by omega) (by omega) hb.nums hns hn hm).mono fun e' w' ⟨v, h1, h2, h3⟩ => ?_
  rw [e, hT] at h2
  exact bytes_ret h1 h2 h3 hN (by rw [← hT]; exact putL_byte hb.byte _ _)
theorem rput_key {A : Option Addr} {n c : Nat} {P : Option Addr} {m c2 : Nat} {bs ns : List Int} {w : World} (s : Nat) (z : Int) (N : Nat) (T : List Int) (hz : (s : Int) = z) (hs : s ≤ 8) (hb : Key w A n c bs) (hns : Nums .u64 w w.heap.size P m ns) (hn : n ≤ 9000) (hm : m ≤ 300)
    (hT : octC.putL bs s ns = T) (hN : T.length = N) : Calls Tryd.prog 67 #[.slice A n c, .int .i64 z, .slice P m c2] w (BytesRet w N T) := by
  subst hz
  have e : octC.fitN (s : Int) = s := by unfold octC.fitN; omega
  refine (octC.putref_any A n c s P m c2 bs ns w (by omega) (by omega) hb.nums hns hn hm).mono fun e' w' ⟨v, h1, h2, h3⟩ => ?_
  rw [e, hT] at h2
  exact bytes_ret h1 h2 h3 hN (by rw [← hT]; exact putL_byte hb.byte _ _)
end Go.Proofs.YtniimgbljhmcoaaDoor.kdC

/-
  append as an operation of a region that draws its order; literals of numbers.
-/
namespace Go.Proofs.YtniimgbljhmcoaaDoor.freeC
open Go.ChangeShapes Go.WideShapes Go.ChangeAt Go.RowKit
open Go.Proofs.YtniimgbljhmcoaaDoor.memC
set_option linter.unusedVariables false
/-- append(own, numbers...) as an operation of a region that draws its order; the operands as they are -/
theorem append_Jo {P : Program} {Q : Exit → Act → World → Prop} {R : Value → World → Prop} {fr : Act} {o : Oper} {w : World} {kd : IntKind} (s x : Operand) (t : TypeId) (ho : o.op = .call { callee := .builtin .append, args := #[s, x], argTypes := #[t, t] })
    (e : TypeId) (i : TypeInfo) (z : Value) (bytes : Nat) (ht : P.underlying t = some (.slice e)) (hi : P.info? e = some i) (hz : i.zero = some z)
    (hsize : i.size = 1) (hby : i.bytes = bytes) (hzs : z.cells.size = 1) (base : Nat) (v : Value) (xs : List Int) (hs : fr.eval s = v) (hown : Own kd e w base v xs)
    (B : Nat) (A : Option Addr) (m c : Nat) (news : List Int) (hx : fr.eval x = .slice A m c) (hr : Nums kd w B A m news) (h63 : xs.length + m ≤ maxLen) (hbytes : (xs.length + m) * bytes ≤ 140737488355328) (hbase : base ≤ w.heap.size) (L : Nat) (hL : xs.length + m = L)
    (h : ∀ A' c' w', L ≤ c' → c' ≤ maxLen → Own kd e w' base (.slice A' L c') (xs ++ news) → Below base w w' → R (.slice A' L c') w') : o.wp P fr w (fun a' w' => ∃ v, a' = fr.put o.dst v ∧ R v w') Q := by
  obtain ⟨v', w', hrun, h2, h3⟩ := run_app (P := P) w t o.type e i z bytes ht hi hz hsize hby hzs base v xs hown B A m c news hr h63 hbytes hbase
  have e : (xs ++ news).length = L := by rw [List.length_append, hr.len]; exact hL
  obtain ⟨A', c', e2, g1, g2, N⟩ := h2.form
  rw [e] at e2 g1 N
  subst e2
  unfold Oper.wp execOp
  simp only [ho, resolve, invoke, builtin, Sem.run_bind, Sem.run_pure, Result.andThen_ok, List.map_toArray, List.map_cons, List.map_nil, hs, hx, hrun]
  exact ⟨_, rfl, h A' c' w' g1 g2 h2 (grown_below h3 hbase fun g hg => (hown.blk g hg).1)⟩
theorem eval_tmp {fr : Act} {s : Nat} {v : Value} (h : fr.tmps[s]?.getD undef = v) : fr.eval (.tmp s) = v := by simpa only [Act.eval, Array.getD_eq_getD_getElem?] using h
/-- a literal of numbers, just laid -/
theorem lit_nums (k : IntKind) (w : World) (xs : List Int) (T : TypeId) (C : Array Value) (hC : C = (xs.map (Value.int k)).toArray) (n : Nat) (hn : xs.length = n) :
    Nums k (w.alloc (.cells C T)) (w.heap.size + 1) (some ⟨w.heap.size, 0, none⟩) n xs := by
  subst hC
  refine ⟨hn, fun _ => ⟨_, 0, rfl, Nat.lt_succ_self _, fun i hi => ?_⟩⟩
  have hi2 : i < xs.length := by omega
  rw [cell_of_row _ w.heap.size (0 + i) _ _ (0, 0) (heap_alloc_new w _)]
  simp [List.getD_eq_getElem?_getD, hi2]
end Go.Proofs.YtniimgbljhmcoaaDoor.freeC

/-
  Regions that draw their order: an operation behind a guard that may not be wanted.
-/
namespace Go.Proofs.YtniimgbljhmcoaaDoor.freeC
open Go.ChangeShapes Go.WideShapes Go.ChangeAt Go.RowKit
set_option linter.unusedVariables false
section
variable {P : Program} {L : List Oper} {Q : Exit → Act → World → Prop} {o : Oper} {a : Act} {tab : List (Option Nat)} {G : World → Prop} {V : Nat → Value → World → Prop} {i : Nat}
/-- an operation whose guard may say either -/
theorem step_cnd (need : List Nat) (hn : needs o need = true) {j t : Nat} (hg : o.guard = some (j, true)) (hj : j ∈ need) (hL : (L[j]?).bind (·.dst) = some t) (hl : tab.length = a.tmps.size) (ht : (tab[t]?).join = some j) (c : Bool)
    (hv : ∀ v w, V j v w → v = .bool c) (hu : c = false → ∀ w, V i undef w)
    (h : c = true → ∀ us w, G w → (∀ j, j ∈ need → V j (us j) w) → o.wp P (frame tab a us) w (fun a' w' => ∃ v, a' = (frame tab a us).put o.dst v ∧ G w' ∧ Below w.heap.size w w' ∧ V i v w') Q) : Step P L Q tab a G V i o := by
  intro m us w hG hV hd
  have hy := yield_at (L := L) (us := us) hl hL ht (hv _ _ (hV j (need_ok hn hd j hj)))
  cases c
  · rw [if_neg (by simp [Region.wanted, hg, hy])]
    exact hu rfl w
  · rw [if_pos (show Region.wanted o (yielded L.toArray (frame tab a us).tmps) = true by simp [Region.wanted, hg, hy])]
    exact h rfl us w hG fun j hj => hV j (need_ok hn hd j hj)
end
end Go.Proofs.YtniimgbljhmcoaaDoor.freeC
