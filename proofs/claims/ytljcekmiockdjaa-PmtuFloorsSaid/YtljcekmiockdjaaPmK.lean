/-
  A cache in memory that knows of the zero address, or of none: its map is looked up, put, deleted from, gone through.
-/
import Derived.Test.YtljcekmiockdjaaPmN
import Derived.Test.YtljcekmiockdjaaRtA
import Derived.Test.YtljcekmiockdjaaBut
import Derived.Maps.RangeRun
import Derived.RangeFuncSeq
import Derived.LaidEqlPtr
namespace Go.Proofs.Ytljcekmiockdjaa.pmC
open Go.ChangeShapes Go.WideShapes Go.ChangeAt Go.RowKit
open Go.Proofs.Ytljcekmiockdjaa.memC Go.Proofs.Ytljcekmiockdjaa.genC Go.Proofs.Ytljcekmiockdjaa.butC Go.Proofs.Ytljcekmiockdjaa.freeC Go.Proofs.Ytljcekmiockdjaa.adC
open Go.Maps (Keyed)
open Go.ChangeMaps Go.MapKept
set_option linter.unusedVariables false
def fV (m u : Int) : Array Value := #[.int .i64 m, .int .i64 u]
def ent : MapEntry := ⟨.agg zAdr, .agg (fV 576 600000), 0⟩
/-- what the map has: the zero address's, or nothing -/
def ents (q : Bool) : Array MapEntry := if q then #[ent] else #[]
def lk (q : Bool) : Array Value := if q then fV 576 600000 else fV 0 0
theorem adr_keyed : Keyed Try.prog 24 := Keyed.of_law (deep_law (m := 3) (by decide) (by kernel_rfl) (by kernel_rfl) (by rw [rtC.fields_adr]))
theorem adr_types : ∃ d, Try.prog.types.size + 1 = d + 3 := ⟨Try.prog.types.size - 2, by
  have : 3 ≤ Try.prog.types.size := by
    have h : decide (3 ≤ Try.prog.types.size) = true := by kernel_rfl
    exact of_decide_eq_true h
  omega⟩
theorem zAdr_list : zAdr.toList = rtC.adrK false (zs 16) := rfl
theorem adr_key : ∃ l, keyOf Try.prog 24 (.agg zAdr) = some l := by
  obtain ⟨d, hd⟩ := adr_types
  obtain ⟨l, hl⟩ := rtC.key_addr d false (zs_len 16) (fun x hx => by rw [List.eq_of_mem_replicate hx]; unfold Byte; omega)
  unfold keyOf
  rw [rtC.fields_adr]
  have h1 : Try.prog.keyType 24 = true := by kernel_rfl
  have h2 : (Value.agg zAdr).formed Try.prog 24 = true := by
    unfold Value.formed
    rw [rtC.fields_adr]
    simp only [rtC.cells_adr]
    rfl
  have h3 : (Value.agg zAdr).cells.toList = rtC.adrK false (zs 16) := by simp [Value.cells, zAdr_list]
  simp only [h1, h2, Bool.and_self, if_true, h3, hd, hl]
  exact ⟨_, rfl⟩
theorem fact_zero : (Try.prog.info? 48).map (·.zero) = some (some (.agg (fV 0 0))) := by kernel_rfl
theorem fact_info (m u : Int) : (Try.prog.info? 48).map (·.size) = some (fV m u).size := by
  have : (Try.prog.info? 48).map (·.size) = some 2 := by kernel_rfl
  exact this
theorem zeroFact (w : World) : (zeroValue 48).run Try.prog w = .ok (.agg (fV 0 0)) w := by
  obtain ⟨i, hi, hz⟩ := Option.map_eq_some_iff.1 fact_zero
  simp [zeroValue, typeInfo, hi, hz]
section
variable {w w' : World} {b : Nat} {q : Bool} {c : Nat}
theorem find_none (w : World) : (Instr.findKey 24 (.agg zAdr) (ents false).toList).run Try.prog w = .ok none w := by
  obtain ⟨l, hl⟩ := adr_key
  rcases adr_keyed.find w hl (ents false).toList (fun e he => by cases he) with ⟨h1, -⟩ | ⟨j, e, -, hj, -⟩
  · exact h1
  · cases hj
theorem find_one (w : World) : (Instr.findKey 24 (.agg zAdr) (ents true).toList).run Try.prog w = .ok (some (0, .agg (fV 576 600000))) w := by
  obtain ⟨l, hl⟩ := adr_key
  have hm : ∀ e ∈ (ents true).toList, e = ent := fun e he => by simpa [ents] using he
  rcases adr_keyed.find w hl (ents true).toList (fun e he => by rw [hm e he]; exact ⟨l, hl⟩) with ⟨-, hn⟩ | ⟨j, e, h1, hj, hk⟩
  · exact absurd rfl (hn ent (by simp [ents]))
  · have : j = 0 ∧ e = ent := by
      cases j with
      | zero => exact ⟨rfl, by simpa [ents] using hj.symm⟩
      | succ j => simp [ents] at hj
    obtain ⟨rfl, rfl⟩ := this
    exact h1
theorem run_look (h : w.heap[b]? = some (.map (ents q) c)) : (Instr.lookup 32 (.map (some b)) (.agg zAdr) true).run Try.prog w = .ok (.tuple #[.agg (lk q), .bool q]) w := by
  obtain ⟨l, hl⟩ := adr_key
  have hz := zeroFact w
  cases q
  · simp [Instr.lookup, run_underlying Try.underlying32, MapKept.run_getObj_map h, adr_keyed.check w _ hl, find_none w, hz, Result.andThen, lk]
  · simp [Instr.lookup, run_underlying Try.underlying32, MapKept.run_getObj_map h, adr_keyed.check w _ hl, find_one w, Result.andThen, lk]
theorem run_mlen (h : w.heap[b]? = some (.map (ents q) c)) (ty : TypeId) : (Builtin.len_ #[32] ty #[.map (some b)]).run Try.prog w = .ok (.int .i64 (if q then 1 else 0)) w := by
  cases q
  · simp [Builtin.len_, run_underlying Try.underlying32, MapKept.run_getObj_map h, Result.andThen, ents, goInt]
  · simp [Builtin.len_, run_underlying Try.underlying32, MapKept.run_getObj_map h, Result.andThen, ents, goInt]
theorem find_nil (w : World) : (Instr.findKey 24 (.agg zAdr) []).run Try.prog w = .ok none w := find_none w
theorem find_ent (w : World) : (Instr.findKey 24 (.agg zAdr) [ent]).run Try.prog w = .ok (some (0, .agg (fV 576 600000))) w := find_one w
theorem run_put (h : w.heap[b]? = some (.map (ents false) 0)) : (Instr.mapUpdate 32 (.map (some b)) (.agg zAdr) (.agg (fV 576 600000))).run Try.prog w = .ok () (setBlock w b (.map (ents true) 1)) := by
  obtain ⟨l, hl⟩ := adr_key
  simp [Instr.mapUpdate, run_underlying Try.underlying32, MapKept.run_getObj_map h, adr_keyed.check w false hl, find_nil w, MapKept.run_setObj_map _ h, Result.andThen, setBlock, ents]
  rfl
theorem run_del (h : w.heap[b]? = some (.map (ents true) 1)) (ty : TypeId) : (Builtin.delete_ #[32, 24] ty #[.map (some b), .agg zAdr]).run Try.prog w = .ok (.tuple #[]) (setBlock w b (.map (ents false) 1)) := by
  obtain ⟨l, hl⟩ := adr_key
  simp [Builtin.delete_, run_underlying Try.underlying32, MapKept.run_getObj_map h, adr_keyed.check w _ hl, find_ent w, MapKept.run_setObj_map _ h, Result.andThen, setBlock, ents]
theorem set_but (w : World) (b : Nat) (o : Obj) : But b w (setBlock w b o) := ⟨rfl, rfl, rfl, by simp [setBlock], fun g _ hn => by simp [setBlock, Ne.symm hn]⟩
theorem set_at {w : World} {b : Nat} (h : b < w.heap.size) (o : Obj) : (setBlock w b o).heap[b]? = some o := by simp [setBlock, h]
theorem wpList_putF {ops : Array Oper} {rest : List Oper} {o : Oper} {a : Act} {w : World} {Q : Exit → Act → World → Prop} (hg : o.guard = none) (x y z : Operand) (ho : o.op = .mapUpdate 32 x y z)
    {C : Array Value} (hx : a.eval x = .map (some b)) (hy : a.eval y = .agg C) (hz : a.eval z = .agg (fV 576 600000)) (hC : C = zAdr) (hM : w.heap[b]? = some (.map (ents false) 0))
    (h : ∀ w', w'.heap[b]? = some (.map (ents true) 1) → But b w w' → wpList Try.prog ops Q rest (a.put o.dst undef) w') : wpList Try.prog ops Q (o :: rest) a w := by
  subst hC
  refine wpList_plain hg fun K hK => ?_
  unfold Oper.wp
  simp [execOp, ho, hx, hy, hz, run_put hM, Result.andThen]
  exact hK _ _ (h _ (set_at (Array.getElem?_eq_some_iff.1 hM).1 _) (set_but _ _ _))
theorem wpList_delF {ops : Array Oper} {rest : List Oper} {o : Oper} {a : Act} {w : World} {Q : Exit → Act → World → Prop} (hg : o.guard = none) (x y : Operand) (ho : o.op = .call { callee := .builtin .delete, args := #[x, y], argTypes := #[32, 24] })
    {C : Array Value} (hx : a.eval x = .map (some b)) (hy : a.eval y = .agg C) (hC : C = zAdr) (hM : w.heap[b]? = some (.map (ents true) 1))
    (h : ∀ w', w'.heap[b]? = some (.map (ents false) 1) → But b w w' → wpList Try.prog ops Q rest (a.put o.dst (.tuple #[])) w') : wpList Try.prog ops Q (o :: rest) a w := by
  subst hC
  refine wpList_plain hg fun K hK => ?_
  unfold Oper.wp
  simp [execOp, ho, resolve, invoke, builtin, hx, hy, run_del hM o.type, Result.andThen]
  exact hK _ _ (h _ (set_at (Array.getElem?_eq_some_iff.1 hM).1 _) (set_but _ _ _))
/-! ### a range over the map -/
theorem wpList_rangeF {ops : Array Oper} {rest : List Oper} {o : Oper} {a : Act} {w : World} {Q : Exit → Act → World → Prop} (hg : o.guard = none) (m : Operand) (hop : o.op = Op.range 32 m) (hm : a.eval m = .map (some b)) (hM : w.heap[b]? = some (.map (ents true) 1))
    (h : ∀ w', w'.heap[w.heap.size]? = some (.mapIter (some b) 1 #[] 1) → Below w.heap.size w w' → wpList Try.prog ops Q rest (a.put o.dst (.pointer (some ⟨w.heap.size, 0, none⟩))) w') : wpList Try.prog ops Q (o :: rest) a w := by
  refine wpList_plain hg fun K hK => ?_
  have hrun := run_range_map w _ _ _ b (ents true) 1 Try.underlying32 hM
  unfold Oper.wp
  simp [execOp, hop, hm, hrun, Result.andThen]
  exact hK _ _ (h _ (MapKept.heap_alloc w _).1 (alloc_below _ _))
theorem wpList_next0 {ops : Array Oper} {rest : List Oper} {o : Oper} {a : Act} {w : World} {r : Nat} {Q : Exit → Act → World → Prop} (hg : o.guard = none) (it : Operand) (hop : o.op = Op.next it false) (hit : a.eval it = .pointer (some ⟨r, 0, none⟩)) (hne : b ≠ r)
    (hr : w.heap[r]? = some (.mapIter (some b) 1 #[] 1)) (hM : w.heap[b]? = some (.map (ents true) 1))
    (h : ∀ w', w'.heap[r]? = some (.mapIter (some b) 1 #[0] 1) → But r w w' → (Instr.entry (.pointer (some ⟨r, 0, none⟩))).run Try.prog w' = .ok (.tuple #[.agg zAdr, .agg (fV 576 600000)]) w' →
      wpList Try.prog ops Q rest (a.put o.dst (.tuple #[.bool true, .agg zAdr, .agg (fV 576 600000)])) w') : wpList Try.prog ops Q (o :: rest) a w := by
  refine wpList_plain hg fun K hK => ?_
  unfold Oper.wp
  have hold : ∀ x ∈ (ents true).toList, x.born < 1 := fun x hx => by
    have : x = ent := by simpa [ents] using hx
    rw [this]; exact Nat.zero_lt_one
  rcases run_next_at (P := Try.prog) w o.type r b 1 1 #[] (ents true) 1 hr hM hold (Nat.le_refl _) with ⟨h0, -⟩ | ⟨e, he, w1, hal, hrun⟩
  · simp [leftOf, ents, ent] at h0
  · have hm : e ∈ (ents true).toList := (mem_left he).1
    have hee : e = ent := by simpa [ents] using hm
    subst hee
    have hr1 : w1.heap[r]? = some (.mapIter (some b) 1 #[] 1) := by rcases hal with rfl | rfl <;> exact hr
    have hb1 : w1.heap[b]? = some (.map (ents true) 1) := by rcases hal with rfl | rfl <;> exact hM
    have hset := heap_set (o' := .mapIter (some b) 1 (#[].push ent.born) 1) hr1
    have hB : But r w (setBlock w1 r (.mapIter (some b) 1 (#[].push ent.born) 1)) := by
      have := set_but w1 r (.mapIter (some b) 1 (#[].push ent.born) 1)
      rcases hal with rfl | rfl <;> exact ⟨this.os, this.tape, this.output, this.size, this.block⟩
    have hent := run_entry_at (P := Try.prog) (setBlock w1 r (.mapIter (some b) 1 (#[].push ent.born) 1)) r b 1 #[] (ents true) 1 ent hset.1 ((hset.2 b hne).trans hb1) hm (by simp [ents])
    simp [execOp, hop, hit, hrun, Result.andThen]
    exact hK _ _ (h _ hset.1 hB hent)
theorem wpList_next1 {ops : Array Oper} {rest : List Oper} {o : Oper} {a : Act} {w : World} {r : Nat} {Q : Exit → Act → World → Prop} (hg : o.guard = none) (it : Operand) (hop : o.op = Op.next it false) (hit : a.eval it = .pointer (some ⟨r, 0, none⟩))
    (hr : w.heap[r]? = some (.mapIter (some b) 1 #[0] 1)) (hM : w.heap[b]? = some (.map (ents q) 1))
    (h : wpList Try.prog ops Q rest (a.put o.dst (.tuple #[.bool false])) w) : wpList Try.prog ops Q (o :: rest) a w := by
  refine wpList_plain hg fun K hK => ?_
  unfold Oper.wp
  have hold : ∀ x ∈ (ents q).toList, x.born < 1 := fun x hx => by
    cases q
    · cases hx
    · have : x = ent := by simpa [ents] using hx
      rw [this]; exact Nat.zero_lt_one
  rcases run_next_at (P := Try.prog) w o.type r b 1 1 #[0] (ents q) 1 hr hM hold (Nat.le_refl _) with ⟨-, hrun⟩ | ⟨e, he, w1, hal, hrun⟩
  · simp [execOp, hop, hit, hrun, Result.andThen]
    exact hK _ _ h
  · exfalso
    cases q <;> simp [leftOf, ents, ent] at he
theorem left0 {r : Nat} (hr : w.heap[r]? = some (.mapIter (some b) 1 #[] 1)) (hM : w.heap[b]? = some (.map (ents true) 1)) : w.rangeLeft b r = 1 := by
  simp only [World.rangeLeft, hM, hr]
  simp [leftOf, ents, ent]
theorem left1 {r : Nat} (hr : w.heap[r]? = some (.mapIter (some b) 1 #[0] 1)) (hM : w.heap[b]? = some (.map (ents q) 1)) : w.rangeLeft b r = 0 := by
  simp only [World.rangeLeft, hM, hr]
  cases q <;> simp [leftOf, ents, ent]
theorem row_two {A B : Array Value} {T U : TypeId} (w : World) : ((w.alloc (.cells A T)).alloc (.cells B U)).heap[w.heap.size]? = some (.cells A T (0, 0)) := ((alloc_below (w.alloc (.cells A T)) _).block _ (by simp)).trans (heap_alloc_new _ _)
theorem row_two2 {A B C : Array Value} {T U : TypeId} (w : World) : (((w.alloc (.cells A T)).alloc (.cells B U)).setRow w.heap.size C).heap[w.heap.size + 1]? = some (.cells B U (0, 0)) := by
  rw [setRow_other _ _ _ _ (by omega)]
  have := heap_alloc_new (w.alloc (.cells A T)) (.cells B U)
  rwa [show (w.alloc (.cells A T)).heap.size = w.heap.size + 1 by simp] at this
end
/-! ### a cache in memory -/
structure CC (w : World) (B t b : Nat) (n : Int) (q : Bool) (c : Nat) : Prop where
  row : w.heap[t]? = some (.cells #[.pointer (some ⟨t, 0, none⟩), .int .i64 1500, .int .i64 n, .map (some b)] 34 (0, 0))
  map : w.heap[b]? = some (.map (ents q) c)
  bt : B ≤ t
  bb : B ≤ b
section
variable {w w' : World} {B t b : Nat} {n : Int} {q : Bool} {c : Nat}
theorem CC.ne (h : CC w B t b n q c) : t ≠ b := by
  intro e
  have h1 := h.row
  rw [e, h.map] at h1; cases h1
theorem CC.lt (h : CC w B t b n q c) : t < w.heap.size := (Array.getElem?_eq_some_iff.1 h.row).1
theorem CC.ltb (h : CC w B t b n q c) : b < w.heap.size := (Array.getElem?_eq_some_iff.1 h.map).1
theorem CC.below (h : CC w B t b n q c) (hb : Below w.heap.size w w') : CC w' B t b n q c := ⟨(hb.block _ h.lt).trans h.row, (hb.block _ h.ltb).trans h.map, h.bt, h.bb⟩
theorem CC.self (h : CC w B t b n q c) : w.cell? ⟨t, 0, none⟩ = some (.pointer (some ⟨t, 0, none⟩)) := cell_of_row w t 0 _ _ (0, 0) h.row
theorem CC.own (h : CC w B t b n q c) : w.cell? ⟨t, 1, none⟩ = some (.int .i64 1500) := cell_of_row w t 1 _ _ (0, 0) h.row
theorem CC.now (h : CC w B t b n q c) : w.cell? ⟨t, 2, none⟩ = some (.int .i64 n) := cell_of_row w t 2 _ _ (0, 0) h.row
theorem CC.known (h : CC w B t b n q c) : w.cell? ⟨t, 3, none⟩ = some (.map (some b)) := cell_of_row w t 3 _ _ (0, 0) h.row
end
theorem cch_info : (Try.prog.info? 34).isSome = true := by kernel_rfl
set_option maxRecDepth 100000 in
theorem made_any (w : World) (B t b : Nat) (n : Int) (q : Bool) (c : Nat) (h : CC w B t b n q c) : Calls Try.prog 14 #[.pointer (some ⟨t, 0, none⟩)] w fun e w' => e = .returned (.bool true) ∧ w' = w := by
  have c0 := h.self
  obtain ⟨j, hj⟩ := Option.isSome_iff_exists.1 cch_info
  have he : (binOp .eql 31 (.pointer (some ⟨t, 0, none⟩)) (.pointer (some ⟨t, 0, none⟩))).run Try.prog w = .ok (.bool true) w := run_eql_ptr_same w _ Try.underlying31 hj
  clear h hj
  go_enter Try.func14, Try.ntmps14
  go_wp2
  go_ret
  exact ⟨rfl, rfl⟩
/-! ### caches that nobody made -/
def NM (w : World) (pv : Value) : Prop := pv = .pointer none ∨ ∃ t, pv = .pointer (some ⟨t, 0, none⟩) ∧ w.heap[t]? = some (.cells zCch 34 (0, 0))
theorem NM.below {w w' : World} {pv : Value} (h : NM w pv) (hb : Below w.heap.size w w') : NM w' pv := by
  rcases h with h | ⟨t, h, hr⟩
  · exact .inl h
  · exact .inr ⟨t, h, (hb.block _ (Array.getElem?_eq_some_iff.1 hr).1).trans hr⟩
theorem eql_nil_ptr {P : Program} (w : World) {tp te : TypeId} (a : Addr) (hp : P.underlying tp = some (.pointer te)) : (binOp .eql tp (.pointer none) (.pointer (some a))).run P w = .ok (.bool false) w := by
  have h : ∀ d : Nat, (Op.equalIn (d + 1) tp (.pointer none) (.pointer (some a))).run P w = .ok false w := fun d => by
    simp [Op.equalIn, run_underlying hp]
  simp only [binOp]
  simp [Op.equal, Op.maxDepth, h 9999]
set_option maxRecDepth 100000 in
theorem not_made (w : World) (pv : Value) (h : NM w pv) : Calls Try.prog 14 #[pv] w fun e w' => e = .returned (.bool false) ∧ w' = w := by
  rcases h with rfl | ⟨t, rfl, hr⟩
  · go_enter Try.func14, Try.ntmps14
    go_wp2_with go_skip
    go_ret
    exact ⟨rfl, rfl⟩
  · have c0 : w.cell? ⟨t, 0, none⟩ = some (.pointer none) := cell_of_row w t 0 _ _ (0, 0) hr
    have he := eql_nil_ptr (P := Try.prog) w ⟨t, 0, none⟩ Try.underlying31
    clear hr
    go_enter Try.func14, Try.ntmps14
    go_wp2_with go_skip
    go_ret
    exact ⟨rfl, rfl⟩
end Go.Proofs.Ytljcekmiockdjaa.pmC
