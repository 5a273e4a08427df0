/-
  Addresses as values: their cells, '==' of two of them; results that are an address and a number.
-/
import Derived.Test.YtljcekmiockdjaaPart
import Derived.Test.YtljcekmiockdjaaFree
import Derived.Test.YtljcekmiockdjaaApp
import Derived.Test.YtljcekmiockdjaaBut
import Derived.Laws.StructEq
import Derived.Lib.Hide
namespace Go.Proofs.Ytljcekmiockdjaa.adC
open Go.ChangeShapes Go.WideShapes Go.ChangeAt Go.RowKit
open Go.Proofs.Ytljcekmiockdjaa.memC Go.Proofs.Ytljcekmiockdjaa.genC Go.Proofs.Ytljcekmiockdjaa.butC Go.Proofs.Ytljcekmiockdjaa.freeC
set_option linter.unusedVariables false
/-- a call's value, and that what was there stands -/
def Ret (w : World) (v : Value) (e : Ending) (w' : World) : Prop := e = .returned v ∧ Below w.heap.size w w'
theorem byte_inf : (Try.prog.info? 5).map (fun i => (i.zero, i.size, i.bytes)) = some (some (.int .u8 0), 1, 1) := by kernel_rfl
theorem b16_info : (Try.prog.info? 22).map (·.size) = some 16 := by kernel_rfl
theorem addr_info : (Try.prog.info? 24).map (·.size) = some 17 := by kernel_rfl
/-- what there was stands -/
def Gr (w0 w : World) : Prop := Below w0.heap.size w0 w
theorem lt_of_row {w : World} {g : Nat} {o : Obj} (h : w.heap[g]? = some o) : g < w.heap.size := by
  rcases Nat.lt_or_ge g w.heap.size with h' | h'
  · exact h'
  · rw [Array.getElem?_eq_none h'] at h; cases h
theorem Gr.below {w0 w w' : World} (h : Gr w0 w) (b : Below w.heap.size w w') : Gr w0 w' := Below.trans h (b.mono (Below.size h))
theorem Gr.row {w0 w : World} (h : Gr w0 w) {g : Nat} {o : Obj} (hg : w0.heap[g]? = some o) : w.heap[g]? = some o := by rw [Below.block h g (lt_of_row hg)]; exact hg
theorem Gr.mono {w0 w : World} {B : Nat} (h : Gr w0 w) (hB : B ≤ w0.heap.size) : Below B w0 w := Below.mono h hB
theorem gr_drew (w : World) : Gr w w.drew := (Below.refl _ _).drew
theorem results_cell_tmp {P : Program} {fn : Func} {p q : Tmp} {ty : TypeId} (h : fn.results = #[.cell p ty, .tmp q]) (tmps : Array Value) (w : World) (g : Nat) (t : TypeId) (cs : Array Value) (fr : Nat × Nat) (d : TypeDesc) (v : Value)
    (hp : tmps.getD p undef = .pointer (some ⟨g, 0, none⟩)) (hg : w.heap[g]? = some (.cells cs t fr)) (hu : P.underlying ty = some d) (hd : (match d with | .struct _ | .array _ _ => true | _ => false) = true) (hi : (P.info? ty).map (·.size) = some cs.size)
    (hp2 : tmps.getD q undef = v) :
    (results fn tmps).run P w = .ok (.tuple #[.agg cs, v]) w := by
  have hp' : tmps[p]?.getD undef = .pointer (some ⟨g, 0, none⟩) := by simpa using hp
  have hp2' : tmps[q]?.getD undef = v := by simpa using hp2
  simp [results, h, hp', hp2', asAddr, run_loadVar_row w g t ty cs fr d hg hu hd hi]
def vI (xs : List Int) : Array Value := (xs.map (Value.int .u8)).toArray
theorem vI_size (xs : List Int) : (vI xs).size = xs.length := by unfold vI; simp
theorem vI_at {xs : List Int} {j : Nat} (hj : j < xs.length) : (vI xs)[j]? = some (.int .u8 (xs.getD j 0)) := by unfold vI; simp [List.getD_eq_getElem?_getD, hj]
theorem run_each {P : Program} (w : World) (d : Nat) (e : TypeId) (K : IntKind) (xs ys : Array Value) (f g : Nat → Int) (he : P.underlying e = some (.int K)) :
    ∀ is : List Nat, (∀ j ∈ is, xs[j]? = some (.int K (f j)) ∧ ys[j]? = some (.int K (g j))) → (Op.eqItems (d + 1) e 1 xs ys is).run P w = .ok (is.all fun j => f j == g j) w
  | [], _ => by simp [Op.eqItems]
  | j :: is, h => by
    obtain ⟨hx, hy⟩ := h j (by simp)
    have hagg : (isAgg e).run P w = .ok false w := by
      unfold isAgg
      rw [Sem.run_bind, run_underlying he w]
      rfl
    have hp : (part e xs (j * 1)).run P w = .ok (.int K (f j)) w := by
      rw [Nat.mul_one]
      simp [part, Sem.run_bind, hagg, hx]
    have hp2 : (part e ys (j * 1)).run P w = .ok (.int K (g j)) w := by
      rw [Nat.mul_one]
      simp [part, Sem.run_bind, hagg, hy]
    have ih := run_each w d e K xs ys f g he is fun i hi => h i (by simp [hi])
    have hq := run_equalIn_int (P := P) w d e K K (f j) (g j) he
    by_cases hfg : f j = g j
    · have hb : (f j == g j) = true := beq_iff_eq.2 hfg
      simp only [Op.eqItems, Sem.run_bind, hp, hp2, Result.andThen_ok, hq, hb, Bool.not_true, Bool.false_eq_true, if_false, ih, List.all_cons, Bool.true_and]
    · have hb : (f j == g j) = false := beq_eq_false_iff_ne.2 hfg
      simp only [Op.eqItems, Sem.run_bind, hp, hp2, Result.andThen_ok, hq, hb, Bool.not_false, if_true, Sem.run_pure, List.all_cons, Bool.false_and]
/-- an address's cells -/
structure AddrC (cs : Array Value) (six : Bool) (bs : List Int) : Prop where
  size : cs.size = 17
  six : cs[0]? = some (.bool six)
  len : bs.length = 16
  at_ : ∀ i, i < 16 → cs[1 + i]? = some (.int .u8 (bs.getD i 0))
  byte : ∀ x ∈ bs, Byte x
/-- the bytes that an address has -/
def adrN (six : Bool) : Nat := if six then 16 else 4
def adrL (six : Bool) (bs : List Int) : List Int := bs.take (adrN six)
theorem adrN_le (six : Bool) : adrN six ≤ 16 := by cases six <;> decide
theorem adrL_len {six : Bool} {bs : List Int} (h : bs.length = 16) : (adrL six bs).length = adrN six := by unfold adrL; rw [List.length_take, h]; cases six <;> rfl
theorem cell_new (w : World) (cs : Array Value) (T : TypeId) (j : Nat) : (w.alloc (.cells cs T)).cell? ⟨w.heap.size, j, none⟩ = cs[j]? := cell_of_row _ _ j cs T (0, 0) (heap_alloc_new w _)
def adrV (s : Bool) (bs : List Int) : Array Value := (Value.bool s :: bs.map (Value.int .u8)).toArray
theorem adrV_size {s : Bool} {bs : List Int} (h : bs.length = 16) : (adrV s bs).size = 17 := by unfold adrV; simp [h]
theorem adrV_six (s : Bool) (bs : List Int) : (adrV s bs)[0]? = some (.bool s) := by simp [adrV]
theorem adrV_at {s : Bool} {bs : List Int} {i : Nat} (hi : i < bs.length) : (adrV s bs)[1 + i]? = some (.int .u8 (bs.getD i 0)) := by
  unfold adrV
  rw [List.getElem?_toArray, Nat.add_comm, List.getElem?_cons_succ]
  simp [List.getD_eq_getElem?_getD, hi]
theorem adrV_one (s : Bool) (bs : List Int) : (adrV s bs).all (·.oneCell') = true := by
  rw [Array.all_eq_true_iff_forall_mem]
  intro v hv
  simp [adrV] at hv
  rcases hv with rfl | ⟨z, _, rfl⟩ <;> rfl
theorem adrV_set {s : Bool} {bs : List Int} (j : Nat) (x : Int) : (adrV s bs).setIfInBounds (1 + j) (.int .u8 x) = adrV s (bs.set j x) := by
  unfold adrV
  rw [List.setIfInBounds_toArray, Nat.add_comm, List.set_cons_succ, List.map_set]
theorem AddrC.is {C : Array Value} {s : Bool} {bs : List Int} (h : AddrC C s bs) : C = adrV s bs := by
  apply Array.ext_getElem?
  intro j
  rcases Nat.lt_or_ge j 17 with hj | hj
  · rcases Nat.eq_zero_or_pos j with rfl | h0
    · rw [h.six, adrV_six]
    · have e : j = 1 + (j - 1) := by omega
      rw [e, h.at_ _ (by omega), adrV_at (by rw [h.len]; omega)]
  · rw [Array.getElem?_eq_none (by rw [h.size]; exact hj), Array.getElem?_eq_none (by rw [adrV_size h.len]; exact hj)]
theorem agg_of {P : Program} {t : TypeId} {d : TypeDesc} (hu : P.underlying t = some d) (hd : (match d with | .struct _ | .array _ _ => true | _ => false) = true) (w : World) : (isAgg t).run P w = .ok true w := by
  unfold isAgg
  rw [Sem.run_bind, run_underlying hu w]
  cases d <;> simp_all
theorem part_agg {P : Program} {t : TypeId} {d : TypeDesc} (hu : P.underlying t = some d) (hd : (match d with | .struct _ | .array _ _ => true | _ => false) = true) {n : Nat} (hi : (P.info? t).map (·.size) = some n) (cs : Array Value) (o : Nat) (w : World) :
    (part t cs o).run P w = .ok (.agg (cs.extract o (o + n))) w := by
  cases hq : P.info? t with
  | none => simp [hq] at hi
  | some i =>
    have hs : i.size = n := by simpa [hq] using hi
    simp [part, Sem.run_bind, agg_of hu hd, Go.sizeOf, typeInfo, hq, hs]
theorem part_one {P : Program} {t : TypeId} {d : TypeDesc} (hu : P.underlying t = some d) (hd : (match d with | .struct _ | .array _ _ => true | _ => false) = false) (cs : Array Value) (o : Nat) (v : Value) (hv : cs[o]? = some v) (w : World) :
    (part t cs o).run P w = .ok v w := by
  have hagg : (isAgg t).run P w = .ok false w := by
    unfold isAgg
    rw [Sem.run_bind, run_underlying hu w]
    cases d <;> simp_all
  simp [part, Sem.run_bind, hagg, hv]
theorem adr_six (s : Bool) (bs : List Int) : (adrV s bs)[0]? = some (.bool s) := by simp [adrV]
theorem adr_bytes {s : Bool} {bs : List Int} (h : bs.length = 16) : (adrV s bs).extract 1 (1 + 16) = vI bs := by
  apply Array.toList_inj.1
  unfold adrV vI
  rw [Array.toList_extract, List.extract_eq_take_drop]
  have e : (bs.map (Value.int .u8)).take 16 = bs.map (Value.int .u8) := List.take_of_length_le (by rw [List.length_map, h]; exact Nat.le_refl _)
  simpa using e
set_option maxRecDepth 100000 in
theorem eq16I {xs ys : List Int} (hx : xs.length = 16) (hy : ys.length = 16) (d : Nat) (w : World) : (Op.equalIn (d + 1 + 1) 22 (.agg (vI xs)) (.agg (vI ys))).run Try.prog w = .ok (decide (xs = ys)) w := by
  obtain ⟨i0, hi0, hz0, hz1, hz2⟩ := info_parts byte_inf
  rw [run_equalIn_array w _ (vI xs) (vI ys) Try.underlying22 hi0, show Try.prog.cellsOf 5 = 1 by kernel_rfl,
    run_each w _ _ .u8 (vI xs) (vI ys) (fun j => xs.getD j 0) (fun j => ys.getD j 0) rfl _ fun j hj => ⟨vI_at (by rw [hx]; exact List.mem_range.1 hj), vI_at (by rw [hy]; exact List.mem_range.1 hj)⟩]
  congr 1
  by_cases h : xs = ys
  · subst h
    simp
  · rw [decide_eq_false h]
    refine Bool.eq_false_iff.2 fun h2 => h ?_
    apply List.ext_getElem?
    intro j
    by_cases hj : j < 16
    · have := List.all_eq_true.1 h2 j (List.mem_range.2 hj)
      have h3 : xs.getD j 0 = ys.getD j 0 := beq_iff_eq.1 this
      rw [List.getD_eq_getElem?_getD, List.getD_eq_getElem?_getD, List.getElem?_eq_getElem (by omega), List.getElem?_eq_getElem (by omega)] at h3
      rw [List.getElem?_eq_getElem (by omega), List.getElem?_eq_getElem (by omega)]
      exact congrArg some h3
    · rw [List.getElem?_eq_none (by omega), List.getElem?_eq_none (by omega)]
def fSix : Field := { name := "Six", type := 4, offset := 0, embedded := false, tag := "", pkgPath := "", byteOffset := 0 }
def fB : Field := { name := "B", type := 22, offset := 1, embedded := false, tag := "", pkgPath := "", byteOffset := 1 }
theorem nSix : fSix.name ≠ "_" := by show ("Six" : String) ≠ "_"; decide
theorem nB : fB.name ≠ "_" := by show ("B" : String) ≠ "_"; decide
theorem fields_addr : (Try.prog.fieldsOf 24).toList = [fSix, fB] := by
  simp [Program.fieldsOf, Try.underlying24, fSix, fB]
theorem fields_two {P : Program} {d : Nat} {xs ys : Array Value} {f1 f2 : Field} {w : World} {a1 b1 a2 b2 : Value} {r1 r2 : Bool} (n1 : f1.name ≠ "_") (n2 : f2.name ≠ "_")
    (p1 : (part f1.type xs f1.offset).run P w = .ok a1 w) (p2 : (part f1.type ys f1.offset).run P w = .ok b1 w) (p3 : (part f2.type xs f2.offset).run P w = .ok a2 w) (p4 : (part f2.type ys f2.offset).run P w = .ok b2 w)
    (q1 : (Op.equalIn d f1.type a1 b1).run P w = .ok r1 w) (q2 : (Op.equalIn d f2.type a2 b2).run P w = .ok r2 w) : (Op.eqFields d xs ys [f1, f2]).run P w = .ok (r1 && r2) w := by
  cases r1 <;> cases r2 <;> simp [Op.eqFields, n1, n2, Sem.run_bind, p1, p2, p3, p4, q1, q2]
theorem is_addr : Try.prog.underlying 24 = some (.struct (Try.prog.fieldsOf 24)) := by simp [Program.fieldsOf, Try.underlying24]
theorem held_addr : Try.prog.stoodInHeld 24 = false := by kernel_rfl
theorem eq_addr {s s' : Bool} {b b' : List Int} (h : b.length = 16) (h' : b'.length = 16) (d : Nat) (w : World) :
    (Op.equalIn (d + 1 + 1 + 1) 24 (.agg (adrV s b)) (.agg (adrV s' b'))).run Try.prog w = .ok (decide (s = s' ∧ b = b')) w := by
  rw [run_equalIn_struct w _ _ _ _ is_addr held_addr, fields_addr]
  have p1 := part_one (P := Try.prog) Try.underlying4 rfl (adrV s b) 0 _ (adr_six s b) w
  have p2 := part_one (P := Try.prog) Try.underlying4 rfl (adrV s' b') 0 _ (adr_six s' b') w
  have p3 := part_agg (P := Try.prog) Try.underlying22 rfl b16_info (adrV s b) 1 w
  have p4 := part_agg (P := Try.prog) Try.underlying22 rfl b16_info (adrV s' b') 1 w
  rw [adr_bytes h] at p3
  rw [adr_bytes h'] at p4
  have q1 := run_equalIn_bool' w (d + 1) 4 s s' Try.underlying4
  have q2 := eq16I h h' d w
  rw [fields_two (f1 := fSix) (f2 := fB) nSix nB p1 p2 p3 p4 q1 q2]
  refine congrArg (fun q => Result.ok q w) ?_
  by_cases e1 : s = s' <;> by_cases e2 : b = b' <;> simp [e1, e2]
theorem eqa (s s' : Bool) (b b' : List Int) (h : b.length = 16) (h' : b'.length = 16) (w : World) : (Op.equalIn 10000 24 (.agg (adrV s b)) (.agg (adrV s' b'))).run Try.prog w = .ok (decide (s = s' ∧ b = b')) w :=
  eq_addr h h' 9997 w
theorem guard_addr : Try.prog.eqGuardType Try.prog.depth 24 = false := by kernel_rfl
def zs (n : Nat) : List Int := List.replicate n 0
theorem zs_len (n : Nat) : (zs n).length = n := by simp [zs]
def zAdr : Array Value := adrV false (zs 16)
theorem zAdr_info : (Try.prog.info? 24).map (·.zero) = some (some (.agg zAdr)) := by kernel_rfl
theorem zeroAdr (w : World) : (zeroValue 24).run Try.prog w = .ok (.agg zAdr) w := by
  obtain ⟨i, hi, hz⟩ := Option.map_eq_some_iff.1 zAdr_info
  simp [zeroValue, typeInfo, hi, hz]
theorem built_zero : Try.prog.built 24 [] = some zAdr := by kernel_rfl
theorem wpList_zero {P : Program} {ops : Array Oper} {rest : List Oper} {o : Oper} {a : Act} {w : World} {Q : Exit → Act → World → Prop} (hg : o.guard = none) (t : TypeId) (ho : o.op = .build t #[])
    (cells : Array Value) (hf : P.built t [] = some cells)
    (h : wpList P ops Q rest (a.put o.dst (.agg cells)) w) : wpList P ops Q (o :: rest) a w := by
  refine wpList_plain hg fun _ hK => ?_
  unfold Oper.wp execOp
  have hb : (Instr.build t #[]).run P w = .ok (.agg cells) w := run_build w t _ cells hf
  simp [ho, hb, Result.andThen_ok]
  exact hK _ _ h
theorem strOf_append (xs ys : List Int) : strOfNums xs ++ strOfNums ys = strOfNums (xs ++ ys) := by
  apply ByteArray.ext
  unfold strOfNums
  rw [ByteArray.data_append]
  simp
end Go.Proofs.Ytljcekmiockdjaa.adC
