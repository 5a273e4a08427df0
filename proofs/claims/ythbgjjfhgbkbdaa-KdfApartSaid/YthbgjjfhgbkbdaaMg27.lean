/-
  4 texts of a proof, joined.
-/
import Derived.Test.YthbgjjfhgbkbdaaMg26
import Derived.Laws.StructEq

/-
  Traffic keys: ends as values; '==' of two ends; what the inner function of KdfApart does.
-/
namespace Go.Proofs.Ythbgjjfhgbkbdaa.kdC
open Go.ChangeShapes Go.WideShapes Go.ChangeAt Go.RowKit
open Go.Proofs.Ythbgjjfhgbkbdaa.memC Go.Proofs.Ythbgjjfhgbkbdaa.genC Go.Proofs.Ythbgjjfhgbkbdaa.aesM Go.Proofs.Ythbgjjfhgbkbdaa.aesC Go.Proofs.Ythbgjjfhgbkbdaa.butC Go.Proofs.Ythbgjjfhgbkbdaa.freeC Go.Proofs.Ythbgjjfhgbkbdaa.partsC
set_option linter.unusedVariables false
/-- an end as a value -/
def endL (s : Bool) (bs : List Int) (p : Int) : List Value := .bool s :: (bs.map (Value.int .u8) ++ [.int .u16 p])
def endV (s : Bool) (bs : List Int) (p : Int) : Array Value := (endL s bs p).toArray
def adrV (s : Bool) (bs : List Int) : Array Value := (Value.bool s :: bs.map (Value.int .u8)).toArray
theorem endL_len {s : Bool} {bs : List Int} {p : Int} (h : bs.length = 16) : (endL s bs p).length = 18 := by simp [endL, h]
theorem endV_size {s : Bool} {bs : List Int} {p : Int} (h : bs.length = 16) : (endV s bs p).size = 18 := by unfold endV; rw [List.size_toArray, endL_len h]
theorem endV_six (s : Bool) (bs : List Int) (p : Int) : (endV s bs p)[0]? = some (.bool s) := by simp [endV, endL]
theorem endV_at {s : Bool} {bs : List Int} {p : Int} (h : bs.length = 16) {i : Nat} (hi : i < 16) : (endV s bs p)[1 + i]? = some (.int .u8 (bs.getD i 0)) := by
  unfold endV endL
  rw [List.getElem?_toArray, Nat.add_comm, List.getElem?_cons_succ, List.getElem?_append_left (by rw [List.length_map, h]; exact hi)]
  simp [List.getD_eq_getElem?_getD, h, hi]
theorem endV_port {s : Bool} {bs : List Int} {p : Int} (h : bs.length = 16) : (endV s bs p)[17]? = some (.int .u16 p) := by
  unfold endV endL
  rw [List.getElem?_toArray, List.getElem?_cons_succ, List.getElem?_append_right (by rw [List.length_map, h]; decide), List.length_map, h]
  rfl
theorem EndC.is {C : Array Value} {s : Bool} {bs : List Int} {p : Int} (h : EndC C s bs p) : C = endV s bs p := by
  apply Array.ext_getElem?
  intro j
  rcases Nat.lt_or_ge j 18 with hj | hj
  · rcases Nat.eq_zero_or_pos j with rfl | h0
    · rw [h.six, endV_six]
    · by_cases h17 : j = 17
      · subst h17; rw [h.port, endV_port h.len]
      · have e : j = 1 + (j - 1) := by omega
        rw [e, h.at_ _ (by omega), endV_at h.len (by omega)]
  · rw [Array.getElem?_eq_none (by rw [h.size]; exact hj), Array.getElem?_eq_none (by rw [endV_size h.len]; exact hj)]
theorem endV_set {s : Bool} {bs : List Int} {p : Int} (j : Nat) (x : Int) (hj : j < bs.length) : (endV s bs p).setIfInBounds (1 + j) (.int .u8 x) = endV s (bs.set j x) p := by
  unfold endV endL
  rw [List.setIfInBounds_toArray, Nat.add_comm, List.set_cons_succ, List.set_append_left _ _ (by rw [List.length_map]; exact hj), List.map_set]
theorem endV_one (s : Bool) (bs : List Int) (p : Int) : (endV s bs p).all (·.oneCell') = true := by
  rw [Array.all_eq_true_iff_forall_mem]
  intro v hv
  simp [endV, endL] at hv
  rcases hv with rfl | ⟨z, _, rfl⟩ | rfl <;> rfl
/-- the bytes behind the fourth made 0, up to the j-th -/
def mzL (bs : List Int) (j : Nat) : List Int := bs.take 4 ++ (List.replicate (j - 4) 0 ++ bs.drop j)
theorem mz_len {bs : List Int} {j : Nat} (h : bs.length = 16) (h4 : 4 ≤ j) (hj : j ≤ 16) : (mzL bs j).length = 16 := by
  unfold mzL
  rw [List.length_append, List.length_append, List.length_take, List.length_replicate, List.length_drop, h]; omega
theorem mz_four (bs : List Int) : mzL bs 4 = bs := by unfold mzL; simp
theorem mz_set {bs : List Int} {j : Nat} (h : bs.length = 16) (h4 : 4 ≤ j) (hj : j < 16) : (mzL bs j).set j 0 = mzL bs (j + 1) := by
  unfold mzL
  have e1 : (bs.take 4).length = 4 := by rw [List.length_take, h]; decide
  rw [List.set_append_right _ _ (by rw [e1]; exact h4), e1, List.set_append_right _ _ (by rw [List.length_replicate]; exact Nat.le_refl _), List.length_replicate, Nat.sub_self,
    List.drop_eq_getElem_cons (by rw [h]; exact hj), List.set_cons_zero, show j + 1 - 4 = (j - 4) + 1 by omega, List.replicate_succ']
  simp
/-- what of the bytes counts -/
def bareB (s : Bool) (bs : List Int) : List Int := if s then bs else mzL bs 16
theorem bare_len {s : Bool} {bs : List Int} (h : bs.length = 16) : (bareB s bs).length = 16 := by
  unfold bareB
  split
  · exact h
  · exact mz_len h (by decide) (Nat.le_refl _)
theorem bare_adr {s : Bool} {b b' : List Int} (h : b.length = 16) (h' : b'.length = 16) : bareB s b = bareB s b' ↔ adrL s b = adrL s b' := by
  unfold bareB adrL adrN
  cases s
  · show mzL b 16 = mzL b' 16 ↔ b.take 4 = b'.take 4
    unfold mzL
    rw [List.drop_of_length_le (by rw [h]; exact Nat.le_refl _), List.drop_of_length_le (by rw [h']; exact Nat.le_refl _)]
    exact ⟨fun e => List.append_cancel_right e, fun e => by rw [e]⟩
  · show b = b' ↔ b.take 16 = b'.take 16
    rw [List.take_of_length_le (by rw [h]; exact Nat.le_refl _), List.take_of_length_le (by rw [h']; exact Nat.le_refl _)]
section
theorem agg_of {P : Program} {t : TypeId} {d : TypeDesc} (hu : P.underlying t = some d) (hd : (match d with | .struct _ | .array _ _ => true | _ => false) = true) (w : World) : (isAgg t).run P w = .ok true w := by
  unfold isAgg
  rw [Sem.run_bind, run_underlying hu w]
  cases d <;> simp_all
theorem part_agg {P : Program} {t : TypeId} {d : TypeDesc} (hu : P.underlying t = some d) (hd : (match d with | .struct _ | .array _ _ => true | _ => false) = true) {n : Nat} (hi : (P.info? t).map (·.size) = some n) (cs : Array Value) (o : Nat) (w : World) :
    (part t cs o).run P w = .ok (.agg (cs.extract o (o + n))) w := by
  cases hq : P.info? t with
  | none => simp [hq] at hi
  | some i =>
    have hs : i.size = n := by simpa [hq] using hi
    simp [part, Sem.run_bind, agg_of hu hd, Go.sizeOf, typeInfo, hq, hs]
theorem part_one {P : Program} {t : TypeId} {d : TypeDesc} (hu : P.underlying t = some d) (hd : (match d with | .struct _ | .array _ _ => true | _ => false) = false) (cs : Array Value) (o : Nat) (v : Value) (hv : cs[o]? = some v) (w : World) :
    (part t cs o).run P w = .ok v w := by
  have hagg : (isAgg t).run P w = .ok false w := by
    unfold isAgg
    rw [Sem.run_bind, run_underlying hu w]
    cases d <;> simp_all
  simp [part, Sem.run_bind, hagg, hv]
theorem end_addr {s : Bool} {bs : List Int} {p : Int} (h : bs.length = 16) : (endV s bs p).extract 0 (0 + 17) = adrV s bs := by
  apply Array.toList_inj.1
  unfold endV endL adrV
  rw [Array.toList_extract, List.extract_eq_take_drop]
  simp [h]
theorem adr_six (s : Bool) (bs : List Int) : (adrV s bs)[0]? = some (.bool s) := by simp [adrV]
theorem adr_bytes {s : Bool} {bs : List Int} (h : bs.length = 16) : (adrV s bs).extract 1 (1 + 16) = vI bs := by
  apply Array.toList_inj.1
  unfold adrV vI
  rw [Array.toList_extract, List.extract_eq_take_drop]
  have e : (bs.map (Value.int .u8)).take 16 = bs.map (Value.int .u8) := List.take_of_length_le (by rw [List.length_map, h]; exact Nat.le_refl _)
  simpa using e
set_option maxRecDepth 100000 in
theorem eq16I {xs ys : List Int} (hx : xs.length = 16) (hy : ys.length = 16) (d : Nat) (w : World) : (Op.equalIn (d + 1 + 1) 32 (.agg (vI xs)) (.agg (vI ys))).run Try.prog w = .ok (decide (xs = ys)) w := by
  obtain ⟨i0, hi0, hz0, hz1, hz2⟩ := info_parts byte_inf
  rw [run_equalIn_array w _ (vI xs) (vI ys) Try.underlying32 hi0, show Try.prog.cellsOf 5 = 1 by kernel_rfl,
    run_each w _ _ .u8 (vI xs) (vI ys) (fun j => xs.getD j 0) (fun j => ys.getD j 0) rfl _ fun j hj => ⟨vI_at (by rw [hx]; exact List.mem_range.1 hj), vI_at (by rw [hy]; exact List.mem_range.1 hj)⟩]
  congr 1
  by_cases h : xs = ys
  · subst h
    simp
  · rw [decide_eq_false h]
    refine Bool.eq_false_iff.2 fun h2 => h ?_
    apply List.ext_getElem?
    intro j
    by_cases hj : j < 16
    · have := List.all_eq_true.1 h2 j (List.mem_range.2 hj)
      have h3 : xs.getD j 0 = ys.getD j 0 := beq_iff_eq.1 this
      rw [List.getD_eq_getElem?_getD, List.getD_eq_getElem?_getD, List.getElem?_eq_getElem (by omega), List.getElem?_eq_getElem (by omega)] at h3
      rw [List.getElem?_eq_getElem (by omega), List.getElem?_eq_getElem (by omega)]
      exact congrArg some h3
    · rw [List.getElem?_eq_none (by omega), List.getElem?_eq_none (by omega)]
def fSix : Field := { name := "Six", type := 4, offset := 0, embedded := false, tag := "", pkgPath := "", byteOffset := 0 }
def fB : Field := { name := "B", type := 32, offset := 1, embedded := false, tag := "", pkgPath := "", byteOffset := 1 }
def fAddr : Field := { name := "Addr", type := 34, offset := 0, embedded := false, tag := "", pkgPath := "", byteOffset := 0 }
def fPort : Field := { name := "Port", type := 35, offset := 17, embedded := false, tag := "", pkgPath := "", byteOffset := 18 }
theorem nSix : fSix.name ≠ "_" := by show ("Six" : String) ≠ "_"; decide
theorem nB : fB.name ≠ "_" := by show ("B" : String) ≠ "_"; decide
theorem nAddr : fAddr.name ≠ "_" := by show ("Addr" : String) ≠ "_"; decide
theorem nPort : fPort.name ≠ "_" := by show ("Port" : String) ≠ "_"; decide
theorem fields_end : (Try.prog.fieldsOf 37).toList = [fAddr, fPort] := by
  simp [Program.fieldsOf, Try.underlying37, fAddr, fPort]
theorem fields_addr : (Try.prog.fieldsOf 34).toList = [fSix, fB] := by
  simp [Program.fieldsOf, Try.underlying34, fSix, fB]
theorem fields_two {P : Program} {d : Nat} {xs ys : Array Value} {f1 f2 : Field} {w : World} {a1 b1 a2 b2 : Value} {r1 r2 : Bool} (n1 : f1.name ≠ "_") (n2 : f2.name ≠ "_")
    (p1 : (part f1.type xs f1.offset).run P w = .ok a1 w) (p2 : (part f1.type ys f1.offset).run P w = .ok b1 w) (p3 : (part f2.type xs f2.offset).run P w = .ok a2 w) (p4 : (part f2.type ys f2.offset).run P w = .ok b2 w)
    (q1 : (Op.equalIn d f1.type a1 b1).run P w = .ok r1 w) (q2 : (Op.equalIn d f2.type a2 b2).run P w = .ok r2 w) : (Op.eqFields d xs ys [f1, f2]).run P w = .ok (r1 && r2) w := by
  cases r1 <;> cases r2 <;> simp [Op.eqFields, n1, n2, Sem.run_bind, p1, p2, p3, p4, q1, q2]
theorem is_end : Try.prog.underlying 37 = some (.struct (Try.prog.fieldsOf 37)) := by simp [Program.fieldsOf, Try.underlying37]
theorem is_addr : Try.prog.underlying 34 = some (.struct (Try.prog.fieldsOf 34)) := by simp [Program.fieldsOf, Try.underlying34]
theorem held_end : Try.prog.stoodInHeld 37 = false := by kernel_rfl
theorem held_addr : Try.prog.stoodInHeld 34 = false := by kernel_rfl
theorem eq_addr {s s' : Bool} {b b' : List Int} (h : b.length = 16) (h' : b'.length = 16) (d : Nat) (w : World) :
    (Op.equalIn (d + 1 + 1 + 1) 34 (.agg (adrV s b)) (.agg (adrV s' b'))).run Try.prog w = .ok (decide (s = s' ∧ b = b')) w := by
  rw [run_equalIn_struct w _ _ _ _ is_addr held_addr, fields_addr]
  have p1 := part_one (P := Try.prog) Try.underlying4 rfl (adrV s b) 0 _ (adr_six s b) w
  have p2 := part_one (P := Try.prog) Try.underlying4 rfl (adrV s' b') 0 _ (adr_six s' b') w
  have p3 := part_agg (P := Try.prog) Try.underlying32 rfl b16_info (adrV s b) 1 w
  have p4 := part_agg (P := Try.prog) Try.underlying32 rfl b16_info (adrV s' b') 1 w
  rw [adr_bytes h] at p3
  rw [adr_bytes h'] at p4
  have q1 := run_equalIn_bool' w (d + 1) 4 s s' Try.underlying4
  have q2 := eq16I h h' d w
  rw [fields_two (f1 := fSix) (f2 := fB) nSix nB p1 p2 p3 p4 q1 q2]
  refine congrArg (fun q => Result.ok q w) ?_
  by_cases e1 : s = s' <;> by_cases e2 : b = b' <;> simp [e1, e2]
theorem eq_end {s s' : Bool} {b b' : List Int} {p p' : Int} (h : b.length = 16) (h' : b'.length = 16) (w : World) :
    (Op.equalIn 10000 37 (.agg (endV s b p)) (.agg (endV s' b' p'))).run Try.prog w = .ok (decide ((s = s' ∧ b = b') ∧ p = p')) w := by
  rw [show (10000 : Nat) = 9996 + 1 + 1 + 1 + 1 from rfl, run_equalIn_struct w _ _ _ _ is_end held_end, fields_end]
  have p1 := part_agg (P := Try.prog) Try.underlying34 rfl addr_info (endV s b p) 0 w
  have p2 := part_agg (P := Try.prog) Try.underlying34 rfl addr_info (endV s' b' p') 0 w
  have p3 := part_one (P := Try.prog) Try.underlying35 rfl (endV s b p) 17 _ (endV_port h) w
  have p4 := part_one (P := Try.prog) Try.underlying35 rfl (endV s' b' p') 17 _ (endV_port h') w
  rw [end_addr h] at p1
  rw [end_addr h'] at p2
  have q1 := eq_addr (s := s) (s' := s') h h' 9996 w
  have q2 := run_equalIn_int w (9996 + 1 + 1) 35 .u16 .u16 p p' Try.underlying35
  rw [fields_two (f1 := fAddr) (f2 := fPort) nAddr nPort p1 p2 p3 p4 q1 q2]
  refine congrArg (fun q => Result.ok q w) ?_
  by_cases e1 : s = s' ∧ b = b' <;> by_cases e2 : p = p' <;> simp [e1, e2]
end
theorem guard_end : Try.prog.eqGuardType Try.prog.depth 37 = false := by kernel_rfl
end Go.Proofs.Ythbgjjfhgbkbdaa.kdC

/-
  Traffic keys: what the inner function of KdfApart does.
-/
namespace Go.Proofs.Ythbgjjfhgbkbdaa.kdC
open Go.ChangeShapes Go.WideShapes Go.ChangeAt Go.RowKit
open Go.Proofs.Ythbgjjfhgbkbdaa.memC Go.Proofs.Ythbgjjfhgbkbdaa.genC Go.Proofs.Ythbgjjfhgbkbdaa.aesM Go.Proofs.Ythbgjjfhgbkbdaa.aesC Go.Proofs.Ythbgjjfhgbkbdaa.butC Go.Proofs.Ythbgjjfhgbkbdaa.freeC Go.Proofs.Ythbgjjfhgbkbdaa.partsC
set_option linter.unusedVariables false
def zEnd : Array Value := endV false (List.replicate 16 0) 0
theorem zEnd_size : zEnd.size = 18 := rfl
theorem zeroEnd_info : (Try.prog.info? 37).map (·.zero) = some (some (.agg zEnd)) := by kernel_rfl
theorem zeroEnd (w : World) : (zeroValue 37).run Try.prog w = .ok (.agg zEnd) w := by
  obtain ⟨i, hi, hz⟩ := Option.map_eq_some_iff.1 zeroEnd_info
  simp [zeroValue, typeInfo, hi, hz]
/-- the box is turned up to its j-th byte -/
structure BX (w : World) (Z : Array Value) (b : List Int) (p : Int) (j : Nat) (wr : World) : Prop where
  row : wr.heap[w.heap.size]? = some (.cells (endV false (mzL b j) p) 37 (0, 0))
  res : wr.heap[w.heap.size + 1]? = some (.cells Z 37 (0, 0))
  bel : Below w.heap.size w wr
theorem BX.step {w wr : World} {Z : Array Value} {b : List Int} {p : Int} {j : Nat} (h : BX w Z b p j wr) (hb : b.length = 16) (h4 : 4 ≤ j) (hj : j < 16) : BX w Z b p (j + 1) (wr.setCell ⟨w.heap.size, 1 + j, none⟩ (.int .u8 0)) := by
  refine ⟨?_, by rw [heap_setCell_other wr ⟨w.heap.size, 1 + j, none⟩ _ _ (fun e => by simp at e)]; exact h.res, h.bel.setCell (p := ⟨w.heap.size, 1 + j, none⟩) (Nat.le_refl _) _⟩
  rw [heap_setCell_same wr w.heap.size (1 + j) _ 37 _ h.row, endV_set j 0 (by rw [mz_len hb h4 (by omega)]; exact hj), mz_set hb h4 hj]
set_option maxRecDepth 100000 in
set_option maxHeartbeats 1000000 in
theorem bare_any (C : Array Value) (s : Bool) (b : List Int) (p : Int) (w : World) (h : EndC C s b p) :
    Calls Try.prog 19 #[.agg C] w (Ret w (.agg (endV s (bareB s b) p))) := by
  have hl := h.len
  have hC := h.is
  obtain ⟨Z, hZ⟩ : ∃ Z, Z = zEnd := ⟨_, rfl⟩
  have hzv := zeroEnd
  rw [← hZ] at hzv
  obtain ⟨V, hV⟩ : ∃ V, V = endV s (bareB s b) p := ⟨_, rfl⟩
  have UV := Lib.hid (show (Try.prog.info? 37).map (·.size) = some V.size by rw [end_info, hV, endV_size (bare_len hl)])
  have ZV := Lib.hid (show Z.size = V.size by rw [hZ, hV, endV_size (bare_len hl)]; rfl)
  have OV := Lib.hid (show V.all (·.oneCell') = true by rw [hV]; exact endV_one _ _ _)
  have e1 : (w.alloc (.cells C 37)).heap.size = w.heap.size + 1 := alloc_size _ _
  obtain ⟨W, hW⟩ : ∃ W, W = (w.alloc (.cells C 37)).alloc (.cells Z 37) := ⟨_, rfl⟩
  have G1 : W.heap[w.heap.size]? = some (.cells C 37 (0, 0)) := by rw [hW, Below.block (alloc_below _ _) _ (by rw [e1]; omega)]; exact heap_alloc_new w _
  have G2 : W.heap[w.heap.size + 1]? = some (.cells Z 37 (0, 0)) := by rw [hW, ← e1]; exact heap_alloc_new _ _
  have BW : Below w.heap.size w W := by rw [hW]; exact ((Below.refl _ _).alloc (Nat.le_refl _) _).alloc (by simp) _
  have k1 : W.cell? ⟨w.heap.size, 0, none⟩ = some (.bool s) := by rw [cell_of_row W _ 0 _ _ (0, 0) G1]; exact h.six
  have HB := Lib.hid BW
  have HG2 := Lib.hid G2
  have HV := Lib.hid hV
  rw [← hV]
  cases s
  · have K0 := Lib.hid (show BX w Z b p 4 W from ⟨by rw [mz_four, ← hC]; exact G1, G2, BW⟩)
    have HL := Lib.hid hl
    clear hZ hV BW G1 G2 h hC hl
    go_enter Try.func19, Try.ntmps19
    go_upto_region 1 with fail
    try rw [e1]
    rw [← hW]
    clear hW e1 hzv
    go_wp2_with fail
    go_loopw [3] (fun i wr => ∃ j : Nat, 4 ≤ j ∧ j ≤ 16 ∧ i = .int .i64 j ∧ BX w Z b p j wr) (fun i _ => 16 - (intOf i).toNat)
    case atStart => exact ⟨4, by omega, by omega, rfl, K0.out⟩
    case round =>
      obtain ⟨j, h4, hj, rfl, KK⟩ := hrel
      by_cases hlt : j < 16
      · have cw : wr.cell? ⟨w.heap.size, 1 + j, none⟩ = some (.int .u8 ((mzL b j).getD j 0)) := by rw [cell_of_row wr _ _ _ _ (0, 0) KK.row, endV_at (mz_len HL.out h4 hj) hlt]
        have fw : wr.frozen? ⟨w.heap.size, 1 + j, none⟩ = false := frozen_of_row wr w.heap.size (1 + j) _ 37 KK.row
        have hjz : (j : Int) < 16 := by omega
        have HS := Lib.hid (KK.step HL.out h4 hlt)
        generalize (mzL b j).getD j 0 = x at *
        clear KK k1
        go_wp2_with fail
        go_roundw
        case rel => exact ⟨j + 1, by omega, by omega, by go_num, HS.out⟩
        case measure => simp [intOf]; omega
      · have e : j = 16 := by omega
        subst e
        have R1 := Lib.hid (show wr.heap[w.heap.size]? = some (.cells V 37 (0, 0)) by rw [HV.out]; exact KK.row)
        have R2 := Lib.hid KK.res
        have BQ := Lib.hid KK.bel
        clear KK k1
        go_wp2_with (first
          | (refine wpList_load_row rfl 37 (.tmp 1) rfl w.heap.size rfl _ _ _ _ R1.out Try.underlying37 rfl UV.out ?_)
          | (refine wpList_store_row rfl 37 (.tmp 2) (.tmp 16) rfl (w.heap.size + 1) _ rfl rfl _ _ R2.out UV.out ZV.out OV.out ?_))
        refine bodyPost_ret (v := .agg V) (results_cell_row Try.results19 _ _ (w.heap.size + 1) _ _ _ _ (by rfl) (setRow_heap _ _ _ _ _ _ R2.out) Try.underlying37 rfl UV.out) rfl ⟨rfl, ?_⟩
        exact below_setRow BQ.out (by omega) _
  · have R1 := Lib.hid (show W.heap[w.heap.size]? = some (.cells V 37 (0, 0)) by rw [HV.out]; show _ = some (Obj.cells (endV true b p) _ _); rw [← hC]; exact G1)
    clear hZ hV BW G1 G2 h hC hl
    go_enter Try.func19, Try.ntmps19
    go_upto_region 1 with fail
    try rw [e1]
    rw [← hW]
    clear hW e1 hzv
    go_wp2_with (first
      | (refine wpList_load_row rfl 37 (.tmp 1) rfl w.heap.size rfl _ _ _ _ R1.out Try.underlying37 rfl UV.out ?_)
      | (refine wpList_store_row rfl 37 (.tmp 2) (.tmp 16) rfl (w.heap.size + 1) _ rfl rfl _ _ HG2.out UV.out ZV.out OV.out ?_))
    refine bodyPost_ret (v := .agg V) (results_cell_row Try.results19 _ _ (w.heap.size + 1) _ _ _ _ (by rfl) (setRow_heap _ _ _ _ _ _ HG2.out) Try.underlying37 rfl UV.out) rfl ⟨rfl, ?_⟩
    exact below_setRow HB.out (by omega) _
end Go.Proofs.Ythbgjjfhgbkbdaa.kdC

/-
  Traffic keys: the walk of KdfApart.
-/
namespace Go.Proofs.Ythbgjjfhgbkbdaa.kdC
open Go.ChangeShapes Go.WideShapes Go.ChangeAt Go.RowKit
open Go.Proofs.Ythbgjjfhgbkbdaa.memC Go.Proofs.Ythbgjjfhgbkbdaa.genC Go.Proofs.Ythbgjjfhgbkbdaa.aesM Go.Proofs.Ythbgjjfhgbkbdaa.aesC Go.Proofs.Ythbgjjfhgbkbdaa.butC Go.Proofs.Ythbgjjfhgbkbdaa.freeC Go.Proofs.Ythbgjjfhgbkbdaa.partsC
set_option linter.unusedVariables false
section
variable {P : Program} {L : List Oper} {Q : Exit → Act → World → Prop} {o : Oper} {a : Act} {tab : List (Option Nat)} {G : World → Prop} {V : Nat → Value → World → Prop} {i : Nat}
/-- an operation whose guard may say either -/
theorem step_cond (need : List Nat) (hn : needs o need = true) {j t : Nat} (hg : o.guard = some (j, true)) (hj : j ∈ need) (hL : (L[j]?).bind (·.dst) = some t) (hl : tab.length = a.tmps.size) (ht : (tab[t]?).join = some j) (c : Bool)
    (hv : ∀ v w, V j v w → v = .bool c) (hu : c = false → ∀ w, V i undef w)
    (h : c = true → ∀ us w, G w → (∀ j, j ∈ need → V j (us j) w) → o.wp P (frame tab a us) w (fun a' w' => ∃ v, a' = (frame tab a us).put o.dst v ∧ G w' ∧ Below w.heap.size w w' ∧ V i v w') Q) : Step P L Q tab a G V i o := by
  intro m us w hG hV hd
  have hy := yield_at (L := L) (us := us) hl hL ht (hv _ _ (hV j (need_ok hn hd j hj)))
  cases c
  · rw [if_neg (by simp [Region.wanted, hg, hy])]
    exact hu rfl w
  · rw [if_pos (show Region.wanted o (yielded L.toArray (frame tab a us).tmps) = true by simp [Region.wanted, hg, hy])]
    exact h rfl us w hG fun j hj => hV j (need_ok hn hd j hj)
end
theorem eq_run {P : Program} {fr : Act} {o : Oper} {w : World} {T R : TypeId} {s x : Tmp} {A B : Array Value} {q : Bool} (ho : o.op = .binOp .eql T (.tmp s) (.tmp x) R) (hs : fr.tmps[s]?.getD undef = .agg A) (hx : fr.tmps[x]?.getD undef = .agg B)
    (hq : (Op.equalIn 10000 T (.agg A) (.agg B)).run P w = .ok q w) (hgd : P.eqGuardType P.depth T = false) : (execOp fr.eval o).run P w = .ok (.value (.bool q)) w := by
  unfold execOp
  rw [ho]
  go_simp
theorem ent_bare (cap : Array Value) (w : World) : (callFunc 19 cap).run Try.prog w = .ok (.enter 19 cap) w := by go_simp
theorem str_inj {xs ys : List Int} (hx : ∀ x ∈ xs, Byte x) (hy : ∀ x ∈ ys, Byte x) (h : strOfNums xs = strOfNums ys) : xs = ys := by
  have back : ∀ zs : List Int, (∀ x ∈ zs, Byte x) → (strOfNums zs).data.toList.map (fun u : UInt8 => (u.toNat : Int)) = zs := by
    intro zs hz
    rw [strOfNums_data, List.map_map]
    refine (List.map_congr_left fun x hx => ?_).trans (List.map_id _)
    obtain ⟨h1, h2⟩ := hz x hx
    have h3 : x.toNat < 256 := by omega
    show ((UInt8.ofNat x.toNat).toNat : Int) = x
    rw [UInt8.toNat_ofNat_of_lt' h3]; omega
  rw [← back xs hx, ← back ys hy, h]
theorem num2_inj {x y : Int} (hx0 : 0 ≤ x) (hx : x ≤ 65535) (hy0 : 0 ≤ y) (hy : y ≤ 65535) (h : octC.numL 2 x = octC.numL 2 y) : x = y := by
  simp [octC.numL, octC.byteAt] at h
  omega
theorem num4_inj {x y : Int} (hx0 : 0 ≤ x) (hx : x ≤ 4294967295) (hy0 : 0 ≤ y) (hy : y ≤ 4294967295) (h : octC.numL 4 x = octC.numL 4 y) : x = y := by
  simp [octC.numL, octC.byteAt] at h
  omega
theorem ctx_byte {s : Bool} {b1 b2 : List Int} (p1 p2 i1 i2 : Int) (h1 : ∀ x ∈ b1, Byte x) (h2 : ∀ x ∈ b2, Byte x) : ∀ x ∈ ctxL s b1 b2 p1 p2 i1 i2, Byte x := by
  refine putL_byte (putL_byte (fun x hx => ?_) _ _) _ _
  rcases List.mem_append.1 hx with h | h
  · exact h1 x (List.mem_of_mem_take h)
  · exact h2 x (List.mem_of_mem_take h)
/-- contexts of other ends, or numbers, are others -/
theorem ctx_apart {C1 C2 D1 D2 : Array Value} {s t : Bool} {b1 b2 d1 d2 : List Int} {p1 p2 r1 r2 i0 i1 i2 i3 : Int} (h1 : EndC C1 s b1 p1) (h2 : EndC C2 s b2 p2) (g1 : EndC D1 t d1 r1) (g2 : EndC D2 t d2 r2)
    (a0 : 0 ≤ i0) (m0 : i0 ≤ 4294967295) (a1 : 0 ≤ i1) (m1 : i1 ≤ 4294967295) (a2 : 0 ≤ i2) (m2 : i2 ≤ 4294967295) (a3 : 0 ≤ i3) (m3 : i3 ≤ 4294967295) :
    ctxL s b1 b2 p1 p2 i0 i1 = ctxL t d1 d2 r1 r2 i2 i3 ↔ (((((s = t ∧ bareB s b1 = bareB t d1) ∧ p1 = r1) ∧ ((s = t ∧ bareB s b2 = bareB t d2) ∧ p2 = r2)) ∧ i0 = i2) ∧ i1 = i3) := by
  constructor
  · intro h
    have hs : s = t := by
      have hl := congrArg List.length h
      rw [ctxL_len _ _ _ _ h1.len h2.len, ctxL_len _ _ _ _ g1.len g2.len] at hl
      cases s <;> cases t <;> simp [adrN] at hl ⊢
    subst hs
    rw [ctxL_is, ctxL_is] at h
    obtain ⟨e1, h⟩ := List.append_inj h (by rw [adrL_len h1.len, adrL_len g1.len])
    obtain ⟨e2, h⟩ := List.append_inj h (by rw [adrL_len h2.len, adrL_len g2.len])
    obtain ⟨e3, h⟩ := List.append_inj h (by rw [octC.numL_len, octC.numL_len])
    obtain ⟨e4, h⟩ := List.append_inj h (by rw [octC.numL_len, octC.numL_len])
    obtain ⟨e5, e6⟩ := List.append_inj h (by rw [octC.numL_len, octC.numL_len])
    exact ⟨⟨⟨⟨⟨rfl, (bare_adr h1.len g1.len).2 e1⟩, num2_inj h1.p0 h1.p1 g1.p0 g1.p1 e3⟩, ⟨rfl, (bare_adr h2.len g2.len).2 e2⟩, num2_inj h2.p0 h2.p1 g2.p0 g2.p1 e4⟩, num4_inj a0 m0 a2 m2 e5⟩, num4_inj a1 m1 a3 m3 e6⟩
  · rintro ⟨⟨⟨⟨⟨rfl, e1⟩, rfl⟩, ⟨_, e2⟩, rfl⟩, rfl⟩, rfl⟩
    rw [ctxL_is, ctxL_is, (bare_adr h1.len g1.len).1 e1, (bare_adr h2.len g2.len).1 e2]
/-- the same with the four tests -/
theorem apart_q {A B C D : Prop} {T T' : List Int} {q1 q2 q3 q4 : Bool} [Decidable A] [Decidable B] (h : T = T' ↔ (((A ∧ B) ∧ C) ∧ D)) [Decidable (T = T')] (h1 : q1 = decide A) (h2 : q2 = decide B) (h3 : q3 = true ↔ C) (h4 : q4 = true ↔ D) : decide (T = T') = (((q1 && q2) && q3) && q4) := by
  rw [Bool.eq_iff_iff]
  simp only [decide_eq_true_eq, Bool.and_eq_true, h, h1, h2, h3, h4]
def ApV (g1 g2 g3 : Nat) (C1 C2 D1 D2 A1 A2 B1 B2 : Array Value) (i0 i1 i2 i3 : Int) (q1 q2 q3 q4 : Bool) : Nat → Value → World → Prop
  | 0, v, _ => v = .func (.func 19) #[] #[]
  | 1, v, _ => v = .pointer (some ⟨g1, 0, none⟩)
  | 2, v, _ => v = .agg C1
  | 3, v, _ => v = .agg A1
  | 4, v, _ => v = .func (.func 19) #[] #[]
  | 5, v, _ => v = .pointer (some ⟨g2, 0, none⟩)
  | 6, v, _ => v = .agg D1
  | 7, v, _ => v = .agg B1
  | 8, v, _ => v = .bool q1
  | 9, v, _ => v = .bool q1
  | 10, v, _ => q1 = true → v = .func (.func 19) #[] #[]
  | 11, v, _ => q1 = true → v = .pointer (some ⟨g1, 18, none⟩)
  | 12, v, _ => q1 = true → v = .agg C2
  | 13, v, _ => q1 = true → v = .agg A2
  | 14, v, _ => q1 = true → v = .func (.func 19) #[] #[]
  | 15, v, _ => q1 = true → v = .pointer (some ⟨g2, 18, none⟩)
  | 16, v, _ => q1 = true → v = .agg D2
  | 17, v, _ => q1 = true → v = .agg B2
  | 18, v, _ => q1 = true → v = .bool q2
  | 19, v, _ => v = .bool (q1 && q2)
  | 20, v, _ => v = .bool (q1 && q2)
  | 21, v, _ => (q1 && q2) = true → v = .pointer (some ⟨g3, 0, none⟩)
  | 22, v, _ => (q1 && q2) = true → v = .int .u32 i0
  | 23, v, _ => (q1 && q2) = true → v = .pointer (some ⟨g3, 2, none⟩)
  | 24, v, _ => (q1 && q2) = true → v = .int .u32 i2
  | 25, v, _ => (q1 && q2) = true → v = .bool q3
  | 26, v, _ => v = .bool ((q1 && q2) && q3)
  | 27, v, _ => v = .bool ((q1 && q2) && q3)
  | 28, v, _ => ((q1 && q2) && q3) = true → v = .pointer (some ⟨g3, 1, none⟩)
  | 29, v, _ => ((q1 && q2) && q3) = true → v = .int .u32 i1
  | 30, v, _ => ((q1 && q2) && q3) = true → v = .pointer (some ⟨g3, 3, none⟩)
  | 31, v, _ => ((q1 && q2) && q3) = true → v = .int .u32 i3
  | 32, v, _ => ((q1 && q2) && q3) = true → v = .bool q4
  | 33, v, _ => v = .bool (((q1 && q2) && q3) && q4)
  | 34, v, _ => v = .bool (((q1 && q2) && q3) && q4)
  | _, _, _ => True
theorem ApV.keep (g1 g2 g3 : Nat) (C1 C2 D1 D2 A1 A2 B1 B2 : Array Value) (i0 i1 i2 i3 : Int) (q1 q2 q3 q4 : Bool) (i : Nat) (v : Value) (w w' : World) (hb : Below w.heap.size w w') (h : ApV g1 g2 g3 C1 C2 D1 D2 A1 A2 B1 B2 i0 i1 i2 i3 q1 q2 q3 q4 i v w) : ApV g1 g2 g3 C1 C2 D1 D2 A1 A2 B1 B2 i0 i1 i2 i3 q1 q2 q3 q4 i v w' := by
  unfold ApV at h ⊢
  split at h <;> exact h
def ApT : List (Option Nat) := [none, none, none, none, none, none, none, none, none, none, none, none, some 34, none, none, none, none, none, none, none, none, none, none, none, none, none, none, none, none, none, none, none, none, none, none, none, none, none, none, none, none, none, none, none, some 0, some 1, some 2, some 3, some 4, some 5, some 6, some 7, some 8, some 9, some 10, some 11, some 12, some 13, some 14, some 15, some 16, some 17, some 18, some 19, some 20, some 21, some 22, some 23, some 24, some 25, some 26, some 27, some 28, some 29, some 30, some 31, some 32, some 33, none, none, none, none, none, none, none, none, none, none]
set_option maxRecDepth 100000 in
set_option maxHeartbeats 1000000 in
theorem apart_not (cp cq C1 C2 D1 D2 : Array Value) (s1 s2 t1 t2 : Bool) (b1 b2 d1 d2 : List Int) (p1 p2 r1 r2 i0 i1 i2 i3 : Int) (w : World) (hp : PairC cp C1 C2) (hq : PairC cq D1 D2) (h1 : EndC C1 s1 b1 p1) (h2 : EndC C2 s2 b2 p2) (g1 : EndC D1 t1 d1 r1) (g2 : EndC D2 t2 d2 r2)
    (a0 : 0 ≤ i0) (m0 : i0 ≤ 4294967295) (a1 : 0 ≤ i1) (m1 : i1 ≤ 4294967295) (a2 : 0 ≤ i2) (m2 : i2 ≤ 4294967295) (a3 : 0 ≤ i3) (m3 : i3 ≤ 4294967295) (hE : s1 ≠ s2 ∨ t1 ≠ t2) :
    Calls Try.prog 8 #[.agg cp, .agg cq, .agg #[.int .u32 i0, .int .u32 i1, .int .u32 i2, .int .u32 i3]] w (AliveRet w) := by
  have KA := Lib.hid (fun w' => ctx_any C1 C2 s1 s2 b1 b2 p1 p2 i0 i1 w' h1 h2 a0 m0 a1 m1)
  have KB := Lib.hid (fun w' => ctx_any D1 D2 t1 t2 d1 d2 r1 r2 i2 i3 w' g1 g2 a2 m2 a3 m3)
  have EE : ctxE s1 s2 = 1 ∨ ctxE t1 t2 = 1 := by unfold ctxE; rcases hE with h | h <;> simp [h]
  have EA : ctxE s1 s2 = 0 ∨ ctxE s1 s2 = 1 := by unfold ctxE; by_cases h : s1 = s2 <;> simp [h]
  have EB : ctxE t1 t2 = 0 ∨ ctxE t1 t2 = 1 := by unfold ctxE; by_cases h : t1 = t2 <;> simp [h]
  generalize ctxX s1 s2 b1 b2 p1 p2 i0 i1 = T1 at *
  generalize ctxX t1 t2 d1 d2 r1 r2 i2 i3 = T2 at *
  generalize ctxE s1 s2 = E1 at *
  generalize ctxE t1 t2 = E2 at *
  have e1 : (w.alloc (.cells cp 39)).heap.size = w.heap.size + 1 := alloc_size _ _
  have e2 : ((w.alloc (.cells cp 39)).alloc (.cells cq 39)).heap.size = w.heap.size + 2 := by rw [alloc_size, e1]
  obtain ⟨I, hI⟩ : ∃ I, I = #[Value.int .u32 i0, .int .u32 i1, .int .u32 i2, .int .u32 i3] := ⟨_, rfl⟩
  rw [← hI]
  obtain ⟨W, hW⟩ : ∃ W, W = ((w.alloc (.cells cp 39)).alloc (.cells cq 39)).alloc (.cells I 49) := ⟨_, rfl⟩
  have G1 : W.heap[w.heap.size]? = some (.cells cp 39 (0, 0)) := by rw [hW, Below.block (alloc_below _ _) _ (by rw [e2]; omega), Below.block (alloc_below _ _) _ (by rw [e1]; omega)]; exact heap_alloc_new w _
  have G2 : W.heap[w.heap.size + 1]? = some (.cells cq 39 (0, 0)) := by rw [hW, Below.block (alloc_below _ _) _ (by rw [e2]; omega), ← e1]; exact heap_alloc_new _ _
  have G3 : W.heap[w.heap.size + 2]? = some (.cells I 49 (0, 0)) := by rw [hW, ← e2]; exact heap_alloc_new _ _
  have HBW0 := Lib.hid (show Below w.heap.size w W by rw [hW]; exact (((Below.refl _ _).alloc (Nat.le_refl _) _).alloc (by simp) _).alloc (by rw [e2]; omega) _)
  have UC1 := Lib.hid (show (Try.prog.info? 37).map (·.size) = some C1.size by rw [end_info, hp.z1])
  have UC2 := Lib.hid (show (Try.prog.info? 37).map (·.size) = some C2.size by rw [end_info, hp.z2])
  have UD1 := Lib.hid (show (Try.prog.info? 37).map (·.size) = some D1.size by rw [end_info, hq.z1])
  have UD2 := Lib.hid (show (Try.prog.info? 37).map (·.size) = some D2.size by rw [end_info, hq.z2])
  have CL1 := Lib.hid (fun (w' : World) (hG : Gr W w') (j : Nat) (v : Value) (hv : C1[j]? = some v) => (show w'.cell? ⟨w.heap.size, 0 + j, none⟩ = some v by rw [cell_of_row w' _ _ _ _ (0, 0) (hG.row G1)]; exact hp.c1 j v hv))
  have CL2 := Lib.hid (fun (w' : World) (hG : Gr W w') (j : Nat) (v : Value) (hv : C2[j]? = some v) => (show w'.cell? ⟨w.heap.size, 18 + j, none⟩ = some v by rw [cell_of_row w' _ _ _ _ (0, 0) (hG.row G1)]; exact hp.c2 j v hv))
  have DL1 := Lib.hid (fun (w' : World) (hG : Gr W w') (j : Nat) (v : Value) (hv : D1[j]? = some v) => (show w'.cell? ⟨w.heap.size + 1, 0 + j, none⟩ = some v by rw [cell_of_row w' _ _ _ _ (0, 0) (hG.row G2)]; exact hq.c1 j v hv))
  have DL2 := Lib.hid (fun (w' : World) (hG : Gr W w') (j : Nat) (v : Value) (hv : D2[j]? = some v) => (show w'.cell? ⟨w.heap.size + 1, 18 + j, none⟩ = some v by rw [cell_of_row w' _ _ _ _ (0, 0) (hG.row G2)]; exact hq.c2 j v hv))
  have N0 := Lib.hid (fun (w' : World) (hG : Gr W w') => (show w'.cell? ⟨w.heap.size + 2, 0, none⟩ = some (.int .u32 i0) by rw [cell_of_row w' _ _ _ _ (0, 0) (hG.row G3), hI]; rfl))
  have N1 := Lib.hid (fun (w' : World) (hG : Gr W w') => (show w'.cell? ⟨w.heap.size + 2, 1, none⟩ = some (.int .u32 i1) by rw [cell_of_row w' _ _ _ _ (0, 0) (hG.row G3), hI]; rfl))
  have N2 := Lib.hid (fun (w' : World) (hG : Gr W w') => (show w'.cell? ⟨w.heap.size + 2, 2, none⟩ = some (.int .u32 i2) by rw [cell_of_row w' _ _ _ _ (0, 0) (hG.row G3), hI]; rfl))
  have N3 := Lib.hid (fun (w' : World) (hG : Gr W w') => (show w'.cell? ⟨w.heap.size + 2, 3, none⟩ = some (.int .u32 i3) by rw [cell_of_row w' _ _ _ _ (0, 0) (hG.row G3), hI]; rfl))
  clear h1 h2 g1 g2 hp hq G1 G2 G3 hI hE
  go_enter Try.func8, Try.ntmps8
  go_upto_region 1 with fail
  try rw [e2]
  try rw [e1]
  rw [← hW]
  clear hW e1 e2
  have n0 := N0.out W (Below.refl _ _)
  have n1 := N1.out W (Below.refl _ _)
  have X1 := Lib.hid (CL1.out W (Below.refl _ _))
  have X2 := Lib.hid (CL2.out W (Below.refl _ _))
  go_upto_region 2 with (first
    | (refine wpList_load_piece rfl 37 (.tmp 14) rfl w.heap.size 0 rfl C1 _ X1.out Try.underlying37 rfl UC1.out ?_)
    | (refine wpList_load_piece rfl 37 (.tmp 16) rfl w.heap.size 18 rfl C2 _ X2.out Try.underlying37 rfl UC2.out ?_)
    | (go_at_call 15; (with_reducible refine (KA.out _).mono ?_); rintro e w1 ⟨A3, n3, c3, rfl, K3, B3⟩))
  clear n0 n1 X1 X2
  have n2 := N2.out w1 B3
  have n3 := N3.out w1 B3
  have X3 := Lib.hid (DL1.out w1 B3)
  have X4 := Lib.hid (DL2.out w1 B3)
  have HB3 := Lib.hid B3
  clear B3
  go_upto_region 3 with (first
    | (refine wpList_load_piece rfl 37 (.tmp 26) rfl (w.heap.size + 1) 0 rfl D1 _ X3.out Try.underlying37 rfl UD1.out ?_)
    | (refine wpList_load_piece rfl 37 (.tmp 28) rfl (w.heap.size + 1) 18 rfl D2 _ X4.out Try.underlying37 rfl UD2.out ?_)
    | (go_at_call 15; (with_reducible refine (KB.out _).mono ?_); rintro e w2 ⟨A4, n4, c4, rfl, K4, B4⟩))
  clear n2 n3 X3 X4
  have HB4 := Lib.hid (HBW0.out.trans ((HB3.out.trans (B4.mono HB3.out.size)).mono HBW0.out.size))
  clear B4 KA KB
  rcases EA with rfl | rfl <;> rcases EB with rfl | rfl
  all_goals try (exfalso; rcases EE with h | h <;> cases h; done)
  all_goals
    clear EE
    go_wp2_with (first
      | (go_at_call 10; refine (alive_any _).mono ?_; rintro e w9 ⟨rfl, B9⟩))
    go_ret
    exact ⟨rfl, HB4.out.trans (B9.mono HB4.out.size)⟩
set_option maxRecDepth 100000 in
set_option maxHeartbeats 2000000 in
theorem apart_ok (cp cq C1 C2 D1 D2 : Array Value) (s t : Bool) (b1 b2 d1 d2 : List Int) (p1 p2 r1 r2 i0 i1 i2 i3 : Int) (w : World) (hp : PairC cp C1 C2) (hq : PairC cq D1 D2) (h1 : EndC C1 s b1 p1) (h2 : EndC C2 s b2 p2) (g1 : EndC D1 t d1 r1) (g2 : EndC D2 t d2 r2)
    (a0 : 0 ≤ i0) (m0 : i0 ≤ 4294967295) (a1 : 0 ≤ i1) (m1 : i1 ≤ 4294967295) (a2 : 0 ≤ i2) (m2 : i2 ≤ 4294967295) (a3 : 0 ≤ i3) (m3 : i3 ≤ 4294967295) :
    Calls Try.prog 8 #[.agg cp, .agg cq, .agg #[.int .u32 i0, .int .u32 i1, .int .u32 i2, .int .u32 i3]] w (AliveRet w) := by
  obtain ⟨T1, hT1⟩ : ∃ T, T = ctxL s b1 b2 p1 p2 i0 i1 := ⟨_, rfl⟩
  obtain ⟨T2, hT2⟩ : ∃ T, T = ctxL t d1 d2 r1 r2 i2 i3 := ⟨_, rfl⟩
  have KA := Lib.hid (fun w' => ctx_same C1 C2 s b1 b2 p1 p2 i0 i1 w' h1 h2 a0 m0 a1 m1)
  have KB := Lib.hid (fun w' => ctx_same D1 D2 t d1 d2 r1 r2 i2 i3 w' g1 g2 a2 m2 a3 m3)
  rw [← hT1] at KA
  rw [← hT2] at KB
  obtain ⟨q1, hq1⟩ : ∃ q, q = decide ((s = t ∧ bareB s b1 = bareB t d1) ∧ p1 = r1) := ⟨_, rfl⟩
  obtain ⟨q2, hq2⟩ : ∃ q, q = decide ((s = t ∧ bareB s b2 = bareB t d2) ∧ p2 = r2) := ⟨_, rfl⟩
  obtain ⟨q3, hq3⟩ : ∃ q, q = (i0 == i2) := ⟨_, rfl⟩
  obtain ⟨q4, hq4⟩ : ∃ q, q = (i1 == i3) := ⟨_, rfl⟩
  obtain ⟨U1, hU1⟩ : ∃ U, U = strOfNums T1 := ⟨_, rfl⟩
  obtain ⟨U2, hU2⟩ : ∃ U, U = strOfNums T2 := ⟨_, rfl⟩
  obtain ⟨q, hqq⟩ : ∃ q, q = decide (T1 = T2) := ⟨_, rfl⟩
  have QQ := Lib.hid (show q = (((q1 && q2) && q3) && q4) by
    rw [hqq]
    exact apart_q (by rw [hT1, hT2]; exact ctx_apart h1 h2 g1 g2 a0 m0 a1 m1 a2 m2 a3 m3) hq1 hq2 (by rw [hq3]; exact beq_iff_eq) (by rw [hq4]; exact beq_iff_eq))
  have y1 : ∀ x ∈ T1, Byte x := by rw [hT1]; exact ctx_byte _ _ _ _ h1.byte h2.byte
  have y2 : ∀ x ∈ T2, Byte x := by rw [hT2]; exact ctx_byte _ _ _ _ g1.byte g2.byte
  have hUU : U1 = U2 ↔ T1 = T2 := by rw [hU1, hU2]; exact ⟨str_inj y1 y2, fun h => by rw [h]⟩
  have hUL : U1.toList = U2.toList ↔ U1 = U2 := ⟨fun h => by
    rw [ByteArray.toList_eq, ByteArray.toList_eq] at h
    exact ByteArray.ext (Array.toList_inj.1 h), fun h => by rw [h]⟩
  have SE1 := Lib.hid (show (U1.toList == U2.toList) = q by
    rw [hqq, Bool.eq_iff_iff, beq_iff_eq, decide_eq_true_eq]; exact hUL.trans hUU)
  have SE2 := Lib.hid (show (U1 == U2) = q by rw [beq_toListBytes]; exact SE1.out)
  obtain ⟨A1, hA1⟩ : ∃ A, A = endV s (bareB s b1) p1 := ⟨_, rfl⟩
  obtain ⟨A2, hA2⟩ : ∃ A, A = endV s (bareB s b2) p2 := ⟨_, rfl⟩
  obtain ⟨B1, hB1⟩ : ∃ A, A = endV t (bareB t d1) r1 := ⟨_, rfl⟩
  obtain ⟨B2, hB2⟩ : ∃ A, A = endV t (bareB t d2) r2 := ⟨_, rfl⟩
  have BC1 := Lib.hid (fun w' => (show Calls Try.prog 19 #[.agg C1] w' (Ret w' (.agg A1)) by rw [hA1]; exact bare_any C1 s b1 p1 w' h1))
  have BC2 := Lib.hid (fun w' => (show Calls Try.prog 19 #[.agg C2] w' (Ret w' (.agg A2)) by rw [hA2]; exact bare_any C2 s b2 p2 w' h2))
  have BD1 := Lib.hid (fun w' => (show Calls Try.prog 19 #[.agg D1] w' (Ret w' (.agg B1)) by rw [hB1]; exact bare_any D1 t d1 r1 w' g1))
  have BD2 := Lib.hid (fun w' => (show Calls Try.prog 19 #[.agg D2] w' (Ret w' (.agg B2)) by rw [hB2]; exact bare_any D2 t d2 r2 w' g2))
  have EQ1 := Lib.hid (show ∀ w, (Op.equalIn 10000 37 (.agg A1) (.agg B1)).run Try.prog w = .ok q1 w from fun w => by rw [hA1, hB1, hq1]; exact eq_end (bare_len h1.len) (bare_len g1.len) w)
  have EQ2 := Lib.hid (show ∀ w, (Op.equalIn 10000 37 (.agg A2) (.agg B2)).run Try.prog w = .ok q2 w from fun w => by rw [hA2, hB2, hq2]; exact eq_end (bare_len h2.len) (bare_len g2.len) w)
  have EQ3 := Lib.hid hq3.symm
  have EQ4 := Lib.hid hq4.symm
  have EU1 := Lib.hid hU1
  have EU2 := Lib.hid hU2
  have e1 : (w.alloc (.cells cp 39)).heap.size = w.heap.size + 1 := alloc_size _ _
  have e2 : ((w.alloc (.cells cp 39)).alloc (.cells cq 39)).heap.size = w.heap.size + 2 := by rw [alloc_size, e1]
  obtain ⟨I, hI⟩ : ∃ I, I = #[Value.int .u32 i0, .int .u32 i1, .int .u32 i2, .int .u32 i3] := ⟨_, rfl⟩
  rw [← hI]
  obtain ⟨W, hW⟩ : ∃ W, W = ((w.alloc (.cells cp 39)).alloc (.cells cq 39)).alloc (.cells I 49) := ⟨_, rfl⟩
  have G1 : W.heap[w.heap.size]? = some (.cells cp 39 (0, 0)) := by rw [hW, Below.block (alloc_below _ _) _ (by rw [e2]; omega), Below.block (alloc_below _ _) _ (by rw [e1]; omega)]; exact heap_alloc_new w _
  have G2 : W.heap[w.heap.size + 1]? = some (.cells cq 39 (0, 0)) := by rw [hW, Below.block (alloc_below _ _) _ (by rw [e2]; omega), ← e1]; exact heap_alloc_new _ _
  have G3 : W.heap[w.heap.size + 2]? = some (.cells I 49 (0, 0)) := by rw [hW, ← e2]; exact heap_alloc_new _ _
  have HBW0 := Lib.hid (show Below w.heap.size w W by rw [hW]; exact (((Below.refl _ _).alloc (Nat.le_refl _) _).alloc (by simp) _).alloc (by rw [e2]; omega) _)
  have UC1 := Lib.hid (show (Try.prog.info? 37).map (·.size) = some C1.size by rw [end_info, hp.z1])
  have UC2 := Lib.hid (show (Try.prog.info? 37).map (·.size) = some C2.size by rw [end_info, hp.z2])
  have UD1 := Lib.hid (show (Try.prog.info? 37).map (·.size) = some D1.size by rw [end_info, hq.z1])
  have UD2 := Lib.hid (show (Try.prog.info? 37).map (·.size) = some D2.size by rw [end_info, hq.z2])
  have CL1 := Lib.hid (fun (w' : World) (hG : Gr W w') (j : Nat) (v : Value) (hv : C1[j]? = some v) => (show w'.cell? ⟨w.heap.size, 0 + j, none⟩ = some v by rw [cell_of_row w' _ _ _ _ (0, 0) (hG.row G1)]; exact hp.c1 j v hv))
  have CL2 := Lib.hid (fun (w' : World) (hG : Gr W w') (j : Nat) (v : Value) (hv : C2[j]? = some v) => (show w'.cell? ⟨w.heap.size, 18 + j, none⟩ = some v by rw [cell_of_row w' _ _ _ _ (0, 0) (hG.row G1)]; exact hp.c2 j v hv))
  have DL1 := Lib.hid (fun (w' : World) (hG : Gr W w') (j : Nat) (v : Value) (hv : D1[j]? = some v) => (show w'.cell? ⟨w.heap.size + 1, 0 + j, none⟩ = some v by rw [cell_of_row w' _ _ _ _ (0, 0) (hG.row G2)]; exact hq.c1 j v hv))
  have DL2 := Lib.hid (fun (w' : World) (hG : Gr W w') (j : Nat) (v : Value) (hv : D2[j]? = some v) => (show w'.cell? ⟨w.heap.size + 1, 18 + j, none⟩ = some v by rw [cell_of_row w' _ _ _ _ (0, 0) (hG.row G2)]; exact hq.c2 j v hv))
  have N0 := Lib.hid (fun (w' : World) (hG : Gr W w') => (show w'.cell? ⟨w.heap.size + 2, 0, none⟩ = some (.int .u32 i0) by rw [cell_of_row w' _ _ _ _ (0, 0) (hG.row G3), hI]; rfl))
  have N1 := Lib.hid (fun (w' : World) (hG : Gr W w') => (show w'.cell? ⟨w.heap.size + 2, 1, none⟩ = some (.int .u32 i1) by rw [cell_of_row w' _ _ _ _ (0, 0) (hG.row G3), hI]; rfl))
  have N2 := Lib.hid (fun (w' : World) (hG : Gr W w') => (show w'.cell? ⟨w.heap.size + 2, 2, none⟩ = some (.int .u32 i2) by rw [cell_of_row w' _ _ _ _ (0, 0) (hG.row G3), hI]; rfl))
  have N3 := Lib.hid (fun (w' : World) (hG : Gr W w') => (show w'.cell? ⟨w.heap.size + 2, 3, none⟩ = some (.int .u32 i3) by rw [cell_of_row w' _ _ _ _ (0, 0) (hG.row G3), hI]; rfl))
  clear h1 h2 g1 g2 hp hq G1 G2 G3 hI hT1 hT2 hq1 hq2 hq3 hq4 hU1 hU2 hqq y1 y2 hUU hUL hA1 hA2 hB1 hB2
  go_enter Try.func8, Try.ntmps8
  go_upto_region 1 with fail
  try rw [e2]
  try rw [e1]
  rw [← hW]
  clear hW e1 e2
  have n0 := N0.out W (Below.refl _ _)
  have n1 := N1.out W (Below.refl _ _)
  have X1 := Lib.hid (CL1.out W (Below.refl _ _))
  have X2 := Lib.hid (CL2.out W (Below.refl _ _))
  go_upto_region 2 with (first
    | (refine wpList_load_piece rfl 37 (.tmp 14) rfl w.heap.size 0 rfl C1 _ X1.out Try.underlying37 rfl UC1.out ?_)
    | (refine wpList_load_piece rfl 37 (.tmp 16) rfl w.heap.size 18 rfl C2 _ X2.out Try.underlying37 rfl UC2.out ?_)
    | (go_at_call 15; (with_reducible refine (KA.out _).mono ?_); rintro e w1 ⟨A3, n3, c3, rfl, K3, B3⟩))
  clear n0 n1 X1 X2
  have n2 := N2.out w1 B3
  have n3 := N3.out w1 B3
  have X3 := Lib.hid (DL1.out w1 B3)
  have X4 := Lib.hid (DL2.out w1 B3)
  have HB3 := Lib.hid B3
  clear B3
  go_upto_region 3 with (first
    | (refine wpList_load_piece rfl 37 (.tmp 26) rfl (w.heap.size + 1) 0 rfl D1 _ X3.out Try.underlying37 rfl UD1.out ?_)
    | (refine wpList_load_piece rfl 37 (.tmp 28) rfl (w.heap.size + 1) 18 rfl D2 _ X4.out Try.underlying37 rfl UD2.out ?_)
    | (go_at_call 15; (with_reducible refine (KB.out _).mono ?_); rintro e w2 ⟨A4, n4, c4, rfl, K4, B4⟩))
  clear n2 n3 X3 X4
  have hGW : Gr W w2 := HB3.out.trans (B4.mono HB3.out.size)
  have HBW := Lib.hid HBW0.out
  have K3b := Lib.hid (K3.below B4)
  have K4b := Lib.hid K4
  have HGR := Lib.hid hGW
  have SA := Lib.hid (fun (w' : World) (hG : Below w2.heap.size w2 w') => (show (convert 22 9 (.slice A3 n3 c3)).run Try.prog w' = .ok (.string U1) w' by rw [EU1.out]; exact str_of (K3b.out.below hG)))
  have SB := Lib.hid (fun (w' : World) (hG : Below w2.heap.size w2 w') => (show (convert 22 9 (.slice A4 n4 c4)).run Try.prog w' = .ok (.string U2) w' by rw [EU2.out]; exact str_of (K4b.out.below hG)))
  clear K3 K4 B4 KA KB
  go_upto_region 6 with fail
  refine with_act fun a0 ha0 => ?_
  have hl : ApT.length = a0.tmps.size := by rw [ha0]; rfl
  have k3 : a0.tmps[3]?.getD undef = .pointer (some ⟨w.heap.size, 0, none⟩) := by rw [ha0]; rfl
  have k4 : a0.tmps[4]?.getD undef = .pointer (some ⟨w.heap.size + 1, 0, none⟩) := by rw [ha0]; rfl
  have k5 : a0.tmps[5]?.getD undef = .pointer (some ⟨w.heap.size + 2, 0, none⟩) := by rw [ha0]; rfl
  have k11 : a0.tmps[11]?.getD undef = .func (.func 19) #[] #[] := by rw [ha0]; rfl
  refine wp_region_vals (by kernel_rfl) ApT (by kernel_rfl) (by kernel_rfl) hl (fun i => undef) (by rw [ha0]; rfl) (Gr w2) (ApV w.heap.size (w.heap.size + 1) (w.heap.size + 2) C1 C2 D1 D2 A1 A2 B1 B2 i0 i1 i2 i3 q1 q2 q3 q4) (gr_drew _) (ApV.keep _ _ _ _ _ _ _ _ _ _ _ _ _ _ _ _ _ _ _) ⟨?_, ?_, ?_, ?_, ?_, ?_, ?_, ?_, ?_, ?_, ?_, ?_, ?_, ?_, ?_, ?_, ?_, ?_, ?_, ?_, ?_, ?_, ?_, ?_, ?_, ?_, ?_, ?_, ?_, ?_, ?_, ?_, ?_, ?_, ?_, trivial⟩ ?_
  · refine step_plain [] (by kernel_rfl) rfl fun us w' hG hV => ?_
    have o11 := (frame_old2 (us := us) (a := a0) (show (ApT[11]?).join = none from rfl)).trans k11
    generalize frame ApT a0 us = fr at *
    exact val_ok (v := .func (.func 19) #[] #[]) (w' := w') (by go_simp) hG (Below.refl _ _) rfl
  · refine step_plain [] (by kernel_rfl) rfl fun us w' hG hV => ?_
    have o3 := (frame_old2 (us := us) (a := a0) (show (ApT[3]?).join = none from rfl)).trans k3
    generalize frame ApT a0 us = fr at *
    exact val_ok (v := .pointer (some ⟨w.heap.size, 0, none⟩)) (w' := w') (by go_simp) hG (Below.refl _ _) rfl
  · refine step_plain [1] (by kernel_rfl) rfl fun us w' hG hV => ?_
    have e1 : us 1 = .pointer (some ⟨w.heap.size, 0, none⟩) := hV 1 (by simp)
    have v1 := (frame_at2 (us := us) hl (show (ApT[45]?).join = some 1 from rfl)).trans e1
    have hc' := CL1.out w' (HGR.out.below hG)
    generalize frame ApT a0 us = fr at *
    exact loadp_ok 37 45 rfl (w.heap.size) 0 v1 C1 _ hc' Try.underlying37 rfl UC1.out hG rfl
  · refine step_plain [0, 2] (by kernel_rfl) rfl fun us w' hG hV => ?_
    have e0 : us 0 = .func (.func 19) #[] #[] := hV 0 (by simp)
    have v0 := (frame_at2 (us := us) hl (show (ApT[44]?).join = some 0 from rfl)).trans e0
    have e2 : us 2 = .agg C1 := hV 2 (by simp)
    have v2 := (frame_at2 (us := us) hl (show (ApT[46]?).join = some 2 from rfl)).trans e2
    generalize frame ApT a0 us = fr at *
    exact call_ok (f := 19) (args := #[.agg C1]) (by go_simp) ((BC1.out w').mono fun e w'' h => ⟨_, h.1, hG.below h.2, h.2, rfl⟩)
  · refine step_plain [] (by kernel_rfl) rfl fun us w' hG hV => ?_
    have o11 := (frame_old2 (us := us) (a := a0) (show (ApT[11]?).join = none from rfl)).trans k11
    generalize frame ApT a0 us = fr at *
    exact val_ok (v := .func (.func 19) #[] #[]) (w' := w') (by go_simp) hG (Below.refl _ _) rfl
  · refine step_plain [] (by kernel_rfl) rfl fun us w' hG hV => ?_
    have o4 := (frame_old2 (us := us) (a := a0) (show (ApT[4]?).join = none from rfl)).trans k4
    generalize frame ApT a0 us = fr at *
    exact val_ok (v := .pointer (some ⟨w.heap.size + 1, 0, none⟩)) (w' := w') (by go_simp) hG (Below.refl _ _) rfl
  · refine step_plain [5] (by kernel_rfl) rfl fun us w' hG hV => ?_
    have e5 : us 5 = .pointer (some ⟨w.heap.size + 1, 0, none⟩) := hV 5 (by simp)
    have v5 := (frame_at2 (us := us) hl (show (ApT[49]?).join = some 5 from rfl)).trans e5
    have hc' := DL1.out w' (HGR.out.below hG)
    generalize frame ApT a0 us = fr at *
    exact loadp_ok 37 49 rfl (w.heap.size + 1) 0 v5 D1 _ hc' Try.underlying37 rfl UD1.out hG rfl
  · refine step_plain [4, 6] (by kernel_rfl) rfl fun us w' hG hV => ?_
    have e4 : us 4 = .func (.func 19) #[] #[] := hV 4 (by simp)
    have v4 := (frame_at2 (us := us) hl (show (ApT[48]?).join = some 4 from rfl)).trans e4
    have e6 : us 6 = .agg D1 := hV 6 (by simp)
    have v6 := (frame_at2 (us := us) hl (show (ApT[50]?).join = some 6 from rfl)).trans e6
    generalize frame ApT a0 us = fr at *
    exact call_ok (f := 19) (args := #[.agg D1]) (by go_simp) ((BD1.out w').mono fun e w'' h => ⟨_, h.1, hG.below h.2, h.2, rfl⟩)
  · refine step_plain [3, 7] (by kernel_rfl) rfl fun us w' hG hV => ?_
    have e3 : us 3 = .agg A1 := hV 3 (by simp)
    have v3 := (frame_at2 (us := us) hl (show (ApT[47]?).join = some 3 from rfl)).trans e3
    have e7 : us 7 = .agg B1 := hV 7 (by simp)
    have v7 := (frame_at2 (us := us) hl (show (ApT[51]?).join = some 7 from rfl)).trans e7
    generalize frame ApT a0 us = fr at *
    exact val_ok (v := .bool q1) (w' := w') (eq_run rfl v3 v7 (EQ1.out w') guard_end) hG (Below.refl _ _) rfl
  · refine step_plain [8] (by kernel_rfl) rfl fun us w' hG hV => ?_
    have e8 : us 8 = .bool q1 := hV 8 (by simp)
    have v8 := (frame_at2 (us := us) hl (show (ApT[52]?).join = some 8 from rfl)).trans e8
    generalize frame ApT a0 us = fr at *
    exact val_ok (v := .bool q1) (w' := w') (by go_simp) hG (Below.refl _ _) rfl
  · refine step_cond [9] (by kernel_rfl) (j := 9) (t := 53) rfl (by simp) rfl hl rfl q1 (fun v w h => h) (fun hc w h => by rw [hc] at h; cases h) fun hc us w' hG hV => ?_
    have o11 := (frame_old2 (us := us) (a := a0) (show (ApT[11]?).join = none from rfl)).trans k11
    generalize frame ApT a0 us = fr at *
    exact val_ok (v := .func (.func 19) #[] #[]) (w' := w') (by go_simp) hG (Below.refl _ _) (fun _ => rfl)
  · refine step_cond [9] (by kernel_rfl) (j := 9) (t := 53) rfl (by simp) rfl hl rfl q1 (fun v w h => h) (fun hc w h => by rw [hc] at h; cases h) fun hc us w' hG hV => ?_
    have o3 := (frame_old2 (us := us) (a := a0) (show (ApT[3]?).join = none from rfl)).trans k3
    generalize frame ApT a0 us = fr at *
    exact val_ok (v := .pointer (some ⟨w.heap.size, 18, none⟩)) (w' := w') (by go_simp) hG (Below.refl _ _) (fun _ => rfl)
  · refine step_cond [9, 11] (by kernel_rfl) (j := 9) (t := 53) rfl (by simp) rfl hl rfl q1 (fun v w h => h) (fun hc w h => by rw [hc] at h; cases h) fun hc us w' hG hV => ?_
    have e11 : us 11 = .pointer (some ⟨w.heap.size, 18, none⟩) := hV 11 (by simp) hc
    have v11 := (frame_at2 (us := us) hl (show (ApT[55]?).join = some 11 from rfl)).trans e11
    have hc' := CL2.out w' (HGR.out.below hG)
    generalize frame ApT a0 us = fr at *
    exact loadp_ok 37 55 rfl (w.heap.size) 18 v11 C2 _ hc' Try.underlying37 rfl UC2.out hG (fun _ => rfl)
  · refine step_cond [9, 10, 12] (by kernel_rfl) (j := 9) (t := 53) rfl (by simp) rfl hl rfl q1 (fun v w h => h) (fun hc w h => by rw [hc] at h; cases h) fun hc us w' hG hV => ?_
    have e10 : us 10 = .func (.func 19) #[] #[] := hV 10 (by simp) hc
    have v10 := (frame_at2 (us := us) hl (show (ApT[54]?).join = some 10 from rfl)).trans e10
    have e12 : us 12 = .agg C2 := hV 12 (by simp) hc
    have v12 := (frame_at2 (us := us) hl (show (ApT[56]?).join = some 12 from rfl)).trans e12
    generalize frame ApT a0 us = fr at *
    exact call_ok (f := 19) (args := #[.agg C2]) (by go_simp) ((BC2.out w').mono fun e w'' h => ⟨_, h.1, hG.below h.2, h.2, (fun _ => rfl)⟩)
  · refine step_cond [9] (by kernel_rfl) (j := 9) (t := 53) rfl (by simp) rfl hl rfl q1 (fun v w h => h) (fun hc w h => by rw [hc] at h; cases h) fun hc us w' hG hV => ?_
    have o11 := (frame_old2 (us := us) (a := a0) (show (ApT[11]?).join = none from rfl)).trans k11
    generalize frame ApT a0 us = fr at *
    exact val_ok (v := .func (.func 19) #[] #[]) (w' := w') (by go_simp) hG (Below.refl _ _) (fun _ => rfl)
  · refine step_cond [9] (by kernel_rfl) (j := 9) (t := 53) rfl (by simp) rfl hl rfl q1 (fun v w h => h) (fun hc w h => by rw [hc] at h; cases h) fun hc us w' hG hV => ?_
    have o4 := (frame_old2 (us := us) (a := a0) (show (ApT[4]?).join = none from rfl)).trans k4
    generalize frame ApT a0 us = fr at *
    exact val_ok (v := .pointer (some ⟨w.heap.size + 1, 18, none⟩)) (w' := w') (by go_simp) hG (Below.refl _ _) (fun _ => rfl)
  · refine step_cond [9, 15] (by kernel_rfl) (j := 9) (t := 53) rfl (by simp) rfl hl rfl q1 (fun v w h => h) (fun hc w h => by rw [hc] at h; cases h) fun hc us w' hG hV => ?_
    have e15 : us 15 = .pointer (some ⟨w.heap.size + 1, 18, none⟩) := hV 15 (by simp) hc
    have v15 := (frame_at2 (us := us) hl (show (ApT[59]?).join = some 15 from rfl)).trans e15
    have hc' := DL2.out w' (HGR.out.below hG)
    generalize frame ApT a0 us = fr at *
    exact loadp_ok 37 59 rfl (w.heap.size + 1) 18 v15 D2 _ hc' Try.underlying37 rfl UD2.out hG (fun _ => rfl)
  · refine step_cond [9, 14, 16] (by kernel_rfl) (j := 9) (t := 53) rfl (by simp) rfl hl rfl q1 (fun v w h => h) (fun hc w h => by rw [hc] at h; cases h) fun hc us w' hG hV => ?_
    have e14 : us 14 = .func (.func 19) #[] #[] := hV 14 (by simp) hc
    have v14 := (frame_at2 (us := us) hl (show (ApT[58]?).join = some 14 from rfl)).trans e14
    have e16 : us 16 = .agg D2 := hV 16 (by simp) hc
    have v16 := (frame_at2 (us := us) hl (show (ApT[60]?).join = some 16 from rfl)).trans e16
    generalize frame ApT a0 us = fr at *
    exact call_ok (f := 19) (args := #[.agg D2]) (by go_simp) ((BD2.out w').mono fun e w'' h => ⟨_, h.1, hG.below h.2, h.2, (fun _ => rfl)⟩)
  · refine step_cond [9, 13, 17] (by kernel_rfl) (j := 9) (t := 53) rfl (by simp) rfl hl rfl q1 (fun v w h => h) (fun hc w h => by rw [hc] at h; cases h) fun hc us w' hG hV => ?_
    have e13 : us 13 = .agg A2 := hV 13 (by simp) hc
    have v13 := (frame_at2 (us := us) hl (show (ApT[57]?).join = some 13 from rfl)).trans e13
    have e17 : us 17 = .agg B2 := hV 17 (by simp) hc
    have v17 := (frame_at2 (us := us) hl (show (ApT[61]?).join = some 17 from rfl)).trans e17
    generalize frame ApT a0 us = fr at *
    exact val_ok (v := .bool q2) (w' := w') (eq_run rfl v13 v17 (EQ2.out w') guard_end) hG (Below.refl _ _) (fun _ => rfl)
  · refine step_plain [9, 18] (by kernel_rfl) rfl fun us w' hG hV => ?_
    have ec : us 9 = .bool q1 := hV 9 (by simp)
    have vc := (frame_at2 (us := us) hl (show (ApT[53]?).join = some 9 from rfl)).trans ec
    rcases Bool.eq_false_or_eq_true q1 with hc | hc
    · have ex : us 18 = .bool q2 := hV 18 (by simp) hc
      have vx := (frame_at2 (us := us) hl (show (ApT[62]?).join = some 18 from rfl)).trans ex
      rw [hc] at vc
      have hz : (q1 && q2) = q2 := by rw [hc]; rfl
      generalize frame ApT a0 us = fr at *
      exact val_ok (v := .bool q2) (w' := w') (by go_simp) hG (Below.refl _ _) (congrArg Value.bool hz.symm)
    · rw [hc] at vc
      have hz : (q1 && q2) = false := by rw [hc]; rfl
      generalize frame ApT a0 us = fr at *
      exact val_ok (v := .bool false) (w' := w') (by go_simp) hG (Below.refl _ _) (congrArg Value.bool hz.symm)
  · refine step_plain [19] (by kernel_rfl) rfl fun us w' hG hV => ?_
    have e19 : us 19 = .bool (q1 && q2) := hV 19 (by simp)
    have v19 := (frame_at2 (us := us) hl (show (ApT[63]?).join = some 19 from rfl)).trans e19
    generalize frame ApT a0 us = fr at *
    exact val_ok (v := .bool (q1 && q2)) (w' := w') (by go_simp) hG (Below.refl _ _) rfl
  · refine step_cond [20] (by kernel_rfl) (j := 20) (t := 64) rfl (by simp) rfl hl rfl (q1 && q2) (fun v w h => h) (fun hc w h => by rw [hc] at h; cases h) fun hc us w' hG hV => ?_
    have o5 := (frame_old2 (us := us) (a := a0) (show (ApT[5]?).join = none from rfl)).trans k5
    generalize frame ApT a0 us = fr at *
    exact val_ok (v := .pointer (some ⟨w.heap.size + 2, 0, none⟩)) (w' := w') (by go_simp) hG (Below.refl _ _) (fun _ => rfl)
  · refine step_cond [20, 21] (by kernel_rfl) (j := 20) (t := 64) rfl (by simp) rfl hl rfl (q1 && q2) (fun v w h => h) (fun hc w h => by rw [hc] at h; cases h) fun hc us w' hG hV => ?_
    have e21 : us 21 = .pointer (some ⟨w.heap.size + 2, 0, none⟩) := hV 21 (by simp) hc
    have v21 := (frame_at2 (us := us) hl (show (ApT[65]?).join = some 21 from rfl)).trans e21
    have hn := N0.out w' (HGR.out.below hG)
    generalize frame ApT a0 us = fr at *
    exact val_ok (v := .int .u32 i0) (w' := w') (by go_simp) hG (Below.refl _ _) (fun _ => rfl)
  · refine step_cond [20] (by kernel_rfl) (j := 20) (t := 64) rfl (by simp) rfl hl rfl (q1 && q2) (fun v w h => h) (fun hc w h => by rw [hc] at h; cases h) fun hc us w' hG hV => ?_
    have o5 := (frame_old2 (us := us) (a := a0) (show (ApT[5]?).join = none from rfl)).trans k5
    generalize frame ApT a0 us = fr at *
    exact val_ok (v := .pointer (some ⟨w.heap.size + 2, 2, none⟩)) (w' := w') (by go_simp) hG (Below.refl _ _) (fun _ => rfl)
  · refine step_cond [20, 23] (by kernel_rfl) (j := 20) (t := 64) rfl (by simp) rfl hl rfl (q1 && q2) (fun v w h => h) (fun hc w h => by rw [hc] at h; cases h) fun hc us w' hG hV => ?_
    have e23 : us 23 = .pointer (some ⟨w.heap.size + 2, 2, none⟩) := hV 23 (by simp) hc
    have v23 := (frame_at2 (us := us) hl (show (ApT[67]?).join = some 23 from rfl)).trans e23
    have hn := N2.out w' (HGR.out.below hG)
    generalize frame ApT a0 us = fr at *
    exact val_ok (v := .int .u32 i2) (w' := w') (by go_simp) hG (Below.refl _ _) (fun _ => rfl)
  · refine step_cond [20, 22, 24] (by kernel_rfl) (j := 20) (t := 64) rfl (by simp) rfl hl rfl (q1 && q2) (fun v w h => h) (fun hc w h => by rw [hc] at h; cases h) fun hc us w' hG hV => ?_
    have e22 : us 22 = .int .u32 i0 := hV 22 (by simp) hc
    have v22 := (frame_at2 (us := us) hl (show (ApT[66]?).join = some 22 from rfl)).trans e22
    have e24 : us 24 = .int .u32 i2 := hV 24 (by simp) hc
    have v24 := (frame_at2 (us := us) hl (show (ApT[68]?).join = some 24 from rfl)).trans e24
    have hq := EQ3.out
    generalize frame ApT a0 us = fr at *
    exact val_ok (v := .bool q3) (w' := w') (by go_simp) hG (Below.refl _ _) (fun _ => rfl)
  · refine step_plain [20, 25] (by kernel_rfl) rfl fun us w' hG hV => ?_
    have ec : us 20 = .bool (q1 && q2) := hV 20 (by simp)
    have vc := (frame_at2 (us := us) hl (show (ApT[64]?).join = some 20 from rfl)).trans ec
    rcases Bool.eq_false_or_eq_true (q1 && q2) with hc | hc
    · have ex : us 25 = .bool q3 := hV 25 (by simp) hc
      have vx := (frame_at2 (us := us) hl (show (ApT[69]?).join = some 25 from rfl)).trans ex
      rw [hc] at vc
      have hz : ((q1 && q2) && q3) = q3 := by rw [hc]; rfl
      generalize frame ApT a0 us = fr at *
      exact val_ok (v := .bool q3) (w' := w') (by go_simp) hG (Below.refl _ _) (congrArg Value.bool hz.symm)
    · rw [hc] at vc
      have hz : ((q1 && q2) && q3) = false := by rw [hc]; rfl
      generalize frame ApT a0 us = fr at *
      exact val_ok (v := .bool false) (w' := w') (by go_simp) hG (Below.refl _ _) (congrArg Value.bool hz.symm)
  · refine step_plain [26] (by kernel_rfl) rfl fun us w' hG hV => ?_
    have e26 : us 26 = .bool ((q1 && q2) && q3) := hV 26 (by simp)
    have v26 := (frame_at2 (us := us) hl (show (ApT[70]?).join = some 26 from rfl)).trans e26
    generalize frame ApT a0 us = fr at *
    exact val_ok (v := .bool ((q1 && q2) && q3)) (w' := w') (by go_simp) hG (Below.refl _ _) rfl
  · refine step_cond [27] (by kernel_rfl) (j := 27) (t := 71) rfl (by simp) rfl hl rfl ((q1 && q2) && q3) (fun v w h => h) (fun hc w h => by rw [hc] at h; cases h) fun hc us w' hG hV => ?_
    have o5 := (frame_old2 (us := us) (a := a0) (show (ApT[5]?).join = none from rfl)).trans k5
    generalize frame ApT a0 us = fr at *
    exact val_ok (v := .pointer (some ⟨w.heap.size + 2, 1, none⟩)) (w' := w') (by go_simp) hG (Below.refl _ _) (fun _ => rfl)
  · refine step_cond [27, 28] (by kernel_rfl) (j := 27) (t := 71) rfl (by simp) rfl hl rfl ((q1 && q2) && q3) (fun v w h => h) (fun hc w h => by rw [hc] at h; cases h) fun hc us w' hG hV => ?_
    have e28 : us 28 = .pointer (some ⟨w.heap.size + 2, 1, none⟩) := hV 28 (by simp) hc
    have v28 := (frame_at2 (us := us) hl (show (ApT[72]?).join = some 28 from rfl)).trans e28
    have hn := N1.out w' (HGR.out.below hG)
    generalize frame ApT a0 us = fr at *
    exact val_ok (v := .int .u32 i1) (w' := w') (by go_simp) hG (Below.refl _ _) (fun _ => rfl)
  · refine step_cond [27] (by kernel_rfl) (j := 27) (t := 71) rfl (by simp) rfl hl rfl ((q1 && q2) && q3) (fun v w h => h) (fun hc w h => by rw [hc] at h; cases h) fun hc us w' hG hV => ?_
    have o5 := (frame_old2 (us := us) (a := a0) (show (ApT[5]?).join = none from rfl)).trans k5
    generalize frame ApT a0 us = fr at *
    exact val_ok (v := .pointer (some ⟨w.heap.size + 2, 3, none⟩)) (w' := w') (by go_simp) hG (Below.refl _ _) (fun _ => rfl)
  · refine step_cond [27, 30] (by kernel_rfl) (j := 27) (t := 71) rfl (by simp) rfl hl rfl ((q1 && q2) && q3) (fun v w h => h) (fun hc w h => by rw [hc] at h; cases h) fun hc us w' hG hV => ?_
    have e30 : us 30 = .pointer (some ⟨w.heap.size + 2, 3, none⟩) := hV 30 (by simp) hc
    have v30 := (frame_at2 (us := us) hl (show (ApT[74]?).join = some 30 from rfl)).trans e30
    have hn := N3.out w' (HGR.out.below hG)
    generalize frame ApT a0 us = fr at *
    exact val_ok (v := .int .u32 i3) (w' := w') (by go_simp) hG (Below.refl _ _) (fun _ => rfl)
  · refine step_cond [27, 29, 31] (by kernel_rfl) (j := 27) (t := 71) rfl (by simp) rfl hl rfl ((q1 && q2) && q3) (fun v w h => h) (fun hc w h => by rw [hc] at h; cases h) fun hc us w' hG hV => ?_
    have e29 : us 29 = .int .u32 i1 := hV 29 (by simp) hc
    have v29 := (frame_at2 (us := us) hl (show (ApT[73]?).join = some 29 from rfl)).trans e29
    have e31 : us 31 = .int .u32 i3 := hV 31 (by simp) hc
    have v31 := (frame_at2 (us := us) hl (show (ApT[75]?).join = some 31 from rfl)).trans e31
    have hq := EQ4.out
    generalize frame ApT a0 us = fr at *
    exact val_ok (v := .bool q4) (w' := w') (by go_simp) hG (Below.refl _ _) (fun _ => rfl)
  · refine step_plain [27, 32] (by kernel_rfl) rfl fun us w' hG hV => ?_
    have ec : us 27 = .bool ((q1 && q2) && q3) := hV 27 (by simp)
    have vc := (frame_at2 (us := us) hl (show (ApT[71]?).join = some 27 from rfl)).trans ec
    rcases Bool.eq_false_or_eq_true ((q1 && q2) && q3) with hc | hc
    · have ex : us 32 = .bool q4 := hV 32 (by simp) hc
      have vx := (frame_at2 (us := us) hl (show (ApT[76]?).join = some 32 from rfl)).trans ex
      rw [hc] at vc
      have hz : (((q1 && q2) && q3) && q4) = q4 := by rw [hc]; rfl
      generalize frame ApT a0 us = fr at *
      exact val_ok (v := .bool q4) (w' := w') (by go_simp) hG (Below.refl _ _) (congrArg Value.bool hz.symm)
    · rw [hc] at vc
      have hz : (((q1 && q2) && q3) && q4) = false := by rw [hc]; rfl
      generalize frame ApT a0 us = fr at *
      exact val_ok (v := .bool false) (w' := w') (by go_simp) hG (Below.refl _ _) (congrArg Value.bool hz.symm)
  · refine step_plain [33] (by kernel_rfl) rfl fun us w' hG hV => ?_
    have e33 : us 33 = .bool (((q1 && q2) && q3) && q4) := hV 33 (by simp)
    have v33 := (frame_at2 (us := us) hl (show (ApT[77]?).join = some 33 from rfl)).trans e33
    generalize frame ApT a0 us = fr at *
    exact val_ok (v := .bool (((q1 && q2) && q3) && q4)) (w' := w') (by go_simp) hG (Below.refl _ _) rfl
  · intro us w6 hG hV
    have eL : us 34 = .bool (((q1 && q2) && q3) && q4) := hV 34 (by decide)
    rw [← QQ.out] at eL
    have hc1 := SA.out w6 hG
    have hc2 := SB.out w6 hG
    have BQ := Lib.hid (HBW.out.trans ((HGR.out.below hG).mono HBW.out.size))
    have hs1 := SE1.out
    have hs2 := SE2.out
    subst ha0
    simp only [frame, ApT, fill]
    rw [eL]
    clear hV hl k3 k4 k5 k11 hG eL
    go_wp2_with (first
      | (go_at_call 10; refine (alive_any _).mono ?_; rintro e w9 ⟨rfl, B9⟩))
    go_ret
    exact ⟨rfl, BQ.out.trans (B9.mono BQ.out.size)⟩
theorem apart_walk (cp cq C1 C2 D1 D2 : Array Value) (s1 s2 t1 t2 : Bool) (b1 b2 d1 d2 : List Int) (p1 p2 r1 r2 i0 i1 i2 i3 : Int) (w : World) (hp : PairC cp C1 C2) (hq : PairC cq D1 D2) (h1 : EndC C1 s1 b1 p1) (h2 : EndC C2 s2 b2 p2) (g1 : EndC D1 t1 d1 r1) (g2 : EndC D2 t2 d2 r2)
    (a0 : 0 ≤ i0) (m0 : i0 ≤ 4294967295) (a1 : 0 ≤ i1) (m1 : i1 ≤ 4294967295) (a2 : 0 ≤ i2) (m2 : i2 ≤ 4294967295) (a3 : 0 ≤ i3) (m3 : i3 ≤ 4294967295) :
    Calls Try.prog 8 #[.agg cp, .agg cq, .agg #[.int .u32 i0, .int .u32 i1, .int .u32 i2, .int .u32 i3]] w (AliveRet w) := by
  by_cases hE : s1 ≠ s2 ∨ t1 ≠ t2
  · exact apart_not cp cq C1 C2 D1 D2 s1 s2 t1 t2 b1 b2 d1 d2 p1 p2 r1 r2 i0 i1 i2 i3 w hp hq h1 h2 g1 g2 a0 m0 a1 m1 a2 m2 a3 m3 hE
  · have e1 : s1 = s2 := Decidable.not_not.1 fun h => hE (.inl h)
    have e2 : t1 = t2 := Decidable.not_not.1 fun h => hE (.inr h)
    subst e1 e2
    exact apart_ok cp cq C1 C2 D1 D2 s1 t1 b1 b2 d1 d2 p1 p2 r1 r2 i0 i1 i2 i3 w hp hq h1 h2 g1 g2 a0 m0 a1 m1 a2 m2 a3 m3
end Go.Proofs.Ythbgjjfhgbkbdaa.kdC

/-
  Four numbers.
-/
namespace Go.Proofs.Ythbgjjfhgbkbdaa.kdC
set_option linter.unusedVariables false
theorem list4 {z : List Int} (h : z.length = 4) : ∃ a b c d, z = [a, b, c, d] := by
  match z, h with
  | [a, b, c, d], _ => exact ⟨a, b, c, d, rfl⟩
end Go.Proofs.Ythbgjjfhgbkbdaa.kdC
