/-
  1 texts of a proof, joined.
-/
import Derived.Test.YtcnnpfjommiafaaMg5
import Derived.Laws.CopyOwn
import Derived.Test.YtcnnpfjommiafaaMg6
import Derived.Test.YtcnnpfjommiafaaMg1
import Derived.Lib.AppendZeros
import Derived.Lib.SliceRun
import Derived.StillTactics
import Derived.StillTailTactics
import Derived.Laws.BitsAllLaws

/-
  Whether an address may be, by the program and by the document; its bytes, and any bytes' address, by the document.
-/
namespace Go.Proofs.Ytcnnpfjommiafaa.adC
open Go.ChangeShapes Go.WideShapes Go.ChangeAt Go.RowKit
open Go.Proofs.Ytcnnpfjommiafaa.memC Go.Proofs.Ytcnnpfjommiafaa.genC Go.Proofs.Ytcnnpfjommiafaa.butC Go.Proofs.Ytcnnpfjommiafaa.freeC Go.Proofs.Ytcnnpfjommiafaa.txC
open Go.Proofs.Ytcnnpfjommiafaa.partC (wpList_load_part run_load_part)
set_option linter.unusedVariables false
theorem run_arrayAt {P : Program} {t e : TypeId} {n : Nat} (ht : P.underlying t = some (.array n e)) (A : Option Addr) (l c : Nat) (h : n ≤ l) (w : World) : (Instr.arrayAt t (.slice A l c)).run P w = .ok (.pointer A) w := by
  unfold Instr.arrayAt
  rw [Sem.run_bind, run_underlying ht w]
  simp [Nat.not_lt.2 h]
set_option maxRecDepth 100000 in
theorem eq12 {xs ys : List Int} (hx : xs.length = 12) (hy : ys.length = 12) (w : World) : (Op.equalIn 10000 115 (.agg (vI xs)) (.agg (vI ys))).run Try.prog w = .ok (decide (xs = ys)) w := by
  obtain ⟨i0, hi0, hz0, hz1, hz2⟩ := info_parts byte_inf
  rw [show (10000 : Nat) = 9998 + 1 + 1 from rfl, run_equalIn_array w _ (vI xs) (vI ys) Try.underlying115 hi0, show Try.prog.cellsOf 5 = 1 by kernel_rfl,
    run_each w _ _ .u8 (vI xs) (vI ys) (fun j => xs.getD j 0) (fun j => ys.getD j 0) rfl _ fun j hj => ⟨vI_at (by rw [hx]; exact List.mem_range.1 hj), vI_at (by rw [hy]; exact List.mem_range.1 hj)⟩]
  congr 1
  by_cases h : xs = ys
  · subst h
    simp
  · rw [decide_eq_false h]
    refine Bool.eq_false_iff.2 fun h2 => h ?_
    apply List.ext_getElem?
    intro j
    by_cases hj : j < 12
    · have := List.all_eq_true.1 h2 j (List.mem_range.2 hj)
      have h3 : xs.getD j 0 = ys.getD j 0 := beq_iff_eq.1 this
      rw [List.getD_eq_getElem?_getD, List.getD_eq_getElem?_getD, List.getElem?_eq_getElem (by omega), List.getElem?_eq_getElem (by omega)] at h3
      rw [List.getElem?_eq_getElem (by omega), List.getElem?_eq_getElem (by omega)]
      exact congrArg some h3
    · rw [List.getElem?_eq_none (by omega), List.getElem?_eq_none (by omega)]
theorem eq_run {P : Program} {fr : Act} {o : Oper} {w : World} {T R : TypeId} {s x : Tmp} {A B : Array Value} {q : Bool} (ho : o.op = .binOp .eql T (.tmp s) (.tmp x) R) (hs : fr.tmps[s]?.getD undef = .agg A) (hx : fr.tmps[x]?.getD undef = .agg B)
    (hq : (Op.equalIn 10000 T (.agg A) (.agg B)).run P w = .ok q w) (hgd : P.eqGuardType P.depth T = false) : (execOp fr.eval o).run P w = .ok (.value (.bool q)) w := by
  unfold execOp
  rw [ho]
  go_simp
theorem built_run {P : Program} {fr : Act} {o : Oper} {w : World} {T : TypeId} {C : Array Value} (ho : o.op = .build T #[]) (hb : P.built T [] = some C) : (execOp fr.eval o).run P w = .ok (.value (.agg C)) w := by
  unfold execOp
  have h : (Instr.build T #[]).run P w = .ok (.agg C) w := run_build w T _ C hb
  simp [ho, h, Result.andThen_ok]
theorem loadp_run {P : Program} {fr : Act} {o : Oper} {w : World} {T : TypeId} {s : Tmp} {g q : Nat} (ho : o.op = .load T (.tmp s)) (hs : fr.tmps[s]?.getD undef = .pointer (some ⟨g, q, none⟩)) (l : List Value) (d : TypeDesc) (hc : ∀ j v, l[j]? = some v → w.cell? ⟨g, q + j, none⟩ = some v)
    (hu : P.underlying T = some d) (hd : (match d with | .struct _ | .array _ _ => true | _ => false) = true) (hi : (P.info? T).map (·.size) = some l.length) : (execOp fr.eval o).run P w = .ok (.value (.agg l.toArray)) w := by
  unfold execOp
  have hs' : fr.eval (.tmp s) = .pointer (some ⟨g, q, none⟩) := by simpa only [Act.eval, Array.getD_eq_getD_getElem?] using hs
  simp only [ho, hs', Instr.loadAt, Instr.sureAddr, Sem.run_bind, Sem.run_pure, Result.andThen_ok, run_load_part w g q T l d hc hu hd hi]
theorem guard12 : Try.prog.eqGuardType Try.prog.depth 115 = false := by kernel_rfl
theorem zero12 : Try.prog.built 115 [] = some (vI (zs 12)) := by kernel_rfl
theorem b12_info : (Try.prog.info? 115).map (·.size) = some 12 := by kernel_rfl
/-- whether an address may be -/
def mayL (s : Bool) (b : List Int) : Bool := s || decide (b.drop 4 = zs 12)
set_option maxRecDepth 100000 in
set_option maxHeartbeats 1000000 in
theorem cmay_any (s : Bool) (b : List Int) (w : World) (hl : b.length = 16) : Calls Try.prog 64 #[.agg (adrV s b)] w (Ret w (.bool (mayL s b))) := by
  have HB := Lib.hid (alloc_below w (.cells (adrV s b) 24))
  have k1 : (w.alloc (.cells (adrV s b) 24)).cell? ⟨w.heap.size, 0, none⟩ = some (.bool s) := by rw [cell_new]; exact adrV_six _ _
  have HC := Lib.hid (show ∀ j v, ((b.drop 4).map (Value.int .u8))[j]? = some v → (w.alloc (.cells (adrV s b) 24)).cell? ⟨w.heap.size, 5 + j, none⟩ = some v from fun j v hv => by
    rw [cell_new, show 5 + j = 1 + (4 + j) by omega]
    have hj : 4 + j < b.length := by
      rcases Nat.lt_or_ge (4 + j) b.length with h | h
      · exact h
      · rw [List.getElem?_map, List.getElem?_drop, List.getElem?_eq_none h] at hv; cases hv
    rw [adrV_at hj]
    rw [List.getElem?_map, List.getElem?_drop, List.getElem?_eq_getElem hj] at hv
    rw [List.getD_eq_getElem?_getD, List.getElem?_eq_getElem hj]
    exact hv)
  have hsa : ∀ w', (Instr.arrayAt 115 (.slice (some ⟨w.heap.size, 5, none⟩) 12 12)).run Try.prog w' = .ok (.pointer (some ⟨w.heap.size, 5, none⟩)) w' := fun w' => run_arrayAt Try.underlying115 _ 12 12 (Nat.le_refl _) w'
  have LD : (b.drop 4).length = 12 := by rw [List.length_drop, hl]
  have HE := Lib.hid (fun w' => eq12 LD (zs_len 12) w')
  have HI := Lib.hid (show (Try.prog.info? 115).map (·.size) = some ((b.drop 4).map (Value.int .u8)).length by rw [b12_info, List.length_map, LD])
  obtain ⟨q, hq⟩ : ∃ q, q = decide (b.drop 4 = zs 12) := ⟨_, rfl⟩
  rw [← hq] at HE
  have HM : Hid (mayL s b = (s || q)) := Lib.hid (by rw [hq]; rfl)
  have VI : Hid (vI (b.drop 4) = ((b.drop 4).map (Value.int .u8)).toArray) := Lib.hid rfl
  rw [HM.out]
  rw [VI.out] at HE
  generalize (b.drop 4).map (Value.int .u8) = l at *
  generalize adrV s b = C at *
  obtain ⟨W, hW⟩ : ∃ W, W = w.alloc (.cells C 24) := ⟨_, rfl⟩
  rw [← hW] at HB HC k1
  clear hl LD hq VI
  cases s
  · go_enter Try.func64, Try.ntmps64
    go_upto_region 1 with fail
    rw [← hW]
    clear hW
    go_wp2_with (first
      | (refine wpList_runG (by rfl) _ (loadp_run rfl (by rfl) l _ HC.out Try.underlying115 rfl HI.out) ?_)
      | (refine wpList_runG (by rfl) _ (built_run rfl zero12) ?_)
      | (refine wpList_runG (by rfl) _ (eq_run rfl (by rfl) (by rfl) (HE.out _) guard12) ?_))
    go_ret
    exact ⟨rfl, HB.out⟩
  · go_enter Try.func64, Try.ntmps64
    go_upto_region 1 with fail
    rw [← hW]
    clear hW
    go_wp2_with fail
    go_ret
    exact ⟨rfl, HB.out⟩
theorem zs_get {n j : Nat} (h : j < n) : (zs n)[j]? = some 0 := by unfold zs; rw [List.getElem?_replicate, if_pos h]
/-- some numbers are 0 from a place on -/
theorem drop_zero {b : List Int} (hl : b.length = 16) : (∀ j, 4 ≤ j → j < 16 → b.getD j 0 = 0) ↔ b.drop 4 = zs 12 := by
  constructor
  · intro h
    apply List.ext_getElem?
    intro j
    rw [List.getElem?_drop]
    by_cases hj : j < 12
    · have := h (4 + j) (by omega) (by omega)
      rw [List.getD_eq_getElem?_getD, List.getElem?_eq_getElem (by omega)] at this
      rw [List.getElem?_eq_getElem (by omega)]
      simp only [Option.getD_some] at this
      rw [this, zs_get hj]
    · rw [List.getElem?_eq_none (by omega), List.getElem?_eq_none (by rw [zs_len]; omega)]
  · intro h j h4 h16
    have h1 : (b.drop 4)[j - 4]? = (zs 12)[j - 4]? := by rw [h]
    rw [List.getElem?_drop, show 4 + (j - 4) = j by omega] at h1
    rw [List.getD_eq_getElem?_getD, h1, zs_get (by omega)]
    rfl
set_option maxRecDepth 100000 in
set_option maxHeartbeats 1000000 in
theorem rmay_any (s : Bool) (b : List Int) (w : World) (hl : b.length = 16) : Calls Try.prog 56 #[.agg (adrV s b)] w (Ret w (.bool (mayL s b))) := by
  have HR := Lib.hid (show (w.alloc (.cells (adrV s b) 24)).heap[w.heap.size]? = some (.cells (adrV s b) 24 (0, 0)) from heap_alloc_new w _)
  have HI := Lib.hid (adr_info s hl)
  have HB := Lib.hid (alloc_below w (.cells (adrV s b) 24))
  have SZ := Lib.hid (fun w' => size_any s b w' hl)
  have HC := Lib.hid (fun (w' : World) (hw : w'.heap[w.heap.size]? = some (.cells (adrV s b) 24 (0, 0))) (j : Nat) (hj : j < 16) => (show w'.cell? ⟨w.heap.size, 1 + j, none⟩ = some (.int .u8 (b.getD j 0)) by
    rw [cell_of_row w' w.heap.size (1 + j) _ _ (0, 0) hw]; exact adrV_at (by omega)))
  have HM := Lib.hid (show mayL s b = true ↔ ∀ j, adrN s ≤ j → j < 16 → b.getD j 0 = 0 by
    unfold mayL
    cases s
    · rw [Bool.false_or, decide_eq_true_eq]; exact (drop_zero hl).symm
    · simp only [Bool.true_or, true_iff]; intro j h1 h2; unfold adrN at h1; simp at h1; omega)
  have HN := Lib.hid (adrN_le s)
  generalize mayL s b = M at *
  generalize adrN s = n at *
  generalize adrV s b = C at *
  obtain ⟨W, hW⟩ : ∃ W, W = w.alloc (.cells C 24) := ⟨_, rfl⟩
  rw [← hW] at HR HB
  clear hl
  go_enter Try.func56, Try.ntmps56
  go_upto_region 1 with fail
  rw [← hW]
  clear hW
  go_upto_region 2 with (first
    | (refine wpList_load_row rfl 24 (.tmp 1) rfl w.heap.size rfl _ _ _ _ HR.out Try.underlying24 rfl HI.out ?_)
    | (go_at_call 65; (refine (SZ.out _).mono ?_); rintro e w2 ⟨rfl, B2⟩
       have HB2 := Lib.hid (HB.out.trans (B2.mono HB.out.size))
       have HR2 := Lib.hid (show w2.heap[w.heap.size]? = some (.cells C 24 (0, 0)) by rw [B2.block _ (lt_of_row HR.out)]; exact HR.out)
       clear B2))
  go_loop [3] (fun v => ∃ i : Nat, v = .int .i64 i ∧ n ≤ i ∧ i ≤ 16 ∧ ∀ j, n ≤ j → j < i → b.getD j 0 = 0) (fun v => 16 - (intOf v).toNat)
  case atStart => exact ⟨n, rfl, Nat.le_refl _, HN.out, fun j h1 h2 => by omega⟩
  case round =>
    obtain ⟨i, rfl, hi1, hi2, hz⟩ := hrel
    have HZ := Lib.hid hz
    clear hz
    by_cases hlt : i < 16
    · have c0 := HC.out w2 HR2.out i hlt
      have hiz : (i : Int) < 16 := by omega
      obtain ⟨x, hx⟩ : ∃ x, x = b.getD i 0 := ⟨_, rfl⟩
      have HX := Lib.hid hx
      rw [← hx] at c0
      clear hx
      by_cases h0 : x = 0
      · subst h0
        go_wp2_with fail
        go_round
        case rel => exact ⟨i + 1, by go_num, by omega, by omega, fun j h1 h2 => by
          rcases Nat.lt_or_ge j i with h | h
          · exact HZ.out j h1 h
          · obtain rfl : j = i := by omega
            exact HX.out.symm⟩
        case measure => simp [intOf]; omega
      · have hxz : (x != 0) = true := by simpa using h0
        have HF := Lib.hid (show M = false by
          cases hM : M with
          | false => rfl
          | true => exact absurd (HX.out.trans (HM.out.1 hM i hi1 hlt)) h0)
        go_wp2_with fail
        go_ret
        exact ⟨by rw [HF.out]; rfl, HB2.out⟩
    · have HF := Lib.hid (show M = true from HM.out.2 fun j h1 h2 => HZ.out j h1 (by omega))
      go_wp2_with fail
      go_ret
      exact ⟨by rw [HF.out]; rfl, HB2.out⟩
end Go.Proofs.Ytcnnpfjommiafaa.adC
