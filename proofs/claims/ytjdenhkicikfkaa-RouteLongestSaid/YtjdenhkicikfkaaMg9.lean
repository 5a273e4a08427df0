/-
  4 texts of a proof, joined.
-/
import Derived.Test.YtjdenhkicikfkaaMg6
import Derived.Test.YtjdenhkicikfkaaMg8
import Derived.Deep.CutRange

/-
  Whether an address may be, by the program and by the document; its bytes, and any bytes' address, by the document.
-/
namespace Go.Proofs.Ytjdenhkicikfkaa.adC
open Go.ChangeShapes Go.WideShapes Go.ChangeAt Go.RowKit
open Go.Proofs.Ytjdenhkicikfkaa.memC Go.Proofs.Ytjdenhkicikfkaa.genC Go.Proofs.Ytjdenhkicikfkaa.butC Go.Proofs.Ytjdenhkicikfkaa.freeC Go.Proofs.Ytjdenhkicikfkaa.txC
open Go.Proofs.Ytjdenhkicikfkaa.partC (wpList_load_part run_load_part)
set_option linter.unusedVariables false
theorem run_arrayAt {P : Program} {t e : TypeId} {n : Nat} (ht : P.underlying t = some (.array n e)) (A : Option Addr) (l c : Nat) (h : n ≤ l) (w : World) : (Instr.arrayAt t (.slice A l c)).run P w = .ok (.pointer A) w := by
  unfold Instr.arrayAt
  rw [Sem.run_bind, run_underlying ht w]
  simp [Nat.not_lt.2 h]
set_option maxRecDepth 100000 in
theorem eq12 {xs ys : List Int} (hx : xs.length = 12) (hy : ys.length = 12) (w : World) : (Op.equalIn 10000 69 (.agg (vI xs)) (.agg (vI ys))).run Try.prog w = .ok (decide (xs = ys)) w := by
  obtain ⟨i0, hi0, hz0, hz1, hz2⟩ := info_parts byte_inf
  rw [show (10000 : Nat) = 9998 + 1 + 1 from rfl, run_equalIn_array w _ (vI xs) (vI ys) Try.underlying69 hi0, show Try.prog.cellsOf 5 = 1 by kernel_rfl,
    run_each w _ _ .u8 (vI xs) (vI ys) (fun j => xs.getD j 0) (fun j => ys.getD j 0) rfl _ fun j hj => ⟨vI_at (by rw [hx]; exact List.mem_range.1 hj), vI_at (by rw [hy]; exact List.mem_range.1 hj)⟩]
  congr 1
  by_cases h : xs = ys
  · subst h
    simp
  · rw [decide_eq_false h]
    refine Bool.eq_false_iff.2 fun h2 => h ?_
    apply List.ext_getElem?
    intro j
    by_cases hj : j < 12
    · have := List.all_eq_true.1 h2 j (List.mem_range.2 hj)
      have h3 : xs.getD j 0 = ys.getD j 0 := beq_iff_eq.1 this
      rw [List.getD_eq_getElem?_getD, List.getD_eq_getElem?_getD, List.getElem?_eq_getElem (by omega), List.getElem?_eq_getElem (by omega)] at h3
      rw [List.getElem?_eq_getElem (by omega), List.getElem?_eq_getElem (by omega)]
      exact congrArg some h3
    · rw [List.getElem?_eq_none (by omega), List.getElem?_eq_none (by omega)]
theorem eq_run {P : Program} {fr : Act} {o : Oper} {w : World} {T R : TypeId} {s x : Tmp} {A B : Array Value} {q : Bool} (ho : o.op = .binOp .eql T (.tmp s) (.tmp x) R) (hs : fr.tmps[s]?.getD undef = .agg A) (hx : fr.tmps[x]?.getD undef = .agg B)
    (hq : (Op.equalIn 10000 T (.agg A) (.agg B)).run P w = .ok q w) (hgd : P.eqGuardType P.depth T = false) : (execOp fr.eval o).run P w = .ok (.value (.bool q)) w := by
  unfold execOp
  rw [ho]
  go_simp
theorem built_run {P : Program} {fr : Act} {o : Oper} {w : World} {T : TypeId} {C : Array Value} (ho : o.op = .build T #[]) (hb : P.built T [] = some C) : (execOp fr.eval o).run P w = .ok (.value (.agg C)) w := by
  unfold execOp
  have h : (Instr.build T #[]).run P w = .ok (.agg C) w := run_build w T _ C hb
  simp [ho, h, Result.andThen_ok]
theorem loadp_run {P : Program} {fr : Act} {o : Oper} {w : World} {T : TypeId} {s : Tmp} {g q : Nat} (ho : o.op = .load T (.tmp s)) (hs : fr.tmps[s]?.getD undef = .pointer (some ⟨g, q, none⟩)) (l : List Value) (d : TypeDesc) (hc : ∀ j v, l[j]? = some v → w.cell? ⟨g, q + j, none⟩ = some v)
    (hu : P.underlying T = some d) (hd : (match d with | .struct _ | .array _ _ => true | _ => false) = true) (hi : (P.info? T).map (·.size) = some l.length) : (execOp fr.eval o).run P w = .ok (.value (.agg l.toArray)) w := by
  unfold execOp
  have hs' : fr.eval (.tmp s) = .pointer (some ⟨g, q, none⟩) := by simpa only [Act.eval, Array.getD_eq_getD_getElem?] using hs
  simp only [ho, hs', Instr.loadAt, Instr.sureAddr, Sem.run_bind, Sem.run_pure, Result.andThen_ok, run_load_part w g q T l d hc hu hd hi]
theorem guard12 : Try.prog.eqGuardType Try.prog.depth 69 = false := by kernel_rfl
theorem zero12 : Try.prog.built 69 [] = some (vI (zs 12)) := by kernel_rfl
theorem b12_info : (Try.prog.info? 69).map (·.size) = some 12 := by kernel_rfl
/-- whether an address may be -/
def mayL (s : Bool) (b : List Int) : Bool := s || decide (b.drop 4 = zs 12)
set_option maxRecDepth 100000 in
set_option maxHeartbeats 1000000 in
theorem cmay_any (s : Bool) (b : List Int) (w : World) (hl : b.length = 16) : Calls Try.prog 18 #[.agg (adrV s b)] w (Ret w (.bool (mayL s b))) := by
  have HB := Lib.hid (alloc_below w (.cells (adrV s b) 25))
  have k1 : (w.alloc (.cells (adrV s b) 25)).cell? ⟨w.heap.size, 0, none⟩ = some (.bool s) := by rw [cell_new]; exact adrV_six _ _
  have HC := Lib.hid (show ∀ j v, ((b.drop 4).map (Value.int .u8))[j]? = some v → (w.alloc (.cells (adrV s b) 25)).cell? ⟨w.heap.size, 5 + j, none⟩ = some v from fun j v hv => by
    rw [cell_new, show 5 + j = 1 + (4 + j) by omega]
    have hj : 4 + j < b.length := by
      rcases Nat.lt_or_ge (4 + j) b.length with h | h
      · exact h
      · rw [List.getElem?_map, List.getElem?_drop, List.getElem?_eq_none h] at hv; cases hv
    rw [adrV_at hj]
    rw [List.getElem?_map, List.getElem?_drop, List.getElem?_eq_getElem hj] at hv
    rw [List.getD_eq_getElem?_getD, List.getElem?_eq_getElem hj]
    exact hv)
  have hsa : ∀ w', (Instr.arrayAt 69 (.slice (some ⟨w.heap.size, 5, none⟩) 12 12)).run Try.prog w' = .ok (.pointer (some ⟨w.heap.size, 5, none⟩)) w' := fun w' => run_arrayAt Try.underlying69 _ 12 12 (Nat.le_refl _) w'
  have LD : (b.drop 4).length = 12 := by rw [List.length_drop, hl]
  have HE := Lib.hid (fun w' => eq12 LD (zs_len 12) w')
  have HI := Lib.hid (show (Try.prog.info? 69).map (·.size) = some ((b.drop 4).map (Value.int .u8)).length by rw [b12_info, List.length_map, LD])
  obtain ⟨q, hq⟩ : ∃ q, q = decide (b.drop 4 = zs 12) := ⟨_, rfl⟩
  rw [← hq] at HE
  have HM : Hid (mayL s b = (s || q)) := Lib.hid (by rw [hq]; rfl)
  have VI : Hid (vI (b.drop 4) = ((b.drop 4).map (Value.int .u8)).toArray) := Lib.hid rfl
  rw [HM.out]
  rw [VI.out] at HE
  generalize (b.drop 4).map (Value.int .u8) = l at *
  generalize adrV s b = C at *
  obtain ⟨W, hW⟩ : ∃ W, W = w.alloc (.cells C 25) := ⟨_, rfl⟩
  rw [← hW] at HB HC k1
  clear hl LD hq VI
  cases s
  · go_enter Try.func18, Try.ntmps18
    go_upto_region 1 with fail
    rw [← hW]
    clear hW
    go_wp2_with (first
      | (refine wpList_runG (by rfl) _ (loadp_run rfl (by rfl) l _ HC.out Try.underlying69 rfl HI.out) ?_)
      | (refine wpList_runG (by rfl) _ (built_run rfl zero12) ?_)
      | (refine wpList_runG (by rfl) _ (eq_run rfl (by rfl) (by rfl) (HE.out _) guard12) ?_))
    go_ret
    exact ⟨rfl, HB.out⟩
  · go_enter Try.func18, Try.ntmps18
    go_upto_region 1 with fail
    rw [← hW]
    clear hW
    go_wp2_with fail
    go_ret
    exact ⟨rfl, HB.out⟩
theorem zs_get {n j : Nat} (h : j < n) : (zs n)[j]? = some 0 := by unfold zs; rw [List.getElem?_replicate, if_pos h]
/-- some numbers are 0 from a place on -/
theorem drop_zero {b : List Int} (hl : b.length = 16) : (∀ j, 4 ≤ j → j < 16 → b.getD j 0 = 0) ↔ b.drop 4 = zs 12 := by
  constructor
  · intro h
    apply List.ext_getElem?
    intro j
    rw [List.getElem?_drop]
    by_cases hj : j < 12
    · have := h (4 + j) (by omega) (by omega)
      rw [List.getD_eq_getElem?_getD, List.getElem?_eq_getElem (by omega)] at this
      rw [List.getElem?_eq_getElem (by omega)]
      simp only [Option.getD_some] at this
      rw [this, zs_get hj]
    · rw [List.getElem?_eq_none (by omega), List.getElem?_eq_none (by rw [zs_len]; omega)]
  · intro h j h4 h16
    have h1 : (b.drop 4)[j - 4]? = (zs 12)[j - 4]? := by rw [h]
    rw [List.getElem?_drop, show 4 + (j - 4) = j by omega] at h1
    rw [List.getD_eq_getElem?_getD, h1, zs_get (by omega)]
    rfl
set_option maxRecDepth 100000 in
set_option maxHeartbeats 1000000 in
theorem rmay_any (s : Bool) (b : List Int) (w : World) (hl : b.length = 16) : Calls Try.prog 12 #[.agg (adrV s b)] w (Ret w (.bool (mayL s b))) := by
  have HR := Lib.hid (show (w.alloc (.cells (adrV s b) 25)).heap[w.heap.size]? = some (.cells (adrV s b) 25 (0, 0)) from heap_alloc_new w _)
  have HI := Lib.hid (adr_info s hl)
  have HB := Lib.hid (alloc_below w (.cells (adrV s b) 25))
  have SZ := Lib.hid (fun w' => size_any s b w' hl)
  have HC := Lib.hid (fun (w' : World) (hw : w'.heap[w.heap.size]? = some (.cells (adrV s b) 25 (0, 0))) (j : Nat) (hj : j < 16) => (show w'.cell? ⟨w.heap.size, 1 + j, none⟩ = some (.int .u8 (b.getD j 0)) by
    rw [cell_of_row w' w.heap.size (1 + j) _ _ (0, 0) hw]; exact adrV_at (by omega)))
  have HM := Lib.hid (show mayL s b = true ↔ ∀ j, adrN s ≤ j → j < 16 → b.getD j 0 = 0 by
    unfold mayL
    cases s
    · rw [Bool.false_or, decide_eq_true_eq]; exact (drop_zero hl).symm
    · simp only [Bool.true_or, true_iff]; intro j h1 h2; unfold adrN at h1; simp at h1; omega)
  have HN := Lib.hid (adrN_le s)
  generalize mayL s b = M at *
  generalize adrN s = n at *
  generalize adrV s b = C at *
  obtain ⟨W, hW⟩ : ∃ W, W = w.alloc (.cells C 25) := ⟨_, rfl⟩
  rw [← hW] at HR HB
  clear hl
  go_enter Try.func12, Try.ntmps12
  go_upto_region 1 with fail
  rw [← hW]
  clear hW
  go_upto_region 2 with (first
    | (refine wpList_load_row rfl 25 (.tmp 1) rfl w.heap.size rfl _ _ _ _ HR.out Try.underlying25 rfl HI.out ?_)
    | (go_at_call 24; (refine (SZ.out _).mono ?_); rintro e w2 ⟨rfl, B2⟩
       have HB2 := Lib.hid (HB.out.trans (B2.mono HB.out.size))
       have HR2 := Lib.hid (show w2.heap[w.heap.size]? = some (.cells C 25 (0, 0)) by rw [B2.block _ (lt_of_row HR.out)]; exact HR.out)
       clear B2))
  go_loop [3] (fun v => ∃ i : Nat, v = .int .i64 i ∧ n ≤ i ∧ i ≤ 16 ∧ ∀ j, n ≤ j → j < i → b.getD j 0 = 0) (fun v => 16 - (intOf v).toNat)
  case atStart => exact ⟨n, rfl, Nat.le_refl _, HN.out, fun j h1 h2 => by omega⟩
  case round =>
    obtain ⟨i, rfl, hi1, hi2, hz⟩ := hrel
    have HZ := Lib.hid hz
    clear hz
    by_cases hlt : i < 16
    · have c0 := HC.out w2 HR2.out i hlt
      have hiz : (i : Int) < 16 := by omega
      obtain ⟨x, hx⟩ : ∃ x, x = b.getD i 0 := ⟨_, rfl⟩
      have HX := Lib.hid hx
      rw [← hx] at c0
      clear hx
      by_cases h0 : x = 0
      · subst h0
        go_wp2_with fail
        go_round
        case rel => exact ⟨i + 1, by go_num, by omega, by omega, fun j h1 h2 => by
          rcases Nat.lt_or_ge j i with h | h
          · exact HZ.out j h1 h
          · obtain rfl : j = i := by omega
            exact HX.out.symm⟩
        case measure => simp [intOf]; omega
      · have hxz : (x != 0) = true := by simpa using h0
        have HF := Lib.hid (show M = false by
          cases hM : M with
          | false => rfl
          | true => exact absurd (HX.out.trans (HM.out.1 hM i hi1 hlt)) h0)
        go_wp2_with fail
        go_ret
        exact ⟨by rw [HF.out]; rfl, HB2.out⟩
    · have HF := Lib.hid (show M = true from HM.out.2 fun j h1 h2 => HZ.out j h1 (by omega))
      go_wp2_with fail
      go_ret
      exact ⟨by rw [HF.out]; rfl, HB2.out⟩
end Go.Proofs.Ytjdenhkicikfkaa.adC

/-
  The program's addresses: masked.
-/
namespace Go.Proofs.Ytjdenhkicikfkaa.adC
open Go.ChangeShapes Go.WideShapes Go.ChangeAt Go.RowKit
open Go.Proofs.Ytjdenhkicikfkaa.memC Go.Proofs.Ytjdenhkicikfkaa.genC Go.Proofs.Ytjdenhkicikfkaa.butC Go.Proofs.Ytjdenhkicikfkaa.freeC Go.Proofs.Ytjdenhkicikfkaa.txC
set_option linter.unusedVariables false
/-- how many of a byte's bits are kept -/
def kpN (len : Int) (i : Nat) : Nat := (min (max (len - 8 * (i : Int)) 0) 8).toNat
theorem kpN_is (len : Int) (i : Nat) : (kpN len i : Int) = min (max (len - 8 * (i : Int)) 0) 8 := by unfold kpN; omega
theorem kpN_le (len : Int) (i : Nat) : kpN len i ≤ 8 := by unfold kpN; omega
/-- a byte of which k bits are kept -/
def mk1 (x : Int) (k : Nat) : Int := x - x % (2 ^ (8 - k) : Nat)
theorem mk1_all : ∀ k : Nat, k < 9 → ∀ n : Nat, n < 256 → bits .andNot .u8 (n : Int) ((255 / 2 ^ k : Nat) : Int) = mk1 n k := by decide +kernel
theorem mk1_byte {x : Int} (h : Byte x) (k : Nat) : Byte (mk1 x k) := by
  unfold Byte at *
  unfold mk1
  have hp : (0 : Int) < ((2 ^ (8 - k) : Nat) : Int) := by exact_mod_cast Nat.two_pow_pos _
  have h1 := Int.emod_nonneg x (Int.ne_of_gt hp)
  have h2 : x % ((2 ^ (8 - k) : Nat) : Int) ≤ x := by
    rcases Int.lt_or_le x ((2 ^ (8 - k) : Nat) : Int) with h3 | h3
    · rw [Int.emod_eq_of_lt h.1 h3]; exact Int.le_refl _
    · have := Int.emod_lt_of_pos x hp; omega
  omega
def mskT (b : List Int) (len : Int) : Nat → List Int
  | 0 => b
  | k + 1 => (mskT b len k).set k (mk1 (b.getD k 0) (kpN len k))
theorem mskT_len (b : List Int) (len : Int) : ∀ k, (mskT b len k).length = b.length
  | 0 => rfl
  | k + 1 => by unfold mskT; rw [List.length_set]; exact mskT_len b len k
theorem mskT_at (b : List Int) (len : Int) : ∀ k j, j < b.length → (mskT b len k).getD j 0 = if j < k then mk1 (b.getD j 0) (kpN len j) else b.getD j 0
  | 0, j, _ => by rw [if_neg (Nat.not_lt_zero _)]; rfl
  | k + 1, j, hj => by
    have ih := mskT_at b len k j hj
    have hl := mskT_len b len k
    unfold mskT
    by_cases h : j = k
    · subst h
      rw [if_pos (Nat.lt_succ_self _), List.getD_eq_getElem?_getD, List.getElem?_set_self (by omega)]
      rfl
    · rw [List.getD_eq_getElem?_getD, List.getElem?_set_ne (fun e => h e.symm), ← List.getD_eq_getElem?_getD, ih]
      by_cases h2 : j < k
      · rw [if_pos h2, if_pos (by omega)]
      · rw [if_neg h2, if_neg (by omega)]
def mskL (b : List Int) (len : Int) : List Int := mskT b len 16
theorem mskL_len {b : List Int} (len : Int) (h : b.length = 16) : (mskL b len).length = 16 := (mskT_len b len 16).trans h
theorem mskL_at {b : List Int} (len : Int) (h : b.length = 16) {j : Nat} (hj : j < 16) : (mskL b len).getD j 0 = mk1 (b.getD j 0) (kpN len j) := by
  unfold mskL; rw [mskT_at b len 16 j (by omega), if_pos hj]
/-- an address masked, or refused -/
def maskO (s : Bool) (b : List Int) (len : Int) : Option (Bool × List Int) := if len < 0 ∨ 8 * (adrN s : Int) < len then none else some (s, mskL b len)
structure MS (w : World) (s : Bool) (b : List Int) (wr : World) : Prop where
  bel : Below w.heap.size w wr
  row : wr.heap[w.heap.size]? = some (.cells (adrV s b) 25 (0, 0))
  res : wr.heap[w.heap.size + 1]? = some (.cells zAdr 25 (0, 0))
  len : b.length = 16
section
variable {w wr w' : World} {s : Bool} {b : List Int}
theorem MS.below (h : MS w s b wr) (hb : Below wr.heap.size wr w') : MS w s b w' :=
  ⟨h.bel.trans (hb.mono h.bel.size), by rw [hb.block _ (lt_of_row h.row)]; exact h.row, by rw [hb.block _ (lt_of_row h.res)]; exact h.res, h.len⟩
theorem MS.set (h : MS w s b wr) (i : Nat) (x : Int) : MS w s (b.set i x) (wr.setCell ⟨w.heap.size, 1 + i, none⟩ (.int .u8 x)) := by
  refine ⟨h.bel.setCell (p := ⟨w.heap.size, 1 + i, none⟩) (Nat.le_refl _) _, ?_, ?_, by rw [List.length_set]; exact h.len⟩
  · rw [heap_setCell_same wr w.heap.size (1 + i) _ 25 _ h.row, adrV_set]
  · rw [heap_setCell_other wr ⟨w.heap.size, 1 + i, none⟩ _ _ (fun e => by simp at e)]; exact h.res
theorem MS.cell (h : MS w s b wr) {i : Nat} (hi : i < 16) : wr.cell? ⟨w.heap.size, 1 + i, none⟩ = some (.int .u8 (b.getD i 0)) := by
  rw [cell_of_row wr w.heap.size (1 + i) _ _ (0, 0) h.row]; exact adrV_at (by rw [h.len]; exact hi)
theorem MS.frozen (h : MS w s b wr) (i : Nat) : wr.frozen? ⟨w.heap.size, i, none⟩ = false := frozen_of_row wr w.heap.size i _ 25 h.row
theorem MS.heap (h : MS w s b wr) (h1 : w'.heap = wr.heap) (h2 : w'.os = wr.os) (h3 : w'.output = wr.output) (h4 : w'.tape = wr.tape) : MS w s b w' :=
  ⟨⟨h2.trans h.bel.os, h4.trans h.bel.tape, h3.trans h.bel.output, by rw [h1]; exact h.bel.size, fun j hj => by rw [h1]; exact h.bel.block j hj⟩, by rw [h1]; exact h.row, by rw [h1]; exact h.res, h.len⟩
end
theorem ms_new (w : World) (s : Bool) {b : List Int} (h : b.length = 16) : MS w s b ((w.alloc (.cells (adrV s b) 25)).alloc (.cells zAdr 25)) := by
  have e1 : (w.alloc (.cells (adrV s b) 25)).heap.size = w.heap.size + 1 := alloc_size _ _
  exact ⟨((Below.refl _ _).alloc (Nat.le_refl _) _).alloc (by simp) _, by rw [Below.block (alloc_below _ _) _ (by rw [e1]; omega)]; exact heap_alloc_new w _, by rw [← e1]; exact heap_alloc_new _ _, h⟩
set_option maxRecDepth 100000 in
set_option maxHeartbeats 1000000 in
theorem mask_low (s : Bool) (b : List Int) (len : Int) (w : World) (hl : b.length = 16) (h : len < 0) : Calls Try.prog 20 #[.agg (adrV s b), .int .i64 len] w (ORet 1 w (maskO s b len)) := by
  have hzv := zeroAdr
  have T0 := Lib.hid (ms_new w s hl)
  have Z0 := Lib.hid z_info; have Z1 := Lib.hid z_one; have Z2 := Lib.hid built_zero
  have HV : Hid (maskO s b len = none) := Lib.hid (by unfold maskO; rw [if_pos (.inl h)])
  rw [HV.out]
  obtain ⟨W, hW⟩ : ∃ W, W = (w.alloc (.cells (adrV s b) 25)).alloc (.cells zAdr 25) := ⟨_, rfl⟩
  rw [← hW] at T0
  have HR0 := Lib.hid T0.out.res
  have HBW := Lib.hid T0.out.bel
  have e1 : (w.alloc (.cells (adrV s b) 25)).heap.size = w.heap.size + 1 := alloc_size _ _
  generalize adrV s b = C at *
  generalize hZ : zAdr = Z at *
  have HZ := Lib.hid hZ
  clear hZ
  go_enter Try.func20, Try.ntmps20
  go_upto_region 1 with fail
  rw [← hW]
  clear hW e1
  go_wp2_with (first
    | (refine wpList_zero rfl 25 rfl Z Z2.out ?_)
    | (refine wpList_store_row rfl 25 (.tmp 4) (.tmp 17) rfl (w.heap.size + 1) Z rfl rfl _ _ HR0.out Z0.out rfl Z1.out ?_))
  refine bodyPost_ret (v := .tuple #[.agg Z, .int .i64 1]) (results_cell_tmp Try.results20 _ _ (w.heap.size + 1) _ _ _ _ _ (by rfl) (setRow_heap _ _ _ _ _ _ HR0.out) Try.underlying25 rfl Z0.out (by rfl)) rfl ?_
  exact ⟨by rw [← HZ.out], HBW.out.trans ⟨rfl, rfl, rfl, by simp, fun z hz => setRow_other _ _ _ _ (by omega)⟩⟩
end Go.Proofs.Ytjdenhkicikfkaa.adC

/-
  The program's addresses: masked, going on.
-/
namespace Go.Proofs.Ytjdenhkicikfkaa.adC
open Go.ChangeShapes Go.WideShapes Go.ChangeAt Go.RowKit
open Go.Proofs.Ytjdenhkicikfkaa.memC Go.Proofs.Ytjdenhkicikfkaa.genC Go.Proofs.Ytjdenhkicikfkaa.butC Go.Proofs.Ytjdenhkicikfkaa.freeC Go.Proofs.Ytjdenhkicikfkaa.txC
set_option linter.unusedVariables false
set_option maxRecDepth 100000 in
set_option maxHeartbeats 1000000 in
theorem mask_high (s : Bool) (b : List Int) (len : Int) (w : World) (hl : b.length = 16) (h0 : ¬ len < 0) (h : 8 * (adrN s : Int) < len) : Calls Try.prog 20 #[.agg (adrV s b), .int .i64 len] w (ORet 1 w (maskO s b len)) := by
  have hzv := zeroAdr
  have T0 := Lib.hid (ms_new w s hl)
  have Z0 := Lib.hid z_info; have Z1 := Lib.hid z_one; have Z2 := Lib.hid built_zero
  have HV : Hid (maskO s b len = none) := Lib.hid (by unfold maskO; rw [if_pos (.inr h)])
  rw [HV.out]
  obtain ⟨W, hW⟩ : ∃ W, W = (w.alloc (.cells (adrV s b) 25)).alloc (.cells zAdr 25) := ⟨_, rfl⟩
  rw [← hW] at T0
  have HR0 := Lib.hid T0.out.res
  have HR := Lib.hid T0.out.row
  have HBW := Lib.hid T0.out.bel
  have HI := Lib.hid (adr_info s hl)
  obtain ⟨z, hz⟩ : ∃ z : Int, z = (adrN s : Int) := ⟨_, rfl⟩
  have SZ := Lib.hid (fun w' => csize_any s b w' hl z hz)
  have hn := adrN_le s
  rw [← hz] at h
  have e8 : 0 ≤ z := by omega
  have e9 : z ≤ 16 := by omega
  clear hn hz
  generalize adrV s b = C at *
  generalize hZ : zAdr = Z at *
  have HZ := Lib.hid hZ
  clear hZ T0
  go_enter Try.func20, Try.ntmps20
  go_upto_region 1 with fail
  rw [← hW]
  clear hW
  go_wp2_with (first
    | (refine wpList_load_rowG (by rfl) 25 (.tmp 2) rfl w.heap.size rfl _ _ _ _ HR.out Try.underlying25 rfl HI.out ?_)
    | (go_at_call 29; (refine (SZ.out _).mono ?_); rintro e w2 ⟨rfl, B2⟩
       have HB2 := Lib.hid (HBW.out.trans (B2.mono HBW.out.size))
       have HR2 := Lib.hid (show w2.heap[w.heap.size + 1]? = some (.cells Z 25 (0, 0)) by rw [B2.block _ (lt_of_row HR0.out)]; exact HR0.out)
       clear B2)
    | (refine wpList_zero rfl 25 rfl Z Z2.out ?_)
    | (refine wpList_store_row rfl 25 (.tmp 4) (.tmp 17) rfl (w.heap.size + 1) Z rfl rfl _ _ HR2.out Z0.out rfl Z1.out ?_))
  refine bodyPost_ret (v := .tuple #[.agg Z, .int .i64 1]) (results_cell_tmp Try.results20 _ _ (w.heap.size + 1) _ _ _ _ _ (by rfl) (setRow_heap _ _ _ _ _ _ HR2.out) Try.underlying25 rfl Z0.out (by rfl)) rfl ?_
  exact ⟨by rw [← HZ.out], HB2.out.trans ⟨rfl, rfl, rfl, by simp, fun z hz => setRow_other _ _ _ _ (by omega)⟩⟩
set_option maxRecDepth 100000 in
set_option maxHeartbeats 2000000 in
theorem mask_in (s : Bool) (b : List Int) (len : Int) (w : World) (hl : b.length = 16) (hy : ∀ x ∈ b, Byte x) (h0 : ¬ len < 0) (h : ¬ 8 * (adrN s : Int) < len) : Calls Try.prog 20 #[.agg (adrV s b), .int .i64 len] w (ORet 1 w (maskO s b len)) := by
  have hzv := zeroAdr
  have T0 := Lib.hid (ms_new w s hl)
  have HV : Hid (maskO s b len = some (s, mskT b len 16)) := Lib.hid (by unfold maskO; rw [if_neg (by omega)]; rfl)
  rw [HV.out]
  obtain ⟨W, hW⟩ : ∃ W, W = (w.alloc (.cells (adrV s b) 25)).alloc (.cells zAdr 25) := ⟨_, rfl⟩
  rw [← hW] at T0
  have HR := Lib.hid T0.out.row
  have HI := Lib.hid (adr_info s hl)
  obtain ⟨z, hz⟩ : ∃ z : Int, z = (adrN s : Int) := ⟨_, rfl⟩
  have SZ := Lib.hid (fun w' => csize_any s b w' hl z hz)
  have hn := adrN_le s
  rw [← hz] at h
  have e8 : 0 ≤ z := by omega
  have e9 : z ≤ 16 := by omega
  have e10 : len ≤ 128 := by omega
  have e11 : 0 ≤ len := by omega
  have ST : Hid (∀ k, mskT b len (k + 1) = (mskT b len k).set k (mk1 (b.getD k 0) (kpN len k))) := Lib.hid fun _ => rfl
  have AT := Lib.hid (fun (k : Nat) (hk : k < 16) => (show (mskT b len k).getD k 0 = b.getD k 0 by rw [mskT_at b len k k (by omega), if_neg (Nat.lt_irrefl _)]))
  have BY := Lib.hid (fun (k : Nat) (hk : k < 16) => getD_byte hy (k := k) (by omega))
  have UF := Lib.hid (fun (k : Nat) => (show _ ∧ _ ∧ _ from And.intro (adr_info s ((mskT_len b len k).trans hl)) (And.intro (z_size s ((mskT_len b len k).trans hl)) (adrV_one s (mskT b len k)))))
  have T1 : Hid (MS w s (mskT b len 0) W) := Lib.hid T0.out
  clear hn hz T0 hl hy
  generalize adrV s b = C at *
  go_enter Try.func20, Try.ntmps20
  go_upto_region 1 with fail
  rw [← hW]
  clear hW
  go_upto_region 3 with (first
    | (refine wpList_load_rowG (by rfl) 25 (.tmp 2) rfl w.heap.size rfl _ _ _ _ HR.out Try.underlying25 rfl HI.out ?_)
    | (go_at_call 29; (refine (SZ.out _).mono ?_); rintro e w2 ⟨rfl, B2⟩
       have HT2 := Lib.hid (T1.out.below B2)
       clear B2))
  clear h e8 e9 hzv
  go_wp2_with fail
  go_loopw [18] (fun v wr => ∃ i : Nat, i ≤ 16 ∧ v = .int .i64 i ∧ MS w s (mskT b len i) wr) (fun v _ => 16 - (intOf v).toNat)
  case atStart => exact ⟨0, by omega, rfl, HT2.out⟩
  case round =>
    obtain ⟨i, hi, rfl, KK⟩ := hrel
    have HK := Lib.hid KK
    clear KK
    by_cases hlt : i < 16
    · have hiz : (i : Int) < 16 := by omega
      have c0 := HK.out.cell hlt
      rw [AT.out i hlt] at c0
      have f0 := HK.out.frozen (1 + i)
      have hb := BY.out i hlt
      have HS := Lib.hid (HK.out.set i (mk1 (b.getD i 0) (kpN len i)))
      rw [← ST.out i] at HS
      have hk := kpN_is len i
      have hk8 := kpN_le len i
      have HM := Lib.hid (show ∀ x : Int, Byte x → bits .andNot .u8 x ((255 : Int) / 2 ^ (kpN len i)) = mk1 x (kpN len i) from fun x hx => by
        unfold Byte at hx
        have := mk1_all (kpN len i) (by omega) x.toNat (by omega)
        rw [show ((x.toNat : Nat) : Int) = x by omega] at this
        rw [← this]
        push_cast
        rfl)
      have hm := HM.out _ hb
      obtain ⟨d, hd⟩ : ∃ d : Int, d = len - 8 * (i : Int) := ⟨_, rfl⟩
      obtain ⟨p, hp⟩ : ∃ p : Int, p = 8 * (i : Int) := ⟨_, rfl⟩
      generalize mk1 (b.getD i 0) (kpN len i) = y at *
      generalize b.getD i 0 = x at *
      generalize kpN len i = k at *
      clear HM
      have hki : (k : Int) = (if 8 < (if len - 8 * (i : Int) < 0 then 0 else len - 8 * (i : Int)) then 8 else (if len - 8 * (i : Int) < 0 then 0 else len - 8 * (i : Int))) := by
        rw [hk]
        split <;> split <;> omega
      have HKI := Lib.hid hki
      clear hki
      go_upto_region 7 with fail
      first
        | rw [← hk]
        | rw [← HKI.out]
      clear hk hd hp
      have kz : (k : Int) ≤ 8 := by omega
      go_still_tail 9, (by kernel_rfl)
      change wpList _ _ _ _ _ wr.drew
      go_wp2_with fail
      go_roundw
      case rel => exact ⟨i + 1, by omega, by go_num, HS.out.heap rfl rfl rfl rfl⟩
      case measure => simp [intOf]; omega
    · have e : i = 16 := by omega
      subst e
      have HR := Lib.hid HK.out.row
      have HR0 := Lib.hid HK.out.res
      have HB := Lib.hid HK.out.bel
      have U := Lib.hid (UF.out 16)
      generalize hTT : adrV s (mskT b len 16) = T at *
      have HTT := Lib.hid hTT
      clear hTT
      go_wp2_with (first
        | (refine wpList_load_row rfl 25 (.tmp 2) rfl w.heap.size rfl _ _ _ _ HR.out Try.underlying25 rfl U.out.1 ?_)
        | (refine wpList_store_row rfl 25 (.tmp 4) (.tmp 37) rfl (w.heap.size + 1) _ rfl rfl _ _ HR0.out U.out.1 U.out.2.1 U.out.2.2 ?_))
      refine bodyPost_ret (v := .tuple #[.agg T, .int .i64 0]) (results_cell_tmp Try.results20 _ _ (w.heap.size + 1) _ _ _ _ _ (by rfl) (setRow_heap _ _ _ _ _ _ HR0.out) Try.underlying25 rfl U.out.1 (by rfl)) rfl ?_
      exact ⟨by rw [← HTT.out], HB.out.trans ⟨rfl, rfl, rfl, by simp, fun z hz => setRow_other _ _ _ _ (by omega)⟩⟩
theorem mask_any (s : Bool) (b : List Int) (len : Int) (w : World) (hl : b.length = 16) (hy : ∀ x ∈ b, Byte x) : Calls Try.prog 20 #[.agg (adrV s b), .int .i64 len] w (ORet 1 w (maskO s b len)) := by
  by_cases h0 : len < 0
  · exact mask_low s b len w hl h0
  · by_cases h : 8 * (adrN s : Int) < len
    · exact mask_high s b len w hl h0 h
    · exact mask_in s b len w hl hy h0 h
theorem maskO_cases (s : Bool) (b : List Int) (len : Int) : maskO s b len = none ∨ maskO s b len = some (s, mskL b len) := by unfold maskO; split <;> simp
end Go.Proofs.Ytjdenhkicikfkaa.adC

/-
  The program's addresses: whether one lies in a prefix.
-/
namespace Go.Proofs.Ytjdenhkicikfkaa.adC
open Go.ChangeShapes Go.WideShapes Go.ChangeAt Go.RowKit
open Go.Proofs.Ytjdenhkicikfkaa.memC Go.Proofs.Ytjdenhkicikfkaa.genC Go.Proofs.Ytjdenhkicikfkaa.butC Go.Proofs.Ytjdenhkicikfkaa.freeC Go.Proofs.Ytjdenhkicikfkaa.txC
set_option linter.unusedVariables false
/-- an address that was answered -/
def outO (o : Option (Bool × List Int)) : Bool × List Int := match o with | some x => x | none => (false, zs 16)
/-- whether one lies in a prefix, as the program tells it -/
def liesL (s : Bool) (a : List Int) (s' : Bool) (b : List Int) (len : Int) : Bool := (maskO s a len).isSome && decide ((outO (maskO s a len)).1 = (outO (maskO s' b len)).1 ∧ (outO (maskO s a len)).2 = (outO (maskO s' b len)).2)
end Go.Proofs.Ytjdenhkicikfkaa.adC
