/-
  4 texts of a proof, joined.
-/
import Derived.Test.YtflfkhcbkhdahaaMg6
import Derived.Test.YtflfkhcbkhdahaaMg8
import Derived.Deep.CutRange

/-
  Whether an address may be, by the program and by the document; its bytes, and any bytes' address, by the document.
-/
namespace Go.Proofs.Ytflfkhcbkhdahaa.adC
open Go.ChangeShapes Go.WideShapes Go.ChangeAt Go.RowKit
open Go.Proofs.Ytflfkhcbkhdahaa.memC Go.Proofs.Ytflfkhcbkhdahaa.genC Go.Proofs.Ytflfkhcbkhdahaa.butC Go.Proofs.Ytflfkhcbkhdahaa.freeC Go.Proofs.Ytflfkhcbkhdahaa.txC
open Go.Proofs.Ytflfkhcbkhdahaa.partC (wpList_load_part run_load_part)
set_option linter.unusedVariables false
theorem eq_run {P : Program} {fr : Act} {o : Oper} {w : World} {T R : TypeId} {s x : Tmp} {A B : Array Value} {q : Bool} (ho : o.op = .binOp .eql T (.tmp s) (.tmp x) R) (hs : fr.tmps[s]?.getD undef = .agg A) (hx : fr.tmps[x]?.getD undef = .agg B)
    (hq : (Op.equalIn 10000 T (.agg A) (.agg B)).run P w = .ok q w) (hgd : P.eqGuardType P.depth T = false) : (execOp fr.eval o).run P w = .ok (.value (.bool q)) w := by
  unfold execOp
  rw [ho]
  go_simp
theorem built_run {P : Program} {fr : Act} {o : Oper} {w : World} {T : TypeId} {C : Array Value} (ho : o.op = .build T #[]) (hb : P.built T [] = some C) : (execOp fr.eval o).run P w = .ok (.value (.agg C)) w := by
  unfold execOp
  have h : (Instr.build T #[]).run P w = .ok (.agg C) w := run_build w T _ C hb
  simp [ho, h, Result.andThen_ok]
theorem loadp_run {P : Program} {fr : Act} {o : Oper} {w : World} {T : TypeId} {s : Tmp} {g q : Nat} (ho : o.op = .load T (.tmp s)) (hs : fr.tmps[s]?.getD undef = .pointer (some ⟨g, q, none⟩)) (l : List Value) (d : TypeDesc) (hc : ∀ j v, l[j]? = some v → w.cell? ⟨g, q + j, none⟩ = some v)
    (hu : P.underlying T = some d) (hd : (match d with | .struct _ | .array _ _ => true | _ => false) = true) (hi : (P.info? T).map (·.size) = some l.length) : (execOp fr.eval o).run P w = .ok (.value (.agg l.toArray)) w := by
  unfold execOp
  have hs' : fr.eval (.tmp s) = .pointer (some ⟨g, q, none⟩) := by simpa only [Act.eval, Array.getD_eq_getD_getElem?] using hs
  simp only [ho, hs', Instr.loadAt, Instr.sureAddr, Sem.run_bind, Sem.run_pure, Result.andThen_ok, run_load_part w g q T l d hc hu hd hi]
end Go.Proofs.Ytflfkhcbkhdahaa.adC

/-
  The program's addresses: masked.
-/
namespace Go.Proofs.Ytflfkhcbkhdahaa.adC
open Go.ChangeShapes Go.WideShapes Go.ChangeAt Go.RowKit
open Go.Proofs.Ytflfkhcbkhdahaa.memC Go.Proofs.Ytflfkhcbkhdahaa.genC Go.Proofs.Ytflfkhcbkhdahaa.butC Go.Proofs.Ytflfkhcbkhdahaa.freeC Go.Proofs.Ytflfkhcbkhdahaa.txC
set_option linter.unusedVariables false
/-- how many of a byte's bits are kept -/
def kpN (len : Int) (i : Nat) : Nat := (min (max (len - 8 * (i : Int)) 0) 8).toNat
theorem kpN_is (len : Int) (i : Nat) : (kpN len i : Int) = min (max (len - 8 * (i : Int)) 0) 8 := by unfold kpN; omega
theorem kpN_le (len : Int) (i : Nat) : kpN len i ≤ 8 := by unfold kpN; omega
/-- a byte of which k bits are kept -/
def mk1 (x : Int) (k : Nat) : Int := x - x % (2 ^ (8 - k) : Nat)
theorem mk1_all : ∀ k : Nat, k < 9 → ∀ n : Nat, n < 256 → bits .andNot .u8 (n : Int) ((255 / 2 ^ k : Nat) : Int) = mk1 n k := by decide +kernel
theorem mk1_byte {x : Int} (h : Byte x) (k : Nat) : Byte (mk1 x k) := by
  unfold Byte at *
  unfold mk1
  have hp : (0 : Int) < ((2 ^ (8 - k) : Nat) : Int) := by exact_mod_cast Nat.two_pow_pos _
  have h1 := Int.emod_nonneg x (Int.ne_of_gt hp)
  have h2 : x % ((2 ^ (8 - k) : Nat) : Int) ≤ x := by
    rcases Int.lt_or_le x ((2 ^ (8 - k) : Nat) : Int) with h3 | h3
    · rw [Int.emod_eq_of_lt h.1 h3]; exact Int.le_refl _
    · have := Int.emod_lt_of_pos x hp; omega
  omega
def mskT (b : List Int) (len : Int) : Nat → List Int
  | 0 => b
  | k + 1 => (mskT b len k).set k (mk1 (b.getD k 0) (kpN len k))
theorem mskT_len (b : List Int) (len : Int) : ∀ k, (mskT b len k).length = b.length
  | 0 => rfl
  | k + 1 => by unfold mskT; rw [List.length_set]; exact mskT_len b len k
theorem mskT_at (b : List Int) (len : Int) : ∀ k j, j < b.length → (mskT b len k).getD j 0 = if j < k then mk1 (b.getD j 0) (kpN len j) else b.getD j 0
  | 0, j, _ => by rw [if_neg (Nat.not_lt_zero _)]; rfl
  | k + 1, j, hj => by
    have ih := mskT_at b len k j hj
    have hl := mskT_len b len k
    unfold mskT
    by_cases h : j = k
    · subst h
      rw [if_pos (Nat.lt_succ_self _), List.getD_eq_getElem?_getD, List.getElem?_set_self (by omega)]
      rfl
    · rw [List.getD_eq_getElem?_getD, List.getElem?_set_ne (fun e => h e.symm), ← List.getD_eq_getElem?_getD, ih]
      by_cases h2 : j < k
      · rw [if_pos h2, if_pos (by omega)]
      · rw [if_neg h2, if_neg (by omega)]
def mskL (b : List Int) (len : Int) : List Int := mskT b len 16
theorem mskL_len {b : List Int} (len : Int) (h : b.length = 16) : (mskL b len).length = 16 := (mskT_len b len 16).trans h
theorem mskL_at {b : List Int} (len : Int) (h : b.length = 16) {j : Nat} (hj : j < 16) : (mskL b len).getD j 0 = mk1 (b.getD j 0) (kpN len j) := by
  unfold mskL; rw [mskT_at b len 16 j (by omega), if_pos hj]
/-- an address masked, or refused -/
def maskO (s : Bool) (b : List Int) (len : Int) : Option (Bool × List Int) := if len < 0 ∨ 8 * (adrN s : Int) < len then none else some (s, mskL b len)
structure MS (w : World) (s : Bool) (b : List Int) (wr : World) : Prop where
  bel : Below w.heap.size w wr
  row : wr.heap[w.heap.size]? = some (.cells (adrV s b) 25 (0, 0))
  res : wr.heap[w.heap.size + 1]? = some (.cells zAdr 25 (0, 0))
  len : b.length = 16
section
variable {w wr w' : World} {s : Bool} {b : List Int}
theorem MS.below (h : MS w s b wr) (hb : Below wr.heap.size wr w') : MS w s b w' :=
  ⟨h.bel.trans (hb.mono h.bel.size), by rw [hb.block _ (lt_of_row h.row)]; exact h.row, by rw [hb.block _ (lt_of_row h.res)]; exact h.res, h.len⟩
theorem MS.set (h : MS w s b wr) (i : Nat) (x : Int) : MS w s (b.set i x) (wr.setCell ⟨w.heap.size, 1 + i, none⟩ (.int .u8 x)) := by
  refine ⟨h.bel.setCell (p := ⟨w.heap.size, 1 + i, none⟩) (Nat.le_refl _) _, ?_, ?_, by rw [List.length_set]; exact h.len⟩
  · rw [heap_setCell_same wr w.heap.size (1 + i) _ 25 _ h.row, adrV_set]
  · rw [heap_setCell_other wr ⟨w.heap.size, 1 + i, none⟩ _ _ (fun e => by simp at e)]; exact h.res
theorem MS.cell (h : MS w s b wr) {i : Nat} (hi : i < 16) : wr.cell? ⟨w.heap.size, 1 + i, none⟩ = some (.int .u8 (b.getD i 0)) := by
  rw [cell_of_row wr w.heap.size (1 + i) _ _ (0, 0) h.row]; exact adrV_at (by rw [h.len]; exact hi)
theorem MS.frozen (h : MS w s b wr) (i : Nat) : wr.frozen? ⟨w.heap.size, i, none⟩ = false := frozen_of_row wr w.heap.size i _ 25 h.row
theorem MS.heap (h : MS w s b wr) (h1 : w'.heap = wr.heap) (h2 : w'.os = wr.os) (h3 : w'.output = wr.output) (h4 : w'.tape = wr.tape) : MS w s b w' :=
  ⟨⟨h2.trans h.bel.os, h4.trans h.bel.tape, h3.trans h.bel.output, by rw [h1]; exact h.bel.size, fun j hj => by rw [h1]; exact h.bel.block j hj⟩, by rw [h1]; exact h.row, by rw [h1]; exact h.res, h.len⟩
end
theorem ms_new (w : World) (s : Bool) {b : List Int} (h : b.length = 16) : MS w s b ((w.alloc (.cells (adrV s b) 25)).alloc (.cells zAdr 25)) := by
  have e1 : (w.alloc (.cells (adrV s b) 25)).heap.size = w.heap.size + 1 := alloc_size _ _
  exact ⟨((Below.refl _ _).alloc (Nat.le_refl _) _).alloc (by simp) _, by rw [Below.block (alloc_below _ _) _ (by rw [e1]; omega)]; exact heap_alloc_new w _, by rw [← e1]; exact heap_alloc_new _ _, h⟩
set_option maxRecDepth 100000 in
set_option maxHeartbeats 1000000 in
theorem mask_low (s : Bool) (b : List Int) (len : Int) (w : World) (hl : b.length = 16) (h : len < 0) : Calls Try.prog 47 #[.agg (adrV s b), .int .i64 len] w (ORet 1 w (maskO s b len)) := by
  have hzv := zeroAdr
  have T0 := Lib.hid (ms_new w s hl)
  have Z0 := Lib.hid z_info; have Z1 := Lib.hid z_one; have Z2 := Lib.hid built_zero
  have HV : Hid (maskO s b len = none) := Lib.hid (by unfold maskO; rw [if_pos (.inl h)])
  rw [HV.out]
  obtain ⟨W, hW⟩ : ∃ W, W = (w.alloc (.cells (adrV s b) 25)).alloc (.cells zAdr 25) := ⟨_, rfl⟩
  rw [← hW] at T0
  have HR0 := Lib.hid T0.out.res
  have HBW := Lib.hid T0.out.bel
  have e1 : (w.alloc (.cells (adrV s b) 25)).heap.size = w.heap.size + 1 := alloc_size _ _
  generalize adrV s b = C at *
  generalize hZ : zAdr = Z at *
  have HZ := Lib.hid hZ
  clear hZ
  go_enter Try.func47, Try.ntmps47
  go_upto_region 1 with fail
  rw [← hW]
  clear hW e1
  go_wp2_with (first
    | (refine wpList_zero rfl 25 rfl Z Z2.out ?_)
    | (refine wpList_store_row rfl 25 (.tmp 4) (.tmp 17) rfl (w.heap.size + 1) Z rfl rfl _ _ HR0.out Z0.out rfl Z1.out ?_))
  refine bodyPost_ret (v := .tuple #[.agg Z, .int .i64 1]) (results_cell_tmp Try.results47 _ _ (w.heap.size + 1) _ _ _ _ _ (by rfl) (setRow_heap _ _ _ _ _ _ HR0.out) Try.underlying25 rfl Z0.out (by rfl)) rfl ?_
  exact ⟨by rw [← HZ.out], HBW.out.trans ⟨rfl, rfl, rfl, by simp, fun z hz => setRow_other _ _ _ _ (by omega)⟩⟩
end Go.Proofs.Ytflfkhcbkhdahaa.adC

/-
  The program's addresses: masked, going on.
-/
namespace Go.Proofs.Ytflfkhcbkhdahaa.adC
open Go.ChangeShapes Go.WideShapes Go.ChangeAt Go.RowKit
open Go.Proofs.Ytflfkhcbkhdahaa.memC Go.Proofs.Ytflfkhcbkhdahaa.genC Go.Proofs.Ytflfkhcbkhdahaa.butC Go.Proofs.Ytflfkhcbkhdahaa.freeC Go.Proofs.Ytflfkhcbkhdahaa.txC
set_option linter.unusedVariables false
set_option maxRecDepth 100000 in
set_option maxHeartbeats 1000000 in
theorem mask_high (s : Bool) (b : List Int) (len : Int) (w : World) (hl : b.length = 16) (h0 : ¬ len < 0) (h : 8 * (adrN s : Int) < len) : Calls Try.prog 47 #[.agg (adrV s b), .int .i64 len] w (ORet 1 w (maskO s b len)) := by
  have hzv := zeroAdr
  have T0 := Lib.hid (ms_new w s hl)
  have Z0 := Lib.hid z_info; have Z1 := Lib.hid z_one; have Z2 := Lib.hid built_zero
  have HV : Hid (maskO s b len = none) := Lib.hid (by unfold maskO; rw [if_pos (.inr h)])
  rw [HV.out]
  obtain ⟨W, hW⟩ : ∃ W, W = (w.alloc (.cells (adrV s b) 25)).alloc (.cells zAdr 25) := ⟨_, rfl⟩
  rw [← hW] at T0
  have HR0 := Lib.hid T0.out.res
  have HR := Lib.hid T0.out.row
  have HBW := Lib.hid T0.out.bel
  have HI := Lib.hid (adr_info s hl)
  obtain ⟨z, hz⟩ : ∃ z : Int, z = (adrN s : Int) := ⟨_, rfl⟩
  have SZ := Lib.hid (fun w' => csize_any s b w' hl z hz)
  have hn := adrN_le s
  rw [← hz] at h
  have e8 : 0 ≤ z := by omega
  have e9 : z ≤ 16 := by omega
  clear hn hz
  generalize adrV s b = C at *
  generalize hZ : zAdr = Z at *
  have HZ := Lib.hid hZ
  clear hZ T0
  go_enter Try.func47, Try.ntmps47
  go_upto_region 1 with fail
  rw [← hW]
  clear hW
  go_wp2_with (first
    | (refine wpList_load_rowG (by rfl) 25 (.tmp 2) rfl w.heap.size rfl _ _ _ _ HR.out Try.underlying25 rfl HI.out ?_)
    | (go_at_call 57; (refine (SZ.out _).mono ?_); rintro e w2 ⟨rfl, B2⟩
       have HB2 := Lib.hid (HBW.out.trans (B2.mono HBW.out.size))
       have HR2 := Lib.hid (show w2.heap[w.heap.size + 1]? = some (.cells Z 25 (0, 0)) by rw [B2.block _ (lt_of_row HR0.out)]; exact HR0.out)
       clear B2)
    | (refine wpList_zero rfl 25 rfl Z Z2.out ?_)
    | (refine wpList_store_row rfl 25 (.tmp 4) (.tmp 17) rfl (w.heap.size + 1) Z rfl rfl _ _ HR2.out Z0.out rfl Z1.out ?_))
  refine bodyPost_ret (v := .tuple #[.agg Z, .int .i64 1]) (results_cell_tmp Try.results47 _ _ (w.heap.size + 1) _ _ _ _ _ (by rfl) (setRow_heap _ _ _ _ _ _ HR2.out) Try.underlying25 rfl Z0.out (by rfl)) rfl ?_
  exact ⟨by rw [← HZ.out], HB2.out.trans ⟨rfl, rfl, rfl, by simp, fun z hz => setRow_other _ _ _ _ (by omega)⟩⟩
set_option maxRecDepth 100000 in
set_option maxHeartbeats 2000000 in
theorem mask_in (s : Bool) (b : List Int) (len : Int) (w : World) (hl : b.length = 16) (hy : ∀ x ∈ b, Byte x) (h0 : ¬ len < 0) (h : ¬ 8 * (adrN s : Int) < len) : Calls Try.prog 47 #[.agg (adrV s b), .int .i64 len] w (ORet 1 w (maskO s b len)) := by
  have hzv := zeroAdr
  have T0 := Lib.hid (ms_new w s hl)
  have HV : Hid (maskO s b len = some (s, mskT b len 16)) := Lib.hid (by unfold maskO; rw [if_neg (by omega)]; rfl)
  rw [HV.out]
  obtain ⟨W, hW⟩ : ∃ W, W = (w.alloc (.cells (adrV s b) 25)).alloc (.cells zAdr 25) := ⟨_, rfl⟩
  rw [← hW] at T0
  have HR := Lib.hid T0.out.row
  have HI := Lib.hid (adr_info s hl)
  obtain ⟨z, hz⟩ : ∃ z : Int, z = (adrN s : Int) := ⟨_, rfl⟩
  have SZ := Lib.hid (fun w' => csize_any s b w' hl z hz)
  have hn := adrN_le s
  rw [← hz] at h
  have e8 : 0 ≤ z := by omega
  have e9 : z ≤ 16 := by omega
  have e10 : len ≤ 128 := by omega
  have e11 : 0 ≤ len := by omega
  have ST : Hid (∀ k, mskT b len (k + 1) = (mskT b len k).set k (mk1 (b.getD k 0) (kpN len k))) := Lib.hid fun _ => rfl
  have AT := Lib.hid (fun (k : Nat) (hk : k < 16) => (show (mskT b len k).getD k 0 = b.getD k 0 by rw [mskT_at b len k k (by omega), if_neg (Nat.lt_irrefl _)]))
  have BY := Lib.hid (fun (k : Nat) (hk : k < 16) => getD_byte hy (k := k) (by omega))
  have UF := Lib.hid (fun (k : Nat) => (show _ ∧ _ ∧ _ from And.intro (adr_info s ((mskT_len b len k).trans hl)) (And.intro (z_size s ((mskT_len b len k).trans hl)) (adrV_one s (mskT b len k)))))
  have T1 : Hid (MS w s (mskT b len 0) W) := Lib.hid T0.out
  clear hn hz T0 hl hy
  generalize adrV s b = C at *
  go_enter Try.func47, Try.ntmps47
  go_upto_region 1 with fail
  rw [← hW]
  clear hW
  go_upto_region 3 with (first
    | (refine wpList_load_rowG (by rfl) 25 (.tmp 2) rfl w.heap.size rfl _ _ _ _ HR.out Try.underlying25 rfl HI.out ?_)
    | (go_at_call 57; (refine (SZ.out _).mono ?_); rintro e w2 ⟨rfl, B2⟩
       have HT2 := Lib.hid (T1.out.below B2)
       clear B2))
  clear h e8 e9 hzv
  go_wp2_with fail
  go_loopw [18] (fun v wr => ∃ i : Nat, i ≤ 16 ∧ v = .int .i64 i ∧ MS w s (mskT b len i) wr) (fun v _ => 16 - (intOf v).toNat)
  case atStart => exact ⟨0, by omega, rfl, HT2.out⟩
  case round =>
    obtain ⟨i, hi, rfl, KK⟩ := hrel
    have HK := Lib.hid KK
    clear KK
    by_cases hlt : i < 16
    · have hiz : (i : Int) < 16 := by omega
      have c0 := HK.out.cell hlt
      rw [AT.out i hlt] at c0
      have f0 := HK.out.frozen (1 + i)
      have hb := BY.out i hlt
      have HS := Lib.hid (HK.out.set i (mk1 (b.getD i 0) (kpN len i)))
      rw [← ST.out i] at HS
      have hk := kpN_is len i
      have hk8 := kpN_le len i
      have HM := Lib.hid (show ∀ x : Int, Byte x → bits .andNot .u8 x ((255 : Int) / 2 ^ (kpN len i)) = mk1 x (kpN len i) from fun x hx => by
        unfold Byte at hx
        have := mk1_all (kpN len i) (by omega) x.toNat (by omega)
        rw [show ((x.toNat : Nat) : Int) = x by omega] at this
        rw [← this]
        push_cast
        rfl)
      have hm := HM.out _ hb
      obtain ⟨d, hd⟩ : ∃ d : Int, d = len - 8 * (i : Int) := ⟨_, rfl⟩
      obtain ⟨p, hp⟩ : ∃ p : Int, p = 8 * (i : Int) := ⟨_, rfl⟩
      generalize mk1 (b.getD i 0) (kpN len i) = y at *
      generalize b.getD i 0 = x at *
      generalize kpN len i = k at *
      clear HM
      have hki : (k : Int) = (if 8 < (if len - 8 * (i : Int) < 0 then 0 else len - 8 * (i : Int)) then 8 else (if len - 8 * (i : Int) < 0 then 0 else len - 8 * (i : Int))) := by
        rw [hk]
        split <;> split <;> omega
      have HKI := Lib.hid hki
      clear hki
      go_upto_region 7 with fail
      first
        | rw [← hk]
        | rw [← HKI.out]
      clear hk hd hp
      have kz : (k : Int) ≤ 8 := by omega
      go_still_tail 9, (by kernel_rfl)
      change wpList _ _ _ _ _ wr.drew
      go_wp2_with fail
      go_roundw
      case rel => exact ⟨i + 1, by omega, by go_num, HS.out.heap rfl rfl rfl rfl⟩
      case measure => simp [intOf]; omega
    · have e : i = 16 := by omega
      subst e
      have HR := Lib.hid HK.out.row
      have HR0 := Lib.hid HK.out.res
      have HB := Lib.hid HK.out.bel
      have U := Lib.hid (UF.out 16)
      generalize hTT : adrV s (mskT b len 16) = T at *
      have HTT := Lib.hid hTT
      clear hTT
      go_wp2_with (first
        | (refine wpList_load_row rfl 25 (.tmp 2) rfl w.heap.size rfl _ _ _ _ HR.out Try.underlying25 rfl U.out.1 ?_)
        | (refine wpList_store_row rfl 25 (.tmp 4) (.tmp 37) rfl (w.heap.size + 1) _ rfl rfl _ _ HR0.out U.out.1 U.out.2.1 U.out.2.2 ?_))
      refine bodyPost_ret (v := .tuple #[.agg T, .int .i64 0]) (results_cell_tmp Try.results47 _ _ (w.heap.size + 1) _ _ _ _ _ (by rfl) (setRow_heap _ _ _ _ _ _ HR0.out) Try.underlying25 rfl U.out.1 (by rfl)) rfl ?_
      exact ⟨by rw [← HTT.out], HB.out.trans ⟨rfl, rfl, rfl, by simp, fun z hz => setRow_other _ _ _ _ (by omega)⟩⟩
theorem mask_any (s : Bool) (b : List Int) (len : Int) (w : World) (hl : b.length = 16) (hy : ∀ x ∈ b, Byte x) : Calls Try.prog 47 #[.agg (adrV s b), .int .i64 len] w (ORet 1 w (maskO s b len)) := by
  by_cases h0 : len < 0
  · exact mask_low s b len w hl h0
  · by_cases h : 8 * (adrN s : Int) < len
    · exact mask_high s b len w hl h0 h
    · exact mask_in s b len w hl hy h0 h
theorem maskO_cases (s : Bool) (b : List Int) (len : Int) : maskO s b len = none ∨ maskO s b len = some (s, mskL b len) := by unfold maskO; split <;> simp
end Go.Proofs.Ytflfkhcbkhdahaa.adC

/-
  The program's addresses: whether one lies in a prefix.
-/
namespace Go.Proofs.Ytflfkhcbkhdahaa.adC
open Go.ChangeShapes Go.WideShapes Go.ChangeAt Go.RowKit
open Go.Proofs.Ytflfkhcbkhdahaa.memC Go.Proofs.Ytflfkhcbkhdahaa.genC Go.Proofs.Ytflfkhcbkhdahaa.butC Go.Proofs.Ytflfkhcbkhdahaa.freeC Go.Proofs.Ytflfkhcbkhdahaa.txC
set_option linter.unusedVariables false
/-- an address that was answered -/
def outO (o : Option (Bool × List Int)) : Bool × List Int := match o with | some x => x | none => (false, zs 16)
/-- the error that was answered -/
def errO (c : Int) (o : Option (Bool × List Int)) : Int := match o with | some _ => 0 | none => c
def Two (w : World) (t : Bool) (x : List Int) (er : Int) (e : Ending) (w' : World) : Prop := e = .returned (.tuple #[.agg (adrV t x), .int .i64 er]) ∧ Below w.heap.size w w'
theorem ORet.two {c : Int} {w w' : World} {o : Option (Bool × List Int)} {e : Ending} (h : ORet c w o e w') : Two w (outO o).1 (outO o).2 (errO c o) e w' := by
  obtain ⟨h1, h2⟩ := h
  cases o with
  | none => simp only [Two, outO, errO]; exact ⟨h1, h2⟩
  | some x =>
    obtain ⟨s, b⟩ := x
    simp only [Two, outO, errO]; exact ⟨h1, h2⟩
theorem maskO_len (s : Bool) {b : List Int} (len : Int) (h : b.length = 16) : (outO (maskO s b len)).2.length = 16 := by
  have hm := mskL_len len h
  generalize hx : mskL b len = x at *
  rcases maskO_cases s b len with e | e
  · rw [e]; exact zs_len 16
  · rw [e, hx]; exact hm
/-- whether one lies in a prefix, as the program tells it -/
def liesL (s : Bool) (a : List Int) (s' : Bool) (b : List Int) (len : Int) : Bool := (maskO s a len).isSome && decide ((outO (maskO s a len)).1 = (outO (maskO s' b len)).1 ∧ (outO (maskO s a len)).2 = (outO (maskO s' b len)).2)
set_option maxRecDepth 100000 in
set_option maxHeartbeats 2000000 in
theorem lies_any (s s' : Bool) (a b : List Int) (len : Int) (w : World) (ha : a.length = 16) (hb : b.length = 16) (ya : ∀ x ∈ a, Byte x) (yb : ∀ x ∈ b, Byte x) :
    Calls Try.prog 55 #[.agg (adrV s a), .agg (adrV s' b), .int .i64 len] w (Ret w (.bool (liesL s a s' b len))) := by
  have hzv := zeroAdr
  have e1 : (w.alloc (.cells (adrV s a) 25)).heap.size = w.heap.size + 1 := alloc_size _ _
  obtain ⟨W, hW⟩ : ∃ W, W = (w.alloc (.cells (adrV s a) 25)).alloc (.cells (adrV s' b) 25) := ⟨_, rfl⟩
  have R0_W := Lib.hid (show W.heap[w.heap.size]? = some (.cells (adrV s a) 25 (0, 0)) by rw [hW, Below.block (alloc_below _ _) _ (by rw [e1]; omega)]; exact heap_alloc_new w _)
  have R1_W := Lib.hid (show W.heap[w.heap.size + 1]? = some (.cells (adrV s' b) 25 (0, 0)) by rw [hW, ← e1]; exact heap_alloc_new _ _)
  have HB_W := Lib.hid (show Below w.heap.size w W by rw [hW]; exact ((Below.refl _ _).alloc (Nat.le_refl _) _).alloc (by simp) _)
  have I0 := Lib.hid (adr_info s ha)
  have I1 := Lib.hid (adr_info s' hb)
  have lx := maskO_len s len ha
  have ly := maskO_len s' len hb
  have M0 := Lib.hid (fun w' => (mask_any s a len w' ha ya).mono fun e w'' h => h.two)
  have M1 := Lib.hid (fun w' => (mask_any s' b len w' hb yb).mono fun e w'' h => h.two)
  have HV : Hid (liesL s a s' b len = ((maskO s a len).isSome && decide ((outO (maskO s a len)).1 = (outO (maskO s' b len)).1 ∧ (outO (maskO s a len)).2 = (outO (maskO s' b len)).2))) := Lib.hid rfl
  rw [HV.out]
  have HE : Hid ((errO 1 (maskO s a len) == 0) = (maskO s a len).isSome) := Lib.hid (by cases maskO s a len <;> rfl)
  generalize (maskO s a len).isSome = q at *
  generalize errO 1 (maskO s a len) = er at *
  generalize errO 1 (maskO s' b len) = er2 at *
  generalize (outO (maskO s a len)).1 = t at *
  generalize (outO (maskO s' b len)).1 = t' at *
  generalize (outO (maskO s a len)).2 = x at *
  generalize (outO (maskO s' b len)).2 = x' at *
  have EQ := Lib.hid (fun w' => eqa t t' x x' lx ly w')
  generalize decide (t = t' ∧ x = x') = r at *
  have U0 := Lib.hid (And.intro (adr_info t lx) (And.intro (z_size t lx) (adrV_one t x)))
  have U1 := Lib.hid (And.intro (adr_info t' ly) (And.intro (z_size t' ly) (adrV_one t' x')))
  have hq := HE.out
  generalize adrV s a = CA at *
  generalize adrV s' b = CB at *
  have M0' : Hid (∀ w', Calls Try.prog 47 #[.agg CA, .int .i64 len] w' fun e w'' => e = .returned (.tuple #[.agg (adrV t x), .int .i64 er]) ∧ Below w'.heap.size w' w'') := Lib.hid M0.out
  have M1' : Hid (∀ w', Calls Try.prog 47 #[.agg CB, .int .i64 len] w' fun e w'' => e = .returned (.tuple #[.agg (adrV t' x'), .int .i64 er2]) ∧ Below w'.heap.size w' w'') := Lib.hid M1.out
  generalize adrV t x = TX at *
  generalize adrV t' x' = TY at *
  generalize zAdr = Z at *
  clear M0 M1 HE HV ha hb ya yb lx ly
  go_enter Try.func55, Try.ntmps55
  go_upto_region 1 with fail
  rw [← hW]
  clear hW e1
  go_upto_region 2 with (first
    | (refine wpList_load_row rfl 25 (.tmp 3) rfl w.heap.size rfl _ _ _ _ R0_W.out Try.underlying25 rfl I0.out ?_)
    | (go_at_call 47; (refine (M0'.out _).mono ?_); rintro e v1 ⟨rfl, BB⟩
       have HB_v1 := Lib.hid (HB_W.out.trans (BB.mono HB_W.out.size))
       have R0_v1 := Lib.hid (show v1.heap[w.heap.size]? = some (.cells CA 25 (0, 0)) by rw [BB.block _ (lt_of_row R0_W.out)]; exact R0_W.out)
       have R1_v1 := Lib.hid (show v1.heap[w.heap.size + 1]? = some (.cells CB 25 (0, 0)) by rw [BB.block _ (lt_of_row R1_W.out)]; exact R1_W.out)
       have HN_v1 := Lib.hid (show (v1.alloc (.cells Z 25)).heap[v1.heap.size]? = some (.cells Z 25 (0, 0)) from heap_alloc_new _ _)
       clear BB)
    | (refine wpList_store_row rfl 25 (.tmp 7) (.tmp 15) rfl v1.heap.size TX rfl rfl _ _ HN_v1.out U0.out.1 U0.out.2.1 U0.out.2.2 ?_))
  rw [World.setRow_alloc_new]
  have HB_W1 := Lib.hid (show Below w.heap.size w (v1.alloc (.cells TX 25)) from HB_v1.out.trans ((alloc_below _ _).mono HB_v1.out.size))
  have R0_W1 := Lib.hid (show (v1.alloc (.cells TX 25)).heap[w.heap.size]? = some (.cells CA 25 (0, 0)) by rw [(alloc_below _ _).block _ (lt_of_row R0_v1.out)]; exact R0_v1.out)
  have R1_W1 := Lib.hid (show (v1.alloc (.cells TX 25)).heap[w.heap.size + 1]? = some (.cells CB 25 (0, 0)) by rw [(alloc_below _ _).block _ (lt_of_row R1_v1.out)]; exact R1_v1.out)
  have RX_W1 := Lib.hid (show (v1.alloc (.cells TX 25)).heap[v1.heap.size]? = some (.cells TX 25 (0, 0)) from heap_alloc_new _ _)
  clear HB_v1 HN_v1 R0_v1 R1_v1
  generalize v1.heap.size = g1 at *
  generalize v1.alloc (.cells TX 25) = W1 at *
  go_upto_region 3 with (first
    | (refine wpList_load_row rfl 25 (.tmp 4) rfl (w.heap.size + 1) rfl _ _ _ _ R1_W1.out Try.underlying25 rfl I1.out ?_)
    | (go_at_call 47; (refine (M1'.out _).mono ?_); rintro e v2 ⟨rfl, BB⟩
       have HB_v2 := Lib.hid (HB_W1.out.trans (BB.mono HB_W1.out.size))
       have R0_v2 := Lib.hid (show v2.heap[w.heap.size]? = some (.cells CA 25 (0, 0)) by rw [BB.block _ (lt_of_row R0_W1.out)]; exact R0_W1.out)
       have R1_v2 := Lib.hid (show v2.heap[w.heap.size + 1]? = some (.cells CB 25 (0, 0)) by rw [BB.block _ (lt_of_row R1_W1.out)]; exact R1_W1.out)
       have RX_v2 := Lib.hid (show v2.heap[g1]? = some (.cells TX 25 (0, 0)) by rw [BB.block _ (lt_of_row RX_W1.out)]; exact RX_W1.out)
       have HN_v2 := Lib.hid (show (v2.alloc (.cells Z 25)).heap[v2.heap.size]? = some (.cells Z 25 (0, 0)) from heap_alloc_new _ _)
       clear BB)
    | (refine wpList_store_row rfl 25 (.tmp 9) (.tmp 21) rfl v2.heap.size TY rfl rfl _ _ HN_v2.out U1.out.1 U1.out.2.1 U1.out.2.2 ?_))
  rw [World.setRow_alloc_new]
  have HB_W2 := Lib.hid (show Below w.heap.size w (v2.alloc (.cells TY 25)) from HB_v2.out.trans ((alloc_below _ _).mono HB_v2.out.size))
  have R0_W2 := Lib.hid (show (v2.alloc (.cells TY 25)).heap[w.heap.size]? = some (.cells CA 25 (0, 0)) by rw [(alloc_below _ _).block _ (lt_of_row R0_v2.out)]; exact R0_v2.out)
  have R1_W2 := Lib.hid (show (v2.alloc (.cells TY 25)).heap[w.heap.size + 1]? = some (.cells CB 25 (0, 0)) by rw [(alloc_below _ _).block _ (lt_of_row R1_v2.out)]; exact R1_v2.out)
  have RX_W2 := Lib.hid (show (v2.alloc (.cells TY 25)).heap[g1]? = some (.cells TX 25 (0, 0)) by rw [(alloc_below _ _).block _ (lt_of_row RX_v2.out)]; exact RX_v2.out)
  have RY_W2 := Lib.hid (show (v2.alloc (.cells TY 25)).heap[v2.heap.size]? = some (.cells TY 25 (0, 0)) from heap_alloc_new _ _)
  clear HB_v2 HN_v2 R0_v2 R1_v2 RX_v2
  generalize v2.heap.size = g2 at *
  generalize v2.alloc (.cells TY 25) = W2 at *
  cases q
  all_goals
    go_wp2_with (first
      | (refine wpList_load_rowG (by rfl) 25 (.tmp 7) rfl g1 rfl _ _ _ _ RX_W2.out Try.underlying25 rfl U0.out.1 ?_)
      | (refine wpList_load_rowG (by rfl) 25 (.tmp 9) rfl g2 rfl _ _ _ _ RY_W2.out Try.underlying25 rfl U1.out.1 ?_)
      | (refine wpList_runG (by rfl) _ (eq_run rfl (by rfl) (by rfl) (EQ.out _) guard_addr) ?_))
    go_ret
    exact ⟨rfl, HB_W2.out⟩
end Go.Proofs.Ytflfkhcbkhdahaa.adC
