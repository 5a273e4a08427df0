/-
  1 texts of a proof, joined.
-/
import Derived.Test.YtcnnpfjommiafaaMg19

/-
  The packet of a name, which begins if it is not there.
-/
namespace Go.Proofs.Ytcnnpfjommiafaa.fgC
open Go.ChangeShapes Go.WideShapes Go.ChangeAt Go.RowKit
open Go.Proofs.Ytcnnpfjommiafaa.memC Go.Proofs.Ytcnnpfjommiafaa.genC Go.Proofs.Ytcnnpfjommiafaa.butC Go.Proofs.Ytcnnpfjommiafaa.freeC Go.Proofs.Ytcnnpfjommiafaa.adC
open Go.Proofs.Ytcnnpfjommiafaa.pkC (Pkt pktL pktV pktT adrC)
set_option linter.unusedVariables false
theorem wpQuiet_look {ops : Array Oper} {C : World → Prop} {Q : Act → Prop} {a : Act} {o : Oper} {rest : List Oper} (hg : o.guard = none) (x y : Operand) (ho : o.op = .lookup 55 x y true) {b : Nat} {m : Nm} (hx : a.eval x = .map (some b)) (hy : a.eval y = .agg (nmV m)) (v : Value)
    (h : ∀ w, C w → (Instr.lookup 55 (.map (some b)) (.agg (nmV m)) true).run Try.prog w = .ok v w) (hk : wpQuiet Try.prog ops C Q rest (a.put o.dst v)) : wpQuiet Try.prog ops C Q (o :: rest) a :=
  wpQuiet_run hg v (fun w hw => by
    unfold execOp
    simp only [ho, hx, hy, Sem.run_bind, Sem.run_pure, Result.andThen_ok, h w hw]) hk
set_option maxRecDepth 100000 in
set_option maxHeartbeats 4000000 in
theorem begun_found (w : World) (S : Nat → Prop) (t : Nat) (room now : Int) (m : Nat) (ov : Value) (ps : List Pp) (i : Nat) (x : Pp) (nm : Nm) (h : TC w S t room now m ov ps) (hi : ps[i]? = some x) (hnm : x.nm = nm) :
    Calls Try.prog 30 #[.pointer (some ⟨t, 0, none⟩), .agg (nmV nm)] w (Ret w (ptr x.q)) := by
  have hno : nm.Ok := hnm ▸ h.nok x (List.mem_of_getElem? hi)
  obtain ⟨W, hW⟩ : ∃ W, W = w.alloc (.cells (nmV nm) 72) := ⟨_, rfl⟩
  have R0 := Lib.hid (show W.heap[w.heap.size]? = some (.cells (nmV nm) 72 (0, 0)) by rw [hW]; exact heap_alloc_new _ _)
  have HB := Lib.hid (show Below w.heap.size w W by rw [hW]; exact alloc_below _ _)
  have T0 := Lib.hid (h.below HB.out)
  have I0n := Lib.hid (nm_infoV hno)
  have HNO := Lib.hid hno
  obtain ⟨bx, hbx⟩ : ∃ q, q = w.heap.size := ⟨_, rfl⟩
  have HNS := Lib.hid (show ¬ S bx by rw [hbx]; intro hs; exact Nat.lt_irrefl _ (h.lt _ hs))
  have HBX := Lib.hid hbx
  rw [← hbx] at R0
  have HNL := Lib.hid (show ∀ y ∈ (ps.map fun x => (x.nm, x.q)), y.1.Ok by
    intro y hy
    obtain ⟨z, hz, rfl⟩ := List.mem_map.1 hy
    exact h.nok z hz)
  have LK := Lib.hid (show ∀ w', (∃ j, w' = W.drewN j) → (Instr.lookup 55 (.map (some m)) (.agg (nmV nm)) true).run Try.prog w' = .ok (.tuple #[ptr x.q, .bool true]) w' by
    rintro w' ⟨j, rfl⟩
    exact run_look_some (i := i) (T0.out.map.same rfl) HNL.out HNO.out (by rw [List.map_map]; exact T0.out.nnd) (by rw [List.getElem?_map, hi, ← hnm]; rfl))
  unfold ptr at LK ⊢
  clear h hno hi hnm
  go_enter Try.func30, Try.ntmps30
  go_upto_region 1 with fail
  rw [← hW, ← hbx]
  clear hW hbx
  have c3 : W.cell? ⟨t, 3, none⟩ = some (.map (some m)) := cell_of_row W t 3 _ _ (0, 0) T0.out.row
  have R0d := Lib.hid (show ∀ w', (∃ j, w' = W.drewN j) → w'.heap[bx]? = some (.cells (nmV nm) 72 (0, 0)) by rintro w' ⟨j, rfl⟩; exact R0.out)
  refine wp_region_quiet_lit (by kernel_rfl) (by kernel_rfl) ?_
  repeat (first
    | (refine wpQuiet_row rfl 72 (.tmp 3) rfl bx rfl _ _ _ _ R0d.out Try.underlying72 rfl I0n.out ?_; simp only [Act.put, List.setIfInBounds_toArray, List.set_cons_succ, List.set_cons_zero])
    | (refine wpQuiet_look rfl (.tmp 12) (.tmp 13) rfl rfl rfl _ LK.out ?_; simp only [Act.put, List.setIfInBounds_toArray, List.set_cons_succ, List.set_cons_zero])
    | go_big_quiet_step (fail)
    | quiet_step (fail))
  refine wpQuiet_nil ?_
  intro _ hw'
  obtain ⟨nq, hw''⟩ := hw'
  subst hw''
  go_wp2
  go_ret
  exact ⟨rfl, HB.out.trans ⟨rfl, rfl, rfl, Nat.le_refl _, fun _ _ => rfl⟩⟩
def bgV (t bx : Nat) (oz : Value) (X : Array Value) : Nat → Value → World → Prop
  | 0, v, _ => v = .pointer (some ⟨t, 0, none⟩)
  | 1, v, _ => v = .pointer (some ⟨t, 0, none⟩)
  | 2, v, _ => v = .pointer (some ⟨t, 0, none⟩)
  | 3, v, _ => v = .pointer (some ⟨t, 4, none⟩)
  | 4, v, _ => v = oz
  | 5, v, _ => v = .agg X
  | 8, v, _ => v = .pointer (some ⟨t, 0, none⟩)
  | 9, v, _ => v = .pointer (some ⟨t, 4, none⟩)
  | _, _, _ => True
theorem bgV.keep (t bx : Nat) (oz : Value) (X : Array Value) (i : Nat) (v : Value) (w w' : World) (hd : Below w.heap.size w w' ∨ (fun _ _ => True) w w') (h : bgV t bx oz X i v w) : bgV t bx oz X i v w' := by
  unfold bgV at h ⊢
  split at h <;> exact h
def bgT : List (Option Nat) := [none, none, none, none, none, none, none, none, none, none, none, none, none, none, none, none, none, none, none, none, none, none, none, none, none, none, none, none, none, none, none, none, none, none, none, none, none, none, none, none, none, none, none, none, none, none, none, none, none, some 0, some 1, some 2, some 3, some 4, some 5, some 6, some 7, some 8, some 9, none]
theorem nm_infoP : (Try.prog.info? 72).map (fun i => (i.zero, i.size, i.bytes)) = some (some (.agg (nmV zNm)), 36, 44) := by kernel_rfl
/-- a part of no pieces -/
def newP (nm : Nm) (q : Nat) (now : Int) : Pp := ⟨nm, q, .slice none 0 0, [], now⟩
set_option maxRecDepth 100000 in
set_option maxHeartbeats 8000000 in
theorem begun_new (w : World) (S : Nat → Prop) (t : Nat) (room now : Int) (m : Nat) (ov : Value) (ps : List Pp) (nm : Nm) (h : TC w S t room now m ov ps) (hno : nm.Ok) (hn : ∀ x ∈ ps, x.nm ≠ nm) (hr : 1 ≤ room ∧ room ≤ 64) (hl : (ps.length : Int) ≤ room) :
    Calls Try.prog 30 #[.pointer (some ⟨t, 0, none⟩), .agg (nmV nm)] w fun e w' => ∃ q ov', e = .returned (ptr q) ∧ TC w' (fun k => S k ∨ (w.heap.size ≤ k ∧ k < w'.heap.size)) t room now m ov' ((if (ps.length : Int) = room then ps.eraseIdx 0 else ps) ++ [newP nm q now]) ∧ Fs S w w' ∧ w.heap.size ≤ q := by
  obtain ⟨W, hW⟩ : ∃ W, W = w.alloc (.cells (nmV nm) 72) := ⟨_, rfl⟩
  have R0 := Lib.hid (show W.heap[w.heap.size]? = some (.cells (nmV nm) 72 (0, 0)) by rw [hW]; exact heap_alloc_new _ _)
  have HB := Lib.hid (show Below w.heap.size w W by rw [hW]; exact alloc_below _ _)
  have T0 := Lib.hid (h.below HB.out)
  have I0n := Lib.hid (nm_infoV hno)
  have HNO := Lib.hid hno
  obtain ⟨bx, hbx⟩ : ∃ q, q = w.heap.size := ⟨_, rfl⟩
  have HNS := Lib.hid (show ¬ S bx by rw [hbx]; intro hs; exact Nat.lt_irrefl _ (h.lt _ hs))
  have HBX := Lib.hid hbx
  rw [← hbx] at R0
  have HNL := Lib.hid (show ∀ y ∈ (ps.map fun x => (x.nm, x.q)), y.1.Ok by
    intro y hy
    obtain ⟨z, hz, rfl⟩ := List.mem_map.1 hy
    exact h.nok z hz)
  have LK := Lib.hid (show ∀ w', (∃ j, w' = W.drewN j) → (Instr.lookup 55 (.map (some m)) (.agg (nmV nm)) true).run Try.prog w' = .ok (.tuple #[.pointer none, .bool false]) w' by
    rintro w' ⟨j, rfl⟩
    exact run_look_none (T0.out.map.same rfl) HNL.out HNO.out (fun y hy => by obtain ⟨z, hz, rfl⟩ := List.mem_map.1 hy; exact hn z hz))
  have HN1 := Lib.hid hn
  obtain ⟨pz, hpz⟩ : ∃ q, q = (if (ps.length : Int) = room then ps.eraseIdx 0 else ps) := ⟨_, rfl⟩
  rw [← hpz]
  have HPZ := Lib.hid hpz
  clear hpz
  have HRL := Lib.hid (show 1 ≤ room ∧ room ≤ 64 ∧ (ps.length : Int) ≤ room from ⟨hr.1, hr.2, hl⟩)
  clear h hno hn hr hl
  go_enter Try.func30, Try.ntmps30
  go_upto_region 1 with fail
  rw [← hW, ← hbx]
  clear hW hbx
  have c3 : W.cell? ⟨t, 3, none⟩ = some (.map (some m)) := cell_of_row W t 3 _ _ (0, 0) T0.out.row
  have R0d := Lib.hid (show ∀ w', (∃ j, w' = W.drewN j) → w'.heap[bx]? = some (.cells (nmV nm) 72 (0, 0)) by rintro w' ⟨j, rfl⟩; exact R0.out)
  refine wp_region_quiet_lit (by kernel_rfl) (by kernel_rfl) ?_
  repeat (first
    | (refine wpQuiet_row rfl 72 (.tmp 3) rfl bx rfl _ _ _ _ R0d.out Try.underlying72 rfl I0n.out ?_; simp only [Act.put, List.setIfInBounds_toArray, List.set_cons_succ, List.set_cons_zero])
    | (refine wpQuiet_look rfl (.tmp 12) (.tmp 13) rfl rfl rfl _ LK.out ?_; simp only [Act.put, List.setIfInBounds_toArray, List.set_cons_succ, List.set_cons_zero])
    | go_big_quiet_step (fail)
    | quiet_step (fail))
  refine wpQuiet_nil ?_
  intro _ hw'
  obtain ⟨nq, hw''⟩ := hw'
  subst hw''
  have T1 := Lib.hid (T0.out.keep (w' := W.drewN nq) (fun k _ => rfl) (Nat.le_refl _))
  have HB1 := Lib.hid (show Below w.heap.size w (W.drewN nq) from HB.out.trans ⟨rfl, rfl, rfl, Nat.le_refl _, fun _ _ => rfl⟩)
  have R1 := Lib.hid (show (W.drewN nq).heap[bx]? = some (.cells (nmV nm) 72 (0, 0)) from R0.out)
  clear R0d c3 T0 HB R0 LK
  generalize W.drewN nq = W1 at *
  have hof := T1.out.ovform
  obtain ⟨A4, cc, hov⟩ := hof
  subst hov
  go_upto_region 4 with fail
  have c4 : W1.cell? ⟨t, 4, none⟩ = some (.slice A4 ps.length cc) := cell_of_row W1 t 4 _ _ (0, 0) T1.out.row
  have c1 : W1.cell? ⟨t, 1, none⟩ = some (.int .i64 room) := cell_of_row W1 t 1 _ _ (0, 0) T1.out.row
  by_cases hfull : (ps.length : Int) = room
  · have qf : ((ps.length : Int) == room) = true := beq_iff_eq.2 hfull
    have HFULL := Lib.hid hfull
    have hpz : pz = ps.eraseIdx 0 := by rw [HPZ.out, if_pos hfull]
    have HPE := Lib.hid hpz
    clear hfull hpz
    refine wp_region_quiet_lit (by kernel_rfl) (by kernel_rfl) ?_
    repeat (first | go_big_quiet_step (fail) | quiet_step (fail))
    refine wpQuiet_nil ?_
    intro _ hw'
    obtain ⟨nq2, hw''⟩ := hw'
    subst hw''
    have T2 := Lib.hid (T1.out.keep (w' := W1.drewN nq2) (fun k _ => rfl) (Nat.le_refl _))
    have HB2 := Lib.hid (show Below w.heap.size w (W1.drewN nq2) from HB1.out.trans ⟨rfl, rfl, rfl, Nat.le_refl _, fun _ _ => rfl⟩)
    have R2 := Lib.hid (show (W1.drewN nq2).heap[bx]? = some (.cells (nmV nm) 72 (0, 0)) from R1.out)
    clear c4 c1 T1 HB1 R1
    generalize W1.drewN nq2 = W2 at *
    have hne : ps ≠ [] := by intro e; have h9 := HRL.out; have h8 := HFULL.out; rw [e] at h8; simp at h8; omega
    obtain ⟨g, cg, sp, hov, hrow, hlc, hcm, hsp, hSg⟩ := T2.out.names hne
    injection hov with hov1 _ hov3
    subst hov1
    subst hov3
    have h0l : 0 < ps.length := List.length_pos_iff.2 hne
    obtain ⟨x0, hx0⟩ : ∃ x, ps[0]? = some x := ⟨_, List.getElem?_eq_getElem h0l⟩
    have hx0o := T2.out.nok x0 (List.mem_of_getElem? hx0)
    have CL := Lib.hid (show ∀ j v, (nmL x0.nm)[j]? = some v → W2.cell? ⟨g, 0 + j, none⟩ = some v from fun j v hv => by
      have := hrow.cells (fun y hy => by obtain ⟨z, hz, rfl⟩ := List.mem_map.1 hy; exact T2.out.nok z hz) (i := 0) (by rw [List.getElem?_map, hx0]; rfl) j v hv
      rwa [Nat.zero_mul] at this)
    have IXl := Lib.hid (nm_info hx0o)
    have ev : (nmL x0.nm).toArray = nmV x0.nm := rfl
    have DR := Lib.hid (drop_any W2 S t room now m _ ps 0 x0 T2.out hx0 (by have := HRL.out; omega))
    have q0 : (0 : Int) < (ps.length : Int) := by omega
    have c4 : W2.cell? ⟨t, 4, none⟩ = some (.slice (some ⟨g, 0, none⟩) ps.length cc) := cell_of_row W2 t 4 _ _ (0, 0) T2.out.row
    clear hrow hlc hcm hsp hSg hx0o
    go_upto_region 6 with (first
      | (refine partC.wpList_load_part rfl 72 (.tmp 34) rfl g 0 rfl (nmL x0.nm) _ CL.out Try.underlying72 rfl IXl.out ?_; rw [ev])
      | (go_at_call 33; refine DR.out.mono ?_; rintro e Wz ⟨rfl, ⟨oz, hTz⟩, hFz⟩
         have TZ := Lib.hid hTz
         have FZ := Lib.hid (show Fs S w Wz from (Fs.below HB2.out).trans hFz)
         have RZ := Lib.hid (show Wz.heap[bx]? = some (.cells (nmV nm) 72 (0, 0)) from hFz.row R2.out HNS.out)
         clear hTz hFz))
    have hpz := HPE.out
    have NZ := Lib.hid (show ∀ x ∈ pz, x.nm ≠ nm from fun x hx => HN1.out x (by rw [hpz] at hx; exact mem_erase hx))
    have LZ := Lib.hid (show pz.length ≤ 64 by rw [hpz, List.length_eraseIdx]; have := HRL.out; split <;> omega)
    rw [← hpz] at TZ
    clear hpz c4 CL q0 DR qf hne h0l hx0
    have c2 : Wz.cell? ⟨t, 2, none⟩ = some (.int .i64 now) := cell_of_row Wz t 2 _ _ (0, 0) TZ.out.row
    go_upto_region 7 with fail
    obtain ⟨q, hq⟩ : ∃ q, q = Wz.heap.size := ⟨_, rfl⟩
    obtain ⟨W6, hW6⟩ : ∃ W6, W6 = Wz.alloc (.cells #[.int .i64 now, .slice none 0 0] 79) := ⟨_, rfl⟩
    have B6 := Lib.hid (show Below Wz.heap.size Wz W6 by rw [hW6]; exact alloc_below _ _)
    have T6 := Lib.hid (TZ.out.below B6.out)
    have Q6 := Lib.hid (show W6.heap[q]? = some (.cells #[.int .i64 now, .slice none 0 0] 79 (0, 0)) by rw [hW6, hq]; exact heap_alloc_new _ _)
    have R6 := Lib.hid (show W6.heap[bx]? = some (.cells (nmV nm) 72 (0, 0)) from (B6.out.block _ (Array.getElem?_eq_some_iff.1 RZ.out).1).trans RZ.out)
    have F6 := Lib.hid (show Fs S w W6 from FZ.out.trans (Fs.below B6.out))
    have QS := Lib.hid (show ¬ S q by rw [hq]; intro hs; exact Nat.lt_irrefl _ (TZ.out.lt _ hs))
    have QW := Lib.hid (show w.heap.size ≤ q by rw [hq]; exact FZ.out.size)
    rw [← hW6, ← hq]
    clear hW6 hq c2
    have c3 : W6.cell? ⟨t, 3, none⟩ = some (.map (some m)) := cell_of_row W6 t 3 _ _ (0, 0) T6.out.row
    have R6d := Lib.hid (show ∀ w', (∃ j, w' = W6.drewN j) → w'.heap[bx]? = some (.cells (nmV nm) 72 (0, 0)) by rintro w' ⟨j, rfl⟩; exact R6.out)
    refine Go.Proofs.Ytcnnpfjommiafaa.lastC.wp_region_lastC (fun w' => ∃ j, w' = W6.drewN j) 6 (by kernel_rfl) (by kernel_rfl) (by kernel_rfl) (by kernel_rfl) ⟨1, rfl⟩ ?_
    simp only [List.take_succ_cons, List.take_zero, List.drop_succ_cons, List.drop_zero]
    repeat (first
      | (refine wpQuiet_row rfl 72 (.tmp 3) rfl bx rfl _ _ _ _ R6d.out Try.underlying72 rfl I0n.out ?_; simp only [Act.put, List.setIfInBounds_toArray, List.set_cons_succ, List.set_cons_zero])
      | go_big_quiet_step (fail)
      | quiet_step (fail))
    refine wpQuiet_nil ?_
    intro wd hwd
    obtain ⟨n9, hwd⟩ := hwd
    subst hwd
    have T6' := Lib.hid (T6.out.keep (w' := W6.drewN n9) (fun k _ => rfl) (Nat.le_refl _))
    have Q6' := Lib.hid (show (W6.drewN n9).heap[q]? = some (.cells #[.int .i64 now, .slice none 0 0] 79 (0, 0)) from Q6.out)
    have R6' := Lib.hid (show (W6.drewN n9).heap[bx]? = some (.cells (nmV nm) 72 (0, 0)) from R6.out)
    have F6' := Lib.hid (show Fs S w (W6.drewN n9) from F6.out.trans (Fs.below ⟨rfl, rfl, rfl, Nat.le_refl _, fun _ _ => rfl⟩))
    have ZW6 := Lib.hid (show Wz.heap.size ≤ (W6.drewN n9).heap.size from B6.out.size)
    clear T6 Q6 R6 F6 R6d c3 B6
    generalize W6.drewN n9 = Wd at *
    refine wpList_putN rfl (.tmp 46) (.tmp 47) (.tmp 48) rfl rfl rfl (q := q) rfl T6'.out.map (fun y hy => by obtain ⟨z, hz, rfl⟩ := List.mem_map.1 hy; exact T6'.out.nok z hz) HNO.out (fun y hy => by obtain ⟨z, hz, rfl⟩ := List.mem_map.1 hy; exact NZ.out z hz) fun W7 hM7 hB7 hS7 => ?_
    simp only [Act.put]
    have M7 := Lib.hid hM7
    have TM := Lib.hid (show t ≠ m by
      intro e
      obtain ⟨es, cl, hb, -⟩ := T6'.out.map
      have h9 := T6'.out.row
      rw [e, hb] at h9; cases h9)
    have RT7 := Lib.hid ((hB7.block t (T6'.out.lt _ T6'.out.st) TM.out).trans T6'.out.row)
    have O7 := Lib.hid (own_row_same (w' := W7) T6'.out.ord fun g hg => hB7.block g (T6'.out.lt _ (T6'.out.so g hg)) fun e => by
      obtain ⟨cur, hc⟩ := ord_type T6'.out.ord g hg
      obtain ⟨es, cl, hb, -⟩ := T6'.out.map
      rw [e, hb] at hc; cases hc)
    have P7 := Lib.hid (show ∀ x ∈ pz, PpAt W7 S x from fun x hx => (T6'.out.parts x hx).butT hB7 T6'.out.lt (off_map T6'.out.map))
    have Q7 := Lib.hid (show W7.heap[q]? = some (.cells #[.int .i64 now, .slice none 0 0] 79 (0, 0)) from (hB7.block q (Array.getElem?_eq_some_iff.1 Q6'.out).1 (fun e => QS.out (e ▸ T6'.out.sm))).trans Q6'.out)
    have R7 := Lib.hid (show W7.heap[bx]? = some (.cells (nmV nm) 72 (0, 0)) from (hB7.block bx (Array.getElem?_eq_some_iff.1 R6'.out).1 (fun e => HNS.out (e ▸ T6'.out.sm))).trans R6'.out)
    have F7 := Lib.hid (show Fs S w W7 from F6'.out.trans (fs_but hB7 TZ.out.sm))
    have ZW := Lib.hid (show Wz.heap.size ≤ W7.heap.size by rw [hS7]; exact ZW6.out)
    clear hM7 hB7 hS7 T6' Q6' R6' F6' ZW6
    obtain ⟨X, hX⟩ : ∃ X, X = nmV nm := ⟨_, rfl⟩
    obtain ⟨H, hH⟩ : ∃ H : Array Value, H = #[.pointer (some ⟨t, 0, none⟩), .int .i64 room, .int .i64 now, .map (some m), oz] := ⟨_, rfl⟩
    obtain ⟨N, hN⟩ : ∃ N, N = (pz.map Pp.nm).length := ⟨_, rfl⟩
    obtain ⟨NL, hNL⟩ : ∃ L, L = flatN (pz.map Pp.nm) := ⟨_, rfl⟩
    obtain ⟨i0, hi0, hz0, hz1, hz2⟩ := info_parts nm_infoP
    have I0 := Lib.hid hi0; have I1 := Lib.hid hz0; have I2 := Lib.hid hz1; have I3 := Lib.hid hz2
    have ZS := Lib.hid (show (Value.agg (nmV zNm)).cells.size = 36 from nmV_size zNm_ok)
    have IX := Lib.hid (show (Try.prog.info? 72).map (·.size) = some X.size by rw [hX]; exact I0n.out)
    have HH := Lib.hid (show H[4]? = some oz by rw [hH]; rfl)
    have TN := Lib.hid (show Value.ownBlock oz ≠ some t by
      intro e
      obtain ⟨cur, hc⟩ := ord_type O7.out t e
      rw [RT7.out] at hc
      injection hc with hc
      injection hc with _ hc _
      exact absurd hc (by decide))
    have HX1 := Lib.hid (show ∀ u ∈ X.toList, u.oneCell' = true by rw [hX]; exact nm_one nm)
    have SX := Lib.hid (show X.size = 36 by rw [hX]; exact nmV_size HNO.out)
    have HN := Lib.hid (show N ≤ 1000 by rw [hN, List.length_map]; have := LZ.out; omega)
    have H0 := Lib.hid (show apR W7 t bx 4 58 72 36 H X oz N NL 0 (fun _ => undef) W7.drew from ⟨by rw [hH]; exact RT7.out, by rw [hX]; exact R7.out, by rw [hN, hNL]; exact O7.out, Fs.below ⟨rfl, rfl, rfl, Nat.le_refl _, fun _ _ => rfl⟩⟩)
    have EX := Lib.hid hX; have EH := Lib.hid hH; have EN := Lib.hid hN; have ENL := Lib.hid hNL
    clear hX hH hN hNL hi0 hz0 hz1 hz2
    go_upto_region 8 with fail
    refine with_act fun a0 ha0 => ?_
    have hl : bgT.length = a0.tmps.size := by rw [ha0]; rfl
    have k0 : a0.tmps[0]?.getD undef = .pointer (some ⟨t, 0, none⟩) := by rw [ha0]; rfl
    have k3 : a0.tmps[3]?.getD undef = .pointer (some ⟨bx, 0, none⟩) := by rw [ha0]; rfl
    refine wp_region_che (by kernel_rfl) bgT (by kernel_rfl) (by kernel_rfl) hl (fun i => a0.tmps[i + 49]?.getD undef) (by rw [ha0]; rfl) (0) (fun _ _ => True) [6, 7, 10] (by kernel_rfl) (by decide) (by decide) (fun _ => True) (bgV t bx oz X) (apR W7 t bx 4 58 72 36 H X oz N NL) (Nat.zero_le _) trivial H0.out (fun _ _ _ _ h => h) (fun i v w w' _ _ h => bgV.keep _ _ _ _ i v w w' (.inr trivial) h) (fun k us us' w w' h _ hb hR => apR.keep _ _ _ _ _ _ _ _ _ _ _ _ k us us' w w' h hb hR) ⟨?_, ?_, ?_, ?_, ?_, ?_, ?_, ?_, ?_, ?_, ?_, trivial⟩ ?_
    · refine stepE_val [] (by kernel_rfl) (by decide) (by decide) rfl fun us w' hB hG hV => ?_
      have o0 := (frame_old2 (us := us) (a := a0) (show (bgT[0]?).join = none from rfl)).trans k0
      generalize frame bgT a0 us = fr at *
      exact val_C (v := .pointer (some ⟨t, 0, none⟩)) (w' := w') (by go_simp) (Below.refl _ _) rfl
    · refine stepE_val [] (by kernel_rfl) (by decide) (by decide) rfl fun us w' hB hG hV => ?_
      have o0 := (frame_old2 (us := us) (a := a0) (show (bgT[0]?).join = none from rfl)).trans k0
      generalize frame bgT a0 us = fr at *
      exact val_C (v := .pointer (some ⟨t, 0, none⟩)) (w' := w') (by go_simp) (Below.refl _ _) rfl
    · refine stepE_val [1] (by kernel_rfl) (by decide) (by decide) rfl fun us w' hB hG hV => ?_
      have e1 : us 1 = .pointer (some ⟨t, 0, none⟩) := hV 1 (by simp)
      have v1 := (frame_at2 (us := us) hl (show (bgT[50]?).join = some 1 from rfl)).trans e1
      generalize frame bgT a0 us = fr at *
      exact val_C (v := .pointer (some ⟨t, 0, none⟩)) (w' := w') (by go_simp) (Below.refl _ _) rfl
    · refine stepE_val [2] (by kernel_rfl) (by decide) (by decide) rfl fun us w' hB hG hV => ?_
      have e2 : us 2 = .pointer (some ⟨t, 0, none⟩) := hV 2 (by simp)
      have v2 := (frame_at2 (us := us) hl (show (bgT[51]?).join = some 2 from rfl)).trans e2
      generalize frame bgT a0 us = fr at *
      exact val_C (v := .pointer (some ⟨t, 4, none⟩)) (w' := w') (by go_simp) (Below.refl _ _) rfl
    · refine stepE_early 0 1 (.inl rfl) (.inr ⟨_, _, rfl, rfl, by kernel_rfl⟩) [3] (by kernel_rfl) (by decide) (by decide) rfl fun us w' k hB hG hV hk hR => ?_
      have e3 : us 3 = .pointer (some ⟨t, 4, none⟩) := hV 3 (by simp)
      have v3 := (frame_at2 (us := us) hl (show (bgT[52]?).join = some 3 from rfl)).trans e3
      have hrw : w'.heap[t]? = some (.cells H 58 (0, 0)) := by
        obtain ⟨h1, h2⟩ := hk
        match k, h1, h2, hR with
        | 0, _, _, hR => exact hR.1
        | 1, _, _, hR => exact hR.1
      have hc : w'.cell? ⟨t, 4, none⟩ = some (oz) := (cell_of_row w' t 4 _ _ (0, 0) hrw).trans HH.out
      generalize frame bgT a0 us = fr at *
      exact val_C (v := oz) (w' := w') (by go_simp) (Below.refl _ _) rfl
    · refine stepE_early 0 0 (.inl rfl) (.inr ⟨_, _, rfl, rfl, by kernel_rfl⟩) [] (by kernel_rfl) (by decide) (by decide) rfl fun us w' k hB hG hV hk hR => ?_
      have o3 := (frame_old2 (us := us) (a := a0) (show (bgT[3]?).join = none from rfl)).trans k3
      have hg1 := (show w'.heap[bx]? = some (.cells X 72 (0, 0)) from by obtain ⟨h1, h2⟩ := hk; obtain rfl : k = 0 := (by omega); exact hR.2.1)
      generalize frame bgT a0 us = fr at *
      exact load_C 72 3 rfl (bx) o3 _ _ (0, 0) _ hg1 Try.underlying72 rfl IX.out rfl
    · refine stepE_chain 0 rfl (by decide) [5] (by kernel_rfl) (by decide) rfl fun us w' hB hG hV hR => ?_
      have e5 : us 5 = .agg X := hV 5 (by simp)
      have v5 := (frame_at2 (us := us) hl (show (bgT[54]?).join = some 5 from rfl)).trans e5
      generalize frame bgT a0 us = fr at *
      exact lit1_J (R := fun v w'' => (True ∧ Below 0 w' w'') ∧ apR W7 t bx 4 58 72 36 H X oz N NL 1 (upd us 6 v) w'') 54 56 72 36 rfl X v5 Try.underlying56 _ _ I0.out I1.out I2.out SX.out (by decide) (by decide) ⟨⟨trivial, (alloc_below w' _).mono (Nat.zero_le _)⟩, ((alloc_below w' _).block _ (Array.getElem?_eq_some_iff.1 hR.1).1).trans hR.1, ⟨w'.heap.size, upd_same _ _ _, heap_alloc_new w' _⟩, owns_below hR.2.2.1 (alloc_below w' _), hR.2.2.2.trans (Fs.below (alloc_below w' _))⟩
    · refine stepE_chain 1 rfl (by decide) [4] (by kernel_rfl) (by decide) rfl fun us w' hB hG hV hR => ?_
      have e4 : us 4 = oz := hV 4 (by simp)
      have v4 := (frame_at2 (us := us) hl (show (bgT[53]?).join = some 4 from rfl)).trans e4
      obtain ⟨a1, ⟨z, e6, hz⟩, a3, a4⟩ := (show w'.heap[t]? = some (.cells H 58 (0, 0)) ∧ (∃ z, us 6 = .slice (some ⟨z, 0, none⟩) 1 1 ∧ w'.heap[z]? = some (.cells X 72 (0, 0))) ∧ w'.ownsRow 0 72 36 oz N NL ∧ Fs (S1 t oz) W7 w' from hR)
      have v6 := (frame_at2 (us := us) hl (show (bgT[55]?).join = some 6 from rfl)).trans e6
      generalize frame bgT a0 us = fr at *
      exact app1_J (R := fun v w'' => (True ∧ Below 0 w' w'') ∧ apR W7 t bx 4 58 72 36 H X oz N NL 2 (upd us 7 v) w'') (.tmp 53) (.tmp 55) 56 72 36 44 rfl Try.underlying56 _ _ I0.out I1.out I2.out I3.out ZS.out (by decide) (by decide) _ _ _ (eval_tmp v4) a3 HN.out z X (eval_tmp v6) hz SX.out HX1.out fun g' c' w'' h6 h2 h3 => ⟨⟨trivial, ⟨h3.os, h3.tape, h3.output, h3.size, fun q hq => absurd hq (Nat.not_lt_zero q)⟩⟩, g', c', upd_same _ _ _, (h3.block _ (Array.getElem?_eq_some_iff.1 a1).1 (fun e => TN.out e.symm)).trans a1, h6.imp id (fun e => by rw [e]; exact a4.size), h2, a4.trans (fs_grown h3)⟩
    · refine stepE_val [0] (by kernel_rfl) (by decide) (by decide) rfl fun us w' hB hG hV => ?_
      have e0 : us 0 = .pointer (some ⟨t, 0, none⟩) := hV 0 (by simp)
      have v0 := (frame_at2 (us := us) hl (show (bgT[49]?).join = some 0 from rfl)).trans e0
      generalize frame bgT a0 us = fr at *
      exact val_C (v := .pointer (some ⟨t, 0, none⟩)) (w' := w') (by go_simp) (Below.refl _ _) rfl
    · refine stepE_val [8] (by kernel_rfl) (by decide) (by decide) rfl fun us w' hB hG hV => ?_
      have e8 : us 8 = .pointer (some ⟨t, 0, none⟩) := hV 8 (by simp)
      have v8 := (frame_at2 (us := us) hl (show (bgT[57]?).join = some 8 from rfl)).trans e8
      generalize frame bgT a0 us = fr at *
      exact val_C (v := .pointer (some ⟨t, 4, none⟩)) (w' := w') (by go_simp) (Below.refl _ _) rfl
    · refine stepE_chain 2 rfl (by decide) [9] (by kernel_rfl) (by decide) rfl fun us w' hB hG hV hR => ?_
      have e9 : us 9 = .pointer (some ⟨t, 4, none⟩) := hV 9 (by simp)
      have v9 := (frame_at2 (us := us) hl (show (bgT[58]?).join = some 9 from rfl)).trans e9
      obtain ⟨g', c', e7, a1, a2, a3, a4⟩ := (show ∃ g' c', us 7 = .slice (some ⟨g', 0, none⟩) (N + 1) c' ∧ w'.heap[t]? = some (.cells H 58 (0, 0)) ∧ (Value.ownBlock oz = some g' ∨ W7.heap.size ≤ g') ∧ w'.ownsRow 0 72 36 (.slice (some ⟨g', 0, none⟩) (N + 1) c') (N + 1) (NL ++ Array.toList X) ∧ Fs (S1 t oz) W7 w' from hR)
      have v7 := (frame_at2 (us := us) hl (show (bgT[56]?).join = some 7 from rfl)).trans e7
      have hc : w'.cell? ⟨t, 4, none⟩ = some (oz) := (cell_of_row w' t 4 _ _ (0, 0) a1).trans HH.out
      have hf : w'.frozen? ⟨t, 4, none⟩ = false := frozen_of_row w' t 4 _ _ a1
      have hgt : g' ≠ t := fun e => by
        rcases a3.2 with ⟨e9, -⟩ | ⟨g9, cap9, cur9, e9, -, hh9, -⟩
        · cases e9
        · injection e9 with e9 _ _
          injection e9 with e9
          injection e9 with e9
          rw [← e9, e, a1] at hh9
          injection hh9 with hh9
          injection hh9 with _ hh9 _
          exact absurd hh9 (by decide)
      generalize frame bgT a0 us = fr at *
      exact free_skip (w' := w'.setCell ⟨t, 4, none⟩ (.slice (some ⟨g', 0, none⟩) (N + 1) c')) (by go_simp) ⟨undef, rfl, ⟨trivial, (Below.refl 0 w').setCell (p := ⟨t, 4, none⟩) (Nat.zero_le _) _⟩, g', c', heap_setCell_same w' t 4 _ _ _ a1, a2, own_row_same a3 (fun g hg => Below.heap_setCell _ _ _ _ (by show g ≠ t; have e := Option.some.inj hg; exact fun e2 => hgt ((show g' = g from e).trans e2))), a4.trans (fs_but ((But.refl w').setCell 4 _) (.inl rfl))⟩
    · intro us w9 hB2 hG hV hR
      have HR9 := Lib.hid (show ∃ g' c', w9.heap[t]? = some (.cells (H.setIfInBounds 4 (.slice (some ⟨g', 0, none⟩) (N + 1) c')) 58 (0, 0)) ∧ (Value.ownBlock oz = some g' ∨ W7.heap.size ≤ g') ∧ w9.ownsRow 0 72 36 (.slice (some ⟨g', 0, none⟩) (N + 1) c') (N + 1) (NL ++ Array.toList X) ∧ Fs (S1 t oz) W7 w9 from hR)
      subst ha0
      simp only [frame, bgT, fill]
      clear hV hG hl k0 k3 hR hB2
      go_wp2
      go_ret
      obtain ⟨g', c', r1, r2, r3, r4⟩ := HR9.out
      have eH : H.setIfInBounds 4 (.slice (some ⟨g', 0, none⟩) (N + 1) c') = #[.pointer (some ⟨t, 0, none⟩), .int .i64 room, .int .i64 now, .map (some m), .slice (some ⟨g', 0, none⟩) (N + 1) c'] := by rw [EH.out]; rfl
      rw [eH] at r1
      have hsz9 : W7.heap.size ≤ w9.heap.size := r4.size
      have hsw : w.heap.size ≤ W7.heap.size := F7.out.size
      have hg9 : g' < w9.heap.size := by
        rcases r3.2 with ⟨e9, -⟩ | ⟨g9, cap9, cur9, e9, -, hh9, -⟩
        · cases e9
        · injection e9 with e9 _ _
          injection e9 with e9
          injection e9 with e9
          rw [e9]; exact (Array.getElem?_eq_some_iff.1 hh9).1
      have hS1 : ∀ k, S1 t oz k → S k := fun k hk => hk.elim (fun e => e ▸ TZ.out.st) (fun e => TZ.out.so k e)
      have hmn : ¬ S1 t oz m := by
        rintro (e | e)
        · exact TM.out e.symm
        · obtain ⟨cur, hc⟩ := ord_type O7.out m e
          obtain ⟨es, cl, hb, -⟩ := M7.out
          rw [hb] at hc; cases hc
      have hqn : ¬ S1 t oz q := fun e => QS.out (hS1 q e)
      refine ⟨q, .slice (some ⟨g', 0, none⟩) (N + 1) c', rfl, ⟨r1, .inl TZ.out.st, .inl TZ.out.sm, ?_, ?_, ?_, ?_, ?_, ?_, ?_, ?_, ?_⟩, F7.out.trans (r4.mono fun k _ hk => hS1 k hk), QW.out⟩
      · have e : (pz ++ [newP nm q now]).map (fun x : Pp => (x.nm, x.q)) = pz.map (fun x : Pp => (x.nm, x.q)) ++ [(nm, q)] := by rw [List.map_append]; rfl
        rw [e]
        exact M7.out.same (r4.block m M7.out.lt hmn)
      · have e1 : (pz ++ [newP nm q now]).map Pp.nm = pz.map Pp.nm ++ [nm] := by rw [List.map_append]; rfl
        have e2 : (pz.map Pp.nm ++ [nm]).length = N + 1 := by rw [List.length_append, EN.out]; rfl
        have e3 : flatN (pz.map Pp.nm ++ [nm]) = NL ++ X.toList := by rw [flatN_append, ENL.out, EX.out]; unfold flatN; simp [nmV]
        rw [e1, e2, e3]
        exact r3
      · intro k hk
        have e : g' = k := Option.some.inj hk
        subst e
        exact r2.elim (fun h => .inl (TZ.out.so _ h)) (fun h => .inr ⟨Nat.le_trans hsw h, hg9⟩)
      · intro x hx
        rcases List.mem_append.1 hx with hx | hx
        · exact ((P7.out x hx).offT (B := S1 t oz) (fun k hk hn => r4.block k (Nat.lt_of_lt_of_le (TZ.out.lt k hk) ZW.out) hn) (fun k hk T cs fr hh => by
            rcases hk with e | e
            · subst e
              exact off_row RT7.out ⟨by decide, by decide, by decide⟩ T cs fr hh
            · obtain ⟨cur, hc⟩ := ord_type O7.out k e
              exact off_row hc ⟨by decide, by decide, by decide⟩ T cs fr hh)).mono fun k hk => .inl hk
        · obtain rfl := List.mem_singleton.1 hx
          exact ⟨(r4.block q (Array.getElem?_eq_some_iff.1 Q7.out).1 hqn).trans Q7.out, .inr ⟨QW.out, Nat.lt_of_lt_of_le (Array.getElem?_eq_some_iff.1 Q7.out).1 hsz9⟩, fun g hg => (by cases hg), OwnK.nil _ _, fun e he => (by cases he)⟩
      · rw [List.map_append]
        refine List.nodup_append.2 ⟨TZ.out.qnd, by simp, fun a ha b hb => ?_⟩
        obtain ⟨x, hx, rfl⟩ := List.mem_map.1 ha
        obtain rfl : b = q := by simpa [newP] using hb
        intro e
        exact QS.out (e ▸ (TZ.out.parts x hx).sq)
      · refine List.pairwise_append.2 ⟨TZ.out.gnd, List.pairwise_singleton _ _, fun a ha b hb g hg => ?_⟩
        obtain rfl := List.mem_singleton.1 hb
        exact fun e => by cases e
      · rw [List.map_append]
        refine List.nodup_append.2 ⟨TZ.out.nnd, by simp, fun a ha b hb => ?_⟩
        obtain ⟨x, hx, rfl⟩ := List.mem_map.1 ha
        obtain rfl : b = nm := by simpa [newP] using hb
        exact NZ.out x hx
      · intro x hx
        rcases List.mem_append.1 hx with hx | hx
        · exact TZ.out.nok x hx
        · obtain rfl := List.mem_singleton.1 hx
          exact HNO.out
      · rintro k (hk | hk)
        · exact Nat.lt_of_lt_of_le (Nat.lt_of_lt_of_le (TZ.out.lt k hk) ZW.out) hsz9
        · exact hk.2
    
  · have qf : ((ps.length : Int) == room) = false := beq_eq_false_iff_ne.2 hfull
    have hpz : pz = ps := by rw [HPZ.out, if_neg hfull]
    have HPE := Lib.hid hpz
    clear hfull hpz
    refine wp_region_quiet_lit (by kernel_rfl) (by kernel_rfl) ?_
    repeat (first | go_big_quiet_step (fail) | quiet_step (fail))
    refine wpQuiet_nil ?_
    intro _ hw'
    obtain ⟨nq2, hw''⟩ := hw'
    subst hw''
    have TZ := Lib.hid (T1.out.keep (w' := W1.drewN nq2) (fun k _ => rfl) (Nat.le_refl _))
    have FZ := Lib.hid (show Fs S w (W1.drewN nq2) from Fs.below (HB1.out.trans ⟨rfl, rfl, rfl, Nat.le_refl _, fun _ _ => rfl⟩))
    have RZ := Lib.hid (show (W1.drewN nq2).heap[bx]? = some (.cells (nmV nm) 72 (0, 0)) from R1.out)
    clear c4 c1 T1 HB1 R1
    go_upto_region 6 with fail
    generalize W1.drewN nq2 = Wz at *
    have hpz := HPE.out
    have NZ := Lib.hid (show ∀ x ∈ pz, x.nm ≠ nm from fun x hx => HN1.out x (hpz ▸ hx))
    have LZ := Lib.hid (show pz.length ≤ 64 by rw [hpz]; have := HRL.out; omega)
    obtain ⟨oz, hoz⟩ : ∃ q, q = Value.slice A4 ps.length cc := ⟨_, rfl⟩
    rw [← hoz, ← hpz] at TZ
    clear hoz hpz qf
    have c2 : Wz.cell? ⟨t, 2, none⟩ = some (.int .i64 now) := cell_of_row Wz t 2 _ _ (0, 0) TZ.out.row
    go_upto_region 7 with fail
    obtain ⟨q, hq⟩ : ∃ q, q = Wz.heap.size := ⟨_, rfl⟩
    obtain ⟨W6, hW6⟩ : ∃ W6, W6 = Wz.alloc (.cells #[.int .i64 now, .slice none 0 0] 79) := ⟨_, rfl⟩
    have B6 := Lib.hid (show Below Wz.heap.size Wz W6 by rw [hW6]; exact alloc_below _ _)
    have T6 := Lib.hid (TZ.out.below B6.out)
    have Q6 := Lib.hid (show W6.heap[q]? = some (.cells #[.int .i64 now, .slice none 0 0] 79 (0, 0)) by rw [hW6, hq]; exact heap_alloc_new _ _)
    have R6 := Lib.hid (show W6.heap[bx]? = some (.cells (nmV nm) 72 (0, 0)) from (B6.out.block _ (Array.getElem?_eq_some_iff.1 RZ.out).1).trans RZ.out)
    have F6 := Lib.hid (show Fs S w W6 from FZ.out.trans (Fs.below B6.out))
    have QS := Lib.hid (show ¬ S q by rw [hq]; intro hs; exact Nat.lt_irrefl _ (TZ.out.lt _ hs))
    have QW := Lib.hid (show w.heap.size ≤ q by rw [hq]; exact FZ.out.size)
    rw [← hW6, ← hq]
    clear hW6 hq c2
    have c3 : W6.cell? ⟨t, 3, none⟩ = some (.map (some m)) := cell_of_row W6 t 3 _ _ (0, 0) T6.out.row
    have R6d := Lib.hid (show ∀ w', (∃ j, w' = W6.drewN j) → w'.heap[bx]? = some (.cells (nmV nm) 72 (0, 0)) by rintro w' ⟨j, rfl⟩; exact R6.out)
    refine Go.Proofs.Ytcnnpfjommiafaa.lastC.wp_region_lastC (fun w' => ∃ j, w' = W6.drewN j) 6 (by kernel_rfl) (by kernel_rfl) (by kernel_rfl) (by kernel_rfl) ⟨1, rfl⟩ ?_
    simp only [List.take_succ_cons, List.take_zero, List.drop_succ_cons, List.drop_zero]
    repeat (first
      | (refine wpQuiet_row rfl 72 (.tmp 3) rfl bx rfl _ _ _ _ R6d.out Try.underlying72 rfl I0n.out ?_; simp only [Act.put, List.setIfInBounds_toArray, List.set_cons_succ, List.set_cons_zero])
      | go_big_quiet_step (fail)
      | quiet_step (fail))
    refine wpQuiet_nil ?_
    intro wd hwd
    obtain ⟨n9, hwd⟩ := hwd
    subst hwd
    have T6' := Lib.hid (T6.out.keep (w' := W6.drewN n9) (fun k _ => rfl) (Nat.le_refl _))
    have Q6' := Lib.hid (show (W6.drewN n9).heap[q]? = some (.cells #[.int .i64 now, .slice none 0 0] 79 (0, 0)) from Q6.out)
    have R6' := Lib.hid (show (W6.drewN n9).heap[bx]? = some (.cells (nmV nm) 72 (0, 0)) from R6.out)
    have F6' := Lib.hid (show Fs S w (W6.drewN n9) from F6.out.trans (Fs.below ⟨rfl, rfl, rfl, Nat.le_refl _, fun _ _ => rfl⟩))
    have ZW6 := Lib.hid (show Wz.heap.size ≤ (W6.drewN n9).heap.size from B6.out.size)
    clear T6 Q6 R6 F6 R6d c3 B6
    generalize W6.drewN n9 = Wd at *
    refine wpList_putN rfl (.tmp 46) (.tmp 47) (.tmp 48) rfl rfl rfl (q := q) rfl T6'.out.map (fun y hy => by obtain ⟨z, hz, rfl⟩ := List.mem_map.1 hy; exact T6'.out.nok z hz) HNO.out (fun y hy => by obtain ⟨z, hz, rfl⟩ := List.mem_map.1 hy; exact NZ.out z hz) fun W7 hM7 hB7 hS7 => ?_
    simp only [Act.put]
    have M7 := Lib.hid hM7
    have TM := Lib.hid (show t ≠ m by
      intro e
      obtain ⟨es, cl, hb, -⟩ := T6'.out.map
      have h9 := T6'.out.row
      rw [e, hb] at h9; cases h9)
    have RT7 := Lib.hid ((hB7.block t (T6'.out.lt _ T6'.out.st) TM.out).trans T6'.out.row)
    have O7 := Lib.hid (own_row_same (w' := W7) T6'.out.ord fun g hg => hB7.block g (T6'.out.lt _ (T6'.out.so g hg)) fun e => by
      obtain ⟨cur, hc⟩ := ord_type T6'.out.ord g hg
      obtain ⟨es, cl, hb, -⟩ := T6'.out.map
      rw [e, hb] at hc; cases hc)
    have P7 := Lib.hid (show ∀ x ∈ pz, PpAt W7 S x from fun x hx => (T6'.out.parts x hx).butT hB7 T6'.out.lt (off_map T6'.out.map))
    have Q7 := Lib.hid (show W7.heap[q]? = some (.cells #[.int .i64 now, .slice none 0 0] 79 (0, 0)) from (hB7.block q (Array.getElem?_eq_some_iff.1 Q6'.out).1 (fun e => QS.out (e ▸ T6'.out.sm))).trans Q6'.out)
    have R7 := Lib.hid (show W7.heap[bx]? = some (.cells (nmV nm) 72 (0, 0)) from (hB7.block bx (Array.getElem?_eq_some_iff.1 R6'.out).1 (fun e => HNS.out (e ▸ T6'.out.sm))).trans R6'.out)
    have F7 := Lib.hid (show Fs S w W7 from F6'.out.trans (fs_but hB7 TZ.out.sm))
    have ZW := Lib.hid (show Wz.heap.size ≤ W7.heap.size by rw [hS7]; exact ZW6.out)
    clear hM7 hB7 hS7 T6' Q6' R6' F6' ZW6
    obtain ⟨X, hX⟩ : ∃ X, X = nmV nm := ⟨_, rfl⟩
    obtain ⟨H, hH⟩ : ∃ H : Array Value, H = #[.pointer (some ⟨t, 0, none⟩), .int .i64 room, .int .i64 now, .map (some m), oz] := ⟨_, rfl⟩
    obtain ⟨N, hN⟩ : ∃ N, N = (pz.map Pp.nm).length := ⟨_, rfl⟩
    obtain ⟨NL, hNL⟩ : ∃ L, L = flatN (pz.map Pp.nm) := ⟨_, rfl⟩
    obtain ⟨i0, hi0, hz0, hz1, hz2⟩ := info_parts nm_infoP
    have I0 := Lib.hid hi0; have I1 := Lib.hid hz0; have I2 := Lib.hid hz1; have I3 := Lib.hid hz2
    have ZS := Lib.hid (show (Value.agg (nmV zNm)).cells.size = 36 from nmV_size zNm_ok)
    have IX := Lib.hid (show (Try.prog.info? 72).map (·.size) = some X.size by rw [hX]; exact I0n.out)
    have HH := Lib.hid (show H[4]? = some oz by rw [hH]; rfl)
    have TN := Lib.hid (show Value.ownBlock oz ≠ some t by
      intro e
      obtain ⟨cur, hc⟩ := ord_type O7.out t e
      rw [RT7.out] at hc
      injection hc with hc
      injection hc with _ hc _
      exact absurd hc (by decide))
    have HX1 := Lib.hid (show ∀ u ∈ X.toList, u.oneCell' = true by rw [hX]; exact nm_one nm)
    have SX := Lib.hid (show X.size = 36 by rw [hX]; exact nmV_size HNO.out)
    have HN := Lib.hid (show N ≤ 1000 by rw [hN, List.length_map]; have := LZ.out; omega)
    have H0 := Lib.hid (show apR W7 t bx 4 58 72 36 H X oz N NL 0 (fun _ => undef) W7.drew from ⟨by rw [hH]; exact RT7.out, by rw [hX]; exact R7.out, by rw [hN, hNL]; exact O7.out, Fs.below ⟨rfl, rfl, rfl, Nat.le_refl _, fun _ _ => rfl⟩⟩)
    have EX := Lib.hid hX; have EH := Lib.hid hH; have EN := Lib.hid hN; have ENL := Lib.hid hNL
    clear hX hH hN hNL hi0 hz0 hz1 hz2
    go_upto_region 8 with fail
    refine with_act fun a0 ha0 => ?_
    have hl : bgT.length = a0.tmps.size := by rw [ha0]; rfl
    have k0 : a0.tmps[0]?.getD undef = .pointer (some ⟨t, 0, none⟩) := by rw [ha0]; rfl
    have k3 : a0.tmps[3]?.getD undef = .pointer (some ⟨bx, 0, none⟩) := by rw [ha0]; rfl
    refine wp_region_che (by kernel_rfl) bgT (by kernel_rfl) (by kernel_rfl) hl (fun i => a0.tmps[i + 49]?.getD undef) (by rw [ha0]; rfl) (0) (fun _ _ => True) [6, 7, 10] (by kernel_rfl) (by decide) (by decide) (fun _ => True) (bgV t bx oz X) (apR W7 t bx 4 58 72 36 H X oz N NL) (Nat.zero_le _) trivial H0.out (fun _ _ _ _ h => h) (fun i v w w' _ _ h => bgV.keep _ _ _ _ i v w w' (.inr trivial) h) (fun k us us' w w' h _ hb hR => apR.keep _ _ _ _ _ _ _ _ _ _ _ _ k us us' w w' h hb hR) ⟨?_, ?_, ?_, ?_, ?_, ?_, ?_, ?_, ?_, ?_, ?_, trivial⟩ ?_
    · refine stepE_val [] (by kernel_rfl) (by decide) (by decide) rfl fun us w' hB hG hV => ?_
      have o0 := (frame_old2 (us := us) (a := a0) (show (bgT[0]?).join = none from rfl)).trans k0
      generalize frame bgT a0 us = fr at *
      exact val_C (v := .pointer (some ⟨t, 0, none⟩)) (w' := w') (by go_simp) (Below.refl _ _) rfl
    · refine stepE_val [] (by kernel_rfl) (by decide) (by decide) rfl fun us w' hB hG hV => ?_
      have o0 := (frame_old2 (us := us) (a := a0) (show (bgT[0]?).join = none from rfl)).trans k0
      generalize frame bgT a0 us = fr at *
      exact val_C (v := .pointer (some ⟨t, 0, none⟩)) (w' := w') (by go_simp) (Below.refl _ _) rfl
    · refine stepE_val [1] (by kernel_rfl) (by decide) (by decide) rfl fun us w' hB hG hV => ?_
      have e1 : us 1 = .pointer (some ⟨t, 0, none⟩) := hV 1 (by simp)
      have v1 := (frame_at2 (us := us) hl (show (bgT[50]?).join = some 1 from rfl)).trans e1
      generalize frame bgT a0 us = fr at *
      exact val_C (v := .pointer (some ⟨t, 0, none⟩)) (w' := w') (by go_simp) (Below.refl _ _) rfl
    · refine stepE_val [2] (by kernel_rfl) (by decide) (by decide) rfl fun us w' hB hG hV => ?_
      have e2 : us 2 = .pointer (some ⟨t, 0, none⟩) := hV 2 (by simp)
      have v2 := (frame_at2 (us := us) hl (show (bgT[51]?).join = some 2 from rfl)).trans e2
      generalize frame bgT a0 us = fr at *
      exact val_C (v := .pointer (some ⟨t, 4, none⟩)) (w' := w') (by go_simp) (Below.refl _ _) rfl
    · refine stepE_early 0 1 (.inl rfl) (.inr ⟨_, _, rfl, rfl, by kernel_rfl⟩) [3] (by kernel_rfl) (by decide) (by decide) rfl fun us w' k hB hG hV hk hR => ?_
      have e3 : us 3 = .pointer (some ⟨t, 4, none⟩) := hV 3 (by simp)
      have v3 := (frame_at2 (us := us) hl (show (bgT[52]?).join = some 3 from rfl)).trans e3
      have hrw : w'.heap[t]? = some (.cells H 58 (0, 0)) := by
        obtain ⟨h1, h2⟩ := hk
        match k, h1, h2, hR with
        | 0, _, _, hR => exact hR.1
        | 1, _, _, hR => exact hR.1
      have hc : w'.cell? ⟨t, 4, none⟩ = some (oz) := (cell_of_row w' t 4 _ _ (0, 0) hrw).trans HH.out
      generalize frame bgT a0 us = fr at *
      exact val_C (v := oz) (w' := w') (by go_simp) (Below.refl _ _) rfl
    · refine stepE_early 0 0 (.inl rfl) (.inr ⟨_, _, rfl, rfl, by kernel_rfl⟩) [] (by kernel_rfl) (by decide) (by decide) rfl fun us w' k hB hG hV hk hR => ?_
      have o3 := (frame_old2 (us := us) (a := a0) (show (bgT[3]?).join = none from rfl)).trans k3
      have hg1 := (show w'.heap[bx]? = some (.cells X 72 (0, 0)) from by obtain ⟨h1, h2⟩ := hk; obtain rfl : k = 0 := (by omega); exact hR.2.1)
      generalize frame bgT a0 us = fr at *
      exact load_C 72 3 rfl (bx) o3 _ _ (0, 0) _ hg1 Try.underlying72 rfl IX.out rfl
    · refine stepE_chain 0 rfl (by decide) [5] (by kernel_rfl) (by decide) rfl fun us w' hB hG hV hR => ?_
      have e5 : us 5 = .agg X := hV 5 (by simp)
      have v5 := (frame_at2 (us := us) hl (show (bgT[54]?).join = some 5 from rfl)).trans e5
      generalize frame bgT a0 us = fr at *
      exact lit1_J (R := fun v w'' => (True ∧ Below 0 w' w'') ∧ apR W7 t bx 4 58 72 36 H X oz N NL 1 (upd us 6 v) w'') 54 56 72 36 rfl X v5 Try.underlying56 _ _ I0.out I1.out I2.out SX.out (by decide) (by decide) ⟨⟨trivial, (alloc_below w' _).mono (Nat.zero_le _)⟩, ((alloc_below w' _).block _ (Array.getElem?_eq_some_iff.1 hR.1).1).trans hR.1, ⟨w'.heap.size, upd_same _ _ _, heap_alloc_new w' _⟩, owns_below hR.2.2.1 (alloc_below w' _), hR.2.2.2.trans (Fs.below (alloc_below w' _))⟩
    · refine stepE_chain 1 rfl (by decide) [4] (by kernel_rfl) (by decide) rfl fun us w' hB hG hV hR => ?_
      have e4 : us 4 = oz := hV 4 (by simp)
      have v4 := (frame_at2 (us := us) hl (show (bgT[53]?).join = some 4 from rfl)).trans e4
      obtain ⟨a1, ⟨z, e6, hz⟩, a3, a4⟩ := (show w'.heap[t]? = some (.cells H 58 (0, 0)) ∧ (∃ z, us 6 = .slice (some ⟨z, 0, none⟩) 1 1 ∧ w'.heap[z]? = some (.cells X 72 (0, 0))) ∧ w'.ownsRow 0 72 36 oz N NL ∧ Fs (S1 t oz) W7 w' from hR)
      have v6 := (frame_at2 (us := us) hl (show (bgT[55]?).join = some 6 from rfl)).trans e6
      generalize frame bgT a0 us = fr at *
      exact app1_J (R := fun v w'' => (True ∧ Below 0 w' w'') ∧ apR W7 t bx 4 58 72 36 H X oz N NL 2 (upd us 7 v) w'') (.tmp 53) (.tmp 55) 56 72 36 44 rfl Try.underlying56 _ _ I0.out I1.out I2.out I3.out ZS.out (by decide) (by decide) _ _ _ (eval_tmp v4) a3 HN.out z X (eval_tmp v6) hz SX.out HX1.out fun g' c' w'' h6 h2 h3 => ⟨⟨trivial, ⟨h3.os, h3.tape, h3.output, h3.size, fun q hq => absurd hq (Nat.not_lt_zero q)⟩⟩, g', c', upd_same _ _ _, (h3.block _ (Array.getElem?_eq_some_iff.1 a1).1 (fun e => TN.out e.symm)).trans a1, h6.imp id (fun e => by rw [e]; exact a4.size), h2, a4.trans (fs_grown h3)⟩
    · refine stepE_val [0] (by kernel_rfl) (by decide) (by decide) rfl fun us w' hB hG hV => ?_
      have e0 : us 0 = .pointer (some ⟨t, 0, none⟩) := hV 0 (by simp)
      have v0 := (frame_at2 (us := us) hl (show (bgT[49]?).join = some 0 from rfl)).trans e0
      generalize frame bgT a0 us = fr at *
      exact val_C (v := .pointer (some ⟨t, 0, none⟩)) (w' := w') (by go_simp) (Below.refl _ _) rfl
    · refine stepE_val [8] (by kernel_rfl) (by decide) (by decide) rfl fun us w' hB hG hV => ?_
      have e8 : us 8 = .pointer (some ⟨t, 0, none⟩) := hV 8 (by simp)
      have v8 := (frame_at2 (us := us) hl (show (bgT[57]?).join = some 8 from rfl)).trans e8
      generalize frame bgT a0 us = fr at *
      exact val_C (v := .pointer (some ⟨t, 4, none⟩)) (w' := w') (by go_simp) (Below.refl _ _) rfl
    · refine stepE_chain 2 rfl (by decide) [9] (by kernel_rfl) (by decide) rfl fun us w' hB hG hV hR => ?_
      have e9 : us 9 = .pointer (some ⟨t, 4, none⟩) := hV 9 (by simp)
      have v9 := (frame_at2 (us := us) hl (show (bgT[58]?).join = some 9 from rfl)).trans e9
      obtain ⟨g', c', e7, a1, a2, a3, a4⟩ := (show ∃ g' c', us 7 = .slice (some ⟨g', 0, none⟩) (N + 1) c' ∧ w'.heap[t]? = some (.cells H 58 (0, 0)) ∧ (Value.ownBlock oz = some g' ∨ W7.heap.size ≤ g') ∧ w'.ownsRow 0 72 36 (.slice (some ⟨g', 0, none⟩) (N + 1) c') (N + 1) (NL ++ Array.toList X) ∧ Fs (S1 t oz) W7 w' from hR)
      have v7 := (frame_at2 (us := us) hl (show (bgT[56]?).join = some 7 from rfl)).trans e7
      have hc : w'.cell? ⟨t, 4, none⟩ = some (oz) := (cell_of_row w' t 4 _ _ (0, 0) a1).trans HH.out
      have hf : w'.frozen? ⟨t, 4, none⟩ = false := frozen_of_row w' t 4 _ _ a1
      have hgt : g' ≠ t := fun e => by
        rcases a3.2 with ⟨e9, -⟩ | ⟨g9, cap9, cur9, e9, -, hh9, -⟩
        · cases e9
        · injection e9 with e9 _ _
          injection e9 with e9
          injection e9 with e9
          rw [← e9, e, a1] at hh9
          injection hh9 with hh9
          injection hh9 with _ hh9 _
          exact absurd hh9 (by decide)
      generalize frame bgT a0 us = fr at *
      exact free_skip (w' := w'.setCell ⟨t, 4, none⟩ (.slice (some ⟨g', 0, none⟩) (N + 1) c')) (by go_simp) ⟨undef, rfl, ⟨trivial, (Below.refl 0 w').setCell (p := ⟨t, 4, none⟩) (Nat.zero_le _) _⟩, g', c', heap_setCell_same w' t 4 _ _ _ a1, a2, own_row_same a3 (fun g hg => Below.heap_setCell _ _ _ _ (by show g ≠ t; have e := Option.some.inj hg; exact fun e2 => hgt ((show g' = g from e).trans e2))), a4.trans (fs_but ((But.refl w').setCell 4 _) (.inl rfl))⟩
    · intro us w9 hB2 hG hV hR
      have HR9 := Lib.hid (show ∃ g' c', w9.heap[t]? = some (.cells (H.setIfInBounds 4 (.slice (some ⟨g', 0, none⟩) (N + 1) c')) 58 (0, 0)) ∧ (Value.ownBlock oz = some g' ∨ W7.heap.size ≤ g') ∧ w9.ownsRow 0 72 36 (.slice (some ⟨g', 0, none⟩) (N + 1) c') (N + 1) (NL ++ Array.toList X) ∧ Fs (S1 t oz) W7 w9 from hR)
      subst ha0
      simp only [frame, bgT, fill]
      clear hV hG hl k0 k3 hR hB2
      go_wp2
      go_ret
      obtain ⟨g', c', r1, r2, r3, r4⟩ := HR9.out
      have eH : H.setIfInBounds 4 (.slice (some ⟨g', 0, none⟩) (N + 1) c') = #[.pointer (some ⟨t, 0, none⟩), .int .i64 room, .int .i64 now, .map (some m), .slice (some ⟨g', 0, none⟩) (N + 1) c'] := by rw [EH.out]; rfl
      rw [eH] at r1
      have hsz9 : W7.heap.size ≤ w9.heap.size := r4.size
      have hsw : w.heap.size ≤ W7.heap.size := F7.out.size
      have hg9 : g' < w9.heap.size := by
        rcases r3.2 with ⟨e9, -⟩ | ⟨g9, cap9, cur9, e9, -, hh9, -⟩
        · cases e9
        · injection e9 with e9 _ _
          injection e9 with e9
          injection e9 with e9
          rw [e9]; exact (Array.getElem?_eq_some_iff.1 hh9).1
      have hS1 : ∀ k, S1 t oz k → S k := fun k hk => hk.elim (fun e => e ▸ TZ.out.st) (fun e => TZ.out.so k e)
      have hmn : ¬ S1 t oz m := by
        rintro (e | e)
        · exact TM.out e.symm
        · obtain ⟨cur, hc⟩ := ord_type O7.out m e
          obtain ⟨es, cl, hb, -⟩ := M7.out
          rw [hb] at hc; cases hc
      have hqn : ¬ S1 t oz q := fun e => QS.out (hS1 q e)
      refine ⟨q, .slice (some ⟨g', 0, none⟩) (N + 1) c', rfl, ⟨r1, .inl TZ.out.st, .inl TZ.out.sm, ?_, ?_, ?_, ?_, ?_, ?_, ?_, ?_, ?_⟩, F7.out.trans (r4.mono fun k _ hk => hS1 k hk), QW.out⟩
      · have e : (pz ++ [newP nm q now]).map (fun x : Pp => (x.nm, x.q)) = pz.map (fun x : Pp => (x.nm, x.q)) ++ [(nm, q)] := by rw [List.map_append]; rfl
        rw [e]
        exact M7.out.same (r4.block m M7.out.lt hmn)
      · have e1 : (pz ++ [newP nm q now]).map Pp.nm = pz.map Pp.nm ++ [nm] := by rw [List.map_append]; rfl
        have e2 : (pz.map Pp.nm ++ [nm]).length = N + 1 := by rw [List.length_append, EN.out]; rfl
        have e3 : flatN (pz.map Pp.nm ++ [nm]) = NL ++ X.toList := by rw [flatN_append, ENL.out, EX.out]; unfold flatN; simp [nmV]
        rw [e1, e2, e3]
        exact r3
      · intro k hk
        have e : g' = k := Option.some.inj hk
        subst e
        exact r2.elim (fun h => .inl (TZ.out.so _ h)) (fun h => .inr ⟨Nat.le_trans hsw h, hg9⟩)
      · intro x hx
        rcases List.mem_append.1 hx with hx | hx
        · exact ((P7.out x hx).offT (B := S1 t oz) (fun k hk hn => r4.block k (Nat.lt_of_lt_of_le (TZ.out.lt k hk) ZW.out) hn) (fun k hk T cs fr hh => by
            rcases hk with e | e
            · subst e
              exact off_row RT7.out ⟨by decide, by decide, by decide⟩ T cs fr hh
            · obtain ⟨cur, hc⟩ := ord_type O7.out k e
              exact off_row hc ⟨by decide, by decide, by decide⟩ T cs fr hh)).mono fun k hk => .inl hk
        · obtain rfl := List.mem_singleton.1 hx
          exact ⟨(r4.block q (Array.getElem?_eq_some_iff.1 Q7.out).1 hqn).trans Q7.out, .inr ⟨QW.out, Nat.lt_of_lt_of_le (Array.getElem?_eq_some_iff.1 Q7.out).1 hsz9⟩, fun g hg => (by cases hg), OwnK.nil _ _, fun e he => (by cases he)⟩
      · rw [List.map_append]
        refine List.nodup_append.2 ⟨TZ.out.qnd, by simp, fun a ha b hb => ?_⟩
        obtain ⟨x, hx, rfl⟩ := List.mem_map.1 ha
        obtain rfl : b = q := by simpa [newP] using hb
        intro e
        exact QS.out (e ▸ (TZ.out.parts x hx).sq)
      · refine List.pairwise_append.2 ⟨TZ.out.gnd, List.pairwise_singleton _ _, fun a ha b hb g hg => ?_⟩
        obtain rfl := List.mem_singleton.1 hb
        exact fun e => by cases e
      · rw [List.map_append]
        refine List.nodup_append.2 ⟨TZ.out.nnd, by simp, fun a ha b hb => ?_⟩
        obtain ⟨x, hx, rfl⟩ := List.mem_map.1 ha
        obtain rfl : b = nm := by simpa [newP] using hb
        exact NZ.out x hx
      · intro x hx
        rcases List.mem_append.1 hx with hx | hx
        · exact TZ.out.nok x hx
        · obtain rfl := List.mem_singleton.1 hx
          exact HNO.out
      · rintro k (hk | hk)
        · exact Nat.lt_of_lt_of_le (Nat.lt_of_lt_of_le (TZ.out.lt k hk) ZW.out) hsz9
        · exact hk.2
    
end Go.Proofs.Ytcnnpfjommiafaa.fgC
