/-
  1 texts of a proof, joined.
-/
import Derived.Test.YtmbfgolcinniiaaMg28
import Derived.Test.YtmbfgolcinniiaaMg7

/-
  The walk of IcmpBack.
-/
namespace Go.Proofs.Ytmbfgolcinniiaa.icC
open Go.ChangeShapes Go.WideShapes Go.ChangeAt Go.RowKit
open Go.Proofs.Ytmbfgolcinniiaa.memC Go.Proofs.Ytmbfgolcinniiaa.genC Go.Proofs.Ytmbfgolcinniiaa.butC Go.Proofs.Ytmbfgolcinniiaa.freeC Go.Proofs.Ytmbfgolcinniiaa.adC
open Go.Proofs.Ytmbfgolcinniiaa.pkC (OwnE)
set_option linter.unusedVariables false
theorem loadp_I {P : Program} {Q : Exit → Act → World → Prop} {o : Oper} {G : World → Prop} {V : Nat → Value → World → Prop} {i : Nat} {w : World} {fr : Act} (ty : TypeId) (s : Tmp) (ho : o.op = .load ty (.tmp s)) (g q : Nat) (hx : fr.tmps[s]?.getD undef = .pointer (some ⟨g, q, none⟩)) (cs : Array Value) (d : TypeDesc)
    (hc : ∀ j v, cs[j]? = some v → w.cell? ⟨g, q + j, none⟩ = some v) (hu : P.underlying ty = some d) (hd : (match d with | .struct _ | .array _ _ => true | _ => false) = true) (hi : (P.info? ty).map (·.size) = some cs.size) (hG : G w) (hV : V i (.agg cs) w) :
    o.wp P fr w (fun a' w' => ∃ v, a' = fr.put o.dst v ∧ G w' ∧ Below w.heap.size w w' ∧ V i v w') Q := by
  have hl := Go.Proofs.Ytmbfgolcinniiaa.partC.run_load_part (P := P) w g q ty cs.toList d (fun j v hv => hc j v (by simpa using hv)) hu hd (by simpa using hi)
  have hx2 : fr.eval (.tmp s) = .pointer (some ⟨g, q, none⟩) := by simpa only [Act.eval, Array.getD_eq_getD_getElem?] using hx
  refine val_ok (v := .agg cs) (w' := w) ?_ hG (Below.refl _ _) hV
  unfold execOp
  simp only [ho, hx2, Instr.loadAt, Instr.sureAddr, Sem.run_bind, Sem.run_pure, Result.andThen_ok, hl]
def waV (g2 g3 n4 : Nat) (CP C1 C2 : Array Value) (er : Int) (LL : List Int) (base : Nat) : Nat → Value → World → Prop
  | 0, v, _ => v = .agg CP
  | 1, v, _ => v = .agg CP
  | 2, v, _ => v = .pointer (some ⟨g3, 0, none⟩)
  | 3, v, _ => v = .agg C1
  | 4, v, _ => v = .pointer (some ⟨g3, 17, none⟩)
  | 5, v, _ => v = .agg C2
  | 6, v, w => ∃ A' c', v = .tuple #[.slice A' n4 c', .int .i64 er] ∧ Own .u8 5 w base (.slice A' n4 c') LL
  | 7, v, w => ∃ A' c', v = .tuple #[.slice A' n4 c', .int .i64 er] ∧ Own .u8 5 w base (.slice A' n4 c') LL
  | 8, v, w => ∃ A' c', v = .slice A' n4 c' ∧ Own .u8 5 w base (.slice A' n4 c') LL
  | 9, v, _ => v = .int .i64 er
  | 10, v, w => ∃ A' c', v = .slice A' n4 c' ∧ Own .u8 5 w base (.slice A' n4 c') LL
  | 11, v, _ => v = .int .i64 er
  | _, _, _ => True
theorem waV.keep (g2 g3 n4 : Nat) (CP C1 C2 : Array Value) (er : Int) (LL : List Int) (base : Nat) (i : Nat) (v : Value) (w w' : World) (hb : Below w.heap.size w w') (h : waV g2 g3 n4 CP C1 C2 er LL base i v w) : waV g2 g3 n4 CP C1 C2 er LL base i v w' := by
  by_cases e6 : i = 6
  · subst e6
    obtain ⟨A', c', h1, h2⟩ := h
    exact ⟨A', c', h1, h2.below hb⟩
  by_cases e7 : i = 7
  · subst e7
    obtain ⟨A', c', h1, h2⟩ := h
    exact ⟨A', c', h1, h2.below hb⟩
  by_cases e8 : i = 8
  · subst e8
    obtain ⟨A', c', h1, h2⟩ := h
    exact ⟨A', c', h1, h2.below hb⟩
  by_cases e10 : i = 10
  · subst e10
    obtain ⟨A', c', h1, h2⟩ := h
    exact ⟨A', c', h1, h2.below hb⟩
  unfold waV at h ⊢
  split at h <;> first | exact h | exact absurd rfl (by assumption)
def waT : List (Option Nat) := [none, none, none, none, none, some 10, some 11, none, none, none, none, none, some 7, some 0, some 1, some 2, some 3, some 4, some 5, some 6, some 8, some 9, none, none, none, none, none, none, none, none, none, none, none, none, none, none, none, none, none, none, none, none, none, none, none, none, none, none, none, none, none, none, none, none, none, none, none, none, none, none, none, none, none, none, none, none, none, none, none, none, none, none, none]
def wbV (g2 g3 : Nat) (CP : Array Value) (A4 : Option Addr) (c4 : Nat) (s1 : Bool) (co : Int) : Nat → Value → World → Prop
  | 0, v, _ => v = .slice A4 0 c4
  | 1, v, _ => v = .int .i64 0
  | 2, v, _ => v = .bool true
  | 3, v, _ => v = .bool true
  | 4, v, _ => v = .agg CP
  | 5, v, _ => v = .agg CP
  | 6, v, _ => v = .pointer (some ⟨g3, 0, none⟩)
  | 7, v, _ => v = .pointer (some ⟨g3, 0, none⟩)
  | 8, v, _ => v = .bool s1
  | 9, v, _ => v = .bool false
  | 10, v, _ => v = .bool true
  | 11, v, _ => v = .bool true
  | 12, v, _ => v = undef
  | 13, v, _ => v = undef
  | 14, v, _ => v = undef
  | 15, v, _ => v = .bool true
  | 16, v, _ => v = .bool true
  | 17, v, _ => v = .bool true
  | 18, v, _ => v = .bool true
  | 19, v, _ => v = .bool true
  | 20, v, _ => v = .bool true
  | _, _, _ => True
theorem wbV.keep (g2 g3 : Nat) (CP : Array Value) (A4 : Option Addr) (c4 : Nat) (s1 : Bool) (co : Int) (i : Nat) (v : Value) (w w' : World) (hb : Below w.heap.size w w') (h : wbV g2 g3 CP A4 c4 s1 co i v w) : wbV g2 g3 CP A4 c4 s1 co i v w' := by
  unfold wbV at h ⊢
  split at h <;> exact h
def wbT : List (Option Nat) := [none, none, none, none, some 20, none, none, none, none, none, none, none, none, none, none, none, none, none, none, none, none, none, none, none, some 0, some 1, some 2, some 3, some 4, some 5, some 6, some 7, some 8, some 9, some 10, some 11, some 12, some 13, some 14, some 15, some 16, some 17, some 18, some 19, none, none, none, none, none, none, none, none, none, none, none, none, none, none, none, none, none, none, none, none, none, none, none, none, none, none, none, none, none]
def wdV (g2 g3 : Nat) (CP : Array Value) (A4 : Option Addr) (c4 : Nat) (s1 : Bool) (co : Int) : Nat → Value → World → Prop
  | 0, v, _ => v = .slice A4 0 c4
  | 1, v, _ => v = .int .i64 0
  | 2, v, _ => v = .bool true
  | 3, v, _ => v = .bool true
  | 4, v, _ => v = .agg CP
  | 5, v, _ => v = .agg CP
  | 6, v, _ => v = .pointer (some ⟨g3, 0, none⟩)
  | 7, v, _ => v = .pointer (some ⟨g3, 0, none⟩)
  | 8, v, _ => v = .bool s1
  | 9, v, _ => v = .bool true
  | 10, v, _ => v = .bool false
  | 11, v, _ => v = .bool false
  | 12, v, _ => v = .pointer (some ⟨g2, 1, none⟩)
  | 13, v, _ => v = .int .u8 co
  | 14, v, _ => v = .bool true
  | 15, v, _ => v = .bool true
  | 16, v, _ => v = .bool true
  | 17, v, _ => v = .bool true
  | 18, v, _ => v = .bool true
  | 19, v, _ => v = .bool true
  | 20, v, _ => v = .bool true
  | _, _, _ => True
theorem wdV.keep (g2 g3 : Nat) (CP : Array Value) (A4 : Option Addr) (c4 : Nat) (s1 : Bool) (co : Int) (i : Nat) (v : Value) (w w' : World) (hb : Below w.heap.size w w') (h : wdV g2 g3 CP A4 c4 s1 co i v w) : wdV g2 g3 CP A4 c4 s1 co i v w' := by
  unfold wdV at h ⊢
  split at h <;> exact h
def wdT : List (Option Nat) := [none, none, none, none, some 20, none, none, none, none, none, none, none, none, none, none, none, none, none, none, none, none, none, none, none, some 0, some 1, some 2, some 3, some 4, some 5, some 6, some 7, some 8, some 9, some 10, some 11, some 12, some 13, some 14, some 15, some 16, some 17, some 18, some 19, none, none, none, none, none, none, none, none, none, none, none, none, none, none, none, none, none, none, none, none, none, none, none, none, none, none, none, none, none]
def wcV (g2 g7 : Nat) (CP CX : Array Value) (A4 : Option Addr) (n4 c4 : Nat) (A : Option Addr) (n c : Nat) : Nat → Value → World → Prop
  | 0, v, _ => v = .int .i64 0
  | 1, v, _ => v = .bool true
  | 2, v, _ => v = .bool true
  | 3, v, _ => v = .agg CX
  | 4, v, _ => v = .agg CP
  | 5, v, _ => v = .agg CP
  | 6, v, _ => v = .bool true
  | 7, v, _ => v = .bool true
  | 8, v, _ => v = .bool true
  | 9, v, _ => v = .slice A4 n4 c4
  | 10, v, _ => v = .int .i64 n4
  | 11, v, _ => v = .pointer (some ⟨g2, 5, none⟩)
  | 12, v, _ => v = .slice A n c
  | 13, v, _ => v = .int .i64 n
  | 14, v, _ => v = .int .i64 n4
  | 15, v, _ => v = .bool true
  | 16, v, _ => v = .bool true
  | 17, v, _ => v = .bool true
  | 18, v, _ => v = .bool true
  | 19, v, _ => v = .bool true
  | 20, v, _ => v = .bool true
  | _, _, _ => True
theorem wcV.keep (g2 g7 : Nat) (CP CX : Array Value) (A4 : Option Addr) (n4 c4 : Nat) (A : Option Addr) (n c : Nat) (i : Nat) (v : Value) (w w' : World) (hb : Below w.heap.size w w') (h : wcV g2 g7 CP CX A4 n4 c4 A n c i v w) : wcV g2 g7 CP CX A4 n4 c4 A n c i v w' := by
  unfold wcV at h ⊢
  split at h <;> exact h
def wcT : List (Option Nat) := [none, none, none, none, some 20, none, none, none, none, none, none, none, none, none, none, none, none, none, none, none, none, none, none, none, none, none, none, none, none, none, none, none, none, none, none, none, none, none, none, none, none, none, none, none, none, none, none, none, none, none, none, none, none, some 0, some 1, some 2, some 3, some 4, some 5, some 6, some 7, some 8, some 9, some 10, some 11, some 12, some 13, some 14, some 15, some 16, some 17, some 18, some 19]
set_option maxRecDepth 100000 in
set_option maxHeartbeats 1000000 in
theorem back_walk {K : World → Prop} (F : IcF K) (l1 l2 : List Value) (s1 s2 : Bool) (b1 b2 : List Int) (m : Ms) (A : Option Addr) (n c : Nat) (xs : List Int) (w : World) (hk : K w) (e1 : l1.length = 17) (e2 : l2.length = 17) (h1 : chkC.AddrC l1.toArray s1 b1) (h2 : chkC.AddrC l2.toArray s2 b2)
    (hm : m.Ok) (hx : Nums .u8 w w.heap.size A n xs) (hy : ∀ x ∈ xs, Byte x) (hnc : n ≤ c) : Calls Try.prog 6 #[.agg (msV m A n c), .agg (l1 ++ l2).toArray] w (Ret w (.bool true)) := by
  have hzc := zeroCs
  obtain ⟨ZS, hZS⟩ : ∃ Z, Z = msV zMs none 0 0 := ⟨_, rfl⟩
  simp only [← hZS] at hzc
  have hxl := hx.len
  have I1 := Lib.hid (show (Try.prog.info? 29).map (·.size) = some l1.toArray.size by rw [h1.size]; exact addr_infoI)
  have I2 := Lib.hid (show (Try.prog.info? 29).map (·.size) = some l2.toArray.size by rw [h2.size]; exact addr_infoI)
  have AL := Lib.hid (fun (w' : World) (h : Below w.heap.size w w') => alive_any F w' (F.keep w w' hk h))
  obtain ⟨W0, hW0⟩ : ∃ W, W = w.alloc (.cells (msV m A n c) 26) := ⟨_, rfl⟩
  obtain ⟨W, hW⟩ : ∃ W, W = W0.alloc (.cells (l1 ++ l2).toArray 30) := ⟨_, rfl⟩
  have z0 : W0.heap.size = w.heap.size + 1 := by rw [hW0, alloc_size]
  have B0 : Below w.heap.size w W0 := by rw [hW0]; exact alloc_below _ _
  have B1 : Below W0.heap.size W0 W := by rw [hW]; exact alloc_below _ _
  have HB := Lib.hid (show Below w.heap.size w W from B0.trans (B1.mono (by omega)))
  have RP := Lib.hid (show W.heap[w.heap.size]? = some (.cells (msV m A n c) 26 (0, 0)) by rw [B1.block _ (by omega), hW0]; exact heap_alloc_new _ _)
  have RT := Lib.hid (show W.heap[w.heap.size + 1]? = some (.cells (l1 ++ l2).toArray 30 (0, 0)) by rw [hW, ← z0]; exact heap_alloc_new _ _)
  have QP1 := Lib.hid (fun (w' : World) (h : w'.heap[w.heap.size + 1]? = some (.cells (l1 ++ l2).toArray 30 (0, 0))) => (show ∀ j v, l1.toArray[j]? = some v → w'.cell? ⟨w.heap.size + 1, 0 + j, none⟩ = some v from fun j v hv => (two_row e1 h).1 j v (by simpa using hv)))
  have QP2 := Lib.hid (fun (w' : World) (h : w'.heap[w.heap.size + 1]? = some (.cells (l1 ++ l2).toArray 30 (0, 0))) => (show ∀ j v, l2.toArray[j]? = some v → w'.cell? ⟨w.heap.size + 1, 17 + j, none⟩ = some v from fun j v hv => (two_row e1 h).2 j v (by simpa using hv)))
  have QS := Lib.hid (fun (w' : World) (h : w'.heap[w.heap.size + 1]? = some (.cells (l1 ++ l2).toArray 30 (0, 0))) => (show w'.cell? ⟨w.heap.size + 1, 0, none⟩ = some (.bool s1) from QP1.out w' h 0 _ h1.six))
  have IP := Lib.hid (msC m A n c).info
  have FA := Lib.hid (fun w' => far_any m A n c w')
  have TH := Lib.hid (fun w' => theirs_any m A n c w')
  have KC0 := Lib.hid (fun (w' : World) (h : w'.heap[w.heap.size]? = some (.cells (msV m A n c) 26 (0, 0))) => pkC.PkC.cell h (msC m A n c).co)
  have KD0 := Lib.hid (fun (w' : World) (h : w'.heap[w.heap.size]? = some (.cells (msV m A n c) 26 (0, 0))) => pkC.PkC.cell h (msC m A n c).da)
  obtain ⟨CT, hCT⟩ : ∃ C, C = (l1 ++ l2).toArray := ⟨_, rfl⟩
  have XA := Lib.hid (fun (w' : World) (h : Below w.heap.size w w') => (hx.below h).more h.size)
  by_cases h3 : 3000 < n
  · rw [decide_eq_true h3] at FA
    rw [← hCT] at hW RT ⊢
    generalize msV m A n c = CP at *
    clear QP1 QP2 QS KC0 KD0 TH XA hCT hx hy hnc h3 hZS h1 h2 e1 e2 hk F hm B0 B1 hxl hzc
    go_enter Try.func6, Try.ntmps6
    go_upto_region 1 with fail
    rw [← hW0, ← hW]
    try rw [z0]
    clear hW0 hW z0
    go_wp2_with (first
      | (refine wpList_load_rowG (by kernel_rfl) 26 (.tmp 2) rfl (w.heap.size) (by kernel_rfl) _ _ _ _ RP.out Try.underlying26 rfl IP.out ?_)
      | (go_at_call 8; (refine (FA.out _).mono ?_); rintro e w2 ⟨rfl, BB⟩
         have HB2 := Lib.hid (HB.out.trans (BB.mono HB.out.size))
         clear BB)
      | (go_at_call 9; (refine (AL.out _ HB2.out).mono ?_); rintro e w3 ⟨rfl, BB⟩
         have HB3 := Lib.hid (HB2.out.trans (BB.mono HB2.out.size))
         clear BB))
    go_ret
    exact ⟨rfl, HB3.out⟩
  rw [decide_eq_false h3] at FA
  have LC0 := Lib.hid (fun (w' : World) (h : Below w.heap.size w w') => F.lay l1.toArray l2.toArray s1 s2 b1 b2 m A n c xs w' (F.keep w w' hk h) h1 h2 hm (XA.out w' h) hy hnc (by omega))
  have MC0 := Lib.hid (fun (w' : World) (h : Below w.heap.size w w') => F.may m A n c s1 xs w' (F.keep w w' hk h) hm (XA.out w' h) hy hnc (by omega))
  by_cases hl : layM m n s1 = true
  rotate_left
  · have eL : laysL s1 s2 b1 b2 m xs = [] := by unfold laysL; rw [hxl, if_neg hl]
    have eE : laysE m n s1 = 1 := by unfold laysE; rw [if_neg hl]
    rw [eL, eE] at LC0
    have HN4 := Lib.hid (show ([] : List Int).length = 0 from rfl)
    by_cases hmy : mayM m n s1 = true
    · have hco : m.co = 4 := by
        by_cases q : m.co = 4
        · exact q
        · exact absurd (by unfold layM; rw [hmy, decide_eq_false q]; simp) hl
      rw [hmy] at MC0
      have Q4 := Lib.hid (show (m.co == 4) = true from beq_iff_eq.2 hco)
      rw [← hCT] at hW RT QP1 QP2 QS ⊢
      generalize msV m A n c = CP at *
      generalize m.co = co at *
      generalize l1.toArray = C1 at *
      generalize l2.toArray = C2 at *
      clear KD0 XA hCT hx hy hnc h3 hZS h1 h2 e1 e2 hk F hm B0 B1 hxl hzc eL eE hmy hco hl
      go_enter Try.func6, Try.ntmps6
      go_upto_region 1 with fail
      rw [← hW0, ← hW]
      try rw [z0]
      clear hW0 hW z0
      go_upto_region 3 with (first
        | (refine wpList_load_rowG (by kernel_rfl) 26 (.tmp 2) rfl (w.heap.size) (by kernel_rfl) _ _ _ _ RP.out Try.underlying26 rfl IP.out ?_)
        | (go_at_call 8; (refine (FA.out _).mono ?_); rintro e w2 ⟨rfl, BB⟩
           have HB2 := Lib.hid (HB.out.trans (BB.mono HB.out.size))
           have RP2 := Lib.hid ((BB.block _ (lt_of_rowI RP.out)).trans RP.out)
           have RT2 := Lib.hid ((BB.block _ (lt_of_rowI RT.out)).trans RT.out)
           clear BB))
      have KP := Lib.hid (fun (w' : World) (h : Gr w2 w') => (Below.block h _ (lt_of_rowI RP2.out)).trans RP2.out)
      have Q1 := Lib.hid (fun (w' : World) (h : Gr w2 w') => QP1.out w' ((Below.block h _ (lt_of_rowI RT2.out)).trans RT2.out))
      have Q2 := Lib.hid (fun (w' : World) (h : Gr w2 w') => QP2.out w' ((Below.block h _ (lt_of_rowI RT2.out)).trans RT2.out))
      have LC := Lib.hid (fun (w' : World) (h : Gr w2 w') => LC0.out w' (HB2.out.trans (Below.mono h HB2.out.size)))
      refine with_act fun a0 ha0 => ?_
      have hl : waT.length = a0.tmps.size := by rw [ha0]; rfl
      have k2 : a0.tmps[2]?.getD undef = .pointer (some ⟨(w.heap.size), 0, none⟩) := by rw [ha0]; rfl
      have k3 : a0.tmps[3]?.getD undef = .pointer (some ⟨(w.heap.size + 1), 0, none⟩) := by rw [ha0]; rfl
      refine wp_region_vals (by kernel_rfl) waT (by kernel_rfl) (by kernel_rfl) hl (fun i => undef) (by rw [ha0]; rfl) (Gr w2) (waV (w.heap.size) (w.heap.size + 1) 0 CP C1 C2 1 ([] : List Int) (w2.heap.size)) (show Gr _ _ from (Below.refl _ _).drew) (waV.keep _ _ _ _ _ _ _ _ _) ⟨?_, ?_, ?_, ?_, ?_, ?_, ?_, ?_, ?_, ?_, ?_, ?_, trivial⟩ ?_
      · refine step_plain [] (by kernel_rfl) rfl fun us w' hG hV => ?_
        have o2 := (frame_old2 (us := us) (a := a0) (show (waT[2]?).join = none from rfl)).trans k2
        have hg1 := (KP.out w' hG)
        generalize frame waT a0 us = fr at *
        exact load_ok 26 2 rfl ((w.heap.size)) o2 _ _ (0, 0) _ hg1 Try.underlying26 rfl IP.out hG rfl
      · refine step_plain [0] (by kernel_rfl) rfl fun us w' hG hV => ?_
        have e0 : us 0 = .agg CP := hV 0 (by simp)
        have v0 := (frame_at2 (us := us) hl (show (waT[13]?).join = some 0 from rfl)).trans e0
        generalize frame waT a0 us = fr at *
        exact call_ok (f := 11) (args := #[.agg CP]) (by go_simp) ((TH.out w').mono fun e w'' h => ⟨_, h.1, hG.below h.2, h.2, rfl⟩)
      · refine step_plain [] (by kernel_rfl) rfl fun us w' hG hV => ?_
        have o3 := (frame_old2 (us := us) (a := a0) (show (waT[3]?).join = none from rfl)).trans k3
        generalize frame waT a0 us = fr at *
        exact val_ok (v := .pointer (some ⟨(w.heap.size + 1), 0, none⟩)) (w' := w') (by go_simp) hG (Below.refl _ _) rfl
      · refine step_plain [2] (by kernel_rfl) rfl fun us w' hG hV => ?_
        have e2 : us 2 = .pointer (some ⟨(w.heap.size + 1), 0, none⟩) := hV 2 (by simp)
        have v2 := (frame_at2 (us := us) hl (show (waT[15]?).join = some 2 from rfl)).trans e2
        have hg1 := (Q1.out w' hG)
        generalize frame waT a0 us = fr at *
        exact loadp_I 29 15 rfl ((w.heap.size + 1)) 0 v2 _ _ hg1 Try.underlying29 rfl I1.out hG rfl
      · refine step_plain [] (by kernel_rfl) rfl fun us w' hG hV => ?_
        have o3 := (frame_old2 (us := us) (a := a0) (show (waT[3]?).join = none from rfl)).trans k3
        generalize frame waT a0 us = fr at *
        exact val_ok (v := .pointer (some ⟨(w.heap.size + 1), 17, none⟩)) (w' := w') (by go_simp) hG (Below.refl _ _) rfl
      · refine step_plain [4] (by kernel_rfl) rfl fun us w' hG hV => ?_
        have e4 : us 4 = .pointer (some ⟨(w.heap.size + 1), 17, none⟩) := hV 4 (by simp)
        have v4 := (frame_at2 (us := us) hl (show (waT[17]?).join = some 4 from rfl)).trans e4
        have hg1 := (Q2.out w' hG)
        generalize frame waT a0 us = fr at *
        exact loadp_I 29 17 rfl ((w.heap.size + 1)) 17 v4 _ _ hg1 Try.underlying29 rfl I2.out hG rfl
      · refine step_plain [1, 3, 5] (by kernel_rfl) rfl fun us w' hG hV => ?_
        have e1 : us 1 = .agg CP := hV 1 (by simp)
        have v1 := (frame_at2 (us := us) hl (show (waT[14]?).join = some 1 from rfl)).trans e1
        have e3 : us 3 = .agg C1 := hV 3 (by simp)
        have v3 := (frame_at2 (us := us) hl (show (waT[16]?).join = some 3 from rfl)).trans e3
        have e5 : us 5 = .agg C2 := hV 5 (by simp)
        have v5 := (frame_at2 (us := us) hl (show (waT[18]?).join = some 5 from rfl)).trans e5
        generalize frame waT a0 us = fr at *
        exact call_ok (f := 10) (args := #[.agg CP, .agg C1, .agg C2]) (by go_simp) ((LC.out w' hG).mono fun e w'' ⟨A', n', c', h1, h2, h3⟩ => by obtain rfl : n' = 0 := h2.len.symm.trans HN4.out; exact ⟨_, h1, hG.below h3, h3, A', c', rfl, h2.less hG.size⟩)
      · refine step_plain [6] (by kernel_rfl) rfl fun us w' hG hV => ?_
        obtain ⟨A6, c6, e6, O6⟩ := (show ∃ A' c', us 6 = .tuple #[.slice A' 0 c', .int .i64 1] ∧ Own .u8 5 w' (w2.heap.size) (.slice A' 0 c') ([] : List Int) from hV 6 (by simp))
        have v6 := (frame_at2 (us := us) hl (show (waT[19]?).join = some 6 from rfl)).trans e6
        generalize frame waT a0 us = fr at *
        exact val_ok (v := .tuple #[.slice A6 0 c6, .int .i64 1]) (w' := w') (by go_simp) hG (Below.refl _ _) ⟨A6, c6, rfl, O6⟩
      · refine step_plain [7] (by kernel_rfl) rfl fun us w' hG hV => ?_
        obtain ⟨A7, c7, e7, O7⟩ := (show ∃ A' c', us 7 = .tuple #[.slice A' 0 c', .int .i64 1] ∧ Own .u8 5 w' (w2.heap.size) (.slice A' 0 c') ([] : List Int) from hV 7 (by simp))
        have v7 := (frame_at2 (us := us) hl (show (waT[12]?).join = some 7 from rfl)).trans e7
        generalize frame waT a0 us = fr at *
        exact val_ok (v := .slice A7 0 c7) (w' := w') (by go_simp) hG (Below.refl _ _) ⟨A7, c7, rfl, O7⟩
      · refine step_plain [7] (by kernel_rfl) rfl fun us w' hG hV => ?_
        obtain ⟨A7, c7, e7, O7⟩ := (show ∃ A' c', us 7 = .tuple #[.slice A' 0 c', .int .i64 1] ∧ Own .u8 5 w' (w2.heap.size) (.slice A' 0 c') ([] : List Int) from hV 7 (by simp))
        have v7 := (frame_at2 (us := us) hl (show (waT[12]?).join = some 7 from rfl)).trans e7
        generalize frame waT a0 us = fr at *
        exact val_ok (v := .int .i64 1) (w' := w') (by go_simp) hG (Below.refl _ _) rfl
      · refine step_plain [8] (by kernel_rfl) rfl fun us w' hG hV => ?_
        obtain ⟨A8, c8, e8, O8⟩ := (show ∃ A' c', us 8 = .slice A' 0 c' ∧ Own .u8 5 w' (w2.heap.size) (.slice A' 0 c') ([] : List Int) from hV 8 (by simp))
        have v8 := (frame_at2 (us := us) hl (show (waT[20]?).join = some 8 from rfl)).trans e8
        generalize frame waT a0 us = fr at *
        exact val_ok (v := .slice A8 0 c8) (w' := w') (by go_simp) hG (Below.refl _ _) ⟨A8, c8, rfl, O8⟩
      · refine step_plain [9] (by kernel_rfl) rfl fun us w' hG hV => ?_
        have e9 : us 9 = .int .i64 1 := hV 9 (by simp)
        have v9 := (frame_at2 (us := us) hl (show (waT[21]?).join = some 9 from rfl)).trans e9
        generalize frame waT a0 us = fr at *
        exact val_ok (v := .int .i64 1) (w' := w') (by go_simp) hG (Below.refl _ _) rfl
      · intro us w4 hG hV
        obtain ⟨A4, c4, e10, O10⟩ := (show ∃ A' c', us 10 = .slice A' 0 c' ∧ Own .u8 5 w4 (w2.heap.size) (.slice A' 0 c') ([] : List Int) from hV 10 (by decide))
        have e11 : us 11 = .int .i64 1 := hV 11 (by decide)
        subst ha0
        simp only [frame, waT, fill]
        rw [e10, e11]
        have HG4 := Lib.hid hG
        have HO4 := Lib.hid O10
        clear hV hl hG k2 k3 e10 e11 O10
        have HBr := Lib.hid (HB2.out.trans (Below.mono HG4.out HB2.out.size))
        have RP4 := Lib.hid ((Below.block HG4.out _ (lt_of_rowI RP2.out)).trans RP2.out)
        have RT4 := Lib.hid ((Below.block HG4.out _ (lt_of_rowI RT2.out)).trans RT2.out)
        clear KP Q1 Q2 LC LC0 HG4 RP2 RT2
        go_upto_region 5 with fail
        have KP := Lib.hid (fun (w' : World) (h : Gr w4 w') => (Below.block h _ (lt_of_rowI RP4.out)).trans RP4.out)
        have KC := Lib.hid (fun (w' : World) (h : Gr w4 w') => KC0.out w' ((Below.block h _ (lt_of_rowI RP4.out)).trans RP4.out))
        have K6 := Lib.hid (fun (w' : World) (h : Gr w4 w') => QS.out w' ((Below.block h _ (lt_of_rowI RT4.out)).trans RT4.out))
        have MC := Lib.hid (fun (w' : World) (h : Gr w4 w') => MC0.out w' (HBr.out.trans (Below.mono h HBr.out.size)))
        have ALX := Lib.hid (fun (w' : World) (h : Gr w4 w') => AL.out w' (HBr.out.trans (Below.mono h HBr.out.size)))
        clear MC0 RP4 RT4 AL QS KC0 QP1 QP2 HO4
        refine with_act fun a0 ha0 => ?_
        have hl : wdT.length = a0.tmps.size := by rw [ha0]; rfl
        have k5 : a0.tmps[5]?.getD undef = .slice A4 0 c4 := by rw [ha0]; rfl
        have k2 : a0.tmps[2]?.getD undef = .pointer (some ⟨(w.heap.size), 0, none⟩) := by rw [ha0]; rfl
        have k3 : a0.tmps[3]?.getD undef = .pointer (some ⟨(w.heap.size + 1), 0, none⟩) := by rw [ha0]; rfl
        refine wp_region_vals (by kernel_rfl) wdT (by kernel_rfl) (by kernel_rfl) hl (fun i => if i = 20 then .bool false else undef) (by rw [ha0]; rfl) (Gr w4) (wdV (w.heap.size) (w.heap.size + 1) CP A4 c4 s1 co) (show Gr _ _ from (Below.refl _ _).drew) (wdV.keep _ _ _ _ _ _ _) ⟨?_, ?_, ?_, ?_, ?_, ?_, ?_, ?_, ?_, ?_, ?_, ?_, ?_, ?_, ?_, ?_, ?_, ?_, ?_, ?_, ?_, trivial⟩ ?_
        · refine step_plain [] (by kernel_rfl) rfl fun us w' hG hV => ?_
          have o5 := (frame_old2 (us := us) (a := a0) (show (wdT[5]?).join = none from rfl)).trans k5
          generalize frame wdT a0 us = fr at *
          exact val_ok (v := .slice A4 0 c4) (w' := w') (by go_simp) hG (Below.refl _ _) rfl
        · refine step_plain [0] (by kernel_rfl) rfl fun us w' hG hV => ?_
          have e0 : us 0 = .slice A4 0 c4 := hV 0 (by simp)
          have v0 := (frame_at2 (us := us) hl (show (wdT[24]?).join = some 0 from rfl)).trans e0
          generalize frame wdT a0 us = fr at *
          exact val_ok (v := .int .i64 0) (w' := w') (by go_simp) hG (Below.refl _ _) rfl
        · refine step_plain [1] (by kernel_rfl) rfl fun us w' hG hV => ?_
          have e1 : us 1 = .int .i64 0 := hV 1 (by simp)
          have v1 := (frame_at2 (us := us) hl (show (wdT[25]?).join = some 1 from rfl)).trans e1
          generalize frame wdT a0 us = fr at *
          exact val_ok (v := .bool true) (w' := w') (by go_simp) hG (Below.refl _ _) rfl
        · refine step_plain [2] (by kernel_rfl) rfl fun us w' hG hV => ?_
          have e2 : us 2 = .bool true := hV 2 (by simp)
          have v2 := (frame_at2 (us := us) hl (show (wdT[26]?).join = some 2 from rfl)).trans e2
          generalize frame wdT a0 us = fr at *
          exact val_ok (v := .bool true) (w' := w') (by go_simp) hG (Below.refl _ _) rfl
        · refine step_guard [3] (by kernel_rfl) (j := 3) (t := 27) (b := true) rfl (by simp) rfl hl rfl (fun v w h => h) fun us w' hG hV => ?_
          have o2 := (frame_old2 (us := us) (a := a0) (show (wdT[2]?).join = none from rfl)).trans k2
          have hg1 := (KP.out w' hG)
          generalize frame wdT a0 us = fr at *
          exact load_ok 26 2 rfl ((w.heap.size)) o2 _ _ (0, 0) _ hg1 Try.underlying26 rfl IP.out hG rfl
        · refine step_guard [3, 4] (by kernel_rfl) (j := 3) (t := 27) (b := true) rfl (by simp) rfl hl rfl (fun v w h => h) fun us w' hG hV => ?_
          have e4 : us 4 = .agg CP := hV 4 (by simp)
          have v4 := (frame_at2 (us := us) hl (show (wdT[28]?).join = some 4 from rfl)).trans e4
          generalize frame wdT a0 us = fr at *
          exact call_ok (f := 11) (args := #[.agg CP]) (by go_simp) ((TH.out w').mono fun e w'' h => ⟨_, h.1, hG.below h.2, h.2, rfl⟩)
        · refine step_guard [3] (by kernel_rfl) (j := 3) (t := 27) (b := true) rfl (by simp) rfl hl rfl (fun v w h => h) fun us w' hG hV => ?_
          have o3 := (frame_old2 (us := us) (a := a0) (show (wdT[3]?).join = none from rfl)).trans k3
          generalize frame wdT a0 us = fr at *
          exact val_ok (v := .pointer (some ⟨(w.heap.size + 1), 0, none⟩)) (w' := w') (by go_simp) hG (Below.refl _ _) rfl
        · refine step_guard [3, 6] (by kernel_rfl) (j := 3) (t := 27) (b := true) rfl (by simp) rfl hl rfl (fun v w h => h) fun us w' hG hV => ?_
          have e6 : us 6 = .pointer (some ⟨(w.heap.size + 1), 0, none⟩) := hV 6 (by simp)
          have v6 := (frame_at2 (us := us) hl (show (wdT[30]?).join = some 6 from rfl)).trans e6
          generalize frame wdT a0 us = fr at *
          exact val_ok (v := .pointer (some ⟨(w.heap.size + 1), 0, none⟩)) (w' := w') (by go_simp) hG (Below.refl _ _) rfl
        · refine step_guard [3, 7] (by kernel_rfl) (j := 3) (t := 27) (b := true) rfl (by simp) rfl hl rfl (fun v w h => h) fun us w' hG hV => ?_
          have e7 : us 7 = .pointer (some ⟨(w.heap.size + 1), 0, none⟩) := hV 7 (by simp)
          have v7 := (frame_at2 (us := us) hl (show (wdT[31]?).join = some 7 from rfl)).trans e7
          have hc := K6.out w' hG
          generalize frame wdT a0 us = fr at *
          exact val_ok (v := .bool s1) (w' := w') (by go_simp) hG (Below.refl _ _) rfl
        · refine step_guard [3, 5, 8] (by kernel_rfl) (j := 3) (t := 27) (b := true) rfl (by simp) rfl hl rfl (fun v w h => h) fun us w' hG hV => ?_
          have e5 : us 5 = .agg CP := hV 5 (by simp)
          have v5 := (frame_at2 (us := us) hl (show (wdT[29]?).join = some 5 from rfl)).trans e5
          have e8 : us 8 = .bool s1 := hV 8 (by simp)
          have v8 := (frame_at2 (us := us) hl (show (wdT[32]?).join = some 8 from rfl)).trans e8
          generalize frame wdT a0 us = fr at *
          exact call_ok (f := 13) (args := #[.agg CP, .bool s1]) (by go_simp) ((MC.out w' hG).mono fun e w'' h => ⟨_, h.1, hG.below h.2, h.2, rfl⟩)
        · refine step_guard [3, 9] (by kernel_rfl) (j := 3) (t := 27) (b := true) rfl (by simp) rfl hl rfl (fun v w h => h) fun us w' hG hV => ?_
          have e9 : us 9 = .bool true := hV 9 (by simp)
          have v9 := (frame_at2 (us := us) hl (show (wdT[33]?).join = some 9 from rfl)).trans e9
          generalize frame wdT a0 us = fr at *
          exact val_ok (v := .bool false) (w' := w') (by go_simp) hG (Below.refl _ _) rfl
        · refine step_guard [3, 10] (by kernel_rfl) (j := 3) (t := 27) (b := true) rfl (by simp) rfl hl rfl (fun v w h => h) fun us w' hG hV => ?_
          have e10 : us 10 = .bool false := hV 10 (by simp)
          have v10 := (frame_at2 (us := us) hl (show (wdT[34]?).join = some 10 from rfl)).trans e10
          generalize frame wdT a0 us = fr at *
          exact val_ok (v := .bool false) (w' := w') (by go_simp) hG (Below.refl _ _) rfl
        · refine step_guard [11] (by kernel_rfl) (j := 11) (t := 35) (b := false) rfl (by simp) rfl hl rfl (fun v w h => h) fun us w' hG hV => ?_
          have o2 := (frame_old2 (us := us) (a := a0) (show (wdT[2]?).join = none from rfl)).trans k2
          generalize frame wdT a0 us = fr at *
          exact val_ok (v := .pointer (some ⟨(w.heap.size), 1, none⟩)) (w' := w') (by go_simp) hG (Below.refl _ _) rfl
        · refine step_guard [11, 12] (by kernel_rfl) (j := 11) (t := 35) (b := false) rfl (by simp) rfl hl rfl (fun v w h => h) fun us w' hG hV => ?_
          have e12 : us 12 = .pointer (some ⟨(w.heap.size), 1, none⟩) := hV 12 (by simp)
          have v12 := (frame_at2 (us := us) hl (show (wdT[36]?).join = some 12 from rfl)).trans e12
          have hc := KC.out w' hG
          generalize frame wdT a0 us = fr at *
          exact val_ok (v := .int .u8 co) (w' := w') (by go_simp) hG (Below.refl _ _) rfl
        · refine step_guard [11, 13] (by kernel_rfl) (j := 11) (t := 35) (b := false) rfl (by simp) rfl hl rfl (fun v w h => h) fun us w' hG hV => ?_
          have e13 : us 13 = .int .u8 co := hV 13 (by simp)
          have v13 := (frame_at2 (us := us) hl (show (wdT[37]?).join = some 13 from rfl)).trans e13
          have q := Q4.out
          generalize frame wdT a0 us = fr at *
          exact val_ok (v := .bool true) (w' := w') (by go_simp) hG (Below.refl _ _) rfl
        · refine step_guard [3, 11, 14] (by kernel_rfl) (j := 3) (t := 27) (b := true) rfl (by simp) rfl hl rfl (fun v w h => h) fun us w' hG hV => ?_
          have e11 : us 11 = .bool false := hV 11 (by simp)
          have v11 := (frame_at2 (us := us) hl (show (wdT[35]?).join = some 11 from rfl)).trans e11
          have e14 : us 14 = .bool true := hV 14 (by simp)
          have v14 := (frame_at2 (us := us) hl (show (wdT[38]?).join = some 14 from rfl)).trans e14
          generalize frame wdT a0 us = fr at *
          exact val_ok (v := .bool true) (w' := w') (by go_simp) hG (Below.refl _ _) rfl
        · refine step_plain [3, 15] (by kernel_rfl) rfl fun us w' hG hV => ?_
          have e3 : us 3 = .bool true := hV 3 (by simp)
          have v3 := (frame_at2 (us := us) hl (show (wdT[27]?).join = some 3 from rfl)).trans e3
          have e15 : us 15 = .bool true := hV 15 (by simp)
          have v15 := (frame_at2 (us := us) hl (show (wdT[39]?).join = some 15 from rfl)).trans e15
          generalize frame wdT a0 us = fr at *
          exact val_ok (v := .bool true) (w' := w') (by go_simp) hG (Below.refl _ _) rfl
        · refine step_plain [16] (by kernel_rfl) rfl fun us w' hG hV => ?_
          have e16 : us 16 = .bool true := hV 16 (by simp)
          have v16 := (frame_at2 (us := us) hl (show (wdT[40]?).join = some 16 from rfl)).trans e16
          generalize frame wdT a0 us = fr at *
          exact val_ok (v := .bool true) (w' := w') (by go_simp) hG (Below.refl _ _) rfl
        · refine step_guard [17] (by kernel_rfl) (j := 17) (t := 41) (b := true) rfl (by simp) rfl hl rfl (fun v w h => h) fun us w' hG hV => ?_
          generalize frame wdT a0 us = fr at *
          exact call_ok (f := 9) (args := #[]) (by go_simp) ((ALX.out w' hG).mono fun e w'' h => ⟨_, h.1, hG.below h.2, h.2, rfl⟩)
        · refine step_plain [17, 18] (by kernel_rfl) rfl fun us w' hG hV => ?_
          have e17 : us 17 = .bool true := hV 17 (by simp)
          have v17 := (frame_at2 (us := us) hl (show (wdT[41]?).join = some 17 from rfl)).trans e17
          have e18 : us 18 = .bool true := hV 18 (by simp)
          have v18 := (frame_at2 (us := us) hl (show (wdT[42]?).join = some 18 from rfl)).trans e18
          generalize frame wdT a0 us = fr at *
          exact val_ok (v := .bool true) (w' := w') (by go_simp) hG (Below.refl _ _) rfl
        · refine step_plain [19] (by kernel_rfl) rfl fun us w' hG hV => ?_
          have e19 : us 19 = .bool true := hV 19 (by simp)
          have v19 := (frame_at2 (us := us) hl (show (wdT[43]?).join = some 19 from rfl)).trans e19
          generalize frame wdT a0 us = fr at *
          exact val_ok (v := .bool true) (w' := w') (by go_simp) hG (Below.refl _ _) rfl
        · intro us w9 hG hV
          have e8 : us 20 = .bool true := hV 20 (by decide)
          subst ha0
          simp only [frame, wdT, fill]
          rw [e8]
          have HG3 := Lib.hid hG
          clear hV hl hG k5 k2 k3 e8
          go_wp2_with fail
          go_ret
          exact ⟨rfl, HBr.out.trans (Below.mono HG3.out HBr.out.size)⟩
    · have hmy' : mayM m n s1 = false := by simpa using hmy
      rw [hmy'] at MC0
      rw [← hCT] at hW RT QP1 QP2 QS ⊢
      generalize msV m A n c = CP at *
      generalize m.co = co at *
      generalize l1.toArray = C1 at *
      generalize l2.toArray = C2 at *
      clear KD0 XA hCT hx hy hnc h3 hZS h1 h2 e1 e2 hk F hm B0 B1 hxl hzc eL eE hmy hmy' hl
      go_enter Try.func6, Try.ntmps6
      go_upto_region 1 with fail
      rw [← hW0, ← hW]
      try rw [z0]
      clear hW0 hW z0
      go_upto_region 3 with (first
        | (refine wpList_load_rowG (by kernel_rfl) 26 (.tmp 2) rfl (w.heap.size) (by kernel_rfl) _ _ _ _ RP.out Try.underlying26 rfl IP.out ?_)
        | (go_at_call 8; (refine (FA.out _).mono ?_); rintro e w2 ⟨rfl, BB⟩
           have HB2 := Lib.hid (HB.out.trans (BB.mono HB.out.size))
           have RP2 := Lib.hid ((BB.block _ (lt_of_rowI RP.out)).trans RP.out)
           have RT2 := Lib.hid ((BB.block _ (lt_of_rowI RT.out)).trans RT.out)
           clear BB))
      have KP := Lib.hid (fun (w' : World) (h : Gr w2 w') => (Below.block h _ (lt_of_rowI RP2.out)).trans RP2.out)
      have Q1 := Lib.hid (fun (w' : World) (h : Gr w2 w') => QP1.out w' ((Below.block h _ (lt_of_rowI RT2.out)).trans RT2.out))
      have Q2 := Lib.hid (fun (w' : World) (h : Gr w2 w') => QP2.out w' ((Below.block h _ (lt_of_rowI RT2.out)).trans RT2.out))
      have LC := Lib.hid (fun (w' : World) (h : Gr w2 w') => LC0.out w' (HB2.out.trans (Below.mono h HB2.out.size)))
      refine with_act fun a0 ha0 => ?_
      have hl : waT.length = a0.tmps.size := by rw [ha0]; rfl
      have k2 : a0.tmps[2]?.getD undef = .pointer (some ⟨(w.heap.size), 0, none⟩) := by rw [ha0]; rfl
      have k3 : a0.tmps[3]?.getD undef = .pointer (some ⟨(w.heap.size + 1), 0, none⟩) := by rw [ha0]; rfl
      refine wp_region_vals (by kernel_rfl) waT (by kernel_rfl) (by kernel_rfl) hl (fun i => undef) (by rw [ha0]; rfl) (Gr w2) (waV (w.heap.size) (w.heap.size + 1) 0 CP C1 C2 1 ([] : List Int) (w2.heap.size)) (show Gr _ _ from (Below.refl _ _).drew) (waV.keep _ _ _ _ _ _ _ _ _) ⟨?_, ?_, ?_, ?_, ?_, ?_, ?_, ?_, ?_, ?_, ?_, ?_, trivial⟩ ?_
      · refine step_plain [] (by kernel_rfl) rfl fun us w' hG hV => ?_
        have o2 := (frame_old2 (us := us) (a := a0) (show (waT[2]?).join = none from rfl)).trans k2
        have hg1 := (KP.out w' hG)
        generalize frame waT a0 us = fr at *
        exact load_ok 26 2 rfl ((w.heap.size)) o2 _ _ (0, 0) _ hg1 Try.underlying26 rfl IP.out hG rfl
      · refine step_plain [0] (by kernel_rfl) rfl fun us w' hG hV => ?_
        have e0 : us 0 = .agg CP := hV 0 (by simp)
        have v0 := (frame_at2 (us := us) hl (show (waT[13]?).join = some 0 from rfl)).trans e0
        generalize frame waT a0 us = fr at *
        exact call_ok (f := 11) (args := #[.agg CP]) (by go_simp) ((TH.out w').mono fun e w'' h => ⟨_, h.1, hG.below h.2, h.2, rfl⟩)
      · refine step_plain [] (by kernel_rfl) rfl fun us w' hG hV => ?_
        have o3 := (frame_old2 (us := us) (a := a0) (show (waT[3]?).join = none from rfl)).trans k3
        generalize frame waT a0 us = fr at *
        exact val_ok (v := .pointer (some ⟨(w.heap.size + 1), 0, none⟩)) (w' := w') (by go_simp) hG (Below.refl _ _) rfl
      · refine step_plain [2] (by kernel_rfl) rfl fun us w' hG hV => ?_
        have e2 : us 2 = .pointer (some ⟨(w.heap.size + 1), 0, none⟩) := hV 2 (by simp)
        have v2 := (frame_at2 (us := us) hl (show (waT[15]?).join = some 2 from rfl)).trans e2
        have hg1 := (Q1.out w' hG)
        generalize frame waT a0 us = fr at *
        exact loadp_I 29 15 rfl ((w.heap.size + 1)) 0 v2 _ _ hg1 Try.underlying29 rfl I1.out hG rfl
      · refine step_plain [] (by kernel_rfl) rfl fun us w' hG hV => ?_
        have o3 := (frame_old2 (us := us) (a := a0) (show (waT[3]?).join = none from rfl)).trans k3
        generalize frame waT a0 us = fr at *
        exact val_ok (v := .pointer (some ⟨(w.heap.size + 1), 17, none⟩)) (w' := w') (by go_simp) hG (Below.refl _ _) rfl
      · refine step_plain [4] (by kernel_rfl) rfl fun us w' hG hV => ?_
        have e4 : us 4 = .pointer (some ⟨(w.heap.size + 1), 17, none⟩) := hV 4 (by simp)
        have v4 := (frame_at2 (us := us) hl (show (waT[17]?).join = some 4 from rfl)).trans e4
        have hg1 := (Q2.out w' hG)
        generalize frame waT a0 us = fr at *
        exact loadp_I 29 17 rfl ((w.heap.size + 1)) 17 v4 _ _ hg1 Try.underlying29 rfl I2.out hG rfl
      · refine step_plain [1, 3, 5] (by kernel_rfl) rfl fun us w' hG hV => ?_
        have e1 : us 1 = .agg CP := hV 1 (by simp)
        have v1 := (frame_at2 (us := us) hl (show (waT[14]?).join = some 1 from rfl)).trans e1
        have e3 : us 3 = .agg C1 := hV 3 (by simp)
        have v3 := (frame_at2 (us := us) hl (show (waT[16]?).join = some 3 from rfl)).trans e3
        have e5 : us 5 = .agg C2 := hV 5 (by simp)
        have v5 := (frame_at2 (us := us) hl (show (waT[18]?).join = some 5 from rfl)).trans e5
        generalize frame waT a0 us = fr at *
        exact call_ok (f := 10) (args := #[.agg CP, .agg C1, .agg C2]) (by go_simp) ((LC.out w' hG).mono fun e w'' ⟨A', n', c', h1, h2, h3⟩ => by obtain rfl : n' = 0 := h2.len.symm.trans HN4.out; exact ⟨_, h1, hG.below h3, h3, A', c', rfl, h2.less hG.size⟩)
      · refine step_plain [6] (by kernel_rfl) rfl fun us w' hG hV => ?_
        obtain ⟨A6, c6, e6, O6⟩ := (show ∃ A' c', us 6 = .tuple #[.slice A' 0 c', .int .i64 1] ∧ Own .u8 5 w' (w2.heap.size) (.slice A' 0 c') ([] : List Int) from hV 6 (by simp))
        have v6 := (frame_at2 (us := us) hl (show (waT[19]?).join = some 6 from rfl)).trans e6
        generalize frame waT a0 us = fr at *
        exact val_ok (v := .tuple #[.slice A6 0 c6, .int .i64 1]) (w' := w') (by go_simp) hG (Below.refl _ _) ⟨A6, c6, rfl, O6⟩
      · refine step_plain [7] (by kernel_rfl) rfl fun us w' hG hV => ?_
        obtain ⟨A7, c7, e7, O7⟩ := (show ∃ A' c', us 7 = .tuple #[.slice A' 0 c', .int .i64 1] ∧ Own .u8 5 w' (w2.heap.size) (.slice A' 0 c') ([] : List Int) from hV 7 (by simp))
        have v7 := (frame_at2 (us := us) hl (show (waT[12]?).join = some 7 from rfl)).trans e7
        generalize frame waT a0 us = fr at *
        exact val_ok (v := .slice A7 0 c7) (w' := w') (by go_simp) hG (Below.refl _ _) ⟨A7, c7, rfl, O7⟩
      · refine step_plain [7] (by kernel_rfl) rfl fun us w' hG hV => ?_
        obtain ⟨A7, c7, e7, O7⟩ := (show ∃ A' c', us 7 = .tuple #[.slice A' 0 c', .int .i64 1] ∧ Own .u8 5 w' (w2.heap.size) (.slice A' 0 c') ([] : List Int) from hV 7 (by simp))
        have v7 := (frame_at2 (us := us) hl (show (waT[12]?).join = some 7 from rfl)).trans e7
        generalize frame waT a0 us = fr at *
        exact val_ok (v := .int .i64 1) (w' := w') (by go_simp) hG (Below.refl _ _) rfl
      · refine step_plain [8] (by kernel_rfl) rfl fun us w' hG hV => ?_
        obtain ⟨A8, c8, e8, O8⟩ := (show ∃ A' c', us 8 = .slice A' 0 c' ∧ Own .u8 5 w' (w2.heap.size) (.slice A' 0 c') ([] : List Int) from hV 8 (by simp))
        have v8 := (frame_at2 (us := us) hl (show (waT[20]?).join = some 8 from rfl)).trans e8
        generalize frame waT a0 us = fr at *
        exact val_ok (v := .slice A8 0 c8) (w' := w') (by go_simp) hG (Below.refl _ _) ⟨A8, c8, rfl, O8⟩
      · refine step_plain [9] (by kernel_rfl) rfl fun us w' hG hV => ?_
        have e9 : us 9 = .int .i64 1 := hV 9 (by simp)
        have v9 := (frame_at2 (us := us) hl (show (waT[21]?).join = some 9 from rfl)).trans e9
        generalize frame waT a0 us = fr at *
        exact val_ok (v := .int .i64 1) (w' := w') (by go_simp) hG (Below.refl _ _) rfl
      · intro us w4 hG hV
        obtain ⟨A4, c4, e10, O10⟩ := (show ∃ A' c', us 10 = .slice A' 0 c' ∧ Own .u8 5 w4 (w2.heap.size) (.slice A' 0 c') ([] : List Int) from hV 10 (by decide))
        have e11 : us 11 = .int .i64 1 := hV 11 (by decide)
        subst ha0
        simp only [frame, waT, fill]
        rw [e10, e11]
        have HG4 := Lib.hid hG
        have HO4 := Lib.hid O10
        clear hV hl hG k2 k3 e10 e11 O10
        have HBr := Lib.hid (HB2.out.trans (Below.mono HG4.out HB2.out.size))
        have RP4 := Lib.hid ((Below.block HG4.out _ (lt_of_rowI RP2.out)).trans RP2.out)
        have RT4 := Lib.hid ((Below.block HG4.out _ (lt_of_rowI RT2.out)).trans RT2.out)
        clear KP Q1 Q2 LC LC0 HG4 RP2 RT2
        go_upto_region 5 with fail
        have KP := Lib.hid (fun (w' : World) (h : Gr w4 w') => (Below.block h _ (lt_of_rowI RP4.out)).trans RP4.out)
        have KC := Lib.hid (fun (w' : World) (h : Gr w4 w') => KC0.out w' ((Below.block h _ (lt_of_rowI RP4.out)).trans RP4.out))
        have K6 := Lib.hid (fun (w' : World) (h : Gr w4 w') => QS.out w' ((Below.block h _ (lt_of_rowI RT4.out)).trans RT4.out))
        have MC := Lib.hid (fun (w' : World) (h : Gr w4 w') => MC0.out w' (HBr.out.trans (Below.mono h HBr.out.size)))
        have ALX := Lib.hid (fun (w' : World) (h : Gr w4 w') => AL.out w' (HBr.out.trans (Below.mono h HBr.out.size)))
        clear MC0 RP4 RT4 AL QS KC0 QP1 QP2 HO4
        refine with_act fun a0 ha0 => ?_
        have hl : wbT.length = a0.tmps.size := by rw [ha0]; rfl
        have k5 : a0.tmps[5]?.getD undef = .slice A4 0 c4 := by rw [ha0]; rfl
        have k2 : a0.tmps[2]?.getD undef = .pointer (some ⟨(w.heap.size), 0, none⟩) := by rw [ha0]; rfl
        have k3 : a0.tmps[3]?.getD undef = .pointer (some ⟨(w.heap.size + 1), 0, none⟩) := by rw [ha0]; rfl
        refine wp_region_vals (by kernel_rfl) wbT (by kernel_rfl) (by kernel_rfl) hl (fun i => if i = 20 then .bool false else undef) (by rw [ha0]; rfl) (Gr w4) (wbV (w.heap.size) (w.heap.size + 1) CP A4 c4 s1 co) (show Gr _ _ from (Below.refl _ _).drew) (wbV.keep _ _ _ _ _ _ _) ⟨?_, ?_, ?_, ?_, ?_, ?_, ?_, ?_, ?_, ?_, ?_, ?_, ?_, ?_, ?_, ?_, ?_, ?_, ?_, ?_, ?_, trivial⟩ ?_
        · refine step_plain [] (by kernel_rfl) rfl fun us w' hG hV => ?_
          have o5 := (frame_old2 (us := us) (a := a0) (show (wbT[5]?).join = none from rfl)).trans k5
          generalize frame wbT a0 us = fr at *
          exact val_ok (v := .slice A4 0 c4) (w' := w') (by go_simp) hG (Below.refl _ _) rfl
        · refine step_plain [0] (by kernel_rfl) rfl fun us w' hG hV => ?_
          have e0 : us 0 = .slice A4 0 c4 := hV 0 (by simp)
          have v0 := (frame_at2 (us := us) hl (show (wbT[24]?).join = some 0 from rfl)).trans e0
          generalize frame wbT a0 us = fr at *
          exact val_ok (v := .int .i64 0) (w' := w') (by go_simp) hG (Below.refl _ _) rfl
        · refine step_plain [1] (by kernel_rfl) rfl fun us w' hG hV => ?_
          have e1 : us 1 = .int .i64 0 := hV 1 (by simp)
          have v1 := (frame_at2 (us := us) hl (show (wbT[25]?).join = some 1 from rfl)).trans e1
          generalize frame wbT a0 us = fr at *
          exact val_ok (v := .bool true) (w' := w') (by go_simp) hG (Below.refl _ _) rfl
        · refine step_plain [2] (by kernel_rfl) rfl fun us w' hG hV => ?_
          have e2 : us 2 = .bool true := hV 2 (by simp)
          have v2 := (frame_at2 (us := us) hl (show (wbT[26]?).join = some 2 from rfl)).trans e2
          generalize frame wbT a0 us = fr at *
          exact val_ok (v := .bool true) (w' := w') (by go_simp) hG (Below.refl _ _) rfl
        · refine step_guard [3] (by kernel_rfl) (j := 3) (t := 27) (b := true) rfl (by simp) rfl hl rfl (fun v w h => h) fun us w' hG hV => ?_
          have o2 := (frame_old2 (us := us) (a := a0) (show (wbT[2]?).join = none from rfl)).trans k2
          have hg1 := (KP.out w' hG)
          generalize frame wbT a0 us = fr at *
          exact load_ok 26 2 rfl ((w.heap.size)) o2 _ _ (0, 0) _ hg1 Try.underlying26 rfl IP.out hG rfl
        · refine step_guard [3, 4] (by kernel_rfl) (j := 3) (t := 27) (b := true) rfl (by simp) rfl hl rfl (fun v w h => h) fun us w' hG hV => ?_
          have e4 : us 4 = .agg CP := hV 4 (by simp)
          have v4 := (frame_at2 (us := us) hl (show (wbT[28]?).join = some 4 from rfl)).trans e4
          generalize frame wbT a0 us = fr at *
          exact call_ok (f := 11) (args := #[.agg CP]) (by go_simp) ((TH.out w').mono fun e w'' h => ⟨_, h.1, hG.below h.2, h.2, rfl⟩)
        · refine step_guard [3] (by kernel_rfl) (j := 3) (t := 27) (b := true) rfl (by simp) rfl hl rfl (fun v w h => h) fun us w' hG hV => ?_
          have o3 := (frame_old2 (us := us) (a := a0) (show (wbT[3]?).join = none from rfl)).trans k3
          generalize frame wbT a0 us = fr at *
          exact val_ok (v := .pointer (some ⟨(w.heap.size + 1), 0, none⟩)) (w' := w') (by go_simp) hG (Below.refl _ _) rfl
        · refine step_guard [3, 6] (by kernel_rfl) (j := 3) (t := 27) (b := true) rfl (by simp) rfl hl rfl (fun v w h => h) fun us w' hG hV => ?_
          have e6 : us 6 = .pointer (some ⟨(w.heap.size + 1), 0, none⟩) := hV 6 (by simp)
          have v6 := (frame_at2 (us := us) hl (show (wbT[30]?).join = some 6 from rfl)).trans e6
          generalize frame wbT a0 us = fr at *
          exact val_ok (v := .pointer (some ⟨(w.heap.size + 1), 0, none⟩)) (w' := w') (by go_simp) hG (Below.refl _ _) rfl
        · refine step_guard [3, 7] (by kernel_rfl) (j := 3) (t := 27) (b := true) rfl (by simp) rfl hl rfl (fun v w h => h) fun us w' hG hV => ?_
          have e7 : us 7 = .pointer (some ⟨(w.heap.size + 1), 0, none⟩) := hV 7 (by simp)
          have v7 := (frame_at2 (us := us) hl (show (wbT[31]?).join = some 7 from rfl)).trans e7
          have hc := K6.out w' hG
          generalize frame wbT a0 us = fr at *
          exact val_ok (v := .bool s1) (w' := w') (by go_simp) hG (Below.refl _ _) rfl
        · refine step_guard [3, 5, 8] (by kernel_rfl) (j := 3) (t := 27) (b := true) rfl (by simp) rfl hl rfl (fun v w h => h) fun us w' hG hV => ?_
          have e5 : us 5 = .agg CP := hV 5 (by simp)
          have v5 := (frame_at2 (us := us) hl (show (wbT[29]?).join = some 5 from rfl)).trans e5
          have e8 : us 8 = .bool s1 := hV 8 (by simp)
          have v8 := (frame_at2 (us := us) hl (show (wbT[32]?).join = some 8 from rfl)).trans e8
          generalize frame wbT a0 us = fr at *
          exact call_ok (f := 13) (args := #[.agg CP, .bool s1]) (by go_simp) ((MC.out w' hG).mono fun e w'' h => ⟨_, h.1, hG.below h.2, h.2, rfl⟩)
        · refine step_guard [3, 9] (by kernel_rfl) (j := 3) (t := 27) (b := true) rfl (by simp) rfl hl rfl (fun v w h => h) fun us w' hG hV => ?_
          have e9 : us 9 = .bool false := hV 9 (by simp)
          have v9 := (frame_at2 (us := us) hl (show (wbT[33]?).join = some 9 from rfl)).trans e9
          generalize frame wbT a0 us = fr at *
          exact val_ok (v := .bool true) (w' := w') (by go_simp) hG (Below.refl _ _) rfl
        · refine step_guard [3, 10] (by kernel_rfl) (j := 3) (t := 27) (b := true) rfl (by simp) rfl hl rfl (fun v w h => h) fun us w' hG hV => ?_
          have e10 : us 10 = .bool true := hV 10 (by simp)
          have v10 := (frame_at2 (us := us) hl (show (wbT[34]?).join = some 10 from rfl)).trans e10
          generalize frame wbT a0 us = fr at *
          exact val_ok (v := .bool true) (w' := w') (by go_simp) hG (Below.refl _ _) rfl
        · exact step_skip [11] (by kernel_rfl) (j := 11) (t := 35) (b := false) rfl (by simp) rfl hl rfl (fun v w h => .inl h) fun _ => rfl
        · exact step_skip [11] (by kernel_rfl) (j := 11) (t := 35) (b := false) rfl (by simp) rfl hl rfl (fun v w h => .inl h) fun _ => rfl
        · exact step_skip [11] (by kernel_rfl) (j := 11) (t := 35) (b := false) rfl (by simp) rfl hl rfl (fun v w h => .inl h) fun _ => rfl
        · refine step_guard [3, 11] (by kernel_rfl) (j := 3) (t := 27) (b := true) rfl (by simp) rfl hl rfl (fun v w h => h) fun us w' hG hV => ?_
          have e11 : us 11 = .bool true := hV 11 (by simp)
          have v11 := (frame_at2 (us := us) hl (show (wbT[35]?).join = some 11 from rfl)).trans e11
          generalize frame wbT a0 us = fr at *
          exact val_ok (v := .bool true) (w' := w') (by go_simp) hG (Below.refl _ _) rfl
        · refine step_plain [3, 15] (by kernel_rfl) rfl fun us w' hG hV => ?_
          have e3 : us 3 = .bool true := hV 3 (by simp)
          have v3 := (frame_at2 (us := us) hl (show (wbT[27]?).join = some 3 from rfl)).trans e3
          have e15 : us 15 = .bool true := hV 15 (by simp)
          have v15 := (frame_at2 (us := us) hl (show (wbT[39]?).join = some 15 from rfl)).trans e15
          generalize frame wbT a0 us = fr at *
          exact val_ok (v := .bool true) (w' := w') (by go_simp) hG (Below.refl _ _) rfl
        · refine step_plain [16] (by kernel_rfl) rfl fun us w' hG hV => ?_
          have e16 : us 16 = .bool true := hV 16 (by simp)
          have v16 := (frame_at2 (us := us) hl (show (wbT[40]?).join = some 16 from rfl)).trans e16
          generalize frame wbT a0 us = fr at *
          exact val_ok (v := .bool true) (w' := w') (by go_simp) hG (Below.refl _ _) rfl
        · refine step_guard [17] (by kernel_rfl) (j := 17) (t := 41) (b := true) rfl (by simp) rfl hl rfl (fun v w h => h) fun us w' hG hV => ?_
          generalize frame wbT a0 us = fr at *
          exact call_ok (f := 9) (args := #[]) (by go_simp) ((ALX.out w' hG).mono fun e w'' h => ⟨_, h.1, hG.below h.2, h.2, rfl⟩)
        · refine step_plain [17, 18] (by kernel_rfl) rfl fun us w' hG hV => ?_
          have e17 : us 17 = .bool true := hV 17 (by simp)
          have v17 := (frame_at2 (us := us) hl (show (wbT[41]?).join = some 17 from rfl)).trans e17
          have e18 : us 18 = .bool true := hV 18 (by simp)
          have v18 := (frame_at2 (us := us) hl (show (wbT[42]?).join = some 18 from rfl)).trans e18
          generalize frame wbT a0 us = fr at *
          exact val_ok (v := .bool true) (w' := w') (by go_simp) hG (Below.refl _ _) rfl
        · refine step_plain [19] (by kernel_rfl) rfl fun us w' hG hV => ?_
          have e19 : us 19 = .bool true := hV 19 (by simp)
          have v19 := (frame_at2 (us := us) hl (show (wbT[43]?).join = some 19 from rfl)).trans e19
          generalize frame wbT a0 us = fr at *
          exact val_ok (v := .bool true) (w' := w') (by go_simp) hG (Below.refl _ _) rfl
        · intro us w9 hG hV
          have e8 : us 20 = .bool true := hV 20 (by decide)
          subst ha0
          simp only [frame, wbT, fill]
          rw [e8]
          have HG3 := Lib.hid hG
          clear hV hl hG k5 k2 k3 e8
          go_wp2_with fail
          go_ret
          exact ⟨rfl, HBr.out.trans (Below.mono HG3.out HBr.out.size)⟩
  have hl' : layM m xs.length s1 = true := by rw [hxl]; exact hl
  obtain ⟨q1, q2, q3, q4, q5⟩ := laidI h1 h2 hm hl' hy
  rw [hxl] at q1 q3
  rw [q1] at LC0
  obtain ⟨LL, hLL⟩ : ∃ L, L = laysL s1 s2 b1 b2 m xs := ⟨_, rfl⟩
  rw [← hLL] at q2 q3 q4
  simp only [← hLL] at LC0
  obtain ⟨n4, hn4⟩ : ∃ q, q = 8 + n := ⟨_, rfl⟩
  have HN4 := Lib.hid (show LL.length = n4 by rw [q3, hn4])
  have PC := Lib.hid (fun (w' : World) (h : Below w.heap.size w w') (A' : Option Addr) (c' : Nat) (hb : Nums .u8 w' w'.heap.size A' n4 LL) (hc : n4 ≤ c') (hcm : c' ≤ 9223372036854775807) => (show Calls Try.prog 17 #[.slice A' n4 c', .agg l1.toArray, .agg l2.toArray] w' (PsM w' (0, m, xs)) by
    have h9 := F.parse l1.toArray l2.toArray s1 s2 b1 b2 A' n4 c' LL w' (F.keep w w' hk h) h1 h2 hb q4 hc hcm (by omega)
    rw [q2] at h9
    exact h9))
  have SM0 := Lib.hid (fun (w' : World) (h : Below w.heap.size w w') (A' : Option Addr) (n' c' : Nat) (hb : Nums .u8 w' w'.heap.size A' n' xs) => (show Calls Try.prog 15 #[.agg (msV m A' n' c'), .agg (msV m A n c)] w' (Ret w' (.bool true)) by
    have h9 := F.same m m A' A n' c' n c xs xs w' (F.keep w w' hk h) hb (XA.out w' h) hy hy (by have := hb.len; omega) (by omega)
    rw [sameM_self] at h9
    exact h9))
  have HA := Lib.hid (show (8 : Int) + (n : Int) = (n4 : Int) by omega)
  have HA2 := Lib.hid (show IntKind.i64.wrap (n4 : Int) = (n4 : Int) from IntWalk.i64_in _ (by omega))
  have IXC := Lib.hid (fun (A : Option Addr) (n c : Nat) => (msC m A n c).cinfo)
  have SX := Lib.hid (fun (A : Option Addr) (n c : Nat) => (show ZS.size = (msV m A n c).size by rw [hZS]; rfl))
  have OX := Lib.hid (fun (A : Option Addr) (n c : Nat) => ms_one m A n c)
  have U1 := Lib.hid (show (Try.prog.info? 29).map (·.size) = some l1.length by rw [e1]; exact addr_infoI)
  have U2 := Lib.hid (show (Try.prog.info? 29).map (·.size) = some l2.length by rw [e2]; exact addr_infoI)
  have E1 := Lib.hid e1
  obtain ⟨CP, hCP⟩ : ∃ C, C = msV m A n c := ⟨_, rfl⟩
  simp only [← hCP] at hW0 RP IP FA TH KD0 LC0 SM0 ⊢
  rw [← hCT] at hW ⊢
  clear KC0 XA hCT hx hy hnc h3 hZS h1 h2 e1 e2 hk F hm B0 B1 hxl hl hl' MC0 q1 q2 q3 q4 q5 hLL hn4 hCP QS
  go_enter Try.func6, Try.ntmps6
  go_upto_region 1 with fail
  rw [← hW0, ← hW]
  try rw [z0]
  clear hW0 hW z0
  go_upto_region 3 with (first
    | (refine wpList_load_rowG (by kernel_rfl) 26 (.tmp 2) rfl (w.heap.size) (by kernel_rfl) _ _ _ _ RP.out Try.underlying26 rfl IP.out ?_)
    | (go_at_call 8; (refine (FA.out _).mono ?_); rintro e w2 ⟨rfl, BB⟩
       have HB2 := Lib.hid (HB.out.trans (BB.mono HB.out.size))
       have RP2 := Lib.hid ((BB.block _ (lt_of_rowI RP.out)).trans RP.out)
       have RT2 := Lib.hid ((BB.block _ (lt_of_rowI RT.out)).trans RT.out)
       clear BB))
  have KP := Lib.hid (fun (w' : World) (h : Gr w2 w') => (Below.block h _ (lt_of_rowI RP2.out)).trans RP2.out)
  have Q1 := Lib.hid (fun (w' : World) (h : Gr w2 w') => QP1.out w' ((Below.block h _ (lt_of_rowI RT2.out)).trans RT2.out))
  have Q2 := Lib.hid (fun (w' : World) (h : Gr w2 w') => QP2.out w' ((Below.block h _ (lt_of_rowI RT2.out)).trans RT2.out))
  have LC := Lib.hid (fun (w' : World) (h : Gr w2 w') => LC0.out w' (HB2.out.trans (Below.mono h HB2.out.size)))
  refine with_act fun a0 ha0 => ?_
  have hl : waT.length = a0.tmps.size := by rw [ha0]; rfl
  have k2 : a0.tmps[2]?.getD undef = .pointer (some ⟨(w.heap.size), 0, none⟩) := by rw [ha0]; rfl
  have k3 : a0.tmps[3]?.getD undef = .pointer (some ⟨(w.heap.size + 1), 0, none⟩) := by rw [ha0]; rfl
  refine wp_region_vals (by kernel_rfl) waT (by kernel_rfl) (by kernel_rfl) hl (fun i => undef) (by rw [ha0]; rfl) (Gr w2) (waV (w.heap.size) (w.heap.size + 1) n4 CP l1.toArray l2.toArray 0 LL (w2.heap.size)) (show Gr _ _ from (Below.refl _ _).drew) (waV.keep _ _ _ _ _ _ _ _ _) ⟨?_, ?_, ?_, ?_, ?_, ?_, ?_, ?_, ?_, ?_, ?_, ?_, trivial⟩ ?_
  · refine step_plain [] (by kernel_rfl) rfl fun us w' hG hV => ?_
    have o2 := (frame_old2 (us := us) (a := a0) (show (waT[2]?).join = none from rfl)).trans k2
    have hg1 := (KP.out w' hG)
    generalize frame waT a0 us = fr at *
    exact load_ok 26 2 rfl ((w.heap.size)) o2 _ _ (0, 0) _ hg1 Try.underlying26 rfl IP.out hG rfl
  · refine step_plain [0] (by kernel_rfl) rfl fun us w' hG hV => ?_
    have e0 : us 0 = .agg CP := hV 0 (by simp)
    have v0 := (frame_at2 (us := us) hl (show (waT[13]?).join = some 0 from rfl)).trans e0
    generalize frame waT a0 us = fr at *
    exact call_ok (f := 11) (args := #[.agg CP]) (by go_simp) ((TH.out w').mono fun e w'' h => ⟨_, h.1, hG.below h.2, h.2, rfl⟩)
  · refine step_plain [] (by kernel_rfl) rfl fun us w' hG hV => ?_
    have o3 := (frame_old2 (us := us) (a := a0) (show (waT[3]?).join = none from rfl)).trans k3
    generalize frame waT a0 us = fr at *
    exact val_ok (v := .pointer (some ⟨(w.heap.size + 1), 0, none⟩)) (w' := w') (by go_simp) hG (Below.refl _ _) rfl
  · refine step_plain [2] (by kernel_rfl) rfl fun us w' hG hV => ?_
    have e2 : us 2 = .pointer (some ⟨(w.heap.size + 1), 0, none⟩) := hV 2 (by simp)
    have v2 := (frame_at2 (us := us) hl (show (waT[15]?).join = some 2 from rfl)).trans e2
    have hg1 := (Q1.out w' hG)
    generalize frame waT a0 us = fr at *
    exact loadp_I 29 15 rfl ((w.heap.size + 1)) 0 v2 _ _ hg1 Try.underlying29 rfl I1.out hG rfl
  · refine step_plain [] (by kernel_rfl) rfl fun us w' hG hV => ?_
    have o3 := (frame_old2 (us := us) (a := a0) (show (waT[3]?).join = none from rfl)).trans k3
    generalize frame waT a0 us = fr at *
    exact val_ok (v := .pointer (some ⟨(w.heap.size + 1), 17, none⟩)) (w' := w') (by go_simp) hG (Below.refl _ _) rfl
  · refine step_plain [4] (by kernel_rfl) rfl fun us w' hG hV => ?_
    have e4 : us 4 = .pointer (some ⟨(w.heap.size + 1), 17, none⟩) := hV 4 (by simp)
    have v4 := (frame_at2 (us := us) hl (show (waT[17]?).join = some 4 from rfl)).trans e4
    have hg1 := (Q2.out w' hG)
    generalize frame waT a0 us = fr at *
    exact loadp_I 29 17 rfl ((w.heap.size + 1)) 17 v4 _ _ hg1 Try.underlying29 rfl I2.out hG rfl
  · refine step_plain [1, 3, 5] (by kernel_rfl) rfl fun us w' hG hV => ?_
    have e1 : us 1 = .agg CP := hV 1 (by simp)
    have v1 := (frame_at2 (us := us) hl (show (waT[14]?).join = some 1 from rfl)).trans e1
    have e3 : us 3 = .agg l1.toArray := hV 3 (by simp)
    have v3 := (frame_at2 (us := us) hl (show (waT[16]?).join = some 3 from rfl)).trans e3
    have e5 : us 5 = .agg l2.toArray := hV 5 (by simp)
    have v5 := (frame_at2 (us := us) hl (show (waT[18]?).join = some 5 from rfl)).trans e5
    generalize frame waT a0 us = fr at *
    exact call_ok (f := 10) (args := #[.agg CP, .agg l1.toArray, .agg l2.toArray]) (by go_simp) ((LC.out w' hG).mono fun e w'' ⟨A', n', c', h1, h2, h3⟩ => by obtain rfl : n' = n4 := h2.len.symm.trans HN4.out; exact ⟨_, h1, hG.below h3, h3, A', c', rfl, h2.less hG.size⟩)
  · refine step_plain [6] (by kernel_rfl) rfl fun us w' hG hV => ?_
    obtain ⟨A6, c6, e6, O6⟩ := (show ∃ A' c', us 6 = .tuple #[.slice A' n4 c', .int .i64 0] ∧ Own .u8 5 w' (w2.heap.size) (.slice A' n4 c') LL from hV 6 (by simp))
    have v6 := (frame_at2 (us := us) hl (show (waT[19]?).join = some 6 from rfl)).trans e6
    generalize frame waT a0 us = fr at *
    exact val_ok (v := .tuple #[.slice A6 n4 c6, .int .i64 0]) (w' := w') (by go_simp) hG (Below.refl _ _) ⟨A6, c6, rfl, O6⟩
  · refine step_plain [7] (by kernel_rfl) rfl fun us w' hG hV => ?_
    obtain ⟨A7, c7, e7, O7⟩ := (show ∃ A' c', us 7 = .tuple #[.slice A' n4 c', .int .i64 0] ∧ Own .u8 5 w' (w2.heap.size) (.slice A' n4 c') LL from hV 7 (by simp))
    have v7 := (frame_at2 (us := us) hl (show (waT[12]?).join = some 7 from rfl)).trans e7
    generalize frame waT a0 us = fr at *
    exact val_ok (v := .slice A7 n4 c7) (w' := w') (by go_simp) hG (Below.refl _ _) ⟨A7, c7, rfl, O7⟩
  · refine step_plain [7] (by kernel_rfl) rfl fun us w' hG hV => ?_
    obtain ⟨A7, c7, e7, O7⟩ := (show ∃ A' c', us 7 = .tuple #[.slice A' n4 c', .int .i64 0] ∧ Own .u8 5 w' (w2.heap.size) (.slice A' n4 c') LL from hV 7 (by simp))
    have v7 := (frame_at2 (us := us) hl (show (waT[12]?).join = some 7 from rfl)).trans e7
    generalize frame waT a0 us = fr at *
    exact val_ok (v := .int .i64 0) (w' := w') (by go_simp) hG (Below.refl _ _) rfl
  · refine step_plain [8] (by kernel_rfl) rfl fun us w' hG hV => ?_
    obtain ⟨A8, c8, e8, O8⟩ := (show ∃ A' c', us 8 = .slice A' n4 c' ∧ Own .u8 5 w' (w2.heap.size) (.slice A' n4 c') LL from hV 8 (by simp))
    have v8 := (frame_at2 (us := us) hl (show (waT[20]?).join = some 8 from rfl)).trans e8
    generalize frame waT a0 us = fr at *
    exact val_ok (v := .slice A8 n4 c8) (w' := w') (by go_simp) hG (Below.refl _ _) ⟨A8, c8, rfl, O8⟩
  · refine step_plain [9] (by kernel_rfl) rfl fun us w' hG hV => ?_
    have e9 : us 9 = .int .i64 0 := hV 9 (by simp)
    have v9 := (frame_at2 (us := us) hl (show (waT[21]?).join = some 9 from rfl)).trans e9
    generalize frame waT a0 us = fr at *
    exact val_ok (v := .int .i64 0) (w' := w') (by go_simp) hG (Below.refl _ _) rfl
  · intro us w4 hG hV
    obtain ⟨A4, c4, e10, O10⟩ := (show ∃ A' c', us 10 = .slice A' n4 c' ∧ Own .u8 5 w4 (w2.heap.size) (.slice A' n4 c') LL from hV 10 (by decide))
    have e11 : us 11 = .int .i64 0 := hV 11 (by decide)
    subst ha0
    simp only [frame, waT, fill]
    rw [e10, e11]
    have HG4 := Lib.hid hG
    have HO4 := Lib.hid O10
    clear hV hl hG k2 k3 e10 e11 O10
    have HBr := Lib.hid (HB2.out.trans (Below.mono HG4.out HB2.out.size))
    have RP4 := Lib.hid ((Below.block HG4.out _ (lt_of_rowI RP2.out)).trans RP2.out)
    have RT4 := Lib.hid ((Below.block HG4.out _ (lt_of_rowI RT2.out)).trans RT2.out)
    clear KP Q1 Q2 LC LC0 HG4 RP2 RT2
    have FM := Lib.hid (show n4 ≤ c4 ∧ c4 ≤ 9223372036854775807 by
      obtain ⟨A', c', e, g1, g2, -⟩ := HO4.out.form
      cases e
      unfold maxLen at g2
      have := HN4.out
      exact ⟨by omega, by omega⟩)
    go_upto_region 7 with (first
      | (refine pkC.wpList_load_partG (by kernel_rfl) 29 (.tmp 46) rfl (w.heap.size + 1) 0 (by kernel_rfl) l1 _ (two_row E1.out RT4.out).1 Try.underlying29 rfl U1.out ?_)
      | (refine pkC.wpList_load_partG (by kernel_rfl) 29 (.tmp 48) rfl (w.heap.size + 1) 17 (by kernel_rfl) l2 _ (two_row E1.out RT4.out).2 Try.underlying29 rfl U2.out ?_)
      | (go_at_call 17; (refine (PC.out w4 HBr.out A4 c4 HO4.out.nums FM.out.1 FM.out.2).mono ?_); rintro e w6 ⟨A6, n6, c6, rfl, O6, BB⟩
         have HB6 := Lib.hid (HBr.out.trans (BB.mono HBr.out.size))
         have RP6 := Lib.hid ((BB.block _ (lt_of_rowI RP4.out)).trans RP4.out)
         have HO6 := Lib.hid O6
         clear BB O6)
      | (refine wpList_store_row rfl 36 (.tmp 7) (.tmp 51) rfl w6.heap.size _ rfl rfl _ _ (heap_alloc_new _ _) (IXC.out A6 n6 c6) (SX.out A6 n6 c6) (OX.out A6 n6 c6) ?_; rw [World.setRow_alloc_new]))
    have R7 := Lib.hid (heap_alloc_new w6 (.cells (msV m A6 n6 c6) 36))
    have B5 := alloc_below w6 (.cells (msV m A6 n6 c6) 36)
    have HBq := Lib.hid (HB6.out.trans (B5.mono HB6.out.size))
    have RPr := Lib.hid ((B5.block _ (lt_of_rowI RP6.out)).trans RP6.out)
    have HOa := Lib.hid (HO6.out.below B5)
    clear B5 HO6 RP6 HB6 HBr RP4 RT4 HO4 PC SX OX hzc FM
    have HBr := HBq
    clear HBq
    obtain ⟨Wr, hWr⟩ : ∃ q, q = w6.alloc (.cells (msV m A6 n6 c6) 36) := ⟨_, rfl⟩
    simp only [← hWr] at R7 HBr RPr HOa ⊢
    clear hWr
    generalize w6.heap.size = g7 at *
    have IX := Lib.hid (IXC.out A6 n6 c6)
    have SM := Lib.hid (fun (w' : World) (h : Gr Wr w') => SM0.out w' (HBr.out.trans (Below.mono h HBr.out.size)) A6 n6 c6 (HOa.out.below h).nums)
    have K7 := Lib.hid (fun (w' : World) (h : Gr Wr w') => (Below.block h _ (lt_of_rowI R7.out)).trans R7.out)
    have KP := Lib.hid (fun (w' : World) (h : Gr Wr w') => (Below.block h _ (lt_of_rowI RPr.out)).trans RPr.out)
    have KD := Lib.hid (fun (w' : World) (h : Gr Wr w') => KD0.out w' ((Below.block h _ (lt_of_rowI RPr.out)).trans RPr.out))
    have ALX := Lib.hid (fun (w' : World) (h : Gr Wr w') => AL.out w' (HBr.out.trans (Below.mono h HBr.out.size)))
    generalize msV m A6 n6 c6 = CX at *
    clear R7 RPr HOa IXC SM0 AL KD0 QP1 QP2
    refine with_act fun a0 ha0 => ?_
    have hl : wcT.length = a0.tmps.size := by rw [ha0]; rfl
    have k8 : a0.tmps[8]?.getD undef = .int .i64 0 := by rw [ha0]; rfl
    have k7 : a0.tmps[7]?.getD undef = .pointer (some ⟨g7, 0, none⟩) := by rw [ha0]; rfl
    have k2 : a0.tmps[2]?.getD undef = .pointer (some ⟨(w.heap.size), 0, none⟩) := by rw [ha0]; rfl
    have k5 : a0.tmps[5]?.getD undef = .slice A4 n4 c4 := by rw [ha0]; rfl
    refine wp_region_vals (by kernel_rfl) wcT (by kernel_rfl) (by kernel_rfl) hl (fun i => if i = 20 then .bool false else undef) (by rw [ha0]; rfl) (Gr Wr) (wcV (w.heap.size) g7 CP CX A4 n4 c4 A n c) (show Gr _ _ from (Below.refl _ _).drew) (wcV.keep _ _ _ _ _ _ _ _ _ _) ⟨?_, ?_, ?_, ?_, ?_, ?_, ?_, ?_, ?_, ?_, ?_, ?_, ?_, ?_, ?_, ?_, ?_, ?_, ?_, ?_, ?_, trivial⟩ ?_
    · refine step_plain [] (by kernel_rfl) rfl fun us w' hG hV => ?_
      have o8 := (frame_old2 (us := us) (a := a0) (show (wcT[8]?).join = none from rfl)).trans k8
      generalize frame wcT a0 us = fr at *
      exact val_ok (v := .int .i64 0) (w' := w') (by go_simp) hG (Below.refl _ _) rfl
    · refine step_plain [0] (by kernel_rfl) rfl fun us w' hG hV => ?_
      have e0 : us 0 = .int .i64 0 := hV 0 (by simp)
      have v0 := (frame_at2 (us := us) hl (show (wcT[53]?).join = some 0 from rfl)).trans e0
      generalize frame wcT a0 us = fr at *
      exact val_ok (v := .bool true) (w' := w') (by go_simp) hG (Below.refl _ _) rfl
    · refine step_plain [1] (by kernel_rfl) rfl fun us w' hG hV => ?_
      have e1 : us 1 = .bool true := hV 1 (by simp)
      have v1 := (frame_at2 (us := us) hl (show (wcT[54]?).join = some 1 from rfl)).trans e1
      generalize frame wcT a0 us = fr at *
      exact val_ok (v := .bool true) (w' := w') (by go_simp) hG (Below.refl _ _) rfl
    · refine step_guard [2] (by kernel_rfl) (j := 2) (t := 55) (b := true) rfl (by simp) rfl hl rfl (fun v w h => h) fun us w' hG hV => ?_
      have o7 := (frame_old2 (us := us) (a := a0) (show (wcT[7]?).join = none from rfl)).trans k7
      have hg1 := (K7.out w' hG)
      generalize frame wcT a0 us = fr at *
      exact load_ok 36 7 rfl (g7) o7 _ _ (0, 0) _ hg1 Try.underlying36 rfl IX.out hG rfl
    · refine step_guard [2] (by kernel_rfl) (j := 2) (t := 55) (b := true) rfl (by simp) rfl hl rfl (fun v w h => h) fun us w' hG hV => ?_
      have o2 := (frame_old2 (us := us) (a := a0) (show (wcT[2]?).join = none from rfl)).trans k2
      have hg1 := (KP.out w' hG)
      generalize frame wcT a0 us = fr at *
      exact load_ok 26 2 rfl ((w.heap.size)) o2 _ _ (0, 0) _ hg1 Try.underlying26 rfl IP.out hG rfl
    · refine step_guard [2, 4] (by kernel_rfl) (j := 2) (t := 55) (b := true) rfl (by simp) rfl hl rfl (fun v w h => h) fun us w' hG hV => ?_
      have e4 : us 4 = .agg CP := hV 4 (by simp)
      have v4 := (frame_at2 (us := us) hl (show (wcT[57]?).join = some 4 from rfl)).trans e4
      generalize frame wcT a0 us = fr at *
      exact call_ok (f := 11) (args := #[.agg CP]) (by go_simp) ((TH.out w').mono fun e w'' h => ⟨_, h.1, hG.below h.2, h.2, rfl⟩)
    · refine step_guard [2, 3, 5] (by kernel_rfl) (j := 2) (t := 55) (b := true) rfl (by simp) rfl hl rfl (fun v w h => h) fun us w' hG hV => ?_
      have e3 : us 3 = .agg CX := hV 3 (by simp)
      have v3 := (frame_at2 (us := us) hl (show (wcT[56]?).join = some 3 from rfl)).trans e3
      have e5 : us 5 = .agg CP := hV 5 (by simp)
      have v5 := (frame_at2 (us := us) hl (show (wcT[58]?).join = some 5 from rfl)).trans e5
      generalize frame wcT a0 us = fr at *
      exact call_ok (f := 15) (args := #[.agg CX, .agg CP]) (by go_simp) ((SM.out w' hG).mono fun e w'' h => ⟨_, h.1, hG.below h.2, h.2, rfl⟩)
    · refine step_plain [2, 6] (by kernel_rfl) rfl fun us w' hG hV => ?_
      have e2 : us 2 = .bool true := hV 2 (by simp)
      have v2 := (frame_at2 (us := us) hl (show (wcT[55]?).join = some 2 from rfl)).trans e2
      have e6 : us 6 = .bool true := hV 6 (by simp)
      have v6 := (frame_at2 (us := us) hl (show (wcT[59]?).join = some 6 from rfl)).trans e6
      generalize frame wcT a0 us = fr at *
      exact val_ok (v := .bool true) (w' := w') (by go_simp) hG (Below.refl _ _) rfl
    · refine step_plain [7] (by kernel_rfl) rfl fun us w' hG hV => ?_
      have e7 : us 7 = .bool true := hV 7 (by simp)
      have v7 := (frame_at2 (us := us) hl (show (wcT[60]?).join = some 7 from rfl)).trans e7
      generalize frame wcT a0 us = fr at *
      exact val_ok (v := .bool true) (w' := w') (by go_simp) hG (Below.refl _ _) rfl
    · refine step_guard [8] (by kernel_rfl) (j := 8) (t := 61) (b := true) rfl (by simp) rfl hl rfl (fun v w h => h) fun us w' hG hV => ?_
      have o5 := (frame_old2 (us := us) (a := a0) (show (wcT[5]?).join = none from rfl)).trans k5
      generalize frame wcT a0 us = fr at *
      exact val_ok (v := .slice A4 n4 c4) (w' := w') (by go_simp) hG (Below.refl _ _) rfl
    · refine step_guard [8, 9] (by kernel_rfl) (j := 8) (t := 61) (b := true) rfl (by simp) rfl hl rfl (fun v w h => h) fun us w' hG hV => ?_
      have e9 : us 9 = .slice A4 n4 c4 := hV 9 (by simp)
      have v9 := (frame_at2 (us := us) hl (show (wcT[62]?).join = some 9 from rfl)).trans e9
      generalize frame wcT a0 us = fr at *
      exact val_ok (v := .int .i64 n4) (w' := w') (by go_simp) hG (Below.refl _ _) rfl
    · refine step_guard [8] (by kernel_rfl) (j := 8) (t := 61) (b := true) rfl (by simp) rfl hl rfl (fun v w h => h) fun us w' hG hV => ?_
      have o2 := (frame_old2 (us := us) (a := a0) (show (wcT[2]?).join = none from rfl)).trans k2
      generalize frame wcT a0 us = fr at *
      exact val_ok (v := .pointer (some ⟨(w.heap.size), 5, none⟩)) (w' := w') (by go_simp) hG (Below.refl _ _) rfl
    · refine step_guard [8, 11] (by kernel_rfl) (j := 8) (t := 61) (b := true) rfl (by simp) rfl hl rfl (fun v w h => h) fun us w' hG hV => ?_
      have e11 : us 11 = .pointer (some ⟨(w.heap.size), 5, none⟩) := hV 11 (by simp)
      have v11 := (frame_at2 (us := us) hl (show (wcT[64]?).join = some 11 from rfl)).trans e11
      have hc := KD.out w' hG
      generalize frame wcT a0 us = fr at *
      exact val_ok (v := .slice A n c) (w' := w') (by go_simp) hG (Below.refl _ _) rfl
    · refine step_guard [8, 12] (by kernel_rfl) (j := 8) (t := 61) (b := true) rfl (by simp) rfl hl rfl (fun v w h => h) fun us w' hG hV => ?_
      have e12 : us 12 = .slice A n c := hV 12 (by simp)
      have v12 := (frame_at2 (us := us) hl (show (wcT[65]?).join = some 12 from rfl)).trans e12
      generalize frame wcT a0 us = fr at *
      exact val_ok (v := .int .i64 n) (w' := w') (by go_simp) hG (Below.refl _ _) rfl
    · refine step_guard [8, 13] (by kernel_rfl) (j := 8) (t := 61) (b := true) rfl (by simp) rfl hl rfl (fun v w h => h) fun us w' hG hV => ?_
      have e13 : us 13 = .int .i64 n := hV 13 (by simp)
      have v13 := (frame_at2 (us := us) hl (show (wcT[66]?).join = some 13 from rfl)).trans e13
      have q := HA.out
      have q2 := HA2.out
      generalize frame wcT a0 us = fr at *
      exact val_ok (v := .int .i64 n4) (w' := w') (by go_simp) hG (Below.refl _ _) rfl
    · refine step_guard [8, 10, 14] (by kernel_rfl) (j := 8) (t := 61) (b := true) rfl (by simp) rfl hl rfl (fun v w h => h) fun us w' hG hV => ?_
      have e10 : us 10 = .int .i64 n4 := hV 10 (by simp)
      have v10 := (frame_at2 (us := us) hl (show (wcT[63]?).join = some 10 from rfl)).trans e10
      have e14 : us 14 = .int .i64 n4 := hV 14 (by simp)
      have v14 := (frame_at2 (us := us) hl (show (wcT[67]?).join = some 14 from rfl)).trans e14
      generalize frame wcT a0 us = fr at *
      exact val_ok (v := .bool true) (w' := w') (by go_simp) hG (Below.refl _ _) rfl
    · refine step_plain [8, 15] (by kernel_rfl) rfl fun us w' hG hV => ?_
      have e8 : us 8 = .bool true := hV 8 (by simp)
      have v8 := (frame_at2 (us := us) hl (show (wcT[61]?).join = some 8 from rfl)).trans e8
      have e15 : us 15 = .bool true := hV 15 (by simp)
      have v15 := (frame_at2 (us := us) hl (show (wcT[68]?).join = some 15 from rfl)).trans e15
      generalize frame wcT a0 us = fr at *
      exact val_ok (v := .bool true) (w' := w') (by go_simp) hG (Below.refl _ _) rfl
    · refine step_plain [16] (by kernel_rfl) rfl fun us w' hG hV => ?_
      have e16 : us 16 = .bool true := hV 16 (by simp)
      have v16 := (frame_at2 (us := us) hl (show (wcT[69]?).join = some 16 from rfl)).trans e16
      generalize frame wcT a0 us = fr at *
      exact val_ok (v := .bool true) (w' := w') (by go_simp) hG (Below.refl _ _) rfl
    · refine step_guard [17] (by kernel_rfl) (j := 17) (t := 70) (b := true) rfl (by simp) rfl hl rfl (fun v w h => h) fun us w' hG hV => ?_
      generalize frame wcT a0 us = fr at *
      exact call_ok (f := 9) (args := #[]) (by go_simp) ((ALX.out w' hG).mono fun e w'' h => ⟨_, h.1, hG.below h.2, h.2, rfl⟩)
    · refine step_plain [17, 18] (by kernel_rfl) rfl fun us w' hG hV => ?_
      have e17 : us 17 = .bool true := hV 17 (by simp)
      have v17 := (frame_at2 (us := us) hl (show (wcT[70]?).join = some 17 from rfl)).trans e17
      have e18 : us 18 = .bool true := hV 18 (by simp)
      have v18 := (frame_at2 (us := us) hl (show (wcT[71]?).join = some 18 from rfl)).trans e18
      generalize frame wcT a0 us = fr at *
      exact val_ok (v := .bool true) (w' := w') (by go_simp) hG (Below.refl _ _) rfl
    · refine step_plain [19] (by kernel_rfl) rfl fun us w' hG hV => ?_
      have e19 : us 19 = .bool true := hV 19 (by simp)
      have v19 := (frame_at2 (us := us) hl (show (wcT[72]?).join = some 19 from rfl)).trans e19
      generalize frame wcT a0 us = fr at *
      exact val_ok (v := .bool true) (w' := w') (by go_simp) hG (Below.refl _ _) rfl
    · intro us w9 hG hV
      have e8 : us 20 = .bool true := hV 20 (by decide)
      subst ha0
      simp only [frame, wcT, fill]
      rw [e8]
      have HG3 := Lib.hid hG
      clear hV hl hG k8 k7 k2 k5 e8
      go_wp2_with fail
      go_ret
      exact ⟨rfl, HBr.out.trans (Below.mono HG3.out HBr.out.size)⟩
end Go.Proofs.Ytmbfgolcinniiaa.icC
