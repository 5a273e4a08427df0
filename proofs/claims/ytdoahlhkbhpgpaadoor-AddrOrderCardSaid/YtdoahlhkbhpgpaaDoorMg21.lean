/-
  2 texts of a proof, joined.
-/
import Derived.Test.YtdoahlhkbhpgpaaDoorMg18
import Derived.Test.YtdoahlhkbhpgpaaDoorMg20
import Derived.Test.YtdoahlhkbhpgpaaDoorMg4

namespace Go.Proofs.YtdoahlhkbhpgpaaDoor.adC
open Go.ChangeShapes Go.WideShapes Go.ChangeAt Go.RowKit
open Go.Proofs.YtdoahlhkbhpgpaaDoor.memC Go.Proofs.YtdoahlhkbhpgpaaDoor.genC Go.Proofs.YtdoahlhkbhpgpaaDoor.butC Go.Proofs.YtdoahlhkbhpgpaaDoor.freeC Go.Proofs.YtdoahlhkbhpgpaaDoor.txC
set_option linter.unusedVariables false
theorem cmpV_turn (s : Bool) (a : List Int) (s' : Bool) (b : List Int) : cmpV s' b s a = -cmpV s a s' b := by
  unfold cmpV
  by_cases h : s = s'
  · subst h
    rw [if_pos rfl, if_pos rfl]; exact lexL_turn _ _
  · rw [if_neg h, if_neg (fun e => h e.symm)]
    cases s <;> cases s' <;> first | rfl | exact absurd rfl h
theorem cmpV_three (s : Bool) (a : List Int) (s' : Bool) (b : List Int) : cmpV s a s' b = -1 ∨ cmpV s a s' b = 0 ∨ cmpV s a s' b = 1 := by
  unfold cmpV
  split
  · exact lexL_three _ _
  · split
    · exact .inl rfl
    · exact .inr (.inr rfl)
theorem cmpV_on (s : Bool) (a : List Int) (s' : Bool) (b : List Int) (t : Bool) (c : List Int) : cmpV s a s' b ≤ 0 → cmpV s' b t c ≤ 0 → cmpV s a t c ≤ 0 := by
  unfold cmpV
  cases s <;> cases s' <;> cases t <;> simp <;> exact lexL_on _ _ _
theorem cmpV_not {s s' : Bool} (h : (s == s') = false) (a b : List Int) : cmpV s a s' b ≠ 0 := by
  unfold cmpV
  cases s <;> cases s' <;> simp at h ⊢
theorem str_eqb {xs ys : List Int} (hx : ∀ x ∈ xs, Byte x) (hy : ∀ x ∈ ys, Byte x) : ((strOfNums xs).toList == (strOfNums ys).toList) = (lexL xs ys == 0) := by
  rw [Lib.strOfNums_toList, Lib.strOfNums_toList]
  by_cases h : xs = ys
  · subst h
    rw [lexL_self]; simp
  · have h1 : lexL xs ys ≠ 0 := fun e => h (lexL_zero _ _ e)
    rw [beq_eq_false_iff_ne.2 h1]
    refine beq_eq_false_iff_ne.2 fun e => h1 ?_
    rw [← lexL_bytes xs ys hx hy, e, lexL_bytes ys ys hy hy]
    exact lexL_self ys
theorem bytRet_call {P : World → Prop} {f : FuncId} {args : Array Value} {w0 w : World} {bs : List Int} (hG : Gr w0 w) (h : Calls Tryd.prog f args w (BytRet w bs)) :
    Calls Tryd.prog f args w fun e w' => ∃ v, e = .returned v ∧ Gr w0 w' ∧ Below w.heap.size w w' ∧ ∃ A n c, v = .slice A n c ∧ Nums .u8 w' w'.heap.size A n bs :=
  h.mono fun e w' ⟨A, n, c, he, h1, h2, h3, O, B⟩ => ⟨_, he, hG.below B, B, A, n, c, rfl, by
    obtain ⟨A', cap, ev, _, _, N⟩ := O.form
    cases ev
    exact h1 ▸ N⟩
def oaV (g0 g1 g2 : Nat) (CA CB CC : Array Value) (x y z : Int) : Nat → Value → World → Prop
  | 0, v, _ => v = .agg CA
  | 1, v, _ => v = .agg CB
  | 2, v, _ => v = .int .i64 x
  | 3, v, _ => v = .agg CB
  | 4, v, _ => v = .agg CC
  | 5, v, _ => v = .int .i64 y
  | 6, v, _ => v = .agg CA
  | 7, v, _ => v = .agg CC
  | 8, v, _ => v = .int .i64 z
  | 9, v, _ => v = .int .i64 x
  | 10, v, _ => v = .int .i64 y
  | 11, v, _ => v = .int .i64 z
  | _, _, _ => True
theorem oaV.keep (g0 g1 g2 : Nat) (CA CB CC : Array Value) (x y z : Int) (i : Nat) (v : Value) (w w' : World) (hb : Below w.heap.size w w') (h : oaV g0 g1 g2 CA CB CC x y z i v w) : oaV g0 g1 g2 CA CB CC x y z i v w' := by
  unfold oaV at h ⊢
  split at h <;> exact h
def oaT : List (Option Nat) := [none, none, none, none, none, none, none, some 9, some 10, some 11, none, some 0, some 1, some 2, some 3, some 4, some 5, some 6, some 7, some 8, none, none, none, none, none, none, none, none, none, none, none, none, none, none, none, none, none, none, none, none, none, none, none, none, none, none, none, none, none, none, none, none, none, none, none, none, none, none, none, none, none]
def obV (g0 g1 : Nat) (CA CB : Array Value) (s s2 : Bool) (p : Bool) (SA SB : ByteArray) (bs bt : List Int) : Nat → Value → World → Prop
  | 0, v, _ => v = .pointer (some ⟨g0, 0, none⟩)
  | 1, v, _ => v = .bool s
  | 2, v, _ => v = .pointer (some ⟨g1, 0, none⟩)
  | 3, v, _ => v = .bool s2
  | 4, v, _ => v = .bool true
  | 5, v, _ => v = .bool true
  | 6, v, _ => v = .agg CA
  | 7, v, w => ∃ A n c, v = .slice A n c ∧ Nums .u8 w w.heap.size A n bs
  | 8, v, _ => v = .string SA
  | 9, v, _ => v = .agg CB
  | 10, v, w => ∃ A n c, v = .slice A n c ∧ Nums .u8 w w.heap.size A n bt
  | 11, v, _ => v = .string SB
  | 12, v, _ => v = .bool p
  | 13, v, _ => v = .bool p
  | 14, v, _ => v = .bool p
  | _, _, _ => True
theorem obV.keep (g0 g1 : Nat) (CA CB : Array Value) (s s2 : Bool) (p : Bool) (SA SB : ByteArray) (bs bt : List Int) (i : Nat) (v : Value) (w w' : World) (hb : Below w.heap.size w w') (h : obV g0 g1 CA CB s s2 p SA SB bs bt i v w) : obV g0 g1 CA CB s s2 p SA SB bs bt i v w' := by
  by_cases e7 : i = 7
  · subst e7
    obtain ⟨A', n', c', h1, h2⟩ := h
    exact ⟨A', n', c', h1, (h2.below hb).more hb.size⟩
  by_cases e10 : i = 10
  · subst e10
    obtain ⟨A', n', c', h1, h2⟩ := h
    exact ⟨A', n', c', h1, (h2.below hb).more hb.size⟩
  unfold obV at h ⊢
  split at h <;> first | exact h | exact absurd rfl (by assumption)
def obT : List (Option Nat) := [none, none, none, none, none, none, none, none, none, none, some 14, none, none, none, none, none, none, none, none, none, some 0, some 1, some 2, some 3, some 4, some 5, some 6, some 7, some 8, some 9, some 10, some 11, some 12, some 13, none, none, none, none, none, none, none, none, none, none, none, none, none, none, none, none, none, none, none, none, none, none, none, none, none, none, none]
def ocV (g0 g1 : Nat) (CA CB : Array Value) (s s2 : Bool) (p : Bool) (SA SB : ByteArray) (bs bt : List Int) : Nat → Value → World → Prop
  | 0, v, _ => v = .pointer (some ⟨g0, 0, none⟩)
  | 1, v, _ => v = .bool s
  | 2, v, _ => v = .pointer (some ⟨g1, 0, none⟩)
  | 3, v, _ => v = .bool s2
  | 4, v, _ => v = .bool false
  | 5, v, _ => v = .bool false
  | 13, v, _ => v = .bool false
  | 14, v, _ => v = .bool false
  | _, _, _ => True
theorem ocV.keep (g0 g1 : Nat) (CA CB : Array Value) (s s2 : Bool) (p : Bool) (SA SB : ByteArray) (bs bt : List Int) (i : Nat) (v : Value) (w w' : World) (hb : Below w.heap.size w w') (h : ocV g0 g1 CA CB s s2 p SA SB bs bt i v w) : ocV g0 g1 CA CB s s2 p SA SB bs bt i v w' := by
  unfold ocV at h ⊢
  split at h <;> exact h
def ocT : List (Option Nat) := [none, none, none, none, none, none, none, none, none, none, some 14, none, none, none, none, none, none, none, none, none, some 0, some 1, some 2, some 3, some 4, some 5, some 6, some 7, some 8, some 9, some 10, some 11, some 12, some 13, none, none, none, none, none, none, none, none, none, none, none, none, none, none, none, none, none, none, none, none, none, none, none, none, none, none, none]
set_option maxRecDepth 100000 in
set_option maxHeartbeats 4000000 in
theorem order_walk (s s' s'' : Bool) (a b c : List Int) (w : World) (hg : Gb w) (ha : a.length = 16) (hb : b.length = 16) (hc : c.length = 16) (ya : ∀ x ∈ a, Byte x) (yb : ∀ x ∈ b, Byte x) (yc : ∀ x ∈ c, Byte x) :
    Calls Tryd.prog 3 #[.agg (adrV s a), .agg (adrV s' b), .agg (adrV s'' c)] w (Ret w (.bool true)) := by
  have e1 : (w.alloc (.cells (adrV s a) 24)).heap.size = w.heap.size + 1 := alloc_size _ _
  have e2 : ((w.alloc (.cells (adrV s a) 24)).alloc (.cells (adrV s' b) 24)).heap.size = w.heap.size + 1 + 1 := by rw [alloc_size, e1]
  obtain ⟨W, hW⟩ : ∃ W, W = ((w.alloc (.cells (adrV s a) 24)).alloc (.cells (adrV s' b) 24)).alloc (.cells (adrV s'' c) 24) := ⟨_, rfl⟩
  have R0_W := Lib.hid (show W.heap[w.heap.size]? = some (.cells (adrV s a) 24 (0, 0)) by rw [hW, Below.block (alloc_below _ _) _ (by rw [e2]; omega), Below.block (alloc_below _ _) _ (by rw [e1]; omega)]; exact heap_alloc_new w _)
  have R1_W := Lib.hid (show W.heap[w.heap.size + 1]? = some (.cells (adrV s' b) 24 (0, 0)) by rw [hW, Below.block (alloc_below _ _) _ (by rw [e2]; omega), ← e1]; exact heap_alloc_new _ _)
  have R2_W := Lib.hid (show W.heap[w.heap.size + 1 + 1]? = some (.cells (adrV s'' c) 24 (0, 0)) by rw [hW, ← e2]; exact heap_alloc_new _ _)
  have HB_W := Lib.hid (show Below w.heap.size w W by rw [hW]; exact (((Below.refl _ _).alloc (Nat.le_refl _) _).alloc (by simp) _).alloc (by rw [e2]; omega) _)
  have HG_W := Lib.hid (hg.below HB_W.out)
  have I0 := Lib.hid (adr_info s ha)
  have I1 := Lib.hid (adr_info s' hb)
  have I2 := Lib.hid (adr_info s'' hc)
  have Cx := Lib.hid (fun w' => comp_any s s' a b w' ha hb ya yb)
  have Cy := Lib.hid (fun w' => comp_any s' s'' b c w' hb hc yb yc)
  have Cz := Lib.hid (fun w' => comp_any s s'' a c w' ha hc ya yc)
  have Cr := Lib.hid (fun w' => comp_any s' s b a w' hb ha yb ya)
  rw [cmpV_turn s a s' b] at Cr
  have hx3 := Lib.hid (cmpV_three s a s' b)
  have hon := Lib.hid (cmpV_on s a s' b s'' c)
  have hnot := Lib.hid (fun h => cmpV_not (s := s) (s' := s') h a b)
  have hself : Hid (s = s' → cmpV s a s' b = lexL (adrL s a) (adrL s' b)) := Lib.hid fun h => by subst h; unfold cmpV; rw [if_pos rfl]
  have PE0 := Lib.hid (str_eqb (adrL_byte (s := s) ya) (adrL_byte (s := s') yb))
  have B1 := Lib.hid (fun w' => cbytes_any s a w' ha)
  have B2 := Lib.hid (fun w' => cbytes_any s' b w' hb)
  have KA := Lib.hid (adrV_six s a)
  have KB := Lib.hid (adrV_six s' b)
  generalize cmpV s a s' b = x at *
  generalize cmpV s' b s'' c = y at *
  generalize cmpV s a s'' c = z at *
  generalize hSA : strOfNums (adrL s a) = SA at *
  generalize hSB : strOfNums (adrL s' b) = SB at *
  have SAE := Lib.hid hSA
  have SBE := Lib.hid hSB
  generalize lexL (adrL s a) (adrL s' b) = lx at *
  generalize adrL s a = bs at *
  generalize adrL s' b = bt at *
  generalize adrV s a = CA at *
  generalize adrV s' b = CB at *
  generalize adrV s'' c = CC at *
  clear ha hb hc ya yb yc e1 e2 hg hSA hSB
  go_enter Tryd.func3, Tryd.ntmps3
  go_upto_region 1 with fail
  rw [← hW]
  clear hW
  refine with_act fun a0 ha0 => ?_
  have hl : oaT.length = a0.tmps.size := by rw [ha0]; rfl
  have k3 : a0.tmps[3]?.getD undef = .pointer (some ⟨w.heap.size, 0, none⟩) := by rw [ha0]; rfl
  have k4 : a0.tmps[4]?.getD undef = .pointer (some ⟨(w.heap.size + 1), 0, none⟩) := by rw [ha0]; rfl
  have k5 : a0.tmps[5]?.getD undef = .pointer (some ⟨(w.heap.size + 1 + 1), 0, none⟩) := by rw [ha0]; rfl
  refine wp_region_vals (by kernel_rfl) oaT (by kernel_rfl) (by kernel_rfl) hl (fun i => undef) (by rw [ha0]; rfl) (Gr W) (oaV w.heap.size (w.heap.size + 1) (w.heap.size + 1 + 1) CA CB CC x y z) (gr_drew _) (oaV.keep _ _ _ _ _ _ _ _ _) ⟨?_, ?_, ?_, ?_, ?_, ?_, ?_, ?_, ?_, ?_, ?_, ?_, trivial⟩ ?_
  · refine step_plain [] (by kernel_rfl) rfl fun us w' hG hV => ?_
    have o3 := (frame_old2 (us := us) (a := a0) (show (oaT[3]?).join = none from rfl)).trans k3
    have hg1 := hG.row R0_W.out
    generalize frame oaT a0 us = fr at *
    exact load_ok 24 3 rfl (w.heap.size) o3 _ _ (0, 0) _ hg1 Tryd.underlying24 rfl I0.out hG rfl
  · refine step_plain [] (by kernel_rfl) rfl fun us w' hG hV => ?_
    have o4 := (frame_old2 (us := us) (a := a0) (show (oaT[4]?).join = none from rfl)).trans k4
    have hg1 := hG.row R1_W.out
    generalize frame oaT a0 us = fr at *
    exact load_ok 24 4 rfl ((w.heap.size + 1)) o4 _ _ (0, 0) _ hg1 Tryd.underlying24 rfl I1.out hG rfl
  · refine step_plain [0, 1] (by kernel_rfl) rfl fun us w' hG hV => ?_
    have e0 : us 0 = .agg CA := hV 0 (by simp)
    have v0 := (frame_at2 (us := us) hl (show (oaT[11]?).join = some 0 from rfl)).trans e0
    have e1 : us 1 = .agg CB := hV 1 (by simp)
    have v1 := (frame_at2 (us := us) hl (show (oaT[12]?).join = some 1 from rfl)).trans e1
    generalize frame oaT a0 us = fr at *
    exact call_ok (f := 4) (args := #[.agg CA, .agg CB]) (by go_simp) ((Cx.out w').mono fun e w'' h => ⟨_, h.1, hG.below h.2, h.2, rfl⟩)
  · refine step_plain [] (by kernel_rfl) rfl fun us w' hG hV => ?_
    have o4 := (frame_old2 (us := us) (a := a0) (show (oaT[4]?).join = none from rfl)).trans k4
    have hg1 := hG.row R1_W.out
    generalize frame oaT a0 us = fr at *
    exact load_ok 24 4 rfl ((w.heap.size + 1)) o4 _ _ (0, 0) _ hg1 Tryd.underlying24 rfl I1.out hG rfl
  · refine step_plain [] (by kernel_rfl) rfl fun us w' hG hV => ?_
    have o5 := (frame_old2 (us := us) (a := a0) (show (oaT[5]?).join = none from rfl)).trans k5
    have hg1 := hG.row R2_W.out
    generalize frame oaT a0 us = fr at *
    exact load_ok 24 5 rfl ((w.heap.size + 1 + 1)) o5 _ _ (0, 0) _ hg1 Tryd.underlying24 rfl I2.out hG rfl
  · refine step_plain [3, 4] (by kernel_rfl) rfl fun us w' hG hV => ?_
    have e3 : us 3 = .agg CB := hV 3 (by simp)
    have v3 := (frame_at2 (us := us) hl (show (oaT[14]?).join = some 3 from rfl)).trans e3
    have e4 : us 4 = .agg CC := hV 4 (by simp)
    have v4 := (frame_at2 (us := us) hl (show (oaT[15]?).join = some 4 from rfl)).trans e4
    generalize frame oaT a0 us = fr at *
    exact call_ok (f := 4) (args := #[.agg CB, .agg CC]) (by go_simp) ((Cy.out w').mono fun e w'' h => ⟨_, h.1, hG.below h.2, h.2, rfl⟩)
  · refine step_plain [] (by kernel_rfl) rfl fun us w' hG hV => ?_
    have o3 := (frame_old2 (us := us) (a := a0) (show (oaT[3]?).join = none from rfl)).trans k3
    have hg1 := hG.row R0_W.out
    generalize frame oaT a0 us = fr at *
    exact load_ok 24 3 rfl (w.heap.size) o3 _ _ (0, 0) _ hg1 Tryd.underlying24 rfl I0.out hG rfl
  · refine step_plain [] (by kernel_rfl) rfl fun us w' hG hV => ?_
    have o5 := (frame_old2 (us := us) (a := a0) (show (oaT[5]?).join = none from rfl)).trans k5
    have hg1 := hG.row R2_W.out
    generalize frame oaT a0 us = fr at *
    exact load_ok 24 5 rfl ((w.heap.size + 1 + 1)) o5 _ _ (0, 0) _ hg1 Tryd.underlying24 rfl I2.out hG rfl
  · refine step_plain [6, 7] (by kernel_rfl) rfl fun us w' hG hV => ?_
    have e6 : us 6 = .agg CA := hV 6 (by simp)
    have v6 := (frame_at2 (us := us) hl (show (oaT[17]?).join = some 6 from rfl)).trans e6
    have e7 : us 7 = .agg CC := hV 7 (by simp)
    have v7 := (frame_at2 (us := us) hl (show (oaT[18]?).join = some 7 from rfl)).trans e7
    generalize frame oaT a0 us = fr at *
    exact call_ok (f := 4) (args := #[.agg CA, .agg CC]) (by go_simp) ((Cz.out w').mono fun e w'' h => ⟨_, h.1, hG.below h.2, h.2, rfl⟩)
  · refine step_plain [2] (by kernel_rfl) rfl fun us w' hG hV => ?_
    have e2 : us 2 = .int .i64 x := hV 2 (by simp)
    have v2 := (frame_at2 (us := us) hl (show (oaT[13]?).join = some 2 from rfl)).trans e2
    generalize frame oaT a0 us = fr at *
    exact val_ok (v := .int .i64 x) (w' := w') (by go_simp) hG (Below.refl _ _) rfl
  · refine step_plain [5] (by kernel_rfl) rfl fun us w' hG hV => ?_
    have e5 : us 5 = .int .i64 y := hV 5 (by simp)
    have v5 := (frame_at2 (us := us) hl (show (oaT[16]?).join = some 5 from rfl)).trans e5
    generalize frame oaT a0 us = fr at *
    exact val_ok (v := .int .i64 y) (w' := w') (by go_simp) hG (Below.refl _ _) rfl
  · refine step_plain [8] (by kernel_rfl) rfl fun us w' hG hV => ?_
    have e8 : us 8 = .int .i64 z := hV 8 (by simp)
    have v8 := (frame_at2 (us := us) hl (show (oaT[19]?).join = some 8 from rfl)).trans e8
    generalize frame oaT a0 us = fr at *
    exact val_ok (v := .int .i64 z) (w' := w') (by go_simp) hG (Below.refl _ _) rfl
  · intro us w2 hG hV
    have e9 : us 9 = .int .i64 x := hV 9 (by decide)
    have e10 : us 10 = .int .i64 y := hV 10 (by decide)
    have e11 : us 11 = .int .i64 z := hV 11 (by decide)
    subst ha0
    simp only [frame, oaT, fill]
    rw [e9, e10, e11]
    clear hV hl e9 e10 e11 k3 k4 k5
    have HB_V := Lib.hid (HB_W.out.trans (hG.mono HB_W.out.size))
    have HG_V := Lib.hid (HG_W.out.below hG)
    have R0_V := Lib.hid (hG.row R0_W.out)
    have R1_V := Lib.hid (hG.row R1_W.out)
    have R2_V := Lib.hid (hG.row R2_W.out)
    clear hG R0_W R1_W R2_W HB_W HG_W
    generalize w2 = V at *
    go_upto_region 2 with fail
    have K0 := Lib.hid (fun (w' : World) (hG : Gr V w') => (show w'.cell? ⟨w.heap.size, 0, none⟩ = some (.bool s) by rw [cell_of_row w' w.heap.size 0 _ _ (0, 0) (hG.row R0_V.out)]; exact KA.out))
    have K1 := Lib.hid (fun (w' : World) (hG : Gr V w') => (show w'.cell? ⟨w.heap.size + 1, 0, none⟩ = some (.bool s') by rw [cell_of_row w' (w.heap.size + 1) 0 _ _ (0, 0) (hG.row R1_V.out)]; exact KB.out))
    clear KA KB Cx Cy Cz
    cases hq : (s == s')
    · have hx0 := hnot.out hq
      have QE := Lib.hid hq
      clear hq hself PE0 hnot
      refine with_act fun a0 ha0 => ?_
      have hl : ocT.length = a0.tmps.size := by rw [ha0]; rfl
      have k3 : a0.tmps[3]?.getD undef = .pointer (some ⟨w.heap.size, 0, none⟩) := by rw [ha0]; rfl
      have k4 : a0.tmps[4]?.getD undef = .pointer (some ⟨(w.heap.size + 1), 0, none⟩) := by rw [ha0]; rfl
      refine wp_region_vals (by kernel_rfl) ocT (by kernel_rfl) (by kernel_rfl) hl (fun i => undef) (by rw [ha0]; rfl) (Gr V) (ocV w.heap.size (w.heap.size + 1) CA CB s s' false SA SB bs bt) (gr_drew _) (ocV.keep _ _ _ _ _ _ _ _ _ _ _) ⟨?_, ?_, ?_, ?_, ?_, ?_, ?_, ?_, ?_, ?_, ?_, ?_, ?_, ?_, ?_, trivial⟩ ?_
      · refine step_plain [] (by kernel_rfl) rfl fun us w' hG hV => ?_
        have o3 := (frame_old2 (us := us) (a := a0) (show (ocT[3]?).join = none from rfl)).trans k3
        generalize frame ocT a0 us = fr at *
        exact val_ok (v := .pointer (some ⟨w.heap.size, 0, none⟩)) (w' := w') (by go_simp) hG (Below.refl _ _) rfl
      · refine step_plain [0] (by kernel_rfl) rfl fun us w' hG hV => ?_
        have e0 : us 0 = .pointer (some ⟨w.heap.size, 0, none⟩) := hV 0 (by simp)
        have v0 := (frame_at2 (us := us) hl (show (ocT[20]?).join = some 0 from rfl)).trans e0
        have hc := K0.out w' hG
        generalize frame ocT a0 us = fr at *
        exact val_ok (v := .bool s) (w' := w') (by go_simp) hG (Below.refl _ _) rfl
      · refine step_plain [] (by kernel_rfl) rfl fun us w' hG hV => ?_
        have o4 := (frame_old2 (us := us) (a := a0) (show (ocT[4]?).join = none from rfl)).trans k4
        generalize frame ocT a0 us = fr at *
        exact val_ok (v := .pointer (some ⟨(w.heap.size + 1), 0, none⟩)) (w' := w') (by go_simp) hG (Below.refl _ _) rfl
      · refine step_plain [2] (by kernel_rfl) rfl fun us w' hG hV => ?_
        have e2 : us 2 = .pointer (some ⟨(w.heap.size + 1), 0, none⟩) := hV 2 (by simp)
        have v2 := (frame_at2 (us := us) hl (show (ocT[22]?).join = some 2 from rfl)).trans e2
        have hc := K1.out w' hG
        generalize frame ocT a0 us = fr at *
        exact val_ok (v := .bool s') (w' := w') (by go_simp) hG (Below.refl _ _) rfl
      · refine step_plain [1, 3] (by kernel_rfl) rfl fun us w' hG hV => ?_
        have e1 : us 1 = .bool s := hV 1 (by simp)
        have v1 := (frame_at2 (us := us) hl (show (ocT[21]?).join = some 1 from rfl)).trans e1
        have e3 : us 3 = .bool s' := hV 3 (by simp)
        have v3 := (frame_at2 (us := us) hl (show (ocT[23]?).join = some 3 from rfl)).trans e3
        have hq := QE.out
        generalize frame ocT a0 us = fr at *
        exact val_ok (v := .bool false) (w' := w') (by go_simp) hG (Below.refl _ _) rfl
      · refine step_plain [4] (by kernel_rfl) rfl fun us w' hG hV => ?_
        have e4 : us 4 = .bool false := hV 4 (by simp)
        have v4 := (frame_at2 (us := us) hl (show (ocT[24]?).join = some 4 from rfl)).trans e4
        generalize frame ocT a0 us = fr at *
        exact val_ok (v := .bool false) (w' := w') (by go_simp) hG (Below.refl _ _) rfl
      · refine step_cnd [5] (by kernel_rfl) (j := 5) (t := 25) rfl (by simp) rfl hl rfl false (fun v w h => h) (fun _ w => trivial) fun hc => by cases hc
      · refine step_cnd [5] (by kernel_rfl) (j := 5) (t := 25) rfl (by simp) rfl hl rfl false (fun v w h => h) (fun _ w => trivial) fun hc => by cases hc
      · refine step_cnd [5] (by kernel_rfl) (j := 5) (t := 25) rfl (by simp) rfl hl rfl false (fun v w h => h) (fun _ w => trivial) fun hc => by cases hc
      · refine step_cnd [5] (by kernel_rfl) (j := 5) (t := 25) rfl (by simp) rfl hl rfl false (fun v w h => h) (fun _ w => trivial) fun hc => by cases hc
      · refine step_cnd [5] (by kernel_rfl) (j := 5) (t := 25) rfl (by simp) rfl hl rfl false (fun v w h => h) (fun _ w => trivial) fun hc => by cases hc
      · refine step_cnd [5] (by kernel_rfl) (j := 5) (t := 25) rfl (by simp) rfl hl rfl false (fun v w h => h) (fun _ w => trivial) fun hc => by cases hc
      · refine step_cnd [5] (by kernel_rfl) (j := 5) (t := 25) rfl (by simp) rfl hl rfl false (fun v w h => h) (fun _ w => trivial) fun hc => by cases hc
      · refine step_plain [5] (by kernel_rfl) rfl fun us w' hG hV => ?_
        have e5 : us 5 = .bool false := hV 5 (by simp)
        have v5 := (frame_at2 (us := us) hl (show (ocT[25]?).join = some 5 from rfl)).trans e5
        generalize frame ocT a0 us = fr at *
        exact val_ok (v := .bool false) (w' := w') (by go_simp) hG (Below.refl _ _) rfl
      · refine step_plain [13] (by kernel_rfl) rfl fun us w' hG hV => ?_
        have e13 : us 13 = .bool false := hV 13 (by simp)
        have v13 := (frame_at2 (us := us) hl (show (ocT[33]?).join = some 13 from rfl)).trans e13
        generalize frame ocT a0 us = fr at *
        exact val_ok (v := .bool false) (w' := w') (by go_simp) hG (Below.refl _ _) rfl
      · intro us w2 hG hV
        have eL : us 14 = .bool false := hV 14 (by decide)
        subst ha0
        simp only [frame, ocT, fill]
        rw [eL]
        clear hV hl eL k3 k4
        have HB_U := Lib.hid (HB_V.out.trans (hG.mono HB_V.out.size))
        have HG_U := Lib.hid (HG_V.out.below hG)
        have R0_U := Lib.hid (hG.row R0_V.out)
        have R1_U := Lib.hid (hG.row R1_V.out)
        clear hG R0_V R1_V R2_V HB_V HG_V
        generalize w2 = U at *
        clear K0 K1 QE
        rcases hx3.out with rfl | rfl | rfl
        · clear hx3 hx0
          by_cases hy : 0 < y
          · clear hon
            go_wp2_with (first
              | (refine wpList_load_rowG (by rfl) 24 (.tmp 4) rfl (w.heap.size + 1) rfl _ _ _ _ R1_U.out Tryd.underlying24 rfl I1.out ?_)
              | (refine wpList_load_rowG (by rfl) 24 (.tmp 3) rfl (w.heap.size) rfl _ _ _ _ R0_U.out Tryd.underlying24 rfl I0.out ?_)
              | (go_at_call 4; (with_reducible refine (Cr.out _).mono ?_); rintro e w5 ⟨rfl, BB⟩
                 have HB_w5 := Lib.hid (HB_U.out.trans (BB.mono HB_U.out.size))
                 have R0_w5 := Lib.hid (show w5.heap[w.heap.size]? = some (.cells CA 24 (0, 0)) by rw [BB.block _ (lt_of_row R0_U.out)]; exact R0_U.out)
                 have R1_w5 := Lib.hid (show w5.heap[w.heap.size + 1]? = some (.cells CB 24 (0, 0)) by rw [BB.block _ (lt_of_row R1_U.out)]; exact R1_U.out)
                 have HG_w5 := Lib.hid (HG_U.out.below BB)
                 clear BB)
              | (go_at_call 6; (refine (alive_any _ HG_w5.out).mono ?_); rintro e w6 ⟨rfl, BB⟩
                 have HB_w6 := Lib.hid (HB_w5.out.trans (BB.mono HB_w5.out.size))
                 clear BB))
            go_ret
            exact ⟨rfl, HB_w6.out⟩
          · have hz := hon.out (by decide) (by omega)
            clear hon
            go_wp2_with (first
              | (refine wpList_load_rowG (by rfl) 24 (.tmp 4) rfl (w.heap.size + 1) rfl _ _ _ _ R1_U.out Tryd.underlying24 rfl I1.out ?_)
              | (refine wpList_load_rowG (by rfl) 24 (.tmp 3) rfl (w.heap.size) rfl _ _ _ _ R0_U.out Tryd.underlying24 rfl I0.out ?_)
              | (go_at_call 4; (with_reducible refine (Cr.out _).mono ?_); rintro e w5 ⟨rfl, BB⟩
                 have HB_w5 := Lib.hid (HB_U.out.trans (BB.mono HB_U.out.size))
                 have R0_w5 := Lib.hid (show w5.heap[w.heap.size]? = some (.cells CA 24 (0, 0)) by rw [BB.block _ (lt_of_row R0_U.out)]; exact R0_U.out)
                 have R1_w5 := Lib.hid (show w5.heap[w.heap.size + 1]? = some (.cells CB 24 (0, 0)) by rw [BB.block _ (lt_of_row R1_U.out)]; exact R1_U.out)
                 have HG_w5 := Lib.hid (HG_U.out.below BB)
                 clear BB)
              | (go_at_call 6; (refine (alive_any _ HG_w5.out).mono ?_); rintro e w6 ⟨rfl, BB⟩
                 have HB_w6 := Lib.hid (HB_w5.out.trans (BB.mono HB_w5.out.size))
                 clear BB))
            go_ret
            exact ⟨rfl, HB_w6.out⟩
        · exact absurd rfl hx0
        · clear hx3 hx0 hon
          go_wp2_with (first
            | (refine wpList_load_rowG (by rfl) 24 (.tmp 4) rfl (w.heap.size + 1) rfl _ _ _ _ R1_U.out Tryd.underlying24 rfl I1.out ?_)
            | (refine wpList_load_rowG (by rfl) 24 (.tmp 3) rfl (w.heap.size) rfl _ _ _ _ R0_U.out Tryd.underlying24 rfl I0.out ?_)
            | (go_at_call 4; (with_reducible refine (Cr.out _).mono ?_); rintro e w5 ⟨rfl, BB⟩
               have HB_w5 := Lib.hid (HB_U.out.trans (BB.mono HB_U.out.size))
               have R0_w5 := Lib.hid (show w5.heap[w.heap.size]? = some (.cells CA 24 (0, 0)) by rw [BB.block _ (lt_of_row R0_U.out)]; exact R0_U.out)
               have R1_w5 := Lib.hid (show w5.heap[w.heap.size + 1]? = some (.cells CB 24 (0, 0)) by rw [BB.block _ (lt_of_row R1_U.out)]; exact R1_U.out)
               have HG_w5 := Lib.hid (HG_U.out.below BB)
               clear BB)
            | (go_at_call 6; (refine (alive_any _ HG_w5.out).mono ?_); rintro e w6 ⟨rfl, BB⟩
               have HB_w6 := Lib.hid (HB_w5.out.trans (BB.mono HB_w5.out.size))
               clear BB))
          go_ret
          exact ⟨rfl, HB_w6.out⟩
    · have hss : s = s' := by simpa using hq
      have PE : Hid ((SA.toList == SB.toList) = (x == 0)) := Lib.hid (by rw [PE0.out, ← hself.out hss])
      have QE := Lib.hid hq
      clear hq hself PE0 hnot hss
      generalize hp : (x == 0) = p at *
      have HP := Lib.hid hp
      clear hp
      refine with_act fun a0 ha0 => ?_
      have hl : obT.length = a0.tmps.size := by rw [ha0]; rfl
      have k3 : a0.tmps[3]?.getD undef = .pointer (some ⟨w.heap.size, 0, none⟩) := by rw [ha0]; rfl
      have k4 : a0.tmps[4]?.getD undef = .pointer (some ⟨(w.heap.size + 1), 0, none⟩) := by rw [ha0]; rfl
      refine wp_region_vals (by kernel_rfl) obT (by kernel_rfl) (by kernel_rfl) hl (fun i => undef) (by rw [ha0]; rfl) (Gr V) (obV w.heap.size (w.heap.size + 1) CA CB s s' p SA SB bs bt) (gr_drew _) (obV.keep _ _ _ _ _ _ _ _ _ _ _) ⟨?_, ?_, ?_, ?_, ?_, ?_, ?_, ?_, ?_, ?_, ?_, ?_, ?_, ?_, ?_, trivial⟩ ?_
      · refine step_plain [] (by kernel_rfl) rfl fun us w' hG hV => ?_
        have o3 := (frame_old2 (us := us) (a := a0) (show (obT[3]?).join = none from rfl)).trans k3
        generalize frame obT a0 us = fr at *
        exact val_ok (v := .pointer (some ⟨w.heap.size, 0, none⟩)) (w' := w') (by go_simp) hG (Below.refl _ _) rfl
      · refine step_plain [0] (by kernel_rfl) rfl fun us w' hG hV => ?_
        have e0 : us 0 = .pointer (some ⟨w.heap.size, 0, none⟩) := hV 0 (by simp)
        have v0 := (frame_at2 (us := us) hl (show (obT[20]?).join = some 0 from rfl)).trans e0
        have hc := K0.out w' hG
        generalize frame obT a0 us = fr at *
        exact val_ok (v := .bool s) (w' := w') (by go_simp) hG (Below.refl _ _) rfl
      · refine step_plain [] (by kernel_rfl) rfl fun us w' hG hV => ?_
        have o4 := (frame_old2 (us := us) (a := a0) (show (obT[4]?).join = none from rfl)).trans k4
        generalize frame obT a0 us = fr at *
        exact val_ok (v := .pointer (some ⟨(w.heap.size + 1), 0, none⟩)) (w' := w') (by go_simp) hG (Below.refl _ _) rfl
      · refine step_plain [2] (by kernel_rfl) rfl fun us w' hG hV => ?_
        have e2 : us 2 = .pointer (some ⟨(w.heap.size + 1), 0, none⟩) := hV 2 (by simp)
        have v2 := (frame_at2 (us := us) hl (show (obT[22]?).join = some 2 from rfl)).trans e2
        have hc := K1.out w' hG
        generalize frame obT a0 us = fr at *
        exact val_ok (v := .bool s') (w' := w') (by go_simp) hG (Below.refl _ _) rfl
      · refine step_plain [1, 3] (by kernel_rfl) rfl fun us w' hG hV => ?_
        have e1 : us 1 = .bool s := hV 1 (by simp)
        have v1 := (frame_at2 (us := us) hl (show (obT[21]?).join = some 1 from rfl)).trans e1
        have e3 : us 3 = .bool s' := hV 3 (by simp)
        have v3 := (frame_at2 (us := us) hl (show (obT[23]?).join = some 3 from rfl)).trans e3
        have hq := QE.out
        generalize frame obT a0 us = fr at *
        exact val_ok (v := .bool true) (w' := w') (by go_simp) hG (Below.refl _ _) rfl
      · refine step_plain [4] (by kernel_rfl) rfl fun us w' hG hV => ?_
        have e4 : us 4 = .bool true := hV 4 (by simp)
        have v4 := (frame_at2 (us := us) hl (show (obT[24]?).join = some 4 from rfl)).trans e4
        generalize frame obT a0 us = fr at *
        exact val_ok (v := .bool true) (w' := w') (by go_simp) hG (Below.refl _ _) rfl
      · refine step_guard [5] (by kernel_rfl) (j := 5) (t := 25) (b := true) rfl (by simp) rfl hl rfl (fun v w h => h) fun us w' hG hV => ?_
        have o3 := (frame_old2 (us := us) (a := a0) (show (obT[3]?).join = none from rfl)).trans k3
        have hg1 := hG.row R0_V.out
        generalize frame obT a0 us = fr at *
        exact load_ok 24 3 rfl (w.heap.size) o3 _ _ (0, 0) _ hg1 Tryd.underlying24 rfl I0.out hG rfl
      · refine step_guard [5, 6] (by kernel_rfl) (j := 5) (t := 25) (b := true) rfl (by simp) rfl hl rfl (fun v w h => h) fun us w' hG hV => ?_
        have e6 : us 6 = .agg CA := hV 6 (by simp)
        have v6 := (frame_at2 (us := us) hl (show (obT[26]?).join = some 6 from rfl)).trans e6
        generalize frame obT a0 us = fr at *
        exact call_ok (f := 5) (args := #[.agg CA]) (by go_simp) (bytRet_call (P := fun _ => True) hG (B1.out w'))
      · refine step_guard [5, 7] (by kernel_rfl) (j := 5) (t := 25) (b := true) rfl (by simp) rfl hl rfl (fun v w h => h) fun us w' hG hV => ?_
        obtain ⟨A7, n7, c7, e7, N7⟩ := (show ∃ A n c, us 7 = .slice A n c ∧ Nums .u8 w' w'.heap.size A n bs from hV 7 (by simp))
        have v7 := (frame_at2 (us := us) hl (show (obT[27]?).join = some 7 from rfl)).trans e7
        have hcv := run_string N7 c7 26 5 9 Tryd.underlying26 Tryd.underlying5 Tryd.underlying9
        rw [SAE.out] at hcv
        generalize frame obT a0 us = fr at *
        exact val_ok (v := .string SA) (w' := w') (by go_simp) hG (Below.refl _ _) rfl
      · refine step_guard [5] (by kernel_rfl) (j := 5) (t := 25) (b := true) rfl (by simp) rfl hl rfl (fun v w h => h) fun us w' hG hV => ?_
        have o4 := (frame_old2 (us := us) (a := a0) (show (obT[4]?).join = none from rfl)).trans k4
        have hg1 := hG.row R1_V.out
        generalize frame obT a0 us = fr at *
        exact load_ok 24 4 rfl ((w.heap.size + 1)) o4 _ _ (0, 0) _ hg1 Tryd.underlying24 rfl I1.out hG rfl
      · refine step_guard [5, 9] (by kernel_rfl) (j := 5) (t := 25) (b := true) rfl (by simp) rfl hl rfl (fun v w h => h) fun us w' hG hV => ?_
        have e9 : us 9 = .agg CB := hV 9 (by simp)
        have v9 := (frame_at2 (us := us) hl (show (obT[29]?).join = some 9 from rfl)).trans e9
        generalize frame obT a0 us = fr at *
        exact call_ok (f := 5) (args := #[.agg CB]) (by go_simp) (bytRet_call (P := fun _ => True) hG (B2.out w'))
      · refine step_guard [5, 10] (by kernel_rfl) (j := 5) (t := 25) (b := true) rfl (by simp) rfl hl rfl (fun v w h => h) fun us w' hG hV => ?_
        obtain ⟨A10, n10, c10, e10, N10⟩ := (show ∃ A n c, us 10 = .slice A n c ∧ Nums .u8 w' w'.heap.size A n bt from hV 10 (by simp))
        have v10 := (frame_at2 (us := us) hl (show (obT[30]?).join = some 10 from rfl)).trans e10
        have hcv := run_string N10 c10 26 5 9 Tryd.underlying26 Tryd.underlying5 Tryd.underlying9
        rw [SBE.out] at hcv
        generalize frame obT a0 us = fr at *
        exact val_ok (v := .string SB) (w' := w') (by go_simp) hG (Below.refl _ _) rfl
      · refine step_guard [5, 8, 11] (by kernel_rfl) (j := 5) (t := 25) (b := true) rfl (by simp) rfl hl rfl (fun v w h => h) fun us w' hG hV => ?_
        have e8 : us 8 = .string SA := hV 8 (by simp)
        have v8 := (frame_at2 (us := us) hl (show (obT[28]?).join = some 8 from rfl)).trans e8
        have e11 : us 11 = .string SB := hV 11 (by simp)
        have v11 := (frame_at2 (us := us) hl (show (obT[31]?).join = some 11 from rfl)).trans e11
        generalize frame obT a0 us = fr at *
        exact val_ok (v := .bool p) (w' := w') (seq_run (S := SA) (S' := SB) (a := fr) rfl (by simpa only [Act.eval, Array.getD_eq_getD_getElem?] using v8) (by simpa only [Act.eval, Array.getD_eq_getD_getElem?] using v11) PE.out) hG (Below.refl _ _) rfl
      · refine step_plain [5, 12] (by kernel_rfl) rfl fun us w' hG hV => ?_
        have e5 : us 5 = .bool true := hV 5 (by simp)
        have v5 := (frame_at2 (us := us) hl (show (obT[25]?).join = some 5 from rfl)).trans e5
        have e12 : us 12 = .bool p := hV 12 (by simp)
        have v12 := (frame_at2 (us := us) hl (show (obT[32]?).join = some 12 from rfl)).trans e12
        generalize frame obT a0 us = fr at *
        exact val_ok (v := .bool p) (w' := w') (by go_simp) hG (Below.refl _ _) rfl
      · refine step_plain [13] (by kernel_rfl) rfl fun us w' hG hV => ?_
        have e13 : us 13 = .bool p := hV 13 (by simp)
        have v13 := (frame_at2 (us := us) hl (show (obT[33]?).join = some 13 from rfl)).trans e13
        generalize frame obT a0 us = fr at *
        exact val_ok (v := .bool p) (w' := w') (by go_simp) hG (Below.refl _ _) rfl
      · intro us w2 hG hV
        have eL : us 14 = .bool p := hV 14 (by decide)
        subst ha0
        simp only [frame, obT, fill]
        rw [eL]
        clear hV hl eL k3 k4
        have HB_U := Lib.hid (HB_V.out.trans (hG.mono HB_V.out.size))
        have HG_U := Lib.hid (HG_V.out.below hG)
        have R0_U := Lib.hid (hG.row R0_V.out)
        have R1_U := Lib.hid (hG.row R1_V.out)
        clear hG R0_V R1_V R2_V HB_V HG_V
        generalize w2 = U at *
        clear K0 K1 QE PE
        have hp := HP.out
        clear HP
        rcases hx3.out with rfl | rfl | rfl
        · clear hx3
          obtain rfl : p = false := by rw [← hp]; rfl
          clear hp
          by_cases hy : 0 < y
          · clear hon
            go_wp2_with (first
              | (refine wpList_load_rowG (by rfl) 24 (.tmp 4) rfl (w.heap.size + 1) rfl _ _ _ _ R1_U.out Tryd.underlying24 rfl I1.out ?_)
              | (refine wpList_load_rowG (by rfl) 24 (.tmp 3) rfl (w.heap.size) rfl _ _ _ _ R0_U.out Tryd.underlying24 rfl I0.out ?_)
              | (go_at_call 4; (with_reducible refine (Cr.out _).mono ?_); rintro e w5 ⟨rfl, BB⟩
                 have HB_w5 := Lib.hid (HB_U.out.trans (BB.mono HB_U.out.size))
                 have R0_w5 := Lib.hid (show w5.heap[w.heap.size]? = some (.cells CA 24 (0, 0)) by rw [BB.block _ (lt_of_row R0_U.out)]; exact R0_U.out)
                 have R1_w5 := Lib.hid (show w5.heap[w.heap.size + 1]? = some (.cells CB 24 (0, 0)) by rw [BB.block _ (lt_of_row R1_U.out)]; exact R1_U.out)
                 have HG_w5 := Lib.hid (HG_U.out.below BB)
                 clear BB)
              | (go_at_call 6; (refine (alive_any _ HG_w5.out).mono ?_); rintro e w6 ⟨rfl, BB⟩
                 have HB_w6 := Lib.hid (HB_w5.out.trans (BB.mono HB_w5.out.size))
                 clear BB))
            go_ret
            exact ⟨rfl, HB_w6.out⟩
          · have hz := hon.out (by decide) (by omega)
            clear hon
            go_wp2_with (first
              | (refine wpList_load_rowG (by rfl) 24 (.tmp 4) rfl (w.heap.size + 1) rfl _ _ _ _ R1_U.out Tryd.underlying24 rfl I1.out ?_)
              | (refine wpList_load_rowG (by rfl) 24 (.tmp 3) rfl (w.heap.size) rfl _ _ _ _ R0_U.out Tryd.underlying24 rfl I0.out ?_)
              | (go_at_call 4; (with_reducible refine (Cr.out _).mono ?_); rintro e w5 ⟨rfl, BB⟩
                 have HB_w5 := Lib.hid (HB_U.out.trans (BB.mono HB_U.out.size))
                 have R0_w5 := Lib.hid (show w5.heap[w.heap.size]? = some (.cells CA 24 (0, 0)) by rw [BB.block _ (lt_of_row R0_U.out)]; exact R0_U.out)
                 have R1_w5 := Lib.hid (show w5.heap[w.heap.size + 1]? = some (.cells CB 24 (0, 0)) by rw [BB.block _ (lt_of_row R1_U.out)]; exact R1_U.out)
                 have HG_w5 := Lib.hid (HG_U.out.below BB)
                 clear BB)
              | (go_at_call 6; (refine (alive_any _ HG_w5.out).mono ?_); rintro e w6 ⟨rfl, BB⟩
                 have HB_w6 := Lib.hid (HB_w5.out.trans (BB.mono HB_w5.out.size))
                 clear BB))
            go_ret
            exact ⟨rfl, HB_w6.out⟩
        · clear hx3
          obtain rfl : p = true := by rw [← hp]; rfl
          clear hp
          by_cases hy : 0 < y
          · clear hon
            go_wp2_with (first
              | (refine wpList_load_rowG (by rfl) 24 (.tmp 4) rfl (w.heap.size + 1) rfl _ _ _ _ R1_U.out Tryd.underlying24 rfl I1.out ?_)
              | (refine wpList_load_rowG (by rfl) 24 (.tmp 3) rfl (w.heap.size) rfl _ _ _ _ R0_U.out Tryd.underlying24 rfl I0.out ?_)
              | (go_at_call 4; (with_reducible refine (Cr.out _).mono ?_); rintro e w5 ⟨rfl, BB⟩
                 have HB_w5 := Lib.hid (HB_U.out.trans (BB.mono HB_U.out.size))
                 have R0_w5 := Lib.hid (show w5.heap[w.heap.size]? = some (.cells CA 24 (0, 0)) by rw [BB.block _ (lt_of_row R0_U.out)]; exact R0_U.out)
                 have R1_w5 := Lib.hid (show w5.heap[w.heap.size + 1]? = some (.cells CB 24 (0, 0)) by rw [BB.block _ (lt_of_row R1_U.out)]; exact R1_U.out)
                 have HG_w5 := Lib.hid (HG_U.out.below BB)
                 clear BB)
              | (go_at_call 6; (refine (alive_any _ HG_w5.out).mono ?_); rintro e w6 ⟨rfl, BB⟩
                 have HB_w6 := Lib.hid (HB_w5.out.trans (BB.mono HB_w5.out.size))
                 clear BB))
            go_ret
            exact ⟨rfl, HB_w6.out⟩
          · have hz := hon.out (by decide) (by omega)
            clear hon
            go_wp2_with (first
              | (refine wpList_load_rowG (by rfl) 24 (.tmp 4) rfl (w.heap.size + 1) rfl _ _ _ _ R1_U.out Tryd.underlying24 rfl I1.out ?_)
              | (refine wpList_load_rowG (by rfl) 24 (.tmp 3) rfl (w.heap.size) rfl _ _ _ _ R0_U.out Tryd.underlying24 rfl I0.out ?_)
              | (go_at_call 4; (with_reducible refine (Cr.out _).mono ?_); rintro e w5 ⟨rfl, BB⟩
                 have HB_w5 := Lib.hid (HB_U.out.trans (BB.mono HB_U.out.size))
                 have R0_w5 := Lib.hid (show w5.heap[w.heap.size]? = some (.cells CA 24 (0, 0)) by rw [BB.block _ (lt_of_row R0_U.out)]; exact R0_U.out)
                 have R1_w5 := Lib.hid (show w5.heap[w.heap.size + 1]? = some (.cells CB 24 (0, 0)) by rw [BB.block _ (lt_of_row R1_U.out)]; exact R1_U.out)
                 have HG_w5 := Lib.hid (HG_U.out.below BB)
                 clear BB)
              | (go_at_call 6; (refine (alive_any _ HG_w5.out).mono ?_); rintro e w6 ⟨rfl, BB⟩
                 have HB_w6 := Lib.hid (HB_w5.out.trans (BB.mono HB_w5.out.size))
                 clear BB))
            go_ret
            exact ⟨rfl, HB_w6.out⟩
        · clear hx3 hon
          obtain rfl : p = false := by rw [← hp]; rfl
          clear hp
          go_wp2_with (first
            | (refine wpList_load_rowG (by rfl) 24 (.tmp 4) rfl (w.heap.size + 1) rfl _ _ _ _ R1_U.out Tryd.underlying24 rfl I1.out ?_)
            | (refine wpList_load_rowG (by rfl) 24 (.tmp 3) rfl (w.heap.size) rfl _ _ _ _ R0_U.out Tryd.underlying24 rfl I0.out ?_)
            | (go_at_call 4; (with_reducible refine (Cr.out _).mono ?_); rintro e w5 ⟨rfl, BB⟩
               have HB_w5 := Lib.hid (HB_U.out.trans (BB.mono HB_U.out.size))
               have R0_w5 := Lib.hid (show w5.heap[w.heap.size]? = some (.cells CA 24 (0, 0)) by rw [BB.block _ (lt_of_row R0_U.out)]; exact R0_U.out)
               have R1_w5 := Lib.hid (show w5.heap[w.heap.size + 1]? = some (.cells CB 24 (0, 0)) by rw [BB.block _ (lt_of_row R1_U.out)]; exact R1_U.out)
               have HG_w5 := Lib.hid (HG_U.out.below BB)
               clear BB)
            | (go_at_call 6; (refine (alive_any _ HG_w5.out).mono ?_); rintro e w6 ⟨rfl, BB⟩
               have HB_w6 := Lib.hid (HB_w5.out.trans (BB.mono HB_w5.out.size))
               clear BB))
          go_ret
          exact ⟨rfl, HB_w6.out⟩
end Go.Proofs.YtdoahlhkbhpgpaaDoor.adC

namespace Go.Proofs.YtdoahlhkbhpgpaaDoor.adC
open Go.ChangeShapes Go.WideShapes Go.ChangeAt Go.RowKit
open Go.Proofs.YtdoahlhkbhpgpaaDoor.memC Go.Proofs.YtdoahlhkbhpgpaaDoor.genC Go.Proofs.YtdoahlhkbhpgpaaDoor.butC Go.Proofs.YtdoahlhkbhpgpaaDoor.freeC
set_option linter.unusedVariables false
section
variable {P : Program} {w : World} {r : Reach} {b0 : Nat} {t : TypeId}
theorem cell_u8 {ti : TypeId} {v : Value} (hi : P.underlying ti = some (.int .u8)) (h : Cell.okWide P w r b0 ti v) : ∃ z, v = .int .u8 z ∧ Byte z := by
  unfold Cell.okWide at h
  rw [hi] at h
  unfold Cell.ok at h
  rw [hi] at h
  cases v <;> simp at h
  obtain ⟨rfl, h1, h2⟩ := h
  exact ⟨_, rfl, by simpa [IntKind.min, IntKind.max, IntKind.signed, IntKind.bits] using h1, by simpa [IntKind.min, IntKind.max, IntKind.signed, IntKind.bits] using h2⟩
theorem cell_bool {tb : TypeId} {v : Value} (hb : P.underlying tb = some .bool) (h : Cell.okWide P w r b0 tb v) : ∃ s, v = .bool s := by
  unfold Cell.okWide at h
  rw [hb] at h
  unfold Cell.ok at h
  rw [hb] at h
  cases v <;> simp at h
  exact ⟨_, rfl⟩
theorem open_addr {fs : Array Field} {tb ti : TypeId} {v : Value} (ht : P.underlying t = some (.struct fs)) (hc : P.cellsOf t = 17) (hts : P.cellTypes P.depth t = some (tb :: List.replicate 16 ti))
    (hb : P.underlying tb = some .bool) (hi : P.underlying ti = some (.int .u8)) (hval : Value.okWide P w r b0 t v) :
    ∃ (s : Bool) (bs : List Int), v = .agg (adrV s bs) ∧ bs.length = 16 ∧ ∀ x ∈ bs, Byte x := by
  obtain ⟨cs, rfl, hsz, ts, hts', _, hcell⟩ : ∃ cs, v = .agg cs ∧ cs.size = P.cellsOf t ∧ Row.okWide P w r b0 t cs := by
    simpa [Value.okWide, ht] using hval
  obtain ⟨l⟩ := cs
  rw [hc] at hsz
  have hl : l.length = 17 := by simpa using hsz
  rw [hts] at hts'
  obtain rfl := Option.some.inj hts'
  have key : ∀ i, i < 17 → ∃ v u, l[i]? = some v ∧ (tb :: List.replicate 16 ti)[i]? = some u ∧ Cell.okWide P w r b0 u v := fun i hi36 => by
    have e : l[i]? = some (l[i]'(by omega)) := List.getElem?_eq_getElem _
    obtain ⟨u, h1, h2⟩ := hcell i (l[i]'(by omega)) (by rw [← e]; simp)
    refine ⟨_, u, e, ?_, h2⟩
    have : i % 17 = i := Nat.mod_eq_of_lt hi36
    simpa [this] using h1
  obtain ⟨s, hs⟩ : ∃ s, l[0]? = some (.bool s) := by
    obtain ⟨v, u, h1, h2, h3⟩ := key 0 (by decide)
    obtain rfl : tb = u := by simpa using h2
    obtain ⟨s, rfl⟩ := cell_bool hb h3
    exact ⟨s, h1⟩
  have kb : ∀ i, i < 16 → ∃ z, l[1 + i]? = some (.int .u8 z) ∧ Byte z := fun i hi' => by
    obtain ⟨v, u, h1, h2, h3⟩ := key (1 + i) (by omega)
    have : u = ti := by
      rw [Nat.add_comm, List.getElem?_cons_succ, List.getElem?_replicate, if_pos hi'] at h2
      exact (Option.some.inj h2).symm
    subst this
    obtain ⟨z, rfl, hz⟩ := cell_u8 hi h3
    exact ⟨z, h1, hz⟩
  match l, hl, hs, kb with
  | v0 :: rest, hl, hs, kb =>
    have e0 : v0 = .bool s := by simpa using hs
    subst e0
    have hr : rest.length = 16 := by simpa using hl
    refine ⟨s, rest.map fun v => match v with | .int _ z => z | _ => 0, ?_, by rw [List.length_map, hr], fun x hx => ?_⟩
    · unfold adrV
      congr 2
      rw [List.map_map]
      apply congrArg (Value.bool s :: ·)
      apply List.ext_getElem?
      intro i
      by_cases hi : i < 16
      · obtain ⟨z, hz, _⟩ := kb i hi
        rw [Nat.add_comm, List.getElem?_cons_succ] at hz
        rw [List.getElem?_map, hz]; rfl
      · rw [List.getElem?_eq_none (by omega), List.getElem?_eq_none (by rw [List.length_map]; omega)]
    · obtain ⟨v, hv, rfl⟩ := List.mem_map.1 hx
      obtain ⟨i, hi, rfl⟩ := List.getElem_of_mem hv
      obtain ⟨z, hz, hw⟩ := kb i (by omega)
      rw [Nat.add_comm, List.getElem?_cons_succ, List.getElem?_eq_getElem hi] at hz
      rw [Option.some.inj hz]; exact hw
end
end Go.Proofs.YtdoahlhkbhpgpaaDoor.adC
