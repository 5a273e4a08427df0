/-
  A cache is told the time.
-/
import Derived.Test.YtljcekmiockdjaaPmT
import Derived.BigQuiet
namespace Go.Proofs.Ytljcekmiockdjaa.pmC
open Go.ChangeShapes Go.WideShapes Go.ChangeAt Go.RowKit
open Go.Proofs.Ytljcekmiockdjaa.memC Go.Proofs.Ytljcekmiockdjaa.genC Go.Proofs.Ytljcekmiockdjaa.butC Go.Proofs.Ytljcekmiockdjaa.freeC Go.Proofs.Ytljcekmiockdjaa.adC
set_option linter.unusedVariables false
set_option linter.constructorNameAsVariable false
theorem bel_setRow {B k : Nat} {w w1 : World} (h : Below B w w1) (hk : B ≤ k) (cs : Array Value) : Below B w (w1.setRow k cs) :=
  ⟨h.os, h.tape, h.output, by simpa [World.setRow] using h.size, fun g hg => by rw [setRow_other w1 k g cs (by omega)]; exact h.block g hg⟩
theorem zAdr_ones : zAdr.all (·.oneCell') = true := by
  show ((rtC.adrK false (zs 16)).toArray).all _ = true
  rw [List.all_toArray]
  refine List.all_eq_true.2 fun u hu => ?_
  rcases List.mem_cons.1 hu with rfl | hu
  · rfl
  · obtain ⟨z, -, rfl⟩ := List.mem_map.1 hu; rfl
set_option maxRecDepth 100000 in
set_option maxHeartbeats 2000000 in
/-- has it ended? -/
theorem clo_any (w : World) (gc t : Nat) (now : Int) (hc : w.cell? ⟨gc, 0, none⟩ = some (.pointer (some ⟨t, 0, none⟩))) (hn : w.cell? ⟨t, 2, none⟩ = some (.int .i64 now)) (hg : gc < w.heap.size) (ht : t < w.heap.size) :
    Calls Try.prog 19 #[.agg zAdr, .agg (fV 576 600000), .pointer (some ⟨gc, 0, none⟩)] w (Ret w (.bool (decide (600000 ≤ now)))) := by
  obtain ⟨CK, hCK⟩ : ∃ C, C = zAdr := ⟨_, rfl⟩
  obtain ⟨CF, hCF⟩ : ∃ C, C = fV 576 600000 := ⟨_, rfl⟩
  rw [← hCK, ← hCF]
  obtain ⟨W1, hW1⟩ : ∃ W1, W1 = w.alloc (.cells CK 24) := ⟨_, rfl⟩
  obtain ⟨W, hW⟩ : ∃ W, W = W1.alloc (.cells CF 48) := ⟨_, rfl⟩
  have B1 := Lib.hid (show Below w.heap.size w W1 by rw [hW1]; exact alloc_below _ _)
  have B2 := Lib.hid (show Below w.heap.size w W by rw [hW]; exact B1.out.trans ((alloc_below _ _).mono B1.out.size))
  obtain ⟨g, hg2⟩ : ∃ g, g = w.heap.size + 1 := ⟨_, rfl⟩
  have hg3 := Lib.hid (show W1.heap.size = g by rw [hW1, hg2]; simp)
  have c1 : W.cell? ⟨g, 1, none⟩ = some (.int .i64 600000) := by rw [cell_of_row W g 1 CF _ (0, 0) (by rw [hW, ← hg3.out]; exact heap_alloc_new _ _), hCF]; rfl
  have c2 : W.cell? ⟨gc, 0, none⟩ = some (.pointer (some ⟨t, 0, none⟩)) := (B2.out.cell (p := ⟨gc, 0, none⟩) hg).trans hc
  have c3 : W.cell? ⟨t, 2, none⟩ = some (.int .i64 now) := (B2.out.cell (p := ⟨t, 2, none⟩) ht).trans hn
  have HW := Lib.hid hW
  have HW1 := Lib.hid hW1
  have HG2 := Lib.hid hg2
  clear hc hn hg ht hCK hCF hW hW1 hg2
  go_enter Try.func19, Try.ntmps19
  go_upto_region 1 with fail
  try rw [← HW1.out]
  try rw [← HW.out]
  try rw [hg3.out]
  try rw [← HG2.out]
  go_quiet (fail)
  go_wp2_with fail
  go_ret
  exact ⟨rfl, bel_drewN B2.out _⟩
set_option maxRecDepth 100000 in
set_option maxHeartbeats 4000000 in
/-- what has ended goes -/
theorem delf_any (w : World) (b t gc : Nat) (now : Int) (q : Bool) (hq : decide (600000 ≤ now) = q) (hb : w.heap[b]? = some (.map (ents true) 1)) (hc : w.cell? ⟨gc, 0, none⟩ = some (.pointer (some ⟨t, 0, none⟩))) (hn : w.cell? ⟨t, 2, none⟩ = some (.int .i64 now)) (hg : gc < w.heap.size) (ht : t < w.heap.size) (hgb : gc ≠ b) (htb : t ≠ b) :
    Calls Try.prog 18 #[.map (some b), .func (.func 19) #[] #[.pointer (some ⟨gc, 0, none⟩)]] w fun e w' => (∃ v, e = .returned v) ∧ w'.heap[b]? = some (.map (ents (!q)) 1) ∧ But b w w' := by
  have HM := Lib.hid hb
  have CLO := Lib.hid (fun w' (h : But b w w') => (show Calls Try.prog 19 #[.agg zAdr, .agg (fV 576 600000), .pointer (some ⟨gc, 0, none⟩)] w' (Ret w' (.bool q)) by
    have := clo_any w' gc t now ((h.cell (a := ⟨gc, 0, none⟩) hg hgb).trans hc) ((h.cell (a := ⟨t, 2, none⟩) ht htb).trans hn) (Nat.lt_of_lt_of_le hg h.size) (Nat.lt_of_lt_of_le ht h.size)
    rwa [hq] at this))
  have HBL := Lib.hid (show b < w.heap.size from (Array.getElem?_eq_some_iff.1 hb).1)
  have hzv := zeroFact
  have hza := zeroAdr
  obtain ⟨CK, hCK⟩ : ∃ C, C = zAdr := ⟨_, rfl⟩
  obtain ⟨CF, hCF⟩ : ∃ C, C = fV 576 600000 := ⟨_, rfl⟩
  obtain ⟨ZF, hZF⟩ : ∃ C, C = fV 0 0 := ⟨_, rfl⟩
  rw [← hCK, ← hCF] at CLO
  rw [← hCK] at hza
  rw [← hZF] at hzv
  have IK := Lib.hid (show (Try.prog.info? 24).map (·.size) = some CK.size by rw [hCK]; kernel_rfl)
  have OK := Lib.hid (show CK.all (·.oneCell') = true by rw [hCK]; exact zAdr_ones)
  have IF := Lib.hid (show (Try.prog.info? 48).map (·.size) = some CF.size by rw [hCF]; exact fact_info _ _)
  have ZX := Lib.hid (show ZF.size = CF.size by rw [hCF, hZF]; rfl)
  have OF := Lib.hid (show CF.all (·.oneCell') = true by rw [hCF]; simp [fV, Value.oneCell'])
  have HCK := Lib.hid hCK
  have HCF := Lib.hid hCF
  clear hb hc hn hg ht hgb htb hq hCK hCF hZF
  go_enter Try.func18, Try.ntmps18
  go_upto_region 1 with (refine wpList_rangeF rfl (.tmp 6) rfl rfl HM.out ?_; intro w0 hr0 hb0; have HR0 := Lib.hid hr0; have HB0 := Lib.hid hb0; clear hr0 hb0)
  simp only [Act.put, List.setIfInBounds_toArray, List.set_cons_succ, List.set_cons_zero]
  have M0 := Lib.hid (show w0.heap[b]? = some (.map (ents true) 1) from (HB0.out.block b HBL.out).trans HM.out)
  go_loopw [4, 5] (fun _ _ wr => But b w wr ∧ ((wr.heap[w.heap.size]? = some (.mapIter (some b) 1 #[] 1) ∧ wr.heap[b]? = some (.map (ents true) 1)) ∨ (wr.heap[w.heap.size]? = some (.mapIter (some b) 1 #[0] 1) ∧ wr.heap[b]? = some (.map (ents (!q)) 1)))) (fun _ _ wr => wr.rangeLeft b w.heap.size)
  case atStart => exact ⟨But.below HB0.out, .inl ⟨HR0.out, M0.out⟩⟩
  case round =>
    obtain ⟨hbu, ⟨hr, hm⟩ | ⟨hr, hm⟩⟩ := hrel
    rotate_left
    · have HR := Lib.hid hr
      have HM2 := Lib.hid hm
      have HBU := Lib.hid hbu
      clear hr hm hbu
      go_wp2_with (refine wpList_next1 rfl (.tmp 7) rfl rfl HR.out HM2.out ?_)
      go_end0
      exact ⟨⟨_, rfl⟩, HM2.out, HBU.out⟩
    · have HR := Lib.hid hr
      have HM2 := Lib.hid hm
      have HBU := Lib.hid hbu
      clear hr hm hbu
      go_upto_region 2 with (refine wpList_next0 rfl (.tmp 7) rfl rfl (by have := HBL.out; omega) HR.out HM2.out ?_; intro w2 hr2 hb2 hen; have HR2 := Lib.hid hr2; have HB2 := Lib.hid hb2; clear hr2 hb2)
      have M2 := Lib.hid (show w2.heap[b]? = some (.map (ents true) 1) from (HB2.out.block b (Array.getElem?_eq_some_iff.1 HM2.out).1 (by have := HBL.out; omega)).trans HM2.out)
      rw [← HCK.out, ← HCF.out] at hen
      rw [← HCK.out, ← HCF.out]
      go_upto_region 3 with (first
        | (refine wpList_store_row rfl 24 (.tmp 4) (.tmp 11) rfl w2.heap.size CK rfl rfl _ _ (row_two w2) IK.out rfl OK.out ?_)
        | (refine wpList_store_row rfl 48 (.tmp 5) (.tmp 12) rfl (w2.heap.size + 1) CF rfl rfl _ _ (row_two2 w2) IF.out ZX.out OF.out ?_))
      obtain ⟨W3, hW3⟩ : ∃ W3, W3 = ((w2.alloc (.cells CK 24)).alloc (.cells ZF 48)).setRow w2.heap.size CK := ⟨_, rfl⟩
      obtain ⟨W4, hW4⟩ : ∃ W4, W4 = W3.setRow (w2.heap.size + 1) CF := ⟨_, rfl⟩
      rw [← hW3, ← hW4]
      obtain ⟨g4, hg4⟩ : ∃ g, g = w2.heap.size := ⟨_, rfl⟩
      have B3 := Lib.hid (show Below w2.heap.size w2 W3 by
        rw [hW3]
        exact bel_setRow ((alloc_below w2 _).trans ((alloc_below _ _).mono (alloc_below w2 _).size)) (Nat.le_refl _) _)
      have B4 := Lib.hid (show Below w2.heap.size w2 W4 by
        rw [hW4]
        exact bel_setRow B3.out (Nat.le_succ _) _)
      have R4 := Lib.hid (show W4.heap[g4]? = some (.cells CK 24 (0, 0)) by
        rw [hW4, setRow_other _ _ _ _ (by omega), hW3, hg4]
        exact setRow_heap _ _ _ _ _ _ (row_two w2))
      have R5 := Lib.hid (show W4.heap[g4 + 1]? = some (.cells CF 48 (0, 0)) by
        rw [hW4, hg4]
        exact setRow_heap _ _ _ _ _ _ (by rw [hW3]; exact row_two2 w2))
      have BW4 := Lib.hid (show But b w W4 from (HBU.out.under HB2.out (Nat.le_refl _)).trans (But.below B4.out))
      have M4 := Lib.hid (show W4.heap[b]? = some (.map (ents true) 1) from (B4.out.block b (Array.getElem?_eq_some_iff.1 M2.out).1).trans M2.out)
      have IT4 := Lib.hid (show W4.heap[w.heap.size]? = some (.mapIter (some b) 1 #[0] 1) from (B4.out.block _ (Array.getElem?_eq_some_iff.1 HR2.out).1).trans HR2.out)
      have CL4 := Lib.hid (CLO.out W4 BW4.out)
      have ML := Lib.hid (left0 HR.out HM2.out)
      rw [← hg4]
      clear hW3 hW4 hg4 hen hza hzv
      cases q
      · go_wp2_with (first
          | (refine wpList_load_row rfl 24 (.tmp 4) rfl g4 rfl _ _ _ _ R4.out Try.underlying24 rfl IK.out ?_)
          | (refine wpList_load_row rfl 48 (.tmp 5) rfl (g4 + 1) rfl _ _ _ _ R5.out Try.underlying48 rfl IF.out ?_)
          | (refine CL4.out.mono ?_; rintro e w5 ⟨rfl, hb5⟩; have HB5 := Lib.hid hb5; clear hb5))
        go_roundw
        case rel =>
          exact ⟨BW4.out.trans (But.below HB5.out), .inr ⟨(HB5.out.block _ (Array.getElem?_eq_some_iff.1 IT4.out).1).trans IT4.out, (HB5.out.block _ (Array.getElem?_eq_some_iff.1 M4.out).1).trans M4.out⟩⟩
        case measure =>
          rw [ML.out, left1 (q := true) ((HB5.out.block _ (Array.getElem?_eq_some_iff.1 IT4.out).1).trans IT4.out) ((HB5.out.block _ (Array.getElem?_eq_some_iff.1 M4.out).1).trans M4.out)]
          decide
      · go_upto_region 4 with (first
          | (refine wpList_load_row rfl 24 (.tmp 4) rfl g4 rfl _ _ _ _ R4.out Try.underlying24 rfl IK.out ?_)
          | (refine wpList_load_row rfl 48 (.tmp 5) rfl (g4 + 1) rfl _ _ _ _ R5.out Try.underlying48 rfl IF.out ?_)
          | (refine CL4.out.mono ?_; rintro e w5 ⟨rfl, hb5⟩; have HB5 := Lib.hid hb5; clear hb5))
        have M5 := Lib.hid (show w5.heap[b]? = some (.map (ents true) 1) from (HB5.out.block _ (Array.getElem?_eq_some_iff.1 M4.out).1).trans M4.out)
        have R45 := Lib.hid (show w5.heap[g4]? = some (.cells CK 24 (0, 0)) from (HB5.out.block _ (lt_of_row R4.out)).trans R4.out)
        have IT5 := Lib.hid (show w5.heap[w.heap.size]? = some (.mapIter (some b) 1 #[0] 1) from (HB5.out.block _ (Array.getElem?_eq_some_iff.1 IT4.out).1).trans IT4.out)
        have BW5 := Lib.hid (show But b w w5 from BW4.out.trans (But.below HB5.out))
        go_wp2_with (first
          | (refine wpList_load_row rfl 24 (.tmp 4) rfl g4 rfl _ _ _ _ R45.out Try.underlying24 rfl IK.out ?_)
          | (refine wpList_delF rfl (.tmp 17) (.tmp 18) rfl rfl rfl HCK.out M5.out ?_; intro w6 hm6 hb6; have M6 := Lib.hid hm6; have BB6 := Lib.hid hb6; clear hm6 hb6))
        have IT6 := Lib.hid (show w6.heap[w.heap.size]? = some (.mapIter (some b) 1 #[0] 1) from (BB6.out.block _ (Array.getElem?_eq_some_iff.1 IT5.out).1 (by have := HBL.out; omega)).trans IT5.out)
        go_roundw
        case rel => exact ⟨_, _, _, _, _, _, _, _, _, _, _, _, _, ⟨BW5.out.trans BB6.out, .inr ⟨IT6.out, M6.out⟩⟩, rfl⟩
        case measure =>
          rw [ML.out, left1 (q := false) IT6.out M6.out]
          decide
/-! ### the time is told -/
set_option maxRecDepth 100000 in
theorem tell_low (w : World) (B t b : Nat) (n now : Int) (q : Bool) (c : Nat) (h : CC w B t b n q c) (hle : now ≤ n) : Calls Try.prog 15 #[.pointer (some ⟨t, 0, none⟩), .int .i64 now] w fun e w' => (∃ v, e = .returned v) ∧ Below w.heap.size w w' := by
  obtain ⟨W, hW⟩ : ∃ W, W = w.alloc (.cells #[.pointer (some ⟨t, 0, none⟩)] 31) := ⟨_, rfl⟩
  have HB := Lib.hid (show Below w.heap.size w W by rw [hW]; exact alloc_below _ _)
  have c0 : W.cell? ⟨w.heap.size, 0, none⟩ = some (.pointer (some ⟨t, 0, none⟩)) := by rw [hW, cell_new]; rfl
  have c1 := (h.below HB.out).now
  clear h
  go_enter Try.func15, Try.ntmps15
  go_upto_region 1 with fail
  rw [← hW]
  clear hW
  go_wp2_with go_skip
  refine bodyPost_ret (results_none rfl _ _ _) rfl ?_
  exact ⟨⟨_, rfl⟩, HB.out⟩
set_option maxRecDepth 100000 in
set_option maxHeartbeats 4000000 in
theorem tell_high (w : World) (B t b : Nat) (n now : Int) (q : Bool) (h : CC w B t b n true 1) (hB : B ≤ w.heap.size) (hlt : n < now) (hmx : now ≤ 1099511627776) (hq : decide (600000 ≤ now) = q) : Calls Try.prog 15 #[.pointer (some ⟨t, 0, none⟩), .int .i64 now] w fun e w' => (∃ v, e = .returned v) ∧ CC w' B t b now (!q) 1 ∧ Below B w w' ∧ (∀ g, g < w.heap.size → g ≠ t → g ≠ b → w'.heap[g]? = w.heap[g]?) := by
  obtain ⟨W, hW⟩ : ∃ W, W = w.alloc (.cells #[.pointer (some ⟨t, 0, none⟩)] 31) := ⟨_, rfl⟩
  obtain ⟨gc, hgc⟩ : ∃ g, g = w.heap.size := ⟨_, rfl⟩
  have HB := Lib.hid (show Below w.heap.size w W by rw [hW]; exact alloc_below _ _)
  have HT := Lib.hid (h.below HB.out)
  have RG := Lib.hid (show W.heap[gc]? = some (.cells #[.pointer (some ⟨t, 0, none⟩)] 31 (0, 0)) by rw [hW, hgc]; exact heap_alloc_new _ _)
  obtain ⟨W2, hW2⟩ : ∃ W2, W2 = W.setCell ⟨t, 2, none⟩ (.int .i64 now) := ⟨_, rfl⟩
  have NG := Lib.hid (show gc ≠ t ∧ gc ≠ b by have := h.lt; have := h.ltb; omega)
  have R2 := Lib.hid (show W2.heap[t]? = some (.cells #[.pointer (some ⟨t, 0, none⟩), .int .i64 1500, .int .i64 now, .map (some b)] 34 (0, 0)) by rw [hW2]; exact heap_setCell_same W _ 2 _ _ _ HT.out.row)
  have M2 := Lib.hid (show W2.heap[b]? = some (.map (ents true) 1) by rw [hW2]; exact (Below.heap_setCell _ _ _ _ (by show b ≠ t; exact HT.out.ne.symm)).trans HT.out.map)
  have G2 := Lib.hid (show W2.heap[gc]? = some (.cells #[.pointer (some ⟨t, 0, none⟩)] 31 (0, 0)) by rw [hW2]; exact (Below.heap_setCell _ _ _ _ (by show gc ≠ t; exact NG.out.1)).trans RG.out)
  have B2 := Lib.hid (show Below B w W2 by rw [hW2]; exact (HB.out.mono hB).setCell (p := ⟨t, 2, none⟩) h.bt _)
  have K2 := Lib.hid (show ∀ g, g < w.heap.size → g ≠ t → W2.heap[g]? = w.heap[g]? from fun g hg hn => by rw [hW2]; exact (Below.heap_setCell _ _ _ _ hn).trans (HB.out.block g hg))
  have S2 := Lib.hid (show w.heap.size ≤ W2.heap.size by rw [hW2]; simpa [World.setCell] using HB.out.size)
  have DF := Lib.hid (delf_any W2 b t gc now q hq M2.out (cell_of_row W2 gc 0 _ _ (0, 0) G2.out) (cell_of_row W2 t 2 _ _ (0, 0) R2.out) (lt_of_row G2.out) (lt_of_row R2.out) NG.out.2 HT.out.ne)
  have c0 : W.cell? ⟨gc, 0, none⟩ = some (.pointer (some ⟨t, 0, none⟩)) := cell_of_row W gc 0 _ _ (0, 0) RG.out
  have c1 := HT.out.now
  have f1 : W.frozen? ⟨t, 2, none⟩ = false := frozen_of_row W _ 2 _ _ HT.out.row
  have hle : ¬ now ≤ n := by omega
  have hgt : ¬ (1099511627776 : Int) < now := by omega
  have hmf : ∀ (fn : Fn) (first cap : Array Value) (w : World), (Instr.makeFunc fn first cap).run Try.prog w = .ok (.func fn first cap) w := fun _ _ _ _ => rfl
  have HBB := Lib.hid (show B ≤ t ∧ B ≤ b from ⟨h.bt, h.bb⟩)
  clear h hB hlt hmx hq
  go_enter Try.func15, Try.ntmps15
  go_upto_region 1 with fail
  rw [← hW, ← hgc]
  clear hW hgc
  go_upto_region 3 with go_skip
  rw [← hW2]
  clear hW2 c0 c1 f1 hle hgt
  have c0 : W2.cell? ⟨gc, 0, none⟩ = some (.pointer (some ⟨t, 0, none⟩)) := cell_of_row W2 gc 0 _ _ (0, 0) G2.out
  have c3 : W2.cell? ⟨t, 3, none⟩ = some (.map (some b)) := cell_of_row W2 t 3 _ _ (0, 0) R2.out
  go_wp2_with (first
    | (go_at_call 18; refine DF.out.mono ?_; rintro e w5 ⟨⟨v, rfl⟩, hm, hb⟩; have M5 := Lib.hid hm; have B5 := Lib.hid hb; clear hm hb))
  go_end0
  exact ⟨⟨_, rfl⟩, ⟨(B5.out.block t (lt_of_row R2.out) HT.out.ne).trans R2.out, M5.out, HBB.out.1, HBB.out.2⟩, B2.out.trans (B5.out.to_below HBB.out.2 (Nat.le_trans (by have := HT.out.lt; have := HBB.out.1; omega) (Nat.le_of_lt (lt_of_row R2.out)))), fun g hg h1 h2 => (B5.out.block g (Nat.lt_of_lt_of_le hg S2.out) h2).trans (K2.out g hg h1)⟩
end Go.Proofs.Ytljcekmiockdjaa.pmC
