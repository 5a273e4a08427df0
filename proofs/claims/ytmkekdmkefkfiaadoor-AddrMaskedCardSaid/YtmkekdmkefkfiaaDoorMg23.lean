/-
  1 texts of a proof, joined.
-/
import Derived.Test.YtmkekdmkefkfiaaDoorMg22
import Derived.Test.YtmkekdmkefkfiaaDoorMg10

/-
  The document's addresses: a text read.
-/
namespace Go.Proofs.YtmkekdmkefkfiaaDoor.adC
open Go.ChangeShapes Go.WideShapes Go.ChangeAt Go.RowKit
open Go.Proofs.YtmkekdmkefkfiaaDoor.memC Go.Proofs.YtmkekdmkefkfiaaDoor.genC Go.Proofs.YtmkekdmkefkfiaaDoor.butC Go.Proofs.YtmkekdmkefkfiaaDoor.freeC Go.Proofs.YtmkekdmkefkfiaaDoor.txC
set_option linter.unusedVariables false
/-- the address of a text, as the document reads it -/
def prsL (xs : List Int) : Option (Bool × List Int) :=
  if (splL 46 xs).length = 4 then (fourF (splL 46 xs) 0 (zs 16)).map (fun b => (false, b)) else (sixL xs).map (fun gs => (true, sixB gs))
set_option maxRecDepth 100000 in
set_option maxHeartbeats 4000000 in
theorem rparse_any (xs : List Int) (w : World) (hy : ∀ x ∈ xs, Byte x) (hn : xs.length ≤ 8000) :
    Calls Tryd.prog 18 #[.string (strOfNums xs)] w (PrsRet w (prsL xs)) := by
  have hzv := zeroAdr
  have Z0 := Lib.hid z_info; have Z1 := Lib.hid z_one; have Z2 := Lib.hid built_zero
  have hB0 : Below w.heap.size w (w.alloc (.cells zAdr 24)) := alloc_below _ _
  have hr0 : (w.alloc (.cells zAdr 24)).heap[w.heap.size]? = some (.cells zAdr 24 (0, 0)) := heap_alloc_new w _
  have SP := Lib.hid (split_any xs 46 (w.alloc (.cells zAdr 24)) hy (by decide) (by decide) (by omega))
  have SX := Lib.hid (fun w' => six_any xs w' hy hn)
  have HF' := Lib.hid (fun (s : Bool) (b : List Int) (h : b.length = 16) => And.intro (adr_info s h) (And.intro (z_size s h) (adrV_one s b)))
  have LB := Lib.hid (show ∀ l ∈ splL 46 xs, ∀ x ∈ l, Byte x from splL_byte 46 hy)
  have LS := Lib.hid (splL_pos 46 xs)
  have HB0 := Lib.hid hB0; have HR0 := Lib.hid hr0
  have ZG := Lib.hid (show adrV false (zs 16) = zAdr from rfl)
  obtain ⟨R, hR⟩ : ∃ R, R = prsL xs := ⟨_, rfl⟩
  rw [← hR]
  unfold prsL at hR
  generalize splL 46 xs = ls at *
  generalize hs6 : sixL xs = o6 at *
  generalize strOfNums xs = S0 at *
  have HRR := Lib.hid hR
  generalize hZ : zAdr = Z at *
  have HZ := Lib.hid hZ
  clear hy hB0 hr0 hR hs6
  go_enter Tryd.func18, Tryd.ntmps18
  go_upto_region 2 with (first
    | (go_at_call 28; (with_reducible refine SP.out.mono ?_); rintro e w1 ⟨A1, L, c1, rfl, hL, O1, B1⟩))
  have hLp : 0 < L := by have := LS.out; omega
  obtain ⟨g1, rfl, hg1, hg2, hcell, hfr⟩ := O1.row hL hLp
  have HB1 := Lib.hid (HB0.out.trans (B1.mono HB0.out.size))
  have HR1 := Lib.hid (show w1.heap[w.heap.size]? = some (.cells Z 24 (0, 0)) by rw [B1.block _ (lt_of_row HR0.out)]; exact HR0.out)
  have CL := Lib.hid (fun (j : Nat) (hj : j < L) (w' : World) (B : Below w1.heap.size w1 w') => (show w'.cell? ⟨g1, j, none⟩ = some (.string (strOfNums (ls.getD j []))) from (B.cell (p := ⟨g1, j, none⟩) hg2).trans (hcell j hj)))
  have HL := Lib.hid hL
  clear hL O1 B1 hcell hfr SP HB0 HR0
  by_cases h4 : L = 4
  · subst h4
    have DR := Lib.hid (fun (j : Nat) (hj : j < 4) => (show ls.drop j = ls.getD j [] :: ls.drop (j + 1) by
      rw [List.getD_eq_getElem?_getD, List.getElem?_eq_getElem (by rw [HL.out]; exact hj)]
      exact List.drop_eq_getElem_cons (by rw [HL.out]; exact hj)))
    have DE := Lib.hid (show ∀ j, 4 ≤ j → ls.drop j = [] from fun j hj => List.drop_eq_nil_of_le (by rw [HL.out]; exact hj))
    have MB := Lib.hid (fun (j : Nat) (hj : j < 4) => (show ls.getD j [] ∈ ls by
      rw [List.getD_eq_getElem?_getD, List.getElem?_eq_getElem (by rw [HL.out]; exact hj)]
      exact List.getElem_mem _))
    obtain ⟨R4, hR4⟩ : ∃ R4, R4 = fourF ls 0 (zs 16) := ⟨_, rfl⟩
    have HRN := Lib.hid (show R = R4.map (fun b => (false, b)) by rw [HRR.out, if_pos HL.out, hR4])
    have HR2 := Lib.hid (show fourF (ls.drop 0) 0 (zs 16) = R4 by rw [hR4]; rfl)
    have HF0 : Hid (FSt w w1.heap.size false (zs 16) (w1.alloc (.cells Z 24))) := Lib.hid
      ⟨HB1.out.trans ((alloc_below _ _).mono HB1.out.size), by rw [(alloc_below _ _).block _ (lt_of_row HR1.out), HZ.out]; exact HR1.out, by rw [ZG.out]; exact heap_alloc_new w1 _, lt_of_row HR1.out, zs_len 16⟩
    have HB2 := Lib.hid (show Below w1.heap.size w1 (w1.alloc (.cells Z 24)) from alloc_below _ _)
    clear hR4 SX
    go_upto_region 5 with fail
    obtain ⟨g, hgd⟩ : ∃ g, g = w1.heap.size := ⟨_, rfl⟩
    rw [← hgd] at HF0 ⊢
    have HGD := Lib.hid hgd
    generalize w1.alloc (.cells Z 24) = w2 at *
    clear hgd hLp
    go_wp2_with fail
    go_loopw [6] (fun iv wr => ∃ (i : Nat) (b : List Int), i ≤ 4 ∧ iv = .int .i64 i ∧ FSt w g false b wr ∧ fourF (ls.drop i) i b = R4 ∧ Below w1.heap.size w1 wr) (fun iv _ => 4 - (intOf iv).toNat)
    case atStart => exact ⟨0, zs 16, by omega, rfl, HF0.out, HR2.out, HB2.out⟩
    case round =>
      obtain ⟨i, b, hi, rfl, F, hf, Bw⟩ := hrel
      have HF := Lib.hid F
      have HV := Lib.hid hf
      have HB := Lib.hid Bw
      clear F hf
      by_cases hlt : i < 4
      · have cx := CL.out i hlt wr Bw
        have hz : (i : Int) < 4 := by omega
        have hiz : (i : Int) < 16 := by omega
        have hin : i < 16 := by omega
        have HGN := Lib.hid (show (if bofL (ls.getD i []) < 0 then none else fourF (ls.drop (i + 1)) (i + 1) (b.set i (bofL (ls.getD i [])))) = R4 by
          have h := HV.out
          rw [DR.out i hlt, fourF] at h; exact h)
        have GO := Lib.hid (byteOf_any (ls.getD i []) wr (LB.out _ (MB.out i hlt)))
        obtain ⟨bl, bh⟩ := bofL_le (ls.getD i [])
        by_cases hx : bofL (ls.getD i []) < 0
        · have HN := Lib.hid (show R4 = none by have h := HGN.out; rw [if_pos hx] at h; exact h.symm)
          generalize bofL (ls.getD i []) = x at *
          generalize strOfNums (ls.getD i []) = S1 at *
          clear Bw
          go_upto_region 10 with (first
            | (go_at_call 30; (with_reducible refine GO.out.mono ?_); rintro e w3 ⟨rfl, B3⟩
               have B3 := Lib.hid B3))
          have HF3 := Lib.hid (HF.out.below B3.out)
          have HS3 := Lib.hid (show w3.heap[w.heap.size]? = some (.cells Z 24 (0, 0)) by rw [← HZ.out]; exact HF3.out.res)
          go_wp2_with (first
            | (refine wpList_zero rfl 24 rfl Z Z2.out ?_)
            | (refine wpList_store_row rfl 24 (.tmp 2) (.tmp 28) rfl w.heap.size Z rfl rfl _ _ HS3.out Z0.out rfl Z1.out ?_))
          refine bodyPost_ret (v := .tuple #[.agg Z, .int .i64 3]) (results_cell_tmp Tryd.results18 _ _ w.heap.size _ _ _ _ _ (by rfl) (setRow_heap _ _ _ _ _ _ HS3.out) Tryd.underlying24 rfl Z0.out (by rfl)) rfl ?_
          rw [HRN.out, HN.out]
          exact ⟨by rw [← HZ.out]; rfl, HF3.out.bel.trans ⟨rfl, rfl, rfl, by simp, fun z hz => setRow_other _ _ _ _ (by omega)⟩⟩
        · have HN := Lib.hid (show fourF (ls.drop (i + 1)) (i + 1) (b.set i (bofL (ls.getD i []))) = R4 by have h := HGN.out; rwa [if_neg hx] at h)
          generalize bofL (ls.getD i []) = x at *
          generalize strOfNums (ls.getD i []) = S1 at *
          have hwx : IntKind.u8.wrap x = x := IntWalk.u8_in _ (by omega)
          clear Bw
          go_upto_region 11 with (first
            | (go_at_call 30; (with_reducible refine GO.out.mono ?_); rintro e w3 ⟨rfl, B3⟩
               have B3 := Lib.hid B3))
          have F3 := HF.out.below B3.out
          have hc := F3.cell hin
          have hfz := F3.frozen (1 + i)
          have HF4 := Lib.hid (F3.set i x)
          have HB4 := Lib.hid ((HB.out.trans (B3.out.mono HB.out.size)).setCell (p := ⟨g, 1 + i, none⟩) (by show w1.heap.size ≤ g; rw [HGD.out]; exact Nat.le_refl _) (.int .u8 x))
          clear F3
          go_upto_region 7 with fail
          clear hc hfz
          generalize w3.setCell ⟨g, 1 + i, none⟩ (.int .u8 x) = w4 at *
          go_wp2_with fail
          go_roundw
          case rel => exact ⟨i + 1, b.set i x, by omega, by go_num, HF4.out, HN.out, HB4.out⟩
          case measure => simp [intOf]; omega
      · have e : i = 4 := by omega
        subst e
        have HN := Lib.hid (show R4 = some b by have h := HV.out; rw [DE.out 4 (Nat.le_refl _)] at h; exact h.symm)
        have HFb := Lib.hid (HF.out.len)
        have HS3 := Lib.hid (show wr.heap[w.heap.size]? = some (.cells Z 24 (0, 0)) by rw [← HZ.out]; exact HF.out.res)
        clear Bw
        go_wp2_with (first
          | (refine wpList_load_row rfl 24 (.tmp 5) rfl g rfl _ _ _ _ HF.out.row Tryd.underlying24 rfl (HF'.out false b HFb.out).1 ?_)
          | (refine wpList_store_row rfl 24 (.tmp 2) (.tmp 34) rfl w.heap.size (adrV false b) rfl rfl _ _ HS3.out (HF'.out false b HFb.out).1 (HF'.out false b HFb.out).2.1 (HF'.out false b HFb.out).2.2 ?_))
        refine bodyPost_ret (v := .tuple #[.agg (adrV false b), .int .i64 0]) (results_cell_tmp Tryd.results18 _ _ w.heap.size _ _ _ _ _ (by rfl) (setRow_heap _ _ _ _ _ _ HS3.out) Tryd.underlying24 rfl (HF'.out false b HFb.out).1 (by rfl)) rfl ?_
        rw [HRN.out, HN.out]
        exact ⟨rfl, HF.out.bel.trans ⟨rfl, rfl, rfl, by simp, fun z hz => setRow_other _ _ _ _ (by omega)⟩⟩
  · have HRN := Lib.hid (show R = o6.map (fun gs => (true, sixB gs)) by rw [HRR.out, if_neg (by rw [HL.out]; exact h4)])
    have hz : ((L : Int) != 4) = true := by simp; omega
    have hz2 : ((L : Int) == 4) = false := by simp; omega
    cases o6 with
    | none =>
      have S6 : Hid (∀ w', Calls Tryd.prog 29 #[.string S0] w' fun e w'' => e = .returned (.tuple #[.agg Z, .int .i64 3]) ∧ Below w'.heap.size w' w'') := Lib.hid fun w' => by have h := SX.out w'; rw [← HZ.out]; exact h
      go_wp2_with (first
        | (go_at_call 29; (refine (S6.out _).mono ?_); rintro e w3 ⟨rfl, B3⟩
           have HB3 := Lib.hid (HB1.out.trans (B3.mono HB1.out.size))
           have HR3 := Lib.hid (show w3.heap[w.heap.size]? = some (.cells Z 24 (0, 0)) by rw [B3.block _ (lt_of_row HR1.out)]; exact HR1.out)
           clear B3)
        | (refine wpList_store_row rfl 24 (.tmp 2) (.tmp 15) rfl w.heap.size Z rfl rfl _ _ HR3.out Z0.out rfl Z1.out ?_))
      refine bodyPost_ret (v := .tuple #[.agg Z, .int .i64 3]) (results_cell_tmp Tryd.results18 _ _ w.heap.size _ _ _ _ _ (by rfl) (setRow_heap _ _ _ _ _ _ HR3.out) Tryd.underlying24 rfl Z0.out (by rfl)) rfl ?_
      rw [HRN.out]
      exact ⟨by rw [← HZ.out]; rfl, HB3.out.trans ⟨rfl, rfl, rfl, by simp, fun z hz => setRow_other _ _ _ _ (by omega)⟩⟩
    | some gs =>
      have S6 : Hid (∀ w', Calls Tryd.prog 29 #[.string S0] w' fun e w'' => e = .returned (.tuple #[.agg (adrV true (sixB gs)), .int .i64 0]) ∧ Below w'.heap.size w' w'') := Lib.hid fun w' => SX.out w'
      have U := Lib.hid (HF'.out true (sixB gs) (sixB_len gs))
      generalize hT : adrV true (sixB gs) = T at *
      have HT := Lib.hid hT
      clear hT
      go_wp2_with (first
        | (go_at_call 29; (refine (S6.out _).mono ?_); rintro e w3 ⟨rfl, B3⟩
           have HB3 := Lib.hid (HB1.out.trans (B3.mono HB1.out.size))
           have HR3 := Lib.hid (show w3.heap[w.heap.size]? = some (.cells Z 24 (0, 0)) by rw [B3.block _ (lt_of_row HR1.out)]; exact HR1.out)
           clear B3)
        | (refine wpList_store_row rfl 24 (.tmp 2) (.tmp 15) rfl w.heap.size T rfl rfl _ _ HR3.out U.out.1 U.out.2.1 U.out.2.2 ?_))
      refine bodyPost_ret (v := .tuple #[.agg T, .int .i64 0]) (results_cell_tmp Tryd.results18 _ _ w.heap.size _ _ _ _ _ (by rfl) (setRow_heap _ _ _ _ _ _ HR3.out) Tryd.underlying24 rfl U.out.1 (by rfl)) rfl ?_
      rw [HRN.out]
      exact ⟨by rw [← HT.out]; rfl, HB3.out.trans ⟨rfl, rfl, rfl, by simp, fun z hz => setRow_other _ _ _ _ (by omega)⟩⟩
end Go.Proofs.YtmkekdmkefkfiaaDoor.adC
