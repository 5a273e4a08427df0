/-
  10 texts of a proof, joined.
-/
import Derived.Test.YtmedccfekfnmlaaMg16
import Derived.Test.YtmedccfekfnmlaaMg17
import Derived.Test.YtmedccfekfnmlaaMg12
import Derived.Test.YtmedccfekfnmlaaMg1
import Derived.Test.YtmedccfekfnmlaaMg14
import Derived.Test.YtmedccfekfnmlaaMg2
import Derived.Test.YtmedccfekfnmlaaMg3
import Derived.Test.YtmedccfekfnmlaaMg10
import Derived.Deep.Matrix
import Derived.Laws.StructEq
import Derived.ChangeKeysEq
import Derived.Test.YtmedccfekfnmlaaMg4
import Derived.Great.BuildSlice
import Derived.Deep.CutRange
import Derived.StillTactics
import Derived.StillTailTactics
import Derived.Deep.LoopGhost
import Derived.Deep.WholeRow
import Derived.Deep.RegionWith
import Derived.RegionTactic
import Derived.Laws.CopyOwn

/-
  The packet with which a reader begins: the program's read.
-/
namespace Go.Proofs.Ytmedccfekfnmlaa.pkC
open Go.ChangeShapes Go.WideShapes Go.ChangeAt Go.RowKit
open Go.Proofs.Ytmedccfekfnmlaa.memC Go.Proofs.Ytmedccfekfnmlaa.genC Go.Proofs.Ytmedccfekfnmlaa.butC Go.Proofs.Ytmedccfekfnmlaa.freeC Go.Proofs.Ytmedccfekfnmlaa.adC
set_option linter.unusedVariables false
/-- a reading that stops; a packet and an error -/
def RdR (w : World) (p : Nat) (bs : List Int) (e : Ending) (w' : World) : Prop :=
  (psE bs = 4 ∧ e = octC.stopped ∧ octC.Fr (· = p) w w') ∨
  (psE bs ≠ 4 ∧ ∃ A n c, e = .returned (.tuple #[.agg (pktV (psP bs) A n c), .int .i64 (psE bs)]) ∧ Own .u8 5 w' w.heap.size (.slice A n c) (psX bs) ∧ octC.Fr (· = p) w w')
theorem rd_err {w w' : World} {p : Nat} {bs : List Int} {k : Int} {Z : Array Value} (hZ : Z = pktV zPkt none 0 0) (hk : psE bs = k) (h0 : k ≠ 0) (h4 : k ≠ 4) (F : octC.Fr (· = p) w w') : RdR w p bs (.returned (.tuple #[.agg Z, .int .i64 k])) w' := by
  subst hk
  refine .inr ⟨h4, none, 0, 0, ?_, ?_, F⟩
  · unfold psP
    rw [if_neg h0, hZ]
  · unfold psX
    rw [if_neg h0]
    exact Own.nil _ _
theorem rd_ok {w w' : World} {p : Nat} {bs : List Int} {C : Array Value} {A : Option Addr} {n c : Nat} (hk : psE bs = 0) (hC : C = pktV (pkOf bs) A n c) (O : Own .u8 5 w' w.heap.size (.slice A n c) (ldOf bs)) (F : octC.Fr (· = p) w w') : RdR w p bs (.returned (.tuple #[.agg C, .int .i64 0])) w' := by
  refine .inr ⟨by rw [hk]; decide, A, n, c, ?_, ?_, F⟩
  · unfold psP
    rw [if_pos hk, hk, hC]
  · unfold psX
    rw [if_pos hk]
    exact O
theorem psE_0 {bs : List Int} (h1 : bs.length < 20) : psE bs = 4 := by unfold psE; rw [if_pos h1]
theorem psE_1 {bs : List Int} (h1 : ¬ bs.length < 20) (h2 : ¬ bs.getD 0 0 / 16 = 4) : psE bs = 11 := by unfold psE; rw [if_neg h1, if_pos h2]
theorem psE_2 {bs : List Int} (h1 : ¬ bs.length < 20) (h2 : bs.getD 0 0 / 16 = 4) (h3 : hdN bs < 20) : psE bs = 3 := by unfold psE; rw [if_neg h1, if_neg (fun h => h h2), if_pos h3]
theorem psE_3 {bs : List Int} (h1 : ¬ bs.length < 20) (h2 : bs.getD 0 0 / 16 = 4) (h3 : ¬ hdN bs < 20) (h4 : bs.length < hdN bs) : psE bs = 4 := by unfold psE; rw [if_neg h1, if_neg (fun h => h h2), if_neg h3, if_pos h4]
theorem psE_4 {bs : List Int} (h1 : ¬ bs.length < 20) (h2 : bs.getD 0 0 / 16 = 4) (h3 : ¬ hdN bs < 20) (h4 : ¬ bs.length < hdN bs) (h5 : ¬ chkM.fo (chkM.wsum (bs.take (hdN bs))) = 65535) : psE bs = 8 := by
  unfold psE; rw [if_neg h1, if_neg (fun h => h h2), if_neg h3, if_neg h4, if_pos h5]
theorem psE_5 {bs : List Int} (h1 : ¬ bs.length < 20) (h2 : bs.getD 0 0 / 16 = 4) (h3 : ¬ hdN bs < 20) (h4 : ¬ bs.length < hdN bs) (h5 : chkM.fo (chkM.wsum (bs.take (hdN bs))) = 65535) (h6 : allN bs < hdN bs) : psE bs = 3 := by
  unfold psE; rw [if_neg h1, if_neg (fun h => h h2), if_neg h3, if_neg h4, if_neg (fun h => h h5), if_pos h6]
theorem psE_6 {bs : List Int} (h1 : ¬ bs.length < 20) (h2 : bs.getD 0 0 / 16 = 4) (h3 : ¬ hdN bs < 20) (h4 : ¬ bs.length < hdN bs) (h5 : chkM.fo (chkM.wsum (bs.take (hdN bs))) = 65535) (h6 : ¬ allN bs < hdN bs) (h7 : bs.length < allN bs) : psE bs = 4 := by
  unfold psE; rw [if_neg h1, if_neg (fun h => h h2), if_neg h3, if_neg h4, if_neg (fun h => h h5), if_neg h6, if_pos h7]
theorem psE_7 {bs : List Int} (h1 : ¬ bs.length < 20) (h2 : bs.getD 0 0 / 16 = 4) (h3 : ¬ hdN bs < 20) (h4 : ¬ bs.length < hdN bs) (h5 : chkM.fo (chkM.wsum (bs.take (hdN bs))) = 65535) (h6 : ¬ allN bs < hdN bs) (h7 : ¬ bs.length < allN bs)
    (h8 : 32768 ≤ w2 bs 6 ∨ mayB (pkOf bs) (allN bs - hdN bs) = false) : psE bs = 3 := by
  unfold psE; rw [if_neg h1, if_neg (fun h => h h2), if_neg h3, if_neg h4, if_neg (fun h => h h5), if_neg h6, if_neg h7, if_pos h8]
theorem psE_8 {bs : List Int} (h1 : ¬ bs.length < 20) (h2 : bs.getD 0 0 / 16 = 4) (h3 : ¬ hdN bs < 20) (h4 : ¬ bs.length < hdN bs) (h5 : chkM.fo (chkM.wsum (bs.take (hdN bs))) = 65535) (h6 : ¬ allN bs < hdN bs) (h7 : ¬ bs.length < allN bs)
    (h8 : ¬ (32768 ≤ w2 bs 6 ∨ mayB (pkOf bs) (allN bs - hdN bs) = false)) : psE bs = 0 := by
  unfold psE; rw [if_neg h1, if_neg (fun h => h h2), if_neg h3, if_neg h4, if_neg (fun h => h h5), if_neg h6, if_neg h7, if_neg h8]
theorem getD_take {bs : List Int} {n k : Nat} (h : k < n) : (bs.take n).getD k 0 = bs.getD k 0 := by
  rw [List.getD_eq_getElem?_getD, List.getD_eq_getElem?_getD, List.getElem?_take_of_lt h]
theorem w2_take {bs : List Int} {n k : Nat} (h : k + 1 < n) : w2 (bs.take n) k = w2 bs k := by
  unfold w2
  rw [getD_take (by omega), getD_take h]
theorem pkOf_take {bs : List Int} (h : 20 ≤ bs.length) : pkOf (bs.take 20) = pkOf bs := by
  have e : 20 ≤ (bs.take 20).length := by rw [List.length_take]; omega
  rw [pk_head e, pk_head h, w2_take (by decide), w2_take (by decide)]
  repeat rw [getD_take (by decide)]
theorem sum_parts {bs : List Int} {k : Nat} (h : 20 ≤ k) (hl : 20 ≤ bs.length) : chkM.wsum (bs.take 20) + chkM.wsum ((bs.drop 20).take (k - 20)) = chkM.wsum (bs.take k) := by
  rw [← chkM.wsum_append _ _ (by rw [List.length_take]; omega), ← List.take_add]
  congr 2
  omega
theorem ld_parts {bs : List Int} {k m : Nat} (h : 20 ≤ k) : ((bs.drop 20).drop (k - 20)).take (m - k) = (bs.take m).drop k := by
  rw [List.drop_drop, List.drop_take]
  congr 2
  omega
theorem zpk_built : Try.prog.built 28 [] = some (pktV zPkt none 0 0) := by kernel_rfl
set_option maxRecDepth 100000 in
set_option maxHeartbeats 4000000 in
theorem read_any (p : Nat) (bs : List Int) (w : World) (h : octC.Rd w p bs) (hy : ∀ x ∈ bs, Byte x) (hn : bs.length ≤ 9000) :
    Calls Try.prog 29 #[.pointer (some ⟨p, 0, none⟩)] w (RdR w p bs) := by
  have hzv := zeroPkt
  have hpw : p < w.heap.size := h.choose_spec.choose_spec.choose_spec.2.2.1
  have hne := Lib.hid (show ¬ w.heap.size = p by omega)
  have R0' := Lib.hid (show (w.alloc (.cells (pktV zPkt none 0 0) 28)).heap[w.heap.size]? = some (.cells (pktV zPkt none 0 0) 28 (0, 0)) from heap_alloc_new w _)
  have HB := Lib.hid (alloc_below w (.cells (pktV zPkt none 0 0) 28))
  have RW := Lib.hid (h.below HB.out)
  have FW := Lib.hid (octC.Fr.below (S := (· = p)) HB.out)
  have sz : (w.alloc (.cells (pktV zPkt none 0 0) 28)).heap.size = w.heap.size + 1 := alloc_size _ _
  have UZ := Lib.hid (pkC zPkt_ok none 0 0).info
  have OZ := Lib.hid (pkt_one zPkt none 0 0)
  have BZ := Lib.hid zpk_built
  obtain ⟨Z, hZ⟩ : ∃ Z, Z = pktV zPkt none 0 0 := ⟨_, rfl⟩
  have EZ := Lib.hid hZ
  rw [← hZ] at hzv R0' HB RW FW sz UZ OZ BZ
  have HP := Lib.hid hpw
  have HN := Lib.hid hn
  have HY := Lib.hid hy
  clear h hn hy hZ hpw
  go_enter Try.func29, Try.ntmps29
  go_upto_region 1 with fail
  generalize hW : w.alloc (.cells Z 28) = W at *
  have SZ := Lib.hid sz
  clear hW sz
  by_cases c1 : bs.length < 20
  · have T := Lib.hid (octC.bytes_stop p bs 20 20 W RW.out rfl c1)
    have E := Lib.hid (psE_0 c1)
    clear c1
    go_wp2_with (first
      | (go_at_call 45; (refine T.out.mono ?_); rintro e w' ⟨he, rfl⟩; rw [octC.stopped_eq] at he; subst he))
    exact ⟨rfl, .inl ⟨E.out, rfl, FW.out⟩⟩
  have C1 := Lib.hid c1
  have T := Lib.hid (octC.bytes_ok p bs 20 20 W RW.out rfl (by omega) (by have := HN.out; omega))
  go_upto_region 2 with (first
    | (go_at_call 45; (refine T.out.mono ?_); rintro e v1 ⟨A1, d1, rfl, O, g1, g2, R, F⟩))
  have R1 := Lib.hid R
  have F1 := Lib.hid (FW.out.trans F)
  have O1 := Lib.hid O
  have K1 := Lib.hid (show W.heap.size ≤ v1.heap.size from F.size)
  have G1 := Lib.hid g1
  have G2 := Lib.hid g2
  have Rw1 := Lib.hid (F.row R0'.out hne.out)
  clear R F O g1 g2 T c1 RW FW
  obtain ⟨b, o, rfl, hbl, hcell⟩ := (O1.out.nums).at_ (by decide)
  have k0 : v1.cell? ⟨b, o, none⟩ = some (.int .u8 ((bs.take 20).getD 0 0)) := hcell 0 (by decide)
  rw [getD_take (by decide)] at k0
  clear hcell hbl
  have hb0 := getD_bytes HY.out 0
  unfold Byte at hb0
  obtain ⟨b0, hb0e⟩ : ∃ b0, b0 = bs.getD 0 0 := ⟨_, rfl⟩
  have EB := Lib.hid hb0e
  rw [← hb0e] at k0 hb0
  obtain ⟨hb1, hb2⟩ := hb0
  clear hb0e
  by_cases c2 : b0 / 16 = 4
  rotate_left
  · have hq : (b0 / 16 == 4) = false := beq_eq_false_iff_ne.2 c2
    have E := Lib.hid (psE_1 C1.out (by rw [← EB.out]; exact c2))
    clear c2
    go_wp2_with (first
      | (refine wpList_zero rfl 28 rfl Z BZ.out ?_)
      | (refine wpList_store_row rfl 28 (.tmp 2) (.tmp 17) rfl w.heap.size _ rfl rfl _ _ Rw1.out UZ.out rfl OZ.out ?_))
    refine bodyPost_ret (v := .tuple #[.agg Z, .int .i64 11]) (adC.results_cell_tmp Try.results29 _ _ w.heap.size _ _ _ _ _ (by rfl) (setRow_heap _ _ _ _ _ _ Rw1.out) Try.underlying28 rfl UZ.out (by rfl)) rfl ?_
    exact rd_err EZ.out E.out (by decide) (by decide) ((F1.out).setRow (Nat.le_refl _) _)
  go_upto_region 4 with fail
  have C2 := Lib.hid c2
  have a15 := Go.u8_and15 (x := b0) hb1 (by omega)
  obtain ⟨y, hy⟩ : ∃ y, y = b0 % 16 := ⟨_, rfl⟩
  obtain ⟨hN, hhN⟩ : ∃ h, h = hdN bs := ⟨_, rfl⟩
  have EN := Lib.hid hhN.symm
  have y0 : 0 ≤ y := by omega
  have y1 : y ≤ 15 := by omega
  have ey : 4 * y = (hN : Int) := by rw [hhN]; unfold hdN; rw [← EB.out]; omega
  have wy : IntKind.i64.wrap y = y := IntWalk.i64_in _ (by omega)
  have wh : IntKind.i64.wrap (hN : Int) = (hN : Int) := IntWalk.i64_in _ (by omega)
  rw [← hy] at a15
  have HE : hN ≤ 60 := by omega
  clear hy hhN c2
  go_upto_region 5 with fail
  clear ey wy wh a15 y0 y1
  by_cases c3 : hN < 20
  · have q3 : (hN : Int) < 20 := by omega
    have E := Lib.hid (psE_2 C1.out (by rw [← EB.out]; exact C2.out) (by rw [EN.out]; exact c3))
    clear c3
    go_wp2_with (first
      | (refine wpList_zero rfl 28 rfl Z BZ.out ?_)
      | (refine wpList_store_row rfl 28 (.tmp 2) (.tmp 26) rfl w.heap.size _ rfl rfl _ _ Rw1.out UZ.out rfl OZ.out ?_))
    refine bodyPost_ret (v := .tuple #[.agg Z, .int .i64 3]) (adC.results_cell_tmp Try.results29 _ _ w.heap.size _ _ _ _ _ (by rfl) (setRow_heap _ _ _ _ _ _ Rw1.out) Try.underlying28 rfl UZ.out (by rfl)) rfl ?_
    exact rd_err EZ.out E.out (by decide) (by decide) ((F1.out).setRow (Nat.le_refl _) _)
  have q3 : ¬ (hN : Int) < 20 := by omega
  have d3 : decide ((hN : Int) < 20) = false := decide_eq_false q3
  have C3 := Lib.hid c3
  go_upto_region 7 with fail
  obtain ⟨s6, hs6⟩ : ∃ s, s = hN - 20 := ⟨_, rfl⟩
  have e6 : (hN : Int) - 20 = (s6 : Int) := by omega
  have w6 : IntKind.i64.wrap (s6 : Int) = (s6 : Int) := IntWalk.i64_in _ (by omega)
  have S6 := Lib.hid hs6
  clear hs6 q3 d3 c3
  by_cases c4 : bs.length < hN
  · have T := Lib.hid (octC.bytes_stop p (bs.drop 20) s6 s6 v1 R1.out rfl (by rw [List.length_drop]; have := S6.out; have := C1.out; omega))
    have E := Lib.hid (psE_3 C1.out (by rw [← EB.out]; exact C2.out) (by rw [EN.out]; exact C3.out) (by rw [EN.out]; exact c4))
    clear c4
    go_wp2_with (first
      | (go_at_call 45; (refine T.out.mono ?_); rintro e w' ⟨he, rfl⟩; rw [octC.stopped_eq] at he; subst he))
    exact ⟨rfl, .inl ⟨E.out, rfl, F1.out⟩⟩
  have T := Lib.hid (octC.bytes_ok p (bs.drop 20) s6 s6 v1 R1.out rfl (by rw [List.length_drop]; have := S6.out; omega) (by rw [List.length_drop]; have := HN.out; omega))
  have C4 := Lib.hid c4
  clear c4
  go_upto_region 8 with (first
    | (go_at_call 45; (refine T.out.mono ?_); rintro e v2 ⟨A2, d2, rfl, O, g1, g2, R, F⟩))
  have R2 := Lib.hid R
  have F2 := Lib.hid (F1.out.trans F)
  have O2 := Lib.hid (F.own (Nat.lt_of_lt_of_le HP.out HB.out.size) O1.out)
  have P1 := Lib.hid (show chkC.PartAt v2 v2.heap.size ⟨some ⟨b, o, none⟩, 20, d1, bs.take 20⟩ from ⟨O2.out.nums, (show 20 ≤ 10000 by decide), fun x hx => HY.out x (List.mem_of_mem_take hx)⟩)
  have P2 := Lib.hid (show chkC.PartAt v2 v2.heap.size ⟨A2, s6, d2, (bs.drop 20).take s6⟩ from ⟨O.nums, (show s6 ≤ 10000 by have := S6.out; omega), fun x hx => HY.out x (List.mem_of_mem_drop (List.mem_of_mem_take hx))⟩)
  have SS := Lib.hid (chkC.sum2_on (f := chkM.fo (chkM.wsum (bs.take (hdN bs)))) (Below.refl _ _) P1.out P2.out (by rw [S6.out, EN.out, sum_parts (by have := C3.out; omega) (by have := C1.out; omega)]))
  have K2 := Lib.hid (show W.heap.size ≤ v2.heap.size from Nat.le_trans K1.out F.size)
  have Rw2 := Lib.hid (F.row Rw1.out hne.out)
  have k0 : v2.heap.size = v2.heap.size := rfl
  clear R F O g1 g2 T R1 F1 O1 K1 Rw1 P1 P2 e6 w6 k0
  obtain ⟨f, hf⟩ : ∃ f, f = chkM.fo (chkM.wsum (bs.take (hdN bs))) := ⟨_, rfl⟩
  have EF := Lib.hid hf
  rw [← hf] at SS
  clear hf
  by_cases c5 : f = 65535
  rotate_left
  · have hq : (f == 65535) = false := beq_eq_false_iff_ne.2 c5
    have E := Lib.hid (psE_4 C1.out (by rw [← EB.out]; exact C2.out) (by rw [EN.out]; exact C3.out) (by rw [EN.out]; exact C4.out) (by rw [← EF.out]; exact c5))
    clear c5
    go_wp2_with (first
      | (go_at_call 38; (refine SS.out.mono ?_); rintro e v3 ⟨rfl, BB⟩
         have F3 := Lib.hid (F2.out.trans (octC.Fr.below BB))
         have Rw3 := Lib.hid ((octC.Fr.below (S := (· = p)) BB).row Rw2.out hne.out)
         clear BB)
      | (refine wpList_zero rfl 28 rfl Z BZ.out ?_)
      | (refine wpList_store_row rfl 28 (.tmp 2) (.tmp 36) rfl w.heap.size _ rfl rfl _ _ Rw3.out UZ.out rfl OZ.out ?_))
    refine bodyPost_ret (v := .tuple #[.agg Z, .int .i64 8]) (adC.results_cell_tmp Try.results29 _ _ w.heap.size _ _ _ _ _ (by rfl) (setRow_heap _ _ _ _ _ _ Rw3.out) Try.underlying28 rfl UZ.out (by rfl)) rfl ?_
    exact rd_err EZ.out E.out (by decide) (by decide) ((F3.out).setRow (Nat.le_refl _) _)
  subst c5
  have C5 := Lib.hid EF.out.symm
  clear EF
  go_upto_region 10 with (first
    | (go_at_call 38; (refine SS.out.mono ?_); rintro e v3 ⟨rfl, BB⟩
       have F3 := Lib.hid (F2.out.trans (octC.Fr.below BB))
       have Rw3 := Lib.hid ((octC.Fr.below (S := (· = p)) BB).row Rw2.out hne.out)
       have R3 := Lib.hid (R2.out.below BB)
       have O3 := Lib.hid (O2.out.below BB)
       have K3 := Lib.hid (Nat.le_trans K2.out BB.size)
       clear BB))
  clear SS R2 F2 O2 K2 Rw2
  have NA := Lib.hid (number_any (some ⟨b, o, none⟩) 20 d1 2 2 (bs.take 20) v3 O3.out.nums (fun x hx => HY.out x (List.mem_of_mem_take hx)) rfl (by decide) G1.out (by have := G2.out; unfold maxLen at this; omega))
  rw [w2_take (by decide)] at NA
  obtain ⟨aN, haN⟩ : ∃ a, a = allN bs := ⟨_, rfl⟩
  obtain ⟨wb0, wb1⟩ := w2_byte HY.out 2
  have ea : w2 bs 2 = (aN : Int) := by rw [haN]; unfold allN; omega
  rw [ea] at NA wb1
  have EA := Lib.hid haN.symm
  have wa : IntKind.i64.wrap (aN : Int) = (aN : Int) := IntWalk.i64_in _ (by omega)
  clear haN ea wb0
  go_upto_region 11 with (first
    | (go_at_call 34; (refine NA.out.mono ?_); rintro e w' ⟨rfl, rfl⟩))
  clear NA wa
  by_cases c6 : aN < hN
  · have q6 : (aN : Int) < (hN : Int) := by omega
    have E := Lib.hid (psE_5 C1.out (by rw [← EB.out]; exact C2.out) (by rw [EN.out]; exact C3.out) (by rw [EN.out]; exact C4.out) C5.out (by rw [EN.out, EA.out]; exact c6))
    clear c6
    go_wp2_with (first
      | (refine wpList_zero rfl 28 rfl Z BZ.out ?_)
      | (refine wpList_store_row rfl 28 (.tmp 2) (.tmp 43) rfl w.heap.size _ rfl rfl _ _ Rw3.out UZ.out rfl OZ.out ?_))
    refine bodyPost_ret (v := .tuple #[.agg Z, .int .i64 3]) (adC.results_cell_tmp Try.results29 _ _ w.heap.size _ _ _ _ _ (by rfl) (setRow_heap _ _ _ _ _ _ Rw3.out) Try.underlying28 rfl UZ.out (by rfl)) rfl ?_
    exact rd_err EZ.out E.out (by decide) (by decide) ((F3.out).setRow (Nat.le_refl _) _)
  have q6 : ¬ (aN : Int) < (hN : Int) := by omega
  have d6 : decide ((aN : Int) < (hN : Int)) = false := decide_eq_false q6
  have C6 := Lib.hid c6
  go_upto_region 13 with fail
  obtain ⟨s7, hs7⟩ : ∃ s, s = aN - hN := ⟨_, rfl⟩
  have e7 : (aN : Int) - (hN : Int) = (s7 : Int) := by omega
  have w7 : IntKind.i64.wrap (s7 : Int) = (s7 : Int) := IntWalk.i64_in _ (by omega)
  have S7 := Lib.hid hs7
  clear hs7 q6 d6 c6
  have LL := Lib.hid (show ((bs.drop 20).drop s6).length = bs.length - hN by rw [List.length_drop, List.length_drop]; have := S6.out; have := C3.out; omega)
  by_cases c7 : bs.length < aN
  · have T := Lib.hid (octC.bytes_stop p ((bs.drop 20).drop s6) s7 s7 v3 R3.out rfl (by rw [LL.out]; have := S7.out; have := C4.out; omega))
    have E := Lib.hid (psE_6 C1.out (by rw [← EB.out]; exact C2.out) (by rw [EN.out]; exact C3.out) (by rw [EN.out]; exact C4.out) C5.out (by rw [EN.out, EA.out]; exact C6.out) (by rw [EA.out]; exact c7))
    clear c7
    go_wp2_with (first
      | (go_at_call 45; (refine T.out.mono ?_); rintro e w' ⟨he, rfl⟩; rw [octC.stopped_eq] at he; subst he))
    exact ⟨rfl, .inl ⟨E.out, rfl, F3.out⟩⟩
  have T := Lib.hid (octC.bytes_ok p ((bs.drop 20).drop s6) s7 s7 v3 R3.out rfl (by rw [LL.out]; have := S7.out; omega) (by rw [LL.out]; have := HN.out; omega))
  have C7 := Lib.hid c7
  have hn7 : s7 ≤ 9000 := by have := S7.out; have := HN.out; omega
  have PO := Lib.hid (pkOf_ok (bs := bs.take 20) (fun x hx => HY.out x (List.mem_of_mem_take hx)) (by rw [List.length_take]; have := C1.out; omega))
  have PT := Lib.hid (pkOf_take (bs := bs) (by have := C1.out; omega))
  have H7 := Lib.hid hn7
  clear c7 e7 hn7
  have e7 : (aN : Int) - (hN : Int) = (s7 : Int) := by have := S7.out; have := C6.out; omega
  obtain ⟨fl, hfl⟩ : ∃ q, q = decide (w2 bs 6 < 32768) := ⟨_, rfl⟩
  obtain ⟨my, hmy⟩ : ∃ q, q = mayB (pkOf bs) s7 := ⟨_, rfl⟩
  have EFL := Lib.hid hfl
  have EMY := Lib.hid hmy
  clear hfl hmy
  go_upto_region 14 with (first
    | (go_at_call 45; (refine T.out.mono ?_); rintro e v4 ⟨A4, d4, rfl, O, g1, g2, R, F⟩
       have F4 := Lib.hid (F3.out.trans F)
       have O4 := Lib.hid (F.own (Nat.lt_of_lt_of_le HP.out HB.out.size) O3.out)
       have L4 := Lib.hid O
       have K4 := Lib.hid (show v3.heap.size ≤ v4.heap.size from F.size)
       have Rw4 := Lib.hid (F.row Rw3.out hne.out)
       have PA := Lib.hid (packet_any (some ⟨b, o, none⟩) d1 (bs.take 20) A4 s7 d4 v4 O4.out.nums (fun x hx => HY.out x (List.mem_of_mem_take hx)) G1.out (by have := G2.out; unfold maxLen at this; omega))
       have UP := Lib.hid (pkC PO.out A4 s7 d4).info
       have SP := Lib.hid (show Z.size = (pktV (pkOf (bs.take 20)) A4 s7 d4).size by rw [EZ.out]; exact (pkC zPkt_ok none 0 0).size.trans (pkC PO.out A4 s7 d4).size.symm)
       have OP := Lib.hid (pkt_one (pkOf (bs.take 20)) A4 s7 d4)
       have MM := Lib.hid (fun w' => cmay_pkt (pkOf (bs.take 20)) A4 s7 d4 w' PO.out (by have := H7.out; omega))
       unfold PcR at PA
       rw [w2_take (by decide), ← EFL.out] at PA
       rw [PT.out, ← EMY.out] at MM
       rw [PT.out] at PA UP SP OP
       obtain ⟨PK, hPK⟩ : ∃ PK, PK = pktV (pkOf bs) A4 s7 d4 := ⟨_, rfl⟩
       rw [← hPK] at PA UP SP OP MM
       have EP := Lib.hid hPK
       clear R F O g1 g2 hPK)
    | (go_at_call 46; (refine PA.out.mono ?_); rintro e v5 ⟨rfl, BB⟩
       have B5 := Lib.hid BB
       have RN := Lib.hid (show (v5.alloc (.cells Z 28)).heap[v5.heap.size]? = some (.cells Z 28 (0, 0)) from heap_alloc_new v5 _)
       clear BB)
    | (refine wpList_store_row rfl 28 (.tmp 8) (.tmp 52) rfl v5.heap.size _ rfl rfl _ _ RN.out UP.out SP.out OP.out ?_))
  rw [World.setRow_alloc_new]
  have R8 := Lib.hid (show (v5.alloc (.cells PK 28)).heap[v5.heap.size]? = some (.cells PK 28 (0, 0)) from heap_alloc_new v5 _)
  have B6 := Lib.hid (B5.out.trans ((alloc_below v5 (.cells PK 28)).mono B5.out.size))
  have F6 := Lib.hid (F4.out.trans (octC.Fr.below B6.out))
  have Rw6 := Lib.hid ((octC.Fr.below (S := (· = p)) B6.out).row Rw4.out hne.out)
  have K6 := Lib.hid (Nat.le_trans K3.out K4.out)
  clear T PA RN O4 B5 R3 F3 O3 Rw3 e7 w7
  obtain ⟨g8, hg8⟩ : ∃ g, g = v5.heap.size := ⟨_, rfl⟩
  rw [← hg8] at R8
  generalize v5.alloc (.cells PK 28) = v6 at *
  rw [← hg8]
  clear hg8
  have K9 := Lib.hid (show w.heap.size < v3.heap.size by have := K3.out; have := SZ.out; omega)
  cases fl
  · have E := Lib.hid (psE_7 C1.out (by rw [← EB.out]; exact C2.out) (by rw [EN.out]; exact C3.out) (by rw [EN.out]; exact C4.out) C5.out (by rw [EN.out, EA.out]; exact C6.out) (by rw [EA.out]; exact C7.out) (.inl (by have := of_decide_eq_false EFL.out.symm; omega)))
    go_wp2_with (first
      | (refine wpList_zero rfl 28 rfl Z BZ.out ?_)
      | (refine wpList_store_row rfl 28 (.tmp 2) (.tmp 61) rfl w.heap.size _ rfl rfl _ _ Rw6.out UZ.out rfl OZ.out ?_))
    refine bodyPost_ret (v := .tuple #[.agg Z, .int .i64 3]) (adC.results_cell_tmp Try.results29 _ _ w.heap.size _ _ _ _ _ (by rfl) (setRow_heap _ _ _ _ _ _ Rw6.out) Try.underlying28 rfl UZ.out (by rfl)) rfl ?_
    exact rd_err EZ.out E.out (by decide) (by decide) ((F6.out).setRow (Nat.le_refl _) _)
  cases my
  · have E := Lib.hid (psE_7 C1.out (by rw [← EB.out]; exact C2.out) (by rw [EN.out]; exact C3.out) (by rw [EN.out]; exact C4.out) C5.out (by rw [EN.out, EA.out]; exact C6.out) (by rw [EA.out]; exact C7.out) (.inr (by rw [EA.out, EN.out, ← S7.out]; exact EMY.out.symm)))
    go_wp2_with (first
      | (refine wpList_load_rowG (by kernel_rfl) 28 (.tmp 8) rfl g8 (by kernel_rfl) _ _ _ _ R8.out Try.underlying28 rfl UP.out ?_)
      | (go_at_call 11; (refine (MM.out _).mono ?_); rintro e v7 ⟨rfl, BB⟩
         have F7 := Lib.hid (F6.out.trans (octC.Fr.below BB))
         have Rw7 := Lib.hid ((octC.Fr.below (S := (· = p)) BB).row Rw6.out hne.out)
         clear BB)
      | (refine wpList_zero rfl 28 rfl Z BZ.out ?_)
      | (refine wpList_store_row rfl 28 (.tmp 2) (.tmp 61) rfl w.heap.size _ rfl rfl _ _ Rw7.out UZ.out rfl OZ.out ?_))
    refine bodyPost_ret (v := .tuple #[.agg Z, .int .i64 3]) (adC.results_cell_tmp Try.results29 _ _ w.heap.size _ _ _ _ _ (by rfl) (setRow_heap _ _ _ _ _ _ Rw7.out) Try.underlying28 rfl UZ.out (by rfl)) rfl ?_
    exact rd_err EZ.out E.out (by decide) (by decide) ((F7.out).setRow (Nat.le_refl _) _)
  have E := Lib.hid (psE_8 C1.out (by rw [← EB.out]; exact C2.out) (by rw [EN.out]; exact C3.out) (by rw [EN.out]; exact C4.out) C5.out (by rw [EN.out, EA.out]; exact C6.out) (by rw [EA.out]; exact C7.out) (fun h => by
    rcases h with h | h
    · have := of_decide_eq_true EFL.out.symm; omega
    · rw [EA.out, EN.out, ← S7.out, ← EMY.out] at h; cases h))
  have LD := Lib.hid (show ((bs.drop 20).drop s6).take s7 = ldOf bs by unfold ldOf; rw [S6.out, S7.out, EN.out, EA.out]; exact ld_parts (by have := C3.out; omega))
  go_wp2_with (first
    | (refine wpList_load_rowG (by kernel_rfl) 28 (.tmp 8) rfl g8 (by kernel_rfl) _ _ _ _ (by first | exact R8.out | exact R9.out) Try.underlying28 rfl UP.out ?_)
    | (go_at_call 11; (refine (MM.out _).mono ?_); rintro e v7 ⟨rfl, BB⟩
       have F7 := Lib.hid (F6.out.trans (octC.Fr.below BB))
       have Rw7 := Lib.hid ((octC.Fr.below (S := (· = p)) BB).row Rw6.out hne.out)
       have R9 := Lib.hid (show v7.heap[g8]? = some (.cells PK 28 (0, 0)) by rw [BB.block _ (lt_of_row R8.out)]; exact R8.out)
       have L7 := Lib.hid ((L4.out.below B6.out).below BB)
       clear BB)
    | (refine wpList_store_row rfl 28 (.tmp 2) (.tmp 62) rfl w.heap.size _ rfl rfl _ _ Rw7.out UP.out SP.out OP.out ?_))
  refine bodyPost_ret (v := .tuple #[.agg PK, .int .i64 0]) (adC.results_cell_tmp Try.results29 _ _ w.heap.size _ _ _ _ _ (by rfl) (setRow_heap _ _ _ _ _ _ Rw7.out) Try.underlying28 rfl UP.out (by rfl)) rfl ?_
  refine rd_ok E.out EP.out ?_ (F7.out.setRow (Nat.le_refl _) _)
  rw [← LD.out]
  exact (L7.out.keep fun g h1 h2 => setRow_other _ _ _ _ (by have := K9.out; omega)).less (Nat.le_of_lt K9.out)
end Go.Proofs.Ytmedccfekfnmlaa.pkC

/-
  The first of two errors that is one.
-/
namespace Go.Proofs.Ytmedccfekfnmlaa.pkC
open Go.ChangeShapes Go.WideShapes Go.ChangeAt Go.RowKit
open Go.Proofs.Ytmedccfekfnmlaa.memC Go.Proofs.Ytmedccfekfnmlaa.genC Go.Proofs.Ytmedccfekfnmlaa.adC
set_option linter.unusedVariables false
set_option maxRecDepth 100000 in
theorem cor_any (a b : Int) (g : Nat) (w : World) (h : w.heap[g]? = some (.cells #[.int .i64 a, .int .i64 b] 31 (0, 0))) :
    Calls Try.prog 31 #[.slice (some ⟨g, 0, none⟩) 2 2] w fun e w' => e = .returned (.int .i64 (if a = 0 then b else a)) ∧ w = w' := by
  have c0 : w.cell? ⟨g, 0, none⟩ = some (.int .i64 a) := by rw [cell_of_row w g 0 _ _ (0, 0) h]; rfl
  have c1 : w.cell? ⟨g, 1, none⟩ = some (.int .i64 b) := by rw [cell_of_row w g 1 _ _ (0, 0) h]; rfl
  clear h
  go_enter Try.func31, Try.ntmps31
  go_wp2_with fail
  go_loop [8] (fun i => ∃ k : Nat, k ≤ 2 ∧ i = .int .i64 k ∧ (1 ≤ k → a = 0) ∧ (2 ≤ k → b = 0)) (fun i => 2 - (intOf i).toNat)
  case atStart => exact ⟨0, by omega, rfl, by omega, by omega⟩
  case round =>
    obtain ⟨k, hk, rfl, h1, h2⟩ := hrel
    match k, hk with
    | 0, _ =>
      by_cases ha : a = 0
      · subst ha
        clear h1 h2
        go_wp2_with fail
        go_round
        case rel => exact ⟨1, by omega, rfl, by simp, by omega⟩
        case measure => simp [intOf]
      · have q : (a == 0) = false := beq_eq_false_iff_ne.2 ha
        clear h1 h2
        go_wp2_with fail
        go_ret
        exact ⟨by first | rfl | rw [if_neg ha], rfl⟩
    | 1, _ =>
      obtain rfl := h1 (by omega)
      by_cases hb : b = 0
      · subst hb
        clear h1 h2
        go_wp2_with fail
        go_round
        case rel => exact ⟨2, by omega, rfl, by simp, by simp⟩
        case measure => simp [intOf]
      · have q : (b == 0) = false := beq_eq_false_iff_ne.2 hb
        clear h1 h2
        go_wp2_with fail
        go_ret
        exact ⟨rfl, rfl⟩
    | 2, _ =>
      obtain rfl := h1 (by omega)
      obtain rfl := h2 (by omega)
      clear h1 h2
      go_wp2_with fail
      go_ret
      exact ⟨rfl, rfl⟩
end Go.Proofs.Ytmedccfekfnmlaa.pkC

/-
  Regions that draw their order, in which some operations write, each waiting for the one before (as in Chn); what the writes do is told by a relation D, so that values of the others (a literal that was just laid) may speak of what D leaves alone.
-/
namespace Go.Proofs.Ytmedccfekfnmlaa.freeC
open Go.ChangeShapes Go.WideShapes Go.ChangeAt Go.RowKit
set_option linter.unusedVariables false
/-- nothing turned but block g -/
def OnlyAt (g : Nat) (w w' : World) : Prop := Below g w w' ∧ ∀ k, k ≠ g → w'.heap[k]? = w.heap[k]?
theorem OnlyAt.setRow (g : Nat) (w : World) (cs : Array Value) : OnlyAt g w (w.setRow g cs) := ⟨⟨rfl, rfl, rfl, by simp, fun k hk => setRow_other _ _ _ _ (by omega)⟩, fun k hk => setRow_other _ _ _ _ hk⟩
theorem OnlyAt.refl (g : Nat) (w : World) : OnlyAt g w w := ⟨Below.refl _ _, fun _ _ => rfl⟩
/-- a row that is not g stands -/
theorem keep_row {g k : Nat} {w w' : World} {o : Obj} (hd : Below w.heap.size w w' ∨ OnlyAt g w w') (hk : k ≠ g) (h : w.heap[k]? = some o) : w'.heap[k]? = some o := by
  have hl : k < w.heap.size := by
    rcases Nat.lt_or_ge k w.heap.size with h' | h'
    · exact h'
    · rw [Array.getElem?_eq_none h'] at h; cases h
  rcases hd with hd | hd
  · rw [hd.block k hl]; exact h
  · rw [hd.2 k hk]; exact h
/-- what lies below g stands -/
theorem keep_below {g B : Nat} {w0 w w' : World} (hd : Below w.heap.size w w' ∨ OnlyAt g w w') (hB : B ≤ g) (hw : B ≤ w.heap.size) (h : Below B w0 w) : Below B w0 w' := by
  rcases hd with hd | hd
  · exact h.trans (hd.mono hw)
  · exact h.trans (hd.1.mono hB)
section
variable {P : Program} {L : List Oper} {Q : Exit → Act → World → Prop}
/-- what is asked of an operation: of one that is no part of the chain C, that it makes memory alone; of the chain's p-th, that it leads from R p to R (p + 1) -/
def StepD (P : Program) (L : List Oper) (Q : Exit → Act → World → Prop) (tab : List (Option Nat)) (a : Act) (B : Nat) (D : World → World → Prop) (C : List Nat) (G : World → Prop) (V : Nat → Value → World → Prop) (R : Nat → (Nat → Value) → World → Prop) (i : Nat) (o : Oper) : Prop :=
  ∀ (m : Nat → Bool) us w, B ≤ w.heap.size → G w → (∀ j, j ∉ C → m j = true → V j (us j) w) → doneB o m = true →
    (i ∉ C → if Region.wanted o (yielded L.toArray (frame tab a us).tmps) then o.wp P (frame tab a us) w (fun a' w' => ∃ v, a' = (frame tab a us).put o.dst v ∧ Below w.heap.size w w' ∧ V i v w') Q else V i undef w) ∧
    (∀ p, C[p]? = some i → R p us w → if Region.wanted o (yielded L.toArray (frame tab a us).tmps) then o.wp P (frame tab a us) w (fun a' w' => ∃ v, a' = (frame tab a us).put o.dst v ∧ (D w w' ∧ Below B w w') ∧ R (p + 1) (upd us i v) w') Q else R (p + 1) (upd us i undef) w)
theorem wp_region_chd {id : Nat} {a : Act} {w : World} (hm : P.follows .mixedOrders = true) (tab : List (Option Nat)) (hb : backE L = true) (ht : slots tab L = true) (hl : tab.length = a.tmps.size)
    (us0 : Nat → Value) (ha : frame tab a us0 = a) (B : Nat) (D : World → World → Prop) (C : List Nat) (hC : links L C = true) (hnd : C.Nodup) (hin : ∀ x ∈ C, x < L.length)
    (G : World → Prop) (V : Nat → Value → World → Prop) (R : Nat → (Nat → Value) → World → Prop) (hB : B ≤ w.heap.size) (hG : G w.drew) (h0 : R 0 us0 w.drew)
    (hkG : ∀ w w', B ≤ w.heap.size → (Below w.heap.size w w' ∨ D w w') → G w → G w') (hkV : ∀ i v w w', B ≤ w.heap.size → (Below w.heap.size w w' ∨ D w w') → V i v w → V i v w')
    (hkR : ∀ k us us' w w', (∀ x ∈ C, us' x = us x) → B ≤ w.heap.size → Below w.heap.size w w' → R k us w → R k us' w')
    (hstep : AllFrom (StepD P L Q tab a B D C G V R) 0 L)
    (hend : ∀ us w, B ≤ w.heap.size → G w → (∀ i, i < L.length → i ∉ C → V i (us i) w) → R C.length us w → Q .normal (frame tab a us) w) : (Code.region id L.toArray true).wp P Q a w := by
  refine wp_region_free hm tab hb ht hl us0 ha (fun m us w => B ≤ w.heap.size ∧ G w ∧ (∀ j, j ∉ C → m j = true → V j (us j) w) ∧ ∃ k, k ≤ C.length ∧ (∀ j x, C[j]? = some x → (m x = true ↔ j < k)) ∧ R k us w)
    ⟨(by simpa using hB), hG, (fun j _ h => by cases h), 0, Nat.zero_le _, (fun j x _ => by simp), h0⟩ ?_ ?_
  · intro i o ho m us w' ⟨hb', hg, hv, k, hk, hcm, hr⟩ hmi hd
    have hs := all_from L 0 hstep i o ho m us w' hb' hg hv hd
    rw [Nat.zero_add] at hs
    by_cases hi : i ∈ C
    · obtain ⟨p, hp⟩ := List.getElem?_of_mem hi
      have hkp : k = p := by
        have h1 : ¬ p < k := fun h => by rw [(hcm p i hp).2 h] at hmi; cases hmi
        rcases Nat.eq_zero_or_pos p with h2 | h2
        · omega
        · obtain ⟨q, rfl⟩ : ∃ q, p = q + 1 := ⟨p - 1, by omega⟩
          have hq : q < C.length := by have := (List.getElem?_eq_some_iff.1 hp).1; omega
          have e := List.getElem?_eq_getElem hq
          have := (hcm q _ e).1 (links_at hC q _ i o e hp ho m hd)
          omega
      subst hkp
      have hs2 := hs.2 k hp hr
      have hset : ∀ v w'', (w'' = w' ∨ D w' w'') → Below B w' w'' → R (k + 1) (upd us i v) w'' → B ≤ w''.heap.size ∧ G w'' ∧ (∀ j, j ∉ C → upd m i true j = true → V j (upd us i v j) w'') ∧ ∃ k, k ≤ C.length ∧ (∀ j x, C[j]? = some x → (upd m i true x = true ↔ j < k)) ∧ R k (upd us i v) w'' := fun v w'' hd2 hb2 hr2 => by
        refine ⟨Nat.le_trans hb' hb2.size, (by rcases hd2 with rfl | hd2
                                               · exact hg
                                               · exact hkG _ _ hb' (.inr hd2) hg), fun j hj hm' => ?_, k + 1, ?_, fun j x hx => ?_, hr2⟩
        · have hji : j ≠ i := fun e => hj (e ▸ hi)
          rw [upd_other _ _ hji] at hm' ⊢
          rcases hd2 with rfl | hd2
          · exact hv j hj hm'
          · exact hkV _ _ _ _ hb' (.inr hd2) (hv j hj hm')
        · have := (List.getElem?_eq_some_iff.1 hp).1; omega
        · by_cases hx2 : x = i
          · subst hx2
            have hjk : j = k := nodup_at hnd hx hp
            rw [upd_same]; simp [hjk]
          · rw [upd_other _ _ hx2, hcm j x hx]
            have hjk : j ≠ k := fun e => by rw [e, hp] at hx; exact hx2 (Option.some.inj hx).symm
            omega
      split
      · rename_i hw
        rw [if_pos hw] at hs2
        refine Oper.wp_mono (fun a2 w2 h2 => ?_) hs2
        obtain ⟨v, ha, ⟨hd2, hb2⟩, hr2⟩ := h2
        exact ⟨v, ha, hset v w2 (.inr hd2) hb2 hr2⟩
      · rename_i hw
        rw [if_neg hw] at hs2
        exact hset undef w' (.inl rfl) (Below.refl _ _) hs2
    · have hs1 := hs.1 hi
      have hset : ∀ v w'', Below w'.heap.size w' w'' → V i v w'' → B ≤ w''.heap.size ∧ G w'' ∧ (∀ j, j ∉ C → upd m i true j = true → V j (upd us i v j) w'') ∧ ∃ k, k ≤ C.length ∧ (∀ j x, C[j]? = some x → (upd m i true x = true ↔ j < k)) ∧ R k (upd us i v) w'' := fun v w'' hb2 hv2 => by
        have hb3 := hb2.mono hb'
        refine ⟨Nat.le_trans hb' hb2.size, hkG _ _ hb' (.inl hb2) hg, fun j hj hm' => ?_, k, hk, fun j x hx => ?_, hkR k us (upd us i v) w' w'' (fun x hx => ?_) hb' hb2 hr⟩
        · by_cases hji : j = i
          · subst hji; rw [upd_same]; exact hv2
          · rw [upd_other _ _ hji] at hm' ⊢
            exact hkV _ _ _ _ hb' (.inl hb2) (hv j hj hm')
        · have hxi : x ≠ i := fun e => hi (e ▸ List.mem_of_getElem? hx)
          rw [upd_other _ _ hxi]; exact hcm j x hx
        · have hxi : x ≠ i := fun e => hi (e ▸ hx)
          rw [upd_other _ _ hxi]
      split
      · rename_i hw
        rw [if_pos hw] at hs1
        refine Oper.wp_mono (fun a2 w2 h2 => ?_) hs1
        obtain ⟨v, ha, hb2, hv2⟩ := h2
        exact ⟨v, ha, hset v w2 hb2 hv2⟩
      · rename_i hw
        rw [if_neg hw] at hs1
        exact hset undef w' (Below.refl _ _) hs1
  · intro m us w' hm' ⟨hb', hg, hv, k, hk, hcm, hr⟩
    have hkl : k = C.length := by
      rcases Nat.lt_or_ge k C.length with h | h
      · have e := List.getElem?_eq_getElem h
        have := (hcm k _ e).1 (hm' _ (hin _ (List.getElem_mem h)))
        omega
      · omega
    subst hkl
    exact hend us w' hb' hg (fun i hi hc => hv i hc (hm' i hi)) hr
variable {o : Oper} {a : Act} {tab : List (Option Nat)} {B : Nat} {D : World → World → Prop} {C : List Nat} {G : World → Prop} {V : Nat → Value → World → Prop} {R : Nat → (Nat → Value) → World → Prop} {i : Nat}
/-- an operation that only makes memory -/
theorem stepD_val (need : List Nat) (hn : needs o need = true) (hc : (need.all fun j => !C.contains j) = true) (hi : C.contains i = false) (hg : o.guard = none)
    (h : ∀ us w, B ≤ w.heap.size → G w → (∀ j, j ∈ need → V j (us j) w) → o.wp P (frame tab a us) w (fun a' w' => ∃ v, a' = (frame tab a us).put o.dst v ∧ Below w.heap.size w w' ∧ V i v w') Q) : StepD P L Q tab a B D C G V R i o := by
  intro m us w hB hG hV hd
  have hiC : i ∉ C := fun e => by rw [List.contains_iff_mem.2 e] at hi; cases hi
  refine ⟨fun _ => ?_, fun p hp => absurd (List.mem_of_getElem? hp) hiC⟩
  rw [if_pos (show Region.wanted o (yielded L.toArray (frame tab a us).tmps) = true by simp [Region.wanted, hg])]
  exact h us w hB hG fun j hj => hV j (fun e => by have h1 := List.all_eq_true.1 hc j hj; rw [List.contains_iff_mem.2 e] at h1; cases h1) (need_ok hn hd j hj)
/-- .. behind a guard that says b, as is known -/
theorem stepD_guard (need : List Nat) (hn : needs o need = true) (hc : (need.all fun j => !C.contains j) = true) (hi : C.contains i = false) {j t : Nat} {b : Bool} (hg : o.guard = some (j, b)) (hj : j ∈ need) (hL : (L[j]?).bind (·.dst) = some t) (hl : tab.length = a.tmps.size) (ht : (tab[t]?).join = some j)
    (hv : ∀ v w, V j v w → v = .bool b)
    (h : ∀ us w, B ≤ w.heap.size → G w → (∀ j, j ∈ need → V j (us j) w) → o.wp P (frame tab a us) w (fun a' w' => ∃ v, a' = (frame tab a us).put o.dst v ∧ Below w.heap.size w w' ∧ V i v w') Q) : StepD P L Q tab a B D C G V R i o := by
  intro m us w hB hG hV hd
  have hiC : i ∉ C := fun e => by rw [List.contains_iff_mem.2 e] at hi; cases hi
  have hV2 : ∀ j, j ∈ need → V j (us j) w := fun j hj => hV j (fun e => by have h1 := List.all_eq_true.1 hc j hj; rw [List.contains_iff_mem.2 e] at h1; cases h1) (need_ok hn hd j hj)
  refine ⟨fun _ => ?_, fun p hp => absurd (List.mem_of_getElem? hp) hiC⟩
  have hy := yield_at (L := L) (us := us) hl hL ht (hv _ _ (hV2 j hj))
  rw [if_pos (show Region.wanted o (yielded L.toArray (frame tab a us).tmps) = true by simp [Region.wanted, hg, hy])]
  exact h us w hB hG hV2
/-- .. that is not wanted -/
theorem stepD_skip (need : List Nat) (hn : needs o need = true) (hc : (need.all fun j => !C.contains j) = true) (hi : C.contains i = false) {j t : Nat} {b : Bool} (hg : o.guard = some (j, b)) (hj : j ∈ need) (hL : (L[j]?).bind (·.dst) = some t) (hl : tab.length = a.tmps.size) (ht : (tab[t]?).join = some j)
    (hv : ∀ v w, V j v w → v = .bool !b) (h : ∀ w, V i undef w) : StepD P L Q tab a B D C G V R i o := by
  intro m us w hB hG hV hd
  have hiC : i ∉ C := fun e => by rw [List.contains_iff_mem.2 e] at hi; cases hi
  have hV2 : ∀ j, j ∈ need → V j (us j) w := fun j hj => hV j (fun e => by have h1 := List.all_eq_true.1 hc j hj; rw [List.contains_iff_mem.2 e] at h1; cases h1) (need_ok hn hd j hj)
  refine ⟨fun _ => ?_, fun p hp => absurd (List.mem_of_getElem? hp) hiC⟩
  have hy := yield_at (L := L) (us := us) hl hL ht (hv _ _ (hV2 j hj))
  rw [if_neg (by simp [Region.wanted, hg, hy])]
  exact h w
/-- the chain's p-th -/
theorem stepD_chain (p : Nat) (hp : C[p]? = some i) (hnd : C.Nodup) (need : List Nat) (hn : needs o need = true) (hc : (need.all fun j => !C.contains j) = true) (hg : o.guard = none)
    (h : ∀ us w, B ≤ w.heap.size → G w → (∀ j, j ∈ need → V j (us j) w) → R p us w → o.wp P (frame tab a us) w (fun a' w' => ∃ v, a' = (frame tab a us).put o.dst v ∧ (D w w' ∧ Below B w w') ∧ R (p + 1) (upd us i v) w') Q) : StepD P L Q tab a B D C G V R i o := by
  intro m us w hB hG hV hd
  refine ⟨fun hi => absurd (List.mem_of_getElem? hp) hi, fun q hq hr => ?_⟩
  have hqp : q = p := nodup_at hnd hq hp
  subst hqp
  rw [if_pos (show Region.wanted o (yielded L.toArray (frame tab a us).tmps) = true by simp [Region.wanted, hg])]
  exact h us w hB hG (fun j hj => hV j (fun e => by have h1 := List.all_eq_true.1 hc j hj; rw [List.contains_iff_mem.2 e] at h1; cases h1) (need_ok hn hd j hj)) hr
/-- .. behind a guard that says b, as is known -/
theorem stepD_chainG (p : Nat) (hp : C[p]? = some i) (hnd : C.Nodup) (need : List Nat) (hn : needs o need = true) (hc : (need.all fun j => !C.contains j) = true) {j t : Nat} {b : Bool} (hg : o.guard = some (j, b)) (hj : j ∈ need) (hL : (L[j]?).bind (·.dst) = some t) (hl : tab.length = a.tmps.size) (ht : (tab[t]?).join = some j)
    (hv : ∀ v w, V j v w → v = .bool b)
    (h : ∀ us w, B ≤ w.heap.size → G w → (∀ j, j ∈ need → V j (us j) w) → R p us w → o.wp P (frame tab a us) w (fun a' w' => ∃ v, a' = (frame tab a us).put o.dst v ∧ (D w w' ∧ Below B w w') ∧ R (p + 1) (upd us i v) w') Q) : StepD P L Q tab a B D C G V R i o := by
  intro m us w hB hG hV hd
  have hV2 : ∀ j, j ∈ need → V j (us j) w := fun j hj => hV j (fun e => by have h1 := List.all_eq_true.1 hc j hj; rw [List.contains_iff_mem.2 e] at h1; cases h1) (need_ok hn hd j hj)
  refine ⟨fun hi => absurd (List.mem_of_getElem? hp) hi, fun q hq hr => ?_⟩
  have hqp : q = p := nodup_at hnd hq hp
  subst hqp
  have hy := yield_at (L := L) (us := us) hl hL ht (hv _ _ (hV2 j hj))
  rw [if_pos (show Region.wanted o (yielded L.toArray (frame tab a us).tmps) = true by simp [Region.wanted, hg, hy])]
  exact h us w hB hG hV2 hr
end
end Go.Proofs.Ytmedccfekfnmlaa.freeC

/-
  Parse of some bytes: the program's.
-/
namespace Go.Proofs.Ytmedccfekfnmlaa.pkC
open Go.ChangeShapes Go.WideShapes Go.ChangeAt Go.RowKit
open Go.Proofs.Ytmedccfekfnmlaa.memC Go.Proofs.Ytmedccfekfnmlaa.genC Go.Proofs.Ytmedccfekfnmlaa.butC Go.Proofs.Ytmedccfekfnmlaa.freeC Go.Proofs.Ytmedccfekfnmlaa.adC
set_option linter.unusedVariables false
theorem ent_clo (cap : Array Value) (w : World) : (callFunc 28 cap).run Try.prog w = .ok (.enter 28 cap) w := by go_simp
set_option maxRecDepth 100000 in
theorem clo_stop (b1 bp bt : Nat) (A : Option Addr) (n c : Nat) (bs : List Int) (w : World) (hb : w.cell? ⟨b1, 0, none⟩ = some (.slice A n c)) (hN : Nums .u8 w w.heap.size A n bs) (hy : ∀ x ∈ bs, Byte x) (hn : n ≤ 9000) (h4 : psE bs = 4) :
    Calls Try.prog 28 #[.pointer (some ⟨b1, 0, none⟩), .pointer (some ⟨bp, 0, none⟩), .pointer (some ⟨bt, 0, none⟩)] w fun e w' => e = octC.stopped ∧ octC.Fr (fun _ => False) w w' ∧ True := by
  have RR := Lib.hid (octC.read_any A n c bs w hN (by omega))
  have HL := Lib.hid (show bs.length ≤ 9000 by rw [hN.len]; exact hn)
  have HY := Lib.hid hy
  have H4 := Lib.hid h4
  clear hN hy hn h4
  go_enter Try.func28, Try.ntmps28
  go_wp2_with (first
    | (go_at_call 30; (refine RR.out.mono ?_); rintro e v1 ⟨p, rfl, hp, R, B1⟩
       have RD := Lib.hid ((read_any p bs v1 R HY.out HL.out).mono fun e w' h => (show e = octC.stopped ∧ octC.Fr (· = p) v1 w' by
         rcases h with h | h
         · exact h.2
         · exact absurd H4.out h.1))
       have HP := Lib.hid hp
       have HB := Lib.hid B1
       clear R hp B1)
    | (go_at_call 29; (refine RD.out.mono ?_); rintro e v2 ⟨he, F⟩; rw [octC.stopped_eq] at he; subst he))
  refine ⟨rfl, rfl, ?_, trivial⟩
  exact ⟨F.os.trans HB.out.os, F.tape.trans HB.out.tape, F.output.trans HB.out.output, Nat.le_trans HB.out.size F.size, fun k hk _ => (F.block k (Nat.lt_of_lt_of_le hk HB.out.size) (by show ¬ k = p; have := HP.out; omega)).trans (HB.out.block k hk)⟩
/-- what a reading that ends leaves -/
def CloQ (w : World) (bp bt : Nat) (bs : List Int) (w' : World) : Prop :=
  ∃ A n c, w'.heap[bp]? = some (.cells (pktV (psP bs) A n c) 28 (0, 0)) ∧ w'.cell? ⟨bt, 0, none⟩ = some (.int .i64 (psE bs)) ∧ Own .u8 5 w' w.heap.size (.slice A n c) (psX bs)
set_option maxRecDepth 100000 in
set_option maxHeartbeats 1000000 in
theorem clo_end (b1 bp bt : Nat) (A : Option Addr) (n c : Nat) (bs : List Int) (w : World) (hb : w.cell? ⟨b1, 0, none⟩ = some (.slice A n c)) (hN : Nums .u8 w w.heap.size A n bs) (hy : ∀ x ∈ bs, Byte x) (hn : n ≤ 9000) (h4 : psE bs ≠ 4)
    (hp : w.heap[bp]? = some (.cells (pktV zPkt none 0 0) 28 (0, 0))) (ht : w.cell? ⟨bt, 0, none⟩ = some (.int .i64 0)) (hz : w.frozen? ⟨bt, 0, none⟩ = false) (hne : bp ≠ bt) :
    Calls Try.prog 28 #[.pointer (some ⟨b1, 0, none⟩), .pointer (some ⟨bp, 0, none⟩), .pointer (some ⟨bt, 0, none⟩)] w fun e w' => e = .returned (.tuple #[]) ∧ octC.Fr (fun k => k = bp ∨ k = bt) w w' ∧ CloQ w bp bt bs w' := by
  have RR := Lib.hid (octC.read_any A n c bs w hN (by omega))
  have HL := Lib.hid (show bs.length ≤ 9000 by rw [hN.len]; exact hn)
  have lp := Lib.hid (lt_of_row hp)
  have lt := Lib.hid (show bt < w.heap.size from World.block_lt_of_cell? _ _ ht)
  have PO := Lib.hid (psP_ok hy)
  have SZ := Lib.hid (fun A n c => (pkC zPkt_ok none 0 0).size.trans (pkC PO.out A n c).size.symm)
  have HY := Lib.hid hy
  have H4 := Lib.hid h4
  have HP0 := Lib.hid hp
  have HT := Lib.hid ht
  have HZ := Lib.hid hz
  have NE := Lib.hid hne
  unfold CloQ
  generalize pktV zPkt none 0 0 = Z at *
  clear hN hy hn h4 hp ht hz hne
  go_enter Try.func28, Try.ntmps28
  go_wp2_with (first
    | (go_at_call 30; (refine RR.out.mono ?_); rintro e v1 ⟨p, rfl, hp, R, B1⟩
       have RD := Lib.hid ((read_any p bs v1 R HY.out HL.out).mono fun e w' h => (show ∃ A n c, e = .returned (.tuple #[.agg (pktV (psP bs) A n c), .int .i64 (psE bs)]) ∧ Own .u8 5 w' v1.heap.size (.slice A n c) (psX bs) ∧ octC.Fr (· = p) v1 w' by
         rcases h with h | h
         · exact absurd h.1 H4.out
         · exact h.2))
       have HP := Lib.hid hp
       have HB := Lib.hid B1
       clear R hp B1)
    | (go_at_call 29; (refine RD.out.mono ?_); rintro e v2 ⟨A2, n2, c2, rfl, O, F⟩
       have F0 := Lib.hid (show octC.Fr (fun k => k = bp ∨ k = bt) w v2 from ⟨F.os.trans HB.out.os, F.tape.trans HB.out.tape, F.output.trans HB.out.output, Nat.le_trans HB.out.size F.size, fun k hk _ => (F.block k (Nat.lt_of_lt_of_le hk HB.out.size) (by show ¬ k = p; have := HP.out; omega)).trans (HB.out.block k hk)⟩)
       have blk := Lib.hid (fun k (hk : k < w.heap.size) => (show v2.heap[k]? = w.heap[k]? from (F.block k (Nat.lt_of_lt_of_le hk HB.out.size) (by show ¬ k = p; have := HP.out; omega)).trans (HB.out.block k hk)))
       have UP := Lib.hid (pkC PO.out A2 n2 c2).info
       have SP := Lib.hid (SZ.out A2 n2 c2)
       have OP := Lib.hid (pkt_one (psP bs) A2 n2 c2)
       generalize hC : pktV (psP bs) A2 n2 c2 = C at *
       have EC := Lib.hid hC
       clear hC
       have RW := Lib.hid (show v2.heap[bp]? = some (.cells Z 28 (0, 0)) by rw [blk.out bp lp.out]; exact HP0.out)
       have e3 : (v2.setRow bp C).heap[bt]? = w.heap[bt]? := (setRow_other _ _ _ _ (fun e => NE.out e.symm)).trans (blk.out bt lt.out)
       have t3 : (v2.setRow bp C).cell? ⟨bt, 0, none⟩ = some (.int .i64 0) := (World.cell?_of_block (w := w) e3).trans HT.out
       have z3 : (v2.setRow bp C).frozen? ⟨bt, 0, none⟩ = false := (World.frozen?_of_block (w := w) e3).trans HZ.out
       have OL := Lib.hid O
       have K1 := Lib.hid HB.out.size
       clear O F e3)
    | (refine wpList_store_row rfl 28 (.tmp 1) (.tmp 7) rfl bp _ rfl rfl _ _ RW.out UP.out SP.out OP.out ?_))
  go_end0
  have FS : octC.Fr (fun k => k = bp ∨ k = bt) w (v2.setRow bp C) := ⟨F0.out.os, F0.out.tape, F0.out.output, by simpa using F0.out.size, fun k hk hn => (setRow_other _ _ _ _ (fun e => hn (.inl e))).trans (F0.out.block k hk hn)⟩
  refine ⟨rfl, FS.trans (octC.Fr.setCell _ (fun _ => .inr rfl) _), A2, n2, c2, ?_, by go_simp, ?_⟩
  · rw [Below.heap_setCell _ _ _ _ (show bp ≠ bt from NE.out), EC.out]
    exact setRow_heap _ _ _ _ _ _ RW.out
  · refine (OL.out.keep fun g h1 h2 => ?_).less K1.out
    have h3 := lp.out
    have h4 := lt.out
    have h5 := K1.out
    rw [Below.heap_setCell _ _ _ _ (show g ≠ bt by omega)]
    exact setRow_other _ _ _ _ (by omega)
/-- what stands while Parse returns -/
structure PaG (w0 Wr : World) (r0 bp bt : Nat) (C : Array Value) (y : Int) (A : Option Addr) (n c : Nat) (X : List Int) (w : World) : Prop where
  bel : Below w0.heap.size Wr w
  pk : w.heap[bp]? = some (.cells C 28 (0, 0))
  told : w.cell? ⟨bt, 0, none⟩ = some (.int .i64 y)
  own : Own .u8 5 w (r0 + 1) (.slice A n c) X
theorem PaG.keep {w0 Wr : World} {r0 bp bt : Nat} {C : Array Value} {y : Int} {A : Option Addr} {n c : Nat} {X : List Int} {w w' : World} (h0 : w0.heap.size ≤ r0) (hw : r0 ≤ w.heap.size) (h1 : bp ≠ r0) (h2 : bt ≠ r0) (hd : Below w.heap.size w w' ∨ OnlyAt r0 w w') (h : PaG w0 Wr r0 bp bt C y A n c X w) : PaG w0 Wr r0 bp bt C y A n c X w' :=
  ⟨keep_below hd h0 (by omega) h.bel, keep_row hd h1 h.pk, (by
    rcases hd with hd | hd
    · exact (hd.cell (p := ⟨bt, 0, none⟩) (World.block_lt_of_cell? _ _ h.told)).trans h.told
    · exact (World.cell?_of_block (w := w) (hd.2 bt h2)).trans h.told), h.own.keep fun g g1 g2 => by
    rcases hd with hd | hd
    · exact hd.block g g2
    · exact hd.2 g (by omega)⟩
def paR (g0 : Nat) (Z T : Array Value) : Nat → (Nat → Value) → World → Prop
  | 0, _, w => w.heap[g0]? = some (.cells Z 28 (0, 0))
  | 1, _, w => w.heap[g0]? = some (.cells T 28 (0, 0))
  | _, _, _ => True
theorem paR.keep (g0 : Nat) (Z T : Array Value) (k : Nat) (us us' : Nat → Value) (w w' : World) (hb : Below w.heap.size w w') (hR : paR g0 Z T k us w) : paR g0 Z T k us' w' := by
  unfold paR at hR ⊢
  split at hR
  · show w'.heap[g0]? = _
    rw [hb.block _ (lt_of_row hR)]; exact hR
  · show w'.heap[g0]? = _
    rw [hb.block _ (lt_of_row hR)]; exact hR
  · trivial
def paV (r0 bp bt : Nat) (x y r : Int) (C : Array Value) : Nat → Value → World → Prop
  | 0, v, _ => v = .agg C
  | 1, v, _ => v = .int .i64 x
  | 2, v, _ => v = .int .i64 y
  | 3, v, w => ∃ g, v = .slice (some ⟨g, 0, none⟩) 2 2 ∧ g ≠ r0 ∧ w.heap[g]? = some (.cells #[.int .i64 x, .int .i64 y] 31 (0, 0))
  | 4, v, _ => v = .int .i64 r
  | 6, v, _ => v = .int .i64 r
  | _, _, _ => True
theorem paV.keep (r0 bp bt : Nat) (x y r : Int) (C : Array Value) (i : Nat) (v : Value) (w w' : World) (hd : Below w.heap.size w w' ∨ OnlyAt r0 w w') (h : paV r0 bp bt x y r C i v w) : paV r0 bp bt x y r C i v w' := by
  by_cases e3 : i = 3
  · subst e3
    obtain ⟨g, h1, h2, h3⟩ := h
    exact ⟨g, h1, h2, keep_row hd h2 h3⟩
  unfold paV at h ⊢
  split at h <;> first | exact h | exact absurd rfl (by assumption)
def paT : List (Option Nat) := [none, none, none, some 6, none, none, none, none, none, some 0, some 1, some 2, some 3, some 4]
/-- what Try leaves in Parse -/
def TryQ (w : World) (bs : List Int) (x y : Int) (e : Ending) (w' : World) : Prop :=
  e = .returned (.int .i64 x) ∧ Below w.heap.size w w' ∧ w'.heap[w.heap.size + 1]? = some (.cells (pktV zPkt none 0 0) 28 (0, 0)) ∧
    ∃ A n c, PaG w w' (w.heap.size + 1) (w.heap.size + 1 + 1) (w.heap.size + 1 + 1 + 1) (pktV (psP bs) A n c) y A n c (psX bs) w'
set_option maxRecDepth 100000 in
set_option maxHeartbeats 4000000 in
theorem cparse_any (A0 : Option Addr) (n0 c0 : Nat) (bs : List Int) (w : World) (hb : Nums .u8 w w.heap.size A0 n0 bs) (hy : ∀ x ∈ bs, Byte x) (hn : n0 ≤ 9000) :
    Calls Try.prog 15 #[.slice A0 n0 c0] w (PsR w bs) := by
  have hzv := zeroPkt
  have hmf : ∀ (fn : Fn) (first cap : Array Value) (w : World), (Instr.makeFunc fn first cap).run Try.prog w = .ok (.func fn first cap) w := fun _ _ _ _ => rfl
  obtain ⟨Wa, hWa⟩ : ∃ W, W = w.alloc (.cells #[.slice A0 n0 c0] 26) := ⟨_, rfl⟩
  obtain ⟨Wb, hWb⟩ : ∃ W, W = Wa.alloc (.cells (pktV zPkt none 0 0) 28) := ⟨_, rfl⟩
  obtain ⟨Wc, hWc⟩ : ∃ W, W = Wb.alloc (.cells (pktV zPkt none 0 0) 28) := ⟨_, rfl⟩
  obtain ⟨Wd, hWd⟩ : ∃ W, W = Wc.alloc (.cells #[.int .i64 0] 31) := ⟨_, rfl⟩
  obtain ⟨We, hWe⟩ : ∃ W, W = Wd.alloc (.cells #[.int .i64 0] 31) := ⟨_, rfl⟩
  have sa : Wa.heap.size = w.heap.size + 1 := by rw [hWa]; exact alloc_size _ _
  have sb : Wb.heap.size = w.heap.size + 1 + 1 := by rw [hWb, alloc_size, sa]
  have sc : Wc.heap.size = w.heap.size + 1 + 1 + 1 := by rw [hWc, alloc_size, sb]
  have sd : Wd.heap.size = w.heap.size + 1 + 1 + 1 + 1 := by rw [hWd, alloc_size, sc]
  have se : We.heap.size = w.heap.size + 1 + 1 + 1 + 1 + 1 := by rw [hWe, alloc_size, sd]
  have Ba : Below w.heap.size w Wa := by rw [hWa]; exact alloc_below _ _
  have Bb : Below Wa.heap.size Wa Wb := by rw [hWb]; exact alloc_below _ _
  have Bc : Below Wb.heap.size Wb Wc := by rw [hWc]; exact alloc_below _ _
  have Bd : Below Wc.heap.size Wc Wd := by rw [hWd]; exact alloc_below _ _
  have Be : Below Wd.heap.size Wd We := by rw [hWe]; exact alloc_below _ _
  have HWd := Lib.hid (show Below w.heap.size w Wd from ((Ba.trans (Bb.mono (by omega))).trans (Bc.mono (by omega))).trans (Bd.mono (by omega)))
  have HWe := Lib.hid (show Below w.heap.size w We from HWd.out.trans (Be.mono (by omega)))
  have r1 : We.heap[w.heap.size]? = some (.cells #[.slice A0 n0 c0] 26 (0, 0)) := by rw [Be.block _ (by omega), Bd.block _ (by omega), Bc.block _ (by omega), Bb.block _ (by omega), hWa]; exact heap_alloc_new _ _
  have r0d : Wd.heap[w.heap.size + 1]? = some (.cells (pktV zPkt none 0 0) 28 (0, 0)) := by rw [Bd.block _ (by omega), Bc.block _ (by omega), hWb, ← sa]; exact heap_alloc_new _ _
  have rpd : Wd.heap[w.heap.size + 1 + 1]? = some (.cells (pktV zPkt none 0 0) 28 (0, 0)) := by rw [Bd.block _ (by omega), hWc, ← sb]; exact heap_alloc_new _ _
  have rtd : Wd.heap[w.heap.size + 1 + 1 + 1]? = some (.cells #[.int .i64 0] 31 (0, 0)) := by rw [hWd, ← sc]; exact heap_alloc_new _ _
  have rpe : We.heap[w.heap.size + 1 + 1]? = some (.cells (pktV zPkt none 0 0) 28 (0, 0)) := by rw [Be.block _ (by omega)]; exact rpd
  have rte : We.heap[w.heap.size + 1 + 1 + 1]? = some (.cells #[.int .i64 0] 31 (0, 0)) := by rw [Be.block _ (by omega)]; exact rtd
  have cb : We.cell? ⟨w.heap.size, 0, none⟩ = some (.slice A0 n0 c0) := by rw [cell_of_row We _ 0 _ _ (0, 0) r1]; rfl
  have ct : We.cell? ⟨w.heap.size + 1 + 1 + 1, 0, none⟩ = some (.int .i64 0) := by rw [cell_of_row We _ 0 _ _ (0, 0) rte]; rfl
  have fz : We.frozen? ⟨w.heap.size + 1 + 1 + 1, 0, none⟩ = false := by rw [World.frozen?, rte]; rfl
  have NB : Nums .u8 We We.heap.size A0 n0 bs := (hb.below HWe.out).more HWe.out.size
  have CAP : ∃ x y : Int, (if x = 0 then y else x) = psE bs ∧ Calls Try.prog 27 #[.func (.func 28) #[] #[.pointer (some ⟨w.heap.size, 0, none⟩), .pointer (some ⟨w.heap.size + 1 + 1, 0, none⟩), .pointer (some ⟨w.heap.size + 1 + 1 + 1, 0, none⟩)]] Wd (TryQ w bs x y) := by
    by_cases h4 : psE bs = 4
    · refine ⟨4, 0, by rw [h4]; rfl, ?_⟩
      refine (octC.try_halt 28 _ Wd (fun _ => False) (fun _ => True) (fun k hk => hk.elim) (ent_clo _) (fun _ _ _ _ => trivial) (by rw [← hWe]; exact clo_stop _ _ _ A0 n0 c0 bs We cb NB hy hn h4)).mono ?_
      rintro e w' ⟨rfl, F, _⟩
      have FB : Below Wd.heap.size Wd w' := ⟨F.os, F.tape, F.output, F.size, fun k hk => F.block k hk fun h => h⟩
      have e1 : psP bs = zPkt := by unfold psP; rw [if_neg (by rw [h4]; decide)]
      have e2 : psX bs = [] := by unfold psX; rw [if_neg (by rw [h4]; decide)]
      refine ⟨rfl, HWd.out.trans (FB.mono (by omega)), by rw [FB.block _ (by omega)]; exact r0d, none, 0, 0, ⟨Below.refl _ _, ?_, ?_, ?_⟩⟩
      · rw [e1, FB.block _ (by omega)]; exact rpd
      · exact (FB.cell (p := ⟨w.heap.size + 1 + 1 + 1, 0, none⟩) (show w.heap.size + 1 + 1 + 1 < Wd.heap.size by omega)).trans (by rw [cell_of_row Wd _ 0 _ _ (0, 0) rtd]; rfl)
      · rw [e2]; exact Own.nil _ _
    · refine ⟨0, psE bs, rfl, ?_⟩
      have hke : We.cell? ⟨Wd.heap.size, 0, none⟩ = some (.int .i64 0) := by rw [hWe, cell_of_row _ _ 0 _ _ (0, 0) (heap_alloc_new _ _)]; rfl
      have hkf : We.frozen? ⟨Wd.heap.size, 0, none⟩ = false := by rw [hWe]; go_simp
      have hCL := clo_end _ _ _ A0 n0 c0 bs We cb NB hy hn h4 rpe ct fz (by omega)
      rw [hWe] at hCL
      refine (octC.try_ok 28 _ Wd _ (ent_clo _) hCL fun w' ⟨F, _⟩ => ?_).mono ?_
      · rw [← hWe] at F
        exact ⟨(F.cell (a := ⟨Wd.heap.size, 0, none⟩) (show Wd.heap.size < We.heap.size by omega) (show ¬ (Wd.heap.size = _ ∨ Wd.heap.size = _) by omega)).trans hke, (F.frozen (a := ⟨Wd.heap.size, 0, none⟩) (show Wd.heap.size < We.heap.size by omega) (show ¬ (Wd.heap.size = _ ∨ Wd.heap.size = _) by omega)).trans hkf⟩
      · rintro e w' ⟨rfl, w1, ⟨F, A, n, c, h1, h2, h3⟩, rfl⟩
        rw [← hWe] at F h3
        have hs : ∀ k, k ≠ Wd.heap.size → (w1.setCell ⟨Wd.heap.size, 0, none⟩ (.int .i64 0)).heap[k]? = w1.heap[k]? := fun k hk => Below.heap_setCell _ _ _ _ hk
        have hz : (w1.setCell ⟨Wd.heap.size, 0, none⟩ (.int .i64 0)).heap.size = w1.heap.size := by simp [World.setCell]
        refine ⟨rfl, ⟨F.os.trans HWe.out.os, F.tape.trans HWe.out.tape, F.output.trans HWe.out.output, by rw [hz]; exact Nat.le_trans HWe.out.size F.size, fun k hk => ?_⟩, ?_, A, n, c, ⟨Below.refl _ _, ?_, ?_, ?_⟩⟩
        · rw [hs k (by omega), F.block k (by omega) (by omega)]
          exact HWe.out.block k hk
        · rw [hs _ (by omega), F.block _ (by omega) (by omega), Be.block _ (by omega)]; exact r0d
        · rw [hs _ (by omega)]; exact h1
        · exact (World.cell?_of_block (w := w1) (hs (w.heap.size + 1 + 1 + 1) (by omega))).trans h2
        · exact (h3.keep fun g g1 g2 => hs g (by omega)).less (by omega)
  obtain ⟨x, y, hxy, T0⟩ := CAP
  have T := Lib.hid T0
  have EXY := Lib.hid hxy
  have UPP := Lib.hid (fun A n c => (pkC (psP_ok hy) A n c).info)
  have SPP := Lib.hid (fun A n c => (pkC zPkt_ok none 0 0).size.trans (pkC (psP_ok hy) A n c).size.symm)
  have OPP := Lib.hid (fun A n c => pkt_one (psP bs) A n c)
  clear T0 hxy r1 r0d rpd rtd rpe rte cb ct fz NB sa sb sc sd se Ba Bb Bc Bd Be HWd HWe hWe hb hy hn
  unfold TryQ at T
  generalize hZ : pktV zPkt none 0 0 = Z at *
  clear hZ
  go_enter Try.func15, Try.ntmps15
  go_upto_region 3 with fail
  rw [← hWa, ← hWb, ← hWc, ← hWd]
  clear hWa hWb hWc hWd hzv
  go_upto_region 4 with (first
    | (go_at_call 27; (refine T.out.mono ?_); rintro e Wr ⟨rfl, BR, R0, A, n, c, G0⟩
       have HBR := Lib.hid BR
       have HR0 := Lib.hid R0
       have HG := Lib.hid G0
       clear BR R0 G0))
  have UP := Lib.hid (UPP.out A n c)
  have SP := Lib.hid (SPP.out A n c)
  have OP := Lib.hid (OPP.out A n c)
  clear UPP SPP OPP T hmf
  obtain ⟨r, hr⟩ : ∃ r : Int, r = (if x = 0 then y else x) := ⟨_, rfl⟩
  have ER := Lib.hid hr.symm
  clear hr
  have FIN := Lib.hid (fun w2 (h : PaG w Wr (w.heap.size + 1) (w.heap.size + 1 + 1) (w.heap.size + 1 + 1 + 1) (pktV (psP bs) A n c) y A n c (psX bs) w2) => (show PsR w bs (.returned (.tuple #[.agg (pktV (psP bs) A n c), .int .i64 r])) w2 from ⟨A, n, c, by rw [← ER.out, EXY.out], h.own.nums, HBR.out.trans h.bel⟩))
  generalize pktV (psP bs) A n c = C at *
  generalize psX bs = X at *
  have L0 := Lib.hid (show w.heap.size ≤ w.heap.size + 1 by omega)
  have N1 := Lib.hid (show w.heap.size + 1 + 1 ≠ w.heap.size + 1 by omega)
  have N2 := Lib.hid (show w.heap.size + 1 + 1 + 1 ≠ w.heap.size + 1 by omega)
  have LR0 := Lib.hid (lt_of_row HR0.out)
  clear EXY
  refine with_act fun a0 ha0 => ?_
  have hl : paT.length = a0.tmps.size := by rw [ha0]; rfl
  have k2 : a0.tmps[2]?.getD undef = .pointer (some ⟨(w.heap.size + 1), 0, none⟩) := by rw [ha0]; rfl
  have k4 : a0.tmps[4]?.getD undef = .pointer (some ⟨(w.heap.size + 1 + 1), 0, none⟩) := by rw [ha0]; rfl
  have k5 : a0.tmps[5]?.getD undef = .pointer (some ⟨(w.heap.size + 1 + 1 + 1), 0, none⟩) := by rw [ha0]; rfl
  have k6 : a0.tmps[6]?.getD undef = .int .i64 x := by rw [ha0]; rfl
  refine wp_region_chd (by kernel_rfl) paT (by kernel_rfl) (by kernel_rfl) hl (fun i => if i = 6 then .int .i64 0 else undef) (by rw [ha0]; rfl) ((w.heap.size + 1)) (OnlyAt (w.heap.size + 1)) [5] (by kernel_rfl) (by decide) (by decide) (fun w' => PaG w Wr (w.heap.size + 1) (w.heap.size + 1 + 1) (w.heap.size + 1 + 1 + 1) C y A n c X w' ∧ (w.heap.size + 1) < w'.heap.size) (paV (w.heap.size + 1) (w.heap.size + 1 + 1) (w.heap.size + 1 + 1 + 1) x y r C) (paR (w.heap.size + 1) Z C) (Nat.le_of_lt LR0.out) ⟨HG.out.keep L0.out (Nat.le_of_lt LR0.out) N1.out N2.out (.inl (Below.refl _ _).drew), LR0.out⟩ HR0.out (fun w1 w2 hb hd h => ⟨h.1.keep L0.out (Nat.le_of_lt h.2) N1.out N2.out hd, by rcases hd with hd | hd; exact Nat.lt_of_lt_of_le h.2 hd.size; exact Nat.lt_of_lt_of_le h.2 hd.1.size⟩) (fun i v w w' _ hd h => paV.keep _ _ _ _ _ _ _ i v w w' hd h) (fun k us us' w w' _ _ hb hR => paR.keep _ _ _ k us us' w w' hb hR) ⟨?_, ?_, ?_, ?_, ?_, ?_, ?_, trivial⟩ ?_
  · refine stepD_val [] (by kernel_rfl) (by decide) (by decide) rfl fun us w' hB hG hV => ?_
    have o4 := (frame_old2 (us := us) (a := a0) (show (paT[4]?).join = none from rfl)).trans k4
    have hg1 := hG.1.pk
    generalize frame paT a0 us = fr at *
    exact load_C 28 4 rfl ((w.heap.size + 1 + 1)) o4 _ _ (0, 0) _ hg1 Try.underlying28 rfl UP.out rfl
  · refine stepD_val [] (by kernel_rfl) (by decide) (by decide) rfl fun us w' hB hG hV => ?_
    have o6 := (frame_old2 (us := us) (a := a0) (show (paT[6]?).join = none from rfl)).trans k6
    generalize frame paT a0 us = fr at *
    exact val_C (v := .int .i64 x) (w' := w') (by go_simp) (Below.refl _ _) rfl
  · refine stepD_val [] (by kernel_rfl) (by decide) (by decide) rfl fun us w' hB hG hV => ?_
    have o5 := (frame_old2 (us := us) (a := a0) (show (paT[5]?).join = none from rfl)).trans k5
    have hc := hG.1.told
    generalize frame paT a0 us = fr at *
    exact val_C (v := .int .i64 y) (w' := w') (by go_simp) (Below.refl _ _) rfl
  · refine stepD_val [1, 2] (by kernel_rfl) (by decide) (by decide) rfl fun us w' hB hG hV => ?_
    have e1 : us 1 = .int .i64 x := hV 1 (by simp)
    have v1 := (frame_at2 (us := us) hl (show (paT[10]?).join = some 1 from rfl)).trans e1
    have e2 : us 2 = .int .i64 y := hV 2 (by simp)
    have v2 := (frame_at2 (us := us) hl (show (paT[11]?).join = some 2 from rfl)).trans e2
    generalize frame paT a0 us = fr at *
    exact val_C (v := .slice (some ⟨w'.heap.size, 0, none⟩) 2 2) (w' := w'.alloc (.cells #[.int .i64 x, .int .i64 y] 31)) (by go_simp) (alloc_below _ _) ⟨_, rfl, (Nat.ne_of_gt hG.2), heap_alloc_new _ _⟩
  · refine stepD_val [3] (by kernel_rfl) (by decide) (by decide) rfl fun us w' hB hG hV => ?_
    obtain ⟨g3, e3, n3, r3⟩ := (show ∃ g, us 3 = .slice (some ⟨g, 0, none⟩) 2 2 ∧ g ≠ (w.heap.size + 1) ∧ w'.heap[g]? = some (.cells #[.int .i64 x, .int .i64 y] 31 (0, 0)) from hV 3 (by simp))
    have v3 := (frame_at2 (us := us) hl (show (paT[12]?).join = some 3 from rfl)).trans e3
    generalize frame paT a0 us = fr at *
    exact call_C (f := 31) (args := #[.slice (some ⟨g3, 0, none⟩) 2 2]) (by go_simp) ((cor_any x y g3 w' r3).mono fun e w'' h => ⟨.int .i64 r, by rw [h.1, ER.out], h.2 ▸ Below.refl _ _, rfl⟩)
  · refine stepD_chain 0 rfl (by decide) [0] (by kernel_rfl) (by decide) rfl fun us w' hB hG hV hR => ?_
    have e0 : us 0 = .agg C := hV 0 (by simp)
    have v0 := (frame_at2 (us := us) hl (show (paT[9]?).join = some 0 from rfl)).trans e0
    have o2 := (frame_old2 (us := us) (a := a0) (show (paT[2]?).join = none from rfl)).trans k2
    generalize frame paT a0 us = fr at *
    exact store_J (R := fun v w'' => (OnlyAt (w.heap.size + 1) w' w'' ∧ Below (w.heap.size + 1) w' w'') ∧ paR (w.heap.size + 1) Z C 1 (upd us 5 v) w'') 28 2 9 rfl (w.heap.size + 1) C o2 v0 _ _ hR UP.out SP.out OP.out ⟨⟨OnlyAt.setRow _ _ _, (OnlyAt.setRow _ _ _).1⟩, setRow_heap _ _ _ _ _ _ hR⟩
  · refine stepD_val [4] (by kernel_rfl) (by decide) (by decide) rfl fun us w' hB hG hV => ?_
    have e4 : us 4 = .int .i64 r := hV 4 (by simp)
    have v4 := (frame_at2 (us := us) hl (show (paT[13]?).join = some 4 from rfl)).trans e4
    generalize frame paT a0 us = fr at *
    exact val_C (v := .int .i64 r) (w' := w') (by go_simp) (Below.refl _ _) rfl
  · intro us w2 hB2 hG hV hR
    have e6 : us 6 = .int .i64 r := hV 6 (by decide) (by decide)
    have hR1 := Lib.hid (show w2.heap[(w.heap.size + 1)]? = some (.cells C 28 (0, 0)) from hR)
    have HG2 := Lib.hid hG.1
    subst ha0
    simp only [frame, paT, fill]
    rw [e6]
    clear hV hR hG hl k2 k4 k5 k6 e6
    go_wp2_with fail
    refine bodyPost_ret (v := .tuple #[.agg C, .int .i64 r]) (adC.results_cell_tmp Try.results15 _ _ (w.heap.size + 1) _ _ _ _ _ (by rfl) hR1.out Try.underlying28 rfl UP.out (by rfl)) rfl ?_
    exact FIN.out w2 HG2.out
end Go.Proofs.Ytmedccfekfnmlaa.pkC

/-
  Rows of slices of bytes: parts, that came in or that the call lays.
-/
namespace Go.Proofs.Ytmedccfekfnmlaa.partsC
open Go.ChangeShapes Go.WideShapes Go.ChangeAt Go.RowKit
open Go.Proofs.Ytmedccfekfnmlaa.memC Go.Proofs.Ytmedccfekfnmlaa.genC Go.Proofs.Ytmedccfekfnmlaa.butC
set_option linter.unusedVariables false
/-- a part: a slice, and what it holds -/
structure Part where
  A : Option Addr
  n : Nat
  c : Nat
  bs : List Int
/-- a part that lies in memory below B -/
structure PartAt (w : World) (B : Nat) (p : Part) : Prop where
  nums : Nums .u8 w B p.A p.n p.bs
  few : p.n ≤ 10000
  byte : ∀ x ∈ p.bs, Byte x
  cap : p.n ≤ p.c
  max : p.c ≤ 9223372036854775807
theorem PartAt.heap {w w' : World} {B : Nat} {p : Part} (h : PartAt w B p) (e : w'.heap = w.heap) : PartAt w' B p := ⟨h.nums.heap e, h.few, h.byte, h.cap, h.max⟩
theorem PartAt.below {w w' : World} {B B' : Nat} {p : Part} (h : PartAt w B p) (hb : Below B w w') (hB : B ≤ B') : PartAt w' B' p := ⟨(h.nums.below hb).more hB, h.few, h.byte, h.cap, h.max⟩
/-- parts that lie in a row -/
structure Parts (w : World) (B : Nat) (P : Option Addr) (ps : List Part) : Prop where
  at_ : 0 < ps.length → ∃ b o, P = some ⟨b, o, none⟩ ∧ b < B ∧ ∀ i (h : i < ps.length), w.cell? ⟨b, o + i, none⟩ = some (.slice ps[i].A ps[i].n ps[i].c)
  all : ∀ p ∈ ps, PartAt w B p
theorem Parts.cell {w : World} {B : Nat} {P : Option Addr} {ps : List Part} (h : Parts w B P ps) {i : Nat} (hi : i < ps.length) :
    ∃ b o, P = some ⟨b, o, none⟩ ∧ b < B ∧ w.cell? ⟨b, o + i, none⟩ = some (.slice ps[i].A ps[i].n ps[i].c) ∧ PartAt w B ps[i] := by
  obtain ⟨b, o, e, hb, hc⟩ := h.at_ (by omega)
  exact ⟨b, o, e, hb, hc i hi, h.all _ (List.getElem_mem _)⟩
theorem Parts.below {w w' : World} {B B' : Nat} {P : Option Addr} {ps : List Part} (h : Parts w B P ps) (hb : Below B w w') (hB : B ≤ B') : Parts w' B' P ps :=
  ⟨fun hl => by
    obtain ⟨b, o, e1, hbb, hc⟩ := h.at_ hl
    exact ⟨b, o, e1, by omega, fun i hi => (hb.cell (p := ⟨b, o + i, none⟩) hbb).trans (hc i hi)⟩, fun p hp => (h.all p hp).below hb hB⟩
theorem Parts.heap {w w' : World} {B : Nat} {P : Option Addr} {ps : List Part} (h : Parts w B P ps) (e : w'.heap = w.heap) : Parts w' B P ps :=
  ⟨fun hl => by
    obtain ⟨b, o, e1, hb, hc⟩ := h.at_ hl
    exact ⟨b, o, e1, hb, fun i hi => (World.cell?_of_block (w := w) (w' := w') (by rw [e])).trans (hc i hi)⟩, fun p hp => (h.all p hp).heap e⟩
/-- how many bytes they have -/
def nsum : List Part → Nat
  | [] => 0
  | p :: r => p.n + nsum r
theorem nsum_append : ∀ (a b : List Part), nsum (a ++ b) = nsum a + nsum b
  | [], b => by simp [nsum]
  | p :: r, b => by rw [List.cons_append, nsum, nsum, nsum_append r b]; omega
theorem nsum_snoc (ps : List Part) (k : Nat) (h : k < ps.length) : nsum (ps.take (k + 1)) = nsum (ps.take k) + ps[k].n := by
  rw [List.take_succ_eq_append_getElem h, nsum_append]; simp [nsum]
theorem nsum_take (ps : List Part) (k : Nat) : nsum (ps.take k) ≤ nsum ps := by
  have h := nsum_append (ps.take k) (ps.drop k)
  rw [List.take_append_drop] at h
  omega
/-- all their bytes -/
def catL (ps : List Part) : List Int := ps.flatMap Part.bs
theorem catL_snoc (ps : List Part) (k : Nat) (h : k < ps.length) : catL (ps.take (k + 1)) = catL (ps.take k) ++ ps[k].bs := by
  rw [List.take_succ_eq_append_getElem h, catL, List.flatMap_append]; simp [catL]
theorem catL_len {w : World} {B : Nat} : ∀ (ps : List Part), (∀ p ∈ ps, PartAt w B p) → (catL ps).length = nsum ps
  | [], _ => rfl
  | p :: r, h => by
    have h1 := (h p (by simp)).nums.len
    have h2 := catL_len r fun q hq => h q (by simp [hq])
    show (p.bs ++ catL r).length = _
    rw [List.length_append, h1, h2]; rfl
theorem catL_byte {w : World} {B : Nat} {ps : List Part} (h : ∀ p ∈ ps, PartAt w B p) : ∀ x ∈ catL ps, Byte x := by
  intro x hx
  obtain ⟨p, hp, hx2⟩ := List.mem_flatMap.1 hx
  exact (h p hp).byte x hx2
theorem PartAt.alloc {w : World} {p : Part} (h : PartAt w w.heap.size p) (o : Obj) : PartAt (w.alloc o) (w.alloc o).heap.size p := h.below (alloc_below w o) (alloc_below w o).size
theorem parts1 {w : World} {A : Option Addr} {n c : Nat} {bs : List Int} (h : PartAt w w.heap.size ⟨A, n, c, bs⟩) (T : TypeId) :
    Parts (w.alloc (.cells #[.slice A n c] T)) (w.alloc (.cells #[.slice A n c] T)).heap.size (some ⟨w.heap.size, 0, none⟩) [⟨A, n, c, bs⟩] := by
  refine ⟨fun _ => ⟨_, 0, rfl, by rw [alloc_size]; exact Nat.lt_succ_self _, fun i hi => ?_⟩, fun p hp => ?_⟩
  · obtain rfl : i = 0 := by simpa using hi
    simp [go_sem]
  · obtain rfl := List.mem_singleton.1 hp
    exact h.alloc _
theorem parts2 {w : World} {A A' : Option Addr} {n c n' c' : Nat} {bs bs' : List Int} (h : PartAt w w.heap.size ⟨A, n, c, bs⟩) (h' : PartAt w w.heap.size ⟨A', n', c', bs'⟩) (T : TypeId) :
    Parts (w.alloc (.cells #[.slice A n c, .slice A' n' c'] T)) (w.alloc (.cells #[.slice A n c, .slice A' n' c'] T)).heap.size (some ⟨w.heap.size, 0, none⟩) [⟨A, n, c, bs⟩, ⟨A', n', c', bs'⟩] := by
  refine ⟨fun _ => ⟨_, 0, rfl, by rw [alloc_size]; exact Nat.lt_succ_self _, fun i hi => ?_⟩, fun p hp => ?_⟩
  · simp only [List.length_cons, List.length_nil] at hi
    match i, hi with
    | 0, _ => simp [go_sem]
    | 1, _ => simp [go_sem]
  · rcases List.mem_cons.1 hp with rfl | hp
    · exact h.alloc _
    · obtain rfl := List.mem_singleton.1 hp
      exact h'.alloc _
theorem parts3 {w : World} {A A' A2 : Option Addr} {n c n' c' n2 c2 : Nat} {bs bs' bs2 : List Int} (h : PartAt w w.heap.size ⟨A, n, c, bs⟩) (h' : PartAt w w.heap.size ⟨A', n', c', bs'⟩) (h2 : PartAt w w.heap.size ⟨A2, n2, c2, bs2⟩) (T : TypeId) :
    Parts (w.alloc (.cells #[.slice A n c, .slice A' n' c', .slice A2 n2 c2] T)) (w.alloc (.cells #[.slice A n c, .slice A' n' c', .slice A2 n2 c2] T)).heap.size (some ⟨w.heap.size, 0, none⟩) [⟨A, n, c, bs⟩, ⟨A', n', c', bs'⟩, ⟨A2, n2, c2, bs2⟩] := by
  refine ⟨fun _ => ⟨_, 0, rfl, by rw [alloc_size]; exact Nat.lt_succ_self _, fun i hi => ?_⟩, fun p hp => ?_⟩
  · simp only [List.length_cons, List.length_nil] at hi
    match i, hi with
    | 0, _ => simp [go_sem]
    | 1, _ => simp [go_sem]
    | 2, _ => simp [go_sem]
  · rcases List.mem_cons.1 hp with rfl | hp
    · exact h.alloc _
    · rcases List.mem_cons.1 hp with rfl | hp
      · exact h'.alloc _
      · obtain rfl := List.mem_singleton.1 hp
        exact h2.alloc _
/-- parts that came in, of any length -/
structure Came (w : World) (B : Nat) (P : Option Addr) (ps : List Part) : Prop where
  at_ : 0 < ps.length → ∃ b o, P = some ⟨b, o, none⟩ ∧ b < B ∧ ∀ i (h : i < ps.length), w.cell? ⟨b, o + i, none⟩ = some (.slice ps[i].A ps[i].n ps[i].c)
  nums : ∀ p ∈ ps, Nums .u8 w B p.A p.n p.bs
  byte : ∀ p ∈ ps, ∀ x ∈ p.bs, Byte x
  size : ∀ p ∈ ps, p.n ≤ p.c ∧ p.c ≤ 9223372036854775807
theorem Came.parts {w : World} {B : Nat} {P : Option Addr} {ps : List Part} (h : Came w B P ps) {N : Nat} (hN : N ≤ 10000) (hf : ∀ i (hi : i < ps.length), ps[i].n ≤ N) : Parts w B P ps :=
  ⟨h.at_, fun p hp => by
    obtain ⟨i, hi, rfl⟩ := List.getElem_of_mem hp
    exact ⟨h.nums _ hp, by have := hf i hi; omega, h.byte _ hp, (h.size _ hp).1, (h.size _ hp).2⟩⟩
def FewR (N : Nat) (ps : List Part) (k : Nat) : Prop := ∀ i (hi : i < ps.length), i < k → ps[i].n ≤ N
/-- slices of bytes that came in -/
theorem open_parts {H : Type} {enc : TypeId × Value → H} {P : Program} {w : World} {base : Nat} {held : Bool} {r : Reach} {b0 : Nat} {t e q : TypeId} {v : Value} {d : DataW H} {pl : List MemPlace}
    (ht : P.underlying t = some (.slice e)) (he : P.underlying e = some (.slice q)) (hq : P.underlying q = some (.int .u8)) (ce : P.cellsOf e = 1) (cq : P.cellsOf q = 1) (hval : Value.okWide P w r b0 t v) (hd : DataW.Trod enc P w base (fun _ => true) held t v d pl) :
    ∃ A m c ps, v = .slice A m c ∧ m ≤ 9223372036854775807 ∧ ps.length = m ∧ Came w w.heap.size A ps := by
  obtain ⟨a, len, cap, rfl⟩ := okWide_slice ht hval
  obtain ⟨fuel, hf⟩ := hd
  rcases Go.Deep.open_int_rows ht he hq ce cq hf with ⟨hcs, _⟩ | ⟨x, l, c, A, L, C, Z, hcs, _, hl, hm, _, hr⟩
  · simp [Value.cells] at hcs
    obtain ⟨rfl, rfl, rfl⟩ := hcs
    exact ⟨none, 0, 0, [], rfl, Nat.zero_le _, rfl, ⟨fun h => absurd h (Nat.lt_irrefl 0), by simp, by simp, by simp⟩⟩
  · simp [Value.cells] at hcs
    obtain ⟨rfl, rfl, rfl⟩ := hcs
    unfold maxLen at hm hr
    have spot : ∀ {y : Addr} {u : Value}, w.cell? y = some u → y = ⟨y.block, y.off, none⟩ := fun {y u} h => by
      obtain ⟨b, o, s⟩ := y
      have : s = none := by simpa using World.cell?_spot h
      subst this; rfl
    refine ⟨some x, len, cap, (List.range len).map fun i => ⟨A i, L i, C i, (Z i).take (L i)⟩, rfl, by omega, by simp, ?_, ?_, ?_, ?_⟩
    · intro h0
      have h0' : 0 < len := by simpa using h0
      obtain ⟨hc, _⟩ := hr 0 (by omega)
      have e0 : x.add 0 = x := by unfold Addr.add; simp
      rw [e0] at hc
      have ex := spot hc
      obtain ⟨b, o, s⟩ := x
      simp at ex
      subst ex
      refine ⟨b, o, rfl, World.block_lt_of_cell? _ _ hc, fun i hi => ?_⟩
      have hi' : i < len := by simpa using hi
      have h2 := (hr i (by omega)).1
      rw [memC.add_plain] at h2
      simpa using h2
    · intro p hp
      obtain ⟨i, hi, rfl⟩ := List.mem_map.1 hp
      have hi' : i < len := List.mem_range.1 hi
      obtain ⟨_, h1, h2, h3, _, h5, h6⟩ := hr i (by omega)
      refine ⟨by simp; omega, fun hn => ?_⟩
      simp only at hn
      cases hA : A i with
      | none => have := h5 hA; omega
      | some y =>
        obtain ⟨_, hc⟩ := h6 y hA
        have h0 := hc 0 (by omega)
        have e0 : y.add 0 = y := by unfold Addr.add; simp
        rw [e0] at h0
        have ey := spot h0
        obtain ⟨b, o, s⟩ := y
        simp at ey
        subst ey
        refine ⟨b, o, rfl, World.block_lt_of_cell? _ _ h0, fun j hj => ?_⟩
        simp only at hj
        have h7 := hc j (by omega)
        rw [memC.add_plain] at h7
        rw [h7]
        simp [List.getD_eq_getElem?_getD, hj]
    · intro p hp y hy
      obtain ⟨i, hi, rfl⟩ := List.mem_map.1 hp
      have hi' : i < len := List.mem_range.1 hi
      obtain ⟨_, _, _, _, h4, _⟩ := hr i (by omega)
      exact bounds_u8 (h4 y (List.mem_of_mem_take hy))
    · intro p hp
      obtain ⟨i, hi, rfl⟩ := List.mem_map.1 hp
      have hi' : i < len := List.mem_range.1 hi
      obtain ⟨_, h1, h2, _⟩ := hr i (by omega)
      exact ⟨h1, by show C i ≤ _; omega⟩
end Go.Proofs.Ytmedccfekfnmlaa.partsC

/-
  AES in memory: arrays of bytes as lists of numbers.
-/
namespace Go.Proofs.Ytmedccfekfnmlaa.aesC
open Go.ChangeShapes Go.WideShapes Go.ChangeAt Go.RowKit
open Go.Proofs.Ytmedccfekfnmlaa.memC Go.Proofs.Ytmedccfekfnmlaa.genC
set_option linter.unusedVariables false
/-- an array of bytes as a value -/
def vec (xs : List Nat) : Array Value := (xs.map fun n : Nat => Value.int .u8 (n : Int)).toArray
/-- block g holds the bytes xs, and nothing else -/
structure Bl (T : TypeId) (w : World) (g : Nat) (xs : List Nat) : Prop where
  row : w.heap[g]? = some (.cells (vec xs) T (0, 0))
section
variable {T : TypeId} {w w' : World} {g : Nat} {xs ys : List Nat}
theorem Bl.heap (h : Bl T w g xs) (e : w'.heap = w.heap) : Bl T w' g xs := ⟨by rw [e]; exact h.row⟩
end
def zs (n : Nat) : List Nat := List.replicate n 0
section
variable {xs ys : List Nat} {j k : Nat}
end
end Go.Proofs.Ytmedccfekfnmlaa.aesC

/-
  AES: a block turned by another one.
-/
namespace Go.Proofs.Ytmedccfekfnmlaa.aesC
open Go.ChangeShapes Go.WideShapes Go.ChangeAt Go.RowKit
open Go.Proofs.Ytmedccfekfnmlaa.memC Go.Proofs.Ytmedccfekfnmlaa.genC
set_option linter.unusedVariables false
/-- the blocks that a call lays: three of 16 bytes -/
structure B3 (w : World) (a b c : List Nat) (wr : World) : Prop where
  b0 : Bl 22 wr w.heap.size a
  b1 : Bl 22 wr (w.heap.size + 1) b
  b2 : Bl 22 wr (w.heap.size + 1 + 1) c
  bel : Below w.heap.size w wr
section
variable {w wr w' : World} {a b c : List Nat}
theorem B3.heap (B : B3 w a b c wr) (e : w'.heap = wr.heap) (e1 : w'.os = wr.os) (e2 : w'.tape = wr.tape) (e3 : w'.output = wr.output) : B3 w a b c w' :=
  ⟨B.b0.heap e, B.b1.heap e, B.b2.heap e, B.bel.trans ⟨e1, e2, e3, by rw [e]; exact Nat.le_refl _, fun k _ => by rw [e]⟩⟩
end
end Go.Proofs.Ytmedccfekfnmlaa.aesC

/-
  AES: the round key behind one.
-/
namespace Go.Proofs.Ytmedccfekfnmlaa.aesC
open Go.ChangeShapes Go.WideShapes Go.ChangeAt Go.RowKit
open Go.Proofs.Ytmedccfekfnmlaa.memC Go.Proofs.Ytmedccfekfnmlaa.genC Go.Proofs.Ytmedccfekfnmlaa.freeC
set_option linter.unusedVariables false
/-- the key and the result -/
structure NG (w : World) (k : List Nat) (wr : World) : Prop where
  b0 : Bl 22 wr w.heap.size k
  b1 : Bl 22 wr (w.heap.size + 1) (zs 16)
  bel : Below w.heap.size w wr
section
variable {w wr w' : World} {g : Nat} {c k : List Nat}
end
end Go.Proofs.Ytmedccfekfnmlaa.aesC

/-
  AES: the code's multiply.
-/
namespace Go.Proofs.Ytmedccfekfnmlaa.aesC
open Go.ChangeShapes Go.WideShapes Go.ChangeAt Go.RowKit
open Go.Proofs.Ytmedccfekfnmlaa.memC Go.Proofs.Ytmedccfekfnmlaa.genC Go.Proofs.Ytmedccfekfnmlaa.freeC
set_option linter.unusedVariables false
theorem NG.heap {w wr w' : World} {k : List Nat} (B : NG w k wr) (e : w'.heap = wr.heap) (e1 : w'.os = wr.os) (e2 : w'.tape = wr.tape) (e3 : w'.output = wr.output) : NG w k w' :=
  ⟨B.b0.heap e, B.b1.heap e, B.bel.trans ⟨e1, e2, e3, by rw [e]; exact Nat.le_refl _, fun k _ => by rw [e]⟩⟩
end Go.Proofs.Ytmedccfekfnmlaa.aesC

/-
  CMAC: the document's Of.
-/
namespace Go.Proofs.Ytmedccfekfnmlaa.aesC
open Go.ChangeShapes Go.WideShapes Go.ChangeAt Go.RowKit
open Go.Proofs.Ytmedccfekfnmlaa.memC Go.Proofs.Ytmedccfekfnmlaa.genC Go.Proofs.Ytmedccfekfnmlaa.butC Go.Proofs.Ytmedccfekfnmlaa.freeC Go.Proofs.Ytmedccfekfnmlaa.partsC
set_option linter.unusedVariables false
/-- rows of other types stand -/
def Keeps (e : TypeId) (w w' : World) : Prop := ∀ (g : Nat) (T : TypeId) (cs : Array Value) (f : Nat × Nat), T ≠ e → w.heap[g]? = some (.cells cs T f) → w'.heap[g]? = some (.cells cs T f)
theorem Keeps.trans {e : TypeId} {a b c : World} (h : Keeps e a b) (h' : Keeps e b c) : Keeps e a c := fun g T cs f ht hg => h' g T cs f ht (h g T cs f ht hg)
/-- the block that is turned, and that nothing below it turned -/
structure XF (V : World) (x : List Nat) (wr : World) : Prop where
  b9 : Bl 22 wr V.heap.size x
  bel : Below V.heap.size V wr
section
variable {V wr w' : World} {x y : List Nat}
theorem XF.heap (h : XF V x wr) (e : w'.heap = wr.heap) (e1 : w'.os = wr.os) (e2 : w'.tape = wr.tape) (e3 : w'.output = wr.output) : XF V x w' :=
  ⟨h.b9.heap e, h.bel.trans ⟨e1, e2, e3, by rw [e]; exact Nat.le_refl _, fun k _ => by rw [e]⟩⟩
end
end Go.Proofs.Ytmedccfekfnmlaa.aesC
