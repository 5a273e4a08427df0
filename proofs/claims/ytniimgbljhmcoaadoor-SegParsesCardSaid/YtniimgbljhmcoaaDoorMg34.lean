/-
  1 texts of a proof, joined.
-/
import Derived.Test.YtniimgbljhmcoaaDoorMg25
import Derived.Test.YtniimgbljhmcoaaDoorMg21
import Derived.Test.YtniimgbljhmcoaaDoorMg24
import Derived.Test.YtniimgbljhmcoaaDoorMg33
import Derived.Test.YtniimgbljhmcoaaDoorMg32
import Derived.Test.YtniimgbljhmcoaaDoorMg12

/-
  Whether two segments are the same: the program's, and the document's.
-/
namespace Go.Proofs.YtniimgbljhmcoaaDoor.sgC
open Go.ChangeShapes Go.WideShapes Go.ChangeAt Go.RowKit
open Go.Proofs.YtniimgbljhmcoaaDoor.memC Go.Proofs.YtniimgbljhmcoaaDoor.genC Go.Proofs.YtniimgbljhmcoaaDoor.butC Go.Proofs.YtniimgbljhmcoaaDoor.freeC Go.Proofs.YtniimgbljhmcoaaDoor.adC
open Go.Proofs.YtniimgbljhmcoaaDoor.opC (Prs optL sameB)
set_option linter.unusedVariables false
set_option maxRecDepth 100000 in
set_option maxHeartbeats 8000000 in
theorem csame_any (p q : Sg) (A A' : Option Addr) (n c n' c' : Nat) (B B' : Option Addr) (m d m' d' : Nat) (xs ys : List Int) (w : World) (hp : p.op.mac.length = 12) (hq : q.op.mac.length = 12) (hA : Prs w w.heap.size A n p.op.sk) (hA' : Prs w w.heap.size A' n' q.op.sk) (hn : n ≤ 1000000) (hn' : n' ≤ 1000000)
    (hx : Nums .u8 w w.heap.size B m xs) (hy : Nums .u8 w w.heap.size B' m' ys) (yx : ∀ x ∈ xs, Byte x) (yy : ∀ x ∈ ys, Byte x) :
    Calls Tryd.prog 17 #[.agg (segV p A n c B m d), .agg (segV q A' n' c' B' m' d')] w (Ret w (.bool (sameS p xs q ys))) := by
  have e1 : (w.alloc (.cells (segV p A n c B m d) 34)).heap.size = w.heap.size + 1 := alloc_size _ _
  obtain ⟨W, hW⟩ : ∃ W, W = (w.alloc (.cells (segV p A n c B m d) 34)).alloc (.cells (segV q A' n' c' B' m' d') 34) := ⟨_, rfl⟩
  have R0 : W.heap[w.heap.size]? = some (.cells (segV p A n c B m d) 34 (0, 0)) := by rw [hW, Below.block (alloc_below _ _) _ (by rw [e1]; omega)]; exact heap_alloc_new w _
  have R1 : W.heap[w.heap.size + 1]? = some (.cells (segV q A' n' c' B' m' d') 34 (0, 0)) := by rw [hW, ← e1]; exact heap_alloc_new _ _
  have HB := Lib.hid (show Below w.heap.size w W by rw [hW]; exact ((Below.refl _ _).alloc (Nat.le_refl _) _).alloc (by simp) _)
  have c0 := segC hp A n c B m d
  have c1 := segC hq A' n' c' B' m' d'
  have LP := Lib.hid (pkC.PkC.part R0 c0.op)
  have LQ := Lib.hid (pkC.PkC.part R1 c1.op)
  have IP := Lib.hid (opt_infoL hp A n c)
  have IQ := Lib.hid (opt_infoL hq A' n' c')
  have OS := Lib.hid (opC.csame_any p.op q.op A A' n c n' c' W hp hq ((hA.below HB.out).more HB.out.size) ((hA'.below HB.out).more HB.out.size) hn hn')
  rw [show opC.optV p.op A n c = (optL p.op A n c).toArray from rfl, show opC.optV q.op A' n' c' = (optL q.op A' n' c').toArray from rfl] at OS
  have D0 := Lib.hid (fun (w2 : World) (h : Below W.heap.size W w2) => pkC.PkC.cell (show w2.heap[w.heap.size]? = _ by rw [h.block _ (opC.lt_of_row R0)]; exact R0) c0.da)
  have D1 := Lib.hid (fun (w2 : World) (h : Below W.heap.size W w2) => pkC.PkC.cell (show w2.heap[w.heap.size + 1]? = _ by rw [h.block _ (opC.lt_of_row R1)]; exact R1) c1.da)
  have k0 := pkC.PkC.cell R0 c0.sp
  have j0 := pkC.PkC.cell R1 c1.sp
  have k1 := pkC.PkC.cell R0 c0.dp
  have j1 := pkC.PkC.cell R1 c1.dp
  have k2 := pkC.PkC.cell R0 c0.sq
  have j2 := pkC.PkC.cell R1 c1.sq
  have k3 := pkC.PkC.cell R0 c0.ak
  have j3 := pkC.PkC.cell R1 c1.ak
  have k4 := pkC.PkC.cell R0 c0.fl
  have j4 := pkC.PkC.cell R1 c1.fl
  have k5 := pkC.PkC.cell R0 c0.wi
  have j5 := pkC.PkC.cell R1 c1.wi
  have k6 := pkC.PkC.cell R0 c0.ur
  have j6 := pkC.PkC.cell R1 c1.ur
  have SS := Lib.hid (fun (w2 : World) (h : Below W.heap.size W w2) => pkC.bytes_same B m d B' m' d' xs ys w2 ((hx.below (HB.out.trans (h.mono HB.out.size))).more (HB.out.trans (h.mono HB.out.size)).size) ((hy.below (HB.out.trans (h.mono HB.out.size))).more (HB.out.trans (h.mono HB.out.size)).size) yx yy)
  obtain ⟨V, hV⟩ : ∃ V, V = sameS p xs q ys := ⟨_, rfl⟩
  rw [← hV]
  unfold sameS at hV
  generalize decide (xs = ys) = e8 at *
  generalize sameB p.op q.op = e7 at *
  generalize optL p.op A n c = L0 at *
  generalize optL q.op A' n' c' = L1 at *
  generalize segV p A n c B m d = CP at *
  generalize segV q A' n' c' B' m' d' = CQ at *
  generalize p.sp = sp1 at *
  generalize q.sp = sp2 at *
  generalize p.dp = dp1 at *
  generalize q.dp = dp2 at *
  generalize p.sq = sq1 at *
  generalize q.sq = sq2 at *
  generalize p.ak = ak1 at *
  generalize q.ak = ak2 at *
  generalize p.fl = fl1 at *
  generalize q.fl = fl2 at *
  generalize p.wi = wi1 at *
  generalize q.wi = wi2 at *
  generalize p.ur = ur1 at *
  generalize q.ur = ur2 at *
  have HV := Lib.hid hV
  clear hp hq hA hA' hn hn' hx hy yx yy c0 c1 R0 R1 e1 hV
  go_enter Tryd.func17, Tryd.ntmps17
  try simp only [List.append_eq, List.cons_append, List.nil_append]
  go_upto_region 1 with fail
  rw [← hW]
  clear hW
  by_cases h0 : sp1 = sp2
  · subst h0
    by_cases h1 : dp1 = dp2
    · subst h1
      by_cases h2 : sq1 = sq2
      · subst h2
        by_cases h3 : ak1 = ak2
        · subst h3
          by_cases h4 : fl1 = fl2
          · subst h4
            by_cases h5 : wi1 = wi2
            · subst h5
              by_cases h6 : ur1 = ur2
              · subst h6
                cases e7
                · have hv := Lib.hid (show V = false by rw [HV.out]; simp)
                  go_wp2_with (first
                    | go_skip
                    | (with_reducible refine atC.at_load 31 53 ?_; refine pkC.wpList_load_partG (by kernel_rfl) 31 (.tmp 53) (by kernel_rfl) (w.heap.size) 7 (by kernel_rfl) L0 _ LP.out Tryd.underlying31 rfl IP.out ?_)
                    | (with_reducible refine atC.at_load 31 55 ?_; refine pkC.wpList_load_partG (by kernel_rfl) 31 (.tmp 55) (by kernel_rfl) (w.heap.size + 1) 7 (by kernel_rfl) L1 _ LQ.out Tryd.underlying31 rfl IQ.out ?_)
                    | (go_at_call 38; (with_reducible refine OS.out.mono ?_); rintro e w2 ⟨rfl, B2⟩
                       have HB2 := Lib.hid (HB.out.trans (B2.mono HB.out.size))
                       have k31 := D0.out w2 B2
                       have j31 := D1.out w2 B2
                       have S2 := Lib.hid (SS.out w2 B2)
                       clear B2)
                    | (go_at_call 39; (with_reducible refine S2.out.mono ?_); rintro e w3 ⟨rfl, rfl⟩))
                  go_ret
                  exact ⟨ret_bool hv.out.symm, HB2.out⟩
                · cases e8
                  · have hv := Lib.hid (show V = false by rw [HV.out]; simp)
                    go_wp2_with (first
                      | go_skip
                      | (with_reducible refine atC.at_load 31 53 ?_; refine pkC.wpList_load_partG (by kernel_rfl) 31 (.tmp 53) (by kernel_rfl) (w.heap.size) 7 (by kernel_rfl) L0 _ LP.out Tryd.underlying31 rfl IP.out ?_)
                      | (with_reducible refine atC.at_load 31 55 ?_; refine pkC.wpList_load_partG (by kernel_rfl) 31 (.tmp 55) (by kernel_rfl) (w.heap.size + 1) 7 (by kernel_rfl) L1 _ LQ.out Tryd.underlying31 rfl IQ.out ?_)
                      | (go_at_call 38; (with_reducible refine OS.out.mono ?_); rintro e w2 ⟨rfl, B2⟩
                         have HB2 := Lib.hid (HB.out.trans (B2.mono HB.out.size))
                         have k31 := D0.out w2 B2
                         have j31 := D1.out w2 B2
                         have S2 := Lib.hid (SS.out w2 B2)
                         clear B2)
                      | (go_at_call 39; (with_reducible refine S2.out.mono ?_); rintro e w3 ⟨rfl, rfl⟩))
                    go_ret
                    exact ⟨ret_bool hv.out.symm, HB2.out⟩
                  · have hv := Lib.hid (show V = true by rw [HV.out]; simp)
                    go_wp2_with (first
                      | go_skip
                      | (with_reducible refine atC.at_load 31 53 ?_; refine pkC.wpList_load_partG (by kernel_rfl) 31 (.tmp 53) (by kernel_rfl) (w.heap.size) 7 (by kernel_rfl) L0 _ LP.out Tryd.underlying31 rfl IP.out ?_)
                      | (with_reducible refine atC.at_load 31 55 ?_; refine pkC.wpList_load_partG (by kernel_rfl) 31 (.tmp 55) (by kernel_rfl) (w.heap.size + 1) 7 (by kernel_rfl) L1 _ LQ.out Tryd.underlying31 rfl IQ.out ?_)
                      | (go_at_call 38; (with_reducible refine OS.out.mono ?_); rintro e w2 ⟨rfl, B2⟩
                         have HB2 := Lib.hid (HB.out.trans (B2.mono HB.out.size))
                         have k31 := D0.out w2 B2
                         have j31 := D1.out w2 B2
                         have S2 := Lib.hid (SS.out w2 B2)
                         clear B2)
                      | (go_at_call 39; (with_reducible refine S2.out.mono ?_); rintro e w3 ⟨rfl, rfl⟩))
                    go_ret
                    exact ⟨ret_bool hv.out.symm, HB2.out⟩
              · have hq6 : (ur1 == ur2) = false := beq_eq_false_iff_ne.2 h6
                have hv := Lib.hid (show V = false by rw [HV.out]; simp [h6])
                go_wp2_with (first
                  | go_skip
                  | (with_reducible refine atC.at_load 31 53 ?_; refine pkC.wpList_load_partG (by kernel_rfl) 31 (.tmp 53) (by kernel_rfl) (w.heap.size) 7 (by kernel_rfl) L0 _ LP.out Tryd.underlying31 rfl IP.out ?_)
                  | (with_reducible refine atC.at_load 31 55 ?_; refine pkC.wpList_load_partG (by kernel_rfl) 31 (.tmp 55) (by kernel_rfl) (w.heap.size + 1) 7 (by kernel_rfl) L1 _ LQ.out Tryd.underlying31 rfl IQ.out ?_)
                  | (go_at_call 38; (with_reducible refine OS.out.mono ?_); rintro e w2 ⟨rfl, B2⟩
                     have HB2 := Lib.hid (HB.out.trans (B2.mono HB.out.size))
                     have k31 := D0.out w2 B2
                     have j31 := D1.out w2 B2
                     have S2 := Lib.hid (SS.out w2 B2)
                     clear B2)
                  | (go_at_call 39; (with_reducible refine S2.out.mono ?_); rintro e w3 ⟨rfl, rfl⟩))
                go_ret
                exact ⟨ret_bool hv.out.symm, HB.out⟩
            · have hq5 : (wi1 == wi2) = false := beq_eq_false_iff_ne.2 h5
              have hv := Lib.hid (show V = false by rw [HV.out]; simp [h5])
              go_wp2_with (first
                | go_skip
                | (with_reducible refine atC.at_load 31 53 ?_; refine pkC.wpList_load_partG (by kernel_rfl) 31 (.tmp 53) (by kernel_rfl) (w.heap.size) 7 (by kernel_rfl) L0 _ LP.out Tryd.underlying31 rfl IP.out ?_)
                | (with_reducible refine atC.at_load 31 55 ?_; refine pkC.wpList_load_partG (by kernel_rfl) 31 (.tmp 55) (by kernel_rfl) (w.heap.size + 1) 7 (by kernel_rfl) L1 _ LQ.out Tryd.underlying31 rfl IQ.out ?_)
                | (go_at_call 38; (with_reducible refine OS.out.mono ?_); rintro e w2 ⟨rfl, B2⟩
                   have HB2 := Lib.hid (HB.out.trans (B2.mono HB.out.size))
                   have k31 := D0.out w2 B2
                   have j31 := D1.out w2 B2
                   have S2 := Lib.hid (SS.out w2 B2)
                   clear B2)
                | (go_at_call 39; (with_reducible refine S2.out.mono ?_); rintro e w3 ⟨rfl, rfl⟩))
              go_ret
              exact ⟨ret_bool hv.out.symm, HB.out⟩
          · have hq4 : (fl1 == fl2) = false := beq_eq_false_iff_ne.2 h4
            have hv := Lib.hid (show V = false by rw [HV.out]; simp [h4])
            go_wp2_with (first
              | go_skip
              | (with_reducible refine atC.at_load 31 53 ?_; refine pkC.wpList_load_partG (by kernel_rfl) 31 (.tmp 53) (by kernel_rfl) (w.heap.size) 7 (by kernel_rfl) L0 _ LP.out Tryd.underlying31 rfl IP.out ?_)
              | (with_reducible refine atC.at_load 31 55 ?_; refine pkC.wpList_load_partG (by kernel_rfl) 31 (.tmp 55) (by kernel_rfl) (w.heap.size + 1) 7 (by kernel_rfl) L1 _ LQ.out Tryd.underlying31 rfl IQ.out ?_)
              | (go_at_call 38; (with_reducible refine OS.out.mono ?_); rintro e w2 ⟨rfl, B2⟩
                 have HB2 := Lib.hid (HB.out.trans (B2.mono HB.out.size))
                 have k31 := D0.out w2 B2
                 have j31 := D1.out w2 B2
                 have S2 := Lib.hid (SS.out w2 B2)
                 clear B2)
              | (go_at_call 39; (with_reducible refine S2.out.mono ?_); rintro e w3 ⟨rfl, rfl⟩))
            go_ret
            exact ⟨ret_bool hv.out.symm, HB.out⟩
        · have hq3 : (ak1 == ak2) = false := beq_eq_false_iff_ne.2 h3
          have hv := Lib.hid (show V = false by rw [HV.out]; simp [h3])
          go_wp2_with (first
            | go_skip
            | (with_reducible refine atC.at_load 31 53 ?_; refine pkC.wpList_load_partG (by kernel_rfl) 31 (.tmp 53) (by kernel_rfl) (w.heap.size) 7 (by kernel_rfl) L0 _ LP.out Tryd.underlying31 rfl IP.out ?_)
            | (with_reducible refine atC.at_load 31 55 ?_; refine pkC.wpList_load_partG (by kernel_rfl) 31 (.tmp 55) (by kernel_rfl) (w.heap.size + 1) 7 (by kernel_rfl) L1 _ LQ.out Tryd.underlying31 rfl IQ.out ?_)
            | (go_at_call 38; (with_reducible refine OS.out.mono ?_); rintro e w2 ⟨rfl, B2⟩
               have HB2 := Lib.hid (HB.out.trans (B2.mono HB.out.size))
               have k31 := D0.out w2 B2
               have j31 := D1.out w2 B2
               have S2 := Lib.hid (SS.out w2 B2)
               clear B2)
            | (go_at_call 39; (with_reducible refine S2.out.mono ?_); rintro e w3 ⟨rfl, rfl⟩))
          go_ret
          exact ⟨ret_bool hv.out.symm, HB.out⟩
      · have hq2 : (sq1 == sq2) = false := beq_eq_false_iff_ne.2 h2
        have hv := Lib.hid (show V = false by rw [HV.out]; simp [h2])
        go_wp2_with (first
          | go_skip
          | (with_reducible refine atC.at_load 31 53 ?_; refine pkC.wpList_load_partG (by kernel_rfl) 31 (.tmp 53) (by kernel_rfl) (w.heap.size) 7 (by kernel_rfl) L0 _ LP.out Tryd.underlying31 rfl IP.out ?_)
          | (with_reducible refine atC.at_load 31 55 ?_; refine pkC.wpList_load_partG (by kernel_rfl) 31 (.tmp 55) (by kernel_rfl) (w.heap.size + 1) 7 (by kernel_rfl) L1 _ LQ.out Tryd.underlying31 rfl IQ.out ?_)
          | (go_at_call 38; (with_reducible refine OS.out.mono ?_); rintro e w2 ⟨rfl, B2⟩
             have HB2 := Lib.hid (HB.out.trans (B2.mono HB.out.size))
             have k31 := D0.out w2 B2
             have j31 := D1.out w2 B2
             have S2 := Lib.hid (SS.out w2 B2)
             clear B2)
          | (go_at_call 39; (with_reducible refine S2.out.mono ?_); rintro e w3 ⟨rfl, rfl⟩))
        go_ret
        exact ⟨ret_bool hv.out.symm, HB.out⟩
    · have hq1 : (dp1 == dp2) = false := beq_eq_false_iff_ne.2 h1
      have hv := Lib.hid (show V = false by rw [HV.out]; simp [h1])
      go_wp2_with (first
        | go_skip
        | (with_reducible refine atC.at_load 31 53 ?_; refine pkC.wpList_load_partG (by kernel_rfl) 31 (.tmp 53) (by kernel_rfl) (w.heap.size) 7 (by kernel_rfl) L0 _ LP.out Tryd.underlying31 rfl IP.out ?_)
        | (with_reducible refine atC.at_load 31 55 ?_; refine pkC.wpList_load_partG (by kernel_rfl) 31 (.tmp 55) (by kernel_rfl) (w.heap.size + 1) 7 (by kernel_rfl) L1 _ LQ.out Tryd.underlying31 rfl IQ.out ?_)
        | (go_at_call 38; (with_reducible refine OS.out.mono ?_); rintro e w2 ⟨rfl, B2⟩
           have HB2 := Lib.hid (HB.out.trans (B2.mono HB.out.size))
           have k31 := D0.out w2 B2
           have j31 := D1.out w2 B2
           have S2 := Lib.hid (SS.out w2 B2)
           clear B2)
        | (go_at_call 39; (with_reducible refine S2.out.mono ?_); rintro e w3 ⟨rfl, rfl⟩))
      go_ret
      exact ⟨ret_bool hv.out.symm, HB.out⟩
  · have hq0 : (sp1 == sp2) = false := beq_eq_false_iff_ne.2 h0
    have hv := Lib.hid (show V = false by rw [HV.out]; simp [h0])
    go_wp2_with (first
      | go_skip
      | (with_reducible refine atC.at_load 31 53 ?_; refine pkC.wpList_load_partG (by kernel_rfl) 31 (.tmp 53) (by kernel_rfl) (w.heap.size) 7 (by kernel_rfl) L0 _ LP.out Tryd.underlying31 rfl IP.out ?_)
      | (with_reducible refine atC.at_load 31 55 ?_; refine pkC.wpList_load_partG (by kernel_rfl) 31 (.tmp 55) (by kernel_rfl) (w.heap.size + 1) 7 (by kernel_rfl) L1 _ LQ.out Tryd.underlying31 rfl IQ.out ?_)
      | (go_at_call 38; (with_reducible refine OS.out.mono ?_); rintro e w2 ⟨rfl, B2⟩
         have HB2 := Lib.hid (HB.out.trans (B2.mono HB.out.size))
         have k31 := D0.out w2 B2
         have j31 := D1.out w2 B2
         have S2 := Lib.hid (SS.out w2 B2)
         clear B2)
      | (go_at_call 39; (with_reducible refine S2.out.mono ?_); rintro e w3 ⟨rfl, rfl⟩))
    go_ret
    exact ⟨ret_bool hv.out.symm, HB.out⟩
set_option maxRecDepth 100000 in
set_option maxHeartbeats 8000000 in
theorem rsame_any (p q : Sg) (A A' : Option Addr) (n c n' c' : Nat) (B B' : Option Addr) (m d m' d' : Nat) (xs ys : List Int) (w : World) (hp : p.op.mac.length = 12) (hq : q.op.mac.length = 12) (hA : Prs w w.heap.size A n p.op.sk) (hA' : Prs w w.heap.size A' n' q.op.sk) (hn : n ≤ 1000000) (hn' : n' ≤ 1000000)
    (hx : Nums .u8 w w.heap.size B m xs) (hy : Nums .u8 w w.heap.size B' m' ys) (yx : ∀ x ∈ xs, Byte x) (yy : ∀ x ∈ ys, Byte x) :
    Calls Tryd.prog 18 #[.agg (segV p A n c B m d), .agg (segV q A' n' c' B' m' d')] w (Ret w (.bool (sameS p xs q ys))) := by
  have e1 : (w.alloc (.cells (segV p A n c B m d) 34)).heap.size = w.heap.size + 1 := alloc_size _ _
  obtain ⟨W, hW⟩ : ∃ W, W = (w.alloc (.cells (segV p A n c B m d) 34)).alloc (.cells (segV q A' n' c' B' m' d') 34) := ⟨_, rfl⟩
  have R0 : W.heap[w.heap.size]? = some (.cells (segV p A n c B m d) 34 (0, 0)) := by rw [hW, Below.block (alloc_below _ _) _ (by rw [e1]; omega)]; exact heap_alloc_new w _
  have R1 : W.heap[w.heap.size + 1]? = some (.cells (segV q A' n' c' B' m' d') 34 (0, 0)) := by rw [hW, ← e1]; exact heap_alloc_new _ _
  have HB := Lib.hid (show Below w.heap.size w W by rw [hW]; exact ((Below.refl _ _).alloc (Nat.le_refl _) _).alloc (by simp) _)
  have c0 := segC hp A n c B m d
  have c1 := segC hq A' n' c' B' m' d'
  have LP := Lib.hid (pkC.PkC.part R0 c0.op)
  have LQ := Lib.hid (pkC.PkC.part R1 c1.op)
  have IP := Lib.hid (opt_infoL hp A n c)
  have IQ := Lib.hid (opt_infoL hq A' n' c')
  have OS := Lib.hid (opC.rsame_any p.op q.op A A' n c n' c' W hp hq ((hA.below HB.out).more HB.out.size) ((hA'.below HB.out).more HB.out.size) hn hn')
  rw [show opC.optV p.op A n c = (optL p.op A n c).toArray from rfl, show opC.optV q.op A' n' c' = (optL q.op A' n' c').toArray from rfl] at OS
  have D0 := Lib.hid (fun (w2 : World) (h : Below W.heap.size W w2) => pkC.PkC.cell (show w2.heap[w.heap.size]? = _ by rw [h.block _ (opC.lt_of_row R0)]; exact R0) c0.da)
  have D1 := Lib.hid (fun (w2 : World) (h : Below W.heap.size W w2) => pkC.PkC.cell (show w2.heap[w.heap.size + 1]? = _ by rw [h.block _ (opC.lt_of_row R1)]; exact R1) c1.da)
  have k0 := pkC.PkC.cell R0 c0.sp
  have j0 := pkC.PkC.cell R1 c1.sp
  have k1 := pkC.PkC.cell R0 c0.dp
  have j1 := pkC.PkC.cell R1 c1.dp
  have k2 := pkC.PkC.cell R0 c0.sq
  have j2 := pkC.PkC.cell R1 c1.sq
  have k3 := pkC.PkC.cell R0 c0.ak
  have j3 := pkC.PkC.cell R1 c1.ak
  have k4 := pkC.PkC.cell R0 c0.fl
  have j4 := pkC.PkC.cell R1 c1.fl
  have k5 := pkC.PkC.cell R0 c0.wi
  have j5 := pkC.PkC.cell R1 c1.wi
  have k6 := pkC.PkC.cell R0 c0.ur
  have j6 := pkC.PkC.cell R1 c1.ur
  have HCX := Lib.hid (fun (w2 : World) (h : Below W.heap.size W w2) => (show (convert 32 9 (.slice B m d)).run Tryd.prog w2 = .ok (.string (strOfNums xs)) w2 from run_string (hx.below (HB.out.trans (h.mono HB.out.size))) d 32 5 9 Tryd.underlying32 Tryd.underlying5 Tryd.underlying9))
  have HCY := Lib.hid (fun (w2 : World) (h : Below W.heap.size W w2) => (show (convert 32 9 (.slice B' m' d')).run Tryd.prog w2 = .ok (.string (strOfNums ys)) w2 from run_string (hy.below (HB.out.trans (h.mono HB.out.size))) d' 32 5 9 Tryd.underlying32 Tryd.underlying5 Tryd.underlying9))
  have HS : ((strOfNums xs).toList == (strOfNums ys).toList) = decide (xs = ys) := by
    rw [str_eqb yx yy]
    by_cases h : xs = ys
    · subst h; rw [lexL_self]; simp
    · rw [decide_eq_false h]; exact beq_eq_false_iff_ne.2 fun e => h (lexL_zero _ _ e)
  generalize strOfNums xs = X at *
  generalize strOfNums ys = Y at *
  obtain ⟨V, hV⟩ : ∃ V, V = sameS p xs q ys := ⟨_, rfl⟩
  rw [← hV]
  unfold sameS at hV
  generalize decide (xs = ys) = e8 at *
  generalize sameB p.op q.op = e7 at *
  generalize optL p.op A n c = L0 at *
  generalize optL q.op A' n' c' = L1 at *
  generalize segV p A n c B m d = CP at *
  generalize segV q A' n' c' B' m' d' = CQ at *
  generalize p.sp = sp1 at *
  generalize q.sp = sp2 at *
  generalize p.dp = dp1 at *
  generalize q.dp = dp2 at *
  generalize p.sq = sq1 at *
  generalize q.sq = sq2 at *
  generalize p.ak = ak1 at *
  generalize q.ak = ak2 at *
  generalize p.fl = fl1 at *
  generalize q.fl = fl2 at *
  generalize p.wi = wi1 at *
  generalize q.wi = wi2 at *
  generalize p.ur = ur1 at *
  generalize q.ur = ur2 at *
  have HE := Lib.hid HS
  have HV := Lib.hid hV
  clear hp hq hA hA' hn hn' hx hy yx yy c0 c1 R0 R1 e1 hV HS
  go_enter Tryd.func18, Tryd.ntmps18
  try simp only [List.append_eq, List.cons_append, List.nil_append]
  go_upto_region 1 with fail
  rw [← hW]
  clear hW
  by_cases h0 : sp1 = sp2
  · subst h0
    by_cases h1 : dp1 = dp2
    · subst h1
      by_cases h2 : sq1 = sq2
      · subst h2
        by_cases h3 : ak1 = ak2
        · subst h3
          by_cases h4 : fl1 = fl2
          · subst h4
            by_cases h5 : wi1 = wi2
            · subst h5
              by_cases h6 : ur1 = ur2
              · subst h6
                cases e7
                · have hv := Lib.hid (show V = false by rw [HV.out]; simp)
                  go_wp2_with (first
                    | go_skip
                    | (with_reducible refine atC.at_load 31 53 ?_; refine pkC.wpList_load_partG (by kernel_rfl) 31 (.tmp 53) (by kernel_rfl) (w.heap.size) 7 (by kernel_rfl) L0 _ LP.out Tryd.underlying31 rfl IP.out ?_)
                    | (with_reducible refine atC.at_load 31 55 ?_; refine pkC.wpList_load_partG (by kernel_rfl) 31 (.tmp 55) (by kernel_rfl) (w.heap.size + 1) 7 (by kernel_rfl) L1 _ LQ.out Tryd.underlying31 rfl IQ.out ?_)
                    | (go_at_call 40; (with_reducible refine OS.out.mono ?_); rintro e w2 ⟨rfl, B2⟩
                       have HB2 := Lib.hid (HB.out.trans (B2.mono HB.out.size))
                       have k31 := D0.out w2 B2
                       have j31 := D1.out w2 B2
                       have hcx := HCX.out w2 B2
                       have hcy := HCY.out w2 B2
                       clear B2)
                    | (with_reducible refine atC.at_bin .eql 9 ?_; refine wpList_runG (by kernel_rfl) _ (seq_run (T := 9) (S := X) (S' := Y) rfl (by kernel_rfl) (by kernel_rfl) HE.out) ?_))
                  go_ret
                  exact ⟨ret_bool hv.out.symm, HB2.out⟩
                · cases e8
                  · have hv := Lib.hid (show V = false by rw [HV.out]; simp)
                    go_wp2_with (first
                      | go_skip
                      | (with_reducible refine atC.at_load 31 53 ?_; refine pkC.wpList_load_partG (by kernel_rfl) 31 (.tmp 53) (by kernel_rfl) (w.heap.size) 7 (by kernel_rfl) L0 _ LP.out Tryd.underlying31 rfl IP.out ?_)
                      | (with_reducible refine atC.at_load 31 55 ?_; refine pkC.wpList_load_partG (by kernel_rfl) 31 (.tmp 55) (by kernel_rfl) (w.heap.size + 1) 7 (by kernel_rfl) L1 _ LQ.out Tryd.underlying31 rfl IQ.out ?_)
                      | (go_at_call 40; (with_reducible refine OS.out.mono ?_); rintro e w2 ⟨rfl, B2⟩
                         have HB2 := Lib.hid (HB.out.trans (B2.mono HB.out.size))
                         have k31 := D0.out w2 B2
                         have j31 := D1.out w2 B2
                         have hcx := HCX.out w2 B2
                         have hcy := HCY.out w2 B2
                         clear B2)
                      | (with_reducible refine atC.at_bin .eql 9 ?_; refine wpList_runG (by kernel_rfl) _ (seq_run (T := 9) (S := X) (S' := Y) rfl (by kernel_rfl) (by kernel_rfl) HE.out) ?_))
                    go_ret
                    exact ⟨ret_bool hv.out.symm, HB2.out⟩
                  · have hv := Lib.hid (show V = true by rw [HV.out]; simp)
                    go_wp2_with (first
                      | go_skip
                      | (with_reducible refine atC.at_load 31 53 ?_; refine pkC.wpList_load_partG (by kernel_rfl) 31 (.tmp 53) (by kernel_rfl) (w.heap.size) 7 (by kernel_rfl) L0 _ LP.out Tryd.underlying31 rfl IP.out ?_)
                      | (with_reducible refine atC.at_load 31 55 ?_; refine pkC.wpList_load_partG (by kernel_rfl) 31 (.tmp 55) (by kernel_rfl) (w.heap.size + 1) 7 (by kernel_rfl) L1 _ LQ.out Tryd.underlying31 rfl IQ.out ?_)
                      | (go_at_call 40; (with_reducible refine OS.out.mono ?_); rintro e w2 ⟨rfl, B2⟩
                         have HB2 := Lib.hid (HB.out.trans (B2.mono HB.out.size))
                         have k31 := D0.out w2 B2
                         have j31 := D1.out w2 B2
                         have hcx := HCX.out w2 B2
                         have hcy := HCY.out w2 B2
                         clear B2)
                      | (with_reducible refine atC.at_bin .eql 9 ?_; refine wpList_runG (by kernel_rfl) _ (seq_run (T := 9) (S := X) (S' := Y) rfl (by kernel_rfl) (by kernel_rfl) HE.out) ?_))
                    go_ret
                    exact ⟨ret_bool hv.out.symm, HB2.out⟩
              · have hq6 : (ur1 == ur2) = false := beq_eq_false_iff_ne.2 h6
                have hv := Lib.hid (show V = false by rw [HV.out]; simp [h6])
                go_wp2_with (first
                  | go_skip
                  | (with_reducible refine atC.at_load 31 53 ?_; refine pkC.wpList_load_partG (by kernel_rfl) 31 (.tmp 53) (by kernel_rfl) (w.heap.size) 7 (by kernel_rfl) L0 _ LP.out Tryd.underlying31 rfl IP.out ?_)
                  | (with_reducible refine atC.at_load 31 55 ?_; refine pkC.wpList_load_partG (by kernel_rfl) 31 (.tmp 55) (by kernel_rfl) (w.heap.size + 1) 7 (by kernel_rfl) L1 _ LQ.out Tryd.underlying31 rfl IQ.out ?_)
                  | (go_at_call 40; (with_reducible refine OS.out.mono ?_); rintro e w2 ⟨rfl, B2⟩
                     have HB2 := Lib.hid (HB.out.trans (B2.mono HB.out.size))
                     have k31 := D0.out w2 B2
                     have j31 := D1.out w2 B2
                     have hcx := HCX.out w2 B2
                     have hcy := HCY.out w2 B2
                     clear B2)
                  | (with_reducible refine atC.at_bin .eql 9 ?_; refine wpList_runG (by kernel_rfl) _ (seq_run (T := 9) (S := X) (S' := Y) rfl (by kernel_rfl) (by kernel_rfl) HE.out) ?_))
                go_ret
                exact ⟨ret_bool hv.out.symm, HB.out⟩
            · have hq5 : (wi1 == wi2) = false := beq_eq_false_iff_ne.2 h5
              have hv := Lib.hid (show V = false by rw [HV.out]; simp [h5])
              go_wp2_with (first
                | go_skip
                | (with_reducible refine atC.at_load 31 53 ?_; refine pkC.wpList_load_partG (by kernel_rfl) 31 (.tmp 53) (by kernel_rfl) (w.heap.size) 7 (by kernel_rfl) L0 _ LP.out Tryd.underlying31 rfl IP.out ?_)
                | (with_reducible refine atC.at_load 31 55 ?_; refine pkC.wpList_load_partG (by kernel_rfl) 31 (.tmp 55) (by kernel_rfl) (w.heap.size + 1) 7 (by kernel_rfl) L1 _ LQ.out Tryd.underlying31 rfl IQ.out ?_)
                | (go_at_call 40; (with_reducible refine OS.out.mono ?_); rintro e w2 ⟨rfl, B2⟩
                   have HB2 := Lib.hid (HB.out.trans (B2.mono HB.out.size))
                   have k31 := D0.out w2 B2
                   have j31 := D1.out w2 B2
                   have hcx := HCX.out w2 B2
                   have hcy := HCY.out w2 B2
                   clear B2)
                | (with_reducible refine atC.at_bin .eql 9 ?_; refine wpList_runG (by kernel_rfl) _ (seq_run (T := 9) (S := X) (S' := Y) rfl (by kernel_rfl) (by kernel_rfl) HE.out) ?_))
              go_ret
              exact ⟨ret_bool hv.out.symm, HB.out⟩
          · have hq4 : (fl1 == fl2) = false := beq_eq_false_iff_ne.2 h4
            have hv := Lib.hid (show V = false by rw [HV.out]; simp [h4])
            go_wp2_with (first
              | go_skip
              | (with_reducible refine atC.at_load 31 53 ?_; refine pkC.wpList_load_partG (by kernel_rfl) 31 (.tmp 53) (by kernel_rfl) (w.heap.size) 7 (by kernel_rfl) L0 _ LP.out Tryd.underlying31 rfl IP.out ?_)
              | (with_reducible refine atC.at_load 31 55 ?_; refine pkC.wpList_load_partG (by kernel_rfl) 31 (.tmp 55) (by kernel_rfl) (w.heap.size + 1) 7 (by kernel_rfl) L1 _ LQ.out Tryd.underlying31 rfl IQ.out ?_)
              | (go_at_call 40; (with_reducible refine OS.out.mono ?_); rintro e w2 ⟨rfl, B2⟩
                 have HB2 := Lib.hid (HB.out.trans (B2.mono HB.out.size))
                 have k31 := D0.out w2 B2
                 have j31 := D1.out w2 B2
                 have hcx := HCX.out w2 B2
                 have hcy := HCY.out w2 B2
                 clear B2)
              | (with_reducible refine atC.at_bin .eql 9 ?_; refine wpList_runG (by kernel_rfl) _ (seq_run (T := 9) (S := X) (S' := Y) rfl (by kernel_rfl) (by kernel_rfl) HE.out) ?_))
            go_ret
            exact ⟨ret_bool hv.out.symm, HB.out⟩
        · have hq3 : (ak1 == ak2) = false := beq_eq_false_iff_ne.2 h3
          have hv := Lib.hid (show V = false by rw [HV.out]; simp [h3])
          go_wp2_with (first
            | go_skip
            | (with_reducible refine atC.at_load 31 53 ?_; refine pkC.wpList_load_partG (by kernel_rfl) 31 (.tmp 53) (by kernel_rfl) (w.heap.size) 7 (by kernel_rfl) L0 _ LP.out Tryd.underlying31 rfl IP.out ?_)
            | (with_reducible refine atC.at_load 31 55 ?_; refine pkC.wpList_load_partG (by kernel_rfl) 31 (.tmp 55) (by kernel_rfl) (w.heap.size + 1) 7 (by kernel_rfl) L1 _ LQ.out Tryd.underlying31 rfl IQ.out ?_)
            | (go_at_call 40; (with_reducible refine OS.out.mono ?_); rintro e w2 ⟨rfl, B2⟩
               have HB2 := Lib.hid (HB.out.trans (B2.mono HB.out.size))
               have k31 := D0.out w2 B2
               have j31 := D1.out w2 B2
               have hcx := HCX.out w2 B2
               have hcy := HCY.out w2 B2
               clear B2)
            | (with_reducible refine atC.at_bin .eql 9 ?_; refine wpList_runG (by kernel_rfl) _ (seq_run (T := 9) (S := X) (S' := Y) rfl (by kernel_rfl) (by kernel_rfl) HE.out) ?_))
          go_ret
          exact ⟨ret_bool hv.out.symm, HB.out⟩
      · have hq2 : (sq1 == sq2) = false := beq_eq_false_iff_ne.2 h2
        have hv := Lib.hid (show V = false by rw [HV.out]; simp [h2])
        go_wp2_with (first
          | go_skip
          | (with_reducible refine atC.at_load 31 53 ?_; refine pkC.wpList_load_partG (by kernel_rfl) 31 (.tmp 53) (by kernel_rfl) (w.heap.size) 7 (by kernel_rfl) L0 _ LP.out Tryd.underlying31 rfl IP.out ?_)
          | (with_reducible refine atC.at_load 31 55 ?_; refine pkC.wpList_load_partG (by kernel_rfl) 31 (.tmp 55) (by kernel_rfl) (w.heap.size + 1) 7 (by kernel_rfl) L1 _ LQ.out Tryd.underlying31 rfl IQ.out ?_)
          | (go_at_call 40; (with_reducible refine OS.out.mono ?_); rintro e w2 ⟨rfl, B2⟩
             have HB2 := Lib.hid (HB.out.trans (B2.mono HB.out.size))
             have k31 := D0.out w2 B2
             have j31 := D1.out w2 B2
             have hcx := HCX.out w2 B2
             have hcy := HCY.out w2 B2
             clear B2)
          | (with_reducible refine atC.at_bin .eql 9 ?_; refine wpList_runG (by kernel_rfl) _ (seq_run (T := 9) (S := X) (S' := Y) rfl (by kernel_rfl) (by kernel_rfl) HE.out) ?_))
        go_ret
        exact ⟨ret_bool hv.out.symm, HB.out⟩
    · have hq1 : (dp1 == dp2) = false := beq_eq_false_iff_ne.2 h1
      have hv := Lib.hid (show V = false by rw [HV.out]; simp [h1])
      go_wp2_with (first
        | go_skip
        | (with_reducible refine atC.at_load 31 53 ?_; refine pkC.wpList_load_partG (by kernel_rfl) 31 (.tmp 53) (by kernel_rfl) (w.heap.size) 7 (by kernel_rfl) L0 _ LP.out Tryd.underlying31 rfl IP.out ?_)
        | (with_reducible refine atC.at_load 31 55 ?_; refine pkC.wpList_load_partG (by kernel_rfl) 31 (.tmp 55) (by kernel_rfl) (w.heap.size + 1) 7 (by kernel_rfl) L1 _ LQ.out Tryd.underlying31 rfl IQ.out ?_)
        | (go_at_call 40; (with_reducible refine OS.out.mono ?_); rintro e w2 ⟨rfl, B2⟩
           have HB2 := Lib.hid (HB.out.trans (B2.mono HB.out.size))
           have k31 := D0.out w2 B2
           have j31 := D1.out w2 B2
           have hcx := HCX.out w2 B2
           have hcy := HCY.out w2 B2
           clear B2)
        | (with_reducible refine atC.at_bin .eql 9 ?_; refine wpList_runG (by kernel_rfl) _ (seq_run (T := 9) (S := X) (S' := Y) rfl (by kernel_rfl) (by kernel_rfl) HE.out) ?_))
      go_ret
      exact ⟨ret_bool hv.out.symm, HB.out⟩
  · have hq0 : (sp1 == sp2) = false := beq_eq_false_iff_ne.2 h0
    have hv := Lib.hid (show V = false by rw [HV.out]; simp [h0])
    go_wp2_with (first
      | go_skip
      | (with_reducible refine atC.at_load 31 53 ?_; refine pkC.wpList_load_partG (by kernel_rfl) 31 (.tmp 53) (by kernel_rfl) (w.heap.size) 7 (by kernel_rfl) L0 _ LP.out Tryd.underlying31 rfl IP.out ?_)
      | (with_reducible refine atC.at_load 31 55 ?_; refine pkC.wpList_load_partG (by kernel_rfl) 31 (.tmp 55) (by kernel_rfl) (w.heap.size + 1) 7 (by kernel_rfl) L1 _ LQ.out Tryd.underlying31 rfl IQ.out ?_)
      | (go_at_call 40; (with_reducible refine OS.out.mono ?_); rintro e w2 ⟨rfl, B2⟩
         have HB2 := Lib.hid (HB.out.trans (B2.mono HB.out.size))
         have k31 := D0.out w2 B2
         have j31 := D1.out w2 B2
         have hcx := HCX.out w2 B2
         have hcy := HCY.out w2 B2
         clear B2)
      | (with_reducible refine atC.at_bin .eql 9 ?_; refine wpList_runG (by kernel_rfl) _ (seq_run (T := 9) (S := X) (S' := Y) rfl (by kernel_rfl) (by kernel_rfl) HE.out) ?_))
    go_ret
    exact ⟨ret_bool hv.out.symm, HB.out⟩
end Go.Proofs.YtniimgbljhmcoaaDoor.sgC
