/-
  1 texts of a proof, joined.
-/
import Derived.Test.YtcnnpfjommiafaaMg8
import Derived.Test.YtcnnpfjommiafaaMg4
import Derived.Test.YtcnnpfjommiafaaMg10
import Derived.Test.YtcnnpfjommiafaaMg7

/-
  Whether two packets are the same: rsame_any.
-/
namespace Go.Proofs.Ytcnnpfjommiafaa.pkC
open Go.ChangeShapes Go.WideShapes Go.ChangeAt Go.RowKit
open Go.Proofs.Ytcnnpfjommiafaa.memC Go.Proofs.Ytcnnpfjommiafaa.genC Go.Proofs.Ytcnnpfjommiafaa.butC Go.Proofs.Ytcnnpfjommiafaa.freeC Go.Proofs.Ytcnnpfjommiafaa.adC
set_option linter.unusedVariables false
set_option maxRecDepth 100000 in
set_option maxHeartbeats 4000000 in
theorem rsame_any (p q : Pkt) (A B : Option Addr) (n c m d : Nat) (xs ys : List Int) (w : World) (hp : p.Ok) (hq : q.Ok) (hx : Nums .u8 w w.heap.size A n xs) (hy : Nums .u8 w w.heap.size B m ys) (yx : ∀ x ∈ xs, Byte x) (yy : ∀ x ∈ ys, Byte x) :
    Calls Try.prog 13 #[.agg (pktV p A n c), .agg (pktV q B m d)] w (Ret w (.bool (sameB p xs q ys))) := by
  have e1 : (w.alloc (.cells (pktV p A n c) 28)).heap.size = w.heap.size + 1 := alloc_size _ _
  obtain ⟨W, hW⟩ : ∃ W, W = (w.alloc (.cells (pktV p A n c) 28)).alloc (.cells (pktV q B m d) 28) := ⟨_, rfl⟩
  have R0 : W.heap[w.heap.size]? = some (.cells (pktV p A n c) 28 (0, 0)) := by rw [hW, Below.block (alloc_below _ _) _ (by rw [e1]; omega)]; exact heap_alloc_new w _
  have R1 : W.heap[w.heap.size + 1]? = some (.cells (pktV q B m d) 28 (0, 0)) := by rw [hW, ← e1]; exact heap_alloc_new _ _
  have HB := Lib.hid (show Below w.heap.size w W by rw [hW]; exact ((Below.refl _ _).alloc (Nat.le_refl _) _).alloc (by simp) _)
  have c0 := pkC hp A n c
  have c1 := pkC hq B m d
  have EQ0 := Lib.hid (fun w' => eqa p.s q.s p.a q.a hp.la hq.la w')
  have EQ1 := Lib.hid (fun w' => eqa p.t q.t p.b q.b hp.lb hq.lb w')
  rw [← adrC_arr, ← adrC_arr] at EQ0 EQ1
  have IA := Lib.hid (adrC_info (s := p.s) hp.la)
  have IB := Lib.hid (adrC_info (s := q.s) hq.la)
  have IC := Lib.hid (adrC_info (s := p.t) hp.lb)
  have ID := Lib.hid (adrC_info (s := q.t) hq.lb)
  have SA := Lib.hid (PkC.part R0 c0.src)
  have SB := Lib.hid (PkC.part R1 c1.src)
  have SC := Lib.hid (PkC.part R0 c0.dst)
  have SD := Lib.hid (PkC.part R1 c1.dst)
  have k0 := PkC.cell R0 c0.proto
  have j0 := PkC.cell R1 c1.proto
  have k1 := PkC.cell R0 c0.hops
  have j1 := PkC.cell R1 c1.hops
  have k2 := PkC.cell R0 c0.id
  have j2 := PkC.cell R1 c1.id
  have k3 := PkC.cell R0 c0.whole
  have j3 := PkC.cell R1 c1.whole
  have k4 := PkC.cell R0 c0.more
  have j4 := PkC.cell R1 c1.more
  have k5 := PkC.cell R0 c0.off
  have j5 := PkC.cell R1 c1.off
  have k6 := PkC.cell R0 c0.load
  have j6 := PkC.cell R1 c1.load
  have hcx : (convert 26 9 (.slice A n c)).run Try.prog W = .ok (.string (strOfNums xs)) W := run_string (hx.below HB.out) c 26 5 9 Try.underlying26 Try.underlying5 Try.underlying9
  have hcy : (convert 26 9 (.slice B m d)).run Try.prog W = .ok (.string (strOfNums ys)) W := run_string (hy.below HB.out) d 26 5 9 Try.underlying26 Try.underlying5 Try.underlying9
  have HS : ((strOfNums xs).toList == (strOfNums ys).toList) = decide (xs = ys) := by
    rw [str_eqb yx yy]
    by_cases h : xs = ys
    · subst h; rw [lexL_self]; simp
    · rw [decide_eq_false h]; exact beq_eq_false_iff_ne.2 fun e => h (lexL_zero _ _ e)
  generalize strOfNums xs = X at *
  generalize strOfNums ys = Y at *
  obtain ⟨V, hV⟩ : ∃ V, V = sameB p xs q ys := ⟨_, rfl⟩
  rw [← hV]
  unfold sameB at hV
  generalize decide (xs = ys) = e8 at *
  generalize decide (p.s = q.s ∧ p.a = q.a) = e0 at *
  generalize decide (p.t = q.t ∧ p.b = q.b) = e1' at *
  generalize adrC p.s p.a = LA at *
  generalize adrC q.s q.a = LB at *
  generalize adrC p.t p.b = LC at *
  generalize adrC q.t q.b = LD at *
  generalize pktV p A n c = CP at *
  generalize pktV q B m d = CQ at *
  generalize p.proto = proto1 at *
  generalize q.proto = proto2 at *
  generalize p.hops = hops1 at *
  generalize q.hops = hops2 at *
  generalize p.id = id1 at *
  generalize q.id = id2 at *
  generalize p.whole = whole1 at *
  generalize q.whole = whole2 at *
  generalize p.more = more1 at *
  generalize q.more = more2 at *
  generalize p.off = off1 at *
  generalize q.off = off2 at *
  have HE := Lib.hid HS
  have HV := Lib.hid hV
  clear hp hq hx hy yx yy c0 c1 R0 R1 e1 HS hV
  go_enter Try.func13, Try.ntmps13
  go_upto_region 1 with fail
  rw [← hW]
  clear hW
  cases e0
  · have hv := Lib.hid (show V = false by rw [HV.out]; simp)
    go_wp2_with (first
      | go_skip
      | (with_reducible refine atC.at_load 24 5 ?_; refine wpList_load_partG (by kernel_rfl) 24 (.tmp 5) (by kernel_rfl) (w.heap.size) 0 (by kernel_rfl) LA _ SA.out Try.underlying24 rfl IA.out ?_)
      | (with_reducible refine atC.at_load 24 7 ?_; refine wpList_load_partG (by kernel_rfl) 24 (.tmp 7) (by kernel_rfl) (w.heap.size + 1) 0 (by kernel_rfl) LB _ SB.out Try.underlying24 rfl IB.out ?_)
      | (with_reducible refine atC.at_bin .eql 24 ?_; refine wpList_runG (by kernel_rfl) _ (eq_run (T := 24) (s := 6) (x := 8) rfl (by kernel_rfl) (by kernel_rfl) (EQ0.out _) guard_addr) ?_)
      | (with_reducible refine atC.at_load 24 11 ?_; refine wpList_load_partG (by kernel_rfl) 24 (.tmp 11) (by kernel_rfl) (w.heap.size) 17 (by kernel_rfl) LC _ SC.out Try.underlying24 rfl IC.out ?_)
      | (with_reducible refine atC.at_load 24 13 ?_; refine wpList_load_partG (by kernel_rfl) 24 (.tmp 13) (by kernel_rfl) (w.heap.size + 1) 17 (by kernel_rfl) LD _ SD.out Try.underlying24 rfl ID.out ?_)
      | (with_reducible refine atC.at_bin .eql 24 ?_; refine wpList_runG (by kernel_rfl) _ (eq_run (T := 24) (s := 12) (x := 14) rfl (by kernel_rfl) (by kernel_rfl) (EQ1.out _) guard_addr) ?_)
      | (with_reducible refine atC.at_bin .eql 9 ?_; refine wpList_runG (by kernel_rfl) _ (seq_run (T := 9) (S := X) (S' := Y) rfl (by kernel_rfl) (by kernel_rfl) HE.out) ?_))
    go_ret
    exact ⟨ret_bool hv.out.symm, HB.out⟩
  · cases e1'
    · have hv := Lib.hid (show V = false by rw [HV.out]; simp)
      go_wp2_with (first
        | go_skip
        | (with_reducible refine atC.at_load 24 5 ?_; refine wpList_load_partG (by kernel_rfl) 24 (.tmp 5) (by kernel_rfl) (w.heap.size) 0 (by kernel_rfl) LA _ SA.out Try.underlying24 rfl IA.out ?_)
        | (with_reducible refine atC.at_load 24 7 ?_; refine wpList_load_partG (by kernel_rfl) 24 (.tmp 7) (by kernel_rfl) (w.heap.size + 1) 0 (by kernel_rfl) LB _ SB.out Try.underlying24 rfl IB.out ?_)
        | (with_reducible refine atC.at_bin .eql 24 ?_; refine wpList_runG (by kernel_rfl) _ (eq_run (T := 24) (s := 6) (x := 8) rfl (by kernel_rfl) (by kernel_rfl) (EQ0.out _) guard_addr) ?_)
        | (with_reducible refine atC.at_load 24 11 ?_; refine wpList_load_partG (by kernel_rfl) 24 (.tmp 11) (by kernel_rfl) (w.heap.size) 17 (by kernel_rfl) LC _ SC.out Try.underlying24 rfl IC.out ?_)
        | (with_reducible refine atC.at_load 24 13 ?_; refine wpList_load_partG (by kernel_rfl) 24 (.tmp 13) (by kernel_rfl) (w.heap.size + 1) 17 (by kernel_rfl) LD _ SD.out Try.underlying24 rfl ID.out ?_)
        | (with_reducible refine atC.at_bin .eql 24 ?_; refine wpList_runG (by kernel_rfl) _ (eq_run (T := 24) (s := 12) (x := 14) rfl (by kernel_rfl) (by kernel_rfl) (EQ1.out _) guard_addr) ?_)
        | (with_reducible refine atC.at_bin .eql 9 ?_; refine wpList_runG (by kernel_rfl) _ (seq_run (T := 9) (S := X) (S' := Y) rfl (by kernel_rfl) (by kernel_rfl) HE.out) ?_))
      go_ret
      exact ⟨ret_bool hv.out.symm, HB.out⟩
    · by_cases h2 : proto1 = proto2
      · subst h2
        by_cases h3 : hops1 = hops2
        · subst h3
          by_cases h4 : id1 = id2
          · subst h4
            cases hb5 : (whole1 == whole2)
            · have h5 : ¬ whole1 = whole2 := by simpa using hb5
              have hv := Lib.hid (show V = false by rw [HV.out]; simp [h5])
              clear h5
              go_wp2_with (first
                | go_skip
                | (with_reducible refine atC.at_load 24 5 ?_; refine wpList_load_partG (by kernel_rfl) 24 (.tmp 5) (by kernel_rfl) (w.heap.size) 0 (by kernel_rfl) LA _ SA.out Try.underlying24 rfl IA.out ?_)
                | (with_reducible refine atC.at_load 24 7 ?_; refine wpList_load_partG (by kernel_rfl) 24 (.tmp 7) (by kernel_rfl) (w.heap.size + 1) 0 (by kernel_rfl) LB _ SB.out Try.underlying24 rfl IB.out ?_)
                | (with_reducible refine atC.at_bin .eql 24 ?_; refine wpList_runG (by kernel_rfl) _ (eq_run (T := 24) (s := 6) (x := 8) rfl (by kernel_rfl) (by kernel_rfl) (EQ0.out _) guard_addr) ?_)
                | (with_reducible refine atC.at_load 24 11 ?_; refine wpList_load_partG (by kernel_rfl) 24 (.tmp 11) (by kernel_rfl) (w.heap.size) 17 (by kernel_rfl) LC _ SC.out Try.underlying24 rfl IC.out ?_)
                | (with_reducible refine atC.at_load 24 13 ?_; refine wpList_load_partG (by kernel_rfl) 24 (.tmp 13) (by kernel_rfl) (w.heap.size + 1) 17 (by kernel_rfl) LD _ SD.out Try.underlying24 rfl ID.out ?_)
                | (with_reducible refine atC.at_bin .eql 24 ?_; refine wpList_runG (by kernel_rfl) _ (eq_run (T := 24) (s := 12) (x := 14) rfl (by kernel_rfl) (by kernel_rfl) (EQ1.out _) guard_addr) ?_)
                | (with_reducible refine atC.at_bin .eql 9 ?_; refine wpList_runG (by kernel_rfl) _ (seq_run (T := 9) (S := X) (S' := Y) rfl (by kernel_rfl) (by kernel_rfl) HE.out) ?_))
              go_ret
              exact ⟨ret_bool hv.out.symm, HB.out⟩
            · obtain rfl : whole1 = whole2 := by simpa using hb5
              cases hb6 : (more1 == more2)
              · have h6 : ¬ more1 = more2 := by simpa using hb6
                have hv := Lib.hid (show V = false by rw [HV.out]; simp [h6])
                clear h6
                go_wp2_with (first
                  | go_skip
                  | (with_reducible refine atC.at_load 24 5 ?_; refine wpList_load_partG (by kernel_rfl) 24 (.tmp 5) (by kernel_rfl) (w.heap.size) 0 (by kernel_rfl) LA _ SA.out Try.underlying24 rfl IA.out ?_)
                  | (with_reducible refine atC.at_load 24 7 ?_; refine wpList_load_partG (by kernel_rfl) 24 (.tmp 7) (by kernel_rfl) (w.heap.size + 1) 0 (by kernel_rfl) LB _ SB.out Try.underlying24 rfl IB.out ?_)
                  | (with_reducible refine atC.at_bin .eql 24 ?_; refine wpList_runG (by kernel_rfl) _ (eq_run (T := 24) (s := 6) (x := 8) rfl (by kernel_rfl) (by kernel_rfl) (EQ0.out _) guard_addr) ?_)
                  | (with_reducible refine atC.at_load 24 11 ?_; refine wpList_load_partG (by kernel_rfl) 24 (.tmp 11) (by kernel_rfl) (w.heap.size) 17 (by kernel_rfl) LC _ SC.out Try.underlying24 rfl IC.out ?_)
                  | (with_reducible refine atC.at_load 24 13 ?_; refine wpList_load_partG (by kernel_rfl) 24 (.tmp 13) (by kernel_rfl) (w.heap.size + 1) 17 (by kernel_rfl) LD _ SD.out Try.underlying24 rfl ID.out ?_)
                  | (with_reducible refine atC.at_bin .eql 24 ?_; refine wpList_runG (by kernel_rfl) _ (eq_run (T := 24) (s := 12) (x := 14) rfl (by kernel_rfl) (by kernel_rfl) (EQ1.out _) guard_addr) ?_)
                  | (with_reducible refine atC.at_bin .eql 9 ?_; refine wpList_runG (by kernel_rfl) _ (seq_run (T := 9) (S := X) (S' := Y) rfl (by kernel_rfl) (by kernel_rfl) HE.out) ?_))
                go_ret
                exact ⟨ret_bool hv.out.symm, HB.out⟩
              · obtain rfl : more1 = more2 := by simpa using hb6
                by_cases h7 : off1 = off2
                · subst h7
                  cases e8
                  · have hv := Lib.hid (show V = false by rw [HV.out]; simp)
                    go_wp2_with (first
                      | go_skip
                      | (with_reducible refine atC.at_load 24 5 ?_; refine wpList_load_partG (by kernel_rfl) 24 (.tmp 5) (by kernel_rfl) (w.heap.size) 0 (by kernel_rfl) LA _ SA.out Try.underlying24 rfl IA.out ?_)
                      | (with_reducible refine atC.at_load 24 7 ?_; refine wpList_load_partG (by kernel_rfl) 24 (.tmp 7) (by kernel_rfl) (w.heap.size + 1) 0 (by kernel_rfl) LB _ SB.out Try.underlying24 rfl IB.out ?_)
                      | (with_reducible refine atC.at_bin .eql 24 ?_; refine wpList_runG (by kernel_rfl) _ (eq_run (T := 24) (s := 6) (x := 8) rfl (by kernel_rfl) (by kernel_rfl) (EQ0.out _) guard_addr) ?_)
                      | (with_reducible refine atC.at_load 24 11 ?_; refine wpList_load_partG (by kernel_rfl) 24 (.tmp 11) (by kernel_rfl) (w.heap.size) 17 (by kernel_rfl) LC _ SC.out Try.underlying24 rfl IC.out ?_)
                      | (with_reducible refine atC.at_load 24 13 ?_; refine wpList_load_partG (by kernel_rfl) 24 (.tmp 13) (by kernel_rfl) (w.heap.size + 1) 17 (by kernel_rfl) LD _ SD.out Try.underlying24 rfl ID.out ?_)
                      | (with_reducible refine atC.at_bin .eql 24 ?_; refine wpList_runG (by kernel_rfl) _ (eq_run (T := 24) (s := 12) (x := 14) rfl (by kernel_rfl) (by kernel_rfl) (EQ1.out _) guard_addr) ?_)
                      | (with_reducible refine atC.at_bin .eql 9 ?_; refine wpList_runG (by kernel_rfl) _ (seq_run (T := 9) (S := X) (S' := Y) rfl (by kernel_rfl) (by kernel_rfl) HE.out) ?_))
                    go_ret
                    exact ⟨ret_bool hv.out.symm, HB.out⟩
                  · have hv := Lib.hid (show V = true by rw [HV.out]; simp)
                    go_wp2_with (first
                      | go_skip
                      | (with_reducible refine atC.at_load 24 5 ?_; refine wpList_load_partG (by kernel_rfl) 24 (.tmp 5) (by kernel_rfl) (w.heap.size) 0 (by kernel_rfl) LA _ SA.out Try.underlying24 rfl IA.out ?_)
                      | (with_reducible refine atC.at_load 24 7 ?_; refine wpList_load_partG (by kernel_rfl) 24 (.tmp 7) (by kernel_rfl) (w.heap.size + 1) 0 (by kernel_rfl) LB _ SB.out Try.underlying24 rfl IB.out ?_)
                      | (with_reducible refine atC.at_bin .eql 24 ?_; refine wpList_runG (by kernel_rfl) _ (eq_run (T := 24) (s := 6) (x := 8) rfl (by kernel_rfl) (by kernel_rfl) (EQ0.out _) guard_addr) ?_)
                      | (with_reducible refine atC.at_load 24 11 ?_; refine wpList_load_partG (by kernel_rfl) 24 (.tmp 11) (by kernel_rfl) (w.heap.size) 17 (by kernel_rfl) LC _ SC.out Try.underlying24 rfl IC.out ?_)
                      | (with_reducible refine atC.at_load 24 13 ?_; refine wpList_load_partG (by kernel_rfl) 24 (.tmp 13) (by kernel_rfl) (w.heap.size + 1) 17 (by kernel_rfl) LD _ SD.out Try.underlying24 rfl ID.out ?_)
                      | (with_reducible refine atC.at_bin .eql 24 ?_; refine wpList_runG (by kernel_rfl) _ (eq_run (T := 24) (s := 12) (x := 14) rfl (by kernel_rfl) (by kernel_rfl) (EQ1.out _) guard_addr) ?_)
                      | (with_reducible refine atC.at_bin .eql 9 ?_; refine wpList_runG (by kernel_rfl) _ (seq_run (T := 9) (S := X) (S' := Y) rfl (by kernel_rfl) (by kernel_rfl) HE.out) ?_))
                    go_ret
                    exact ⟨ret_bool hv.out.symm, HB.out⟩
                · have hq7 : (off1 == off2) = false := beq_eq_false_iff_ne.2 h7
                  have hv := Lib.hid (show V = false by rw [HV.out]; simp [h7])
                  go_wp2_with (first
                    | go_skip
                    | (with_reducible refine atC.at_load 24 5 ?_; refine wpList_load_partG (by kernel_rfl) 24 (.tmp 5) (by kernel_rfl) (w.heap.size) 0 (by kernel_rfl) LA _ SA.out Try.underlying24 rfl IA.out ?_)
                    | (with_reducible refine atC.at_load 24 7 ?_; refine wpList_load_partG (by kernel_rfl) 24 (.tmp 7) (by kernel_rfl) (w.heap.size + 1) 0 (by kernel_rfl) LB _ SB.out Try.underlying24 rfl IB.out ?_)
                    | (with_reducible refine atC.at_bin .eql 24 ?_; refine wpList_runG (by kernel_rfl) _ (eq_run (T := 24) (s := 6) (x := 8) rfl (by kernel_rfl) (by kernel_rfl) (EQ0.out _) guard_addr) ?_)
                    | (with_reducible refine atC.at_load 24 11 ?_; refine wpList_load_partG (by kernel_rfl) 24 (.tmp 11) (by kernel_rfl) (w.heap.size) 17 (by kernel_rfl) LC _ SC.out Try.underlying24 rfl IC.out ?_)
                    | (with_reducible refine atC.at_load 24 13 ?_; refine wpList_load_partG (by kernel_rfl) 24 (.tmp 13) (by kernel_rfl) (w.heap.size + 1) 17 (by kernel_rfl) LD _ SD.out Try.underlying24 rfl ID.out ?_)
                    | (with_reducible refine atC.at_bin .eql 24 ?_; refine wpList_runG (by kernel_rfl) _ (eq_run (T := 24) (s := 12) (x := 14) rfl (by kernel_rfl) (by kernel_rfl) (EQ1.out _) guard_addr) ?_)
                    | (with_reducible refine atC.at_bin .eql 9 ?_; refine wpList_runG (by kernel_rfl) _ (seq_run (T := 9) (S := X) (S' := Y) rfl (by kernel_rfl) (by kernel_rfl) HE.out) ?_))
                  go_ret
                  exact ⟨ret_bool hv.out.symm, HB.out⟩
          · have hq4 : (id1 == id2) = false := beq_eq_false_iff_ne.2 h4
            have hv := Lib.hid (show V = false by rw [HV.out]; simp [h4])
            go_wp2_with (first
              | go_skip
              | (with_reducible refine atC.at_load 24 5 ?_; refine wpList_load_partG (by kernel_rfl) 24 (.tmp 5) (by kernel_rfl) (w.heap.size) 0 (by kernel_rfl) LA _ SA.out Try.underlying24 rfl IA.out ?_)
              | (with_reducible refine atC.at_load 24 7 ?_; refine wpList_load_partG (by kernel_rfl) 24 (.tmp 7) (by kernel_rfl) (w.heap.size + 1) 0 (by kernel_rfl) LB _ SB.out Try.underlying24 rfl IB.out ?_)
              | (with_reducible refine atC.at_bin .eql 24 ?_; refine wpList_runG (by kernel_rfl) _ (eq_run (T := 24) (s := 6) (x := 8) rfl (by kernel_rfl) (by kernel_rfl) (EQ0.out _) guard_addr) ?_)
              | (with_reducible refine atC.at_load 24 11 ?_; refine wpList_load_partG (by kernel_rfl) 24 (.tmp 11) (by kernel_rfl) (w.heap.size) 17 (by kernel_rfl) LC _ SC.out Try.underlying24 rfl IC.out ?_)
              | (with_reducible refine atC.at_load 24 13 ?_; refine wpList_load_partG (by kernel_rfl) 24 (.tmp 13) (by kernel_rfl) (w.heap.size + 1) 17 (by kernel_rfl) LD _ SD.out Try.underlying24 rfl ID.out ?_)
              | (with_reducible refine atC.at_bin .eql 24 ?_; refine wpList_runG (by kernel_rfl) _ (eq_run (T := 24) (s := 12) (x := 14) rfl (by kernel_rfl) (by kernel_rfl) (EQ1.out _) guard_addr) ?_)
              | (with_reducible refine atC.at_bin .eql 9 ?_; refine wpList_runG (by kernel_rfl) _ (seq_run (T := 9) (S := X) (S' := Y) rfl (by kernel_rfl) (by kernel_rfl) HE.out) ?_))
            go_ret
            exact ⟨ret_bool hv.out.symm, HB.out⟩
        · have hq3 : (hops1 == hops2) = false := beq_eq_false_iff_ne.2 h3
          have hv := Lib.hid (show V = false by rw [HV.out]; simp [h3])
          go_wp2_with (first
            | go_skip
            | (with_reducible refine atC.at_load 24 5 ?_; refine wpList_load_partG (by kernel_rfl) 24 (.tmp 5) (by kernel_rfl) (w.heap.size) 0 (by kernel_rfl) LA _ SA.out Try.underlying24 rfl IA.out ?_)
            | (with_reducible refine atC.at_load 24 7 ?_; refine wpList_load_partG (by kernel_rfl) 24 (.tmp 7) (by kernel_rfl) (w.heap.size + 1) 0 (by kernel_rfl) LB _ SB.out Try.underlying24 rfl IB.out ?_)
            | (with_reducible refine atC.at_bin .eql 24 ?_; refine wpList_runG (by kernel_rfl) _ (eq_run (T := 24) (s := 6) (x := 8) rfl (by kernel_rfl) (by kernel_rfl) (EQ0.out _) guard_addr) ?_)
            | (with_reducible refine atC.at_load 24 11 ?_; refine wpList_load_partG (by kernel_rfl) 24 (.tmp 11) (by kernel_rfl) (w.heap.size) 17 (by kernel_rfl) LC _ SC.out Try.underlying24 rfl IC.out ?_)
            | (with_reducible refine atC.at_load 24 13 ?_; refine wpList_load_partG (by kernel_rfl) 24 (.tmp 13) (by kernel_rfl) (w.heap.size + 1) 17 (by kernel_rfl) LD _ SD.out Try.underlying24 rfl ID.out ?_)
            | (with_reducible refine atC.at_bin .eql 24 ?_; refine wpList_runG (by kernel_rfl) _ (eq_run (T := 24) (s := 12) (x := 14) rfl (by kernel_rfl) (by kernel_rfl) (EQ1.out _) guard_addr) ?_)
            | (with_reducible refine atC.at_bin .eql 9 ?_; refine wpList_runG (by kernel_rfl) _ (seq_run (T := 9) (S := X) (S' := Y) rfl (by kernel_rfl) (by kernel_rfl) HE.out) ?_))
          go_ret
          exact ⟨ret_bool hv.out.symm, HB.out⟩
      · have hq2 : (proto1 == proto2) = false := beq_eq_false_iff_ne.2 h2
        have hv := Lib.hid (show V = false by rw [HV.out]; simp [h2])
        go_wp2_with (first
          | go_skip
          | (with_reducible refine atC.at_load 24 5 ?_; refine wpList_load_partG (by kernel_rfl) 24 (.tmp 5) (by kernel_rfl) (w.heap.size) 0 (by kernel_rfl) LA _ SA.out Try.underlying24 rfl IA.out ?_)
          | (with_reducible refine atC.at_load 24 7 ?_; refine wpList_load_partG (by kernel_rfl) 24 (.tmp 7) (by kernel_rfl) (w.heap.size + 1) 0 (by kernel_rfl) LB _ SB.out Try.underlying24 rfl IB.out ?_)
          | (with_reducible refine atC.at_bin .eql 24 ?_; refine wpList_runG (by kernel_rfl) _ (eq_run (T := 24) (s := 6) (x := 8) rfl (by kernel_rfl) (by kernel_rfl) (EQ0.out _) guard_addr) ?_)
          | (with_reducible refine atC.at_load 24 11 ?_; refine wpList_load_partG (by kernel_rfl) 24 (.tmp 11) (by kernel_rfl) (w.heap.size) 17 (by kernel_rfl) LC _ SC.out Try.underlying24 rfl IC.out ?_)
          | (with_reducible refine atC.at_load 24 13 ?_; refine wpList_load_partG (by kernel_rfl) 24 (.tmp 13) (by kernel_rfl) (w.heap.size + 1) 17 (by kernel_rfl) LD _ SD.out Try.underlying24 rfl ID.out ?_)
          | (with_reducible refine atC.at_bin .eql 24 ?_; refine wpList_runG (by kernel_rfl) _ (eq_run (T := 24) (s := 12) (x := 14) rfl (by kernel_rfl) (by kernel_rfl) (EQ1.out _) guard_addr) ?_)
          | (with_reducible refine atC.at_bin .eql 9 ?_; refine wpList_runG (by kernel_rfl) _ (seq_run (T := 9) (S := X) (S' := Y) rfl (by kernel_rfl) (by kernel_rfl) HE.out) ?_))
        go_ret
        exact ⟨ret_bool hv.out.symm, HB.out⟩
end Go.Proofs.Ytcnnpfjommiafaa.pkC
