/-
  2 texts of a proof, joined.
-/
import Derived.Test.YtflfkhcbkhdahaaMg13
import Derived.Test.YtflfkhcbkhdahaaMg4
import Derived.Test.YtflfkhcbkhdahaaMg9

/-
  Whether two key tuples are the same, and whether one governs a pair, by the document.
-/
namespace Go.Proofs.Ytflfkhcbkhdahaa.mkC
open Go.ChangeShapes Go.WideShapes Go.ChangeAt Go.RowKit
open Go.Proofs.Ytflfkhcbkhdahaa.memC Go.Proofs.Ytflfkhcbkhdahaa.genC Go.Proofs.Ytflfkhcbkhdahaa.butC Go.Proofs.Ytflfkhcbkhdahaa.freeC Go.Proofs.Ytflfkhcbkhdahaa.adC Go.Proofs.Ytflfkhcbkhdahaa.rtC
set_option linter.unusedVariables false
theorem port_any (x y : Int) (w : World) : Calls Try.prog 54 #[.int .u16 x, .int .u16 y] w fun e w' => e = .returned (.bool (portB x y)) ∧ w' = w := by
  obtain ⟨V, hV⟩ : ∃ V, V = portB x y := ⟨_, rfl⟩
  rw [← hV]
  unfold portB at hV
  have HV := Lib.hid hV
  clear hV
  by_cases h1 : x = 0
  · subst h1
    have hv := Lib.hid (show V = true by rw [HV.out]; simp)
    go_enter Try.func54, Try.ntmps54
    go_wp2_with go_skip
    go_ret
    exact ⟨ret_bool hv.out.symm, rfl⟩
  · have q1 : (x == 0) = false := beq_eq_false_iff_ne.2 h1
    by_cases h2 : x = y
    · subst h2
      have hv := Lib.hid (show V = true by rw [HV.out]; simp)
      clear h1
      go_enter Try.func54, Try.ntmps54
      go_wp2_with go_skip
      go_ret
      exact ⟨ret_bool hv.out.symm, rfl⟩
    · have q2 : (x == y) = false := beq_eq_false_iff_ne.2 h2
      have hv := Lib.hid (show V = false by rw [HV.out]; simp [h1, h2])
      clear h1 h2
      go_enter Try.func54, Try.ntmps54
      go_wp2_with go_skip
      go_ret
      exact ⟨ret_bool hv.out.symm, rfl⟩
/-- the same key tuples, with their master keys -/
def sameB (p : Kt) (xs : List Int) (q : Kt) (ys : List Int) : Bool := decide (p.n = q.n) && (decide (p.s = q.s ∧ p.a = q.a) && (decide (p.len = q.len) && (decide (p.lp = q.lp) && (decide (p.rp = q.rp) && (decide (p.si = q.si) && (decide (p.ri = q.ri) && (decide (p.alg = q.alg) && (decide (p.opts = q.opts) && decide (xs = ys)))))))))
theorem sameB_iff {p q : Kt} {xs ys : List Int} : sameB p xs q ys = true ↔ p = q ∧ xs = ys := by
  unfold sameB
  simp only [Bool.and_eq_true, decide_eq_true_iff]
  constructor
  · rintro ⟨h1, ⟨h2, h3⟩, h4, h5, h6, h7, h8, h9, h10, h11⟩
    cases p; cases q
    simp only at h1 h2 h3 h4 h5 h6 h7 h8 h9 h10
    rw [h1, h2, h3, h4, h5, h6, h7, h8, h9, h10]
    exact ⟨rfl, h11⟩
  · rintro ⟨rfl, rfl⟩
    exact ⟨rfl, ⟨rfl, rfl⟩, rfl, rfl, rfl, rfl, rfl, rfl, rfl, rfl⟩
set_option maxRecDepth 100000 in
set_option maxHeartbeats 4000000 in
theorem rsame_any (p q : Kt) (A B : Option Addr) (n c m d : Nat) (xs ys : List Int) (w : World) (hp : p.Ok) (hq : q.Ok) (hx : Nums .u8 w w.heap.size A n xs) (hy : Nums .u8 w w.heap.size B m ys) (yx : ∀ x ∈ xs, Byte x) (yy : ∀ x ∈ ys, Byte x) :
    Calls Try.prog 42 #[.agg (ktV p A n c), .agg (ktV q B m d)] w (Ret w (.bool (sameB p xs q ys))) := by
  have e1 : (w.alloc (.cells (ktV p A n c) 41)).heap.size = w.heap.size + 1 := alloc_size _ _
  obtain ⟨W, hW⟩ : ∃ W, W = (w.alloc (.cells (ktV p A n c) 41)).alloc (.cells (ktV q B m d) 41) := ⟨_, rfl⟩
  have R0 : W.heap[w.heap.size]? = some (.cells (ktV p A n c) 41 (0, 0)) := by rw [hW, Below.block (alloc_below _ _) _ (by rw [e1]; omega)]; exact heap_alloc_new w _
  have R1 : W.heap[w.heap.size + 1]? = some (.cells (ktV q B m d) 41 (0, 0)) := by rw [hW, ← e1]; exact heap_alloc_new _ _
  have HB := Lib.hid (show Below w.heap.size w W by rw [hW]; exact ((Below.refl _ _).alloc (Nat.le_refl _) _).alloc (by simp) _)
  have EQ0 := Lib.hid (fun w' => (show (Op.equalIn 10000 25 (.agg (adrK p.s p.a).toArray) (.agg (adrK q.s q.a).toArray)).run Try.prog w' = .ok (decide (p.s = q.s ∧ p.a = q.a)) w' from eqa p.s q.s p.a q.a hp.la hq.la w'))
  have IA := Lib.hid (adrKi p.s hp.la)
  have IB := Lib.hid (adrKi q.s hq.la)
  have SA := Lib.hid (show ∀ j v, (adrK p.s p.a)[j]? = some v → W.cell? ⟨w.heap.size, 1 + j, none⟩ = some v from fun j v hv => kt_cell R0 (kt_src hv))
  have SB := Lib.hid (show ∀ j v, (adrK q.s q.a)[j]? = some v → W.cell? ⟨w.heap.size + 1, 1 + j, none⟩ = some v from fun j v hv => kt_cell R1 (kt_src hv))
  have k0 := kt_cell R0 (kt_n)
  have j0 := kt_cell R1 (kt_n)
  have k1 := kt_cell R0 (kt_len hp)
  have j1 := kt_cell R1 (kt_len hq)
  have k2 := kt_cell R0 (kt_lp hp)
  have j2 := kt_cell R1 (kt_lp hq)
  have k3 := kt_cell R0 (kt_rp hp)
  have j3 := kt_cell R1 (kt_rp hq)
  have k4 := kt_cell R0 (kt_si hp)
  have j4 := kt_cell R1 (kt_si hq)
  have k5 := kt_cell R0 (kt_ri hp)
  have j5 := kt_cell R1 (kt_ri hq)
  have k6 := kt_cell R0 (kt_alg hp)
  have j6 := kt_cell R1 (kt_alg hq)
  have k7 := kt_cell R0 (kt_mst hp)
  have j7 := kt_cell R1 (kt_mst hq)
  have k8 := kt_cell R0 (kt_opts hp)
  have j8 := kt_cell R1 (kt_opts hq)
  have hcx : (convert 39 9 (.slice A n c)).run Try.prog W = .ok (.string (strOfNums xs)) W := run_string (hx.below HB.out) c 39 5 9 Try.underlying39 Try.underlying5 Try.underlying9
  have hcy : (convert 39 9 (.slice B m d)).run Try.prog W = .ok (.string (strOfNums ys)) W := run_string (hy.below HB.out) d 39 5 9 Try.underlying39 Try.underlying5 Try.underlying9
  have HS : ((strOfNums xs).toList == (strOfNums ys).toList) = decide (xs = ys) := by
    rw [str_eqb yx yy]
    by_cases h : xs = ys
    · subst h; rw [lexL_self]; simp
    · rw [decide_eq_false h]; exact beq_eq_false_iff_ne.2 fun e => h (lexL_zero _ _ e)
  generalize strOfNums xs = X at *
  generalize strOfNums ys = Y at *
  obtain ⟨V, hV⟩ : ∃ V, V = sameB p xs q ys := ⟨_, rfl⟩
  rw [← hV]
  unfold sameB at hV
  generalize decide (xs = ys) = e8 at *
  generalize decide (p.s = q.s ∧ p.a = q.a) = e0 at *
  generalize adrK p.s p.a = LA at *
  generalize adrK q.s q.a = LB at *
  generalize ktV p A n c = CP at *
  generalize ktV q B m d = CQ at *
  generalize p.n = n1 at *
  generalize q.n = n2 at *
  generalize p.len = len1 at *
  generalize q.len = len2 at *
  generalize p.lp = lp1 at *
  generalize q.lp = lp2 at *
  generalize p.rp = rp1 at *
  generalize q.rp = rp2 at *
  generalize p.si = si1 at *
  generalize q.si = si2 at *
  generalize p.ri = ri1 at *
  generalize q.ri = ri2 at *
  generalize p.alg = alg1 at *
  generalize q.alg = alg2 at *
  generalize p.opts = opts1 at *
  generalize q.opts = opts2 at *
  have HE := Lib.hid HS
  have HV := Lib.hid hV
  clear hp hq hx hy yx yy R0 R1 e1 HS hV
  go_enter Try.func42, Try.ntmps42
  try simp only [List.append_eq, List.cons_append, List.nil_append]
  go_upto_region 1 with fail
  rw [← hW]
  clear hW
  by_cases h0 : n1 = n2
  · subst h0
    cases e0
    · have hv := Lib.hid (show V = false by rw [HV.out]; simp)
      go_wp2_with (first
        | go_skip
        | (with_reducible refine atC.at_load 25 11 ?_; refine pkC.wpList_load_partG (by kernel_rfl) 25 (.tmp 11) (by kernel_rfl) (w.heap.size) 1 (by kernel_rfl) LA _ SA.out Try.underlying25 rfl IA.out ?_)
        | (with_reducible refine atC.at_load 25 13 ?_; refine pkC.wpList_load_partG (by kernel_rfl) 25 (.tmp 13) (by kernel_rfl) (w.heap.size + 1) 1 (by kernel_rfl) LB _ SB.out Try.underlying25 rfl IB.out ?_)
        | (with_reducible refine atC.at_bin .eql 25 ?_; refine wpList_runG (by kernel_rfl) _ (adC.eq_run (T := 25) (s := 12) (x := 14) rfl (by kernel_rfl) (by kernel_rfl) (EQ0.out _) guard_addr) ?_)
        | (with_reducible refine atC.at_bin .eql 9 ?_; refine wpList_runG (by kernel_rfl) _ (seq_run (T := 9) (S := X) (S' := Y) rfl (by kernel_rfl) (by kernel_rfl) HE.out) ?_))
      go_ret
      exact ⟨ret_bool hv.out.symm, HB.out⟩
    · by_cases h2 : len1 = len2
      · subst h2
        by_cases h3 : lp1 = lp2
        · subst h3
          by_cases h4 : rp1 = rp2
          · subst h4
            by_cases h5 : si1 = si2
            · subst h5
              by_cases h6 : ri1 = ri2
              · subst h6
                by_cases h7 : alg1 = alg2
                · subst h7
                  cases hb8 : (opts1 == opts2)
                  · have h8 : ¬ opts1 = opts2 := by simpa using hb8
                    have hv := Lib.hid (show V = false by rw [HV.out]; simp [h8])
                    clear h8
                    go_wp2_with (first
                      | go_skip
                      | (with_reducible refine atC.at_load 25 11 ?_; refine pkC.wpList_load_partG (by kernel_rfl) 25 (.tmp 11) (by kernel_rfl) (w.heap.size) 1 (by kernel_rfl) LA _ SA.out Try.underlying25 rfl IA.out ?_)
                      | (with_reducible refine atC.at_load 25 13 ?_; refine pkC.wpList_load_partG (by kernel_rfl) 25 (.tmp 13) (by kernel_rfl) (w.heap.size + 1) 1 (by kernel_rfl) LB _ SB.out Try.underlying25 rfl IB.out ?_)
                      | (with_reducible refine atC.at_bin .eql 25 ?_; refine wpList_runG (by kernel_rfl) _ (adC.eq_run (T := 25) (s := 12) (x := 14) rfl (by kernel_rfl) (by kernel_rfl) (EQ0.out _) guard_addr) ?_)
                      | (with_reducible refine atC.at_bin .eql 9 ?_; refine wpList_runG (by kernel_rfl) _ (seq_run (T := 9) (S := X) (S' := Y) rfl (by kernel_rfl) (by kernel_rfl) HE.out) ?_))
                    go_ret
                    exact ⟨ret_bool hv.out.symm, HB.out⟩
                  · obtain rfl : opts1 = opts2 := by simpa using hb8
                    cases e8
                    · have hv := Lib.hid (show V = false by rw [HV.out]; simp)
                      go_wp2_with (first
                        | go_skip
                        | (with_reducible refine atC.at_load 25 11 ?_; refine pkC.wpList_load_partG (by kernel_rfl) 25 (.tmp 11) (by kernel_rfl) (w.heap.size) 1 (by kernel_rfl) LA _ SA.out Try.underlying25 rfl IA.out ?_)
                        | (with_reducible refine atC.at_load 25 13 ?_; refine pkC.wpList_load_partG (by kernel_rfl) 25 (.tmp 13) (by kernel_rfl) (w.heap.size + 1) 1 (by kernel_rfl) LB _ SB.out Try.underlying25 rfl IB.out ?_)
                        | (with_reducible refine atC.at_bin .eql 25 ?_; refine wpList_runG (by kernel_rfl) _ (adC.eq_run (T := 25) (s := 12) (x := 14) rfl (by kernel_rfl) (by kernel_rfl) (EQ0.out _) guard_addr) ?_)
                        | (with_reducible refine atC.at_bin .eql 9 ?_; refine wpList_runG (by kernel_rfl) _ (seq_run (T := 9) (S := X) (S' := Y) rfl (by kernel_rfl) (by kernel_rfl) HE.out) ?_))
                      go_ret
                      exact ⟨ret_bool hv.out.symm, HB.out⟩
                    · have hv := Lib.hid (show V = true by rw [HV.out]; simp)
                      go_wp2_with (first
                        | go_skip
                        | (with_reducible refine atC.at_load 25 11 ?_; refine pkC.wpList_load_partG (by kernel_rfl) 25 (.tmp 11) (by kernel_rfl) (w.heap.size) 1 (by kernel_rfl) LA _ SA.out Try.underlying25 rfl IA.out ?_)
                        | (with_reducible refine atC.at_load 25 13 ?_; refine pkC.wpList_load_partG (by kernel_rfl) 25 (.tmp 13) (by kernel_rfl) (w.heap.size + 1) 1 (by kernel_rfl) LB _ SB.out Try.underlying25 rfl IB.out ?_)
                        | (with_reducible refine atC.at_bin .eql 25 ?_; refine wpList_runG (by kernel_rfl) _ (adC.eq_run (T := 25) (s := 12) (x := 14) rfl (by kernel_rfl) (by kernel_rfl) (EQ0.out _) guard_addr) ?_)
                        | (with_reducible refine atC.at_bin .eql 9 ?_; refine wpList_runG (by kernel_rfl) _ (seq_run (T := 9) (S := X) (S' := Y) rfl (by kernel_rfl) (by kernel_rfl) HE.out) ?_))
                      go_ret
                      exact ⟨ret_bool hv.out.symm, HB.out⟩
                · have hq7 : (alg1 == alg2) = false := beq_eq_false_iff_ne.2 h7
                  have hv := Lib.hid (show V = false by rw [HV.out]; simp [h7])
                  go_wp2_with (first
                    | go_skip
                    | (with_reducible refine atC.at_load 25 11 ?_; refine pkC.wpList_load_partG (by kernel_rfl) 25 (.tmp 11) (by kernel_rfl) (w.heap.size) 1 (by kernel_rfl) LA _ SA.out Try.underlying25 rfl IA.out ?_)
                    | (with_reducible refine atC.at_load 25 13 ?_; refine pkC.wpList_load_partG (by kernel_rfl) 25 (.tmp 13) (by kernel_rfl) (w.heap.size + 1) 1 (by kernel_rfl) LB _ SB.out Try.underlying25 rfl IB.out ?_)
                    | (with_reducible refine atC.at_bin .eql 25 ?_; refine wpList_runG (by kernel_rfl) _ (adC.eq_run (T := 25) (s := 12) (x := 14) rfl (by kernel_rfl) (by kernel_rfl) (EQ0.out _) guard_addr) ?_)
                    | (with_reducible refine atC.at_bin .eql 9 ?_; refine wpList_runG (by kernel_rfl) _ (seq_run (T := 9) (S := X) (S' := Y) rfl (by kernel_rfl) (by kernel_rfl) HE.out) ?_))
                  go_ret
                  exact ⟨ret_bool hv.out.symm, HB.out⟩
              · have hq6 : (ri1 == ri2) = false := beq_eq_false_iff_ne.2 h6
                have hv := Lib.hid (show V = false by rw [HV.out]; simp [h6])
                go_wp2_with (first
                  | go_skip
                  | (with_reducible refine atC.at_load 25 11 ?_; refine pkC.wpList_load_partG (by kernel_rfl) 25 (.tmp 11) (by kernel_rfl) (w.heap.size) 1 (by kernel_rfl) LA _ SA.out Try.underlying25 rfl IA.out ?_)
                  | (with_reducible refine atC.at_load 25 13 ?_; refine pkC.wpList_load_partG (by kernel_rfl) 25 (.tmp 13) (by kernel_rfl) (w.heap.size + 1) 1 (by kernel_rfl) LB _ SB.out Try.underlying25 rfl IB.out ?_)
                  | (with_reducible refine atC.at_bin .eql 25 ?_; refine wpList_runG (by kernel_rfl) _ (adC.eq_run (T := 25) (s := 12) (x := 14) rfl (by kernel_rfl) (by kernel_rfl) (EQ0.out _) guard_addr) ?_)
                  | (with_reducible refine atC.at_bin .eql 9 ?_; refine wpList_runG (by kernel_rfl) _ (seq_run (T := 9) (S := X) (S' := Y) rfl (by kernel_rfl) (by kernel_rfl) HE.out) ?_))
                go_ret
                exact ⟨ret_bool hv.out.symm, HB.out⟩
            · have hq5 : (si1 == si2) = false := beq_eq_false_iff_ne.2 h5
              have hv := Lib.hid (show V = false by rw [HV.out]; simp [h5])
              go_wp2_with (first
                | go_skip
                | (with_reducible refine atC.at_load 25 11 ?_; refine pkC.wpList_load_partG (by kernel_rfl) 25 (.tmp 11) (by kernel_rfl) (w.heap.size) 1 (by kernel_rfl) LA _ SA.out Try.underlying25 rfl IA.out ?_)
                | (with_reducible refine atC.at_load 25 13 ?_; refine pkC.wpList_load_partG (by kernel_rfl) 25 (.tmp 13) (by kernel_rfl) (w.heap.size + 1) 1 (by kernel_rfl) LB _ SB.out Try.underlying25 rfl IB.out ?_)
                | (with_reducible refine atC.at_bin .eql 25 ?_; refine wpList_runG (by kernel_rfl) _ (adC.eq_run (T := 25) (s := 12) (x := 14) rfl (by kernel_rfl) (by kernel_rfl) (EQ0.out _) guard_addr) ?_)
                | (with_reducible refine atC.at_bin .eql 9 ?_; refine wpList_runG (by kernel_rfl) _ (seq_run (T := 9) (S := X) (S' := Y) rfl (by kernel_rfl) (by kernel_rfl) HE.out) ?_))
              go_ret
              exact ⟨ret_bool hv.out.symm, HB.out⟩
          · have hq4 : (rp1 == rp2) = false := beq_eq_false_iff_ne.2 h4
            have hv := Lib.hid (show V = false by rw [HV.out]; simp [h4])
            go_wp2_with (first
              | go_skip
              | (with_reducible refine atC.at_load 25 11 ?_; refine pkC.wpList_load_partG (by kernel_rfl) 25 (.tmp 11) (by kernel_rfl) (w.heap.size) 1 (by kernel_rfl) LA _ SA.out Try.underlying25 rfl IA.out ?_)
              | (with_reducible refine atC.at_load 25 13 ?_; refine pkC.wpList_load_partG (by kernel_rfl) 25 (.tmp 13) (by kernel_rfl) (w.heap.size + 1) 1 (by kernel_rfl) LB _ SB.out Try.underlying25 rfl IB.out ?_)
              | (with_reducible refine atC.at_bin .eql 25 ?_; refine wpList_runG (by kernel_rfl) _ (adC.eq_run (T := 25) (s := 12) (x := 14) rfl (by kernel_rfl) (by kernel_rfl) (EQ0.out _) guard_addr) ?_)
              | (with_reducible refine atC.at_bin .eql 9 ?_; refine wpList_runG (by kernel_rfl) _ (seq_run (T := 9) (S := X) (S' := Y) rfl (by kernel_rfl) (by kernel_rfl) HE.out) ?_))
            go_ret
            exact ⟨ret_bool hv.out.symm, HB.out⟩
        · have hq3 : (lp1 == lp2) = false := beq_eq_false_iff_ne.2 h3
          have hv := Lib.hid (show V = false by rw [HV.out]; simp [h3])
          go_wp2_with (first
            | go_skip
            | (with_reducible refine atC.at_load 25 11 ?_; refine pkC.wpList_load_partG (by kernel_rfl) 25 (.tmp 11) (by kernel_rfl) (w.heap.size) 1 (by kernel_rfl) LA _ SA.out Try.underlying25 rfl IA.out ?_)
            | (with_reducible refine atC.at_load 25 13 ?_; refine pkC.wpList_load_partG (by kernel_rfl) 25 (.tmp 13) (by kernel_rfl) (w.heap.size + 1) 1 (by kernel_rfl) LB _ SB.out Try.underlying25 rfl IB.out ?_)
            | (with_reducible refine atC.at_bin .eql 25 ?_; refine wpList_runG (by kernel_rfl) _ (adC.eq_run (T := 25) (s := 12) (x := 14) rfl (by kernel_rfl) (by kernel_rfl) (EQ0.out _) guard_addr) ?_)
            | (with_reducible refine atC.at_bin .eql 9 ?_; refine wpList_runG (by kernel_rfl) _ (seq_run (T := 9) (S := X) (S' := Y) rfl (by kernel_rfl) (by kernel_rfl) HE.out) ?_))
          go_ret
          exact ⟨ret_bool hv.out.symm, HB.out⟩
      · have hq2 : (len1 == len2) = false := beq_eq_false_iff_ne.2 h2
        have hv := Lib.hid (show V = false by rw [HV.out]; simp [h2])
        go_wp2_with (first
          | go_skip
          | (with_reducible refine atC.at_load 25 11 ?_; refine pkC.wpList_load_partG (by kernel_rfl) 25 (.tmp 11) (by kernel_rfl) (w.heap.size) 1 (by kernel_rfl) LA _ SA.out Try.underlying25 rfl IA.out ?_)
          | (with_reducible refine atC.at_load 25 13 ?_; refine pkC.wpList_load_partG (by kernel_rfl) 25 (.tmp 13) (by kernel_rfl) (w.heap.size + 1) 1 (by kernel_rfl) LB _ SB.out Try.underlying25 rfl IB.out ?_)
          | (with_reducible refine atC.at_bin .eql 25 ?_; refine wpList_runG (by kernel_rfl) _ (adC.eq_run (T := 25) (s := 12) (x := 14) rfl (by kernel_rfl) (by kernel_rfl) (EQ0.out _) guard_addr) ?_)
          | (with_reducible refine atC.at_bin .eql 9 ?_; refine wpList_runG (by kernel_rfl) _ (seq_run (T := 9) (S := X) (S' := Y) rfl (by kernel_rfl) (by kernel_rfl) HE.out) ?_))
        go_ret
        exact ⟨ret_bool hv.out.symm, HB.out⟩
  · have hq0 : (n1 == n2) = false := beq_eq_false_iff_ne.2 h0
    have hv := Lib.hid (show V = false by rw [HV.out]; simp [h0])
    go_wp2_with (first
      | go_skip
      | (with_reducible refine atC.at_load 25 11 ?_; refine pkC.wpList_load_partG (by kernel_rfl) 25 (.tmp 11) (by kernel_rfl) (w.heap.size) 1 (by kernel_rfl) LA _ SA.out Try.underlying25 rfl IA.out ?_)
      | (with_reducible refine atC.at_load 25 13 ?_; refine pkC.wpList_load_partG (by kernel_rfl) 25 (.tmp 13) (by kernel_rfl) (w.heap.size + 1) 1 (by kernel_rfl) LB _ SB.out Try.underlying25 rfl IB.out ?_)
      | (with_reducible refine atC.at_bin .eql 25 ?_; refine wpList_runG (by kernel_rfl) _ (adC.eq_run (T := 25) (s := 12) (x := 14) rfl (by kernel_rfl) (by kernel_rfl) (EQ0.out _) guard_addr) ?_)
      | (with_reducible refine atC.at_bin .eql 9 ?_; refine wpList_runG (by kernel_rfl) _ (seq_run (T := 9) (S := X) (S' := Y) rfl (by kernel_rfl) (by kernel_rfl) HE.out) ?_))
    go_ret
    exact ⟨ret_bool hv.out.symm, HB.out⟩
set_option maxRecDepth 100000 in
set_option maxHeartbeats 4000000 in
theorem rgov_any (k : Kt) (p : Pr) (A : Option Addr) (n c : Nat) (w : World) (hk : k.Ok) (hp : p.Ok) : Calls Try.prog 46 #[.agg (ktV k A n c), .agg (prV p)] w (Ret w (.bool (govB k p))) := by
  have e1 : (w.alloc (.cells (ktV k A n c) 41)).heap.size = w.heap.size + 1 := alloc_size _ _
  obtain ⟨W, hW⟩ : ∃ W, W = (w.alloc (.cells (ktV k A n c) 41)).alloc (.cells (prV p) 30) := ⟨_, rfl⟩
  have R0 := Lib.hid (show W.heap[w.heap.size]? = some (.cells (ktV k A n c) 41 (0, 0)) by rw [hW, Below.block (alloc_below _ _) _ (by rw [e1]; omega)]; exact heap_alloc_new w _)
  have R1 := Lib.hid (show W.heap[w.heap.size + 1]? = some (.cells (prV p) 30 (0, 0)) by rw [hW, ← e1]; exact heap_alloc_new _ _)
  have HB := Lib.hid (show Below w.heap.size w W by rw [hW]; exact ((Below.refl _ _).alloc (Nat.le_refl _) _).alloc (by simp) _)
  have SA := Lib.hid (show ∀ j v, (adrK k.s k.a)[j]? = some v → W.cell? ⟨w.heap.size, 1 + j, none⟩ = some v from fun j v hv => kt_cell R0.out (kt_src hv))
  have SB := Lib.hid (show ∀ j v, (adrK p.rs p.ra)[j]? = some v → W.cell? ⟨w.heap.size + 1, 18 + j, none⟩ = some v from fun j v hv => pr_cell R1.out (pr_rem hp hv))
  have c18 := kt_cell R0.out (kt_len hk)
  have IA := Lib.hid (adrKi k.s hk.la)
  have IB := Lib.hid (adrKi p.rs hp.lr)
  have LI := Lib.hid (fun w' => (show Calls Try.prog 53 #[.agg (adrK p.rs p.ra).toArray, .agg (adrK k.s k.a).toArray, .int .i64 k.len] w' (Ret w' (.bool (liesL p.rs p.ra k.s k.a k.len))) from rlies_any p.rs k.s p.ra k.a k.len w' hp.lr hk.la hp.yr hk.ya))
  have P1 := Lib.hid (fun w' => port_any k.lp p.lport w')
  have P2 := Lib.hid (fun w' => port_any k.rp p.rport w')
  have KA := Lib.hid (fun (w' : World) (h : Below W.heap.size W w') => (show w'.heap[w.heap.size]? = some (.cells (ktV k A n c) 41 (0, 0)) from (h.block _ (lt_of_row R0.out)).trans R0.out))
  have KB := Lib.hid (fun (w' : World) (h : Below W.heap.size W w') => (show w'.heap[w.heap.size + 1]? = some (.cells (prV p) 30 (0, 0)) from (h.block _ (lt_of_row R1.out)).trans R1.out))
  have C19 := Lib.hid (fun w' h => kt_cell (KA.out w' h) (kt_lp hk))
  have C20 := Lib.hid (fun w' h => kt_cell (KA.out w' h) (kt_rp hk))
  have D17 := Lib.hid (fun w' h => pr_cell (KB.out w' h) (pr_lport hp))
  have D35 := Lib.hid (fun w' h => pr_cell (KB.out w' h) (pr_rport hp))
  obtain ⟨V, hV⟩ : ∃ V, V = govB k p := ⟨_, rfl⟩
  rw [← hV]
  unfold govB at hV
  generalize liesL p.rs p.ra k.s k.a k.len = q1 at *
  generalize portB k.lp p.lport = q2 at *
  generalize portB k.rp p.rport = q3 at *
  generalize ktV k A n c = CP at *
  generalize prV p = CQ at *
  generalize adrK k.s k.a = LA at *
  generalize adrK p.rs p.ra = LB at *
  generalize k.len = kl at *
  generalize k.lp = kp at *
  generalize k.rp = kr at *
  generalize p.lport = pl at *
  generalize p.rport = pr at *
  have HV := Lib.hid hV
  clear hV hk hp e1 KA KB
  go_enter Try.func46, Try.ntmps46
  go_upto_region 1 with fail
  rw [← hW]
  clear hW
  cases q1
  · have hv := Lib.hid (show V = false by rw [HV.out]; rfl)
    go_wp2_with (first
      | go_skip
      | (with_reducible refine atC.at_load 25 6 ?_; refine pkC.wpList_load_partG (by kernel_rfl) 25 (.tmp 6) rfl (w.heap.size + 1) 18 (by kernel_rfl) LB _ SB.out Try.underlying25 rfl IB.out ?_)
      | (with_reducible refine atC.at_load 25 8 ?_; refine pkC.wpList_load_partG (by kernel_rfl) 25 (.tmp 8) rfl w.heap.size 1 (by kernel_rfl) LA _ SA.out Try.underlying25 rfl IA.out ?_)
      | (go_at_call 53; (with_reducible refine (LI.out _).mono ?_); rintro e w2 ⟨rfl, BB⟩
         have HW2 := Lib.hid BB
         have c19 := C19.out w2 BB
         have c20 := C20.out w2 BB
         have d17 := D17.out w2 BB
         have d35 := D35.out w2 BB
         clear BB)
      | (go_at_call 54; (with_reducible refine (P1.out _).mono ?_); rintro e w3 ⟨rfl, hw⟩; obtain rfl := hw.symm)
      | (go_at_call 54; (with_reducible refine (P2.out _).mono ?_); rintro e w3 ⟨rfl, hw⟩; obtain rfl := hw.symm))
    go_ret
    exact ⟨ret_bool (by first | exact hv.out | exact hv.out.symm), HB.out.trans (HW2.out.mono HB.out.size)⟩
  · cases q2
    · have hv := Lib.hid (show V = false by rw [HV.out]; rfl)
      go_wp2_with (first
        | go_skip
        | (with_reducible refine atC.at_load 25 6 ?_; refine pkC.wpList_load_partG (by kernel_rfl) 25 (.tmp 6) rfl (w.heap.size + 1) 18 (by kernel_rfl) LB _ SB.out Try.underlying25 rfl IB.out ?_)
        | (with_reducible refine atC.at_load 25 8 ?_; refine pkC.wpList_load_partG (by kernel_rfl) 25 (.tmp 8) rfl w.heap.size 1 (by kernel_rfl) LA _ SA.out Try.underlying25 rfl IA.out ?_)
        | (go_at_call 53; (with_reducible refine (LI.out _).mono ?_); rintro e w2 ⟨rfl, BB⟩
           have HW2 := Lib.hid BB
           have c19 := C19.out w2 BB
           have c20 := C20.out w2 BB
           have d17 := D17.out w2 BB
           have d35 := D35.out w2 BB
           clear BB)
        | (go_at_call 54; (with_reducible refine (P1.out _).mono ?_); rintro e w3 ⟨rfl, hw⟩; obtain rfl := hw.symm)
        | (go_at_call 54; (with_reducible refine (P2.out _).mono ?_); rintro e w3 ⟨rfl, hw⟩; obtain rfl := hw.symm))
      go_ret
      exact ⟨ret_bool (by first | exact hv.out | exact hv.out.symm), HB.out.trans (HW2.out.mono HB.out.size)⟩
    · have hv := Lib.hid (show V = q3 by rw [HV.out]; rfl)
      go_wp2_with (first
        | go_skip
        | (with_reducible refine atC.at_load 25 6 ?_; refine pkC.wpList_load_partG (by kernel_rfl) 25 (.tmp 6) rfl (w.heap.size + 1) 18 (by kernel_rfl) LB _ SB.out Try.underlying25 rfl IB.out ?_)
        | (with_reducible refine atC.at_load 25 8 ?_; refine pkC.wpList_load_partG (by kernel_rfl) 25 (.tmp 8) rfl w.heap.size 1 (by kernel_rfl) LA _ SA.out Try.underlying25 rfl IA.out ?_)
        | (go_at_call 53; (with_reducible refine (LI.out _).mono ?_); rintro e w2 ⟨rfl, BB⟩
           have HW2 := Lib.hid BB
           have c19 := C19.out w2 BB
           have c20 := C20.out w2 BB
           have d17 := D17.out w2 BB
           have d35 := D35.out w2 BB
           clear BB)
        | (go_at_call 54; (with_reducible refine (P1.out _).mono ?_); rintro e w3 ⟨rfl, hw⟩; obtain rfl := hw.symm)
        | (go_at_call 54; (with_reducible refine (P2.out _).mono ?_); rintro e w3 ⟨rfl, hw⟩; obtain rfl := hw.symm))
      go_ret
      exact ⟨ret_bool (by first | exact hv.out | exact hv.out.symm), HB.out.trans (HW2.out.mono HB.out.size)⟩
end Go.Proofs.Ytflfkhcbkhdahaa.mkC

/-
  Whether a key tuple may be, and whether two meet, by the document.
-/
namespace Go.Proofs.Ytflfkhcbkhdahaa.mkC
open Go.ChangeShapes Go.WideShapes Go.ChangeAt Go.RowKit
open Go.Proofs.Ytflfkhcbkhdahaa.memC Go.Proofs.Ytflfkhcbkhdahaa.genC Go.Proofs.Ytflfkhcbkhdahaa.butC Go.Proofs.Ytflfkhcbkhdahaa.freeC Go.Proofs.Ytflfkhcbkhdahaa.adC Go.Proofs.Ytflfkhcbkhdahaa.rtC
set_option linter.unusedVariables false
theorem rsize_any (a : Int) (w : World) : Calls Try.prog 52 #[.int .i64 a] w fun e w' => e = .returned (.int .i64 (algN a)) ∧ w' = w := by
  by_cases h1 : a = 1
  · subst h1
    go_enter Try.func52, Try.ntmps52
    go_wp2
    go_ret
    exact ⟨rfl, rfl⟩
  · by_cases h2 : a = 2
    · subst h2
      go_enter Try.func52, Try.ntmps52
      go_wp2
      go_ret
      exact ⟨rfl, rfl⟩
    · go_enter Try.func52, Try.ntmps52
      go_wp2
      go_ret
      exact ⟨by simp [algN, h1, h2], rfl⟩
theorem maskO_two (s : Bool) (b : List Int) (len : Int) : maskO s b len = none ∨ maskO s b len = some (s, mskL b len) := by
  unfold maskO; split
  · exact .inl rfl
  · exact .inr rfl
set_option maxRecDepth 100000 in
set_option maxHeartbeats 4000000 in
theorem rmay_any (k : Kt) (A : Option Addr) (n c : Nat) (w : World) (h : k.Ok) : Calls Try.prog 35 #[.agg (ktV k A n c)] w (Ret w (.bool (mayB k n))) := by
  have hzv := zeroAdr
  obtain ⟨W, hW⟩ : ∃ W, W = w.alloc (.cells (ktV k A n c) 41) := ⟨_, rfl⟩
  obtain ⟨bx, hbx⟩ : ∃ b, b = w.heap.size := ⟨_, rfl⟩
  have HB := Lib.hid (show Below w.heap.size w W by rw [hW]; exact alloc_below _ _)
  have R := Lib.hid (show W.heap[bx]? = some (.cells (ktV k A n c) 41 (0, 0)) by rw [hW, hbx]; exact heap_alloc_new _ _)
  have c18 := kt_cell R.out (kt_len h)
  have KR := Lib.hid (fun (w' : World) (hb : Below W.heap.size W w') => (show w'.heap[bx]? = some (.cells (ktV k A n c) 41 (0, 0)) from (hb.block _ (lt_of_row R.out)).trans R.out))
  have CG := Lib.hid (fun (w' : World) (hb : Below W.heap.size W w') => (show w'.cell? ⟨bx, 23, none⟩ = some (.int .i64 k.alg) from kt_cell (KR.out w' hb) (kt_alg h)))
  have CM' := Lib.hid (fun (w' : World) (hb : Below W.heap.size W w') => (show w'.cell? ⟨bx, 24, none⟩ = some (.slice A n c) from kt_cell (KR.out w' hb) (kt_mst h)))
  have CA := Lib.hid (fun (w' : World) (hb : Below W.heap.size W w') => (show ∀ q v, (adrK k.s k.a)[q]? = some v → w'.cell? ⟨bx, 1 + q, none⟩ = some v from fun q v hv => kt_cell (KR.out w' hb) (kt_src hv)))
  have IA := Lib.hid (adrKi k.s h.la)
  have SZ := Lib.hid (fun w' => rsize_any k.alg w')
  have MK0 := Lib.hid (fun w' => (show Calls Try.prog 51 #[.agg (adrK k.s k.a).toArray, .int .i64 k.len] w' (MRet 1 w' (maskO k.s k.a k.len)) from rmask_any k.s k.a k.len w' h.la h.ya))
  obtain ⟨V, hV⟩ : ∃ V, V = mayB k n := ⟨_, rfl⟩
  rw [← hV]
  unfold mayB at hV
  obtain ⟨CM, em, MK, q, EQ, IM, SM, OM, VM⟩ : ∃ (CM : Array Value) (em : Int) (MK : Hid (∀ w', Calls Try.prog 51 #[.agg (adrK k.s k.a).toArray, .int .i64 k.len] w' fun e w'' => e = .returned (.tuple #[.agg CM, .int .i64 em]) ∧ Below w'.heap.size w' w'')) (q : Bool)
      (EQ : Hid (∀ w', (Op.equalIn 10000 25 (.agg CM) (.agg (adrK k.s k.a).toArray)).run Try.prog w' = .ok q w')) (IM : Hid ((Try.prog.info? 25).map (·.size) = some CM.size)) (SM : Hid (zAdr.size = CM.size)) (OM : Hid (CM.all (·.oneCell') = true)),
      Hid ((em = 1 ∧ V = false) ∨ (em = 0 ∧ V = (q && (decide (0 < algN k.alg) && (decide (1 ≤ n) && decide (n ≤ 80)))))) := by
    rcases maskO_two k.s k.a k.len with e | e
    · rw [e] at MK0 hV
      refine ⟨zAdr, 1, Lib.hid fun w' => (MK0.out w').mono fun e w'' h => h, decide (false = k.s ∧ zs 16 = k.a), Lib.hid fun w' => eqa false k.s (zs 16) k.a (zs_len 16) h.la w', Lib.hid (show (Try.prog.info? 25).map (·.size) = some (adrV false (zs 16)).size by rw [adrV_size (zs_len 16)]; exact addr_info), Lib.hid rfl, Lib.hid (adrV_one false (zs 16)), Lib.hid (.inl ⟨rfl, ?_⟩)⟩
      rw [hV]; simp
    · rw [e] at MK0 hV
      refine ⟨adrV k.s (mskL k.a k.len), 0, Lib.hid fun w' => (MK0.out w').mono fun e w'' h => h, decide (k.s = k.s ∧ mskL k.a k.len = k.a), Lib.hid fun w' => eqa k.s k.s _ k.a (mskL_len _ h.la) h.la w', Lib.hid (show (Try.prog.info? 25).map (·.size) = some (adrV k.s (mskL k.a k.len)).size by rw [adrV_size (mskL_len _ h.la)]; exact addr_info), Lib.hid (show zAdr.size = (adrV k.s (mskL k.a k.len)).size by rw [adrV_size (mskL_len _ h.la)]; rfl), Lib.hid (adrV_one _ _), Lib.hid (.inr ⟨rfl, ?_⟩)⟩
      rw [hV]
      congr 1
      exact decide_eq_decide.2 ⟨fun h => by injection h with h; injection h with h1 h2; exact ⟨rfl, h2⟩, fun h => by rw [h.2]⟩
  clear MK0 hV
  generalize adrK k.s k.a = KA at *
  generalize algN k.alg = sz at *
  generalize ktV k A n c = CY at *
  generalize zAdr = ZA at *
  generalize k.len = ln at *
  generalize k.alg = alg at *
  clear h
  rcases VM.out with ⟨e0, hv0⟩ | ⟨e0, hv0⟩
  · subst e0
    have hv := Lib.hid hv0
    clear hv0 VM
    go_enter Try.func35, Try.ntmps35
    go_upto_region 1 with fail
    rw [← hW, ← hbx]
    clear hW hbx
    have CA1 := Lib.hid (CA.out W (Below.refl _ _))
    go_upto_region 2 with (first
      | (with_reducible refine atC.at_load 25 6 ?_; refine pkC.wpList_load_partG (by kernel_rfl) 25 (.tmp 6) rfl bx 1 (by kernel_rfl) KA _ CA1.out Try.underlying25 rfl IA.out ?_)
      | (go_at_call 51; (with_reducible refine (MK.out _).mono ?_); rintro e w2 ⟨rfl, BB⟩; have HW2 := Lib.hid BB; clear BB)
      | (refine wpList_store_row rfl 25 (.tmp 3) (.tmp 11) rfl w2.heap.size CM rfl rfl _ _ (heap_alloc_new _ _) IM.out SM.out OM.out ?_; rw [World.setRow_alloc_new]))
    obtain ⟨W3, hW3⟩ : ∃ W3, W3 = w2.alloc (.cells CM 25) := ⟨_, rfl⟩
    obtain ⟨g3, hg3⟩ : ∃ g, g = w2.heap.size := ⟨_, rfl⟩
    have R3 := Lib.hid (show W3.heap[g3]? = some (.cells CM 25 (0, 0)) by rw [hW3, hg3]; exact heap_alloc_new _ _)
    have HW3 := Lib.hid (show Below W.heap.size W W3 by rw [hW3]; exact HW2.out.trans ((alloc_below _ _).mono HW2.out.size))
    have CA3 := Lib.hid (CA.out W3 HW3.out)
    have cg := CG.out W3 HW3.out
    have cm := CM'.out W3 HW3.out
    rw [← hW3, ← hg3]
    clear hW3 hg3 c18 hzv
    go_wp2_with (first
      | go_skip
      | (with_reducible refine atC.at_load 25 3 ?_; refine wpList_load_rowG (by kernel_rfl) 25 (.tmp 3) rfl g3 (by kernel_rfl) _ _ _ _ R3.out Try.underlying25 rfl IM.out ?_)
      | (with_reducible refine atC.at_load 25 17 ?_; refine pkC.wpList_load_partG (by kernel_rfl) 25 (.tmp 17) rfl bx 1 (by kernel_rfl) KA _ CA3.out Try.underlying25 rfl IA.out ?_)
      | (with_reducible refine atC.at_bin .eql 25 ?_; refine wpList_runG (by kernel_rfl) _ (adC.eq_run (T := 25) (s := 16) (x := 18) rfl (by kernel_rfl) (by kernel_rfl) (EQ.out _) guard_addr) ?_)
      | (go_at_call 52; (with_reducible refine (SZ.out _).mono ?_); rintro e w4 ⟨rfl, hw⟩; obtain rfl := hw.symm))
    go_ret
    exact ⟨ret_bool (by first | exact hv.out | exact hv.out.symm), HB.out.trans (HW3.out.mono HB.out.size)⟩
  · subst e0
    have HV0 := Lib.hid hv0
    clear hv0 VM
    cases q
    · have hv := Lib.hid (show V = false by rw [HV0.out]; rfl)
      clear HV0
      go_enter Try.func35, Try.ntmps35
      go_upto_region 1 with fail
      rw [← hW, ← hbx]
      clear hW hbx
      have CA1 := Lib.hid (CA.out W (Below.refl _ _))
      go_upto_region 2 with (first
        | (with_reducible refine atC.at_load 25 6 ?_; refine pkC.wpList_load_partG (by kernel_rfl) 25 (.tmp 6) rfl bx 1 (by kernel_rfl) KA _ CA1.out Try.underlying25 rfl IA.out ?_)
        | (go_at_call 51; (with_reducible refine (MK.out _).mono ?_); rintro e w2 ⟨rfl, BB⟩; have HW2 := Lib.hid BB; clear BB)
        | (refine wpList_store_row rfl 25 (.tmp 3) (.tmp 11) rfl w2.heap.size CM rfl rfl _ _ (heap_alloc_new _ _) IM.out SM.out OM.out ?_; rw [World.setRow_alloc_new]))
      obtain ⟨W3, hW3⟩ : ∃ W3, W3 = w2.alloc (.cells CM 25) := ⟨_, rfl⟩
      obtain ⟨g3, hg3⟩ : ∃ g, g = w2.heap.size := ⟨_, rfl⟩
      have R3 := Lib.hid (show W3.heap[g3]? = some (.cells CM 25 (0, 0)) by rw [hW3, hg3]; exact heap_alloc_new _ _)
      have HW3 := Lib.hid (show Below W.heap.size W W3 by rw [hW3]; exact HW2.out.trans ((alloc_below _ _).mono HW2.out.size))
      have CA3 := Lib.hid (CA.out W3 HW3.out)
      have cg := CG.out W3 HW3.out
      have cm := CM'.out W3 HW3.out
      rw [← hW3, ← hg3]
      clear hW3 hg3 c18 hzv
      go_wp2_with (first
        | go_skip
        | (with_reducible refine atC.at_load 25 3 ?_; refine wpList_load_rowG (by kernel_rfl) 25 (.tmp 3) rfl g3 (by kernel_rfl) _ _ _ _ R3.out Try.underlying25 rfl IM.out ?_)
        | (with_reducible refine atC.at_load 25 17 ?_; refine pkC.wpList_load_partG (by kernel_rfl) 25 (.tmp 17) rfl bx 1 (by kernel_rfl) KA _ CA3.out Try.underlying25 rfl IA.out ?_)
        | (with_reducible refine atC.at_bin .eql 25 ?_; refine wpList_runG (by kernel_rfl) _ (adC.eq_run (T := 25) (s := 16) (x := 18) rfl (by kernel_rfl) (by kernel_rfl) (EQ.out _) guard_addr) ?_)
        | (go_at_call 52; (with_reducible refine (SZ.out _).mono ?_); rintro e w4 ⟨rfl, hw⟩; obtain rfl := hw.symm))
      go_ret
      exact ⟨ret_bool (by first | exact hv.out | exact hv.out.symm), HB.out.trans (HW3.out.mono HB.out.size)⟩
    · by_cases h1 : 0 < sz
      · by_cases h2 : 1 ≤ n
        · by_cases h3 : n ≤ 80
          · have hv := Lib.hid (show V = true by rw [HV0.out]; simp [h1, h2, h3])
            clear HV0
            have q1 : decide (sz > 0) = true := decide_eq_true h1
            have q2 : decide ((n : Int) ≥ 1) = true := decide_eq_true (by omega)
            have q3 : decide ((n : Int) ≤ 80) = true := decide_eq_true (by omega)
            go_enter Try.func35, Try.ntmps35
            go_upto_region 1 with fail
            rw [← hW, ← hbx]
            clear hW hbx
            have CA1 := Lib.hid (CA.out W (Below.refl _ _))
            go_upto_region 2 with (first
              | (with_reducible refine atC.at_load 25 6 ?_; refine pkC.wpList_load_partG (by kernel_rfl) 25 (.tmp 6) rfl bx 1 (by kernel_rfl) KA _ CA1.out Try.underlying25 rfl IA.out ?_)
              | (go_at_call 51; (with_reducible refine (MK.out _).mono ?_); rintro e w2 ⟨rfl, BB⟩; have HW2 := Lib.hid BB; clear BB)
              | (refine wpList_store_row rfl 25 (.tmp 3) (.tmp 11) rfl w2.heap.size CM rfl rfl _ _ (heap_alloc_new _ _) IM.out SM.out OM.out ?_; rw [World.setRow_alloc_new]))
            obtain ⟨W3, hW3⟩ : ∃ W3, W3 = w2.alloc (.cells CM 25) := ⟨_, rfl⟩
            obtain ⟨g3, hg3⟩ : ∃ g, g = w2.heap.size := ⟨_, rfl⟩
            have R3 := Lib.hid (show W3.heap[g3]? = some (.cells CM 25 (0, 0)) by rw [hW3, hg3]; exact heap_alloc_new _ _)
            have HW3 := Lib.hid (show Below W.heap.size W W3 by rw [hW3]; exact HW2.out.trans ((alloc_below _ _).mono HW2.out.size))
            have CA3 := Lib.hid (CA.out W3 HW3.out)
            have cg := CG.out W3 HW3.out
            have cm := CM'.out W3 HW3.out
            rw [← hW3, ← hg3]
            clear hW3 hg3 c18 hzv
            go_wp2_with (first
              | go_skip
              | (with_reducible refine atC.at_load 25 3 ?_; refine wpList_load_rowG (by kernel_rfl) 25 (.tmp 3) rfl g3 (by kernel_rfl) _ _ _ _ R3.out Try.underlying25 rfl IM.out ?_)
              | (with_reducible refine atC.at_load 25 17 ?_; refine pkC.wpList_load_partG (by kernel_rfl) 25 (.tmp 17) rfl bx 1 (by kernel_rfl) KA _ CA3.out Try.underlying25 rfl IA.out ?_)
              | (with_reducible refine atC.at_bin .eql 25 ?_; refine wpList_runG (by kernel_rfl) _ (adC.eq_run (T := 25) (s := 16) (x := 18) rfl (by kernel_rfl) (by kernel_rfl) (EQ.out _) guard_addr) ?_)
              | (go_at_call 52; (with_reducible refine (SZ.out _).mono ?_); rintro e w4 ⟨rfl, hw⟩; obtain rfl := hw.symm))
            go_ret
            exact ⟨ret_bool (by first | exact hv.out | exact hv.out.symm), HB.out.trans (HW3.out.mono HB.out.size)⟩
          · have hv := Lib.hid (show V = false by rw [HV0.out]; simp [h3])
            clear HV0
            have q1 : decide (sz > 0) = true := decide_eq_true h1
            have q2 : decide ((n : Int) ≥ 1) = true := decide_eq_true (by omega)
            have q3 : decide ((n : Int) ≤ 80) = false := decide_eq_false (by omega)
            go_enter Try.func35, Try.ntmps35
            go_upto_region 1 with fail
            rw [← hW, ← hbx]
            clear hW hbx
            have CA1 := Lib.hid (CA.out W (Below.refl _ _))
            go_upto_region 2 with (first
              | (with_reducible refine atC.at_load 25 6 ?_; refine pkC.wpList_load_partG (by kernel_rfl) 25 (.tmp 6) rfl bx 1 (by kernel_rfl) KA _ CA1.out Try.underlying25 rfl IA.out ?_)
              | (go_at_call 51; (with_reducible refine (MK.out _).mono ?_); rintro e w2 ⟨rfl, BB⟩; have HW2 := Lib.hid BB; clear BB)
              | (refine wpList_store_row rfl 25 (.tmp 3) (.tmp 11) rfl w2.heap.size CM rfl rfl _ _ (heap_alloc_new _ _) IM.out SM.out OM.out ?_; rw [World.setRow_alloc_new]))
            obtain ⟨W3, hW3⟩ : ∃ W3, W3 = w2.alloc (.cells CM 25) := ⟨_, rfl⟩
            obtain ⟨g3, hg3⟩ : ∃ g, g = w2.heap.size := ⟨_, rfl⟩
            have R3 := Lib.hid (show W3.heap[g3]? = some (.cells CM 25 (0, 0)) by rw [hW3, hg3]; exact heap_alloc_new _ _)
            have HW3 := Lib.hid (show Below W.heap.size W W3 by rw [hW3]; exact HW2.out.trans ((alloc_below _ _).mono HW2.out.size))
            have CA3 := Lib.hid (CA.out W3 HW3.out)
            have cg := CG.out W3 HW3.out
            have cm := CM'.out W3 HW3.out
            rw [← hW3, ← hg3]
            clear hW3 hg3 c18 hzv
            go_wp2_with (first
              | go_skip
              | (with_reducible refine atC.at_load 25 3 ?_; refine wpList_load_rowG (by kernel_rfl) 25 (.tmp 3) rfl g3 (by kernel_rfl) _ _ _ _ R3.out Try.underlying25 rfl IM.out ?_)
              | (with_reducible refine atC.at_load 25 17 ?_; refine pkC.wpList_load_partG (by kernel_rfl) 25 (.tmp 17) rfl bx 1 (by kernel_rfl) KA _ CA3.out Try.underlying25 rfl IA.out ?_)
              | (with_reducible refine atC.at_bin .eql 25 ?_; refine wpList_runG (by kernel_rfl) _ (adC.eq_run (T := 25) (s := 16) (x := 18) rfl (by kernel_rfl) (by kernel_rfl) (EQ.out _) guard_addr) ?_)
              | (go_at_call 52; (with_reducible refine (SZ.out _).mono ?_); rintro e w4 ⟨rfl, hw⟩; obtain rfl := hw.symm))
            go_ret
            exact ⟨ret_bool (by first | exact hv.out | exact hv.out.symm), HB.out.trans (HW3.out.mono HB.out.size)⟩
        · have hv := Lib.hid (show V = false by rw [HV0.out]; simp [h2])
          clear HV0
          have q1 : decide (sz > 0) = true := decide_eq_true h1
          have q2 : decide ((n : Int) ≥ 1) = false := decide_eq_false (by omega)
          go_enter Try.func35, Try.ntmps35
          go_upto_region 1 with fail
          rw [← hW, ← hbx]
          clear hW hbx
          have CA1 := Lib.hid (CA.out W (Below.refl _ _))
          go_upto_region 2 with (first
            | (with_reducible refine atC.at_load 25 6 ?_; refine pkC.wpList_load_partG (by kernel_rfl) 25 (.tmp 6) rfl bx 1 (by kernel_rfl) KA _ CA1.out Try.underlying25 rfl IA.out ?_)
            | (go_at_call 51; (with_reducible refine (MK.out _).mono ?_); rintro e w2 ⟨rfl, BB⟩; have HW2 := Lib.hid BB; clear BB)
            | (refine wpList_store_row rfl 25 (.tmp 3) (.tmp 11) rfl w2.heap.size CM rfl rfl _ _ (heap_alloc_new _ _) IM.out SM.out OM.out ?_; rw [World.setRow_alloc_new]))
          obtain ⟨W3, hW3⟩ : ∃ W3, W3 = w2.alloc (.cells CM 25) := ⟨_, rfl⟩
          obtain ⟨g3, hg3⟩ : ∃ g, g = w2.heap.size := ⟨_, rfl⟩
          have R3 := Lib.hid (show W3.heap[g3]? = some (.cells CM 25 (0, 0)) by rw [hW3, hg3]; exact heap_alloc_new _ _)
          have HW3 := Lib.hid (show Below W.heap.size W W3 by rw [hW3]; exact HW2.out.trans ((alloc_below _ _).mono HW2.out.size))
          have CA3 := Lib.hid (CA.out W3 HW3.out)
          have cg := CG.out W3 HW3.out
          have cm := CM'.out W3 HW3.out
          rw [← hW3, ← hg3]
          clear hW3 hg3 c18 hzv
          go_wp2_with (first
            | go_skip
            | (with_reducible refine atC.at_load 25 3 ?_; refine wpList_load_rowG (by kernel_rfl) 25 (.tmp 3) rfl g3 (by kernel_rfl) _ _ _ _ R3.out Try.underlying25 rfl IM.out ?_)
            | (with_reducible refine atC.at_load 25 17 ?_; refine pkC.wpList_load_partG (by kernel_rfl) 25 (.tmp 17) rfl bx 1 (by kernel_rfl) KA _ CA3.out Try.underlying25 rfl IA.out ?_)
            | (with_reducible refine atC.at_bin .eql 25 ?_; refine wpList_runG (by kernel_rfl) _ (adC.eq_run (T := 25) (s := 16) (x := 18) rfl (by kernel_rfl) (by kernel_rfl) (EQ.out _) guard_addr) ?_)
            | (go_at_call 52; (with_reducible refine (SZ.out _).mono ?_); rintro e w4 ⟨rfl, hw⟩; obtain rfl := hw.symm))
          go_ret
          exact ⟨ret_bool (by first | exact hv.out | exact hv.out.symm), HB.out.trans (HW3.out.mono HB.out.size)⟩
      · have hv := Lib.hid (show V = false by rw [HV0.out]; simp [h1])
        clear HV0
        have q1 : decide (sz > 0) = false := decide_eq_false h1
        go_enter Try.func35, Try.ntmps35
        go_upto_region 1 with fail
        rw [← hW, ← hbx]
        clear hW hbx
        have CA1 := Lib.hid (CA.out W (Below.refl _ _))
        go_upto_region 2 with (first
          | (with_reducible refine atC.at_load 25 6 ?_; refine pkC.wpList_load_partG (by kernel_rfl) 25 (.tmp 6) rfl bx 1 (by kernel_rfl) KA _ CA1.out Try.underlying25 rfl IA.out ?_)
          | (go_at_call 51; (with_reducible refine (MK.out _).mono ?_); rintro e w2 ⟨rfl, BB⟩; have HW2 := Lib.hid BB; clear BB)
          | (refine wpList_store_row rfl 25 (.tmp 3) (.tmp 11) rfl w2.heap.size CM rfl rfl _ _ (heap_alloc_new _ _) IM.out SM.out OM.out ?_; rw [World.setRow_alloc_new]))
        obtain ⟨W3, hW3⟩ : ∃ W3, W3 = w2.alloc (.cells CM 25) := ⟨_, rfl⟩
        obtain ⟨g3, hg3⟩ : ∃ g, g = w2.heap.size := ⟨_, rfl⟩
        have R3 := Lib.hid (show W3.heap[g3]? = some (.cells CM 25 (0, 0)) by rw [hW3, hg3]; exact heap_alloc_new _ _)
        have HW3 := Lib.hid (show Below W.heap.size W W3 by rw [hW3]; exact HW2.out.trans ((alloc_below _ _).mono HW2.out.size))
        have CA3 := Lib.hid (CA.out W3 HW3.out)
        have cg := CG.out W3 HW3.out
        have cm := CM'.out W3 HW3.out
        rw [← hW3, ← hg3]
        clear hW3 hg3 c18 hzv
        go_wp2_with (first
          | go_skip
          | (with_reducible refine atC.at_load 25 3 ?_; refine wpList_load_rowG (by kernel_rfl) 25 (.tmp 3) rfl g3 (by kernel_rfl) _ _ _ _ R3.out Try.underlying25 rfl IM.out ?_)
          | (with_reducible refine atC.at_load 25 17 ?_; refine pkC.wpList_load_partG (by kernel_rfl) 25 (.tmp 17) rfl bx 1 (by kernel_rfl) KA _ CA3.out Try.underlying25 rfl IA.out ?_)
          | (with_reducible refine atC.at_bin .eql 25 ?_; refine wpList_runG (by kernel_rfl) _ (adC.eq_run (T := 25) (s := 16) (x := 18) rfl (by kernel_rfl) (by kernel_rfl) (EQ.out _) guard_addr) ?_)
          | (go_at_call 52; (with_reducible refine (SZ.out _).mono ?_); rintro e w4 ⟨rfl, hw⟩; obtain rfl := hw.symm))
        go_ret
        exact ⟨ret_bool (by first | exact hv.out | exact hv.out.symm), HB.out.trans (HW3.out.mono HB.out.size)⟩
end Go.Proofs.Ytflfkhcbkhdahaa.mkC
