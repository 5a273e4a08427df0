/-
  5 texts of a proof, joined.
-/
import Derived.Test.YtmedccfekfnmlaaMg10
import Derived.Test.YtmedccfekfnmlaaMg4
import Derived.Test.YtmedccfekfnmlaaMg11
import Derived.Test.YtmedccfekfnmlaaMg9
import Derived.Test.YtmedccfekfnmlaaMg3
import Derived.Test.YtmedccfekfnmlaaMg1
import Derived.ProofKit
import Derived.Outline
import Derived.Deep.QuietTactic
import Derived.BigQuiet
import Derived.Lib.Hide
import Derived.IntWalk

/-
  Whether two packets are the same: the program's.
-/
namespace Go.Proofs.Ytmedccfekfnmlaa.pkC
open Go.ChangeShapes Go.WideShapes Go.ChangeAt Go.RowKit
open Go.Proofs.Ytmedccfekfnmlaa.memC Go.Proofs.Ytmedccfekfnmlaa.genC Go.Proofs.Ytmedccfekfnmlaa.butC Go.Proofs.Ytmedccfekfnmlaa.freeC Go.Proofs.Ytmedccfekfnmlaa.adC
set_option linter.unusedVariables false
theorem bytes_equal (A : Option Addr) (n c : Nat) (A2 : Option Addr) (m c2 : Nat) (xs ys : List Int) (w : World) (h1 : Nums .u8 w w.heap.size A n xs) (h2 : Nums .u8 w w.heap.size A2 m ys) :
    Calls Try.prog 43 #[.slice A n c, .slice A2 m c2] w fun e w' => e = .returned (.bool ((strOfNums xs).toList == (strOfNums ys).toList)) ∧ w = w' := by
  have c1 : (convert 26 9 (.slice A n c)).run Try.prog w = .ok (.string (strOfNums xs)) w := run_string h1 c 26 5 9 Try.underlying26 Try.underlying5 Try.underlying9
  have c2' : (convert 26 9 (.slice A2 m c2)).run Try.prog w = .ok (.string (strOfNums ys)) w := run_string h2 c2 26 5 9 Try.underlying26 Try.underlying5 Try.underlying9
  go_enter Try.func43, Try.ntmps43
  go_wp2_with fail
  go_ret
  exact ⟨rfl, rfl⟩
theorem bytes_same (A : Option Addr) (n c : Nat) (A2 : Option Addr) (m c2 : Nat) (xs ys : List Int) (w : World) (h1 : Nums .u8 w w.heap.size A n xs) (h2 : Nums .u8 w w.heap.size A2 m ys) (yx : ∀ x ∈ xs, Byte x) (yy : ∀ x ∈ ys, Byte x) :
    Calls Try.prog 26 #[.slice A n c, .slice A2 m c2] w fun e w' => e = .returned (.bool (decide (xs = ys))) ∧ w = w' := by
  have HS : ((strOfNums xs).toList == (strOfNums ys).toList) = decide (xs = ys) := by
    rw [str_eqb yx yy]
    by_cases h : xs = ys
    · subst h; rw [lexL_self]; simp
    · rw [decide_eq_false h]; exact beq_eq_false_iff_ne.2 fun e => h (lexL_zero _ _ e)
  go_enter Try.func26, Try.ntmps26
  go_wp2_with (go_at_call 43; refine (bytes_equal _ _ _ _ _ _ xs ys _ h1 h2).mono ?_; rintro e w' ⟨rfl, rfl⟩)
  go_ret
  exact ⟨rfl, rfl⟩
set_option maxRecDepth 100000 in
set_option maxHeartbeats 4000000 in
theorem csame_any (p q : Pkt) (A B : Option Addr) (n c m d : Nat) (xs ys : List Int) (w : World) (hp : p.Ok) (hq : q.Ok) (hx : Nums .u8 w w.heap.size A n xs) (hy : Nums .u8 w w.heap.size B m ys) (yx : ∀ x ∈ xs, Byte x) (yy : ∀ x ∈ ys, Byte x) :
    Calls Try.prog 13 #[.agg (pktV p A n c), .agg (pktV q B m d)] w (Ret w (.bool (sameB p xs q ys))) := by
  have e1 : (w.alloc (.cells (pktV p A n c) 28)).heap.size = w.heap.size + 1 := alloc_size _ _
  obtain ⟨W, hW⟩ : ∃ W, W = (w.alloc (.cells (pktV p A n c) 28)).alloc (.cells (pktV q B m d) 28) := ⟨_, rfl⟩
  have R0 : W.heap[w.heap.size]? = some (.cells (pktV p A n c) 28 (0, 0)) := by rw [hW, Below.block (alloc_below _ _) _ (by rw [e1]; omega)]; exact heap_alloc_new w _
  have R1 : W.heap[w.heap.size + 1]? = some (.cells (pktV q B m d) 28 (0, 0)) := by rw [hW, ← e1]; exact heap_alloc_new _ _
  have HB := Lib.hid (show Below w.heap.size w W by rw [hW]; exact ((Below.refl _ _).alloc (Nat.le_refl _) _).alloc (by simp) _)
  have c0 := pkC hp A n c
  have c1 := pkC hq B m d
  have EQ0 := Lib.hid (fun w' => eqa p.s q.s p.a q.a hp.la hq.la w')
  have EQ1 := Lib.hid (fun w' => eqa p.t q.t p.b q.b hp.lb hq.lb w')
  rw [← adrC_arr, ← adrC_arr] at EQ0 EQ1
  have IA := Lib.hid (adrC_info (s := p.s) hp.la)
  have IB := Lib.hid (adrC_info (s := q.s) hq.la)
  have IC := Lib.hid (adrC_info (s := p.t) hp.lb)
  have ID := Lib.hid (adrC_info (s := q.t) hq.lb)
  have SA := Lib.hid (PkC.part R0 c0.src)
  have SB := Lib.hid (PkC.part R1 c1.src)
  have SC := Lib.hid (PkC.part R0 c0.dst)
  have SD := Lib.hid (PkC.part R1 c1.dst)
  have k0 := PkC.cell R0 c0.proto
  have j0 := PkC.cell R1 c1.proto
  have k1 := PkC.cell R0 c0.hops
  have j1 := PkC.cell R1 c1.hops
  have k2 := PkC.cell R0 c0.id
  have j2 := PkC.cell R1 c1.id
  have k3 := PkC.cell R0 c0.whole
  have j3 := PkC.cell R1 c1.whole
  have k4 := PkC.cell R0 c0.more
  have j4 := PkC.cell R1 c1.more
  have k5 := PkC.cell R0 c0.off
  have j5 := PkC.cell R1 c1.off
  have k6 := PkC.cell R0 c0.load
  have j6 := PkC.cell R1 c1.load
  have SS := Lib.hid (bytes_same A n c B m d xs ys W ((hx.below HB.out).more HB.out.size) ((hy.below HB.out).more HB.out.size) yx yy)
  obtain ⟨V, hV⟩ : ∃ V, V = sameB p xs q ys := ⟨_, rfl⟩
  rw [← hV]
  unfold sameB at hV
  generalize decide (xs = ys) = e8 at *
  generalize decide (p.s = q.s ∧ p.a = q.a) = e0 at *
  generalize decide (p.t = q.t ∧ p.b = q.b) = e1' at *
  generalize adrC p.s p.a = LA at *
  generalize adrC q.s q.a = LB at *
  generalize adrC p.t p.b = LC at *
  generalize adrC q.t q.b = LD at *
  generalize pktV p A n c = CP at *
  generalize pktV q B m d = CQ at *
  generalize p.proto = proto1 at *
  generalize q.proto = proto2 at *
  generalize p.hops = hops1 at *
  generalize q.hops = hops2 at *
  generalize p.id = id1 at *
  generalize q.id = id2 at *
  generalize p.whole = whole1 at *
  generalize q.whole = whole2 at *
  generalize p.more = more1 at *
  generalize q.more = more2 at *
  generalize p.off = off1 at *
  generalize q.off = off2 at *
  have HV := Lib.hid hV
  clear hp hq hx hy yx yy c0 c1 R0 R1 e1 hV
  go_enter Try.func13, Try.ntmps13
  go_upto_region 1 with fail
  rw [← hW]
  clear hW
  cases e0
  · have hv := Lib.hid (show V = false by rw [HV.out]; simp)
    go_wp2_with (first
      | go_skip
      | (with_reducible refine atC.at_load 24 5 ?_; refine wpList_load_partG (by kernel_rfl) 24 (.tmp 5) (by kernel_rfl) (w.heap.size) 0 (by kernel_rfl) LA _ SA.out Try.underlying24 rfl IA.out ?_)
      | (with_reducible refine atC.at_load 24 7 ?_; refine wpList_load_partG (by kernel_rfl) 24 (.tmp 7) (by kernel_rfl) (w.heap.size + 1) 0 (by kernel_rfl) LB _ SB.out Try.underlying24 rfl IB.out ?_)
      | (with_reducible refine atC.at_bin .eql 24 ?_; refine wpList_runG (by kernel_rfl) _ (eq_run (T := 24) (s := 6) (x := 8) rfl (by kernel_rfl) (by kernel_rfl) (EQ0.out _) guard_addr) ?_)
      | (with_reducible refine atC.at_load 24 11 ?_; refine wpList_load_partG (by kernel_rfl) 24 (.tmp 11) (by kernel_rfl) (w.heap.size) 17 (by kernel_rfl) LC _ SC.out Try.underlying24 rfl IC.out ?_)
      | (with_reducible refine atC.at_load 24 13 ?_; refine wpList_load_partG (by kernel_rfl) 24 (.tmp 13) (by kernel_rfl) (w.heap.size + 1) 17 (by kernel_rfl) LD _ SD.out Try.underlying24 rfl ID.out ?_)
      | (with_reducible refine atC.at_bin .eql 24 ?_; refine wpList_runG (by kernel_rfl) _ (eq_run (T := 24) (s := 12) (x := 14) rfl (by kernel_rfl) (by kernel_rfl) (EQ1.out _) guard_addr) ?_)
      | (go_at_call 26; (with_reducible refine SS.out.mono ?_); rintro e w2 ⟨rfl, rfl⟩))
    go_ret
    exact ⟨ret_bool hv.out.symm, HB.out⟩
  · cases e1'
    · have hv := Lib.hid (show V = false by rw [HV.out]; simp)
      go_wp2_with (first
        | go_skip
        | (with_reducible refine atC.at_load 24 5 ?_; refine wpList_load_partG (by kernel_rfl) 24 (.tmp 5) (by kernel_rfl) (w.heap.size) 0 (by kernel_rfl) LA _ SA.out Try.underlying24 rfl IA.out ?_)
        | (with_reducible refine atC.at_load 24 7 ?_; refine wpList_load_partG (by kernel_rfl) 24 (.tmp 7) (by kernel_rfl) (w.heap.size + 1) 0 (by kernel_rfl) LB _ SB.out Try.underlying24 rfl IB.out ?_)
        | (with_reducible refine atC.at_bin .eql 24 ?_; refine wpList_runG (by kernel_rfl) _ (eq_run (T := 24) (s := 6) (x := 8) rfl (by kernel_rfl) (by kernel_rfl) (EQ0.out _) guard_addr) ?_)
        | (with_reducible refine atC.at_load 24 11 ?_; refine wpList_load_partG (by kernel_rfl) 24 (.tmp 11) (by kernel_rfl) (w.heap.size) 17 (by kernel_rfl) LC _ SC.out Try.underlying24 rfl IC.out ?_)
        | (with_reducible refine atC.at_load 24 13 ?_; refine wpList_load_partG (by kernel_rfl) 24 (.tmp 13) (by kernel_rfl) (w.heap.size + 1) 17 (by kernel_rfl) LD _ SD.out Try.underlying24 rfl ID.out ?_)
        | (with_reducible refine atC.at_bin .eql 24 ?_; refine wpList_runG (by kernel_rfl) _ (eq_run (T := 24) (s := 12) (x := 14) rfl (by kernel_rfl) (by kernel_rfl) (EQ1.out _) guard_addr) ?_)
        | (go_at_call 26; (with_reducible refine SS.out.mono ?_); rintro e w2 ⟨rfl, rfl⟩))
      go_ret
      exact ⟨ret_bool hv.out.symm, HB.out⟩
    · by_cases h2 : proto1 = proto2
      · subst h2
        by_cases h3 : hops1 = hops2
        · subst h3
          by_cases h4 : id1 = id2
          · subst h4
            cases hb5 : (whole1 == whole2)
            · have h5 : ¬ whole1 = whole2 := by simpa using hb5
              have hv := Lib.hid (show V = false by rw [HV.out]; simp [h5])
              clear h5
              go_wp2_with (first
                | go_skip
                | (with_reducible refine atC.at_load 24 5 ?_; refine wpList_load_partG (by kernel_rfl) 24 (.tmp 5) (by kernel_rfl) (w.heap.size) 0 (by kernel_rfl) LA _ SA.out Try.underlying24 rfl IA.out ?_)
                | (with_reducible refine atC.at_load 24 7 ?_; refine wpList_load_partG (by kernel_rfl) 24 (.tmp 7) (by kernel_rfl) (w.heap.size + 1) 0 (by kernel_rfl) LB _ SB.out Try.underlying24 rfl IB.out ?_)
                | (with_reducible refine atC.at_bin .eql 24 ?_; refine wpList_runG (by kernel_rfl) _ (eq_run (T := 24) (s := 6) (x := 8) rfl (by kernel_rfl) (by kernel_rfl) (EQ0.out _) guard_addr) ?_)
                | (with_reducible refine atC.at_load 24 11 ?_; refine wpList_load_partG (by kernel_rfl) 24 (.tmp 11) (by kernel_rfl) (w.heap.size) 17 (by kernel_rfl) LC _ SC.out Try.underlying24 rfl IC.out ?_)
                | (with_reducible refine atC.at_load 24 13 ?_; refine wpList_load_partG (by kernel_rfl) 24 (.tmp 13) (by kernel_rfl) (w.heap.size + 1) 17 (by kernel_rfl) LD _ SD.out Try.underlying24 rfl ID.out ?_)
                | (with_reducible refine atC.at_bin .eql 24 ?_; refine wpList_runG (by kernel_rfl) _ (eq_run (T := 24) (s := 12) (x := 14) rfl (by kernel_rfl) (by kernel_rfl) (EQ1.out _) guard_addr) ?_)
                | (go_at_call 26; (with_reducible refine SS.out.mono ?_); rintro e w2 ⟨rfl, rfl⟩))
              go_ret
              exact ⟨ret_bool hv.out.symm, HB.out⟩
            · obtain rfl : whole1 = whole2 := by simpa using hb5
              cases hb6 : (more1 == more2)
              · have h6 : ¬ more1 = more2 := by simpa using hb6
                have hv := Lib.hid (show V = false by rw [HV.out]; simp [h6])
                clear h6
                go_wp2_with (first
                  | go_skip
                  | (with_reducible refine atC.at_load 24 5 ?_; refine wpList_load_partG (by kernel_rfl) 24 (.tmp 5) (by kernel_rfl) (w.heap.size) 0 (by kernel_rfl) LA _ SA.out Try.underlying24 rfl IA.out ?_)
                  | (with_reducible refine atC.at_load 24 7 ?_; refine wpList_load_partG (by kernel_rfl) 24 (.tmp 7) (by kernel_rfl) (w.heap.size + 1) 0 (by kernel_rfl) LB _ SB.out Try.underlying24 rfl IB.out ?_)
                  | (with_reducible refine atC.at_bin .eql 24 ?_; refine wpList_runG (by kernel_rfl) _ (eq_run (T := 24) (s := 6) (x := 8) rfl (by kernel_rfl) (by kernel_rfl) (EQ0.out _) guard_addr) ?_)
                  | (with_reducible refine atC.at_load 24 11 ?_; refine wpList_load_partG (by kernel_rfl) 24 (.tmp 11) (by kernel_rfl) (w.heap.size) 17 (by kernel_rfl) LC _ SC.out Try.underlying24 rfl IC.out ?_)
                  | (with_reducible refine atC.at_load 24 13 ?_; refine wpList_load_partG (by kernel_rfl) 24 (.tmp 13) (by kernel_rfl) (w.heap.size + 1) 17 (by kernel_rfl) LD _ SD.out Try.underlying24 rfl ID.out ?_)
                  | (with_reducible refine atC.at_bin .eql 24 ?_; refine wpList_runG (by kernel_rfl) _ (eq_run (T := 24) (s := 12) (x := 14) rfl (by kernel_rfl) (by kernel_rfl) (EQ1.out _) guard_addr) ?_)
                  | (go_at_call 26; (with_reducible refine SS.out.mono ?_); rintro e w2 ⟨rfl, rfl⟩))
                go_ret
                exact ⟨ret_bool hv.out.symm, HB.out⟩
              · obtain rfl : more1 = more2 := by simpa using hb6
                by_cases h7 : off1 = off2
                · subst h7
                  cases e8
                  · have hv := Lib.hid (show V = false by rw [HV.out]; simp)
                    go_wp2_with (first
                      | go_skip
                      | (with_reducible refine atC.at_load 24 5 ?_; refine wpList_load_partG (by kernel_rfl) 24 (.tmp 5) (by kernel_rfl) (w.heap.size) 0 (by kernel_rfl) LA _ SA.out Try.underlying24 rfl IA.out ?_)
                      | (with_reducible refine atC.at_load 24 7 ?_; refine wpList_load_partG (by kernel_rfl) 24 (.tmp 7) (by kernel_rfl) (w.heap.size + 1) 0 (by kernel_rfl) LB _ SB.out Try.underlying24 rfl IB.out ?_)
                      | (with_reducible refine atC.at_bin .eql 24 ?_; refine wpList_runG (by kernel_rfl) _ (eq_run (T := 24) (s := 6) (x := 8) rfl (by kernel_rfl) (by kernel_rfl) (EQ0.out _) guard_addr) ?_)
                      | (with_reducible refine atC.at_load 24 11 ?_; refine wpList_load_partG (by kernel_rfl) 24 (.tmp 11) (by kernel_rfl) (w.heap.size) 17 (by kernel_rfl) LC _ SC.out Try.underlying24 rfl IC.out ?_)
                      | (with_reducible refine atC.at_load 24 13 ?_; refine wpList_load_partG (by kernel_rfl) 24 (.tmp 13) (by kernel_rfl) (w.heap.size + 1) 17 (by kernel_rfl) LD _ SD.out Try.underlying24 rfl ID.out ?_)
                      | (with_reducible refine atC.at_bin .eql 24 ?_; refine wpList_runG (by kernel_rfl) _ (eq_run (T := 24) (s := 12) (x := 14) rfl (by kernel_rfl) (by kernel_rfl) (EQ1.out _) guard_addr) ?_)
                      | (go_at_call 26; (with_reducible refine SS.out.mono ?_); rintro e w2 ⟨rfl, rfl⟩))
                    go_ret
                    exact ⟨ret_bool hv.out.symm, HB.out⟩
                  · have hv := Lib.hid (show V = true by rw [HV.out]; simp)
                    go_wp2_with (first
                      | go_skip
                      | (with_reducible refine atC.at_load 24 5 ?_; refine wpList_load_partG (by kernel_rfl) 24 (.tmp 5) (by kernel_rfl) (w.heap.size) 0 (by kernel_rfl) LA _ SA.out Try.underlying24 rfl IA.out ?_)
                      | (with_reducible refine atC.at_load 24 7 ?_; refine wpList_load_partG (by kernel_rfl) 24 (.tmp 7) (by kernel_rfl) (w.heap.size + 1) 0 (by kernel_rfl) LB _ SB.out Try.underlying24 rfl IB.out ?_)
                      | (with_reducible refine atC.at_bin .eql 24 ?_; refine wpList_runG (by kernel_rfl) _ (eq_run (T := 24) (s := 6) (x := 8) rfl (by kernel_rfl) (by kernel_rfl) (EQ0.out _) guard_addr) ?_)
                      | (with_reducible refine atC.at_load 24 11 ?_; refine wpList_load_partG (by kernel_rfl) 24 (.tmp 11) (by kernel_rfl) (w.heap.size) 17 (by kernel_rfl) LC _ SC.out Try.underlying24 rfl IC.out ?_)
                      | (with_reducible refine atC.at_load 24 13 ?_; refine wpList_load_partG (by kernel_rfl) 24 (.tmp 13) (by kernel_rfl) (w.heap.size + 1) 17 (by kernel_rfl) LD _ SD.out Try.underlying24 rfl ID.out ?_)
                      | (with_reducible refine atC.at_bin .eql 24 ?_; refine wpList_runG (by kernel_rfl) _ (eq_run (T := 24) (s := 12) (x := 14) rfl (by kernel_rfl) (by kernel_rfl) (EQ1.out _) guard_addr) ?_)
                      | (go_at_call 26; (with_reducible refine SS.out.mono ?_); rintro e w2 ⟨rfl, rfl⟩))
                    go_ret
                    exact ⟨ret_bool hv.out.symm, HB.out⟩
                · have hq7 : (off1 == off2) = false := beq_eq_false_iff_ne.2 h7
                  have hv := Lib.hid (show V = false by rw [HV.out]; simp [h7])
                  go_wp2_with (first
                    | go_skip
                    | (with_reducible refine atC.at_load 24 5 ?_; refine wpList_load_partG (by kernel_rfl) 24 (.tmp 5) (by kernel_rfl) (w.heap.size) 0 (by kernel_rfl) LA _ SA.out Try.underlying24 rfl IA.out ?_)
                    | (with_reducible refine atC.at_load 24 7 ?_; refine wpList_load_partG (by kernel_rfl) 24 (.tmp 7) (by kernel_rfl) (w.heap.size + 1) 0 (by kernel_rfl) LB _ SB.out Try.underlying24 rfl IB.out ?_)
                    | (with_reducible refine atC.at_bin .eql 24 ?_; refine wpList_runG (by kernel_rfl) _ (eq_run (T := 24) (s := 6) (x := 8) rfl (by kernel_rfl) (by kernel_rfl) (EQ0.out _) guard_addr) ?_)
                    | (with_reducible refine atC.at_load 24 11 ?_; refine wpList_load_partG (by kernel_rfl) 24 (.tmp 11) (by kernel_rfl) (w.heap.size) 17 (by kernel_rfl) LC _ SC.out Try.underlying24 rfl IC.out ?_)
                    | (with_reducible refine atC.at_load 24 13 ?_; refine wpList_load_partG (by kernel_rfl) 24 (.tmp 13) (by kernel_rfl) (w.heap.size + 1) 17 (by kernel_rfl) LD _ SD.out Try.underlying24 rfl ID.out ?_)
                    | (with_reducible refine atC.at_bin .eql 24 ?_; refine wpList_runG (by kernel_rfl) _ (eq_run (T := 24) (s := 12) (x := 14) rfl (by kernel_rfl) (by kernel_rfl) (EQ1.out _) guard_addr) ?_)
                    | (go_at_call 26; (with_reducible refine SS.out.mono ?_); rintro e w2 ⟨rfl, rfl⟩))
                  go_ret
                  exact ⟨ret_bool hv.out.symm, HB.out⟩
          · have hq4 : (id1 == id2) = false := beq_eq_false_iff_ne.2 h4
            have hv := Lib.hid (show V = false by rw [HV.out]; simp [h4])
            go_wp2_with (first
              | go_skip
              | (with_reducible refine atC.at_load 24 5 ?_; refine wpList_load_partG (by kernel_rfl) 24 (.tmp 5) (by kernel_rfl) (w.heap.size) 0 (by kernel_rfl) LA _ SA.out Try.underlying24 rfl IA.out ?_)
              | (with_reducible refine atC.at_load 24 7 ?_; refine wpList_load_partG (by kernel_rfl) 24 (.tmp 7) (by kernel_rfl) (w.heap.size + 1) 0 (by kernel_rfl) LB _ SB.out Try.underlying24 rfl IB.out ?_)
              | (with_reducible refine atC.at_bin .eql 24 ?_; refine wpList_runG (by kernel_rfl) _ (eq_run (T := 24) (s := 6) (x := 8) rfl (by kernel_rfl) (by kernel_rfl) (EQ0.out _) guard_addr) ?_)
              | (with_reducible refine atC.at_load 24 11 ?_; refine wpList_load_partG (by kernel_rfl) 24 (.tmp 11) (by kernel_rfl) (w.heap.size) 17 (by kernel_rfl) LC _ SC.out Try.underlying24 rfl IC.out ?_)
              | (with_reducible refine atC.at_load 24 13 ?_; refine wpList_load_partG (by kernel_rfl) 24 (.tmp 13) (by kernel_rfl) (w.heap.size + 1) 17 (by kernel_rfl) LD _ SD.out Try.underlying24 rfl ID.out ?_)
              | (with_reducible refine atC.at_bin .eql 24 ?_; refine wpList_runG (by kernel_rfl) _ (eq_run (T := 24) (s := 12) (x := 14) rfl (by kernel_rfl) (by kernel_rfl) (EQ1.out _) guard_addr) ?_)
              | (go_at_call 26; (with_reducible refine SS.out.mono ?_); rintro e w2 ⟨rfl, rfl⟩))
            go_ret
            exact ⟨ret_bool hv.out.symm, HB.out⟩
        · have hq3 : (hops1 == hops2) = false := beq_eq_false_iff_ne.2 h3
          have hv := Lib.hid (show V = false by rw [HV.out]; simp [h3])
          go_wp2_with (first
            | go_skip
            | (with_reducible refine atC.at_load 24 5 ?_; refine wpList_load_partG (by kernel_rfl) 24 (.tmp 5) (by kernel_rfl) (w.heap.size) 0 (by kernel_rfl) LA _ SA.out Try.underlying24 rfl IA.out ?_)
            | (with_reducible refine atC.at_load 24 7 ?_; refine wpList_load_partG (by kernel_rfl) 24 (.tmp 7) (by kernel_rfl) (w.heap.size + 1) 0 (by kernel_rfl) LB _ SB.out Try.underlying24 rfl IB.out ?_)
            | (with_reducible refine atC.at_bin .eql 24 ?_; refine wpList_runG (by kernel_rfl) _ (eq_run (T := 24) (s := 6) (x := 8) rfl (by kernel_rfl) (by kernel_rfl) (EQ0.out _) guard_addr) ?_)
            | (with_reducible refine atC.at_load 24 11 ?_; refine wpList_load_partG (by kernel_rfl) 24 (.tmp 11) (by kernel_rfl) (w.heap.size) 17 (by kernel_rfl) LC _ SC.out Try.underlying24 rfl IC.out ?_)
            | (with_reducible refine atC.at_load 24 13 ?_; refine wpList_load_partG (by kernel_rfl) 24 (.tmp 13) (by kernel_rfl) (w.heap.size + 1) 17 (by kernel_rfl) LD _ SD.out Try.underlying24 rfl ID.out ?_)
            | (with_reducible refine atC.at_bin .eql 24 ?_; refine wpList_runG (by kernel_rfl) _ (eq_run (T := 24) (s := 12) (x := 14) rfl (by kernel_rfl) (by kernel_rfl) (EQ1.out _) guard_addr) ?_)
            | (go_at_call 26; (with_reducible refine SS.out.mono ?_); rintro e w2 ⟨rfl, rfl⟩))
          go_ret
          exact ⟨ret_bool hv.out.symm, HB.out⟩
      · have hq2 : (proto1 == proto2) = false := beq_eq_false_iff_ne.2 h2
        have hv := Lib.hid (show V = false by rw [HV.out]; simp [h2])
        go_wp2_with (first
          | go_skip
          | (with_reducible refine atC.at_load 24 5 ?_; refine wpList_load_partG (by kernel_rfl) 24 (.tmp 5) (by kernel_rfl) (w.heap.size) 0 (by kernel_rfl) LA _ SA.out Try.underlying24 rfl IA.out ?_)
          | (with_reducible refine atC.at_load 24 7 ?_; refine wpList_load_partG (by kernel_rfl) 24 (.tmp 7) (by kernel_rfl) (w.heap.size + 1) 0 (by kernel_rfl) LB _ SB.out Try.underlying24 rfl IB.out ?_)
          | (with_reducible refine atC.at_bin .eql 24 ?_; refine wpList_runG (by kernel_rfl) _ (eq_run (T := 24) (s := 6) (x := 8) rfl (by kernel_rfl) (by kernel_rfl) (EQ0.out _) guard_addr) ?_)
          | (with_reducible refine atC.at_load 24 11 ?_; refine wpList_load_partG (by kernel_rfl) 24 (.tmp 11) (by kernel_rfl) (w.heap.size) 17 (by kernel_rfl) LC _ SC.out Try.underlying24 rfl IC.out ?_)
          | (with_reducible refine atC.at_load 24 13 ?_; refine wpList_load_partG (by kernel_rfl) 24 (.tmp 13) (by kernel_rfl) (w.heap.size + 1) 17 (by kernel_rfl) LD _ SD.out Try.underlying24 rfl ID.out ?_)
          | (with_reducible refine atC.at_bin .eql 24 ?_; refine wpList_runG (by kernel_rfl) _ (eq_run (T := 24) (s := 12) (x := 14) rfl (by kernel_rfl) (by kernel_rfl) (EQ1.out _) guard_addr) ?_)
          | (go_at_call 26; (with_reducible refine SS.out.mono ?_); rintro e w2 ⟨rfl, rfl⟩))
        go_ret
        exact ⟨ret_bool hv.out.symm, HB.out⟩
end Go.Proofs.Ytmedccfekfnmlaa.pkC


/-
  Whether a packet may be: the program's.
-/
namespace Go.Proofs.Ytmedccfekfnmlaa.pkC
open Go.ChangeShapes Go.WideShapes Go.ChangeAt Go.RowKit
open Go.Proofs.Ytmedccfekfnmlaa.memC Go.Proofs.Ytmedccfekfnmlaa.genC Go.Proofs.Ytmedccfekfnmlaa.butC Go.Proofs.Ytmedccfekfnmlaa.freeC Go.Proofs.Ytmedccfekfnmlaa.adC
set_option linter.unusedVariables false
def fourB' (s : Bool) (b : List Int) : Bool := !s && mayL s b
set_option maxRecDepth 100000 in
set_option maxHeartbeats 1000000 in
theorem cisfour_any (s : Bool) (b : List Int) (w : World) (hl : b.length = 16) : Calls Try.prog 24 #[.agg (adrV s b)] w (Ret w (.bool (fourB' s b))) := by
  have HB := Lib.hid (alloc_below w (.cells (adrV s b) 24))
  have k1 : (w.alloc (.cells (adrV s b) 24)).cell? ⟨w.heap.size, 0, none⟩ = some (.bool s) := by rw [cell_new]; exact adrV_six _ _
  have R := Lib.hid (heap_alloc_new w (.cells (adrV s b) 24))
  have UI := Lib.hid (show (Try.prog.info? 24).map (·.size) = some (adrV s b).size by rw [addr_info]; simp [adrV, hl])
  have MM := Lib.hid (fun w' => cmay_any s b w' hl)
  unfold fourB'
  generalize mayL s b = m at *
  generalize adrV s b = C at *
  obtain ⟨W, hW⟩ : ∃ W, W = w.alloc (.cells C 24) := ⟨_, rfl⟩
  rw [← hW] at HB R k1
  clear hl
  cases s
  · go_enter Try.func24, Try.ntmps24
    go_upto_region 1 with fail
    rw [← hW]
    clear hW
    go_wp2_with (first
      | (refine wpList_load_rowG (by kernel_rfl) 24 (.tmp 1) rfl w.heap.size rfl _ C _ _ R.out Try.underlying24 rfl UI.out ?_)
      | (go_at_call 41; (with_reducible refine (MM.out _).mono ?_); rintro e w2 ⟨rfl, BB⟩))
    go_ret
    exact ⟨rfl, HB.out.trans (BB.mono HB.out.size)⟩
  · go_enter Try.func24, Try.ntmps24
    go_upto_region 1 with fail
    rw [← hW]
    clear hW
    go_wp2_with fail
    go_ret
    exact ⟨rfl, HB.out⟩
theorem mayB_four (p : Pkt) (n : Nat) : mayB p n = (fourB' p.s p.a && (fourB' p.t p.b && (decide (p.id ≤ 65535) && (decide (0 ≤ p.off) && (decide (p.off % 8 = 0) && (decide (p.off ≤ 65515 - (n : Int)) && ((!p.more || decide (n % 8 = 0)) && (!p.whole || (!p.more && decide (p.off = 0)))))))))) := by
  unfold mayB fourB'
  by_cases h : p.off ≤ 65515 - (n : Int)
  · by_cases h0 : 0 ≤ p.off
    · have h1 : (n : Int) ≤ 65515 := by omega
      simp only [h, h0, h1, decide_true, Bool.and_true, Bool.true_and]
      cases p.s <;> cases p.t <;> simp [Bool.and_assoc]
    · simp [h0]
  · simp [h]
set_option maxRecDepth 100000 in
set_option maxHeartbeats 4000000 in
theorem cmay_pkt (p : Pkt) (A : Option Addr) (n c : Nat) (w : World) (hp : p.Ok) (hn : n ≤ 9223372036854775807) :
    Calls Try.prog 11 #[.agg (pktV p A n c)] w (Ret w (.bool (mayB p n))) := by
  obtain ⟨W, hW⟩ : ∃ W, W = w.alloc (.cells (pktV p A n c) 28) := ⟨_, rfl⟩
  have R0 := Lib.hid (show W.heap[w.heap.size]? = some (.cells (pktV p A n c) 28 (0, 0)) by rw [hW]; exact heap_alloc_new w _)
  have HB := Lib.hid (show Below w.heap.size w W by rw [hW]; exact alloc_below _ _)
  have c0 := pkC hp A n c
  have IA := Lib.hid (adrC_info (s := p.s) hp.la)
  have IC := Lib.hid (adrC_info (s := p.t) hp.lb)
  have KR := Lib.hid (fun (w' : World) (h : Below W.heap.size W w') => (show w'.heap[w.heap.size]? = some (.cells (pktV p A n c) 28 (0, 0)) by rw [h.block _ (lt_of_row R0.out)]; exact R0.out))
  have SA := Lib.hid (fun w' h => PkC.part (KR.out w' h) c0.src)
  have SC := Lib.hid (fun w' h => PkC.part (KR.out w' h) c0.dst)
  have M0 := Lib.hid (fun w' => cisfour_any p.s p.a w' hp.la)
  have M1 := Lib.hid (fun w' => cisfour_any p.t p.b w' hp.lb)
  rw [← adrC_arr] at M0 M1
  have k40 := PkC.cell R0.out c0.load
  have Kid := Lib.hid (fun w' h => PkC.cell (KR.out w' h) c0.id)
  have Kwhole := Lib.hid (fun w' h => PkC.cell (KR.out w' h) c0.whole)
  have Kmore := Lib.hid (fun w' h => PkC.cell (KR.out w' h) c0.more)
  have Koff := Lib.hid (fun w' h => PkC.cell (KR.out w' h) c0.off)
  obtain ⟨V, hV⟩ : ∃ V, V = mayB p n := ⟨_, rfl⟩
  rw [← hV]
  rw [mayB_four] at hV
  have hi := hp.id
  have ho := hp.off
  generalize fourB' p.s p.a = m1 at *
  generalize fourB' p.t p.b = m2 at *
  generalize adrC p.s p.a = LA at *
  generalize adrC p.t p.b = LC at *
  generalize pktV p A n c = CP at *
  generalize p.id = id1 at *
  generalize p.whole = whole1 at *
  generalize p.more = more1 at *
  generalize p.off = off1 at *
  have HV := Lib.hid hV
  obtain ⟨hi0, hi1⟩ := hi
  obtain ⟨ho0, ho1⟩ := ho
  clear hp c0 hV KR
  go_enter Try.func11, Try.ntmps11
  go_upto_region 1 with fail
  rw [← hW]
  clear hW
  have HW := Lib.hid (Below.refl W.heap.size W)
  cases m1
  · have hv := Lib.hid (show V = false by rw [HV.out]; simp [*])
    go_wp2_with (first
      | go_skip
      | (with_reducible refine atC.at_load 24 8 ?_; refine wpList_load_partG (by kernel_rfl) 24 (.tmp 8) rfl w.heap.size 0 (by kernel_rfl) LA _ (SA.out _ HW.out) Try.underlying24 rfl IA.out ?_)
      | (with_reducible refine atC.at_load 24 13 ?_; refine wpList_load_partG (by kernel_rfl) 24 (.tmp 13) rfl w.heap.size 17 (by kernel_rfl) LC _ (SC.out _ HW2.out) Try.underlying24 rfl IC.out ?_)
      | (go_at_call 24; (with_reducible refine (M0.out _).mono ?_); rintro e w2 ⟨rfl, BB⟩
         have HW2 := Lib.hid BB
         clear BB)
      | (go_at_call 24; (with_reducible refine (M1.out _).mono ?_); rintro e w3 ⟨rfl, BB⟩
         have HW3 := Lib.hid (HW2.out.trans (BB.mono HW2.out.size))
         clear BB
         have k36 := Kid.out _ HW3.out
         have k37 := Kwhole.out _ HW3.out
         have k38 := Kmore.out _ HW3.out
         have k39 := Koff.out _ HW3.out))
    go_ret
    exact ⟨ret_bool hv.out.symm, (HB.out.trans (HW2.out.mono HB.out.size))⟩
  · cases m2
    · have hv := Lib.hid (show V = false by rw [HV.out]; simp [*])
      go_wp2_with (first
        | go_skip
        | (with_reducible refine atC.at_load 24 8 ?_; refine wpList_load_partG (by kernel_rfl) 24 (.tmp 8) rfl w.heap.size 0 (by kernel_rfl) LA _ (SA.out _ HW.out) Try.underlying24 rfl IA.out ?_)
        | (with_reducible refine atC.at_load 24 13 ?_; refine wpList_load_partG (by kernel_rfl) 24 (.tmp 13) rfl w.heap.size 17 (by kernel_rfl) LC _ (SC.out _ HW2.out) Try.underlying24 rfl IC.out ?_)
        | (go_at_call 24; (with_reducible refine (M0.out _).mono ?_); rintro e w2 ⟨rfl, BB⟩
           have HW2 := Lib.hid BB
           clear BB)
        | (go_at_call 24; (with_reducible refine (M1.out _).mono ?_); rintro e w3 ⟨rfl, BB⟩
           have HW3 := Lib.hid (HW2.out.trans (BB.mono HW2.out.size))
           clear BB
           have k36 := Kid.out _ HW3.out
           have k37 := Kwhole.out _ HW3.out
           have k38 := Kmore.out _ HW3.out
           have k39 := Koff.out _ HW3.out))
      go_ret
      exact ⟨ret_bool hv.out.symm, (HB.out.trans (HW3.out.mono HB.out.size))⟩
    · by_cases h1 : 65535 < id1
      · have g1 : ¬ id1 ≤ 65535 := by omega
        have hv := Lib.hid (show V = false by rw [HV.out]; simp [*])
        go_wp2_with (first
          | go_skip
          | (with_reducible refine atC.at_load 24 8 ?_; refine wpList_load_partG (by kernel_rfl) 24 (.tmp 8) rfl w.heap.size 0 (by kernel_rfl) LA _ (SA.out _ HW.out) Try.underlying24 rfl IA.out ?_)
          | (with_reducible refine atC.at_load 24 13 ?_; refine wpList_load_partG (by kernel_rfl) 24 (.tmp 13) rfl w.heap.size 17 (by kernel_rfl) LC _ (SC.out _ HW2.out) Try.underlying24 rfl IC.out ?_)
          | (go_at_call 24; (with_reducible refine (M0.out _).mono ?_); rintro e w2 ⟨rfl, BB⟩
             have HW2 := Lib.hid BB
             clear BB)
          | (go_at_call 24; (with_reducible refine (M1.out _).mono ?_); rintro e w3 ⟨rfl, BB⟩
             have HW3 := Lib.hid (HW2.out.trans (BB.mono HW2.out.size))
             clear BB
             have k36 := Kid.out _ HW3.out
             have k37 := Kwhole.out _ HW3.out
             have k38 := Kmore.out _ HW3.out
             have k39 := Koff.out _ HW3.out))
        go_ret
        exact ⟨ret_bool hv.out.symm, (HB.out.trans (HW3.out.mono HB.out.size))⟩
      · have d1 : decide (65535 < id1) = false := decide_eq_false h1
        have g1 : id1 ≤ 65535 := by omega
        by_cases h2 : off1 < 0
        · have g2 : ¬ 0 ≤ off1 := by omega
          have hv := Lib.hid (show V = false by rw [HV.out]; simp [*])
          go_wp2_with (first
            | go_skip
            | (with_reducible refine atC.at_load 24 8 ?_; refine wpList_load_partG (by kernel_rfl) 24 (.tmp 8) rfl w.heap.size 0 (by kernel_rfl) LA _ (SA.out _ HW.out) Try.underlying24 rfl IA.out ?_)
            | (with_reducible refine atC.at_load 24 13 ?_; refine wpList_load_partG (by kernel_rfl) 24 (.tmp 13) rfl w.heap.size 17 (by kernel_rfl) LC _ (SC.out _ HW2.out) Try.underlying24 rfl IC.out ?_)
            | (go_at_call 24; (with_reducible refine (M0.out _).mono ?_); rintro e w2 ⟨rfl, BB⟩
               have HW2 := Lib.hid BB
               clear BB)
            | (go_at_call 24; (with_reducible refine (M1.out _).mono ?_); rintro e w3 ⟨rfl, BB⟩
               have HW3 := Lib.hid (HW2.out.trans (BB.mono HW2.out.size))
               clear BB
               have k36 := Kid.out _ HW3.out
               have k37 := Kwhole.out _ HW3.out
               have k38 := Kmore.out _ HW3.out
               have k39 := Koff.out _ HW3.out))
          go_ret
          exact ⟨ret_bool hv.out.symm, (HB.out.trans (HW3.out.mono HB.out.size))⟩
        · have d2 : decide (off1 < 0) = false := decide_eq_false h2
          have g2 : 0 ≤ off1 := by omega
          by_cases h3 : ¬ off1 % 8 = 0
          · have d3 : (off1.tmod 8 == 0) = false := beq_eq_false_iff_ne.2 (by rw [Int.tmod_eq_emod_of_nonneg g2]; exact h3)
            have hv := Lib.hid (show V = false by rw [HV.out]; simp [*])
            go_wp2_with (first
              | go_skip
              | (with_reducible refine atC.at_load 24 8 ?_; refine wpList_load_partG (by kernel_rfl) 24 (.tmp 8) rfl w.heap.size 0 (by kernel_rfl) LA _ (SA.out _ HW.out) Try.underlying24 rfl IA.out ?_)
              | (with_reducible refine atC.at_load 24 13 ?_; refine wpList_load_partG (by kernel_rfl) 24 (.tmp 13) rfl w.heap.size 17 (by kernel_rfl) LC _ (SC.out _ HW2.out) Try.underlying24 rfl IC.out ?_)
              | (go_at_call 24; (with_reducible refine (M0.out _).mono ?_); rintro e w2 ⟨rfl, BB⟩
                 have HW2 := Lib.hid BB
                 clear BB)
              | (go_at_call 24; (with_reducible refine (M1.out _).mono ?_); rintro e w3 ⟨rfl, BB⟩
                 have HW3 := Lib.hid (HW2.out.trans (BB.mono HW2.out.size))
                 clear BB
                 have k36 := Kid.out _ HW3.out
                 have k37 := Kwhole.out _ HW3.out
                 have k38 := Kmore.out _ HW3.out
                 have k39 := Koff.out _ HW3.out))
            go_ret
            exact ⟨ret_bool hv.out.symm, (HB.out.trans (HW3.out.mono HB.out.size))⟩
          · have h3 : off1 % 8 = 0 := by omega
            have d3 : off1.tmod 8 = 0 := by rw [Int.tmod_eq_emod_of_nonneg g2]; exact h3
            by_cases h5 : 65515 - (n : Int) < off1
            · have g5 : ¬ off1 ≤ 65515 - (n : Int) := by omega
              have hv := Lib.hid (show V = false by rw [HV.out]; simp [*])
              go_wp2_with (first
                | go_skip
                | (with_reducible refine atC.at_load 24 8 ?_; refine wpList_load_partG (by kernel_rfl) 24 (.tmp 8) rfl w.heap.size 0 (by kernel_rfl) LA _ (SA.out _ HW.out) Try.underlying24 rfl IA.out ?_)
                | (with_reducible refine atC.at_load 24 13 ?_; refine wpList_load_partG (by kernel_rfl) 24 (.tmp 13) rfl w.heap.size 17 (by kernel_rfl) LC _ (SC.out _ HW2.out) Try.underlying24 rfl IC.out ?_)
                | (go_at_call 24; (with_reducible refine (M0.out _).mono ?_); rintro e w2 ⟨rfl, BB⟩
                   have HW2 := Lib.hid BB
                   clear BB)
                | (go_at_call 24; (with_reducible refine (M1.out _).mono ?_); rintro e w3 ⟨rfl, BB⟩
                   have HW3 := Lib.hid (HW2.out.trans (BB.mono HW2.out.size))
                   clear BB
                   have k36 := Kid.out _ HW3.out
                   have k37 := Kwhole.out _ HW3.out
                   have k38 := Kmore.out _ HW3.out
                   have k39 := Koff.out _ HW3.out))
              go_ret
              exact ⟨ret_bool hv.out.symm, (HB.out.trans (HW3.out.mono HB.out.size))⟩
            · have d5 : decide (65515 - (n : Int) < off1) = false := decide_eq_false h5
              have g5 : off1 ≤ 65515 - (n : Int) := by omega
              have g6 : (n : Int) ≤ 65515 := by omega
              cases more1
              · cases whole1
                · have hv := Lib.hid (show V = true by rw [HV.out]; simp [*])
                  go_wp2_with (first
                    | go_skip
                    | (with_reducible refine atC.at_load 24 8 ?_; refine wpList_load_partG (by kernel_rfl) 24 (.tmp 8) rfl w.heap.size 0 (by kernel_rfl) LA _ (SA.out _ HW.out) Try.underlying24 rfl IA.out ?_)
                    | (with_reducible refine atC.at_load 24 13 ?_; refine wpList_load_partG (by kernel_rfl) 24 (.tmp 13) rfl w.heap.size 17 (by kernel_rfl) LC _ (SC.out _ HW2.out) Try.underlying24 rfl IC.out ?_)
                    | (go_at_call 24; (with_reducible refine (M0.out _).mono ?_); rintro e w2 ⟨rfl, BB⟩
                       have HW2 := Lib.hid BB
                       clear BB)
                    | (go_at_call 24; (with_reducible refine (M1.out _).mono ?_); rintro e w3 ⟨rfl, BB⟩
                       have HW3 := Lib.hid (HW2.out.trans (BB.mono HW2.out.size))
                       clear BB
                       have k36 := Kid.out _ HW3.out
                       have k37 := Kwhole.out _ HW3.out
                       have k38 := Kmore.out _ HW3.out
                       have k39 := Koff.out _ HW3.out))
                  go_ret
                  exact ⟨ret_bool hv.out.symm, (HB.out.trans (HW3.out.mono HB.out.size))⟩
                · by_cases h0 : off1 = 0
                  · have hv := Lib.hid (show V = true by rw [HV.out]; simp [*])
                    go_wp2_with (first
                      | go_skip
                      | (with_reducible refine atC.at_load 24 8 ?_; refine wpList_load_partG (by kernel_rfl) 24 (.tmp 8) rfl w.heap.size 0 (by kernel_rfl) LA _ (SA.out _ HW.out) Try.underlying24 rfl IA.out ?_)
                      | (with_reducible refine atC.at_load 24 13 ?_; refine wpList_load_partG (by kernel_rfl) 24 (.tmp 13) rfl w.heap.size 17 (by kernel_rfl) LC _ (SC.out _ HW2.out) Try.underlying24 rfl IC.out ?_)
                      | (go_at_call 24; (with_reducible refine (M0.out _).mono ?_); rintro e w2 ⟨rfl, BB⟩
                         have HW2 := Lib.hid BB
                         clear BB)
                      | (go_at_call 24; (with_reducible refine (M1.out _).mono ?_); rintro e w3 ⟨rfl, BB⟩
                         have HW3 := Lib.hid (HW2.out.trans (BB.mono HW2.out.size))
                         clear BB
                         have k36 := Kid.out _ HW3.out
                         have k37 := Kwhole.out _ HW3.out
                         have k38 := Kmore.out _ HW3.out
                         have k39 := Koff.out _ HW3.out))
                    go_ret
                    exact ⟨ret_bool hv.out.symm, (HB.out.trans (HW3.out.mono HB.out.size))⟩
                  · have q0 : (off1 == 0) = false := beq_eq_false_iff_ne.2 h0
                    have hv := Lib.hid (show V = false by rw [HV.out]; simp [*])
                    go_wp2_with (first
                      | go_skip
                      | (with_reducible refine atC.at_load 24 8 ?_; refine wpList_load_partG (by kernel_rfl) 24 (.tmp 8) rfl w.heap.size 0 (by kernel_rfl) LA _ (SA.out _ HW.out) Try.underlying24 rfl IA.out ?_)
                      | (with_reducible refine atC.at_load 24 13 ?_; refine wpList_load_partG (by kernel_rfl) 24 (.tmp 13) rfl w.heap.size 17 (by kernel_rfl) LC _ (SC.out _ HW2.out) Try.underlying24 rfl IC.out ?_)
                      | (go_at_call 24; (with_reducible refine (M0.out _).mono ?_); rintro e w2 ⟨rfl, BB⟩
                         have HW2 := Lib.hid BB
                         clear BB)
                      | (go_at_call 24; (with_reducible refine (M1.out _).mono ?_); rintro e w3 ⟨rfl, BB⟩
                         have HW3 := Lib.hid (HW2.out.trans (BB.mono HW2.out.size))
                         clear BB
                         have k36 := Kid.out _ HW3.out
                         have k37 := Kwhole.out _ HW3.out
                         have k38 := Kmore.out _ HW3.out
                         have k39 := Koff.out _ HW3.out))
                    go_ret
                    exact ⟨ret_bool hv.out.symm, (HB.out.trans (HW3.out.mono HB.out.size))⟩
              · by_cases h8 : n % 8 = 0
                · have t8 : (n : Int).tmod 8 = 0 := by rw [Int.tmod_eq_emod_of_nonneg (by omega)]; omega
                  cases whole1
                  · have hv := Lib.hid (show V = true by rw [HV.out]; simp [*])
                    go_wp2_with (first
                      | go_skip
                      | (with_reducible refine atC.at_load 24 8 ?_; refine wpList_load_partG (by kernel_rfl) 24 (.tmp 8) rfl w.heap.size 0 (by kernel_rfl) LA _ (SA.out _ HW.out) Try.underlying24 rfl IA.out ?_)
                      | (with_reducible refine atC.at_load 24 13 ?_; refine wpList_load_partG (by kernel_rfl) 24 (.tmp 13) rfl w.heap.size 17 (by kernel_rfl) LC _ (SC.out _ HW2.out) Try.underlying24 rfl IC.out ?_)
                      | (go_at_call 24; (with_reducible refine (M0.out _).mono ?_); rintro e w2 ⟨rfl, BB⟩
                         have HW2 := Lib.hid BB
                         clear BB)
                      | (go_at_call 24; (with_reducible refine (M1.out _).mono ?_); rintro e w3 ⟨rfl, BB⟩
                         have HW3 := Lib.hid (HW2.out.trans (BB.mono HW2.out.size))
                         clear BB
                         have k36 := Kid.out _ HW3.out
                         have k37 := Kwhole.out _ HW3.out
                         have k38 := Kmore.out _ HW3.out
                         have k39 := Koff.out _ HW3.out))
                    go_ret
                    exact ⟨ret_bool hv.out.symm, (HB.out.trans (HW3.out.mono HB.out.size))⟩
                  · have hv := Lib.hid (show V = false by rw [HV.out]; simp [*])
                    go_wp2_with (first
                      | go_skip
                      | (with_reducible refine atC.at_load 24 8 ?_; refine wpList_load_partG (by kernel_rfl) 24 (.tmp 8) rfl w.heap.size 0 (by kernel_rfl) LA _ (SA.out _ HW.out) Try.underlying24 rfl IA.out ?_)
                      | (with_reducible refine atC.at_load 24 13 ?_; refine wpList_load_partG (by kernel_rfl) 24 (.tmp 13) rfl w.heap.size 17 (by kernel_rfl) LC _ (SC.out _ HW2.out) Try.underlying24 rfl IC.out ?_)
                      | (go_at_call 24; (with_reducible refine (M0.out _).mono ?_); rintro e w2 ⟨rfl, BB⟩
                         have HW2 := Lib.hid BB
                         clear BB)
                      | (go_at_call 24; (with_reducible refine (M1.out _).mono ?_); rintro e w3 ⟨rfl, BB⟩
                         have HW3 := Lib.hid (HW2.out.trans (BB.mono HW2.out.size))
                         clear BB
                         have k36 := Kid.out _ HW3.out
                         have k37 := Kwhole.out _ HW3.out
                         have k38 := Kmore.out _ HW3.out
                         have k39 := Koff.out _ HW3.out))
                    go_ret
                    exact ⟨ret_bool hv.out.symm, (HB.out.trans (HW3.out.mono HB.out.size))⟩
                · have t8 : ((n : Int).tmod 8 == 0) = false := beq_eq_false_iff_ne.2 (by rw [Int.tmod_eq_emod_of_nonneg (by omega)]; omega)
                  have hv := Lib.hid (show V = false by rw [HV.out]; simp [*])
                  go_wp2_with (first
                    | go_skip
                    | (with_reducible refine atC.at_load 24 8 ?_; refine wpList_load_partG (by kernel_rfl) 24 (.tmp 8) rfl w.heap.size 0 (by kernel_rfl) LA _ (SA.out _ HW.out) Try.underlying24 rfl IA.out ?_)
                    | (with_reducible refine atC.at_load 24 13 ?_; refine wpList_load_partG (by kernel_rfl) 24 (.tmp 13) rfl w.heap.size 17 (by kernel_rfl) LC _ (SC.out _ HW2.out) Try.underlying24 rfl IC.out ?_)
                    | (go_at_call 24; (with_reducible refine (M0.out _).mono ?_); rintro e w2 ⟨rfl, BB⟩
                       have HW2 := Lib.hid BB
                       clear BB)
                    | (go_at_call 24; (with_reducible refine (M1.out _).mono ?_); rintro e w3 ⟨rfl, BB⟩
                       have HW3 := Lib.hid (HW2.out.trans (BB.mono HW2.out.size))
                       clear BB
                       have k36 := Kid.out _ HW3.out
                       have k37 := Kwhole.out _ HW3.out
                       have k38 := Kmore.out _ HW3.out
                       have k39 := Koff.out _ HW3.out))
                  go_ret
                  exact ⟨ret_bool hv.out.symm, (HB.out.trans (HW3.out.mono HB.out.size))⟩
end Go.Proofs.Ytmedccfekfnmlaa.pkC

/-
  Whether a packet may be: the document's.
-/
namespace Go.Proofs.Ytmedccfekfnmlaa.pkC
open Go.ChangeShapes Go.WideShapes Go.ChangeAt Go.RowKit
open Go.Proofs.Ytmedccfekfnmlaa.memC Go.Proofs.Ytmedccfekfnmlaa.genC Go.Proofs.Ytmedccfekfnmlaa.butC Go.Proofs.Ytmedccfekfnmlaa.freeC Go.Proofs.Ytmedccfekfnmlaa.adC
set_option linter.unusedVariables false
set_option maxRecDepth 100000 in
set_option maxHeartbeats 4000000 in
theorem rmay_pkt (p : Pkt) (A : Option Addr) (n c : Nat) (w : World) (hp : p.Ok) (hn : n ≤ 9223372036854775807) :
    Calls Try.prog 12 #[.agg (pktV p A n c)] w (Ret w (.bool (mayB p n))) := by
  obtain ⟨W, hW⟩ : ∃ W, W = w.alloc (.cells (pktV p A n c) 28) := ⟨_, rfl⟩
  have R0 := Lib.hid (show W.heap[w.heap.size]? = some (.cells (pktV p A n c) 28 (0, 0)) by rw [hW]; exact heap_alloc_new w _)
  have HB := Lib.hid (show Below w.heap.size w W by rw [hW]; exact alloc_below _ _)
  have c0 := pkC hp A n c
  have IA := Lib.hid (adrC_info (s := p.s) hp.la)
  have IC := Lib.hid (adrC_info (s := p.t) hp.lb)
  have KR := Lib.hid (fun (w' : World) (h : Below W.heap.size W w') => (show w'.heap[w.heap.size]? = some (.cells (pktV p A n c) 28 (0, 0)) by rw [h.block _ (lt_of_row R0.out)]; exact R0.out))
  have SA := Lib.hid (fun w' h => PkC.part (KR.out w' h) c0.src)
  have SC := Lib.hid (fun w' h => PkC.part (KR.out w' h) c0.dst)
  have M0 := Lib.hid (fun w' => rmay_any p.s p.a w' hp.la)
  have M1 := Lib.hid (fun w' => rmay_any p.t p.b w' hp.lb)
  rw [← adrC_arr] at M0 M1
  have k0 : W.cell? ⟨w.heap.size, 0, none⟩ = some (.bool p.s) := PkC.cell R0.out (c0.src 0 _ rfl)
  have k17 : W.cell? ⟨w.heap.size, 17, none⟩ = some (.bool p.t) := PkC.cell R0.out (c0.dst 0 _ rfl)
  have Kid := Lib.hid (fun w' h => PkC.cell (KR.out w' h) c0.id)
  have Kwhole := Lib.hid (fun w' h => PkC.cell (KR.out w' h) c0.whole)
  have Kmore := Lib.hid (fun w' h => PkC.cell (KR.out w' h) c0.more)
  have Koff := Lib.hid (fun w' h => PkC.cell (KR.out w' h) c0.off)
  have Kload := Lib.hid (fun w' h => PkC.cell (KR.out w' h) c0.load)
  obtain ⟨V, hV⟩ : ∃ V, V = mayB p n := ⟨_, rfl⟩
  rw [← hV]
  unfold mayB at hV
  have hi := hp.id
  have ho := hp.off
  generalize mayL p.s p.a = m1 at *
  generalize mayL p.t p.b = m2 at *
  generalize adrC p.s p.a = LA at *
  generalize adrC p.t p.b = LC at *
  generalize pktV p A n c = CP at *
  generalize p.s = s1 at *
  generalize p.t = t1 at *
  generalize p.id = id1 at *
  generalize p.whole = whole1 at *
  generalize p.more = more1 at *
  generalize p.off = off1 at *
  have HV := Lib.hid hV
  obtain ⟨hi0, hi1⟩ := hi
  obtain ⟨ho0, ho1⟩ := ho
  clear hp c0 hV KR
  go_enter Try.func12, Try.ntmps12
  go_upto_region 1 with fail
  rw [← hW]
  clear hW
  have HW := Lib.hid (Below.refl W.heap.size W)
  cases s1
  · cases t1
    · cases m1
      · have hv := Lib.hid (show V = false by rw [HV.out]; simp [*])
        go_wp2_with (first
          | go_skip
          | (with_reducible refine atC.at_load 24 12 ?_; refine wpList_load_partG (by kernel_rfl) 24 (.tmp 12) rfl w.heap.size 0 (by kernel_rfl) LA _ (SA.out _ HW.out) Try.underlying24 rfl IA.out ?_)
          | (with_reducible refine atC.at_load 24 18 ?_; refine wpList_load_partG (by kernel_rfl) 24 (.tmp 18) rfl w.heap.size 17 (by kernel_rfl) LC _ (SC.out _ HW2.out) Try.underlying24 rfl IC.out ?_)
          | (go_at_call 25; (with_reducible refine (M0.out _).mono ?_); rintro e w2 ⟨rfl, BB⟩
             have HW2 := Lib.hid BB
             clear BB)
          | (go_at_call 25; (with_reducible refine (M1.out _).mono ?_); rintro e w3 ⟨rfl, BB⟩
             have HW3 := Lib.hid (HW2.out.trans (BB.mono HW2.out.size))
             clear BB
             have k36 := Kid.out _ HW3.out
             have k37 := Kwhole.out _ HW3.out
             have k38 := Kmore.out _ HW3.out
             have k39 := Koff.out _ HW3.out
             have k40 := Kload.out _ HW3.out))
        go_ret
        exact ⟨ret_bool hv.out.symm, (HB.out.trans (HW2.out.mono HB.out.size))⟩
      · cases m2
        · have hv := Lib.hid (show V = false by rw [HV.out]; simp [*])
          go_wp2_with (first
            | go_skip
            | (with_reducible refine atC.at_load 24 12 ?_; refine wpList_load_partG (by kernel_rfl) 24 (.tmp 12) rfl w.heap.size 0 (by kernel_rfl) LA _ (SA.out _ HW.out) Try.underlying24 rfl IA.out ?_)
            | (with_reducible refine atC.at_load 24 18 ?_; refine wpList_load_partG (by kernel_rfl) 24 (.tmp 18) rfl w.heap.size 17 (by kernel_rfl) LC _ (SC.out _ HW2.out) Try.underlying24 rfl IC.out ?_)
            | (go_at_call 25; (with_reducible refine (M0.out _).mono ?_); rintro e w2 ⟨rfl, BB⟩
               have HW2 := Lib.hid BB
               clear BB)
            | (go_at_call 25; (with_reducible refine (M1.out _).mono ?_); rintro e w3 ⟨rfl, BB⟩
               have HW3 := Lib.hid (HW2.out.trans (BB.mono HW2.out.size))
               clear BB
               have k36 := Kid.out _ HW3.out
               have k37 := Kwhole.out _ HW3.out
               have k38 := Kmore.out _ HW3.out
               have k39 := Koff.out _ HW3.out
               have k40 := Kload.out _ HW3.out))
          go_ret
          exact ⟨ret_bool hv.out.symm, (HB.out.trans (HW3.out.mono HB.out.size))⟩
        · by_cases h1 : 65535 < id1
          · have g1 : ¬ id1 ≤ 65535 := by omega
            have hv := Lib.hid (show V = false by rw [HV.out]; simp [*])
            go_wp2_with (first
              | go_skip
              | (with_reducible refine atC.at_load 24 12 ?_; refine wpList_load_partG (by kernel_rfl) 24 (.tmp 12) rfl w.heap.size 0 (by kernel_rfl) LA _ (SA.out _ HW.out) Try.underlying24 rfl IA.out ?_)
              | (with_reducible refine atC.at_load 24 18 ?_; refine wpList_load_partG (by kernel_rfl) 24 (.tmp 18) rfl w.heap.size 17 (by kernel_rfl) LC _ (SC.out _ HW2.out) Try.underlying24 rfl IC.out ?_)
              | (go_at_call 25; (with_reducible refine (M0.out _).mono ?_); rintro e w2 ⟨rfl, BB⟩
                 have HW2 := Lib.hid BB
                 clear BB)
              | (go_at_call 25; (with_reducible refine (M1.out _).mono ?_); rintro e w3 ⟨rfl, BB⟩
                 have HW3 := Lib.hid (HW2.out.trans (BB.mono HW2.out.size))
                 clear BB
                 have k36 := Kid.out _ HW3.out
                 have k37 := Kwhole.out _ HW3.out
                 have k38 := Kmore.out _ HW3.out
                 have k39 := Koff.out _ HW3.out
                 have k40 := Kload.out _ HW3.out))
            go_ret
            exact ⟨ret_bool hv.out.symm, (HB.out.trans (HW3.out.mono HB.out.size))⟩
          · have d1 : decide (65535 < id1) = false := decide_eq_false h1
            have g1 : id1 ≤ 65535 := by omega
            by_cases h2 : off1 < 0
            · have g2 : ¬ 0 ≤ off1 := by omega
              have hv := Lib.hid (show V = false by rw [HV.out]; simp [*])
              go_wp2_with (first
                | go_skip
                | (with_reducible refine atC.at_load 24 12 ?_; refine wpList_load_partG (by kernel_rfl) 24 (.tmp 12) rfl w.heap.size 0 (by kernel_rfl) LA _ (SA.out _ HW.out) Try.underlying24 rfl IA.out ?_)
                | (with_reducible refine atC.at_load 24 18 ?_; refine wpList_load_partG (by kernel_rfl) 24 (.tmp 18) rfl w.heap.size 17 (by kernel_rfl) LC _ (SC.out _ HW2.out) Try.underlying24 rfl IC.out ?_)
                | (go_at_call 25; (with_reducible refine (M0.out _).mono ?_); rintro e w2 ⟨rfl, BB⟩
                   have HW2 := Lib.hid BB
                   clear BB)
                | (go_at_call 25; (with_reducible refine (M1.out _).mono ?_); rintro e w3 ⟨rfl, BB⟩
                   have HW3 := Lib.hid (HW2.out.trans (BB.mono HW2.out.size))
                   clear BB
                   have k36 := Kid.out _ HW3.out
                   have k37 := Kwhole.out _ HW3.out
                   have k38 := Kmore.out _ HW3.out
                   have k39 := Koff.out _ HW3.out
                   have k40 := Kload.out _ HW3.out))
              go_ret
              exact ⟨ret_bool hv.out.symm, (HB.out.trans (HW3.out.mono HB.out.size))⟩
            · have d2 : decide (off1 < 0) = false := decide_eq_false h2
              have g2 : 0 ≤ off1 := by omega
              by_cases h3 : ¬ off1 % 8 = 0
              · have d3 : (off1.tmod 8 == 0) = false := beq_eq_false_iff_ne.2 (by rw [Int.tmod_eq_emod_of_nonneg g2]; exact h3)
                have hv := Lib.hid (show V = false by rw [HV.out]; simp [*])
                go_wp2_with (first
                  | go_skip
                  | (with_reducible refine atC.at_load 24 12 ?_; refine wpList_load_partG (by kernel_rfl) 24 (.tmp 12) rfl w.heap.size 0 (by kernel_rfl) LA _ (SA.out _ HW.out) Try.underlying24 rfl IA.out ?_)
                  | (with_reducible refine atC.at_load 24 18 ?_; refine wpList_load_partG (by kernel_rfl) 24 (.tmp 18) rfl w.heap.size 17 (by kernel_rfl) LC _ (SC.out _ HW2.out) Try.underlying24 rfl IC.out ?_)
                  | (go_at_call 25; (with_reducible refine (M0.out _).mono ?_); rintro e w2 ⟨rfl, BB⟩
                     have HW2 := Lib.hid BB
                     clear BB)
                  | (go_at_call 25; (with_reducible refine (M1.out _).mono ?_); rintro e w3 ⟨rfl, BB⟩
                     have HW3 := Lib.hid (HW2.out.trans (BB.mono HW2.out.size))
                     clear BB
                     have k36 := Kid.out _ HW3.out
                     have k37 := Kwhole.out _ HW3.out
                     have k38 := Kmore.out _ HW3.out
                     have k39 := Koff.out _ HW3.out
                     have k40 := Kload.out _ HW3.out))
                go_ret
                exact ⟨ret_bool hv.out.symm, (HB.out.trans (HW3.out.mono HB.out.size))⟩
              · have h3 : off1 % 8 = 0 := by omega
                have d3 : off1.tmod 8 = 0 := by rw [Int.tmod_eq_emod_of_nonneg g2]; exact h3
                by_cases h4 : 65515 < (n : Int)
                · have g4 : ¬ (n : Int) ≤ 65515 := by omega
                  have hv := Lib.hid (show V = false by rw [HV.out]; simp [*])
                  go_wp2_with (first
                    | go_skip
                    | (with_reducible refine atC.at_load 24 12 ?_; refine wpList_load_partG (by kernel_rfl) 24 (.tmp 12) rfl w.heap.size 0 (by kernel_rfl) LA _ (SA.out _ HW.out) Try.underlying24 rfl IA.out ?_)
                    | (with_reducible refine atC.at_load 24 18 ?_; refine wpList_load_partG (by kernel_rfl) 24 (.tmp 18) rfl w.heap.size 17 (by kernel_rfl) LC _ (SC.out _ HW2.out) Try.underlying24 rfl IC.out ?_)
                    | (go_at_call 25; (with_reducible refine (M0.out _).mono ?_); rintro e w2 ⟨rfl, BB⟩
                       have HW2 := Lib.hid BB
                       clear BB)
                    | (go_at_call 25; (with_reducible refine (M1.out _).mono ?_); rintro e w3 ⟨rfl, BB⟩
                       have HW3 := Lib.hid (HW2.out.trans (BB.mono HW2.out.size))
                       clear BB
                       have k36 := Kid.out _ HW3.out
                       have k37 := Kwhole.out _ HW3.out
                       have k38 := Kmore.out _ HW3.out
                       have k39 := Koff.out _ HW3.out
                       have k40 := Kload.out _ HW3.out))
                  go_ret
                  exact ⟨ret_bool hv.out.symm, (HB.out.trans (HW3.out.mono HB.out.size))⟩
                · have d4 : decide (65515 < (n : Int)) = false := decide_eq_false h4
                  have g4 : (n : Int) ≤ 65515 := by omega
                  by_cases h5 : 65515 - (n : Int) < off1
                  · have g5 : ¬ off1 ≤ 65515 - (n : Int) := by omega
                    have hv := Lib.hid (show V = false by rw [HV.out]; simp [*])
                    go_wp2_with (first
                      | go_skip
                      | (with_reducible refine atC.at_load 24 12 ?_; refine wpList_load_partG (by kernel_rfl) 24 (.tmp 12) rfl w.heap.size 0 (by kernel_rfl) LA _ (SA.out _ HW.out) Try.underlying24 rfl IA.out ?_)
                      | (with_reducible refine atC.at_load 24 18 ?_; refine wpList_load_partG (by kernel_rfl) 24 (.tmp 18) rfl w.heap.size 17 (by kernel_rfl) LC _ (SC.out _ HW2.out) Try.underlying24 rfl IC.out ?_)
                      | (go_at_call 25; (with_reducible refine (M0.out _).mono ?_); rintro e w2 ⟨rfl, BB⟩
                         have HW2 := Lib.hid BB
                         clear BB)
                      | (go_at_call 25; (with_reducible refine (M1.out _).mono ?_); rintro e w3 ⟨rfl, BB⟩
                         have HW3 := Lib.hid (HW2.out.trans (BB.mono HW2.out.size))
                         clear BB
                         have k36 := Kid.out _ HW3.out
                         have k37 := Kwhole.out _ HW3.out
                         have k38 := Kmore.out _ HW3.out
                         have k39 := Koff.out _ HW3.out
                         have k40 := Kload.out _ HW3.out))
                    go_ret
                    exact ⟨ret_bool hv.out.symm, (HB.out.trans (HW3.out.mono HB.out.size))⟩
                  · have d5 : decide (65515 - (n : Int) < off1) = false := decide_eq_false h5
                    have g5 : off1 ≤ 65515 - (n : Int) := by omega
                    cases more1
                    · cases whole1
                      · have hv := Lib.hid (show V = true by rw [HV.out]; simp [*])
                        go_wp2_with (first
                          | go_skip
                          | (with_reducible refine atC.at_load 24 12 ?_; refine wpList_load_partG (by kernel_rfl) 24 (.tmp 12) rfl w.heap.size 0 (by kernel_rfl) LA _ (SA.out _ HW.out) Try.underlying24 rfl IA.out ?_)
                          | (with_reducible refine atC.at_load 24 18 ?_; refine wpList_load_partG (by kernel_rfl) 24 (.tmp 18) rfl w.heap.size 17 (by kernel_rfl) LC _ (SC.out _ HW2.out) Try.underlying24 rfl IC.out ?_)
                          | (go_at_call 25; (with_reducible refine (M0.out _).mono ?_); rintro e w2 ⟨rfl, BB⟩
                             have HW2 := Lib.hid BB
                             clear BB)
                          | (go_at_call 25; (with_reducible refine (M1.out _).mono ?_); rintro e w3 ⟨rfl, BB⟩
                             have HW3 := Lib.hid (HW2.out.trans (BB.mono HW2.out.size))
                             clear BB
                             have k36 := Kid.out _ HW3.out
                             have k37 := Kwhole.out _ HW3.out
                             have k38 := Kmore.out _ HW3.out
                             have k39 := Koff.out _ HW3.out
                             have k40 := Kload.out _ HW3.out))
                        go_ret
                        exact ⟨ret_bool hv.out.symm, (HB.out.trans (HW3.out.mono HB.out.size))⟩
                      · by_cases h0 : off1 = 0
                        · have hv := Lib.hid (show V = true by rw [HV.out]; simp [*])
                          go_wp2_with (first
                            | go_skip
                            | (with_reducible refine atC.at_load 24 12 ?_; refine wpList_load_partG (by kernel_rfl) 24 (.tmp 12) rfl w.heap.size 0 (by kernel_rfl) LA _ (SA.out _ HW.out) Try.underlying24 rfl IA.out ?_)
                            | (with_reducible refine atC.at_load 24 18 ?_; refine wpList_load_partG (by kernel_rfl) 24 (.tmp 18) rfl w.heap.size 17 (by kernel_rfl) LC _ (SC.out _ HW2.out) Try.underlying24 rfl IC.out ?_)
                            | (go_at_call 25; (with_reducible refine (M0.out _).mono ?_); rintro e w2 ⟨rfl, BB⟩
                               have HW2 := Lib.hid BB
                               clear BB)
                            | (go_at_call 25; (with_reducible refine (M1.out _).mono ?_); rintro e w3 ⟨rfl, BB⟩
                               have HW3 := Lib.hid (HW2.out.trans (BB.mono HW2.out.size))
                               clear BB
                               have k36 := Kid.out _ HW3.out
                               have k37 := Kwhole.out _ HW3.out
                               have k38 := Kmore.out _ HW3.out
                               have k39 := Koff.out _ HW3.out
                               have k40 := Kload.out _ HW3.out))
                          go_ret
                          exact ⟨ret_bool hv.out.symm, (HB.out.trans (HW3.out.mono HB.out.size))⟩
                        · have q0 : (off1 == 0) = false := beq_eq_false_iff_ne.2 h0
                          have hv := Lib.hid (show V = false by rw [HV.out]; simp [*])
                          go_wp2_with (first
                            | go_skip
                            | (with_reducible refine atC.at_load 24 12 ?_; refine wpList_load_partG (by kernel_rfl) 24 (.tmp 12) rfl w.heap.size 0 (by kernel_rfl) LA _ (SA.out _ HW.out) Try.underlying24 rfl IA.out ?_)
                            | (with_reducible refine atC.at_load 24 18 ?_; refine wpList_load_partG (by kernel_rfl) 24 (.tmp 18) rfl w.heap.size 17 (by kernel_rfl) LC _ (SC.out _ HW2.out) Try.underlying24 rfl IC.out ?_)
                            | (go_at_call 25; (with_reducible refine (M0.out _).mono ?_); rintro e w2 ⟨rfl, BB⟩
                               have HW2 := Lib.hid BB
                               clear BB)
                            | (go_at_call 25; (with_reducible refine (M1.out _).mono ?_); rintro e w3 ⟨rfl, BB⟩
                               have HW3 := Lib.hid (HW2.out.trans (BB.mono HW2.out.size))
                               clear BB
                               have k36 := Kid.out _ HW3.out
                               have k37 := Kwhole.out _ HW3.out
                               have k38 := Kmore.out _ HW3.out
                               have k39 := Koff.out _ HW3.out
                               have k40 := Kload.out _ HW3.out))
                          go_ret
                          exact ⟨ret_bool hv.out.symm, (HB.out.trans (HW3.out.mono HB.out.size))⟩
                    · by_cases h8 : n % 8 = 0
                      · have t8 : (n : Int).tmod 8 = 0 := by rw [Int.tmod_eq_emod_of_nonneg (by omega)]; omega
                        cases whole1
                        · have hv := Lib.hid (show V = true by rw [HV.out]; simp [*])
                          go_wp2_with (first
                            | go_skip
                            | (with_reducible refine atC.at_load 24 12 ?_; refine wpList_load_partG (by kernel_rfl) 24 (.tmp 12) rfl w.heap.size 0 (by kernel_rfl) LA _ (SA.out _ HW.out) Try.underlying24 rfl IA.out ?_)
                            | (with_reducible refine atC.at_load 24 18 ?_; refine wpList_load_partG (by kernel_rfl) 24 (.tmp 18) rfl w.heap.size 17 (by kernel_rfl) LC _ (SC.out _ HW2.out) Try.underlying24 rfl IC.out ?_)
                            | (go_at_call 25; (with_reducible refine (M0.out _).mono ?_); rintro e w2 ⟨rfl, BB⟩
                               have HW2 := Lib.hid BB
                               clear BB)
                            | (go_at_call 25; (with_reducible refine (M1.out _).mono ?_); rintro e w3 ⟨rfl, BB⟩
                               have HW3 := Lib.hid (HW2.out.trans (BB.mono HW2.out.size))
                               clear BB
                               have k36 := Kid.out _ HW3.out
                               have k37 := Kwhole.out _ HW3.out
                               have k38 := Kmore.out _ HW3.out
                               have k39 := Koff.out _ HW3.out
                               have k40 := Kload.out _ HW3.out))
                          go_ret
                          exact ⟨ret_bool hv.out.symm, (HB.out.trans (HW3.out.mono HB.out.size))⟩
                        · have hv := Lib.hid (show V = false by rw [HV.out]; simp [*])
                          go_wp2_with (first
                            | go_skip
                            | (with_reducible refine atC.at_load 24 12 ?_; refine wpList_load_partG (by kernel_rfl) 24 (.tmp 12) rfl w.heap.size 0 (by kernel_rfl) LA _ (SA.out _ HW.out) Try.underlying24 rfl IA.out ?_)
                            | (with_reducible refine atC.at_load 24 18 ?_; refine wpList_load_partG (by kernel_rfl) 24 (.tmp 18) rfl w.heap.size 17 (by kernel_rfl) LC _ (SC.out _ HW2.out) Try.underlying24 rfl IC.out ?_)
                            | (go_at_call 25; (with_reducible refine (M0.out _).mono ?_); rintro e w2 ⟨rfl, BB⟩
                               have HW2 := Lib.hid BB
                               clear BB)
                            | (go_at_call 25; (with_reducible refine (M1.out _).mono ?_); rintro e w3 ⟨rfl, BB⟩
                               have HW3 := Lib.hid (HW2.out.trans (BB.mono HW2.out.size))
                               clear BB
                               have k36 := Kid.out _ HW3.out
                               have k37 := Kwhole.out _ HW3.out
                               have k38 := Kmore.out _ HW3.out
                               have k39 := Koff.out _ HW3.out
                               have k40 := Kload.out _ HW3.out))
                          go_ret
                          exact ⟨ret_bool hv.out.symm, (HB.out.trans (HW3.out.mono HB.out.size))⟩
                      · have t8 : ((n : Int).tmod 8 == 0) = false := beq_eq_false_iff_ne.2 (by rw [Int.tmod_eq_emod_of_nonneg (by omega)]; omega)
                        have hv := Lib.hid (show V = false by rw [HV.out]; simp [*])
                        go_wp2_with (first
                          | go_skip
                          | (with_reducible refine atC.at_load 24 12 ?_; refine wpList_load_partG (by kernel_rfl) 24 (.tmp 12) rfl w.heap.size 0 (by kernel_rfl) LA _ (SA.out _ HW.out) Try.underlying24 rfl IA.out ?_)
                          | (with_reducible refine atC.at_load 24 18 ?_; refine wpList_load_partG (by kernel_rfl) 24 (.tmp 18) rfl w.heap.size 17 (by kernel_rfl) LC _ (SC.out _ HW2.out) Try.underlying24 rfl IC.out ?_)
                          | (go_at_call 25; (with_reducible refine (M0.out _).mono ?_); rintro e w2 ⟨rfl, BB⟩
                             have HW2 := Lib.hid BB
                             clear BB)
                          | (go_at_call 25; (with_reducible refine (M1.out _).mono ?_); rintro e w3 ⟨rfl, BB⟩
                             have HW3 := Lib.hid (HW2.out.trans (BB.mono HW2.out.size))
                             clear BB
                             have k36 := Kid.out _ HW3.out
                             have k37 := Kwhole.out _ HW3.out
                             have k38 := Kmore.out _ HW3.out
                             have k39 := Koff.out _ HW3.out
                             have k40 := Kload.out _ HW3.out))
                        go_ret
                        exact ⟨ret_bool hv.out.symm, (HB.out.trans (HW3.out.mono HB.out.size))⟩
    · have hv := Lib.hid (show V = false by rw [HV.out]; simp [*])
      go_wp2_with (first
        | go_skip
        | (with_reducible refine atC.at_load 24 12 ?_; refine wpList_load_partG (by kernel_rfl) 24 (.tmp 12) rfl w.heap.size 0 (by kernel_rfl) LA _ (SA.out _ HW.out) Try.underlying24 rfl IA.out ?_)
        | (with_reducible refine atC.at_load 24 18 ?_; refine wpList_load_partG (by kernel_rfl) 24 (.tmp 18) rfl w.heap.size 17 (by kernel_rfl) LC _ (SC.out _ HW2.out) Try.underlying24 rfl IC.out ?_)
        | (go_at_call 25; (with_reducible refine (M0.out _).mono ?_); rintro e w2 ⟨rfl, BB⟩
           have HW2 := Lib.hid BB
           clear BB)
        | (go_at_call 25; (with_reducible refine (M1.out _).mono ?_); rintro e w3 ⟨rfl, BB⟩
           have HW3 := Lib.hid (HW2.out.trans (BB.mono HW2.out.size))
           clear BB
           have k36 := Kid.out _ HW3.out
           have k37 := Kwhole.out _ HW3.out
           have k38 := Kmore.out _ HW3.out
           have k39 := Koff.out _ HW3.out
           have k40 := Kload.out _ HW3.out))
      go_ret
      exact ⟨ret_bool hv.out.symm, HB.out⟩
  · have hv := Lib.hid (show V = false by rw [HV.out]; simp [*])
    go_wp2_with (first
      | go_skip
      | (with_reducible refine atC.at_load 24 12 ?_; refine wpList_load_partG (by kernel_rfl) 24 (.tmp 12) rfl w.heap.size 0 (by kernel_rfl) LA _ (SA.out _ HW.out) Try.underlying24 rfl IA.out ?_)
      | (with_reducible refine atC.at_load 24 18 ?_; refine wpList_load_partG (by kernel_rfl) 24 (.tmp 18) rfl w.heap.size 17 (by kernel_rfl) LC _ (SC.out _ HW2.out) Try.underlying24 rfl IC.out ?_)
      | (go_at_call 25; (with_reducible refine (M0.out _).mono ?_); rintro e w2 ⟨rfl, BB⟩
         have HW2 := Lib.hid BB
         clear BB)
      | (go_at_call 25; (with_reducible refine (M1.out _).mono ?_); rintro e w3 ⟨rfl, BB⟩
         have HW3 := Lib.hid (HW2.out.trans (BB.mono HW2.out.size))
         clear BB
         have k36 := Kid.out _ HW3.out
         have k37 := Kwhole.out _ HW3.out
         have k38 := Kmore.out _ HW3.out
         have k39 := Koff.out _ HW3.out
         have k40 := Kload.out _ HW3.out))
    go_ret
    exact ⟨ret_bool hv.out.symm, HB.out⟩
end Go.Proofs.Ytmedccfekfnmlaa.pkC

/-
  append as an operation of a region that draws its order; literals of numbers.
-/
namespace Go.Proofs.Ytmedccfekfnmlaa.freeC
open Go.ChangeShapes Go.WideShapes Go.ChangeAt Go.RowKit
open Go.Proofs.Ytmedccfekfnmlaa.memC
set_option linter.unusedVariables false
/-- append(own, numbers...) as an operation of a region that draws its order; the operands as they are -/
theorem append_Jo {P : Program} {Q : Exit → Act → World → Prop} {R : Value → World → Prop} {fr : Act} {o : Oper} {w : World} {kd : IntKind} (s x : Operand) (t : TypeId) (ho : o.op = .call { callee := .builtin .append, args := #[s, x], argTypes := #[t, t] })
    (e : TypeId) (i : TypeInfo) (z : Value) (bytes : Nat) (ht : P.underlying t = some (.slice e)) (hi : P.info? e = some i) (hz : i.zero = some z)
    (hsize : i.size = 1) (hby : i.bytes = bytes) (hzs : z.cells.size = 1) (base : Nat) (v : Value) (xs : List Int) (hs : fr.eval s = v) (hown : Own kd e w base v xs)
    (B : Nat) (A : Option Addr) (m c : Nat) (news : List Int) (hx : fr.eval x = .slice A m c) (hr : Nums kd w B A m news) (h63 : xs.length + m ≤ maxLen) (hbytes : (xs.length + m) * bytes ≤ 140737488355328) (hbase : base ≤ w.heap.size) (L : Nat) (hL : xs.length + m = L)
    (h : ∀ A' c' w', L ≤ c' → c' ≤ maxLen → Own kd e w' base (.slice A' L c') (xs ++ news) → Below base w w' → R (.slice A' L c') w') : o.wp P fr w (fun a' w' => ∃ v, a' = fr.put o.dst v ∧ R v w') Q := by
  obtain ⟨v', w', hrun, h2, h3⟩ := run_app (P := P) w t o.type e i z bytes ht hi hz hsize hby hzs base v xs hown B A m c news hr h63 hbytes hbase
  have e : (xs ++ news).length = L := by rw [List.length_append, hr.len]; exact hL
  obtain ⟨A', c', e2, g1, g2, N⟩ := h2.form
  rw [e] at e2 g1 N
  subst e2
  unfold Oper.wp execOp
  simp only [ho, resolve, invoke, builtin, Sem.run_bind, Sem.run_pure, Result.andThen_ok, List.map_toArray, List.map_cons, List.map_nil, hs, hx, hrun]
  exact ⟨_, rfl, h A' c' w' g1 g2 h2 (grown_below h3 hbase fun g hg => (hown.blk g hg).1)⟩
theorem eval_tmp {fr : Act} {s : Nat} {v : Value} (h : fr.tmps[s]?.getD undef = v) : fr.eval (.tmp s) = v := by simpa only [Act.eval, Array.getD_eq_getD_getElem?] using h
/-- a literal of numbers, just laid -/
theorem lit_nums (k : IntKind) (w : World) (xs : List Int) (T : TypeId) (C : Array Value) (hC : C = (xs.map (Value.int k)).toArray) (n : Nat) (hn : xs.length = n) :
    Nums k (w.alloc (.cells C T)) (w.heap.size + 1) (some ⟨w.heap.size, 0, none⟩) n xs := by
  subst hC
  refine ⟨hn, fun _ => ⟨_, 0, rfl, Nat.lt_succ_self _, fun i hi => ?_⟩⟩
  have hi2 : i < xs.length := by omega
  rw [cell_of_row _ w.heap.size (0 + i) _ _ (0, 0) (heap_alloc_new w _)]
  simp [List.getD_eq_getElem?_getD, hi2]
end Go.Proofs.Ytmedccfekfnmlaa.freeC

/-
  What fit and the code's Put do (as stage 2 told it, without what its statements name).
-/
namespace Go.Proofs.Ytmedccfekfnmlaa.octC
open Go.ChangeShapes Go.WideShapes Go.ChangeAt Go.RowKit
open Go.Proofs.Ytmedccfekfnmlaa.memC
set_option linter.unusedVariables false
theorem ret_int {k : IntKind} {a b : Int} (h : a = b) : Ending.returned (.int k a) = .returned (.int k b) := by rw [h]
def fitN (size : Int) : Nat := (min (max size 0) 8).toNat
theorem fitN_eq (size : Int) : (fitN size : Int) = min (max size 0) 8 := by unfold fitN; omega
theorem fitN_le (size : Int) : fitN size ≤ 8 := by unfold fitN; omega
theorem fit_any (size : Int) (w : World) (h1 : -9223372036854775808 ≤ size) (h2 : size ≤ 9223372036854775807) :
    Calls Try.prog 35 #[.int .i64 size] w fun e w' => e = .returned (.int .i64 (fitN size)) ∧ w = w' := by
  have E := Lib.hid (fitN_eq size)
  go_enter Try.func35, Try.ntmps35
  go_wp2
  all_goals
    go_ret
    exact ⟨ret_int (by have := E.out; split at * <;> omega), rfl⟩
theorem byte_info : (Try.prog.info? 5).map (fun i => (i.zero, i.size, i.bytes)) = some (some (.int .u8 0), 1, 1) := by kernel_rfl
/-- byte number i of x, from below -/
def byteAt (x : Int) (i : Nat) : Int := x / 2 ^ (8 * i) % 256
/-- the lowest s bytes of x, the highest first -/
def numL : Nat → Int → List Int
  | 0, _ => []
  | s + 1, x => byteAt x s :: numL s x
def putL (bs : List Int) (s : Nat) (ns : List Int) : List Int := bs ++ ns.flatMap (numL s)
theorem numL_len (s : Nat) (x : Int) : (numL s x).length = s := by
  induction s with
  | zero => rfl
  | succ s ih => simp [numL, ih]
theorem flat_len (s : Nat) (ns : List Int) : (ns.flatMap (numL s)).length = s * ns.length := by
  induction ns with
  | nil => simp
  | cons x ns ih => rw [List.flatMap_cons, List.length_append, ih, numL_len, List.length_cons, Nat.mul_add]; omega
/-- what has been put so far, and what is still to come, is T -/
def PutR (w wr : World) (B : Nat) (T : List Int) (v : Value) (rest : List Int) : Prop := ∃ ys, Own .u8 5 wr B v ys ∧ ys ++ rest = T ∧ Below B w wr
theorem len_of {T rest ys : List Int} (h : ys ++ rest = T) : ys.length ≤ T.length := by rw [← h, List.length_append]; omega
theorem put_step {w wr w' : World} {B : Nat} {T : List Int} {v' : Value} {rest ys : List Int} {y : Int} (h : ys ++ y :: rest = T) (hb : Below B w wr) (O : Own .u8 5 w' B v' (ys ++ [y])) (hw : Below B wr w') : PutR w w' B T v' rest :=
  ⟨_, O, by rw [← h]; simp, hb.trans hw⟩
set_option maxRecDepth 100000 in
set_option maxHeartbeats 400000 in
theorem put_any (A : Option Addr) (n c : Nat) (size : Int) (A2 : Option Addr) (m c2 : Nat) (bs ns : List Int) (w : World) (h1 : -9223372036854775808 ≤ size) (h2 : size ≤ 9223372036854775807)
    (hb : Nums .u8 w w.heap.size A n bs) (hns : Nums .u64 w w.heap.size A2 m ns) (hn : n ≤ 3000) (hm : m ≤ 300) :
    Calls Try.prog 17 #[.slice A n c, .int .i64 size, .slice A2 m c2] w fun e w' =>
      ∃ v, e = .returned v ∧ Own .u8 5 w' w.heap.size v (putL bs (fitN size) ns) ∧ Below w.heap.size w w' := by
  have hf := fitN_le size
  obtain ⟨q, hq⟩ : ∃ q, q = fitN size * m := ⟨_, rfl⟩
  have hq8 : q ≤ 2400 := by rw [hq]; exact Nat.mul_le_mul hf hm
  have hqz : (fitN size : Int) * (m : Int) = (q : Int) := by rw [hq]; simp
  have HQ := Lib.hid hq
  clear hq
  obtain ⟨i0, hi0, hz0, hz1, hz2⟩ := info_parts byte_info
  have T1 := Lib.hid hi0; have T2 := Lib.hid hz0; have T3 := Lib.hid hz1; have T4 := Lib.hid hz2
  have b2 : i0.bytes * (n + q) ≤ 281474976710656 := by rw [hz2]; omega
  clear hi0 hz0 hz1 hz2
  go_enter Try.func17, Try.ntmps17
  go_wp2_with (first
    | (go_at_call 35; refine (fit_any _ _ h1 h2).mono ?_; rintro e w' ⟨rfl, rfl⟩)
    | (at_make; (refine wpList_make_own _ rfl (.const (.int .i64 0)) (.tmp 19) _ rfl w.heap.size 5 i0 _ 1 Try.underlying26 T1.out T2.out T3.out .i64 .i64 _ (n + q) rfl rfl (by omega) b2 (by simp only [maxLen]; omega) (Nat.le_refl _) ?_); intro w1 hown1 hg1
       have O1 : Own .u8 5 w1 w.heap.size (.slice (some ⟨w.heap.size, 0, none⟩) 0 (n + q)) [] := hown1
       have B1 : Below w.heap.size w w1 := grown_below hg1 (Nat.le_refl _) (by nofun)
       clear hown1 hg1)
    | (at_builtin; (refine wpList_app _ rfl (.tmp 21) (.tmp 22) _ rfl 5 i0 _ 1 Try.underlying26 T1.out T2.out T3.out T4.out rfl w.heap.size _ [] rfl O1 w.heap.size A n c bs rfl (hb.below B1) (by simp only [maxLen, List.length_nil]; omega) (by simp only [List.length_nil]; omega) B1.size ?_)
       intro v2 w2 O2 hg2
       have B2 : Below w.heap.size w w2 := B1.grown hg2 B1.size fun g hg => (O1.blk g hg).1
       clear hg2))
  have hT : (putL bs (fitN size) ns).length = n + q := by rw [putL, List.length_append, flat_len, hb.len, hns.len, HQ.out]
  have R0 : PutR w w2 w.heap.size (putL bs (fitN size) ns) v2 ((ns.drop 0).flatMap (numL (fitN size))) := ⟨_, O2, by simp [putL], B2⟩
  obtain ⟨T, eT⟩ : ∃ T, T = putL bs (fitN size) ns := ⟨_, rfl⟩
  rw [← eT] at hT R0
  have ET := Lib.hid eT
  clear eT
  clear O1 B1 O2 B2
  go_loopw [7, 26] (fun v i wr => ∃ j : Nat, j ≤ m ∧ i = .int .i64 j ∧ PutR w wr w.heap.size T v ((ns.drop j).flatMap (numL (fitN size)))) (fun _ i _ => m - (intOf i).toNat)
  case atStart => exact ⟨0, Nat.zero_le _, rfl, R0⟩
  case round =>
    obtain ⟨j, hj, rfl, R⟩ := hrel
    by_cases hlt : j < m
    · obtain ⟨b2, o2, rfl, hb2, hcell⟩ := hns.cell hlt
      obtain ⟨x, hx⟩ : ∃ x, x = ns.getD j 0 := ⟨_, rfl⟩
      have hc : wr.cell? ⟨b2, o2 + j, none⟩ = some (.int .u64 x) := by obtain ⟨ys, O, E, Bw⟩ := R; rw [Bw.cell (p := ⟨b2, o2 + j, none⟩) hb2, hx]; exact hcell
      have hdrop : ns.drop j = x :: ns.drop (j + 1) := by
        rw [hx, List.getD_eq_getElem?_getD, List.getElem?_eq_getElem (by rw [hns.len]; exact hlt)]
        exact List.drop_eq_getElem_cons (by rw [hns.len]; exact hlt)
      have R1 : PutR w wr w.heap.size T u7 (numL (fitN size) x ++ (ns.drop (j + 1)).flatMap (numL (fitN size))) := by rw [hdrop, List.flatMap_cons] at R; exact R
      clear hcell hdrop R hx
      obtain ⟨R2, e2⟩ : ∃ R2, R2 = (ns.drop (j + 1)).flatMap (numL (fitN size)) := ⟨_, rfl⟩
      rw [← e2] at R1
      have E2 := Lib.hid e2
      clear e2
      go_wp2_with fail
      obtain ⟨wo, rfl⟩ : ∃ wo : World, wo = wr := ⟨_, rfl⟩
      go_loopw [7, 10] (fun v i wr => ∃ s : Nat, s ≤ fitN size ∧ i = .int .i64 ((s : Int) - 1) ∧ PutR w wr w.heap.size T v (numL s x ++ R2)) (fun _ i _ => (intOf i + 1).toNat)
      case atStart => exact ⟨_, Nat.le_refl _, rfl, R1⟩
      case round =>
        obtain ⟨s, hs, rfl, ys, O, E, Bw⟩ := hrel
        rcases s with _ | s
        · go_wp2_with fail
          go_roundw
          case rel => exact ⟨j + 1, by omega, by go_num, ys, O, by rw [← E2.out]; exact E, Bw⟩
          case measure => simp [intOf]; omega
        · have e1 : ((s + 1 : Nat) : Int) - 1 = (s : Int) := by omega
          rw [e1]
          have hyl := len_of E
          have EE := Lib.hid E
          clear E e1
          go_wp2_with (at_builtin; (refine wpList_app1 _ rfl (.tmp 36) (.tmp 42) _ rfl 5 i0 _ 1 Try.underlying26 T1.out T2.out T3.out T4.out rfl w.heap.size _ ys rfl O _ rfl (by simp only [maxLen]; omega) (by omega) Bw.size ?_)
                       intro v' w' O' B')
          go_roundw
          case rel =>
            refine ⟨s, by omega, by go_num, ?_⟩
            exact put_step EE.out Bw O' B'
          case measure => simp [intOf]
    · obtain ⟨ys, O, E, Bw⟩ := R
      have hj : j = m := by omega
      subst hj
      have E' : ys = T := by rw [← E, List.drop_eq_nil_of_le (by rw [hns.len]; omega)]; simp
      clear E
      subst E'
      go_wp2_with fail
      go_ret
      exact ⟨u7, rfl, by rw [← ET.out]; exact O, Bw⟩
end Go.Proofs.Ytmedccfekfnmlaa.octC
