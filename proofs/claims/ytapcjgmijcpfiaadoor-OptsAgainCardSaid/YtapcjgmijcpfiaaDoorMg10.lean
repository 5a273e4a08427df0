/-
  5 texts of a proof, joined.
-/
import Derived.Test.YtapcjgmijcpfiaaDoorMg9
import Derived.Test.YtapcjgmijcpfiaaDoorMg5
import Derived.Test.YtapcjgmijcpfiaaDoorMg3
import Derived.Deep.Matrix
import Derived.Laws.StructEq
import Derived.ChangeKeysEq
import Derived.Test.YtapcjgmijcpfiaaDoorMg4
import Derived.Great.BuildSlice
import Derived.Deep.CutRange
import Derived.StillTactics
import Derived.StillTailTactics
import Derived.Deep.LoopGhost
import Derived.Deep.WholeRow
import Derived.Deep.RegionWith
import Derived.RegionTactic

/-
  Whether options tell nothing of what they do not have: the program's.
-/
namespace Go.Proofs.YtapcjgmijcpfiaaDoor.opC
open Go.ChangeShapes Go.WideShapes Go.ChangeAt Go.RowKit
open Go.Proofs.YtapcjgmijcpfiaaDoor.memC Go.Proofs.YtapcjgmijcpfiaaDoor.genC Go.Proofs.YtapcjgmijcpfiaaDoor.butC Go.Proofs.YtapcjgmijcpfiaaDoor.freeC Go.Proofs.YtapcjgmijcpfiaaDoor.adC
set_option linter.unusedVariables false
section
variable {P : Program} {ops : Array Oper} {rest : List Oper} {a : Act} {w : World} {Q : Exit → Act → World → Prop} {d : Option Tmp} {t : TypeId} {p : String} {f : Array Edge} {g : Option (Nat × Bool)}
theorem at_build (ty : TypeId) {fs : Array (Nat × Operand)} (h : wpList P ops Q (⟨d, .build ty fs, t, p, f, g⟩ :: rest) a w) : wpList P ops Q (⟨d, .build ty fs, t, p, f, g⟩ :: rest) a w := h
end
theorem mac_zero : Tryd.prog.built 25 [] = some (macL (List.replicate 12 0)).toArray := by kernel_rfl
set_option maxRecDepth 100000 in
set_option maxHeartbeats 4000000 in
theorem tells_any (o : Opt) (A : Option Addr) (n c : Nat) (w : World) (hl : o.mac.length = 12) : Calls Tryd.prog 28 #[.agg (optV o A n c)] w (Ret w (.bool (keptB o))) := by
  obtain ⟨C, hC⟩ : ∃ C, C = optV o A n c := ⟨_, rfl⟩
  have OC : OptC C o A n c := by rw [hC]; exact optC hl A n c
  rw [← hC]
  clear hC
  obtain ⟨W, hW⟩ : ∃ W, W = w.alloc (.cells C 27) := ⟨_, rfl⟩
  have R := Lib.hid (show W.heap[w.heap.size]? = some (.cells C 27 (0, 0)) by rw [hW]; exact heap_alloc_new _ _)
  have HB := Lib.hid (show Below w.heap.size w W by rw [hW]; exact alloc_below _ _)
  have k0 := pkC.PkC.cell R.out OC.hm
  have k1 := pkC.PkC.cell R.out OC.ms
  have k2 := pkC.PkC.cell R.out OC.hs
  have k3 := pkC.PkC.cell R.out OC.sc
  have k6 := pkC.PkC.cell R.out OC.ht
  have k7 := pkC.PkC.cell R.out OC.va
  have k8 := pkC.PkC.cell R.out OC.ec
  have k9 := pkC.PkC.cell R.out OC.ha
  have k10 := pkC.PkC.cell R.out OC.ki
  have k11 := pkC.PkC.cell R.out OC.ni
  have MC := Lib.hid (show ∀ j v, (macL o.mac)[j]? = some v → W.cell? ⟨w.heap.size, 12 + j, none⟩ = some v from fun j v h => pkC.PkC.cell R.out (OC.mac j v h))
  have MI := Lib.hid (mac_info hl)
  have EQ := Lib.hid (fun w => eq12 (xs := o.mac) (ys := List.replicate 12 0) hl rfl w)
  obtain ⟨V, hV⟩ : ∃ V, V = keptB o := ⟨_, rfl⟩
  rw [← hV]
  unfold keptB at hV
  generalize decide (o.mac = List.replicate 12 0) = q at *
  generalize macL o.mac = ML at *
  generalize o.hm = xhm at *
  generalize o.ms = xms at *
  generalize o.hs = xhs at *
  generalize o.sc = xsc at *
  generalize o.ht = xht at *
  generalize o.va = xva at *
  generalize o.ec = xec at *
  generalize o.ha = xha at *
  generalize o.ki = xki at *
  generalize o.ni = xni at *
  have HV := Lib.hid hV
  clear OC hl hV
  cases xhm
  · by_cases zms : xms = 0
    rotate_left
    · have qms : (xms == 0) = false := beq_eq_false_iff_ne.2 zms
      have hv := Lib.hid (show V = false by rw [HV.out]; simp [*])
      go_enter Tryd.func28, Tryd.ntmps28
      go_upto_region 1 with fail
      rw [← hW]
      clear hW
      go_wp2_with (first
        | go_skip
        | (with_reducible refine atC.at_load 25 46 ?_; refine pkC.wpList_load_partG (by kernel_rfl) 25 (.tmp 46) (by kernel_rfl) w.heap.size 12 (by kernel_rfl) ML _ MC.out Tryd.underlying25 rfl MI.out ?_)
        | (with_reducible refine at_build 25 ?_; refine wpList_runG (by kernel_rfl) _ (built_run (T := 25) rfl mac_zero) ?_)
        | (with_reducible refine atC.at_bin .eql 25 ?_; refine wpList_runG (by kernel_rfl) _ (eq_run (T := 25) (s := 47) (x := 48) rfl (by kernel_rfl) (by kernel_rfl) (EQ.out _) guard12) ?_))
      go_ret
      exact ⟨ret_bool hv.out.symm, HB.out⟩
    subst zms
    cases xhs
    · by_cases zsc : xsc = 0
      rotate_left
      · have qsc : (xsc == 0) = false := beq_eq_false_iff_ne.2 zsc
        have hv := Lib.hid (show V = false by rw [HV.out]; simp [*])
        go_enter Tryd.func28, Tryd.ntmps28
        go_upto_region 1 with fail
        rw [← hW]
        clear hW
        go_wp2_with (first
          | go_skip
          | (with_reducible refine atC.at_load 25 46 ?_; refine pkC.wpList_load_partG (by kernel_rfl) 25 (.tmp 46) (by kernel_rfl) w.heap.size 12 (by kernel_rfl) ML _ MC.out Tryd.underlying25 rfl MI.out ?_)
          | (with_reducible refine at_build 25 ?_; refine wpList_runG (by kernel_rfl) _ (built_run (T := 25) rfl mac_zero) ?_)
          | (with_reducible refine atC.at_bin .eql 25 ?_; refine wpList_runG (by kernel_rfl) _ (eq_run (T := 25) (s := 47) (x := 48) rfl (by kernel_rfl) (by kernel_rfl) (EQ.out _) guard12) ?_))
        go_ret
        exact ⟨ret_bool hv.out.symm, HB.out⟩
      subst zsc
      cases xht
      · by_cases zva : xva = 0
        rotate_left
        · have qva : (xva == 0) = false := beq_eq_false_iff_ne.2 zva
          have hv := Lib.hid (show V = false by rw [HV.out]; simp [*])
          go_enter Tryd.func28, Tryd.ntmps28
          go_upto_region 1 with fail
          rw [← hW]
          clear hW
          go_wp2_with (first
            | go_skip
            | (with_reducible refine atC.at_load 25 46 ?_; refine pkC.wpList_load_partG (by kernel_rfl) 25 (.tmp 46) (by kernel_rfl) w.heap.size 12 (by kernel_rfl) ML _ MC.out Tryd.underlying25 rfl MI.out ?_)
            | (with_reducible refine at_build 25 ?_; refine wpList_runG (by kernel_rfl) _ (built_run (T := 25) rfl mac_zero) ?_)
            | (with_reducible refine atC.at_bin .eql 25 ?_; refine wpList_runG (by kernel_rfl) _ (eq_run (T := 25) (s := 47) (x := 48) rfl (by kernel_rfl) (by kernel_rfl) (EQ.out _) guard12) ?_))
          go_ret
          exact ⟨ret_bool hv.out.symm, HB.out⟩
        subst zva
        by_cases zec : xec = 0
        rotate_left
        · have qec : (xec == 0) = false := beq_eq_false_iff_ne.2 zec
          have hv := Lib.hid (show V = false by rw [HV.out]; simp [*])
          go_enter Tryd.func28, Tryd.ntmps28
          go_upto_region 1 with fail
          rw [← hW]
          clear hW
          go_wp2_with (first
            | go_skip
            | (with_reducible refine atC.at_load 25 46 ?_; refine pkC.wpList_load_partG (by kernel_rfl) 25 (.tmp 46) (by kernel_rfl) w.heap.size 12 (by kernel_rfl) ML _ MC.out Tryd.underlying25 rfl MI.out ?_)
            | (with_reducible refine at_build 25 ?_; refine wpList_runG (by kernel_rfl) _ (built_run (T := 25) rfl mac_zero) ?_)
            | (with_reducible refine atC.at_bin .eql 25 ?_; refine wpList_runG (by kernel_rfl) _ (eq_run (T := 25) (s := 47) (x := 48) rfl (by kernel_rfl) (by kernel_rfl) (EQ.out _) guard12) ?_))
          go_ret
          exact ⟨ret_bool hv.out.symm, HB.out⟩
        subst zec
        cases xha
        · by_cases zki : xki = 0
          rotate_left
          · have qki : (xki == 0) = false := beq_eq_false_iff_ne.2 zki
            have hv := Lib.hid (show V = false by rw [HV.out]; simp [*])
            go_enter Tryd.func28, Tryd.ntmps28
            go_upto_region 1 with fail
            rw [← hW]
            clear hW
            go_wp2_with (first
              | go_skip
              | (with_reducible refine atC.at_load 25 46 ?_; refine pkC.wpList_load_partG (by kernel_rfl) 25 (.tmp 46) (by kernel_rfl) w.heap.size 12 (by kernel_rfl) ML _ MC.out Tryd.underlying25 rfl MI.out ?_)
              | (with_reducible refine at_build 25 ?_; refine wpList_runG (by kernel_rfl) _ (built_run (T := 25) rfl mac_zero) ?_)
              | (with_reducible refine atC.at_bin .eql 25 ?_; refine wpList_runG (by kernel_rfl) _ (eq_run (T := 25) (s := 47) (x := 48) rfl (by kernel_rfl) (by kernel_rfl) (EQ.out _) guard12) ?_))
            go_ret
            exact ⟨ret_bool hv.out.symm, HB.out⟩
          subst zki
          by_cases zni : xni = 0
          rotate_left
          · have qni : (xni == 0) = false := beq_eq_false_iff_ne.2 zni
            have hv := Lib.hid (show V = false by rw [HV.out]; simp [*])
            go_enter Tryd.func28, Tryd.ntmps28
            go_upto_region 1 with fail
            rw [← hW]
            clear hW
            go_wp2_with (first
              | go_skip
              | (with_reducible refine atC.at_load 25 46 ?_; refine pkC.wpList_load_partG (by kernel_rfl) 25 (.tmp 46) (by kernel_rfl) w.heap.size 12 (by kernel_rfl) ML _ MC.out Tryd.underlying25 rfl MI.out ?_)
              | (with_reducible refine at_build 25 ?_; refine wpList_runG (by kernel_rfl) _ (built_run (T := 25) rfl mac_zero) ?_)
              | (with_reducible refine atC.at_bin .eql 25 ?_; refine wpList_runG (by kernel_rfl) _ (eq_run (T := 25) (s := 47) (x := 48) rfl (by kernel_rfl) (by kernel_rfl) (EQ.out _) guard12) ?_))
            go_ret
            exact ⟨ret_bool hv.out.symm, HB.out⟩
          subst zni
          cases q
          · have hv := Lib.hid (show V = false by rw [HV.out]; simp [*])
            go_enter Tryd.func28, Tryd.ntmps28
            go_upto_region 1 with fail
            rw [← hW]
            clear hW
            go_wp2_with (first
              | go_skip
              | (with_reducible refine atC.at_load 25 46 ?_; refine pkC.wpList_load_partG (by kernel_rfl) 25 (.tmp 46) (by kernel_rfl) w.heap.size 12 (by kernel_rfl) ML _ MC.out Tryd.underlying25 rfl MI.out ?_)
              | (with_reducible refine at_build 25 ?_; refine wpList_runG (by kernel_rfl) _ (built_run (T := 25) rfl mac_zero) ?_)
              | (with_reducible refine atC.at_bin .eql 25 ?_; refine wpList_runG (by kernel_rfl) _ (eq_run (T := 25) (s := 47) (x := 48) rfl (by kernel_rfl) (by kernel_rfl) (EQ.out _) guard12) ?_))
            go_ret
            exact ⟨ret_bool hv.out.symm, HB.out⟩
          · skip
            have hv := Lib.hid (show V = true by rw [HV.out]; simp [*])
            go_enter Tryd.func28, Tryd.ntmps28
            go_upto_region 1 with fail
            rw [← hW]
            clear hW
            go_wp2_with (first
              | go_skip
              | (with_reducible refine atC.at_load 25 46 ?_; refine pkC.wpList_load_partG (by kernel_rfl) 25 (.tmp 46) (by kernel_rfl) w.heap.size 12 (by kernel_rfl) ML _ MC.out Tryd.underlying25 rfl MI.out ?_)
              | (with_reducible refine at_build 25 ?_; refine wpList_runG (by kernel_rfl) _ (built_run (T := 25) rfl mac_zero) ?_)
              | (with_reducible refine atC.at_bin .eql 25 ?_; refine wpList_runG (by kernel_rfl) _ (eq_run (T := 25) (s := 47) (x := 48) rfl (by kernel_rfl) (by kernel_rfl) (EQ.out _) guard12) ?_))
            go_ret
            exact ⟨ret_bool hv.out.symm, HB.out⟩
        · have hv := Lib.hid (show V = true by rw [HV.out]; simp [*])
          go_enter Tryd.func28, Tryd.ntmps28
          go_upto_region 1 with fail
          rw [← hW]
          clear hW
          go_wp2_with (first
            | go_skip
            | (with_reducible refine atC.at_load 25 46 ?_; refine pkC.wpList_load_partG (by kernel_rfl) 25 (.tmp 46) (by kernel_rfl) w.heap.size 12 (by kernel_rfl) ML _ MC.out Tryd.underlying25 rfl MI.out ?_)
            | (with_reducible refine at_build 25 ?_; refine wpList_runG (by kernel_rfl) _ (built_run (T := 25) rfl mac_zero) ?_)
            | (with_reducible refine atC.at_bin .eql 25 ?_; refine wpList_runG (by kernel_rfl) _ (eq_run (T := 25) (s := 47) (x := 48) rfl (by kernel_rfl) (by kernel_rfl) (EQ.out _) guard12) ?_))
          go_ret
          exact ⟨ret_bool hv.out.symm, HB.out⟩
      · cases xha
        · by_cases zki : xki = 0
          rotate_left
          · have qki : (xki == 0) = false := beq_eq_false_iff_ne.2 zki
            have hv := Lib.hid (show V = false by rw [HV.out]; simp [*])
            go_enter Tryd.func28, Tryd.ntmps28
            go_upto_region 1 with fail
            rw [← hW]
            clear hW
            go_wp2_with (first
              | go_skip
              | (with_reducible refine atC.at_load 25 46 ?_; refine pkC.wpList_load_partG (by kernel_rfl) 25 (.tmp 46) (by kernel_rfl) w.heap.size 12 (by kernel_rfl) ML _ MC.out Tryd.underlying25 rfl MI.out ?_)
              | (with_reducible refine at_build 25 ?_; refine wpList_runG (by kernel_rfl) _ (built_run (T := 25) rfl mac_zero) ?_)
              | (with_reducible refine atC.at_bin .eql 25 ?_; refine wpList_runG (by kernel_rfl) _ (eq_run (T := 25) (s := 47) (x := 48) rfl (by kernel_rfl) (by kernel_rfl) (EQ.out _) guard12) ?_))
            go_ret
            exact ⟨ret_bool hv.out.symm, HB.out⟩
          subst zki
          by_cases zni : xni = 0
          rotate_left
          · have qni : (xni == 0) = false := beq_eq_false_iff_ne.2 zni
            have hv := Lib.hid (show V = false by rw [HV.out]; simp [*])
            go_enter Tryd.func28, Tryd.ntmps28
            go_upto_region 1 with fail
            rw [← hW]
            clear hW
            go_wp2_with (first
              | go_skip
              | (with_reducible refine atC.at_load 25 46 ?_; refine pkC.wpList_load_partG (by kernel_rfl) 25 (.tmp 46) (by kernel_rfl) w.heap.size 12 (by kernel_rfl) ML _ MC.out Tryd.underlying25 rfl MI.out ?_)
              | (with_reducible refine at_build 25 ?_; refine wpList_runG (by kernel_rfl) _ (built_run (T := 25) rfl mac_zero) ?_)
              | (with_reducible refine atC.at_bin .eql 25 ?_; refine wpList_runG (by kernel_rfl) _ (eq_run (T := 25) (s := 47) (x := 48) rfl (by kernel_rfl) (by kernel_rfl) (EQ.out _) guard12) ?_))
            go_ret
            exact ⟨ret_bool hv.out.symm, HB.out⟩
          subst zni
          cases q
          · have hv := Lib.hid (show V = false by rw [HV.out]; simp [*])
            go_enter Tryd.func28, Tryd.ntmps28
            go_upto_region 1 with fail
            rw [← hW]
            clear hW
            go_wp2_with (first
              | go_skip
              | (with_reducible refine atC.at_load 25 46 ?_; refine pkC.wpList_load_partG (by kernel_rfl) 25 (.tmp 46) (by kernel_rfl) w.heap.size 12 (by kernel_rfl) ML _ MC.out Tryd.underlying25 rfl MI.out ?_)
              | (with_reducible refine at_build 25 ?_; refine wpList_runG (by kernel_rfl) _ (built_run (T := 25) rfl mac_zero) ?_)
              | (with_reducible refine atC.at_bin .eql 25 ?_; refine wpList_runG (by kernel_rfl) _ (eq_run (T := 25) (s := 47) (x := 48) rfl (by kernel_rfl) (by kernel_rfl) (EQ.out _) guard12) ?_))
            go_ret
            exact ⟨ret_bool hv.out.symm, HB.out⟩
          · skip
            have hv := Lib.hid (show V = true by rw [HV.out]; simp [*])
            go_enter Tryd.func28, Tryd.ntmps28
            go_upto_region 1 with fail
            rw [← hW]
            clear hW
            go_wp2_with (first
              | go_skip
              | (with_reducible refine atC.at_load 25 46 ?_; refine pkC.wpList_load_partG (by kernel_rfl) 25 (.tmp 46) (by kernel_rfl) w.heap.size 12 (by kernel_rfl) ML _ MC.out Tryd.underlying25 rfl MI.out ?_)
              | (with_reducible refine at_build 25 ?_; refine wpList_runG (by kernel_rfl) _ (built_run (T := 25) rfl mac_zero) ?_)
              | (with_reducible refine atC.at_bin .eql 25 ?_; refine wpList_runG (by kernel_rfl) _ (eq_run (T := 25) (s := 47) (x := 48) rfl (by kernel_rfl) (by kernel_rfl) (EQ.out _) guard12) ?_))
            go_ret
            exact ⟨ret_bool hv.out.symm, HB.out⟩
        · have hv := Lib.hid (show V = true by rw [HV.out]; simp [*])
          go_enter Tryd.func28, Tryd.ntmps28
          go_upto_region 1 with fail
          rw [← hW]
          clear hW
          go_wp2_with (first
            | go_skip
            | (with_reducible refine atC.at_load 25 46 ?_; refine pkC.wpList_load_partG (by kernel_rfl) 25 (.tmp 46) (by kernel_rfl) w.heap.size 12 (by kernel_rfl) ML _ MC.out Tryd.underlying25 rfl MI.out ?_)
            | (with_reducible refine at_build 25 ?_; refine wpList_runG (by kernel_rfl) _ (built_run (T := 25) rfl mac_zero) ?_)
            | (with_reducible refine atC.at_bin .eql 25 ?_; refine wpList_runG (by kernel_rfl) _ (eq_run (T := 25) (s := 47) (x := 48) rfl (by kernel_rfl) (by kernel_rfl) (EQ.out _) guard12) ?_))
          go_ret
          exact ⟨ret_bool hv.out.symm, HB.out⟩
    · cases xht
      · by_cases zva : xva = 0
        rotate_left
        · have qva : (xva == 0) = false := beq_eq_false_iff_ne.2 zva
          have hv := Lib.hid (show V = false by rw [HV.out]; simp [*])
          go_enter Tryd.func28, Tryd.ntmps28
          go_upto_region 1 with fail
          rw [← hW]
          clear hW
          go_wp2_with (first
            | go_skip
            | (with_reducible refine atC.at_load 25 46 ?_; refine pkC.wpList_load_partG (by kernel_rfl) 25 (.tmp 46) (by kernel_rfl) w.heap.size 12 (by kernel_rfl) ML _ MC.out Tryd.underlying25 rfl MI.out ?_)
            | (with_reducible refine at_build 25 ?_; refine wpList_runG (by kernel_rfl) _ (built_run (T := 25) rfl mac_zero) ?_)
            | (with_reducible refine atC.at_bin .eql 25 ?_; refine wpList_runG (by kernel_rfl) _ (eq_run (T := 25) (s := 47) (x := 48) rfl (by kernel_rfl) (by kernel_rfl) (EQ.out _) guard12) ?_))
          go_ret
          exact ⟨ret_bool hv.out.symm, HB.out⟩
        subst zva
        by_cases zec : xec = 0
        rotate_left
        · have qec : (xec == 0) = false := beq_eq_false_iff_ne.2 zec
          have hv := Lib.hid (show V = false by rw [HV.out]; simp [*])
          go_enter Tryd.func28, Tryd.ntmps28
          go_upto_region 1 with fail
          rw [← hW]
          clear hW
          go_wp2_with (first
            | go_skip
            | (with_reducible refine atC.at_load 25 46 ?_; refine pkC.wpList_load_partG (by kernel_rfl) 25 (.tmp 46) (by kernel_rfl) w.heap.size 12 (by kernel_rfl) ML _ MC.out Tryd.underlying25 rfl MI.out ?_)
            | (with_reducible refine at_build 25 ?_; refine wpList_runG (by kernel_rfl) _ (built_run (T := 25) rfl mac_zero) ?_)
            | (with_reducible refine atC.at_bin .eql 25 ?_; refine wpList_runG (by kernel_rfl) _ (eq_run (T := 25) (s := 47) (x := 48) rfl (by kernel_rfl) (by kernel_rfl) (EQ.out _) guard12) ?_))
          go_ret
          exact ⟨ret_bool hv.out.symm, HB.out⟩
        subst zec
        cases xha
        · by_cases zki : xki = 0
          rotate_left
          · have qki : (xki == 0) = false := beq_eq_false_iff_ne.2 zki
            have hv := Lib.hid (show V = false by rw [HV.out]; simp [*])
            go_enter Tryd.func28, Tryd.ntmps28
            go_upto_region 1 with fail
            rw [← hW]
            clear hW
            go_wp2_with (first
              | go_skip
              | (with_reducible refine atC.at_load 25 46 ?_; refine pkC.wpList_load_partG (by kernel_rfl) 25 (.tmp 46) (by kernel_rfl) w.heap.size 12 (by kernel_rfl) ML _ MC.out Tryd.underlying25 rfl MI.out ?_)
              | (with_reducible refine at_build 25 ?_; refine wpList_runG (by kernel_rfl) _ (built_run (T := 25) rfl mac_zero) ?_)
              | (with_reducible refine atC.at_bin .eql 25 ?_; refine wpList_runG (by kernel_rfl) _ (eq_run (T := 25) (s := 47) (x := 48) rfl (by kernel_rfl) (by kernel_rfl) (EQ.out _) guard12) ?_))
            go_ret
            exact ⟨ret_bool hv.out.symm, HB.out⟩
          subst zki
          by_cases zni : xni = 0
          rotate_left
          · have qni : (xni == 0) = false := beq_eq_false_iff_ne.2 zni
            have hv := Lib.hid (show V = false by rw [HV.out]; simp [*])
            go_enter Tryd.func28, Tryd.ntmps28
            go_upto_region 1 with fail
            rw [← hW]
            clear hW
            go_wp2_with (first
              | go_skip
              | (with_reducible refine atC.at_load 25 46 ?_; refine pkC.wpList_load_partG (by kernel_rfl) 25 (.tmp 46) (by kernel_rfl) w.heap.size 12 (by kernel_rfl) ML _ MC.out Tryd.underlying25 rfl MI.out ?_)
              | (with_reducible refine at_build 25 ?_; refine wpList_runG (by kernel_rfl) _ (built_run (T := 25) rfl mac_zero) ?_)
              | (with_reducible refine atC.at_bin .eql 25 ?_; refine wpList_runG (by kernel_rfl) _ (eq_run (T := 25) (s := 47) (x := 48) rfl (by kernel_rfl) (by kernel_rfl) (EQ.out _) guard12) ?_))
            go_ret
            exact ⟨ret_bool hv.out.symm, HB.out⟩
          subst zni
          cases q
          · have hv := Lib.hid (show V = false by rw [HV.out]; simp [*])
            go_enter Tryd.func28, Tryd.ntmps28
            go_upto_region 1 with fail
            rw [← hW]
            clear hW
            go_wp2_with (first
              | go_skip
              | (with_reducible refine atC.at_load 25 46 ?_; refine pkC.wpList_load_partG (by kernel_rfl) 25 (.tmp 46) (by kernel_rfl) w.heap.size 12 (by kernel_rfl) ML _ MC.out Tryd.underlying25 rfl MI.out ?_)
              | (with_reducible refine at_build 25 ?_; refine wpList_runG (by kernel_rfl) _ (built_run (T := 25) rfl mac_zero) ?_)
              | (with_reducible refine atC.at_bin .eql 25 ?_; refine wpList_runG (by kernel_rfl) _ (eq_run (T := 25) (s := 47) (x := 48) rfl (by kernel_rfl) (by kernel_rfl) (EQ.out _) guard12) ?_))
            go_ret
            exact ⟨ret_bool hv.out.symm, HB.out⟩
          · skip
            have hv := Lib.hid (show V = true by rw [HV.out]; simp [*])
            go_enter Tryd.func28, Tryd.ntmps28
            go_upto_region 1 with fail
            rw [← hW]
            clear hW
            go_wp2_with (first
              | go_skip
              | (with_reducible refine atC.at_load 25 46 ?_; refine pkC.wpList_load_partG (by kernel_rfl) 25 (.tmp 46) (by kernel_rfl) w.heap.size 12 (by kernel_rfl) ML _ MC.out Tryd.underlying25 rfl MI.out ?_)
              | (with_reducible refine at_build 25 ?_; refine wpList_runG (by kernel_rfl) _ (built_run (T := 25) rfl mac_zero) ?_)
              | (with_reducible refine atC.at_bin .eql 25 ?_; refine wpList_runG (by kernel_rfl) _ (eq_run (T := 25) (s := 47) (x := 48) rfl (by kernel_rfl) (by kernel_rfl) (EQ.out _) guard12) ?_))
            go_ret
            exact ⟨ret_bool hv.out.symm, HB.out⟩
        · have hv := Lib.hid (show V = true by rw [HV.out]; simp [*])
          go_enter Tryd.func28, Tryd.ntmps28
          go_upto_region 1 with fail
          rw [← hW]
          clear hW
          go_wp2_with (first
            | go_skip
            | (with_reducible refine atC.at_load 25 46 ?_; refine pkC.wpList_load_partG (by kernel_rfl) 25 (.tmp 46) (by kernel_rfl) w.heap.size 12 (by kernel_rfl) ML _ MC.out Tryd.underlying25 rfl MI.out ?_)
            | (with_reducible refine at_build 25 ?_; refine wpList_runG (by kernel_rfl) _ (built_run (T := 25) rfl mac_zero) ?_)
            | (with_reducible refine atC.at_bin .eql 25 ?_; refine wpList_runG (by kernel_rfl) _ (eq_run (T := 25) (s := 47) (x := 48) rfl (by kernel_rfl) (by kernel_rfl) (EQ.out _) guard12) ?_))
          go_ret
          exact ⟨ret_bool hv.out.symm, HB.out⟩
      · cases xha
        · by_cases zki : xki = 0
          rotate_left
          · have qki : (xki == 0) = false := beq_eq_false_iff_ne.2 zki
            have hv := Lib.hid (show V = false by rw [HV.out]; simp [*])
            go_enter Tryd.func28, Tryd.ntmps28
            go_upto_region 1 with fail
            rw [← hW]
            clear hW
            go_wp2_with (first
              | go_skip
              | (with_reducible refine atC.at_load 25 46 ?_; refine pkC.wpList_load_partG (by kernel_rfl) 25 (.tmp 46) (by kernel_rfl) w.heap.size 12 (by kernel_rfl) ML _ MC.out Tryd.underlying25 rfl MI.out ?_)
              | (with_reducible refine at_build 25 ?_; refine wpList_runG (by kernel_rfl) _ (built_run (T := 25) rfl mac_zero) ?_)
              | (with_reducible refine atC.at_bin .eql 25 ?_; refine wpList_runG (by kernel_rfl) _ (eq_run (T := 25) (s := 47) (x := 48) rfl (by kernel_rfl) (by kernel_rfl) (EQ.out _) guard12) ?_))
            go_ret
            exact ⟨ret_bool hv.out.symm, HB.out⟩
          subst zki
          by_cases zni : xni = 0
          rotate_left
          · have qni : (xni == 0) = false := beq_eq_false_iff_ne.2 zni
            have hv := Lib.hid (show V = false by rw [HV.out]; simp [*])
            go_enter Tryd.func28, Tryd.ntmps28
            go_upto_region 1 with fail
            rw [← hW]
            clear hW
            go_wp2_with (first
              | go_skip
              | (with_reducible refine atC.at_load 25 46 ?_; refine pkC.wpList_load_partG (by kernel_rfl) 25 (.tmp 46) (by kernel_rfl) w.heap.size 12 (by kernel_rfl) ML _ MC.out Tryd.underlying25 rfl MI.out ?_)
              | (with_reducible refine at_build 25 ?_; refine wpList_runG (by kernel_rfl) _ (built_run (T := 25) rfl mac_zero) ?_)
              | (with_reducible refine atC.at_bin .eql 25 ?_; refine wpList_runG (by kernel_rfl) _ (eq_run (T := 25) (s := 47) (x := 48) rfl (by kernel_rfl) (by kernel_rfl) (EQ.out _) guard12) ?_))
            go_ret
            exact ⟨ret_bool hv.out.symm, HB.out⟩
          subst zni
          cases q
          · have hv := Lib.hid (show V = false by rw [HV.out]; simp [*])
            go_enter Tryd.func28, Tryd.ntmps28
            go_upto_region 1 with fail
            rw [← hW]
            clear hW
            go_wp2_with (first
              | go_skip
              | (with_reducible refine atC.at_load 25 46 ?_; refine pkC.wpList_load_partG (by kernel_rfl) 25 (.tmp 46) (by kernel_rfl) w.heap.size 12 (by kernel_rfl) ML _ MC.out Tryd.underlying25 rfl MI.out ?_)
              | (with_reducible refine at_build 25 ?_; refine wpList_runG (by kernel_rfl) _ (built_run (T := 25) rfl mac_zero) ?_)
              | (with_reducible refine atC.at_bin .eql 25 ?_; refine wpList_runG (by kernel_rfl) _ (eq_run (T := 25) (s := 47) (x := 48) rfl (by kernel_rfl) (by kernel_rfl) (EQ.out _) guard12) ?_))
            go_ret
            exact ⟨ret_bool hv.out.symm, HB.out⟩
          · skip
            have hv := Lib.hid (show V = true by rw [HV.out]; simp [*])
            go_enter Tryd.func28, Tryd.ntmps28
            go_upto_region 1 with fail
            rw [← hW]
            clear hW
            go_wp2_with (first
              | go_skip
              | (with_reducible refine atC.at_load 25 46 ?_; refine pkC.wpList_load_partG (by kernel_rfl) 25 (.tmp 46) (by kernel_rfl) w.heap.size 12 (by kernel_rfl) ML _ MC.out Tryd.underlying25 rfl MI.out ?_)
              | (with_reducible refine at_build 25 ?_; refine wpList_runG (by kernel_rfl) _ (built_run (T := 25) rfl mac_zero) ?_)
              | (with_reducible refine atC.at_bin .eql 25 ?_; refine wpList_runG (by kernel_rfl) _ (eq_run (T := 25) (s := 47) (x := 48) rfl (by kernel_rfl) (by kernel_rfl) (EQ.out _) guard12) ?_))
            go_ret
            exact ⟨ret_bool hv.out.symm, HB.out⟩
        · have hv := Lib.hid (show V = true by rw [HV.out]; simp [*])
          go_enter Tryd.func28, Tryd.ntmps28
          go_upto_region 1 with fail
          rw [← hW]
          clear hW
          go_wp2_with (first
            | go_skip
            | (with_reducible refine atC.at_load 25 46 ?_; refine pkC.wpList_load_partG (by kernel_rfl) 25 (.tmp 46) (by kernel_rfl) w.heap.size 12 (by kernel_rfl) ML _ MC.out Tryd.underlying25 rfl MI.out ?_)
            | (with_reducible refine at_build 25 ?_; refine wpList_runG (by kernel_rfl) _ (built_run (T := 25) rfl mac_zero) ?_)
            | (with_reducible refine atC.at_bin .eql 25 ?_; refine wpList_runG (by kernel_rfl) _ (eq_run (T := 25) (s := 47) (x := 48) rfl (by kernel_rfl) (by kernel_rfl) (EQ.out _) guard12) ?_))
          go_ret
          exact ⟨ret_bool hv.out.symm, HB.out⟩
  · cases xhs
    · by_cases zsc : xsc = 0
      rotate_left
      · have qsc : (xsc == 0) = false := beq_eq_false_iff_ne.2 zsc
        have hv := Lib.hid (show V = false by rw [HV.out]; simp [*])
        go_enter Tryd.func28, Tryd.ntmps28
        go_upto_region 1 with fail
        rw [← hW]
        clear hW
        go_wp2_with (first
          | go_skip
          | (with_reducible refine atC.at_load 25 46 ?_; refine pkC.wpList_load_partG (by kernel_rfl) 25 (.tmp 46) (by kernel_rfl) w.heap.size 12 (by kernel_rfl) ML _ MC.out Tryd.underlying25 rfl MI.out ?_)
          | (with_reducible refine at_build 25 ?_; refine wpList_runG (by kernel_rfl) _ (built_run (T := 25) rfl mac_zero) ?_)
          | (with_reducible refine atC.at_bin .eql 25 ?_; refine wpList_runG (by kernel_rfl) _ (eq_run (T := 25) (s := 47) (x := 48) rfl (by kernel_rfl) (by kernel_rfl) (EQ.out _) guard12) ?_))
        go_ret
        exact ⟨ret_bool hv.out.symm, HB.out⟩
      subst zsc
      cases xht
      · by_cases zva : xva = 0
        rotate_left
        · have qva : (xva == 0) = false := beq_eq_false_iff_ne.2 zva
          have hv := Lib.hid (show V = false by rw [HV.out]; simp [*])
          go_enter Tryd.func28, Tryd.ntmps28
          go_upto_region 1 with fail
          rw [← hW]
          clear hW
          go_wp2_with (first
            | go_skip
            | (with_reducible refine atC.at_load 25 46 ?_; refine pkC.wpList_load_partG (by kernel_rfl) 25 (.tmp 46) (by kernel_rfl) w.heap.size 12 (by kernel_rfl) ML _ MC.out Tryd.underlying25 rfl MI.out ?_)
            | (with_reducible refine at_build 25 ?_; refine wpList_runG (by kernel_rfl) _ (built_run (T := 25) rfl mac_zero) ?_)
            | (with_reducible refine atC.at_bin .eql 25 ?_; refine wpList_runG (by kernel_rfl) _ (eq_run (T := 25) (s := 47) (x := 48) rfl (by kernel_rfl) (by kernel_rfl) (EQ.out _) guard12) ?_))
          go_ret
          exact ⟨ret_bool hv.out.symm, HB.out⟩
        subst zva
        by_cases zec : xec = 0
        rotate_left
        · have qec : (xec == 0) = false := beq_eq_false_iff_ne.2 zec
          have hv := Lib.hid (show V = false by rw [HV.out]; simp [*])
          go_enter Tryd.func28, Tryd.ntmps28
          go_upto_region 1 with fail
          rw [← hW]
          clear hW
          go_wp2_with (first
            | go_skip
            | (with_reducible refine atC.at_load 25 46 ?_; refine pkC.wpList_load_partG (by kernel_rfl) 25 (.tmp 46) (by kernel_rfl) w.heap.size 12 (by kernel_rfl) ML _ MC.out Tryd.underlying25 rfl MI.out ?_)
            | (with_reducible refine at_build 25 ?_; refine wpList_runG (by kernel_rfl) _ (built_run (T := 25) rfl mac_zero) ?_)
            | (with_reducible refine atC.at_bin .eql 25 ?_; refine wpList_runG (by kernel_rfl) _ (eq_run (T := 25) (s := 47) (x := 48) rfl (by kernel_rfl) (by kernel_rfl) (EQ.out _) guard12) ?_))
          go_ret
          exact ⟨ret_bool hv.out.symm, HB.out⟩
        subst zec
        cases xha
        · by_cases zki : xki = 0
          rotate_left
          · have qki : (xki == 0) = false := beq_eq_false_iff_ne.2 zki
            have hv := Lib.hid (show V = false by rw [HV.out]; simp [*])
            go_enter Tryd.func28, Tryd.ntmps28
            go_upto_region 1 with fail
            rw [← hW]
            clear hW
            go_wp2_with (first
              | go_skip
              | (with_reducible refine atC.at_load 25 46 ?_; refine pkC.wpList_load_partG (by kernel_rfl) 25 (.tmp 46) (by kernel_rfl) w.heap.size 12 (by kernel_rfl) ML _ MC.out Tryd.underlying25 rfl MI.out ?_)
              | (with_reducible refine at_build 25 ?_; refine wpList_runG (by kernel_rfl) _ (built_run (T := 25) rfl mac_zero) ?_)
              | (with_reducible refine atC.at_bin .eql 25 ?_; refine wpList_runG (by kernel_rfl) _ (eq_run (T := 25) (s := 47) (x := 48) rfl (by kernel_rfl) (by kernel_rfl) (EQ.out _) guard12) ?_))
            go_ret
            exact ⟨ret_bool hv.out.symm, HB.out⟩
          subst zki
          by_cases zni : xni = 0
          rotate_left
          · have qni : (xni == 0) = false := beq_eq_false_iff_ne.2 zni
            have hv := Lib.hid (show V = false by rw [HV.out]; simp [*])
            go_enter Tryd.func28, Tryd.ntmps28
            go_upto_region 1 with fail
            rw [← hW]
            clear hW
            go_wp2_with (first
              | go_skip
              | (with_reducible refine atC.at_load 25 46 ?_; refine pkC.wpList_load_partG (by kernel_rfl) 25 (.tmp 46) (by kernel_rfl) w.heap.size 12 (by kernel_rfl) ML _ MC.out Tryd.underlying25 rfl MI.out ?_)
              | (with_reducible refine at_build 25 ?_; refine wpList_runG (by kernel_rfl) _ (built_run (T := 25) rfl mac_zero) ?_)
              | (with_reducible refine atC.at_bin .eql 25 ?_; refine wpList_runG (by kernel_rfl) _ (eq_run (T := 25) (s := 47) (x := 48) rfl (by kernel_rfl) (by kernel_rfl) (EQ.out _) guard12) ?_))
            go_ret
            exact ⟨ret_bool hv.out.symm, HB.out⟩
          subst zni
          cases q
          · have hv := Lib.hid (show V = false by rw [HV.out]; simp [*])
            go_enter Tryd.func28, Tryd.ntmps28
            go_upto_region 1 with fail
            rw [← hW]
            clear hW
            go_wp2_with (first
              | go_skip
              | (with_reducible refine atC.at_load 25 46 ?_; refine pkC.wpList_load_partG (by kernel_rfl) 25 (.tmp 46) (by kernel_rfl) w.heap.size 12 (by kernel_rfl) ML _ MC.out Tryd.underlying25 rfl MI.out ?_)
              | (with_reducible refine at_build 25 ?_; refine wpList_runG (by kernel_rfl) _ (built_run (T := 25) rfl mac_zero) ?_)
              | (with_reducible refine atC.at_bin .eql 25 ?_; refine wpList_runG (by kernel_rfl) _ (eq_run (T := 25) (s := 47) (x := 48) rfl (by kernel_rfl) (by kernel_rfl) (EQ.out _) guard12) ?_))
            go_ret
            exact ⟨ret_bool hv.out.symm, HB.out⟩
          · skip
            have hv := Lib.hid (show V = true by rw [HV.out]; simp [*])
            go_enter Tryd.func28, Tryd.ntmps28
            go_upto_region 1 with fail
            rw [← hW]
            clear hW
            go_wp2_with (first
              | go_skip
              | (with_reducible refine atC.at_load 25 46 ?_; refine pkC.wpList_load_partG (by kernel_rfl) 25 (.tmp 46) (by kernel_rfl) w.heap.size 12 (by kernel_rfl) ML _ MC.out Tryd.underlying25 rfl MI.out ?_)
              | (with_reducible refine at_build 25 ?_; refine wpList_runG (by kernel_rfl) _ (built_run (T := 25) rfl mac_zero) ?_)
              | (with_reducible refine atC.at_bin .eql 25 ?_; refine wpList_runG (by kernel_rfl) _ (eq_run (T := 25) (s := 47) (x := 48) rfl (by kernel_rfl) (by kernel_rfl) (EQ.out _) guard12) ?_))
            go_ret
            exact ⟨ret_bool hv.out.symm, HB.out⟩
        · have hv := Lib.hid (show V = true by rw [HV.out]; simp [*])
          go_enter Tryd.func28, Tryd.ntmps28
          go_upto_region 1 with fail
          rw [← hW]
          clear hW
          go_wp2_with (first
            | go_skip
            | (with_reducible refine atC.at_load 25 46 ?_; refine pkC.wpList_load_partG (by kernel_rfl) 25 (.tmp 46) (by kernel_rfl) w.heap.size 12 (by kernel_rfl) ML _ MC.out Tryd.underlying25 rfl MI.out ?_)
            | (with_reducible refine at_build 25 ?_; refine wpList_runG (by kernel_rfl) _ (built_run (T := 25) rfl mac_zero) ?_)
            | (with_reducible refine atC.at_bin .eql 25 ?_; refine wpList_runG (by kernel_rfl) _ (eq_run (T := 25) (s := 47) (x := 48) rfl (by kernel_rfl) (by kernel_rfl) (EQ.out _) guard12) ?_))
          go_ret
          exact ⟨ret_bool hv.out.symm, HB.out⟩
      · cases xha
        · by_cases zki : xki = 0
          rotate_left
          · have qki : (xki == 0) = false := beq_eq_false_iff_ne.2 zki
            have hv := Lib.hid (show V = false by rw [HV.out]; simp [*])
            go_enter Tryd.func28, Tryd.ntmps28
            go_upto_region 1 with fail
            rw [← hW]
            clear hW
            go_wp2_with (first
              | go_skip
              | (with_reducible refine atC.at_load 25 46 ?_; refine pkC.wpList_load_partG (by kernel_rfl) 25 (.tmp 46) (by kernel_rfl) w.heap.size 12 (by kernel_rfl) ML _ MC.out Tryd.underlying25 rfl MI.out ?_)
              | (with_reducible refine at_build 25 ?_; refine wpList_runG (by kernel_rfl) _ (built_run (T := 25) rfl mac_zero) ?_)
              | (with_reducible refine atC.at_bin .eql 25 ?_; refine wpList_runG (by kernel_rfl) _ (eq_run (T := 25) (s := 47) (x := 48) rfl (by kernel_rfl) (by kernel_rfl) (EQ.out _) guard12) ?_))
            go_ret
            exact ⟨ret_bool hv.out.symm, HB.out⟩
          subst zki
          by_cases zni : xni = 0
          rotate_left
          · have qni : (xni == 0) = false := beq_eq_false_iff_ne.2 zni
            have hv := Lib.hid (show V = false by rw [HV.out]; simp [*])
            go_enter Tryd.func28, Tryd.ntmps28
            go_upto_region 1 with fail
            rw [← hW]
            clear hW
            go_wp2_with (first
              | go_skip
              | (with_reducible refine atC.at_load 25 46 ?_; refine pkC.wpList_load_partG (by kernel_rfl) 25 (.tmp 46) (by kernel_rfl) w.heap.size 12 (by kernel_rfl) ML _ MC.out Tryd.underlying25 rfl MI.out ?_)
              | (with_reducible refine at_build 25 ?_; refine wpList_runG (by kernel_rfl) _ (built_run (T := 25) rfl mac_zero) ?_)
              | (with_reducible refine atC.at_bin .eql 25 ?_; refine wpList_runG (by kernel_rfl) _ (eq_run (T := 25) (s := 47) (x := 48) rfl (by kernel_rfl) (by kernel_rfl) (EQ.out _) guard12) ?_))
            go_ret
            exact ⟨ret_bool hv.out.symm, HB.out⟩
          subst zni
          cases q
          · have hv := Lib.hid (show V = false by rw [HV.out]; simp [*])
            go_enter Tryd.func28, Tryd.ntmps28
            go_upto_region 1 with fail
            rw [← hW]
            clear hW
            go_wp2_with (first
              | go_skip
              | (with_reducible refine atC.at_load 25 46 ?_; refine pkC.wpList_load_partG (by kernel_rfl) 25 (.tmp 46) (by kernel_rfl) w.heap.size 12 (by kernel_rfl) ML _ MC.out Tryd.underlying25 rfl MI.out ?_)
              | (with_reducible refine at_build 25 ?_; refine wpList_runG (by kernel_rfl) _ (built_run (T := 25) rfl mac_zero) ?_)
              | (with_reducible refine atC.at_bin .eql 25 ?_; refine wpList_runG (by kernel_rfl) _ (eq_run (T := 25) (s := 47) (x := 48) rfl (by kernel_rfl) (by kernel_rfl) (EQ.out _) guard12) ?_))
            go_ret
            exact ⟨ret_bool hv.out.symm, HB.out⟩
          · skip
            have hv := Lib.hid (show V = true by rw [HV.out]; simp [*])
            go_enter Tryd.func28, Tryd.ntmps28
            go_upto_region 1 with fail
            rw [← hW]
            clear hW
            go_wp2_with (first
              | go_skip
              | (with_reducible refine atC.at_load 25 46 ?_; refine pkC.wpList_load_partG (by kernel_rfl) 25 (.tmp 46) (by kernel_rfl) w.heap.size 12 (by kernel_rfl) ML _ MC.out Tryd.underlying25 rfl MI.out ?_)
              | (with_reducible refine at_build 25 ?_; refine wpList_runG (by kernel_rfl) _ (built_run (T := 25) rfl mac_zero) ?_)
              | (with_reducible refine atC.at_bin .eql 25 ?_; refine wpList_runG (by kernel_rfl) _ (eq_run (T := 25) (s := 47) (x := 48) rfl (by kernel_rfl) (by kernel_rfl) (EQ.out _) guard12) ?_))
            go_ret
            exact ⟨ret_bool hv.out.symm, HB.out⟩
        · have hv := Lib.hid (show V = true by rw [HV.out]; simp [*])
          go_enter Tryd.func28, Tryd.ntmps28
          go_upto_region 1 with fail
          rw [← hW]
          clear hW
          go_wp2_with (first
            | go_skip
            | (with_reducible refine atC.at_load 25 46 ?_; refine pkC.wpList_load_partG (by kernel_rfl) 25 (.tmp 46) (by kernel_rfl) w.heap.size 12 (by kernel_rfl) ML _ MC.out Tryd.underlying25 rfl MI.out ?_)
            | (with_reducible refine at_build 25 ?_; refine wpList_runG (by kernel_rfl) _ (built_run (T := 25) rfl mac_zero) ?_)
            | (with_reducible refine atC.at_bin .eql 25 ?_; refine wpList_runG (by kernel_rfl) _ (eq_run (T := 25) (s := 47) (x := 48) rfl (by kernel_rfl) (by kernel_rfl) (EQ.out _) guard12) ?_))
          go_ret
          exact ⟨ret_bool hv.out.symm, HB.out⟩
    · cases xht
      · by_cases zva : xva = 0
        rotate_left
        · have qva : (xva == 0) = false := beq_eq_false_iff_ne.2 zva
          have hv := Lib.hid (show V = false by rw [HV.out]; simp [*])
          go_enter Tryd.func28, Tryd.ntmps28
          go_upto_region 1 with fail
          rw [← hW]
          clear hW
          go_wp2_with (first
            | go_skip
            | (with_reducible refine atC.at_load 25 46 ?_; refine pkC.wpList_load_partG (by kernel_rfl) 25 (.tmp 46) (by kernel_rfl) w.heap.size 12 (by kernel_rfl) ML _ MC.out Tryd.underlying25 rfl MI.out ?_)
            | (with_reducible refine at_build 25 ?_; refine wpList_runG (by kernel_rfl) _ (built_run (T := 25) rfl mac_zero) ?_)
            | (with_reducible refine atC.at_bin .eql 25 ?_; refine wpList_runG (by kernel_rfl) _ (eq_run (T := 25) (s := 47) (x := 48) rfl (by kernel_rfl) (by kernel_rfl) (EQ.out _) guard12) ?_))
          go_ret
          exact ⟨ret_bool hv.out.symm, HB.out⟩
        subst zva
        by_cases zec : xec = 0
        rotate_left
        · have qec : (xec == 0) = false := beq_eq_false_iff_ne.2 zec
          have hv := Lib.hid (show V = false by rw [HV.out]; simp [*])
          go_enter Tryd.func28, Tryd.ntmps28
          go_upto_region 1 with fail
          rw [← hW]
          clear hW
          go_wp2_with (first
            | go_skip
            | (with_reducible refine atC.at_load 25 46 ?_; refine pkC.wpList_load_partG (by kernel_rfl) 25 (.tmp 46) (by kernel_rfl) w.heap.size 12 (by kernel_rfl) ML _ MC.out Tryd.underlying25 rfl MI.out ?_)
            | (with_reducible refine at_build 25 ?_; refine wpList_runG (by kernel_rfl) _ (built_run (T := 25) rfl mac_zero) ?_)
            | (with_reducible refine atC.at_bin .eql 25 ?_; refine wpList_runG (by kernel_rfl) _ (eq_run (T := 25) (s := 47) (x := 48) rfl (by kernel_rfl) (by kernel_rfl) (EQ.out _) guard12) ?_))
          go_ret
          exact ⟨ret_bool hv.out.symm, HB.out⟩
        subst zec
        cases xha
        · by_cases zki : xki = 0
          rotate_left
          · have qki : (xki == 0) = false := beq_eq_false_iff_ne.2 zki
            have hv := Lib.hid (show V = false by rw [HV.out]; simp [*])
            go_enter Tryd.func28, Tryd.ntmps28
            go_upto_region 1 with fail
            rw [← hW]
            clear hW
            go_wp2_with (first
              | go_skip
              | (with_reducible refine atC.at_load 25 46 ?_; refine pkC.wpList_load_partG (by kernel_rfl) 25 (.tmp 46) (by kernel_rfl) w.heap.size 12 (by kernel_rfl) ML _ MC.out Tryd.underlying25 rfl MI.out ?_)
              | (with_reducible refine at_build 25 ?_; refine wpList_runG (by kernel_rfl) _ (built_run (T := 25) rfl mac_zero) ?_)
              | (with_reducible refine atC.at_bin .eql 25 ?_; refine wpList_runG (by kernel_rfl) _ (eq_run (T := 25) (s := 47) (x := 48) rfl (by kernel_rfl) (by kernel_rfl) (EQ.out _) guard12) ?_))
            go_ret
            exact ⟨ret_bool hv.out.symm, HB.out⟩
          subst zki
          by_cases zni : xni = 0
          rotate_left
          · have qni : (xni == 0) = false := beq_eq_false_iff_ne.2 zni
            have hv := Lib.hid (show V = false by rw [HV.out]; simp [*])
            go_enter Tryd.func28, Tryd.ntmps28
            go_upto_region 1 with fail
            rw [← hW]
            clear hW
            go_wp2_with (first
              | go_skip
              | (with_reducible refine atC.at_load 25 46 ?_; refine pkC.wpList_load_partG (by kernel_rfl) 25 (.tmp 46) (by kernel_rfl) w.heap.size 12 (by kernel_rfl) ML _ MC.out Tryd.underlying25 rfl MI.out ?_)
              | (with_reducible refine at_build 25 ?_; refine wpList_runG (by kernel_rfl) _ (built_run (T := 25) rfl mac_zero) ?_)
              | (with_reducible refine atC.at_bin .eql 25 ?_; refine wpList_runG (by kernel_rfl) _ (eq_run (T := 25) (s := 47) (x := 48) rfl (by kernel_rfl) (by kernel_rfl) (EQ.out _) guard12) ?_))
            go_ret
            exact ⟨ret_bool hv.out.symm, HB.out⟩
          subst zni
          cases q
          · have hv := Lib.hid (show V = false by rw [HV.out]; simp [*])
            go_enter Tryd.func28, Tryd.ntmps28
            go_upto_region 1 with fail
            rw [← hW]
            clear hW
            go_wp2_with (first
              | go_skip
              | (with_reducible refine atC.at_load 25 46 ?_; refine pkC.wpList_load_partG (by kernel_rfl) 25 (.tmp 46) (by kernel_rfl) w.heap.size 12 (by kernel_rfl) ML _ MC.out Tryd.underlying25 rfl MI.out ?_)
              | (with_reducible refine at_build 25 ?_; refine wpList_runG (by kernel_rfl) _ (built_run (T := 25) rfl mac_zero) ?_)
              | (with_reducible refine atC.at_bin .eql 25 ?_; refine wpList_runG (by kernel_rfl) _ (eq_run (T := 25) (s := 47) (x := 48) rfl (by kernel_rfl) (by kernel_rfl) (EQ.out _) guard12) ?_))
            go_ret
            exact ⟨ret_bool hv.out.symm, HB.out⟩
          · skip
            have hv := Lib.hid (show V = true by rw [HV.out]; simp [*])
            go_enter Tryd.func28, Tryd.ntmps28
            go_upto_region 1 with fail
            rw [← hW]
            clear hW
            go_wp2_with (first
              | go_skip
              | (with_reducible refine atC.at_load 25 46 ?_; refine pkC.wpList_load_partG (by kernel_rfl) 25 (.tmp 46) (by kernel_rfl) w.heap.size 12 (by kernel_rfl) ML _ MC.out Tryd.underlying25 rfl MI.out ?_)
              | (with_reducible refine at_build 25 ?_; refine wpList_runG (by kernel_rfl) _ (built_run (T := 25) rfl mac_zero) ?_)
              | (with_reducible refine atC.at_bin .eql 25 ?_; refine wpList_runG (by kernel_rfl) _ (eq_run (T := 25) (s := 47) (x := 48) rfl (by kernel_rfl) (by kernel_rfl) (EQ.out _) guard12) ?_))
            go_ret
            exact ⟨ret_bool hv.out.symm, HB.out⟩
        · have hv := Lib.hid (show V = true by rw [HV.out]; simp [*])
          go_enter Tryd.func28, Tryd.ntmps28
          go_upto_region 1 with fail
          rw [← hW]
          clear hW
          go_wp2_with (first
            | go_skip
            | (with_reducible refine atC.at_load 25 46 ?_; refine pkC.wpList_load_partG (by kernel_rfl) 25 (.tmp 46) (by kernel_rfl) w.heap.size 12 (by kernel_rfl) ML _ MC.out Tryd.underlying25 rfl MI.out ?_)
            | (with_reducible refine at_build 25 ?_; refine wpList_runG (by kernel_rfl) _ (built_run (T := 25) rfl mac_zero) ?_)
            | (with_reducible refine atC.at_bin .eql 25 ?_; refine wpList_runG (by kernel_rfl) _ (eq_run (T := 25) (s := 47) (x := 48) rfl (by kernel_rfl) (by kernel_rfl) (EQ.out _) guard12) ?_))
          go_ret
          exact ⟨ret_bool hv.out.symm, HB.out⟩
      · cases xha
        · by_cases zki : xki = 0
          rotate_left
          · have qki : (xki == 0) = false := beq_eq_false_iff_ne.2 zki
            have hv := Lib.hid (show V = false by rw [HV.out]; simp [*])
            go_enter Tryd.func28, Tryd.ntmps28
            go_upto_region 1 with fail
            rw [← hW]
            clear hW
            go_wp2_with (first
              | go_skip
              | (with_reducible refine atC.at_load 25 46 ?_; refine pkC.wpList_load_partG (by kernel_rfl) 25 (.tmp 46) (by kernel_rfl) w.heap.size 12 (by kernel_rfl) ML _ MC.out Tryd.underlying25 rfl MI.out ?_)
              | (with_reducible refine at_build 25 ?_; refine wpList_runG (by kernel_rfl) _ (built_run (T := 25) rfl mac_zero) ?_)
              | (with_reducible refine atC.at_bin .eql 25 ?_; refine wpList_runG (by kernel_rfl) _ (eq_run (T := 25) (s := 47) (x := 48) rfl (by kernel_rfl) (by kernel_rfl) (EQ.out _) guard12) ?_))
            go_ret
            exact ⟨ret_bool hv.out.symm, HB.out⟩
          subst zki
          by_cases zni : xni = 0
          rotate_left
          · have qni : (xni == 0) = false := beq_eq_false_iff_ne.2 zni
            have hv := Lib.hid (show V = false by rw [HV.out]; simp [*])
            go_enter Tryd.func28, Tryd.ntmps28
            go_upto_region 1 with fail
            rw [← hW]
            clear hW
            go_wp2_with (first
              | go_skip
              | (with_reducible refine atC.at_load 25 46 ?_; refine pkC.wpList_load_partG (by kernel_rfl) 25 (.tmp 46) (by kernel_rfl) w.heap.size 12 (by kernel_rfl) ML _ MC.out Tryd.underlying25 rfl MI.out ?_)
              | (with_reducible refine at_build 25 ?_; refine wpList_runG (by kernel_rfl) _ (built_run (T := 25) rfl mac_zero) ?_)
              | (with_reducible refine atC.at_bin .eql 25 ?_; refine wpList_runG (by kernel_rfl) _ (eq_run (T := 25) (s := 47) (x := 48) rfl (by kernel_rfl) (by kernel_rfl) (EQ.out _) guard12) ?_))
            go_ret
            exact ⟨ret_bool hv.out.symm, HB.out⟩
          subst zni
          cases q
          · have hv := Lib.hid (show V = false by rw [HV.out]; simp [*])
            go_enter Tryd.func28, Tryd.ntmps28
            go_upto_region 1 with fail
            rw [← hW]
            clear hW
            go_wp2_with (first
              | go_skip
              | (with_reducible refine atC.at_load 25 46 ?_; refine pkC.wpList_load_partG (by kernel_rfl) 25 (.tmp 46) (by kernel_rfl) w.heap.size 12 (by kernel_rfl) ML _ MC.out Tryd.underlying25 rfl MI.out ?_)
              | (with_reducible refine at_build 25 ?_; refine wpList_runG (by kernel_rfl) _ (built_run (T := 25) rfl mac_zero) ?_)
              | (with_reducible refine atC.at_bin .eql 25 ?_; refine wpList_runG (by kernel_rfl) _ (eq_run (T := 25) (s := 47) (x := 48) rfl (by kernel_rfl) (by kernel_rfl) (EQ.out _) guard12) ?_))
            go_ret
            exact ⟨ret_bool hv.out.symm, HB.out⟩
          · skip
            have hv := Lib.hid (show V = true by rw [HV.out]; simp [*])
            go_enter Tryd.func28, Tryd.ntmps28
            go_upto_region 1 with fail
            rw [← hW]
            clear hW
            go_wp2_with (first
              | go_skip
              | (with_reducible refine atC.at_load 25 46 ?_; refine pkC.wpList_load_partG (by kernel_rfl) 25 (.tmp 46) (by kernel_rfl) w.heap.size 12 (by kernel_rfl) ML _ MC.out Tryd.underlying25 rfl MI.out ?_)
              | (with_reducible refine at_build 25 ?_; refine wpList_runG (by kernel_rfl) _ (built_run (T := 25) rfl mac_zero) ?_)
              | (with_reducible refine atC.at_bin .eql 25 ?_; refine wpList_runG (by kernel_rfl) _ (eq_run (T := 25) (s := 47) (x := 48) rfl (by kernel_rfl) (by kernel_rfl) (EQ.out _) guard12) ?_))
            go_ret
            exact ⟨ret_bool hv.out.symm, HB.out⟩
        · have hv := Lib.hid (show V = true by rw [HV.out]; simp [*])
          go_enter Tryd.func28, Tryd.ntmps28
          go_upto_region 1 with fail
          rw [← hW]
          clear hW
          go_wp2_with (first
            | go_skip
            | (with_reducible refine atC.at_load 25 46 ?_; refine pkC.wpList_load_partG (by kernel_rfl) 25 (.tmp 46) (by kernel_rfl) w.heap.size 12 (by kernel_rfl) ML _ MC.out Tryd.underlying25 rfl MI.out ?_)
            | (with_reducible refine at_build 25 ?_; refine wpList_runG (by kernel_rfl) _ (built_run (T := 25) rfl mac_zero) ?_)
            | (with_reducible refine atC.at_bin .eql 25 ?_; refine wpList_runG (by kernel_rfl) _ (eq_run (T := 25) (s := 47) (x := 48) rfl (by kernel_rfl) (by kernel_rfl) (EQ.out _) guard12) ?_))
          go_ret
          exact ⟨ret_bool hv.out.symm, HB.out⟩
end Go.Proofs.YtapcjgmijcpfiaaDoor.opC

/-
  Whether options may be: the program's.
-/
namespace Go.Proofs.YtapcjgmijcpfiaaDoor.opC
open Go.ChangeShapes Go.WideShapes Go.ChangeAt Go.RowKit
open Go.Proofs.YtapcjgmijcpfiaaDoor.memC Go.Proofs.YtapcjgmijcpfiaaDoor.genC Go.Proofs.YtapcjgmijcpfiaaDoor.butC Go.Proofs.YtapcjgmijcpfiaaDoor.freeC Go.Proofs.YtapcjgmijcpfiaaDoor.adC
set_option linter.unusedVariables false
set_option maxRecDepth 100000 in
set_option maxHeartbeats 2000000 in
theorem cmay_any (o : Opt) (A : Option Addr) (n c : Nat) (w : World) (hk : Kd w) (hl : o.mac.length = 12) (hn : o.sk.length = n) (hm : n ≤ 100000) :
    Calls Tryd.prog 14 #[.agg (optV o A n c)] w (Ret w (.bool (mayB o))) := by
  have TE := Lib.hid (fun w' => tells_any o A n c w' hl)
  have SZ := Lib.hid (fun w' (h : Kd w') => csize_any o A n c w' h hl hn hm)
  obtain ⟨C, hC⟩ : ∃ C, C = optV o A n c := ⟨_, rfl⟩
  have OC : OptC C o A n c := by rw [hC]; exact optC hl A n c
  rw [← hC] at TE SZ ⊢
  clear hC
  obtain ⟨W, hW⟩ : ∃ W, W = w.alloc (.cells C 27) := ⟨_, rfl⟩
  have R := Lib.hid (show W.heap[w.heap.size]? = some (.cells C 27 (0, 0)) by rw [hW]; exact heap_alloc_new _ _)
  have HB := Lib.hid (show Below w.heap.size w W by rw [hW]; exact alloc_below _ _)
  have HK := Lib.hid (hk.bel HB.out)
  have IC := Lib.hid OC.info
  have C3 := Lib.hid OC.sc
  have C5 := Lib.hid OC.sk
  obtain ⟨V, hV⟩ : ∃ V, V = mayB o := ⟨_, rfl⟩
  rw [← hV]
  unfold mayB at hV
  rw [hn] at hV
  generalize keptB o = b0 at *
  generalize o.sc = sc at *
  generalize sizeN o = sz at *
  have HV := Lib.hid hV
  have HM := Lib.hid hm
  clear OC hl hV hn hk hm
  cases b0
  · have hv := Lib.hid (show V = false by rw [HV.out]; simp [*])
    go_enter Tryd.func14, Tryd.ntmps14
    go_upto_region 1 with fail
    rw [← hW]
    clear hW
    go_wp2_with (first
      | go_skip
      | (with_reducible refine atC.at_load 27 1 ?_; refine wpList_load_rowG (by kernel_rfl) 27 (.tmp 1) rfl w.heap.size (by kernel_rfl) _ _ _ _ (by first | exact R2.out | exact R.out) Tryd.underlying27 rfl IC.out ?_)
      | (go_at_call 28; (refine (TE.out _).mono ?_); rintro e w2 ⟨rfl, B2⟩
         have R2 := Lib.hid (show w2.heap[w.heap.size]? = some (.cells C 27 (0, 0)) by rw [B2.block _ (lt_of_row R.out)]; exact R.out)
         have HB2 := Lib.hid (HB.out.trans (B2.mono HB.out.size))
         have K2 := Lib.hid (HK.out.bel B2)
         have c3 := pkC.PkC.cell R2.out C3.out
         have c5 := pkC.PkC.cell R2.out C5.out
         clear B2)
      | (go_at_call 12; (refine (SZ.out _ K2.out).mono ?_); rintro e w3 ⟨rfl, B3⟩
         have HB3 := Lib.hid (HB2.out.trans (B3.mono HB2.out.size))
         clear B3))
    go_ret
    exact ⟨ret_bool hv.out.symm, HB2.out⟩
  by_cases h1 : sc ≤ 14
  rotate_left
  · have d1 : decide (sc ≤ 14) = false := decide_eq_false h1
    have hv := Lib.hid (show V = false by rw [HV.out]; simp [*])
    go_enter Tryd.func14, Tryd.ntmps14
    go_upto_region 1 with fail
    rw [← hW]
    clear hW
    go_wp2_with (first
      | go_skip
      | (with_reducible refine atC.at_load 27 1 ?_; refine wpList_load_rowG (by kernel_rfl) 27 (.tmp 1) rfl w.heap.size (by kernel_rfl) _ _ _ _ (by first | exact R2.out | exact R.out) Tryd.underlying27 rfl IC.out ?_)
      | (go_at_call 28; (refine (TE.out _).mono ?_); rintro e w2 ⟨rfl, B2⟩
         have R2 := Lib.hid (show w2.heap[w.heap.size]? = some (.cells C 27 (0, 0)) by rw [B2.block _ (lt_of_row R.out)]; exact R.out)
         have HB2 := Lib.hid (HB.out.trans (B2.mono HB.out.size))
         have K2 := Lib.hid (HK.out.bel B2)
         have c3 := pkC.PkC.cell R2.out C3.out
         have c5 := pkC.PkC.cell R2.out C5.out
         clear B2)
      | (go_at_call 12; (refine (SZ.out _ K2.out).mono ?_); rintro e w3 ⟨rfl, B3⟩
         have HB3 := Lib.hid (HB2.out.trans (B3.mono HB2.out.size))
         clear B3))
    go_ret
    exact ⟨ret_bool hv.out.symm, HB2.out⟩
  by_cases h2 : n ≤ 4
  rotate_left
  · have q2 : ¬ (n : Int) ≤ 4 := by omega
    have d2 : decide ((n : Int) ≤ 4) = false := decide_eq_false q2
    have hv := Lib.hid (show V = false by rw [HV.out]; simp [*])
    go_enter Tryd.func14, Tryd.ntmps14
    go_upto_region 1 with fail
    rw [← hW]
    clear hW
    go_wp2_with (first
      | go_skip
      | (with_reducible refine atC.at_load 27 1 ?_; refine wpList_load_rowG (by kernel_rfl) 27 (.tmp 1) rfl w.heap.size (by kernel_rfl) _ _ _ _ (by first | exact R2.out | exact R.out) Tryd.underlying27 rfl IC.out ?_)
      | (go_at_call 28; (refine (TE.out _).mono ?_); rintro e w2 ⟨rfl, B2⟩
         have R2 := Lib.hid (show w2.heap[w.heap.size]? = some (.cells C 27 (0, 0)) by rw [B2.block _ (lt_of_row R.out)]; exact R.out)
         have HB2 := Lib.hid (HB.out.trans (B2.mono HB.out.size))
         have K2 := Lib.hid (HK.out.bel B2)
         have c3 := pkC.PkC.cell R2.out C3.out
         have c5 := pkC.PkC.cell R2.out C5.out
         clear B2)
      | (go_at_call 12; (refine (SZ.out _ K2.out).mono ?_); rintro e w3 ⟨rfl, B3⟩
         have HB3 := Lib.hid (HB2.out.trans (B3.mono HB2.out.size))
         clear B3))
    go_ret
    exact ⟨ret_bool hv.out.symm, HB2.out⟩
  have q2 : (n : Int) ≤ 4 := by omega
  by_cases h3 : sz ≤ 40
  · have q3 : (sz : Int) ≤ 40 := by omega
    have hv := Lib.hid (show V = true by rw [HV.out]; simp [*])
    go_enter Tryd.func14, Tryd.ntmps14
    go_upto_region 1 with fail
    rw [← hW]
    clear hW
    go_wp2_with (first
      | go_skip
      | (with_reducible refine atC.at_load 27 1 ?_; refine wpList_load_rowG (by kernel_rfl) 27 (.tmp 1) rfl w.heap.size (by kernel_rfl) _ _ _ _ (by first | exact R2.out | exact R.out) Tryd.underlying27 rfl IC.out ?_)
      | (go_at_call 28; (refine (TE.out _).mono ?_); rintro e w2 ⟨rfl, B2⟩
         have R2 := Lib.hid (show w2.heap[w.heap.size]? = some (.cells C 27 (0, 0)) by rw [B2.block _ (lt_of_row R.out)]; exact R.out)
         have HB2 := Lib.hid (HB.out.trans (B2.mono HB.out.size))
         have K2 := Lib.hid (HK.out.bel B2)
         have c3 := pkC.PkC.cell R2.out C3.out
         have c5 := pkC.PkC.cell R2.out C5.out
         clear B2)
      | (go_at_call 12; (refine (SZ.out _ K2.out).mono ?_); rintro e w3 ⟨rfl, B3⟩
         have HB3 := Lib.hid (HB2.out.trans (B3.mono HB2.out.size))
         clear B3))
    go_ret
    exact ⟨ret_bool hv.out.symm, HB3.out⟩
  · have q3 : ¬ (sz : Int) ≤ 40 := by omega
    have d3 : decide ((sz : Int) ≤ 40) = false := decide_eq_false q3
    have hv := Lib.hid (show V = false by rw [HV.out]; simp [*])
    go_enter Tryd.func14, Tryd.ntmps14
    go_upto_region 1 with fail
    rw [← hW]
    clear hW
    go_wp2_with (first
      | go_skip
      | (with_reducible refine atC.at_load 27 1 ?_; refine wpList_load_rowG (by kernel_rfl) 27 (.tmp 1) rfl w.heap.size (by kernel_rfl) _ _ _ _ (by first | exact R2.out | exact R.out) Tryd.underlying27 rfl IC.out ?_)
      | (go_at_call 28; (refine (TE.out _).mono ?_); rintro e w2 ⟨rfl, B2⟩
         have R2 := Lib.hid (show w2.heap[w.heap.size]? = some (.cells C 27 (0, 0)) by rw [B2.block _ (lt_of_row R.out)]; exact R.out)
         have HB2 := Lib.hid (HB.out.trans (B2.mono HB.out.size))
         have K2 := Lib.hid (HK.out.bel B2)
         have c3 := pkC.PkC.cell R2.out C3.out
         have c5 := pkC.PkC.cell R2.out C5.out
         clear B2)
      | (go_at_call 12; (refine (SZ.out _ K2.out).mono ?_); rintro e w3 ⟨rfl, B3⟩
         have HB3 := Lib.hid (HB2.out.trans (B3.mono HB2.out.size))
         clear B3))
    go_ret
    exact ⟨ret_bool hv.out.symm, HB3.out⟩
end Go.Proofs.YtapcjgmijcpfiaaDoor.opC

/-
  Rows of slices of bytes: parts, that came in or that the call lays.
-/
namespace Go.Proofs.YtapcjgmijcpfiaaDoor.partsC
open Go.ChangeShapes Go.WideShapes Go.ChangeAt Go.RowKit
open Go.Proofs.YtapcjgmijcpfiaaDoor.memC Go.Proofs.YtapcjgmijcpfiaaDoor.genC Go.Proofs.YtapcjgmijcpfiaaDoor.butC
set_option linter.unusedVariables false
/-- a part: a slice, and what it holds -/
structure Part where
  A : Option Addr
  n : Nat
  c : Nat
  bs : List Int
/-- a part that lies in memory below B -/
structure PartAt (w : World) (B : Nat) (p : Part) : Prop where
  nums : Nums .u8 w B p.A p.n p.bs
  few : p.n ≤ 10000
  byte : ∀ x ∈ p.bs, Byte x
  cap : p.n ≤ p.c
  max : p.c ≤ 9223372036854775807
theorem PartAt.heap {w w' : World} {B : Nat} {p : Part} (h : PartAt w B p) (e : w'.heap = w.heap) : PartAt w' B p := ⟨h.nums.heap e, h.few, h.byte, h.cap, h.max⟩
theorem PartAt.below {w w' : World} {B B' : Nat} {p : Part} (h : PartAt w B p) (hb : Below B w w') (hB : B ≤ B') : PartAt w' B' p := ⟨(h.nums.below hb).more hB, h.few, h.byte, h.cap, h.max⟩
/-- parts that lie in a row -/
structure Parts (w : World) (B : Nat) (P : Option Addr) (ps : List Part) : Prop where
  at_ : 0 < ps.length → ∃ b o, P = some ⟨b, o, none⟩ ∧ b < B ∧ ∀ i (h : i < ps.length), w.cell? ⟨b, o + i, none⟩ = some (.slice ps[i].A ps[i].n ps[i].c)
  all : ∀ p ∈ ps, PartAt w B p
theorem Parts.cell {w : World} {B : Nat} {P : Option Addr} {ps : List Part} (h : Parts w B P ps) {i : Nat} (hi : i < ps.length) :
    ∃ b o, P = some ⟨b, o, none⟩ ∧ b < B ∧ w.cell? ⟨b, o + i, none⟩ = some (.slice ps[i].A ps[i].n ps[i].c) ∧ PartAt w B ps[i] := by
  obtain ⟨b, o, e, hb, hc⟩ := h.at_ (by omega)
  exact ⟨b, o, e, hb, hc i hi, h.all _ (List.getElem_mem _)⟩
theorem Parts.below {w w' : World} {B B' : Nat} {P : Option Addr} {ps : List Part} (h : Parts w B P ps) (hb : Below B w w') (hB : B ≤ B') : Parts w' B' P ps :=
  ⟨fun hl => by
    obtain ⟨b, o, e1, hbb, hc⟩ := h.at_ hl
    exact ⟨b, o, e1, by omega, fun i hi => (hb.cell (p := ⟨b, o + i, none⟩) hbb).trans (hc i hi)⟩, fun p hp => (h.all p hp).below hb hB⟩
theorem Parts.heap {w w' : World} {B : Nat} {P : Option Addr} {ps : List Part} (h : Parts w B P ps) (e : w'.heap = w.heap) : Parts w' B P ps :=
  ⟨fun hl => by
    obtain ⟨b, o, e1, hb, hc⟩ := h.at_ hl
    exact ⟨b, o, e1, hb, fun i hi => (World.cell?_of_block (w := w) (w' := w') (by rw [e])).trans (hc i hi)⟩, fun p hp => (h.all p hp).heap e⟩
/-- how many bytes they have -/
def nsum : List Part → Nat
  | [] => 0
  | p :: r => p.n + nsum r
theorem nsum_append : ∀ (a b : List Part), nsum (a ++ b) = nsum a + nsum b
  | [], b => by simp [nsum]
  | p :: r, b => by rw [List.cons_append, nsum, nsum, nsum_append r b]; omega
theorem nsum_snoc (ps : List Part) (k : Nat) (h : k < ps.length) : nsum (ps.take (k + 1)) = nsum (ps.take k) + ps[k].n := by
  rw [List.take_succ_eq_append_getElem h, nsum_append]; simp [nsum]
theorem nsum_take (ps : List Part) (k : Nat) : nsum (ps.take k) ≤ nsum ps := by
  have h := nsum_append (ps.take k) (ps.drop k)
  rw [List.take_append_drop] at h
  omega
/-- all their bytes -/
def catL (ps : List Part) : List Int := ps.flatMap Part.bs
theorem catL_snoc (ps : List Part) (k : Nat) (h : k < ps.length) : catL (ps.take (k + 1)) = catL (ps.take k) ++ ps[k].bs := by
  rw [List.take_succ_eq_append_getElem h, catL, List.flatMap_append]; simp [catL]
theorem catL_len {w : World} {B : Nat} : ∀ (ps : List Part), (∀ p ∈ ps, PartAt w B p) → (catL ps).length = nsum ps
  | [], _ => rfl
  | p :: r, h => by
    have h1 := (h p (by simp)).nums.len
    have h2 := catL_len r fun q hq => h q (by simp [hq])
    show (p.bs ++ catL r).length = _
    rw [List.length_append, h1, h2]; rfl
theorem catL_byte {w : World} {B : Nat} {ps : List Part} (h : ∀ p ∈ ps, PartAt w B p) : ∀ x ∈ catL ps, Byte x := by
  intro x hx
  obtain ⟨p, hp, hx2⟩ := List.mem_flatMap.1 hx
  exact (h p hp).byte x hx2
theorem PartAt.alloc {w : World} {p : Part} (h : PartAt w w.heap.size p) (o : Obj) : PartAt (w.alloc o) (w.alloc o).heap.size p := h.below (alloc_below w o) (alloc_below w o).size
theorem parts1 {w : World} {A : Option Addr} {n c : Nat} {bs : List Int} (h : PartAt w w.heap.size ⟨A, n, c, bs⟩) (T : TypeId) :
    Parts (w.alloc (.cells #[.slice A n c] T)) (w.alloc (.cells #[.slice A n c] T)).heap.size (some ⟨w.heap.size, 0, none⟩) [⟨A, n, c, bs⟩] := by
  refine ⟨fun _ => ⟨_, 0, rfl, by rw [alloc_size]; exact Nat.lt_succ_self _, fun i hi => ?_⟩, fun p hp => ?_⟩
  · obtain rfl : i = 0 := by simpa using hi
    simp [go_sem]
  · obtain rfl := List.mem_singleton.1 hp
    exact h.alloc _
theorem parts2 {w : World} {A A' : Option Addr} {n c n' c' : Nat} {bs bs' : List Int} (h : PartAt w w.heap.size ⟨A, n, c, bs⟩) (h' : PartAt w w.heap.size ⟨A', n', c', bs'⟩) (T : TypeId) :
    Parts (w.alloc (.cells #[.slice A n c, .slice A' n' c'] T)) (w.alloc (.cells #[.slice A n c, .slice A' n' c'] T)).heap.size (some ⟨w.heap.size, 0, none⟩) [⟨A, n, c, bs⟩, ⟨A', n', c', bs'⟩] := by
  refine ⟨fun _ => ⟨_, 0, rfl, by rw [alloc_size]; exact Nat.lt_succ_self _, fun i hi => ?_⟩, fun p hp => ?_⟩
  · simp only [List.length_cons, List.length_nil] at hi
    match i, hi with
    | 0, _ => simp [go_sem]
    | 1, _ => simp [go_sem]
  · rcases List.mem_cons.1 hp with rfl | hp
    · exact h.alloc _
    · obtain rfl := List.mem_singleton.1 hp
      exact h'.alloc _
theorem parts3 {w : World} {A A' A2 : Option Addr} {n c n' c' n2 c2 : Nat} {bs bs' bs2 : List Int} (h : PartAt w w.heap.size ⟨A, n, c, bs⟩) (h' : PartAt w w.heap.size ⟨A', n', c', bs'⟩) (h2 : PartAt w w.heap.size ⟨A2, n2, c2, bs2⟩) (T : TypeId) :
    Parts (w.alloc (.cells #[.slice A n c, .slice A' n' c', .slice A2 n2 c2] T)) (w.alloc (.cells #[.slice A n c, .slice A' n' c', .slice A2 n2 c2] T)).heap.size (some ⟨w.heap.size, 0, none⟩) [⟨A, n, c, bs⟩, ⟨A', n', c', bs'⟩, ⟨A2, n2, c2, bs2⟩] := by
  refine ⟨fun _ => ⟨_, 0, rfl, by rw [alloc_size]; exact Nat.lt_succ_self _, fun i hi => ?_⟩, fun p hp => ?_⟩
  · simp only [List.length_cons, List.length_nil] at hi
    match i, hi with
    | 0, _ => simp [go_sem]
    | 1, _ => simp [go_sem]
    | 2, _ => simp [go_sem]
  · rcases List.mem_cons.1 hp with rfl | hp
    · exact h.alloc _
    · rcases List.mem_cons.1 hp with rfl | hp
      · exact h'.alloc _
      · obtain rfl := List.mem_singleton.1 hp
        exact h2.alloc _
/-- parts that came in, of any length -/
structure Came (w : World) (B : Nat) (P : Option Addr) (ps : List Part) : Prop where
  at_ : 0 < ps.length → ∃ b o, P = some ⟨b, o, none⟩ ∧ b < B ∧ ∀ i (h : i < ps.length), w.cell? ⟨b, o + i, none⟩ = some (.slice ps[i].A ps[i].n ps[i].c)
  nums : ∀ p ∈ ps, Nums .u8 w B p.A p.n p.bs
  byte : ∀ p ∈ ps, ∀ x ∈ p.bs, Byte x
  size : ∀ p ∈ ps, p.n ≤ p.c ∧ p.c ≤ 9223372036854775807
theorem Came.parts {w : World} {B : Nat} {P : Option Addr} {ps : List Part} (h : Came w B P ps) {N : Nat} (hN : N ≤ 10000) (hf : ∀ i (hi : i < ps.length), ps[i].n ≤ N) : Parts w B P ps :=
  ⟨h.at_, fun p hp => by
    obtain ⟨i, hi, rfl⟩ := List.getElem_of_mem hp
    exact ⟨h.nums _ hp, by have := hf i hi; omega, h.byte _ hp, (h.size _ hp).1, (h.size _ hp).2⟩⟩
def FewR (N : Nat) (ps : List Part) (k : Nat) : Prop := ∀ i (hi : i < ps.length), i < k → ps[i].n ≤ N
/-- slices of bytes that came in -/
theorem open_parts {H : Type} {enc : TypeId × Value → H} {P : Program} {w : World} {base : Nat} {held : Bool} {r : Reach} {b0 : Nat} {t e q : TypeId} {v : Value} {d : DataW H} {pl : List MemPlace}
    (ht : P.underlying t = some (.slice e)) (he : P.underlying e = some (.slice q)) (hq : P.underlying q = some (.int .u8)) (ce : P.cellsOf e = 1) (cq : P.cellsOf q = 1) (hval : Value.okWide P w r b0 t v) (hd : DataW.Trod enc P w base (fun _ => true) held t v d pl) :
    ∃ A m c ps, v = .slice A m c ∧ m ≤ 9223372036854775807 ∧ ps.length = m ∧ Came w w.heap.size A ps := by
  obtain ⟨a, len, cap, rfl⟩ := okWide_slice ht hval
  obtain ⟨fuel, hf⟩ := hd
  rcases Go.Deep.open_int_rows ht he hq ce cq hf with ⟨hcs, _⟩ | ⟨x, l, c, A, L, C, Z, hcs, _, hl, hm, _, hr⟩
  · simp [Value.cells] at hcs
    obtain ⟨rfl, rfl, rfl⟩ := hcs
    exact ⟨none, 0, 0, [], rfl, Nat.zero_le _, rfl, ⟨fun h => absurd h (Nat.lt_irrefl 0), by simp, by simp, by simp⟩⟩
  · simp [Value.cells] at hcs
    obtain ⟨rfl, rfl, rfl⟩ := hcs
    unfold maxLen at hm hr
    have spot : ∀ {y : Addr} {u : Value}, w.cell? y = some u → y = ⟨y.block, y.off, none⟩ := fun {y u} h => by
      obtain ⟨b, o, s⟩ := y
      have : s = none := by simpa using World.cell?_spot h
      subst this; rfl
    refine ⟨some x, len, cap, (List.range len).map fun i => ⟨A i, L i, C i, (Z i).take (L i)⟩, rfl, by omega, by simp, ?_, ?_, ?_, ?_⟩
    · intro h0
      have h0' : 0 < len := by simpa using h0
      obtain ⟨hc, _⟩ := hr 0 (by omega)
      have e0 : x.add 0 = x := by unfold Addr.add; simp
      rw [e0] at hc
      have ex := spot hc
      obtain ⟨b, o, s⟩ := x
      simp at ex
      subst ex
      refine ⟨b, o, rfl, World.block_lt_of_cell? _ _ hc, fun i hi => ?_⟩
      have hi' : i < len := by simpa using hi
      have h2 := (hr i (by omega)).1
      rw [memC.add_plain] at h2
      simpa using h2
    · intro p hp
      obtain ⟨i, hi, rfl⟩ := List.mem_map.1 hp
      have hi' : i < len := List.mem_range.1 hi
      obtain ⟨_, h1, h2, h3, _, h5, h6⟩ := hr i (by omega)
      refine ⟨by simp; omega, fun hn => ?_⟩
      simp only at hn
      cases hA : A i with
      | none => have := h5 hA; omega
      | some y =>
        obtain ⟨_, hc⟩ := h6 y hA
        have h0 := hc 0 (by omega)
        have e0 : y.add 0 = y := by unfold Addr.add; simp
        rw [e0] at h0
        have ey := spot h0
        obtain ⟨b, o, s⟩ := y
        simp at ey
        subst ey
        refine ⟨b, o, rfl, World.block_lt_of_cell? _ _ h0, fun j hj => ?_⟩
        simp only at hj
        have h7 := hc j (by omega)
        rw [memC.add_plain] at h7
        rw [h7]
        simp [List.getD_eq_getElem?_getD, hj]
    · intro p hp y hy
      obtain ⟨i, hi, rfl⟩ := List.mem_map.1 hp
      have hi' : i < len := List.mem_range.1 hi
      obtain ⟨_, _, _, _, h4, _⟩ := hr i (by omega)
      exact bounds_u8 (h4 y (List.mem_of_mem_take hy))
    · intro p hp
      obtain ⟨i, hi, rfl⟩ := List.mem_map.1 hp
      have hi' : i < len := List.mem_range.1 hi
      obtain ⟨_, h1, h2, _⟩ := hr i (by omega)
      exact ⟨h1, by show C i ≤ _; omega⟩
end Go.Proofs.YtapcjgmijcpfiaaDoor.partsC

/-
  '==' of two arrays of bytes that are the same.
-/
namespace Go.Proofs.YtapcjgmijcpfiaaDoor.eqC
open Go.ChangeShapes Go.WideShapes Go.ChangeAt Go.RowKit
set_option linter.unusedVariables false
theorem run_items {P : Program} (w : World) (d : Nat) (e : TypeId) (K : IntKind) (xs : Array Value) (he : P.underlying e = some (.int K)) :
    ∀ is : List Nat, (∀ j ∈ is, ∃ z, xs[j]? = some (.int K z)) → (Op.eqItems (d + 1) e 1 xs xs is).run P w = .ok true w
  | [], _ => by simp [Op.eqItems]
  | j :: is, h => by
    obtain ⟨z, hz⟩ := h j (by simp)
    have hagg : (isAgg e).run P w = .ok false w := by
      unfold isAgg
      rw [Sem.run_bind, run_underlying he w]
      rfl
    have hp : (part e xs (j * 1)).run P w = .ok (.int K z) w := by
      rw [Nat.mul_one]
      simp [part, Sem.run_bind, hagg, hz]
    have ih := run_items w d e K xs he is fun i hi => h i (by simp [hi])
    have hq := run_equalIn_int (P := P) w d e K K z z he
    simp only [Op.eqItems, Sem.run_bind, hp, Result.andThen_ok, hq, beq_self_eq_true, Bool.not_true, Bool.false_eq_true, if_false, ih]
theorem run_same {P : Program} (w : World) (t e : TypeId) (n : Nat) (K : IntKind) (i : TypeInfo) (xs : Array Value) (ht : P.underlying t = some (.array n e)) (he : P.underlying e = some (.int K)) (hi : P.info? e = some i)
    (hc : P.cellsOf e = 1) (hx : ∀ j, j < n → ∃ z, xs[j]? = some (.int K z)) : (Op.equalIn 10000 t (.agg xs) (.agg xs)).run P w = .ok true w := by
  rw [show (10000 : Nat) = 9998 + 1 + 1 from rfl, run_equalIn_array w _ xs xs ht hi, hc]
  exact run_items w _ e K xs he _ fun j hj => hx j (List.mem_range.1 hj)
end Go.Proofs.YtapcjgmijcpfiaaDoor.eqC

/-
  AES in memory: arrays of bytes as lists of numbers.
-/
namespace Go.Proofs.YtapcjgmijcpfiaaDoor.aesC
open Go.ChangeShapes Go.WideShapes Go.ChangeAt Go.RowKit
open Go.Proofs.YtapcjgmijcpfiaaDoor.memC Go.Proofs.YtapcjgmijcpfiaaDoor.genC
set_option linter.unusedVariables false
/-- an array of bytes as a value -/
def vec (xs : List Nat) : Array Value := (xs.map fun n : Nat => Value.int .u8 (n : Int)).toArray
/-- block g holds the bytes xs, and nothing else -/
structure Bl (T : TypeId) (w : World) (g : Nat) (xs : List Nat) : Prop where
  row : w.heap[g]? = some (.cells (vec xs) T (0, 0))
section
variable {T : TypeId} {w w' : World} {g : Nat} {xs ys : List Nat}
theorem Bl.heap (h : Bl T w g xs) (e : w'.heap = w.heap) : Bl T w' g xs := ⟨by rw [e]; exact h.row⟩
theorem Bl.setRow (h : Bl T w g xs) : Bl T (w.setRow g (vec ys)) g ys := ⟨setRow_heap _ _ _ _ _ _ h.row⟩
end
/-- bytes -/
def BY (xs : List Nat) : Prop := ∀ x ∈ xs, x < 256
theorem BY.map {f : Nat → Nat} {n : Nat} (h : ∀ i, i < n → f i < 256) : BY ((List.range n).map f) := by
  intro x hx
  obtain ⟨i, hi, rfl⟩ := List.mem_map.1 hx
  exact h i (List.mem_range.1 hi)
section
variable {xs ys : List Nat} {j k : Nat}
end
end Go.Proofs.YtapcjgmijcpfiaaDoor.aesC
