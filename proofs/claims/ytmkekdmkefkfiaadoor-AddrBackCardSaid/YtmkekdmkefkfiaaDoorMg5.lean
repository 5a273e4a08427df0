/-
  10 texts of a proof, joined.
-/
import Derived.Test.YtmkekdmkefkfiaaDoorMg4
import Derived.StillTailTactics
import Derived.Deep.QuietTactic
import Derived.BigQuiet
import Derived.Deep.CutRange
import Derived.BigRegion
import Derived.Test.YtmkekdmkefkfiaaDoorMg2
import Derived.Test.YtmkekdmkefkfiaaDoorMg3

/-
  The document's addresses: numbers' texts (ten, hex), the size of an address.
-/
namespace Go.Proofs.YtmkekdmkefkfiaaDoor.adC
open Go.ChangeShapes Go.WideShapes Go.ChangeAt Go.RowKit
open Go.Proofs.YtmkekdmkefkfiaaDoor.memC Go.Proofs.YtmkekdmkefkfiaaDoor.genC Go.Proofs.YtmkekdmkefkfiaaDoor.butC Go.Proofs.YtmkekdmkefkfiaaDoor.freeC
set_option linter.unusedVariables false
/-- a number's digits -/
def tenL (n : Nat) : List Int := if h : n < 10 then [48 + (n : Int)] else tenL (n / 10) ++ tenL (n % 10)
termination_by n
decreasing_by all_goals omega
theorem tenL_low {n : Nat} (h : n < 10) : tenL n = [48 + (n : Int)] := by rw [tenL, dif_pos h]
theorem tenL_high {n : Nat} (h : ¬ n < 10) : tenL n = tenL (n / 10) ++ tenL (n % 10) := by rw [tenL, dif_neg h]
theorem tenL_len (n : Nat) : (tenL n).length ≤ n + 1 := by
  induction n using Nat.strongRecOn with
  | _ n ih =>
    by_cases h : n < 10
    · rw [tenL_low h]; simp
    · rw [tenL_high h, List.length_append]
      have h1 := ih (n / 10) (by omega)
      have h2 := ih (n % 10) (by omega)
      omega
theorem tenL_byte (n : Nat) : ∀ x ∈ tenL n, Byte x := by
  induction n using Nat.strongRecOn with
  | _ n ih =>
    by_cases h : n < 10
    · rw [tenL_low h]
      intro x hx
      rw [List.mem_singleton.1 hx]; unfold Byte; omega
    · rw [tenL_high h]
      intro x hx
      rcases List.mem_append.1 hx with h1 | h1
      · exact ih (n / 10) (by omega) x h1
      · exact ih (n % 10) (by omega) x h1
theorem lit1 (w : World) (x : Int) (T : TypeId) : Nums .u8 (w.alloc (.cells #[.int .u8 x] T)) (w.alloc (.cells #[.int .u8 x] T)).heap.size (some ⟨w.heap.size, 0, none⟩) 1 [x] :=
  ⟨rfl, fun _ => ⟨_, 0, rfl, by rw [alloc_size]; exact Nat.lt_succ_self _, fun i hi => by
    obtain rfl : i = 0 := by omega
    rw [cell_of_row _ w.heap.size (0 + 0) _ _ (0, 0) (heap_alloc_new w _)]; rfl⟩⟩
theorem str_nums {w : World} {B : Nat} {A : Option Addr} {n : Nat} {xs : List Int} (h : Nums .u8 w B A n xs) (c : Nat) :
    (convert 25 9 (.slice A n c)).run Tryd.prog w = .ok (.string (strOfNums xs)) w :=
  run_string h c _ _ _ Tryd.underlying25 Tryd.underlying5 Tryd.underlying9
set_option maxRecDepth 100000 in
set_option maxHeartbeats 1000000 in
theorem ten_any (n : Nat) (hn : n ≤ 1000000) (w : World) : Calls Tryd.prog 35 #[.int .i64 n] w (Ret w (.string (strOfNums (tenL n)))) := by
  induction n using Nat.strongRecOn generalizing w with
  | _ n ih =>
    by_cases h : n < 10
    · rw [tenL_low h]
      obtain ⟨d, hd⟩ : ∃ d, d = 48 + (n : Int) := ⟨_, rfl⟩
      have hz : (n : Int) < 10 := by omega
      have d0 : 48 ≤ d := by omega
      have d1 : d ≤ 57 := by omega
      have hw : IntKind.u8.wrap d = d := IntWalk.u8_in d (by omega)
      have he : 48 + (n : Int) = d := hd.symm
      have kc := str_nums (lit1 w d 5) 1
      have B := Lib.hid (alloc_below w (.cells #[.int .u8 d] 5))
      rw [← hd]
      clear hd ih
      go_enter Tryd.func35, Tryd.ntmps35
      go_wp2_with fail
      go_ret
      exact ⟨rfl, B.out⟩
    · rw [tenL_high h]
      obtain ⟨q, hq⟩ : ∃ q, q = n / 10 := ⟨_, rfl⟩
      obtain ⟨r, hr⟩ : ∃ r, r = n % 10 := ⟨_, rfl⟩
      have c1 := Lib.hid (fun w => ih q (by omega) (by omega) w)
      have c2 := Lib.hid (fun w => ih r (by omega) (by omega) w)
      have z1 : (strOfNums (tenL q)).size ≤ q + 1 := by rw [strOfNums_size]; exact tenL_len q
      have z2 : (strOfNums (tenL r)).size ≤ r + 1 := by rw [strOfNums_size]; exact tenL_len r
      have hz : (strOfNums (tenL q)).size + (strOfNums (tenL r)).size ≤ 9223372036854775807 := by omega
      have hs := Lib.hid (strOf_append (tenL q) (tenL r))
      rw [← hq, ← hr]
      generalize strOfNums (tenL q) = S1 at *
      generalize strOfNums (tenL r) = S2 at *
      have hnz : ¬ (n : Int) < 10 := by omega
      have hd : decide ((n : Int) < 10) = false := decide_eq_false hnz
      have e1 : (n : Int).tdiv 10 = (q : Int) := by rw [Int.tdiv_eq_ediv_of_nonneg (by omega)]; omega
      have e3 : (n : Int) / 10 = (q : Int) := by omega
      have e4 : (n : Int) % 10 = (r : Int) := by omega
      have e2 : (n : Int).tmod 10 = (r : Int) := by rw [Int.tmod_eq_emod_of_nonneg (by omega)]; omega
      clear ih hq hr z1 z2
      go_enter Tryd.func35, Tryd.ntmps35
      go_wp2_with (first
        | (go_at_call 35; (with_reducible refine (c1.out _).mono ?_); rintro e w1 ⟨rfl, B1⟩
           have B1 := Lib.hid B1)
        | (go_at_call 35; (with_reducible refine (c2.out _).mono ?_); rintro e w2 ⟨rfl, B2⟩
           have B2 := Lib.hid B2))
      go_ret
      exact ⟨by rw [← hs.out]; rfl, B1.out.trans (B2.out.mono B1.out.size)⟩
/-- a hex digit -/
def hexD (h : Int) : Int := if h ≤ 9 then 48 + h else 87 + h
def hexL (n : Nat) : List Int := if h : n < 16 then [hexD (n : Int)] else hexL (n / 16) ++ hexL (n % 16)
termination_by n
decreasing_by all_goals omega
theorem hexL_low {n : Nat} (h : n < 16) : hexL n = [hexD (n : Int)] := by rw [hexL, dif_pos h]
theorem hexL_high {n : Nat} (h : ¬ n < 16) : hexL n = hexL (n / 16) ++ hexL (n % 16) := by rw [hexL, dif_neg h]
theorem hexL_len (n : Nat) : (hexL n).length ≤ n + 1 := by
  induction n using Nat.strongRecOn with
  | _ n ih =>
    by_cases h : n < 16
    · rw [hexL_low h]; simp
    · rw [hexL_high h, List.length_append]
      have h1 := ih (n / 16) (by omega)
      have h2 := ih (n % 16) (by omega)
      omega
theorem hexL_byte (n : Nat) : ∀ x ∈ hexL n, Byte x := by
  induction n using Nat.strongRecOn with
  | _ n ih =>
    by_cases h : n < 16
    · rw [hexL_low h]
      intro x hx
      rw [List.mem_singleton.1 hx]; unfold Byte hexD; split <;> omega
    · rw [hexL_high h]
      intro x hx
      rcases List.mem_append.1 hx with h1 | h1
      · exact ih (n / 16) (by omega) x h1
      · exact ih (n % 16) (by omega) x h1
theorem list16 {h : Int} (h0 : 0 ≤ h) (h1 : h ≤ 15) : h = 0 ∨ h = 1 ∨ h = 2 ∨ h = 3 ∨ h = 4 ∨ h = 5 ∨ h = 6 ∨ h = 7 ∨ h = 8 ∨ h = 9 ∨ h = 10 ∨ h = 11 ∨ h = 12 ∨ h = 13 ∨ h = 14 ∨ h = 15 := by omega
theorem sign_cut {h : Int} (h0 : 0 ≤ h) (h1 : h ≤ 15) (w : World) :
    (Instr.slice 9 (.string ⟨#[48, 49, 50, 51, 52, 53, 54, 55, 56, 57, 97, 98, 99, 100, 101, 102]⟩) (some (.int .i64 h)) (some (.int .i64 (h + 1))) none).run Tryd.prog w = .ok (.string (strOfNums [hexD h])) w := by
  rcases list16 h0 h1 with rfl | rfl | rfl | rfl | rfl | rfl | rfl | rfl | rfl | rfl | rfl | rfl | rfl | rfl | rfl | rfl <;> kernel_rfl
set_option maxRecDepth 100000 in
set_option maxHeartbeats 1000000 in
theorem hex_any (n : Nat) (hn : n ≤ 1000000) (w : World) : Calls Tryd.prog 37 #[.int .i64 n] w (Ret w (.string (strOfNums (hexL n)))) := by
  induction n using Nat.strongRecOn generalizing w with
  | _ n ih =>
    by_cases h : n < 16
    · rw [hexL_low h]
      have hz : (n : Int) < 16 := by omega
      have sc := sign_cut (h := (n : Int)) (by omega) (by omega)
      clear ih
      go_enter Tryd.func37, Tryd.ntmps37
      go_wp2_with fail
      go_ret
      exact ⟨rfl, Below.refl _ _⟩
    · rw [hexL_high h]
      obtain ⟨q, hq⟩ : ∃ q, q = n / 16 := ⟨_, rfl⟩
      obtain ⟨r, hr⟩ : ∃ r, r = n % 16 := ⟨_, rfl⟩
      have c1 := Lib.hid (fun w => ih q (by omega) (by omega) w)
      have c2 := Lib.hid (fun w => ih r (by omega) (by omega) w)
      have z1 : (strOfNums (hexL q)).size ≤ q + 1 := by rw [strOfNums_size]; exact hexL_len q
      have z2 : (strOfNums (hexL r)).size ≤ r + 1 := by rw [strOfNums_size]; exact hexL_len r
      have hz : (strOfNums (hexL q)).size + (strOfNums (hexL r)).size ≤ 9223372036854775807 := by omega
      have hs := Lib.hid (strOf_append (hexL q) (hexL r))
      rw [← hq, ← hr]
      generalize strOfNums (hexL q) = S1 at *
      generalize strOfNums (hexL r) = S2 at *
      have hnz : ¬ (n : Int) < 16 := by omega
      have hd : decide ((n : Int) < 16) = false := decide_eq_false hnz
      have e1 : (n : Int).tdiv 16 = (q : Int) := by rw [Int.tdiv_eq_ediv_of_nonneg (by omega)]; omega
      have e3 : (n : Int) / 16 = (q : Int) := by omega
      have e4 : (n : Int) % 16 = (r : Int) := by omega
      have e2 : (n : Int).tmod 16 = (r : Int) := by rw [Int.tmod_eq_emod_of_nonneg (by omega)]; omega
      clear ih hq hr z1 z2
      go_enter Tryd.func37, Tryd.ntmps37
      go_wp2_with (first
        | (go_at_call 37; (with_reducible refine (c1.out _).mono ?_); rintro e w1 ⟨rfl, B1⟩
           have B1 := Lib.hid B1)
        | (go_at_call 37; (with_reducible refine (c2.out _).mono ?_); rintro e w2 ⟨rfl, B2⟩
           have B2 := Lib.hid B2))
      go_ret
      exact ⟨by rw [← hs.out]; rfl, B1.out.trans (B2.out.mono B1.out.size)⟩
set_option maxRecDepth 100000 in
theorem size_any (s : Bool) (b : List Int) (w : World) (h : b.length = 16) : Calls Tryd.prog 25 #[.agg (adrV s b)] w (Ret w (.int .i64 (adrN s))) := by
  have k1 : (w.alloc (.cells (adrV s b) 24)).cell? ⟨w.heap.size, 0, none⟩ = some (.bool s) := by rw [cell_new]; exact adrV_six _ _
  have B := Lib.hid (alloc_below w (.cells (adrV s b) 24))
  generalize adrV s b = C at *
  cases s
  all_goals
    go_enter Tryd.func25, Tryd.ntmps25
    go_wp2
    go_ret
    exact ⟨rfl, B.out⟩
end Go.Proofs.YtmkekdmkefkfiaaDoor.adC

/-
  The document's addresses: a group, and how many groups 0 there are from one on.
-/
namespace Go.Proofs.YtmkekdmkefkfiaaDoor.adC
open Go.ChangeShapes Go.WideShapes Go.ChangeAt Go.RowKit
open Go.Proofs.YtmkekdmkefkfiaaDoor.memC Go.Proofs.YtmkekdmkefkfiaaDoor.genC Go.Proofs.YtmkekdmkefkfiaaDoor.butC Go.Proofs.YtmkekdmkefkfiaaDoor.freeC
set_option linter.unusedVariables false
/-- the group at a place -/
def gr (b : List Int) (i : Nat) : Nat := (b.getD (2 * i) 0 * 256 + b.getD (2 * i + 1) 0).toNat
theorem gr_is {b : List Int} (hy : ∀ x ∈ b, Byte x) (hl : b.length = 16) {i : Nat} (hi : i < 8) : (gr b i : Int) = b.getD (2 * i) 0 * 256 + b.getD (2 * i + 1) 0 := by
  have h1 := getD_byte hy (k := 2 * i) (by omega)
  have h2 := getD_byte hy (k := 2 * i + 1) (by omega)
  unfold Byte at h1 h2
  unfold gr; omega
theorem gr_lt {b : List Int} (hy : ∀ x ∈ b, Byte x) (hl : b.length = 16) {i : Nat} (hi : i < 8) : gr b i < 65536 := by
  have h1 := getD_byte hy (k := 2 * i) (by omega)
  have h2 := getD_byte hy (k := 2 * i + 1) (by omega)
  have h3 := gr_is hy hl hi
  unfold Byte at h1 h2
  omega
set_option maxRecDepth 100000 in
set_option maxHeartbeats 1000000 in
theorem group_any (s : Bool) (b : List Int) (i : Nat) (w : World) (hl : b.length = 16) (hy : ∀ x ∈ b, Byte x) (hi : i < 8) : Calls Tryd.prog 38 #[.agg (adrV s b), .int .i64 i] w (Ret w (.int .i64 (gr b i))) := by
  obtain ⟨x0, x1⟩ := getD_byte hy (k := 2 * i) (by omega)
  obtain ⟨y0, y1⟩ := getD_byte hy (k := 2 * i + 1) (by omega)
  have HG := Lib.hid (gr_is hy hl hi)
  obtain ⟨p, hp⟩ : ∃ p, p = 2 * i := ⟨_, rfl⟩
  obtain ⟨q, hq⟩ : ∃ q, q = 2 * i + 1 := ⟨_, rfl⟩
  have kx : (w.alloc (.cells (adrV s b) 24)).cell? ⟨w.heap.size, 1 + p, none⟩ = some (.int .u8 (b.getD p 0)) := by rw [cell_new]; exact adrV_at (by omega)
  have ky : (w.alloc (.cells (adrV s b) 24)).cell? ⟨w.heap.size, 1 + q, none⟩ = some (.int .u8 (b.getD q 0)) := by rw [cell_new]; exact adrV_at (by omega)
  rw [← hq] at HG y0 y1
  rw [← hp] at HG x0 x1
  have B := Lib.hid (alloc_below w (.cells (adrV s b) 24))
  generalize b.getD p 0 = x at *
  generalize b.getD q 0 = y at *
  have e1 : (2 : Int) * (i : Int) = (p : Int) := by omega
  have e2 : (p : Int) + 1 = (q : Int) := by omega
  have e3 : IntKind.i64.wrap (p : Int) = (p : Int) := IntWalk.i64_in _ (by omega)
  have e4 : IntKind.i64.wrap (q : Int) = (q : Int) := IntWalk.i64_in _ (by omega)
  have e5 : IntKind.i64.wrap (x * 256) = x * 256 := IntWalk.i64_in _ (by omega)
  have e6 : IntKind.i64.wrap (x * 256 + y) = x * 256 + y := IntWalk.i64_in _ (by omega)
  have e7 : IntKind.i64.wrap x = x := IntWalk.i64_in _ (by omega)
  have e8 : IntKind.i64.wrap y = y := IntWalk.i64_in _ (by omega)
  have hp16 : p < 16 := by omega
  have hq16 : q < 16 := by omega
  have pz : (p : Int) < 16 := by omega
  have qz : (q : Int) < 16 := by omega
  clear hp hq hi hl hy
  obtain ⟨W, hW⟩ : ∃ W, W = w.alloc (.cells (adrV s b) 24) := ⟨_, rfl⟩
  rw [← hW] at kx ky B
  generalize adrV s b = C at *
  go_enter Tryd.func38, Tryd.ntmps38
  go_upto_region 1 with fail
  rw [← hW]
  clear hW
  go_quiet (fail)
  go_wp2_with fail
  go_ret
  exact ⟨ret_int (by rw [HG.out]), bel_drewN B.out _⟩
end Go.Proofs.YtmkekdmkefkfiaaDoor.adC

/-
  The document's addresses: how many groups 0 there are from one on.
-/
namespace Go.Proofs.YtmkekdmkefkfiaaDoor.adC
open Go.ChangeShapes Go.WideShapes Go.ChangeAt Go.RowKit
open Go.Proofs.YtmkekdmkefkfiaaDoor.memC Go.Proofs.YtmkekdmkefkfiaaDoor.genC Go.Proofs.YtmkekdmkefkfiaaDoor.butC Go.Proofs.YtmkekdmkefkfiaaDoor.freeC
set_option linter.unusedVariables false
def runG (b : List Int) : Nat → Nat → Nat
  | 0, _ => 0
  | f + 1, i => if gr b i = 0 then runG b f (i + 1) + 1 else 0
/-- how many groups 0 there are from a place on -/
def runN (b : List Int) (i : Nat) : Nat := runG b (8 - i) i
theorem runG_le (b : List Int) : ∀ f i, runG b f i ≤ f
  | 0, _ => Nat.le_refl _
  | f + 1, i => by
    unfold runG
    split
    · have := runG_le b f (i + 1); omega
    · omega
theorem runN_le (b : List Int) (i : Nat) : runN b i ≤ 8 - i := runG_le b _ _
theorem runN_end (b : List Int) {i : Nat} (h : 8 ≤ i) : runN b i = 0 := by
  have := runN_le b i; omega
theorem runN_zero {b : List Int} {i : Nat} (h : i < 8) (hz : gr b i = 0) : runN b i = runN b (i + 1) + 1 := by
  unfold runN
  rw [show 8 - i = (8 - (i + 1)) + 1 by omega, runG, if_pos hz]
theorem runN_not {b : List Int} {i : Nat} (h : i < 8) (hz : gr b i ≠ 0) : runN b i = 0 := by
  unfold runN
  rw [show 8 - i = (8 - (i + 1)) + 1 by omega, runG, if_neg hz]
set_option maxRecDepth 100000 in
set_option maxHeartbeats 1000000 in
theorem run_any (s : Bool) (b : List Int) (i : Nat) (w : World) (hl : b.length = 16) (hy : ∀ x ∈ b, Byte x) (hi : i ≤ 8) : Calls Tryd.prog 36 #[.agg (adrV s b), .int .i64 i] w (Ret w (.int .i64 (runN b i))) := by
  have GR := Lib.hid (fun (j : Nat) (hj : j < 8) w' => group_any s b j w' hl hy hj)
  have U := Lib.hid (show (Tryd.prog.info? 24).map (·.size) = some (adrV s b).size by rw [addr_info, adrV_size hl])
  obtain ⟨R, hR⟩ : ∃ R, R = runN b i := ⟨_, rfl⟩
  have HR := Lib.hid hR
  obtain ⟨W, hW⟩ : ∃ W, W = w.alloc (.cells (adrV s b) 24) := ⟨_, rfl⟩
  have RW := Lib.hid (show W.heap[w.heap.size]? = some (.cells (adrV s b) 24 (0, 0)) by rw [hW]; exact heap_alloc_new _ _)
  have BW := Lib.hid (show Below w.heap.size w W by rw [hW]; exact alloc_below _ _)
  rw [← hR]
  generalize adrV s b = C at *
  clear hR hl hy
  go_enter Tryd.func36, Tryd.ntmps36
  go_upto_region 1 with fail
  rw [← hW]
  clear hW
  go_wp2_with fail
  go_loopw [5] (fun v wr => ∃ n : Nat, i + n ≤ 8 ∧ v = .int .i64 n ∧ n + runN b (i + n) = R ∧ Below W.heap.size W wr) (fun v _ => 8 - (intOf v).toNat)
  case atStart => exact ⟨0, by omega, rfl, by rw [Nat.zero_add, Nat.add_zero]; exact HR.out.symm, Below.refl _ _⟩
  case round =>
    obtain ⟨n, hn, rfl, hr, Bw⟩ := hrel
    have HRn := Lib.hid hr
    have HB := Lib.hid Bw
    have RR := Lib.hid (show wr.heap[w.heap.size]? = some (.cells C 24 (0, 0)) by rw [Bw.block _ (lt_of_row RW.out)]; exact RW.out)
    obtain ⟨j, hj⟩ : ∃ j, j = i + n := ⟨_, rfl⟩
    have hjz : (i : Int) + (n : Int) = (j : Int) := by omega
    have HJ := Lib.hid hj
    rw [← hj] at hn
    clear hr Bw hj
    by_cases hlt : j < 8
    · have hlz : (j : Int) < 8 := by omega
      have hld : decide ((j : Int) < 8) = true := decide_eq_true hlz
      have GJ := Lib.hid (GR.out j hlt)
      obtain ⟨x, hx⟩ : ∃ x, x = gr b j := ⟨_, rfl⟩
      have HX := Lib.hid hx
      rw [← hx] at GJ
      clear hx
      by_cases hz : x = 0
      · subst hz
        go_wp2_with (first
          | (refine wpList_load_rowG (by rfl) 24 (.tmp 2) rfl w.heap.size rfl _ _ _ _ RR.out Tryd.underlying24 rfl U.out ?_)
          | (go_at_call 38; (with_reducible refine (GJ.out _).mono ?_); rintro e w1 ⟨rfl, B1⟩
             have B1 := Lib.hid B1))
        go_roundw
        case rel =>
          refine ⟨n + 1, by have := HJ.out; omega, by go_num, ?_, HB.out.trans (B1.out.mono HB.out.size)⟩
          have h1 := HRn.out
          rw [← HJ.out, runN_zero hlt HX.out.symm] at h1
          have h2 := HJ.out
          rw [show i + (n + 1) = j + 1 by omega]; omega
        case measure => have := HJ.out; simp [intOf]; omega
      · have hxz : ((x : Int) == 0) = false := by simp; omega
        have hxn : ¬ (x : Int) = 0 := by omega
        go_wp2_with (first
          | (refine wpList_load_rowG (by rfl) 24 (.tmp 2) rfl w.heap.size rfl _ _ _ _ RR.out Tryd.underlying24 rfl U.out ?_)
          | (go_at_call 38; (with_reducible refine (GJ.out _).mono ?_); rintro e w1 ⟨rfl, B1⟩
             have B1 := Lib.hid B1))
        go_ret
        refine ⟨ret_int ?_, BW.out.trans ((HB.out.trans (B1.out.mono HB.out.size)).mono BW.out.size)⟩
        have h1 := HRn.out
        rw [← HJ.out, runN_not hlt (by rw [← HX.out]; exact hz)] at h1
        omega
    · have hlz : ¬ (j : Int) < 8 := by omega
      have hld : decide ((j : Int) < 8) = false := decide_eq_false hlz
      go_wp2_with fail
      go_ret
      refine ⟨ret_int ?_, BW.out.trans (HB.out.mono BW.out.size)⟩
      have h1 := HRn.out
      rw [← HJ.out, runN_end b (by omega)] at h1
      omega
end Go.Proofs.YtmkekdmkefkfiaaDoor.adC

/-
  Hex digits: plain mathematics.
-/
namespace Go.Proofs.YtmkekdmkefkfiaaDoor.hexM
open Go.Proofs.YtmkekdmkefkfiaaDoor.memC
set_option linter.unusedVariables false
/-- what a hex digit stands for; 16: it is none -/
def nib (c : Int) : Int := if 48 ≤ c ∧ c ≤ 57 then c - 48 else if 97 ≤ c ∧ c ≤ 102 then c - 87 else if 65 ≤ c ∧ c ≤ 70 then c - 55 else 16
theorem nib_bd (c : Int) : 0 ≤ nib c ∧ nib c ≤ 16 := by unfold nib; split <;> (try split) <;> (try split) <;> omega
/-- the small digit of a number below 16 -/
def hexD (x : Int) : Int := if x < 10 then x + 48 else x + 87
theorem nib_hexD (x : Int) (h0 : 0 ≤ x) (h1 : x ≤ 15) : nib (hexD x) = x := by unfold hexD nib; split <;> (split <;> (try split) <;> (try split) <;> omega)
theorem hexD_bd (x : Int) (h0 : 0 ≤ x) (h1 : x ≤ 15) : 0 ≤ hexD x ∧ hexD x ≤ 255 := by unfold hexD; split <;> omega
def lower (c : Int) : Int := if 65 ≤ c ∧ c ≤ 70 then c + 32 else c
theorem hexD_nib (c : Int) (h : nib c ≤ 15) : hexD (nib c) = lower c := by
  unfold hexD lower; unfold nib at *
  split at h <;> (try split at h) <;> (try split at h) <;> (repeat' split) <;> omega
def hexL (bs : List Int) : List Int := bs.flatMap fun b => [hexD (b / 16), hexD (b % 16)]
theorem hexL_len (bs : List Int) : (hexL bs).length = 2 * bs.length := by
  induction bs with
  | nil => rfl
  | cons b bs ih => rw [hexL, List.flatMap_cons, List.length_append, List.length_cons]; rw [hexL] at ih; rw [ih]; simp; omega
def unhexL : List Int → Option (List Int)
  | [] => some []
  | [_] => none
  | a :: b :: r => if nib a ≤ 15 ∧ nib b ≤ 15 then (unhexL r).map (fun q => (nib a * 16 + nib b) :: q) else none
theorem unhex_hex (bs : List Int) (h : ∀ x ∈ bs, 0 ≤ x ∧ x ≤ 255) : unhexL (hexL bs) = some bs := by
  induction bs with
  | nil => rfl
  | cons b bs ih =>
    have hb := h b (by simp)
    have e : hexL (b :: bs) = hexD (b / 16) :: hexD (b % 16) :: hexL bs := by simp [hexL]
    have n1 := nib_hexD (b / 16) (by omega) (by omega)
    have n2 := nib_hexD (b % 16) (by omega) (by omega)
    rw [e, unhexL, n1, n2, if_pos (by omega), ih fun x hx => h x (by simp [hx])]
    simp; omega
theorem unhex_spec : ∀ (l ys : List Int), unhexL l = some ys → hexL ys = l.map lower ∧ ∀ y ∈ ys, 0 ≤ y ∧ y ≤ 255
  | [], ys, h => by simp [unhexL] at h; subst h; simp [hexL]
  | [_], ys, h => by simp [unhexL] at h
  | a :: b :: r, ys, h => by
    rw [unhexL] at h
    by_cases hc : nib a ≤ 15 ∧ nib b ≤ 15
    · rw [if_pos hc] at h
      obtain ⟨zs, hz, rfl⟩ := Option.map_eq_some_iff.1 h
      obtain ⟨e, hy⟩ := unhex_spec r zs hz
      have ha := nib_bd a
      have hb := nib_bd b
      refine ⟨?_, fun y hy' => ?_⟩
      · have e1 : hexL ((nib a * 16 + nib b) :: zs) = hexD ((nib a * 16 + nib b) / 16) :: hexD ((nib a * 16 + nib b) % 16) :: hexL zs := by simp [hexL]
        rw [e1, e, show (nib a * 16 + nib b) / 16 = nib a by omega, show (nib a * 16 + nib b) % 16 = nib b by omega, hexD_nib a hc.1, hexD_nib b hc.2]
        rfl
      · rcases List.mem_cons.1 hy' with rfl | h
        · omega
        · exact hy y h
    · rw [if_neg hc] at h; cases h
theorem unhex_len (l ys : List Int) (h : unhexL l = some ys) : l.length = 2 * ys.length := by
  have := congrArg List.length (unhex_spec l ys h).1
  rw [hexL_len, List.length_map] at this
  exact this.symm
/-- a text's signs -/
def strL (s : ByteArray) : List Int := s.data.toList.map fun c => (c.toNat : Int)
theorem strL_len (s : ByteArray) : (strL s).length = s.size := by rw [strL, List.length_map]; exact Array.length_toList
theorem strL_bd (s : ByteArray) : ∀ x ∈ strL s, 0 ≤ x ∧ x ≤ 255 := by
  intro x hx
  obtain ⟨c, _, rfl⟩ := List.mem_map.1 hx
  have := c.toNat_lt
  omega
theorem strL_of (xs : List Int) (h : ∀ x ∈ xs, 0 ≤ x ∧ x ≤ 255) : strL (strOfNums xs) = xs := by
  unfold strL
  rw [strOfNums_data, List.map_map]
  have : ∀ x ∈ xs, ((fun c : UInt8 => (c.toNat : Int)) ∘ fun n : Int => UInt8.ofNat n.toNat) x = x := by
    intro x hx
    have := h x hx
    simp only [Function.comp, UInt8.toNat_ofNat']
    omega
  rw [List.map_congr_left this]; simp
theorem of_strL (s : ByteArray) : strOfNums (strL s) = s := by
  unfold strOfNums strL
  rw [List.map_map]
  have : ((fun n : Int => UInt8.ofNat n.toNat) ∘ fun c : UInt8 => (c.toNat : Int)) = id := by
    funext c; simp
  rw [this]; simp
theorem strL_get (s : ByteArray) (i : Nat) (h : i < s.size) : (strL s)[i]? = some ((s[i]).toNat : Int) := by
  unfold strL
  rw [List.getElem?_map, List.getElem?_eq_getElem (by rw [Array.length_toList]; exact h)]
  rfl
theorem drop2 {l : List Int} {i : Nat} {a b : Int} (ha : l[i]? = some a) (hb : l[i + 1]? = some b) : l.drop i = a :: b :: l.drop (i + 2) := by
  obtain ⟨h1, h1'⟩ := List.getElem?_eq_some_iff.1 ha
  obtain ⟨h2, h2'⟩ := List.getElem?_eq_some_iff.1 hb
  rw [List.drop_eq_getElem_cons h1, List.drop_eq_getElem_cons h2, h1', h2']
end Go.Proofs.YtmkekdmkefkfiaaDoor.hexM

/-
  The document's addresses: the text.
-/
namespace Go.Proofs.YtmkekdmkefkfiaaDoor.adC
open Go.ChangeShapes Go.WideShapes Go.ChangeAt Go.RowKit
open Go.Proofs.YtmkekdmkefkfiaaDoor.memC Go.Proofs.YtmkekdmkefkfiaaDoor.genC Go.Proofs.YtmkekdmkefkfiaaDoor.butC Go.Proofs.YtmkekdmkefkfiaaDoor.freeC
open Go.Proofs.YtmkekdmkefkfiaaDoor.hexM (strL strL_len strL_of of_strL strL_get)
set_option linter.unusedVariables false
section
variable {P : Program} {ops : Array Oper} {rest : List Oper} {o : Oper} {a : Act} {Q : Exit → Act → World → Prop}
/-- an operation, behind a guard that says yes or behind none, whose value is known -/
theorem wpList_runG {w : World} (hw : Region.wanted o (yielded ops a.tmps) = true) (v : Value) (hr : (execOp a.eval o).run P w = .ok (.value v) w) (h : wpList P ops Q rest (a.put o.dst v) w) : wpList P ops Q (o :: rest) a w := by
  refine wpList_step fun K hK => ?_
  rw [if_pos hw]
  unfold Oper.wp
  rw [hr]
  exact hK _ _ h
theorem index_run {w : World} {T : TypeId} {s x : Operand} {S : ByteArray} {z c : Int} (ho : o.op = .index T s x) (hs : a.eval s = .string S) (hx : a.eval x = .int .i64 z)
    (hq : (Instr.index T (.string S) (.int .i64 z)).run P w = .ok (.int .u8 c) w) : (execOp a.eval o).run P w = .ok (.value (.int .u8 c)) w := by
  unfold execOp
  rw [ho]
  simp only [hs, hx, Sem.run_bind, hq, Result.andThen_ok, Sem.run_pure]
end
/-- a byte of a text -/
theorem str_at {xs : List Int} (hy : ∀ x ∈ xs, Byte x) {i : Nat} (hi : i < xs.length) {z : Int} (hz : z = (i : Int)) (w : World) : (Instr.index 9 (.string (strOfNums xs)) (.int .i64 z)).run Tryd.prog w = .ok (.int .u8 (xs.getD i 0)) w := by
  subst hz
  have hsz : i < (strOfNums xs).size := by rw [strOfNums_size]; exact hi
  rw [run_index_string w _ _ _ _ Tryd.underlying9, dif_pos ⟨by omega, by omega⟩]
  have h1 := strL_get (strOfNums xs) i hsz
  rw [strL_of xs hy, List.getElem?_eq_getElem hi] at h1
  have h2 := Option.some.inj h1
  rw [List.getD_eq_getElem?_getD, List.getElem?_eq_getElem hi]
  simp only [Option.getD_some]
  rw [h2]
  rfl
theorem str_emp (xs : List Int) : (strOfNums xs).toList = [] ↔ xs = [] := by rw [ByteArray.toList_eq, strOfNums_data]; simp
theorem str_nil (xs : List Int) : ((strOfNums xs).toList == ByteArray.toList { data := #[] }) = decide (xs = []) := by
  rw [Bool.eq_iff_iff, beq_iff_eq, decide_eq_true_eq]
  constructor
  · intro h
    have h1 := congrArg List.length h
    rw [ByteArray.toList_eq, ByteArray.toList_eq] at h1
    have h2 := strOfNums_size xs
    rw [ByteArray.size, ← Array.length_toList, h1] at h2
    exact List.eq_nil_of_length_eq_zero h2.symm
  · rintro rfl; rfl
/-- the text of four bytes, up to the i-th -/
def fourT (b : List Int) : Nat → List Int
  | 0 => []
  | i + 1 => (fourT b i ++ if i = 0 then [] else [46]) ++ tenL (b.getD i 0).toNat
theorem fourT_byte (b : List Int) : ∀ i, ∀ x ∈ fourT b i, Byte x
  | 0 => by simp [fourT]
  | i + 1 => by
    intro x hx
    rcases List.mem_append.1 hx with h | h
    · rcases List.mem_append.1 h with h | h
      · exact fourT_byte b i x h
      · split at h
        · cases h
        · rw [List.mem_singleton.1 h]; unfold Byte; decide
    · exact tenL_byte _ x h
/-- where the longest run of groups 0 begins, of those up to the i-th -/
def bestT (b : List Int) : Nat → Nat
  | 0 => 0
  | i + 1 => if runN b (bestT b i) < runN b i then i else bestT b i
theorem bestT_le (b : List Int) : ∀ i, bestT b i ≤ i
  | 0 => Nat.le_refl _
  | i + 1 => by
    unfold bestT
    have := bestT_le b i
    split <;> omega
def gapN (b : List Int) : Nat := if runN b (bestT b 8) < 2 then 8 else bestT b 8
theorem gapN_le (b : List Int) : gapN b ≤ 8 := by
  unfold gapN
  split
  · omega
  · exact bestT_le b 8
theorem gap_run {b : List Int} (h : gapN b < 8) : 2 ≤ runN b (gapN b) := by
  unfold gapN at h ⊢
  split
  · rename_i h1; rw [if_pos h1] at h; omega
  · rename_i h1; omega
/-- a ':', if the last sign is none -/
def colL (s : List Int) : List Int := if s = [] ∨ s.getLast? = some 58 then [] else [58]
/-- what is written from a group on -/
def prt (b : List Int) (best : Nat) : Nat → Nat → List Int → List Int
  | 0, _, s => s
  | f + 1, i, s => if 8 ≤ i then s else if i = best then prt b best f (i + runN b i) (s ++ [58, 58]) else prt b best f (i + 1) ((s ++ colL s) ++ hexL (gr b i))
def textL (s : Bool) (b : List Int) : List Int := if s then prt b (gapN b) 8 0 [] else fourT b 4
theorem prt_end {b : List Int} {best f i : Nat} {s : List Int} (h : 8 ≤ i) : prt b best f i s = s := by
  cases f
  · rfl
  · unfold prt; rw [if_pos h]
theorem prt_gap {b : List Int} {best f i : Nat} {s : List Int} (h : i < 8) (hb : i = best) : prt b best (f + 1) i s = prt b best f (i + runN b i) (s ++ [58, 58]) := by
  rw [prt, if_neg (by omega), if_pos hb]
theorem prt_one {b : List Int} {best f i : Nat} {s : List Int} (h : i < 8) (hb : i ≠ best) : prt b best (f + 1) i s = prt b best f (i + 1) ((s ++ colL s) ++ hexL (gr b i)) := by
  rw [prt, if_neg (by omega), if_neg hb]
end Go.Proofs.YtmkekdmkefkfiaaDoor.adC

/-
  Rows of texts that are the call's own: what they hold, a text put behind, a text turned.
-/
namespace Go.Proofs.YtmkekdmkefkfiaaDoor.txC
open Go.ChangeShapes Go.WideShapes Go.ChangeAt Go.RowKit
open Go.Proofs.YtmkekdmkefkfiaaDoor.memC Go.Proofs.YtmkekdmkefkfiaaDoor.genC
set_option linter.unusedVariables false
def txts (ls : List (List Int)) : List Value := ls.map fun l => Value.string (strOfNums l)
def OwnT (w : World) (base : Nat) (v : Value) (ls : List (List Int)) : Prop := w.ownsRow base 9 1 v ls.length (txts ls)
theorem txts_len (ls : List (List Int)) : (txts ls).length = ls.length := by simp [txts]
theorem txts_at {ls : List (List Int)} {j : Nat} (h : j < ls.length) : (txts ls)[j]? = some (.string (strOfNums (ls.getD j []))) := by simp [txts, List.getD_eq_getElem?_getD, h]
theorem txts_one (ls : List (List Int)) : ∀ u ∈ txts ls, u.oneCell' = true := by
  intro u hu
  obtain ⟨l, _, rfl⟩ := List.mem_map.1 hu
  rfl
theorem string_inf : (Tryd.prog.info? 9).map (fun i => (i.zero, i.size, i.bytes)) = some (some (.string { data := #[] }), 1, 16) := by kernel_rfl
section
variable {w w' : World} {base B : Nat} {v : Value} {ls : List (List Int)}
theorem OwnT.blk (h : OwnT w base v ls) : ∀ g, v.ownBlock = some g → base ≤ g ∧ g < w.heap.size := fun g hg => h.lt g hg
theorem OwnT.form (h : OwnT w base v ls) : ∃ A cap, v = .slice A ls.length cap ∧ ls.length ≤ cap ∧ cap ≤ maxLen := by
  rcases h.2 with ⟨rfl, h0⟩ | ⟨g, cap, cur, rfl, hb, hh, hl, hm, hs, ht⟩
  · rw [h0]; exact ⟨none, 0, rfl, Nat.le_refl _, by simp [maxLen]⟩
  · exact ⟨some ⟨g, 0, none⟩, cap, rfl, hl, hm⟩
theorem OwnT.keep (h : OwnT w base v ls) (hk : ∀ g, base ≤ g → g < w.heap.size → w'.heap[g]? = w.heap[g]?) : OwnT w' base v ls := by
  refine ⟨h.1, ?_⟩
  rcases h.2 with h0 | ⟨g, cap, cur, rfl, hb, hh, h'⟩
  · exact .inl h0
  · exact .inr ⟨g, cap, cur, rfl, hb, (hk g hb (h.lt g rfl).2).trans hh, h'⟩
theorem OwnT.alloc (h : OwnT w base v ls) (o : Obj) : OwnT (w.alloc o) base v ls := World.ownsRow.alloc h o
theorem OwnT.drewN (h : OwnT w base v ls) (j : Nat) : OwnT (w.drewN j) base v ls := h.keep fun _ _ _ => rfl
theorem OwnT.below (h : OwnT w base v ls) (hb : Below w.heap.size w w') : OwnT w' base v ls := h.keep fun g _ hg => hb.block g hg
theorem OwnT.less (h : OwnT w base v ls) (hB : B ≤ base) : OwnT w B v ls := by
  refine ⟨h.1, ?_⟩
  rcases h.2 with h0 | ⟨g, cap, cur, rfl, hb, hh, h'⟩
  · exact .inl h0
  · exact .inr ⟨g, cap, cur, rfl, Nat.le_trans hB hb, hh, h'⟩
theorem OwnT.lit (w : World) (hb : base ≤ w.heap.size) (l : List Int) : OwnT (w.alloc (.cells #[.string (strOfNums l)] 9)) base (.slice (some ⟨w.heap.size, 0, none⟩) 1 1) [l] :=
  World.ownsRow_lit w #[.string (strOfNums l)] 1 hb (by simp [maxLen]) rfl
theorem OwnT.row {A : Option Addr} {n c : Nat} (h : OwnT w base (.slice A n c) ls) (hl : ls.length = n) (hn : 0 < n) :
    ∃ g, A = some ⟨g, 0, none⟩ ∧ base ≤ g ∧ g < w.heap.size ∧ (∀ j, j < n → w.cell? ⟨g, j, none⟩ = some (.string (strOfNums (ls.getD j [])))) ∧ ∀ j, w.frozen? ⟨g, j, none⟩ = false := by
  have hk := h.blk
  unfold OwnT at h
  rw [hl] at h
  rcases h.2 with ⟨e2, h0⟩ | ⟨g, cap, cur, e2, hb, hh, h3⟩
  · cases e2; omega
  · cases e2
    refine ⟨g, rfl, hb, (hk g rfl).2, fun j hj => ?_, fun j => World.ownsRow.frozenAt h j⟩
    rw [World.ownsRow.cellAt h j (by omega)]
    simp [txts, List.getD_eq_getElem?_getD, hl, hj]
theorem OwnT.stored {g n c : Nat} (h : OwnT w base (.slice (some ⟨g, 0, none⟩) n c) ls) (hl : ls.length = n) (j : Nat) (l : List Int) :
    OwnT (w.setCell ⟨g, j, none⟩ (.string (strOfNums l))) base (.slice (some ⟨g, 0, none⟩) n c) (ls.set j l) := by
  unfold OwnT at h ⊢
  rw [List.length_set]
  unfold txts at h ⊢
  rw [List.map_set]
  rw [hl] at h ⊢
  exact (World.ownsRow.stored h j (.string (strOfNums l))).1
end
section
variable {P : Program} {ops : Array Oper} {rest : List Oper} {o : Oper} {a : Act} {Q : Exit → Act → World → Prop}
/-- append(own, text): the literal's cell has just been laid -/
theorem wpList_txt (w : World) (hgd : o.guard = none) (s x : Operand) (t : TypeId)
    (ho : o.op = .call { callee := .builtin .append, args := #[s, x], argTypes := #[t, t] })
    (i : TypeInfo) (z : Value) (bytes : Nat) (ht : P.underlying t = some (.slice 9)) (hi : P.info? 9 = some i) (hz : i.zero = some z)
    (hsize : i.size = 1) (hby : i.bytes = bytes) (hzs : z.cells.size = 1) (base : Nat) (v : Value) (ls : List (List Int)) (hs : a.eval s = v) (hown : OwnT w base v ls)
    (S : ByteArray) (l : List Int) (hS : S = strOfNums l) (hx : a.eval x = .slice (some ⟨w.heap.size, 0, none⟩) 1 1) (h63 : ls.length + 1 ≤ maxLen) (hbytes : (ls.length + 1) * bytes ≤ 140737488355328) (hbase : base ≤ w.heap.size) (L : Nat) (hL : ls.length + 1 = L)
    (h : ∀ A' c' w', L ≤ c' → c' ≤ maxLen → OwnT w' base (.slice A' L c') (ls ++ [l]) → Below base w w' → wpList P ops Q rest (a.put o.dst (.slice A' L c')) w') : wpList P ops Q (o :: rest) a (w.alloc (.cells #[.string S] 9)) := by
  subst hS
  have hsz : (w.alloc (.cells #[.string (strOfNums l)] 9)).heap.size = w.heap.size + 1 := by simp
  obtain ⟨v', w', hrun, h2, h3, _⟩ := run_append_own (P := P) (w.alloc (.cells #[.string (strOfNums l)] 9)) base t o.type 9 i z 1 bytes ht hi hz hsize hby hzs (by omega) v _ _ (hown.alloc _) ⟨w.heap.size, 0, none⟩ 1 1 (txts [l]) (by simp [txts]) (by
    intro j u hu
    have hj : j = 0 := by
      have := (List.getElem?_eq_some_iff.1 hu).1
      rw [txts_len] at this; simp at this; exact this
    subst hj
    have : u = .string (strOfNums l) := by simpa [txts] using hu.symm
    subst this
    simp [go_sem]) (txts_one _) h63 hbytes (by omega)
  have O : OwnT w' base v' (ls ++ [l]) := by
    unfold OwnT
    rw [List.length_append]
    unfold txts at h2 ⊢
    rw [List.map_append]
    exact h2
  have eL : (ls ++ [l]).length = L := by rw [List.length_append]; exact hL
  obtain ⟨A', c', e2, g1, g2⟩ := O.form
  rw [eL] at e2 g1
  subst e2
  have hh := h A' c' w' g1 g2 O (((Below.refl _ _).alloc hbase _).grown h3 (by omega) fun g hg => (hown.blk g hg).1)
  refine wpList_plain hgd fun K hK => ?_
  unfold Oper.wp execOp
  simp only [ho, resolve, invoke, builtin, Sem.run_bind, Sem.run_pure, Result.andThen_ok, List.map_toArray, List.map_cons, List.map_nil, hs, hx, hrun]
  exact hK _ _ hh
end
end Go.Proofs.YtmkekdmkefkfiaaDoor.txC

/-
  A region that draws its order, whose operations are quiet but for the last one, which waits for all others: one walk in the text's order serves every order.
-/
namespace Go.Proofs.YtmkekdmkefkfiaaDoor.lastC
open Go.ChangeShapes Go.WideShapes Go.ChangeAt Go.RowKit
set_option linter.unusedVariables false
/-- edges go back; nothing is guarded -/
def backB (L : List Oper) : Bool := (List.range L.length).all fun j => match L[j]? with
  | some o => o.guard.isNone && o.after.all fun e => !Region.binds .any e || decide (e.on < j)
  | none => true
/-- the last one waits for all -/
def waitB (n : Nat) (o : Oper) : Bool := (List.range n).all fun i => o.after.any fun e => Region.binds .any e && (e.on == i)
section
variable {P : Program} {L l : List Oper} {o : Oper} {C : World → Prop}
theorem backB_spec (h : backB L = true) {j : Nat} {oj : Oper} (hj : L[j]? = some oj) : oj.guard = none ∧ ∀ e ∈ oj.after, Region.binds .any e = true → e.on < j := by
  have hlt : j < L.length := by
    rcases Nat.lt_or_ge j L.length with h1 | h1
    · exact h1
    · rw [List.getElem?_eq_none h1] at hj; cases hj
  have h1 := List.all_eq_true.1 h j (List.mem_range.2 hlt)
  rw [hj] at h1
  simp only [Bool.and_eq_true] at h1
  refine ⟨by simpa using h1.1, fun e he hb => ?_⟩
  have h2 := Array.all_eq_true'.1 h1.2 e he
  rw [hb] at h2
  simpa using h2
theorem waitB_spec {n : Nat} (h : waitB n o = true) {i : Nat} (hi : i < n) : ∃ e ∈ o.after, Region.binds .any e = true ∧ e.on = i := by
  have h1 := List.all_eq_true.1 h i (List.mem_range.2 hi)
  obtain ⟨e, he, hb⟩ := Array.any_eq_true'.1 h1
  simp only [Bool.and_eq_true, beq_iff_eq] at hb
  exact ⟨e, he, hb.1, hb.2⟩
/-- the marks of the whole region, and of its head -/
structure Marks (n : Nat) (m mh : Array Bool) : Prop where
  size : m.size = n + 1
  sizeh : mh.size = n
  same : ∀ i, i < n → m[i]? = mh[i]?
  last : m[n]? = some false
theorem Marks.set {n i : Nat} {m mh : Array Bool} (h : Marks n m mh) (hi : i < n) : Marks n (m.setIfInBounds i true) (mh.setIfInBounds i true) := by
  refine ⟨by simp [h.size], by simp [h.sizeh], fun j hj => ?_, ?_⟩
  · simp only [Array.getElem?_setIfInBounds]
    split
    · rename_i e; subst e; simp [h.size, h.sizeh, hi]; omega
    · exact h.same j hj
  · simp only [Array.getElem?_setIfInBounds]
    rw [if_neg (by omega)]; exact h.last
theorem Marks.getD {n i : Nat} {m mh : Array Bool} (h : Marks n m mh) (hi : i < n) (d : Bool) : m.getD i d = mh.getD i d := by
  have := h.same i hi
  simp only [Array.getD_eq_getD_getElem?, this]
variable {m mh : Array Bool} {n : Nat}
theorem head_at (l : List Oper) (o : Oper) {i : Nat} (hi : i < l.length) : (l ++ [o]).toArray[i]? = l.toArray[i]? := by
  simp [List.getElem?_append_left hi]
theorem ready_head (hb : backB (l ++ [o]) = true) (M : Marks l.length m mh) {i : Nat} (hi : i < l.length) : i ∈ Region.ready .any (l ++ [o]).toArray m ↔ i ∈ Region.ready .any l.toArray mh := by
  rw [mem_ready, mem_ready, head_at l o hi, M.getD hi true]
  refine and_congr Iff.rfl (exists_congr fun oi => and_congr_right fun hoi => ?_)
  have hoi2 : (l ++ [o])[i]? = some oi := by rw [List.getElem?_append_left hi]; simpa using hoi
  obtain ⟨_, hback⟩ := backB_spec hb hoi2
  refine forall_congr' fun e => ?_
  constructor
  · intro h he hbd
    rw [← M.getD (Nat.lt_trans (hback e he hbd) hi) false]; exact h he hbd
  · intro h he hbd
    rw [M.getD (Nat.lt_trans (hback e he hbd) hi) false]; exact h he hbd
theorem getD_flip {mh : Array Bool} {i : Nat} (hi : i < mh.size) (h : mh.getD i true = true) : mh.getD i false = true := by
  simp [hi] at h ⊢; exact h
theorem all_marked (hb : backB (l ++ [o]) = true) (M : Marks l.length m mh) (hr : Region.ready .any l.toArray mh = []) : ∀ i, i < l.length → mh.getD i true = true := by
  intro i
  induction i using Nat.strongRecOn with
  | _ i ih =>
    intro hi
    cases hg : mh.getD i true with
    | true => rfl
    | false =>
      exfalso
      have hoi : (l ++ [o])[i]? = some (l[i]'hi) := by rw [List.getElem?_append_left hi]; exact List.getElem?_eq_getElem hi
      obtain ⟨_, hback⟩ := backB_spec hb hoi
      have : i ∈ Region.ready .any l.toArray mh := mem_ready.2 ⟨hg, l[i]'hi, by simp [List.getElem?_eq_getElem hi], fun e he hbd => by
        have h1 := hback e he hbd
        exact getD_flip (by rw [M.sizeh]; omega) (ih e.on h1 (by omega))⟩
      rw [hr] at this
      cases this
theorem last_at (l : List Oper) (o : Oper) : (l ++ [o]).toArray[l.length]? = some o := by simp
theorem last_ready (hb : backB (l ++ [o]) = true) (M : Marks l.length m mh) (hall : ∀ i, i < l.length → mh.getD i true = true) : l.length ∈ Region.ready .any (l ++ [o]).toArray m := by
  have hoi : (l ++ [o])[l.length]? = some o := by simp
  obtain ⟨_, hback⟩ := backB_spec hb hoi
  refine mem_ready.2 ⟨by simp [Array.getD_eq_getD_getElem?, M.last], o, last_at l o, fun e he hbd => ?_⟩
  have h1 := hback e he hbd
  rw [M.getD h1 false]
  exact getD_flip (by rw [M.sizeh]; exact h1) (hall _ h1)
theorem ready_last (hw : waitB l.length o = true) (M : Marks l.length m mh) (hr : l.length ∈ Region.ready .any (l ++ [o]).toArray m) : ∀ i, i < l.length → mh.getD i true = true := by
  intro i hi
  obtain ⟨_, o', ho', hall⟩ := mem_ready.1 hr
  rw [last_at] at ho'
  cases ho'
  obtain ⟨e, he, hbd, rfl⟩ := waitB_spec hw hi
  have h1 := hall e he hbd
  rw [M.getD hi false] at h1
  have h2 : e.on < mh.size := by rw [M.sizeh]; exact hi
  simp [h2] at h1 ⊢; exact h1
theorem ready_le {i : Nat} (hr : i ∈ Region.ready .any (l ++ [o]).toArray m) : i ≤ l.length := by
  obtain ⟨_, o', ho', _⟩ := mem_ready.1 hr
  have : i < (l ++ [o]).toArray.size := (Array.getElem?_eq_some_iff.1 ho').1
  simp at this; omega
theorem none_ready (M : Marks l.length m mh) (hall : ∀ i, i < l.length → mh.getD i true = true) : Region.ready .any (l ++ [o]).toArray (m.setIfInBounds l.length true) = [] := by
  refine List.eq_nil_iff_forall_not_mem.2 fun j hj => ?_
  have hle := ready_le hj
  obtain ⟨h1, _⟩ := mem_ready.1 hj
  by_cases e : j = l.length
  · subst e
    simp [Array.getD_eq_getD_getElem?, M.size] at h1
  · have hj2 : j < l.length := by omega
    have h2 := hall j hj2
    rw [← M.getD hj2 true] at h2
    simp only [Array.getD_eq_getD_getElem?, Array.getElem?_setIfInBounds] at h1 h2
    rw [if_neg (fun h => e h.symm)] at h1
    rw [h1] at h2; cases h2
variable {Q : Exit → Act → World → Prop} {a : Act} {w : World}
theorem any_last (hb : backB (l ++ [o]) = true) (M : Marks l.length m mh) (hall : ∀ i, i < l.length → mh.getD i true = true)
    (hq : wpOp P (l ++ [o]).toArray Q l.length (fun a' w' => Q .normal a' w') a w) (g : Nat) : wpAny P .any (l ++ [o]).toArray Q (g + 1) m a w := by
  refine ⟨fun h0 => ?_, fun i hi => ?_⟩
  · have := last_ready hb M hall
    rw [h0] at this; cases this
  · have hle := ready_le hi
    have hin : i = l.length := by
      by_cases e : i = l.length
      · exact e
      · exfalso
        obtain ⟨h1, _⟩ := mem_ready.1 hi
        have h2 := hall i (by omega)
        rw [M.getD (by omega) true] at h1
        rw [h1] at h2; cases h2
    subst hin
    refine wpOp_mono (fun a' w' h => ?_) hq
    have hn := none_ready (o := o) M hall
    cases g with
    | zero => exact ⟨hn, h⟩
    | succ g => exact ⟨fun _ => h, fun i hi' => by rw [hn] at hi'; cases hi'⟩
theorem any_of_head (hb : backB (l ++ [o]) = true) (hw : waitB l.length o = true) : ∀ (f : Nat) (m mh : Array Bool) (a : Act) (w : World), Marks l.length m mh → C w →
    wpAnyQ P .any l.toArray C (fun a' => ∀ w', C w' → wpOp P (l ++ [o]).toArray Q l.length (fun a' w' => Q .normal a' w') a' w') f mh a → wpAny P .any (l ++ [o]).toArray Q (f + 1) m a w
  | 0, m, mh, a, w, M, hc, h => any_last hb M (all_marked hb M h.1) (h.2 w hc) 0
  | f + 1, m, mh, a, w, M, hc, h => by
    by_cases hr : Region.ready .any l.toArray mh = []
    · exact any_last hb M (all_marked hb M hr) (h.1 hr w hc) (f + 1)
    · refine ⟨fun h0 => ?_, fun i hi => ?_⟩
      · exfalso
        obtain ⟨j, hj⟩ := List.exists_mem_of_ne_nil _ hr
        have hjl : j < l.length := by
          obtain ⟨_, o', ho', _⟩ := mem_ready.1 hj
          have : j < l.toArray.size := (Array.getElem?_eq_some_iff.1 ho').1
          simpa using this
        have := (ready_head hb M hjl).2 hj
        rw [h0] at this; cases this
      · have hle := ready_le hi
        by_cases e : i = l.length
        · subst e
          have hall := ready_last hw M hi
          exfalso
          obtain ⟨j, hj⟩ := List.exists_mem_of_ne_nil _ hr
          obtain ⟨h1, o', ho', _⟩ := mem_ready.1 hj
          have hjl : j < l.toArray.size := (Array.getElem?_eq_some_iff.1 ho').1
          have h2 := hall j (by simpa using hjl)
          rw [h1] at h2; cases h2
        · have hil : i < l.length := by omega
          have hq := h.2 i ((ready_head hb M hil).1 hi)
          have hoi : (l ++ [o])[i]? = some (l[i]'hil) := by rw [List.getElem?_append_left hil]; exact List.getElem?_eq_getElem hil
          obtain ⟨hg, _⟩ := backB_spec hb hoi
          have hwant : ∀ y, Region.wanted (l[i]'hil) y = true := fun y => by simp [Region.wanted, hg]
          unfold qOp at hq
          simp only [List.getElem?_toArray, List.getElem?_eq_getElem hil, hwant, if_true] at hq
          unfold wpOp
          simp only [List.getElem?_toArray, hoi, hwant, if_true]
          exact .inl (Oper.wp_of_quiet hc (fun a' w' hc' h' => any_of_head hb hw f _ _ a' w' (M.set hil) hc' h') hq)
/-- one walk in the text's order, and the last operation behind it, in whatever world the draws have left -/
theorem wp_region_last {id : Nat} (n : Nat) (hm : P.follows .mixedOrders = true) (hB : Region.lexB .any (L.take n).toArray = true) (hb : backB L = true) (hw : (match L.drop n with | [o] => waitB n o | _ => false) = true)
    (h : wpQuiet P (L.take n).toArray (fun w' => ∃ j, w' = w.drewN j) (fun a' => ∀ w', (∃ j, w' = w.drewN j) → wpList P L.toArray Q (L.drop n) a' w') (L.take n) a) : (Code.region id L.toArray true).wp P Q a w := by
  obtain ⟨o, ho, hwo⟩ : ∃ o, L.drop n = [o] ∧ waitB n o = true := by
    revert hw
    cases hd : L.drop n with
    | nil => intro hw; cases hw
    | cons o r =>
      cases r with
      | nil => intro hw; exact ⟨o, rfl, hw⟩
      | cons _ _ => intro hw; cases hw
  have hL : L.take n ++ [o] = L := by rw [← ho]; exact List.take_append_drop n L
  have hn : (L.take n).length = n := by
    have h1 := congrArg List.length ho
    rw [List.length_drop] at h1
    rw [List.length_take]; simp at h1; omega
  obtain ⟨l, hl⟩ : ∃ l, l = L.take n := ⟨_, rfl⟩
  rw [← hl] at hL hn hB h
  rw [ho] at h
  subst hL
  subst hn
  simp only [Region.lexB, Bool.and_eq_true] at hB
  refine wp_region_any hm ?_
  have hx := wpAnyQ_lex (C := fun w' => ∃ j, w' = w.drewN j) (md := .any) hB.1 l 0 (Array.replicate l.toArray.size false) a (by simp) (by simpa using hB.2) h
  have hfin := any_of_head (P := P) (C := fun w' => ∃ j, w' = w.drewN j) (Q := Q) hb hwo l.length (Array.replicate (l ++ [o]).toArray.size false) (Array.replicate l.toArray.size false) a { w with drawn := w.drawn + 1 }
    ⟨by simp, by simp, fun i hi => by simp only [Array.getElem?_replicate]; rw [if_pos (by simp; omega), if_pos (by simpa using hi)], by simp⟩ ⟨1, rfl⟩ ?_
  · simpa using hfin
  · have e : (fun a' => ∀ w', (∃ j, w' = w.drewN j) → wpList P (l ++ [o]).toArray Q [o] a' w') = (fun a' => ∀ w', (∃ j, w' = w.drewN j) → wpOp P (l ++ [o]).toArray Q l.length (fun a' w' => Q .normal a' w') a' w') := by
      funext a'
      refine forall_congr fun w' => ?_
      simp only [wpOp, last_at, wpList]
    rw [e] at hx
    exact hx
end
end Go.Proofs.YtmkekdmkefkfiaaDoor.lastC

/-
  A region that draws its order, all of whose operations but the last only make memory; the last one waits for all.
-/
namespace Go.Proofs.YtmkekdmkefkfiaaDoor.freeC
open Go.ChangeShapes Go.WideShapes Go.ChangeAt Go.RowKit
open Go.Proofs.YtmkekdmkefkfiaaDoor.lastC
set_option linter.unusedVariables false
section
variable {P : Program} {L : List Oper} {Q : Exit → Act → World → Prop}
/-- of each of the first n operations, from number s on -/
def UpFrom (R : Nat → Oper → Prop) : Nat → Nat → List Oper → Prop
  | 0, _, _ => True
  | _ + 1, _, [] => True
  | n + 1, s, o :: r => R s o ∧ UpFrom R n (s + 1) r
theorem up_from {R : Nat → Oper → Prop} : ∀ (n : Nat) (L : List Oper) (s : Nat), UpFrom R n s L → ∀ i o, i < n → L[i]? = some o → R (s + i) o
  | 0, _, _, _, i, o, hi, _ => by omega
  | n + 1, [], _, _, i, o, _, h => by simp at h
  | n + 1, o' :: r, s, h, 0, o, _, ho => by
    obtain rfl : o' = o := by simpa using ho
    exact h.1
  | n + 1, o' :: r, s, h, i + 1, o, hi, ho => by
    have := up_from n r (s + 1) h.2 i o (by omega) (by simpa using ho)
    rw [show s + (i + 1) = s + 1 + i by omega]; exact this
/-- the rule: the first n operations only make memory, V tells what each has given; operation n ends the region -/
theorem wp_region_end {id : Nat} {a : Act} {w : World} (n : Nat) (hm : P.follows .mixedOrders = true) (tab : List (Option Nat)) (hb : backE L = true) (ht : slots tab L = true) (hl : tab.length = a.tmps.size)
    (hn : L.length = n + 1) (hw : (match L[n]? with | some o => waitB n o && o.guard.isNone | none => false) = true)
    (us0 : Nat → Value) (ha : frame tab a us0 = a) (G : World → Prop) (V : Nat → Value → World → Prop) (hG : G w.drew) (hkeep : ∀ i v w w', Below w.heap.size w w' → V i v w → V i v w')
    (hstep : UpFrom (Step P L Q tab a G V) n 0 L)
    (hlast : ∀ us w o, L[n]? = some o → G w → (∀ i, i < n → V i (us i) w) → o.wp P (frame tab a us) w (fun a' w' => ∃ v, a' = (frame tab a us).put o.dst v ∧ Q .normal ((frame tab a us).put o.dst v) w') Q) : (Code.region id L.toArray true).wp P Q a w := by
  refine wp_region_free hm tab hb ht hl us0 ha (fun m us w => (m n = false ∧ G w ∧ ∀ j, m j = true → V j (us j) w) ∨ (m n = true ∧ (∀ j, j < n → m j = true) ∧ Q .normal (frame tab a us) w)) (.inl ⟨rfl, hG, fun j h => by cases h⟩) ?_ ?_
  · intro i o ho m us w' hJ hmi hd
    have hil : i < n + 1 := by rw [← hn]; exact (List.getElem?_eq_some_iff.1 ho).1
    have hput : ∀ us v, (frame tab a us).put o.dst v = frame tab a (upd us i v) := by
      intro us v
      have h1 := List.all_eq_true.1 ht i (List.mem_range.2 (by omega))
      rw [ho] at h1
      exact frame_put us h1 hl v
    rcases hJ with ⟨hmn, hg, hv⟩ | ⟨hmn, hall, _⟩
    · by_cases e : i = n
      · subst e
        rw [ho] at hw
        simp only [Bool.and_eq_true, Option.isNone_iff_eq_none] at hw
        have hall : ∀ j, j < i → m j = true := by
          intro j hj
          obtain ⟨e, he, hb2, e2⟩ := waitB_spec hw.1 hj
          have h3 := Array.all_eq_true'.1 hd e he
          rw [hb2, e2] at h3
          simpa using h3
        rw [if_pos (show Region.wanted o (yielded L.toArray (frame tab a us).tmps) = true by simp [Region.wanted, hw.2])]
        have hs := hlast us w' o ho hg fun j hj => hv j (hall j hj)
        refine Oper.wp_mono (fun a2 w2 h2 => ?_) hs
        obtain ⟨v, ha, h2⟩ := h2
        refine ⟨v, ha, .inr ⟨upd_same _ _ _, fun j hj => by rw [upd_other _ _ (by omega)]; exact hall j hj, ?_⟩⟩
        rw [← hput us v]; exact h2
      · have hs := up_from n L 0 hstep i o (by omega) ho m us w' hg hv hd
        rw [Nat.zero_add] at hs
        have hset : ∀ v w'', Below w'.heap.size w' w'' → V i v w'' → ∀ j, upd m i true j = true → V j (upd us i v j) w'' := by
          intro v w'' hb hvi j hj
          by_cases e : j = i
          · subst e; rw [upd_same]; exact hvi
          · rw [upd_other _ _ e]; rw [upd_other _ _ e] at hj; exact hkeep _ _ _ _ hb (hv j hj)
        have hmn2 : upd m i true n = false := by rw [upd_other _ _ (fun h => e h.symm)]; exact hmn
        split
        · rename_i hw2
          rw [if_pos hw2] at hs
          refine Oper.wp_mono (fun a2 w2 h2 => ?_) hs
          obtain ⟨v, ha, hg2, hb2, hv2⟩ := h2
          exact ⟨v, ha, .inl ⟨hmn2, hg2, hset v w2 hb2 hv2⟩⟩
        · rename_i hw2
          rw [if_neg hw2] at hs
          exact .inl ⟨hmn2, hg, hset undef w' (Below.refl _ _) hs⟩
    · exfalso
      by_cases e : i = n
      · subst e; rw [hmn] at hmi; cases hmi
      · rw [hall i (by omega)] at hmi; cases hmi
  · intro m us w' hm hJ
    rcases hJ with ⟨hmn, _⟩ | ⟨_, _, hq⟩
    · rw [hm n (by omega)] at hmn; cases hmn
    · exact hq
end
end Go.Proofs.YtmkekdmkefkfiaaDoor.freeC

/-
  A region that draws its order, all of whose operations but the last only make memory; each is waited for by a later one, so the last one comes last.
-/
namespace Go.Proofs.YtmkekdmkefkfiaaDoor.freeC
open Go.ChangeShapes Go.WideShapes Go.ChangeAt Go.RowKit
set_option linter.unusedVariables false
section
variable {P : Program} {L : List Oper} {Q : Exit → Act → World → Prop}
theorem done_more {o : Oper} {m m' : Nat → Bool} (h : doneB o m = true) (hm : ∀ j, m j = true → m' j = true) : doneB o m' = true := by
  unfold doneB at h ⊢
  rw [Array.all_eq_true'] at h ⊢
  intro e he
  have := h e he
  cases hb : Region.binds .any e with
  | false => rfl
  | true => rw [hb] at this; simpa using hm e.on (by simpa using this)
/-- each of the first n is waited for by a later one -/
def coverB (n : Nat) (L : List Oper) : Bool := (List.range n).all fun i => (List.range (n + 1)).any fun j => decide (i < j) && (match L[j]? with | some o => needs o [i] | none => false)
theorem cover_all {n : Nat} (hc : coverB n L = true) {m : Nat → Bool} (hm : ∀ i o, L[i]? = some o → m i = true → doneB o m = true) {o : Oper} (ho : L[n]? = some o) (hd : doneB o m = true) : ∀ k i, i < n → n - i ≤ k → m i = true
  | 0, i, hi, hk => by omega
  | k + 1, i, hi, hk => by
    have h1 := List.all_eq_true.1 hc i (List.mem_range.2 hi)
    obtain ⟨j, hj, h2⟩ := List.any_eq_true.1 h1
    have hj2 := List.mem_range.1 hj
    simp only [Bool.and_eq_true, decide_eq_true_eq] at h2
    obtain ⟨hij, h3⟩ := h2
    cases hL : L[j]? with
    | none => rw [hL] at h3; cases h3
    | some o2 =>
      rw [hL] at h3
      by_cases e : j = n
      · subst e
        rw [ho] at hL
        obtain rfl := Option.some.inj hL
        exact need_ok h3 hd i (by simp)
      · have hmj := cover_all hc hm ho hd k j (by omega) (by omega)
        exact need_ok h3 (hm j o2 hL hmj) i (by simp)
theorem wp_region_cov {id : Nat} {a : Act} {w : World} (n : Nat) (hm : P.follows .mixedOrders = true) (tab : List (Option Nat)) (hb : backE L = true) (ht : slots tab L = true) (hl : tab.length = a.tmps.size)
    (hn : L.length = n + 1) (hw : (match L[n]? with | some o => o.guard.isNone | none => false) = true) (hc : coverB n L = true)
    (us0 : Nat → Value) (ha : frame tab a us0 = a) (G : World → Prop) (V : Nat → Value → World → Prop) (hG : G w.drew) (hkeep : ∀ i v w w', Below w.heap.size w w' → V i v w → V i v w')
    (hstep : UpFrom (Step P L Q tab a G V) n 0 L)
    (hlast : ∀ us w o, L[n]? = some o → G w → (∀ i, i < n → V i (us i) w) → o.wp P (frame tab a us) w (fun a' w' => ∃ v, a' = (frame tab a us).put o.dst v ∧ Q .normal ((frame tab a us).put o.dst v) w') Q) : (Code.region id L.toArray true).wp P Q a w := by
  refine wp_region_free hm tab hb ht hl us0 ha (fun m us w => (∀ i o, L[i]? = some o → m i = true → doneB o m = true) ∧ ((m n = false ∧ G w ∧ ∀ j, m j = true → V j (us j) w) ∨ (m n = true ∧ (∀ j, j < n → m j = true) ∧ Q .normal (frame tab a us) w))) ⟨fun i o _ h => (by cases h), .inl ⟨rfl, hG, fun j h => by cases h⟩⟩ ?_ ?_
  · intro i o ho m us w' ⟨hcl, hJ⟩ hmi hd
    have hil : i < n + 1 := by rw [← hn]; exact (List.getElem?_eq_some_iff.1 ho).1
    have hput : ∀ us v, (frame tab a us).put o.dst v = frame tab a (upd us i v) := by
      intro us v
      have h1 := List.all_eq_true.1 ht i (List.mem_range.2 (by omega))
      rw [ho] at h1
      exact frame_put us h1 hl v
    have hgrow : ∀ j, m j = true → upd m i true j = true := by
      intro j hj
      by_cases e : j = i
      · subst e; exact upd_same _ _ _
      · rw [upd_other _ _ e]; exact hj
    have hcl2 : ∀ j o2, L[j]? = some o2 → upd m i true j = true → doneB o2 (upd m i true) = true := by
      intro j o2 h2 hj
      by_cases e : j = i
      · subst e
        rw [ho] at h2
        obtain rfl := Option.some.inj h2
        exact done_more hd hgrow
      · rw [upd_other _ _ e] at hj
        exact done_more (hcl j o2 h2 hj) hgrow
    rcases hJ with ⟨hmn, hg, hv⟩ | ⟨hmn, hall, _⟩
    · by_cases e : i = n
      · subst e
        rw [ho] at hw
        simp only [Option.isNone_iff_eq_none] at hw
        have hall : ∀ j, j < i → m j = true := fun j hj => cover_all hc hcl ho hd (i - j) j hj (Nat.le_refl _)
        rw [if_pos (show Region.wanted o (yielded L.toArray (frame tab a us).tmps) = true by simp [Region.wanted, hw])]
        have hs := hlast us w' o ho hg fun j hj => hv j (hall j hj)
        refine Oper.wp_mono (fun a2 w2 h2 => ?_) hs
        obtain ⟨v, ha, h2⟩ := h2
        refine ⟨v, ha, hcl2, .inr ⟨upd_same _ _ _, fun j hj => by rw [upd_other _ _ (by omega)]; exact hall j hj, ?_⟩⟩
        rw [← hput us v]; exact h2
      · have hs := up_from n L 0 hstep i o (by omega) ho m us w' hg hv hd
        rw [Nat.zero_add] at hs
        have hset : ∀ v w'', Below w'.heap.size w' w'' → V i v w'' → ∀ j, upd m i true j = true → V j (upd us i v j) w'' := by
          intro v w'' hb hvi j hj
          by_cases e : j = i
          · subst e; rw [upd_same]; exact hvi
          · rw [upd_other _ _ e]; rw [upd_other _ _ e] at hj; exact hkeep _ _ _ _ hb (hv j hj)
        have hmn2 : upd m i true n = false := by rw [upd_other _ _ (fun h => e h.symm)]; exact hmn
        split
        · rename_i hw2
          rw [if_pos hw2] at hs
          refine Oper.wp_mono (fun a2 w2 h2 => ?_) hs
          obtain ⟨v, ha, hg2, hb2, hv2⟩ := h2
          exact ⟨v, ha, hcl2, .inl ⟨hmn2, hg2, hset v w2 hb2 hv2⟩⟩
        · rename_i hw2
          rw [if_neg hw2] at hs
          exact ⟨hcl2, .inl ⟨hmn2, hg, hset undef w' (Below.refl _ _) hs⟩⟩
    · exfalso
      by_cases e : i = n
      · subst e; rw [hmn] at hmi; cases hmi
      · rw [hall i (by omega)] at hmi; cases hmi
  · intro m us w' hm ⟨_, hJ⟩
    rcases hJ with ⟨hmn, _⟩ | ⟨_, _, hq⟩
    · rw [hm n (by omega)] at hmn; cases hmn
    · exact hq
end
end Go.Proofs.YtmkekdmkefkfiaaDoor.freeC

/-
  The document's addresses: a text's parts between bytes.
-/
namespace Go.Proofs.YtmkekdmkefkfiaaDoor.adC
open Go.ChangeShapes Go.WideShapes Go.ChangeAt Go.RowKit
open Go.Proofs.YtmkekdmkefkfiaaDoor.memC Go.Proofs.YtmkekdmkefkfiaaDoor.genC Go.Proofs.YtmkekdmkefkfiaaDoor.butC Go.Proofs.YtmkekdmkefkfiaaDoor.freeC Go.Proofs.YtmkekdmkefkfiaaDoor.txC
set_option linter.unusedVariables false
/-- the parts between bytes c: those that there are, and the one that is under way -/
def spl (c : Int) : List Int → List (List Int) → List Int → List (List Int)
  | [], acc, cur => acc ++ [cur]
  | x :: r, acc, cur => if x = c then spl c r (acc ++ [cur]) [] else spl c r acc (cur ++ [x])
def splL (c : Int) (xs : List Int) : List (List Int) := spl c xs [] []
theorem spl_len (c : Int) : ∀ xs acc cur, (spl c xs acc cur).length ≤ acc.length + xs.length + 1
  | [], acc, cur => by simp [spl]
  | x :: r, acc, cur => by
    unfold spl
    split
    · have := spl_len c r (acc ++ [cur]) []; simp at this ⊢; omega
    · have := spl_len c r acc (cur ++ [x]); simp at this ⊢; omega
theorem spl_one (c : Int) : ∀ xs acc cur, acc.length < (spl c xs acc cur).length
  | [], acc, cur => by simp [spl]
  | x :: r, acc, cur => by
    unfold spl
    split
    · have := spl_one c r (acc ++ [cur]) []; simp at this; omega
    · exact spl_one c r acc (cur ++ [x])
theorem splL_len (c : Int) (xs : List Int) : (splL c xs).length ≤ xs.length + 1 := by have := spl_len c xs [] []; simpa [splL] using this
theorem splL_pos (c : Int) (xs : List Int) : 0 < (splL c xs).length := spl_one c xs [] []
theorem spl_all (c : Int) {Q : Int → Prop} : ∀ xs acc cur, (∀ x ∈ xs, Q x) → (∀ l ∈ acc, ∀ x ∈ l, Q x) → (∀ x ∈ cur, Q x) → ∀ l ∈ spl c xs acc cur, ∀ x ∈ l, Q x
  | [], acc, cur, _, h2, h3 => by
    intro l hl
    rcases List.mem_append.1 hl with h | h
    · exact h2 l h
    · rw [List.mem_singleton.1 h]; exact h3
  | y :: r, acc, cur, h1, h2, h3 => by
    unfold spl
    split
    · refine spl_all c r _ _ (fun x hx => h1 x (by simp [hx])) (fun l hl => ?_) (by simp)
      rcases List.mem_append.1 hl with h | h
      · exact h2 l h
      · rw [List.mem_singleton.1 h]; exact h3
    · refine spl_all c r _ _ (fun x hx => h1 x (by simp [hx])) h2 fun x hx => ?_
      rcases List.mem_append.1 hx with h | h
      · exact h3 x h
      · rw [List.mem_singleton.1 h]; exact h1 y (by simp)
theorem spl_part (c : Int) : ∀ xs acc cur, ∀ l ∈ spl c xs acc cur, l ∈ acc ∨ l.length ≤ cur.length + xs.length
  | [], acc, cur => by
    intro l hl
    rcases List.mem_append.1 hl with h | h
    · exact .inl h
    · rw [List.mem_singleton.1 h]; exact .inr (by simp)
  | y :: r, acc, cur => by
    intro l hl
    unfold spl at hl
    split at hl
    · rcases spl_part c r _ _ l hl with h | h
      · rcases List.mem_append.1 h with h | h
        · exact .inl h
        · rw [List.mem_singleton.1 h]; exact .inr (by omega)
      · exact .inr (by simp at h ⊢; omega)
    · rcases spl_part c r _ _ l hl with h | h
      · exact .inl h
      · exact .inr (by simp at h ⊢; omega)
theorem splL_byte (c : Int) {xs : List Int} (h : ∀ x ∈ xs, Byte x) : ∀ l ∈ splL c xs, ∀ x ∈ l, Byte x := spl_all c xs [] [] h (by simp) (by simp)
/-- a part of a text -/
theorem str_cut {xs : List Int} {lo hi : Nat} (h1 : lo ≤ hi) (h2 : hi ≤ xs.length) {lz hz : Int} (hl : lz = (lo : Int)) (hh : hz = (hi : Int)) (w : World) :
    (Instr.slice 9 (.string (strOfNums xs)) (some (.int .i64 lz)) (some (.int .i64 hz)) none).run Tryd.prog w = .ok (.string (strOfNums ((xs.drop lo).take (hi - lo)))) w := by
  subst hl hh
  have hsz := strOfNums_size xs
  rw [run_slice_string w _ _ _ _ _ _ Tryd.underlying9 (by omega) (by omega) (by omega)]
  refine congrArg (fun q : ByteArray => Result.ok (Value.string q) w) ?_
  apply ByteArray.ext
  simp [strOfNums, ByteArray.data_extract, List.extract_eq_take_drop, List.map_take, List.map_drop]
/-- the state of the loop -/
structure SX (w : World) (c : Int) (xs : List Int) (T : List (List Int)) (i : Nat) (v : Value) (wr : World) : Prop where
  ex : ∃ acc cur A n cap, v = .slice A n cap ∧ acc.length + 1 = n ∧ n ≤ i + 1 ∧ cur.length ≤ i ∧ OwnT wr w.heap.size (.slice A n cap) (acc ++ [cur]) ∧ spl c (xs.drop i) acc cur = T ∧ Below w.heap.size w wr
def SplRet (w : World) (T : List (List Int)) (e : Ending) (w' : World) : Prop := ∃ A n cap, e = .returned (.slice A n cap) ∧ T.length = n ∧ OwnT w' w.heap.size (.slice A n cap) T ∧ Below w.heap.size w w'
def spV (g n cap k p j : Nat) (S0 SC SX SD : ByteArray) : Nat → Value → World → Prop
  | 0, v, _ => v = .slice (some ⟨g, 0, none⟩) n cap
  | 1, v, _ => v = .slice (some ⟨g, 0, none⟩) n cap
  | 2, v, _ => v = .int .i64 n
  | 3, v, _ => v = .int .i64 k
  | 4, v, _ => v = .pointer (some ⟨g, k, none⟩)
  | 5, v, _ => v = .string SC
  | 6, v, _ => v = .string S0
  | 7, v, _ => v = .int .i64 p
  | 8, v, _ => v = .int .i64 p
  | 9, v, _ => v = .int .i64 j
  | 10, v, _ => v = .string SX
  | 11, v, _ => v = .string SD
  | 12, v, _ => v = .pointer (some ⟨g, k, none⟩)
  | _, _, _ => True
theorem spV.keep (g n cap k p j : Nat) (S0 SC SX SD : ByteArray) (i : Nat) (v : Value) (w w' : World) (hb : Below w.heap.size w w') (h : spV g n cap k p j S0 SC SX SD i v w) : spV g n cap k p j S0 SC SX SD i v w' := by
  unfold spV at h ⊢
  split at h <;> exact h
def spT : List (Option Nat) := [none, none, none, none, none, none, none, none, none, none, none, none, none, none, none, none, none, none, none, none, none, none, some 0, some 1, some 2, some 3, some 4, some 5, some 6, some 7, some 8, some 9, some 10, some 11, some 12, none]
set_option maxRecDepth 100000 in
set_option maxHeartbeats 2000000 in
theorem split_any (xs : List Int) (c : Int) (w : World) (hy : ∀ x ∈ xs, Byte x) (hc0 : 0 ≤ c) (hc1 : c ≤ 255) (hn : xs.length ≤ 10000) :
    Calls Tryd.prog 28 #[.string (strOfNums xs), .int .u8 c] w (SplRet w (splL c xs)) := by
  obtain ⟨i0, hi0, hz0, hz1, hz2⟩ := info_parts string_inf
  have T1 := Lib.hid hi0; have T2 := Lib.hid hz0; have T3 := Lib.hid hz1; have T4 := Lib.hid hz2
  obtain ⟨L, hL⟩ : ∃ L, L = xs.length := ⟨_, rfl⟩
  have hsz : (strOfNums xs).size = L := by rw [strOfNums_size, hL]
  have hL1 : L ≤ 10000 := by omega
  have IDX := Lib.hid (fun (i : Nat) (hi : i < L) (w' : World) => str_at (xs := xs) hy (i := i) (by omega) (z := (i : Int)) rfl w')
  have CUT0 := Lib.hid (fun (i : Nat) (hi : i < L) (w' : World) => str_cut (xs := xs) (lo := i) (hi := i + 1) (by omega) (by omega) (lz := (i : Int)) (hz := ((i + 1 : Nat) : Int)) rfl rfl w')
  have BY := Lib.hid (fun (i : Nat) (hi : i < L) => getD_byte hy (k := i) (by omega))
  have DR := Lib.hid (fun (i : Nat) (hi : i < L) => (show xs.drop i = xs.getD i 0 :: xs.drop (i + 1) by
    rw [List.getD_eq_getElem?_getD, List.getElem?_eq_getElem (by omega)]
    exact List.drop_eq_getElem_cons (by omega)))
  have DE := Lib.hid (show ∀ i, L ≤ i → xs.drop i = [] from fun i hi => List.drop_eq_nil_of_le (by omega))
  obtain ⟨T, hT⟩ : ∃ T, T = splL c xs := ⟨_, rfl⟩
  have ST0 := Lib.hid (show SX w c xs T 0 (.slice (some ⟨w.heap.size, 0, none⟩) 1 1) (w.alloc (.cells #[.string { data := #[] }] 9)) from ⟨[], [], _, _, _, rfl, rfl, by omega, by simp, OwnT.lit w (Nat.le_refl _) [], by rw [hT]; rfl, alloc_below _ _⟩)
  have HL := Lib.hid hL
  rw [← hT]
  generalize strOfNums xs = S0 at *
  clear hT hy hi0 hz0 hz1 hz2 hL
  go_enter Tryd.func28, Tryd.ntmps28
  go_wp2_with fail
  go_loopw [5, 6] (fun v iv wr => ∃ i : Nat, i ≤ L ∧ iv = .int .i64 i ∧ SX w c xs T i v wr) (fun _ iv _ => L - (intOf iv).toNat)
  case atStart => exact ⟨0, by omega, rfl, ST0.out⟩
  case round =>
    obtain ⟨i, hi, rfl, acc, cur, A, n, cap, rfl, hacc, hni, hcur, O, hspl, Bw⟩ := hrel
    have HB := Lib.hid Bw
    have HO := Lib.hid O
    have HSP := Lib.hid hspl
    have HA := Lib.hid hacc
    have HLN := Lib.hid (show (acc ++ [cur]).length = n by rw [List.length_append]; exact hacc)
    by_cases hlt : i < L
    · have ID := Lib.hid (IDX.out i hlt)
      obtain ⟨x0, x1⟩ := BY.out i hlt
      have HD := Lib.hid (DR.out i hlt)
      have hz : (i : Int) < (L : Int) := by omega
      have CU := Lib.hid (CUT0.out i hlt)
      have HXC := Lib.hid (show (xs.drop i).take (i + 1 - i) = [xs.getD i 0] by rw [HD.out, show i + 1 - i = 1 by omega]; rfl)
      rw [HXC.out] at CU
      generalize xs.getD i 0 = x at *
      clear Bw O hspl
      by_cases hx : x = c
      · have hx1 : (x == c) = true := by simpa using hx
        have HN := Lib.hid (show spl c (xs.drop (i + 1)) (acc ++ [cur]) [] = T by
          have h := HSP.out
          rw [HD.out, spl, if_pos hx] at h; exact h)
        subst hx
        clear HXC HD
        go_wp2_with (first
          | (refine wpList_runG (by rfl) _ (index_run rfl rfl rfl (ID.out _)) ?_)
          | (at_builtin; (refine wpList_txt wr rfl (.tmp 19) (.tmp 20) _ rfl i0 _ 16 Tryd.underlying54 T1.out T2.out T3.out T4.out rfl w.heap.size (.slice A n cap) (acc ++ [cur]) (by rfl) HO.out _ [] (by rfl) (by rfl) (by rw [HLN.out]; simp only [maxLen]; omega) (by rw [HLN.out]; omega) HB.out.size (n + 1) (by rw [HLN.out]) ?_)
             intro A' c' w' g1 g2 O' B'
             have HS := Lib.hid (show SX w x xs T (i + 1) (.slice A' (n + 1) c') w' from ⟨acc ++ [cur], [], A', n + 1, c', rfl, by rw [HLN.out], by omega, by simp, O', HN.out, HB.out.trans B'⟩)
             clear O' B'))
        go_roundw
        case rel => exact ⟨i + 1, by omega, by go_num, HS.out⟩
        case measure => simp [intOf]; omega
      · have hx1 : (x == c) = false := by simpa using hx
        have HN := Lib.hid (show spl c (xs.drop (i + 1)) acc (cur ++ [x]) = T by
          have h := HSP.out
          rw [HD.out, spl, if_neg hx] at h; exact h)
        have hlen : (acc ++ [cur]).length = n := by rw [List.length_append]; exact HA.out
        obtain ⟨g, rfl, hg1, hg2, hcell, hfr⟩ := HO.out.row hlen (by omega)
        obtain ⟨k, hk⟩ : ∃ k, k = acc.length := ⟨_, rfl⟩
        obtain ⟨j, hj⟩ : ∃ j, j = i + 1 := ⟨_, rfl⟩
        have hkn : k + 1 = n := by omega
        have hkz : (n : Int) - 1 = (k : Int) := by omega
        have hjz : (i : Int) + 1 = (j : Int) := by omega
        have hkn2 : k < n := by omega
        have hkz2 : (k : Int) < (n : Int) := by omega
        have hck := hcell k (by omega)
        rw [show (acc ++ [cur]).getD k [] = cur by rw [hk]; simp [List.getD_eq_getElem?_getD]] at hck
        have CC := Lib.hid (fun (w' : World) (hG : Gr wr w') => (show w'.cell? ⟨g, k, none⟩ = some (.string (strOfNums cur)) from (Below.cell hG (p := ⟨g, k, none⟩) hg2).trans hck))
        have CF := Lib.hid (fun (w' : World) (hG : Gr wr w') => (show w'.frozen? ⟨g, k, none⟩ = false from (Below.frozen hG (p := ⟨g, k, none⟩) hg2).trans (hfr k)))
        have ST := Lib.hid (fun (w' : World) (hG : Gr wr w') => (show SX w c xs T (i + 1) (.slice (some ⟨g, 0, none⟩) n cap) (w'.setCell ⟨g, k, none⟩ (.string (strOfNums (cur ++ [x])))) from
          ⟨acc, cur ++ [x], some ⟨g, 0, none⟩, n, cap, rfl, HA.out, by omega, by rw [List.length_append]; simp only [List.length_singleton]; omega, by
            have h := (HO.out.below hG).stored hlen k (cur ++ [x])
            rw [show (acc ++ [cur]).set k (cur ++ [x]) = acc ++ [cur ++ [x]] by rw [hk]; simp] at h
            exact h, HN.out, (HB.out.trans (hG.mono HB.out.size)).setCell (p := ⟨g, k, none⟩) hg1 _⟩))
        have CUT := Lib.hid (fun (w' : World) => (show (Instr.slice 9 (.string S0) (some (.int .i64 (i : Int))) (some (.int .i64 (j : Int))) none).run Tryd.prog w' = .ok (.string (strOfNums [x])) w' by rw [hj]; exact CU.out w'))
        have hadd : strOfNums cur ++ strOfNums [x] = strOfNums (cur ++ [x]) := strOf_append cur [x]
        have hs1 : (strOfNums cur).size ≤ i := by rw [strOfNums_size]; exact hcur
        have hs2 : (strOfNums [x]).size = 1 := by rw [strOfNums_size]; rfl
        have WK := Lib.hid (show IntKind.i64.wrap (k : Int) = (k : Int) from IntWalk.i64_in _ (by omega))
        have WJ := Lib.hid (show IntKind.i64.wrap (j : Int) = (j : Int) from IntWalk.i64_in _ (by omega))
        have HS4 := Lib.hid (show (strOfNums cur).size ≤ 9223372036854775806 by omega)
        have hs3 : (strOfNums cur).size + (strOfNums [x]).size ≤ 9223372036854775807 := by omega
        generalize strOfNums (cur ++ [x]) = SD at *
        generalize strOfNums [x] = SX at *
        generalize strOfNums cur = SC at *
        clear hcell hfr hck hlen hk hj hs1 HXC HD
        go_upto_region 7 with (first
          | (refine wpList_runG (by rfl) _ (index_run rfl rfl rfl (ID.out _)) ?_))
        refine with_act fun a0 ha0 => ?_
        have hl : spT.length = a0.tmps.size := by rw [ha0]; rfl
        have k0 : a0.tmps[0]?.getD undef = .string S0 := by rw [ha0]; rfl
        have k5 : a0.tmps[5]?.getD undef = .slice (some ⟨g, 0, none⟩) n cap := by rw [ha0]; rfl
        have k6 : a0.tmps[6]?.getD undef = .int .i64 i := by rw [ha0]; rfl
        refine wp_region_end 13 (by kernel_rfl) spT (by kernel_rfl) (by kernel_rfl) hl (by kernel_rfl) (by kernel_rfl) (fun q => a0.tmps[22 + q]?.getD undef) (by rw [ha0]; rfl) (Gr wr) (spV g n cap k i j S0 SC SX SD) (gr_drew _) (spV.keep _ _ _ _ _ _ _ _ _ _) ⟨?_, ?_, ?_, ?_, ?_, ?_, ?_, ?_, ?_, ?_, ?_, ?_, ?_, trivial⟩ ?_
        · refine step_plain [] (by kernel_rfl) rfl fun us w' hG hV => ?_
          have o5 := (frame_old2 (us := us) (a := a0) (show (spT[5]?).join = none from rfl)).trans k5
          generalize frame spT a0 us = fr at *
          exact val_ok (v := .slice (some ⟨g, 0, none⟩) n cap) (w' := w') (by go_simp) hG (Below.refl _ _) rfl
        · refine step_plain [] (by kernel_rfl) rfl fun us w' hG hV => ?_
          have o5 := (frame_old2 (us := us) (a := a0) (show (spT[5]?).join = none from rfl)).trans k5
          generalize frame spT a0 us = fr at *
          exact val_ok (v := .slice (some ⟨g, 0, none⟩) n cap) (w' := w') (by go_simp) hG (Below.refl _ _) rfl
        · refine step_plain [1] (by kernel_rfl) rfl fun us w' hG hV => ?_
          have e1 : us 1 = .slice (some ⟨g, 0, none⟩) n cap := hV 1 (by simp)
          have v1 := (frame_at2 (us := us) hl (show (spT[23]?).join = some 1 from rfl)).trans e1
          generalize frame spT a0 us = fr at *
          exact val_ok (v := .int .i64 n) (w' := w') (by go_simp) hG (Below.refl _ _) rfl
        · refine step_plain [2] (by kernel_rfl) rfl fun us w' hG hV => ?_
          have e2 : us 2 = .int .i64 n := hV 2 (by simp)
          have v2 := (frame_at2 (us := us) hl (show (spT[24]?).join = some 2 from rfl)).trans e2
          have hw := WK.out
          generalize frame spT a0 us = fr at *
          exact val_ok (v := .int .i64 k) (w' := w') (by go_simp) hG (Below.refl _ _) rfl
        · refine step_plain [0, 3] (by kernel_rfl) rfl fun us w' hG hV => ?_
          have e0 : us 0 = .slice (some ⟨g, 0, none⟩) n cap := hV 0 (by simp)
          have v0 := (frame_at2 (us := us) hl (show (spT[22]?).join = some 0 from rfl)).trans e0
          have e3 : us 3 = .int .i64 k := hV 3 (by simp)
          have v3 := (frame_at2 (us := us) hl (show (spT[25]?).join = some 3 from rfl)).trans e3
          generalize frame spT a0 us = fr at *
          exact val_ok (v := .pointer (some ⟨g, k, none⟩)) (w' := w') (by go_simp) hG (Below.refl _ _) rfl
        · refine step_plain [4] (by kernel_rfl) rfl fun us w' hG hV => ?_
          have e4 : us 4 = .pointer (some ⟨g, k, none⟩) := hV 4 (by simp)
          have v4 := (frame_at2 (us := us) hl (show (spT[26]?).join = some 4 from rfl)).trans e4
          have hc := CC.out w' hG
          generalize frame spT a0 us = fr at *
          exact val_ok (v := .string SC) (w' := w') (by go_simp) hG (Below.refl _ _) rfl
        · refine step_plain [] (by kernel_rfl) rfl fun us w' hG hV => ?_
          have o0 := (frame_old2 (us := us) (a := a0) (show (spT[0]?).join = none from rfl)).trans k0
          generalize frame spT a0 us = fr at *
          exact val_ok (v := .string S0) (w' := w') (by go_simp) hG (Below.refl _ _) rfl
        · refine step_plain [] (by kernel_rfl) rfl fun us w' hG hV => ?_
          have o6 := (frame_old2 (us := us) (a := a0) (show (spT[6]?).join = none from rfl)).trans k6
          generalize frame spT a0 us = fr at *
          exact val_ok (v := .int .i64 i) (w' := w') (by go_simp) hG (Below.refl _ _) rfl
        · refine step_plain [] (by kernel_rfl) rfl fun us w' hG hV => ?_
          have o6 := (frame_old2 (us := us) (a := a0) (show (spT[6]?).join = none from rfl)).trans k6
          generalize frame spT a0 us = fr at *
          exact val_ok (v := .int .i64 i) (w' := w') (by go_simp) hG (Below.refl _ _) rfl
        · refine step_plain [8] (by kernel_rfl) rfl fun us w' hG hV => ?_
          have e8 : us 8 = .int .i64 i := hV 8 (by simp)
          have v8 := (frame_at2 (us := us) hl (show (spT[30]?).join = some 8 from rfl)).trans e8
          have hw := WJ.out
          generalize frame spT a0 us = fr at *
          exact val_ok (v := .int .i64 j) (w' := w') (by go_simp) hG (Below.refl _ _) rfl
        · refine step_plain [6, 7, 9] (by kernel_rfl) rfl fun us w' hG hV => ?_
          have e6 : us 6 = .string S0 := hV 6 (by simp)
          have v6 := (frame_at2 (us := us) hl (show (spT[28]?).join = some 6 from rfl)).trans e6
          have e7 : us 7 = .int .i64 i := hV 7 (by simp)
          have v7 := (frame_at2 (us := us) hl (show (spT[29]?).join = some 7 from rfl)).trans e7
          have e9 : us 9 = .int .i64 j := hV 9 (by simp)
          have v9 := (frame_at2 (us := us) hl (show (spT[31]?).join = some 9 from rfl)).trans e9
          have hs := CUT.out w'
          generalize frame spT a0 us = fr at *
          exact val_ok (v := .string SX) (w' := w') (by go_simp) hG (Below.refl _ _) rfl
        · refine step_plain [5, 10] (by kernel_rfl) rfl fun us w' hG hV => ?_
          have e5 : us 5 = .string SC := hV 5 (by simp)
          have v5 := (frame_at2 (us := us) hl (show (spT[27]?).join = some 5 from rfl)).trans e5
          have e10 : us 10 = .string SX := hV 10 (by simp)
          have v10 := (frame_at2 (us := us) hl (show (spT[32]?).join = some 10 from rfl)).trans e10
          have hq := HS4.out
          generalize frame spT a0 us = fr at *
          exact val_ok (v := .string SD) (w' := w') (by go_simp) hG (Below.refl _ _) rfl
        · refine step_plain [0, 3] (by kernel_rfl) rfl fun us w' hG hV => ?_
          have e0 : us 0 = .slice (some ⟨g, 0, none⟩) n cap := hV 0 (by simp)
          have v0 := (frame_at2 (us := us) hl (show (spT[22]?).join = some 0 from rfl)).trans e0
          have e3 : us 3 = .int .i64 k := hV 3 (by simp)
          have v3 := (frame_at2 (us := us) hl (show (spT[25]?).join = some 3 from rfl)).trans e3
          generalize frame spT a0 us = fr at *
          exact val_ok (v := .pointer (some ⟨g, k, none⟩)) (w' := w') (by go_simp) hG (Below.refl _ _) rfl
        · intro us w' o ho hG hV
          obtain rfl := Option.some.inj ho
          have e11 : us 11 = .string SD := hV 11 (by decide)
          have e12 : us 12 = .pointer (some ⟨g, k, none⟩) := hV 12 (by decide)
          have v11 := (frame_at2 (us := us) hl (show (spT[33]?).join = some 11 from rfl)).trans e11
          have v12 := (frame_at2 (us := us) hl (show (spT[34]?).join = some 12 from rfl)).trans e12
          have hc := CC.out w' hG
          have hf := CF.out w' hG
          refine free_skip (w' := w'.setCell ⟨g, k, none⟩ (.string SD)) (by generalize frame spT a0 us = fr at *; go_simp) ⟨undef, rfl, ?_⟩
          have HW := Lib.hid (ST.out w' hG)
          subst ha0
          simp only [Act.put, frame, spT, fill]
          clear hV hl k0 k5 k6 hG e11 e12 v11 v12 hc hf
          generalize w'.setCell ⟨g, k, none⟩ (.string SD) = w8 at *
          go_wp2_with fail
          go_roundw
          case rel => exact ⟨i + 1, by omega, by go_num, HW.out⟩
          case measure => simp [intOf]; omega
    · have e : i = L := by omega
      subst e
      have HF := Lib.hid (show acc ++ [cur] = T by have h := HSP.out; rw [DE.out i (Nat.le_refl _)] at h; exact h)
      clear Bw O hspl
      go_wp2_with fail
      go_ret
      have h1 := HO.out
      rw [HF.out] at h1
      exact ⟨A, n, cap, rfl, by rw [← HF.out, List.length_append]; exact HA.out, h1, HB.out⟩
end Go.Proofs.YtmkekdmkefkfiaaDoor.adC
