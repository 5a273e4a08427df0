/-
  1 texts of a proof, joined.
-/
import Derived.Test.YthbgjjfhgbkbdaaMg9
import Derived.Test.YthbgjjfhgbkbdaaMg10

/-
  The code's sha: Of parts.
-/
namespace Go.Proofs.Ythbgjjfhgbkbdaa.shaC
open Go.ChangeShapes Go.WideShapes Go.ChangeAt Go.RowKit
open Go.Proofs.Ythbgjjfhgbkbdaa.memC Go.Proofs.Ythbgjjfhgbkbdaa.genC Go.Proofs.Ythbgjjfhgbkbdaa.shaM Go.Proofs.Ythbgjjfhgbkbdaa.shaN Go.Proofs.Ythbgjjfhgbkbdaa.butC Go.Proofs.Ythbgjjfhgbkbdaa.partsC
set_option linter.unusedVariables false
/-- while parts are put behind -/
structure PR (w : World) (k : Nat) (xs : List Int) (wr : World) : Prop where
  sum : SumV wr k xs
  out : Arr .u8 54 wr w.heap.size (List.replicate 20 0)
  bel : Below w.heap.size w wr
  lt : w.heap.size < k
theorem PR.but {w wr w' : World} {k : Nat} {xs ys : List Int} (D : PR w k xs wr) (S : SumV w' k ys) (B : But k wr w') : PR w k ys w' :=
  ⟨S, B.arr D.out (by have := D.lt; omega), D.bel.trans (B.to_below (Nat.le_of_lt D.lt) D.bel.size), D.lt⟩
set_option maxRecDepth 100000 in
set_option maxHeartbeats 1000000 in
theorem ofp_any (P : Option Addr) (m c : Nat) (ps : List Part) (w : World) (hp : Parts w w.heap.size P ps) (hl : ps.length = m) (hm : m ≤ 100) :
    Calls Try.prog 49 #[.slice P m c] w (ShaRet w (catL ps)) := by
  obtain ⟨Z, hZ⟩ : ∃ Z, Z = zeroC.toArray := ⟨_, rfl⟩
  have hzv := zero70
  rw [← hZ] at hzv
  have HPT := Lib.hid hp
  have HL := Lib.hid hl
  have hms : nsum ps ≤ 10000 * ps.length := by
    have : ∀ (l : List Part), (∀ p ∈ l, PartAt w w.heap.size p) → nsum l ≤ 10000 * l.length := by
      intro l
      induction l with
      | nil => intro _; exact Nat.le_refl _
      | cons p r ih => intro h; have h1 := (h p (by simp)).few; have h2 := ih fun q hq => h q (by simp [hq]); simp only [nsum, List.length_cons]; omega
    exact this ps hp.all
  have HMS := Lib.hid hms
  have U1 := Lib.hid (show (Try.prog.info? 73).map (·.size) = some ((sumL []).toArray).size by rw [sum_info]; simp [sumL_len])
  have ZS := Lib.hid (show Z.size = ((sumL []).toArray).size by rw [hZ, sumL_nil])
  have HO := Lib.hid (sumC_one (gOf (hashH [])) (restL []) ([] : List Int).length)
  have R0 := Arr.new w .u8 54 (List.replicate 20 0)
  have z0 := alloc_size w (.cells ((List.replicate 20 (0 : Int)).map (Value.int .u8)).toArray 54)
  have B0 := alloc_below w (.cells ((List.replicate 20 (0 : Int)).map (Value.int .u8)).toArray 54)
  have HR0 := Lib.hid R0
  have HZ0 := Lib.hid z0
  have HB0 := Lib.hid B0
  clear hp hl hms hZ R0 z0 B0
  go_enter Try.func49, Try.ntmps49
  go_upto_region 1 with fail
  change Code.wp _ _ _ _ (w.alloc (.cells ((List.replicate 20 (0 : Int)).map (Value.int .u8)).toArray 54))
  generalize w.alloc (.cells ((List.replicate 20 (0 : Int)).map (Value.int .u8)).toArray 54) = w0 at *
  go_upto_region 2 with (first
    | (go_at_call 50; refine (new_any _).mono ?_; rintro e w1 ⟨rfl, B1⟩)
    | (refine wpList_store_row rfl 73 (.tmp 3) (.tmp 6) rfl w1.heap.size _ rfl rfl _ _ (heap_alloc_new _ _) U1.out ZS.out HO.out ?_))
  rw [World.setRow_alloc_new]
  have P1 : PR w w1.heap.size (catL (ps.take 0)) (w1.alloc (.cells (sumL []).toArray 73)) :=
    ⟨SumAt.new w1 (gOf_len (hashH_ok []).1) (rest_len []), (HR0.out.below B1 HR0.out.lt).alloc _, (HB0.out.trans (B1.mono HB0.out.size)).alloc (HB0.out.trans (B1.mono HB0.out.size)).size _, by have := B1.size; have := HZ0.out; omega⟩
  generalize w1.alloc (.cells (sumL []).toArray 73) = w2 at *
  generalize w1.heap.size = k at *
  have HP1 := Lib.hid P1
  clear P1 B1 hzv
  have hm2 : m ≤ 9223372036854775807 := by omega
  go_wp2_with fail
  go_loopw [9] (fun i wr => ∃ j : Nat, j ≤ m ∧ i = .int .i64 j ∧ PR w k (catL (ps.take j)) wr) (fun i _ => m - (intOf i).toNat)
  case atStart => exact ⟨0, by omega, rfl, HP1.out⟩
  case round =>
    obtain ⟨j, hj, rfl, PP⟩ := hrel
    have HPP := Lib.hid PP
    by_cases hlt : j < m
    · have hlp : j < ps.length := by rw [HL.out]; exact hlt
      have PB := HPT.out.below PP.bel (Nat.le_refl _)
      obtain ⟨b, o, rfl, hbb, hc, hpa⟩ := PB.cell hlp
      have hjz : (j : Int) < (m : Int) := by omega
      have hs := catL_snoc ps j hlp
      have hsz : (catL (ps.take j)).length ≤ 10000 * 100 := by
        rw [catL_len (w := w) (B := w.heap.size) _ (fun p hp => HPT.out.all p (List.mem_of_mem_take hp))]
        have h1 := nsum_take ps j
        have h2 := HMS.out
        rw [HL.out] at h2
        omega
      have TK := Lib.hid (take_any k (catL (ps.take j)) ps[j].bs ps[j].A ps[j].n ps[j].c wr PP.sum (hpa.nums.more PP.bel.size) (off_below hpa.nums (Nat.le_of_lt PP.lt)) hpa.cap hpa.max (catL_byte (w := w) (B := w.heap.size) fun p hp => HPT.out.all p (List.mem_of_mem_take hp)) hpa.byte (by have := hpa.few; omega))
      rw [← hs] at TK
      have HS := Lib.hid hs
      generalize ps[j].A = pA at *
      generalize ps[j].n = pn at *
      generalize ps[j].c = pc at *
      clear hs PB hpa hsz PP
      go_wp2_with (first
        | (go_at_call 51; (with_reducible refine TK.out.mono ?_); rintro e w4 ⟨rfl, S4, B4⟩
           have P4 := Lib.hid (HPP.out.but S4 B4)
           clear S4 B4))
      clear hc
      go_roundw
      case rel => exact ⟨j + 1, by omega, by go_num, P4.out⟩
      case measure => simp [intOf]; omega
    · have e : j = m := by omega
      subst e
      have hF : catL (ps.take j) = catL ps := by rw [List.take_of_length_le (by rw [HL.out]; exact Nat.le_refl _)]
      rw [hF] at PP
      have hlS : (shaL (catL ps)).length = 20 := by unfold shaL; simp
      have G1 := Lib.hid PP.sum.row
      have U2 := Lib.hid (show (Try.prog.info? 73).map (·.size) = some ((sumC (gOf (hashH (catL ps))) (restL (catL ps)) (catL ps).length).toArray).size by rw [sum_info]; simp [sumC_len PP.sum.lg PP.sum.lr])
      have hcb := catL_byte (w := w) (B := w.heap.size) (ps := ps) HPT.out.all
      have hcl : (catL ps).length ≤ 100000000 := by
        rw [catL_len (w := w) (B := w.heap.size) ps HPT.out.all]
        have h2 := HMS.out
        rw [HL.out] at h2
        omega
      have DG := Lib.hid (digest_any (catL ps) wr hcb hcl)
      have HFF := Lib.hid hlS
      have U3 := Lib.hid (show (Try.prog.info? 54).map (·.size) = some (((shaL (catL ps)).map (Value.int .u8)).toArray).size by rw [digest_info]; simp [hlS])
      have HQ := Lib.hid PP
      clear hF hlt hj hlS hcb hcl PP HPP
      go_wp2_with (first
        | (refine wpList_load_row rfl 73 (.tmp 3) rfl k rfl _ _ _ _ G1.out Try.underlying73 rfl U2.out ?_)
        | (go_at_call 38; refine DG.out.mono ?_; rintro e w5 ⟨rfl, B5⟩
           have G2 := Lib.hid (HQ.out.out.below B5 HQ.out.out.lt).row)
        | (refine wpList_store_row rfl 54 (.tmp 2) (.tmp 17) rfl w.heap.size _ rfl rfl _ _ G2.out U3.out (by simp [HFF.out]) (nums_one _) ?_))
      refine bodyPost_ret (v := .agg ((shaL (catL ps)).map (Value.int .u8)).toArray) (results_cell_row Try.results49 _ _ w.heap.size _ _ _ _ (by rfl) (setRow_heap _ _ _ _ _ _ G2.out) Try.underlying54 rfl U3.out) rfl ⟨rfl, ?_⟩
      exact (HQ.out.bel.trans (B5.mono HQ.out.bel.size)).trans ⟨rfl, rfl, rfl, by simp, fun z hz => setRow_other _ _ _ _ (by omega)⟩
end Go.Proofs.Ythbgjjfhgbkbdaa.shaC
