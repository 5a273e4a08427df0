/-
  1 texts of a proof, joined.
-/
import Derived.Test.YtcnnpfjommiafaaMg13
import Derived.Test.YtcnnpfjommiafaaMg12

/-
  The program's own small functions on packets: whether they may be, are whole, where they end, what stands ahead of loads.
-/
namespace Go.Proofs.Ytcnnpfjommiafaa.fgC
open Go.ChangeShapes Go.WideShapes Go.ChangeAt Go.RowKit
open Go.Proofs.Ytcnnpfjommiafaa.memC Go.Proofs.Ytcnnpfjommiafaa.genC Go.Proofs.Ytcnnpfjommiafaa.butC Go.Proofs.Ytcnnpfjommiafaa.freeC Go.Proofs.Ytcnnpfjommiafaa.adC
open Go.Proofs.Ytcnnpfjommiafaa.pkC (Pkt pktL pktV pktT adrC)
set_option linter.unusedVariables false
theorem cmay_fg (p : Pkt) (A : Option Addr) (n c : Nat) (xs : List Int) (w : World) (hp : p.Ok) (hl : xs.length = n) (hn : n ≤ 9223372036854775807) :
    Calls Try.prog 21 #[.agg (pktV p A n c)] w (Ret w (.bool (mayP (p, xs)))) := by
  obtain ⟨W, hW⟩ : ∃ W, W = w.alloc (.cells (pktV p A n c) 28) := ⟨_, rfl⟩
  have R := Lib.hid (show W.heap[w.heap.size]? = some (.cells (pktV p A n c) 28 (0, 0)) by rw [hW]; exact heap_alloc_new _ _)
  have HB := Lib.hid (show Below w.heap.size w W by rw [hW]; exact alloc_below _ _)
  have I := Lib.hid (pkt_info hp A n c)
  have p0 := pkC.PkC.cell R.out (show (pktV p A n c)[0]? = some (.bool p.s) from (pkC.pkC hp A n c).src 0 _ rfl)
  have M4 := Lib.hid (pkC.cmay_pkt p A n c W hp hn)
  have M6 := Lib.hid (sxC.cmay_any p A n c W hp hn)
  unfold mayP
  simp only [hl]
  cases hs : p.s
  · rw [if_neg (by decide)]
    rw [hs] at p0
    generalize pktV p A n c = C at *
    clear hs hp hl
    go_enter Try.func21, Try.ntmps21
    go_upto_region 1 with fail
    rw [← hW]
    clear hW
    go_wp2_with (first
      | (refine wpList_load_row rfl 28 (.tmp 1) rfl (w.heap.size) rfl _ _ _ _ R.out Try.underlying28 rfl I.out ?_)
      | (go_at_call 36; refine M4.out.mono ?_; rintro e w2 ⟨rfl, hb⟩; have HB2 := Lib.hid hb; clear hb))
    go_ret
    exact ⟨rfl, HB.out.trans (HB2.out.mono HB.out.size)⟩
  · rw [if_pos rfl]
    rw [hs] at p0
    generalize pktV p A n c = C at *
    clear hs hp hl
    go_enter Try.func21, Try.ntmps21
    go_upto_region 1 with fail
    rw [← hW]
    clear hW
    go_wp2_with (first
      | (refine wpList_load_row rfl 28 (.tmp 1) rfl (w.heap.size) rfl _ _ _ _ R.out Try.underlying28 rfl I.out ?_)
      | (go_at_call 35; refine M6.out.mono ?_; rintro e w2 ⟨rfl, hb⟩; have HB2 := Lib.hid hb; clear hb))
    go_ret
    exact ⟨rfl, HB.out.trans (HB2.out.mono HB.out.size)⟩
theorem cwhole_fg (p : Pkt) (A : Option Addr) (n c : Nat) (xs : List Int) (w : World) (hp : p.Ok) : Calls Try.prog 22 #[.agg (pktV p A n c)] w (Ret w (.bool (wholeP (p, xs)))) := by
  obtain ⟨W, hW⟩ : ∃ W, W = w.alloc (.cells (pktV p A n c) 28) := ⟨_, rfl⟩
  have R := Lib.hid (show W.heap[w.heap.size]? = some (.cells (pktV p A n c) 28 (0, 0)) by rw [hW]; exact heap_alloc_new _ _)
  have HB := Lib.hid (show Below w.heap.size w W by rw [hW]; exact alloc_below _ _)
  have p1 := pkC.PkC.cell R.out (pkC.pkC hp A n c).off
  have p2 := pkC.PkC.cell R.out (pkC.pkC hp A n c).more
  obtain ⟨V, hV⟩ : ∃ V, V = wholeP (p, xs) := ⟨_, rfl⟩
  rw [← hV]
  unfold wholeP at hV
  have HV := Lib.hid hV
  simp only at HV
  generalize pktV p A n c = C at *
  generalize p.off = of_ at *
  generalize p.more = mo at *
  clear hp hV R
  by_cases h0 : of_ = 0
  · have hv := Lib.hid (show V = !mo by rw [HV.out, decide_eq_true h0]; simp)
    have q : (of_ == 0) = true := beq_iff_eq.2 h0
    clear h0
    go_enter Try.func22, Try.ntmps22
    go_upto_region 1 with fail
    rw [← hW]
    clear hW
    go_wp2_with (first | go_skip)
    go_ret
    exact ⟨ret_bool hv.out.symm, HB.out⟩
  · have hv := Lib.hid (show V = false by rw [HV.out, decide_eq_false h0]; rfl)
    have q : (of_ == 0) = false := beq_eq_false_iff_ne.2 h0
    clear h0
    go_enter Try.func22, Try.ntmps22
    go_upto_region 1 with fail
    rw [← hW]
    clear hW
    go_wp2_with (first | go_skip)
    go_ret
    exact ⟨ret_bool hv.out.symm, HB.out⟩
/-- how many bytes stand ahead -/
theorem heads_any (six : Bool) (w : World) : Calls Try.prog 20 #[.bool six] w fun e w' => e = .returned (.tuple #[.int .i64 (headN six), .int .i64 (pieceN six)]) ∧ w' = w := by
  cases six
  · go_enter Try.func20, Try.ntmps20
    go_wp2
    go_ret2
    exact ⟨rfl, rfl⟩
  · go_enter Try.func20, Try.ntmps20
    go_wp2
    go_ret2
    exact ⟨rfl, rfl⟩
theorem heads_four (w : World) : Calls Try.prog 20 #[.bool false] w fun e w' => e = .returned (.tuple #[.int .i64 20, .int .i64 20]) ∧ w' = w := heads_any false w
theorem heads_six (w : World) : Calls Try.prog 20 #[.bool true] w fun e w' => e = .returned (.tuple #[.int .i64 40, .int .i64 48]) ∧ w' = w := heads_any true w
/-- where a piece ends -/
theorem end_any (p : Pkt) (A : Option Addr) (n c : Nat) (w : World) (hp : p.Ok) (hl : -9223372036854775808 ≤ p.off + (n : Int) ∧ p.off + (n : Int) ≤ 9223372036854775807) :
    Calls Try.prog 49 #[.agg (pktV p A n c)] w (Ret w (.int .i64 (p.off + (n : Int)))) := by
  obtain ⟨W, hW⟩ : ∃ W, W = w.alloc (.cells (pktV p A n c) 28) := ⟨_, rfl⟩
  have R := Lib.hid (show W.heap[w.heap.size]? = some (.cells (pktV p A n c) 28 (0, 0)) by rw [hW]; exact heap_alloc_new _ _)
  have HB := Lib.hid (show Below w.heap.size w W by rw [hW]; exact alloc_below _ _)
  have p1 := pkC.PkC.cell R.out (pkC.pkC hp A n c).off
  have p2 := pkC.PkC.cell R.out (pkC.pkC hp A n c).load
  have hw : IntKind.i64.wrap (p.off + (n : Int)) = p.off + (n : Int) := IntWalk.i64_in _ hl
  generalize pktV p A n c = C at *
  generalize p.off = of_ at *
  clear hp hl R
  go_enter Try.func49, Try.ntmps49
  go_upto_region 1 with fail
  rw [← hW]
  clear hW
  go_wp2
  go_ret
  exact ⟨rfl, HB.out⟩
end Go.Proofs.Ytcnnpfjommiafaa.fgC
