/-
  7 texts of a proof, joined.
-/
import Derived.Test.YtniimgbljhmcoaaDoorMg12
import Derived.Test.YtniimgbljhmcoaaDoorMg22
import Derived.Laws.BitsAllLaws
import Derived.Test.YtniimgbljhmcoaaDoorMg29
import Derived.Test.YtniimgbljhmcoaaDoorMg21
import Derived.Test.YtniimgbljhmcoaaDoorMg10
import Derived.Test.YtniimgbljhmcoaaDoorMg30
import Derived.Test.YtniimgbljhmcoaaDoorMg4
import Derived.Test.YtniimgbljhmcoaaDoorMg5
import Derived.Test.YtniimgbljhmcoaaDoorMg25
import Derived.Test.YtniimgbljhmcoaaDoorMg2
import Derived.Test.YtniimgbljhmcoaaDoorMg11
import Derived.Test.YtniimgbljhmcoaaDoorMg27
import Derived.Test.YtniimgbljhmcoaaDoorMg31

/-
  Parse of some bytes: the document's.
-/
namespace Go.Proofs.YtniimgbljhmcoaaDoor.sxC
open Go.ChangeShapes Go.WideShapes Go.ChangeAt Go.RowKit
open Go.Proofs.YtniimgbljhmcoaaDoor.memC Go.Proofs.YtniimgbljhmcoaaDoor.genC Go.Proofs.YtniimgbljhmcoaaDoor.butC Go.Proofs.YtniimgbljhmcoaaDoor.freeC Go.Proofs.YtniimgbljhmcoaaDoor.adC Go.Proofs.YtniimgbljhmcoaaDoor.pkC
open Go.Proofs.YtniimgbljhmcoaaDoor.octC (Fr Rd RdD stopped)
set_option linter.unusedVariables false
/-- b[f:e], f within -/
theorem cut_at (b o n c f e m d : Nat) (zf ze : Int) (hf : (f : Int) = zf) (he : (e : Int) = ze) (h1 : f ≤ e) (h2 : e ≤ c) (h3 : f < c) (hm : e - f = m) (hd : c - f = d) (w : World) :
    (Instr.slice 32 (.slice (some ⟨b, o, none⟩) n c) (some (.int .i64 zf)) (some (.int .i64 ze)) none).run Tryd.prog w = .ok (.slice (some ⟨b, o + f, none⟩) m d) w := by
  subst hf he hm hd
  have h := cut_two (some ⟨b, o, none⟩) n c f e h1 h2 w
  rw [if_neg (by omega), show (some (⟨b, o, none⟩ : Addr)).map (·.add f) = some ⟨b, o + f, none⟩ by simp [memC.add_plain]] at h
  exact h
theorem cut_tz (A : Option Addr) (n c f m d : Nat) (zf : Int) (hf : (f : Int) = zf) (h1 : f ≤ n) (h2 : n ≤ c) (hm : n - f = m) (hd : c - f = d) (A2 : Option Addr) (hA : A2 = if c = f then A else A.map (·.add f)) (w : World) :
    (Instr.slice 32 (.slice A n c) (some (.int .i64 zf)) none none).run Tryd.prog w = .ok (.slice A2 m d) w := by
  subst hf hm hd hA
  exact cut_tail A n c f h1 h2 w
/-- some bytes of a slice -/
theorem nums_at {w : World} {B b o n : Nat} {bs : List Int} (h : Nums .u8 w B (some ⟨b, o, none⟩) n bs) (f m : Nat) (hm : f + m ≤ n) : Nums .u8 w B (some ⟨b, o + f, none⟩) m ((bs.drop f).take m) := by
  refine ⟨by rw [List.length_take, List.length_drop, h.len]; omega, fun h0 => ?_⟩
  obtain ⟨b', o', e, hb, hc⟩ := h.at_ (by omega)
  cases e
  refine ⟨b, o + f, rfl, hb, fun i hi => ?_⟩
  have := hc (f + i) (by omega)
  rw [Nat.add_assoc, this]
  rw [List.getD_eq_getElem?_getD, List.getD_eq_getElem?_getD, List.getElem?_take, if_pos hi, List.getElem?_drop]
theorem get2_at (b o n c k : Nat) (bs : List Int) (w : World) (hb : Nums .u8 w w.heap.size (some ⟨b, o, none⟩) n bs) (hy : ∀ x ∈ bs, Byte x) (hk : k + 2 ≤ n) (d : Nat) (hd : 2 ≤ d) (hm : d ≤ 9223372036854775807) :
    Calls Tryd.prog 50 #[.slice (some ⟨b, o + k, none⟩) 2 d] w fun e w' => e = .returned (.int .u64 (w2 bs k)) ∧ w = w' := by
  have h := octC.getref_any (some ⟨b, o + k, none⟩) 2 d _ w (nums_at hb k 2 hk) (by decide) hd hm (fun x hx => hy x (List.mem_of_mem_drop (List.mem_of_mem_take hx)))
  rw [octC.last8_take _ 2 (by decide), getZ2 (by rw [List.length_drop, hb.len]; omega)] at h
  have e : w2 (bs.drop k) 0 = w2 bs k := by unfold w2; simp only [List.getD_eq_getElem?_getD, List.getElem?_drop]; rfl
  rw [e] at h
  exact h
section
variable {w w1 w2 : World} {g : Nat} {A : Option Addr} {c : Nat} {X : List Int} {p : Pkt}
end
end Go.Proofs.YtniimgbljhmcoaaDoor.sxC

/-
  Whether an option has as many bytes as it should: the document's.
-/
namespace Go.Proofs.YtniimgbljhmcoaaDoor.opC
open Go.ChangeShapes Go.WideShapes Go.ChangeAt Go.RowKit
open Go.Proofs.YtniimgbljhmcoaaDoor.memC Go.Proofs.YtniimgbljhmcoaaDoor.genC Go.Proofs.YtniimgbljhmcoaaDoor.butC Go.Proofs.YtniimgbljhmcoaaDoor.freeC Go.Proofs.YtniimgbljhmcoaaDoor.adC
set_option linter.unusedVariables false
def rightB (k : Int) (m : Nat) : Bool := decide (wantN k m = 0) || decide (wantN k m = 2 + m)
theorem ret_right {a b : Bool} (h : a = b) : Ending.returned (Value.bool a) = .returned (.bool b) := by rw [h]
theorem rright_any (k : Int) (m : Nat) (n : Int) (w : World) (hk : Byte k) (hn : n = ((2 + m : Nat) : Int)) (hm : m ≤ 38) :
    Calls Tryd.prog 83 #[.int .u8 k, .int .i64 n] w fun e w' => e = .returned (.bool (rightB k m)) ∧ w' = w := by
  have HN := Lib.hid hn
  have HM := Lib.hid hm
  have HK := Lib.hid hk
  clear hn hm hk
  by_cases h2 : k = 2
  · subst h2
    have hv0 : rightB 2 m = (n == (4 : Int)) := by
      have h1 := HN.out
      by_cases e : m = 2
      · rw [h1, e]; rfl
      · rw [show (n == (4 : Int)) = false from beq_eq_false_iff_ne.2 (by omega)]
        simp [rightB, wantN, sizeK]; omega
    have hv := Lib.hid hv0
    clear hv0
    go_enter Tryd.func83, Tryd.ntmps83
    go_wp2_with fail
    go_ret
    exact ⟨ret_right (by rw [hv.out]), rfl⟩
  have q2 : (k == (2 : Int)) = false := beq_eq_false_iff_ne.2 h2
  by_cases h3 : k = 3
  · subst h3
    have hv0 : rightB 3 m = (n == (3 : Int)) := by
      have h1 := HN.out
      by_cases e : m = 1
      · rw [h1, e]; rfl
      · rw [show (n == (3 : Int)) = false from beq_eq_false_iff_ne.2 (by omega)]
        simp [rightB, wantN, sizeK]; omega
    have hv := Lib.hid hv0
    clear hv0
    go_enter Tryd.func83, Tryd.ntmps83
    go_wp2_with fail
    go_ret
    exact ⟨ret_right (by rw [hv.out]), rfl⟩
  have q3 : (k == (3 : Int)) = false := beq_eq_false_iff_ne.2 h3
  by_cases h4 : k = 4
  · subst h4
    have hv0 : rightB 4 m = (n == (2 : Int)) := by
      have h1 := HN.out
      by_cases e : m = 0
      · rw [h1, e]; rfl
      · rw [show (n == (2 : Int)) = false from beq_eq_false_iff_ne.2 (by omega)]
        simp [rightB, wantN, sizeK]; omega
    have hv := Lib.hid hv0
    clear hv0
    go_enter Tryd.func83, Tryd.ntmps83
    go_wp2_with fail
    go_ret
    exact ⟨ret_right (by rw [hv.out]), rfl⟩
  have q4 : (k == (4 : Int)) = false := beq_eq_false_iff_ne.2 h4
  by_cases h5 : k = 5
  · subst h5
    by_cases e10 : n = 10
    · subst e10
      have hv := Lib.hid (show rightB 5 m = true by rw [show m = 8 by have h1 := HN.out; omega]; rfl)
      go_enter Tryd.func83, Tryd.ntmps83
      go_wp2_with fail
      go_ret
      exact ⟨ret_right (by rw [hv.out]), rfl⟩
    have p10 : (n == (10 : Int)) = false := beq_eq_false_iff_ne.2 e10
    by_cases e18 : n = 18
    · subst e18
      have hv := Lib.hid (show rightB 5 m = true by rw [show m = 16 by have h1 := HN.out; omega]; rfl)
      go_enter Tryd.func83, Tryd.ntmps83
      go_wp2_with fail
      go_ret
      exact ⟨ret_right (by rw [hv.out]), rfl⟩
    have p18 : (n == (18 : Int)) = false := beq_eq_false_iff_ne.2 e18
    by_cases e26 : n = 26
    · subst e26
      have hv := Lib.hid (show rightB 5 m = true by rw [show m = 24 by have h1 := HN.out; omega]; rfl)
      go_enter Tryd.func83, Tryd.ntmps83
      go_wp2_with fail
      go_ret
      exact ⟨ret_right (by rw [hv.out]), rfl⟩
    have p26 : (n == (26 : Int)) = false := beq_eq_false_iff_ne.2 e26
    by_cases e34 : n = 34
    · subst e34
      have hv := Lib.hid (show rightB 5 m = true by rw [show m = 32 by have h1 := HN.out; omega]; rfl)
      go_enter Tryd.func83, Tryd.ntmps83
      go_wp2_with fail
      go_ret
      exact ⟨ret_right (by rw [hv.out]), rfl⟩
    have p34 : (n == (34 : Int)) = false := beq_eq_false_iff_ne.2 e34
    have hv := Lib.hid (show rightB 5 m = false by have h1 := HN.out; have h2 := HM.out; simp [rightB, wantN, sizeK]; omega)
    go_enter Tryd.func83, Tryd.ntmps83
    go_wp2_with fail
    go_ret
    exact ⟨ret_right (by rw [hv.out]), rfl⟩
  have q5 : (k == (5 : Int)) = false := beq_eq_false_iff_ne.2 h5
  by_cases h8 : k = 8
  · subst h8
    have hv0 : rightB 8 m = (n == (10 : Int)) := by
      have h1 := HN.out
      by_cases e : m = 8
      · rw [h1, e]; rfl
      · rw [show (n == (10 : Int)) = false from beq_eq_false_iff_ne.2 (by omega)]
        simp [rightB, wantN, sizeK]; omega
    have hv := Lib.hid hv0
    clear hv0
    go_enter Tryd.func83, Tryd.ntmps83
    go_wp2_with fail
    go_ret
    exact ⟨ret_right (by rw [hv.out]), rfl⟩
  have q8 : (k == (8 : Int)) = false := beq_eq_false_iff_ne.2 h8
  by_cases h29 : k = 29
  · subst h29
    have hv0 : rightB 29 m = (n == (16 : Int)) := by
      have h1 := HN.out
      by_cases e : m = 14
      · rw [h1, e]; rfl
      · rw [show (n == (16 : Int)) = false from beq_eq_false_iff_ne.2 (by omega)]
        simp [rightB, wantN, sizeK]; omega
    have hv := Lib.hid hv0
    clear hv0
    go_enter Tryd.func83, Tryd.ntmps83
    go_wp2_with fail
    go_ret
    exact ⟨ret_right (by rw [hv.out]), rfl⟩
  have q29 : (k == (29 : Int)) = false := beq_eq_false_iff_ne.2 h29
  have hv := Lib.hid (show rightB k m = true by simp [rightB, wantN, sizeK, h2, h3, h4, h5, h8, h29])
  go_enter Tryd.func83, Tryd.ntmps83
  go_wp2_with fail
  go_ret
  exact ⟨ret_right (by rw [hv.out]), rfl⟩
end Go.Proofs.YtniimgbljhmcoaaDoor.opC

/-
  Options with one more: the document's (an MSS, SackOK, one that is not known).
-/
namespace Go.Proofs.YtniimgbljhmcoaaDoor.opC
open Go.ChangeShapes Go.WideShapes Go.ChangeAt Go.RowKit
open Go.Proofs.YtniimgbljhmcoaaDoor.memC Go.Proofs.YtniimgbljhmcoaaDoor.genC Go.Proofs.YtniimgbljhmcoaaDoor.butC Go.Proofs.YtniimgbljhmcoaaDoor.freeC Go.Proofs.YtniimgbljhmcoaaDoor.adC
open Go.Proofs.YtniimgbljhmcoaaDoor.octC (getZ)
set_option linter.unusedVariables false
/-- the options in one block, the result's in the next one -/
structure Two (w0 w : World) (o : Opt) (A : Option Addr) (n c : Nat) : Prop where
  row : OptAt w w0.heap.size o A n c
  res : OptAt w (w0.heap.size + 1) zOpt none 0 0
  bel : Below w0.heap.size w0 w
  mac : o.mac.length = 12
theorem two_new (w : World) (o : Opt) (A : Option Addr) (n c : Nat) (hm : o.mac.length = 12) : Two w ((w.alloc (.cells (optV o A n c) 31)).alloc (.cells (optV zOpt none 0 0) 31)) o A n c := by
  have e1 : (w.alloc (.cells (optV o A n c) 31)).heap.size = w.heap.size + 1 := alloc_size _ _
  refine ⟨?_, ?_, ((Below.refl _ _).alloc (Nat.le_refl _) _).alloc (by simp) _, hm⟩
  · unfold OptAt; rw [Below.block (alloc_below _ _) _ (by rw [e1]; omega)]; exact heap_alloc_new w _
  · unfold OptAt; rw [← e1]; exact heap_alloc_new _ _
theorem Two.set_ {w0 w : World} {o o' : Opt} {A A' : Option Addr} {n c n' c' : Nat} (h : Two w0 w o A n c) (j : Nat) (v : Value) (e : (optV o A n c).setIfInBounds j v = optV o' A' n' c') (hm : o'.mac.length = 12) : Two w0 (w.setCell ⟨w0.heap.size, j, none⟩ v) o' A' n' c' :=
  ⟨h.row.set_ j v e, h.res.other (a := ⟨w0.heap.size, j, none⟩) (by show w0.heap.size ≠ w0.heap.size + 1; omega) v, h.bel.setCell (p := ⟨w0.heap.size, j, none⟩) (Nat.le_refl _) v, hm⟩
theorem setR_belowQ {w w1 : World} {g : Nat} (h : Below w.heap.size w w1) (hg : w.heap.size ≤ g) (cs : Array Value) : Below w.heap.size w (w1.setRow g cs) :=
  ⟨h.os, h.tape, h.output, by simpa using h.size, fun k hk => by rw [setRow_other _ _ _ _ (by omega)]; exact h.block k hk⟩
set_option maxRecDepth 100000 in
set_option maxHeartbeats 2000000 in
theorem with2 (o : Opt) (A : Option Addr) (n c : Nat) (B : Option Addr) (d : Nat) (b : List Int) (w : World) (ho : o.mac.length = 12) (hb : Nums .u8 w w.heap.size B 2 b) (hy : ∀ x ∈ b, Byte x) (hd : 2 ≤ d) (hdm : d ≤ 9223372036854775807) :
    Calls Tryd.prog 84 #[.agg (optV o A n c), .int .u8 2, .slice B 2 d] w (Ret w (.agg (optV (addO o 2 b) A n c))) := by
  have hzv := zeroOpt
  obtain ⟨W, hW⟩ : ∃ W, W = (w.alloc (.cells (optV o A n c) 31)).alloc (.cells (optV zOpt none 0 0) 31) := ⟨_, rfl⟩
  have e1 : (w.alloc (.cells (optV o A n c) 31)).heap.size = w.heap.size + 1 := alloc_size _ _
  have T0 : Two w W o A n c := by rw [hW]; exact two_new w o A n c ho
  have G := octC.getref_any B 2 d b W ((hb.below T0.bel).more T0.bel.size) (by decide) hd hdm hy
  have hl := hb.len
  rw [show octC.last8 b = b by rw [octC.last8, hl]; rfl] at G
  have zb := getZ_bound hy
  rw [hl] at zb
  have wz : IntKind.u16.wrap (getZ b) = getZ b := IntWalk.u16_in _ (by omega)
  show Calls _ _ _ _ (Ret w (.agg (optV { o with hm := true, ms := getZ b } A n c)))
  generalize getZ b = z at *
  have GT := Lib.hid G
  have k0 := pkC.PkC.cell T0.row (optC ho A n c).hm
  have k1 := pkC.PkC.cell T0.row (optC ho A n c).ms
  have f0 := T0.row.frozen 0
  have f1 := T0.row.frozen 1
  have T1 := Lib.hid ((T0.set_ 0 _ (optV_hm true) ho).set_ 1 _ (optV_ms z) ho)
  have SZ := Lib.hid ((optC zOpt_ok.lm none 0 0).size.trans (optC (o := { o with hm := true, ms := z }) ho A n c).size.symm)
  have IQ := Lib.hid (optC (o := { o with hm := true, ms := z }) ho A n c).info
  have OO := Lib.hid (opt_one { o with hm := true, ms := z } A n c)
  clear G hb hy hd hdm hl zb T0 e1
  go_enter Tryd.func84, Tryd.ntmps84
  try simp only [List.append_eq, List.cons_append, List.nil_append]
  go_upto_region 1 with fail
  rw [← hW]
  clear hW hzv
  go_upto_region 21 with (go_at_call 50; (refine GT.out.mono ?_); rintro e w' ⟨rfl, rfl⟩)
  have RW := Lib.hid T1.out.row
  have ZW := Lib.hid T1.out.res
  have BW := Lib.hid T1.out.bel
  clear T1
  generalize (W.setCell ⟨w.heap.size, 0, none⟩ (.bool true)).setCell ⟨w.heap.size, 1, none⟩ (.int .u16 z) = W1 at *
  unfold OptAt at RW ZW
  generalize optV { o with hm := true, ms := z } A n c = C1 at *
  go_wp2_with (first
    | (refine wpList_load_rowG (by kernel_rfl) 31 (.tmp 3) rfl w.heap.size (by kernel_rfl) _ _ _ _ RW.out Tryd.underlying31 rfl IQ.out ?_)
    | (refine wpList_store_row rfl 31 (.tmp 6) (.tmp 94) rfl (w.heap.size + 1) C1 rfl rfl _ _ ZW.out IQ.out SZ.out OO.out ?_))
  refine bodyPost_ret (v := .agg C1) (Go.results_cell_row Tryd.results84 _ _ (w.heap.size + 1) _ _ _ _ (by rfl) (setRow_heap _ _ _ _ _ _ ZW.out) Tryd.underlying31 rfl IQ.out) rfl ?_
  exact ⟨rfl, setR_belowQ BW.out (by omega) _⟩
set_option maxRecDepth 100000 in
set_option maxHeartbeats 2000000 in
theorem with4 (o : Opt) (A : Option Addr) (n c : Nat) (B : Option Addr) (m d : Nat) (b : List Int) (w : World) (ho : o.mac.length = 12) :
    Calls Tryd.prog 84 #[.agg (optV o A n c), .int .u8 4, .slice B m d] w (Ret w (.agg (optV (addO o 4 b) A n c))) := by
  have hzv := zeroOpt
  obtain ⟨W, hW⟩ : ∃ W, W = (w.alloc (.cells (optV o A n c) 31)).alloc (.cells (optV zOpt none 0 0) 31) := ⟨_, rfl⟩
  have e1 : (w.alloc (.cells (optV o A n c) 31)).heap.size = w.heap.size + 1 := alloc_size _ _
  have T0 : Two w W o A n c := by rw [hW]; exact two_new w o A n c ho
  show Calls _ _ _ _ (Ret w (.agg (optV { o with so := true } A n c)))
  have k0 := pkC.PkC.cell T0.row (optC ho A n c).so
  have f0 := T0.row.frozen 4
  have T1 := Lib.hid (T0.set_ 4 _ (optV_so true) ho)
  have SZ := Lib.hid ((optC zOpt_ok.lm none 0 0).size.trans (optC (o := { o with so := true }) ho A n c).size.symm)
  have IQ := Lib.hid (optC (o := { o with so := true }) ho A n c).info
  have OO := Lib.hid (opt_one { o with so := true } A n c)
  clear T0 e1
  go_enter Tryd.func84, Tryd.ntmps84
  try simp only [List.append_eq, List.cons_append, List.nil_append]
  go_upto_region 1 with fail
  rw [← hW]
  clear hW hzv
  go_upto_region 21 with fail
  have RW := Lib.hid T1.out.row
  have ZW := Lib.hid T1.out.res
  have BW := Lib.hid T1.out.bel
  clear T1
  generalize W.setCell ⟨w.heap.size, 4, none⟩ (.bool true) = W1 at *
  unfold OptAt at RW ZW
  generalize optV { o with so := true } A n c = C1 at *
  go_wp2_with (first
    | (refine wpList_load_rowG (by kernel_rfl) 31 (.tmp 3) rfl w.heap.size (by kernel_rfl) _ _ _ _ RW.out Tryd.underlying31 rfl IQ.out ?_)
    | (refine wpList_store_row rfl 31 (.tmp 6) (.tmp 94) rfl (w.heap.size + 1) C1 rfl rfl _ _ ZW.out IQ.out SZ.out OO.out ?_))
  refine bodyPost_ret (v := .agg C1) (Go.results_cell_row Tryd.results84 _ _ (w.heap.size + 1) _ _ _ _ (by rfl) (setRow_heap _ _ _ _ _ _ ZW.out) Tryd.underlying31 rfl IQ.out) rfl ?_
  exact ⟨rfl, setR_belowQ BW.out (by omega) _⟩
set_option maxRecDepth 100000 in
set_option maxHeartbeats 2000000 in
theorem with0 (o : Opt) (A : Option Addr) (n c : Nat) (k : Int) (B : Option Addr) (m d : Nat) (w : World) (ho : o.mac.length = 12) (h2 : k ≠ 2) (h3 : k ≠ 3) (h4 : k ≠ 4) (h5 : k ≠ 5) (h8 : k ≠ 8) (h29 : k ≠ 29) :
    Calls Tryd.prog 84 #[.agg (optV o A n c), .int .u8 k, .slice B m d] w (Ret w (.agg (optV o A n c))) := by
  have hzv := zeroOpt
  obtain ⟨W, hW⟩ : ∃ W, W = (w.alloc (.cells (optV o A n c) 31)).alloc (.cells (optV zOpt none 0 0) 31) := ⟨_, rfl⟩
  have e1 : (w.alloc (.cells (optV o A n c) 31)).heap.size = w.heap.size + 1 := alloc_size _ _
  have T0 : Two w W o A n c := by rw [hW]; exact two_new w o A n c ho
  have q2 : (k == (2 : Int)) = false := beq_eq_false_iff_ne.2 h2
  have q3 : (k == (3 : Int)) = false := beq_eq_false_iff_ne.2 h3
  have q4 : (k == (4 : Int)) = false := beq_eq_false_iff_ne.2 h4
  have q5 : (k == (5 : Int)) = false := beq_eq_false_iff_ne.2 h5
  have q8 : (k == (8 : Int)) = false := beq_eq_false_iff_ne.2 h8
  have q29 : (k == (29 : Int)) = false := beq_eq_false_iff_ne.2 h29
  have T1 := Lib.hid T0
  have SZ := Lib.hid ((optC zOpt_ok.lm none 0 0).size.trans (optC (o := o) ho A n c).size.symm)
  have IQ := Lib.hid (optC (o := o) ho A n c).info
  have OO := Lib.hid (opt_one o A n c)
  clear T0 e1
  go_enter Tryd.func84, Tryd.ntmps84
  try simp only [List.append_eq, List.cons_append, List.nil_append]
  go_upto_region 1 with fail
  rw [← hW]
  clear hW hzv
  go_upto_region 21 with fail
  have RW := Lib.hid T1.out.row
  have ZW := Lib.hid T1.out.res
  have BW := Lib.hid T1.out.bel
  clear T1
  generalize W = W1 at *
  unfold OptAt at RW ZW
  generalize optV o A n c = C1 at *
  go_wp2_with (first
    | (refine wpList_load_rowG (by kernel_rfl) 31 (.tmp 3) rfl w.heap.size (by kernel_rfl) _ _ _ _ RW.out Tryd.underlying31 rfl IQ.out ?_)
    | (refine wpList_store_row rfl 31 (.tmp 6) (.tmp 94) rfl (w.heap.size + 1) C1 rfl rfl _ _ ZW.out IQ.out SZ.out OO.out ?_))
  refine bodyPost_ret (v := .agg C1) (Go.results_cell_row Tryd.results84 _ _ (w.heap.size + 1) _ _ _ _ (by rfl) (setRow_heap _ _ _ _ _ _ ZW.out) Tryd.underlying31 rfl IQ.out) rfl ?_
  exact ⟨rfl, setR_belowQ BW.out (by omega) _⟩
end Go.Proofs.YtniimgbljhmcoaaDoor.opC

/-
  Options with one more: the document's (a Scale, a Time, an AO).
-/
namespace Go.Proofs.YtniimgbljhmcoaaDoor.opC
open Go.ChangeShapes Go.WideShapes Go.ChangeAt Go.RowKit
open Go.Proofs.YtniimgbljhmcoaaDoor.memC Go.Proofs.YtniimgbljhmcoaaDoor.genC Go.Proofs.YtniimgbljhmcoaaDoor.butC Go.Proofs.YtniimgbljhmcoaaDoor.freeC Go.Proofs.YtniimgbljhmcoaaDoor.adC
open Go.Proofs.YtniimgbljhmcoaaDoor.octC (getZ)
set_option linter.unusedVariables false
theorem Two.belw {w0 w w' : World} {o : Opt} {A : Option Addr} {n c : Nat} (h : Two w0 w o A n c) (hb : Below w.heap.size w w') : Two w0 w' o A n c := ⟨h.row.bel hb, h.res.bel hb, h.bel.trans (hb.mono h.bel.size), h.mac⟩
/-- the options as they turn -/
def twR (w0 : World) (A : Option Addr) (n c : Nat) (f : Nat → Opt) : Nat → (Nat → Value) → World → Prop := fun k _ w => Two w0 w (f k) A n c
theorem twR.keep {w0 : World} {A : Option Addr} {n c : Nat} {f : Nat → Opt} {k : Nat} {us us' : Nat → Value} {w w' : World} (hb : Below w.heap.size w w') (h : twR w0 A n c f k us w) : twR w0 A n c f k us' w' := Two.belw h hb
theorem bel_or {b : Nat} {w0 w w' : World} (hb : b ≤ w.heap.size) (h : Below b w0 w) (hd : Below w.heap.size w w' ∨ Below b w w') : Below b w0 w' := by
  rcases hd with hd | hd
  · exact h.trans (hd.mono hb)
  · exact h.trans hd
theorem rget_ret {A : Option Addr} {n c : Nat} {bs : List Int} (w : World) (h : Nums .u8 w w.heap.size A n bs) (hn : n ≤ 8) (hc : n ≤ c) (hcm : c ≤ 9223372036854775807) (hy : ∀ x ∈ bs, Byte x) :
    Calls Tryd.prog 50 #[.slice A n c] w (Ret w (.int .u64 (getZ bs))) := by
  have g := octC.getref_any A n c bs w h (by omega) hc hcm hy
  rw [show octC.last8 bs = bs by rw [octC.last8, h.len, show n - 8 = 0 by omega]; rfl] at g
  exact g.mono fun e w' h => ⟨h.1, by rw [← h.2]; exact Below.refl _ _⟩
theorem partN {w : World} {B : Nat} {A : Option Addr} {n d k : Nat} {bs : List Int} (h : Nums .u8 w B A n bs) (hk : k ≤ n) (hd : n ≤ d) : Nums .u8 w B (if d = k then A else A.map (·.add k)) (n - k) (bs.drop k) := by
  have hl := h.len
  refine ⟨by rw [List.length_drop]; omega, fun h0 => ?_⟩
  obtain ⟨b, o, e, hb, hc⟩ := h.at_ (by omega)
  subst e
  rw [if_neg (by omega)]
  refine ⟨b, o + k, by simp [memC.add_plain], hb, fun i hi => ?_⟩
  have := hc (k + i) (by omega)
  rw [show o + k + i = o + (k + i) by omega, this]
  simp [List.getD_eq_getElem?_getD, List.getElem?_drop]
def waV (g0 gb ob d : Nat) (q x : Int) : Nat → Value → World → Prop
  | 0, v, _ => v = .slice (some ⟨gb, ob, none⟩) 1 d
  | 1, v, _ => v = .pointer (some ⟨gb, ob, none⟩)
  | 2, v, _ => v = .int .u8 x
  | 3, v, _ => v = .int .u8 q
  | 4, v, _ => v = .pointer (some ⟨g0, 2, none⟩)
  | 6, v, _ => v = .pointer (some ⟨g0, 3, none⟩)
  | _, _, _ => True
theorem waV.keep (g0 gb ob d : Nat) (q x : Int) (i : Nat) (v : Value) (w w' : World) (hd : Below w.heap.size w w' ∨ (fun _ _ => True) w w') (h : waV g0 gb ob d q x i v w) : waV g0 gb ob d q x i v w' := by
  unfold waV at h ⊢
  split at h <;> exact h
def waT : List (Option Nat) := [none, none, none, none, none, none, none, none, none, none, none, none, none, none, none, none, none, none, none, some 0, some 1, some 2, some 3, some 4, some 6, none, none, none, none, none, none, none, none, none, none, none, none, none, none, none, none, none, none, none, none, none, none, none, none, none, none, none, none, none, none, none, none, none, none, none, none, none, none, none, none, none, none, none, none, none, none, none, none, none, none, none, none, none, none, none, none, none, none, none, none, none, none, none, none, none, none, none, none, none, none]
set_option maxRecDepth 100000 in
set_option maxHeartbeats 4000000 in
theorem with3 (o : Opt) (A : Option Addr) (n c : Nat) (gb ob d : Nat) (b : List Int) (w : World) (ho : o.mac.length = 12) (hb : Nums .u8 w w.heap.size (some ⟨gb, ob, none⟩) 1 b) (hy : ∀ x ∈ b, Byte x) (hd : 1 ≤ d) (hdm : d ≤ 9223372036854775807) :
    Calls Tryd.prog 84 #[.agg (optV o A n c), .int .u8 3, .slice (some ⟨gb, ob, none⟩) 1 d] w (Ret w (.agg (optV (addO o 3 b) A n c))) := by
  have hzv := zeroOpt
  obtain ⟨W, hW⟩ : ∃ W, W = (w.alloc (.cells (optV o A n c) 31)).alloc (.cells (optV zOpt none 0 0) 31) := ⟨_, rfl⟩
  have e1 : (w.alloc (.cells (optV o A n c) 31)).heap.size = w.heap.size + 1 := alloc_size _ _
  have T0 : Two w W o A n c := by rw [hW]; exact two_new w o A n c ho
  have K0 := Lib.hid (fun (w' : World) (h : Below w.heap.size w w') => (show w'.cell? ⟨gb, ob, none⟩ = some (.int .u8 (b.getD 0 0)) by
    obtain ⟨b2, o2, e, hlt, hc⟩ := (hb.below h).at_ (by decide)
    cases e
    exact hc 0 (by decide)))
  have hy0 := getD_byte0 hy 0
  unfold Byte at hy0
  show Calls _ _ _ _ (Ret w (.agg (optV { o with hs := true, sc := min (b.getD 0 0) 14 } A n c)))
  generalize b.getD 0 0 = x at *
  obtain ⟨hy0, hy1⟩ := hy0
  have HWS := Lib.hid (show w.heap.size ≤ W.heap.size from T0.bel.size)
  clear hb hy e1
  by_cases h14 : x ≤ 14
  · rw [Int.min_eq_left h14]
    have SZ := Lib.hid ((optC zOpt_ok.lm none 0 0).size.trans (optC (o := { o with hs := true, sc := x }) ho A n c).size.symm)
    have IQ := Lib.hid (optC (o := { o with hs := true, sc := x }) ho A n c).info
    have OO := Lib.hid (opt_one { o with hs := true, sc := x } A n c)
    go_enter Tryd.func84, Tryd.ntmps84
    try simp only [List.append_eq, List.cons_append, List.nil_append]
    go_upto_region 1 with fail
    rw [← hW]
    clear hW hzv
    go_upto_region 5 with fail
    refine with_act fun a0 ha0 => ?_
    have hl : waT.length = a0.tmps.size := by rw [ha0]; rfl
    have k2 : a0.tmps[2]?.getD undef = .slice (some ⟨gb, ob, none⟩) 1 d := by rw [ha0]; rfl
    have k3 : a0.tmps[3]?.getD undef = .pointer (some ⟨(w.heap.size), 0, none⟩) := by rw [ha0]; rfl
    refine wp_region_che (by kernel_rfl) waT (by kernel_rfl) (by kernel_rfl) hl (fun i => undef) (by rw [ha0]; rfl) ((w.heap.size)) (Below w.heap.size) [5, 7] (by kernel_rfl) (by decide) (by decide) (fun w' => Below w.heap.size w w') (waV (w.heap.size) gb ob d x x) (twR w A n c (fun k => ([o, { o with hs := true }, { o with hs := true, sc := x }] : List Opt).getD k o)) HWS.out (T0.bel.trans (Below.refl _ _).drew) (show Two w W.drew o A n c from T0.belw (Below.refl _ _).drew) (fun w1 w2 hb hd h => bel_or hb h hd) (fun i v w w' _ _ h => waV.keep _ _ _ _ _ _ i v w w' (.inr trivial) h) (fun k us us' w1 w2 _ _ hb hR => twR.keep hb hR) ⟨?_, ?_, ?_, ?_, ?_, ?_, ?_, ?_, trivial⟩ ?_
    · refine stepE_val [] (by kernel_rfl) (by decide) (by decide) rfl fun us w' hB hG hV => ?_
      have o2 := (frame_old2 (us := us) (a := a0) (show (waT[2]?).join = none from rfl)).trans k2
      generalize frame waT a0 us = fr at *
      exact val_C (v := .slice (some ⟨gb, ob, none⟩) 1 d) (w' := w') (by go_simp) (Below.refl _ _) rfl
    · refine stepE_val [0] (by kernel_rfl) (by decide) (by decide) rfl fun us w' hB hG hV => ?_
      have e0 : us 0 = .slice (some ⟨gb, ob, none⟩) 1 d := hV 0 (by simp)
      have v0 := (frame_at2 (us := us) hl (show (waT[19]?).join = some 0 from rfl)).trans e0
      generalize frame waT a0 us = fr at *
      exact val_C (v := .pointer (some ⟨gb, ob, none⟩)) (w' := w') (by go_simp) (Below.refl _ _) rfl
    · refine stepE_val [1] (by kernel_rfl) (by decide) (by decide) rfl fun us w' hB hG hV => ?_
      have e1 : us 1 = .pointer (some ⟨gb, ob, none⟩) := hV 1 (by simp)
      have v1 := (frame_at2 (us := us) hl (show (waT[20]?).join = some 1 from rfl)).trans e1
      have hc := K0.out w' hG
      generalize frame waT a0 us = fr at *
      exact val_C (v := .int .u8 x) (w' := w') (by go_simp) (Below.refl _ _) rfl
    · refine stepE_val [2] (by kernel_rfl) (by decide) (by decide) rfl fun us w' hB hG hV => ?_
      have e2 : us 2 = .int .u8 x := hV 2 (by simp)
      have v2 := (frame_at2 (us := us) hl (show (waT[21]?).join = some 2 from rfl)).trans e2
      have hq := h14
      generalize frame waT a0 us = fr at *
      exact val_C (v := .int .u8 x) (w' := w') (by go_simp; try (intro h; omega)) (Below.refl _ _) rfl
    · refine stepE_val [] (by kernel_rfl) (by decide) (by decide) rfl fun us w' hB hG hV => ?_
      have o3 := (frame_old2 (us := us) (a := a0) (show (waT[3]?).join = none from rfl)).trans k3
      generalize frame waT a0 us = fr at *
      exact val_C (v := .pointer (some ⟨(w.heap.size), 2, none⟩)) (w' := w') (by go_simp) (Below.refl _ _) rfl
    · refine stepE_chain 0 rfl (by decide) [4] (by kernel_rfl) (by decide) rfl fun us w' hB hG hV hR => ?_
      have e4 : us 4 = .pointer (some ⟨(w.heap.size), 2, none⟩) := hV 4 (by simp)
      have v4 := (frame_at2 (us := us) hl (show (waT[23]?).join = some 4 from rfl)).trans e4
      have T5 := (show Two w w' o A n c from hR)
      have hc := pkC.PkC.cell T5.row.row (optC (o := o) T5.mac A n c).hs
      have hf := T5.row.frozen 2
      generalize frame waT a0 us = fr at *
      exact free_skip (w' := w'.setCell ⟨w.heap.size, 2, none⟩ (.bool true)) (by go_simp) ⟨undef, rfl, ⟨(Below.refl w.heap.size w').setCell (p := ⟨w.heap.size, 2, none⟩) (Nat.le_refl _) _, (Below.refl w.heap.size w').setCell (p := ⟨w.heap.size, 2, none⟩) (Nat.le_refl _) _⟩, (show Two w _ { o with hs := true } A n c from T5.set_ 2 _ (optV_hs true) T5.mac)⟩
    · refine stepE_val [] (by kernel_rfl) (by decide) (by decide) rfl fun us w' hB hG hV => ?_
      have o3 := (frame_old2 (us := us) (a := a0) (show (waT[3]?).join = none from rfl)).trans k3
      generalize frame waT a0 us = fr at *
      exact val_C (v := .pointer (some ⟨(w.heap.size), 3, none⟩)) (w' := w') (by go_simp) (Below.refl _ _) rfl
    · refine stepE_chain 1 rfl (by decide) [6, 3] (by kernel_rfl) (by decide) rfl fun us w' hB hG hV hR => ?_
      have e6 : us 6 = .pointer (some ⟨(w.heap.size), 3, none⟩) := hV 6 (by simp)
      have v6 := (frame_at2 (us := us) hl (show (waT[24]?).join = some 6 from rfl)).trans e6
      have e3 : us 3 = .int .u8 x := hV 3 (by simp)
      have v3 := (frame_at2 (us := us) hl (show (waT[22]?).join = some 3 from rfl)).trans e3
      have T5 := (show Two w w' { o with hs := true } A n c from hR)
      have hc := pkC.PkC.cell T5.row.row (optC (o := { o with hs := true }) T5.mac A n c).sc
      have hf := T5.row.frozen 3
      generalize frame waT a0 us = fr at *
      exact free_skip (w' := w'.setCell ⟨w.heap.size, 3, none⟩ (.int .u8 x)) (by go_simp) ⟨undef, rfl, ⟨(Below.refl w.heap.size w').setCell (p := ⟨w.heap.size, 3, none⟩) (Nat.le_refl _) _, (Below.refl w.heap.size w').setCell (p := ⟨w.heap.size, 3, none⟩) (Nat.le_refl _) _⟩, (show Two w _ { o with hs := true, sc := x } A n c from T5.set_ 3 _ (optV_sc x) T5.mac)⟩
    · intro us w6 hB2 hG hV hR
      have T1 := Lib.hid (show Two w w6 { o with hs := true, sc := x } A n c from hR)
      subst ha0
      simp only [frame, waT, fill]
      clear hV hG hl HWS hR k2 k3
      go_upto_region 21 with fail
      have RW := Lib.hid T1.out.row
      have ZW := Lib.hid T1.out.res
      have BW := Lib.hid T1.out.bel
      clear T1
      unfold OptAt at RW ZW
      generalize optV { o with hs := true, sc := x } A n c = C1 at *
      go_wp2_with (first
        | (refine wpList_load_rowG (by kernel_rfl) 31 (.tmp 3) rfl w.heap.size (by kernel_rfl) _ _ _ _ RW.out Tryd.underlying31 rfl IQ.out ?_)
        | (refine wpList_store_row rfl 31 (.tmp 6) (.tmp 94) rfl (w.heap.size + 1) C1 rfl rfl _ _ ZW.out IQ.out SZ.out OO.out ?_))
      refine bodyPost_ret (v := .agg C1) (Go.results_cell_row Tryd.results84 _ _ (w.heap.size + 1) _ _ _ _ (by rfl) (setRow_heap _ _ _ _ _ _ ZW.out) Tryd.underlying31 rfl IQ.out) rfl ?_
      exact ⟨rfl, setR_belowQ BW.out (by omega) _⟩
  · rw [Int.min_eq_right (by omega)]
    have SZ := Lib.hid ((optC zOpt_ok.lm none 0 0).size.trans (optC (o := { o with hs := true, sc := 14 }) ho A n c).size.symm)
    have IQ := Lib.hid (optC (o := { o with hs := true, sc := 14 }) ho A n c).info
    have OO := Lib.hid (opt_one { o with hs := true, sc := 14 } A n c)
    go_enter Tryd.func84, Tryd.ntmps84
    try simp only [List.append_eq, List.cons_append, List.nil_append]
    go_upto_region 1 with fail
    rw [← hW]
    clear hW hzv
    go_upto_region 5 with fail
    refine with_act fun a0 ha0 => ?_
    have hl : waT.length = a0.tmps.size := by rw [ha0]; rfl
    have k2 : a0.tmps[2]?.getD undef = .slice (some ⟨gb, ob, none⟩) 1 d := by rw [ha0]; rfl
    have k3 : a0.tmps[3]?.getD undef = .pointer (some ⟨(w.heap.size), 0, none⟩) := by rw [ha0]; rfl
    refine wp_region_che (by kernel_rfl) waT (by kernel_rfl) (by kernel_rfl) hl (fun i => undef) (by rw [ha0]; rfl) ((w.heap.size)) (Below w.heap.size) [5, 7] (by kernel_rfl) (by decide) (by decide) (fun w' => Below w.heap.size w w') (waV (w.heap.size) gb ob d 14 x) (twR w A n c (fun k => ([o, { o with hs := true }, { o with hs := true, sc := 14 }] : List Opt).getD k o)) HWS.out (T0.bel.trans (Below.refl _ _).drew) (show Two w W.drew o A n c from T0.belw (Below.refl _ _).drew) (fun w1 w2 hb hd h => bel_or hb h hd) (fun i v w w' _ _ h => waV.keep _ _ _ _ _ _ i v w w' (.inr trivial) h) (fun k us us' w1 w2 _ _ hb hR => twR.keep hb hR) ⟨?_, ?_, ?_, ?_, ?_, ?_, ?_, ?_, trivial⟩ ?_
    · refine stepE_val [] (by kernel_rfl) (by decide) (by decide) rfl fun us w' hB hG hV => ?_
      have o2 := (frame_old2 (us := us) (a := a0) (show (waT[2]?).join = none from rfl)).trans k2
      generalize frame waT a0 us = fr at *
      exact val_C (v := .slice (some ⟨gb, ob, none⟩) 1 d) (w' := w') (by go_simp) (Below.refl _ _) rfl
    · refine stepE_val [0] (by kernel_rfl) (by decide) (by decide) rfl fun us w' hB hG hV => ?_
      have e0 : us 0 = .slice (some ⟨gb, ob, none⟩) 1 d := hV 0 (by simp)
      have v0 := (frame_at2 (us := us) hl (show (waT[19]?).join = some 0 from rfl)).trans e0
      generalize frame waT a0 us = fr at *
      exact val_C (v := .pointer (some ⟨gb, ob, none⟩)) (w' := w') (by go_simp) (Below.refl _ _) rfl
    · refine stepE_val [1] (by kernel_rfl) (by decide) (by decide) rfl fun us w' hB hG hV => ?_
      have e1 : us 1 = .pointer (some ⟨gb, ob, none⟩) := hV 1 (by simp)
      have v1 := (frame_at2 (us := us) hl (show (waT[20]?).join = some 1 from rfl)).trans e1
      have hc := K0.out w' hG
      generalize frame waT a0 us = fr at *
      exact val_C (v := .int .u8 x) (w' := w') (by go_simp) (Below.refl _ _) rfl
    · refine stepE_val [2] (by kernel_rfl) (by decide) (by decide) rfl fun us w' hB hG hV => ?_
      have e2 : us 2 = .int .u8 x := hV 2 (by simp)
      have v2 := (frame_at2 (us := us) hl (show (waT[21]?).join = some 2 from rfl)).trans e2
      have hq := h14
      generalize frame waT a0 us = fr at *
      exact val_C (v := .int .u8 14) (w' := w') (by go_simp; try (intro h; omega)) (Below.refl _ _) rfl
    · refine stepE_val [] (by kernel_rfl) (by decide) (by decide) rfl fun us w' hB hG hV => ?_
      have o3 := (frame_old2 (us := us) (a := a0) (show (waT[3]?).join = none from rfl)).trans k3
      generalize frame waT a0 us = fr at *
      exact val_C (v := .pointer (some ⟨(w.heap.size), 2, none⟩)) (w' := w') (by go_simp) (Below.refl _ _) rfl
    · refine stepE_chain 0 rfl (by decide) [4] (by kernel_rfl) (by decide) rfl fun us w' hB hG hV hR => ?_
      have e4 : us 4 = .pointer (some ⟨(w.heap.size), 2, none⟩) := hV 4 (by simp)
      have v4 := (frame_at2 (us := us) hl (show (waT[23]?).join = some 4 from rfl)).trans e4
      have T5 := (show Two w w' o A n c from hR)
      have hc := pkC.PkC.cell T5.row.row (optC (o := o) T5.mac A n c).hs
      have hf := T5.row.frozen 2
      generalize frame waT a0 us = fr at *
      exact free_skip (w' := w'.setCell ⟨w.heap.size, 2, none⟩ (.bool true)) (by go_simp) ⟨undef, rfl, ⟨(Below.refl w.heap.size w').setCell (p := ⟨w.heap.size, 2, none⟩) (Nat.le_refl _) _, (Below.refl w.heap.size w').setCell (p := ⟨w.heap.size, 2, none⟩) (Nat.le_refl _) _⟩, (show Two w _ { o with hs := true } A n c from T5.set_ 2 _ (optV_hs true) T5.mac)⟩
    · refine stepE_val [] (by kernel_rfl) (by decide) (by decide) rfl fun us w' hB hG hV => ?_
      have o3 := (frame_old2 (us := us) (a := a0) (show (waT[3]?).join = none from rfl)).trans k3
      generalize frame waT a0 us = fr at *
      exact val_C (v := .pointer (some ⟨(w.heap.size), 3, none⟩)) (w' := w') (by go_simp) (Below.refl _ _) rfl
    · refine stepE_chain 1 rfl (by decide) [6, 3] (by kernel_rfl) (by decide) rfl fun us w' hB hG hV hR => ?_
      have e6 : us 6 = .pointer (some ⟨(w.heap.size), 3, none⟩) := hV 6 (by simp)
      have v6 := (frame_at2 (us := us) hl (show (waT[24]?).join = some 6 from rfl)).trans e6
      have e3 : us 3 = .int .u8 14 := hV 3 (by simp)
      have v3 := (frame_at2 (us := us) hl (show (waT[22]?).join = some 3 from rfl)).trans e3
      have T5 := (show Two w w' { o with hs := true } A n c from hR)
      have hc := pkC.PkC.cell T5.row.row (optC (o := { o with hs := true }) T5.mac A n c).sc
      have hf := T5.row.frozen 3
      generalize frame waT a0 us = fr at *
      exact free_skip (w' := w'.setCell ⟨w.heap.size, 3, none⟩ (.int .u8 14)) (by go_simp) ⟨undef, rfl, ⟨(Below.refl w.heap.size w').setCell (p := ⟨w.heap.size, 3, none⟩) (Nat.le_refl _) _, (Below.refl w.heap.size w').setCell (p := ⟨w.heap.size, 3, none⟩) (Nat.le_refl _) _⟩, (show Two w _ { o with hs := true, sc := 14 } A n c from T5.set_ 3 _ (optV_sc 14) T5.mac)⟩
    · intro us w6 hB2 hG hV hR
      have T1 := Lib.hid (show Two w w6 { o with hs := true, sc := 14 } A n c from hR)
      subst ha0
      simp only [frame, waT, fill]
      clear hV hG hl HWS hR k2 k3
      go_upto_region 21 with fail
      have RW := Lib.hid T1.out.row
      have ZW := Lib.hid T1.out.res
      have BW := Lib.hid T1.out.bel
      clear T1
      unfold OptAt at RW ZW
      generalize optV { o with hs := true, sc := 14 } A n c = C1 at *
      go_wp2_with (first
        | (refine wpList_load_rowG (by kernel_rfl) 31 (.tmp 3) rfl w.heap.size (by kernel_rfl) _ _ _ _ RW.out Tryd.underlying31 rfl IQ.out ?_)
        | (refine wpList_store_row rfl 31 (.tmp 6) (.tmp 94) rfl (w.heap.size + 1) C1 rfl rfl _ _ ZW.out IQ.out SZ.out OO.out ?_))
      refine bodyPost_ret (v := .agg C1) (Go.results_cell_row Tryd.results84 _ _ (w.heap.size + 1) _ _ _ _ (by rfl) (setRow_heap _ _ _ _ _ _ ZW.out) Tryd.underlying31 rfl IQ.out) rfl ?_
      exact ⟨rfl, setR_belowQ BW.out (by omega) _⟩
def wbV (g0 gb ob d : Nat) (B2 : Option Addr) (d2 : Nat) (x y : Int) : Nat → Value → World → Prop
  | 0, v, _ => v = .slice (some ⟨gb, ob, none⟩) 8 d
  | 1, v, _ => v = .slice (some ⟨gb, ob, none⟩) 4 d
  | 2, v, _ => v = .int .u64 x
  | 3, v, _ => v = .int .u32 x
  | 4, v, _ => v = .slice (some ⟨gb, ob, none⟩) 8 d
  | 5, v, _ => v = .slice B2 4 d2
  | 6, v, _ => v = .int .u64 y
  | 7, v, _ => v = .int .u32 y
  | 8, v, _ => v = .pointer (some ⟨g0, 6, none⟩)
  | 10, v, _ => v = .pointer (some ⟨g0, 7, none⟩)
  | 12, v, _ => v = .pointer (some ⟨g0, 8, none⟩)
  | _, _, _ => True
theorem wbV.keep (g0 gb ob d : Nat) (B2 : Option Addr) (d2 : Nat) (x y : Int) (i : Nat) (v : Value) (w w' : World) (hd : Below w.heap.size w w' ∨ (fun _ _ => True) w w') (h : wbV g0 gb ob d B2 d2 x y i v w) : wbV g0 gb ob d B2 d2 x y i v w' := by
  unfold wbV at h ⊢
  split at h <;> exact h
def wbT : List (Option Nat) := [none, none, none, none, none, none, none, none, none, none, none, none, none, none, none, none, none, none, none, none, none, none, none, none, none, none, none, none, none, none, none, none, none, none, none, none, none, none, none, none, none, none, none, none, none, none, none, none, none, none, none, none, none, none, none, none, none, none, none, none, some 0, some 1, some 2, some 3, some 4, some 5, some 6, some 7, some 8, some 10, some 12, none, none, none, none, none, none, none, none, none, none, none, none, none, none, none, none, none, none, none, none, none, none, none, none]
set_option maxRecDepth 100000 in
set_option maxHeartbeats 4000000 in
theorem with8 (o : Opt) (A : Option Addr) (n c : Nat) (gb ob d : Nat) (b : List Int) (w : World) (ho : o.mac.length = 12) (hb : Nums .u8 w w.heap.size (some ⟨gb, ob, none⟩) 8 b) (hy : ∀ x ∈ b, Byte x) (hd : 8 ≤ d) (hdm : d ≤ 9223372036854775807) :
    Calls Tryd.prog 84 #[.agg (optV o A n c), .int .u8 8, .slice (some ⟨gb, ob, none⟩) 8 d] w (Ret w (.agg (optV (addO o 8 b) A n c))) := by
  have hzv := zeroOpt
  obtain ⟨W, hW⟩ : ∃ W, W = (w.alloc (.cells (optV o A n c) 31)).alloc (.cells (optV zOpt none 0 0) 31) := ⟨_, rfl⟩
  have e1 : (w.alloc (.cells (optV o A n c) 31)).heap.size = w.heap.size + 1 := alloc_size _ _
  have T0 : Two w W o A n c := by rw [hW]; exact two_new w o A n c ho
  have hl := hb.len
  obtain ⟨B2, hB2⟩ : ∃ q, q = (if d = 4 then (some ⟨gb, ob, none⟩ : Option Addr) else (some ⟨gb, ob, none⟩ : Option Addr).map (·.add 4)) := ⟨_, rfl⟩
  obtain ⟨d2, hd2⟩ : ∃ q, q = d - 4 := ⟨_, rfl⟩
  have SC := Lib.hid (fun w' => (show (Instr.slice 32 (.slice (some ⟨gb, ob, none⟩) 8 d) (some (.int .i64 4)) none none).run Tryd.prog w' = .ok (.slice B2 4 d2) w' by
    have h9 := pkC.cut_tail (some ⟨gb, ob, none⟩) 8 d 4 (by omega) (by omega) w'
    rw [← hB2, ← hd2] at h9
    exact h9))
  have y4 : ∀ z ∈ b.take 4, Byte z := fun z hz => hy z (List.mem_of_mem_take hz)
  have y5 : ∀ z ∈ b.drop 4, Byte z := fun z hz => hy z (List.mem_of_mem_drop hz)
  have G1 := Lib.hid (fun (w' : World) (h : Below w.heap.size w w') => rget_ret w' ((((hb.below h).more h.size).upto (show 4 ≤ 8 by decide))) (by decide) (show 4 ≤ d by omega) hdm y4)
  have G2 := Lib.hid (fun (w' : World) (h : Below w.heap.size w w') => (show Calls Tryd.prog 50 #[.slice B2 4 d2] w' (Ret w' (.int .u64 (getZ (b.drop 4)))) by
    have n9 := partN ((hb.below h).more h.size) (show 4 ≤ 8 by decide) (show 8 ≤ d by omega)
    rw [← hB2] at n9
    exact rget_ret w' n9 (by decide) (by omega) (by omega) y5))
  have z4 := getZ_bound y4
  have z5 := getZ_bound y5
  rw [List.length_take, hl] at z4
  rw [List.length_drop, hl] at z5
  simp at z4 z5
  show Calls _ _ _ _ (Ret w (.agg (optV { o with ht := true, va := getZ (b.take 4), ec := getZ (b.drop 4) } A n c)))
  generalize getZ (b.take 4) = x at *
  generalize getZ (b.drop 4) = y at *
  have WX := Lib.hid (show IntKind.u32.wrap x = x from IntWalk.u32_in _ (by omega))
  have WY := Lib.hid (show IntKind.u32.wrap y = y from IntWalk.u32_in _ (by omega))
  have HD4 := Lib.hid (show (4 : Int) ≤ (d : Int) by omega)
  have HWS := Lib.hid (show w.heap.size ≤ W.heap.size from T0.bel.size)
  clear hb hy e1 hl y4 y5 hB2 hd2 z4 z5
  have SZ := Lib.hid ((optC zOpt_ok.lm none 0 0).size.trans (optC (o := { o with ht := true, va := x, ec := y }) ho A n c).size.symm)
  have IQ := Lib.hid (optC (o := { o with ht := true, va := x, ec := y }) ho A n c).info
  have OO := Lib.hid (opt_one { o with ht := true, va := x, ec := y } A n c)
  go_enter Tryd.func84, Tryd.ntmps84
  try simp only [List.append_eq, List.cons_append, List.nil_append]
  go_upto_region 1 with fail
  rw [← hW]
  clear hW hzv
  go_upto_region 14 with fail
  refine with_act fun a0 ha0 => ?_
  have hl : wbT.length = a0.tmps.size := by rw [ha0]; rfl
  have k2 : a0.tmps[2]?.getD undef = .slice (some ⟨gb, ob, none⟩) 8 d := by rw [ha0]; rfl
  have k3 : a0.tmps[3]?.getD undef = .pointer (some ⟨(w.heap.size), 0, none⟩) := by rw [ha0]; rfl
  refine wp_region_che (by kernel_rfl) wbT (by kernel_rfl) (by kernel_rfl) hl (fun i => undef) (by rw [ha0]; rfl) ((w.heap.size)) (Below w.heap.size) [9, 11, 13] (by kernel_rfl) (by decide) (by decide) (fun w' => Below w.heap.size w w') (wbV (w.heap.size) gb ob d B2 d2 x y) (twR w A n c (fun k => ([o, { o with ht := true }, { o with ht := true, va := x }, { o with ht := true, va := x, ec := y }] : List Opt).getD k o)) HWS.out (T0.bel.trans (Below.refl _ _).drew) (show Two w W.drew o A n c from T0.belw (Below.refl _ _).drew) (fun w1 w2 hb hd h => bel_or hb h hd) (fun i v w w' _ _ h => wbV.keep _ _ _ _ _ _ _ _ i v w w' (.inr trivial) h) (fun k us us' w1 w2 _ _ hb hR => twR.keep hb hR) ⟨?_, ?_, ?_, ?_, ?_, ?_, ?_, ?_, ?_, ?_, ?_, ?_, ?_, ?_, trivial⟩ ?_
  · refine stepE_val [] (by kernel_rfl) (by decide) (by decide) rfl fun us w' hB hG hV => ?_
    have o2 := (frame_old2 (us := us) (a := a0) (show (wbT[2]?).join = none from rfl)).trans k2
    generalize frame wbT a0 us = fr at *
    exact val_C (v := .slice (some ⟨gb, ob, none⟩) 8 d) (w' := w') (by go_simp) (Below.refl _ _) rfl
  · refine stepE_val [0] (by kernel_rfl) (by decide) (by decide) rfl fun us w' hB hG hV => ?_
    have e0 : us 0 = .slice (some ⟨gb, ob, none⟩) 8 d := hV 0 (by simp)
    have v0 := (frame_at2 (us := us) hl (show (wbT[60]?).join = some 0 from rfl)).trans e0
    have hd4 := HD4.out
    generalize frame wbT a0 us = fr at *
    exact val_C (v := .slice (some ⟨gb, ob, none⟩) 4 d) (w' := w') (by go_simp) (Below.refl _ _) rfl
  · refine stepE_val [1] (by kernel_rfl) (by decide) (by decide) rfl fun us w' hB hG hV => ?_
    have e1 : us 1 = .slice (some ⟨gb, ob, none⟩) 4 d := hV 1 (by simp)
    have v1 := (frame_at2 (us := us) hl (show (wbT[61]?).join = some 1 from rfl)).trans e1
    generalize frame wbT a0 us = fr at *
    exact call_C (f := 50) (args := #[.slice (some ⟨gb, ob, none⟩) 4 d]) (by go_simp) ((G1.out w' hG).mono fun e w'' h => ⟨_, h.1, h.2, rfl⟩)
  · refine stepE_val [2] (by kernel_rfl) (by decide) (by decide) rfl fun us w' hB hG hV => ?_
    have e2 : us 2 = .int .u64 x := hV 2 (by simp)
    have v2 := (frame_at2 (us := us) hl (show (wbT[62]?).join = some 2 from rfl)).trans e2
    have hw := WX.out
    generalize frame wbT a0 us = fr at *
    exact val_C (v := .int .u32 x) (w' := w') (by go_simp) (Below.refl _ _) rfl
  · refine stepE_val [] (by kernel_rfl) (by decide) (by decide) rfl fun us w' hB hG hV => ?_
    have o2 := (frame_old2 (us := us) (a := a0) (show (wbT[2]?).join = none from rfl)).trans k2
    generalize frame wbT a0 us = fr at *
    exact val_C (v := .slice (some ⟨gb, ob, none⟩) 8 d) (w' := w') (by go_simp) (Below.refl _ _) rfl
  · refine stepE_val [4] (by kernel_rfl) (by decide) (by decide) rfl fun us w' hB hG hV => ?_
    have e4 : us 4 = .slice (some ⟨gb, ob, none⟩) 8 d := hV 4 (by simp)
    have v4 := (frame_at2 (us := us) hl (show (wbT[64]?).join = some 4 from rfl)).trans e4
    have hsc := SC.out w'
    generalize frame wbT a0 us = fr at *
    exact val_C (v := .slice B2 4 d2) (w' := w') (by go_simp) (Below.refl _ _) rfl
  · refine stepE_val [5] (by kernel_rfl) (by decide) (by decide) rfl fun us w' hB hG hV => ?_
    have e5 : us 5 = .slice B2 4 d2 := hV 5 (by simp)
    have v5 := (frame_at2 (us := us) hl (show (wbT[65]?).join = some 5 from rfl)).trans e5
    generalize frame wbT a0 us = fr at *
    exact call_C (f := 50) (args := #[.slice B2 4 d2]) (by go_simp) ((G2.out w' hG).mono fun e w'' h => ⟨_, h.1, h.2, rfl⟩)
  · refine stepE_val [6] (by kernel_rfl) (by decide) (by decide) rfl fun us w' hB hG hV => ?_
    have e6 : us 6 = .int .u64 y := hV 6 (by simp)
    have v6 := (frame_at2 (us := us) hl (show (wbT[66]?).join = some 6 from rfl)).trans e6
    have hw := WY.out
    generalize frame wbT a0 us = fr at *
    exact val_C (v := .int .u32 y) (w' := w') (by go_simp) (Below.refl _ _) rfl
  · refine stepE_val [] (by kernel_rfl) (by decide) (by decide) rfl fun us w' hB hG hV => ?_
    have o3 := (frame_old2 (us := us) (a := a0) (show (wbT[3]?).join = none from rfl)).trans k3
    generalize frame wbT a0 us = fr at *
    exact val_C (v := .pointer (some ⟨(w.heap.size), 6, none⟩)) (w' := w') (by go_simp) (Below.refl _ _) rfl
  · refine stepE_chain 0 rfl (by decide) [8] (by kernel_rfl) (by decide) rfl fun us w' hB hG hV hR => ?_
    have e8 : us 8 = .pointer (some ⟨(w.heap.size), 6, none⟩) := hV 8 (by simp)
    have v8 := (frame_at2 (us := us) hl (show (wbT[68]?).join = some 8 from rfl)).trans e8
    have T5 := (show Two w w' o A n c from hR)
    have hc := pkC.PkC.cell T5.row.row (optC (o := o) T5.mac A n c).ht
    have hf := T5.row.frozen 6
    generalize frame wbT a0 us = fr at *
    exact free_skip (w' := w'.setCell ⟨w.heap.size, 6, none⟩ (.bool true)) (by go_simp) ⟨undef, rfl, ⟨(Below.refl w.heap.size w').setCell (p := ⟨w.heap.size, 6, none⟩) (Nat.le_refl _) _, (Below.refl w.heap.size w').setCell (p := ⟨w.heap.size, 6, none⟩) (Nat.le_refl _) _⟩, (show Two w _ { o with ht := true } A n c from T5.set_ 6 _ (optV_ht true) T5.mac)⟩
  · refine stepE_val [] (by kernel_rfl) (by decide) (by decide) rfl fun us w' hB hG hV => ?_
    have o3 := (frame_old2 (us := us) (a := a0) (show (wbT[3]?).join = none from rfl)).trans k3
    generalize frame wbT a0 us = fr at *
    exact val_C (v := .pointer (some ⟨(w.heap.size), 7, none⟩)) (w' := w') (by go_simp) (Below.refl _ _) rfl
  · refine stepE_chain 1 rfl (by decide) [10, 3] (by kernel_rfl) (by decide) rfl fun us w' hB hG hV hR => ?_
    have e10 : us 10 = .pointer (some ⟨(w.heap.size), 7, none⟩) := hV 10 (by simp)
    have v10 := (frame_at2 (us := us) hl (show (wbT[69]?).join = some 10 from rfl)).trans e10
    have e3 : us 3 = .int .u32 x := hV 3 (by simp)
    have v3 := (frame_at2 (us := us) hl (show (wbT[63]?).join = some 3 from rfl)).trans e3
    have T5 := (show Two w w' { o with ht := true } A n c from hR)
    have hc := pkC.PkC.cell T5.row.row (optC (o := { o with ht := true }) T5.mac A n c).va
    have hf := T5.row.frozen 7
    generalize frame wbT a0 us = fr at *
    exact free_skip (w' := w'.setCell ⟨w.heap.size, 7, none⟩ (.int .u32 x)) (by go_simp) ⟨undef, rfl, ⟨(Below.refl w.heap.size w').setCell (p := ⟨w.heap.size, 7, none⟩) (Nat.le_refl _) _, (Below.refl w.heap.size w').setCell (p := ⟨w.heap.size, 7, none⟩) (Nat.le_refl _) _⟩, (show Two w _ { o with ht := true, va := x } A n c from T5.set_ 7 _ (optV_va x) T5.mac)⟩
  · refine stepE_val [] (by kernel_rfl) (by decide) (by decide) rfl fun us w' hB hG hV => ?_
    have o3 := (frame_old2 (us := us) (a := a0) (show (wbT[3]?).join = none from rfl)).trans k3
    generalize frame wbT a0 us = fr at *
    exact val_C (v := .pointer (some ⟨(w.heap.size), 8, none⟩)) (w' := w') (by go_simp) (Below.refl _ _) rfl
  · refine stepE_chain 2 rfl (by decide) [12, 7] (by kernel_rfl) (by decide) rfl fun us w' hB hG hV hR => ?_
    have e12 : us 12 = .pointer (some ⟨(w.heap.size), 8, none⟩) := hV 12 (by simp)
    have v12 := (frame_at2 (us := us) hl (show (wbT[70]?).join = some 12 from rfl)).trans e12
    have e7 : us 7 = .int .u32 y := hV 7 (by simp)
    have v7 := (frame_at2 (us := us) hl (show (wbT[67]?).join = some 7 from rfl)).trans e7
    have T5 := (show Two w w' { o with ht := true, va := x } A n c from hR)
    have hc := pkC.PkC.cell T5.row.row (optC (o := { o with ht := true, va := x }) T5.mac A n c).ec
    have hf := T5.row.frozen 8
    generalize frame wbT a0 us = fr at *
    exact free_skip (w' := w'.setCell ⟨w.heap.size, 8, none⟩ (.int .u32 y)) (by go_simp) ⟨undef, rfl, ⟨(Below.refl w.heap.size w').setCell (p := ⟨w.heap.size, 8, none⟩) (Nat.le_refl _) _, (Below.refl w.heap.size w').setCell (p := ⟨w.heap.size, 8, none⟩) (Nat.le_refl _) _⟩, (show Two w _ { o with ht := true, va := x, ec := y } A n c from T5.set_ 8 _ (optV_ec y) T5.mac)⟩
  · intro us w6 hB2 hG hV hR
    have T1 := Lib.hid (show Two w w6 { o with ht := true, va := x, ec := y } A n c from hR)
    subst ha0
    simp only [frame, wbT, fill]
    clear hV hG hl HWS hR k2 k3
    go_upto_region 21 with fail
    have RW := Lib.hid T1.out.row
    have ZW := Lib.hid T1.out.res
    have BW := Lib.hid T1.out.bel
    clear T1
    unfold OptAt at RW ZW
    generalize optV { o with ht := true, va := x, ec := y } A n c = C1 at *
    go_wp2_with (first
      | (refine wpList_load_rowG (by kernel_rfl) 31 (.tmp 3) rfl w.heap.size (by kernel_rfl) _ _ _ _ RW.out Tryd.underlying31 rfl IQ.out ?_)
      | (refine wpList_store_row rfl 31 (.tmp 6) (.tmp 94) rfl (w.heap.size + 1) C1 rfl rfl _ _ ZW.out IQ.out SZ.out OO.out ?_))
    refine bodyPost_ret (v := .agg C1) (Go.results_cell_row Tryd.results84 _ _ (w.heap.size + 1) _ _ _ _ (by rfl) (setRow_heap _ _ _ _ _ _ ZW.out) Tryd.underlying31 rfl IQ.out) rfl ?_
    exact ⟨rfl, setR_belowQ BW.out (by omega) _⟩
def wcV (g0 gb ob d : Nat) (x y : Int) : Nat → Value → World → Prop
  | 0, v, _ => v = .slice (some ⟨gb, ob, none⟩) 14 d
  | 1, v, _ => v = .pointer (some ⟨gb, ob, none⟩)
  | 2, v, _ => v = .int .u8 x
  | 3, v, _ => v = .slice (some ⟨gb, ob, none⟩) 14 d
  | 4, v, _ => v = .pointer (some ⟨gb, ob + 1, none⟩)
  | 5, v, _ => v = .int .u8 y
  | 6, v, _ => v = .pointer (some ⟨g0, 9, none⟩)
  | 8, v, _ => v = .pointer (some ⟨g0, 10, none⟩)
  | 10, v, _ => v = .pointer (some ⟨g0, 11, none⟩)
  | _, _, _ => True
theorem wcV.keep (g0 gb ob d : Nat) (x y : Int) (i : Nat) (v : Value) (w w' : World) (hd : Below w.heap.size w w' ∨ (fun _ _ => True) w w') (h : wcV g0 gb ob d x y i v w) : wcV g0 gb ob d x y i v w' := by
  unfold wcV at h ⊢
  split at h <;> exact h
def wcT : List (Option Nat) := [none, none, none, none, none, none, none, none, none, none, none, none, none, none, none, none, none, none, none, none, none, none, none, none, none, none, none, none, none, none, none, none, none, none, none, none, none, none, none, none, none, none, none, none, none, none, none, none, none, none, none, none, none, none, none, none, none, none, none, none, none, none, none, none, none, none, none, none, none, none, none, none, none, some 0, some 1, some 2, some 3, some 4, some 5, some 6, some 8, some 10, none, none, none, none, none, none, none, none, none, none, none, none, none]
theorem mx_set (M D : List Int) (hM : M.length = 12) (hD : D.length = 12) (i : Nat) (hi : i < 12) : (M.take i ++ D.drop i).set i (M.getD i 0) = M.take (i + 1) ++ D.drop (i + 1) := by
  have h1 : i < M.length := by omega
  have h2 : i < D.length := by omega
  rw [List.set_append_right _ _ (by rw [List.length_take]; omega), List.length_take, show i - min i M.length = 0 by omega, List.drop_eq_getElem_cons h2, List.set_cons_zero, List.take_succ_eq_append_getElem h1, List.append_assoc]
  simp [List.getD_eq_getElem?_getD, h1]
theorem optV_mc {o : Opt} {A : Option Addr} {n c : Nat} (i : Nat) (z : Int) : (optV o A n c).setIfInBounds (12 + i) (.int .u8 z) = optV { o with mac := o.mac.set i z } A n c := by
  unfold optV optL
  rw [List.setIfInBounds_toArray, List.set_append_right _ _ (by simp [optH]), show 12 + i - (optH o A n c).length = i by simp [optH]]
  have e : (macL o.mac).set i (.int .u8 z) = macL (o.mac.set i z) := by unfold macL; rw [List.map_set]
  rw [e]
  rfl
set_option maxRecDepth 100000 in
set_option maxHeartbeats 4000000 in
theorem with29 (o : Opt) (A : Option Addr) (n c : Nat) (gb ob d : Nat) (b : List Int) (w : World) (ho : o.mac.length = 12) (hb : Nums .u8 w w.heap.size (some ⟨gb, ob, none⟩) 14 b) (hy : ∀ x ∈ b, Byte x) (hd : 14 ≤ d) (hdm : d ≤ 9223372036854775807) :
    Calls Tryd.prog 84 #[.agg (optV o A n c), .int .u8 29, .slice (some ⟨gb, ob, none⟩) 14 d] w (Ret w (.agg (optV (addO o 29 b) A n c))) := by
  have hzv := zeroOpt
  obtain ⟨W, hW⟩ : ∃ W, W = (w.alloc (.cells (optV o A n c) 31)).alloc (.cells (optV zOpt none 0 0) 31) := ⟨_, rfl⟩
  have e1 : (w.alloc (.cells (optV o A n c) 31)).heap.size = w.heap.size + 1 := alloc_size _ _
  have T0 : Two w W o A n c := by rw [hW]; exact two_new w o A n c ho
  have hl := hb.len
  have KX := fun (k : Nat) (hk : k < 14) (w' : World) (h : Below w.heap.size w w') => (show w'.cell? ⟨gb, ob + k, none⟩ = some (.int .u8 (b.getD k 0)) by
    obtain ⟨b2, o2, e, hlt, hc⟩ := (hb.below h).at_ (by decide)
    cases e
    exact hc k hk)
  have K0 := Lib.hid (show ∀ (w' : World), Below w.heap.size w w' → w'.cell? ⟨gb, ob, none⟩ = some (.int .u8 (b.getD 0 0)) from KX 0 (by decide))
  have K1 := Lib.hid (KX 1 (by decide))
  have KB := Lib.hid KX
  have HDD := Lib.hid (show ∀ i, (b.drop 2).getD i 0 = b.getD (i + 2) 0 from fun i => by simp [List.getD_eq_getElem?_getD, List.getElem?_drop, Nat.add_comm])
  have HML := Lib.hid (show (b.drop 2).length = 12 by rw [List.length_drop]; omega)
  have HD12 := Lib.hid ho
  have HWS := Lib.hid (show w.heap.size ≤ W.heap.size from T0.bel.size)
  show Calls _ _ _ _ (Ret w (.agg (optV { o with ha := true, ki := b.getD 0 0, ni := b.getD 1 0, mac := b.drop 2 } A n c)))
  generalize b.drop 2 = M at *
  have HQ := Lib.hid (show ∀ (q : Opt), q.mac = M → q.mac.length = 12 from fun q h => by rw [h]; exact HML.out)
  generalize hx : b.getD 0 0 = x at *
  generalize hyy : b.getD 1 0 = y at *
  have hmm : ({ o with ha := true, ki := x, ni := y, mac := M } : Opt).mac.length = 12 := HML.out
  have SZ := Lib.hid ((optC zOpt_ok.lm none 0 0).size.trans (optC (o := { o with ha := true, ki := x, ni := y, mac := M }) hmm A n c).size.symm)
  have IQ := Lib.hid (optC (o := { o with ha := true, ki := x, ni := y, mac := M }) hmm A n c).info
  have OO := Lib.hid (opt_one { o with ha := true, ki := x, ni := y, mac := M } A n c)
  clear hb hy e1 hl KX hx hyy
  go_enter Tryd.func84, Tryd.ntmps84
  try simp only [List.append_eq, List.cons_append, List.nil_append]
  go_upto_region 1 with fail
  rw [← hW]
  clear hW hzv
  go_upto_region 16 with fail
  refine with_act fun a0 ha0 => ?_
  have hl : wcT.length = a0.tmps.size := by rw [ha0]; rfl
  have k2 : a0.tmps[2]?.getD undef = .slice (some ⟨gb, ob, none⟩) 14 d := by rw [ha0]; rfl
  have k3 : a0.tmps[3]?.getD undef = .pointer (some ⟨(w.heap.size), 0, none⟩) := by rw [ha0]; rfl
  refine wp_region_che (by kernel_rfl) wcT (by kernel_rfl) (by kernel_rfl) hl (fun i => undef) (by rw [ha0]; rfl) ((w.heap.size)) (Below w.heap.size) [7, 9, 11] (by kernel_rfl) (by decide) (by decide) (fun w' => Below w.heap.size w w') (wcV (w.heap.size) gb ob d x y) (twR w A n c (fun k => ([o, { o with ha := true }, { o with ha := true, ki := x }, { o with ha := true, ki := x, ni := y }] : List Opt).getD k o)) HWS.out (T0.bel.trans (Below.refl _ _).drew) (show Two w W.drew o A n c from T0.belw (Below.refl _ _).drew) (fun w1 w2 hb hd h => bel_or hb h hd) (fun i v w w' _ _ h => wcV.keep _ _ _ _ _ _ i v w w' (.inr trivial) h) (fun k us us' w1 w2 _ _ hb hR => twR.keep hb hR) ⟨?_, ?_, ?_, ?_, ?_, ?_, ?_, ?_, ?_, ?_, ?_, ?_, trivial⟩ ?_
  · refine stepE_val [] (by kernel_rfl) (by decide) (by decide) rfl fun us w' hB hG hV => ?_
    have o2 := (frame_old2 (us := us) (a := a0) (show (wcT[2]?).join = none from rfl)).trans k2
    generalize frame wcT a0 us = fr at *
    exact val_C (v := .slice (some ⟨gb, ob, none⟩) 14 d) (w' := w') (by go_simp) (Below.refl _ _) rfl
  · refine stepE_val [0] (by kernel_rfl) (by decide) (by decide) rfl fun us w' hB hG hV => ?_
    have e0 : us 0 = .slice (some ⟨gb, ob, none⟩) 14 d := hV 0 (by simp)
    have v0 := (frame_at2 (us := us) hl (show (wcT[73]?).join = some 0 from rfl)).trans e0
    generalize frame wcT a0 us = fr at *
    exact val_C (v := .pointer (some ⟨gb, ob, none⟩)) (w' := w') (by go_simp) (Below.refl _ _) rfl
  · refine stepE_val [1] (by kernel_rfl) (by decide) (by decide) rfl fun us w' hB hG hV => ?_
    have e1 : us 1 = .pointer (some ⟨gb, ob, none⟩) := hV 1 (by simp)
    have v1 := (frame_at2 (us := us) hl (show (wcT[74]?).join = some 1 from rfl)).trans e1
    have hc := K0.out w' hG
    generalize frame wcT a0 us = fr at *
    exact val_C (v := .int .u8 x) (w' := w') (by go_simp) (Below.refl _ _) rfl
  · refine stepE_val [] (by kernel_rfl) (by decide) (by decide) rfl fun us w' hB hG hV => ?_
    have o2 := (frame_old2 (us := us) (a := a0) (show (wcT[2]?).join = none from rfl)).trans k2
    generalize frame wcT a0 us = fr at *
    exact val_C (v := .slice (some ⟨gb, ob, none⟩) 14 d) (w' := w') (by go_simp) (Below.refl _ _) rfl
  · refine stepE_val [3] (by kernel_rfl) (by decide) (by decide) rfl fun us w' hB hG hV => ?_
    have e3 : us 3 = .slice (some ⟨gb, ob, none⟩) 14 d := hV 3 (by simp)
    have v3 := (frame_at2 (us := us) hl (show (wcT[76]?).join = some 3 from rfl)).trans e3
    generalize frame wcT a0 us = fr at *
    exact val_C (v := .pointer (some ⟨gb, ob + 1, none⟩)) (w' := w') (by go_simp) (Below.refl _ _) rfl
  · refine stepE_val [4] (by kernel_rfl) (by decide) (by decide) rfl fun us w' hB hG hV => ?_
    have e4 : us 4 = .pointer (some ⟨gb, ob + 1, none⟩) := hV 4 (by simp)
    have v4 := (frame_at2 (us := us) hl (show (wcT[77]?).join = some 4 from rfl)).trans e4
    have hc := K1.out w' hG
    generalize frame wcT a0 us = fr at *
    exact val_C (v := .int .u8 y) (w' := w') (by go_simp) (Below.refl _ _) rfl
  · refine stepE_val [] (by kernel_rfl) (by decide) (by decide) rfl fun us w' hB hG hV => ?_
    have o3 := (frame_old2 (us := us) (a := a0) (show (wcT[3]?).join = none from rfl)).trans k3
    generalize frame wcT a0 us = fr at *
    exact val_C (v := .pointer (some ⟨(w.heap.size), 9, none⟩)) (w' := w') (by go_simp) (Below.refl _ _) rfl
  · refine stepE_chain 0 rfl (by decide) [6] (by kernel_rfl) (by decide) rfl fun us w' hB hG hV hR => ?_
    have e6 : us 6 = .pointer (some ⟨(w.heap.size), 9, none⟩) := hV 6 (by simp)
    have v6 := (frame_at2 (us := us) hl (show (wcT[79]?).join = some 6 from rfl)).trans e6
    have T5 := (show Two w w' o A n c from hR)
    have hc := pkC.PkC.cell T5.row.row (optC (o := o) T5.mac A n c).ha
    have hf := T5.row.frozen 9
    generalize frame wcT a0 us = fr at *
    exact free_skip (w' := w'.setCell ⟨w.heap.size, 9, none⟩ (.bool true)) (by go_simp) ⟨undef, rfl, ⟨(Below.refl w.heap.size w').setCell (p := ⟨w.heap.size, 9, none⟩) (Nat.le_refl _) _, (Below.refl w.heap.size w').setCell (p := ⟨w.heap.size, 9, none⟩) (Nat.le_refl _) _⟩, (show Two w _ { o with ha := true } A n c from T5.set_ 9 _ (optV_ha true) T5.mac)⟩
  · refine stepE_val [] (by kernel_rfl) (by decide) (by decide) rfl fun us w' hB hG hV => ?_
    have o3 := (frame_old2 (us := us) (a := a0) (show (wcT[3]?).join = none from rfl)).trans k3
    generalize frame wcT a0 us = fr at *
    exact val_C (v := .pointer (some ⟨(w.heap.size), 10, none⟩)) (w' := w') (by go_simp) (Below.refl _ _) rfl
  · refine stepE_chain 1 rfl (by decide) [8, 2] (by kernel_rfl) (by decide) rfl fun us w' hB hG hV hR => ?_
    have e8 : us 8 = .pointer (some ⟨(w.heap.size), 10, none⟩) := hV 8 (by simp)
    have v8 := (frame_at2 (us := us) hl (show (wcT[80]?).join = some 8 from rfl)).trans e8
    have e2 : us 2 = .int .u8 x := hV 2 (by simp)
    have v2 := (frame_at2 (us := us) hl (show (wcT[75]?).join = some 2 from rfl)).trans e2
    have T5 := (show Two w w' { o with ha := true } A n c from hR)
    have hc := pkC.PkC.cell T5.row.row (optC (o := { o with ha := true }) T5.mac A n c).ki
    have hf := T5.row.frozen 10
    generalize frame wcT a0 us = fr at *
    exact free_skip (w' := w'.setCell ⟨w.heap.size, 10, none⟩ (.int .u8 x)) (by go_simp) ⟨undef, rfl, ⟨(Below.refl w.heap.size w').setCell (p := ⟨w.heap.size, 10, none⟩) (Nat.le_refl _) _, (Below.refl w.heap.size w').setCell (p := ⟨w.heap.size, 10, none⟩) (Nat.le_refl _) _⟩, (show Two w _ { o with ha := true, ki := x } A n c from T5.set_ 10 _ (optV_ki x) T5.mac)⟩
  · refine stepE_val [] (by kernel_rfl) (by decide) (by decide) rfl fun us w' hB hG hV => ?_
    have o3 := (frame_old2 (us := us) (a := a0) (show (wcT[3]?).join = none from rfl)).trans k3
    generalize frame wcT a0 us = fr at *
    exact val_C (v := .pointer (some ⟨(w.heap.size), 11, none⟩)) (w' := w') (by go_simp) (Below.refl _ _) rfl
  · refine stepE_chain 2 rfl (by decide) [10, 5] (by kernel_rfl) (by decide) rfl fun us w' hB hG hV hR => ?_
    have e10 : us 10 = .pointer (some ⟨(w.heap.size), 11, none⟩) := hV 10 (by simp)
    have v10 := (frame_at2 (us := us) hl (show (wcT[81]?).join = some 10 from rfl)).trans e10
    have e5 : us 5 = .int .u8 y := hV 5 (by simp)
    have v5 := (frame_at2 (us := us) hl (show (wcT[78]?).join = some 5 from rfl)).trans e5
    have T5 := (show Two w w' { o with ha := true, ki := x } A n c from hR)
    have hc := pkC.PkC.cell T5.row.row (optC (o := { o with ha := true, ki := x }) T5.mac A n c).ni
    have hf := T5.row.frozen 11
    generalize frame wcT a0 us = fr at *
    exact free_skip (w' := w'.setCell ⟨w.heap.size, 11, none⟩ (.int .u8 y)) (by go_simp) ⟨undef, rfl, ⟨(Below.refl w.heap.size w').setCell (p := ⟨w.heap.size, 11, none⟩) (Nat.le_refl _) _, (Below.refl w.heap.size w').setCell (p := ⟨w.heap.size, 11, none⟩) (Nat.le_refl _) _⟩, (show Two w _ { o with ha := true, ki := x, ni := y } A n c from T5.set_ 11 _ (optV_ni y) T5.mac)⟩
  · intro us w6 hB2 hG hV hR
    have T1 := Lib.hid (show Two w w6 { o with ha := true, ki := x, ni := y } A n c from hR)
    subst ha0
    simp only [frame, wcT, fill]
    clear hV hG hl hR k2 k3
    have T2 := Lib.hid (show Two w w6 { o with ha := true, ki := x, ni := y, mac := M.take 0 ++ o.mac.drop 0 } A n c from T1.out)
    clear T1 T0 K0 K1
    go_upto_region 18 with fail
    go_loopw [8] (fun v8 wr => ∃ i : Nat, v8 = .int .i64 i ∧ i ≤ 12 ∧ Two w wr { o with ha := true, ki := x, ni := y, mac := M.take i ++ o.mac.drop i } A n c) (fun v8 _ => 12 - (intOf v8).toNat)
    case atStart => exact ⟨0, rfl, Nat.zero_le _, T2.out⟩
    case round =>
      obtain ⟨i, rfl, hi, ht⟩ := hrel
      clear T2
      by_cases h12 : i < 12
      · have q1 : (i : Int) < 12 := by omega
        obtain ⟨j, hj⟩ : ∃ j, j = i + 2 := ⟨_, rfl⟩
        have hji : (i : Int) + 2 = (j : Int) := by omega
        have hj14 : (j : Int) < 14 := by omega
        have cb := KB.out j (by omega) wr ht.bel
        rw [hj, ← HDD.out i, ← hj] at cb
        have OC := optC ht.mac A n c
        have HT := Lib.hid ht
        have MS := Lib.hid (mx_set M o.mac HML.out HD12.out i h12)
        obtain ⟨mi, hmi⟩ : ∃ mi, mi = M.take i ++ o.mac.drop i := ⟨_, rfl⟩
        have LI := Lib.hid (show mi.length = 12 by rw [hmi]; exact ht.mac)
        rw [← hmi] at MS HT OC
        have kc := pkC.PkC.cell HT.out.row.row (OC.mac i (.int .u8 (mi.getD i 0)) (by
          have h9 : i < mi.length := by rw [LI.out]; exact h12
          simp [macL, List.getD_eq_getElem?_getD, h9]))
        have fc := HT.out.row.frozen (12 + i)
        have w1 : IntKind.i64.wrap ((i : Int) + 2) = (i : Int) + 2 := IntWalk.i64_in _ (by omega)
        have w2 : IntKind.i64.wrap ((i : Int) + 1) = (i : Int) + 1 := IntWalk.i64_in _ (by omega)
        generalize M.getD i 0 = z at *
        generalize mi.getD i 0 = z0 at *
        have HI := Lib.hid h12
        clear hmi OC ht hj hi
        go_wp2_with fail
        go_roundw
        case rel =>
          have h9 : Two w (wr.setCell ⟨w.heap.size, 12 + i, none⟩ (.int .u8 z)) { o with ha := true, ki := x, ni := y, mac := mi.set i z } A n c := HT.out.set_ (12 + i) (.int .u8 z) (optV_mc i z) (by show (mi.set i z).length = 12; rw [List.length_set]; exact LI.out)
          rw [MS.out] at h9
          exact ⟨i + 1, by go_num, by have := HI.out; omega, h9⟩
        case measure => simp [intOf]; have := HI.out; omega
      · obtain rfl : i = 12 := by omega
        have T1 := Lib.hid (show Two w wr { o with ha := true, ki := x, ni := y, mac := M } A n c by
          rw [show M.take 12 ++ o.mac.drop 12 = M by rw [List.take_of_length_le (by rw [HML.out]; exact Nat.le_refl _), List.drop_of_length_le (by rw [HD12.out]; exact Nat.le_refl _), List.append_nil]] at ht
          exact ht)
        clear ht hi h12
        go_upto_region 21 with fail
        have RW := Lib.hid T1.out.row
        have ZW := Lib.hid T1.out.res
        have BW := Lib.hid T1.out.bel
        clear T1
        unfold OptAt at RW ZW
        generalize optV { o with ha := true, ki := x, ni := y, mac := M } A n c = C1 at *
        go_wp2_with (first
          | (refine wpList_load_rowG (by kernel_rfl) 31 (.tmp 3) rfl w.heap.size (by kernel_rfl) _ _ _ _ RW.out Tryd.underlying31 rfl IQ.out ?_)
          | (refine wpList_store_row rfl 31 (.tmp 6) (.tmp 94) rfl (w.heap.size + 1) C1 rfl rfl _ _ ZW.out IQ.out SZ.out OO.out ?_))
        refine bodyPost_ret (v := .agg C1) (Go.results_cell_row Tryd.results84 _ _ (w.heap.size + 1) _ _ _ _ (by rfl) (setRow_heap _ _ _ _ _ _ ZW.out) Tryd.underlying31 rfl IQ.out) rfl ?_
        exact ⟨rfl, setR_belowQ BW.out (by omega) _⟩
end Go.Proofs.YtniimgbljhmcoaaDoor.opC

/-
  Options with one more: the document's (Sacks).
-/
namespace Go.Proofs.YtniimgbljhmcoaaDoor.opC
open Go.ChangeShapes Go.WideShapes Go.ChangeAt Go.RowKit
open Go.Proofs.YtniimgbljhmcoaaDoor.memC Go.Proofs.YtniimgbljhmcoaaDoor.genC Go.Proofs.YtniimgbljhmcoaaDoor.butC Go.Proofs.YtniimgbljhmcoaaDoor.freeC Go.Proofs.YtniimgbljhmcoaaDoor.adC
open Go.Proofs.YtniimgbljhmcoaaDoor.octC (getZ)
set_option linter.unusedVariables false
/-- the pairs that are read, as they grow -/
def wsR (w0 : World) (A1 : Option Addr) (i c1 : Nat) (x y : Int) (o1 : Opt) (ps : List (Int × Int)) : Nat → (Nat → Value) → World → Prop
  | 0, _, w => Two w0 w o1 A1 i c1 ∧ OwnP w (w0.heap.size + 2) (.slice A1 i c1) ps
  | 1, us, w => (∃ z, us 18 = .slice (some ⟨z, 0, none⟩) 1 1 ∧ w.heap[z]? = some (.cells #[.int .u32 x, .int .u32 y] 101 (0, 0))) ∧ Two w0 w o1 A1 i c1 ∧ OwnP w (w0.heap.size + 2) (.slice A1 i c1) ps
  | 2, us, w => ∃ A2 c2, us 19 = .slice A2 (i + 1) c2 ∧ Two w0 w o1 A1 i c1 ∧ OwnP w (w0.heap.size + 2) (.slice A2 (i + 1) c2) (ps ++ [(x, y)])
  | 3, _, w => ∃ A2 c2, Two w0 w { o1 with sk := ps ++ [(x, y)] } A2 (i + 1) c2 ∧ OwnP w (w0.heap.size + 2) (.slice A2 (i + 1) c2) (ps ++ [(x, y)])
  | _, _, _ => True
theorem wsR.keep (w0 : World) (A1 : Option Addr) (i c1 : Nat) (x y : Int) (o1 : Opt) (ps : List (Int × Int)) (k : Nat) (us us' : Nat → Value) (w w' : World) (h : ∀ x ∈ [18, 19, 21], us' x = us x) (hb : Below w.heap.size w w') (hR : wsR w0 A1 i c1 x y o1 ps k us w) : wsR w0 A1 i c1 x y o1 ps k us' w' := by
  have h18 := h 18 (by simp); have h19 := h 19 (by simp)
  unfold wsR at hR ⊢
  split at hR
  · exact ⟨hR.1.belw hb, hR.2.below hb⟩
  · obtain ⟨⟨z, a1, a2⟩, a3, a4⟩ := hR
    exact ⟨⟨z, h18.trans a1, by rw [hb.block _ (lt_of_row a2)]; exact a2⟩, a3.belw hb, a4.below hb⟩
  · obtain ⟨A2, c2, a1, a2, a3⟩ := hR
    exact ⟨A2, c2, h19.trans a1, a2.belw hb, a3.below hb⟩
  · obtain ⟨A2, c2, a2, a3⟩ := hR
    exact ⟨A2, c2, a2.belw hb, a3.below hb⟩
  · trivial
theorem Two.gr {w0 w w' : World} {o : Opt} {A : Option Addr} {n c : Nat} (h : Two w0 w o A n c) {r : Option Nat} (hg : w.grownBy w' r) (hr : ∀ k, r = some k → w0.heap.size + 2 ≤ k) : Two w0 w' o A n c :=
  ⟨OptAt.gr h.row hg (fun e => by have := hr _ e.symm; omega), OptAt.gr h.res hg (fun e => by have := hr _ e.symm; omega), h.bel.trans ((Below.refl _ w).grown hg h.bel.size fun k hk => by have := hr k hk; omega), h.mac⟩
/-- what with gives, of Sacks -/
def SkR (w : World) (o : Opt) (m : Nat) (ps : List (Int × Int)) (e : Ending) (w' : World) : Prop :=
  ∃ A c, e = .returned (.agg (optV { o with sk := ps } A m c)) ∧ OwnP w' w.heap.size (.slice A m c) ps ∧ Below w.heap.size w w'
def wsV (g0 gb ob n d kx p p4 p8 d1 d2 : Nat) (A1 : Option Addr) (c1 : Nat) (x y : Int) : Nat → Value → World → Prop
  | 0, v, _ => v = .pointer (some ⟨g0, 5, none⟩)
  | 1, v, _ => v = .slice A1 kx c1
  | 2, v, _ => v = .slice (some ⟨gb, ob, none⟩) n d
  | 3, v, _ => v = .int .i64 (p : Int)
  | 4, v, _ => v = .int .i64 (p : Int)
  | 5, v, _ => v = .int .i64 (p4 : Int)
  | 6, v, _ => v = .slice (some ⟨gb, ob + p, none⟩) 4 d1
  | 7, v, _ => v = .int .u64 x
  | 8, v, _ => v = .int .u32 x
  | 9, v, _ => v = .slice (some ⟨gb, ob, none⟩) n d
  | 10, v, _ => v = .int .i64 (p : Int)
  | 11, v, _ => v = .int .i64 (p4 : Int)
  | 12, v, _ => v = .int .i64 (p : Int)
  | 13, v, _ => v = .int .i64 (p8 : Int)
  | 14, v, _ => v = .slice (some ⟨gb, ob + p4, none⟩) 4 d2
  | 15, v, _ => v = .int .u64 y
  | 16, v, _ => v = .int .u32 y
  | 17, v, _ => v = .agg #[.int .u32 x, .int .u32 y]
  | 20, v, _ => v = .pointer (some ⟨g0, 5, none⟩)
  | _, _, _ => True
theorem wsV.keep (g0 gb ob n d kx p p4 p8 d1 d2 : Nat) (A1 : Option Addr) (c1 : Nat) (x y : Int) (i : Nat) (v : Value) (w w' : World) (hd : Below w.heap.size w w' ∨ (fun _ _ => True) w w') (h : wsV g0 gb ob n d kx p p4 p8 d1 d2 A1 c1 x y i v w) : wsV g0 gb ob n d kx p p4 p8 d1 d2 A1 c1 x y i v w' := by
  unfold wsV at h ⊢
  split at h <;> exact h
def wsT : List (Option Nat) := [none, none, none, none, none, none, none, none, none, none, none, none, none, none, none, none, none, none, none, none, none, none, none, none, none, none, none, none, none, none, none, none, none, none, none, none, none, some 0, some 1, some 2, some 3, some 4, some 5, some 6, some 7, some 8, some 9, some 10, some 11, some 12, some 13, some 14, some 15, some 16, some 17, some 18, some 19, some 20, none, none, none, none, none, none, none, none, none, none, none, none, none, none, none, none, none, none, none, none, none, none, none, none, none, none, none, none, none, none, none, none, none, none, none, none, none]
theorem pkCutAt (b o n c f e m d : Nat) (h1 : f ≤ e) (h2 : e ≤ c) (h3 : f < c) (hm : e - f = m) (hd : c - f = d) (w : World) :
    (Instr.slice 32 (.slice (some ⟨b, o, none⟩) n c) (some (.int .i64 (f : Int))) (some (.int .i64 (e : Int))) none).run Tryd.prog w = .ok (.slice (some ⟨b, o + f, none⟩) m d) w := by
  subst hm hd
  have h := pkC.cut_two (some ⟨b, o, none⟩) n c f e h1 h2 w
  rw [if_neg (by omega), show (some (⟨b, o, none⟩ : Addr)).map (·.add f) = some ⟨b, o + f, none⟩ by simp [memC.add_plain]] at h
  exact h
theorem sxNumsAt {w : World} {B b o n : Nat} {bs : List Int} (h : Nums .u8 w B (some ⟨b, o, none⟩) n bs) (f m : Nat) (hm : f + m ≤ n) : Nums .u8 w B (some ⟨b, o + f, none⟩) m ((bs.drop f).take m) := by
  refine ⟨by rw [List.length_take, List.length_drop, h.len]; omega, fun h0 => ?_⟩
  obtain ⟨b', o', e, hb, hc⟩ := h.at_ (by omega)
  cases e
  refine ⟨b, o + f, rfl, hb, fun i hi => ?_⟩
  have := hc (f + i) (by omega)
  rw [show o + f + i = o + (f + i) by omega, this]
  simp [List.getD_eq_getElem?_getD, List.getElem?_drop, List.getElem?_take_of_lt hi]
set_option maxRecDepth 100000 in
set_option maxHeartbeats 8000000 in
theorem with5 (o : Opt) (gb ob n d m : Nat) (b : List Int) (w : World) (ho : o.mac.length = 12) (hsk : o.sk = []) (hb : Nums .u8 w w.heap.size (some ⟨gb, ob, none⟩) n b) (hn : n = 8 * m) (hm0 : 0 < m) (hm : m ≤ 4) (hy : ∀ x ∈ b, Byte x) (hd : n ≤ d) (hdm : d ≤ 9223372036854775807) :
    Calls Tryd.prog 84 #[.agg (optV o none 0 0), .int .u8 5, .slice (some ⟨gb, ob, none⟩) n d] w (SkR w o m (pairsN m b)) := by
  have hzv := zeroOpt
  obtain ⟨W, hW⟩ : ∃ W, W = (w.alloc (.cells (optV o none 0 0) 31)).alloc (.cells (optV zOpt none 0 0) 31) := ⟨_, rfl⟩
  have e1 : (w.alloc (.cells (optV o none 0 0) 31)).heap.size = w.heap.size + 1 := alloc_size _ _
  have T0 : Two w W o none 0 0 := by rw [hW]; exact two_new w o none 0 0 ho
  have hl := hb.len
  have HNB := Lib.hid hb
  have HY := Lib.hid hy
  have HD := Lib.hid hd
  have HDM := Lib.hid hdm
  have HN := Lib.hid hn
  have HM := Lib.hid hm
  have HM0 := Lib.hid hm0
  have HMA := Lib.hid ho
  have HL := Lib.hid hl
  have T2 := Lib.hid (show Two w W { o with sk := pairsN 0 b } none 0 0 from ⟨T0.row, T0.res, T0.bel, T0.mac⟩)
  clear hb hy hl hn hm hm0 T0 e1 hsk
  go_enter Tryd.func84, Tryd.ntmps84
  try simp only [List.append_eq, List.cons_append, List.nil_append]
  go_upto_region 1 with fail
  rw [← hW]
  clear hW hzv
  go_upto_region 10 with fail
  go_loopw [7] (fun v7 wr => ∃ (i : Nat) (A1 : Option Addr) (c1 : Nat), v7 = .int .i64 ((8 * i : Nat) : Int) ∧ i ≤ m ∧ Two w wr { o with sk := pairsN i b } A1 i c1 ∧ OwnP wr (w.heap.size + 2) (.slice A1 i c1) (pairsN i b)) (fun v7 _ => 8 * m - (intOf v7).toNat)
  case atStart => exact ⟨0, none, 0, rfl, Nat.zero_le _, T2.out, OwnP.nil _ _⟩
  case round =>
    obtain ⟨i, A1, c1, rfl, hi, r2, r3⟩ := hrel
    clear T2
    have ST := Lib.hid r2
    have SO := Lib.hid r3
    have HWS := Lib.hid (show w.heap.size ≤ wr.heap.size from r2.bel.size)
    have hn := HN.out
    have hm := HM.out
    obtain ⟨p, hp⟩ : ∃ p, p = 8 * i := ⟨_, rfl⟩
    have hp' : 8 * i = p := hp.symm
    have w8 : IntKind.i64.wrap ((p : Int) + 8) = (p : Int) + 8 := IntWalk.i64_in _ (by omega)
    clear r2 r3
    by_cases hlt : i < m
    · have hd9 := HD.out
      have hdm9 := HDM.out
      obtain ⟨p8, hp8⟩ : ∃ q, q = p + 8 := ⟨_, rfl⟩
      obtain ⟨p4, hp4⟩ : ∃ q, q = p + 4 := ⟨_, rfl⟩
      obtain ⟨d1, hd1⟩ : ∃ q, q = d - p := ⟨_, rfl⟩
      obtain ⟨d2, hd2⟩ : ∃ q, q = d - p4 := ⟨_, rfl⟩
      have E4 := Lib.hid (show (p : Int) + 4 = (p4 : Int) by omega)
      have E8 := Lib.hid (show (p : Int) + 8 = (p8 : Int) by omega)
      have W4 := Lib.hid (show IntKind.i64.wrap (p4 : Int) = (p4 : Int) from IntWalk.i64_in _ (by omega))
      have W8 := Lib.hid (show IntKind.i64.wrap (p8 : Int) = (p8 : Int) from IntWalk.i64_in _ (by omega))
      have SC1 := Lib.hid (fun w' => pkCutAt gb ob n d p p4 4 d1 (by omega) (by omega) (by omega) (by omega) hd1.symm w')
      have SC2 := Lib.hid (fun w' => pkCutAt gb ob n d p4 p8 4 d2 (by omega) (by omega) (by omega) (by omega) hd2.symm w')
      obtain ⟨x, hx⟩ : ∃ x, x = getZ ((b.drop p).take 4) := ⟨_, rfl⟩
      obtain ⟨y, hy⟩ : ∃ y, y = getZ ((b.drop p4).take 4) := ⟨_, rfl⟩
      have yx : ∀ z ∈ (b.drop p).take 4, Byte z := fun z hz => HY.out z (List.mem_of_mem_drop (List.mem_of_mem_take hz))
      have yy : ∀ z ∈ (b.drop p4).take 4, Byte z := fun z hz => HY.out z (List.mem_of_mem_drop (List.mem_of_mem_take hz))
      have zx := getZ_bound yx
      have zy := getZ_bound yy
      rw [List.length_take, List.length_drop, HL.out, show min 4 (n - p) = 4 by omega] at zx
      rw [List.length_take, List.length_drop, HL.out, show min 4 (n - p4) = 4 by omega] at zy
      rw [← hx] at zx
      rw [← hy] at zy
      have WX := Lib.hid (show IntKind.u32.wrap x = x from IntWalk.u32_in _ (by omega))
      have WY := Lib.hid (show IntKind.u32.wrap y = y from IntWalk.u32_in _ (by omega))
      have G1 := Lib.hid (fun (w' : World) (h : Below w.heap.size w w') => (show Calls Tryd.prog 50 #[.slice (some ⟨gb, ob + p, none⟩) 4 d1] w' (Ret w' (.int .u64 x)) by
        rw [hx]
        exact rget_ret w' (sxNumsAt ((HNB.out.below h).more h.size) p 4 (by omega)) (by decide) (by omega) (by omega) yx))
      have G2 := Lib.hid (fun (w' : World) (h : Below w.heap.size w w') => (show Calls Tryd.prog 50 #[.slice (some ⟨gb, ob + p4, none⟩) 4 d2] w' (Ret w' (.int .u64 y)) by
        rw [hy]
        exact rget_ret w' (sxNumsAt ((HNB.out.below h).more h.size) p4 4 (by omega)) (by decide) (by omega) (by omega) yy))
      have EP := Lib.hid (show pairsN (i + 1) b = pairsN i b ++ [(x, y)] by rw [pairs_snoc, List.drop_drop, ← hp, ← hp4, hx, hy])
      obtain ⟨ps, hps⟩ : ∃ ps, ps = pairsN i b := ⟨_, rfl⟩
      obtain ⟨o1, ho1⟩ : ∃ o1, o1 = { o with sk := pairsN i b } := ⟨_, rfl⟩
      have EO := Lib.hid (show ({ o1 with sk := pairsN (i + 1) b } : Opt) = { o with sk := pairsN (i + 1) b } by rw [ho1])
      have LP := Lib.hid (show ps.length = i by rw [hps]; exact pairs_len i b)
      have LI := Lib.hid (show i < m ∧ m ≤ 4 from ⟨hlt, hm⟩)
      have W9 := Lib.hid (show wrap64 ((p : Int) + 8) = ((8 * (i + 1) : Nat) : Int) by rw [IntWalk.wrap64_in _ (by omega)]; omega)
      have PE := Lib.hid (show p = 8 * i ∧ p8 = 8 * i + 8 ∧ i < m from ⟨hp, by omega, hlt⟩)
      have q1 : (p : Int) + 8 ≤ (n : Int) := by omega
      rw [← ho1] at ST
      rw [← hps] at SO EP
      rw [hp']
      clear hd9 hdm9 hp8 hp4 hd1 hd2 hx hy yx yy zx zy hps ho1 hlt hn hm hi hp hp'
      go_upto_region 12 with fail
      clear w8 q1
      refine with_act fun a0 ha0 => ?_
      have hl : wsT.length = a0.tmps.size := by rw [ha0]; rfl
      have k2 : a0.tmps[2]?.getD undef = .slice (some ⟨gb, ob, none⟩) n d := by rw [ha0]; rfl
      have k3 : a0.tmps[3]?.getD undef = .pointer (some ⟨(w.heap.size), 0, none⟩) := by rw [ha0]; rfl
      have k7 : a0.tmps[7]?.getD undef = .int .i64 (p : Int) := by rw [ha0]; rfl
      refine wp_region_che (by kernel_rfl) wsT (by kernel_rfl) (by kernel_rfl) hl (fun i => a0.tmps[i + 37]?.getD undef) (by rw [ha0]; rfl) ((w.heap.size)) (Below w.heap.size) [18, 19, 21] (by kernel_rfl) (by decide) (by decide) (fun w' => Below w.heap.size w w') (wsV (w.heap.size) gb ob n d i p p4 p8 d1 d2 A1 c1 x y) (wsR w A1 i c1 x y o1 ps) HWS.out (ST.out.bel.trans ((Below.refl _ _).drew.mono HWS.out)) ⟨ST.out.belw (Below.refl _ _).drew, SO.out.below (Below.refl _ _).drew⟩ (fun w1 w2 hb hd h => bel_or hb h hd) (fun i v w w' _ _ h => wsV.keep _ _ _ _ _ _ _ _ _ _ _ _ _ _ _ i v w w' (.inr trivial) h) (fun k us us' w w' h _ hb hR => wsR.keep _ _ _ _ _ _ _ _ k us us' w w' h hb hR) ⟨?_, ?_, ?_, ?_, ?_, ?_, ?_, ?_, ?_, ?_, ?_, ?_, ?_, ?_, ?_, ?_, ?_, ?_, ?_, ?_, ?_, ?_, trivial⟩ ?_
      · refine stepE_val [] (by kernel_rfl) (by decide) (by decide) rfl fun us w' hB hG hV => ?_
        have o3 := (frame_old2 (us := us) (a := a0) (show (wsT[3]?).join = none from rfl)).trans k3
        generalize frame wsT a0 us = fr at *
        exact val_C (v := .pointer (some ⟨(w.heap.size), 5, none⟩)) (w' := w') (by go_simp) (Below.refl _ _) rfl
      · refine stepE_early 0 1 (.inl rfl) (.inr ⟨_, _, rfl, rfl, by kernel_rfl⟩) [0] (by kernel_rfl) (by decide) (by decide) rfl fun us w' k hB hG hV hk hR => ?_
        have e0 : us 0 = .pointer (some ⟨(w.heap.size), 5, none⟩) := hV 0 (by simp)
        have v0 := (frame_at2 (us := us) hl (show (wsT[37]?).join = some 0 from rfl)).trans e0
        have hrw : Two w w' o1 A1 i c1 := by
          obtain ⟨h1, h2⟩ := hk
          match k, h1, h2, hR with
          | 0, _, _, hR => exact hR.1
          | 1, _, _, hR => exact hR.2.1
        have hc := pkC.PkC.cell hrw.row.row (optC hrw.mac A1 i c1).sk
        generalize frame wsT a0 us = fr at *
        exact val_C (v := .slice A1 i c1) (w' := w') (by go_simp) (Below.refl _ _) rfl
      · refine stepE_val [] (by kernel_rfl) (by decide) (by decide) rfl fun us w' hB hG hV => ?_
        have o2 := (frame_old2 (us := us) (a := a0) (show (wsT[2]?).join = none from rfl)).trans k2
        generalize frame wsT a0 us = fr at *
        exact val_C (v := .slice (some ⟨gb, ob, none⟩) n d) (w' := w') (by go_simp) (Below.refl _ _) rfl
      · refine stepE_val [] (by kernel_rfl) (by decide) (by decide) rfl fun us w' hB hG hV => ?_
        have o7 := (frame_old2 (us := us) (a := a0) (show (wsT[7]?).join = none from rfl)).trans k7
        generalize frame wsT a0 us = fr at *
        exact val_C (v := .int .i64 (p : Int)) (w' := w') (by go_simp) (Below.refl _ _) rfl
      · refine stepE_val [] (by kernel_rfl) (by decide) (by decide) rfl fun us w' hB hG hV => ?_
        have o7 := (frame_old2 (us := us) (a := a0) (show (wsT[7]?).join = none from rfl)).trans k7
        generalize frame wsT a0 us = fr at *
        exact val_C (v := .int .i64 (p : Int)) (w' := w') (by go_simp) (Below.refl _ _) rfl
      · refine stepE_val [4] (by kernel_rfl) (by decide) (by decide) rfl fun us w' hB hG hV => ?_
        have e4 : us 4 = .int .i64 (p : Int) := hV 4 (by simp)
        have v4 := (frame_at2 (us := us) hl (show (wsT[41]?).join = some 4 from rfl)).trans e4
        have hw := W4.out
        have hz := E4.out
        generalize frame wsT a0 us = fr at *
        exact val_C (v := .int .i64 (p4 : Int)) (w' := w') (by go_simp) (Below.refl _ _) rfl
      · refine stepE_val [2, 3, 5] (by kernel_rfl) (by decide) (by decide) rfl fun us w' hB hG hV => ?_
        have e2 : us 2 = .slice (some ⟨gb, ob, none⟩) n d := hV 2 (by simp)
        have v2 := (frame_at2 (us := us) hl (show (wsT[39]?).join = some 2 from rfl)).trans e2
        have e3 : us 3 = .int .i64 (p : Int) := hV 3 (by simp)
        have v3 := (frame_at2 (us := us) hl (show (wsT[40]?).join = some 3 from rfl)).trans e3
        have e5 : us 5 = .int .i64 (p4 : Int) := hV 5 (by simp)
        have v5 := (frame_at2 (us := us) hl (show (wsT[42]?).join = some 5 from rfl)).trans e5
        have hsc := SC1.out w'
        generalize frame wsT a0 us = fr at *
        exact val_C (v := .slice (some ⟨gb, ob + p, none⟩) 4 d1) (w' := w') (by go_simp) (Below.refl _ _) rfl
      · refine stepE_val [6] (by kernel_rfl) (by decide) (by decide) rfl fun us w' hB hG hV => ?_
        have e6 : us 6 = .slice (some ⟨gb, ob + p, none⟩) 4 d1 := hV 6 (by simp)
        have v6 := (frame_at2 (us := us) hl (show (wsT[43]?).join = some 6 from rfl)).trans e6
        generalize frame wsT a0 us = fr at *
        exact call_C (f := 50) (args := #[.slice (some ⟨gb, ob + p, none⟩) 4 d1]) (by go_simp) ((G1.out w' hG).mono fun e w'' h => ⟨_, h.1, h.2, rfl⟩)
      · refine stepE_val [7] (by kernel_rfl) (by decide) (by decide) rfl fun us w' hB hG hV => ?_
        have e7 : us 7 = .int .u64 x := hV 7 (by simp)
        have v7 := (frame_at2 (us := us) hl (show (wsT[44]?).join = some 7 from rfl)).trans e7
        have hw := WX.out
        generalize frame wsT a0 us = fr at *
        exact val_C (v := .int .u32 x) (w' := w') (by go_simp) (Below.refl _ _) rfl
      · refine stepE_val [] (by kernel_rfl) (by decide) (by decide) rfl fun us w' hB hG hV => ?_
        have o2 := (frame_old2 (us := us) (a := a0) (show (wsT[2]?).join = none from rfl)).trans k2
        generalize frame wsT a0 us = fr at *
        exact val_C (v := .slice (some ⟨gb, ob, none⟩) n d) (w' := w') (by go_simp) (Below.refl _ _) rfl
      · refine stepE_val [] (by kernel_rfl) (by decide) (by decide) rfl fun us w' hB hG hV => ?_
        have o7 := (frame_old2 (us := us) (a := a0) (show (wsT[7]?).join = none from rfl)).trans k7
        generalize frame wsT a0 us = fr at *
        exact val_C (v := .int .i64 (p : Int)) (w' := w') (by go_simp) (Below.refl _ _) rfl
      · refine stepE_val [10] (by kernel_rfl) (by decide) (by decide) rfl fun us w' hB hG hV => ?_
        have e10 : us 10 = .int .i64 (p : Int) := hV 10 (by simp)
        have v10 := (frame_at2 (us := us) hl (show (wsT[47]?).join = some 10 from rfl)).trans e10
        have hw := W4.out
        have hz := E4.out
        generalize frame wsT a0 us = fr at *
        exact val_C (v := .int .i64 (p4 : Int)) (w' := w') (by go_simp) (Below.refl _ _) rfl
      · refine stepE_val [] (by kernel_rfl) (by decide) (by decide) rfl fun us w' hB hG hV => ?_
        have o7 := (frame_old2 (us := us) (a := a0) (show (wsT[7]?).join = none from rfl)).trans k7
        generalize frame wsT a0 us = fr at *
        exact val_C (v := .int .i64 (p : Int)) (w' := w') (by go_simp) (Below.refl _ _) rfl
      · refine stepE_val [12] (by kernel_rfl) (by decide) (by decide) rfl fun us w' hB hG hV => ?_
        have e12 : us 12 = .int .i64 (p : Int) := hV 12 (by simp)
        have v12 := (frame_at2 (us := us) hl (show (wsT[49]?).join = some 12 from rfl)).trans e12
        have hw := W8.out
        have hz := E8.out
        generalize frame wsT a0 us = fr at *
        exact val_C (v := .int .i64 (p8 : Int)) (w' := w') (by go_simp) (Below.refl _ _) rfl
      · refine stepE_val [9, 11, 13] (by kernel_rfl) (by decide) (by decide) rfl fun us w' hB hG hV => ?_
        have e9 : us 9 = .slice (some ⟨gb, ob, none⟩) n d := hV 9 (by simp)
        have v9 := (frame_at2 (us := us) hl (show (wsT[46]?).join = some 9 from rfl)).trans e9
        have e11 : us 11 = .int .i64 (p4 : Int) := hV 11 (by simp)
        have v11 := (frame_at2 (us := us) hl (show (wsT[48]?).join = some 11 from rfl)).trans e11
        have e13 : us 13 = .int .i64 (p8 : Int) := hV 13 (by simp)
        have v13 := (frame_at2 (us := us) hl (show (wsT[50]?).join = some 13 from rfl)).trans e13
        have hsc := SC2.out w'
        generalize frame wsT a0 us = fr at *
        exact val_C (v := .slice (some ⟨gb, ob + p4, none⟩) 4 d2) (w' := w') (by go_simp) (Below.refl _ _) rfl
      · refine stepE_val [14] (by kernel_rfl) (by decide) (by decide) rfl fun us w' hB hG hV => ?_
        have e14 : us 14 = .slice (some ⟨gb, ob + p4, none⟩) 4 d2 := hV 14 (by simp)
        have v14 := (frame_at2 (us := us) hl (show (wsT[51]?).join = some 14 from rfl)).trans e14
        generalize frame wsT a0 us = fr at *
        exact call_C (f := 50) (args := #[.slice (some ⟨gb, ob + p4, none⟩) 4 d2]) (by go_simp) ((G2.out w' hG).mono fun e w'' h => ⟨_, h.1, h.2, rfl⟩)
      · refine stepE_val [15] (by kernel_rfl) (by decide) (by decide) rfl fun us w' hB hG hV => ?_
        have e15 : us 15 = .int .u64 y := hV 15 (by simp)
        have v15 := (frame_at2 (us := us) hl (show (wsT[52]?).join = some 15 from rfl)).trans e15
        have hw := WY.out
        generalize frame wsT a0 us = fr at *
        exact val_C (v := .int .u32 y) (w' := w') (by go_simp) (Below.refl _ _) rfl
      · refine stepE_val [8, 16] (by kernel_rfl) (by decide) (by decide) rfl fun us w' hB hG hV => ?_
        have e8 : us 8 = .int .u32 x := hV 8 (by simp)
        have v8 := (frame_at2 (us := us) hl (show (wsT[45]?).join = some 8 from rfl)).trans e8
        have e16 : us 16 = .int .u32 y := hV 16 (by simp)
        have v16 := (frame_at2 (us := us) hl (show (wsT[53]?).join = some 16 from rfl)).trans e16
        generalize frame wsT a0 us = fr at *
        exact val_C (v := .agg #[.int .u32 x, .int .u32 y]) (w' := w') (built2_run (T := 101) rfl (eval_tmp v8) (eval_tmp v16) (pair_built x y)) (Below.refl _ _) rfl
      · refine stepE_chain 0 rfl (by decide) [17] (by kernel_rfl) (by decide) rfl fun us w' hB hG hV hR => ?_
        have e17 : us 17 = .agg #[.int .u32 x, .int .u32 y] := hV 17 (by simp)
        have v17 := (frame_at2 (us := us) hl (show (wsT[54]?).join = some 17 from rfl)).trans e17
        generalize frame wsT a0 us = fr at *
        exact val_J (R := fun v w'' => (Below w.heap.size w' w'' ∧ Below w.heap.size w' w'') ∧ wsR w A1 i c1 x y o1 ps 1 (upd us 18 v) w'') (v := .slice (some ⟨w'.heap.size, 0, none⟩) 1 1) (w' := w'.alloc (.cells #[.int .u32 x, .int .u32 y] 101)) (by go_simp) ⟨⟨(alloc_below w' _).mono hB, (alloc_below w' _).mono hB⟩, ⟨w'.heap.size, upd_same _ _ _, heap_alloc_new w' _⟩, hR.1.belw (alloc_below w' _), hR.2.below (alloc_below w' _)⟩
      · refine stepE_chain 1 rfl (by decide) [1] (by kernel_rfl) (by decide) rfl fun us w' hB hG hV hR => ?_
        have e1 : us 1 = .slice A1 i c1 := hV 1 (by simp)
        have v1 := (frame_at2 (us := us) hl (show (wsT[38]?).join = some 1 from rfl)).trans e1
        obtain ⟨⟨z, e18, hz⟩, a2, a3⟩ := (show (∃ z, us 18 = .slice (some ⟨z, 0, none⟩) 1 1 ∧ w'.heap[z]? = some (.cells #[.int .u32 x, .int .u32 y] 101 (0, 0))) ∧ Two w w' o1 A1 i c1 ∧ OwnP w' (w.heap.size + 2) (.slice A1 i c1) ps from hR)
        have v18 := (frame_at2 (us := us) hl (show (wsT[55]?).join = some 18 from rfl)).trans e18
        have hbk := a3.blk
        have hlt := a2.res.lt
        generalize frame wsT a0 us = fr at *
        exact appP_J (R := fun v w'' => (Below w.heap.size w' w'' ∧ Below w.heap.size w' w'') ∧ wsR w A1 i c1 x y o1 ps 2 (upd us 19 v) w'') (.tmp 38) (.tmp 55) rfl (w.heap.size + 2) _ ps (eval_tmp v1) a3 w'.heap.size _ 1 1 [(x, y)] (eval_tmp v18) (pair_prs hz) (by rw [LP.out]; have := LI.out; omega) (by omega) (i + 1) (by rw [LP.out]) fun A' c' w'' O' G' => ⟨⟨(Below.refl _ w').grown G' hB (fun k hk => by have := (hbk k hk).1; omega), (Below.refl _ w').grown G' hB (fun k hk => by have := (hbk k hk).1; omega)⟩, A', c', upd_same _ _ _, a2.gr G' (fun k hk => (hbk k hk).1), O'⟩
      · refine stepE_val [] (by kernel_rfl) (by decide) (by decide) rfl fun us w' hB hG hV => ?_
        have o3 := (frame_old2 (us := us) (a := a0) (show (wsT[3]?).join = none from rfl)).trans k3
        generalize frame wsT a0 us = fr at *
        exact val_C (v := .pointer (some ⟨(w.heap.size), 5, none⟩)) (w' := w') (by go_simp) (Below.refl _ _) rfl
      · refine stepE_chain 2 rfl (by decide) [20] (by kernel_rfl) (by decide) rfl fun us w' hB hG hV hR => ?_
        have e20 : us 20 = .pointer (some ⟨(w.heap.size), 5, none⟩) := hV 20 (by simp)
        have v20 := (frame_at2 (us := us) hl (show (wsT[57]?).join = some 20 from rfl)).trans e20
        obtain ⟨A2, c2, e19, a2, a3⟩ := (show ∃ A2 c2, us 19 = .slice A2 (i + 1) c2 ∧ Two w w' o1 A1 i c1 ∧ OwnP w' (w.heap.size + 2) (.slice A2 (i + 1) c2) (ps ++ [(x, y)]) from hR)
        have v19 := (frame_at2 (us := us) hl (show (wsT[56]?).join = some 19 from rfl)).trans e19
        have hc := pkC.PkC.cell a2.row.row (optC a2.mac A1 i c1).sk
        have hf := a2.row.frozen 5
        generalize frame wsT a0 us = fr at *
        exact free_skip (w' := w'.setCell ⟨w.heap.size, 5, none⟩ (.slice A2 (i + 1) c2)) (by go_simp) ⟨undef, rfl, ⟨(Below.refl w.heap.size w').setCell (p := ⟨w.heap.size, 5, none⟩) (Nat.le_refl _) _, (Below.refl w.heap.size w').setCell (p := ⟨w.heap.size, 5, none⟩) (Nat.le_refl _) _⟩, A2, c2, a2.set_ 5 _ (optV_sk _) a2.mac, a3.keep fun k h1 h2 => Below.heap_setCell _ _ _ _ (by show k ≠ w.heap.size; omega)⟩
      · intro us w6 hB2 hG hV hR
        obtain ⟨A6, c6, r2, r3⟩ := (show ∃ A2 c2, Two w w6 { o1 with sk := ps ++ [(x, y)] } A2 (i + 1) c2 ∧ OwnP w6 (w.heap.size + 2) (.slice A2 (i + 1) c2) (ps ++ [(x, y)]) from hR)
        have H2 := Lib.hid r2
        have H3 := Lib.hid r3
        subst ha0
        simp only [frame, wsT, fill]
        clear hV hG hl k2 k3 k7 r2 r3 hR
        go_wp2_with fail
        go_roundw
        case rel =>
          refine ⟨i + 1, A6, c6, ?_, by have := LI.out; omega, ?_, ?_⟩
          · rw [W9.out]
          · have h := H2.out
            rw [← EP.out, EO.out] at h
            exact h
          · rw [EP.out]; exact H3.out
        case measure => rw [W9.out]; simp only [intOf]; have := PE.out; omega
    · obtain rfl : i = m := by omega
      have q1 : ¬ (p : Int) + 8 ≤ (n : Int) := by omega
      have q2 : decide ((p : Int) + 8 ≤ (n : Int)) = false := decide_eq_false q1
      have T1 := ST
      have SZ := Lib.hid ((optC zOpt_ok.lm none 0 0).size.trans (optC (o := { o with sk := pairsN i b }) ST.out.mac A1 i c1).size.symm)
      have IQ := Lib.hid (optC (o := { o with sk := pairsN i b }) ST.out.mac A1 i c1).info
      have OO := Lib.hid (opt_one { o with sk := pairsN i b } A1 i c1)
      rw [hp']
      clear hlt hn hm hi hp hp'
      go_upto_region 21 with fail
      have RW := Lib.hid T1.out.row
      have ZW := Lib.hid T1.out.res
      have BW := Lib.hid T1.out.bel
      clear T1
      unfold OptAt at RW ZW
      generalize hC1 : optV { o with sk := pairsN i b } A1 i c1 = C1 at *
      go_wp2_with (first
        | (refine wpList_load_rowG (by kernel_rfl) 31 (.tmp 3) rfl w.heap.size (by kernel_rfl) _ _ _ _ RW.out Tryd.underlying31 rfl IQ.out ?_)
        | (refine wpList_store_row rfl 31 (.tmp 6) (.tmp 94) rfl (w.heap.size + 1) C1 rfl rfl _ _ ZW.out IQ.out SZ.out OO.out ?_))
      refine bodyPost_ret (v := .agg C1) (Go.results_cell_row Tryd.results84 _ _ (w.heap.size + 1) _ _ _ _ (by rfl) (setRow_heap _ _ _ _ _ _ ZW.out) Tryd.underlying31 rfl IQ.out) rfl ?_
      exact ⟨A1, c1, hC1 ▸ rfl, (SO.out.keep fun k g1 g2 => setRow_other _ _ _ _ (by omega)).less (by omega), setR_belowQ BW.out (by omega) _⟩
end Go.Proofs.YtniimgbljhmcoaaDoor.opC

/-
  Options with one more, of any kind: the document's; what is told of those that were met.
-/
namespace Go.Proofs.YtniimgbljhmcoaaDoor.opC
open Go.ChangeShapes Go.WideShapes Go.ChangeAt Go.RowKit
open Go.Proofs.YtniimgbljhmcoaaDoor.memC Go.Proofs.YtniimgbljhmcoaaDoor.genC Go.Proofs.YtniimgbljhmcoaaDoor.butC Go.Proofs.YtniimgbljhmcoaaDoor.freeC Go.Proofs.YtniimgbljhmcoaaDoor.adC
open Go.Proofs.YtniimgbljhmcoaaDoor.octC (getZ)
set_option linter.unusedVariables false
/-- options whose pairs are the call's own -/
structure Sk (w : World) (base : Nat) (o : Opt) (A : Option Addr) (n c : Nat) : Prop where
  mac : o.mac.length = 12
  len : o.sk.length = n
  own : OwnP w base (.slice A n c) o.sk
  nil : o.sk = [] → A = none ∧ n = 0 ∧ c = 0
theorem Sk.bel {w w' : World} {base : Nat} {o : Opt} {A : Option Addr} {n c : Nat} (h : Sk w base o A n c) (hb : Below w.heap.size w w') : Sk w' base o A n c := ⟨h.mac, h.len, h.own.below hb, h.nil⟩
theorem Sk.turn {w : World} {base : Nat} {o o' : Opt} {A : Option Addr} {n c : Nat} (h : Sk w base o A n c) (hs : o'.sk = o.sk) (hm : o'.mac.length = 12) : Sk w base o' A n c := ⟨hm, by rw [hs]; exact h.len, by rw [hs]; exact h.own, by rw [hs]; exact h.nil⟩
def WiR (w : World) (base : Nat) (o' : Opt) (e : Ending) (w' : World) : Prop := ∃ A n c, e = .returned (.agg (optV o' A n c)) ∧ Sk w' base o' A n c ∧ Below w.heap.size w w'
theorem takeE_zero {o : Opt} {k : Int} {b : List Int} (h : takeE o k b = 0) : wantN k b.length = 0 ∨ (wantN k b.length ≠ 0 ∧ wantN k b.length = 2 + b.length ∧ hasB o k = false) := by
  unfold takeE at h
  by_cases h0 : wantN k b.length = 0
  · exact .inl h0
  · rw [if_neg h0] at h
    by_cases h1 : wantN k b.length ≠ 2 + b.length
    · rw [if_pos h1] at h; simp at h
    · rw [if_neg h1] at h
      by_cases h2 : hasB o k = true
      · rw [if_pos h2] at h; simp at h
      · exact .inr ⟨h0, Classical.byContradiction h1, by simpa using h2⟩
theorem takeO_known {o : Opt} {k : Int} {b : List Int} (h : wantN k b.length ≠ 0) : takeO o k b = addO o k b := by unfold takeO; rw [if_neg h]
theorem ret_wi {w : World} {base : Nat} {o o' : Opt} {A : Option Addr} {n c : Nat} (hs : Sk w base o A n c) (h1 : o'.sk = o.sk) (h2 : o'.mac.length = 12) {e : Ending} {w' : World} (h : Ret w (.agg (optV o' A n c)) e w') : WiR w base o' e w' :=
  ⟨A, n, c, h.1, (hs.bel h.2).turn h1 h2, h.2⟩
theorem some_at {w : World} {B : Nat} {A : Option Addr} {n : Nat} {xs : List Int} (h : Nums .u8 w B A n xs) (hn : 0 < n) : ∃ gb ob, A = some ⟨gb, ob, none⟩ := by
  obtain ⟨b, o, e, _⟩ := h.at_ hn
  exact ⟨b, o, e⟩
theorem with_any (o : Opt) (A : Option Addr) (n c : Nat) (k : Int) (B : Option Addr) (m d : Nat) (b : List Int) (base : Nat) (w : World) (hs : Sk w base o A n c) (hbs : base ≤ w.heap.size) (hb : Nums .u8 w w.heap.size B m b) (hy : ∀ x ∈ b, Byte x) (hd : m ≤ d) (hdm : d ≤ 9223372036854775807) (hm : m ≤ 38) (ht : takeE o k b = 0) :
    Calls Tryd.prog 84 #[.agg (optV o A n c), .int .u8 k, .slice B m d] w (WiR w base (takeO o k b)) := by
  have hl := hb.len
  have hz := takeE_zero ht
  by_cases h2 : k = 2
  · subst h2
    have hw : wantN 2 b.length = 4 := rfl
    rw [takeO_known (by rw [hw]; decide)]
    rcases hz with h | h
    · rw [hw] at h; cases h
    · obtain rfl : m = 2 := by omega
      exact (with2 o A n c B d b w hs.mac hb hy hd hdm).mono fun e w' h => ret_wi (o' := addO o 2 b) hs rfl hs.mac h
  by_cases h3 : k = 3
  · subst h3
    have hw : wantN 3 b.length = 3 := rfl
    rw [takeO_known (by rw [hw]; decide)]
    rcases hz with h | h
    · rw [hw] at h; cases h
    · obtain rfl : m = 1 := by omega
      obtain ⟨gb, ob, rfl⟩ := some_at hb (by decide)
      exact (with3 o A n c gb ob d b w hs.mac hb hy hd hdm).mono fun e w' h => ret_wi (o' := addO o 3 b) hs rfl hs.mac h
  by_cases h4 : k = 4
  · subst h4
    have hw : wantN 4 b.length = 2 := rfl
    rw [takeO_known (by rw [hw]; decide)]
    exact (with4 o A n c B m d b w hs.mac).mono fun e w' h => ret_wi (o' := addO o 4 b) hs rfl hs.mac h
  by_cases h8 : k = 8
  · subst h8
    have hw : wantN 8 b.length = 10 := rfl
    rw [takeO_known (by rw [hw]; decide)]
    rcases hz with h | h
    · rw [hw] at h; cases h
    · obtain rfl : m = 8 := by omega
      obtain ⟨gb, ob, rfl⟩ := some_at hb (by decide)
      exact (with8 o A n c gb ob d b w hs.mac hb hy hd hdm).mono fun e w' h => ret_wi (o' := addO o 8 b) hs rfl hs.mac h
  by_cases h5 : k = 5
  · subst h5
    have hw : wantN 5 b.length = 2 + 8 * max (b.length / 8) 1 := rfl
    rw [takeO_known (by rw [hw]; omega)]
    rcases hz with h | ⟨_, h, hh⟩
    · rw [hw] at h; omega
    · obtain ⟨j, hj⟩ : ∃ j, j = b.length / 8 := ⟨_, rfl⟩
      have hj1 : m = 8 * j ∧ 0 < j ∧ j ≤ 4 := by omega
      have hsk : o.sk = [] := by
        have h9 : decide (0 < o.sk.length) = false := hh
        exact List.eq_nil_of_length_eq_zero (by have := of_decide_eq_false h9; omega)
      obtain ⟨rfl, rfl, rfl⟩ := hs.nil hsk
      obtain ⟨gb, ob, rfl⟩ := some_at hb (by omega)
      have ea : addO o 5 b = { o with sk := pairsN j b } := by
        show ({ o with sk := o.sk ++ pairsN (b.length / 8) b } : Opt) = _
        rw [hsk, List.nil_append, ← hj]
      rw [ea]
      refine (with5 o gb ob m d j b w hs.mac hsk hb hj1.1 hj1.2.1 hj1.2.2 hy hd hdm).mono fun e w' ⟨A', c', q1, q2, q3⟩ => ⟨A', j, c', q1, ⟨hs.mac, pairs_len j b, q2.less hbs, fun q => ?_⟩, q3⟩
      have q4 := pairs_len j b
      rw [show pairsN j b = [] from q] at q4
      simp at q4
      omega
  by_cases h29 : k = 29
  · subst h29
    have hw : wantN 29 b.length = 16 := rfl
    rw [takeO_known (by rw [hw]; decide)]
    rcases hz with h | h
    · rw [hw] at h; cases h
    · obtain rfl : m = 14 := by omega
      obtain ⟨gb, ob, rfl⟩ := some_at hb (by decide)
      exact (with29 o A n c gb ob d b w hs.mac hb hy hd hdm).mono fun e w' h => ret_wi (o' := addO o 29 b) hs rfl (by show (b.drop 2).length = 12; rw [List.length_drop]; omega) h
  · have hw : wantN k b.length = 0 := by unfold wantN sizeK; rw [if_neg h2, if_neg h3, if_neg h4, if_neg h8, if_neg h5, if_neg h29]
    have e : takeO o k b = o := by unfold takeO; rw [if_pos hw]
    rw [e]
    exact (with0 o A n c k B m d w hs.mac h2 h3 h4 h5 h8 h29).mono fun e w' h => ret_wi hs rfl hs.mac h
/-- is a kind known? -/
def knownB (k : Int) : Bool := decide (k = 2) || (decide (k = 3) || (decide (k = 4) || (decide (k = 5) || (decide (k = 8) || decide (k = 29)))))
theorem known_want {k : Int} (n : Nat) : wantN k n = 0 ↔ knownB k = false := by
  unfold wantN sizeK knownB
  simp only [Bool.or_eq_false_iff, decide_eq_false_iff_not]
  by_cases h2 : k = 2
  · simp [h2]
  by_cases h3 : k = 3
  · simp [h3]
  by_cases h4 : k = 4
  · simp [h4]
  by_cases h8 : k = 8
  · simp [h8]
  by_cases h5 : k = 5
  · simp [h5]
  by_cases h29 : k = 29
  · simp [h29]
  · simp [h2, h3, h4, h5, h8, h29]
/-- what was met: an option of a known kind is there just if it was met -/
def Met (ms : List Bool) (o : Opt) : Prop := ms.length = 256 ∧ ∀ k : Nat, knownB k = true → ms.getD k false = hasB o k
theorem rep_getD (n k : Nat) : (List.replicate n false).getD k false = false := by
  rw [List.getD_eq_getElem?_getD]
  by_cases h : k < n
  · rw [List.getElem?_replicate_of_lt h]; rfl
  · rw [List.getElem?_eq_none (by rw [List.length_replicate]; omega)]; rfl
theorem has_zOpt (k : Int) : hasB zOpt k = false := by
  unfold hasB
  (repeat' split) <;> rfl
theorem Met.zero : Met (List.replicate 256 false) zOpt := ⟨List.length_replicate, fun k hk => by rw [has_zOpt, rep_getD]⟩
theorem has_take {o : Opt} {k : Int} {b : List Int} (h : takeE o k b = 0) (j : Int) (hj : knownB j = true) : hasB (takeO o k b) j = (decide (j = k) || hasB o j) := by
  rcases takeE_zero h with h0 | ⟨h0, h1, h2⟩
  · have hk := (known_want b.length).1 h0
    have e : takeO o k b = o := by unfold takeO; rw [if_pos h0]
    have hne : j ≠ k := fun e => by rw [e, hk] at hj; cases hj
    rw [e]; simp [hne]
  · rw [takeO_known h0]
    have hj2 : j = 2 ∨ j = 3 ∨ j = 4 ∨ j = 5 ∨ j = 8 ∨ j = 29 := by simpa [knownB] using hj
    have hk2 : k = 2 ∨ k = 3 ∨ k = 4 ∨ k = 5 ∨ k = 8 ∨ k = 29 := by
      have : knownB k ≠ false := fun e => h0 ((known_want b.length).2 e)
      have t2 : knownB k = true := by cases h9 : knownB k; exact absurd h9 this; rfl
      simpa [knownB] using t2
    rcases hk2 with rfl | rfl | rfl | rfl | rfl | rfl
    · rcases hj2 with rfl | rfl | rfl | rfl | rfl | rfl <;> rfl
    · rcases hj2 with rfl | rfl | rfl | rfl | rfl | rfl <;> rfl
    · rcases hj2 with rfl | rfl | rfl | rfl | rfl | rfl <;> rfl
    · have hp : 0 < (o.sk ++ pairsN (b.length / 8) b).length := by
        rw [List.length_append, pairs_len]
        have hw : wantN 5 b.length = 2 + 8 * max (b.length / 8) 1 := rfl
        omega
      rcases hj2 with rfl | rfl | rfl | rfl | rfl | rfl
      · rfl
      · rfl
      · rfl
      · show decide (0 < (o.sk ++ pairsN (b.length / 8) b).length) = _
        rw [decide_eq_true hp]; rfl
      · rfl
      · rfl
    · rcases hj2 with rfl | rfl | rfl | rfl | rfl | rfl <;> rfl
    · rcases hj2 with rfl | rfl | rfl | rfl | rfl | rfl <;> rfl
theorem Met.take {ms : List Bool} {o : Opt} {k : Nat} {b : List Int} (h : Met ms o) (hk : k < 256) (ht : takeE o k b = 0) : Met (ms.set k true) (takeO o k b) := by
  refine ⟨by rw [List.length_set]; exact h.1, fun j hj => ?_⟩
  rw [has_take ht j hj]
  by_cases e : j = k
  · subst e
    have : j < ms.length := by rw [h.1]; exact hk
    simp [List.getD_eq_getElem?_getD, this]
  · have e2 : ¬ k = j := fun q => e q.symm
    have e3 : ¬ (j : Int) = (k : Int) := by omega
    rw [List.getD_eq_getElem?_getD, List.getElem?_set_ne e2, ← List.getD_eq_getElem?_getD, h.2 j hj]
    simp [e3]
theorem take_right {o : Opt} {k : Int} {b : List Int} : takeE o k b = if rightB k b.length = false then 3 else if knownB k = true ∧ hasB o k = true then 7 else 0 := by
  unfold takeE rightB
  by_cases h0 : wantN k b.length = 0
  · have hk := (known_want b.length).1 h0
    rw [if_pos h0]; simp [h0, hk]
  · have hk : knownB k = true := by
      cases h9 : knownB k
      · exact absurd ((known_want b.length).2 h9) h0
      · rfl
    rw [if_neg h0]
    by_cases h1 : wantN k b.length = 2 + b.length
    · rw [if_neg (by simpa using h1)]; simp [h1, hk]
    · rw [if_pos h1]; simp [h0, h1]
end Go.Proofs.YtniimgbljhmcoaaDoor.opC

/-
  The options of bytes: the document's Parse.
-/
namespace Go.Proofs.YtniimgbljhmcoaaDoor.opC
open Go.ChangeShapes Go.WideShapes Go.ChangeAt Go.RowKit
open Go.Proofs.YtniimgbljhmcoaaDoor.memC Go.Proofs.YtniimgbljhmcoaaDoor.genC Go.Proofs.YtniimgbljhmcoaaDoor.butC Go.Proofs.YtniimgbljhmcoaaDoor.freeC Go.Proofs.YtniimgbljhmcoaaDoor.adC
open Go.Proofs.YtniimgbljhmcoaaDoor.octC (getZ)
set_option linter.unusedVariables false
theorem cut_twoU (A : Option Addr) (n c f e : Nat) (h1 : f ≤ e) (h2 : e ≤ c) (w : World) :
    (Instr.slice 32 (.slice A n c) (some (.int .i64 (f : Int))) (some (.int .u8 (e : Int))) none).run Tryd.prog w = .ok (.slice (if c = f then A else A.map (·.add f)) (e - f) (c - f)) w := by
  have k1 : (f : Int) ≤ (e : Int) := by omega
  have k2 : (e : Int) ≤ (c : Int) := by omega
  by_cases h : c = f
  · subst h
    rw [if_pos rfl]
    go_simp
  · rw [if_neg h]
    go_simp
theorem cut_tailU (A : Option Addr) (n c f : Nat) (h1 : f ≤ n) (h2 : n ≤ c) (w : World) :
    (Instr.slice 32 (.slice A n c) (some (.int .u8 (f : Int))) none none).run Tryd.prog w = .ok (.slice (if c = f then A else A.map (·.add f)) (n - f) (c - f)) w := by
  have k1 : (f : Int) ≤ (n : Int) := by omega
  by_cases h : c = f
  · subst h
    rw [if_pos rfl]
    go_simp
  · rw [if_neg h]
    go_simp
def metV (ms : List Bool) : Array Value := (ms.map Value.bool).toArray
theorem met_info : (Tryd.prog.info? 116).map (·.zero) = some (some (.agg (metV (List.replicate 256 false)))) := by kernel_rfl
theorem zeroMet (w : World) : (zeroValue 116).run Tryd.prog w = .ok (.agg (metV (List.replicate 256 false))) w := by
  obtain ⟨i, hi, hz⟩ := Option.map_eq_some_iff.1 met_info
  generalize metV (List.replicate 256 false) = M at *
  simp [zeroValue, typeInfo, hi, hz]
theorem metV_at {ms : List Bool} (h : ms.length = 256) {k : Nat} (hk : k < 256) : (metV ms)[k]? = some (.bool (ms.getD k false)) := by
  have h2 : k < ms.length := by omega
  simp [metV, List.getD_eq_getElem?_getD, h2]
theorem metV_set (ms : List Bool) (k : Nat) (b : Bool) : (metV ms).setIfInBounds k (.bool b) = metV (ms.set k b) := by
  unfold metV
  rw [List.setIfInBounds_toArray, List.map_set]
/-- what stands while it is read: the rest of the bytes, the options, what was met -/
structure Lp (w wr : World) (bs : List Int) (A : Option Addr) (n c : Nat) (cs : List Int) (o : Opt) (A' : Option Addr) (n' c' : Nat) (ms : List Bool) : Prop where
  nums : Nums .u8 wr w.heap.size A n cs
  nc : n ≤ c
  cm : c ≤ 9223372036854775807
  byte : ∀ x ∈ cs, Byte x
  n40 : n ≤ 40
  row : OptAt wr (w.heap.size + 1) o A' n' c'
  res : OptAt wr w.heap.size zOpt none 0 0
  met : wr.heap[w.heap.size + 2]? = some (.cells (metV ms) 116 (0, 0))
  mm : Met ms o
  sk : Sk wr (w.heap.size + 3) o A' n' c'
  eq : psA bs zOpt = psA cs o
  bel : Below w.heap.size w wr
theorem Sk.only {w w' : World} {base g : Nat} {o : Opt} {A : Option Addr} {n c : Nat} (h : Sk w base o A n c) (hd : ∀ k, k ≠ g → w'.heap[k]? = w.heap[k]?) (hg : g < base) : Sk w' base o A n c := ⟨h.mac, h.len, h.own.keep fun k h1 _ => hd k (by omega), h.nil⟩
theorem psE_is {bs : List Int} (h : bs.length ≤ 40) : psE bs = (if (psA bs zOpt).1 = 4 then 3 else (psA bs zOpt).1) ∧ psO bs = (if (psA bs zOpt).1 = 4 then zOpt else (psA bs zOpt).2) := by
  have h9 : ¬ 40 < bs.length := by omega
  unfold psE psO
  simp only [if_neg h9]
  exact ⟨trivial, trivial⟩
theorem below_setRow0 {w w1 : World} (h : Below w.heap.size w w1) (cs : Array Value) : Below w.heap.size w (w1.setRow w.heap.size cs) :=
  ⟨h.os, h.tape, h.output, by simpa using h.size, fun k hk => by rw [setRow_other _ _ _ _ (by omega)]; exact h.block k hk⟩
theorem Lp.n0 {w wr : World} {bs : List Int} {A : Option Addr} {n c : Nat} {cs : List Int} {o : Opt} {A' : Option Addr} {n' c' : Nat} {ms : List Bool} (L : Lp w wr bs A n c cs o A' n' c' ms) : Nums .u8 w w.heap.size A n cs := L.nums.keep fun p hp => (L.bel.cell hp).symm
theorem Lp.fill {w wr : World} {bs : List Int} {A : Option Addr} {n c : Nat} {cs t : List Int} {o : Opt} {A' : Option Addr} {n' c' : Nat} {ms : List Bool} (L : Lp w wr bs A n c cs o A' n' c' ms) (hcs : cs = 1 :: t) : Lp w wr bs (if c = 1 then A else A.map (·.add 1)) (n - 1) (c - 1) t o A' n' c' ms := by
  have hl := L.nums.len
  rw [hcs, List.length_cons] at hl
  have h1 := L.nc; have h2 := L.cm; have h3 := L.n40
  refine { L with nums := ?_, nc := by omega, cm := by omega, byte := fun x hx => L.byte x (by rw [hcs]; exact List.mem_cons_of_mem _ hx), n40 := by omega, eq := by rw [L.eq, hcs, psA_fill] }
  have h9 := partN L.nums (show 1 ≤ n by omega) h1
  rw [hcs] at h9
  exact h9
theorem psA_take {k nn m : Nat} {t : List Int} {o : Opt} (h0 : k ≠ 0) (h1 : k ≠ 1) (hnn : nn = m + 2) (hm : m ≤ t.length) : psA ((k : Int) :: (nn : Int) :: t) o = if takeE o k (t.take m) = 0 then psA (t.drop m) (takeO o k (t.take m)) else (takeE o k (t.take m), zOpt) := by
  rw [psA_more (by omega) (by omega), if_neg (by omega), show (nn : Int).toNat - 2 = m by omega, if_neg (by omega)]
theorem Lp.step {w wr w6 : World} {bs : List Int} {A : Option Addr} {n c : Nat} {cs t : List Int} {o : Opt} {A' A6 : Option Addr} {n' c' n6 c6 : Nat} {ms : List Bool} (L : Lp w wr bs A n c cs o A' n' c' ms) (k nn m : Nat) (hnn : nn = m + 2) (hle : nn ≤ n) (hcs : cs = (k : Int) :: (nn : Int) :: t) (h0 : k ≠ 0) (h1 : k ≠ 1) (hk : k < 256)
    (ht : takeE o k (t.take m) = 0) (r1 : OptAt w6 (w.heap.size + 1) (takeO o k (t.take m)) A6 n6 c6) (r2 : Sk w6 (w.heap.size + 3) (takeO o k (t.take m)) A6 n6 c6) (r3 : OptAt w6 w.heap.size zOpt none 0 0) (r4 : w6.heap[w.heap.size + 2]? = some (.cells (metV (ms.set k true)) 116 (0, 0))) (hb : Below w.heap.size w w6) :
    Lp w w6 bs (if c = nn then A else A.map (·.add nn)) (n - nn) (c - nn) (t.drop m) (takeO o k (t.take m)) A6 n6 c6 (ms.set k true) := by
  have hl := L.nums.len
  rw [hcs, List.length_cons, List.length_cons] at hl
  have g1 := L.nc; have g2 := L.cm; have g3 := L.n40
  refine ⟨?_, by omega, by omega, fun x hx => L.byte x (by rw [hcs]; exact List.mem_cons_of_mem _ (List.mem_cons_of_mem _ (List.mem_of_mem_drop hx))), by omega, r1, r3, r4, L.mm.take hk ht, r2, ?_, hb⟩
  · have h9 := partN (L.n0.below hb) hle g1
    rw [hcs, hnn, show ((k : Int) :: ((m + 2 : Nat) : Int) :: t).drop (m + 2) = t.drop m from rfl, ← hnn] at h9
    exact h9
  · rw [L.eq, hcs, psA_take h0 h1 hnn (by omega), if_pos ht]
theorem psp_end {w wr : World} {bs : List Int} {A : Option Addr} {n c : Nat} {cs : List Int} {o : Opt} {A' : Option Addr} {n' c' : Nat} {ms : List Bool} (hl : bs.length ≤ 40) (L : Lp w wr bs A n c cs o A' n' c' ms) (h : psA cs o = (0, o)) :
    PsP w bs (.returned (.tuple #[.agg (optV o A' n' c'), .int .i64 0])) (wr.setRow w.heap.size (optV o A' n' c')) := by
  obtain ⟨q1, q2⟩ := psE_is hl
  have q3 : ¬ ((0, o) : Int × Opt).1 = 4 := by show ¬ (0 : Int) = 4; decide
  rw [L.eq, h, if_neg q3] at q1 q2
  have hd : ∀ k, k ≠ w.heap.size → (wr.setRow w.heap.size (optV o A' n' c')).heap[k]? = wr.heap[k]? := fun k hk => setRow_other _ _ _ _ hk
  exact ⟨A', n', c', by rw [q1, q2], by rw [q2]; exact L.sk.len, by rw [q2]; exact (L.sk.only hd (by omega)).own.less (by omega), below_setRow0 L.bel _⟩
theorem psp_err {w wr : World} {bs : List Int} (hl : bs.length ≤ 40) (hb : Below w.heap.size w wr) (er : Int) (h0 : er ≠ 0) (h : (psA bs zOpt = (er, zOpt) ∧ er ≠ 4) ∨ (er = 3 ∧ psA bs zOpt = (4, zOpt))) (Z : Array Value) (hZ : Z = optV zOpt none 0 0) :
    PsP w bs (.returned (.tuple #[.agg Z, .int .i64 er])) (wr.setRow w.heap.size Z) := by
  obtain ⟨q1, q2⟩ := psE_is hl
  have e1 : psE bs = er ∧ psO bs = zOpt := by
    rcases h with ⟨h, h4⟩ | ⟨h, h4⟩
    · rw [h] at q1 q2
      rw [if_neg h4] at q1 q2
      exact ⟨q1, q2⟩
    · rw [h4] at q1 q2
      exact ⟨q1.trans (by rw [h]; rfl), q2⟩
  exact ⟨none, 0, 0, by rw [e1.1, e1.2, hZ], by rw [e1.2]; rfl, by rw [e1.2]; exact OwnP.nil _ _, below_setRow0 hb _⟩
/-- what stands in the last region of a round -/
def lrR (w : World) (o : Opt) (A' : Option Addr) (n' c' : Nat) (ms : List Bool) (o2 : Opt) : Nat → (Nat → Value) → World → Prop
  | 0, _, w' => (OptAt w' (w.heap.size + 1) o A' n' c' ∧ Sk w' (w.heap.size + 3) o A' n' c') ∧ OptAt w' w.heap.size zOpt none 0 0 ∧ w'.heap[w.heap.size + 2]? = some (.cells (metV ms) 116 (0, 0)) ∧ w.heap.size + 3 ≤ w'.heap.size
  | 1, _, w' => (∃ A2 n2 c2, OptAt w' (w.heap.size + 1) o2 A2 n2 c2 ∧ Sk w' (w.heap.size + 3) o2 A2 n2 c2) ∧ OptAt w' w.heap.size zOpt none 0 0 ∧ w'.heap[w.heap.size + 2]? = some (.cells (metV ms) 116 (0, 0)) ∧ w.heap.size + 3 ≤ w'.heap.size
  | _, _, _ => True
theorem lrR.keep (w : World) (o : Opt) (A' : Option Addr) (n' c' : Nat) (ms : List Bool) (o2 : Opt) (k : Nat) (us us' : Nat → Value) (w1 w2 : World) (hb : Below w1.heap.size w1 w2) (hR : lrR w o A' n' c' ms o2 k us w1) : lrR w o A' n' c' ms o2 k us' w2 := by
  unfold lrR at hR ⊢
  split at hR
  · obtain ⟨⟨h1, h2⟩, h3, h4, h5⟩ := hR
    exact ⟨⟨h1.bel hb, h2.bel hb⟩, h3.bel hb, by rw [hb.block _ (lt_of_row h4)]; exact h4, Nat.le_trans h5 hb.size⟩
  · obtain ⟨⟨A2, n2, c2, h1, h2⟩, h3, h4, h5⟩ := hR
    exact ⟨⟨A2, n2, c2, h1.bel hb, h2.bel hb⟩, h3.bel hb, by rw [hb.block _ (lt_of_row h4)]; exact h4, Nat.le_trans h5 hb.size⟩
  · trivial
theorem Lp.mark {w wr : World} {bs : List Int} {A : Option Addr} {n c : Nat} {cs : List Int} {o : Opt} {A' : Option Addr} {n' c' : Nat} {ms : List Bool} (L : Lp w wr bs A n c cs o A' n' c' ms) (hsz : w.heap.size + 3 ≤ wr.heap.size) (k : Nat) (o2 : Opt) (us : Nat → Value) :
    lrR w o A' n' c' (ms.set k true) o2 0 us (wr.setCell ⟨w.heap.size + 2, k, none⟩ (.bool true)) ∧ Below w.heap.size w (wr.setCell ⟨w.heap.size + 2, k, none⟩ (.bool true)) := by
  have hd : ∀ j, j ≠ w.heap.size + 2 → (wr.setCell ⟨w.heap.size + 2, k, none⟩ (.bool true)).heap[j]? = wr.heap[j]? := fun j hj => Below.heap_setCell _ _ _ _ hj
  refine ⟨⟨⟨(hd _ (by omega)).trans L.row, L.sk.only hd (by omega)⟩, (hd _ (by omega)).trans L.res, ?_, by simpa [World.setCell] using hsz⟩, L.bel.setCell (p := ⟨w.heap.size + 2, k, none⟩) (by show w.heap.size ≤ w.heap.size + 2; omega) _⟩
  rw [heap_setCell_same wr (w.heap.size + 2) k _ _ _ L.met, metV_set]
def lrV (w : World) (gb ob n c nn m d2 : Nat) (kz : Int) (B2 : Option Addr) (CO : Array Value) (o2 : Opt) : Nat → Value → World → Prop
  | 0, v, _ => v = .agg CO
  | 1, v, _ => v = .int .u8 kz
  | 2, v, _ => v = .slice (some ⟨gb, ob, none⟩) n c
  | 3, v, _ => v = .slice (some ⟨gb, ob, none⟩) n c
  | 4, v, _ => v = .pointer (some ⟨gb, ob + 1, none⟩)
  | 5, v, _ => v = .int .u8 (nn : Int)
  | 6, v, _ => v = .slice B2 m d2
  | 7, v, wX => ∃ A2 n2 c2, v = .agg (optV o2 A2 n2 c2) ∧ Sk wX (w.heap.size + 3) o2 A2 n2 c2
  | _, _, _ => True
theorem lrV.keep (w : World) (gb ob n c nn m d2 : Nat) (kz : Int) (B2 : Option Addr) (CO : Array Value) (o2 : Opt) (i : Nat) (v : Value) (w1 w2 : World) (hd : Below w1.heap.size w1 w2 ∨ OnlyAt (w.heap.size + 1) w1 w2) (h : lrV w gb ob n c nn m d2 kz B2 CO o2 i v w1) : lrV w gb ob n c nn m d2 kz B2 CO o2 i v w2 := by
  by_cases e7 : i = 7
  · subst e7
    obtain ⟨A2, n2, c2, h1, h2⟩ := h
    rcases hd with hd | hd
    · exact ⟨A2, n2, c2, h1, h2.bel hd⟩
    · exact ⟨A2, n2, c2, h1, h2.only hd.2 (by omega)⟩
  unfold lrV at h ⊢
  split at h <;> first | exact h | exact absurd rfl (by assumption)
def lrT : List (Option Nat) := [none, none, none, none, none, none, none, none, none, none, none, none, none, none, none, none, none, none, none, none, none, none, none, none, none, none, none, none, none, none, none, none, none, none, none, none, none, none, none, none, none, none, none, none, none, none, none, none, none, none, none, none, none, none, none, none, none, none, none, none, none, none, none, none, none, none, none, none, none, none, none, none, none, none, none, none, none, none, none, none, none, none, none, none, none, none, none, none, some 0, some 1, some 2, some 3, some 4, some 5, some 6, some 7, none, none, none, none, none, none]
set_option maxRecDepth 100000 in
set_option maxHeartbeats 8000000 in
theorem rparse_opt (A0 : Option Addr) (n0 c0 : Nat) (bs : List Int) (w : World) (hb : Nums .u8 w w.heap.size A0 n0 bs) (hy : ∀ x ∈ bs, Byte x) (hn : n0 ≤ 40) (hnc : n0 ≤ c0) (hcm : c0 ≤ 9223372036854775807) :
    Calls Tryd.prog 49 #[.slice A0 n0 c0] w (PsP w bs) := by
  have hzv := zeroOpt
  have hzm := zeroMet
  have HL40 := Lib.hid (show bs.length ≤ 40 by rw [hb.len]; exact hn)
  obtain ⟨Z, hZ⟩ : ∃ Z, Z = optV zOpt none 0 0 := ⟨_, rfl⟩
  have EZ := Lib.hid hZ
  have BZ := Lib.hid (show Tryd.prog.built 31 [] = some Z by rw [hZ]; exact zOpt_built)
  have IZ := Lib.hid (show (Tryd.prog.info? 31).map (·.size) = some Z.size by rw [hZ]; exact (optC zOpt_ok.lm none 0 0).info)
  have OZ := Lib.hid (show Z.all (·.oneCell') = true by rw [hZ]; exact opt_one zOpt none 0 0)
  obtain ⟨MZ, hMZ⟩ : ∃ Z, Z = metV (List.replicate 256 false) := ⟨_, rfl⟩
  rw [← hZ] at hzv
  rw [← hMZ] at hzm
  obtain ⟨W1, hW1⟩ : ∃ W, W = w.alloc (.cells Z 31) := ⟨_, rfl⟩
  have z1 : W1.heap.size = w.heap.size + 1 := by rw [hW1, alloc_size]
  have q40 : ¬ (40 : Int) < (n0 : Int) := by omega
  have d40 : decide ((40 : Int) < (n0 : Int)) = false := decide_eq_false q40
  have L0 := Lib.hid (show ∀ wr, wr = (W1.alloc (.cells Z 31)).alloc (.cells MZ 116) → Lp w wr bs A0 n0 c0 bs zOpt none 0 0 (List.replicate 256 false) ∧ wr.heap.size = w.heap.size + 3 from fun wr h => by
    obtain ⟨W2, hW2⟩ : ∃ W, W = W1.alloc (.cells Z 31) := ⟨_, rfl⟩
    rw [← hW2] at h
    have z2 : W2.heap.size = w.heap.size + 2 := by rw [hW2, alloc_size, z1]
    have z3 : wr.heap.size = w.heap.size + 3 := by rw [h, alloc_size, z2]
    have B1 : Below w.heap.size w W1 := by rw [hW1]; exact alloc_below _ _
    have B2 : Below W1.heap.size W1 W2 := by rw [hW2]; exact alloc_below _ _
    have B3 : Below W2.heap.size W2 wr := by rw [h]; exact alloc_below _ _
    have B := (B1.trans (B2.mono (by omega))).trans (B3.mono (by omega))
    refine ⟨⟨hb.below B, hnc, hcm, hy, hn, ?_, ?_, ?_, Met.zero, ⟨zOpt_ok.lm, rfl, OwnP.nil _ _, fun _ => ⟨rfl, rfl, rfl⟩⟩, rfl, B⟩, z3⟩
    · unfold OptAt; rw [B3.block _ (by omega), hW2, ← z1, ← hZ]; exact heap_alloc_new _ _
    · unfold OptAt; rw [B3.block _ (by omega), B2.block _ (by omega), hW1, ← hZ]; exact heap_alloc_new _ _
    · rw [h, ← z2, ← hMZ]; exact heap_alloc_new _ _)
  have HR1 := Lib.hid (show (W1.alloc (.cells Z 31)).heap[w.heap.size + 1]? = some (.cells Z 31 (0, 0)) by rw [← z1]; exact heap_alloc_new _ _)
  have SR := Lib.hid (show (W1.alloc (.cells Z 31)).setRow (w.heap.size + 1) Z = W1.alloc (.cells Z 31) by rw [← z1, World.setRow_alloc_new])
  clear hb hy hn hnc hcm hZ hMZ
  go_enter Tryd.func49, Tryd.ntmps49
  try simp only [List.append_eq, List.cons_append, List.nil_append]
  go_upto_region 1 with fail
  rw [← hW1]
  clear hW1
  go_upto_region 5 with (first
    | (refine adC.wpList_zero rfl 31 rfl Z BZ.out ?_)
    | (refine wpList_store_row rfl 31 (.tmp 4) (.tmp 12) rfl (w.heap.size + 1) _ rfl rfl _ _ HR1.out IZ.out rfl OZ.out ?_; rw [SR.out]))
  obtain ⟨L1, hs3⟩ := L0.out _ rfl
  generalize (W1.alloc (.cells Z 31)).alloc (.cells MZ 116) = W5 at *
  try rw [z1]
  try rw [show (W1.alloc (.cells Z 31)).heap.size = w.heap.size + 2 by rw [alloc_size, z1]]
  try rw [show w.heap.size + 1 + 1 = w.heap.size + 2 from rfl]
  have HL1 := Lib.hid L1
  clear L0 L1 z1 HR1 SR hzm q40 d40 hzv
  go_loopw [0] (fun v0 wr => ∃ A n c cs o A' n' c' ms, v0 = .slice A n c ∧ Lp w wr bs A n c cs o A' n' c' ms ∧ w.heap.size + 3 ≤ wr.heap.size) (fun v0 _ => lenOfV v0)
  case atStart => exact ⟨_, _, _, _, _, _, _, _, _, rfl, HL1.out, by omega⟩
  case round =>
    obtain ⟨A, n, c, cs, o, A', n', c', ms, rfl, hlp, hsz⟩ := hrel
    clear HL1 hs3
    have LP := Lib.hid hlp
    have HSZ := Lib.hid hsz
    have hlen := hlp.nums.len
    have RZ := Lib.hid (show wr.heap[w.heap.size]? = some (.cells Z 31 (0, 0)) by rw [EZ.out]; exact hlp.res.row)
    have FER := Lib.hid (fun (er : Int) (h : er ≠ 0 ∧ ((psA cs o = (er, zOpt) ∧ er ≠ 4) ∨ (er = 3 ∧ psA cs o = (4, zOpt)))) => psp_err HL40.out hlp.bel er h.1 (by rw [hlp.eq]; exact h.2) Z EZ.out)
    have hn40 : (n : Int) ≤ 40 := by have := hlp.n40; omega
    clear hsz
    rcases Nat.eq_zero_or_pos n with hn0 | hn0
    · subst hn0
      have HH : psA cs o = (0, o) := by rw [hlp.nums.zero]; exact psA_nil o
      have FIN := Lib.hid (psp_end HL40.out hlp HH)
      have OC := optC hlp.sk.mac A' n' c'
      have RO := Lib.hid hlp.row.row
      have IO := Lib.hid OC.info
      have SZ := Lib.hid (show Z.size = (optV o A' n' c').size by rw [EZ.out]; exact (optC zOpt_ok.lm none 0 0).size.trans OC.size.symm)
      have OO := Lib.hid (opt_one o A' n' c')
      generalize optV o A' n' c' = CO at *
      clear OC hlp LP FER HH
      clear hlen HSZ hn40
      go_wp2_with (first
        | (refine wpList_load_row rfl 31 (.tmp 4) rfl (w.heap.size + 1) rfl _ _ _ _ RO.out Tryd.underlying31 rfl IO.out ?_)
        | (refine wpList_store_row rfl 31 (.tmp 2) (.tmp 101) rfl w.heap.size _ rfl rfl _ _ RZ.out IO.out SZ.out OO.out ?_))
      refine bodyPost_ret (v := .tuple #[.agg CO, .int .i64 0]) (adC.results_cell_tmp Tryd.results49 _ _ w.heap.size _ _ _ _ _ (by rfl) (setRow_heap _ _ _ _ _ _ RZ.out) Tryd.underlying31 rfl IO.out (by rfl)) rfl ?_
      exact FIN.out
    obtain ⟨gb, ob, rfl⟩ := some_at hlp.nums hn0
    obtain ⟨z0, r0, hcs⟩ : ∃ z r, cs = z :: r := by
      cases cs with
      | nil => simp at hlen; omega
      | cons z r => exact ⟨z, r, rfl⟩
    have hz0 := hlp.byte z0 (by rw [hcs]; exact List.mem_cons_self ..)
    unfold Byte at hz0
    obtain ⟨kn, rfl⟩ : ∃ k : Nat, z0 = (k : Int) := ⟨z0.toNat, by omega⟩
    have KC := Lib.hid (fun (i : Nat) (hi : i < n) (w' : World) (h : Below w.heap.size w w') => (show w'.cell? ⟨gb, ob + i, none⟩ = some (.int .u8 (cs.getD i 0)) by
      obtain ⟨b2, o2, e, hlt, hc⟩ := (hlp.n0.below h).at_ hn0
      cases e
      exact hc i hi))
    have c0 : wr.cell? ⟨gb, ob, none⟩ = some (.int .u8 (kn : Int)) := by
      have h9 := KC.out 0 hn0 wr hlp.bel
      rw [hcs] at h9
      exact h9
    have q0 : (0 : Int) < (n : Int) := by omega
    have q0n : 0 < n := hn0
    have q0b : decide ((0 : Int) < (n : Int)) = true := decide_eq_true q0
    have q0c : decide (0 < n) = true := decide_eq_true hn0
    by_cases hk0 : kn = 0
    · subst hk0
      have HH : psA cs o = (0, o) := by rw [hcs]; exact psA_end r0 o
      have FIN := Lib.hid (psp_end HL40.out hlp HH)
      have OC := optC hlp.sk.mac A' n' c'
      have RO := Lib.hid hlp.row.row
      have IO := Lib.hid OC.info
      have SZ := Lib.hid (show Z.size = (optV o A' n' c').size by rw [EZ.out]; exact (optC zOpt_ok.lm none 0 0).size.trans OC.size.symm)
      have OO := Lib.hid (opt_one o A' n' c')
      generalize optV o A' n' c' = CO at *
      clear OC hlp LP FER HH
      clear hlen HSZ hn40 hcs hz0 KC
      go_wp2_with (first
        | (refine wpList_load_row rfl 31 (.tmp 4) rfl (w.heap.size + 1) rfl _ _ _ _ RO.out Tryd.underlying31 rfl IO.out ?_)
        | (refine wpList_store_row rfl 31 (.tmp 2) (.tmp 101) rfl w.heap.size _ rfl rfl _ _ RZ.out IO.out SZ.out OO.out ?_))
      refine bodyPost_ret (v := .tuple #[.agg CO, .int .i64 0]) (adC.results_cell_tmp Tryd.results49 _ _ w.heap.size _ _ _ _ _ (by rfl) (setRow_heap _ _ _ _ _ _ RZ.out) Tryd.underlying31 rfl IO.out (by rfl)) rfl ?_
      exact FIN.out
    have k0b : ((kn : Int) != 0) = true := by simp; omega
    by_cases hk1 : kn = 1
    · subst hk1
      have LF := Lib.hid (show Lp w wr bs (if c = 1 then some ⟨gb, ob, none⟩ else some ⟨gb, ob + 1, none⟩) (n - 1) (c - 1) r0 o A' n' c' ms by
        have h9 := hlp.fill hcs
        rw [show (some (⟨gb, ob, none⟩ : Addr)).map (·.add 1) = some ⟨gb, ob + 1, none⟩ by simp [memC.add_plain]] at h9
        exact h9)
      have hc1 : (1 : Int) ≤ (n : Int) := by omega
      have HN1 := Lib.hid (show n - 1 < n by omega)
      clear hlp LP FER hcs hlen KC hz0 RZ
      go_wp2_with go_skip
      go_roundw
      case rel => exact ⟨_, _, _, r0, o, A', n', c', ms, rfl, LF.out, HSZ.out⟩
      case measure => simp only [lenOfV]; have := HN1.out; omega
    have k1b : ((kn : Int) == 1) = false := beq_eq_false_iff_ne.2 (by omega)
    have hk01 : (kn : Int) ≠ 0 ∧ (kn : Int) ≠ 1 := ⟨by omega, by omega⟩
    by_cases hn1 : n = 1
    · subst hn1
      obtain rfl : r0 = [] := List.eq_nil_of_length_eq_zero (by rw [hcs, List.length_cons] at hlen; omega)
      have FE := Lib.hid (FER.out 3 ⟨by decide, .inr ⟨rfl, by rw [hcs]; exact psA_one hk01.1 hk01.2 o⟩⟩)
      clear hlp LP FER hcs hlen KC hz0 hk01
      go_wp2_with (first
        | go_skip
        | (refine adC.wpList_zero rfl 31 rfl Z BZ.out ?_)
        | (refine wpList_store_row rfl 31 (.tmp 2) (.tmp 56) rfl w.heap.size _ rfl rfl _ _ RZ.out IZ.out rfl OZ.out ?_))
      refine bodyPost_ret (v := .tuple #[.agg Z, .int .i64 3]) (adC.results_cell_tmp Tryd.results49 _ _ w.heap.size _ _ _ _ _ (by rfl) (setRow_heap _ _ _ _ _ _ RZ.out) Tryd.underlying31 rfl IZ.out (by rfl)) rfl ?_
      exact FE.out
    obtain ⟨z1, t, rfl⟩ : ∃ z t, r0 = z :: t := by
      cases r0 with
      | nil => rw [hcs] at hlen; simp at hlen; omega
      | cons z t => exact ⟨z, t, rfl⟩
    have hz1 := hlp.byte z1 (by rw [hcs]; exact List.mem_cons_of_mem _ (List.mem_cons_self ..))
    unfold Byte at hz1
    obtain ⟨nn, rfl⟩ : ∃ k : Nat, z1 = (k : Int) := ⟨z1.toNat, by omega⟩
    have c1 : wr.cell? ⟨gb, ob + 1, none⟩ = some (.int .u8 (nn : Int)) := by
      have h9 := KC.out 1 (by omega) wr hlp.bel
      rw [hcs] at h9
      exact h9
    have htl : n = t.length + 2 := by rw [hcs, List.length_cons, List.length_cons] at hlen; omega
    have q1 : (1 : Int) < (n : Int) := by omega
    have q2 : ¬ (n : Int) < 2 := by omega
    have q2b : decide ((n : Int) < 2) = false := decide_eq_false q2
    by_cases hb2 : nn < 2
    · have q3 : (nn : Int) < 2 := by omega
      have q3b : decide ((nn : Int) < 2) = true := decide_eq_true q3
      have FE := Lib.hid (FER.out 3 ⟨by decide, .inl ⟨by rw [hcs, psA_more hk01.1 hk01.2, if_pos q3], by decide⟩⟩)
      clear hlp LP FER hcs hlen KC hz0 hz1 hk01 htl
      go_wp2_with (first
        | go_skip
        | (refine adC.wpList_zero rfl 31 rfl Z BZ.out ?_)
        | (refine wpList_store_row rfl 31 (.tmp 2) (.tmp 56) rfl w.heap.size _ rfl rfl _ _ RZ.out IZ.out rfl OZ.out ?_))
      refine bodyPost_ret (v := .tuple #[.agg Z, .int .i64 3]) (adC.results_cell_tmp Tryd.results49 _ _ w.heap.size _ _ _ _ _ (by rfl) (setRow_heap _ _ _ _ _ _ RZ.out) Tryd.underlying31 rfl IZ.out (by rfl)) rfl ?_
      exact FE.out
    have q3 : ¬ (nn : Int) < 2 := by omega
    have q3b : decide ((nn : Int) < 2) = false := decide_eq_false q3
    have wn : IntKind.i64.wrap (nn : Int) = (nn : Int) := IntWalk.i64_in _ (by omega)
    have nn255 : (nn : Int) ≤ 255 := by omega
    by_cases hbn : n < nn
    · have q4 : (n : Int) < (nn : Int) := by omega
      have q4b : decide ((n : Int) < (nn : Int)) = true := decide_eq_true q4
      have FE := Lib.hid (FER.out 3 ⟨by decide, .inr ⟨rfl, by rw [hcs, psA_more hk01.1 hk01.2, if_neg q3, if_pos (by omega)]⟩⟩)
      clear hlp LP FER hcs hlen KC hz0 hz1 hk01 htl
      go_wp2_with (first
        | go_skip
        | (refine adC.wpList_zero rfl 31 rfl Z BZ.out ?_)
        | (refine wpList_store_row rfl 31 (.tmp 2) (.tmp 56) rfl w.heap.size _ rfl rfl _ _ RZ.out IZ.out rfl OZ.out ?_))
      refine bodyPost_ret (v := .tuple #[.agg Z, .int .i64 3]) (adC.results_cell_tmp Tryd.results49 _ _ w.heap.size _ _ _ _ _ (by rfl) (setRow_heap _ _ _ _ _ _ RZ.out) Tryd.underlying31 rfl IZ.out (by rfl)) rfl ?_
      exact FE.out
    have q4 : ¬ (n : Int) < (nn : Int) := by omega
    have q4b : decide ((n : Int) < (nn : Int)) = false := decide_eq_false q4
    obtain ⟨m, hm⟩ : ∃ m, m = nn - 2 := ⟨_, rfl⟩
    have hnn : nn = m + 2 := by omega
    have hmt : m ≤ t.length := by omega
    have htk : (t.take m).length = m := by rw [List.length_take]; omega
    have hpt := psA_take (o := o) (t := t) (k := kn) (nn := nn) hk0 hk1 hnn hmt
    have RT := Lib.hid (fun w' => rright_any (kn : Int) m (nn : Int) w' (by unfold Byte; omega) (by omega) (by omega))
    have hte := take_right (o := o) (k := (kn : Int)) (b := t.take m)
    rw [htk] at hte
    obtain ⟨rb, hrb⟩ : ∃ b, rightB (kn : Int) m = b := ⟨_, rfl⟩
    rw [hrb] at RT hte
    cases rb
    · rw [if_pos rfl] at hte
      rw [if_neg (by rw [hte]; decide), hte] at hpt
      have FE := Lib.hid (FER.out 3 ⟨by decide, .inl ⟨by rw [hcs]; exact hpt, by decide⟩⟩)
      clear hlp LP FER hcs hlen KC hz0 hz1 hk01 htl hpt hte hmt htk hnn hm hrb
      go_wp2_with (first
        | go_skip
        | (go_at_call 83; (refine (RT.out _).mono ?_); rintro e w' ⟨rfl, hw'⟩; obtain rfl := hw'.symm)
        | (refine adC.wpList_zero rfl 31 rfl Z BZ.out ?_)
        | (refine wpList_store_row rfl 31 (.tmp 2) (.tmp 56) rfl w.heap.size _ rfl rfl _ _ RZ.out IZ.out rfl OZ.out ?_))
      refine bodyPost_ret (v := .tuple #[.agg Z, .int .i64 3]) (adC.results_cell_tmp Tryd.results49 _ _ w.heap.size _ _ _ _ _ (by rfl) (setRow_heap _ _ _ _ _ _ RZ.out) Tryd.underlying31 rfl IZ.out (by rfl)) rfl ?_
      exact FE.out
    rw [if_neg (by decide)] at hte
    by_cases hkb : knownB (kn : Int) = true
    · have hk6 : (((kn : Int) == 2) = true) ∨ (((kn : Int) == 2) = false ∧ ((kn : Int) == 3) = true) ∨ (((kn : Int) == 2) = false ∧ ((kn : Int) == 3) = false ∧ ((kn : Int) == 4) = true) ∨ (((kn : Int) == 2) = false ∧ ((kn : Int) == 3) = false ∧ ((kn : Int) == 4) = false ∧ ((kn : Int) == 5) = true) ∨ (((kn : Int) == 2) = false ∧ ((kn : Int) == 3) = false ∧ ((kn : Int) == 4) = false ∧ ((kn : Int) == 5) = false ∧ ((kn : Int) == 8) = true) ∨ (((kn : Int) == 2) = false ∧ ((kn : Int) == 3) = false ∧ ((kn : Int) == 4) = false ∧ ((kn : Int) == 5) = false ∧ ((kn : Int) == 8) = false ∧ ((kn : Int) == 29) = true) := by
        have h9 := hkb
        unfold knownB at h9
        simp only [Bool.or_eq_true, decide_eq_true_eq] at h9
        rcases h9 with h | h | h | h | h | h <;> rw [h] <;> simp
      rcases hk6 with e2 | ⟨e2, e3⟩ | ⟨e2, e3, e4⟩ | ⟨e2, e3, e4, e5⟩ | ⟨e2, e3, e4, e5, e8⟩ | ⟨e2, e3, e4, e5, e8, e29⟩
      all_goals
        have kn255 : (kn : Int) ≤ 255 := by omega
        have kmet := pkC.PkC.cell hlp.met (metV_at hlp.mm.1 (show kn < 256 by omega))
        have hmm := hlp.mm.2 kn hkb
        obtain ⟨mb, hmb⟩ : ∃ b, ms.getD kn false = b := ⟨_, rfl⟩
        rw [hmb] at kmet hmm
        cases mb
        rotate_left
        · rw [if_pos ⟨hkb, hmm.symm⟩] at hte
          rw [if_neg (by rw [hte]; decide), hte] at hpt
          have FE := Lib.hid (FER.out 7 ⟨by decide, .inl ⟨by rw [hcs]; exact hpt, by decide⟩⟩)
          clear hlp LP FER hcs hlen KC hz0 hz1 hk01 htl hpt hte hmt htk hnn hm hrb hmm hmb hkb
          go_wp2_with (first
            | go_skip
            | (go_at_call 83; (refine (RT.out _).mono ?_); rintro e w' ⟨rfl, hw'⟩; obtain rfl := hw'.symm)
            | (refine adC.wpList_zero rfl 31 rfl Z BZ.out ?_)
            | (refine wpList_store_row rfl 31 (.tmp 2) (.tmp 85) rfl w.heap.size _ rfl rfl _ _ RZ.out IZ.out rfl OZ.out ?_))
          refine bodyPost_ret (v := .tuple #[.agg Z, .int .i64 7]) (adC.results_cell_tmp Tryd.results49 _ _ w.heap.size _ _ _ _ _ (by rfl) (setRow_heap _ _ _ _ _ _ RZ.out) Tryd.underlying31 rfl IZ.out (by rfl)) rfl ?_
          exact FE.out
        rw [if_neg (by rw [← hmm]; simp)] at hte
        clear hmm hmb
        have fmet := frozen_of_row wr (w.heap.size + 2) kn _ _ hlp.met
        have HS3 := HSZ.out
        obtain ⟨o2, ho2⟩ : ∃ q, q = takeO o (kn : Int) (t.take m) := ⟨_, rfl⟩
        obtain ⟨wq, hwq⟩ : ∃ q, q = wr.setCell ⟨w.heap.size + 2, kn, none⟩ (.bool true) := ⟨_, rfl⟩
        obtain ⟨g1, g2⟩ := hlp.mark HS3 kn o2 (fun _ => undef)
        rw [← hwq] at g1 g2
        have HR0 := Lib.hid g1
        have HG0 := Lib.hid g2
        have HS1 := Lib.hid (show w.heap.size + 1 ≤ wq.heap.size from Nat.le_trans (Nat.add_le_add_left (by decide) _) g1.2.2.2)
        have K1 := Lib.hid (fun (w' : World) (h : Below w.heap.size w w') => (show w'.cell? ⟨gb, ob + 1, none⟩ = some (.int .u8 (nn : Int)) by
          have h9 := KC.out 1 (by omega) w' h
          rw [hcs] at h9
          exact h9))
        have Q1 := Lib.hid q1
        obtain ⟨B2, hB2⟩ : ∃ q, q = (if c = 2 then (some ⟨gb, ob, none⟩ : Option Addr) else (some ⟨gb, ob, none⟩ : Option Addr).map (·.add 2)) := ⟨_, rfl⟩
        obtain ⟨d2, hd2⟩ : ∃ q, q = c - 2 := ⟨_, rfl⟩
        have hnc := hlp.nc
        have hcm := hlp.cm
        have hle : nn ≤ n := by omega
        have SC := Lib.hid (fun w' => (show (Instr.slice 32 (.slice (some ⟨gb, ob, none⟩) n c) (some (.int .i64 2)) (some (.int .u8 (nn : Int))) none).run Tryd.prog w' = .ok (.slice B2 m d2) w' by
          have h9 := cut_twoU (some ⟨gb, ob, none⟩) n c 2 nn (by omega) (by omega) w'
          rw [← hB2, ← hd2, ← hm] at h9
          exact h9))
        have WA := Lib.hid (fun (w' : World) (h : Below w.heap.size w w') (hsk : Sk w' (w.heap.size + 3) o A' n' c') (hsz : w.heap.size + 3 ≤ w'.heap.size) => (show Calls Tryd.prog 84 #[.agg (optV o A' n' c'), .int .u8 (kn : Int), .slice B2 m d2] w' (WiR w' (w.heap.size + 3) o2) by
          have n9 := (partN ((hlp.n0.below h).more h.size) (show 2 ≤ n by omega) hnc).upto (show m ≤ n - 2 by omega)
          rw [← hB2, hcs, show ((kn : Nat) : Int) :: (nn : Int) :: t = [((kn : Nat) : Int), (nn : Int)] ++ t from rfl, show ([((kn : Nat) : Int), (nn : Int)] ++ t).drop 2 = t from rfl] at n9
          rw [ho2]
          exact with_any o A' n' c' (kn : Int) B2 m d2 (t.take m) (w.heap.size + 3) w' hsk hsz n9 (fun x hx => hlp.byte x (by rw [hcs]; exact List.mem_cons_of_mem _ (List.mem_cons_of_mem _ (List.mem_of_mem_take hx)))) (by omega) (by omega) (by omega) hte))
        have LSTEP := Lib.hid (fun (w6 : World) (A6 : Option Addr) (n6 c6 : Nat) (r1 : OptAt w6 (w.heap.size + 1) o2 A6 n6 c6) (r2 : Sk w6 (w.heap.size + 3) o2 A6 n6 c6) (r3 : OptAt w6 w.heap.size zOpt none 0 0) (r4 : w6.heap[w.heap.size + 2]? = some (.cells (metV (ms.set kn true)) 116 (0, 0))) (hb : Below w.heap.size w w6) => (show Lp w w6 bs (if c = nn then some ⟨gb, ob, none⟩ else some ⟨gb, ob + nn, none⟩) (n - nn) (c - nn) (t.drop m) o2 A6 n6 c6 (ms.set kn true) by
          rw [ho2] at r1 r2
          have h9 := hlp.step kn nn m hnn hle hcs (by omega) (by omega) (by omega) hte r1 r2 r3 r4 hb
          rw [show (some (⟨gb, ob, none⟩ : Addr)).map (·.add nn) = some ⟨gb, ob + nn, none⟩ by simp [memC.add_plain]] at h9
          rw [ho2]
          exact h9))
        have HNN := Lib.hid (show n - nn < n by omega)
        have IC := Lib.hid (optC hlp.sk.mac A' n' c').info
        have hkn : (nn : Int) ≤ (n : Int) := by omega
        obtain ⟨CO, hCO⟩ : ∃ q, q = optV o A' n' c' := ⟨_, rfl⟩
        simp only [← hCO] at WA IC
        have HCO := Lib.hid hCO.symm
        clear hCO hlp LP FER hcs hlen KC hz0 hz1 hk01 htl hpt hte hmt htk hnn hm hrb ho2 hB2 hd2 hnc hcm g1 g2 HS3 hn40 hle RZ hkb
        go_upto_region 15 with (first
          | go_skip
          | (go_at_call 83; (refine (RT.out _).mono ?_); rintro e w' ⟨rfl, hw'⟩; obtain rfl := hw'.symm))
        rw [← hwq]
        clear hwq RT q2b q3b q4b kmet fmet q0b q0c
        refine with_act fun a0 ha0 => ?_
        have hl : lrT.length = a0.tmps.size := by rw [ha0]; rfl
        have k0 : a0.tmps[0]?.getD undef = .slice (some ⟨gb, ob, none⟩) n c := by rw [ha0]; rfl
        have k4 : a0.tmps[4]?.getD undef = .pointer (some ⟨w.heap.size + 1, 0, none⟩) := by rw [ha0]; rfl
        have k6 : a0.tmps[6]?.getD undef = .int .u8 (kn : Int) := by rw [ha0]; rfl
        refine wp_region_chf (by kernel_rfl) lrT (by kernel_rfl) (by kernel_rfl) hl (fun i => a0.tmps[i + 88]?.getD undef) (by rw [ha0]; rfl) ((w.heap.size + 1)) (OnlyAt (w.heap.size + 1)) [8] (by kernel_rfl) (by decide) (by decide) (fun w' => Below w.heap.size w w' ∧ w.heap.size + 1 ≤ w'.heap.size) (lrV w gb ob n c nn m d2 (kn : Int) B2 CO o2) (lrR w o A' n' c' (ms.set kn true) o2) HS1.out ⟨HG0.out.trans ((Below.refl _ _).drew.mono HG0.out.size), HS1.out⟩ (show lrR w o A' n' c' (ms.set kn true) o2 0 _ wq.drew from lrR.keep _ _ _ _ _ _ _ 0 (fun _ => undef) _ _ _ (Below.refl _ _).drew HR0.out) (fun w1 w2 hb hd h => ⟨keep_below hd (Nat.le_succ _) (Nat.le_trans (Nat.le_succ _) h.2) h.1, by rcases hd with hd | hd; exact Nat.le_trans h.2 hd.size; exact Nat.le_trans h.2 hd.1.size⟩) (fun i v w w' _ hd h => lrV.keep _ _ _ _ _ _ _ _ _ _ _ _ i v w w' hd h) (fun k us us' w1 w2 _ _ hb hR => lrR.keep _ _ _ _ _ _ _ k us us' w1 w2 hb hR) ⟨?_, ?_, ?_, ?_, ?_, ?_, ?_, ?_, ?_, trivial⟩ ?_
        · refine stepF_early 0 0 (.inl rfl) (.inr ⟨_, _, rfl, rfl, by kernel_rfl⟩) [] (by kernel_rfl) (by decide) (by decide) rfl fun us w' k hB hG hV hk hR => ?_
          have o4 := (frame_old2 (us := us) (a := a0) (show (lrT[4]?).join = none from rfl)).trans k4
          have hR0 : lrR w o A' n' c' (ms.set kn true) o2 0 us w' := by
            obtain ⟨h1, h2⟩ := hk
            match k, h1, h2, hR with
            | 0, _, _, hR => exact hR
          obtain ⟨⟨hrow, hsk⟩, -, -, hsz⟩ := hR0
          have hg1 := hrow.row
          rw [HCO.out] at hg1
          generalize frame lrT a0 us = fr at *
          exact load_C 31 4 rfl (w.heap.size + 1) o4 _ _ (0, 0) _ hg1 Tryd.underlying31 rfl IC.out rfl
        · refine stepF_val [] (by kernel_rfl) (by decide) (by decide) rfl fun us w' hB hG hV => ?_
          have o6 := (frame_old2 (us := us) (a := a0) (show (lrT[6]?).join = none from rfl)).trans k6
          generalize frame lrT a0 us = fr at *
          exact val_C (v := .int .u8 (kn : Int)) (w' := w') (by go_simp) (Below.refl _ _) rfl
        · refine stepF_val [] (by kernel_rfl) (by decide) (by decide) rfl fun us w' hB hG hV => ?_
          have o0 := (frame_old2 (us := us) (a := a0) (show (lrT[0]?).join = none from rfl)).trans k0
          generalize frame lrT a0 us = fr at *
          exact val_C (v := .slice (some ⟨gb, ob, none⟩) n c) (w' := w') (by go_simp) (Below.refl _ _) rfl
        · refine stepF_val [] (by kernel_rfl) (by decide) (by decide) rfl fun us w' hB hG hV => ?_
          have o0 := (frame_old2 (us := us) (a := a0) (show (lrT[0]?).join = none from rfl)).trans k0
          generalize frame lrT a0 us = fr at *
          exact val_C (v := .slice (some ⟨gb, ob, none⟩) n c) (w' := w') (by go_simp) (Below.refl _ _) rfl
        · refine stepF_val [3] (by kernel_rfl) (by decide) (by decide) rfl fun us w' hB hG hV => ?_
          have e3 : us 3 = .slice (some ⟨gb, ob, none⟩) n c := hV 3 (by simp)
          have v3 := (frame_at2 (us := us) hl (show (lrT[91]?).join = some 3 from rfl)).trans e3
          have q1 := Q1.out
          generalize frame lrT a0 us = fr at *
          exact val_C (v := .pointer (some ⟨gb, ob + 1, none⟩)) (w' := w') (by go_simp) (Below.refl _ _) rfl
        · refine stepF_val [4] (by kernel_rfl) (by decide) (by decide) rfl fun us w' hB hG hV => ?_
          have e4 : us 4 = .pointer (some ⟨gb, ob + 1, none⟩) := hV 4 (by simp)
          have v4 := (frame_at2 (us := us) hl (show (lrT[92]?).join = some 4 from rfl)).trans e4
          have hc := K1.out w' hG.1
          generalize frame lrT a0 us = fr at *
          exact val_C (v := .int .u8 (nn : Int)) (w' := w') (by go_simp) (Below.refl _ _) rfl
        · refine stepF_val [2, 5] (by kernel_rfl) (by decide) (by decide) rfl fun us w' hB hG hV => ?_
          have e2 : us 2 = .slice (some ⟨gb, ob, none⟩) n c := hV 2 (by simp)
          have v2 := (frame_at2 (us := us) hl (show (lrT[90]?).join = some 2 from rfl)).trans e2
          have e5 : us 5 = .int .u8 (nn : Int) := hV 5 (by simp)
          have v5 := (frame_at2 (us := us) hl (show (lrT[93]?).join = some 5 from rfl)).trans e5
          have hsc := SC.out w'
          generalize frame lrT a0 us = fr at *
          exact val_C (v := .slice B2 m d2) (w' := w') (by go_simp) (Below.refl _ _) rfl
        · refine stepF_early 0 0 (.inl rfl) (.inr ⟨_, _, rfl, rfl, by kernel_rfl⟩) [0, 1, 6] (by kernel_rfl) (by decide) (by decide) rfl fun us w' k hB hG hV hk hR => ?_
          have e0 : us 0 = .agg CO := hV 0 (by simp)
          have v0 := (frame_at2 (us := us) hl (show (lrT[88]?).join = some 0 from rfl)).trans e0
          have e1 : us 1 = .int .u8 (kn : Int) := hV 1 (by simp)
          have v1 := (frame_at2 (us := us) hl (show (lrT[89]?).join = some 1 from rfl)).trans e1
          have e6 : us 6 = .slice B2 m d2 := hV 6 (by simp)
          have v6 := (frame_at2 (us := us) hl (show (lrT[94]?).join = some 6 from rfl)).trans e6
          have hR0 : lrR w o A' n' c' (ms.set kn true) o2 0 us w' := by
            obtain ⟨h1, h2⟩ := hk
            match k, h1, h2, hR with
            | 0, _, _, hR => exact hR
          obtain ⟨⟨hrow, hsk⟩, -, -, hsz⟩ := hR0
          generalize frame lrT a0 us = fr at *
          exact call_C (f := 84) (args := #[.agg CO, .int .u8 (kn : Int), .slice B2 m d2]) (by go_simp) ((WA.out w' hG.1 hsk hsz).mono fun e w'' ⟨A2, n2, c2, q1, q2, q3⟩ => ⟨_, q1, q3, A2, n2, c2, rfl, q2⟩)
        · refine stepF_chain 0 rfl (by decide) [7] (by kernel_rfl) (by decide) rfl fun us w' hB hG hV hR => ?_
          obtain ⟨A7, n7, c7, e7, s7⟩ := (show ∃ A2 n2 c2, us 7 = .agg (optV o2 A2 n2 c2) ∧ Sk w' (w.heap.size + 3) o2 A2 n2 c2 from hV 7 (by simp))
          have v7 := (frame_at2 (us := us) hl (show (lrT[95]?).join = some 7 from rfl)).trans e7
          have o4 := (frame_old2 (us := us) (a := a0) (show (lrT[4]?).join = none from rfl)).trans k4
          generalize frame lrT a0 us = fr at *
          obtain ⟨⟨r1, r2⟩, r3, r4, r5⟩ := (show (OptAt w' (w.heap.size + 1) o A' n' c' ∧ Sk w' (w.heap.size + 3) o A' n' c') ∧ OptAt w' w.heap.size zOpt none 0 0 ∧ w'.heap[w.heap.size + 2]? = some (.cells (metV (ms.set kn true)) 116 (0, 0)) ∧ w.heap.size + 3 ≤ w'.heap.size from hR)
          exact store_J (R := fun v w'' => (OnlyAt (w.heap.size + 1) w' w'' ∧ Below (w.heap.size + 1) w' w'') ∧ lrR w o A' n' c' (ms.set kn true) o2 1 (upd us 8 v) w'') 31 4 95 rfl (w.heap.size + 1) (optV o2 A7 n7 c7) o4 v7 _ _ r1 (optC s7.mac A7 n7 c7).info ((optC r2.mac A' n' c').size.trans (optC s7.mac A7 n7 c7).size.symm) (opt_one _ _ _ _) ⟨⟨OnlyAt.setRow _ _ _, (OnlyAt.setRow _ _ _).1⟩, ⟨A7, n7, c7, setRow_heap _ _ _ _ _ _ r1, s7.only (fun k hk => setRow_other _ _ _ _ hk) (by omega)⟩, (by unfold OptAt; rw [setRow_other _ _ _ _ (by omega)]; exact r3), (by rw [setRow_other _ _ _ _ (by omega)]; exact r4), by simpa using r5⟩
        · intro us w6 hB2 hG hV hR
          obtain ⟨⟨A6, n6, c6, r1, r2⟩, r3, r4, r5⟩ := (show (∃ A2 n2 c2, OptAt w6 (w.heap.size + 1) o2 A2 n2 c2 ∧ Sk w6 (w.heap.size + 3) o2 A2 n2 c2) ∧ OptAt w6 w.heap.size zOpt none 0 0 ∧ w6.heap[w.heap.size + 2]? = some (.cells (metV (ms.set kn true)) 116 (0, 0)) ∧ w.heap.size + 3 ≤ w6.heap.size from hR)
          have H1 := Lib.hid r1
          have H2 := Lib.hid r2
          have H3 := Lib.hid r3
          have H4 := Lib.hid r4
          have HG6 := Lib.hid hG.1
          have r5 := Lib.hid r5
          have k1 := K1.out w6 hG.1
          subst ha0
          simp only [frame, lrT, fill]
          clear hV hG hl k0 k4 k6 r1 r2 r3 r4 hR SC
          go_wp2_with fail
          have LN := LSTEP.out w6 A6 n6 c6 H1.out H2.out H3.out H4.out HG6.out
          go_roundw
          case rel => exact ⟨_, _, _, t.drop m, o2, A6, n6, c6, ms.set kn true, rfl, LN, r5.out⟩
          case measure => simp only [lenOfV]; have := HNN.out; omega
    have kn255 : (kn : Int) ≤ 255 := by omega
    have kmet := pkC.PkC.cell hlp.met (metV_at hlp.mm.1 (show kn < 256 by omega))
    have hu : knownB (kn : Int) = false := by simpa using hkb
    have hu2 := hu
    unfold knownB at hu2
    simp at hu2
    have e2 : ((kn : Int) == 2) = false := beq_eq_false_iff_ne.2 (by omega)
    have e3 : ((kn : Int) == 3) = false := beq_eq_false_iff_ne.2 (by omega)
    have e4 : ((kn : Int) == 4) = false := beq_eq_false_iff_ne.2 (by omega)
    have e5 : ((kn : Int) == 5) = false := beq_eq_false_iff_ne.2 (by omega)
    have e8 : ((kn : Int) == 8) = false := beq_eq_false_iff_ne.2 (by omega)
    have e29 : ((kn : Int) == 29) = false := beq_eq_false_iff_ne.2 (by omega)
    rw [if_neg (by rw [hu]; simp)] at hte
    clear hu2
    have fmet := frozen_of_row wr (w.heap.size + 2) kn _ _ hlp.met
    have HS3 := HSZ.out
    obtain ⟨o2, ho2⟩ : ∃ q, q = takeO o (kn : Int) (t.take m) := ⟨_, rfl⟩
    obtain ⟨wq, hwq⟩ : ∃ q, q = wr.setCell ⟨w.heap.size + 2, kn, none⟩ (.bool true) := ⟨_, rfl⟩
    obtain ⟨g1, g2⟩ := hlp.mark HS3 kn o2 (fun _ => undef)
    rw [← hwq] at g1 g2
    have HR0 := Lib.hid g1
    have HG0 := Lib.hid g2
    have HS1 := Lib.hid (show w.heap.size + 1 ≤ wq.heap.size from Nat.le_trans (Nat.add_le_add_left (by decide) _) g1.2.2.2)
    have K1 := Lib.hid (fun (w' : World) (h : Below w.heap.size w w') => (show w'.cell? ⟨gb, ob + 1, none⟩ = some (.int .u8 (nn : Int)) by
      have h9 := KC.out 1 (by omega) w' h
      rw [hcs] at h9
      exact h9))
    have Q1 := Lib.hid q1
    obtain ⟨B2, hB2⟩ : ∃ q, q = (if c = 2 then (some ⟨gb, ob, none⟩ : Option Addr) else (some ⟨gb, ob, none⟩ : Option Addr).map (·.add 2)) := ⟨_, rfl⟩
    obtain ⟨d2, hd2⟩ : ∃ q, q = c - 2 := ⟨_, rfl⟩
    have hnc := hlp.nc
    have hcm := hlp.cm
    have hle : nn ≤ n := by omega
    have SC := Lib.hid (fun w' => (show (Instr.slice 32 (.slice (some ⟨gb, ob, none⟩) n c) (some (.int .i64 2)) (some (.int .u8 (nn : Int))) none).run Tryd.prog w' = .ok (.slice B2 m d2) w' by
      have h9 := cut_twoU (some ⟨gb, ob, none⟩) n c 2 nn (by omega) (by omega) w'
      rw [← hB2, ← hd2, ← hm] at h9
      exact h9))
    have WA := Lib.hid (fun (w' : World) (h : Below w.heap.size w w') (hsk : Sk w' (w.heap.size + 3) o A' n' c') (hsz : w.heap.size + 3 ≤ w'.heap.size) => (show Calls Tryd.prog 84 #[.agg (optV o A' n' c'), .int .u8 (kn : Int), .slice B2 m d2] w' (WiR w' (w.heap.size + 3) o2) by
      have n9 := (partN ((hlp.n0.below h).more h.size) (show 2 ≤ n by omega) hnc).upto (show m ≤ n - 2 by omega)
      rw [← hB2, hcs, show ((kn : Nat) : Int) :: (nn : Int) :: t = [((kn : Nat) : Int), (nn : Int)] ++ t from rfl, show ([((kn : Nat) : Int), (nn : Int)] ++ t).drop 2 = t from rfl] at n9
      rw [ho2]
      exact with_any o A' n' c' (kn : Int) B2 m d2 (t.take m) (w.heap.size + 3) w' hsk hsz n9 (fun x hx => hlp.byte x (by rw [hcs]; exact List.mem_cons_of_mem _ (List.mem_cons_of_mem _ (List.mem_of_mem_take hx)))) (by omega) (by omega) (by omega) hte))
    have LSTEP := Lib.hid (fun (w6 : World) (A6 : Option Addr) (n6 c6 : Nat) (r1 : OptAt w6 (w.heap.size + 1) o2 A6 n6 c6) (r2 : Sk w6 (w.heap.size + 3) o2 A6 n6 c6) (r3 : OptAt w6 w.heap.size zOpt none 0 0) (r4 : w6.heap[w.heap.size + 2]? = some (.cells (metV (ms.set kn true)) 116 (0, 0))) (hb : Below w.heap.size w w6) => (show Lp w w6 bs (if c = nn then some ⟨gb, ob, none⟩ else some ⟨gb, ob + nn, none⟩) (n - nn) (c - nn) (t.drop m) o2 A6 n6 c6 (ms.set kn true) by
      rw [ho2] at r1 r2
      have h9 := hlp.step kn nn m hnn hle hcs (by omega) (by omega) (by omega) hte r1 r2 r3 r4 hb
      rw [show (some (⟨gb, ob, none⟩ : Addr)).map (·.add nn) = some ⟨gb, ob + nn, none⟩ by simp [memC.add_plain]] at h9
      rw [ho2]
      exact h9))
    have HNN := Lib.hid (show n - nn < n by omega)
    have IC := Lib.hid (optC hlp.sk.mac A' n' c').info
    have hkn : (nn : Int) ≤ (n : Int) := by omega
    obtain ⟨CO, hCO⟩ : ∃ q, q = optV o A' n' c' := ⟨_, rfl⟩
    simp only [← hCO] at WA IC
    have HCO := Lib.hid hCO.symm
    clear hCO hlp LP FER hcs hlen KC hz0 hz1 hk01 htl hpt hte hmt htk hnn hm hrb ho2 hB2 hd2 hnc hcm g1 g2 HS3 hn40 hle RZ hkb
    go_upto_region 15 with (first
      | go_skip
      | (go_at_call 83; (refine (RT.out _).mono ?_); rintro e w' ⟨rfl, hw'⟩; obtain rfl := hw'.symm))
    rw [← hwq]
    clear hwq RT q2b q3b q4b kmet fmet q0b q0c
    refine with_act fun a0 ha0 => ?_
    have hl : lrT.length = a0.tmps.size := by rw [ha0]; rfl
    have k0 : a0.tmps[0]?.getD undef = .slice (some ⟨gb, ob, none⟩) n c := by rw [ha0]; rfl
    have k4 : a0.tmps[4]?.getD undef = .pointer (some ⟨w.heap.size + 1, 0, none⟩) := by rw [ha0]; rfl
    have k6 : a0.tmps[6]?.getD undef = .int .u8 (kn : Int) := by rw [ha0]; rfl
    refine wp_region_chf (by kernel_rfl) lrT (by kernel_rfl) (by kernel_rfl) hl (fun i => a0.tmps[i + 88]?.getD undef) (by rw [ha0]; rfl) ((w.heap.size + 1)) (OnlyAt (w.heap.size + 1)) [8] (by kernel_rfl) (by decide) (by decide) (fun w' => Below w.heap.size w w' ∧ w.heap.size + 1 ≤ w'.heap.size) (lrV w gb ob n c nn m d2 (kn : Int) B2 CO o2) (lrR w o A' n' c' (ms.set kn true) o2) HS1.out ⟨HG0.out.trans ((Below.refl _ _).drew.mono HG0.out.size), HS1.out⟩ (show lrR w o A' n' c' (ms.set kn true) o2 0 _ wq.drew from lrR.keep _ _ _ _ _ _ _ 0 (fun _ => undef) _ _ _ (Below.refl _ _).drew HR0.out) (fun w1 w2 hb hd h => ⟨keep_below hd (Nat.le_succ _) (Nat.le_trans (Nat.le_succ _) h.2) h.1, by rcases hd with hd | hd; exact Nat.le_trans h.2 hd.size; exact Nat.le_trans h.2 hd.1.size⟩) (fun i v w w' _ hd h => lrV.keep _ _ _ _ _ _ _ _ _ _ _ _ i v w w' hd h) (fun k us us' w1 w2 _ _ hb hR => lrR.keep _ _ _ _ _ _ _ k us us' w1 w2 hb hR) ⟨?_, ?_, ?_, ?_, ?_, ?_, ?_, ?_, ?_, trivial⟩ ?_
    · refine stepF_early 0 0 (.inl rfl) (.inr ⟨_, _, rfl, rfl, by kernel_rfl⟩) [] (by kernel_rfl) (by decide) (by decide) rfl fun us w' k hB hG hV hk hR => ?_
      have o4 := (frame_old2 (us := us) (a := a0) (show (lrT[4]?).join = none from rfl)).trans k4
      have hR0 : lrR w o A' n' c' (ms.set kn true) o2 0 us w' := by
        obtain ⟨h1, h2⟩ := hk
        match k, h1, h2, hR with
        | 0, _, _, hR => exact hR
      obtain ⟨⟨hrow, hsk⟩, -, -, hsz⟩ := hR0
      have hg1 := hrow.row
      rw [HCO.out] at hg1
      generalize frame lrT a0 us = fr at *
      exact load_C 31 4 rfl (w.heap.size + 1) o4 _ _ (0, 0) _ hg1 Tryd.underlying31 rfl IC.out rfl
    · refine stepF_val [] (by kernel_rfl) (by decide) (by decide) rfl fun us w' hB hG hV => ?_
      have o6 := (frame_old2 (us := us) (a := a0) (show (lrT[6]?).join = none from rfl)).trans k6
      generalize frame lrT a0 us = fr at *
      exact val_C (v := .int .u8 (kn : Int)) (w' := w') (by go_simp) (Below.refl _ _) rfl
    · refine stepF_val [] (by kernel_rfl) (by decide) (by decide) rfl fun us w' hB hG hV => ?_
      have o0 := (frame_old2 (us := us) (a := a0) (show (lrT[0]?).join = none from rfl)).trans k0
      generalize frame lrT a0 us = fr at *
      exact val_C (v := .slice (some ⟨gb, ob, none⟩) n c) (w' := w') (by go_simp) (Below.refl _ _) rfl
    · refine stepF_val [] (by kernel_rfl) (by decide) (by decide) rfl fun us w' hB hG hV => ?_
      have o0 := (frame_old2 (us := us) (a := a0) (show (lrT[0]?).join = none from rfl)).trans k0
      generalize frame lrT a0 us = fr at *
      exact val_C (v := .slice (some ⟨gb, ob, none⟩) n c) (w' := w') (by go_simp) (Below.refl _ _) rfl
    · refine stepF_val [3] (by kernel_rfl) (by decide) (by decide) rfl fun us w' hB hG hV => ?_
      have e3 : us 3 = .slice (some ⟨gb, ob, none⟩) n c := hV 3 (by simp)
      have v3 := (frame_at2 (us := us) hl (show (lrT[91]?).join = some 3 from rfl)).trans e3
      have q1 := Q1.out
      generalize frame lrT a0 us = fr at *
      exact val_C (v := .pointer (some ⟨gb, ob + 1, none⟩)) (w' := w') (by go_simp) (Below.refl _ _) rfl
    · refine stepF_val [4] (by kernel_rfl) (by decide) (by decide) rfl fun us w' hB hG hV => ?_
      have e4 : us 4 = .pointer (some ⟨gb, ob + 1, none⟩) := hV 4 (by simp)
      have v4 := (frame_at2 (us := us) hl (show (lrT[92]?).join = some 4 from rfl)).trans e4
      have hc := K1.out w' hG.1
      generalize frame lrT a0 us = fr at *
      exact val_C (v := .int .u8 (nn : Int)) (w' := w') (by go_simp) (Below.refl _ _) rfl
    · refine stepF_val [2, 5] (by kernel_rfl) (by decide) (by decide) rfl fun us w' hB hG hV => ?_
      have e2 : us 2 = .slice (some ⟨gb, ob, none⟩) n c := hV 2 (by simp)
      have v2 := (frame_at2 (us := us) hl (show (lrT[90]?).join = some 2 from rfl)).trans e2
      have e5 : us 5 = .int .u8 (nn : Int) := hV 5 (by simp)
      have v5 := (frame_at2 (us := us) hl (show (lrT[93]?).join = some 5 from rfl)).trans e5
      have hsc := SC.out w'
      generalize frame lrT a0 us = fr at *
      exact val_C (v := .slice B2 m d2) (w' := w') (by go_simp) (Below.refl _ _) rfl
    · refine stepF_early 0 0 (.inl rfl) (.inr ⟨_, _, rfl, rfl, by kernel_rfl⟩) [0, 1, 6] (by kernel_rfl) (by decide) (by decide) rfl fun us w' k hB hG hV hk hR => ?_
      have e0 : us 0 = .agg CO := hV 0 (by simp)
      have v0 := (frame_at2 (us := us) hl (show (lrT[88]?).join = some 0 from rfl)).trans e0
      have e1 : us 1 = .int .u8 (kn : Int) := hV 1 (by simp)
      have v1 := (frame_at2 (us := us) hl (show (lrT[89]?).join = some 1 from rfl)).trans e1
      have e6 : us 6 = .slice B2 m d2 := hV 6 (by simp)
      have v6 := (frame_at2 (us := us) hl (show (lrT[94]?).join = some 6 from rfl)).trans e6
      have hR0 : lrR w o A' n' c' (ms.set kn true) o2 0 us w' := by
        obtain ⟨h1, h2⟩ := hk
        match k, h1, h2, hR with
        | 0, _, _, hR => exact hR
      obtain ⟨⟨hrow, hsk⟩, -, -, hsz⟩ := hR0
      generalize frame lrT a0 us = fr at *
      exact call_C (f := 84) (args := #[.agg CO, .int .u8 (kn : Int), .slice B2 m d2]) (by go_simp) ((WA.out w' hG.1 hsk hsz).mono fun e w'' ⟨A2, n2, c2, q1, q2, q3⟩ => ⟨_, q1, q3, A2, n2, c2, rfl, q2⟩)
    · refine stepF_chain 0 rfl (by decide) [7] (by kernel_rfl) (by decide) rfl fun us w' hB hG hV hR => ?_
      obtain ⟨A7, n7, c7, e7, s7⟩ := (show ∃ A2 n2 c2, us 7 = .agg (optV o2 A2 n2 c2) ∧ Sk w' (w.heap.size + 3) o2 A2 n2 c2 from hV 7 (by simp))
      have v7 := (frame_at2 (us := us) hl (show (lrT[95]?).join = some 7 from rfl)).trans e7
      have o4 := (frame_old2 (us := us) (a := a0) (show (lrT[4]?).join = none from rfl)).trans k4
      generalize frame lrT a0 us = fr at *
      obtain ⟨⟨r1, r2⟩, r3, r4, r5⟩ := (show (OptAt w' (w.heap.size + 1) o A' n' c' ∧ Sk w' (w.heap.size + 3) o A' n' c') ∧ OptAt w' w.heap.size zOpt none 0 0 ∧ w'.heap[w.heap.size + 2]? = some (.cells (metV (ms.set kn true)) 116 (0, 0)) ∧ w.heap.size + 3 ≤ w'.heap.size from hR)
      exact store_J (R := fun v w'' => (OnlyAt (w.heap.size + 1) w' w'' ∧ Below (w.heap.size + 1) w' w'') ∧ lrR w o A' n' c' (ms.set kn true) o2 1 (upd us 8 v) w'') 31 4 95 rfl (w.heap.size + 1) (optV o2 A7 n7 c7) o4 v7 _ _ r1 (optC s7.mac A7 n7 c7).info ((optC r2.mac A' n' c').size.trans (optC s7.mac A7 n7 c7).size.symm) (opt_one _ _ _ _) ⟨⟨OnlyAt.setRow _ _ _, (OnlyAt.setRow _ _ _).1⟩, ⟨A7, n7, c7, setRow_heap _ _ _ _ _ _ r1, s7.only (fun k hk => setRow_other _ _ _ _ hk) (by omega)⟩, (by unfold OptAt; rw [setRow_other _ _ _ _ (by omega)]; exact r3), (by rw [setRow_other _ _ _ _ (by omega)]; exact r4), by simpa using r5⟩
    · intro us w6 hB2 hG hV hR
      obtain ⟨⟨A6, n6, c6, r1, r2⟩, r3, r4, r5⟩ := (show (∃ A2 n2 c2, OptAt w6 (w.heap.size + 1) o2 A2 n2 c2 ∧ Sk w6 (w.heap.size + 3) o2 A2 n2 c2) ∧ OptAt w6 w.heap.size zOpt none 0 0 ∧ w6.heap[w.heap.size + 2]? = some (.cells (metV (ms.set kn true)) 116 (0, 0)) ∧ w.heap.size + 3 ≤ w6.heap.size from hR)
      have H1 := Lib.hid r1
      have H2 := Lib.hid r2
      have H3 := Lib.hid r3
      have H4 := Lib.hid r4
      have HG6 := Lib.hid hG.1
      have r5 := Lib.hid r5
      have k1 := K1.out w6 hG.1
      subst ha0
      simp only [frame, lrT, fill]
      clear hV hG hl k0 k4 k6 r1 r2 r3 r4 hR SC
      go_wp2_with fail
      have LN := LSTEP.out w6 A6 n6 c6 H1.out H2.out H3.out H4.out HG6.out
      go_roundw
      case rel => exact ⟨_, _, _, t.drop m, o2, A6, n6, c6, ms.set kn true, rfl, LN, r5.out⟩
      case measure => simp only [lenOfV]; have := HNN.out; omega
end Go.Proofs.YtniimgbljhmcoaaDoor.opC
