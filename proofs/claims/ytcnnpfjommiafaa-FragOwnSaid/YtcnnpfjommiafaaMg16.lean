/-
  1 texts of a proof, joined.
-/
import Derived.Test.YtcnnpfjommiafaaMg14
import Derived.Test.YtcnnpfjommiafaaMg15
import Derived.Test.YtcnnpfjommiafaaMg12

/-
  Whether one of two pieces is enough, and whether no packet has both.
-/
namespace Go.Proofs.Ytcnnpfjommiafaa.fgC
open Go.ChangeShapes Go.WideShapes Go.ChangeAt Go.RowKit
open Go.Proofs.Ytcnnpfjommiafaa.memC Go.Proofs.Ytcnnpfjommiafaa.genC Go.Proofs.Ytcnnpfjommiafaa.butC Go.Proofs.Ytcnnpfjommiafaa.freeC Go.Proofs.Ytcnnpfjommiafaa.adC
open Go.Proofs.Ytcnnpfjommiafaa.pkC (Pkt pktL pktV pktT adrC)
set_option linter.unusedVariables false
/-- both, as the program has it -/
def clashP (a b : Pc) : Bool := (decide (a.1.off < endP b) && decide (b.1.off < endP a)) || ((!a.1.more && decide (endP b > endP a)) || (!b.1.more && decide (endP a > endP b)))
/-- two packets in memory, one behind the other -/
theorem two_rows (w : World) (CA CB : Array Value) (T U : TypeId) : ((w.alloc (.cells CA T)).alloc (.cells CB U)).heap[w.heap.size]? = some (.cells CA T (0, 0)) ∧ ((w.alloc (.cells CA T)).alloc (.cells CB U)).heap[w.heap.size + 1]? = some (.cells CB U (0, 0)) := by
  constructor
  · rw [(alloc_below (w.alloc (.cells CA T)) (.cells CB U)).block w.heap.size (by simp)]
    exact heap_alloc_new _ _
  · have := heap_alloc_new (w.alloc (.cells CA T)) (.cells CB U)
    simpa using this
theorem off_i64 {p : Pkt} (h : p.Ok) : -9223372036854775808 ≤ p.off ∧ p.off ≤ 9223372036854775807 := h.off
set_option maxRecDepth 100000 in
set_option maxHeartbeats 4000000 in
theorem again_any (a b : Pe) (w : World) (ha : a.p.Ok) (hb : b.p.Ok) (la : a.x.length = a.n) (lb : b.x.length = b.n) :
    Calls Try.prog 43 #[.agg (pktV a.p a.A a.n a.c), .agg (pktV b.p b.A b.n b.c)] w (Ret w (.bool (dupP b.pc a.pc))) := by
  obtain ⟨W, hW⟩ : ∃ W, W = (w.alloc (.cells (pktV a.p a.A a.n a.c) 28)).alloc (.cells (pktV b.p b.A b.n b.c) 28) := ⟨_, rfl⟩
  have R0 := Lib.hid (show W.heap[w.heap.size]? = some (.cells (pktV a.p a.A a.n a.c) 28 (0, 0)) by rw [hW]; exact (two_rows w _ _ _ _).1)
  have R1 := Lib.hid (show W.heap[w.heap.size + 1]? = some (.cells (pktV b.p b.A b.n b.c) 28 (0, 0)) by rw [hW]; exact (two_rows w _ _ _ _).2)
  have HB := Lib.hid (show Below w.heap.size w W by rw [hW]; exact (alloc_below _ _).trans ((alloc_below _ _).mono (alloc_below _ _).size))
  have pa0 := pkC.PkC.cell R0.out (pkC.pkC ha a.A a.n a.c).off
  have pa1 := pkC.PkC.cell R0.out (pkC.pkC ha a.A a.n a.c).load
  have pa2 := pkC.PkC.cell R0.out (pkC.pkC ha a.A a.n a.c).more
  have pb0 := pkC.PkC.cell R1.out (pkC.pkC hb b.A b.n b.c).off
  have pb1 := pkC.PkC.cell R1.out (pkC.pkC hb b.A b.n b.c).load
  have pb2 := pkC.PkC.cell R1.out (pkC.pkC hb b.A b.n b.c).more
  obtain ⟨V, hV⟩ : ∃ V, V = dupP b.pc a.pc := ⟨_, rfl⟩
  rw [← hV]
  have HV := Lib.hid (show V = (decide (a.p.off = b.p.off) && (decide ((a.n : Int) = (b.n : Int)) && (a.p.more == b.p.more))) by
    rw [hV]
    unfold dupP Pe.pc
    simp only [la, lb]
    congr 2
    exact decide_eq_decide.2 (by omega))
  generalize pktV a.p a.A a.n a.c = CA at *
  generalize pktV b.p b.A b.n b.c = CB at *
  generalize a.p.off = oa at *
  generalize b.p.off = ob at *
  generalize a.p.more = ma at *
  generalize b.p.more = mb at *
  generalize a.A = AA at *
  generalize b.A = AB at *
  generalize a.n = na at *
  generalize b.n = nb at *
  generalize a.c = ca at *
  generalize b.c = cb at *
  clear ha hb hV la lb
  by_cases h0 : oa = ob
  rotate_left
  · have q : (oa == ob) = false := beq_eq_false_iff_ne.2 h0
    have hv := Lib.hid (show V = false by rw [HV.out, decide_eq_false h0]; rfl)
    clear HV h0
    go_enter Try.func43, Try.ntmps43
    go_upto_region 1 with fail
    rw [← hW]
    clear hW R0 R1
    go_wp2_with (first | go_skip)
    go_ret
    exact ⟨ret_bool hv.out.symm, HB.out⟩
  by_cases h1 : (na : Int) = (nb : Int)
  rotate_left
  · have q : (oa == ob) = true := beq_iff_eq.2 h0
    have q1 : ((na : Int) == (nb : Int)) = false := beq_eq_false_iff_ne.2 h1
    have hv := Lib.hid (show V = false by rw [HV.out, decide_eq_true h0, decide_eq_false h1]; rfl)
    clear HV h0 h1
    go_enter Try.func43, Try.ntmps43
    go_upto_region 1 with fail
    rw [← hW]
    clear hW R0 R1
    go_wp2_with (first | go_skip)
    go_ret
    exact ⟨ret_bool hv.out.symm, HB.out⟩
  · have q : (oa == ob) = true := beq_iff_eq.2 h0
    have q1 : ((na : Int) == (nb : Int)) = true := beq_iff_eq.2 h1
    have hv := Lib.hid (show V = (ma == mb) by rw [HV.out, decide_eq_true h0, decide_eq_true h1]; rfl)
    clear HV h0 h1
    go_enter Try.func43, Try.ntmps43
    go_upto_region 1 with fail
    rw [← hW]
    clear hW R0 R1
    go_wp2_with (first | go_skip)
    go_ret
    exact ⟨ret_bool hv.out.symm, HB.out⟩
section
variable {P : Program} {L : List Oper} {Q : Exit → Act → World → Prop} {o : Oper} {a : Act} {tab : List (Option Nat)} {G : World → Prop} {V : Nat → Value → World → Prop} {i : Nat}
theorem yield_undefF {L : List Oper} {tab : List (Option Nat)} {a : Act} {us : Nat → Value} {j t : Nat} (hl : tab.length = a.tmps.size) (hj : (L[j]?).bind (·.dst) = some t) (ht : (tab[t]?).join = some j) (hv : us j = undef) :
    yielded L.toArray (frame tab a us).tmps j = none := by
  have h := frame_get (us := us) hl ht
  have h2 : (L.toArray[j]?).bind (·.dst) = some t := by rw [List.getElem?_toArray]; exact hj
  unfold yielded
  rw [h2]
  simp only [Option.bind_some, h, hv]
  rfl
theorem step_skip (need : List Nat) (hn : needs o need = true) {j t : Nat} {b : Bool} (hg : o.guard = some (j, b)) (hj : j ∈ need) (hL : (L[j]?).bind (·.dst) = some t) (hl : tab.length = a.tmps.size) (ht : (tab[t]?).join = some j)
    (hv : ∀ v w, V j v w → v = .bool (!b) ∨ v = undef) (hu : ∀ w, V i undef w) : Step P L Q tab a G V i o := by
  intro m us w hG hV hd
  rcases hv _ _ (hV j (need_ok hn hd j hj)) with h | h
  · have hy := yield_at (L := L) (us := us) hl hL ht h
    rw [if_neg (by simp [Region.wanted, hg, hy])]
    exact hu w
  · have hy := yield_undefF (L := L) (us := us) hl hL ht h
    rw [if_neg (by simp [Region.wanted, hg, hy])]
    exact hu w
end
def caV (ga gb : Nat) (CA CB : Array Value) (oa ob ea eb : Int) : Nat → Value → World → Prop
  | 0, v, _ => v = .pointer (some ⟨ga, 39, none⟩)
  | 1, v, _ => v = .int .i64 oa
  | 2, v, _ => v = .agg CB
  | 3, v, _ => v = .int .i64 eb
  | 4, v, _ => v = .bool false
  | 5, v, _ => v = .bool false
  | 6, v, _ => v = undef
  | 7, v, _ => v = undef
  | 8, v, _ => v = undef
  | 9, v, _ => v = undef
  | 10, v, _ => v = undef
  | 11, v, _ => v = .bool false
  | 12, v, _ => v = .bool false
  | _, _, _ => True
theorem caV.keep (ga gb : Nat) (CA CB : Array Value) (oa ob ea eb : Int) (i : Nat) (v : Value) (w w' : World) (hb : Below w.heap.size w w') (h : caV ga gb CA CB oa ob ea eb i v w) : caV ga gb CA CB oa ob ea eb i v w' := by
  unfold caV at h ⊢
  split at h <;> exact h
def caT : List (Option Nat) := [none, none, none, none, none, some 12, some 0, some 1, some 2, some 3, some 4, some 5, some 6, some 7, some 8, some 9, some 10, some 11, none, none, none, none, none, none, none, none, none, none, none, none, none, none, none, none, none, none, none, none, none, none, none, none, none]
def cbV (ga gb : Nat) (CA CB : Array Value) (oa ob ea eb : Int) : Nat → Value → World → Prop
  | 0, v, _ => v = .pointer (some ⟨ga, 39, none⟩)
  | 1, v, _ => v = .int .i64 oa
  | 2, v, _ => v = .agg CB
  | 3, v, _ => v = .int .i64 eb
  | 4, v, _ => v = .bool true
  | 5, v, _ => v = .bool true
  | 6, v, _ => v = .pointer (some ⟨gb, 39, none⟩)
  | 7, v, _ => v = .int .i64 ob
  | 8, v, _ => v = .agg CA
  | 9, v, _ => v = .int .i64 ea
  | 10, v, _ => v = .bool false
  | 11, v, _ => v = .bool false
  | 12, v, _ => v = .bool false
  | _, _, _ => True
theorem cbV.keep (ga gb : Nat) (CA CB : Array Value) (oa ob ea eb : Int) (i : Nat) (v : Value) (w w' : World) (hb : Below w.heap.size w w') (h : cbV ga gb CA CB oa ob ea eb i v w) : cbV ga gb CA CB oa ob ea eb i v w' := by
  unfold cbV at h ⊢
  split at h <;> exact h
def cbT : List (Option Nat) := [none, none, none, none, none, some 12, some 0, some 1, some 2, some 3, some 4, some 5, some 6, some 7, some 8, some 9, some 10, some 11, none, none, none, none, none, none, none, none, none, none, none, none, none, none, none, none, none, none, none, none, none, none, none, none, none]
def ccV (ga gb : Nat) (CA CB : Array Value) (oa ob ea eb : Int) : Nat → Value → World → Prop
  | 0, v, _ => v = .pointer (some ⟨ga, 39, none⟩)
  | 1, v, _ => v = .int .i64 oa
  | 2, v, _ => v = .agg CB
  | 3, v, _ => v = .int .i64 eb
  | 4, v, _ => v = .bool true
  | 5, v, _ => v = .bool true
  | 6, v, _ => v = .pointer (some ⟨gb, 39, none⟩)
  | 7, v, _ => v = .int .i64 ob
  | 8, v, _ => v = .agg CA
  | 9, v, _ => v = .int .i64 ea
  | 10, v, _ => v = .bool true
  | 11, v, _ => v = .bool true
  | 12, v, _ => v = .bool true
  | _, _, _ => True
theorem ccV.keep (ga gb : Nat) (CA CB : Array Value) (oa ob ea eb : Int) (i : Nat) (v : Value) (w w' : World) (hb : Below w.heap.size w w') (h : ccV ga gb CA CB oa ob ea eb i v w) : ccV ga gb CA CB oa ob ea eb i v w' := by
  unfold ccV at h ⊢
  split at h <;> exact h
def ccT : List (Option Nat) := [none, none, none, none, none, some 12, some 0, some 1, some 2, some 3, some 4, some 5, some 6, some 7, some 8, some 9, some 10, some 11, none, none, none, none, none, none, none, none, none, none, none, none, none, none, none, none, none, none, none, none, none, none, none, none, none]
def daV (ga gb : Nat) (CA CB : Array Value) (oa ob ea eb : Int) : Nat → Value → World → Prop
  | 0, v, _ => v = .bool true
  | 1, v, _ => v = .bool true
  | 2, v, _ => v = undef
  | 3, v, _ => v = undef
  | 4, v, _ => v = undef
  | 5, v, _ => v = undef
  | 6, v, _ => v = undef
  | 7, v, _ => v = undef
  | 8, v, _ => v = undef
  | 9, v, _ => v = undef
  | 10, v, _ => v = undef
  | 11, v, _ => v = undef
  | 12, v, _ => v = .bool true
  | 13, v, _ => v = .bool true
  | 14, v, _ => v = undef
  | 15, v, _ => v = undef
  | 16, v, _ => v = undef
  | 17, v, _ => v = undef
  | 18, v, _ => v = undef
  | 19, v, _ => v = undef
  | 20, v, _ => v = undef
  | 21, v, _ => v = undef
  | 22, v, _ => v = undef
  | 23, v, _ => v = undef
  | 24, v, _ => v = .bool true
  | 25, v, _ => v = .bool true
  | _, _, _ => True
theorem daV.keep (ga gb : Nat) (CA CB : Array Value) (oa ob ea eb : Int) (i : Nat) (v : Value) (w w' : World) (hb : Below w.heap.size w w') (h : daV ga gb CA CB oa ob ea eb i v w) : daV ga gb CA CB oa ob ea eb i v w' := by
  unfold daV at h ⊢
  split at h <;> exact h
def daT : List (Option Nat) := [none, none, none, none, some 25, none, none, none, none, none, none, none, none, none, none, none, none, none, some 0, some 1, some 2, some 3, some 4, some 5, some 6, some 7, some 8, some 9, some 10, some 11, some 12, some 13, some 14, some 15, some 16, some 17, some 18, some 19, some 20, some 21, some 22, some 23, some 24]
def dbV (ga gb : Nat) (CA CB : Array Value) (oa ob ea eb : Int) : Nat → Value → World → Prop
  | 0, v, _ => v = .bool false
  | 1, v, _ => v = .bool false
  | 2, v, _ => v = .pointer (some ⟨ga, 38, none⟩)
  | 3, v, _ => v = .bool false
  | 4, v, _ => v = .bool true
  | 5, v, _ => v = .bool true
  | 6, v, _ => v = .agg CB
  | 7, v, _ => v = .int .i64 eb
  | 8, v, _ => v = .agg CA
  | 9, v, _ => v = .int .i64 ea
  | 10, v, _ => v = .bool true
  | 11, v, _ => v = .bool true
  | 12, v, _ => v = .bool true
  | 13, v, _ => v = .bool true
  | 14, v, _ => v = undef
  | 15, v, _ => v = undef
  | 16, v, _ => v = undef
  | 17, v, _ => v = undef
  | 18, v, _ => v = undef
  | 19, v, _ => v = undef
  | 20, v, _ => v = undef
  | 21, v, _ => v = undef
  | 22, v, _ => v = undef
  | 23, v, _ => v = undef
  | 24, v, _ => v = .bool true
  | 25, v, _ => v = .bool true
  | _, _, _ => True
theorem dbV.keep (ga gb : Nat) (CA CB : Array Value) (oa ob ea eb : Int) (i : Nat) (v : Value) (w w' : World) (hb : Below w.heap.size w w') (h : dbV ga gb CA CB oa ob ea eb i v w) : dbV ga gb CA CB oa ob ea eb i v w' := by
  unfold dbV at h ⊢
  split at h <;> exact h
def dbT : List (Option Nat) := [none, none, none, none, some 25, none, none, none, none, none, none, none, none, none, none, none, none, none, some 0, some 1, some 2, some 3, some 4, some 5, some 6, some 7, some 8, some 9, some 10, some 11, some 12, some 13, some 14, some 15, some 16, some 17, some 18, some 19, some 20, some 21, some 22, some 23, some 24]
def dcV (ga gb : Nat) (CA CB : Array Value) (oa ob ea eb : Int) : Nat → Value → World → Prop
  | 0, v, _ => v = .bool false
  | 1, v, _ => v = .bool false
  | 2, v, _ => v = .pointer (some ⟨ga, 38, none⟩)
  | 3, v, _ => v = .bool true
  | 4, v, _ => v = .bool false
  | 5, v, _ => v = .bool false
  | 6, v, _ => v = undef
  | 7, v, _ => v = undef
  | 8, v, _ => v = undef
  | 9, v, _ => v = undef
  | 10, v, _ => v = undef
  | 11, v, _ => v = .bool false
  | 12, v, _ => v = .bool false
  | 13, v, _ => v = .bool false
  | 14, v, _ => v = .pointer (some ⟨gb, 38, none⟩)
  | 15, v, _ => v = .bool true
  | 16, v, _ => v = .bool false
  | 17, v, _ => v = .bool false
  | 18, v, _ => v = undef
  | 19, v, _ => v = undef
  | 20, v, _ => v = undef
  | 21, v, _ => v = undef
  | 22, v, _ => v = undef
  | 23, v, _ => v = .bool false
  | 24, v, _ => v = .bool false
  | 25, v, _ => v = .bool false
  | _, _, _ => True
theorem dcV.keep (ga gb : Nat) (CA CB : Array Value) (oa ob ea eb : Int) (i : Nat) (v : Value) (w w' : World) (hb : Below w.heap.size w w') (h : dcV ga gb CA CB oa ob ea eb i v w) : dcV ga gb CA CB oa ob ea eb i v w' := by
  unfold dcV at h ⊢
  split at h <;> exact h
def dcT : List (Option Nat) := [none, none, none, none, some 25, none, none, none, none, none, none, none, none, none, none, none, none, none, some 0, some 1, some 2, some 3, some 4, some 5, some 6, some 7, some 8, some 9, some 10, some 11, some 12, some 13, some 14, some 15, some 16, some 17, some 18, some 19, some 20, some 21, some 22, some 23, some 24]
def ddV (ga gb : Nat) (CA CB : Array Value) (oa ob ea eb : Int) : Nat → Value → World → Prop
  | 0, v, _ => v = .bool false
  | 1, v, _ => v = .bool false
  | 2, v, _ => v = .pointer (some ⟨ga, 38, none⟩)
  | 3, v, _ => v = .bool true
  | 4, v, _ => v = .bool false
  | 5, v, _ => v = .bool false
  | 6, v, _ => v = undef
  | 7, v, _ => v = undef
  | 8, v, _ => v = undef
  | 9, v, _ => v = undef
  | 10, v, _ => v = undef
  | 11, v, _ => v = .bool false
  | 12, v, _ => v = .bool false
  | 13, v, _ => v = .bool false
  | 14, v, _ => v = .pointer (some ⟨gb, 38, none⟩)
  | 15, v, _ => v = .bool false
  | 16, v, _ => v = .bool true
  | 17, v, _ => v = .bool true
  | 18, v, _ => v = .agg CA
  | 19, v, _ => v = .int .i64 ea
  | 20, v, _ => v = .agg CB
  | 21, v, _ => v = .int .i64 eb
  | 22, v, _ => v = .bool false
  | 23, v, _ => v = .bool false
  | 24, v, _ => v = .bool false
  | 25, v, _ => v = .bool false
  | _, _, _ => True
theorem ddV.keep (ga gb : Nat) (CA CB : Array Value) (oa ob ea eb : Int) (i : Nat) (v : Value) (w w' : World) (hb : Below w.heap.size w w') (h : ddV ga gb CA CB oa ob ea eb i v w) : ddV ga gb CA CB oa ob ea eb i v w' := by
  unfold ddV at h ⊢
  split at h <;> exact h
def ddT : List (Option Nat) := [none, none, none, none, some 25, none, none, none, none, none, none, none, none, none, none, none, none, none, some 0, some 1, some 2, some 3, some 4, some 5, some 6, some 7, some 8, some 9, some 10, some 11, some 12, some 13, some 14, some 15, some 16, some 17, some 18, some 19, some 20, some 21, some 22, some 23, some 24]
def deV (ga gb : Nat) (CA CB : Array Value) (oa ob ea eb : Int) : Nat → Value → World → Prop
  | 0, v, _ => v = .bool false
  | 1, v, _ => v = .bool false
  | 2, v, _ => v = .pointer (some ⟨ga, 38, none⟩)
  | 3, v, _ => v = .bool true
  | 4, v, _ => v = .bool false
  | 5, v, _ => v = .bool false
  | 6, v, _ => v = undef
  | 7, v, _ => v = undef
  | 8, v, _ => v = undef
  | 9, v, _ => v = undef
  | 10, v, _ => v = undef
  | 11, v, _ => v = .bool false
  | 12, v, _ => v = .bool false
  | 13, v, _ => v = .bool false
  | 14, v, _ => v = .pointer (some ⟨gb, 38, none⟩)
  | 15, v, _ => v = .bool false
  | 16, v, _ => v = .bool true
  | 17, v, _ => v = .bool true
  | 18, v, _ => v = .agg CA
  | 19, v, _ => v = .int .i64 ea
  | 20, v, _ => v = .agg CB
  | 21, v, _ => v = .int .i64 eb
  | 22, v, _ => v = .bool true
  | 23, v, _ => v = .bool true
  | 24, v, _ => v = .bool true
  | 25, v, _ => v = .bool true
  | _, _, _ => True
theorem deV.keep (ga gb : Nat) (CA CB : Array Value) (oa ob ea eb : Int) (i : Nat) (v : Value) (w w' : World) (hb : Below w.heap.size w w') (h : deV ga gb CA CB oa ob ea eb i v w) : deV ga gb CA CB oa ob ea eb i v w' := by
  unfold deV at h ⊢
  split at h <;> exact h
def deT : List (Option Nat) := [none, none, none, none, some 25, none, none, none, none, none, none, none, none, none, none, none, none, none, some 0, some 1, some 2, some 3, some 4, some 5, some 6, some 7, some 8, some 9, some 10, some 11, some 12, some 13, some 14, some 15, some 16, some 17, some 18, some 19, some 20, some 21, some 22, some 23, some 24]
def dfV (ga gb : Nat) (CA CB : Array Value) (oa ob ea eb : Int) : Nat → Value → World → Prop
  | 0, v, _ => v = .bool false
  | 1, v, _ => v = .bool false
  | 2, v, _ => v = .pointer (some ⟨ga, 38, none⟩)
  | 3, v, _ => v = .bool false
  | 4, v, _ => v = .bool true
  | 5, v, _ => v = .bool true
  | 6, v, _ => v = .agg CB
  | 7, v, _ => v = .int .i64 eb
  | 8, v, _ => v = .agg CA
  | 9, v, _ => v = .int .i64 ea
  | 10, v, _ => v = .bool false
  | 11, v, _ => v = .bool false
  | 12, v, _ => v = .bool false
  | 13, v, _ => v = .bool false
  | 14, v, _ => v = .pointer (some ⟨gb, 38, none⟩)
  | 15, v, _ => v = .bool true
  | 16, v, _ => v = .bool false
  | 17, v, _ => v = .bool false
  | 18, v, _ => v = undef
  | 19, v, _ => v = undef
  | 20, v, _ => v = undef
  | 21, v, _ => v = undef
  | 22, v, _ => v = undef
  | 23, v, _ => v = .bool false
  | 24, v, _ => v = .bool false
  | 25, v, _ => v = .bool false
  | _, _, _ => True
theorem dfV.keep (ga gb : Nat) (CA CB : Array Value) (oa ob ea eb : Int) (i : Nat) (v : Value) (w w' : World) (hb : Below w.heap.size w w') (h : dfV ga gb CA CB oa ob ea eb i v w) : dfV ga gb CA CB oa ob ea eb i v w' := by
  unfold dfV at h ⊢
  split at h <;> exact h
def dfT : List (Option Nat) := [none, none, none, none, some 25, none, none, none, none, none, none, none, none, none, none, none, none, none, some 0, some 1, some 2, some 3, some 4, some 5, some 6, some 7, some 8, some 9, some 10, some 11, some 12, some 13, some 14, some 15, some 16, some 17, some 18, some 19, some 20, some 21, some 22, some 23, some 24]
def dgV (ga gb : Nat) (CA CB : Array Value) (oa ob ea eb : Int) : Nat → Value → World → Prop
  | 0, v, _ => v = .bool false
  | 1, v, _ => v = .bool false
  | 2, v, _ => v = .pointer (some ⟨ga, 38, none⟩)
  | 3, v, _ => v = .bool false
  | 4, v, _ => v = .bool true
  | 5, v, _ => v = .bool true
  | 6, v, _ => v = .agg CB
  | 7, v, _ => v = .int .i64 eb
  | 8, v, _ => v = .agg CA
  | 9, v, _ => v = .int .i64 ea
  | 10, v, _ => v = .bool false
  | 11, v, _ => v = .bool false
  | 12, v, _ => v = .bool false
  | 13, v, _ => v = .bool false
  | 14, v, _ => v = .pointer (some ⟨gb, 38, none⟩)
  | 15, v, _ => v = .bool false
  | 16, v, _ => v = .bool true
  | 17, v, _ => v = .bool true
  | 18, v, _ => v = .agg CA
  | 19, v, _ => v = .int .i64 ea
  | 20, v, _ => v = .agg CB
  | 21, v, _ => v = .int .i64 eb
  | 22, v, _ => v = .bool false
  | 23, v, _ => v = .bool false
  | 24, v, _ => v = .bool false
  | 25, v, _ => v = .bool false
  | _, _, _ => True
theorem dgV.keep (ga gb : Nat) (CA CB : Array Value) (oa ob ea eb : Int) (i : Nat) (v : Value) (w w' : World) (hb : Below w.heap.size w w') (h : dgV ga gb CA CB oa ob ea eb i v w) : dgV ga gb CA CB oa ob ea eb i v w' := by
  unfold dgV at h ⊢
  split at h <;> exact h
def dgT : List (Option Nat) := [none, none, none, none, some 25, none, none, none, none, none, none, none, none, none, none, none, none, none, some 0, some 1, some 2, some 3, some 4, some 5, some 6, some 7, some 8, some 9, some 10, some 11, some 12, some 13, some 14, some 15, some 16, some 17, some 18, some 19, some 20, some 21, some 22, some 23, some 24]
def dhV (ga gb : Nat) (CA CB : Array Value) (oa ob ea eb : Int) : Nat → Value → World → Prop
  | 0, v, _ => v = .bool false
  | 1, v, _ => v = .bool false
  | 2, v, _ => v = .pointer (some ⟨ga, 38, none⟩)
  | 3, v, _ => v = .bool false
  | 4, v, _ => v = .bool true
  | 5, v, _ => v = .bool true
  | 6, v, _ => v = .agg CB
  | 7, v, _ => v = .int .i64 eb
  | 8, v, _ => v = .agg CA
  | 9, v, _ => v = .int .i64 ea
  | 10, v, _ => v = .bool false
  | 11, v, _ => v = .bool false
  | 12, v, _ => v = .bool false
  | 13, v, _ => v = .bool false
  | 14, v, _ => v = .pointer (some ⟨gb, 38, none⟩)
  | 15, v, _ => v = .bool false
  | 16, v, _ => v = .bool true
  | 17, v, _ => v = .bool true
  | 18, v, _ => v = .agg CA
  | 19, v, _ => v = .int .i64 ea
  | 20, v, _ => v = .agg CB
  | 21, v, _ => v = .int .i64 eb
  | 22, v, _ => v = .bool true
  | 23, v, _ => v = .bool true
  | 24, v, _ => v = .bool true
  | 25, v, _ => v = .bool true
  | _, _, _ => True
theorem dhV.keep (ga gb : Nat) (CA CB : Array Value) (oa ob ea eb : Int) (i : Nat) (v : Value) (w w' : World) (hb : Below w.heap.size w w') (h : dhV ga gb CA CB oa ob ea eb i v w) : dhV ga gb CA CB oa ob ea eb i v w' := by
  unfold dhV at h ⊢
  split at h <;> exact h
def dhT : List (Option Nat) := [none, none, none, none, some 25, none, none, none, none, none, none, none, none, none, none, none, none, none, some 0, some 1, some 2, some 3, some 4, some 5, some 6, some 7, some 8, some 9, some 10, some 11, some 12, some 13, some 14, some 15, some 16, some 17, some 18, some 19, some 20, some 21, some 22, some 23, some 24]
set_option maxRecDepth 100000 in
set_option maxHeartbeats 16000000 in
theorem clash_any (a b : Pe) (w : World) (ha : a.p.Ok) (hb : b.p.Ok) (la : a.x.length = a.n) (lb : b.x.length = b.n)
    (ea1 : -9223372036854775808 ≤ a.p.off + (a.n : Int) ∧ a.p.off + (a.n : Int) ≤ 9223372036854775807) (eb1 : -9223372036854775808 ≤ b.p.off + (b.n : Int) ∧ b.p.off + (b.n : Int) ≤ 9223372036854775807) :
    Calls Try.prog 45 #[.agg (pktV a.p a.A a.n a.c), .agg (pktV b.p b.A b.n b.c)] w (Ret w (.bool (clashP a.pc b.pc))) := by
  obtain ⟨W, hW⟩ : ∃ W, W = (w.alloc (.cells (pktV a.p a.A a.n a.c) 28)).alloc (.cells (pktV b.p b.A b.n b.c) 28) := ⟨_, rfl⟩
  have R0 := Lib.hid (show W.heap[w.heap.size]? = some (.cells (pktV a.p a.A a.n a.c) 28 (0, 0)) by rw [hW]; exact (two_rows w _ _ _ _).1)
  have R1 := Lib.hid (show W.heap[w.heap.size + 1]? = some (.cells (pktV b.p b.A b.n b.c) 28 (0, 0)) by rw [hW]; exact (two_rows w _ _ _ _).2)
  have HB := Lib.hid (show Below w.heap.size w W by rw [hW]; exact (alloc_below _ _).trans ((alloc_below _ _).mono (alloc_below _ _).size))
  have RA := Lib.hid (fun w' (h : Gr W w') => h.row R0.out)
  have RB := Lib.hid (fun w' (h : Gr W w') => h.row R1.out)
  have IA := Lib.hid (pkt_info ha a.A a.n a.c)
  have IB := Lib.hid (pkt_info hb b.A b.n b.c)
  have A1 := Lib.hid (fun w' (h : Gr W w') => pkC.PkC.cell (RA.out w' h) (pkC.pkC ha a.A a.n a.c).off)
  have A2 := Lib.hid (fun w' (h : Gr W w') => pkC.PkC.cell (RA.out w' h) (pkC.pkC ha a.A a.n a.c).more)
  have B1 := Lib.hid (fun w' (h : Gr W w') => pkC.PkC.cell (RB.out w' h) (pkC.pkC hb b.A b.n b.c).off)
  have B2 := Lib.hid (fun w' (h : Gr W w') => pkC.PkC.cell (RB.out w' h) (pkC.pkC hb b.A b.n b.c).more)
  have EA := Lib.hid (fun w' => end_any a.p a.A a.n a.c w' ha ea1)
  have EB := Lib.hid (fun w' => end_any b.p b.A b.n b.c w' hb eb1)
  obtain ⟨V, hV⟩ : ∃ V, V = clashP a.pc b.pc := ⟨_, rfl⟩
  rw [← hV]
  obtain ⟨ea, hea⟩ : ∃ e, e = a.p.off + (a.n : Int) := ⟨_, rfl⟩
  obtain ⟨eb, heb⟩ : ∃ e, e = b.p.off + (b.n : Int) := ⟨_, rfl⟩
  rw [← hea] at EA
  rw [← heb] at EB
  have HV := Lib.hid (show V = ((decide (a.p.off < eb) && decide (b.p.off < ea)) || ((!a.p.more && decide (ea < eb)) || (!b.p.more && decide (eb < ea)))) by
    rw [hV, hea, heb]
    unfold clashP endP Pe.pc
    simp only [la, lb, gt_iff_lt])
  clear hea heb hV la lb ea1 eb1 ha hb
  generalize pktV a.p a.A a.n a.c = CA at *
  generalize pktV b.p b.A b.n b.c = CB at *
  generalize a.p.off = oa at *
  generalize b.p.off = ob at *
  obtain ⟨ma, hma⟩ : ∃ m, m = a.p.more := ⟨_, rfl⟩
  obtain ⟨mb, hmb⟩ : ∃ m, m = b.p.more := ⟨_, rfl⟩
  rw [← hma] at A2 HV
  rw [← hmb] at B2 HV
  clear hma hmb
  by_cases h1 : oa < eb
  rotate_left
  · cases ma
    rotate_left
    · cases mb
      rotate_left
      · have Q1 := Lib.hid h1
        have HVV := Lib.hid (show V = false by rw [HV.out]; simp [h1])
        clear HV h1
        go_enter Try.func45, Try.ntmps45
        go_upto_region 1 with fail
        rw [← hW]
        clear hW R0 R1
        refine with_act fun a0 ha0 => ?_
        have hl : caT.length = a0.tmps.size := by rw [ha0]; rfl
        have k2 : a0.tmps[2]?.getD undef = .pointer (some ⟨w.heap.size, 0, none⟩) := by rw [ha0]; rfl
        have k3 : a0.tmps[3]?.getD undef = .pointer (some ⟨(w.heap.size + 1), 0, none⟩) := by rw [ha0]; rfl
        refine wp_region_vals (by kernel_rfl) caT (by kernel_rfl) (by kernel_rfl) hl (fun i => undef) (by rw [ha0]; rfl) (Gr W) (caV w.heap.size (w.heap.size + 1) CA CB oa ob ea eb) (show Gr _ _ from (Below.refl _ _).drew) (caV.keep _ _ _ _ _ _ _ _) ⟨?_, ?_, ?_, ?_, ?_, ?_, ?_, ?_, ?_, ?_, ?_, ?_, ?_, trivial⟩ ?_
        · refine step_plain [] (by kernel_rfl) rfl fun us w' hG hV => ?_
          have o2 := (frame_old2 (us := us) (a := a0) (show (caT[2]?).join = none from rfl)).trans k2
          generalize frame caT a0 us = fr at *
          exact val_ok (v := .pointer (some ⟨w.heap.size, 39, none⟩)) (w' := w') (by go_simp) hG (Below.refl _ _) rfl
        · refine step_plain [0] (by kernel_rfl) rfl fun us w' hG hV => ?_
          have e0 : us 0 = .pointer (some ⟨w.heap.size, 39, none⟩) := hV 0 (by simp)
          have v0 := (frame_at2 (us := us) hl (show (caT[6]?).join = some 0 from rfl)).trans e0
          have hc := A1.out w' hG
          generalize frame caT a0 us = fr at *
          exact val_ok (v := .int .i64 oa) (w' := w') (by go_simp) hG (Below.refl _ _) rfl
        · refine step_plain [] (by kernel_rfl) rfl fun us w' hG hV => ?_
          have o3 := (frame_old2 (us := us) (a := a0) (show (caT[3]?).join = none from rfl)).trans k3
          have hg1 := (RB.out w' hG)
          generalize frame caT a0 us = fr at *
          exact load_ok 28 3 rfl ((w.heap.size + 1)) o3 _ _ (0, 0) _ hg1 Try.underlying28 rfl IB.out hG rfl
        · refine step_plain [2] (by kernel_rfl) rfl fun us w' hG hV => ?_
          have e2 : us 2 = .agg CB := hV 2 (by simp)
          have v2 := (frame_at2 (us := us) hl (show (caT[8]?).join = some 2 from rfl)).trans e2
          generalize frame caT a0 us = fr at *
          exact call_ok (f := 49) (args := #[.agg CB]) (by go_simp) ((EB.out w').mono fun e w'' h => ⟨_, h.1, hG.below h.2, h.2, rfl⟩)
        · refine step_plain [1, 3] (by kernel_rfl) rfl fun us w' hG hV => ?_
          have e1 : us 1 = .int .i64 oa := hV 1 (by simp)
          have v1 := (frame_at2 (us := us) hl (show (caT[7]?).join = some 1 from rfl)).trans e1
          have e3 : us 3 = .int .i64 eb := hV 3 (by simp)
          have v3 := (frame_at2 (us := us) hl (show (caT[9]?).join = some 3 from rfl)).trans e3
          have q := Q1.out
          generalize frame caT a0 us = fr at *
          exact val_ok (v := .bool false) (w' := w') (by go_simp) hG (Below.refl _ _) rfl
        · refine step_plain [4] (by kernel_rfl) rfl fun us w' hG hV => ?_
          have e4 : us 4 = .bool false := hV 4 (by simp)
          have v4 := (frame_at2 (us := us) hl (show (caT[10]?).join = some 4 from rfl)).trans e4
          generalize frame caT a0 us = fr at *
          exact val_ok (v := .bool false) (w' := w') (by go_simp) hG (Below.refl _ _) rfl
        · exact step_skip [5] (by kernel_rfl) (j := 5) (t := 11) (b := true) rfl (by simp) rfl hl rfl (fun v w h => .inl h) fun _ => rfl
        · exact step_skip [5] (by kernel_rfl) (j := 5) (t := 11) (b := true) rfl (by simp) rfl hl rfl (fun v w h => .inl h) fun _ => rfl
        · exact step_skip [5] (by kernel_rfl) (j := 5) (t := 11) (b := true) rfl (by simp) rfl hl rfl (fun v w h => .inl h) fun _ => rfl
        · exact step_skip [5] (by kernel_rfl) (j := 5) (t := 11) (b := true) rfl (by simp) rfl hl rfl (fun v w h => .inl h) fun _ => rfl
        · exact step_skip [5] (by kernel_rfl) (j := 5) (t := 11) (b := true) rfl (by simp) rfl hl rfl (fun v w h => .inl h) fun _ => rfl
        · refine step_plain [5] (by kernel_rfl) rfl fun us w' hG hV => ?_
          have e5 : us 5 = .bool false := hV 5 (by simp)
          have v5 := (frame_at2 (us := us) hl (show (caT[11]?).join = some 5 from rfl)).trans e5
          generalize frame caT a0 us = fr at *
          exact val_ok (v := .bool false) (w' := w') (by go_simp) hG (Below.refl _ _) rfl
        · refine step_plain [11] (by kernel_rfl) rfl fun us w' hG hV => ?_
          have e11 : us 11 = .bool false := hV 11 (by simp)
          have v11 := (frame_at2 (us := us) hl (show (caT[17]?).join = some 11 from rfl)).trans e11
          generalize frame caT a0 us = fr at *
          exact val_ok (v := .bool false) (w' := w') (by go_simp) hG (Below.refl _ _) rfl
        · intro us w5 hG hV
          have eL : us 12 = .bool false := hV 12 (by decide)
          subst ha0
          simp only [frame, caT, fill]
          rw [eL]
          have HG3 := Lib.hid hG
          clear hV hl hG k2 k3 eL
          go_upto_region 2 with fail
          refine with_act fun a0 ha0 => ?_
          have hl : dcT.length = a0.tmps.size := by rw [ha0]; rfl
          have k2 : a0.tmps[2]?.getD undef = .pointer (some ⟨w.heap.size, 0, none⟩) := by rw [ha0]; rfl
          have k3 : a0.tmps[3]?.getD undef = .pointer (some ⟨(w.heap.size + 1), 0, none⟩) := by rw [ha0]; rfl
          have k5 : a0.tmps[5]?.getD undef = .bool false := by rw [ha0]; rfl
          refine wp_region_vals (by kernel_rfl) dcT (by kernel_rfl) (by kernel_rfl) hl (fun i => if i = 25 then .bool false else a0.tmps[i + 18]?.getD undef) (by rw [ha0]; rfl) (Gr W) (dcV w.heap.size (w.heap.size + 1) CA CB oa ob ea eb) HG3.out.drew (dcV.keep _ _ _ _ _ _ _ _) ⟨?_, ?_, ?_, ?_, ?_, ?_, ?_, ?_, ?_, ?_, ?_, ?_, ?_, ?_, ?_, ?_, ?_, ?_, ?_, ?_, ?_, ?_, ?_, ?_, ?_, ?_, trivial⟩ ?_
          · refine step_plain [] (by kernel_rfl) rfl fun us w' hG hV => ?_
            have o5 := (frame_old2 (us := us) (a := a0) (show (dcT[5]?).join = none from rfl)).trans k5
            generalize frame dcT a0 us = fr at *
            exact val_ok (v := .bool false) (w' := w') (by go_simp) hG (Below.refl _ _) rfl
          · refine step_plain [0] (by kernel_rfl) rfl fun us w' hG hV => ?_
            have e0 : us 0 = .bool false := hV 0 (by simp)
            have v0 := (frame_at2 (us := us) hl (show (dcT[18]?).join = some 0 from rfl)).trans e0
            generalize frame dcT a0 us = fr at *
            exact val_ok (v := .bool false) (w' := w') (by go_simp) hG (Below.refl _ _) rfl
          · refine step_guard [1] (by kernel_rfl) (j := 1) (t := 19) (b := false) rfl (by simp) rfl hl rfl (fun v w h => h) fun us w' hG hV => ?_
            have o2 := (frame_old2 (us := us) (a := a0) (show (dcT[2]?).join = none from rfl)).trans k2
            generalize frame dcT a0 us = fr at *
            exact val_ok (v := .pointer (some ⟨w.heap.size, 38, none⟩)) (w' := w') (by go_simp) hG (Below.refl _ _) rfl
          · refine step_guard [1, 2] (by kernel_rfl) (j := 1) (t := 19) (b := false) rfl (by simp) rfl hl rfl (fun v w h => h) fun us w' hG hV => ?_
            have e2 : us 2 = .pointer (some ⟨w.heap.size, 38, none⟩) := hV 2 (by simp)
            have v2 := (frame_at2 (us := us) hl (show (dcT[20]?).join = some 2 from rfl)).trans e2
            have hc := A2.out w' hG
            generalize frame dcT a0 us = fr at *
            exact val_ok (v := .bool true) (w' := w') (by go_simp) hG (Below.refl _ _) rfl
          · refine step_guard [1, 3] (by kernel_rfl) (j := 1) (t := 19) (b := false) rfl (by simp) rfl hl rfl (fun v w h => h) fun us w' hG hV => ?_
            have e3 : us 3 = .bool true := hV 3 (by simp)
            have v3 := (frame_at2 (us := us) hl (show (dcT[21]?).join = some 3 from rfl)).trans e3
            generalize frame dcT a0 us = fr at *
            exact val_ok (v := .bool false) (w' := w') (by go_simp) hG (Below.refl _ _) rfl
          · refine step_guard [1, 4] (by kernel_rfl) (j := 1) (t := 19) (b := false) rfl (by simp) rfl hl rfl (fun v w h => h) fun us w' hG hV => ?_
            have e4 : us 4 = .bool false := hV 4 (by simp)
            have v4 := (frame_at2 (us := us) hl (show (dcT[22]?).join = some 4 from rfl)).trans e4
            generalize frame dcT a0 us = fr at *
            exact val_ok (v := .bool false) (w' := w') (by go_simp) hG (Below.refl _ _) rfl
          · exact step_skip [5] (by kernel_rfl) (j := 5) (t := 23) (b := true) rfl (by simp) rfl hl rfl (fun v w h => .inl h) fun _ => rfl
          · exact step_skip [5] (by kernel_rfl) (j := 5) (t := 23) (b := true) rfl (by simp) rfl hl rfl (fun v w h => .inl h) fun _ => rfl
          · exact step_skip [5] (by kernel_rfl) (j := 5) (t := 23) (b := true) rfl (by simp) rfl hl rfl (fun v w h => .inl h) fun _ => rfl
          · exact step_skip [5] (by kernel_rfl) (j := 5) (t := 23) (b := true) rfl (by simp) rfl hl rfl (fun v w h => .inl h) fun _ => rfl
          · exact step_skip [5] (by kernel_rfl) (j := 5) (t := 23) (b := true) rfl (by simp) rfl hl rfl (fun v w h => .inl h) fun _ => rfl
          · refine step_guard [1, 5] (by kernel_rfl) (j := 1) (t := 19) (b := false) rfl (by simp) rfl hl rfl (fun v w h => h) fun us w' hG hV => ?_
            have e5 : us 5 = .bool false := hV 5 (by simp)
            have v5 := (frame_at2 (us := us) hl (show (dcT[23]?).join = some 5 from rfl)).trans e5
            generalize frame dcT a0 us = fr at *
            exact val_ok (v := .bool false) (w' := w') (by go_simp) hG (Below.refl _ _) rfl
          · refine step_plain [1, 11] (by kernel_rfl) rfl fun us w' hG hV => ?_
            have e1 : us 1 = .bool false := hV 1 (by simp)
            have v1 := (frame_at2 (us := us) hl (show (dcT[19]?).join = some 1 from rfl)).trans e1
            have e11 : us 11 = .bool false := hV 11 (by simp)
            have v11 := (frame_at2 (us := us) hl (show (dcT[29]?).join = some 11 from rfl)).trans e11
            generalize frame dcT a0 us = fr at *
            exact val_ok (v := .bool false) (w' := w') (by go_simp) hG (Below.refl _ _) rfl
          · refine step_plain [12] (by kernel_rfl) rfl fun us w' hG hV => ?_
            have e12 : us 12 = .bool false := hV 12 (by simp)
            have v12 := (frame_at2 (us := us) hl (show (dcT[30]?).join = some 12 from rfl)).trans e12
            generalize frame dcT a0 us = fr at *
            exact val_ok (v := .bool false) (w' := w') (by go_simp) hG (Below.refl _ _) rfl
          · refine step_guard [13] (by kernel_rfl) (j := 13) (t := 31) (b := false) rfl (by simp) rfl hl rfl (fun v w h => h) fun us w' hG hV => ?_
            have o3 := (frame_old2 (us := us) (a := a0) (show (dcT[3]?).join = none from rfl)).trans k3
            generalize frame dcT a0 us = fr at *
            exact val_ok (v := .pointer (some ⟨(w.heap.size + 1), 38, none⟩)) (w' := w') (by go_simp) hG (Below.refl _ _) rfl
          · refine step_guard [13, 14] (by kernel_rfl) (j := 13) (t := 31) (b := false) rfl (by simp) rfl hl rfl (fun v w h => h) fun us w' hG hV => ?_
            have e14 : us 14 = .pointer (some ⟨(w.heap.size + 1), 38, none⟩) := hV 14 (by simp)
            have v14 := (frame_at2 (us := us) hl (show (dcT[32]?).join = some 14 from rfl)).trans e14
            have hc := B2.out w' hG
            generalize frame dcT a0 us = fr at *
            exact val_ok (v := .bool true) (w' := w') (by go_simp) hG (Below.refl _ _) rfl
          · refine step_guard [13, 15] (by kernel_rfl) (j := 13) (t := 31) (b := false) rfl (by simp) rfl hl rfl (fun v w h => h) fun us w' hG hV => ?_
            have e15 : us 15 = .bool true := hV 15 (by simp)
            have v15 := (frame_at2 (us := us) hl (show (dcT[33]?).join = some 15 from rfl)).trans e15
            generalize frame dcT a0 us = fr at *
            exact val_ok (v := .bool false) (w' := w') (by go_simp) hG (Below.refl _ _) rfl
          · refine step_guard [13, 16] (by kernel_rfl) (j := 13) (t := 31) (b := false) rfl (by simp) rfl hl rfl (fun v w h => h) fun us w' hG hV => ?_
            have e16 : us 16 = .bool false := hV 16 (by simp)
            have v16 := (frame_at2 (us := us) hl (show (dcT[34]?).join = some 16 from rfl)).trans e16
            generalize frame dcT a0 us = fr at *
            exact val_ok (v := .bool false) (w' := w') (by go_simp) hG (Below.refl _ _) rfl
          · exact step_skip [17] (by kernel_rfl) (j := 17) (t := 35) (b := true) rfl (by simp) rfl hl rfl (fun v w h => .inl h) fun _ => rfl
          · exact step_skip [17] (by kernel_rfl) (j := 17) (t := 35) (b := true) rfl (by simp) rfl hl rfl (fun v w h => .inl h) fun _ => rfl
          · exact step_skip [17] (by kernel_rfl) (j := 17) (t := 35) (b := true) rfl (by simp) rfl hl rfl (fun v w h => .inl h) fun _ => rfl
          · exact step_skip [17] (by kernel_rfl) (j := 17) (t := 35) (b := true) rfl (by simp) rfl hl rfl (fun v w h => .inl h) fun _ => rfl
          · exact step_skip [17] (by kernel_rfl) (j := 17) (t := 35) (b := true) rfl (by simp) rfl hl rfl (fun v w h => .inl h) fun _ => rfl
          · refine step_guard [13, 17] (by kernel_rfl) (j := 13) (t := 31) (b := false) rfl (by simp) rfl hl rfl (fun v w h => h) fun us w' hG hV => ?_
            have e17 : us 17 = .bool false := hV 17 (by simp)
            have v17 := (frame_at2 (us := us) hl (show (dcT[35]?).join = some 17 from rfl)).trans e17
            generalize frame dcT a0 us = fr at *
            exact val_ok (v := .bool false) (w' := w') (by go_simp) hG (Below.refl _ _) rfl
          · refine step_plain [13, 23] (by kernel_rfl) rfl fun us w' hG hV => ?_
            have e13 : us 13 = .bool false := hV 13 (by simp)
            have v13 := (frame_at2 (us := us) hl (show (dcT[31]?).join = some 13 from rfl)).trans e13
            have e23 : us 23 = .bool false := hV 23 (by simp)
            have v23 := (frame_at2 (us := us) hl (show (dcT[41]?).join = some 23 from rfl)).trans e23
            generalize frame dcT a0 us = fr at *
            exact val_ok (v := .bool false) (w' := w') (by go_simp) hG (Below.refl _ _) rfl
          · refine step_plain [24] (by kernel_rfl) rfl fun us w' hG hV => ?_
            have e24 : us 24 = .bool false := hV 24 (by simp)
            have v24 := (frame_at2 (us := us) hl (show (dcT[42]?).join = some 24 from rfl)).trans e24
            generalize frame dcT a0 us = fr at *
            exact val_ok (v := .bool false) (w' := w') (by go_simp) hG (Below.refl _ _) rfl
          · intro us w7 hG hV
            have eL : us 25 = .bool false := hV 25 (by decide)
            subst ha0
            simp only [frame, dcT, fill]
            rw [eL]
            have HG4 := Lib.hid hG
            clear hV hl hG k2 k3 k5 eL
            go_wp2_with fail
            go_ret
            exact ⟨ret_bool HVV.out.symm, HB.out.trans (Below.mono HG4.out HB.out.size)⟩
      · by_cases h5 : eb < ea
        · have Q1 := Lib.hid h1
          have Q5 := Lib.hid h5
          have HVV := Lib.hid (show V = true by rw [HV.out]; simp [h1, h5])
          clear HV h1 h5
          go_enter Try.func45, Try.ntmps45
          go_upto_region 1 with fail
          rw [← hW]
          clear hW R0 R1
          refine with_act fun a0 ha0 => ?_
          have hl : caT.length = a0.tmps.size := by rw [ha0]; rfl
          have k2 : a0.tmps[2]?.getD undef = .pointer (some ⟨w.heap.size, 0, none⟩) := by rw [ha0]; rfl
          have k3 : a0.tmps[3]?.getD undef = .pointer (some ⟨(w.heap.size + 1), 0, none⟩) := by rw [ha0]; rfl
          refine wp_region_vals (by kernel_rfl) caT (by kernel_rfl) (by kernel_rfl) hl (fun i => undef) (by rw [ha0]; rfl) (Gr W) (caV w.heap.size (w.heap.size + 1) CA CB oa ob ea eb) (show Gr _ _ from (Below.refl _ _).drew) (caV.keep _ _ _ _ _ _ _ _) ⟨?_, ?_, ?_, ?_, ?_, ?_, ?_, ?_, ?_, ?_, ?_, ?_, ?_, trivial⟩ ?_
          · refine step_plain [] (by kernel_rfl) rfl fun us w' hG hV => ?_
            have o2 := (frame_old2 (us := us) (a := a0) (show (caT[2]?).join = none from rfl)).trans k2
            generalize frame caT a0 us = fr at *
            exact val_ok (v := .pointer (some ⟨w.heap.size, 39, none⟩)) (w' := w') (by go_simp) hG (Below.refl _ _) rfl
          · refine step_plain [0] (by kernel_rfl) rfl fun us w' hG hV => ?_
            have e0 : us 0 = .pointer (some ⟨w.heap.size, 39, none⟩) := hV 0 (by simp)
            have v0 := (frame_at2 (us := us) hl (show (caT[6]?).join = some 0 from rfl)).trans e0
            have hc := A1.out w' hG
            generalize frame caT a0 us = fr at *
            exact val_ok (v := .int .i64 oa) (w' := w') (by go_simp) hG (Below.refl _ _) rfl
          · refine step_plain [] (by kernel_rfl) rfl fun us w' hG hV => ?_
            have o3 := (frame_old2 (us := us) (a := a0) (show (caT[3]?).join = none from rfl)).trans k3
            have hg1 := (RB.out w' hG)
            generalize frame caT a0 us = fr at *
            exact load_ok 28 3 rfl ((w.heap.size + 1)) o3 _ _ (0, 0) _ hg1 Try.underlying28 rfl IB.out hG rfl
          · refine step_plain [2] (by kernel_rfl) rfl fun us w' hG hV => ?_
            have e2 : us 2 = .agg CB := hV 2 (by simp)
            have v2 := (frame_at2 (us := us) hl (show (caT[8]?).join = some 2 from rfl)).trans e2
            generalize frame caT a0 us = fr at *
            exact call_ok (f := 49) (args := #[.agg CB]) (by go_simp) ((EB.out w').mono fun e w'' h => ⟨_, h.1, hG.below h.2, h.2, rfl⟩)
          · refine step_plain [1, 3] (by kernel_rfl) rfl fun us w' hG hV => ?_
            have e1 : us 1 = .int .i64 oa := hV 1 (by simp)
            have v1 := (frame_at2 (us := us) hl (show (caT[7]?).join = some 1 from rfl)).trans e1
            have e3 : us 3 = .int .i64 eb := hV 3 (by simp)
            have v3 := (frame_at2 (us := us) hl (show (caT[9]?).join = some 3 from rfl)).trans e3
            have q := Q1.out
            generalize frame caT a0 us = fr at *
            exact val_ok (v := .bool false) (w' := w') (by go_simp) hG (Below.refl _ _) rfl
          · refine step_plain [4] (by kernel_rfl) rfl fun us w' hG hV => ?_
            have e4 : us 4 = .bool false := hV 4 (by simp)
            have v4 := (frame_at2 (us := us) hl (show (caT[10]?).join = some 4 from rfl)).trans e4
            generalize frame caT a0 us = fr at *
            exact val_ok (v := .bool false) (w' := w') (by go_simp) hG (Below.refl _ _) rfl
          · exact step_skip [5] (by kernel_rfl) (j := 5) (t := 11) (b := true) rfl (by simp) rfl hl rfl (fun v w h => .inl h) fun _ => rfl
          · exact step_skip [5] (by kernel_rfl) (j := 5) (t := 11) (b := true) rfl (by simp) rfl hl rfl (fun v w h => .inl h) fun _ => rfl
          · exact step_skip [5] (by kernel_rfl) (j := 5) (t := 11) (b := true) rfl (by simp) rfl hl rfl (fun v w h => .inl h) fun _ => rfl
          · exact step_skip [5] (by kernel_rfl) (j := 5) (t := 11) (b := true) rfl (by simp) rfl hl rfl (fun v w h => .inl h) fun _ => rfl
          · exact step_skip [5] (by kernel_rfl) (j := 5) (t := 11) (b := true) rfl (by simp) rfl hl rfl (fun v w h => .inl h) fun _ => rfl
          · refine step_plain [5] (by kernel_rfl) rfl fun us w' hG hV => ?_
            have e5 : us 5 = .bool false := hV 5 (by simp)
            have v5 := (frame_at2 (us := us) hl (show (caT[11]?).join = some 5 from rfl)).trans e5
            generalize frame caT a0 us = fr at *
            exact val_ok (v := .bool false) (w' := w') (by go_simp) hG (Below.refl _ _) rfl
          · refine step_plain [11] (by kernel_rfl) rfl fun us w' hG hV => ?_
            have e11 : us 11 = .bool false := hV 11 (by simp)
            have v11 := (frame_at2 (us := us) hl (show (caT[17]?).join = some 11 from rfl)).trans e11
            generalize frame caT a0 us = fr at *
            exact val_ok (v := .bool false) (w' := w') (by go_simp) hG (Below.refl _ _) rfl
          · intro us w5 hG hV
            have eL : us 12 = .bool false := hV 12 (by decide)
            subst ha0
            simp only [frame, caT, fill]
            rw [eL]
            have HG3 := Lib.hid hG
            clear hV hl hG k2 k3 eL
            go_upto_region 2 with fail
            refine with_act fun a0 ha0 => ?_
            have hl : deT.length = a0.tmps.size := by rw [ha0]; rfl
            have k2 : a0.tmps[2]?.getD undef = .pointer (some ⟨w.heap.size, 0, none⟩) := by rw [ha0]; rfl
            have k3 : a0.tmps[3]?.getD undef = .pointer (some ⟨(w.heap.size + 1), 0, none⟩) := by rw [ha0]; rfl
            have k5 : a0.tmps[5]?.getD undef = .bool false := by rw [ha0]; rfl
            refine wp_region_vals (by kernel_rfl) deT (by kernel_rfl) (by kernel_rfl) hl (fun i => if i = 25 then .bool false else a0.tmps[i + 18]?.getD undef) (by rw [ha0]; rfl) (Gr W) (deV w.heap.size (w.heap.size + 1) CA CB oa ob ea eb) HG3.out.drew (deV.keep _ _ _ _ _ _ _ _) ⟨?_, ?_, ?_, ?_, ?_, ?_, ?_, ?_, ?_, ?_, ?_, ?_, ?_, ?_, ?_, ?_, ?_, ?_, ?_, ?_, ?_, ?_, ?_, ?_, ?_, ?_, trivial⟩ ?_
            · refine step_plain [] (by kernel_rfl) rfl fun us w' hG hV => ?_
              have o5 := (frame_old2 (us := us) (a := a0) (show (deT[5]?).join = none from rfl)).trans k5
              generalize frame deT a0 us = fr at *
              exact val_ok (v := .bool false) (w' := w') (by go_simp) hG (Below.refl _ _) rfl
            · refine step_plain [0] (by kernel_rfl) rfl fun us w' hG hV => ?_
              have e0 : us 0 = .bool false := hV 0 (by simp)
              have v0 := (frame_at2 (us := us) hl (show (deT[18]?).join = some 0 from rfl)).trans e0
              generalize frame deT a0 us = fr at *
              exact val_ok (v := .bool false) (w' := w') (by go_simp) hG (Below.refl _ _) rfl
            · refine step_guard [1] (by kernel_rfl) (j := 1) (t := 19) (b := false) rfl (by simp) rfl hl rfl (fun v w h => h) fun us w' hG hV => ?_
              have o2 := (frame_old2 (us := us) (a := a0) (show (deT[2]?).join = none from rfl)).trans k2
              generalize frame deT a0 us = fr at *
              exact val_ok (v := .pointer (some ⟨w.heap.size, 38, none⟩)) (w' := w') (by go_simp) hG (Below.refl _ _) rfl
            · refine step_guard [1, 2] (by kernel_rfl) (j := 1) (t := 19) (b := false) rfl (by simp) rfl hl rfl (fun v w h => h) fun us w' hG hV => ?_
              have e2 : us 2 = .pointer (some ⟨w.heap.size, 38, none⟩) := hV 2 (by simp)
              have v2 := (frame_at2 (us := us) hl (show (deT[20]?).join = some 2 from rfl)).trans e2
              have hc := A2.out w' hG
              generalize frame deT a0 us = fr at *
              exact val_ok (v := .bool true) (w' := w') (by go_simp) hG (Below.refl _ _) rfl
            · refine step_guard [1, 3] (by kernel_rfl) (j := 1) (t := 19) (b := false) rfl (by simp) rfl hl rfl (fun v w h => h) fun us w' hG hV => ?_
              have e3 : us 3 = .bool true := hV 3 (by simp)
              have v3 := (frame_at2 (us := us) hl (show (deT[21]?).join = some 3 from rfl)).trans e3
              generalize frame deT a0 us = fr at *
              exact val_ok (v := .bool false) (w' := w') (by go_simp) hG (Below.refl _ _) rfl
            · refine step_guard [1, 4] (by kernel_rfl) (j := 1) (t := 19) (b := false) rfl (by simp) rfl hl rfl (fun v w h => h) fun us w' hG hV => ?_
              have e4 : us 4 = .bool false := hV 4 (by simp)
              have v4 := (frame_at2 (us := us) hl (show (deT[22]?).join = some 4 from rfl)).trans e4
              generalize frame deT a0 us = fr at *
              exact val_ok (v := .bool false) (w' := w') (by go_simp) hG (Below.refl _ _) rfl
            · exact step_skip [5] (by kernel_rfl) (j := 5) (t := 23) (b := true) rfl (by simp) rfl hl rfl (fun v w h => .inl h) fun _ => rfl
            · exact step_skip [5] (by kernel_rfl) (j := 5) (t := 23) (b := true) rfl (by simp) rfl hl rfl (fun v w h => .inl h) fun _ => rfl
            · exact step_skip [5] (by kernel_rfl) (j := 5) (t := 23) (b := true) rfl (by simp) rfl hl rfl (fun v w h => .inl h) fun _ => rfl
            · exact step_skip [5] (by kernel_rfl) (j := 5) (t := 23) (b := true) rfl (by simp) rfl hl rfl (fun v w h => .inl h) fun _ => rfl
            · exact step_skip [5] (by kernel_rfl) (j := 5) (t := 23) (b := true) rfl (by simp) rfl hl rfl (fun v w h => .inl h) fun _ => rfl
            · refine step_guard [1, 5] (by kernel_rfl) (j := 1) (t := 19) (b := false) rfl (by simp) rfl hl rfl (fun v w h => h) fun us w' hG hV => ?_
              have e5 : us 5 = .bool false := hV 5 (by simp)
              have v5 := (frame_at2 (us := us) hl (show (deT[23]?).join = some 5 from rfl)).trans e5
              generalize frame deT a0 us = fr at *
              exact val_ok (v := .bool false) (w' := w') (by go_simp) hG (Below.refl _ _) rfl
            · refine step_plain [1, 11] (by kernel_rfl) rfl fun us w' hG hV => ?_
              have e1 : us 1 = .bool false := hV 1 (by simp)
              have v1 := (frame_at2 (us := us) hl (show (deT[19]?).join = some 1 from rfl)).trans e1
              have e11 : us 11 = .bool false := hV 11 (by simp)
              have v11 := (frame_at2 (us := us) hl (show (deT[29]?).join = some 11 from rfl)).trans e11
              generalize frame deT a0 us = fr at *
              exact val_ok (v := .bool false) (w' := w') (by go_simp) hG (Below.refl _ _) rfl
            · refine step_plain [12] (by kernel_rfl) rfl fun us w' hG hV => ?_
              have e12 : us 12 = .bool false := hV 12 (by simp)
              have v12 := (frame_at2 (us := us) hl (show (deT[30]?).join = some 12 from rfl)).trans e12
              generalize frame deT a0 us = fr at *
              exact val_ok (v := .bool false) (w' := w') (by go_simp) hG (Below.refl _ _) rfl
            · refine step_guard [13] (by kernel_rfl) (j := 13) (t := 31) (b := false) rfl (by simp) rfl hl rfl (fun v w h => h) fun us w' hG hV => ?_
              have o3 := (frame_old2 (us := us) (a := a0) (show (deT[3]?).join = none from rfl)).trans k3
              generalize frame deT a0 us = fr at *
              exact val_ok (v := .pointer (some ⟨(w.heap.size + 1), 38, none⟩)) (w' := w') (by go_simp) hG (Below.refl _ _) rfl
            · refine step_guard [13, 14] (by kernel_rfl) (j := 13) (t := 31) (b := false) rfl (by simp) rfl hl rfl (fun v w h => h) fun us w' hG hV => ?_
              have e14 : us 14 = .pointer (some ⟨(w.heap.size + 1), 38, none⟩) := hV 14 (by simp)
              have v14 := (frame_at2 (us := us) hl (show (deT[32]?).join = some 14 from rfl)).trans e14
              have hc := B2.out w' hG
              generalize frame deT a0 us = fr at *
              exact val_ok (v := .bool false) (w' := w') (by go_simp) hG (Below.refl _ _) rfl
            · refine step_guard [13, 15] (by kernel_rfl) (j := 13) (t := 31) (b := false) rfl (by simp) rfl hl rfl (fun v w h => h) fun us w' hG hV => ?_
              have e15 : us 15 = .bool false := hV 15 (by simp)
              have v15 := (frame_at2 (us := us) hl (show (deT[33]?).join = some 15 from rfl)).trans e15
              generalize frame deT a0 us = fr at *
              exact val_ok (v := .bool true) (w' := w') (by go_simp) hG (Below.refl _ _) rfl
            · refine step_guard [13, 16] (by kernel_rfl) (j := 13) (t := 31) (b := false) rfl (by simp) rfl hl rfl (fun v w h => h) fun us w' hG hV => ?_
              have e16 : us 16 = .bool true := hV 16 (by simp)
              have v16 := (frame_at2 (us := us) hl (show (deT[34]?).join = some 16 from rfl)).trans e16
              generalize frame deT a0 us = fr at *
              exact val_ok (v := .bool true) (w' := w') (by go_simp) hG (Below.refl _ _) rfl
            · refine step_guard [17] (by kernel_rfl) (j := 17) (t := 35) (b := true) rfl (by simp) rfl hl rfl (fun v w h => h) fun us w' hG hV => ?_
              have o2 := (frame_old2 (us := us) (a := a0) (show (deT[2]?).join = none from rfl)).trans k2
              have hg1 := (RA.out w' hG)
              generalize frame deT a0 us = fr at *
              exact load_ok 28 2 rfl (w.heap.size) o2 _ _ (0, 0) _ hg1 Try.underlying28 rfl IA.out hG rfl
            · refine step_guard [17, 18] (by kernel_rfl) (j := 17) (t := 35) (b := true) rfl (by simp) rfl hl rfl (fun v w h => h) fun us w' hG hV => ?_
              have e18 : us 18 = .agg CA := hV 18 (by simp)
              have v18 := (frame_at2 (us := us) hl (show (deT[36]?).join = some 18 from rfl)).trans e18
              generalize frame deT a0 us = fr at *
              exact call_ok (f := 49) (args := #[.agg CA]) (by go_simp) ((EA.out w').mono fun e w'' h => ⟨_, h.1, hG.below h.2, h.2, rfl⟩)
            · refine step_guard [17] (by kernel_rfl) (j := 17) (t := 35) (b := true) rfl (by simp) rfl hl rfl (fun v w h => h) fun us w' hG hV => ?_
              have o3 := (frame_old2 (us := us) (a := a0) (show (deT[3]?).join = none from rfl)).trans k3
              have hg1 := (RB.out w' hG)
              generalize frame deT a0 us = fr at *
              exact load_ok 28 3 rfl ((w.heap.size + 1)) o3 _ _ (0, 0) _ hg1 Try.underlying28 rfl IB.out hG rfl
            · refine step_guard [17, 20] (by kernel_rfl) (j := 17) (t := 35) (b := true) rfl (by simp) rfl hl rfl (fun v w h => h) fun us w' hG hV => ?_
              have e20 : us 20 = .agg CB := hV 20 (by simp)
              have v20 := (frame_at2 (us := us) hl (show (deT[38]?).join = some 20 from rfl)).trans e20
              generalize frame deT a0 us = fr at *
              exact call_ok (f := 49) (args := #[.agg CB]) (by go_simp) ((EB.out w').mono fun e w'' h => ⟨_, h.1, hG.below h.2, h.2, rfl⟩)
            · refine step_guard [17, 19, 21] (by kernel_rfl) (j := 17) (t := 35) (b := true) rfl (by simp) rfl hl rfl (fun v w h => h) fun us w' hG hV => ?_
              have e19 : us 19 = .int .i64 ea := hV 19 (by simp)
              have v19 := (frame_at2 (us := us) hl (show (deT[37]?).join = some 19 from rfl)).trans e19
              have e21 : us 21 = .int .i64 eb := hV 21 (by simp)
              have v21 := (frame_at2 (us := us) hl (show (deT[39]?).join = some 21 from rfl)).trans e21
              have q := Q5.out
              generalize frame deT a0 us = fr at *
              exact val_ok (v := .bool true) (w' := w') (by go_simp) hG (Below.refl _ _) rfl
            · refine step_guard [13, 17, 22] (by kernel_rfl) (j := 13) (t := 31) (b := false) rfl (by simp) rfl hl rfl (fun v w h => h) fun us w' hG hV => ?_
              have e17 : us 17 = .bool true := hV 17 (by simp)
              have v17 := (frame_at2 (us := us) hl (show (deT[35]?).join = some 17 from rfl)).trans e17
              have e22 : us 22 = .bool true := hV 22 (by simp)
              have v22 := (frame_at2 (us := us) hl (show (deT[40]?).join = some 22 from rfl)).trans e22
              generalize frame deT a0 us = fr at *
              exact val_ok (v := .bool true) (w' := w') (by go_simp) hG (Below.refl _ _) rfl
            · refine step_plain [13, 23] (by kernel_rfl) rfl fun us w' hG hV => ?_
              have e13 : us 13 = .bool false := hV 13 (by simp)
              have v13 := (frame_at2 (us := us) hl (show (deT[31]?).join = some 13 from rfl)).trans e13
              have e23 : us 23 = .bool true := hV 23 (by simp)
              have v23 := (frame_at2 (us := us) hl (show (deT[41]?).join = some 23 from rfl)).trans e23
              generalize frame deT a0 us = fr at *
              exact val_ok (v := .bool true) (w' := w') (by go_simp) hG (Below.refl _ _) rfl
            · refine step_plain [24] (by kernel_rfl) rfl fun us w' hG hV => ?_
              have e24 : us 24 = .bool true := hV 24 (by simp)
              have v24 := (frame_at2 (us := us) hl (show (deT[42]?).join = some 24 from rfl)).trans e24
              generalize frame deT a0 us = fr at *
              exact val_ok (v := .bool true) (w' := w') (by go_simp) hG (Below.refl _ _) rfl
            · intro us w7 hG hV
              have eL : us 25 = .bool true := hV 25 (by decide)
              subst ha0
              simp only [frame, deT, fill]
              rw [eL]
              have HG4 := Lib.hid hG
              clear hV hl hG k2 k3 k5 eL
              go_wp2_with fail
              go_ret
              exact ⟨ret_bool HVV.out.symm, HB.out.trans (Below.mono HG4.out HB.out.size)⟩
        · have Q1 := Lib.hid h1
          have Q5 := Lib.hid h5
          have HVV := Lib.hid (show V = false by rw [HV.out]; simp [h1, h5])
          clear HV h1 h5
          go_enter Try.func45, Try.ntmps45
          go_upto_region 1 with fail
          rw [← hW]
          clear hW R0 R1
          refine with_act fun a0 ha0 => ?_
          have hl : caT.length = a0.tmps.size := by rw [ha0]; rfl
          have k2 : a0.tmps[2]?.getD undef = .pointer (some ⟨w.heap.size, 0, none⟩) := by rw [ha0]; rfl
          have k3 : a0.tmps[3]?.getD undef = .pointer (some ⟨(w.heap.size + 1), 0, none⟩) := by rw [ha0]; rfl
          refine wp_region_vals (by kernel_rfl) caT (by kernel_rfl) (by kernel_rfl) hl (fun i => undef) (by rw [ha0]; rfl) (Gr W) (caV w.heap.size (w.heap.size + 1) CA CB oa ob ea eb) (show Gr _ _ from (Below.refl _ _).drew) (caV.keep _ _ _ _ _ _ _ _) ⟨?_, ?_, ?_, ?_, ?_, ?_, ?_, ?_, ?_, ?_, ?_, ?_, ?_, trivial⟩ ?_
          · refine step_plain [] (by kernel_rfl) rfl fun us w' hG hV => ?_
            have o2 := (frame_old2 (us := us) (a := a0) (show (caT[2]?).join = none from rfl)).trans k2
            generalize frame caT a0 us = fr at *
            exact val_ok (v := .pointer (some ⟨w.heap.size, 39, none⟩)) (w' := w') (by go_simp) hG (Below.refl _ _) rfl
          · refine step_plain [0] (by kernel_rfl) rfl fun us w' hG hV => ?_
            have e0 : us 0 = .pointer (some ⟨w.heap.size, 39, none⟩) := hV 0 (by simp)
            have v0 := (frame_at2 (us := us) hl (show (caT[6]?).join = some 0 from rfl)).trans e0
            have hc := A1.out w' hG
            generalize frame caT a0 us = fr at *
            exact val_ok (v := .int .i64 oa) (w' := w') (by go_simp) hG (Below.refl _ _) rfl
          · refine step_plain [] (by kernel_rfl) rfl fun us w' hG hV => ?_
            have o3 := (frame_old2 (us := us) (a := a0) (show (caT[3]?).join = none from rfl)).trans k3
            have hg1 := (RB.out w' hG)
            generalize frame caT a0 us = fr at *
            exact load_ok 28 3 rfl ((w.heap.size + 1)) o3 _ _ (0, 0) _ hg1 Try.underlying28 rfl IB.out hG rfl
          · refine step_plain [2] (by kernel_rfl) rfl fun us w' hG hV => ?_
            have e2 : us 2 = .agg CB := hV 2 (by simp)
            have v2 := (frame_at2 (us := us) hl (show (caT[8]?).join = some 2 from rfl)).trans e2
            generalize frame caT a0 us = fr at *
            exact call_ok (f := 49) (args := #[.agg CB]) (by go_simp) ((EB.out w').mono fun e w'' h => ⟨_, h.1, hG.below h.2, h.2, rfl⟩)
          · refine step_plain [1, 3] (by kernel_rfl) rfl fun us w' hG hV => ?_
            have e1 : us 1 = .int .i64 oa := hV 1 (by simp)
            have v1 := (frame_at2 (us := us) hl (show (caT[7]?).join = some 1 from rfl)).trans e1
            have e3 : us 3 = .int .i64 eb := hV 3 (by simp)
            have v3 := (frame_at2 (us := us) hl (show (caT[9]?).join = some 3 from rfl)).trans e3
            have q := Q1.out
            generalize frame caT a0 us = fr at *
            exact val_ok (v := .bool false) (w' := w') (by go_simp) hG (Below.refl _ _) rfl
          · refine step_plain [4] (by kernel_rfl) rfl fun us w' hG hV => ?_
            have e4 : us 4 = .bool false := hV 4 (by simp)
            have v4 := (frame_at2 (us := us) hl (show (caT[10]?).join = some 4 from rfl)).trans e4
            generalize frame caT a0 us = fr at *
            exact val_ok (v := .bool false) (w' := w') (by go_simp) hG (Below.refl _ _) rfl
          · exact step_skip [5] (by kernel_rfl) (j := 5) (t := 11) (b := true) rfl (by simp) rfl hl rfl (fun v w h => .inl h) fun _ => rfl
          · exact step_skip [5] (by kernel_rfl) (j := 5) (t := 11) (b := true) rfl (by simp) rfl hl rfl (fun v w h => .inl h) fun _ => rfl
          · exact step_skip [5] (by kernel_rfl) (j := 5) (t := 11) (b := true) rfl (by simp) rfl hl rfl (fun v w h => .inl h) fun _ => rfl
          · exact step_skip [5] (by kernel_rfl) (j := 5) (t := 11) (b := true) rfl (by simp) rfl hl rfl (fun v w h => .inl h) fun _ => rfl
          · exact step_skip [5] (by kernel_rfl) (j := 5) (t := 11) (b := true) rfl (by simp) rfl hl rfl (fun v w h => .inl h) fun _ => rfl
          · refine step_plain [5] (by kernel_rfl) rfl fun us w' hG hV => ?_
            have e5 : us 5 = .bool false := hV 5 (by simp)
            have v5 := (frame_at2 (us := us) hl (show (caT[11]?).join = some 5 from rfl)).trans e5
            generalize frame caT a0 us = fr at *
            exact val_ok (v := .bool false) (w' := w') (by go_simp) hG (Below.refl _ _) rfl
          · refine step_plain [11] (by kernel_rfl) rfl fun us w' hG hV => ?_
            have e11 : us 11 = .bool false := hV 11 (by simp)
            have v11 := (frame_at2 (us := us) hl (show (caT[17]?).join = some 11 from rfl)).trans e11
            generalize frame caT a0 us = fr at *
            exact val_ok (v := .bool false) (w' := w') (by go_simp) hG (Below.refl _ _) rfl
          · intro us w5 hG hV
            have eL : us 12 = .bool false := hV 12 (by decide)
            subst ha0
            simp only [frame, caT, fill]
            rw [eL]
            have HG3 := Lib.hid hG
            clear hV hl hG k2 k3 eL
            go_upto_region 2 with fail
            refine with_act fun a0 ha0 => ?_
            have hl : ddT.length = a0.tmps.size := by rw [ha0]; rfl
            have k2 : a0.tmps[2]?.getD undef = .pointer (some ⟨w.heap.size, 0, none⟩) := by rw [ha0]; rfl
            have k3 : a0.tmps[3]?.getD undef = .pointer (some ⟨(w.heap.size + 1), 0, none⟩) := by rw [ha0]; rfl
            have k5 : a0.tmps[5]?.getD undef = .bool false := by rw [ha0]; rfl
            refine wp_region_vals (by kernel_rfl) ddT (by kernel_rfl) (by kernel_rfl) hl (fun i => if i = 25 then .bool false else a0.tmps[i + 18]?.getD undef) (by rw [ha0]; rfl) (Gr W) (ddV w.heap.size (w.heap.size + 1) CA CB oa ob ea eb) HG3.out.drew (ddV.keep _ _ _ _ _ _ _ _) ⟨?_, ?_, ?_, ?_, ?_, ?_, ?_, ?_, ?_, ?_, ?_, ?_, ?_, ?_, ?_, ?_, ?_, ?_, ?_, ?_, ?_, ?_, ?_, ?_, ?_, ?_, trivial⟩ ?_
            · refine step_plain [] (by kernel_rfl) rfl fun us w' hG hV => ?_
              have o5 := (frame_old2 (us := us) (a := a0) (show (ddT[5]?).join = none from rfl)).trans k5
              generalize frame ddT a0 us = fr at *
              exact val_ok (v := .bool false) (w' := w') (by go_simp) hG (Below.refl _ _) rfl
            · refine step_plain [0] (by kernel_rfl) rfl fun us w' hG hV => ?_
              have e0 : us 0 = .bool false := hV 0 (by simp)
              have v0 := (frame_at2 (us := us) hl (show (ddT[18]?).join = some 0 from rfl)).trans e0
              generalize frame ddT a0 us = fr at *
              exact val_ok (v := .bool false) (w' := w') (by go_simp) hG (Below.refl _ _) rfl
            · refine step_guard [1] (by kernel_rfl) (j := 1) (t := 19) (b := false) rfl (by simp) rfl hl rfl (fun v w h => h) fun us w' hG hV => ?_
              have o2 := (frame_old2 (us := us) (a := a0) (show (ddT[2]?).join = none from rfl)).trans k2
              generalize frame ddT a0 us = fr at *
              exact val_ok (v := .pointer (some ⟨w.heap.size, 38, none⟩)) (w' := w') (by go_simp) hG (Below.refl _ _) rfl
            · refine step_guard [1, 2] (by kernel_rfl) (j := 1) (t := 19) (b := false) rfl (by simp) rfl hl rfl (fun v w h => h) fun us w' hG hV => ?_
              have e2 : us 2 = .pointer (some ⟨w.heap.size, 38, none⟩) := hV 2 (by simp)
              have v2 := (frame_at2 (us := us) hl (show (ddT[20]?).join = some 2 from rfl)).trans e2
              have hc := A2.out w' hG
              generalize frame ddT a0 us = fr at *
              exact val_ok (v := .bool true) (w' := w') (by go_simp) hG (Below.refl _ _) rfl
            · refine step_guard [1, 3] (by kernel_rfl) (j := 1) (t := 19) (b := false) rfl (by simp) rfl hl rfl (fun v w h => h) fun us w' hG hV => ?_
              have e3 : us 3 = .bool true := hV 3 (by simp)
              have v3 := (frame_at2 (us := us) hl (show (ddT[21]?).join = some 3 from rfl)).trans e3
              generalize frame ddT a0 us = fr at *
              exact val_ok (v := .bool false) (w' := w') (by go_simp) hG (Below.refl _ _) rfl
            · refine step_guard [1, 4] (by kernel_rfl) (j := 1) (t := 19) (b := false) rfl (by simp) rfl hl rfl (fun v w h => h) fun us w' hG hV => ?_
              have e4 : us 4 = .bool false := hV 4 (by simp)
              have v4 := (frame_at2 (us := us) hl (show (ddT[22]?).join = some 4 from rfl)).trans e4
              generalize frame ddT a0 us = fr at *
              exact val_ok (v := .bool false) (w' := w') (by go_simp) hG (Below.refl _ _) rfl
            · exact step_skip [5] (by kernel_rfl) (j := 5) (t := 23) (b := true) rfl (by simp) rfl hl rfl (fun v w h => .inl h) fun _ => rfl
            · exact step_skip [5] (by kernel_rfl) (j := 5) (t := 23) (b := true) rfl (by simp) rfl hl rfl (fun v w h => .inl h) fun _ => rfl
            · exact step_skip [5] (by kernel_rfl) (j := 5) (t := 23) (b := true) rfl (by simp) rfl hl rfl (fun v w h => .inl h) fun _ => rfl
            · exact step_skip [5] (by kernel_rfl) (j := 5) (t := 23) (b := true) rfl (by simp) rfl hl rfl (fun v w h => .inl h) fun _ => rfl
            · exact step_skip [5] (by kernel_rfl) (j := 5) (t := 23) (b := true) rfl (by simp) rfl hl rfl (fun v w h => .inl h) fun _ => rfl
            · refine step_guard [1, 5] (by kernel_rfl) (j := 1) (t := 19) (b := false) rfl (by simp) rfl hl rfl (fun v w h => h) fun us w' hG hV => ?_
              have e5 : us 5 = .bool false := hV 5 (by simp)
              have v5 := (frame_at2 (us := us) hl (show (ddT[23]?).join = some 5 from rfl)).trans e5
              generalize frame ddT a0 us = fr at *
              exact val_ok (v := .bool false) (w' := w') (by go_simp) hG (Below.refl _ _) rfl
            · refine step_plain [1, 11] (by kernel_rfl) rfl fun us w' hG hV => ?_
              have e1 : us 1 = .bool false := hV 1 (by simp)
              have v1 := (frame_at2 (us := us) hl (show (ddT[19]?).join = some 1 from rfl)).trans e1
              have e11 : us 11 = .bool false := hV 11 (by simp)
              have v11 := (frame_at2 (us := us) hl (show (ddT[29]?).join = some 11 from rfl)).trans e11
              generalize frame ddT a0 us = fr at *
              exact val_ok (v := .bool false) (w' := w') (by go_simp) hG (Below.refl _ _) rfl
            · refine step_plain [12] (by kernel_rfl) rfl fun us w' hG hV => ?_
              have e12 : us 12 = .bool false := hV 12 (by simp)
              have v12 := (frame_at2 (us := us) hl (show (ddT[30]?).join = some 12 from rfl)).trans e12
              generalize frame ddT a0 us = fr at *
              exact val_ok (v := .bool false) (w' := w') (by go_simp) hG (Below.refl _ _) rfl
            · refine step_guard [13] (by kernel_rfl) (j := 13) (t := 31) (b := false) rfl (by simp) rfl hl rfl (fun v w h => h) fun us w' hG hV => ?_
              have o3 := (frame_old2 (us := us) (a := a0) (show (ddT[3]?).join = none from rfl)).trans k3
              generalize frame ddT a0 us = fr at *
              exact val_ok (v := .pointer (some ⟨(w.heap.size + 1), 38, none⟩)) (w' := w') (by go_simp) hG (Below.refl _ _) rfl
            · refine step_guard [13, 14] (by kernel_rfl) (j := 13) (t := 31) (b := false) rfl (by simp) rfl hl rfl (fun v w h => h) fun us w' hG hV => ?_
              have e14 : us 14 = .pointer (some ⟨(w.heap.size + 1), 38, none⟩) := hV 14 (by simp)
              have v14 := (frame_at2 (us := us) hl (show (ddT[32]?).join = some 14 from rfl)).trans e14
              have hc := B2.out w' hG
              generalize frame ddT a0 us = fr at *
              exact val_ok (v := .bool false) (w' := w') (by go_simp) hG (Below.refl _ _) rfl
            · refine step_guard [13, 15] (by kernel_rfl) (j := 13) (t := 31) (b := false) rfl (by simp) rfl hl rfl (fun v w h => h) fun us w' hG hV => ?_
              have e15 : us 15 = .bool false := hV 15 (by simp)
              have v15 := (frame_at2 (us := us) hl (show (ddT[33]?).join = some 15 from rfl)).trans e15
              generalize frame ddT a0 us = fr at *
              exact val_ok (v := .bool true) (w' := w') (by go_simp) hG (Below.refl _ _) rfl
            · refine step_guard [13, 16] (by kernel_rfl) (j := 13) (t := 31) (b := false) rfl (by simp) rfl hl rfl (fun v w h => h) fun us w' hG hV => ?_
              have e16 : us 16 = .bool true := hV 16 (by simp)
              have v16 := (frame_at2 (us := us) hl (show (ddT[34]?).join = some 16 from rfl)).trans e16
              generalize frame ddT a0 us = fr at *
              exact val_ok (v := .bool true) (w' := w') (by go_simp) hG (Below.refl _ _) rfl
            · refine step_guard [17] (by kernel_rfl) (j := 17) (t := 35) (b := true) rfl (by simp) rfl hl rfl (fun v w h => h) fun us w' hG hV => ?_
              have o2 := (frame_old2 (us := us) (a := a0) (show (ddT[2]?).join = none from rfl)).trans k2
              have hg1 := (RA.out w' hG)
              generalize frame ddT a0 us = fr at *
              exact load_ok 28 2 rfl (w.heap.size) o2 _ _ (0, 0) _ hg1 Try.underlying28 rfl IA.out hG rfl
            · refine step_guard [17, 18] (by kernel_rfl) (j := 17) (t := 35) (b := true) rfl (by simp) rfl hl rfl (fun v w h => h) fun us w' hG hV => ?_
              have e18 : us 18 = .agg CA := hV 18 (by simp)
              have v18 := (frame_at2 (us := us) hl (show (ddT[36]?).join = some 18 from rfl)).trans e18
              generalize frame ddT a0 us = fr at *
              exact call_ok (f := 49) (args := #[.agg CA]) (by go_simp) ((EA.out w').mono fun e w'' h => ⟨_, h.1, hG.below h.2, h.2, rfl⟩)
            · refine step_guard [17] (by kernel_rfl) (j := 17) (t := 35) (b := true) rfl (by simp) rfl hl rfl (fun v w h => h) fun us w' hG hV => ?_
              have o3 := (frame_old2 (us := us) (a := a0) (show (ddT[3]?).join = none from rfl)).trans k3
              have hg1 := (RB.out w' hG)
              generalize frame ddT a0 us = fr at *
              exact load_ok 28 3 rfl ((w.heap.size + 1)) o3 _ _ (0, 0) _ hg1 Try.underlying28 rfl IB.out hG rfl
            · refine step_guard [17, 20] (by kernel_rfl) (j := 17) (t := 35) (b := true) rfl (by simp) rfl hl rfl (fun v w h => h) fun us w' hG hV => ?_
              have e20 : us 20 = .agg CB := hV 20 (by simp)
              have v20 := (frame_at2 (us := us) hl (show (ddT[38]?).join = some 20 from rfl)).trans e20
              generalize frame ddT a0 us = fr at *
              exact call_ok (f := 49) (args := #[.agg CB]) (by go_simp) ((EB.out w').mono fun e w'' h => ⟨_, h.1, hG.below h.2, h.2, rfl⟩)
            · refine step_guard [17, 19, 21] (by kernel_rfl) (j := 17) (t := 35) (b := true) rfl (by simp) rfl hl rfl (fun v w h => h) fun us w' hG hV => ?_
              have e19 : us 19 = .int .i64 ea := hV 19 (by simp)
              have v19 := (frame_at2 (us := us) hl (show (ddT[37]?).join = some 19 from rfl)).trans e19
              have e21 : us 21 = .int .i64 eb := hV 21 (by simp)
              have v21 := (frame_at2 (us := us) hl (show (ddT[39]?).join = some 21 from rfl)).trans e21
              have q := Q5.out
              generalize frame ddT a0 us = fr at *
              exact val_ok (v := .bool false) (w' := w') (by go_simp) hG (Below.refl _ _) rfl
            · refine step_guard [13, 17, 22] (by kernel_rfl) (j := 13) (t := 31) (b := false) rfl (by simp) rfl hl rfl (fun v w h => h) fun us w' hG hV => ?_
              have e17 : us 17 = .bool true := hV 17 (by simp)
              have v17 := (frame_at2 (us := us) hl (show (ddT[35]?).join = some 17 from rfl)).trans e17
              have e22 : us 22 = .bool false := hV 22 (by simp)
              have v22 := (frame_at2 (us := us) hl (show (ddT[40]?).join = some 22 from rfl)).trans e22
              generalize frame ddT a0 us = fr at *
              exact val_ok (v := .bool false) (w' := w') (by go_simp) hG (Below.refl _ _) rfl
            · refine step_plain [13, 23] (by kernel_rfl) rfl fun us w' hG hV => ?_
              have e13 : us 13 = .bool false := hV 13 (by simp)
              have v13 := (frame_at2 (us := us) hl (show (ddT[31]?).join = some 13 from rfl)).trans e13
              have e23 : us 23 = .bool false := hV 23 (by simp)
              have v23 := (frame_at2 (us := us) hl (show (ddT[41]?).join = some 23 from rfl)).trans e23
              generalize frame ddT a0 us = fr at *
              exact val_ok (v := .bool false) (w' := w') (by go_simp) hG (Below.refl _ _) rfl
            · refine step_plain [24] (by kernel_rfl) rfl fun us w' hG hV => ?_
              have e24 : us 24 = .bool false := hV 24 (by simp)
              have v24 := (frame_at2 (us := us) hl (show (ddT[42]?).join = some 24 from rfl)).trans e24
              generalize frame ddT a0 us = fr at *
              exact val_ok (v := .bool false) (w' := w') (by go_simp) hG (Below.refl _ _) rfl
            · intro us w7 hG hV
              have eL : us 25 = .bool false := hV 25 (by decide)
              subst ha0
              simp only [frame, ddT, fill]
              rw [eL]
              have HG4 := Lib.hid hG
              clear hV hl hG k2 k3 k5 eL
              go_wp2_with fail
              go_ret
              exact ⟨ret_bool HVV.out.symm, HB.out.trans (Below.mono HG4.out HB.out.size)⟩
    · by_cases h4 : ea < eb
      · have Q1 := Lib.hid h1
        have Q4 := Lib.hid h4
        have HVV := Lib.hid (show V = true by rw [HV.out]; simp [h1, h4])
        clear HV h1 h4
        go_enter Try.func45, Try.ntmps45
        go_upto_region 1 with fail
        rw [← hW]
        clear hW R0 R1
        refine with_act fun a0 ha0 => ?_
        have hl : caT.length = a0.tmps.size := by rw [ha0]; rfl
        have k2 : a0.tmps[2]?.getD undef = .pointer (some ⟨w.heap.size, 0, none⟩) := by rw [ha0]; rfl
        have k3 : a0.tmps[3]?.getD undef = .pointer (some ⟨(w.heap.size + 1), 0, none⟩) := by rw [ha0]; rfl
        refine wp_region_vals (by kernel_rfl) caT (by kernel_rfl) (by kernel_rfl) hl (fun i => undef) (by rw [ha0]; rfl) (Gr W) (caV w.heap.size (w.heap.size + 1) CA CB oa ob ea eb) (show Gr _ _ from (Below.refl _ _).drew) (caV.keep _ _ _ _ _ _ _ _) ⟨?_, ?_, ?_, ?_, ?_, ?_, ?_, ?_, ?_, ?_, ?_, ?_, ?_, trivial⟩ ?_
        · refine step_plain [] (by kernel_rfl) rfl fun us w' hG hV => ?_
          have o2 := (frame_old2 (us := us) (a := a0) (show (caT[2]?).join = none from rfl)).trans k2
          generalize frame caT a0 us = fr at *
          exact val_ok (v := .pointer (some ⟨w.heap.size, 39, none⟩)) (w' := w') (by go_simp) hG (Below.refl _ _) rfl
        · refine step_plain [0] (by kernel_rfl) rfl fun us w' hG hV => ?_
          have e0 : us 0 = .pointer (some ⟨w.heap.size, 39, none⟩) := hV 0 (by simp)
          have v0 := (frame_at2 (us := us) hl (show (caT[6]?).join = some 0 from rfl)).trans e0
          have hc := A1.out w' hG
          generalize frame caT a0 us = fr at *
          exact val_ok (v := .int .i64 oa) (w' := w') (by go_simp) hG (Below.refl _ _) rfl
        · refine step_plain [] (by kernel_rfl) rfl fun us w' hG hV => ?_
          have o3 := (frame_old2 (us := us) (a := a0) (show (caT[3]?).join = none from rfl)).trans k3
          have hg1 := (RB.out w' hG)
          generalize frame caT a0 us = fr at *
          exact load_ok 28 3 rfl ((w.heap.size + 1)) o3 _ _ (0, 0) _ hg1 Try.underlying28 rfl IB.out hG rfl
        · refine step_plain [2] (by kernel_rfl) rfl fun us w' hG hV => ?_
          have e2 : us 2 = .agg CB := hV 2 (by simp)
          have v2 := (frame_at2 (us := us) hl (show (caT[8]?).join = some 2 from rfl)).trans e2
          generalize frame caT a0 us = fr at *
          exact call_ok (f := 49) (args := #[.agg CB]) (by go_simp) ((EB.out w').mono fun e w'' h => ⟨_, h.1, hG.below h.2, h.2, rfl⟩)
        · refine step_plain [1, 3] (by kernel_rfl) rfl fun us w' hG hV => ?_
          have e1 : us 1 = .int .i64 oa := hV 1 (by simp)
          have v1 := (frame_at2 (us := us) hl (show (caT[7]?).join = some 1 from rfl)).trans e1
          have e3 : us 3 = .int .i64 eb := hV 3 (by simp)
          have v3 := (frame_at2 (us := us) hl (show (caT[9]?).join = some 3 from rfl)).trans e3
          have q := Q1.out
          generalize frame caT a0 us = fr at *
          exact val_ok (v := .bool false) (w' := w') (by go_simp) hG (Below.refl _ _) rfl
        · refine step_plain [4] (by kernel_rfl) rfl fun us w' hG hV => ?_
          have e4 : us 4 = .bool false := hV 4 (by simp)
          have v4 := (frame_at2 (us := us) hl (show (caT[10]?).join = some 4 from rfl)).trans e4
          generalize frame caT a0 us = fr at *
          exact val_ok (v := .bool false) (w' := w') (by go_simp) hG (Below.refl _ _) rfl
        · exact step_skip [5] (by kernel_rfl) (j := 5) (t := 11) (b := true) rfl (by simp) rfl hl rfl (fun v w h => .inl h) fun _ => rfl
        · exact step_skip [5] (by kernel_rfl) (j := 5) (t := 11) (b := true) rfl (by simp) rfl hl rfl (fun v w h => .inl h) fun _ => rfl
        · exact step_skip [5] (by kernel_rfl) (j := 5) (t := 11) (b := true) rfl (by simp) rfl hl rfl (fun v w h => .inl h) fun _ => rfl
        · exact step_skip [5] (by kernel_rfl) (j := 5) (t := 11) (b := true) rfl (by simp) rfl hl rfl (fun v w h => .inl h) fun _ => rfl
        · exact step_skip [5] (by kernel_rfl) (j := 5) (t := 11) (b := true) rfl (by simp) rfl hl rfl (fun v w h => .inl h) fun _ => rfl
        · refine step_plain [5] (by kernel_rfl) rfl fun us w' hG hV => ?_
          have e5 : us 5 = .bool false := hV 5 (by simp)
          have v5 := (frame_at2 (us := us) hl (show (caT[11]?).join = some 5 from rfl)).trans e5
          generalize frame caT a0 us = fr at *
          exact val_ok (v := .bool false) (w' := w') (by go_simp) hG (Below.refl _ _) rfl
        · refine step_plain [11] (by kernel_rfl) rfl fun us w' hG hV => ?_
          have e11 : us 11 = .bool false := hV 11 (by simp)
          have v11 := (frame_at2 (us := us) hl (show (caT[17]?).join = some 11 from rfl)).trans e11
          generalize frame caT a0 us = fr at *
          exact val_ok (v := .bool false) (w' := w') (by go_simp) hG (Below.refl _ _) rfl
        · intro us w5 hG hV
          have eL : us 12 = .bool false := hV 12 (by decide)
          subst ha0
          simp only [frame, caT, fill]
          rw [eL]
          have HG3 := Lib.hid hG
          clear hV hl hG k2 k3 eL
          go_upto_region 2 with fail
          refine with_act fun a0 ha0 => ?_
          have hl : dbT.length = a0.tmps.size := by rw [ha0]; rfl
          have k2 : a0.tmps[2]?.getD undef = .pointer (some ⟨w.heap.size, 0, none⟩) := by rw [ha0]; rfl
          have k3 : a0.tmps[3]?.getD undef = .pointer (some ⟨(w.heap.size + 1), 0, none⟩) := by rw [ha0]; rfl
          have k5 : a0.tmps[5]?.getD undef = .bool false := by rw [ha0]; rfl
          refine wp_region_vals (by kernel_rfl) dbT (by kernel_rfl) (by kernel_rfl) hl (fun i => if i = 25 then .bool false else a0.tmps[i + 18]?.getD undef) (by rw [ha0]; rfl) (Gr W) (dbV w.heap.size (w.heap.size + 1) CA CB oa ob ea eb) HG3.out.drew (dbV.keep _ _ _ _ _ _ _ _) ⟨?_, ?_, ?_, ?_, ?_, ?_, ?_, ?_, ?_, ?_, ?_, ?_, ?_, ?_, ?_, ?_, ?_, ?_, ?_, ?_, ?_, ?_, ?_, ?_, ?_, ?_, trivial⟩ ?_
          · refine step_plain [] (by kernel_rfl) rfl fun us w' hG hV => ?_
            have o5 := (frame_old2 (us := us) (a := a0) (show (dbT[5]?).join = none from rfl)).trans k5
            generalize frame dbT a0 us = fr at *
            exact val_ok (v := .bool false) (w' := w') (by go_simp) hG (Below.refl _ _) rfl
          · refine step_plain [0] (by kernel_rfl) rfl fun us w' hG hV => ?_
            have e0 : us 0 = .bool false := hV 0 (by simp)
            have v0 := (frame_at2 (us := us) hl (show (dbT[18]?).join = some 0 from rfl)).trans e0
            generalize frame dbT a0 us = fr at *
            exact val_ok (v := .bool false) (w' := w') (by go_simp) hG (Below.refl _ _) rfl
          · refine step_guard [1] (by kernel_rfl) (j := 1) (t := 19) (b := false) rfl (by simp) rfl hl rfl (fun v w h => h) fun us w' hG hV => ?_
            have o2 := (frame_old2 (us := us) (a := a0) (show (dbT[2]?).join = none from rfl)).trans k2
            generalize frame dbT a0 us = fr at *
            exact val_ok (v := .pointer (some ⟨w.heap.size, 38, none⟩)) (w' := w') (by go_simp) hG (Below.refl _ _) rfl
          · refine step_guard [1, 2] (by kernel_rfl) (j := 1) (t := 19) (b := false) rfl (by simp) rfl hl rfl (fun v w h => h) fun us w' hG hV => ?_
            have e2 : us 2 = .pointer (some ⟨w.heap.size, 38, none⟩) := hV 2 (by simp)
            have v2 := (frame_at2 (us := us) hl (show (dbT[20]?).join = some 2 from rfl)).trans e2
            have hc := A2.out w' hG
            generalize frame dbT a0 us = fr at *
            exact val_ok (v := .bool false) (w' := w') (by go_simp) hG (Below.refl _ _) rfl
          · refine step_guard [1, 3] (by kernel_rfl) (j := 1) (t := 19) (b := false) rfl (by simp) rfl hl rfl (fun v w h => h) fun us w' hG hV => ?_
            have e3 : us 3 = .bool false := hV 3 (by simp)
            have v3 := (frame_at2 (us := us) hl (show (dbT[21]?).join = some 3 from rfl)).trans e3
            generalize frame dbT a0 us = fr at *
            exact val_ok (v := .bool true) (w' := w') (by go_simp) hG (Below.refl _ _) rfl
          · refine step_guard [1, 4] (by kernel_rfl) (j := 1) (t := 19) (b := false) rfl (by simp) rfl hl rfl (fun v w h => h) fun us w' hG hV => ?_
            have e4 : us 4 = .bool true := hV 4 (by simp)
            have v4 := (frame_at2 (us := us) hl (show (dbT[22]?).join = some 4 from rfl)).trans e4
            generalize frame dbT a0 us = fr at *
            exact val_ok (v := .bool true) (w' := w') (by go_simp) hG (Below.refl _ _) rfl
          · refine step_guard [5] (by kernel_rfl) (j := 5) (t := 23) (b := true) rfl (by simp) rfl hl rfl (fun v w h => h) fun us w' hG hV => ?_
            have o3 := (frame_old2 (us := us) (a := a0) (show (dbT[3]?).join = none from rfl)).trans k3
            have hg1 := (RB.out w' hG)
            generalize frame dbT a0 us = fr at *
            exact load_ok 28 3 rfl ((w.heap.size + 1)) o3 _ _ (0, 0) _ hg1 Try.underlying28 rfl IB.out hG rfl
          · refine step_guard [5, 6] (by kernel_rfl) (j := 5) (t := 23) (b := true) rfl (by simp) rfl hl rfl (fun v w h => h) fun us w' hG hV => ?_
            have e6 : us 6 = .agg CB := hV 6 (by simp)
            have v6 := (frame_at2 (us := us) hl (show (dbT[24]?).join = some 6 from rfl)).trans e6
            generalize frame dbT a0 us = fr at *
            exact call_ok (f := 49) (args := #[.agg CB]) (by go_simp) ((EB.out w').mono fun e w'' h => ⟨_, h.1, hG.below h.2, h.2, rfl⟩)
          · refine step_guard [5] (by kernel_rfl) (j := 5) (t := 23) (b := true) rfl (by simp) rfl hl rfl (fun v w h => h) fun us w' hG hV => ?_
            have o2 := (frame_old2 (us := us) (a := a0) (show (dbT[2]?).join = none from rfl)).trans k2
            have hg1 := (RA.out w' hG)
            generalize frame dbT a0 us = fr at *
            exact load_ok 28 2 rfl (w.heap.size) o2 _ _ (0, 0) _ hg1 Try.underlying28 rfl IA.out hG rfl
          · refine step_guard [5, 8] (by kernel_rfl) (j := 5) (t := 23) (b := true) rfl (by simp) rfl hl rfl (fun v w h => h) fun us w' hG hV => ?_
            have e8 : us 8 = .agg CA := hV 8 (by simp)
            have v8 := (frame_at2 (us := us) hl (show (dbT[26]?).join = some 8 from rfl)).trans e8
            generalize frame dbT a0 us = fr at *
            exact call_ok (f := 49) (args := #[.agg CA]) (by go_simp) ((EA.out w').mono fun e w'' h => ⟨_, h.1, hG.below h.2, h.2, rfl⟩)
          · refine step_guard [5, 7, 9] (by kernel_rfl) (j := 5) (t := 23) (b := true) rfl (by simp) rfl hl rfl (fun v w h => h) fun us w' hG hV => ?_
            have e7 : us 7 = .int .i64 eb := hV 7 (by simp)
            have v7 := (frame_at2 (us := us) hl (show (dbT[25]?).join = some 7 from rfl)).trans e7
            have e9 : us 9 = .int .i64 ea := hV 9 (by simp)
            have v9 := (frame_at2 (us := us) hl (show (dbT[27]?).join = some 9 from rfl)).trans e9
            have q := Q4.out
            generalize frame dbT a0 us = fr at *
            exact val_ok (v := .bool true) (w' := w') (by go_simp) hG (Below.refl _ _) rfl
          · refine step_guard [1, 5, 10] (by kernel_rfl) (j := 1) (t := 19) (b := false) rfl (by simp) rfl hl rfl (fun v w h => h) fun us w' hG hV => ?_
            have e5 : us 5 = .bool true := hV 5 (by simp)
            have v5 := (frame_at2 (us := us) hl (show (dbT[23]?).join = some 5 from rfl)).trans e5
            have e10 : us 10 = .bool true := hV 10 (by simp)
            have v10 := (frame_at2 (us := us) hl (show (dbT[28]?).join = some 10 from rfl)).trans e10
            generalize frame dbT a0 us = fr at *
            exact val_ok (v := .bool true) (w' := w') (by go_simp) hG (Below.refl _ _) rfl
          · refine step_plain [1, 11] (by kernel_rfl) rfl fun us w' hG hV => ?_
            have e1 : us 1 = .bool false := hV 1 (by simp)
            have v1 := (frame_at2 (us := us) hl (show (dbT[19]?).join = some 1 from rfl)).trans e1
            have e11 : us 11 = .bool true := hV 11 (by simp)
            have v11 := (frame_at2 (us := us) hl (show (dbT[29]?).join = some 11 from rfl)).trans e11
            generalize frame dbT a0 us = fr at *
            exact val_ok (v := .bool true) (w' := w') (by go_simp) hG (Below.refl _ _) rfl
          · refine step_plain [12] (by kernel_rfl) rfl fun us w' hG hV => ?_
            have e12 : us 12 = .bool true := hV 12 (by simp)
            have v12 := (frame_at2 (us := us) hl (show (dbT[30]?).join = some 12 from rfl)).trans e12
            generalize frame dbT a0 us = fr at *
            exact val_ok (v := .bool true) (w' := w') (by go_simp) hG (Below.refl _ _) rfl
          · exact step_skip [13] (by kernel_rfl) (j := 13) (t := 31) (b := false) rfl (by simp) rfl hl rfl (fun v w h => .inl h) fun _ => rfl
          · exact step_skip [13] (by kernel_rfl) (j := 13) (t := 31) (b := false) rfl (by simp) rfl hl rfl (fun v w h => .inl h) fun _ => rfl
          · exact step_skip [13] (by kernel_rfl) (j := 13) (t := 31) (b := false) rfl (by simp) rfl hl rfl (fun v w h => .inl h) fun _ => rfl
          · exact step_skip [13] (by kernel_rfl) (j := 13) (t := 31) (b := false) rfl (by simp) rfl hl rfl (fun v w h => .inl h) fun _ => rfl
          · exact step_skip [17] (by kernel_rfl) (j := 17) (t := 35) (b := true) rfl (by simp) rfl hl rfl (fun v w h => .inr h) fun _ => rfl
          · exact step_skip [17] (by kernel_rfl) (j := 17) (t := 35) (b := true) rfl (by simp) rfl hl rfl (fun v w h => .inr h) fun _ => rfl
          · exact step_skip [17] (by kernel_rfl) (j := 17) (t := 35) (b := true) rfl (by simp) rfl hl rfl (fun v w h => .inr h) fun _ => rfl
          · exact step_skip [17] (by kernel_rfl) (j := 17) (t := 35) (b := true) rfl (by simp) rfl hl rfl (fun v w h => .inr h) fun _ => rfl
          · exact step_skip [17] (by kernel_rfl) (j := 17) (t := 35) (b := true) rfl (by simp) rfl hl rfl (fun v w h => .inr h) fun _ => rfl
          · exact step_skip [13] (by kernel_rfl) (j := 13) (t := 31) (b := false) rfl (by simp) rfl hl rfl (fun v w h => .inl h) fun _ => rfl
          · refine step_plain [13] (by kernel_rfl) rfl fun us w' hG hV => ?_
            have e13 : us 13 = .bool true := hV 13 (by simp)
            have v13 := (frame_at2 (us := us) hl (show (dbT[31]?).join = some 13 from rfl)).trans e13
            generalize frame dbT a0 us = fr at *
            exact val_ok (v := .bool true) (w' := w') (by go_simp) hG (Below.refl _ _) rfl
          · refine step_plain [24] (by kernel_rfl) rfl fun us w' hG hV => ?_
            have e24 : us 24 = .bool true := hV 24 (by simp)
            have v24 := (frame_at2 (us := us) hl (show (dbT[42]?).join = some 24 from rfl)).trans e24
            generalize frame dbT a0 us = fr at *
            exact val_ok (v := .bool true) (w' := w') (by go_simp) hG (Below.refl _ _) rfl
          · intro us w7 hG hV
            have eL : us 25 = .bool true := hV 25 (by decide)
            subst ha0
            simp only [frame, dbT, fill]
            rw [eL]
            have HG4 := Lib.hid hG
            clear hV hl hG k2 k3 k5 eL
            go_wp2_with fail
            go_ret
            exact ⟨ret_bool HVV.out.symm, HB.out.trans (Below.mono HG4.out HB.out.size)⟩
      · cases mb
        rotate_left
        · have Q1 := Lib.hid h1
          have Q4 := Lib.hid h4
          have HVV := Lib.hid (show V = false by rw [HV.out]; simp [h1, h4])
          clear HV h1 h4
          go_enter Try.func45, Try.ntmps45
          go_upto_region 1 with fail
          rw [← hW]
          clear hW R0 R1
          refine with_act fun a0 ha0 => ?_
          have hl : caT.length = a0.tmps.size := by rw [ha0]; rfl
          have k2 : a0.tmps[2]?.getD undef = .pointer (some ⟨w.heap.size, 0, none⟩) := by rw [ha0]; rfl
          have k3 : a0.tmps[3]?.getD undef = .pointer (some ⟨(w.heap.size + 1), 0, none⟩) := by rw [ha0]; rfl
          refine wp_region_vals (by kernel_rfl) caT (by kernel_rfl) (by kernel_rfl) hl (fun i => undef) (by rw [ha0]; rfl) (Gr W) (caV w.heap.size (w.heap.size + 1) CA CB oa ob ea eb) (show Gr _ _ from (Below.refl _ _).drew) (caV.keep _ _ _ _ _ _ _ _) ⟨?_, ?_, ?_, ?_, ?_, ?_, ?_, ?_, ?_, ?_, ?_, ?_, ?_, trivial⟩ ?_
          · refine step_plain [] (by kernel_rfl) rfl fun us w' hG hV => ?_
            have o2 := (frame_old2 (us := us) (a := a0) (show (caT[2]?).join = none from rfl)).trans k2
            generalize frame caT a0 us = fr at *
            exact val_ok (v := .pointer (some ⟨w.heap.size, 39, none⟩)) (w' := w') (by go_simp) hG (Below.refl _ _) rfl
          · refine step_plain [0] (by kernel_rfl) rfl fun us w' hG hV => ?_
            have e0 : us 0 = .pointer (some ⟨w.heap.size, 39, none⟩) := hV 0 (by simp)
            have v0 := (frame_at2 (us := us) hl (show (caT[6]?).join = some 0 from rfl)).trans e0
            have hc := A1.out w' hG
            generalize frame caT a0 us = fr at *
            exact val_ok (v := .int .i64 oa) (w' := w') (by go_simp) hG (Below.refl _ _) rfl
          · refine step_plain [] (by kernel_rfl) rfl fun us w' hG hV => ?_
            have o3 := (frame_old2 (us := us) (a := a0) (show (caT[3]?).join = none from rfl)).trans k3
            have hg1 := (RB.out w' hG)
            generalize frame caT a0 us = fr at *
            exact load_ok 28 3 rfl ((w.heap.size + 1)) o3 _ _ (0, 0) _ hg1 Try.underlying28 rfl IB.out hG rfl
          · refine step_plain [2] (by kernel_rfl) rfl fun us w' hG hV => ?_
            have e2 : us 2 = .agg CB := hV 2 (by simp)
            have v2 := (frame_at2 (us := us) hl (show (caT[8]?).join = some 2 from rfl)).trans e2
            generalize frame caT a0 us = fr at *
            exact call_ok (f := 49) (args := #[.agg CB]) (by go_simp) ((EB.out w').mono fun e w'' h => ⟨_, h.1, hG.below h.2, h.2, rfl⟩)
          · refine step_plain [1, 3] (by kernel_rfl) rfl fun us w' hG hV => ?_
            have e1 : us 1 = .int .i64 oa := hV 1 (by simp)
            have v1 := (frame_at2 (us := us) hl (show (caT[7]?).join = some 1 from rfl)).trans e1
            have e3 : us 3 = .int .i64 eb := hV 3 (by simp)
            have v3 := (frame_at2 (us := us) hl (show (caT[9]?).join = some 3 from rfl)).trans e3
            have q := Q1.out
            generalize frame caT a0 us = fr at *
            exact val_ok (v := .bool false) (w' := w') (by go_simp) hG (Below.refl _ _) rfl
          · refine step_plain [4] (by kernel_rfl) rfl fun us w' hG hV => ?_
            have e4 : us 4 = .bool false := hV 4 (by simp)
            have v4 := (frame_at2 (us := us) hl (show (caT[10]?).join = some 4 from rfl)).trans e4
            generalize frame caT a0 us = fr at *
            exact val_ok (v := .bool false) (w' := w') (by go_simp) hG (Below.refl _ _) rfl
          · exact step_skip [5] (by kernel_rfl) (j := 5) (t := 11) (b := true) rfl (by simp) rfl hl rfl (fun v w h => .inl h) fun _ => rfl
          · exact step_skip [5] (by kernel_rfl) (j := 5) (t := 11) (b := true) rfl (by simp) rfl hl rfl (fun v w h => .inl h) fun _ => rfl
          · exact step_skip [5] (by kernel_rfl) (j := 5) (t := 11) (b := true) rfl (by simp) rfl hl rfl (fun v w h => .inl h) fun _ => rfl
          · exact step_skip [5] (by kernel_rfl) (j := 5) (t := 11) (b := true) rfl (by simp) rfl hl rfl (fun v w h => .inl h) fun _ => rfl
          · exact step_skip [5] (by kernel_rfl) (j := 5) (t := 11) (b := true) rfl (by simp) rfl hl rfl (fun v w h => .inl h) fun _ => rfl
          · refine step_plain [5] (by kernel_rfl) rfl fun us w' hG hV => ?_
            have e5 : us 5 = .bool false := hV 5 (by simp)
            have v5 := (frame_at2 (us := us) hl (show (caT[11]?).join = some 5 from rfl)).trans e5
            generalize frame caT a0 us = fr at *
            exact val_ok (v := .bool false) (w' := w') (by go_simp) hG (Below.refl _ _) rfl
          · refine step_plain [11] (by kernel_rfl) rfl fun us w' hG hV => ?_
            have e11 : us 11 = .bool false := hV 11 (by simp)
            have v11 := (frame_at2 (us := us) hl (show (caT[17]?).join = some 11 from rfl)).trans e11
            generalize frame caT a0 us = fr at *
            exact val_ok (v := .bool false) (w' := w') (by go_simp) hG (Below.refl _ _) rfl
          · intro us w5 hG hV
            have eL : us 12 = .bool false := hV 12 (by decide)
            subst ha0
            simp only [frame, caT, fill]
            rw [eL]
            have HG3 := Lib.hid hG
            clear hV hl hG k2 k3 eL
            go_upto_region 2 with fail
            refine with_act fun a0 ha0 => ?_
            have hl : dfT.length = a0.tmps.size := by rw [ha0]; rfl
            have k2 : a0.tmps[2]?.getD undef = .pointer (some ⟨w.heap.size, 0, none⟩) := by rw [ha0]; rfl
            have k3 : a0.tmps[3]?.getD undef = .pointer (some ⟨(w.heap.size + 1), 0, none⟩) := by rw [ha0]; rfl
            have k5 : a0.tmps[5]?.getD undef = .bool false := by rw [ha0]; rfl
            refine wp_region_vals (by kernel_rfl) dfT (by kernel_rfl) (by kernel_rfl) hl (fun i => if i = 25 then .bool false else a0.tmps[i + 18]?.getD undef) (by rw [ha0]; rfl) (Gr W) (dfV w.heap.size (w.heap.size + 1) CA CB oa ob ea eb) HG3.out.drew (dfV.keep _ _ _ _ _ _ _ _) ⟨?_, ?_, ?_, ?_, ?_, ?_, ?_, ?_, ?_, ?_, ?_, ?_, ?_, ?_, ?_, ?_, ?_, ?_, ?_, ?_, ?_, ?_, ?_, ?_, ?_, ?_, trivial⟩ ?_
            · refine step_plain [] (by kernel_rfl) rfl fun us w' hG hV => ?_
              have o5 := (frame_old2 (us := us) (a := a0) (show (dfT[5]?).join = none from rfl)).trans k5
              generalize frame dfT a0 us = fr at *
              exact val_ok (v := .bool false) (w' := w') (by go_simp) hG (Below.refl _ _) rfl
            · refine step_plain [0] (by kernel_rfl) rfl fun us w' hG hV => ?_
              have e0 : us 0 = .bool false := hV 0 (by simp)
              have v0 := (frame_at2 (us := us) hl (show (dfT[18]?).join = some 0 from rfl)).trans e0
              generalize frame dfT a0 us = fr at *
              exact val_ok (v := .bool false) (w' := w') (by go_simp) hG (Below.refl _ _) rfl
            · refine step_guard [1] (by kernel_rfl) (j := 1) (t := 19) (b := false) rfl (by simp) rfl hl rfl (fun v w h => h) fun us w' hG hV => ?_
              have o2 := (frame_old2 (us := us) (a := a0) (show (dfT[2]?).join = none from rfl)).trans k2
              generalize frame dfT a0 us = fr at *
              exact val_ok (v := .pointer (some ⟨w.heap.size, 38, none⟩)) (w' := w') (by go_simp) hG (Below.refl _ _) rfl
            · refine step_guard [1, 2] (by kernel_rfl) (j := 1) (t := 19) (b := false) rfl (by simp) rfl hl rfl (fun v w h => h) fun us w' hG hV => ?_
              have e2 : us 2 = .pointer (some ⟨w.heap.size, 38, none⟩) := hV 2 (by simp)
              have v2 := (frame_at2 (us := us) hl (show (dfT[20]?).join = some 2 from rfl)).trans e2
              have hc := A2.out w' hG
              generalize frame dfT a0 us = fr at *
              exact val_ok (v := .bool false) (w' := w') (by go_simp) hG (Below.refl _ _) rfl
            · refine step_guard [1, 3] (by kernel_rfl) (j := 1) (t := 19) (b := false) rfl (by simp) rfl hl rfl (fun v w h => h) fun us w' hG hV => ?_
              have e3 : us 3 = .bool false := hV 3 (by simp)
              have v3 := (frame_at2 (us := us) hl (show (dfT[21]?).join = some 3 from rfl)).trans e3
              generalize frame dfT a0 us = fr at *
              exact val_ok (v := .bool true) (w' := w') (by go_simp) hG (Below.refl _ _) rfl
            · refine step_guard [1, 4] (by kernel_rfl) (j := 1) (t := 19) (b := false) rfl (by simp) rfl hl rfl (fun v w h => h) fun us w' hG hV => ?_
              have e4 : us 4 = .bool true := hV 4 (by simp)
              have v4 := (frame_at2 (us := us) hl (show (dfT[22]?).join = some 4 from rfl)).trans e4
              generalize frame dfT a0 us = fr at *
              exact val_ok (v := .bool true) (w' := w') (by go_simp) hG (Below.refl _ _) rfl
            · refine step_guard [5] (by kernel_rfl) (j := 5) (t := 23) (b := true) rfl (by simp) rfl hl rfl (fun v w h => h) fun us w' hG hV => ?_
              have o3 := (frame_old2 (us := us) (a := a0) (show (dfT[3]?).join = none from rfl)).trans k3
              have hg1 := (RB.out w' hG)
              generalize frame dfT a0 us = fr at *
              exact load_ok 28 3 rfl ((w.heap.size + 1)) o3 _ _ (0, 0) _ hg1 Try.underlying28 rfl IB.out hG rfl
            · refine step_guard [5, 6] (by kernel_rfl) (j := 5) (t := 23) (b := true) rfl (by simp) rfl hl rfl (fun v w h => h) fun us w' hG hV => ?_
              have e6 : us 6 = .agg CB := hV 6 (by simp)
              have v6 := (frame_at2 (us := us) hl (show (dfT[24]?).join = some 6 from rfl)).trans e6
              generalize frame dfT a0 us = fr at *
              exact call_ok (f := 49) (args := #[.agg CB]) (by go_simp) ((EB.out w').mono fun e w'' h => ⟨_, h.1, hG.below h.2, h.2, rfl⟩)
            · refine step_guard [5] (by kernel_rfl) (j := 5) (t := 23) (b := true) rfl (by simp) rfl hl rfl (fun v w h => h) fun us w' hG hV => ?_
              have o2 := (frame_old2 (us := us) (a := a0) (show (dfT[2]?).join = none from rfl)).trans k2
              have hg1 := (RA.out w' hG)
              generalize frame dfT a0 us = fr at *
              exact load_ok 28 2 rfl (w.heap.size) o2 _ _ (0, 0) _ hg1 Try.underlying28 rfl IA.out hG rfl
            · refine step_guard [5, 8] (by kernel_rfl) (j := 5) (t := 23) (b := true) rfl (by simp) rfl hl rfl (fun v w h => h) fun us w' hG hV => ?_
              have e8 : us 8 = .agg CA := hV 8 (by simp)
              have v8 := (frame_at2 (us := us) hl (show (dfT[26]?).join = some 8 from rfl)).trans e8
              generalize frame dfT a0 us = fr at *
              exact call_ok (f := 49) (args := #[.agg CA]) (by go_simp) ((EA.out w').mono fun e w'' h => ⟨_, h.1, hG.below h.2, h.2, rfl⟩)
            · refine step_guard [5, 7, 9] (by kernel_rfl) (j := 5) (t := 23) (b := true) rfl (by simp) rfl hl rfl (fun v w h => h) fun us w' hG hV => ?_
              have e7 : us 7 = .int .i64 eb := hV 7 (by simp)
              have v7 := (frame_at2 (us := us) hl (show (dfT[25]?).join = some 7 from rfl)).trans e7
              have e9 : us 9 = .int .i64 ea := hV 9 (by simp)
              have v9 := (frame_at2 (us := us) hl (show (dfT[27]?).join = some 9 from rfl)).trans e9
              have q := Q4.out
              generalize frame dfT a0 us = fr at *
              exact val_ok (v := .bool false) (w' := w') (by go_simp) hG (Below.refl _ _) rfl
            · refine step_guard [1, 5, 10] (by kernel_rfl) (j := 1) (t := 19) (b := false) rfl (by simp) rfl hl rfl (fun v w h => h) fun us w' hG hV => ?_
              have e5 : us 5 = .bool true := hV 5 (by simp)
              have v5 := (frame_at2 (us := us) hl (show (dfT[23]?).join = some 5 from rfl)).trans e5
              have e10 : us 10 = .bool false := hV 10 (by simp)
              have v10 := (frame_at2 (us := us) hl (show (dfT[28]?).join = some 10 from rfl)).trans e10
              generalize frame dfT a0 us = fr at *
              exact val_ok (v := .bool false) (w' := w') (by go_simp) hG (Below.refl _ _) rfl
            · refine step_plain [1, 11] (by kernel_rfl) rfl fun us w' hG hV => ?_
              have e1 : us 1 = .bool false := hV 1 (by simp)
              have v1 := (frame_at2 (us := us) hl (show (dfT[19]?).join = some 1 from rfl)).trans e1
              have e11 : us 11 = .bool false := hV 11 (by simp)
              have v11 := (frame_at2 (us := us) hl (show (dfT[29]?).join = some 11 from rfl)).trans e11
              generalize frame dfT a0 us = fr at *
              exact val_ok (v := .bool false) (w' := w') (by go_simp) hG (Below.refl _ _) rfl
            · refine step_plain [12] (by kernel_rfl) rfl fun us w' hG hV => ?_
              have e12 : us 12 = .bool false := hV 12 (by simp)
              have v12 := (frame_at2 (us := us) hl (show (dfT[30]?).join = some 12 from rfl)).trans e12
              generalize frame dfT a0 us = fr at *
              exact val_ok (v := .bool false) (w' := w') (by go_simp) hG (Below.refl _ _) rfl
            · refine step_guard [13] (by kernel_rfl) (j := 13) (t := 31) (b := false) rfl (by simp) rfl hl rfl (fun v w h => h) fun us w' hG hV => ?_
              have o3 := (frame_old2 (us := us) (a := a0) (show (dfT[3]?).join = none from rfl)).trans k3
              generalize frame dfT a0 us = fr at *
              exact val_ok (v := .pointer (some ⟨(w.heap.size + 1), 38, none⟩)) (w' := w') (by go_simp) hG (Below.refl _ _) rfl
            · refine step_guard [13, 14] (by kernel_rfl) (j := 13) (t := 31) (b := false) rfl (by simp) rfl hl rfl (fun v w h => h) fun us w' hG hV => ?_
              have e14 : us 14 = .pointer (some ⟨(w.heap.size + 1), 38, none⟩) := hV 14 (by simp)
              have v14 := (frame_at2 (us := us) hl (show (dfT[32]?).join = some 14 from rfl)).trans e14
              have hc := B2.out w' hG
              generalize frame dfT a0 us = fr at *
              exact val_ok (v := .bool true) (w' := w') (by go_simp) hG (Below.refl _ _) rfl
            · refine step_guard [13, 15] (by kernel_rfl) (j := 13) (t := 31) (b := false) rfl (by simp) rfl hl rfl (fun v w h => h) fun us w' hG hV => ?_
              have e15 : us 15 = .bool true := hV 15 (by simp)
              have v15 := (frame_at2 (us := us) hl (show (dfT[33]?).join = some 15 from rfl)).trans e15
              generalize frame dfT a0 us = fr at *
              exact val_ok (v := .bool false) (w' := w') (by go_simp) hG (Below.refl _ _) rfl
            · refine step_guard [13, 16] (by kernel_rfl) (j := 13) (t := 31) (b := false) rfl (by simp) rfl hl rfl (fun v w h => h) fun us w' hG hV => ?_
              have e16 : us 16 = .bool false := hV 16 (by simp)
              have v16 := (frame_at2 (us := us) hl (show (dfT[34]?).join = some 16 from rfl)).trans e16
              generalize frame dfT a0 us = fr at *
              exact val_ok (v := .bool false) (w' := w') (by go_simp) hG (Below.refl _ _) rfl
            · exact step_skip [17] (by kernel_rfl) (j := 17) (t := 35) (b := true) rfl (by simp) rfl hl rfl (fun v w h => .inl h) fun _ => rfl
            · exact step_skip [17] (by kernel_rfl) (j := 17) (t := 35) (b := true) rfl (by simp) rfl hl rfl (fun v w h => .inl h) fun _ => rfl
            · exact step_skip [17] (by kernel_rfl) (j := 17) (t := 35) (b := true) rfl (by simp) rfl hl rfl (fun v w h => .inl h) fun _ => rfl
            · exact step_skip [17] (by kernel_rfl) (j := 17) (t := 35) (b := true) rfl (by simp) rfl hl rfl (fun v w h => .inl h) fun _ => rfl
            · exact step_skip [17] (by kernel_rfl) (j := 17) (t := 35) (b := true) rfl (by simp) rfl hl rfl (fun v w h => .inl h) fun _ => rfl
            · refine step_guard [13, 17] (by kernel_rfl) (j := 13) (t := 31) (b := false) rfl (by simp) rfl hl rfl (fun v w h => h) fun us w' hG hV => ?_
              have e17 : us 17 = .bool false := hV 17 (by simp)
              have v17 := (frame_at2 (us := us) hl (show (dfT[35]?).join = some 17 from rfl)).trans e17
              generalize frame dfT a0 us = fr at *
              exact val_ok (v := .bool false) (w' := w') (by go_simp) hG (Below.refl _ _) rfl
            · refine step_plain [13, 23] (by kernel_rfl) rfl fun us w' hG hV => ?_
              have e13 : us 13 = .bool false := hV 13 (by simp)
              have v13 := (frame_at2 (us := us) hl (show (dfT[31]?).join = some 13 from rfl)).trans e13
              have e23 : us 23 = .bool false := hV 23 (by simp)
              have v23 := (frame_at2 (us := us) hl (show (dfT[41]?).join = some 23 from rfl)).trans e23
              generalize frame dfT a0 us = fr at *
              exact val_ok (v := .bool false) (w' := w') (by go_simp) hG (Below.refl _ _) rfl
            · refine step_plain [24] (by kernel_rfl) rfl fun us w' hG hV => ?_
              have e24 : us 24 = .bool false := hV 24 (by simp)
              have v24 := (frame_at2 (us := us) hl (show (dfT[42]?).join = some 24 from rfl)).trans e24
              generalize frame dfT a0 us = fr at *
              exact val_ok (v := .bool false) (w' := w') (by go_simp) hG (Below.refl _ _) rfl
            · intro us w7 hG hV
              have eL : us 25 = .bool false := hV 25 (by decide)
              subst ha0
              simp only [frame, dfT, fill]
              rw [eL]
              have HG4 := Lib.hid hG
              clear hV hl hG k2 k3 k5 eL
              go_wp2_with fail
              go_ret
              exact ⟨ret_bool HVV.out.symm, HB.out.trans (Below.mono HG4.out HB.out.size)⟩
        · by_cases h5 : eb < ea
          · have Q1 := Lib.hid h1
            have Q4 := Lib.hid h4
            have Q5 := Lib.hid h5
            have HVV := Lib.hid (show V = true by rw [HV.out]; simp [h1, h4, h5])
            clear HV h1 h4 h5
            go_enter Try.func45, Try.ntmps45
            go_upto_region 1 with fail
            rw [← hW]
            clear hW R0 R1
            refine with_act fun a0 ha0 => ?_
            have hl : caT.length = a0.tmps.size := by rw [ha0]; rfl
            have k2 : a0.tmps[2]?.getD undef = .pointer (some ⟨w.heap.size, 0, none⟩) := by rw [ha0]; rfl
            have k3 : a0.tmps[3]?.getD undef = .pointer (some ⟨(w.heap.size + 1), 0, none⟩) := by rw [ha0]; rfl
            refine wp_region_vals (by kernel_rfl) caT (by kernel_rfl) (by kernel_rfl) hl (fun i => undef) (by rw [ha0]; rfl) (Gr W) (caV w.heap.size (w.heap.size + 1) CA CB oa ob ea eb) (show Gr _ _ from (Below.refl _ _).drew) (caV.keep _ _ _ _ _ _ _ _) ⟨?_, ?_, ?_, ?_, ?_, ?_, ?_, ?_, ?_, ?_, ?_, ?_, ?_, trivial⟩ ?_
            · refine step_plain [] (by kernel_rfl) rfl fun us w' hG hV => ?_
              have o2 := (frame_old2 (us := us) (a := a0) (show (caT[2]?).join = none from rfl)).trans k2
              generalize frame caT a0 us = fr at *
              exact val_ok (v := .pointer (some ⟨w.heap.size, 39, none⟩)) (w' := w') (by go_simp) hG (Below.refl _ _) rfl
            · refine step_plain [0] (by kernel_rfl) rfl fun us w' hG hV => ?_
              have e0 : us 0 = .pointer (some ⟨w.heap.size, 39, none⟩) := hV 0 (by simp)
              have v0 := (frame_at2 (us := us) hl (show (caT[6]?).join = some 0 from rfl)).trans e0
              have hc := A1.out w' hG
              generalize frame caT a0 us = fr at *
              exact val_ok (v := .int .i64 oa) (w' := w') (by go_simp) hG (Below.refl _ _) rfl
            · refine step_plain [] (by kernel_rfl) rfl fun us w' hG hV => ?_
              have o3 := (frame_old2 (us := us) (a := a0) (show (caT[3]?).join = none from rfl)).trans k3
              have hg1 := (RB.out w' hG)
              generalize frame caT a0 us = fr at *
              exact load_ok 28 3 rfl ((w.heap.size + 1)) o3 _ _ (0, 0) _ hg1 Try.underlying28 rfl IB.out hG rfl
            · refine step_plain [2] (by kernel_rfl) rfl fun us w' hG hV => ?_
              have e2 : us 2 = .agg CB := hV 2 (by simp)
              have v2 := (frame_at2 (us := us) hl (show (caT[8]?).join = some 2 from rfl)).trans e2
              generalize frame caT a0 us = fr at *
              exact call_ok (f := 49) (args := #[.agg CB]) (by go_simp) ((EB.out w').mono fun e w'' h => ⟨_, h.1, hG.below h.2, h.2, rfl⟩)
            · refine step_plain [1, 3] (by kernel_rfl) rfl fun us w' hG hV => ?_
              have e1 : us 1 = .int .i64 oa := hV 1 (by simp)
              have v1 := (frame_at2 (us := us) hl (show (caT[7]?).join = some 1 from rfl)).trans e1
              have e3 : us 3 = .int .i64 eb := hV 3 (by simp)
              have v3 := (frame_at2 (us := us) hl (show (caT[9]?).join = some 3 from rfl)).trans e3
              have q := Q1.out
              generalize frame caT a0 us = fr at *
              exact val_ok (v := .bool false) (w' := w') (by go_simp) hG (Below.refl _ _) rfl
            · refine step_plain [4] (by kernel_rfl) rfl fun us w' hG hV => ?_
              have e4 : us 4 = .bool false := hV 4 (by simp)
              have v4 := (frame_at2 (us := us) hl (show (caT[10]?).join = some 4 from rfl)).trans e4
              generalize frame caT a0 us = fr at *
              exact val_ok (v := .bool false) (w' := w') (by go_simp) hG (Below.refl _ _) rfl
            · exact step_skip [5] (by kernel_rfl) (j := 5) (t := 11) (b := true) rfl (by simp) rfl hl rfl (fun v w h => .inl h) fun _ => rfl
            · exact step_skip [5] (by kernel_rfl) (j := 5) (t := 11) (b := true) rfl (by simp) rfl hl rfl (fun v w h => .inl h) fun _ => rfl
            · exact step_skip [5] (by kernel_rfl) (j := 5) (t := 11) (b := true) rfl (by simp) rfl hl rfl (fun v w h => .inl h) fun _ => rfl
            · exact step_skip [5] (by kernel_rfl) (j := 5) (t := 11) (b := true) rfl (by simp) rfl hl rfl (fun v w h => .inl h) fun _ => rfl
            · exact step_skip [5] (by kernel_rfl) (j := 5) (t := 11) (b := true) rfl (by simp) rfl hl rfl (fun v w h => .inl h) fun _ => rfl
            · refine step_plain [5] (by kernel_rfl) rfl fun us w' hG hV => ?_
              have e5 : us 5 = .bool false := hV 5 (by simp)
              have v5 := (frame_at2 (us := us) hl (show (caT[11]?).join = some 5 from rfl)).trans e5
              generalize frame caT a0 us = fr at *
              exact val_ok (v := .bool false) (w' := w') (by go_simp) hG (Below.refl _ _) rfl
            · refine step_plain [11] (by kernel_rfl) rfl fun us w' hG hV => ?_
              have e11 : us 11 = .bool false := hV 11 (by simp)
              have v11 := (frame_at2 (us := us) hl (show (caT[17]?).join = some 11 from rfl)).trans e11
              generalize frame caT a0 us = fr at *
              exact val_ok (v := .bool false) (w' := w') (by go_simp) hG (Below.refl _ _) rfl
            · intro us w5 hG hV
              have eL : us 12 = .bool false := hV 12 (by decide)
              subst ha0
              simp only [frame, caT, fill]
              rw [eL]
              have HG3 := Lib.hid hG
              clear hV hl hG k2 k3 eL
              go_upto_region 2 with fail
              refine with_act fun a0 ha0 => ?_
              have hl : dhT.length = a0.tmps.size := by rw [ha0]; rfl
              have k2 : a0.tmps[2]?.getD undef = .pointer (some ⟨w.heap.size, 0, none⟩) := by rw [ha0]; rfl
              have k3 : a0.tmps[3]?.getD undef = .pointer (some ⟨(w.heap.size + 1), 0, none⟩) := by rw [ha0]; rfl
              have k5 : a0.tmps[5]?.getD undef = .bool false := by rw [ha0]; rfl
              refine wp_region_vals (by kernel_rfl) dhT (by kernel_rfl) (by kernel_rfl) hl (fun i => if i = 25 then .bool false else a0.tmps[i + 18]?.getD undef) (by rw [ha0]; rfl) (Gr W) (dhV w.heap.size (w.heap.size + 1) CA CB oa ob ea eb) HG3.out.drew (dhV.keep _ _ _ _ _ _ _ _) ⟨?_, ?_, ?_, ?_, ?_, ?_, ?_, ?_, ?_, ?_, ?_, ?_, ?_, ?_, ?_, ?_, ?_, ?_, ?_, ?_, ?_, ?_, ?_, ?_, ?_, ?_, trivial⟩ ?_
              · refine step_plain [] (by kernel_rfl) rfl fun us w' hG hV => ?_
                have o5 := (frame_old2 (us := us) (a := a0) (show (dhT[5]?).join = none from rfl)).trans k5
                generalize frame dhT a0 us = fr at *
                exact val_ok (v := .bool false) (w' := w') (by go_simp) hG (Below.refl _ _) rfl
              · refine step_plain [0] (by kernel_rfl) rfl fun us w' hG hV => ?_
                have e0 : us 0 = .bool false := hV 0 (by simp)
                have v0 := (frame_at2 (us := us) hl (show (dhT[18]?).join = some 0 from rfl)).trans e0
                generalize frame dhT a0 us = fr at *
                exact val_ok (v := .bool false) (w' := w') (by go_simp) hG (Below.refl _ _) rfl
              · refine step_guard [1] (by kernel_rfl) (j := 1) (t := 19) (b := false) rfl (by simp) rfl hl rfl (fun v w h => h) fun us w' hG hV => ?_
                have o2 := (frame_old2 (us := us) (a := a0) (show (dhT[2]?).join = none from rfl)).trans k2
                generalize frame dhT a0 us = fr at *
                exact val_ok (v := .pointer (some ⟨w.heap.size, 38, none⟩)) (w' := w') (by go_simp) hG (Below.refl _ _) rfl
              · refine step_guard [1, 2] (by kernel_rfl) (j := 1) (t := 19) (b := false) rfl (by simp) rfl hl rfl (fun v w h => h) fun us w' hG hV => ?_
                have e2 : us 2 = .pointer (some ⟨w.heap.size, 38, none⟩) := hV 2 (by simp)
                have v2 := (frame_at2 (us := us) hl (show (dhT[20]?).join = some 2 from rfl)).trans e2
                have hc := A2.out w' hG
                generalize frame dhT a0 us = fr at *
                exact val_ok (v := .bool false) (w' := w') (by go_simp) hG (Below.refl _ _) rfl
              · refine step_guard [1, 3] (by kernel_rfl) (j := 1) (t := 19) (b := false) rfl (by simp) rfl hl rfl (fun v w h => h) fun us w' hG hV => ?_
                have e3 : us 3 = .bool false := hV 3 (by simp)
                have v3 := (frame_at2 (us := us) hl (show (dhT[21]?).join = some 3 from rfl)).trans e3
                generalize frame dhT a0 us = fr at *
                exact val_ok (v := .bool true) (w' := w') (by go_simp) hG (Below.refl _ _) rfl
              · refine step_guard [1, 4] (by kernel_rfl) (j := 1) (t := 19) (b := false) rfl (by simp) rfl hl rfl (fun v w h => h) fun us w' hG hV => ?_
                have e4 : us 4 = .bool true := hV 4 (by simp)
                have v4 := (frame_at2 (us := us) hl (show (dhT[22]?).join = some 4 from rfl)).trans e4
                generalize frame dhT a0 us = fr at *
                exact val_ok (v := .bool true) (w' := w') (by go_simp) hG (Below.refl _ _) rfl
              · refine step_guard [5] (by kernel_rfl) (j := 5) (t := 23) (b := true) rfl (by simp) rfl hl rfl (fun v w h => h) fun us w' hG hV => ?_
                have o3 := (frame_old2 (us := us) (a := a0) (show (dhT[3]?).join = none from rfl)).trans k3
                have hg1 := (RB.out w' hG)
                generalize frame dhT a0 us = fr at *
                exact load_ok 28 3 rfl ((w.heap.size + 1)) o3 _ _ (0, 0) _ hg1 Try.underlying28 rfl IB.out hG rfl
              · refine step_guard [5, 6] (by kernel_rfl) (j := 5) (t := 23) (b := true) rfl (by simp) rfl hl rfl (fun v w h => h) fun us w' hG hV => ?_
                have e6 : us 6 = .agg CB := hV 6 (by simp)
                have v6 := (frame_at2 (us := us) hl (show (dhT[24]?).join = some 6 from rfl)).trans e6
                generalize frame dhT a0 us = fr at *
                exact call_ok (f := 49) (args := #[.agg CB]) (by go_simp) ((EB.out w').mono fun e w'' h => ⟨_, h.1, hG.below h.2, h.2, rfl⟩)
              · refine step_guard [5] (by kernel_rfl) (j := 5) (t := 23) (b := true) rfl (by simp) rfl hl rfl (fun v w h => h) fun us w' hG hV => ?_
                have o2 := (frame_old2 (us := us) (a := a0) (show (dhT[2]?).join = none from rfl)).trans k2
                have hg1 := (RA.out w' hG)
                generalize frame dhT a0 us = fr at *
                exact load_ok 28 2 rfl (w.heap.size) o2 _ _ (0, 0) _ hg1 Try.underlying28 rfl IA.out hG rfl
              · refine step_guard [5, 8] (by kernel_rfl) (j := 5) (t := 23) (b := true) rfl (by simp) rfl hl rfl (fun v w h => h) fun us w' hG hV => ?_
                have e8 : us 8 = .agg CA := hV 8 (by simp)
                have v8 := (frame_at2 (us := us) hl (show (dhT[26]?).join = some 8 from rfl)).trans e8
                generalize frame dhT a0 us = fr at *
                exact call_ok (f := 49) (args := #[.agg CA]) (by go_simp) ((EA.out w').mono fun e w'' h => ⟨_, h.1, hG.below h.2, h.2, rfl⟩)
              · refine step_guard [5, 7, 9] (by kernel_rfl) (j := 5) (t := 23) (b := true) rfl (by simp) rfl hl rfl (fun v w h => h) fun us w' hG hV => ?_
                have e7 : us 7 = .int .i64 eb := hV 7 (by simp)
                have v7 := (frame_at2 (us := us) hl (show (dhT[25]?).join = some 7 from rfl)).trans e7
                have e9 : us 9 = .int .i64 ea := hV 9 (by simp)
                have v9 := (frame_at2 (us := us) hl (show (dhT[27]?).join = some 9 from rfl)).trans e9
                have q := Q4.out
                generalize frame dhT a0 us = fr at *
                exact val_ok (v := .bool false) (w' := w') (by go_simp) hG (Below.refl _ _) rfl
              · refine step_guard [1, 5, 10] (by kernel_rfl) (j := 1) (t := 19) (b := false) rfl (by simp) rfl hl rfl (fun v w h => h) fun us w' hG hV => ?_
                have e5 : us 5 = .bool true := hV 5 (by simp)
                have v5 := (frame_at2 (us := us) hl (show (dhT[23]?).join = some 5 from rfl)).trans e5
                have e10 : us 10 = .bool false := hV 10 (by simp)
                have v10 := (frame_at2 (us := us) hl (show (dhT[28]?).join = some 10 from rfl)).trans e10
                generalize frame dhT a0 us = fr at *
                exact val_ok (v := .bool false) (w' := w') (by go_simp) hG (Below.refl _ _) rfl
              · refine step_plain [1, 11] (by kernel_rfl) rfl fun us w' hG hV => ?_
                have e1 : us 1 = .bool false := hV 1 (by simp)
                have v1 := (frame_at2 (us := us) hl (show (dhT[19]?).join = some 1 from rfl)).trans e1
                have e11 : us 11 = .bool false := hV 11 (by simp)
                have v11 := (frame_at2 (us := us) hl (show (dhT[29]?).join = some 11 from rfl)).trans e11
                generalize frame dhT a0 us = fr at *
                exact val_ok (v := .bool false) (w' := w') (by go_simp) hG (Below.refl _ _) rfl
              · refine step_plain [12] (by kernel_rfl) rfl fun us w' hG hV => ?_
                have e12 : us 12 = .bool false := hV 12 (by simp)
                have v12 := (frame_at2 (us := us) hl (show (dhT[30]?).join = some 12 from rfl)).trans e12
                generalize frame dhT a0 us = fr at *
                exact val_ok (v := .bool false) (w' := w') (by go_simp) hG (Below.refl _ _) rfl
              · refine step_guard [13] (by kernel_rfl) (j := 13) (t := 31) (b := false) rfl (by simp) rfl hl rfl (fun v w h => h) fun us w' hG hV => ?_
                have o3 := (frame_old2 (us := us) (a := a0) (show (dhT[3]?).join = none from rfl)).trans k3
                generalize frame dhT a0 us = fr at *
                exact val_ok (v := .pointer (some ⟨(w.heap.size + 1), 38, none⟩)) (w' := w') (by go_simp) hG (Below.refl _ _) rfl
              · refine step_guard [13, 14] (by kernel_rfl) (j := 13) (t := 31) (b := false) rfl (by simp) rfl hl rfl (fun v w h => h) fun us w' hG hV => ?_
                have e14 : us 14 = .pointer (some ⟨(w.heap.size + 1), 38, none⟩) := hV 14 (by simp)
                have v14 := (frame_at2 (us := us) hl (show (dhT[32]?).join = some 14 from rfl)).trans e14
                have hc := B2.out w' hG
                generalize frame dhT a0 us = fr at *
                exact val_ok (v := .bool false) (w' := w') (by go_simp) hG (Below.refl _ _) rfl
              · refine step_guard [13, 15] (by kernel_rfl) (j := 13) (t := 31) (b := false) rfl (by simp) rfl hl rfl (fun v w h => h) fun us w' hG hV => ?_
                have e15 : us 15 = .bool false := hV 15 (by simp)
                have v15 := (frame_at2 (us := us) hl (show (dhT[33]?).join = some 15 from rfl)).trans e15
                generalize frame dhT a0 us = fr at *
                exact val_ok (v := .bool true) (w' := w') (by go_simp) hG (Below.refl _ _) rfl
              · refine step_guard [13, 16] (by kernel_rfl) (j := 13) (t := 31) (b := false) rfl (by simp) rfl hl rfl (fun v w h => h) fun us w' hG hV => ?_
                have e16 : us 16 = .bool true := hV 16 (by simp)
                have v16 := (frame_at2 (us := us) hl (show (dhT[34]?).join = some 16 from rfl)).trans e16
                generalize frame dhT a0 us = fr at *
                exact val_ok (v := .bool true) (w' := w') (by go_simp) hG (Below.refl _ _) rfl
              · refine step_guard [17] (by kernel_rfl) (j := 17) (t := 35) (b := true) rfl (by simp) rfl hl rfl (fun v w h => h) fun us w' hG hV => ?_
                have o2 := (frame_old2 (us := us) (a := a0) (show (dhT[2]?).join = none from rfl)).trans k2
                have hg1 := (RA.out w' hG)
                generalize frame dhT a0 us = fr at *
                exact load_ok 28 2 rfl (w.heap.size) o2 _ _ (0, 0) _ hg1 Try.underlying28 rfl IA.out hG rfl
              · refine step_guard [17, 18] (by kernel_rfl) (j := 17) (t := 35) (b := true) rfl (by simp) rfl hl rfl (fun v w h => h) fun us w' hG hV => ?_
                have e18 : us 18 = .agg CA := hV 18 (by simp)
                have v18 := (frame_at2 (us := us) hl (show (dhT[36]?).join = some 18 from rfl)).trans e18
                generalize frame dhT a0 us = fr at *
                exact call_ok (f := 49) (args := #[.agg CA]) (by go_simp) ((EA.out w').mono fun e w'' h => ⟨_, h.1, hG.below h.2, h.2, rfl⟩)
              · refine step_guard [17] (by kernel_rfl) (j := 17) (t := 35) (b := true) rfl (by simp) rfl hl rfl (fun v w h => h) fun us w' hG hV => ?_
                have o3 := (frame_old2 (us := us) (a := a0) (show (dhT[3]?).join = none from rfl)).trans k3
                have hg1 := (RB.out w' hG)
                generalize frame dhT a0 us = fr at *
                exact load_ok 28 3 rfl ((w.heap.size + 1)) o3 _ _ (0, 0) _ hg1 Try.underlying28 rfl IB.out hG rfl
              · refine step_guard [17, 20] (by kernel_rfl) (j := 17) (t := 35) (b := true) rfl (by simp) rfl hl rfl (fun v w h => h) fun us w' hG hV => ?_
                have e20 : us 20 = .agg CB := hV 20 (by simp)
                have v20 := (frame_at2 (us := us) hl (show (dhT[38]?).join = some 20 from rfl)).trans e20
                generalize frame dhT a0 us = fr at *
                exact call_ok (f := 49) (args := #[.agg CB]) (by go_simp) ((EB.out w').mono fun e w'' h => ⟨_, h.1, hG.below h.2, h.2, rfl⟩)
              · refine step_guard [17, 19, 21] (by kernel_rfl) (j := 17) (t := 35) (b := true) rfl (by simp) rfl hl rfl (fun v w h => h) fun us w' hG hV => ?_
                have e19 : us 19 = .int .i64 ea := hV 19 (by simp)
                have v19 := (frame_at2 (us := us) hl (show (dhT[37]?).join = some 19 from rfl)).trans e19
                have e21 : us 21 = .int .i64 eb := hV 21 (by simp)
                have v21 := (frame_at2 (us := us) hl (show (dhT[39]?).join = some 21 from rfl)).trans e21
                have q := Q5.out
                generalize frame dhT a0 us = fr at *
                exact val_ok (v := .bool true) (w' := w') (by go_simp) hG (Below.refl _ _) rfl
              · refine step_guard [13, 17, 22] (by kernel_rfl) (j := 13) (t := 31) (b := false) rfl (by simp) rfl hl rfl (fun v w h => h) fun us w' hG hV => ?_
                have e17 : us 17 = .bool true := hV 17 (by simp)
                have v17 := (frame_at2 (us := us) hl (show (dhT[35]?).join = some 17 from rfl)).trans e17
                have e22 : us 22 = .bool true := hV 22 (by simp)
                have v22 := (frame_at2 (us := us) hl (show (dhT[40]?).join = some 22 from rfl)).trans e22
                generalize frame dhT a0 us = fr at *
                exact val_ok (v := .bool true) (w' := w') (by go_simp) hG (Below.refl _ _) rfl
              · refine step_plain [13, 23] (by kernel_rfl) rfl fun us w' hG hV => ?_
                have e13 : us 13 = .bool false := hV 13 (by simp)
                have v13 := (frame_at2 (us := us) hl (show (dhT[31]?).join = some 13 from rfl)).trans e13
                have e23 : us 23 = .bool true := hV 23 (by simp)
                have v23 := (frame_at2 (us := us) hl (show (dhT[41]?).join = some 23 from rfl)).trans e23
                generalize frame dhT a0 us = fr at *
                exact val_ok (v := .bool true) (w' := w') (by go_simp) hG (Below.refl _ _) rfl
              · refine step_plain [24] (by kernel_rfl) rfl fun us w' hG hV => ?_
                have e24 : us 24 = .bool true := hV 24 (by simp)
                have v24 := (frame_at2 (us := us) hl (show (dhT[42]?).join = some 24 from rfl)).trans e24
                generalize frame dhT a0 us = fr at *
                exact val_ok (v := .bool true) (w' := w') (by go_simp) hG (Below.refl _ _) rfl
              · intro us w7 hG hV
                have eL : us 25 = .bool true := hV 25 (by decide)
                subst ha0
                simp only [frame, dhT, fill]
                rw [eL]
                have HG4 := Lib.hid hG
                clear hV hl hG k2 k3 k5 eL
                go_wp2_with fail
                go_ret
                exact ⟨ret_bool HVV.out.symm, HB.out.trans (Below.mono HG4.out HB.out.size)⟩
          · have Q1 := Lib.hid h1
            have Q4 := Lib.hid h4
            have Q5 := Lib.hid h5
            have HVV := Lib.hid (show V = false by rw [HV.out]; simp [h1, h4, h5])
            clear HV h1 h4 h5
            go_enter Try.func45, Try.ntmps45
            go_upto_region 1 with fail
            rw [← hW]
            clear hW R0 R1
            refine with_act fun a0 ha0 => ?_
            have hl : caT.length = a0.tmps.size := by rw [ha0]; rfl
            have k2 : a0.tmps[2]?.getD undef = .pointer (some ⟨w.heap.size, 0, none⟩) := by rw [ha0]; rfl
            have k3 : a0.tmps[3]?.getD undef = .pointer (some ⟨(w.heap.size + 1), 0, none⟩) := by rw [ha0]; rfl
            refine wp_region_vals (by kernel_rfl) caT (by kernel_rfl) (by kernel_rfl) hl (fun i => undef) (by rw [ha0]; rfl) (Gr W) (caV w.heap.size (w.heap.size + 1) CA CB oa ob ea eb) (show Gr _ _ from (Below.refl _ _).drew) (caV.keep _ _ _ _ _ _ _ _) ⟨?_, ?_, ?_, ?_, ?_, ?_, ?_, ?_, ?_, ?_, ?_, ?_, ?_, trivial⟩ ?_
            · refine step_plain [] (by kernel_rfl) rfl fun us w' hG hV => ?_
              have o2 := (frame_old2 (us := us) (a := a0) (show (caT[2]?).join = none from rfl)).trans k2
              generalize frame caT a0 us = fr at *
              exact val_ok (v := .pointer (some ⟨w.heap.size, 39, none⟩)) (w' := w') (by go_simp) hG (Below.refl _ _) rfl
            · refine step_plain [0] (by kernel_rfl) rfl fun us w' hG hV => ?_
              have e0 : us 0 = .pointer (some ⟨w.heap.size, 39, none⟩) := hV 0 (by simp)
              have v0 := (frame_at2 (us := us) hl (show (caT[6]?).join = some 0 from rfl)).trans e0
              have hc := A1.out w' hG
              generalize frame caT a0 us = fr at *
              exact val_ok (v := .int .i64 oa) (w' := w') (by go_simp) hG (Below.refl _ _) rfl
            · refine step_plain [] (by kernel_rfl) rfl fun us w' hG hV => ?_
              have o3 := (frame_old2 (us := us) (a := a0) (show (caT[3]?).join = none from rfl)).trans k3
              have hg1 := (RB.out w' hG)
              generalize frame caT a0 us = fr at *
              exact load_ok 28 3 rfl ((w.heap.size + 1)) o3 _ _ (0, 0) _ hg1 Try.underlying28 rfl IB.out hG rfl
            · refine step_plain [2] (by kernel_rfl) rfl fun us w' hG hV => ?_
              have e2 : us 2 = .agg CB := hV 2 (by simp)
              have v2 := (frame_at2 (us := us) hl (show (caT[8]?).join = some 2 from rfl)).trans e2
              generalize frame caT a0 us = fr at *
              exact call_ok (f := 49) (args := #[.agg CB]) (by go_simp) ((EB.out w').mono fun e w'' h => ⟨_, h.1, hG.below h.2, h.2, rfl⟩)
            · refine step_plain [1, 3] (by kernel_rfl) rfl fun us w' hG hV => ?_
              have e1 : us 1 = .int .i64 oa := hV 1 (by simp)
              have v1 := (frame_at2 (us := us) hl (show (caT[7]?).join = some 1 from rfl)).trans e1
              have e3 : us 3 = .int .i64 eb := hV 3 (by simp)
              have v3 := (frame_at2 (us := us) hl (show (caT[9]?).join = some 3 from rfl)).trans e3
              have q := Q1.out
              generalize frame caT a0 us = fr at *
              exact val_ok (v := .bool false) (w' := w') (by go_simp) hG (Below.refl _ _) rfl
            · refine step_plain [4] (by kernel_rfl) rfl fun us w' hG hV => ?_
              have e4 : us 4 = .bool false := hV 4 (by simp)
              have v4 := (frame_at2 (us := us) hl (show (caT[10]?).join = some 4 from rfl)).trans e4
              generalize frame caT a0 us = fr at *
              exact val_ok (v := .bool false) (w' := w') (by go_simp) hG (Below.refl _ _) rfl
            · exact step_skip [5] (by kernel_rfl) (j := 5) (t := 11) (b := true) rfl (by simp) rfl hl rfl (fun v w h => .inl h) fun _ => rfl
            · exact step_skip [5] (by kernel_rfl) (j := 5) (t := 11) (b := true) rfl (by simp) rfl hl rfl (fun v w h => .inl h) fun _ => rfl
            · exact step_skip [5] (by kernel_rfl) (j := 5) (t := 11) (b := true) rfl (by simp) rfl hl rfl (fun v w h => .inl h) fun _ => rfl
            · exact step_skip [5] (by kernel_rfl) (j := 5) (t := 11) (b := true) rfl (by simp) rfl hl rfl (fun v w h => .inl h) fun _ => rfl
            · exact step_skip [5] (by kernel_rfl) (j := 5) (t := 11) (b := true) rfl (by simp) rfl hl rfl (fun v w h => .inl h) fun _ => rfl
            · refine step_plain [5] (by kernel_rfl) rfl fun us w' hG hV => ?_
              have e5 : us 5 = .bool false := hV 5 (by simp)
              have v5 := (frame_at2 (us := us) hl (show (caT[11]?).join = some 5 from rfl)).trans e5
              generalize frame caT a0 us = fr at *
              exact val_ok (v := .bool false) (w' := w') (by go_simp) hG (Below.refl _ _) rfl
            · refine step_plain [11] (by kernel_rfl) rfl fun us w' hG hV => ?_
              have e11 : us 11 = .bool false := hV 11 (by simp)
              have v11 := (frame_at2 (us := us) hl (show (caT[17]?).join = some 11 from rfl)).trans e11
              generalize frame caT a0 us = fr at *
              exact val_ok (v := .bool false) (w' := w') (by go_simp) hG (Below.refl _ _) rfl
            · intro us w5 hG hV
              have eL : us 12 = .bool false := hV 12 (by decide)
              subst ha0
              simp only [frame, caT, fill]
              rw [eL]
              have HG3 := Lib.hid hG
              clear hV hl hG k2 k3 eL
              go_upto_region 2 with fail
              refine with_act fun a0 ha0 => ?_
              have hl : dgT.length = a0.tmps.size := by rw [ha0]; rfl
              have k2 : a0.tmps[2]?.getD undef = .pointer (some ⟨w.heap.size, 0, none⟩) := by rw [ha0]; rfl
              have k3 : a0.tmps[3]?.getD undef = .pointer (some ⟨(w.heap.size + 1), 0, none⟩) := by rw [ha0]; rfl
              have k5 : a0.tmps[5]?.getD undef = .bool false := by rw [ha0]; rfl
              refine wp_region_vals (by kernel_rfl) dgT (by kernel_rfl) (by kernel_rfl) hl (fun i => if i = 25 then .bool false else a0.tmps[i + 18]?.getD undef) (by rw [ha0]; rfl) (Gr W) (dgV w.heap.size (w.heap.size + 1) CA CB oa ob ea eb) HG3.out.drew (dgV.keep _ _ _ _ _ _ _ _) ⟨?_, ?_, ?_, ?_, ?_, ?_, ?_, ?_, ?_, ?_, ?_, ?_, ?_, ?_, ?_, ?_, ?_, ?_, ?_, ?_, ?_, ?_, ?_, ?_, ?_, ?_, trivial⟩ ?_
              · refine step_plain [] (by kernel_rfl) rfl fun us w' hG hV => ?_
                have o5 := (frame_old2 (us := us) (a := a0) (show (dgT[5]?).join = none from rfl)).trans k5
                generalize frame dgT a0 us = fr at *
                exact val_ok (v := .bool false) (w' := w') (by go_simp) hG (Below.refl _ _) rfl
              · refine step_plain [0] (by kernel_rfl) rfl fun us w' hG hV => ?_
                have e0 : us 0 = .bool false := hV 0 (by simp)
                have v0 := (frame_at2 (us := us) hl (show (dgT[18]?).join = some 0 from rfl)).trans e0
                generalize frame dgT a0 us = fr at *
                exact val_ok (v := .bool false) (w' := w') (by go_simp) hG (Below.refl _ _) rfl
              · refine step_guard [1] (by kernel_rfl) (j := 1) (t := 19) (b := false) rfl (by simp) rfl hl rfl (fun v w h => h) fun us w' hG hV => ?_
                have o2 := (frame_old2 (us := us) (a := a0) (show (dgT[2]?).join = none from rfl)).trans k2
                generalize frame dgT a0 us = fr at *
                exact val_ok (v := .pointer (some ⟨w.heap.size, 38, none⟩)) (w' := w') (by go_simp) hG (Below.refl _ _) rfl
              · refine step_guard [1, 2] (by kernel_rfl) (j := 1) (t := 19) (b := false) rfl (by simp) rfl hl rfl (fun v w h => h) fun us w' hG hV => ?_
                have e2 : us 2 = .pointer (some ⟨w.heap.size, 38, none⟩) := hV 2 (by simp)
                have v2 := (frame_at2 (us := us) hl (show (dgT[20]?).join = some 2 from rfl)).trans e2
                have hc := A2.out w' hG
                generalize frame dgT a0 us = fr at *
                exact val_ok (v := .bool false) (w' := w') (by go_simp) hG (Below.refl _ _) rfl
              · refine step_guard [1, 3] (by kernel_rfl) (j := 1) (t := 19) (b := false) rfl (by simp) rfl hl rfl (fun v w h => h) fun us w' hG hV => ?_
                have e3 : us 3 = .bool false := hV 3 (by simp)
                have v3 := (frame_at2 (us := us) hl (show (dgT[21]?).join = some 3 from rfl)).trans e3
                generalize frame dgT a0 us = fr at *
                exact val_ok (v := .bool true) (w' := w') (by go_simp) hG (Below.refl _ _) rfl
              · refine step_guard [1, 4] (by kernel_rfl) (j := 1) (t := 19) (b := false) rfl (by simp) rfl hl rfl (fun v w h => h) fun us w' hG hV => ?_
                have e4 : us 4 = .bool true := hV 4 (by simp)
                have v4 := (frame_at2 (us := us) hl (show (dgT[22]?).join = some 4 from rfl)).trans e4
                generalize frame dgT a0 us = fr at *
                exact val_ok (v := .bool true) (w' := w') (by go_simp) hG (Below.refl _ _) rfl
              · refine step_guard [5] (by kernel_rfl) (j := 5) (t := 23) (b := true) rfl (by simp) rfl hl rfl (fun v w h => h) fun us w' hG hV => ?_
                have o3 := (frame_old2 (us := us) (a := a0) (show (dgT[3]?).join = none from rfl)).trans k3
                have hg1 := (RB.out w' hG)
                generalize frame dgT a0 us = fr at *
                exact load_ok 28 3 rfl ((w.heap.size + 1)) o3 _ _ (0, 0) _ hg1 Try.underlying28 rfl IB.out hG rfl
              · refine step_guard [5, 6] (by kernel_rfl) (j := 5) (t := 23) (b := true) rfl (by simp) rfl hl rfl (fun v w h => h) fun us w' hG hV => ?_
                have e6 : us 6 = .agg CB := hV 6 (by simp)
                have v6 := (frame_at2 (us := us) hl (show (dgT[24]?).join = some 6 from rfl)).trans e6
                generalize frame dgT a0 us = fr at *
                exact call_ok (f := 49) (args := #[.agg CB]) (by go_simp) ((EB.out w').mono fun e w'' h => ⟨_, h.1, hG.below h.2, h.2, rfl⟩)
              · refine step_guard [5] (by kernel_rfl) (j := 5) (t := 23) (b := true) rfl (by simp) rfl hl rfl (fun v w h => h) fun us w' hG hV => ?_
                have o2 := (frame_old2 (us := us) (a := a0) (show (dgT[2]?).join = none from rfl)).trans k2
                have hg1 := (RA.out w' hG)
                generalize frame dgT a0 us = fr at *
                exact load_ok 28 2 rfl (w.heap.size) o2 _ _ (0, 0) _ hg1 Try.underlying28 rfl IA.out hG rfl
              · refine step_guard [5, 8] (by kernel_rfl) (j := 5) (t := 23) (b := true) rfl (by simp) rfl hl rfl (fun v w h => h) fun us w' hG hV => ?_
                have e8 : us 8 = .agg CA := hV 8 (by simp)
                have v8 := (frame_at2 (us := us) hl (show (dgT[26]?).join = some 8 from rfl)).trans e8
                generalize frame dgT a0 us = fr at *
                exact call_ok (f := 49) (args := #[.agg CA]) (by go_simp) ((EA.out w').mono fun e w'' h => ⟨_, h.1, hG.below h.2, h.2, rfl⟩)
              · refine step_guard [5, 7, 9] (by kernel_rfl) (j := 5) (t := 23) (b := true) rfl (by simp) rfl hl rfl (fun v w h => h) fun us w' hG hV => ?_
                have e7 : us 7 = .int .i64 eb := hV 7 (by simp)
                have v7 := (frame_at2 (us := us) hl (show (dgT[25]?).join = some 7 from rfl)).trans e7
                have e9 : us 9 = .int .i64 ea := hV 9 (by simp)
                have v9 := (frame_at2 (us := us) hl (show (dgT[27]?).join = some 9 from rfl)).trans e9
                have q := Q4.out
                generalize frame dgT a0 us = fr at *
                exact val_ok (v := .bool false) (w' := w') (by go_simp) hG (Below.refl _ _) rfl
              · refine step_guard [1, 5, 10] (by kernel_rfl) (j := 1) (t := 19) (b := false) rfl (by simp) rfl hl rfl (fun v w h => h) fun us w' hG hV => ?_
                have e5 : us 5 = .bool true := hV 5 (by simp)
                have v5 := (frame_at2 (us := us) hl (show (dgT[23]?).join = some 5 from rfl)).trans e5
                have e10 : us 10 = .bool false := hV 10 (by simp)
                have v10 := (frame_at2 (us := us) hl (show (dgT[28]?).join = some 10 from rfl)).trans e10
                generalize frame dgT a0 us = fr at *
                exact val_ok (v := .bool false) (w' := w') (by go_simp) hG (Below.refl _ _) rfl
              · refine step_plain [1, 11] (by kernel_rfl) rfl fun us w' hG hV => ?_
                have e1 : us 1 = .bool false := hV 1 (by simp)
                have v1 := (frame_at2 (us := us) hl (show (dgT[19]?).join = some 1 from rfl)).trans e1
                have e11 : us 11 = .bool false := hV 11 (by simp)
                have v11 := (frame_at2 (us := us) hl (show (dgT[29]?).join = some 11 from rfl)).trans e11
                generalize frame dgT a0 us = fr at *
                exact val_ok (v := .bool false) (w' := w') (by go_simp) hG (Below.refl _ _) rfl
              · refine step_plain [12] (by kernel_rfl) rfl fun us w' hG hV => ?_
                have e12 : us 12 = .bool false := hV 12 (by simp)
                have v12 := (frame_at2 (us := us) hl (show (dgT[30]?).join = some 12 from rfl)).trans e12
                generalize frame dgT a0 us = fr at *
                exact val_ok (v := .bool false) (w' := w') (by go_simp) hG (Below.refl _ _) rfl
              · refine step_guard [13] (by kernel_rfl) (j := 13) (t := 31) (b := false) rfl (by simp) rfl hl rfl (fun v w h => h) fun us w' hG hV => ?_
                have o3 := (frame_old2 (us := us) (a := a0) (show (dgT[3]?).join = none from rfl)).trans k3
                generalize frame dgT a0 us = fr at *
                exact val_ok (v := .pointer (some ⟨(w.heap.size + 1), 38, none⟩)) (w' := w') (by go_simp) hG (Below.refl _ _) rfl
              · refine step_guard [13, 14] (by kernel_rfl) (j := 13) (t := 31) (b := false) rfl (by simp) rfl hl rfl (fun v w h => h) fun us w' hG hV => ?_
                have e14 : us 14 = .pointer (some ⟨(w.heap.size + 1), 38, none⟩) := hV 14 (by simp)
                have v14 := (frame_at2 (us := us) hl (show (dgT[32]?).join = some 14 from rfl)).trans e14
                have hc := B2.out w' hG
                generalize frame dgT a0 us = fr at *
                exact val_ok (v := .bool false) (w' := w') (by go_simp) hG (Below.refl _ _) rfl
              · refine step_guard [13, 15] (by kernel_rfl) (j := 13) (t := 31) (b := false) rfl (by simp) rfl hl rfl (fun v w h => h) fun us w' hG hV => ?_
                have e15 : us 15 = .bool false := hV 15 (by simp)
                have v15 := (frame_at2 (us := us) hl (show (dgT[33]?).join = some 15 from rfl)).trans e15
                generalize frame dgT a0 us = fr at *
                exact val_ok (v := .bool true) (w' := w') (by go_simp) hG (Below.refl _ _) rfl
              · refine step_guard [13, 16] (by kernel_rfl) (j := 13) (t := 31) (b := false) rfl (by simp) rfl hl rfl (fun v w h => h) fun us w' hG hV => ?_
                have e16 : us 16 = .bool true := hV 16 (by simp)
                have v16 := (frame_at2 (us := us) hl (show (dgT[34]?).join = some 16 from rfl)).trans e16
                generalize frame dgT a0 us = fr at *
                exact val_ok (v := .bool true) (w' := w') (by go_simp) hG (Below.refl _ _) rfl
              · refine step_guard [17] (by kernel_rfl) (j := 17) (t := 35) (b := true) rfl (by simp) rfl hl rfl (fun v w h => h) fun us w' hG hV => ?_
                have o2 := (frame_old2 (us := us) (a := a0) (show (dgT[2]?).join = none from rfl)).trans k2
                have hg1 := (RA.out w' hG)
                generalize frame dgT a0 us = fr at *
                exact load_ok 28 2 rfl (w.heap.size) o2 _ _ (0, 0) _ hg1 Try.underlying28 rfl IA.out hG rfl
              · refine step_guard [17, 18] (by kernel_rfl) (j := 17) (t := 35) (b := true) rfl (by simp) rfl hl rfl (fun v w h => h) fun us w' hG hV => ?_
                have e18 : us 18 = .agg CA := hV 18 (by simp)
                have v18 := (frame_at2 (us := us) hl (show (dgT[36]?).join = some 18 from rfl)).trans e18
                generalize frame dgT a0 us = fr at *
                exact call_ok (f := 49) (args := #[.agg CA]) (by go_simp) ((EA.out w').mono fun e w'' h => ⟨_, h.1, hG.below h.2, h.2, rfl⟩)
              · refine step_guard [17] (by kernel_rfl) (j := 17) (t := 35) (b := true) rfl (by simp) rfl hl rfl (fun v w h => h) fun us w' hG hV => ?_
                have o3 := (frame_old2 (us := us) (a := a0) (show (dgT[3]?).join = none from rfl)).trans k3
                have hg1 := (RB.out w' hG)
                generalize frame dgT a0 us = fr at *
                exact load_ok 28 3 rfl ((w.heap.size + 1)) o3 _ _ (0, 0) _ hg1 Try.underlying28 rfl IB.out hG rfl
              · refine step_guard [17, 20] (by kernel_rfl) (j := 17) (t := 35) (b := true) rfl (by simp) rfl hl rfl (fun v w h => h) fun us w' hG hV => ?_
                have e20 : us 20 = .agg CB := hV 20 (by simp)
                have v20 := (frame_at2 (us := us) hl (show (dgT[38]?).join = some 20 from rfl)).trans e20
                generalize frame dgT a0 us = fr at *
                exact call_ok (f := 49) (args := #[.agg CB]) (by go_simp) ((EB.out w').mono fun e w'' h => ⟨_, h.1, hG.below h.2, h.2, rfl⟩)
              · refine step_guard [17, 19, 21] (by kernel_rfl) (j := 17) (t := 35) (b := true) rfl (by simp) rfl hl rfl (fun v w h => h) fun us w' hG hV => ?_
                have e19 : us 19 = .int .i64 ea := hV 19 (by simp)
                have v19 := (frame_at2 (us := us) hl (show (dgT[37]?).join = some 19 from rfl)).trans e19
                have e21 : us 21 = .int .i64 eb := hV 21 (by simp)
                have v21 := (frame_at2 (us := us) hl (show (dgT[39]?).join = some 21 from rfl)).trans e21
                have q := Q5.out
                generalize frame dgT a0 us = fr at *
                exact val_ok (v := .bool false) (w' := w') (by go_simp) hG (Below.refl _ _) rfl
              · refine step_guard [13, 17, 22] (by kernel_rfl) (j := 13) (t := 31) (b := false) rfl (by simp) rfl hl rfl (fun v w h => h) fun us w' hG hV => ?_
                have e17 : us 17 = .bool true := hV 17 (by simp)
                have v17 := (frame_at2 (us := us) hl (show (dgT[35]?).join = some 17 from rfl)).trans e17
                have e22 : us 22 = .bool false := hV 22 (by simp)
                have v22 := (frame_at2 (us := us) hl (show (dgT[40]?).join = some 22 from rfl)).trans e22
                generalize frame dgT a0 us = fr at *
                exact val_ok (v := .bool false) (w' := w') (by go_simp) hG (Below.refl _ _) rfl
              · refine step_plain [13, 23] (by kernel_rfl) rfl fun us w' hG hV => ?_
                have e13 : us 13 = .bool false := hV 13 (by simp)
                have v13 := (frame_at2 (us := us) hl (show (dgT[31]?).join = some 13 from rfl)).trans e13
                have e23 : us 23 = .bool false := hV 23 (by simp)
                have v23 := (frame_at2 (us := us) hl (show (dgT[41]?).join = some 23 from rfl)).trans e23
                generalize frame dgT a0 us = fr at *
                exact val_ok (v := .bool false) (w' := w') (by go_simp) hG (Below.refl _ _) rfl
              · refine step_plain [24] (by kernel_rfl) rfl fun us w' hG hV => ?_
                have e24 : us 24 = .bool false := hV 24 (by simp)
                have v24 := (frame_at2 (us := us) hl (show (dgT[42]?).join = some 24 from rfl)).trans e24
                generalize frame dgT a0 us = fr at *
                exact val_ok (v := .bool false) (w' := w') (by go_simp) hG (Below.refl _ _) rfl
              · intro us w7 hG hV
                have eL : us 25 = .bool false := hV 25 (by decide)
                subst ha0
                simp only [frame, dgT, fill]
                rw [eL]
                have HG4 := Lib.hid hG
                clear hV hl hG k2 k3 k5 eL
                go_wp2_with fail
                go_ret
                exact ⟨ret_bool HVV.out.symm, HB.out.trans (Below.mono HG4.out HB.out.size)⟩
  by_cases h2 : ob < ea
  rotate_left
  · cases ma
    rotate_left
    · cases mb
      rotate_left
      · have Q1 := Lib.hid h1
        have Q2 := Lib.hid h2
        have HVV := Lib.hid (show V = false by rw [HV.out]; simp [h1, h2])
        clear HV h1 h2
        go_enter Try.func45, Try.ntmps45
        go_upto_region 1 with fail
        rw [← hW]
        clear hW R0 R1
        refine with_act fun a0 ha0 => ?_
        have hl : cbT.length = a0.tmps.size := by rw [ha0]; rfl
        have k2 : a0.tmps[2]?.getD undef = .pointer (some ⟨w.heap.size, 0, none⟩) := by rw [ha0]; rfl
        have k3 : a0.tmps[3]?.getD undef = .pointer (some ⟨(w.heap.size + 1), 0, none⟩) := by rw [ha0]; rfl
        refine wp_region_vals (by kernel_rfl) cbT (by kernel_rfl) (by kernel_rfl) hl (fun i => undef) (by rw [ha0]; rfl) (Gr W) (cbV w.heap.size (w.heap.size + 1) CA CB oa ob ea eb) (show Gr _ _ from (Below.refl _ _).drew) (cbV.keep _ _ _ _ _ _ _ _) ⟨?_, ?_, ?_, ?_, ?_, ?_, ?_, ?_, ?_, ?_, ?_, ?_, ?_, trivial⟩ ?_
        · refine step_plain [] (by kernel_rfl) rfl fun us w' hG hV => ?_
          have o2 := (frame_old2 (us := us) (a := a0) (show (cbT[2]?).join = none from rfl)).trans k2
          generalize frame cbT a0 us = fr at *
          exact val_ok (v := .pointer (some ⟨w.heap.size, 39, none⟩)) (w' := w') (by go_simp) hG (Below.refl _ _) rfl
        · refine step_plain [0] (by kernel_rfl) rfl fun us w' hG hV => ?_
          have e0 : us 0 = .pointer (some ⟨w.heap.size, 39, none⟩) := hV 0 (by simp)
          have v0 := (frame_at2 (us := us) hl (show (cbT[6]?).join = some 0 from rfl)).trans e0
          have hc := A1.out w' hG
          generalize frame cbT a0 us = fr at *
          exact val_ok (v := .int .i64 oa) (w' := w') (by go_simp) hG (Below.refl _ _) rfl
        · refine step_plain [] (by kernel_rfl) rfl fun us w' hG hV => ?_
          have o3 := (frame_old2 (us := us) (a := a0) (show (cbT[3]?).join = none from rfl)).trans k3
          have hg1 := (RB.out w' hG)
          generalize frame cbT a0 us = fr at *
          exact load_ok 28 3 rfl ((w.heap.size + 1)) o3 _ _ (0, 0) _ hg1 Try.underlying28 rfl IB.out hG rfl
        · refine step_plain [2] (by kernel_rfl) rfl fun us w' hG hV => ?_
          have e2 : us 2 = .agg CB := hV 2 (by simp)
          have v2 := (frame_at2 (us := us) hl (show (cbT[8]?).join = some 2 from rfl)).trans e2
          generalize frame cbT a0 us = fr at *
          exact call_ok (f := 49) (args := #[.agg CB]) (by go_simp) ((EB.out w').mono fun e w'' h => ⟨_, h.1, hG.below h.2, h.2, rfl⟩)
        · refine step_plain [1, 3] (by kernel_rfl) rfl fun us w' hG hV => ?_
          have e1 : us 1 = .int .i64 oa := hV 1 (by simp)
          have v1 := (frame_at2 (us := us) hl (show (cbT[7]?).join = some 1 from rfl)).trans e1
          have e3 : us 3 = .int .i64 eb := hV 3 (by simp)
          have v3 := (frame_at2 (us := us) hl (show (cbT[9]?).join = some 3 from rfl)).trans e3
          have q := Q1.out
          generalize frame cbT a0 us = fr at *
          exact val_ok (v := .bool true) (w' := w') (by go_simp) hG (Below.refl _ _) rfl
        · refine step_plain [4] (by kernel_rfl) rfl fun us w' hG hV => ?_
          have e4 : us 4 = .bool true := hV 4 (by simp)
          have v4 := (frame_at2 (us := us) hl (show (cbT[10]?).join = some 4 from rfl)).trans e4
          generalize frame cbT a0 us = fr at *
          exact val_ok (v := .bool true) (w' := w') (by go_simp) hG (Below.refl _ _) rfl
        · refine step_guard [5] (by kernel_rfl) (j := 5) (t := 11) (b := true) rfl (by simp) rfl hl rfl (fun v w h => h) fun us w' hG hV => ?_
          have o3 := (frame_old2 (us := us) (a := a0) (show (cbT[3]?).join = none from rfl)).trans k3
          generalize frame cbT a0 us = fr at *
          exact val_ok (v := .pointer (some ⟨(w.heap.size + 1), 39, none⟩)) (w' := w') (by go_simp) hG (Below.refl _ _) rfl
        · refine step_guard [5, 6] (by kernel_rfl) (j := 5) (t := 11) (b := true) rfl (by simp) rfl hl rfl (fun v w h => h) fun us w' hG hV => ?_
          have e6 : us 6 = .pointer (some ⟨(w.heap.size + 1), 39, none⟩) := hV 6 (by simp)
          have v6 := (frame_at2 (us := us) hl (show (cbT[12]?).join = some 6 from rfl)).trans e6
          have hc := B1.out w' hG
          generalize frame cbT a0 us = fr at *
          exact val_ok (v := .int .i64 ob) (w' := w') (by go_simp) hG (Below.refl _ _) rfl
        · refine step_guard [5] (by kernel_rfl) (j := 5) (t := 11) (b := true) rfl (by simp) rfl hl rfl (fun v w h => h) fun us w' hG hV => ?_
          have o2 := (frame_old2 (us := us) (a := a0) (show (cbT[2]?).join = none from rfl)).trans k2
          have hg1 := (RA.out w' hG)
          generalize frame cbT a0 us = fr at *
          exact load_ok 28 2 rfl (w.heap.size) o2 _ _ (0, 0) _ hg1 Try.underlying28 rfl IA.out hG rfl
        · refine step_guard [5, 8] (by kernel_rfl) (j := 5) (t := 11) (b := true) rfl (by simp) rfl hl rfl (fun v w h => h) fun us w' hG hV => ?_
          have e8 : us 8 = .agg CA := hV 8 (by simp)
          have v8 := (frame_at2 (us := us) hl (show (cbT[14]?).join = some 8 from rfl)).trans e8
          generalize frame cbT a0 us = fr at *
          exact call_ok (f := 49) (args := #[.agg CA]) (by go_simp) ((EA.out w').mono fun e w'' h => ⟨_, h.1, hG.below h.2, h.2, rfl⟩)
        · refine step_guard [5, 7, 9] (by kernel_rfl) (j := 5) (t := 11) (b := true) rfl (by simp) rfl hl rfl (fun v w h => h) fun us w' hG hV => ?_
          have e7 : us 7 = .int .i64 ob := hV 7 (by simp)
          have v7 := (frame_at2 (us := us) hl (show (cbT[13]?).join = some 7 from rfl)).trans e7
          have e9 : us 9 = .int .i64 ea := hV 9 (by simp)
          have v9 := (frame_at2 (us := us) hl (show (cbT[15]?).join = some 9 from rfl)).trans e9
          have q := Q2.out
          generalize frame cbT a0 us = fr at *
          exact val_ok (v := .bool false) (w' := w') (by go_simp) hG (Below.refl _ _) rfl
        · refine step_plain [5, 10] (by kernel_rfl) rfl fun us w' hG hV => ?_
          have e5 : us 5 = .bool true := hV 5 (by simp)
          have v5 := (frame_at2 (us := us) hl (show (cbT[11]?).join = some 5 from rfl)).trans e5
          have e10 : us 10 = .bool false := hV 10 (by simp)
          have v10 := (frame_at2 (us := us) hl (show (cbT[16]?).join = some 10 from rfl)).trans e10
          generalize frame cbT a0 us = fr at *
          exact val_ok (v := .bool false) (w' := w') (by go_simp) hG (Below.refl _ _) rfl
        · refine step_plain [11] (by kernel_rfl) rfl fun us w' hG hV => ?_
          have e11 : us 11 = .bool false := hV 11 (by simp)
          have v11 := (frame_at2 (us := us) hl (show (cbT[17]?).join = some 11 from rfl)).trans e11
          generalize frame cbT a0 us = fr at *
          exact val_ok (v := .bool false) (w' := w') (by go_simp) hG (Below.refl _ _) rfl
        · intro us w5 hG hV
          have eL : us 12 = .bool false := hV 12 (by decide)
          subst ha0
          simp only [frame, cbT, fill]
          rw [eL]
          have HG3 := Lib.hid hG
          clear hV hl hG k2 k3 eL
          go_upto_region 2 with fail
          refine with_act fun a0 ha0 => ?_
          have hl : dcT.length = a0.tmps.size := by rw [ha0]; rfl
          have k2 : a0.tmps[2]?.getD undef = .pointer (some ⟨w.heap.size, 0, none⟩) := by rw [ha0]; rfl
          have k3 : a0.tmps[3]?.getD undef = .pointer (some ⟨(w.heap.size + 1), 0, none⟩) := by rw [ha0]; rfl
          have k5 : a0.tmps[5]?.getD undef = .bool false := by rw [ha0]; rfl
          refine wp_region_vals (by kernel_rfl) dcT (by kernel_rfl) (by kernel_rfl) hl (fun i => if i = 25 then .bool false else a0.tmps[i + 18]?.getD undef) (by rw [ha0]; rfl) (Gr W) (dcV w.heap.size (w.heap.size + 1) CA CB oa ob ea eb) HG3.out.drew (dcV.keep _ _ _ _ _ _ _ _) ⟨?_, ?_, ?_, ?_, ?_, ?_, ?_, ?_, ?_, ?_, ?_, ?_, ?_, ?_, ?_, ?_, ?_, ?_, ?_, ?_, ?_, ?_, ?_, ?_, ?_, ?_, trivial⟩ ?_
          · refine step_plain [] (by kernel_rfl) rfl fun us w' hG hV => ?_
            have o5 := (frame_old2 (us := us) (a := a0) (show (dcT[5]?).join = none from rfl)).trans k5
            generalize frame dcT a0 us = fr at *
            exact val_ok (v := .bool false) (w' := w') (by go_simp) hG (Below.refl _ _) rfl
          · refine step_plain [0] (by kernel_rfl) rfl fun us w' hG hV => ?_
            have e0 : us 0 = .bool false := hV 0 (by simp)
            have v0 := (frame_at2 (us := us) hl (show (dcT[18]?).join = some 0 from rfl)).trans e0
            generalize frame dcT a0 us = fr at *
            exact val_ok (v := .bool false) (w' := w') (by go_simp) hG (Below.refl _ _) rfl
          · refine step_guard [1] (by kernel_rfl) (j := 1) (t := 19) (b := false) rfl (by simp) rfl hl rfl (fun v w h => h) fun us w' hG hV => ?_
            have o2 := (frame_old2 (us := us) (a := a0) (show (dcT[2]?).join = none from rfl)).trans k2
            generalize frame dcT a0 us = fr at *
            exact val_ok (v := .pointer (some ⟨w.heap.size, 38, none⟩)) (w' := w') (by go_simp) hG (Below.refl _ _) rfl
          · refine step_guard [1, 2] (by kernel_rfl) (j := 1) (t := 19) (b := false) rfl (by simp) rfl hl rfl (fun v w h => h) fun us w' hG hV => ?_
            have e2 : us 2 = .pointer (some ⟨w.heap.size, 38, none⟩) := hV 2 (by simp)
            have v2 := (frame_at2 (us := us) hl (show (dcT[20]?).join = some 2 from rfl)).trans e2
            have hc := A2.out w' hG
            generalize frame dcT a0 us = fr at *
            exact val_ok (v := .bool true) (w' := w') (by go_simp) hG (Below.refl _ _) rfl
          · refine step_guard [1, 3] (by kernel_rfl) (j := 1) (t := 19) (b := false) rfl (by simp) rfl hl rfl (fun v w h => h) fun us w' hG hV => ?_
            have e3 : us 3 = .bool true := hV 3 (by simp)
            have v3 := (frame_at2 (us := us) hl (show (dcT[21]?).join = some 3 from rfl)).trans e3
            generalize frame dcT a0 us = fr at *
            exact val_ok (v := .bool false) (w' := w') (by go_simp) hG (Below.refl _ _) rfl
          · refine step_guard [1, 4] (by kernel_rfl) (j := 1) (t := 19) (b := false) rfl (by simp) rfl hl rfl (fun v w h => h) fun us w' hG hV => ?_
            have e4 : us 4 = .bool false := hV 4 (by simp)
            have v4 := (frame_at2 (us := us) hl (show (dcT[22]?).join = some 4 from rfl)).trans e4
            generalize frame dcT a0 us = fr at *
            exact val_ok (v := .bool false) (w' := w') (by go_simp) hG (Below.refl _ _) rfl
          · exact step_skip [5] (by kernel_rfl) (j := 5) (t := 23) (b := true) rfl (by simp) rfl hl rfl (fun v w h => .inl h) fun _ => rfl
          · exact step_skip [5] (by kernel_rfl) (j := 5) (t := 23) (b := true) rfl (by simp) rfl hl rfl (fun v w h => .inl h) fun _ => rfl
          · exact step_skip [5] (by kernel_rfl) (j := 5) (t := 23) (b := true) rfl (by simp) rfl hl rfl (fun v w h => .inl h) fun _ => rfl
          · exact step_skip [5] (by kernel_rfl) (j := 5) (t := 23) (b := true) rfl (by simp) rfl hl rfl (fun v w h => .inl h) fun _ => rfl
          · exact step_skip [5] (by kernel_rfl) (j := 5) (t := 23) (b := true) rfl (by simp) rfl hl rfl (fun v w h => .inl h) fun _ => rfl
          · refine step_guard [1, 5] (by kernel_rfl) (j := 1) (t := 19) (b := false) rfl (by simp) rfl hl rfl (fun v w h => h) fun us w' hG hV => ?_
            have e5 : us 5 = .bool false := hV 5 (by simp)
            have v5 := (frame_at2 (us := us) hl (show (dcT[23]?).join = some 5 from rfl)).trans e5
            generalize frame dcT a0 us = fr at *
            exact val_ok (v := .bool false) (w' := w') (by go_simp) hG (Below.refl _ _) rfl
          · refine step_plain [1, 11] (by kernel_rfl) rfl fun us w' hG hV => ?_
            have e1 : us 1 = .bool false := hV 1 (by simp)
            have v1 := (frame_at2 (us := us) hl (show (dcT[19]?).join = some 1 from rfl)).trans e1
            have e11 : us 11 = .bool false := hV 11 (by simp)
            have v11 := (frame_at2 (us := us) hl (show (dcT[29]?).join = some 11 from rfl)).trans e11
            generalize frame dcT a0 us = fr at *
            exact val_ok (v := .bool false) (w' := w') (by go_simp) hG (Below.refl _ _) rfl
          · refine step_plain [12] (by kernel_rfl) rfl fun us w' hG hV => ?_
            have e12 : us 12 = .bool false := hV 12 (by simp)
            have v12 := (frame_at2 (us := us) hl (show (dcT[30]?).join = some 12 from rfl)).trans e12
            generalize frame dcT a0 us = fr at *
            exact val_ok (v := .bool false) (w' := w') (by go_simp) hG (Below.refl _ _) rfl
          · refine step_guard [13] (by kernel_rfl) (j := 13) (t := 31) (b := false) rfl (by simp) rfl hl rfl (fun v w h => h) fun us w' hG hV => ?_
            have o3 := (frame_old2 (us := us) (a := a0) (show (dcT[3]?).join = none from rfl)).trans k3
            generalize frame dcT a0 us = fr at *
            exact val_ok (v := .pointer (some ⟨(w.heap.size + 1), 38, none⟩)) (w' := w') (by go_simp) hG (Below.refl _ _) rfl
          · refine step_guard [13, 14] (by kernel_rfl) (j := 13) (t := 31) (b := false) rfl (by simp) rfl hl rfl (fun v w h => h) fun us w' hG hV => ?_
            have e14 : us 14 = .pointer (some ⟨(w.heap.size + 1), 38, none⟩) := hV 14 (by simp)
            have v14 := (frame_at2 (us := us) hl (show (dcT[32]?).join = some 14 from rfl)).trans e14
            have hc := B2.out w' hG
            generalize frame dcT a0 us = fr at *
            exact val_ok (v := .bool true) (w' := w') (by go_simp) hG (Below.refl _ _) rfl
          · refine step_guard [13, 15] (by kernel_rfl) (j := 13) (t := 31) (b := false) rfl (by simp) rfl hl rfl (fun v w h => h) fun us w' hG hV => ?_
            have e15 : us 15 = .bool true := hV 15 (by simp)
            have v15 := (frame_at2 (us := us) hl (show (dcT[33]?).join = some 15 from rfl)).trans e15
            generalize frame dcT a0 us = fr at *
            exact val_ok (v := .bool false) (w' := w') (by go_simp) hG (Below.refl _ _) rfl
          · refine step_guard [13, 16] (by kernel_rfl) (j := 13) (t := 31) (b := false) rfl (by simp) rfl hl rfl (fun v w h => h) fun us w' hG hV => ?_
            have e16 : us 16 = .bool false := hV 16 (by simp)
            have v16 := (frame_at2 (us := us) hl (show (dcT[34]?).join = some 16 from rfl)).trans e16
            generalize frame dcT a0 us = fr at *
            exact val_ok (v := .bool false) (w' := w') (by go_simp) hG (Below.refl _ _) rfl
          · exact step_skip [17] (by kernel_rfl) (j := 17) (t := 35) (b := true) rfl (by simp) rfl hl rfl (fun v w h => .inl h) fun _ => rfl
          · exact step_skip [17] (by kernel_rfl) (j := 17) (t := 35) (b := true) rfl (by simp) rfl hl rfl (fun v w h => .inl h) fun _ => rfl
          · exact step_skip [17] (by kernel_rfl) (j := 17) (t := 35) (b := true) rfl (by simp) rfl hl rfl (fun v w h => .inl h) fun _ => rfl
          · exact step_skip [17] (by kernel_rfl) (j := 17) (t := 35) (b := true) rfl (by simp) rfl hl rfl (fun v w h => .inl h) fun _ => rfl
          · exact step_skip [17] (by kernel_rfl) (j := 17) (t := 35) (b := true) rfl (by simp) rfl hl rfl (fun v w h => .inl h) fun _ => rfl
          · refine step_guard [13, 17] (by kernel_rfl) (j := 13) (t := 31) (b := false) rfl (by simp) rfl hl rfl (fun v w h => h) fun us w' hG hV => ?_
            have e17 : us 17 = .bool false := hV 17 (by simp)
            have v17 := (frame_at2 (us := us) hl (show (dcT[35]?).join = some 17 from rfl)).trans e17
            generalize frame dcT a0 us = fr at *
            exact val_ok (v := .bool false) (w' := w') (by go_simp) hG (Below.refl _ _) rfl
          · refine step_plain [13, 23] (by kernel_rfl) rfl fun us w' hG hV => ?_
            have e13 : us 13 = .bool false := hV 13 (by simp)
            have v13 := (frame_at2 (us := us) hl (show (dcT[31]?).join = some 13 from rfl)).trans e13
            have e23 : us 23 = .bool false := hV 23 (by simp)
            have v23 := (frame_at2 (us := us) hl (show (dcT[41]?).join = some 23 from rfl)).trans e23
            generalize frame dcT a0 us = fr at *
            exact val_ok (v := .bool false) (w' := w') (by go_simp) hG (Below.refl _ _) rfl
          · refine step_plain [24] (by kernel_rfl) rfl fun us w' hG hV => ?_
            have e24 : us 24 = .bool false := hV 24 (by simp)
            have v24 := (frame_at2 (us := us) hl (show (dcT[42]?).join = some 24 from rfl)).trans e24
            generalize frame dcT a0 us = fr at *
            exact val_ok (v := .bool false) (w' := w') (by go_simp) hG (Below.refl _ _) rfl
          · intro us w7 hG hV
            have eL : us 25 = .bool false := hV 25 (by decide)
            subst ha0
            simp only [frame, dcT, fill]
            rw [eL]
            have HG4 := Lib.hid hG
            clear hV hl hG k2 k3 k5 eL
            go_wp2_with fail
            go_ret
            exact ⟨ret_bool HVV.out.symm, HB.out.trans (Below.mono HG4.out HB.out.size)⟩
      · by_cases h5 : eb < ea
        · have Q1 := Lib.hid h1
          have Q2 := Lib.hid h2
          have Q5 := Lib.hid h5
          have HVV := Lib.hid (show V = true by rw [HV.out]; simp [h1, h2, h5])
          clear HV h1 h2 h5
          go_enter Try.func45, Try.ntmps45
          go_upto_region 1 with fail
          rw [← hW]
          clear hW R0 R1
          refine with_act fun a0 ha0 => ?_
          have hl : cbT.length = a0.tmps.size := by rw [ha0]; rfl
          have k2 : a0.tmps[2]?.getD undef = .pointer (some ⟨w.heap.size, 0, none⟩) := by rw [ha0]; rfl
          have k3 : a0.tmps[3]?.getD undef = .pointer (some ⟨(w.heap.size + 1), 0, none⟩) := by rw [ha0]; rfl
          refine wp_region_vals (by kernel_rfl) cbT (by kernel_rfl) (by kernel_rfl) hl (fun i => undef) (by rw [ha0]; rfl) (Gr W) (cbV w.heap.size (w.heap.size + 1) CA CB oa ob ea eb) (show Gr _ _ from (Below.refl _ _).drew) (cbV.keep _ _ _ _ _ _ _ _) ⟨?_, ?_, ?_, ?_, ?_, ?_, ?_, ?_, ?_, ?_, ?_, ?_, ?_, trivial⟩ ?_
          · refine step_plain [] (by kernel_rfl) rfl fun us w' hG hV => ?_
            have o2 := (frame_old2 (us := us) (a := a0) (show (cbT[2]?).join = none from rfl)).trans k2
            generalize frame cbT a0 us = fr at *
            exact val_ok (v := .pointer (some ⟨w.heap.size, 39, none⟩)) (w' := w') (by go_simp) hG (Below.refl _ _) rfl
          · refine step_plain [0] (by kernel_rfl) rfl fun us w' hG hV => ?_
            have e0 : us 0 = .pointer (some ⟨w.heap.size, 39, none⟩) := hV 0 (by simp)
            have v0 := (frame_at2 (us := us) hl (show (cbT[6]?).join = some 0 from rfl)).trans e0
            have hc := A1.out w' hG
            generalize frame cbT a0 us = fr at *
            exact val_ok (v := .int .i64 oa) (w' := w') (by go_simp) hG (Below.refl _ _) rfl
          · refine step_plain [] (by kernel_rfl) rfl fun us w' hG hV => ?_
            have o3 := (frame_old2 (us := us) (a := a0) (show (cbT[3]?).join = none from rfl)).trans k3
            have hg1 := (RB.out w' hG)
            generalize frame cbT a0 us = fr at *
            exact load_ok 28 3 rfl ((w.heap.size + 1)) o3 _ _ (0, 0) _ hg1 Try.underlying28 rfl IB.out hG rfl
          · refine step_plain [2] (by kernel_rfl) rfl fun us w' hG hV => ?_
            have e2 : us 2 = .agg CB := hV 2 (by simp)
            have v2 := (frame_at2 (us := us) hl (show (cbT[8]?).join = some 2 from rfl)).trans e2
            generalize frame cbT a0 us = fr at *
            exact call_ok (f := 49) (args := #[.agg CB]) (by go_simp) ((EB.out w').mono fun e w'' h => ⟨_, h.1, hG.below h.2, h.2, rfl⟩)
          · refine step_plain [1, 3] (by kernel_rfl) rfl fun us w' hG hV => ?_
            have e1 : us 1 = .int .i64 oa := hV 1 (by simp)
            have v1 := (frame_at2 (us := us) hl (show (cbT[7]?).join = some 1 from rfl)).trans e1
            have e3 : us 3 = .int .i64 eb := hV 3 (by simp)
            have v3 := (frame_at2 (us := us) hl (show (cbT[9]?).join = some 3 from rfl)).trans e3
            have q := Q1.out
            generalize frame cbT a0 us = fr at *
            exact val_ok (v := .bool true) (w' := w') (by go_simp) hG (Below.refl _ _) rfl
          · refine step_plain [4] (by kernel_rfl) rfl fun us w' hG hV => ?_
            have e4 : us 4 = .bool true := hV 4 (by simp)
            have v4 := (frame_at2 (us := us) hl (show (cbT[10]?).join = some 4 from rfl)).trans e4
            generalize frame cbT a0 us = fr at *
            exact val_ok (v := .bool true) (w' := w') (by go_simp) hG (Below.refl _ _) rfl
          · refine step_guard [5] (by kernel_rfl) (j := 5) (t := 11) (b := true) rfl (by simp) rfl hl rfl (fun v w h => h) fun us w' hG hV => ?_
            have o3 := (frame_old2 (us := us) (a := a0) (show (cbT[3]?).join = none from rfl)).trans k3
            generalize frame cbT a0 us = fr at *
            exact val_ok (v := .pointer (some ⟨(w.heap.size + 1), 39, none⟩)) (w' := w') (by go_simp) hG (Below.refl _ _) rfl
          · refine step_guard [5, 6] (by kernel_rfl) (j := 5) (t := 11) (b := true) rfl (by simp) rfl hl rfl (fun v w h => h) fun us w' hG hV => ?_
            have e6 : us 6 = .pointer (some ⟨(w.heap.size + 1), 39, none⟩) := hV 6 (by simp)
            have v6 := (frame_at2 (us := us) hl (show (cbT[12]?).join = some 6 from rfl)).trans e6
            have hc := B1.out w' hG
            generalize frame cbT a0 us = fr at *
            exact val_ok (v := .int .i64 ob) (w' := w') (by go_simp) hG (Below.refl _ _) rfl
          · refine step_guard [5] (by kernel_rfl) (j := 5) (t := 11) (b := true) rfl (by simp) rfl hl rfl (fun v w h => h) fun us w' hG hV => ?_
            have o2 := (frame_old2 (us := us) (a := a0) (show (cbT[2]?).join = none from rfl)).trans k2
            have hg1 := (RA.out w' hG)
            generalize frame cbT a0 us = fr at *
            exact load_ok 28 2 rfl (w.heap.size) o2 _ _ (0, 0) _ hg1 Try.underlying28 rfl IA.out hG rfl
          · refine step_guard [5, 8] (by kernel_rfl) (j := 5) (t := 11) (b := true) rfl (by simp) rfl hl rfl (fun v w h => h) fun us w' hG hV => ?_
            have e8 : us 8 = .agg CA := hV 8 (by simp)
            have v8 := (frame_at2 (us := us) hl (show (cbT[14]?).join = some 8 from rfl)).trans e8
            generalize frame cbT a0 us = fr at *
            exact call_ok (f := 49) (args := #[.agg CA]) (by go_simp) ((EA.out w').mono fun e w'' h => ⟨_, h.1, hG.below h.2, h.2, rfl⟩)
          · refine step_guard [5, 7, 9] (by kernel_rfl) (j := 5) (t := 11) (b := true) rfl (by simp) rfl hl rfl (fun v w h => h) fun us w' hG hV => ?_
            have e7 : us 7 = .int .i64 ob := hV 7 (by simp)
            have v7 := (frame_at2 (us := us) hl (show (cbT[13]?).join = some 7 from rfl)).trans e7
            have e9 : us 9 = .int .i64 ea := hV 9 (by simp)
            have v9 := (frame_at2 (us := us) hl (show (cbT[15]?).join = some 9 from rfl)).trans e9
            have q := Q2.out
            generalize frame cbT a0 us = fr at *
            exact val_ok (v := .bool false) (w' := w') (by go_simp) hG (Below.refl _ _) rfl
          · refine step_plain [5, 10] (by kernel_rfl) rfl fun us w' hG hV => ?_
            have e5 : us 5 = .bool true := hV 5 (by simp)
            have v5 := (frame_at2 (us := us) hl (show (cbT[11]?).join = some 5 from rfl)).trans e5
            have e10 : us 10 = .bool false := hV 10 (by simp)
            have v10 := (frame_at2 (us := us) hl (show (cbT[16]?).join = some 10 from rfl)).trans e10
            generalize frame cbT a0 us = fr at *
            exact val_ok (v := .bool false) (w' := w') (by go_simp) hG (Below.refl _ _) rfl
          · refine step_plain [11] (by kernel_rfl) rfl fun us w' hG hV => ?_
            have e11 : us 11 = .bool false := hV 11 (by simp)
            have v11 := (frame_at2 (us := us) hl (show (cbT[17]?).join = some 11 from rfl)).trans e11
            generalize frame cbT a0 us = fr at *
            exact val_ok (v := .bool false) (w' := w') (by go_simp) hG (Below.refl _ _) rfl
          · intro us w5 hG hV
            have eL : us 12 = .bool false := hV 12 (by decide)
            subst ha0
            simp only [frame, cbT, fill]
            rw [eL]
            have HG3 := Lib.hid hG
            clear hV hl hG k2 k3 eL
            go_upto_region 2 with fail
            refine with_act fun a0 ha0 => ?_
            have hl : deT.length = a0.tmps.size := by rw [ha0]; rfl
            have k2 : a0.tmps[2]?.getD undef = .pointer (some ⟨w.heap.size, 0, none⟩) := by rw [ha0]; rfl
            have k3 : a0.tmps[3]?.getD undef = .pointer (some ⟨(w.heap.size + 1), 0, none⟩) := by rw [ha0]; rfl
            have k5 : a0.tmps[5]?.getD undef = .bool false := by rw [ha0]; rfl
            refine wp_region_vals (by kernel_rfl) deT (by kernel_rfl) (by kernel_rfl) hl (fun i => if i = 25 then .bool false else a0.tmps[i + 18]?.getD undef) (by rw [ha0]; rfl) (Gr W) (deV w.heap.size (w.heap.size + 1) CA CB oa ob ea eb) HG3.out.drew (deV.keep _ _ _ _ _ _ _ _) ⟨?_, ?_, ?_, ?_, ?_, ?_, ?_, ?_, ?_, ?_, ?_, ?_, ?_, ?_, ?_, ?_, ?_, ?_, ?_, ?_, ?_, ?_, ?_, ?_, ?_, ?_, trivial⟩ ?_
            · refine step_plain [] (by kernel_rfl) rfl fun us w' hG hV => ?_
              have o5 := (frame_old2 (us := us) (a := a0) (show (deT[5]?).join = none from rfl)).trans k5
              generalize frame deT a0 us = fr at *
              exact val_ok (v := .bool false) (w' := w') (by go_simp) hG (Below.refl _ _) rfl
            · refine step_plain [0] (by kernel_rfl) rfl fun us w' hG hV => ?_
              have e0 : us 0 = .bool false := hV 0 (by simp)
              have v0 := (frame_at2 (us := us) hl (show (deT[18]?).join = some 0 from rfl)).trans e0
              generalize frame deT a0 us = fr at *
              exact val_ok (v := .bool false) (w' := w') (by go_simp) hG (Below.refl _ _) rfl
            · refine step_guard [1] (by kernel_rfl) (j := 1) (t := 19) (b := false) rfl (by simp) rfl hl rfl (fun v w h => h) fun us w' hG hV => ?_
              have o2 := (frame_old2 (us := us) (a := a0) (show (deT[2]?).join = none from rfl)).trans k2
              generalize frame deT a0 us = fr at *
              exact val_ok (v := .pointer (some ⟨w.heap.size, 38, none⟩)) (w' := w') (by go_simp) hG (Below.refl _ _) rfl
            · refine step_guard [1, 2] (by kernel_rfl) (j := 1) (t := 19) (b := false) rfl (by simp) rfl hl rfl (fun v w h => h) fun us w' hG hV => ?_
              have e2 : us 2 = .pointer (some ⟨w.heap.size, 38, none⟩) := hV 2 (by simp)
              have v2 := (frame_at2 (us := us) hl (show (deT[20]?).join = some 2 from rfl)).trans e2
              have hc := A2.out w' hG
              generalize frame deT a0 us = fr at *
              exact val_ok (v := .bool true) (w' := w') (by go_simp) hG (Below.refl _ _) rfl
            · refine step_guard [1, 3] (by kernel_rfl) (j := 1) (t := 19) (b := false) rfl (by simp) rfl hl rfl (fun v w h => h) fun us w' hG hV => ?_
              have e3 : us 3 = .bool true := hV 3 (by simp)
              have v3 := (frame_at2 (us := us) hl (show (deT[21]?).join = some 3 from rfl)).trans e3
              generalize frame deT a0 us = fr at *
              exact val_ok (v := .bool false) (w' := w') (by go_simp) hG (Below.refl _ _) rfl
            · refine step_guard [1, 4] (by kernel_rfl) (j := 1) (t := 19) (b := false) rfl (by simp) rfl hl rfl (fun v w h => h) fun us w' hG hV => ?_
              have e4 : us 4 = .bool false := hV 4 (by simp)
              have v4 := (frame_at2 (us := us) hl (show (deT[22]?).join = some 4 from rfl)).trans e4
              generalize frame deT a0 us = fr at *
              exact val_ok (v := .bool false) (w' := w') (by go_simp) hG (Below.refl _ _) rfl
            · exact step_skip [5] (by kernel_rfl) (j := 5) (t := 23) (b := true) rfl (by simp) rfl hl rfl (fun v w h => .inl h) fun _ => rfl
            · exact step_skip [5] (by kernel_rfl) (j := 5) (t := 23) (b := true) rfl (by simp) rfl hl rfl (fun v w h => .inl h) fun _ => rfl
            · exact step_skip [5] (by kernel_rfl) (j := 5) (t := 23) (b := true) rfl (by simp) rfl hl rfl (fun v w h => .inl h) fun _ => rfl
            · exact step_skip [5] (by kernel_rfl) (j := 5) (t := 23) (b := true) rfl (by simp) rfl hl rfl (fun v w h => .inl h) fun _ => rfl
            · exact step_skip [5] (by kernel_rfl) (j := 5) (t := 23) (b := true) rfl (by simp) rfl hl rfl (fun v w h => .inl h) fun _ => rfl
            · refine step_guard [1, 5] (by kernel_rfl) (j := 1) (t := 19) (b := false) rfl (by simp) rfl hl rfl (fun v w h => h) fun us w' hG hV => ?_
              have e5 : us 5 = .bool false := hV 5 (by simp)
              have v5 := (frame_at2 (us := us) hl (show (deT[23]?).join = some 5 from rfl)).trans e5
              generalize frame deT a0 us = fr at *
              exact val_ok (v := .bool false) (w' := w') (by go_simp) hG (Below.refl _ _) rfl
            · refine step_plain [1, 11] (by kernel_rfl) rfl fun us w' hG hV => ?_
              have e1 : us 1 = .bool false := hV 1 (by simp)
              have v1 := (frame_at2 (us := us) hl (show (deT[19]?).join = some 1 from rfl)).trans e1
              have e11 : us 11 = .bool false := hV 11 (by simp)
              have v11 := (frame_at2 (us := us) hl (show (deT[29]?).join = some 11 from rfl)).trans e11
              generalize frame deT a0 us = fr at *
              exact val_ok (v := .bool false) (w' := w') (by go_simp) hG (Below.refl _ _) rfl
            · refine step_plain [12] (by kernel_rfl) rfl fun us w' hG hV => ?_
              have e12 : us 12 = .bool false := hV 12 (by simp)
              have v12 := (frame_at2 (us := us) hl (show (deT[30]?).join = some 12 from rfl)).trans e12
              generalize frame deT a0 us = fr at *
              exact val_ok (v := .bool false) (w' := w') (by go_simp) hG (Below.refl _ _) rfl
            · refine step_guard [13] (by kernel_rfl) (j := 13) (t := 31) (b := false) rfl (by simp) rfl hl rfl (fun v w h => h) fun us w' hG hV => ?_
              have o3 := (frame_old2 (us := us) (a := a0) (show (deT[3]?).join = none from rfl)).trans k3
              generalize frame deT a0 us = fr at *
              exact val_ok (v := .pointer (some ⟨(w.heap.size + 1), 38, none⟩)) (w' := w') (by go_simp) hG (Below.refl _ _) rfl
            · refine step_guard [13, 14] (by kernel_rfl) (j := 13) (t := 31) (b := false) rfl (by simp) rfl hl rfl (fun v w h => h) fun us w' hG hV => ?_
              have e14 : us 14 = .pointer (some ⟨(w.heap.size + 1), 38, none⟩) := hV 14 (by simp)
              have v14 := (frame_at2 (us := us) hl (show (deT[32]?).join = some 14 from rfl)).trans e14
              have hc := B2.out w' hG
              generalize frame deT a0 us = fr at *
              exact val_ok (v := .bool false) (w' := w') (by go_simp) hG (Below.refl _ _) rfl
            · refine step_guard [13, 15] (by kernel_rfl) (j := 13) (t := 31) (b := false) rfl (by simp) rfl hl rfl (fun v w h => h) fun us w' hG hV => ?_
              have e15 : us 15 = .bool false := hV 15 (by simp)
              have v15 := (frame_at2 (us := us) hl (show (deT[33]?).join = some 15 from rfl)).trans e15
              generalize frame deT a0 us = fr at *
              exact val_ok (v := .bool true) (w' := w') (by go_simp) hG (Below.refl _ _) rfl
            · refine step_guard [13, 16] (by kernel_rfl) (j := 13) (t := 31) (b := false) rfl (by simp) rfl hl rfl (fun v w h => h) fun us w' hG hV => ?_
              have e16 : us 16 = .bool true := hV 16 (by simp)
              have v16 := (frame_at2 (us := us) hl (show (deT[34]?).join = some 16 from rfl)).trans e16
              generalize frame deT a0 us = fr at *
              exact val_ok (v := .bool true) (w' := w') (by go_simp) hG (Below.refl _ _) rfl
            · refine step_guard [17] (by kernel_rfl) (j := 17) (t := 35) (b := true) rfl (by simp) rfl hl rfl (fun v w h => h) fun us w' hG hV => ?_
              have o2 := (frame_old2 (us := us) (a := a0) (show (deT[2]?).join = none from rfl)).trans k2
              have hg1 := (RA.out w' hG)
              generalize frame deT a0 us = fr at *
              exact load_ok 28 2 rfl (w.heap.size) o2 _ _ (0, 0) _ hg1 Try.underlying28 rfl IA.out hG rfl
            · refine step_guard [17, 18] (by kernel_rfl) (j := 17) (t := 35) (b := true) rfl (by simp) rfl hl rfl (fun v w h => h) fun us w' hG hV => ?_
              have e18 : us 18 = .agg CA := hV 18 (by simp)
              have v18 := (frame_at2 (us := us) hl (show (deT[36]?).join = some 18 from rfl)).trans e18
              generalize frame deT a0 us = fr at *
              exact call_ok (f := 49) (args := #[.agg CA]) (by go_simp) ((EA.out w').mono fun e w'' h => ⟨_, h.1, hG.below h.2, h.2, rfl⟩)
            · refine step_guard [17] (by kernel_rfl) (j := 17) (t := 35) (b := true) rfl (by simp) rfl hl rfl (fun v w h => h) fun us w' hG hV => ?_
              have o3 := (frame_old2 (us := us) (a := a0) (show (deT[3]?).join = none from rfl)).trans k3
              have hg1 := (RB.out w' hG)
              generalize frame deT a0 us = fr at *
              exact load_ok 28 3 rfl ((w.heap.size + 1)) o3 _ _ (0, 0) _ hg1 Try.underlying28 rfl IB.out hG rfl
            · refine step_guard [17, 20] (by kernel_rfl) (j := 17) (t := 35) (b := true) rfl (by simp) rfl hl rfl (fun v w h => h) fun us w' hG hV => ?_
              have e20 : us 20 = .agg CB := hV 20 (by simp)
              have v20 := (frame_at2 (us := us) hl (show (deT[38]?).join = some 20 from rfl)).trans e20
              generalize frame deT a0 us = fr at *
              exact call_ok (f := 49) (args := #[.agg CB]) (by go_simp) ((EB.out w').mono fun e w'' h => ⟨_, h.1, hG.below h.2, h.2, rfl⟩)
            · refine step_guard [17, 19, 21] (by kernel_rfl) (j := 17) (t := 35) (b := true) rfl (by simp) rfl hl rfl (fun v w h => h) fun us w' hG hV => ?_
              have e19 : us 19 = .int .i64 ea := hV 19 (by simp)
              have v19 := (frame_at2 (us := us) hl (show (deT[37]?).join = some 19 from rfl)).trans e19
              have e21 : us 21 = .int .i64 eb := hV 21 (by simp)
              have v21 := (frame_at2 (us := us) hl (show (deT[39]?).join = some 21 from rfl)).trans e21
              have q := Q5.out
              generalize frame deT a0 us = fr at *
              exact val_ok (v := .bool true) (w' := w') (by go_simp) hG (Below.refl _ _) rfl
            · refine step_guard [13, 17, 22] (by kernel_rfl) (j := 13) (t := 31) (b := false) rfl (by simp) rfl hl rfl (fun v w h => h) fun us w' hG hV => ?_
              have e17 : us 17 = .bool true := hV 17 (by simp)
              have v17 := (frame_at2 (us := us) hl (show (deT[35]?).join = some 17 from rfl)).trans e17
              have e22 : us 22 = .bool true := hV 22 (by simp)
              have v22 := (frame_at2 (us := us) hl (show (deT[40]?).join = some 22 from rfl)).trans e22
              generalize frame deT a0 us = fr at *
              exact val_ok (v := .bool true) (w' := w') (by go_simp) hG (Below.refl _ _) rfl
            · refine step_plain [13, 23] (by kernel_rfl) rfl fun us w' hG hV => ?_
              have e13 : us 13 = .bool false := hV 13 (by simp)
              have v13 := (frame_at2 (us := us) hl (show (deT[31]?).join = some 13 from rfl)).trans e13
              have e23 : us 23 = .bool true := hV 23 (by simp)
              have v23 := (frame_at2 (us := us) hl (show (deT[41]?).join = some 23 from rfl)).trans e23
              generalize frame deT a0 us = fr at *
              exact val_ok (v := .bool true) (w' := w') (by go_simp) hG (Below.refl _ _) rfl
            · refine step_plain [24] (by kernel_rfl) rfl fun us w' hG hV => ?_
              have e24 : us 24 = .bool true := hV 24 (by simp)
              have v24 := (frame_at2 (us := us) hl (show (deT[42]?).join = some 24 from rfl)).trans e24
              generalize frame deT a0 us = fr at *
              exact val_ok (v := .bool true) (w' := w') (by go_simp) hG (Below.refl _ _) rfl
            · intro us w7 hG hV
              have eL : us 25 = .bool true := hV 25 (by decide)
              subst ha0
              simp only [frame, deT, fill]
              rw [eL]
              have HG4 := Lib.hid hG
              clear hV hl hG k2 k3 k5 eL
              go_wp2_with fail
              go_ret
              exact ⟨ret_bool HVV.out.symm, HB.out.trans (Below.mono HG4.out HB.out.size)⟩
        · have Q1 := Lib.hid h1
          have Q2 := Lib.hid h2
          have Q5 := Lib.hid h5
          have HVV := Lib.hid (show V = false by rw [HV.out]; simp [h1, h2, h5])
          clear HV h1 h2 h5
          go_enter Try.func45, Try.ntmps45
          go_upto_region 1 with fail
          rw [← hW]
          clear hW R0 R1
          refine with_act fun a0 ha0 => ?_
          have hl : cbT.length = a0.tmps.size := by rw [ha0]; rfl
          have k2 : a0.tmps[2]?.getD undef = .pointer (some ⟨w.heap.size, 0, none⟩) := by rw [ha0]; rfl
          have k3 : a0.tmps[3]?.getD undef = .pointer (some ⟨(w.heap.size + 1), 0, none⟩) := by rw [ha0]; rfl
          refine wp_region_vals (by kernel_rfl) cbT (by kernel_rfl) (by kernel_rfl) hl (fun i => undef) (by rw [ha0]; rfl) (Gr W) (cbV w.heap.size (w.heap.size + 1) CA CB oa ob ea eb) (show Gr _ _ from (Below.refl _ _).drew) (cbV.keep _ _ _ _ _ _ _ _) ⟨?_, ?_, ?_, ?_, ?_, ?_, ?_, ?_, ?_, ?_, ?_, ?_, ?_, trivial⟩ ?_
          · refine step_plain [] (by kernel_rfl) rfl fun us w' hG hV => ?_
            have o2 := (frame_old2 (us := us) (a := a0) (show (cbT[2]?).join = none from rfl)).trans k2
            generalize frame cbT a0 us = fr at *
            exact val_ok (v := .pointer (some ⟨w.heap.size, 39, none⟩)) (w' := w') (by go_simp) hG (Below.refl _ _) rfl
          · refine step_plain [0] (by kernel_rfl) rfl fun us w' hG hV => ?_
            have e0 : us 0 = .pointer (some ⟨w.heap.size, 39, none⟩) := hV 0 (by simp)
            have v0 := (frame_at2 (us := us) hl (show (cbT[6]?).join = some 0 from rfl)).trans e0
            have hc := A1.out w' hG
            generalize frame cbT a0 us = fr at *
            exact val_ok (v := .int .i64 oa) (w' := w') (by go_simp) hG (Below.refl _ _) rfl
          · refine step_plain [] (by kernel_rfl) rfl fun us w' hG hV => ?_
            have o3 := (frame_old2 (us := us) (a := a0) (show (cbT[3]?).join = none from rfl)).trans k3
            have hg1 := (RB.out w' hG)
            generalize frame cbT a0 us = fr at *
            exact load_ok 28 3 rfl ((w.heap.size + 1)) o3 _ _ (0, 0) _ hg1 Try.underlying28 rfl IB.out hG rfl
          · refine step_plain [2] (by kernel_rfl) rfl fun us w' hG hV => ?_
            have e2 : us 2 = .agg CB := hV 2 (by simp)
            have v2 := (frame_at2 (us := us) hl (show (cbT[8]?).join = some 2 from rfl)).trans e2
            generalize frame cbT a0 us = fr at *
            exact call_ok (f := 49) (args := #[.agg CB]) (by go_simp) ((EB.out w').mono fun e w'' h => ⟨_, h.1, hG.below h.2, h.2, rfl⟩)
          · refine step_plain [1, 3] (by kernel_rfl) rfl fun us w' hG hV => ?_
            have e1 : us 1 = .int .i64 oa := hV 1 (by simp)
            have v1 := (frame_at2 (us := us) hl (show (cbT[7]?).join = some 1 from rfl)).trans e1
            have e3 : us 3 = .int .i64 eb := hV 3 (by simp)
            have v3 := (frame_at2 (us := us) hl (show (cbT[9]?).join = some 3 from rfl)).trans e3
            have q := Q1.out
            generalize frame cbT a0 us = fr at *
            exact val_ok (v := .bool true) (w' := w') (by go_simp) hG (Below.refl _ _) rfl
          · refine step_plain [4] (by kernel_rfl) rfl fun us w' hG hV => ?_
            have e4 : us 4 = .bool true := hV 4 (by simp)
            have v4 := (frame_at2 (us := us) hl (show (cbT[10]?).join = some 4 from rfl)).trans e4
            generalize frame cbT a0 us = fr at *
            exact val_ok (v := .bool true) (w' := w') (by go_simp) hG (Below.refl _ _) rfl
          · refine step_guard [5] (by kernel_rfl) (j := 5) (t := 11) (b := true) rfl (by simp) rfl hl rfl (fun v w h => h) fun us w' hG hV => ?_
            have o3 := (frame_old2 (us := us) (a := a0) (show (cbT[3]?).join = none from rfl)).trans k3
            generalize frame cbT a0 us = fr at *
            exact val_ok (v := .pointer (some ⟨(w.heap.size + 1), 39, none⟩)) (w' := w') (by go_simp) hG (Below.refl _ _) rfl
          · refine step_guard [5, 6] (by kernel_rfl) (j := 5) (t := 11) (b := true) rfl (by simp) rfl hl rfl (fun v w h => h) fun us w' hG hV => ?_
            have e6 : us 6 = .pointer (some ⟨(w.heap.size + 1), 39, none⟩) := hV 6 (by simp)
            have v6 := (frame_at2 (us := us) hl (show (cbT[12]?).join = some 6 from rfl)).trans e6
            have hc := B1.out w' hG
            generalize frame cbT a0 us = fr at *
            exact val_ok (v := .int .i64 ob) (w' := w') (by go_simp) hG (Below.refl _ _) rfl
          · refine step_guard [5] (by kernel_rfl) (j := 5) (t := 11) (b := true) rfl (by simp) rfl hl rfl (fun v w h => h) fun us w' hG hV => ?_
            have o2 := (frame_old2 (us := us) (a := a0) (show (cbT[2]?).join = none from rfl)).trans k2
            have hg1 := (RA.out w' hG)
            generalize frame cbT a0 us = fr at *
            exact load_ok 28 2 rfl (w.heap.size) o2 _ _ (0, 0) _ hg1 Try.underlying28 rfl IA.out hG rfl
          · refine step_guard [5, 8] (by kernel_rfl) (j := 5) (t := 11) (b := true) rfl (by simp) rfl hl rfl (fun v w h => h) fun us w' hG hV => ?_
            have e8 : us 8 = .agg CA := hV 8 (by simp)
            have v8 := (frame_at2 (us := us) hl (show (cbT[14]?).join = some 8 from rfl)).trans e8
            generalize frame cbT a0 us = fr at *
            exact call_ok (f := 49) (args := #[.agg CA]) (by go_simp) ((EA.out w').mono fun e w'' h => ⟨_, h.1, hG.below h.2, h.2, rfl⟩)
          · refine step_guard [5, 7, 9] (by kernel_rfl) (j := 5) (t := 11) (b := true) rfl (by simp) rfl hl rfl (fun v w h => h) fun us w' hG hV => ?_
            have e7 : us 7 = .int .i64 ob := hV 7 (by simp)
            have v7 := (frame_at2 (us := us) hl (show (cbT[13]?).join = some 7 from rfl)).trans e7
            have e9 : us 9 = .int .i64 ea := hV 9 (by simp)
            have v9 := (frame_at2 (us := us) hl (show (cbT[15]?).join = some 9 from rfl)).trans e9
            have q := Q2.out
            generalize frame cbT a0 us = fr at *
            exact val_ok (v := .bool false) (w' := w') (by go_simp) hG (Below.refl _ _) rfl
          · refine step_plain [5, 10] (by kernel_rfl) rfl fun us w' hG hV => ?_
            have e5 : us 5 = .bool true := hV 5 (by simp)
            have v5 := (frame_at2 (us := us) hl (show (cbT[11]?).join = some 5 from rfl)).trans e5
            have e10 : us 10 = .bool false := hV 10 (by simp)
            have v10 := (frame_at2 (us := us) hl (show (cbT[16]?).join = some 10 from rfl)).trans e10
            generalize frame cbT a0 us = fr at *
            exact val_ok (v := .bool false) (w' := w') (by go_simp) hG (Below.refl _ _) rfl
          · refine step_plain [11] (by kernel_rfl) rfl fun us w' hG hV => ?_
            have e11 : us 11 = .bool false := hV 11 (by simp)
            have v11 := (frame_at2 (us := us) hl (show (cbT[17]?).join = some 11 from rfl)).trans e11
            generalize frame cbT a0 us = fr at *
            exact val_ok (v := .bool false) (w' := w') (by go_simp) hG (Below.refl _ _) rfl
          · intro us w5 hG hV
            have eL : us 12 = .bool false := hV 12 (by decide)
            subst ha0
            simp only [frame, cbT, fill]
            rw [eL]
            have HG3 := Lib.hid hG
            clear hV hl hG k2 k3 eL
            go_upto_region 2 with fail
            refine with_act fun a0 ha0 => ?_
            have hl : ddT.length = a0.tmps.size := by rw [ha0]; rfl
            have k2 : a0.tmps[2]?.getD undef = .pointer (some ⟨w.heap.size, 0, none⟩) := by rw [ha0]; rfl
            have k3 : a0.tmps[3]?.getD undef = .pointer (some ⟨(w.heap.size + 1), 0, none⟩) := by rw [ha0]; rfl
            have k5 : a0.tmps[5]?.getD undef = .bool false := by rw [ha0]; rfl
            refine wp_region_vals (by kernel_rfl) ddT (by kernel_rfl) (by kernel_rfl) hl (fun i => if i = 25 then .bool false else a0.tmps[i + 18]?.getD undef) (by rw [ha0]; rfl) (Gr W) (ddV w.heap.size (w.heap.size + 1) CA CB oa ob ea eb) HG3.out.drew (ddV.keep _ _ _ _ _ _ _ _) ⟨?_, ?_, ?_, ?_, ?_, ?_, ?_, ?_, ?_, ?_, ?_, ?_, ?_, ?_, ?_, ?_, ?_, ?_, ?_, ?_, ?_, ?_, ?_, ?_, ?_, ?_, trivial⟩ ?_
            · refine step_plain [] (by kernel_rfl) rfl fun us w' hG hV => ?_
              have o5 := (frame_old2 (us := us) (a := a0) (show (ddT[5]?).join = none from rfl)).trans k5
              generalize frame ddT a0 us = fr at *
              exact val_ok (v := .bool false) (w' := w') (by go_simp) hG (Below.refl _ _) rfl
            · refine step_plain [0] (by kernel_rfl) rfl fun us w' hG hV => ?_
              have e0 : us 0 = .bool false := hV 0 (by simp)
              have v0 := (frame_at2 (us := us) hl (show (ddT[18]?).join = some 0 from rfl)).trans e0
              generalize frame ddT a0 us = fr at *
              exact val_ok (v := .bool false) (w' := w') (by go_simp) hG (Below.refl _ _) rfl
            · refine step_guard [1] (by kernel_rfl) (j := 1) (t := 19) (b := false) rfl (by simp) rfl hl rfl (fun v w h => h) fun us w' hG hV => ?_
              have o2 := (frame_old2 (us := us) (a := a0) (show (ddT[2]?).join = none from rfl)).trans k2
              generalize frame ddT a0 us = fr at *
              exact val_ok (v := .pointer (some ⟨w.heap.size, 38, none⟩)) (w' := w') (by go_simp) hG (Below.refl _ _) rfl
            · refine step_guard [1, 2] (by kernel_rfl) (j := 1) (t := 19) (b := false) rfl (by simp) rfl hl rfl (fun v w h => h) fun us w' hG hV => ?_
              have e2 : us 2 = .pointer (some ⟨w.heap.size, 38, none⟩) := hV 2 (by simp)
              have v2 := (frame_at2 (us := us) hl (show (ddT[20]?).join = some 2 from rfl)).trans e2
              have hc := A2.out w' hG
              generalize frame ddT a0 us = fr at *
              exact val_ok (v := .bool true) (w' := w') (by go_simp) hG (Below.refl _ _) rfl
            · refine step_guard [1, 3] (by kernel_rfl) (j := 1) (t := 19) (b := false) rfl (by simp) rfl hl rfl (fun v w h => h) fun us w' hG hV => ?_
              have e3 : us 3 = .bool true := hV 3 (by simp)
              have v3 := (frame_at2 (us := us) hl (show (ddT[21]?).join = some 3 from rfl)).trans e3
              generalize frame ddT a0 us = fr at *
              exact val_ok (v := .bool false) (w' := w') (by go_simp) hG (Below.refl _ _) rfl
            · refine step_guard [1, 4] (by kernel_rfl) (j := 1) (t := 19) (b := false) rfl (by simp) rfl hl rfl (fun v w h => h) fun us w' hG hV => ?_
              have e4 : us 4 = .bool false := hV 4 (by simp)
              have v4 := (frame_at2 (us := us) hl (show (ddT[22]?).join = some 4 from rfl)).trans e4
              generalize frame ddT a0 us = fr at *
              exact val_ok (v := .bool false) (w' := w') (by go_simp) hG (Below.refl _ _) rfl
            · exact step_skip [5] (by kernel_rfl) (j := 5) (t := 23) (b := true) rfl (by simp) rfl hl rfl (fun v w h => .inl h) fun _ => rfl
            · exact step_skip [5] (by kernel_rfl) (j := 5) (t := 23) (b := true) rfl (by simp) rfl hl rfl (fun v w h => .inl h) fun _ => rfl
            · exact step_skip [5] (by kernel_rfl) (j := 5) (t := 23) (b := true) rfl (by simp) rfl hl rfl (fun v w h => .inl h) fun _ => rfl
            · exact step_skip [5] (by kernel_rfl) (j := 5) (t := 23) (b := true) rfl (by simp) rfl hl rfl (fun v w h => .inl h) fun _ => rfl
            · exact step_skip [5] (by kernel_rfl) (j := 5) (t := 23) (b := true) rfl (by simp) rfl hl rfl (fun v w h => .inl h) fun _ => rfl
            · refine step_guard [1, 5] (by kernel_rfl) (j := 1) (t := 19) (b := false) rfl (by simp) rfl hl rfl (fun v w h => h) fun us w' hG hV => ?_
              have e5 : us 5 = .bool false := hV 5 (by simp)
              have v5 := (frame_at2 (us := us) hl (show (ddT[23]?).join = some 5 from rfl)).trans e5
              generalize frame ddT a0 us = fr at *
              exact val_ok (v := .bool false) (w' := w') (by go_simp) hG (Below.refl _ _) rfl
            · refine step_plain [1, 11] (by kernel_rfl) rfl fun us w' hG hV => ?_
              have e1 : us 1 = .bool false := hV 1 (by simp)
              have v1 := (frame_at2 (us := us) hl (show (ddT[19]?).join = some 1 from rfl)).trans e1
              have e11 : us 11 = .bool false := hV 11 (by simp)
              have v11 := (frame_at2 (us := us) hl (show (ddT[29]?).join = some 11 from rfl)).trans e11
              generalize frame ddT a0 us = fr at *
              exact val_ok (v := .bool false) (w' := w') (by go_simp) hG (Below.refl _ _) rfl
            · refine step_plain [12] (by kernel_rfl) rfl fun us w' hG hV => ?_
              have e12 : us 12 = .bool false := hV 12 (by simp)
              have v12 := (frame_at2 (us := us) hl (show (ddT[30]?).join = some 12 from rfl)).trans e12
              generalize frame ddT a0 us = fr at *
              exact val_ok (v := .bool false) (w' := w') (by go_simp) hG (Below.refl _ _) rfl
            · refine step_guard [13] (by kernel_rfl) (j := 13) (t := 31) (b := false) rfl (by simp) rfl hl rfl (fun v w h => h) fun us w' hG hV => ?_
              have o3 := (frame_old2 (us := us) (a := a0) (show (ddT[3]?).join = none from rfl)).trans k3
              generalize frame ddT a0 us = fr at *
              exact val_ok (v := .pointer (some ⟨(w.heap.size + 1), 38, none⟩)) (w' := w') (by go_simp) hG (Below.refl _ _) rfl
            · refine step_guard [13, 14] (by kernel_rfl) (j := 13) (t := 31) (b := false) rfl (by simp) rfl hl rfl (fun v w h => h) fun us w' hG hV => ?_
              have e14 : us 14 = .pointer (some ⟨(w.heap.size + 1), 38, none⟩) := hV 14 (by simp)
              have v14 := (frame_at2 (us := us) hl (show (ddT[32]?).join = some 14 from rfl)).trans e14
              have hc := B2.out w' hG
              generalize frame ddT a0 us = fr at *
              exact val_ok (v := .bool false) (w' := w') (by go_simp) hG (Below.refl _ _) rfl
            · refine step_guard [13, 15] (by kernel_rfl) (j := 13) (t := 31) (b := false) rfl (by simp) rfl hl rfl (fun v w h => h) fun us w' hG hV => ?_
              have e15 : us 15 = .bool false := hV 15 (by simp)
              have v15 := (frame_at2 (us := us) hl (show (ddT[33]?).join = some 15 from rfl)).trans e15
              generalize frame ddT a0 us = fr at *
              exact val_ok (v := .bool true) (w' := w') (by go_simp) hG (Below.refl _ _) rfl
            · refine step_guard [13, 16] (by kernel_rfl) (j := 13) (t := 31) (b := false) rfl (by simp) rfl hl rfl (fun v w h => h) fun us w' hG hV => ?_
              have e16 : us 16 = .bool true := hV 16 (by simp)
              have v16 := (frame_at2 (us := us) hl (show (ddT[34]?).join = some 16 from rfl)).trans e16
              generalize frame ddT a0 us = fr at *
              exact val_ok (v := .bool true) (w' := w') (by go_simp) hG (Below.refl _ _) rfl
            · refine step_guard [17] (by kernel_rfl) (j := 17) (t := 35) (b := true) rfl (by simp) rfl hl rfl (fun v w h => h) fun us w' hG hV => ?_
              have o2 := (frame_old2 (us := us) (a := a0) (show (ddT[2]?).join = none from rfl)).trans k2
              have hg1 := (RA.out w' hG)
              generalize frame ddT a0 us = fr at *
              exact load_ok 28 2 rfl (w.heap.size) o2 _ _ (0, 0) _ hg1 Try.underlying28 rfl IA.out hG rfl
            · refine step_guard [17, 18] (by kernel_rfl) (j := 17) (t := 35) (b := true) rfl (by simp) rfl hl rfl (fun v w h => h) fun us w' hG hV => ?_
              have e18 : us 18 = .agg CA := hV 18 (by simp)
              have v18 := (frame_at2 (us := us) hl (show (ddT[36]?).join = some 18 from rfl)).trans e18
              generalize frame ddT a0 us = fr at *
              exact call_ok (f := 49) (args := #[.agg CA]) (by go_simp) ((EA.out w').mono fun e w'' h => ⟨_, h.1, hG.below h.2, h.2, rfl⟩)
            · refine step_guard [17] (by kernel_rfl) (j := 17) (t := 35) (b := true) rfl (by simp) rfl hl rfl (fun v w h => h) fun us w' hG hV => ?_
              have o3 := (frame_old2 (us := us) (a := a0) (show (ddT[3]?).join = none from rfl)).trans k3
              have hg1 := (RB.out w' hG)
              generalize frame ddT a0 us = fr at *
              exact load_ok 28 3 rfl ((w.heap.size + 1)) o3 _ _ (0, 0) _ hg1 Try.underlying28 rfl IB.out hG rfl
            · refine step_guard [17, 20] (by kernel_rfl) (j := 17) (t := 35) (b := true) rfl (by simp) rfl hl rfl (fun v w h => h) fun us w' hG hV => ?_
              have e20 : us 20 = .agg CB := hV 20 (by simp)
              have v20 := (frame_at2 (us := us) hl (show (ddT[38]?).join = some 20 from rfl)).trans e20
              generalize frame ddT a0 us = fr at *
              exact call_ok (f := 49) (args := #[.agg CB]) (by go_simp) ((EB.out w').mono fun e w'' h => ⟨_, h.1, hG.below h.2, h.2, rfl⟩)
            · refine step_guard [17, 19, 21] (by kernel_rfl) (j := 17) (t := 35) (b := true) rfl (by simp) rfl hl rfl (fun v w h => h) fun us w' hG hV => ?_
              have e19 : us 19 = .int .i64 ea := hV 19 (by simp)
              have v19 := (frame_at2 (us := us) hl (show (ddT[37]?).join = some 19 from rfl)).trans e19
              have e21 : us 21 = .int .i64 eb := hV 21 (by simp)
              have v21 := (frame_at2 (us := us) hl (show (ddT[39]?).join = some 21 from rfl)).trans e21
              have q := Q5.out
              generalize frame ddT a0 us = fr at *
              exact val_ok (v := .bool false) (w' := w') (by go_simp) hG (Below.refl _ _) rfl
            · refine step_guard [13, 17, 22] (by kernel_rfl) (j := 13) (t := 31) (b := false) rfl (by simp) rfl hl rfl (fun v w h => h) fun us w' hG hV => ?_
              have e17 : us 17 = .bool true := hV 17 (by simp)
              have v17 := (frame_at2 (us := us) hl (show (ddT[35]?).join = some 17 from rfl)).trans e17
              have e22 : us 22 = .bool false := hV 22 (by simp)
              have v22 := (frame_at2 (us := us) hl (show (ddT[40]?).join = some 22 from rfl)).trans e22
              generalize frame ddT a0 us = fr at *
              exact val_ok (v := .bool false) (w' := w') (by go_simp) hG (Below.refl _ _) rfl
            · refine step_plain [13, 23] (by kernel_rfl) rfl fun us w' hG hV => ?_
              have e13 : us 13 = .bool false := hV 13 (by simp)
              have v13 := (frame_at2 (us := us) hl (show (ddT[31]?).join = some 13 from rfl)).trans e13
              have e23 : us 23 = .bool false := hV 23 (by simp)
              have v23 := (frame_at2 (us := us) hl (show (ddT[41]?).join = some 23 from rfl)).trans e23
              generalize frame ddT a0 us = fr at *
              exact val_ok (v := .bool false) (w' := w') (by go_simp) hG (Below.refl _ _) rfl
            · refine step_plain [24] (by kernel_rfl) rfl fun us w' hG hV => ?_
              have e24 : us 24 = .bool false := hV 24 (by simp)
              have v24 := (frame_at2 (us := us) hl (show (ddT[42]?).join = some 24 from rfl)).trans e24
              generalize frame ddT a0 us = fr at *
              exact val_ok (v := .bool false) (w' := w') (by go_simp) hG (Below.refl _ _) rfl
            · intro us w7 hG hV
              have eL : us 25 = .bool false := hV 25 (by decide)
              subst ha0
              simp only [frame, ddT, fill]
              rw [eL]
              have HG4 := Lib.hid hG
              clear hV hl hG k2 k3 k5 eL
              go_wp2_with fail
              go_ret
              exact ⟨ret_bool HVV.out.symm, HB.out.trans (Below.mono HG4.out HB.out.size)⟩
    · by_cases h4 : ea < eb
      · have Q1 := Lib.hid h1
        have Q2 := Lib.hid h2
        have Q4 := Lib.hid h4
        have HVV := Lib.hid (show V = true by rw [HV.out]; simp [h1, h2, h4])
        clear HV h1 h2 h4
        go_enter Try.func45, Try.ntmps45
        go_upto_region 1 with fail
        rw [← hW]
        clear hW R0 R1
        refine with_act fun a0 ha0 => ?_
        have hl : cbT.length = a0.tmps.size := by rw [ha0]; rfl
        have k2 : a0.tmps[2]?.getD undef = .pointer (some ⟨w.heap.size, 0, none⟩) := by rw [ha0]; rfl
        have k3 : a0.tmps[3]?.getD undef = .pointer (some ⟨(w.heap.size + 1), 0, none⟩) := by rw [ha0]; rfl
        refine wp_region_vals (by kernel_rfl) cbT (by kernel_rfl) (by kernel_rfl) hl (fun i => undef) (by rw [ha0]; rfl) (Gr W) (cbV w.heap.size (w.heap.size + 1) CA CB oa ob ea eb) (show Gr _ _ from (Below.refl _ _).drew) (cbV.keep _ _ _ _ _ _ _ _) ⟨?_, ?_, ?_, ?_, ?_, ?_, ?_, ?_, ?_, ?_, ?_, ?_, ?_, trivial⟩ ?_
        · refine step_plain [] (by kernel_rfl) rfl fun us w' hG hV => ?_
          have o2 := (frame_old2 (us := us) (a := a0) (show (cbT[2]?).join = none from rfl)).trans k2
          generalize frame cbT a0 us = fr at *
          exact val_ok (v := .pointer (some ⟨w.heap.size, 39, none⟩)) (w' := w') (by go_simp) hG (Below.refl _ _) rfl
        · refine step_plain [0] (by kernel_rfl) rfl fun us w' hG hV => ?_
          have e0 : us 0 = .pointer (some ⟨w.heap.size, 39, none⟩) := hV 0 (by simp)
          have v0 := (frame_at2 (us := us) hl (show (cbT[6]?).join = some 0 from rfl)).trans e0
          have hc := A1.out w' hG
          generalize frame cbT a0 us = fr at *
          exact val_ok (v := .int .i64 oa) (w' := w') (by go_simp) hG (Below.refl _ _) rfl
        · refine step_plain [] (by kernel_rfl) rfl fun us w' hG hV => ?_
          have o3 := (frame_old2 (us := us) (a := a0) (show (cbT[3]?).join = none from rfl)).trans k3
          have hg1 := (RB.out w' hG)
          generalize frame cbT a0 us = fr at *
          exact load_ok 28 3 rfl ((w.heap.size + 1)) o3 _ _ (0, 0) _ hg1 Try.underlying28 rfl IB.out hG rfl
        · refine step_plain [2] (by kernel_rfl) rfl fun us w' hG hV => ?_
          have e2 : us 2 = .agg CB := hV 2 (by simp)
          have v2 := (frame_at2 (us := us) hl (show (cbT[8]?).join = some 2 from rfl)).trans e2
          generalize frame cbT a0 us = fr at *
          exact call_ok (f := 49) (args := #[.agg CB]) (by go_simp) ((EB.out w').mono fun e w'' h => ⟨_, h.1, hG.below h.2, h.2, rfl⟩)
        · refine step_plain [1, 3] (by kernel_rfl) rfl fun us w' hG hV => ?_
          have e1 : us 1 = .int .i64 oa := hV 1 (by simp)
          have v1 := (frame_at2 (us := us) hl (show (cbT[7]?).join = some 1 from rfl)).trans e1
          have e3 : us 3 = .int .i64 eb := hV 3 (by simp)
          have v3 := (frame_at2 (us := us) hl (show (cbT[9]?).join = some 3 from rfl)).trans e3
          have q := Q1.out
          generalize frame cbT a0 us = fr at *
          exact val_ok (v := .bool true) (w' := w') (by go_simp) hG (Below.refl _ _) rfl
        · refine step_plain [4] (by kernel_rfl) rfl fun us w' hG hV => ?_
          have e4 : us 4 = .bool true := hV 4 (by simp)
          have v4 := (frame_at2 (us := us) hl (show (cbT[10]?).join = some 4 from rfl)).trans e4
          generalize frame cbT a0 us = fr at *
          exact val_ok (v := .bool true) (w' := w') (by go_simp) hG (Below.refl _ _) rfl
        · refine step_guard [5] (by kernel_rfl) (j := 5) (t := 11) (b := true) rfl (by simp) rfl hl rfl (fun v w h => h) fun us w' hG hV => ?_
          have o3 := (frame_old2 (us := us) (a := a0) (show (cbT[3]?).join = none from rfl)).trans k3
          generalize frame cbT a0 us = fr at *
          exact val_ok (v := .pointer (some ⟨(w.heap.size + 1), 39, none⟩)) (w' := w') (by go_simp) hG (Below.refl _ _) rfl
        · refine step_guard [5, 6] (by kernel_rfl) (j := 5) (t := 11) (b := true) rfl (by simp) rfl hl rfl (fun v w h => h) fun us w' hG hV => ?_
          have e6 : us 6 = .pointer (some ⟨(w.heap.size + 1), 39, none⟩) := hV 6 (by simp)
          have v6 := (frame_at2 (us := us) hl (show (cbT[12]?).join = some 6 from rfl)).trans e6
          have hc := B1.out w' hG
          generalize frame cbT a0 us = fr at *
          exact val_ok (v := .int .i64 ob) (w' := w') (by go_simp) hG (Below.refl _ _) rfl
        · refine step_guard [5] (by kernel_rfl) (j := 5) (t := 11) (b := true) rfl (by simp) rfl hl rfl (fun v w h => h) fun us w' hG hV => ?_
          have o2 := (frame_old2 (us := us) (a := a0) (show (cbT[2]?).join = none from rfl)).trans k2
          have hg1 := (RA.out w' hG)
          generalize frame cbT a0 us = fr at *
          exact load_ok 28 2 rfl (w.heap.size) o2 _ _ (0, 0) _ hg1 Try.underlying28 rfl IA.out hG rfl
        · refine step_guard [5, 8] (by kernel_rfl) (j := 5) (t := 11) (b := true) rfl (by simp) rfl hl rfl (fun v w h => h) fun us w' hG hV => ?_
          have e8 : us 8 = .agg CA := hV 8 (by simp)
          have v8 := (frame_at2 (us := us) hl (show (cbT[14]?).join = some 8 from rfl)).trans e8
          generalize frame cbT a0 us = fr at *
          exact call_ok (f := 49) (args := #[.agg CA]) (by go_simp) ((EA.out w').mono fun e w'' h => ⟨_, h.1, hG.below h.2, h.2, rfl⟩)
        · refine step_guard [5, 7, 9] (by kernel_rfl) (j := 5) (t := 11) (b := true) rfl (by simp) rfl hl rfl (fun v w h => h) fun us w' hG hV => ?_
          have e7 : us 7 = .int .i64 ob := hV 7 (by simp)
          have v7 := (frame_at2 (us := us) hl (show (cbT[13]?).join = some 7 from rfl)).trans e7
          have e9 : us 9 = .int .i64 ea := hV 9 (by simp)
          have v9 := (frame_at2 (us := us) hl (show (cbT[15]?).join = some 9 from rfl)).trans e9
          have q := Q2.out
          generalize frame cbT a0 us = fr at *
          exact val_ok (v := .bool false) (w' := w') (by go_simp) hG (Below.refl _ _) rfl
        · refine step_plain [5, 10] (by kernel_rfl) rfl fun us w' hG hV => ?_
          have e5 : us 5 = .bool true := hV 5 (by simp)
          have v5 := (frame_at2 (us := us) hl (show (cbT[11]?).join = some 5 from rfl)).trans e5
          have e10 : us 10 = .bool false := hV 10 (by simp)
          have v10 := (frame_at2 (us := us) hl (show (cbT[16]?).join = some 10 from rfl)).trans e10
          generalize frame cbT a0 us = fr at *
          exact val_ok (v := .bool false) (w' := w') (by go_simp) hG (Below.refl _ _) rfl
        · refine step_plain [11] (by kernel_rfl) rfl fun us w' hG hV => ?_
          have e11 : us 11 = .bool false := hV 11 (by simp)
          have v11 := (frame_at2 (us := us) hl (show (cbT[17]?).join = some 11 from rfl)).trans e11
          generalize frame cbT a0 us = fr at *
          exact val_ok (v := .bool false) (w' := w') (by go_simp) hG (Below.refl _ _) rfl
        · intro us w5 hG hV
          have eL : us 12 = .bool false := hV 12 (by decide)
          subst ha0
          simp only [frame, cbT, fill]
          rw [eL]
          have HG3 := Lib.hid hG
          clear hV hl hG k2 k3 eL
          go_upto_region 2 with fail
          refine with_act fun a0 ha0 => ?_
          have hl : dbT.length = a0.tmps.size := by rw [ha0]; rfl
          have k2 : a0.tmps[2]?.getD undef = .pointer (some ⟨w.heap.size, 0, none⟩) := by rw [ha0]; rfl
          have k3 : a0.tmps[3]?.getD undef = .pointer (some ⟨(w.heap.size + 1), 0, none⟩) := by rw [ha0]; rfl
          have k5 : a0.tmps[5]?.getD undef = .bool false := by rw [ha0]; rfl
          refine wp_region_vals (by kernel_rfl) dbT (by kernel_rfl) (by kernel_rfl) hl (fun i => if i = 25 then .bool false else a0.tmps[i + 18]?.getD undef) (by rw [ha0]; rfl) (Gr W) (dbV w.heap.size (w.heap.size + 1) CA CB oa ob ea eb) HG3.out.drew (dbV.keep _ _ _ _ _ _ _ _) ⟨?_, ?_, ?_, ?_, ?_, ?_, ?_, ?_, ?_, ?_, ?_, ?_, ?_, ?_, ?_, ?_, ?_, ?_, ?_, ?_, ?_, ?_, ?_, ?_, ?_, ?_, trivial⟩ ?_
          · refine step_plain [] (by kernel_rfl) rfl fun us w' hG hV => ?_
            have o5 := (frame_old2 (us := us) (a := a0) (show (dbT[5]?).join = none from rfl)).trans k5
            generalize frame dbT a0 us = fr at *
            exact val_ok (v := .bool false) (w' := w') (by go_simp) hG (Below.refl _ _) rfl
          · refine step_plain [0] (by kernel_rfl) rfl fun us w' hG hV => ?_
            have e0 : us 0 = .bool false := hV 0 (by simp)
            have v0 := (frame_at2 (us := us) hl (show (dbT[18]?).join = some 0 from rfl)).trans e0
            generalize frame dbT a0 us = fr at *
            exact val_ok (v := .bool false) (w' := w') (by go_simp) hG (Below.refl _ _) rfl
          · refine step_guard [1] (by kernel_rfl) (j := 1) (t := 19) (b := false) rfl (by simp) rfl hl rfl (fun v w h => h) fun us w' hG hV => ?_
            have o2 := (frame_old2 (us := us) (a := a0) (show (dbT[2]?).join = none from rfl)).trans k2
            generalize frame dbT a0 us = fr at *
            exact val_ok (v := .pointer (some ⟨w.heap.size, 38, none⟩)) (w' := w') (by go_simp) hG (Below.refl _ _) rfl
          · refine step_guard [1, 2] (by kernel_rfl) (j := 1) (t := 19) (b := false) rfl (by simp) rfl hl rfl (fun v w h => h) fun us w' hG hV => ?_
            have e2 : us 2 = .pointer (some ⟨w.heap.size, 38, none⟩) := hV 2 (by simp)
            have v2 := (frame_at2 (us := us) hl (show (dbT[20]?).join = some 2 from rfl)).trans e2
            have hc := A2.out w' hG
            generalize frame dbT a0 us = fr at *
            exact val_ok (v := .bool false) (w' := w') (by go_simp) hG (Below.refl _ _) rfl
          · refine step_guard [1, 3] (by kernel_rfl) (j := 1) (t := 19) (b := false) rfl (by simp) rfl hl rfl (fun v w h => h) fun us w' hG hV => ?_
            have e3 : us 3 = .bool false := hV 3 (by simp)
            have v3 := (frame_at2 (us := us) hl (show (dbT[21]?).join = some 3 from rfl)).trans e3
            generalize frame dbT a0 us = fr at *
            exact val_ok (v := .bool true) (w' := w') (by go_simp) hG (Below.refl _ _) rfl
          · refine step_guard [1, 4] (by kernel_rfl) (j := 1) (t := 19) (b := false) rfl (by simp) rfl hl rfl (fun v w h => h) fun us w' hG hV => ?_
            have e4 : us 4 = .bool true := hV 4 (by simp)
            have v4 := (frame_at2 (us := us) hl (show (dbT[22]?).join = some 4 from rfl)).trans e4
            generalize frame dbT a0 us = fr at *
            exact val_ok (v := .bool true) (w' := w') (by go_simp) hG (Below.refl _ _) rfl
          · refine step_guard [5] (by kernel_rfl) (j := 5) (t := 23) (b := true) rfl (by simp) rfl hl rfl (fun v w h => h) fun us w' hG hV => ?_
            have o3 := (frame_old2 (us := us) (a := a0) (show (dbT[3]?).join = none from rfl)).trans k3
            have hg1 := (RB.out w' hG)
            generalize frame dbT a0 us = fr at *
            exact load_ok 28 3 rfl ((w.heap.size + 1)) o3 _ _ (0, 0) _ hg1 Try.underlying28 rfl IB.out hG rfl
          · refine step_guard [5, 6] (by kernel_rfl) (j := 5) (t := 23) (b := true) rfl (by simp) rfl hl rfl (fun v w h => h) fun us w' hG hV => ?_
            have e6 : us 6 = .agg CB := hV 6 (by simp)
            have v6 := (frame_at2 (us := us) hl (show (dbT[24]?).join = some 6 from rfl)).trans e6
            generalize frame dbT a0 us = fr at *
            exact call_ok (f := 49) (args := #[.agg CB]) (by go_simp) ((EB.out w').mono fun e w'' h => ⟨_, h.1, hG.below h.2, h.2, rfl⟩)
          · refine step_guard [5] (by kernel_rfl) (j := 5) (t := 23) (b := true) rfl (by simp) rfl hl rfl (fun v w h => h) fun us w' hG hV => ?_
            have o2 := (frame_old2 (us := us) (a := a0) (show (dbT[2]?).join = none from rfl)).trans k2
            have hg1 := (RA.out w' hG)
            generalize frame dbT a0 us = fr at *
            exact load_ok 28 2 rfl (w.heap.size) o2 _ _ (0, 0) _ hg1 Try.underlying28 rfl IA.out hG rfl
          · refine step_guard [5, 8] (by kernel_rfl) (j := 5) (t := 23) (b := true) rfl (by simp) rfl hl rfl (fun v w h => h) fun us w' hG hV => ?_
            have e8 : us 8 = .agg CA := hV 8 (by simp)
            have v8 := (frame_at2 (us := us) hl (show (dbT[26]?).join = some 8 from rfl)).trans e8
            generalize frame dbT a0 us = fr at *
            exact call_ok (f := 49) (args := #[.agg CA]) (by go_simp) ((EA.out w').mono fun e w'' h => ⟨_, h.1, hG.below h.2, h.2, rfl⟩)
          · refine step_guard [5, 7, 9] (by kernel_rfl) (j := 5) (t := 23) (b := true) rfl (by simp) rfl hl rfl (fun v w h => h) fun us w' hG hV => ?_
            have e7 : us 7 = .int .i64 eb := hV 7 (by simp)
            have v7 := (frame_at2 (us := us) hl (show (dbT[25]?).join = some 7 from rfl)).trans e7
            have e9 : us 9 = .int .i64 ea := hV 9 (by simp)
            have v9 := (frame_at2 (us := us) hl (show (dbT[27]?).join = some 9 from rfl)).trans e9
            have q := Q4.out
            generalize frame dbT a0 us = fr at *
            exact val_ok (v := .bool true) (w' := w') (by go_simp) hG (Below.refl _ _) rfl
          · refine step_guard [1, 5, 10] (by kernel_rfl) (j := 1) (t := 19) (b := false) rfl (by simp) rfl hl rfl (fun v w h => h) fun us w' hG hV => ?_
            have e5 : us 5 = .bool true := hV 5 (by simp)
            have v5 := (frame_at2 (us := us) hl (show (dbT[23]?).join = some 5 from rfl)).trans e5
            have e10 : us 10 = .bool true := hV 10 (by simp)
            have v10 := (frame_at2 (us := us) hl (show (dbT[28]?).join = some 10 from rfl)).trans e10
            generalize frame dbT a0 us = fr at *
            exact val_ok (v := .bool true) (w' := w') (by go_simp) hG (Below.refl _ _) rfl
          · refine step_plain [1, 11] (by kernel_rfl) rfl fun us w' hG hV => ?_
            have e1 : us 1 = .bool false := hV 1 (by simp)
            have v1 := (frame_at2 (us := us) hl (show (dbT[19]?).join = some 1 from rfl)).trans e1
            have e11 : us 11 = .bool true := hV 11 (by simp)
            have v11 := (frame_at2 (us := us) hl (show (dbT[29]?).join = some 11 from rfl)).trans e11
            generalize frame dbT a0 us = fr at *
            exact val_ok (v := .bool true) (w' := w') (by go_simp) hG (Below.refl _ _) rfl
          · refine step_plain [12] (by kernel_rfl) rfl fun us w' hG hV => ?_
            have e12 : us 12 = .bool true := hV 12 (by simp)
            have v12 := (frame_at2 (us := us) hl (show (dbT[30]?).join = some 12 from rfl)).trans e12
            generalize frame dbT a0 us = fr at *
            exact val_ok (v := .bool true) (w' := w') (by go_simp) hG (Below.refl _ _) rfl
          · exact step_skip [13] (by kernel_rfl) (j := 13) (t := 31) (b := false) rfl (by simp) rfl hl rfl (fun v w h => .inl h) fun _ => rfl
          · exact step_skip [13] (by kernel_rfl) (j := 13) (t := 31) (b := false) rfl (by simp) rfl hl rfl (fun v w h => .inl h) fun _ => rfl
          · exact step_skip [13] (by kernel_rfl) (j := 13) (t := 31) (b := false) rfl (by simp) rfl hl rfl (fun v w h => .inl h) fun _ => rfl
          · exact step_skip [13] (by kernel_rfl) (j := 13) (t := 31) (b := false) rfl (by simp) rfl hl rfl (fun v w h => .inl h) fun _ => rfl
          · exact step_skip [17] (by kernel_rfl) (j := 17) (t := 35) (b := true) rfl (by simp) rfl hl rfl (fun v w h => .inr h) fun _ => rfl
          · exact step_skip [17] (by kernel_rfl) (j := 17) (t := 35) (b := true) rfl (by simp) rfl hl rfl (fun v w h => .inr h) fun _ => rfl
          · exact step_skip [17] (by kernel_rfl) (j := 17) (t := 35) (b := true) rfl (by simp) rfl hl rfl (fun v w h => .inr h) fun _ => rfl
          · exact step_skip [17] (by kernel_rfl) (j := 17) (t := 35) (b := true) rfl (by simp) rfl hl rfl (fun v w h => .inr h) fun _ => rfl
          · exact step_skip [17] (by kernel_rfl) (j := 17) (t := 35) (b := true) rfl (by simp) rfl hl rfl (fun v w h => .inr h) fun _ => rfl
          · exact step_skip [13] (by kernel_rfl) (j := 13) (t := 31) (b := false) rfl (by simp) rfl hl rfl (fun v w h => .inl h) fun _ => rfl
          · refine step_plain [13] (by kernel_rfl) rfl fun us w' hG hV => ?_
            have e13 : us 13 = .bool true := hV 13 (by simp)
            have v13 := (frame_at2 (us := us) hl (show (dbT[31]?).join = some 13 from rfl)).trans e13
            generalize frame dbT a0 us = fr at *
            exact val_ok (v := .bool true) (w' := w') (by go_simp) hG (Below.refl _ _) rfl
          · refine step_plain [24] (by kernel_rfl) rfl fun us w' hG hV => ?_
            have e24 : us 24 = .bool true := hV 24 (by simp)
            have v24 := (frame_at2 (us := us) hl (show (dbT[42]?).join = some 24 from rfl)).trans e24
            generalize frame dbT a0 us = fr at *
            exact val_ok (v := .bool true) (w' := w') (by go_simp) hG (Below.refl _ _) rfl
          · intro us w7 hG hV
            have eL : us 25 = .bool true := hV 25 (by decide)
            subst ha0
            simp only [frame, dbT, fill]
            rw [eL]
            have HG4 := Lib.hid hG
            clear hV hl hG k2 k3 k5 eL
            go_wp2_with fail
            go_ret
            exact ⟨ret_bool HVV.out.symm, HB.out.trans (Below.mono HG4.out HB.out.size)⟩
      · cases mb
        rotate_left
        · have Q1 := Lib.hid h1
          have Q2 := Lib.hid h2
          have Q4 := Lib.hid h4
          have HVV := Lib.hid (show V = false by rw [HV.out]; simp [h1, h2, h4])
          clear HV h1 h2 h4
          go_enter Try.func45, Try.ntmps45
          go_upto_region 1 with fail
          rw [← hW]
          clear hW R0 R1
          refine with_act fun a0 ha0 => ?_
          have hl : cbT.length = a0.tmps.size := by rw [ha0]; rfl
          have k2 : a0.tmps[2]?.getD undef = .pointer (some ⟨w.heap.size, 0, none⟩) := by rw [ha0]; rfl
          have k3 : a0.tmps[3]?.getD undef = .pointer (some ⟨(w.heap.size + 1), 0, none⟩) := by rw [ha0]; rfl
          refine wp_region_vals (by kernel_rfl) cbT (by kernel_rfl) (by kernel_rfl) hl (fun i => undef) (by rw [ha0]; rfl) (Gr W) (cbV w.heap.size (w.heap.size + 1) CA CB oa ob ea eb) (show Gr _ _ from (Below.refl _ _).drew) (cbV.keep _ _ _ _ _ _ _ _) ⟨?_, ?_, ?_, ?_, ?_, ?_, ?_, ?_, ?_, ?_, ?_, ?_, ?_, trivial⟩ ?_
          · refine step_plain [] (by kernel_rfl) rfl fun us w' hG hV => ?_
            have o2 := (frame_old2 (us := us) (a := a0) (show (cbT[2]?).join = none from rfl)).trans k2
            generalize frame cbT a0 us = fr at *
            exact val_ok (v := .pointer (some ⟨w.heap.size, 39, none⟩)) (w' := w') (by go_simp) hG (Below.refl _ _) rfl
          · refine step_plain [0] (by kernel_rfl) rfl fun us w' hG hV => ?_
            have e0 : us 0 = .pointer (some ⟨w.heap.size, 39, none⟩) := hV 0 (by simp)
            have v0 := (frame_at2 (us := us) hl (show (cbT[6]?).join = some 0 from rfl)).trans e0
            have hc := A1.out w' hG
            generalize frame cbT a0 us = fr at *
            exact val_ok (v := .int .i64 oa) (w' := w') (by go_simp) hG (Below.refl _ _) rfl
          · refine step_plain [] (by kernel_rfl) rfl fun us w' hG hV => ?_
            have o3 := (frame_old2 (us := us) (a := a0) (show (cbT[3]?).join = none from rfl)).trans k3
            have hg1 := (RB.out w' hG)
            generalize frame cbT a0 us = fr at *
            exact load_ok 28 3 rfl ((w.heap.size + 1)) o3 _ _ (0, 0) _ hg1 Try.underlying28 rfl IB.out hG rfl
          · refine step_plain [2] (by kernel_rfl) rfl fun us w' hG hV => ?_
            have e2 : us 2 = .agg CB := hV 2 (by simp)
            have v2 := (frame_at2 (us := us) hl (show (cbT[8]?).join = some 2 from rfl)).trans e2
            generalize frame cbT a0 us = fr at *
            exact call_ok (f := 49) (args := #[.agg CB]) (by go_simp) ((EB.out w').mono fun e w'' h => ⟨_, h.1, hG.below h.2, h.2, rfl⟩)
          · refine step_plain [1, 3] (by kernel_rfl) rfl fun us w' hG hV => ?_
            have e1 : us 1 = .int .i64 oa := hV 1 (by simp)
            have v1 := (frame_at2 (us := us) hl (show (cbT[7]?).join = some 1 from rfl)).trans e1
            have e3 : us 3 = .int .i64 eb := hV 3 (by simp)
            have v3 := (frame_at2 (us := us) hl (show (cbT[9]?).join = some 3 from rfl)).trans e3
            have q := Q1.out
            generalize frame cbT a0 us = fr at *
            exact val_ok (v := .bool true) (w' := w') (by go_simp) hG (Below.refl _ _) rfl
          · refine step_plain [4] (by kernel_rfl) rfl fun us w' hG hV => ?_
            have e4 : us 4 = .bool true := hV 4 (by simp)
            have v4 := (frame_at2 (us := us) hl (show (cbT[10]?).join = some 4 from rfl)).trans e4
            generalize frame cbT a0 us = fr at *
            exact val_ok (v := .bool true) (w' := w') (by go_simp) hG (Below.refl _ _) rfl
          · refine step_guard [5] (by kernel_rfl) (j := 5) (t := 11) (b := true) rfl (by simp) rfl hl rfl (fun v w h => h) fun us w' hG hV => ?_
            have o3 := (frame_old2 (us := us) (a := a0) (show (cbT[3]?).join = none from rfl)).trans k3
            generalize frame cbT a0 us = fr at *
            exact val_ok (v := .pointer (some ⟨(w.heap.size + 1), 39, none⟩)) (w' := w') (by go_simp) hG (Below.refl _ _) rfl
          · refine step_guard [5, 6] (by kernel_rfl) (j := 5) (t := 11) (b := true) rfl (by simp) rfl hl rfl (fun v w h => h) fun us w' hG hV => ?_
            have e6 : us 6 = .pointer (some ⟨(w.heap.size + 1), 39, none⟩) := hV 6 (by simp)
            have v6 := (frame_at2 (us := us) hl (show (cbT[12]?).join = some 6 from rfl)).trans e6
            have hc := B1.out w' hG
            generalize frame cbT a0 us = fr at *
            exact val_ok (v := .int .i64 ob) (w' := w') (by go_simp) hG (Below.refl _ _) rfl
          · refine step_guard [5] (by kernel_rfl) (j := 5) (t := 11) (b := true) rfl (by simp) rfl hl rfl (fun v w h => h) fun us w' hG hV => ?_
            have o2 := (frame_old2 (us := us) (a := a0) (show (cbT[2]?).join = none from rfl)).trans k2
            have hg1 := (RA.out w' hG)
            generalize frame cbT a0 us = fr at *
            exact load_ok 28 2 rfl (w.heap.size) o2 _ _ (0, 0) _ hg1 Try.underlying28 rfl IA.out hG rfl
          · refine step_guard [5, 8] (by kernel_rfl) (j := 5) (t := 11) (b := true) rfl (by simp) rfl hl rfl (fun v w h => h) fun us w' hG hV => ?_
            have e8 : us 8 = .agg CA := hV 8 (by simp)
            have v8 := (frame_at2 (us := us) hl (show (cbT[14]?).join = some 8 from rfl)).trans e8
            generalize frame cbT a0 us = fr at *
            exact call_ok (f := 49) (args := #[.agg CA]) (by go_simp) ((EA.out w').mono fun e w'' h => ⟨_, h.1, hG.below h.2, h.2, rfl⟩)
          · refine step_guard [5, 7, 9] (by kernel_rfl) (j := 5) (t := 11) (b := true) rfl (by simp) rfl hl rfl (fun v w h => h) fun us w' hG hV => ?_
            have e7 : us 7 = .int .i64 ob := hV 7 (by simp)
            have v7 := (frame_at2 (us := us) hl (show (cbT[13]?).join = some 7 from rfl)).trans e7
            have e9 : us 9 = .int .i64 ea := hV 9 (by simp)
            have v9 := (frame_at2 (us := us) hl (show (cbT[15]?).join = some 9 from rfl)).trans e9
            have q := Q2.out
            generalize frame cbT a0 us = fr at *
            exact val_ok (v := .bool false) (w' := w') (by go_simp) hG (Below.refl _ _) rfl
          · refine step_plain [5, 10] (by kernel_rfl) rfl fun us w' hG hV => ?_
            have e5 : us 5 = .bool true := hV 5 (by simp)
            have v5 := (frame_at2 (us := us) hl (show (cbT[11]?).join = some 5 from rfl)).trans e5
            have e10 : us 10 = .bool false := hV 10 (by simp)
            have v10 := (frame_at2 (us := us) hl (show (cbT[16]?).join = some 10 from rfl)).trans e10
            generalize frame cbT a0 us = fr at *
            exact val_ok (v := .bool false) (w' := w') (by go_simp) hG (Below.refl _ _) rfl
          · refine step_plain [11] (by kernel_rfl) rfl fun us w' hG hV => ?_
            have e11 : us 11 = .bool false := hV 11 (by simp)
            have v11 := (frame_at2 (us := us) hl (show (cbT[17]?).join = some 11 from rfl)).trans e11
            generalize frame cbT a0 us = fr at *
            exact val_ok (v := .bool false) (w' := w') (by go_simp) hG (Below.refl _ _) rfl
          · intro us w5 hG hV
            have eL : us 12 = .bool false := hV 12 (by decide)
            subst ha0
            simp only [frame, cbT, fill]
            rw [eL]
            have HG3 := Lib.hid hG
            clear hV hl hG k2 k3 eL
            go_upto_region 2 with fail
            refine with_act fun a0 ha0 => ?_
            have hl : dfT.length = a0.tmps.size := by rw [ha0]; rfl
            have k2 : a0.tmps[2]?.getD undef = .pointer (some ⟨w.heap.size, 0, none⟩) := by rw [ha0]; rfl
            have k3 : a0.tmps[3]?.getD undef = .pointer (some ⟨(w.heap.size + 1), 0, none⟩) := by rw [ha0]; rfl
            have k5 : a0.tmps[5]?.getD undef = .bool false := by rw [ha0]; rfl
            refine wp_region_vals (by kernel_rfl) dfT (by kernel_rfl) (by kernel_rfl) hl (fun i => if i = 25 then .bool false else a0.tmps[i + 18]?.getD undef) (by rw [ha0]; rfl) (Gr W) (dfV w.heap.size (w.heap.size + 1) CA CB oa ob ea eb) HG3.out.drew (dfV.keep _ _ _ _ _ _ _ _) ⟨?_, ?_, ?_, ?_, ?_, ?_, ?_, ?_, ?_, ?_, ?_, ?_, ?_, ?_, ?_, ?_, ?_, ?_, ?_, ?_, ?_, ?_, ?_, ?_, ?_, ?_, trivial⟩ ?_
            · refine step_plain [] (by kernel_rfl) rfl fun us w' hG hV => ?_
              have o5 := (frame_old2 (us := us) (a := a0) (show (dfT[5]?).join = none from rfl)).trans k5
              generalize frame dfT a0 us = fr at *
              exact val_ok (v := .bool false) (w' := w') (by go_simp) hG (Below.refl _ _) rfl
            · refine step_plain [0] (by kernel_rfl) rfl fun us w' hG hV => ?_
              have e0 : us 0 = .bool false := hV 0 (by simp)
              have v0 := (frame_at2 (us := us) hl (show (dfT[18]?).join = some 0 from rfl)).trans e0
              generalize frame dfT a0 us = fr at *
              exact val_ok (v := .bool false) (w' := w') (by go_simp) hG (Below.refl _ _) rfl
            · refine step_guard [1] (by kernel_rfl) (j := 1) (t := 19) (b := false) rfl (by simp) rfl hl rfl (fun v w h => h) fun us w' hG hV => ?_
              have o2 := (frame_old2 (us := us) (a := a0) (show (dfT[2]?).join = none from rfl)).trans k2
              generalize frame dfT a0 us = fr at *
              exact val_ok (v := .pointer (some ⟨w.heap.size, 38, none⟩)) (w' := w') (by go_simp) hG (Below.refl _ _) rfl
            · refine step_guard [1, 2] (by kernel_rfl) (j := 1) (t := 19) (b := false) rfl (by simp) rfl hl rfl (fun v w h => h) fun us w' hG hV => ?_
              have e2 : us 2 = .pointer (some ⟨w.heap.size, 38, none⟩) := hV 2 (by simp)
              have v2 := (frame_at2 (us := us) hl (show (dfT[20]?).join = some 2 from rfl)).trans e2
              have hc := A2.out w' hG
              generalize frame dfT a0 us = fr at *
              exact val_ok (v := .bool false) (w' := w') (by go_simp) hG (Below.refl _ _) rfl
            · refine step_guard [1, 3] (by kernel_rfl) (j := 1) (t := 19) (b := false) rfl (by simp) rfl hl rfl (fun v w h => h) fun us w' hG hV => ?_
              have e3 : us 3 = .bool false := hV 3 (by simp)
              have v3 := (frame_at2 (us := us) hl (show (dfT[21]?).join = some 3 from rfl)).trans e3
              generalize frame dfT a0 us = fr at *
              exact val_ok (v := .bool true) (w' := w') (by go_simp) hG (Below.refl _ _) rfl
            · refine step_guard [1, 4] (by kernel_rfl) (j := 1) (t := 19) (b := false) rfl (by simp) rfl hl rfl (fun v w h => h) fun us w' hG hV => ?_
              have e4 : us 4 = .bool true := hV 4 (by simp)
              have v4 := (frame_at2 (us := us) hl (show (dfT[22]?).join = some 4 from rfl)).trans e4
              generalize frame dfT a0 us = fr at *
              exact val_ok (v := .bool true) (w' := w') (by go_simp) hG (Below.refl _ _) rfl
            · refine step_guard [5] (by kernel_rfl) (j := 5) (t := 23) (b := true) rfl (by simp) rfl hl rfl (fun v w h => h) fun us w' hG hV => ?_
              have o3 := (frame_old2 (us := us) (a := a0) (show (dfT[3]?).join = none from rfl)).trans k3
              have hg1 := (RB.out w' hG)
              generalize frame dfT a0 us = fr at *
              exact load_ok 28 3 rfl ((w.heap.size + 1)) o3 _ _ (0, 0) _ hg1 Try.underlying28 rfl IB.out hG rfl
            · refine step_guard [5, 6] (by kernel_rfl) (j := 5) (t := 23) (b := true) rfl (by simp) rfl hl rfl (fun v w h => h) fun us w' hG hV => ?_
              have e6 : us 6 = .agg CB := hV 6 (by simp)
              have v6 := (frame_at2 (us := us) hl (show (dfT[24]?).join = some 6 from rfl)).trans e6
              generalize frame dfT a0 us = fr at *
              exact call_ok (f := 49) (args := #[.agg CB]) (by go_simp) ((EB.out w').mono fun e w'' h => ⟨_, h.1, hG.below h.2, h.2, rfl⟩)
            · refine step_guard [5] (by kernel_rfl) (j := 5) (t := 23) (b := true) rfl (by simp) rfl hl rfl (fun v w h => h) fun us w' hG hV => ?_
              have o2 := (frame_old2 (us := us) (a := a0) (show (dfT[2]?).join = none from rfl)).trans k2
              have hg1 := (RA.out w' hG)
              generalize frame dfT a0 us = fr at *
              exact load_ok 28 2 rfl (w.heap.size) o2 _ _ (0, 0) _ hg1 Try.underlying28 rfl IA.out hG rfl
            · refine step_guard [5, 8] (by kernel_rfl) (j := 5) (t := 23) (b := true) rfl (by simp) rfl hl rfl (fun v w h => h) fun us w' hG hV => ?_
              have e8 : us 8 = .agg CA := hV 8 (by simp)
              have v8 := (frame_at2 (us := us) hl (show (dfT[26]?).join = some 8 from rfl)).trans e8
              generalize frame dfT a0 us = fr at *
              exact call_ok (f := 49) (args := #[.agg CA]) (by go_simp) ((EA.out w').mono fun e w'' h => ⟨_, h.1, hG.below h.2, h.2, rfl⟩)
            · refine step_guard [5, 7, 9] (by kernel_rfl) (j := 5) (t := 23) (b := true) rfl (by simp) rfl hl rfl (fun v w h => h) fun us w' hG hV => ?_
              have e7 : us 7 = .int .i64 eb := hV 7 (by simp)
              have v7 := (frame_at2 (us := us) hl (show (dfT[25]?).join = some 7 from rfl)).trans e7
              have e9 : us 9 = .int .i64 ea := hV 9 (by simp)
              have v9 := (frame_at2 (us := us) hl (show (dfT[27]?).join = some 9 from rfl)).trans e9
              have q := Q4.out
              generalize frame dfT a0 us = fr at *
              exact val_ok (v := .bool false) (w' := w') (by go_simp) hG (Below.refl _ _) rfl
            · refine step_guard [1, 5, 10] (by kernel_rfl) (j := 1) (t := 19) (b := false) rfl (by simp) rfl hl rfl (fun v w h => h) fun us w' hG hV => ?_
              have e5 : us 5 = .bool true := hV 5 (by simp)
              have v5 := (frame_at2 (us := us) hl (show (dfT[23]?).join = some 5 from rfl)).trans e5
              have e10 : us 10 = .bool false := hV 10 (by simp)
              have v10 := (frame_at2 (us := us) hl (show (dfT[28]?).join = some 10 from rfl)).trans e10
              generalize frame dfT a0 us = fr at *
              exact val_ok (v := .bool false) (w' := w') (by go_simp) hG (Below.refl _ _) rfl
            · refine step_plain [1, 11] (by kernel_rfl) rfl fun us w' hG hV => ?_
              have e1 : us 1 = .bool false := hV 1 (by simp)
              have v1 := (frame_at2 (us := us) hl (show (dfT[19]?).join = some 1 from rfl)).trans e1
              have e11 : us 11 = .bool false := hV 11 (by simp)
              have v11 := (frame_at2 (us := us) hl (show (dfT[29]?).join = some 11 from rfl)).trans e11
              generalize frame dfT a0 us = fr at *
              exact val_ok (v := .bool false) (w' := w') (by go_simp) hG (Below.refl _ _) rfl
            · refine step_plain [12] (by kernel_rfl) rfl fun us w' hG hV => ?_
              have e12 : us 12 = .bool false := hV 12 (by simp)
              have v12 := (frame_at2 (us := us) hl (show (dfT[30]?).join = some 12 from rfl)).trans e12
              generalize frame dfT a0 us = fr at *
              exact val_ok (v := .bool false) (w' := w') (by go_simp) hG (Below.refl _ _) rfl
            · refine step_guard [13] (by kernel_rfl) (j := 13) (t := 31) (b := false) rfl (by simp) rfl hl rfl (fun v w h => h) fun us w' hG hV => ?_
              have o3 := (frame_old2 (us := us) (a := a0) (show (dfT[3]?).join = none from rfl)).trans k3
              generalize frame dfT a0 us = fr at *
              exact val_ok (v := .pointer (some ⟨(w.heap.size + 1), 38, none⟩)) (w' := w') (by go_simp) hG (Below.refl _ _) rfl
            · refine step_guard [13, 14] (by kernel_rfl) (j := 13) (t := 31) (b := false) rfl (by simp) rfl hl rfl (fun v w h => h) fun us w' hG hV => ?_
              have e14 : us 14 = .pointer (some ⟨(w.heap.size + 1), 38, none⟩) := hV 14 (by simp)
              have v14 := (frame_at2 (us := us) hl (show (dfT[32]?).join = some 14 from rfl)).trans e14
              have hc := B2.out w' hG
              generalize frame dfT a0 us = fr at *
              exact val_ok (v := .bool true) (w' := w') (by go_simp) hG (Below.refl _ _) rfl
            · refine step_guard [13, 15] (by kernel_rfl) (j := 13) (t := 31) (b := false) rfl (by simp) rfl hl rfl (fun v w h => h) fun us w' hG hV => ?_
              have e15 : us 15 = .bool true := hV 15 (by simp)
              have v15 := (frame_at2 (us := us) hl (show (dfT[33]?).join = some 15 from rfl)).trans e15
              generalize frame dfT a0 us = fr at *
              exact val_ok (v := .bool false) (w' := w') (by go_simp) hG (Below.refl _ _) rfl
            · refine step_guard [13, 16] (by kernel_rfl) (j := 13) (t := 31) (b := false) rfl (by simp) rfl hl rfl (fun v w h => h) fun us w' hG hV => ?_
              have e16 : us 16 = .bool false := hV 16 (by simp)
              have v16 := (frame_at2 (us := us) hl (show (dfT[34]?).join = some 16 from rfl)).trans e16
              generalize frame dfT a0 us = fr at *
              exact val_ok (v := .bool false) (w' := w') (by go_simp) hG (Below.refl _ _) rfl
            · exact step_skip [17] (by kernel_rfl) (j := 17) (t := 35) (b := true) rfl (by simp) rfl hl rfl (fun v w h => .inl h) fun _ => rfl
            · exact step_skip [17] (by kernel_rfl) (j := 17) (t := 35) (b := true) rfl (by simp) rfl hl rfl (fun v w h => .inl h) fun _ => rfl
            · exact step_skip [17] (by kernel_rfl) (j := 17) (t := 35) (b := true) rfl (by simp) rfl hl rfl (fun v w h => .inl h) fun _ => rfl
            · exact step_skip [17] (by kernel_rfl) (j := 17) (t := 35) (b := true) rfl (by simp) rfl hl rfl (fun v w h => .inl h) fun _ => rfl
            · exact step_skip [17] (by kernel_rfl) (j := 17) (t := 35) (b := true) rfl (by simp) rfl hl rfl (fun v w h => .inl h) fun _ => rfl
            · refine step_guard [13, 17] (by kernel_rfl) (j := 13) (t := 31) (b := false) rfl (by simp) rfl hl rfl (fun v w h => h) fun us w' hG hV => ?_
              have e17 : us 17 = .bool false := hV 17 (by simp)
              have v17 := (frame_at2 (us := us) hl (show (dfT[35]?).join = some 17 from rfl)).trans e17
              generalize frame dfT a0 us = fr at *
              exact val_ok (v := .bool false) (w' := w') (by go_simp) hG (Below.refl _ _) rfl
            · refine step_plain [13, 23] (by kernel_rfl) rfl fun us w' hG hV => ?_
              have e13 : us 13 = .bool false := hV 13 (by simp)
              have v13 := (frame_at2 (us := us) hl (show (dfT[31]?).join = some 13 from rfl)).trans e13
              have e23 : us 23 = .bool false := hV 23 (by simp)
              have v23 := (frame_at2 (us := us) hl (show (dfT[41]?).join = some 23 from rfl)).trans e23
              generalize frame dfT a0 us = fr at *
              exact val_ok (v := .bool false) (w' := w') (by go_simp) hG (Below.refl _ _) rfl
            · refine step_plain [24] (by kernel_rfl) rfl fun us w' hG hV => ?_
              have e24 : us 24 = .bool false := hV 24 (by simp)
              have v24 := (frame_at2 (us := us) hl (show (dfT[42]?).join = some 24 from rfl)).trans e24
              generalize frame dfT a0 us = fr at *
              exact val_ok (v := .bool false) (w' := w') (by go_simp) hG (Below.refl _ _) rfl
            · intro us w7 hG hV
              have eL : us 25 = .bool false := hV 25 (by decide)
              subst ha0
              simp only [frame, dfT, fill]
              rw [eL]
              have HG4 := Lib.hid hG
              clear hV hl hG k2 k3 k5 eL
              go_wp2_with fail
              go_ret
              exact ⟨ret_bool HVV.out.symm, HB.out.trans (Below.mono HG4.out HB.out.size)⟩
        · by_cases h5 : eb < ea
          · have Q1 := Lib.hid h1
            have Q2 := Lib.hid h2
            have Q4 := Lib.hid h4
            have Q5 := Lib.hid h5
            have HVV := Lib.hid (show V = true by rw [HV.out]; simp [h1, h2, h4, h5])
            clear HV h1 h2 h4 h5
            go_enter Try.func45, Try.ntmps45
            go_upto_region 1 with fail
            rw [← hW]
            clear hW R0 R1
            refine with_act fun a0 ha0 => ?_
            have hl : cbT.length = a0.tmps.size := by rw [ha0]; rfl
            have k2 : a0.tmps[2]?.getD undef = .pointer (some ⟨w.heap.size, 0, none⟩) := by rw [ha0]; rfl
            have k3 : a0.tmps[3]?.getD undef = .pointer (some ⟨(w.heap.size + 1), 0, none⟩) := by rw [ha0]; rfl
            refine wp_region_vals (by kernel_rfl) cbT (by kernel_rfl) (by kernel_rfl) hl (fun i => undef) (by rw [ha0]; rfl) (Gr W) (cbV w.heap.size (w.heap.size + 1) CA CB oa ob ea eb) (show Gr _ _ from (Below.refl _ _).drew) (cbV.keep _ _ _ _ _ _ _ _) ⟨?_, ?_, ?_, ?_, ?_, ?_, ?_, ?_, ?_, ?_, ?_, ?_, ?_, trivial⟩ ?_
            · refine step_plain [] (by kernel_rfl) rfl fun us w' hG hV => ?_
              have o2 := (frame_old2 (us := us) (a := a0) (show (cbT[2]?).join = none from rfl)).trans k2
              generalize frame cbT a0 us = fr at *
              exact val_ok (v := .pointer (some ⟨w.heap.size, 39, none⟩)) (w' := w') (by go_simp) hG (Below.refl _ _) rfl
            · refine step_plain [0] (by kernel_rfl) rfl fun us w' hG hV => ?_
              have e0 : us 0 = .pointer (some ⟨w.heap.size, 39, none⟩) := hV 0 (by simp)
              have v0 := (frame_at2 (us := us) hl (show (cbT[6]?).join = some 0 from rfl)).trans e0
              have hc := A1.out w' hG
              generalize frame cbT a0 us = fr at *
              exact val_ok (v := .int .i64 oa) (w' := w') (by go_simp) hG (Below.refl _ _) rfl
            · refine step_plain [] (by kernel_rfl) rfl fun us w' hG hV => ?_
              have o3 := (frame_old2 (us := us) (a := a0) (show (cbT[3]?).join = none from rfl)).trans k3
              have hg1 := (RB.out w' hG)
              generalize frame cbT a0 us = fr at *
              exact load_ok 28 3 rfl ((w.heap.size + 1)) o3 _ _ (0, 0) _ hg1 Try.underlying28 rfl IB.out hG rfl
            · refine step_plain [2] (by kernel_rfl) rfl fun us w' hG hV => ?_
              have e2 : us 2 = .agg CB := hV 2 (by simp)
              have v2 := (frame_at2 (us := us) hl (show (cbT[8]?).join = some 2 from rfl)).trans e2
              generalize frame cbT a0 us = fr at *
              exact call_ok (f := 49) (args := #[.agg CB]) (by go_simp) ((EB.out w').mono fun e w'' h => ⟨_, h.1, hG.below h.2, h.2, rfl⟩)
            · refine step_plain [1, 3] (by kernel_rfl) rfl fun us w' hG hV => ?_
              have e1 : us 1 = .int .i64 oa := hV 1 (by simp)
              have v1 := (frame_at2 (us := us) hl (show (cbT[7]?).join = some 1 from rfl)).trans e1
              have e3 : us 3 = .int .i64 eb := hV 3 (by simp)
              have v3 := (frame_at2 (us := us) hl (show (cbT[9]?).join = some 3 from rfl)).trans e3
              have q := Q1.out
              generalize frame cbT a0 us = fr at *
              exact val_ok (v := .bool true) (w' := w') (by go_simp) hG (Below.refl _ _) rfl
            · refine step_plain [4] (by kernel_rfl) rfl fun us w' hG hV => ?_
              have e4 : us 4 = .bool true := hV 4 (by simp)
              have v4 := (frame_at2 (us := us) hl (show (cbT[10]?).join = some 4 from rfl)).trans e4
              generalize frame cbT a0 us = fr at *
              exact val_ok (v := .bool true) (w' := w') (by go_simp) hG (Below.refl _ _) rfl
            · refine step_guard [5] (by kernel_rfl) (j := 5) (t := 11) (b := true) rfl (by simp) rfl hl rfl (fun v w h => h) fun us w' hG hV => ?_
              have o3 := (frame_old2 (us := us) (a := a0) (show (cbT[3]?).join = none from rfl)).trans k3
              generalize frame cbT a0 us = fr at *
              exact val_ok (v := .pointer (some ⟨(w.heap.size + 1), 39, none⟩)) (w' := w') (by go_simp) hG (Below.refl _ _) rfl
            · refine step_guard [5, 6] (by kernel_rfl) (j := 5) (t := 11) (b := true) rfl (by simp) rfl hl rfl (fun v w h => h) fun us w' hG hV => ?_
              have e6 : us 6 = .pointer (some ⟨(w.heap.size + 1), 39, none⟩) := hV 6 (by simp)
              have v6 := (frame_at2 (us := us) hl (show (cbT[12]?).join = some 6 from rfl)).trans e6
              have hc := B1.out w' hG
              generalize frame cbT a0 us = fr at *
              exact val_ok (v := .int .i64 ob) (w' := w') (by go_simp) hG (Below.refl _ _) rfl
            · refine step_guard [5] (by kernel_rfl) (j := 5) (t := 11) (b := true) rfl (by simp) rfl hl rfl (fun v w h => h) fun us w' hG hV => ?_
              have o2 := (frame_old2 (us := us) (a := a0) (show (cbT[2]?).join = none from rfl)).trans k2
              have hg1 := (RA.out w' hG)
              generalize frame cbT a0 us = fr at *
              exact load_ok 28 2 rfl (w.heap.size) o2 _ _ (0, 0) _ hg1 Try.underlying28 rfl IA.out hG rfl
            · refine step_guard [5, 8] (by kernel_rfl) (j := 5) (t := 11) (b := true) rfl (by simp) rfl hl rfl (fun v w h => h) fun us w' hG hV => ?_
              have e8 : us 8 = .agg CA := hV 8 (by simp)
              have v8 := (frame_at2 (us := us) hl (show (cbT[14]?).join = some 8 from rfl)).trans e8
              generalize frame cbT a0 us = fr at *
              exact call_ok (f := 49) (args := #[.agg CA]) (by go_simp) ((EA.out w').mono fun e w'' h => ⟨_, h.1, hG.below h.2, h.2, rfl⟩)
            · refine step_guard [5, 7, 9] (by kernel_rfl) (j := 5) (t := 11) (b := true) rfl (by simp) rfl hl rfl (fun v w h => h) fun us w' hG hV => ?_
              have e7 : us 7 = .int .i64 ob := hV 7 (by simp)
              have v7 := (frame_at2 (us := us) hl (show (cbT[13]?).join = some 7 from rfl)).trans e7
              have e9 : us 9 = .int .i64 ea := hV 9 (by simp)
              have v9 := (frame_at2 (us := us) hl (show (cbT[15]?).join = some 9 from rfl)).trans e9
              have q := Q2.out
              generalize frame cbT a0 us = fr at *
              exact val_ok (v := .bool false) (w' := w') (by go_simp) hG (Below.refl _ _) rfl
            · refine step_plain [5, 10] (by kernel_rfl) rfl fun us w' hG hV => ?_
              have e5 : us 5 = .bool true := hV 5 (by simp)
              have v5 := (frame_at2 (us := us) hl (show (cbT[11]?).join = some 5 from rfl)).trans e5
              have e10 : us 10 = .bool false := hV 10 (by simp)
              have v10 := (frame_at2 (us := us) hl (show (cbT[16]?).join = some 10 from rfl)).trans e10
              generalize frame cbT a0 us = fr at *
              exact val_ok (v := .bool false) (w' := w') (by go_simp) hG (Below.refl _ _) rfl
            · refine step_plain [11] (by kernel_rfl) rfl fun us w' hG hV => ?_
              have e11 : us 11 = .bool false := hV 11 (by simp)
              have v11 := (frame_at2 (us := us) hl (show (cbT[17]?).join = some 11 from rfl)).trans e11
              generalize frame cbT a0 us = fr at *
              exact val_ok (v := .bool false) (w' := w') (by go_simp) hG (Below.refl _ _) rfl
            · intro us w5 hG hV
              have eL : us 12 = .bool false := hV 12 (by decide)
              subst ha0
              simp only [frame, cbT, fill]
              rw [eL]
              have HG3 := Lib.hid hG
              clear hV hl hG k2 k3 eL
              go_upto_region 2 with fail
              refine with_act fun a0 ha0 => ?_
              have hl : dhT.length = a0.tmps.size := by rw [ha0]; rfl
              have k2 : a0.tmps[2]?.getD undef = .pointer (some ⟨w.heap.size, 0, none⟩) := by rw [ha0]; rfl
              have k3 : a0.tmps[3]?.getD undef = .pointer (some ⟨(w.heap.size + 1), 0, none⟩) := by rw [ha0]; rfl
              have k5 : a0.tmps[5]?.getD undef = .bool false := by rw [ha0]; rfl
              refine wp_region_vals (by kernel_rfl) dhT (by kernel_rfl) (by kernel_rfl) hl (fun i => if i = 25 then .bool false else a0.tmps[i + 18]?.getD undef) (by rw [ha0]; rfl) (Gr W) (dhV w.heap.size (w.heap.size + 1) CA CB oa ob ea eb) HG3.out.drew (dhV.keep _ _ _ _ _ _ _ _) ⟨?_, ?_, ?_, ?_, ?_, ?_, ?_, ?_, ?_, ?_, ?_, ?_, ?_, ?_, ?_, ?_, ?_, ?_, ?_, ?_, ?_, ?_, ?_, ?_, ?_, ?_, trivial⟩ ?_
              · refine step_plain [] (by kernel_rfl) rfl fun us w' hG hV => ?_
                have o5 := (frame_old2 (us := us) (a := a0) (show (dhT[5]?).join = none from rfl)).trans k5
                generalize frame dhT a0 us = fr at *
                exact val_ok (v := .bool false) (w' := w') (by go_simp) hG (Below.refl _ _) rfl
              · refine step_plain [0] (by kernel_rfl) rfl fun us w' hG hV => ?_
                have e0 : us 0 = .bool false := hV 0 (by simp)
                have v0 := (frame_at2 (us := us) hl (show (dhT[18]?).join = some 0 from rfl)).trans e0
                generalize frame dhT a0 us = fr at *
                exact val_ok (v := .bool false) (w' := w') (by go_simp) hG (Below.refl _ _) rfl
              · refine step_guard [1] (by kernel_rfl) (j := 1) (t := 19) (b := false) rfl (by simp) rfl hl rfl (fun v w h => h) fun us w' hG hV => ?_
                have o2 := (frame_old2 (us := us) (a := a0) (show (dhT[2]?).join = none from rfl)).trans k2
                generalize frame dhT a0 us = fr at *
                exact val_ok (v := .pointer (some ⟨w.heap.size, 38, none⟩)) (w' := w') (by go_simp) hG (Below.refl _ _) rfl
              · refine step_guard [1, 2] (by kernel_rfl) (j := 1) (t := 19) (b := false) rfl (by simp) rfl hl rfl (fun v w h => h) fun us w' hG hV => ?_
                have e2 : us 2 = .pointer (some ⟨w.heap.size, 38, none⟩) := hV 2 (by simp)
                have v2 := (frame_at2 (us := us) hl (show (dhT[20]?).join = some 2 from rfl)).trans e2
                have hc := A2.out w' hG
                generalize frame dhT a0 us = fr at *
                exact val_ok (v := .bool false) (w' := w') (by go_simp) hG (Below.refl _ _) rfl
              · refine step_guard [1, 3] (by kernel_rfl) (j := 1) (t := 19) (b := false) rfl (by simp) rfl hl rfl (fun v w h => h) fun us w' hG hV => ?_
                have e3 : us 3 = .bool false := hV 3 (by simp)
                have v3 := (frame_at2 (us := us) hl (show (dhT[21]?).join = some 3 from rfl)).trans e3
                generalize frame dhT a0 us = fr at *
                exact val_ok (v := .bool true) (w' := w') (by go_simp) hG (Below.refl _ _) rfl
              · refine step_guard [1, 4] (by kernel_rfl) (j := 1) (t := 19) (b := false) rfl (by simp) rfl hl rfl (fun v w h => h) fun us w' hG hV => ?_
                have e4 : us 4 = .bool true := hV 4 (by simp)
                have v4 := (frame_at2 (us := us) hl (show (dhT[22]?).join = some 4 from rfl)).trans e4
                generalize frame dhT a0 us = fr at *
                exact val_ok (v := .bool true) (w' := w') (by go_simp) hG (Below.refl _ _) rfl
              · refine step_guard [5] (by kernel_rfl) (j := 5) (t := 23) (b := true) rfl (by simp) rfl hl rfl (fun v w h => h) fun us w' hG hV => ?_
                have o3 := (frame_old2 (us := us) (a := a0) (show (dhT[3]?).join = none from rfl)).trans k3
                have hg1 := (RB.out w' hG)
                generalize frame dhT a0 us = fr at *
                exact load_ok 28 3 rfl ((w.heap.size + 1)) o3 _ _ (0, 0) _ hg1 Try.underlying28 rfl IB.out hG rfl
              · refine step_guard [5, 6] (by kernel_rfl) (j := 5) (t := 23) (b := true) rfl (by simp) rfl hl rfl (fun v w h => h) fun us w' hG hV => ?_
                have e6 : us 6 = .agg CB := hV 6 (by simp)
                have v6 := (frame_at2 (us := us) hl (show (dhT[24]?).join = some 6 from rfl)).trans e6
                generalize frame dhT a0 us = fr at *
                exact call_ok (f := 49) (args := #[.agg CB]) (by go_simp) ((EB.out w').mono fun e w'' h => ⟨_, h.1, hG.below h.2, h.2, rfl⟩)
              · refine step_guard [5] (by kernel_rfl) (j := 5) (t := 23) (b := true) rfl (by simp) rfl hl rfl (fun v w h => h) fun us w' hG hV => ?_
                have o2 := (frame_old2 (us := us) (a := a0) (show (dhT[2]?).join = none from rfl)).trans k2
                have hg1 := (RA.out w' hG)
                generalize frame dhT a0 us = fr at *
                exact load_ok 28 2 rfl (w.heap.size) o2 _ _ (0, 0) _ hg1 Try.underlying28 rfl IA.out hG rfl
              · refine step_guard [5, 8] (by kernel_rfl) (j := 5) (t := 23) (b := true) rfl (by simp) rfl hl rfl (fun v w h => h) fun us w' hG hV => ?_
                have e8 : us 8 = .agg CA := hV 8 (by simp)
                have v8 := (frame_at2 (us := us) hl (show (dhT[26]?).join = some 8 from rfl)).trans e8
                generalize frame dhT a0 us = fr at *
                exact call_ok (f := 49) (args := #[.agg CA]) (by go_simp) ((EA.out w').mono fun e w'' h => ⟨_, h.1, hG.below h.2, h.2, rfl⟩)
              · refine step_guard [5, 7, 9] (by kernel_rfl) (j := 5) (t := 23) (b := true) rfl (by simp) rfl hl rfl (fun v w h => h) fun us w' hG hV => ?_
                have e7 : us 7 = .int .i64 eb := hV 7 (by simp)
                have v7 := (frame_at2 (us := us) hl (show (dhT[25]?).join = some 7 from rfl)).trans e7
                have e9 : us 9 = .int .i64 ea := hV 9 (by simp)
                have v9 := (frame_at2 (us := us) hl (show (dhT[27]?).join = some 9 from rfl)).trans e9
                have q := Q4.out
                generalize frame dhT a0 us = fr at *
                exact val_ok (v := .bool false) (w' := w') (by go_simp) hG (Below.refl _ _) rfl
              · refine step_guard [1, 5, 10] (by kernel_rfl) (j := 1) (t := 19) (b := false) rfl (by simp) rfl hl rfl (fun v w h => h) fun us w' hG hV => ?_
                have e5 : us 5 = .bool true := hV 5 (by simp)
                have v5 := (frame_at2 (us := us) hl (show (dhT[23]?).join = some 5 from rfl)).trans e5
                have e10 : us 10 = .bool false := hV 10 (by simp)
                have v10 := (frame_at2 (us := us) hl (show (dhT[28]?).join = some 10 from rfl)).trans e10
                generalize frame dhT a0 us = fr at *
                exact val_ok (v := .bool false) (w' := w') (by go_simp) hG (Below.refl _ _) rfl
              · refine step_plain [1, 11] (by kernel_rfl) rfl fun us w' hG hV => ?_
                have e1 : us 1 = .bool false := hV 1 (by simp)
                have v1 := (frame_at2 (us := us) hl (show (dhT[19]?).join = some 1 from rfl)).trans e1
                have e11 : us 11 = .bool false := hV 11 (by simp)
                have v11 := (frame_at2 (us := us) hl (show (dhT[29]?).join = some 11 from rfl)).trans e11
                generalize frame dhT a0 us = fr at *
                exact val_ok (v := .bool false) (w' := w') (by go_simp) hG (Below.refl _ _) rfl
              · refine step_plain [12] (by kernel_rfl) rfl fun us w' hG hV => ?_
                have e12 : us 12 = .bool false := hV 12 (by simp)
                have v12 := (frame_at2 (us := us) hl (show (dhT[30]?).join = some 12 from rfl)).trans e12
                generalize frame dhT a0 us = fr at *
                exact val_ok (v := .bool false) (w' := w') (by go_simp) hG (Below.refl _ _) rfl
              · refine step_guard [13] (by kernel_rfl) (j := 13) (t := 31) (b := false) rfl (by simp) rfl hl rfl (fun v w h => h) fun us w' hG hV => ?_
                have o3 := (frame_old2 (us := us) (a := a0) (show (dhT[3]?).join = none from rfl)).trans k3
                generalize frame dhT a0 us = fr at *
                exact val_ok (v := .pointer (some ⟨(w.heap.size + 1), 38, none⟩)) (w' := w') (by go_simp) hG (Below.refl _ _) rfl
              · refine step_guard [13, 14] (by kernel_rfl) (j := 13) (t := 31) (b := false) rfl (by simp) rfl hl rfl (fun v w h => h) fun us w' hG hV => ?_
                have e14 : us 14 = .pointer (some ⟨(w.heap.size + 1), 38, none⟩) := hV 14 (by simp)
                have v14 := (frame_at2 (us := us) hl (show (dhT[32]?).join = some 14 from rfl)).trans e14
                have hc := B2.out w' hG
                generalize frame dhT a0 us = fr at *
                exact val_ok (v := .bool false) (w' := w') (by go_simp) hG (Below.refl _ _) rfl
              · refine step_guard [13, 15] (by kernel_rfl) (j := 13) (t := 31) (b := false) rfl (by simp) rfl hl rfl (fun v w h => h) fun us w' hG hV => ?_
                have e15 : us 15 = .bool false := hV 15 (by simp)
                have v15 := (frame_at2 (us := us) hl (show (dhT[33]?).join = some 15 from rfl)).trans e15
                generalize frame dhT a0 us = fr at *
                exact val_ok (v := .bool true) (w' := w') (by go_simp) hG (Below.refl _ _) rfl
              · refine step_guard [13, 16] (by kernel_rfl) (j := 13) (t := 31) (b := false) rfl (by simp) rfl hl rfl (fun v w h => h) fun us w' hG hV => ?_
                have e16 : us 16 = .bool true := hV 16 (by simp)
                have v16 := (frame_at2 (us := us) hl (show (dhT[34]?).join = some 16 from rfl)).trans e16
                generalize frame dhT a0 us = fr at *
                exact val_ok (v := .bool true) (w' := w') (by go_simp) hG (Below.refl _ _) rfl
              · refine step_guard [17] (by kernel_rfl) (j := 17) (t := 35) (b := true) rfl (by simp) rfl hl rfl (fun v w h => h) fun us w' hG hV => ?_
                have o2 := (frame_old2 (us := us) (a := a0) (show (dhT[2]?).join = none from rfl)).trans k2
                have hg1 := (RA.out w' hG)
                generalize frame dhT a0 us = fr at *
                exact load_ok 28 2 rfl (w.heap.size) o2 _ _ (0, 0) _ hg1 Try.underlying28 rfl IA.out hG rfl
              · refine step_guard [17, 18] (by kernel_rfl) (j := 17) (t := 35) (b := true) rfl (by simp) rfl hl rfl (fun v w h => h) fun us w' hG hV => ?_
                have e18 : us 18 = .agg CA := hV 18 (by simp)
                have v18 := (frame_at2 (us := us) hl (show (dhT[36]?).join = some 18 from rfl)).trans e18
                generalize frame dhT a0 us = fr at *
                exact call_ok (f := 49) (args := #[.agg CA]) (by go_simp) ((EA.out w').mono fun e w'' h => ⟨_, h.1, hG.below h.2, h.2, rfl⟩)
              · refine step_guard [17] (by kernel_rfl) (j := 17) (t := 35) (b := true) rfl (by simp) rfl hl rfl (fun v w h => h) fun us w' hG hV => ?_
                have o3 := (frame_old2 (us := us) (a := a0) (show (dhT[3]?).join = none from rfl)).trans k3
                have hg1 := (RB.out w' hG)
                generalize frame dhT a0 us = fr at *
                exact load_ok 28 3 rfl ((w.heap.size + 1)) o3 _ _ (0, 0) _ hg1 Try.underlying28 rfl IB.out hG rfl
              · refine step_guard [17, 20] (by kernel_rfl) (j := 17) (t := 35) (b := true) rfl (by simp) rfl hl rfl (fun v w h => h) fun us w' hG hV => ?_
                have e20 : us 20 = .agg CB := hV 20 (by simp)
                have v20 := (frame_at2 (us := us) hl (show (dhT[38]?).join = some 20 from rfl)).trans e20
                generalize frame dhT a0 us = fr at *
                exact call_ok (f := 49) (args := #[.agg CB]) (by go_simp) ((EB.out w').mono fun e w'' h => ⟨_, h.1, hG.below h.2, h.2, rfl⟩)
              · refine step_guard [17, 19, 21] (by kernel_rfl) (j := 17) (t := 35) (b := true) rfl (by simp) rfl hl rfl (fun v w h => h) fun us w' hG hV => ?_
                have e19 : us 19 = .int .i64 ea := hV 19 (by simp)
                have v19 := (frame_at2 (us := us) hl (show (dhT[37]?).join = some 19 from rfl)).trans e19
                have e21 : us 21 = .int .i64 eb := hV 21 (by simp)
                have v21 := (frame_at2 (us := us) hl (show (dhT[39]?).join = some 21 from rfl)).trans e21
                have q := Q5.out
                generalize frame dhT a0 us = fr at *
                exact val_ok (v := .bool true) (w' := w') (by go_simp) hG (Below.refl _ _) rfl
              · refine step_guard [13, 17, 22] (by kernel_rfl) (j := 13) (t := 31) (b := false) rfl (by simp) rfl hl rfl (fun v w h => h) fun us w' hG hV => ?_
                have e17 : us 17 = .bool true := hV 17 (by simp)
                have v17 := (frame_at2 (us := us) hl (show (dhT[35]?).join = some 17 from rfl)).trans e17
                have e22 : us 22 = .bool true := hV 22 (by simp)
                have v22 := (frame_at2 (us := us) hl (show (dhT[40]?).join = some 22 from rfl)).trans e22
                generalize frame dhT a0 us = fr at *
                exact val_ok (v := .bool true) (w' := w') (by go_simp) hG (Below.refl _ _) rfl
              · refine step_plain [13, 23] (by kernel_rfl) rfl fun us w' hG hV => ?_
                have e13 : us 13 = .bool false := hV 13 (by simp)
                have v13 := (frame_at2 (us := us) hl (show (dhT[31]?).join = some 13 from rfl)).trans e13
                have e23 : us 23 = .bool true := hV 23 (by simp)
                have v23 := (frame_at2 (us := us) hl (show (dhT[41]?).join = some 23 from rfl)).trans e23
                generalize frame dhT a0 us = fr at *
                exact val_ok (v := .bool true) (w' := w') (by go_simp) hG (Below.refl _ _) rfl
              · refine step_plain [24] (by kernel_rfl) rfl fun us w' hG hV => ?_
                have e24 : us 24 = .bool true := hV 24 (by simp)
                have v24 := (frame_at2 (us := us) hl (show (dhT[42]?).join = some 24 from rfl)).trans e24
                generalize frame dhT a0 us = fr at *
                exact val_ok (v := .bool true) (w' := w') (by go_simp) hG (Below.refl _ _) rfl
              · intro us w7 hG hV
                have eL : us 25 = .bool true := hV 25 (by decide)
                subst ha0
                simp only [frame, dhT, fill]
                rw [eL]
                have HG4 := Lib.hid hG
                clear hV hl hG k2 k3 k5 eL
                go_wp2_with fail
                go_ret
                exact ⟨ret_bool HVV.out.symm, HB.out.trans (Below.mono HG4.out HB.out.size)⟩
          · have Q1 := Lib.hid h1
            have Q2 := Lib.hid h2
            have Q4 := Lib.hid h4
            have Q5 := Lib.hid h5
            have HVV := Lib.hid (show V = false by rw [HV.out]; simp [h1, h2, h4, h5])
            clear HV h1 h2 h4 h5
            go_enter Try.func45, Try.ntmps45
            go_upto_region 1 with fail
            rw [← hW]
            clear hW R0 R1
            refine with_act fun a0 ha0 => ?_
            have hl : cbT.length = a0.tmps.size := by rw [ha0]; rfl
            have k2 : a0.tmps[2]?.getD undef = .pointer (some ⟨w.heap.size, 0, none⟩) := by rw [ha0]; rfl
            have k3 : a0.tmps[3]?.getD undef = .pointer (some ⟨(w.heap.size + 1), 0, none⟩) := by rw [ha0]; rfl
            refine wp_region_vals (by kernel_rfl) cbT (by kernel_rfl) (by kernel_rfl) hl (fun i => undef) (by rw [ha0]; rfl) (Gr W) (cbV w.heap.size (w.heap.size + 1) CA CB oa ob ea eb) (show Gr _ _ from (Below.refl _ _).drew) (cbV.keep _ _ _ _ _ _ _ _) ⟨?_, ?_, ?_, ?_, ?_, ?_, ?_, ?_, ?_, ?_, ?_, ?_, ?_, trivial⟩ ?_
            · refine step_plain [] (by kernel_rfl) rfl fun us w' hG hV => ?_
              have o2 := (frame_old2 (us := us) (a := a0) (show (cbT[2]?).join = none from rfl)).trans k2
              generalize frame cbT a0 us = fr at *
              exact val_ok (v := .pointer (some ⟨w.heap.size, 39, none⟩)) (w' := w') (by go_simp) hG (Below.refl _ _) rfl
            · refine step_plain [0] (by kernel_rfl) rfl fun us w' hG hV => ?_
              have e0 : us 0 = .pointer (some ⟨w.heap.size, 39, none⟩) := hV 0 (by simp)
              have v0 := (frame_at2 (us := us) hl (show (cbT[6]?).join = some 0 from rfl)).trans e0
              have hc := A1.out w' hG
              generalize frame cbT a0 us = fr at *
              exact val_ok (v := .int .i64 oa) (w' := w') (by go_simp) hG (Below.refl _ _) rfl
            · refine step_plain [] (by kernel_rfl) rfl fun us w' hG hV => ?_
              have o3 := (frame_old2 (us := us) (a := a0) (show (cbT[3]?).join = none from rfl)).trans k3
              have hg1 := (RB.out w' hG)
              generalize frame cbT a0 us = fr at *
              exact load_ok 28 3 rfl ((w.heap.size + 1)) o3 _ _ (0, 0) _ hg1 Try.underlying28 rfl IB.out hG rfl
            · refine step_plain [2] (by kernel_rfl) rfl fun us w' hG hV => ?_
              have e2 : us 2 = .agg CB := hV 2 (by simp)
              have v2 := (frame_at2 (us := us) hl (show (cbT[8]?).join = some 2 from rfl)).trans e2
              generalize frame cbT a0 us = fr at *
              exact call_ok (f := 49) (args := #[.agg CB]) (by go_simp) ((EB.out w').mono fun e w'' h => ⟨_, h.1, hG.below h.2, h.2, rfl⟩)
            · refine step_plain [1, 3] (by kernel_rfl) rfl fun us w' hG hV => ?_
              have e1 : us 1 = .int .i64 oa := hV 1 (by simp)
              have v1 := (frame_at2 (us := us) hl (show (cbT[7]?).join = some 1 from rfl)).trans e1
              have e3 : us 3 = .int .i64 eb := hV 3 (by simp)
              have v3 := (frame_at2 (us := us) hl (show (cbT[9]?).join = some 3 from rfl)).trans e3
              have q := Q1.out
              generalize frame cbT a0 us = fr at *
              exact val_ok (v := .bool true) (w' := w') (by go_simp) hG (Below.refl _ _) rfl
            · refine step_plain [4] (by kernel_rfl) rfl fun us w' hG hV => ?_
              have e4 : us 4 = .bool true := hV 4 (by simp)
              have v4 := (frame_at2 (us := us) hl (show (cbT[10]?).join = some 4 from rfl)).trans e4
              generalize frame cbT a0 us = fr at *
              exact val_ok (v := .bool true) (w' := w') (by go_simp) hG (Below.refl _ _) rfl
            · refine step_guard [5] (by kernel_rfl) (j := 5) (t := 11) (b := true) rfl (by simp) rfl hl rfl (fun v w h => h) fun us w' hG hV => ?_
              have o3 := (frame_old2 (us := us) (a := a0) (show (cbT[3]?).join = none from rfl)).trans k3
              generalize frame cbT a0 us = fr at *
              exact val_ok (v := .pointer (some ⟨(w.heap.size + 1), 39, none⟩)) (w' := w') (by go_simp) hG (Below.refl _ _) rfl
            · refine step_guard [5, 6] (by kernel_rfl) (j := 5) (t := 11) (b := true) rfl (by simp) rfl hl rfl (fun v w h => h) fun us w' hG hV => ?_
              have e6 : us 6 = .pointer (some ⟨(w.heap.size + 1), 39, none⟩) := hV 6 (by simp)
              have v6 := (frame_at2 (us := us) hl (show (cbT[12]?).join = some 6 from rfl)).trans e6
              have hc := B1.out w' hG
              generalize frame cbT a0 us = fr at *
              exact val_ok (v := .int .i64 ob) (w' := w') (by go_simp) hG (Below.refl _ _) rfl
            · refine step_guard [5] (by kernel_rfl) (j := 5) (t := 11) (b := true) rfl (by simp) rfl hl rfl (fun v w h => h) fun us w' hG hV => ?_
              have o2 := (frame_old2 (us := us) (a := a0) (show (cbT[2]?).join = none from rfl)).trans k2
              have hg1 := (RA.out w' hG)
              generalize frame cbT a0 us = fr at *
              exact load_ok 28 2 rfl (w.heap.size) o2 _ _ (0, 0) _ hg1 Try.underlying28 rfl IA.out hG rfl
            · refine step_guard [5, 8] (by kernel_rfl) (j := 5) (t := 11) (b := true) rfl (by simp) rfl hl rfl (fun v w h => h) fun us w' hG hV => ?_
              have e8 : us 8 = .agg CA := hV 8 (by simp)
              have v8 := (frame_at2 (us := us) hl (show (cbT[14]?).join = some 8 from rfl)).trans e8
              generalize frame cbT a0 us = fr at *
              exact call_ok (f := 49) (args := #[.agg CA]) (by go_simp) ((EA.out w').mono fun e w'' h => ⟨_, h.1, hG.below h.2, h.2, rfl⟩)
            · refine step_guard [5, 7, 9] (by kernel_rfl) (j := 5) (t := 11) (b := true) rfl (by simp) rfl hl rfl (fun v w h => h) fun us w' hG hV => ?_
              have e7 : us 7 = .int .i64 ob := hV 7 (by simp)
              have v7 := (frame_at2 (us := us) hl (show (cbT[13]?).join = some 7 from rfl)).trans e7
              have e9 : us 9 = .int .i64 ea := hV 9 (by simp)
              have v9 := (frame_at2 (us := us) hl (show (cbT[15]?).join = some 9 from rfl)).trans e9
              have q := Q2.out
              generalize frame cbT a0 us = fr at *
              exact val_ok (v := .bool false) (w' := w') (by go_simp) hG (Below.refl _ _) rfl
            · refine step_plain [5, 10] (by kernel_rfl) rfl fun us w' hG hV => ?_
              have e5 : us 5 = .bool true := hV 5 (by simp)
              have v5 := (frame_at2 (us := us) hl (show (cbT[11]?).join = some 5 from rfl)).trans e5
              have e10 : us 10 = .bool false := hV 10 (by simp)
              have v10 := (frame_at2 (us := us) hl (show (cbT[16]?).join = some 10 from rfl)).trans e10
              generalize frame cbT a0 us = fr at *
              exact val_ok (v := .bool false) (w' := w') (by go_simp) hG (Below.refl _ _) rfl
            · refine step_plain [11] (by kernel_rfl) rfl fun us w' hG hV => ?_
              have e11 : us 11 = .bool false := hV 11 (by simp)
              have v11 := (frame_at2 (us := us) hl (show (cbT[17]?).join = some 11 from rfl)).trans e11
              generalize frame cbT a0 us = fr at *
              exact val_ok (v := .bool false) (w' := w') (by go_simp) hG (Below.refl _ _) rfl
            · intro us w5 hG hV
              have eL : us 12 = .bool false := hV 12 (by decide)
              subst ha0
              simp only [frame, cbT, fill]
              rw [eL]
              have HG3 := Lib.hid hG
              clear hV hl hG k2 k3 eL
              go_upto_region 2 with fail
              refine with_act fun a0 ha0 => ?_
              have hl : dgT.length = a0.tmps.size := by rw [ha0]; rfl
              have k2 : a0.tmps[2]?.getD undef = .pointer (some ⟨w.heap.size, 0, none⟩) := by rw [ha0]; rfl
              have k3 : a0.tmps[3]?.getD undef = .pointer (some ⟨(w.heap.size + 1), 0, none⟩) := by rw [ha0]; rfl
              have k5 : a0.tmps[5]?.getD undef = .bool false := by rw [ha0]; rfl
              refine wp_region_vals (by kernel_rfl) dgT (by kernel_rfl) (by kernel_rfl) hl (fun i => if i = 25 then .bool false else a0.tmps[i + 18]?.getD undef) (by rw [ha0]; rfl) (Gr W) (dgV w.heap.size (w.heap.size + 1) CA CB oa ob ea eb) HG3.out.drew (dgV.keep _ _ _ _ _ _ _ _) ⟨?_, ?_, ?_, ?_, ?_, ?_, ?_, ?_, ?_, ?_, ?_, ?_, ?_, ?_, ?_, ?_, ?_, ?_, ?_, ?_, ?_, ?_, ?_, ?_, ?_, ?_, trivial⟩ ?_
              · refine step_plain [] (by kernel_rfl) rfl fun us w' hG hV => ?_
                have o5 := (frame_old2 (us := us) (a := a0) (show (dgT[5]?).join = none from rfl)).trans k5
                generalize frame dgT a0 us = fr at *
                exact val_ok (v := .bool false) (w' := w') (by go_simp) hG (Below.refl _ _) rfl
              · refine step_plain [0] (by kernel_rfl) rfl fun us w' hG hV => ?_
                have e0 : us 0 = .bool false := hV 0 (by simp)
                have v0 := (frame_at2 (us := us) hl (show (dgT[18]?).join = some 0 from rfl)).trans e0
                generalize frame dgT a0 us = fr at *
                exact val_ok (v := .bool false) (w' := w') (by go_simp) hG (Below.refl _ _) rfl
              · refine step_guard [1] (by kernel_rfl) (j := 1) (t := 19) (b := false) rfl (by simp) rfl hl rfl (fun v w h => h) fun us w' hG hV => ?_
                have o2 := (frame_old2 (us := us) (a := a0) (show (dgT[2]?).join = none from rfl)).trans k2
                generalize frame dgT a0 us = fr at *
                exact val_ok (v := .pointer (some ⟨w.heap.size, 38, none⟩)) (w' := w') (by go_simp) hG (Below.refl _ _) rfl
              · refine step_guard [1, 2] (by kernel_rfl) (j := 1) (t := 19) (b := false) rfl (by simp) rfl hl rfl (fun v w h => h) fun us w' hG hV => ?_
                have e2 : us 2 = .pointer (some ⟨w.heap.size, 38, none⟩) := hV 2 (by simp)
                have v2 := (frame_at2 (us := us) hl (show (dgT[20]?).join = some 2 from rfl)).trans e2
                have hc := A2.out w' hG
                generalize frame dgT a0 us = fr at *
                exact val_ok (v := .bool false) (w' := w') (by go_simp) hG (Below.refl _ _) rfl
              · refine step_guard [1, 3] (by kernel_rfl) (j := 1) (t := 19) (b := false) rfl (by simp) rfl hl rfl (fun v w h => h) fun us w' hG hV => ?_
                have e3 : us 3 = .bool false := hV 3 (by simp)
                have v3 := (frame_at2 (us := us) hl (show (dgT[21]?).join = some 3 from rfl)).trans e3
                generalize frame dgT a0 us = fr at *
                exact val_ok (v := .bool true) (w' := w') (by go_simp) hG (Below.refl _ _) rfl
              · refine step_guard [1, 4] (by kernel_rfl) (j := 1) (t := 19) (b := false) rfl (by simp) rfl hl rfl (fun v w h => h) fun us w' hG hV => ?_
                have e4 : us 4 = .bool true := hV 4 (by simp)
                have v4 := (frame_at2 (us := us) hl (show (dgT[22]?).join = some 4 from rfl)).trans e4
                generalize frame dgT a0 us = fr at *
                exact val_ok (v := .bool true) (w' := w') (by go_simp) hG (Below.refl _ _) rfl
              · refine step_guard [5] (by kernel_rfl) (j := 5) (t := 23) (b := true) rfl (by simp) rfl hl rfl (fun v w h => h) fun us w' hG hV => ?_
                have o3 := (frame_old2 (us := us) (a := a0) (show (dgT[3]?).join = none from rfl)).trans k3
                have hg1 := (RB.out w' hG)
                generalize frame dgT a0 us = fr at *
                exact load_ok 28 3 rfl ((w.heap.size + 1)) o3 _ _ (0, 0) _ hg1 Try.underlying28 rfl IB.out hG rfl
              · refine step_guard [5, 6] (by kernel_rfl) (j := 5) (t := 23) (b := true) rfl (by simp) rfl hl rfl (fun v w h => h) fun us w' hG hV => ?_
                have e6 : us 6 = .agg CB := hV 6 (by simp)
                have v6 := (frame_at2 (us := us) hl (show (dgT[24]?).join = some 6 from rfl)).trans e6
                generalize frame dgT a0 us = fr at *
                exact call_ok (f := 49) (args := #[.agg CB]) (by go_simp) ((EB.out w').mono fun e w'' h => ⟨_, h.1, hG.below h.2, h.2, rfl⟩)
              · refine step_guard [5] (by kernel_rfl) (j := 5) (t := 23) (b := true) rfl (by simp) rfl hl rfl (fun v w h => h) fun us w' hG hV => ?_
                have o2 := (frame_old2 (us := us) (a := a0) (show (dgT[2]?).join = none from rfl)).trans k2
                have hg1 := (RA.out w' hG)
                generalize frame dgT a0 us = fr at *
                exact load_ok 28 2 rfl (w.heap.size) o2 _ _ (0, 0) _ hg1 Try.underlying28 rfl IA.out hG rfl
              · refine step_guard [5, 8] (by kernel_rfl) (j := 5) (t := 23) (b := true) rfl (by simp) rfl hl rfl (fun v w h => h) fun us w' hG hV => ?_
                have e8 : us 8 = .agg CA := hV 8 (by simp)
                have v8 := (frame_at2 (us := us) hl (show (dgT[26]?).join = some 8 from rfl)).trans e8
                generalize frame dgT a0 us = fr at *
                exact call_ok (f := 49) (args := #[.agg CA]) (by go_simp) ((EA.out w').mono fun e w'' h => ⟨_, h.1, hG.below h.2, h.2, rfl⟩)
              · refine step_guard [5, 7, 9] (by kernel_rfl) (j := 5) (t := 23) (b := true) rfl (by simp) rfl hl rfl (fun v w h => h) fun us w' hG hV => ?_
                have e7 : us 7 = .int .i64 eb := hV 7 (by simp)
                have v7 := (frame_at2 (us := us) hl (show (dgT[25]?).join = some 7 from rfl)).trans e7
                have e9 : us 9 = .int .i64 ea := hV 9 (by simp)
                have v9 := (frame_at2 (us := us) hl (show (dgT[27]?).join = some 9 from rfl)).trans e9
                have q := Q4.out
                generalize frame dgT a0 us = fr at *
                exact val_ok (v := .bool false) (w' := w') (by go_simp) hG (Below.refl _ _) rfl
              · refine step_guard [1, 5, 10] (by kernel_rfl) (j := 1) (t := 19) (b := false) rfl (by simp) rfl hl rfl (fun v w h => h) fun us w' hG hV => ?_
                have e5 : us 5 = .bool true := hV 5 (by simp)
                have v5 := (frame_at2 (us := us) hl (show (dgT[23]?).join = some 5 from rfl)).trans e5
                have e10 : us 10 = .bool false := hV 10 (by simp)
                have v10 := (frame_at2 (us := us) hl (show (dgT[28]?).join = some 10 from rfl)).trans e10
                generalize frame dgT a0 us = fr at *
                exact val_ok (v := .bool false) (w' := w') (by go_simp) hG (Below.refl _ _) rfl
              · refine step_plain [1, 11] (by kernel_rfl) rfl fun us w' hG hV => ?_
                have e1 : us 1 = .bool false := hV 1 (by simp)
                have v1 := (frame_at2 (us := us) hl (show (dgT[19]?).join = some 1 from rfl)).trans e1
                have e11 : us 11 = .bool false := hV 11 (by simp)
                have v11 := (frame_at2 (us := us) hl (show (dgT[29]?).join = some 11 from rfl)).trans e11
                generalize frame dgT a0 us = fr at *
                exact val_ok (v := .bool false) (w' := w') (by go_simp) hG (Below.refl _ _) rfl
              · refine step_plain [12] (by kernel_rfl) rfl fun us w' hG hV => ?_
                have e12 : us 12 = .bool false := hV 12 (by simp)
                have v12 := (frame_at2 (us := us) hl (show (dgT[30]?).join = some 12 from rfl)).trans e12
                generalize frame dgT a0 us = fr at *
                exact val_ok (v := .bool false) (w' := w') (by go_simp) hG (Below.refl _ _) rfl
              · refine step_guard [13] (by kernel_rfl) (j := 13) (t := 31) (b := false) rfl (by simp) rfl hl rfl (fun v w h => h) fun us w' hG hV => ?_
                have o3 := (frame_old2 (us := us) (a := a0) (show (dgT[3]?).join = none from rfl)).trans k3
                generalize frame dgT a0 us = fr at *
                exact val_ok (v := .pointer (some ⟨(w.heap.size + 1), 38, none⟩)) (w' := w') (by go_simp) hG (Below.refl _ _) rfl
              · refine step_guard [13, 14] (by kernel_rfl) (j := 13) (t := 31) (b := false) rfl (by simp) rfl hl rfl (fun v w h => h) fun us w' hG hV => ?_
                have e14 : us 14 = .pointer (some ⟨(w.heap.size + 1), 38, none⟩) := hV 14 (by simp)
                have v14 := (frame_at2 (us := us) hl (show (dgT[32]?).join = some 14 from rfl)).trans e14
                have hc := B2.out w' hG
                generalize frame dgT a0 us = fr at *
                exact val_ok (v := .bool false) (w' := w') (by go_simp) hG (Below.refl _ _) rfl
              · refine step_guard [13, 15] (by kernel_rfl) (j := 13) (t := 31) (b := false) rfl (by simp) rfl hl rfl (fun v w h => h) fun us w' hG hV => ?_
                have e15 : us 15 = .bool false := hV 15 (by simp)
                have v15 := (frame_at2 (us := us) hl (show (dgT[33]?).join = some 15 from rfl)).trans e15
                generalize frame dgT a0 us = fr at *
                exact val_ok (v := .bool true) (w' := w') (by go_simp) hG (Below.refl _ _) rfl
              · refine step_guard [13, 16] (by kernel_rfl) (j := 13) (t := 31) (b := false) rfl (by simp) rfl hl rfl (fun v w h => h) fun us w' hG hV => ?_
                have e16 : us 16 = .bool true := hV 16 (by simp)
                have v16 := (frame_at2 (us := us) hl (show (dgT[34]?).join = some 16 from rfl)).trans e16
                generalize frame dgT a0 us = fr at *
                exact val_ok (v := .bool true) (w' := w') (by go_simp) hG (Below.refl _ _) rfl
              · refine step_guard [17] (by kernel_rfl) (j := 17) (t := 35) (b := true) rfl (by simp) rfl hl rfl (fun v w h => h) fun us w' hG hV => ?_
                have o2 := (frame_old2 (us := us) (a := a0) (show (dgT[2]?).join = none from rfl)).trans k2
                have hg1 := (RA.out w' hG)
                generalize frame dgT a0 us = fr at *
                exact load_ok 28 2 rfl (w.heap.size) o2 _ _ (0, 0) _ hg1 Try.underlying28 rfl IA.out hG rfl
              · refine step_guard [17, 18] (by kernel_rfl) (j := 17) (t := 35) (b := true) rfl (by simp) rfl hl rfl (fun v w h => h) fun us w' hG hV => ?_
                have e18 : us 18 = .agg CA := hV 18 (by simp)
                have v18 := (frame_at2 (us := us) hl (show (dgT[36]?).join = some 18 from rfl)).trans e18
                generalize frame dgT a0 us = fr at *
                exact call_ok (f := 49) (args := #[.agg CA]) (by go_simp) ((EA.out w').mono fun e w'' h => ⟨_, h.1, hG.below h.2, h.2, rfl⟩)
              · refine step_guard [17] (by kernel_rfl) (j := 17) (t := 35) (b := true) rfl (by simp) rfl hl rfl (fun v w h => h) fun us w' hG hV => ?_
                have o3 := (frame_old2 (us := us) (a := a0) (show (dgT[3]?).join = none from rfl)).trans k3
                have hg1 := (RB.out w' hG)
                generalize frame dgT a0 us = fr at *
                exact load_ok 28 3 rfl ((w.heap.size + 1)) o3 _ _ (0, 0) _ hg1 Try.underlying28 rfl IB.out hG rfl
              · refine step_guard [17, 20] (by kernel_rfl) (j := 17) (t := 35) (b := true) rfl (by simp) rfl hl rfl (fun v w h => h) fun us w' hG hV => ?_
                have e20 : us 20 = .agg CB := hV 20 (by simp)
                have v20 := (frame_at2 (us := us) hl (show (dgT[38]?).join = some 20 from rfl)).trans e20
                generalize frame dgT a0 us = fr at *
                exact call_ok (f := 49) (args := #[.agg CB]) (by go_simp) ((EB.out w').mono fun e w'' h => ⟨_, h.1, hG.below h.2, h.2, rfl⟩)
              · refine step_guard [17, 19, 21] (by kernel_rfl) (j := 17) (t := 35) (b := true) rfl (by simp) rfl hl rfl (fun v w h => h) fun us w' hG hV => ?_
                have e19 : us 19 = .int .i64 ea := hV 19 (by simp)
                have v19 := (frame_at2 (us := us) hl (show (dgT[37]?).join = some 19 from rfl)).trans e19
                have e21 : us 21 = .int .i64 eb := hV 21 (by simp)
                have v21 := (frame_at2 (us := us) hl (show (dgT[39]?).join = some 21 from rfl)).trans e21
                have q := Q5.out
                generalize frame dgT a0 us = fr at *
                exact val_ok (v := .bool false) (w' := w') (by go_simp) hG (Below.refl _ _) rfl
              · refine step_guard [13, 17, 22] (by kernel_rfl) (j := 13) (t := 31) (b := false) rfl (by simp) rfl hl rfl (fun v w h => h) fun us w' hG hV => ?_
                have e17 : us 17 = .bool true := hV 17 (by simp)
                have v17 := (frame_at2 (us := us) hl (show (dgT[35]?).join = some 17 from rfl)).trans e17
                have e22 : us 22 = .bool false := hV 22 (by simp)
                have v22 := (frame_at2 (us := us) hl (show (dgT[40]?).join = some 22 from rfl)).trans e22
                generalize frame dgT a0 us = fr at *
                exact val_ok (v := .bool false) (w' := w') (by go_simp) hG (Below.refl _ _) rfl
              · refine step_plain [13, 23] (by kernel_rfl) rfl fun us w' hG hV => ?_
                have e13 : us 13 = .bool false := hV 13 (by simp)
                have v13 := (frame_at2 (us := us) hl (show (dgT[31]?).join = some 13 from rfl)).trans e13
                have e23 : us 23 = .bool false := hV 23 (by simp)
                have v23 := (frame_at2 (us := us) hl (show (dgT[41]?).join = some 23 from rfl)).trans e23
                generalize frame dgT a0 us = fr at *
                exact val_ok (v := .bool false) (w' := w') (by go_simp) hG (Below.refl _ _) rfl
              · refine step_plain [24] (by kernel_rfl) rfl fun us w' hG hV => ?_
                have e24 : us 24 = .bool false := hV 24 (by simp)
                have v24 := (frame_at2 (us := us) hl (show (dgT[42]?).join = some 24 from rfl)).trans e24
                generalize frame dgT a0 us = fr at *
                exact val_ok (v := .bool false) (w' := w') (by go_simp) hG (Below.refl _ _) rfl
              · intro us w7 hG hV
                have eL : us 25 = .bool false := hV 25 (by decide)
                subst ha0
                simp only [frame, dgT, fill]
                rw [eL]
                have HG4 := Lib.hid hG
                clear hV hl hG k2 k3 k5 eL
                go_wp2_with fail
                go_ret
                exact ⟨ret_bool HVV.out.symm, HB.out.trans (Below.mono HG4.out HB.out.size)⟩
  · have Q1 := Lib.hid h1
    have Q2 := Lib.hid h2
    cases ma <;> cases mb
    all_goals
      have HVV := Lib.hid (show V = true by rw [HV.out]; simp [h1, h2])
      clear HV h1 h2
      go_enter Try.func45, Try.ntmps45
      go_upto_region 1 with fail
      rw [← hW]
      clear hW R0 R1
      refine with_act fun a0 ha0 => ?_
      have hl : ccT.length = a0.tmps.size := by rw [ha0]; rfl
      have k2 : a0.tmps[2]?.getD undef = .pointer (some ⟨w.heap.size, 0, none⟩) := by rw [ha0]; rfl
      have k3 : a0.tmps[3]?.getD undef = .pointer (some ⟨(w.heap.size + 1), 0, none⟩) := by rw [ha0]; rfl
      refine wp_region_vals (by kernel_rfl) ccT (by kernel_rfl) (by kernel_rfl) hl (fun i => undef) (by rw [ha0]; rfl) (Gr W) (ccV w.heap.size (w.heap.size + 1) CA CB oa ob ea eb) (show Gr _ _ from (Below.refl _ _).drew) (ccV.keep _ _ _ _ _ _ _ _) ⟨?_, ?_, ?_, ?_, ?_, ?_, ?_, ?_, ?_, ?_, ?_, ?_, ?_, trivial⟩ ?_
      · refine step_plain [] (by kernel_rfl) rfl fun us w' hG hV => ?_
        have o2 := (frame_old2 (us := us) (a := a0) (show (ccT[2]?).join = none from rfl)).trans k2
        generalize frame ccT a0 us = fr at *
        exact val_ok (v := .pointer (some ⟨w.heap.size, 39, none⟩)) (w' := w') (by go_simp) hG (Below.refl _ _) rfl
      · refine step_plain [0] (by kernel_rfl) rfl fun us w' hG hV => ?_
        have e0 : us 0 = .pointer (some ⟨w.heap.size, 39, none⟩) := hV 0 (by simp)
        have v0 := (frame_at2 (us := us) hl (show (ccT[6]?).join = some 0 from rfl)).trans e0
        have hc := A1.out w' hG
        generalize frame ccT a0 us = fr at *
        exact val_ok (v := .int .i64 oa) (w' := w') (by go_simp) hG (Below.refl _ _) rfl
      · refine step_plain [] (by kernel_rfl) rfl fun us w' hG hV => ?_
        have o3 := (frame_old2 (us := us) (a := a0) (show (ccT[3]?).join = none from rfl)).trans k3
        have hg1 := (RB.out w' hG)
        generalize frame ccT a0 us = fr at *
        exact load_ok 28 3 rfl ((w.heap.size + 1)) o3 _ _ (0, 0) _ hg1 Try.underlying28 rfl IB.out hG rfl
      · refine step_plain [2] (by kernel_rfl) rfl fun us w' hG hV => ?_
        have e2 : us 2 = .agg CB := hV 2 (by simp)
        have v2 := (frame_at2 (us := us) hl (show (ccT[8]?).join = some 2 from rfl)).trans e2
        generalize frame ccT a0 us = fr at *
        exact call_ok (f := 49) (args := #[.agg CB]) (by go_simp) ((EB.out w').mono fun e w'' h => ⟨_, h.1, hG.below h.2, h.2, rfl⟩)
      · refine step_plain [1, 3] (by kernel_rfl) rfl fun us w' hG hV => ?_
        have e1 : us 1 = .int .i64 oa := hV 1 (by simp)
        have v1 := (frame_at2 (us := us) hl (show (ccT[7]?).join = some 1 from rfl)).trans e1
        have e3 : us 3 = .int .i64 eb := hV 3 (by simp)
        have v3 := (frame_at2 (us := us) hl (show (ccT[9]?).join = some 3 from rfl)).trans e3
        have q := Q1.out
        generalize frame ccT a0 us = fr at *
        exact val_ok (v := .bool true) (w' := w') (by go_simp) hG (Below.refl _ _) rfl
      · refine step_plain [4] (by kernel_rfl) rfl fun us w' hG hV => ?_
        have e4 : us 4 = .bool true := hV 4 (by simp)
        have v4 := (frame_at2 (us := us) hl (show (ccT[10]?).join = some 4 from rfl)).trans e4
        generalize frame ccT a0 us = fr at *
        exact val_ok (v := .bool true) (w' := w') (by go_simp) hG (Below.refl _ _) rfl
      · refine step_guard [5] (by kernel_rfl) (j := 5) (t := 11) (b := true) rfl (by simp) rfl hl rfl (fun v w h => h) fun us w' hG hV => ?_
        have o3 := (frame_old2 (us := us) (a := a0) (show (ccT[3]?).join = none from rfl)).trans k3
        generalize frame ccT a0 us = fr at *
        exact val_ok (v := .pointer (some ⟨(w.heap.size + 1), 39, none⟩)) (w' := w') (by go_simp) hG (Below.refl _ _) rfl
      · refine step_guard [5, 6] (by kernel_rfl) (j := 5) (t := 11) (b := true) rfl (by simp) rfl hl rfl (fun v w h => h) fun us w' hG hV => ?_
        have e6 : us 6 = .pointer (some ⟨(w.heap.size + 1), 39, none⟩) := hV 6 (by simp)
        have v6 := (frame_at2 (us := us) hl (show (ccT[12]?).join = some 6 from rfl)).trans e6
        have hc := B1.out w' hG
        generalize frame ccT a0 us = fr at *
        exact val_ok (v := .int .i64 ob) (w' := w') (by go_simp) hG (Below.refl _ _) rfl
      · refine step_guard [5] (by kernel_rfl) (j := 5) (t := 11) (b := true) rfl (by simp) rfl hl rfl (fun v w h => h) fun us w' hG hV => ?_
        have o2 := (frame_old2 (us := us) (a := a0) (show (ccT[2]?).join = none from rfl)).trans k2
        have hg1 := (RA.out w' hG)
        generalize frame ccT a0 us = fr at *
        exact load_ok 28 2 rfl (w.heap.size) o2 _ _ (0, 0) _ hg1 Try.underlying28 rfl IA.out hG rfl
      · refine step_guard [5, 8] (by kernel_rfl) (j := 5) (t := 11) (b := true) rfl (by simp) rfl hl rfl (fun v w h => h) fun us w' hG hV => ?_
        have e8 : us 8 = .agg CA := hV 8 (by simp)
        have v8 := (frame_at2 (us := us) hl (show (ccT[14]?).join = some 8 from rfl)).trans e8
        generalize frame ccT a0 us = fr at *
        exact call_ok (f := 49) (args := #[.agg CA]) (by go_simp) ((EA.out w').mono fun e w'' h => ⟨_, h.1, hG.below h.2, h.2, rfl⟩)
      · refine step_guard [5, 7, 9] (by kernel_rfl) (j := 5) (t := 11) (b := true) rfl (by simp) rfl hl rfl (fun v w h => h) fun us w' hG hV => ?_
        have e7 : us 7 = .int .i64 ob := hV 7 (by simp)
        have v7 := (frame_at2 (us := us) hl (show (ccT[13]?).join = some 7 from rfl)).trans e7
        have e9 : us 9 = .int .i64 ea := hV 9 (by simp)
        have v9 := (frame_at2 (us := us) hl (show (ccT[15]?).join = some 9 from rfl)).trans e9
        have q := Q2.out
        generalize frame ccT a0 us = fr at *
        exact val_ok (v := .bool true) (w' := w') (by go_simp) hG (Below.refl _ _) rfl
      · refine step_plain [5, 10] (by kernel_rfl) rfl fun us w' hG hV => ?_
        have e5 : us 5 = .bool true := hV 5 (by simp)
        have v5 := (frame_at2 (us := us) hl (show (ccT[11]?).join = some 5 from rfl)).trans e5
        have e10 : us 10 = .bool true := hV 10 (by simp)
        have v10 := (frame_at2 (us := us) hl (show (ccT[16]?).join = some 10 from rfl)).trans e10
        generalize frame ccT a0 us = fr at *
        exact val_ok (v := .bool true) (w' := w') (by go_simp) hG (Below.refl _ _) rfl
      · refine step_plain [11] (by kernel_rfl) rfl fun us w' hG hV => ?_
        have e11 : us 11 = .bool true := hV 11 (by simp)
        have v11 := (frame_at2 (us := us) hl (show (ccT[17]?).join = some 11 from rfl)).trans e11
        generalize frame ccT a0 us = fr at *
        exact val_ok (v := .bool true) (w' := w') (by go_simp) hG (Below.refl _ _) rfl
      · intro us w5 hG hV
        have eL : us 12 = .bool true := hV 12 (by decide)
        subst ha0
        simp only [frame, ccT, fill]
        rw [eL]
        have HG3 := Lib.hid hG
        clear hV hl hG k2 k3 eL
        go_upto_region 2 with fail
        refine with_act fun a0 ha0 => ?_
        have hl : daT.length = a0.tmps.size := by rw [ha0]; rfl
        have k2 : a0.tmps[2]?.getD undef = .pointer (some ⟨w.heap.size, 0, none⟩) := by rw [ha0]; rfl
        have k3 : a0.tmps[3]?.getD undef = .pointer (some ⟨(w.heap.size + 1), 0, none⟩) := by rw [ha0]; rfl
        have k5 : a0.tmps[5]?.getD undef = .bool true := by rw [ha0]; rfl
        refine wp_region_vals (by kernel_rfl) daT (by kernel_rfl) (by kernel_rfl) hl (fun i => if i = 25 then .bool false else a0.tmps[i + 18]?.getD undef) (by rw [ha0]; rfl) (Gr W) (daV w.heap.size (w.heap.size + 1) CA CB oa ob ea eb) HG3.out.drew (daV.keep _ _ _ _ _ _ _ _) ⟨?_, ?_, ?_, ?_, ?_, ?_, ?_, ?_, ?_, ?_, ?_, ?_, ?_, ?_, ?_, ?_, ?_, ?_, ?_, ?_, ?_, ?_, ?_, ?_, ?_, ?_, trivial⟩ ?_
        · refine step_plain [] (by kernel_rfl) rfl fun us w' hG hV => ?_
          have o5 := (frame_old2 (us := us) (a := a0) (show (daT[5]?).join = none from rfl)).trans k5
          generalize frame daT a0 us = fr at *
          exact val_ok (v := .bool true) (w' := w') (by go_simp) hG (Below.refl _ _) rfl
        · refine step_plain [0] (by kernel_rfl) rfl fun us w' hG hV => ?_
          have e0 : us 0 = .bool true := hV 0 (by simp)
          have v0 := (frame_at2 (us := us) hl (show (daT[18]?).join = some 0 from rfl)).trans e0
          generalize frame daT a0 us = fr at *
          exact val_ok (v := .bool true) (w' := w') (by go_simp) hG (Below.refl _ _) rfl
        · exact step_skip [1] (by kernel_rfl) (j := 1) (t := 19) (b := false) rfl (by simp) rfl hl rfl (fun v w h => .inl h) fun _ => rfl
        · exact step_skip [1] (by kernel_rfl) (j := 1) (t := 19) (b := false) rfl (by simp) rfl hl rfl (fun v w h => .inl h) fun _ => rfl
        · exact step_skip [1] (by kernel_rfl) (j := 1) (t := 19) (b := false) rfl (by simp) rfl hl rfl (fun v w h => .inl h) fun _ => rfl
        · exact step_skip [1] (by kernel_rfl) (j := 1) (t := 19) (b := false) rfl (by simp) rfl hl rfl (fun v w h => .inl h) fun _ => rfl
        · exact step_skip [5] (by kernel_rfl) (j := 5) (t := 23) (b := true) rfl (by simp) rfl hl rfl (fun v w h => .inr h) fun _ => rfl
        · exact step_skip [5] (by kernel_rfl) (j := 5) (t := 23) (b := true) rfl (by simp) rfl hl rfl (fun v w h => .inr h) fun _ => rfl
        · exact step_skip [5] (by kernel_rfl) (j := 5) (t := 23) (b := true) rfl (by simp) rfl hl rfl (fun v w h => .inr h) fun _ => rfl
        · exact step_skip [5] (by kernel_rfl) (j := 5) (t := 23) (b := true) rfl (by simp) rfl hl rfl (fun v w h => .inr h) fun _ => rfl
        · exact step_skip [5] (by kernel_rfl) (j := 5) (t := 23) (b := true) rfl (by simp) rfl hl rfl (fun v w h => .inr h) fun _ => rfl
        · exact step_skip [1] (by kernel_rfl) (j := 1) (t := 19) (b := false) rfl (by simp) rfl hl rfl (fun v w h => .inl h) fun _ => rfl
        · refine step_plain [1] (by kernel_rfl) rfl fun us w' hG hV => ?_
          have e1 : us 1 = .bool true := hV 1 (by simp)
          have v1 := (frame_at2 (us := us) hl (show (daT[19]?).join = some 1 from rfl)).trans e1
          generalize frame daT a0 us = fr at *
          exact val_ok (v := .bool true) (w' := w') (by go_simp) hG (Below.refl _ _) rfl
        · refine step_plain [12] (by kernel_rfl) rfl fun us w' hG hV => ?_
          have e12 : us 12 = .bool true := hV 12 (by simp)
          have v12 := (frame_at2 (us := us) hl (show (daT[30]?).join = some 12 from rfl)).trans e12
          generalize frame daT a0 us = fr at *
          exact val_ok (v := .bool true) (w' := w') (by go_simp) hG (Below.refl _ _) rfl
        · exact step_skip [13] (by kernel_rfl) (j := 13) (t := 31) (b := false) rfl (by simp) rfl hl rfl (fun v w h => .inl h) fun _ => rfl
        · exact step_skip [13] (by kernel_rfl) (j := 13) (t := 31) (b := false) rfl (by simp) rfl hl rfl (fun v w h => .inl h) fun _ => rfl
        · exact step_skip [13] (by kernel_rfl) (j := 13) (t := 31) (b := false) rfl (by simp) rfl hl rfl (fun v w h => .inl h) fun _ => rfl
        · exact step_skip [13] (by kernel_rfl) (j := 13) (t := 31) (b := false) rfl (by simp) rfl hl rfl (fun v w h => .inl h) fun _ => rfl
        · exact step_skip [17] (by kernel_rfl) (j := 17) (t := 35) (b := true) rfl (by simp) rfl hl rfl (fun v w h => .inr h) fun _ => rfl
        · exact step_skip [17] (by kernel_rfl) (j := 17) (t := 35) (b := true) rfl (by simp) rfl hl rfl (fun v w h => .inr h) fun _ => rfl
        · exact step_skip [17] (by kernel_rfl) (j := 17) (t := 35) (b := true) rfl (by simp) rfl hl rfl (fun v w h => .inr h) fun _ => rfl
        · exact step_skip [17] (by kernel_rfl) (j := 17) (t := 35) (b := true) rfl (by simp) rfl hl rfl (fun v w h => .inr h) fun _ => rfl
        · exact step_skip [17] (by kernel_rfl) (j := 17) (t := 35) (b := true) rfl (by simp) rfl hl rfl (fun v w h => .inr h) fun _ => rfl
        · exact step_skip [13] (by kernel_rfl) (j := 13) (t := 31) (b := false) rfl (by simp) rfl hl rfl (fun v w h => .inl h) fun _ => rfl
        · refine step_plain [13] (by kernel_rfl) rfl fun us w' hG hV => ?_
          have e13 : us 13 = .bool true := hV 13 (by simp)
          have v13 := (frame_at2 (us := us) hl (show (daT[31]?).join = some 13 from rfl)).trans e13
          generalize frame daT a0 us = fr at *
          exact val_ok (v := .bool true) (w' := w') (by go_simp) hG (Below.refl _ _) rfl
        · refine step_plain [24] (by kernel_rfl) rfl fun us w' hG hV => ?_
          have e24 : us 24 = .bool true := hV 24 (by simp)
          have v24 := (frame_at2 (us := us) hl (show (daT[42]?).join = some 24 from rfl)).trans e24
          generalize frame daT a0 us = fr at *
          exact val_ok (v := .bool true) (w' := w') (by go_simp) hG (Below.refl _ _) rfl
        · intro us w7 hG hV
          have eL : us 25 = .bool true := hV 25 (by decide)
          subst ha0
          simp only [frame, daT, fill]
          rw [eL]
          have HG4 := Lib.hid hG
          clear hV hl hG k2 k3 k5 eL
          go_wp2_with fail
          go_ret
          exact ⟨ret_bool HVV.out.symm, HB.out.trans (Below.mono HG4.out HB.out.size)⟩
/-! the two functions that 'add' makes -/
set_option maxRecDepth 100000 in
set_option maxHeartbeats 4000000 in
theorem again1_any (x m : Pe) (bx : Nat) (w : World) (hx : x.p.Ok) (hm : m.p.Ok) (lx : x.x.length = x.n) (lm : m.x.length = m.n) (R : w.heap[bx]? = some (.cells (pktV m.p m.A m.n m.c) 28 (0, 0))) :
    Calls Try.prog 42 #[.agg (pktV x.p x.A x.n x.c), .pointer (some ⟨bx, 0, none⟩)] w (Ret w (.bool (dupP m.pc x.pc))) := by
  obtain ⟨W, hW⟩ : ∃ W, W = w.alloc (.cells (pktV x.p x.A x.n x.c) 28) := ⟨_, rfl⟩
  have R0 := Lib.hid (show W.heap[w.heap.size]? = some (.cells (pktV x.p x.A x.n x.c) 28 (0, 0)) by rw [hW]; exact heap_alloc_new _ _)
  have HB := Lib.hid (show Below w.heap.size w W by rw [hW]; exact alloc_below _ _)
  have R1 := Lib.hid (show W.heap[bx]? = some (.cells (pktV m.p m.A m.n m.c) 28 (0, 0)) from (HB.out.block _ (Array.getElem?_eq_some_iff.1 R).1).trans R)
  have I0 := Lib.hid (pkt_info hx x.A x.n x.c)
  have I1 := Lib.hid (pkt_info hm m.A m.n m.c)
  have CN := Lib.hid (again_any x m W hx hm lx lm)
  generalize dupP m.pc x.pc = V at *
  generalize pktV x.p x.A x.n x.c = X at *
  generalize pktV m.p m.A m.n m.c = M at *
  clear R hx hm lx lm
  go_enter Try.func42, Try.ntmps42
  go_upto_region 1 with fail
  rw [← hW]
  clear hW
  go_wp2_with (first
    | (refine wpList_load_row rfl 28 (.tmp 2) rfl (w.heap.size) rfl _ _ _ _ R0.out Try.underlying28 rfl I0.out ?_)
    | (refine wpList_load_row rfl 28 (.tmp 1) rfl bx rfl _ _ _ _ R1.out Try.underlying28 rfl I1.out ?_)
    | (go_at_call 43; refine CN.out.mono ?_; rintro e w2 ⟨rfl, hb⟩; have HB2 := Lib.hid hb; clear hb))
  go_ret
  exact ⟨rfl, HB.out.trans (HB2.out.mono HB.out.size)⟩
set_option maxRecDepth 100000 in
set_option maxHeartbeats 4000000 in
theorem clash1_any (x m : Pe) (bx : Nat) (w : World) (hx : x.p.Ok) (hm : m.p.Ok) (lx : x.x.length = x.n) (lm : m.x.length = m.n)
    (ea1 : -9223372036854775808 ≤ x.p.off + (x.n : Int) ∧ x.p.off + (x.n : Int) ≤ 9223372036854775807) (eb1 : -9223372036854775808 ≤ m.p.off + (m.n : Int) ∧ m.p.off + (m.n : Int) ≤ 9223372036854775807) (R : w.heap[bx]? = some (.cells (pktV m.p m.A m.n m.c) 28 (0, 0))) :
    Calls Try.prog 44 #[.agg (pktV x.p x.A x.n x.c), .pointer (some ⟨bx, 0, none⟩)] w (Ret w (.bool (clashP x.pc m.pc))) := by
  obtain ⟨W, hW⟩ : ∃ W, W = w.alloc (.cells (pktV x.p x.A x.n x.c) 28) := ⟨_, rfl⟩
  have R0 := Lib.hid (show W.heap[w.heap.size]? = some (.cells (pktV x.p x.A x.n x.c) 28 (0, 0)) by rw [hW]; exact heap_alloc_new _ _)
  have HB := Lib.hid (show Below w.heap.size w W by rw [hW]; exact alloc_below _ _)
  have R1 := Lib.hid (show W.heap[bx]? = some (.cells (pktV m.p m.A m.n m.c) 28 (0, 0)) from (HB.out.block _ (Array.getElem?_eq_some_iff.1 R).1).trans R)
  have I0 := Lib.hid (pkt_info hx x.A x.n x.c)
  have I1 := Lib.hid (pkt_info hm m.A m.n m.c)
  have CN := Lib.hid (clash_any x m W hx hm lx lm ea1 eb1)
  generalize clashP x.pc m.pc = V at *
  generalize pktV x.p x.A x.n x.c = X at *
  generalize pktV m.p m.A m.n m.c = M at *
  clear R hx hm lx lm ea1 eb1
  go_enter Try.func44, Try.ntmps44
  go_upto_region 1 with fail
  rw [← hW]
  clear hW
  go_wp2_with (first
    | (refine wpList_load_row rfl 28 (.tmp 2) rfl (w.heap.size) rfl _ _ _ _ R0.out Try.underlying28 rfl I0.out ?_)
    | (refine wpList_load_row rfl 28 (.tmp 1) rfl bx rfl _ _ _ _ R1.out Try.underlying28 rfl I1.out ?_)
    | (go_at_call 45; refine CN.out.mono ?_; rintro e w2 ⟨rfl, hb⟩; have HB2 := Lib.hid hb; clear hb))
  go_ret
  exact ⟨rfl, HB.out.trans (HB2.out.mono HB.out.size)⟩
end Go.Proofs.Ytcnnpfjommiafaa.fgC
