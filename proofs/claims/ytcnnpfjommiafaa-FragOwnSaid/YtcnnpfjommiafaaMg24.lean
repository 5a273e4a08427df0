/-
  2 texts of a proof, joined.
-/
import Derived.Test.YtcnnpfjommiafaaMg18
import Derived.Test.YtcnnpfjommiafaaMg20
import Derived.Test.YtcnnpfjommiafaaMg23
import Derived.Test.YtcnnpfjommiafaaMg31

/-
  A piece is added to a packet's pieces.
-/
namespace Go.Proofs.Ytcnnpfjommiafaa.fgC
open Go.ChangeShapes Go.WideShapes Go.ChangeAt Go.RowKit
open Go.Proofs.Ytcnnpfjommiafaa.memC Go.Proofs.Ytcnnpfjommiafaa.genC Go.Proofs.Ytcnnpfjommiafaa.butC Go.Proofs.Ytcnnpfjommiafaa.freeC Go.Proofs.Ytcnnpfjommiafaa.adC
open Go.Proofs.Ytcnnpfjommiafaa.pkC (Pkt pktL pktV pktT adrC)
set_option linter.unusedVariables false
set_option maxRecDepth 100000 in
set_option maxHeartbeats 8000000 in
theorem padd_dup (q : Nat) (w : World) (began : Int) (v : Value) (es : List Pe) (p : Pkt) (A : Option Addr) (n c : Nat) (xs : List Int) (hq : w.heap[q]? = some (.cells #[.int .i64 began, v] 79 (0, 0))) (ho : OwnK w 0 v es) (hk : ∀ x ∈ es, Kx x) (hm : Kx ⟨p, A, n, c, xs⟩) (hx : Nums .u8 w w.heap.size A n xs) (hl : es.length ≤ 64) (hn : n ≤ 70000) (hd : es.any (fun x => dupP (p, xs) x.pc) = true) :
    Calls Try.prog 31 #[ptr q, .agg (pktV p A n c)] w (Ret w (.int .i64 0)) := by
  obtain ⟨W, hW⟩ : ∃ W, W = w.alloc (.cells (pktV p A n c) 28) := ⟨_, rfl⟩
  obtain ⟨bx, hbx⟩ : ∃ g, g = w.heap.size := ⟨_, rfl⟩
  have R0 := Lib.hid (show W.heap[bx]? = some (.cells (pktV p A n c) 28 (0, 0)) by rw [hW, hbx]; exact heap_alloc_new _ _)
  have HB := Lib.hid (show Below w.heap.size w W by rw [hW]; exact alloc_below _ _)
  have HQ := Lib.hid (show W.heap[q]? = some (.cells #[.int .i64 began, v] 79 (0, 0)) from (HB.out.block q (Array.getElem?_eq_some_iff.1 hq).1).trans hq)
  have HQL := Lib.hid (show q < w.heap.size from (Array.getElem?_eq_some_iff.1 hq).1)
  obtain ⟨A4, cc, hv, hcc, hcm, hrow⟩ := ho.form (fun e he => (hk e he).p)
  obtain ⟨N, hN⟩ : ∃ N, N = es.length := ⟨_, rfl⟩
  rw [← hN] at hv hrow hl
  have HRO := Lib.hid (fun w' (h : Below w.heap.size w w') => (show RowK w' w'.heap.size A4 N es from hrow.below h h.size))
  have HBX := Lib.hid hbx
  have C1 := Lib.hid (fun w' (h : Below W.heap.size W w') => (show w'.cell? ⟨q, 1, none⟩ = some (.slice A4 N cc) by
    rw [cell_of_row w' q 1 _ _ (0, 0) ((h.block q (Array.getElem?_eq_some_iff.1 HQ.out).1).trans HQ.out), hv]; rfl))
  have RB := Lib.hid (fun w' (h : Below W.heap.size W w') => (h.block bx (Array.getElem?_eq_some_iff.1 R0.out).1).trans R0.out)
  have AG := Lib.hid (fun w' (h : Below W.heap.size W w') => any_again A4 bx N cc es ⟨p, A, n, c, xs⟩ w' (HRO.out w' (HB.out.trans (h.mono HB.out.size))) hk hm (RB.out w' h) (by omega))
  have CL := Lib.hid (fun w' (h : Below W.heap.size W w') => any_clash A4 bx N cc es ⟨p, A, n, c, xs⟩ w' (HRO.out w' (HB.out.trans (h.mono HB.out.size))) hk hm (RB.out w' h) (by omega))
  have c1 := C1.out W (Below.refl _ _)
  have AG := Lib.hid (fun w' h => by have := AG.out w' h; rwa [show es.any (fun x => dupP (⟨p, A, n, c, xs⟩ : Pe).pc x.pc) = true from hd] at this)
  unfold ptr
  clear hq ho hk hm hx hl hn hcc hcm hrow hv hN
  go_enter Try.func31, Try.ntmps31
  go_upto_region 1 with fail
  rw [← hW, ← hbx]
  clear hW hbx
  go_upto_region 2 with (go_at_call 41; refine (AG.out W (Below.refl _ _)).mono ?_; rintro e w2 ⟨rfl, hb⟩; have HB2 := Lib.hid hb; have c12 := C1.out w2 hb; clear hb c1)
  go_wp2_with fail
  go_ret
  exact ⟨rfl, HB.out.trans (HB2.out.mono HB.out.size)⟩
set_option maxRecDepth 100000 in
set_option maxHeartbeats 8000000 in
theorem padd_bad (q : Nat) (w : World) (began : Int) (v : Value) (es : List Pe) (p : Pkt) (A : Option Addr) (n c : Nat) (xs : List Int) (hq : w.heap[q]? = some (.cells #[.int .i64 began, v] 79 (0, 0))) (ho : OwnK w 0 v es) (hk : ∀ x ∈ es, Kx x) (hm : Kx ⟨p, A, n, c, xs⟩) (hx : Nums .u8 w w.heap.size A n xs) (hl : es.length ≤ 64) (hn : n ≤ 70000) (hd : es.any (fun x => dupP (p, xs) x.pc) = false) (hc : es.any (fun x => clashP x.pc (p, xs)) = true) :
    Calls Try.prog 31 #[ptr q, .agg (pktV p A n c)] w (Ret w (.int .i64 3)) := by
  obtain ⟨W, hW⟩ : ∃ W, W = w.alloc (.cells (pktV p A n c) 28) := ⟨_, rfl⟩
  obtain ⟨bx, hbx⟩ : ∃ g, g = w.heap.size := ⟨_, rfl⟩
  have R0 := Lib.hid (show W.heap[bx]? = some (.cells (pktV p A n c) 28 (0, 0)) by rw [hW, hbx]; exact heap_alloc_new _ _)
  have HB := Lib.hid (show Below w.heap.size w W by rw [hW]; exact alloc_below _ _)
  have HQ := Lib.hid (show W.heap[q]? = some (.cells #[.int .i64 began, v] 79 (0, 0)) from (HB.out.block q (Array.getElem?_eq_some_iff.1 hq).1).trans hq)
  have HQL := Lib.hid (show q < w.heap.size from (Array.getElem?_eq_some_iff.1 hq).1)
  obtain ⟨A4, cc, hv, hcc, hcm, hrow⟩ := ho.form (fun e he => (hk e he).p)
  obtain ⟨N, hN⟩ : ∃ N, N = es.length := ⟨_, rfl⟩
  rw [← hN] at hv hrow hl
  have HRO := Lib.hid (fun w' (h : Below w.heap.size w w') => (show RowK w' w'.heap.size A4 N es from hrow.below h h.size))
  have HBX := Lib.hid hbx
  have C1 := Lib.hid (fun w' (h : Below W.heap.size W w') => (show w'.cell? ⟨q, 1, none⟩ = some (.slice A4 N cc) by
    rw [cell_of_row w' q 1 _ _ (0, 0) ((h.block q (Array.getElem?_eq_some_iff.1 HQ.out).1).trans HQ.out), hv]; rfl))
  have RB := Lib.hid (fun w' (h : Below W.heap.size W w') => (h.block bx (Array.getElem?_eq_some_iff.1 R0.out).1).trans R0.out)
  have AG := Lib.hid (fun w' (h : Below W.heap.size W w') => any_again A4 bx N cc es ⟨p, A, n, c, xs⟩ w' (HRO.out w' (HB.out.trans (h.mono HB.out.size))) hk hm (RB.out w' h) (by omega))
  have CL := Lib.hid (fun w' (h : Below W.heap.size W w') => any_clash A4 bx N cc es ⟨p, A, n, c, xs⟩ w' (HRO.out w' (HB.out.trans (h.mono HB.out.size))) hk hm (RB.out w' h) (by omega))
  have c1 := C1.out W (Below.refl _ _)
  have AG := Lib.hid (fun w' h => by have := AG.out w' h; rwa [show es.any (fun x => dupP (⟨p, A, n, c, xs⟩ : Pe).pc x.pc) = false from hd] at this)
  have CL := Lib.hid (fun w' h => by have := CL.out w' h; rwa [show es.any (fun x => clashP x.pc (⟨p, A, n, c, xs⟩ : Pe).pc) = true from hc] at this)
  unfold ptr
  clear hq ho hk hm hx hl hn hcc hcm hrow hv hN
  go_enter Try.func31, Try.ntmps31
  go_upto_region 1 with fail
  rw [← hW, ← hbx]
  clear hW hbx
  go_upto_region 3 with (go_at_call 41; refine (AG.out W (Below.refl _ _)).mono ?_; rintro e w2 ⟨rfl, hb⟩; have HB2 := Lib.hid hb; have c12 := C1.out w2 hb; clear hb c1)
  go_upto_region 4 with (go_at_call 41; refine (CL.out w2 HB2.out).mono ?_; rintro e w3 ⟨rfl, hb⟩; have HB3 := Lib.hid (HB2.out.trans (hb.mono HB2.out.size)); have c13 := C1.out w3 HB3.out; clear hb c12)
  go_wp2_with fail
  go_ret
  exact ⟨rfl, HB.out.trans (HB3.out.mono HB.out.size)⟩
set_option maxRecDepth 100000 in
set_option maxHeartbeats 8000000 in
theorem padd_many (q : Nat) (w : World) (began : Int) (v : Value) (es : List Pe) (p : Pkt) (A : Option Addr) (n c : Nat) (xs : List Int) (hq : w.heap[q]? = some (.cells #[.int .i64 began, v] 79 (0, 0))) (ho : OwnK w 0 v es) (hk : ∀ x ∈ es, Kx x) (hm : Kx ⟨p, A, n, c, xs⟩) (hx : Nums .u8 w w.heap.size A n xs) (hl : es.length ≤ 64) (hn : n ≤ 70000) (hd : es.any (fun x => dupP (p, xs) x.pc) = false) (hc : es.any (fun x => clashP x.pc (p, xs)) = false) (h64 : es.length = 64) :
    Calls Try.prog 31 #[ptr q, .agg (pktV p A n c)] w (Ret w (.int .i64 5)) := by
  obtain ⟨W, hW⟩ : ∃ W, W = w.alloc (.cells (pktV p A n c) 28) := ⟨_, rfl⟩
  obtain ⟨bx, hbx⟩ : ∃ g, g = w.heap.size := ⟨_, rfl⟩
  have R0 := Lib.hid (show W.heap[bx]? = some (.cells (pktV p A n c) 28 (0, 0)) by rw [hW, hbx]; exact heap_alloc_new _ _)
  have HB := Lib.hid (show Below w.heap.size w W by rw [hW]; exact alloc_below _ _)
  have HQ := Lib.hid (show W.heap[q]? = some (.cells #[.int .i64 began, v] 79 (0, 0)) from (HB.out.block q (Array.getElem?_eq_some_iff.1 hq).1).trans hq)
  have HQL := Lib.hid (show q < w.heap.size from (Array.getElem?_eq_some_iff.1 hq).1)
  obtain ⟨A4, cc, hv, hcc, hcm, hrow⟩ := ho.form (fun e he => (hk e he).p)
  obtain ⟨N, hN⟩ : ∃ N, N = es.length := ⟨_, rfl⟩
  rw [← hN] at hv hrow hl
  have HRO := Lib.hid (fun w' (h : Below w.heap.size w w') => (show RowK w' w'.heap.size A4 N es from hrow.below h h.size))
  have HBX := Lib.hid hbx
  have C1 := Lib.hid (fun w' (h : Below W.heap.size W w') => (show w'.cell? ⟨q, 1, none⟩ = some (.slice A4 N cc) by
    rw [cell_of_row w' q 1 _ _ (0, 0) ((h.block q (Array.getElem?_eq_some_iff.1 HQ.out).1).trans HQ.out), hv]; rfl))
  have RB := Lib.hid (fun w' (h : Below W.heap.size W w') => (h.block bx (Array.getElem?_eq_some_iff.1 R0.out).1).trans R0.out)
  have AG := Lib.hid (fun w' (h : Below W.heap.size W w') => any_again A4 bx N cc es ⟨p, A, n, c, xs⟩ w' (HRO.out w' (HB.out.trans (h.mono HB.out.size))) hk hm (RB.out w' h) (by omega))
  have CL := Lib.hid (fun w' (h : Below W.heap.size W w') => any_clash A4 bx N cc es ⟨p, A, n, c, xs⟩ w' (HRO.out w' (HB.out.trans (h.mono HB.out.size))) hk hm (RB.out w' h) (by omega))
  have c1 := C1.out W (Below.refl _ _)
  have AG := Lib.hid (fun w' h => by have := AG.out w' h; rwa [show es.any (fun x => dupP (⟨p, A, n, c, xs⟩ : Pe).pc x.pc) = false from hd] at this)
  have CL := Lib.hid (fun w' h => by have := CL.out w' h; rwa [show es.any (fun x => clashP x.pc (⟨p, A, n, c, xs⟩ : Pe).pc) = false from hc] at this)
  have q64 : ((N : Int) == 64) = true := beq_iff_eq.2 (by omega)
  unfold ptr
  clear hq ho hk hm hx hl hn hcc hcm hrow hv hN
  go_enter Try.func31, Try.ntmps31
  go_upto_region 1 with fail
  rw [← hW, ← hbx]
  clear hW hbx
  clear h64
  go_upto_region 3 with (go_at_call 41; refine (AG.out W (Below.refl _ _)).mono ?_; rintro e w2 ⟨rfl, hb⟩; have HB2 := Lib.hid hb; have c12 := C1.out w2 hb; clear hb c1)
  go_upto_region 5 with (go_at_call 41; refine (CL.out w2 HB2.out).mono ?_; rintro e w3 ⟨rfl, hb⟩; have HB3 := Lib.hid (HB2.out.trans (hb.mono HB2.out.size)); have c13 := C1.out w3 HB3.out; clear hb c12)
  go_wp2_with fail
  go_ret
  exact ⟨rfl, HB.out.trans (HB3.out.mono HB.out.size)⟩
def paV (q bx : Nat) (ov : Value) (X : Array Value) : Nat → Value → World → Prop
  | 0, v, _ => v = .pointer (some ⟨q, 0, none⟩)
  | 1, v, _ => v = .pointer (some ⟨q, 0, none⟩)
  | 2, v, _ => v = .pointer (some ⟨q, 0, none⟩)
  | 3, v, _ => v = .pointer (some ⟨q, 1, none⟩)
  | 4, v, _ => v = ov
  | 5, v, _ => v = .agg X
  | 8, v, _ => v = .pointer (some ⟨q, 0, none⟩)
  | 9, v, _ => v = .pointer (some ⟨q, 1, none⟩)
  | _, _, _ => True
theorem paV.keep (q bx : Nat) (ov : Value) (X : Array Value) (i : Nat) (v : Value) (w w' : World) (hd : Below w.heap.size w w' ∨ (fun _ _ => True) w w') (h : paV q bx ov X i v w) : paV q bx ov X i v w' := by
  unfold paV at h ⊢
  split at h <;> exact h
def paT : List (Option Nat) := [none, none, none, none, none, none, none, none, none, none, none, none, none, none, none, none, none, none, none, none, none, none, none, none, none, none, none, none, none, none, some 0, some 1, some 2, some 3, some 4, some 5, some 6, some 7, some 8, some 9, none, none, none, none, none]
set_option maxRecDepth 100000 in
set_option maxHeartbeats 8000000 in
theorem padd_in (q : Nat) (w : World) (began : Int) (v : Value) (es : List Pe) (p : Pkt) (A : Option Addr) (n c : Nat) (xs : List Int) (hq : w.heap[q]? = some (.cells #[.int .i64 began, v] 79 (0, 0))) (ho : OwnK w 0 v es) (hk : ∀ x ∈ es, Kx x) (hm : Kx ⟨p, A, n, c, xs⟩) (hx : Nums .u8 w w.heap.size A n xs) (hl : es.length ≤ 64) (hn : n ≤ 70000) (hd : es.any (fun x => dupP (p, xs) x.pc) = false) (hc : es.any (fun x => clashP x.pc (p, xs)) = false) (h64 : es.length < 64) :
    Calls Try.prog 31 #[ptr q, .agg (pktV p A n c)] w (fun e w' => e = .returned (.int .i64 0) ∧ ∃ g' c' A1 c1 es', w'.heap[q]? = some (.cells #[.int .i64 began, .slice (some ⟨g', 0, none⟩) (es.length + 1) c'] 79 (0, 0)) ∧ (v.ownBlock = some g' ∨ w.heap.size ≤ g') ∧ g' < w'.heap.size ∧ es'.Perm (es ++ [⟨p, A1, n, c1, xs⟩]) ∧ es'.Pairwise (fun x y => x.p.off ≤ y.p.off) ∧ OwnK w' 0 (.slice (some ⟨g', 0, none⟩) (es.length + 1) c') es' ∧ memC.Own .u8 5 w' w.heap.size (.slice A1 n c1) xs ∧ (n ≤ c1 ∧ c1 ≤ 9223372036854775807) ∧ Fs (S1 q v) w w') := by
  obtain ⟨W, hW⟩ : ∃ W, W = w.alloc (.cells (pktV p A n c) 28) := ⟨_, rfl⟩
  obtain ⟨bx, hbx⟩ : ∃ g, g = w.heap.size := ⟨_, rfl⟩
  have R0 := Lib.hid (show W.heap[bx]? = some (.cells (pktV p A n c) 28 (0, 0)) by rw [hW, hbx]; exact heap_alloc_new _ _)
  have HB := Lib.hid (show Below w.heap.size w W by rw [hW]; exact alloc_below _ _)
  have HQ := Lib.hid (show W.heap[q]? = some (.cells #[.int .i64 began, v] 79 (0, 0)) from (HB.out.block q (Array.getElem?_eq_some_iff.1 hq).1).trans hq)
  have HQL := Lib.hid (show q < w.heap.size from (Array.getElem?_eq_some_iff.1 hq).1)
  obtain ⟨A4, cc, hv, hcc, hcm, hrow⟩ := ho.form (fun e he => (hk e he).p)
  obtain ⟨N, hN⟩ : ∃ N, N = es.length := ⟨_, rfl⟩
  rw [← hN] at hv hrow hl
  have HRO := Lib.hid (fun w' (h : Below w.heap.size w w') => (show RowK w' w'.heap.size A4 N es from hrow.below h h.size))
  have HBX := Lib.hid hbx
  have C1 := Lib.hid (fun w' (h : Below W.heap.size W w') => (show w'.cell? ⟨q, 1, none⟩ = some (.slice A4 N cc) by
    rw [cell_of_row w' q 1 _ _ (0, 0) ((h.block q (Array.getElem?_eq_some_iff.1 HQ.out).1).trans HQ.out), hv]; rfl))
  have RB := Lib.hid (fun w' (h : Below W.heap.size W w') => (h.block bx (Array.getElem?_eq_some_iff.1 R0.out).1).trans R0.out)
  have AG := Lib.hid (fun w' (h : Below W.heap.size W w') => any_again A4 bx N cc es ⟨p, A, n, c, xs⟩ w' (HRO.out w' (HB.out.trans (h.mono HB.out.size))) hk hm (RB.out w' h) (by omega))
  have CL := Lib.hid (fun w' (h : Below W.heap.size W w') => any_clash A4 bx N cc es ⟨p, A, n, c, xs⟩ w' (HRO.out w' (HB.out.trans (h.mono HB.out.size))) hk hm (RB.out w' h) (by omega))
  have c1 := C1.out W (Below.refl _ _)
  have AG := Lib.hid (fun w' h => by have := AG.out w' h; rwa [show es.any (fun x => dupP (⟨p, A, n, c, xs⟩ : Pe).pc x.pc) = false from hd] at this)
  have CL := Lib.hid (fun w' h => by have := CL.out w' h; rwa [show es.any (fun x => clashP x.pc (⟨p, A, n, c, xs⟩ : Pe).pc) = false from hc] at this)
  have q64 : ((N : Int) == 64) = false := beq_eq_false_iff_ne.2 (by omega)
  have EN := Lib.hid hN
  have HN64 := Lib.hid (show N < 64 by omega)
  have HN7 := Lib.hid (show n ≤ 70000 from hn)
  have HOK := Lib.hid hm.p
  have HXL := Lib.hid (show xs.length = n from hm.l)
  have HXN := Lib.hid hx
  have HOV := Lib.hid ho
  have OKS := Lib.hid (fun e (he : e ∈ es) => (hk e he).p)
  rw [← hN]
  unfold ptr
  clear hq ho hk hm hx hl hn hcc hcm hrow hv hN
  clear hd hc h64
  go_enter Try.func31, Try.ntmps31
  go_upto_region 1 with fail
  rw [← hW, ← hbx]
  clear hW hbx
  go_upto_region 3 with (go_at_call 41; refine (AG.out W (Below.refl _ _)).mono ?_; rintro e w2 ⟨rfl, hb⟩; have HB2 := Lib.hid hb; have c12 := C1.out w2 hb; clear hb c1)
  go_upto_region 5 with (go_at_call 41; refine (CL.out w2 HB2.out).mono ?_; rintro e w3 ⟨rfl, hb⟩; have HB3 := Lib.hid (HB2.out.trans (hb.mono HB2.out.size)); have c13 := C1.out w3 HB3.out; clear hb c12)
  go_upto_region 7 with fail
  have Q3 := Lib.hid (show Qb w w3 bx p A n c from ⟨RB.out w3 HB3.out, HB.out.trans (HB3.out.mono HB.out.size), by rw [HBX.out]; exact Nat.le_refl _, HOK.out⟩)
  have kl := Q3.out.cell 6 _ rfl
  have CC := Lib.hid (octC.clone_any A n c xs w3 ((HXN.out.below Q3.out.bel).more Q3.out.bel.size) (by have := HN7.out; omega))
  have RQ3 := Lib.hid (show w3.heap[q]? = some (.cells #[.int .i64 began, v] 79 (0, 0)) from (HB3.out.block q (Array.getElem?_eq_some_iff.1 HQ.out).1).trans HQ.out)
  have OV3 := Lib.hid (show OwnK w3 0 v es from own_row_same HOV.out fun g hg => Q3.out.bel.block g (HOV.out.blk g hg).2)
  go_upto_region 8 with (go_at_call 23; refine CC.out.mono ?_; rintro e W8 ⟨A3, c3, rfl, O3, g31, g32, N3, B3⟩
                         rw [HXL.out] at O3 g31 N3 ⊢
                         have Q8 := Lib.hid (Q3.out.below B3)
                         have c40 := Q8.out.cell 6 _ rfl
                         have f40 := Q8.out.frozen 6
                         have HO3 := Lib.hid O3
                         have G3c := Lib.hid (show n ≤ c3 ∧ c3 ≤ 9223372036854775807 from ⟨g31, by unfold maxLen at g32; omega⟩)
                         have HB83 := Lib.hid B3
                         clear O3 g31 g32 N3 B3)
  clear c40 f40 kl
  obtain ⟨W9, hW9⟩ : ∃ q, q = W8.setCell ⟨bx, 40, none⟩ (.slice A3 n c3) := ⟨_, rfl⟩
  have Q9 := Lib.hid (show Qb w W9 bx p A3 n c3 by rw [hW9]; exact Q8.out.set_ 6 (.slice A3 n c3) rfl ⟨rfl, rfl, rfl, rfl⟩ HOK.out)
  have HB9 := Lib.hid Q9.out.bel
  have hne9 : ∀ g, g ≠ bx → W9.heap[g]? = W8.heap[g]? := fun g hg => by rw [hW9]; exact Below.heap_setCell _ _ _ _ hg
  have hw39 : w3.heap.size ≤ W9.heap.size := by rw [hW9]; have := HB83.out.size; simpa [World.setCell] using this
  have hbw : w.heap.size < w3.heap.size := by rw [← HBX.out]; exact (Array.getElem?_eq_some_iff.1 Q3.out.row).1
  have HW3 := Lib.hid (show w.heap.size < w3.heap.size from hbw)
  have HO9 := Lib.hid (show memC.Own .u8 5 W9 w3.heap.size (.slice A3 n c3) xs by
    refine memC.Own.keep HO3.out fun g g1 _ => hne9 g (by rw [HBX.out]; omega))
  have RQ9 := Lib.hid (show W9.heap[q]? = some (.cells #[.int .i64 began, v] 79 (0, 0)) from ((hne9 q (by rw [HBX.out]; have := HQL.out; omega)).trans (HB83.out.block q (Array.getElem?_eq_some_iff.1 RQ3.out).1)).trans RQ3.out)
  have OV9 := Lib.hid (show OwnK W9 0 v es from own_row_same OV3.out fun g hg => (hne9 g (by rw [HBX.out]; have := (HOV.out.blk g hg).2; omega)).trans (HB83.out.block g (OV3.out.blk g hg).2))
  have RB9 := Lib.hid (show W9.heap[bx]? = some (.cells (pktV p A3 n c3) 28 (0, 0)) from Q9.out.row)
  have INF := Lib.hid (pkt_info HOK.out A3 n c3)
  rw [← hW9]
  clear hW9 hne9 hw39 hbw Q3 Q8 Q9 CC c13
  obtain ⟨X, hX⟩ : ∃ X, X = pktV p A3 n c3 := ⟨_, rfl⟩
  obtain ⟨ov, hov⟩ : ∃ ov, ov = v := ⟨_, rfl⟩
  obtain ⟨H, hH⟩ : ∃ H : Array Value, H = #[.int .i64 began, ov] := ⟨_, rfl⟩
  obtain ⟨NL, hNL⟩ : ∃ L, L = flatK es := ⟨_, rfl⟩
  obtain ⟨i0, hi0, hz0, hz1, hz2⟩ := info_parts pkt_infoK
  have I0 := Lib.hid hi0; have I1 := Lib.hid hz0; have I2 := Lib.hid hz1; have I3 := Lib.hid hz2
  have ZS := Lib.hid (show (Value.agg (pktV zPkt none 0 0)).cells.size = 41 from rfl)
  have IX := Lib.hid (show (Try.prog.info? 28).map (·.size) = some X.size by rw [hX]; exact INF.out)
  have HH := Lib.hid (show H[1]? = some ov by rw [hH]; rfl)
  have OVE := Lib.hid hov
  have OVL := Lib.hid (show ∀ g, Value.ownBlock ov = some g → g < w.heap.size by rw [hov]; exact fun g hg => (HOV.out.blk g hg).2)
  have TN := Lib.hid (show Value.ownBlock ov ≠ some q by
    intro e
    rw [hov] at e
    rcases OV9.out.2 with ⟨e9, -⟩ | ⟨g9, cap9, cur9, e9, -, hh9, -⟩
    · rw [e9] at e; cases e
    · rw [e9] at e
      have e2 : g9 = q := Option.some.inj e
      rw [e2, RQ9.out] at hh9
      injection hh9 with hh9
      injection hh9 with _ hh9 _
      exact absurd hh9 (by decide))
  have HX1 := Lib.hid (show ∀ u ∈ X.toList, u.oneCell' = true by rw [hX]; exact Pe.one (e := ⟨p, A3, n, c3, xs⟩))
  have SX := Lib.hid (show X.size = 41 by rw [hX]; exact (pkC.pkC HOK.out A3 n c3).size)
  have HN := Lib.hid (show N ≤ 1000 by have := HN64.out; omega)
  have H0 := Lib.hid (show apR W9 q bx 1 79 28 41 H X ov N NL 0 (fun _ => undef) W9.drew from ⟨by rw [hH, hov]; exact RQ9.out, by rw [hX]; exact RB9.out, by rw [EN.out, hNL, hov]; exact OV9.out, Fs.below ⟨rfl, rfl, rfl, Nat.le_refl _, fun _ _ => rfl⟩⟩)
  have EX := Lib.hid hX; have EH := Lib.hid hH; have ENL := Lib.hid hNL
  clear hX hH hNL hi0 hz0 hz1 hz2 hov
  refine with_act fun a0 ha0 => ?_
  have hl : paT.length = a0.tmps.size := by rw [ha0]; rfl
  have k0 : a0.tmps[0]?.getD undef = .pointer (some ⟨q, 0, none⟩) := by rw [ha0]; rfl
  have k3 : a0.tmps[3]?.getD undef = .pointer (some ⟨bx, 0, none⟩) := by rw [ha0]; rfl
  refine wp_region_che (by kernel_rfl) paT (by kernel_rfl) (by kernel_rfl) hl (fun i => a0.tmps[i + 30]?.getD undef) (by rw [ha0]; rfl) (0) (fun _ _ => True) [6, 7, 10] (by kernel_rfl) (by decide) (by decide) (fun _ => True) (paV q bx ov X) (apR W9 q bx 1 79 28 41 H X ov N NL) (Nat.zero_le _) trivial H0.out (fun _ _ _ _ h => h) (fun i v w w' _ _ h => paV.keep _ _ _ _ i v w w' (.inr trivial) h) (fun k us us' w w' h _ hb hR => apR.keep _ _ _ _ _ _ _ _ _ _ _ _ k us us' w w' h hb hR) ⟨?_, ?_, ?_, ?_, ?_, ?_, ?_, ?_, ?_, ?_, ?_, trivial⟩ ?_
  · refine stepE_val [] (by kernel_rfl) (by decide) (by decide) rfl fun us w' hB hG hV => ?_
    have o0 := (frame_old2 (us := us) (a := a0) (show (paT[0]?).join = none from rfl)).trans k0
    generalize frame paT a0 us = fr at *
    exact val_C (v := .pointer (some ⟨q, 0, none⟩)) (w' := w') (by go_simp) (Below.refl _ _) rfl
  · refine stepE_val [] (by kernel_rfl) (by decide) (by decide) rfl fun us w' hB hG hV => ?_
    have o0 := (frame_old2 (us := us) (a := a0) (show (paT[0]?).join = none from rfl)).trans k0
    generalize frame paT a0 us = fr at *
    exact val_C (v := .pointer (some ⟨q, 0, none⟩)) (w' := w') (by go_simp) (Below.refl _ _) rfl
  · refine stepE_val [1] (by kernel_rfl) (by decide) (by decide) rfl fun us w' hB hG hV => ?_
    have e1 : us 1 = .pointer (some ⟨q, 0, none⟩) := hV 1 (by simp)
    have v1 := (frame_at2 (us := us) hl (show (paT[31]?).join = some 1 from rfl)).trans e1
    generalize frame paT a0 us = fr at *
    exact val_C (v := .pointer (some ⟨q, 0, none⟩)) (w' := w') (by go_simp) (Below.refl _ _) rfl
  · refine stepE_val [2] (by kernel_rfl) (by decide) (by decide) rfl fun us w' hB hG hV => ?_
    have e2 : us 2 = .pointer (some ⟨q, 0, none⟩) := hV 2 (by simp)
    have v2 := (frame_at2 (us := us) hl (show (paT[32]?).join = some 2 from rfl)).trans e2
    generalize frame paT a0 us = fr at *
    exact val_C (v := .pointer (some ⟨q, 1, none⟩)) (w' := w') (by go_simp) (Below.refl _ _) rfl
  · refine stepE_early 0 1 (.inl rfl) (.inr ⟨_, _, rfl, rfl, by kernel_rfl⟩) [3] (by kernel_rfl) (by decide) (by decide) rfl fun us w' k hB hG hV hk hR => ?_
    have e3 : us 3 = .pointer (some ⟨q, 1, none⟩) := hV 3 (by simp)
    have v3 := (frame_at2 (us := us) hl (show (paT[33]?).join = some 3 from rfl)).trans e3
    have hrw : w'.heap[q]? = some (.cells H 79 (0, 0)) := by
      obtain ⟨h1, h2⟩ := hk
      match k, h1, h2, hR with
      | 0, _, _, hR => exact hR.1
      | 1, _, _, hR => exact hR.1
    have hc : w'.cell? ⟨q, 1, none⟩ = some (ov) := (cell_of_row w' q 1 _ _ (0, 0) hrw).trans HH.out
    generalize frame paT a0 us = fr at *
    exact val_C (v := ov) (w' := w') (by go_simp) (Below.refl _ _) rfl
  · refine stepE_early 0 0 (.inl rfl) (.inr ⟨_, _, rfl, rfl, by kernel_rfl⟩) [] (by kernel_rfl) (by decide) (by decide) rfl fun us w' k hB hG hV hk hR => ?_
    have o3 := (frame_old2 (us := us) (a := a0) (show (paT[3]?).join = none from rfl)).trans k3
    have hg1 := (show w'.heap[bx]? = some (.cells X 28 (0, 0)) from by obtain ⟨h1, h2⟩ := hk; obtain rfl : k = 0 := (by omega); exact hR.2.1)
    generalize frame paT a0 us = fr at *
    exact load_C 28 3 rfl (bx) o3 _ _ (0, 0) _ hg1 Try.underlying28 rfl IX.out rfl
  · refine stepE_chain 0 rfl (by decide) [5] (by kernel_rfl) (by decide) rfl fun us w' hB hG hV hR => ?_
    have e5 : us 5 = .agg X := hV 5 (by simp)
    have v5 := (frame_at2 (us := us) hl (show (paT[35]?).join = some 5 from rfl)).trans e5
    generalize frame paT a0 us = fr at *
    exact lit1_J (R := fun v w'' => (True ∧ Below 0 w' w'') ∧ apR W9 q bx 1 79 28 41 H X ov N NL 1 (upd us 6 v) w'') 35 30 28 41 rfl X v5 Try.underlying30 _ _ I0.out I1.out I2.out SX.out (by decide) (by decide) ⟨⟨trivial, (alloc_below w' _).mono (Nat.zero_le _)⟩, ((alloc_below w' _).block _ (Array.getElem?_eq_some_iff.1 hR.1).1).trans hR.1, ⟨w'.heap.size, upd_same _ _ _, heap_alloc_new w' _⟩, owns_below hR.2.2.1 (alloc_below w' _), hR.2.2.2.trans (Fs.below (alloc_below w' _))⟩
  · refine stepE_chain 1 rfl (by decide) [4] (by kernel_rfl) (by decide) rfl fun us w' hB hG hV hR => ?_
    have e4 : us 4 = ov := hV 4 (by simp)
    have v4 := (frame_at2 (us := us) hl (show (paT[34]?).join = some 4 from rfl)).trans e4
    obtain ⟨a1, ⟨z, e6, hz⟩, a3, a4⟩ := (show w'.heap[q]? = some (.cells H 79 (0, 0)) ∧ (∃ z, us 6 = .slice (some ⟨z, 0, none⟩) 1 1 ∧ w'.heap[z]? = some (.cells X 28 (0, 0))) ∧ w'.ownsRow 0 28 41 ov N NL ∧ Fs (S1 q ov) W9 w' from hR)
    have v6 := (frame_at2 (us := us) hl (show (paT[36]?).join = some 6 from rfl)).trans e6
    generalize frame paT a0 us = fr at *
    exact app1_J (R := fun v w'' => (True ∧ Below 0 w' w'') ∧ apR W9 q bx 1 79 28 41 H X ov N NL 2 (upd us 7 v) w'') (.tmp 34) (.tmp 36) 30 28 41 80 rfl Try.underlying30 _ _ I0.out I1.out I2.out I3.out ZS.out (by decide) (by decide) _ _ _ (eval_tmp v4) a3 HN.out z X (eval_tmp v6) hz SX.out HX1.out fun g' c' w'' h6 h2 h3 => ⟨⟨trivial, ⟨h3.os, h3.tape, h3.output, h3.size, fun q hq => absurd hq (Nat.not_lt_zero q)⟩⟩, g', c', upd_same _ _ _, (h3.block _ (Array.getElem?_eq_some_iff.1 a1).1 (fun e => TN.out e.symm)).trans a1, h6.imp id (fun e => by rw [e]; exact a4.size), h2, a4.trans (fs_grown h3)⟩
  · refine stepE_val [0] (by kernel_rfl) (by decide) (by decide) rfl fun us w' hB hG hV => ?_
    have e0 : us 0 = .pointer (some ⟨q, 0, none⟩) := hV 0 (by simp)
    have v0 := (frame_at2 (us := us) hl (show (paT[30]?).join = some 0 from rfl)).trans e0
    generalize frame paT a0 us = fr at *
    exact val_C (v := .pointer (some ⟨q, 0, none⟩)) (w' := w') (by go_simp) (Below.refl _ _) rfl
  · refine stepE_val [8] (by kernel_rfl) (by decide) (by decide) rfl fun us w' hB hG hV => ?_
    have e8 : us 8 = .pointer (some ⟨q, 0, none⟩) := hV 8 (by simp)
    have v8 := (frame_at2 (us := us) hl (show (paT[38]?).join = some 8 from rfl)).trans e8
    generalize frame paT a0 us = fr at *
    exact val_C (v := .pointer (some ⟨q, 1, none⟩)) (w' := w') (by go_simp) (Below.refl _ _) rfl
  · refine stepE_chain 2 rfl (by decide) [9] (by kernel_rfl) (by decide) rfl fun us w' hB hG hV hR => ?_
    have e9 : us 9 = .pointer (some ⟨q, 1, none⟩) := hV 9 (by simp)
    have v9 := (frame_at2 (us := us) hl (show (paT[39]?).join = some 9 from rfl)).trans e9
    obtain ⟨g', c', e7, a1, a2, a3, a4⟩ := (show ∃ g' c', us 7 = .slice (some ⟨g', 0, none⟩) (N + 1) c' ∧ w'.heap[q]? = some (.cells H 79 (0, 0)) ∧ (Value.ownBlock ov = some g' ∨ W9.heap.size ≤ g') ∧ w'.ownsRow 0 28 41 (.slice (some ⟨g', 0, none⟩) (N + 1) c') (N + 1) (NL ++ Array.toList X) ∧ Fs (S1 q ov) W9 w' from hR)
    have v7 := (frame_at2 (us := us) hl (show (paT[37]?).join = some 7 from rfl)).trans e7
    have hc : w'.cell? ⟨q, 1, none⟩ = some (ov) := (cell_of_row w' q 1 _ _ (0, 0) a1).trans HH.out
    have hf : w'.frozen? ⟨q, 1, none⟩ = false := frozen_of_row w' q 1 _ _ a1
    have hgt : g' ≠ q := fun e => by
      rcases a3.2 with ⟨e9, -⟩ | ⟨g9, cap9, cur9, e9, -, hh9, -⟩
      · cases e9
      · injection e9 with e9 _ _
        injection e9 with e9
        injection e9 with e9
        rw [← e9, e, a1] at hh9
        injection hh9 with hh9
        injection hh9 with _ hh9 _
        exact absurd hh9 (by decide)
    generalize frame paT a0 us = fr at *
    exact free_skip (w' := w'.setCell ⟨q, 1, none⟩ (.slice (some ⟨g', 0, none⟩) (N + 1) c')) (by go_simp) ⟨undef, rfl, ⟨trivial, (Below.refl 0 w').setCell (p := ⟨q, 1, none⟩) (Nat.zero_le _) _⟩, g', c', heap_setCell_same w' q 1 _ _ _ a1, a2, own_row_same a3 (fun g hg => Below.heap_setCell _ _ _ _ (by show g ≠ q; have e := Option.some.inj hg; exact fun e2 => hgt ((show g' = g from e).trans e2))), a4.trans (fs_but ((But.refl w').setCell 1 _) (.inl rfl))⟩
  · intro us wa hB2 hG hV hR
    have HR9 := Lib.hid (show ∃ g' c', wa.heap[q]? = some (.cells (H.setIfInBounds 1 (.slice (some ⟨g', 0, none⟩) (N + 1) c')) 79 (0, 0)) ∧ (Value.ownBlock ov = some g' ∨ W9.heap.size ≤ g') ∧ wa.ownsRow 0 28 41 (.slice (some ⟨g', 0, none⟩) (N + 1) c') (N + 1) (NL ++ Array.toList X) ∧ Fs (S1 q ov) W9 wa from hR)
    subst ha0
    simp only [frame, paT, fill]
    clear hV hG hl k0 k3 hR hB2
    obtain ⟨g', c', r1, r2, r3, r4⟩ := HR9.out
    have eH : H.setIfInBounds 1 (.slice (some ⟨g', 0, none⟩) (N + 1) c') = #[.int .i64 began, .slice (some ⟨g', 0, none⟩) (N + 1) c'] := by rw [EH.out]; rfl
    rw [eH] at r1
    have RA := Lib.hid r1
    have HR2 := Lib.hid r2
    have HR3 := Lib.hid r3
    have HR4 := Lib.hid r4
    have c1a : wa.cell? ⟨q, 1, none⟩ = some (.slice (some ⟨g', 0, none⟩) (N + 1) c') := cell_of_row wa q 1 _ _ (0, 0) r1
    have HLE := Lib.hid (show (es ++ [(⟨p, A3, n, c3, xs⟩ : Pe)]).length = N + 1 by rw [List.length_append, EN.out]; rfl)
    have OK9 := Lib.hid (show OwnK wa 0 (.slice (some ⟨g', 0, none⟩) (N + 1) c') (es ++ [⟨p, A3, n, c3, xs⟩]) by
      unfold OwnK
      rw [HLE.out, flatK_append, ← ENL.out]
      have e : flatK [(⟨p, A3, n, c3, xs⟩ : Pe)] = X.toList := by rw [EX.out]; unfold flatK; simp [pktV, Pe.cells]
      rw [e]
      exact r3)
    have SO := Lib.hid (sort_any g' c' (N + 1) (es ++ [⟨p, A3, n, c3, xs⟩]) wa OK9.out HLE.out (fun e he => by
      rcases List.mem_append.1 he with h | h
      · exact OKS.out e h
      · obtain rfl := List.mem_singleton.1 h; exact HOK.out) (by have := HN64.out; omega))
    clear r1 r2 r3 r4 eH HR9
    go_wp2_with (go_at_call 46; refine SO.out.mono ?_; rintro e wb ⟨rfl, es', hp, hs, hO, hg⟩
                 have HP := Lib.hid hp
                 have HS := Lib.hid hs
                 have HO := Lib.hid hO
                 have HG := Lib.hid hg
                 clear hp hs hO hg)
    go_ret
    have hgq : g' ≠ q := fun e => by
      rcases OK9.out.2 with ⟨e9, -⟩ | ⟨g9, cap9, cur9, e9, -, hh9, -⟩
      · cases e9
      · injection e9 with e9 _ _
        injection e9 with e9
        injection e9 with e9
        rw [← e9, e, RA.out] at hh9
        injection hh9 with hh9
        injection hh9 with _ hh9 _
        exact absurd hh9 (by decide)
    have hbs : w.heap.size ≤ W9.heap.size := HB9.out.size
    have hO9 : memC.Own .u8 5 wa w.heap.size (.slice A3 n c3) xs := by
      refine memC.Own.less (B := w.heap.size) (HO9.out.keep fun g g1 g2 => HR4.out.block g g2 ?_) (by have := HW3.out; omega)
      rintro (e | e)
      · have := HQL.out; have := HW3.out; omega
      · have := OVL.out g e; have := HW3.out; omega
    refine ⟨rfl, g', c', A3, c3, es', ?_, ?_, ?_, HP.out, HS.out, HO.out, own_grownK hO9 OK9.out HG.out, G3c.out, ?_⟩
    · exact (HG.out.block q (Array.getElem?_eq_some_iff.1 RA.out).1 (fun e => hgq (Option.some.inj e).symm)).trans RA.out
    · rcases HR2.out with h | h
      · exact .inl (by rw [← OVE.out]; exact h)
      · exact .inr (Nat.le_trans hbs h)
    · rcases HO.out.2 with ⟨e9, -⟩ | ⟨g9, cap9, cur9, e9, -, hh9, -⟩
      · cases e9
      · injection e9 with e9 _ _
        injection e9 with e9
        injection e9 with e9
        rw [e9]; exact (Array.getElem?_eq_some_iff.1 hh9).1
    · have f1 : Fs (S1 q v) w W9 := Fs.below HB9.out
      have f2 : Fs (S1 q v) W9 wa := by rw [← OVE.out]; exact HR4.out
      have f3 := f1.trans f2
      refine ⟨HG.out.os.trans f3.os, HG.out.tape.trans f3.tape, HG.out.output.trans f3.output, Nat.le_trans f3.size HG.out.size, fun k hk hn => (HG.out.block k (Nat.lt_of_lt_of_le hk f3.size) fun e => ?_).trans (f3.block k hk hn)⟩
      have e := Option.some.inj e
      subst e
      rcases HR2.out with h | h
      · exact hn (.inr (by rw [← OVE.out]; exact h))
      · omega
end Go.Proofs.Ytcnnpfjommiafaa.fgC

/-
  slices.Concat of some loads; the packet that a piece and all the loads make.
-/
namespace Go.Proofs.Ytcnnpfjommiafaa.fgC
open Go.ChangeShapes Go.WideShapes Go.ChangeAt Go.RowKit
open Go.Proofs.Ytcnnpfjommiafaa.memC Go.Proofs.Ytcnnpfjommiafaa.genC Go.Proofs.Ytcnnpfjommiafaa.butC Go.Proofs.Ytcnnpfjommiafaa.freeC Go.Proofs.Ytcnnpfjommiafaa.adC
open Go.Proofs.Ytcnnpfjommiafaa.pkC (Pkt pktL pktV pktT adrC)
open Go.Proofs.Ytcnnpfjommiafaa.partsC (Part nsum nsum_append nsum_snoc nsum_take catL catL_snoc)
set_option linter.unusedVariables false
/-- loads that lie in a row -/
structure PartsK (w : World) (B : Nat) (P : Option Addr) (ps : List Part) : Prop where
  at_ : 0 < ps.length → ∃ b o, P = some ⟨b, o, none⟩ ∧ b < B ∧ ∀ i (h : i < ps.length), w.cell? ⟨b, o + i, none⟩ = some (.slice ps[i].A ps[i].n ps[i].c)
  all : ∀ p ∈ ps, Nums .u8 w B p.A p.n p.bs ∧ p.n ≤ 100000
theorem PartsK.cell {w : World} {B : Nat} {P : Option Addr} {ps : List Part} (h : PartsK w B P ps) {i : Nat} (hi : i < ps.length) :
    ∃ b o, P = some ⟨b, o, none⟩ ∧ b < B ∧ w.cell? ⟨b, o + i, none⟩ = some (.slice ps[i].A ps[i].n ps[i].c) ∧ (Nums .u8 w B ps[i].A ps[i].n ps[i].bs ∧ ps[i].n ≤ 100000) := by
  obtain ⟨b, o, e, hb, hc⟩ := h.at_ (by omega)
  exact ⟨b, o, e, hb, hc i hi, h.all _ (List.getElem_mem _)⟩
theorem PartsK.below {w w' : World} {B B' : Nat} {P : Option Addr} {ps : List Part} (h : PartsK w B P ps) (hb : Below B w w') (hB : B ≤ B') : PartsK w' B' P ps :=
  ⟨fun hl => by
    obtain ⟨b, o, e1, hbb, hc⟩ := h.at_ hl
    exact ⟨b, o, e1, by omega, fun i hi => (hb.cell (p := ⟨b, o + i, none⟩) hbb).trans (hc i hi)⟩, fun p hp => ⟨((h.all p hp).1.below hb).more hB, (h.all p hp).2⟩⟩
theorem catK_len {w : World} {B : Nat} : ∀ (ps : List Part), (∀ p ∈ ps, Nums .u8 w B p.A p.n p.bs ∧ p.n ≤ 100000) → (catL ps).length = nsum ps
  | [], _ => rfl
  | p :: r, h => by
    have h1 := (h p (by simp)).1.len
    have h2 := catK_len r fun q hq => h q (by simp [hq])
    show (p.bs ++ catL r).length = _
    rw [List.length_append, h1, h2]; rfl
theorem grow_all (n : Nat) (w : World) (h1 : n ≤ 1000000) :
    Calls Try.prog 57 #[.slice none 0 0, .int .i64 n] w (fun e w' => ∃ v, e = .returned v ∧ memC.Own .u8 5 w' w.heap.size v [] ∧ Below w.heap.size w w') := by
  rcases Nat.eq_zero_or_pos n with rfl | h0
  · go_enter Try.func57, Try.ntmps57
    go_wp2
    go_ret
    exact ⟨_, rfl, memC.Own.nil _ _, Below.refl _ _⟩
  · refine (conC.grow_any n w h0 h1).mono ?_
    rintro e w' ⟨c, rfl, g1, g2, O, B⟩
    exact ⟨_, rfl, O, B⟩
set_option maxRecDepth 100000 in
set_option maxHeartbeats 1000000 in
theorem cat_all (P : Option Addr) (m c n : Nat) (ps : List Part) (w : World) (hp : PartsK w w.heap.size P ps) (hm : m ≤ 100) (hl : ps.length = m) (hn : nsum ps = n) (h1 : n ≤ 1000000) :
    Calls Try.prog 40 #[.slice P m c] w (conC.CatRet w (catL ps) n) := by
  have HP := Lib.hid hp
  have HL := Lib.hid hl
  have HN := Lib.hid hn
  have CL := Lib.hid (catK_len ps hp.all)
  obtain ⟨i0, hi0, hz0, hz1, hz2⟩ := info_parts conC.byte_info
  have T1 := Lib.hid hi0; have T2 := Lib.hid hz0; have T3 := Lib.hid hz1; have T4 := Lib.hid hz2
  have hG := Lib.hid (grow_all n w h1)
  clear hp hl hn hi0 hz0 hz1 hz2
  go_enter Try.func40, Try.ntmps40
  go_wp2_with fail
  go_loop [3, 11] (fun t i => ∃ k : Nat, k ≤ m ∧ i = .int .i64 k ∧ t = .int .i64 (nsum (ps.take k) : Nat)) (fun _ i => m - (intOf i).toNat)
  case atStart => exact ⟨0, Nat.zero_le _, rfl, rfl⟩
  case round =>
    obtain ⟨k, hk, rfl, rfl⟩ := hrel
    have hts := nsum_take ps k
    rw [HN.out] at hts
    by_cases hlt : k < m
    · obtain ⟨b, o, rfl, hbb, hcell, hpart⟩ := HP.out.cell (i := k) (by rw [HL.out]; exact hlt)
      have hkl : k < ps.length := by rw [HL.out]; exact hlt
      have HT := Lib.hid (nsum_snoc ps k hkl)
      generalize ps[k] = p at *
      obtain ⟨A, q, c', bs⟩ := p
      have hq := hpart.2
      simp only at hcell HT hq
      generalize nsum (ps.take k) = s at *
      go_wp2_with fail
      go_round
      case rel => exact ⟨k + 1, by omega, by go_num, by rw [HT.out]; go_num⟩
      case measure => simp [intOf]; omega
    · have e : k = m := by omega
      subst e
      have e2 : ps.take k = ps := List.take_of_length_le (by rw [HL.out]; omega)
      rw [e2, HN.out]
      clear hts e2
      go_wp2_with (go_at_call 57; ((with_reducible refine hG.out.mono ?_); rintro e w1 ⟨v1, rfl, O1, B1⟩))
      go_loopw [6, 27] (fun v i wr => ∃ j : Nat, j ≤ k ∧ i = .int .i64 j ∧ (memC.Own .u8 5 wr w.heap.size v (catL (ps.take j)) ∧ Below w.heap.size w wr)) (fun _ i _ => k - (intOf i).toNat)
      case atStart => exact ⟨0, Nat.zero_le _, rfl, O1, B1⟩
      case round =>
        obtain ⟨j, hj, rfl, O, Bw⟩ := hrel
        by_cases hlt : j < k
        · obtain ⟨b, o, rfl, hbb, hcell, hpart⟩ := HP.out.cell (i := j) (by rw [HL.out]; exact hlt)
          have hkl : j < ps.length := by rw [HL.out]; exact hlt
          have HT := Lib.hid (catL_snoc ps j hkl)
          have HS := Lib.hid (nsum_snoc ps j hkl)
          have hle := nsum_take ps (j + 1)
          have LC := Lib.hid (catK_len (ps.take j) (fun p hp => HP.out.all p (List.mem_of_mem_take hp)))
          rw [HS.out, HN.out] at hle
          generalize ps[j] = p at *
          obtain ⟨A, q, c', bs⟩ := p
          have hq := hpart.2
          simp only at hcell HT hq HS hle
          have cc : wr.cell? ⟨b, o + j, none⟩ = some (.slice A q c') := (Bw.cell (p := ⟨b, o + j, none⟩) hbb).trans hcell
          have NB := hpart.1.below Bw
          simp only at NB
          clear hcell
          go_wp2_with (first
            | (at_builtin; (refine wpList_app _ rfl (.tmp 31) (.tmp 32) _ rfl 5 i0 _ 1 Try.underlying26 T1.out T2.out T3.out T4.out rfl w.heap.size _ (catL (ps.take j)) rfl O w.heap.size A q c' bs rfl NB (by rw [LC.out]; simp only [maxLen]; omega) (by rw [LC.out]; omega) Bw.size ?_)
               intro v' w' O' hg'
               have Bn : Below w.heap.size w w' := Below.grown Bw hg' Bw.size fun g hg => (O.blk g hg).1
               clear hg'))
          go_roundw
          case rel => exact ⟨j + 1, by omega, by go_num, by rw [HT.out]; exact ⟨O', Bn⟩⟩
          case measure => simp [intOf]; omega
        · have e : j = k := by omega
          subst e
          have e2 : ps.take j = ps := List.take_of_length_le (by rw [HL.out]; omega)
          rw [e2] at O
          obtain ⟨A', c', ev, h1', h2', N⟩ := O.form
          rw [CL.out, HN.out] at ev h1'
          subst ev
          clear e2 N
          go_wp2_with fail
          go_ret
          exact ⟨A', c', rfl, h1', h2', O, Bw⟩
/-- the packet that comes out, but for its load -/
def joinK (p : Pkt) : Pkt := if p.s = true then { p with more := false, whole := true, id := 0 } else { p with more := false }
def JoinRet (w : World) (p : Pkt) (T : List Int) (k : Nat) (e : Ending) (w' : World) : Prop :=
  ∃ A c, e = .returned (.agg (pktV (joinK p) A k c)) ∧ memC.Own .u8 5 w' w.heap.size (.slice A k c) T ∧ k ≤ c ∧ c ≤ maxLen ∧ Below w.heap.size w w'
theorem zPkt_all : (pktV zPkt none 0 0).all (·.oneCell') = true := pkt_one _ _ _ _
set_option maxRecDepth 100000 in
set_option maxHeartbeats 4000000 in
theorem joined_any (p : Pkt) (A : Option Addr) (n c : Nat) (P : Option Addr) (m cP k : Nat) (ps : List Part) (w : World) (hp : p.Ok) (hps : PartsK w w.heap.size P ps) (hm : m ≤ 100) (hl : ps.length = m) (hk : nsum ps = k) (h1 : k ≤ 1000000) :
    Calls Try.prog 29 #[.agg (pktV p A n c), .slice P m cP] w (JoinRet w p (catL ps) k) := by
  obtain ⟨W, hW⟩ : ∃ W, W = (w.alloc (.cells (pktV p A n c) 28)).alloc (.cells (pktV zPkt none 0 0) 28) := ⟨_, rfl⟩
  have R0 := Lib.hid (show W.heap[w.heap.size]? = some (.cells (pktV p A n c) 28 (0, 0)) by rw [hW]; exact (two_rows w _ _ _ _).1)
  have R1 := Lib.hid (show W.heap[w.heap.size + 1]? = some (.cells (pktV zPkt none 0 0) 28 (0, 0)) by rw [hW]; exact (two_rows w _ _ _ _).2)
  have HB := Lib.hid (show Below w.heap.size w W by rw [hW]; exact (alloc_below _ _).trans ((alloc_below _ _).mono (alloc_below _ _).size))
  have hWs : W.heap.size = w.heap.size + 2 := by rw [hW]; simp
  have CT := Lib.hid (cat_all P m cP k ps W (hps.below HB.out HB.out.size) hm hl hk h1)
  have Q1 := Lib.hid (show Qb w W w.heap.size p A n c from ⟨R0.out, HB.out, Nat.le_refl _, hp⟩)
  have HOK := Lib.hid hp
  have hok2 : ∀ b : Bool, Pkt.Ok { p with more := b } := fun b => ⟨hp.la, hp.lb, hp.ya, hp.yb, hp.proto, hp.hops, hp.id, hp.off⟩
  have KZ : (zeroValue 28).run Try.prog (w.alloc (.cells (pktV p A n c) 28)) = .ok (.agg (pktV zPkt none 0 0)) (w.alloc (.cells (pktV p A n c) 28)) := zeroPktK _
  have HWS := Lib.hid hWs
  have OK2 := Lib.hid hok2
  generalize catL ps = T at *
  clear hps hm hl hk h1 hp hok2 hWs
  obtain ⟨J, hJ⟩ : ∃ J, J = joinK p := ⟨_, rfl⟩
  go_enter Try.func29, Try.ntmps29
  go_upto_region 1 with fail
  rw [← hW]
  clear hW KZ
  go_upto_region 2 with (go_at_call 40; refine CT.out.mono ?_; rintro e W2 ⟨A2, c2, rfl, g1, g2, O2, B2⟩
                         have Q2 := Lib.hid (Q1.out.below B2)
                         have c40 := Q2.out.cell 6 _ rfl
                         have f40 := Q2.out.frozen 6
                         have c38 := Q2.out.cell 4 _ rfl
                         have f38 := Q2.out.frozen 4
                         have HO2 := Lib.hid O2
                         have GC := Lib.hid (show k ≤ c2 ∧ c2 ≤ maxLen from ⟨g1, g2⟩)
                         have RZ2 := Lib.hid ((B2.block _ (Array.getElem?_eq_some_iff.1 R1.out).1).trans R1.out)
                         clear O2 g1 g2 B2)
  clear c40 f40 c38 f38
  obtain ⟨W3, hW3⟩ : ∃ q, q = (W2.setCell ⟨w.heap.size, 40, none⟩ (.slice A2 k c2)).setCell ⟨w.heap.size, 38, none⟩ (.bool false) := ⟨_, rfl⟩
  have Q3 := Lib.hid (show Qb w W3 w.heap.size { p with more := false } A2 k c2 by
    rw [hW3]
    exact Qb.set_ (p' := { p with more := false }) (Q2.out.set_ 6 (.slice A2 k c2) rfl ⟨rfl, rfl, rfl, rfl⟩ HOK.out) 4 (.bool false) rfl ⟨rfl, rfl, rfl, rfl⟩ (OK2.out false))
  have RZ3 := Lib.hid (show W3.heap[w.heap.size + 1]? = some (.cells (pktV zPkt none 0 0) 28 (0, 0)) by
    rw [hW3, Below.heap_setCell _ _ _ _ (by show w.heap.size + 1 ≠ w.heap.size; omega), Below.heap_setCell _ _ _ _ (by show w.heap.size + 1 ≠ w.heap.size; omega)]
    exact RZ2.out)
  have HO3 := Lib.hid (show memC.Own .u8 5 W3 W.heap.size (.slice A2 k c2) T by
    rw [hW3]
    refine memC.Own.keep (memC.Own.keep HO2.out fun g g1 _ => Below.heap_setCell _ _ _ _ (by show g ≠ w.heap.size; have := HWS.out; omega)) fun g g1 _ => Below.heap_setCell _ _ _ _ (by show g ≠ w.heap.size; have := HWS.out; omega))
  rw [← hW3]
  clear hW3 HO2 RZ2 Q2 CT
  have p0 := pkC.PkC.cell Q3.out.row (show (pktV { p with more := false } A2 k c2)[0]? = some (.bool p.s) from (pkC.pkC Q3.out.ok A2 k c2).src 0 _ rfl)
  cases hs : p.s
  · have HJ := Lib.hid (show joinK p = { p with more := false } by unfold joinK; rw [hs]; rfl)
    rw [hs] at p0
    obtain ⟨px, hpx⟩ : ∃ q, q = ({ p with more := false } : Pkt) := ⟨_, rfl⟩
    rw [← hpx] at Q3 HJ
    have IC := Lib.hid (pkt_info Q3.out.ok A2 k c2)
    have SC := Lib.hid (show (pktV zPkt none 0 0).size = (pktV px A2 k c2).size by rw [(pkC.pkC Q3.out.ok A2 k c2).size]; rfl)
    have ON := Lib.hid (pkt_one px A2 k c2)
    have RR := Lib.hid Q3.out.row
    clear hpx hs
    go_wp2_with (first
      | (refine wpList_load_row rfl 28 (.tmp 2) rfl (w.heap.size) rfl _ _ _ _ RR.out Try.underlying28 rfl IC.out ?_)
      | (refine wpList_store_row rfl 28 (.tmp 4) (.tmp 14) rfl (w.heap.size + 1) (pktV px A2 k c2) rfl rfl _ _ RZ3.out IC.out SC.out ON.out ?_))
    refine bodyPost_ret (v := .agg (pktV px A2 k c2)) (results_cell_row Try.results29 _ _ (w.heap.size + 1) _ _ _ _ (by rfl) (setRow_heap _ _ _ _ _ _ RZ3.out) Try.underlying28 rfl IC.out) rfl ⟨A2, c2, by rw [HJ.out], ?_, GC.out.1, GC.out.2, ?_⟩
    · exact (HO3.out.keep fun g g1 g2 => setRow_other _ _ _ _ (by have := HWS.out; omega)).less (by have := HWS.out; omega)
    · exact below_setRow Q3.out.bel (by omega) _
  · have HJ := Lib.hid (show joinK p = { p with more := false, whole := true, id := 0 } by unfold joinK; rw [hs]; rfl)
    rw [hs] at p0
    have c37 := Q3.out.cell 3 _ rfl
    have f37 := Q3.out.frozen 3
    have c36 := Q3.out.cell 2 _ rfl
    have f36 := Q3.out.frozen 2
    go_upto_region 4 with fail
    clear c37 f37 c36 f36 p0
    obtain ⟨px, hpx⟩ : ∃ q, q = ({ p with more := false, whole := true, id := 0 } : Pkt) := ⟨_, rfl⟩
    obtain ⟨W5, hW5⟩ : ∃ q, q = (W3.setCell ⟨w.heap.size, 37, none⟩ (.bool true)).setCell ⟨w.heap.size, 36, none⟩ (.int .u32 0) := ⟨_, rfl⟩
    have hp5 : Pkt.Ok { p with more := false, whole := true } := ⟨HOK.out.la, HOK.out.lb, HOK.out.ya, HOK.out.yb, HOK.out.proto, HOK.out.hops, HOK.out.id, HOK.out.off⟩
    have hp6 : Pkt.Ok { p with more := false, whole := true, id := 0 } := ⟨HOK.out.la, HOK.out.lb, HOK.out.ya, HOK.out.yb, HOK.out.proto, HOK.out.hops, (show (0 : Int) ≤ 0 ∧ (0 : Int) ≤ 4294967295 by decide), HOK.out.off⟩
    have Q5 := Lib.hid (show Qb w W5 w.heap.size px A2 k c2 by
      rw [hW5, hpx]
      exact Qb.set_ (p' := { p with more := false, whole := true, id := 0 }) (Qb.set_ (p' := { p with more := false, whole := true }) Q3.out 3 (.bool true) rfl ⟨rfl, rfl, rfl, rfl⟩ hp5) 2 (.int .u32 0) rfl ⟨rfl, rfl, rfl, rfl⟩ hp6)
    have RZ5 := Lib.hid (show W5.heap[w.heap.size + 1]? = some (.cells (pktV zPkt none 0 0) 28 (0, 0)) by
      rw [hW5, Below.heap_setCell _ _ _ _ (by show w.heap.size + 1 ≠ w.heap.size; omega), Below.heap_setCell _ _ _ _ (by show w.heap.size + 1 ≠ w.heap.size; omega)]
      exact RZ3.out)
    have HO5 := Lib.hid (show memC.Own .u8 5 W5 W.heap.size (.slice A2 k c2) T by
      rw [hW5]
      refine memC.Own.keep (memC.Own.keep HO3.out fun g g1 _ => Below.heap_setCell _ _ _ _ (by show g ≠ w.heap.size; have := HWS.out; omega)) fun g g1 _ => Below.heap_setCell _ _ _ _ (by show g ≠ w.heap.size; have := HWS.out; omega))
    rw [← hW5]
    rw [← hpx] at HJ
    clear hW5 hp5 hp6 hpx HO3 RZ3 Q3 hs
    have IC := Lib.hid (pkt_info Q5.out.ok A2 k c2)
    have SC := Lib.hid (show (pktV zPkt none 0 0).size = (pktV px A2 k c2).size by rw [(pkC.pkC Q5.out.ok A2 k c2).size]; rfl)
    have ON := Lib.hid (pkt_one px A2 k c2)
    have RR := Lib.hid Q5.out.row
    go_wp2_with (first
      | (refine wpList_load_row rfl 28 (.tmp 2) rfl (w.heap.size) rfl _ _ _ _ RR.out Try.underlying28 rfl IC.out ?_)
      | (refine wpList_store_row rfl 28 (.tmp 4) (.tmp 14) rfl (w.heap.size + 1) (pktV px A2 k c2) rfl rfl _ _ RZ5.out IC.out SC.out ON.out ?_))
    refine bodyPost_ret (v := .agg (pktV px A2 k c2)) (results_cell_row Try.results29 _ _ (w.heap.size + 1) _ _ _ _ (by rfl) (setRow_heap _ _ _ _ _ _ RZ5.out) Try.underlying28 rfl IC.out) rfl ⟨A2, c2, by rw [HJ.out], ?_, GC.out.1, GC.out.2, ?_⟩
    · exact (HO5.out.keep fun g g1 g2 => setRow_other _ _ _ _ (by have := HWS.out; omega)).less (by have := HWS.out; omega)
    · exact below_setRow Q5.out.bel (by omega) _
end Go.Proofs.Ytcnnpfjommiafaa.fgC
