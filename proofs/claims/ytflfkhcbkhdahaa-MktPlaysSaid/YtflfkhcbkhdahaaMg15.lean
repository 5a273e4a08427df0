/-
  1 texts of a proof, joined.
-/
import Derived.Test.YtflfkhcbkhdahaaMg14
import Derived.Test.YtflfkhcbkhdahaaMg3

/-
  Whether two key tuples meet, by the document.
-/
namespace Go.Proofs.Ytflfkhcbkhdahaa.mkC
open Go.ChangeShapes Go.WideShapes Go.ChangeAt Go.RowKit
open Go.Proofs.Ytflfkhcbkhdahaa.memC Go.Proofs.Ytflfkhcbkhdahaa.genC Go.Proofs.Ytflfkhcbkhdahaa.butC Go.Proofs.Ytflfkhcbkhdahaa.freeC Go.Proofs.Ytflfkhcbkhdahaa.adC Go.Proofs.Ytflfkhcbkhdahaa.rtC
set_option linter.unusedVariables false
theorem setR_belowM {w w1 : World} {b g : Nat} (h : Below b w w1) (hg : b ≤ g) (cs : Array Value) : Below b w (w1.setRow g cs) :=
  ⟨h.os, h.tape, h.output, by simpa using h.size, fun k hk => by rw [setRow_other _ _ _ _ (by omega)]; exact h.block k hk⟩
/-- two new variables of two values, made and put in whatever order -/
structure MJ (W : World) (CA CB ZV : Array Value) (p q : Nat) (m : Nat → Bool) (us : Nat → Value) (w : World) : Prop where
  bel : Below W.heap.size W w
  v0 : m 0 = true → us 0 = .agg CA
  v1 : m 1 = true → us 1 = .agg CB
  v2 : m 2 = true → us 2 = .pointer (some ⟨p, 0, none⟩) ∧ W.heap.size ≤ p
  v3 : m 3 = true → us 3 = .pointer (some ⟨q, 0, none⟩) ∧ W.heap.size ≤ q
  ne : m 2 = true → m 3 = true → p ≠ q
  r2 : m 2 = true → w.heap[p]? = some (.cells (cond (m 4) CA ZV) 41 (0, 0))
  r3 : m 3 = true → w.heap[q]? = some (.cells (cond (m 5) CB ZV) 41 (0, 0))
  o4 : m 4 = true → m 2 = true ∧ m 3 = true
  o5 : m 5 = true → m 2 = true ∧ m 3 = true
/-- two values put into two variables -/
structure SJ (S : Nat) (W : World) (CA CB : Array Value) (p q : Nat) (m : Nat → Bool) (us : Nat → Value) (w : World) : Prop where
  bel : Below S W w
  v0 : m 0 = true → us 0 = .agg CB
  v1 : m 1 = true → us 1 = .agg CA
  r2 : w.heap[p]? = some (.cells (cond (m 2) CB CA) 41 (0, 0))
  r3 : w.heap[q]? = some (.cells (cond (m 3) CA CB) 41 (0, 0))
def mtA : List (Option Nat) := [none, none, none, none, none, some 2, some 3, some 0, some 1, none, none, none, none, none, none, none, none, none, none, none, none, none, none, none, none, none, none, none, none, none, none, none, none, none, none, none, none, none, none, none, none, none, none, none, none, none, none, none, none, none, none, none, none, none, none, none]
def mtB : List (Option Nat) := [none, none, none, none, none, none, none, none, none, none, none, none, none, none, some 0, some 1, none, none, none, none, none, none, none, none, none, none, none, none, none, none, none, none, none, none, none, none, none, none, none, none, none, none, none, none, none, none, none, none, none, none, none, none, none, none, none, none]
theorem meetB_eq (a : Kt) (m : Nat) (b : Kt) (m' : Nat) : meetB a m b m' = (mayB a m && (mayB b m' && ((if a.len > b.len then liesK a b else liesK b a) && ((portB a.lp b.lp || decide (b.lp = 0)) && (portB a.rp b.rp || decide (b.rp = 0)))))) := rfl
set_option maxRecDepth 100000 in
set_option maxHeartbeats 8000000 in
theorem rmeet_any (a b : Kt) (A B : Option Addr) (n c m d : Nat) (w : World) (ha : a.Ok) (hb : b.Ok) : Calls Try.prog 36 #[.agg (ktV a A n c), .agg (ktV b B m d)] w (Ret w (.bool (meetB a n b m))) := by
  have hzv := zeroRk
  have e1 : (w.alloc (.cells (ktV a A n c) 41)).heap.size = w.heap.size + 1 := alloc_size _ _
  have e2 : ((w.alloc (.cells (ktV a A n c) 41)).alloc (.cells (ktV b B m d) 41)).heap.size = w.heap.size + 2 := by rw [alloc_size, e1]
  obtain ⟨W, hW⟩ : ∃ W, W = (w.alloc (.cells (ktV a A n c) 41)).alloc (.cells (ktV b B m d) 41) := ⟨_, rfl⟩
  have R0 := Lib.hid (show W.heap[w.heap.size]? = some (.cells (ktV a A n c) 41 (0, 0)) by rw [hW, Below.block (alloc_below _ _) _ (by rw [e1]; omega)]; exact heap_alloc_new w _)
  have R1 := Lib.hid (show W.heap[w.heap.size + 1]? = some (.cells (ktV b B m d) 41 (0, 0)) by rw [hW, ← e1]; exact heap_alloc_new _ _)
  have HB := Lib.hid (show Below w.heap.size w W by rw [hW]; exact ((Below.refl _ _).alloc (Nat.le_refl _) _).alloc (by simp) _)
  have SW := Lib.hid (show w.heap.size + 2 = W.heap.size by rw [hW, e2])
  have KA := Lib.hid (fun (w' : World) (h : Below W.heap.size W w') => (show w'.heap[w.heap.size]? = some (.cells (ktV a A n c) 41 (0, 0)) from (h.block _ (lt_of_row R0.out)).trans R0.out))
  have KB := Lib.hid (fun (w' : World) (h : Below W.heap.size W w') => (show w'.heap[w.heap.size + 1]? = some (.cells (ktV b B m d) 41 (0, 0)) from (h.block _ (lt_of_row R1.out)).trans R1.out))
  have C19 := Lib.hid (fun w' h => kt_cell (KA.out w' h) (kt_lp ha))
  have C20 := Lib.hid (fun w' h => kt_cell (KA.out w' h) (kt_rp ha))
  have D19 := Lib.hid (fun w' h => kt_cell (KB.out w' h) (kt_lp hb))
  have D20 := Lib.hid (fun w' h => kt_cell (KB.out w' h) (kt_rp hb))
  have EA := Lib.hid (fun (w' : World) (g : Nat) (h : w'.heap[g]? = some (.cells (ktV a A n c) 41 (0, 0))) => (show w'.cell? ⟨g, 18, none⟩ = some (.int .i64 a.len) from kt_cell h (kt_len ha)))
  have EB := Lib.hid (fun (w' : World) (g : Nat) (h : w'.heap[g]? = some (.cells (ktV b B m d) 41 (0, 0))) => (show w'.cell? ⟨g, 18, none⟩ = some (.int .i64 b.len) from kt_cell h (kt_len hb)))
  have PA := Lib.hid (fun (w' : World) (g : Nat) (h : w'.heap[g]? = some (.cells (ktV a A n c) 41 (0, 0))) => (show ∀ j v, (adrK a.s a.a)[j]? = some v → w'.cell? ⟨g, 1 + j, none⟩ = some v from fun j v hv => kt_cell h (kt_src hv)))
  have PB := Lib.hid (fun (w' : World) (g : Nat) (h : w'.heap[g]? = some (.cells (ktV b B m d) 41 (0, 0))) => (show ∀ j v, (adrK b.s b.a)[j]? = some v → w'.cell? ⟨g, 1 + j, none⟩ = some v from fun j v hv => kt_cell h (kt_src hv)))
  have IA := Lib.hid (adrKi a.s ha.la)
  have IB := Lib.hid (adrKi b.s hb.la)
  have IKA := Lib.hid (rkV_info (A := A) (m := n) (c := c) ha)
  have IKB := Lib.hid (rkV_info (A := B) (m := m) (c := d) hb)
  have SKA := Lib.hid (kt_zsize (A := A) (m := n) (c := c) ha)
  have SKB := Lib.hid (kt_zsize (A := B) (m := m) (c := d) hb)
  have OKA := Lib.hid (kt_ones (k := a) (A := A) (m := n) (c := c))
  have OKB := Lib.hid (kt_ones (k := b) (A := B) (m := m) (c := d))
  have SAB := Lib.hid (show (ktV a A n c).size = (ktV b B m d).size by rw [ktV_size ha, ktV_size hb])
  have MA := Lib.hid (fun w' => rmay_any a A n c w' ha)
  have MB := Lib.hid (fun w' => rmay_any b B m d w' hb)
  have LAB := Lib.hid (fun w' => (show Calls Try.prog 53 #[.agg (adrK a.s a.a).toArray, .agg (adrK b.s b.a).toArray, .int .i64 b.len] w' (Ret w' (.bool (liesK a b))) from rlies_any a.s b.s a.a b.a b.len w' ha.la hb.la ha.ya hb.ya))
  have LBA := Lib.hid (fun w' => (show Calls Try.prog 53 #[.agg (adrK b.s b.a).toArray, .agg (adrK a.s a.a).toArray, .int .i64 a.len] w' (Ret w' (.bool (liesK b a))) from rlies_any b.s a.s b.a a.a a.len w' hb.la ha.la hb.ya ha.ya))
  have P1 := Lib.hid (fun w' => port_any a.lp b.lp w')
  have P2 := Lib.hid (fun w' => port_any a.rp b.rp w')
  obtain ⟨V, hV⟩ : ∃ V, V = meetB a n b m := ⟨_, rfl⟩
  rw [← hV]
  rw [meetB_eq] at hV
  generalize mayB a n = ma at *
  generalize mayB b m = mb at *
  generalize liesK a b = lab at *
  generalize liesK b a = lba at *
  generalize portB a.lp b.lp = p1 at *
  generalize portB a.rp b.rp = p2 at *
  generalize ktV a A n c = CA at *
  generalize ktV b B m d = CB at *
  generalize ktV zKt none 0 0 = ZV at *
  generalize adrK a.s a.a = LA at *
  generalize adrK b.s b.a = LB at *
  generalize a.len = al at *
  generalize b.len = bl at *
  generalize a.lp = alp at *
  generalize b.lp = blp at *
  generalize a.rp = arp at *
  generalize b.rp = brp at *
  have HV := Lib.hid hV
  clear hV ha hb e1 e2
  go_enter Try.func36, Try.ntmps36
  go_upto_region 1 with fail
  rw [← hW]
  clear hW
  refine with_act fun a0 ha0 => ?_
  have hl : mtA.length = a0.tmps.size := by rw [ha0]; rfl
  have k2 : a0.tmps[2]?.getD undef = .pointer (some ⟨w.heap.size, 0, none⟩) := by rw [ha0]; rfl
  have k3 : a0.tmps[3]?.getD undef = .pointer (some ⟨w.heap.size + 1, 0, none⟩) := by rw [ha0]; rfl
  refine wp_region_J (by kernel_rfl) mtA (by kernel_rfl) (by kernel_rfl) hl (fun i => undef) (by rw [ha0]; rfl) (fun m us w' => ∃ p q, MJ W CA CB ZV p q m us w') ⟨0, 0, (Below.refl _ _).drew, (fun h => by cases h), (fun h => by cases h), (fun h => by cases h), (fun h => by cases h), (fun h => by cases h), (fun h => by cases h), (fun h => by cases h), (fun h => by cases h), (fun h => by cases h)⟩ ⟨?_, ?_, ?_, ?_, ?_, ?_, trivial⟩ ?_
  · refine stepJ [] (by kernel_rfl) rfl fun m us w' ⟨p, q, J⟩ hmi hm => ?_
    have o2 := (frame_old2 (us := us) (a := a0) (show (mtA[2]?).join = none from rfl)).trans k2
    have hc := KA.out w' J.bel
    generalize frame mtA a0 us = fr at *
    exact load_J (R := fun v w'' => ∃ p q, MJ W CA CB ZV p q (upd m 0 true) (upd us 0 v) w'') 41 2 rfl _ o2 _ CA (0, 0) _ hc Try.underlying41 rfl IKA.out ⟨p, q, J.bel, (fun _ => rfl), J.v1, J.v2, J.v3, J.ne, J.r2, J.r3, J.o4, J.o5⟩
  · refine stepJ [] (by kernel_rfl) rfl fun m us w' ⟨p, q, J⟩ hmi hm => ?_
    have o3 := (frame_old2 (us := us) (a := a0) (show (mtA[3]?).join = none from rfl)).trans k3
    have hc := KB.out w' J.bel
    generalize frame mtA a0 us = fr at *
    exact load_J (R := fun v w'' => ∃ p q, MJ W CA CB ZV p q (upd m 1 true) (upd us 1 v) w'') 41 3 rfl _ o3 _ CB (0, 0) _ hc Try.underlying41 rfl IKB.out ⟨p, q, J.bel, J.v0, (fun _ => rfl), J.v2, J.v3, J.ne, J.r2, J.r3, J.o4, J.o5⟩
  · refine stepJ [] (by kernel_rfl) rfl fun m us w' ⟨p, q, J⟩ hmi hm => ?_
    have h4 : m 4 = false := by cases e : m 4 with | false => rfl | true => (have := (J.o4 e).1; rw [hmi] at this; cases this)
    have h5 : m 5 = false := by cases e : m 5 with | false => rfl | true => (have := (J.o5 e).1; rw [hmi] at this; cases this)
    have hnew : (w'.alloc (.cells ZV 41)).heap[w'.heap.size]? = some (.cells (cond (m 4) CA ZV) 41 (0, 0)) := by rw [h4]; exact heap_alloc_new _ _
    have n4 : m 4 = true → m 2 = true ∧ m 3 = true := J.o4
    generalize frame mtA a0 us = fr at *
    exact val_J (R := fun v w'' => ∃ p q, MJ W CA CB ZV p q (upd m 2 true) (upd us 2 v) w'') (v := .pointer (some ⟨w'.heap.size, 0, none⟩)) (w' := w'.alloc (.cells ZV 41)) (by have hz := hzv; go_simp) ⟨w'.heap.size, q, (J.bel.trans ((alloc_below _ _).mono J.bel.size)), J.v0, J.v1, (fun _ => ⟨rfl, J.bel.size⟩), J.v3, (fun _ h3 e => by have := lt_of_row (J.r3 h3); omega), (fun _ => hnew), (fun h3 => ((alloc_below _ _).block _ (lt_of_row (J.r3 h3))).trans (J.r3 h3)), (fun h => by have h' : m 4 = true := h; rw [h4] at h'; cases h'), (fun h => by have h' : m 5 = true := h; rw [h5] at h'; cases h')⟩
  · refine stepJ [] (by kernel_rfl) rfl fun m us w' ⟨p, q, J⟩ hmi hm => ?_
    have h4 : m 4 = false := by cases e : m 4 with | false => rfl | true => (have := (J.o4 e).2; rw [hmi] at this; cases this)
    have h5 : m 5 = false := by cases e : m 5 with | false => rfl | true => (have := (J.o5 e).2; rw [hmi] at this; cases this)
    have hnew : (w'.alloc (.cells ZV 41)).heap[w'.heap.size]? = some (.cells (cond (m 5) CB ZV) 41 (0, 0)) := by rw [h5]; exact heap_alloc_new _ _
    generalize frame mtA a0 us = fr at *
    exact val_J (R := fun v w'' => ∃ p q, MJ W CA CB ZV p q (upd m 3 true) (upd us 3 v) w'') (v := .pointer (some ⟨w'.heap.size, 0, none⟩)) (w' := w'.alloc (.cells ZV 41)) (by have hz := hzv; go_simp) ⟨p, w'.heap.size, (J.bel.trans ((alloc_below _ _).mono J.bel.size)), J.v0, J.v1, J.v2, (fun _ => ⟨rfl, J.bel.size⟩), (fun h2 _ e => by have := lt_of_row (J.r2 h2); omega), (fun h2 => ((alloc_below _ _).block _ (lt_of_row (J.r2 h2))).trans (J.r2 h2)), (fun _ => hnew), (fun h => by have h' : m 4 = true := h; rw [h4] at h'; cases h'), (fun h => by have h' : m 5 = true := h; rw [h5] at h'; cases h')⟩
  · refine stepJ [2, 0, 3] (by kernel_rfl) rfl fun m us w' ⟨p, q, J⟩ hmi hm => ?_
    have m2 := hm 2 (by simp)
    have m3 := hm 3 (by simp)
    obtain ⟨e2, hp⟩ := J.v2 m2
    have v5 := (frame_at2 (us := us) hl (show (mtA[5]?).join = some 2 from rfl)).trans e2
    have v7 := (frame_at2 (us := us) hl (show (mtA[7]?).join = some 0 from rfl)).trans (J.v0 (hm 0 (by simp)))
    have hr := J.r2 m2
    rw [hmi] at hr
    have hr : w'.heap[p]? = some (.cells ZV 41 (0, 0)) := hr
    generalize frame mtA a0 us = fr at *
    exact store_J (R := fun v w'' => ∃ p q, MJ W CA CB ZV p q (upd m 4 true) (upd us 4 v) w'') 41 5 7 rfl p CA v5 v7 _ ZV hr IKA.out SKA.out OKA.out ⟨p, q, setR_belowM J.bel hp _, J.v0, J.v1, J.v2, J.v3, J.ne, (fun _ => setRow_heap _ _ _ _ _ _ hr), (fun h3 => (setRow_other _ _ _ _ (Ne.symm (J.ne m2 m3))).trans (J.r3 h3)), (fun _ => ⟨m2, m3⟩), J.o5⟩
  · refine stepJ [3, 1, 2] (by kernel_rfl) rfl fun m us w' ⟨p, q, J⟩ hmi hm => ?_
    have m2 := hm 2 (by simp)
    have m3 := hm 3 (by simp)
    obtain ⟨e3, hq⟩ := J.v3 m3
    have v6 := (frame_at2 (us := us) hl (show (mtA[6]?).join = some 3 from rfl)).trans e3
    have v8 := (frame_at2 (us := us) hl (show (mtA[8]?).join = some 1 from rfl)).trans (J.v1 (hm 1 (by simp)))
    have hr := J.r3 m3
    rw [hmi] at hr
    have hr : w'.heap[q]? = some (.cells ZV 41 (0, 0)) := hr
    generalize frame mtA a0 us = fr at *
    exact store_J (R := fun v w'' => ∃ p q, MJ W CA CB ZV p q (upd m 5 true) (upd us 5 v) w'') 41 6 8 rfl q CB v6 v8 _ ZV hr IKB.out SKB.out OKB.out ⟨p, q, setR_belowM J.bel hq _, J.v0, J.v1, J.v2, J.v3, J.ne, (fun h2 => (setRow_other _ _ _ _ (J.ne m2 m3)).trans (J.r2 h2)), (fun _ => setRow_heap _ _ _ _ _ _ hr), J.o4, (fun _ => ⟨m2, m3⟩)⟩
  · rintro m us w3 hall ⟨p, q, J⟩
    have m2 := hall 2 (by decide)
    have m3 := hall 3 (by decide)
    obtain ⟨e2, hp⟩ := J.v2 m2
    obtain ⟨e3, hq⟩ := J.v3 m3
    have hr2 := J.r2 m2
    rw [hall 4 (by decide)] at hr2
    have hr3 := J.r3 m3
    rw [hall 5 (by decide)] at hr3
    have RP := Lib.hid (show w3.heap[p]? = some (.cells CA 41 (0, 0)) from hr2)
    have RQ := Lib.hid (show w3.heap[q]? = some (.cells CB 41 (0, 0)) from hr3)
    have NE := Lib.hid (J.ne m2 m3)
    have HB3 := Lib.hid J.bel
    have HP := Lib.hid hp
    have HQ := Lib.hid hq
    subst ha0
    simp only [frame, mtA, fill]
    rw [e2, e3]
    generalize us 0 = u0
    generalize us 1 = u1
    have c18 := EA.out _ _ RP.out
    have d18 := EB.out _ _ RQ.out
    clear J hall e2 e3 m2 m3 hr2 hr3 hp hq hl k2 k3
    by_cases hgt : al > bl
    · have qg : decide (al > bl) = true := decide_eq_true hgt
      go_upto_region 3 with fail
      clear c18 d18
      refine with_act fun a0 ha0 => ?_
      have hl : mtB.length = a0.tmps.size := by rw [ha0]; rfl
      have k2 : a0.tmps[2]?.getD undef = .pointer (some ⟨w.heap.size, 0, none⟩) := by rw [ha0]; rfl
      have k3 : a0.tmps[3]?.getD undef = .pointer (some ⟨w.heap.size + 1, 0, none⟩) := by rw [ha0]; rfl
      have k5 : a0.tmps[5]?.getD undef = .pointer (some ⟨p, 0, none⟩) := by rw [ha0]; rfl
      have k6 : a0.tmps[6]?.getD undef = .pointer (some ⟨q, 0, none⟩) := by rw [ha0]; rfl
      refine wp_region_J (by kernel_rfl) mtB (by kernel_rfl) (by kernel_rfl) hl (fun i => undef) (by rw [ha0]; rfl) (SJ W.heap.size W CA CB p q) ⟨HB3.out.drew, (fun h => by cases h), (fun h => by cases h), RP.out, RQ.out⟩ ⟨?_, ?_, ?_, ?_, trivial⟩ ?_
      · refine stepJ [] (by kernel_rfl) rfl fun m us w' J hmi hm => ?_
        have o3 := (frame_old2 (us := us) (a := a0) (show (mtB[3]?).join = none from rfl)).trans k3
        have hc := KB.out w' J.bel
        generalize frame mtB a0 us = fr at *
        exact load_J (R := fun v w'' => SJ W.heap.size W CA CB p q (upd m 0 true) (upd us 0 v) w'') 41 3 rfl _ o3 _ CB (0, 0) _ hc Try.underlying41 rfl IKB.out ⟨J.bel, (fun _ => rfl), J.v1, J.r2, J.r3⟩
      · refine stepJ [] (by kernel_rfl) rfl fun m us w' J hmi hm => ?_
        have o2 := (frame_old2 (us := us) (a := a0) (show (mtB[2]?).join = none from rfl)).trans k2
        have hc := KA.out w' J.bel
        generalize frame mtB a0 us = fr at *
        exact load_J (R := fun v w'' => SJ W.heap.size W CA CB p q (upd m 1 true) (upd us 1 v) w'') 41 2 rfl _ o2 _ CA (0, 0) _ hc Try.underlying41 rfl IKA.out ⟨J.bel, J.v0, (fun _ => rfl), J.r2, J.r3⟩
      · refine stepJ [0] (by kernel_rfl) rfl fun m us w' J hmi hm => ?_
        have v14 := (frame_at2 (us := us) hl (show (mtB[14]?).join = some 0 from rfl)).trans (J.v0 (hm 0 (by simp)))
        have o5 := (frame_old2 (us := us) (a := a0) (show (mtB[5]?).join = none from rfl)).trans k5
        have hr := J.r2
        rw [hmi] at hr
        have hr : w'.heap[p]? = some (.cells CA 41 (0, 0)) := hr
        generalize frame mtB a0 us = fr at *
        exact store_J (R := fun v w'' => SJ W.heap.size W CA CB p q (upd m 2 true) (upd us 2 v) w'') 41 5 14 rfl p CB o5 v14 _ CA hr IKB.out SAB.out OKB.out ⟨setR_belowM J.bel HP.out _, J.v0, J.v1, setRow_heap _ _ _ _ _ _ hr, (setRow_other _ _ _ _ (Ne.symm NE.out)).trans J.r3⟩
      · refine stepJ [1] (by kernel_rfl) rfl fun m us w' J hmi hm => ?_
        have v15 := (frame_at2 (us := us) hl (show (mtB[15]?).join = some 1 from rfl)).trans (J.v1 (hm 1 (by simp)))
        have o6 := (frame_old2 (us := us) (a := a0) (show (mtB[6]?).join = none from rfl)).trans k6
        have hr := J.r3
        rw [hmi] at hr
        have hr : w'.heap[q]? = some (.cells CB 41 (0, 0)) := hr
        generalize frame mtB a0 us = fr at *
        exact store_J (R := fun v w'' => SJ W.heap.size W CA CB p q (upd m 3 true) (upd us 3 v) w'') 41 6 15 rfl q CA o6 v15 _ CB hr IKA.out SAB.out.symm OKA.out ⟨setR_belowM J.bel HQ.out _, J.v0, J.v1, (setRow_other _ _ _ _ NE.out).trans J.r2, setRow_heap _ _ _ _ _ _ hr⟩
      · rintro m us W4 hall J
        have hr2 := J.r2
        rw [hall 2 (by decide)] at hr2
        have hr3 := J.r3
        rw [hall 3 (by decide)] at hr3
        have RP4 := Lib.hid (show W4.heap[p]? = some (.cells CB 41 (0, 0)) from hr2)
        have RQ4 := Lib.hid (show W4.heap[q]? = some (.cells CA 41 (0, 0)) from hr3)
        have HB4 := Lib.hid J.bel
        subst ha0
        simp only [frame, mtB, fill]
        generalize us 0 = u2
        generalize us 1 = u3
        clear J hall hr2 hr3 hl k2 k3 k5 k6 RP RQ HB3 qg
        have YP := Lib.hid (fun (w' : World) (h : Below W4.heap.size W4 w') => (show w'.heap[p]? = some (.cells CB 41 (0, 0)) from (h.block _ (lt_of_row RP4.out)).trans RP4.out))
        have YQ := Lib.hid (fun (w' : World) (h : Below W4.heap.size W4 w') => (show w'.heap[q]? = some (.cells CA 41 (0, 0)) from (h.block _ (lt_of_row RQ4.out)).trans RQ4.out))
        have YA := Lib.hid (fun (w' : World) (h : Below W4.heap.size W4 w') => KA.out w' (HB4.out.trans (h.mono HB4.out.size)))
        have YB := Lib.hid (fun (w' : World) (h : Below W4.heap.size W4 w') => KB.out w' (HB4.out.trans (h.mono HB4.out.size)))
        have YR := Lib.hid (fun (w' : World) (h : Below W4.heap.size W4 w') => HB4.out.trans (h.mono HB4.out.size))
        have X4 := Lib.hid (KA.out W4 HB4.out)
        clear RP4 RQ4
        cases ma
        · have hv := Lib.hid (show V = false by rw [HV.out, if_pos hgt]; simp)
          clear HV
          go_wp2_with (first
            | go_skip
            | (with_reducible refine atC.at_load 41 2 ?_; refine wpList_load_rowG (by kernel_rfl) 41 (.tmp 2) rfl _ (by kernel_rfl) _ _ _ _ X4.out Try.underlying41 rfl IKA.out ?_)
            | (go_at_call 35; (with_reducible refine (MA.out W4).mono ?_); rintro e w5 ⟨rfl, BB⟩
               have B5 := Lib.hid BB
               have X5 := Lib.hid (YB.out w5 BB)
               clear BB)
            | (with_reducible refine atC.at_load 41 3 ?_; refine wpList_load_rowG (by kernel_rfl) 41 (.tmp 3) rfl _ (by kernel_rfl) _ _ _ _ X5.out Try.underlying41 rfl IKB.out ?_)
            | (go_at_call 35; (with_reducible refine (MB.out w5).mono ?_); rintro e w6 ⟨rfl, BB⟩
               have B6 := Lib.hid (B5.out.trans (BB.mono B5.out.size))
               have ZP := Lib.hid (PB.out _ _ (YP.out w6 B6.out))
               have ZQ := Lib.hid (PA.out _ _ (YQ.out w6 B6.out))
               have c6 := EB.out _ _ (YP.out w6 B6.out)
               clear BB)
            | (with_reducible refine atC.at_load 25 25 ?_; refine pkC.wpList_load_partG (by kernel_rfl) 25 (.tmp 25) rfl q 1 (by kernel_rfl) LA _ ZQ.out Try.underlying25 rfl IA.out ?_)
            | (with_reducible refine atC.at_load 25 27 ?_; refine pkC.wpList_load_partG (by kernel_rfl) 25 (.tmp 27) rfl p 1 (by kernel_rfl) LB _ ZP.out Try.underlying25 rfl IB.out ?_)
            | (go_at_call 53; (with_reducible refine (LAB.out w6).mono ?_); rintro e w7 ⟨rfl, BB⟩
               have B7 := Lib.hid (B6.out.trans (BB.mono B6.out.size))
               have c19 := C19.out w7 (YR.out w7 B7.out)
               have c20 := C20.out w7 (YR.out w7 B7.out)
               have d19 := D19.out w7 (YR.out w7 B7.out)
               have d20 := D20.out w7 (YR.out w7 B7.out)
               clear BB)
            | (go_at_call 54; (with_reducible refine (P1.out _).mono ?_); rintro e w8 ⟨rfl, hw⟩; obtain rfl := hw.symm)
            | (go_at_call 54; (with_reducible refine (P2.out _).mono ?_); rintro e w8 ⟨rfl, hw⟩; obtain rfl := hw.symm))
          go_ret
          exact ⟨ret_bool (by first | exact hv.out | exact hv.out.symm), HB.out.trans ((YR.out _ B5.out).mono HB.out.size)⟩
        · cases mb
          · have hv := Lib.hid (show V = false by rw [HV.out, if_pos hgt]; simp)
            clear HV
            go_wp2_with (first
              | go_skip
              | (with_reducible refine atC.at_load 41 2 ?_; refine wpList_load_rowG (by kernel_rfl) 41 (.tmp 2) rfl _ (by kernel_rfl) _ _ _ _ X4.out Try.underlying41 rfl IKA.out ?_)
              | (go_at_call 35; (with_reducible refine (MA.out W4).mono ?_); rintro e w5 ⟨rfl, BB⟩
                 have B5 := Lib.hid BB
                 have X5 := Lib.hid (YB.out w5 BB)
                 clear BB)
              | (with_reducible refine atC.at_load 41 3 ?_; refine wpList_load_rowG (by kernel_rfl) 41 (.tmp 3) rfl _ (by kernel_rfl) _ _ _ _ X5.out Try.underlying41 rfl IKB.out ?_)
              | (go_at_call 35; (with_reducible refine (MB.out w5).mono ?_); rintro e w6 ⟨rfl, BB⟩
                 have B6 := Lib.hid (B5.out.trans (BB.mono B5.out.size))
                 have ZP := Lib.hid (PB.out _ _ (YP.out w6 B6.out))
                 have ZQ := Lib.hid (PA.out _ _ (YQ.out w6 B6.out))
                 have c6 := EB.out _ _ (YP.out w6 B6.out)
                 clear BB)
              | (with_reducible refine atC.at_load 25 25 ?_; refine pkC.wpList_load_partG (by kernel_rfl) 25 (.tmp 25) rfl q 1 (by kernel_rfl) LA _ ZQ.out Try.underlying25 rfl IA.out ?_)
              | (with_reducible refine atC.at_load 25 27 ?_; refine pkC.wpList_load_partG (by kernel_rfl) 25 (.tmp 27) rfl p 1 (by kernel_rfl) LB _ ZP.out Try.underlying25 rfl IB.out ?_)
              | (go_at_call 53; (with_reducible refine (LAB.out w6).mono ?_); rintro e w7 ⟨rfl, BB⟩
                 have B7 := Lib.hid (B6.out.trans (BB.mono B6.out.size))
                 have c19 := C19.out w7 (YR.out w7 B7.out)
                 have c20 := C20.out w7 (YR.out w7 B7.out)
                 have d19 := D19.out w7 (YR.out w7 B7.out)
                 have d20 := D20.out w7 (YR.out w7 B7.out)
                 clear BB)
              | (go_at_call 54; (with_reducible refine (P1.out _).mono ?_); rintro e w8 ⟨rfl, hw⟩; obtain rfl := hw.symm)
              | (go_at_call 54; (with_reducible refine (P2.out _).mono ?_); rintro e w8 ⟨rfl, hw⟩; obtain rfl := hw.symm))
            go_ret
            exact ⟨ret_bool (by first | exact hv.out | exact hv.out.symm), HB.out.trans ((YR.out _ B6.out).mono HB.out.size)⟩
          · cases lab
            · have hv := Lib.hid (show V = false by rw [HV.out, if_pos hgt]; simp)
              clear HV
              go_wp2_with (first
                | go_skip
                | (with_reducible refine atC.at_load 41 2 ?_; refine wpList_load_rowG (by kernel_rfl) 41 (.tmp 2) rfl _ (by kernel_rfl) _ _ _ _ X4.out Try.underlying41 rfl IKA.out ?_)
                | (go_at_call 35; (with_reducible refine (MA.out W4).mono ?_); rintro e w5 ⟨rfl, BB⟩
                   have B5 := Lib.hid BB
                   have X5 := Lib.hid (YB.out w5 BB)
                   clear BB)
                | (with_reducible refine atC.at_load 41 3 ?_; refine wpList_load_rowG (by kernel_rfl) 41 (.tmp 3) rfl _ (by kernel_rfl) _ _ _ _ X5.out Try.underlying41 rfl IKB.out ?_)
                | (go_at_call 35; (with_reducible refine (MB.out w5).mono ?_); rintro e w6 ⟨rfl, BB⟩
                   have B6 := Lib.hid (B5.out.trans (BB.mono B5.out.size))
                   have ZP := Lib.hid (PB.out _ _ (YP.out w6 B6.out))
                   have ZQ := Lib.hid (PA.out _ _ (YQ.out w6 B6.out))
                   have c6 := EB.out _ _ (YP.out w6 B6.out)
                   clear BB)
                | (with_reducible refine atC.at_load 25 25 ?_; refine pkC.wpList_load_partG (by kernel_rfl) 25 (.tmp 25) rfl q 1 (by kernel_rfl) LA _ ZQ.out Try.underlying25 rfl IA.out ?_)
                | (with_reducible refine atC.at_load 25 27 ?_; refine pkC.wpList_load_partG (by kernel_rfl) 25 (.tmp 27) rfl p 1 (by kernel_rfl) LB _ ZP.out Try.underlying25 rfl IB.out ?_)
                | (go_at_call 53; (with_reducible refine (LAB.out w6).mono ?_); rintro e w7 ⟨rfl, BB⟩
                   have B7 := Lib.hid (B6.out.trans (BB.mono B6.out.size))
                   have c19 := C19.out w7 (YR.out w7 B7.out)
                   have c20 := C20.out w7 (YR.out w7 B7.out)
                   have d19 := D19.out w7 (YR.out w7 B7.out)
                   have d20 := D20.out w7 (YR.out w7 B7.out)
                   clear BB)
                | (go_at_call 54; (with_reducible refine (P1.out _).mono ?_); rintro e w8 ⟨rfl, hw⟩; obtain rfl := hw.symm)
                | (go_at_call 54; (with_reducible refine (P2.out _).mono ?_); rintro e w8 ⟨rfl, hw⟩; obtain rfl := hw.symm))
              go_ret
              exact ⟨ret_bool (by first | exact hv.out | exact hv.out.symm), HB.out.trans ((YR.out _ B7.out).mono HB.out.size)⟩
            · cases p1
              · by_cases hl0 : blp = 0
                · have ql : (blp == 0) = true := beq_iff_eq.2 hl0
                  cases p2
                  · by_cases hr0 : brp = 0
                    · have qr : (brp == 0) = true := beq_iff_eq.2 hr0
                      have hv := Lib.hid (show V = true by rw [HV.out, if_pos hgt]; simp [hl0, hr0])
                      clear HV hl0 hr0
                      go_wp2_with (first
                        | go_skip
                        | (with_reducible refine atC.at_load 41 2 ?_; refine wpList_load_rowG (by kernel_rfl) 41 (.tmp 2) rfl _ (by kernel_rfl) _ _ _ _ X4.out Try.underlying41 rfl IKA.out ?_)
                        | (go_at_call 35; (with_reducible refine (MA.out W4).mono ?_); rintro e w5 ⟨rfl, BB⟩
                           have B5 := Lib.hid BB
                           have X5 := Lib.hid (YB.out w5 BB)
                           clear BB)
                        | (with_reducible refine atC.at_load 41 3 ?_; refine wpList_load_rowG (by kernel_rfl) 41 (.tmp 3) rfl _ (by kernel_rfl) _ _ _ _ X5.out Try.underlying41 rfl IKB.out ?_)
                        | (go_at_call 35; (with_reducible refine (MB.out w5).mono ?_); rintro e w6 ⟨rfl, BB⟩
                           have B6 := Lib.hid (B5.out.trans (BB.mono B5.out.size))
                           have ZP := Lib.hid (PB.out _ _ (YP.out w6 B6.out))
                           have ZQ := Lib.hid (PA.out _ _ (YQ.out w6 B6.out))
                           have c6 := EB.out _ _ (YP.out w6 B6.out)
                           clear BB)
                        | (with_reducible refine atC.at_load 25 25 ?_; refine pkC.wpList_load_partG (by kernel_rfl) 25 (.tmp 25) rfl q 1 (by kernel_rfl) LA _ ZQ.out Try.underlying25 rfl IA.out ?_)
                        | (with_reducible refine atC.at_load 25 27 ?_; refine pkC.wpList_load_partG (by kernel_rfl) 25 (.tmp 27) rfl p 1 (by kernel_rfl) LB _ ZP.out Try.underlying25 rfl IB.out ?_)
                        | (go_at_call 53; (with_reducible refine (LAB.out w6).mono ?_); rintro e w7 ⟨rfl, BB⟩
                           have B7 := Lib.hid (B6.out.trans (BB.mono B6.out.size))
                           have c19 := C19.out w7 (YR.out w7 B7.out)
                           have c20 := C20.out w7 (YR.out w7 B7.out)
                           have d19 := D19.out w7 (YR.out w7 B7.out)
                           have d20 := D20.out w7 (YR.out w7 B7.out)
                           clear BB)
                        | (go_at_call 54; (with_reducible refine (P1.out _).mono ?_); rintro e w8 ⟨rfl, hw⟩; obtain rfl := hw.symm)
                        | (go_at_call 54; (with_reducible refine (P2.out _).mono ?_); rintro e w8 ⟨rfl, hw⟩; obtain rfl := hw.symm))
                      go_ret
                      exact ⟨ret_bool (by first | exact hv.out | exact hv.out.symm), HB.out.trans ((YR.out _ B7.out).mono HB.out.size)⟩
                    · have qr : (brp == 0) = false := beq_eq_false_iff_ne.2 hr0
                      have hv := Lib.hid (show V = false by rw [HV.out, if_pos hgt]; simp [hl0, hr0])
                      clear HV hl0 hr0
                      go_wp2_with (first
                        | go_skip
                        | (with_reducible refine atC.at_load 41 2 ?_; refine wpList_load_rowG (by kernel_rfl) 41 (.tmp 2) rfl _ (by kernel_rfl) _ _ _ _ X4.out Try.underlying41 rfl IKA.out ?_)
                        | (go_at_call 35; (with_reducible refine (MA.out W4).mono ?_); rintro e w5 ⟨rfl, BB⟩
                           have B5 := Lib.hid BB
                           have X5 := Lib.hid (YB.out w5 BB)
                           clear BB)
                        | (with_reducible refine atC.at_load 41 3 ?_; refine wpList_load_rowG (by kernel_rfl) 41 (.tmp 3) rfl _ (by kernel_rfl) _ _ _ _ X5.out Try.underlying41 rfl IKB.out ?_)
                        | (go_at_call 35; (with_reducible refine (MB.out w5).mono ?_); rintro e w6 ⟨rfl, BB⟩
                           have B6 := Lib.hid (B5.out.trans (BB.mono B5.out.size))
                           have ZP := Lib.hid (PB.out _ _ (YP.out w6 B6.out))
                           have ZQ := Lib.hid (PA.out _ _ (YQ.out w6 B6.out))
                           have c6 := EB.out _ _ (YP.out w6 B6.out)
                           clear BB)
                        | (with_reducible refine atC.at_load 25 25 ?_; refine pkC.wpList_load_partG (by kernel_rfl) 25 (.tmp 25) rfl q 1 (by kernel_rfl) LA _ ZQ.out Try.underlying25 rfl IA.out ?_)
                        | (with_reducible refine atC.at_load 25 27 ?_; refine pkC.wpList_load_partG (by kernel_rfl) 25 (.tmp 27) rfl p 1 (by kernel_rfl) LB _ ZP.out Try.underlying25 rfl IB.out ?_)
                        | (go_at_call 53; (with_reducible refine (LAB.out w6).mono ?_); rintro e w7 ⟨rfl, BB⟩
                           have B7 := Lib.hid (B6.out.trans (BB.mono B6.out.size))
                           have c19 := C19.out w7 (YR.out w7 B7.out)
                           have c20 := C20.out w7 (YR.out w7 B7.out)
                           have d19 := D19.out w7 (YR.out w7 B7.out)
                           have d20 := D20.out w7 (YR.out w7 B7.out)
                           clear BB)
                        | (go_at_call 54; (with_reducible refine (P1.out _).mono ?_); rintro e w8 ⟨rfl, hw⟩; obtain rfl := hw.symm)
                        | (go_at_call 54; (with_reducible refine (P2.out _).mono ?_); rintro e w8 ⟨rfl, hw⟩; obtain rfl := hw.symm))
                      go_ret
                      exact ⟨ret_bool (by first | exact hv.out | exact hv.out.symm), HB.out.trans ((YR.out _ B7.out).mono HB.out.size)⟩
                  · have hv := Lib.hid (show V = true by rw [HV.out, if_pos hgt]; simp [hl0])
                    clear HV hl0
                    go_wp2_with (first
                      | go_skip
                      | (with_reducible refine atC.at_load 41 2 ?_; refine wpList_load_rowG (by kernel_rfl) 41 (.tmp 2) rfl _ (by kernel_rfl) _ _ _ _ X4.out Try.underlying41 rfl IKA.out ?_)
                      | (go_at_call 35; (with_reducible refine (MA.out W4).mono ?_); rintro e w5 ⟨rfl, BB⟩
                         have B5 := Lib.hid BB
                         have X5 := Lib.hid (YB.out w5 BB)
                         clear BB)
                      | (with_reducible refine atC.at_load 41 3 ?_; refine wpList_load_rowG (by kernel_rfl) 41 (.tmp 3) rfl _ (by kernel_rfl) _ _ _ _ X5.out Try.underlying41 rfl IKB.out ?_)
                      | (go_at_call 35; (with_reducible refine (MB.out w5).mono ?_); rintro e w6 ⟨rfl, BB⟩
                         have B6 := Lib.hid (B5.out.trans (BB.mono B5.out.size))
                         have ZP := Lib.hid (PB.out _ _ (YP.out w6 B6.out))
                         have ZQ := Lib.hid (PA.out _ _ (YQ.out w6 B6.out))
                         have c6 := EB.out _ _ (YP.out w6 B6.out)
                         clear BB)
                      | (with_reducible refine atC.at_load 25 25 ?_; refine pkC.wpList_load_partG (by kernel_rfl) 25 (.tmp 25) rfl q 1 (by kernel_rfl) LA _ ZQ.out Try.underlying25 rfl IA.out ?_)
                      | (with_reducible refine atC.at_load 25 27 ?_; refine pkC.wpList_load_partG (by kernel_rfl) 25 (.tmp 27) rfl p 1 (by kernel_rfl) LB _ ZP.out Try.underlying25 rfl IB.out ?_)
                      | (go_at_call 53; (with_reducible refine (LAB.out w6).mono ?_); rintro e w7 ⟨rfl, BB⟩
                         have B7 := Lib.hid (B6.out.trans (BB.mono B6.out.size))
                         have c19 := C19.out w7 (YR.out w7 B7.out)
                         have c20 := C20.out w7 (YR.out w7 B7.out)
                         have d19 := D19.out w7 (YR.out w7 B7.out)
                         have d20 := D20.out w7 (YR.out w7 B7.out)
                         clear BB)
                      | (go_at_call 54; (with_reducible refine (P1.out _).mono ?_); rintro e w8 ⟨rfl, hw⟩; obtain rfl := hw.symm)
                      | (go_at_call 54; (with_reducible refine (P2.out _).mono ?_); rintro e w8 ⟨rfl, hw⟩; obtain rfl := hw.symm))
                    go_ret
                    exact ⟨ret_bool (by first | exact hv.out | exact hv.out.symm), HB.out.trans ((YR.out _ B7.out).mono HB.out.size)⟩
                · have ql : (blp == 0) = false := beq_eq_false_iff_ne.2 hl0
                  have hv := Lib.hid (show V = false by rw [HV.out, if_pos hgt]; simp [hl0])
                  clear HV hl0
                  go_wp2_with (first
                    | go_skip
                    | (with_reducible refine atC.at_load 41 2 ?_; refine wpList_load_rowG (by kernel_rfl) 41 (.tmp 2) rfl _ (by kernel_rfl) _ _ _ _ X4.out Try.underlying41 rfl IKA.out ?_)
                    | (go_at_call 35; (with_reducible refine (MA.out W4).mono ?_); rintro e w5 ⟨rfl, BB⟩
                       have B5 := Lib.hid BB
                       have X5 := Lib.hid (YB.out w5 BB)
                       clear BB)
                    | (with_reducible refine atC.at_load 41 3 ?_; refine wpList_load_rowG (by kernel_rfl) 41 (.tmp 3) rfl _ (by kernel_rfl) _ _ _ _ X5.out Try.underlying41 rfl IKB.out ?_)
                    | (go_at_call 35; (with_reducible refine (MB.out w5).mono ?_); rintro e w6 ⟨rfl, BB⟩
                       have B6 := Lib.hid (B5.out.trans (BB.mono B5.out.size))
                       have ZP := Lib.hid (PB.out _ _ (YP.out w6 B6.out))
                       have ZQ := Lib.hid (PA.out _ _ (YQ.out w6 B6.out))
                       have c6 := EB.out _ _ (YP.out w6 B6.out)
                       clear BB)
                    | (with_reducible refine atC.at_load 25 25 ?_; refine pkC.wpList_load_partG (by kernel_rfl) 25 (.tmp 25) rfl q 1 (by kernel_rfl) LA _ ZQ.out Try.underlying25 rfl IA.out ?_)
                    | (with_reducible refine atC.at_load 25 27 ?_; refine pkC.wpList_load_partG (by kernel_rfl) 25 (.tmp 27) rfl p 1 (by kernel_rfl) LB _ ZP.out Try.underlying25 rfl IB.out ?_)
                    | (go_at_call 53; (with_reducible refine (LAB.out w6).mono ?_); rintro e w7 ⟨rfl, BB⟩
                       have B7 := Lib.hid (B6.out.trans (BB.mono B6.out.size))
                       have c19 := C19.out w7 (YR.out w7 B7.out)
                       have c20 := C20.out w7 (YR.out w7 B7.out)
                       have d19 := D19.out w7 (YR.out w7 B7.out)
                       have d20 := D20.out w7 (YR.out w7 B7.out)
                       clear BB)
                    | (go_at_call 54; (with_reducible refine (P1.out _).mono ?_); rintro e w8 ⟨rfl, hw⟩; obtain rfl := hw.symm)
                    | (go_at_call 54; (with_reducible refine (P2.out _).mono ?_); rintro e w8 ⟨rfl, hw⟩; obtain rfl := hw.symm))
                  go_ret
                  exact ⟨ret_bool (by first | exact hv.out | exact hv.out.symm), HB.out.trans ((YR.out _ B7.out).mono HB.out.size)⟩
              · cases p2
                · by_cases hr0 : brp = 0
                  · have qr : (brp == 0) = true := beq_iff_eq.2 hr0
                    have hv := Lib.hid (show V = true by rw [HV.out, if_pos hgt]; simp [hr0])
                    clear HV hr0
                    go_wp2_with (first
                      | go_skip
                      | (with_reducible refine atC.at_load 41 2 ?_; refine wpList_load_rowG (by kernel_rfl) 41 (.tmp 2) rfl _ (by kernel_rfl) _ _ _ _ X4.out Try.underlying41 rfl IKA.out ?_)
                      | (go_at_call 35; (with_reducible refine (MA.out W4).mono ?_); rintro e w5 ⟨rfl, BB⟩
                         have B5 := Lib.hid BB
                         have X5 := Lib.hid (YB.out w5 BB)
                         clear BB)
                      | (with_reducible refine atC.at_load 41 3 ?_; refine wpList_load_rowG (by kernel_rfl) 41 (.tmp 3) rfl _ (by kernel_rfl) _ _ _ _ X5.out Try.underlying41 rfl IKB.out ?_)
                      | (go_at_call 35; (with_reducible refine (MB.out w5).mono ?_); rintro e w6 ⟨rfl, BB⟩
                         have B6 := Lib.hid (B5.out.trans (BB.mono B5.out.size))
                         have ZP := Lib.hid (PB.out _ _ (YP.out w6 B6.out))
                         have ZQ := Lib.hid (PA.out _ _ (YQ.out w6 B6.out))
                         have c6 := EB.out _ _ (YP.out w6 B6.out)
                         clear BB)
                      | (with_reducible refine atC.at_load 25 25 ?_; refine pkC.wpList_load_partG (by kernel_rfl) 25 (.tmp 25) rfl q 1 (by kernel_rfl) LA _ ZQ.out Try.underlying25 rfl IA.out ?_)
                      | (with_reducible refine atC.at_load 25 27 ?_; refine pkC.wpList_load_partG (by kernel_rfl) 25 (.tmp 27) rfl p 1 (by kernel_rfl) LB _ ZP.out Try.underlying25 rfl IB.out ?_)
                      | (go_at_call 53; (with_reducible refine (LAB.out w6).mono ?_); rintro e w7 ⟨rfl, BB⟩
                         have B7 := Lib.hid (B6.out.trans (BB.mono B6.out.size))
                         have c19 := C19.out w7 (YR.out w7 B7.out)
                         have c20 := C20.out w7 (YR.out w7 B7.out)
                         have d19 := D19.out w7 (YR.out w7 B7.out)
                         have d20 := D20.out w7 (YR.out w7 B7.out)
                         clear BB)
                      | (go_at_call 54; (with_reducible refine (P1.out _).mono ?_); rintro e w8 ⟨rfl, hw⟩; obtain rfl := hw.symm)
                      | (go_at_call 54; (with_reducible refine (P2.out _).mono ?_); rintro e w8 ⟨rfl, hw⟩; obtain rfl := hw.symm))
                    go_ret
                    exact ⟨ret_bool (by first | exact hv.out | exact hv.out.symm), HB.out.trans ((YR.out _ B7.out).mono HB.out.size)⟩
                  · have qr : (brp == 0) = false := beq_eq_false_iff_ne.2 hr0
                    have hv := Lib.hid (show V = false by rw [HV.out, if_pos hgt]; simp [hr0])
                    clear HV hr0
                    go_wp2_with (first
                      | go_skip
                      | (with_reducible refine atC.at_load 41 2 ?_; refine wpList_load_rowG (by kernel_rfl) 41 (.tmp 2) rfl _ (by kernel_rfl) _ _ _ _ X4.out Try.underlying41 rfl IKA.out ?_)
                      | (go_at_call 35; (with_reducible refine (MA.out W4).mono ?_); rintro e w5 ⟨rfl, BB⟩
                         have B5 := Lib.hid BB
                         have X5 := Lib.hid (YB.out w5 BB)
                         clear BB)
                      | (with_reducible refine atC.at_load 41 3 ?_; refine wpList_load_rowG (by kernel_rfl) 41 (.tmp 3) rfl _ (by kernel_rfl) _ _ _ _ X5.out Try.underlying41 rfl IKB.out ?_)
                      | (go_at_call 35; (with_reducible refine (MB.out w5).mono ?_); rintro e w6 ⟨rfl, BB⟩
                         have B6 := Lib.hid (B5.out.trans (BB.mono B5.out.size))
                         have ZP := Lib.hid (PB.out _ _ (YP.out w6 B6.out))
                         have ZQ := Lib.hid (PA.out _ _ (YQ.out w6 B6.out))
                         have c6 := EB.out _ _ (YP.out w6 B6.out)
                         clear BB)
                      | (with_reducible refine atC.at_load 25 25 ?_; refine pkC.wpList_load_partG (by kernel_rfl) 25 (.tmp 25) rfl q 1 (by kernel_rfl) LA _ ZQ.out Try.underlying25 rfl IA.out ?_)
                      | (with_reducible refine atC.at_load 25 27 ?_; refine pkC.wpList_load_partG (by kernel_rfl) 25 (.tmp 27) rfl p 1 (by kernel_rfl) LB _ ZP.out Try.underlying25 rfl IB.out ?_)
                      | (go_at_call 53; (with_reducible refine (LAB.out w6).mono ?_); rintro e w7 ⟨rfl, BB⟩
                         have B7 := Lib.hid (B6.out.trans (BB.mono B6.out.size))
                         have c19 := C19.out w7 (YR.out w7 B7.out)
                         have c20 := C20.out w7 (YR.out w7 B7.out)
                         have d19 := D19.out w7 (YR.out w7 B7.out)
                         have d20 := D20.out w7 (YR.out w7 B7.out)
                         clear BB)
                      | (go_at_call 54; (with_reducible refine (P1.out _).mono ?_); rintro e w8 ⟨rfl, hw⟩; obtain rfl := hw.symm)
                      | (go_at_call 54; (with_reducible refine (P2.out _).mono ?_); rintro e w8 ⟨rfl, hw⟩; obtain rfl := hw.symm))
                    go_ret
                    exact ⟨ret_bool (by first | exact hv.out | exact hv.out.symm), HB.out.trans ((YR.out _ B7.out).mono HB.out.size)⟩
                · have hv := Lib.hid (show V = true by rw [HV.out, if_pos hgt]; simp)
                  clear HV
                  go_wp2_with (first
                    | go_skip
                    | (with_reducible refine atC.at_load 41 2 ?_; refine wpList_load_rowG (by kernel_rfl) 41 (.tmp 2) rfl _ (by kernel_rfl) _ _ _ _ X4.out Try.underlying41 rfl IKA.out ?_)
                    | (go_at_call 35; (with_reducible refine (MA.out W4).mono ?_); rintro e w5 ⟨rfl, BB⟩
                       have B5 := Lib.hid BB
                       have X5 := Lib.hid (YB.out w5 BB)
                       clear BB)
                    | (with_reducible refine atC.at_load 41 3 ?_; refine wpList_load_rowG (by kernel_rfl) 41 (.tmp 3) rfl _ (by kernel_rfl) _ _ _ _ X5.out Try.underlying41 rfl IKB.out ?_)
                    | (go_at_call 35; (with_reducible refine (MB.out w5).mono ?_); rintro e w6 ⟨rfl, BB⟩
                       have B6 := Lib.hid (B5.out.trans (BB.mono B5.out.size))
                       have ZP := Lib.hid (PB.out _ _ (YP.out w6 B6.out))
                       have ZQ := Lib.hid (PA.out _ _ (YQ.out w6 B6.out))
                       have c6 := EB.out _ _ (YP.out w6 B6.out)
                       clear BB)
                    | (with_reducible refine atC.at_load 25 25 ?_; refine pkC.wpList_load_partG (by kernel_rfl) 25 (.tmp 25) rfl q 1 (by kernel_rfl) LA _ ZQ.out Try.underlying25 rfl IA.out ?_)
                    | (with_reducible refine atC.at_load 25 27 ?_; refine pkC.wpList_load_partG (by kernel_rfl) 25 (.tmp 27) rfl p 1 (by kernel_rfl) LB _ ZP.out Try.underlying25 rfl IB.out ?_)
                    | (go_at_call 53; (with_reducible refine (LAB.out w6).mono ?_); rintro e w7 ⟨rfl, BB⟩
                       have B7 := Lib.hid (B6.out.trans (BB.mono B6.out.size))
                       have c19 := C19.out w7 (YR.out w7 B7.out)
                       have c20 := C20.out w7 (YR.out w7 B7.out)
                       have d19 := D19.out w7 (YR.out w7 B7.out)
                       have d20 := D20.out w7 (YR.out w7 B7.out)
                       clear BB)
                    | (go_at_call 54; (with_reducible refine (P1.out _).mono ?_); rintro e w8 ⟨rfl, hw⟩; obtain rfl := hw.symm)
                    | (go_at_call 54; (with_reducible refine (P2.out _).mono ?_); rintro e w8 ⟨rfl, hw⟩; obtain rfl := hw.symm))
                  go_ret
                  exact ⟨ret_bool (by first | exact hv.out | exact hv.out.symm), HB.out.trans ((YR.out _ B7.out).mono HB.out.size)⟩
    · have qg : decide (al > bl) = false := decide_eq_false hgt
      go_upto_region 4 with fail
      have RP4 := RP
      have RQ4 := RQ
      have HB4 := HB3
      generalize w3 = W4 at *
      clear RP RQ HB3 c18 d18 qg
      have YP := Lib.hid (fun (w' : World) (h : Below W4.heap.size W4 w') => (show w'.heap[p]? = some (.cells CA 41 (0, 0)) from (h.block _ (lt_of_row RP4.out)).trans RP4.out))
      have YQ := Lib.hid (fun (w' : World) (h : Below W4.heap.size W4 w') => (show w'.heap[q]? = some (.cells CB 41 (0, 0)) from (h.block _ (lt_of_row RQ4.out)).trans RQ4.out))
      have YA := Lib.hid (fun (w' : World) (h : Below W4.heap.size W4 w') => KA.out w' (HB4.out.trans (h.mono HB4.out.size)))
      have YB := Lib.hid (fun (w' : World) (h : Below W4.heap.size W4 w') => KB.out w' (HB4.out.trans (h.mono HB4.out.size)))
      have YR := Lib.hid (fun (w' : World) (h : Below W4.heap.size W4 w') => HB4.out.trans (h.mono HB4.out.size))
      have X4 := Lib.hid (KA.out W4 HB4.out)
      clear RP4 RQ4
      cases ma
      · have hv := Lib.hid (show V = false by rw [HV.out, if_neg hgt]; simp)
        clear HV
        go_wp2_with (first
          | go_skip
          | (with_reducible refine atC.at_load 41 2 ?_; refine wpList_load_rowG (by kernel_rfl) 41 (.tmp 2) rfl _ (by kernel_rfl) _ _ _ _ X4.out Try.underlying41 rfl IKA.out ?_)
          | (go_at_call 35; (with_reducible refine (MA.out W4).mono ?_); rintro e w5 ⟨rfl, BB⟩
             have B5 := Lib.hid BB
             have X5 := Lib.hid (YB.out w5 BB)
             clear BB)
          | (with_reducible refine atC.at_load 41 3 ?_; refine wpList_load_rowG (by kernel_rfl) 41 (.tmp 3) rfl _ (by kernel_rfl) _ _ _ _ X5.out Try.underlying41 rfl IKB.out ?_)
          | (go_at_call 35; (with_reducible refine (MB.out w5).mono ?_); rintro e w6 ⟨rfl, BB⟩
             have B6 := Lib.hid (B5.out.trans (BB.mono B5.out.size))
             have ZP := Lib.hid (PA.out _ _ (YP.out w6 B6.out))
             have ZQ := Lib.hid (PB.out _ _ (YQ.out w6 B6.out))
             have c6 := EA.out _ _ (YP.out w6 B6.out)
             clear BB)
          | (with_reducible refine atC.at_load 25 25 ?_; refine pkC.wpList_load_partG (by kernel_rfl) 25 (.tmp 25) rfl q 1 (by kernel_rfl) LB _ ZQ.out Try.underlying25 rfl IB.out ?_)
          | (with_reducible refine atC.at_load 25 27 ?_; refine pkC.wpList_load_partG (by kernel_rfl) 25 (.tmp 27) rfl p 1 (by kernel_rfl) LA _ ZP.out Try.underlying25 rfl IA.out ?_)
          | (go_at_call 53; (with_reducible refine (LBA.out w6).mono ?_); rintro e w7 ⟨rfl, BB⟩
             have B7 := Lib.hid (B6.out.trans (BB.mono B6.out.size))
             have c19 := C19.out w7 (YR.out w7 B7.out)
             have c20 := C20.out w7 (YR.out w7 B7.out)
             have d19 := D19.out w7 (YR.out w7 B7.out)
             have d20 := D20.out w7 (YR.out w7 B7.out)
             clear BB)
          | (go_at_call 54; (with_reducible refine (P1.out _).mono ?_); rintro e w8 ⟨rfl, hw⟩; obtain rfl := hw.symm)
          | (go_at_call 54; (with_reducible refine (P2.out _).mono ?_); rintro e w8 ⟨rfl, hw⟩; obtain rfl := hw.symm))
        go_ret
        exact ⟨ret_bool (by first | exact hv.out | exact hv.out.symm), HB.out.trans ((YR.out _ B5.out).mono HB.out.size)⟩
      · cases mb
        · have hv := Lib.hid (show V = false by rw [HV.out, if_neg hgt]; simp)
          clear HV
          go_wp2_with (first
            | go_skip
            | (with_reducible refine atC.at_load 41 2 ?_; refine wpList_load_rowG (by kernel_rfl) 41 (.tmp 2) rfl _ (by kernel_rfl) _ _ _ _ X4.out Try.underlying41 rfl IKA.out ?_)
            | (go_at_call 35; (with_reducible refine (MA.out W4).mono ?_); rintro e w5 ⟨rfl, BB⟩
               have B5 := Lib.hid BB
               have X5 := Lib.hid (YB.out w5 BB)
               clear BB)
            | (with_reducible refine atC.at_load 41 3 ?_; refine wpList_load_rowG (by kernel_rfl) 41 (.tmp 3) rfl _ (by kernel_rfl) _ _ _ _ X5.out Try.underlying41 rfl IKB.out ?_)
            | (go_at_call 35; (with_reducible refine (MB.out w5).mono ?_); rintro e w6 ⟨rfl, BB⟩
               have B6 := Lib.hid (B5.out.trans (BB.mono B5.out.size))
               have ZP := Lib.hid (PA.out _ _ (YP.out w6 B6.out))
               have ZQ := Lib.hid (PB.out _ _ (YQ.out w6 B6.out))
               have c6 := EA.out _ _ (YP.out w6 B6.out)
               clear BB)
            | (with_reducible refine atC.at_load 25 25 ?_; refine pkC.wpList_load_partG (by kernel_rfl) 25 (.tmp 25) rfl q 1 (by kernel_rfl) LB _ ZQ.out Try.underlying25 rfl IB.out ?_)
            | (with_reducible refine atC.at_load 25 27 ?_; refine pkC.wpList_load_partG (by kernel_rfl) 25 (.tmp 27) rfl p 1 (by kernel_rfl) LA _ ZP.out Try.underlying25 rfl IA.out ?_)
            | (go_at_call 53; (with_reducible refine (LBA.out w6).mono ?_); rintro e w7 ⟨rfl, BB⟩
               have B7 := Lib.hid (B6.out.trans (BB.mono B6.out.size))
               have c19 := C19.out w7 (YR.out w7 B7.out)
               have c20 := C20.out w7 (YR.out w7 B7.out)
               have d19 := D19.out w7 (YR.out w7 B7.out)
               have d20 := D20.out w7 (YR.out w7 B7.out)
               clear BB)
            | (go_at_call 54; (with_reducible refine (P1.out _).mono ?_); rintro e w8 ⟨rfl, hw⟩; obtain rfl := hw.symm)
            | (go_at_call 54; (with_reducible refine (P2.out _).mono ?_); rintro e w8 ⟨rfl, hw⟩; obtain rfl := hw.symm))
          go_ret
          exact ⟨ret_bool (by first | exact hv.out | exact hv.out.symm), HB.out.trans ((YR.out _ B6.out).mono HB.out.size)⟩
        · cases lba
          · have hv := Lib.hid (show V = false by rw [HV.out, if_neg hgt]; simp)
            clear HV
            go_wp2_with (first
              | go_skip
              | (with_reducible refine atC.at_load 41 2 ?_; refine wpList_load_rowG (by kernel_rfl) 41 (.tmp 2) rfl _ (by kernel_rfl) _ _ _ _ X4.out Try.underlying41 rfl IKA.out ?_)
              | (go_at_call 35; (with_reducible refine (MA.out W4).mono ?_); rintro e w5 ⟨rfl, BB⟩
                 have B5 := Lib.hid BB
                 have X5 := Lib.hid (YB.out w5 BB)
                 clear BB)
              | (with_reducible refine atC.at_load 41 3 ?_; refine wpList_load_rowG (by kernel_rfl) 41 (.tmp 3) rfl _ (by kernel_rfl) _ _ _ _ X5.out Try.underlying41 rfl IKB.out ?_)
              | (go_at_call 35; (with_reducible refine (MB.out w5).mono ?_); rintro e w6 ⟨rfl, BB⟩
                 have B6 := Lib.hid (B5.out.trans (BB.mono B5.out.size))
                 have ZP := Lib.hid (PA.out _ _ (YP.out w6 B6.out))
                 have ZQ := Lib.hid (PB.out _ _ (YQ.out w6 B6.out))
                 have c6 := EA.out _ _ (YP.out w6 B6.out)
                 clear BB)
              | (with_reducible refine atC.at_load 25 25 ?_; refine pkC.wpList_load_partG (by kernel_rfl) 25 (.tmp 25) rfl q 1 (by kernel_rfl) LB _ ZQ.out Try.underlying25 rfl IB.out ?_)
              | (with_reducible refine atC.at_load 25 27 ?_; refine pkC.wpList_load_partG (by kernel_rfl) 25 (.tmp 27) rfl p 1 (by kernel_rfl) LA _ ZP.out Try.underlying25 rfl IA.out ?_)
              | (go_at_call 53; (with_reducible refine (LBA.out w6).mono ?_); rintro e w7 ⟨rfl, BB⟩
                 have B7 := Lib.hid (B6.out.trans (BB.mono B6.out.size))
                 have c19 := C19.out w7 (YR.out w7 B7.out)
                 have c20 := C20.out w7 (YR.out w7 B7.out)
                 have d19 := D19.out w7 (YR.out w7 B7.out)
                 have d20 := D20.out w7 (YR.out w7 B7.out)
                 clear BB)
              | (go_at_call 54; (with_reducible refine (P1.out _).mono ?_); rintro e w8 ⟨rfl, hw⟩; obtain rfl := hw.symm)
              | (go_at_call 54; (with_reducible refine (P2.out _).mono ?_); rintro e w8 ⟨rfl, hw⟩; obtain rfl := hw.symm))
            go_ret
            exact ⟨ret_bool (by first | exact hv.out | exact hv.out.symm), HB.out.trans ((YR.out _ B7.out).mono HB.out.size)⟩
          · cases p1
            · by_cases hl0 : blp = 0
              · have ql : (blp == 0) = true := beq_iff_eq.2 hl0
                cases p2
                · by_cases hr0 : brp = 0
                  · have qr : (brp == 0) = true := beq_iff_eq.2 hr0
                    have hv := Lib.hid (show V = true by rw [HV.out, if_neg hgt]; simp [hl0, hr0])
                    clear HV hl0 hr0
                    go_wp2_with (first
                      | go_skip
                      | (with_reducible refine atC.at_load 41 2 ?_; refine wpList_load_rowG (by kernel_rfl) 41 (.tmp 2) rfl _ (by kernel_rfl) _ _ _ _ X4.out Try.underlying41 rfl IKA.out ?_)
                      | (go_at_call 35; (with_reducible refine (MA.out W4).mono ?_); rintro e w5 ⟨rfl, BB⟩
                         have B5 := Lib.hid BB
                         have X5 := Lib.hid (YB.out w5 BB)
                         clear BB)
                      | (with_reducible refine atC.at_load 41 3 ?_; refine wpList_load_rowG (by kernel_rfl) 41 (.tmp 3) rfl _ (by kernel_rfl) _ _ _ _ X5.out Try.underlying41 rfl IKB.out ?_)
                      | (go_at_call 35; (with_reducible refine (MB.out w5).mono ?_); rintro e w6 ⟨rfl, BB⟩
                         have B6 := Lib.hid (B5.out.trans (BB.mono B5.out.size))
                         have ZP := Lib.hid (PA.out _ _ (YP.out w6 B6.out))
                         have ZQ := Lib.hid (PB.out _ _ (YQ.out w6 B6.out))
                         have c6 := EA.out _ _ (YP.out w6 B6.out)
                         clear BB)
                      | (with_reducible refine atC.at_load 25 25 ?_; refine pkC.wpList_load_partG (by kernel_rfl) 25 (.tmp 25) rfl q 1 (by kernel_rfl) LB _ ZQ.out Try.underlying25 rfl IB.out ?_)
                      | (with_reducible refine atC.at_load 25 27 ?_; refine pkC.wpList_load_partG (by kernel_rfl) 25 (.tmp 27) rfl p 1 (by kernel_rfl) LA _ ZP.out Try.underlying25 rfl IA.out ?_)
                      | (go_at_call 53; (with_reducible refine (LBA.out w6).mono ?_); rintro e w7 ⟨rfl, BB⟩
                         have B7 := Lib.hid (B6.out.trans (BB.mono B6.out.size))
                         have c19 := C19.out w7 (YR.out w7 B7.out)
                         have c20 := C20.out w7 (YR.out w7 B7.out)
                         have d19 := D19.out w7 (YR.out w7 B7.out)
                         have d20 := D20.out w7 (YR.out w7 B7.out)
                         clear BB)
                      | (go_at_call 54; (with_reducible refine (P1.out _).mono ?_); rintro e w8 ⟨rfl, hw⟩; obtain rfl := hw.symm)
                      | (go_at_call 54; (with_reducible refine (P2.out _).mono ?_); rintro e w8 ⟨rfl, hw⟩; obtain rfl := hw.symm))
                    go_ret
                    exact ⟨ret_bool (by first | exact hv.out | exact hv.out.symm), HB.out.trans ((YR.out _ B7.out).mono HB.out.size)⟩
                  · have qr : (brp == 0) = false := beq_eq_false_iff_ne.2 hr0
                    have hv := Lib.hid (show V = false by rw [HV.out, if_neg hgt]; simp [hl0, hr0])
                    clear HV hl0 hr0
                    go_wp2_with (first
                      | go_skip
                      | (with_reducible refine atC.at_load 41 2 ?_; refine wpList_load_rowG (by kernel_rfl) 41 (.tmp 2) rfl _ (by kernel_rfl) _ _ _ _ X4.out Try.underlying41 rfl IKA.out ?_)
                      | (go_at_call 35; (with_reducible refine (MA.out W4).mono ?_); rintro e w5 ⟨rfl, BB⟩
                         have B5 := Lib.hid BB
                         have X5 := Lib.hid (YB.out w5 BB)
                         clear BB)
                      | (with_reducible refine atC.at_load 41 3 ?_; refine wpList_load_rowG (by kernel_rfl) 41 (.tmp 3) rfl _ (by kernel_rfl) _ _ _ _ X5.out Try.underlying41 rfl IKB.out ?_)
                      | (go_at_call 35; (with_reducible refine (MB.out w5).mono ?_); rintro e w6 ⟨rfl, BB⟩
                         have B6 := Lib.hid (B5.out.trans (BB.mono B5.out.size))
                         have ZP := Lib.hid (PA.out _ _ (YP.out w6 B6.out))
                         have ZQ := Lib.hid (PB.out _ _ (YQ.out w6 B6.out))
                         have c6 := EA.out _ _ (YP.out w6 B6.out)
                         clear BB)
                      | (with_reducible refine atC.at_load 25 25 ?_; refine pkC.wpList_load_partG (by kernel_rfl) 25 (.tmp 25) rfl q 1 (by kernel_rfl) LB _ ZQ.out Try.underlying25 rfl IB.out ?_)
                      | (with_reducible refine atC.at_load 25 27 ?_; refine pkC.wpList_load_partG (by kernel_rfl) 25 (.tmp 27) rfl p 1 (by kernel_rfl) LA _ ZP.out Try.underlying25 rfl IA.out ?_)
                      | (go_at_call 53; (with_reducible refine (LBA.out w6).mono ?_); rintro e w7 ⟨rfl, BB⟩
                         have B7 := Lib.hid (B6.out.trans (BB.mono B6.out.size))
                         have c19 := C19.out w7 (YR.out w7 B7.out)
                         have c20 := C20.out w7 (YR.out w7 B7.out)
                         have d19 := D19.out w7 (YR.out w7 B7.out)
                         have d20 := D20.out w7 (YR.out w7 B7.out)
                         clear BB)
                      | (go_at_call 54; (with_reducible refine (P1.out _).mono ?_); rintro e w8 ⟨rfl, hw⟩; obtain rfl := hw.symm)
                      | (go_at_call 54; (with_reducible refine (P2.out _).mono ?_); rintro e w8 ⟨rfl, hw⟩; obtain rfl := hw.symm))
                    go_ret
                    exact ⟨ret_bool (by first | exact hv.out | exact hv.out.symm), HB.out.trans ((YR.out _ B7.out).mono HB.out.size)⟩
                · have hv := Lib.hid (show V = true by rw [HV.out, if_neg hgt]; simp [hl0])
                  clear HV hl0
                  go_wp2_with (first
                    | go_skip
                    | (with_reducible refine atC.at_load 41 2 ?_; refine wpList_load_rowG (by kernel_rfl) 41 (.tmp 2) rfl _ (by kernel_rfl) _ _ _ _ X4.out Try.underlying41 rfl IKA.out ?_)
                    | (go_at_call 35; (with_reducible refine (MA.out W4).mono ?_); rintro e w5 ⟨rfl, BB⟩
                       have B5 := Lib.hid BB
                       have X5 := Lib.hid (YB.out w5 BB)
                       clear BB)
                    | (with_reducible refine atC.at_load 41 3 ?_; refine wpList_load_rowG (by kernel_rfl) 41 (.tmp 3) rfl _ (by kernel_rfl) _ _ _ _ X5.out Try.underlying41 rfl IKB.out ?_)
                    | (go_at_call 35; (with_reducible refine (MB.out w5).mono ?_); rintro e w6 ⟨rfl, BB⟩
                       have B6 := Lib.hid (B5.out.trans (BB.mono B5.out.size))
                       have ZP := Lib.hid (PA.out _ _ (YP.out w6 B6.out))
                       have ZQ := Lib.hid (PB.out _ _ (YQ.out w6 B6.out))
                       have c6 := EA.out _ _ (YP.out w6 B6.out)
                       clear BB)
                    | (with_reducible refine atC.at_load 25 25 ?_; refine pkC.wpList_load_partG (by kernel_rfl) 25 (.tmp 25) rfl q 1 (by kernel_rfl) LB _ ZQ.out Try.underlying25 rfl IB.out ?_)
                    | (with_reducible refine atC.at_load 25 27 ?_; refine pkC.wpList_load_partG (by kernel_rfl) 25 (.tmp 27) rfl p 1 (by kernel_rfl) LA _ ZP.out Try.underlying25 rfl IA.out ?_)
                    | (go_at_call 53; (with_reducible refine (LBA.out w6).mono ?_); rintro e w7 ⟨rfl, BB⟩
                       have B7 := Lib.hid (B6.out.trans (BB.mono B6.out.size))
                       have c19 := C19.out w7 (YR.out w7 B7.out)
                       have c20 := C20.out w7 (YR.out w7 B7.out)
                       have d19 := D19.out w7 (YR.out w7 B7.out)
                       have d20 := D20.out w7 (YR.out w7 B7.out)
                       clear BB)
                    | (go_at_call 54; (with_reducible refine (P1.out _).mono ?_); rintro e w8 ⟨rfl, hw⟩; obtain rfl := hw.symm)
                    | (go_at_call 54; (with_reducible refine (P2.out _).mono ?_); rintro e w8 ⟨rfl, hw⟩; obtain rfl := hw.symm))
                  go_ret
                  exact ⟨ret_bool (by first | exact hv.out | exact hv.out.symm), HB.out.trans ((YR.out _ B7.out).mono HB.out.size)⟩
              · have ql : (blp == 0) = false := beq_eq_false_iff_ne.2 hl0
                have hv := Lib.hid (show V = false by rw [HV.out, if_neg hgt]; simp [hl0])
                clear HV hl0
                go_wp2_with (first
                  | go_skip
                  | (with_reducible refine atC.at_load 41 2 ?_; refine wpList_load_rowG (by kernel_rfl) 41 (.tmp 2) rfl _ (by kernel_rfl) _ _ _ _ X4.out Try.underlying41 rfl IKA.out ?_)
                  | (go_at_call 35; (with_reducible refine (MA.out W4).mono ?_); rintro e w5 ⟨rfl, BB⟩
                     have B5 := Lib.hid BB
                     have X5 := Lib.hid (YB.out w5 BB)
                     clear BB)
                  | (with_reducible refine atC.at_load 41 3 ?_; refine wpList_load_rowG (by kernel_rfl) 41 (.tmp 3) rfl _ (by kernel_rfl) _ _ _ _ X5.out Try.underlying41 rfl IKB.out ?_)
                  | (go_at_call 35; (with_reducible refine (MB.out w5).mono ?_); rintro e w6 ⟨rfl, BB⟩
                     have B6 := Lib.hid (B5.out.trans (BB.mono B5.out.size))
                     have ZP := Lib.hid (PA.out _ _ (YP.out w6 B6.out))
                     have ZQ := Lib.hid (PB.out _ _ (YQ.out w6 B6.out))
                     have c6 := EA.out _ _ (YP.out w6 B6.out)
                     clear BB)
                  | (with_reducible refine atC.at_load 25 25 ?_; refine pkC.wpList_load_partG (by kernel_rfl) 25 (.tmp 25) rfl q 1 (by kernel_rfl) LB _ ZQ.out Try.underlying25 rfl IB.out ?_)
                  | (with_reducible refine atC.at_load 25 27 ?_; refine pkC.wpList_load_partG (by kernel_rfl) 25 (.tmp 27) rfl p 1 (by kernel_rfl) LA _ ZP.out Try.underlying25 rfl IA.out ?_)
                  | (go_at_call 53; (with_reducible refine (LBA.out w6).mono ?_); rintro e w7 ⟨rfl, BB⟩
                     have B7 := Lib.hid (B6.out.trans (BB.mono B6.out.size))
                     have c19 := C19.out w7 (YR.out w7 B7.out)
                     have c20 := C20.out w7 (YR.out w7 B7.out)
                     have d19 := D19.out w7 (YR.out w7 B7.out)
                     have d20 := D20.out w7 (YR.out w7 B7.out)
                     clear BB)
                  | (go_at_call 54; (with_reducible refine (P1.out _).mono ?_); rintro e w8 ⟨rfl, hw⟩; obtain rfl := hw.symm)
                  | (go_at_call 54; (with_reducible refine (P2.out _).mono ?_); rintro e w8 ⟨rfl, hw⟩; obtain rfl := hw.symm))
                go_ret
                exact ⟨ret_bool (by first | exact hv.out | exact hv.out.symm), HB.out.trans ((YR.out _ B7.out).mono HB.out.size)⟩
            · cases p2
              · by_cases hr0 : brp = 0
                · have qr : (brp == 0) = true := beq_iff_eq.2 hr0
                  have hv := Lib.hid (show V = true by rw [HV.out, if_neg hgt]; simp [hr0])
                  clear HV hr0
                  go_wp2_with (first
                    | go_skip
                    | (with_reducible refine atC.at_load 41 2 ?_; refine wpList_load_rowG (by kernel_rfl) 41 (.tmp 2) rfl _ (by kernel_rfl) _ _ _ _ X4.out Try.underlying41 rfl IKA.out ?_)
                    | (go_at_call 35; (with_reducible refine (MA.out W4).mono ?_); rintro e w5 ⟨rfl, BB⟩
                       have B5 := Lib.hid BB
                       have X5 := Lib.hid (YB.out w5 BB)
                       clear BB)
                    | (with_reducible refine atC.at_load 41 3 ?_; refine wpList_load_rowG (by kernel_rfl) 41 (.tmp 3) rfl _ (by kernel_rfl) _ _ _ _ X5.out Try.underlying41 rfl IKB.out ?_)
                    | (go_at_call 35; (with_reducible refine (MB.out w5).mono ?_); rintro e w6 ⟨rfl, BB⟩
                       have B6 := Lib.hid (B5.out.trans (BB.mono B5.out.size))
                       have ZP := Lib.hid (PA.out _ _ (YP.out w6 B6.out))
                       have ZQ := Lib.hid (PB.out _ _ (YQ.out w6 B6.out))
                       have c6 := EA.out _ _ (YP.out w6 B6.out)
                       clear BB)
                    | (with_reducible refine atC.at_load 25 25 ?_; refine pkC.wpList_load_partG (by kernel_rfl) 25 (.tmp 25) rfl q 1 (by kernel_rfl) LB _ ZQ.out Try.underlying25 rfl IB.out ?_)
                    | (with_reducible refine atC.at_load 25 27 ?_; refine pkC.wpList_load_partG (by kernel_rfl) 25 (.tmp 27) rfl p 1 (by kernel_rfl) LA _ ZP.out Try.underlying25 rfl IA.out ?_)
                    | (go_at_call 53; (with_reducible refine (LBA.out w6).mono ?_); rintro e w7 ⟨rfl, BB⟩
                       have B7 := Lib.hid (B6.out.trans (BB.mono B6.out.size))
                       have c19 := C19.out w7 (YR.out w7 B7.out)
                       have c20 := C20.out w7 (YR.out w7 B7.out)
                       have d19 := D19.out w7 (YR.out w7 B7.out)
                       have d20 := D20.out w7 (YR.out w7 B7.out)
                       clear BB)
                    | (go_at_call 54; (with_reducible refine (P1.out _).mono ?_); rintro e w8 ⟨rfl, hw⟩; obtain rfl := hw.symm)
                    | (go_at_call 54; (with_reducible refine (P2.out _).mono ?_); rintro e w8 ⟨rfl, hw⟩; obtain rfl := hw.symm))
                  go_ret
                  exact ⟨ret_bool (by first | exact hv.out | exact hv.out.symm), HB.out.trans ((YR.out _ B7.out).mono HB.out.size)⟩
                · have qr : (brp == 0) = false := beq_eq_false_iff_ne.2 hr0
                  have hv := Lib.hid (show V = false by rw [HV.out, if_neg hgt]; simp [hr0])
                  clear HV hr0
                  go_wp2_with (first
                    | go_skip
                    | (with_reducible refine atC.at_load 41 2 ?_; refine wpList_load_rowG (by kernel_rfl) 41 (.tmp 2) rfl _ (by kernel_rfl) _ _ _ _ X4.out Try.underlying41 rfl IKA.out ?_)
                    | (go_at_call 35; (with_reducible refine (MA.out W4).mono ?_); rintro e w5 ⟨rfl, BB⟩
                       have B5 := Lib.hid BB
                       have X5 := Lib.hid (YB.out w5 BB)
                       clear BB)
                    | (with_reducible refine atC.at_load 41 3 ?_; refine wpList_load_rowG (by kernel_rfl) 41 (.tmp 3) rfl _ (by kernel_rfl) _ _ _ _ X5.out Try.underlying41 rfl IKB.out ?_)
                    | (go_at_call 35; (with_reducible refine (MB.out w5).mono ?_); rintro e w6 ⟨rfl, BB⟩
                       have B6 := Lib.hid (B5.out.trans (BB.mono B5.out.size))
                       have ZP := Lib.hid (PA.out _ _ (YP.out w6 B6.out))
                       have ZQ := Lib.hid (PB.out _ _ (YQ.out w6 B6.out))
                       have c6 := EA.out _ _ (YP.out w6 B6.out)
                       clear BB)
                    | (with_reducible refine atC.at_load 25 25 ?_; refine pkC.wpList_load_partG (by kernel_rfl) 25 (.tmp 25) rfl q 1 (by kernel_rfl) LB _ ZQ.out Try.underlying25 rfl IB.out ?_)
                    | (with_reducible refine atC.at_load 25 27 ?_; refine pkC.wpList_load_partG (by kernel_rfl) 25 (.tmp 27) rfl p 1 (by kernel_rfl) LA _ ZP.out Try.underlying25 rfl IA.out ?_)
                    | (go_at_call 53; (with_reducible refine (LBA.out w6).mono ?_); rintro e w7 ⟨rfl, BB⟩
                       have B7 := Lib.hid (B6.out.trans (BB.mono B6.out.size))
                       have c19 := C19.out w7 (YR.out w7 B7.out)
                       have c20 := C20.out w7 (YR.out w7 B7.out)
                       have d19 := D19.out w7 (YR.out w7 B7.out)
                       have d20 := D20.out w7 (YR.out w7 B7.out)
                       clear BB)
                    | (go_at_call 54; (with_reducible refine (P1.out _).mono ?_); rintro e w8 ⟨rfl, hw⟩; obtain rfl := hw.symm)
                    | (go_at_call 54; (with_reducible refine (P2.out _).mono ?_); rintro e w8 ⟨rfl, hw⟩; obtain rfl := hw.symm))
                  go_ret
                  exact ⟨ret_bool (by first | exact hv.out | exact hv.out.symm), HB.out.trans ((YR.out _ B7.out).mono HB.out.size)⟩
              · have hv := Lib.hid (show V = true by rw [HV.out, if_neg hgt]; simp)
                clear HV
                go_wp2_with (first
                  | go_skip
                  | (with_reducible refine atC.at_load 41 2 ?_; refine wpList_load_rowG (by kernel_rfl) 41 (.tmp 2) rfl _ (by kernel_rfl) _ _ _ _ X4.out Try.underlying41 rfl IKA.out ?_)
                  | (go_at_call 35; (with_reducible refine (MA.out W4).mono ?_); rintro e w5 ⟨rfl, BB⟩
                     have B5 := Lib.hid BB
                     have X5 := Lib.hid (YB.out w5 BB)
                     clear BB)
                  | (with_reducible refine atC.at_load 41 3 ?_; refine wpList_load_rowG (by kernel_rfl) 41 (.tmp 3) rfl _ (by kernel_rfl) _ _ _ _ X5.out Try.underlying41 rfl IKB.out ?_)
                  | (go_at_call 35; (with_reducible refine (MB.out w5).mono ?_); rintro e w6 ⟨rfl, BB⟩
                     have B6 := Lib.hid (B5.out.trans (BB.mono B5.out.size))
                     have ZP := Lib.hid (PA.out _ _ (YP.out w6 B6.out))
                     have ZQ := Lib.hid (PB.out _ _ (YQ.out w6 B6.out))
                     have c6 := EA.out _ _ (YP.out w6 B6.out)
                     clear BB)
                  | (with_reducible refine atC.at_load 25 25 ?_; refine pkC.wpList_load_partG (by kernel_rfl) 25 (.tmp 25) rfl q 1 (by kernel_rfl) LB _ ZQ.out Try.underlying25 rfl IB.out ?_)
                  | (with_reducible refine atC.at_load 25 27 ?_; refine pkC.wpList_load_partG (by kernel_rfl) 25 (.tmp 27) rfl p 1 (by kernel_rfl) LA _ ZP.out Try.underlying25 rfl IA.out ?_)
                  | (go_at_call 53; (with_reducible refine (LBA.out w6).mono ?_); rintro e w7 ⟨rfl, BB⟩
                     have B7 := Lib.hid (B6.out.trans (BB.mono B6.out.size))
                     have c19 := C19.out w7 (YR.out w7 B7.out)
                     have c20 := C20.out w7 (YR.out w7 B7.out)
                     have d19 := D19.out w7 (YR.out w7 B7.out)
                     have d20 := D20.out w7 (YR.out w7 B7.out)
                     clear BB)
                  | (go_at_call 54; (with_reducible refine (P1.out _).mono ?_); rintro e w8 ⟨rfl, hw⟩; obtain rfl := hw.symm)
                  | (go_at_call 54; (with_reducible refine (P2.out _).mono ?_); rintro e w8 ⟨rfl, hw⟩; obtain rfl := hw.symm))
                go_ret
                exact ⟨ret_bool (by first | exact hv.out | exact hv.out.symm), HB.out.trans ((YR.out _ B7.out).mono HB.out.size)⟩
end Go.Proofs.Ytflfkhcbkhdahaa.mkC
