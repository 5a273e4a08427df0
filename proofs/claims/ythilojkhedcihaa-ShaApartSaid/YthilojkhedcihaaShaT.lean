/-
  The walk of the fourth statement, the walk itself.
-/
import Derived.Test.YthilojkhedcihaaShaS
namespace Go.Proofs.Ythilojkhedcihaa.shaC
open Go.ChangeShapes Go.WideShapes Go.ChangeAt Go.RowKit
open Go.Proofs.Ythilojkhedcihaa.memC Go.Proofs.Ythilojkhedcihaa.genC Go.Proofs.Ythilojkhedcihaa.shaM Go.Proofs.Ythilojkhedcihaa.shaN Go.Proofs.Ythilojkhedcihaa.butC Go.Proofs.Ythilojkhedcihaa.partsC Go.Proofs.Ythilojkhedcihaa.freeC
set_option linter.unusedVariables false
/-- three Sums lie in memory, and what was there stands -/
structure Rw (w0 : World) (k g g' : Nat) (S Sb Sc : Array Value) (w : World) : Prop where
  bel : Below w0.heap.size w0 w
  r0 : w.heap[k]? = some (.cells S 33 (0, 0))
  r1 : w.heap[g]? = some (.cells Sb 33 (0, 0))
  r2 : w.heap[g']? = some (.cells Sc 33 (0, 0))
theorem Rw.below {w0 w w' : World} {k g g' : Nat} {S Sb Sc : Array Value} (h : Rw w0 k g g' S Sb Sc w) (b : Below w.heap.size w w') : Rw w0 k g g' S Sb Sc w' :=
  ⟨h.bel.trans (b.mono h.bel.size), (b.block _ (row_lt h.r0)).trans h.r0, (b.block _ (row_lt h.r1)).trans h.r1, (b.block _ (row_lt h.r2)).trans h.r2⟩
set_option maxRecDepth 100000 in
set_option maxHeartbeats 1000000 in
theorem apart_long (A1 A2 A3 : Option Addr) (n1 c1 n2 c2 n3 c3 : Nat) (w : World) (h1 : n1 ≤ 9223372036854775807) (h2 : n2 ≤ 9223372036854775807) (h3 : n3 ≤ 9223372036854775807) (h : 2000 < n1 ∨ 2000 < n2 ∨ 2000 < n3) :
    Calls Try.prog 6 #[.slice A1 n1 c1, .slice A2 n2 c2, .slice A3 n3 c3] w (AliveRet w) := by
  rcases Nat.lt_or_ge 2000 n1 with e1 | e1 <;> rcases Nat.lt_or_ge 2000 n2 with e2 | e2 <;> rcases Nat.lt_or_ge 2000 n3 with e3 | e3
  all_goals try (exfalso; omega)
  all_goals
    first
    | (have d1 : decide (2000 < n1) = true := by simpa using e1)
    | (have d1 : decide (2000 < n1) = false := by simpa using e1)
    first
    | (have d2 : decide (2000 < n2) = true := by simpa using e2)
    | (have d2 : decide (2000 < n2) = false := by simpa using e2)
    first
    | (have d3 : decide (2000 < n3) = true := by simpa using e3)
    | (have d3 : decide (2000 < n3) = false := by simpa using e3)
    clear e1 e2 e3 h
    go_enter Try.func6, Try.ntmps6
    go_wp2_with (first
      | (go_at_call 7; (with_reducible refine (long_any A1 n1 c1 _ h1).mono ?_); rintro e w' ⟨rfl, rfl⟩)
      | (go_at_call 7; (with_reducible refine (long_any A2 n2 c2 _ h2).mono ?_); rintro e w' ⟨rfl, rfl⟩)
      | (go_at_call 7; (with_reducible refine (long_any A3 n3 c3 _ h3).mono ?_); rintro e w' ⟨rfl, rfl⟩)
      | (go_at_call 8; refine (alive_any _).mono ?_; rintro e w' ⟨rfl, B⟩))
    go_ret
    exact ⟨rfl, B⟩
set_option maxRecDepth 100000 in
set_option maxHeartbeats 2000000 in
theorem apart_short (A1 A2 A3 : Option Addr) (n1 c1 n2 c2 n3 c3 : Nat) (xa xb xc : List Int) (w : World) (ha : PartAt w w.heap.size ⟨A1, n1, c1, xa⟩) (hb : PartAt w w.heap.size ⟨A2, n2, c2, xb⟩) (hc : PartAt w w.heap.size ⟨A3, n3, c3, xc⟩)
    (e1 : n1 ≤ 2000) (e2 : n2 ≤ 2000) (e3 : n3 ≤ 2000) :
    Calls Try.prog 6 #[.slice A1 n1 c1, .slice A2 n2 c2, .slice A3 n3 c3] w (AliveRet w) := by
  have d1 : decide (2000 < n1) = false := by simpa using e1
  have d2 : decide (2000 < n2) = false := by simpa using e2
  have d3 : decide (2000 < n3) = false := by simpa using e3
  have h1 : n1 ≤ 9223372036854775807 := by omega
  have h2 : n2 ≤ 9223372036854775807 := by omega
  have h3 : n3 ≤ 9223372036854775807 := by omega
  have la : xa.length = n1 := ha.nums.len
  have lb : xb.length = n2 := hb.nums.len
  have lc : xc.length = n3 := hc.nums.len
  have PA := fun (w' : World) (B : Below w.heap.size w w') => ha.below B B.size
  have PB := fun (w' : World) (B : Below w.heap.size w w') => hb.below B B.size
  have PC := fun (w' : World) (B : Below w.heap.size w w') => hc.below B B.size
  have ya : ∀ x ∈ xa, Byte x := ha.byte
  have yb : ∀ x ∈ xa ++ xb, Byte x := app_byte ha.byte hb.byte
  have yc : ∀ x ∈ xa ++ xc, Byte x := app_byte ha.byte hc.byte
  have AD0 := fun (w' : World) (B : Below w.heap.size w w') => add_any [] xa A1 n1 c1 w' (PA w' B).nums ha.cap ha.max (by simp) ha.byte (by simp; omega)
  have ADb := fun (w' : World) (B : Below w.heap.size w w') => add_any xa xb A2 n2 c2 w' (PB w' B).nums hb.cap hb.max ha.byte hb.byte (by omega)
  have ADc := fun (w' : World) (B : Below w.heap.size w w') => add_any xa xc A3 n3 c3 w' (PC w' B).nums hc.cap hc.max ha.byte hc.byte (by omega)
  have DGa := fun (w' : World) => (digest_any xa w' ya (by omega)).mono fun e w'' h => (show e = .returned (.agg (digA xa)) ∧ Below w'.heap.size w' w'' from h)
  have DGb := fun (w' : World) => (digest_any (xa ++ xb) w' yb (by rw [List.length_append]; omega)).mono fun e w'' h => (show e = .returned (.agg (digA (xa ++ xb))) ∧ Below w'.heap.size w' w'' from h)
  have DGc := fun (w' : World) => (digest_any (xa ++ xc) w' yc (by rw [List.length_append]; omega)).mono fun e w'' h => (show e = .returned (.agg (digA (xa ++ xc))) ∧ Below w'.heap.size w' w'' from h)
  have OFa := fun (w' : World) (B : Below w.heap.size w w') => of1 (PA w' B)
  have OFb := fun (w' : World) (B : Below w.heap.size w w') => of2 (PA w' B) (PB w' B)
  have OFc := fun (w' : World) (B : Below w.heap.size w w') => of2 (PA w' B) (PC w' B)
  have NW := fun (w' : World) => new_any w'
  unfold SumRet at AD0 ADb ADc NW
  rw [List.nil_append] at AD0
  obtain ⟨Z, hZ⟩ : ∃ Z, Z = (sumL []).toArray := ⟨_, rfl⟩
  obtain ⟨S, hS⟩ : ∃ S, S = (sumL xa).toArray := ⟨_, rfl⟩
  obtain ⟨Sb, hSb⟩ : ∃ Sb, Sb = (sumL (xa ++ xb)).toArray := ⟨_, rfl⟩
  obtain ⟨Sc, hSc⟩ : ∃ Sc, Sc = (sumL (xa ++ xc)).toArray := ⟨_, rfl⟩
  have hzv := zero70
  rw [← sumL_nil] at hzv
  have sz : ∀ xs, ((sumL xs).toArray).size = 70 := fun xs => by simp [sumL_len]
  have U0 := Lib.hid (show (Try.prog.info? 33).map (·.size) = some S.size by rw [sum_info, hS, sz])
  have Ub := Lib.hid (show (Try.prog.info? 33).map (·.size) = some Sb.size by rw [sum_info, hSb, sz])
  have Uc := Lib.hid (show (Try.prog.info? 33).map (·.size) = some Sc.size by rw [sum_info, hSc, sz])
  have Z0 := Lib.hid (show Z.size = S.size by rw [hZ, hS, sz, sz])
  have Zb := Lib.hid (show Z.size = Sb.size by rw [hZ, hSb, sz, sz])
  have Zc := Lib.hid (show Z.size = Sc.size by rw [hZ, hSc, sz, sz])
  have O0 := Lib.hid (show S.all (·.oneCell') = true by rw [hS]; exact sumC_one _ _ _)
  have Ob := Lib.hid (show Sb.all (·.oneCell') = true by rw [hSb]; exact sumC_one _ _ _)
  have Oc := Lib.hid (show Sc.all (·.oneCell') = true by rw [hSc]; exact sumC_one _ _ _)
  unfold sumL at hZ hS hSb hSc hzv
  simp only [sumL] at AD0 ADb ADc DGa DGb DGc NW
  rw [← hZ] at hzv
  simp only [← hZ, ← hS, ← hSb, ← hSc] at AD0 ADb ADc DGa DGb DGc NW
  have hm := dig_guard
  have qa := dig_eq xa
  have qb := dig_eq (xa ++ xb)
  have qc := dig_eq (xa ++ xc)
  generalize digA xa = Xa at *
  generalize digA (xa ++ xb) = Xb at *
  generalize digA (xa ++ xc) = Xc at *
  have AD0 := Lib.hid AD0; have ADb := Lib.hid ADb; have ADc := Lib.hid ADc
  have DGa := Lib.hid DGa; have DGb := Lib.hid DGb; have DGc := Lib.hid DGc
  have OFa := Lib.hid OFa; have OFb := Lib.hid OFb; have OFc := Lib.hid OFc
  have NW := Lib.hid NW
  clear hZ hS hSb hSc sz PA PB PC ya yb yc la lb lc ha hb hc e1 e2 e3
  have BB := Below.refl w.heap.size w
  go_enter Try.func6, Try.ntmps6
  go_upto_region 4 with (first
    | (go_at_call 7; (with_reducible refine (long_any A1 n1 c1 _ h1).mono ?_); rintro e w' ⟨rfl, rfl⟩)
    | (go_at_call 7; (with_reducible refine (long_any A2 n2 c2 _ h2).mono ?_); rintro e w' ⟨rfl, rfl⟩)
    | (go_at_call 7; (with_reducible refine (long_any A3 n3 c3 _ h3).mono ?_); rintro e w' ⟨rfl, rfl⟩)
    | (go_at_call 11; (with_reducible refine (NW.out _).mono ?_); rintro e w1 ⟨rfl, B1⟩; have BB := BB.trans (B1.mono BB.size))
    | (go_at_call 12; (with_reducible refine (AD0.out _ BB).mono ?_); rintro e w2 ⟨rfl, B2⟩; have BB := BB.trans (B2.mono BB.size))
    | (refine wpList_store_row rfl 33 (.tmp 7) (.tmp 23) rfl w2.heap.size S rfl rfl _ _ (heap_alloc_new _ _) U0.out Z0.out O0.out ?_))
  rw [World.setRow_alloc_new]
  have J0 : JR w w2.heap.size S Sb Sc Z (.slice A2 n2 c2) (.slice A3 n3 c3) (fun _ => false) (fun i => undef) (w2.alloc (.cells S 33)).drew := by
    refine ⟨(BB.alloc BB.size _).drew, heap_alloc_new w2 _, ?_, ?_, ?_, ?_, ?_, ?_, ?_, ?_, ?_, ?_, ?_⟩
    all_goals (intro h; cases h)
  generalize w2.alloc (.cells S 33) = w3 at *
  generalize w2.heap.size = k at *
  have HJ0 := Lib.hid J0
  clear BB B1 B2 J0
  refine with_act fun a0 ha0 => ?_
  have hl : tabA.length = a0.tmps.size := by rw [ha0]; rfl
  have k7 : a0.tmps[7]?.getD undef = .pointer (some ⟨k, 0, none⟩) := by rw [ha0]; rfl
  have k1 : a0.tmps[1]?.getD undef = .slice A2 n2 c2 := by rw [ha0]; rfl
  have k2 : a0.tmps[2]?.getD undef = .slice A3 n3 c3 := by rw [ha0]; rfl
  refine wp_region_J (by kernel_rfl) tabA (by kernel_rfl) (by kernel_rfl) hl (fun i => undef) (by rw [ha0]; rfl) (JR w k S Sb Sc Z (.slice A2 n2 c2) (.slice A3 n3 c3)) HJ0.out ⟨?_, ?_, ?_, ?_, ?_, ?_, ?_, ?_, ?_, ?_, trivial⟩ ?_
  · refine stepJ [] (by kernel_rfl) rfl fun m us w' hJ hmi hd => ?_
    have o7 := (frame_old2 (us := us) (a := a0) (show (tabA[7]?).join = none from rfl)).trans k7
    generalize frame tabA a0 us = fr at *
    exact load_J 33 7 rfl k o7 _ S (0, 0) _ hJ.row Try.underlying33 rfl U0.out (hJ.val 0 (by omega) _ rfl (Below.refl _ _))
  · refine stepJ [] (by kernel_rfl) rfl fun m us w' hJ hmi hd => ?_
    have o1 := (frame_old2 (us := us) (a := a0) (show (tabA[1]?).join = none from rfl)).trans k1
    generalize frame tabA a0 us = fr at *
    exact val_J (v := .slice A2 n2 c2) (w' := w') (by go_simp) (hJ.val 1 (by omega) _ rfl (Below.refl _ _))
  · refine stepJ [0, 1] (by kernel_rfl) rfl fun m us w' hJ hmi hd => ?_
    have v0 := (frame_at2 (us := us) hl (show (tabA[24]?).join = some 0 from rfl)).trans (hJ.v0 (hd 0 (by simp)))
    have v1 := (frame_at2 (us := us) hl (show (tabA[25]?).join = some 1 from rfl)).trans (hJ.v1 (hd 1 (by simp)))
    generalize frame tabA a0 us = fr at *
    exact call_J (f := 12) (args := #[.agg S, .slice A2 n2 c2]) (by go_simp) ((ADb.out w' hJ.bel).mono fun e w'' h => ⟨_, h.1, hJ.val 2 (by omega) _ rfl h.2⟩)
  · refine stepJ [] (by kernel_rfl) rfl fun m us w' hJ hmi hd => ?_
    have o7 := (frame_old2 (us := us) (a := a0) (show (tabA[7]?).join = none from rfl)).trans k7
    generalize frame tabA a0 us = fr at *
    exact load_J 33 7 rfl k o7 _ S (0, 0) _ hJ.row Try.underlying33 rfl U0.out (hJ.val 3 (by omega) _ rfl (Below.refl _ _))
  · refine stepJ [] (by kernel_rfl) rfl fun m us w' hJ hmi hd => ?_
    have o2 := (frame_old2 (us := us) (a := a0) (show (tabA[2]?).join = none from rfl)).trans k2
    generalize frame tabA a0 us = fr at *
    exact val_J (v := .slice A3 n3 c3) (w' := w') (by go_simp) (hJ.val 4 (by omega) _ rfl (Below.refl _ _))
  · refine stepJ [3, 4] (by kernel_rfl) rfl fun m us w' hJ hmi hd => ?_
    have v3 := (frame_at2 (us := us) hl (show (tabA[27]?).join = some 3 from rfl)).trans (hJ.v3 (hd 3 (by simp)))
    have v4 := (frame_at2 (us := us) hl (show (tabA[28]?).join = some 4 from rfl)).trans (hJ.v4 (hd 4 (by simp)))
    generalize frame tabA a0 us = fr at *
    exact call_J (f := 12) (args := #[.agg S, .slice A3 n3 c3]) (by go_simp) ((ADc.out w' hJ.bel).mono fun e w'' h => ⟨_, h.1, hJ.val 5 (by omega) _ rfl h.2⟩)
  · refine stepJ [] (by kernel_rfl) rfl fun m us w' hJ hmi hd => ?_
    generalize frame tabA a0 us = fr at *
    exact val_J (v := .pointer (some ⟨w'.heap.size, 0, none⟩)) (w' := w'.alloc (.cells Z 33)) (by go_simp) (hJ.x hmi)
  · refine stepJ [] (by kernel_rfl) rfl fun m us w' hJ hmi hd => ?_
    generalize frame tabA a0 us = fr at *
    exact val_J (v := .pointer (some ⟨w'.heap.size, 0, none⟩)) (w' := w'.alloc (.cells Z 33)) (by go_simp) (hJ.y hmi)
  · refine stepJ [6, 2] (by kernel_rfl) rfl fun m us w' hJ hmi hd => ?_
    obtain ⟨g, e1, e2, e3, e4⟩ := hJ.v6 (hd 6 (by simp))
    rw [hmi] at e4
    have v6 := (frame_at2 (us := us) hl (show (tabA[8]?).join = some 6 from rfl)).trans e1
    have v2 := (frame_at2 (us := us) hl (show (tabA[26]?).join = some 2 from rfl)).trans (hJ.v2 (hd 2 (by simp)))
    generalize frame tabA a0 us = fr at *
    exact store_J 33 8 26 rfl g Sb v6 v2 _ _ e4 Ub.out Zb.out Ob.out (hJ.sx g hmi (hd 6 (by simp)) e1)
  · refine stepJ [7, 5] (by kernel_rfl) rfl fun m us w' hJ hmi hd => ?_
    obtain ⟨g, e1, e2, e3, e4⟩ := hJ.v7 (hd 7 (by simp))
    rw [hmi] at e4
    have v7 := (frame_at2 (us := us) hl (show (tabA[9]?).join = some 7 from rfl)).trans e1
    have v5 := (frame_at2 (us := us) hl (show (tabA[29]?).join = some 5 from rfl)).trans (hJ.v5 (hd 5 (by simp)))
    generalize frame tabA a0 us = fr at *
    exact store_J 33 9 29 rfl g Sc v7 v5 _ _ e4 Uc.out Zc.out Oc.out (hJ.sy g hmi (hd 7 (by simp)) e1)
  · intro m us w5 hmm hJ
    obtain ⟨g, f1, f2, f3, f4⟩ := hJ.v6 (hmm 6 (by decide))
    obtain ⟨g', f1', f2', f3', f4'⟩ := hJ.v7 (hmm 7 (by decide))
    rw [hmm 8 (by decide)] at f4
    rw [hmm 9 (by decide)] at f4'
    have BB : Rw w k g g' S Sb Sc w5 := ⟨hJ.bel, hJ.row, f4, f4'⟩
    clear hJ hmm f2 f3 f4 f2' f3' f4' HJ0 hl k7 k1 k2
    subst ha0
    simp only [Act.put, frame, tabA, fill, f1, f1']
    clear f1 f1'
    go_wp2_with (first
      | (refine wpList_load_row rfl 33 (.tmp 7) rfl k rfl _ _ _ _ BB.r0 Try.underlying33 rfl U0.out ?_)
      | (refine wpList_load_rowG (by rfl) 33 (.tmp 7) rfl k rfl _ _ _ _ BB.r0 Try.underlying33 rfl U0.out ?_)
      | (refine wpList_load_rowG (by rfl) 33 (.tmp 8) rfl g rfl _ _ _ _ BB.r1 Try.underlying33 rfl Ub.out ?_)
      | (refine wpList_load_rowG (by rfl) 33 (.tmp 9) rfl g' rfl _ _ _ _ BB.r2 Try.underlying33 rfl Uc.out ?_)
      | (go_at_call 13; (with_reducible refine (DGa.out _).mono ?_); rintro e w' ⟨rfl, B⟩; have BB := BB.below B)
      | (go_at_call 13; (with_reducible refine (DGb.out _).mono ?_); rintro e w' ⟨rfl, B⟩; have BB := BB.below B)
      | (go_at_call 13; (with_reducible refine (DGc.out _).mono ?_); rintro e w' ⟨rfl, B⟩; have BB := BB.below B)
      | (go_at_call 12; (with_reducible refine (AD0.out _ BB.bel).mono ?_); rintro e w' ⟨rfl, B⟩; have BB := BB.below B)
      | (go_at_call 9; (with_reducible refine (OFa.out _ BB.bel).mono ?_); rintro e w' ⟨rfl, B⟩; have BB := BB.below B)
      | (go_at_call 9; (with_reducible refine (OFb.out _ BB.bel).mono ?_); rintro e w' ⟨rfl, B⟩; have BB := BB.below B)
      | (go_at_call 9; (with_reducible refine (OFc.out _ BB.bel).mono ?_); rintro e w' ⟨rfl, B⟩; have BB := BB.below B)
      | (go_at_call 8; refine (alive_any _).mono ?_; rintro e w' ⟨rfl, B⟩; have BB := BB.below B))
    go_ret
    exact ⟨rfl, BB.bel⟩
theorem apart_walk (A1 A2 A3 : Option Addr) (n1 c1 n2 c2 n3 c3 : Nat) (xa xb xc : List Int) (w : World) (Na : Nums .u8 w w.heap.size A1 n1 xa) (Nb : Nums .u8 w w.heap.size A2 n2 xb) (Nc : Nums .u8 w w.heap.size A3 n3 xc)
    (ya : ∀ x ∈ xa, Byte x) (yb : ∀ x ∈ xb, Byte x) (yc : ∀ x ∈ xc, Byte x) (a1 : n1 ≤ c1) (a2 : n2 ≤ c2) (a3 : n3 ≤ c3) (m1 : c1 ≤ 9223372036854775807) (m2 : c2 ≤ 9223372036854775807) (m3 : c3 ≤ 9223372036854775807) :
    Calls Try.prog 6 #[.slice A1 n1 c1, .slice A2 n2 c2, .slice A3 n3 c3] w (AliveRet w) := by
  by_cases h : 2000 < n1 ∨ 2000 < n2 ∨ 2000 < n3
  · exact apart_long A1 A2 A3 n1 c1 n2 c2 n3 c3 w (by omega) (by omega) (by omega) h
  · have e1 : n1 ≤ 2000 := by omega
    have e2 : n2 ≤ 2000 := by omega
    have e3 : n3 ≤ 2000 := by omega
    exact apart_short A1 A2 A3 n1 c1 n2 c2 n3 c3 xa xb xc w ⟨Na, by show n1 ≤ 10000; omega, ya, a1, m1⟩ ⟨Nb, by show n2 ≤ 10000; omega, yb, a2, m2⟩ ⟨Nc, by show n3 ≤ 10000; omega, yc, a3, m3⟩ e1 e2 e3
end Go.Proofs.Ythilojkhedcihaa.shaC
