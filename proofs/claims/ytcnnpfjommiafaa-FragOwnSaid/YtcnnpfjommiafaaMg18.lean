/-
  1 texts of a proof, joined.
-/
import Derived.Test.YtcnnpfjommiafaaMg16
import Derived.Test.YtcnnpfjommiafaaMg15
import Derived.Test.YtcnnpfjommiafaaMg17
import Derived.Shelf.SlSortCmp.WholeK
import Derived.Sort.OwnSortedInts

/-
  Rows of packets: whether one is among them; they are sorted by their offs.
-/
namespace Go.Proofs.Ytcnnpfjommiafaa.fgC
open Go.ChangeShapes Go.WideShapes Go.ChangeAt Go.RowKit
open Go.Proofs.Ytcnnpfjommiafaa.memC Go.Proofs.Ytcnnpfjommiafaa.genC Go.Proofs.Ytcnnpfjommiafaa.butC Go.Proofs.Ytcnnpfjommiafaa.freeC Go.Proofs.Ytcnnpfjommiafaa.adC
open Go.Proofs.Ytcnnpfjommiafaa.pkC (Pkt pktL pktV pktT adrC)
set_option linter.unusedVariables false
/-- what is asked of a piece in a row -/
structure Kx (e : Pe) : Prop where
  p : e.p.Ok
  l : e.x.length = e.n
  b : -9223372036854775808 ≤ e.p.off + (e.n : Int) ∧ e.p.off + (e.n : Int) ≤ 9223372036854775807
theorem RowK.cells {w : World} {B n : Nat} {A : Option Addr} {es : List Pe} (h : RowK w B A n es) (hn : 0 < n) : ∃ b o, A = some ⟨b, o, none⟩ ∧ b < B ∧ ∀ i e, es[i]? = some e → ∀ j v, e.cells[j]? = some v → w.cell? ⟨b, o + i * 41 + j, none⟩ = some v := h.at_ hn
set_option maxRecDepth 100000 in
set_option maxHeartbeats 4000000 in
theorem index_again (A : Option Addr) (bx n c : Nat) (es : List Pe) (m : Pe) (w : World) (hr : RowK w w.heap.size A n es) (hk : ∀ x ∈ es, Kx x) (hm : Kx m) (R : w.heap[bx]? = some (.cells (pktV m.p m.A m.n m.c) 28 (0, 0))) (hn2 : n ≤ 1000) :
    Calls Try.prog 58 #[.slice A n c, .func (.func 42) #[] #[.pointer (some ⟨bx, 0, none⟩)]] w fun e w' => ∃ r : Int, e = .returned (.int .i64 r) ∧ decide (0 ≤ r) = es.any (fun x => dupP m.pc x.pc) ∧ Below w.heap.size w w' := by
  have HR := Lib.hid hr
  have HM := Lib.hid hm
  have HK := Lib.hid hk
  have HX := Lib.hid R
  have HN := Lib.hid (show es.length = n ∧ n ≤ 1000 from ⟨hr.len, hn2⟩)
  obtain ⟨pr, hpr⟩ : ∃ f : Pe → Bool, f = fun x => dupP m.pc x.pc := ⟨_, rfl⟩
  rw [← hpr]
  have CC := Lib.hid (fun x (hxm : x ∈ es) w2 (R2 : w2.heap[bx]? = some (.cells (pktV m.p m.A m.n m.c) 28 (0, 0))) => (show Calls Try.prog 42 #[.agg x.cells.toArray, .pointer (some ⟨bx, 0, none⟩)] w2 (Ret w2 (.bool (pr x))) by rw [hpr]; exact again1_any x m bx w2 (HK.out x hxm).p HM.out.p (HK.out x hxm).l HM.out.l R2))
  clear hr hm hk R hn2 hpr HM
  go_enter Try.func58, Try.ntmps58
  go_upto_region 2 with fail
  go_loopw [8] (fun u wr => ∃ k : Nat, u = .int .i64 k ∧ k ≤ n ∧ (es.take k).any pr = false ∧ Below w.heap.size w wr) (fun u _ => 2000 - (intOf u).toNat)
  case atStart => exact ⟨0, rfl, Nat.zero_le _, rfl, Below.refl _ _⟩
  case round =>
    obtain ⟨k, rfl, hk, hno, hb⟩ := hrel
    have HB := Lib.hid hb
    have HNO := Lib.hid hno
    by_cases hkn : k < n
    rotate_left
    · have q : ¬ (k : Int) < (n : Int) := by omega
      have HE := Lib.hid (show es.any pr = false by
        have := HNO.out
        rwa [List.take_of_length_le (by have := HN.out; omega)] at this)
      clear hb hk hno hkn
      go_wp2_with fail
      go_ret
      exact ⟨-1, rfl, by rw [HE.out]; rfl, HB.out⟩
    have q : (k : Int) < (n : Int) := by omega
    have w1 : IntKind.i64.wrap ((k : Int) + 1) = (k : Int) + 1 := IntWalk.i64_in _ (by have := HN.out; omega)
    obtain ⟨x, hx⟩ : ∃ x, es[k]? = some x := ⟨_, List.getElem?_eq_getElem (by rw [HN.out.1]; exact hkn)⟩
    have hxm := List.mem_of_getElem? hx
    obtain ⟨b, of_, hA, hbl, hc⟩ := HR.out.at_ (by omega)
    have CL := Lib.hid (show ∀ j v, x.cells[j]? = some v → wr.cell? ⟨b, of_ + k * 41 + j, none⟩ = some v from fun j v hv => (HB.out.cell (p := ⟨b, of_ + k * 41 + j, none⟩) hbl).trans (hc k x hx j v hv))
    have IX := Lib.hid (pkt_size (HK.out x hxm).p)
    have EQ := Lib.hid (CC.out x hxm wr ((HB.out.block _ (Array.getElem?_eq_some_iff.1 HX.out).1).trans HX.out))
    have HT := Lib.hid (show es.take (k + 1) = es.take k ++ [x] by rw [List.take_add_one, hx]; rfl)
    have HKN := Lib.hid hkn
    have HXM := Lib.hid hxm
    subst hA
    cases hpx : pr x
    · rw [hpx] at EQ
      have HF := Lib.hid (show (es.take (k + 1)).any pr = false by rw [HT.out, List.any_append, HNO.out]; simp [hpx])
      clear hb hk hno hkn hx hxm hbl hc hpx
      generalize x.cells = X at *
      go_wp2_with (first
        | (refine partC.wpList_load_part rfl 28 (.tmp 14) rfl b (of_ + k * 41) rfl X _ CL.out Try.underlying28 rfl IX.out ?_)
        | (refine EQ.out.mono ?_; rintro e w2 ⟨rfl, hb2⟩; have HB2 := Lib.hid hb2; clear hb2))
      go_roundw
      case rel => exact ⟨k + 1, by simp, by have := HKN.out; omega, HF.out, HB.out.trans (HB2.out.mono HB.out.size)⟩
      case measure => have := HN.out; have := HKN.out; simp [intOf]; omega
    · rw [hpx] at EQ
      have HF := Lib.hid (show es.any pr = true from List.any_eq_true.2 ⟨x, hxm, hpx⟩)
      clear hb hk hno hkn hx hxm hbl hc hpx w1
      generalize x.cells = X at *
      go_wp2_with (first
        | (refine partC.wpList_load_part rfl 28 (.tmp 14) rfl b (of_ + k * 41) rfl X _ CL.out Try.underlying28 rfl IX.out ?_)
        | (refine EQ.out.mono ?_; rintro e w2 ⟨rfl, hb2⟩; have HB2 := Lib.hid hb2; clear hb2))
      go_ret
      exact ⟨(k : Int), rfl, by rw [HF.out]; exact decide_eq_true (by omega), HB.out.trans (HB2.out.mono HB.out.size)⟩
set_option maxRecDepth 100000 in
theorem any_again (A : Option Addr) (bx n c : Nat) (es : List Pe) (m : Pe) (w : World) (hr : RowK w w.heap.size A n es) (hk : ∀ x ∈ es, Kx x) (hm : Kx m) (R : w.heap[bx]? = some (.cells (pktV m.p m.A m.n m.c) 28 (0, 0))) (hn2 : n ≤ 1000) :
    Calls Try.prog 41 #[.slice A n c, .func (.func 42) #[] #[.pointer (some ⟨bx, 0, none⟩)]] w (Ret w (.bool (es.any (fun x => dupP m.pc x.pc)))) := by
  have IN := Lib.hid (index_again A bx n c es m w hr hk hm R hn2)
  generalize es.any (fun x => dupP m.pc x.pc) = V at *
  clear hr hk hm R hn2
  go_enter Try.func41, Try.ntmps41
  go_wp2_with (go_at_call 58; refine IN.out.mono ?_; rintro e w2 ⟨r, rfl, hv, hb⟩; have HB := Lib.hid hb; have HV := Lib.hid hv; clear hb hv)
  go_ret
  exact ⟨ret_bool (by first | exact HV.out | (rw [← HV.out])), HB.out⟩
set_option maxRecDepth 100000 in
set_option maxHeartbeats 4000000 in
theorem index_clash (A : Option Addr) (bx n c : Nat) (es : List Pe) (m : Pe) (w : World) (hr : RowK w w.heap.size A n es) (hk : ∀ x ∈ es, Kx x) (hm : Kx m) (R : w.heap[bx]? = some (.cells (pktV m.p m.A m.n m.c) 28 (0, 0))) (hn2 : n ≤ 1000) :
    Calls Try.prog 58 #[.slice A n c, .func (.func 44) #[] #[.pointer (some ⟨bx, 0, none⟩)]] w fun e w' => ∃ r : Int, e = .returned (.int .i64 r) ∧ decide (0 ≤ r) = es.any (fun x => clashP x.pc m.pc) ∧ Below w.heap.size w w' := by
  have HR := Lib.hid hr
  have HM := Lib.hid hm
  have HK := Lib.hid hk
  have HX := Lib.hid R
  have HN := Lib.hid (show es.length = n ∧ n ≤ 1000 from ⟨hr.len, hn2⟩)
  obtain ⟨pr, hpr⟩ : ∃ f : Pe → Bool, f = fun x => clashP x.pc m.pc := ⟨_, rfl⟩
  rw [← hpr]
  have CC := Lib.hid (fun x (hxm : x ∈ es) w2 (R2 : w2.heap[bx]? = some (.cells (pktV m.p m.A m.n m.c) 28 (0, 0))) => (show Calls Try.prog 44 #[.agg x.cells.toArray, .pointer (some ⟨bx, 0, none⟩)] w2 (Ret w2 (.bool (pr x))) by rw [hpr]; exact clash1_any x m bx w2 (HK.out x hxm).p HM.out.p (HK.out x hxm).l HM.out.l (HK.out x hxm).b HM.out.b R2))
  clear hr hm hk R hn2 hpr HM
  go_enter Try.func58, Try.ntmps58
  go_upto_region 2 with fail
  go_loopw [8] (fun u wr => ∃ k : Nat, u = .int .i64 k ∧ k ≤ n ∧ (es.take k).any pr = false ∧ Below w.heap.size w wr) (fun u _ => 2000 - (intOf u).toNat)
  case atStart => exact ⟨0, rfl, Nat.zero_le _, rfl, Below.refl _ _⟩
  case round =>
    obtain ⟨k, rfl, hk, hno, hb⟩ := hrel
    have HB := Lib.hid hb
    have HNO := Lib.hid hno
    by_cases hkn : k < n
    rotate_left
    · have q : ¬ (k : Int) < (n : Int) := by omega
      have HE := Lib.hid (show es.any pr = false by
        have := HNO.out
        rwa [List.take_of_length_le (by have := HN.out; omega)] at this)
      clear hb hk hno hkn
      go_wp2_with fail
      go_ret
      exact ⟨-1, rfl, by rw [HE.out]; rfl, HB.out⟩
    have q : (k : Int) < (n : Int) := by omega
    have w1 : IntKind.i64.wrap ((k : Int) + 1) = (k : Int) + 1 := IntWalk.i64_in _ (by have := HN.out; omega)
    obtain ⟨x, hx⟩ : ∃ x, es[k]? = some x := ⟨_, List.getElem?_eq_getElem (by rw [HN.out.1]; exact hkn)⟩
    have hxm := List.mem_of_getElem? hx
    obtain ⟨b, of_, hA, hbl, hc⟩ := HR.out.at_ (by omega)
    have CL := Lib.hid (show ∀ j v, x.cells[j]? = some v → wr.cell? ⟨b, of_ + k * 41 + j, none⟩ = some v from fun j v hv => (HB.out.cell (p := ⟨b, of_ + k * 41 + j, none⟩) hbl).trans (hc k x hx j v hv))
    have IX := Lib.hid (pkt_size (HK.out x hxm).p)
    have EQ := Lib.hid (CC.out x hxm wr ((HB.out.block _ (Array.getElem?_eq_some_iff.1 HX.out).1).trans HX.out))
    have HT := Lib.hid (show es.take (k + 1) = es.take k ++ [x] by rw [List.take_add_one, hx]; rfl)
    have HKN := Lib.hid hkn
    have HXM := Lib.hid hxm
    subst hA
    cases hpx : pr x
    · rw [hpx] at EQ
      have HF := Lib.hid (show (es.take (k + 1)).any pr = false by rw [HT.out, List.any_append, HNO.out]; simp [hpx])
      clear hb hk hno hkn hx hxm hbl hc hpx
      generalize x.cells = X at *
      go_wp2_with (first
        | (refine partC.wpList_load_part rfl 28 (.tmp 14) rfl b (of_ + k * 41) rfl X _ CL.out Try.underlying28 rfl IX.out ?_)
        | (refine EQ.out.mono ?_; rintro e w2 ⟨rfl, hb2⟩; have HB2 := Lib.hid hb2; clear hb2))
      go_roundw
      case rel => exact ⟨k + 1, by simp, by have := HKN.out; omega, HF.out, HB.out.trans (HB2.out.mono HB.out.size)⟩
      case measure => have := HN.out; have := HKN.out; simp [intOf]; omega
    · rw [hpx] at EQ
      have HF := Lib.hid (show es.any pr = true from List.any_eq_true.2 ⟨x, hxm, hpx⟩)
      clear hb hk hno hkn hx hxm hbl hc hpx w1
      generalize x.cells = X at *
      go_wp2_with (first
        | (refine partC.wpList_load_part rfl 28 (.tmp 14) rfl b (of_ + k * 41) rfl X _ CL.out Try.underlying28 rfl IX.out ?_)
        | (refine EQ.out.mono ?_; rintro e w2 ⟨rfl, hb2⟩; have HB2 := Lib.hid hb2; clear hb2))
      go_ret
      exact ⟨(k : Int), rfl, by rw [HF.out]; exact decide_eq_true (by omega), HB.out.trans (HB2.out.mono HB.out.size)⟩
set_option maxRecDepth 100000 in
theorem any_clash (A : Option Addr) (bx n c : Nat) (es : List Pe) (m : Pe) (w : World) (hr : RowK w w.heap.size A n es) (hk : ∀ x ∈ es, Kx x) (hm : Kx m) (R : w.heap[bx]? = some (.cells (pktV m.p m.A m.n m.c) 28 (0, 0))) (hn2 : n ≤ 1000) :
    Calls Try.prog 41 #[.slice A n c, .func (.func 44) #[] #[.pointer (some ⟨bx, 0, none⟩)]] w (Ret w (.bool (es.any (fun x => clashP x.pc m.pc)))) := by
  have IN := Lib.hid (index_clash A bx n c es m w hr hk hm R hn2)
  generalize es.any (fun x => clashP x.pc m.pc) = V at *
  clear hr hk hm R hn2
  go_enter Try.func41, Try.ntmps41
  go_wp2_with (go_at_call 58; refine IN.out.mono ?_; rintro e w2 ⟨r, rfl, hv, hb⟩; have HB := Lib.hid hb; have HV := Lib.hid hv; clear hb hv)
  go_ret
  exact ⟨ret_bool (by first | exact HV.out | (rw [← HV.out])), HB.out⟩
/-! ### sorted by their offs -/
abbrev PeO := {e : Pe // e.p.Ok}
theorem zPkt_okM : zPkt.Ok := by
  refine ⟨rfl, rfl, ?_, ?_, ?_, ?_, ?_, ?_⟩
  · intro x hx; rw [List.eq_of_mem_replicate hx]; exact ⟨by decide, by decide⟩
  · intro x hx; rw [List.eq_of_mem_replicate hx]; exact ⟨by decide, by decide⟩
  all_goals (first | exact ⟨by decide, by decide⟩ | (show _ ∧ _; decide))
instance : Inhabited PeO := ⟨⟨⟨zPkt, none, 0, 0, []⟩, zPkt_okM⟩⟩
def encO (x : PeO) : List Value := x.1.cells
def cfO (x y : PeO) : Int := Lib.compareInt x.1.p.off y.1.p.off
theorem ltO (x y : PeO) : ltOf cfO x y = decide (x.1.p.off < y.1.p.off) := by
  unfold ltOf cfO Lib.compareInt
  by_cases h1 : x.1.p.off < y.1.p.off
  · simp [h1]
  · by_cases h2 : y.1.p.off < x.1.p.off <;> simp [h1, h2]
theorem swoO : Sort.SWO (ltOf cfO) where
  irrefl x := by rw [ltO]; simp
  trans x y z h1 h2 := by rw [ltO] at *; simp at *; omega
  ntrans x y z h1 h2 := by rw [ltO] at *; simp at *; omega
set_option maxRecDepth 100000 in
theorem nan_any (x : Int) (w : World) : Calls Try.prog 61 #[.int .i64 x] w fun e w' => e = .returned (.bool false) ∧ w' = w := by
  go_enter Try.func61, Try.ntmps61
  go_wp2
  go_ret
  exact ⟨ret_bool (by simp), rfl⟩
set_option maxRecDepth 100000 in
theorem compare_any (x y : Int) (w : World) : Calls Try.prog 48 #[.int .i64 x, .int .i64 y] w fun e w' => e = .returned (.int .i64 (Lib.compareInt x y)) ∧ w' = w := by
  have NA := Lib.hid (fun v => nan_any v w)
  obtain ⟨r, hr⟩ : ∃ r, r = Lib.compareInt x y := ⟨_, rfl⟩
  rw [← hr]
  have HR := Lib.hid hr
  clear hr
  by_cases h1 : x < y
  · have hv := Lib.hid (show r = -1 by rw [HR.out]; unfold Lib.compareInt; simp [h1])
    go_enter Try.func48, Try.ntmps48
    go_wp2_with (go_at_call 61; refine (NA.out _).mono ?_; rintro e w2 ⟨rfl, hw⟩; obtain rfl := hw.symm)
    go_ret
    exact ⟨by rw [hv.out]; rfl, rfl⟩
  · by_cases h2 : y < x
    · have hv := Lib.hid (show r = 1 by rw [HR.out]; unfold Lib.compareInt; simp [h1, h2])
      go_enter Try.func48, Try.ntmps48
      go_wp2_with (go_at_call 61; refine (NA.out _).mono ?_; rintro e w2 ⟨rfl, hw⟩; obtain rfl := hw.symm)
      go_ret
      exact ⟨by rw [hv.out]; rfl, rfl⟩
    · have hv := Lib.hid (show r = 0 by rw [HR.out]; unfold Lib.compareInt; simp [h1, h2])
      go_enter Try.func48, Try.ntmps48
      go_wp2_with (go_at_call 61; refine (NA.out _).mono ?_; rintro e w2 ⟨rfl, hw⟩; obtain rfl := hw.symm)
      go_ret
      exact ⟨by rw [hv.out]; rfl, rfl⟩
set_option maxRecDepth 100000 in
set_option maxHeartbeats 4000000 in
theorem cmpO_any (a b : Pe) (ha : a.p.Ok) (hb : b.p.Ok) (w : World) : Calls Try.prog 47 #[.agg a.cells.toArray, .agg b.cells.toArray] w fun e w' => e = .returned (.int .i64 (Lib.compareInt a.p.off b.p.off)) ∧ ∃ q os', w' = Sort.grow (w.drewN q) os' := by
  obtain ⟨W, hW⟩ : ∃ W, W = (w.alloc (.cells a.cells.toArray 28)).alloc (.cells b.cells.toArray 28) := ⟨_, rfl⟩
  have hwG := Lib.hid (show ∃ q os', W = Sort.grow (w.drewN q) os' from ⟨0, _, by rw [hW, Sort.alloc_eq_grow, Sort.alloc_eq_grow, Sort.grow_grow]; rfl⟩)
  have R0 := Lib.hid (show W.heap[w.heap.size]? = some (.cells a.cells.toArray 28 (0, 0)) by rw [hW]; exact (two_rows w _ _ _ _).1)
  have R1 := Lib.hid (show W.heap[w.heap.size + 1]? = some (.cells b.cells.toArray 28 (0, 0)) by rw [hW]; exact (two_rows w _ _ _ _).2)
  have pa0 := pkC.PkC.cell R0.out (pkC.pkC ha a.A a.n a.c).off
  have pb0 := pkC.PkC.cell R1.out (pkC.pkC hb b.A b.n b.c).off
  have CM := Lib.hid (compare_any a.p.off b.p.off W)
  generalize Lib.compareInt a.p.off b.p.off = r at *
  generalize a.p.off = oa at *
  generalize b.p.off = ob at *
  generalize a.cells.toArray = CA at *
  generalize b.cells.toArray = CB at *
  clear ha hb
  go_enter Try.func47, Try.ntmps47
  go_upto_region 1 with fail
  rw [← hW]
  clear hW R0 R1
  go_wp2_with (go_at_call 48; refine CM.out.mono ?_; rintro e w2 ⟨rfl, hw⟩; obtain rfl := hw.symm)
  go_ret
  exact ⟨rfl, hwG.out⟩
theorem flatO (l : List PeO) : (Sort.flatK encO 41 l.toArray).toList = flatK (l.map (·.1)) := by
  have hok : ∀ e ∈ l.map (·.1), e.p.Ok := fun e he => by obtain ⟨x, -, rfl⟩ := List.mem_map.1 he; exact x.2
  have h1 : (Sort.flatK encO 41 l.toArray).toList.length = (flatK (l.map (·.1))).length := by
    rw [flatK_len hok, List.length_map, Array.length_toList, Sort.size_flatK, List.size_toArray]
  refine List.ext_getElem? fun t => ?_
  by_cases ht : t < l.length * 41
  · have h2 : t < (l.toArray.size) * 41 := by simpa using ht
    have h3 := Sort.get_flatK encO 41 l.toArray t h2
    have hi : t / 41 < l.length := by omega
    have hg : (l.map (·.1))[t / 41]? = some (l[t / 41]).1 := by rw [List.getElem?_map, List.getElem?_eq_getElem hi]; rfl
    have h4 := flatK_at hok (t / 41) _ (t % 41) hg (Nat.mod_lt _ (by omega))
    rw [show t / 41 * 41 + t % 41 = t by omega] at h4
    have hl := Pe.cells_len (e := (l[t / 41]).1) (l[t / 41]).2
    have h5 : (l[t / 41]).1.cells[t % 41]? = some ((l[t / 41]).1.cells[t % 41]!) := by
      rw [List.getElem?_eq_getElem (by rw [hl]; exact Nat.mod_lt _ (by omega)), getElem!_pos _ _ (by rw [hl]; exact Nat.mod_lt _ (by omega))]
    rw [h4, h5, Array.getElem?_toList, Array.getElem?_eq_getElem (by rw [Sort.size_flatK]; exact h2)]
    rw [getElem!_pos _ _ (by rw [Sort.size_flatK]; exact h2)] at h3
    rw [h3]
    have h6 : (l.toArray)[t / 41]! = l[t / 41] := by rw [getElem!_pos _ _ (by simpa using hi)]; simp
    rw [h6]
    rfl
  · rw [List.getElem?_eq_none (by rw [Array.length_toList, Sort.size_flatK, List.size_toArray]; omega), List.getElem?_eq_none (by rw [flatK_len hok, List.length_map]; omega)]
set_option maxRecDepth 100000 in
set_option maxHeartbeats 4000000 in
/-- they are sorted where they lie -/
theorem sort_any (g c n : Nat) (es : List Pe) (w : World) (ho : OwnK w 0 (.slice (some ⟨g, 0, none⟩) n c) es) (hn : es.length = n) (hok : ∀ e ∈ es, e.p.Ok) (hl : n ≤ 1000) :
    Calls Try.prog 46 #[.slice (some ⟨g, 0, none⟩) n c, .func (.func 47) #[] #[]] w fun e w' => e = .returned (.tuple #[]) ∧ ∃ es', es'.Perm es ∧ es'.Pairwise (fun x y => x.p.off ≤ y.p.off) ∧ OwnK w' 0 (.slice (some ⟨g, 0, none⟩) n c) es' ∧ w.grownBy w' (some g) := by
  obtain ⟨l, hlm⟩ : ∃ l : List PeO, l.map (·.1) = es := ⟨es.attach.map fun e => ⟨e.1, hok e.1 e.2⟩, by rw [List.map_map]; exact List.attach_map_subtype_val es⟩
  have hll : l.length = n := by rw [← hn, ← hlm, List.length_map]
  rcases ho.2 with ⟨h0, -⟩ | ⟨g', cap, cur, hv, -, hh, h1, h2, h3, h4⟩
  · cases h0
  injection hv with hv1 hv2 hv3
  injection hv1 with hv1
  injection hv1 with hv1
  subst hv1
  subst hv3
  have hfl : (flatK es).length = n * 41 := by rw [flatK_len hok, hn]
  rw [hn] at h4 h1
  have hgl := (Array.getElem?_eq_some_iff.1 hh).1
  have hH : Sort.HoldsK encO 41 w g 0 l.toArray := by
    intro j hj
    have hj' : j < n * 41 := by rw [Sort.size_flatK, List.size_toArray, hll] at hj; exact hj
    refine ⟨?_, by simp [World.frozen?, hh]⟩
    have e1 : (Sort.flatK encO 41 l.toArray)[j]? = cur[j]? := by
      rw [← Array.getElem?_toList, flatO, hlm, ← h4, List.getElem?_take_of_lt hj', Array.getElem?_toList]
    rw [Nat.zero_add, cell_of_row w g j _ _ (0, 0) hh, ← e1]
    rw [Array.getElem?_eq_getElem hj, getElem!_pos (Sort.flatK encO 41 l.toArray) j hj]
    rfl
  have eg : ∀ args w, (callFunc 47 args).run Try.prog w = .ok (.enter 47 args) w := enters_of Try.func47 (by kernel_rfl) rfl
  have hcon := Go.Proofs.AnyQ.slices_SortFunc Try.sortPk 41 Try.isAgg28 Try.sizeOf28 encO (fun x => Pe.cells_len x.2) (fun x => Pe.one) cfO swoO 47 #[] g 0 c l.toArray w eg (fun _ _ _ _ x y => cmpO_any x.1 y.1 x.2 y.2 _) hH hgl (by rw [List.size_toArray, hll]; omega)
  rw [List.size_toArray, hll] at hcon
  refine Calls.mono hcon ?_
  rintro e w' ⟨he, d', q, os, hp, hs, rfl⟩
  obtain ⟨hp1, -, hp3⟩ := hp
  have hd : d'.size = n := by rw [hp1, List.size_toArray, hll]
  have hdl : d'.toList.length = n := by rw [Array.length_toList, hd]
  have e0 : l.toArray.extract 0 n = l.toArray := by rw [Array.extract_eq_self_of_le (by simp [hll])]
  have e1 : d'.extract 0 n = d' := by rw [Array.extract_eq_self_of_le (by rw [hd]; exact Nat.le_refl _)]
  rw [e0, e1] at hp3
  have hperm : (d'.toList.map (·.1)).Perm es := by
    have := hp3.map (fun x : PeO => x.1)
    rw [← hlm]
    exact this
  have hfd : (Sort.flatK encO 41 d').toList = flatK (d'.toList.map (·.1)) := by have := flatO d'.toList; rwa [Array.toArray_toList] at this
  refine ⟨he, d'.toList.map (·.1), hperm, ?_, ?_, ?_⟩
  · refine List.pairwise_map.2 (List.pairwise_iff_getElem.2 fun i j hi hj hij => ?_)
    have h9 := hs i j (Nat.zero_le _) hij (by omega)
    rw [ltO] at h9
    have h8 := of_decide_eq_false h9
    rw [getElem!_pos _ _ (by omega), getElem!_pos _ _ (by omega)] at h8
    simp only [Array.getElem_toList]
    omega
  · have hlen : (d'.toList.map (·.1)).length = n := by rw [List.length_map]; exact hdl
    have hh' : (Go.Proofs.sortWorldK encO 41 w g 0 q d' os).heap[g]? = some (.cells (Sort.putCells id 0 (Sort.flatK encO 41 d') cur) 28 (0, 0)) := by
      show (Sort.grow (Sort.putRow id (Sort.ahead w q) g 0 (Sort.flatK encO 41 d')) os).heap[g]? = _
      rw [Sort.heap_grow_old _ _ (by simpa using hgl)]
      simp [Sort.putRow, Sort.mapBlock, Sort.ahead, Array.getElem?_modify, hh, Sort.onCells]
    refine ⟨?_, .inr ⟨g, c, _, (by rw [hlen]), Nat.zero_le _, hh', by rw [hlen]; exact h1, h2, by simp [Sort.putCells, h3], ?_⟩⟩
    · rw [flatK_len (fun e he => hok e (hperm.mem_iff.1 he)), hlen]
    · rw [hlen, ← hfd]
      have hsz : (Sort.flatK encO 41 d').size = n * 41 := by rw [Sort.size_flatK, hd]
      have hcz : n * 41 ≤ cur.size := by rw [h3]; exact Nat.mul_le_mul_right _ h1
      apply List.ext_getElem?
      intro j
      by_cases hj : j < n * 41
      · rw [List.getElem?_take_of_lt hj, Array.getElem?_toList, Array.getElem?_toList]
        simp [Sort.putCells, hsz, hj, show j < cur.size by omega]
      · rw [List.getElem?_take_eq_none (by omega), List.getElem?_eq_none (by rw [Array.length_toList, hsz]; omega)]
  · refine ⟨rfl, rfl, rfl, by simp [Go.Proofs.sortWorldK, Sort.putRowK], fun k hk hne => ?_⟩
    show (Sort.grow (Sort.putRow id (Sort.ahead w q) g 0 (Sort.flatK encO 41 d')) os).heap[k]? = _
    rw [Sort.heap_grow_old _ _ (by simpa using hk)]
    have : g ≠ k := fun e => hne (by rw [e])
    simp [Sort.putRow, Sort.mapBlock, Sort.ahead, Array.getElem?_modify, this]
end Go.Proofs.Ytcnnpfjommiafaa.fgC
