/-
  2 texts of a proof, joined.
-/
import Derived.Test.YtjdenhkicikfkaaMg20
import Derived.Test.YtjdenhkicikfkaaMg22
import Derived.Test.YtjdenhkicikfkaaMg13
import Derived.Great.BuildSlice
import Derived.Test.YtjdenhkicikfkaaMg16
import Derived.Test.YtjdenhkicikfkaaMg9

/-
  The library's collecting of the map's ways.
-/
namespace Go.Proofs.Ytjdenhkicikfkaa.rtC
open Go.ChangeShapes Go.WideShapes Go.ChangeAt Go.RowKit
open Go.Proofs.Ytjdenhkicikfkaa.memC Go.Proofs.Ytjdenhkicikfkaa.genC Go.Proofs.Ytjdenhkicikfkaa.butC Go.Proofs.Ytjdenhkicikfkaa.freeC Go.Proofs.Ytjdenhkicikfkaa.adC Go.Proofs.Ytjdenhkicikfkaa.rndC
set_option linter.unusedVariables false
attribute [local go_sem] Oper.semAt_some
/-- a slice of one way -/
theorem wpList_sliceY {ops : Array Oper} {rest : List Oper} {o : Oper} {a : Act} {w : World} {Q : Exit → Act → World → Prop} (hg : o.guard = none) (x : Operand) (ho : o.op = .buildSlice 39 1 #[(0, x)]) (C : Array Value) (hx : a.eval x = .agg C) (hC : C.size = 37)
    (h : wpList Try.prog ops Q rest (a.put o.dst (.slice (some ⟨w.heap.size, 0, none⟩) 1 1)) (w.alloc (.cells C 35))) : wpList Try.prog ops Q (o :: rest) a w := by
  obtain ⟨ie, hie, he⟩ := Option.map_eq_some_iff.1 way_infoK
  obtain ⟨hz, he2⟩ := Prod.mk.inj he
  obtain ⟨hs, hb⟩ := Prod.mk.inj he2
  refine wpList_buildSlice hg 39 35 1 _ ho C ie _ Try.underlying39 hie hz (by rw [hs]; decide) (by rw [hs]; decide) ?_ h
  rw [hs]
  have := Great.fill_whole (s := 37) (by decide) [Value.agg C] ((Array.range (1 * 37)).map ((Value.agg (wyV zWy)).cells[· % (Value.agg (wyV zWy)).cells.size]!)) (by simpa [Value.cells] using hC) (by simp)
  simpa [hx, Value.cells] using this
/-- between two rounds: the variable at bx holds a slice of one's own, of what has come -/
def ApI (w : World) (bx : Nat) (pre : List WyJ) (W : World) : Prop := ∃ v, W.heap[bx]? = some (.cells #[v] 39 (0, 0)) ∧ OwnY W (bx + 1) v (pre.map (·.1)) ∧ Below bx w W
theorem ApI.own {w : World} {bx B : Nat} (hB : bx ≤ B) : OwnFrom B (fun pre W => ApI w bx pre W) := by
  intro pre W W' row h hg hr
  have hr' : ∀ r, row = some r → ∃ o : Obj, W.heap[r]? = some o ∧ o.isCells = false := fun r e => (hr r e).2
  obtain ⟨v, h1, h2, h3⟩ := h
  exact ⟨v, row_grown h1 hg hr', own_row_grown h2 hg hr', h3.grown hg (Nat.le_of_lt (lt_of_row h1)) fun k e => Nat.le_trans hB (hr k e).1⟩
set_option maxRecDepth 100000 in
set_option maxHeartbeats 4000000 in
theorem appendSeq_any (Bm b : Nat) (L : List Wy) (hok : ∀ y ∈ L, y.Ok) (hL : L.length ≤ 1000) (w : World) (hb : w.heap[Bm]? = some (.cells #[.map (some b)] 48 (0, 0))) (hM : MapW w b L) :
    Calls Try.prog 36 #[.slice none 0 0, .func (.func 32) #[] #[.pointer (some ⟨Bm, 0, none⟩)]] w fun e w' =>
      ∃ v es, e = .returned v ∧ es.Perm L ∧ OwnY w' w.heap.size v es ∧ Below w.heap.size w w' := by
  refine (callsIn_wide (n := 3)).1 (callsIn_of_wp_marks Try.func36 rfl trivial ?_ rfl)
  refine wpIn_wide.2 ?_
  simp only [Try.ntmps36, List.size_toArray, List.length_cons, List.length_nil, Nat.reduceAdd, Nat.reduceSub, Array.replicate_succ, Array.replicate_zero, List.push_toArray, List.append_toArray, List.nil_append, List.cons_append]
  obtain ⟨W, hW⟩ : ∃ W, W = w.alloc (.cells #[.slice none 0 0] 39) := ⟨_, rfl⟩
  obtain ⟨bx, hbx⟩ : ∃ b, b = w.heap.size := ⟨_, rfl⟩
  have R := Lib.hid (show W.heap[bx]? = some (.cells #[.slice none 0 0] 39 (0, 0)) by rw [hW, hbx]; exact heap_alloc_new _ _)
  have HB := Lib.hid (show Below w.heap.size w W by rw [hW]; exact alloc_below _ _)
  have HWs := Lib.hid (show W.heap.size = bx + 1 by rw [hW, hbx]; simp)
  have HX := Lib.hid hbx
  have HST := Lib.hid (values_stops 2 Bm b (by decide) L hok W ((HB.out.block Bm (Array.getElem?_eq_some_iff.1 hb).1).trans hb) (hM.same (HB.out.block b hM.lt)))
  have HL := Lib.hid hL
  have I0 := Lib.hid (show ApI w bx [] W from ⟨.slice none 0 0, R.out, OwnY.nil _ _, by rw [hbx]; exact HB.out⟩)
  have hzv := zeroWy
  have WI := Lib.hid (fun (y : Wy) (h : y.Ok) => wyV_info h)
  have ZS := Lib.hid (fun (y : Wy) (h : y.Ok) => wy_zsize zWy_ok h)
  have ZO := Lib.hid wy_ones
  have SC := Lib.hid (fun (y : Wy) (h : y.Ok) => wyV_size h)
  clear hok hL hb hM
  go_upto_region 1 with fail
  rw [← hW, ← hbx]
  clear hW hbx
  go_wp2_with fail
  refine (wpIn_wide (n := 3)).1 ?_
  refine wpIn_rangeFunc_ownH (n := 3) (N := L.length) (encs := fun x : WyJ => #[.agg (wyV x.1)]) (Kp := KeepsWalks) rfl (by decide) (gf := 32) (lb := #[.pointer (some ⟨Bm, 0, none⟩)]) rfl trivial (enters_of Try.func32 (by kernel_rfl) rfl)
    HST.out KeepsWalks.trans (fun W' l o o' hl ho hc hw => KeepsWalks.putObj _ ho hw) (Below.refl _ _) (fun _ => rfl)
    (fun pre W' => ApI w bx pre W') (fun _ _ _ => False)
    (ApI.own (by rw [HWs.out]; omega)) (fun _ _ _ _ _ hs _ _ => hs) I0.out
    (fun x a' W' => ∃ Bx, bx < Bx ∧ W'.heap[Bx]? = some (.cells (wyV x.1) 35 (0, 0)) ∧ a' = { tmps := #[.slice none 0 0, .func (.func 32) #[] #[.pointer (some ⟨Bm, 0, none⟩)], .pointer (some ⟨bx, 0, none⟩), undef, .slice none 0 0, .pointer (some ⟨Bx, 0, none⟩), .func (.func 32) #[] #[.pointer (some ⟨Bm, 0, none⟩)], .agg (wyV x.1), undef, undef, undef, undef, undef], defers := [] })
    (fun x a' s W1 W2 row h hg hr => by
      obtain ⟨Bx, h1, h2, h3⟩ := h
      exact ⟨Bx, h1, row_grown h2 hg (fun r e => (hr r e).2), h3⟩) ?assign ?body ?done ?stop
  case assign =>
    intro l pre x W1 K hI hK
    have CW := Lib.hid (WI.out x.1 x.2)
    have CZ := Lib.hid (ZS.out x.1 x.2)
    have CO := Lib.hid (ZO.out x.1)
    have HK := Lib.hid hK
    have HI := Lib.hid hI
    clear hK hI
    generalize wyV x.1 = CX at *
    generalize wyV zWy = ZX at *
    refine round_region rfl (by rintro ⟨_, _, h⟩; exact h) ?_
    go_wp2_with (first
      | (refine wpList_store_row rfl 35 (.tmp 5) (.tmp 7) rfl W1.heap.size CX rfl rfl _ _ (heap_alloc_new _ _) CW.out CZ.out CO.out ?_; rw [World.setRow_alloc_new]))
    exact HK.out _ _ ((KeepsOthers.alloc _ _).from _) (KeepsWalks.alloc _ _) ((ApI.own (w := w) (bx := bx) (Nat.le_refl _)).alloc _ HI.out) ⟨W1.heap.size, (by
      obtain ⟨v, h1, -, -⟩ := HI.out
      exact lt_of_row h1), heap_alloc_new _ _, rfl⟩
  case body =>
    rintro l pre x a' W1 hl hr hI ⟨Bx, hBx, RX, rfl⟩ hlen
    obtain ⟨v, hv, ho, hb⟩ := hI
    have HOKP : ∀ e ∈ pre.map (·.1), e.Ok := fun e he => by
      obtain ⟨x, -, rfl⟩ := List.mem_map.1 he
      exact x.2
    obtain ⟨A8, c8, ev, hn8, hc8, -⟩ := ho.form HOKP
    subst ev
    obtain ⟨es, hes⟩ : ∃ es, es = pre.map (·.1) := ⟨_, rfl⟩
    rw [← hes] at hv ho hn8 HOKP
    have HV := Lib.hid hv
    have HO := Lib.hid ho
    have HBL := Lib.hid hb
    have HES := Lib.hid (show pre.map (·.1) = es from hes.symm)
    have HEN := Lib.hid (show es.length < 1000 by rw [hes, List.length_map]; have := HL.out; omega)
    have HOE := Lib.hid HOKP
    have R5 := Lib.hid RX
    have HXO := Lib.hid x.2
    have ICX := Lib.hid (WI.out x.1 x.2)
    have SCX := Lib.hid (SC.out x.1 x.2)
    have EV := Lib.hid (show (wyL x.1).toArray = wyV x.1 from rfl)
    have HRW := Lib.hid (fun (w' : World) (g : Nat) (h : w'.heap[g]? = some (.cells (wyV x.1) 35 (0, 0))) => (show RowY w' w'.heap.size (some ⟨g, 0, none⟩) 1 [x.1] from rowY1 h))
    have LBX := Lib.hid (show bx + 1 ≤ W1.heap.size from lt_of_row hv)
    have ct := cell_of_row W1 bx 0 _ _ (0, 0) hv
    have ft := frozen_of_row W1 bx 0 _ _ hv
    obtain ⟨W2, hW2⟩ : ∃ W2, W2 = W1.alloc (.cells (wyV x.1) 35) := ⟨_, rfl⟩
    have AB := Lib.hid (show Below W1.heap.size W1 W2 by rw [hW2]; exact alloc_below _ _)
    have RK := Lib.hid (show RowY W2 W2.heap.size (some ⟨W1.heap.size, 0, none⟩) 1 [x.1] from HRW.out _ _ (by rw [hW2]; exact heap_alloc_new _ _))
    have O2 := Lib.hid (HO.out.below AB.out)
    have V2 := Lib.hid (show W2.heap[bx]? = some (.cells #[.slice A8 es.length c8] 39 (0, 0)) from (AB.out.block bx (lt_of_row hv)).trans hv)
    have ct2 := cell_of_row W2 bx 0 _ _ (0, 0) V2.out
    have ft2 := frozen_of_row W2 bx 0 _ _ V2.out
    have KO2 := Lib.hid (show KeepsOthers W1 W2 by rw [hW2]; exact KeepsOthers.alloc _ _)
    have HLE := Lib.hid (show es.length + 1 = (es ++ [x.1]).length by rw [List.length_append]; rfl)
    have LB2 := Lib.hid (show bx + 1 ≤ W2.heap.size from Nat.le_trans LBX.out AB.out.size)
    have HW2 := Lib.hid hW2
    clear hv ho hb hn8 hc8 HOKP hes RX hBx hl hr hlen HRW hW2
    generalize hCX : wyV x.1 = CX at *
    refine wpIn_block ?_
    refine round_region rfl (by rintro ⟨_, _, h⟩; exact h) ?_
    go_wp2_with (first
      | (refine wpList_load_row rfl 35 (.tmp 5) rfl Bx rfl _ _ _ _ R5.out Try.underlying35 rfl ICX.out ?_)
      | (refine wpList_sliceY rfl (.tmp 9) rfl CX rfl SCX.out ?_; rw [← HW2.out])
      | (at_builtin
         (refine wpList_appY _ rfl (.tmp 8) (.tmp 10) rfl (bx + 1) _ es rfl O2.out HOE.out _ _ 1 1 [x.1] rfl RK.out (fun e he => by obtain rfl := List.mem_singleton.1 he; exact HXO.out) (by have := HEN.out; omega) (by decide) LB2.out _ HLE.out ?_)
         intro A11 c11 W3 gl O3 B3 GR3
         have HO3 := Lib.hid O3
         have HG3 := Lib.hid GR3
         have HB3 := Lib.hid B3
         have V3 := Lib.hid (show W3.heap[bx]? = some (.cells #[.slice A8 es.length c8] 39 (0, 0)) from (B3.block bx (Nat.lt_succ_self _)).trans V2.out)
         have ct3 := cell_of_row W3 bx 0 _ _ (0, 0) V3.out
         have ft3 := frozen_of_row W3 bx 0 _ _ V3.out
         clear gl O3 B3 GR3))
    clear ct ft ct2 ft2 ct3 ft3
    have KO3 : KeepsOthers W1 W3 := KO2.out.trans (KeepsOthers.of_grownBy HG3.out fun j o9 hj ho9 => by
      rcases O2.out.2 with ⟨h9, -⟩ | ⟨g, cap, cur, h9, -, hh, -⟩
      · rw [h9] at hj; cases hj
      · rw [h9] at hj
        cases hj
        rw [hh] at ho9
        cases ho9
        rfl)
    have KO4 := KO3.trans (KeepsOthers.setCell W3 ⟨bx, 0, none⟩ (.slice A11 (es.length + 1) c11))
    refine ⟨KO4.from _, KO4.walks, .slice A11 (es.length + 1) c11, heap_setCell_same W3 bx 0 _ _ _ V3.out, ?_, ?_⟩
    · rw [List.map_append, HES.out, List.map_cons, List.map_nil]
      have h9 := HO3.out
      refine OwnY.keep ?_ fun g hg _ => Below.heap_setCell _ _ _ _ (by show g ≠ bx; omega)
      first
        | exact h9
        | (rw [List.length_append] at h9; exact h9)
    · exact ((HBL.out.trans (AB.out.mono (Nat.le_of_lt (LBX.out)))).trans (HB3.out.mono (Nat.le_succ _))).setCell (p := ⟨bx, 0, none⟩) (Nat.le_refl _) _
  case done =>
    rintro D xs W1 hD hS hI hK
    have hI2 := (ApI.own (w := w) (bx := bx) (B := W.heap.size) (by rw [HWs.out]; omega)).putObj (.deferred none) hI hD hK rfl
    obtain ⟨v, hv, ho, hb⟩ := hI
    obtain ⟨v', hv', ho', hb'⟩ := hI2
    have ct := cell_of_row W1 bx 0 _ _ (0, 0) hv
    have ev : v' = v := by
      have e1 : (W1.putObj D (.deferred none)).heap[bx]? = W1.heap[bx]? := World.putObj_heap_other (by intro e; first | (rw [e] at hv; rw [hK] at hv; cases hv) | (rw [← e] at hv; rw [hK] at hv; cases hv))
      rw [hv'] at e1
      rw [hv] at e1
      injection e1 with e1
      injection e1 with e1 _ _
      injection e1 with e1
      injection e1 with e1
    subst ev
    have HOKX : ∀ e ∈ xs.map (·.1), e.Ok := fun e he => by
      obtain ⟨x, -, rfl⟩ := List.mem_map.1 he
      exact x.2
    obtain ⟨A9, c9, e9, -, -, -⟩ := ho'.form HOKX
    obtain ⟨es, hes⟩ : ∃ es, es = xs.map (·.1) := ⟨_, rfl⟩
    rw [← hes] at e9 ho' hS
    subst e9
    have HF := Lib.hid (show ∃ v es', (Ending.returned (Value.slice A9 es.length c9)) = .returned v ∧ es'.Perm L ∧ OwnY (W1.putObj D (.deferred none)) w.heap.size v es' ∧ Below w.heap.size w (W1.putObj D (.deferred none)) from
      ⟨_, es, rfl, hS, ho'.less (by rw [HX.out]; exact Nat.le_succ _), by rw [HX.out] at hb'; exact hb'⟩)
    have HK := Lib.hid hK
    clear hv ho hb hv' ho' hb' hes hS hK HOKX
    go_wp2_with fail
    refine ⟨by simp, .inl ⟨_, _, rfl, run_takeDeferred HK.out, ?_⟩⟩
    exact ⟨_, results_tmp (t := 4) rfl _ _ _, HF.out⟩
  case stop =>
    rintro D c pre W' _ _ h _
    exact h.elim
end Go.Proofs.Ytjdenhkicikfkaa.rtC

/-
  Whether a way may be.
-/
namespace Go.Proofs.Ytjdenhkicikfkaa.rtC
open Go.ChangeShapes Go.WideShapes Go.ChangeAt Go.RowKit
open Go.Proofs.Ytjdenhkicikfkaa.memC Go.Proofs.Ytjdenhkicikfkaa.genC Go.Proofs.Ytjdenhkicikfkaa.butC Go.Proofs.Ytjdenhkicikfkaa.freeC Go.Proofs.Ytjdenhkicikfkaa.adC
set_option linter.unusedVariables false
def viaB (y : Wy) : Bool := if y.via then mayL y.t y.b && decide (y.t = y.s) else decide (y.t = false ∧ y.b = zs 16)
theorem mayW_via (y : Wy) : mayW y = (decide (maskO y.s y.a y.len = some (y.s, y.a)) && (decide (0 ≤ y.port ∧ y.port ≤ 255) && viaB y)) := rfl
set_option maxRecDepth 100000 in
set_option maxHeartbeats 2000000 in
theorem mvia_any (y : Wy) (w : World) (h : y.Ok) : Calls Try.prog 27 #[.agg (wyV y)] w (Ret w (.bool (viaB y))) := by
  obtain ⟨W, hW⟩ : ∃ W, W = w.alloc (.cells (wyV y) 35) := ⟨_, rfl⟩
  obtain ⟨bx, hbx⟩ : ∃ b, b = w.heap.size := ⟨_, rfl⟩
  have HB := Lib.hid (show Below w.heap.size w W by rw [hW]; exact alloc_below _ _)
  have R := Lib.hid (show W.heap[bx]? = some (.cells (wyV y) 35 (0, 0)) by rw [hW, hbx]; exact heap_alloc_new _ _)
  have p19 := wyV_row R.out (wy_hasvia h)
  have CS := Lib.hid (fun (w' : World) (hb : Below W.heap.size W w') => (show w'.cell? ⟨bx, 0, none⟩ = some (.bool y.s) from wyV_row ((hb.block _ (lt_of_row R.out)).trans R.out) (wy_src h 0 _ rfl)))
  have CT := Lib.hid (fun (w' : World) (hb : Below W.heap.size W w') => (show w'.cell? ⟨bx, 20, none⟩ = some (.bool y.t) from wyV_row ((hb.block _ (lt_of_row R.out)).trans R.out) (wy_via h 0 _ rfl)))
  have CB := Lib.hid (show ∀ q v, (adrK y.t y.b)[q]? = some v → W.cell? ⟨bx, 20 + q, none⟩ = some v from fun q v hv => wyV_row R.out (wy_via h q v hv))
  have IB := Lib.hid (adrK_info (s := y.t) h.lb)
  have MY := Lib.hid (fun w' => (show Calls Try.prog 18 #[.agg (adrK y.t y.b).toArray] w' (Ret w' (.bool (mayL y.t y.b))) from cmay_any y.t y.b w' h.lb))
  have EQ := Lib.hid (fun w' => (show (Op.equalIn 10000 25 (.agg (adrK y.t y.b).toArray) (.agg zAdr)).run Try.prog w' = .ok (decide (y.t = false ∧ y.b = zs 16)) w' from eqa y.t false y.b (zs 16) h.lb (zs_len 16) w'))
  have ZB := Lib.hid (show Try.prog.built 25 [] = some zAdr from built_zero)
  obtain ⟨V, hV⟩ : ∃ V, V = viaB y := ⟨_, rfl⟩
  rw [← hV]
  unfold viaB at hV
  generalize adrK y.t y.b = KB at *
  generalize mayL y.t y.b = ml at *
  generalize wyV y = CY at *
  generalize decide (y.t = false ∧ y.b = zs 16) = dz at *
  obtain ⟨es, hes⟩ : ∃ e, e = decide (y.t = y.s) := ⟨_, rfl⟩
  rw [← hes] at hV
  generalize y.t = t1 at *
  generalize y.s = s1 at *
  have HV := Lib.hid hV
  have HE := Lib.hid hes
  clear h hV hes
  cases hvia : y.via
  · rw [hvia] at p19 HV
    have hv := Lib.hid (show V = dz by rw [HV.out]; rfl)
    clear hvia HV
    go_enter Try.func27, Try.ntmps27
    go_upto_region 1 with fail
    rw [← hW, ← hbx]
    clear hW hbx
    go_wp2_with (first
      | (with_reducible refine atC.at_load 25 6 ?_; refine pkC.wpList_load_partG (by kernel_rfl) 25 (.tmp 6) rfl bx 20 (by kernel_rfl) KB _ CB.out Try.underlying25 rfl IB.out ?_)
      | (with_reducible refine at_build 25 ?_; refine wpList_runG (by kernel_rfl) _ (adC.built_run (T := 25) rfl ZB.out) ?_)
      | (with_reducible refine atC.at_bin .eql 25 ?_; refine wpList_runG (by kernel_rfl) _ (adC.eq_run (T := 25) (s := 7) (x := 8) rfl (by kernel_rfl) (by kernel_rfl) (EQ.out _) guard_addr) ?_))
    go_ret
    exact ⟨ret_bool (by first | exact hv.out | exact hv.out.symm), HB.out⟩
  · rw [hvia] at p19 HV
    clear hvia
    cases ml
    · have hv := Lib.hid (show V = false by rw [HV.out]; rfl)
      clear HV
      go_enter Try.func27, Try.ntmps27
      go_upto_region 1 with fail
      rw [← hW, ← hbx]
      clear hW hbx
      go_wp2_with (first
        | go_skip
        | (with_reducible refine atC.at_load 25 10 ?_; refine pkC.wpList_load_partG (by kernel_rfl) 25 (.tmp 10) rfl bx 20 (by kernel_rfl) KB _ CB.out Try.underlying25 rfl IB.out ?_)
        | (go_at_call 18; (with_reducible refine (MY.out _).mono ?_); rintro e w2 ⟨rfl, BB⟩
           have HW2 := Lib.hid BB
           have cs := CS.out w2 BB
           have ct := CT.out w2 BB
           clear BB))
      go_ret
      exact ⟨ret_bool (by first | exact hv.out | exact hv.out.symm), HB.out.trans (HW2.out.mono HB.out.size)⟩
    · have hv := Lib.hid (show V = es by rw [HV.out]; rfl)
      clear HV
      go_enter Try.func27, Try.ntmps27
      go_upto_region 1 with fail
      rw [← hW, ← hbx]
      clear hW hbx
      go_wp2_with (first
        | go_skip
        | (with_reducible refine atC.at_load 25 10 ?_; refine pkC.wpList_load_partG (by kernel_rfl) 25 (.tmp 10) rfl bx 20 (by kernel_rfl) KB _ CB.out Try.underlying25 rfl IB.out ?_)
        | (go_at_call 18; (with_reducible refine (MY.out _).mono ?_); rintro e w2 ⟨rfl, BB⟩
           have HW2 := Lib.hid BB
           have cs := CS.out w2 BB
           have ct := CT.out w2 BB
           clear BB))
      go_ret
      exact ⟨ret_bool (by first | exact hv.out | exact hv.out.symm | (rw [hv.out, HE.out]; cases t1 <;> cases s1 <;> rfl) | (rw [← hv.out, HE.out]; cases t1 <;> cases s1 <;> rfl)), HB.out.trans (HW2.out.mono HB.out.size)⟩
set_option maxRecDepth 100000 in
set_option maxHeartbeats 4000000 in
theorem wmay_any (y : Wy) (w : World) (h : y.Ok) : Calls Try.prog 17 #[.agg (wyV y)] w (Ret w (.bool (mayW y))) := by
  have hzv := zeroAdr
  obtain ⟨W, hW⟩ : ∃ W, W = w.alloc (.cells (wyV y) 35) := ⟨_, rfl⟩
  obtain ⟨bx, hbx⟩ : ∃ b, b = w.heap.size := ⟨_, rfl⟩
  have HB := Lib.hid (show Below w.heap.size w W by rw [hW]; exact alloc_below _ _)
  have R := Lib.hid (show W.heap[bx]? = some (.cells (wyV y) 35 (0, 0)) by rw [hW, hbx]; exact heap_alloc_new _ _)
  have p17 := wyV_row R.out (wy_len h)
  have KR := Lib.hid (fun (w' : World) (hb : Below W.heap.size W w') => (show w'.heap[bx]? = some (.cells (wyV y) 35 (0, 0)) from (hb.block _ (lt_of_row R.out)).trans R.out))
  have CP := Lib.hid (fun (w' : World) (hb : Below W.heap.size W w') => (show w'.cell? ⟨bx, 18, none⟩ = some (.int .i64 y.port) from wyV_row (KR.out w' hb) (wy_port h)))
  have CA := Lib.hid (fun (w' : World) (hb : Below W.heap.size W w') => (show ∀ q v, (adrK y.s y.a)[q]? = some v → w'.cell? ⟨bx, 0 + q, none⟩ = some v from fun q v hv => wyV_row (KR.out w' hb) (wy_src h q v hv)))
  have IA := Lib.hid (adrK_info (s := y.s) h.la)
  have IY := Lib.hid (wyV_info h)
  have VI := Lib.hid (fun w' => mvia_any y w' h)
  have MK0 := Lib.hid (fun w' => (show Calls Try.prog 20 #[.agg (adrK y.s y.a).toArray, .int .i64 y.len] w' (ORet 1 w' (maskO y.s y.a y.len)) from mask_any y.s y.a y.len w' h.la h.ya))
  obtain ⟨V, hV⟩ : ∃ V, V = mayW y := ⟨_, rfl⟩
  rw [← hV]
  rw [mayW_via] at hV
  obtain ⟨CM, em, MK, q, EQ, IM, SM, OM, VM⟩ : ∃ (CM : Array Value) (em : Int) (MK : Hid (∀ w', Calls Try.prog 20 #[.agg (adrK y.s y.a).toArray, .int .i64 y.len] w' fun e w'' => e = .returned (.tuple #[.agg CM, .int .i64 em]) ∧ Below w'.heap.size w' w'')) (q : Bool)
      (EQ : Hid (∀ w', (Op.equalIn 10000 25 (.agg CM) (.agg (adrK y.s y.a).toArray)).run Try.prog w' = .ok q w')) (IM : Hid ((Try.prog.info? 25).map (·.size) = some CM.size)) (SM : Hid (zAdr.size = CM.size)) (OM : Hid (CM.all (·.oneCell') = true)),
      Hid ((em = 1 ∧ V = false) ∨ (em = 0 ∧ V = (q && (decide (0 ≤ y.port ∧ y.port ≤ 255) && viaB y)))) := by
    rcases maskO_cases y.s y.a y.len with e | e
    · rw [e] at MK0 hV
      refine ⟨zAdr, 1, Lib.hid fun w' => (MK0.out w').mono fun e w'' h => h, decide (false = y.s ∧ zs 16 = y.a), Lib.hid fun w' => eqa false y.s (zs 16) y.a (zs_len 16) h.la w', Lib.hid (adr_info false (zs_len 16)), Lib.hid rfl, Lib.hid (adrV_one false (zs 16)), Lib.hid (.inl ⟨rfl, ?_⟩)⟩
      rw [hV]; simp
    · rw [e] at MK0 hV
      refine ⟨adrV y.s (mskL y.a y.len), 0, Lib.hid fun w' => (MK0.out w').mono fun e w'' h => h, decide (y.s = y.s ∧ mskL y.a y.len = y.a), Lib.hid fun w' => eqa y.s y.s _ y.a (mskL_len _ h.la) h.la w', Lib.hid (adr_info y.s (mskL_len _ h.la)), Lib.hid (z_size y.s (mskL_len _ h.la)), Lib.hid (adrV_one _ _), Lib.hid (.inr ⟨rfl, ?_⟩)⟩
      rw [hV]
      congr 1
      exact decide_eq_decide.2 ⟨fun h => by injection h with h; injection h with h1 h2; exact ⟨rfl, h2⟩, fun h => by rw [h.2]⟩
  clear MK0 hV
  generalize adrK y.s y.a = KA at *
  generalize viaB y = vb at *
  generalize wyV y = CY at *
  generalize zAdr = ZA at *
  generalize y.len = ln at *
  generalize y.port = pt at *
  have HBX := Lib.hid hbx
  clear h
  rcases VM.out with ⟨e0, hv0⟩ | ⟨e0, hv0⟩
  · subst e0
    have hv := Lib.hid hv0
    clear hv0 VM
    go_enter Try.func17, Try.ntmps17
    go_upto_region 1 with fail
    rw [← hW, ← hbx]
    clear hW hbx
    have CA1 := Lib.hid (CA.out W (Below.refl _ _))
    go_upto_region 2 with (first
      | (with_reducible refine atC.at_load 25 6 ?_; refine pkC.wpList_load_partG (by kernel_rfl) 25 (.tmp 6) rfl bx 0 (by kernel_rfl) KA _ CA1.out Try.underlying25 rfl IA.out ?_)
      | (go_at_call 20; (with_reducible refine (MK.out _).mono ?_); rintro e w2 ⟨rfl, BB⟩; have HW2 := Lib.hid BB; clear BB)
      | (refine wpList_store_row rfl 25 (.tmp 3) (.tmp 11) rfl w2.heap.size CM rfl rfl _ _ (heap_alloc_new _ _) IM.out SM.out OM.out ?_; rw [World.setRow_alloc_new]))
    obtain ⟨W3, hW3⟩ : ∃ W3, W3 = w2.alloc (.cells CM 25) := ⟨_, rfl⟩
    obtain ⟨g3, hg3⟩ : ∃ g, g = w2.heap.size := ⟨_, rfl⟩
    have R3 := Lib.hid (show W3.heap[g3]? = some (.cells CM 25 (0, 0)) by rw [hW3, hg3]; exact heap_alloc_new _ _)
    have HW3 := Lib.hid (show Below W.heap.size W W3 by rw [hW3]; exact HW2.out.trans ((alloc_below _ _).mono HW2.out.size))
    have R1 := Lib.hid (KR.out W3 HW3.out)
    have CA3 := Lib.hid (CA.out W3 HW3.out)
    have cp := CP.out W3 HW3.out
    rw [← hW3, ← hg3]
    clear hW3 hg3 p17 hzv
    go_wp2_with (first
      | go_skip
      | (with_reducible refine atC.at_load 25 3 ?_; refine wpList_load_rowG (by kernel_rfl) 25 (.tmp 3) rfl g3 (by kernel_rfl) _ _ _ _ R3.out Try.underlying25 rfl IM.out ?_)
      | (with_reducible refine atC.at_load 25 17 ?_; refine pkC.wpList_load_partG (by kernel_rfl) 25 (.tmp 17) rfl bx 0 (by kernel_rfl) KA _ CA3.out Try.underlying25 rfl IA.out ?_)
      | (with_reducible refine atC.at_bin .eql 25 ?_; refine wpList_runG (by kernel_rfl) _ (adC.eq_run (T := 25) (s := 16) (x := 18) rfl (by kernel_rfl) (by kernel_rfl) (EQ.out _) guard_addr) ?_)
      | (with_reducible refine atC.at_load 35 1 ?_; refine wpList_load_rowG (by kernel_rfl) 35 (.tmp 1) rfl bx (by kernel_rfl) _ _ _ _ R1.out Try.underlying35 rfl IY.out ?_)
      | (go_at_call 27; (with_reducible refine (VI.out _).mono ?_); rintro e w4 ⟨rfl, BB⟩; have HW4 := Lib.hid BB; clear BB))
    go_ret
    exact ⟨ret_bool (by first | exact hv.out | exact hv.out.symm), HB.out.trans (HW3.out.mono HB.out.size)⟩
  · subst e0
    have HV0 := Lib.hid hv0
    clear hv0 VM
    cases q
    · have hv := Lib.hid (show V = false by rw [HV0.out]; rfl)
      clear HV0
      go_enter Try.func17, Try.ntmps17
      go_upto_region 1 with fail
      rw [← hW, ← hbx]
      clear hW hbx
      have CA1 := Lib.hid (CA.out W (Below.refl _ _))
      go_upto_region 2 with (first
        | (with_reducible refine atC.at_load 25 6 ?_; refine pkC.wpList_load_partG (by kernel_rfl) 25 (.tmp 6) rfl bx 0 (by kernel_rfl) KA _ CA1.out Try.underlying25 rfl IA.out ?_)
        | (go_at_call 20; (with_reducible refine (MK.out _).mono ?_); rintro e w2 ⟨rfl, BB⟩; have HW2 := Lib.hid BB; clear BB)
        | (refine wpList_store_row rfl 25 (.tmp 3) (.tmp 11) rfl w2.heap.size CM rfl rfl _ _ (heap_alloc_new _ _) IM.out SM.out OM.out ?_; rw [World.setRow_alloc_new]))
      obtain ⟨W3, hW3⟩ : ∃ W3, W3 = w2.alloc (.cells CM 25) := ⟨_, rfl⟩
      obtain ⟨g3, hg3⟩ : ∃ g, g = w2.heap.size := ⟨_, rfl⟩
      have R3 := Lib.hid (show W3.heap[g3]? = some (.cells CM 25 (0, 0)) by rw [hW3, hg3]; exact heap_alloc_new _ _)
      have HW3 := Lib.hid (show Below W.heap.size W W3 by rw [hW3]; exact HW2.out.trans ((alloc_below _ _).mono HW2.out.size))
      have R1 := Lib.hid (KR.out W3 HW3.out)
      have CA3 := Lib.hid (CA.out W3 HW3.out)
      have cp := CP.out W3 HW3.out
      rw [← hW3, ← hg3]
      clear hW3 hg3 p17 hzv
      go_wp2_with (first
        | go_skip
        | (with_reducible refine atC.at_load 25 3 ?_; refine wpList_load_rowG (by kernel_rfl) 25 (.tmp 3) rfl g3 (by kernel_rfl) _ _ _ _ R3.out Try.underlying25 rfl IM.out ?_)
        | (with_reducible refine atC.at_load 25 17 ?_; refine pkC.wpList_load_partG (by kernel_rfl) 25 (.tmp 17) rfl bx 0 (by kernel_rfl) KA _ CA3.out Try.underlying25 rfl IA.out ?_)
        | (with_reducible refine atC.at_bin .eql 25 ?_; refine wpList_runG (by kernel_rfl) _ (adC.eq_run (T := 25) (s := 16) (x := 18) rfl (by kernel_rfl) (by kernel_rfl) (EQ.out _) guard_addr) ?_)
        | (with_reducible refine atC.at_load 35 1 ?_; refine wpList_load_rowG (by kernel_rfl) 35 (.tmp 1) rfl bx (by kernel_rfl) _ _ _ _ R1.out Try.underlying35 rfl IY.out ?_)
        | (go_at_call 27; (with_reducible refine (VI.out _).mono ?_); rintro e w4 ⟨rfl, BB⟩; have HW4 := Lib.hid BB; clear BB))
      go_ret
      exact ⟨ret_bool (by first | exact hv.out | exact hv.out.symm), HB.out.trans (HW3.out.mono HB.out.size)⟩
    · by_cases h1 : 0 ≤ pt
      · by_cases h2 : pt ≤ 255
        · have hv := Lib.hid (show V = vb by rw [HV0.out]; simp [h1, h2])
          clear HV0
          go_enter Try.func17, Try.ntmps17
          go_upto_region 1 with fail
          rw [← hW, ← hbx]
          clear hW hbx
          have CA1 := Lib.hid (CA.out W (Below.refl _ _))
          go_upto_region 2 with (first
            | (with_reducible refine atC.at_load 25 6 ?_; refine pkC.wpList_load_partG (by kernel_rfl) 25 (.tmp 6) rfl bx 0 (by kernel_rfl) KA _ CA1.out Try.underlying25 rfl IA.out ?_)
            | (go_at_call 20; (with_reducible refine (MK.out _).mono ?_); rintro e w2 ⟨rfl, BB⟩; have HW2 := Lib.hid BB; clear BB)
            | (refine wpList_store_row rfl 25 (.tmp 3) (.tmp 11) rfl w2.heap.size CM rfl rfl _ _ (heap_alloc_new _ _) IM.out SM.out OM.out ?_; rw [World.setRow_alloc_new]))
          obtain ⟨W3, hW3⟩ : ∃ W3, W3 = w2.alloc (.cells CM 25) := ⟨_, rfl⟩
          obtain ⟨g3, hg3⟩ : ∃ g, g = w2.heap.size := ⟨_, rfl⟩
          have R3 := Lib.hid (show W3.heap[g3]? = some (.cells CM 25 (0, 0)) by rw [hW3, hg3]; exact heap_alloc_new _ _)
          have HW3 := Lib.hid (show Below W.heap.size W W3 by rw [hW3]; exact HW2.out.trans ((alloc_below _ _).mono HW2.out.size))
          have R1 := Lib.hid (KR.out W3 HW3.out)
          have CA3 := Lib.hid (CA.out W3 HW3.out)
          have cp := CP.out W3 HW3.out
          rw [← hW3, ← hg3]
          clear hW3 hg3 p17 hzv
          go_wp2_with (first
            | go_skip
            | (with_reducible refine atC.at_load 25 3 ?_; refine wpList_load_rowG (by kernel_rfl) 25 (.tmp 3) rfl g3 (by kernel_rfl) _ _ _ _ R3.out Try.underlying25 rfl IM.out ?_)
            | (with_reducible refine atC.at_load 25 17 ?_; refine pkC.wpList_load_partG (by kernel_rfl) 25 (.tmp 17) rfl bx 0 (by kernel_rfl) KA _ CA3.out Try.underlying25 rfl IA.out ?_)
            | (with_reducible refine atC.at_bin .eql 25 ?_; refine wpList_runG (by kernel_rfl) _ (adC.eq_run (T := 25) (s := 16) (x := 18) rfl (by kernel_rfl) (by kernel_rfl) (EQ.out _) guard_addr) ?_)
            | (with_reducible refine atC.at_load 35 1 ?_; refine wpList_load_rowG (by kernel_rfl) 35 (.tmp 1) rfl bx (by kernel_rfl) _ _ _ _ R1.out Try.underlying35 rfl IY.out ?_)
            | (go_at_call 27; (with_reducible refine (VI.out _).mono ?_); rintro e w4 ⟨rfl, BB⟩; have HW4 := Lib.hid BB; clear BB))
          go_ret
          exact ⟨ret_bool (by first | exact hv.out | exact hv.out.symm), HB.out.trans ((HW3.out.trans (HW4.out.mono HW3.out.size)).mono HB.out.size)⟩
        · have hv := Lib.hid (show V = false by rw [HV0.out]; simp [h2])
          have qd : decide (pt ≤ 255) = false := decide_eq_false h2
          clear HV0
          go_enter Try.func17, Try.ntmps17
          go_upto_region 1 with fail
          rw [← hW, ← hbx]
          clear hW hbx
          have CA1 := Lib.hid (CA.out W (Below.refl _ _))
          go_upto_region 2 with (first
            | (with_reducible refine atC.at_load 25 6 ?_; refine pkC.wpList_load_partG (by kernel_rfl) 25 (.tmp 6) rfl bx 0 (by kernel_rfl) KA _ CA1.out Try.underlying25 rfl IA.out ?_)
            | (go_at_call 20; (with_reducible refine (MK.out _).mono ?_); rintro e w2 ⟨rfl, BB⟩; have HW2 := Lib.hid BB; clear BB)
            | (refine wpList_store_row rfl 25 (.tmp 3) (.tmp 11) rfl w2.heap.size CM rfl rfl _ _ (heap_alloc_new _ _) IM.out SM.out OM.out ?_; rw [World.setRow_alloc_new]))
          obtain ⟨W3, hW3⟩ : ∃ W3, W3 = w2.alloc (.cells CM 25) := ⟨_, rfl⟩
          obtain ⟨g3, hg3⟩ : ∃ g, g = w2.heap.size := ⟨_, rfl⟩
          have R3 := Lib.hid (show W3.heap[g3]? = some (.cells CM 25 (0, 0)) by rw [hW3, hg3]; exact heap_alloc_new _ _)
          have HW3 := Lib.hid (show Below W.heap.size W W3 by rw [hW3]; exact HW2.out.trans ((alloc_below _ _).mono HW2.out.size))
          have R1 := Lib.hid (KR.out W3 HW3.out)
          have CA3 := Lib.hid (CA.out W3 HW3.out)
          have cp := CP.out W3 HW3.out
          rw [← hW3, ← hg3]
          clear hW3 hg3 p17 hzv
          go_wp2_with (first
            | go_skip
            | (with_reducible refine atC.at_load 25 3 ?_; refine wpList_load_rowG (by kernel_rfl) 25 (.tmp 3) rfl g3 (by kernel_rfl) _ _ _ _ R3.out Try.underlying25 rfl IM.out ?_)
            | (with_reducible refine atC.at_load 25 17 ?_; refine pkC.wpList_load_partG (by kernel_rfl) 25 (.tmp 17) rfl bx 0 (by kernel_rfl) KA _ CA3.out Try.underlying25 rfl IA.out ?_)
            | (with_reducible refine atC.at_bin .eql 25 ?_; refine wpList_runG (by kernel_rfl) _ (adC.eq_run (T := 25) (s := 16) (x := 18) rfl (by kernel_rfl) (by kernel_rfl) (EQ.out _) guard_addr) ?_)
            | (with_reducible refine atC.at_load 35 1 ?_; refine wpList_load_rowG (by kernel_rfl) 35 (.tmp 1) rfl bx (by kernel_rfl) _ _ _ _ R1.out Try.underlying35 rfl IY.out ?_)
            | (go_at_call 27; (with_reducible refine (VI.out _).mono ?_); rintro e w4 ⟨rfl, BB⟩; have HW4 := Lib.hid BB; clear BB))
          go_ret
          exact ⟨ret_bool (by first | exact hv.out | exact hv.out.symm), HB.out.trans (HW3.out.mono HB.out.size)⟩
      · have hv := Lib.hid (show V = false by rw [HV0.out]; simp [h1])
        have qd : decide (0 ≤ pt) = false := decide_eq_false h1
        clear HV0
        go_enter Try.func17, Try.ntmps17
        go_upto_region 1 with fail
        rw [← hW, ← hbx]
        clear hW hbx
        have CA1 := Lib.hid (CA.out W (Below.refl _ _))
        go_upto_region 2 with (first
          | (with_reducible refine atC.at_load 25 6 ?_; refine pkC.wpList_load_partG (by kernel_rfl) 25 (.tmp 6) rfl bx 0 (by kernel_rfl) KA _ CA1.out Try.underlying25 rfl IA.out ?_)
          | (go_at_call 20; (with_reducible refine (MK.out _).mono ?_); rintro e w2 ⟨rfl, BB⟩; have HW2 := Lib.hid BB; clear BB)
          | (refine wpList_store_row rfl 25 (.tmp 3) (.tmp 11) rfl w2.heap.size CM rfl rfl _ _ (heap_alloc_new _ _) IM.out SM.out OM.out ?_; rw [World.setRow_alloc_new]))
        obtain ⟨W3, hW3⟩ : ∃ W3, W3 = w2.alloc (.cells CM 25) := ⟨_, rfl⟩
        obtain ⟨g3, hg3⟩ : ∃ g, g = w2.heap.size := ⟨_, rfl⟩
        have R3 := Lib.hid (show W3.heap[g3]? = some (.cells CM 25 (0, 0)) by rw [hW3, hg3]; exact heap_alloc_new _ _)
        have HW3 := Lib.hid (show Below W.heap.size W W3 by rw [hW3]; exact HW2.out.trans ((alloc_below _ _).mono HW2.out.size))
        have R1 := Lib.hid (KR.out W3 HW3.out)
        have CA3 := Lib.hid (CA.out W3 HW3.out)
        have cp := CP.out W3 HW3.out
        rw [← hW3, ← hg3]
        clear hW3 hg3 p17 hzv
        go_wp2_with (first
          | go_skip
          | (with_reducible refine atC.at_load 25 3 ?_; refine wpList_load_rowG (by kernel_rfl) 25 (.tmp 3) rfl g3 (by kernel_rfl) _ _ _ _ R3.out Try.underlying25 rfl IM.out ?_)
          | (with_reducible refine atC.at_load 25 17 ?_; refine pkC.wpList_load_partG (by kernel_rfl) 25 (.tmp 17) rfl bx 0 (by kernel_rfl) KA _ CA3.out Try.underlying25 rfl IA.out ?_)
          | (with_reducible refine atC.at_bin .eql 25 ?_; refine wpList_runG (by kernel_rfl) _ (adC.eq_run (T := 25) (s := 16) (x := 18) rfl (by kernel_rfl) (by kernel_rfl) (EQ.out _) guard_addr) ?_)
          | (with_reducible refine atC.at_load 35 1 ?_; refine wpList_load_rowG (by kernel_rfl) 35 (.tmp 1) rfl bx (by kernel_rfl) _ _ _ _ R1.out Try.underlying35 rfl IY.out ?_)
          | (go_at_call 27; (with_reducible refine (VI.out _).mono ?_); rintro e w4 ⟨rfl, BB⟩; have HW4 := Lib.hid BB; clear BB))
        go_ret
        exact ⟨ret_bool (by first | exact hv.out | exact hv.out.symm), HB.out.trans (HW3.out.mono HB.out.size)⟩
end Go.Proofs.Ytjdenhkicikfkaa.rtC
