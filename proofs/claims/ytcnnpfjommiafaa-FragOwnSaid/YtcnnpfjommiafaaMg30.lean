/-
  2 texts of a proof, joined.
-/
import Derived.Test.YtcnnpfjommiafaaMg28
import Derived.Test.YtcnnpfjommiafaaMg9
import Derived.Test.YtcnnpfjommiafaaMg33

/-
  A step as an argument; tables that nobody made.
-/
namespace Go.Proofs.Ytcnnpfjommiafaa.fgC
open Go.ChangeShapes Go.WideShapes Go.ChangeAt Go.RowKit
open Go.Proofs.Ytcnnpfjommiafaa.memC Go.Proofs.Ytcnnpfjommiafaa.genC Go.Proofs.Ytcnnpfjommiafaa.butC Go.Proofs.Ytcnnpfjommiafaa.freeC Go.Proofs.Ytcnnpfjommiafaa.adC
open Go.Proofs.Ytcnnpfjommiafaa.pkC (Pkt pktL pktV pktT adrC)
set_option linter.unusedVariables false
set_option linter.constructorNameAsVariable false
theorem is_step : Try.prog.underlying 53 = some (.struct (Try.prog.fieldsOf 53)) := by simp [Program.fieldsOf, Try.underlying53]
def pkTs : List TypeId := (4 :: List.replicate 16 5) ++ ((4 :: List.replicate 16 5) ++ [5, 5, 25, 4, 4, 3, 26])
theorem pk_types : Try.prog.cellTypes Try.prog.depth 28 = some pkTs := by kernel_rfl
theorem step_types : Try.prog.cellTypes Try.prog.depth 53 = some (4 :: 2 :: pkTs) := by kernel_rfl
theorem step_f0 : ((Try.prog.fieldsOf 53)[0]?).map (fun f => (f.type, f.offset)) = some (4, 0) := by kernel_rfl
theorem step_f1 : ((Try.prog.fieldsOf 53)[1]?).map (fun f => (f.type, f.offset)) = some (2, 1) := by kernel_rfl
theorem step_f2 : ((Try.prog.fieldsOf 53)[2]?).map (fun f => (f.type, f.offset)) = some (28, 2) := by kernel_rfl
theorem cells_of : Try.prog.cellsOf 53 = 43 ∧ Try.prog.cellsOf 28 = 41 ∧ Try.prog.cellsOf 4 = 1 ∧ Try.prog.cellsOf 2 = 1 := ⟨by kernel_rfl, by kernel_rfl, by kernel_rfl, by kernel_rfl⟩
theorem some_at {α : Type} {l : List α} {i n : Nat} (hl : l.length = n) (hi : i < n) : ∃ y, l[i]? = some y := ⟨_, List.getElem?_eq_getElem (by omega)⟩
set_option maxRecDepth 100000 in
theorem pk_okWide {w : World} {r : Reach} {b0 : Nat} {l : List Value} (hl : l.length = 41) (h : ∀ (i : Nat) v, l[i]? = some v → ∃ u, pkTs[i]? = some u ∧ Cell.okWide Try.prog w r b0 u v) : Value.okWide Try.prog w r b0 28 (.agg l.toArray) := by
  unfold Value.okWide
  rw [pkC.is_pkt]
  refine ⟨l.toArray, rfl, by rw [cells_of.2.1, List.size_toArray, hl], pkTs, pk_types, ⟨1, by rw [List.size_toArray, hl]; rfl⟩, fun i v hv => ?_⟩
  have hv2 : l[i]? = some v := by simpa using hv
  have hi := (List.getElem?_eq_some_iff.1 hv2).1
  have e : i % pkTs.length = i := Nat.mod_eq_of_lt (by show i < 41; omega)
  rw [e]
  exact h i v hv2
set_option maxRecDepth 100000 in
theorem open_cells {H : Type} {enc : TypeId × Value → H} {w : World} {base : Nat} {spare : Nat → Bool} {held : Bool} {r : Reach} {b0 fuel : Nat} {l : List Value} {x : DataW H × List MemPlace} (hsp : ∀ b, spare b = true) (hl : l.length = 43)
    (hc : ∀ (i : Nat) v, l[i]? = some v → ∃ u, (4 :: 2 :: pkTs)[i]? = some u ∧ Cell.okWide Try.prog w r b0 u v) (hf : DataW.trod enc Try.prog w base spare held fuel 53 l = some x) :
    ∃ s : Se, l = s.cells ∧ s.Ok ∧ Ld w w.heap.size s.e := by
  obtain ⟨ys, n8, -, -, -, hyl, hg⟩ := DataW.trod_struct is_step hf
  obtain ⟨c1, c2, c3, c4⟩ := cells_of
  have hfs : (Try.prog.fieldsOf 53).size = 3 := by kernel_rfl
  rw [hfs] at hyl
  obtain ⟨f0, h0, e0⟩ := Option.map_eq_some_iff.1 step_f0
  obtain ⟨f1, h1, e1⟩ := Option.map_eq_some_iff.1 step_f1
  obtain ⟨f2, h2, e2⟩ := Option.map_eq_some_iff.1 step_f2
  obtain ⟨a0, b0'⟩ := Prod.mk.inj e0
  obtain ⟨a1, b1⟩ := Prod.mk.inj e1
  obtain ⟨a2, b2⟩ := Prod.mk.inj e2
  have g0 := hg 0 f0 h0
  have g1 := hg 1 f1 h1
  have g2 := hg 2 f2 h2
  rw [a0, b0', c3] at g0
  rw [a1, b1, c4] at g1
  rw [a2, b2, c2] at g2
  obtain ⟨y0, hy0⟩ := some_at hyl (show 0 < 3 by decide)
  obtain ⟨y1, hy1⟩ := some_at hyl (show 1 < 3 by decide)
  obtain ⟨y2, hy2⟩ := some_at hyl (show 2 < 3 by decide)
  rw [hy0] at g0
  rw [hy1] at g1
  rw [hy2] at g2
  obtain ⟨ob, q0, -⟩ := DataW.trod_bool Try.underlying4 g0
  obtain ⟨lt, q1, -, wf⟩ := DataW.trod_int Try.underlying2 g1
  have hpl : ((l.drop 2).take 41).length = 41 := by rw [List.length_take, List.length_drop]; omega
  have hpk : Value.okWide Try.prog w r b0 28 (.agg ((l.drop 2).take 41).toArray) := pk_okWide hpl fun i v hv => by
    have hi : i < 41 := by have := (List.getElem?_eq_some_iff.1 hv).1; omega
    rw [List.getElem?_take_of_lt hi, List.getElem?_drop, Nat.add_comm 2 i] at hv
    obtain ⟨u, hu, hc9⟩ := hc (i + 2) v hv
    exact ⟨u, by simpa using hu, hc9⟩
  have htp : DataW.Trod enc Try.prog w base spare held 28 (.agg ((l.drop 2).take 41).toArray) y2.1 y2.2 := ⟨n8, g2⟩
  obtain ⟨p, A, n, c, zs, hv, hok, hnc, hcm, hN, hy⟩ := pkC.open_pkt hsp hpk htp
  refine ⟨⟨ob, lt, ⟨p, A, n, c, zs⟩⟩, ?_, ⟨bounds_i64 wf, ⟨hok, hy, hnc, hcm⟩⟩, hN⟩
  injection hv with hv
  have hv2 : (l.drop 2).take 41 = pktL p A n c := by have := congrArg Array.toList hv; simpa [pktV] using this
  have e9 : l = (l.drop 0).take 1 ++ ((l.drop 1).take 1 ++ (l.drop 2).take 41) := by
    rw [List.take_of_length_le (l := l.drop 2) (by rw [List.length_drop]; omega)]
    have h8 : (l.drop 1).take 1 ++ l.drop 2 = l.drop 1 := by
      have := List.take_append_drop 1 (l.drop 1)
      rwa [List.drop_drop] at this
    rw [h8]
    have := List.take_append_drop 1 (l.drop 0)
    rw [List.drop_zero] at this ⊢
    exact this.symm
  rw [e9, q0, q1, hv2]
  rfl
set_option maxRecDepth 100000 in
theorem open_step {H : Type} {enc : TypeId × Value → H} {w : World} {base : Nat} {spare : Nat → Bool} {held : Bool} {r : Reach} {b0 : Nat} {v : Value} {d : DataW H} {ps : List MemPlace} (hsp : ∀ b, spare b = true)
    (hval : Value.okWide Try.prog w r b0 53 v) (hd : DataW.Trod enc Try.prog w base spare held 53 v d ps) : ∃ s : Se, v = .agg s.cells.toArray ∧ s.Ok ∧ Ld w w.heap.size s.e := by
  obtain ⟨fuel, hf⟩ := hd
  unfold Value.okWide at hval
  rw [is_step] at hval
  obtain ⟨cs, rfl, hsz, ts', hts', -, hcell⟩ := hval
  rw [step_types] at hts'
  obtain rfl := Option.some.inj hts'
  obtain ⟨l⟩ := cs
  rw [cells_of.1] at hsz
  have hl : l.length = 43 := by simpa using hsz
  obtain ⟨s, h1, h2, h3⟩ := open_cells hsp hl (fun i v hv => by
    have hi := (List.getElem?_eq_some_iff.1 hv).1
    obtain ⟨u, hu, hc⟩ := hcell i v (by simpa using hv)
    have e : i % (4 :: 2 :: pkTs).length = i := Nat.mod_eq_of_lt (by show i < 43; omega)
    rw [e] at hu
    exact ⟨u, hu, hc⟩) hf
  exact ⟨s, by rw [h1], h2, h3⟩
/-! ### nobody's tables -/
def NM (w : World) (pv : Value) : Prop := pv = .pointer none ∨ ∃ t, pv = .pointer (some ⟨t, 0, none⟩) ∧ w.heap[t]? = some (.cells #[.pointer none, .int .i64 0, .int .i64 0, .map none, .slice none 0 0] 58 (0, 0))
theorem NM.below {w w' : World} {pv : Value} (h : NM w pv) (hb : Below w.heap.size w w') : NM w' pv := by
  rcases h with h | ⟨t, h, hr⟩
  · exact .inl h
  · exact .inr ⟨t, h, (hb.block _ (Array.getElem?_eq_some_iff.1 hr).1).trans hr⟩
theorem eql_nil_ptr {P : Program} (w : World) {tp te : TypeId} (a : Addr) (hp : P.underlying tp = some (.pointer te)) : (binOp .eql tp (.pointer none) (.pointer (some a))).run P w = .ok (.bool false) w := by
  have h : ∀ d : Nat, (Op.equalIn (d + 1) tp (.pointer none) (.pointer (some a))).run P w = .ok false w := fun d => by
    simp [Op.equalIn, run_underlying hp]
  simp only [binOp]
  simp [Op.equal, Op.maxDepth, h 9999]
set_option maxRecDepth 100000 in
theorem nm_made {w : World} {pv : Value} (h : NM w pv) : Calls Try.prog 27 #[pv] w fun e w' => e = .returned (.bool false) ∧ w' = w := by
  rcases h with rfl | ⟨t, rfl, hr⟩
  · go_enter Try.func27, Try.ntmps27
    go_wp2_with go_skip
    go_ret
    exact ⟨rfl, rfl⟩
  · have c0 : w.cell? ⟨t, 0, none⟩ = some (.pointer none) := cell_of_row w t 0 _ _ (0, 0) hr
    have he := eql_nil_ptr (P := Try.prog) w ⟨t, 0, none⟩ Try.underlying39
    clear hr
    go_enter Try.func27, Try.ntmps27
    go_wp2_with go_skip
    go_ret
    exact ⟨rfl, rfl⟩
set_option maxRecDepth 100000 in
theorem nm_len {w : World} {pv : Value} (h : NM w pv) : Calls Try.prog 18 #[pv] w (Ret w (.int .i64 0)) := by
  have MD := Lib.hid (nm_made h)
  clear h
  go_enter Try.func18, Try.ntmps18
  go_wp2_with (go_at_call 27; refine MD.out.mono ?_; rintro e w2 ⟨rfl, hw⟩; obtain rfl := hw.symm)
  go_ret
  exact ⟨rfl, Below.refl _ _⟩
set_option maxRecDepth 100000 in
theorem nm_now {w : World} {pv : Value} (h : NM w pv) : Calls Try.prog 19 #[pv] w (Ret w (.int .i64 0)) := by
  have MD := Lib.hid (nm_made h)
  clear h
  go_enter Try.func19, Try.ntmps19
  go_wp2_with (go_at_call 27; refine MD.out.mono ?_; rintro e w2 ⟨rfl, hw⟩; obtain rfl := hw.symm)
  go_ret
  exact ⟨rfl, Below.refl _ _⟩
set_option maxRecDepth 100000 in
theorem nm_over {w : World} {pv : Value} (now : Int) (h : NM w pv) : Calls Try.prog 17 #[pv, .int .i64 now] w (Ret w (.slice none 0 0)) := by
  have MD := Lib.hid (nm_made h)
  clear h
  go_enter Try.func17, Try.ntmps17
  go_wp2_with (go_at_call 27; refine MD.out.mono ?_; rintro e w2 ⟨rfl, hw⟩; obtain rfl := hw.symm)
  go_ret
  exact ⟨rfl, Below.refl _ _⟩
set_option maxRecDepth 100000 in
set_option maxHeartbeats 4000000 in
theorem nm_add {w : World} {pv : Value} (now : Int) (p : Pkt) (A : Option Addr) (n c : Nat) (h : NM w pv) : Calls Try.prog 12 #[pv, .int .i64 now, .agg (pktV p A n c)] w (Ret w (.tuple #[.agg (pktV zPkt none 0 0), .bool false, .int .i64 2])) := by
  obtain ⟨W, hW⟩ : ∃ W, W = (w.alloc (.cells (pktV p A n c) 28)).alloc (.cells (pktV zPkt none 0 0) 28) := ⟨_, rfl⟩
  have HB := Lib.hid (show Below w.heap.size w W by rw [hW]; exact (alloc_below _ _).trans ((alloc_below _ _).mono (alloc_below _ _).size))
  have R6 := Lib.hid (show W.heap[w.heap.size + 1]? = some (.cells (pktV zPkt none 0 0) 28 (0, 0)) by rw [hW]; exact (two_rows w _ _ _ _).2)
  have MD := Lib.hid (nm_made (h.below HB.out))
  have XI := Lib.hid (pkt_info zPkt_okM none 0 0)
  have XO := Lib.hid (pkt_one zPkt none 0 0)
  have KZ : (zeroValue 28).run Try.prog (w.alloc (.cells (pktV p A n c) 28)) = .ok (.agg (pktV zPkt none 0 0)) (w.alloc (.cells (pktV p A n c) 28)) := zeroPktK _
  clear h
  go_enter Try.func12, Try.ntmps12
  go_upto_region 1 with fail
  rw [← hW]
  clear hW KZ
  go_wp2_with (first
    | (go_at_call 27; refine MD.out.mono ?_; rintro e w2 ⟨rfl, hw⟩; obtain rfl := hw.symm)
    | (with_reducible refine at_buildK 28 ?_; refine adC.wpList_zero rfl 28 rfl (pktV zPkt none 0 0) zpkB ?_)
    | (refine wpList_store_row rfl 28 (.tmp 6) (.tmp 15) rfl (w.heap.size + 1) (pktV zPkt none 0 0) rfl rfl _ _ R6.out XI.out rfl XO.out ?_))
  refine bodyPost_ret (v := .tuple #[.agg (pktV zPkt none 0 0), .bool false, .int .i64 2]) (results_cell_tmp2 Try.results12 _ _ (w.heap.size + 1) _ _ _ _ _ _ (by rfl) (setRow_heap _ _ _ _ _ _ R6.out) Try.underlying28 rfl XI.out (by rfl) (by rfl)) rfl ⟨rfl, below_setRow HB.out (Nat.le_succ _) _⟩
end Go.Proofs.Ytcnnpfjommiafaa.fgC

/-
  The walk of FragNobody.
-/
namespace Go.Proofs.Ytcnnpfjommiafaa.fgC
open Go.ChangeShapes Go.WideShapes Go.ChangeAt Go.RowKit
open Go.Proofs.Ytcnnpfjommiafaa.memC Go.Proofs.Ytcnnpfjommiafaa.genC Go.Proofs.Ytcnnpfjommiafaa.butC Go.Proofs.Ytcnnpfjommiafaa.freeC Go.Proofs.Ytcnnpfjommiafaa.adC
open Go.Proofs.Ytcnnpfjommiafaa.pkC (Pkt pktL pktV pktT adrC)
set_option linter.unusedVariables false
set_option linter.constructorNameAsVariable false
def zSe : Se := ⟨false, 0, ⟨zPkt, none, 0, 0, []⟩⟩
theorem step_infoK : (Try.prog.info? 53).map (fun i => (i.zero, i.size)) = some (some (.agg zSe.cells.toArray), 43) := by kernel_rfl
/-- a slice of one step -/
theorem wpList_sliceS {ops : Array Oper} {rest : List Oper} {o : Oper} {a : Act} {w : World} {Q : Exit → Act → World → Prop} (hg : o.guard = none) (x : Operand) (ho : o.op = .buildSlice 49 1 #[(0, x)]) (C : Array Value) (hx : a.eval x = .agg C) (hC : C.size = 43)
    (h : wpList Try.prog ops Q rest (a.put o.dst (.slice (some ⟨w.heap.size, 0, none⟩) 1 1)) (w.alloc (.cells C 53))) : wpList Try.prog ops Q (o :: rest) a w := by
  obtain ⟨ie, hie, he⟩ := Option.map_eq_some_iff.1 step_infoK
  obtain ⟨hz, hs⟩ := Prod.mk.inj he
  refine wpList_buildSlice hg 49 53 1 _ ho C ie _ Try.underlying49 hie hz (by rw [hs]; decide) (by rw [hs]; decide) ?_ h
  rw [hs]
  have := Great.fill_whole (s := 43) (by decide) [Value.agg C] ((Array.range (1 * 43)).map ((Value.agg zSe.cells.toArray).cells[· % (Value.agg zSe.cells.toArray).cells.size]!)) (by simpa [Value.cells] using hC) (by simp)
  simpa [hx, Value.cells] using this
set_option maxRecDepth 100000 in
set_option maxHeartbeats 8000000 in
theorem nobody_walk (s : Se) (w : World) (hs : s.Ok) (hl : Ld w w.heap.size s.e) :
    Calls Try.prog 6 #[.agg s.cells.toArray] w (Ret w (.bool true)) := by
  obtain ⟨g1, hg1⟩ : ∃ g, g = w.heap.size := ⟨_, rfl⟩
  obtain ⟨W, hW⟩ : ∃ W, W = w.alloc (.cells s.cells.toArray 53) := ⟨_, rfl⟩
  have HB := Lib.hid (show Below w.heap.size w W by rw [hW]; exact alloc_below _ _)
  have R1 := Lib.hid (show W.heap[g1]? = some (.cells s.cells.toArray 53 (0, 0)) by rw [hW, hg1]; exact heap_alloc_new _ _)
  have IS := Lib.hid (show (Try.prog.info? 53).map (·.size) = some s.cells.toArray.size by rw [List.size_toArray, Se.cells_len hs]; kernel_rfl)
  have SS := Lib.hid (show s.cells.toArray.size = 43 by rw [List.size_toArray, Se.cells_len hs])
  obtain ⟨W1, hW1⟩ : ∃ W1, W1 = W.alloc (.cells s.cells.toArray 53) := ⟨_, rfl⟩
  have HB1 := Lib.hid (show Below W.heap.size W W1 by rw [hW1]; exact alloc_below _ _)
  have RW1 := Lib.hid (show W1.heap[W.heap.size]? = some (.cells s.cells.toArray 53 (0, 0)) by rw [hW1]; exact heap_alloc_new _ _)
  have HSK := Lib.hid (show SksE W1 W1.heap.size (some ⟨W.heap.size, 0, none⟩) 1 [s] by
    refine ⟨⟨rfl, fun _ => ⟨W.heap.size, 0, rfl, (Array.getElem?_eq_some_iff.1 RW1.out).1, fun i x hi j v hv => ?_⟩⟩, fun x hx => ?_, fun x hx => ?_⟩
    · match i, hi with
      | 0, hi =>
        simp at hi
        subst hi
        rw [cell_of_row W1 _ (0 + 0 * 43 + j) _ _ (0, 0) RW1.out]
        simpa using hv
    · obtain rfl := List.mem_singleton.1 hx
      exact (hl.below HB.out HB.out.size).below HB1.out HB1.out.size
    · obtain rfl := List.mem_singleton.1 hx
      exact hs)
  have FR := Lib.hid (far_any _ 1 1 [s] W1 HSK.out (Nat.le_refl _))
  obtain ⟨fb, hfb⟩ : ∃ b, b = decide (70000 < farN (List.take 100 [s])) := ⟨_, rfl⟩
  rw [← hfb] at FR
  have AL := Lib.hid aliveF
  have HW1 := Lib.hid hW1
  have HS := Lib.hid hs
  have HG1 := Lib.hid hg1
  clear hW1 hfb hl
  cases fb
  rotate_left
  · go_enter Try.func6, Try.ntmps6
    go_upto_region 1 with fail
    rw [← hW]
    rw [← hg1]
    clear hW hg1
    generalize s.cells.toArray = C at *
    go_wp2_with (first
      | (refine wpList_load_row rfl 53 (.tmp 1) rfl g1 rfl _ _ _ _ R1.out Try.underlying53 rfl IS.out ?_)
      | (refine wpList_sliceS rfl (.tmp 8) rfl C rfl SS.out ?_; rw [← HW1.out])
      | (go_at_call 15; refine FR.out.mono ?_; rintro e w2 ⟨rfl, hb⟩; have HB2 := Lib.hid hb; clear hb)
      | (go_at_call 7; refine (AL.out _).mono ?_; rintro e w3 ⟨rfl, hb⟩; have HB3 := Lib.hid hb; clear hb))
    go_ret
    have b1 := HB.out.trans (HB1.out.mono HB.out.size)
    have b2 := b1.trans (HB2.out.mono b1.size)
    exact ⟨rfl, b2.trans (HB3.out.mono b2.size)⟩
  have p1 : W.cell? ⟨g1, 1, none⟩ = some (.int .i64 s.lt) := by rw [cell_of_row W g1 1 _ _ (0, 0) R1.out]; rfl
  have LTC := Lib.hid (fun (w' : World) (h : Below W.heap.size W w') => (show w'.cell? ⟨g1, 1, none⟩ = some (.int .i64 s.lt) from (h.cell (p := ⟨g1, 1, none⟩) (Array.getElem?_eq_some_iff.1 R1.out).1).trans p1))
  have PKC := Lib.hid (fun (w' : World) (h : Below W.heap.size W w') => (show ∀ j v, s.e.cells[j]? = some v → w'.cell? ⟨g1, 2 + j, none⟩ = some v from fun j v hv => (h.cell (p := ⟨g1, 2 + j, none⟩) (Array.getElem?_eq_some_iff.1 R1.out).1).trans (by
    rw [cell_of_row W g1 (2 + j) _ _ (0, 0) R1.out, List.getElem?_toArray]
    unfold Se.cells
    rw [Nat.add_comm, List.getElem?_cons_succ, List.getElem?_cons_succ]
    exact hv)))
  have IK := Lib.hid (pkt_size HS.out.e.p)
  clear p1
  have NA := Lib.hid (fun w' pv (h : NM w' pv) => nm_add s.lt s.e.p s.e.A s.e.n s.e.c h)
  have ey : pktV s.e.p s.e.A s.e.n s.e.c = s.e.cells.toArray := rfl
  simp only [ey] at NA
  clear ey
  have SAME := Lib.hid (fun w' => (show Calls Try.prog 13 #[.agg (pktV zPkt none 0 0), .agg (pktV zPkt none 0 0)] w' (Ret w' (.bool true)) by
    have h9 := pkC.rsame_any zPkt zPkt none none 0 0 0 0 [] [] w' zPkt_okM zPkt_okM (zP_nums w') (zP_nums w') (by simp) (by simp)
    rwa [sameB_selfK] at h9))
  have XI := Lib.hid (pkt_info zPkt_okM none 0 0)
  have XO := Lib.hid (pkt_one zPkt none 0 0)
  go_enter Try.func6, Try.ntmps6
  go_upto_region 1 with fail
  rw [← hW]
  rw [← hg1]
  clear hW hg1 hs
  generalize s.cells.toArray = C at *
  generalize s.e.cells = PC at *
  generalize s.lt = lt at *
  go_upto_region 3 with (first
    | (refine wpList_load_row rfl 53 (.tmp 1) rfl g1 rfl _ _ _ _ R1.out Try.underlying53 rfl IS.out ?_)
    | (refine wpList_sliceS rfl (.tmp 8) rfl C rfl SS.out ?_; rw [← HW1.out])
    | (go_at_call 15; refine FR.out.mono ?_; rintro e w2 ⟨rfl, hb⟩; have HB2 := Lib.hid hb; clear hb))
  have HW2 := Lib.hid (show Below W.heap.size W w2 from HB1.out.trans (HB2.out.mono HB1.out.size))
  clear FR HSK RW1 HB1 HB2 SS R1 IS HW1
  obtain ⟨W3, hW3⟩ : ∃ W3, W3 = w2.alloc (.cells #[.pointer none, .int .i64 0, .int .i64 0, .map none, .slice none 0 0] 58) := ⟨_, rfl⟩
  obtain ⟨W4, hW4⟩ : ∃ W4, W4 = W3.alloc (.cells #[.pointer none, .pointer (some ⟨w2.heap.size, 0, none⟩)] 39) := ⟨_, rfl⟩
  have RT := Lib.hid (show W3.heap[w2.heap.size]? = some (.cells #[.pointer none, .int .i64 0, .int .i64 0, .map none, .slice none 0 0] 58 (0, 0)) by rw [hW3]; exact heap_alloc_new _ _)
  have RS := Lib.hid (show W4.heap[W3.heap.size]? = some (.cells #[.pointer none, .pointer (some ⟨w2.heap.size, 0, none⟩)] 39 (0, 0)) by rw [hW4]; exact heap_alloc_new _ _)
  have B3 := Lib.hid (show Below w2.heap.size w2 W3 by rw [hW3]; exact alloc_below _ _)
  have B4 := Lib.hid (show Below W3.heap.size W3 W4 by rw [hW4]; exact alloc_below _ _)
  have N4 := Lib.hid (show ∀ k, k < 2 → ∃ pv, W4.cell? ⟨W3.heap.size, k, none⟩ = some pv ∧ NM W4 pv from fun k hk => by
    rcases Nat.lt_succ_iff_lt_or_eq.1 hk with hk | rfl
    · obtain rfl : k = 0 := by omega
      exact ⟨_, cell_of_row W4 _ 0 _ _ (0, 0) RS.out, .inl rfl⟩
    · exact ⟨_, cell_of_row W4 _ 1 _ _ (0, 0) RS.out, .inr ⟨_, rfl, (B4.out.block _ (Array.getElem?_eq_some_iff.1 RT.out).1).trans RT.out⟩⟩)
  have HW4 := Lib.hid (show Below W.heap.size W W4 from (HW2.out.trans (B3.out.mono HW2.out.size)).trans (B4.out.mono (by have := HW2.out.size; have := B3.out.size; omega)))
  obtain ⟨gs, hgs⟩ : ∃ g, g = w2.heap.size + 1 := ⟨_, rfl⟩
  have hg3 : W3.heap.size = gs := by rw [hW3, hgs]; simp
  rw [hg3] at N4
  have GSL := Lib.hid (show gs < W4.heap.size by rw [← hg3]; exact (Array.getElem?_eq_some_iff.1 RS.out).1)
  have HS3 := Lib.hid hW3
  have HS4 := Lib.hid hW4
  clear hW3 hW4 RT RS B3 B4 hg3
  go_upto_region 4 with fail
  try rw [← HS3.out]
  try rw [← hgs]
  try rw [← HS4.out]
  clear hgs HS3 HS4
  go_loopw [16] (fun u wr => ∃ k : Nat, u = .int .i64 k ∧ k ≤ 2 ∧ Below W4.heap.size W4 wr) (fun u _ => 10 - (intOf u).toNat)
  case atStart => exact ⟨0, rfl, by decide, Below.refl _ _⟩
  case round =>
    obtain ⟨k, rfl, hk, hb⟩ := hrel
    have BW := Lib.hid hb
    have BWW := Lib.hid (show Below W.heap.size W wr from HW4.out.trans (hb.mono HW4.out.size))
    by_cases hk2 : k < 2
    rotate_left
    · have q : ¬ (k : Int) < 2 := by omega
      clear hb hk hk2
      go_wp2_with (first
        | (go_at_call 7; refine (AL.out _).mono ?_; rintro e w9 ⟨rfl, hb⟩; have HB9 := Lib.hid hb; clear hb))
      go_ret
      have b2 := HB.out.trans (BWW.out.mono HB.out.size)
      exact ⟨rfl, b2.trans (HB9.out.mono b2.size)⟩
    · have q : (k : Int) < 2 := by omega
      have w1 : IntKind.i64.wrap ((k : Int) + 1) = (k : Int) + 1 := IntWalk.i64_in _ (by omega)
      obtain ⟨pv, hcv, hnm⟩ := N4.out k hk2
      have cv : wr.cell? ⟨gs, k, none⟩ = some pv := (hb.cell (p := ⟨gs, k, none⟩) GSL.out).trans hcv
      have NMr := Lib.hid (hnm.below hb)
      have HK := Lib.hid hk2
      have cl := LTC.out wr BWW.out
      have CP := Lib.hid (PKC.out wr BWW.out)
      have ADD := Lib.hid (NA.out wr pv NMr.out)
      have hzv := zeroPktK
      clear hb hk hk2 hcv hnm
      go_upto_region 7 with (first
        | (refine partC.wpList_load_part rfl 28 (.tmp 24) rfl g1 2 rfl PC _ CP.out Try.underlying28 rfl IK.out ?_)
        | (go_at_call 12; refine ADD.out.mono ?_; rintro e w5 ⟨rfl, hb⟩; have B5 := Lib.hid hb; clear hb)
        | (refine wpList_store_row rfl 28 (.tmp 5) (.tmp 27) rfl w5.heap.size (pktV zPkt none 0 0) rfl rfl _ _ (heap_alloc_new _ _) XI.out rfl XO.out ?_; rw [World.setRow_alloc_new]))
      obtain ⟨g6, hg6⟩ : ∃ g, g = w5.heap.size := ⟨_, rfl⟩
      obtain ⟨W6, hW6⟩ : ∃ W6, W6 = w5.alloc (.cells (pktV zPkt none 0 0) 28) := ⟨_, rfl⟩
      have R6 := Lib.hid (show W6.heap[g6]? = some (.cells (pktV zPkt none 0 0) 28 (0, 0)) by rw [hW6, hg6]; exact heap_alloc_new _ _)
      have B6 := Lib.hid (show Below wr.heap.size wr W6 by rw [hW6]; exact B5.out.trans ((alloc_below _ _).mono B5.out.size))
      rw [← hW6, ← hg6]
      clear hW6 hg6 hzv ADD CP cl cv
      have cl6 := LTC.out W6 (BWW.out.trans (B6.out.mono BWW.out.size))
      go_wp2_with (first
        | go_skip
        | (with_reducible refine atC.at_load 28 5 ?_; refine wpList_load_rowG (by kernel_rfl) 28 (.tmp 5) rfl g6 (by kernel_rfl) _ _ _ _ R6.out Try.underlying28 rfl XI.out ?_)
        | (with_reducible refine at_buildK 28 ?_; refine adC.wpList_zero rfl 28 rfl (pktV zPkt none 0 0) zpkB ?_)
        | (go_at_call 13; refine (SAME.out W6).mono ?_; rintro e w7 ⟨rfl, hb⟩
           have B7 := Lib.hid (B6.out.trans (hb.mono B6.out.size))
           have cl7 := LTC.out w7 (BWW.out.trans (B7.out.mono BWW.out.size))
           clear hb)
        | (go_at_call 17; refine (nm_over lt (NMr.out.below B7.out)).mono ?_; rintro e w8 ⟨rfl, hb⟩
           have B8 := Lib.hid (B7.out.trans (hb.mono B7.out.size))
           clear hb)
        | (go_at_call 18; refine (nm_len (NMr.out.below B8.out)).mono ?_; rintro e w9 ⟨rfl, hb⟩
           have B9 := Lib.hid (B8.out.trans (hb.mono B8.out.size))
           clear hb)
        | (go_at_call 19; refine (nm_now (NMr.out.below B9.out)).mono ?_; rintro e w10 ⟨rfl, hb⟩
           have B10 := Lib.hid (B9.out.trans (hb.mono B9.out.size))
           clear hb))
      go_roundw
      case rel => exact ⟨k + 1, by simp, by have := HK.out; omega, BW.out.trans (B10.out.mono BW.out.size)⟩
      case measure => have := HK.out; simp [intOf]; omega
end Go.Proofs.Ytcnnpfjommiafaa.fgC
