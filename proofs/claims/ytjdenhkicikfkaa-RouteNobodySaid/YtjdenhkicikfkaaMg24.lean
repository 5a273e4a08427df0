/-
  4 texts of a proof, joined.
-/
import Derived.Test.YtjdenhkicikfkaaMg23
import Derived.Test.YtjdenhkicikfkaaMg14
import Derived.BigQuiet
import Derived.LaidEqlPtr
import Derived.Shelf.SlSortCmp.NoneTotal
import Derived.Test.YtjdenhkicikfkaaMg4
import Derived.Test.YtjdenhkicikfkaaMg3

/-
  A table in memory; New; all of its ways in order; tables that nobody made.
-/
namespace Go.Proofs.Ytjdenhkicikfkaa.rtC
open Go.ChangeShapes Go.WideShapes Go.ChangeAt Go.RowKit
open Go.Proofs.Ytjdenhkicikfkaa.memC Go.Proofs.Ytjdenhkicikfkaa.genC Go.Proofs.Ytjdenhkicikfkaa.butC Go.Proofs.Ytjdenhkicikfkaa.freeC Go.Proofs.Ytjdenhkicikfkaa.adC
set_option linter.unusedVariables false
/-- at t lies a table of these ways, by the map at b -/
structure TC (w : World) (S : Nat → Prop) (t b : Nat) (st : List Wy) : Prop where
  row : w.heap[t]? = some (.cells #[.pointer (some ⟨t, 0, none⟩), .map (some b)] 50 (0, 0))
  ss : S t
  sb : S b
  map : MapW w b st
  lt : ∀ k, S k → k < w.heap.size
def Tb (w : World) (S : Nat → Prop) (t : Nat) (st : List Wy) : Prop := ∃ b, TC w S t b st
section
variable {w w' : World} {S : Nat → Prop} {t b : Nat} {st : List Wy}
theorem TC.keep (h : TC w S t b st) (hk : ∀ k, S k → w'.heap[k]? = w.heap[k]?) (hs : w.heap.size ≤ w'.heap.size) : TC w' S t b st :=
  ⟨(hk _ h.ss).trans h.row, h.ss, h.sb, h.map.same (hk _ h.sb), fun k hk2 => Nat.lt_of_lt_of_le (h.lt k hk2) hs⟩
theorem TC.below (h : TC w S t b st) (hb : Below w.heap.size w w') : TC w' S t b st := h.keep (fun k hk => hb.block k (h.lt k hk)) hb.size
theorem TC.ne (h : TC w S t b st) : t ≠ b := by
  intro e
  obtain ⟨es, cl, T, hb, -⟩ := h.map
  have h9 := h.row
  rw [e, hb] at h9; cases h9
theorem TC.cell (h : TC w S t b st) : w.cell? ⟨t, 1, none⟩ = some (.map (some b)) := cell_of_row w t 1 _ _ (0, 0) h.row
end
theorem tab_info : (Try.prog.info? 50).isSome = true := by kernel_rfl
set_option maxRecDepth 100000 in
theorem made_any (w : World) (S : Nat → Prop) (t b : Nat) (st : List Wy) (h : TC w S t b st) : Calls Try.prog 16 #[.pointer (some ⟨t, 0, none⟩)] w fun e w' => e = .returned (.bool true) ∧ w' = w := by
  have c0 : w.cell? ⟨t, 0, none⟩ = some (.pointer (some ⟨t, 0, none⟩)) := cell_of_row w t 0 _ _ (0, 0) h.row
  obtain ⟨j, hj⟩ := Option.isSome_iff_exists.1 tab_info
  have he : (binOp .eql 26 (.pointer (some ⟨t, 0, none⟩)) (.pointer (some ⟨t, 0, none⟩))).run Try.prog w = .ok (.bool true) w := run_eql_ptr_same w _ Try.underlying26 hj
  clear h hj
  go_enter Try.func16, Try.ntmps16
  go_wp2
  go_ret
  exact ⟨rfl, rfl⟩
theorem tab_built (b : Nat) : Try.prog.built 50 [(1, .map (some b))] = some #[.pointer none, .map (some b)] := by kernel_rfl
set_option maxRecDepth 100000 in
set_option maxHeartbeats 4000000 in
theorem new_any (w : World) : Calls Try.prog 6 #[] w fun e w' => ∃ t S, e = .returned (.pointer (some ⟨t, 0, none⟩)) ∧ Tb w' S t [] ∧ (∀ k, S k → w.heap.size ≤ k) ∧ Below w.heap.size w w' := by
  have hmm := @run_makeMap Try.prog
  obtain ⟨W1, hW1⟩ : ∃ W, W = w.alloc (.map #[] 0) := ⟨_, rfl⟩
  obtain ⟨W, hW⟩ : ∃ W, W = W1.alloc (.cells #[.pointer none, .map (some w.heap.size)] 50) := ⟨_, rfl⟩
  have B1 := Lib.hid (show Below w.heap.size w W1 by rw [hW1]; exact alloc_below _ _)
  have B2 := Lib.hid (show Below W1.heap.size W1 W by rw [hW]; exact alloc_below _ _)
  have S1' := Lib.hid (show W1.heap.size = w.heap.size + 1 by rw [hW1]; simp)
  have M1 := Lib.hid (show MapW W w.heap.size [] from (by rw [hW1]; exact MapW.made w : MapW W1 w.heap.size []).same (B2.out.block _ (by rw [S1'.out]; omega)))
  have RT := Lib.hid (show W.heap[w.heap.size + 1]? = some (.cells #[.pointer none, .map (some w.heap.size)] 50 (0, 0)) by rw [hW, ← S1'.out]; exact heap_alloc_new _ _)
  have SW := Lib.hid (show W.heap.size = w.heap.size + 2 by rw [hW]; simp [S1'.out])
  have c0 : W.cell? ⟨w.heap.size + 1, 0, none⟩ = some (.pointer none) := cell_of_row W _ 0 _ _ (0, 0) RT.out
  have f0 : W.frozen? ⟨w.heap.size + 1, 0, none⟩ = false := frozen_of_row W _ 0 _ _ RT.out
  have HW := Lib.hid hW
  have HW1 := Lib.hid hW1
  have HS := Lib.hid (show W1.heap.size = w.heap.size + 1 from S1'.out)
  clear hW hW1
  go_enter Try.func6, Try.ntmps6
  go_upto_region 2 with go_skip
  have e1 : (w.alloc (.map #[] 0)).alloc (.cells #[.pointer none, .map (some w.heap.size)] 50) = W := by rw [HW.out, HW1.out]
  try rw [← HW1.out]
  try rw [← HW.out]
  try rw [e1]
  try rw [HS.out]
  clear e1
  go_wp2_with go_skip
  go_ret
  refine ⟨w.heap.size + 1, fun k => k = w.heap.size + 1 ∨ k = w.heap.size, rfl, ⟨w.heap.size, heap_setCell_same W _ 0 _ _ _ RT.out, .inl rfl, .inr rfl, M1.out.same (Below.heap_setCell _ _ _ _ (by show w.heap.size ≠ w.heap.size + 1; omega)), fun k hk => ?_⟩, fun k hk => ?_, ?_⟩
  · rw [show (W.setCell ⟨w.heap.size + 1, 0, none⟩ (.pointer (some ⟨w.heap.size + 1, 0, none⟩))).heap.size = W.heap.size by simp [World.setCell], SW.out]
    rcases hk with rfl | rfl <;> omega
  · rcases hk with rfl | rfl <;> omega
  · exact (B1.out.trans (B2.out.mono B1.out.size)).setCell (p := ⟨w.heap.size + 1, 0, none⟩) (Nat.le_succ _) _
/-! ### all ways -/
theorem OwnY.more {w : World} {base B : Nat} {v : Value} {es : List Wy} (h : OwnY w base v es) (hB : ∀ g, v.ownBlock = some g → B ≤ g) : OwnY w B v es := by
  refine ⟨h.1, ?_⟩
  rcases h.2 with h0 | ⟨g, cap, cur, rfl, hb, hh, h'⟩
  · exact .inl h0
  · exact .inr ⟨g, cap, cur, rfl, hB g rfl, hh, h'⟩
set_option maxRecDepth 100000 in
theorem collect_any (Bm b : Nat) (L : List Wy) (hok : ∀ y ∈ L, y.Ok) (hL : L.length ≤ 1000) (w : World) (hb : w.heap[Bm]? = some (.cells #[.map (some b)] 48 (0, 0))) (hM : MapW w b L) :
    Calls Try.prog 30 #[.func (.func 32) #[] #[.pointer (some ⟨Bm, 0, none⟩)]] w fun e w' =>
      ∃ v es, e = .returned v ∧ es.Perm L ∧ OwnY w' w.heap.size v es ∧ Below w.heap.size w w' := by
  have AS := Lib.hid (appendSeq_any Bm b L hok hL w hb hM)
  have HOK := Lib.hid hok
  clear hok hL hb hM
  go_enter Try.func30, Try.ntmps30
  go_wp2_with (first
    | (go_at_call 36; refine AS.out.mono ?_; rintro e w2 ⟨v, es, rfl, h1, h2, h3⟩
       obtain ⟨A, c, ev, -, -, -⟩ := h2.form (fun y hy => HOK.out y (h1.mem_iff.1 hy))
       subst ev
       have H1 := Lib.hid h1
       have H2 := Lib.hid h2
       have H3 := Lib.hid h3
       clear h1 h2 h3))
  go_ret
  exact ⟨_, es, rfl, H1.out, H2.out, H3.out⟩
set_option maxRecDepth 100000 in
theorem sorted_any (Bm b : Nat) (L : List Wy) (hok : ∀ y ∈ L, y.Ok) (hL : L.length ≤ 1000) (w : World) (hb : w.heap[Bm]? = some (.cells #[.map (some b)] 48 (0, 0))) (hM : MapW w b L) :
    Calls Try.prog 21 #[.func (.func 32) #[] #[.pointer (some ⟨Bm, 0, none⟩)], .func (.func 23) #[] #[]] w fun e w' =>
      ∃ v es, e = .returned v ∧ es.Perm L ∧ es.Pairwise leW ∧ OwnY w' w.heap.size v es ∧ Below w.heap.size w w' := by
  have AS := Lib.hid (collect_any Bm b L hok hL w hb hM)
  have HOK := Lib.hid hok
  have HL := Lib.hid hL
  clear hok hL hb hM
  go_enter Try.func21, Try.ntmps21
  go_upto_region 2 with (first
    | (go_at_call 30; refine AS.out.mono ?_; rintro e w2 ⟨v, es, rfl, h1, h2, h3⟩
       have H1 := Lib.hid h1
       have H2 := Lib.hid h2
       have H3 := Lib.hid h3
       clear h1 h2 h3))
  have HOE := Lib.hid (show ∀ e ∈ es, e.Ok from fun y hy => HOK.out y (H1.out.mem_iff.1 hy))
  have HEL := Lib.hid (show es.length ≤ 1000 by rw [H1.out.length_eq]; exact HL.out)
  rcases (show (v = .slice none 0 0 ∧ es = []) ∨ ∃ g c, v = .slice (some ⟨g, 0, none⟩) es.length c ∧ w.heap.size ≤ g from by
    rcases H2.out.2 with ⟨h1, h2⟩ | ⟨g, c, cur, h1, h2, -⟩
    · exact .inl ⟨h1, List.eq_nil_of_length_eq_zero h2⟩
    · exact .inr ⟨g, c, h1, h2⟩) with ⟨rfl, he⟩ | ⟨g, c, rfl, hg⟩
  · subst he
    have SN := Lib.hid (fun fv => Go.Proofs.AnyF.slices_SortFunc_none Try.sortWy none 0 fv w2)
    go_wp2_with (first
      | (go_at_call 31; refine (SN.out _).mono ?_; rintro e w3 ⟨rfl, hw⟩; obtain rfl := hw))
    go_ret
    exact ⟨_, [], rfl, H1.out, List.Pairwise.nil, H2.out, H3.out⟩
  · have SO := Lib.hid (sort_any g c es.length es w2 (H2.out.less (Nat.zero_le _)) rfl HOE.out HEL.out)
    have HG := Lib.hid hg
    clear hg
    go_wp2_with (first
      | (go_at_call 31; refine SO.out.mono ?_; rintro e w3 ⟨rfl, es', h1, h2, h3, h4⟩
         have K1 := Lib.hid h1
         have K2 := Lib.hid h2
         have K3 := Lib.hid h3
         have K4 := Lib.hid h4
         clear h1 h2 h3 h4))
    go_ret
    exact ⟨_, es', rfl, K1.out.trans H1.out, K2.out, K3.out.more (fun k e => by cases e; exact HG.out), H3.out.grown K4.out H3.out.size fun k e => by cases e; exact HG.out⟩
end Go.Proofs.Ytjdenhkicikfkaa.rtC

/-
  All; what the program's functions do with tables that nobody made.
-/
namespace Go.Proofs.Ytjdenhkicikfkaa.rtC
open Go.ChangeShapes Go.WideShapes Go.ChangeAt Go.RowKit
open Go.Proofs.Ytjdenhkicikfkaa.memC Go.Proofs.Ytjdenhkicikfkaa.genC Go.Proofs.Ytjdenhkicikfkaa.butC Go.Proofs.Ytjdenhkicikfkaa.freeC Go.Proofs.Ytjdenhkicikfkaa.adC
set_option linter.unusedVariables false
set_option linter.constructorNameAsVariable false
theorem OwnY.rowW {w : World} {base : Nat} {v : Value} {es : List Wy} (h : OwnY w base v es) (hok : ∀ e ∈ es, e.Ok) : ∃ A c, v = .slice A es.length c ∧ es.length ≤ c ∧ c ≤ 9223372036854775807 ∧ RowW w base w.heap.size A es.length es := by
  rcases h.2 with ⟨rfl, h0⟩ | ⟨g, cap, cur, rfl, hb, hh, hl, hm, hs, ht⟩
  · exact ⟨none, 0, by rw [h0], by rw [h0]; exact Nat.le_refl _, by omega, ⟨rfl, Nat.le_refl _, fun h => by omega⟩⟩
  · refine ⟨some ⟨g, 0, none⟩, cap, rfl, hl, (by unfold maxLen at hm; exact hm), rfl, Nat.le_refl _, fun hn => ⟨g, 0, rfl, hb, (h.lt g rfl).2, fun i e he j v hv => ?_⟩⟩
    have hj : j < 37 := by
      have := (List.getElem?_eq_some_iff.1 hv).1
      rw [wyL_len (hok e (List.mem_of_getElem? he))] at this
      exact this
    have h1 := World.ownsRow.cells h (g := g) rfl (i * 37 + j) v (by rw [flatY_at hok i e j he hj]; exact hv)
    rw [memC.add_plain] at h1
    rw [show 0 + i * 37 + j = 0 + (i * 37 + j) by omega]
    exact h1
set_option maxRecDepth 100000 in
set_option maxHeartbeats 4000000 in
theorem all_any (w : World) (S : Nat → Prop) (t : Nat) (st : List Wy) (h : Tb w S t st) (hi : Inv st) : Calls Try.prog 11 #[.pointer (some ⟨t, 0, none⟩)] w (AllR w st) := by
  obtain ⟨b, hT⟩ := h
  have MD := Lib.hid (made_any w S t b st hT)
  have c1 := hT.cell
  have VA := Lib.hid (values_any b w)
  have AB := Lib.hid (alloc_below w (.cells #[.map (some b)] 48))
  have SO := Lib.hid (sorted_any w.heap.size b st hi.ok (by have := hi.le; omega) (w.alloc (.cells #[.map (some b)] 48)) (heap_alloc_new _ _) (hT.map.same (AB.out.block _ hT.map.lt)))
  have HOK := Lib.hid hi.ok
  clear hT hi
  go_enter Try.func11, Try.ntmps11
  go_wp2_with (first
    | (go_at_call 16; refine MD.out.mono ?_; rintro e w2 ⟨rfl, hw⟩; obtain rfl := hw.symm)
    | (go_at_call 22; refine VA.out.mono ?_; rintro e w2 ⟨rfl, rfl⟩)
    | (go_at_call 21; refine SO.out.mono ?_; rintro e w3 ⟨v, es, rfl, h1, h2, h3, h4⟩
       obtain ⟨A, c, ev, g1, g2, RW⟩ := h3.rowW (fun y hy => HOK.out y (h1.mem_iff.1 hy))
       subst ev
       have H1 := Lib.hid h1
       have H2 := Lib.hid h2
       have H4 := Lib.hid h4
       have G1 := Lib.hid g1
       have G2 := Lib.hid g2
       have HRW := Lib.hid RW
       clear h1 h2 h3 h4 g1 g2 RW))
  go_ret
  have RW := HRW.out
  refine ⟨A, es.length, c, es, rfl, G1.out, G2.out, H1.out, H2.out, ⟨RW.len, RW.le, fun h0 => ?_⟩, AB.out.trans (H4.out.mono AB.out.size)⟩
  obtain ⟨b, o, e, q1, q2, hc⟩ := RW.at_ h0
  exact ⟨b, o, e, Nat.le_trans AB.out.size q1, q2, hc⟩
/-! ### nobody's tables -/
def NM (w : World) (pv : Value) : Prop := pv = .pointer none ∨ ∃ t, pv = .pointer (some ⟨t, 0, none⟩) ∧ w.heap[t]? = some (.cells #[.pointer none, .map none] 50 (0, 0))
theorem NM.below {w w' : World} {pv : Value} (h : NM w pv) (hb : Below w.heap.size w w') : NM w' pv := by
  rcases h with h | ⟨t, h, hr⟩
  · exact .inl h
  · exact .inr ⟨t, h, (hb.block _ (Array.getElem?_eq_some_iff.1 hr).1).trans hr⟩
theorem eql_nil_ptr {P : Program} (w : World) {tp te : TypeId} (a : Addr) (hp : P.underlying tp = some (.pointer te)) : (binOp .eql tp (.pointer none) (.pointer (some a))).run P w = .ok (.bool false) w := by
  have h : ∀ d : Nat, (Op.equalIn (d + 1) tp (.pointer none) (.pointer (some a))).run P w = .ok false w := fun d => by
    simp [Op.equalIn, run_underlying hp]
  simp only [binOp]
  simp [Op.equal, Op.maxDepth, h 9999]
set_option maxRecDepth 100000 in
theorem nm_made {w : World} {pv : Value} (h : NM w pv) : Calls Try.prog 16 #[pv] w fun e w' => e = .returned (.bool false) ∧ w' = w := by
  rcases h with rfl | ⟨t, rfl, hr⟩
  · go_enter Try.func16, Try.ntmps16
    go_wp2_with go_skip
    go_ret
    exact ⟨rfl, rfl⟩
  · have c0 : w.cell? ⟨t, 0, none⟩ = some (.pointer none) := cell_of_row w t 0 _ _ (0, 0) hr
    have he := eql_nil_ptr (P := Try.prog) w ⟨t, 0, none⟩ Try.underlying26
    clear hr
    go_enter Try.func16, Try.ntmps16
    go_wp2_with go_skip
    go_ret
    exact ⟨rfl, rfl⟩
set_option maxRecDepth 100000 in
theorem nm_all {w : World} {pv : Value} (h : NM w pv) : Calls Try.prog 11 #[pv] w fun e w' => ∃ A c, e = .returned (.slice A 0 c) ∧ Below w.heap.size w w' := by
  have MD := Lib.hid (nm_made h)
  clear h
  go_enter Try.func11, Try.ntmps11
  go_wp2_with (go_at_call 16; refine MD.out.mono ?_; rintro e w2 ⟨rfl, hw⟩; obtain rfl := hw.symm)
  go_ret
  exact ⟨none, 0, rfl, Below.refl _ _⟩
set_option maxRecDepth 100000 in
theorem nm_add {w : World} {pv : Value} (y : Wy) (h : NM w pv) : Calls Try.prog 8 #[pv, .agg (wyV y)] w (Ret w (.int .i64 2)) := by
  obtain ⟨W, hW⟩ : ∃ W, W = w.alloc (.cells (wyV y) 35) := ⟨_, rfl⟩
  have HB := Lib.hid (show Below w.heap.size w W by rw [hW]; exact alloc_below _ _)
  have MD := Lib.hid (nm_made (h.below HB.out))
  clear h
  generalize wyV y = CY at *
  go_enter Try.func8, Try.ntmps8
  go_upto_region 1 with fail
  rw [← hW]
  clear hW
  go_wp2_with (go_at_call 16; refine MD.out.mono ?_; rintro e w2 ⟨rfl, hw⟩; obtain rfl := hw.symm)
  go_ret
  exact ⟨rfl, HB.out⟩
set_option maxRecDepth 100000 in
theorem nm_drop {w : World} {pv : Value} (s : Bool) (a : List Int) (ln : Int) (h : NM w pv) : Calls Try.prog 15 #[pv, .agg (adrV s a), .int .i64 ln] w (Ret w (.int .i64 2)) := by
  obtain ⟨W, hW⟩ : ∃ W, W = w.alloc (.cells (adrV s a) 25) := ⟨_, rfl⟩
  have HB := Lib.hid (show Below w.heap.size w W by rw [hW]; exact alloc_below _ _)
  have MD := Lib.hid (nm_made (h.below HB.out))
  clear h
  generalize adrV s a = CY at *
  go_enter Try.func15, Try.ntmps15
  go_upto_region 1 with fail
  rw [← hW]
  clear hW
  go_wp2_with (go_at_call 16; refine MD.out.mono ?_; rintro e w2 ⟨rfl, hw⟩; obtain rfl := hw.symm)
  go_ret
  exact ⟨rfl, HB.out⟩
theorem two_rows2 (w : World) (cs cs' : Array Value) (T T' : TypeId) : ((w.alloc (.cells cs T)).alloc (.cells cs' T')).heap[w.heap.size]? = some (.cells cs T (0, 0)) ∧ ((w.alloc (.cells cs T)).alloc (.cells cs' T')).heap[w.heap.size + 1]? = some (.cells cs' T' (0, 0)) := by
  constructor
  · rw [(alloc_below _ _).block _ (by simp)]; exact heap_alloc_new _ _
  · have := heap_alloc_new (w.alloc (.cells cs T)) (.cells cs' T')
    rwa [World.size_alloc] at this
set_option maxRecDepth 100000 in
set_option maxHeartbeats 4000000 in
theorem nm_find {w : World} {pv : Value} (s : Bool) (a : List Int) (h : NM w pv) : Calls Try.prog 10 #[pv, .agg (adrV s a)] w (Ret w (.tuple #[.agg (wyV zWy), .int .i64 2])) := by
  have hzv := zeroWy
  obtain ⟨W, hW⟩ : ∃ W, W = (w.alloc (.cells (adrV s a) 25)).alloc (.cells (wyV zWy) 35) := ⟨_, rfl⟩
  have HB := Lib.hid (show Below w.heap.size w W by rw [hW]; exact (alloc_below _ _).trans ((alloc_below _ _).mono (alloc_below _ _).size))
  have RZ := Lib.hid (show W.heap[w.heap.size + 1]? = some (.cells (wyV zWy) 35 (0, 0)) by rw [hW]; exact (two_rows2 w _ _ _ _).2)
  have MD := Lib.hid (nm_made (h.below HB.out))
  have ZI := Lib.hid (wyV_info zWy_ok)
  have ZO := Lib.hid (wy_ones zWy)
  have ZB := Lib.hid built_zWy
  clear h
  generalize adrV s a = CA at *
  generalize wyV zWy = CZ at *
  go_enter Try.func10, Try.ntmps10
  go_upto_region 1 with fail
  rw [← hW]
  clear hW hzv
  go_wp2_with (first
    | (go_at_call 16; refine MD.out.mono ?_; rintro e w2 ⟨rfl, hw⟩; obtain rfl := hw.symm)
    | (with_reducible refine at_build 35 ?_; refine wpList_runG (by kernel_rfl) _ (adC.built_run (T := 35) (C := CZ) rfl ZB.out) ?_)
    | (refine wpList_store_row rfl 35 (.tmp 4) (.tmp 15) rfl (w.heap.size + 1) CZ rfl rfl _ _ RZ.out ZI.out rfl ZO.out ?_))
  refine bodyPost_ret (v := .tuple #[.agg CZ, .int .i64 2]) (adC.results_cell_tmp Try.results10 _ _ (w.heap.size + 1) _ _ _ _ _ (by rfl) (setRow_heap _ _ _ _ _ _ RZ.out) Try.underlying35 rfl ZI.out (by rfl)) rfl ?_
  exact ⟨rfl, setR_below HB.out (Nat.le_succ _) _⟩
theorem nobR : Nob NM where
  below := fun _ _ _ h hb => h.below hb
  nil := fun _ => .inl rfl
  zero := fun w t h => .inr ⟨t, rfl, h⟩
  add := fun w pv y h _ => nm_add y h
  drop := fun w pv y h _ => nm_drop y.s y.a y.len h
  find := fun w pv s a h _ _ => nm_find s a h
  all := fun w pv h => nm_all h
end Go.Proofs.Ytjdenhkicikfkaa.rtC

/-
  As Last, where the last operation waits for some of the others, and each of these is waited for by a later one; of any class of worlds.
-/
namespace Go.Proofs.Ytjdenhkicikfkaa.lastC
open Go.ChangeShapes Go.WideShapes Go.ChangeAt Go.RowKit
set_option linter.unusedVariables false
section
variable {P : Program} {L l : List Oper} {o : Oper} {C : World → Prop} {m mh : Array Bool}
/-- each of the first n is waited for by a later one -/
def covL (n : Nat) (L : List Oper) : Bool := (List.range n).all fun i => (List.range (n + 1)).any fun j => decide (i < j) && (match L[j]? with | some o => o.after.any (fun e => Region.binds .any e && (e.on == i)) | none => false)
/-- what has been done, for that all has been done for which it waits -/
def Cl (l : List Oper) (mh : Array Bool) : Prop := ∀ (i : Nat) (o' : Oper), l[i]? = some o' → mh.getD i false = true → ∀ e ∈ o'.after, Region.binds .any e = true → mh.getD e.on false = true
theorem covL_spec {n : Nat} (h : covL n L = true) {i : Nat} (hi : i < n) : ∃ j oj, i < j ∧ j ≤ n ∧ L[j]? = some oj ∧ ∃ e ∈ oj.after, Region.binds .any e = true ∧ e.on = i := by
  have h1 := List.all_eq_true.1 h i (List.mem_range.2 hi)
  obtain ⟨j, hj, h2⟩ := List.any_eq_true.1 h1
  simp only [Bool.and_eq_true, decide_eq_true_eq] at h2
  obtain ⟨hij, h3⟩ := h2
  cases hL : L[j]? with
  | none => rw [hL] at h3; cases h3
  | some oj =>
    rw [hL] at h3
    obtain ⟨e, he, hb⟩ := Array.any_eq_true'.1 h3
    simp only [Bool.and_eq_true, beq_iff_eq] at hb
    exact ⟨j, oj, hij, by have := List.mem_range.1 hj; omega, hL, e, he, hb.1, hb.2⟩
theorem ready_cov (hc : covL l.length (l ++ [o]) = true) (hcl : Cl l mh) (M : Marks l.length m mh) (hr : l.length ∈ Region.ready .any (l ++ [o]).toArray m) : ∀ k i, i < l.length → l.length - i ≤ k → mh.getD i false = true
  | 0, i, hi, hk => by omega
  | k + 1, i, hi, hk => by
    obtain ⟨j, oj, hij, hjn, hj, e, he, hb, rfl⟩ := covL_spec hc hi
    by_cases ej : j = l.length
    · obtain ⟨_, o', ho', hall⟩ := mem_ready.1 hr
      rw [last_at] at ho'
      cases ho'
      subst ej
      rw [show (l ++ [o])[l.length]? = some o by simp] at hj
      cases hj
      have h1 := hall e he hb
      rwa [M.getD hi false] at h1
    · have hjl : j < l.length := by omega
      rw [List.getElem?_append_left hjl] at hj
      exact hcl j oj hj (ready_cov hc hcl M hr k j hjl (by omega)) e he hb
variable {Q : Exit → Act → World → Prop} {a : Act} {w : World}
theorem any_of_headC (hb : backB (l ++ [o]) = true) (hw : covL l.length (l ++ [o]) = true) : ∀ (f : Nat) (m mh : Array Bool) (a : Act) (w : World), Marks l.length m mh → Cl l mh → C w →
    wpAnyQ P .any l.toArray C (fun a' => ∀ w', C w' → wpOp P (l ++ [o]).toArray Q l.length (fun a' w' => Q .normal a' w') a' w') f mh a → wpAny P .any (l ++ [o]).toArray Q (f + 1) m a w
  | 0, m, mh, a, w, M, hcl, hc, h => any_last hb M (all_marked hb M h.1) (h.2 w hc) 0
  | f + 1, m, mh, a, w, M, hcl, hc, h => by
    by_cases hr : Region.ready .any l.toArray mh = []
    · exact any_last hb M (all_marked hb M hr) (h.1 hr w hc) (f + 1)
    · refine ⟨fun h0 => ?_, fun i hi => ?_⟩
      · exfalso
        obtain ⟨j, hj⟩ := List.exists_mem_of_ne_nil _ hr
        have hjl : j < l.length := by
          obtain ⟨_, o', ho', _⟩ := mem_ready.1 hj
          have : j < l.toArray.size := (Array.getElem?_eq_some_iff.1 ho').1
          simpa using this
        have := (ready_head hb M hjl).2 hj
        rw [h0] at this; cases this
      · have hle := ready_le hi
        by_cases e : i = l.length
        · subst e
          have hall := ready_cov hw hcl M hi
          exfalso
          obtain ⟨j, hj⟩ := List.exists_mem_of_ne_nil _ hr
          obtain ⟨h1, o', ho', _⟩ := mem_ready.1 hj
          have hjl : j < l.toArray.size := (Array.getElem?_eq_some_iff.1 ho').1
          have hjl2 : j < l.length := by simpa using hjl
          have h2 := hall l.length j hjl2 (by omega)
          have hs : j < mh.size := by rw [M.sizeh]; exact hjl2
          simp [hs] at h1 h2
          rw [h1] at h2; cases h2
        · have hil : i < l.length := by omega
          have hq := h.2 i ((ready_head hb M hil).1 hi)
          have hoi : (l ++ [o])[i]? = some (l[i]'hil) := by rw [List.getElem?_append_left hil]; exact List.getElem?_eq_getElem hil
          obtain ⟨hg, hback⟩ := backB_spec hb hoi
          have hwant : ∀ y, Region.wanted (l[i]'hil) y = true := fun y => by simp [Region.wanted, hg]
          have hcl' : Cl l (mh.setIfInBounds i true) := by
            intro j oj hj hm ed he hbd
            have hsz := M.sizeh
            have up : ∀ k, mh.getD k false = true → (mh.setIfInBounds i true).getD k false = true := fun k hk => by
              simp only [Array.getD_eq_getD_getElem?, Array.getElem?_setIfInBounds] at hk ⊢
              split
              · split <;> simp_all
              · exact hk
            by_cases ej : j = i
            · subst ej
              obtain ⟨_, o', ho', hall⟩ := mem_ready.1 ((ready_head hb M hil).1 hi)
              have ho2 : l[j]? = some o' := by simpa using ho'
              rw [hj] at ho2
              cases ho2
              exact up _ (hall ed he hbd)
            · have hm' : mh.getD j false = true := by
                simp only [Array.getD_eq_getD_getElem?, Array.getElem?_setIfInBounds] at hm ⊢
                rw [if_neg (fun h => ej h.symm)] at hm
                exact hm
              exact up _ (hcl j oj hj hm' ed he hbd)
          unfold qOp at hq
          simp only [List.getElem?_toArray, List.getElem?_eq_getElem hil, hwant, if_true] at hq
          unfold wpOp
          simp only [List.getElem?_toArray, hoi, hwant, if_true]
          exact .inl (Oper.wp_of_quiet hc (fun a' w' hc' h' => any_of_headC hb hw f _ _ a' w' (M.set hil) hcl' hc' h') hq)
theorem wp_region_lastC {id : Nat} (C : World → Prop) (n : Nat) (hm : P.follows .mixedOrders = true) (hB : Region.lexB .any (L.take n).toArray = true) (hb : backB L = true) (hw : (match L.drop n with | [_] => covL n L | _ => false) = true) (hC : C { w with drawn := w.drawn + 1 })
    (h : wpQuiet P (L.take n).toArray C (fun a' => ∀ w', C w' → wpList P L.toArray Q (L.drop n) a' w') (L.take n) a) : (Code.region id L.toArray true).wp P Q a w := by
  obtain ⟨o, ho, hwo⟩ : ∃ o, L.drop n = [o] ∧ covL n L = true := by
    revert hw
    cases hd : L.drop n with
    | nil => intro hw; cases hw
    | cons o r =>
      cases r with
      | nil => intro hw; exact ⟨o, rfl, hw⟩
      | cons _ _ => intro hw; cases hw
  have hL : L.take n ++ [o] = L := by rw [← ho]; exact List.take_append_drop n L
  have hn : (L.take n).length = n := by
    have h1 := congrArg List.length ho
    rw [List.length_drop] at h1
    rw [List.length_take]; simp at h1; omega
  obtain ⟨l, hl⟩ : ∃ l, l = L.take n := ⟨_, rfl⟩
  rw [← hl] at hL hn hB h
  rw [ho] at h
  subst hL
  subst hn
  simp only [Region.lexB, Bool.and_eq_true] at hB
  refine wp_region_any hm ?_
  have hx := wpAnyQ_lex (C := C) (md := .any) hB.1 l 0 (Array.replicate l.toArray.size false) a (by simp) (by simpa using hB.2) h
  have hfin := any_of_headC (P := P) (C := C) (Q := Q) hb hwo l.length (Array.replicate (l ++ [o]).toArray.size false) (Array.replicate l.toArray.size false) a { w with drawn := w.drawn + 1 }
    ⟨by simp, by simp, fun i hi => by simp only [Array.getElem?_replicate]; rw [if_pos (by simp; omega), if_pos (by simpa using hi)], by simp⟩ (fun i o' _ h1 => by simp [Array.getD_eq_getD_getElem?, Array.getElem?_replicate] at h1; split at h1 <;> simp at h1) hC ?_
  · simpa using hfin
  · have e : (fun a' => ∀ w', C w' → wpList P (l ++ [o]).toArray Q [o] a' w') = (fun a' => ∀ w', C w' → wpOp P (l ++ [o]).toArray Q l.length (fun a' w' => Q .normal a' w') a' w') := by
      funext a'
      refine forall_congr fun w' => ?_
      simp only [wpOp, last_at, wpList]
    rw [e] at hx
    exact hx
end
end Go.Proofs.Ytjdenhkicikfkaa.lastC

/-
  Ways are looked up, added, dropped.
-/
namespace Go.Proofs.Ytjdenhkicikfkaa.rtC
open Go.ChangeShapes Go.WideShapes Go.ChangeAt Go.RowKit
open Go.Proofs.Ytjdenhkicikfkaa.memC Go.Proofs.Ytjdenhkicikfkaa.genC Go.Proofs.Ytjdenhkicikfkaa.butC Go.Proofs.Ytjdenhkicikfkaa.freeC Go.Proofs.Ytjdenhkicikfkaa.adC
set_option linter.unusedVariables false
set_option linter.constructorNameAsVariable false
/-! ### operations of a region that draws its order, that read -/
section
variable {P : Program} {ops : Array Oper} {C : World → Prop} {Q : Act → Prop} {a : Act} {o : Oper} {rest : List Oper}
theorem quiet_run {K : Act → Prop} (v : Value) (h : ∀ w, C w → (execOp a.eval o).run P w = .ok (.value v) w) (hk : K (a.put o.dst v)) : o.quiet P a C K :=
  ⟨v, fun w hw => by unfold Oper.quietAt; rw [h w hw]; exact ⟨rfl, rfl⟩, hk⟩
theorem wpQuiet_run (hg : o.guard = none) (v : Value) (h : ∀ w, C w → (execOp a.eval o).run P w = .ok (.value v) w) (hk : wpQuiet P ops C Q rest (a.put o.dst v)) : wpQuiet P ops C Q (o :: rest) a :=
  BigFrame.wpQuiet_want (by simp [Region.wanted, hg]) fun K hK => quiet_run v h (hK _ hk)
theorem wpQuiet_row (hg : o.guard = none) (ty : TypeId) (x : Operand) (ho : o.op = .load ty x) (g : Nat) (hx : a.eval x = .pointer (some ⟨g, 0, none⟩)) (t : TypeId) (cs : Array Value) (fr : Nat × Nat) (d : TypeDesc) (hr : ∀ w, C w → w.heap[g]? = some (.cells cs t fr))
    (hu : P.underlying ty = some d) (hd : (match d with | .struct _ | .array _ _ => true | _ => false) = true) (hi : (P.info? ty).map (·.size) = some cs.size)
    (h : wpQuiet P ops C Q rest (a.put o.dst (.agg cs))) : wpQuiet P ops C Q (o :: rest) a :=
  wpQuiet_run hg _ (fun w hw => by
    unfold execOp
    simp only [ho, hx, Instr.loadAt, Instr.sureAddr, Sem.run_bind, Sem.run_pure, Result.andThen_ok, run_loadVar_row w g t ty cs fr d (hr w hw) hu hd hi]) h
end
/-! ### the map turns -/
theorem but_grownY {w w' : World} {b : Nat} (h : w.grownBy w' (some b)) : But b w w' := ⟨h.os, h.tape, h.output, h.size, fun g hg hn => h.block g hg fun e => hn (by injection e)⟩
theorem wpList_putY {ops : Array Oper} {rest : List Oper} {o : Oper} {a : Act} {w : World} {Q : Exit → Act → World → Prop} (hg : o.guard = none) (x y z : Operand) (ho : o.op = .mapUpdate 48 x y z)
    {b : Nat} {L : List Wy} {m : Wy} {C D : Array Value} (hx : a.eval x = .map (some b)) (hy : a.eval y = .agg C) (hz : a.eval z = .agg D) (hC : C = kyV (kyOf m)) (hD : D = wyV m) (hM : MapW w b L) (hok : ∀ x ∈ L, x.Ok) (hm : m.Ok) (hn : ∀ x ∈ L, kyOf x ≠ kyOf m)
    (h : ∀ w', MapW w' b (L ++ [m]) → But b w w' → w'.heap.size = w.heap.size → wpList Try.prog ops Q rest (a.put o.dst undef) w') : wpList Try.prog ops Q (o :: rest) a w := by
  subst hC
  subst hD
  refine wpList_plain hg fun K hK => ?_
  obtain ⟨w', hrun, h1, h2, h3⟩ := run_put hM hok hm hn
  unfold Oper.wp
  simp [execOp, ho, hx, hy, hz, hrun, Result.andThen]
  exact hK _ _ (h w' h1 (but_grownY h2) h3)
theorem wpList_delY {ops : Array Oper} {rest : List Oper} {o : Oper} {a : Act} {w : World} {Q : Exit → Act → World → Prop} (hg : o.guard = none) (x y : Operand) (ho : o.op = .call { callee := .builtin .delete, args := #[x, y], argTypes := #[48, 55] })
    {b : Nat} {L : List Wy} {m : Wy} {C : Array Value} (hx : a.eval x = .map (some b)) (hy : a.eval y = .agg C) (hC : C = kyV (kyOf m)) (hM : MapW w b L) (hok : ∀ x ∈ L, x.Ok) (hnd : L.Pairwise fun y z => sameK y z = false) (hm : m ∈ L)
    (h : ∀ w', MapW w' b (L.filter fun z => !sameK m z) → But b w w' → w'.heap.size = w.heap.size → wpList Try.prog ops Q rest (a.put o.dst (.tuple #[])) w') : wpList Try.prog ops Q (o :: rest) a w := by
  subst hC
  refine wpList_plain hg fun K hK => ?_
  obtain ⟨w', hrun, h1, h2, h3⟩ := run_del hM hok hnd hm o.type
  unfold Oper.wp
  simp [execOp, ho, resolve, invoke, builtin, hx, hy, hrun, Result.andThen]
  exact hK _ _ (h w' h1 (but_grownY h2) h3)
/-! ### a look-up, into a new variable -/
theorem ev_tmp {fr : Act} {s : Tmp} {v : Value} (h : fr.tmps[s]?.getD undef = v) : fr.eval (.tmp s) = v := by simpa only [Act.eval, Array.getD_eq_getD_getElem?] using h
theorem look_run {P : Program} {fr : Act} {o : Oper} {w : World} {T : TypeId} {s x : Tmp} {u k v : Value} (ho : o.op = .lookup T (.tmp s) (.tmp x) true) (hs : fr.tmps[s]?.getD undef = u) (hx : fr.tmps[x]?.getD undef = k)
    (hq : (Instr.lookup T u k true).run P w = .ok v w) : (execOp fr.eval o).run P w = .ok (.value v) w := by
  unfold execOp
  simp only [ho, ev_tmp hs, ev_tmp hx, Sem.run_bind, Sem.run_pure, Result.andThen_ok, hq]
structure LkJ (W : World) (na ns : Nat) (V : Nat → Value) (CX ZV : Array Value) (m : Nat → Bool) (us : Nat → Value) (w : World) : Prop where
  os : w.os = W.os
  tape : w.tape = W.tape
  output : w.output = W.output
  size : w.heap.size = W.heap.size + (if m na = true then 1 else 0)
  block : ∀ k, k < W.heap.size → w.heap[k]? = W.heap[k]?
  val : ∀ i, m i = true → i ≠ ns → us i = V i
  ord : m ns = true → m na = true
  row : m na = true → w.heap[W.heap.size]? = some (.cells (if m ns = true then CX else ZV) 35 (0, 0))
section
variable {W w : World} {na ns : Nat} {V : Nat → Value} {CX ZV : Array Value} {m : Nat → Bool} {us : Nat → Value}
theorem LkJ.start (W : World) (na ns : Nat) (V : Nat → Value) (CX ZV : Array Value) (us : Nat → Value) : LkJ W na ns V CX ZV (fun _ => false) us W.drew :=
  ⟨rfl, rfl, rfl, rfl, fun _ _ => rfl, fun i h => (by cases h), fun h => (by cases h), fun h => (by cases h)⟩
theorem LkJ.val_ (h : LkJ W na ns V CX ZV m us w) (i : Nat) (h1 : i ≠ na) (h2 : i ≠ ns) (v : Value) (hv : v = V i) : LkJ W na ns V CX ZV (upd m i true) (upd us i v) w := by
  refine ⟨h.os, h.tape, h.output, ?_, h.block, fun j hj hn => ?_, ?_, ?_⟩
  · rw [upd_other m true (Ne.symm h1)]; exact h.size
  · by_cases e : j = i
    · subst e; rw [upd_same]; exact hv
    · rw [upd_other us v e]
      rw [upd_other m true e] at hj
      exact h.val j hj hn
  · rw [upd_other m true (Ne.symm h1), upd_other m true (Ne.symm h2)]; exact h.ord
  · rw [upd_other m true (Ne.symm h1), upd_other m true (Ne.symm h2)]; exact h.row
theorem LkJ.all (h : LkJ W na ns V CX ZV m us w) (hm : m na = false) (hV : V na = .pointer (some ⟨W.heap.size, 0, none⟩)) (hne : na ≠ ns) (hs : m ns = false) : LkJ W na ns V CX ZV (upd m na true) (upd us na (.pointer (some ⟨w.heap.size, 0, none⟩))) (w.alloc (.cells ZV 35)) := by
  have e0 : w.heap.size = W.heap.size := by have := h.size; rw [hm] at this; simpa using this
  refine ⟨h.os, h.tape, h.output, ?_, fun k hk => ?_, fun j hj hn => ?_, fun _ => upd_same _ _ _, fun _ => ?_⟩
  · rw [upd_same, alloc_size, e0]; rfl
  · rw [(alloc_below _ _).block k (by rw [e0]; exact hk)]; exact h.block k hk
  · by_cases e : j = na
    · subst e; rw [upd_same, hV, e0]
    · rw [upd_other us _ e]
      rw [upd_other m true e] at hj
      exact h.val j hj hn
  · rw [upd_other m true (Ne.symm hne), hs, ← e0]
    exact heap_alloc_new _ _
theorem LkJ.late (h : LkJ W na ns V CX ZV m us w) (hm : m na = false) : m ns = false := by
  cases e : m ns with
  | false => rfl
  | true => have := h.ord e; rw [hm] at this; cases this
theorem LkJ.rowZ (h : LkJ W na ns V CX ZV m us w) (hm : m na = true) (hs : m ns = false) : w.heap[W.heap.size]? = some (.cells ZV 35 (0, 0)) := by
  have := h.row hm
  rw [hs] at this
  exact this
theorem LkJ.sto (h : LkJ W na ns V CX ZV m us w) (hm : m na = true) (hs : m ns = false) (hne : na ≠ ns) : LkJ W na ns V CX ZV (upd m ns true) (upd us ns undef) (w.setRow W.heap.size CX) := by
  refine ⟨h.os, h.tape, h.output, ?_, fun k hk => ?_, fun j hj hn => ?_, fun _ => by rw [upd_other m true hne]; exact hm, fun _ => ?_⟩
  · rw [upd_other m true hne, ← h.size]; simp
  · rw [setRow_other _ _ _ _ (by omega)]; exact h.block k hk
  · rw [upd_other us _ hn]
    rw [upd_other m true hn] at hj
    exact h.val j hj hn
  · rw [upd_same]
    exact setRow_heap _ _ _ _ _ _ (h.rowZ hm hs)
theorem LkJ.cell (h : LkJ W na ns V CX ZV m us w) {g k : Nat} {v : Value} (hg : g < W.heap.size) (hc : W.cell? ⟨g, k, none⟩ = some v) : w.cell? ⟨g, k, none⟩ = some v := by
  rw [World.cell?_of_block (w := W) (h.block g hg)]; exact hc
theorem LkJ.below (h : LkJ W na ns V CX ZV m us w) : Below W.heap.size W w := ⟨h.os, h.tape, h.output, by rw [h.size]; omega, h.block⟩
end
def adV (t b g7 gn : Nat) (CK CM CX : Array Value) (q : Bool) (ln : Int) : Nat → Value
  | 0 => .pointer (some ⟨t, 0, none⟩)
  | 1 => .pointer (some ⟨t, 0, none⟩)
  | 2 => .pointer (some ⟨t, 1, none⟩)
  | 3 => .map (some b)
  | 4 => .agg CK
  | 5 => .tuple #[.agg CX, .bool q]
  | 6 => .tuple #[.agg CX, .bool q]
  | 7 => .agg CX
  | 8 => .bool q
  | 9 => .pointer (some ⟨gn, 0, none⟩)
  | 11 => .bool q
  | _ => undef
def adT : List (Option Nat) := [none, none, none, none, none, none, some 9, some 11, none, none, none, none, none, none, none, none, none, none, none, none, none, some 6, some 0, some 1, some 2, some 3, some 4, some 5, some 7, some 8, none, none, none, none, none, none, none, none, none, none, none, none, none]
theorem wy_infoL : (Try.prog.info? 35).map (·.size) = some 37 := wy_info
theorem addE_no {st : List Wy} {y : Wy} (h : mayW y = false) : addE st y = 1 := by unfold addE; rw [h]; rfl
theorem addE_has {st : List Wy} {y : Wy} (h : mayW y = true) (h2 : hasK st y = true) : addE st y = 7 := by unfold addE; rw [h, h2]; rfl
theorem addE_full {st : List Wy} {y : Wy} (h : mayW y = true) (h2 : hasK st y = false) (h3 : 128 ≤ st.length) : addE st y = 5 := by unfold addE; rw [h, h2, if_pos rfl, if_neg (by decide), if_pos h3]
theorem addE_new {st : List Wy} {y : Wy} (h : mayW y = true) (h2 : hasK st y = false) (h3 : ¬ 128 ≤ st.length) : addE st y = 0 := by unfold addE; rw [h, h2, if_pos rfl, if_neg (by decide), if_neg h3]
theorem hasK_mem {st : List Wy} {y : Wy} (h : hasK st y = true) : ∃ x ∈ st, kyOf x = kyOf y := by
  unfold hasK at h
  obtain ⟨x, hx, hs⟩ := List.any_eq_true.1 h
  exact ⟨x, hx, (sameK_ky.1 hs).symm⟩
theorem hasK_ky {st : List Wy} {y : Wy} (h : hasK st y = false) : ∀ x ∈ st, kyOf x ≠ kyOf y := fun x hx e => by
  have := hasK_not h x hx
  rw [sameK_ky.2 e.symm] at this
  cases this
set_option maxRecDepth 100000 in
set_option maxHeartbeats 4000000 in
theorem add_no (w : World) (S : Nat → Prop) (t : Nat) (st : List Wy) (y : Wy) (h : Tb w S t st) (hi : Inv st) (hy : y.Ok) (hm : mayW y = false) : Calls Try.prog 8 #[.pointer (some ⟨t, 0, none⟩), .agg (wyV y)] w (AddR Tb w S t (addE st y) (addS st y)) := by
  rw [addE_no hm, add_not (by rw [addE_no hm]; decide)]
  have hzk := zeroKy
  have hzv := zeroWy
  obtain ⟨b, hT0⟩ := h
  obtain ⟨W, hW⟩ : ∃ W, W = w.alloc (.cells (wyV y) 35) := ⟨_, rfl⟩
  obtain ⟨bx, hbx⟩ : ∃ b, b = w.heap.size := ⟨_, rfl⟩
  have HB := Lib.hid (show Below w.heap.size w W by rw [hW]; exact alloc_below _ _)
  have R := Lib.hid (show W.heap[bx]? = some (.cells (wyV y) 35 (0, 0)) by rw [hW, hbx]; exact heap_alloc_new _ _)
  have HT := Lib.hid (hT0.below HB.out)
  have HT0 := Lib.hid hT0
  have MD := Lib.hid (made_any W S t b st HT.out)
  have IY := Lib.hid (wyV_info hy)
  have MY := Lib.hid (wmay_any y W hy)
  have HY := Lib.hid hy
  have HI := Lib.hid hi
  have HBX := Lib.hid hbx
  have KR := Lib.hid (fun (w' : World) (hb : Below W.heap.size W w') => (show w'.heap[bx]? = some (.cells (wyV y) 35 (0, 0)) from (hb.block _ (lt_of_row R.out)).trans R.out))
  clear hT0 hi
  rw [hm] at MY
  clear hm hy
  generalize wyV y = CY at *
  go_enter Try.func8, Try.ntmps8
  go_upto_region 1 with fail
  rw [← hW, ← hbx]
  clear hW hbx
  go_wp2_with (first
    | (go_at_call 16; refine MD.out.mono ?_; rintro e w2 ⟨rfl, hw⟩; obtain rfl := hw.symm)
    | (refine wpList_load_row rfl 35 (.tmp 3) rfl bx rfl _ _ _ _ R.out Try.underlying35 rfl IY.out ?_)
    | (go_at_call 17; refine MY.out.mono ?_; rintro e w3 ⟨rfl, hb⟩; have HB3 := Lib.hid hb; clear hb))
  go_ret
  exact ⟨S, rfl, ⟨b, HT.out.below HB3.out⟩, fun k hk => .inl hk, Fs.below (HB.out.trans (HB3.out.mono HB.out.size))⟩
/-- what is looked up -/
theorem look_of {w : World} {S : Nat → Prop} {t b : Nat} {st : List Wy} {y : Wy} (hT : TC w S t b st) (hi : Inv st) (hy : y.Ok) : ∃ (CX : Array Value) (q : Bool), Hid (∀ w', MapW w' b st → (Instr.lookup 48 (.map (some b)) (.agg (kyV (kyOf y))) true).run Try.prog w' = .ok (.tuple #[.agg CX, .bool q]) w') ∧
    Hid ((Try.prog.info? 35).map (·.size) = some CX.size) ∧ Hid ((wyV zWy).size = CX.size) ∧ Hid (CX.all (·.oneCell') = true) ∧ Hid ((q = true ∧ ∃ x ∈ st, kyOf x = kyOf y ∧ CX = wyV x) ∨ (q = false ∧ (∀ x ∈ st, kyOf x ≠ kyOf y) ∧ CX = wyV zWy)) := by
  cases hk : hasK st y
  · exact ⟨wyV zWy, false, Lib.hid fun w' hM => run_look_none hM hi.ok (kyOf_ok hy) (hasK_ky hk), Lib.hid (wyV_info zWy_ok), Lib.hid rfl, Lib.hid (wy_ones _), Lib.hid (.inr ⟨rfl, hasK_ky hk, rfl⟩)⟩
  · obtain ⟨x, hx, e⟩ := hasK_mem hk
    exact ⟨wyV x, true, Lib.hid fun w' hM => (by rw [← e]; exact run_look_some hM hi.ok hi.nd hx), Lib.hid (wyV_info (hi.ok x hx)), Lib.hid (wy_zsize zWy_ok (hi.ok x hx)), Lib.hid (wy_ones _), Lib.hid (.inl ⟨rfl, x, hx, e, rfl⟩)⟩
set_option maxRecDepth 100000 in
set_option maxHeartbeats 4000000 in
theorem add_has (w : World) (S : Nat → Prop) (t : Nat) (st : List Wy) (y : Wy) (h : Tb w S t st) (hi : Inv st) (hy : y.Ok) (hm : mayW y = true) (hk : hasK st y = true) : Calls Try.prog 8 #[.pointer (some ⟨t, 0, none⟩), .agg (wyV y)] w (AddR Tb w S t (addE st y) (addS st y)) := by
  rw [addE_has hm hk, add_not (by rw [addE_has hm hk]; decide)]
  have hzk := zeroKy
  have hzv := zeroWy
  obtain ⟨b, hT0⟩ := h
  obtain ⟨W, hW⟩ : ∃ W, W = w.alloc (.cells (wyV y) 35) := ⟨_, rfl⟩
  obtain ⟨bx, hbx⟩ : ∃ b, b = w.heap.size := ⟨_, rfl⟩
  have HB := Lib.hid (show Below w.heap.size w W by rw [hW]; exact alloc_below _ _)
  have R := Lib.hid (show W.heap[bx]? = some (.cells (wyV y) 35 (0, 0)) by rw [hW, hbx]; exact heap_alloc_new _ _)
  have HT := Lib.hid (hT0.below HB.out)
  have HT0 := Lib.hid hT0
  have MD := Lib.hid (made_any W S t b st HT.out)
  have IY := Lib.hid (wyV_info hy)
  have MY := Lib.hid (wmay_any y W hy)
  have HY := Lib.hid hy
  have HI := Lib.hid hi
  have HBX := Lib.hid hbx
  have KR := Lib.hid (fun (w' : World) (hb : Below W.heap.size W w') => (show w'.heap[bx]? = some (.cells (wyV y) 35 (0, 0)) from (hb.block _ (lt_of_row R.out)).trans R.out))
  clear hT0 hi
  rw [hm] at MY
  obtain ⟨CK, hCK⟩ : ∃ C, C = kyV (kyOf y) := ⟨_, rfl⟩
  have KB := Lib.hid (show Try.prog.built 55 [(0, .agg (adrK y.s y.a).toArray), (1, .int .i64 y.len)] = some CK by rw [hCK]; exact ky_built (kyOf_ok hy))
  have IK := Lib.hid (show (Try.prog.info? 55).map (·.size) = some CK.size by rw [hCK]; exact kyV_info (kyOf_ok hy))
  have ZK := Lib.hid (show (kyV zKy).size = CK.size by rw [hCK, kyV_size zKy_ok, kyV_size (kyOf_ok hy)])
  have OK := Lib.hid (show CK.all (·.oneCell') = true by rw [hCK]; exact ky_ones _)
  have CA := Lib.hid (fun (w' : World) (hb : Below W.heap.size W w') => (show ∀ q v, (adrK y.s y.a)[q]? = some v → w'.cell? ⟨bx, 0 + q, none⟩ = some v from fun q v hv => wyV_row (KR.out w' hb) (wy_src hy q v hv)))
  have CL := Lib.hid (fun (w' : World) (hb : Below W.heap.size W w') => (show w'.cell? ⟨bx, 17, none⟩ = some (.int .i64 y.len) from wyV_row (KR.out w' hb) (wy_len hy)))
  have IA := Lib.hid (adrK_info (s := y.s) hy.la)
  have HCK := Lib.hid hCK
  obtain ⟨ZV, hZV⟩ : ∃ Z, Z = wyV zWy := ⟨_, rfl⟩
  rw [← hZV] at hzv
  have HZV := Lib.hid hZV
  clear hCK hZV
  obtain ⟨ZKV, hZK⟩ : ∃ Z, Z = kyV zKy := ⟨_, rfl⟩
  rw [← hZK] at ZK hzk
  clear hZK
  obtain ⟨CX, q, LKD, IX, ZX, OX, FACT⟩ := look_of HT.out HI.out HY.out
  rw [← HCK.out] at LKD
  rw [← HZV.out] at ZX
  have hq : q = true := by
    rcases FACT.out with ⟨h1, -⟩ | ⟨-, h2, -⟩
    · exact h1
    · obtain ⟨x, hx, e⟩ := hasK_mem hk
      exact absurd e (h2 x hx)
  subst hq
  clear hm hk hy FACT
  generalize wyV y = CY at *
  generalize adrK y.s y.a = KA at *
  generalize y.len = ln at *
  go_enter Try.func8, Try.ntmps8
  go_upto_region 1 with fail
  rw [← hW, ← hbx]
  clear hW hbx
  go_upto_region 5 with (first
    | (go_at_call 16; refine MD.out.mono ?_; rintro e w2 ⟨rfl, hw⟩; obtain rfl := hw.symm)
    | (refine wpList_load_row rfl 35 (.tmp 3) rfl bx rfl _ _ _ _ R.out Try.underlying35 rfl IY.out ?_)
    | (go_at_call 17; refine MY.out.mono ?_; rintro e w3 ⟨rfl, hb⟩; have HB3 := Lib.hid hb; clear hb))
  have CA3 := Lib.hid (CA.out w3 HB3.out)
  have cl := CL.out w3 HB3.out
  go_upto_region 6 with (first
    | (with_reducible refine atC.at_load 25 16 ?_; refine pkC.wpList_load_partG (by kernel_rfl) 25 (.tmp 16) rfl bx 0 (by kernel_rfl) KA _ CA3.out Try.underlying25 rfl IA.out ?_)
    | (with_reducible refine at_build 55 ?_; refine wpList_runG (by kernel_rfl) _ (built_runR (T := 55) (L := [(0, .agg KA.toArray), (1, .int .i64 ln)]) rfl rfl KB.out) ?_)
    | (refine wpList_store_row rfl 55 (.tmp 5) (.tmp 20) rfl w3.heap.size CK rfl rfl _ _ (heap_alloc_new _ _) IK.out ZK.out OK.out ?_; rw [World.setRow_alloc_new]))
  obtain ⟨W5, hW5⟩ : ∃ W5, W5 = w3.alloc (.cells CK 55) := ⟨_, rfl⟩
  obtain ⟨gk, hgk⟩ : ∃ g, g = w3.heap.size := ⟨_, rfl⟩
  have RK5 := Lib.hid (show W5.heap[gk]? = some (.cells CK 55 (0, 0)) by rw [hW5, hgk]; exact heap_alloc_new _ _)
  have HB5 := Lib.hid (show Below W.heap.size W W5 by rw [hW5]; exact HB3.out.trans ((alloc_below _ _).mono HB3.out.size))
  rw [← hW5, ← hgk]
  clear hW5 hgk cl hzk
  have HT5 := Lib.hid (HT.out.below HB5.out)
  have R5 := Lib.hid (KR.out W5 HB5.out)
  obtain ⟨g7, hg7⟩ : ∃ g, g = gk := ⟨_, rfl⟩
  obtain ⟨CM, hCM⟩ : ∃ C, C = CK := ⟨_, rfl⟩
  have C1 := Lib.hid (fun (w' : World) {m us} (hJ : LkJ W5 9 10 (adV t b g7 W5.heap.size CK CM CX true ln) CX ZV m us w') => hJ.cell (HT5.out.lt t HT5.out.ss) HT5.out.cell)
  have RK := Lib.hid (fun (w' : World) {m us} (hJ : LkJ W5 9 10 (adV t b g7 W5.heap.size CK CM CX true ln) CX ZV m us w') => (hJ.block gk (lt_of_row RK5.out)).trans RK5.out)
  have LK := Lib.hid (fun (w' : World) {m us} (hJ : LkJ W5 9 10 (adV t b g7 W5.heap.size CK CM CX true ln) CX ZV m us w') => LKD.out w' (HT5.out.map.same (hJ.block b (HT5.out.lt b HT5.out.sb))))
  refine with_act fun a0 ha0 => ?_
  have hl : adT.length = a0.tmps.size := by rw [ha0]; rfl
  have k0 : a0.tmps[0]?.getD undef = .pointer (some ⟨t, 0, none⟩) := by rw [ha0]; rfl
  have k5 : a0.tmps[5]?.getD undef = .pointer (some ⟨gk, 0, none⟩) := by rw [ha0]; rfl
  refine wp_region_J (by kernel_rfl) adT (by kernel_rfl) (by kernel_rfl) hl (fun i => undef) (by rw [ha0]; rfl) (LkJ W5 9 10 (adV t b g7 W5.heap.size CK CM CX true ln) CX ZV) (LkJ.start _ _ _ _ _ _ _) ⟨?_, ?_, ?_, ?_, ?_, ?_, ?_, ?_, ?_, ?_, ?_, ?_, trivial⟩ ?_
  · refine stepJ [] (by kernel_rfl) rfl fun m us w' hJ hmi hd => ?_
    have o0 := (frame_old2 (us := us) (a := a0) (show (adT[0]?).join = none from rfl)).trans k0
    generalize frame adT a0 us = fr at *
    exact val_J (v := .pointer (some ⟨t, 0, none⟩)) (w' := w') (by go_simp) (hJ.val_ 0 (by decide) (by decide) _ rfl)
  · refine stepJ [0] (by kernel_rfl) rfl fun m us w' hJ hmi hd => ?_
    have e0 : us 0 = .pointer (some ⟨t, 0, none⟩) := hJ.val 0 (hd 0 (by simp)) (by decide)
    have v0 := (frame_at2 (us := us) hl (show (adT[22]?).join = some 0 from rfl)).trans e0
    generalize frame adT a0 us = fr at *
    exact val_J (v := .pointer (some ⟨t, 0, none⟩)) (w' := w') (by go_simp) (hJ.val_ 1 (by decide) (by decide) _ rfl)
  · refine stepJ [1] (by kernel_rfl) rfl fun m us w' hJ hmi hd => ?_
    have e1 : us 1 = .pointer (some ⟨t, 0, none⟩) := hJ.val 1 (hd 1 (by simp)) (by decide)
    have v1 := (frame_at2 (us := us) hl (show (adT[23]?).join = some 1 from rfl)).trans e1
    generalize frame adT a0 us = fr at *
    exact val_J (v := .pointer (some ⟨t, 1, none⟩)) (w' := w') (by go_simp) (hJ.val_ 2 (by decide) (by decide) _ rfl)
  · refine stepJ [2] (by kernel_rfl) rfl fun m us w' hJ hmi hd => ?_
    have e2 : us 2 = .pointer (some ⟨t, 1, none⟩) := hJ.val 2 (hd 2 (by simp)) (by decide)
    have v2 := (frame_at2 (us := us) hl (show (adT[24]?).join = some 2 from rfl)).trans e2
    have hc := C1.out w' hJ
    generalize frame adT a0 us = fr at *
    exact val_J (v := .map (some b)) (w' := w') (by go_simp) (hJ.val_ 3 (by decide) (by decide) _ rfl)
  · refine stepJ [] (by kernel_rfl) rfl fun m us w' hJ hmi hd => ?_
    have o5 := (frame_old2 (us := us) (a := a0) (show (adT[5]?).join = none from rfl)).trans k5
    have hc := RK.out w' hJ
    generalize frame adT a0 us = fr at *
    exact load_J 55 5 rfl gk o5 _ CK (0, 0) _ hc Try.underlying55 rfl IK.out (hJ.val_ 4 (by decide) (by decide) _ rfl)
  · refine stepJ [3, 4] (by kernel_rfl) rfl fun m us w' hJ hmi hd => ?_
    have e3 : us 3 = .map (some b) := hJ.val 3 (hd 3 (by simp)) (by decide)
    have v3 := (frame_at2 (us := us) hl (show (adT[25]?).join = some 3 from rfl)).trans e3
    have e4 : us 4 = .agg CK := hJ.val 4 (hd 4 (by simp)) (by decide)
    have v4 := (frame_at2 (us := us) hl (show (adT[26]?).join = some 4 from rfl)).trans e4
    have hc := LK.out w' hJ
    generalize frame adT a0 us = fr at *
    exact val_J (v := .tuple #[.agg CX, .bool true]) (w' := w') (look_run rfl v3 v4 hc) (hJ.val_ 5 (by decide) (by decide) _ rfl)
  · refine stepJ [5] (by kernel_rfl) rfl fun m us w' hJ hmi hd => ?_
    have e5 : us 5 = .tuple #[.agg CX, .bool true] := hJ.val 5 (hd 5 (by simp)) (by decide)
    have v5 := (frame_at2 (us := us) hl (show (adT[27]?).join = some 5 from rfl)).trans e5
    generalize frame adT a0 us = fr at *
    exact val_J (v := .tuple #[.agg CX, .bool true]) (w' := w') (by go_simp) (hJ.val_ 6 (by decide) (by decide) _ rfl)
  · refine stepJ [6] (by kernel_rfl) rfl fun m us w' hJ hmi hd => ?_
    have e6 : us 6 = .tuple #[.agg CX, .bool true] := hJ.val 6 (hd 6 (by simp)) (by decide)
    have v6 := (frame_at2 (us := us) hl (show (adT[21]?).join = some 6 from rfl)).trans e6
    generalize frame adT a0 us = fr at *
    exact val_J (v := .agg CX) (w' := w') (by go_simp) (hJ.val_ 7 (by decide) (by decide) _ rfl)
  · refine stepJ [6] (by kernel_rfl) rfl fun m us w' hJ hmi hd => ?_
    have e6 : us 6 = .tuple #[.agg CX, .bool true] := hJ.val 6 (hd 6 (by simp)) (by decide)
    have v6 := (frame_at2 (us := us) hl (show (adT[21]?).join = some 6 from rfl)).trans e6
    generalize frame adT a0 us = fr at *
    exact val_J (v := .bool true) (w' := w') (by go_simp) (hJ.val_ 8 (by decide) (by decide) _ rfl)
  · refine stepJ [] (by kernel_rfl) rfl fun m us w' hJ hmi hd => ?_
    generalize frame adT a0 us = fr at *
    exact val_J (v := .pointer (some ⟨w'.heap.size, 0, none⟩)) (w' := w'.alloc (.cells ZV 35)) (by go_simp) (hJ.all hmi rfl (by decide) (hJ.late hmi))
  · refine stepJ [9, 7] (by kernel_rfl) rfl fun m us w' hJ hmi hd => ?_
    have e9 : us 9 = .pointer (some ⟨W5.heap.size, 0, none⟩) := hJ.val 9 (hd 9 (by simp)) (by decide)
    have v9 := (frame_at2 (us := us) hl (show (adT[6]?).join = some 9 from rfl)).trans e9
    have e7 : us 7 = .agg CX := hJ.val 7 (hd 7 (by simp)) (by decide)
    have v7 := (frame_at2 (us := us) hl (show (adT[28]?).join = some 7 from rfl)).trans e7
    generalize frame adT a0 us = fr at *
    exact store_J 35 6 28 rfl _ CX v9 v7 _ ZV (hJ.rowZ (hd 9 (by simp)) hmi) IX.out ZX.out OX.out (hJ.sto (hd 9 (by simp)) hmi (by decide))
  · refine stepJ [8] (by kernel_rfl) rfl fun m us w' hJ hmi hd => ?_
    have e8 : us 8 = .bool true := hJ.val 8 (hd 8 (by simp)) (by decide)
    have v8 := (frame_at2 (us := us) hl (show (adT[29]?).join = some 8 from rfl)).trans e8
    generalize frame adT a0 us = fr at *
    exact val_J (v := .bool true) (w' := w') (by go_simp) (hJ.val_ 11 (by decide) (by decide) _ rfl)
  · intro m us w6 hm hJ
    have e11 : us 11 = .bool true := hJ.val 11 (hm 11 (by decide)) (by decide)
    have HB6 := Lib.hid hJ.below
    have hrow6 := hJ.row (hm 9 (by decide))
    rw [hm 10 (by decide)] at hrow6
    have R6 := Lib.hid hrow6
    clear hrow6 hJ hm
    subst ha0
    simp only [Act.put, frame, adT, fill]
    rw [e11]
    go_wp2_with fail
    go_ret
    exact ⟨S, rfl, ⟨b, HT5.out.below HB6.out⟩, fun k hk => .inl hk, Fs.below (HB.out.trans ((HB5.out.trans (HB6.out.mono HB5.out.size)).mono HB.out.size))⟩
set_option maxRecDepth 100000 in
set_option maxHeartbeats 4000000 in
theorem add_full (w : World) (S : Nat → Prop) (t : Nat) (st : List Wy) (y : Wy) (h : Tb w S t st) (hi : Inv st) (hy : y.Ok) (hm : mayW y = true) (hk : hasK st y = false) (h3 : 128 ≤ st.length) : Calls Try.prog 8 #[.pointer (some ⟨t, 0, none⟩), .agg (wyV y)] w (AddR Tb w S t (addE st y) (addS st y)) := by
  rw [addE_full hm hk h3, add_not (by rw [addE_full hm hk h3]; decide)]
  have HN := Lib.hid (show st.length = 128 from Nat.le_antisymm hi.le h3)
  have hzk := zeroKy
  have hzv := zeroWy
  obtain ⟨b, hT0⟩ := h
  obtain ⟨W, hW⟩ : ∃ W, W = w.alloc (.cells (wyV y) 35) := ⟨_, rfl⟩
  obtain ⟨bx, hbx⟩ : ∃ b, b = w.heap.size := ⟨_, rfl⟩
  have HB := Lib.hid (show Below w.heap.size w W by rw [hW]; exact alloc_below _ _)
  have R := Lib.hid (show W.heap[bx]? = some (.cells (wyV y) 35 (0, 0)) by rw [hW, hbx]; exact heap_alloc_new _ _)
  have HT := Lib.hid (hT0.below HB.out)
  have HT0 := Lib.hid hT0
  have MD := Lib.hid (made_any W S t b st HT.out)
  have IY := Lib.hid (wyV_info hy)
  have MY := Lib.hid (wmay_any y W hy)
  have HY := Lib.hid hy
  have HI := Lib.hid hi
  have HBX := Lib.hid hbx
  have KR := Lib.hid (fun (w' : World) (hb : Below W.heap.size W w') => (show w'.heap[bx]? = some (.cells (wyV y) 35 (0, 0)) from (hb.block _ (lt_of_row R.out)).trans R.out))
  clear hT0 hi
  rw [hm] at MY
  obtain ⟨CK, hCK⟩ : ∃ C, C = kyV (kyOf y) := ⟨_, rfl⟩
  have KB := Lib.hid (show Try.prog.built 55 [(0, .agg (adrK y.s y.a).toArray), (1, .int .i64 y.len)] = some CK by rw [hCK]; exact ky_built (kyOf_ok hy))
  have IK := Lib.hid (show (Try.prog.info? 55).map (·.size) = some CK.size by rw [hCK]; exact kyV_info (kyOf_ok hy))
  have ZK := Lib.hid (show (kyV zKy).size = CK.size by rw [hCK, kyV_size zKy_ok, kyV_size (kyOf_ok hy)])
  have OK := Lib.hid (show CK.all (·.oneCell') = true by rw [hCK]; exact ky_ones _)
  have CA := Lib.hid (fun (w' : World) (hb : Below W.heap.size W w') => (show ∀ q v, (adrK y.s y.a)[q]? = some v → w'.cell? ⟨bx, 0 + q, none⟩ = some v from fun q v hv => wyV_row (KR.out w' hb) (wy_src hy q v hv)))
  have CL := Lib.hid (fun (w' : World) (hb : Below W.heap.size W w') => (show w'.cell? ⟨bx, 17, none⟩ = some (.int .i64 y.len) from wyV_row (KR.out w' hb) (wy_len hy)))
  have IA := Lib.hid (adrK_info (s := y.s) hy.la)
  have HCK := Lib.hid hCK
  obtain ⟨ZV, hZV⟩ : ∃ Z, Z = wyV zWy := ⟨_, rfl⟩
  rw [← hZV] at hzv
  have HZV := Lib.hid hZV
  clear hCK hZV
  obtain ⟨ZKV, hZK⟩ : ∃ Z, Z = kyV zKy := ⟨_, rfl⟩
  rw [← hZK] at ZK hzk
  clear hZK
  obtain ⟨CX, q, LKD, IX, ZX, OX, FACT⟩ := look_of HT.out HI.out HY.out
  rw [← HCK.out] at LKD
  rw [← HZV.out] at ZX
  have hq : q = false := by
    rcases FACT.out with ⟨-, x, hx, e, -⟩ | ⟨h1, -⟩
    · exact absurd e (hasK_ky hk x hx)
    · exact h1
  subst hq
  clear hm hk hy FACT h3
  generalize wyV y = CY at *
  generalize adrK y.s y.a = KA at *
  generalize y.len = ln at *
  go_enter Try.func8, Try.ntmps8
  go_upto_region 1 with fail
  rw [← hW, ← hbx]
  clear hW hbx
  go_upto_region 5 with (first
    | (go_at_call 16; refine MD.out.mono ?_; rintro e w2 ⟨rfl, hw⟩; obtain rfl := hw.symm)
    | (refine wpList_load_row rfl 35 (.tmp 3) rfl bx rfl _ _ _ _ R.out Try.underlying35 rfl IY.out ?_)
    | (go_at_call 17; refine MY.out.mono ?_; rintro e w3 ⟨rfl, hb⟩; have HB3 := Lib.hid hb; clear hb))
  have CA3 := Lib.hid (CA.out w3 HB3.out)
  have cl := CL.out w3 HB3.out
  go_upto_region 6 with (first
    | (with_reducible refine atC.at_load 25 16 ?_; refine pkC.wpList_load_partG (by kernel_rfl) 25 (.tmp 16) rfl bx 0 (by kernel_rfl) KA _ CA3.out Try.underlying25 rfl IA.out ?_)
    | (with_reducible refine at_build 55 ?_; refine wpList_runG (by kernel_rfl) _ (built_runR (T := 55) (L := [(0, .agg KA.toArray), (1, .int .i64 ln)]) rfl rfl KB.out) ?_)
    | (refine wpList_store_row rfl 55 (.tmp 5) (.tmp 20) rfl w3.heap.size CK rfl rfl _ _ (heap_alloc_new _ _) IK.out ZK.out OK.out ?_; rw [World.setRow_alloc_new]))
  obtain ⟨W5, hW5⟩ : ∃ W5, W5 = w3.alloc (.cells CK 55) := ⟨_, rfl⟩
  obtain ⟨gk, hgk⟩ : ∃ g, g = w3.heap.size := ⟨_, rfl⟩
  have RK5 := Lib.hid (show W5.heap[gk]? = some (.cells CK 55 (0, 0)) by rw [hW5, hgk]; exact heap_alloc_new _ _)
  have HB5 := Lib.hid (show Below W.heap.size W W5 by rw [hW5]; exact HB3.out.trans ((alloc_below _ _).mono HB3.out.size))
  rw [← hW5, ← hgk]
  clear hW5 hgk cl hzk
  have HT5 := Lib.hid (HT.out.below HB5.out)
  have R5 := Lib.hid (KR.out W5 HB5.out)
  obtain ⟨g7, hg7⟩ : ∃ g, g = gk := ⟨_, rfl⟩
  obtain ⟨CM, hCM⟩ : ∃ C, C = CK := ⟨_, rfl⟩
  have C1 := Lib.hid (fun (w' : World) {m us} (hJ : LkJ W5 9 10 (adV t b g7 W5.heap.size CK CM CX false ln) CX ZV m us w') => hJ.cell (HT5.out.lt t HT5.out.ss) HT5.out.cell)
  have RK := Lib.hid (fun (w' : World) {m us} (hJ : LkJ W5 9 10 (adV t b g7 W5.heap.size CK CM CX false ln) CX ZV m us w') => (hJ.block gk (lt_of_row RK5.out)).trans RK5.out)
  have LK := Lib.hid (fun (w' : World) {m us} (hJ : LkJ W5 9 10 (adV t b g7 W5.heap.size CK CM CX false ln) CX ZV m us w') => LKD.out w' (HT5.out.map.same (hJ.block b (HT5.out.lt b HT5.out.sb))))
  refine with_act fun a0 ha0 => ?_
  have hl : adT.length = a0.tmps.size := by rw [ha0]; rfl
  have k0 : a0.tmps[0]?.getD undef = .pointer (some ⟨t, 0, none⟩) := by rw [ha0]; rfl
  have k5 : a0.tmps[5]?.getD undef = .pointer (some ⟨gk, 0, none⟩) := by rw [ha0]; rfl
  refine wp_region_J (by kernel_rfl) adT (by kernel_rfl) (by kernel_rfl) hl (fun i => undef) (by rw [ha0]; rfl) (LkJ W5 9 10 (adV t b g7 W5.heap.size CK CM CX false ln) CX ZV) (LkJ.start _ _ _ _ _ _ _) ⟨?_, ?_, ?_, ?_, ?_, ?_, ?_, ?_, ?_, ?_, ?_, ?_, trivial⟩ ?_
  · refine stepJ [] (by kernel_rfl) rfl fun m us w' hJ hmi hd => ?_
    have o0 := (frame_old2 (us := us) (a := a0) (show (adT[0]?).join = none from rfl)).trans k0
    generalize frame adT a0 us = fr at *
    exact val_J (v := .pointer (some ⟨t, 0, none⟩)) (w' := w') (by go_simp) (hJ.val_ 0 (by decide) (by decide) _ rfl)
  · refine stepJ [0] (by kernel_rfl) rfl fun m us w' hJ hmi hd => ?_
    have e0 : us 0 = .pointer (some ⟨t, 0, none⟩) := hJ.val 0 (hd 0 (by simp)) (by decide)
    have v0 := (frame_at2 (us := us) hl (show (adT[22]?).join = some 0 from rfl)).trans e0
    generalize frame adT a0 us = fr at *
    exact val_J (v := .pointer (some ⟨t, 0, none⟩)) (w' := w') (by go_simp) (hJ.val_ 1 (by decide) (by decide) _ rfl)
  · refine stepJ [1] (by kernel_rfl) rfl fun m us w' hJ hmi hd => ?_
    have e1 : us 1 = .pointer (some ⟨t, 0, none⟩) := hJ.val 1 (hd 1 (by simp)) (by decide)
    have v1 := (frame_at2 (us := us) hl (show (adT[23]?).join = some 1 from rfl)).trans e1
    generalize frame adT a0 us = fr at *
    exact val_J (v := .pointer (some ⟨t, 1, none⟩)) (w' := w') (by go_simp) (hJ.val_ 2 (by decide) (by decide) _ rfl)
  · refine stepJ [2] (by kernel_rfl) rfl fun m us w' hJ hmi hd => ?_
    have e2 : us 2 = .pointer (some ⟨t, 1, none⟩) := hJ.val 2 (hd 2 (by simp)) (by decide)
    have v2 := (frame_at2 (us := us) hl (show (adT[24]?).join = some 2 from rfl)).trans e2
    have hc := C1.out w' hJ
    generalize frame adT a0 us = fr at *
    exact val_J (v := .map (some b)) (w' := w') (by go_simp) (hJ.val_ 3 (by decide) (by decide) _ rfl)
  · refine stepJ [] (by kernel_rfl) rfl fun m us w' hJ hmi hd => ?_
    have o5 := (frame_old2 (us := us) (a := a0) (show (adT[5]?).join = none from rfl)).trans k5
    have hc := RK.out w' hJ
    generalize frame adT a0 us = fr at *
    exact load_J 55 5 rfl gk o5 _ CK (0, 0) _ hc Try.underlying55 rfl IK.out (hJ.val_ 4 (by decide) (by decide) _ rfl)
  · refine stepJ [3, 4] (by kernel_rfl) rfl fun m us w' hJ hmi hd => ?_
    have e3 : us 3 = .map (some b) := hJ.val 3 (hd 3 (by simp)) (by decide)
    have v3 := (frame_at2 (us := us) hl (show (adT[25]?).join = some 3 from rfl)).trans e3
    have e4 : us 4 = .agg CK := hJ.val 4 (hd 4 (by simp)) (by decide)
    have v4 := (frame_at2 (us := us) hl (show (adT[26]?).join = some 4 from rfl)).trans e4
    have hc := LK.out w' hJ
    generalize frame adT a0 us = fr at *
    exact val_J (v := .tuple #[.agg CX, .bool false]) (w' := w') (look_run rfl v3 v4 hc) (hJ.val_ 5 (by decide) (by decide) _ rfl)
  · refine stepJ [5] (by kernel_rfl) rfl fun m us w' hJ hmi hd => ?_
    have e5 : us 5 = .tuple #[.agg CX, .bool false] := hJ.val 5 (hd 5 (by simp)) (by decide)
    have v5 := (frame_at2 (us := us) hl (show (adT[27]?).join = some 5 from rfl)).trans e5
    generalize frame adT a0 us = fr at *
    exact val_J (v := .tuple #[.agg CX, .bool false]) (w' := w') (by go_simp) (hJ.val_ 6 (by decide) (by decide) _ rfl)
  · refine stepJ [6] (by kernel_rfl) rfl fun m us w' hJ hmi hd => ?_
    have e6 : us 6 = .tuple #[.agg CX, .bool false] := hJ.val 6 (hd 6 (by simp)) (by decide)
    have v6 := (frame_at2 (us := us) hl (show (adT[21]?).join = some 6 from rfl)).trans e6
    generalize frame adT a0 us = fr at *
    exact val_J (v := .agg CX) (w' := w') (by go_simp) (hJ.val_ 7 (by decide) (by decide) _ rfl)
  · refine stepJ [6] (by kernel_rfl) rfl fun m us w' hJ hmi hd => ?_
    have e6 : us 6 = .tuple #[.agg CX, .bool false] := hJ.val 6 (hd 6 (by simp)) (by decide)
    have v6 := (frame_at2 (us := us) hl (show (adT[21]?).join = some 6 from rfl)).trans e6
    generalize frame adT a0 us = fr at *
    exact val_J (v := .bool false) (w' := w') (by go_simp) (hJ.val_ 8 (by decide) (by decide) _ rfl)
  · refine stepJ [] (by kernel_rfl) rfl fun m us w' hJ hmi hd => ?_
    generalize frame adT a0 us = fr at *
    exact val_J (v := .pointer (some ⟨w'.heap.size, 0, none⟩)) (w' := w'.alloc (.cells ZV 35)) (by go_simp) (hJ.all hmi rfl (by decide) (hJ.late hmi))
  · refine stepJ [9, 7] (by kernel_rfl) rfl fun m us w' hJ hmi hd => ?_
    have e9 : us 9 = .pointer (some ⟨W5.heap.size, 0, none⟩) := hJ.val 9 (hd 9 (by simp)) (by decide)
    have v9 := (frame_at2 (us := us) hl (show (adT[6]?).join = some 9 from rfl)).trans e9
    have e7 : us 7 = .agg CX := hJ.val 7 (hd 7 (by simp)) (by decide)
    have v7 := (frame_at2 (us := us) hl (show (adT[28]?).join = some 7 from rfl)).trans e7
    generalize frame adT a0 us = fr at *
    exact store_J 35 6 28 rfl _ CX v9 v7 _ ZV (hJ.rowZ (hd 9 (by simp)) hmi) IX.out ZX.out OX.out (hJ.sto (hd 9 (by simp)) hmi (by decide))
  · refine stepJ [8] (by kernel_rfl) rfl fun m us w' hJ hmi hd => ?_
    have e8 : us 8 = .bool false := hJ.val 8 (hd 8 (by simp)) (by decide)
    have v8 := (frame_at2 (us := us) hl (show (adT[29]?).join = some 8 from rfl)).trans e8
    generalize frame adT a0 us = fr at *
    exact val_J (v := .bool false) (w' := w') (by go_simp) (hJ.val_ 11 (by decide) (by decide) _ rfl)
  · intro m us w6 hm hJ
    have e11 : us 11 = .bool false := hJ.val 11 (hm 11 (by decide)) (by decide)
    have HB6 := Lib.hid hJ.below
    have hrow6 := hJ.row (hm 9 (by decide))
    rw [hm 10 (by decide)] at hrow6
    have R6 := Lib.hid hrow6
    clear hrow6 hJ hm
    subst ha0
    simp only [Act.put, frame, adT, fill]
    rw [e11]
    have HB60 := Lib.hid (show Below W.heap.size W w6 from HB5.out.trans (HB6.out.mono HB5.out.size))
    have HT6 := Lib.hid (HT.out.below HB60.out)
    have c1 := HT6.out.cell
    have R60 := Lib.hid (KR.out w6 HB60.out)
    have RK6 := Lib.hid (show w6.heap[gk]? = some (.cells CK 55 (0, 0)) from (HB6.out.block gk (lt_of_row RK5.out)).trans RK5.out)
    have hl : ∀ ty, (Builtin.len_ #[48] ty #[.map (some b)]).run Try.prog w6 = .ok (.int .i64 128) w6 := fun ty => by have := run_mlen HT6.out.map ty; rwa [HN.out] at this
    go_wp2_with fail
    go_ret
    exact ⟨S, rfl, ⟨b, HT6.out⟩, fun k hk => .inl hk, Fs.below (HB.out.trans (HB60.out.mono HB.out.size))⟩
theorem fs_butY {S : Nat → Prop} {k : Nat} {w w' : World} (h : But k w w') (hk : S k) : Fs S w w' := ⟨h.os, h.tape, h.output, h.size, fun j hj hn => h.block j hj fun e => hn (e ▸ hk)⟩
theorem addS_new {st : List Wy} {y : Wy} (h : addE st y = 0) : addS st y = st ++ [y] := by unfold addS; rw [if_pos h]
/-- the map of a table turns -/
theorem TC.turn {w w' : World} {S : Nat → Prop} {t b : Nat} {st st' : List Wy} (h : TC w S t b st) (hb : But b w w') (hM : MapW w' b st') : TC w' S t b st' :=
  ⟨(hb.block t (h.lt t h.ss) h.ne).trans h.row, h.ss, h.sb, hM, fun k hk => Nat.lt_of_lt_of_le (h.lt k hk) hb.size⟩
set_option maxRecDepth 100000 in
set_option maxHeartbeats 4000000 in
theorem add_new (w : World) (S : Nat → Prop) (t : Nat) (st : List Wy) (y : Wy) (h : Tb w S t st) (hi : Inv st) (hy : y.Ok) (hm : mayW y = true) (hk : hasK st y = false) (h3 : ¬ 128 ≤ st.length) : Calls Try.prog 8 #[.pointer (some ⟨t, 0, none⟩), .agg (wyV y)] w (AddR Tb w S t (addE st y) (addS st y)) := by
  rw [addE_new hm hk h3, addS_new (addE_new hm hk h3)]
  have HKY := Lib.hid (hasK_ky hk)
  have HN := Lib.hid (show ¬ (st.length : Int) = 128 by omega)
  have hzk := zeroKy
  have hzv := zeroWy
  obtain ⟨b, hT0⟩ := h
  obtain ⟨W, hW⟩ : ∃ W, W = w.alloc (.cells (wyV y) 35) := ⟨_, rfl⟩
  obtain ⟨bx, hbx⟩ : ∃ b, b = w.heap.size := ⟨_, rfl⟩
  have HB := Lib.hid (show Below w.heap.size w W by rw [hW]; exact alloc_below _ _)
  have R := Lib.hid (show W.heap[bx]? = some (.cells (wyV y) 35 (0, 0)) by rw [hW, hbx]; exact heap_alloc_new _ _)
  have HT := Lib.hid (hT0.below HB.out)
  have HT0 := Lib.hid hT0
  have MD := Lib.hid (made_any W S t b st HT.out)
  have IY := Lib.hid (wyV_info hy)
  have MY := Lib.hid (wmay_any y W hy)
  have HY := Lib.hid hy
  have HI := Lib.hid hi
  have HBX := Lib.hid hbx
  have KR := Lib.hid (fun (w' : World) (hb : Below W.heap.size W w') => (show w'.heap[bx]? = some (.cells (wyV y) 35 (0, 0)) from (hb.block _ (lt_of_row R.out)).trans R.out))
  clear hT0 hi
  rw [hm] at MY
  obtain ⟨CK, hCK⟩ : ∃ C, C = kyV (kyOf y) := ⟨_, rfl⟩
  have KB := Lib.hid (show Try.prog.built 55 [(0, .agg (adrK y.s y.a).toArray), (1, .int .i64 y.len)] = some CK by rw [hCK]; exact ky_built (kyOf_ok hy))
  have IK := Lib.hid (show (Try.prog.info? 55).map (·.size) = some CK.size by rw [hCK]; exact kyV_info (kyOf_ok hy))
  have ZK := Lib.hid (show (kyV zKy).size = CK.size by rw [hCK, kyV_size zKy_ok, kyV_size (kyOf_ok hy)])
  have OK := Lib.hid (show CK.all (·.oneCell') = true by rw [hCK]; exact ky_ones _)
  have CA := Lib.hid (fun (w' : World) (hb : Below W.heap.size W w') => (show ∀ q v, (adrK y.s y.a)[q]? = some v → w'.cell? ⟨bx, 0 + q, none⟩ = some v from fun q v hv => wyV_row (KR.out w' hb) (wy_src hy q v hv)))
  have CL := Lib.hid (fun (w' : World) (hb : Below W.heap.size W w') => (show w'.cell? ⟨bx, 17, none⟩ = some (.int .i64 y.len) from wyV_row (KR.out w' hb) (wy_len hy)))
  have IA := Lib.hid (adrK_info (s := y.s) hy.la)
  have HCK := Lib.hid hCK
  obtain ⟨ZV, hZV⟩ : ∃ Z, Z = wyV zWy := ⟨_, rfl⟩
  rw [← hZV] at hzv
  have HZV := Lib.hid hZV
  clear hCK hZV
  obtain ⟨ZKV, hZK⟩ : ∃ Z, Z = kyV zKy := ⟨_, rfl⟩
  rw [← hZK] at ZK hzk
  clear hZK
  obtain ⟨CX, q, LKD, IX, ZX, OX, FACT⟩ := look_of HT.out HI.out HY.out
  rw [← HCK.out] at LKD
  rw [← HZV.out] at ZX
  have hq : q = false := by
    rcases FACT.out with ⟨-, x, hx, e, -⟩ | ⟨h1, -⟩
    · exact absurd e (hasK_ky hk x hx)
    · exact h1
  subst hq
  clear hm hk hy FACT h3
  generalize hCY : wyV y = CY at *
  have HCY := Lib.hid hCY.symm
  clear hCY
  generalize adrK y.s y.a = KA at *
  generalize y.len = ln at *
  go_enter Try.func8, Try.ntmps8
  go_upto_region 1 with fail
  rw [← hW, ← hbx]
  clear hW hbx
  go_upto_region 5 with (first
    | (go_at_call 16; refine MD.out.mono ?_; rintro e w2 ⟨rfl, hw⟩; obtain rfl := hw.symm)
    | (refine wpList_load_row rfl 35 (.tmp 3) rfl bx rfl _ _ _ _ R.out Try.underlying35 rfl IY.out ?_)
    | (go_at_call 17; refine MY.out.mono ?_; rintro e w3 ⟨rfl, hb⟩; have HB3 := Lib.hid hb; clear hb))
  have CA3 := Lib.hid (CA.out w3 HB3.out)
  have cl := CL.out w3 HB3.out
  go_upto_region 6 with (first
    | (with_reducible refine atC.at_load 25 16 ?_; refine pkC.wpList_load_partG (by kernel_rfl) 25 (.tmp 16) rfl bx 0 (by kernel_rfl) KA _ CA3.out Try.underlying25 rfl IA.out ?_)
    | (with_reducible refine at_build 55 ?_; refine wpList_runG (by kernel_rfl) _ (built_runR (T := 55) (L := [(0, .agg KA.toArray), (1, .int .i64 ln)]) rfl rfl KB.out) ?_)
    | (refine wpList_store_row rfl 55 (.tmp 5) (.tmp 20) rfl w3.heap.size CK rfl rfl _ _ (heap_alloc_new _ _) IK.out ZK.out OK.out ?_; rw [World.setRow_alloc_new]))
  obtain ⟨W5, hW5⟩ : ∃ W5, W5 = w3.alloc (.cells CK 55) := ⟨_, rfl⟩
  obtain ⟨gk, hgk⟩ : ∃ g, g = w3.heap.size := ⟨_, rfl⟩
  have RK5 := Lib.hid (show W5.heap[gk]? = some (.cells CK 55 (0, 0)) by rw [hW5, hgk]; exact heap_alloc_new _ _)
  have HB5 := Lib.hid (show Below W.heap.size W W5 by rw [hW5]; exact HB3.out.trans ((alloc_below _ _).mono HB3.out.size))
  rw [← hW5, ← hgk]
  clear hW5 hgk cl hzk
  have HT5 := Lib.hid (HT.out.below HB5.out)
  have R5 := Lib.hid (KR.out W5 HB5.out)
  obtain ⟨g7, hg7⟩ : ∃ g, g = gk := ⟨_, rfl⟩
  obtain ⟨CM, hCM⟩ : ∃ C, C = CK := ⟨_, rfl⟩
  have C1 := Lib.hid (fun (w' : World) {m us} (hJ : LkJ W5 9 10 (adV t b g7 W5.heap.size CK CM CX false ln) CX ZV m us w') => hJ.cell (HT5.out.lt t HT5.out.ss) HT5.out.cell)
  have RK := Lib.hid (fun (w' : World) {m us} (hJ : LkJ W5 9 10 (adV t b g7 W5.heap.size CK CM CX false ln) CX ZV m us w') => (hJ.block gk (lt_of_row RK5.out)).trans RK5.out)
  have LK := Lib.hid (fun (w' : World) {m us} (hJ : LkJ W5 9 10 (adV t b g7 W5.heap.size CK CM CX false ln) CX ZV m us w') => LKD.out w' (HT5.out.map.same (hJ.block b (HT5.out.lt b HT5.out.sb))))
  refine with_act fun a0 ha0 => ?_
  have hl : adT.length = a0.tmps.size := by rw [ha0]; rfl
  have k0 : a0.tmps[0]?.getD undef = .pointer (some ⟨t, 0, none⟩) := by rw [ha0]; rfl
  have k5 : a0.tmps[5]?.getD undef = .pointer (some ⟨gk, 0, none⟩) := by rw [ha0]; rfl
  refine wp_region_J (by kernel_rfl) adT (by kernel_rfl) (by kernel_rfl) hl (fun i => undef) (by rw [ha0]; rfl) (LkJ W5 9 10 (adV t b g7 W5.heap.size CK CM CX false ln) CX ZV) (LkJ.start _ _ _ _ _ _ _) ⟨?_, ?_, ?_, ?_, ?_, ?_, ?_, ?_, ?_, ?_, ?_, ?_, trivial⟩ ?_
  · refine stepJ [] (by kernel_rfl) rfl fun m us w' hJ hmi hd => ?_
    have o0 := (frame_old2 (us := us) (a := a0) (show (adT[0]?).join = none from rfl)).trans k0
    generalize frame adT a0 us = fr at *
    exact val_J (v := .pointer (some ⟨t, 0, none⟩)) (w' := w') (by go_simp) (hJ.val_ 0 (by decide) (by decide) _ rfl)
  · refine stepJ [0] (by kernel_rfl) rfl fun m us w' hJ hmi hd => ?_
    have e0 : us 0 = .pointer (some ⟨t, 0, none⟩) := hJ.val 0 (hd 0 (by simp)) (by decide)
    have v0 := (frame_at2 (us := us) hl (show (adT[22]?).join = some 0 from rfl)).trans e0
    generalize frame adT a0 us = fr at *
    exact val_J (v := .pointer (some ⟨t, 0, none⟩)) (w' := w') (by go_simp) (hJ.val_ 1 (by decide) (by decide) _ rfl)
  · refine stepJ [1] (by kernel_rfl) rfl fun m us w' hJ hmi hd => ?_
    have e1 : us 1 = .pointer (some ⟨t, 0, none⟩) := hJ.val 1 (hd 1 (by simp)) (by decide)
    have v1 := (frame_at2 (us := us) hl (show (adT[23]?).join = some 1 from rfl)).trans e1
    generalize frame adT a0 us = fr at *
    exact val_J (v := .pointer (some ⟨t, 1, none⟩)) (w' := w') (by go_simp) (hJ.val_ 2 (by decide) (by decide) _ rfl)
  · refine stepJ [2] (by kernel_rfl) rfl fun m us w' hJ hmi hd => ?_
    have e2 : us 2 = .pointer (some ⟨t, 1, none⟩) := hJ.val 2 (hd 2 (by simp)) (by decide)
    have v2 := (frame_at2 (us := us) hl (show (adT[24]?).join = some 2 from rfl)).trans e2
    have hc := C1.out w' hJ
    generalize frame adT a0 us = fr at *
    exact val_J (v := .map (some b)) (w' := w') (by go_simp) (hJ.val_ 3 (by decide) (by decide) _ rfl)
  · refine stepJ [] (by kernel_rfl) rfl fun m us w' hJ hmi hd => ?_
    have o5 := (frame_old2 (us := us) (a := a0) (show (adT[5]?).join = none from rfl)).trans k5
    have hc := RK.out w' hJ
    generalize frame adT a0 us = fr at *
    exact load_J 55 5 rfl gk o5 _ CK (0, 0) _ hc Try.underlying55 rfl IK.out (hJ.val_ 4 (by decide) (by decide) _ rfl)
  · refine stepJ [3, 4] (by kernel_rfl) rfl fun m us w' hJ hmi hd => ?_
    have e3 : us 3 = .map (some b) := hJ.val 3 (hd 3 (by simp)) (by decide)
    have v3 := (frame_at2 (us := us) hl (show (adT[25]?).join = some 3 from rfl)).trans e3
    have e4 : us 4 = .agg CK := hJ.val 4 (hd 4 (by simp)) (by decide)
    have v4 := (frame_at2 (us := us) hl (show (adT[26]?).join = some 4 from rfl)).trans e4
    have hc := LK.out w' hJ
    generalize frame adT a0 us = fr at *
    exact val_J (v := .tuple #[.agg CX, .bool false]) (w' := w') (look_run rfl v3 v4 hc) (hJ.val_ 5 (by decide) (by decide) _ rfl)
  · refine stepJ [5] (by kernel_rfl) rfl fun m us w' hJ hmi hd => ?_
    have e5 : us 5 = .tuple #[.agg CX, .bool false] := hJ.val 5 (hd 5 (by simp)) (by decide)
    have v5 := (frame_at2 (us := us) hl (show (adT[27]?).join = some 5 from rfl)).trans e5
    generalize frame adT a0 us = fr at *
    exact val_J (v := .tuple #[.agg CX, .bool false]) (w' := w') (by go_simp) (hJ.val_ 6 (by decide) (by decide) _ rfl)
  · refine stepJ [6] (by kernel_rfl) rfl fun m us w' hJ hmi hd => ?_
    have e6 : us 6 = .tuple #[.agg CX, .bool false] := hJ.val 6 (hd 6 (by simp)) (by decide)
    have v6 := (frame_at2 (us := us) hl (show (adT[21]?).join = some 6 from rfl)).trans e6
    generalize frame adT a0 us = fr at *
    exact val_J (v := .agg CX) (w' := w') (by go_simp) (hJ.val_ 7 (by decide) (by decide) _ rfl)
  · refine stepJ [6] (by kernel_rfl) rfl fun m us w' hJ hmi hd => ?_
    have e6 : us 6 = .tuple #[.agg CX, .bool false] := hJ.val 6 (hd 6 (by simp)) (by decide)
    have v6 := (frame_at2 (us := us) hl (show (adT[21]?).join = some 6 from rfl)).trans e6
    generalize frame adT a0 us = fr at *
    exact val_J (v := .bool false) (w' := w') (by go_simp) (hJ.val_ 8 (by decide) (by decide) _ rfl)
  · refine stepJ [] (by kernel_rfl) rfl fun m us w' hJ hmi hd => ?_
    generalize frame adT a0 us = fr at *
    exact val_J (v := .pointer (some ⟨w'.heap.size, 0, none⟩)) (w' := w'.alloc (.cells ZV 35)) (by go_simp) (hJ.all hmi rfl (by decide) (hJ.late hmi))
  · refine stepJ [9, 7] (by kernel_rfl) rfl fun m us w' hJ hmi hd => ?_
    have e9 : us 9 = .pointer (some ⟨W5.heap.size, 0, none⟩) := hJ.val 9 (hd 9 (by simp)) (by decide)
    have v9 := (frame_at2 (us := us) hl (show (adT[6]?).join = some 9 from rfl)).trans e9
    have e7 : us 7 = .agg CX := hJ.val 7 (hd 7 (by simp)) (by decide)
    have v7 := (frame_at2 (us := us) hl (show (adT[28]?).join = some 7 from rfl)).trans e7
    generalize frame adT a0 us = fr at *
    exact store_J 35 6 28 rfl _ CX v9 v7 _ ZV (hJ.rowZ (hd 9 (by simp)) hmi) IX.out ZX.out OX.out (hJ.sto (hd 9 (by simp)) hmi (by decide))
  · refine stepJ [8] (by kernel_rfl) rfl fun m us w' hJ hmi hd => ?_
    have e8 : us 8 = .bool false := hJ.val 8 (hd 8 (by simp)) (by decide)
    have v8 := (frame_at2 (us := us) hl (show (adT[29]?).join = some 8 from rfl)).trans e8
    generalize frame adT a0 us = fr at *
    exact val_J (v := .bool false) (w' := w') (by go_simp) (hJ.val_ 11 (by decide) (by decide) _ rfl)
  · intro m us w6 hm hJ
    have e11 : us 11 = .bool false := hJ.val 11 (hm 11 (by decide)) (by decide)
    have HB6 := Lib.hid hJ.below
    have hrow6 := hJ.row (hm 9 (by decide))
    rw [hm 10 (by decide)] at hrow6
    have R6 := Lib.hid hrow6
    clear hrow6 hJ hm
    subst ha0
    simp only [Act.put, frame, adT, fill]
    rw [e11]
    have HB60 := Lib.hid (show Below W.heap.size W w6 from HB5.out.trans (HB6.out.mono HB5.out.size))
    have HT6 := Lib.hid (HT.out.below HB60.out)
    have c1 := HT6.out.cell
    have R60 := Lib.hid (KR.out w6 HB60.out)
    have RK6 := Lib.hid (show w6.heap[gk]? = some (.cells CK 55 (0, 0)) from (HB6.out.block gk (lt_of_row RK5.out)).trans RK5.out)
    have hl : ∀ ty, (Builtin.len_ #[48] ty #[.map (some b)]).run Try.prog w6 = .ok (.int .i64 (st.length : Nat)) w6 := fun ty => run_mlen HT6.out.map ty
    have qn : ((st.length : Int) == 128) = false := beq_eq_false_iff_ne.2 HN.out
    go_upto_region 11 with fail
    clear hl qn
    have RKd := Lib.hid (show ∀ w', (∃ j, w' = w6.drewN j) → w'.heap[gk]? = some (.cells CK 55 (0, 0)) by rintro w' ⟨j, rfl⟩; exact RK6.out)
    have RYd := Lib.hid (show ∀ w', (∃ j, w' = w6.drewN j) → w'.heap[bx]? = some (.cells CY 35 (0, 0)) by rintro w' ⟨j, rfl⟩; exact R60.out)
    refine Go.Proofs.Ytjdenhkicikfkaa.lastC.wp_region_lastC (fun w' => ∃ j, w' = w6.drewN j) 6 (by kernel_rfl) (by kernel_rfl) (by kernel_rfl) (by kernel_rfl) ⟨1, rfl⟩ ?_
    simp only [List.take_succ_cons, List.take_zero, List.drop_succ_cons, List.drop_zero]
    repeat (first
      | (refine wpQuiet_row rfl 55 (.tmp 5) rfl gk rfl _ _ _ _ RKd.out Try.underlying55 rfl IK.out ?_)
      | (refine wpQuiet_row rfl 35 (.tmp 3) rfl bx rfl _ _ _ _ RYd.out Try.underlying35 rfl IY.out ?_)
      | go_big_quiet_step (fail)
      | quiet_step (fail))
    refine wpQuiet_nil ?_
    intro w7 hw7
    obtain ⟨n7, hw8⟩ := hw7
    subst hw8
    simp only [Act.put, List.setIfInBounds_toArray, List.set_cons_succ, List.set_cons_zero]
    refine wpList_putY rfl (.tmp 40) (.tmp 41) (.tmp 42) rfl rfl rfl rfl HCK.out HCY.out (HT6.out.map.same (w' := w6.drewN n7) rfl) HI.out.ok HY.out HKY.out fun w8 hM8 hB8 hS8 => ?_
    simp only [Act.put]
    have HM8 := Lib.hid hM8
    have HB8 := Lib.hid (show But b w6 w8 from ⟨hB8.os, hB8.tape, hB8.output, hB8.size, hB8.block⟩)
    clear hM8 hB8 hS8 c1
    go_wp2_with fail
    go_ret
    exact ⟨S, rfl, ⟨b, HT6.out.turn HB8.out HM8.out⟩, fun k hk => .inl hk, (Fs.below (HB.out.trans (HB60.out.mono HB.out.size))).trans (fs_butY HB8.out HT6.out.sb)⟩
theorem cadd_any (w : World) (S : Nat → Prop) (t : Nat) (st : List Wy) (y : Wy) (h : Tb w S t st) (hi : Inv st) (hy : y.Ok) : Calls Try.prog 8 #[.pointer (some ⟨t, 0, none⟩), .agg (wyV y)] w (AddR Tb w S t (addE st y) (addS st y)) := by
  cases hm : mayW y
  · exact add_no w S t st y h hi hy hm
  · cases hk : hasK st y
    · by_cases h3 : 128 ≤ st.length
      · exact add_full w S t st y h hi hy hm hk h3
      · exact add_new w S t st y h hi hy hm hk h3
    · exact add_has w S t st y h hi hy hm hk
end Go.Proofs.Ytjdenhkicikfkaa.rtC
