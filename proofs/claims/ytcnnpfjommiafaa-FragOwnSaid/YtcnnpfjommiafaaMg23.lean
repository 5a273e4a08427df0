/-
  2 texts of a proof, joined.
-/
import Derived.Test.YtcnnpfjommiafaaMg21
import Derived.Test.YtcnnpfjommiafaaMg22

/-
  The program's pieces of a packet's load.
-/
namespace Go.Proofs.Ytcnnpfjommiafaa.fgC
open Go.ChangeShapes Go.WideShapes Go.ChangeAt Go.RowKit
open Go.Proofs.Ytcnnpfjommiafaa.memC Go.Proofs.Ytcnnpfjommiafaa.genC Go.Proofs.Ytcnnpfjommiafaa.butC Go.Proofs.Ytcnnpfjommiafaa.freeC Go.Proofs.Ytcnnpfjommiafaa.adC
open Go.Proofs.Ytcnnpfjommiafaa.pkC (Pkt pktL pktV pktT adrC)
set_option linter.unusedVariables false
attribute [local go_sem] Oper.semAt_some
/-! ### over numbers -/
def lenC (n sz x : Nat) : Nat := min sz (n - x * sz)
def sumC (n sz : Nat) : List Nat → Nat
  | [] => 0
  | x :: r => lenC n sz x + sumC n sz r
theorem sumC_snoc (n sz x : Nat) : ∀ l, sumC n sz (l ++ [x]) = sumC n sz l + lenC n sz x
  | [] => by simp [sumC]
  | y :: r => by rw [List.cons_append, sumC, sumC, sumC_snoc n sz x r]; omega
theorem lenC_le (n sz x : Nat) : lenC n sz x ≤ n := Nat.le_trans (Nat.min_le_right _ _) (Nat.sub_le _ _)
theorem sumC_le (n sz : Nat) : ∀ l : List Nat, sumC n sz l ≤ l.length * n
  | [] => Nat.zero_le _
  | y :: r => by
    have := sumC_le n sz r
    have := lenC_le n sz y
    rw [sumC, List.length_cons, Nat.succ_mul]; omega
def pcC (p : Pkt) (xs : List Int) (sz o x : Nat) : Pc := ({ p with whole := false, off := (o : Int), more := decide (o + lenC xs.length sz x < xs.length) }, (xs.drop (x * sz)).take sz)
def pcsC (p : Pkt) (xs : List Int) (sz : Nat) : Nat → List Nat → List Pc
  | _, [] => []
  | o, x :: r => pcC p xs sz o x :: pcsC p xs sz (o + lenC xs.length sz x) r
theorem pcsC_snoc (p : Pkt) (xs : List Int) (sz x : Nat) : ∀ (l : List Nat) (o : Nat), pcsC p xs sz o (l ++ [x]) = pcsC p xs sz o l ++ [pcC p xs sz (o + sumC xs.length sz l) x]
  | [], o => by simp [pcsC, sumC]
  | y :: r, o => by
    rw [List.cons_append, pcsC, pcsC, pcsC_snoc p xs sz x r, List.cons_append, sumC, Nat.add_assoc]
theorem pcsC_len (p : Pkt) (xs : List Int) (sz : Nat) : ∀ (l : List Nat) (o : Nat), (pcsC p xs sz o l).length = l.length
  | [], _ => rfl
  | x :: r, o => by rw [pcsC, List.length_cons, pcsC_len p xs sz r, List.length_cons]
theorem pcsC_range (p : Pkt) (xs : List Int) (sz N : Nat) (hs : 0 < sz) (hN : ∀ i, i < N ↔ i * sz < xs.length) : ∀ (m k : Nat), k + m = N →
    pcsC p xs sz (k * sz) (List.range' k m) = (List.range' k m).map fun i => ({ p with whole := false, off := ((i * sz : Nat) : Int), more := decide (i * sz + sz < xs.length) }, (xs.drop (i * sz)).take sz)
  | 0, k, h => rfl
  | m + 1, k, h => by
    have h1 := (hN k).1 (by omega)
    have hk1 : (k + 1) * sz = k * sz + sz := Nat.succ_mul _ _
    rw [List.range'_succ, pcsC, List.map_cons]
    congr 1
    · unfold pcC
      have : decide (k * sz + lenC xs.length sz k < xs.length) = decide (k * sz + sz < xs.length) := by
        unfold lenC
        refine decide_eq_decide.2 ?_
        omega
      rw [this]
    · cases m with
      | zero => rfl
      | succ m =>
        have h2 := (hN (k + 1)).1 (by omega)
        have e : k * sz + lenC xs.length sz k = (k + 1) * sz := by unfold lenC; omega
        rw [e]
        exact pcsC_range p xs sz N hs hN (m + 1) (k + 1) (by omega)
theorem range_zero (N : Nat) : List.range N = List.range' 0 N := List.range_eq_range' 
/-- the document's pieces -/
theorem pieces_range (q : Pc) (id : Int) (sz N : Nat) (hs : 0 < sz) (hN : ∀ i, i < N ↔ i * sz < q.2.length) : piecesP q id sz q.2.length 0 = (List.range N).map fun i => pieceP q id sz (i * sz) := by
  apply List.ext_getElem?
  intro i
  rw [pieces_get q id hs q.2.length 0 i (by omega), Nat.zero_add, List.getElem?_map]
  by_cases h : i < N
  · rw [if_pos ((hN i).1 h), List.getElem?_range h]; rfl
  · rw [if_neg (fun h2 => h ((hN i).2 h2)), List.getElem?_eq_none (by rw [List.length_range]; omega)]; rfl
theorem chunks_of (n sz : Nat) (hs : 0 < sz) : ∃ N, ∀ i, i < N ↔ i * sz < n := by
  refine ⟨(n + sz - 1) / sz, fun i => ?_⟩
  rw [Nat.lt_iff_add_one_le, Nat.le_div_iff_mul_le hs, Nat.succ_mul]
  omega
theorem chunks_le {n sz N : Nat} (hs : 0 < sz) (hN : ∀ i, i < N ↔ i * sz < n) : N ≤ n := by
  apply Classical.byContradiction
  intro h
  have h1 := (hN n).1 (by omega)
  have h2 : n * 1 ≤ n * sz := Nat.mul_le_mul_left _ hs
  omega
/-- a piece of the load -/
theorem chunk_nums {A : Option Addr} {n sz x : Nat} {xs : List Int} {w : World} {B : Nat} (h : Nums .u8 w B A n xs) : ∃ A' m, chV A n sz x = .slice A' m m ∧ m = lenC n sz x ∧ Nums .u8 w B A' m ((xs.drop (x * sz)).take sz) := by
  refine ⟨_, _, rfl, rfl, ?_⟩
  have hl := h.len
  refine ⟨by rw [List.length_take, List.length_drop, hl], fun h0 => ?_⟩
  have h1 : x * sz < n := by omega
  obtain ⟨b, o, rfl, hb, hc⟩ := h.at_ (by omega)
  refine ⟨b, o + x * sz, congrArg some (memC.add_plain b o _), hb, fun i hi => ?_⟩
  have := hc (x * sz + i) (by omega)
  rw [show o + x * sz + i = o + (x * sz + i) by omega, this, List.getD_eq_getElem?_getD, List.getD_eq_getElem?_getD, List.getElem?_take, if_pos (by omega), List.getElem?_drop]
theorem own_row_grown {w w' : World} {base T : Nat} {c : Nat} {v : Value} {k : Nat} {l : List Value} {row : Option Nat} (h : w.ownsRow base T c v k l) (hg : w.grownBy w' row) (hr : ∀ r, row = some r → ∃ o : Obj, w.heap[r]? = some o ∧ o.isCells = false) : w'.ownsRow base T c v k l := by
  refine ⟨h.1, ?_⟩
  rcases h.2 with h0 | ⟨g, cap, cur, e1, hb, hh, h'⟩
  · exact .inl h0
  · refine .inr ⟨g, cap, cur, e1, hb, ?_, h'⟩
    rw [hg.block g (Array.getElem?_eq_some_iff.1 hh).1 (fun e => by
      obtain ⟨o, ho, hc⟩ := hr g e.symm
      rw [hh] at ho
      cases ho
      cases hc)]
    exact hh
theorem row_grown {w w' : World} {g : Nat} {cs : Array Value} {T : TypeId} {fr : Nat × Nat} {row : Option Nat} (h : w.heap[g]? = some (.cells cs T fr)) (hg : w.grownBy w' row) (hr : ∀ r, row = some r → ∃ o : Obj, w.heap[r]? = some o ∧ o.isCells = false) : w'.heap[g]? = some (.cells cs T fr) := by
  rw [hg.block g (Array.getElem?_eq_some_iff.1 h).1 (fun e => by
    obtain ⟨o, ho, hc⟩ := hr g e.symm
    rw [h] at ho
    cases ho
    cases hc)]
  exact h
theorem chunk_at {A A2 : Option Addr} {n sz x m : Nat} {xs : List Int} {w : World} {B : Nat} (h : Nums .u8 w B A n xs) (hv : chV A n sz x = .slice A2 m m) : Nums .u8 w B A2 m ((xs.drop (x * sz)).take sz) := by
  obtain ⟨A', m', e, -, N⟩ := chunk_nums (sz := sz) (x := x) h
  rw [e] at hv
  injection hv with h1 h2 _
  subst h1; subst h2
  exact N
/-- what the call's own variables hold: the packet at bp, the pieces at bp + 1, what is left at bp + 2, the library's at bp + 3 and bp + 4 -/
structure CutS (w0 : World) (sz bp : Nat) (vs : Value) (q : Pkt) (A1 : Option Addr) (n1 c1 : Nat) (lf : Int) (v : Value) (es : List Pe) (W : World) : Prop where
  bel : Below w0.heap.size w0 W
  lt0 : w0.heap.size ≤ bp
  bs : W.heap[bp + 3]? = some (.cells #[vs] 26 (0, 0))
  bn : W.heap[bp + 4]? = some (.cells #[.int .i64 (sz : Int)] 3 (0, 0))
  left : W.heap[bp + 2]? = some (.cells #[.int .i64 lf] 3 (0, 0))
  row : W.heap[bp]? = some (.cells (pktV q A1 n1 c1) 28 (0, 0))
  var : W.heap[bp + 1]? = some (.cells #[v] 30 (0, 0))
  own : OwnK W (bp + 5) v es
  lds : ∀ e ∈ es, memC.Own .u8 5 W (bp + 5) (.slice e.A e.n e.c) e.x ∧ e.Ok
  ok : q.Ok
section
variable {w0 W W2 : World} {sz bp : Nat} {vs v v2 : Value} {q q' : Pkt} {A1 A1' : Option Addr} {n1 c1 n1' c1' : Nat} {lf lf2 : Int} {es es2 : List Pe}
theorem CutS.lt (h : CutS w0 sz bp vs q A1 n1 c1 lf v es W) : bp + 4 < W.heap.size := (Array.getElem?_eq_some_iff.1 h.bn).1
theorem CutS.setLeft (h : CutS w0 sz bp vs q A1 n1 c1 lf v es W) (lf2 : Int) : CutS w0 sz bp vs q A1 n1 c1 lf2 v es (W.setCell ⟨bp + 2, 0, none⟩ (.int .i64 lf2)) := by
  have ho : ∀ g, g ≠ bp + 2 → (W.setCell ⟨bp + 2, 0, none⟩ (.int .i64 lf2)).heap[g]? = W.heap[g]? := fun g hg => Below.heap_setCell _ _ _ _ hg
  exact ⟨h.bel.setCell (p := ⟨bp + 2, 0, none⟩) (by have := h.lt0; show w0.heap.size ≤ bp + 2; omega) _, h.lt0, (ho _ (by omega)).trans h.bs, (ho _ (by omega)).trans h.bn, heap_setCell_same W (bp + 2) 0 _ _ _ h.left, (ho _ (by omega)).trans h.row, (ho _ (by omega)).trans h.var,
    h.own.keep fun g g1 _ => ho g (by omega), fun e he => ⟨(h.lds e he).1.keep fun g g1 _ => ho g (by omega), (h.lds e he).2⟩, h.ok⟩
theorem CutS.setPk (h : CutS w0 sz bp vs q A1 n1 c1 lf v es W) (k : Nat) (u : Value) (e : (pktT q A1 n1 c1).set k u = pktT q' A1' n1' c1') (hs : q'.s = q.s ∧ q'.a = q.a ∧ q'.t = q.t ∧ q'.b = q.b) (ho' : q'.Ok) : CutS w0 sz bp vs q' A1' n1' c1' lf v es (W.setCell ⟨bp, 34 + k, none⟩ u) := by
  have ho : ∀ g, g ≠ bp → (W.setCell ⟨bp, 34 + k, none⟩ u).heap[g]? = W.heap[g]? := fun g hg => Below.heap_setCell _ _ _ _ hg
  have Q : Qb w0 W bp q A1 n1 c1 := ⟨h.row, h.bel, h.lt0, h.ok⟩
  exact ⟨h.bel.setCell (p := ⟨bp, 34 + k, none⟩) h.lt0 _, h.lt0, (ho _ (by omega)).trans h.bs, (ho _ (by omega)).trans h.bn, (ho _ (by omega)).trans h.left, (Q.set_ k u e hs ho').row, (ho _ (by omega)).trans h.var,
    h.own.keep fun g g1 _ => ho g (by omega), fun e he => ⟨(h.lds e he).1.keep fun g g1 _ => ho g (by omega), (h.lds e he).2⟩, ho'⟩
theorem CutS.below (h : CutS w0 sz bp vs q A1 n1 c1 lf v es W) (hb : Below W.heap.size W W2) : CutS w0 sz bp vs q A1 n1 c1 lf v es W2 := by
  have hk : ∀ {g : Nat} {o : Obj}, W.heap[g]? = some o → W2.heap[g]? = some o := fun h9 => (hb.block _ (Array.getElem?_eq_some_iff.1 h9).1).trans h9
  exact ⟨h.bel.trans (hb.mono h.bel.size), h.lt0, hk h.bs, hk h.bn, hk h.left, hk h.row, hk h.var, h.own.below hb, fun e he => ⟨(h.lds e he).1.below hb, (h.lds e he).2⟩, h.ok⟩
theorem CutS.app (h : CutS w0 sz bp vs q A1 n1 c1 lf v es W) (hg : W.grownBy W2 v.ownBlock) (O : OwnK W2 (bp + 5) v2 es2) (hl : ∀ e ∈ es2, memC.Own .u8 5 W2 (bp + 5) (.slice e.A e.n e.c) e.x ∧ e.Ok) : CutS w0 sz bp vs q A1 n1 c1 lf v2 es2 (W2.setCell ⟨bp + 1, 0, none⟩ v2) := by
  have ho : ∀ g, g ≠ bp + 1 → (W2.setCell ⟨bp + 1, 0, none⟩ v2).heap[g]? = W2.heap[g]? := fun g hg => Below.heap_setCell _ _ _ _ hg
  have hk : ∀ {g : Nat} {o : Obj}, g < bp + 5 → W.heap[g]? = some o → W2.heap[g]? = some o := fun {g o} h5 h9 => (hg.block _ (Array.getElem?_eq_some_iff.1 h9).1 (fun e => by
    have := (h.own.blk g e.symm).1
    omega)).trans h9
  have hv : W2.heap[bp + 1]? = some (.cells #[v] 30 (0, 0)) := hk (by omega) h.var
  exact ⟨(h.bel.grown hg h.bel.size (fun k e => by have := (h.own.blk k e).1; have := h.lt0; omega)).setCell (p := ⟨bp + 1, 0, none⟩) (by have := h.lt0; show w0.heap.size ≤ bp + 1; omega) _, h.lt0,
    (ho _ (by omega)).trans (hk (by omega) h.bs), (ho _ (by omega)).trans (hk (by omega) h.bn), (ho _ (by omega)).trans (hk (by omega) h.left), (ho _ (by omega)).trans (hk (by omega) h.row), heap_setCell_same W2 (bp + 1) 0 _ _ _ hv,
    O.keep fun g g1 _ => ho g (by omega), fun e he => ⟨(hl e he).1.keep fun g g1 _ => ho g (by omega), (hl e he).2⟩, h.ok⟩
end
/-- .. between two rounds -/
def CutI (w0 : World) (p : Pkt) (xs : List Int) (sz bp : Nat) (vs : Value) (pre : List Nat) (W : World) : Prop :=
  ∃ (A' : Option Addr) (n' c' : Nat) (mo : Bool) (v : Value) (es : List Pe), CutS w0 sz bp vs { p with whole := false, off := (sumC xs.length sz pre : Nat), more := mo } A' n' c' ((xs.length : Int) - (sumC xs.length sz pre : Nat)) v es W ∧ es.map Pe.pc = pcsC p xs sz 0 pre
theorem CutI.own {w0 : World} {p : Pkt} {xs : List Int} {sz bp B : Nat} {vs : Value} (hB : w0.heap.size ≤ B) : OwnFrom B (fun pre W => CutI w0 p xs sz bp vs pre W) := by
  intro pre W W' row h hg hr
  have hr' : ∀ r, row = some r → ∃ o : Obj, W.heap[r]? = some o ∧ o.isCells = false := fun r e => (hr r e).2
  obtain ⟨A', n', c', mo, v, es, h, he⟩ := h
  exact ⟨A', n', c', mo, v, es, ⟨h.bel.grown hg h.bel.size (fun k e => Nat.le_trans hB (hr k e).1), h.lt0, row_grown h.bs hg hr', row_grown h.bn hg hr', row_grown h.left hg hr', row_grown h.row hg hr', row_grown h.var hg hr', own_row_grown h.own hg hr', fun e he => ⟨own_row_grown (h.lds e he).1 hg hr', (h.lds e he).2⟩, h.ok⟩, he⟩
set_option maxRecDepth 100000 in
set_option maxHeartbeats 4000000 in
theorem ccut_any (p : Pkt) (A : Option Addr) (n c : Nat) (xs : List Int) (sz N : Nat) (w : World) (hp : p.Ok) (hx : Nums .u8 w w.heap.size A n xs) (hy : ∀ x ∈ xs, Byte x) (hnc : n ≤ c) (hcm : c ≤ 9223372036854775807) (hn : n ≤ 2000) (h0 : p.off = 0) (hsz : 0 < sz) (hs1 : sz ≤ 100000) (hN : ∀ i, i < N ↔ i * sz < xs.length) :
    Calls Try.prog 24 #[.agg (pktV p A n c), .int .i64 (sz : Int)] w fun e w' => ∃ A' k c' es, e = .returned (.slice A' k c') ∧ PksE w' w'.heap.size A' k es ∧ es.map Pe.pc = pcsC p xs sz 0 (List.range N) ∧ Below w.heap.size w w' := by
  refine (callsIn_wide (n := 3)).1 (callsIn_of_wp_marks Try.func24 rfl trivial ?_ rfl)
  refine wpIn_wide.2 ?_
  simp only [Try.ntmps24, List.size_toArray, List.length_cons, List.length_nil, Nat.reduceAdd, Nat.reduceSub, Array.replicate_succ, Array.replicate_zero, List.push_toArray, List.append_toArray, List.nil_append, List.cons_append]
  obtain ⟨W, hW⟩ : ∃ W, W = w.alloc (.cells (pktV p A n c) 28) := ⟨_, rfl⟩
  have R := Lib.hid (show W.heap[w.heap.size]? = some (.cells (pktV p A n c) 28 (0, 0)) by rw [hW]; exact heap_alloc_new _ _)
  have HB := Lib.hid (show Below w.heap.size w W by rw [hW]; exact alloc_below _ _)
  have HWs := Lib.hid (show W.heap.size = w.heap.size + 1 by rw [hW]; simp)
  have HX := Lib.hid hx
  have HP := Lib.hid hp
  go_upto_region 1 with fail
  rw [← hW]
  clear hW
  obtain ⟨bp, hbp⟩ : ∃ q, q = w.heap.size := ⟨_, rfl⟩
  obtain ⟨bt, hbt⟩ : ∃ q, q = W.heap.size := ⟨_, rfl⟩
  have Q0 := Lib.hid (show Qb w W bp p A n c from ⟨by rw [hbp]; exact R.out, HB.out, by rw [hbp]; exact Nat.le_refl _, HP.out⟩)
  have HBP := Lib.hid hbp
  have HBT := Lib.hid (show bt = bp + 1 by rw [hbt, HWs.out, hbp])
  rw [← hbp]
  go_upto_region 2 with fail
  obtain ⟨W1, hW1⟩ : ∃ q, q = W.alloc (.cells #[.slice none 0 0] 30) := ⟨_, rfl⟩
  have B1 := Lib.hid (show Below W.heap.size W W1 by rw [hW1]; exact alloc_below _ _)
  have Q1 := Lib.hid (Q0.out.below B1.out)
  have T1 := Lib.hid (show W1.heap[bt]? = some (.cells #[.slice none 0 0] 30 (0, 0)) by rw [hW1, hbt]; exact heap_alloc_new _ _)
  have S1 := Lib.hid (show W1.heap.size = bt + 1 by rw [hW1, hbt]; simp)
  rw [← hW1, ← hbt]
  clear hW1 hbt hbp
  obtain ⟨bl, hbl⟩ : ∃ q, q = W1.heap.size := ⟨_, rfl⟩
  have c40 := Q1.out.cell 6 _ rfl
  go_upto_region 3 with fail
  clear c40
  obtain ⟨W2, hW2⟩ : ∃ q, q = W1.alloc (.cells #[.int .i64 (n : Int)] 3) := ⟨_, rfl⟩
  have B2 := Lib.hid (show Below W1.heap.size W1 W2 by rw [hW2]; exact alloc_below _ _)
  have Q2 := Lib.hid (Q1.out.below B2.out)
  have T2 := Lib.hid (show W2.heap[bt]? = some (.cells #[.slice none 0 0] 30 (0, 0)) by rw [B2.out.block bt (by have := S1.out; omega)]; exact T1.out)
  have L2 := Lib.hid (show W2.heap[bl]? = some (.cells #[.int .i64 (n : Int)] 3 (0, 0)) by rw [hW2, hbl]; exact heap_alloc_new _ _)
  have S2 := Lib.hid (show W2.heap.size = bl + 1 by rw [hW2, hbl]; simp)
  have HBL := Lib.hid (show bl = bp + 2 by have := S1.out; have := HBT.out; omega)
  rw [← hW2, ← hbl]
  clear hW2 hbl B1 B2 Q0 Q1 T1 S1
  have c37 := Q2.out.cell 3 _ rfl
  have f37 := Q2.out.frozen 3
  go_upto_region 4 with fail
  clear c37 f37
  obtain ⟨W3, hW3⟩ : ∃ q, q = W2.setCell ⟨bp, 37, none⟩ (.bool false) := ⟨_, rfl⟩
  have Q3 := Lib.hid (show Qb w W3 bp { p with whole := false } A n c by rw [hW3]; exact Q2.out.set_ 3 (.bool false) rfl ⟨rfl, rfl, rfl, rfl⟩ ⟨HP.out.la, HP.out.lb, HP.out.ya, HP.out.yb, HP.out.proto, HP.out.hops, HP.out.id, HP.out.off⟩)
  have T3 := Lib.hid (show W3.heap[bt]? = some (.cells #[.slice none 0 0] 30 (0, 0)) by rw [hW3, Below.heap_setCell _ _ _ _ (by show bt ≠ bp; have := HBT.out; omega)]; exact T2.out)
  have L3 := Lib.hid (show W3.heap[bl]? = some (.cells #[.int .i64 (n : Int)] 3 (0, 0)) by rw [hW3, Below.heap_setCell _ _ _ _ (by show bl ≠ bp; have := HBL.out; omega)]; exact L2.out)
  have S3 := Lib.hid (show W3.heap.size = bl + 1 by rw [hW3, ← S2.out]; simp)
  rw [← hW3]
  clear hW3 Q2 T2 L2 S2
  have c40 := Q3.out.cell 6 _ rfl
  have CH := Lib.hid (chunk_any A n c sz W3 hsz (by omega))
  go_wp2_with (go_at_call 37; refine CH.out.mono ?_; rintro e w4 ⟨rfl, hw4⟩; have HW4 := Lib.hid hw4; clear hw4)
  clear c40 CH
  have hw4 := HW4.out
  clear HW4
  have S4 := Lib.hid (show w4.heap.size = bl + 3 by rw [hw4]; simp [S3.out])
  have B4 := Lib.hid (show Below W3.heap.size W3 w4 by rw [hw4]; exact ((Below.refl _ W3).alloc (Nat.le_refl _) _).alloc (by simp) _)
  have Bs4 := Lib.hid (show w4.heap[W3.heap.size]? = some (.cells #[.slice A n c] 26 (0, 0)) by rw [hw4, (alloc_below _ _).block _ (by simp)]; exact heap_alloc_new _ _)
  have Bn4 := Lib.hid (show w4.heap[W3.heap.size + 1]? = some (.cells #[.int .i64 (sz : Int)] 3 (0, 0)) by
    rw [hw4]
    have := heap_alloc_new (W3.alloc (.cells #[.slice A n c] 26)) (.cells #[.int .i64 (sz : Int)] 3)
    rwa [World.size_alloc] at this)
  have Q4 := Lib.hid (Q3.out.below B4.out)
  have T4 := Lib.hid (show w4.heap[bt]? = some (.cells #[.slice none 0 0] 30 (0, 0)) by rw [B4.out.block bt (by have := S3.out; have := HBT.out; have := HBL.out; omega)]; exact T3.out)
  have L4 := Lib.hid (show w4.heap[bl]? = some (.cells #[.int .i64 (n : Int)] 3 (0, 0)) by rw [B4.out.block bl (by have := S3.out; omega)]; exact L3.out)
  have hl := hx.len
  have e0 : ({ p with whole := false, off := ((0 : Nat) : Int), more := p.more } : Pkt) = { p with whole := false } := by
    rw [show ((0 : Nat) : Int) = p.off from h0.symm]
  have EB := Lib.hid (show W3.heap.size = bp + 3 ∧ bl = bp + 2 ∧ bt = bp + 1 from ⟨by rw [S3.out, HBL.out], HBL.out, HBT.out⟩)
  have I0 := Lib.hid (show CutI w p xs sz bp (.slice A n c) [] w4 from
    ⟨A, n, c, p.more, .slice none 0 0, [], ⟨Q4.out.bel, Q4.out.lt, by rw [← EB.out.1]; exact Bs4.out, by rw [show bp + 4 = W3.heap.size + 1 by rw [EB.out.1]]; exact Bn4.out, by rw [← EB.out.2.1, L4.out, hl]; simp [sumC], by rw [show sumC xs.length sz [] = 0 from rfl, e0]; exact Q4.out.row, by rw [← EB.out.2.2]; exact T4.out, OwnK.nil _ _, by simp, by rw [show sumC xs.length sz [] = 0 from rfl, e0]; exact Q4.out.ok⟩, rfl⟩)
  have HBE := Lib.hid (show bp = w.heap.size from HBP.out)
  have HS4 := Lib.hid (show W3.heap.size + 2 ≤ w4.heap.size ∧ w.heap.size ≤ w4.heap.size by rw [S4.out, S3.out]; have := Q4.out.bel.size; rw [S4.out] at this; omega)
  have HNL := Lib.hid (show N ≤ 2000 by have := chunks_le hsz hN; omega)
  have HC := Lib.hid hcm
  have HL := Lib.hid hl
  have HSZ := Lib.hid (show 0 < sz ∧ sz ≤ 100000 ∧ n ≤ 2000 ∧ n ≤ c from ⟨hsz, hs1, hn, hnc⟩)
  have HY := Lib.hid hy
  have HST := Lib.hid (chunk_stops 2 W3.heap.size (W3.heap.size + 1) A n c sz N hsz hs1 (by omega) hnc hcm (by rw [← hl]; exact hN) w4 Bs4.out Bn4.out)
  clear Q3 T3 L3 S3 B4 Bs4 Bn4 Q4 T4 L4 e0 hl hw4 hx hp hy hcm hsz hs1 hn hnc h0 hN R HB HWs S4
  generalize W3.heap.size = Bs at *
  obtain ⟨rfl, rfl, rfl⟩ := EB.out
  clear EB HBT HBL
  refine (wpIn_wide (n := 3)).1 ?_
  refine wpIn_rangeFunc_ownF (n := 3) (N := N) (encs := fun x : Nat => #[chV A n sz x]) (Kp := Kb (bp + 3) (bp + 3 + 1)) rfl (by decide) (gf := 54) (lb := #[.pointer (some ⟨bp + 3, 0, none⟩), .pointer (some ⟨bp + 3 + 1, 0, none⟩)]) rfl trivial (enters_of Try.func54 (by kernel_rfl) rfl)
    HST.out (fun h k => Kb.trans h k) (fun W' l o o' hl ho _ _ => ⟨World.putObj_heap_other (by have := HS4.out; omega), World.putObj_heap_other (by have := HS4.out; omega)⟩) (Below.refl _ _) (fun _ => rfl)
    (fun pre W' => CutI w p xs sz bp (.slice A n c) pre W') (fun _ _ _ => False)
    (CutI.own HS4.out.2) (fun _ _ _ _ _ hs _ _ => hs) I0.out
    (fun x => { tmps := #[.agg (pktV p A n c), .int .i64 (sz : Int), .pointer (some ⟨bp, 0, none⟩), undef, .slice none 0 0, .pointer (some ⟨bp + 1, 0, none⟩), .pointer (some ⟨bp + 2, 0, none⟩), chV A n sz x, .pointer (some ⟨bp, 40, none⟩), .slice A n c, .int .i64 (n : Int), .pointer (some ⟨bp, 37, none⟩), .pointer (some ⟨bp, 40, none⟩), .slice A n c, .int .i64 (sz : Int), .func (.func 54) #[] #[.pointer (some ⟨bp + 3, 0, none⟩), .pointer (some ⟨bp + 3 + 1, 0, none⟩)], chV A n sz x, undef, undef, undef, undef, undef, undef, undef, undef, undef, undef, undef, undef, undef, undef, undef, undef, undef, undef, undef, undef, undef], defers := [] }) ?assign ?body ?done ?stop
  case assign =>
    intro l x W' K hK
    gi_wp2
    exact hK
  case body =>
    intro l pre x W' hI hlen
    obtain ⟨A1, n1, c1, mo, v, es, hS, h4⟩ := hI
    have XW := (HX.out.below hS.bel).more hS.bel.size
    obtain ⟨A8, c8, e8, -, -, -⟩ := hS.own.form (fun e he => (hS.lds e he).2.p)
    subst e8
    obtain ⟨A2, m, hv, hm, hnx⟩ := chunk_nums (sz := sz) (x := x) XW
    rw [hv]
    obtain ⟨o, ho⟩ : ∃ q, q = sumC xs.length sz pre := ⟨_, rfl⟩
    have hob : o ≤ 4000000 := by
      have q1 := sumC_le xs.length sz pre
      have q2 : pre.length * xs.length ≤ 2000 * 2000 := Nat.mul_le_mul (by have := HNL.out; omega) (by rw [HL.out]; exact HSZ.out.2.2.1)
      omega
    have hmb : m ≤ 2000 := by rw [hm]; exact Nat.le_trans (lenC_le _ _ _) HSZ.out.2.2.1
    obtain ⟨lf, hlf⟩ : ∃ q, q = (xs.length : Int) - (o : Nat) := ⟨_, rfl⟩
    obtain ⟨lf2, hlf2⟩ : ∃ q, q = lf - (m : Int) := ⟨_, rfl⟩
    obtain ⟨o2, ho2⟩ : ∃ q, q = o + m := ⟨_, rfl⟩
    have hsub : lf - (m : Int) = lf2 := hlf2.symm
    have wsub : IntKind.i64.wrap lf2 = lf2 := IntWalk.i64_in _ (by rw [hlf2, hlf, HL.out]; have := HSZ.out; omega)
    rw [← ho, ← hlf] at hS
    have SI := Lib.hid hS
    have c6 : W'.cell? ⟨bp + 2, 0, none⟩ = some (.int .i64 lf) := cell_of_row W' (bp + 2) 0 _ _ (0, 0) hS.left
    have f6 : W'.frozen? ⟨bp + 2, 0, none⟩ = false := frozen_of_row W' (bp + 2) 0 _ _ hS.left
    have H4 := Lib.hid h4
    have HV := Lib.hid hv
    have HNUM := Lib.hid (show o ≤ 4000000 ∧ m ≤ 2000 ∧ lf = (n : Int) - o ∧ lf2 = lf - m ∧ o2 = o + m from ⟨hob, hmb, by rw [hlf, HL.out], hlf2, ho2⟩)
    have HM := Lib.hid hm
    have HO := Lib.hid ho
    have HPL := Lib.hid hlen
    clear hS h4 hnx hm ho hob hmb hlf hlf2 ho2 XW hv hlen
    refine wpIn_block ?_
    refine wpIn_seq_k fun K6 hK6 => round_region rfl (by rintro ⟨_, _, h⟩; exact h) ?_
    go_wp2_with fail
    clear c6 f6 hsub wsub
    obtain ⟨W6, hW6⟩ : ∃ q, q = W'.setCell ⟨bp + 2, 0, none⟩ (.int .i64 lf2) := ⟨_, rfl⟩
    have S6 := Lib.hid (show CutS w sz bp (.slice A n c) { p with whole := false, off := (o : Nat), more := mo } A1 n1 c1 lf2 (.slice A8 es.length c8) es W6 by rw [hW6]; exact SI.out.setLeft lf2)
    have K6' := Lib.hid (show KeepsOthers W' W6 by rw [hW6]; exact KeepsOthers.setCell _ _ _)
    rw [← hW6]
    clear hW6
    have c6 : W6.cell? ⟨bp + 2, 0, none⟩ = some (.int .i64 lf2) := cell_of_row W6 (bp + 2) 0 _ _ (0, 0) S6.out.left
    have Q6 : Qb w W6 bp { p with whole := false, off := (o : Nat), more := mo } A1 n1 c1 := ⟨S6.out.row, S6.out.bel, S6.out.lt0, S6.out.ok⟩
    have c38 := Q6.cell 4 _ rfl
    have f38 := Q6.frozen 4
    clear Q6
    refine wpIn_seq_k fun K7 hK7 => round_region rfl (by rintro ⟨_, _, h⟩; exact h) ?_
    go_wp2_with fail
    clear c6 c38 f38
    obtain ⟨mo2, hmo2⟩ : ∃ q, q = decide (0 < lf2) := ⟨_, rfl⟩
    rw [← hmo2]
    obtain ⟨W7, hW7⟩ : ∃ q, q = W6.setCell ⟨bp, 38, none⟩ (.bool mo2) := ⟨_, rfl⟩
    have S7 := Lib.hid (show CutS w sz bp (.slice A n c) { p with whole := false, off := (o : Nat), more := mo2 } A1 n1 c1 lf2 (.slice A8 es.length c8) es W7 by rw [hW7]; exact S6.out.setPk 4 (.bool mo2) rfl ⟨rfl, rfl, rfl, rfl⟩ ⟨S6.out.ok.la, S6.out.ok.lb, S6.out.ok.ya, S6.out.ok.yb, S6.out.ok.proto, S6.out.ok.hops, S6.out.ok.id, S6.out.ok.off⟩)
    have K7' := Lib.hid (show KeepsOthers W' W7 by rw [hW7]; exact K6'.out.trans (KeepsOthers.setCell _ _ _))
    rw [← hW7]
    have HMO := Lib.hid hmo2
    clear hW7 S6 K6' hmo2
    obtain ⟨zs, hzs⟩ : ∃ q, q = (xs.drop (x * sz)).take sz := ⟨_, rfl⟩
    have NX := Lib.hid (show Nums .u8 W7 W7.heap.size A2 m zs by rw [hzs]; exact chunk_at ((HX.out.below S7.out.bel).more S7.out.bel.size) HV.out)
    have HZL := Lib.hid (show zs.length = m from NX.out.len)
    have HYZ := Lib.hid (show ∀ y ∈ zs, Byte y by rw [hzs]; exact fun y hy => HY.out y (List.mem_of_mem_drop (List.mem_of_mem_take hy)))
    have HZS := Lib.hid hzs
    clear hzs
    have CC := Lib.hid (octC.clone_any A2 m m zs W7 NX.out (by have := HNUM.out; omega))
    have F8 := Lib.hid (fun (W8 : World) (h : Below W7.heap.size W7 W8) => S7.out.below h)
    have F8c := Lib.hid (fun (W8 : World) (h : CutS w sz bp (.slice A n c) { p with whole := false, off := (o : Nat), more := mo2 } A1 n1 c1 lf2 (.slice A8 es.length c8) es W8) => ((⟨h.row, h.bel, h.lt0, h.ok⟩ : Qb w W8 bp _ A1 n1 c1).cell 6 _ rfl))
    have F8f := Lib.hid (fun (W8 : World) (h : CutS w sz bp (.slice A n c) { p with whole := false, off := (o : Nat), more := mo2 } A1 n1 c1 lf2 (.slice A8 es.length c8) es W8) => ((⟨h.row, h.bel, h.lt0, h.ok⟩ : Qb w W8 bp _ A1 n1 c1).frozen 6))
    refine wpIn_seq_k fun K8 hK8 => round_region rfl (by rintro ⟨_, _, h⟩; exact h) ?_
    go_wp2_with (go_at_call 23; refine CC.out.mono ?_; rintro e W8 ⟨A3, c3, rfl, O3, g31, g32, N3, B3⟩
                 rw [HZL.out] at O3 g31 N3 ⊢
                 have S8 := Lib.hid (F8.out W8 B3)
                 have c40 := F8c.out W8 S8.out
                 have f40 := F8f.out W8 S8.out
                 have HO3 := Lib.hid O3
                 have G3 := Lib.hid (show m ≤ c3 ∧ c3 ≤ 9223372036854775807 from ⟨g31, by unfold maxLen at g32; omega⟩)
                 have HB3 := Lib.hid B3
                 clear O3 g31 g32 N3 B3)
    clear c40 f40
    obtain ⟨W9, hW9⟩ : ∃ q, q = W8.setCell ⟨bp, 40, none⟩ (.slice A3 m c3) := ⟨_, rfl⟩
    obtain ⟨px, hpx⟩ : ∃ q, q = ({ p with whole := false, off := (o : Nat), more := mo2 } : Pkt) := ⟨_, rfl⟩
    have S9 := Lib.hid (show CutS w sz bp (.slice A n c) px A3 m c3 lf2 (.slice A8 es.length c8) es W9 by rw [hW9, hpx]; exact S8.out.setPk 6 (.slice A3 m c3) rfl ⟨rfl, rfl, rfl, rfl⟩ S7.out.ok)
    have K9' := Lib.hid (show KeepsOthers W' W9 by rw [hW9]; exact (K7'.out.trans ⟨HB3.out.size, fun k o9 hk _ => (HB3.out.block k (Array.getElem?_eq_some_iff.1 hk).1).trans hk⟩).trans (KeepsOthers.setCell _ _ _))
    have HO9 := Lib.hid (show memC.Own .u8 5 W9 (bp + 5) (.slice A3 m c3) zs by
      rw [hW9]
      refine memC.Own.keep (HO3.out.less (by have := S7.out.lt; omega)) fun g g1 _ => Below.heap_setCell _ _ _ _ (by show g ≠ bp; omega))
    rw [← hW9]
    have HPX := Lib.hid hpx
    clear hW9 hpx S7 K7' S8 F8 F8c F8f HO3 HB3 CC NX
    have ct := cell_of_row W9 (bp + 1) 0 _ _ (0, 0) S9.out.var
    have ft := frozen_of_row W9 (bp + 1) 0 _ _ S9.out.var
    obtain ⟨W10, hW10⟩ : ∃ q, q = W9.alloc (.cells (pktV px A3 m c3) 28) := ⟨_, rfl⟩
    have AB := Lib.hid (show Below W9.heap.size W9 W10 by rw [hW10]; exact alloc_below _ _)
    have S10 := Lib.hid (S9.out.below AB.out)
    have RK := Lib.hid (show RowK W10 W10.heap.size (some ⟨W9.heap.size, 0, none⟩) 1 [⟨px, A3, m, c3, zs⟩] from rowK1 (by rw [hW10]; exact heap_alloc_new _ _))
    have ct10 := cell_of_row W10 (bp + 1) 0 _ _ (0, 0) S10.out.var
    have ft10 := frozen_of_row W10 (bp + 1) 0 _ _ S10.out.var
    have HO10 := Lib.hid (HO9.out.below AB.out)
    have K10' := Lib.hid (show KeepsOthers W' W10 by rw [hW10]; exact K9'.out.trans (KeepsOthers.alloc _ _))
    have R9 := Lib.hid S9.out.row
    have ICX := Lib.hid (pkt_info S9.out.ok A3 m c3)
    have SCX := Lib.hid (show (pktV px A3 m c3).size = 41 from (pkC.pkC S9.out.ok A3 m c3).size)
    have LB := Lib.hid (show bp + 5 ≤ W10.heap.size by have := S10.out.lt; omega)
    have HEL := Lib.hid (show es.length = pre.length by
      have h9 := congrArg List.length H4.out
      rw [List.length_map] at h9
      rw [h9, pcsC_len])
    have HLE := Lib.hid (show es.length + 1 = (es ++ [(⟨px, A3, m, c3, zs⟩ : Pe)]).length by rw [List.length_append]; rfl)
    have HW10 := Lib.hid hW10
    clear hW10
    generalize hCX : pktV px A3 m c3 = CX at *
    refine wpIn_seq_k fun K9 hK9 => round_region rfl (by rintro ⟨_, _, h⟩; exact h) ?_
    go_wp2_with (first
      | (refine wpList_load_row rfl 28 (.tmp 2) rfl bp rfl _ _ _ _ R9.out Try.underlying28 rfl ICX.out ?_)
      | (refine wpList_sliceK rfl (.tmp 28) rfl CX rfl SCX.out ?_; rw [← HW10.out])
      | (at_builtin
         (refine wpList_appK _ rfl (.tmp 27) (.tmp 29) rfl (bp + 5) _ es rfl S10.out.own (fun e he => (S10.out.lds e he).2.p) _ _ 1 1 [⟨px, A3, m, c3, zs⟩] rfl RK.out (fun e he => by obtain rfl := List.mem_singleton.1 he; exact S10.out.ok) (by have := HEL.out; have := HPL.out; have := HNL.out; omega) (by decide) LB.out _ HLE.out ?_)
         intro A11 c11 W11 gl O11 B11 GR11
         have HO11 := Lib.hid O11
         have HG11 := Lib.hid GR11
         have ct11 : W11.cell? ⟨bp + 1, 0, none⟩ = some (.slice A8 es.length c8) := (B11.cell (p := ⟨bp + 1, 0, none⟩) (by show bp + 1 < bp + 5; omega)).trans ct10
         have ft11 : W11.frozen? ⟨bp + 1, 0, none⟩ = false := frozen_of_row W11 (bp + 1) 0 _ _ ((B11.block (bp + 1) (by omega)).trans S10.out.var)
         clear gl O11 B11 GR11))
    clear ct ft ct10 ft10
    obtain ⟨W12, hW12⟩ : ∃ q, q = W11.setCell ⟨bp + 1, 0, none⟩ (.slice A11 (es.length + 1) c11) := ⟨_, rfl⟩
    have S12 := Lib.hid (show CutS w sz bp (.slice A n c) px A3 m c3 lf2 (.slice A11 (es.length + 1) c11) (es ++ [⟨px, A3, m, c3, zs⟩]) W12 by
      rw [hW12]
      refine S10.out.app HG11.out (show OwnK W11 (bp + 5) (.slice A11 (es.length + 1) c11) (es ++ [⟨px, A3, m, c3, zs⟩]) by have h9 := HO11.out; rw [List.length_append] at h9; exact h9) fun e he => ?_
      rcases List.mem_append.1 he with h | h
      · exact ⟨own_grownK (S10.out.lds e h).1 S10.out.own HG11.out, (S10.out.lds e h).2⟩
      · obtain rfl := List.mem_singleton.1 h
        exact ⟨own_grownK HO10.out S10.out.own HG11.out, ⟨S10.out.ok, HYZ.out, G3.out.1, G3.out.2⟩⟩)
    have K12' := Lib.hid (show KeepsOthers W' W12 by
      rw [hW12]
      refine (K10'.out.trans (KeepsOthers.of_grownBy HG11.out fun j o9 hj ho9 => ?_)).trans (KeepsOthers.setCell _ _ _)
      rcases S10.out.own.2 with ⟨h9, -⟩ | ⟨g, cap, cur, h9, -, hh, -⟩
      · rw [h9] at hj; cases hj
      · rw [h9] at hj
        cases hj
        rw [hh] at ho9
        cases ho9
        rfl)
    rw [← hW12]
    clear hW12 ct11 ft11 S9 K9' HO9 R9 ICX SCX LB HLE HW10 HO11 HG11 S10 K10' HO10 AB RK
    have Q12 : Qb w W12 bp px A3 m c3 := ⟨S12.out.row, S12.out.bel, S12.out.lt0, S12.out.ok⟩
    have eo : px.off = (o : Nat) := by rw [HPX.out]
    have c39 := Q12.cell 5 _ rfl
    have f39 := Q12.frozen 5
    rw [eo] at c39
    have hadd : (o : Int) + (m : Int) = (o2 : Int) := by have := HNUM.out; omega
    have wo2 : IntKind.i64.wrap (o2 : Int) = (o2 : Int) := IntWalk.i64_in _ (by have := HNUM.out; omega)
    clear Q12 eo
    refine round_region rfl (by rintro ⟨_, _, h⟩; exact h) ?_
    go_wp2_with fail
    have S13 : CutS w sz bp (.slice A n c) { px with off := (o2 : Nat) } A3 m c3 lf2 (.slice A11 (es.length + 1) c11) (es ++ [⟨px, A3, m, c3, zs⟩]) (W12.setCell ⟨bp, 39, none⟩ (.int .i64 (o2 : Int))) :=
      S12.out.setPk 5 (.int .i64 (o2 : Int)) rfl ⟨rfl, rfl, rfl, rfl⟩ ⟨S12.out.ok.la, S12.out.ok.lb, S12.out.ok.ya, S12.out.ok.yb, S12.out.ok.proto, S12.out.ok.hops, S12.out.ok.id, by show -9223372036854775808 ≤ ((o2 : Nat) : Int) ∧ ((o2 : Nat) : Int) ≤ 9223372036854775807; have := HNUM.out; omega⟩
    have e2 : sumC xs.length sz (pre ++ [x]) = o2 := by rw [sumC_snoc, ← HO.out, HL.out, ← HM.out, HNUM.out.2.2.2.2]
    refine ⟨K12'.out.trans (KeepsOthers.setCell _ _ _), ⟨S13.bs.trans SI.out.bs.symm, S13.bn.trans SI.out.bn.symm⟩, A3, m, c3, mo2, .slice A11 (es.length + 1) c11, es ++ [⟨px, A3, m, c3, zs⟩], ?_, ?_⟩
    · rw [e2]
      have e3 : (xs.length : Int) - (o2 : Nat) = lf2 := by have := HNUM.out; have := HL.out; omega
      rw [e3]
      have e4 : ({ px with off := (o2 : Nat) } : Pkt) = { p with whole := false, off := (o2 : Nat), more := mo2 } := by rw [HPX.out]
      rw [← e4]
      exact S13
    · rw [List.map_append, H4.out, pcsC_snoc, Nat.zero_add, ← HO.out]
      congr 1
      show [(px, zs)] = [pcC p xs sz o x]
      unfold pcC
      rw [HPX.out, HZS.out, HMO.out]
      have e5 : decide (0 < lf2) = decide (o + lenC xs.length sz x < xs.length) := decide_eq_decide.2 (by rw [HL.out, ← HM.out]; have := HNUM.out; omega)
      rw [e5]
  case done =>
    rintro D ys W' hD rfl hI hK
    have hI2 := (CutI.own (w0 := w) (p := p) (xs := xs) (sz := sz) (bp := bp) (vs := .slice A n c) HS4.out.2).putObj (.deferred none) hI hD hK rfl
    obtain ⟨A1, n1, c1, mo, v, es, hS, h4⟩ := hI
    obtain ⟨A1', n1', c1', mo', v', es', hS', h4'⟩ := hI2
    have h2 := hS.var
    have ct : W'.cell? ⟨bp + 1, 0, none⟩ = some v := cell_of_row W' (bp + 1) 0 _ _ (0, 0) h2
    have ev : v' = v := by
      have e1 : (W'.putObj D (.deferred none)).heap[bp + 1]? = W'.heap[bp + 1]? := World.putObj_heap_other (by intro e; first | (rw [e] at h2; rw [hK] at h2; cases h2) | (rw [← e] at h2; rw [hK] at h2; cases h2))
      rw [hS'.var] at e1
      rw [h2] at e1
      injection e1 with e1
      injection e1 with e1 _ _
      injection e1 with e1
      injection e1 with e1
    subst ev
    obtain ⟨A9, c9, e9, g91, g92, RK⟩ := hS'.own.form (fun e he => (hS'.lds e he).2.p)
    subst e9
    have HF := Lib.hid (show ∃ A' k c' es, (Ending.returned (Value.slice A9 es'.length c9)) = .returned (.slice A' k c') ∧ PksE (W'.putObj D (.deferred none)) (W'.putObj D (.deferred none)).heap.size A' k es ∧ es.map Pe.pc = pcsC p xs sz 0 (List.range N) ∧ Below w.heap.size w (W'.putObj D (.deferred none)) from
      ⟨A9, _, c9, es', rfl, ⟨RK, fun e he => (hS'.lds e he).1.nums, fun e he => (hS'.lds e he).2⟩, h4', hS'.bel⟩)
    have HK := Lib.hid hK
    clear hS hS' h2 h4 h4' RK hK g91 g92
    go_wp2_with fail
    refine ⟨by simp, .inl ⟨_, _, rfl, run_takeDeferred HK.out, ?_⟩⟩
    exact ⟨_, results_tmp (t := 4) rfl _ _ _, HF.out⟩
  case stop =>
    rintro D c pre W' _ _ h _
    exact h.elim
end Go.Proofs.Ytcnnpfjommiafaa.fgC

/-
  The program's Cut.
-/
namespace Go.Proofs.Ytcnnpfjommiafaa.fgC
open Go.ChangeShapes Go.WideShapes Go.ChangeAt Go.RowKit
open Go.Proofs.Ytcnnpfjommiafaa.memC Go.Proofs.Ytcnnpfjommiafaa.genC Go.Proofs.Ytcnnpfjommiafaa.butC Go.Proofs.Ytcnnpfjommiafaa.freeC Go.Proofs.Ytcnnpfjommiafaa.adC
open Go.Proofs.Ytcnnpfjommiafaa.pkC (Pkt pktL pktV pktT adrC)
set_option linter.unusedVariables false
theorem id_ok {p : Pkt} {id : Int} (hp : p.Ok) (hid : 0 ≤ id ∧ id ≤ 4294967295) : 0 ≤ (if p.s = true then id else p.id) ∧ (if p.s = true then id else p.id) ≤ 4294967295 := by
  split
  · exact hid
  · exact hp.id
theorem pcs_pieces (p : Pkt) (id : Int) (xs : List Int) (sz N : Nat) (hs : 0 < sz) (hN : ∀ i, i < N ↔ i * sz < xs.length) : pcsC { p with id := if p.s = true then id else p.id } xs sz 0 (List.range N) = piecesP (p, xs) id sz xs.length 0 := by
  have h := pcsC_range { p with id := if p.s = true then id else p.id } xs sz N hs hN N 0 (by omega)
  rw [Nat.zero_mul] at h
  rw [range_zero, h, pieces_range (p, xs) id sz N hs hN, range_zero]
  rfl
set_option maxRecDepth 100000 in
set_option maxHeartbeats 8000000 in
theorem ccut_four_arg (p : Pkt) (A : Option Addr) (n c : Nat) (xs : List Int) (mtu id : Int) (w : World) (hp : p.Ok) (hx : Nums .u8 w w.heap.size A n xs) (hy : ∀ x ∈ xs, Byte x) (hnc : n ≤ c) (hcm : c ≤ 9223372036854775807) (hm : -9223372036854775808 ≤ mtu ∧ mtu ≤ 9223372036854775807) (hid : 0 ≤ id ∧ id ≤ 4294967295) (hn : n ≤ 2000) (hs : p.s = false) (ha : argP (p, xs) mtu = true) :
    Calls Try.prog 8 #[.agg (pktV p A n c), .int .i64 mtu, .int .u32 id] w (CutR w [] 1) := by
  have hl := hx.len
  obtain ⟨W, hW⟩ : ∃ W, W = w.alloc (.cells (pktV p A n c) 28) := ⟨_, rfl⟩
  have R := Lib.hid (show W.heap[w.heap.size]? = some (.cells (pktV p A n c) 28 (0, 0)) by rw [hW]; exact heap_alloc_new _ _)
  have HB := Lib.hid (show Below w.heap.size w W by rw [hW]; exact alloc_below _ _)
  have I := Lib.hid (pkt_info hp A n c)
  have OC := pkC.pkC hp A n c
  have KR := Lib.hid (fun w' (h : Gr W w') => (show w'.heap[w.heap.size]? = some (.cells (pktV p A n c) 28 (0, 0)) by rw [Below.block h _ (Array.getElem?_eq_some_iff.1 R.out).1]; exact R.out))
  have p0 := pkC.PkC.cell R.out (show (pktV p A n c)[0]? = some (.bool p.s) from OC.src 0 _ rfl)
  have KWH := Lib.hid (fun w' (h : Gr W w') => pkC.PkC.cell (KR.out w' h) OC.whole)
  have KLD := Lib.hid (fun w' (h : Gr W w') => pkC.PkC.cell (KR.out w' h) OC.load)
  have MC := Lib.hid (cmay_fg p A n c xs W hp hl (by omega))
  have WC := Lib.hid (fun w' => cwhole_fg p A n c xs w' hp)
  have GG := Lib.hid (show Gr W W from Below.refl _ _)
  unfold argP leastN at ha
  simp only [hs] at ha
  obtain ⟨ml, hml⟩ : ∃ b, decide (mtu < 28) = b := ⟨_, rfl⟩
  simp only [if_false, Bool.false_eq_true, Bool.false_and, Bool.or_false] at ha
  rw [hml] at ha
  generalize mayP (p, xs) = my at *
  generalize wholeP (p, xs) = wh at *
  rw [hs] at p0
  generalize p.whole = pw at *
  have h4 : my = false ∨ (my = true ∧ wh = false) ∨ (my = true ∧ wh = true ∧ ml = true) := by
    revert ha; cases my <;> cases wh <;> cases ml <;> simp
  generalize pktV p A n c = C at *
  have hml' : (ml = true → mtu < 28) ∧ (ml = false → ¬ mtu < 28) := ⟨fun h => of_decide_eq_true (hml.trans h), fun h => of_decide_eq_false (hml.trans h)⟩
  rcases h4 with rfl | ⟨rfl, rfl⟩ | ⟨rfl, rfl, rfl⟩
  all_goals
    first | have q1 := hml'.1 rfl | have q1 := hml'.2 rfl | skip
    clear hml' hs hp hx hy hnc hcm hl ha OC
    go_enter Try.func8, Try.ntmps8
    try simp only [List.append_eq, List.cons_append, List.nil_append]
    go_upto_region 1 with fail
    rw [← hW]
    clear hW
    go_wp2_with (first
      | go_skip
      | (go_at_call 20; refine (heads_four _).mono ?_; rintro e w2 ⟨rfl, hw⟩; obtain rfl := hw.symm)
      | (with_reducible refine atC.at_load 28 3 ?_; refine wpList_load_rowG (by kernel_rfl) 28 (.tmp 3) rfl (w.heap.size) (by kernel_rfl) _ _ _ _ (KR.out _ GG.out) Try.underlying28 rfl I.out ?_)
      | (go_at_call 21; refine MC.out.mono ?_; rintro e w2 ⟨rfl, hb⟩
         have G2 := Lib.hid (show Gr W w2 from hb)
         clear hb)
      | (with_reducible refine atC.at_load 28 3 ?_; refine wpList_load_rowG (by kernel_rfl) 28 (.tmp 3) rfl (w.heap.size) (by kernel_rfl) _ _ _ _ (KR.out _ G2.out) Try.underlying28 rfl I.out ?_)
      | (go_at_call 22; refine (WC.out w2).mono ?_; rintro e w3 ⟨rfl, hb⟩
         have G3 := Lib.hid (show Gr W w3 from G2.out.trans (hb.mono G2.out.size))
         have kw := KWH.out w3 G3.out
         have kl := KLD.out w3 G3.out
         clear hb))
    go_ret2
    first
      | exact ⟨none, 0, 0, [], rfl, PksE.none_, rfl, HB.out.trans (Below.mono G3.out HB.out.size)⟩
      | exact ⟨none, 0, 0, [], rfl, PksE.none_, rfl, HB.out.trans (Below.mono G2.out HB.out.size)⟩
set_option maxRecDepth 100000 in
set_option maxHeartbeats 8000000 in
theorem ccut_four_ok (p : Pkt) (A : Option Addr) (n c : Nat) (xs : List Int) (mtu id : Int) (w : World) (hp : p.Ok) (hx : Nums .u8 w w.heap.size A n xs) (hy : ∀ x ∈ xs, Byte x) (hnc : n ≤ c) (hcm : c ≤ 9223372036854775807) (hm : -9223372036854775808 ≤ mtu ∧ mtu ≤ 9223372036854775807) (hid : 0 ≤ id ∧ id ≤ 4294967295) (hn : n ≤ 2000) (hs : p.s = false) (ha : argP (p, xs) mtu = false) :
    Calls Try.prog 8 #[.agg (pktV p A n c), .int .i64 mtu, .int .u32 id] w (CutR w (cutL (p, xs) mtu id) (cutE (p, xs) mtu)) := by
  have hl := hx.len
  obtain ⟨W, hW⟩ : ∃ W, W = w.alloc (.cells (pktV p A n c) 28) := ⟨_, rfl⟩
  have R := Lib.hid (show W.heap[w.heap.size]? = some (.cells (pktV p A n c) 28 (0, 0)) by rw [hW]; exact heap_alloc_new _ _)
  have HB := Lib.hid (show Below w.heap.size w W by rw [hW]; exact alloc_below _ _)
  have I := Lib.hid (pkt_info hp A n c)
  have OC := pkC.pkC hp A n c
  have KR := Lib.hid (fun w' (h : Gr W w') => (show w'.heap[w.heap.size]? = some (.cells (pktV p A n c) 28 (0, 0)) by rw [Below.block h _ (Array.getElem?_eq_some_iff.1 R.out).1]; exact R.out))
  have p0 := pkC.PkC.cell R.out (show (pktV p A n c)[0]? = some (.bool p.s) from OC.src 0 _ rfl)
  have KWH := Lib.hid (fun w' (h : Gr W w') => pkC.PkC.cell (KR.out w' h) OC.whole)
  have KLD := Lib.hid (fun w' (h : Gr W w') => pkC.PkC.cell (KR.out w' h) OC.load)
  have MC := Lib.hid (cmay_fg p A n c xs W hp hl (by omega))
  have WC := Lib.hid (fun w' => cwhole_fg p A n c xs w' hp)
  have GG := Lib.hid (show Gr W W from Below.refl _ _)
  unfold cutL cutE
  rw [ha]
  simp only [Bool.false_eq_true, if_false]
  have hb4 : mayP (p, xs) = true ∧ wholeP (p, xs) = true ∧ ¬ mtu < 28 := by
    unfold argP leastN at ha
    rw [hs] at ha
    simp only [if_false, Bool.false_eq_true, Bool.false_and, Bool.or_false] at ha
    revert ha
    cases mayP (p, xs) <;> cases wholeP (p, xs) <;> simp
  obtain ⟨h1, h2, h3⟩ := hb4
  simp only [h1] at MC
  simp only [h2] at WC
  have q1 : ¬ mtu < 28 := h3
  have q1b : decide (mtu < 28) = false := decide_eq_false h3
  rw [hs] at p0
  obtain ⟨ft, hft⟩ : ∃ f, fitsP (p, xs) mtu = f := ⟨_, rfl⟩
  rw [hft]
  unfold fitsP headN at hft
  simp only [hs, hl] at hft
  simp only [if_false, Bool.false_eq_true] at hft
  obtain ⟨H, hH⟩ : ∃ H, H = 20 + n := ⟨_, rfl⟩
  have hHa : (20 : Int) + (n : Int) = (H : Int) := by omega
  have wH : IntKind.i64.wrap (H : Int) = (H : Int) := IntWalk.i64_in _ (by omega)
  cases ft
  rotate_left
  · have q7 : (H : Int) ≤ mtu := by have := of_decide_eq_true hft; omega
    have q7b : decide ((H : Int) ≤ mtu) = true := decide_eq_true q7
    rw [if_pos rfl, if_pos rfl]
    have XN := Lib.hid (fun w' (h : Gr W w') => (show Nums .u8 w' w'.heap.size A n xs from (hx.below (HB.out.trans (Below.mono h HB.out.size))).more (Nat.le_trans HB.out.size (Below.size h))))
    have HOK := Lib.hid hp
    have HYX := Lib.hid hy
    have HL := Lib.hid hl
    obtain ⟨C, hC⟩ : ∃ C, C = pktV p A n c := ⟨_, rfl⟩
    simp only [← hC] at R KR MC WC I hW ⊢
    have HC := Lib.hid hC
    clear hC hs hp hx hy hnc hcm hl OC hft h1 h2 h3 hH
    go_enter Try.func8, Try.ntmps8
    try simp only [List.append_eq, List.cons_append, List.nil_append]
    go_upto_region 1 with fail
    rw [← hW]
    clear hW
    go_upto_region 6 with (first
      | go_skip
      | (go_at_call 20; refine (heads_four _).mono ?_; rintro e w2 ⟨rfl, hw⟩; obtain rfl := hw.symm)
      | (with_reducible refine atC.at_load 28 3 ?_; refine wpList_load_rowG (by kernel_rfl) 28 (.tmp 3) rfl (w.heap.size) (by kernel_rfl) _ _ _ _ (KR.out _ GG.out) Try.underlying28 rfl I.out ?_)
      | (go_at_call 21; refine MC.out.mono ?_; rintro e w2 ⟨rfl, hb⟩
         have G2 := Lib.hid (show Gr W w2 from hb)
         clear hb)
      | (with_reducible refine atC.at_load 28 3 ?_; refine wpList_load_rowG (by kernel_rfl) 28 (.tmp 3) rfl (w.heap.size) (by kernel_rfl) _ _ _ _ (KR.out _ G2.out) Try.underlying28 rfl I.out ?_)
      | (go_at_call 22; refine (WC.out w2).mono ?_; rintro e w3 ⟨rfl, hb⟩
         have G3 := Lib.hid (show Gr W w3 from G2.out.trans (hb.mono G2.out.size))
         have kw := KWH.out w3 G3.out
         have kl := KLD.out w3 G3.out
         clear hb))
    clear q1 q1b q7 q7b hHa wH kw
    have Q3 := Lib.hid (show Qb w w3 w.heap.size p A n c from ⟨by rw [← HC.out]; exact KR.out w3 G3.out, HB.out.trans (Below.mono G3.out HB.out.size), Nat.le_refl _, HOK.out⟩)
    have CC := Lib.hid (octC.clone_any A n c xs w3 (XN.out w3 G3.out) (by omega))
    go_upto_region 7 with (go_at_call 23; refine CC.out.mono ?_; rintro e W8 ⟨A3, c3, rfl, O3, g31, g32, N3, B3⟩
                           rw [HL.out] at O3 g31 N3 ⊢
                           have Q8 := Lib.hid (Q3.out.below B3)
                           have c40 := Q8.out.cell 6 _ rfl
                           have f40 := Q8.out.frozen 6
                           have HO3 := Lib.hid O3
                           have G3c := Lib.hid (show n ≤ c3 ∧ c3 ≤ 9223372036854775807 from ⟨g31, by unfold maxLen at g32; omega⟩)
                           have HB3 := Lib.hid B3
                           clear O3 g31 g32 N3 B3)
    clear c40 f40
    obtain ⟨W9, hW9⟩ : ∃ q, q = W8.setCell ⟨w.heap.size, 40, none⟩ (.slice A3 n c3) := ⟨_, rfl⟩
    have Q9 := Lib.hid (show Qb w W9 w.heap.size p A3 n c3 by rw [hW9]; exact Q8.out.set_ 6 (.slice A3 n c3) rfl ⟨rfl, rfl, rfl, rfl⟩ HOK.out)
    have HO9 := Lib.hid (show memC.Own .u8 5 W9 w3.heap.size (.slice A3 n c3) xs by
      rw [hW9]
      refine memC.Own.keep HO3.out fun g g1 _ => Below.heap_setCell _ _ _ _ (by show g ≠ w.heap.size; have := Q3.out.bel.size; have := (Array.getElem?_eq_some_iff.1 Q3.out.row).1; omega))
    rw [← hW9]
    have SC := Lib.hid (show (pktV p A3 n c3).size = 41 from (pkC.pkC HOK.out A3 n c3).size)
    have I9 := Lib.hid (pkt_info HOK.out A3 n c3)
    have R9 := Lib.hid Q9.out.row
    clear hW9 kl p0
    go_wp2_with (first
      | (refine wpList_load_row rfl 28 (.tmp 3) rfl (w.heap.size) rfl _ _ _ _ R9.out Try.underlying28 rfl I9.out ?_)
      | (refine wpList_sliceK rfl (.tmp 54) rfl (pktV p A3 n c3) rfl SC.out ?_))
    go_ret2
    have AB := Lib.hid (alloc_below W9 (.cells (pktV p A3 n c3) 28))
    exact ⟨_, 1, 1, [⟨p, A3, n, c3, xs⟩], rfl, ⟨by
      have h9 := rowK1 (w := W9.alloc (.cells (pktV p A3 n c3) 28)) (g := W9.heap.size) (e := ⟨p, A3, n, c3, xs⟩) (heap_alloc_new _ _)
      exact h9, fun e he => by obtain rfl := List.mem_singleton.1 he; exact (HO9.out.below AB.out).nums, fun e he => by obtain rfl := List.mem_singleton.1 he; exact ⟨HOK.out, HYX.out, G3c.out.1, G3c.out.2⟩⟩, rfl, Q9.out.bel.trans (AB.out.mono Q9.out.bel.size)⟩
  simp only [Bool.false_eq_true, if_false]
  have q7 : ¬ (H : Int) ≤ mtu := by have := of_decide_eq_false hft; omega
  have q7b : decide ((H : Int) ≤ mtu) = false := decide_eq_false q7
  by_cases hpw : p.whole = true
  · have hw5 : (p.whole && !p.s) = true := by rw [hpw, hs]; rfl
    rw [if_pos hw5, if_pos hw5]
    rw [hpw] at KWH
    obtain ⟨C, hC⟩ : ∃ C, C = pktV p A n c := ⟨_, rfl⟩
    simp only [← hC] at R KR MC WC I hW ⊢
    clear hC hs hp hx hy hnc hcm hl OC hft h1 h2 h3 hpw hw5 hH
    go_enter Try.func8, Try.ntmps8
    try simp only [List.append_eq, List.cons_append, List.nil_append]
    go_upto_region 1 with fail
    rw [← hW]
    clear hW
    go_upto_region 5 with (first
      | go_skip
      | (go_at_call 20; refine (heads_four _).mono ?_; rintro e w2 ⟨rfl, hw⟩; obtain rfl := hw.symm)
      | (with_reducible refine atC.at_load 28 3 ?_; refine wpList_load_rowG (by kernel_rfl) 28 (.tmp 3) rfl (w.heap.size) (by kernel_rfl) _ _ _ _ (KR.out _ GG.out) Try.underlying28 rfl I.out ?_)
      | (go_at_call 21; refine MC.out.mono ?_; rintro e w2 ⟨rfl, hb⟩
         have G2 := Lib.hid (show Gr W w2 from hb)
         clear hb)
      | (with_reducible refine atC.at_load 28 3 ?_; refine wpList_load_rowG (by kernel_rfl) 28 (.tmp 3) rfl (w.heap.size) (by kernel_rfl) _ _ _ _ (KR.out _ G2.out) Try.underlying28 rfl I.out ?_)
      | (go_at_call 22; refine (WC.out w2).mono ?_; rintro e w3 ⟨rfl, hb⟩
         have G3 := Lib.hid (show Gr W w3 from G2.out.trans (hb.mono G2.out.size))
         have kw := KWH.out w3 G3.out
         have kl := KLD.out w3 G3.out
         clear hb))
    clear q1 q1b
    go_wp2_with (first | go_skip)
    go_ret2
    exact ⟨none, 0, 0, [], rfl, PksE.none_, rfl, HB.out.trans (Below.mono G3.out HB.out.size)⟩
  have hpw : p.whole = false := by simpa using hpw
  rw [hpw] at KWH
  have hw5 : ¬ (p.whole && !p.s) = true := by rw [hpw, hs]; decide
  rw [if_neg hw5, if_neg hw5]
  have hsz : sizeN p.s mtu = ((mtu - 20) / 8 * 8).toNat := by unfold sizeN pieceN; rw [hs]; rfl
  obtain ⟨sz, hsz2⟩ : ∃ k, k = sizeN p.s mtu := ⟨_, rfl⟩
  rw [← hsz2]
  rw [hsz] at hsz2
  have hszI : (sz : Int) = (mtu - 20) / 8 * 8 := by rw [hsz2]; omega
  have wp0 : IntKind.i64.wrap (mtu - 20) = mtu - 20 := IntWalk.i64_in _ (by omega)
  obtain ⟨E, hE⟩ : ∃ E : Int, E = (mtu - 20) / 8 := ⟨_, rfl⟩
  have td : (mtu - 20).tdiv 8 = E := by rw [hE, Int.tdiv_eq_ediv_of_nonneg (by omega)]
  have wE : IntKind.i64.wrap E = E := IntWalk.i64_in _ (by omega)
  have hE8 : E * 8 = (sz : Int) := by rw [hE, hszI]
  have wsz : IntKind.i64.wrap (sz : Int) = (sz : Int) := IntWalk.i64_in _ (by omega)
  have HSZ := Lib.hid (show 8 ≤ sz ∧ sz ≤ 2100 by omega)
  obtain ⟨N, hN⟩ := chunks_of n sz (by omega)
  have hN' : ∀ i, i < N ↔ i * sz < xs.length := by rw [hl]; exact hN
  have PP := Lib.hid (pcs_pieces p id xs sz N (by omega) hN')
  have OP := Lib.hid (show ({ p with id := if p.s = true then id else p.id } : Pkt).Ok from ⟨hp.la, hp.lb, hp.ya, hp.yb, hp.proto, hp.hops, id_ok hp hid, hp.off⟩)
  have H0 := Lib.hid (show p.off = 0 by
    unfold wholeP at h2
    exact of_decide_eq_true (Bool.and_eq_true_iff.1 h2).1)
  have XC := Lib.hid (fun (w' : World) (h : Below w.heap.size w w') => ccut_any { p with id := if p.s = true then id else p.id } A n c xs sz N w' OP.out ((hx.below h).more h.size) hy hnc hcm hn H0.out (by omega) (by omega) hN')
  rw [PP.out] at XC
  have HOK := Lib.hid hp
  have e9 : ({ p with id := if p.s = true then id else p.id } : Pkt) = p := by rw [if_neg (by rw [hs]; decide)]
  rw [e9] at XC OP
  clear e9 PP H0
  generalize piecesP (p, xs) id sz xs.length 0 = PL at *
  have HID := Lib.hid hid
  obtain ⟨C, hC⟩ : ∃ C, C = pktV p A n c := ⟨_, rfl⟩
  simp only [← hC] at R KR MC WC I hW XC ⊢
  have HC := Lib.hid hC
  clear hC hs hp hx hy hnc hcm hl OC hft h1 h2 h3 hpw hw5 hsz hsz2 hszI hE hn hid hN hN' hH
  go_enter Try.func8, Try.ntmps8
  try simp only [List.append_eq, List.cons_append, List.nil_append]
  go_upto_region 1 with fail
  rw [← hW]
  clear hW
  go_upto_region 5 with (first
    | go_skip
    | (go_at_call 20; refine (heads_four _).mono ?_; rintro e w2 ⟨rfl, hw⟩; obtain rfl := hw.symm)
    | (with_reducible refine atC.at_load 28 3 ?_; refine wpList_load_rowG (by kernel_rfl) 28 (.tmp 3) rfl (w.heap.size) (by kernel_rfl) _ _ _ _ (KR.out _ GG.out) Try.underlying28 rfl I.out ?_)
    | (go_at_call 21; refine MC.out.mono ?_; rintro e w2 ⟨rfl, hb⟩
       have G2 := Lib.hid (show Gr W w2 from hb)
       clear hb)
    | (with_reducible refine atC.at_load 28 3 ?_; refine wpList_load_rowG (by kernel_rfl) 28 (.tmp 3) rfl (w.heap.size) (by kernel_rfl) _ _ _ _ (KR.out _ G2.out) Try.underlying28 rfl I.out ?_)
    | (go_at_call 22; refine (WC.out w2).mono ?_; rintro e w3 ⟨rfl, hb⟩
       have G3 := Lib.hid (show Gr W w3 from G2.out.trans (hb.mono G2.out.size))
       have kw := KWH.out w3 G3.out
       have kl := KLD.out w3 G3.out
       clear hb))
  clear q1 q1b
  go_upto_region 10 with (first | go_skip)
  clear kw kl
  have R9 := Lib.hid (KR.out w3 G3.out)
  have I9 := I
  have B9 := Lib.hid (show Below w.heap.size w w3 from HB.out.trans (Below.mono G3.out HB.out.size))
  go_wp2_with (first
    | (refine wpList_load_row rfl 28 (.tmp 3) rfl (w.heap.size) rfl _ _ _ _ R9.out Try.underlying28 rfl I9.out ?_)
    | (go_at_call 24; refine (XC.out _ B9.out).mono ?_; rintro e W10 ⟨A10, k10, c10, es, rfl, P10, E10, B10⟩
       have HP10 := Lib.hid P10
       have HE10 := Lib.hid E10
       have HB10 := Lib.hid B10
       clear P10 E10 B10))
  go_ret2
  exact ⟨A10, k10, c10, es, rfl, HP10.out, HE10.out, B9.out.trans (HB10.out.mono B9.out.size)⟩
set_option maxRecDepth 100000 in
set_option maxHeartbeats 8000000 in
theorem ccut_six_arg (p : Pkt) (A : Option Addr) (n c : Nat) (xs : List Int) (mtu id : Int) (w : World) (hp : p.Ok) (hx : Nums .u8 w w.heap.size A n xs) (hy : ∀ x ∈ xs, Byte x) (hnc : n ≤ c) (hcm : c ≤ 9223372036854775807) (hm : -9223372036854775808 ≤ mtu ∧ mtu ≤ 9223372036854775807) (hid : 0 ≤ id ∧ id ≤ 4294967295) (hn : n ≤ 2000) (hs : p.s = true) (ha : argP (p, xs) mtu = true) :
    Calls Try.prog 8 #[.agg (pktV p A n c), .int .i64 mtu, .int .u32 id] w (CutR w [] 1) := by
  have hl := hx.len
  obtain ⟨W, hW⟩ : ∃ W, W = w.alloc (.cells (pktV p A n c) 28) := ⟨_, rfl⟩
  have R := Lib.hid (show W.heap[w.heap.size]? = some (.cells (pktV p A n c) 28 (0, 0)) by rw [hW]; exact heap_alloc_new _ _)
  have HB := Lib.hid (show Below w.heap.size w W by rw [hW]; exact alloc_below _ _)
  have I := Lib.hid (pkt_info hp A n c)
  have OC := pkC.pkC hp A n c
  have KR := Lib.hid (fun w' (h : Gr W w') => (show w'.heap[w.heap.size]? = some (.cells (pktV p A n c) 28 (0, 0)) by rw [Below.block h _ (Array.getElem?_eq_some_iff.1 R.out).1]; exact R.out))
  have p0 := pkC.PkC.cell R.out (show (pktV p A n c)[0]? = some (.bool p.s) from OC.src 0 _ rfl)
  have KWH := Lib.hid (fun w' (h : Gr W w') => pkC.PkC.cell (KR.out w' h) OC.whole)
  have KLD := Lib.hid (fun w' (h : Gr W w') => pkC.PkC.cell (KR.out w' h) OC.load)
  have MC := Lib.hid (cmay_fg p A n c xs W hp hl (by omega))
  have WC := Lib.hid (fun w' => cwhole_fg p A n c xs w' hp)
  have GG := Lib.hid (show Gr W W from Below.refl _ _)
  unfold argP leastN at ha
  simp only [hs] at ha
  obtain ⟨ml, hml⟩ : ∃ b, decide (mtu < 56) = b := ⟨_, rfl⟩
  simp only [if_true, Bool.true_and] at ha
  rw [hml] at ha
  generalize mayP (p, xs) = my at *
  generalize wholeP (p, xs) = wh at *
  rw [hs] at p0
  generalize p.whole = pw at *
  have h4 : my = false ∨ (my = true ∧ wh = false) ∨ (my = true ∧ wh = true ∧ pw = false) ∨ (my = true ∧ wh = true ∧ pw = true ∧ ml = true) := by
    revert ha; cases my <;> cases wh <;> cases ml <;> cases pw <;> simp
  generalize pktV p A n c = C at *
  have hml' : (ml = true → mtu < 56) ∧ (ml = false → ¬ mtu < 56) := ⟨fun h => of_decide_eq_true (hml.trans h), fun h => of_decide_eq_false (hml.trans h)⟩
  rcases h4 with rfl | ⟨rfl, rfl⟩ | ⟨rfl, rfl, rfl⟩ | ⟨rfl, rfl, rfl, rfl⟩
  all_goals
    first | have q1 := hml'.1 rfl | have q1 := hml'.2 rfl | skip
    clear hml' hs hp hx hy hnc hcm hl ha OC
    go_enter Try.func8, Try.ntmps8
    try simp only [List.append_eq, List.cons_append, List.nil_append]
    go_upto_region 1 with fail
    rw [← hW]
    clear hW
    go_wp2_with (first
      | go_skip
      | (go_at_call 20; refine (heads_six _).mono ?_; rintro e w2 ⟨rfl, hw⟩; obtain rfl := hw.symm)
      | (with_reducible refine atC.at_load 28 3 ?_; refine wpList_load_rowG (by kernel_rfl) 28 (.tmp 3) rfl (w.heap.size) (by kernel_rfl) _ _ _ _ (KR.out _ GG.out) Try.underlying28 rfl I.out ?_)
      | (go_at_call 21; refine MC.out.mono ?_; rintro e w2 ⟨rfl, hb⟩
         have G2 := Lib.hid (show Gr W w2 from hb)
         clear hb)
      | (with_reducible refine atC.at_load 28 3 ?_; refine wpList_load_rowG (by kernel_rfl) 28 (.tmp 3) rfl (w.heap.size) (by kernel_rfl) _ _ _ _ (KR.out _ G2.out) Try.underlying28 rfl I.out ?_)
      | (go_at_call 22; refine (WC.out w2).mono ?_; rintro e w3 ⟨rfl, hb⟩
         have G3 := Lib.hid (show Gr W w3 from G2.out.trans (hb.mono G2.out.size))
         have kw := KWH.out w3 G3.out
         have kl := KLD.out w3 G3.out
         clear hb))
    go_ret2
    first
      | exact ⟨none, 0, 0, [], rfl, PksE.none_, rfl, HB.out.trans (Below.mono G3.out HB.out.size)⟩
      | exact ⟨none, 0, 0, [], rfl, PksE.none_, rfl, HB.out.trans (Below.mono G2.out HB.out.size)⟩
set_option maxRecDepth 100000 in
set_option maxHeartbeats 8000000 in
theorem ccut_six_ok (p : Pkt) (A : Option Addr) (n c : Nat) (xs : List Int) (mtu id : Int) (w : World) (hp : p.Ok) (hx : Nums .u8 w w.heap.size A n xs) (hy : ∀ x ∈ xs, Byte x) (hnc : n ≤ c) (hcm : c ≤ 9223372036854775807) (hm : -9223372036854775808 ≤ mtu ∧ mtu ≤ 9223372036854775807) (hid : 0 ≤ id ∧ id ≤ 4294967295) (hn : n ≤ 2000) (hs : p.s = true) (ha : argP (p, xs) mtu = false) :
    Calls Try.prog 8 #[.agg (pktV p A n c), .int .i64 mtu, .int .u32 id] w (CutR w (cutL (p, xs) mtu id) (cutE (p, xs) mtu)) := by
  have hl := hx.len
  obtain ⟨W, hW⟩ : ∃ W, W = w.alloc (.cells (pktV p A n c) 28) := ⟨_, rfl⟩
  have R := Lib.hid (show W.heap[w.heap.size]? = some (.cells (pktV p A n c) 28 (0, 0)) by rw [hW]; exact heap_alloc_new _ _)
  have HB := Lib.hid (show Below w.heap.size w W by rw [hW]; exact alloc_below _ _)
  have I := Lib.hid (pkt_info hp A n c)
  have OC := pkC.pkC hp A n c
  have KR := Lib.hid (fun w' (h : Gr W w') => (show w'.heap[w.heap.size]? = some (.cells (pktV p A n c) 28 (0, 0)) by rw [Below.block h _ (Array.getElem?_eq_some_iff.1 R.out).1]; exact R.out))
  have p0 := pkC.PkC.cell R.out (show (pktV p A n c)[0]? = some (.bool p.s) from OC.src 0 _ rfl)
  have KWH := Lib.hid (fun w' (h : Gr W w') => pkC.PkC.cell (KR.out w' h) OC.whole)
  have KLD := Lib.hid (fun w' (h : Gr W w') => pkC.PkC.cell (KR.out w' h) OC.load)
  have MC := Lib.hid (cmay_fg p A n c xs W hp hl (by omega))
  have WC := Lib.hid (fun w' => cwhole_fg p A n c xs w' hp)
  have GG := Lib.hid (show Gr W W from Below.refl _ _)
  unfold cutL cutE
  rw [ha]
  simp only [Bool.false_eq_true, if_false]
  have hb4 : mayP (p, xs) = true ∧ wholeP (p, xs) = true ∧ ¬ mtu < 56 ∧ p.whole = true := by
    unfold argP leastN at ha
    rw [hs] at ha
    simp only [if_true, Bool.true_and] at ha
    revert ha
    cases mayP (p, xs) <;> cases wholeP (p, xs) <;> cases p.whole <;> simp
  obtain ⟨h1, h2, h3, h5⟩ := hb4
  simp only [h1] at MC
  simp only [h2] at WC
  have q1 : ¬ mtu < 56 := h3
  have q1b : decide (mtu < 56) = false := decide_eq_false h3
  rw [hs] at p0
  rw [h5] at KWH
  obtain ⟨ft, hft⟩ : ∃ f, fitsP (p, xs) mtu = f := ⟨_, rfl⟩
  rw [hft]
  unfold fitsP headN at hft
  simp only [hs, hl] at hft
  simp only [if_true] at hft
  obtain ⟨H, hH⟩ : ∃ H, H = 40 + n := ⟨_, rfl⟩
  have hHa : (40 : Int) + (n : Int) = (H : Int) := by omega
  have wH : IntKind.i64.wrap (H : Int) = (H : Int) := IntWalk.i64_in _ (by omega)
  cases ft
  rotate_left
  · have q7 : (H : Int) ≤ mtu := by have := of_decide_eq_true hft; omega
    have q7b : decide ((H : Int) ≤ mtu) = true := decide_eq_true q7
    rw [if_pos rfl, if_pos rfl]
    have XN := Lib.hid (fun w' (h : Gr W w') => (show Nums .u8 w' w'.heap.size A n xs from (hx.below (HB.out.trans (Below.mono h HB.out.size))).more (Nat.le_trans HB.out.size (Below.size h))))
    have HOK := Lib.hid hp
    have HYX := Lib.hid hy
    have HL := Lib.hid hl
    obtain ⟨C, hC⟩ : ∃ C, C = pktV p A n c := ⟨_, rfl⟩
    simp only [← hC] at R KR MC WC I hW ⊢
    have HC := Lib.hid hC
    clear hC hs hp hx hy hnc hcm hl OC hft h1 h2 h3 hH h5
    go_enter Try.func8, Try.ntmps8
    try simp only [List.append_eq, List.cons_append, List.nil_append]
    go_upto_region 1 with fail
    rw [← hW]
    clear hW
    go_upto_region 6 with (first
      | go_skip
      | (go_at_call 20; refine (heads_six _).mono ?_; rintro e w2 ⟨rfl, hw⟩; obtain rfl := hw.symm)
      | (with_reducible refine atC.at_load 28 3 ?_; refine wpList_load_rowG (by kernel_rfl) 28 (.tmp 3) rfl (w.heap.size) (by kernel_rfl) _ _ _ _ (KR.out _ GG.out) Try.underlying28 rfl I.out ?_)
      | (go_at_call 21; refine MC.out.mono ?_; rintro e w2 ⟨rfl, hb⟩
         have G2 := Lib.hid (show Gr W w2 from hb)
         clear hb)
      | (with_reducible refine atC.at_load 28 3 ?_; refine wpList_load_rowG (by kernel_rfl) 28 (.tmp 3) rfl (w.heap.size) (by kernel_rfl) _ _ _ _ (KR.out _ G2.out) Try.underlying28 rfl I.out ?_)
      | (go_at_call 22; refine (WC.out w2).mono ?_; rintro e w3 ⟨rfl, hb⟩
         have G3 := Lib.hid (show Gr W w3 from G2.out.trans (hb.mono G2.out.size))
         have kw := KWH.out w3 G3.out
         have kl := KLD.out w3 G3.out
         clear hb))
    clear q1 q1b q7 q7b hHa wH kw
    have Q3 := Lib.hid (show Qb w w3 w.heap.size p A n c from ⟨by rw [← HC.out]; exact KR.out w3 G3.out, HB.out.trans (Below.mono G3.out HB.out.size), Nat.le_refl _, HOK.out⟩)
    have CC := Lib.hid (octC.clone_any A n c xs w3 (XN.out w3 G3.out) (by omega))
    go_upto_region 7 with (go_at_call 23; refine CC.out.mono ?_; rintro e W8 ⟨A3, c3, rfl, O3, g31, g32, N3, B3⟩
                           rw [HL.out] at O3 g31 N3 ⊢
                           have Q8 := Lib.hid (Q3.out.below B3)
                           have c40 := Q8.out.cell 6 _ rfl
                           have f40 := Q8.out.frozen 6
                           have HO3 := Lib.hid O3
                           have G3c := Lib.hid (show n ≤ c3 ∧ c3 ≤ 9223372036854775807 from ⟨g31, by unfold maxLen at g32; omega⟩)
                           have HB3 := Lib.hid B3
                           clear O3 g31 g32 N3 B3)
    clear c40 f40
    obtain ⟨W9, hW9⟩ : ∃ q, q = W8.setCell ⟨w.heap.size, 40, none⟩ (.slice A3 n c3) := ⟨_, rfl⟩
    have Q9 := Lib.hid (show Qb w W9 w.heap.size p A3 n c3 by rw [hW9]; exact Q8.out.set_ 6 (.slice A3 n c3) rfl ⟨rfl, rfl, rfl, rfl⟩ HOK.out)
    have HO9 := Lib.hid (show memC.Own .u8 5 W9 w3.heap.size (.slice A3 n c3) xs by
      rw [hW9]
      refine memC.Own.keep HO3.out fun g g1 _ => Below.heap_setCell _ _ _ _ (by show g ≠ w.heap.size; have := Q3.out.bel.size; have := (Array.getElem?_eq_some_iff.1 Q3.out.row).1; omega))
    rw [← hW9]
    have SC := Lib.hid (show (pktV p A3 n c3).size = 41 from (pkC.pkC HOK.out A3 n c3).size)
    have I9 := Lib.hid (pkt_info HOK.out A3 n c3)
    have R9 := Lib.hid Q9.out.row
    clear hW9 kl p0
    go_wp2_with (first
      | (refine wpList_load_row rfl 28 (.tmp 3) rfl (w.heap.size) rfl _ _ _ _ R9.out Try.underlying28 rfl I9.out ?_)
      | (refine wpList_sliceK rfl (.tmp 54) rfl (pktV p A3 n c3) rfl SC.out ?_))
    go_ret2
    have AB := Lib.hid (alloc_below W9 (.cells (pktV p A3 n c3) 28))
    exact ⟨_, 1, 1, [⟨p, A3, n, c3, xs⟩], rfl, ⟨by
      have h9 := rowK1 (w := W9.alloc (.cells (pktV p A3 n c3) 28)) (g := W9.heap.size) (e := ⟨p, A3, n, c3, xs⟩) (heap_alloc_new _ _)
      exact h9, fun e he => by obtain rfl := List.mem_singleton.1 he; exact (HO9.out.below AB.out).nums, fun e he => by obtain rfl := List.mem_singleton.1 he; exact ⟨HOK.out, HYX.out, G3c.out.1, G3c.out.2⟩⟩, rfl, Q9.out.bel.trans (AB.out.mono Q9.out.bel.size)⟩
  simp only [Bool.false_eq_true, if_false]
  have q7 : ¬ (H : Int) ≤ mtu := by have := of_decide_eq_false hft; omega
  have q7b : decide ((H : Int) ≤ mtu) = false := decide_eq_false q7
  have hw5 : ¬ (p.whole && !p.s) = true := by rw [h5, hs]; decide
  rw [if_neg hw5, if_neg hw5]
  have hsz : sizeN p.s mtu = ((mtu - 48) / 8 * 8).toNat := by unfold sizeN pieceN; rw [hs]; rfl
  obtain ⟨sz, hsz2⟩ : ∃ k, k = sizeN p.s mtu := ⟨_, rfl⟩
  rw [← hsz2]
  rw [hsz] at hsz2
  have hszI : (sz : Int) = (mtu - 48) / 8 * 8 := by rw [hsz2]; omega
  have wp0 : IntKind.i64.wrap (mtu - 48) = mtu - 48 := IntWalk.i64_in _ (by omega)
  obtain ⟨E, hE⟩ : ∃ E : Int, E = (mtu - 48) / 8 := ⟨_, rfl⟩
  have td : (mtu - 48).tdiv 8 = E := by rw [hE, Int.tdiv_eq_ediv_of_nonneg (by omega)]
  have wE : IntKind.i64.wrap E = E := IntWalk.i64_in _ (by omega)
  have hE8 : E * 8 = (sz : Int) := by rw [hE, hszI]
  have wsz : IntKind.i64.wrap (sz : Int) = (sz : Int) := IntWalk.i64_in _ (by omega)
  have HSZ := Lib.hid (show 8 ≤ sz ∧ sz ≤ 2100 by omega)
  obtain ⟨N, hN⟩ := chunks_of n sz (by omega)
  have hN' : ∀ i, i < N ↔ i * sz < xs.length := by rw [hl]; exact hN
  have PP := Lib.hid (pcs_pieces p id xs sz N (by omega) hN')
  have OP := Lib.hid (show ({ p with id := if p.s = true then id else p.id } : Pkt).Ok from ⟨hp.la, hp.lb, hp.ya, hp.yb, hp.proto, hp.hops, id_ok hp hid, hp.off⟩)
  have H0 := Lib.hid (show p.off = 0 by
    unfold wholeP at h2
    exact of_decide_eq_true (Bool.and_eq_true_iff.1 h2).1)
  have XC := Lib.hid (fun (w' : World) (h : Below w.heap.size w w') => ccut_any { p with id := if p.s = true then id else p.id } A n c xs sz N w' OP.out ((hx.below h).more h.size) hy hnc hcm hn H0.out (by omega) (by omega) hN')
  rw [PP.out] at XC
  have HOK := Lib.hid hp
  have e9 : ({ p with id := if p.s = true then id else p.id } : Pkt) = { p with id := id } := by rw [if_pos hs]
  rw [e9] at XC OP
  clear e9 PP H0
  generalize piecesP (p, xs) id sz xs.length 0 = PL at *
  have HID := Lib.hid hid
  obtain ⟨C, hC⟩ : ∃ C, C = pktV p A n c := ⟨_, rfl⟩
  simp only [← hC] at R KR MC WC I hW ⊢
  have HC := Lib.hid hC
  clear hC hs hp hx hy hnc hcm hl OC hft h1 h2 h3 h5 hw5 hsz hsz2 hszI hE hn hid hN hN' hH
  go_enter Try.func8, Try.ntmps8
  try simp only [List.append_eq, List.cons_append, List.nil_append]
  go_upto_region 1 with fail
  rw [← hW]
  clear hW
  go_upto_region 5 with (first
    | go_skip
    | (go_at_call 20; refine (heads_six _).mono ?_; rintro e w2 ⟨rfl, hw⟩; obtain rfl := hw.symm)
    | (with_reducible refine atC.at_load 28 3 ?_; refine wpList_load_rowG (by kernel_rfl) 28 (.tmp 3) rfl (w.heap.size) (by kernel_rfl) _ _ _ _ (KR.out _ GG.out) Try.underlying28 rfl I.out ?_)
    | (go_at_call 21; refine MC.out.mono ?_; rintro e w2 ⟨rfl, hb⟩
       have G2 := Lib.hid (show Gr W w2 from hb)
       clear hb)
    | (with_reducible refine atC.at_load 28 3 ?_; refine wpList_load_rowG (by kernel_rfl) 28 (.tmp 3) rfl (w.heap.size) (by kernel_rfl) _ _ _ _ (KR.out _ G2.out) Try.underlying28 rfl I.out ?_)
    | (go_at_call 22; refine (WC.out w2).mono ?_; rintro e w3 ⟨rfl, hb⟩
       have G3 := Lib.hid (show Gr W w3 from G2.out.trans (hb.mono G2.out.size))
       have kw := KWH.out w3 G3.out
       have kl := KLD.out w3 G3.out
       clear hb))
  clear q1 q1b
  go_upto_region 10 with (first | go_skip)
  clear kw kl
  have Q3 := Lib.hid (show Qb w w3 w.heap.size p A n c from ⟨by rw [← HC.out]; exact KR.out w3 G3.out, HB.out.trans (Below.mono G3.out HB.out.size), Nat.le_refl _, HOK.out⟩)
  have c36 := Q3.out.cell 2 _ rfl
  have f36 := Q3.out.frozen 2
  go_upto_region 12 with fail
  clear c36 f36
  obtain ⟨W9, hW9⟩ : ∃ q, q = w3.setCell ⟨w.heap.size, 36, none⟩ (.int .u32 id) := ⟨_, rfl⟩
  have Q9 := Lib.hid (show Qb w W9 w.heap.size { p with id := id } A n c by rw [hW9]; exact Q3.out.set_ 2 (.int .u32 id) rfl ⟨rfl, rfl, rfl, rfl⟩ OP.out)
  rw [← hW9]
  clear hW9 Q3
  have I9 := Lib.hid (pkt_info OP.out A n c)
  have R9 := Lib.hid Q9.out.row
  have B9 := Lib.hid Q9.out.bel
  go_wp2_with (first
    | (refine wpList_load_row rfl 28 (.tmp 3) rfl (w.heap.size) rfl _ _ _ _ R9.out Try.underlying28 rfl I9.out ?_)
    | (go_at_call 24; refine (XC.out _ B9.out).mono ?_; rintro e W10 ⟨A10, k10, c10, es, rfl, P10, E10, B10⟩
       have HP10 := Lib.hid P10
       have HE10 := Lib.hid E10
       have HB10 := Lib.hid B10
       clear P10 E10 B10))
  go_ret2
  exact ⟨A10, k10, c10, es, rfl, HP10.out, HE10.out, B9.out.trans (HB10.out.mono B9.out.size)⟩
/-- the program's Cut -/
theorem ccutp_any (p : Pkt) (A : Option Addr) (n c : Nat) (xs : List Int) (mtu id : Int) (w : World) (hp : p.Ok) (hx : Nums .u8 w w.heap.size A n xs) (hy : ∀ x ∈ xs, Byte x) (hnc : n ≤ c) (hcm : c ≤ 9223372036854775807) (hm : -9223372036854775808 ≤ mtu ∧ mtu ≤ 9223372036854775807) (hid : 0 ≤ id ∧ id ≤ 4294967295) (hn : n ≤ 2000) :
    Calls Try.prog 8 #[.agg (pktV p A n c), .int .i64 mtu, .int .u32 id] w (CutR w (cutL (p, xs) mtu id) (cutE (p, xs) mtu)) := by
  cases ha : argP (p, xs) mtu
  · cases hs : p.s
    · exact ccut_four_ok p A n c xs mtu id w hp hx hy hnc hcm hm hid hn hs ha
    · exact ccut_six_ok p A n c xs mtu id w hp hx hy hnc hcm hm hid hn hs ha
  · have e1 : cutL (p, xs) mtu id = [] := by unfold cutL; rw [if_pos ha]
    have e2 : cutE (p, xs) mtu = 1 := by unfold cutE; rw [if_pos ha]
    rw [e1, e2]
    cases hs : p.s
    · exact ccut_four_arg p A n c xs mtu id w hp hx hy hnc hcm hm hid hn hs ha
    · exact ccut_six_arg p A n c xs mtu id w hp hx hy hnc hcm hm hid hn hs ha
end Go.Proofs.Ytcnnpfjommiafaa.fgC
