/-
  1 texts of a proof, joined.
-/
import Derived.Test.YtniimgbljhmcoaaDoorMg21
import Derived.Test.YtniimgbljhmcoaaDoorMg22
import Derived.Test.YtniimgbljhmcoaaDoorMg18
import Derived.Deep.Cut

/-
  Options' bytes, whatever they are: the document's.
-/
namespace Go.Proofs.YtniimgbljhmcoaaDoor.opC
open Go.ChangeShapes Go.WideShapes Go.ChangeAt Go.RowKit
open Go.Proofs.YtniimgbljhmcoaaDoor.memC Go.Proofs.YtniimgbljhmcoaaDoor.genC Go.Proofs.YtniimgbljhmcoaaDoor.butC Go.Proofs.YtniimgbljhmcoaaDoor.freeC Go.Proofs.YtniimgbljhmcoaaDoor.adC
open Go.Proofs.YtniimgbljhmcoaaDoor.kdC (Key BytesRet put_key rput_key)
open Go.Proofs.YtniimgbljhmcoaaDoor.octC (numL getZ)
set_option linter.unusedVariables false
/-- nothing turned but the block of an own slice -/
def Grow (g : Option Nat) (w w' : World) : Prop := w.grownBy w' g
theorem Grow.of (g : Option Nat) {w w' : World} (h : Below w.heap.size w w') : Grow g w w' := ⟨h.os, h.tape, h.output, h.size, fun k hk _ => h.block k hk⟩
theorem keep_rowG {g : Option Nat} {k : Nat} {w w' : World} {o : Obj} (hd : Below w.heap.size w w' ∨ Grow g w w') (hk : some k ≠ g) (h : w.heap[k]? = some o) : w'.heap[k]? = some o := by
  rcases hd with hd | hd
  · rw [hd.block k (lt_of_row h)]; exact h
  · rw [World.grownBy.block hd k (lt_of_row h) hk]; exact h
/-- what stands in such a region -/
structure BG (W : World) (g : Option Nat) (w : World) : Prop where
  bel : Below W.heap.size W w
  lt : ∀ k, g = some k → k < w.heap.size
theorem BG.keep {W : World} {g : Option Nat} (h0 : ∀ k, g = some k → W.heap.size ≤ k) {w w' : World} (hd : Below w.heap.size w w' ∨ Grow g w w') (h : BG W g w) : BG W g w' := by
  rcases hd with hd | hd
  · exact ⟨h.bel.trans (hd.mono h.bel.size), fun k hk => Nat.lt_of_lt_of_le (h.lt k hk) hd.size⟩
  · exact ⟨h.bel.grown hd h.bel.size h0, fun k hk => Nat.lt_of_lt_of_le (h.lt k hk) (World.grownBy.size hd)⟩
theorem BG.ne {W : World} {g : Option Nat} {w : World} (h : BG W g w) : some w.heap.size ≠ g := fun e => Nat.lt_irrefl _ (h.lt _ e.symm)
/-- append onto an own slice, with what it turned told -/
theorem append_Gr {R : Value → World → Prop} {fr : Act} {o : Oper} {w : World} {Q : Exit → Act → World → Prop} {kd : IntKind} {P : Program} (s x : Operand) (t : TypeId) (ho : o.op = .call { callee := .builtin .append, args := #[s, x], argTypes := #[t, t] })
    (e : TypeId) (i : TypeInfo) (z : Value) (bytes : Nat) (ht : P.underlying t = some (.slice e)) (hi : P.info? e = some i) (hz : i.zero = some z)
    (hsize : i.size = 1) (hby : i.bytes = bytes) (hzs : z.cells.size = 1) (base : Nat) (v : Value) (xs : List Int) (hs : fr.eval s = v) (hown : Own kd e w base v xs)
    (B : Nat) (A : Option Addr) (m c : Nat) (news : List Int) (hx : fr.eval x = .slice A m c) (hr : Nums kd w B A m news) (h63 : xs.length + m ≤ maxLen) (hbytes : (xs.length + m) * bytes ≤ 140737488355328) (hbase : base ≤ w.heap.size) (L : Nat) (hL : xs.length + m = L)
    (h : ∀ A' c' w', Own kd e w' base (.slice A' L c') (xs ++ news) → Below base w w' → w.grownBy w' v.ownBlock → R (.slice A' L c') w') : o.wp P fr w (fun a' w' => ∃ v, a' = fr.put o.dst v ∧ R v w') Q := by
  obtain ⟨v', w', hrun, h2, h3⟩ := run_app (P := P) w t o.type e i z bytes ht hi hz hsize hby hzs base v xs hown B A m c news hr h63 hbytes hbase
  have e : (xs ++ news).length = L := by rw [List.length_append, hr.len]; exact hL
  obtain ⟨A', c', e2, g1, g2, N⟩ := h2.form
  rw [e] at e2 g1 N
  subst e2
  unfold Oper.wp execOp
  simp only [ho, resolve, invoke, builtin, Sem.run_bind, Sem.run_pure, Result.andThen_ok, List.map_toArray, List.map_cons, List.map_nil, hs, hx, hrun]
  exact ⟨_, rfl, h A' c' w' h2 (grown_below h3 hbase fun g hg => (hown.blk g hg).1) h3⟩
theorem row_numsO {k : IntKind} {w : World} {q : Nat} {C : Array Value} {T : TypeId} {xs : List Int} (hr : w.heap[q]? = some (.cells C T (0, 0))) (hC : C = (xs.map (Value.int k)).toArray) (n : Nat) (hn : xs.length = n) : Nums k w w.heap.size (some ⟨q, 0, none⟩) n xs := by
  subst hC
  refine ⟨hn, fun _ => ⟨q, 0, rfl, lt_of_row hr, fun i hi => ?_⟩⟩
  have hi2 : i < xs.length := by omega
  rw [cell_of_row _ q (0 + i) _ _ (0, 0) hr]
  simp [List.getD_eq_getElem?_getD, hi2]
theorem key_own {w : World} {B : Nat} {A : Option Addr} {n c : Nat} {xs : List Int} (O : Own .u8 5 w B (.slice A n c) xs) (hy : ∀ x ∈ xs, Byte x) : Key w A n c xs := ⟨O.nums, hy, (own_capO O).1, (own_capO O).2⟩
def baR (B : Nat) (vv : Value) (X0 X1 X2 : List Int) (L1 N : Nat) : Nat → (Nat → Value) → World → Prop
  | 0, us, w => us 8 = vv ∧ B ≤ w.heap.size ∧ Own .u8 5 w B vv X0
  | 1, us, w => us 8 = vv ∧ B ≤ w.heap.size ∧ Own .u8 5 w B vv X0 ∧ ∃ q, us 1 = .slice (some ⟨q, 0, none⟩) 2 2 ∧ w.heap[q]? = some (.cells #[.int .u8 2, .int .u8 4] 5 (0, 0))
  | 2, us, w => B ≤ w.heap.size ∧ ∃ A c, us 2 = .slice A L1 c ∧ Own .u8 5 w B (.slice A L1 c) X1
  | 3, us, w => B ≤ w.heap.size ∧ ∃ A c, us 7 = .slice A N c ∧ Own .u8 5 w B (.slice A N c) X2
  | 4, us, w => B ≤ w.heap.size ∧ ∃ A c, us 8 = .slice A N c ∧ Own .u8 5 w B (.slice A N c) X2
  | _, _, _ => True
theorem baR.keep (B : Nat) (vv : Value) (X0 X1 X2 : List Int) (L1 N : Nat) (k : Nat) (us us' : Nat → Value) (w w' : World) (h : ∀ x ∈ [1, 2, 7, 8], us' x = us x) (hb : Below w.heap.size w w') (hR : baR B vv X0 X1 X2 L1 N k us w) : baR B vv X0 X1 X2 L1 N k us' w' := by
  have h1 := h 1 (by simp); have h2 := h 2 (by simp); have h3 := h 7 (by simp); have h4 := h 8 (by simp)
  have hz := hb.size
  unfold baR at hR ⊢
  split at hR
  · exact ⟨h4.trans hR.1, Nat.le_trans hR.2.1 hz, hR.2.2.below hb⟩
  · obtain ⟨a1, a2, a3, q, a4, a5⟩ := hR
    exact ⟨h4.trans a1, Nat.le_trans a2 hz, a3.below hb, q, h1.trans a4, by rw [hb.block _ (lt_of_row a5)]; exact a5⟩
  · obtain ⟨a1, A, c, a2, a3⟩ := hR
    exact ⟨Nat.le_trans a1 hz, A, c, h2.trans a2, a3.below hb⟩
  · obtain ⟨a1, A, c, a2, a3⟩ := hR
    exact ⟨Nat.le_trans a1 hz, A, c, h3.trans a2, a3.below hb⟩
  · obtain ⟨a1, A, c, a2, a3⟩ := hR
    exact ⟨Nat.le_trans a1 hz, A, c, h4.trans a2, a3.below hb⟩
  · trivial
def baV (g0 : Nat) (gb : Option Nat) (vv : Value) (x1 : Int) : Nat → Value → World → Prop
  | 0, v, _ => v = vv
  | 3, v, _ => v = .pointer (some ⟨g0, 1, none⟩)
  | 4, v, _ => v = .int .u16 x1
  | 5, v, _ => v = .int .u64 x1
  | 6, v, w => ∃ q, v = .slice (some ⟨q, 0, none⟩) 1 1 ∧ some q ≠ gb ∧ w.heap[q]? = some (.cells #[.int .u64 x1] 60 (0, 0))
  | _, _, _ => True
theorem baV.keep (g0 : Nat) (gb : Option Nat) (vv : Value) (x1 : Int) (i : Nat) (v : Value) (w w' : World) (hd : Below w.heap.size w w' ∨ Grow gb w w') (h : baV g0 gb vv x1 i v w) : baV g0 gb vv x1 i v w' := by
  by_cases e6 : i = 6
  · subst e6
    obtain ⟨q, h1, h2, h3⟩ := h
    exact ⟨q, h1, h2, keep_rowG hd h2 h3⟩
  unfold baV at h ⊢
  split at h <;> first | exact h | exact absurd rfl (by assumption)
def baT : List (Option Nat) := [none, none, none, some 8, none, none, none, some 0, some 1, some 2, some 3, some 4, some 5, some 6, some 7, none, none, none, none, none, none, none, none, none, none, none, none, none, none, none, none, none, none, none, none, none, none, none, none, none, none, none, none, none, none, none, none, none, none, none, none, none, none, none, none, none, none, none, none, none, none, none, none, none, none, none, none, none, none, none, none, none, none, none, none, none, none, none, none, none, none, none, none, none, none, none, none, none, none, none, none, none, none, none, none, none, none]
def bbR (B : Nat) (vv : Value) (X0 X1 X2 : List Int) (L1 N : Nat) : Nat → (Nat → Value) → World → Prop
  | 0, us, w => us 11 = vv ∧ B ≤ w.heap.size ∧ Own .u8 5 w B vv X0
  | 1, us, w => us 11 = vv ∧ B ≤ w.heap.size ∧ Own .u8 5 w B vv X0 ∧ ∃ q, us 1 = .slice (some ⟨q, 0, none⟩) 2 2 ∧ w.heap[q]? = some (.cells #[.int .u8 8, .int .u8 10] 5 (0, 0))
  | 2, us, w => B ≤ w.heap.size ∧ ∃ A c, us 2 = .slice A L1 c ∧ Own .u8 5 w B (.slice A L1 c) X1
  | 3, us, w => B ≤ w.heap.size ∧ ∃ A c, us 10 = .slice A N c ∧ Own .u8 5 w B (.slice A N c) X2
  | 4, us, w => B ≤ w.heap.size ∧ ∃ A c, us 11 = .slice A N c ∧ Own .u8 5 w B (.slice A N c) X2
  | _, _, _ => True
theorem bbR.keep (B : Nat) (vv : Value) (X0 X1 X2 : List Int) (L1 N : Nat) (k : Nat) (us us' : Nat → Value) (w w' : World) (h : ∀ x ∈ [1, 2, 10, 11], us' x = us x) (hb : Below w.heap.size w w') (hR : bbR B vv X0 X1 X2 L1 N k us w) : bbR B vv X0 X1 X2 L1 N k us' w' := by
  have h1 := h 1 (by simp); have h2 := h 2 (by simp); have h3 := h 10 (by simp); have h4 := h 11 (by simp)
  have hz := hb.size
  unfold bbR at hR ⊢
  split at hR
  · exact ⟨h4.trans hR.1, Nat.le_trans hR.2.1 hz, hR.2.2.below hb⟩
  · obtain ⟨a1, a2, a3, q, a4, a5⟩ := hR
    exact ⟨h4.trans a1, Nat.le_trans a2 hz, a3.below hb, q, h1.trans a4, by rw [hb.block _ (lt_of_row a5)]; exact a5⟩
  · obtain ⟨a1, A, c, a2, a3⟩ := hR
    exact ⟨Nat.le_trans a1 hz, A, c, h2.trans a2, a3.below hb⟩
  · obtain ⟨a1, A, c, a2, a3⟩ := hR
    exact ⟨Nat.le_trans a1 hz, A, c, h3.trans a2, a3.below hb⟩
  · obtain ⟨a1, A, c, a2, a3⟩ := hR
    exact ⟨Nat.le_trans a1 hz, A, c, h4.trans a2, a3.below hb⟩
  · trivial
def bbV (g0 : Nat) (gb : Option Nat) (vv : Value) (x1 x2 : Int) : Nat → Value → World → Prop
  | 0, v, _ => v = vv
  | 3, v, _ => v = .pointer (some ⟨g0, 7, none⟩)
  | 4, v, _ => v = .int .u32 x1
  | 5, v, _ => v = .int .u64 x1
  | 6, v, _ => v = .pointer (some ⟨g0, 8, none⟩)
  | 7, v, _ => v = .int .u32 x2
  | 8, v, _ => v = .int .u64 x2
  | 9, v, w => ∃ q, v = .slice (some ⟨q, 0, none⟩) 2 2 ∧ some q ≠ gb ∧ w.heap[q]? = some (.cells #[.int .u64 x1, .int .u64 x2] 60 (0, 0))
  | _, _, _ => True
theorem bbV.keep (g0 : Nat) (gb : Option Nat) (vv : Value) (x1 x2 : Int) (i : Nat) (v : Value) (w w' : World) (hd : Below w.heap.size w w' ∨ Grow gb w w') (h : bbV g0 gb vv x1 x2 i v w) : bbV g0 gb vv x1 x2 i v w' := by
  by_cases e9 : i = 9
  · subst e9
    obtain ⟨q, h1, h2, h3⟩ := h
    exact ⟨q, h1, h2, keep_rowG hd h2 h3⟩
  unfold bbV at h ⊢
  split at h <;> first | exact h | exact absurd rfl (by assumption)
def bbT : List (Option Nat) := [none, none, none, some 11, none, none, none, none, none, none, none, none, none, none, none, none, none, none, none, none, none, none, none, none, none, none, none, none, none, some 0, some 1, some 2, some 3, some 4, some 5, some 6, some 7, some 8, some 9, some 10, none, none, none, none, none, none, none, none, none, none, none, none, none, none, none, none, none, none, none, none, none, none, none, none, none, none, none, none, none, none, none, none, none, none, none, none, none, none, none, none, none, none, none, none, none, none, none, none, none, none, none, none, none, none, none, none, none]
def bcR (B : Nat) (vv : Value) (ki ni : Int) (X0 X1 X2 : List Int) (L1 N : Nat) : Nat → (Nat → Value) → World → Prop
  | 0, us, w => us 10 = vv ∧ B ≤ w.heap.size ∧ Own .u8 5 w B vv X0
  | 1, us, w => us 10 = vv ∧ B ≤ w.heap.size ∧ Own .u8 5 w B vv X0 ∧ ∃ q, us 5 = .slice (some ⟨q, 0, none⟩) 4 4 ∧ w.heap[q]? = some (.cells #[.int .u8 29, .int .u8 16, .int .u8 ki, .int .u8 ni] 5 (0, 0))
  | 2, us, w => B ≤ w.heap.size ∧ ∃ A c, us 6 = .slice A L1 c ∧ Own .u8 5 w B (.slice A L1 c) X1
  | 3, us, w => B ≤ w.heap.size ∧ ∃ A c, us 9 = .slice A N c ∧ Own .u8 5 w B (.slice A N c) X2
  | 4, us, w => B ≤ w.heap.size ∧ ∃ A c, us 10 = .slice A N c ∧ Own .u8 5 w B (.slice A N c) X2
  | _, _, _ => True
theorem bcR.keep (B : Nat) (vv : Value) (ki ni : Int) (X0 X1 X2 : List Int) (L1 N : Nat) (k : Nat) (us us' : Nat → Value) (w w' : World) (h : ∀ x ∈ [5, 6, 9, 10], us' x = us x) (hb : Below w.heap.size w w') (hR : bcR B vv ki ni X0 X1 X2 L1 N k us w) : bcR B vv ki ni X0 X1 X2 L1 N k us' w' := by
  have h1 := h 5 (by simp); have h2 := h 6 (by simp); have h3 := h 9 (by simp); have h4 := h 10 (by simp)
  have hz := hb.size
  unfold bcR at hR ⊢
  split at hR
  · exact ⟨h4.trans hR.1, Nat.le_trans hR.2.1 hz, hR.2.2.below hb⟩
  · obtain ⟨a1, a2, a3, q, a4, a5⟩ := hR
    exact ⟨h4.trans a1, Nat.le_trans a2 hz, a3.below hb, q, h1.trans a4, by rw [hb.block _ (lt_of_row a5)]; exact a5⟩
  · obtain ⟨a1, A, c, a2, a3⟩ := hR
    exact ⟨Nat.le_trans a1 hz, A, c, h2.trans a2, a3.below hb⟩
  · obtain ⟨a1, A, c, a2, a3⟩ := hR
    exact ⟨Nat.le_trans a1 hz, A, c, h3.trans a2, a3.below hb⟩
  · obtain ⟨a1, A, c, a2, a3⟩ := hR
    exact ⟨Nat.le_trans a1 hz, A, c, h4.trans a2, a3.below hb⟩
  · trivial
def bcV (g0 B : Nat) (vv : Value) (ki ni : Int) : Nat → Value → World → Prop
  | 0, v, _ => v = vv
  | 1, v, _ => v = .pointer (some ⟨g0, 10, none⟩)
  | 2, v, _ => v = .int .u8 ki
  | 3, v, _ => v = .pointer (some ⟨g0, 11, none⟩)
  | 4, v, _ => v = .int .u8 ni
  | 7, v, _ => v = .pointer (some ⟨g0, 12, none⟩)
  | 8, v, _ => v = .slice (some ⟨g0, 12, none⟩) 12 12
  | _, _, _ => True
theorem bcV.keep (g0 B : Nat) (vv : Value) (ki ni : Int) (i : Nat) (v : Value) (w w' : World) (hd : Below w.heap.size w w' ∨ Below B w w') (h : bcV g0 B vv ki ni i v w) : bcV g0 B vv ki ni i v w' := by
  unfold bcV at h ⊢
  split at h <;> exact h
def bcT : List (Option Nat) := [none, none, none, some 10, none, none, none, none, none, none, none, none, none, none, none, none, none, none, none, none, none, none, none, none, none, none, none, none, none, none, none, none, none, none, none, none, none, none, none, none, none, none, none, none, none, none, none, none, none, none, none, none, none, none, none, none, none, none, none, none, none, none, none, none, none, none, none, none, none, none, none, none, none, none, none, none, none, none, none, some 0, some 1, some 2, some 3, some 4, some 5, some 6, some 7, some 8, some 9, none, none, none, none, none, none, none, none]
def bdR (B : Nat) (vv : Value) (X2 : List Int) (N : Nat) : Nat → (Nat → Value) → World → Prop
  | 0, us, w => us 17 = vv
  | 1, us, w => B ≤ w.heap.size ∧ ∃ A c, us 17 = .slice A N c ∧ Own .u8 5 w B (.slice A N c) X2
  | _, _, _ => True
theorem bdR.keep (B : Nat) (vv : Value) (X2 : List Int) (N : Nat) (k : Nat) (us us' : Nat → Value) (w w' : World) (h : ∀ x ∈ [17], us' x = us x) (hb : Below w.heap.size w w') (hR : bdR B vv X2 N k us w) : bdR B vv X2 N k us' w' := by
  have h4 := h 17 (by simp)
  have hz := hb.size
  unfold bdR at hR ⊢
  split at hR
  · exact h4.trans hR
  · obtain ⟨a1, A, c, a2, a3⟩ := hR
    exact ⟨Nat.le_trans a1 hz, A, c, h4.trans a2, a3.below hb⟩
  · trivial
def bdV (g0 B b1 o1 kx n c L N : Nat) (Ab : Option Addr) (cb : Nat) (x y : Int) (X2 : List Int) : Nat → Value → World → Prop
  | 0, v, _ => v = .slice Ab L cb
  | 1, v, _ => v = .pointer (some ⟨g0, 5, none⟩)
  | 2, v, _ => v = .slice (some ⟨b1, o1, none⟩) n c
  | 3, v, _ => v = .int .i64 kx
  | 4, v, _ => v = .pointer (some ⟨b1, o1 + kx * 2, none⟩)
  | 5, v, _ => v = .pointer (some ⟨b1, o1 + kx * 2, none⟩)
  | 6, v, _ => v = .int .u32 x
  | 7, v, _ => v = .int .u64 x
  | 8, v, _ => v = .pointer (some ⟨g0, 5, none⟩)
  | 9, v, _ => v = .slice (some ⟨b1, o1, none⟩) n c
  | 10, v, _ => v = .int .i64 kx
  | 11, v, _ => v = .pointer (some ⟨b1, o1 + kx * 2, none⟩)
  | 12, v, _ => v = .pointer (some ⟨b1, o1 + kx * 2 + 1, none⟩)
  | 13, v, _ => v = .int .u32 y
  | 14, v, _ => v = .int .u64 y
  | 15, v, w => ∃ q, v = .slice (some ⟨q, 0, none⟩) 2 2 ∧ w.heap[q]? = some (.cells #[.int .u64 x, .int .u64 y] 60 (0, 0))
  | 16, v, w => ∃ A c, v = .slice A N c ∧ Own .u8 5 w B (.slice A N c) X2
  | _, _, _ => True
theorem bdV.keep (g0 B b1 o1 kx n c L N : Nat) (Ab : Option Addr) (cb : Nat) (x y : Int) (X2 : List Int) (i : Nat) (v : Value) (w w' : World) (hd : Below w.heap.size w w' ∨ (fun w w' => w' = w) w w') (h : bdV g0 B b1 o1 kx n c L N Ab cb x y X2 i v w) : bdV g0 B b1 o1 kx n c L N Ab cb x y X2 i v w' := by
  by_cases e15 : i = 15
  · subst e15
    obtain ⟨q, h1, h3⟩ := h
    exact ⟨q, h1, by rcases hd with hd | hd; rw [hd.block _ (lt_of_row h3)]; exact h3; rw [hd]; exact h3⟩
  by_cases e16 : i = 16
  · subst e16
    obtain ⟨A, c, h1, h3⟩ := h
    exact ⟨A, c, h1, by rcases hd with hd | hd; exact h3.below hd; rw [hd]; exact h3⟩
  unfold bdV at h ⊢
  split at h <;> first | exact h | exact absurd rfl (by assumption)
def bdT : List (Option Nat) := [none, none, none, some 17, none, none, none, none, none, none, none, none, none, none, none, none, none, none, none, none, none, none, none, none, none, none, none, none, none, none, none, none, none, none, none, none, none, none, none, none, none, none, none, none, none, none, none, none, none, none, none, none, none, none, none, none, none, none, none, none, some 0, some 1, some 2, some 3, some 4, some 5, some 6, some 7, some 8, some 9, some 10, some 11, some 12, some 13, some 14, some 15, some 16, none, none, none, none, none, none, none, none, none, none, none, none, none, none, none, none, none, none, none, none]
theorem piece2 {o : Opt} (h : o.hm = true) : pieceL o 2 = [2, 4] ++ numL 2 o.ms := by unfold pieceL; rw [if_pos (by simpa [hasB] using h)]; rfl
theorem piece3 {o : Opt} (h : o.hs = true) : pieceL o 3 = [3, 3, o.sc] := by unfold pieceL; rw [if_pos (by simpa [hasB] using h)]; rfl
theorem piece4 {o : Opt} (h : o.so = true) : pieceL o 4 = [4, 2] := by unfold pieceL; rw [if_pos (by simpa [hasB] using h)]; rfl
theorem piece8 {o : Opt} (h : o.ht = true) : pieceL o 8 = [8, 10] ++ (numL 4 o.va ++ numL 4 o.ec) := by unfold pieceL; rw [if_pos (by simpa [hasB] using h)]; rfl
theorem piece5 {o : Opt} (h : 0 < o.sk.length) : pieceL o 5 = [5, (((2 + 8 * o.sk.length) % 256 : Nat) : Int)] ++ skL o.sk := by
  unfold pieceL; rw [if_pos (by simpa [hasB] using h)]; rfl
theorem piece29 {o : Opt} (h : o.ha = true) : pieceL o 29 = [29, 16, o.ki, o.ni] ++ o.mac := by unfold pieceL; rw [if_pos (by simpa [hasB] using h)]; rfl
theorem numL_byteO (s : Nat) (x : Int) : ∀ y ∈ numL s x, Byte y := octC.numL_byte s x
theorem skL_byte (l : List (Int × Int)) : ∀ y ∈ skL l, Byte y := fun y hy => by
  obtain ⟨p, _, h⟩ := List.mem_flatMap.1 hy
  rcases List.mem_append.1 h with h | h
  · exact numL_byteO 4 _ y h
  · exact numL_byteO 4 _ y h
theorem told_byte {o : Opt} (ho : o.Ok) (k : Int) : ∀ y ∈ toldL o k, Byte y := fun y hy => by
  unfold toldL at hy
  split at hy
  · exact numL_byteO 2 _ y hy
  · split at hy
    · rw [List.mem_singleton.1 hy]; exact ho.sc
    · split at hy
      · cases hy
      · split at hy
        · rcases List.mem_append.1 hy with h | h
          · exact numL_byteO 4 _ y h
          · exact numL_byteO 4 _ y h
        · split at hy
          · exact skL_byte _ y hy
          · split at hy
            · rcases List.mem_cons.1 hy with rfl | hy
              · exact ho.ki
              · rcases List.mem_cons.1 hy with rfl | hy
                · exact ho.ni
                · exact ho.ym y hy
            · cases hy
theorem piece_byte {o : Opt} (ho : o.Ok) {k : Int} (hk : Byte k) : ∀ y ∈ pieceL o k, Byte y := fun y hy => by
  unfold pieceL at hy
  split at hy
  · rcases List.mem_cons.1 hy with rfl | hy
    · exact hk
    · rcases List.mem_cons.1 hy with rfl | hy
      · unfold Byte; omega
      · exact told_byte ho k y hy
  · cases hy
theorem preL_byte {o : Opt} (ho : o.Ok) : ∀ {i : Nat}, i ≤ 6 → ∀ y ∈ preL o i, Byte y
  | 0, _, y, hy => by cases hy
  | i + 1, h, y, hy => by
    rw [preL_step o (by omega)] at hy
    rcases List.mem_append.1 hy with hy | hy
    · exact preL_byte ho (by omega) y hy
    · exact piece_byte ho (kindAt_byte (by omega)) y hy
theorem preL_len {o : Opt} (ho : o.Ok) {i : Nat} (h : i ≤ 6) : (preL o i).length ≤ 37 + 8 * o.sk.length := by
  have h2 : (preL o i).length = preN o i := flat_len ho.lm _
  rw [h2]; exact preN_le o h
theorem preL_four {o : Opt} (ho : o.Ok) : (preL o 4).length ≤ 19 := by
  have h2 : pieceN o 2 ≤ 4 := pieceN_le o 2
  have h3 : pieceN o 3 ≤ 3 := pieceN_le o 3
  have h4 : pieceN o 4 ≤ 2 := pieceN_le o 4
  have h8 : pieceN o 8 ≤ 10 := pieceN_le o 8
  have h : (preL o 4).length = preN o 4 := flat_len ho.lm _
  rw [h]
  simp [preN, kinds]
  omega
/-- the call's own bytes -/
def OwnB (w : World) (T : List Int) (e : Ending) (w' : World) : Prop := ∃ A c, e = .returned (.slice A T.length c) ∧ Own .u8 5 w' w.heap.size (.slice A T.length c) T ∧ Below w.heap.size w w'
def lenOfV : Value → Nat
  | .slice _ n _ => n
  | _ => 0
set_option maxRecDepth 100000 in
set_option maxHeartbeats 8000000 in
theorem bytes_any (o : Opt) (A : Option Addr) (n c : Nat) (w : World) (ho : o.Ok) (hn : o.sk.length = n) (hs : Prs w w.heap.size A n o.sk) (hm : n ≤ 600) :
    Calls Tryd.prog 71 #[.agg (optV o A n c)] w (OwnB w (layL o)) := by
  obtain ⟨C, hC⟩ : ∃ C, C = optV o A n c := ⟨_, rfl⟩
  have OC : OptC C o A n c := by rw [hC]; exact optC ho.lm A n c
  rw [← hC]
  clear hC
  obtain ⟨i0, hi0, hz0, hz1, hz2⟩ := info_parts octC.byte_info
  have T1 := Lib.hid hi0; have T2 := Lib.hid hz0; have T3 := Lib.hid hz1; have T4 := Lib.hid hz2
  clear hi0 hz0 hz1 hz2
  obtain ⟨W, hW⟩ : ∃ W, W = w.alloc (.cells C 31) := ⟨_, rfl⟩
  have R : W.heap[w.heap.size]? = some (.cells C 31 (0, 0)) := by rw [hW]; exact heap_alloc_new _ _
  have HB := Lib.hid (show Below w.heap.size w W by rw [hW]; exact alloc_below _ _)
  have HP := Lib.hid ((hs.below HB.out).more HB.out.size)
  have KRX := Lib.hid (fun (w' : World) (h : Below W.heap.size W w') => (show w'.heap[w.heap.size]? = some (.cells C 31 (0, 0)) by rw [h.block _ (lt_of_row R)]; exact R))
  have K0 := Lib.hid (fun w' (h : Below W.heap.size W w') => pkC.PkC.cell (KRX.out w' h) OC.hm)
  have K1 := Lib.hid (fun w' (h : Below W.heap.size W w') => pkC.PkC.cell (KRX.out w' h) OC.ms)
  have K2 := Lib.hid (fun w' (h : Below W.heap.size W w') => pkC.PkC.cell (KRX.out w' h) OC.hs)
  have K3 := Lib.hid (fun w' (h : Below W.heap.size W w') => pkC.PkC.cell (KRX.out w' h) OC.sc)
  have K4 := Lib.hid (fun w' (h : Below W.heap.size W w') => pkC.PkC.cell (KRX.out w' h) OC.so)
  have K5 := Lib.hid (fun w' (h : Below W.heap.size W w') => pkC.PkC.cell (KRX.out w' h) OC.sk)
  have K6 := Lib.hid (fun w' (h : Below W.heap.size W w') => pkC.PkC.cell (KRX.out w' h) OC.ht)
  have K7 := Lib.hid (fun w' (h : Below W.heap.size W w') => pkC.PkC.cell (KRX.out w' h) OC.va)
  have K8 := Lib.hid (fun w' (h : Below W.heap.size W w') => pkC.PkC.cell (KRX.out w' h) OC.ec)
  have K9 := Lib.hid (fun w' (h : Below W.heap.size W w') => pkC.PkC.cell (KRX.out w' h) OC.ha)
  have K10 := Lib.hid (fun w' (h : Below W.heap.size W w') => pkC.PkC.cell (KRX.out w' h) OC.ki)
  have K11 := Lib.hid (fun w' (h : Below W.heap.size W w') => pkC.PkC.cell (KRX.out w' h) OC.ni)
  have MN0 := Lib.hid (fun w' (h : Below W.heap.size W w') => (show Nums .u8 w' w'.heap.size (some ⟨w.heap.size, 12, none⟩) 12 o.mac from ⟨ho.lm, fun _ => ⟨_, 12, rfl, lt_of_row (KRX.out w' h), fun i hi => pkC.PkC.cell (KRX.out w' h) (OC.mac i _ (by
    have : i < o.mac.length := by rw [ho.lm]; exact hi
    simp [macL, List.getD_eq_getElem?_getD, this]))⟩⟩))
  have PL := Lib.hid (fun i (h : i ≤ 6) => (show (preL o i).length ≤ 5000 by have := preL_len ho h; omega))
  have P4L := Lib.hid (preL_four ho)
  have PB := Lib.hid (fun i (h : i ≤ 6) => preL_byte (o := o) ho h)
  have HY := Lib.hid ho.sk
  have HN := Lib.hid hn
  have HM := Lib.hid hm
  have LM := Lib.hid ho.lm
  have P2 := Lib.hid (fun h => piece2 (o := o) h)
  have P3 := Lib.hid (fun h => piece3 (o := o) h)
  have P4 := Lib.hid (fun h => piece4 (o := o) h)
  have P8 := Lib.hid (fun h => piece8 (o := o) h)
  have P5 := Lib.hid (fun h => piece5 (o := o) h)
  have P29 := Lib.hid (fun h => piece29 (o := o) h)
  have P0 := Lib.hid (fun k h => piece_not (o := o) (k := k) h)
  have S0 := Lib.hid (fun i h => preL_step o (i := i) h)
  have hms := ho.ms
  have hva := ho.va
  have hec := ho.ec
  unfold U32 at hva hec
  have Wms := Lib.hid (show IntKind.u64.wrap o.ms = o.ms from IntWalk.u64_in _ (by omega))
  have Wva := Lib.hid (show IntKind.u64.wrap o.va = o.va from IntWalk.u64_in _ (by omega))
  have Wec := Lib.hid (show IntKind.u64.wrap o.ec = o.ec from IntWalk.u64_in _ (by omega))
  have HD := Lib.hid (show ∀ k, hasB o k = if k = 2 then o.hm else if k = 3 then o.hs else if k = 4 then o.so else if k = 8 then o.ht else if k = 5 then decide (0 < o.sk.length) else if k = 29 then o.ha else false from fun k => rfl)
  have LY := Lib.hid (show layL o = preL o 6 ++ List.replicate (padN (preL o 6).length) 0 by
    unfold layL
    rw [preL_all, body_len ho.lm])
  obtain ⟨XY, hXY⟩ : ∃ XY, XY = layL o := ⟨_, rfl⟩
  rw [← hXY] at LY ⊢
  clear hXY OC ho hn hs hm hms hva hec
  have k0 := K0.out W (Below.refl _ _)
  go_enter Tryd.func71, Tryd.ntmps71
  go_upto_region 1 with fail
  rw [← hW]
  clear hW R
  have BW0 := Lib.hid (Below.refl W.heap.size W)
  go_upto_if 6 with fail
  go_cut [3] from 5 (fun v wc => ∃ (Ab : Option Addr) (L cb : Nat), v = .slice Ab L cb ∧ Own .u8 5 wc W.heap.size (.slice Ab L cb) (preL o 1) ∧ Below W.heap.size W wc)
  case first =>
    obtain ⟨X0, hX0⟩ : ∃ X, X = preL o 0 := ⟨_, rfl⟩
    have HX0 := Lib.hid hX0
    have ST := Lib.hid (S0.out 0 (by decide))
    have LX := Lib.hid (show X0.length ≤ 5000 by rw [hX0]; exact PL.out 0 (by decide))
    have YX := Lib.hid (show ∀ x ∈ X0, Byte x by rw [hX0]; exact PB.out 0 (by decide))
    rw [← hX0] at ST
    rw [show kindAt 0 = 2 from rfl] at ST
    have HO := Lib.hid (show Own .u8 5 W W.heap.size (.slice none 0 0) X0 by rw [hX0]; exact Own.nil _ _)
    have BWC := BW0
    clear hX0
    have LL := Lib.hid HO.out.len
    cases hb : o.hm
    · rw [hb] at k0
      have hE := Lib.hid (show pieceL o 2 = [] from P0.out 2 (by rw [HD.out]; simpa using hb))
      clear hb
      go_wp2_with fail
      go_meet
      exact ⟨none, 0, 0, rfl, by rw [ST.out, hE.out, List.append_nil]; exact HO.out, BWC.out⟩
    · rw [hb] at k0
      have hE := Lib.hid (P2.out hb)
      clear hb
      obtain ⟨vv, hvv⟩ : ∃ v : Value, v = .slice none 0 0 := ⟨_, rfl⟩
      rw [← hvv] at HO
      obtain ⟨X1, hX1⟩ : ∃ X, X0 ++ [2, 4] = X := ⟨_, rfl⟩
      obtain ⟨X2, hX2⟩ : ∃ X, X = preL o 1 := ⟨_, rfl⟩
      obtain ⟨L1, hL1⟩ : ∃ L, X0.length + 2 = L := ⟨_, rfl⟩
      obtain ⟨N, hN⟩ : ∃ N, X2.length = N := ⟨_, rfl⟩
      obtain ⟨gb, hgb⟩ : ∃ g, vv.ownBlock = g := ⟨_, rfl⟩
      have EX2 := Lib.hid (show octC.putL X1 2 [o.ms] = X2 by
        rw [hX2, ST.out, hE.out, ← hX1]; unfold octC.putL; simp [List.append_assoc])
      have Y1 := Lib.hid (show ∀ x ∈ X1, Byte x by
        rw [← hX1]
        intro x hx
        rcases List.mem_append.1 hx with hx | hx
        · exact YX.out x hx
        · simp at hx; unfold Byte; omega)
      have EL1 := Lib.hid hL1
      have EX1 := Lib.hid hX1
      have EN := Lib.hid hN
      have EG := Lib.hid hgb
      have GL := Lib.hid (fun g (h : gb = some g) => (HO.out.blk g (by rw [hgb]; exact h)).2)
      have GB := Lib.hid (fun g (h : gb = some g) => (HO.out.blk g (by rw [hgb]; exact h)).1)
      have Wx1 := Wms
      have Cx1 := K1
      generalize o.ms = x1 at *
      clear hX1 hL1 hN hgb
      go_upto_region 3 with fail
      rw [← hvv]
      have HX2 := Lib.hid hX2
      have HVV := Lib.hid hvv
      clear hvv hX2
      refine with_act fun a0 ha0 => ?_
      have hl : baT.length = a0.tmps.size := by rw [ha0]; rfl
      have k1 : a0.tmps[1]?.getD undef = .pointer (some ⟨w.heap.size, 0, none⟩) := by rw [ha0]; rfl
      have k3 : a0.tmps[3]?.getD undef = vv := by rw [ha0]; rfl
      refine wp_region_che (by kernel_rfl) baT (by kernel_rfl) (by kernel_rfl) hl (fun i => if i = 8 then a0.tmps[3]?.getD undef else a0.tmps[i + 7]?.getD undef) (by rw [ha0]; rfl) (W.heap.size) (Grow gb) [1, 2, 7, 8] (by kernel_rfl) (by decide) (by decide) (BG W gb) (baV w.heap.size gb vv x1) (baR W.heap.size vv X0 X1 X2 L1 N) BWC.out.size ⟨BWC.out.trans (Below.refl _ _).drew, fun k hk => GL.out k hk⟩ ⟨by rw [ha0]; rfl, BWC.out.size, HO.out.keep fun _ _ _ => rfl⟩ (fun w1 w2 hb hd h => h.keep GB.out hd) (fun i v w w' _ hd h => baV.keep _ _ _ _ i v w w' hd h) (fun k us us' w w' h _ hb hR => baR.keep _ _ _ _ _ _ _ k us us' w w' h hb hR) ⟨?_, ?_, ?_, ?_, ?_, ?_, ?_, ?_, ?_, trivial⟩ ?_
      · refine stepE_early 0 1 (.inl rfl) (.inr ⟨_, _, rfl, rfl, by kernel_rfl⟩) [] (by kernel_rfl) (by decide) (by decide) rfl fun us w' k hB hG hV hk hR => ?_
        have hq : us 8 = vv := by
          obtain ⟨h1, h2⟩ := hk
          match k, h1, h2, hR with
          | 0, _, _, hR => exact hR.1
          | 1, _, _, hR => exact hR.1
        have o3 := (frame_at2 (us := us) hl (show (baT[3]?).join = some 8 from rfl)).trans hq
        generalize frame baT a0 us = fr at *
        exact val_C (v := vv) (w' := w') (by go_simp) (Below.refl _ _) rfl
      · refine stepE_chain 0 rfl (by decide) [] (by kernel_rfl) (by decide) rfl fun us w' hB hG hV hR => ?_
        generalize frame baT a0 us = fr at *
        exact val_J (R := fun v w'' => (Grow gb w' w'' ∧ Below W.heap.size w' w'') ∧ baR W.heap.size vv X0 X1 X2 L1 N 1 (upd us 1 v) w'') (v := .slice (some ⟨w'.heap.size, 0, none⟩) 2 2) (w' := w'.alloc (.cells #[.int .u8 2, .int .u8 4] 5)) (by go_simp) ⟨⟨Grow.of _ (alloc_below w' _), (alloc_below w' _).mono hR.2.1⟩, by rw [upd_other _ _ (by decide)]; exact hR.1, Nat.le_trans hR.2.1 (alloc_below w' _).size, hR.2.2.alloc _, w'.heap.size, upd_same _ _ _, heap_alloc_new w' _⟩
      · refine stepE_chain 1 rfl (by decide) [0] (by kernel_rfl) (by decide) rfl fun us w' hB hG hV hR => ?_
        have e0 : us 0 = vv := hV 0 (by simp)
        have v0 := (frame_at2 (us := us) hl (show (baT[7]?).join = some 0 from rfl)).trans e0
        obtain ⟨_, hz, HO, q, e1, hq⟩ := (show us 8 = vv ∧ W.heap.size ≤ w'.heap.size ∧ Own .u8 5 w' W.heap.size vv X0 ∧ ∃ q, us 1 = .slice (some ⟨q, 0, none⟩) 2 2 ∧ w'.heap[q]? = some (.cells #[.int .u8 2, .int .u8 4] 5 (0, 0)) from hR)
        have v1 := (frame_at2 (us := us) hl (show (baT[8]?).join = some 1 from rfl)).trans e1
        generalize frame baT a0 us = fr at *
        exact append_Gr (R := fun v w'' => (Grow gb w' w'' ∧ Below W.heap.size w' w'') ∧ baR W.heap.size vv X0 X1 X2 L1 N 2 (upd us 2 v) w'') (.tmp 7) (.tmp 8) 32 rfl 5 i0 _ 1 Tryd.underlying32 T1.out T2.out T3.out T4.out rfl W.heap.size vv X0 (eval_tmp v0) HO w'.heap.size _ 2 2 [2, 4] (eval_tmp v1) (row_numsO hq rfl 2 rfl) (by have := LX.out; unfold maxLen; omega) (by have := LX.out; omega) hz L1 EL1.out fun A' c' w'' O' B' G' => ⟨⟨EG.out ▸ G', B'⟩, Nat.le_trans hz B'.size, A', c', upd_same _ _ _, EX1.out ▸ O'⟩
      · refine stepE_val [] (by kernel_rfl) (by decide) (by decide) rfl fun us w' hB hG hV => ?_
        have o1 := (frame_old2 (us := us) (a := a0) (show (baT[1]?).join = none from rfl)).trans k1
        generalize frame baT a0 us = fr at *
        exact val_C (v := .pointer (some ⟨w.heap.size, 1, none⟩)) (w' := w') (by go_simp) (Below.refl _ _) rfl
      · refine stepE_val [3] (by kernel_rfl) (by decide) (by decide) rfl fun us w' hB hG hV => ?_
        have e3 : us 3 = .pointer (some ⟨w.heap.size, 1, none⟩) := hV 3 (by simp)
        have v3 := (frame_at2 (us := us) hl (show (baT[10]?).join = some 3 from rfl)).trans e3
        have hc := Cx1.out w' hG.bel
        generalize frame baT a0 us = fr at *
        exact val_C (v := .int .u16 x1) (w' := w') (by go_simp) (Below.refl _ _) rfl
      · refine stepE_val [4] (by kernel_rfl) (by decide) (by decide) rfl fun us w' hB hG hV => ?_
        have e4 : us 4 = .int .u16 x1 := hV 4 (by simp)
        have v4 := (frame_at2 (us := us) hl (show (baT[11]?).join = some 4 from rfl)).trans e4
        have hw := Wx1.out
        generalize frame baT a0 us = fr at *
        exact val_C (v := .int .u64 x1) (w' := w') (by go_simp) (Below.refl _ _) rfl
      · refine stepE_val [5] (by kernel_rfl) (by decide) (by decide) rfl fun us w' hB hG hV => ?_
        have e5 : us 5 = .int .u64 x1 := hV 5 (by simp)
        have v5 := (frame_at2 (us := us) hl (show (baT[12]?).join = some 5 from rfl)).trans e5
        generalize frame baT a0 us = fr at *
        exact val_C (v := .slice (some ⟨w'.heap.size, 0, none⟩) 1 1) (w' := w'.alloc (.cells #[.int .u64 x1] 60)) (by go_simp) (alloc_below _ _) ⟨_, rfl, hG.ne, heap_alloc_new _ _⟩
      · refine stepE_chain 2 rfl (by decide) [6] (by kernel_rfl) (by decide) rfl fun us w' hB hG hV hR => ?_
        obtain ⟨q6, e6, n6, r6⟩ := (show ∃ q, us 6 = .slice (some ⟨q, 0, none⟩) 1 1 ∧ some q ≠ gb ∧ w'.heap[q]? = some (.cells #[.int .u64 x1] 60 (0, 0)) from hV 6 (by simp))
        have v6 := (frame_at2 (us := us) hl (show (baT[13]?).join = some 6 from rfl)).trans e6
        obtain ⟨hz, A2, c2, e2, HO⟩ := (show W.heap.size ≤ w'.heap.size ∧ ∃ A c, us 2 = .slice A L1 c ∧ Own .u8 5 w' W.heap.size (.slice A L1 c) X1 from hR)
        have v2 := (frame_at2 (us := us) hl (show (baT[9]?).join = some 2 from rfl)).trans e2
        generalize frame baT a0 us = fr at *
        exact call_J (R := fun v w'' => (Grow gb w' w'' ∧ Below W.heap.size w' w'') ∧ baR W.heap.size vv X0 X1 X2 L1 N 3 (upd us 7 v) w'') (f := 67) (args := #[.slice A2 L1 c2, .int .i64 2, .slice (some ⟨q6, 0, none⟩) 1 1]) (by go_simp) ((rput_key (bs := X1) (ns := [x1]) 2 2 N X2 rfl (by decide) (key_own HO Y1.out) (row_numsO r6 rfl 1 rfl) (by have := LX.out; have := EL1.out; omega) (by decide) EX2.out EN.out).mono fun e w'' ⟨A', c', h1, h2, h3, h4⟩ => ⟨_, h1, ⟨Grow.of _ h4, h4.mono hz⟩, Nat.le_trans hz h4.size, A', c', upd_same _ _ _, h2.less hz⟩)
      · refine stepE_chain 3 rfl (by decide) [] (by kernel_rfl) (by decide) rfl fun us w' hB hG hV hR => ?_
        obtain ⟨hz, A3, c3, e3, HO⟩ := (show W.heap.size ≤ w'.heap.size ∧ ∃ A c, us 7 = .slice A N c ∧ Own .u8 5 w' W.heap.size (.slice A N c) X2 from hR)
        have v3 := (frame_at2 (us := us) hl (show (baT[14]?).join = some 7 from rfl)).trans e3
        generalize frame baT a0 us = fr at *
        exact val_J (R := fun v w'' => (Grow gb w' w'' ∧ Below W.heap.size w' w'') ∧ baR W.heap.size vv X0 X1 X2 L1 N 4 (upd us 8 v) w'') (v := .slice A3 N c3) (w' := w') (by go_simp) ⟨⟨Grow.of _ (Below.refl _ _), Below.refl _ _⟩, hz, A3, c3, upd_same _ _ _, HO⟩
      · intro us w6 hB2 hG hV hR
        obtain ⟨_, A6, c6, e6, O6⟩ := (show W.heap.size ≤ w6.heap.size ∧ ∃ A c, us 8 = .slice A N c ∧ Own .u8 5 w6 W.heap.size (.slice A N c) X2 from hR)
        have HO6 := Lib.hid O6
        have HG6 := Lib.hid hG.bel
        subst ha0
        simp only [frame, baT, fill]
        rw [e6]
        clear hV hG hl k1 k3 e6 O6 hR
        obtain rfl := HVV.out
        go_wp2_with fail
        go_meet
        exact ⟨A6, N, c6, rfl, by rw [← HX2.out]; exact HO6.out, HG6.out⟩
  case rest =>
  obtain ⟨Ab1, L1, cb1, rfl, O1, B1⟩ := hcut
  have OO1 := Lib.hid O1
  have BB1 := Lib.hid B1
  clear O1
  have k2 := K2.out wc B1
  clear B1
  clear k0
  generalize wc = wc1 at *
  go_upto_if 16 with fail
  go_cut [3] from 5 (fun v wc => ∃ (Ab : Option Addr) (L cb : Nat), v = .slice Ab L cb ∧ Own .u8 5 wc W.heap.size (.slice Ab L cb) (preL o 2) ∧ Below W.heap.size W wc)
  case first =>
    obtain ⟨X0, hX0⟩ : ∃ X, X = preL o 1 := ⟨_, rfl⟩
    have HX0 := Lib.hid hX0
    have ST := Lib.hid (S0.out 1 (by decide))
    have LX := Lib.hid (show X0.length ≤ 5000 by rw [hX0]; exact PL.out 1 (by decide))
    have YX := Lib.hid (show ∀ x ∈ X0, Byte x by rw [hX0]; exact PB.out 1 (by decide))
    rw [← hX0] at ST
    rw [show kindAt 1 = 3 from rfl] at ST
    have HO := Lib.hid (show Own .u8 5 wc1 W.heap.size (.slice Ab1 L1 cb1) X0 by rw [hX0]; exact OO1.out)
    have BWC := BB1
    clear hX0
    have LL := Lib.hid HO.out.len
    cases hb : o.hs
    · rw [hb] at k2
      have hE := Lib.hid (show pieceL o 3 = [] from P0.out 3 (by rw [HD.out]; simpa using hb))
      clear hb
      go_wp2_with fail
      go_meet
      exact ⟨Ab1, L1, cb1, rfl, by rw [ST.out, hE.out, List.append_nil]; exact HO.out, BWC.out⟩
    · rw [hb] at k2
      have hE := Lib.hid (P3.out hb)
      clear hb
      have k3 := K3.out wc1 BWC.out
      generalize o.sc = x at *
      obtain ⟨L2, hL2⟩ : ∃ L2, X0.length + 3 = L2 := ⟨_, rfl⟩
      have E2 := Lib.hid hL2
      clear hL2
      go_wp2_with (at_builtin; (refine wpList_appT _ rfl (.tmp 17) (.tmp 20) _ rfl 5 i0 _ 1 Tryd.underlying32 T1.out T2.out T3.out T4.out rfl W.heap.size _ X0 rfl (HO.out.alloc _) (wc1.heap.size + 1) (some ⟨wc1.heap.size, 0, none⟩) 3 3 [3, 3, x] rfl (lit_nums .u8 wc1 [3, 3, x] 5 _ rfl 3 rfl) (by simp only [maxLen]; have := LX.out; omega) (by have := LX.out; omega) (Nat.le_trans BWC.out.size (alloc_below _ _).size) L2 E2.out ?_)
                   intro A4 c4 w4 g1 g2 O4 B4
                   have HO4 := Lib.hid O4
                   have HB4 := Lib.hid ((BWC.out.trans ((alloc_below wc1 _).mono BWC.out.size)).trans B4)
                   clear O4 B4 g1 g2)
      go_meet
      exact ⟨A4, L2, c4, rfl, by rw [ST.out, hE.out]; exact HO4.out, HB4.out⟩
  case rest =>
  obtain ⟨Ab2, L2, cb2, rfl, O2, B2⟩ := hcut
  have OO2 := Lib.hid O2
  have BB2 := Lib.hid B2
  clear O2
  have k4 := K4.out wc B2
  clear B2
  clear k2
  generalize wc = wc2 at *
  go_upto_if 23 with fail
  go_cut [3] from 5 (fun v wc => ∃ (Ab : Option Addr) (L cb : Nat), v = .slice Ab L cb ∧ Own .u8 5 wc W.heap.size (.slice Ab L cb) (preL o 3) ∧ Below W.heap.size W wc)
  case first =>
    obtain ⟨X0, hX0⟩ : ∃ X, X = preL o 2 := ⟨_, rfl⟩
    have HX0 := Lib.hid hX0
    have ST := Lib.hid (S0.out 2 (by decide))
    have LX := Lib.hid (show X0.length ≤ 5000 by rw [hX0]; exact PL.out 2 (by decide))
    have YX := Lib.hid (show ∀ x ∈ X0, Byte x by rw [hX0]; exact PB.out 2 (by decide))
    rw [← hX0] at ST
    rw [show kindAt 2 = 4 from rfl] at ST
    have HO := Lib.hid (show Own .u8 5 wc2 W.heap.size (.slice Ab2 L2 cb2) X0 by rw [hX0]; exact OO2.out)
    have BWC := BB2
    clear hX0
    have LL := Lib.hid HO.out.len
    cases hb : o.so
    · rw [hb] at k4
      have hE := Lib.hid (show pieceL o 4 = [] from P0.out 4 (by rw [HD.out]; simpa using hb))
      clear hb
      go_wp2_with fail
      go_meet
      exact ⟨Ab2, L2, cb2, rfl, by rw [ST.out, hE.out, List.append_nil]; exact HO.out, BWC.out⟩
    · rw [hb] at k4
      have hE := Lib.hid (P4.out hb)
      clear hb
      obtain ⟨L2, hL2⟩ : ∃ L2, X0.length + 2 = L2 := ⟨_, rfl⟩
      have E2 := Lib.hid hL2
      clear hL2
      go_wp2_with (at_builtin; (refine wpList_appT _ rfl (.tmp 24) (.tmp 25) _ rfl 5 i0 _ 1 Tryd.underlying32 T1.out T2.out T3.out T4.out rfl W.heap.size _ X0 rfl (HO.out.alloc _) (wc2.heap.size + 1) (some ⟨wc2.heap.size, 0, none⟩) 2 2 [4, 2] rfl (lit_nums .u8 wc2 [4, 2] 5 _ rfl 2 rfl) (by simp only [maxLen]; have := LX.out; omega) (by have := LX.out; omega) (Nat.le_trans BWC.out.size (alloc_below _ _).size) L2 E2.out ?_)
                   intro A4 c4 w4 g1 g2 O4 B4
                   have HO4 := Lib.hid O4
                   have HB4 := Lib.hid ((BWC.out.trans ((alloc_below wc2 _).mono BWC.out.size)).trans B4)
                   clear O4 B4 g1 g2)
      go_meet
      exact ⟨A4, L2, c4, rfl, by rw [ST.out, hE.out]; exact HO4.out, HB4.out⟩
  case rest =>
  obtain ⟨Ab3, L3, cb3, rfl, O3, B3⟩ := hcut
  have OO3 := Lib.hid O3
  have BB3 := Lib.hid B3
  clear O3
  have k6 := K6.out wc B3
  clear B3
  clear k4
  generalize wc = wc3 at *
  go_upto_if 28 with fail
  go_cut [3] from 5 (fun v wc => ∃ (Ab : Option Addr) (L cb : Nat), v = .slice Ab L cb ∧ Own .u8 5 wc W.heap.size (.slice Ab L cb) (preL o 4) ∧ Below W.heap.size W wc)
  case first =>
    obtain ⟨X0, hX0⟩ : ∃ X, X = preL o 3 := ⟨_, rfl⟩
    have HX0 := Lib.hid hX0
    have ST := Lib.hid (S0.out 3 (by decide))
    have LX := Lib.hid (show X0.length ≤ 5000 by rw [hX0]; exact PL.out 3 (by decide))
    have YX := Lib.hid (show ∀ x ∈ X0, Byte x by rw [hX0]; exact PB.out 3 (by decide))
    rw [← hX0] at ST
    rw [show kindAt 3 = 8 from rfl] at ST
    have HO := Lib.hid (show Own .u8 5 wc3 W.heap.size (.slice Ab3 L3 cb3) X0 by rw [hX0]; exact OO3.out)
    have BWC := BB3
    clear hX0
    have LL := Lib.hid HO.out.len
    cases hb : o.ht
    · rw [hb] at k6
      have hE := Lib.hid (show pieceL o 8 = [] from P0.out 8 (by rw [HD.out]; simpa using hb))
      clear hb
      go_wp2_with fail
      go_meet
      exact ⟨Ab3, L3, cb3, rfl, by rw [ST.out, hE.out, List.append_nil]; exact HO.out, BWC.out⟩
    · rw [hb] at k6
      have hE := Lib.hid (P8.out hb)
      clear hb
      obtain ⟨vv, hvv⟩ : ∃ v : Value, v = .slice Ab3 L3 cb3 := ⟨_, rfl⟩
      rw [← hvv] at HO
      obtain ⟨X1, hX1⟩ : ∃ X, X0 ++ [8, 10] = X := ⟨_, rfl⟩
      obtain ⟨X2, hX2⟩ : ∃ X, X = preL o 4 := ⟨_, rfl⟩
      obtain ⟨L1, hL1⟩ : ∃ L, X0.length + 2 = L := ⟨_, rfl⟩
      obtain ⟨N, hN⟩ : ∃ N, X2.length = N := ⟨_, rfl⟩
      obtain ⟨gb, hgb⟩ : ∃ g, vv.ownBlock = g := ⟨_, rfl⟩
      have EX2 := Lib.hid (show octC.putL X1 4 [o.va, o.ec] = X2 by
        rw [hX2, ST.out, hE.out, ← hX1]; unfold octC.putL; simp [List.append_assoc])
      have Y1 := Lib.hid (show ∀ x ∈ X1, Byte x by
        rw [← hX1]
        intro x hx
        rcases List.mem_append.1 hx with hx | hx
        · exact YX.out x hx
        · simp at hx; unfold Byte; omega)
      have EL1 := Lib.hid hL1
      have EX1 := Lib.hid hX1
      have EN := Lib.hid hN
      have EG := Lib.hid hgb
      have GL := Lib.hid (fun g (h : gb = some g) => (HO.out.blk g (by rw [hgb]; exact h)).2)
      have GB := Lib.hid (fun g (h : gb = some g) => (HO.out.blk g (by rw [hgb]; exact h)).1)
      have Wx1 := Wva
      have Cx1 := K7
      have Wx2 := Wec
      have Cx2 := K8
      generalize o.va = x1 at *
      generalize o.ec = x2 at *
      clear hX1 hL1 hN hgb
      go_upto_region 9 with fail
      rw [← hvv]
      have HX2 := Lib.hid hX2
      have HVV := Lib.hid hvv
      clear hvv hX2
      refine with_act fun a0 ha0 => ?_
      have hl : bbT.length = a0.tmps.size := by rw [ha0]; rfl
      have k1 : a0.tmps[1]?.getD undef = .pointer (some ⟨w.heap.size, 0, none⟩) := by rw [ha0]; rfl
      have k3 : a0.tmps[3]?.getD undef = vv := by rw [ha0]; rfl
      refine wp_region_che (by kernel_rfl) bbT (by kernel_rfl) (by kernel_rfl) hl (fun i => if i = 11 then a0.tmps[3]?.getD undef else a0.tmps[i + 29]?.getD undef) (by rw [ha0]; rfl) (W.heap.size) (Grow gb) [1, 2, 10, 11] (by kernel_rfl) (by decide) (by decide) (BG W gb) (bbV w.heap.size gb vv x1 x2) (bbR W.heap.size vv X0 X1 X2 L1 N) BWC.out.size ⟨BWC.out.trans (Below.refl _ _).drew, fun k hk => GL.out k hk⟩ ⟨by rw [ha0]; rfl, BWC.out.size, HO.out.keep fun _ _ _ => rfl⟩ (fun w1 w2 hb hd h => h.keep GB.out hd) (fun i v w w' _ hd h => bbV.keep _ _ _ _ _ i v w w' hd h) (fun k us us' w w' h _ hb hR => bbR.keep _ _ _ _ _ _ _ k us us' w w' h hb hR) ⟨?_, ?_, ?_, ?_, ?_, ?_, ?_, ?_, ?_, ?_, ?_, ?_, trivial⟩ ?_
      · refine stepE_early 0 1 (.inl rfl) (.inr ⟨_, _, rfl, rfl, by kernel_rfl⟩) [] (by kernel_rfl) (by decide) (by decide) rfl fun us w' k hB hG hV hk hR => ?_
        have hq : us 11 = vv := by
          obtain ⟨h1, h2⟩ := hk
          match k, h1, h2, hR with
          | 0, _, _, hR => exact hR.1
          | 1, _, _, hR => exact hR.1
        have o3 := (frame_at2 (us := us) hl (show (bbT[3]?).join = some 11 from rfl)).trans hq
        generalize frame bbT a0 us = fr at *
        exact val_C (v := vv) (w' := w') (by go_simp) (Below.refl _ _) rfl
      · refine stepE_chain 0 rfl (by decide) [] (by kernel_rfl) (by decide) rfl fun us w' hB hG hV hR => ?_
        generalize frame bbT a0 us = fr at *
        exact val_J (R := fun v w'' => (Grow gb w' w'' ∧ Below W.heap.size w' w'') ∧ bbR W.heap.size vv X0 X1 X2 L1 N 1 (upd us 1 v) w'') (v := .slice (some ⟨w'.heap.size, 0, none⟩) 2 2) (w' := w'.alloc (.cells #[.int .u8 8, .int .u8 10] 5)) (by go_simp) ⟨⟨Grow.of _ (alloc_below w' _), (alloc_below w' _).mono hR.2.1⟩, by rw [upd_other _ _ (by decide)]; exact hR.1, Nat.le_trans hR.2.1 (alloc_below w' _).size, hR.2.2.alloc _, w'.heap.size, upd_same _ _ _, heap_alloc_new w' _⟩
      · refine stepE_chain 1 rfl (by decide) [0] (by kernel_rfl) (by decide) rfl fun us w' hB hG hV hR => ?_
        have e0 : us 0 = vv := hV 0 (by simp)
        have v0 := (frame_at2 (us := us) hl (show (bbT[29]?).join = some 0 from rfl)).trans e0
        obtain ⟨_, hz, HO, q, e1, hq⟩ := (show us 11 = vv ∧ W.heap.size ≤ w'.heap.size ∧ Own .u8 5 w' W.heap.size vv X0 ∧ ∃ q, us 1 = .slice (some ⟨q, 0, none⟩) 2 2 ∧ w'.heap[q]? = some (.cells #[.int .u8 8, .int .u8 10] 5 (0, 0)) from hR)
        have v1 := (frame_at2 (us := us) hl (show (bbT[30]?).join = some 1 from rfl)).trans e1
        generalize frame bbT a0 us = fr at *
        exact append_Gr (R := fun v w'' => (Grow gb w' w'' ∧ Below W.heap.size w' w'') ∧ bbR W.heap.size vv X0 X1 X2 L1 N 2 (upd us 2 v) w'') (.tmp 29) (.tmp 30) 32 rfl 5 i0 _ 1 Tryd.underlying32 T1.out T2.out T3.out T4.out rfl W.heap.size vv X0 (eval_tmp v0) HO w'.heap.size _ 2 2 [8, 10] (eval_tmp v1) (row_numsO hq rfl 2 rfl) (by have := LX.out; unfold maxLen; omega) (by have := LX.out; omega) hz L1 EL1.out fun A' c' w'' O' B' G' => ⟨⟨EG.out ▸ G', B'⟩, Nat.le_trans hz B'.size, A', c', upd_same _ _ _, EX1.out ▸ O'⟩
      · refine stepE_val [] (by kernel_rfl) (by decide) (by decide) rfl fun us w' hB hG hV => ?_
        have o1 := (frame_old2 (us := us) (a := a0) (show (bbT[1]?).join = none from rfl)).trans k1
        generalize frame bbT a0 us = fr at *
        exact val_C (v := .pointer (some ⟨w.heap.size, 7, none⟩)) (w' := w') (by go_simp) (Below.refl _ _) rfl
      · refine stepE_val [3] (by kernel_rfl) (by decide) (by decide) rfl fun us w' hB hG hV => ?_
        have e3 : us 3 = .pointer (some ⟨w.heap.size, 7, none⟩) := hV 3 (by simp)
        have v3 := (frame_at2 (us := us) hl (show (bbT[32]?).join = some 3 from rfl)).trans e3
        have hc := Cx1.out w' hG.bel
        generalize frame bbT a0 us = fr at *
        exact val_C (v := .int .u32 x1) (w' := w') (by go_simp) (Below.refl _ _) rfl
      · refine stepE_val [4] (by kernel_rfl) (by decide) (by decide) rfl fun us w' hB hG hV => ?_
        have e4 : us 4 = .int .u32 x1 := hV 4 (by simp)
        have v4 := (frame_at2 (us := us) hl (show (bbT[33]?).join = some 4 from rfl)).trans e4
        have hw := Wx1.out
        generalize frame bbT a0 us = fr at *
        exact val_C (v := .int .u64 x1) (w' := w') (by go_simp) (Below.refl _ _) rfl
      · refine stepE_val [] (by kernel_rfl) (by decide) (by decide) rfl fun us w' hB hG hV => ?_
        have o1 := (frame_old2 (us := us) (a := a0) (show (bbT[1]?).join = none from rfl)).trans k1
        generalize frame bbT a0 us = fr at *
        exact val_C (v := .pointer (some ⟨w.heap.size, 8, none⟩)) (w' := w') (by go_simp) (Below.refl _ _) rfl
      · refine stepE_val [6] (by kernel_rfl) (by decide) (by decide) rfl fun us w' hB hG hV => ?_
        have e6 : us 6 = .pointer (some ⟨w.heap.size, 8, none⟩) := hV 6 (by simp)
        have v6 := (frame_at2 (us := us) hl (show (bbT[35]?).join = some 6 from rfl)).trans e6
        have hc := Cx2.out w' hG.bel
        generalize frame bbT a0 us = fr at *
        exact val_C (v := .int .u32 x2) (w' := w') (by go_simp) (Below.refl _ _) rfl
      · refine stepE_val [7] (by kernel_rfl) (by decide) (by decide) rfl fun us w' hB hG hV => ?_
        have e7 : us 7 = .int .u32 x2 := hV 7 (by simp)
        have v7 := (frame_at2 (us := us) hl (show (bbT[36]?).join = some 7 from rfl)).trans e7
        have hw := Wx2.out
        generalize frame bbT a0 us = fr at *
        exact val_C (v := .int .u64 x2) (w' := w') (by go_simp) (Below.refl _ _) rfl
      · refine stepE_val [5, 8] (by kernel_rfl) (by decide) (by decide) rfl fun us w' hB hG hV => ?_
        have e5 : us 5 = .int .u64 x1 := hV 5 (by simp)
        have v5 := (frame_at2 (us := us) hl (show (bbT[34]?).join = some 5 from rfl)).trans e5
        have e8 : us 8 = .int .u64 x2 := hV 8 (by simp)
        have v8 := (frame_at2 (us := us) hl (show (bbT[37]?).join = some 8 from rfl)).trans e8
        generalize frame bbT a0 us = fr at *
        exact val_C (v := .slice (some ⟨w'.heap.size, 0, none⟩) 2 2) (w' := w'.alloc (.cells #[.int .u64 x1, .int .u64 x2] 60)) (by go_simp) (alloc_below _ _) ⟨_, rfl, hG.ne, heap_alloc_new _ _⟩
      · refine stepE_chain 2 rfl (by decide) [9] (by kernel_rfl) (by decide) rfl fun us w' hB hG hV hR => ?_
        obtain ⟨q9, e9, n9, r9⟩ := (show ∃ q, us 9 = .slice (some ⟨q, 0, none⟩) 2 2 ∧ some q ≠ gb ∧ w'.heap[q]? = some (.cells #[.int .u64 x1, .int .u64 x2] 60 (0, 0)) from hV 9 (by simp))
        have v9 := (frame_at2 (us := us) hl (show (bbT[38]?).join = some 9 from rfl)).trans e9
        obtain ⟨hz, A2, c2, e2, HO⟩ := (show W.heap.size ≤ w'.heap.size ∧ ∃ A c, us 2 = .slice A L1 c ∧ Own .u8 5 w' W.heap.size (.slice A L1 c) X1 from hR)
        have v2 := (frame_at2 (us := us) hl (show (bbT[31]?).join = some 2 from rfl)).trans e2
        generalize frame bbT a0 us = fr at *
        exact call_J (R := fun v w'' => (Grow gb w' w'' ∧ Below W.heap.size w' w'') ∧ bbR W.heap.size vv X0 X1 X2 L1 N 3 (upd us 10 v) w'') (f := 67) (args := #[.slice A2 L1 c2, .int .i64 4, .slice (some ⟨q9, 0, none⟩) 2 2]) (by go_simp) ((rput_key (bs := X1) (ns := [x1, x2]) 4 4 N X2 rfl (by decide) (key_own HO Y1.out) (row_numsO r9 rfl 2 rfl) (by have := LX.out; have := EL1.out; omega) (by decide) EX2.out EN.out).mono fun e w'' ⟨A', c', h1, h2, h3, h4⟩ => ⟨_, h1, ⟨Grow.of _ h4, h4.mono hz⟩, Nat.le_trans hz h4.size, A', c', upd_same _ _ _, h2.less hz⟩)
      · refine stepE_chain 3 rfl (by decide) [] (by kernel_rfl) (by decide) rfl fun us w' hB hG hV hR => ?_
        obtain ⟨hz, A3, c3, e3, HO⟩ := (show W.heap.size ≤ w'.heap.size ∧ ∃ A c, us 10 = .slice A N c ∧ Own .u8 5 w' W.heap.size (.slice A N c) X2 from hR)
        have v3 := (frame_at2 (us := us) hl (show (bbT[39]?).join = some 10 from rfl)).trans e3
        generalize frame bbT a0 us = fr at *
        exact val_J (R := fun v w'' => (Grow gb w' w'' ∧ Below W.heap.size w' w'') ∧ bbR W.heap.size vv X0 X1 X2 L1 N 4 (upd us 11 v) w'') (v := .slice A3 N c3) (w' := w') (by go_simp) ⟨⟨Grow.of _ (Below.refl _ _), Below.refl _ _⟩, hz, A3, c3, upd_same _ _ _, HO⟩
      · intro us w6 hB2 hG hV hR
        obtain ⟨_, A6, c6, e6, O6⟩ := (show W.heap.size ≤ w6.heap.size ∧ ∃ A c, us 11 = .slice A N c ∧ Own .u8 5 w6 W.heap.size (.slice A N c) X2 from hR)
        have HO6 := Lib.hid O6
        have HG6 := Lib.hid hG.bel
        subst ha0
        simp only [frame, bbT, fill]
        rw [e6]
        clear hV hG hl k1 k3 e6 O6 hR
        obtain rfl := HVV.out
        go_wp2_with fail
        go_meet
        exact ⟨A6, N, c6, rfl, by rw [← HX2.out]; exact HO6.out, HG6.out⟩
  case rest =>
  obtain ⟨Ab4, L4, cb4, rfl, O4, B4⟩ := hcut
  have OO4 := Lib.hid O4
  have BB4 := Lib.hid B4
  clear O4
  have k5 := K5.out wc B4
  clear B4
  clear k6
  generalize wc = wc4 at *
  go_upto_if 43 with fail
  go_cut [3] from 5 (fun v wc => ∃ (Ab : Option Addr) (L cb : Nat), v = .slice Ab L cb ∧ Own .u8 5 wc W.heap.size (.slice Ab L cb) (preL o 5) ∧ Below W.heap.size W wc)
  case first =>
    obtain ⟨X0, hX0⟩ : ∃ X, X = preL o 4 := ⟨_, rfl⟩
    have HX0 := Lib.hid hX0
    have ST := Lib.hid (S0.out 4 (by decide))
    have LX := Lib.hid (show X0.length ≤ 5000 by rw [hX0]; exact PL.out 4 (by decide))
    have YX := Lib.hid (show ∀ x ∈ X0, Byte x by rw [hX0]; exact PB.out 4 (by decide))
    rw [← hX0] at ST
    rw [show kindAt 4 = 5 from rfl] at ST
    have HO := Lib.hid (show Own .u8 5 wc4 W.heap.size (.slice Ab4 L4 cb4) X0 by rw [hX0]; exact OO4.out)
    have BWC := BB4
    clear hX0
    have LL := Lib.hid HO.out.len
    by_cases hb : 0 < n
    rotate_left
    · have q : ¬ (0 : Int) < (n : Int) := by omega
      have dq : decide ((0 : Int) < (n : Int)) = false := decide_eq_false q
      have hE := Lib.hid (show pieceL o 5 = [] from P0.out 5 (by rw [HD.out]; have h0 : o.sk = [] := List.eq_nil_of_length_eq_zero (by rw [HN.out]; omega); simp [h0]))
      clear hb
      go_wp2_with fail
      go_meet
      exact ⟨Ab4, L4, cb4, rfl, by rw [ST.out, hE.out, List.append_nil]; exact HO.out, BWC.out⟩
    · have q : (0 : Int) < (n : Int) := by omega
      have hE := Lib.hid (P5.out (by rw [HN.out]; exact hb))
      have HBP := Lib.hid hb
      clear hb
      have c5 := K5.out wc4 BWC.out
      obtain ⟨L2, hL2⟩ : ∃ L2, X0.length + 2 = L2 := ⟨_, rfl⟩
      have E2 := Lib.hid hL2
      clear hL2
      have hm9 := HM.out
      obtain ⟨z, hz⟩ : ∃ z, z = (2 + 8 * n) % 256 := ⟨_, rfl⟩
      have w1 : IntKind.i64.wrap (8 * (n : Int)) = 8 * (n : Int) := IntWalk.i64_in _ (by omega)
      have w2 : IntKind.i64.wrap (2 + 8 * (n : Int)) = 2 + 8 * (n : Int) := IntWalk.i64_in _ (by omega)
      have w3 : IntKind.u8.wrap (2 + 8 * (n : Int)) = (z : Int) := by rw [IntKind.wrap_u8, hz]; omega
      rw [HN.out, ← hz] at hE
      have LX4 := Lib.hid (show X0.length ≤ 19 by rw [HX0.out]; exact P4L.out)
      have PZ := Lib.hid (show Byte (z : Int) by unfold Byte; omega)
      clear hz
      obtain ⟨l, hl⟩ : ∃ l, l = o.sk := ⟨_, rfl⟩
      rw [← hl] at hE HP HY HN
      have HL := Lib.hid hl
      clear hl
      go_upto_region 13 with (at_builtin; (refine wpList_appT _ rfl (.tmp 44) (.tmp 51) _ rfl 5 i0 _ 1 Tryd.underlying32 T1.out T2.out T3.out T4.out rfl W.heap.size _ X0 rfl (HO.out.alloc _) (wc4.heap.size + 1) (some ⟨wc4.heap.size, 0, none⟩) 2 2 [5, (z : Int)] rfl (lit_nums .u8 wc4 [5, (z : Int)] 5 _ rfl 2 rfl) (by simp only [maxLen]; have := LX.out; omega) (by have := LX.out; omega) (Nat.le_trans BWC.out.size (alloc_below _ _).size) L2 E2.out ?_)
                              intro A4 c4 w4 g1 g2 O4 B4
                              have HO4 := Lib.hid O4
                              have HB4 := Lib.hid ((BWC.out.trans ((alloc_below wc4 _).mono BWC.out.size)).trans B4)
                              clear O4 B4 g1 g2)
      clear c5 w1 w2 w3
      obtain ⟨XH, hXH⟩ : ∃ X, X = X0 ++ [5, (z : Int)] := ⟨_, rfl⟩
      rw [← hXH] at HO4
      have LXH := Lib.hid (show XH.length = L2 by rw [hXH]; have := E2.out; simp; omega)
      have YXH := Lib.hid (show ∀ x ∈ XH, Byte x by
        rw [hXH]
        intro x hx
        rcases List.mem_append.1 hx with hx | hx
        · exact YX.out x hx
        · simp at hx
          rcases hx with rfl | rfl
          · unfold Byte; omega
          · exact PZ.out)
      have EH := Lib.hid hXH
      clear hXH
      go_loopw [3, 4] (fun v u wr => ∃ (i : Nat) (Ab : Option Addr) (L cb : Nat), i ≤ n ∧ L = L2 + 8 * i ∧ v = .slice Ab L cb ∧ u = .int .i64 i ∧ Own .u8 5 wr W.heap.size (.slice Ab L cb) (XH ++ skL (l.take i)) ∧ Below W.heap.size W wr) (fun _ u _ => n - (intOf u).toNat)
      case atStart => exact ⟨0, A4, L2, c4, by omega, by omega, rfl, rfl, by simpa [skL] using HO4.out, HB4.out⟩
      case round =>
        obtain ⟨i, Ab, L, cb, hi, hL, rfl, rfl, O, BW⟩ := hrel
        have BWC := Lib.hid BW
        have c5 := K5.out wr BW
        by_cases hlt : i < n
        · obtain ⟨b1, o1, hA, hb, e0, e1⟩ := HP.out.cell hlt
          have hst := sk_drop (l := l) (i := i) (by rw [HN.out]; exact hlt)
          obtain ⟨yx, yy⟩ := HY.out (l.getD i (0, 0)) (by
            rw [List.getD_eq_getElem?_getD, List.getElem?_eq_getElem (by rw [HN.out]; exact hlt)]; exact List.getElem_mem _)
          unfold U32 at yx yy
          have q6 : (i : Int) < (n : Int) := by omega
          have wi : IntKind.i64.wrap ((i : Int) + 1) = (i : Int) + 1 := IntWalk.i64_in _ (by omega)
          have HI := Lib.hid hlt
          generalize (l.getD i (0, 0)).1 = x at *
          generalize (l.getD i (0, 0)).2 = y at *
          have WXI := Lib.hid (show IntKind.u64.wrap x = x from IntWalk.u64_in _ (by omega))
          have WY := Lib.hid (show IntKind.u64.wrap y = y from IntWalk.u64_in _ (by omega))
          have CX := Lib.hid (fun w' (h : Gr wr w') => (Below.cell (BW.trans (Below.mono h BW.size)) (p := ⟨b1, o1 + i * 2, none⟩) hb).trans e0)
          have CY := Lib.hid (fun w' (h : Gr wr w') => (Below.cell (BW.trans (Below.mono h BW.size)) (p := ⟨b1, o1 + i * 2 + 1, none⟩) hb).trans e1)
          have S5 := Lib.hid (fun w' (h : Gr wr w') => K5.out w' (BWC.out.trans (Below.mono h BWC.out.size)))
          have I1 := Lib.hid (show (i : Int) < (n : Int) by omega)
          have KI := Lib.hid (show (0 : Int) ≤ (i : Int) by omega)
          obtain ⟨X0', hX0'⟩ : ∃ X, X = XH ++ skL (l.take i) := ⟨_, rfl⟩
          obtain ⟨X2, hX2⟩ : ∃ X, X = XH ++ skL (l.take (i + 1)) := ⟨_, rfl⟩
          obtain ⟨N, hN⟩ : ∃ N, X2.length = N := ⟨_, rfl⟩
          rw [← hX0'] at O
          have KY := Lib.hid (fun w' (h : Gr wr w') => key_below (key_own O (by
            rw [hX0']
            intro x hx
            rcases List.mem_append.1 hx with hx | hx
            · exact YXH.out x hx
            · exact skL_byte _ x hx)) h)
          have EX2 := Lib.hid (show octC.putL X0' 4 [x, y] = X2 by rw [hX2, hst, hX0']; unfold octC.putL; simp [List.append_assoc])
          have hl8 : (skL (l.take i)).length = 8 * i := by rw [skL_len, List.length_take, HN.out]; omega
          have hl9 : (skL (l.take (i + 1))).length = 8 * (i + 1) := by rw [skL_len, List.length_take, HN.out]; omega
          have LX' := Lib.hid (show L ≤ 9000 by have h1 := LX4.out; have h2 := E2.out; omega)
          have EL0 := Lib.hid hL
          have ENL := Lib.hid (show N = L + 8 by rw [← hN, hX2, List.length_append, LXH.out, hl9]; omega)
          have EN := Lib.hid hN
          have HX2 := Lib.hid hX2
          subst hA
          clear O BW hi hlt hL hst yx yy e0 e1 hb hN hX0' hX2 hl8 hl9
          go_upto_region 15 with fail
          clear c5
          have LX := LX'
          have X0 := X0'
          refine with_act fun a0 ha0 => ?_
          have hl : bdT.length = a0.tmps.size := by rw [ha0]; rfl
          have k1 : a0.tmps[1]?.getD undef = .pointer (some ⟨w.heap.size, 0, none⟩) := by rw [ha0]; rfl
          have k3 : a0.tmps[3]?.getD undef = .slice Ab L cb := by rw [ha0]; rfl
          have k4 : a0.tmps[4]?.getD undef = .int .i64 i := by rw [ha0]; rfl
          refine wp_region_che (by kernel_rfl) bdT (by kernel_rfl) (by kernel_rfl) hl (fun i => if i = 17 then a0.tmps[3]?.getD undef else a0.tmps[i + 60]?.getD undef) (by rw [ha0]; rfl) (wr.heap.size) (fun w w' => w' = w) [17] (by kernel_rfl) (by decide) (by decide) (Gr wr) (bdV w.heap.size W.heap.size b1 o1 i n c L N Ab cb x y X2) (bdR W.heap.size (.slice Ab L cb) X2 N) (Nat.le_refl _) (gr_drewG _ _) (by rw [ha0]; rfl) (fun w1 w2 hb hd h => by rcases hd with hd | rfl; exact h.below hd; exact h) (fun i v w w' _ hd h => bdV.keep _ _ _ _ _ _ _ _ _ _ _ _ _ _ i v w w' hd h) (fun k us us' w w' h _ hb hR => bdR.keep _ _ _ _ k us us' w w' h hb hR) ⟨?_, ?_, ?_, ?_, ?_, ?_, ?_, ?_, ?_, ?_, ?_, ?_, ?_, ?_, ?_, ?_, ?_, ?_, trivial⟩ ?_
          · refine stepE_early 0 0 (.inl rfl) (.inr ⟨_, _, rfl, rfl, by kernel_rfl⟩) [] (by kernel_rfl) (by decide) (by decide) rfl fun us w' k hB hG hV hk hR => ?_
            have hq : us 17 = .slice Ab L cb := by
              obtain ⟨h1, h2⟩ := hk
              match k, h1, h2, hR with
              | 0, _, _, hR => exact hR
            have o3 := (frame_at2 (us := us) hl (show (bdT[3]?).join = some 17 from rfl)).trans hq
            generalize frame bdT a0 us = fr at *
            exact val_C (v := .slice Ab L cb) (w' := w') (by go_simp) (Below.refl _ _) rfl
          · refine stepE_val [] (by kernel_rfl) (by decide) (by decide) rfl fun us w' hB hG hV => ?_
            have o1 := (frame_old2 (us := us) (a := a0) (show (bdT[1]?).join = none from rfl)).trans k1
            generalize frame bdT a0 us = fr at *
            exact val_C (v := .pointer (some ⟨w.heap.size, 5, none⟩)) (w' := w') (by go_simp) (Below.refl _ _) rfl
          · refine stepE_val [1] (by kernel_rfl) (by decide) (by decide) rfl fun us w' hB hG hV => ?_
            have e1 : us 1 = .pointer (some ⟨w.heap.size, 5, none⟩) := hV 1 (by simp)
            have v1 := (frame_at2 (us := us) hl (show (bdT[61]?).join = some 1 from rfl)).trans e1
            have hc := S5.out w' hG
            generalize frame bdT a0 us = fr at *
            exact val_C (v := .slice (some ⟨b1, o1, none⟩) n c) (w' := w') (by go_simp) (Below.refl _ _) rfl
          · refine stepE_val [] (by kernel_rfl) (by decide) (by decide) rfl fun us w' hB hG hV => ?_
            have o4 := (frame_old2 (us := us) (a := a0) (show (bdT[4]?).join = none from rfl)).trans k4
            generalize frame bdT a0 us = fr at *
            exact val_C (v := .int .i64 i) (w' := w') (by go_simp) (Below.refl _ _) rfl
          · refine stepE_val [2, 3] (by kernel_rfl) (by decide) (by decide) rfl fun us w' hB hG hV => ?_
            have e2 : us 2 = .slice (some ⟨b1, o1, none⟩) n c := hV 2 (by simp)
            have v2 := (frame_at2 (us := us) hl (show (bdT[62]?).join = some 2 from rfl)).trans e2
            have e3 : us 3 = .int .i64 i := hV 3 (by simp)
            have v3 := (frame_at2 (us := us) hl (show (bdT[63]?).join = some 3 from rfl)).trans e3
            have hi := I1.out
            have hk := KI.out
            generalize frame bdT a0 us = fr at *
            exact val_C (v := .pointer (some ⟨b1, o1 + i * 2, none⟩)) (w' := w') (by go_simp) (Below.refl _ _) rfl
          · refine stepE_val [4] (by kernel_rfl) (by decide) (by decide) rfl fun us w' hB hG hV => ?_
            have e4 : us 4 = .pointer (some ⟨b1, o1 + i * 2, none⟩) := hV 4 (by simp)
            have v4 := (frame_at2 (us := us) hl (show (bdT[64]?).join = some 4 from rfl)).trans e4
            generalize frame bdT a0 us = fr at *
            exact val_C (v := .pointer (some ⟨b1, o1 + i * 2, none⟩)) (w' := w') (by go_simp) (Below.refl _ _) rfl
          · refine stepE_val [5] (by kernel_rfl) (by decide) (by decide) rfl fun us w' hB hG hV => ?_
            have e5 : us 5 = .pointer (some ⟨b1, o1 + i * 2, none⟩) := hV 5 (by simp)
            have v5 := (frame_at2 (us := us) hl (show (bdT[65]?).join = some 5 from rfl)).trans e5
            have hc := CX.out w' hG
            generalize frame bdT a0 us = fr at *
            exact val_C (v := .int .u32 x) (w' := w') (by go_simp) (Below.refl _ _) rfl
          · refine stepE_val [6] (by kernel_rfl) (by decide) (by decide) rfl fun us w' hB hG hV => ?_
            have e6 : us 6 = .int .u32 x := hV 6 (by simp)
            have v6 := (frame_at2 (us := us) hl (show (bdT[66]?).join = some 6 from rfl)).trans e6
            have hw := WXI.out
            generalize frame bdT a0 us = fr at *
            exact val_C (v := .int .u64 x) (w' := w') (by go_simp) (Below.refl _ _) rfl
          · refine stepE_val [] (by kernel_rfl) (by decide) (by decide) rfl fun us w' hB hG hV => ?_
            have o1 := (frame_old2 (us := us) (a := a0) (show (bdT[1]?).join = none from rfl)).trans k1
            generalize frame bdT a0 us = fr at *
            exact val_C (v := .pointer (some ⟨w.heap.size, 5, none⟩)) (w' := w') (by go_simp) (Below.refl _ _) rfl
          · refine stepE_val [8] (by kernel_rfl) (by decide) (by decide) rfl fun us w' hB hG hV => ?_
            have e8 : us 8 = .pointer (some ⟨w.heap.size, 5, none⟩) := hV 8 (by simp)
            have v8 := (frame_at2 (us := us) hl (show (bdT[68]?).join = some 8 from rfl)).trans e8
            have hc := S5.out w' hG
            generalize frame bdT a0 us = fr at *
            exact val_C (v := .slice (some ⟨b1, o1, none⟩) n c) (w' := w') (by go_simp) (Below.refl _ _) rfl
          · refine stepE_val [] (by kernel_rfl) (by decide) (by decide) rfl fun us w' hB hG hV => ?_
            have o4 := (frame_old2 (us := us) (a := a0) (show (bdT[4]?).join = none from rfl)).trans k4
            generalize frame bdT a0 us = fr at *
            exact val_C (v := .int .i64 i) (w' := w') (by go_simp) (Below.refl _ _) rfl
          · refine stepE_val [9, 10] (by kernel_rfl) (by decide) (by decide) rfl fun us w' hB hG hV => ?_
            have e9 : us 9 = .slice (some ⟨b1, o1, none⟩) n c := hV 9 (by simp)
            have v9 := (frame_at2 (us := us) hl (show (bdT[69]?).join = some 9 from rfl)).trans e9
            have e10 : us 10 = .int .i64 i := hV 10 (by simp)
            have v10 := (frame_at2 (us := us) hl (show (bdT[70]?).join = some 10 from rfl)).trans e10
            have hi := I1.out
            have hk := KI.out
            generalize frame bdT a0 us = fr at *
            exact val_C (v := .pointer (some ⟨b1, o1 + i * 2, none⟩)) (w' := w') (by go_simp) (Below.refl _ _) rfl
          · refine stepE_val [11] (by kernel_rfl) (by decide) (by decide) rfl fun us w' hB hG hV => ?_
            have e11 : us 11 = .pointer (some ⟨b1, o1 + i * 2, none⟩) := hV 11 (by simp)
            have v11 := (frame_at2 (us := us) hl (show (bdT[71]?).join = some 11 from rfl)).trans e11
            generalize frame bdT a0 us = fr at *
            exact val_C (v := .pointer (some ⟨b1, o1 + i * 2 + 1, none⟩)) (w' := w') (by go_simp) (Below.refl _ _) rfl
          · refine stepE_val [12] (by kernel_rfl) (by decide) (by decide) rfl fun us w' hB hG hV => ?_
            have e12 : us 12 = .pointer (some ⟨b1, o1 + i * 2 + 1, none⟩) := hV 12 (by simp)
            have v12 := (frame_at2 (us := us) hl (show (bdT[72]?).join = some 12 from rfl)).trans e12
            have hc := CY.out w' hG
            generalize frame bdT a0 us = fr at *
            exact val_C (v := .int .u32 y) (w' := w') (by go_simp) (Below.refl _ _) rfl
          · refine stepE_val [13] (by kernel_rfl) (by decide) (by decide) rfl fun us w' hB hG hV => ?_
            have e13 : us 13 = .int .u32 y := hV 13 (by simp)
            have v13 := (frame_at2 (us := us) hl (show (bdT[73]?).join = some 13 from rfl)).trans e13
            have hw := WY.out
            generalize frame bdT a0 us = fr at *
            exact val_C (v := .int .u64 y) (w' := w') (by go_simp) (Below.refl _ _) rfl
          · refine stepE_val [7, 14] (by kernel_rfl) (by decide) (by decide) rfl fun us w' hB hG hV => ?_
            have e7 : us 7 = .int .u64 x := hV 7 (by simp)
            have v7 := (frame_at2 (us := us) hl (show (bdT[67]?).join = some 7 from rfl)).trans e7
            have e14 : us 14 = .int .u64 y := hV 14 (by simp)
            have v14 := (frame_at2 (us := us) hl (show (bdT[74]?).join = some 14 from rfl)).trans e14
            generalize frame bdT a0 us = fr at *
            exact val_C (v := .slice (some ⟨w'.heap.size, 0, none⟩) 2 2) (w' := w'.alloc (.cells #[.int .u64 x, .int .u64 y] 60)) (by go_simp) (alloc_below _ _) ⟨_, rfl, heap_alloc_new _ _⟩
          · refine stepE_val [0, 15] (by kernel_rfl) (by decide) (by decide) rfl fun us w' hB hG hV => ?_
            have e0 : us 0 = .slice Ab L cb := hV 0 (by simp)
            have v0 := (frame_at2 (us := us) hl (show (bdT[60]?).join = some 0 from rfl)).trans e0
            obtain ⟨q15, e15, r15⟩ := (show ∃ q, us 15 = .slice (some ⟨q, 0, none⟩) 2 2 ∧ w'.heap[q]? = some (.cells #[.int .u64 x, .int .u64 y] 60 (0, 0)) from hV 15 (by simp))
            have v15 := (frame_at2 (us := us) hl (show (bdT[75]?).join = some 15 from rfl)).trans e15
            generalize frame bdT a0 us = fr at *
            exact call_C (f := 67) (args := #[.slice Ab L cb, .int .i64 4, .slice (some ⟨q15, 0, none⟩) 2 2]) (by go_simp) ((rput_key (bs := X0') (ns := [x, y]) 4 4 N X2 rfl (by decide) (KY.out w' hG) (row_numsO r15 rfl 2 rfl) (by have := LX.out; omega) (by decide) EX2.out EN.out).mono fun e w'' ⟨A', c', h1, h2, h3, h4⟩ => ⟨_, h1, h4, A', c', rfl, h2.less (Nat.le_trans BWC.out.size (Below.size hG))⟩)
          · refine stepE_chain 0 rfl (by decide) [16] (by kernel_rfl) (by decide) rfl fun us w' hB hG hV hR => ?_
            obtain ⟨A16, c16, e16, P16⟩ := (show ∃ A c, us 16 = .slice A N c ∧ Own .u8 5 w' W.heap.size (.slice A N c) X2 from hV 16 (by simp))
            have v16 := (frame_at2 (us := us) hl (show (bdT[76]?).join = some 16 from rfl)).trans e16
            generalize frame bdT a0 us = fr at *
            exact val_J (R := fun v w'' => (w'' = w' ∧ Below wr.heap.size w' w'') ∧ bdR W.heap.size (.slice Ab L cb) X2 N 1 (upd us 17 v) w'') (v := .slice A16 N c16) (w' := w') (by go_simp) ⟨⟨rfl, Below.refl _ _⟩, Nat.le_trans BWC.out.size (Below.size hG), A16, c16, upd_same _ _ _, P16⟩
          · intro us w6 hB2 hG hV hR
            obtain ⟨_, A6, c6, e6, O6⟩ := (show W.heap.size ≤ w6.heap.size ∧ ∃ A c, us 17 = .slice A N c ∧ Own .u8 5 w6 W.heap.size (.slice A N c) X2 from hR)
            have HO6 := Lib.hid O6
            have HG6 := Lib.hid hG
            subst ha0
            simp only [frame, bdT, fill]
            rw [e6]
            clear hV hG hl k1 k3 k4 e6 O6 hR
            go_wp2_with fail
            go_roundw
            case rel => exact ⟨i + 1, A6, N, c6, by have := HI.out; omega, by have := EL0.out; have := ENL.out; omega, rfl, by go_num, by rw [← HX2.out]; exact HO6.out, BWC.out.trans (Below.mono HG6.out BWC.out.size)⟩
            case measure => simp [intOf]; omega
        · have h6 : i = n := by omega
          subst h6
          have e : l.take i = l := List.take_of_length_le (by rw [HN.out]; exact Nat.le_refl _)
          rw [e] at O
          have q6 : ¬ (i : Int) < (i : Int) := by omega
          have HO5 := Lib.hid O
          clear O e hi hlt BW hL
          go_wp2_with fail
          go_meet
          exact ⟨_, _, _, rfl, by rw [ST.out, hE.out, ← List.append_assoc, ← EH.out]; exact HO5.out, BWC.out⟩
  case rest =>
  obtain ⟨Ab5, L5, cb5, rfl, O5, B5⟩ := hcut
  have OO5 := Lib.hid O5
  have BB5 := Lib.hid B5
  clear O5
  have k9 := K9.out wc B5
  clear B5
  clear k5
  generalize wc = wc5 at *
  go_upto_if 78 with fail
  go_cut [3] from 5 (fun v wc => ∃ (Ab : Option Addr) (L cb : Nat), v = .slice Ab L cb ∧ Own .u8 5 wc W.heap.size (.slice Ab L cb) (preL o 6) ∧ Below W.heap.size W wc)
  case first =>
    obtain ⟨X0, hX0⟩ : ∃ X, X = preL o 5 := ⟨_, rfl⟩
    have HX0 := Lib.hid hX0
    have ST := Lib.hid (S0.out 5 (by decide))
    have LX := Lib.hid (show X0.length ≤ 5000 by rw [hX0]; exact PL.out 5 (by decide))
    have YX := Lib.hid (show ∀ x ∈ X0, Byte x by rw [hX0]; exact PB.out 5 (by decide))
    rw [← hX0] at ST
    rw [show kindAt 5 = 29 from rfl] at ST
    have HO := Lib.hid (show Own .u8 5 wc5 W.heap.size (.slice Ab5 L5 cb5) X0 by rw [hX0]; exact OO5.out)
    have BWC := BB5
    clear hX0
    have LL := Lib.hid HO.out.len
    cases hb : o.ha
    · rw [hb] at k9
      have hE := Lib.hid (show pieceL o 29 = [] from P0.out 29 (by rw [HD.out]; simpa using hb))
      clear hb
      go_wp2_with fail
      go_meet
      exact ⟨Ab5, L5, cb5, rfl, by rw [ST.out, hE.out, List.append_nil]; exact HO.out, BWC.out⟩
    · rw [hb] at k9
      have hE := Lib.hid (P29.out hb)
      clear hb
      obtain ⟨vv, hvv⟩ : ∃ v : Value, v = .slice Ab5 L5 cb5 := ⟨_, rfl⟩
      rw [← hvv] at HO
      have MN := MN0
      have C10 := K10
      have C11 := K11
      obtain ⟨X1, hX1⟩ : ∃ X, X0 ++ [29, 16, o.ki, o.ni] = X := ⟨_, rfl⟩
      obtain ⟨X2, hX2⟩ : ∃ X, X = preL o 6 := ⟨_, rfl⟩
      obtain ⟨L1, hL1⟩ : ∃ L, X0.length + 4 = L := ⟨_, rfl⟩
      have LX1 := Lib.hid (show X1.length ≤ 6000 by rw [← hX1]; have := LX.out; simp; omega)
      have HL1 := Lib.hid (show X1.length = L1 by rw [← hX1, ← hL1]; simp)
      obtain ⟨N, hN⟩ : ∃ N, X1.length + 12 = N := ⟨_, rfl⟩
      have EX2 := Lib.hid (show X1 ++ o.mac = X2 by rw [hX2, ST.out, hE.out, ← hX1]; simp [List.append_assoc])
      have EL1 := Lib.hid hL1
      have EX1 := Lib.hid hX1
      have EN := Lib.hid hN
      generalize o.ki = ki at *
      generalize o.ni = ni at *
      generalize o.mac = M at *
      clear hX1 hL1 hN
      go_upto_region 17 with fail
      rw [← hvv]
      have HX2 := Lib.hid hX2
      have HVV := Lib.hid hvv
      clear hvv hX2
      refine with_act fun a0 ha0 => ?_
      have hl : bcT.length = a0.tmps.size := by rw [ha0]; rfl
      have k1 : a0.tmps[1]?.getD undef = .pointer (some ⟨w.heap.size, 0, none⟩) := by rw [ha0]; rfl
      have k3 : a0.tmps[3]?.getD undef = vv := by rw [ha0]; rfl
      refine wp_region_che (by kernel_rfl) bcT (by kernel_rfl) (by kernel_rfl) hl (fun i => if i = 10 then a0.tmps[3]?.getD undef else a0.tmps[i + 79]?.getD undef) (by rw [ha0]; rfl) (W.heap.size) (Below W.heap.size) [5, 6, 9, 10] (by kernel_rfl) (by decide) (by decide) (fun w' => Below W.heap.size W w' ∧ W.heap.size ≤ w'.heap.size) (bcV w.heap.size W.heap.size vv ki ni) (bcR W.heap.size vv ki ni X0 X1 X2 L1 N) BWC.out.size ⟨BWC.out.trans (Below.refl _ _).drew, BWC.out.size⟩ ⟨by rw [ha0]; rfl, BWC.out.size, HO.out.keep fun _ _ _ => rfl⟩ (fun w1 w2 hb hd h => by rcases hd with hd | hd; exact ⟨h.1.trans (hd.mono h.2), Nat.le_trans h.2 hd.size⟩; exact ⟨h.1.trans hd, Nat.le_trans h.2 hd.size⟩) (fun i v w w' _ hd h => bcV.keep _ _ _ _ _ i v w w' hd h) (fun k us us' w w' h _ hb hR => bcR.keep _ _ _ _ _ _ _ _ _ k us us' w w' h hb hR) ⟨?_, ?_, ?_, ?_, ?_, ?_, ?_, ?_, ?_, ?_, ?_, trivial⟩ ?_
      · refine stepE_early 0 1 (.inl rfl) (.inr ⟨_, _, rfl, rfl, by kernel_rfl⟩) [] (by kernel_rfl) (by decide) (by decide) rfl fun us w' k hB hG hV hk hR => ?_
        have hq : us 10 = vv := by
          obtain ⟨h1, h2⟩ := hk
          match k, h1, h2, hR with
          | 0, _, _, hR => exact hR.1
          | 1, _, _, hR => exact hR.1
        have o3 := (frame_at2 (us := us) hl (show (bcT[3]?).join = some 10 from rfl)).trans hq
        generalize frame bcT a0 us = fr at *
        exact val_C (v := vv) (w' := w') (by go_simp) (Below.refl _ _) rfl
      · refine stepE_val [] (by kernel_rfl) (by decide) (by decide) rfl fun us w' hB hG hV => ?_
        have o1 := (frame_old2 (us := us) (a := a0) (show (bcT[1]?).join = none from rfl)).trans k1
        generalize frame bcT a0 us = fr at *
        exact val_C (v := .pointer (some ⟨w.heap.size, 10, none⟩)) (w' := w') (by go_simp) (Below.refl _ _) rfl
      · refine stepE_val [1] (by kernel_rfl) (by decide) (by decide) rfl fun us w' hB hG hV => ?_
        have e1 : us 1 = .pointer (some ⟨w.heap.size, 10, none⟩) := hV 1 (by simp)
        have v1 := (frame_at2 (us := us) hl (show (bcT[80]?).join = some 1 from rfl)).trans e1
        have hc := C10.out w' hG.1
        generalize frame bcT a0 us = fr at *
        exact val_C (v := .int .u8 ki) (w' := w') (by go_simp) (Below.refl _ _) rfl
      · refine stepE_val [] (by kernel_rfl) (by decide) (by decide) rfl fun us w' hB hG hV => ?_
        have o1 := (frame_old2 (us := us) (a := a0) (show (bcT[1]?).join = none from rfl)).trans k1
        generalize frame bcT a0 us = fr at *
        exact val_C (v := .pointer (some ⟨w.heap.size, 11, none⟩)) (w' := w') (by go_simp) (Below.refl _ _) rfl
      · refine stepE_val [3] (by kernel_rfl) (by decide) (by decide) rfl fun us w' hB hG hV => ?_
        have e3 : us 3 = .pointer (some ⟨w.heap.size, 11, none⟩) := hV 3 (by simp)
        have v3 := (frame_at2 (us := us) hl (show (bcT[82]?).join = some 3 from rfl)).trans e3
        have hc := C11.out w' hG.1
        generalize frame bcT a0 us = fr at *
        exact val_C (v := .int .u8 ni) (w' := w') (by go_simp) (Below.refl _ _) rfl
      · refine stepE_chain 0 rfl (by decide) [2, 4] (by kernel_rfl) (by decide) rfl fun us w' hB hG hV hR => ?_
        have e2 : us 2 = .int .u8 ki := hV 2 (by simp)
        have v2 := (frame_at2 (us := us) hl (show (bcT[81]?).join = some 2 from rfl)).trans e2
        have e4 : us 4 = .int .u8 ni := hV 4 (by simp)
        have v4 := (frame_at2 (us := us) hl (show (bcT[83]?).join = some 4 from rfl)).trans e4
        generalize frame bcT a0 us = fr at *
        exact val_J (R := fun v w'' => (Below W.heap.size w' w'' ∧ Below W.heap.size w' w'') ∧ bcR W.heap.size vv ki ni X0 X1 X2 L1 N 1 (upd us 5 v) w'') (v := .slice (some ⟨w'.heap.size, 0, none⟩) 4 4) (w' := w'.alloc (.cells #[.int .u8 29, .int .u8 16, .int .u8 ki, .int .u8 ni] 5)) (by go_simp) ⟨⟨(alloc_below w' _).mono hR.2.1, (alloc_below w' _).mono hR.2.1⟩, by rw [upd_other _ _ (by decide)]; exact hR.1, Nat.le_trans hR.2.1 (alloc_below w' _).size, hR.2.2.alloc _, w'.heap.size, upd_same _ _ _, heap_alloc_new w' _⟩
      · refine stepE_chain 1 rfl (by decide) [0] (by kernel_rfl) (by decide) rfl fun us w' hB hG hV hR => ?_
        have e0 : us 0 = vv := hV 0 (by simp)
        have v0 := (frame_at2 (us := us) hl (show (bcT[79]?).join = some 0 from rfl)).trans e0
        obtain ⟨_, hz, HO, q, e5, hq⟩ := (show us 10 = vv ∧ W.heap.size ≤ w'.heap.size ∧ Own .u8 5 w' W.heap.size vv X0 ∧ ∃ q, us 5 = .slice (some ⟨q, 0, none⟩) 4 4 ∧ w'.heap[q]? = some (.cells #[.int .u8 29, .int .u8 16, .int .u8 ki, .int .u8 ni] 5 (0, 0)) from hR)
        have v5 := (frame_at2 (us := us) hl (show (bcT[84]?).join = some 5 from rfl)).trans e5
        generalize frame bcT a0 us = fr at *
        exact append_Gr (R := fun v w'' => (Below W.heap.size w' w'' ∧ Below W.heap.size w' w'') ∧ bcR W.heap.size vv ki ni X0 X1 X2 L1 N 2 (upd us 6 v) w'') (.tmp 79) (.tmp 84) 32 rfl 5 i0 _ 1 Tryd.underlying32 T1.out T2.out T3.out T4.out rfl W.heap.size vv X0 (eval_tmp v0) HO w'.heap.size _ 4 4 [29, 16, ki, ni] (eval_tmp v5) (row_numsO hq rfl 4 rfl) (by have := LX.out; unfold maxLen; omega) (by have := LX.out; omega) hz L1 EL1.out fun A' c' w'' O' B' G' => ⟨⟨B', B'⟩, Nat.le_trans hz B'.size, A', c', upd_same _ _ _, EX1.out ▸ O'⟩
      · refine stepE_val [] (by kernel_rfl) (by decide) (by decide) rfl fun us w' hB hG hV => ?_
        have o1 := (frame_old2 (us := us) (a := a0) (show (bcT[1]?).join = none from rfl)).trans k1
        generalize frame bcT a0 us = fr at *
        exact val_C (v := .pointer (some ⟨w.heap.size, 12, none⟩)) (w' := w') (by go_simp) (Below.refl _ _) rfl
      · refine stepE_val [7] (by kernel_rfl) (by decide) (by decide) rfl fun us w' hB hG hV => ?_
        have e7 : us 7 = .pointer (some ⟨w.heap.size, 12, none⟩) := hV 7 (by simp)
        have v7 := (frame_at2 (us := us) hl (show (bcT[86]?).join = some 7 from rfl)).trans e7
        generalize frame bcT a0 us = fr at *
        exact val_C (v := .slice (some ⟨w.heap.size, 12, none⟩) 12 12) (w' := w') (by go_simp) (Below.refl _ _) rfl
      · refine stepE_chain 2 rfl (by decide) [8] (by kernel_rfl) (by decide) rfl fun us w' hB hG hV hR => ?_
        have e8 : us 8 = .slice (some ⟨w.heap.size, 12, none⟩) 12 12 := hV 8 (by simp)
        have v8 := (frame_at2 (us := us) hl (show (bcT[87]?).join = some 8 from rfl)).trans e8
        obtain ⟨hz, A2, c2, e6, HO⟩ := (show W.heap.size ≤ w'.heap.size ∧ ∃ A c, us 6 = .slice A L1 c ∧ Own .u8 5 w' W.heap.size (.slice A L1 c) X1 from hR)
        have v6 := (frame_at2 (us := us) hl (show (bcT[85]?).join = some 6 from rfl)).trans e6
        generalize frame bcT a0 us = fr at *
        exact append_Gr (R := fun v w'' => (Below W.heap.size w' w'' ∧ Below W.heap.size w' w'') ∧ bcR W.heap.size vv ki ni X0 X1 X2 L1 N 3 (upd us 9 v) w'') (.tmp 85) (.tmp 87) 32 rfl 5 i0 _ 1 Tryd.underlying32 T1.out T2.out T3.out T4.out rfl W.heap.size _ X1 (eval_tmp v6) HO w'.heap.size _ 12 12 M (eval_tmp v8) (MN.out w' hG.1) (by have := LX1.out; unfold maxLen; omega) (by have := LX1.out; omega) hz N EN.out fun A' c' w'' O' B' G' => ⟨⟨B', B'⟩, Nat.le_trans hz B'.size, A', c', upd_same _ _ _, EX2.out ▸ O'⟩
      · refine stepE_chain 3 rfl (by decide) [] (by kernel_rfl) (by decide) rfl fun us w' hB hG hV hR => ?_
        obtain ⟨hz, A3, c3, e9, HO⟩ := (show W.heap.size ≤ w'.heap.size ∧ ∃ A c, us 9 = .slice A N c ∧ Own .u8 5 w' W.heap.size (.slice A N c) X2 from hR)
        have v9 := (frame_at2 (us := us) hl (show (bcT[88]?).join = some 9 from rfl)).trans e9
        generalize frame bcT a0 us = fr at *
        exact val_J (R := fun v w'' => (Below W.heap.size w' w'' ∧ Below W.heap.size w' w'') ∧ bcR W.heap.size vv ki ni X0 X1 X2 L1 N 4 (upd us 10 v) w'') (v := .slice A3 N c3) (w' := w') (by go_simp) ⟨⟨Below.refl _ _, Below.refl _ _⟩, hz, A3, c3, upd_same _ _ _, HO⟩
      · intro us w6 hB2 hG hV hR
        obtain ⟨_, A6, c6, e6, O6⟩ := (show W.heap.size ≤ w6.heap.size ∧ ∃ A c, us 10 = .slice A N c ∧ Own .u8 5 w6 W.heap.size (.slice A N c) X2 from hR)
        have HO6 := Lib.hid O6
        have HG6 := Lib.hid hG.1
        subst ha0
        simp only [frame, bcT, fill]
        rw [e6]
        clear hV hG hl k1 k3 e6 O6 hR
        obtain rfl := HVV.out
        go_wp2_with fail
        go_meet
        exact ⟨A6, N, c6, rfl, by rw [← HX2.out]; exact HO6.out, HG6.out⟩
  case rest =>
  obtain ⟨Ab6, L6, cb6, rfl, O6, B6⟩ := hcut
  have OO6 := Lib.hid O6
  have BB6 := Lib.hid B6
  clear O6
  clear B6 k9
  generalize wc = wc6 at *
  obtain ⟨X6, hX6⟩ : ∃ X, X = preL o 6 := ⟨_, rfl⟩
  have L6X := Lib.hid (show X6.length ≤ 5000 by rw [hX6]; exact PL.out 6 (by decide))
  rw [← hX6] at OO6 LY
  have LL := Lib.hid OO6.out.len
  clear hX6
  go_wp2_with fail
  go_loopw [3] (fun v wr => ∃ (j : Nat) (Ab : Option Addr) (L cb : Nat), j ≤ padN X6.length ∧ L = L6 + j ∧ v = .slice Ab L cb ∧ Own .u8 5 wr W.heap.size (.slice Ab L cb) (X6 ++ List.replicate j 0) ∧ Below W.heap.size W wr) (fun v _ => padN X6.length + L6 - lenOfV v)
  case atStart => exact ⟨0, Ab6, L6, cb6, by omega, by omega, rfl, by simpa using OO6.out, BB6.out⟩
  case round =>
    obtain ⟨j, Ab, L, cb, hj, hL, rfl, O, BW⟩ := hrel
    have hll := LL.out
    have h6x := L6X.out
    have hpd : padN X6.length = (4 - X6.length % 4) % 4 := rfl
    have et : (L : Int).tmod 4 = ((L % 4 : Nat) : Int) := by rw [Int.tmod_eq_emod_of_nonneg (by omega)]; omega
    have HBW := Lib.hid BW
    obtain ⟨r, hr⟩ : ∃ r, (L : Int).tmod 4 = r := ⟨_, rfl⟩
    rw [hr] at et
    by_cases hlt : j < padN X6.length
    · have q : (r != 0) = true := by rw [et]; simp; omega
      obtain ⟨L2, hL2⟩ : ∃ L2, (X6 ++ List.replicate j (0 : Int)).length + 1 = L2 := ⟨_, rfl⟩
      have E2 := Lib.hid hL2
      have lx : (X6 ++ List.replicate j (0 : Int)).length ≤ 6000 := by simp; omega
      have LX := Lib.hid lx
      have HO := Lib.hid O
      have HJ := Lib.hid hlt
      have EL := Lib.hid (show L2 = L6 + (j + 1) by rw [← hL2]; simp; omega)
      have HL := Lib.hid hL
      clear hL2 O BW hj hL hlt hll h6x hpd et lx
      go_wp2_with (at_builtin; (refine wpList_appT _ rfl (.tmp 93) (.tmp 94) _ rfl 5 i0 _ 1 Tryd.underlying32 T1.out T2.out T3.out T4.out rfl W.heap.size _ (X6 ++ List.replicate j 0) rfl (HO.out.alloc _) (wr.heap.size + 1) (some ⟨wr.heap.size, 0, none⟩) 1 1 [0] rfl (lit_nums .u8 wr [0] 5 _ rfl 1 rfl) (by simp only [maxLen]; have := LX.out; omega) (by have := LX.out; omega) (Nat.le_trans HBW.out.size (alloc_below _ _).size) L2 E2.out ?_)
                   intro A4 c4 w4 g1 g2 O4 B4
                   have HO4 := Lib.hid O4
                   have HB4 := Lib.hid ((HBW.out.trans ((alloc_below wr _).mono HBW.out.size)).trans B4)
                   clear O4 B4 g1 g2)
      go_roundw
      case rel => exact ⟨j + 1, A4, L2, c4, by have := HJ.out; omega, EL.out, rfl, by rw [show List.replicate (j + 1) (0 : Int) = List.replicate j 0 ++ [0] from List.replicate_succ', ← List.append_assoc]; exact HO4.out, HB4.out⟩
      case measure =>
        have h1 := EL.out; have h2 := HL.out; have h3 := HJ.out
        simp only [lenOfV]
        omega
    · have hjp : j = padN X6.length := by omega
      have q : (r != 0) = false := by rw [et]; simp; omega
      subst hjp
      have e : (X6 ++ List.replicate (padN X6.length) (0 : Int)).length = L := O.len
      have HE := Lib.hid e
      have HO := Lib.hid (O.less HB.out.size)
      clear O BW hj hL hlt hll h6x hpd et e
      go_wp2_with fail
      go_ret
      have h0 := HO.out
      rw [← LY.out] at h0
      have h1 := HE.out
      rw [← LY.out] at h1
      subst h1
      exact ⟨_, _, rfl, h0, HB.out.trans (HBW.out.mono HB.out.size)⟩
end Go.Proofs.YtniimgbljhmcoaaDoor.opC
