/-
  append onto a slice of the call's own, the result written out.
-/
import Derived.Test.YtblgkojeholbnaaMem
namespace Go.Proofs.Ytblgkojeholbnaa.memC
open Go.ChangeShapes Go.WideShapes Go.ChangeAt Go.RowKit
set_option linter.unusedVariables false
section
variable {P : Program} {ops : Array Oper} {rest : List Oper} {o : Oper} {a : Act} {Q : Exit → Act → World → Prop}
/-- append(own, numbers...), the result written out, and still the call's own -/
theorem wpList_appT {k : IntKind} (w : World) (hgd : o.guard = none) (s x : Operand) (t : TypeId)
    (ho : o.op = .call { callee := .builtin .append, args := #[s, x], argTypes := #[t, t] })
    (e : TypeId) (i : TypeInfo) (z : Value) (bytes : Nat) (ht : P.underlying t = some (.slice e)) (hi : P.info? e = some i) (hz : i.zero = some z)
    (hsize : i.size = 1) (hby : i.bytes = bytes) (hzs : z.cells.size = 1) (base : Nat) (v : Value) (xs : List Int) (hs : a.eval s = v) (hown : Own k e w base v xs)
    (B : Nat) (A : Option Addr) (m c : Nat) (news : List Int) (hx : a.eval x = .slice A m c) (hr : Nums k w B A m news) (h63 : xs.length + m ≤ maxLen) (hbytes : (xs.length + m) * bytes ≤ 140737488355328) (hbase : base ≤ w.heap.size) (L : Nat) (hL : xs.length + m = L)
    (h : ∀ A' c' w', L ≤ c' → c' ≤ maxLen → Own k e w' base (.slice A' L c') (xs ++ news) → Below base w w' → wpList P ops Q rest (a.put o.dst (.slice A' L c')) w') : wpList P ops Q (o :: rest) a w :=
  wpList_app w hgd s x t ho e i z bytes ht hi hz hsize hby hzs base v xs hs hown B A m c news hx hr h63 hbytes hbase fun v' w' h1 h2 => by
    have e : (xs ++ news).length = L := by rw [List.length_append, hr.len]; exact hL
    obtain ⟨A', c', e2, g1, g2, N⟩ := h1.form
    rw [e] at e2 g1 N
    subst e2
    exact h A' c' w' g1 g2 h1 (grown_below h2 hbase fun g hg => (hown.blk g hg).1)
/-- append(own, x): the literal's cell has just been laid; the result written out -/
theorem wpList_app1T {k : IntKind} (w : World) (hgd : o.guard = none) (s x : Operand) (t : TypeId)
    (ho : o.op = .call { callee := .builtin .append, args := #[s, x], argTypes := #[t, t] })
    (e : TypeId) (i : TypeInfo) (z : Value) (bytes : Nat) (ht : P.underlying t = some (.slice e)) (hi : P.info? e = some i) (hz : i.zero = some z)
    (hsize : i.size = 1) (hby : i.bytes = bytes) (hzs : z.cells.size = 1) (base : Nat) (v : Value) (xs : List Int) (hs : a.eval s = v) (hown : Own k e w base v xs)
    (y : Int) (hx : a.eval x = .slice (some ⟨w.heap.size, 0, none⟩) 1 1) (h63 : xs.length + 1 ≤ maxLen) (hbytes : (xs.length + 1) * bytes ≤ 140737488355328) (hbase : base ≤ w.heap.size) (L : Nat) (hL : xs.length + 1 = L)
    (h : ∀ A' c' w', L ≤ c' → c' ≤ maxLen → Own k e w' base (.slice A' L c') (xs ++ [y]) → Below base w w' → wpList P ops Q rest (a.put o.dst (.slice A' L c')) w') : wpList P ops Q (o :: rest) a (w.alloc (.cells #[.int k y] e)) :=
  wpList_app1 w hgd s x t ho e i z bytes ht hi hz hsize hby hzs base v xs hs hown y hx h63 hbytes hbase fun v' w' h1 h2 => by
    have e : (xs ++ [y]).length = L := by rw [List.length_append]; exact hL
    obtain ⟨A', c', e2, g1, g2, N⟩ := h1.form
    rw [e] at e2 g1 N
    subst e2
    exact h A' c' w' g1 g2 h1 h2
/-- append(own, numbers...) behind a guard that says yes -/
theorem wpList_appG {k : IntKind} (w : World) (hw : Region.wanted o (yielded ops a.tmps) = true) (s x : Operand) (t : TypeId)
    (ho : o.op = .call { callee := .builtin .append, args := #[s, x], argTypes := #[t, t] })
    (e : TypeId) (i : TypeInfo) (z : Value) (bytes : Nat) (ht : P.underlying t = some (.slice e)) (hi : P.info? e = some i) (hz : i.zero = some z)
    (hsize : i.size = 1) (hby : i.bytes = bytes) (hzs : z.cells.size = 1) (base : Nat) (v : Value) (xs : List Int) (hs : a.eval s = v) (hown : Own k e w base v xs)
    (B : Nat) (A : Option Addr) (m c : Nat) (news : List Int) (hx : a.eval x = .slice A m c) (hr : Nums k w B A m news) (h63 : xs.length + m ≤ maxLen) (hbytes : (xs.length + m) * bytes ≤ 140737488355328) (hbase : base ≤ w.heap.size) (L : Nat) (hL : xs.length + m = L)
    (h : ∀ A' c' w', L ≤ c' → c' ≤ maxLen → Own k e w' base (.slice A' L c') (xs ++ news) → Below base w w' → wpList P ops Q rest (a.put o.dst (.slice A' L c')) w') : wpList P ops Q (o :: rest) a w := by
  obtain ⟨v', w', hrun, h2, h3⟩ := run_app (P := P) w t o.type e i z bytes ht hi hz hsize hby hzs base v xs hown B A m c news hr h63 hbytes hbase
  refine wpList_step fun K hK => ?_
  rw [if_pos hw]
  unfold Oper.wp execOp
  simp only [ho, resolve, invoke, builtin, Sem.run_bind, Sem.run_pure, Result.andThen_ok, List.map_toArray, List.map_cons, List.map_nil, hs, hx, hrun]
  refine hK _ _ ?_
  have e : (xs ++ news).length = L := by rw [List.length_append, hr.len]; exact hL
  obtain ⟨A', c', e2, g1, g2, N⟩ := h2.form
  rw [e] at e2 g1 N
  subst e2
  exact h A' c' w' g1 g2 h2 (grown_below h3 hbase fun g hg => (hown.blk g hg).1)
end
/-- what an own slice holds -/
theorem Own.nums {k : IntKind} {e : TypeId} {w : World} {base : Nat} {A : Option Addr} {n c : Nat} {xs : List Int} (h : Own k e w base (.slice A n c) xs) : Nums k w w.heap.size A n xs := by
  obtain ⟨A', c', e2, _, _, N⟩ := h.form
  cases e2
  exact N
theorem Own.len {k : IntKind} {e : TypeId} {w : World} {base : Nat} {A : Option Addr} {n c : Nat} {xs : List Int} (h : Own k e w base (.slice A n c) xs) : xs.length = n := h.nums.len
/-- an own slice of at least one element lies at the head of a block that is the call's own and may be written -/
theorem Own.row {k : IntKind} {e : TypeId} {w : World} {base : Nat} {A : Option Addr} {n c : Nat} {xs : List Int} (h : Own k e w base (.slice A n c) xs) (hn : 0 < n) :
    ∃ g, A = some ⟨g, 0, none⟩ ∧ base ≤ g ∧ g < w.heap.size ∧ (∀ j, j < n → w.cell? ⟨g, j, none⟩ = some (.int k (xs.getD j 0))) ∧ ∀ j, w.frozen? ⟨g, j, none⟩ = false := by
  have hl := h.len
  have hk := h.blk
  unfold Own at h
  rw [hl] at h
  rcases h.2 with ⟨e2, h0⟩ | ⟨g, cap, cur, e2, hb, hh, h3⟩
  · cases e2; omega
  · cases e2
    refine ⟨g, rfl, hb, (hk g rfl).2, fun j hj => ?_, fun j => World.ownsRow.frozenAt h j⟩
    rw [World.ownsRow.cellAt h j (by omega)]
    simp [List.getD_eq_getElem?_getD, hl, hj]
/-- a store into it -/
theorem Own.stored {k : IntKind} {e : TypeId} {w : World} {base : Nat} {g n c : Nat} {xs : List Int} (h : Own k e w base (.slice (some ⟨g, 0, none⟩) n c) xs) (j : Nat) (x : Int) :
    Own k e (w.setCell ⟨g, j, none⟩ (.int k x)) base (.slice (some ⟨g, 0, none⟩) n c) (xs.set j x) := by
  have hl := h.len
  unfold Own at h ⊢
  rw [List.length_set, List.map_set]
  rw [hl] at h ⊢
  exact (World.ownsRow.stored h j (.int k x)).1
end Go.Proofs.Ytblgkojeholbnaa.memC
