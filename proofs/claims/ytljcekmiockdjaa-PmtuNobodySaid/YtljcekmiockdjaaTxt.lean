/-
  Rows of texts that are the call's own: what they hold, a text put behind, a text turned.
-/
import Derived.Test.YtljcekmiockdjaaGen
namespace Go.Proofs.Ytljcekmiockdjaa.txC
open Go.ChangeShapes Go.WideShapes Go.ChangeAt Go.RowKit
open Go.Proofs.Ytljcekmiockdjaa.memC Go.Proofs.Ytljcekmiockdjaa.genC
set_option linter.unusedVariables false
def txts (ls : List (List Int)) : List Value := ls.map fun l => Value.string (strOfNums l)
def OwnT (w : World) (base : Nat) (v : Value) (ls : List (List Int)) : Prop := w.ownsRow base 9 1 v ls.length (txts ls)
theorem txts_len (ls : List (List Int)) : (txts ls).length = ls.length := by simp [txts]
theorem txts_one (ls : List (List Int)) : ∀ u ∈ txts ls, u.oneCell' = true := by
  intro u hu
  obtain ⟨l, _, rfl⟩ := List.mem_map.1 hu
  rfl
section
variable {w w' : World} {base B : Nat} {v : Value} {ls : List (List Int)}
theorem OwnT.blk (h : OwnT w base v ls) : ∀ g, v.ownBlock = some g → base ≤ g ∧ g < w.heap.size := fun g hg => h.lt g hg
theorem OwnT.form (h : OwnT w base v ls) : ∃ A cap, v = .slice A ls.length cap ∧ ls.length ≤ cap ∧ cap ≤ maxLen := by
  rcases h.2 with ⟨rfl, h0⟩ | ⟨g, cap, cur, rfl, hb, hh, hl, hm, hs, ht⟩
  · rw [h0]; exact ⟨none, 0, rfl, Nat.le_refl _, by simp [maxLen]⟩
  · exact ⟨some ⟨g, 0, none⟩, cap, rfl, hl, hm⟩
theorem OwnT.alloc (h : OwnT w base v ls) (o : Obj) : OwnT (w.alloc o) base v ls := World.ownsRow.alloc h o
theorem OwnT.row {A : Option Addr} {n c : Nat} (h : OwnT w base (.slice A n c) ls) (hl : ls.length = n) (hn : 0 < n) :
    ∃ g, A = some ⟨g, 0, none⟩ ∧ base ≤ g ∧ g < w.heap.size ∧ (∀ j, j < n → w.cell? ⟨g, j, none⟩ = some (.string (strOfNums (ls.getD j [])))) ∧ ∀ j, w.frozen? ⟨g, j, none⟩ = false := by
  have hk := h.blk
  unfold OwnT at h
  rw [hl] at h
  rcases h.2 with ⟨e2, h0⟩ | ⟨g, cap, cur, e2, hb, hh, h3⟩
  · cases e2; omega
  · cases e2
    refine ⟨g, rfl, hb, (hk g rfl).2, fun j hj => ?_, fun j => World.ownsRow.frozenAt h j⟩
    rw [World.ownsRow.cellAt h j (by omega)]
    simp [txts, List.getD_eq_getElem?_getD, hl, hj]
end
section
variable {P : Program} {ops : Array Oper} {rest : List Oper} {o : Oper} {a : Act} {Q : Exit → Act → World → Prop}
/-- append(own, text): the literal's cell has just been laid -/
theorem wpList_txt (w : World) (hgd : o.guard = none) (s x : Operand) (t : TypeId)
    (ho : o.op = .call { callee := .builtin .append, args := #[s, x], argTypes := #[t, t] })
    (i : TypeInfo) (z : Value) (bytes : Nat) (ht : P.underlying t = some (.slice 9)) (hi : P.info? 9 = some i) (hz : i.zero = some z)
    (hsize : i.size = 1) (hby : i.bytes = bytes) (hzs : z.cells.size = 1) (base : Nat) (v : Value) (ls : List (List Int)) (hs : a.eval s = v) (hown : OwnT w base v ls)
    (S : ByteArray) (l : List Int) (hS : S = strOfNums l) (hx : a.eval x = .slice (some ⟨w.heap.size, 0, none⟩) 1 1) (h63 : ls.length + 1 ≤ maxLen) (hbytes : (ls.length + 1) * bytes ≤ 140737488355328) (hbase : base ≤ w.heap.size) (L : Nat) (hL : ls.length + 1 = L)
    (h : ∀ A' c' w', L ≤ c' → c' ≤ maxLen → OwnT w' base (.slice A' L c') (ls ++ [l]) → Below base w w' → wpList P ops Q rest (a.put o.dst (.slice A' L c')) w') : wpList P ops Q (o :: rest) a (w.alloc (.cells #[.string S] 9)) := by
  subst hS
  have hsz : (w.alloc (.cells #[.string (strOfNums l)] 9)).heap.size = w.heap.size + 1 := by simp
  obtain ⟨v', w', hrun, h2, h3, _⟩ := run_append_own (P := P) (w.alloc (.cells #[.string (strOfNums l)] 9)) base t o.type 9 i z 1 bytes ht hi hz hsize hby hzs (by omega) v _ _ (hown.alloc _) ⟨w.heap.size, 0, none⟩ 1 1 (txts [l]) (by simp [txts]) (by
    intro j u hu
    have hj : j = 0 := by
      have := (List.getElem?_eq_some_iff.1 hu).1
      rw [txts_len] at this; simp at this; exact this
    subst hj
    have : u = .string (strOfNums l) := by simpa [txts] using hu.symm
    subst this
    simp [go_sem]) (txts_one _) h63 hbytes (by omega)
  have O : OwnT w' base v' (ls ++ [l]) := by
    unfold OwnT
    rw [List.length_append]
    unfold txts at h2 ⊢
    rw [List.map_append]
    exact h2
  have eL : (ls ++ [l]).length = L := by rw [List.length_append]; exact hL
  obtain ⟨A', c', e2, g1, g2⟩ := O.form
  rw [eL] at e2 g1
  subst e2
  have hh := h A' c' w' g1 g2 O (((Below.refl _ _).alloc hbase _).grown h3 (by omega) fun g hg => (hown.blk g hg).1)
  refine wpList_plain hgd fun K hK => ?_
  unfold Oper.wp execOp
  simp only [ho, resolve, invoke, builtin, Sem.run_bind, Sem.run_pure, Result.andThen_ok, List.map_toArray, List.map_cons, List.map_nil, hs, hx, hrun]
  exact hK _ _ hh
end
end Go.Proofs.Ytljcekmiockdjaa.txC
