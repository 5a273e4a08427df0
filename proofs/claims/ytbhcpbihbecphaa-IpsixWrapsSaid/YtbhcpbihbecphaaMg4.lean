/-
  4 texts of a proof, joined.
-/
import Derived.Test.YtbhcpbihbecphaaMg3
import Derived.StillTailTactics
import Derived.Deep.QuietTactic
import Derived.BigQuiet
import Derived.Deep.CutRange
import Derived.BigRegion
import Derived.Test.YtbhcpbihbecphaaMg1
import Derived.Test.YtbhcpbihbecphaaMg2
import Derived.Great.BuildSlice

/-
  The document's addresses: the text.
-/
namespace Go.Proofs.Ytbhcpbihbecphaa.adC
open Go.ChangeShapes Go.WideShapes Go.ChangeAt Go.RowKit
open Go.Proofs.Ytbhcpbihbecphaa.memC Go.Proofs.Ytbhcpbihbecphaa.genC Go.Proofs.Ytbhcpbihbecphaa.butC Go.Proofs.Ytbhcpbihbecphaa.freeC
set_option linter.unusedVariables false
section
variable {P : Program} {ops : Array Oper} {rest : List Oper} {o : Oper} {a : Act} {Q : Exit → Act → World → Prop}
/-- an operation, behind a guard that says yes or behind none, whose value is known -/
theorem wpList_runG {w : World} (hw : Region.wanted o (yielded ops a.tmps) = true) (v : Value) (hr : (execOp a.eval o).run P w = .ok (.value v) w) (h : wpList P ops Q rest (a.put o.dst v) w) : wpList P ops Q (o :: rest) a w := by
  refine wpList_step fun K hK => ?_
  rw [if_pos hw]
  unfold Oper.wp
  rw [hr]
  exact hK _ _ h
end
end Go.Proofs.Ytbhcpbihbecphaa.adC

/-
  Rows of texts that are the call's own: what they hold, a text put behind, a text turned.
-/
namespace Go.Proofs.Ytbhcpbihbecphaa.txC
open Go.ChangeShapes Go.WideShapes Go.ChangeAt Go.RowKit
open Go.Proofs.Ytbhcpbihbecphaa.memC Go.Proofs.Ytbhcpbihbecphaa.genC
set_option linter.unusedVariables false
def txts (ls : List (List Int)) : List Value := ls.map fun l => Value.string (strOfNums l)
def OwnT (w : World) (base : Nat) (v : Value) (ls : List (List Int)) : Prop := w.ownsRow base 9 1 v ls.length (txts ls)
theorem txts_len (ls : List (List Int)) : (txts ls).length = ls.length := by simp [txts]
theorem txts_at {ls : List (List Int)} {j : Nat} (h : j < ls.length) : (txts ls)[j]? = some (.string (strOfNums (ls.getD j []))) := by simp [txts, List.getD_eq_getElem?_getD, h]
theorem txts_one (ls : List (List Int)) : ∀ u ∈ txts ls, u.oneCell' = true := by
  intro u hu
  obtain ⟨l, _, rfl⟩ := List.mem_map.1 hu
  rfl
theorem string_inf : (Try.prog.info? 9).map (fun i => (i.zero, i.size, i.bytes)) = some (some (.string { data := #[] }), 1, 16) := by kernel_rfl
section
variable {w w' : World} {base B : Nat} {v : Value} {ls : List (List Int)}
theorem OwnT.blk (h : OwnT w base v ls) : ∀ g, v.ownBlock = some g → base ≤ g ∧ g < w.heap.size := fun g hg => h.lt g hg
theorem OwnT.form (h : OwnT w base v ls) : ∃ A cap, v = .slice A ls.length cap ∧ ls.length ≤ cap ∧ cap ≤ maxLen := by
  rcases h.2 with ⟨rfl, h0⟩ | ⟨g, cap, cur, rfl, hb, hh, hl, hm, hs, ht⟩
  · rw [h0]; exact ⟨none, 0, rfl, Nat.le_refl _, by simp [maxLen]⟩
  · exact ⟨some ⟨g, 0, none⟩, cap, rfl, hl, hm⟩
theorem OwnT.keep (h : OwnT w base v ls) (hk : ∀ g, base ≤ g → g < w.heap.size → w'.heap[g]? = w.heap[g]?) : OwnT w' base v ls := by
  refine ⟨h.1, ?_⟩
  rcases h.2 with h0 | ⟨g, cap, cur, rfl, hb, hh, h'⟩
  · exact .inl h0
  · exact .inr ⟨g, cap, cur, rfl, hb, (hk g hb (h.lt g rfl).2).trans hh, h'⟩
theorem OwnT.alloc (h : OwnT w base v ls) (o : Obj) : OwnT (w.alloc o) base v ls := World.ownsRow.alloc h o
theorem OwnT.drewN (h : OwnT w base v ls) (j : Nat) : OwnT (w.drewN j) base v ls := h.keep fun _ _ _ => rfl
theorem OwnT.below (h : OwnT w base v ls) (hb : Below w.heap.size w w') : OwnT w' base v ls := h.keep fun g _ hg => hb.block g hg
theorem OwnT.less (h : OwnT w base v ls) (hB : B ≤ base) : OwnT w B v ls := by
  refine ⟨h.1, ?_⟩
  rcases h.2 with h0 | ⟨g, cap, cur, rfl, hb, hh, h'⟩
  · exact .inl h0
  · exact .inr ⟨g, cap, cur, rfl, Nat.le_trans hB hb, hh, h'⟩
theorem OwnT.lit (w : World) (hb : base ≤ w.heap.size) (l : List Int) : OwnT (w.alloc (.cells #[.string (strOfNums l)] 9)) base (.slice (some ⟨w.heap.size, 0, none⟩) 1 1) [l] :=
  World.ownsRow_lit w #[.string (strOfNums l)] 1 hb (by simp [maxLen]) rfl
theorem OwnT.row {A : Option Addr} {n c : Nat} (h : OwnT w base (.slice A n c) ls) (hl : ls.length = n) (hn : 0 < n) :
    ∃ g, A = some ⟨g, 0, none⟩ ∧ base ≤ g ∧ g < w.heap.size ∧ (∀ j, j < n → w.cell? ⟨g, j, none⟩ = some (.string (strOfNums (ls.getD j [])))) ∧ ∀ j, w.frozen? ⟨g, j, none⟩ = false := by
  have hk := h.blk
  unfold OwnT at h
  rw [hl] at h
  rcases h.2 with ⟨e2, h0⟩ | ⟨g, cap, cur, e2, hb, hh, h3⟩
  · cases e2; omega
  · cases e2
    refine ⟨g, rfl, hb, (hk g rfl).2, fun j hj => ?_, fun j => World.ownsRow.frozenAt h j⟩
    rw [World.ownsRow.cellAt h j (by omega)]
    simp [txts, List.getD_eq_getElem?_getD, hl, hj]
theorem OwnT.stored {g n c : Nat} (h : OwnT w base (.slice (some ⟨g, 0, none⟩) n c) ls) (hl : ls.length = n) (j : Nat) (l : List Int) :
    OwnT (w.setCell ⟨g, j, none⟩ (.string (strOfNums l))) base (.slice (some ⟨g, 0, none⟩) n c) (ls.set j l) := by
  unfold OwnT at h ⊢
  rw [List.length_set]
  unfold txts at h ⊢
  rw [List.map_set]
  rw [hl] at h ⊢
  exact (World.ownsRow.stored h j (.string (strOfNums l))).1
end
section
variable {P : Program} {ops : Array Oper} {rest : List Oper} {o : Oper} {a : Act} {Q : Exit → Act → World → Prop}
/-- append(own, text): the literal's cell has just been laid -/
theorem wpList_txt (w : World) (hgd : o.guard = none) (s x : Operand) (t : TypeId)
    (ho : o.op = .call { callee := .builtin .append, args := #[s, x], argTypes := #[t, t] })
    (i : TypeInfo) (z : Value) (bytes : Nat) (ht : P.underlying t = some (.slice 9)) (hi : P.info? 9 = some i) (hz : i.zero = some z)
    (hsize : i.size = 1) (hby : i.bytes = bytes) (hzs : z.cells.size = 1) (base : Nat) (v : Value) (ls : List (List Int)) (hs : a.eval s = v) (hown : OwnT w base v ls)
    (S : ByteArray) (l : List Int) (hS : S = strOfNums l) (hx : a.eval x = .slice (some ⟨w.heap.size, 0, none⟩) 1 1) (h63 : ls.length + 1 ≤ maxLen) (hbytes : (ls.length + 1) * bytes ≤ 140737488355328) (hbase : base ≤ w.heap.size) (L : Nat) (hL : ls.length + 1 = L)
    (h : ∀ A' c' w', L ≤ c' → c' ≤ maxLen → OwnT w' base (.slice A' L c') (ls ++ [l]) → Below base w w' → wpList P ops Q rest (a.put o.dst (.slice A' L c')) w') : wpList P ops Q (o :: rest) a (w.alloc (.cells #[.string S] 9)) := by
  subst hS
  have hsz : (w.alloc (.cells #[.string (strOfNums l)] 9)).heap.size = w.heap.size + 1 := by simp
  obtain ⟨v', w', hrun, h2, h3, _⟩ := run_append_own (P := P) (w.alloc (.cells #[.string (strOfNums l)] 9)) base t o.type 9 i z 1 bytes ht hi hz hsize hby hzs (by omega) v _ _ (hown.alloc _) ⟨w.heap.size, 0, none⟩ 1 1 (txts [l]) (by simp [txts]) (by
    intro j u hu
    have hj : j = 0 := by
      have := (List.getElem?_eq_some_iff.1 hu).1
      rw [txts_len] at this; simp at this; exact this
    subst hj
    have : u = .string (strOfNums l) := by simpa [txts] using hu.symm
    subst this
    simp [go_sem]) (txts_one _) h63 hbytes (by omega)
  have O : OwnT w' base v' (ls ++ [l]) := by
    unfold OwnT
    rw [List.length_append]
    unfold txts at h2 ⊢
    rw [List.map_append]
    exact h2
  have eL : (ls ++ [l]).length = L := by rw [List.length_append]; exact hL
  obtain ⟨A', c', e2, g1, g2⟩ := O.form
  rw [eL] at e2 g1
  subst e2
  have hh := h A' c' w' g1 g2 O (((Below.refl _ _).alloc hbase _).grown h3 (by omega) fun g hg => (hown.blk g hg).1)
  refine wpList_plain hgd fun K hK => ?_
  unfold Oper.wp execOp
  simp only [ho, resolve, invoke, builtin, Sem.run_bind, Sem.run_pure, Result.andThen_ok, List.map_toArray, List.map_cons, List.map_nil, hs, hx, hrun]
  exact hK _ _ hh
end
end Go.Proofs.Ytbhcpbihbecphaa.txC

/-
  A region that draws its order, whose operations are quiet but for the last one, which waits for all others: one walk in the text's order serves every order.
-/
namespace Go.Proofs.Ytbhcpbihbecphaa.lastC
open Go.ChangeShapes Go.WideShapes Go.ChangeAt Go.RowKit
set_option linter.unusedVariables false
section
variable {P : Program} {L l : List Oper} {o : Oper} {C : World → Prop}
/-- the marks of the whole region, and of its head -/
structure Marks (n : Nat) (m mh : Array Bool) : Prop where
  size : m.size = n + 1
  sizeh : mh.size = n
  same : ∀ i, i < n → m[i]? = mh[i]?
  last : m[n]? = some false
theorem Marks.set {n i : Nat} {m mh : Array Bool} (h : Marks n m mh) (hi : i < n) : Marks n (m.setIfInBounds i true) (mh.setIfInBounds i true) := by
  refine ⟨by simp [h.size], by simp [h.sizeh], fun j hj => ?_, ?_⟩
  · simp only [Array.getElem?_setIfInBounds]
    split
    · rename_i e; subst e; simp [h.size, h.sizeh, hi]; omega
    · exact h.same j hj
  · simp only [Array.getElem?_setIfInBounds]
    rw [if_neg (by omega)]; exact h.last
theorem Marks.getD {n i : Nat} {m mh : Array Bool} (h : Marks n m mh) (hi : i < n) (d : Bool) : m.getD i d = mh.getD i d := by
  have := h.same i hi
  simp only [Array.getD_eq_getD_getElem?, this]
variable {m mh : Array Bool} {n : Nat}
variable {Q : Exit → Act → World → Prop} {a : Act} {w : World}
end
end Go.Proofs.Ytbhcpbihbecphaa.lastC

/-
  The document's addresses: what Six does.
-/
namespace Go.Proofs.Ytbhcpbihbecphaa.adC
open Go.ChangeShapes Go.WideShapes Go.ChangeAt Go.RowKit
open Go.Proofs.Ytbhcpbihbecphaa.memC Go.Proofs.Ytbhcpbihbecphaa.genC Go.Proofs.Ytbhcpbihbecphaa.butC Go.Proofs.Ytbhcpbihbecphaa.freeC
set_option linter.unusedVariables false
def W16 (x : Int) : Prop := 0 ≤ x ∧ x ≤ 65535
section
variable {w0 w : World} {Z : Array Value} {b : List Int} {i p q g gb go n c : Nat} {x hi lo : Int} {m : Nat → Bool} {us : Nat → Value}
end
end Go.Proofs.Ytbhcpbihbecphaa.adC
