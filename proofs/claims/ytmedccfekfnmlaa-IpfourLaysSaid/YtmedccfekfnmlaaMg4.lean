/-
  6 texts of a proof, joined.
-/
import Derived.Test.YtmedccfekfnmlaaMg3
import Derived.StillTailTactics
import Derived.Deep.QuietTactic
import Derived.BigQuiet
import Derived.Deep.CutRange
import Derived.BigRegion
import Derived.Test.YtmedccfekfnmlaaMg1
import Derived.Test.YtmedccfekfnmlaaMg2
import Derived.Great.BuildSlice

/-
  The document's addresses: numbers' texts (ten, hex), the size of an address.
-/
namespace Go.Proofs.Ytmedccfekfnmlaa.adC
open Go.ChangeShapes Go.WideShapes Go.ChangeAt Go.RowKit
open Go.Proofs.Ytmedccfekfnmlaa.memC Go.Proofs.Ytmedccfekfnmlaa.genC Go.Proofs.Ytmedccfekfnmlaa.butC Go.Proofs.Ytmedccfekfnmlaa.freeC
set_option linter.unusedVariables false
set_option maxRecDepth 100000 in
theorem size_any (s : Bool) (b : List Int) (w : World) (h : b.length = 16) : Calls Try.prog 42 #[.agg (adrV s b)] w (Ret w (.int .i64 (adrN s))) := by
  have k1 : (w.alloc (.cells (adrV s b) 24)).cell? ⟨w.heap.size, 0, none⟩ = some (.bool s) := by rw [cell_new]; exact adrV_six _ _
  have B := Lib.hid (alloc_below w (.cells (adrV s b) 24))
  generalize adrV s b = C at *
  cases s
  all_goals
    go_enter Try.func42, Try.ntmps42
    go_wp2
    go_ret
    exact ⟨rfl, B.out⟩
end Go.Proofs.Ytmedccfekfnmlaa.adC

/-
  The document's addresses: the text.
-/
namespace Go.Proofs.Ytmedccfekfnmlaa.adC
open Go.ChangeShapes Go.WideShapes Go.ChangeAt Go.RowKit
open Go.Proofs.Ytmedccfekfnmlaa.memC Go.Proofs.Ytmedccfekfnmlaa.genC Go.Proofs.Ytmedccfekfnmlaa.butC Go.Proofs.Ytmedccfekfnmlaa.freeC
set_option linter.unusedVariables false
section
variable {P : Program} {ops : Array Oper} {rest : List Oper} {o : Oper} {a : Act} {Q : Exit → Act → World → Prop}
/-- an operation, behind a guard that says yes or behind none, whose value is known -/
theorem wpList_runG {w : World} (hw : Region.wanted o (yielded ops a.tmps) = true) (v : Value) (hr : (execOp a.eval o).run P w = .ok (.value v) w) (h : wpList P ops Q rest (a.put o.dst v) w) : wpList P ops Q (o :: rest) a w := by
  refine wpList_step fun K hK => ?_
  rw [if_pos hw]
  unfold Oper.wp
  rw [hr]
  exact hK _ _ h
end
end Go.Proofs.Ytmedccfekfnmlaa.adC

/-
  Rows of texts that are the call's own: what they hold, a text put behind, a text turned.
-/
namespace Go.Proofs.Ytmedccfekfnmlaa.txC
open Go.ChangeShapes Go.WideShapes Go.ChangeAt Go.RowKit
open Go.Proofs.Ytmedccfekfnmlaa.memC Go.Proofs.Ytmedccfekfnmlaa.genC
set_option linter.unusedVariables false
def txts (ls : List (List Int)) : List Value := ls.map fun l => Value.string (strOfNums l)
def OwnT (w : World) (base : Nat) (v : Value) (ls : List (List Int)) : Prop := w.ownsRow base 9 1 v ls.length (txts ls)
theorem txts_len (ls : List (List Int)) : (txts ls).length = ls.length := by simp [txts]
theorem txts_at {ls : List (List Int)} {j : Nat} (h : j < ls.length) : (txts ls)[j]? = some (.string (strOfNums (ls.getD j []))) := by simp [txts, List.getD_eq_getElem?_getD, h]
theorem txts_one (ls : List (List Int)) : ∀ u ∈ txts ls, u.oneCell' = true := by
  intro u hu
  obtain ⟨l, _, rfl⟩ := List.mem_map.1 hu
  rfl
theorem string_inf : (Try.prog.info? 9).map (fun i => (i.zero, i.size, i.bytes)) = some (some (.string { data := #[] }), 1, 16) := by kernel_rfl
section
variable {w w' : World} {base B : Nat} {v : Value} {ls : List (List Int)}
theorem OwnT.blk (h : OwnT w base v ls) : ∀ g, v.ownBlock = some g → base ≤ g ∧ g < w.heap.size := fun g hg => h.lt g hg
theorem OwnT.form (h : OwnT w base v ls) : ∃ A cap, v = .slice A ls.length cap ∧ ls.length ≤ cap ∧ cap ≤ maxLen := by
  rcases h.2 with ⟨rfl, h0⟩ | ⟨g, cap, cur, rfl, hb, hh, hl, hm, hs, ht⟩
  · rw [h0]; exact ⟨none, 0, rfl, Nat.le_refl _, by simp [maxLen]⟩
  · exact ⟨some ⟨g, 0, none⟩, cap, rfl, hl, hm⟩
theorem OwnT.keep (h : OwnT w base v ls) (hk : ∀ g, base ≤ g → g < w.heap.size → w'.heap[g]? = w.heap[g]?) : OwnT w' base v ls := by
  refine ⟨h.1, ?_⟩
  rcases h.2 with h0 | ⟨g, cap, cur, rfl, hb, hh, h'⟩
  · exact .inl h0
  · exact .inr ⟨g, cap, cur, rfl, hb, (hk g hb (h.lt g rfl).2).trans hh, h'⟩
theorem OwnT.alloc (h : OwnT w base v ls) (o : Obj) : OwnT (w.alloc o) base v ls := World.ownsRow.alloc h o
theorem OwnT.drewN (h : OwnT w base v ls) (j : Nat) : OwnT (w.drewN j) base v ls := h.keep fun _ _ _ => rfl
theorem OwnT.below (h : OwnT w base v ls) (hb : Below w.heap.size w w') : OwnT w' base v ls := h.keep fun g _ hg => hb.block g hg
theorem OwnT.less (h : OwnT w base v ls) (hB : B ≤ base) : OwnT w B v ls := by
  refine ⟨h.1, ?_⟩
  rcases h.2 with h0 | ⟨g, cap, cur, rfl, hb, hh, h'⟩
  · exact .inl h0
  · exact .inr ⟨g, cap, cur, rfl, Nat.le_trans hB hb, hh, h'⟩
theorem OwnT.lit (w : World) (hb : base ≤ w.heap.size) (l : List Int) : OwnT (w.alloc (.cells #[.string (strOfNums l)] 9)) base (.slice (some ⟨w.heap.size, 0, none⟩) 1 1) [l] :=
  World.ownsRow_lit w #[.string (strOfNums l)] 1 hb (by simp [maxLen]) rfl
theorem OwnT.row {A : Option Addr} {n c : Nat} (h : OwnT w base (.slice A n c) ls) (hl : ls.length = n) (hn : 0 < n) :
    ∃ g, A = some ⟨g, 0, none⟩ ∧ base ≤ g ∧ g < w.heap.size ∧ (∀ j, j < n → w.cell? ⟨g, j, none⟩ = some (.string (strOfNums (ls.getD j [])))) ∧ ∀ j, w.frozen? ⟨g, j, none⟩ = false := by
  have hk := h.blk
  unfold OwnT at h
  rw [hl] at h
  rcases h.2 with ⟨e2, h0⟩ | ⟨g, cap, cur, e2, hb, hh, h3⟩
  · cases e2; omega
  · cases e2
    refine ⟨g, rfl, hb, (hk g rfl).2, fun j hj => ?_, fun j => World.ownsRow.frozenAt h j⟩
    rw [World.ownsRow.cellAt h j (by omega)]
    simp [txts, List.getD_eq_getElem?_getD, hl, hj]
theorem OwnT.stored {g n c : Nat} (h : OwnT w base (.slice (some ⟨g, 0, none⟩) n c) ls) (hl : ls.length = n) (j : Nat) (l : List Int) :
    OwnT (w.setCell ⟨g, j, none⟩ (.string (strOfNums l))) base (.slice (some ⟨g, 0, none⟩) n c) (ls.set j l) := by
  unfold OwnT at h ⊢
  rw [List.length_set]
  unfold txts at h ⊢
  rw [List.map_set]
  rw [hl] at h ⊢
  exact (World.ownsRow.stored h j (.string (strOfNums l))).1
end
section
variable {P : Program} {ops : Array Oper} {rest : List Oper} {o : Oper} {a : Act} {Q : Exit → Act → World → Prop}
/-- append(own, text): the literal's cell has just been laid -/
theorem wpList_txt (w : World) (hgd : o.guard = none) (s x : Operand) (t : TypeId)
    (ho : o.op = .call { callee := .builtin .append, args := #[s, x], argTypes := #[t, t] })
    (i : TypeInfo) (z : Value) (bytes : Nat) (ht : P.underlying t = some (.slice 9)) (hi : P.info? 9 = some i) (hz : i.zero = some z)
    (hsize : i.size = 1) (hby : i.bytes = bytes) (hzs : z.cells.size = 1) (base : Nat) (v : Value) (ls : List (List Int)) (hs : a.eval s = v) (hown : OwnT w base v ls)
    (S : ByteArray) (l : List Int) (hS : S = strOfNums l) (hx : a.eval x = .slice (some ⟨w.heap.size, 0, none⟩) 1 1) (h63 : ls.length + 1 ≤ maxLen) (hbytes : (ls.length + 1) * bytes ≤ 140737488355328) (hbase : base ≤ w.heap.size) (L : Nat) (hL : ls.length + 1 = L)
    (h : ∀ A' c' w', L ≤ c' → c' ≤ maxLen → OwnT w' base (.slice A' L c') (ls ++ [l]) → Below base w w' → wpList P ops Q rest (a.put o.dst (.slice A' L c')) w') : wpList P ops Q (o :: rest) a (w.alloc (.cells #[.string S] 9)) := by
  subst hS
  have hsz : (w.alloc (.cells #[.string (strOfNums l)] 9)).heap.size = w.heap.size + 1 := by simp
  obtain ⟨v', w', hrun, h2, h3, _⟩ := run_append_own (P := P) (w.alloc (.cells #[.string (strOfNums l)] 9)) base t o.type 9 i z 1 bytes ht hi hz hsize hby hzs (by omega) v _ _ (hown.alloc _) ⟨w.heap.size, 0, none⟩ 1 1 (txts [l]) (by simp [txts]) (by
    intro j u hu
    have hj : j = 0 := by
      have := (List.getElem?_eq_some_iff.1 hu).1
      rw [txts_len] at this; simp at this; exact this
    subst hj
    have : u = .string (strOfNums l) := by simpa [txts] using hu.symm
    subst this
    simp [go_sem]) (txts_one _) h63 hbytes (by omega)
  have O : OwnT w' base v' (ls ++ [l]) := by
    unfold OwnT
    rw [List.length_append]
    unfold txts at h2 ⊢
    rw [List.map_append]
    exact h2
  have eL : (ls ++ [l]).length = L := by rw [List.length_append]; exact hL
  obtain ⟨A', c', e2, g1, g2⟩ := O.form
  rw [eL] at e2 g1
  subst e2
  have hh := h A' c' w' g1 g2 O (((Below.refl _ _).alloc hbase _).grown h3 (by omega) fun g hg => (hown.blk g hg).1)
  refine wpList_plain hgd fun K hK => ?_
  unfold Oper.wp execOp
  simp only [ho, resolve, invoke, builtin, Sem.run_bind, Sem.run_pure, Result.andThen_ok, List.map_toArray, List.map_cons, List.map_nil, hs, hx, hrun]
  exact hK _ _ hh
end
end Go.Proofs.Ytmedccfekfnmlaa.txC

/-
  A region that draws its order, whose operations are quiet but for the last one, which waits for all others: one walk in the text's order serves every order.
-/
namespace Go.Proofs.Ytmedccfekfnmlaa.lastC
open Go.ChangeShapes Go.WideShapes Go.ChangeAt Go.RowKit
set_option linter.unusedVariables false
section
variable {P : Program} {L l : List Oper} {o : Oper} {C : World → Prop}
/-- the marks of the whole region, and of its head -/
structure Marks (n : Nat) (m mh : Array Bool) : Prop where
  size : m.size = n + 1
  sizeh : mh.size = n
  same : ∀ i, i < n → m[i]? = mh[i]?
  last : m[n]? = some false
theorem Marks.set {n i : Nat} {m mh : Array Bool} (h : Marks n m mh) (hi : i < n) : Marks n (m.setIfInBounds i true) (mh.setIfInBounds i true) := by
  refine ⟨by simp [h.size], by simp [h.sizeh], fun j hj => ?_, ?_⟩
  · simp only [Array.getElem?_setIfInBounds]
    split
    · rename_i e; subst e; simp [h.size, h.sizeh, hi]; omega
    · exact h.same j hj
  · simp only [Array.getElem?_setIfInBounds]
    rw [if_neg (by omega)]; exact h.last
theorem Marks.getD {n i : Nat} {m mh : Array Bool} (h : Marks n m mh) (hi : i < n) (d : Bool) : m.getD i d = mh.getD i d := by
  have := h.same i hi
  simp only [Array.getD_eq_getD_getElem?, this]
variable {m mh : Array Bool} {n : Nat}
variable {Q : Exit → Act → World → Prop} {a : Act} {w : World}
end
end Go.Proofs.Ytmedccfekfnmlaa.lastC

/-
  The document's addresses: a text's parts between bytes.
-/
namespace Go.Proofs.Ytmedccfekfnmlaa.adC
open Go.ChangeShapes Go.WideShapes Go.ChangeAt Go.RowKit
open Go.Proofs.Ytmedccfekfnmlaa.memC Go.Proofs.Ytmedccfekfnmlaa.genC Go.Proofs.Ytmedccfekfnmlaa.butC Go.Proofs.Ytmedccfekfnmlaa.freeC Go.Proofs.Ytmedccfekfnmlaa.txC
set_option linter.unusedVariables false
/-- the parts between bytes c: those that there are, and the one that is under way -/
def spl (c : Int) : List Int → List (List Int) → List Int → List (List Int)
  | [], acc, cur => acc ++ [cur]
  | x :: r, acc, cur => if x = c then spl c r (acc ++ [cur]) [] else spl c r acc (cur ++ [x])
/-- the state of the loop -/
structure SX (w : World) (c : Int) (xs : List Int) (T : List (List Int)) (i : Nat) (v : Value) (wr : World) : Prop where
  ex : ∃ acc cur A n cap, v = .slice A n cap ∧ acc.length + 1 = n ∧ n ≤ i + 1 ∧ cur.length ≤ i ∧ OwnT wr w.heap.size (.slice A n cap) (acc ++ [cur]) ∧ spl c (xs.drop i) acc cur = T ∧ Below w.heap.size w wr
def spV (g n cap k p j : Nat) (S0 SC SX SD : ByteArray) : Nat → Value → World → Prop
  | 0, v, _ => v = .slice (some ⟨g, 0, none⟩) n cap
  | 1, v, _ => v = .slice (some ⟨g, 0, none⟩) n cap
  | 2, v, _ => v = .int .i64 n
  | 3, v, _ => v = .int .i64 k
  | 4, v, _ => v = .pointer (some ⟨g, k, none⟩)
  | 5, v, _ => v = .string SC
  | 6, v, _ => v = .string S0
  | 7, v, _ => v = .int .i64 p
  | 8, v, _ => v = .int .i64 p
  | 9, v, _ => v = .int .i64 j
  | 10, v, _ => v = .string SX
  | 11, v, _ => v = .string SD
  | 12, v, _ => v = .pointer (some ⟨g, k, none⟩)
  | _, _, _ => True
theorem spV.keep (g n cap k p j : Nat) (S0 SC SX SD : ByteArray) (i : Nat) (v : Value) (w w' : World) (hb : Below w.heap.size w w') (h : spV g n cap k p j S0 SC SX SD i v w) : spV g n cap k p j S0 SC SX SD i v w' := by
  unfold spV at h ⊢
  split at h <;> exact h
end Go.Proofs.Ytmedccfekfnmlaa.adC

/-
  The document's addresses: what Six does.
-/
namespace Go.Proofs.Ytmedccfekfnmlaa.adC
open Go.ChangeShapes Go.WideShapes Go.ChangeAt Go.RowKit
open Go.Proofs.Ytmedccfekfnmlaa.memC Go.Proofs.Ytmedccfekfnmlaa.genC Go.Proofs.Ytmedccfekfnmlaa.butC Go.Proofs.Ytmedccfekfnmlaa.freeC
set_option linter.unusedVariables false
/-- the bytes of groups, up to the j-th -/
def sixT (gs : List Int) : Nat → List Int
  | 0 => zs 16
  | j + 1 => ((sixT gs j).set (2 * j) (gs.getD j 0 / 256)).set (2 * j + 1) (gs.getD j 0 % 256)
def W16 (x : Int) : Prop := 0 ≤ x ∧ x ≤ 65535
section
variable {w0 w : World} {Z : Array Value} {b : List Int} {i p q g gb go n c : Nat} {x hi lo : Int} {m : Nat → Bool} {us : Nat → Value}
end
/-- the state of the loop -/
structure SS (w : World) (g : Nat) (Z : Array Value) (gs : List Int) (j : Nat) (wr : World) : Prop where
  bel : Below w.heap.size w wr
  res : wr.heap[w.heap.size]? = some (.cells Z 24 (0, 0))
  row : wr.heap[g]? = some (.cells (adrV true (sixT gs j)) 24 (0, 0))
end Go.Proofs.Ytmedccfekfnmlaa.adC
