/-
  6 texts of a proof, joined.
-/
import Derived.Test.YtjdenhkicikfkaaMg3
import Derived.StillTailTactics
import Derived.Deep.QuietTactic
import Derived.BigQuiet
import Derived.Deep.CutRange
import Derived.BigRegion
import Derived.Test.YtjdenhkicikfkaaMg1
import Derived.Test.YtjdenhkicikfkaaMg2
import Derived.Great.BuildSlice

/-
  The document's addresses: numbers' texts (ten, hex), the size of an address.
-/
namespace Go.Proofs.Ytjdenhkicikfkaa.adC
open Go.ChangeShapes Go.WideShapes Go.ChangeAt Go.RowKit
open Go.Proofs.Ytjdenhkicikfkaa.memC Go.Proofs.Ytjdenhkicikfkaa.genC Go.Proofs.Ytjdenhkicikfkaa.butC Go.Proofs.Ytjdenhkicikfkaa.freeC
set_option linter.unusedVariables false
set_option maxRecDepth 100000 in
theorem size_any (s : Bool) (b : List Int) (w : World) (h : b.length = 16) : Calls Try.prog 24 #[.agg (adrV s b)] w (Ret w (.int .i64 (adrN s))) := by
  have k1 : (w.alloc (.cells (adrV s b) 25)).cell? ⟨w.heap.size, 0, none⟩ = some (.bool s) := by rw [cell_new]; exact adrV_six _ _
  have B := Lib.hid (alloc_below w (.cells (adrV s b) 25))
  generalize adrV s b = C at *
  cases s
  all_goals
    go_enter Try.func24, Try.ntmps24
    go_wp2
    go_ret
    exact ⟨rfl, B.out⟩
end Go.Proofs.Ytjdenhkicikfkaa.adC

/-
  The document's addresses: the text.
-/
namespace Go.Proofs.Ytjdenhkicikfkaa.adC
open Go.ChangeShapes Go.WideShapes Go.ChangeAt Go.RowKit
open Go.Proofs.Ytjdenhkicikfkaa.memC Go.Proofs.Ytjdenhkicikfkaa.genC Go.Proofs.Ytjdenhkicikfkaa.butC Go.Proofs.Ytjdenhkicikfkaa.freeC
set_option linter.unusedVariables false
section
variable {P : Program} {ops : Array Oper} {rest : List Oper} {o : Oper} {a : Act} {Q : Exit → Act → World → Prop}
/-- an operation, behind a guard that says yes or behind none, whose value is known -/
theorem wpList_runG {w : World} (hw : Region.wanted o (yielded ops a.tmps) = true) (v : Value) (hr : (execOp a.eval o).run P w = .ok (.value v) w) (h : wpList P ops Q rest (a.put o.dst v) w) : wpList P ops Q (o :: rest) a w := by
  refine wpList_step fun K hK => ?_
  rw [if_pos hw]
  unfold Oper.wp
  rw [hr]
  exact hK _ _ h
end
end Go.Proofs.Ytjdenhkicikfkaa.adC

/-
  Rows of texts that are the call's own: what they hold, a text put behind, a text turned.
-/
namespace Go.Proofs.Ytjdenhkicikfkaa.txC
open Go.ChangeShapes Go.WideShapes Go.ChangeAt Go.RowKit
open Go.Proofs.Ytjdenhkicikfkaa.memC Go.Proofs.Ytjdenhkicikfkaa.genC
set_option linter.unusedVariables false
def txts (ls : List (List Int)) : List Value := ls.map fun l => Value.string (strOfNums l)
def OwnT (w : World) (base : Nat) (v : Value) (ls : List (List Int)) : Prop := w.ownsRow base 9 1 v ls.length (txts ls)
theorem txts_len (ls : List (List Int)) : (txts ls).length = ls.length := by simp [txts]
theorem txts_one (ls : List (List Int)) : ∀ u ∈ txts ls, u.oneCell' = true := by
  intro u hu
  obtain ⟨l, _, rfl⟩ := List.mem_map.1 hu
  rfl
section
variable {w w' : World} {base B : Nat} {v : Value} {ls : List (List Int)}
theorem OwnT.blk (h : OwnT w base v ls) : ∀ g, v.ownBlock = some g → base ≤ g ∧ g < w.heap.size := fun g hg => h.lt g hg
theorem OwnT.form (h : OwnT w base v ls) : ∃ A cap, v = .slice A ls.length cap ∧ ls.length ≤ cap ∧ cap ≤ maxLen := by
  rcases h.2 with ⟨rfl, h0⟩ | ⟨g, cap, cur, rfl, hb, hh, hl, hm, hs, ht⟩
  · rw [h0]; exact ⟨none, 0, rfl, Nat.le_refl _, by simp [maxLen]⟩
  · exact ⟨some ⟨g, 0, none⟩, cap, rfl, hl, hm⟩
theorem OwnT.keep (h : OwnT w base v ls) (hk : ∀ g, base ≤ g → g < w.heap.size → w'.heap[g]? = w.heap[g]?) : OwnT w' base v ls := by
  refine ⟨h.1, ?_⟩
  rcases h.2 with h0 | ⟨g, cap, cur, rfl, hb, hh, h'⟩
  · exact .inl h0
  · exact .inr ⟨g, cap, cur, rfl, hb, (hk g hb (h.lt g rfl).2).trans hh, h'⟩
theorem OwnT.alloc (h : OwnT w base v ls) (o : Obj) : OwnT (w.alloc o) base v ls := World.ownsRow.alloc h o
theorem OwnT.below (h : OwnT w base v ls) (hb : Below w.heap.size w w') : OwnT w' base v ls := h.keep fun g _ hg => hb.block g hg
theorem OwnT.less (h : OwnT w base v ls) (hB : B ≤ base) : OwnT w B v ls := by
  refine ⟨h.1, ?_⟩
  rcases h.2 with h0 | ⟨g, cap, cur, rfl, hb, hh, h'⟩
  · exact .inl h0
  · exact .inr ⟨g, cap, cur, rfl, Nat.le_trans hB hb, hh, h'⟩
theorem OwnT.row {A : Option Addr} {n c : Nat} (h : OwnT w base (.slice A n c) ls) (hl : ls.length = n) (hn : 0 < n) :
    ∃ g, A = some ⟨g, 0, none⟩ ∧ base ≤ g ∧ g < w.heap.size ∧ (∀ j, j < n → w.cell? ⟨g, j, none⟩ = some (.string (strOfNums (ls.getD j [])))) ∧ ∀ j, w.frozen? ⟨g, j, none⟩ = false := by
  have hk := h.blk
  unfold OwnT at h
  rw [hl] at h
  rcases h.2 with ⟨e2, h0⟩ | ⟨g, cap, cur, e2, hb, hh, h3⟩
  · cases e2; omega
  · cases e2
    refine ⟨g, rfl, hb, (hk g rfl).2, fun j hj => ?_, fun j => World.ownsRow.frozenAt h j⟩
    rw [World.ownsRow.cellAt h j (by omega)]
    simp [txts, List.getD_eq_getElem?_getD, hl, hj]
end
section
variable {P : Program} {ops : Array Oper} {rest : List Oper} {o : Oper} {a : Act} {Q : Exit → Act → World → Prop}
/-- append(own, text): the literal's cell has just been laid -/
theorem wpList_txt (w : World) (hgd : o.guard = none) (s x : Operand) (t : TypeId)
    (ho : o.op = .call { callee := .builtin .append, args := #[s, x], argTypes := #[t, t] })
    (i : TypeInfo) (z : Value) (bytes : Nat) (ht : P.underlying t = some (.slice 9)) (hi : P.info? 9 = some i) (hz : i.zero = some z)
    (hsize : i.size = 1) (hby : i.bytes = bytes) (hzs : z.cells.size = 1) (base : Nat) (v : Value) (ls : List (List Int)) (hs : a.eval s = v) (hown : OwnT w base v ls)
    (S : ByteArray) (l : List Int) (hS : S = strOfNums l) (hx : a.eval x = .slice (some ⟨w.heap.size, 0, none⟩) 1 1) (h63 : ls.length + 1 ≤ maxLen) (hbytes : (ls.length + 1) * bytes ≤ 140737488355328) (hbase : base ≤ w.heap.size) (L : Nat) (hL : ls.length + 1 = L)
    (h : ∀ A' c' w', L ≤ c' → c' ≤ maxLen → OwnT w' base (.slice A' L c') (ls ++ [l]) → Below base w w' → wpList P ops Q rest (a.put o.dst (.slice A' L c')) w') : wpList P ops Q (o :: rest) a (w.alloc (.cells #[.string S] 9)) := by
  subst hS
  have hsz : (w.alloc (.cells #[.string (strOfNums l)] 9)).heap.size = w.heap.size + 1 := by simp
  obtain ⟨v', w', hrun, h2, h3, _⟩ := run_append_own (P := P) (w.alloc (.cells #[.string (strOfNums l)] 9)) base t o.type 9 i z 1 bytes ht hi hz hsize hby hzs (by omega) v _ _ (hown.alloc _) ⟨w.heap.size, 0, none⟩ 1 1 (txts [l]) (by simp [txts]) (by
    intro j u hu
    have hj : j = 0 := by
      have := (List.getElem?_eq_some_iff.1 hu).1
      rw [txts_len] at this; simp at this; exact this
    subst hj
    have : u = .string (strOfNums l) := by simpa [txts] using hu.symm
    subst this
    simp [go_sem]) (txts_one _) h63 hbytes (by omega)
  have O : OwnT w' base v' (ls ++ [l]) := by
    unfold OwnT
    rw [List.length_append]
    unfold txts at h2 ⊢
    rw [List.map_append]
    exact h2
  have eL : (ls ++ [l]).length = L := by rw [List.length_append]; exact hL
  obtain ⟨A', c', e2, g1, g2⟩ := O.form
  rw [eL] at e2 g1
  subst e2
  have hh := h A' c' w' g1 g2 O (((Below.refl _ _).alloc hbase _).grown h3 (by omega) fun g hg => (hown.blk g hg).1)
  refine wpList_plain hgd fun K hK => ?_
  unfold Oper.wp execOp
  simp only [ho, resolve, invoke, builtin, Sem.run_bind, Sem.run_pure, Result.andThen_ok, List.map_toArray, List.map_cons, List.map_nil, hs, hx, hrun]
  exact hK _ _ hh
end
end Go.Proofs.Ytjdenhkicikfkaa.txC

/-
  A region that draws its order, whose operations are quiet but for the last one, which waits for all others: one walk in the text's order serves every order.
-/
namespace Go.Proofs.Ytjdenhkicikfkaa.lastC
open Go.ChangeShapes Go.WideShapes Go.ChangeAt Go.RowKit
set_option linter.unusedVariables false
/-- edges go back; nothing is guarded -/
def backB (L : List Oper) : Bool := (List.range L.length).all fun j => match L[j]? with
  | some o => o.guard.isNone && o.after.all fun e => !Region.binds .any e || decide (e.on < j)
  | none => true
/-- the last one waits for all -/
def waitB (n : Nat) (o : Oper) : Bool := (List.range n).all fun i => o.after.any fun e => Region.binds .any e && (e.on == i)
section
variable {P : Program} {L l : List Oper} {o : Oper} {C : World → Prop}
theorem backB_spec (h : backB L = true) {j : Nat} {oj : Oper} (hj : L[j]? = some oj) : oj.guard = none ∧ ∀ e ∈ oj.after, Region.binds .any e = true → e.on < j := by
  have hlt : j < L.length := by
    rcases Nat.lt_or_ge j L.length with h1 | h1
    · exact h1
    · rw [List.getElem?_eq_none h1] at hj; cases hj
  have h1 := List.all_eq_true.1 h j (List.mem_range.2 hlt)
  rw [hj] at h1
  simp only [Bool.and_eq_true] at h1
  refine ⟨by simpa using h1.1, fun e he hb => ?_⟩
  have h2 := Array.all_eq_true'.1 h1.2 e he
  rw [hb] at h2
  simpa using h2
theorem waitB_spec {n : Nat} (h : waitB n o = true) {i : Nat} (hi : i < n) : ∃ e ∈ o.after, Region.binds .any e = true ∧ e.on = i := by
  have h1 := List.all_eq_true.1 h i (List.mem_range.2 hi)
  obtain ⟨e, he, hb⟩ := Array.any_eq_true'.1 h1
  simp only [Bool.and_eq_true, beq_iff_eq] at hb
  exact ⟨e, he, hb.1, hb.2⟩
/-- the marks of the whole region, and of its head -/
structure Marks (n : Nat) (m mh : Array Bool) : Prop where
  size : m.size = n + 1
  sizeh : mh.size = n
  same : ∀ i, i < n → m[i]? = mh[i]?
  last : m[n]? = some false
theorem Marks.set {n i : Nat} {m mh : Array Bool} (h : Marks n m mh) (hi : i < n) : Marks n (m.setIfInBounds i true) (mh.setIfInBounds i true) := by
  refine ⟨by simp [h.size], by simp [h.sizeh], fun j hj => ?_, ?_⟩
  · simp only [Array.getElem?_setIfInBounds]
    split
    · rename_i e; subst e; simp [h.size, h.sizeh, hi]; omega
    · exact h.same j hj
  · simp only [Array.getElem?_setIfInBounds]
    rw [if_neg (by omega)]; exact h.last
theorem Marks.getD {n i : Nat} {m mh : Array Bool} (h : Marks n m mh) (hi : i < n) (d : Bool) : m.getD i d = mh.getD i d := by
  have := h.same i hi
  simp only [Array.getD_eq_getD_getElem?, this]
variable {m mh : Array Bool} {n : Nat}
theorem head_at (l : List Oper) (o : Oper) {i : Nat} (hi : i < l.length) : (l ++ [o]).toArray[i]? = l.toArray[i]? := by
  simp [List.getElem?_append_left hi]
theorem ready_head (hb : backB (l ++ [o]) = true) (M : Marks l.length m mh) {i : Nat} (hi : i < l.length) : i ∈ Region.ready .any (l ++ [o]).toArray m ↔ i ∈ Region.ready .any l.toArray mh := by
  rw [mem_ready, mem_ready, head_at l o hi, M.getD hi true]
  refine and_congr Iff.rfl (exists_congr fun oi => and_congr_right fun hoi => ?_)
  have hoi2 : (l ++ [o])[i]? = some oi := by rw [List.getElem?_append_left hi]; simpa using hoi
  obtain ⟨_, hback⟩ := backB_spec hb hoi2
  refine forall_congr' fun e => ?_
  constructor
  · intro h he hbd
    rw [← M.getD (Nat.lt_trans (hback e he hbd) hi) false]; exact h he hbd
  · intro h he hbd
    rw [M.getD (Nat.lt_trans (hback e he hbd) hi) false]; exact h he hbd
theorem getD_flip {mh : Array Bool} {i : Nat} (hi : i < mh.size) (h : mh.getD i true = true) : mh.getD i false = true := by
  simp [hi] at h ⊢; exact h
theorem all_marked (hb : backB (l ++ [o]) = true) (M : Marks l.length m mh) (hr : Region.ready .any l.toArray mh = []) : ∀ i, i < l.length → mh.getD i true = true := by
  intro i
  induction i using Nat.strongRecOn with
  | _ i ih =>
    intro hi
    cases hg : mh.getD i true with
    | true => rfl
    | false =>
      exfalso
      have hoi : (l ++ [o])[i]? = some (l[i]'hi) := by rw [List.getElem?_append_left hi]; exact List.getElem?_eq_getElem hi
      obtain ⟨_, hback⟩ := backB_spec hb hoi
      have : i ∈ Region.ready .any l.toArray mh := mem_ready.2 ⟨hg, l[i]'hi, by simp [List.getElem?_eq_getElem hi], fun e he hbd => by
        have h1 := hback e he hbd
        exact getD_flip (by rw [M.sizeh]; omega) (ih e.on h1 (by omega))⟩
      rw [hr] at this
      cases this
theorem last_at (l : List Oper) (o : Oper) : (l ++ [o]).toArray[l.length]? = some o := by simp
theorem last_ready (hb : backB (l ++ [o]) = true) (M : Marks l.length m mh) (hall : ∀ i, i < l.length → mh.getD i true = true) : l.length ∈ Region.ready .any (l ++ [o]).toArray m := by
  have hoi : (l ++ [o])[l.length]? = some o := by simp
  obtain ⟨_, hback⟩ := backB_spec hb hoi
  refine mem_ready.2 ⟨by simp [Array.getD_eq_getD_getElem?, M.last], o, last_at l o, fun e he hbd => ?_⟩
  have h1 := hback e he hbd
  rw [M.getD h1 false]
  exact getD_flip (by rw [M.sizeh]; exact h1) (hall _ h1)
theorem ready_last (hw : waitB l.length o = true) (M : Marks l.length m mh) (hr : l.length ∈ Region.ready .any (l ++ [o]).toArray m) : ∀ i, i < l.length → mh.getD i true = true := by
  intro i hi
  obtain ⟨_, o', ho', hall⟩ := mem_ready.1 hr
  rw [last_at] at ho'
  cases ho'
  obtain ⟨e, he, hbd, rfl⟩ := waitB_spec hw hi
  have h1 := hall e he hbd
  rw [M.getD hi false] at h1
  have h2 : e.on < mh.size := by rw [M.sizeh]; exact hi
  simp [h2] at h1 ⊢; exact h1
theorem ready_le {i : Nat} (hr : i ∈ Region.ready .any (l ++ [o]).toArray m) : i ≤ l.length := by
  obtain ⟨_, o', ho', _⟩ := mem_ready.1 hr
  have : i < (l ++ [o]).toArray.size := (Array.getElem?_eq_some_iff.1 ho').1
  simp at this; omega
theorem none_ready (M : Marks l.length m mh) (hall : ∀ i, i < l.length → mh.getD i true = true) : Region.ready .any (l ++ [o]).toArray (m.setIfInBounds l.length true) = [] := by
  refine List.eq_nil_iff_forall_not_mem.2 fun j hj => ?_
  have hle := ready_le hj
  obtain ⟨h1, _⟩ := mem_ready.1 hj
  by_cases e : j = l.length
  · subst e
    simp [Array.getD_eq_getD_getElem?, M.size] at h1
  · have hj2 : j < l.length := by omega
    have h2 := hall j hj2
    rw [← M.getD hj2 true] at h2
    simp only [Array.getD_eq_getD_getElem?, Array.getElem?_setIfInBounds] at h1 h2
    rw [if_neg (fun h => e h.symm)] at h1
    rw [h1] at h2; cases h2
variable {Q : Exit → Act → World → Prop} {a : Act} {w : World}
theorem any_last (hb : backB (l ++ [o]) = true) (M : Marks l.length m mh) (hall : ∀ i, i < l.length → mh.getD i true = true)
    (hq : wpOp P (l ++ [o]).toArray Q l.length (fun a' w' => Q .normal a' w') a w) (g : Nat) : wpAny P .any (l ++ [o]).toArray Q (g + 1) m a w := by
  refine ⟨fun h0 => ?_, fun i hi => ?_⟩
  · have := last_ready hb M hall
    rw [h0] at this; cases this
  · have hle := ready_le hi
    have hin : i = l.length := by
      by_cases e : i = l.length
      · exact e
      · exfalso
        obtain ⟨h1, _⟩ := mem_ready.1 hi
        have h2 := hall i (by omega)
        rw [M.getD (by omega) true] at h1
        rw [h1] at h2; cases h2
    subst hin
    refine wpOp_mono (fun a' w' h => ?_) hq
    have hn := none_ready (o := o) M hall
    cases g with
    | zero => exact ⟨hn, h⟩
    | succ g => exact ⟨fun _ => h, fun i hi' => by rw [hn] at hi'; cases hi'⟩
theorem any_of_head (hb : backB (l ++ [o]) = true) (hw : waitB l.length o = true) : ∀ (f : Nat) (m mh : Array Bool) (a : Act) (w : World), Marks l.length m mh → C w →
    wpAnyQ P .any l.toArray C (fun a' => ∀ w', C w' → wpOp P (l ++ [o]).toArray Q l.length (fun a' w' => Q .normal a' w') a' w') f mh a → wpAny P .any (l ++ [o]).toArray Q (f + 1) m a w
  | 0, m, mh, a, w, M, hc, h => any_last hb M (all_marked hb M h.1) (h.2 w hc) 0
  | f + 1, m, mh, a, w, M, hc, h => by
    by_cases hr : Region.ready .any l.toArray mh = []
    · exact any_last hb M (all_marked hb M hr) (h.1 hr w hc) (f + 1)
    · refine ⟨fun h0 => ?_, fun i hi => ?_⟩
      · exfalso
        obtain ⟨j, hj⟩ := List.exists_mem_of_ne_nil _ hr
        have hjl : j < l.length := by
          obtain ⟨_, o', ho', _⟩ := mem_ready.1 hj
          have : j < l.toArray.size := (Array.getElem?_eq_some_iff.1 ho').1
          simpa using this
        have := (ready_head hb M hjl).2 hj
        rw [h0] at this; cases this
      · have hle := ready_le hi
        by_cases e : i = l.length
        · subst e
          have hall := ready_last hw M hi
          exfalso
          obtain ⟨j, hj⟩ := List.exists_mem_of_ne_nil _ hr
          obtain ⟨h1, o', ho', _⟩ := mem_ready.1 hj
          have hjl : j < l.toArray.size := (Array.getElem?_eq_some_iff.1 ho').1
          have h2 := hall j (by simpa using hjl)
          rw [h1] at h2; cases h2
        · have hil : i < l.length := by omega
          have hq := h.2 i ((ready_head hb M hil).1 hi)
          have hoi : (l ++ [o])[i]? = some (l[i]'hil) := by rw [List.getElem?_append_left hil]; exact List.getElem?_eq_getElem hil
          obtain ⟨hg, _⟩ := backB_spec hb hoi
          have hwant : ∀ y, Region.wanted (l[i]'hil) y = true := fun y => by simp [Region.wanted, hg]
          unfold qOp at hq
          simp only [List.getElem?_toArray, List.getElem?_eq_getElem hil, hwant, if_true] at hq
          unfold wpOp
          simp only [List.getElem?_toArray, hoi, hwant, if_true]
          exact .inl (Oper.wp_of_quiet hc (fun a' w' hc' h' => any_of_head hb hw f _ _ a' w' (M.set hil) hc' h') hq)
/-- one walk in the text's order, and the last operation behind it, in whatever world the draws have left -/
theorem wp_region_last {id : Nat} (n : Nat) (hm : P.follows .mixedOrders = true) (hB : Region.lexB .any (L.take n).toArray = true) (hb : backB L = true) (hw : (match L.drop n with | [o] => waitB n o | _ => false) = true)
    (h : wpQuiet P (L.take n).toArray (fun w' => ∃ j, w' = w.drewN j) (fun a' => ∀ w', (∃ j, w' = w.drewN j) → wpList P L.toArray Q (L.drop n) a' w') (L.take n) a) : (Code.region id L.toArray true).wp P Q a w := by
  obtain ⟨o, ho, hwo⟩ : ∃ o, L.drop n = [o] ∧ waitB n o = true := by
    revert hw
    cases hd : L.drop n with
    | nil => intro hw; cases hw
    | cons o r =>
      cases r with
      | nil => intro hw; exact ⟨o, rfl, hw⟩
      | cons _ _ => intro hw; cases hw
  have hL : L.take n ++ [o] = L := by rw [← ho]; exact List.take_append_drop n L
  have hn : (L.take n).length = n := by
    have h1 := congrArg List.length ho
    rw [List.length_drop] at h1
    rw [List.length_take]; simp at h1; omega
  obtain ⟨l, hl⟩ : ∃ l, l = L.take n := ⟨_, rfl⟩
  rw [← hl] at hL hn hB h
  rw [ho] at h
  subst hL
  subst hn
  simp only [Region.lexB, Bool.and_eq_true] at hB
  refine wp_region_any hm ?_
  have hx := wpAnyQ_lex (C := fun w' => ∃ j, w' = w.drewN j) (md := .any) hB.1 l 0 (Array.replicate l.toArray.size false) a (by simp) (by simpa using hB.2) h
  have hfin := any_of_head (P := P) (C := fun w' => ∃ j, w' = w.drewN j) (Q := Q) hb hwo l.length (Array.replicate (l ++ [o]).toArray.size false) (Array.replicate l.toArray.size false) a { w with drawn := w.drawn + 1 }
    ⟨by simp, by simp, fun i hi => by simp only [Array.getElem?_replicate]; rw [if_pos (by simp; omega), if_pos (by simpa using hi)], by simp⟩ ⟨1, rfl⟩ ?_
  · simpa using hfin
  · have e : (fun a' => ∀ w', (∃ j, w' = w.drewN j) → wpList P (l ++ [o]).toArray Q [o] a' w') = (fun a' => ∀ w', (∃ j, w' = w.drewN j) → wpOp P (l ++ [o]).toArray Q l.length (fun a' w' => Q .normal a' w') a' w') := by
      funext a'
      refine forall_congr fun w' => ?_
      simp only [wpOp, last_at, wpList]
    rw [e] at hx
    exact hx
end
end Go.Proofs.Ytjdenhkicikfkaa.lastC

/-
  The document's addresses: a text's parts between bytes.
-/
namespace Go.Proofs.Ytjdenhkicikfkaa.adC
open Go.ChangeShapes Go.WideShapes Go.ChangeAt Go.RowKit
open Go.Proofs.Ytjdenhkicikfkaa.memC Go.Proofs.Ytjdenhkicikfkaa.genC Go.Proofs.Ytjdenhkicikfkaa.butC Go.Proofs.Ytjdenhkicikfkaa.freeC Go.Proofs.Ytjdenhkicikfkaa.txC
set_option linter.unusedVariables false
/-- the parts between bytes c: those that there are, and the one that is under way -/
def spl (c : Int) : List Int → List (List Int) → List Int → List (List Int)
  | [], acc, cur => acc ++ [cur]
  | x :: r, acc, cur => if x = c then spl c r (acc ++ [cur]) [] else spl c r acc (cur ++ [x])
/-- the state of the loop -/
structure SX (w : World) (c : Int) (xs : List Int) (T : List (List Int)) (i : Nat) (v : Value) (wr : World) : Prop where
  ex : ∃ acc cur A n cap, v = .slice A n cap ∧ acc.length + 1 = n ∧ n ≤ i + 1 ∧ cur.length ≤ i ∧ OwnT wr w.heap.size (.slice A n cap) (acc ++ [cur]) ∧ spl c (xs.drop i) acc cur = T ∧ Below w.heap.size w wr
def spV (g n cap k p j : Nat) (S0 SC SX SD : ByteArray) : Nat → Value → World → Prop
  | 0, v, _ => v = .slice (some ⟨g, 0, none⟩) n cap
  | 1, v, _ => v = .slice (some ⟨g, 0, none⟩) n cap
  | 2, v, _ => v = .int .i64 n
  | 3, v, _ => v = .int .i64 k
  | 4, v, _ => v = .pointer (some ⟨g, k, none⟩)
  | 5, v, _ => v = .string SC
  | 6, v, _ => v = .string S0
  | 7, v, _ => v = .int .i64 p
  | 8, v, _ => v = .int .i64 p
  | 9, v, _ => v = .int .i64 j
  | 10, v, _ => v = .string SX
  | 11, v, _ => v = .string SD
  | 12, v, _ => v = .pointer (some ⟨g, k, none⟩)
  | _, _, _ => True
theorem spV.keep (g n cap k p j : Nat) (S0 SC SX SD : ByteArray) (i : Nat) (v : Value) (w w' : World) (hb : Below w.heap.size w w') (h : spV g n cap k p j S0 SC SX SD i v w) : spV g n cap k p j S0 SC SX SD i v w' := by
  unfold spV at h ⊢
  split at h <;> exact h
end Go.Proofs.Ytjdenhkicikfkaa.adC

/-
  The document's addresses: what Six does.
-/
namespace Go.Proofs.Ytjdenhkicikfkaa.adC
open Go.ChangeShapes Go.WideShapes Go.ChangeAt Go.RowKit
open Go.Proofs.Ytjdenhkicikfkaa.memC Go.Proofs.Ytjdenhkicikfkaa.genC Go.Proofs.Ytjdenhkicikfkaa.butC Go.Proofs.Ytjdenhkicikfkaa.freeC
set_option linter.unusedVariables false
def W16 (x : Int) : Prop := 0 ≤ x ∧ x ≤ 65535
section
variable {w0 w : World} {Z : Array Value} {b : List Int} {i p q g gb go n c : Nat} {x hi lo : Int} {m : Nat → Bool} {us : Nat → Value}
end
end Go.Proofs.Ytjdenhkicikfkaa.adC
