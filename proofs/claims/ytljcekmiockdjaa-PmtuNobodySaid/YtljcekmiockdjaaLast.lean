/-
  A region that draws its order, whose operations are quiet but for the last one, which waits for all others: one walk in the text's order serves every order.
-/
import Derived.Test.YtljcekmiockdjaaGen
namespace Go.Proofs.Ytljcekmiockdjaa.lastC
open Go.ChangeShapes Go.WideShapes Go.ChangeAt Go.RowKit
set_option linter.unusedVariables false
/-- edges go back; nothing is guarded -/
def backB (L : List Oper) : Bool := (List.range L.length).all fun j => match L[j]? with
  | some o => o.guard.isNone && o.after.all fun e => !Region.binds .any e || decide (e.on < j)
  | none => true
/-- the last one waits for all -/
def waitB (n : Nat) (o : Oper) : Bool := (List.range n).all fun i => o.after.any fun e => Region.binds .any e && (e.on == i)
section
variable {P : Program} {L l : List Oper} {o : Oper} {C : World → Prop}
theorem backB_spec (h : backB L = true) {j : Nat} {oj : Oper} (hj : L[j]? = some oj) : oj.guard = none ∧ ∀ e ∈ oj.after, Region.binds .any e = true → e.on < j := by
  have hlt : j < L.length := by
    rcases Nat.lt_or_ge j L.length with h1 | h1
    · exact h1
    · rw [List.getElem?_eq_none h1] at hj; cases hj
  have h1 := List.all_eq_true.1 h j (List.mem_range.2 hlt)
  rw [hj] at h1
  simp only [Bool.and_eq_true] at h1
  refine ⟨by simpa using h1.1, fun e he hb => ?_⟩
  have h2 := Array.all_eq_true'.1 h1.2 e he
  rw [hb] at h2
  simpa using h2
theorem waitB_spec {n : Nat} (h : waitB n o = true) {i : Nat} (hi : i < n) : ∃ e ∈ o.after, Region.binds .any e = true ∧ e.on = i := by
  have h1 := List.all_eq_true.1 h i (List.mem_range.2 hi)
  obtain ⟨e, he, hb⟩ := Array.any_eq_true'.1 h1
  simp only [Bool.and_eq_true, beq_iff_eq] at hb
  exact ⟨e, he, hb.1, hb.2⟩
/-- the marks of the whole region, and of its head -/
structure Marks (n : Nat) (m mh : Array Bool) : Prop where
  size : m.size = n + 1
  sizeh : mh.size = n
  same : ∀ i, i < n → m[i]? = mh[i]?
  last : m[n]? = some false
theorem Marks.set {n i : Nat} {m mh : Array Bool} (h : Marks n m mh) (hi : i < n) : Marks n (m.setIfInBounds i true) (mh.setIfInBounds i true) := by
  refine ⟨by simp [h.size], by simp [h.sizeh], fun j hj => ?_, ?_⟩
  · simp only [Array.getElem?_setIfInBounds]
    split
    · rename_i e; subst e; simp [h.size, h.sizeh, hi]; omega
    · exact h.same j hj
  · simp only [Array.getElem?_setIfInBounds]
    rw [if_neg (by omega)]; exact h.last
theorem Marks.getD {n i : Nat} {m mh : Array Bool} (h : Marks n m mh) (hi : i < n) (d : Bool) : m.getD i d = mh.getD i d := by
  have := h.same i hi
  simp only [Array.getD_eq_getD_getElem?, this]
variable {m mh : Array Bool} {n : Nat}
theorem head_at (l : List Oper) (o : Oper) {i : Nat} (hi : i < l.length) : (l ++ [o]).toArray[i]? = l.toArray[i]? := by
  simp [List.getElem?_append_left hi]
theorem ready_head (hb : backB (l ++ [o]) = true) (M : Marks l.length m mh) {i : Nat} (hi : i < l.length) : i ∈ Region.ready .any (l ++ [o]).toArray m ↔ i ∈ Region.ready .any l.toArray mh := by
  rw [mem_ready, mem_ready, head_at l o hi, M.getD hi true]
  refine and_congr Iff.rfl (exists_congr fun oi => and_congr_right fun hoi => ?_)
  have hoi2 : (l ++ [o])[i]? = some oi := by rw [List.getElem?_append_left hi]; simpa using hoi
  obtain ⟨_, hback⟩ := backB_spec hb hoi2
  refine forall_congr' fun e => ?_
  constructor
  · intro h he hbd
    rw [← M.getD (Nat.lt_trans (hback e he hbd) hi) false]; exact h he hbd
  · intro h he hbd
    rw [M.getD (Nat.lt_trans (hback e he hbd) hi) false]; exact h he hbd
theorem getD_flip {mh : Array Bool} {i : Nat} (hi : i < mh.size) (h : mh.getD i true = true) : mh.getD i false = true := by
  simp [hi] at h ⊢; exact h
theorem all_marked (hb : backB (l ++ [o]) = true) (M : Marks l.length m mh) (hr : Region.ready .any l.toArray mh = []) : ∀ i, i < l.length → mh.getD i true = true := by
  intro i
  induction i using Nat.strongRecOn with
  | _ i ih =>
    intro hi
    cases hg : mh.getD i true with
    | true => rfl
    | false =>
      exfalso
      have hoi : (l ++ [o])[i]? = some (l[i]'hi) := by rw [List.getElem?_append_left hi]; exact List.getElem?_eq_getElem hi
      obtain ⟨_, hback⟩ := backB_spec hb hoi
      have : i ∈ Region.ready .any l.toArray mh := mem_ready.2 ⟨hg, l[i]'hi, by simp [List.getElem?_eq_getElem hi], fun e he hbd => by
        have h1 := hback e he hbd
        exact getD_flip (by rw [M.sizeh]; omega) (ih e.on h1 (by omega))⟩
      rw [hr] at this
      cases this
theorem last_at (l : List Oper) (o : Oper) : (l ++ [o]).toArray[l.length]? = some o := by simp
theorem last_ready (hb : backB (l ++ [o]) = true) (M : Marks l.length m mh) (hall : ∀ i, i < l.length → mh.getD i true = true) : l.length ∈ Region.ready .any (l ++ [o]).toArray m := by
  have hoi : (l ++ [o])[l.length]? = some o := by simp
  obtain ⟨_, hback⟩ := backB_spec hb hoi
  refine mem_ready.2 ⟨by simp [Array.getD_eq_getD_getElem?, M.last], o, last_at l o, fun e he hbd => ?_⟩
  have h1 := hback e he hbd
  rw [M.getD h1 false]
  exact getD_flip (by rw [M.sizeh]; exact h1) (hall _ h1)
theorem ready_last (hw : waitB l.length o = true) (M : Marks l.length m mh) (hr : l.length ∈ Region.ready .any (l ++ [o]).toArray m) : ∀ i, i < l.length → mh.getD i true = true := by
  intro i hi
  obtain ⟨_, o', ho', hall⟩ := mem_ready.1 hr
  rw [last_at] at ho'
  cases ho'
  obtain ⟨e, he, hbd, rfl⟩ := waitB_spec hw hi
  have h1 := hall e he hbd
  rw [M.getD hi false] at h1
  have h2 : e.on < mh.size := by rw [M.sizeh]; exact hi
  simp [h2] at h1 ⊢; exact h1
theorem ready_le {i : Nat} (hr : i ∈ Region.ready .any (l ++ [o]).toArray m) : i ≤ l.length := by
  obtain ⟨_, o', ho', _⟩ := mem_ready.1 hr
  have : i < (l ++ [o]).toArray.size := (Array.getElem?_eq_some_iff.1 ho').1
  simp at this; omega
theorem none_ready (M : Marks l.length m mh) (hall : ∀ i, i < l.length → mh.getD i true = true) : Region.ready .any (l ++ [o]).toArray (m.setIfInBounds l.length true) = [] := by
  refine List.eq_nil_iff_forall_not_mem.2 fun j hj => ?_
  have hle := ready_le hj
  obtain ⟨h1, _⟩ := mem_ready.1 hj
  by_cases e : j = l.length
  · subst e
    simp [Array.getD_eq_getD_getElem?, M.size] at h1
  · have hj2 : j < l.length := by omega
    have h2 := hall j hj2
    rw [← M.getD hj2 true] at h2
    simp only [Array.getD_eq_getD_getElem?, Array.getElem?_setIfInBounds] at h1 h2
    rw [if_neg (fun h => e h.symm)] at h1
    rw [h1] at h2; cases h2
variable {Q : Exit → Act → World → Prop} {a : Act} {w : World}
theorem any_last (hb : backB (l ++ [o]) = true) (M : Marks l.length m mh) (hall : ∀ i, i < l.length → mh.getD i true = true)
    (hq : wpOp P (l ++ [o]).toArray Q l.length (fun a' w' => Q .normal a' w') a w) (g : Nat) : wpAny P .any (l ++ [o]).toArray Q (g + 1) m a w := by
  refine ⟨fun h0 => ?_, fun i hi => ?_⟩
  · have := last_ready hb M hall
    rw [h0] at this; cases this
  · have hle := ready_le hi
    have hin : i = l.length := by
      by_cases e : i = l.length
      · exact e
      · exfalso
        obtain ⟨h1, _⟩ := mem_ready.1 hi
        have h2 := hall i (by omega)
        rw [M.getD (by omega) true] at h1
        rw [h1] at h2; cases h2
    subst hin
    refine wpOp_mono (fun a' w' h => ?_) hq
    have hn := none_ready (o := o) M hall
    cases g with
    | zero => exact ⟨hn, h⟩
    | succ g => exact ⟨fun _ => h, fun i hi' => by rw [hn] at hi'; cases hi'⟩
theorem any_of_head (hb : backB (l ++ [o]) = true) (hw : waitB l.length o = true) : ∀ (f : Nat) (m mh : Array Bool) (a : Act) (w : World), Marks l.length m mh → C w →
    wpAnyQ P .any l.toArray C (fun a' => ∀ w', C w' → wpOp P (l ++ [o]).toArray Q l.length (fun a' w' => Q .normal a' w') a' w') f mh a → wpAny P .any (l ++ [o]).toArray Q (f + 1) m a w
  | 0, m, mh, a, w, M, hc, h => any_last hb M (all_marked hb M h.1) (h.2 w hc) 0
  | f + 1, m, mh, a, w, M, hc, h => by
    by_cases hr : Region.ready .any l.toArray mh = []
    · exact any_last hb M (all_marked hb M hr) (h.1 hr w hc) (f + 1)
    · refine ⟨fun h0 => ?_, fun i hi => ?_⟩
      · exfalso
        obtain ⟨j, hj⟩ := List.exists_mem_of_ne_nil _ hr
        have hjl : j < l.length := by
          obtain ⟨_, o', ho', _⟩ := mem_ready.1 hj
          have : j < l.toArray.size := (Array.getElem?_eq_some_iff.1 ho').1
          simpa using this
        have := (ready_head hb M hjl).2 hj
        rw [h0] at this; cases this
      · have hle := ready_le hi
        by_cases e : i = l.length
        · subst e
          have hall := ready_last hw M hi
          exfalso
          obtain ⟨j, hj⟩ := List.exists_mem_of_ne_nil _ hr
          obtain ⟨h1, o', ho', _⟩ := mem_ready.1 hj
          have hjl : j < l.toArray.size := (Array.getElem?_eq_some_iff.1 ho').1
          have h2 := hall j (by simpa using hjl)
          rw [h1] at h2; cases h2
        · have hil : i < l.length := by omega
          have hq := h.2 i ((ready_head hb M hil).1 hi)
          have hoi : (l ++ [o])[i]? = some (l[i]'hil) := by rw [List.getElem?_append_left hil]; exact List.getElem?_eq_getElem hil
          obtain ⟨hg, _⟩ := backB_spec hb hoi
          have hwant : ∀ y, Region.wanted (l[i]'hil) y = true := fun y => by simp [Region.wanted, hg]
          unfold qOp at hq
          simp only [List.getElem?_toArray, List.getElem?_eq_getElem hil, hwant, if_true] at hq
          unfold wpOp
          simp only [List.getElem?_toArray, hoi, hwant, if_true]
          exact .inl (Oper.wp_of_quiet hc (fun a' w' hc' h' => any_of_head hb hw f _ _ a' w' (M.set hil) hc' h') hq)
/-- one walk in the text's order, and the last operation behind it, in whatever world the draws have left -/
theorem wp_region_last {id : Nat} (n : Nat) (hm : P.follows .mixedOrders = true) (hB : Region.lexB .any (L.take n).toArray = true) (hb : backB L = true) (hw : (match L.drop n with | [o] => waitB n o | _ => false) = true)
    (h : wpQuiet P (L.take n).toArray (fun w' => ∃ j, w' = w.drewN j) (fun a' => ∀ w', (∃ j, w' = w.drewN j) → wpList P L.toArray Q (L.drop n) a' w') (L.take n) a) : (Code.region id L.toArray true).wp P Q a w := by
  obtain ⟨o, ho, hwo⟩ : ∃ o, L.drop n = [o] ∧ waitB n o = true := by
    revert hw
    cases hd : L.drop n with
    | nil => intro hw; cases hw
    | cons o r =>
      cases r with
      | nil => intro hw; exact ⟨o, rfl, hw⟩
      | cons _ _ => intro hw; cases hw
  have hL : L.take n ++ [o] = L := by rw [← ho]; exact List.take_append_drop n L
  have hn : (L.take n).length = n := by
    have h1 := congrArg List.length ho
    rw [List.length_drop] at h1
    rw [List.length_take]; simp at h1; omega
  obtain ⟨l, hl⟩ : ∃ l, l = L.take n := ⟨_, rfl⟩
  rw [← hl] at hL hn hB h
  rw [ho] at h
  subst hL
  subst hn
  simp only [Region.lexB, Bool.and_eq_true] at hB
  refine wp_region_any hm ?_
  have hx := wpAnyQ_lex (C := fun w' => ∃ j, w' = w.drewN j) (md := .any) hB.1 l 0 (Array.replicate l.toArray.size false) a (by simp) (by simpa using hB.2) h
  have hfin := any_of_head (P := P) (C := fun w' => ∃ j, w' = w.drewN j) (Q := Q) hb hwo l.length (Array.replicate (l ++ [o]).toArray.size false) (Array.replicate l.toArray.size false) a { w with drawn := w.drawn + 1 }
    ⟨by simp, by simp, fun i hi => by simp only [Array.getElem?_replicate]; rw [if_pos (by simp; omega), if_pos (by simpa using hi)], by simp⟩ ⟨1, rfl⟩ ?_
  · simpa using hfin
  · have e : (fun a' => ∀ w', (∃ j, w' = w.drewN j) → wpList P (l ++ [o]).toArray Q [o] a' w') = (fun a' => ∀ w', (∃ j, w' = w.drewN j) → wpOp P (l ++ [o]).toArray Q l.length (fun a' w' => Q .normal a' w') a' w') := by
      funext a'
      refine forall_congr fun w' => ?_
      simp only [wpOp, last_at, wpList]
    rw [e] at hx
    exact hx
end
end Go.Proofs.Ytljcekmiockdjaa.lastC
