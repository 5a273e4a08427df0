/-
  As Last, where the last operation waits for some of the others, and each of these is waited for by a later one; of any class of worlds.
-/
import Derived.Test.YtljcekmiockdjaaLast
namespace Go.Proofs.Ytljcekmiockdjaa.lastC
open Go.ChangeShapes Go.WideShapes Go.ChangeAt Go.RowKit
set_option linter.unusedVariables false
section
variable {P : Program} {L l : List Oper} {o : Oper} {C : World → Prop} {m mh : Array Bool}
/-- each of the first n is waited for by a later one -/
def covL (n : Nat) (L : List Oper) : Bool := (List.range n).all fun i => (List.range (n + 1)).any fun j => decide (i < j) && (match L[j]? with | some o => o.after.any (fun e => Region.binds .any e && (e.on == i)) | none => false)
/-- what has been done, for that all has been done for which it waits -/
def Cl (l : List Oper) (mh : Array Bool) : Prop := ∀ (i : Nat) (o' : Oper), l[i]? = some o' → mh.getD i false = true → ∀ e ∈ o'.after, Region.binds .any e = true → mh.getD e.on false = true
theorem covL_spec {n : Nat} (h : covL n L = true) {i : Nat} (hi : i < n) : ∃ j oj, i < j ∧ j ≤ n ∧ L[j]? = some oj ∧ ∃ e ∈ oj.after, Region.binds .any e = true ∧ e.on = i := by
  have h1 := List.all_eq_true.1 h i (List.mem_range.2 hi)
  obtain ⟨j, hj, h2⟩ := List.any_eq_true.1 h1
  simp only [Bool.and_eq_true, decide_eq_true_eq] at h2
  obtain ⟨hij, h3⟩ := h2
  cases hL : L[j]? with
  | none => rw [hL] at h3; cases h3
  | some oj =>
    rw [hL] at h3
    obtain ⟨e, he, hb⟩ := Array.any_eq_true'.1 h3
    simp only [Bool.and_eq_true, beq_iff_eq] at hb
    exact ⟨j, oj, hij, by have := List.mem_range.1 hj; omega, hL, e, he, hb.1, hb.2⟩
theorem ready_cov (hc : covL l.length (l ++ [o]) = true) (hcl : Cl l mh) (M : Marks l.length m mh) (hr : l.length ∈ Region.ready .any (l ++ [o]).toArray m) : ∀ k i, i < l.length → l.length - i ≤ k → mh.getD i false = true
  | 0, i, hi, hk => by omega
  | k + 1, i, hi, hk => by
    obtain ⟨j, oj, hij, hjn, hj, e, he, hb, rfl⟩ := covL_spec hc hi
    by_cases ej : j = l.length
    · obtain ⟨_, o', ho', hall⟩ := mem_ready.1 hr
      rw [last_at] at ho'
      cases ho'
      subst ej
      rw [show (l ++ [o])[l.length]? = some o by simp] at hj
      cases hj
      have h1 := hall e he hb
      rwa [M.getD hi false] at h1
    · have hjl : j < l.length := by omega
      rw [List.getElem?_append_left hjl] at hj
      exact hcl j oj hj (ready_cov hc hcl M hr k j hjl (by omega)) e he hb
variable {Q : Exit → Act → World → Prop} {a : Act} {w : World}
theorem any_of_headC (hb : backB (l ++ [o]) = true) (hw : covL l.length (l ++ [o]) = true) : ∀ (f : Nat) (m mh : Array Bool) (a : Act) (w : World), Marks l.length m mh → Cl l mh → C w →
    wpAnyQ P .any l.toArray C (fun a' => ∀ w', C w' → wpOp P (l ++ [o]).toArray Q l.length (fun a' w' => Q .normal a' w') a' w') f mh a → wpAny P .any (l ++ [o]).toArray Q (f + 1) m a w
  | 0, m, mh, a, w, M, hcl, hc, h => any_last hb M (all_marked hb M h.1) (h.2 w hc) 0
  | f + 1, m, mh, a, w, M, hcl, hc, h => by
    by_cases hr : Region.ready .any l.toArray mh = []
    · exact any_last hb M (all_marked hb M hr) (h.1 hr w hc) (f + 1)
    · refine ⟨fun h0 => ?_, fun i hi => ?_⟩
      · exfalso
        obtain ⟨j, hj⟩ := List.exists_mem_of_ne_nil _ hr
        have hjl : j < l.length := by
          obtain ⟨_, o', ho', _⟩ := mem_ready.1 hj
          have : j < l.toArray.size := (Array.getElem?_eq_some_iff.1 ho').1
          simpa using this
        have := (ready_head hb M hjl).2 hj
        rw [h0] at this; cases this
      · have hle := ready_le hi
        by_cases e : i = l.length
        · subst e
          have hall := ready_cov hw hcl M hi
          exfalso
          obtain ⟨j, hj⟩ := List.exists_mem_of_ne_nil _ hr
          obtain ⟨h1, o', ho', _⟩ := mem_ready.1 hj
          have hjl : j < l.toArray.size := (Array.getElem?_eq_some_iff.1 ho').1
          have hjl2 : j < l.length := by simpa using hjl
          have h2 := hall l.length j hjl2 (by omega)
          have hs : j < mh.size := by rw [M.sizeh]; exact hjl2
          simp [hs] at h1 h2
          rw [h1] at h2; cases h2
        · have hil : i < l.length := by omega
          have hq := h.2 i ((ready_head hb M hil).1 hi)
          have hoi : (l ++ [o])[i]? = some (l[i]'hil) := by rw [List.getElem?_append_left hil]; exact List.getElem?_eq_getElem hil
          obtain ⟨hg, hback⟩ := backB_spec hb hoi
          have hwant : ∀ y, Region.wanted (l[i]'hil) y = true := fun y => by simp [Region.wanted, hg]
          have hcl' : Cl l (mh.setIfInBounds i true) := by
            intro j oj hj hm ed he hbd
            have hsz := M.sizeh
            have up : ∀ k, mh.getD k false = true → (mh.setIfInBounds i true).getD k false = true := fun k hk => by
              simp only [Array.getD_eq_getD_getElem?, Array.getElem?_setIfInBounds] at hk ⊢
              split
              · split <;> simp_all
              · exact hk
            by_cases ej : j = i
            · subst ej
              obtain ⟨_, o', ho', hall⟩ := mem_ready.1 ((ready_head hb M hil).1 hi)
              have ho2 : l[j]? = some o' := by simpa using ho'
              rw [hj] at ho2
              cases ho2
              exact up _ (hall ed he hbd)
            · have hm' : mh.getD j false = true := by
                simp only [Array.getD_eq_getD_getElem?, Array.getElem?_setIfInBounds] at hm ⊢
                rw [if_neg (fun h => ej h.symm)] at hm
                exact hm
              exact up _ (hcl j oj hj hm' ed he hbd)
          unfold qOp at hq
          simp only [List.getElem?_toArray, List.getElem?_eq_getElem hil, hwant, if_true] at hq
          unfold wpOp
          simp only [List.getElem?_toArray, hoi, hwant, if_true]
          exact .inl (Oper.wp_of_quiet hc (fun a' w' hc' h' => any_of_headC hb hw f _ _ a' w' (M.set hil) hcl' hc' h') hq)
theorem wp_region_lastC {id : Nat} (C : World → Prop) (n : Nat) (hm : P.follows .mixedOrders = true) (hB : Region.lexB .any (L.take n).toArray = true) (hb : backB L = true) (hw : (match L.drop n with | [_] => covL n L | _ => false) = true) (hC : C { w with drawn := w.drawn + 1 })
    (h : wpQuiet P (L.take n).toArray C (fun a' => ∀ w', C w' → wpList P L.toArray Q (L.drop n) a' w') (L.take n) a) : (Code.region id L.toArray true).wp P Q a w := by
  obtain ⟨o, ho, hwo⟩ : ∃ o, L.drop n = [o] ∧ covL n L = true := by
    revert hw
    cases hd : L.drop n with
    | nil => intro hw; cases hw
    | cons o r =>
      cases r with
      | nil => intro hw; exact ⟨o, rfl, hw⟩
      | cons _ _ => intro hw; cases hw
  have hL : L.take n ++ [o] = L := by rw [← ho]; exact List.take_append_drop n L
  have hn : (L.take n).length = n := by
    have h1 := congrArg List.length ho
    rw [List.length_drop] at h1
    rw [List.length_take]; simp at h1; omega
  obtain ⟨l, hl⟩ : ∃ l, l = L.take n := ⟨_, rfl⟩
  rw [← hl] at hL hn hB h
  rw [ho] at h
  subst hL
  subst hn
  simp only [Region.lexB, Bool.and_eq_true] at hB
  refine wp_region_any hm ?_
  have hx := wpAnyQ_lex (C := C) (md := .any) hB.1 l 0 (Array.replicate l.toArray.size false) a (by simp) (by simpa using hB.2) h
  have hfin := any_of_headC (P := P) (C := C) (Q := Q) hb hwo l.length (Array.replicate (l ++ [o]).toArray.size false) (Array.replicate l.toArray.size false) a { w with drawn := w.drawn + 1 }
    ⟨by simp, by simp, fun i hi => by simp only [Array.getElem?_replicate]; rw [if_pos (by simp; omega), if_pos (by simpa using hi)], by simp⟩ (fun i o' _ h1 => by simp [Array.getD_eq_getD_getElem?, Array.getElem?_replicate] at h1; split at h1 <;> simp at h1) hC ?_
  · simpa using hfin
  · have e : (fun a' => ∀ w', C w' → wpList P (l ++ [o]).toArray Q [o] a' w') = (fun a' => ∀ w', C w' → wpOp P (l ++ [o]).toArray Q l.length (fun a' w' => Q .normal a' w') a' w') := by
      funext a'
      refine forall_congr fun w' => ?_
      simp only [wpOp, last_at, wpList]
    rw [e] at hx
    exact hx
end
end Go.Proofs.Ytljcekmiockdjaa.lastC
