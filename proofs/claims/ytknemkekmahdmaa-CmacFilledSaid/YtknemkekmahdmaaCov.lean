/-
  A region that draws its order, all of whose operations but the last only make memory; each is waited for by a later one, so the last one comes last.
-/
import Derived.Test.YtknemkekmahdmaaEnd
namespace Go.Proofs.Ytknemkekmahdmaa.freeC
open Go.ChangeShapes Go.WideShapes Go.ChangeAt Go.RowKit
set_option linter.unusedVariables false
section
variable {P : Program} {L : List Oper} {Q : Exit → Act → World → Prop}
theorem done_more {o : Oper} {m m' : Nat → Bool} (h : doneB o m = true) (hm : ∀ j, m j = true → m' j = true) : doneB o m' = true := by
  unfold doneB at h ⊢
  rw [Array.all_eq_true'] at h ⊢
  intro e he
  have := h e he
  cases hb : Region.binds .any e with
  | false => rfl
  | true => rw [hb] at this; simpa using hm e.on (by simpa using this)
/-- each of the first n is waited for by a later one -/
def coverB (n : Nat) (L : List Oper) : Bool := (List.range n).all fun i => (List.range (n + 1)).any fun j => decide (i < j) && (match L[j]? with | some o => needs o [i] | none => false)
theorem cover_all {n : Nat} (hc : coverB n L = true) {m : Nat → Bool} (hm : ∀ i o, L[i]? = some o → m i = true → doneB o m = true) {o : Oper} (ho : L[n]? = some o) (hd : doneB o m = true) : ∀ k i, i < n → n - i ≤ k → m i = true
  | 0, i, hi, hk => by omega
  | k + 1, i, hi, hk => by
    have h1 := List.all_eq_true.1 hc i (List.mem_range.2 hi)
    obtain ⟨j, hj, h2⟩ := List.any_eq_true.1 h1
    have hj2 := List.mem_range.1 hj
    simp only [Bool.and_eq_true, decide_eq_true_eq] at h2
    obtain ⟨hij, h3⟩ := h2
    cases hL : L[j]? with
    | none => rw [hL] at h3; cases h3
    | some o2 =>
      rw [hL] at h3
      by_cases e : j = n
      · subst e
        rw [ho] at hL
        obtain rfl := Option.some.inj hL
        exact need_ok h3 hd i (by simp)
      · have hmj := cover_all hc hm ho hd k j (by omega) (by omega)
        exact need_ok h3 (hm j o2 hL hmj) i (by simp)
theorem wp_region_cov {id : Nat} {a : Act} {w : World} (n : Nat) (hm : P.follows .mixedOrders = true) (tab : List (Option Nat)) (hb : backE L = true) (ht : slots tab L = true) (hl : tab.length = a.tmps.size)
    (hn : L.length = n + 1) (hw : (match L[n]? with | some o => o.guard.isNone | none => false) = true) (hc : coverB n L = true)
    (us0 : Nat → Value) (ha : frame tab a us0 = a) (G : World → Prop) (V : Nat → Value → World → Prop) (hG : G w.drew) (hkeep : ∀ i v w w', Below w.heap.size w w' → V i v w → V i v w')
    (hstep : UpFrom (Step P L Q tab a G V) n 0 L)
    (hlast : ∀ us w o, L[n]? = some o → G w → (∀ i, i < n → V i (us i) w) → o.wp P (frame tab a us) w (fun a' w' => ∃ v, a' = (frame tab a us).put o.dst v ∧ Q .normal ((frame tab a us).put o.dst v) w') Q) : (Code.region id L.toArray true).wp P Q a w := by
  refine wp_region_free hm tab hb ht hl us0 ha (fun m us w => (∀ i o, L[i]? = some o → m i = true → doneB o m = true) ∧ ((m n = false ∧ G w ∧ ∀ j, m j = true → V j (us j) w) ∨ (m n = true ∧ (∀ j, j < n → m j = true) ∧ Q .normal (frame tab a us) w))) ⟨fun i o _ h => (by cases h), .inl ⟨rfl, hG, fun j h => by cases h⟩⟩ ?_ ?_
  · intro i o ho m us w' ⟨hcl, hJ⟩ hmi hd
    have hil : i < n + 1 := by rw [← hn]; exact (List.getElem?_eq_some_iff.1 ho).1
    have hput : ∀ us v, (frame tab a us).put o.dst v = frame tab a (upd us i v) := by
      intro us v
      have h1 := List.all_eq_true.1 ht i (List.mem_range.2 (by omega))
      rw [ho] at h1
      exact frame_put us h1 hl v
    have hgrow : ∀ j, m j = true → upd m i true j = true := by
      intro j hj
      by_cases e : j = i
      · subst e; exact upd_same _ _ _
      · rw [upd_other _ _ e]; exact hj
    have hcl2 : ∀ j o2, L[j]? = some o2 → upd m i true j = true → doneB o2 (upd m i true) = true := by
      intro j o2 h2 hj
      by_cases e : j = i
      · subst e
        rw [ho] at h2
        obtain rfl := Option.some.inj h2
        exact done_more hd hgrow
      · rw [upd_other _ _ e] at hj
        exact done_more (hcl j o2 h2 hj) hgrow
    rcases hJ with ⟨hmn, hg, hv⟩ | ⟨hmn, hall, _⟩
    · by_cases e : i = n
      · subst e
        rw [ho] at hw
        simp only [Option.isNone_iff_eq_none] at hw
        have hall : ∀ j, j < i → m j = true := fun j hj => cover_all hc hcl ho hd (i - j) j hj (Nat.le_refl _)
        rw [if_pos (show Region.wanted o (yielded L.toArray (frame tab a us).tmps) = true by simp [Region.wanted, hw])]
        have hs := hlast us w' o ho hg fun j hj => hv j (hall j hj)
        refine Oper.wp_mono (fun a2 w2 h2 => ?_) hs
        obtain ⟨v, ha, h2⟩ := h2
        refine ⟨v, ha, hcl2, .inr ⟨upd_same _ _ _, fun j hj => by rw [upd_other _ _ (by omega)]; exact hall j hj, ?_⟩⟩
        rw [← hput us v]; exact h2
      · have hs := up_from n L 0 hstep i o (by omega) ho m us w' hg hv hd
        rw [Nat.zero_add] at hs
        have hset : ∀ v w'', Below w'.heap.size w' w'' → V i v w'' → ∀ j, upd m i true j = true → V j (upd us i v j) w'' := by
          intro v w'' hb hvi j hj
          by_cases e : j = i
          · subst e; rw [upd_same]; exact hvi
          · rw [upd_other _ _ e]; rw [upd_other _ _ e] at hj; exact hkeep _ _ _ _ hb (hv j hj)
        have hmn2 : upd m i true n = false := by rw [upd_other _ _ (fun h => e h.symm)]; exact hmn
        split
        · rename_i hw2
          rw [if_pos hw2] at hs
          refine Oper.wp_mono (fun a2 w2 h2 => ?_) hs
          obtain ⟨v, ha, hg2, hb2, hv2⟩ := h2
          exact ⟨v, ha, hcl2, .inl ⟨hmn2, hg2, hset v w2 hb2 hv2⟩⟩
        · rename_i hw2
          rw [if_neg hw2] at hs
          exact ⟨hcl2, .inl ⟨hmn2, hg, hset undef w' (Below.refl _ _) hs⟩⟩
    · exfalso
      by_cases e : i = n
      · subst e; rw [hmn] at hmi; cases hmi
      · rw [hall i (by omega)] at hmi; cases hmi
  · intro m us w' hm ⟨_, hJ⟩
    rcases hJ with ⟨hmn, _⟩ | ⟨_, _, hq⟩
    · rw [hm n (by omega)] at hmn; cases hmn
    · exact hq
end
end Go.Proofs.Ytknemkekmahdmaa.freeC
