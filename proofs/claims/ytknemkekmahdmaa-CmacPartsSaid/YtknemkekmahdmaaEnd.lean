/-
  A region that draws its order, all of whose operations but the last only make memory; the last one waits for all.
-/
import Derived.Test.YtknemkekmahdmaaFree
import Derived.Test.YtknemkekmahdmaaLast
namespace Go.Proofs.Ytknemkekmahdmaa.freeC
open Go.ChangeShapes Go.WideShapes Go.ChangeAt Go.RowKit
open Go.Proofs.Ytknemkekmahdmaa.lastC
set_option linter.unusedVariables false
section
variable {P : Program} {L : List Oper} {Q : Exit → Act → World → Prop}
/-- of each of the first n operations, from number s on -/
def UpFrom (R : Nat → Oper → Prop) : Nat → Nat → List Oper → Prop
  | 0, _, _ => True
  | _ + 1, _, [] => True
  | n + 1, s, o :: r => R s o ∧ UpFrom R n (s + 1) r
theorem up_from {R : Nat → Oper → Prop} : ∀ (n : Nat) (L : List Oper) (s : Nat), UpFrom R n s L → ∀ i o, i < n → L[i]? = some o → R (s + i) o
  | 0, _, _, _, i, o, hi, _ => by omega
  | n + 1, [], _, _, i, o, _, h => by simp at h
  | n + 1, o' :: r, s, h, 0, o, _, ho => by
    obtain rfl : o' = o := by simpa using ho
    exact h.1
  | n + 1, o' :: r, s, h, i + 1, o, hi, ho => by
    have := up_from n r (s + 1) h.2 i o (by omega) (by simpa using ho)
    rw [show s + (i + 1) = s + 1 + i by omega]; exact this
/-- the rule: the first n operations only make memory, V tells what each has given; operation n ends the region -/
theorem wp_region_end {id : Nat} {a : Act} {w : World} (n : Nat) (hm : P.follows .mixedOrders = true) (tab : List (Option Nat)) (hb : backE L = true) (ht : slots tab L = true) (hl : tab.length = a.tmps.size)
    (hn : L.length = n + 1) (hw : (match L[n]? with | some o => waitB n o && o.guard.isNone | none => false) = true)
    (us0 : Nat → Value) (ha : frame tab a us0 = a) (G : World → Prop) (V : Nat → Value → World → Prop) (hG : G w.drew) (hkeep : ∀ i v w w', Below w.heap.size w w' → V i v w → V i v w')
    (hstep : UpFrom (Step P L Q tab a G V) n 0 L)
    (hlast : ∀ us w o, L[n]? = some o → G w → (∀ i, i < n → V i (us i) w) → o.wp P (frame tab a us) w (fun a' w' => ∃ v, a' = (frame tab a us).put o.dst v ∧ Q .normal ((frame tab a us).put o.dst v) w') Q) : (Code.region id L.toArray true).wp P Q a w := by
  refine wp_region_free hm tab hb ht hl us0 ha (fun m us w => (m n = false ∧ G w ∧ ∀ j, m j = true → V j (us j) w) ∨ (m n = true ∧ (∀ j, j < n → m j = true) ∧ Q .normal (frame tab a us) w)) (.inl ⟨rfl, hG, fun j h => by cases h⟩) ?_ ?_
  · intro i o ho m us w' hJ hmi hd
    have hil : i < n + 1 := by rw [← hn]; exact (List.getElem?_eq_some_iff.1 ho).1
    have hput : ∀ us v, (frame tab a us).put o.dst v = frame tab a (upd us i v) := by
      intro us v
      have h1 := List.all_eq_true.1 ht i (List.mem_range.2 (by omega))
      rw [ho] at h1
      exact frame_put us h1 hl v
    rcases hJ with ⟨hmn, hg, hv⟩ | ⟨hmn, hall, _⟩
    · by_cases e : i = n
      · subst e
        rw [ho] at hw
        simp only [Bool.and_eq_true, Option.isNone_iff_eq_none] at hw
        have hall : ∀ j, j < i → m j = true := by
          intro j hj
          obtain ⟨e, he, hb2, e2⟩ := waitB_spec hw.1 hj
          have h3 := Array.all_eq_true'.1 hd e he
          rw [hb2, e2] at h3
          simpa using h3
        rw [if_pos (show Region.wanted o (yielded L.toArray (frame tab a us).tmps) = true by simp [Region.wanted, hw.2])]
        have hs := hlast us w' o ho hg fun j hj => hv j (hall j hj)
        refine Oper.wp_mono (fun a2 w2 h2 => ?_) hs
        obtain ⟨v, ha, h2⟩ := h2
        refine ⟨v, ha, .inr ⟨upd_same _ _ _, fun j hj => by rw [upd_other _ _ (by omega)]; exact hall j hj, ?_⟩⟩
        rw [← hput us v]; exact h2
      · have hs := up_from n L 0 hstep i o (by omega) ho m us w' hg hv hd
        rw [Nat.zero_add] at hs
        have hset : ∀ v w'', Below w'.heap.size w' w'' → V i v w'' → ∀ j, upd m i true j = true → V j (upd us i v j) w'' := by
          intro v w'' hb hvi j hj
          by_cases e : j = i
          · subst e; rw [upd_same]; exact hvi
          · rw [upd_other _ _ e]; rw [upd_other _ _ e] at hj; exact hkeep _ _ _ _ hb (hv j hj)
        have hmn2 : upd m i true n = false := by rw [upd_other _ _ (fun h => e h.symm)]; exact hmn
        split
        · rename_i hw2
          rw [if_pos hw2] at hs
          refine Oper.wp_mono (fun a2 w2 h2 => ?_) hs
          obtain ⟨v, ha, hg2, hb2, hv2⟩ := h2
          exact ⟨v, ha, .inl ⟨hmn2, hg2, hset v w2 hb2 hv2⟩⟩
        · rename_i hw2
          rw [if_neg hw2] at hs
          exact .inl ⟨hmn2, hg, hset undef w' (Below.refl _ _) hs⟩
    · exfalso
      by_cases e : i = n
      · subst e; rw [hmn] at hmi; cases hmi
      · rw [hall i (by omega)] at hmi; cases hmi
  · intro m us w' hm hJ
    rcases hJ with ⟨hmn, _⟩ | ⟨_, _, hq⟩
    · rw [hm n (by omega)] at hmn; cases hmn
    · exact hq
end
end Go.Proofs.Ytknemkekmahdmaa.freeC
