/-
  A region that draws its order, by an invariant: each operation is looked at once, in whatever order it comes up.
-/
import Derived.Test.YtblgkojeholbnaaGen
namespace Go.Proofs.Ytblgkojeholbnaa.freeC
open Go.ChangeShapes Go.WideShapes Go.ChangeAt Go.RowKit
set_option linter.unusedVariables false
def upd {α : Type} (f : Nat → α) (i : Nat) (v : α) : Nat → α := fun j => if j = i then v else f j
theorem upd_same {α : Type} (f : Nat → α) (i : Nat) (v : α) : upd f i v i = v := if_pos rfl
theorem upd_other {α : Type} (f : Nat → α) {i j : Nat} (v : α) (h : j ≠ i) : upd f i v j = f j := if_neg h
/-- the frame: a slot that operation i writes holds what i has given -/
def fill : List (Option Nat) → (Nat → Value) → List Value → List Value
  | _, _, [] => []
  | [], _, l => l
  | none :: t, us, v :: r => v :: fill t us r
  | some i :: t, us, _ :: r => us i :: fill t us r
def frame (tab : List (Option Nat)) (a : Act) (us : Nat → Value) : Act := { a with tmps := (fill tab us a.tmps.toList).toArray }
theorem fill_len : ∀ (tab : List (Option Nat)) (us : Nat → Value) (l : List Value), (fill tab us l).length = l.length
  | [], us, [] => rfl
  | _ :: _, us, [] => by simp [fill]
  | [], us, _ :: _ => rfl
  | none :: t, us, v :: r => by simp [fill, fill_len t us r]
  | some i :: t, us, v :: r => by simp [fill, fill_len t us r]
theorem fill_at : ∀ (tab : List (Option Nat)) (us : Nat → Value) (l : List Value) (s : Nat), s < l.length → (fill tab us l)[s]? = (match (tab[s]?).join with | some i => some (us i) | none => l[s]?)
  | [], us, v :: r, s, h => by simp [fill]
  | none :: t, us, v :: r, 0, h => by simp [fill]
  | some i :: t, us, v :: r, 0, h => by simp [fill]
  | none :: t, us, v :: r, s + 1, h => by simpa [fill] using fill_at t us r s (by simpa using h)
  | some i :: t, us, v :: r, s + 1, h => by simpa [fill] using fill_at t us r s (by simpa using h)
theorem frame_get {tab : List (Option Nat)} {a : Act} {us : Nat → Value} {s i : Nat} (hl : tab.length = a.tmps.size) (ht : (tab[s]?).join = some i) : (frame tab a us).tmps[s]? = some (us i) := by
  have hs : s < a.tmps.size := by
    rcases Nat.lt_or_ge s tab.length with h1 | h1
    · omega
    · rw [List.getElem?_eq_none h1] at ht; cases ht
  have h := fill_at tab us a.tmps.toList s (by simpa using hs)
  rw [ht] at h
  simpa [frame] using h
theorem frame_at {tab : List (Option Nat)} {a : Act} {us : Nat → Value} {s i : Nat} (hl : tab.length = a.tmps.size) (ht : (tab[s]?).join = some i) : (frame tab a us).eval (.tmp s) = us i := by
  have h := frame_get (us := us) hl ht
  simp only [Act.eval, Array.getD_eq_getD_getElem?, h, Option.getD_some]
theorem frame_old {tab : List (Option Nat)} {a : Act} {us : Nat → Value} {s : Nat} (ht : (tab[s]?).join = none) : (frame tab a us).eval (.tmp s) = a.eval (.tmp s) := by
  rcases Nat.lt_or_ge s a.tmps.size with hs | hs
  · have h := fill_at tab us a.tmps.toList s (by simpa using hs)
    rw [ht] at h
    simp only [frame, Act.eval, Array.getD_eq_getD_getElem?, List.getElem?_toArray, h, Array.getElem?_toList]
  · have h : (fill tab us a.tmps.toList)[s]? = none := List.getElem?_eq_none (by rw [fill_len]; simpa using hs)
    simp only [frame, Act.eval, Array.getD_eq_getD_getElem?, List.getElem?_toArray, h, Array.getElem?_eq_none hs]
theorem frame_at2 {tab : List (Option Nat)} {a : Act} {us : Nat → Value} {s i : Nat} (hl : tab.length = a.tmps.size) (ht : (tab[s]?).join = some i) : (frame tab a us).tmps[s]?.getD undef = us i := by
  rw [frame_get hl ht]; rfl
theorem frame_old2 {tab : List (Option Nat)} {a : Act} {us : Nat → Value} {s : Nat} (ht : (tab[s]?).join = none) : (frame tab a us).tmps[s]?.getD undef = a.tmps[s]?.getD undef := by
  have h := frame_old (us := us) (a := a) ht
  simpa only [Act.eval, Array.getD_eq_getD_getElem?] using h
theorem yield_at {L : List Oper} {tab : List (Option Nat)} {a : Act} {us : Nat → Value} {j t : Nat} {b : Bool} (hl : tab.length = a.tmps.size) (hj : (L[j]?).bind (·.dst) = some t) (ht : (tab[t]?).join = some j) (hv : us j = .bool b) :
    yielded L.toArray (frame tab a us).tmps j = some b := by
  have h := frame_get (us := us) hl ht
  have h2 : (L.toArray[j]?).bind (·.dst) = some t := by rw [List.getElem?_toArray]; exact hj
  unfold yielded
  rw [h2]
  simp only [Option.bind_some, h, hv]
/-- operation i, and it alone, writes slot t -/
def writes (tab : List (Option Nat)) (i : Nat) : Option Tmp → Bool
  | some t => ((tab[t]?).join == some i) && (List.range tab.length).all fun s => s == t || (tab[s]?).join != some i
  | none => (List.range tab.length).all fun s => (tab[s]?).join != some i
theorem frame_put {tab : List (Option Nat)} {a : Act} (us : Nat → Value) {i : Nat} {d : Option Tmp} (h : writes tab i d = true) (hl : tab.length = a.tmps.size) (v : Value) : (frame tab a us).put d v = frame tab a (upd us i v) := by
  have hne : ∀ s, (∀ t, d = some t → s ≠ t) → (tab[s]?).join ≠ some i := by
    intro s hs
    rcases Nat.lt_or_ge s tab.length with h1 | h1
    · cases d with
      | none =>
        have := List.all_eq_true.1 h s (List.mem_range.2 h1)
        simpa using this
      | some t =>
        simp only [writes, Bool.and_eq_true] at h
        have := List.all_eq_true.1 h.2 s (List.mem_range.2 h1)
        have hst := hs t rfl
        simpa [hst] using this
    · rw [List.getElem?_eq_none h1]; simp
  unfold frame Act.put
  cases d with
  | none =>
    show (⟨(fill tab us a.tmps.toList).toArray, a.defers⟩ : Act) = ⟨(fill tab (upd us i v) a.tmps.toList).toArray, a.defers⟩
    congr 2
    apply List.ext_getElem?
    intro s
    rcases Nat.lt_or_ge s a.tmps.size with h1 | h1
    · rw [fill_at _ _ _ _ (by simpa using h1), fill_at _ _ _ _ (by simpa using h1)]
      have := hne s (by simp)
      cases hj : (tab[s]?).join with
      | none => rfl
      | some j => rw [hj] at this; simp only [upd]; rw [if_neg (by intro e; exact this (by rw [e]))]
    · rw [List.getElem?_eq_none (by rw [fill_len]; simpa using h1), List.getElem?_eq_none (by rw [fill_len]; simpa using h1)]
  | some t =>
    have htt : (tab[t]?).join = some i := by
      simp only [writes, Bool.and_eq_true] at h
      simpa using h.1
    show (⟨(fill tab us a.tmps.toList).toArray.setIfInBounds t v, a.defers⟩ : Act) = ⟨(fill tab (upd us i v) a.tmps.toList).toArray, a.defers⟩
    congr 1
    apply Array.ext_getElem?
    intro s
    rw [Array.getElem?_setIfInBounds]
    simp only [List.getElem?_toArray, List.size_toArray, fill_len, Array.length_toList]
    rcases Nat.lt_or_ge s a.tmps.size with h1 | h1
    · rw [fill_at _ _ _ _ (by simpa using h1), fill_at _ _ _ _ (by simpa using h1)]
      by_cases e : t = s
      · subst e
        rw [if_pos rfl, if_pos h1, htt]
        simp [upd]
      · rw [if_neg e]
        have := hne s (by rintro t' ht'; obtain rfl := Option.some.inj ht'; exact fun e2 => e e2.symm)
        cases hj : (tab[s]?).join with
        | none => rfl
        | some j => rw [hj] at this; simp only [upd]; rw [if_neg (by intro e; exact this (by rw [e]))]
    · rw [List.getElem?_eq_none (by rw [fill_len]; simpa using h1), List.getElem?_eq_none (by rw [fill_len]; simpa using h1)]
      by_cases e : t = s
      · subst e; rw [if_pos rfl, if_neg (Nat.not_lt.2 h1)]
      · rw [if_neg e]
/-- how many are not yet listed -/
def left (m : Array Bool) : Nat → Nat
  | 0 => 0
  | k + 1 => left m k + (if m.getD k true then 0 else 1)
theorem getD_set {m : Array Bool} {i j : Nat} (d : Bool) : (m.setIfInBounds i true).getD j d = (if i = j ∧ i < m.size then true else m.getD j d) := by
  simp only [Array.getD_eq_getD_getElem?, Array.getElem?_setIfInBounds]
  by_cases h : i = j
  · subst h
    by_cases h2 : i < m.size
    · simp [h2]
    · simp [h2]
  · simp [h]
theorem left_set {m : Array Bool} {i : Nat} (hi : i < m.size) (h : m.getD i true = false) : ∀ k, left (m.setIfInBounds i true) k + (if i < k then 1 else 0) = left m k
  | 0 => by simp [left]
  | k + 1 => by
    have ih := left_set hi h k
    have hk := getD_set (m := m) (i := i) (j := k) true
    simp only [left]
    by_cases e : i = k
    · subst e
      rw [if_pos ⟨rfl, hi⟩] at hk
      rw [if_neg (Nat.lt_irrefl _)] at ih
      rw [hk, h, if_pos (Nat.lt_succ_self _)]
      simp only [Bool.false_eq_true, if_false, if_true]; omega
    · rw [if_neg (fun hh => e hh.1)] at hk
      rw [hk]
      by_cases e2 : i < k
      · rw [if_pos e2] at ih
        rw [if_pos (Nat.lt_succ_of_lt e2)]; omega
      · rw [if_neg e2] at ih
        rw [if_neg (show ¬ i < k + 1 by omega)]; omega
theorem left_zero {m : Array Bool} : ∀ k, left m k = 0 → ∀ i, i < k → m.getD i true = true
  | 0, _, i, hi => by omega
  | k + 1, h, i, hi => by
    simp only [left] at h
    by_cases e : i = k
    · subst e
      cases hg : m.getD i true with
      | true => rfl
      | false => rw [hg] at h; simp at h
    · exact left_zero k (by omega) i (by omega)
theorem left_le (m : Array Bool) : ∀ k, left m k ≤ k
  | 0 => Nat.le_refl _
  | k + 1 => by have := left_le m k; simp only [left]; split <;> omega
/-- edges go back -/
def backE (L : List Oper) : Bool := (List.range L.length).all fun j => match L[j]? with
  | some o => o.after.all fun e => !Region.binds .any e || decide (e.on < j)
  | none => true
/-- all that an operation waits for are listed -/
def doneB (o : Oper) (m : Nat → Bool) : Bool := o.after.all fun e => !Region.binds .any e || m e.on
def slots (tab : List (Option Nat)) (L : List Oper) : Bool := (List.range L.length).all fun i => match L[i]? with
  | some o => writes tab i o.dst
  | none => true
section
variable {P : Program} {L : List Oper} {Q : Exit → Act → World → Prop}
theorem any_inv (I : Array Bool → Act → World → Prop)
    (hstep : ∀ m a w, m.size = L.length → I m a w → ∀ i, i ∈ Region.ready .any L.toArray m → wpOp P L.toArray Q i (fun a' w' => I (m.setIfInBounds i true) a' w') a w)
    (hend : ∀ m a w, m.size = L.length → I m a w → Region.ready .any L.toArray m = [] → Q .normal a w) :
    ∀ (f : Nat) (m : Array Bool) (a : Act) (w : World), m.size = L.length → left m L.length ≤ f → I m a w → wpAny P .any L.toArray Q f m a w
  | 0, m, a, w, hm, hl, h => by
    have hr : Region.ready .any L.toArray m = [] := by
      refine List.eq_nil_iff_forall_not_mem.2 fun j hj => ?_
      obtain ⟨h1, o, ho, _⟩ := mem_ready.1 hj
      have hjl : j < L.toArray.size := (Array.getElem?_eq_some_iff.1 ho).1
      have := left_zero (m := m) L.length (by omega) j (by simpa using hjl)
      rw [h1] at this; cases this
    exact ⟨hr, hend m a w hm h hr⟩
  | f + 1, m, a, w, hm, hl, h => by
    refine ⟨fun h0 => hend m a w hm h h0, fun i hi => ?_⟩
    obtain ⟨h1, o, ho, _⟩ := mem_ready.1 hi
    have hil : i < L.toArray.size := (Array.getElem?_eq_some_iff.1 ho).1
    have hil2 : i < L.length := by simpa using hil
    refine wpOp_mono (fun a' w' h' => ?_) (hstep m a w hm h i hi)
    refine any_inv I hstep hend f _ a' w' (by simpa using hm) ?_ h'
    have := left_set (m := m) (i := i) (by omega) h1 L.length
    rw [if_pos hil2] at this
    omega
theorem all_listed (hb : backE L = true) {m : Array Bool} (hm : m.size = L.length) (hr : Region.ready .any L.toArray m = []) : ∀ i, i < L.length → m.getD i false = true := by
  intro i
  induction i using Nat.strongRecOn with
  | _ i ih =>
    intro hi
    cases hg : m.getD i false with
    | true => rfl
    | false =>
      exfalso
      have hgt : m.getD i true = false := by
        simp only [Array.getD_eq_getD_getElem?, Array.getElem?_eq_getElem (show i < m.size by omega), Option.getD_some] at hg ⊢
        exact hg
      have hoi : L[i]? = some (L[i]'hi) := List.getElem?_eq_getElem hi
      have hbi := List.all_eq_true.1 hb i (List.mem_range.2 hi)
      rw [hoi] at hbi
      have : i ∈ Region.ready .any L.toArray m := mem_ready.2 ⟨hgt, L[i]'hi, by simp, fun e he hbd => by
        have h2 := Array.all_eq_true'.1 hbi e he
        rw [hbd] at h2
        have h3 : e.on < i := by simpa using h2
        exact ih e.on h3 (by omega)⟩
      rw [hr] at this
      cases this
/-- the rule: tab tells which operation writes a slot; J is what holds, by what is listed and what each has given -/
theorem wp_region_free {id : Nat} {a : Act} {w : World} (hm : P.follows .mixedOrders = true) (tab : List (Option Nat)) (hb : backE L = true) (ht : slots tab L = true) (hl : tab.length = a.tmps.size)
    (us0 : Nat → Value) (ha : frame tab a us0 = a) (J : (Nat → Bool) → (Nat → Value) → World → Prop) (h0 : J (fun _ => false) us0 { w with drawn := w.drawn + 1 })
    (hstep : ∀ i o, L[i]? = some o → ∀ m us w, J m us w → m i = false → doneB o m = true →
      if Region.wanted o (yielded L.toArray (frame tab a us).tmps) then o.wp P (frame tab a us) w (fun a' w' => ∃ v, a' = (frame tab a us).put o.dst v ∧ J (upd m i true) (upd us i v) w') Q else J (upd m i true) (upd us i undef) w)
    (hend : ∀ m us w, (∀ i, i < L.length → m i = true) → J m us w → Q .normal (frame tab a us) w) : (Code.region id L.toArray true).wp P Q a w := by
  refine wp_region_any hm ?_
  have hput : ∀ i o, L[i]? = some o → ∀ us v, (frame tab a us).put o.dst v = frame tab a (upd us i v) := by
    intro i o ho us v
    have hil : i < L.length := (List.getElem?_eq_some_iff.1 ho).1
    have h1 := List.all_eq_true.1 ht i (List.mem_range.2 hil)
    rw [ho] at h1
    exact frame_put us h1 hl v
  have hmk : ∀ (m : Array Bool) (i : Nat), i < m.size → (fun j => (m.setIfInBounds i true).getD j false) = upd (fun j => m.getD j false) i true := by
    intro m i hi
    funext j
    rw [getD_set]
    unfold upd
    by_cases e : j = i
    · subst e; simp [hi]
    · rw [if_neg e, if_neg (fun h => e h.1.symm)]
  refine any_inv (fun m a' w' => ∃ us, a' = frame tab a us ∧ J (fun j => m.getD j false) us w') ?_ ?_ _ _ _ _ (by simp) ?_ ⟨us0, ha.symm, ?_⟩
  · rintro m a' w' hms ⟨us, rfl, hJ⟩ i hi
    obtain ⟨h1, o, ho, hdeps⟩ := mem_ready.1 hi
    have ho' : L[i]? = some o := by simpa using ho
    have hil : i < L.length := (List.getElem?_eq_some_iff.1 ho').1
    have hmf : m.getD i false = false := by
      simp only [Array.getD_eq_getD_getElem?, Array.getElem?_eq_getElem (show i < m.size by omega), Option.getD_some] at h1 ⊢
      exact h1
    have hdone : doneB o (fun j => m.getD j false) = true := by
      unfold doneB
      rw [Array.all_eq_true']
      intro e he
      cases hbd : Region.binds .any e with
      | false => rfl
      | true => simpa using hdeps e he hbd
    have hs := hstep i o ho' _ us w' hJ hmf hdone
    unfold wpOp
    simp only [ho]
    split
    · rename_i hw
      rw [if_pos hw] at hs
      refine .inl (Oper.wp_mono (fun a2 w2 h2 => ?_) hs)
      obtain ⟨v, rfl, hJ2⟩ := h2
      refine ⟨upd us i v, hput i o ho' us v, ?_⟩
      rw [hmk m i (by omega)]; exact hJ2
    · rename_i hw
      rw [if_neg hw] at hs
      refine ⟨upd us i undef, hput i o ho' us undef, ?_⟩
      rw [hmk m i (by omega)]; exact hs
  · rintro m a' w' hms ⟨us, rfl, hJ⟩ hr
    exact hend _ us w' (all_listed hb hms hr) hJ
  · exact left_le _ _
  · have e : (fun j => (Array.replicate L.toArray.size false).getD j false) = fun _ => false := by
      funext j
      simp only [Array.getD_eq_getD_getElem?, Array.getElem?_replicate]
      split <;> rfl
    rw [e]; exact h0
/-- of each operation, from number s on -/
def AllFrom (R : Nat → Oper → Prop) : Nat → List Oper → Prop
  | _, [] => True
  | s, o :: r => R s o ∧ AllFrom R (s + 1) r
theorem all_from {R : Nat → Oper → Prop} : ∀ (L : List Oper) (s : Nat), AllFrom R s L → ∀ i o, L[i]? = some o → R (s + i) o
  | [], _, _, i, o, h => by simp at h
  | o' :: r, s, h, 0, o, ho => by
    obtain rfl : o' = o := by simpa using ho
    exact h.1
  | o' :: r, s, h, i + 1, o, ho => by
    have := all_from r (s + 1) h.2 i o (by simpa using ho)
    rw [show s + (i + 1) = s + 1 + i by omega]; exact this
/-- what is asked of an operation that only makes memory -/
def Step (P : Program) (L : List Oper) (Q : Exit → Act → World → Prop) (tab : List (Option Nat)) (a : Act) (G : World → Prop) (V : Nat → Value → World → Prop) (i : Nat) (o : Oper) : Prop :=
  ∀ m us w, G w → (∀ j, m j = true → V j (us j) w) → doneB o m = true →
    if Region.wanted o (yielded L.toArray (frame tab a us).tmps) then o.wp P (frame tab a us) w (fun a' w' => ∃ v, a' = (frame tab a us).put o.dst v ∧ G w' ∧ Below w.heap.size w w' ∧ V i v w') Q else V i undef w
/-- the rule for operations that write into no block that there was: V tells what each has given -/
theorem wp_region_vals {id : Nat} {a : Act} {w : World} (hm : P.follows .mixedOrders = true) (tab : List (Option Nat)) (hb : backE L = true) (ht : slots tab L = true) (hl : tab.length = a.tmps.size)
    (us0 : Nat → Value) (ha : frame tab a us0 = a) (G : World → Prop) (V : Nat → Value → World → Prop) (hG : G w.drew) (hkeep : ∀ i v w w', Below w.heap.size w w' → V i v w → V i v w')
    (hstep : AllFrom (Step P L Q tab a G V) 0 L)
    (hend : ∀ us w, G w → (∀ i, i < L.length → V i (us i) w) → Q .normal (frame tab a us) w) : (Code.region id L.toArray true).wp P Q a w := by
  refine wp_region_free hm tab hb ht hl us0 ha (fun m us w => G w ∧ ∀ j, m j = true → V j (us j) w) ⟨hG, fun j h => by cases h⟩ ?_ ?_
  · intro i o ho m us w' ⟨hg, hv⟩ hmi hd
    have hs := all_from L 0 hstep i o ho m us w' hg hv hd
    rw [Nat.zero_add] at hs
    have hset : ∀ v w'', Below w'.heap.size w' w'' → V i v w'' → ∀ j, upd m i true j = true → V j (upd us i v j) w'' := by
      intro v w'' hb hvi j hj
      by_cases e : j = i
      · subst e; rw [upd_same]; exact hvi
      · rw [upd_other _ _ e]; rw [upd_other _ _ e] at hj; exact hkeep _ _ _ _ hb (hv j hj)
    split
    · rename_i hw
      rw [if_pos hw] at hs
      refine Oper.wp_mono (fun a2 w2 h2 => ?_) hs
      obtain ⟨v, ha, hg2, hb2, hv2⟩ := h2
      exact ⟨v, ha, hg2, hset v w2 hb2 hv2⟩
    · rename_i hw
      rw [if_neg hw] at hs
      exact ⟨hg, hset undef w' (Below.refl _ _) hs⟩
  · intro m us w' hm ⟨hg, hv⟩
    exact hend us w' hg fun i hi => hv i (hm i hi)
/-- what is asked of an operation, where the invariant is the prover's own -/
def StepJ (P : Program) (L : List Oper) (Q : Exit → Act → World → Prop) (tab : List (Option Nat)) (a : Act) (J : (Nat → Bool) → (Nat → Value) → World → Prop) (i : Nat) (o : Oper) : Prop :=
  ∀ m us w, J m us w → m i = false → doneB o m = true →
    if Region.wanted o (yielded L.toArray (frame tab a us).tmps) then o.wp P (frame tab a us) w (fun a' w' => ∃ v, a' = (frame tab a us).put o.dst v ∧ J (upd m i true) (upd us i v) w') Q else J (upd m i true) (upd us i undef) w
theorem wp_region_J {id : Nat} {a : Act} {w : World} (hm : P.follows .mixedOrders = true) (tab : List (Option Nat)) (hb : backE L = true) (ht : slots tab L = true) (hl : tab.length = a.tmps.size)
    (us0 : Nat → Value) (ha : frame tab a us0 = a) (J : (Nat → Bool) → (Nat → Value) → World → Prop) (h0 : J (fun _ => false) us0 w.drew)
    (hstep : AllFrom (StepJ P L Q tab a J) 0 L)
    (hend : ∀ m us w, (∀ i, i < L.length → m i = true) → J m us w → Q .normal (frame tab a us) w) : (Code.region id L.toArray true).wp P Q a w :=
  wp_region_free hm tab hb ht hl us0 ha J h0 (fun i o ho => by have h := all_from L 0 hstep i o ho; rw [Nat.zero_add] at h; exact h) hend
theorem with_act {c : Code} {a : Act} {w : World} (h : ∀ a', a' = a → c.wp P Q a' w) : c.wp P Q a w := h a rfl
variable {o : Oper} {a : Act} {w w' : World} {K : Act → World → Prop} {tab : List (Option Nat)} {G : World → Prop} {V : Nat → Value → World → Prop} {i : Nat} {us : Nat → Value}
def needs (o : Oper) (need : List Nat) : Bool := need.all fun j => o.after.any fun e => Region.binds .any e && (e.on == j)
theorem need_ok {need : List Nat} {m : Nat → Bool} (hn : needs o need = true) (hd : doneB o m = true) : ∀ j, j ∈ need → m j = true := by
  intro j hj
  have h1 := List.all_eq_true.1 hn j hj
  obtain ⟨e, he, h2⟩ := Array.any_eq_true'.1 h1
  simp only [Bool.and_eq_true, beq_iff_eq] at h2
  have h3 := Array.all_eq_true'.1 hd e he
  rw [h2.1, h2.2] at h3
  simpa using h3
theorem step_plain (need : List Nat) (hn : needs o need = true) (hg : o.guard = none)
    (h : ∀ us w, G w → (∀ j, j ∈ need → V j (us j) w) → o.wp P (frame tab a us) w (fun a' w' => ∃ v, a' = (frame tab a us).put o.dst v ∧ G w' ∧ Below w.heap.size w w' ∧ V i v w') Q) : Step P L Q tab a G V i o := by
  intro m us w hG hV hd
  rw [if_pos (show Region.wanted o (yielded L.toArray (frame tab a us).tmps) = true by simp [Region.wanted, hg])]
  exact h us w hG fun j hj => hV j (need_ok hn hd j hj)
theorem step_guard (need : List Nat) (hn : needs o need = true) {j t : Nat} {b : Bool} (hg : o.guard = some (j, b)) (hj : j ∈ need) (hL : (L[j]?).bind (·.dst) = some t) (hl : tab.length = a.tmps.size) (ht : (tab[t]?).join = some j)
    (hv : ∀ v w, V j v w → v = .bool b)
    (h : ∀ us w, G w → (∀ j, j ∈ need → V j (us j) w) → o.wp P (frame tab a us) w (fun a' w' => ∃ v, a' = (frame tab a us).put o.dst v ∧ G w' ∧ Below w.heap.size w w' ∧ V i v w') Q) : Step P L Q tab a G V i o := by
  intro m us w hG hV hd
  have hy := yield_at (L := L) (us := us) hl hL ht (hv _ _ (hV j (need_ok hn hd j hj)))
  rw [if_pos (show Region.wanted o (yielded L.toArray (frame tab a us).tmps) = true by simp [Region.wanted, hg, hy])]
  exact h us w hG fun j hj => hV j (need_ok hn hd j hj)
theorem free_val {v : Value} (hr : (execOp a.eval o).run P w = .ok (.value v) w') (h : K (a.put o.dst v) w') : o.wp P a w K Q := by
  unfold Oper.wp; rw [hr]; exact h
theorem free_skip (hr : (execOp a.eval o).run P w = .ok .skip w') (h : K (a.put o.dst undef) w') : o.wp P a w K Q := by
  unfold Oper.wp; rw [hr]; exact h
theorem free_call {f : FuncId} {args : Array Value} (hr : (execOp a.eval o).run P w = .ok (.enter f args) w) (h : Calls P f args w fun e w' => ∃ v, e = .returned v ∧ K (a.put o.dst v) w') : o.wp P a w K Q := by
  unfold Oper.wp; rw [hr, Oper.upon_enter]
  exact h.mono fun e w' ⟨v, he, hk⟩ => by subst he; exact hk
theorem stepJ {J : (Nat → Bool) → (Nat → Value) → World → Prop} (need : List Nat) (hn : needs o need = true) (hg : o.guard = none)
    (h : ∀ m us w, J m us w → m i = false → (∀ j, j ∈ need → m j = true) → o.wp P (frame tab a us) w (fun a' w' => ∃ v, a' = (frame tab a us).put o.dst v ∧ J (upd m i true) (upd us i v) w') Q) : StepJ P L Q tab a J i o := by
  intro m us w hJ hmi hd
  rw [if_pos (show Region.wanted o (yielded L.toArray (frame tab a us).tmps) = true by simp [Region.wanted, hg])]
  exact h m us w hJ hmi (need_ok hn hd)
theorem val_J {R : Value → World → Prop} {fr : Act} {v : Value} (hr : (execOp fr.eval o).run P w = .ok (.value v) w') (hR : R v w') :
    o.wp P fr w (fun a' w' => ∃ v, a' = fr.put o.dst v ∧ R v w') Q := free_val hr ⟨v, rfl, hR⟩
theorem call_J {R : Value → World → Prop} {fr : Act} {f : FuncId} {args : Array Value} (hr : (execOp fr.eval o).run P w = .ok (.enter f args) w) (h : Calls P f args w fun e w' => ∃ v, e = .returned v ∧ R v w') :
    o.wp P fr w (fun a' w' => ∃ v, a' = fr.put o.dst v ∧ R v w') Q := free_call hr (h.mono fun e w' ⟨v, he, h1⟩ => ⟨v, he, v, rfl, h1⟩)
theorem load_J {R : Value → World → Prop} {fr : Act} (ty : TypeId) (s : Tmp) (ho : o.op = .load ty (.tmp s)) (g : Nat) (hx : fr.tmps[s]?.getD undef = .pointer (some ⟨g, 0, none⟩)) (t : TypeId) (cs : Array Value) (f : Nat × Nat) (d : TypeDesc) (hg : w.heap[g]? = some (.cells cs t f))
    (hu : P.underlying ty = some d) (hd : (match d with | .struct _ | .array _ _ => true | _ => false) = true) (hi : (P.info? ty).map (·.size) = some cs.size) (hR : R (.agg cs) w) :
    o.wp P fr w (fun a' w' => ∃ v, a' = fr.put o.dst v ∧ R v w') Q :=
  wp_load_row ty (.tmp s) ho g (by simpa only [Act.eval, Array.getD_eq_getD_getElem?] using hx) t cs f d hg hu hd hi ⟨_, rfl, hR⟩
theorem store_J {R : Value → World → Prop} {fr : Act} (ty : TypeId) (s x : Tmp) (ho : o.op = .store ty (.tmp s) (.tmp x)) (g : Nat) (cs : Array Value) (hs : fr.tmps[s]?.getD undef = .pointer (some ⟨g, 0, none⟩)) (hx : fr.tmps[x]?.getD undef = .agg cs)
    (t : TypeId) (old : Array Value) (hg : w.heap[g]? = some (.cells old t (0, 0))) (hi : (P.info? ty).map (·.size) = some cs.size) (hold : old.size = cs.size) (h1 : cs.all (·.oneCell') = true) (hR : R undef (w.setRow g cs)) :
    o.wp P fr w (fun a' w' => ∃ v, a' = fr.put o.dst v ∧ R v w') Q :=
  wp_store_row ty (.tmp s) (.tmp x) ho g cs (by simpa only [Act.eval, Array.getD_eq_getD_getElem?] using hs) (by simpa only [Act.eval, Array.getD_eq_getD_getElem?] using hx) t old hg hi hold h1 ⟨undef, rfl, hR⟩
/-- a load behind a guard that says yes -/
theorem wpList_load_rowG {ops : Array Oper} {rest : List Oper} {a : Act} (hw : Region.wanted o (yielded ops a.tmps) = true) (ty : TypeId) (x : Operand) (ho : o.op = .load ty x)
    (g : Nat) (hx : a.eval x = .pointer (some ⟨g, 0, none⟩)) (t : TypeId) (cs : Array Value) (fr : Nat × Nat) (d : TypeDesc) (hg : w.heap[g]? = some (.cells cs t fr))
    (hu : P.underlying ty = some d) (hd : (match d with | .struct _ | .array _ _ => true | _ => false) = true) (hi : (P.info? ty).map (·.size) = some cs.size)
    (h : wpList P ops Q rest (a.put o.dst (.agg cs)) w) : wpList P ops Q (o :: rest) a w := by
  refine wpList_step fun K hK => ?_
  rw [if_pos hw]
  exact wp_load_row ty x ho g hx t cs fr d hg hu hd hi (hK _ _ h)
theorem val_ok {fr : Act} {v : Value} (hr : (execOp fr.eval o).run P w = .ok (.value v) w') (hG : G w') (hb : Below w.heap.size w w') (hV : V i v w') :
    o.wp P fr w (fun a' w' => ∃ v, a' = fr.put o.dst v ∧ G w' ∧ Below w.heap.size w w' ∧ V i v w') Q := free_val hr ⟨v, rfl, hG, hb, hV⟩
theorem load_ok {fr : Act} (ty : TypeId) (s : Tmp) (ho : o.op = .load ty (.tmp s)) (g : Nat) (hx : fr.tmps[s]?.getD undef = .pointer (some ⟨g, 0, none⟩)) (t : TypeId) (cs : Array Value) (f : Nat × Nat) (d : TypeDesc) (hg : w.heap[g]? = some (.cells cs t f))
    (hu : P.underlying ty = some d) (hd : (match d with | .struct _ | .array _ _ => true | _ => false) = true) (hi : (P.info? ty).map (·.size) = some cs.size) (hG : G w) (hV : V i (.agg cs) w) :
    o.wp P fr w (fun a' w' => ∃ v, a' = fr.put o.dst v ∧ G w' ∧ Below w.heap.size w w' ∧ V i v w') Q :=
  wp_load_row ty (.tmp s) ho g (by simpa only [Act.eval, Array.getD_eq_getD_getElem?] using hx) t cs f d hg hu hd hi ⟨_, rfl, hG, Below.refl _ _, hV⟩
theorem call_ok {fr : Act} {f : FuncId} {args : Array Value} (hr : (execOp fr.eval o).run P w = .ok (.enter f args) w) (h : Calls P f args w fun e w' => ∃ v, e = .returned v ∧ G w' ∧ Below w.heap.size w w' ∧ V i v w') :
    o.wp P fr w (fun a' w' => ∃ v, a' = fr.put o.dst v ∧ G w' ∧ Below w.heap.size w w' ∧ V i v w') Q := free_call hr (h.mono fun e w' ⟨v, he, h1, h2, h3⟩ => ⟨v, he, v, rfl, h1, h2, h3⟩)
end
end Go.Proofs.Ytblgkojeholbnaa.freeC
