/-
  3 texts of a proof, joined.
-/
import Derived.Test.YtflfkhcbkhdahaaMg2
import Derived.Laws.CopyRow
import Derived.Deep.WholeRow
import Derived.Great.BuildSlice
import Derived.Test.YtflfkhcbkhdahaaMg1
import Derived.Laws.StructEq
import Derived.Lib.Hide

/-
  Aggregates in the midst of a block: loaded, stored; bytes copied into it.
-/
namespace Go.Proofs.Ytflfkhcbkhdahaa.partC
open Go.ChangeShapes Go.WideShapes Go.ChangeAt Go.RowKit
set_option linter.unusedVariables false
/-- an aggregate is loaded out of the midst of a block -/
theorem run_load_part {P : Program} (w : World) (g o : Nat) (ty : TypeId) (l : List Value) (d : TypeDesc) (hc : ∀ j v, l[j]? = some v → w.cell? ⟨g, o + j, none⟩ = some v)
    (hu : P.underlying ty = some d) (hd : (match d with | .struct _ | .array _ _ => true | _ => false) = true) (hi : (P.info? ty).map (·.size) = some l.length) :
    (loadVar ty ⟨g, o, none⟩).run P w = .ok (.agg l.toArray) w := by
  have hl : (loadCells ⟨g, o, none⟩ l.length).run P w = .ok l.toArray w :=
    run_loadCells_list (P := P) w ⟨g, o, none⟩ l (fun j v hv => by rw [memC.add_plain]; exact hc j v hv)
  cases hq : P.info? ty with
  | none => simp [hq] at hi
  | some i =>
    have hs : i.size = l.length := by simpa [hq] using hi
    have hagg : (isAgg ty).run P w = .ok true w := by
      unfold isAgg
      rw [Sem.run_bind, run_underlying hu w]
      cases d <;> simp_all
    simp [loadVar, Sem.run_bind, hagg, sizeOf, typeInfo, hq, hs, hl]
theorem wpList_load_part {P : Program} {ops : Array Oper} {rest : List Oper} {o : Oper} {a : Act} {w : World} {Q : Exit → Act → World → Prop} (hgd : o.guard = none) (ty : TypeId) (x : Operand) (ho : o.op = .load ty x)
    (g q : Nat) (hx : a.eval x = .pointer (some ⟨g, q, none⟩)) (l : List Value) (d : TypeDesc) (hc : ∀ j v, l[j]? = some v → w.cell? ⟨g, q + j, none⟩ = some v)
    (hu : P.underlying ty = some d) (hd : (match d with | .struct _ | .array _ _ => true | _ => false) = true) (hi : (P.info? ty).map (·.size) = some l.length)
    (h : wpList P ops Q rest (a.put o.dst (.agg l.toArray)) w) : wpList P ops Q (o :: rest) a w :=
  wpList_plain hgd fun _ hK => by
    unfold Oper.wp execOp
    simp only [ho, hx, Instr.loadAt, Instr.sureAddr, Sem.run_bind, Sem.run_pure, Result.andThen_ok, run_load_part w g q ty l d hc hu hd hi]
    exact hK _ _ h
/-- .. is stored into it -/
theorem run_store_part {P : Program} (w : World) (g o : Nat) (t ty : TypeId) (old cells : Array Value) (hg : w.heap[g]? = some (.cells old t (0, 0))) (hi : (P.info? ty).map (·.size) = some cells.size)
    (ho : o + cells.size ≤ old.size) (h1 : cells.all (·.oneCell') = true) :
    (storeVar ty ⟨g, o, none⟩ (.agg cells)).run P w = .ok () (w.setRow g (old.toList.take o ++ cells.toList ++ old.toList.drop (o + cells.size)).toArray) := by
  have := run_storeCells_at (P := P) g o t cells.toList 0 old w hg (by simpa using ho) (fun v hv => (Array.all_eq_true_iff_forall_mem.1 h1) v (by simpa using hv))
  cases hq : P.info? ty with
  | none => simp [hq] at hi
  | some i =>
    have hs : cells.size = i.size := by simp [hq] at hi; omega
    simp [storeVar, sizeOf, typeInfo, hq, Value.cells, hs] at this ⊢
    exact this
theorem wpList_store_part {P : Program} {ops : Array Oper} {rest : List Oper} {o : Oper} {a : Act} {w : World} {Q : Exit → Act → World → Prop} (hgd : o.guard = none) (ty : TypeId) (x y : Operand) (ho : o.op = .store ty x y)
    (g q : Nat) (cells : Array Value) (hx : a.eval x = .pointer (some ⟨g, q, none⟩)) (hy : a.eval y = .agg cells)
    (t : TypeId) (old : Array Value) (hg : w.heap[g]? = some (.cells old t (0, 0))) (hi : (P.info? ty).map (·.size) = some cells.size)
    (hold : q + cells.size ≤ old.size) (h1 : cells.all (·.oneCell') = true)
    (h : wpList P ops Q rest (a.put o.dst undef) (w.setRow g (old.toList.take q ++ cells.toList ++ old.toList.drop (q + cells.size)).toArray)) : wpList P ops Q (o :: rest) a w :=
  wpList_plain hgd fun _ hK => by
    unfold Oper.wp execOp
    simp only [ho, hx, hy, Instr.storeAt, Instr.sureAddr, Sem.run_bind, Sem.run_pure, Result.andThen_ok, run_store_part w g q t ty old cells hg hi hold h1]
    exact hK _ _ h
end Go.Proofs.Ytflfkhcbkhdahaa.partC

/-
  A region that draws its order, by an invariant: each operation is looked at once, in whatever order it comes up.
-/
namespace Go.Proofs.Ytflfkhcbkhdahaa.freeC
open Go.ChangeShapes Go.WideShapes Go.ChangeAt Go.RowKit
set_option linter.unusedVariables false
def upd {α : Type} (f : Nat → α) (i : Nat) (v : α) : Nat → α := fun j => if j = i then v else f j
theorem upd_same {α : Type} (f : Nat → α) (i : Nat) (v : α) : upd f i v i = v := if_pos rfl
theorem upd_other {α : Type} (f : Nat → α) {i j : Nat} (v : α) (h : j ≠ i) : upd f i v j = f j := if_neg h
/-- the frame: a slot that operation i writes holds what i has given -/
def fill : List (Option Nat) → (Nat → Value) → List Value → List Value
  | _, _, [] => []
  | [], _, l => l
  | none :: t, us, v :: r => v :: fill t us r
  | some i :: t, us, _ :: r => us i :: fill t us r
def frame (tab : List (Option Nat)) (a : Act) (us : Nat → Value) : Act := { a with tmps := (fill tab us a.tmps.toList).toArray }
theorem fill_len : ∀ (tab : List (Option Nat)) (us : Nat → Value) (l : List Value), (fill tab us l).length = l.length
  | [], us, [] => rfl
  | _ :: _, us, [] => by simp [fill]
  | [], us, _ :: _ => rfl
  | none :: t, us, v :: r => by simp [fill, fill_len t us r]
  | some i :: t, us, v :: r => by simp [fill, fill_len t us r]
theorem fill_at : ∀ (tab : List (Option Nat)) (us : Nat → Value) (l : List Value) (s : Nat), s < l.length → (fill tab us l)[s]? = (match (tab[s]?).join with | some i => some (us i) | none => l[s]?)
  | [], us, v :: r, s, h => by simp [fill]
  | none :: t, us, v :: r, 0, h => by simp [fill]
  | some i :: t, us, v :: r, 0, h => by simp [fill]
  | none :: t, us, v :: r, s + 1, h => by simpa [fill] using fill_at t us r s (by simpa using h)
  | some i :: t, us, v :: r, s + 1, h => by simpa [fill] using fill_at t us r s (by simpa using h)
theorem frame_get {tab : List (Option Nat)} {a : Act} {us : Nat → Value} {s i : Nat} (hl : tab.length = a.tmps.size) (ht : (tab[s]?).join = some i) : (frame tab a us).tmps[s]? = some (us i) := by
  have hs : s < a.tmps.size := by
    rcases Nat.lt_or_ge s tab.length with h1 | h1
    · omega
    · rw [List.getElem?_eq_none h1] at ht; cases ht
  have h := fill_at tab us a.tmps.toList s (by simpa using hs)
  rw [ht] at h
  simpa [frame] using h
theorem frame_at {tab : List (Option Nat)} {a : Act} {us : Nat → Value} {s i : Nat} (hl : tab.length = a.tmps.size) (ht : (tab[s]?).join = some i) : (frame tab a us).eval (.tmp s) = us i := by
  have h := frame_get (us := us) hl ht
  simp only [Act.eval, Array.getD_eq_getD_getElem?, h, Option.getD_some]
theorem frame_old {tab : List (Option Nat)} {a : Act} {us : Nat → Value} {s : Nat} (ht : (tab[s]?).join = none) : (frame tab a us).eval (.tmp s) = a.eval (.tmp s) := by
  rcases Nat.lt_or_ge s a.tmps.size with hs | hs
  · have h := fill_at tab us a.tmps.toList s (by simpa using hs)
    rw [ht] at h
    simp only [frame, Act.eval, Array.getD_eq_getD_getElem?, List.getElem?_toArray, h, Array.getElem?_toList]
  · have h : (fill tab us a.tmps.toList)[s]? = none := List.getElem?_eq_none (by rw [fill_len]; simpa using hs)
    simp only [frame, Act.eval, Array.getD_eq_getD_getElem?, List.getElem?_toArray, h, Array.getElem?_eq_none hs]
theorem frame_at2 {tab : List (Option Nat)} {a : Act} {us : Nat → Value} {s i : Nat} (hl : tab.length = a.tmps.size) (ht : (tab[s]?).join = some i) : (frame tab a us).tmps[s]?.getD undef = us i := by
  rw [frame_get hl ht]; rfl
theorem frame_old2 {tab : List (Option Nat)} {a : Act} {us : Nat → Value} {s : Nat} (ht : (tab[s]?).join = none) : (frame tab a us).tmps[s]?.getD undef = a.tmps[s]?.getD undef := by
  have h := frame_old (us := us) (a := a) ht
  simpa only [Act.eval, Array.getD_eq_getD_getElem?] using h
theorem yield_at {L : List Oper} {tab : List (Option Nat)} {a : Act} {us : Nat → Value} {j t : Nat} {b : Bool} (hl : tab.length = a.tmps.size) (hj : (L[j]?).bind (·.dst) = some t) (ht : (tab[t]?).join = some j) (hv : us j = .bool b) :
    yielded L.toArray (frame tab a us).tmps j = some b := by
  have h := frame_get (us := us) hl ht
  have h2 : (L.toArray[j]?).bind (·.dst) = some t := by rw [List.getElem?_toArray]; exact hj
  unfold yielded
  rw [h2]
  simp only [Option.bind_some, h, hv]
/-- operation i, and it alone, writes slot t -/
def writes (tab : List (Option Nat)) (i : Nat) : Option Tmp → Bool
  | some t => ((tab[t]?).join == some i) && (List.range tab.length).all fun s => s == t || (tab[s]?).join != some i
  | none => (List.range tab.length).all fun s => (tab[s]?).join != some i
theorem frame_put {tab : List (Option Nat)} {a : Act} (us : Nat → Value) {i : Nat} {d : Option Tmp} (h : writes tab i d = true) (hl : tab.length = a.tmps.size) (v : Value) : (frame tab a us).put d v = frame tab a (upd us i v) := by
  have hne : ∀ s, (∀ t, d = some t → s ≠ t) → (tab[s]?).join ≠ some i := by
    intro s hs
    rcases Nat.lt_or_ge s tab.length with h1 | h1
    · cases d with
      | none =>
        have := List.all_eq_true.1 h s (List.mem_range.2 h1)
        simpa using this
      | some t =>
        simp only [writes, Bool.and_eq_true] at h
        have := List.all_eq_true.1 h.2 s (List.mem_range.2 h1)
        have hst := hs t rfl
        simpa [hst] using this
    · rw [List.getElem?_eq_none h1]; simp
  unfold frame Act.put
  cases d with
  | none =>
    show (⟨(fill tab us a.tmps.toList).toArray, a.defers⟩ : Act) = ⟨(fill tab (upd us i v) a.tmps.toList).toArray, a.defers⟩
    congr 2
    apply List.ext_getElem?
    intro s
    rcases Nat.lt_or_ge s a.tmps.size with h1 | h1
    · rw [fill_at _ _ _ _ (by simpa using h1), fill_at _ _ _ _ (by simpa using h1)]
      have := hne s (by simp)
      cases hj : (tab[s]?).join with
      | none => rfl
      | some j => rw [hj] at this; simp only [upd]; rw [if_neg (by intro e; exact this (by rw [e]))]
    · rw [List.getElem?_eq_none (by rw [fill_len]; simpa using h1), List.getElem?_eq_none (by rw [fill_len]; simpa using h1)]
  | some t =>
    have htt : (tab[t]?).join = some i := by
      simp only [writes, Bool.and_eq_true] at h
      simpa using h.1
    show (⟨(fill tab us a.tmps.toList).toArray.setIfInBounds t v, a.defers⟩ : Act) = ⟨(fill tab (upd us i v) a.tmps.toList).toArray, a.defers⟩
    congr 1
    apply Array.ext_getElem?
    intro s
    rw [Array.getElem?_setIfInBounds]
    simp only [List.getElem?_toArray, List.size_toArray, fill_len, Array.length_toList]
    rcases Nat.lt_or_ge s a.tmps.size with h1 | h1
    · rw [fill_at _ _ _ _ (by simpa using h1), fill_at _ _ _ _ (by simpa using h1)]
      by_cases e : t = s
      · subst e
        rw [if_pos rfl, if_pos h1, htt]
        simp [upd]
      · rw [if_neg e]
        have := hne s (by rintro t' ht'; obtain rfl := Option.some.inj ht'; exact fun e2 => e e2.symm)
        cases hj : (tab[s]?).join with
        | none => rfl
        | some j => rw [hj] at this; simp only [upd]; rw [if_neg (by intro e; exact this (by rw [e]))]
    · rw [List.getElem?_eq_none (by rw [fill_len]; simpa using h1), List.getElem?_eq_none (by rw [fill_len]; simpa using h1)]
      by_cases e : t = s
      · subst e; rw [if_pos rfl, if_neg (Nat.not_lt.2 h1)]
      · rw [if_neg e]
/-- how many are not yet listed -/
def left (m : Array Bool) : Nat → Nat
  | 0 => 0
  | k + 1 => left m k + (if m.getD k true then 0 else 1)
theorem getD_set {m : Array Bool} {i j : Nat} (d : Bool) : (m.setIfInBounds i true).getD j d = (if i = j ∧ i < m.size then true else m.getD j d) := by
  simp only [Array.getD_eq_getD_getElem?, Array.getElem?_setIfInBounds]
  by_cases h : i = j
  · subst h
    by_cases h2 : i < m.size
    · simp [h2]
    · simp [h2]
  · simp [h]
theorem left_set {m : Array Bool} {i : Nat} (hi : i < m.size) (h : m.getD i true = false) : ∀ k, left (m.setIfInBounds i true) k + (if i < k then 1 else 0) = left m k
  | 0 => by simp [left]
  | k + 1 => by
    have ih := left_set hi h k
    have hk := getD_set (m := m) (i := i) (j := k) true
    simp only [left]
    by_cases e : i = k
    · subst e
      rw [if_pos ⟨rfl, hi⟩] at hk
      rw [if_neg (Nat.lt_irrefl _)] at ih
      rw [hk, h, if_pos (Nat.lt_succ_self _)]
      simp only [Bool.false_eq_true, if_false, if_true]; omega
    · rw [if_neg (fun hh => e hh.1)] at hk
      rw [hk]
      by_cases e2 : i < k
      · rw [if_pos e2] at ih
        rw [if_pos (Nat.lt_succ_of_lt e2)]; omega
      · rw [if_neg e2] at ih
        rw [if_neg (show ¬ i < k + 1 by omega)]; omega
theorem left_zero {m : Array Bool} : ∀ k, left m k = 0 → ∀ i, i < k → m.getD i true = true
  | 0, _, i, hi => by omega
  | k + 1, h, i, hi => by
    simp only [left] at h
    by_cases e : i = k
    · subst e
      cases hg : m.getD i true with
      | true => rfl
      | false => rw [hg] at h; simp at h
    · exact left_zero k (by omega) i (by omega)
theorem left_le (m : Array Bool) : ∀ k, left m k ≤ k
  | 0 => Nat.le_refl _
  | k + 1 => by have := left_le m k; simp only [left]; split <;> omega
/-- edges go back -/
def backE (L : List Oper) : Bool := (List.range L.length).all fun j => match L[j]? with
  | some o => o.after.all fun e => !Region.binds .any e || decide (e.on < j)
  | none => true
/-- all that an operation waits for are listed -/
def doneB (o : Oper) (m : Nat → Bool) : Bool := o.after.all fun e => !Region.binds .any e || m e.on
def slots (tab : List (Option Nat)) (L : List Oper) : Bool := (List.range L.length).all fun i => match L[i]? with
  | some o => writes tab i o.dst
  | none => true
section
variable {P : Program} {L : List Oper} {Q : Exit → Act → World → Prop}
theorem any_inv (I : Array Bool → Act → World → Prop)
    (hstep : ∀ m a w, m.size = L.length → I m a w → ∀ i, i ∈ Region.ready .any L.toArray m → wpOp P L.toArray Q i (fun a' w' => I (m.setIfInBounds i true) a' w') a w)
    (hend : ∀ m a w, m.size = L.length → I m a w → Region.ready .any L.toArray m = [] → Q .normal a w) :
    ∀ (f : Nat) (m : Array Bool) (a : Act) (w : World), m.size = L.length → left m L.length ≤ f → I m a w → wpAny P .any L.toArray Q f m a w
  | 0, m, a, w, hm, hl, h => by
    have hr : Region.ready .any L.toArray m = [] := by
      refine List.eq_nil_iff_forall_not_mem.2 fun j hj => ?_
      obtain ⟨h1, o, ho, _⟩ := mem_ready.1 hj
      have hjl : j < L.toArray.size := (Array.getElem?_eq_some_iff.1 ho).1
      have := left_zero (m := m) L.length (by omega) j (by simpa using hjl)
      rw [h1] at this; cases this
    exact ⟨hr, hend m a w hm h hr⟩
  | f + 1, m, a, w, hm, hl, h => by
    refine ⟨fun h0 => hend m a w hm h h0, fun i hi => ?_⟩
    obtain ⟨h1, o, ho, _⟩ := mem_ready.1 hi
    have hil : i < L.toArray.size := (Array.getElem?_eq_some_iff.1 ho).1
    have hil2 : i < L.length := by simpa using hil
    refine wpOp_mono (fun a' w' h' => ?_) (hstep m a w hm h i hi)
    refine any_inv I hstep hend f _ a' w' (by simpa using hm) ?_ h'
    have := left_set (m := m) (i := i) (by omega) h1 L.length
    rw [if_pos hil2] at this
    omega
theorem all_listed (hb : backE L = true) {m : Array Bool} (hm : m.size = L.length) (hr : Region.ready .any L.toArray m = []) : ∀ i, i < L.length → m.getD i false = true := by
  intro i
  induction i using Nat.strongRecOn with
  | _ i ih =>
    intro hi
    cases hg : m.getD i false with
    | true => rfl
    | false =>
      exfalso
      have hgt : m.getD i true = false := by
        simp only [Array.getD_eq_getD_getElem?, Array.getElem?_eq_getElem (show i < m.size by omega), Option.getD_some] at hg ⊢
        exact hg
      have hoi : L[i]? = some (L[i]'hi) := List.getElem?_eq_getElem hi
      have hbi := List.all_eq_true.1 hb i (List.mem_range.2 hi)
      rw [hoi] at hbi
      have : i ∈ Region.ready .any L.toArray m := mem_ready.2 ⟨hgt, L[i]'hi, by simp, fun e he hbd => by
        have h2 := Array.all_eq_true'.1 hbi e he
        rw [hbd] at h2
        have h3 : e.on < i := by simpa using h2
        exact ih e.on h3 (by omega)⟩
      rw [hr] at this
      cases this
/-- the rule: tab tells which operation writes a slot; J is what holds, by what is listed and what each has given -/
theorem wp_region_free {id : Nat} {a : Act} {w : World} (hm : P.follows .mixedOrders = true) (tab : List (Option Nat)) (hb : backE L = true) (ht : slots tab L = true) (hl : tab.length = a.tmps.size)
    (us0 : Nat → Value) (ha : frame tab a us0 = a) (J : (Nat → Bool) → (Nat → Value) → World → Prop) (h0 : J (fun _ => false) us0 { w with drawn := w.drawn + 1 })
    (hstep : ∀ i o, L[i]? = some o → ∀ m us w, J m us w → m i = false → doneB o m = true →
      if Region.wanted o (yielded L.toArray (frame tab a us).tmps) then o.wp P (frame tab a us) w (fun a' w' => ∃ v, a' = (frame tab a us).put o.dst v ∧ J (upd m i true) (upd us i v) w') Q else J (upd m i true) (upd us i undef) w)
    (hend : ∀ m us w, (∀ i, i < L.length → m i = true) → J m us w → Q .normal (frame tab a us) w) : (Code.region id L.toArray true).wp P Q a w := by
  refine wp_region_any hm ?_
  have hput : ∀ i o, L[i]? = some o → ∀ us v, (frame tab a us).put o.dst v = frame tab a (upd us i v) := by
    intro i o ho us v
    have hil : i < L.length := (List.getElem?_eq_some_iff.1 ho).1
    have h1 := List.all_eq_true.1 ht i (List.mem_range.2 hil)
    rw [ho] at h1
    exact frame_put us h1 hl v
  have hmk : ∀ (m : Array Bool) (i : Nat), i < m.size → (fun j => (m.setIfInBounds i true).getD j false) = upd (fun j => m.getD j false) i true := by
    intro m i hi
    funext j
    rw [getD_set]
    unfold upd
    by_cases e : j = i
    · subst e; simp [hi]
    · rw [if_neg e, if_neg (fun h => e h.1.symm)]
  refine any_inv (fun m a' w' => ∃ us, a' = frame tab a us ∧ J (fun j => m.getD j false) us w') ?_ ?_ _ _ _ _ (by simp) ?_ ⟨us0, ha.symm, ?_⟩
  · rintro m a' w' hms ⟨us, rfl, hJ⟩ i hi
    obtain ⟨h1, o, ho, hdeps⟩ := mem_ready.1 hi
    have ho' : L[i]? = some o := by simpa using ho
    have hil : i < L.length := (List.getElem?_eq_some_iff.1 ho').1
    have hmf : m.getD i false = false := by
      simp only [Array.getD_eq_getD_getElem?, Array.getElem?_eq_getElem (show i < m.size by omega), Option.getD_some] at h1 ⊢
      exact h1
    have hdone : doneB o (fun j => m.getD j false) = true := by
      unfold doneB
      rw [Array.all_eq_true']
      intro e he
      cases hbd : Region.binds .any e with
      | false => rfl
      | true => simpa using hdeps e he hbd
    have hs := hstep i o ho' _ us w' hJ hmf hdone
    unfold wpOp
    simp only [ho]
    split
    · rename_i hw
      rw [if_pos hw] at hs
      refine .inl (Oper.wp_mono (fun a2 w2 h2 => ?_) hs)
      obtain ⟨v, rfl, hJ2⟩ := h2
      refine ⟨upd us i v, hput i o ho' us v, ?_⟩
      rw [hmk m i (by omega)]; exact hJ2
    · rename_i hw
      rw [if_neg hw] at hs
      refine ⟨upd us i undef, hput i o ho' us undef, ?_⟩
      rw [hmk m i (by omega)]; exact hs
  · rintro m a' w' hms ⟨us, rfl, hJ⟩ hr
    exact hend _ us w' (all_listed hb hms hr) hJ
  · exact left_le _ _
  · have e : (fun j => (Array.replicate L.toArray.size false).getD j false) = fun _ => false := by
      funext j
      simp only [Array.getD_eq_getD_getElem?, Array.getElem?_replicate]
      split <;> rfl
    rw [e]; exact h0
/-- of each operation, from number s on -/
def AllFrom (R : Nat → Oper → Prop) : Nat → List Oper → Prop
  | _, [] => True
  | s, o :: r => R s o ∧ AllFrom R (s + 1) r
theorem all_from {R : Nat → Oper → Prop} : ∀ (L : List Oper) (s : Nat), AllFrom R s L → ∀ i o, L[i]? = some o → R (s + i) o
  | [], _, _, i, o, h => by simp at h
  | o' :: r, s, h, 0, o, ho => by
    obtain rfl : o' = o := by simpa using ho
    exact h.1
  | o' :: r, s, h, i + 1, o, ho => by
    have := all_from r (s + 1) h.2 i o (by simpa using ho)
    rw [show s + (i + 1) = s + 1 + i by omega]; exact this
/-- what is asked of an operation that only makes memory -/
def Step (P : Program) (L : List Oper) (Q : Exit → Act → World → Prop) (tab : List (Option Nat)) (a : Act) (G : World → Prop) (V : Nat → Value → World → Prop) (i : Nat) (o : Oper) : Prop :=
  ∀ m us w, G w → (∀ j, m j = true → V j (us j) w) → doneB o m = true →
    if Region.wanted o (yielded L.toArray (frame tab a us).tmps) then o.wp P (frame tab a us) w (fun a' w' => ∃ v, a' = (frame tab a us).put o.dst v ∧ G w' ∧ Below w.heap.size w w' ∧ V i v w') Q else V i undef w
/-- the rule for operations that write into no block that there was: V tells what each has given -/
theorem wp_region_vals {id : Nat} {a : Act} {w : World} (hm : P.follows .mixedOrders = true) (tab : List (Option Nat)) (hb : backE L = true) (ht : slots tab L = true) (hl : tab.length = a.tmps.size)
    (us0 : Nat → Value) (ha : frame tab a us0 = a) (G : World → Prop) (V : Nat → Value → World → Prop) (hG : G w.drew) (hkeep : ∀ i v w w', Below w.heap.size w w' → V i v w → V i v w')
    (hstep : AllFrom (Step P L Q tab a G V) 0 L)
    (hend : ∀ us w, G w → (∀ i, i < L.length → V i (us i) w) → Q .normal (frame tab a us) w) : (Code.region id L.toArray true).wp P Q a w := by
  refine wp_region_free hm tab hb ht hl us0 ha (fun m us w => G w ∧ ∀ j, m j = true → V j (us j) w) ⟨hG, fun j h => by cases h⟩ ?_ ?_
  · intro i o ho m us w' ⟨hg, hv⟩ hmi hd
    have hs := all_from L 0 hstep i o ho m us w' hg hv hd
    rw [Nat.zero_add] at hs
    have hset : ∀ v w'', Below w'.heap.size w' w'' → V i v w'' → ∀ j, upd m i true j = true → V j (upd us i v j) w'' := by
      intro v w'' hb hvi j hj
      by_cases e : j = i
      · subst e; rw [upd_same]; exact hvi
      · rw [upd_other _ _ e]; rw [upd_other _ _ e] at hj; exact hkeep _ _ _ _ hb (hv j hj)
    split
    · rename_i hw
      rw [if_pos hw] at hs
      refine Oper.wp_mono (fun a2 w2 h2 => ?_) hs
      obtain ⟨v, ha, hg2, hb2, hv2⟩ := h2
      exact ⟨v, ha, hg2, hset v w2 hb2 hv2⟩
    · rename_i hw
      rw [if_neg hw] at hs
      exact ⟨hg, hset undef w' (Below.refl _ _) hs⟩
  · intro m us w' hm ⟨hg, hv⟩
    exact hend us w' hg fun i hi => hv i (hm i hi)
/-- what is asked of an operation, where the invariant is the prover's own -/
def StepJ (P : Program) (L : List Oper) (Q : Exit → Act → World → Prop) (tab : List (Option Nat)) (a : Act) (J : (Nat → Bool) → (Nat → Value) → World → Prop) (i : Nat) (o : Oper) : Prop :=
  ∀ m us w, J m us w → m i = false → doneB o m = true →
    if Region.wanted o (yielded L.toArray (frame tab a us).tmps) then o.wp P (frame tab a us) w (fun a' w' => ∃ v, a' = (frame tab a us).put o.dst v ∧ J (upd m i true) (upd us i v) w') Q else J (upd m i true) (upd us i undef) w
theorem wp_region_J {id : Nat} {a : Act} {w : World} (hm : P.follows .mixedOrders = true) (tab : List (Option Nat)) (hb : backE L = true) (ht : slots tab L = true) (hl : tab.length = a.tmps.size)
    (us0 : Nat → Value) (ha : frame tab a us0 = a) (J : (Nat → Bool) → (Nat → Value) → World → Prop) (h0 : J (fun _ => false) us0 w.drew)
    (hstep : AllFrom (StepJ P L Q tab a J) 0 L)
    (hend : ∀ m us w, (∀ i, i < L.length → m i = true) → J m us w → Q .normal (frame tab a us) w) : (Code.region id L.toArray true).wp P Q a w :=
  wp_region_free hm tab hb ht hl us0 ha J h0 (fun i o ho => by have h := all_from L 0 hstep i o ho; rw [Nat.zero_add] at h; exact h) hend
theorem with_act {c : Code} {a : Act} {w : World} (h : ∀ a', a' = a → c.wp P Q a' w) : c.wp P Q a w := h a rfl
variable {o : Oper} {a : Act} {w w' : World} {K : Act → World → Prop} {tab : List (Option Nat)} {G : World → Prop} {V : Nat → Value → World → Prop} {i : Nat} {us : Nat → Value}
def needs (o : Oper) (need : List Nat) : Bool := need.all fun j => o.after.any fun e => Region.binds .any e && (e.on == j)
theorem need_ok {need : List Nat} {m : Nat → Bool} (hn : needs o need = true) (hd : doneB o m = true) : ∀ j, j ∈ need → m j = true := by
  intro j hj
  have h1 := List.all_eq_true.1 hn j hj
  obtain ⟨e, he, h2⟩ := Array.any_eq_true'.1 h1
  simp only [Bool.and_eq_true, beq_iff_eq] at h2
  have h3 := Array.all_eq_true'.1 hd e he
  rw [h2.1, h2.2] at h3
  simpa using h3
theorem step_plain (need : List Nat) (hn : needs o need = true) (hg : o.guard = none)
    (h : ∀ us w, G w → (∀ j, j ∈ need → V j (us j) w) → o.wp P (frame tab a us) w (fun a' w' => ∃ v, a' = (frame tab a us).put o.dst v ∧ G w' ∧ Below w.heap.size w w' ∧ V i v w') Q) : Step P L Q tab a G V i o := by
  intro m us w hG hV hd
  rw [if_pos (show Region.wanted o (yielded L.toArray (frame tab a us).tmps) = true by simp [Region.wanted, hg])]
  exact h us w hG fun j hj => hV j (need_ok hn hd j hj)
theorem step_guard (need : List Nat) (hn : needs o need = true) {j t : Nat} {b : Bool} (hg : o.guard = some (j, b)) (hj : j ∈ need) (hL : (L[j]?).bind (·.dst) = some t) (hl : tab.length = a.tmps.size) (ht : (tab[t]?).join = some j)
    (hv : ∀ v w, V j v w → v = .bool b)
    (h : ∀ us w, G w → (∀ j, j ∈ need → V j (us j) w) → o.wp P (frame tab a us) w (fun a' w' => ∃ v, a' = (frame tab a us).put o.dst v ∧ G w' ∧ Below w.heap.size w w' ∧ V i v w') Q) : Step P L Q tab a G V i o := by
  intro m us w hG hV hd
  have hy := yield_at (L := L) (us := us) hl hL ht (hv _ _ (hV j (need_ok hn hd j hj)))
  rw [if_pos (show Region.wanted o (yielded L.toArray (frame tab a us).tmps) = true by simp [Region.wanted, hg, hy])]
  exact h us w hG fun j hj => hV j (need_ok hn hd j hj)
theorem free_val {v : Value} (hr : (execOp a.eval o).run P w = .ok (.value v) w') (h : K (a.put o.dst v) w') : o.wp P a w K Q := by
  unfold Oper.wp; rw [hr]; exact h
theorem free_skip (hr : (execOp a.eval o).run P w = .ok .skip w') (h : K (a.put o.dst undef) w') : o.wp P a w K Q := by
  unfold Oper.wp; rw [hr]; exact h
theorem free_call {f : FuncId} {args : Array Value} (hr : (execOp a.eval o).run P w = .ok (.enter f args) w) (h : Calls P f args w fun e w' => ∃ v, e = .returned v ∧ K (a.put o.dst v) w') : o.wp P a w K Q := by
  unfold Oper.wp; rw [hr, Oper.upon_enter]
  exact h.mono fun e w' ⟨v, he, hk⟩ => by subst he; exact hk
theorem stepJ {J : (Nat → Bool) → (Nat → Value) → World → Prop} (need : List Nat) (hn : needs o need = true) (hg : o.guard = none)
    (h : ∀ m us w, J m us w → m i = false → (∀ j, j ∈ need → m j = true) → o.wp P (frame tab a us) w (fun a' w' => ∃ v, a' = (frame tab a us).put o.dst v ∧ J (upd m i true) (upd us i v) w') Q) : StepJ P L Q tab a J i o := by
  intro m us w hJ hmi hd
  rw [if_pos (show Region.wanted o (yielded L.toArray (frame tab a us).tmps) = true by simp [Region.wanted, hg])]
  exact h m us w hJ hmi (need_ok hn hd)
theorem val_J {R : Value → World → Prop} {fr : Act} {v : Value} (hr : (execOp fr.eval o).run P w = .ok (.value v) w') (hR : R v w') :
    o.wp P fr w (fun a' w' => ∃ v, a' = fr.put o.dst v ∧ R v w') Q := free_val hr ⟨v, rfl, hR⟩
theorem call_J {R : Value → World → Prop} {fr : Act} {f : FuncId} {args : Array Value} (hr : (execOp fr.eval o).run P w = .ok (.enter f args) w) (h : Calls P f args w fun e w' => ∃ v, e = .returned v ∧ R v w') :
    o.wp P fr w (fun a' w' => ∃ v, a' = fr.put o.dst v ∧ R v w') Q := free_call hr (h.mono fun e w' ⟨v, he, h1⟩ => ⟨v, he, v, rfl, h1⟩)
theorem load_J {R : Value → World → Prop} {fr : Act} (ty : TypeId) (s : Tmp) (ho : o.op = .load ty (.tmp s)) (g : Nat) (hx : fr.tmps[s]?.getD undef = .pointer (some ⟨g, 0, none⟩)) (t : TypeId) (cs : Array Value) (f : Nat × Nat) (d : TypeDesc) (hg : w.heap[g]? = some (.cells cs t f))
    (hu : P.underlying ty = some d) (hd : (match d with | .struct _ | .array _ _ => true | _ => false) = true) (hi : (P.info? ty).map (·.size) = some cs.size) (hR : R (.agg cs) w) :
    o.wp P fr w (fun a' w' => ∃ v, a' = fr.put o.dst v ∧ R v w') Q :=
  wp_load_row ty (.tmp s) ho g (by simpa only [Act.eval, Array.getD_eq_getD_getElem?] using hx) t cs f d hg hu hd hi ⟨_, rfl, hR⟩
theorem store_J {R : Value → World → Prop} {fr : Act} (ty : TypeId) (s x : Tmp) (ho : o.op = .store ty (.tmp s) (.tmp x)) (g : Nat) (cs : Array Value) (hs : fr.tmps[s]?.getD undef = .pointer (some ⟨g, 0, none⟩)) (hx : fr.tmps[x]?.getD undef = .agg cs)
    (t : TypeId) (old : Array Value) (hg : w.heap[g]? = some (.cells old t (0, 0))) (hi : (P.info? ty).map (·.size) = some cs.size) (hold : old.size = cs.size) (h1 : cs.all (·.oneCell') = true) (hR : R undef (w.setRow g cs)) :
    o.wp P fr w (fun a' w' => ∃ v, a' = fr.put o.dst v ∧ R v w') Q :=
  wp_store_row ty (.tmp s) (.tmp x) ho g cs (by simpa only [Act.eval, Array.getD_eq_getD_getElem?] using hs) (by simpa only [Act.eval, Array.getD_eq_getD_getElem?] using hx) t old hg hi hold h1 ⟨undef, rfl, hR⟩
/-- a load behind a guard that says yes -/
theorem wpList_load_rowG {ops : Array Oper} {rest : List Oper} {a : Act} (hw : Region.wanted o (yielded ops a.tmps) = true) (ty : TypeId) (x : Operand) (ho : o.op = .load ty x)
    (g : Nat) (hx : a.eval x = .pointer (some ⟨g, 0, none⟩)) (t : TypeId) (cs : Array Value) (fr : Nat × Nat) (d : TypeDesc) (hg : w.heap[g]? = some (.cells cs t fr))
    (hu : P.underlying ty = some d) (hd : (match d with | .struct _ | .array _ _ => true | _ => false) = true) (hi : (P.info? ty).map (·.size) = some cs.size)
    (h : wpList P ops Q rest (a.put o.dst (.agg cs)) w) : wpList P ops Q (o :: rest) a w := by
  refine wpList_step fun K hK => ?_
  rw [if_pos hw]
  exact wp_load_row ty x ho g hx t cs fr d hg hu hd hi (hK _ _ h)
theorem val_ok {fr : Act} {v : Value} (hr : (execOp fr.eval o).run P w = .ok (.value v) w') (hG : G w') (hb : Below w.heap.size w w') (hV : V i v w') :
    o.wp P fr w (fun a' w' => ∃ v, a' = fr.put o.dst v ∧ G w' ∧ Below w.heap.size w w' ∧ V i v w') Q := free_val hr ⟨v, rfl, hG, hb, hV⟩
theorem load_ok {fr : Act} (ty : TypeId) (s : Tmp) (ho : o.op = .load ty (.tmp s)) (g : Nat) (hx : fr.tmps[s]?.getD undef = .pointer (some ⟨g, 0, none⟩)) (t : TypeId) (cs : Array Value) (f : Nat × Nat) (d : TypeDesc) (hg : w.heap[g]? = some (.cells cs t f))
    (hu : P.underlying ty = some d) (hd : (match d with | .struct _ | .array _ _ => true | _ => false) = true) (hi : (P.info? ty).map (·.size) = some cs.size) (hG : G w) (hV : V i (.agg cs) w) :
    o.wp P fr w (fun a' w' => ∃ v, a' = fr.put o.dst v ∧ G w' ∧ Below w.heap.size w w' ∧ V i v w') Q :=
  wp_load_row ty (.tmp s) ho g (by simpa only [Act.eval, Array.getD_eq_getD_getElem?] using hx) t cs f d hg hu hd hi ⟨_, rfl, hG, Below.refl _ _, hV⟩
theorem call_ok {fr : Act} {f : FuncId} {args : Array Value} (hr : (execOp fr.eval o).run P w = .ok (.enter f args) w) (h : Calls P f args w fun e w' => ∃ v, e = .returned v ∧ G w' ∧ Below w.heap.size w w' ∧ V i v w') :
    o.wp P fr w (fun a' w' => ∃ v, a' = fr.put o.dst v ∧ G w' ∧ Below w.heap.size w w' ∧ V i v w') Q := free_call hr (h.mono fun e w' ⟨v, he, h1, h2, h3⟩ => ⟨v, he, v, rfl, h1, h2, h3⟩)
end
end Go.Proofs.Ytflfkhcbkhdahaa.freeC

/-
  Addresses as values: their cells, '==' of two of them; results that are an address and a number.
-/
namespace Go.Proofs.Ytflfkhcbkhdahaa.adC
open Go.ChangeShapes Go.WideShapes Go.ChangeAt Go.RowKit
open Go.Proofs.Ytflfkhcbkhdahaa.memC Go.Proofs.Ytflfkhcbkhdahaa.genC Go.Proofs.Ytflfkhcbkhdahaa.butC Go.Proofs.Ytflfkhcbkhdahaa.freeC
set_option linter.unusedVariables false
/-- a call's value, and that what was there stands -/
def Ret (w : World) (v : Value) (e : Ending) (w' : World) : Prop := e = .returned v ∧ Below w.heap.size w w'
theorem byte_inf : (Try.prog.info? 5).map (fun i => (i.zero, i.size, i.bytes)) = some (some (.int .u8 0), 1, 1) := by kernel_rfl
theorem b16_info : (Try.prog.info? 23).map (·.size) = some 16 := by kernel_rfl
theorem addr_info : (Try.prog.info? 25).map (·.size) = some 17 := by kernel_rfl
/-- what there was stands -/
def Gr (w0 w : World) : Prop := Below w0.heap.size w0 w
theorem lt_of_row {w : World} {g : Nat} {o : Obj} (h : w.heap[g]? = some o) : g < w.heap.size := by
  rcases Nat.lt_or_ge g w.heap.size with h' | h'
  · exact h'
  · rw [Array.getElem?_eq_none h'] at h; cases h
theorem Gr.below {w0 w w' : World} (h : Gr w0 w) (b : Below w.heap.size w w') : Gr w0 w' := Below.trans h (b.mono (Below.size h))
theorem Gr.row {w0 w : World} (h : Gr w0 w) {g : Nat} {o : Obj} (hg : w0.heap[g]? = some o) : w.heap[g]? = some o := by rw [Below.block h g (lt_of_row hg)]; exact hg
theorem Gr.mono {w0 w : World} {B : Nat} (h : Gr w0 w) (hB : B ≤ w0.heap.size) : Below B w0 w := Below.mono h hB
theorem gr_drew (w : World) : Gr w w.drew := (Below.refl _ _).drew
theorem results_cell_tmp {P : Program} {fn : Func} {p q : Tmp} {ty : TypeId} (h : fn.results = #[.cell p ty, .tmp q]) (tmps : Array Value) (w : World) (g : Nat) (t : TypeId) (cs : Array Value) (fr : Nat × Nat) (d : TypeDesc) (v : Value)
    (hp : tmps.getD p undef = .pointer (some ⟨g, 0, none⟩)) (hg : w.heap[g]? = some (.cells cs t fr)) (hu : P.underlying ty = some d) (hd : (match d with | .struct _ | .array _ _ => true | _ => false) = true) (hi : (P.info? ty).map (·.size) = some cs.size)
    (hp2 : tmps.getD q undef = v) :
    (results fn tmps).run P w = .ok (.tuple #[.agg cs, v]) w := by
  have hp' : tmps[p]?.getD undef = .pointer (some ⟨g, 0, none⟩) := by simpa using hp
  have hp2' : tmps[q]?.getD undef = v := by simpa using hp2
  simp [results, h, hp', hp2', asAddr, run_loadVar_row w g t ty cs fr d hg hu hd hi]
def vI (xs : List Int) : Array Value := (xs.map (Value.int .u8)).toArray
theorem vI_size (xs : List Int) : (vI xs).size = xs.length := by unfold vI; simp
theorem vI_at {xs : List Int} {j : Nat} (hj : j < xs.length) : (vI xs)[j]? = some (.int .u8 (xs.getD j 0)) := by unfold vI; simp [List.getD_eq_getElem?_getD, hj]
theorem run_each {P : Program} (w : World) (d : Nat) (e : TypeId) (K : IntKind) (xs ys : Array Value) (f g : Nat → Int) (he : P.underlying e = some (.int K)) :
    ∀ is : List Nat, (∀ j ∈ is, xs[j]? = some (.int K (f j)) ∧ ys[j]? = some (.int K (g j))) → (Op.eqItems (d + 1) e 1 xs ys is).run P w = .ok (is.all fun j => f j == g j) w
  | [], _ => by simp [Op.eqItems]
  | j :: is, h => by
    obtain ⟨hx, hy⟩ := h j (by simp)
    have hagg : (isAgg e).run P w = .ok false w := by
      unfold isAgg
      rw [Sem.run_bind, run_underlying he w]
      rfl
    have hp : (part e xs (j * 1)).run P w = .ok (.int K (f j)) w := by
      rw [Nat.mul_one]
      simp [part, Sem.run_bind, hagg, hx]
    have hp2 : (part e ys (j * 1)).run P w = .ok (.int K (g j)) w := by
      rw [Nat.mul_one]
      simp [part, Sem.run_bind, hagg, hy]
    have ih := run_each w d e K xs ys f g he is fun i hi => h i (by simp [hi])
    have hq := run_equalIn_int (P := P) w d e K K (f j) (g j) he
    by_cases hfg : f j = g j
    · have hb : (f j == g j) = true := beq_iff_eq.2 hfg
      simp only [Op.eqItems, Sem.run_bind, hp, hp2, Result.andThen_ok, hq, hb, Bool.not_true, Bool.false_eq_true, if_false, ih, List.all_cons, Bool.true_and]
    · have hb : (f j == g j) = false := beq_eq_false_iff_ne.2 hfg
      simp only [Op.eqItems, Sem.run_bind, hp, hp2, Result.andThen_ok, hq, hb, Bool.not_false, if_true, Sem.run_pure, List.all_cons, Bool.false_and]
/-- an address's cells -/
structure AddrC (cs : Array Value) (six : Bool) (bs : List Int) : Prop where
  size : cs.size = 17
  six : cs[0]? = some (.bool six)
  len : bs.length = 16
  at_ : ∀ i, i < 16 → cs[1 + i]? = some (.int .u8 (bs.getD i 0))
  byte : ∀ x ∈ bs, Byte x
/-- the bytes that an address has -/
def adrN (six : Bool) : Nat := if six then 16 else 4
def adrL (six : Bool) (bs : List Int) : List Int := bs.take (adrN six)
theorem adrN_le (six : Bool) : adrN six ≤ 16 := by cases six <;> decide
theorem adrL_len {six : Bool} {bs : List Int} (h : bs.length = 16) : (adrL six bs).length = adrN six := by unfold adrL; rw [List.length_take, h]; cases six <;> rfl
theorem cell_new (w : World) (cs : Array Value) (T : TypeId) (j : Nat) : (w.alloc (.cells cs T)).cell? ⟨w.heap.size, j, none⟩ = cs[j]? := cell_of_row _ _ j cs T (0, 0) (heap_alloc_new w _)
def adrV (s : Bool) (bs : List Int) : Array Value := (Value.bool s :: bs.map (Value.int .u8)).toArray
theorem adrV_size {s : Bool} {bs : List Int} (h : bs.length = 16) : (adrV s bs).size = 17 := by unfold adrV; simp [h]
theorem adrV_six (s : Bool) (bs : List Int) : (adrV s bs)[0]? = some (.bool s) := by simp [adrV]
theorem adrV_at {s : Bool} {bs : List Int} {i : Nat} (hi : i < bs.length) : (adrV s bs)[1 + i]? = some (.int .u8 (bs.getD i 0)) := by
  unfold adrV
  rw [List.getElem?_toArray, Nat.add_comm, List.getElem?_cons_succ]
  simp [List.getD_eq_getElem?_getD, hi]
theorem adrV_one (s : Bool) (bs : List Int) : (adrV s bs).all (·.oneCell') = true := by
  rw [Array.all_eq_true_iff_forall_mem]
  intro v hv
  simp [adrV] at hv
  rcases hv with rfl | ⟨z, _, rfl⟩ <;> rfl
theorem adrV_set {s : Bool} {bs : List Int} (j : Nat) (x : Int) : (adrV s bs).setIfInBounds (1 + j) (.int .u8 x) = adrV s (bs.set j x) := by
  unfold adrV
  rw [List.setIfInBounds_toArray, Nat.add_comm, List.set_cons_succ, List.map_set]
theorem AddrC.is {C : Array Value} {s : Bool} {bs : List Int} (h : AddrC C s bs) : C = adrV s bs := by
  apply Array.ext_getElem?
  intro j
  rcases Nat.lt_or_ge j 17 with hj | hj
  · rcases Nat.eq_zero_or_pos j with rfl | h0
    · rw [h.six, adrV_six]
    · have e : j = 1 + (j - 1) := by omega
      rw [e, h.at_ _ (by omega), adrV_at (by rw [h.len]; omega)]
  · rw [Array.getElem?_eq_none (by rw [h.size]; exact hj), Array.getElem?_eq_none (by rw [adrV_size h.len]; exact hj)]
theorem agg_of {P : Program} {t : TypeId} {d : TypeDesc} (hu : P.underlying t = some d) (hd : (match d with | .struct _ | .array _ _ => true | _ => false) = true) (w : World) : (isAgg t).run P w = .ok true w := by
  unfold isAgg
  rw [Sem.run_bind, run_underlying hu w]
  cases d <;> simp_all
theorem part_agg {P : Program} {t : TypeId} {d : TypeDesc} (hu : P.underlying t = some d) (hd : (match d with | .struct _ | .array _ _ => true | _ => false) = true) {n : Nat} (hi : (P.info? t).map (·.size) = some n) (cs : Array Value) (o : Nat) (w : World) :
    (part t cs o).run P w = .ok (.agg (cs.extract o (o + n))) w := by
  cases hq : P.info? t with
  | none => simp [hq] at hi
  | some i =>
    have hs : i.size = n := by simpa [hq] using hi
    simp [part, Sem.run_bind, agg_of hu hd, Go.sizeOf, typeInfo, hq, hs]
theorem part_one {P : Program} {t : TypeId} {d : TypeDesc} (hu : P.underlying t = some d) (hd : (match d with | .struct _ | .array _ _ => true | _ => false) = false) (cs : Array Value) (o : Nat) (v : Value) (hv : cs[o]? = some v) (w : World) :
    (part t cs o).run P w = .ok v w := by
  have hagg : (isAgg t).run P w = .ok false w := by
    unfold isAgg
    rw [Sem.run_bind, run_underlying hu w]
    cases d <;> simp_all
  simp [part, Sem.run_bind, hagg, hv]
theorem adr_six (s : Bool) (bs : List Int) : (adrV s bs)[0]? = some (.bool s) := by simp [adrV]
theorem adr_bytes {s : Bool} {bs : List Int} (h : bs.length = 16) : (adrV s bs).extract 1 (1 + 16) = vI bs := by
  apply Array.toList_inj.1
  unfold adrV vI
  rw [Array.toList_extract, List.extract_eq_take_drop]
  have e : (bs.map (Value.int .u8)).take 16 = bs.map (Value.int .u8) := List.take_of_length_le (by rw [List.length_map, h]; exact Nat.le_refl _)
  simpa using e
set_option maxRecDepth 100000 in
theorem eq16I {xs ys : List Int} (hx : xs.length = 16) (hy : ys.length = 16) (d : Nat) (w : World) : (Op.equalIn (d + 1 + 1) 23 (.agg (vI xs)) (.agg (vI ys))).run Try.prog w = .ok (decide (xs = ys)) w := by
  obtain ⟨i0, hi0, hz0, hz1, hz2⟩ := info_parts byte_inf
  rw [run_equalIn_array w _ (vI xs) (vI ys) Try.underlying23 hi0, show Try.prog.cellsOf 5 = 1 by kernel_rfl,
    run_each w _ _ .u8 (vI xs) (vI ys) (fun j => xs.getD j 0) (fun j => ys.getD j 0) rfl _ fun j hj => ⟨vI_at (by rw [hx]; exact List.mem_range.1 hj), vI_at (by rw [hy]; exact List.mem_range.1 hj)⟩]
  congr 1
  by_cases h : xs = ys
  · subst h
    simp
  · rw [decide_eq_false h]
    refine Bool.eq_false_iff.2 fun h2 => h ?_
    apply List.ext_getElem?
    intro j
    by_cases hj : j < 16
    · have := List.all_eq_true.1 h2 j (List.mem_range.2 hj)
      have h3 : xs.getD j 0 = ys.getD j 0 := beq_iff_eq.1 this
      rw [List.getD_eq_getElem?_getD, List.getD_eq_getElem?_getD, List.getElem?_eq_getElem (by omega), List.getElem?_eq_getElem (by omega)] at h3
      rw [List.getElem?_eq_getElem (by omega), List.getElem?_eq_getElem (by omega)]
      exact congrArg some h3
    · rw [List.getElem?_eq_none (by omega), List.getElem?_eq_none (by omega)]
def fSix : Field := { name := "Six", type := 4, offset := 0, embedded := false, tag := "", pkgPath := "", byteOffset := 0 }
def fB : Field := { name := "B", type := 23, offset := 1, embedded := false, tag := "", pkgPath := "", byteOffset := 1 }
theorem nSix : fSix.name ≠ "_" := by show ("Six" : String) ≠ "_"; decide
theorem nB : fB.name ≠ "_" := by show ("B" : String) ≠ "_"; decide
theorem fields_addr : (Try.prog.fieldsOf 25).toList = [fSix, fB] := by
  simp [Program.fieldsOf, Try.underlying25, fSix, fB]
theorem fields_two {P : Program} {d : Nat} {xs ys : Array Value} {f1 f2 : Field} {w : World} {a1 b1 a2 b2 : Value} {r1 r2 : Bool} (n1 : f1.name ≠ "_") (n2 : f2.name ≠ "_")
    (p1 : (part f1.type xs f1.offset).run P w = .ok a1 w) (p2 : (part f1.type ys f1.offset).run P w = .ok b1 w) (p3 : (part f2.type xs f2.offset).run P w = .ok a2 w) (p4 : (part f2.type ys f2.offset).run P w = .ok b2 w)
    (q1 : (Op.equalIn d f1.type a1 b1).run P w = .ok r1 w) (q2 : (Op.equalIn d f2.type a2 b2).run P w = .ok r2 w) : (Op.eqFields d xs ys [f1, f2]).run P w = .ok (r1 && r2) w := by
  cases r1 <;> cases r2 <;> simp [Op.eqFields, n1, n2, Sem.run_bind, p1, p2, p3, p4, q1, q2]
theorem is_addr : Try.prog.underlying 25 = some (.struct (Try.prog.fieldsOf 25)) := by simp [Program.fieldsOf, Try.underlying25]
theorem held_addr : Try.prog.stoodInHeld 25 = false := by kernel_rfl
theorem eq_addr {s s' : Bool} {b b' : List Int} (h : b.length = 16) (h' : b'.length = 16) (d : Nat) (w : World) :
    (Op.equalIn (d + 1 + 1 + 1) 25 (.agg (adrV s b)) (.agg (adrV s' b'))).run Try.prog w = .ok (decide (s = s' ∧ b = b')) w := by
  rw [run_equalIn_struct w _ _ _ _ is_addr held_addr, fields_addr]
  have p1 := part_one (P := Try.prog) Try.underlying4 rfl (adrV s b) 0 _ (adr_six s b) w
  have p2 := part_one (P := Try.prog) Try.underlying4 rfl (adrV s' b') 0 _ (adr_six s' b') w
  have p3 := part_agg (P := Try.prog) Try.underlying23 rfl b16_info (adrV s b) 1 w
  have p4 := part_agg (P := Try.prog) Try.underlying23 rfl b16_info (adrV s' b') 1 w
  rw [adr_bytes h] at p3
  rw [adr_bytes h'] at p4
  have q1 := run_equalIn_bool' w (d + 1) 4 s s' Try.underlying4
  have q2 := eq16I h h' d w
  rw [fields_two (f1 := fSix) (f2 := fB) nSix nB p1 p2 p3 p4 q1 q2]
  refine congrArg (fun q => Result.ok q w) ?_
  by_cases e1 : s = s' <;> by_cases e2 : b = b' <;> simp [e1, e2]
theorem eqa (s s' : Bool) (b b' : List Int) (h : b.length = 16) (h' : b'.length = 16) (w : World) : (Op.equalIn 10000 25 (.agg (adrV s b)) (.agg (adrV s' b'))).run Try.prog w = .ok (decide (s = s' ∧ b = b')) w :=
  eq_addr h h' 9997 w
theorem guard_addr : Try.prog.eqGuardType Try.prog.depth 25 = false := by kernel_rfl
def zs (n : Nat) : List Int := List.replicate n 0
theorem zs_len (n : Nat) : (zs n).length = n := by simp [zs]
def zAdr : Array Value := adrV false (zs 16)
theorem zAdr_info : (Try.prog.info? 25).map (·.zero) = some (some (.agg zAdr)) := by kernel_rfl
theorem zeroAdr (w : World) : (zeroValue 25).run Try.prog w = .ok (.agg zAdr) w := by
  obtain ⟨i, hi, hz⟩ := Option.map_eq_some_iff.1 zAdr_info
  simp [zeroValue, typeInfo, hi, hz]
theorem built_zero : Try.prog.built 25 [] = some zAdr := by kernel_rfl
theorem wpList_zero {P : Program} {ops : Array Oper} {rest : List Oper} {o : Oper} {a : Act} {w : World} {Q : Exit → Act → World → Prop} (hg : o.guard = none) (t : TypeId) (ho : o.op = .build t #[])
    (cells : Array Value) (hf : P.built t [] = some cells)
    (h : wpList P ops Q rest (a.put o.dst (.agg cells)) w) : wpList P ops Q (o :: rest) a w := by
  refine wpList_plain hg fun _ hK => ?_
  unfold Oper.wp execOp
  have hb : (Instr.build t #[]).run P w = .ok (.agg cells) w := run_build w t _ cells hf
  simp [ho, hb, Result.andThen_ok]
  exact hK _ _ h
theorem strOf_append (xs ys : List Int) : strOfNums xs ++ strOfNums ys = strOfNums (xs ++ ys) := by
  apply ByteArray.ext
  unfold strOfNums
  rw [ByteArray.data_append]
  simp
end Go.Proofs.Ytflfkhcbkhdahaa.adC
