/-
  2 texts of a proof, joined.
-/
import Derived.Test.YtjdenhkicikfkaaMg16
import Derived.RangeFuncSeq
import Derived.Test.YtjdenhkicikfkaaMg14
import Derived.Test.YtjdenhkicikfkaaMg1

/-
  A range over the map of ways: what has come, and the step.
-/
namespace Go.Proofs.Ytjdenhkicikfkaa.rtC
open Go.ChangeShapes Go.WideShapes Go.ChangeAt Go.RowKit
open Go.Proofs.Ytjdenhkicikfkaa.memC Go.Proofs.Ytjdenhkicikfkaa.genC Go.Proofs.Ytjdenhkicikfkaa.butC Go.Proofs.Ytjdenhkicikfkaa.freeC Go.Proofs.Ytjdenhkicikfkaa.adC
open Go.Maps (Keyed)
open Go.ChangeMaps Go.MapKept
set_option linter.unusedVariables false
def leftT (T : List (Nat × Wy)) (seen : Array Nat) : List (Nat × Wy) := T.filter fun p => !seen.contains p.1
/-- a range over the map under way: these have come -/
def RngW (w : World) (b r : Nat) (L done : List Wy) : Prop := ∃ es clock since seen c0 T, w.heap[b]? = some (.map es clock) ∧ Ents es clock T ∧ T.map (·.2) = L ∧ w.heap[r]? = some (.mapIter (some b) since seen c0) ∧ (∀ p ∈ T, p.1 < since) ∧ since ≤ c0 ∧ since ≤ clock ∧
  (done ++ (leftT T seen).map (·.2)).Perm L
theorem pick_out : ∀ {M : List (Nat × Wy)} {p : Nat × Wy}, (M.map (·.1)).Nodup → p ∈ M → M.Perm (p :: M.filter fun q => !(q.1 == p.1))
  | [], p, _, h => by cases h
  | x :: r, p, hn, h => by
    rw [List.map_cons, List.nodup_cons] at hn
    by_cases e : x.1 = p.1
    · have hx : p = x := by
        rcases List.mem_cons.1 h with h | h
        · exact h
        · exact absurd (e ▸ List.mem_map_of_mem h) hn.1
      subst hx
      rw [List.filter_cons]
      simp only [beq_self_eq_true, Bool.not_true, Bool.false_eq_true, if_false]
      rw [List.filter_eq_self.2 fun q hq => by
        have : q.1 ≠ p.1 := fun e2 => hn.1 (e2 ▸ List.mem_map_of_mem hq)
        simp [this]]
    · have hp : p ∈ r := by
        rcases List.mem_cons.1 h with h | h
        · exact absurd (by rw [h]) e
        · exact h
      rw [List.filter_cons, show (!(x.1 == p.1)) = true by simp [e], if_pos rfl]
      exact ((pick_out hn.2 hp).cons x).trans (List.Perm.swap p x _)
section
variable {w w' : World} {b r : Nat} {L done : List Wy} {es : Array MapEntry} {clock : Nat} {T : List (Nat × Wy)} {seen : Array Nat}
theorem Ents.left (h : Ents es clock T) : (leftOf es seen).toList.map eG = (leftT T seen).map tG := by
  have e1 : (leftOf es seen).toList = es.toList.filter fun e => !seen.contains e.born := by
    unfold leftOf
    rw [Array.toList_filter]
  have e2 : ∀ l : List MapEntry, (l.filter fun e => !seen.contains e.born).map eG = (l.map eG).filter fun q => !seen.contains q.2.2 := fun l => by
    rw [List.filter_map]; rfl
  have e3 : ∀ l : List (Nat × Wy), (leftT l seen).map tG = (l.map tG).filter fun q => !seen.contains q.2.2 := fun l => by
    unfold leftT
    rw [List.filter_map]; rfl
  rw [e1, e2, e3, h.eq]
theorem Ents.left_size (h : Ents es clock T) : (leftOf es seen).size = (leftT T seen).length := by
  have := congrArg List.length (h.left (seen := seen))
  rw [List.length_map, List.length_map] at this
  rw [← this, Array.length_toList]
theorem RngW.map (h : RngW w b r L done) : MapW w b L := by
  obtain ⟨es, clock, since, seen, c0, T, hb, h2, h3, -⟩ := h
  exact ⟨es, clock, T, hb, h2, h3⟩
theorem RngW.left (h : RngW w b r L done) : w.rangeLeft b r + done.length = L.length := by
  obtain ⟨es, clock, since, seen, c0, T, hb, h2, rfl, hr, -, -, -, hp⟩ := h
  simp only [World.rangeLeft, hb, hr]
  rw [h2.left_size]
  have := hp.length_eq
  rw [List.length_append, List.length_map] at this
  omega
theorem RngW.of_walks (h : RngW w b r L done) (hk : KeepsWalks w w') : RngW w' b r L done := by
  obtain ⟨es, clock, since, seen, c0, T, hb, h2, h3, hr, rest⟩ := h
  exact ⟨es, clock, since, seen, c0, T, hk.same b _ hb rfl, h2, h3, hk.same r _ hr rfl, rest⟩
theorem RngW.iter (h : RngW w b r L done) : ∃ o : Obj, w.heap[r]? = some o ∧ o.isWalk = true := by
  obtain ⟨es, clock, since, seen, c0, T, hb, h2, h3, hr, rest⟩ := h
  exact ⟨_, hr, rfl⟩
theorem RngW.lt (h : RngW w b r L done) : r < w.heap.size := by
  obtain ⟨o, ho, -⟩ := h.iter
  exact (Array.getElem?_eq_some_iff.1 ho).1
/-- 'range' -/
theorem MapW.range (h : MapW w b L) : ∃ w', (Instr.range 48 (.map (some b))).run Try.prog w = .ok (.pointer (some ⟨w.heap.size, 0, none⟩)) w' ∧ RngW w' b w.heap.size L [] ∧ w.grownBy w' none ∧ w'.heap.size = w.heap.size + 1 := by
  have hlt := h.lt
  obtain ⟨es, clock, T, hb, h2, h3⟩ := h
  refine ⟨_, run_range_map w _ _ _ b es clock Try.underlying48 hb, ⟨es, clock, clock, #[], clock, T, ((MapKept.heap_alloc w _).2 b hlt).trans hb, h2, h3, (MapKept.heap_alloc w _).1, h2.lt, Nat.le_refl _, Nat.le_refl _, ?_⟩, World.grownBy_alloc w _ none, by simp⟩
  have e : leftT T #[] = T := List.filter_eq_self.2 fun p _ => by simp
  rw [List.nil_append, e, h3]
/-- the step -/
theorem RngW.next (h : RngW w b r L done) (hne : b ≠ r) (ty : TypeId) :
    (done.Perm L ∧ (Instr.next (.pointer (some ⟨r, 0, none⟩)) false ty).run Try.prog w = .ok (.tuple #[.bool false]) w) ∨
    ∃ y w', y ∈ L ∧ (Instr.next (.pointer (some ⟨r, 0, none⟩)) false ty).run Try.prog w = .ok (.tuple #[.bool true, .agg (kyV (kyOf y)), .agg (wyV y)]) w' ∧ RngW w' b r L (done ++ [y]) ∧ w.grownBy w' (some r) ∧ w'.heap.size = w.heap.size ∧
      (Instr.entry (.pointer (some ⟨r, 0, none⟩))).run Try.prog w' = .ok (.tuple #[.agg (kyV (kyOf y)), .agg (wyV y)]) w' := by
  obtain ⟨es, clock, since, seen, c0, T, hb, h2, rfl, hr, hold, hsc, hsk, hp⟩ := h
  have hold2 : ∀ x ∈ es.toList, x.born < since := fun x hx => by
    obtain ⟨j, hj⟩ := List.mem_iff_getElem?.1 hx
    obtain ⟨p, hp, -, -, e⟩ := h2.at_ hj
    rw [e]
    exact hold p (List.mem_of_getElem? hp)
  rcases run_next_at (P := Try.prog) w ty r b since c0 seen es clock hr hb hold2 hsc with ⟨h0, hrun⟩ | ⟨e, he, w1, hal, hrun⟩
  · refine .inl ⟨?_, hrun⟩
    rw [h2.left_size] at h0
    rw [List.eq_nil_of_length_eq_zero h0, List.map_nil, List.append_nil] at hp
    exact hp
  · have hm : eG e ∈ (leftT T seen).map tG := by
      rw [← h2.left]
      exact List.mem_map_of_mem he
    obtain ⟨p, hpm, hpe⟩ := List.mem_map.1 hm
    injection hpe with q1 q2
    injection q2 with q2 q3
    have hpT : p ∈ T := (List.mem_filter.1 hpm).1
    have hr1 : w1.heap[r]? = some (.mapIter (some b) since seen c0) := by rcases hal with rfl | rfl <;> exact hr
    have hb1 : w1.heap[b]? = some (.map es clock) := by rcases hal with rfl | rfl <;> exact hb
    have hset := heap_set (o' := .mapIter (some b) since (seen.push e.born) clock) hr1
    have hb' : (setBlock w1 r (.mapIter (some b) since (seen.push e.born) clock)).heap[b]? = some (.map es clock) := (hset.2 b hne).trans hb1
    have hem : e ∈ es.toList := by
      have := (mem_left he)
      exact this.1
    have hnd : (es.toList.map (·.born)).Nodup := by
      have e1 : es.toList.map (·.born) = T.map (·.1) := by
        have := congrArg (List.map fun q : Value × Value × Nat => q.2.2) h2.eq
        rw [List.map_map, List.map_map] at this
        exact this
      rw [e1]
      exact h2.nd
    have hent := run_entry_at (P := Try.prog) _ r b since seen es clock e hset.1 hb' hem hnd
    rw [← q1, ← q2] at hrun hent
    have hfil : leftT T (seen.push e.born) = (leftT T seen).filter fun q => !(q.1 == p.1) := by
      unfold leftT
      rw [List.filter_filter]
      refine List.filter_congr fun q _ => ?_
      rw [contains_push, ← q3]
      cases seen.contains q.1 <;> cases (q.1 == p.1) <;> rfl
    have hndl : ((leftT T seen).map (·.1)).Nodup := h2.nd.sublist ((List.filter_sublist).map _)
    refine .inr ⟨p.2, _, List.mem_map_of_mem hpT, hrun, ⟨es, clock, since, seen.push e.born, clock, T, hb', h2, rfl, hset.1, hold, hsk, hsk, ?_⟩, ?_, ?_, hent⟩
    · rw [hfil, List.append_assoc]
      have := (pick_out hndl hpm).map (·.2)
      rw [List.map_cons] at this
      exact (List.Perm.append_left done this.symm).trans hp
    · rcases hal with rfl | rfl <;> exact ⟨rfl, rfl, rfl, by simp [setBlock], fun i _ hi => hset.2 i (fun e1 => hi (by rw [e1]))⟩
    · rcases hal with rfl | rfl <;> simp [setBlock]
theorem wpList_rangeW {ops : Array Oper} {rest : List Oper} {o : Oper} {a : Act} {w : World} {Q : Exit → Act → World → Prop} (hg : o.guard = none) (m : Operand) (hop : o.op = Op.range 48 m) (hm : a.eval m = .map (some b)) (h : MapW w b L)
    (hK : ∀ w', RngW w' b w.heap.size L [] → w.grownBy w' none → w'.heap.size = w.heap.size + 1 → wpList Try.prog ops Q rest (a.put o.dst (.pointer (some ⟨w.heap.size, 0, none⟩))) w') : wpList Try.prog ops Q (o :: rest) a w := by
  refine wpList_plain hg fun K' hK' => ?_
  obtain ⟨w', hrun, r1, r2, r3⟩ := h.range
  unfold Oper.wp
  simp [execOp, hop, hm, hrun, Result.andThen]
  exact hK' _ _ (hK w' r1 r2 r3)
theorem wpList_nextW {ops : Array Oper} {rest : List Oper} {o : Oper} {a : Act} {w : World} {Q : Exit → Act → World → Prop} (hg : o.guard = none) (it : Operand) (hop : o.op = Op.next it false) (hit : a.eval it = .pointer (some ⟨r, 0, none⟩)) (h : RngW w b r L done) (hne : b ≠ r)
    (hDone : done.Perm L → wpList Try.prog ops Q rest (a.put o.dst (.tuple #[.bool false])) w)
    (hMore : ∀ y w', y ∈ L → RngW w' b r L (done ++ [y]) → w.grownBy w' (some r) → w'.heap.size = w.heap.size → (Instr.entry (.pointer (some ⟨r, 0, none⟩))).run Try.prog w' = .ok (.tuple #[.agg (kyV (kyOf y)), .agg (wyV y)]) w' →
      wpList Try.prog ops Q rest (a.put o.dst (.tuple #[.bool true, .agg (kyV (kyOf y)), .agg (wyV y)])) w') : wpList Try.prog ops Q (o :: rest) a w := by
  refine wpList_plain hg fun K' hK' => ?_
  unfold Oper.wp
  rcases h.next hne o.type with ⟨hd, hrun⟩ | ⟨y, w', hy, hrun, r1, r2, r3, r4⟩
  · simp [execOp, hop, hit, hrun, Result.andThen]
    exact hK' _ _ (hDone hd)
  · simp [execOp, hop, hit, hrun, Result.andThen]
    exact hK' _ _ (hMore y w' hy r1 r2 r3 r4)
end
end Go.Proofs.Ytjdenhkicikfkaa.rtC

/-
  Rows of ways in memory; append of ways.
-/
namespace Go.Proofs.Ytjdenhkicikfkaa.rtC
open Go.ChangeShapes Go.WideShapes Go.ChangeAt Go.RowKit
open Go.Proofs.Ytjdenhkicikfkaa.memC Go.Proofs.Ytjdenhkicikfkaa.genC Go.Proofs.Ytjdenhkicikfkaa.butC Go.Proofs.Ytjdenhkicikfkaa.freeC Go.Proofs.Ytjdenhkicikfkaa.adC
set_option linter.unusedVariables false
def flatY (es : List Wy) : List Value := es.flatMap wyL
theorem flatY_len : ∀ {es : List Wy}, (∀ e ∈ es, e.Ok) → (flatY es).length = es.length * 37
  | [], _ => rfl
  | e :: r, h => by
    have ih := flatY_len (es := r) fun x hx => h x (by simp [hx])
    unfold flatY at ih ⊢
    rw [List.flatMap_cons, List.length_append, ih, wyL_len (h e (by simp)), List.length_cons, Nat.succ_mul]; omega
theorem flatY_at : ∀ {es : List Wy} (h : ∀ e ∈ es, e.Ok) (i : Nat) (e : Wy) (j : Nat), es[i]? = some e → j < 37 → (flatY es)[i * 37 + j]? = (wyL e)[j]?
  | [], h, i, e, j, he, hj => by cases he
  | f :: r, h, 0, e, j, he, hj => by
    simp at he; subst he
    unfold flatY
    rw [List.flatMap_cons, Nat.zero_mul, Nat.zero_add, List.getElem?_append_left (by rw [wyL_len (h f (by simp))]; exact hj)]
  | f :: r, h, i + 1, e, j, he, hj => by
    have hl := wyL_len (h f (by simp))
    have ih := flatY_at (es := r) (fun x hx => h x (by simp [hx])) i e j (by simpa using he) hj
    unfold flatY at ih ⊢
    rw [List.flatMap_cons, Nat.succ_mul, List.getElem?_append_right (by rw [hl]; omega), hl]
    rw [show i * 37 + 37 + j - 37 = i * 37 + j by omega]
    exact ih
theorem flatY_one (es : List Wy) : ∀ u ∈ flatY es, u.oneCell' = true := fun u hu => by
  obtain ⟨e, -, h⟩ := List.mem_flatMap.1 hu
  exact wy_one e u h
theorem flatY_append (a b : List Wy) : flatY (a ++ b) = flatY a ++ flatY b := List.flatMap_append
/-- the slice at A, of n ways, lies below block B -/
structure RowY (w : World) (B : Nat) (A : Option Addr) (n : Nat) (es : List Wy) : Prop where
  len : es.length = n
  at_ : 0 < n → ∃ b o, A = some ⟨b, o, none⟩ ∧ b < B ∧ ∀ i e, es[i]? = some e → ∀ j v, (wyL e)[j]? = some v → w.cell? ⟨b, o + i * 37 + j, none⟩ = some v
section
variable {w w' : World} {B B' : Nat} {A : Option Addr} {n : Nat} {es : List Wy}
theorem RowY.none_ : RowY w B A 0 [] := ⟨rfl, fun h => absurd h (Nat.lt_irrefl 0)⟩
theorem RowY.below (h : RowY w B A n es) (hb : Below B w w') (hB : B ≤ B') : RowY w' B' A n es :=
  ⟨h.len, fun hn => by
    obtain ⟨b, o, e, hlt, hc⟩ := h.at_ hn
    exact ⟨b, o, e, by omega, fun i f hf j v hv => (hb.cell (p := ⟨b, o + i * 37 + j, none⟩) hlt).trans (hc i f hf j v hv)⟩⟩
end
/-- the call's own row of ways -/
def OwnY (w : World) (base : Nat) (v : Value) (es : List Wy) : Prop := w.ownsRow base 35 37 v es.length (flatY es)
section
variable {w w' : World} {base B : Nat} {v : Value} {es : List Wy}
theorem OwnY.nil (w : World) (base : Nat) : OwnY w base (.slice none 0 0) [] := World.ownsRow_nil w base 35 37
theorem OwnY.blk (h : OwnY w base v es) : ∀ g, v.ownBlock = some g → base ≤ g ∧ g < w.heap.size := fun g hg => h.lt g hg
theorem OwnY.form (h : OwnY w base v es) (hok : ∀ e ∈ es, e.Ok) : ∃ A cap, v = .slice A es.length cap ∧ es.length ≤ cap ∧ cap ≤ maxLen ∧ RowY w w.heap.size A es.length es := by
  rcases h.2 with ⟨rfl, h0⟩ | ⟨g, cap, cur, rfl, hb, hh, hl, hm, hs, ht⟩
  · rw [h0]
    exact ⟨none, 0, rfl, Nat.le_refl _, by simp [maxLen], ⟨h0, fun h => absurd h (Nat.lt_irrefl 0)⟩⟩
  · refine ⟨some ⟨g, 0, none⟩, cap, rfl, hl, hm, rfl, fun hn => ⟨g, 0, rfl, (h.lt g rfl).2, fun i e he j v hv => ?_⟩⟩
    have hj : j < 37 := by
      have := (List.getElem?_eq_some_iff.1 hv).1
      rw [wyL_len (hok e (List.mem_of_getElem? he))] at this
      exact this
    have h1 := World.ownsRow.cells h (g := g) rfl (i * 37 + j) v (by rw [flatY_at hok i e j he hj]; exact hv)
    rw [memC.add_plain] at h1
    rw [show 0 + i * 37 + j = 0 + (i * 37 + j) by omega]
    exact h1
theorem OwnY.keep (h : OwnY w base v es) (hk : ∀ g, base ≤ g → g < w.heap.size → w'.heap[g]? = w.heap[g]?) : OwnY w' base v es := by
  refine ⟨h.1, ?_⟩
  rcases h.2 with h0 | ⟨g, cap, cur, rfl, hb, hh, h'⟩
  · exact .inl h0
  · exact .inr ⟨g, cap, cur, rfl, hb, (hk g hb (h.lt g rfl).2).trans hh, h'⟩
theorem OwnY.below (h : OwnY w base v es) (hb : Below w.heap.size w w') : OwnY w' base v es := h.keep fun g _ hg => hb.block g hg
theorem OwnY.less (h : OwnY w base v es) (hB : B ≤ base) : OwnY w B v es := by
  refine ⟨h.1, ?_⟩
  rcases h.2 with h0 | ⟨g, cap, cur, rfl, hb, hh, h'⟩
  · exact .inl h0
  · exact .inr ⟨g, cap, cur, rfl, Nat.le_trans hB hb, hh, h'⟩
end
theorem way_infoK : (Try.prog.info? 35).map (fun i => (i.zero, i.size, i.bytes)) = some (some (.agg (wyV zWy)), 37, 64) := by kernel_rfl
/-- append(own, ways...) -/
theorem run_appY (w : World) (base : Nat) (v : Value) (es : List Wy) (hown : OwnY w base v es) (ty : TypeId)
    (B : Nat) (A : Option Addr) (m c : Nat) (fs : List Wy) (hr : RowY w B A m fs) (hok : ∀ e ∈ fs, e.Ok) (hl : es.length + m ≤ 1000000) (hm : 0 < m) (hbase : base ≤ w.heap.size) :
    ∃ v' w', (Builtin.append_ #[39, 39] ty #[v, .slice A m c]).run Try.prog w = .ok v' w' ∧ OwnY w' base v' (es ++ fs) ∧ w.grownBy w' v.ownBlock := by
  obtain ⟨i, hi, he⟩ := Option.map_eq_some_iff.1 way_infoK
  obtain ⟨hz, he2⟩ := Prod.mk.inj he
  obtain ⟨hs, hb⟩ := Prod.mk.inj he2
  obtain ⟨b, o, rfl, hb', hc⟩ := hr.at_ hm
  have hlq := hr.len
  obtain ⟨v', w', hrun, h2, h3, _⟩ := run_append_own (P := Try.prog) w base 39 ty 35 i _ 37 64 Try.underlying39 hi hz hs hb rfl (by omega) v _ _ hown ⟨b, o, none⟩ m c (flatY fs) (by rw [flatY_len hok, hlq])
    (fun j u hu => by
      have hj : j < m * 37 := by
        have := (List.getElem?_eq_some_iff.1 hu).1
        rw [flatY_len hok, hlq] at this; exact this
      have hi2 : j / 37 < fs.length := by rw [hlq]; omega
      have hf := List.getElem?_eq_getElem hi2
      have h9 := flatY_at hok (j / 37) _ (j % 37) hf (Nat.mod_lt _ (by omega))
      have e : j / 37 * 37 + j % 37 = j := by omega
      rw [e, hu] at h9
      have := hc (j / 37) _ hf (j % 37) u h9.symm
      rw [memC.add_plain]
      rw [show o + j / 37 * 37 + j % 37 = o + j by omega] at this
      exact this) (flatY_one fs) (by simp only [maxLen]; omega) (by omega) hbase
  refine ⟨v', w', hrun, ?_, h3⟩
  unfold OwnY
  rw [List.length_append, hlq, flatY_append]
  exact h2
theorem wpList_appY {ops : Array Oper} {rest : List Oper} {o : Oper} {a : Act} {Q : Exit → Act → World → Prop} (w : World) (hgd : o.guard = none) (s x : Operand)
    (ho : o.op = .call { callee := .builtin .append, args := #[s, x], argTypes := #[39, 39] }) (base : Nat) (v : Value) (es : List Wy) (hs : a.eval s = v) (hown : OwnY w base v es) (hoke : ∀ e ∈ es, e.Ok)
    (B : Nat) (A : Option Addr) (m c : Nat) (fs : List Wy) (hx : a.eval x = .slice A m c) (hr : RowY w B A m fs) (hok : ∀ e ∈ fs, e.Ok) (hl : es.length + m ≤ 1000000) (hm : 0 < m) (hbase : base ≤ w.heap.size) (L : Nat) (hL : es.length + m = L)
    (h : ∀ A' c' w', L ≤ c' → OwnY w' base (.slice A' L c') (es ++ fs) → Below base w w' → w.grownBy w' v.ownBlock → wpList Try.prog ops Q rest (a.put o.dst (.slice A' L c')) w') : wpList Try.prog ops Q (o :: rest) a w := by
  obtain ⟨v', w', hrun, h2, h3⟩ := run_appY w base v es hown o.type B A m c fs hr hok hl hm hbase
  refine wpList_plain hgd fun K hK => ?_
  unfold Oper.wp execOp
  simp only [ho, resolve, invoke, builtin, Sem.run_bind, Sem.run_pure, Result.andThen_ok, List.map_toArray, List.map_cons, List.map_nil, hs, hx, hrun]
  refine hK _ _ ?_
  have e : (es ++ fs).length = L := by rw [List.length_append, hr.len]; exact hL
  obtain ⟨A', c', e2, g1, g2, N⟩ := h2.form (fun e he => by rcases List.mem_append.1 he with h | h; exact hoke e h; exact hok e h)
  rw [e] at e2 g1
  subst e2
  exact h A' c' w' g1 h2 (grown_below h3 hbase fun g hg => (hown.blk g hg).1) h3
/-- a row of one way that was just laid -/
theorem rowY1 {w : World} {g : Nat} {e : Wy} (hr : w.heap[g]? = some (.cells (wyL e).toArray 35 (0, 0))) : RowY w w.heap.size (some ⟨g, 0, none⟩) 1 [e] := by
  refine ⟨rfl, fun _ => ⟨g, 0, rfl, (Array.getElem?_eq_some_iff.1 hr).1, fun i f hf j v hv => ?_⟩⟩
  match i, hf with
  | 0, hf =>
    simp at hf
    subst hf
    rw [cell_of_row w g (0 + 0 * 37 + j) _ _ (0, 0) hr]
    simpa using hv
end Go.Proofs.Ytjdenhkicikfkaa.rtC
