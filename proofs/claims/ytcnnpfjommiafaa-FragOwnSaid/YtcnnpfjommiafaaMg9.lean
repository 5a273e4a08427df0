/-
  2 texts of a proof, joined.
-/
import Derived.Test.YtcnnpfjommiafaaMg8

/-
  A table into which a packet's pieces come, in any order, with another one's between.
-/
namespace Go.Proofs.Ytcnnpfjommiafaa.fgC
open Go.Proofs.Ytcnnpfjommiafaa.pkC (Pkt)
set_option linter.unusedVariables false
section
variable {q : Pc} {id : Int} {sz N : Nat}
theorem sameN_self (p : Pkt) : sameN p p = true := by unfold sameN; exact decide_eq_true ⟨rfl, rfl, rfl, rfl, rfl, rfl⟩
theorem name_piece (i j : Nat) : sameN (pieceP q id sz i).1 (pieceP q id sz j).1 = true := by unfold sameN; exact decide_eq_true ⟨rfl, rfl, rfl, rfl, rfl, rfl⟩
theorem sameN_proto {a b : Pkt} (h : a.proto ≠ b.proto) : sameN a b = false := by unfold sameN; exact decide_eq_false fun h2 => h h2.2.2.2.2.2
/-- what the table has while pieces come: of the packet the pieces J, of another one its piece -/
def Pres (q : Pc) (id : Int) (sz : Nat) (o : Pc) (J : List Nat) (l : List (Int × List Pc)) : Prop :=
  ∃ b b' : Int, (J = [] ∧ (l = [] ∨ l = [(b', [o])])) ∨ (J ≠ [] ∧ (l = [(b, J.map fun j => pieceP q id sz (j * sz))] ∨ l = [(b, J.map fun j => pieceP q id sz (j * sz)), (b', [o])] ∨ l = [(b', [o]), (b, J.map fun j => pieceP q id sz (j * sz))]))
theorem nameT_head {J : List Nat} (hJ : J ≠ []) (b : Int) (y : Pc) : nameT y (b, J.map fun j => pieceP q id sz (j * sz)) = sameN (pieceP q id sz 0).1 y.1 := by
  cases J with
  | nil => exact absurd rfl hJ
  | cons j r => rfl
theorem addP_found {st : TSt} {y : Pc} (hm : (!mayP y || (!wholeP y && decide (y.2.length = 0))) = false) (hw : wholeP y = false) {k : Nat} (hf : st.l.findIdx? (nameT y) = some k) {x : Int × List Pc} (hg : st.l.getD k (0, []) = x) :
    addP st y = (if x.2.any (dupP y) = true then ((zPc, false, 0), st.l) else if x.2.any (badP y) = true then ((zPc, false, 3), st.l.eraseIdx k) else if 64 ≤ x.2.length then ((zPc, false, 5), st.l.eraseIdx k) else
      match joinedP (x.2 ++ [y]) with | some r => ((r, true, 0), st.l.eraseIdx k) | none => ((zPc, false, 0), st.l.set k (x.1, x.2 ++ [y])) : (Pc × Bool × Int) × List (Int × List Pc)) := by
  subst hg
  unfold addP
  rw [if_neg (by rw [hm]; decide), if_neg (by rw [hw]; decide), hf]
  rfl
theorem addP_new {st : TSt} {y : Pc} (hm : (!mayP y || (!wholeP y && decide (y.2.length = 0))) = false) (hw : wholeP y = false) (hf : st.l.findIdx? (nameT y) = none) :
    addP st y = ((zPc, false, 0), (if st.room ≤ (st.l.length : Int) then st.l.drop 1 else st.l) ++ [(st.t, [y])]) := by
  unfold addP
  rw [if_neg (by rw [hm]; decide), if_neg (by rw [hw]; decide), hf]
/-- another one's piece -/
theorem add_other (h : Cutting q id sz N) {o : Pc} (ho : o.1.proto ≠ q.1.proto) (hw : wholeP o = false) {st : TSt} (hr : 2 ≤ st.room) {J : List Nat} (hp : Pres q id sz o J st.l) : Pres q id sz o J (addP st o).2 := by
  unfold addP
  by_cases hm : (!mayP o || (!wholeP o && decide (o.2.length = 0))) = true
  · rw [if_pos hm]; exact hp
  rw [if_neg hm, hw, if_neg (by decide)]
  have hself : ∀ b : Int, nameT o (b, [o]) = true := fun b => sameN_self _
  have hoth : ∀ b : Int, J ≠ [] → nameT o (b, J.map fun j => pieceP q id sz (j * sz)) = false := fun b hJ => by
    rw [nameT_head hJ]; exact sameN_proto (Ne.symm ho)
  have hdup : [o].any (dupP o) = true := by simp [dupP]
  obtain ⟨b, b', hp⟩ := hp
  rcases hp with ⟨hJ, hl | hl⟩ | ⟨hJ, hl | hl | hl⟩
  · rw [hl]
    simp only [List.findIdx?_nil, List.length_nil]
    rw [if_neg (by omega)]
    exact ⟨b, st.t, .inl ⟨hJ, .inr (by simp)⟩⟩
  · rw [hl]
    have : List.findIdx? (nameT o) [(b', [o])] = some 0 := by simp [List.findIdx?_cons, hself]
    rw [this]
    simp only [List.getD_cons_zero, hdup, if_true]
    exact ⟨b, b', .inl ⟨hJ, .inr rfl⟩⟩
  · rw [hl]
    have : List.findIdx? (nameT o) [(b, J.map fun j => pieceP q id sz (j * sz))] = none := by simp [List.findIdx?_cons, hoth b hJ]
    rw [this]
    simp only [List.length_cons, List.length_nil]
    rw [if_neg (by omega)]
    exact ⟨b, st.t, .inr ⟨hJ, .inr (.inl (by simp))⟩⟩
  · rw [hl]
    have : List.findIdx? (nameT o) [(b, J.map fun j => pieceP q id sz (j * sz)), (b', [o])] = some 1 := by simp [List.findIdx?_cons, hoth b hJ, hself]
    rw [this]
    simp only [List.getD_cons_succ, List.getD_cons_zero, hdup, if_true]
    exact ⟨b, b', .inr ⟨hJ, .inr (.inl rfl)⟩⟩
  · rw [hl]
    have : List.findIdx? (nameT o) [(b', [o]), (b, J.map fun j => pieceP q id sz (j * sz))] = some 0 := by simp [List.findIdx?_cons, hself]
    rw [this]
    simp only [List.getD_cons_zero, hdup, if_true]
    exact ⟨b, b', .inr ⟨hJ, .inr (.inr rfl)⟩⟩
theorem any_dup (h : Cutting q id sz N) {i : Nat} (hi : i < N) {J : List Nat} (hb : ∀ j ∈ J, j < N) : (J.map fun j => pieceP q id sz (j * sz)).any (dupP (pieceP q id sz (i * sz))) = decide (i ∈ J) := by
  rw [List.any_map]
  by_cases e : i ∈ J
  · rw [decide_eq_true e]
    exact List.any_eq_true.2 ⟨i, e, by show dupP _ _ = true; rw [h.dup hi (hb i e)]; simp⟩
  · rw [decide_eq_false e]
    refine List.any_eq_false.2 fun j hj => ?_
    show ¬ dupP _ _ = true
    rw [h.dup hi (hb j hj)]
    have : i ≠ j := fun q => e (q ▸ hj)
    simp [this]
theorem any_bad (h : Cutting q id sz N) {i : Nat} (hi : i < N) {J : List Nat} (hb : ∀ j ∈ J, j < N) (hn : i ∉ J) : (J.map fun j => pieceP q id sz (j * sz)).any (badP (pieceP q id sz (i * sz))) = false := by
  rw [List.any_map]
  refine List.any_eq_false.2 fun j hj => ?_
  show ¬ badP _ _ = true
  rw [h.bad hi (hb j hj) (fun q => hn (q ▸ hj))]
  decide
/-- what is answered of a piece, and what the table has then -/
theorem add_piece (h : Cutting q id sz N) {o : Pc} (ho : o.1.proto ≠ q.1.proto) {st : TSt} (hr : 2 ≤ st.room) {J : List Nat} (hd : J.Nodup) (hb : ∀ j ∈ J, j < N) (hJN : J.length < N) (hp : Pres q id sz o J st.l) {i : Nat} (hi : i < N) :
    (i ∈ J → (addP st (pieceP q id sz (i * sz))).1 = (zPc, false, 0) ∧ Pres q id sz o J (addP st (pieceP q id sz (i * sz))).2) ∧
    (i ∉ J → (J.length + 1 < N → (addP st (pieceP q id sz (i * sz))).1 = (zPc, false, 0) ∧ Pres q id sz o (J ++ [i]) (addP st (pieceP q id sz (i * sz))).2) ∧
      (J.length + 1 = N → (addP st (pieceP q id sz (i * sz))).1 = (outP (pieceP q id sz 0) q.2, true, 0))) := by
  have h2 := h.two
  have hfew := h.few
  have hme : (!mayP (pieceP q id sz (i * sz)) || (!wholeP (pieceP q id sz (i * sz)) && decide ((pieceP q id sz (i * sz)).2.length = 0))) = false := by
    have := h.len_pos hi
    rw [h.mayc hi, decide_eq_false (by omega)]; simp
  have hso : ∀ b : Int, nameT (pieceP q id sz (i * sz)) (b, [o]) = false := fun b => sameN_proto ho
  have hsp : ∀ b : Int, J ≠ [] → nameT (pieceP q id sz (i * sz)) (b, J.map fun j => pieceP q id sz (j * sz)) = true := fun b hJ => by
    rw [nameT_head hJ]; exact name_piece _ _
  have had := any_dup h hi hb
  have hjo : i ∉ J → joinedP ((J.map fun j => pieceP q id sz (j * sz)) ++ [pieceP q id sz (i * sz)]) = if J.length + 1 = N then some (outP (pieceP q id sz 0) q.2) else none := fun hn => by
    have := joined_pieces h (J := J ++ [i]) (by rw [List.nodup_append]; exact ⟨hd, by simp, fun a ha b hb2 e => by simp at hb2; subst hb2; subst e; exact hn ha⟩) (fun j hj => by
      rcases List.mem_append.1 hj with hj | hj
      · exact hb j hj
      · simp at hj; subst hj; exact hi)
    rw [List.length_append, List.map_append] at this
    exact this
  have hl64 : (J.map fun j => pieceP q id sz (j * sz)).length = J.length := List.length_map ..
  obtain ⟨b, b', hp⟩ := hp
  have key : ∀ (k : Nat), J ≠ [] → st.l.findIdx? (nameT (pieceP q id sz (i * sz))) = some k → st.l.getD k (0, []) = (b, J.map fun j => pieceP q id sz (j * sz)) → Pres q id sz o J st.l → Pres q id sz o (J ++ [i]) (st.l.set k (b, (J ++ [i]).map fun j => pieceP q id sz (j * sz))) →
      (i ∈ J → (addP st (pieceP q id sz (i * sz))).1 = (zPc, false, 0) ∧ Pres q id sz o J (addP st (pieceP q id sz (i * sz))).2) ∧
      (i ∉ J → (J.length + 1 < N → (addP st (pieceP q id sz (i * sz))).1 = (zPc, false, 0) ∧ Pres q id sz o (J ++ [i]) (addP st (pieceP q id sz (i * sz))).2) ∧
      (J.length + 1 = N → (addP st (pieceP q id sz (i * sz))).1 = (outP (pieceP q id sz 0) q.2, true, 0))) := fun k hJ hf hg hp0 hset => by
    have ef := addP_found (st := st) hme (h.notwhole hi) hf hg
    rw [ef]
    simp only
    rw [had]
    refine ⟨fun hin => ?_, fun hn => ⟨fun hl => ?_, fun hl => ?_⟩⟩
    · rw [decide_eq_true hin, if_pos rfl]
      exact ⟨rfl, hp0⟩
    · rw [decide_eq_false hn, if_neg (by decide), any_bad h hi hb hn, if_neg (by decide), hl64, if_neg (by omega), hjo hn, if_neg (by omega)]
      refine ⟨rfl, ?_⟩
      have := hset
      rw [List.map_append] at this
      exact this
    · rw [decide_eq_false hn, if_neg (by decide), any_bad h hi hb hn, if_neg (by decide), hl64, if_neg (by omega), hjo hn, if_pos hl]
  have fresh : J = [] → st.l.findIdx? (nameT (pieceP q id sz (i * sz))) = none → st.l.length < 2 → (∀ t : Int, Pres q id sz o [i] (st.l ++ [(t, [pieceP q id sz (i * sz)])])) →
      (i ∈ J → (addP st (pieceP q id sz (i * sz))).1 = (zPc, false, 0) ∧ Pres q id sz o J (addP st (pieceP q id sz (i * sz))).2) ∧
      (i ∉ J → (J.length + 1 < N → (addP st (pieceP q id sz (i * sz))).1 = (zPc, false, 0) ∧ Pres q id sz o (J ++ [i]) (addP st (pieceP q id sz (i * sz))).2) ∧
      (J.length + 1 = N → (addP st (pieceP q id sz (i * sz))).1 = (outP (pieceP q id sz 0) q.2, true, 0))) := fun hJ hf hl4 hset => by
    subst hJ
    have ef := addP_new (st := st) hme (h.notwhole hi) hf
    rw [ef, if_neg (by omega)]
    exact ⟨fun hin => by simp at hin, fun _ => ⟨fun _ => ⟨rfl, hset st.t⟩, fun hl => by simp at hl; omega⟩⟩
  rcases hp with ⟨hJ, hl | hl⟩ | ⟨hJ, hl | hl | hl⟩
  · refine fresh hJ (by rw [hl]; rfl) (by rw [hl]; decide) fun t => ?_
    rw [hl]
    exact ⟨t, b', .inr ⟨by simp, .inl rfl⟩⟩
  · refine fresh hJ (by rw [hl]; simp [List.findIdx?_cons, hso]) (by rw [hl]; simp) fun t => ?_
    rw [hl]
    exact ⟨t, b', .inr ⟨by simp, .inr (.inr rfl)⟩⟩
  · refine key 0 hJ (by rw [hl]; simp [List.findIdx?_cons, hsp b hJ]) (by rw [hl]; rfl) (by rw [hl]; exact ⟨b, b', .inr ⟨hJ, .inl rfl⟩⟩) ?_
    rw [hl]
    exact ⟨b, b', .inr ⟨by simp, .inl rfl⟩⟩
  · refine key 0 hJ (by rw [hl]; simp [List.findIdx?_cons, hsp b hJ]) (by rw [hl]; rfl) (by rw [hl]; exact ⟨b, b', .inr ⟨hJ, .inr (.inl rfl)⟩⟩) ?_
    rw [hl]
    exact ⟨b, b', .inr ⟨by simp, .inr (.inl rfl)⟩⟩
  · refine key 1 hJ (by rw [hl]; simp [List.findIdx?_cons, hsp b hJ, hso]) (by rw [hl]; rfl) (by rw [hl]; exact ⟨b, b', .inr ⟨hJ, .inr (.inr rfl)⟩⟩) ?_
    rw [hl]
    exact ⟨b, b', .inr ⟨by simp, .inr (.inr rfl)⟩⟩
end
/-! ### nothing comes out that was not put in -/
/-- each byte stands in one of some pieces, at its place -/
def InL (l : List Pc) (load : List Int) : Prop := ∀ k, k < load.length → ∃ x ∈ l, ∃ j : Nat, x.1.off + (j : Int) = (k : Int) ∧ j < x.2.length ∧ x.2.getD j 0 = load.getD k 0
theorem in_step {l : List Pc} {load : List Int} (h : InL l load) {x : Pc} (hx : x ∈ l) (ho : x.1.off = (load.length : Int)) : InL l (load ++ x.2) := fun k hk => by
  rcases Nat.lt_or_ge k load.length with h1 | h1
  · obtain ⟨y, hy, j, a, b, c⟩ := h k h1
    refine ⟨y, hy, j, a, b, ?_⟩
    rw [c, List.getD_eq_getElem?_getD, List.getD_eq_getElem?_getD, List.getElem?_append_left h1]
  · rw [List.length_append] at hk
    refine ⟨x, hx, k - load.length, by omega, by omega, ?_⟩
    rw [List.getD_eq_getElem?_getD, List.getD_eq_getElem?_getD, List.getElem?_append_right h1]
theorem join_in (l : List Pc) : ∀ (f : Nat) (load : List Int) (first r : Pc), InL l load → (load = [] ∨ first ∈ l) → joinF l f load first = some r → InL l r.2 ∧ ∃ y ∈ l, r = outP y r.2
  | 0, load, first, r, h1, h2, h3 => by cases h3
  | f + 1, load, first, r, h1, h2, h3 => by
    unfold joinF at h3
    cases hf : l.find? (fun q => decide (q.1.off = (load.length : Int))) with
    | none => rw [hf] at h3; exact join_in l f load first r h1 h2 h3
    | some x =>
      rw [hf] at h3
      simp only at h3
      have hx := List.mem_of_find?_eq_some hf
      have ho : x.1.off = (load.length : Int) := of_decide_eq_true (List.find?_some (p := fun q : Pc => decide (q.1.off = (load.length : Int))) hf)
      have hfi : (if x.1.off = 0 then x else first) ∈ l := by
        by_cases e : x.1.off = 0
        · rw [if_pos e]; exact hx
        · rw [if_neg e]
          rcases h2 with h2 | h2
          · subst h2; exact absurd (by simpa using ho) e
          · exact h2
      have hin := in_step h1 hx ho
      by_cases hm : x.1.more = true
      · rw [if_pos hm] at h3
        exact join_in l f _ _ r hin (.inr hfi) h3
      · rw [if_neg hm] at h3
        cases h3
        exact ⟨hin, _, hfi, rfl⟩
/-- a table of packets that were put in -/
structure FromL (L : List Pc) (l : List (Int × List Pc)) : Prop where
  mem : ∀ x ∈ l, ∀ y ∈ x.2, y ∈ L
  name : ∀ x ∈ l, ∀ y ∈ x.2, ∀ z ∈ x.2, sameN y.1 z.1 = true
theorem sameN_iff {a b : Pkt} : sameN a b = true ↔ a.s = b.s ∧ a.a = b.a ∧ a.t = b.t ∧ a.b = b.b ∧ a.id = b.id ∧ a.proto = b.proto := by unfold sameN; exact decide_eq_true_iff
theorem FromL.sub {L : List Pc} {l l' : List (Int × List Pc)} (h : FromL L l) (hs : ∀ x ∈ l', x ∈ l) : FromL L l' := ⟨fun x hx => h.mem x (hs x hx), fun x hx => h.name x (hs x hx)⟩
theorem FromL.more {L : List Pc} {l : List (Int × List Pc)} (h : FromL L l) (y : Pc) : FromL (y :: L) l := ⟨fun x hx z hz => List.mem_cons_of_mem _ (h.mem x hx z hz), h.name⟩
/-- what a byte that comes out was -/
def OwnB (L : List Pc) (id : Int) (r : Pc) : Prop := ∀ k, k < r.2.length → ∃ x ∈ L, ∃ j : Nat, x.1.off + (j : Int) = (k : Int) ∧ j < x.2.length ∧ x.2.getD j 0 = r.2.getD k 0 ∧ x.1.s = r.1.s ∧ x.1.a = r.1.a ∧ x.1.t = r.1.t ∧ x.1.b = r.1.b ∧ x.1.proto = r.1.proto ∧ x.1.id = id
theorem own_add {st : TSt} {L : List Pc} (h : FromL L st.l) (y : Pc) : FromL (y :: L) (addP st y).2 ∧ ((addP st y).1.2.1 = true → OwnB (y :: L) y.1.id (addP st y).1.1) := by
  have hm := h.more y
  unfold addP
  by_cases h1 : (!mayP y || (!wholeP y && decide (y.2.length = 0))) = true
  · rw [if_pos h1]; exact ⟨hm, fun h => by cases h⟩
  rw [if_neg h1]
  by_cases h2 : wholeP y = true
  · rw [if_pos h2]
    refine ⟨hm, fun _ k hk => ?_⟩
    have ho : y.1.off = 0 := by
      unfold wholeP at h2
      simp only [Bool.and_eq_true, decide_eq_true_eq] at h2
      exact h2.1
    by_cases hs : y.1.s = true
    · rw [if_pos hs] at hk ⊢
      exact ⟨y, by simp, k, by rw [ho]; omega, hk, rfl, rfl.trans hs.symm ▸ rfl, rfl, rfl, rfl, rfl, rfl⟩
    · rw [if_neg hs] at hk ⊢
      exact ⟨y, by simp, k, by rw [ho]; omega, hk, rfl, rfl, rfl, rfl, rfl, rfl, rfl⟩
  rw [if_neg h2]
  cases hf : st.l.findIdx? (nameT y) with
  | none =>
    simp only
    refine ⟨⟨fun x hx z hz => ?_, fun x hx z hz z' hz' => ?_⟩, fun h => by cases h⟩
    · rcases List.mem_append.1 hx with hx | hx
      · refine hm.mem x ?_ z hz
        split at hx
        · exact List.mem_of_mem_drop hx
        · exact hx
      · obtain rfl := List.mem_singleton.1 hx
        obtain rfl := List.mem_singleton.1 hz
        simp
    · rcases List.mem_append.1 hx with hx | hx
      · refine hm.name x ?_ z hz z' hz'
        split at hx
        · exact List.mem_of_mem_drop hx
        · exact hx
      · obtain rfl := List.mem_singleton.1 hx
        obtain rfl := List.mem_singleton.1 hz
        obtain rfl := List.mem_singleton.1 hz'
        exact sameN_self _
  | some i =>
    simp only
    obtain ⟨hi, hn, -⟩ := List.findIdx?_eq_some_iff_getElem.1 hf
    have hx0 : st.l.getD i (0, []) = st.l[i] := by rw [List.getD_eq_getElem?_getD, List.getElem?_eq_getElem hi]; rfl
    have hmx : st.l[i] ∈ st.l := List.getElem_mem hi
    rw [hx0]
    generalize hxe : st.l[i] = x at *
    have hsn : ∀ z ∈ x.2, sameN z.1 y.1 = true := fun z hz => by
      unfold nameT at hn
      cases hc : x.2 with
      | nil => rw [hc] at hz; cases hz
      | cons z0 r =>
        rw [hc] at hn
        simp only at hn
        have h9 := h.name x hmx z hz z0 (by rw [hc]; simp)
        obtain ⟨a1, a2, a3, a4, a5, a6⟩ := sameN_iff.1 h9
        obtain ⟨b1, b2, b3, b4, b5, b6⟩ := sameN_iff.1 hn
        exact sameN_iff.2 ⟨a1.trans b1, a2.trans b2, a3.trans b3, a4.trans b4, a5.trans b5, a6.trans b6⟩
    have her : FromL (y :: L) (st.l.eraseIdx i) := hm.sub fun z hz => List.mem_of_mem_eraseIdx hz
    by_cases c1 : x.2.any (dupP y) = true
    · rw [if_pos c1]; exact ⟨hm, fun h => by cases h⟩
    rw [if_neg c1]
    by_cases c2 : x.2.any (badP y) = true
    · rw [if_pos c2]; exact ⟨her, fun h => by cases h⟩
    rw [if_neg c2]
    by_cases c3 : 64 ≤ x.2.length
    · rw [if_pos c3]; exact ⟨her, fun h => by cases h⟩
    rw [if_neg c3]
    have hall : ∀ z ∈ x.2 ++ [y], sameN z.1 y.1 = true := fun z hz => by
      rcases List.mem_append.1 hz with hz | hz
      · exact hsn z hz
      · obtain rfl := List.mem_singleton.1 hz; exact sameN_self _
    have hinL : ∀ z ∈ x.2 ++ [y], z ∈ y :: L := fun z hz => by
      rcases List.mem_append.1 hz with hz | hz
      · exact hm.mem x hmx z hz
      · obtain rfl := List.mem_singleton.1 hz; simp
    cases hj : joinedP (x.2 ++ [y]) with
    | none =>
      simp only
      refine ⟨⟨fun z hz u hu => ?_, fun z hz u hu u' hu' => ?_⟩, fun h => by cases h⟩
      · rcases List.mem_or_eq_of_mem_set hz with hz | rfl
        · exact hm.mem z hz u hu
        · exact hinL u hu
      · rcases List.mem_or_eq_of_mem_set hz with hz | rfl
        · exact hm.name z hz u hu u' hu'
        · obtain ⟨a1, a2, a3, a4, a5, a6⟩ := sameN_iff.1 (hall u hu)
          obtain ⟨b1, b2, b3, b4, b5, b6⟩ := sameN_iff.1 (hall u' hu')
          exact sameN_iff.2 ⟨a1.trans b1.symm, a2.trans b2.symm, a3.trans b3.symm, a4.trans b4.symm, a5.trans b5.symm, a6.trans b6.symm⟩
    | some r =>
      simp only
      refine ⟨her, fun _ => ?_⟩
      obtain ⟨g1, u, hu, g2⟩ := join_in _ _ _ _ r (fun k hk => by simp at hk) (.inl rfl) hj
      obtain ⟨a1, a2, a3, a4, a5, a6⟩ := sameN_iff.1 (hall u hu)
      intro k hk
      obtain ⟨z, hz, j, e1, e2, e3⟩ := g1 k hk
      obtain ⟨b1, b2, b3, b4, b5, b6⟩ := sameN_iff.1 (hall z hz)
      refine ⟨z, hinL z hz, j, e1, e2, e3, ?_⟩
      rw [g2]
      exact ⟨b1.trans a1.symm, b2.trans a2.symm, b3.trans a3.symm, b4.trans a4.symm, b6.trans a6.symm, b5⟩
end Go.Proofs.Ytcnnpfjommiafaa.fgC

/-
  How an argument that is a packet is opened.
-/
namespace Go.Proofs.Ytcnnpfjommiafaa.pkC
open Go.ChangeShapes Go.WideShapes Go.ChangeAt Go.RowKit
open Go.Proofs.Ytcnnpfjommiafaa.memC Go.Proofs.Ytcnnpfjommiafaa.genC Go.Proofs.Ytcnnpfjommiafaa.adC
set_option linter.unusedVariables false
set_option linter.constructorNameAsVariable false
theorem is_pkt : Try.prog.underlying 28 = some (.struct (Try.prog.fieldsOf 28)) := by simp [Program.fieldsOf, Try.underlying28]
theorem pkt_load : ((Try.prog.fieldsOf 28)[8]?).map (fun f => (f.type, f.offset)) = some (26, 40) := by kernel_rfl
set_option maxRecDepth 100000 in
theorem open_pkt {H : Type} {enc : TypeId × Value → H} {w : World} {base : Nat} {spare : Nat → Bool} {held : Bool} {r : Reach} {b0 : Nat} {v : Value} {d : DataW H} {ps : List MemPlace} (hsp : ∀ b, spare b = true)
    (hval : Value.okWide Try.prog w r b0 28 v) (hd : DataW.Trod enc Try.prog w base spare held 28 v d ps) :
    ∃ (p : Pkt) (A : Option Addr) (n c : Nat) (zs : List Int), v = .agg (pktV p A n c) ∧ p.Ok ∧ n ≤ c ∧ c ≤ 9223372036854775807 ∧ Nums .u8 w w.heap.size A n zs ∧ ∀ x ∈ zs, Byte x := by
  obtain ⟨f8, h8, he⟩ := Option.map_eq_some_iff.1 pkt_load
  obtain ⟨e1, e2⟩ := Prod.mk.inj he
  exact open_packet (tb := 4) (ti := 5) (t32 := 25) (tn := 3) (ts := 26) is_pkt (by kernel_rfl) h8 e1 e2 (by kernel_rfl) (by kernel_rfl) Try.underlying4 Try.underlying5 Try.underlying25 Try.underlying3 Try.underlying26 (by kernel_rfl) hsp hval hd
end Go.Proofs.Ytcnnpfjommiafaa.pkC
