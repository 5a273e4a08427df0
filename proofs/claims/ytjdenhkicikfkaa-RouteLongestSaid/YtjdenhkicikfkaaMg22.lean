/-
  1 texts of a proof, joined.
-/
import Derived.Test.YtjdenhkicikfkaaMg17
import Derived.Test.YtjdenhkicikfkaaMg18
import Derived.Test.YtjdenhkicikfkaaMg21
import Derived.Shelf.SlSortCmp.WholeK
import Derived.Sort.OwnSortedInts

/-
  Ways are sorted where they lie.
-/
namespace Go.Proofs.Ytjdenhkicikfkaa.rtC
open Go.ChangeShapes Go.WideShapes Go.ChangeAt Go.RowKit
open Go.Proofs.Ytjdenhkicikfkaa.memC Go.Proofs.Ytjdenhkicikfkaa.genC Go.Proofs.Ytjdenhkicikfkaa.butC Go.Proofs.Ytjdenhkicikfkaa.freeC Go.Proofs.Ytjdenhkicikfkaa.adC
set_option linter.unusedVariables false
abbrev WyO := {y : Wy // y.Ok}
instance : Inhabited WyO := ⟨⟨zWy, zWy_ok⟩⟩
def encO (x : WyO) : List Value := wyL x.1
def cfO (x y : WyO) : Int := ordW x.1 y.1
theorem ordW_three (y z : Wy) : ordW y z < 0 ↔ (cmpV y.s y.a z.s z.a < 0 ∨ (cmpV y.s y.a z.s z.a = 0 ∧ y.len < z.len)) := by
  unfold ordW sgnI
  split
  · rename_i h
    rw [h]
    split
    · rename_i h1; simp [h1]
    · rename_i h1
      split <;> simp [h1]
  · rename_i h
    constructor
    · intro h1; exact .inl h1
    · rintro (h1 | ⟨h1, -⟩)
      · exact h1
      · exact absurd h1 h
theorem ltO (x y : WyO) : ltOf cfO x y = decide (ordW x.1 y.1 < 0) := rfl
theorem leW_not {y z : Wy} (h : ¬ ordW z y < 0) : leW y z := by
  rw [ordW_three] at h
  have ht := cmpW_turn y.s y.a z.s z.a
  unfold leW
  omega
theorem cmpV_on (s : Bool) (a : List Int) (s' : Bool) (b : List Int) (s2 : Bool) (c : List Int) (h1 : cmpV s a s' b ≤ 0) (h2 : cmpV s' b s2 c ≤ 0) : cmpV s a s2 c ≤ 0 := by
  unfold cmpV at h1 h2 ⊢
  cases s <;> cases s' <;> cases s2 <;> simp at h1 h2 ⊢
  all_goals exact lexL_on _ _ _ h1 h2
theorem cmpV_eq (s : Bool) (a : List Int) (s' : Bool) (b : List Int) (h : cmpV s a s' b = 0) : s = s' ∧ adrL s a = adrL s' b := by
  have hs : s = s' := by
    cases q : (s == s')
    · exact absurd h (cmpW_not q _ _)
    · simpa using q
  unfold cmpV at h
  rw [if_pos hs] at h
  exact ⟨hs, lexL_zero _ _ h⟩
theorem cmpV_left (s : Bool) (a : List Int) (s' : Bool) (b : List Int) (s2 : Bool) (c : List Int) (h : cmpV s a s' b = 0) : cmpV s a s2 c = cmpV s' b s2 c := by
  obtain ⟨rfl, h2⟩ := cmpV_eq _ _ _ _ h
  unfold cmpV
  rw [h2]
theorem cmpV_right (s : Bool) (a : List Int) (s' : Bool) (b : List Int) (s2 : Bool) (c : List Int) (h : cmpV s a s' b = 0) : cmpV s2 c s a = cmpV s2 c s' b := by
  rw [cmpW_turn s' b s2 c, cmpW_turn s a s2 c, cmpV_left _ _ _ _ s2 c h]
theorem cmpV_self (s : Bool) (a : List Int) : cmpV s a s a = 0 := by
  unfold cmpV
  rw [if_pos rfl]
  exact lexL_self _
theorem swoO : Sort.SWO (ltOf cfO) where
  irrefl x := by
    rw [ltO, decide_eq_false_iff_not, ordW_three, cmpV_self]
    omega
  trans x y z h1 h2 := by
    rw [ltO, decide_eq_true_iff, ordW_three] at *
    have q := cmpV_on x.1.s x.1.a y.1.s y.1.a z.1.s z.1.a
    rcases h1 with h1 | ⟨h1, l1⟩
    · rcases h2 with h2 | ⟨h2, l2⟩
      · have q3 := q (by omega) (by omega)
        by_cases e : cmpV x.1.s x.1.a z.1.s z.1.a = 0
        · have r1 := cmpV_left _ _ _ _ y.1.s y.1.a e
          have r2 := cmpW_turn y.1.s y.1.a z.1.s z.1.a
          omega
        · omega
      · have r1 := cmpV_right _ _ _ _ x.1.s x.1.a h2
        omega
    · have r1 := cmpV_left _ _ _ _ z.1.s z.1.a h1
      omega
  ntrans x y z h1 h2 := by
    rw [ltO, decide_eq_false_iff_not, ordW_three] at *
    have t1 := cmpW_turn x.1.s x.1.a y.1.s y.1.a
    have t2 := cmpW_turn y.1.s y.1.a z.1.s z.1.a
    have t3 := cmpW_turn x.1.s x.1.a z.1.s z.1.a
    have q := cmpV_on z.1.s z.1.a y.1.s y.1.a x.1.s x.1.a
    by_cases e1 : cmpV x.1.s x.1.a y.1.s y.1.a = 0
    · have r1 := cmpV_left _ _ _ _ z.1.s z.1.a e1
      omega
    · by_cases e2 : cmpV y.1.s y.1.a z.1.s z.1.a = 0
      · have r1 := cmpV_right _ _ _ _ x.1.s x.1.a e2
        omega
      · have q3 := q (by omega) (by omega)
        by_cases e3 : cmpV x.1.s x.1.a z.1.s z.1.a = 0
        · have r1 := cmpV_left _ _ _ _ y.1.s y.1.a e3
          omega
        · omega
theorem order_grow (y z : Wy) (hy : y.Ok) (hz : z.Ok) (w : World) : Calls Try.prog 23 #[.agg (wyL y).toArray, .agg (wyL z).toArray] w fun e w' => e = .returned (.int .i64 (ordW y z)) ∧ ∃ q os', w' = Sort.grow (w.drewN q) os' :=
  (order_any y z w hy hz).mono fun e w' h => ⟨h.1, grow_of h.2.1 h.2.2⟩
theorem flatO (l : List WyO) : (Sort.flatK encO 37 l.toArray).toList = flatY (l.map (·.1)) := by
  have hok : ∀ e ∈ l.map (·.1), e.Ok := fun e he => by obtain ⟨x, -, rfl⟩ := List.mem_map.1 he; exact x.2
  have h1 : (Sort.flatK encO 37 l.toArray).toList.length = (flatY (l.map (·.1))).length := by
    rw [flatY_len hok, List.length_map, Array.length_toList, Sort.size_flatK, List.size_toArray]
  refine List.ext_getElem? fun t => ?_
  by_cases ht : t < l.length * 37
  · have h2 : t < (l.toArray.size) * 37 := by simpa using ht
    have h3 := Sort.get_flatK encO 37 l.toArray t h2
    have hi : t / 37 < l.length := by omega
    have hg : (l.map (·.1))[t / 37]? = some (l[t / 37]).1 := by rw [List.getElem?_map, List.getElem?_eq_getElem hi]; rfl
    have h4 := flatY_at hok (t / 37) _ (t % 37) hg (Nat.mod_lt _ (by omega))
    rw [show t / 37 * 37 + t % 37 = t by omega] at h4
    have hl := wyL_len (y := (l[t / 37]).1) (l[t / 37]).2
    have h5 : (wyL (l[t / 37]).1)[t % 37]? = some ((wyL (l[t / 37]).1)[t % 37]!) := by
      rw [List.getElem?_eq_getElem (by rw [hl]; exact Nat.mod_lt _ (by omega)), getElem!_pos _ _ (by rw [hl]; exact Nat.mod_lt _ (by omega))]
    rw [h4, h5, Array.getElem?_toList, Array.getElem?_eq_getElem (by rw [Sort.size_flatK]; exact h2)]
    rw [getElem!_pos _ _ (by rw [Sort.size_flatK]; exact h2)] at h3
    rw [h3]
    have h6 : (l.toArray)[t / 37]! = l[t / 37] := by rw [getElem!_pos _ _ (by simpa using hi)]; simp
    rw [h6]
    rfl
  · rw [List.getElem?_eq_none (by rw [Array.length_toList, Sort.size_flatK, List.size_toArray]; omega), List.getElem?_eq_none (by rw [flatY_len hok, List.length_map]; omega)]
set_option maxRecDepth 100000 in
set_option maxHeartbeats 4000000 in
/-- they are sorted where they lie -/
theorem sort_any (g c n : Nat) (es : List Wy) (w : World) (ho : OwnY w 0 (.slice (some ⟨g, 0, none⟩) n c) es) (hn : es.length = n) (hok : ∀ e ∈ es, e.Ok) (hl : n ≤ 1000) :
    Calls Try.prog 31 #[.slice (some ⟨g, 0, none⟩) n c, .func (.func 23) #[] #[]] w fun e w' => e = .returned (.tuple #[]) ∧ ∃ es', es'.Perm es ∧ es'.Pairwise (leW) ∧ OwnY w' 0 (.slice (some ⟨g, 0, none⟩) n c) es' ∧ w.grownBy w' (some g) := by
  obtain ⟨l, hlm⟩ : ∃ l : List WyO, l.map (·.1) = es := ⟨es.attach.map fun e => ⟨e.1, hok e.1 e.2⟩, by rw [List.map_map]; exact List.attach_map_subtype_val es⟩
  have hll : l.length = n := by rw [← hn, ← hlm, List.length_map]
  rcases ho.2 with ⟨h0, -⟩ | ⟨g', cap, cur, hv, -, hh, h1, h2, h3, h4⟩
  · cases h0
  injection hv with hv1 hv2 hv3
  injection hv1 with hv1
  injection hv1 with hv1
  subst hv1
  subst hv3
  have hfl : (flatY es).length = n * 37 := by rw [flatY_len hok, hn]
  rw [hn] at h4 h1
  have hgl := (Array.getElem?_eq_some_iff.1 hh).1
  have hH : Sort.HoldsK encO 37 w g 0 l.toArray := by
    intro j hj
    have hj' : j < n * 37 := by rw [Sort.size_flatK, List.size_toArray, hll] at hj; exact hj
    refine ⟨?_, by simp [World.frozen?, hh]⟩
    have e1 : (Sort.flatK encO 37 l.toArray)[j]? = cur[j]? := by
      rw [← Array.getElem?_toList, flatO, hlm, ← h4, List.getElem?_take_of_lt hj', Array.getElem?_toList]
    rw [Nat.zero_add, cell_of_row w g j _ _ (0, 0) hh, ← e1]
    rw [Array.getElem?_eq_getElem hj, getElem!_pos (Sort.flatK encO 37 l.toArray) j hj]
    rfl
  have eg : ∀ args w, (callFunc 23 args).run Try.prog w = .ok (.enter 23 args) w := enters_of Try.func23 (by kernel_rfl) rfl
  have hcon := Go.Proofs.AnyQ.slices_SortFunc Try.sortWy 37 Try.isAgg35 Try.sizeOf35 encO (fun x => wyL_len x.2) (fun x => wy_one x.1) cfO swoO 23 #[] g 0 c l.toArray w eg (fun _ _ _ _ x y => order_grow x.1 y.1 x.2 y.2 _) hH hgl (by rw [List.size_toArray, hll]; omega)
  rw [List.size_toArray, hll] at hcon
  refine Calls.mono hcon ?_
  rintro e w' ⟨he, d', q, os, hp, hs, rfl⟩
  obtain ⟨hp1, -, hp3⟩ := hp
  have hd : d'.size = n := by rw [hp1, List.size_toArray, hll]
  have hdl : d'.toList.length = n := by rw [Array.length_toList, hd]
  have e0 : l.toArray.extract 0 n = l.toArray := by rw [Array.extract_eq_self_of_le (by simp [hll])]
  have e1 : d'.extract 0 n = d' := by rw [Array.extract_eq_self_of_le (by rw [hd]; exact Nat.le_refl _)]
  rw [e0, e1] at hp3
  have hperm : (d'.toList.map (·.1)).Perm es := by
    have := hp3.map (fun x : WyO => x.1)
    rw [← hlm]
    exact this
  have hfd : (Sort.flatK encO 37 d').toList = flatY (d'.toList.map (·.1)) := by have := flatO d'.toList; rwa [Array.toArray_toList] at this
  refine ⟨he, d'.toList.map (·.1), hperm, ?_, ?_, ?_⟩
  · refine List.pairwise_map.2 (List.pairwise_iff_getElem.2 fun i j hi hj hij => ?_)
    have h9 := hs i j (Nat.zero_le _) hij (by omega)
    rw [ltO] at h9
    have h8 := of_decide_eq_false h9
    rw [getElem!_pos _ _ (by omega), getElem!_pos _ _ (by omega)] at h8
    simp only [Array.getElem_toList]
    exact leW_not h8
  · have hlen : (d'.toList.map (·.1)).length = n := by rw [List.length_map]; exact hdl
    have hh' : (Go.Proofs.sortWorldK encO 37 w g 0 q d' os).heap[g]? = some (.cells (Sort.putCells id 0 (Sort.flatK encO 37 d') cur) 35 (0, 0)) := by
      show (Sort.grow (Sort.putRow id (Sort.ahead w q) g 0 (Sort.flatK encO 37 d')) os).heap[g]? = _
      rw [Sort.heap_grow_old _ _ (by simpa using hgl)]
      simp [Sort.putRow, Sort.mapBlock, Sort.ahead, Array.getElem?_modify, hh, Sort.onCells]
    refine ⟨?_, .inr ⟨g, c, _, (by rw [hlen]), Nat.zero_le _, hh', by rw [hlen]; exact h1, h2, by simp [Sort.putCells, h3], ?_⟩⟩
    · rw [flatY_len (fun e he => hok e (hperm.mem_iff.1 he)), hlen]
    · rw [hlen, ← hfd]
      have hsz : (Sort.flatK encO 37 d').size = n * 37 := by rw [Sort.size_flatK, hd]
      have hcz : n * 37 ≤ cur.size := by rw [h3]; exact Nat.mul_le_mul_right _ h1
      apply List.ext_getElem?
      intro j
      by_cases hj : j < n * 37
      · rw [List.getElem?_take_of_lt hj, Array.getElem?_toList, Array.getElem?_toList]
        simp [Sort.putCells, hsz, hj, show j < cur.size by omega]
      · rw [List.getElem?_take_eq_none (by omega), List.getElem?_eq_none (by rw [Array.length_toList, hsz]; omega)]
  · refine ⟨rfl, rfl, rfl, by simp [Go.Proofs.sortWorldK, Sort.putRowK], fun k hk hne => ?_⟩
    show (Sort.grow (Sort.putRow id (Sort.ahead w q) g 0 (Sort.flatK encO 37 d')) os).heap[k]? = _
    rw [Sort.heap_grow_old _ _ (by simpa using hk)]
    have : g ≠ k := fun e => hne (by rw [e])
    simp [Sort.putRow, Sort.mapBlock, Sort.ahead, Array.getElem?_modify, this]
end Go.Proofs.Ytjdenhkicikfkaa.rtC
