/-
  3 texts of a proof, joined.
-/
import Derived.Test.YtmbfgolcinniiaaMg5
import Derived.Test.YtmbfgolcinniiaaMg1

/-
  Regions that draw their order, in which some operations write (as in Chd), where an operation may also know what stands until the writing one that waits for it.
-/
namespace Go.Proofs.Ytmbfgolcinniiaa.freeC
open Go.ChangeShapes Go.WideShapes Go.ChangeAt Go.RowKit
set_option linter.unusedVariables false
section
variable {P : Program} {L : List Oper} {Q : Exit → Act → World → Prop}
/-- an operation waits for the one that is i-th -/
def waitsE (o : Oper) (i : Nat) : Bool := o.after.any fun e => Region.binds .any e && (e.on == i)
theorem waitsE_done {o : Oper} {i : Nat} {m : Nat → Bool} (h : waitsE o i = true) (hd : doneB o m = true) : m i = true := by
  obtain ⟨e, he, h2⟩ := Array.any_eq_true'.1 h
  simp only [Bool.and_eq_true, beq_iff_eq] at h2
  have h3 := Array.all_eq_true'.1 hd e he
  rw [h2.1, h2.2] at h3
  simpa using h3
theorem doneB_more {o : Oper} {m : Nat → Bool} {i : Nat} (hd : doneB o m = true) : doneB o (upd m i true) = true := by
  refine Array.all_eq_true'.2 fun e he => ?_
  have h := Array.all_eq_true'.1 hd e he
  by_cases hb : Region.binds .any e = true
  · rw [hb] at h ⊢
    by_cases q : e.on = i
    · rw [q, upd_same]; simp
    · rw [upd_other _ _ q]; exact h
  · simp [hb]
/-- what is asked of an operation: of one that is no part of the chain C, that it makes memory alone; of the chain's p-th, that it leads from R p to R (p + 1) -/
def StepE (P : Program) (L : List Oper) (Q : Exit → Act → World → Prop) (tab : List (Option Nat)) (a : Act) (B : Nat) (D : World → World → Prop) (C : List Nat) (G : World → Prop) (V : Nat → Value → World → Prop) (R : Nat → (Nat → Value) → World → Prop) (i : Nat) (o : Oper) : Prop :=
  ∀ (m : Nat → Bool) us w, B ≤ w.heap.size → G w → (∀ j, j ∉ C → m j = true → V j (us j) w) → doneB o m = true →
    (i ∉ C → (∃ k, k ≤ C.length ∧ (∀ b x, C[b]? = some x → waitsE o x = true → b < k) ∧ (∀ b x o', C[b]? = some x → L[x]? = some o' → waitsE o' i = true → k ≤ b) ∧ R k us w) → if Region.wanted o (yielded L.toArray (frame tab a us).tmps) then o.wp P (frame tab a us) w (fun a' w' => ∃ v, a' = (frame tab a us).put o.dst v ∧ Below w.heap.size w w' ∧ V i v w') Q else V i undef w) ∧
    (∀ p, C[p]? = some i → R p us w → if Region.wanted o (yielded L.toArray (frame tab a us).tmps) then o.wp P (frame tab a us) w (fun a' w' => ∃ v, a' = (frame tab a us).put o.dst v ∧ (D w w' ∧ Below B w w') ∧ R (p + 1) (upd us i v) w') Q else R (p + 1) (upd us i undef) w)
theorem wp_region_che {id : Nat} {a : Act} {w : World} (hm : P.follows .mixedOrders = true) (tab : List (Option Nat)) (hb : backE L = true) (ht : slots tab L = true) (hl : tab.length = a.tmps.size)
    (us0 : Nat → Value) (ha : frame tab a us0 = a) (B : Nat) (D : World → World → Prop) (C : List Nat) (hC : links L C = true) (hnd : C.Nodup) (hin : ∀ x ∈ C, x < L.length)
    (G : World → Prop) (V : Nat → Value → World → Prop) (R : Nat → (Nat → Value) → World → Prop) (hB : B ≤ w.heap.size) (hG : G w.drew) (h0 : R 0 us0 w.drew)
    (hkG : ∀ w w', B ≤ w.heap.size → (Below w.heap.size w w' ∨ D w w') → G w → G w') (hkV : ∀ i v w w', B ≤ w.heap.size → (Below w.heap.size w w' ∨ D w w') → V i v w → V i v w')
    (hkR : ∀ k us us' w w', (∀ x ∈ C, us' x = us x) → B ≤ w.heap.size → Below w.heap.size w w' → R k us w → R k us' w')
    (hstep : AllFrom (StepE P L Q tab a B D C G V R) 0 L)
    (hend : ∀ us w, B ≤ w.heap.size → G w → (∀ i, i < L.length → i ∉ C → V i (us i) w) → R C.length us w → Q .normal (frame tab a us) w) : (Code.region id L.toArray true).wp P Q a w := by
  refine wp_region_free hm tab hb ht hl us0 ha (fun m us w => B ≤ w.heap.size ∧ G w ∧ (∀ j, j ∉ C → m j = true → V j (us j) w) ∧ ∃ k, k ≤ C.length ∧ (∀ j x, C[j]? = some x → (m x = true ↔ j < k)) ∧ (∀ x o', L[x]? = some o' → m x = true → doneB o' m = true) ∧ R k us w)
    ⟨(by simpa using hB), hG, (fun j _ h => by cases h), 0, Nat.zero_le _, (fun j x _ => by simp), (fun x o' _ h => by cases h), h0⟩ ?_ ?_
  · intro i o ho m us w' ⟨hb', hg, hv, k, hk, hcm, hcl, hr⟩ hmi hd
    have hs := all_from L 0 hstep i o ho m us w' hb' hg hv hd
    rw [Nat.zero_add] at hs
    have hcl2 : ∀ x o', L[x]? = some o' → upd m i true x = true → doneB o' (upd m i true) = true := fun x o' hx hm' => by
      by_cases q : x = i
      · subst q
        obtain rfl := Option.some.inj (ho.symm.trans hx)
        exact doneB_more hd
      · rw [upd_other _ _ q] at hm'
        exact doneB_more (hcl x o' hx hm')
    by_cases hi : i ∈ C
    · obtain ⟨p, hp⟩ := List.getElem?_of_mem hi
      have hkp : k = p := by
        have h1 : ¬ p < k := fun h => by rw [(hcm p i hp).2 h] at hmi; cases hmi
        rcases Nat.eq_zero_or_pos p with h2 | h2
        · omega
        · obtain ⟨q, rfl⟩ : ∃ q, p = q + 1 := ⟨p - 1, by omega⟩
          have hq : q < C.length := by have := (List.getElem?_eq_some_iff.1 hp).1; omega
          have e := List.getElem?_eq_getElem hq
          have := (hcm q _ e).1 (links_at hC q _ i o e hp ho m hd)
          omega
      subst hkp
      have hs2 := hs.2 k hp hr
      have hset : ∀ v w'', (w'' = w' ∨ D w' w'') → Below B w' w'' → R (k + 1) (upd us i v) w'' → B ≤ w''.heap.size ∧ G w'' ∧ (∀ j, j ∉ C → upd m i true j = true → V j (upd us i v j) w'') ∧ ∃ k, k ≤ C.length ∧ (∀ j x, C[j]? = some x → (upd m i true x = true ↔ j < k)) ∧ (∀ x o', L[x]? = some o' → upd m i true x = true → doneB o' (upd m i true) = true) ∧ R k (upd us i v) w'' := fun v w'' hd2 hb2 hr2 => by
        refine ⟨Nat.le_trans hb' hb2.size, (by rcases hd2 with rfl | hd2
                                               · exact hg
                                               · exact hkG _ _ hb' (.inr hd2) hg), fun j hj hm' => ?_, k + 1, ?_, fun j x hx => ?_, hcl2, hr2⟩
        · have hji : j ≠ i := fun e => hj (e ▸ hi)
          rw [upd_other _ _ hji] at hm' ⊢
          rcases hd2 with rfl | hd2
          · exact hv j hj hm'
          · exact hkV _ _ _ _ hb' (.inr hd2) (hv j hj hm')
        · have := (List.getElem?_eq_some_iff.1 hp).1; omega
        · by_cases hx2 : x = i
          · subst hx2
            have hjk : j = k := nodup_at hnd hx hp
            rw [upd_same]; simp [hjk]
          · rw [upd_other _ _ hx2, hcm j x hx]
            have hjk : j ≠ k := fun e => by rw [e, hp] at hx; exact hx2 (Option.some.inj hx).symm
            omega
      split
      · rename_i hw
        rw [if_pos hw] at hs2
        refine Oper.wp_mono (fun a2 w2 h2 => ?_) hs2
        obtain ⟨v, ha, ⟨hd2, hb2⟩, hr2⟩ := h2
        exact ⟨v, ha, hset v w2 (.inr hd2) hb2 hr2⟩
      · rename_i hw
        rw [if_neg hw] at hs2
        exact hset undef w' (.inl rfl) (Below.refl _ _) hs2
    · have hs1 := hs.1 hi ⟨k, hk, fun b x hx hw => (hcm b x hx).1 (waitsE_done hw hd), fun b x o' hx hox hw => by
        rcases Nat.lt_or_ge b k with h | h
        · have h1 := waitsE_done hw (hcl x o' hox ((hcm b x hx).2 h))
          rw [h1] at hmi; cases hmi
        · exact h, hr⟩
      have hset : ∀ v w'', Below w'.heap.size w' w'' → V i v w'' → B ≤ w''.heap.size ∧ G w'' ∧ (∀ j, j ∉ C → upd m i true j = true → V j (upd us i v j) w'') ∧ ∃ k, k ≤ C.length ∧ (∀ j x, C[j]? = some x → (upd m i true x = true ↔ j < k)) ∧ (∀ x o', L[x]? = some o' → upd m i true x = true → doneB o' (upd m i true) = true) ∧ R k (upd us i v) w'' := fun v w'' hb2 hv2 => by
        have hb3 := hb2.mono hb'
        refine ⟨Nat.le_trans hb' hb2.size, hkG _ _ hb' (.inl hb2) hg, fun j hj hm' => ?_, k, hk, fun j x hx => ?_, hcl2, hkR k us (upd us i v) w' w'' (fun x hx => ?_) hb' hb2 hr⟩
        · by_cases hji : j = i
          · subst hji; rw [upd_same]; exact hv2
          · rw [upd_other _ _ hji] at hm' ⊢
            exact hkV _ _ _ _ hb' (.inl hb2) (hv j hj hm')
        · have hxi : x ≠ i := fun e => hi (e ▸ List.mem_of_getElem? hx)
          rw [upd_other _ _ hxi]; exact hcm j x hx
        · have hxi : x ≠ i := fun e => hi (e ▸ hx)
          rw [upd_other _ _ hxi]
      split
      · rename_i hw
        rw [if_pos hw] at hs1
        refine Oper.wp_mono (fun a2 w2 h2 => ?_) hs1
        obtain ⟨v, ha, hb2, hv2⟩ := h2
        exact ⟨v, ha, hset v w2 hb2 hv2⟩
      · rename_i hw
        rw [if_neg hw] at hs1
        exact hset undef w' (Below.refl _ _) hs1
  · intro m us w' hm' ⟨hb', hg, hv, k, hk, hcm, hcl, hr⟩
    have hkl : k = C.length := by
      rcases Nat.lt_or_ge k C.length with h | h
      · have e := List.getElem?_eq_getElem h
        have := (hcm k _ e).1 (hm' _ (hin _ (List.getElem_mem h)))
        omega
      · omega
    subst hkl
    exact hend us w' hb' hg (fun i hi hc => hv i hc (hm' i hi)) hr
variable {o : Oper} {a : Act} {tab : List (Option Nat)} {B : Nat} {D : World → World → Prop} {C : List Nat} {G : World → Prop} {V : Nat → Value → World → Prop} {R : Nat → (Nat → Value) → World → Prop} {i : Nat}
/-- an operation that only makes memory -/
theorem stepE_val (need : List Nat) (hn : needs o need = true) (hc : (need.all fun j => !C.contains j) = true) (hi : C.contains i = false) (hg : o.guard = none)
    (h : ∀ us w, B ≤ w.heap.size → G w → (∀ j, j ∈ need → V j (us j) w) → o.wp P (frame tab a us) w (fun a' w' => ∃ v, a' = (frame tab a us).put o.dst v ∧ Below w.heap.size w w' ∧ V i v w') Q) : StepE P L Q tab a B D C G V R i o := by
  intro m us w hB hG hV hd
  have hiC : i ∉ C := fun e => by rw [List.contains_iff_mem.2 e] at hi; cases hi
  refine ⟨fun _ _ => ?_, fun p hp => absurd (List.mem_of_getElem? hp) hiC⟩
  rw [if_pos (show Region.wanted o (yielded L.toArray (frame tab a us).tmps) = true by simp [Region.wanted, hg])]
  exact h us w hB hG fun j hj => hV j (fun e => by have h1 := List.all_eq_true.1 hc j hj; rw [List.contains_iff_mem.2 e] at h1; cases h1) (need_ok hn hd j hj)
/-- .. that waits for the chain's (lo - 1)-th, and for which its hi-th waits -/
theorem stepE_early (lo hi : Nat) (hlo : lo = 0 ∨ ∃ x, C[lo - 1]? = some x ∧ waitsE o x = true) (hhi : hi = C.length ∨ ∃ x o', C[hi]? = some x ∧ L[x]? = some o' ∧ waitsE o' i = true) (need : List Nat) (hn : needs o need = true) (hc : (need.all fun j => !C.contains j) = true) (hi' : C.contains i = false) (hg : o.guard = none)
    (h : ∀ us w k, B ≤ w.heap.size → G w → (∀ j, j ∈ need → V j (us j) w) → lo ≤ k ∧ k ≤ hi → R k us w → o.wp P (frame tab a us) w (fun a' w' => ∃ v, a' = (frame tab a us).put o.dst v ∧ Below w.heap.size w w' ∧ V i v w') Q) : StepE P L Q tab a B D C G V R i o := by
  intro m us w hB hG hV hd
  have hiC : i ∉ C := fun e => by rw [List.contains_iff_mem.2 e] at hi'; cases hi'
  refine ⟨fun _ ⟨k, hkl, hk1, hk2, hr⟩ => ?_, fun p hp => absurd (List.mem_of_getElem? hp) hiC⟩
  rw [if_pos (show Region.wanted o (yielded L.toArray (frame tab a us).tmps) = true by simp [Region.wanted, hg])]
  refine h us w k hB hG (fun j hj => hV j (fun e => by have h1 := List.all_eq_true.1 hc j hj; rw [List.contains_iff_mem.2 e] at h1; cases h1) (need_ok hn hd j hj)) ⟨?_, ?_⟩ hr
  · rcases hlo with rfl | ⟨x, hx, hw⟩
    · exact Nat.zero_le _
    · have := hk1 (lo - 1) x hx hw; omega
  · rcases hhi with rfl | ⟨x, o', hx, hox, hw⟩
    · exact hkl
    · exact hk2 hi x o' hx hox hw
/-- .. behind a guard that says b, as is known -/
theorem stepE_guard (need : List Nat) (hn : needs o need = true) (hc : (need.all fun j => !C.contains j) = true) (hi : C.contains i = false) {j t : Nat} {b : Bool} (hg : o.guard = some (j, b)) (hj : j ∈ need) (hL : (L[j]?).bind (·.dst) = some t) (hl : tab.length = a.tmps.size) (ht : (tab[t]?).join = some j)
    (hv : ∀ v w, V j v w → v = .bool b)
    (h : ∀ us w, B ≤ w.heap.size → G w → (∀ j, j ∈ need → V j (us j) w) → o.wp P (frame tab a us) w (fun a' w' => ∃ v, a' = (frame tab a us).put o.dst v ∧ Below w.heap.size w w' ∧ V i v w') Q) : StepE P L Q tab a B D C G V R i o := by
  intro m us w hB hG hV hd
  have hiC : i ∉ C := fun e => by rw [List.contains_iff_mem.2 e] at hi; cases hi
  have hV2 : ∀ j, j ∈ need → V j (us j) w := fun j hj => hV j (fun e => by have h1 := List.all_eq_true.1 hc j hj; rw [List.contains_iff_mem.2 e] at h1; cases h1) (need_ok hn hd j hj)
  refine ⟨fun _ _ => ?_, fun p hp => absurd (List.mem_of_getElem? hp) hiC⟩
  have hy := yield_at (L := L) (us := us) hl hL ht (hv _ _ (hV2 j hj))
  rw [if_pos (show Region.wanted o (yielded L.toArray (frame tab a us).tmps) = true by simp [Region.wanted, hg, hy])]
  exact h us w hB hG hV2
/-- .. that is not wanted -/
theorem stepE_skip (need : List Nat) (hn : needs o need = true) (hc : (need.all fun j => !C.contains j) = true) (hi : C.contains i = false) {j t : Nat} {b : Bool} (hg : o.guard = some (j, b)) (hj : j ∈ need) (hL : (L[j]?).bind (·.dst) = some t) (hl : tab.length = a.tmps.size) (ht : (tab[t]?).join = some j)
    (hv : ∀ v w, V j v w → v = .bool !b) (h : ∀ w, V i undef w) : StepE P L Q tab a B D C G V R i o := by
  intro m us w hB hG hV hd
  have hiC : i ∉ C := fun e => by rw [List.contains_iff_mem.2 e] at hi; cases hi
  have hV2 : ∀ j, j ∈ need → V j (us j) w := fun j hj => hV j (fun e => by have h1 := List.all_eq_true.1 hc j hj; rw [List.contains_iff_mem.2 e] at h1; cases h1) (need_ok hn hd j hj)
  refine ⟨fun _ _ => ?_, fun p hp => absurd (List.mem_of_getElem? hp) hiC⟩
  have hy := yield_at (L := L) (us := us) hl hL ht (hv _ _ (hV2 j hj))
  rw [if_neg (by simp [Region.wanted, hg, hy])]
  exact h w
/-- the chain's p-th -/
theorem stepE_chain (p : Nat) (hp : C[p]? = some i) (hnd : C.Nodup) (need : List Nat) (hn : needs o need = true) (hc : (need.all fun j => !C.contains j) = true) (hg : o.guard = none)
    (h : ∀ us w, B ≤ w.heap.size → G w → (∀ j, j ∈ need → V j (us j) w) → R p us w → o.wp P (frame tab a us) w (fun a' w' => ∃ v, a' = (frame tab a us).put o.dst v ∧ (D w w' ∧ Below B w w') ∧ R (p + 1) (upd us i v) w') Q) : StepE P L Q tab a B D C G V R i o := by
  intro m us w hB hG hV hd
  refine ⟨fun hi _ => absurd (List.mem_of_getElem? hp) hi, fun q hq hr => ?_⟩
  have hqp : q = p := nodup_at hnd hq hp
  subst hqp
  rw [if_pos (show Region.wanted o (yielded L.toArray (frame tab a us).tmps) = true by simp [Region.wanted, hg])]
  exact h us w hB hG (fun j hj => hV j (fun e => by have h1 := List.all_eq_true.1 hc j hj; rw [List.contains_iff_mem.2 e] at h1; cases h1) (need_ok hn hd j hj)) hr
/-- .. behind a guard that says b, as is known -/
theorem stepE_chainG (p : Nat) (hp : C[p]? = some i) (hnd : C.Nodup) (need : List Nat) (hn : needs o need = true) (hc : (need.all fun j => !C.contains j) = true) {j t : Nat} {b : Bool} (hg : o.guard = some (j, b)) (hj : j ∈ need) (hL : (L[j]?).bind (·.dst) = some t) (hl : tab.length = a.tmps.size) (ht : (tab[t]?).join = some j)
    (hv : ∀ v w, V j v w → v = .bool b)
    (h : ∀ us w, B ≤ w.heap.size → G w → (∀ j, j ∈ need → V j (us j) w) → R p us w → o.wp P (frame tab a us) w (fun a' w' => ∃ v, a' = (frame tab a us).put o.dst v ∧ (D w w' ∧ Below B w w') ∧ R (p + 1) (upd us i v) w') Q) : StepE P L Q tab a B D C G V R i o := by
  intro m us w hB hG hV hd
  have hV2 : ∀ j, j ∈ need → V j (us j) w := fun j hj => hV j (fun e => by have h1 := List.all_eq_true.1 hc j hj; rw [List.contains_iff_mem.2 e] at h1; cases h1) (need_ok hn hd j hj)
  refine ⟨fun hi _ => absurd (List.mem_of_getElem? hp) hi, fun q hq hr => ?_⟩
  have hqp : q = p := nodup_at hnd hq hp
  subst hqp
  have hy := yield_at (L := L) (us := us) hl hL ht (hv _ _ (hV2 j hj))
  rw [if_pos (show Region.wanted o (yielded L.toArray (frame tab a us).tmps) = true by simp [Region.wanted, hg, hy])]
  exact h us w hB hG hV2 hr
end
end Go.Proofs.Ytmbfgolcinniiaa.freeC

/-
  append as an operation of a region that draws its order; literals of numbers.
-/
namespace Go.Proofs.Ytmbfgolcinniiaa.freeC
open Go.ChangeShapes Go.WideShapes Go.ChangeAt Go.RowKit
open Go.Proofs.Ytmbfgolcinniiaa.memC
set_option linter.unusedVariables false
/-- append(own, numbers...) as an operation of a region that draws its order; the operands as they are -/
theorem append_Jo {P : Program} {Q : Exit → Act → World → Prop} {R : Value → World → Prop} {fr : Act} {o : Oper} {w : World} {kd : IntKind} (s x : Operand) (t : TypeId) (ho : o.op = .call { callee := .builtin .append, args := #[s, x], argTypes := #[t, t] })
    (e : TypeId) (i : TypeInfo) (z : Value) (bytes : Nat) (ht : P.underlying t = some (.slice e)) (hi : P.info? e = some i) (hz : i.zero = some z)
    (hsize : i.size = 1) (hby : i.bytes = bytes) (hzs : z.cells.size = 1) (base : Nat) (v : Value) (xs : List Int) (hs : fr.eval s = v) (hown : Own kd e w base v xs)
    (B : Nat) (A : Option Addr) (m c : Nat) (news : List Int) (hx : fr.eval x = .slice A m c) (hr : Nums kd w B A m news) (h63 : xs.length + m ≤ maxLen) (hbytes : (xs.length + m) * bytes ≤ 140737488355328) (hbase : base ≤ w.heap.size) (L : Nat) (hL : xs.length + m = L)
    (h : ∀ A' c' w', L ≤ c' → c' ≤ maxLen → Own kd e w' base (.slice A' L c') (xs ++ news) → Below base w w' → R (.slice A' L c') w') : o.wp P fr w (fun a' w' => ∃ v, a' = fr.put o.dst v ∧ R v w') Q := by
  obtain ⟨v', w', hrun, h2, h3⟩ := run_app (P := P) w t o.type e i z bytes ht hi hz hsize hby hzs base v xs hown B A m c news hr h63 hbytes hbase
  have e : (xs ++ news).length = L := by rw [List.length_append, hr.len]; exact hL
  obtain ⟨A', c', e2, g1, g2, N⟩ := h2.form
  rw [e] at e2 g1 N
  subst e2
  unfold Oper.wp execOp
  simp only [ho, resolve, invoke, builtin, Sem.run_bind, Sem.run_pure, Result.andThen_ok, List.map_toArray, List.map_cons, List.map_nil, hs, hx, hrun]
  exact ⟨_, rfl, h A' c' w' g1 g2 h2 (grown_below h3 hbase fun g hg => (hown.blk g hg).1)⟩
theorem eval_tmp {fr : Act} {s : Nat} {v : Value} (h : fr.tmps[s]?.getD undef = v) : fr.eval (.tmp s) = v := by simpa only [Act.eval, Array.getD_eq_getD_getElem?] using h
/-- a literal of numbers, just laid -/
theorem lit_nums (k : IntKind) (w : World) (xs : List Int) (T : TypeId) (C : Array Value) (hC : C = (xs.map (Value.int k)).toArray) (n : Nat) (hn : xs.length = n) :
    Nums k (w.alloc (.cells C T)) (w.heap.size + 1) (some ⟨w.heap.size, 0, none⟩) n xs := by
  subst hC
  refine ⟨hn, fun _ => ⟨_, 0, rfl, Nat.lt_succ_self _, fun i hi => ?_⟩⟩
  have hi2 : i < xs.length := by omega
  rw [cell_of_row _ w.heap.size (0 + i) _ _ (0, 0) (heap_alloc_new w _)]
  simp [List.getD_eq_getElem?_getD, hi2]
end Go.Proofs.Ytmbfgolcinniiaa.freeC

/-
  A call that turns one block that was there, and no other.
-/
namespace Go.Proofs.Ytmbfgolcinniiaa.butC
open Go.ChangeShapes Go.WideShapes Go.ChangeAt Go.RowKit
open Go.Proofs.Ytmbfgolcinniiaa.memC Go.Proofs.Ytmbfgolcinniiaa.genC
set_option linter.unusedVariables false
/-- of the blocks that were there, block k alone may have turned -/
structure But (k : Nat) (w w' : World) : Prop where
  os : w'.os = w.os
  tape : w'.tape = w.tape
  output : w'.output = w.output
  size : w.heap.size ≤ w'.heap.size
  block : ∀ g, g < w.heap.size → g ≠ k → w'.heap[g]? = w.heap[g]?
section
variable {k B : Nat} {w w1 w2 : World}
theorem But.below (h : Below w.heap.size w w1) : But k w w1 := ⟨h.os, h.tape, h.output, h.size, fun g hg _ => h.block g hg⟩
theorem But.refl (w : World) : But k w w := But.below (Below.refl _ _)
theorem But.trans (h : But k w w1) (h' : But k w1 w2) : But k w w2 :=
  ⟨h'.os.trans h.os, h'.tape.trans h.tape, h'.output.trans h.output, Nat.le_trans h.size h'.size, fun g hg hn => (h'.block g (Nat.lt_of_lt_of_le hg h.size) hn).trans (h.block g hg hn)⟩
/-- a block that a later world alone has may turn -/
theorem But.under {k2 : Nat} (h : But k w w1) (h' : But k2 w1 w2) (hk : w.heap.size ≤ k2) : But k w w2 :=
  ⟨h'.os.trans h.os, h'.tape.trans h.tape, h'.output.trans h.output, Nat.le_trans h.size h'.size, fun g hg hn => (h'.block g (Nat.lt_of_lt_of_le hg h.size) (by omega)).trans (h.block g hg hn)⟩
theorem But.heap (h : But k w w1) (e : w2.heap = w1.heap) (e1 : w2.os = w1.os) (e2 : w2.tape = w1.tape) (e3 : w2.output = w1.output) : But k w w2 :=
  ⟨e1.trans h.os, e2.trans h.tape, e3.trans h.output, by rw [e]; exact h.size, fun g hg hn => by rw [e]; exact h.block g hg hn⟩
theorem But.alloc (h : But k w w1) (o : Obj) : But k w (w1.alloc o) := h.trans (But.below (alloc_below _ _))
theorem But.setCell (h : But k w w1) (j : Nat) (v : Value) : But k w (w1.setCell ⟨k, j, none⟩ v) :=
  ⟨h.os, h.tape, h.output, by simpa [World.setCell] using h.size, fun g hg hn => by rw [Below.heap_setCell _ _ _ _ hn]; exact h.block g hg hn⟩
/-- a store into a block that was not there -/
theorem But.fresh (h : But k w w1) {a : Addr} (ha : w.heap.size ≤ a.block) (v : Value) : But k w (w1.setCell a v) :=
  ⟨h.os, h.tape, h.output, by simpa [World.setCell] using h.size, fun g hg hn => by rw [Below.heap_setCell _ _ _ _ (by omega)]; exact h.block g hg hn⟩
theorem But.setRow (h : But k w w1) (cs : Array Value) : But k w (w1.setRow k cs) :=
  ⟨h.os, h.tape, h.output, by simpa [World.setRow] using h.size, fun g hg hn => by rw [setRow_other w1 k g cs hn]; exact h.block g hg hn⟩
theorem But.to_below (h : But k w w1) (hk : B ≤ k) (hw : B ≤ w.heap.size) : Below B w w1 :=
  ⟨h.os, h.tape, h.output, h.size, fun g hg => h.block g (by omega) (by omega)⟩
theorem But.cell (h : But k w w1) {a : Addr} (ha : a.block < w.heap.size) (hn : a.block ≠ k) : w1.cell? a = w.cell? a := World.cell?_of_block (w := w) (h.block _ ha hn)
/-- what lies in another block stands -/
def Off (A : Option Addr) (k : Nat) : Prop := ∀ a, A = some a → a.block ≠ k
theorem But.nums {K : IntKind} {A : Option Addr} {n : Nat} {xs : List Int} (h : But k w w1) (hx : Nums K w w.heap.size A n xs) (hA : 0 < n → Off A k) : Nums K w1 w1.heap.size A n xs :=
  ⟨hx.len, fun hn => by
    obtain ⟨b, o, e, hb, hc⟩ := hx.at_ hn
    exact ⟨b, o, e, Nat.lt_of_lt_of_le hb h.size, fun i hi => (h.cell (a := ⟨b, o + i, none⟩) hb (fun e2 => hA hn _ e e2)).trans (hc i hi)⟩⟩
theorem off_below {K : IntKind} {A : Option Addr} {n : Nat} {xs : List Int} (h : Nums K w B A n xs) (hk : B ≤ k) : 0 < n → Off A k := fun hn a ha => by
  obtain ⟨b, o, e, hb, _⟩ := h.at_ hn
  rw [e] at ha
  obtain rfl := Option.some.inj ha
  show b ≠ k
  omega
theorem But.arr {K : IntKind} {T : TypeId} {g : Nat} {xs : List Int} (h : But k w w1) (hx : Arr K T w g xs) (hg : g ≠ k) : Arr K T w1 g xs := ⟨by rw [h.block g hx.lt hg]; exact hx.row⟩
end
end Go.Proofs.Ytmbfgolcinniiaa.butC
