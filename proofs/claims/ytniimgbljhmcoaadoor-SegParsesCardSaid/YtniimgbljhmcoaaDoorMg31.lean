/-
  7 texts of a proof, joined.
-/
import Derived.Test.YtniimgbljhmcoaaDoorMg29
import Derived.Test.YtniimgbljhmcoaaDoorMg21
import Derived.Test.YtniimgbljhmcoaaDoorMg18
import Derived.Test.YtniimgbljhmcoaaDoorMg30
import Derived.Test.YtniimgbljhmcoaaDoorMg22
import Derived.Test.YtniimgbljhmcoaaDoorMg28
import Derived.Test.YtniimgbljhmcoaaDoorMg20
import Derived.Laws.CopyRow
import Derived.Test.YtniimgbljhmcoaaDoorMg27
import Derived.Test.YtniimgbljhmcoaaDoorMg23

/-
  The bytes of a segment over numbers, and Put of a literal.
-/
namespace Go.Proofs.YtniimgbljhmcoaaDoor.sgC
open Go.ChangeShapes Go.WideShapes Go.ChangeAt Go.RowKit
open Go.Proofs.YtniimgbljhmcoaaDoor.memC Go.Proofs.YtniimgbljhmcoaaDoor.genC Go.Proofs.YtniimgbljhmcoaaDoor.butC Go.Proofs.YtniimgbljhmcoaaDoor.freeC Go.Proofs.YtniimgbljhmcoaaDoor.adC
open Go.Proofs.YtniimgbljhmcoaaDoor.octC (numL getZ putL)
open Go.Proofs.YtniimgbljhmcoaaDoor.opC (zOpt zOpt_ok U32 psE psO mayB sizeN size_mod)
set_option linter.unusedVariables false
/-- the first sixteen bytes of a header, of options of ol bytes -/
def h16 (s : Sg) (ol : Nat) : List Int := putL (putL (putL [] 2 [s.sp, s.dp]) 4 [s.sq, s.ak] ++ [(((20 + ol) / 4 * 16 : Nat) : Int), s.fl]) 2 [s.wi]
def headS (s : Sg) (ol : Nat) (ck : Int) : List Int := putL (putL (putL [] 2 [s.sp, s.dp]) 4 [s.sq, s.ak] ++ [(((20 + ol) / 4 * 16 : Nat) : Int), s.fl]) 2 [s.wi, ck, s.ur]
def bytesS (s : Sg) (xs : List Int) (ck : Int) : List Int := headS s (opC.layL s.op).length ck ++ (opC.layL s.op ++ xs)
theorem headS_16 (s : Sg) (ol : Nat) (ck : Int) : headS s ol ck = h16 s ol ++ (numL 2 ck ++ numL 2 s.ur) := by
  unfold headS h16 putL
  simp [List.flatMap_cons]
theorem h16_len (s : Sg) (ol : Nat) : (h16 s ol).length = 16 := by
  unfold h16 putL
  simp [List.flatMap_cons, opC.numL_len]
theorem headS_len (s : Sg) (ol : Nat) (ck : Int) : (headS s ol ck).length = 20 := by
  rw [headS_16, List.length_append, List.length_append, h16_len, opC.numL_len, opC.numL_len]
theorem bytesS_len (s : Sg) (xs : List Int) (ck : Int) : (bytesS s xs ck).length = 20 + (opC.layL s.op).length + xs.length := by
  unfold bytesS
  rw [List.length_append, headS_len, List.length_append]
  omega
theorem numL2 {x : Int} (h0 : 0 ≤ x) (h1 : x ≤ 65535) : numL 2 x = [x / 256, x % 256] := by
  have e : numL 2 x = [x / 256 % 256, x % 256] := by simp [octC.numL, octC.byteAt]
  rw [e, show x / 256 % 256 = x / 256 by omega]
/-- the check sum, laid into its place -/
theorem bytesS_ck (s : Sg) (xs : List Int) {ck : Int} (h0 : 0 ≤ ck) (h1 : ck ≤ 65535) : (bytesS s xs 0).take 16 ++ [ck / 256, ck % 256] ++ (bytesS s xs 0).drop (16 + 2) = bytesS s xs ck := by
  unfold bytesS
  rw [headS_16, headS_16, ← numL2 h0 h1]
  have hl := h16_len s (opC.layL s.op).length
  have hn := opC.numL_len 2 0
  generalize h16 s (opC.layL s.op).length = H at *
  generalize numL 2 0 = N0 at *
  generalize numL 2 s.ur = U at *
  generalize numL 2 ck = K at *
  have t1 : (H ++ (N0 ++ U) ++ (opC.layL s.op ++ xs)).take 16 = H := by
    rw [List.append_assoc]; exact List.take_left' hl
  have t2 : (H ++ (N0 ++ U) ++ (opC.layL s.op ++ xs)).drop (16 + 2) = U ++ (opC.layL s.op ++ xs) := by
    rw [show H ++ (N0 ++ U) ++ (opC.layL s.op ++ xs) = (H ++ N0) ++ (U ++ (opC.layL s.op ++ xs)) by simp]
    exact List.drop_left' (by rw [List.length_append, hl, hn])
  rw [t1, t2]
  simp
theorem putL_byte {bs : List Int} (h : ∀ x ∈ bs, Byte x) (s : Nat) (ns : List Int) : ∀ y ∈ putL bs s ns, Byte y := kdC.putL_byte h s ns
theorem headS_byte {s : Sg} (hs : s.Ok) {ol : Nat} (hl : ol ≤ 40) (ck : Int) : ∀ x ∈ headS s ol ck, Byte x := by
  unfold headS
  refine putL_byte (fun x hx => ?_) _ _
  rcases List.mem_append.1 hx with h | h
  · exact putL_byte (putL_byte (by simp) _ _) _ _ x h
  · simp at h
    rcases h with rfl | rfl
    · unfold Byte; omega
    · exact hs.fl
theorem bytesS_byte {s : Sg} (hs : s.Ok) (hm : mayB s.op = true) {xs : List Int} (hx : ∀ x ∈ xs, Byte x) (ck : Int) : ∀ x ∈ bytesS s xs ck, Byte x := by
  have hl : (opC.layL s.op).length ≤ 40 := by rw [opC.lay_len hs.op.lm]; simp only [mayB, Bool.and_eq_true, decide_eq_true_eq] at hm; exact hm.2.2.2
  unfold bytesS
  intro x h
  rcases List.mem_append.1 h with h | h
  · exact headS_byte hs hl ck x h
  · rcases List.mem_append.1 h with h | h
    · unfold opC.layL at h
      rcases List.mem_append.1 h with h | h
      · rw [← opC.preL_all] at h; exact opC.preL_byte hs.op (Nat.le_refl 6) x h
      · rw [List.eq_of_mem_replicate h]; unfold Byte; omega
    · exact hx x h
/-- the check sum of a segment -/
def ckS (s1 s2 : Bool) (b1 b2 : List Int) (s : Sg) (xs : List Int) : Int := 65535 - chkM.fo (chkM.wsum (pseL s1 s2 b1 b2 6 ((bytesS s xs 0).length : Nat)) + chkM.wsum (bytesS s xs 0))
theorem ckS_bd (s1 s2 : Bool) (b1 b2 : List Int) (s : Sg) (xs : List Int) : 0 ≤ ckS s1 s2 b1 b2 s xs ∧ ckS s1 s2 b1 b2 s xs ≤ 65535 := by
  unfold ckS
  have := chkM.fo_bd (chkM.wsum (pseL s1 s2 b1 b2 6 ((bytesS s xs 0).length : Nat)) + chkM.wsum (bytesS s xs 0))
  omega
def laysE (s : Sg) (m : Nat) : Int := if mayS s m = true then 0 else 1
def laysL (s1 s2 : Bool) (b1 b2 : List Int) (s : Sg) (xs : List Int) : List Int := if mayS s xs.length = true then bytesS s xs (ckS s1 s2 b1 b2 s xs) else []
/-- numbers put behind bytes, the numbers a literal -/
def PutR (w : World) (N : Nat) (T : List Int) (e : Ending) (w' : World) : Prop := ∃ A c, e = .returned (.slice A N c) ∧ Own .u8 5 w' w.heap.size (.slice A N c) T ∧ kdC.Key w' A N c T ∧ Below w.heap.size w w'
theorem put_lit (w : World) {A : Option Addr} {n c : Nat} {bs : List Int} (hb : kdC.Key w A n c bs) (ns : List Int) (C : Array Value) (k : Nat) (s : Nat) (z : Int) (N : Nat) (T : List Int) (hC : C = (ns.map (Value.int .u64)).toArray) (hk : ns.length = k) (hz : (s : Int) = z) (hs : s ≤ 8) (hn : n ≤ 3000) (hm : k ≤ 300) (hT : putL bs s ns = T) (hN : T.length = N) :
    Calls Tryd.prog 30 #[.slice A n c, .int .i64 z, .slice (some ⟨w.heap.size, 0, none⟩) k k] (w.alloc (.cells C 60)) (PutR w N T) := by
  have B := alloc_below w (.cells C 60)
  refine (kdC.put_key (bs := bs) (ns := ns) s z N T hz hs (hb.below B) (pkC.row_nums .u64 (xs := ns) (heap_alloc_new w _) hC k hk) hn hm hT hN).mono fun e w' ⟨A', c', h1, h2, h3, h4⟩ => ⟨A', c', h1, h2.less B.size, h3, B.trans (h4.mono B.size)⟩
theorem rput_lit (w : World) {A : Option Addr} {n c : Nat} {bs : List Int} (hb : kdC.Key w A n c bs) (ns : List Int) (C : Array Value) (k : Nat) (s : Nat) (z : Int) (N : Nat) (T : List Int) (hC : C = (ns.map (Value.int .u64)).toArray) (hk : ns.length = k) (hz : (s : Int) = z) (hs : s ≤ 8) (hn : n ≤ 3000) (hm : k ≤ 300) (hT : putL bs s ns = T) (hN : T.length = N) :
    Calls Tryd.prog 67 #[.slice A n c, .int .i64 z, .slice (some ⟨w.heap.size, 0, none⟩) k k] (w.alloc (.cells C 60)) (PutR w N T) := by
  have B := alloc_below w (.cells C 60)
  refine (kdC.rput_key (bs := bs) (ns := ns) s z N T hz hs (hb.below B) (pkC.row_nums .u64 (xs := ns) (heap_alloc_new w _) hC k hk) (by omega) hm hT hN).mono fun e w' ⟨A', c', h1, h2, h3, h4⟩ => ⟨A', c', h1, h2.less B.size, h3, B.trans (h4.mono B.size)⟩
theorem key_none (w : World) : kdC.Key w none 0 0 [] := ⟨Nums.none_ 0, (by simp), Nat.le_refl _, Nat.zero_le _⟩
end Go.Proofs.YtniimgbljhmcoaaDoor.sgC

/-
  A region of any order with a chain: an operation may be waited for by way of another.
-/
namespace Go.Proofs.YtniimgbljhmcoaaDoor.freeC
open Go.ChangeShapes Go.WideShapes Go.RowKit
section
variable {P : Program} {L : List Oper} {Q : Exit → Act → World → Prop}
/-- an operation waits for the i-th, or for one that does -/
def waits2 (L : List Oper) (o : Oper) (i : Nat) : Bool := waitsE o i || o.after.any fun e => Region.binds .any e && (match L[e.on]? with | some y => waitsE y i | none => false)
/-- what is asked of an operation: of one that is no part of the chain C, that it makes memory alone; of the chain's p-th, that it leads from R p to R (p + 1) -/
def StepF (P : Program) (L : List Oper) (Q : Exit → Act → World → Prop) (tab : List (Option Nat)) (a : Act) (B : Nat) (D : World → World → Prop) (C : List Nat) (G : World → Prop) (V : Nat → Value → World → Prop) (R : Nat → (Nat → Value) → World → Prop) (i : Nat) (o : Oper) : Prop :=
  ∀ (m : Nat → Bool) us w, B ≤ w.heap.size → G w → (∀ j, j ∉ C → m j = true → V j (us j) w) → doneB o m = true →
    (i ∉ C → (∃ k, k ≤ C.length ∧ (∀ b x, C[b]? = some x → waitsE o x = true → b < k) ∧ (∀ b x o', C[b]? = some x → L[x]? = some o' → waits2 L o' i = true → k ≤ b) ∧ R k us w) → if Region.wanted o (yielded L.toArray (frame tab a us).tmps) then o.wp P (frame tab a us) w (fun a' w' => ∃ v, a' = (frame tab a us).put o.dst v ∧ Below w.heap.size w w' ∧ V i v w') Q else V i undef w) ∧
    (∀ p, C[p]? = some i → R p us w → if Region.wanted o (yielded L.toArray (frame tab a us).tmps) then o.wp P (frame tab a us) w (fun a' w' => ∃ v, a' = (frame tab a us).put o.dst v ∧ (D w w' ∧ Below B w w') ∧ R (p + 1) (upd us i v) w') Q else R (p + 1) (upd us i undef) w)
theorem wp_region_chf {id : Nat} {a : Act} {w : World} (hm : P.follows .mixedOrders = true) (tab : List (Option Nat)) (hb : backE L = true) (ht : slots tab L = true) (hl : tab.length = a.tmps.size)
    (us0 : Nat → Value) (ha : frame tab a us0 = a) (B : Nat) (D : World → World → Prop) (C : List Nat) (hC : links L C = true) (hnd : C.Nodup) (hin : ∀ x ∈ C, x < L.length)
    (G : World → Prop) (V : Nat → Value → World → Prop) (R : Nat → (Nat → Value) → World → Prop) (hB : B ≤ w.heap.size) (hG : G w.drew) (h0 : R 0 us0 w.drew)
    (hkG : ∀ w w', B ≤ w.heap.size → (Below w.heap.size w w' ∨ D w w') → G w → G w') (hkV : ∀ i v w w', B ≤ w.heap.size → (Below w.heap.size w w' ∨ D w w') → V i v w → V i v w')
    (hkR : ∀ k us us' w w', (∀ x ∈ C, us' x = us x) → B ≤ w.heap.size → Below w.heap.size w w' → R k us w → R k us' w')
    (hstep : AllFrom (StepF P L Q tab a B D C G V R) 0 L)
    (hend : ∀ us w, B ≤ w.heap.size → G w → (∀ i, i < L.length → i ∉ C → V i (us i) w) → R C.length us w → Q .normal (frame tab a us) w) : (Code.region id L.toArray true).wp P Q a w := by
  refine wp_region_free hm tab hb ht hl us0 ha (fun m us w => B ≤ w.heap.size ∧ G w ∧ (∀ j, j ∉ C → m j = true → V j (us j) w) ∧ ∃ k, k ≤ C.length ∧ (∀ j x, C[j]? = some x → (m x = true ↔ j < k)) ∧ (∀ x o', L[x]? = some o' → m x = true → doneB o' m = true) ∧ R k us w)
    ⟨(by simpa using hB), hG, (fun j _ h => by cases h), 0, Nat.zero_le _, (fun j x _ => by simp), (fun x o' _ h => by cases h), h0⟩ ?_ ?_
  · intro i o ho m us w' ⟨hb', hg, hv, k, hk, hcm, hcl, hr⟩ hmi hd
    have hs := all_from L 0 hstep i o ho m us w' hb' hg hv hd
    rw [Nat.zero_add] at hs
    have hcl2 : ∀ x o', L[x]? = some o' → upd m i true x = true → doneB o' (upd m i true) = true := fun x o' hx hm' => by
      by_cases q : x = i
      · subst q
        obtain rfl := Option.some.inj (ho.symm.trans hx)
        exact doneB_more hd
      · rw [upd_other _ _ q] at hm'
        exact doneB_more (hcl x o' hx hm')
    by_cases hi : i ∈ C
    · obtain ⟨p, hp⟩ := List.getElem?_of_mem hi
      have hkp : k = p := by
        have h1 : ¬ p < k := fun h => by rw [(hcm p i hp).2 h] at hmi; cases hmi
        rcases Nat.eq_zero_or_pos p with h2 | h2
        · omega
        · obtain ⟨q, rfl⟩ : ∃ q, p = q + 1 := ⟨p - 1, by omega⟩
          have hq : q < C.length := by have := (List.getElem?_eq_some_iff.1 hp).1; omega
          have e := List.getElem?_eq_getElem hq
          have := (hcm q _ e).1 (links_at hC q _ i o e hp ho m hd)
          omega
      subst hkp
      have hs2 := hs.2 k hp hr
      have hset : ∀ v w'', (w'' = w' ∨ D w' w'') → Below B w' w'' → R (k + 1) (upd us i v) w'' → B ≤ w''.heap.size ∧ G w'' ∧ (∀ j, j ∉ C → upd m i true j = true → V j (upd us i v j) w'') ∧ ∃ k, k ≤ C.length ∧ (∀ j x, C[j]? = some x → (upd m i true x = true ↔ j < k)) ∧ (∀ x o', L[x]? = some o' → upd m i true x = true → doneB o' (upd m i true) = true) ∧ R k (upd us i v) w'' := fun v w'' hd2 hb2 hr2 => by
        refine ⟨Nat.le_trans hb' hb2.size, (by rcases hd2 with rfl | hd2
                                               · exact hg
                                               · exact hkG _ _ hb' (.inr hd2) hg), fun j hj hm' => ?_, k + 1, ?_, fun j x hx => ?_, hcl2, hr2⟩
        · have hji : j ≠ i := fun e => hj (e ▸ hi)
          rw [upd_other _ _ hji] at hm' ⊢
          rcases hd2 with rfl | hd2
          · exact hv j hj hm'
          · exact hkV _ _ _ _ hb' (.inr hd2) (hv j hj hm')
        · have := (List.getElem?_eq_some_iff.1 hp).1; omega
        · by_cases hx2 : x = i
          · subst hx2
            have hjk : j = k := nodup_at hnd hx hp
            rw [upd_same]; simp [hjk]
          · rw [upd_other _ _ hx2, hcm j x hx]
            have hjk : j ≠ k := fun e => by rw [e, hp] at hx; exact hx2 (Option.some.inj hx).symm
            omega
      split
      · rename_i hw
        rw [if_pos hw] at hs2
        refine Oper.wp_mono (fun a2 w2 h2 => ?_) hs2
        obtain ⟨v, ha, ⟨hd2, hb2⟩, hr2⟩ := h2
        exact ⟨v, ha, hset v w2 (.inr hd2) hb2 hr2⟩
      · rename_i hw
        rw [if_neg hw] at hs2
        exact hset undef w' (.inl rfl) (Below.refl _ _) hs2
    · have hs1 := hs.1 hi ⟨k, hk, fun b x hx hw => (hcm b x hx).1 (waitsE_done hw hd), fun b x o' hx hox hw => by
        rcases Nat.lt_or_ge b k with h | h
        · have hdo := hcl x o' hox ((hcm b x hx).2 h)
          unfold waits2 at hw
          rcases Bool.or_eq_true_iff.1 hw with hw | hw
          · have h1 := waitsE_done hw hdo
            rw [h1] at hmi; cases hmi
          · obtain ⟨e, he, h2⟩ := Array.any_eq_true'.1 hw
            simp only [Bool.and_eq_true] at h2
            have h3 := Array.all_eq_true'.1 hdo e he
            rw [h2.1] at h3
            have h4 := h2.2
            split at h4
            · rename_i y hy
              have h5 := waitsE_done h4 (hcl e.on y hy (by simpa using h3))
              rw [h5] at hmi; cases hmi
            · cases h4
        · exact h, hr⟩
      have hset : ∀ v w'', Below w'.heap.size w' w'' → V i v w'' → B ≤ w''.heap.size ∧ G w'' ∧ (∀ j, j ∉ C → upd m i true j = true → V j (upd us i v j) w'') ∧ ∃ k, k ≤ C.length ∧ (∀ j x, C[j]? = some x → (upd m i true x = true ↔ j < k)) ∧ (∀ x o', L[x]? = some o' → upd m i true x = true → doneB o' (upd m i true) = true) ∧ R k (upd us i v) w'' := fun v w'' hb2 hv2 => by
        have hb3 := hb2.mono hb'
        refine ⟨Nat.le_trans hb' hb2.size, hkG _ _ hb' (.inl hb2) hg, fun j hj hm' => ?_, k, hk, fun j x hx => ?_, hcl2, hkR k us (upd us i v) w' w'' (fun x hx => ?_) hb' hb2 hr⟩
        · by_cases hji : j = i
          · subst hji; rw [upd_same]; exact hv2
          · rw [upd_other _ _ hji] at hm' ⊢
            exact hkV _ _ _ _ hb' (.inl hb2) (hv j hj hm')
        · have hxi : x ≠ i := fun e => hi (e ▸ List.mem_of_getElem? hx)
          rw [upd_other _ _ hxi]; exact hcm j x hx
        · have hxi : x ≠ i := fun e => hi (e ▸ hx)
          rw [upd_other _ _ hxi]
      split
      · rename_i hw
        rw [if_pos hw] at hs1
        refine Oper.wp_mono (fun a2 w2 h2 => ?_) hs1
        obtain ⟨v, ha, hb2, hv2⟩ := h2
        exact ⟨v, ha, hset v w2 hb2 hv2⟩
      · rename_i hw
        rw [if_neg hw] at hs1
        exact hset undef w' (Below.refl _ _) hs1
  · intro m us w' hm' ⟨hb', hg, hv, k, hk, hcm, hcl, hr⟩
    have hkl : k = C.length := by
      rcases Nat.lt_or_ge k C.length with h | h
      · have e := List.getElem?_eq_getElem h
        have := (hcm k _ e).1 (hm' _ (hin _ (List.getElem_mem h)))
        omega
      · omega
    subst hkl
    exact hend us w' hb' hg (fun i hi hc => hv i hc (hm' i hi)) hr
variable {o : Oper} {a : Act} {tab : List (Option Nat)} {B : Nat} {D : World → World → Prop} {C : List Nat} {G : World → Prop} {V : Nat → Value → World → Prop} {R : Nat → (Nat → Value) → World → Prop} {i : Nat}
/-- an operation that only makes memory -/
theorem stepF_val (need : List Nat) (hn : needs o need = true) (hc : (need.all fun j => !C.contains j) = true) (hi : C.contains i = false) (hg : o.guard = none)
    (h : ∀ us w, B ≤ w.heap.size → G w → (∀ j, j ∈ need → V j (us j) w) → o.wp P (frame tab a us) w (fun a' w' => ∃ v, a' = (frame tab a us).put o.dst v ∧ Below w.heap.size w w' ∧ V i v w') Q) : StepF P L Q tab a B D C G V R i o := by
  intro m us w hB hG hV hd
  have hiC : i ∉ C := fun e => by rw [List.contains_iff_mem.2 e] at hi; cases hi
  refine ⟨fun _ _ => ?_, fun p hp => absurd (List.mem_of_getElem? hp) hiC⟩
  rw [if_pos (show Region.wanted o (yielded L.toArray (frame tab a us).tmps) = true by simp [Region.wanted, hg])]
  exact h us w hB hG fun j hj => hV j (fun e => by have h1 := List.all_eq_true.1 hc j hj; rw [List.contains_iff_mem.2 e] at h1; cases h1) (need_ok hn hd j hj)
/-- .. that waits for the chain's (lo - 1)-th, and for which its hi-th waits -/
theorem stepF_early (lo hi : Nat) (hlo : lo = 0 ∨ ∃ x, C[lo - 1]? = some x ∧ waitsE o x = true) (hhi : hi = C.length ∨ ∃ x o', C[hi]? = some x ∧ L[x]? = some o' ∧ waits2 L o' i = true) (need : List Nat) (hn : needs o need = true) (hc : (need.all fun j => !C.contains j) = true) (hi' : C.contains i = false) (hg : o.guard = none)
    (h : ∀ us w k, B ≤ w.heap.size → G w → (∀ j, j ∈ need → V j (us j) w) → lo ≤ k ∧ k ≤ hi → R k us w → o.wp P (frame tab a us) w (fun a' w' => ∃ v, a' = (frame tab a us).put o.dst v ∧ Below w.heap.size w w' ∧ V i v w') Q) : StepF P L Q tab a B D C G V R i o := by
  intro m us w hB hG hV hd
  have hiC : i ∉ C := fun e => by rw [List.contains_iff_mem.2 e] at hi'; cases hi'
  refine ⟨fun _ ⟨k, hkl, hk1, hk2, hr⟩ => ?_, fun p hp => absurd (List.mem_of_getElem? hp) hiC⟩
  rw [if_pos (show Region.wanted o (yielded L.toArray (frame tab a us).tmps) = true by simp [Region.wanted, hg])]
  refine h us w k hB hG (fun j hj => hV j (fun e => by have h1 := List.all_eq_true.1 hc j hj; rw [List.contains_iff_mem.2 e] at h1; cases h1) (need_ok hn hd j hj)) ⟨?_, ?_⟩ hr
  · rcases hlo with rfl | ⟨x, hx, hw⟩
    · exact Nat.zero_le _
    · have := hk1 (lo - 1) x hx hw; omega
  · rcases hhi with rfl | ⟨x, o', hx, hox, hw⟩
    · exact hkl
    · exact hk2 hi x o' hx hox hw
/-- .. behind a guard that says b, as is known -/
theorem stepF_guard (need : List Nat) (hn : needs o need = true) (hc : (need.all fun j => !C.contains j) = true) (hi : C.contains i = false) {j t : Nat} {b : Bool} (hg : o.guard = some (j, b)) (hj : j ∈ need) (hL : (L[j]?).bind (·.dst) = some t) (hl : tab.length = a.tmps.size) (ht : (tab[t]?).join = some j)
    (hv : ∀ v w, V j v w → v = .bool b)
    (h : ∀ us w, B ≤ w.heap.size → G w → (∀ j, j ∈ need → V j (us j) w) → o.wp P (frame tab a us) w (fun a' w' => ∃ v, a' = (frame tab a us).put o.dst v ∧ Below w.heap.size w w' ∧ V i v w') Q) : StepF P L Q tab a B D C G V R i o := by
  intro m us w hB hG hV hd
  have hiC : i ∉ C := fun e => by rw [List.contains_iff_mem.2 e] at hi; cases hi
  have hV2 : ∀ j, j ∈ need → V j (us j) w := fun j hj => hV j (fun e => by have h1 := List.all_eq_true.1 hc j hj; rw [List.contains_iff_mem.2 e] at h1; cases h1) (need_ok hn hd j hj)
  refine ⟨fun _ _ => ?_, fun p hp => absurd (List.mem_of_getElem? hp) hiC⟩
  have hy := yield_at (L := L) (us := us) hl hL ht (hv _ _ (hV2 j hj))
  rw [if_pos (show Region.wanted o (yielded L.toArray (frame tab a us).tmps) = true by simp [Region.wanted, hg, hy])]
  exact h us w hB hG hV2
/-- .. that is not wanted -/
theorem stepF_skip (need : List Nat) (hn : needs o need = true) (hc : (need.all fun j => !C.contains j) = true) (hi : C.contains i = false) {j t : Nat} {b : Bool} (hg : o.guard = some (j, b)) (hj : j ∈ need) (hL : (L[j]?).bind (·.dst) = some t) (hl : tab.length = a.tmps.size) (ht : (tab[t]?).join = some j)
    (hv : ∀ v w, V j v w → v = .bool !b) (h : ∀ w, V i undef w) : StepF P L Q tab a B D C G V R i o := by
  intro m us w hB hG hV hd
  have hiC : i ∉ C := fun e => by rw [List.contains_iff_mem.2 e] at hi; cases hi
  have hV2 : ∀ j, j ∈ need → V j (us j) w := fun j hj => hV j (fun e => by have h1 := List.all_eq_true.1 hc j hj; rw [List.contains_iff_mem.2 e] at h1; cases h1) (need_ok hn hd j hj)
  refine ⟨fun _ _ => ?_, fun p hp => absurd (List.mem_of_getElem? hp) hiC⟩
  have hy := yield_at (L := L) (us := us) hl hL ht (hv _ _ (hV2 j hj))
  rw [if_neg (by simp [Region.wanted, hg, hy])]
  exact h w
/-- the chain's p-th -/
theorem stepF_chain (p : Nat) (hp : C[p]? = some i) (hnd : C.Nodup) (need : List Nat) (hn : needs o need = true) (hc : (need.all fun j => !C.contains j) = true) (hg : o.guard = none)
    (h : ∀ us w, B ≤ w.heap.size → G w → (∀ j, j ∈ need → V j (us j) w) → R p us w → o.wp P (frame tab a us) w (fun a' w' => ∃ v, a' = (frame tab a us).put o.dst v ∧ (D w w' ∧ Below B w w') ∧ R (p + 1) (upd us i v) w') Q) : StepF P L Q tab a B D C G V R i o := by
  intro m us w hB hG hV hd
  refine ⟨fun hi _ => absurd (List.mem_of_getElem? hp) hi, fun q hq hr => ?_⟩
  have hqp : q = p := nodup_at hnd hq hp
  subst hqp
  rw [if_pos (show Region.wanted o (yielded L.toArray (frame tab a us).tmps) = true by simp [Region.wanted, hg])]
  exact h us w hB hG (fun j hj => hV j (fun e => by have h1 := List.all_eq_true.1 hc j hj; rw [List.contains_iff_mem.2 e] at h1; cases h1) (need_ok hn hd j hj)) hr
/-- .. behind a guard that says b, as is known -/
theorem stepF_chainG (p : Nat) (hp : C[p]? = some i) (hnd : C.Nodup) (need : List Nat) (hn : needs o need = true) (hc : (need.all fun j => !C.contains j) = true) {j t : Nat} {b : Bool} (hg : o.guard = some (j, b)) (hj : j ∈ need) (hL : (L[j]?).bind (·.dst) = some t) (hl : tab.length = a.tmps.size) (ht : (tab[t]?).join = some j)
    (hv : ∀ v w, V j v w → v = .bool b)
    (h : ∀ us w, B ≤ w.heap.size → G w → (∀ j, j ∈ need → V j (us j) w) → R p us w → o.wp P (frame tab a us) w (fun a' w' => ∃ v, a' = (frame tab a us).put o.dst v ∧ (D w w' ∧ Below B w w') ∧ R (p + 1) (upd us i v) w') Q) : StepF P L Q tab a B D C G V R i o := by
  intro m us w hB hG hV hd
  have hV2 : ∀ j, j ∈ need → V j (us j) w := fun j hj => hV j (fun e => by have h1 := List.all_eq_true.1 hc j hj; rw [List.contains_iff_mem.2 e] at h1; cases h1) (need_ok hn hd j hj)
  refine ⟨fun hi _ => absurd (List.mem_of_getElem? hp) hi, fun q hq hr => ?_⟩
  have hqp : q = p := nodup_at hnd hq hp
  subst hqp
  have hy := yield_at (L := L) (us := us) hl hL ht (hv _ _ (hV2 j hj))
  rw [if_pos (show Region.wanted o (yielded L.toArray (frame tab a us).tmps) = true by simp [Region.wanted, hg, hy])]
  exact h us w hB hG hV2 hr
end
end Go.Proofs.YtniimgbljhmcoaaDoor.freeC

/-
  The bytes of a segment: the program's.
-/
namespace Go.Proofs.YtniimgbljhmcoaaDoor.sgC
open Go.ChangeShapes Go.WideShapes Go.ChangeAt Go.RowKit
open Go.Proofs.YtniimgbljhmcoaaDoor.memC Go.Proofs.YtniimgbljhmcoaaDoor.genC Go.Proofs.YtniimgbljhmcoaaDoor.butC Go.Proofs.YtniimgbljhmcoaaDoor.freeC Go.Proofs.YtniimgbljhmcoaaDoor.adC
open Go.Proofs.YtniimgbljhmcoaaDoor.octC (numL getZ putL)
open Go.Proofs.YtniimgbljhmcoaaDoor.opC (Kd Prs optL optV mayB gr_drewG)
open Go.Proofs.YtniimgbljhmcoaaDoor.pkC (OwnE copy_J row_nums)
set_option linter.unusedVariables false
theorem cut_tailS (A : Option Addr) (n c f : Nat) (h1 : f ≤ n) (h2 : n ≤ c) (w : World) :
    (Instr.slice 32 (.slice A n c) (some (.int .i64 (f : Int))) none none).run Tryd.prog w = .ok (.slice (if c = f then A else A.map (·.add f)) (n - f) (c - f)) w := pkC.cut_tail A n c f h1 h2 w
/-- the bytes of the segment, and with their check sum -/
def lyR (base g n c : Nat) (X0 X1 : List Int) : Nat → (Nat → Value) → World → Prop
  | 0, _, w => Own .u8 5 w base (.slice (some ⟨g, 0, none⟩) n c) X0
  | 1, _, w => Own .u8 5 w base (.slice (some ⟨g, 0, none⟩) n c) X1
  | _, _, _ => True
theorem lyR.keep (base g n c : Nat) (X0 X1 : List Int) (k : Nat) (us us' : Nat → Value) (w w' : World) (hb : Below w.heap.size w w') (hR : lyR base g n c X0 X1 k us w) : lyR base g n c X0 X1 k us' w' := by
  unfold lyR at hR ⊢
  split at hR
  · exact hR.below hb
  · exact hR.below hb
  · trivial
def lyV (g n c n10 c10 : Nat) (C1 C2 : Array Value) (ck : Int) : Nat → Value → World → Prop
  | 0, v, _ => v = .slice (some ⟨g, 0, none⟩) n c
  | 1, v, _ => v = .slice (some ⟨g, 16, none⟩) n10 c10
  | 2, v, _ => v = .agg C1
  | 3, v, _ => v = .agg C2
  | 4, v, _ => v = .slice (some ⟨g, 0, none⟩) n c
  | 5, v, _ => v = .int .u16 ck
  | 6, v, _ => v = .int .u64 ck
  | 7, v, w => ∃ q, v = .slice (some ⟨q, 0, none⟩) 1 1 ∧ q ≠ g ∧ w.heap[q]? = some (.cells #[.int .u64 ck] 60 (0, 0))
  | 8, v, w => ∃ A c, v = .slice A 2 c ∧ Own .u8 5 w (g + 1) (.slice A 2 c) [ck / 256, ck % 256]
  | _, _, _ => True
theorem lyV.keep (g n c n10 c10 : Nat) (C1 C2 : Array Value) (ck : Int) (i : Nat) (v : Value) (w w' : World) (hd : Below w.heap.size w w' ∨ OnlyAt g w w') (h : lyV g n c n10 c10 C1 C2 ck i v w) : lyV g n c n10 c10 C1 C2 ck i v w' := by
  by_cases e7 : i = 7
  · subst e7
    obtain ⟨q, h1, h2, h3⟩ := h
    exact ⟨q, h1, h2, keep_row hd h2 h3⟩
  by_cases e8 : i = 8
  · subst e8
    obtain ⟨A, c', h1, h2⟩ := h
    refine ⟨A, c', h1, h2.keep fun k g1 g2 => ?_⟩
    rcases hd with hd | hd
    · exact hd.block k g2
    · exact hd.2 k (by omega)
  unfold lyV at h ⊢
  split at h <;> first | exact h | exact absurd rfl (by assumption)
def lyT : List (Option Nat) := [none, none, none, none, none, none, none, none, none, none, none, none, none, none, none, none, none, none, none, none, none, none, none, none, none, none, none, none, none, none, none, none, none, none, none, none, none, none, none, none, none, none, none, none, none, none, none, none, none, none, none, none, none, none, none, none, none, none, none, none, none, none, none, some 0, some 1, some 2, some 3, some 4, some 5, some 6, some 7, some 8, some 9, none]
set_option maxRecDepth 100000 in
set_option maxHeartbeats 8000000 in
theorem clay_any (C1 C2 : Array Value) (s1 s2 : Bool) (b1 b2 : List Int) (s : Sg) (A : Option Addr) (n c : Nat) (B : Option Addr) (m d : Nat) (xs : List Int) (w : World) (h1 : chkC.AddrC C1 s1 b1) (h2 : chkC.AddrC C2 s2 b2) (hk : Kd w) (hs : s.Ok) (hn : s.op.sk.length = n) (hA : Prs w w.heap.size A n s.op.sk) (hnm : n ≤ 100000)
    (hx : Nums .u8 w w.heap.size B m xs) (hy : ∀ x ∈ xs, Byte x) (hf : mayS s m = true → m ≤ 9000) :
    Calls Tryd.prog 11 #[.agg C1, .agg C2, .agg (segV s A n c B m d)] w (OwnE w (laysL s1 s2 b1 b2 s xs) (laysE s m)) := by
  have hxl := hx.len
  unfold laysL laysE
  rw [hxl]
  obtain ⟨W0, hW0⟩ : ∃ W, W = w.alloc (.cells C1 24) := ⟨_, rfl⟩
  obtain ⟨W1, hW1⟩ : ∃ W, W = W0.alloc (.cells C2 24) := ⟨_, rfl⟩
  obtain ⟨W, hW⟩ : ∃ W, W = W1.alloc (.cells (segV s A n c B m d) 34) := ⟨_, rfl⟩
  have z0 : W0.heap.size = w.heap.size + 1 := by rw [hW0, alloc_size]
  have z1 : W1.heap.size = w.heap.size + 2 := by rw [hW1, alloc_size, z0]
  have z2 : W.heap.size = w.heap.size + 3 := by rw [hW, alloc_size, z1]
  have B0 : Below w.heap.size w W0 := by rw [hW0]; exact alloc_below _ _
  have B1 : Below W0.heap.size W0 W1 := by rw [hW1]; exact alloc_below _ _
  have B2 : Below W1.heap.size W1 W := by rw [hW]; exact alloc_below _ _
  have HB := Lib.hid (show Below w.heap.size w W from (B0.trans (B1.mono (by omega))).trans (B2.mono (by omega)))
  have r1 : W.heap[w.heap.size]? = some (.cells C1 24 (0, 0)) := by rw [B2.block _ (by omega), B1.block _ (by omega), hW0]; exact heap_alloc_new _ _
  have r2 : W.heap[w.heap.size + 1]? = some (.cells C2 24 (0, 0)) := by rw [B2.block _ (by omega), hW1, ← z0]; exact heap_alloc_new _ _
  have r3 : W.heap[w.heap.size + 2]? = some (.cells (segV s A n c B m d) 34 (0, 0)) := by rw [hW, ← z1]; exact heap_alloc_new _ _
  have OC := segC hs.op.lm A n c B m d
  have IC := Lib.hid OC.info
  have KR := Lib.hid (fun (w' : World) (h : Below W.heap.size W w') => (show w'.heap[w.heap.size + 2]? = some (.cells (segV s A n c B m d) 34 (0, 0)) by rw [h.block _ (by omega)]; exact r3))
  have KX := fun (k : Nat) (v : Value) (h : (segV s A n c B m d)[k]? = some v) (w' : World) (hb : Below W.heap.size W w') => pkC.PkC.cell (KR.out w' hb) h
  have KS := Lib.hid (KX 0 _ OC.sp)
  have KD := Lib.hid (KX 1 _ OC.dp)
  have KQ := Lib.hid (KX 2 _ OC.sq)
  have KA := Lib.hid (KX 3 _ OC.ak)
  have KF := Lib.hid (KX 4 _ OC.fl)
  have KW := Lib.hid (KX 5 _ OC.wi)
  have KU := Lib.hid (KX 6 _ OC.ur)
  have KT := Lib.hid (KX 31 _ OC.da)
  have KO := Lib.hid (fun (w' : World) (hb : Below W.heap.size W w') => pkC.PkC.part (KR.out w' hb) OC.op)
  have KG1 := Lib.hid (fun (w' : World) (h : Below W.heap.size W w') => (show w'.heap[w.heap.size]? = some (.cells C1 24 (0, 0)) by rw [h.block _ (by omega)]; exact r1))
  have KG2 := Lib.hid (fun (w' : World) (h : Below W.heap.size W w') => (show w'.heap[w.heap.size + 1]? = some (.cells C2 24 (0, 0)) by rw [h.block _ (by omega)]; exact r2))
  have IC1 := Lib.hid (show (Tryd.prog.info? 24).map (·.size) = some C1.size by rw [h1.size]; exact addr_info)
  have IC2 := Lib.hid (show (Tryd.prog.info? 24).map (·.size) = some C2.size by rw [h2.size]; exact addr_info)
  have IO0 := Lib.hid (opt_infoL hs.op.lm A n c)
  have MC := Lib.hid (cmay_any s A n c B m d W (hk.bel HB.out) hs.op.lm hn hnm)
  have LC := Lib.hid (fun (w' : World) (h : Below W.heap.size W w') => opC.clay_any s.op A n c w' (hk.bel (HB.out.trans (h.mono HB.out.size))) hs.op hn ((hA.below (HB.out.trans (h.mono HB.out.size))).more (HB.out.trans (h.mono HB.out.size)).size) hnm)
  have XN := Lib.hid (fun (w' : World) (h : Below W.heap.size W w') => (show Nums .u8 w' w'.heap.size B m xs from (hx.below (HB.out.trans (h.mono HB.out.size))).more (HB.out.trans (h.mono HB.out.size)).size))
  have HWW := Lib.hid (Below.refl W.heap.size W)
  have SW := Lib.hid (show w.heap.size ≤ W.heap.size by omega)
  rw [show optV s.op A n c = (optL s.op A n c).toArray from rfl] at LC
  obtain ⟨my, hmy⟩ : ∃ my, mayS s m = my := ⟨_, rfl⟩
  have HMY := Lib.hid hmy
  rw [hmy] at MC hf ⊢
  cases my
  · rw [if_neg (by decide), if_neg (by decide)]
    generalize segV s A n c B m d = CP at *
    clear h1 h2 hk hs hn hA hnm hx hy hf hxl OC KX r1 r2 r3 hmy B0 B1 B2 z2
    go_enter Tryd.func11, Tryd.ntmps11
    go_upto_region 1 with fail
    rw [← hW0, ← hW1, ← hW]
    try rw [z0]
    try rw [z1]
    clear hW0 hW1 hW z0 z1
    go_wp2_with (first
      | (refine wpList_load_row rfl 34 (.tmp 5) rfl (w.heap.size + 2) rfl _ _ _ _ (KR.out _ HWW.out) Tryd.underlying34 rfl IC.out ?_)
      | (go_at_call 13; (refine MC.out.mono ?_); rintro e w2 ⟨rfl, BB⟩
         have HW2 := Lib.hid BB
         clear BB))
    go_ret2
    exact ⟨none, 0, 0, rfl, Own.nil _ _, HB.out.trans (HW2.out.mono HB.out.size)⟩
  rw [if_pos rfl, if_pos rfl]
  have hm9 := hf rfl
  have hmb : mayB s.op = true := by unfold mayS at hmy; simp only [Bool.and_eq_true] at hmy; exact hmy.1
  rw [show opC.layX s.op = opC.layL s.op by unfold opC.layX; rw [if_pos hmb], show opC.layE s.op = 0 by unfold opC.layE; rw [if_pos hmb]] at LC
  have hol : (opC.layL s.op).length ≤ 40 := by rw [opC.lay_len hs.op.lm]; simp only [mayB, Bool.and_eq_true, decide_eq_true_eq] at hmb; exact hmb.2.2.2
  have hyb := bytesS_byte hs hmb hy 0
  have hbl := bytesS_len s xs 0
  have cb := ckS_bd s1 s2 b1 b2 s xs
  have EXX := bytesS_ck s xs cb.1 cb.2
  have hlo : ∀ x ∈ opC.layL s.op, Byte x := fun x hx2 => hyb x (by unfold bytesS; exact List.mem_append_right _ (List.mem_append_left _ hx2))
  have E2 : headS s (opC.layL s.op).length 0 = putL (putL (putL [] 2 [s.sp, s.dp]) 4 [s.sq, s.ak] ++ [(((20 + (opC.layL s.op).length) / 4 * 16 : Nat) : Int), s.fl]) 2 [s.wi, 0, s.ur] := rfl
  have E3 : bytesS s xs 0 = headS s (opC.layL s.op).length 0 ++ (opC.layL s.op ++ xs) := rfl
  have hlh := headS_len s (opC.layL s.op).length 0
  have hhy := headS_byte hs hol 0
  have hck : ckS s1 s2 b1 b2 s xs = 65535 - chkM.fo (chkM.wsum (pseL s1 s2 b1 b2 6 ((bytesS s xs 0).length : Nat)) + chkM.wsum (bytesS s xs 0)) := rfl
  have VS : IntKind.u64.wrap s.sp = s.sp := IntWalk.u64_in _ (by have := hs.sp; unfold U16 at this; omega)
  have VD : IntKind.u64.wrap s.dp = s.dp := IntWalk.u64_in _ (by have := hs.dp; unfold U16 at this; omega)
  have VQ : IntKind.u64.wrap s.sq = s.sq := IntWalk.u64_in _ (by have := hs.sq; unfold opC.U32 at this; omega)
  have VA : IntKind.u64.wrap s.ak = s.ak := IntWalk.u64_in _ (by have := hs.ak; unfold opC.U32 at this; omega)
  have VW : IntKind.u64.wrap s.wi = s.wi := IntWalk.u64_in _ (by have := hs.wi; unfold U16 at this; omega)
  have VU : IntKind.u64.wrap s.ur = s.ur := IntWalk.u64_in _ (by have := hs.ur; unfold U16 at this; omega)
  have hfb := hs.fl
  obtain ⟨T1, hT1⟩ : ∃ T, T = putL [] 2 [s.sp, s.dp] := ⟨_, rfl⟩
  have L1 : T1.length = 4 := by rw [hT1]; simp [putL, List.flatMap_cons, opC.numL_len]
  rw [← hT1] at E2
  obtain ⟨T2, hT2⟩ : ∃ T, T = putL T1 4 [s.sq, s.ak] := ⟨_, rfl⟩
  have L2 : T2.length = 12 := by rw [hT2]; simp [putL, List.flatMap_cons, opC.numL_len, L1]
  rw [← hT2] at E2
  obtain ⟨ol, hole⟩ : ∃ ol, ol = (opC.layL s.op).length := ⟨_, rfl⟩
  rw [← hole] at hol hbl E2 E3 hlh hhy
  obtain ⟨hb, hhb⟩ : ∃ hb : Int, hb = (((20 + ol) / 4 * 16 : Nat) : Int) := ⟨_, rfl⟩
  rw [← hhb] at E2
  obtain ⟨T3, hT3⟩ : ∃ T, T = T2 ++ [hb, s.fl] := ⟨_, rfl⟩
  have L3 : T3.length = 14 := by rw [hT3, List.length_append, L2]; rfl
  have Y3 : ∀ x ∈ T3, Byte x := by
    intro x hx2
    rw [hT3] at hx2
    rcases List.mem_append.1 hx2 with h | h
    · rw [hT2, hT1] at h; exact putL_byte (putL_byte (by simp) _ _) _ _ x h
    · simp at h
      rcases h with rfl | rfl
      · rw [hhb]; unfold Byte; omega
      · exact hfb
  rw [← hT3] at E2
  generalize headS s ol 0 = T4 at *
  generalize bytesS s xs 0 = X0 at *
  generalize ckS s1 s2 b1 b2 s xs = ck at *
  generalize bytesS s xs ck = X1 at *
  generalize s.sp = sp at *
  generalize s.dp = dp at *
  generalize s.sq = sq at *
  generalize s.ak = ak at *
  generalize s.fl = fl at *
  generalize s.wi = wi at *
  generalize s.ur = ur at *
  generalize opC.layL s.op = OL at *
  have P1 := Lib.hid (fun w' => put_lit w' (key_none w') [sp, dp] #[.int .u64 sp, .int .u64 dp] 2 2 2 4 T1 rfl rfl rfl (by decide) (by decide) (by decide) hT1.symm L1)
  have P2 := Lib.hid (fun (w' : World) (A : Option Addr) (c : Nat) (K : kdC.Key w' A 4 c T1) => put_lit w' K [sq, ak] #[.int .u64 sq, .int .u64 ak] 2 4 4 12 T2 rfl rfl rfl (by decide) (by decide) (by decide) hT2.symm L2)
  have P4 := Lib.hid (fun (w' : World) (A : Option Addr) (c : Nat) (K : kdC.Key w' A 14 c T3) => put_lit w' K [wi, 0, ur] #[.int .u64 wi, .int .u64 0, .int .u64 ur] 3 2 2 20 T4 rfl rfl rfl (by decide) (by decide) (by decide) E2.symm hlh)
  unfold PutR at P1 P2 P4
  obtain ⟨i0, hi0, hz0, hz1, hz2⟩ := info_parts byte_inf
  have I1 := Lib.hid hi0; have I2 := Lib.hid hz0; have I3 := Lib.hid hz1; have I4 := Lib.hid hz2
  obtain ⟨N, hN⟩ : ∃ N, N = 20 + ol + m := ⟨_, rfl⟩
  have HNN := Lib.hid hN
  have HL0 := Lib.hid (show X0.length = N by rw [hbl, hxl, hN])
  have HM9 := Lib.hid hm9
  have HOL := Lib.hid hol
  have HOLE := Lib.hid hole
  have HLT := Lib.hid hlh
  have HYT := Lib.hid hhy
  have HYO := Lib.hid hlo
  have HY := Lib.hid hy
  have HY0 := Lib.hid hyb
  have E3H := Lib.hid E3
  have LT2 := Lib.hid L2
  have LT3 := Lib.hid L3
  have YT3 := Lib.hid Y3
  have ET3 := Lib.hid hT3
  have EX := Lib.hid EXX
  have CB := Lib.hid cb
  have HCK := Lib.hid hck
  have H1 := Lib.hid h1
  have H2 := Lib.hid h2
  have a1 : IntKind.i64.wrap (20 + (ol : Int)) = 20 + (ol : Int) := IntWalk.i64_in _ (by omega)
  have a2 : IntKind.u8.wrap (20 + (ol : Int)) = 20 + (ol : Int) := IntWalk.u8_in _ (by omega)
  have a3 : (20 + (ol : Int)).tdiv 4 % 256 * 16 % 256 = hb := by rw [hhb, Int.tdiv_eq_ediv_of_nonneg (by omega)]; omega
  generalize segV s A n c B m d = CP at *
  generalize optL s.op A n c = L0 at *
  clear h1 h2 hk hs hn hA hnm hx hf OC KX r1 r2 r3 hmy B0 B1 B2 z2 hm9 hmb hol hyb hbl cb EXX hlo E2 E3 hlh hhy hck hT1 hT2 hT3 hfb L1 L2 L3 Y3 hole hhb hy hxl hi0 hz0 hz1 hz2 hN HMY
  go_enter Tryd.func11, Tryd.ntmps11
  try simp only [List.append_eq, List.cons_append, List.nil_append]
  go_upto_region 1 with fail
  rw [← hW0, ← hW1, ← hW]
  try rw [z0]
  try rw [z1]
  clear hW0 hW1 hW z0 z1
  go_upto_region 4 with (first
    | (refine wpList_load_row rfl 34 (.tmp 5) rfl (w.heap.size + 2) rfl _ _ _ _ (KR.out _ HWW.out) Tryd.underlying34 rfl IC.out ?_)
    | (go_at_call 13; (refine MC.out.mono ?_); rintro e w2 ⟨rfl, BB⟩
       have HW2 := Lib.hid BB
       clear BB)
    | (with_reducible refine atC.at_load 31 15 ?_; refine pkC.wpList_load_partG (by kernel_rfl) 31 (.tmp 15) rfl (w.heap.size + 2) 7 (by kernel_rfl) L0 _ (KO.out _ HW2.out) Tryd.underlying31 rfl IO0.out ?_)
    | (go_at_call 29; (refine (LC.out _ HW2.out).mono ?_); rintro e w3 ⟨A3, n3, c3, rfl, O3, BB⟩
       obtain rfl : n3 = ol := by rw [HOLE.out]; exact O3.len.symm
       have HW3 := Lib.hid (HW2.out.trans (BB.mono HW2.out.size))
       have HO3 := Lib.hid (show Own .u8 5 w3 W.heap.size (.slice A3 n3 c3) OL from O3.less HW2.out.size)
       have k0 := KS.out w3 HW3.out
       have k1 := KD.out w3 HW3.out
       clear O3 BB))
  clear MC LC HW2
  go_upto_region 5 with (first
    | (go_at_call 30; (refine (P1.out _).mono ?_); rintro e w4 ⟨A4, c4, rfl, O4, K4, BB⟩
       have HW4 := Lib.hid (HW3.out.trans (BB.mono HW3.out.size))
       have HO4 := Lib.hid (HO3.out.below BB)
       have HK4 := Lib.hid K4
       have k2 := KQ.out w4 HW4.out
       have k3 := KA.out w4 HW4.out
       clear O4 K4 BB))
  clear k0 k1 P1 HO3 HW3 VS VD
  go_upto_region 6 with (first
    | (go_at_call 30; (refine (P2.out _ _ _ HK4.out).mono ?_); rintro e w5 ⟨A5, c5, rfl, O5, K5, BB⟩
       have HW5 := Lib.hid (HW4.out.trans (BB.mono HW4.out.size))
       have HO5 := Lib.hid (HO4.out.below BB)
       have HT5 := Lib.hid O5
       have BB5 := Lib.hid BB
       have k4 := KF.out w5 HW5.out
       clear O5 K5 BB))
  clear k2 k3 P2 HK4 VQ VA HO5
  have n2 := Lib.hid (lit_nums .u8 w5 [hb, fl] 5 _ rfl 2 rfl)
  have O5A := Lib.hid (HT5.out.alloc (.cells #[.int .u8 hb, .int .u8 fl] 5))
  have S5 := Lib.hid (show w4.heap.size ≤ (w5.alloc (.cells #[.int .u8 hb, .int .u8 fl] 5)).heap.size by rw [alloc_size]; have := BB5.out.size; omega)
  have NB5 := Lib.hid (alloc_below w5 (.cells #[.int .u8 hb, .int .u8 fl] 5))
  go_upto_region 7 with (at_builtin
                         (refine wpList_app _ rfl (.tmp 37) (.tmp 46) _ rfl 5 i0 _ 1 Tryd.underlying32 I1.out I2.out I3.out I4.out rfl w4.heap.size _ T2 rfl O5A.out (w5.heap.size + 1) _ 2 2 [hb, fl] rfl n2.out (by rw [LT2.out]; unfold maxLen; omega) (by rw [LT2.out]; omega) S5.out ?_)
                         intro v6 w6 O hg
                         have B6 := Lib.hid (show Below w4.heap.size w4 w6 from (BB5.out.trans (NB5.out.mono BB5.out.size)).grown hg S5.out fun q hq => (O5A.out.blk q hq).1)
                         have HW6 := Lib.hid (HW4.out.trans (B6.out.mono HW4.out.size))
                         have HO6 := Lib.hid (HO4.out.below B6.out)
                         have k5 := KW.out w6 HW6.out
                         have k6 := KU.out w6 HW6.out
                         obtain ⟨A6, c6, ev, g1, g2, N6⟩ := O.form
                         rw [← ET3.out, LT3.out] at ev g1 N6
                         subst ev
                         have HK6 := Lib.hid (show kdC.Key w6 A6 14 c6 T3 from ⟨N6, YT3.out, g1, by unfold maxLen at g2; omega⟩)
                         clear O hg g1 g2 N6)
  clear HW4 HO4 HW5 BB5 HT5 O5A S5 NB5 B6 n2 k4 ET3 YT3 LT2 LT3 a1 a2 a3
  go_upto_region 8 with (first
    | (go_at_call 30; (refine (P4.out _ _ _ HK6.out).mono ?_); rintro e w7 ⟨A7, c7, rfl, O7, K7, BB⟩
       have HW7 := Lib.hid (HW6.out.trans (BB.mono HW6.out.size))
       have HO7 := Lib.hid (HO6.out.below BB)
       have k7 := KT.out w7 HW7.out
       have PA := Lib.hid (show chkC.PartAt w7 w7.heap.size ⟨A7, 20, c7, T4⟩ from ⟨O7.nums, (show 20 ≤ 10000 by decide), HYT.out⟩)
       have PB := Lib.hid (show chkC.PartAt w7 w7.heap.size ⟨A3, n3, c3, OL⟩ from ⟨HO7.out.nums, (show n3 ≤ 10000 by have := HOL.out; omega), HYO.out⟩)
       have PC := Lib.hid (show chkC.PartAt w7 w7.heap.size ⟨B, m, d, xs⟩ from ⟨XN.out w7 HW7.out, (show m ≤ 10000 by have := HM9.out; omega), HY.out⟩)
       clear O7 K7 BB))
  clear P4 HO6 HW6 HK6 k5 k6 VW VU HO7
  have CC := chkC.concat_any (some ⟨w7.heap.size, 0, none⟩) 3 3 N _ _ ((chkC.parts3 PA.out PB.out PC.out 32)) (by decide) rfl (by have := HNN.out; simp only [chkC.nsum]; omega) (by have := HNN.out; omega) (by have := HNN.out; have := HM9.out; have := HOL.out; omega)
  have hcat : chkC.catL [⟨A7, 20, c7, T4⟩, ⟨A3, n3, c3, OL⟩, ⟨B, m, d, xs⟩] = X0 := by rw [E3H.out]; simp [chkC.catL]
  rw [hcat] at CC
  have CT := Lib.hid CC
  clear CC hcat PA PB PC
  go_upto_region 9 with (first
    | (go_at_call 31; (refine CT.out.mono ?_); rintro e w8 ⟨A8, c8, rfl, h1, h2, O8, B8⟩
       have HO8 := Lib.hid (O8.less (Nat.le_trans HW7.out.size (alloc_below _ _).size))
       have HW8 := Lib.hid (show Below W.heap.size W w8 from (HW7.out.trans ((alloc_below _ _).mono HW7.out.size)).trans (B8.mono (Nat.le_trans HW7.out.size (alloc_below _ _).size)))
       have LC8 := Lib.hid (show N ≤ c8 from h1)
       clear h1 h2 O8 B8))
  clear CT HW7 k7 XN KT KW KU KF HWW
  have HN20 := Lib.hid (show 20 ≤ N ∧ N ≤ 9060 by have := HNN.out; have := HM9.out; have := HOL.out; omega)
  obtain ⟨g, rfl, hg1, hg2⟩ : ∃ g, A8 = some ⟨g, 0, none⟩ ∧ W.heap.size ≤ g ∧ g < w8.heap.size := by
    have O8 := HO8.out
    have h0 := O8.len
    rcases O8.2 with ⟨e1, e2⟩ | ⟨g, cap, cur, e1, e2, -⟩
    · cases e1; have := HN20.out; omega
    · injection e1 with e1 e3 e4
      subst e1
      exact ⟨g, rfl, e2, (O8.blk g rfl).2⟩
  have BG := Lib.hid hg1
  have LG := Lib.hid hg2
  have HO := Lib.hid HO8.out
  have K1 := Lib.hid (fun (w' : World) (h : Below W.heap.size w8 w') => KG1.out w' (HW8.out.trans h))
  have K2 := Lib.hid (fun (w' : World) (h : Below W.heap.size w8 w') => KG2.out w' (HW8.out.trans h))
  have LD := Lib.hid (fun (w' : World) (h : Own .u8 5 w' W.heap.size (.slice (some ⟨g, 0, none⟩) N c8) X0) => chkC.load_any C1 C2 6 (some ⟨g, 0, none⟩) N c8 (pseN s1 s2) (pseL s1 s2 b1 b2 6 (N : Nat)) X0 ck w' H1.out.size H2.out.size (pseN_le _ _) (pse_byte H1.out H2.out (by decide) (by decide) (by omega) (by have := HN20.out; omega)) (fun w => pse_any H1.out H2.out (by decide) (by decide) (by omega) (by have := HN20.out; omega) w) ⟨h.nums, (show N ≤ 10000 by have := HN20.out; omega), HY0.out⟩ (by rw [HCK.out, HL0.out]))
  have SC := Lib.hid (fun (w' : World) => (show (Instr.slice 32 (.slice (some ⟨g, 0, none⟩) N c8) (some (.int .i64 16)) none none).run Tryd.prog w' = .ok (.slice (some ⟨g, 16, none⟩) (N - 16) (c8 - 16)) w' by
    have := cut_tailS (some ⟨g, 0, none⟩) N c8 16 (by have := HN20.out; omega) LC8.out w'
    rw [if_neg (by have := HN20.out; have := LC8.out; omega)] at this
    exact this))
  have WK := Lib.hid (show IntKind.u64.wrap ck = ck from IntWalk.u64_in _ (by have := CB.out; omega))
  have NL := Lib.hid (show putL [] 2 [ck] = [ck / 256, ck % 256] by rw [← numL2 CB.out.1 CB.out.2]; simp [putL])
  have LN := Lib.hid (show 18 ≤ N ∧ N ≤ c8 ∧ X0.length = N from ⟨by have := HN20.out; omega, LC8.out, HL0.out⟩)
  have N10 := Lib.hid (show 2 ≤ N - 16 by have := HN20.out; omega)
  have HBS := Lib.hid SW.out
  have HBW := Lib.hid (HB.out.trans (HW8.out.mono SW.out))
  clear HO8 HW8 KG1 KG2 KR KS KD KQ KA KO H1 H2 HY HY0 HYT HYO HLT HOL HM9 HNN HOLE E3H I1 I2 I3 I4 IC IO0 HL0 HCK CB SW
  refine with_act fun a0 ha0 => ?_
  have hl : lyT.length = a0.tmps.size := by rw [ha0]; rfl
  have k3 : a0.tmps[3]?.getD undef = .pointer (some ⟨(w.heap.size), 0, none⟩) := by rw [ha0]; rfl
  have k4 : a0.tmps[4]?.getD undef = .pointer (some ⟨(w.heap.size + 1), 0, none⟩) := by rw [ha0]; rfl
  have k10 : a0.tmps[10]?.getD undef = .slice (some ⟨g, 0, none⟩) N c8 := by rw [ha0]; rfl
  refine wp_region_chf (by kernel_rfl) lyT (by kernel_rfl) (by kernel_rfl) hl (fun i => undef) (by rw [ha0]; rfl) (g) (OnlyAt g) [9] (by kernel_rfl) (by decide) (by decide) (fun w' => Below (W.heap.size) w8 w' ∧ g + 1 ≤ w'.heap.size) (lyV g N c8 (N - 16) (c8 - 16) C1 C2 ck) (lyR (W.heap.size) g N c8 X0 X1) (Nat.le_of_lt LG.out) ⟨(Below.refl _ _).drew, LG.out⟩ HO.out (fun w1 w2 hb hd h => ⟨keep_below hd BG.out (Nat.le_trans BG.out (Nat.le_of_lt h.2)) h.1, by rcases hd with hd | hd; exact Nat.le_trans h.2 hd.size; exact Nat.le_trans h.2 hd.1.size⟩) (fun i v w w' _ hd h => lyV.keep _ _ _ _ _ _ _ _ i v w w' hd h) (fun k us us' w w' _ _ hb hR => lyR.keep _ _ _ _ _ _ k us us' w w' hb hR) ⟨?_, ?_, ?_, ?_, ?_, ?_, ?_, ?_, ?_, ?_, trivial⟩ ?_
  · refine stepF_val [] (by kernel_rfl) (by decide) (by decide) rfl fun us w' hB hG hV => ?_
    have o10 := (frame_old2 (us := us) (a := a0) (show (lyT[10]?).join = none from rfl)).trans k10
    generalize frame lyT a0 us = fr at *
    exact val_C (v := .slice (some ⟨g, 0, none⟩) N c8) (w' := w') (by go_simp) (Below.refl _ _) rfl
  · refine stepF_val [0] (by kernel_rfl) (by decide) (by decide) rfl fun us w' hB hG hV => ?_
    have e0 : us 0 = .slice (some ⟨g, 0, none⟩) N c8 := hV 0 (by simp)
    have v0 := (frame_at2 (us := us) hl (show (lyT[63]?).join = some 0 from rfl)).trans e0
    have hsc := SC.out w'
    generalize frame lyT a0 us = fr at *
    exact val_C (v := .slice (some ⟨g, 16, none⟩) (N - 16) (c8 - 16)) (w' := w') (by go_simp) (Below.refl _ _) rfl
  · refine stepF_val [] (by kernel_rfl) (by decide) (by decide) rfl fun us w' hB hG hV => ?_
    have o3 := (frame_old2 (us := us) (a := a0) (show (lyT[3]?).join = none from rfl)).trans k3
    have hg1 := (K1.out w' hG.1)
    generalize frame lyT a0 us = fr at *
    exact load_C 24 3 rfl ((w.heap.size)) o3 _ _ (0, 0) _ hg1 Tryd.underlying24 rfl IC1.out rfl
  · refine stepF_val [] (by kernel_rfl) (by decide) (by decide) rfl fun us w' hB hG hV => ?_
    have o4 := (frame_old2 (us := us) (a := a0) (show (lyT[4]?).join = none from rfl)).trans k4
    have hg1 := (K2.out w' hG.1)
    generalize frame lyT a0 us = fr at *
    exact load_C 24 4 rfl ((w.heap.size + 1)) o4 _ _ (0, 0) _ hg1 Tryd.underlying24 rfl IC2.out rfl
  · refine stepF_val [] (by kernel_rfl) (by decide) (by decide) rfl fun us w' hB hG hV => ?_
    have o10 := (frame_old2 (us := us) (a := a0) (show (lyT[10]?).join = none from rfl)).trans k10
    generalize frame lyT a0 us = fr at *
    exact val_C (v := .slice (some ⟨g, 0, none⟩) N c8) (w' := w') (by go_simp) (Below.refl _ _) rfl
  · refine stepF_early 0 0 (.inl rfl) (.inr ⟨_, _, rfl, rfl, by kernel_rfl⟩) [2, 3, 4] (by kernel_rfl) (by decide) (by decide) rfl fun us w' k hB hG hV hk hR => ?_
    have e2 : us 2 = .agg C1 := hV 2 (by simp)
    have v2 := (frame_at2 (us := us) hl (show (lyT[65]?).join = some 2 from rfl)).trans e2
    have e3 : us 3 = .agg C2 := hV 3 (by simp)
    have v3 := (frame_at2 (us := us) hl (show (lyT[66]?).join = some 3 from rfl)).trans e3
    have e4 : us 4 = .slice (some ⟨g, 0, none⟩) N c8 := hV 4 (by simp)
    have v4 := (frame_at2 (us := us) hl (show (lyT[67]?).join = some 4 from rfl)).trans e4
    obtain rfl : k = 0 := by omega
    have LL := LD.out w' (show Own .u8 5 w' (W.heap.size) (.slice (some ⟨g, 0, none⟩) N c8) X0 from hR)
    generalize frame lyT a0 us = fr at *
    exact call_C (f := 32) (args := #[.agg C1, .agg C2, .int .u8 6, .slice (some ⟨g, 0, none⟩) N c8]) (by go_simp) (LL.mono fun e w'' h => ⟨_, h.1, h.2, rfl⟩)
  · refine stepF_val [5] (by kernel_rfl) (by decide) (by decide) rfl fun us w' hB hG hV => ?_
    have e5 : us 5 = .int .u16 ck := hV 5 (by simp)
    have v5 := (frame_at2 (us := us) hl (show (lyT[68]?).join = some 5 from rfl)).trans e5
    have hw := WK.out
    generalize frame lyT a0 us = fr at *
    exact val_C (v := .int .u64 ck) (w' := w') (by go_simp) (Below.refl _ _) rfl
  · refine stepF_val [6] (by kernel_rfl) (by decide) (by decide) rfl fun us w' hB hG hV => ?_
    have e6 : us 6 = .int .u64 ck := hV 6 (by simp)
    have v6 := (frame_at2 (us := us) hl (show (lyT[69]?).join = some 6 from rfl)).trans e6
    generalize frame lyT a0 us = fr at *
    exact val_C (v := .slice (some ⟨w'.heap.size, 0, none⟩) 1 1) (w' := w'.alloc (.cells #[.int .u64 ck] 60)) (by go_simp) (alloc_below _ _) ⟨_, rfl, (Nat.ne_of_gt hG.2), heap_alloc_new _ _⟩
  · refine stepF_val [7] (by kernel_rfl) (by decide) (by decide) rfl fun us w' hB hG hV => ?_
    obtain ⟨q7, e7, n7, r7⟩ := (show ∃ q, us 7 = .slice (some ⟨q, 0, none⟩) 1 1 ∧ q ≠ g ∧ w'.heap[q]? = some (.cells #[.int .u64 ck] 60 (0, 0)) from hV 7 (by simp))
    have v7 := (frame_at2 (us := us) hl (show (lyT[70]?).join = some 7 from rfl)).trans e7
    generalize frame lyT a0 us = fr at *
    exact call_C (f := 30) (args := #[.slice none 0 0, .int .i64 2, .slice (some ⟨q7, 0, none⟩) 1 1]) (by go_simp) ((kdC.put_key (bs := []) (ns := [ck]) 2 2 2 [ck / 256, ck % 256] rfl (by decide) ⟨Nums.none_ 0, (by simp), (by decide), (by decide)⟩ (row_nums .u64 r7 rfl 1 rfl) (by decide) (by decide) NL.out rfl).mono fun e w'' ⟨A', c', h1, h2, h3, h4⟩ => ⟨_, h1, h4, A', c', rfl, h2.less hG.2⟩)
  · refine stepF_chain 0 rfl (by decide) [1, 8] (by kernel_rfl) (by decide) rfl fun us w' hB hG hV hR => ?_
    have e1 : us 1 = .slice (some ⟨g, 16, none⟩) (N - 16) (c8 - 16) := hV 1 (by simp)
    have v1 := (frame_at2 (us := us) hl (show (lyT[64]?).join = some 1 from rfl)).trans e1
    obtain ⟨A8, d8, e8, P8⟩ := (show ∃ A c8, us 8 = .slice A 2 c8 ∧ Own .u8 5 w' (g + 1) (.slice A 2 c8) [ck / 256, ck % 256] from hV 8 (by simp))
    have v8 := (frame_at2 (us := us) hl (show (lyT[71]?).join = some 8 from rfl)).trans e8
    generalize frame lyT a0 us = fr at *
    obtain ⟨cur, hc1, hc2, hc3⟩ := (show Own .u8 5 w' (W.heap.size) (.slice (some ⟨g, 0, none⟩) N c8) X0 from hR).copied (by have := LN.out; omega) 16 2 [ck / 256, ck % 256] rfl (by have := LN.out; omega)
    have NP := P8.nums
    obtain ⟨b5, o5, ea5, hb5, hc5⟩ := NP.at_ (by decide)
    subst ea5
    have hcr := run_copy_row (P := Tryd.prog) w' 32 32 3 5 g 16 (N - 16) (c8 - 16) ⟨b5, o5, none⟩ 2 d8 cur 5 ([ck / 256, ck % 256].map (Value.int .u8)) Tryd.underlying32 (by kernel_rfl) hc1 (by have := N10.out; show 2 = min 2 (N - 16); omega) (NP.news rfl) (by have := LN.out; show 16 + 2 ≤ cur.size; omega) (by simp [Value.oneCell'])
    exact copy_J (R := fun v w'' => (OnlyAt g w' w'' ∧ Below g w' w'') ∧ lyR (W.heap.size) g N c8 X0 X1 1 (upd us 9 v) w'') 64 71 32 32 rfl _ _ v1 v8 hcr ⟨⟨OnlyAt.setRow _ _ _, (OnlyAt.setRow _ _ _).1⟩, by rw [← EX.out]; exact hc3⟩
  · intro us w2 hB2 hG hV hR
    have HR := Lib.hid (show Own .u8 5 w2 (W.heap.size) (.slice (some ⟨g, 0, none⟩) N c8) X1 from hR)
    have HG := Lib.hid hG.1
    subst ha0
    simp only [frame, lyT, fill]
    clear hV hR hG hl k3 k4 k10
    go_wp2_with fail
    go_ret2
    exact ⟨_, N, c8, rfl, HR.out.less HBS.out, HBW.out.trans (HG.out.mono HBS.out)⟩
end Go.Proofs.YtniimgbljhmcoaaDoor.sgC

/-
  Parse of some bytes: the program's.
-/
namespace Go.Proofs.YtniimgbljhmcoaaDoor.sgC
open Go.ChangeShapes Go.WideShapes Go.ChangeAt Go.RowKit
open Go.Proofs.YtniimgbljhmcoaaDoor.memC Go.Proofs.YtniimgbljhmcoaaDoor.genC Go.Proofs.YtniimgbljhmcoaaDoor.butC Go.Proofs.YtniimgbljhmcoaaDoor.freeC Go.Proofs.YtniimgbljhmcoaaDoor.adC
open Go.Proofs.YtniimgbljhmcoaaDoor.octC (Fr Rd RdD stopped getZ)
open Go.Proofs.YtniimgbljhmcoaaDoor.opC (Kd OwnP optV)
set_option linter.unusedVariables false
/-- a segment that was read, and an error -/
def PsS (w : World) (P : Int × Sg × List Int) (e : Ending) (w' : World) : Prop :=
  ∃ A n c B m d, e = .returned (.tuple #[.agg (segV P.2.1 A n c B m d), .int .i64 P.1]) ∧ P.2.1.op.sk.length = n ∧ OwnP w' w.heap.size (.slice A n c) P.2.1.op.sk ∧ Own .u8 5 w' w.heap.size (.slice B m d) P.2.2 ∧ Below w.heap.size w w'
/-- what stands while Parse returns -/
structure PaG (w0 Wr : World) (r0 bp bt : Nat) (C : Array Value) (y : Int) (A : Option Addr) (n c : Nat) (l : List (Int × Int)) (B : Option Addr) (mm d : Nat) (X : List Int) (w : World) : Prop where
  bel : Below w0.heap.size Wr w
  pk : w.heap[bp]? = some (.cells C 34 (0, 0))
  told : w.cell? ⟨bt, 0, none⟩ = some (.int .i64 y)
  ownp : OwnP w (r0 + 1) (.slice A n c) l
  own : Own .u8 5 w (r0 + 1) (.slice B mm d) X
theorem PaG.keep {w0 Wr : World} {r0 bp bt : Nat} {C : Array Value} {y : Int} {A : Option Addr} {n c : Nat} {l : List (Int × Int)} {B : Option Addr} {mm d : Nat} {X : List Int} {w w' : World} (h0 : w0.heap.size ≤ r0) (hw : r0 ≤ w.heap.size) (h1 : bp ≠ r0) (h2 : bt ≠ r0) (hd : Below w.heap.size w w' ∨ OnlyAt r0 w w') (h : PaG w0 Wr r0 bp bt C y A n c l B mm d X w) : PaG w0 Wr r0 bp bt C y A n c l B mm d X w' := by
  have hk : ∀ g, r0 + 1 ≤ g → g < w.heap.size → w'.heap[g]? = w.heap[g]? := fun g g1 g2 => by
    rcases hd with hd | hd
    · exact hd.block g g2
    · exact hd.2 g (by omega)
  exact ⟨keep_below hd h0 (by omega) h.bel, keep_row hd h1 h.pk, (by
    rcases hd with hd | hd
    · exact (hd.cell (p := ⟨bt, 0, none⟩) (World.block_lt_of_cell? _ _ h.told)).trans h.told
    · exact (World.cell?_of_block (w := w) (hd.2 bt h2)).trans h.told), OwnP.keep (ps := l) h.ownp hk, h.own.keep hk⟩
def paR (g0 : Nat) (Z T : Array Value) : Nat → (Nat → Value) → World → Prop
  | 0, _, w => w.heap[g0]? = some (.cells Z 34 (0, 0))
  | 1, _, w => w.heap[g0]? = some (.cells T 34 (0, 0))
  | _, _, _ => True
theorem paR.keep (g0 : Nat) (Z T : Array Value) (k : Nat) (us us' : Nat → Value) (w w' : World) (hb : Below w.heap.size w w') (hR : paR g0 Z T k us w) : paR g0 Z T k us' w' := by
  unfold paR at hR ⊢
  split at hR
  · show w'.heap[g0]? = _
    rw [hb.block _ (lt_of_row hR)]; exact hR
  · show w'.heap[g0]? = _
    rw [hb.block _ (lt_of_row hR)]; exact hR
  · trivial
def puV (r0 bp bt : Nat) (x y r : Int) (C : Array Value) : Nat → Value → World → Prop
  | 0, v, _ => v = .agg C
  | 1, v, _ => v = .int .i64 x
  | 2, v, _ => v = .int .i64 y
  | 3, v, w => ∃ g, v = .slice (some ⟨g, 0, none⟩) 2 2 ∧ g ≠ r0 ∧ w.heap[g]? = some (.cells #[.int .i64 x, .int .i64 y] 37 (0, 0))
  | 4, v, _ => v = .int .i64 r
  | 6, v, _ => v = .int .i64 r
  | _, _, _ => True
theorem puV.keep (r0 bp bt : Nat) (x y r : Int) (C : Array Value) (i : Nat) (v : Value) (w w' : World) (hd : Below w.heap.size w w' ∨ OnlyAt r0 w w') (h : puV r0 bp bt x y r C i v w) : puV r0 bp bt x y r C i v w' := by
  by_cases e3 : i = 3
  · subst e3
    obtain ⟨g, h1, h2, h3⟩ := h
    exact ⟨g, h1, h2, keep_row hd h2 h3⟩
  unfold puV at h ⊢
  split at h <;> first | exact h | exact absurd rfl (by assumption)
def puT : List (Option Nat) := [none, none, none, none, none, none, none, some 6, none, none, none, none, none, some 0, some 1, some 2, some 3, some 4]
set_option maxRecDepth 100000 in
set_option maxHeartbeats 4000000 in
theorem cparse_any (C1 C2 : Array Value) (s1 s2 : Bool) (b1 b2 : List Int) (A0 : Option Addr) (n0 c0 : Nat) (bs : List Int) (w : World) (h1 : chkC.AddrC C1 s1 b1) (h2 : chkC.AddrC C2 s2 b2) (hk : Kd w) (hb : Nums .u8 w w.heap.size A0 n0 bs) (hy : ∀ x ∈ bs, Byte x) (hn : n0 ≤ 9000) :
    Calls Tryd.prog 21 #[.agg C1, .agg C2, .slice A0 n0 c0] w (PsS w (sgP (goodG s1 s2 b1 b2 bs) bs)) := by
  have hzv := zeroSeg
  have hmf : ∀ (fn : Fn) (first cap : Array Value) (w : World), (Instr.makeFunc fn first cap).run Tryd.prog w = .ok (.func fn first cap) w := fun _ _ _ _ => rfl
  obtain ⟨s, hs⟩ : ∃ s, s = w.heap.size := ⟨_, rfl⟩
  obtain ⟨W0, hW0⟩ : ∃ W, W = w.alloc (.cells C1 24) := ⟨_, rfl⟩
  have z0 : W0.heap.size = s + 1 := by rw [hW0, alloc_size, hs]
  have B0 : Below w.heap.size w W0 := by rw [hW0]; exact alloc_below _ _
  have D0 : Below w.heap.size w W0 := B0
  obtain ⟨W1, hW1⟩ : ∃ W, W = W0.alloc (.cells C2 24) := ⟨_, rfl⟩
  have z1 : W1.heap.size = s + 2 := by rw [hW1, alloc_size, z0]
  have B1 : Below W0.heap.size W0 W1 := by rw [hW1]; exact alloc_below _ _
  have D1 : Below w.heap.size w W1 := D0.trans (B1.mono (by omega))
  obtain ⟨W2, hW2⟩ : ∃ W, W = W1.alloc (.cells #[.slice A0 n0 c0] 32) := ⟨_, rfl⟩
  have z2 : W2.heap.size = s + 3 := by rw [hW2, alloc_size, z1]
  have B2 : Below W1.heap.size W1 W2 := by rw [hW2]; exact alloc_below _ _
  have D2 : Below w.heap.size w W2 := D1.trans (B2.mono (by omega))
  obtain ⟨W3, hW3⟩ : ∃ W, W = W2.alloc (.cells (segV zSg none 0 0 none 0 0) 34) := ⟨_, rfl⟩
  have z3 : W3.heap.size = s + 4 := by rw [hW3, alloc_size, z2]
  have B3 : Below W2.heap.size W2 W3 := by rw [hW3]; exact alloc_below _ _
  have D3 : Below w.heap.size w W3 := D2.trans (B3.mono (by omega))
  obtain ⟨W4, hW4⟩ : ∃ W, W = W3.alloc (.cells (segV zSg none 0 0 none 0 0) 34) := ⟨_, rfl⟩
  have z4 : W4.heap.size = s + 5 := by rw [hW4, alloc_size, z3]
  have B4 : Below W3.heap.size W3 W4 := by rw [hW4]; exact alloc_below _ _
  have D4 : Below w.heap.size w W4 := D3.trans (B4.mono (by omega))
  obtain ⟨W5, hW5⟩ : ∃ W, W = W4.alloc (.cells #[.int .i64 0] 37) := ⟨_, rfl⟩
  have z5 : W5.heap.size = s + 6 := by rw [hW5, alloc_size, z4]
  have B5 : Below W4.heap.size W4 W5 := by rw [hW5]; exact alloc_below _ _
  have D5 : Below w.heap.size w W5 := D4.trans (B5.mono (by omega))
  obtain ⟨W6, hW6⟩ : ∃ W, W = W5.alloc (.cells #[.int .i64 0] 37) := ⟨_, rfl⟩
  have z6 : W6.heap.size = s + 7 := by rw [hW6, alloc_size, z5]
  have B6 : Below W5.heap.size W5 W6 := by rw [hW6]; exact alloc_below _ _
  have D6 : Below w.heap.size w W6 := D5.trans (B6.mono (by omega))
  have rr05 : W5.heap[s + 3]? = some (.cells (segV zSg none 0 0 none 0 0) 34 (0, 0)) := by rw [B5.block _ (by omega)]; rw [B4.block _ (by omega)]; rw [hW3, show s + 3 = W2.heap.size by omega]; exact heap_alloc_new _ _
  have rbo5 : W5.heap[s + 4]? = some (.cells (segV zSg none 0 0 none 0 0) 34 (0, 0)) := by rw [B5.block _ (by omega)]; rw [hW4, show s + 4 = W3.heap.size by omega]; exact heap_alloc_new _ _
  have rbe5 : W5.heap[s + 5]? = some (.cells #[.int .i64 0] 37 (0, 0)) := by  rw [hW5, show s + 5 = W4.heap.size by omega]; exact heap_alloc_new _ _
  have rg16 : W6.heap[s + 0]? = some (.cells C1 24 (0, 0)) := by rw [B6.block _ (by omega)]; rw [B5.block _ (by omega)]; rw [B4.block _ (by omega)]; rw [B3.block _ (by omega)]; rw [B2.block _ (by omega)]; rw [B1.block _ (by omega)]; rw [hW0, show s + 0 = w.heap.size by omega]; exact heap_alloc_new _ _
  have rg26 : W6.heap[s + 1]? = some (.cells C2 24 (0, 0)) := by rw [B6.block _ (by omega)]; rw [B5.block _ (by omega)]; rw [B4.block _ (by omega)]; rw [B3.block _ (by omega)]; rw [B2.block _ (by omega)]; rw [hW1, show s + 1 = W0.heap.size by omega]; exact heap_alloc_new _ _
  have rbb6 : W6.heap[s + 2]? = some (.cells #[.slice A0 n0 c0] 32 (0, 0)) := by rw [B6.block _ (by omega)]; rw [B5.block _ (by omega)]; rw [B4.block _ (by omega)]; rw [B3.block _ (by omega)]; rw [hW2, show s + 2 = W1.heap.size by omega]; exact heap_alloc_new _ _
  have rr06 : W6.heap[s + 3]? = some (.cells (segV zSg none 0 0 none 0 0) 34 (0, 0)) := by rw [B6.block _ (by omega)]; rw [B5.block _ (by omega)]; rw [B4.block _ (by omega)]; rw [hW3, show s + 3 = W2.heap.size by omega]; exact heap_alloc_new _ _
  have rbo6 : W6.heap[s + 4]? = some (.cells (segV zSg none 0 0 none 0 0) 34 (0, 0)) := by rw [B6.block _ (by omega)]; rw [B5.block _ (by omega)]; rw [hW4, show s + 4 = W3.heap.size by omega]; exact heap_alloc_new _ _
  have rbe6 : W6.heap[s + 5]? = some (.cells #[.int .i64 0] 37 (0, 0)) := by rw [B6.block _ (by omega)]; rw [hW5, show s + 5 = W4.heap.size by omega]; exact heap_alloc_new _ _
  have cbb : W6.cell? ⟨s + 2, 0, none⟩ = some (.slice A0 n0 c0) := by rw [cell_of_row W6 _ 0 _ _ (0, 0) rbb6]; rfl
  have cbe : W6.cell? ⟨s + 5, 0, none⟩ = some (.int .i64 0) := by rw [cell_of_row W6 _ 0 _ _ (0, 0) rbe6]; rfl
  have fbe : W6.frozen? ⟨s + 5, 0, none⟩ = false := frozen_of_row W6 _ 0 _ _ rbe6
  obtain ⟨P, hP⟩ : ∃ P, P = sgP (goodG s1 s2 b1 b2 bs) bs := ⟨_, rfl⟩
  rw [← hP]
  have CL := clo_any (s + 2) s (s + 1) (s + 4) (s + 5) s A0 n0 c0 bs C1 C2 s1 s2 b1 b2 W6 h1 h2 (hk.below D6 hk.lt) (by rw [hs]; exact hk.lt) (by rw [hs]; exact hb.below D6) hn hy ⟨by omega, by omega⟩ cbb rg16 rg26 rbo6 cbe fbe (by omega) ⟨by omega, by omega⟩ ⟨by omega, by omega⟩ ⟨by omega, by omega⟩ P hP
  have PM : P.2.1.op.mac.length = 12 := by rw [hP]; exact sgP_mac _ hy
  have h4z : P.1 = 4 → P.2 = (zSg, []) := fun h => by rw [hP] at h ⊢; exact sgP_four _ _ h
  have hke : W6.cell? ⟨W5.heap.size, 0, none⟩ = some (.int .i64 0) := by rw [hW6, cell_of_row _ _ 0 _ _ (0, 0) (heap_alloc_new _ _)]; rfl
  have hkf : W6.frozen? ⟨W5.heap.size, 0, none⟩ = false := by rw [hW6]; go_simp
  have CAP : ∃ x y : Int, (if x = 0 then y else x) = P.1 ∧ Calls Tryd.prog 41 #[.func (.func 42) #[] #[.pointer (some ⟨s + 2, 0, none⟩), .pointer (some ⟨s, 0, none⟩), .pointer (some ⟨s + 1, 0, none⟩), .pointer (some ⟨s + 4, 0, none⟩), .pointer (some ⟨s + 5, 0, none⟩)]] W5 (fun e w' => e = .returned (.int .i64 x) ∧ Fr (fun k => k = s + 4 ∨ k = s + 5) W5 w' ∧ CloQ W6 (s + 4) (s + 5) P w' ∧ y = (if P.1 = 4 then 0 else P.1)) := by
    by_cases h4 : P.1 = 4
    · refine ⟨4, 0, by rw [h4]; rfl, ?_⟩
      refine (octC.try_halt 42 _ W5 (fun k => k = s + 4 ∨ k = s + 5) (fun w' => w'.heap[s + 4]? = some (.cells (segV zSg none 0 0 none 0 0) 34 (0, 0)) ∧ w'.cell? ⟨s + 5, 0, none⟩ = some (.int .i64 0) ∧ True) (fun k hk => by omega) (ent_clo _) (fun w1 w2 Bw ⟨q1, q2, _⟩ => ⟨(Bw.block _ (by omega)).trans q1, (Bw.cell (p := ⟨s + 5, 0, none⟩) (show s + 5 < W5.heap.size by omega)).trans q2, trivial⟩) ?_).mono ?_
      · rw [← hW6]
        refine CL.mono fun e w' ⟨q1, q2, A, n, c, B, mm, d, q3, q4, _, _, _, q5⟩ => ⟨by rw [q1, if_pos h4], q2, q5 h4, by rw [q4, if_pos h4], trivial⟩
      · rintro e w' ⟨rfl, F, q1, q2, _⟩
        exact ⟨rfl, F, ⟨none, 0, 0, none, 0, 0, by rw [h4z h4]; exact q1, by rw [if_pos h4]; exact q2, by rw [h4z h4]; rfl, by rw [h4z h4]; exact OwnP.nil _ _, by rw [h4z h4]; exact Own.nil _ _, fun _ => q1⟩, by rw [if_pos h4]⟩
    · refine ⟨0, P.1, rfl, ?_⟩
      have hCL := CL
      rw [if_neg h4, hW6] at hCL
      refine (octC.try_ok 42 _ W5 _ (ent_clo _) hCL fun w' ⟨F, _⟩ => ?_).mono ?_
      · rw [← hW6] at F
        exact ⟨(F.cell (a := ⟨W5.heap.size, 0, none⟩) (show W5.heap.size < W6.heap.size by omega) (show ¬ (W5.heap.size = _ ∨ W5.heap.size = _) by omega)).trans hke, (F.frozen (a := ⟨W5.heap.size, 0, none⟩) (show W5.heap.size < W6.heap.size by omega) (show ¬ (W5.heap.size = _ ∨ W5.heap.size = _) by omega)).trans hkf⟩
      · rintro e w' ⟨rfl, w1, ⟨F, A, n, c, B, mm, d, q1, q2, q3, q4, q5, q6⟩, rfl⟩
        rw [← hW6] at F q4 q5
        have hs2 : ∀ k, k ≠ W5.heap.size → (w1.setCell ⟨W5.heap.size, 0, none⟩ (.int .i64 0)).heap[k]? = w1.heap[k]? := fun k hk => Below.heap_setCell _ _ _ _ hk
        have hz : (w1.setCell ⟨W5.heap.size, 0, none⟩ (.int .i64 0)).heap.size = w1.heap.size := by simp [World.setCell]
        refine ⟨rfl, ⟨F.os.trans B6.os, F.tape.trans B6.tape, F.output.trans B6.output, by rw [hz]; exact Nat.le_trans B6.size F.size, fun k hk hn => ?_⟩, ⟨A, n, c, B, mm, d, (hs2 _ (by omega)).trans q1, (World.cell?_of_block (w := w1) (hs2 (s + 5) (by omega))).trans q2, q3, OwnP.keep (ps := P.2.1.op.sk) q4 (fun g g1 g2 => hs2 g (by omega)), q5.keep (fun g g1 g2 => hs2 g (by omega)), fun h => absurd h h4⟩, by rw [if_neg h4]⟩
        rw [hs2 k (by omega), F.block k (by omega) hn, B6.block k hk]
  obtain ⟨x, y, hxy, T0⟩ := CAP
  have T := Lib.hid (T0.mono fun e w' h => (show e = .returned (.int .i64 x) ∧ Below w.heap.size w w' ∧ w'.heap[s + 3]? = some (.cells (segV zSg none 0 0 none 0 0) 34 (0, 0)) ∧ ∃ A n c B mm d, P.2.1.op.sk.length = n ∧ PaG w w' (s + 3) (s + 4) (s + 5) (segV P.2.1 A n c B mm d) y A n c P.2.1.op.sk B mm d P.2.2 w' by
    obtain ⟨he, F, ⟨A, n, c, B, mm, d, q1, q2, q3, q4, q5, _⟩, hyy⟩ := h
    refine ⟨he, ⟨F.os.trans D5.os, F.tape.trans D5.tape, F.output.trans D5.output, Nat.le_trans D5.size F.size, fun k hk => (F.block k (by omega) (by omega)).trans (D5.block k hk)⟩, by rw [F.block _ (by omega) (by omega)]; exact rr05, A, n, c, B, mm, d, q3, ⟨Below.refl _ _, q1, by rw [q2, hyy], OwnP.less q4 (by omega), q5.less (by omega)⟩⟩))
  have EXY := Lib.hid hxy
  have UPP := Lib.hid (fun A n c B m d => (segC PM A n c B m d).info)
  have OPP := Lib.hid (fun A n c B m d => seg_one P.2.1 A n c B m d)
  have SPP := Lib.hid (fun A n c B m d => seg_size (s := zSg) (s' := P.2.1) opC.zOpt_ok.lm PM none A 0 0 n c none B 0 0 m d)
  have HS := Lib.hid hs
  clear T0 hxy cbb cbe fbe CL h4z hke hkf PM hP hb hy hn hk h1 h2 B0 D0 B1 D1 B2 D2 B3 D3 B4 D4 B5 D5 B6 D6 rg16 rg26 rbb6 rr06 rbo6 rbe6 rr05 rbo5 rbe5 hW6 z5 z6 hs
  generalize hZ : segV zSg none 0 0 none 0 0 = Z at *
  clear hZ
  go_enter Tryd.func21, Tryd.ntmps21
  go_upto_region 3 with fail
  rw [← hW0, ← hW1, ← hW2, ← hW3, ← hW4, ← hW5]
  try rw [z0]
  try rw [z1]
  try rw [z2]
  try rw [z3]
  try rw [z4]
  try rw [show w.heap.size = s from HS.out.symm]
  clear hW0 hW1 hW2 hW3 hW4 hW5 z0 z1 z2 z3 z4 hzv
  go_upto_region 4 with (first
    | (go_at_call 41; (refine T.out.mono ?_); rintro e Wr ⟨rfl, BR, R0, A, n, c, B, mm, d, hl, G0⟩
       have HBR := Lib.hid BR
       have HR0 := Lib.hid R0
       have HG := Lib.hid G0
       have HL := Lib.hid hl
       clear BR R0 G0 hl))
  have UP := Lib.hid (UPP.out A n c B mm d)
  have SP := Lib.hid (SPP.out A n c B mm d)
  have OP := Lib.hid (OPP.out A n c B mm d)
  clear UPP SPP OPP T hmf
  obtain ⟨r, hr⟩ : ∃ r : Int, r = (if x = 0 then y else x) := ⟨_, rfl⟩
  have ER := Lib.hid hr.symm
  clear hr
  have FIN := Lib.hid (fun w2 (h : PaG w Wr (s + 3) (s + 4) (s + 5) (segV P.2.1 A n c B mm d) y A n c P.2.1.op.sk B mm d P.2.2 w2) => (show PsS w P (.returned (.tuple #[.agg (segV P.2.1 A n c B mm d), .int .i64 r])) w2 from ⟨A, n, c, B, mm, d, by rw [← ER.out, EXY.out], HL.out, OwnP.less h.ownp (by have := HS.out; omega), h.own.less (by have := HS.out; omega), HBR.out.trans h.bel⟩))
  generalize segV P.2.1 A n c B mm d = C at *
  generalize P.2.1.op.sk = l at *
  generalize P.2.2 = X at *
  have L0 := Lib.hid (show w.heap.size ≤ s + 3 by have := HS.out; omega)
  have N1 := Lib.hid (show s + 4 ≠ s + 3 by omega)
  have N2 := Lib.hid (show s + 5 ≠ s + 3 by omega)
  have LR0 := Lib.hid (lt_of_row HR0.out)
  clear EXY
  refine with_act fun a0 ha0 => ?_
  have hl : puT.length = a0.tmps.size := by rw [ha0]; rfl
  have k6 : a0.tmps[6]?.getD undef = .pointer (some ⟨(s + 3), 0, none⟩) := by rw [ha0]; rfl
  have k8 : a0.tmps[8]?.getD undef = .pointer (some ⟨(s + 4), 0, none⟩) := by rw [ha0]; rfl
  have k9 : a0.tmps[9]?.getD undef = .pointer (some ⟨(s + 5), 0, none⟩) := by rw [ha0]; rfl
  have k10 : a0.tmps[10]?.getD undef = .int .i64 x := by rw [ha0]; rfl
  refine wp_region_chd (by kernel_rfl) puT (by kernel_rfl) (by kernel_rfl) hl (fun i => if i = 6 then .int .i64 0 else undef) (by rw [ha0]; rfl) ((s + 3)) (OnlyAt (s + 3)) [5] (by kernel_rfl) (by decide) (by decide) (fun w' => PaG w Wr (s + 3) (s + 4) (s + 5) C y A n c l B mm d X w' ∧ (s + 3) < w'.heap.size) (puV (s + 3) (s + 4) (s + 5) x y r C) (paR (s + 3) Z C) (Nat.le_of_lt LR0.out) ⟨HG.out.keep L0.out (Nat.le_of_lt LR0.out) N1.out N2.out (.inl (Below.refl _ _).drew), LR0.out⟩ HR0.out (fun w1 w2 hb hd h => ⟨h.1.keep L0.out (Nat.le_of_lt h.2) N1.out N2.out hd, by rcases hd with hd | hd; exact Nat.lt_of_lt_of_le h.2 hd.size; exact Nat.lt_of_lt_of_le h.2 hd.1.size⟩) (fun i v w w' _ hd h => puV.keep _ _ _ _ _ _ _ i v w w' hd h) (fun k us us' w w' _ _ hb hR => paR.keep _ _ _ k us us' w w' hb hR) ⟨?_, ?_, ?_, ?_, ?_, ?_, ?_, trivial⟩ ?_
  · refine stepD_val [] (by kernel_rfl) (by decide) (by decide) rfl fun us w' hB hG hV => ?_
    have o8 := (frame_old2 (us := us) (a := a0) (show (puT[8]?).join = none from rfl)).trans k8
    have hg1 := hG.1.pk
    generalize frame puT a0 us = fr at *
    exact load_C 34 8 rfl ((s + 4)) o8 _ _ (0, 0) _ hg1 Tryd.underlying34 rfl UP.out rfl
  · refine stepD_val [] (by kernel_rfl) (by decide) (by decide) rfl fun us w' hB hG hV => ?_
    have o10 := (frame_old2 (us := us) (a := a0) (show (puT[10]?).join = none from rfl)).trans k10
    generalize frame puT a0 us = fr at *
    exact val_C (v := .int .i64 x) (w' := w') (by go_simp) (Below.refl _ _) rfl
  · refine stepD_val [] (by kernel_rfl) (by decide) (by decide) rfl fun us w' hB hG hV => ?_
    have o9 := (frame_old2 (us := us) (a := a0) (show (puT[9]?).join = none from rfl)).trans k9
    have hc := hG.1.told
    generalize frame puT a0 us = fr at *
    exact val_C (v := .int .i64 y) (w' := w') (by go_simp) (Below.refl _ _) rfl
  · refine stepD_val [1, 2] (by kernel_rfl) (by decide) (by decide) rfl fun us w' hB hG hV => ?_
    have e1 : us 1 = .int .i64 x := hV 1 (by simp)
    have v1 := (frame_at2 (us := us) hl (show (puT[14]?).join = some 1 from rfl)).trans e1
    have e2 : us 2 = .int .i64 y := hV 2 (by simp)
    have v2 := (frame_at2 (us := us) hl (show (puT[15]?).join = some 2 from rfl)).trans e2
    generalize frame puT a0 us = fr at *
    exact val_C (v := .slice (some ⟨w'.heap.size, 0, none⟩) 2 2) (w' := w'.alloc (.cells #[.int .i64 x, .int .i64 y] 37)) (by go_simp) (alloc_below _ _) ⟨_, rfl, (Nat.ne_of_gt hG.2), heap_alloc_new _ _⟩
  · refine stepD_val [3] (by kernel_rfl) (by decide) (by decide) rfl fun us w' hB hG hV => ?_
    obtain ⟨g3, e3, n3, r3⟩ := (show ∃ g, us 3 = .slice (some ⟨g, 0, none⟩) 2 2 ∧ g ≠ (s + 3) ∧ w'.heap[g]? = some (.cells #[.int .i64 x, .int .i64 y] 37 (0, 0)) from hV 3 (by simp))
    have v3 := (frame_at2 (us := us) hl (show (puT[16]?).join = some 3 from rfl)).trans e3
    generalize frame puT a0 us = fr at *
    exact call_C (f := 46) (args := #[.slice (some ⟨g3, 0, none⟩) 2 2]) (by go_simp) ((pkC.cor_any x y g3 w' r3).mono fun e w'' h => ⟨.int .i64 r, by rw [h.1, ER.out], h.2 ▸ Below.refl _ _, rfl⟩)
  · refine stepD_chain 0 rfl (by decide) [0] (by kernel_rfl) (by decide) rfl fun us w' hB hG hV hR => ?_
    have e0 : us 0 = .agg C := hV 0 (by simp)
    have v0 := (frame_at2 (us := us) hl (show (puT[13]?).join = some 0 from rfl)).trans e0
    have o6 := (frame_old2 (us := us) (a := a0) (show (puT[6]?).join = none from rfl)).trans k6
    generalize frame puT a0 us = fr at *
    exact store_J (R := fun v w'' => (OnlyAt (s + 3) w' w'' ∧ Below (s + 3) w' w'') ∧ paR (s + 3) Z C 1 (upd us 5 v) w'') 34 6 13 rfl (s + 3) C o6 v0 _ _ hR UP.out SP.out OP.out ⟨⟨OnlyAt.setRow _ _ _, (OnlyAt.setRow _ _ _).1⟩, setRow_heap _ _ _ _ _ _ hR⟩
  · refine stepD_val [4] (by kernel_rfl) (by decide) (by decide) rfl fun us w' hB hG hV => ?_
    have e4 : us 4 = .int .i64 r := hV 4 (by simp)
    have v4 := (frame_at2 (us := us) hl (show (puT[17]?).join = some 4 from rfl)).trans e4
    generalize frame puT a0 us = fr at *
    exact val_C (v := .int .i64 r) (w' := w') (by go_simp) (Below.refl _ _) rfl
  · intro us w2 hB2 hG hV hR
    have e6 : us 6 = .int .i64 r := hV 6 (by decide) (by decide)
    have hR1 := Lib.hid (show w2.heap[(s + 3)]? = some (.cells C 34 (0, 0)) from hR)
    have HG2 := Lib.hid hG.1
    subst ha0
    simp only [frame, puT, fill]
    rw [e6]
    clear hV hR hG hl k6 k8 k9 k10 e6
    go_wp2_with fail
    refine bodyPost_ret (v := .tuple #[.agg C, .int .i64 r]) (adC.results_cell_tmp Tryd.results21 _ _ (s + 3) _ _ _ _ _ (by rfl) hR1.out Tryd.underlying34 rfl UP.out (by rfl)) rfl ?_
    exact FIN.out w2 HG2.out
end Go.Proofs.YtniimgbljhmcoaaDoor.sgC

/-
  The statements' probe: an MSS laid, and read; whether there are too many pairs.
-/
namespace Go.Proofs.YtniimgbljhmcoaaDoor.opC
open Go.ChangeShapes Go.WideShapes Go.ChangeAt Go.RowKit
open Go.Proofs.YtniimgbljhmcoaaDoor.memC Go.Proofs.YtniimgbljhmcoaaDoor.genC Go.Proofs.YtniimgbljhmcoaaDoor.butC Go.Proofs.YtniimgbljhmcoaaDoor.freeC Go.Proofs.YtniimgbljhmcoaaDoor.adC
open Go.Proofs.YtniimgbljhmcoaaDoor.pkC (OwnE)
set_option linter.unusedVariables false
def kO : Opt := { zOpt with hm := true, ms := 1460 }
end Go.Proofs.YtniimgbljhmcoaaDoor.opC

/-
  The walks of OptsBack and OptsAgain.
-/
namespace Go.Proofs.YtniimgbljhmcoaaDoor.opC
open Go.ChangeShapes Go.WideShapes Go.ChangeAt Go.RowKit
open Go.Proofs.YtniimgbljhmcoaaDoor.memC Go.Proofs.YtniimgbljhmcoaaDoor.genC Go.Proofs.YtniimgbljhmcoaaDoor.butC Go.Proofs.YtniimgbljhmcoaaDoor.freeC Go.Proofs.YtniimgbljhmcoaaDoor.adC
open Go.Proofs.YtniimgbljhmcoaaDoor.pkC (OwnE)
set_option linter.unusedVariables false
theorem may_size {o : Opt} (h : mayB o = true) : sizeN o ≤ 40 := by
  simp only [mayB, Bool.and_eq_true, decide_eq_true_eq] at h
  exact h.2.2.2
theorem ps_lay {o : Opt} (ho : o.Ok) (h : mayB o = true) : psE (layL o) = 0 ∧ psO (layL o) = o := by
  have e := psA_lay (may_good ho h)
  have hl : ¬ 40 < (layL o).length := by rw [lay_len ho.lm]; have := may_size h; omega
  unfold psE psO
  rw [if_neg hl, if_neg hl, e]
  exact ⟨rfl, rfl⟩
end Go.Proofs.YtniimgbljhmcoaaDoor.opC

/-
  What is laid is parsed: over numbers.
-/
namespace Go.Proofs.YtniimgbljhmcoaaDoor.sgC
open Go.ChangeShapes Go.WideShapes Go.ChangeAt Go.RowKit
open Go.Proofs.YtniimgbljhmcoaaDoor.memC Go.Proofs.YtniimgbljhmcoaaDoor.genC Go.Proofs.YtniimgbljhmcoaaDoor.butC Go.Proofs.YtniimgbljhmcoaaDoor.freeC Go.Proofs.YtniimgbljhmcoaaDoor.adC
open Go.Proofs.YtniimgbljhmcoaaDoor.octC (numL getZ putL)
open Go.Proofs.YtniimgbljhmcoaaDoor.opC (zOpt zOpt_ok U32 psE psO mayB sizeN size_mod)
set_option linter.unusedVariables false
theorem numL2' (x : Int) : numL 2 x = [x / 256 % 256, x % 256] := by simp [octC.numL, octC.byteAt]
theorem numL4' (x : Int) : numL 4 x = [x / 16777216 % 256, x / 65536 % 256, x / 256 % 256, x % 256] := by simp [octC.numL, octC.byteAt]
theorem getZ2 {x : Int} (h : U16 x) : getZ [x / 256 % 256, x % 256] = x := by
  rw [← numL2', octC.getZ_numL 2 x h.1]
  unfold U16 at h
  exact Int.emod_eq_of_lt h.1 (by omega)
theorem getZ4 {x : Int} (h : U32 x) : getZ [x / 16777216 % 256, x / 65536 % 256, x / 256 % 256, x % 256] = x := by
  rw [← numL4', octC.getZ_numL 4 x h.1]
  unfold U32 at h
  exact Int.emod_eq_of_lt h.1 (by omega)
theorem head_lit (s : Sg) (ol : Nat) (ck : Int) : headS s ol ck = [s.sp / 256 % 256, s.sp % 256, s.dp / 256 % 256, s.dp % 256, s.sq / 16777216 % 256, s.sq / 65536 % 256, s.sq / 256 % 256, s.sq % 256, s.ak / 16777216 % 256, s.ak / 65536 % 256, s.ak / 256 % 256, s.ak % 256, (((20 + ol) / 4 * 16 : Nat) : Int), s.fl, s.wi / 256 % 256, s.wi % 256, ck / 256 % 256, ck % 256, s.ur / 256 % 256, s.ur % 256] := by
  unfold headS putL
  simp only [List.flatMap_cons, List.flatMap_nil, List.append_nil, numL2', numL4', List.nil_append, List.cons_append]
theorem hd_lay {s : Sg} (hs : s.Ok) (hf : s.fl ≤ 63) (ol : Nat) (ck : Int) : hdS (headS s ol ck) = { s with op := zOpt } := by
  have hb := hs.fl
  unfold Byte at hb
  rw [head_lit]
  unfold hdS at_
  simp only [List.drop, List.take, List.getD_cons_succ, List.getD_cons_zero, getZ2 hs.sp, getZ2 hs.dp, getZ4 hs.sq, getZ4 hs.ak, getZ2 hs.wi, getZ2 hs.ur]
  rw [show s.fl % 64 = s.fl by omega]
theorem hn_lay (s : Sg) {ol : Nat} (h : ol % 4 = 0) (ck : Int) : hdN (headS s ol ck) = 20 + (ol : Int) := by
  rw [head_lit]
  unfold hdN
  simp only [List.getD_cons_succ, List.getD_cons_zero]
  omega
theorem sg_lay {s : Sg} (hs : s.Ok) {xs : List Int} (hm : mayS s xs.length = true) (ck : Int) : sgP true (bytesS s xs ck) = (0, s, xs) := by
  have hm0 := hm
  unfold mayS at hm0
  simp only [Bool.and_eq_true, decide_eq_true_eq] at hm0
  have hmb := hm0.1
  have hl4 : (opC.layL s.op).length % 4 = 0 := by rw [opC.lay_len hs.op.lm]; exact size_mod _
  have hbl := bytesS_len s xs ck
  have hh := headS_len s (opC.layL s.op).length ck
  obtain ⟨q1, q2⟩ := opC.ps_lay hs.op hmb
  have t1 : (bytesS s xs ck).take 20 = headS s (opC.layL s.op).length ck := by unfold bytesS; exact List.take_left' hh
  have t2 : (bytesS s xs ck).drop 20 = opC.layL s.op ++ xs := by unfold bytesS; exact List.drop_left' hh
  have n1 : sgN (bytesS s xs ck) = 20 + ((opC.layL s.op).length : Int) := by unfold sgN; rw [t1]; exact hn_lay s hl4 ck
  have n2 : (sgN (bytesS s xs ck)).toNat = 20 + (opC.layL s.op).length := by rw [n1]; omega
  have o1 : sgO (bytesS s xs ck) = opC.layL s.op := by unfold sgO; rw [n2, t2]; exact List.take_left' (by omega)
  have d1 : sgD (bytesS s xs ck) = xs := by unfold sgD; rw [n2, ← List.drop_drop, t2]; exact List.drop_left' rfl
  have r1 : sgR (bytesS s xs ck) = s := by unfold sgR; rw [t1, hd_lay hs hm0.2.1, o1, q2]
  unfold sgP
  rw [o1, d1, r1, n1, q1, if_neg (by omega), if_neg (by omega), if_neg (by omega), if_neg (by decide), if_neg (by decide), if_pos hm]
theorem sum_full {S f : Int} (hS : 0 ≤ S) (hf : f = 65535 - chkM.fo S) : chkM.fo (S + f) = 65535 := by
  subst hf; unfold chkM.fo; (repeat' split) <;> omega
theorem wsum2 {x : Int} (h0 : 0 ≤ x) (h1 : x ≤ 65535) : chkM.wsum (numL 2 x) = x := by
  rw [numL2 h0 h1]
  simp [chkM.wsum]
  omega
theorem wsum_ck (s : Sg) (xs : List Int) {ck : Int} (h0 : 0 ≤ ck) (h1 : ck ≤ 65535) : chkM.wsum (bytesS s xs ck) = chkM.wsum (bytesS s xs 0) + ck := by
  have hl := h16_len s (opC.layL s.op).length
  unfold bytesS
  rw [headS_16, headS_16]
  simp only [List.append_assoc]
  rw [chkM.wsum_append (h16 s (opC.layL s.op).length) (numL 2 ck ++ _) (by rw [hl]), chkM.wsum_append (h16 s (opC.layL s.op).length) (numL 2 0 ++ _) (by rw [hl]), chkM.wsum_append (numL 2 ck) _ (by rw [opC.numL_len]), chkM.wsum_append (numL 2 0) _ (by rw [opC.numL_len]), wsum2 h0 h1, wsum2 (by decide) (by decide)]
  omega
theorem good_lay {C1 C2 : Array Value} {s1 s2 : Bool} {b1 b2 : List Int} (h1 : chkC.AddrC C1 s1 b1) (h2 : chkC.AddrC C2 s2 b2) {s : Sg} (hs : s.Ok) {xs : List Int} (hm : mayS s xs.length = true) (hx : ∀ x ∈ xs, Byte x) (hn : xs.length ≤ 9000) :
    goodG s1 s2 b1 b2 (bytesS s xs (ckS s1 s2 b1 b2 s xs)) = true := by
  have hm0 := hm
  unfold mayS at hm0
  simp only [Bool.and_eq_true, decide_eq_true_eq] at hm0
  have hmb := hm0.1
  have hol : (opC.layL s.op).length ≤ 40 := by rw [opC.lay_len hs.op.lm]; simp only [mayB, Bool.and_eq_true, decide_eq_true_eq] at hmb; exact hmb.2.2.2
  have cb := ckS_bd s1 s2 b1 b2 s xs
  have hw := wsum_ck s xs cb.1 cb.2
  have l0 := bytesS_len s xs 0
  have l1 := bytesS_len s xs (ckS s1 s2 b1 b2 s xs)
  have y0 := bytesS_byte hs hmb hx 0
  have y1 : ∀ x ∈ pseL s1 s2 b1 b2 6 ((bytesS s xs 0).length : Nat), Byte x := pse_byte h1 h2 (by decide) (by decide) (by omega) (by omega)
  have p0 := (chkM.wsum_bd _ y0).1
  have p1 := (chkM.wsum_bd _ y1).1
  unfold goodG sumG
  rw [hw, l1, ← l0]
  refine decide_eq_true ?_
  have := sum_full (S := chkM.wsum (pseL s1 s2 b1 b2 6 ((bytesS s xs 0).length : Nat)) + chkM.wsum (bytesS s xs 0)) (f := ckS s1 s2 b1 b2 s xs) (by omega) rfl
  rw [← Int.add_assoc]
  exact this
/-- what is laid is parsed -/
theorem laid {C1 C2 : Array Value} {s1 s2 : Bool} {b1 b2 : List Int} (h1 : chkC.AddrC C1 s1 b1) (h2 : chkC.AddrC C2 s2 b2) {s : Sg} (hs : s.Ok) {xs : List Int} (hm : mayS s xs.length = true) (hx : ∀ x ∈ xs, Byte x) (hn : xs.length ≤ 9000) :
    laysL s1 s2 b1 b2 s xs = bytesS s xs (ckS s1 s2 b1 b2 s xs) ∧ laysE s xs.length = 0 ∧ sgP (goodG s1 s2 b1 b2 (laysL s1 s2 b1 b2 s xs)) (laysL s1 s2 b1 b2 s xs) = (0, s, xs) ∧ (laysL s1 s2 b1 b2 s xs).length ≤ 60 + xs.length ∧ ∀ x ∈ laysL s1 s2 b1 b2 s xs, Byte x := by
  have hm0 := hm
  unfold mayS at hm0
  simp only [Bool.and_eq_true, decide_eq_true_eq] at hm0
  have hmb := hm0.1
  have hol : (opC.layL s.op).length ≤ 40 := by rw [opC.lay_len hs.op.lm]; simp only [mayB, Bool.and_eq_true, decide_eq_true_eq] at hmb; exact hmb.2.2.2
  have e : laysL s1 s2 b1 b2 s xs = bytesS s xs (ckS s1 s2 b1 b2 s xs) := by unfold laysL; rw [if_pos hm]
  refine ⟨e, by unfold laysE; rw [if_pos hm], ?_, ?_, ?_⟩
  · rw [e, good_lay h1 h2 hs hm hx hn, sg_lay hs hm]
  · rw [e, bytesS_len]; omega
  · rw [e]; exact bytesS_byte hs hmb hx _
end Go.Proofs.YtniimgbljhmcoaaDoor.sgC
