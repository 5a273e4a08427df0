/-
  2 texts of a proof, joined.
-/
import Derived.Test.YtmbfgolcinniiaaMg25

/-
  What is laid is parsed; what is parsed may be, and may be laid: over numbers.
-/
namespace Go.Proofs.Ytmbfgolcinniiaa.icC
open Go.ChangeShapes Go.WideShapes Go.ChangeAt Go.RowKit
open Go.Proofs.Ytmbfgolcinniiaa.memC Go.Proofs.Ytmbfgolcinniiaa.genC Go.Proofs.Ytmbfgolcinniiaa.butC Go.Proofs.Ytmbfgolcinniiaa.freeC Go.Proofs.Ytmbfgolcinniiaa.adC
open Go.Proofs.Ytmbfgolcinniiaa.octC (numL getZ putL)
set_option linter.unusedVariables false
theorem numL2I (x : Int) : numL 2 x = [x / 256 % 256, x % 256] := by simp [octC.numL, octC.byteAt]
theorem numL4I (x : Int) : numL 4 x = [x / 16777216 % 256, x / 65536 % 256, x / 256 % 256, x % 256] := by simp [octC.numL, octC.byteAt]
theorem getZ2I {x : Int} (h : U16 x) : getZ [x / 256 % 256, x % 256] = x := by
  unfold U16 at h
  show (0 * 256 + x / 256 % 256) * 256 + x % 256 = x
  omega
theorem getZ4I {x : Int} (h : U32 x) : getZ [x / 16777216 % 256, x / 65536 % 256, x / 256 % 256, x % 256] = x := by
  unfold U32 at h
  show (((0 * 256 + x / 16777216 % 256) * 256 + x / 65536 % 256) * 256 + x / 256 % 256) * 256 + x % 256 = x
  omega
theorem sum_fullI {S f : Int} (hS : 0 ≤ S) (hf : f = 65535 - chkM.fo S) : chkM.fo (S + f) = 65535 := by
  subst hf; unfold chkM.fo; (repeat' split) <;> omega
theorem wsum_headI (m : Ms) (six : Bool) {ck : Int} (h0 : 0 ≤ ck) (h1 : ck ≤ 65535) : chkM.wsum (headM m six ck) = chkM.wsum (headM m six 0) + ck := by
  unfold headM
  rw [numL2I, numL2I, numL4I]
  split <;> simp only [chkM.wsum, List.cons_append, List.nil_append] <;> omega
theorem wsum_ckI (m : Ms) (six : Bool) (xs : List Int) {ck : Int} (h0 : 0 ≤ ck) (h1 : ck ≤ 65535) : chkM.wsum (bytesM m six xs ck) = chkM.wsum (bytesM m six xs 0) + ck := by
  unfold bytesM
  rw [chkM.wsum_append _ _ (by rw [headM_len]), chkM.wsum_append _ _ (by rw [headM_len]), wsum_headI m six h0 h1]
  omega
theorem ckM_bd (s1 s2 : Bool) (b1 b2 : List Int) (m : Ms) (xs : List Int) : 0 ≤ ckM s1 s2 b1 b2 m xs ∧ ckM s1 s2 b1 b2 m xs ≤ 65535 := by
  have := sumM_bd s1 s2 b1 b2 (bytesM m s1 xs 0)
  unfold ckM; omega
theorem good_layI {C1 C2 : Array Value} {s1 s2 : Bool} {b1 b2 : List Int} (h1 : chkC.AddrC C1 s1 b1) (h2 : chkC.AddrC C2 s2 b2) {m : Ms} (hm : m.Ok) {xs : List Int} (hx : ∀ x ∈ xs, Byte x) (hn : xs.length ≤ 9000) :
    goodI s1 s2 b1 b2 (bytesM m s1 xs (ckM s1 s2 b1 b2 m xs)) = true := by
  have cb := ckM_bd s1 s2 b1 b2 m xs
  have hw := wsum_ckI m s1 xs cb.1 cb.2
  have l0 := bytesM_len m s1 xs 0
  have l1 := bytesM_len m s1 xs (ckM s1 s2 b1 b2 m xs)
  have p0 := (chkM.wsum_bd _ (bytesM_byte hm hx (six := s1) (ck := 0) (by decide) (by decide))).1
  unfold goodI sumM
  refine decide_eq_true ?_
  cases s1
  · rw [if_neg (by decide), hw]
    exact sum_fullI p0 rfl
  · have y1 : ∀ x ∈ pseC.pseL true s2 b1 b2 58 ((bytesM m true xs 0).length : Nat), Byte x := pseC.pse_byte h1 h2 (by decide) (by decide) (by omega) (by omega)
    have p1 := (chkM.wsum_bd _ y1).1
    rw [if_pos rfl, hw, l1, ← l0, ← Int.add_assoc]
    exact sum_fullI (by omega) rfl
theorem loop_at {six : Bool} {x0 x1 : Int} {n k : Nat} {H m : Ms} (hh : ∀ j, 1 ≤ j → j < k → hitM six x0 x1 j = false) (hk : hitM six x0 x1 k = true) (hm : keptM { H with ki := (k : Int) } = m) (hy : mayM m n six = true) : ∀ f j, 1 ≤ j → j ≤ k → k < j + f → loopM six x0 x1 n f j H = some m
  | 0, j, h1, h2, h3 => by omega
  | f + 1, j, h1, h2, h3 => by
    unfold loopM
    by_cases e : j = k
    · subst e
      rw [if_pos hk, hm, if_pos hy]
    · rw [if_neg (by rw [hh j h1 (by omega)]; decide)]
      exact loop_at hh hk hm hy f (j + 1) (by omega) (by omega) (by omega)
theorem loop_some {six : Bool} {x0 x1 : Int} {n : Nat} : ∀ (f k : Nat) (H m : Ms), 1 ≤ k → k + f ≤ 6 → H.Ok → (H.co = x1 ∨ H.co = 0) → loopM six x0 x1 n f k H = some m → m.Ok ∧ mayM m n six = true ∧ (m.co = x1 ∨ m.co = 0) ∧ ∃ j : Nat, m.ki = (j : Int) ∧ 1 ≤ j ∧ j ≤ 5 ∧ hitM six x0 x1 j = true
  | 0, k, H, m, h1, h2, hH, hc, h => by simp [loopM] at h
  | f + 1, k, H, m, h1, h2, hH, hc, h => by
    unfold loopM at h
    have hO : Ms.Ok { H with ki := (k : Int) } := ⟨by unfold I64; show _ ≤ (k : Int) ∧ (k : Int) ≤ _; omega, hH.co, hH.id, hH.sq, hH.mt⟩
    have hO2 := keptM_ok hO
    have hc2 : (keptM { H with ki := (k : Int) }).co = x1 ∨ (keptM { H with ki := (k : Int) }).co = 0 := by
      unfold keptM
      (repeat' split) <;> first | exact .inr rfl | exact hc
    by_cases hi : hitM six x0 x1 k = true
    · rw [if_pos hi] at h
      by_cases hy : mayM (keptM { H with ki := (k : Int) }) n six = true
      · rw [if_pos hy] at h
        cases h
        exact ⟨hO2, hy, hc2, k, keptM_ki _, h1, by omega, hi⟩
      · rw [if_neg hy] at h
        exact loop_some f (k + 1) _ m (by omega) (by omega) hO2 hc2 h
    · rw [if_neg hi] at h
      exact loop_some f (k + 1) H m (by omega) (by omega) hH hc h
theorem mayM_parts {m : Ms} {n : Nat} {six : Bool} (h : mayM m n six = true) : 1 ≤ m.ki ∧ m.ki ≤ 5 ∧ keptM m = m ∧ n ≤ 1400 ∧ (six = true ∨ m.mt ≤ 65535) := by
  unfold mayM at h
  simp only [Bool.and_eq_true, decide_eq_true_eq, Bool.or_eq_true] at h
  exact ⟨h.1, h.2.1, h.2.2.1, h.2.2.2.1, h.2.2.2.2⟩
/-- what stands in the bytes laid -/
theorem head_lay {m : Ms} (hm : m.Ok) (six : Bool) (xs : List Int) (ck : Int) : (bytesM m six xs ck).getD 0 0 = tyM m.ki.toNat six ∧ (bytesM m six xs ck).getD 1 0 = coM m six ∧ (bytesM m six xs ck).drop 8 = xs ∧
    headI (bytesM m six xs ck) = if m.ki = 4 then ⟨0, coM m six, getZ [m.mt / 16777216 % 256, m.mt / 65536 % 256], getZ [m.mt / 256 % 256, m.mt % 256], m.mt⟩ else ⟨0, coM m six, m.id, m.sq, getZ [m.id / 256 % 256, m.id % 256, m.sq / 256 % 256, m.sq % 256]⟩ := by
  unfold headI bytesM headM
  rw [numL2I, numL2I, numL4I]
  by_cases h : m.ki = 4
  · simp only [if_pos h, List.cons_append, List.nil_append, List.getD_cons_succ, List.getD_cons_zero, List.drop_succ_cons, List.drop_zero, List.take_succ_cons, List.take_zero, getZ4I hm.mt]
    repeat' (first | trivial | rfl | apply And.intro)
  · simp only [if_neg h, List.cons_append, List.nil_append, List.getD_cons_succ, List.getD_cons_zero, List.drop_succ_cons, List.drop_zero, List.take_succ_cons, List.take_zero, getZ2I hm.id, getZ2I hm.sq]
    repeat' (first | trivial | rfl | apply And.intro)
theorem layM_parts {m : Ms} {n : Nat} {six : Bool} (h : layM m n six = true) : mayM m n six = true ∧ ¬ (m.ki = 3 ∧ m.co = 4 ∧ six = false) := by
  unfold layM at h
  simp only [Bool.and_eq_true] at h
  refine ⟨h.1, ?_⟩
  rintro ⟨h1, h2, h3⟩
  have h4 := h.2
  rw [decide_eq_true h1, decide_eq_true h2, h3] at h4
  exact absurd h4 (by decide)
theorem hit_at {m : Ms} {n : Nat} {six : Bool} (h : layM m n six = true) : hitM six (tyM m.ki.toNat six) (coM m six) m.ki.toNat = true ∧ ∀ j, 1 ≤ j → j < m.ki.toNat → hitM six (tyM m.ki.toNat six) (coM m six) j = false := by
  obtain ⟨hy, hno⟩ := layM_parts h
  obtain ⟨h1, h5, hk, -, -⟩ := mayM_parts hy
  obtain ⟨k, hk0⟩ : ∃ k : Nat, m.ki = (k : Int) := ⟨m.ki.toNat, by omega⟩
  rw [hk0]
  rw [hk0] at h1 h5 hno
  rw [show ((k : Int)).toNat = k from Int.toNat_natCast k]
  have hco : coM m six = if (k : Int) = 4 ∧ six = false then 4 else m.co := by unfold coM; rw [hk0]
  rw [hco]
  have hc : k = 1 ∨ k = 2 ∨ k = 3 ∨ k = 4 ∨ k = 5 := by omega
  generalize m.co = co at *
  have hj : ∀ (P : Nat → Prop), (k ≤ 5) → (∀ j, 1 ≤ j → j < k → (j = 1 ∨ j = 2 ∨ j = 3 ∨ j = 4) → P j) → ∀ j, 1 ≤ j → j < k → P j := fun P h0 h j a b => h j a b (by omega)
  rcases hc with rfl | rfl | rfl | rfl | rfl <;> cases six
  all_goals
    refine ⟨?_, hj _ (by omega) fun j a b hq => ?_⟩
    · first
        | (unfold hitM tyM; simp; done)
        | (unfold hitM tyM; simp; intro e; exact hno ⟨by omega, e, rfl⟩)
    · rcases hq with rfl | rfl | rfl | rfl <;> first | omega | (unfold hitM tyM; simp; done)
theorem kept_head {m : Ms} (h1 : 1 ≤ m.ki) (h5 : m.ki ≤ 5) (hk : keptM m = m) (six : Bool) (i s q : Int) : keptM { (if m.ki = 4 then (⟨0, coM m six, i, s, m.mt⟩ : Ms) else ⟨0, coM m six, m.id, m.sq, q⟩) with ki := m.ki } = m := by
  by_cases c1 : m.ki = 1 ∨ m.ki = 2
  · rw [if_neg (by omega)]
    unfold keptM at hk ⊢
    rw [if_pos c1] at hk
    simp only [if_pos c1]
    exact hk
  · by_cases c2 : m.ki = 3 ∨ m.ki = 5
    · have hc : coM m six = m.co := by unfold coM; rw [if_neg (by rintro ⟨a, -⟩; omega)]
      rw [if_neg (by omega), hc]
      unfold keptM at hk ⊢
      rw [if_neg c1, if_pos c2] at hk
      simp only [if_neg c1, if_pos c2]
      exact hk
    · have c3 : m.ki = 4 := by omega
      rw [if_pos c3]
      unfold keptM at hk ⊢
      rw [if_neg c1, if_neg c2, if_pos c3] at hk
      simp only [if_neg c1, if_neg c2, if_pos c3]
      exact hk
/-- what is laid is parsed -/
theorem ps_lay {m : Ms} (hm : m.Ok) {xs : List Int} {six : Bool} (h : layM m xs.length six = true) (ck : Int) : psI six true (bytesM m six xs ck) = (0, m, xs) := by
  obtain ⟨hy, hno⟩ := layM_parts h
  obtain ⟨h1, h5, hk, -, -⟩ := mayM_parts hy
  obtain ⟨g0, g1, g2, g3⟩ := head_lay hm six xs ck
  obtain ⟨q1, q2⟩ := hit_at h
  have hl := bytesM_len m six xs ck
  unfold psI
  rw [if_neg (by omega), if_neg (by decide), g0, g1, g2, show (bytesM m six xs ck).length - 8 = xs.length by omega]
  have hK : keptM { (headI (bytesM m six xs ck)) with ki := ((m.ki.toNat : Nat) : Int) } = m := by
    rw [show ((m.ki.toNat : Nat) : Int) = m.ki by omega, g3]
    exact kept_head h1 h5 hk six _ _ _
  rw [loop_at q2 q1 hK hy 5 1 (by omega) (by omega) (by omega)]
  rfl
/-- what is parsed may be laid -/
theorem ps_good {six gd : Bool} {bs : List Int} (hy : ∀ x ∈ bs, Byte x) (hz : ∀ k s, s ≤ 4 → k + s ≤ bs.length → 0 ≤ getZ ((bs.drop k).take s) ∧ getZ ((bs.drop k).take s) < 256 ^ s) {m : Ms} {xs : List Int} (h : psI six gd bs = (0, m, xs)) :
    m.Ok ∧ layM m xs.length six = true ∧ (∀ x ∈ xs, Byte x) ∧ xs.length ≤ 1400 := by
  unfold psI at h
  by_cases h8 : bs.length < 8
  · rw [if_pos h8] at h; cases h
  rw [if_neg h8] at h
  by_cases hg : gd = false
  · rw [if_pos hg] at h; cases h
  rw [if_neg hg] at h
  have hO : (headI bs).Ok := by
    have a := hz 4 2 (by decide) (by omega)
    have b := hz 6 2 (by decide) (by omega)
    have c := hz 4 4 (by decide) (by omega)
    have d : Byte (bs.getD 1 0) := by
      have := octC.getD_byte hy (show 1 < bs.length by omega)
      exact ⟨this.1, this.2⟩
    exact ⟨by unfold I64 headI; show _ ≤ (0 : Int) ∧ (0 : Int) ≤ _; omega, d, ⟨a.1, by have := a.2; show getZ ((bs.drop 4).take 2) ≤ 65535; omega⟩, ⟨b.1, by have := b.2; show getZ ((bs.drop 6).take 2) ≤ 65535; omega⟩, ⟨c.1, by have := c.2; show getZ ((bs.drop 4).take 4) ≤ 4294967295; omega⟩⟩
  cases hL : loopM six (bs.getD 0 0) (bs.getD 1 0) (bs.length - 8) 5 1 (headI bs) with
  | none => rw [hL] at h; cases h
  | some m' =>
    rw [hL] at h
    obtain ⟨h1, h2, h3, j, hj, j1, j5, hi⟩ := loop_some (x1 := bs.getD 1 0) 5 1 (headI bs) m' (by decide) (by decide) hO (.inl rfl) hL
    have e1 : m' = m := congrArg (fun q => q.2.1) h
    have e2 : bs.drop 8 = xs := congrArg (fun q => q.2.2) h
    subst e1
    have hl : xs.length = bs.length - 8 := by rw [← e2, List.length_drop]
    rw [← hl] at h2
    refine ⟨h1, ?_, fun x hx => hy x (by rw [← e2] at hx; exact List.mem_of_mem_drop hx), (mayM_parts h2).2.2.2.1⟩
    unfold layM
    rw [h2, Bool.true_and]
    by_cases q : m'.ki = 3 ∧ m'.co = 4 ∧ six = false
    · exfalso
      obtain ⟨q1, q2, q3⟩ := q
      have j3 : j = 3 := by omega
      subst j3 q3
      have hx1 : bs.getD 1 0 = 4 := by rcases h3 with h3 | h3 <;> omega
      rw [hx1] at hi
      unfold hitM tyM at hi
      simp at hi
      obtain ⟨a, b⟩ := hi
      exact absurd a.symm b
    · cases hb : (decide (m'.ki = 3) && (decide (m'.co = 4) && !six))
      · rfl
      · simp only [Bool.and_eq_true, decide_eq_true_eq, Bool.not_eq_true'] at hb
        exact absurd hb q
theorem getZ_bound {bs : List Int} (hy : ∀ x ∈ bs, Byte x) (k s : Nat) (hs : s ≤ 4) (h : k + s ≤ bs.length) : 0 ≤ getZ ((bs.drop k).take s) ∧ getZ ((bs.drop k).take s) < 256 ^ s := by
  have hl : ((bs.drop k).take s).length = s := by rw [List.length_take, List.length_drop]; omega
  have h9 := octC.getZ_bd ((bs.drop k).take s) (fun x hx => hy x (List.mem_of_mem_drop (List.mem_of_mem_take hx))) s (by omega)
  rw [List.take_of_length_le (by omega)] at h9
  exact h9
/-- what is laid, and parsed -/
theorem laidI {C1 C2 : Array Value} {s1 s2 : Bool} {b1 b2 : List Int} (h1 : chkC.AddrC C1 s1 b1) (h2 : chkC.AddrC C2 s2 b2) {m : Ms} (hm : m.Ok) {xs : List Int} (hl : layM m xs.length s1 = true) (hx : ∀ x ∈ xs, Byte x) :
    laysE m xs.length s1 = 0 ∧ psI s1 (goodI s1 s2 b1 b2 (laysL s1 s2 b1 b2 m xs)) (laysL s1 s2 b1 b2 m xs) = (0, m, xs) ∧ (laysL s1 s2 b1 b2 m xs).length = 8 + xs.length ∧ (∀ x ∈ laysL s1 s2 b1 b2 m xs, Byte x) ∧ xs.length ≤ 1400 := by
  have hn := (mayM_parts (layM_parts hl).1).2.2.2.1
  have cb := ckM_bd s1 s2 b1 b2 m xs
  have e : laysL s1 s2 b1 b2 m xs = bytesM m s1 xs (ckM s1 s2 b1 b2 m xs) := by unfold laysL; rw [if_pos hl]
  rw [e]
  exact ⟨by unfold laysE; rw [if_pos hl], by rw [good_layI h1 h2 hm hx (by omega), ps_lay hm hl], bytesM_len _ _ _ _, bytesM_byte hm hx cb.1 cb.2, hn⟩
/-- what is parsed is laid, and parsed as it -/
theorem againI {C1 C2 : Array Value} {s1 s2 : Bool} {b1 b2 : List Int} (h1 : chkC.AddrC C1 s1 b1) (h2 : chkC.AddrC C2 s2 b2) {gd : Bool} {bs : List Int} (hy : ∀ x ∈ bs, Byte x) {m : Ms} {xs : List Int} (h : psI s1 gd bs = (0, m, xs)) :
    m.Ok ∧ layM m xs.length s1 = true ∧ (∀ x ∈ xs, Byte x) ∧ mayM m xs.length s1 = true ∧ psI s1 (goodI s1 s2 b1 b2 (laysL s1 s2 b1 b2 m xs)) (laysL s1 s2 b1 b2 m xs) = (0, m, xs) := by
  obtain ⟨a, b, c, d⟩ := ps_good hy (getZ_bound hy) h
  exact ⟨a, b, c, (layM_parts b).1, (laidI h1 h2 a b c).2.1⟩
theorem ps_bad {six gd : Bool} {bs : List Int} (h : (psI six gd bs).1 ≠ 0) : (psI six gd bs).2 = (zMs, []) := by
  unfold psI at h ⊢
  by_cases h8 : bs.length < 8
  · rw [if_pos h8]
  · rw [if_neg h8] at h ⊢
    by_cases hg : gd = false
    · rw [if_pos hg]
    · rw [if_neg hg] at h ⊢
      unfold resI at h ⊢
      split at h
      · exact absurd rfl h
      · rfl
end Go.Proofs.Ytmbfgolcinniiaa.icC

/-
  The message of bytes: the document's Parse.
-/
namespace Go.Proofs.Ytmbfgolcinniiaa.icC
open Go.ChangeShapes Go.WideShapes Go.ChangeAt Go.RowKit
open Go.Proofs.Ytmbfgolcinniiaa.memC Go.Proofs.Ytmbfgolcinniiaa.genC Go.Proofs.Ytmbfgolcinniiaa.butC Go.Proofs.Ytmbfgolcinniiaa.freeC Go.Proofs.Ytmbfgolcinniiaa.adC
open Go.Proofs.Ytmbfgolcinniiaa.octC (getZ)
open Go.Proofs.Ytmbfgolcinniiaa.chkC (PartAt NumRet)
set_option linter.unusedVariables false
theorem own_cellI {w : World} {base : Nat} {v : Value} {xs : List Int} {e U : TypeId} (h : Own .u8 e w base v xs) {g j : Nat} {x : Value} {cs : Array Value} (hr : w.heap[g]? = some (.cells cs U (0, 0))) (hU : U ≠ e) : Own .u8 e (w.setCell ⟨g, j, none⟩ x) base v xs := by
  refine ⟨h.1, ?_⟩
  rcases h.2 with h0 | ⟨k, cap, cur, e1, hb, hh, h'⟩
  · exact .inl h0
  · refine .inr ⟨k, cap, cur, e1, hb, ?_, h'⟩
    have hne : k ≠ g := fun q => by
      subst q
      rw [hr] at hh
      injection hh with hh
      injection hh with _ hh _
      exact hU hh
    rw [Below.heap_setCell _ _ _ _ hne]; exact hh
theorem ms_built5 (a0 a1 a2 a3 : Int) (A : Option Addr) (n c : Nat) : Try.prog.built 26 [(1, .int .u8 a0), (2, .int .u16 a1), (3, .int .u16 a2), (4, .int .u32 a3), (5, .slice A n c)] = some (msV ⟨0, a0, a1, a2, a3⟩ A n c) := by kernel_rfl
theorem built5_runI {P : Program} {fr : Act} {o : Oper} {w : World} {T : TypeId} {i0 i1 i2 i3 i4 : Nat} {x0 x1 x2 x3 x4 : Operand} {v0 v1 v2 v3 v4 : Value} {C : Array Value} (ho : o.op = .build T #[(i0, x0), (i1, x1), (i2, x2), (i3, x3), (i4, x4)])
    (h0 : fr.eval x0 = v0) (h1 : fr.eval x1 = v1) (h2 : fr.eval x2 = v2) (h3 : fr.eval x3 = v3) (h4 : fr.eval x4 = v4) (hb : P.built T [(i0, v0), (i1, v1), (i2, v2), (i3, v3), (i4, v4)] = some C) : (execOp fr.eval o).run P w = .ok (.value (.agg C)) w := by
  unfold execOp
  have h : (Instr.build T #[(i0, v0), (i1, v1), (i2, v2), (i3, v3), (i4, v4)]).run P w = .ok (.agg C) w := run_build w T _ C hb
  simp [ho, h0, h1, h2, h3, h4, h, Result.andThen_ok]
/-- the message that is made -/
def pbR (Bq : Nat) (ZS : Array Value) (mR : Ms) (mm : Nat) (XD : List Int) : Nat → (Nat → Value) → World → Prop
  | 0, _, _ => True
  | 1, us, w => ∃ g, us 19 = .pointer (some ⟨g, 0, none⟩) ∧ Bq ≤ g ∧ w.heap[g]? = some (.cells ZS 26 (0, 0))
  | 2, us, w => ∃ g B' d', us 19 = .pointer (some ⟨g, 0, none⟩) ∧ Bq ≤ g ∧ w.heap[g]? = some (.cells (msV mR B' mm d') 26 (0, 0)) ∧ Own .u8 5 w Bq (.slice B' mm d') XD
  | _, _, _ => True
theorem pbR.keep (Bq : Nat) (ZS : Array Value) (mR : Ms) (mm : Nat) (XD : List Int) (k : Nat) (us us' : Nat → Value) (w1 w2 : World) (h : ∀ x ∈ [19, 20], us' x = us x) (hb : Below w1.heap.size w1 w2) (hR : pbR Bq ZS mR mm XD k us w1) : pbR Bq ZS mR mm XD k us' w2 := by
  unfold pbR at hR ⊢
  split at hR
  · trivial
  · obtain ⟨g, h1, h2, h3⟩ := hR
    exact ⟨g, (h 19 (by simp)).trans h1, h2, by rw [hb.block _ (lt_of_rowI h3)]; exact h3⟩
  · obtain ⟨g, B', d', h1, h2, h3, h4⟩ := hR
    exact ⟨g, B', d', (h 19 (by simp)).trans h1, h2, by rw [hb.block _ (lt_of_rowI h3)]; exact h3, h4.below hb⟩
  · trivial
/-- the message, in the loop -/
structure LpI (Bq g1 : Nat) (Wr wr : World) (m : Ms) (B' : Option Addr) (n' d' : Nat) (XD : List Int) : Prop where
  row : wr.heap[g1]? = some (.cells (msV m B' n' d') 26 (0, 0))
  own : Own .u8 5 wr Bq (.slice B' n' d') XD
  bel : Below Bq Wr wr
  siz : Bq ≤ wr.heap.size
section
variable {Bq g1 : Nat} {Wr wr wr' : World} {m m' : Ms} {B' : Option Addr} {n' d' : Nat} {XD : List Int}
theorem LpI.more (h : LpI Bq g1 Wr wr m B' n' d' XD) (hb : Below wr.heap.size wr wr') : LpI Bq g1 Wr wr' m B' n' d' XD :=
  ⟨by rw [hb.block _ (lt_of_rowI h.row)]; exact h.row, h.own.below hb, h.bel.trans (hb.mono h.siz), Nat.le_trans h.siz hb.size⟩
theorem LpI.kind (h : LpI Bq g1 Wr wr m B' n' d' XD) (hg : Bq ≤ g1) (k : Int) : LpI Bq g1 Wr (wr.setCell ⟨g1, 0, none⟩ (.int .i64 k)) { m with ki := k } B' n' d' XD :=
  ⟨by rw [heap_setCell_same wr g1 0 _ _ _ h.row, msV_ki], own_cellI h.own h.row (by decide), h.bel.setCell (p := ⟨g1, 0, none⟩) hg _, by simpa [World.setCell] using h.siz⟩
theorem LpI.put (h : LpI Bq g1 Wr wr m B' n' d' XD) (hg : Bq ≤ g1) : LpI Bq g1 Wr (wr.setRow g1 (msV m' B' n' d')) m' B' n' d' XD :=
  ⟨setRow_heap _ _ _ _ _ _ h.row, own_otherI h.own h.row (by decide), setR_belowI h.bel hg _, by simpa using h.siz⟩
end
def pbV (gb ob n0 c0 : Nat) (x1 z4 z6 zm : Int) (d4 d6 : Nat) (BD : Option Addr) (mm dd : Nat) (mR : Ms) (XD : List Int) (base Bq : Nat) : Nat → Value → World → Prop
  | 0, v, _ => v = .slice (some ⟨gb, ob, none⟩) n0 c0
  | 1, v, _ => v = .pointer (some ⟨gb, ob + 1, none⟩)
  | 2, v, _ => v = .int .u8 x1
  | 3, v, _ => v = .slice (some ⟨gb, ob, none⟩) n0 c0
  | 4, v, _ => v = .slice (some ⟨gb, ob + 4, none⟩) 2 d4
  | 5, v, _ => v = .int .u64 z4
  | 6, v, _ => v = .int .u16 z4
  | 7, v, _ => v = .slice (some ⟨gb, ob, none⟩) n0 c0
  | 8, v, _ => v = .slice (some ⟨gb, ob + 6, none⟩) 2 d6
  | 9, v, _ => v = .int .u64 z6
  | 10, v, _ => v = .int .u16 z6
  | 11, v, _ => v = .slice (some ⟨gb, ob, none⟩) n0 c0
  | 12, v, _ => v = .slice (some ⟨gb, ob + 4, none⟩) 4 d4
  | 13, v, _ => v = .int .u64 zm
  | 14, v, _ => v = .int .u32 zm
  | 15, v, _ => v = .slice (some ⟨gb, ob, none⟩) n0 c0
  | 16, v, _ => v = .slice BD mm dd
  | 17, v, wX => ∃ B' d', v = .slice B' mm d' ∧ Own .u8 5 wX base (.slice B' mm d') XD
  | 18, v, wX => ∃ B' d', v = .agg (msV mR B' mm d') ∧ Own .u8 5 wX base (.slice B' mm d') XD
  | _, _, _ => True
theorem pbV.keep (gb ob n0 c0 : Nat) (x1 z4 z6 zm : Int) (d4 d6 : Nat) (BD : Option Addr) (mm dd : Nat) (mR : Ms) (XD : List Int) (base Bq : Nat) (i : Nat) (v : Value) (w w' : World) (hd : Below w.heap.size w w' ∨ MsD Bq w w') (h : pbV gb ob n0 c0 x1 z4 z6 zm d4 d6 BD mm dd mR XD base Bq i v w) : pbV gb ob n0 c0 x1 z4 z6 zm d4 d6 BD mm dd mR XD base Bq i v w' := by
  by_cases e17 : i = 17
  · subst e17
    obtain ⟨B', d', h1, h2⟩ := h
    rcases hd with hd | hd | ⟨g, cs, cs', hr, hg, rfl⟩
    · exact ⟨B', d', h1, h2.below hd⟩
    · exact ⟨B', d', h1, h2.below hd⟩
    · exact ⟨B', d', h1, own_otherI h2 hr (by decide)⟩
  by_cases e18 : i = 18
  · subst e18
    obtain ⟨B', d', h1, h2⟩ := h
    rcases hd with hd | hd | ⟨g, cs, cs', hr, hg, rfl⟩
    · exact ⟨B', d', h1, h2.below hd⟩
    · exact ⟨B', d', h1, h2.below hd⟩
    · exact ⟨B', d', h1, own_otherI h2 hr (by decide)⟩
  unfold pbV at h ⊢
  split at h <;> first | exact h | exact absurd rfl (by assumption)
def pbT : List (Option Nat) := [none, none, none, none, none, none, none, none, some 19, none, none, none, none, none, none, none, none, none, none, none, some 0, some 1, some 2, some 3, some 4, some 5, some 6, some 7, some 8, some 9, some 10, some 11, some 12, some 13, some 14, some 15, some 16, some 17, some 18, none, none, none, none, none, none, none, none, none, none, none, none, none, none, none, none, none, none, none, none, none, none, none, none, none, none, none, none, none, none, none, none, none, none, none, none, none, none, none, none]
def lqV (gb ob n0 c0 g4 k : Nat) (s1 : Bool) (ty x0 : Int) (b5 : Bool) : Nat → Value → World → Prop
  | 0, v, _ => v = .int .i64 (k : Int)
  | 1, v, _ => v = .pointer (some ⟨g4, 0, none⟩)
  | 2, v, _ => v = .bool s1
  | 3, v, _ => v = .int .u8 ty
  | 4, v, _ => v = .slice (some ⟨gb, ob, none⟩) n0 c0
  | 5, v, _ => v = .pointer (some ⟨gb, ob, none⟩)
  | 6, v, _ => v = .int .u8 x0
  | 7, v, _ => v = .bool b5
  | _, _, _ => True
theorem lqV.keep (gb ob n0 c0 g4 k : Nat) (s1 : Bool) (ty x0 : Int) (b5 : Bool) (i : Nat) (v : Value) (w w' : World) (hb : Below w.heap.size w w') (h : lqV gb ob n0 c0 g4 k s1 ty x0 b5 i v w) : lqV gb ob n0 c0 g4 k s1 ty x0 b5 i v w' := by
  unfold lqV at h ⊢
  split at h <;> exact h
def lqT : List (Option Nat) := [none, none, none, none, none, none, none, none, none, none, none, none, none, none, none, none, none, none, none, none, none, none, none, none, none, none, none, none, none, none, none, none, none, none, none, none, none, none, none, none, none, none, none, some 0, some 1, some 2, some 3, some 4, some 5, some 6, some 7, none, none, none, none, none, none, none, none, none, none, none, none, none, none, none, none, none, none, none, none, none, none, none, none, none, none, none, none]
set_option maxRecDepth 100000 in
set_option maxHeartbeats 8000000 in
theorem rparse_any (C1 C2 : Array Value) (s1 s2 : Bool) (b1 b2 : List Int) (A0 : Option Addr) (n0 c0 : Nat) (bs : List Int) (w : World) (h1 : chkC.AddrC C1 s1 b1) (h2 : chkC.AddrC C2 s2 b2) (hb : Nums .u8 w w.heap.size A0 n0 bs) (hy : ∀ x ∈ bs, Byte x) (hn : n0 ≤ 9000) (hnc : n0 ≤ c0) (hcm : c0 ≤ 9223372036854775807) :
    Calls Try.prog 18 #[.slice A0 n0 c0, .agg C1, .agg C2] w (PsM w (psI s1 (goodI s1 s2 b1 b2 bs) bs)) := by
  have hzv := zeroMs
  obtain ⟨i0, hi0, hz0, hz1, hz2⟩ := info_parts byte_inf
  have I1 := Lib.hid hi0; have I2 := Lib.hid hz0; have I3 := Lib.hid hz1; have I4 := Lib.hid hz2
  obtain ⟨ZS, hZS⟩ : ∃ Z, Z = msV zMs none 0 0 := ⟨_, rfl⟩
  have EZ := Lib.hid hZS
  have BZ := Lib.hid (show Try.prog.built 26 [] = some ZS by rw [hZS]; exact zMs_built)
  have IZ := Lib.hid (show (Try.prog.info? 26).map (·.size) = some ZS.size by rw [hZS]; exact (msC zMs none 0 0).info)
  have OZ := Lib.hid (show ZS.all (·.oneCell') = true by rw [hZS]; exact ms_one zMs none 0 0)
  simp only [← hZS] at hzv
  obtain ⟨W0, hW0⟩ : ∃ W, W = w.alloc (.cells C1 29) := ⟨_, rfl⟩
  obtain ⟨W1, hW1⟩ : ∃ W, W = W0.alloc (.cells C2 29) := ⟨_, rfl⟩
  obtain ⟨W, hW⟩ : ∃ W, W = W1.alloc (.cells ZS 26) := ⟨_, rfl⟩
  have z0 : W0.heap.size = w.heap.size + 1 := by rw [hW0, alloc_size]
  have z1 : W1.heap.size = w.heap.size + 2 := by rw [hW1, alloc_size, z0]
  have z2 : W.heap.size = w.heap.size + 3 := by rw [hW, alloc_size, z1]
  have B0 : Below w.heap.size w W0 := by rw [hW0]; exact alloc_below _ _
  have B1 : Below W0.heap.size W0 W1 := by rw [hW1]; exact alloc_below _ _
  have B2 : Below W1.heap.size W1 W := by rw [hW]; exact alloc_below _ _
  have HB := Lib.hid (show Below w.heap.size w W from (B0.trans (B1.mono (by omega))).trans (B2.mono (by omega)))
  have R1 := Lib.hid (show W.heap[w.heap.size]? = some (.cells C1 29 (0, 0)) by rw [B2.block _ (by omega), B1.block _ (by omega), hW0]; exact heap_alloc_new _ _)
  have R2 := Lib.hid (show W.heap[w.heap.size + 1]? = some (.cells C2 29 (0, 0)) by rw [B2.block _ (by omega), hW1, ← z0]; exact heap_alloc_new _ _)
  have RES := Lib.hid (show W.heap[w.heap.size + 2]? = some (.cells ZS 26 (0, 0)) by rw [hW, ← z1]; exact heap_alloc_new _ _)
  have KRES := Lib.hid (fun (w' : World) (h : Below W.heap.size W w') => (show w'.heap[w.heap.size + 2]? = some (.cells ZS 26 (0, 0)) from (h.block _ (by omega)).trans RES.out))
  have SW := Lib.hid (show w.heap.size + 3 ≤ W.heap.size by omega)
  have FER := Lib.hid (fun (wr : World) (hb : Below W.heap.size W wr) (er : Int) (h : psI s1 (goodI s1 s2 b1 b2 bs) bs = (er, zMs, [])) => psm_err (g := w.heap.size + 2) (HB.out.trans (hb.mono (by omega))) (by omega) er h ZS EZ.out)
  have IC1 := Lib.hid (show (Try.prog.info? 29).map (·.size) = some C1.size by rw [h1.size]; exact addr_infoI)
  have IC2 := Lib.hid (show (Try.prog.info? 29).map (·.size) = some C2.size by rw [h2.size]; exact addr_infoI)
  have hlen := hb.len
  have HN0 := Lib.hid (fun (w' : World) (h : Below w.heap.size w w') => hb.below h)
  have HYB := Lib.hid hy
  have K6 := Lib.hid (fun (w' : World) (h : Below W.heap.size W w') => pkC.PkC.cell ((h.block w.heap.size (by omega)).trans R1.out) h1.six)
  clear B0 B1 B2 z2 hi0 hz0 hz1 hz2 hZS
  by_cases h8 : n0 < 8
  · have q8 : (n0 : Int) < 8 := by omega
    have FE := Lib.hid (FER.out W (Below.refl _ _) 4 (by unfold psI; rw [if_pos (by omega)]))
    clear FER h8 hlen hb hy hn hnc hcm h1 h2
    go_enter Try.func18, Try.ntmps18
    try simp only [List.append_eq, List.cons_append, List.nil_append]
    go_upto_region 1 with fail
    rw [← hW0, ← hW1, ← hW]
    try rw [z0]
    try rw [z1]
    clear hW0 hW1 hW z0 z1
    go_wp2_with (first
      | (refine adC.wpList_zero rfl 26 rfl ZS BZ.out ?_)
      | (refine wpList_store_row rfl 26 (.tmp 6) (.tmp 13) rfl (w.heap.size + 2) _ rfl rfl _ _ RES.out IZ.out rfl OZ.out ?_))
    refine bodyPost_ret (v := .tuple #[.agg ZS, .int .i64 4]) (adC.results_cell_tmp Try.results18 _ _ (w.heap.size + 2) _ _ _ _ _ (by rfl) (setRow_heap _ _ _ _ _ _ RES.out) Try.underlying26 rfl IZ.out (by rfl)) rfl ?_
    exact FE.out
  have q8 : ¬ (n0 : Int) < 8 := by omega
  have q8b : decide ((n0 : Int) < 8) = false := decide_eq_false q8
  have RS := Lib.hid (rmsum_any C1 C2 s1 s2 b1 b2 A0 n0 c0 bs W h1 h2 ⟨(HN0.out W HB.out).more HB.out.size, (show n0 ≤ 10000 by omega), hy⟩)
  obtain ⟨f, hf⟩ : ∃ f, f = sumM s1 s2 b1 b2 bs := ⟨_, rfl⟩
  rw [← hf] at RS
  have hg : goodI s1 s2 b1 b2 bs = decide (f = 65535) := by unfold goodI; rw [← hf]
  have l8 : ¬ bs.length < 8 := by omega
  by_cases hf9 : f = 65535
  rotate_left
  · have qf : (f != 65535) = true := bne_iff_ne.2 hf9
    have FE := Lib.hid (fun wr hb => FER.out wr hb 8 (by unfold psI; rw [if_neg l8, if_pos (by rw [hg]; exact decide_eq_false hf9)]))
    clear FER h8 hlen l8 hg hf hf9 hb hy hn hnc hcm h1 h2
    go_enter Try.func18, Try.ntmps18
    try simp only [List.append_eq, List.cons_append, List.nil_append]
    go_upto_region 1 with fail
    rw [← hW0, ← hW1, ← hW]
    try rw [z0]
    try rw [z1]
    clear hW0 hW1 hW z0 z1
    go_wp2_with (first
      | (refine wpList_load_row rfl 29 (.tmp 4) rfl w.heap.size rfl _ C1 _ _ R1.out Try.underlying29 rfl IC1.out ?_)
      | (refine wpList_load_row rfl 29 (.tmp 5) rfl (w.heap.size + 1) rfl _ C2 _ _ R2.out Try.underlying29 rfl IC2.out ?_)
      | (go_at_call 31; (refine RS.out.mono ?_); rintro e w5 ⟨rfl, BB⟩
         have B5 := Lib.hid BB
         clear BB)
      | (refine adC.wpList_zero rfl 26 rfl ZS BZ.out ?_)
      | (refine wpList_store_row rfl 26 (.tmp 6) (.tmp 19) rfl (w.heap.size + 2) _ rfl rfl _ _ (KRES.out w5 B5.out) IZ.out rfl OZ.out ?_))
    refine bodyPost_ret (v := .tuple #[.agg ZS, .int .i64 8]) (adC.results_cell_tmp Try.results18 _ _ (w.heap.size + 2) _ _ _ _ _ (by rfl) (setRow_heap _ _ _ _ _ _ (KRES.out w5 B5.out)) Try.underlying26 rfl IZ.out (by rfl)) rfl ?_
    exact FE.out w5 B5.out
  have qf : (f != 65535) = false := by rw [hf9]; rfl
  rw [decide_eq_true hf9] at hg
  rw [hg] at FER ⊢
  obtain ⟨gb, ob, rfl⟩ := some_atI hb (by omega)
  obtain ⟨mm, hmm⟩ : ∃ q, q = n0 - 8 := ⟨_, rfl⟩
  obtain ⟨XD, hXD⟩ : ∃ q, q = bs.drop 8 := ⟨_, rfl⟩
  have lXD : XD.length = mm := by rw [hXD, List.length_drop, hlen, hmm]
  obtain ⟨mR, hmR⟩ : ∃ q, q = headI bs := ⟨_, rfl⟩
  obtain ⟨LR, hLR⟩ : ∃ q, q = loopM s1 (bs.getD 0 0) (bs.getD 1 0) mm 5 1 mR := ⟨_, rfl⟩
  have FIN := Lib.hid (show psI s1 true bs = resI LR XD by
    unfold psI; rw [if_neg l8, if_neg (by decide), hLR, hmR, hXD, hmm, hlen])
  have KC := Lib.hid (fun (i : Nat) (hi : i < n0) (w' : World) (h : Below w.heap.size w w') => (show w'.cell? ⟨gb, ob + i, none⟩ = some (.int .u8 (bs.getD i 0)) by
    obtain ⟨b2, o2, e, hlt, hc⟩ := (HN0.out w' h).at_ (by omega)
    cases e
    exact hc i hi))
  have bz : ∀ k m, k + m ≤ n0 → m ≤ 7 → 0 ≤ getZ ((bs.drop k).take m) ∧ getZ ((bs.drop k).take m) < 256 ^ m := fun k m hk hm => by
    have hl : ((bs.drop k).take m).length = m := by rw [List.length_take, List.length_drop, hlen]; omega
    have h := octC.getZ_bd ((bs.drop k).take m) (fun x hx => hy x (List.mem_of_mem_drop (List.mem_of_mem_take hx))) m (by omega)
    rw [List.take_of_length_le (by omega)] at h
    exact h
  have z4b := bz 4 2 (by omega) (by decide)
  have z6b := bz 6 2 (by omega) (by decide)
  have zmb := bz 4 4 (by omega) (by decide)
  have W4 := Lib.hid (show IntKind.u16.wrap (getZ ((bs.drop 4).take 2)) = getZ ((bs.drop 4).take 2) from IntWalk.u16_in _ (by omega))
  have W6 := Lib.hid (show IntKind.u16.wrap (getZ ((bs.drop 6).take 2)) = getZ ((bs.drop 6).take 2) from IntWalk.u16_in _ (by omega))
  have WM := Lib.hid (show IntKind.u32.wrap (getZ ((bs.drop 4).take 4)) = getZ ((bs.drop 4).take 4) from IntWalk.u32_in _ (by omega))
  have GX := Lib.hid (fun (k m d : Nat) (hk : k + m ≤ n0) (hm : m ≤ 8) (hd : m ≤ d) (hdm : d ≤ 9223372036854775807) (w' : World) (h : Below w.heap.size w w') => rget_retI w' (numsAtI ((HN0.out w' h).more h.size) k m hk) hm hd hdm (fun x hx => HYB.out x (List.mem_of_mem_drop (List.mem_of_mem_take hx))))
  have H4 := Lib.hid (fun (w' : World) (h : Below w.heap.size w w') => GX.out 4 2 (c0 - 4) (by omega) (by decide) (by omega) (by omega) w' h)
  have H6 := Lib.hid (fun (w' : World) (h : Below w.heap.size w w') => GX.out 6 2 (c0 - 6) (by omega) (by decide) (by omega) (by omega) w' h)
  have HM := Lib.hid (fun (w' : World) (h : Below w.heap.size w w') => GX.out 4 4 (c0 - 4) (by omega) (by decide) (by omega) (by omega) w' h)
  have SC4 := Lib.hid (fun w' => (show (Instr.slice 24 (.slice (some ⟨gb, ob, none⟩) n0 c0) (some (.int .i64 4)) (some (.int .i64 6)) none).run Try.prog w' = .ok (.slice (some ⟨gb, ob + 4, none⟩) 2 (c0 - 4)) w' from pkCutAtI gb ob n0 c0 4 6 2 (c0 - 4) (by omega) (by omega) (by omega) rfl rfl w'))
  have SC6 := Lib.hid (fun w' => (show (Instr.slice 24 (.slice (some ⟨gb, ob, none⟩) n0 c0) (some (.int .i64 6)) (some (.int .i64 8)) none).run Try.prog w' = .ok (.slice (some ⟨gb, ob + 6, none⟩) 2 (c0 - 6)) w' from pkCutAtI gb ob n0 c0 6 8 2 (c0 - 6) (by omega) (by omega) (by omega) rfl rfl w'))
  have SCM := Lib.hid (fun w' => (show (Instr.slice 24 (.slice (some ⟨gb, ob, none⟩) n0 c0) (some (.int .i64 4)) (some (.int .i64 8)) none).run Try.prog w' = .ok (.slice (some ⟨gb, ob + 4, none⟩) 4 (c0 - 4)) w' from pkCutAtI gb ob n0 c0 4 8 4 (c0 - 4) (by omega) (by omega) (by omega) rfl rfl w'))
  obtain ⟨BD, hBD⟩ : ∃ q, q = (if c0 = 8 then (some ⟨gb, ob, none⟩ : Option Addr) else (some ⟨gb, ob, none⟩ : Option Addr).map (·.add 8)) := ⟨_, rfl⟩
  obtain ⟨dd, hdd⟩ : ∃ q, q = c0 - 8 := ⟨_, rfl⟩
  have SCN := Lib.hid (fun w' => (show (Instr.slice 24 (.slice (some ⟨gb, ob, none⟩) n0 c0) (some (.int .i64 8)) none none).run Try.prog w' = .ok (.slice BD mm dd) w' by
    have h9 := pkC.cut_tail (some ⟨gb, ob, none⟩) n0 c0 8 (by omega) hnc w'
    rw [← hBD, ← hdd, ← hmm] at h9
    exact h9))
  have NX0 := Lib.hid (fun (w' : World) (h : Below w.heap.size w w') => (show Nums .u8 w' w'.heap.size BD mm XD by
    have h9 := partNI ((HN0.out w' h).more h.size) (show 8 ≤ n0 by omega) hnc
    rw [← hBD, ← hmm, ← hXD] at h9
    exact h9))
  have L1 := Lib.hid (show (1 : Int) < (n0 : Int) by omega)
  have L0 := Lib.hid (show 0 < n0 by omega)
  have MM9 := Lib.hid (show mm ≤ 9000 by omega)
  have IX := Lib.hid (fun (m : Ms) (A : Option Addr) (n c : Nat) => (msC m A n c).info)
  have SX := Lib.hid (fun (m : Ms) (A : Option Addr) (n c : Nat) => (show ZS.size = (msV m A n c).size by rw [EZ.out]; exact ms_size zMs m none A 0 0 n c))
  have OX := Lib.hid (fun (m : Ms) (A : Option Addr) (n c : Nat) => ms_one m A n c)
  have BLT := Lib.hid (fun (A : Option Addr) (c : Nat) => (show Try.prog.built 26 [(1, .int .u8 (bs.getD 1 0)), (2, .int .u16 (getZ ((bs.drop 4).take 2))), (3, .int .u16 (getZ ((bs.drop 6).take 2))), (4, .int .u32 (getZ ((bs.drop 4).take 4))), (5, .slice A mm c)] = some (msV mR A mm c) by rw [hmR]; exact ms_built5 _ _ _ _ A mm c))
  have KA := Lib.hid (fun (w' : World) (h : Below w.heap.size w w') => KC.out 0 (by omega) w' h)
  have KB := Lib.hid (fun (w' : World) (h : Below w.heap.size w w') => KC.out 1 (by omega) w' h)
  have YXD := Lib.hid (show ∀ x ∈ XD, Byte x from fun x hx => hy x (by rw [hXD] at hx; exact List.mem_of_mem_drop hx))
  have HLR := Lib.hid hLR.symm
  have HLX := Lib.hid lXD
  generalize getZ ((bs.drop 4).take 2) = z4 at *
  generalize getZ ((bs.drop 6).take 2) = z6 at *
  generalize getZ ((bs.drop 4).take 4) = zm at *
  generalize bs.getD 0 0 = x0 at *
  generalize bs.getD 1 0 = x1 at *
  obtain ⟨d4, hd4⟩ : ∃ d, d = c0 - 4 := ⟨_, rfl⟩
  obtain ⟨d6, hd6⟩ : ∃ d, d = c0 - 6 := ⟨_, rfl⟩
  rw [← hd4] at H4 HM SC4 SCM
  rw [← hd6] at H6 SC6
  clear h8 hlen l8 hg hf hf9 hb hy hn hnc hcm h1 h2 hXD lXD hmR hLR bz z4b z6b zmb KC GX hBD hdd hmm hd4 hd6
  go_enter Try.func18, Try.ntmps18
  try simp only [List.append_eq, List.cons_append, List.nil_append]
  go_upto_region 1 with fail
  rw [← hW0, ← hW1, ← hW]
  try rw [z0]
  try rw [z1]
  clear hW0 hW1 hW z0 z1
  go_upto_region 5 with (first
    | (refine wpList_load_row rfl 29 (.tmp 4) rfl w.heap.size rfl _ C1 _ _ R1.out Try.underlying29 rfl IC1.out ?_)
    | (refine wpList_load_row rfl 29 (.tmp 5) rfl (w.heap.size + 1) rfl _ C2 _ _ R2.out Try.underlying29 rfl IC2.out ?_)
    | (go_at_call 31; (refine RS.out.mono ?_); rintro e w5 ⟨rfl, BB⟩
       have B5 := Lib.hid BB
       clear BB))
  have BW := Lib.hid (HB.out.trans (B5.out.mono HB.out.size))
  have WQ := Lib.hid (show ∀ (w' : World), GrM w5.heap.size w5 w' → Below w.heap.size w w' from fun w' h => BW.out.trans (h.1.mono BW.out.size))
  have WB := Lib.hid (show ∀ (w' : World), Below w5.heap.size w5 w' → Below W.heap.size W w' from fun w' h => B5.out.trans (h.mono B5.out.size))
  have G4 := Lib.hid (fun (w' : World) (h : GrM w5.heap.size w5 w') => H4.out w' (WQ.out w' h))
  have G6 := Lib.hid (fun (w' : World) (h : GrM w5.heap.size w5 w') => H6.out w' (WQ.out w' h))
  have GM := Lib.hid (fun (w' : World) (h : GrM w5.heap.size w5 w') => HM.out w' (WQ.out w' h))
  have KX1 := Lib.hid (fun (w' : World) (h : GrM w5.heap.size w5 w') => KB.out w' (WQ.out w' h))
  have NXD := Lib.hid (fun (w' : World) (h : GrM w5.heap.size w5 w') => NX0.out w' (WQ.out w' h))
  have BQ := Lib.hid (show w5.heap.size = w5.heap.size from rfl)
  clear H4 H6 HM NX0 RS q8 q8b qf
  refine with_act fun a0 ha0 => ?_
  have hl : pbT.length = a0.tmps.size := by rw [ha0]; rfl
  have k0 : a0.tmps[0]?.getD undef = .slice (some ⟨gb, ob, none⟩) n0 c0 := by rw [ha0]; rfl
  refine wp_region_che (by kernel_rfl) pbT (by kernel_rfl) (by kernel_rfl) hl (fun i => undef) (by rw [ha0]; rfl) (0) (MsD (w5.heap.size)) [19, 20] (by kernel_rfl) (by decide) (by decide) (fun w' => GrM (w5.heap.size) w5 w') (pbV gb ob n0 c0 x1 z4 z6 zm d4 d6 BD mm dd mR XD (w5.heap.size) (w5.heap.size)) ((pbR (w5.heap.size) ZS mR mm XD)) (Nat.zero_le _) ⟨(Below.refl _ _).drew.mono (Nat.le_of_eq BQ.out), Nat.le_of_eq BQ.out⟩ trivial (fun w1 w2 hb hd h => h.keep hd) (fun i v w w' _ hd h => pbV.keep _ _ _ _ _ _ _ _ _ _ _ _ _ _ _ _ _ i v w w' hd h) (fun k us us' w w' h _ hb hR => pbR.keep _ _ _ _ _ k us us' w w' h hb hR) ⟨?_, ?_, ?_, ?_, ?_, ?_, ?_, ?_, ?_, ?_, ?_, ?_, ?_, ?_, ?_, ?_, ?_, ?_, ?_, ?_, ?_, trivial⟩ ?_
  · refine stepE_val [] (by kernel_rfl) (by decide) (by decide) rfl fun us w' hB hG hV => ?_
    have o0 := (frame_old2 (us := us) (a := a0) (show (pbT[0]?).join = none from rfl)).trans k0
    generalize frame pbT a0 us = fr at *
    exact val_C (v := .slice (some ⟨gb, ob, none⟩) n0 c0) (w' := w') (by go_simp) (Below.refl _ _) rfl
  · refine stepE_val [0] (by kernel_rfl) (by decide) (by decide) rfl fun us w' hB hG hV => ?_
    have e0 : us 0 = .slice (some ⟨gb, ob, none⟩) n0 c0 := hV 0 (by simp)
    have v0 := (frame_at2 (us := us) hl (show (pbT[20]?).join = some 0 from rfl)).trans e0
    have hl1 := L1.out
    generalize frame pbT a0 us = fr at *
    exact val_C (v := .pointer (some ⟨gb, ob + 1, none⟩)) (w' := w') (by go_simp) (Below.refl _ _) rfl
  · refine stepE_val [1] (by kernel_rfl) (by decide) (by decide) rfl fun us w' hB hG hV => ?_
    have e1 : us 1 = .pointer (some ⟨gb, ob + 1, none⟩) := hV 1 (by simp)
    have v1 := (frame_at2 (us := us) hl (show (pbT[21]?).join = some 1 from rfl)).trans e1
    have hc := KX1.out w' hG
    generalize frame pbT a0 us = fr at *
    exact val_C (v := .int .u8 x1) (w' := w') (by go_simp) (Below.refl _ _) rfl
  · refine stepE_val [] (by kernel_rfl) (by decide) (by decide) rfl fun us w' hB hG hV => ?_
    have o0 := (frame_old2 (us := us) (a := a0) (show (pbT[0]?).join = none from rfl)).trans k0
    generalize frame pbT a0 us = fr at *
    exact val_C (v := .slice (some ⟨gb, ob, none⟩) n0 c0) (w' := w') (by go_simp) (Below.refl _ _) rfl
  · refine stepE_val [3] (by kernel_rfl) (by decide) (by decide) rfl fun us w' hB hG hV => ?_
    have e3 : us 3 = .slice (some ⟨gb, ob, none⟩) n0 c0 := hV 3 (by simp)
    have v3 := (frame_at2 (us := us) hl (show (pbT[23]?).join = some 3 from rfl)).trans e3
    have hsc := SC4.out w'
    generalize frame pbT a0 us = fr at *
    exact val_C (v := .slice (some ⟨gb, ob + 4, none⟩) 2 d4) (w' := w') (by go_simp) (Below.refl _ _) rfl
  · refine stepE_val [4] (by kernel_rfl) (by decide) (by decide) rfl fun us w' hB hG hV => ?_
    have e4 : us 4 = .slice (some ⟨gb, ob + 4, none⟩) 2 d4 := hV 4 (by simp)
    have v4 := (frame_at2 (us := us) hl (show (pbT[24]?).join = some 4 from rfl)).trans e4
    generalize frame pbT a0 us = fr at *
    exact call_C (f := 38) (args := #[.slice (some ⟨gb, ob + 4, none⟩) 2 d4]) (by go_simp) ((G4.out w' hG).mono fun e w'' h => ⟨_, h.1, h.2, rfl⟩)
  · refine stepE_val [5] (by kernel_rfl) (by decide) (by decide) rfl fun us w' hB hG hV => ?_
    have e5 : us 5 = .int .u64 z4 := hV 5 (by simp)
    have v5 := (frame_at2 (us := us) hl (show (pbT[25]?).join = some 5 from rfl)).trans e5
    have hw := W4.out
    generalize frame pbT a0 us = fr at *
    exact val_C (v := .int .u16 z4) (w' := w') (by go_simp) (Below.refl _ _) rfl
  · refine stepE_val [] (by kernel_rfl) (by decide) (by decide) rfl fun us w' hB hG hV => ?_
    have o0 := (frame_old2 (us := us) (a := a0) (show (pbT[0]?).join = none from rfl)).trans k0
    generalize frame pbT a0 us = fr at *
    exact val_C (v := .slice (some ⟨gb, ob, none⟩) n0 c0) (w' := w') (by go_simp) (Below.refl _ _) rfl
  · refine stepE_val [7] (by kernel_rfl) (by decide) (by decide) rfl fun us w' hB hG hV => ?_
    have e7 : us 7 = .slice (some ⟨gb, ob, none⟩) n0 c0 := hV 7 (by simp)
    have v7 := (frame_at2 (us := us) hl (show (pbT[27]?).join = some 7 from rfl)).trans e7
    have hsc := SC6.out w'
    generalize frame pbT a0 us = fr at *
    exact val_C (v := .slice (some ⟨gb, ob + 6, none⟩) 2 d6) (w' := w') (by go_simp) (Below.refl _ _) rfl
  · refine stepE_val [8] (by kernel_rfl) (by decide) (by decide) rfl fun us w' hB hG hV => ?_
    have e8 : us 8 = .slice (some ⟨gb, ob + 6, none⟩) 2 d6 := hV 8 (by simp)
    have v8 := (frame_at2 (us := us) hl (show (pbT[28]?).join = some 8 from rfl)).trans e8
    generalize frame pbT a0 us = fr at *
    exact call_C (f := 38) (args := #[.slice (some ⟨gb, ob + 6, none⟩) 2 d6]) (by go_simp) ((G6.out w' hG).mono fun e w'' h => ⟨_, h.1, h.2, rfl⟩)
  · refine stepE_val [9] (by kernel_rfl) (by decide) (by decide) rfl fun us w' hB hG hV => ?_
    have e9 : us 9 = .int .u64 z6 := hV 9 (by simp)
    have v9 := (frame_at2 (us := us) hl (show (pbT[29]?).join = some 9 from rfl)).trans e9
    have hw := W6.out
    generalize frame pbT a0 us = fr at *
    exact val_C (v := .int .u16 z6) (w' := w') (by go_simp) (Below.refl _ _) rfl
  · refine stepE_val [] (by kernel_rfl) (by decide) (by decide) rfl fun us w' hB hG hV => ?_
    have o0 := (frame_old2 (us := us) (a := a0) (show (pbT[0]?).join = none from rfl)).trans k0
    generalize frame pbT a0 us = fr at *
    exact val_C (v := .slice (some ⟨gb, ob, none⟩) n0 c0) (w' := w') (by go_simp) (Below.refl _ _) rfl
  · refine stepE_val [11] (by kernel_rfl) (by decide) (by decide) rfl fun us w' hB hG hV => ?_
    have e11 : us 11 = .slice (some ⟨gb, ob, none⟩) n0 c0 := hV 11 (by simp)
    have v11 := (frame_at2 (us := us) hl (show (pbT[31]?).join = some 11 from rfl)).trans e11
    have hsc := SCM.out w'
    generalize frame pbT a0 us = fr at *
    exact val_C (v := .slice (some ⟨gb, ob + 4, none⟩) 4 d4) (w' := w') (by go_simp) (Below.refl _ _) rfl
  · refine stepE_val [12] (by kernel_rfl) (by decide) (by decide) rfl fun us w' hB hG hV => ?_
    have e12 : us 12 = .slice (some ⟨gb, ob + 4, none⟩) 4 d4 := hV 12 (by simp)
    have v12 := (frame_at2 (us := us) hl (show (pbT[32]?).join = some 12 from rfl)).trans e12
    generalize frame pbT a0 us = fr at *
    exact call_C (f := 38) (args := #[.slice (some ⟨gb, ob + 4, none⟩) 4 d4]) (by go_simp) ((GM.out w' hG).mono fun e w'' h => ⟨_, h.1, h.2, rfl⟩)
  · refine stepE_val [13] (by kernel_rfl) (by decide) (by decide) rfl fun us w' hB hG hV => ?_
    have e13 : us 13 = .int .u64 zm := hV 13 (by simp)
    have v13 := (frame_at2 (us := us) hl (show (pbT[33]?).join = some 13 from rfl)).trans e13
    have hw := WM.out
    generalize frame pbT a0 us = fr at *
    exact val_C (v := .int .u32 zm) (w' := w') (by go_simp) (Below.refl _ _) rfl
  · refine stepE_val [] (by kernel_rfl) (by decide) (by decide) rfl fun us w' hB hG hV => ?_
    have o0 := (frame_old2 (us := us) (a := a0) (show (pbT[0]?).join = none from rfl)).trans k0
    generalize frame pbT a0 us = fr at *
    exact val_C (v := .slice (some ⟨gb, ob, none⟩) n0 c0) (w' := w') (by go_simp) (Below.refl _ _) rfl
  · refine stepE_val [15] (by kernel_rfl) (by decide) (by decide) rfl fun us w' hB hG hV => ?_
    have e15 : us 15 = .slice (some ⟨gb, ob, none⟩) n0 c0 := hV 15 (by simp)
    have v15 := (frame_at2 (us := us) hl (show (pbT[35]?).join = some 15 from rfl)).trans e15
    have hsc := SCN.out w'
    generalize frame pbT a0 us = fr at *
    exact val_C (v := .slice BD mm dd) (w' := w') (by go_simp) (Below.refl _ _) rfl
  · refine stepE_val [16] (by kernel_rfl) (by decide) (by decide) rfl fun us w' hB hG hV => ?_
    have e16 : us 16 = .slice BD mm dd := hV 16 (by simp)
    have v16 := (frame_at2 (us := us) hl (show (pbT[36]?).join = some 16 from rfl)).trans e16
    generalize frame pbT a0 us = fr at *
    exact append_Jo (R := fun v w'' => Below w'.heap.size w' w'' ∧ pbV gb ob n0 c0 x1 z4 z6 zm d4 d6 BD mm dd mR XD (w5.heap.size) (w5.heap.size) 17 v w'') (.const (.slice none 0 0)) (.tmp 36) 24 rfl 5 i0 _ 1 Try.underlying24 I1.out I2.out I3.out I4.out rfl w'.heap.size _ [] (by rfl) (Own.nil _ _) w'.heap.size _ mm dd XD (eval_tmp v16) (NXD.out w' hG) (by rw [List.length_nil]; have := MM9.out; unfold maxLen; omega) (by rw [List.length_nil]; have := MM9.out; omega) (Nat.le_refl _) mm (by simp) fun A' c' w'' _ _ O' B' => ⟨B', A', c', rfl, O'.less hG.2⟩
  · refine stepE_val [2, 6, 10, 14, 17] (by kernel_rfl) (by decide) (by decide) rfl fun us w' hB hG hV => ?_
    have e2 : us 2 = .int .u8 x1 := hV 2 (by simp)
    have v2 := (frame_at2 (us := us) hl (show (pbT[22]?).join = some 2 from rfl)).trans e2
    have e6 : us 6 = .int .u16 z4 := hV 6 (by simp)
    have v6 := (frame_at2 (us := us) hl (show (pbT[26]?).join = some 6 from rfl)).trans e6
    have e10 : us 10 = .int .u16 z6 := hV 10 (by simp)
    have v10 := (frame_at2 (us := us) hl (show (pbT[30]?).join = some 10 from rfl)).trans e10
    have e14 : us 14 = .int .u32 zm := hV 14 (by simp)
    have v14 := (frame_at2 (us := us) hl (show (pbT[34]?).join = some 14 from rfl)).trans e14
    obtain ⟨B17, d17, e17, O17⟩ := (show ∃ B' d', us 17 = .slice B' mm d' ∧ Own .u8 5 w' (w5.heap.size) (.slice B' mm d') XD from hV 17 (by simp))
    have v17 := (frame_at2 (us := us) hl (show (pbT[37]?).join = some 17 from rfl)).trans e17
    generalize frame pbT a0 us = fr at *
    exact val_C (v := .agg (msV mR B17 mm d17)) (w' := w') (built5_runI (T := 26) rfl (eval_tmp v2) (eval_tmp v6) (eval_tmp v10) (eval_tmp v14) (eval_tmp v17) (BLT.out B17 d17)) (Below.refl _ _) ⟨B17, d17, rfl, O17⟩
  · refine stepE_chain 0 rfl (by decide) [] (by kernel_rfl) (by decide) rfl fun us w' hB hG hV hR => ?_
    have hBw : (w5.heap.size) ≤ w'.heap.size := hG.2
    generalize frame pbT a0 us = fr at *
    exact val_J (R := fun v w'' => (MsD (w5.heap.size) w' w'' ∧ Below 0 w' w'') ∧ pbR (w5.heap.size) ZS mR mm XD 1 (upd us 19 v) w'') (v := .pointer (some ⟨w'.heap.size, 0, none⟩)) (w' := w'.alloc (.cells ZS 26)) (by have hz := hzv; go_simp) ⟨⟨.inl (alloc_below w' _), (alloc_below w' _).mono (Nat.zero_le _)⟩, w'.heap.size, upd_same _ _ _, hBw, heap_alloc_new _ _⟩
  · refine stepE_chain 1 rfl (by decide) [18] (by kernel_rfl) (by decide) rfl fun us w' hB hG hV hR => ?_
    obtain ⟨B18, d18, e18, O18⟩ := (show ∃ B' d', us 18 = .agg (msV mR B' mm d') ∧ Own .u8 5 w' (w5.heap.size) (.slice B' mm d') XD from hV 18 (by simp))
    have v18 := (frame_at2 (us := us) hl (show (pbT[38]?).join = some 18 from rfl)).trans e18
    obtain ⟨g, e19, hgb, hgr⟩ : ∃ g, us 19 = .pointer (some ⟨g, 0, none⟩) ∧ (w5.heap.size) ≤ g ∧ w'.heap[g]? = some (.cells ZS 26 (0, 0)) := hR
    have v19 := (frame_at2 (us := us) hl (show (pbT[8]?).join = some 19 from rfl)).trans e19
    generalize frame pbT a0 us = fr at *
    exact store_J (R := fun v w'' => (MsD (w5.heap.size) w' w'' ∧ Below 0 w' w'') ∧ pbR (w5.heap.size) ZS mR mm XD 2 (upd us 20 v) w'') 26 8 38 rfl g (msV mR B18 mm d18) v19 v18 _ _ hgr (IX.out mR B18 mm d18) (SX.out mR B18 mm d18) (OX.out mR B18 mm d18) ⟨⟨.inr ⟨g, _, _, hgr, hgb, rfl⟩, setR_belowI (Below.refl _ _) (Nat.zero_le _) _⟩, g, B18, d18, by rw [upd_other _ _ (by decide)]; exact e19, hgb, setRow_heap _ _ _ _ _ _ hgr, own_otherI O18 hgr (by decide)⟩
  · intro us w8 hB2 hG hV hR
    obtain ⟨g1, B6, d9, e19, hgb, hgr, O6⟩ := (show ∃ g B' d', us 19 = .pointer (some ⟨g, 0, none⟩) ∧ (w5.heap.size) ≤ g ∧ w8.heap[g]? = some (.cells (msV mR B' mm d') 26 (0, 0)) ∧ Own .u8 5 w8 (w5.heap.size) (.slice B' mm d') XD from hR)
    have HL8 := Lib.hid (show LpI (w5.heap.size) g1 w5 w8 mR B6 mm d9 XD from ⟨hgr, O6, hG.1, hG.2⟩)
    have HGB := Lib.hid hgb
    subst ha0
    simp only [frame, pbT, fill]
    rw [e19]
    clear hV hG hl hR hgr O6 k0 e19 hgb
    clear G4 G6 GM KX1 NXD SC4 SC6 SCM SCN W4 W6 WM BLT BQ hzv RES WQ BW MM9
    go_wp2_with fail
    go_loopw [9] (fun v9 wr => ∃ (k : Nat) (m : Ms), v9 = .int .i64 k ∧ 1 ≤ k ∧ k ≤ 6 ∧ LpI (w5.heap.size) g1 w5 wr m B6 mm d9 XD ∧ loopM s1 x0 x1 mm (6 - k) k m = LR) (fun v9 _ => 6 - (intOf v9).toNat)
    case atStart => exact ⟨1, mR, rfl, by omega, by omega, HL8.out, HLR.out⟩
    case round =>
      obtain ⟨k, m, rfl, hk1, hk6, hlp, hlo⟩ := hrel
      have HLP := Lib.hid hlp
      have HLO := Lib.hid hlo
      clear hlp hlo HL8 HLR
      by_cases hk : k ≤ 5
      rotate_left
      · have q5 : ¬ (k : Int) ≤ 5 := by omega
        have RESw := Lib.hid (KRES.out wr (WB.out wr (HLP.out.bel)))
        have FE := Lib.hid (FER.out wr (WB.out wr (HLP.out.bel)) 11 (by rw [FIN.out, ← HLO.out, show 6 - k = 0 by omega]; rfl))
        clear FER FIN HLO hk
        go_wp2_with (first
          | (refine adC.wpList_zero rfl 26 rfl ZS BZ.out ?_)
          | (refine wpList_store_row rfl 26 (.tmp 6) (.tmp 78) rfl (w.heap.size + 2) _ rfl rfl _ _ RESw.out IZ.out rfl OZ.out ?_))
        refine bodyPost_ret (v := .tuple #[.agg ZS, .int .i64 11]) (adC.results_cell_tmp Try.results18 _ _ (w.heap.size + 2) _ _ _ _ _ (by rfl) (setRow_heap _ _ _ _ _ _ RESw.out) Try.underlying26 rfl IZ.out (by rfl)) rfl ?_
        exact FE.out
      have q5 : (k : Int) ≤ 5 := by omega
      have q5b : decide ((k : Int) ≤ 5) = true := decide_eq_true q5
      have hlo := HLO.out
      rw [show 6 - k = (6 - (k + 1)) + 1 by omega] at hlo
      unfold loopM at hlo
      have HLO2 := Lib.hid hlo
      have TT := Lib.hid (fun w' => types_any k s1 w' (by omega))
      have K6w := Lib.hid (fun (w' : World) (h : Gr wr w') => K6.out w' (WB.out w' (HLP.out.more h).bel))
      have KX0w := Lib.hid (fun (w' : World) (h : Gr wr w') => (show w'.cell? ⟨gb, ob, none⟩ = some (.int .u8 x0) from KA.out w' (HB.out.trans ((WB.out w' (HLP.out.more h).bel).mono HB.out.size))))
      obtain ⟨ty, hty⟩ : ∃ t, t = tyM k s1 := ⟨_, rfl⟩
      rw [← hty] at TT
      obtain ⟨b5, hb5⟩ : ∃ b, b = (ty != x0) := ⟨_, rfl⟩
      have QN := Lib.hid hb5.symm
      have HTY := Lib.hid hty
      have HB5 := Lib.hid hb5
      have HK := Lib.hid hk
      clear hlo HLO hty hb5 hk
      go_upto_region 9 with fail
      clear q5 q5b
      refine with_act fun a0 ha0 => ?_
      have hl : lqT.length = a0.tmps.size := by rw [ha0]; rfl
      have k0 : a0.tmps[0]?.getD undef = .slice (some ⟨gb, ob, none⟩) n0 c0 := by rw [ha0]; rfl
      have k4 : a0.tmps[4]?.getD undef = .pointer (some ⟨(w.heap.size), 0, none⟩) := by rw [ha0]; rfl
      have k9 : a0.tmps[9]?.getD undef = .int .i64 (k : Int) := by rw [ha0]; rfl
      refine wp_region_vals (by kernel_rfl) lqT (by kernel_rfl) (by kernel_rfl) hl (fun i => ([u43, u44, u45, u46, u47, u48, u49, u50] : List Value).getD i undef) (by rw [ha0]; rfl) (Gr wr) (lqV gb ob n0 c0 (w.heap.size) k s1 ty x0 b5) (show Gr _ _ from (Below.refl _ _).drew) (lqV.keep _ _ _ _ _ _ _ _ _ _) ⟨?_, ?_, ?_, ?_, ?_, ?_, ?_, ?_, trivial⟩ ?_
      · refine step_plain [] (by kernel_rfl) rfl fun us w' hG hV => ?_
        have o9 := (frame_old2 (us := us) (a := a0) (show (lqT[9]?).join = none from rfl)).trans k9
        generalize frame lqT a0 us = fr at *
        exact val_ok (v := .int .i64 (k : Int)) (w' := w') (by go_simp) hG (Below.refl _ _) rfl
      · refine step_plain [] (by kernel_rfl) rfl fun us w' hG hV => ?_
        have o4 := (frame_old2 (us := us) (a := a0) (show (lqT[4]?).join = none from rfl)).trans k4
        generalize frame lqT a0 us = fr at *
        exact val_ok (v := .pointer (some ⟨(w.heap.size), 0, none⟩)) (w' := w') (by go_simp) hG (Below.refl _ _) rfl
      · refine step_plain [1] (by kernel_rfl) rfl fun us w' hG hV => ?_
        have e1 : us 1 = .pointer (some ⟨(w.heap.size), 0, none⟩) := hV 1 (by simp)
        have v1 := (frame_at2 (us := us) hl (show (lqT[44]?).join = some 1 from rfl)).trans e1
        have hc := K6w.out w' hG
        generalize frame lqT a0 us = fr at *
        exact val_ok (v := .bool s1) (w' := w') (by go_simp) hG (Below.refl _ _) rfl
      · refine step_plain [0, 2] (by kernel_rfl) rfl fun us w' hG hV => ?_
        have e0 : us 0 = .int .i64 (k : Int) := hV 0 (by simp)
        have v0 := (frame_at2 (us := us) hl (show (lqT[43]?).join = some 0 from rfl)).trans e0
        have e2 : us 2 = .bool s1 := hV 2 (by simp)
        have v2 := (frame_at2 (us := us) hl (show (lqT[45]?).join = some 2 from rfl)).trans e2
        generalize frame lqT a0 us = fr at *
        exact call_ok (f := 39) (args := #[.int .i64 (k : Int), .bool s1]) (by go_simp) ((TT.out w').mono fun e w'' h => ⟨_, h.1, hG.below h.2, h.2, rfl⟩)
      · refine step_plain [] (by kernel_rfl) rfl fun us w' hG hV => ?_
        have o0 := (frame_old2 (us := us) (a := a0) (show (lqT[0]?).join = none from rfl)).trans k0
        generalize frame lqT a0 us = fr at *
        exact val_ok (v := .slice (some ⟨gb, ob, none⟩) n0 c0) (w' := w') (by go_simp) hG (Below.refl _ _) rfl
      · refine step_plain [4] (by kernel_rfl) rfl fun us w' hG hV => ?_
        have e4 : us 4 = .slice (some ⟨gb, ob, none⟩) n0 c0 := hV 4 (by simp)
        have v4 := (frame_at2 (us := us) hl (show (lqT[47]?).join = some 4 from rfl)).trans e4
        have hl0 := L0.out
        have hl0n : n0 ≠ 0 := Nat.pos_iff_ne_zero.1 hl0
        have hl0z : (0 : Int) < (n0 : Int) := Int.natCast_pos.2 hl0
        generalize frame lqT a0 us = fr at *
        exact val_ok (v := .pointer (some ⟨gb, ob, none⟩)) (w' := w') (by go_simp) hG (Below.refl _ _) rfl
      · refine step_plain [5] (by kernel_rfl) rfl fun us w' hG hV => ?_
        have e5 : us 5 = .pointer (some ⟨gb, ob, none⟩) := hV 5 (by simp)
        have v5 := (frame_at2 (us := us) hl (show (lqT[48]?).join = some 5 from rfl)).trans e5
        have hc := KX0w.out w' hG
        generalize frame lqT a0 us = fr at *
        exact val_ok (v := .int .u8 x0) (w' := w') (by go_simp) hG (Below.refl _ _) rfl
      · refine step_plain [3, 6] (by kernel_rfl) rfl fun us w' hG hV => ?_
        have e3 : us 3 = .int .u8 ty := hV 3 (by simp)
        have v3 := (frame_at2 (us := us) hl (show (lqT[46]?).join = some 3 from rfl)).trans e3
        have e6 : us 6 = .int .u8 x0 := hV 6 (by simp)
        have v6 := (frame_at2 (us := us) hl (show (lqT[49]?).join = some 6 from rfl)).trans e6
        have q := QN.out
        generalize frame lqT a0 us = fr at *
        exact val_ok (v := .bool b5) (w' := w') (by go_simp) hG (Below.refl _ _) rfl
      · intro us w9 hG hV
        have e7 : us 7 = .bool b5 := hV 7 (by decide)
        subst ha0
        simp only [frame, lqT, fill]
        rw [e7]
        have HL9 := Lib.hid (HLP.out.more hG)
        clear hV hl hG k0 k4 k9 e7 K6w KX0w TT QN HLP
        have WB9 := Lib.hid (WB.out w9 HL9.out.bel)
        have WW9 := Lib.hid (HB.out.trans (WB9.out.mono HB.out.size))
        have p6 := K6.out w9 WB9.out
        have kx0 : w9.cell? ⟨gb, ob, none⟩ = some (.int .u8 x0) := KA.out w9 WW9.out
        have kx1 := KB.out w9 WW9.out
        have l0 := L0.out
        have l0n : n0 ≠ 0 := Nat.pos_iff_ne_zero.1 l0
        have l0z : (0 : Int) < (n0 : Int) := Int.natCast_pos.2 l0
        have l1 := L1.out
        cases b5
        rotate_left
        · have HN := Lib.hid (show loopM s1 x0 x1 mm (6 - (k + 1)) (k + 1) m = LR from by
            have h := HLO2.out
            rw [if_neg (by have h5 := HB5.out; rw [HTY.out] at h5; unfold hitM; intro h6; simp only [Bool.and_eq_true, beq_iff_eq] at h6; rw [h6.1] at h5; simp at h5)] at h
            exact h)
          clear HLO2 HB5 HTY p6 kx0 kx1 l0 l1 l0n l0z
          go_upto_region 8 with (first | go_skip)
          go_wp2_with fail
          go_roundw
          case rel => exact ⟨k + 1, m, by go_num, by omega, by have := HK.out; omega, HL9.out, HN.out⟩
          case measure => have := HK.out; simp [intOf]; omega
        have HT := Lib.hid (show (tyM k s1 == x0) = true from by have h5 := HB5.out; rw [HTY.out] at h5; simpa using h5.symm)
        clear HB5 HTY
        cases s1
        rotate_left
        · have HIT := Lib.hid (show hitM true x0 x1 k = true by unfold hitM; rw [HT.out]; rfl)
          clear HT
          have HLO3 := Lib.hid (show (if mayM (keptM { m with ki := (k : Int) }) mm true = true then some (keptM { m with ki := (k : Int) }) else loopM true x0 x1 mm (6 - (k + 1)) (k + 1) (keptM { m with ki := (k : Int) })) = LR from by
            have h := HLO2.out
            rw [if_pos HIT.out] at h
            exact h)
          clear HLO2 HIT
          go_upto_region 11 with (first | go_skip)
          clear p6 kx0 kx1 l0 l1 l0n l0z
          have c0 := pkC.PkC.cell HL9.out.row (msC m B6 mm d9).ki
          have f0 := frozen_of_row w9 g1 0 _ _ HL9.out.row
          go_upto_region 12 with fail
          clear c0 f0
          have HL10 := Lib.hid (HL9.out.kind HGB.out (k : Int))
          generalize w9.setCell ⟨g1, 0, none⟩ (.int .i64 (k : Int)) = w10 at *
          obtain ⟨m1, hm1⟩ : ∃ q, q = ({ m with ki := (k : Int) } : Ms) := ⟨_, rfl⟩
          rw [← hm1] at HL10 HLO3
          have KT := Lib.hid (kept_any m1 B6 mm d9 w10)
          obtain ⟨m2, hm2⟩ : ∃ q, q = keptM m1 := ⟨_, rfl⟩
          rw [← hm2] at KT HLO3
          have I1m := Lib.hid (IX.out m1 B6 mm d9)
          have I2m := Lib.hid (IX.out m2 B6 mm d9)
          have S2m := Lib.hid (show (msV m1 B6 mm d9).size = (msV m2 B6 mm d9).size from rfl)
          have O2m := Lib.hid (OX.out m2 B6 mm d9)
          have Z2m := Lib.hid (SX.out m2 B6 mm d9)
          have R10 := Lib.hid HL10.out.row
          have MY := Lib.hid (fun (w' : World) (h : LpI (w5.heap.size) g1 w5 w' m2 B6 mm d9 XD) => rmay_any m2 B6 mm d9 true XD w' h.own.nums YXD.out)
          obtain ⟨my, hmy⟩ : ∃ q, q = mayM m2 mm true := ⟨_, rfl⟩
          rw [← hmy] at MY HLO3
          obtain ⟨C1m, hC1⟩ : ∃ C, C = msV m1 B6 mm d9 := ⟨_, rfl⟩
          obtain ⟨C2m, hC2⟩ : ∃ C, C = msV m2 B6 mm d9 := ⟨_, rfl⟩
          have PUTS := Lib.hid (fun (w' : World) (h : LpI (w5.heap.size) g1 w5 w' m1 B6 mm d9 XD) => (show LpI (w5.heap.size) g1 w5 (w'.setRow g1 (msV m2 B6 mm d9)) m2 B6 mm d9 XD from h.put HGB.out))
          have ROW1 := Lib.hid (fun (w' : World) (h : LpI (w5.heap.size) g1 w5 w' m1 B6 mm d9 XD) => h.row)
          have ROW2 := Lib.hid (fun (w' : World) (h : LpI (w5.heap.size) g1 w5 w' m2 B6 mm d9 XD) => h.row)
          have HC2 := Lib.hid hC2
          simp only [← hC1, ← hC2] at KT I1m I2m S2m O2m Z2m R10 MY PUTS ROW1 ROW2
          clear hm1 hm2 hC1 hC2 hmy
          go_upto_region 13 with (first
            | (refine wpList_load_row rfl 26 (.tmp 8) rfl g1 rfl _ _ _ _ R10.out Try.underlying26 rfl I1m.out ?_)
            | (go_at_call 33; (refine KT.out.mono ?_); rintro e w11 ⟨rfl, BB⟩
               have HL11 := Lib.hid (HL10.out.more BB)
               have R11 := Lib.hid (ROW1.out w11 HL11.out)
               clear BB)
            | (refine wpList_store_row rfl 26 (.tmp 8) (.tmp 72) rfl g1 _ rfl rfl _ _ R11.out I2m.out S2m.out O2m.out ?_))
          have HL12 := Lib.hid (PUTS.out w11 HL11.out)
          generalize w11.setRow g1 C2m = w12 at *
          clear HL9 HL10 HL11 R10 R11 KT ROW1 PUTS I1m S2m
          have p6 := K6.out w12 (WB.out w12 HL12.out.bel)
          have R12 := Lib.hid (ROW2.out w12 HL12.out)
          have MC := Lib.hid (MY.out w12 HL12.out)
          clear MY
          cases my
          · have HN := Lib.hid (show loopM true x0 x1 mm (6 - (k + 1)) (k + 1) m2 = LR from by have h := HLO3.out; rw [if_neg (by decide)] at h; exact h)
            clear HLO3
            go_upto_region 8 with (first
              | (refine wpList_load_row rfl 26 (.tmp 8) rfl g1 rfl _ _ _ _ R12.out Try.underlying26 rfl I2m.out ?_)
              | (go_at_call 14; (refine MC.out.mono ?_); rintro e w13 ⟨rfl, BB⟩
                 have HL13 := Lib.hid (HL12.out.more BB)
                 clear BB))
            go_wp2_with fail
            go_roundw
            case rel => exact ⟨k + 1, m2, by go_num, by omega, by have := HK.out; omega, HL13.out, HN.out⟩
            case measure => have := HK.out; simp [intOf]; omega
          · have HS := Lib.hid (show some m2 = LR from by have h := HLO3.out; rw [if_pos rfl] at h; exact h)
            clear HLO3
            go_wp2_with (first
              | (refine wpList_load_row rfl 26 (.tmp 8) rfl g1 rfl _ _ _ _ R12.out Try.underlying26 rfl I2m.out ?_)
              | (go_at_call 14; (refine MC.out.mono ?_); rintro e w13 ⟨rfl, BB⟩
                 have HL13 := Lib.hid (HL12.out.more BB)
                 have R13 := Lib.hid (ROW2.out w13 HL13.out)
                 have S13 := Lib.hid (KRES.out w13 (WB.out w13 HL13.out.bel))
                 clear BB)
              | (refine wpList_load_row rfl 26 (.tmp 8) rfl g1 rfl _ _ _ _ R13.out Try.underlying26 rfl I2m.out ?_)
              | (refine wpList_store_row rfl 26 (.tmp 6) (.tmp 77) rfl (w.heap.size + 2) _ rfl rfl _ _ S13.out I2m.out Z2m.out O2m.out ?_))
            refine bodyPost_ret (v := .tuple #[.agg C2m, .int .i64 0]) (adC.results_cell_tmp Try.results18 _ _ (w.heap.size + 2) _ _ _ _ _ (by rfl) (setRow_heap _ _ _ _ _ _ S13.out) Try.underlying26 rfl I2m.out (by rfl)) rfl ?_
            rw [FIN.out, ← HS.out]
            refine ⟨B6, mm, d9, by rw [HC2.out]; rfl, ?_, setR_belowI (HB.out.trans ((WB.out w13 HL13.out.bel).mono HB.out.size)) (by omega) _⟩
            exact (own_otherI HL13.out.own S13.out (by decide)).less (Nat.le_trans HB.out.size B5.out.size)
        by_cases e3 : x0 = 3
        rotate_left
        · have d3 : (x0 == 3) = false := beq_eq_false_iff_ne.2 e3
          have HIT := Lib.hid (show hitM false x0 x1 k = true by unfold hitM; rw [HT.out, d3]; rfl)
          clear HT e3
          have HLO3 := Lib.hid (show (if mayM (keptM { m with ki := (k : Int) }) mm false = true then some (keptM { m with ki := (k : Int) }) else loopM false x0 x1 mm (6 - (k + 1)) (k + 1) (keptM { m with ki := (k : Int) })) = LR from by
            have h := HLO2.out
            rw [if_pos HIT.out] at h
            exact h)
          clear HLO2 HIT
          go_upto_region 11 with (first | go_skip)
          clear p6 kx0 kx1 l0 l1 l0n l0z
          have c0 := pkC.PkC.cell HL9.out.row (msC m B6 mm d9).ki
          have f0 := frozen_of_row w9 g1 0 _ _ HL9.out.row
          go_upto_region 12 with fail
          clear c0 f0
          have HL10 := Lib.hid (HL9.out.kind HGB.out (k : Int))
          generalize w9.setCell ⟨g1, 0, none⟩ (.int .i64 (k : Int)) = w10 at *
          obtain ⟨m1, hm1⟩ : ∃ q, q = ({ m with ki := (k : Int) } : Ms) := ⟨_, rfl⟩
          rw [← hm1] at HL10 HLO3
          have KT := Lib.hid (kept_any m1 B6 mm d9 w10)
          obtain ⟨m2, hm2⟩ : ∃ q, q = keptM m1 := ⟨_, rfl⟩
          rw [← hm2] at KT HLO3
          have I1m := Lib.hid (IX.out m1 B6 mm d9)
          have I2m := Lib.hid (IX.out m2 B6 mm d9)
          have S2m := Lib.hid (show (msV m1 B6 mm d9).size = (msV m2 B6 mm d9).size from rfl)
          have O2m := Lib.hid (OX.out m2 B6 mm d9)
          have Z2m := Lib.hid (SX.out m2 B6 mm d9)
          have R10 := Lib.hid HL10.out.row
          have MY := Lib.hid (fun (w' : World) (h : LpI (w5.heap.size) g1 w5 w' m2 B6 mm d9 XD) => rmay_any m2 B6 mm d9 false XD w' h.own.nums YXD.out)
          obtain ⟨my, hmy⟩ : ∃ q, q = mayM m2 mm false := ⟨_, rfl⟩
          rw [← hmy] at MY HLO3
          obtain ⟨C1m, hC1⟩ : ∃ C, C = msV m1 B6 mm d9 := ⟨_, rfl⟩
          obtain ⟨C2m, hC2⟩ : ∃ C, C = msV m2 B6 mm d9 := ⟨_, rfl⟩
          have PUTS := Lib.hid (fun (w' : World) (h : LpI (w5.heap.size) g1 w5 w' m1 B6 mm d9 XD) => (show LpI (w5.heap.size) g1 w5 (w'.setRow g1 (msV m2 B6 mm d9)) m2 B6 mm d9 XD from h.put HGB.out))
          have ROW1 := Lib.hid (fun (w' : World) (h : LpI (w5.heap.size) g1 w5 w' m1 B6 mm d9 XD) => h.row)
          have ROW2 := Lib.hid (fun (w' : World) (h : LpI (w5.heap.size) g1 w5 w' m2 B6 mm d9 XD) => h.row)
          have HC2 := Lib.hid hC2
          simp only [← hC1, ← hC2] at KT I1m I2m S2m O2m Z2m R10 MY PUTS ROW1 ROW2
          clear hm1 hm2 hC1 hC2 hmy
          go_upto_region 13 with (first
            | (refine wpList_load_row rfl 26 (.tmp 8) rfl g1 rfl _ _ _ _ R10.out Try.underlying26 rfl I1m.out ?_)
            | (go_at_call 33; (refine KT.out.mono ?_); rintro e w11 ⟨rfl, BB⟩
               have HL11 := Lib.hid (HL10.out.more BB)
               have R11 := Lib.hid (ROW1.out w11 HL11.out)
               clear BB)
            | (refine wpList_store_row rfl 26 (.tmp 8) (.tmp 72) rfl g1 _ rfl rfl _ _ R11.out I2m.out S2m.out O2m.out ?_))
          have HL12 := Lib.hid (PUTS.out w11 HL11.out)
          generalize w11.setRow g1 C2m = w12 at *
          clear HL9 HL10 HL11 R10 R11 KT ROW1 PUTS I1m S2m
          have p6 := K6.out w12 (WB.out w12 HL12.out.bel)
          have R12 := Lib.hid (ROW2.out w12 HL12.out)
          have MC := Lib.hid (MY.out w12 HL12.out)
          clear MY
          cases my
          · have HN := Lib.hid (show loopM false x0 x1 mm (6 - (k + 1)) (k + 1) m2 = LR from by have h := HLO3.out; rw [if_neg (by decide)] at h; exact h)
            clear HLO3
            go_upto_region 8 with (first
              | (refine wpList_load_row rfl 26 (.tmp 8) rfl g1 rfl _ _ _ _ R12.out Try.underlying26 rfl I2m.out ?_)
              | (go_at_call 14; (refine MC.out.mono ?_); rintro e w13 ⟨rfl, BB⟩
                 have HL13 := Lib.hid (HL12.out.more BB)
                 clear BB))
            go_wp2_with fail
            go_roundw
            case rel => exact ⟨k + 1, m2, by go_num, by omega, by have := HK.out; omega, HL13.out, HN.out⟩
            case measure => have := HK.out; simp [intOf]; omega
          · have HS := Lib.hid (show some m2 = LR from by have h := HLO3.out; rw [if_pos rfl] at h; exact h)
            clear HLO3
            go_wp2_with (first
              | (refine wpList_load_row rfl 26 (.tmp 8) rfl g1 rfl _ _ _ _ R12.out Try.underlying26 rfl I2m.out ?_)
              | (go_at_call 14; (refine MC.out.mono ?_); rintro e w13 ⟨rfl, BB⟩
                 have HL13 := Lib.hid (HL12.out.more BB)
                 have R13 := Lib.hid (ROW2.out w13 HL13.out)
                 have S13 := Lib.hid (KRES.out w13 (WB.out w13 HL13.out.bel))
                 clear BB)
              | (refine wpList_load_row rfl 26 (.tmp 8) rfl g1 rfl _ _ _ _ R13.out Try.underlying26 rfl I2m.out ?_)
              | (refine wpList_store_row rfl 26 (.tmp 6) (.tmp 77) rfl (w.heap.size + 2) _ rfl rfl _ _ S13.out I2m.out Z2m.out O2m.out ?_))
            refine bodyPost_ret (v := .tuple #[.agg C2m, .int .i64 0]) (adC.results_cell_tmp Try.results18 _ _ (w.heap.size + 2) _ _ _ _ _ (by rfl) (setRow_heap _ _ _ _ _ _ S13.out) Try.underlying26 rfl I2m.out (by rfl)) rfl ?_
            rw [FIN.out, ← HS.out]
            refine ⟨B6, mm, d9, by rw [HC2.out]; rfl, ?_, setR_belowI (HB.out.trans ((WB.out w13 HL13.out.bel).mono HB.out.size)) (by omega) _⟩
            exact (own_otherI HL13.out.own S13.out (by decide)).less (Nat.le_trans HB.out.size B5.out.size)
        have d3 : (x0 == 3) = true := beq_iff_eq.2 e3
        by_cases e4 : k = 4
        · have d4 : ((k : Int) == 4) = true := beq_iff_eq.2 (by omega)
          have d4n : (k == 4) = true := beq_iff_eq.2 e4
          by_cases e1 : x1 = 4
          · have d1 : (x1 == 4) = true := beq_iff_eq.2 e1
            have HIT := Lib.hid (show hitM false x0 x1 k = true by unfold hitM; rw [HT.out, d3, d4n, d1]; rfl)
            clear HT e3 e4 e1 d4n
            have HLO3 := Lib.hid (show (if mayM (keptM { m with ki := (k : Int) }) mm false = true then some (keptM { m with ki := (k : Int) }) else loopM false x0 x1 mm (6 - (k + 1)) (k + 1) (keptM { m with ki := (k : Int) })) = LR from by
              have h := HLO2.out
              rw [if_pos HIT.out] at h
              exact h)
            clear HLO2 HIT
            go_upto_region 11 with (first | go_skip)
            clear p6 kx0 kx1 l0 l1 l0n l0z
            have c0 := pkC.PkC.cell HL9.out.row (msC m B6 mm d9).ki
            have f0 := frozen_of_row w9 g1 0 _ _ HL9.out.row
            go_upto_region 12 with fail
            clear c0 f0
            have HL10 := Lib.hid (HL9.out.kind HGB.out (k : Int))
            generalize w9.setCell ⟨g1, 0, none⟩ (.int .i64 (k : Int)) = w10 at *
            obtain ⟨m1, hm1⟩ : ∃ q, q = ({ m with ki := (k : Int) } : Ms) := ⟨_, rfl⟩
            rw [← hm1] at HL10 HLO3
            have KT := Lib.hid (kept_any m1 B6 mm d9 w10)
            obtain ⟨m2, hm2⟩ : ∃ q, q = keptM m1 := ⟨_, rfl⟩
            rw [← hm2] at KT HLO3
            have I1m := Lib.hid (IX.out m1 B6 mm d9)
            have I2m := Lib.hid (IX.out m2 B6 mm d9)
            have S2m := Lib.hid (show (msV m1 B6 mm d9).size = (msV m2 B6 mm d9).size from rfl)
            have O2m := Lib.hid (OX.out m2 B6 mm d9)
            have Z2m := Lib.hid (SX.out m2 B6 mm d9)
            have R10 := Lib.hid HL10.out.row
            have MY := Lib.hid (fun (w' : World) (h : LpI (w5.heap.size) g1 w5 w' m2 B6 mm d9 XD) => rmay_any m2 B6 mm d9 false XD w' h.own.nums YXD.out)
            obtain ⟨my, hmy⟩ : ∃ q, q = mayM m2 mm false := ⟨_, rfl⟩
            rw [← hmy] at MY HLO3
            obtain ⟨C1m, hC1⟩ : ∃ C, C = msV m1 B6 mm d9 := ⟨_, rfl⟩
            obtain ⟨C2m, hC2⟩ : ∃ C, C = msV m2 B6 mm d9 := ⟨_, rfl⟩
            have PUTS := Lib.hid (fun (w' : World) (h : LpI (w5.heap.size) g1 w5 w' m1 B6 mm d9 XD) => (show LpI (w5.heap.size) g1 w5 (w'.setRow g1 (msV m2 B6 mm d9)) m2 B6 mm d9 XD from h.put HGB.out))
            have ROW1 := Lib.hid (fun (w' : World) (h : LpI (w5.heap.size) g1 w5 w' m1 B6 mm d9 XD) => h.row)
            have ROW2 := Lib.hid (fun (w' : World) (h : LpI (w5.heap.size) g1 w5 w' m2 B6 mm d9 XD) => h.row)
            have HC2 := Lib.hid hC2
            simp only [← hC1, ← hC2] at KT I1m I2m S2m O2m Z2m R10 MY PUTS ROW1 ROW2
            clear hm1 hm2 hC1 hC2 hmy
            go_upto_region 13 with (first
              | (refine wpList_load_row rfl 26 (.tmp 8) rfl g1 rfl _ _ _ _ R10.out Try.underlying26 rfl I1m.out ?_)
              | (go_at_call 33; (refine KT.out.mono ?_); rintro e w11 ⟨rfl, BB⟩
                 have HL11 := Lib.hid (HL10.out.more BB)
                 have R11 := Lib.hid (ROW1.out w11 HL11.out)
                 clear BB)
              | (refine wpList_store_row rfl 26 (.tmp 8) (.tmp 72) rfl g1 _ rfl rfl _ _ R11.out I2m.out S2m.out O2m.out ?_))
            have HL12 := Lib.hid (PUTS.out w11 HL11.out)
            generalize w11.setRow g1 C2m = w12 at *
            clear HL9 HL10 HL11 R10 R11 KT ROW1 PUTS I1m S2m
            have p6 := K6.out w12 (WB.out w12 HL12.out.bel)
            have R12 := Lib.hid (ROW2.out w12 HL12.out)
            have MC := Lib.hid (MY.out w12 HL12.out)
            clear MY
            cases my
            · have HN := Lib.hid (show loopM false x0 x1 mm (6 - (k + 1)) (k + 1) m2 = LR from by have h := HLO3.out; rw [if_neg (by decide)] at h; exact h)
              clear HLO3
              go_upto_region 8 with (first
                | (refine wpList_load_row rfl 26 (.tmp 8) rfl g1 rfl _ _ _ _ R12.out Try.underlying26 rfl I2m.out ?_)
                | (go_at_call 14; (refine MC.out.mono ?_); rintro e w13 ⟨rfl, BB⟩
                   have HL13 := Lib.hid (HL12.out.more BB)
                   clear BB))
              go_wp2_with fail
              go_roundw
              case rel => exact ⟨k + 1, m2, by go_num, by omega, by have := HK.out; omega, HL13.out, HN.out⟩
              case measure => have := HK.out; simp [intOf]; omega
            · have HS := Lib.hid (show some m2 = LR from by have h := HLO3.out; rw [if_pos rfl] at h; exact h)
              clear HLO3
              go_wp2_with (first
                | (refine wpList_load_row rfl 26 (.tmp 8) rfl g1 rfl _ _ _ _ R12.out Try.underlying26 rfl I2m.out ?_)
                | (go_at_call 14; (refine MC.out.mono ?_); rintro e w13 ⟨rfl, BB⟩
                   have HL13 := Lib.hid (HL12.out.more BB)
                   have R13 := Lib.hid (ROW2.out w13 HL13.out)
                   have S13 := Lib.hid (KRES.out w13 (WB.out w13 HL13.out.bel))
                   clear BB)
                | (refine wpList_load_row rfl 26 (.tmp 8) rfl g1 rfl _ _ _ _ R13.out Try.underlying26 rfl I2m.out ?_)
                | (refine wpList_store_row rfl 26 (.tmp 6) (.tmp 77) rfl (w.heap.size + 2) _ rfl rfl _ _ S13.out I2m.out Z2m.out O2m.out ?_))
              refine bodyPost_ret (v := .tuple #[.agg C2m, .int .i64 0]) (adC.results_cell_tmp Try.results18 _ _ (w.heap.size + 2) _ _ _ _ _ (by rfl) (setRow_heap _ _ _ _ _ _ S13.out) Try.underlying26 rfl I2m.out (by rfl)) rfl ?_
              rw [FIN.out, ← HS.out]
              refine ⟨B6, mm, d9, by rw [HC2.out]; rfl, ?_, setR_belowI (HB.out.trans ((WB.out w13 HL13.out.bel).mono HB.out.size)) (by omega) _⟩
              exact (own_otherI HL13.out.own S13.out (by decide)).less (Nat.le_trans HB.out.size B5.out.size)
          · have d1 : (x1 == 4) = false := beq_eq_false_iff_ne.2 e1
            have HN := Lib.hid (show loopM false x0 x1 mm (6 - (k + 1)) (k + 1) m = LR from by
              have h := HLO2.out
              rw [if_neg (by unfold hitM; rw [HT.out, d3, d4n, d1]; decide)] at h
              exact h)
            clear HT e3 e4 e1 d4n HLO2
            go_upto_region 8 with (first | go_skip)
            go_wp2_with fail
            go_roundw
            case rel => exact ⟨k + 1, m, by go_num, by omega, by have := HK.out; omega, HL9.out, HN.out⟩
            case measure => have := HK.out; simp [intOf]; omega
        · have d4 : ((k : Int) == 4) = false := beq_eq_false_iff_ne.2 (by omega)
          have d4n : (k == 4) = false := beq_eq_false_iff_ne.2 e4
          by_cases e1 : x1 = 4
          · have d1 : (x1 == 4) = true := beq_iff_eq.2 e1
            have HN := Lib.hid (show loopM false x0 x1 mm (6 - (k + 1)) (k + 1) m = LR from by
              have h := HLO2.out
              rw [if_neg (by unfold hitM; rw [HT.out, d3, d4n, d1]; decide)] at h
              exact h)
            clear HT e3 e4 e1 d4n HLO2
            go_upto_region 8 with (first | go_skip)
            go_wp2_with fail
            go_roundw
            case rel => exact ⟨k + 1, m, by go_num, by omega, by have := HK.out; omega, HL9.out, HN.out⟩
            case measure => have := HK.out; simp [intOf]; omega
          · have d1 : (x1 == 4) = false := beq_eq_false_iff_ne.2 e1
            have HIT := Lib.hid (show hitM false x0 x1 k = true by unfold hitM; rw [HT.out, d3, d4n, d1]; rfl)
            clear HT e3 e4 e1 d4n
            have HLO3 := Lib.hid (show (if mayM (keptM { m with ki := (k : Int) }) mm false = true then some (keptM { m with ki := (k : Int) }) else loopM false x0 x1 mm (6 - (k + 1)) (k + 1) (keptM { m with ki := (k : Int) })) = LR from by
              have h := HLO2.out
              rw [if_pos HIT.out] at h
              exact h)
            clear HLO2 HIT
            go_upto_region 11 with (first | go_skip)
            clear p6 kx0 kx1 l0 l1 l0n l0z
            have c0 := pkC.PkC.cell HL9.out.row (msC m B6 mm d9).ki
            have f0 := frozen_of_row w9 g1 0 _ _ HL9.out.row
            go_upto_region 12 with fail
            clear c0 f0
            have HL10 := Lib.hid (HL9.out.kind HGB.out (k : Int))
            generalize w9.setCell ⟨g1, 0, none⟩ (.int .i64 (k : Int)) = w10 at *
            obtain ⟨m1, hm1⟩ : ∃ q, q = ({ m with ki := (k : Int) } : Ms) := ⟨_, rfl⟩
            rw [← hm1] at HL10 HLO3
            have KT := Lib.hid (kept_any m1 B6 mm d9 w10)
            obtain ⟨m2, hm2⟩ : ∃ q, q = keptM m1 := ⟨_, rfl⟩
            rw [← hm2] at KT HLO3
            have I1m := Lib.hid (IX.out m1 B6 mm d9)
            have I2m := Lib.hid (IX.out m2 B6 mm d9)
            have S2m := Lib.hid (show (msV m1 B6 mm d9).size = (msV m2 B6 mm d9).size from rfl)
            have O2m := Lib.hid (OX.out m2 B6 mm d9)
            have Z2m := Lib.hid (SX.out m2 B6 mm d9)
            have R10 := Lib.hid HL10.out.row
            have MY := Lib.hid (fun (w' : World) (h : LpI (w5.heap.size) g1 w5 w' m2 B6 mm d9 XD) => rmay_any m2 B6 mm d9 false XD w' h.own.nums YXD.out)
            obtain ⟨my, hmy⟩ : ∃ q, q = mayM m2 mm false := ⟨_, rfl⟩
            rw [← hmy] at MY HLO3
            obtain ⟨C1m, hC1⟩ : ∃ C, C = msV m1 B6 mm d9 := ⟨_, rfl⟩
            obtain ⟨C2m, hC2⟩ : ∃ C, C = msV m2 B6 mm d9 := ⟨_, rfl⟩
            have PUTS := Lib.hid (fun (w' : World) (h : LpI (w5.heap.size) g1 w5 w' m1 B6 mm d9 XD) => (show LpI (w5.heap.size) g1 w5 (w'.setRow g1 (msV m2 B6 mm d9)) m2 B6 mm d9 XD from h.put HGB.out))
            have ROW1 := Lib.hid (fun (w' : World) (h : LpI (w5.heap.size) g1 w5 w' m1 B6 mm d9 XD) => h.row)
            have ROW2 := Lib.hid (fun (w' : World) (h : LpI (w5.heap.size) g1 w5 w' m2 B6 mm d9 XD) => h.row)
            have HC2 := Lib.hid hC2
            simp only [← hC1, ← hC2] at KT I1m I2m S2m O2m Z2m R10 MY PUTS ROW1 ROW2
            clear hm1 hm2 hC1 hC2 hmy
            go_upto_region 13 with (first
              | (refine wpList_load_row rfl 26 (.tmp 8) rfl g1 rfl _ _ _ _ R10.out Try.underlying26 rfl I1m.out ?_)
              | (go_at_call 33; (refine KT.out.mono ?_); rintro e w11 ⟨rfl, BB⟩
                 have HL11 := Lib.hid (HL10.out.more BB)
                 have R11 := Lib.hid (ROW1.out w11 HL11.out)
                 clear BB)
              | (refine wpList_store_row rfl 26 (.tmp 8) (.tmp 72) rfl g1 _ rfl rfl _ _ R11.out I2m.out S2m.out O2m.out ?_))
            have HL12 := Lib.hid (PUTS.out w11 HL11.out)
            generalize w11.setRow g1 C2m = w12 at *
            clear HL9 HL10 HL11 R10 R11 KT ROW1 PUTS I1m S2m
            have p6 := K6.out w12 (WB.out w12 HL12.out.bel)
            have R12 := Lib.hid (ROW2.out w12 HL12.out)
            have MC := Lib.hid (MY.out w12 HL12.out)
            clear MY
            cases my
            · have HN := Lib.hid (show loopM false x0 x1 mm (6 - (k + 1)) (k + 1) m2 = LR from by have h := HLO3.out; rw [if_neg (by decide)] at h; exact h)
              clear HLO3
              go_upto_region 8 with (first
                | (refine wpList_load_row rfl 26 (.tmp 8) rfl g1 rfl _ _ _ _ R12.out Try.underlying26 rfl I2m.out ?_)
                | (go_at_call 14; (refine MC.out.mono ?_); rintro e w13 ⟨rfl, BB⟩
                   have HL13 := Lib.hid (HL12.out.more BB)
                   clear BB))
              go_wp2_with fail
              go_roundw
              case rel => exact ⟨k + 1, m2, by go_num, by omega, by have := HK.out; omega, HL13.out, HN.out⟩
              case measure => have := HK.out; simp [intOf]; omega
            · have HS := Lib.hid (show some m2 = LR from by have h := HLO3.out; rw [if_pos rfl] at h; exact h)
              clear HLO3
              go_wp2_with (first
                | (refine wpList_load_row rfl 26 (.tmp 8) rfl g1 rfl _ _ _ _ R12.out Try.underlying26 rfl I2m.out ?_)
                | (go_at_call 14; (refine MC.out.mono ?_); rintro e w13 ⟨rfl, BB⟩
                   have HL13 := Lib.hid (HL12.out.more BB)
                   have R13 := Lib.hid (ROW2.out w13 HL13.out)
                   have S13 := Lib.hid (KRES.out w13 (WB.out w13 HL13.out.bel))
                   clear BB)
                | (refine wpList_load_row rfl 26 (.tmp 8) rfl g1 rfl _ _ _ _ R13.out Try.underlying26 rfl I2m.out ?_)
                | (refine wpList_store_row rfl 26 (.tmp 6) (.tmp 77) rfl (w.heap.size + 2) _ rfl rfl _ _ S13.out I2m.out Z2m.out O2m.out ?_))
              refine bodyPost_ret (v := .tuple #[.agg C2m, .int .i64 0]) (adC.results_cell_tmp Try.results18 _ _ (w.heap.size + 2) _ _ _ _ _ (by rfl) (setRow_heap _ _ _ _ _ _ S13.out) Try.underlying26 rfl I2m.out (by rfl)) rfl ?_
              rw [FIN.out, ← HS.out]
              refine ⟨B6, mm, d9, by rw [HC2.out]; rfl, ?_, setR_belowI (HB.out.trans ((WB.out w13 HL13.out.bel).mono HB.out.size)) (by omega) _⟩
              exact (own_otherI HL13.out.own S13.out (by decide)).less (Nat.le_trans HB.out.size B5.out.size)
end Go.Proofs.Ytmbfgolcinniiaa.icC
