/-
  6 texts of a proof, joined.
-/
import Derived.Test.YtjdenhkicikfkaaMg10
import Derived.Test.YtjdenhkicikfkaaMg12
import Derived.Test.YtjdenhkicikfkaaRows
import Derived.WalkKit
import Derived.ProofKit
import Derived.OpenShut
import Derived.ShutString
import Derived.ChangeOld
import Derived.Below
import Derived.RegionTactic
import Derived.Test.YtjdenhkicikfkaaMg2
import Derived.Test.YtjdenhkicikfkaaMg3
import Derived.Test.YtjdenhkicikfkaaMg9

/-
  Tables of ways over numbers: added, dropped, found, in order.
-/
namespace Go.Proofs.Ytjdenhkicikfkaa.rtC
open Go.ChangeShapes Go.WideShapes Go.ChangeAt Go.RowKit
open Go.Proofs.Ytjdenhkicikfkaa.memC Go.Proofs.Ytjdenhkicikfkaa.genC Go.Proofs.Ytjdenhkicikfkaa.butC Go.Proofs.Ytjdenhkicikfkaa.freeC Go.Proofs.Ytjdenhkicikfkaa.adC
set_option linter.unusedVariables false
theorem cmpW_turn (s : Bool) (a : List Int) (s' : Bool) (b : List Int) : cmpV s' b s a = -cmpV s a s' b := by
  unfold cmpV
  by_cases h : s = s'
  · subst h
    rw [if_pos rfl, if_pos rfl]; exact lexL_turn _ _
  · rw [if_neg h, if_neg (fun e => h e.symm)]
    cases s <;> cases s' <;> first | rfl | exact absurd rfl h
theorem cmpW_three (s : Bool) (a : List Int) (s' : Bool) (b : List Int) : cmpV s a s' b = -1 ∨ cmpV s a s' b = 0 ∨ cmpV s a s' b = 1 := by
  unfold cmpV
  split
  · exact lexL_three _ _
  · split
    · exact .inl rfl
    · exact .inr (.inr rfl)
theorem cmpW_on (s : Bool) (a : List Int) (s' : Bool) (b : List Int) (t : Bool) (c : List Int) : cmpV s a s' b ≤ 0 → cmpV s' b t c ≤ 0 → cmpV s a t c ≤ 0 := by
  unfold cmpV
  cases s <;> cases s' <;> cases t <;> simp <;> exact lexL_on _ _ _
theorem cmpW_not {s s' : Bool} (h : (s == s') = false) (a b : List Int) : cmpV s a s' b ≠ 0 := by
  unfold cmpV
  cases s <;> cases s' <;> simp at h ⊢
/-- of one prefix -/
def sameK (y z : Wy) : Bool := decide (y.s = z.s ∧ y.a = z.a ∧ y.len = z.len)
theorem sameK_symm (y z : Wy) : sameK y z = sameK z y := by
  unfold sameK
  exact decide_eq_decide.2 ⟨fun ⟨a, b, c⟩ => ⟨a.symm, b.symm, c.symm⟩, fun ⟨a, b, c⟩ => ⟨a.symm, b.symm, c.symm⟩⟩
theorem sameK_self (y : Wy) : sameK y y = true := by unfold sameK; simp
theorem sameK_iff {y z : Wy} : sameK y z = true ↔ y.s = z.s ∧ y.a = z.a ∧ y.len = z.len := by unfold sameK; exact decide_eq_true_iff
/-- whether a way may be -/
def mayW (y : Wy) : Bool := decide (maskO y.s y.a y.len = some (y.s, y.a)) && (decide (0 ≤ y.port ∧ y.port ≤ 255) && (if y.via then mayL y.t y.b && decide (y.t = y.s) else decide (y.t = false ∧ y.b = zs 16)))
def hasK (st : List Wy) (y : Wy) : Bool := st.any (sameK y)
def addE (st : List Wy) (y : Wy) : Int := if mayW y then (if hasK st y then 7 else if 128 ≤ st.length then 5 else 0) else 1
def addS (st : List Wy) (y : Wy) : List Wy := if addE st y = 0 then st ++ [y] else st
def dropE (st : List Wy) (y : Wy) : Int := if hasK st y then 0 else 6
def dropS (st : List Wy) (y : Wy) : List Wy := st.filter fun z => !sameK y z
def liesW (s : Bool) (a : List Int) (y : Wy) : Bool := liesL s a y.s y.a y.len
/-- what is found -/
def foundR (st : List Wy) (s : Bool) (a : List Int) (v : Wy) (e : Int) : Prop :=
  (mayL s a = false ∧ v = zWy ∧ e = 1) ∨ (mayL s a = true ∧ (∀ y ∈ st, liesW s a y = false) ∧ v = zWy ∧ e = 17) ∨
  (mayL s a = true ∧ v ∈ st ∧ liesW s a v = true ∧ (∀ y ∈ st, liesW s a y = true → y.len ≤ v.len) ∧ e = 0)
/-- by their prefixes, then by their lengths -/
def leW (y z : Wy) : Prop := cmpV y.s y.a z.s z.a < 0 ∨ (cmpV y.s y.a z.s z.a = 0 ∧ y.len ≤ z.len)
structure Inv (st : List Wy) : Prop where
  ok : ∀ y ∈ st, y.Ok
  may : ∀ y ∈ st, mayW y = true
  nd : st.Pairwise fun y z => sameK y z = false
  le : st.length ≤ 128
theorem Inv.nil : Inv [] := ⟨by simp, by simp, List.Pairwise.nil, by simp⟩
theorem addE_zero {st : List Wy} {y : Wy} (h : addE st y = 0) : mayW y = true ∧ hasK st y = false ∧ st.length < 128 := by
  unfold addE at h
  split at h
  · split at h
    · omega
    · split at h
      · omega
      · rename_i h1 h2 h3
        exact ⟨h1, by simpa using h2, by omega⟩
  · omega
theorem hasK_not {st : List Wy} {y : Wy} (h : hasK st y = false) : ∀ z ∈ st, sameK y z = false := fun z hz => by
  unfold hasK at h
  rw [List.any_eq_false] at h
  simpa using h z hz
theorem Inv.add {st : List Wy} (h : Inv st) {y : Wy} (hy : y.Ok) : Inv (addS st y) := by
  unfold addS
  split
  · rename_i h0
    obtain ⟨h1, h2, h3⟩ := addE_zero h0
    refine ⟨fun z hz => ?_, fun z hz => ?_, ?_, by simp; omega⟩
    · rcases List.mem_append.1 hz with hz | hz
      · exact h.ok z hz
      · obtain rfl := List.mem_singleton.1 hz; exact hy
    · rcases List.mem_append.1 hz with hz | hz
      · exact h.may z hz
      · obtain rfl := List.mem_singleton.1 hz; exact h1
    · rw [List.pairwise_append]
      refine ⟨h.nd, List.pairwise_singleton _ _, fun z hz x hx => ?_⟩
      obtain rfl := List.mem_singleton.1 hx
      rw [sameK_symm]; exact hasK_not h2 z hz
  · exact h
theorem Inv.drop {st : List Wy} (h : Inv st) (y : Wy) : Inv (dropS st y) :=
  ⟨fun z hz => h.ok z (List.mem_filter.1 hz).1, fun z hz => h.may z (List.mem_filter.1 hz).1, h.nd.filter _, Nat.le_trans (List.length_filter_le _ _) h.le⟩
/-- what is added and dropped turns nothing -/
theorem add_drop {st : List Wy} {y : Wy} (h0 : addE st y = 0) : dropE (addS st y) y = 0 ∧ dropS (addS st y) y = st := by
  obtain ⟨-, h2, -⟩ := addE_zero h0
  have e : addS st y = st ++ [y] := by unfold addS; rw [if_pos h0]
  rw [e]
  constructor
  · unfold dropE hasK
    rw [List.any_append]
    simp [sameK_self]
  · unfold dropS
    rw [List.filter_append]
    simp only [List.filter_cons, sameK_self, Bool.not_true, Bool.false_eq_true, if_false, List.filter_nil, List.append_nil]
    exact List.filter_eq_self.2 fun z hz => by rw [hasK_not h2 z hz]; rfl
theorem add_not {st : List Wy} {y : Wy} (h0 : addE st y ≠ 0) : addS st y = st := by unfold addS; rw [if_neg h0]
/-! ### the ways that were added, one after another -/
def stOf (l : List Wy) : List Wy := l.foldl addS []
theorem stOf_snoc (l : List Wy) (y : Wy) : stOf (l ++ [y]) = addS (stOf l) y := by unfold stOf; rw [List.foldl_append]; rfl
theorem fold_inv : ∀ (l st : List Wy), Inv st → (∀ y ∈ l, y.Ok) → Inv (l.foldl addS st)
  | [], st, h, _ => h
  | y :: r, st, h, hl => fold_inv r (addS st y) (h.add (hl y (by simp))) fun z hz => hl z (by simp [hz])
theorem stOf_inv {l : List Wy} (hl : ∀ y ∈ l, y.Ok) : Inv (stOf l) := fold_inv l [] Inv.nil hl
theorem fold_filter : ∀ (l st : List Wy), (∀ y ∈ l, ∀ z ∈ st, sameK z y = false) → l.Pairwise (fun y z => sameK y z = false) → st.length + l.length ≤ 128 → l.foldl addS st = st ++ l.filter mayW
  | [], st, _, _, _ => by simp
  | y :: r, st, h, hp, hn => by
    rw [List.pairwise_cons] at hp
    rw [List.length_cons] at hn
    have hk : hasK st y = false := by
      unfold hasK
      rw [List.any_eq_false]
      intro z hz
      rw [sameK_symm, h y (by simp) z hz]; simp
    rw [List.foldl_cons]
    cases hm : mayW y
    · have e : addS st y = st := add_not (by unfold addE; rw [hm]; simp)
      rw [e, fold_filter r st (fun z hz => h z (by simp [hz])) hp.2 (by omega), List.filter_cons, hm]
      rfl
    · have e0 : addE st y = 0 := by
        unfold addE
        rw [hm, hk]
        simp
        omega
      have e : addS st y = st ++ [y] := by
        unfold addS
        rw [if_pos e0]
      rw [e, fold_filter r (st ++ [y]) (fun z hz x hx => by
        rcases List.mem_append.1 hx with hx | hx
        · exact h z (by simp [hz]) x hx
        · obtain rfl := List.mem_singleton.1 hx; exact hp.1 z hz) hp.2 (by simp; omega), List.filter_cons, hm, List.append_assoc]
      rfl
theorem stOf_filter {l : List Wy} (hp : l.Pairwise (fun y z => sameK y z = false)) (hn : l.length ≤ 128) : stOf l = l.filter mayW := by
  unfold stOf
  rw [fold_filter l [] (by simp) hp (by simpa using hn), List.nil_append]
/-- the order does not matter -/
theorem stOf_reverse {l : List Wy} (hp : l.Pairwise (fun y z => sameK y z = false)) (hn : l.length ≤ 128) : (stOf l.reverse).Perm (stOf l) := by
  have hp2 : l.reverse.Pairwise (fun y z => sameK y z = false) := by
    rw [List.pairwise_reverse]
    exact hp.imp fun h => by rw [sameK_symm]; exact h
  rw [stOf_filter hp hn, stOf_filter hp2 (by simpa using hn)]
  exact (List.reverse_perm l).filter _
/-! ### in order -/
theorem mem_same {st : List Wy} (h : st.Pairwise fun y z => sameK y z = false) : ∀ {y z : Wy}, y ∈ st → z ∈ st → sameK y z = true → y = z := by
  induction h with
  | nil => intro y z hy; cases hy
  | @cons x r hx _ ih =>
    intro y z hy hz hs
    rcases List.mem_cons.1 hy with e1 | h1
    · rcases List.mem_cons.1 hz with e2 | h2
      · rw [e1, e2]
      · rw [e1, hx z h2] at hs; cases hs
    · rcases List.mem_cons.1 hz with e2 | h2
      · rw [e2, sameK_symm, hx y h1] at hs; cases hs
      · exact ih h1 h2 hs
theorem mask_self {y : Wy} (hy : y.Ok) (h : mayW y = true) : ¬ y.len < 0 ∧ ¬ 8 * (adrN y.s : Int) < y.len ∧ mskL y.a y.len = y.a := by
  unfold mayW at h
  have h1 : maskO y.s y.a y.len = some (y.s, y.a) := by
    rw [Bool.and_eq_true] at h
    exact of_decide_eq_true h.1
  obtain ⟨h2, h3⟩ := maskO_of (s := y.s) (b := y.a) (len := y.len) (by rw [h1]; simp)
  rw [maskO_some h2 h3] at h1
  injection h1 with h1
  injection h1 with _ h1
  exact ⟨h2, h3, h1⟩
/-- a masked address is told by the bytes that it has -/
theorem mask_told {y z : Wy} (hy : y.Ok) (hz : z.Ok) (hmy : mayW y = true) (hmz : mayW z = true) (hs : y.s = z.s) (h : adrL y.s y.a = adrL z.s z.a) : y.a = z.a := by
  obtain ⟨a1, a2, a3⟩ := mask_self hy hmy
  obtain ⟨b1, b2, b3⟩ := mask_self hz hmz
  refine ext16 hy.la hz.la fun j hj => ?_
  by_cases hj2 : j < adrN y.s
  · have h1 := congrArg (fun l => l.getD j 0) h
    unfold adrL at h1
    rw [← hs] at h1
    simp only [List.getD_eq_getElem?_getD, List.getElem?_take, hj2, if_true] at h1
    rw [List.getD_eq_getElem?_getD, List.getD_eq_getElem?_getD]
    exact h1
  · have key : ∀ (u : Wy), u.Ok → u.s = y.s → ¬ 8 * (adrN u.s : Int) < u.len → mskL u.a u.len = u.a → u.a.getD j 0 = 0 := fun u hu hus hlt hm => by
      rw [← hm, mskL_at _ hu.la hj]
      have hk : kpN u.len j = 0 := by
        rw [hus] at hlt
        unfold kpN
        omega
      rw [hk]
      have hb : Byte (u.a.getD j 0) := hu.ya _ (by rw [List.getD_eq_getElem?_getD, List.getElem?_eq_getElem (by rw [hu.la]; exact hj)]; exact List.getElem_mem _)
      unfold Byte at hb
      unfold mk1
      have : ((2 ^ (8 - 0) : Nat) : Int) = 256 := rfl
      rw [this]
      omega
    rw [key y hy rfl a2 a3, key z hz hs.symm b2 b3]
theorem leW_both {y z : Wy} (hy : y.Ok) (hz : z.Ok) (hmy : mayW y = true) (hmz : mayW z = true) (h1 : leW y z) (h2 : leW z y) : sameK y z = true := by
  have ht := cmpW_turn y.s y.a z.s z.a
  unfold leW at h1 h2
  have hc : cmpV y.s y.a z.s z.a = 0 ∧ y.len = z.len := by omega
  obtain ⟨hc, hl⟩ := hc
  have hs : y.s = z.s := by
    cases q : (y.s == z.s)
    · exact absurd hc (cmpW_not q _ _)
    · simpa using q
  unfold cmpV at hc
  rw [if_pos hs] at hc
  exact sameK_iff.2 ⟨hs, mask_told hy hz hmy hmz hs (lexL_zero _ _ hc), hl⟩
theorem perm_sorted : ∀ {l m : List Wy}, l.Perm m → l.Pairwise leW → m.Pairwise leW → (∀ y ∈ l, ∀ z ∈ l, leW y z → leW z y → y = z) → l = m
  | [], m, hp, _, _, _ => (List.nil_perm.1 hp).symm
  | x :: r, m, hp, hl, hm, ha => by
    cases m with
    | nil => exact absurd hp.length_eq (by simp)
    | cons u s =>
      rw [List.pairwise_cons] at hl hm
      have e : x = u := by
        have hx : x ∈ u :: s := hp.mem_iff.1 (by simp)
        have hu : u ∈ x :: r := hp.mem_iff.2 (by simp)
        rcases List.mem_cons.1 hx with hx | hx
        · exact hx
        · rcases List.mem_cons.1 hu with hu | hu
          · exact hu.symm
          · exact ha x (by simp) u (by simp [hu]) (hl.1 u hu) (hm.1 x hx)
      subst e
      rw [perm_sorted (List.Perm.cons_inv hp) hl.2 hm.2 fun y hy z hz => ha y (by simp [hy]) z (by simp [hz])]
/-- two rows of the same ways, both in order, are one -/
theorem all_one {st l m : List Wy} (h : Inv st) (hl : l.Perm st) (hm : m.Perm st) (sl : l.Pairwise leW) (sm : m.Pairwise leW) : l = m :=
  perm_sorted (hl.trans hm.symm) sl sm fun y hy z hz h1 h2 => by
    have hy2 := hl.mem_iff.1 hy
    have hz2 := hl.mem_iff.1 hz
    exact mem_same h.nd hy2 hz2 (leW_both (h.ok y hy2) (h.ok z hz2) (h.may y hy2) (h.may z hz2) h1 h2)
end Go.Proofs.Ytjdenhkicikfkaa.rtC

/-
  Lies, by the document: bit by bit.
-/
namespace Go.Proofs.Ytjdenhkicikfkaa.rtC
open Go.ChangeShapes Go.WideShapes Go.ChangeAt Go.RowKit
open Go.Proofs.Ytjdenhkicikfkaa.memC Go.Proofs.Ytjdenhkicikfkaa.genC Go.Proofs.Ytjdenhkicikfkaa.butC Go.Proofs.Ytjdenhkicikfkaa.freeC Go.Proofs.Ytjdenhkicikfkaa.adC
set_option linter.unusedVariables false
/-- a bit of an address -/
def bitL (b : List Int) (i : Nat) : Int := b.getD (i / 8) 0 / (2 ^ (7 - i % 8) : Nat) % 2
theorem bit_all : ∀ k : Nat, k < 8 → ∀ n : Nat, n < 256 → mk1 (n : Int) (k + 1) = mk1 (n : Int) k + ((n : Int) / (2 ^ (7 - k) : Nat) % 2) * (2 ^ (7 - k) : Nat) := by decide +kernel
theorem mk1_next {x : Int} (h : Byte x) {k : Nat} (hk : k < 8) : mk1 x (k + 1) = mk1 x k + (x / (2 ^ (7 - k) : Nat) % 2) * (2 ^ (7 - k) : Nat) := by
  obtain ⟨n, rfl⟩ : ∃ n : Nat, x = n := ⟨x.toNat, by unfold Byte at h; omega⟩
  exact bit_all k hk n (by unfold Byte at h; omega)
theorem mk1_zero {x : Int} (h : Byte x) : mk1 x 0 = 0 := by
  unfold Byte at h
  unfold mk1
  have : ((2 ^ (8 - 0) : Nat) : Int) = 256 := rfl
  rw [this]
  omega
/-- the first bits are the same -/
theorem mk1_bits {x y : Int} (hx : Byte x) (hy : Byte y) : ∀ k : Nat, k ≤ 8 → (mk1 x k = mk1 y k ↔ ∀ j, j < k → x / (2 ^ (7 - j) : Nat) % 2 = y / (2 ^ (7 - j) : Nat) % 2)
  | 0, _ => by rw [mk1_zero hx, mk1_zero hy]; simp
  | k + 1, hk => by
    have ih := mk1_bits hx hy k (by omega)
    have hpos : (0 : Int) < ((2 ^ (7 - k) : Nat) : Int) := by
      have : 0 < 2 ^ (7 - k) := Nat.two_pow_pos _
      omega
    constructor
    · intro h j hj
      have h1 : mk1 x k = mk1 y k := by
        have e1 := mk1_less hx (k := k) (k' := k + 1) hk (by omega)
        have e2 := mk1_less hy (k := k) (k' := k + 1) hk (by omega)
        rw [← e1, ← e2, h]
      rcases Nat.lt_or_ge j k with q | q
      · exact ih.1 h1 j q
      · obtain rfl : j = k := by omega
        rw [mk1_next hx (by omega), mk1_next hy (by omega), h1] at h
        exact Int.eq_of_mul_eq_mul_right (Int.ne_of_gt hpos) (by omega)
    · intro h
      rw [mk1_next hx (by omega), mk1_next hy (by omega), ih.2 fun j hj => h j (by omega), h k (by omega)]
/-- two addresses whose first bits are the same -/
theorem msk_bits {a b : List Int} (ha : a.length = 16) (hb : b.length = 16) (ya : ∀ x ∈ a, Byte x) (yb : ∀ x ∈ b, Byte x) {n : Nat} (hn : n ≤ 128) : mskL a n = mskL b n ↔ ∀ i, i < n → bitL a i = bitL b i := by
  have ga : ∀ j, j < 16 → Byte (a.getD j 0) := fun j hj => ya _ (by rw [List.getD_eq_getElem?_getD, List.getElem?_eq_getElem (by omega)]; exact List.getElem_mem _)
  have gb : ∀ j, j < 16 → Byte (b.getD j 0) := fun j hj => yb _ (by rw [List.getD_eq_getElem?_getD, List.getElem?_eq_getElem (by omega)]; exact List.getElem_mem _)
  constructor
  · intro h i hi
    have hj : i / 8 < 16 := by omega
    have h1 := congrArg (fun l => l.getD (i / 8) 0) h
    simp only [mskL_at _ ha hj, mskL_at _ hb hj] at h1
    have hk : i % 8 < kpN n (i / 8) := by unfold kpN; omega
    exact (mk1_bits (ga _ hj) (gb _ hj) _ (by unfold kpN; omega)).1 h1 (i % 8) hk
  · intro h
    refine ext16 (mskL_len _ ha) (mskL_len _ hb) fun j hj => ?_
    rw [mskL_at _ ha hj, mskL_at _ hb hj]
    refine (mk1_bits (ga _ hj) (gb _ hj) _ (by unfold kpN; omega)).2 fun r hr => ?_
    have hr2 : r < 8 ∧ 8 * j + r < n := by unfold kpN at hr; omega
    have := h (8 * j + r) hr2.2
    unfold bitL at this
    rw [show (8 * j + r) / 8 = j by omega, show (8 * j + r) % 8 = r by omega] at this
    exact this
/-- whether an address lies in a prefix, by its bits -/
theorem lies_bits {s s' : Bool} {a b : List Int} {len : Int} (ha : a.length = 16) (hb : b.length = 16) (ya : ∀ x ∈ a, Byte x) (yb : ∀ x ∈ b, Byte x) :
    liesL s a s' b len = true ↔ s = s' ∧ ¬ len < 0 ∧ ¬ 8 * (adrN s : Int) < len ∧ ∀ i : Nat, (i : Int) < len → bitL a i = bitL b i := by
  unfold liesL maskO outO
  have hN := adrN_le s
  by_cases h : len < 0 ∨ 8 * (adrN s : Int) < len
  · rw [if_pos h]
    constructor
    · intro h2; simp at h2
    · rintro ⟨-, h1, h2, -⟩; omega
  · rw [if_neg h]
    obtain ⟨n, rfl⟩ : ∃ n : Nat, len = n := ⟨len.toNat, by omega⟩
    have hn : n ≤ 128 := by omega
    have key := msk_bits ha hb ya yb hn
    by_cases hs : s = s'
    · subst hs
      rw [if_neg h]
      simp only [Option.isSome_some, Bool.true_and, decide_eq_true_eq, true_and]
      rw [key]
      exact ⟨fun hq => ⟨by omega, by omega, fun i hi => hq i (by omega)⟩, fun hq i hi => hq.2.2 i (by omega)⟩
    · constructor
      · intro h2
        exfalso
        simp only [Option.isSome_some, Bool.true_and, decide_eq_true_eq] at h2
        have h3 := h2.1
        clear h2 key
        have n4 : adrN false = 4 := rfl
        have n16 : adrN true = 16 := rfl
        cases s <;> cases s'
        · exact hs rfl
        · rw [if_neg (by rw [n4] at h; rw [n16]; omega)] at h3
          cases h3
        · by_cases h9 : ((n : Nat) : Int) < 0 ∨ 8 * (adrN false : Int) < ((n : Nat) : Int)
          · rw [if_pos h9] at h3; cases h3
          · rw [if_neg h9] at h3; cases h3
        · exact hs rfl
      · rintro ⟨h1, -⟩; exact absurd h1 hs
theorem bits_one_all : ∀ n : Nat, n < 256 → bits .and .u8 (n : Int) 1 = (n : Int) % 2 := by decide +kernel
theorem bits_one {x : Int} (h : Byte x) (k : Nat) : bits .and .u8 (x / 2 ^ k) 1 = x / (2 ^ k : Nat) % 2 := by
  obtain ⟨n, rfl⟩ : ∃ n : Nat, x = n := ⟨x.toNat, by unfold Byte at h; omega⟩
  have e : (n : Int) / 2 ^ k = ((n / 2 ^ k : Nat) : Int) := by simp
  have e2 : ((n : Nat) : Int) / ((2 ^ k : Nat) : Int) = ((n / 2 ^ k : Nat) : Int) := by simp
  rw [e, e2]
  have hn : n < 256 := by unfold Byte at h; omega
  exact bits_one_all _ (Nat.lt_of_le_of_lt (Nat.div_le_self _ _) hn)
set_option maxRecDepth 100000 in
theorem bit_any (s : Bool) (b : List Int) (i : Nat) (w : World) (hl : b.length = 16) (hy : ∀ x ∈ b, Byte x) (hi : i < 128) : Calls Try.prog 25 #[.agg (adrV s b), .int .i64 i] w (Ret w (.int .u8 (bitL b i))) := by
  obtain ⟨q, hq⟩ : ∃ q, q = i / 8 := ⟨_, rfl⟩
  obtain ⟨r, hr⟩ : ∃ r, r = i % 8 := ⟨_, rfl⟩
  have hq16 : q < 16 := by omega
  have kx : (w.alloc (.cells (adrV s b) 25)).cell? ⟨w.heap.size, 1 + q, none⟩ = some (.int .u8 (b.getD q 0)) := by rw [cell_new]; exact adrV_at (by omega)
  have hx : Byte (b.getD q 0) := hy _ (by rw [List.getD_eq_getElem?_getD, List.getElem?_eq_getElem (by omega)]; exact List.getElem_mem _)
  have HV := Lib.hid (show bitL b i = b.getD q 0 / (2 ^ (7 - r) : Nat) % 2 by rw [hq, hr]; rfl)
  have e1 : ((i : Nat) : Int).tdiv 8 = (q : Int) := by rw [Int.tdiv_eq_ediv_of_nonneg (by omega)]; omega
  have e2 : ((i : Nat) : Int).tmod 8 = (r : Int) := by rw [Int.tmod_eq_emod_of_nonneg (by omega)]; omega
  obtain ⟨k, hk⟩ : ∃ k, k = 7 - r := ⟨_, rfl⟩
  have e3 : (7 : Int) - (r : Int) = (k : Int) := by omega
  rw [← hk] at HV
  have e4 : IntKind.i64.wrap (q : Int) = (q : Int) := IntWalk.i64_in _ (by omega)
  have e5 : IntKind.i64.wrap (r : Int) = (r : Int) := IntWalk.i64_in _ (by omega)
  have e6 : IntKind.i64.wrap (k : Int) = (k : Int) := IntWalk.i64_in _ (by omega)
  have qz : (q : Int) < 16 := by omega
  have HX := Lib.hid hx
  generalize b.getD q 0 = x at *
  have B := Lib.hid (alloc_below w (.cells (adrV s b) 25))
  clear hq hr hk hi hl hy hx
  obtain ⟨W, hW⟩ : ∃ W, W = w.alloc (.cells (adrV s b) 25) := ⟨_, rfl⟩
  rw [← hW] at kx B
  generalize adrV s b = C at *
  generalize bitL b i = V at *
  go_enter Try.func25, Try.ntmps25
  go_upto_region 1 with fail
  rw [← hW]
  clear hW
  go_wp2_with fail
  go_ret
  exact ⟨by rw [HV.out, bits_one HX.out]; rfl, B.out⟩
def rlV (g0 g1 kx : Nat) (CA CB : Array Value) (X Y : Int) (qq : Bool) : Nat → Value → World → Prop
  | 0, v, _ => v = .agg CA
  | 1, v, _ => v = .int .i64 kx
  | 2, v, _ => v = .int .u8 X
  | 3, v, _ => v = .agg CB
  | 4, v, _ => v = .int .i64 kx
  | 5, v, _ => v = .int .u8 Y
  | 6, v, _ => v = .bool qq
  | _, _, _ => True
theorem rlV.keep (g0 g1 kx : Nat) (CA CB : Array Value) (X Y : Int) (qq : Bool) (i : Nat) (v : Value) (w w' : World) (hb : Below w.heap.size w w') (h : rlV g0 g1 kx CA CB X Y qq i v w) : rlV g0 g1 kx CA CB X Y qq i v w' := by
  unfold rlV at h ⊢
  split at h <;> exact h
def rlT : List (Option Nat) := [none, none, none, none, none, none, none, none, none, none, none, none, none, none, none, none, none, none, none, none, none, none, none, none, none, none, none, none, none, some 0, some 1, some 2, some 3, some 4, some 5, some 6]
set_option maxRecDepth 100000 in
set_option maxHeartbeats 4000000 in
theorem rlies_any (s s' : Bool) (a b : List Int) (len : Int) (w : World) (ha : a.length = 16) (hb : b.length = 16) (ya : ∀ x ∈ a, Byte x) (yb : ∀ x ∈ b, Byte x) :
    Calls Try.prog 13 #[.agg (adrV s a), .agg (adrV s' b), .int .i64 len] w (Ret w (.bool (liesL s a s' b len))) := by
  have e1 : (w.alloc (.cells (adrV s a) 25)).heap.size = w.heap.size + 1 := alloc_size _ _
  obtain ⟨W, hW⟩ : ∃ W, W = (w.alloc (.cells (adrV s a) 25)).alloc (.cells (adrV s' b) 25) := ⟨_, rfl⟩
  have R0 := Lib.hid (show W.heap[w.heap.size]? = some (.cells (adrV s a) 25 (0, 0)) by rw [hW, Below.block (alloc_below _ _) _ (by rw [e1]; omega)]; exact heap_alloc_new _ _)
  have R1 := Lib.hid (show W.heap[w.heap.size + 1]? = some (.cells (adrV s' b) 25 (0, 0)) by rw [hW, ← e1]; exact heap_alloc_new _ _)
  have HB := Lib.hid (show Below w.heap.size w W by rw [hW]; exact (alloc_below w _).trans ((alloc_below _ _).mono (by rw [e1]; omega)))
  have IA := Lib.hid (show (Try.prog.info? 25).map (·.size) = some (adrV s a).size by rw [adrV_size ha]; exact addr_info)
  have IB := Lib.hid (show (Try.prog.info? 25).map (·.size) = some (adrV s' b).size by rw [adrV_size hb]; exact addr_info)
  have k0 : W.cell? ⟨w.heap.size, 0, none⟩ = some (.bool s) := by rw [cell_of_row W _ 0 _ _ (0, 0) R0.out]; exact adrV_six _ _
  have k1 : W.cell? ⟨w.heap.size + 1, 0, none⟩ = some (.bool s') := by rw [cell_of_row W _ 0 _ _ (0, 0) R1.out]; exact adrV_six _ _
  have SZ := Lib.hid (fun w' => size_any s a w' ha)
  have BA := Lib.hid (fun w' (i : Nat) (hi : i < 128) => bit_any s a i w' ha ya hi)
  have BB := Lib.hid (fun w' (i : Nat) (hi : i < 128) => bit_any s' b i w' hb yb hi)
  have LB := Lib.hid (lies_bits (s := s) (s' := s') (len := len) ha hb ya yb)
  have hN := adrN_le s
  have w8 : IntKind.i64.wrap (8 * (adrN s : Int)) = 8 * (adrN s : Int) := IntWalk.i64_in _ (by omega)
  have HN := Lib.hid hN
  generalize adrV s a = CA at *
  generalize adrV s' b = CB at *
  generalize liesL s a s' b len = V at *
  generalize adrN s = N at *
  clear ha hb ya yb hN
  by_cases hs : s = s'
  rotate_left
  · have hv := Lib.hid (show V = false from Bool.eq_false_iff.2 fun h => hs (LB.out.1 h).1)
    have q1 : (s == s') = false := by simpa using hs
    have q2 : (s != s') = true := by simpa using hs
    clear hs w8
    go_enter Try.func13, Try.ntmps13
    go_upto_region 1 with fail
    rw [← hW]
    clear hW e1
    go_wp2_with go_skip
    go_ret
    exact ⟨ret_bool hv.out.symm, HB.out⟩
  subst hs
  by_cases h0 : len < 0
  · have hv := Lib.hid (show V = false from Bool.eq_false_iff.2 fun h => (LB.out.1 h).2.1 h0)
    clear w8
    go_enter Try.func13, Try.ntmps13
    go_upto_region 1 with fail
    rw [← hW]
    clear hW e1
    go_wp2_with go_skip
    go_ret
    exact ⟨ret_bool hv.out.symm, HB.out⟩
  by_cases h8 : 8 * (N : Int) < len
  · have hv := Lib.hid (show V = false from Bool.eq_false_iff.2 fun h => (LB.out.1 h).2.2.1 h8)
    go_enter Try.func13, Try.ntmps13
    go_upto_region 1 with fail
    rw [← hW]
    clear hW e1
    go_wp2_with (first
      | go_skip
      | (refine wpList_load_rowG (by rfl) 25 (.tmp 3) rfl w.heap.size rfl _ _ _ _ R0.out Try.underlying25 rfl IA.out ?_)
      | (go_at_call 24; (refine (SZ.out _).mono ?_); rintro e w2 ⟨rfl, B2⟩
         have HB2 := Lib.hid (HB.out.trans (B2.mono HB.out.size))
         clear B2))
    go_ret
    exact ⟨ret_bool hv.out.symm, HB2.out⟩
  obtain ⟨n, rfl⟩ : ∃ n : Nat, len = n := ⟨len.toNat, by omega⟩
  have hn : n ≤ 128 := by have := HN.out; omega
  have HNN := Lib.hid hn
  clear h0 hn
  go_enter Try.func13, Try.ntmps13
  go_upto_region 1 with fail
  rw [← hW]
  clear hW e1
  go_upto_region 4 with (first
    | go_skip
    | (refine wpList_load_rowG (by rfl) 25 (.tmp 3) rfl w.heap.size rfl _ _ _ _ R0.out Try.underlying25 rfl IA.out ?_)
    | (go_at_call 24; (refine (SZ.out _).mono ?_); rintro e w2 ⟨rfl, B2⟩
       have HB2 := Lib.hid (HB.out.trans (B2.mono HB.out.size))
       have R02 := Lib.hid (show w2.heap[w.heap.size]? = some (.cells CA 25 (0, 0)) from (B2.block _ (lt_of_row R0.out)).trans R0.out)
       have R12 := Lib.hid (show w2.heap[w.heap.size + 1]? = some (.cells CB 25 (0, 0)) from (B2.block _ (lt_of_row R1.out)).trans R1.out)
       clear B2))
  have H8 := Lib.hid h8
  clear h8 w8 k0 k1
  go_loopw [7] (fun u wr => ∃ i : Nat, u = .int .i64 i ∧ i ≤ n ∧ (∀ j, j < i → bitL a j = bitL b j) ∧ Below w2.heap.size w2 wr) (fun u _ => n - (intOf u).toNat)
  case atStart => exact ⟨0, rfl, Nat.zero_le _, fun j h => by omega, Below.refl _ _⟩
  case round =>
    obtain ⟨i, rfl, hi, hz, hbw⟩ := hrel
    have HZ := Lib.hid hz
    have HBQ := Lib.hid hbw
    have HBW := Lib.hid (show Below w.heap.size w wr from HB2.out.trans (hbw.mono HB2.out.size))
    by_cases hlt : i < n
    rotate_left
    · have q6 : ¬ (i : Int) < (n : Int) := by omega
      have hv := Lib.hid (show V = true from LB.out.2 ⟨by simp, by omega, H8.out, fun j hj => hz j (by omega)⟩)
      clear hlt hi hz hbw
      go_wp2_with fail
      go_ret
      exact ⟨ret_bool hv.out.symm, HBW.out⟩
    have q6 : (i : Int) < (n : Int) := by omega
    have RA := Lib.hid (show wr.heap[w.heap.size]? = some (.cells CA 25 (0, 0)) from (hbw.block _ (lt_of_row R02.out)).trans R02.out)
    have RB := Lib.hid (show wr.heap[w.heap.size + 1]? = some (.cells CB 25 (0, 0)) from (hbw.block _ (lt_of_row R12.out)).trans R12.out)
    obtain ⟨X, hX⟩ : ∃ X, X = bitL a i := ⟨_, rfl⟩
    obtain ⟨Y, hY⟩ : ∃ Y, Y = bitL b i := ⟨_, rfl⟩
    have BX := Lib.hid (fun w' => BA.out w' i (by have := HNN.out; omega))
    have BY := Lib.hid (fun w' => BB.out w' i (by have := HNN.out; omega))
    rw [← hX] at BX
    rw [← hY] at BY
    have HX := Lib.hid hX
    have HY := Lib.hid hY
    obtain ⟨qq, hqq⟩ : ∃ q, (X != Y) = q := ⟨_, rfl⟩
    have EQ := Lib.hid hqq
    have HI := Lib.hid hlt
    have wi : IntKind.i64.wrap ((i : Int) + 1) = (i : Int) + 1 := IntWalk.i64_in _ (by have := HNN.out; omega)
    obtain ⟨g0, hg0⟩ : ∃ g, g = w.heap.size := ⟨_, rfl⟩
    obtain ⟨g1, hg1⟩ : ∃ g, g = w.heap.size + 1 := ⟨_, rfl⟩
    rw [← hg1] at RB
    rw [← hg0] at RA
    clear hlt hi hz hbw hX hY hqq
    go_upto_region 6 with fail
    try rw [← hg1, ← hg0]
    refine with_act fun a0 ha0 => ?_
    have hl : rlT.length = a0.tmps.size := by rw [ha0]; rfl
    have k3 : a0.tmps[3]?.getD undef = .pointer (some ⟨g0, 0, none⟩) := by rw [ha0]; rfl
    have k4 : a0.tmps[4]?.getD undef = .pointer (some ⟨g1, 0, none⟩) := by rw [ha0]; rfl
    have k7 : a0.tmps[7]?.getD undef = .int .i64 i := by rw [ha0]; rfl
    refine wp_region_vals (by kernel_rfl) rlT (by kernel_rfl) (by kernel_rfl) hl (fun i => a0.tmps[i + 29]?.getD undef) (by rw [ha0]; rfl) (Gr wr) (rlV g0 g1 i CA CB X Y qq) (show Gr _ _ from (Below.refl _ _).drew) (rlV.keep _ _ _ _ _ _ _ _) ⟨?_, ?_, ?_, ?_, ?_, ?_, ?_, trivial⟩ ?_
    · refine step_plain [] (by kernel_rfl) rfl fun us w' hG hV => ?_
      have o3 := (frame_old2 (us := us) (a := a0) (show (rlT[3]?).join = none from rfl)).trans k3
      have hg1 := hG.row RA.out
      generalize frame rlT a0 us = fr at *
      exact load_ok 25 3 rfl (g0) o3 _ _ (0, 0) _ hg1 Try.underlying25 rfl IA.out hG rfl
    · refine step_plain [] (by kernel_rfl) rfl fun us w' hG hV => ?_
      have o7 := (frame_old2 (us := us) (a := a0) (show (rlT[7]?).join = none from rfl)).trans k7
      generalize frame rlT a0 us = fr at *
      exact val_ok (v := .int .i64 i) (w' := w') (by go_simp) hG (Below.refl _ _) rfl
    · refine step_plain [0, 1] (by kernel_rfl) rfl fun us w' hG hV => ?_
      have e0 : us 0 = .agg CA := hV 0 (by simp)
      have v0 := (frame_at2 (us := us) hl (show (rlT[29]?).join = some 0 from rfl)).trans e0
      have e1 : us 1 = .int .i64 i := hV 1 (by simp)
      have v1 := (frame_at2 (us := us) hl (show (rlT[30]?).join = some 1 from rfl)).trans e1
      generalize frame rlT a0 us = fr at *
      exact call_ok (f := 25) (args := #[.agg CA, .int .i64 i]) (by go_simp) ((BX.out w').mono fun e w'' h => ⟨_, h.1, hG.below h.2, h.2, rfl⟩)
    · refine step_plain [] (by kernel_rfl) rfl fun us w' hG hV => ?_
      have o4 := (frame_old2 (us := us) (a := a0) (show (rlT[4]?).join = none from rfl)).trans k4
      have hg1 := hG.row RB.out
      generalize frame rlT a0 us = fr at *
      exact load_ok 25 4 rfl (g1) o4 _ _ (0, 0) _ hg1 Try.underlying25 rfl IB.out hG rfl
    · refine step_plain [] (by kernel_rfl) rfl fun us w' hG hV => ?_
      have o7 := (frame_old2 (us := us) (a := a0) (show (rlT[7]?).join = none from rfl)).trans k7
      generalize frame rlT a0 us = fr at *
      exact val_ok (v := .int .i64 i) (w' := w') (by go_simp) hG (Below.refl _ _) rfl
    · refine step_plain [3, 4] (by kernel_rfl) rfl fun us w' hG hV => ?_
      have e3 : us 3 = .agg CB := hV 3 (by simp)
      have v3 := (frame_at2 (us := us) hl (show (rlT[32]?).join = some 3 from rfl)).trans e3
      have e4 : us 4 = .int .i64 i := hV 4 (by simp)
      have v4 := (frame_at2 (us := us) hl (show (rlT[33]?).join = some 4 from rfl)).trans e4
      generalize frame rlT a0 us = fr at *
      exact call_ok (f := 25) (args := #[.agg CB, .int .i64 i]) (by go_simp) ((BY.out w').mono fun e w'' h => ⟨_, h.1, hG.below h.2, h.2, rfl⟩)
    · refine step_plain [2, 5] (by kernel_rfl) rfl fun us w' hG hV => ?_
      have e2 : us 2 = .int .u8 X := hV 2 (by simp)
      have v2 := (frame_at2 (us := us) hl (show (rlT[31]?).join = some 2 from rfl)).trans e2
      have e5 : us 5 = .int .u8 Y := hV 5 (by simp)
      have v5 := (frame_at2 (us := us) hl (show (rlT[34]?).join = some 5 from rfl)).trans e5
      have eq := EQ.out
      generalize frame rlT a0 us = fr at *
      exact val_ok (v := .bool qq) (w' := w') (by go_simp) hG (Below.refl _ _) rfl
    · intro us w5 hG hV
      have e9 : us 6 = .bool qq := hV 6 (by decide)
      subst ha0
      simp only [frame, rlT, fill]
      rw [e9]
      have HG := Lib.hid hG
      clear hV hl hG e9
      cases qq
      · have HQ := Lib.hid (EQ.out)
        go_wp2_with fail
        go_roundw
        case rel => exact ⟨i + 1, by go_num, by have := HI.out; omega, fun j hj => by
          rcases Nat.lt_or_ge j i with q | q
          · exact HZ.out j q
          · obtain rfl : j = i := by omega
            have := HQ.out
            rw [HX.out, HY.out] at this
            simpa using this, HBQ.out.trans (Below.mono HG.out HBQ.out.size)⟩
        case measure => have := HI.out; simp [intOf]; omega
      · have hv := Lib.hid (show V = false from Bool.eq_false_iff.2 fun h => by
          have h1 := (LB.out.1 h).2.2.2 i (by have := HI.out; omega)
          have := EQ.out
          rw [HX.out, HY.out, h1] at this
          simp at this)
        go_wp2_with fail
        go_ret
        exact ⟨ret_bool hv.out.symm, HBW.out.trans (Below.mono HG.out HBW.out.size)⟩
end Go.Proofs.Ytjdenhkicikfkaa.rtC

/-
  Which operation a walk stands at: told by its form alone, so that an arm that does not fit falls at once.
-/
namespace Go.Proofs.Ytjdenhkicikfkaa.atC
open Go.ChangeShapes Go.WideShapes Go.ChangeAt Go.RowKit
section
variable {P : Program} {ops : Array Oper} {rest : List Oper} {a : Act} {w : World} {Q : Exit → Act → World → Prop} {d : Option Tmp} {t : TypeId} {p : String} {f : Array Edge} {g : Option (Nat × Bool)}
theorem at_load (ty : TypeId) (s : Tmp) (h : wpList P ops Q (⟨d, .load ty (.tmp s), t, p, f, g⟩ :: rest) a w) : wpList P ops Q (⟨d, .load ty (.tmp s), t, p, f, g⟩ :: rest) a w := h
theorem at_bin {x y : Operand} {r : TypeId} (o : BinOp) (ty : TypeId) (h : wpList P ops Q (⟨d, .binOp o ty x y r, t, p, f, g⟩ :: rest) a w) : wpList P ops Q (⟨d, .binOp o ty x y r, t, p, f, g⟩ :: rest) a w := h
theorem at_one {o : Oper} (h : wpList P ops Q (o :: rest) a w) : wpList P ops Q (o :: rest) a w := h
end
end Go.Proofs.Ytjdenhkicikfkaa.atC

/-
  a[i] of an array by value, the array a letter.
-/
namespace Go.Proofs.Ytjdenhkicikfkaa.idxC
open Go.ChangeShapes Go.WideShapes Go.ChangeAt Go.RowKit
set_option linter.unusedVariables false
theorem run_idx {P : Program} (w : World) (t e : TypeId) (n : Nat) (K : IntKind) (i : TypeInfo) (cs : Array Value) (k : Nat) (v : Value) (ht : P.underlying t = some (.array n e)) (he : P.underlying e = some (.int K))
    (hi : P.info? e = some i) (hs : i.size = 1) (hk : k < n) (hv : cs[k]? = some v) : (Instr.index t (.agg cs) (.int .i64 (k : Int))).run P w = .ok v w := by
  have hn : 0 ≤ (k : Int) ∧ (k : Int) < (n : Int) := by omega
  have hagg : (isAgg e).run P w = .ok false w := by
    unfold isAgg
    rw [Sem.run_bind, run_underlying he w]
    rfl
  have hp : (part e cs k).run P w = .ok v w := by
    simp [part, Sem.run_bind, hagg, hv]
  simp [Instr.index, run_underlying ht, asIntOf, hn, sizeOf, typeInfo, hi, hs, hp, Sem.run_bind]
  omega
end Go.Proofs.Ytjdenhkicikfkaa.idxC

/-
  How an argument that is an address is opened.
-/
namespace Go.Proofs.Ytjdenhkicikfkaa.adC
open Go.ChangeShapes Go.WideShapes Go.ChangeAt Go.RowKit
open Go.Proofs.Ytjdenhkicikfkaa.memC Go.Proofs.Ytjdenhkicikfkaa.genC Go.Proofs.Ytjdenhkicikfkaa.butC Go.Proofs.Ytjdenhkicikfkaa.freeC
set_option linter.unusedVariables false
section
variable {P : Program} {w : World} {r : Reach} {b0 : Nat} {t : TypeId}
theorem cell_u8 {ti : TypeId} {v : Value} (hi : P.underlying ti = some (.int .u8)) (h : Cell.okWide P w r b0 ti v) : ∃ z, v = .int .u8 z ∧ Byte z := by
  unfold Cell.okWide at h
  rw [hi] at h
  unfold Cell.ok at h
  rw [hi] at h
  cases v <;> simp at h
  obtain ⟨rfl, h1, h2⟩ := h
  exact ⟨_, rfl, by simpa [IntKind.min, IntKind.max, IntKind.signed, IntKind.bits] using h1, by simpa [IntKind.min, IntKind.max, IntKind.signed, IntKind.bits] using h2⟩
theorem cell_bool {tb : TypeId} {v : Value} (hb : P.underlying tb = some .bool) (h : Cell.okWide P w r b0 tb v) : ∃ s, v = .bool s := by
  unfold Cell.okWide at h
  rw [hb] at h
  unfold Cell.ok at h
  rw [hb] at h
  cases v <;> simp at h
  exact ⟨_, rfl⟩
theorem open_addr {fs : Array Field} {tb ti : TypeId} {v : Value} (ht : P.underlying t = some (.struct fs)) (hc : P.cellsOf t = 17) (hts : P.cellTypes P.depth t = some (tb :: List.replicate 16 ti))
    (hb : P.underlying tb = some .bool) (hi : P.underlying ti = some (.int .u8)) (hval : Value.okWide P w r b0 t v) :
    ∃ (s : Bool) (bs : List Int), v = .agg (adrV s bs) ∧ bs.length = 16 ∧ ∀ x ∈ bs, Byte x := by
  obtain ⟨cs, rfl, hsz, ts, hts', _, hcell⟩ : ∃ cs, v = .agg cs ∧ cs.size = P.cellsOf t ∧ Row.okWide P w r b0 t cs := by
    simpa [Value.okWide, ht] using hval
  obtain ⟨l⟩ := cs
  rw [hc] at hsz
  have hl : l.length = 17 := by simpa using hsz
  rw [hts] at hts'
  obtain rfl := Option.some.inj hts'
  have key : ∀ i, i < 17 → ∃ v u, l[i]? = some v ∧ (tb :: List.replicate 16 ti)[i]? = some u ∧ Cell.okWide P w r b0 u v := fun i hi36 => by
    have e : l[i]? = some (l[i]'(by omega)) := List.getElem?_eq_getElem _
    obtain ⟨u, h1, h2⟩ := hcell i (l[i]'(by omega)) (by rw [← e]; simp)
    refine ⟨_, u, e, ?_, h2⟩
    have : i % 17 = i := Nat.mod_eq_of_lt hi36
    simpa [this] using h1
  obtain ⟨s, hs⟩ : ∃ s, l[0]? = some (.bool s) := by
    obtain ⟨v, u, h1, h2, h3⟩ := key 0 (by decide)
    obtain rfl : tb = u := by simpa using h2
    obtain ⟨s, rfl⟩ := cell_bool hb h3
    exact ⟨s, h1⟩
  have kb : ∀ i, i < 16 → ∃ z, l[1 + i]? = some (.int .u8 z) ∧ Byte z := fun i hi' => by
    obtain ⟨v, u, h1, h2, h3⟩ := key (1 + i) (by omega)
    have : u = ti := by
      rw [Nat.add_comm, List.getElem?_cons_succ, List.getElem?_replicate, if_pos hi'] at h2
      exact (Option.some.inj h2).symm
    subst this
    obtain ⟨z, rfl, hz⟩ := cell_u8 hi h3
    exact ⟨z, h1, hz⟩
  match l, hl, hs, kb with
  | v0 :: rest, hl, hs, kb =>
    have e0 : v0 = .bool s := by simpa using hs
    subst e0
    have hr : rest.length = 16 := by simpa using hl
    refine ⟨s, rest.map fun v => match v with | .int _ z => z | _ => 0, ?_, by rw [List.length_map, hr], fun x hx => ?_⟩
    · unfold adrV
      congr 2
      rw [List.map_map]
      apply congrArg (Value.bool s :: ·)
      apply List.ext_getElem?
      intro i
      by_cases hi : i < 16
      · obtain ⟨z, hz, _⟩ := kb i hi
        rw [Nat.add_comm, List.getElem?_cons_succ] at hz
        rw [List.getElem?_map, hz]; rfl
      · rw [List.getElem?_eq_none (by omega), List.getElem?_eq_none (by rw [List.length_map]; omega)]
    · obtain ⟨v, hv, rfl⟩ := List.mem_map.1 hx
      obtain ⟨i, hi, rfl⟩ := List.getElem_of_mem hv
      obtain ⟨z, hz, hw⟩ := kb i (by omega)
      rw [Nat.add_comm, List.getElem?_cons_succ, List.getElem?_eq_getElem hi] at hz
      rw [Option.some.inj hz]; exact hw
end
end Go.Proofs.Ytjdenhkicikfkaa.adC

/-
  Packets as values: their cells, and how one that came in is opened.
-/
namespace Go.Proofs.Ytjdenhkicikfkaa.pkC
open Go.ChangeShapes Go.WideShapes Go.ChangeAt Go.RowKit
open Go.Proofs.Ytjdenhkicikfkaa.memC Go.Proofs.Ytjdenhkicikfkaa.genC Go.Proofs.Ytjdenhkicikfkaa.butC Go.Proofs.Ytjdenhkicikfkaa.freeC Go.Proofs.Ytjdenhkicikfkaa.adC
set_option linter.unusedVariables false
/-- a packet, but for its load -/
structure Pkt where
  s : Bool
  a : List Int
  t : Bool
  b : List Int
  proto : Int
  hops : Int
  id : Int
  whole : Bool
  more : Bool
  off : Int
def adrC (s : Bool) (b : List Int) : List Value := .bool s :: b.map (Value.int .u8)
/-- what is known of a packet's cells -/
structure PkC (C : Array Value) (p : Pkt) (A : Option Addr) (n c : Nat) : Prop where
  size : C.size = 41
  src : ∀ j v, (adrC p.s p.a)[j]? = some v → C[0 + j]? = some v
  dst : ∀ j v, (adrC p.t p.b)[j]? = some v → C[17 + j]? = some v
  proto : C[34]? = some (.int .u8 p.proto)
  hops : C[35]? = some (.int .u8 p.hops)
  id : C[36]? = some (.int .u32 p.id)
  whole : C[37]? = some (.bool p.whole)
  more : C[38]? = some (.bool p.more)
  off : C[39]? = some (.int .i64 p.off)
  load : C[40]? = some (.slice A n c)
theorem wpList_load_partG {P : Program} {ops : Array Oper} {rest : List Oper} {o : Oper} {a : Act} {w : World} {Q : Exit → Act → World → Prop} (hw : Region.wanted o (yielded ops a.tmps) = true) (ty : TypeId) (x : Operand) (ho : o.op = .load ty x)
    (g q : Nat) (hx : a.eval x = .pointer (some ⟨g, q, none⟩)) (l : List Value) (d : TypeDesc) (hc : ∀ j v, l[j]? = some v → w.cell? ⟨g, q + j, none⟩ = some v)
    (hu : P.underlying ty = some d) (hd : (match d with | .struct _ | .array _ _ => true | _ => false) = true) (hi : (P.info? ty).map (·.size) = some l.length)
    (h : wpList P ops Q rest (a.put o.dst (.agg l.toArray)) w) : wpList P ops Q (o :: rest) a w := by
  refine wpList_step fun K hK => ?_
  rw [if_pos hw]
  unfold Oper.wp execOp
  simp only [ho, hx, Instr.loadAt, Instr.sureAddr, Sem.run_bind, Sem.run_pure, Result.andThen_ok, partC.run_load_part w g q ty l d hc hu hd hi]
  exact hK _ _ h
/-- a block's cells, read -/
theorem PkC.cell {C : Array Value} {w : World} {g : Nat} {T : TypeId} (R : w.heap[g]? = some (.cells C T (0, 0))) {k : Nat} {v : Value} (h : C[k]? = some v) : w.cell? ⟨g, k, none⟩ = some v := by
  rw [cell_of_row w g k C T (0, 0) R]; exact h
theorem PkC.part {C : Array Value} {w : World} {g : Nat} {T : TypeId} (R : w.heap[g]? = some (.cells C T (0, 0))) {l : List Value} {q : Nat} (h : ∀ j v, l[j]? = some v → C[q + j]? = some v) : ∀ j v, l[j]? = some v → w.cell? ⟨g, q + j, none⟩ = some v :=
  fun j v hv => PkC.cell R (h j v hv)
section
variable {P : Program} {w : World} {r : Reach} {b0 : Nat} {t : TypeId}
end
end Go.Proofs.Ytjdenhkicikfkaa.pkC
