/-
  5 texts of a proof, joined.
-/
import Derived.Test.YtcnnpfjommiafaaMg27
import Derived.Test.YtcnnpfjommiafaaMg23

/-
  A table in memory while one of its packets grows.
-/
namespace Go.Proofs.Ytcnnpfjommiafaa.fgC
open Go.ChangeShapes Go.WideShapes Go.ChangeAt Go.RowKit
open Go.Proofs.Ytcnnpfjommiafaa.memC Go.Proofs.Ytcnnpfjommiafaa.genC Go.Proofs.Ytcnnpfjommiafaa.butC Go.Proofs.Ytcnnpfjommiafaa.freeC Go.Proofs.Ytcnnpfjommiafaa.adC
open Go.Proofs.Ytcnnpfjommiafaa.pkC (Pkt pktL pktV pktT adrC)
open Go.Proofs.Ytcnnpfjommiafaa.partsC (Part nsum catL)
set_option linter.unusedVariables false
theorem map_set_same {α β : Type} (f : α → β) {l : List α} {i : Nat} {x x' : α} (hi : l[i]? = some x) (hf : f x' = f x) : (l.set i x').map f = l.map f := by
  refine List.ext_getElem? fun j => ?_
  rw [List.getElem?_map, List.getElem?_map, List.getElem?_set]
  by_cases e : i = j
  · subst e
    have := (List.getElem?_eq_some_iff.1 hi).1
    rw [if_pos rfl, if_pos this, hi]
    simp [hf]
  · rw [if_neg e]
theorem own_len {w : World} {A : Option Addr} {n c : Nat} {xs : List Int} {B : Nat} (h : memC.Own .u8 5 w B (.slice A n c) xs) : xs.length = n := by
  obtain ⟨A', c', e, -⟩ := h.form
  injection e with _ e _
  exact e.symm
section
variable {w w' : World} {S : Nat → Prop} {t m i N : Nat} {room now : Int} {ov : Value} {ps : List Pp} {x x' : Pp} {g' c' : Nat}
theorem notB {k : Nat} {T : TypeId} {cs : Array Value} {fr : Nat × Nat} (hx : PpAt w S x) (hr : w.heap[k]? = some (.cells cs T fr)) (h1 : T ≠ 79) (h2 : T ≠ 28) : ¬ S1 x.q x.v k := by
  rintro (e | e)
  · have := hx.hdr
    rw [← e, hr] at this
    injection this with this
    injection this with _ this _
    exact h1 this
  · obtain ⟨cur, hc⟩ := hx.gtype e
    rw [hr] at hc
    injection hc with hc
    injection hc with _ hc _
    exact h2 hc
theorem own_type {v : Value} {T c k : Nat} {l : List Value} {B : Nat} (h : w.ownsRow B T c v k l) {g : Nat} (hg : v.ownBlock = some g) : ∃ cur, w.heap[g]? = some (.cells cur T (0, 0)) := by
  rcases h.2 with ⟨e1, -⟩ | ⟨g2, cap, cur, e1, -, hh, -⟩
  · rw [e1] at hg; cases hg
  · rw [e1] at hg
    cases hg
    exact ⟨cur, hh⟩
theorem TC.grown (h : TC w S t room now m ov ps) (hi : ps[i]? = some x) (hq : x'.q = x.q) (hnm : x'.nm = x.nm) (F : Fs (S1 x.q x.v) w w') (hrow : w'.heap[x.q]? = some (.cells #[.int .i64 x'.began, x'.v] 79 (0, 0)))
    (hv : x'.v = .slice (some ⟨g', 0, none⟩) N c') (hg : x.v.ownBlock = some g' ∨ w.heap.size ≤ g') (hgl : g' < w'.heap.size) (hown : OwnK w' 0 x'.v x'.es) (hlds : ∀ e ∈ x'.es, e ∈ x.es ∨ (memC.Own .u8 5 w' w.heap.size (.slice e.A e.n e.c) e.x ∧ e.Ok)) :
    TC w' (fun k => S k ∨ (w.heap.size ≤ k ∧ k < w'.heap.size)) t room now m ov (ps.set i x') := by
  have hxm := List.mem_of_getElem? hi
  have hx := h.parts x hxm
  have hil := (List.getElem?_eq_some_iff.1 hi).1
  have hxi : ps[i] = x := (List.getElem?_eq_some_iff.1 hi).2
  have hlt : ∀ k, S k → k < w.heap.size := h.lt
  have hB : ∀ {k : Nat}, k < w.heap.size → ¬ S1 x.q x.v k → w'.heap[k]? = w.heap[k]? := fun hk hn => F.block _ hk hn
  have hmB : ¬ S1 x.q x.v m := by
    obtain ⟨es, cl, hb, -⟩ := h.map
    rintro (e | e)
    · have := hx.hdr
      rw [← e, hb] at this; cases this
    · obtain ⟨cur, hc⟩ := hx.gtype e
      rw [hb] at hc; cases hc
  have hld : ∀ {y : Pp} {e : Pe}, PpAt w S y → e ∈ y.es → memC.Own .u8 5 w' 0 (.slice e.A e.n e.c) e.x := fun {y e} hy he =>
    own_row_same (hy.lds e he).1 fun g hg9 => by
      obtain ⟨cur, hc⟩ := own_type (hy.lds e he).1 hg9
      exact hB (hlt g ((hy.lds e he).2.2 g hg9)) (notB hx hc (by decide) (by decide))
  have hoth : ∀ (j : Nat) (y : Pp), j ≠ i → ps[j]? = some y → PpAt w' (fun k => S k ∨ (w.heap.size ≤ k ∧ k < w'.heap.size)) y := by
    intro j y hj hyj
    have hy := h.parts y (List.mem_of_getElem? hyj)
    have hjl := (List.getElem?_eq_some_iff.1 hyj).1
    have hyj2 : ps[j] = y := (List.getElem?_eq_some_iff.1 hyj).2
    have hqne : y.q ≠ x.q := fun e => by
      have h9 := List.pairwise_iff_getElem.1 (show (ps.map Pp.q).Pairwise (· ≠ ·) from h.qnd)
      rcases Nat.lt_or_gt_of_ne hj with hlt9 | hlt9
      · exact h9 j i (by rw [List.length_map]; exact hjl) (by rw [List.length_map]; exact hil) hlt9 (by simp [hyj2, hxi, e])
      · exact h9 i j (by rw [List.length_map]; exact hil) (by rw [List.length_map]; exact hjl) hlt9 (by simp [hyj2, hxi, e])
    have hgne : ∀ g, y.v.ownBlock = some g → x.v.ownBlock ≠ some g := fun g hyg hxg => by
      have h9 := List.pairwise_iff_getElem.1 h.gnd
      rcases Nat.lt_or_gt_of_ne hj with hlt9 | hlt9
      · exact h9 j i hjl hil hlt9 g (by rw [hyj2]; exact hyg) (by rw [hxi]; exact hxg)
      · exact h9 i j hil hjl hlt9 g (by rw [hxi]; exact hxg) (by rw [hyj2]; exact hyg)
    refine ⟨(hB (hlt _ hy.sq) ?_).trans hy.hdr, .inl hy.sq, fun g hg9 => .inl (hy.sg g hg9), own_row_same hy.own fun g hg9 => hB (hlt g (hy.sg g hg9)) ?_, fun e he => ⟨hld hy he, (hy.lds e he).2.1, fun b hb => .inl ((hy.lds e he).2.2 b hb)⟩⟩
    · rintro (e | e)
      · exact hqne e
      · obtain ⟨cur, hc⟩ := hx.gtype e
        have := hy.hdr
        rw [hc] at this
        injection this with this
        injection this with _ this _
        exact absurd this (by decide)
    · rintro (e | e)
      · obtain ⟨cur, hc⟩ := hy.gtype hg9
        have := hx.hdr
        rw [← e, hc] at this
        injection this with this
        injection this with _ this _
        exact absurd this (by decide)
      · exact hgne g hg9 e
  have hme : PpAt w' (fun k => S k ∨ (w.heap.size ≤ k ∧ k < w'.heap.size)) x' := by
    refine ⟨by rw [hq]; exact hrow, .inl (hq ▸ hx.sq), fun g hg9 => ?_, hown, fun e he => ?_⟩
    · rw [hv] at hg9
      have e : g' = g := Option.some.inj hg9
      subst e
      rcases hg with hg | hg
      · exact .inl (hx.sg _ hg)
      · exact .inr ⟨hg, hgl⟩
    · rcases hlds e he with he9 | ⟨ho, hok⟩
      · exact ⟨hld hx he9, (hx.lds e he9).2.1, fun b hb => .inl ((hx.lds e he9).2.2 b hb)⟩
      · exact ⟨ho.less (Nat.zero_le _), hok, fun b hb => .inr (ho.blk b hb)⟩
  refine ⟨F.row h.row (notB hx h.row (by decide) (by decide)), .inl h.st, .inl h.sm, ?_, ?_, fun g hg9 => .inl (h.so g hg9), fun y hy => ?_, ?_, ?_, ?_, fun y hy => ?_, fun k hk => ?_⟩
  · rw [map_set_same (fun x : Pp => (x.nm, x.q)) hi (by simp [hnm, hq])]
    exact h.map.same (hB h.map.lt hmB)
  · rw [map_set_same Pp.nm hi hnm]
    exact own_row_same h.ord fun g hg9 => by
      obtain ⟨cur, hc⟩ := ord_type h.ord g hg9
      exact hB (hlt g (h.so g hg9)) (notB hx hc (by decide) (by decide))
  · obtain ⟨j, hj⟩ := List.mem_iff_getElem?.1 hy
    rw [List.getElem?_set] at hj
    by_cases e : i = j
    · subst e
      rw [if_pos rfl, if_pos hil] at hj
      injection hj with hj
      exact hj ▸ hme
    · rw [if_neg e] at hj
      exact hoth j y (fun h => e h.symm) hj
  · rw [map_set_same Pp.q hi hq]; exact h.qnd
  · have hgn : ∀ (j : Nat) (y : Pp), j ≠ i → ps[j]? = some y → ∀ g, y.v.ownBlock = some g → x'.v.ownBlock ≠ some g := by
      intro j y hj hyj g hyg hxg
      rw [hv] at hxg
      have e : g' = g := Option.some.inj hxg
      subst e
      have hjl := (List.getElem?_eq_some_iff.1 hyj).1
      have hyj2 : ps[j] = y := (List.getElem?_eq_some_iff.1 hyj).2
      rcases hg with hg | hg
      · have h9 := List.pairwise_iff_getElem.1 h.gnd
        rcases Nat.lt_or_gt_of_ne hj with hlt9 | hlt9
        · exact h9 j i hjl hil hlt9 _ (by rw [hyj2]; exact hyg) (by rw [hxi]; exact hg)
        · exact h9 i j hil hjl hlt9 _ (by rw [hxi]; exact hg) (by rw [hyj2]; exact hyg)
      · have := hlt _ ((h.parts y (List.mem_of_getElem? hyj)).sg _ hyg)
        omega
    refine List.pairwise_iff_getElem.2 fun a b ha hb hab g h1 h2 => ?_
    rw [List.length_set] at ha hb
    rw [List.getElem_set] at h1 h2
    by_cases ea : i = a
    · rw [if_pos ea] at h1
      rw [if_neg (by omega)] at h2
      exact hgn b ps[b] (by omega) (List.getElem?_eq_getElem hb) g h2 h1
    · rw [if_neg ea] at h1
      by_cases eb : i = b
      · rw [if_pos eb] at h2
        exact hgn a ps[a] (by omega) (List.getElem?_eq_getElem ha) g h1 h2
      · rw [if_neg eb] at h2
        exact List.pairwise_iff_getElem.1 h.gnd a b ha hb hab g h1 h2
  · rw [map_set_same Pp.nm hi hnm]; exact h.nnd
  · rcases List.mem_or_eq_of_mem_set hy with hy | rfl
    · exact h.nok y hy
    · rw [hnm]; exact h.nok x hxm
  · rcases hk with hk | hk
    · exact Nat.lt_of_lt_of_le (hlt k hk) F.size
    · exact hk.2
end
/-- a piece comes to one of a table's packets -/
theorem padd_tab (w : World) (S : Nat → Prop) (t : Nat) (room now : Int) (m : Nat) (ov : Value) (ps : List Pp) (i : Nat) (x : Pp) (p : Pkt) (A : Option Addr) (n c : Nat) (xs : List Int) (h : TC w S t room now m ov ps) (hi : ps[i]? = some x) (hk : ∀ e ∈ x.es, Kx e) (hm : Kx ⟨p, A, n, c, xs⟩) (hy : ∀ b ∈ xs, Byte b) (hx : Nums .u8 w w.heap.size A n xs) (hn : n ≤ 70000)
    (hd : x.es.any (fun x => dupP (p, xs) x.pc) = false) (hc : x.es.any (fun x => clashP x.pc (p, xs)) = false) (h64 : x.es.length < 64) :
    Calls Try.prog 31 #[ptr x.q, .agg (pktV p A n c)] w (fun e w' => e = .returned (.int .i64 0) ∧ ∃ x' A1 c1, TC w' (fun k => S k ∨ (w.heap.size ≤ k ∧ k < w'.heap.size)) t room now m ov (ps.set i x') ∧ x'.q = x.q ∧ x'.nm = x.nm ∧ x'.began = x.began ∧ x'.es.Perm (x.es ++ [⟨p, A1, n, c1, xs⟩]) ∧ x'.es.Pairwise (fun x y => x.p.off ≤ y.p.off) ∧ Fs S w w') := by
  have hxp := h.parts x (List.mem_of_getElem? hi)
  refine (padd_in x.q w x.began x.v x.es p A n c xs hxp.hdr hxp.own hk hm hx (by omega) hn hd hc h64).mono ?_
  rintro e w' ⟨rfl, g', c', A1, c1, es', h1, h2, h3, h4, h5, h6, h7, h8, h9⟩
  have hl : es'.length = x.es.length + 1 := by rw [h4.length_eq, List.length_append]; rfl
  refine ⟨rfl, ⟨x.nm, x.q, .slice (some ⟨g', 0, none⟩) (x.es.length + 1) c', es', x.began⟩, A1, c1, h.grown hi rfl rfl h9 h1 rfl h2 h3 h6 (fun e he => ?_), rfl, rfl, rfl, h4, h5, h9.mono fun k _ hk9 => ?_⟩
  · rcases List.mem_append.1 (h4.mem_iff.1 he) with he | he
    · exact .inl he
    · obtain rfl := List.mem_singleton.1 he
      exact .inr ⟨h7, ⟨hm.p, hy, h8.1, h8.2⟩⟩
  · rcases hk9 with e | e
    · exact e ▸ hxp.sq
    · exact hxp.sg k e
end Go.Proofs.Ytcnnpfjommiafaa.fgC

/-
  A table in memory is the table over numbers; Add.
-/
namespace Go.Proofs.Ytcnnpfjommiafaa.fgC
open Go.ChangeShapes Go.WideShapes Go.ChangeAt Go.RowKit
open Go.Proofs.Ytcnnpfjommiafaa.memC Go.Proofs.Ytcnnpfjommiafaa.genC Go.Proofs.Ytcnnpfjommiafaa.butC Go.Proofs.Ytcnnpfjommiafaa.freeC Go.Proofs.Ytcnnpfjommiafaa.adC
open Go.Proofs.Ytcnnpfjommiafaa.pkC (Pkt pktL pktV pktT adrC)
open Go.Proofs.Ytcnnpfjommiafaa.partsC (Part nsum catL)
set_option linter.unusedVariables false
/-- a packet in pieces, over numbers and in memory -/
structure Rel (a : Int × List Pc) (x : Pp) : Prop where
  b : a.1 = x.began
  perm : (x.es.map Pe.pc).Perm a.2
  sort : x.es.Pairwise fun u v => u.p.off ≤ v.p.off
  nb : x.es.Pairwise fun u v => badP u.pc v.pc = false
  ne : x.es ≠ []
  few : x.es.length ≤ 64
  gp : ∀ e ∈ x.es, GP e.pc
  nm : ∀ e ∈ x.es, nmOf e.p = x.nm
  na : allP (x.es.map Pe.pc) = false
inductive Rels : List (Int × List Pc) → List Pp → Prop
  | nil : Rels [] []
  | cons {a x l ps} : Rel a x → Rels l ps → Rels (a :: l) (x :: ps)
theorem Rels.len : ∀ {l ps}, Rels l ps → l.length = ps.length
  | _, _, .nil => rfl
  | _, _, .cons _ h => by rw [List.length_cons, List.length_cons, h.len]
theorem Rels.append : ∀ {l ps l' ps'}, Rels l ps → Rels l' ps' → Rels (l ++ l') (ps ++ ps')
  | _, _, _, _, .nil, h => h
  | _, _, _, _, .cons h1 h2, h => .cons h1 (h2.append h)
theorem Rels.erase : ∀ {l ps}, Rels l ps → ∀ i, Rels (l.eraseIdx i) (ps.eraseIdx i)
  | _, _, .nil, _ => .nil
  | _, _, .cons h1 h2, 0 => h2
  | _, _, .cons h1 h2, i + 1 => .cons h1 (h2.erase i)
theorem Rels.set : ∀ {l ps}, Rels l ps → ∀ (i : Nat) {a x}, Rel a x → Rels (l.set i a) (ps.set i x)
  | _, _, .nil, _, _, _, _ => .nil
  | _, _, .cons h1 h2, 0, _, _, h => .cons h h2
  | _, _, .cons h1 h2, i + 1, _, _, h => .cons h1 (h2.set i h)
theorem Rels.at_ : ∀ {l ps}, Rels l ps → ∀ {i : Nat} {a}, l[i]? = some a → ∃ x, ps[i]? = some x ∧ Rel a x
  | _, _, .nil, _, _, h => by cases h
  | _, _, .cons h1 h2, 0, _, h => by
    simp at h; subst h
    exact ⟨_, rfl, h1⟩
  | _, _, .cons h1 h2, i + 1, _, h => by
    obtain ⟨x, hx, hr⟩ := h2.at_ (i := i) (by simpa using h)
    exact ⟨x, by simpa using hx, hr⟩
theorem Rels.mem : ∀ {l ps}, Rels l ps → ∀ x ∈ ps, ∃ a ∈ l, Rel a x
  | _, _, .nil, _, h => by cases h
  | _, _, .cons (a := a) h1 h2, x, h => by
    rcases List.mem_cons.1 h with rfl | h
    · exact ⟨a, by simp, h1⟩
    · obtain ⟨b, hb, hr⟩ := h2.mem x h
      exact ⟨b, by simp [hb], hr⟩
theorem Rel.head {a : Int × List Pc} {x : Pp} (h : Rel a x) (y : Pc) : nameT y a = true ↔ x.nm = nmOf y.1 := by
  have hall : ∀ z ∈ a.2, nmOf z.1 = x.nm := fun z hz => by
    obtain ⟨e, he, rfl⟩ := List.mem_map.1 (h.perm.mem_iff.2 hz)
    exact h.nm e he
  unfold nameT
  cases hc : a.2 with
  | nil =>
    have := h.perm.length_eq
    rw [hc, List.length_map] at this
    exact absurd (List.eq_nil_of_length_eq_zero this) h.ne
  | cons z r =>
    simp only
    have h1 := hall z (by rw [hc]; simp)
    rw [sameN_nm, h1]
/-- at t lies the table st -/
def Tb (w : World) (S : Nat → Prop) (t : Nat) (st : TSt) : Prop :=
  ∃ m ov ps, TC w S t st.room st.t m ov ps ∧ Rels st.l ps ∧ (1 ≤ st.room ∧ st.room ≤ 64) ∧ (ps.length : Int) ≤ st.room ∧ (-9223372036854775808 ≤ st.t ∧ st.t ≤ 9223372036854775807)
theorem gp_kx {w : World} {S : Nat → Prop} {x : Pp} (hx : PpAt w S x) (hg : ∀ e ∈ x.es, GP e.pc) : ∀ e ∈ x.es, Kx e := fun e he => by
  have hl := own_len (hx.lds e he).1
  have h1 := (hg e he).off0
  have h2 := (hg e he).end9
  unfold endP Pe.pc at h2
  simp only [hl] at h2
  have h3 : 0 ≤ e.p.off := h1
  exact ⟨(hx.lds e he).2.1.p, hl, by omega, by omega⟩
theorem ld_nums {w : World} {S : Nat → Prop} {x : Pp} (hx : PpAt w S x) (hg : ∀ e ∈ x.es, GP e.pc) : ∀ e ∈ x.es, Nums .u8 w w.heap.size e.A e.n e.x ∧ e.n ≤ 100000 := fun e he => by
  have hl := own_len (hx.lds e he).1
  have h1 := (hg e he).off0
  have h2 := (hg e he).end9
  unfold endP Pe.pc at h2
  simp only [hl] at h2
  have h3 : 0 ≤ e.p.off := h1
  exact ⟨(hx.lds e he).1.nums, by omega⟩
theorem later_ok {t now : Int} (ht : -9223372036854775808 ≤ t ∧ t ≤ 9223372036854775807) : -9223372036854775808 ≤ laterT t now ∧ laterT t now ≤ 9223372036854775807 := by
  unfold laterT
  split <;> omega
theorem fs_fin {S : Nat → Prop} {w w1 wl : World} (h1 : Fs S w w1) (h2 : Fs (Zf S w1) w1 wl) (C : Array Value) : Fs S w (wl.setRow (w.heap.size + 1) C) := by
  have h3 : Fs S w wl := ⟨h2.os.trans h1.os, h2.tape.trans h1.tape, h2.output.trans h1.output, Nat.le_trans h1.size h2.size, fun k hk hn => (h2.block k (Nat.lt_of_lt_of_le hk h1.size) (by
    rintro (h | h)
    · exact hn h
    · have := h1.size; omega)).trans (h1.block k hk hn)⟩
  exact fs_setRow h3 (Nat.le_succ _) C
theorem pc_any (es : List Pe) (f : Pc → Bool) : es.any (fun x => f x.pc) = (es.map Pe.pc).any f := by rw [List.any_map]; rfl
theorem perm_any {l s : List Pc} (h : l.Perm s) (f : Pc → Bool) : l.any f = s.any f := by
  rw [Bool.eq_iff_iff, List.any_eq_true, List.any_eq_true]
  exact ⟨fun ⟨x, hx, hf⟩ => ⟨x, h.mem_iff.1 hx, hf⟩, fun ⟨x, hx, hf⟩ => ⟨x, h.mem_iff.2 hx, hf⟩⟩
theorem join_out {p : Pkt} {n : Nat} {xs : List Int} (hs : p.s = true ∨ p.whole = false) (ho : p.off = 0) (T : List Int) : joinK p = (outP (p, xs) T).1 := by
  obtain ⟨s, a, t, b, proto, hops, id, whole, more, off⟩ := p
  simp only at ho hs
  subst ho
  unfold joinK outP
  cases s
  · rcases hs with hs | hs
    · cases hs
    · subst hs; rfl
  · rfl
theorem flat_cat (es : List Pe) : catL (es.map ldP) = (es.map Pe.pc).flatMap (·.2) := by
  unfold catL
  induction es with
  | nil => rfl
  | cons e r ih => rw [List.map_cons, List.map_cons, List.flatMap_cons, List.flatMap_cons, ih]; rfl
theorem flat_sum : ∀ {es : List Pe}, (∀ e ∈ es, e.x.length = e.n) → ((es.map Pe.pc).flatMap (·.2)).length = nsum (es.map ldP)
  | [], _ => rfl
  | e :: r, h => by
    rw [List.map_cons, List.flatMap_cons, List.length_append, flat_sum fun x hx => h x (by simp [hx])]
    show e.x.length + _ = e.n + _
    rw [h e (by simp)]
section
variable {w : World} {S : Nat → Prop} {t : Nat} {st : TSt} {now : Int} {p : Pkt} {A : Option Addr} {n c : Nat} {xs : List Int}
theorem zP_nums (w : World) : Nums .u8 w w.heap.size none 0 [] := ⟨rfl, fun h => absurd h (Nat.lt_irrefl 0)⟩
abbrev AddCall (w : World) (t : Nat) (now : Int) (p : Pkt) (A : Option Addr) (n c : Nat) := Calls Try.prog 12 #[.pointer (some ⟨t, 0, none⟩), .int .i64 now, .agg (pktV p A n c)] w
theorem tadd_err (h : Tb w S t st) (hnw : -9223372036854775808 ≤ now ∧ now ≤ 9223372036854775807) (hp : p.Ok) (hx : Nums .u8 w w.heap.size A n xs) (hsx : 0 < n → ∀ k, S k → ∀ i, A ≠ some ⟨k, i, none⟩) (hn : n ≤ 70000) (he : (!mayP (p, xs) || (!wholeP (p, xs) && decide (xs.length = 0))) = true) :
    AddCall w t now p A n c (AddR Tb w S t (zPc, false, 3) { st with t := laterT st.t now }) := by
  obtain ⟨m, ov, ps, hT, hR, hr, hl, ht⟩ := h
  have hfin : ∀ e w', (e = .returned (.tuple #[.agg (pktV zPkt none 0 0), .bool false, .int .i64 3]) ∧ TC w' S t st.room (laterT st.t now) m ov ps ∧ Fs S w w') → AddR Tb w S t (zPc, false, 3) { st with t := laterT st.t now } e w' := by
    rintro e w' ⟨rfl, h1, h2⟩
    exact ⟨none, 0, 0, S, rfl, zP_nums _, Nat.le_refl _, by decide, ⟨m, ov, ps, h1, hR, hr, hl, later_ok ht⟩, fun k hk => .inl hk, h2⟩
  cases hmy : mayP (p, xs)
  · exact (add_err1 w S t st.room st.t now m ov ps p A n c xs hT ht hnw hp hx hsx hn hmy).mono hfin
  · cases hwh : wholeP (p, xs)
    · rw [hmy, hwh] at he
      simp at he
      exact (add_err2 w S t st.room st.t now m ov ps p A n c xs hT ht hnw hp hx hsx hn hmy hwh (by rw [← hx.len, he]; rfl)).mono hfin
    · rw [hmy, hwh] at he; simp at he
theorem tadd_whole (h : Tb w S t st) (hnw : -9223372036854775808 ≤ now ∧ now ≤ 9223372036854775807) (hp : p.Ok) (hx : Nums .u8 w w.heap.size A n xs) (hsx : 0 < n → ∀ k, S k → ∀ i, A ≠ some ⟨k, i, none⟩) (hn : n ≤ 70000) (hmy : mayP (p, xs) = true) (hwh : wholeP (p, xs) = true) :
    AddCall w t now p A n c (AddR Tb w S t (if p.s = true then outP (p, xs) xs else (p, xs), true, 0) { st with t := laterT st.t now }) := by
  obtain ⟨m, ov, ps, hT, hR, hr, hl, ht⟩ := h
  refine (add_whole w S t st.room st.t now m ov ps p A n c xs hT ht hnw hp hx hsx hn hmy hwh).mono ?_
  rintro e w' ⟨A', c', rfl, h1, h2, h3, h4, h5⟩
  unfold wholeP at hwh
  simp only [Bool.and_eq_true, decide_eq_true_eq, Bool.not_eq_true'] at hwh
  have e1 : (if p.s = true then outP (p, xs) xs else (p, xs)) = (joinK p, xs) := by
    by_cases hs : p.s = true
    · rw [if_pos hs, join_out (n := n) (xs := xs) (.inl hs) hwh.1 xs]; rfl
    · rw [if_neg hs]
      unfold joinK
      rw [if_neg hs]
      obtain ⟨s, a, t, b, proto, hops, id, whole, more, off⟩ := p
      simp only at hwh
      rw [hwh.2]
  rw [e1]
  exact ⟨A', n, c', S, rfl, h1, h2, h3, ⟨m, ov, ps, h4, hR, hr, hl, later_ok ht⟩, fun k hk => .inl hk, h5⟩
end
end Go.Proofs.Ytcnnpfjommiafaa.fgC

/-
  A piece is added to a table.
-/
namespace Go.Proofs.Ytcnnpfjommiafaa.fgC
open Go.ChangeShapes Go.WideShapes Go.ChangeAt Go.RowKit
open Go.Proofs.Ytcnnpfjommiafaa.memC Go.Proofs.Ytcnnpfjommiafaa.genC Go.Proofs.Ytcnnpfjommiafaa.butC Go.Proofs.Ytcnnpfjommiafaa.freeC Go.Proofs.Ytcnnpfjommiafaa.adC
open Go.Proofs.Ytcnnpfjommiafaa.pkC (Pkt pktL pktV pktT adrC)
open Go.Proofs.Ytcnnpfjommiafaa.partsC (Part nsum catL)
set_option linter.unusedVariables false
theorem erase_set {α : Type} : ∀ (l : List α) (i : Nat) (x : α), (l.set i x).eraseIdx i = l.eraseIdx i
  | [], _, _ => rfl
  | a :: r, 0, x => rfl
  | a :: r, i + 1, x => by rw [List.set_cons_succ, List.eraseIdx_cons_succ, List.eraseIdx_cons_succ, erase_set r i x]
theorem fs_zf {S S2 : Nat → Prop} {w1 w2 w3 : World} (h : Fs S2 w2 w3) (hs : ∀ k, S2 k → Zf S w1 k) : Fs (Zf S w1) w2 w3 := h.mono fun k _ hk => hs k hk
theorem not_g6 {S S3 : Nat → Prop} {w w1 : World} (hS : ∀ k, S k → k < w.heap.size) (hs : w.heap.size + 2 ≤ w1.heap.size) (h3 : ∀ k, S3 k → Zf S w1 k) : ¬ S3 (w.heap.size + 1) := fun h => by
  rcases h3 _ h with h | h
  · have := hS _ h; omega
  · omega
theorem zf_new {S S3 : Nat → Prop} {w w1 : World} (hs : w.heap.size + 2 ≤ w1.heap.size) (h3 : ∀ k, S3 k → Zf S w1 k) : ∀ k, S3 k → S k ∨ w.heap.size ≤ k := fun k hk => by
  rcases h3 k hk with h | h
  · exact .inl h
  · exact .inr (by omega)
/-- what stands of one that grew -/
structure Grew (a : Int × List Pc) (x x' : Pp) (y : Pc) : Prop where
  q : x'.q = x.q
  nm : x'.nm = x.nm
  b : x'.began = x.began
  es : ∃ e1 : Pe, e1.pc = y ∧ x'.es.Perm (x.es ++ [e1])
  sort : x'.es.Pairwise fun u v => u.p.off ≤ v.p.off
section
variable {a : Int × List Pc} {x x' : Pp} {y : Pc}
theorem Grew.perm (h : Grew a x x' y) (hr : Rel a x) : (x'.es.map Pe.pc).Perm (a.2 ++ [y]) := by
  obtain ⟨e1, h1, h2⟩ := h.es
  have := h2.map Pe.pc
  rw [List.map_append, List.map_cons, List.map_nil, h1] at this
  exact this.trans (hr.perm.append_right _)
theorem Grew.gp (h : Grew a x x' y) (hr : Rel a x) (hy : GP y) : ∀ e ∈ x'.es, GP e.pc := fun e he => by
  obtain ⟨e1, h1, h2⟩ := h.es
  rcases List.mem_append.1 (h2.mem_iff.1 he) with he | he
  · exact hr.gp e he
  · obtain rfl := List.mem_singleton.1 he
    rw [h1]; exact hy
theorem Grew.len (h : Grew a x x' y) : x'.es.length = x.es.length + 1 := by
  obtain ⟨e1, h1, h2⟩ := h.es
  rw [h2.length_eq, List.length_append]; rfl
theorem Grew.nb (h : Grew a x x' y) (hr : Rel a x) (hy : GP y) (hc : x.es.any (fun x => clashP x.pc y) = false) : x'.es.Pairwise fun u v => badP u.pc v.pc = false := by
  obtain ⟨e1, h1, h2⟩ := h.es
  refine (h2.pairwise_iff (fun {u v} (h : badP u.pc v.pc = false) => by rw [bad_symm]; exact h)).2 ?_
  refine List.pairwise_append.2 ⟨hr.nb, List.pairwise_singleton _ _, fun u hu v hv => ?_⟩
  obtain rfl := List.mem_singleton.1 hv
  have := List.any_eq_false.1 hc u hu
  rw [clash_bad (hr.gp u hu).pos hy.pos] at this
  rw [h1, bad_symm]
  simpa using this
theorem Grew.joined (h : Grew a x x' y) (hr : Rel a x) (hy : GP y) (hc : x.es.any (fun x => clashP x.pc y) = false) :
    joinedP (a.2 ++ [y]) = if allP (x'.es.map Pe.pc) = true then some (outP ((x'.es.map Pe.pc).headD zPc) ((x'.es.map Pe.pc).flatMap (·.2))) else none := by
  refine joined_of (h.perm hr).symm (sorted_order ?_ ?_ ?_) ?_
  · exact List.pairwise_map.2 h.sort
  · exact List.pairwise_map.2 ((h.nb hr hy hc).imp fun {u v} h9 => (bad_symm _ _).trans h9)
  · intro z hz
    obtain ⟨e, he, rfl⟩ := List.mem_map.1 hz
    exact h.gp hr hy e he
  · intro z hz
    obtain ⟨e, he, rfl⟩ := List.mem_map.1 hz
    exact h.gp hr hy e he
end
section
variable {w : World} {S : Nat → Prop} {t : Nat} {st : TSt} {now : Int} {p : Pkt} {A : Option Addr} {n c : Nat} {xs : List Int}
theorem gp_kx1 (hp : p.Ok) (hl : xs.length = n) (hy : GP (p, xs)) (A : Option Addr) (c : Nat) : Kx ⟨p, A, n, c, xs⟩ := by
  have h1 := hy.off0
  have h2 := hy.end9
  unfold endP at h2
  simp only [hl] at h2
  have h3 : 0 ≤ p.off := h1
  exact ⟨hp, hl, by show _ ≤ _; simp only; omega, by show _ ≤ _; simp only; omega⟩
set_option maxHeartbeats 1000000 in
theorem tadd_new (h : Tb w S t st) (hnw : -9223372036854775808 ≤ now ∧ now ≤ 9223372036854775807) (hp : p.Ok) (hx : Nums .u8 w w.heap.size A n xs) (hb : ∀ x ∈ xs, Byte x) (hsx : 0 < n → ∀ k, S k → ∀ i, A ≠ some ⟨k, i, none⟩) (hn : n ≤ 70000) (hy : GP (p, xs)) (hf : st.l.findIdx? (nameT (p, xs)) = none) :
    AddCall w t now p A n c (AddR Tb w S t (zPc, false, 0) { st with t := laterT st.t now, l := (if st.room ≤ (st.l.length : Int) then st.l.drop 1 else st.l) ++ [(laterT st.t now, [(p, xs)])] }) := by
  obtain ⟨m, ov, ps, hT, hR, hr, hl, ht⟩ := h
  have hlen := hR.len
  have hnone : ∀ x ∈ ps, x.nm ≠ nmOf p := fun x hx e => by
    obtain ⟨a, ha, hra⟩ := hR.mem x hx
    have h1 := List.findIdx?_eq_none_iff.1 hf a ha
    rw [(hra.head (p, xs)).2 e] at h1
    cases h1
  have hxl := hx.len
  obtain ⟨now1, hnow1⟩ : ∃ x, x = laterT st.t now := ⟨_, rfl⟩
  obtain ⟨pz, hpz⟩ : ∃ q, q = (if (ps.length : Int) = st.room then ps.eraseIdx 0 else ps) := ⟨_, rfl⟩
  obtain ⟨lz, hlz⟩ : ∃ q, q = (if st.room ≤ (st.l.length : Int) then st.l.drop 1 else st.l) := ⟨_, rfl⟩
  have hRz : Rels lz pz := by
    rw [hpz, hlz]
    by_cases e : (ps.length : Int) = st.room
    · rw [if_pos e, if_pos (by omega), List.drop_one, ← List.eraseIdx_zero]
      exact hR.erase 0
    · rw [if_neg e, if_neg (by omega)]; exact hR
  have hlz2 : (pz.length : Int) + 1 ≤ st.room := by
    rw [hpz]
    by_cases e : (ps.length : Int) = st.room
    · rw [if_pos e, List.length_eraseIdx]
      split <;> omega
    · rw [if_neg e]; omega
  have hk := gp_kx1 hp hxl hy A c
  have hall : allP [(p, xs)] = false := by
    have := hy.nw
    unfold wholeP at this
    unfold allP contP contP
    simp only [List.getLast?_singleton]
    rw [Bool.and_true]
    exact this
  have key := add_waits w S t st.room st.t now m ov ps p A n c xs hT ht hnw hp hx hsx hn
    (fun w1 q w2 => w1.heap.size ≤ w2.heap.size ∧ ∃ ov', TC w2 (fun k => S k ∨ (w1.heap.size ≤ k ∧ k < w2.heap.size)) t st.room (laterT st.t now) m ov' (pz ++ [newP (nmOf p) q (laterT st.t now)]))
    (fun w1 q w3 => ∃ ov' x' S3, TC w3 S3 t st.room (laterT st.t now) m ov' (pz ++ [x']) ∧ (∀ k, S3 k → Zf S w1 k) ∧ x'.q = q ∧ x'.nm = nmOf p ∧ x'.began = laterT st.t now ∧ (∃ e1 : Pe, x'.es = [e1] ∧ e1.pc = (p, xs)))
    (fun w1 q w3 => ∃ ov' x' S3, TC w3 S3 t st.room (laterT st.t now) m ov' (pz ++ [x']) ∧ (∀ k, S3 k → Zf S w1 k) ∧ x'.q = q ∧ x'.nm = nmOf p ∧ x'.began = laterT st.t now ∧ (∃ e1 : Pe, x'.es = [e1] ∧ e1.pc = (p, xs)))
    hy.may hy.nw (by have := hy.pos; simp only at this; omega)
    (fun w1 hT1 hs => by
      refine (begun_new w1 S t st.room (laterT st.t now) m ov ps (nmOf p) hT1 (nm_ok hp) hnone hr hl).mono ?_
      rintro e w2 ⟨q, ov', rfl, h1, h2, h3⟩
      rw [← hpz] at h1
      exact ⟨q, rfl, ⟨h2.size, ov', h1⟩, fs_zf h2 fun k hk => .inl hk⟩)
    (fun w1 q w2 hM hx2 => by
      obtain ⟨hs, ov', hTC⟩ := hM
      refine (padd_tab w2 _ t st.room (laterT st.t now) m ov' _ pz.length (newP (nmOf p) q (laterT st.t now)) p A n c xs hTC (by simp) (fun e he => (by cases he)) hk hb hx2 hn rfl rfl (by show 0 < 64; decide)).mono ?_
      rintro e w3 ⟨rfl, x', A1, c1, h1, h2, h3, h4, h5, h6, h7⟩
      have e2 : (pz ++ [newP (nmOf p) q (laterT st.t now)]).set pz.length x' = pz ++ [x'] := by simp
      rw [e2] at h1
      refine ⟨rfl, ⟨ov', x', _, h1, fun k hk2 => ?_, h2, h3, h4, ⟨_, List.perm_singleton.1 h5, rfl⟩⟩, fs_zf h7 fun k hk2 => ?_⟩
      · rcases hk2 with (hk2 | hk2) | hk2
        · exact .inl hk2
        · exact .inr hk2.1
        · exact .inr (Nat.le_trans hs hk2.1)
      · rcases hk2 with hk2 | hk2
        · exact .inl hk2
        · exact .inr hk2.1)
    (fun w1 q w3 hM => by
      obtain ⟨ov', x', S3, h1, h2, rfl, h4, h5, e1, h6, h7⟩ := hM
      have hpp := h1.parts x' (by simp)
      have hgp : ∀ e ∈ x'.es, GP e.pc := fun e he => by rw [h6] at he; obtain rfl := List.mem_singleton.1 he; rw [h7]; exact hy
      refine (all_any x'.q w3 x'.began x'.v x'.es hpp.hdr hpp.own (gp_kx hpp hgp) (by rw [h6]; show 1 ≤ 64; decide) (by rw [h6]; show 0 < 1; decide)).mono ?_
      rintro e w4 ⟨rfl, hb4⟩
      refine ⟨by rw [h6, List.map_cons, List.map_nil, h7, hall], ⟨ov', x', S3, h1.below hb4, h2, rfl, h4, h5, e1, h6, h7⟩, Fs.below hb4⟩)
  refine Calls.mono key ?_
  rintro e w' ⟨w1, q, wl, rfl, hs, ⟨ov', x', S3, h1, h2, h3, h4, h5, e1, h6, h7⟩, rfl, F1, F0⟩
  rw [← hlz]
  refine ⟨none, 0, 0, S3, rfl, zP_nums _, Nat.le_refl _, by decide, ⟨m, ov', pz ++ [x'], h1.setRow (not_g6 hT.lt hs h2) _, hRz.append (.cons ?_ .nil), hr, ?_, later_ok ht⟩, zf_new hs h2, fs_fin F0 F1 _⟩
  · refine ⟨h5.symm, by rw [h6, List.map_cons, List.map_nil, h7], by rw [h6]; exact List.pairwise_singleton _ _, by rw [h6]; exact List.pairwise_singleton _ _, by rw [h6]; simp, by rw [h6]; show 1 ≤ 64; decide, fun e he => ?_, fun e he => ?_, by rw [h6, List.map_cons, List.map_nil, h7, hall]⟩
    · rw [h6] at he; obtain rfl := List.mem_singleton.1 he; rw [h7]; exact hy
    · rw [h6] at he; obtain rfl := List.mem_singleton.1 he
      rw [h4]
      have : e.p = p := congrArg Prod.fst h7
      rw [this]
  · rw [List.length_append]; show ((pz.length + 1 : Nat) : Int) ≤ st.room; omega
end
end Go.Proofs.Ytcnnpfjommiafaa.fgC

/-
  A piece is added to a packet that a table has.
-/
namespace Go.Proofs.Ytcnnpfjommiafaa.fgC
open Go.ChangeShapes Go.WideShapes Go.ChangeAt Go.RowKit
open Go.Proofs.Ytcnnpfjommiafaa.memC Go.Proofs.Ytcnnpfjommiafaa.genC Go.Proofs.Ytcnnpfjommiafaa.butC Go.Proofs.Ytcnnpfjommiafaa.freeC Go.Proofs.Ytcnnpfjommiafaa.adC
open Go.Proofs.Ytcnnpfjommiafaa.pkC (Pkt pktL pktV pktT adrC)
open Go.Proofs.Ytcnnpfjommiafaa.partsC (Part nsum catL)
set_option linter.unusedVariables false
section
variable {w : World} {S : Nat → Prop} {t : Nat} {st : TSt} {now : Int} {p : Pkt} {A : Option Addr} {n c : Nat} {xs : List Int} {i : Nat} {a : Int × List Pc}
/-- what is answered of a piece whose packet a table has -/
def fndP (l : List (Int × List Pc)) (i : Nat) (a : Int × List Pc) (y : Pc) : (Pc × Bool × Int) × List (Int × List Pc) :=
  if a.2.any (dupP y) = true then ((zPc, false, 0), l) else if a.2.any (badP y) = true then ((zPc, false, 3), l.eraseIdx i) else if 64 ≤ a.2.length then ((zPc, false, 5), l.eraseIdx i) else
    match joinedP (a.2 ++ [y]) with | some r => ((r, true, 0), l.eraseIdx i) | none => ((zPc, false, 0), l.set i (a.1, a.2 ++ [y]))
theorem rels_erase_len {l : List (Int × List Pc)} {ps : List Pp} {room : Int} {i : Nat} (hl : (ps.length : Int) ≤ room) : ((ps.eraseIdx i).length : Int) ≤ room := by
  rw [List.length_eraseIdx]
  split <;> omega
theorem joinK_ok {p : Pkt} (hp : p.Ok) : (joinK p).Ok := by
  unfold joinK
  split
  · exact ⟨hp.la, hp.lb, hp.ya, hp.yb, hp.proto, hp.hops, (show (0 : Int) ≤ 0 ∧ (0 : Int) ≤ 4294967295 by decide), hp.off⟩
  · exact ⟨hp.la, hp.lb, hp.ya, hp.yb, hp.proto, hp.hops, hp.id, hp.off⟩
theorem outP_ok {q : Pc} (hp : q.1.Ok) (T : List Int) : (outP q T).1.Ok := by
  unfold outP
  refine ⟨hp.la, hp.lb, hp.ya, hp.yb, hp.proto, hp.hops, ?_, (show -9223372036854775808 ≤ (0 : Int) ∧ (0 : Int) ≤ 9223372036854775807 by decide)⟩
  show 0 ≤ (if q.1.s = true then 0 else q.1.id) ∧ (if q.1.s = true then 0 else q.1.id) ≤ 4294967295
  split
  · decide
  · exact hp.id
set_option maxHeartbeats 2000000 in
theorem tadd_found (h : Tb w S t st) (hnw : -9223372036854775808 ≤ now ∧ now ≤ 9223372036854775807) (hp : p.Ok) (hx : Nums .u8 w w.heap.size A n xs) (hb : ∀ x ∈ xs, Byte x) (hsx : 0 < n → ∀ k, S k → ∀ i, A ≠ some ⟨k, i, none⟩) (hn : n ≤ 70000) (hy : GP (p, xs)) (hi : st.l[i]? = some a) (hname : nameT (p, xs) a = true) :
    AddCall w t now p A n c (AddR Tb w S t (fndP st.l i a (p, xs)).1 { st with t := laterT st.t now, l := (fndP st.l i a (p, xs)).2 }) := by
  obtain ⟨m, ov, ps, hT, hR, hr, hl, ht⟩ := h
  have hlen := hR.len
  obtain ⟨x, hxi, hra⟩ := hR.at_ hi
  have hnm : x.nm = nmOf p := (hra.head (p, xs)).1 hname
  have hxl := hx.len
  have hk := gp_kx1 hp hxl hy A c
  have hpos : n ≠ 0 := by have := hy.pos; simp only at this; omega
  have hps64 : ps.length ≤ 64 := by omega
  have hil : x.es.length = a.2.length := by have := hra.perm.length_eq; rwa [List.length_map] at this
  have hpp : ∀ {w' : World}, TC w' S t st.room (laterT st.t now) m ov ps → PpAt w' S x := fun h => h.parts x (List.mem_of_getElem? hxi)
  have e0 : 0 < x.es.length := List.length_pos_iff.2 hra.ne
  have dupE : x.es.any (fun x => dupP (p, xs) x.pc) = a.2.any (dupP (p, xs)) := (pc_any x.es (dupP (p, xs))).trans (perm_any hra.perm _)
  have badE : x.es.any (fun x => clashP x.pc (p, xs)) = a.2.any (badP (p, xs)) := by
    rw [← perm_any hra.perm, ← pc_any]
    have : ∀ l : List Pe, (∀ e ∈ l, GP e.pc) → l.any (fun x => clashP x.pc (p, xs)) = l.any (fun x => badP (p, xs) x.pc) := by
      intro l
      induction l with
      | nil => intro _; rfl
      | cons e r ih => intro hg; rw [List.any_cons, List.any_cons, clash_bad (hg e (by simp)).pos hy.pos, ih fun z hz => hg z (by simp [hz])]
    exact this x.es hra.gp
  have HBg : ∀ w1, TC w1 S t st.room (laterT st.t now) m ov ps → w.heap.size ≤ w1.heap.size → Calls Try.prog 30 #[.pointer (some ⟨t, 0, none⟩), .agg (nmV (nmOf p))] w1 (fun e w2 => ∃ q, e = .returned (ptr q) ∧ (q = x.q ∧ w1.heap.size ≤ w2.heap.size ∧ TC w2 S t st.room (laterT st.t now) m ov ps) ∧ Fs (Zf S w1) w1 w2) := fun w1 hT1 hs => by
    refine (begun_found w1 S t st.room (laterT st.t now) m ov ps i x (nmOf p) hT1 hxi hnm).mono ?_
    rintro e w2 ⟨rfl, hb2⟩
    exact ⟨x.q, rfl, ⟨rfl, hb2.size, hT1.below hb2⟩, Fs.below hb2⟩
  unfold fndP
  by_cases c1 : a.2.any (dupP (p, xs)) = true
  · rw [if_pos c1]
    have key := add_waits w S t st.room st.t now m ov ps p A n c xs hT ht hnw hp hx hsx hn
      (fun w1 q w2 => q = x.q ∧ w1.heap.size ≤ w2.heap.size ∧ TC w2 S t st.room (laterT st.t now) m ov ps)
      (fun w1 q w2 => q = x.q ∧ TC w2 S t st.room (laterT st.t now) m ov ps)
      (fun w1 q w2 => TC w2 S t st.room (laterT st.t now) m ov ps)
      hy.may hy.nw hpos HBg
      (fun w1 q w2 hM hx2 => by
        obtain ⟨rfl, -, hTC⟩ := hM
        have h9 := hpp hTC
        refine (padd_dup x.q w2 x.began x.v x.es p A n c xs h9.hdr h9.own (gp_kx h9 hra.gp) hk hx2 hra.few hn (dupE.trans c1)).mono ?_
        rintro e w3 ⟨rfl, hb3⟩
        exact ⟨rfl, ⟨rfl, hTC.below hb3⟩, Fs.below hb3⟩)
      (fun w1 q w3 hM => by
        obtain ⟨rfl, hTC⟩ := hM
        have h9 := hpp hTC
        refine (all_any x.q w3 x.began x.v x.es h9.hdr h9.own (gp_kx h9 hra.gp) hra.few e0).mono ?_
        rintro e w4 ⟨rfl, hb4⟩
        exact ⟨by rw [hra.na], hTC.below hb4, Fs.below hb4⟩)
    refine Calls.mono key ?_
    rintro e w' ⟨w1, q, wl, rfl, hs, h1, rfl, F1, F0⟩
    exact ⟨none, 0, 0, S, rfl, zP_nums _, Nat.le_refl _, by decide, ⟨m, ov, ps, h1.setRow (not_g6 hT.lt hs fun k hk => .inl hk) _, hR, hr, hl, later_ok ht⟩, fun k hk => .inl hk, fs_fin F0 F1 _⟩
  rw [if_neg c1]
  have c1' : x.es.any (fun x => dupP (p, xs) x.pc) = false := by rw [dupE]; simpa using c1
  have fails : ∀ (er : Int), er ≠ 0 → (∀ w1 q w2, (q = x.q ∧ w1.heap.size ≤ w2.heap.size ∧ TC w2 S t st.room (laterT st.t now) m ov ps) → Nums .u8 w2 w2.heap.size A n xs → Calls Try.prog 31 #[ptr q, .agg (pktV p A n c)] w2 (fun e w3 => e = .returned (.int .i64 er) ∧ TC w3 S t st.room (laterT st.t now) m ov ps ∧ Fs (Zf S w1) w2 w3)) →
      AddCall w t now p A n c (AddR Tb w S t (zPc, false, er) { st with t := laterT st.t now, l := st.l.eraseIdx i }) := fun er her hA => by
    have key := add_fails w S t st.room st.t now m ov ps p A n c xs hT ht hnw hp hx hsx hn
      (fun w1 q w2 => q = x.q ∧ w1.heap.size ≤ w2.heap.size ∧ TC w2 S t st.room (laterT st.t now) m ov ps)
      (fun w1 q w2 => TC w2 S t st.room (laterT st.t now) m ov ps)
      (fun w1 q w2 => ∃ ov', TC w2 S t st.room (laterT st.t now) m ov' (ps.eraseIdx i))
      er hy.may hy.nw hpos her HBg hA
      (fun w1 q w4 hTC => by
        have h9 := drop_any w4 S t st.room (laterT st.t now) m ov ps i x hTC hxi hps64
        rw [hnm] at h9
        refine h9.mono ?_
        rintro e w5 ⟨rfl, h1, h2⟩
        exact ⟨rfl, h1, fs_zf h2 fun k hk => .inl hk⟩)
    refine Calls.mono key ?_
    rintro e w' ⟨w1, q, wl, rfl, hs, ⟨ov', h1⟩, rfl, F1, F0⟩
    exact ⟨none, 0, 0, S, rfl, zP_nums _, Nat.le_refl _, by decide, ⟨m, ov', ps.eraseIdx i, h1.setRow (not_g6 hT.lt hs fun k hk => .inl hk) _, hR.erase i, hr, rels_erase_len (l := st.l) hl, later_ok ht⟩, fun k hk => .inl hk, fs_fin F0 F1 _⟩
  by_cases c2 : a.2.any (badP (p, xs)) = true
  · rw [if_pos c2]
    refine fails 3 (by decide) fun w1 q w2 hM hx2 => ?_
    obtain ⟨rfl, -, hTC⟩ := hM
    have h9 := hpp hTC
    refine (padd_bad x.q w2 x.began x.v x.es p A n c xs h9.hdr h9.own (gp_kx h9 hra.gp) hk hx2 hra.few hn c1' (badE.trans c2)).mono ?_
    rintro e w3 ⟨rfl, hb3⟩
    exact ⟨rfl, hTC.below hb3, Fs.below hb3⟩
  rw [if_neg c2]
  have c2' : x.es.any (fun x => clashP x.pc (p, xs)) = false := by rw [badE]; simpa using c2
  by_cases c3 : 64 ≤ a.2.length
  · rw [if_pos c3]
    refine fails 5 (by decide) fun w1 q w2 hM hx2 => ?_
    obtain ⟨rfl, -, hTC⟩ := hM
    have h9 := hpp hTC
    refine (padd_many x.q w2 x.began x.v x.es p A n c xs h9.hdr h9.own (gp_kx h9 hra.gp) hk hx2 hra.few hn c1' c2' (by have := hra.few; omega)).mono ?_
    rintro e w3 ⟨rfl, hb3⟩
    exact ⟨rfl, hTC.below hb3, Fs.below hb3⟩
  rw [if_neg c3]
  -- it is let in
  have HAd : ∀ w1 q w2, (q = x.q ∧ w1.heap.size ≤ w2.heap.size ∧ TC w2 S t st.room (laterT st.t now) m ov ps) → Nums .u8 w2 w2.heap.size A n xs → Calls Try.prog 31 #[ptr q, .agg (pktV p A n c)] w2 (fun e w3 => e = .returned (.int .i64 0) ∧ (∃ x' S3, q = x'.q ∧ w1.heap.size ≤ w3.heap.size ∧ TC w3 S3 t st.room (laterT st.t now) m ov (ps.set i x') ∧ (∀ k, S3 k → Zf S w1 k) ∧ Grew a x x' (p, xs)) ∧ Fs (Zf S w1) w2 w3) := fun w1 q w2 hM hx2 => by
    obtain ⟨rfl, hs, hTC⟩ := hM
    have h9 := hpp hTC
    refine (padd_tab w2 S t st.room (laterT st.t now) m ov ps i x p A n c xs hTC hxi (gp_kx h9 hra.gp) hk hb hx2 hn c1' c2' (by omega)).mono ?_
    rintro e w3 ⟨rfl, x', A1, c1, h1, h2, h3, h4, h5, h6, h7⟩
    refine ⟨rfl, ⟨x', _, h2.symm, Nat.le_trans hs h7.size, h1, fun k hk2 => ?_, ⟨h2, h3, h4, ⟨_, rfl, h5⟩, h6⟩⟩, fs_zf h7 fun k hk => .inl hk⟩
    rcases hk2 with hk2 | hk2
    · exact .inl hk2
    · exact .inr (Nat.le_trans hs hk2.1)
  have hmem : ∀ {x' : Pp}, x' ∈ ps.set i x' := fun {x'} => List.mem_iff_getElem?.2 ⟨i, by rw [List.getElem?_set, if_pos rfl, if_pos (List.getElem?_eq_some_iff.1 hxi).1]⟩
  have HAl : ∀ (al : Bool), (∀ x', Grew a x x' (p, xs) → allP (x'.es.map Pe.pc) = al) → ∀ (w1 : World) (q : Nat) (w3 : World), (∃ x' S3, q = x'.q ∧ w1.heap.size ≤ w3.heap.size ∧ TC w3 S3 t st.room (laterT st.t now) m ov (ps.set i x') ∧ (∀ k, S3 k → Zf S w1 k) ∧ Grew a x x' (p, xs)) →
      Calls Try.prog 32 #[ptr q] w3 (fun e w4 => e = .returned (.bool al) ∧ (∃ x' S3, q = x'.q ∧ w1.heap.size ≤ w4.heap.size ∧ TC w4 S3 t st.room (laterT st.t now) m ov (ps.set i x') ∧ (∀ k, S3 k → Zf S w1 k) ∧ Grew a x x' (p, xs)) ∧ Fs (Zf S w1) w3 w4) := fun al hal w1 q w3 hM => by
    obtain ⟨x', S3, rfl, hs, h1, h2, h3⟩ := hM
    have h9 := h1.parts x' hmem
    have hg := h3.gp hra hy
    refine (all_any x'.q w3 x'.began x'.v x'.es h9.hdr h9.own (gp_kx h9 hg) (by rw [h3.len]; omega) (by rw [h3.len]; omega)).mono ?_
    rintro e w4 ⟨rfl, hb4⟩
    exact ⟨by rw [hal x' h3], ⟨x', S3, rfl, Nat.le_trans hs hb4.size, h1.below hb4, h2, h3⟩, Fs.below hb4⟩
  cases hj : joinedP (a.2 ++ [(p, xs)]) with
  | none =>
    simp only
    have hal : ∀ x', Grew a x x' (p, xs) → allP (x'.es.map Pe.pc) = false := fun x' hx' => by
      have := hx'.joined hra hy c2'
      rw [hj] at this
      cases h9 : allP (x'.es.map Pe.pc)
      · rfl
      · rw [h9, if_pos rfl] at this; cases this
    have key := add_waits w S t st.room st.t now m ov ps p A n c xs hT ht hnw hp hx hsx hn _ _ _ hy.may hy.nw hpos HBg HAd (HAl false hal)
    refine Calls.mono key ?_
    rintro e w' ⟨w1, q, wl, rfl, hs, ⟨x', S3, -, -, h1, h2, h3⟩, rfl, F1, F0⟩
    refine ⟨none, 0, 0, S3, rfl, zP_nums _, Nat.le_refl _, by decide, ⟨m, ov, ps.set i x', h1.setRow (not_g6 hT.lt hs h2) _, hR.set i ?_, hr, by rw [List.length_set]; exact hl, later_ok ht⟩, zf_new hs h2, fs_fin F0 F1 _⟩
    refine ⟨hra.b.trans h3.b.symm, h3.perm hra, h3.sort, h3.nb hra hy c2', fun e => ?_, by rw [h3.len]; omega, h3.gp hra hy, fun e he => ?_, hal x' h3⟩
    · have := h3.len; rw [e] at this; cases this
    · obtain ⟨e1, g1, g2⟩ := h3.es
      rw [h3.nm]
      rcases List.mem_append.1 (g2.mem_iff.1 he) with he | he
      · exact hra.nm e he
      · obtain rfl := List.mem_singleton.1 he
        rw [hnm, show e.p = p from congrArg Prod.fst g1]
  | some r =>
    simp only
    have hal : ∀ x', Grew a x x' (p, xs) → allP (x'.es.map Pe.pc) = true ∧ r = outP ((x'.es.map Pe.pc).headD zPc) ((x'.es.map Pe.pc).flatMap (·.2)) := fun x' hx' => by
      have := hx'.joined hra hy c2'
      rw [hj] at this
      cases h9 : allP (x'.es.map Pe.pc)
      · rw [h9, if_neg (by decide)] at this; cases this
      · rw [h9, if_pos rfl] at this
        exact ⟨rfl, Option.some.inj this⟩
    have hrok : r.1.Ok := by
      obtain ⟨-, z, hz, hz2⟩ := join_in _ _ [] zPc r (fun k hk => by simp at hk) (.inl rfl) hj
      rw [hz2]
      refine outP_ok ?_ _
      rcases List.mem_append.1 hz with hz | hz
      · obtain ⟨e, he, rfl⟩ := List.mem_map.1 (hra.perm.mem_iff.2 hz)
        have h9 := hT.parts x (List.mem_of_getElem? hxi)
        exact (h9.lds e he).2.1.p
      · obtain rfl := List.mem_singleton.1 hz
        exact hp
    have key := add_comes w S t st.room st.t now m ov ps p A n c xs hT ht hnw hp hx hsx hn _ _ _
      (fun w1 q w5 => ∃ x' S3 ov', q = x'.q ∧ w1.heap.size ≤ w5.heap.size ∧ TC w5 S3 t st.room (laterT st.t now) m ov' (ps.eraseIdx i) ∧ PpAt w5 S3 x' ∧ (∀ k, S3 k → Zf S w1 k) ∧ Grew a x x' (p, xs))
      (fun w1 w6 A' k c' => ∃ S3 ov', TC w6 S3 t st.room (laterT st.t now) m ov' (ps.eraseIdx i) ∧ (∀ k, S3 k → Zf S w1 k) ∧ memC.Own .u8 5 w6 w1.heap.size (.slice A' k c') r.2 ∧ k ≤ c' ∧ c' ≤ maxLen)
      r.1 hrok hy.may hy.nw hpos HBg HAd (HAl true fun x' hx' => (hal x' hx').1)
      (fun w1 q w4 hM => by
        obtain ⟨x', S3, rfl, hs, h1, h2, h3⟩ := hM
        have h9 := drop_full w4 S3 t st.room (laterT st.t now) m ov (ps.set i x') i x' h1 (by rw [List.getElem?_set, if_pos rfl, if_pos (List.getElem?_eq_some_iff.1 hxi).1]) (by rw [List.length_set]; exact hps64)
        rw [h3.nm, hnm, erase_set] at h9
        refine h9.mono ?_
        rintro e w5 ⟨rfl, ⟨ov', h4⟩, h5, h6⟩
        exact ⟨rfl, ⟨x', S3, ov', rfl, Nat.le_trans hs h5.size, h4, h6, h2, h3⟩, fs_zf h5 h2⟩)
      (fun w1 q w5 hM => by
        obtain ⟨x', S3, ov', rfl, hs, h4, h6, h2, h3⟩ := hM
        have hg := h3.gp hra hy
        have hkx := gp_kx h6 hg
        obtain ⟨e0, hh0⟩ : ∃ e0, x'.es[0]? = some e0 := ⟨_, List.getElem?_eq_getElem (by rw [h3.len]; omega)⟩
        obtain ⟨hal1, hal2⟩ := hal x' h3
        have hhead : (x'.es.map Pe.pc).headD zPc = e0.pc := by
          cases hc : x'.es with
          | nil => rw [hc] at hh0; cases hh0
          | cons y ys => rw [hc] at hh0; simp at hh0; subst hh0; rfl
        rw [hhead] at hal2
        have hcont : contP 0 (x'.es.map Pe.pc) = true := by
          unfold allP at hal1
          simp only [Bool.and_eq_true] at hal1
          exact hal1.1
        have h0 : e0.p.off = 0 := by
          cases hc : x'.es with
          | nil => rw [hc] at hh0; cases hh0
          | cons y ys =>
            rw [hc] at hh0 hcont; simp at hh0; subst hh0
            rw [List.map_cons, contP] at hcont
            simp only [Bool.and_eq_true, decide_eq_true_eq] at hcont
            exact hcont.1
        have hem := List.mem_of_getElem? hh0
        have hjk : joinK e0.p = r.1 := by
          rw [hal2]
          exact join_out (n := e0.n) (xs := e0.x) (.inr (hg e0 hem).whole) h0 _
        have hr2 : r.2 = catL (x'.es.map ldP) := by rw [hal2, flat_cat]; rfl
        have hsum : nsum (x'.es.map ldP) ≤ 1000000 := by
          rw [← flat_sum fun e he => (hkx e he).l]
          have h8 := cont_sum _ 0 hcont
          have h7 : nxtP 0 (x'.es.map Pe.pc) ≤ 65535 := by
            have : ∀ (l : List Pc) (b : Int), (∀ z ∈ l, endP z ≤ 65535) → b ≤ 65535 → nxtP b l ≤ 65535 := by
              intro l
              induction l with
              | nil => intro b _ hb9; exact hb9
              | cons z zs ih => intro b hz hb9; exact ih (endP z) (fun u hu => hz u (by simp [hu])) (hz z (by simp))
            refine this _ 0 (fun z hz => ?_) (by decide)
            obtain ⟨e, he, rfl⟩ := List.mem_map.1 hz
            exact (hg e he).end9
          omega
        refine (whole_any x'.q w5 x'.began x'.v x'.es h6.hdr h6.own hkx (by rw [h3.len]; omega) (by rw [h3.len]; omega) (ld_nums h6 hg) e0 hh0 _ rfl hsum).mono ?_
        rintro e w6 ⟨A', c', rfl, g1, g2, g3, g4⟩
        rw [hjk]
        rw [← hr2] at g1
        exact ⟨A', _, c', rfl, ⟨S3, ov', h4.below g4, h2, g1.less hs, g2, g3⟩, Fs.below g4⟩)
    refine Calls.mono key ?_
    rintro e w' ⟨w1, wl, A', k, c', rfl, hs, ⟨S3, ov', h1, h2, h3, h4, h5⟩, rfl, F1, F0⟩
    have hkl := own_len h3
    refine ⟨A', k, c', S3, rfl, ?_, h4, by unfold maxLen at h5; omega, ⟨m, ov', ps.eraseIdx i, h1.setRow (not_g6 hT.lt hs h2) _, hR.erase i, hr, rels_erase_len (l := st.l) hl, later_ok ht⟩, zf_new hs h2, fs_fin F0 F1 _⟩
    exact (h3.keep (w' := wl.setRow (w.heap.size + 1) (pktV r.1 A' k c')) fun g g1 g2 => setRow_other _ _ _ _ (by omega)).nums
end
end Go.Proofs.Ytcnnpfjommiafaa.fgC

/-
  What the laws ask of the program's functions holds.
-/
namespace Go.Proofs.Ytcnnpfjommiafaa.fgC
open Go.ChangeShapes Go.WideShapes Go.ChangeAt Go.RowKit
open Go.Proofs.Ytcnnpfjommiafaa.memC Go.Proofs.Ytcnnpfjommiafaa.genC Go.Proofs.Ytcnnpfjommiafaa.butC Go.Proofs.Ytcnnpfjommiafaa.freeC Go.Proofs.Ytcnnpfjommiafaa.adC
open Go.Proofs.Ytcnnpfjommiafaa.pkC (Pkt pktL pktV pktT adrC)
set_option linter.unusedVariables false
theorem tadd {w : World} {S : Nat → Prop} {t : Nat} {st : TSt} {now : Int} {p : Pkt} {A : Option Addr} {n c : Nat} {xs : List Int} (h : Tb w S t st) (hnw : -9223372036854775808 ≤ now ∧ now ≤ 9223372036854775807) (hp : p.Ok) (hx : Nums .u8 w w.heap.size A n xs) (hsx : 0 < n → ∀ k, S k → ∀ i, A ≠ some ⟨k, i, none⟩) (hb : ∀ x ∈ xs, Byte x) (hn : n ≤ 70000) :
    AddCall w t now p A n c (AddR Tb w S t (addR st now (p, xs)) (addT st now (p, xs))) := by
  obtain ⟨room, t0, l⟩ := st
  unfold addR addT
  by_cases he : (!mayP (p, xs) || (!wholeP (p, xs) && decide (xs.length = 0))) = true
  · have e : addP ⟨room, laterT t0 now, l⟩ (p, xs) = ((zPc, false, 3), l) := by
      unfold addP
      rw [if_pos he]
    rw [e]
    exact tadd_err h hnw hp hx hsx hn he
  have he' : (!mayP (p, xs) || (!wholeP (p, xs) && decide ((p, xs).2.length = 0))) = false := by simpa using he
  by_cases hw : wholeP (p, xs) = true
  · have hm : mayP (p, xs) = true := by
      cases hm : mayP (p, xs)
      · rw [hm] at he'; simp at he'
      · rfl
    have e : addP ⟨room, laterT t0 now, l⟩ (p, xs) = ((if p.s = true then outP (p, xs) xs else (p, xs), true, 0), l) := by
      unfold addP
      rw [if_neg (by rw [he']; decide), if_pos hw]
    rw [e]
    exact tadd_whole h hnw hp hx hsx hn hm hw
  have hw' : wholeP (p, xs) = false := by simpa using hw
  have hy : GP (p, xs) := by
    rw [hw'] at he'
    simp only [Bool.not_false, Bool.true_and, Bool.or_eq_false_iff, Bool.not_eq_false', decide_eq_false_iff_not] at he'
    exact ⟨he'.1, hw', Nat.pos_of_ne_zero he'.2⟩
  cases hf : l.findIdx? (nameT (p, xs)) with
  | none =>
    have e := addP_new (st := ⟨room, laterT t0 now, l⟩) he' hw' hf
    rw [e]
    exact tadd_new h hnw hp hx hb hsx hn hy hf
  | some i =>
    obtain ⟨hi, hname, -⟩ := List.findIdx?_eq_some_iff_getElem.1 hf
    have hg : l.getD i (0, []) = l[i] := by rw [List.getD_eq_getElem?_getD, List.getElem?_eq_getElem hi]; rfl
    have e := addP_found (st := ⟨room, laterT t0 now, l⟩) he' hw' hf hg
    rw [e]
    exact tadd_found h hnw hp hx hb hsx hn hy (List.getElem?_eq_getElem hi) hname
theorem frF : FrF Tb where
  cut := ccutp_any
  keep := fun w w' S t st h hs hk => by
    obtain ⟨m, ov, ps, hT, h2⟩ := h
    exact ⟨m, ov, ps, hT.keep hk hs, h2⟩
  lt := fun w S t st h => by
    obtain ⟨m, ov, ps, hT, h2⟩ := h
    exact hT.lt
  new := fun room w h1 h2 => by
    refine (new_any room w ⟨h1, h2⟩).mono ?_
    rintro e w' ⟨t, m, rfl, hT, g1, g2, hb⟩
    exact ⟨t, _, rfl, ⟨m, _, [], hT, .nil, ⟨h1, h2⟩, by show (0 : Int) ≤ room; omega, by show -9223372036854775808 ≤ (0 : Int) ∧ (0 : Int) ≤ 9223372036854775807; decide⟩, fun k hk => by rcases hk with rfl | rfl <;> assumption, hb⟩
  no := fun room w _ h => new_no room w h
  add := fun w S t st now p A n c xs h hnw hp hx hsx hb _ _ hn => tadd h hnw hp hx hsx hb hn
  len := fun w S t st h => by
    obtain ⟨m, ov, ps, hT, hR, h2⟩ := h
    rw [hR.len]
    exact len_any w S t st.room st.t m ov ps hT
theorem aliveF : Alive := alive_any frF
end Go.Proofs.Ytcnnpfjommiafaa.fgC
