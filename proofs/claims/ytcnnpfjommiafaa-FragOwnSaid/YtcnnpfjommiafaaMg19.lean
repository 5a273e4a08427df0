/-
  6 texts of a proof, joined.
-/
import Derived.Test.YtcnnpfjommiafaaMg15
import Derived.Test.YtcnnpfjommiafaaMg4
import Derived.Test.YtcnnpfjommiafaaMg32
import Derived.BigQuiet
import Derived.LaidEqlPtr
import Derived.Test.YtcnnpfjommiafaaMg12
import Derived.Maps.AppendAt
import Derived.Great.BuildSlice

/-
  A table in memory; whether it was made, its time, how many packets it has; a packet goes.
-/
namespace Go.Proofs.Ytcnnpfjommiafaa.fgC
open Go.ChangeShapes Go.WideShapes Go.ChangeAt Go.RowKit
open Go.Proofs.Ytcnnpfjommiafaa.memC Go.Proofs.Ytcnnpfjommiafaa.genC Go.Proofs.Ytcnnpfjommiafaa.butC Go.Proofs.Ytcnnpfjommiafaa.freeC Go.Proofs.Ytcnnpfjommiafaa.adC
open Go.Proofs.Ytcnnpfjommiafaa.pkC (Pkt pktL pktV pktT adrC)
set_option linter.unusedVariables false
/-! ### operations of a region that draws its order, that read -/
section
variable {P : Program} {ops : Array Oper} {C : World → Prop} {Q : Act → Prop} {a : Act} {o : Oper} {rest : List Oper}
theorem quiet_run {K : Act → Prop} (v : Value) (h : ∀ w, C w → (execOp a.eval o).run P w = .ok (.value v) w) (hk : K (a.put o.dst v)) : o.quiet P a C K :=
  ⟨v, fun w hw => by unfold Oper.quietAt; rw [h w hw]; exact ⟨rfl, rfl⟩, hk⟩
theorem wpQuiet_run (hg : o.guard = none) (v : Value) (h : ∀ w, C w → (execOp a.eval o).run P w = .ok (.value v) w) (hk : wpQuiet P ops C Q rest (a.put o.dst v)) : wpQuiet P ops C Q (o :: rest) a :=
  BigFrame.wpQuiet_want (by simp [Region.wanted, hg]) fun K hK => quiet_run v h (hK _ hk)
theorem wpQuiet_row (hg : o.guard = none) (ty : TypeId) (x : Operand) (ho : o.op = .load ty x) (g : Nat) (hx : a.eval x = .pointer (some ⟨g, 0, none⟩)) (t : TypeId) (cs : Array Value) (fr : Nat × Nat) (d : TypeDesc) (hr : ∀ w, C w → w.heap[g]? = some (.cells cs t fr))
    (hu : P.underlying ty = some d) (hd : (match d with | .struct _ | .array _ _ => true | _ => false) = true) (hi : (P.info? ty).map (·.size) = some cs.size)
    (h : wpQuiet P ops C Q rest (a.put o.dst (.agg cs))) : wpQuiet P ops C Q (o :: rest) a :=
  wpQuiet_run hg _ (fun w hw => by
    unfold execOp
    simp only [ho, hx, Instr.loadAt, Instr.sureAddr, Sem.run_bind, Sem.run_pure, Result.andThen_ok, run_loadVar_row w g t ty cs fr d (hr w hw) hu hd hi]) h
end
/-- a region that draws its order, whose operations read or lay blocks -/
theorem region_gr {P : Program} {id : Nat} {Q : Exit → Act → World → Prop} {a : Act} {w : World} {l : List Oper} (hm : P.follows .mixedOrders = true) (hB : Region.lexB .any l.toArray = true)
    (h : wpQuiet P l.toArray (Gr w) (fun a' => ∀ w', Gr w w' → Q .normal a' w') l a) : (Code.region id l.toArray true).wp P Q a w :=
  wp_region_quiet (C := Gr w) hm hB ⟨rfl, rfl, rfl, Nat.le_refl _, fun _ _ => rfl⟩ (by simpa using h)
/-! ### a table -/
/-- a packet in pieces, as it lies in memory -/
structure Pp where
  nm : Nm
  q : Nat
  v : Value
  es : List Pe
  began : Int
structure PpAt (w : World) (S : Nat → Prop) (x : Pp) : Prop where
  hdr : w.heap[x.q]? = some (.cells #[.int .i64 x.began, x.v] 79 (0, 0))
  sq : S x.q
  sg : ∀ g, x.v.ownBlock = some g → S g
  own : OwnK w 0 x.v x.es
  lds : ∀ e ∈ x.es, memC.Own .u8 5 w 0 (.slice e.A e.n e.c) e.x ∧ e.Ok ∧ ∀ b, (Value.slice e.A e.n e.c).ownBlock = some b → S b
/-- what a table holds, in memory -/
structure TC (w : World) (S : Nat → Prop) (t : Nat) (room now : Int) (m : Nat) (ov : Value) (ps : List Pp) : Prop where
  row : w.heap[t]? = some (.cells #[.pointer (some ⟨t, 0, none⟩), .int .i64 room, .int .i64 now, .map (some m), ov] 58 (0, 0))
  st : S t
  sm : S m
  map : MapAt w m (ps.map fun x => (x.nm, x.q))
  ord : w.ownsRow 0 72 36 ov (ps.map Pp.nm).length (flatN (ps.map Pp.nm))
  so : ∀ g, ov.ownBlock = some g → S g
  parts : ∀ x ∈ ps, PpAt w S x
  qnd : (ps.map Pp.q).Nodup
  gnd : ps.Pairwise fun x y => ∀ g, x.v.ownBlock = some g → y.v.ownBlock ≠ some g
  nnd : (ps.map Pp.nm).Nodup
  nok : ∀ x ∈ ps, x.nm.Ok
  lt : ∀ k, S k → k < w.heap.size
section
variable {w w' : World} {S S' : Nat → Prop} {t m : Nat} {room now : Int} {ov : Value} {ps : List Pp} {x : Pp} {k0 : Nat}
theorem own_row_same {base T c k : Nat} {v : Value} {l : List Value} (h : w.ownsRow base T c v k l) (hk : ∀ g, v.ownBlock = some g → w'.heap[g]? = w.heap[g]?) : w'.ownsRow base T c v k l := by
  refine ⟨h.1, ?_⟩
  rcases h.2 with h0 | ⟨g, cap, cur, e1, hb, hh, h'⟩
  · exact .inl h0
  · exact .inr ⟨g, cap, cur, e1, hb, (hk g (by rw [e1]; rfl)).trans hh, h'⟩
theorem PpAt.mono (h : PpAt w S x) (hS : ∀ k, S k → S' k) : PpAt w S' x := ⟨h.hdr, hS _ h.sq, fun g hg => hS _ (h.sg g hg), h.own, fun e he => ⟨(h.lds e he).1, (h.lds e he).2.1, fun b hb => hS _ ((h.lds e he).2.2 b hb)⟩⟩
theorem PpAt.keep (h : PpAt w S x) (hk : ∀ k, S k → w'.heap[k]? = w.heap[k]?) : PpAt w' S x :=
  ⟨(hk _ h.sq).trans h.hdr, h.sq, h.sg, own_row_same h.own fun g hg => hk _ (h.sg g hg),
    fun e he => ⟨own_row_same (h.lds e he).1 fun g hg => hk _ ((h.lds e he).2.2 g hg), (h.lds e he).2⟩⟩
/-- .. while one block turns that is none of its own -/
theorem PpAt.but (h : PpAt w S x) (hk : ∀ k, S k → k ≠ k0 → w'.heap[k]? = w.heap[k]?) (hq : x.q ≠ k0) (hg : ∀ g, x.v.ownBlock = some g → g ≠ k0) (h8 : ∀ cs fr, w.heap[k0]? ≠ some (.cells cs 5 fr)) : PpAt w' S x := by
  refine ⟨(hk _ h.sq hq).trans h.hdr, h.sq, h.sg, own_row_same h.own fun g hg' => ?_, fun e he => ⟨own_row_same (h.lds e he).1 fun g hg' => hk _ ((h.lds e he).2.2 g hg') fun e2 => ?_, (h.lds e he).2⟩⟩
  · exact hk _ (h.sg g hg') (hg g hg')
  · subst e2
    rcases (h.lds e he).1.2 with ⟨e1, -⟩ | ⟨g2, cap, cur, e1, -, hh, -⟩
    · rw [e1] at hg'; cases hg'
    · rw [e1] at hg'
      cases hg'
      exact h8 _ _ hh
theorem PpAt.gtype (h : PpAt w S x) {g : Nat} (hg : x.v.ownBlock = some g) : ∃ cur, w.heap[g]? = some (.cells cur 28 (0, 0)) := by
  rcases h.own.2 with ⟨e1, -⟩ | ⟨g2, cap, cur, e1, -, hh, -⟩
  · rw [e1] at hg; cases hg
  · rw [e1] at hg
    cases hg
    exact ⟨cur, hh⟩
theorem TC.keep (h : TC w S t room now m ov ps) (hk : ∀ k, S k → w'.heap[k]? = w.heap[k]?) (hs : w.heap.size ≤ w'.heap.size) : TC w' S t room now m ov ps :=
  ⟨(hk _ h.st).trans h.row, h.st, h.sm, h.map.same (hk _ h.sm), own_row_same h.ord fun g hg => hk _ (h.so g hg), h.so, fun x hx => (h.parts x hx).keep hk, h.qnd, h.gnd, h.nnd, h.nok, fun k hk2 => Nat.lt_of_lt_of_le (h.lt k hk2) hs⟩
theorem TC.below (h : TC w S t room now m ov ps) (hb : Below w.heap.size w w') : TC w' S t room now m ov ps := h.keep (fun k hk => hb.block k (h.lt k hk)) hb.size
theorem ord_type {k : Nat} {l : List Value} (h : w.ownsRow 0 72 36 ov k l) : ∀ g, ov.ownBlock = some g → ∃ cur, w.heap[g]? = some (.cells cur 72 (0, 0)) := by
  intro g hg
  rcases h.2 with ⟨e1, -⟩ | ⟨g2, cap, cur, e1, -, hh, -⟩
  · rw [e1] at hg; cases hg
  · rw [e1] at hg
    cases hg
    exact ⟨cur, hh⟩
/-- a field of the table turns -/
theorem TC.setNow (h : TC w S t room now m ov ps) (now' : Int) : TC (w.setCell ⟨t, 2, none⟩ (.int .i64 now')) S t room now' m ov ps := by
  have ho : ∀ k, k ≠ t → (w.setCell ⟨t, 2, none⟩ (.int .i64 now')).heap[k]? = w.heap[k]? := fun k hk => Below.heap_setCell _ _ _ _ hk
  have ht : ∀ cs fr, w.heap[t]? ≠ some (.cells cs 5 fr) := fun cs fr e => by rw [h.row] at e; cases e
  refine ⟨heap_setCell_same w t 2 _ _ _ h.row, h.st, h.sm, h.map.same (ho _ fun e => ?_), own_row_same h.ord fun g hg => ho _ fun e => ?_, h.so, fun x hx => (h.parts x hx).but (k0 := t) (fun k _ hk => ho k hk) (fun e => ?_) (fun g hg e => ?_) ht, h.qnd, h.gnd, h.nnd, h.nok, fun k hk => by rw [show (w.setCell ⟨t, 2, none⟩ (.int .i64 now')).heap.size = w.heap.size by simp [World.setCell]]; exact h.lt k hk⟩
  · obtain ⟨es, cl, hb, -⟩ := h.map
    rw [e, h.row] at hb; cases hb
  · obtain ⟨cur, hc⟩ := ord_type h.ord g hg
    rw [e, h.row] at hc; cases hc
  · have := (h.parts x hx).hdr
    rw [e, h.row] at this; cases this
  · obtain ⟨cur, hc⟩ := (h.parts x hx).gtype hg
    rw [e, h.row] at hc; cases hc
end
theorem fs_but {S : Nat → Prop} {k : Nat} {w w' : World} (h : But k w w') (hk : S k) : Fs S w w' := ⟨h.os, h.tape, h.output, h.size, fun j hj hn => h.block j hj fun e => hn (e ▸ hk)⟩
/-! ### small ones -/
theorem tbl_info : (Try.prog.info? 58).isSome = true := by kernel_rfl
set_option maxRecDepth 100000 in
theorem made_any (w : World) (S : Nat → Prop) (t : Nat) (room now : Int) (m : Nat) (ov : Value) (ps : List Pp) (h : TC w S t room now m ov ps) : Calls Try.prog 27 #[.pointer (some ⟨t, 0, none⟩)] w fun e w' => e = .returned (.bool true) ∧ w' = w := by
  have c0 : w.cell? ⟨t, 0, none⟩ = some (.pointer (some ⟨t, 0, none⟩)) := cell_of_row w t 0 _ _ (0, 0) h.row
  obtain ⟨j, hj⟩ := Option.isSome_iff_exists.1 tbl_info
  have he : (binOp .eql 39 (.pointer (some ⟨t, 0, none⟩)) (.pointer (some ⟨t, 0, none⟩))).run Try.prog w = .ok (.bool true) w := run_eql_ptr_same w _ Try.underlying39 hj
  clear h hj
  go_enter Try.func27, Try.ntmps27
  go_wp2
  go_ret
  exact ⟨rfl, rfl⟩
set_option maxRecDepth 100000 in
theorem len_any (w : World) (S : Nat → Prop) (t : Nat) (room now : Int) (m : Nat) (ov : Value) (ps : List Pp) (h : TC w S t room now m ov ps) : Calls Try.prog 18 #[.pointer (some ⟨t, 0, none⟩)] w (Ret w (.int .i64 (ps.length : Nat))) := by
  have c3 : w.cell? ⟨t, 3, none⟩ = some (.map (some m)) := cell_of_row w t 3 _ _ (0, 0) h.row
  have MD := Lib.hid (made_any w S t room now m ov ps h)
  have hl : ∀ ty, (Builtin.len_ #[55] ty #[.map (some m)]).run Try.prog w = .ok (.int .i64 (ps.length : Nat)) w := fun ty => by have := run_mlen h.map ty; rwa [List.length_map] at this
  clear h
  go_enter Try.func18, Try.ntmps18
  go_wp2_with (go_at_call 27; refine MD.out.mono ?_; rintro e w2 ⟨rfl, hw⟩; obtain rfl := hw.symm)
  go_ret
  exact ⟨rfl, Below.refl _ _⟩
set_option maxRecDepth 100000 in
/-- the time is told -/
theorem tell_any (w : World) (S : Nat → Prop) (t : Nat) (room now x : Int) (m : Nat) (ov : Value) (ps : List Pp) (h : TC w S t room now m ov ps) (hn : -9223372036854775808 ≤ now ∧ now ≤ 9223372036854775807) (hx : -9223372036854775808 ≤ x ∧ x ≤ 9223372036854775807) : Calls Try.prog 28 #[.pointer (some ⟨t, 0, none⟩), .int .i64 x] w fun e w' => e = .returned (.tuple #[]) ∧ TC w' S t room (laterT now x) m ov ps ∧ But t w w' := by
  have c2 : w.cell? ⟨t, 2, none⟩ = some (.int .i64 now) := cell_of_row w t 2 _ _ (0, 0) h.row
  have f2 : w.frozen? ⟨t, 2, none⟩ = false := frozen_of_row w t 2 _ _ h.row
  have H := Lib.hid h
  by_cases hq : x ≤ 1099511627776
  · have e1 : laterT now x = if now < x then x else now := by
      unfold laterT
      by_cases h1 : now < x
      · rw [if_pos ⟨h1, hq⟩, if_pos h1]
      · rw [if_neg (fun h2 => h1 h2.1), if_neg h1]
    obtain ⟨r, hr⟩ : ∃ r, r = laterT now x := ⟨_, rfl⟩
    rw [← hr]
    rw [e1] at hr
    have hr2 : (if now < x then x else now) = r := hr.symm
    have hr3 : max now x = r := by rw [← hr2]; split <;> omega
    have HR := Lib.hid hr
    clear h hn hx e1 hr
    go_enter Try.func28, Try.ntmps28
    go_wp2
    go_end0
    exact ⟨rfl, H.out.setNow r, (But.refl w).setCell 2 _⟩
  · have e1 : laterT now x = now := by unfold laterT; rw [if_neg (fun h2 => hq h2.2)]
    rw [e1]
    clear h hn hx e1
    go_enter Try.func28, Try.ntmps28
    go_wp2
    go_end0
    exact ⟨rfl, H.out, But.refl _⟩
end Go.Proofs.Ytcnnpfjommiafaa.fgC

/-
  As Last, where the last operation waits for some of the others, and each of these is waited for by a later one; of any class of worlds.
-/
namespace Go.Proofs.Ytcnnpfjommiafaa.lastC
open Go.ChangeShapes Go.WideShapes Go.ChangeAt Go.RowKit
set_option linter.unusedVariables false
section
variable {P : Program} {L l : List Oper} {o : Oper} {C : World → Prop} {m mh : Array Bool}
/-- each of the first n is waited for by a later one -/
def covL (n : Nat) (L : List Oper) : Bool := (List.range n).all fun i => (List.range (n + 1)).any fun j => decide (i < j) && (match L[j]? with | some o => o.after.any (fun e => Region.binds .any e && (e.on == i)) | none => false)
/-- what has been done, for that all has been done for which it waits -/
def Cl (l : List Oper) (mh : Array Bool) : Prop := ∀ (i : Nat) (o' : Oper), l[i]? = some o' → mh.getD i false = true → ∀ e ∈ o'.after, Region.binds .any e = true → mh.getD e.on false = true
theorem covL_spec {n : Nat} (h : covL n L = true) {i : Nat} (hi : i < n) : ∃ j oj, i < j ∧ j ≤ n ∧ L[j]? = some oj ∧ ∃ e ∈ oj.after, Region.binds .any e = true ∧ e.on = i := by
  have h1 := List.all_eq_true.1 h i (List.mem_range.2 hi)
  obtain ⟨j, hj, h2⟩ := List.any_eq_true.1 h1
  simp only [Bool.and_eq_true, decide_eq_true_eq] at h2
  obtain ⟨hij, h3⟩ := h2
  cases hL : L[j]? with
  | none => rw [hL] at h3; cases h3
  | some oj =>
    rw [hL] at h3
    obtain ⟨e, he, hb⟩ := Array.any_eq_true'.1 h3
    simp only [Bool.and_eq_true, beq_iff_eq] at hb
    exact ⟨j, oj, hij, by have := List.mem_range.1 hj; omega, hL, e, he, hb.1, hb.2⟩
theorem ready_cov (hc : covL l.length (l ++ [o]) = true) (hcl : Cl l mh) (M : Marks l.length m mh) (hr : l.length ∈ Region.ready .any (l ++ [o]).toArray m) : ∀ k i, i < l.length → l.length - i ≤ k → mh.getD i false = true
  | 0, i, hi, hk => by omega
  | k + 1, i, hi, hk => by
    obtain ⟨j, oj, hij, hjn, hj, e, he, hb, rfl⟩ := covL_spec hc hi
    by_cases ej : j = l.length
    · obtain ⟨_, o', ho', hall⟩ := mem_ready.1 hr
      rw [last_at] at ho'
      cases ho'
      subst ej
      rw [show (l ++ [o])[l.length]? = some o by simp] at hj
      cases hj
      have h1 := hall e he hb
      rwa [M.getD hi false] at h1
    · have hjl : j < l.length := by omega
      rw [List.getElem?_append_left hjl] at hj
      exact hcl j oj hj (ready_cov hc hcl M hr k j hjl (by omega)) e he hb
variable {Q : Exit → Act → World → Prop} {a : Act} {w : World}
theorem any_of_headC (hb : backB (l ++ [o]) = true) (hw : covL l.length (l ++ [o]) = true) : ∀ (f : Nat) (m mh : Array Bool) (a : Act) (w : World), Marks l.length m mh → Cl l mh → C w →
    wpAnyQ P .any l.toArray C (fun a' => ∀ w', C w' → wpOp P (l ++ [o]).toArray Q l.length (fun a' w' => Q .normal a' w') a' w') f mh a → wpAny P .any (l ++ [o]).toArray Q (f + 1) m a w
  | 0, m, mh, a, w, M, hcl, hc, h => any_last hb M (all_marked hb M h.1) (h.2 w hc) 0
  | f + 1, m, mh, a, w, M, hcl, hc, h => by
    by_cases hr : Region.ready .any l.toArray mh = []
    · exact any_last hb M (all_marked hb M hr) (h.1 hr w hc) (f + 1)
    · refine ⟨fun h0 => ?_, fun i hi => ?_⟩
      · exfalso
        obtain ⟨j, hj⟩ := List.exists_mem_of_ne_nil _ hr
        have hjl : j < l.length := by
          obtain ⟨_, o', ho', _⟩ := mem_ready.1 hj
          have : j < l.toArray.size := (Array.getElem?_eq_some_iff.1 ho').1
          simpa using this
        have := (ready_head hb M hjl).2 hj
        rw [h0] at this; cases this
      · have hle := ready_le hi
        by_cases e : i = l.length
        · subst e
          have hall := ready_cov hw hcl M hi
          exfalso
          obtain ⟨j, hj⟩ := List.exists_mem_of_ne_nil _ hr
          obtain ⟨h1, o', ho', _⟩ := mem_ready.1 hj
          have hjl : j < l.toArray.size := (Array.getElem?_eq_some_iff.1 ho').1
          have hjl2 : j < l.length := by simpa using hjl
          have h2 := hall l.length j hjl2 (by omega)
          have hs : j < mh.size := by rw [M.sizeh]; exact hjl2
          simp [hs] at h1 h2
          rw [h1] at h2; cases h2
        · have hil : i < l.length := by omega
          have hq := h.2 i ((ready_head hb M hil).1 hi)
          have hoi : (l ++ [o])[i]? = some (l[i]'hil) := by rw [List.getElem?_append_left hil]; exact List.getElem?_eq_getElem hil
          obtain ⟨hg, hback⟩ := backB_spec hb hoi
          have hwant : ∀ y, Region.wanted (l[i]'hil) y = true := fun y => by simp [Region.wanted, hg]
          have hcl' : Cl l (mh.setIfInBounds i true) := by
            intro j oj hj hm ed he hbd
            have hsz := M.sizeh
            have up : ∀ k, mh.getD k false = true → (mh.setIfInBounds i true).getD k false = true := fun k hk => by
              simp only [Array.getD_eq_getD_getElem?, Array.getElem?_setIfInBounds] at hk ⊢
              split
              · split <;> simp_all
              · exact hk
            by_cases ej : j = i
            · subst ej
              obtain ⟨_, o', ho', hall⟩ := mem_ready.1 ((ready_head hb M hil).1 hi)
              have ho2 : l[j]? = some o' := by simpa using ho'
              rw [hj] at ho2
              cases ho2
              exact up _ (hall ed he hbd)
            · have hm' : mh.getD j false = true := by
                simp only [Array.getD_eq_getD_getElem?, Array.getElem?_setIfInBounds] at hm ⊢
                rw [if_neg (fun h => ej h.symm)] at hm
                exact hm
              exact up _ (hcl j oj hj hm' ed he hbd)
          unfold qOp at hq
          simp only [List.getElem?_toArray, List.getElem?_eq_getElem hil, hwant, if_true] at hq
          unfold wpOp
          simp only [List.getElem?_toArray, hoi, hwant, if_true]
          exact .inl (Oper.wp_of_quiet hc (fun a' w' hc' h' => any_of_headC hb hw f _ _ a' w' (M.set hil) hcl' hc' h') hq)
theorem wp_region_lastC {id : Nat} (C : World → Prop) (n : Nat) (hm : P.follows .mixedOrders = true) (hB : Region.lexB .any (L.take n).toArray = true) (hb : backB L = true) (hw : (match L.drop n with | [_] => covL n L | _ => false) = true) (hC : C { w with drawn := w.drawn + 1 })
    (h : wpQuiet P (L.take n).toArray C (fun a' => ∀ w', C w' → wpList P L.toArray Q (L.drop n) a' w') (L.take n) a) : (Code.region id L.toArray true).wp P Q a w := by
  obtain ⟨o, ho, hwo⟩ : ∃ o, L.drop n = [o] ∧ covL n L = true := by
    revert hw
    cases hd : L.drop n with
    | nil => intro hw; cases hw
    | cons o r =>
      cases r with
      | nil => intro hw; exact ⟨o, rfl, hw⟩
      | cons _ _ => intro hw; cases hw
  have hL : L.take n ++ [o] = L := by rw [← ho]; exact List.take_append_drop n L
  have hn : (L.take n).length = n := by
    have h1 := congrArg List.length ho
    rw [List.length_drop] at h1
    rw [List.length_take]; simp at h1; omega
  obtain ⟨l, hl⟩ : ∃ l, l = L.take n := ⟨_, rfl⟩
  rw [← hl] at hL hn hB h
  rw [ho] at h
  subst hL
  subst hn
  simp only [Region.lexB, Bool.and_eq_true] at hB
  refine wp_region_any hm ?_
  have hx := wpAnyQ_lex (C := C) (md := .any) hB.1 l 0 (Array.replicate l.toArray.size false) a (by simp) (by simpa using hB.2) h
  have hfin := any_of_headC (P := P) (C := C) (Q := Q) hb hwo l.length (Array.replicate (l ++ [o]).toArray.size false) (Array.replicate l.toArray.size false) a { w with drawn := w.drawn + 1 }
    ⟨by simp, by simp, fun i hi => by simp only [Array.getElem?_replicate]; rw [if_pos (by simp; omega), if_pos (by simpa using hi)], by simp⟩ (fun i o' _ h1 => by simp [Array.getD_eq_getD_getElem?, Array.getElem?_replicate] at h1; split at h1 <;> simp at h1) hC ?_
  · simpa using hfin
  · have e : (fun a' => ∀ w', C w' → wpList P (l ++ [o]).toArray Q [o] a' w') = (fun a' => ∀ w', C w' → wpOp P (l ++ [o]).toArray Q l.length (fun a' w' => Q .normal a' w') a' w') := by
      funext a'
      refine forall_congr fun w' => ?_
      simp only [wpOp, last_at, wpList]
    rw [e] at hx
    exact hx
end
end Go.Proofs.Ytcnnpfjommiafaa.lastC

/-
  A packet in pieces goes out of a table.
-/
namespace Go.Proofs.Ytcnnpfjommiafaa.fgC
open Go.ChangeShapes Go.WideShapes Go.ChangeAt Go.RowKit
open Go.Proofs.Ytcnnpfjommiafaa.memC Go.Proofs.Ytcnnpfjommiafaa.genC Go.Proofs.Ytcnnpfjommiafaa.butC Go.Proofs.Ytcnnpfjommiafaa.freeC Go.Proofs.Ytcnnpfjommiafaa.adC
open Go.Proofs.Ytcnnpfjommiafaa.pkC (Pkt pktL pktV pktT adrC)
set_option linter.unusedVariables false
theorem nodup_map_inj {α β : Type} {f : α → β} {l : List α} (h : (l.map f).Nodup) {i j : Nat} {x y : α} (hi : l[i]? = some x) (hj : l[j]? = some y) (e : f x = f y) : i = j := by
  have hi2 : (l.map f)[i]? = some (f x) := by rw [List.getElem?_map, hi]; rfl
  have hj2 : (l.map f)[j]? = some (f x) := by rw [List.getElem?_map, hj, e]; rfl
  exact (List.getElem?_inj (List.getElem?_eq_some_iff.1 hi2).1 h).1 (hi2.trans hj2.symm)
theorem mem_erase {α : Type} {l : List α} {i : Nat} {x : α} (h : x ∈ l.eraseIdx i) : x ∈ l := List.mem_of_mem_eraseIdx h
/-- the row of names of a table -/
theorem TC.names {w : World} {S : Nat → Prop} {t m : Nat} {room now : Int} {ov : Value} {ps : List Pp} (h : TC w S t room now m ov ps) (hne : ps ≠ []) : ∃ g c sp, ov = .slice (some ⟨g, 0, none⟩) ps.length c ∧ NRow w g (ps.map Pp.nm) sp ∧ ps.length ≤ c ∧ c ≤ maxLen ∧ ps.length * 36 + sp.length = c * 36 ∧ S g := by
  have hf := flatN_len (ms := ps.map Pp.nm) (fun x hx => by obtain ⟨y, hy, rfl⟩ := List.mem_map.1 hx; exact h.nok y hy)
  rw [List.length_map] at hf
  rcases h.ord.2 with ⟨-, h0⟩ | ⟨g, cap, cur, e, -, hh, hc, hm, hs, ht⟩
  · rw [List.length_map] at h0
    exact absurd (List.length_eq_zero_iff.1 h0) hne
  · rw [List.length_map] at e hc ht
    have hS := h.so g (by rw [e]; rfl)
    refine ⟨g, cap, cur.toList.drop (ps.length * 36), e, ?_, hc, hm, ?_, hS⟩
    · unfold NRow
      rw [← ht, List.take_append_drop]
      exact hh
    · rw [List.length_drop, show cur.toList.length = cap * 36 from hs]
      have : ps.length * 36 ≤ cap * 36 := Nat.mul_le_mul_right _ hc
      omega
theorem TC.ovform {w : World} {S : Nat → Prop} {t m : Nat} {room now : Int} {ov : Value} {ps : List Pp} (h : TC w S t room now m ov ps) : ∃ A c, ov = .slice A ps.length c := by
  rcases h.ord.2 with ⟨e, h0⟩ | ⟨g, cap, cur, e, -⟩
  · rw [List.length_map] at h0
    exact ⟨none, 0, by rw [e, h0]⟩
  · rw [List.length_map] at e
    exact ⟨_, cap, e⟩
theorem row_owns {w : World} {g n c : Nat} {ms : List Nm} {sp : List Value} (h : NRow w g ms sp) (hok : ∀ x ∈ ms, x.Ok) (hn : ms.length = n) (hc : n ≤ c) (hm : c ≤ maxLen) (hs : n * 36 + sp.length = c * 36) : w.ownsRow 0 72 36 (.slice (some ⟨g, 0, none⟩) n c) n (flatN ms) := by
  have hl := flatN_len hok
  rw [hn] at hl
  refine ⟨hl, .inr ⟨g, c, _, rfl, Nat.zero_le _, h, hc, hm, ?_, ?_⟩⟩
  · rw [List.size_toArray, List.length_append, hl, hs]
  · rw [show (flatN ms ++ sp).toArray.toList = flatN ms ++ sp from rfl, ← hl, List.take_left]
theorem but_grown {w w' : World} {b : Nat} (h : w.grownBy w' (some b)) : But b w w' := ⟨h.os, h.tape, h.output, h.size, fun g hg hn => h.block g hg fun e => hn (by injection e)⟩
theorem wpList_delN {ops : Array Oper} {rest : List Oper} {o : Oper} {a : Act} {w : World} {Q : Exit → Act → World → Prop} (hg : o.guard = none) (x y : Operand) (ho : o.op = .call { callee := .builtin .delete, args := #[x, y], argTypes := #[55, 72] })
    {b i q : Nat} {L : List (Nm × Nat)} {m : Nm} (hx : a.eval x = .map (some b)) (hy : a.eval y = .agg (nmV m)) (hM : MapAt w b L) (hok : ∀ x ∈ L, x.1.Ok) (hm : m.Ok) (hnd : (L.map (·.1)).Nodup) (hi : L[i]? = some (m, q))
    (h : ∀ w', MapAt w' b (L.eraseIdx i) → But b w w' → w'.heap.size = w.heap.size → wpList Try.prog ops Q rest (a.put o.dst (.tuple #[])) w') : wpList Try.prog ops Q (o :: rest) a w := by
  refine wpList_plain hg fun K hK => ?_
  obtain ⟨w', hrun, h1, h2, h3⟩ := run_del hM hok hm hnd hi o.type
  unfold Oper.wp
  simp [execOp, ho, resolve, invoke, builtin, hx, hy, hrun, Result.andThen]
  exact hK _ _ (h w' h1 (but_grown h2) h3)
theorem wpList_putN {ops : Array Oper} {rest : List Oper} {o : Oper} {a : Act} {w : World} {Q : Exit → Act → World → Prop} (hg : o.guard = none) (x y z : Operand) (ho : o.op = .mapUpdate 55 x y z)
    {b q : Nat} {L : List (Nm × Nat)} {m : Nm} (hx : a.eval x = .map (some b)) (hy : a.eval y = .agg (nmV m)) (hz : a.eval z = ptr q) (hM : MapAt w b L) (hok : ∀ x ∈ L, x.1.Ok) (hm : m.Ok) (hn : ∀ x ∈ L, x.1 ≠ m)
    (h : ∀ w', MapAt w' b (L ++ [(m, q)]) → But b w w' → w'.heap.size = w.heap.size → wpList Try.prog ops Q rest (a.put o.dst undef) w') : wpList Try.prog ops Q (o :: rest) a w := by
  refine wpList_plain hg fun K hK => ?_
  obtain ⟨w', hrun, h1, h2, h3⟩ := run_put hM hok hm hn q
  unfold Oper.wp
  simp [execOp, ho, hx, hy, hz, hrun, Result.andThen]
  exact hK _ _ (h w' h1 (but_grown h2) h3)
theorem nodup_erase {α β : Type} {f : α → β} {l : List α} {i : Nat} (h : (l.map f).Nodup) : ((l.eraseIdx i).map f).Nodup := h.sublist ((List.eraseIdx_sublist _ _).map f)
theorem map_erase {α β : Type} (f : α → β) (l : List α) (i : Nat) : (l.eraseIdx i).map f = (l.map f).eraseIdx i := ChangeMaps.map_eraseIdx f l i
/-- what another table-wide step leaves of the parts -/
theorem PpAt.butT {w w' : World} {S : Nat → Prop} {x : Pp} {k0 : Nat} (h : PpAt w S x) (hb : But k0 w w') (hlt : ∀ k, S k → k < w.heap.size) (ho : ∀ T cs fr, w.heap[k0]? = some (.cells cs T fr) → T ≠ 79 ∧ T ≠ 28 ∧ T ≠ 5) : PpAt w' S x := by
  refine h.but (k0 := k0) (fun k hk hn => hb.block k (hlt k hk) hn) (fun e => ?_) (fun g hg e => ?_) (fun cs fr hh => ?_)
  · have h1 := h.hdr
    rw [e] at h1
    exact (ho _ _ _ h1).1 rfl
  · obtain ⟨cur, h1⟩ := h.gtype hg
    rw [e] at h1
    exact (ho _ _ _ h1).2.1 rfl
  · exact (ho _ _ _ hh).2.2 rfl
theorem PpAt.offT {w w' : World} {S B : Nat → Prop} {x : Pp} (h : PpAt w S x) (hk : ∀ k, S k → ¬ B k → w'.heap[k]? = w.heap[k]?) (ho : ∀ k, B k → ∀ T cs fr, w.heap[k]? = some (.cells cs T fr) → T ≠ 79 ∧ T ≠ 28 ∧ T ≠ 5) : PpAt w' S x := by
  refine ⟨(hk _ h.sq fun e => ?_).trans h.hdr, h.sq, h.sg, own_row_same h.own fun g hg => hk _ (h.sg g hg) fun e => ?_, fun e he => ⟨own_row_same (h.lds e he).1 fun g hg => hk _ ((h.lds e he).2.2 g hg) fun e2 => ?_, (h.lds e he).2⟩⟩
  · exact (ho _ e _ _ _ h.hdr).1 rfl
  · obtain ⟨cur, h1⟩ := h.gtype hg
    exact (ho _ e _ _ _ h1).2.1 rfl
  · rcases (h.lds e he).1.2 with ⟨e1, -⟩ | ⟨g2, cap, cur, e1, -, hh, -⟩
    · rw [e1] at hg; cases hg
    · rw [e1] at hg
      cases hg
      exact (ho _ e2 _ _ _ hh).2.2 rfl
theorem off_map {w : World} {b : Nat} {L : List (Nm × Nat)} (h : MapAt w b L) : ∀ T cs fr, w.heap[b]? = some (.cells cs T fr) → T ≠ 79 ∧ T ≠ 28 ∧ T ≠ 5 := fun T cs fr e => by
  obtain ⟨es, cl, hb, -⟩ := h
  rw [hb] at e; cases e
theorem off_row {w : World} {b U : Nat} {cur : Array Value} (h : w.heap[b]? = some (.cells cur U (0, 0))) (hU : U ≠ 79 ∧ U ≠ 28 ∧ U ≠ 5) : ∀ T cs fr, w.heap[b]? = some (.cells cs T fr) → T ≠ 79 ∧ T ≠ 28 ∧ T ≠ 5 := fun T cs fr e => by
  rw [h] at e
  injection e with e
  injection e with _ e _
  subst e
  exact hU
set_option maxRecDepth 100000 in
set_option maxHeartbeats 4000000 in
theorem drop_full (w : World) (S : Nat → Prop) (t : Nat) (room now : Int) (m : Nat) (ov : Value) (ps : List Pp) (i : Nat) (x : Pp) (h : TC w S t room now m ov ps) (hi : ps[i]? = some x) (hl : ps.length ≤ 64) :
    Calls Try.prog 33 #[.pointer (some ⟨t, 0, none⟩), .agg (nmV x.nm)] w fun e w' => e = .returned (.tuple #[]) ∧ (∃ ov', TC w' S t room now m ov' (ps.eraseIdx i)) ∧ Fs S w w' ∧ PpAt w' S x := by
  have hx := List.mem_of_getElem? hi
  have hxo := h.nok x hx
  have hil := (List.getElem?_eq_some_iff.1 hi).1
  obtain ⟨W, hW⟩ : ∃ W, W = w.alloc (.cells (nmV x.nm) 72) := ⟨_, rfl⟩
  have R0 := Lib.hid (show W.heap[w.heap.size]? = some (.cells (nmV x.nm) 72 (0, 0)) by rw [hW]; exact heap_alloc_new _ _)
  have HB := Lib.hid (show Below w.heap.size w W by rw [hW]; exact alloc_below _ _)
  have T0 := Lib.hid (h.below HB.out)
  have I0 := Lib.hid (nm_infoV hxo)
  have HXO := Lib.hid hxo
  have HI := Lib.hid hi
  have HL := Lib.hid (show i < ps.length ∧ ps.length ≤ 64 from ⟨hil, hl⟩)
  obtain ⟨bx, hbx⟩ : ∃ q, q = w.heap.size := ⟨_, rfl⟩
  have HNS := Lib.hid (show ¬ S bx by rw [hbx]; intro hs; exact Nat.lt_irrefl _ (h.lt _ hs))
  have HBX := Lib.hid hbx
  rw [← hbx] at R0
  clear h hi hx hxo hil hl
  go_enter Try.func33, Try.ntmps33
  go_upto_region 1 with fail
  rw [← hW, ← hbx]
  clear hW hbx
  have c3 : W.cell? ⟨t, 3, none⟩ = some (.map (some m)) := cell_of_row W t 3 _ _ (0, 0) T0.out.row
  have R0d := Lib.hid (show ∀ w', (∃ j, w' = W.drewN j) → w'.heap[bx]? = some (.cells (nmV x.nm) 72 (0, 0)) by rintro w' ⟨j, rfl⟩; exact R0.out)
  refine Go.Proofs.Ytcnnpfjommiafaa.lastC.wp_region_lastC (fun w' => ∃ j, w' = W.drewN j) 5 (by kernel_rfl) (by kernel_rfl) (by kernel_rfl) (by kernel_rfl) ⟨1, rfl⟩ ?_
  simp only [List.take_succ_cons, List.take_zero, List.drop_succ_cons, List.drop_zero]
  repeat (first
    | (refine wpQuiet_row rfl 72 (.tmp 3) rfl bx rfl _ _ _ _ R0d.out Try.underlying72 rfl I0.out ?_)
    | go_big_quiet_step (fail)
    | quiet_step (fail))
  refine wpQuiet_nil ?_
  intro w2 hw2
  obtain ⟨n2, hw3⟩ := hw2
  subst hw3
  simp only [Act.put, List.setIfInBounds_toArray, List.set_cons_succ, List.set_cons_zero]
  have T1 := Lib.hid (T0.out.keep (w' := W.drewN n2) (fun k _ => rfl) (Nat.le_refl _))
  have HBd := Lib.hid (show Below w.heap.size w (W.drewN n2) from HB.out.trans ⟨rfl, rfl, rfl, Nat.le_refl _, fun _ _ => rfl⟩)
  have R1 := Lib.hid (show (W.drewN n2).heap[bx]? = some (.cells (nmV x.nm) 72 (0, 0)) from R0.out)
  clear R0d c3 T0 HB R0
  generalize W.drewN n2 = W1 at *
  have HLI := Lib.hid (show (ps.map fun x => (x.nm, x.q))[i]? = some (x.nm, x.q) by rw [List.getElem?_map, HI.out]; rfl)
  have HNO := Lib.hid (show ∀ y ∈ (ps.map fun x => (x.nm, x.q)), y.1.Ok by
    intro y hy
    obtain ⟨z, hz, rfl⟩ := List.mem_map.1 hy
    exact T1.out.nok z hz)
  have HND := Lib.hid (show (((ps.map fun x => (x.nm, x.q))).map (·.1)).Nodup by rw [List.map_map]; exact T1.out.nnd)
  refine wpList_delN rfl (.tmp 7) (.tmp 8) rfl rfl rfl T1.out.map HNO.out HXO.out HND.out HLI.out fun W2 hM2 hB2 hS2 => ?_
  simp only [Act.put]
  have M2 := Lib.hid hM2
  have B2 := Lib.hid hB2
  have S2 := Lib.hid hS2
  clear hM2 hB2 hS2
  have ptm := Lib.hid (show t ≠ m by
    intro e
    obtain ⟨es, cl, hb, -⟩ := T1.out.map
    have h9 := T1.out.row
    rw [e, hb] at h9; cases h9)
  have hne : ps ≠ [] := by intro e; have := HL.out; rw [e] at this; exact absurd this.1 (Nat.not_lt_zero _)
  obtain ⟨g, c, sp, hov, hrow, hlc, hcm, hsp, hSg⟩ := T1.out.names hne
  have RT2 := Lib.hid ((B2.out.block t (T1.out.lt _ T1.out.st) ptm.out).trans T1.out.row)
  have hgm : g ≠ m := by
    intro e
    obtain ⟨es, cl, hb, -⟩ := T1.out.map
    unfold NRow at hrow
    rw [e, hb] at hrow; cases hrow
  have N2 := Lib.hid (show NRow W2 g (ps.map Pp.nm) sp from (B2.out.block g (T1.out.lt _ hSg) hgm).trans hrow)
  have hbm : bx ≠ m := fun e => HNS.out (e ▸ T1.out.sm)
  have R2 := Lib.hid (show W2.heap[bx]? = some (.cells (nmV x.nm) 72 (0, 0)) from (B2.out.block bx (Array.getElem?_eq_some_iff.1 R1.out).1 hbm).trans R1.out)
  subst hov
  have c4 : W2.cell? ⟨t, 4, none⟩ = some (.slice (some ⟨g, 0, none⟩) ps.length c) := cell_of_row W2 t 4 _ _ (0, 0) RT2.out
  have HOKN := Lib.hid (show ∀ y ∈ ps.map Pp.nm, y.Ok by intro y hy; obtain ⟨z, hz, rfl⟩ := List.mem_map.1 hy; exact T1.out.nok z hz)
  have DF := Lib.hid (delete_any g bx ps.length c i (ps.map Pp.nm) sp x.nm W2 N2.out HOKN.out HXO.out R2.out (fun e => HNS.out (e ▸ hSg)) (by rw [List.length_map]) (by have := HL.out; omega) hlc (by unfold maxLen at hcm; omega) (by rw [List.getElem?_map, HI.out]; rfl) T1.out.nnd)
  have HG := Lib.hid (show S g ∧ ps.length ≤ c ∧ c ≤ maxLen ∧ ps.length * 36 + sp.length = c * 36 ∧ g ≠ m from ⟨hSg, hlc, hcm, hsp, hgm⟩)
  clear hne hrow hlc hcm hsp hSg hgm hbm
  have TG := Lib.hid (show t ≠ g by
    intro e
    have h9 := N2.out
    unfold NRow at h9
    rw [← e, RT2.out] at h9
    injection h9 with h9
    injection h9 with _ h9 _
    exact absurd h9 (by decide))
  have DG := Lib.hid (fun (W3 : World) (hb : But g W2 W3) => (show W3.heap[t]? = _ from (hb.block t (Array.getElem?_eq_some_iff.1 RT2.out).1 TG.out).trans RT2.out))
  go_wp2_with (go_at_call 50; refine DF.out.mono ?_; rintro e W3 ⟨rfl, hN3, hB3⟩
               have N3 := Lib.hid hN3
               have B3 := Lib.hid hB3
               have RT3 := Lib.hid (DG.out W3 hB3)
               have c43 : W3.cell? ⟨t, 4, none⟩ = some (.slice (some ⟨g, 0, none⟩) ps.length c) := cell_of_row W3 t 4 _ _ (0, 0) RT3.out
               have f43 : W3.frozen? ⟨t, 4, none⟩ = false := frozen_of_row W3 t 4 _ _ RT3.out
               clear hN3 hB3)
  go_end0
  obtain ⟨sp', hN3, hsp'⟩ := N3.out
  have B4 : But t W3 (W3.setCell ⟨t, 4, none⟩ (.slice (some ⟨g, 0, none⟩) (ps.length - 1) c)) := (But.refl W3).setCell 4 _
  have hS1 := fun k hk => T1.out.lt k hk
  have hS2' : ∀ k, S k → k < W2.heap.size := fun k hk => by rw [S2.out]; exact hS1 k hk
  have hS3' : ∀ k, S k → k < W3.heap.size := fun k hk => Nat.lt_of_lt_of_le (hS2' k hk) B3.out.size
  have hrg : W2.heap[g]? = some (.cells _ 72 (0, 0)) := N2.out
  have hg3 : W3.heap[g]? = some (.cells _ 72 (0, 0)) := hN3
  have hel : (ps.eraseIdx i).length = ps.length - 1 := by rw [List.length_eraseIdx, if_pos HL.out.1]
  have hlt4 : (W3.setCell ⟨t, 4, none⟩ (.slice (some ⟨g, 0, none⟩) (ps.length - 1) c)).heap.size = W3.heap.size := by simp [World.setCell]
  have mg : ∀ {a b : World}, But g a b → m < a.heap.size → b.heap[m]? = a.heap[m]? := fun h hm => h.block m hm (fun e => HG.out.2.2.2.2 e.symm)
  have hPX : ∀ y ∈ ps, PpAt (W3.setCell ⟨t, 4, none⟩ (.slice (some ⟨g, 0, none⟩) (ps.length - 1) c)) S y := fun y hy => by
    have p1 := T1.out.parts y hy
    have p2 := p1.butT B2.out hS1 (off_map T1.out.map)
    have p3 := p2.butT B3.out hS2' (off_row hrg ⟨by decide, by decide, by decide⟩)
    exact p3.butT B4 hS3' (off_row RT3.out ⟨by decide, by decide, by decide⟩)
  refine ⟨rfl, ⟨.slice (some ⟨g, 0, none⟩) (ps.length - 1) c, ?_⟩, ?_, hPX x (List.mem_of_getElem? HI.out)⟩
  · refine ⟨heap_setCell_same W3 t 4 _ _ _ RT3.out, T1.out.st, T1.out.sm, ?_, ?_, fun g' hg' => ?_, fun y hy => ?_, nodup_erase T1.out.qnd, T1.out.gnd.sublist (List.eraseIdx_sublist _ _), nodup_erase T1.out.nnd, fun y hy => T1.out.nok y (mem_erase hy), fun k hk => by rw [hlt4]; exact hS3' k hk⟩
    · have e := map_erase (fun x : Pp => (x.nm, x.q)) ps i
      rw [e]
      exact (M2.out.same (mg B3.out (hS2' m T1.out.sm))).same (B4.block m (hS3' m T1.out.sm) (fun e => ptm.out e.symm))
    · have hNf : NRow (W3.setCell ⟨t, 4, none⟩ (.slice (some ⟨g, 0, none⟩) (ps.length - 1) c)) g ((ps.map Pp.nm).eraseIdx i) sp' := (B4.block g (hS3' g HG.out.1) (fun e => TG.out e.symm)).trans hN3
      rw [map_erase]
      have h1 : ((ps.map Pp.nm).eraseIdx i).length = ps.length - 1 := by rw [← map_erase, List.length_map, hel]
      rw [h1]
      exact row_owns hNf (fun y hy => HOKN.out y (mem_erase hy)) h1 (by have := HG.out; omega) HG.out.2.2.1 (by have := HG.out; have := HL.out; omega)
    · have e : g = g' := Option.some.inj hg'
      rw [← e]; exact HG.out.1
    · exact hPX y (mem_erase hy)
  · exact (((Fs.below HBd.out).trans (fs_but B2.out T1.out.sm)).trans (fs_but B3.out HG.out.1)).trans (fs_but B4 T1.out.st)
theorem drop_any (w : World) (S : Nat → Prop) (t : Nat) (room now : Int) (m : Nat) (ov : Value) (ps : List Pp) (i : Nat) (x : Pp) (h : TC w S t room now m ov ps) (hi : ps[i]? = some x) (hl : ps.length ≤ 64) :
    Calls Try.prog 33 #[.pointer (some ⟨t, 0, none⟩), .agg (nmV x.nm)] w fun e w' => e = .returned (.tuple #[]) ∧ (∃ ov', TC w' S t room now m ov' (ps.eraseIdx i)) ∧ Fs S w w' :=
  (drop_full w S t room now m ov ps i x h hi hl).mono fun _ _ h => ⟨h.1, h.2.1, h.2.2.1⟩
end Go.Proofs.Ytcnnpfjommiafaa.fgC

/-
  Regions that draw their order, in which some operations write, each waiting for the one before (as in Chn); what the writes do is told by a relation D, so that values of the others (a literal that was just laid) may speak of what D leaves alone.
-/
namespace Go.Proofs.Ytcnnpfjommiafaa.freeC
open Go.ChangeShapes Go.WideShapes Go.ChangeAt Go.RowKit
set_option linter.unusedVariables false
/-- nothing turned but block g -/
def OnlyAt (g : Nat) (w w' : World) : Prop := Below g w w' ∧ ∀ k, k ≠ g → w'.heap[k]? = w.heap[k]?
theorem OnlyAt.setRow (g : Nat) (w : World) (cs : Array Value) : OnlyAt g w (w.setRow g cs) := ⟨⟨rfl, rfl, rfl, by simp, fun k hk => setRow_other _ _ _ _ (by omega)⟩, fun k hk => setRow_other _ _ _ _ hk⟩
theorem OnlyAt.refl (g : Nat) (w : World) : OnlyAt g w w := ⟨Below.refl _ _, fun _ _ => rfl⟩
/-- a row that is not g stands -/
theorem keep_row {g k : Nat} {w w' : World} {o : Obj} (hd : Below w.heap.size w w' ∨ OnlyAt g w w') (hk : k ≠ g) (h : w.heap[k]? = some o) : w'.heap[k]? = some o := by
  have hl : k < w.heap.size := by
    rcases Nat.lt_or_ge k w.heap.size with h' | h'
    · exact h'
    · rw [Array.getElem?_eq_none h'] at h; cases h
  rcases hd with hd | hd
  · rw [hd.block k hl]; exact h
  · rw [hd.2 k hk]; exact h
/-- what lies below g stands -/
theorem keep_below {g B : Nat} {w0 w w' : World} (hd : Below w.heap.size w w' ∨ OnlyAt g w w') (hB : B ≤ g) (hw : B ≤ w.heap.size) (h : Below B w0 w) : Below B w0 w' := by
  rcases hd with hd | hd
  · exact h.trans (hd.mono hw)
  · exact h.trans (hd.1.mono hB)
section
variable {P : Program} {L : List Oper} {Q : Exit → Act → World → Prop}
/-- what is asked of an operation: of one that is no part of the chain C, that it makes memory alone; of the chain's p-th, that it leads from R p to R (p + 1) -/
def StepD (P : Program) (L : List Oper) (Q : Exit → Act → World → Prop) (tab : List (Option Nat)) (a : Act) (B : Nat) (D : World → World → Prop) (C : List Nat) (G : World → Prop) (V : Nat → Value → World → Prop) (R : Nat → (Nat → Value) → World → Prop) (i : Nat) (o : Oper) : Prop :=
  ∀ (m : Nat → Bool) us w, B ≤ w.heap.size → G w → (∀ j, j ∉ C → m j = true → V j (us j) w) → doneB o m = true →
    (i ∉ C → if Region.wanted o (yielded L.toArray (frame tab a us).tmps) then o.wp P (frame tab a us) w (fun a' w' => ∃ v, a' = (frame tab a us).put o.dst v ∧ Below w.heap.size w w' ∧ V i v w') Q else V i undef w) ∧
    (∀ p, C[p]? = some i → R p us w → if Region.wanted o (yielded L.toArray (frame tab a us).tmps) then o.wp P (frame tab a us) w (fun a' w' => ∃ v, a' = (frame tab a us).put o.dst v ∧ (D w w' ∧ Below B w w') ∧ R (p + 1) (upd us i v) w') Q else R (p + 1) (upd us i undef) w)
theorem wp_region_chd {id : Nat} {a : Act} {w : World} (hm : P.follows .mixedOrders = true) (tab : List (Option Nat)) (hb : backE L = true) (ht : slots tab L = true) (hl : tab.length = a.tmps.size)
    (us0 : Nat → Value) (ha : frame tab a us0 = a) (B : Nat) (D : World → World → Prop) (C : List Nat) (hC : links L C = true) (hnd : C.Nodup) (hin : ∀ x ∈ C, x < L.length)
    (G : World → Prop) (V : Nat → Value → World → Prop) (R : Nat → (Nat → Value) → World → Prop) (hB : B ≤ w.heap.size) (hG : G w.drew) (h0 : R 0 us0 w.drew)
    (hkG : ∀ w w', B ≤ w.heap.size → (Below w.heap.size w w' ∨ D w w') → G w → G w') (hkV : ∀ i v w w', B ≤ w.heap.size → (Below w.heap.size w w' ∨ D w w') → V i v w → V i v w')
    (hkR : ∀ k us us' w w', (∀ x ∈ C, us' x = us x) → B ≤ w.heap.size → Below w.heap.size w w' → R k us w → R k us' w')
    (hstep : AllFrom (StepD P L Q tab a B D C G V R) 0 L)
    (hend : ∀ us w, B ≤ w.heap.size → G w → (∀ i, i < L.length → i ∉ C → V i (us i) w) → R C.length us w → Q .normal (frame tab a us) w) : (Code.region id L.toArray true).wp P Q a w := by
  refine wp_region_free hm tab hb ht hl us0 ha (fun m us w => B ≤ w.heap.size ∧ G w ∧ (∀ j, j ∉ C → m j = true → V j (us j) w) ∧ ∃ k, k ≤ C.length ∧ (∀ j x, C[j]? = some x → (m x = true ↔ j < k)) ∧ R k us w)
    ⟨(by simpa using hB), hG, (fun j _ h => by cases h), 0, Nat.zero_le _, (fun j x _ => by simp), h0⟩ ?_ ?_
  · intro i o ho m us w' ⟨hb', hg, hv, k, hk, hcm, hr⟩ hmi hd
    have hs := all_from L 0 hstep i o ho m us w' hb' hg hv hd
    rw [Nat.zero_add] at hs
    by_cases hi : i ∈ C
    · obtain ⟨p, hp⟩ := List.getElem?_of_mem hi
      have hkp : k = p := by
        have h1 : ¬ p < k := fun h => by rw [(hcm p i hp).2 h] at hmi; cases hmi
        rcases Nat.eq_zero_or_pos p with h2 | h2
        · omega
        · obtain ⟨q, rfl⟩ : ∃ q, p = q + 1 := ⟨p - 1, by omega⟩
          have hq : q < C.length := by have := (List.getElem?_eq_some_iff.1 hp).1; omega
          have e := List.getElem?_eq_getElem hq
          have := (hcm q _ e).1 (links_at hC q _ i o e hp ho m hd)
          omega
      subst hkp
      have hs2 := hs.2 k hp hr
      have hset : ∀ v w'', (w'' = w' ∨ D w' w'') → Below B w' w'' → R (k + 1) (upd us i v) w'' → B ≤ w''.heap.size ∧ G w'' ∧ (∀ j, j ∉ C → upd m i true j = true → V j (upd us i v j) w'') ∧ ∃ k, k ≤ C.length ∧ (∀ j x, C[j]? = some x → (upd m i true x = true ↔ j < k)) ∧ R k (upd us i v) w'' := fun v w'' hd2 hb2 hr2 => by
        refine ⟨Nat.le_trans hb' hb2.size, (by rcases hd2 with rfl | hd2
                                               · exact hg
                                               · exact hkG _ _ hb' (.inr hd2) hg), fun j hj hm' => ?_, k + 1, ?_, fun j x hx => ?_, hr2⟩
        · have hji : j ≠ i := fun e => hj (e ▸ hi)
          rw [upd_other _ _ hji] at hm' ⊢
          rcases hd2 with rfl | hd2
          · exact hv j hj hm'
          · exact hkV _ _ _ _ hb' (.inr hd2) (hv j hj hm')
        · have := (List.getElem?_eq_some_iff.1 hp).1; omega
        · by_cases hx2 : x = i
          · subst hx2
            have hjk : j = k := nodup_at hnd hx hp
            rw [upd_same]; simp [hjk]
          · rw [upd_other _ _ hx2, hcm j x hx]
            have hjk : j ≠ k := fun e => by rw [e, hp] at hx; exact hx2 (Option.some.inj hx).symm
            omega
      split
      · rename_i hw
        rw [if_pos hw] at hs2
        refine Oper.wp_mono (fun a2 w2 h2 => ?_) hs2
        obtain ⟨v, ha, ⟨hd2, hb2⟩, hr2⟩ := h2
        exact ⟨v, ha, hset v w2 (.inr hd2) hb2 hr2⟩
      · rename_i hw
        rw [if_neg hw] at hs2
        exact hset undef w' (.inl rfl) (Below.refl _ _) hs2
    · have hs1 := hs.1 hi
      have hset : ∀ v w'', Below w'.heap.size w' w'' → V i v w'' → B ≤ w''.heap.size ∧ G w'' ∧ (∀ j, j ∉ C → upd m i true j = true → V j (upd us i v j) w'') ∧ ∃ k, k ≤ C.length ∧ (∀ j x, C[j]? = some x → (upd m i true x = true ↔ j < k)) ∧ R k (upd us i v) w'' := fun v w'' hb2 hv2 => by
        have hb3 := hb2.mono hb'
        refine ⟨Nat.le_trans hb' hb2.size, hkG _ _ hb' (.inl hb2) hg, fun j hj hm' => ?_, k, hk, fun j x hx => ?_, hkR k us (upd us i v) w' w'' (fun x hx => ?_) hb' hb2 hr⟩
        · by_cases hji : j = i
          · subst hji; rw [upd_same]; exact hv2
          · rw [upd_other _ _ hji] at hm' ⊢
            exact hkV _ _ _ _ hb' (.inl hb2) (hv j hj hm')
        · have hxi : x ≠ i := fun e => hi (e ▸ List.mem_of_getElem? hx)
          rw [upd_other _ _ hxi]; exact hcm j x hx
        · have hxi : x ≠ i := fun e => hi (e ▸ hx)
          rw [upd_other _ _ hxi]
      split
      · rename_i hw
        rw [if_pos hw] at hs1
        refine Oper.wp_mono (fun a2 w2 h2 => ?_) hs1
        obtain ⟨v, ha, hb2, hv2⟩ := h2
        exact ⟨v, ha, hset v w2 hb2 hv2⟩
      · rename_i hw
        rw [if_neg hw] at hs1
        exact hset undef w' (Below.refl _ _) hs1
  · intro m us w' hm' ⟨hb', hg, hv, k, hk, hcm, hr⟩
    have hkl : k = C.length := by
      rcases Nat.lt_or_ge k C.length with h | h
      · have e := List.getElem?_eq_getElem h
        have := (hcm k _ e).1 (hm' _ (hin _ (List.getElem_mem h)))
        omega
      · omega
    subst hkl
    exact hend us w' hb' hg (fun i hi hc => hv i hc (hm' i hi)) hr
variable {o : Oper} {a : Act} {tab : List (Option Nat)} {B : Nat} {D : World → World → Prop} {C : List Nat} {G : World → Prop} {V : Nat → Value → World → Prop} {R : Nat → (Nat → Value) → World → Prop} {i : Nat}
/-- an operation that only makes memory -/
theorem stepD_val (need : List Nat) (hn : needs o need = true) (hc : (need.all fun j => !C.contains j) = true) (hi : C.contains i = false) (hg : o.guard = none)
    (h : ∀ us w, B ≤ w.heap.size → G w → (∀ j, j ∈ need → V j (us j) w) → o.wp P (frame tab a us) w (fun a' w' => ∃ v, a' = (frame tab a us).put o.dst v ∧ Below w.heap.size w w' ∧ V i v w') Q) : StepD P L Q tab a B D C G V R i o := by
  intro m us w hB hG hV hd
  have hiC : i ∉ C := fun e => by rw [List.contains_iff_mem.2 e] at hi; cases hi
  refine ⟨fun _ => ?_, fun p hp => absurd (List.mem_of_getElem? hp) hiC⟩
  rw [if_pos (show Region.wanted o (yielded L.toArray (frame tab a us).tmps) = true by simp [Region.wanted, hg])]
  exact h us w hB hG fun j hj => hV j (fun e => by have h1 := List.all_eq_true.1 hc j hj; rw [List.contains_iff_mem.2 e] at h1; cases h1) (need_ok hn hd j hj)
/-- .. behind a guard that says b, as is known -/
theorem stepD_guard (need : List Nat) (hn : needs o need = true) (hc : (need.all fun j => !C.contains j) = true) (hi : C.contains i = false) {j t : Nat} {b : Bool} (hg : o.guard = some (j, b)) (hj : j ∈ need) (hL : (L[j]?).bind (·.dst) = some t) (hl : tab.length = a.tmps.size) (ht : (tab[t]?).join = some j)
    (hv : ∀ v w, V j v w → v = .bool b)
    (h : ∀ us w, B ≤ w.heap.size → G w → (∀ j, j ∈ need → V j (us j) w) → o.wp P (frame tab a us) w (fun a' w' => ∃ v, a' = (frame tab a us).put o.dst v ∧ Below w.heap.size w w' ∧ V i v w') Q) : StepD P L Q tab a B D C G V R i o := by
  intro m us w hB hG hV hd
  have hiC : i ∉ C := fun e => by rw [List.contains_iff_mem.2 e] at hi; cases hi
  have hV2 : ∀ j, j ∈ need → V j (us j) w := fun j hj => hV j (fun e => by have h1 := List.all_eq_true.1 hc j hj; rw [List.contains_iff_mem.2 e] at h1; cases h1) (need_ok hn hd j hj)
  refine ⟨fun _ => ?_, fun p hp => absurd (List.mem_of_getElem? hp) hiC⟩
  have hy := yield_at (L := L) (us := us) hl hL ht (hv _ _ (hV2 j hj))
  rw [if_pos (show Region.wanted o (yielded L.toArray (frame tab a us).tmps) = true by simp [Region.wanted, hg, hy])]
  exact h us w hB hG hV2
/-- .. that is not wanted -/
theorem stepD_skip (need : List Nat) (hn : needs o need = true) (hc : (need.all fun j => !C.contains j) = true) (hi : C.contains i = false) {j t : Nat} {b : Bool} (hg : o.guard = some (j, b)) (hj : j ∈ need) (hL : (L[j]?).bind (·.dst) = some t) (hl : tab.length = a.tmps.size) (ht : (tab[t]?).join = some j)
    (hv : ∀ v w, V j v w → v = .bool !b) (h : ∀ w, V i undef w) : StepD P L Q tab a B D C G V R i o := by
  intro m us w hB hG hV hd
  have hiC : i ∉ C := fun e => by rw [List.contains_iff_mem.2 e] at hi; cases hi
  have hV2 : ∀ j, j ∈ need → V j (us j) w := fun j hj => hV j (fun e => by have h1 := List.all_eq_true.1 hc j hj; rw [List.contains_iff_mem.2 e] at h1; cases h1) (need_ok hn hd j hj)
  refine ⟨fun _ => ?_, fun p hp => absurd (List.mem_of_getElem? hp) hiC⟩
  have hy := yield_at (L := L) (us := us) hl hL ht (hv _ _ (hV2 j hj))
  rw [if_neg (by simp [Region.wanted, hg, hy])]
  exact h w
/-- the chain's p-th -/
theorem stepD_chain (p : Nat) (hp : C[p]? = some i) (hnd : C.Nodup) (need : List Nat) (hn : needs o need = true) (hc : (need.all fun j => !C.contains j) = true) (hg : o.guard = none)
    (h : ∀ us w, B ≤ w.heap.size → G w → (∀ j, j ∈ need → V j (us j) w) → R p us w → o.wp P (frame tab a us) w (fun a' w' => ∃ v, a' = (frame tab a us).put o.dst v ∧ (D w w' ∧ Below B w w') ∧ R (p + 1) (upd us i v) w') Q) : StepD P L Q tab a B D C G V R i o := by
  intro m us w hB hG hV hd
  refine ⟨fun hi => absurd (List.mem_of_getElem? hp) hi, fun q hq hr => ?_⟩
  have hqp : q = p := nodup_at hnd hq hp
  subst hqp
  rw [if_pos (show Region.wanted o (yielded L.toArray (frame tab a us).tmps) = true by simp [Region.wanted, hg])]
  exact h us w hB hG (fun j hj => hV j (fun e => by have h1 := List.all_eq_true.1 hc j hj; rw [List.contains_iff_mem.2 e] at h1; cases h1) (need_ok hn hd j hj)) hr
/-- .. behind a guard that says b, as is known -/
theorem stepD_chainG (p : Nat) (hp : C[p]? = some i) (hnd : C.Nodup) (need : List Nat) (hn : needs o need = true) (hc : (need.all fun j => !C.contains j) = true) {j t : Nat} {b : Bool} (hg : o.guard = some (j, b)) (hj : j ∈ need) (hL : (L[j]?).bind (·.dst) = some t) (hl : tab.length = a.tmps.size) (ht : (tab[t]?).join = some j)
    (hv : ∀ v w, V j v w → v = .bool b)
    (h : ∀ us w, B ≤ w.heap.size → G w → (∀ j, j ∈ need → V j (us j) w) → R p us w → o.wp P (frame tab a us) w (fun a' w' => ∃ v, a' = (frame tab a us).put o.dst v ∧ (D w w' ∧ Below B w w') ∧ R (p + 1) (upd us i v) w') Q) : StepD P L Q tab a B D C G V R i o := by
  intro m us w hB hG hV hd
  have hV2 : ∀ j, j ∈ need → V j (us j) w := fun j hj => hV j (fun e => by have h1 := List.all_eq_true.1 hc j hj; rw [List.contains_iff_mem.2 e] at h1; cases h1) (need_ok hn hd j hj)
  refine ⟨fun hi => absurd (List.mem_of_getElem? hp) hi, fun q hq hr => ?_⟩
  have hqp : q = p := nodup_at hnd hq hp
  subst hqp
  have hy := yield_at (L := L) (us := us) hl hL ht (hv _ _ (hV2 j hj))
  rw [if_pos (show Region.wanted o (yielded L.toArray (frame tab a us).tmps) = true by simp [Region.wanted, hg, hy])]
  exact h us w hB hG hV2 hr
end
end Go.Proofs.Ytcnnpfjommiafaa.freeC

/-
  Regions that draw their order, in which some operations write (as in Chd), where an operation may also know what stands until the writing one that waits for it.
-/
namespace Go.Proofs.Ytcnnpfjommiafaa.freeC
open Go.ChangeShapes Go.WideShapes Go.ChangeAt Go.RowKit
set_option linter.unusedVariables false
section
variable {P : Program} {L : List Oper} {Q : Exit → Act → World → Prop}
/-- an operation waits for the one that is i-th -/
def waitsE (o : Oper) (i : Nat) : Bool := o.after.any fun e => Region.binds .any e && (e.on == i)
theorem waitsE_done {o : Oper} {i : Nat} {m : Nat → Bool} (h : waitsE o i = true) (hd : doneB o m = true) : m i = true := by
  obtain ⟨e, he, h2⟩ := Array.any_eq_true'.1 h
  simp only [Bool.and_eq_true, beq_iff_eq] at h2
  have h3 := Array.all_eq_true'.1 hd e he
  rw [h2.1, h2.2] at h3
  simpa using h3
theorem doneB_more {o : Oper} {m : Nat → Bool} {i : Nat} (hd : doneB o m = true) : doneB o (upd m i true) = true := by
  refine Array.all_eq_true'.2 fun e he => ?_
  have h := Array.all_eq_true'.1 hd e he
  by_cases hb : Region.binds .any e = true
  · rw [hb] at h ⊢
    by_cases q : e.on = i
    · rw [q, upd_same]; simp
    · rw [upd_other _ _ q]; exact h
  · simp [hb]
/-- what is asked of an operation: of one that is no part of the chain C, that it makes memory alone; of the chain's p-th, that it leads from R p to R (p + 1) -/
def StepE (P : Program) (L : List Oper) (Q : Exit → Act → World → Prop) (tab : List (Option Nat)) (a : Act) (B : Nat) (D : World → World → Prop) (C : List Nat) (G : World → Prop) (V : Nat → Value → World → Prop) (R : Nat → (Nat → Value) → World → Prop) (i : Nat) (o : Oper) : Prop :=
  ∀ (m : Nat → Bool) us w, B ≤ w.heap.size → G w → (∀ j, j ∉ C → m j = true → V j (us j) w) → doneB o m = true →
    (i ∉ C → (∃ k, k ≤ C.length ∧ (∀ b x, C[b]? = some x → waitsE o x = true → b < k) ∧ (∀ b x o', C[b]? = some x → L[x]? = some o' → waitsE o' i = true → k ≤ b) ∧ R k us w) → if Region.wanted o (yielded L.toArray (frame tab a us).tmps) then o.wp P (frame tab a us) w (fun a' w' => ∃ v, a' = (frame tab a us).put o.dst v ∧ Below w.heap.size w w' ∧ V i v w') Q else V i undef w) ∧
    (∀ p, C[p]? = some i → R p us w → if Region.wanted o (yielded L.toArray (frame tab a us).tmps) then o.wp P (frame tab a us) w (fun a' w' => ∃ v, a' = (frame tab a us).put o.dst v ∧ (D w w' ∧ Below B w w') ∧ R (p + 1) (upd us i v) w') Q else R (p + 1) (upd us i undef) w)
theorem wp_region_che {id : Nat} {a : Act} {w : World} (hm : P.follows .mixedOrders = true) (tab : List (Option Nat)) (hb : backE L = true) (ht : slots tab L = true) (hl : tab.length = a.tmps.size)
    (us0 : Nat → Value) (ha : frame tab a us0 = a) (B : Nat) (D : World → World → Prop) (C : List Nat) (hC : links L C = true) (hnd : C.Nodup) (hin : ∀ x ∈ C, x < L.length)
    (G : World → Prop) (V : Nat → Value → World → Prop) (R : Nat → (Nat → Value) → World → Prop) (hB : B ≤ w.heap.size) (hG : G w.drew) (h0 : R 0 us0 w.drew)
    (hkG : ∀ w w', B ≤ w.heap.size → (Below w.heap.size w w' ∨ D w w') → G w → G w') (hkV : ∀ i v w w', B ≤ w.heap.size → (Below w.heap.size w w' ∨ D w w') → V i v w → V i v w')
    (hkR : ∀ k us us' w w', (∀ x ∈ C, us' x = us x) → B ≤ w.heap.size → Below w.heap.size w w' → R k us w → R k us' w')
    (hstep : AllFrom (StepE P L Q tab a B D C G V R) 0 L)
    (hend : ∀ us w, B ≤ w.heap.size → G w → (∀ i, i < L.length → i ∉ C → V i (us i) w) → R C.length us w → Q .normal (frame tab a us) w) : (Code.region id L.toArray true).wp P Q a w := by
  refine wp_region_free hm tab hb ht hl us0 ha (fun m us w => B ≤ w.heap.size ∧ G w ∧ (∀ j, j ∉ C → m j = true → V j (us j) w) ∧ ∃ k, k ≤ C.length ∧ (∀ j x, C[j]? = some x → (m x = true ↔ j < k)) ∧ (∀ x o', L[x]? = some o' → m x = true → doneB o' m = true) ∧ R k us w)
    ⟨(by simpa using hB), hG, (fun j _ h => by cases h), 0, Nat.zero_le _, (fun j x _ => by simp), (fun x o' _ h => by cases h), h0⟩ ?_ ?_
  · intro i o ho m us w' ⟨hb', hg, hv, k, hk, hcm, hcl, hr⟩ hmi hd
    have hs := all_from L 0 hstep i o ho m us w' hb' hg hv hd
    rw [Nat.zero_add] at hs
    have hcl2 : ∀ x o', L[x]? = some o' → upd m i true x = true → doneB o' (upd m i true) = true := fun x o' hx hm' => by
      by_cases q : x = i
      · subst q
        obtain rfl := Option.some.inj (ho.symm.trans hx)
        exact doneB_more hd
      · rw [upd_other _ _ q] at hm'
        exact doneB_more (hcl x o' hx hm')
    by_cases hi : i ∈ C
    · obtain ⟨p, hp⟩ := List.getElem?_of_mem hi
      have hkp : k = p := by
        have h1 : ¬ p < k := fun h => by rw [(hcm p i hp).2 h] at hmi; cases hmi
        rcases Nat.eq_zero_or_pos p with h2 | h2
        · omega
        · obtain ⟨q, rfl⟩ : ∃ q, p = q + 1 := ⟨p - 1, by omega⟩
          have hq : q < C.length := by have := (List.getElem?_eq_some_iff.1 hp).1; omega
          have e := List.getElem?_eq_getElem hq
          have := (hcm q _ e).1 (links_at hC q _ i o e hp ho m hd)
          omega
      subst hkp
      have hs2 := hs.2 k hp hr
      have hset : ∀ v w'', (w'' = w' ∨ D w' w'') → Below B w' w'' → R (k + 1) (upd us i v) w'' → B ≤ w''.heap.size ∧ G w'' ∧ (∀ j, j ∉ C → upd m i true j = true → V j (upd us i v j) w'') ∧ ∃ k, k ≤ C.length ∧ (∀ j x, C[j]? = some x → (upd m i true x = true ↔ j < k)) ∧ (∀ x o', L[x]? = some o' → upd m i true x = true → doneB o' (upd m i true) = true) ∧ R k (upd us i v) w'' := fun v w'' hd2 hb2 hr2 => by
        refine ⟨Nat.le_trans hb' hb2.size, (by rcases hd2 with rfl | hd2
                                               · exact hg
                                               · exact hkG _ _ hb' (.inr hd2) hg), fun j hj hm' => ?_, k + 1, ?_, fun j x hx => ?_, hcl2, hr2⟩
        · have hji : j ≠ i := fun e => hj (e ▸ hi)
          rw [upd_other _ _ hji] at hm' ⊢
          rcases hd2 with rfl | hd2
          · exact hv j hj hm'
          · exact hkV _ _ _ _ hb' (.inr hd2) (hv j hj hm')
        · have := (List.getElem?_eq_some_iff.1 hp).1; omega
        · by_cases hx2 : x = i
          · subst hx2
            have hjk : j = k := nodup_at hnd hx hp
            rw [upd_same]; simp [hjk]
          · rw [upd_other _ _ hx2, hcm j x hx]
            have hjk : j ≠ k := fun e => by rw [e, hp] at hx; exact hx2 (Option.some.inj hx).symm
            omega
      split
      · rename_i hw
        rw [if_pos hw] at hs2
        refine Oper.wp_mono (fun a2 w2 h2 => ?_) hs2
        obtain ⟨v, ha, ⟨hd2, hb2⟩, hr2⟩ := h2
        exact ⟨v, ha, hset v w2 (.inr hd2) hb2 hr2⟩
      · rename_i hw
        rw [if_neg hw] at hs2
        exact hset undef w' (.inl rfl) (Below.refl _ _) hs2
    · have hs1 := hs.1 hi ⟨k, hk, fun b x hx hw => (hcm b x hx).1 (waitsE_done hw hd), fun b x o' hx hox hw => by
        rcases Nat.lt_or_ge b k with h | h
        · have h1 := waitsE_done hw (hcl x o' hox ((hcm b x hx).2 h))
          rw [h1] at hmi; cases hmi
        · exact h, hr⟩
      have hset : ∀ v w'', Below w'.heap.size w' w'' → V i v w'' → B ≤ w''.heap.size ∧ G w'' ∧ (∀ j, j ∉ C → upd m i true j = true → V j (upd us i v j) w'') ∧ ∃ k, k ≤ C.length ∧ (∀ j x, C[j]? = some x → (upd m i true x = true ↔ j < k)) ∧ (∀ x o', L[x]? = some o' → upd m i true x = true → doneB o' (upd m i true) = true) ∧ R k (upd us i v) w'' := fun v w'' hb2 hv2 => by
        have hb3 := hb2.mono hb'
        refine ⟨Nat.le_trans hb' hb2.size, hkG _ _ hb' (.inl hb2) hg, fun j hj hm' => ?_, k, hk, fun j x hx => ?_, hcl2, hkR k us (upd us i v) w' w'' (fun x hx => ?_) hb' hb2 hr⟩
        · by_cases hji : j = i
          · subst hji; rw [upd_same]; exact hv2
          · rw [upd_other _ _ hji] at hm' ⊢
            exact hkV _ _ _ _ hb' (.inl hb2) (hv j hj hm')
        · have hxi : x ≠ i := fun e => hi (e ▸ List.mem_of_getElem? hx)
          rw [upd_other _ _ hxi]; exact hcm j x hx
        · have hxi : x ≠ i := fun e => hi (e ▸ hx)
          rw [upd_other _ _ hxi]
      split
      · rename_i hw
        rw [if_pos hw] at hs1
        refine Oper.wp_mono (fun a2 w2 h2 => ?_) hs1
        obtain ⟨v, ha, hb2, hv2⟩ := h2
        exact ⟨v, ha, hset v w2 hb2 hv2⟩
      · rename_i hw
        rw [if_neg hw] at hs1
        exact hset undef w' (Below.refl _ _) hs1
  · intro m us w' hm' ⟨hb', hg, hv, k, hk, hcm, hcl, hr⟩
    have hkl : k = C.length := by
      rcases Nat.lt_or_ge k C.length with h | h
      · have e := List.getElem?_eq_getElem h
        have := (hcm k _ e).1 (hm' _ (hin _ (List.getElem_mem h)))
        omega
      · omega
    subst hkl
    exact hend us w' hb' hg (fun i hi hc => hv i hc (hm' i hi)) hr
variable {o : Oper} {a : Act} {tab : List (Option Nat)} {B : Nat} {D : World → World → Prop} {C : List Nat} {G : World → Prop} {V : Nat → Value → World → Prop} {R : Nat → (Nat → Value) → World → Prop} {i : Nat}
/-- an operation that only makes memory -/
theorem stepE_val (need : List Nat) (hn : needs o need = true) (hc : (need.all fun j => !C.contains j) = true) (hi : C.contains i = false) (hg : o.guard = none)
    (h : ∀ us w, B ≤ w.heap.size → G w → (∀ j, j ∈ need → V j (us j) w) → o.wp P (frame tab a us) w (fun a' w' => ∃ v, a' = (frame tab a us).put o.dst v ∧ Below w.heap.size w w' ∧ V i v w') Q) : StepE P L Q tab a B D C G V R i o := by
  intro m us w hB hG hV hd
  have hiC : i ∉ C := fun e => by rw [List.contains_iff_mem.2 e] at hi; cases hi
  refine ⟨fun _ _ => ?_, fun p hp => absurd (List.mem_of_getElem? hp) hiC⟩
  rw [if_pos (show Region.wanted o (yielded L.toArray (frame tab a us).tmps) = true by simp [Region.wanted, hg])]
  exact h us w hB hG fun j hj => hV j (fun e => by have h1 := List.all_eq_true.1 hc j hj; rw [List.contains_iff_mem.2 e] at h1; cases h1) (need_ok hn hd j hj)
/-- .. that waits for the chain's (lo - 1)-th, and for which its hi-th waits -/
theorem stepE_early (lo hi : Nat) (hlo : lo = 0 ∨ ∃ x, C[lo - 1]? = some x ∧ waitsE o x = true) (hhi : hi = C.length ∨ ∃ x o', C[hi]? = some x ∧ L[x]? = some o' ∧ waitsE o' i = true) (need : List Nat) (hn : needs o need = true) (hc : (need.all fun j => !C.contains j) = true) (hi' : C.contains i = false) (hg : o.guard = none)
    (h : ∀ us w k, B ≤ w.heap.size → G w → (∀ j, j ∈ need → V j (us j) w) → lo ≤ k ∧ k ≤ hi → R k us w → o.wp P (frame tab a us) w (fun a' w' => ∃ v, a' = (frame tab a us).put o.dst v ∧ Below w.heap.size w w' ∧ V i v w') Q) : StepE P L Q tab a B D C G V R i o := by
  intro m us w hB hG hV hd
  have hiC : i ∉ C := fun e => by rw [List.contains_iff_mem.2 e] at hi'; cases hi'
  refine ⟨fun _ ⟨k, hkl, hk1, hk2, hr⟩ => ?_, fun p hp => absurd (List.mem_of_getElem? hp) hiC⟩
  rw [if_pos (show Region.wanted o (yielded L.toArray (frame tab a us).tmps) = true by simp [Region.wanted, hg])]
  refine h us w k hB hG (fun j hj => hV j (fun e => by have h1 := List.all_eq_true.1 hc j hj; rw [List.contains_iff_mem.2 e] at h1; cases h1) (need_ok hn hd j hj)) ⟨?_, ?_⟩ hr
  · rcases hlo with rfl | ⟨x, hx, hw⟩
    · exact Nat.zero_le _
    · have := hk1 (lo - 1) x hx hw; omega
  · rcases hhi with rfl | ⟨x, o', hx, hox, hw⟩
    · exact hkl
    · exact hk2 hi x o' hx hox hw
/-- .. behind a guard that says b, as is known -/
theorem stepE_guard (need : List Nat) (hn : needs o need = true) (hc : (need.all fun j => !C.contains j) = true) (hi : C.contains i = false) {j t : Nat} {b : Bool} (hg : o.guard = some (j, b)) (hj : j ∈ need) (hL : (L[j]?).bind (·.dst) = some t) (hl : tab.length = a.tmps.size) (ht : (tab[t]?).join = some j)
    (hv : ∀ v w, V j v w → v = .bool b)
    (h : ∀ us w, B ≤ w.heap.size → G w → (∀ j, j ∈ need → V j (us j) w) → o.wp P (frame tab a us) w (fun a' w' => ∃ v, a' = (frame tab a us).put o.dst v ∧ Below w.heap.size w w' ∧ V i v w') Q) : StepE P L Q tab a B D C G V R i o := by
  intro m us w hB hG hV hd
  have hiC : i ∉ C := fun e => by rw [List.contains_iff_mem.2 e] at hi; cases hi
  have hV2 : ∀ j, j ∈ need → V j (us j) w := fun j hj => hV j (fun e => by have h1 := List.all_eq_true.1 hc j hj; rw [List.contains_iff_mem.2 e] at h1; cases h1) (need_ok hn hd j hj)
  refine ⟨fun _ _ => ?_, fun p hp => absurd (List.mem_of_getElem? hp) hiC⟩
  have hy := yield_at (L := L) (us := us) hl hL ht (hv _ _ (hV2 j hj))
  rw [if_pos (show Region.wanted o (yielded L.toArray (frame tab a us).tmps) = true by simp [Region.wanted, hg, hy])]
  exact h us w hB hG hV2
/-- .. that is not wanted -/
theorem stepE_skip (need : List Nat) (hn : needs o need = true) (hc : (need.all fun j => !C.contains j) = true) (hi : C.contains i = false) {j t : Nat} {b : Bool} (hg : o.guard = some (j, b)) (hj : j ∈ need) (hL : (L[j]?).bind (·.dst) = some t) (hl : tab.length = a.tmps.size) (ht : (tab[t]?).join = some j)
    (hv : ∀ v w, V j v w → v = .bool !b) (h : ∀ w, V i undef w) : StepE P L Q tab a B D C G V R i o := by
  intro m us w hB hG hV hd
  have hiC : i ∉ C := fun e => by rw [List.contains_iff_mem.2 e] at hi; cases hi
  have hV2 : ∀ j, j ∈ need → V j (us j) w := fun j hj => hV j (fun e => by have h1 := List.all_eq_true.1 hc j hj; rw [List.contains_iff_mem.2 e] at h1; cases h1) (need_ok hn hd j hj)
  refine ⟨fun _ _ => ?_, fun p hp => absurd (List.mem_of_getElem? hp) hiC⟩
  have hy := yield_at (L := L) (us := us) hl hL ht (hv _ _ (hV2 j hj))
  rw [if_neg (by simp [Region.wanted, hg, hy])]
  exact h w
/-- the chain's p-th -/
theorem stepE_chain (p : Nat) (hp : C[p]? = some i) (hnd : C.Nodup) (need : List Nat) (hn : needs o need = true) (hc : (need.all fun j => !C.contains j) = true) (hg : o.guard = none)
    (h : ∀ us w, B ≤ w.heap.size → G w → (∀ j, j ∈ need → V j (us j) w) → R p us w → o.wp P (frame tab a us) w (fun a' w' => ∃ v, a' = (frame tab a us).put o.dst v ∧ (D w w' ∧ Below B w w') ∧ R (p + 1) (upd us i v) w') Q) : StepE P L Q tab a B D C G V R i o := by
  intro m us w hB hG hV hd
  refine ⟨fun hi _ => absurd (List.mem_of_getElem? hp) hi, fun q hq hr => ?_⟩
  have hqp : q = p := nodup_at hnd hq hp
  subst hqp
  rw [if_pos (show Region.wanted o (yielded L.toArray (frame tab a us).tmps) = true by simp [Region.wanted, hg])]
  exact h us w hB hG (fun j hj => hV j (fun e => by have h1 := List.all_eq_true.1 hc j hj; rw [List.contains_iff_mem.2 e] at h1; cases h1) (need_ok hn hd j hj)) hr
/-- .. behind a guard that says b, as is known -/
theorem stepE_chainG (p : Nat) (hp : C[p]? = some i) (hnd : C.Nodup) (need : List Nat) (hn : needs o need = true) (hc : (need.all fun j => !C.contains j) = true) {j t : Nat} {b : Bool} (hg : o.guard = some (j, b)) (hj : j ∈ need) (hL : (L[j]?).bind (·.dst) = some t) (hl : tab.length = a.tmps.size) (ht : (tab[t]?).join = some j)
    (hv : ∀ v w, V j v w → v = .bool b)
    (h : ∀ us w, B ≤ w.heap.size → G w → (∀ j, j ∈ need → V j (us j) w) → R p us w → o.wp P (frame tab a us) w (fun a' w' => ∃ v, a' = (frame tab a us).put o.dst v ∧ (D w w' ∧ Below B w w') ∧ R (p + 1) (upd us i v) w') Q) : StepE P L Q tab a B D C G V R i o := by
  intro m us w hB hG hV hd
  have hV2 : ∀ j, j ∈ need → V j (us j) w := fun j hj => hV j (fun e => by have h1 := List.all_eq_true.1 hc j hj; rw [List.contains_iff_mem.2 e] at h1; cases h1) (need_ok hn hd j hj)
  refine ⟨fun hi _ => absurd (List.mem_of_getElem? hp) hi, fun q hq hr => ?_⟩
  have hqp : q = p := nodup_at hnd hq hp
  subst hqp
  have hy := yield_at (L := L) (us := us) hl hL ht (hv _ _ (hV2 j hj))
  rw [if_pos (show Region.wanted o (yielded L.toArray (frame tab a us).tmps) = true by simp [Region.wanted, hg, hy])]
  exact h us w hB hG hV2 hr
end
end Go.Proofs.Ytcnnpfjommiafaa.freeC

/-
  A region that draws its order: a variable's field is its slice with one element appended.
-/
namespace Go.Proofs.Ytcnnpfjommiafaa.fgC
open Go.ChangeShapes Go.WideShapes Go.ChangeAt Go.RowKit
open Go.Proofs.Ytcnnpfjommiafaa.memC Go.Proofs.Ytcnnpfjommiafaa.genC Go.Proofs.Ytcnnpfjommiafaa.butC Go.Proofs.Ytcnnpfjommiafaa.freeC Go.Proofs.Ytcnnpfjommiafaa.adC
set_option linter.unusedVariables false
section
variable {P : Program} {R : Value → World → Prop} {fr : Act} {o : Oper} {w : World} {Q : Exit → Act → World → Prop}
/-- a slice of one aggregate -/
theorem lit1_J (s : Tmp) (LT ET k : Nat) (ho : o.op = .buildSlice LT 1 #[(0, .tmp s)]) (C : Array Value) (hx : fr.tmps[s]?.getD undef = .agg C) (hu : P.underlying LT = some (.slice ET)) (i : TypeInfo) (z : Value) (hi : P.info? ET = some i) (hz : i.zero = some z) (hs : i.size = k) (hC : C.size = k) (hpos : 0 < k) (hsm : k ≤ 1000)
    (h : R (.slice (some ⟨w.heap.size, 0, none⟩) 1 1) (w.alloc (.cells C ET))) : o.wp P fr w (fun a' w' => ∃ v, a' = fr.put o.dst v ∧ R v w') Q := by
  refine wp_buildSlice LT ET 1 _ ho C i z hu hi hz (by rw [hs]; omega) (by rw [hs]; omega) ?_ ⟨_, rfl, h⟩
  rw [hs]
  have := Great.fill_whole (s := k) hpos [Value.agg C] ((Array.range (1 * k)).map (z.cells[· % z.cells.size]!)) (by simpa [Value.cells] using hC) (by simp)
  have hx' : fr.eval (.tmp s) = .agg C := by simpa only [Act.eval, Array.getD_eq_getD_getElem?] using hx
  simpa [hx', Value.cells] using this
/-- one aggregate is appended to an own row -/
theorem app1_J (s x : Operand) (LT ET k bytes : Nat) (ho : o.op = .call { callee := .builtin .append, args := #[s, x], argTypes := #[LT, LT] }) (hu : P.underlying LT = some (.slice ET)) (i : TypeInfo) (z : Value) (hi : P.info? ET = some i) (hz : i.zero = some z) (hs : i.size = k) (hby : i.bytes = bytes) (hzs : z.cells.size = k) (hpos : 0 < k) (hb8 : bytes ≤ 1000)
    (v : Value) (n : Nat) (l : List Value) (hv : fr.eval s = v) (hown : w.ownsRow 0 ET k v n l) (hn : n ≤ 1000) (g : Nat) (X : Array Value) (hx : fr.eval x = .slice (some ⟨g, 0, none⟩) 1 1) (hg : w.heap[g]? = some (.cells X ET (0, 0))) (hX : X.size = k) (h1 : ∀ u ∈ X.toList, u.oneCell' = true)
    (h : ∀ g' c' w', (v.ownBlock = some g' ∨ g' = w.heap.size) → w'.ownsRow 0 ET k (.slice (some ⟨g', 0, none⟩) (n + 1) c') (n + 1) (l ++ X.toList) → w.grownBy w' v.ownBlock → R (.slice (some ⟨g', 0, none⟩) (n + 1) c') w') : o.wp P fr w (fun a' w' => ∃ v, a' = fr.put o.dst v ∧ R v w') Q := by
  obtain ⟨v', w', hrun, h2, h3, -, h5⟩ := run_append_own_at (P := P) w 0 LT o.type ET i z k bytes hu hi hz hs hby hzs hpos v n l hown ⟨g, 0, none⟩ 1 1 X.toList (by rw [show X.toList.length = X.size from rfl, hX, Nat.one_mul])
    (fun j u hu => by rw [memC.add_plain, Nat.zero_add, cell_of_row w g j _ _ (0, 0) hg]; simpa using hu) h1 (by unfold maxLen; omega) (by have : (n + 1) * bytes ≤ 1001 * 1000 := Nat.mul_le_mul (by omega) hb8; omega) (Nat.zero_le _)
  rcases h2.2 with ⟨-, h0⟩ | ⟨g', c', cur, e, -⟩
  · omega
  · subst e
    have h6 : v.ownBlock = some g' ∨ g' = w.heap.size := by
      rcases h5 with h5 | h5
      · exact .inl h5.symm
      · exact .inr (Option.some.inj h5)
    unfold Oper.wp execOp
    simp only [ho, resolve, invoke, builtin, Sem.run_bind, Sem.run_pure, Result.andThen_ok, List.map_toArray, List.map_cons, List.map_nil, hv, hx, hrun]
    exact ⟨_, rfl, h g' c' w' h6 h2 h3⟩
end
/-- the blocks that turn: the variable's, and its slice's -/
def S1 (t : Nat) (ov : Value) (k : Nat) : Prop := k = t ∨ ov.ownBlock = some k
theorem fs_grown {t : Nat} {ov : Value} {w w' : World} (h : w.grownBy w' ov.ownBlock) : Fs (S1 t ov) w w' := ⟨h.os, h.tape, h.output, h.size, fun k hk hn => h.block k hk fun e => hn (.inr e.symm)⟩
/-- how far it is: before; the element is laid; it is appended; it is stored -/
def apR (w0 : World) (t bx f HT ET k : Nat) (H X : Array Value) (ov : Value) (n : Nat) (l : List Value) : Nat → (Nat → Value) → World → Prop
  | 0, _, w => w.heap[t]? = some (.cells H HT (0, 0)) ∧ w.heap[bx]? = some (.cells X ET (0, 0)) ∧ w.ownsRow 0 ET k ov n l ∧ Fs (S1 t ov) w0 w
  | 1, us, w => w.heap[t]? = some (.cells H HT (0, 0)) ∧ (∃ z, us 6 = .slice (some ⟨z, 0, none⟩) 1 1 ∧ w.heap[z]? = some (.cells X ET (0, 0))) ∧ w.ownsRow 0 ET k ov n l ∧ Fs (S1 t ov) w0 w
  | 2, us, w => ∃ g' c', us 7 = .slice (some ⟨g', 0, none⟩) (n + 1) c' ∧ w.heap[t]? = some (.cells H HT (0, 0)) ∧ (ov.ownBlock = some g' ∨ w0.heap.size ≤ g') ∧ w.ownsRow 0 ET k (.slice (some ⟨g', 0, none⟩) (n + 1) c') (n + 1) (l ++ X.toList) ∧ Fs (S1 t ov) w0 w
  | 3, us, w => ∃ g' c', w.heap[t]? = some (.cells (H.setIfInBounds f (.slice (some ⟨g', 0, none⟩) (n + 1) c')) HT (0, 0)) ∧ (ov.ownBlock = some g' ∨ w0.heap.size ≤ g') ∧ w.ownsRow 0 ET k (.slice (some ⟨g', 0, none⟩) (n + 1) c') (n + 1) (l ++ X.toList) ∧ Fs (S1 t ov) w0 w
  | _, _, _ => True
theorem owns_below {w w' : World} {base T c k : Nat} {v : Value} {l : List Value} (h : w.ownsRow base T c v k l) (hb : Below w.heap.size w w') : w'.ownsRow base T c v k l := by
  refine ⟨h.1, ?_⟩
  rcases h.2 with h0 | ⟨g, cap, cur, e1, hg, hh, h'⟩
  · exact .inl h0
  · exact .inr ⟨g, cap, cur, e1, hg, (hb.block g (Array.getElem?_eq_some_iff.1 hh).1).trans hh, h'⟩
theorem apR.keep (w0 : World) (t bx f HT ET k : Nat) (H X : Array Value) (ov : Value) (n : Nat) (l : List Value) (i : Nat) (us us' : Nat → Value) (w w' : World) (h : ∀ x ∈ [6, 7, 10], us' x = us x) (hb : Below w.heap.size w w') (hR : apR w0 t bx f HT ET k H X ov n l i us w) : apR w0 t bx f HT ET k H X ov n l i us' w' := by
  have hk : ∀ {g : Nat} {ob : Obj}, w.heap[g]? = some ob → w'.heap[g]? = some ob := fun h9 => (hb.block _ (Array.getElem?_eq_some_iff.1 h9).1).trans h9
  have h6 := h 6 (by simp)
  have h7 := h 7 (by simp)
  unfold apR at hR ⊢
  split at hR
  · exact ⟨hk hR.1, hk hR.2.1, owns_below hR.2.2.1 hb, hR.2.2.2.trans (Fs.below hb)⟩
  · obtain ⟨a1, ⟨z, a2, a3⟩, a4, a5⟩ := hR
    exact ⟨hk a1, ⟨z, h6.trans a2, hk a3⟩, owns_below a4 hb, a5.trans (Fs.below hb)⟩
  · obtain ⟨g', c', a1, a2, a3, a4, a5⟩ := hR
    exact ⟨g', c', h7.trans a1, hk a2, a3, owns_below a4 hb, a5.trans (Fs.below hb)⟩
  · obtain ⟨g', c', a2, a3, a4, a5⟩ := hR
    exact ⟨g', c', hk a2, a3, owns_below a4 hb, a5.trans (Fs.below hb)⟩
  · trivial
end Go.Proofs.Ytcnnpfjommiafaa.fgC
