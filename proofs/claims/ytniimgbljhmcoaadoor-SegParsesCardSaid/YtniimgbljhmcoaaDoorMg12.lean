/-
  9 texts of a proof, joined.
-/
import Derived.Test.YtniimgbljhmcoaaDoorMg4
import Derived.Test.YtniimgbljhmcoaaDoorMg5
import Derived.Test.YtniimgbljhmcoaaDoorMg11
import Derived.Deep.SlicePairs
import Derived.LaidMore
import Derived.Lay
import Derived.Lib.LaidTab
import Derived.Laws.StructEq
import Derived.Test.YtniimgbljhmcoaaDoorMg2
import Derived.Test.YtniimgbljhmcoaaDoorMg3
import Derived.Test.YtniimgbljhmcoaaDoorMg7
import Derived.Laws.CopyOwn
import Derived.Test.YtniimgbljhmcoaaDoorRows
import Derived.WalkKit
import Derived.ProofKit
import Derived.OpenShut
import Derived.ShutString
import Derived.ChangeOld
import Derived.Below
import Derived.RegionTactic

/-
  Options as values: their cells; slices of pairs; how options that came in are opened; '==' of pairs, and of arrays of twelve bytes.
-/
namespace Go.Proofs.YtniimgbljhmcoaaDoor.opC
open Go.ChangeShapes Go.WideShapes Go.ChangeAt Go.RowKit
open Go.Proofs.YtniimgbljhmcoaaDoor.memC Go.Proofs.YtniimgbljhmcoaaDoor.genC Go.Proofs.YtniimgbljhmcoaaDoor.butC Go.Proofs.YtniimgbljhmcoaaDoor.freeC Go.Proofs.YtniimgbljhmcoaaDoor.adC
set_option linter.unusedVariables false
theorem lt_of_row {w : World} {g : Nat} {o : Obj} (h : w.heap[g]? = some o) : g < w.heap.size := by
  rcases Nat.lt_or_ge g w.heap.size with h1 | h1
  · exact h1
  · rw [Array.getElem?_eq_none h1] at h; cases h
def optH (o : Opt) (A : Option Addr) (n c : Nat) : List Value := [.bool o.hm, .int .u16 o.ms, .bool o.hs, .int .u8 o.sc, .bool o.so, .slice A n c, .bool o.ht, .int .u32 o.va, .int .u32 o.ec, .bool o.ha, .int .u8 o.ki, .int .u8 o.ni]
def macL (m : List Int) : List Value := m.map (Value.int .u8)
def optL (o : Opt) (A : Option Addr) (n c : Nat) : List Value := optH o A n c ++ macL o.mac
def optV (o : Opt) (A : Option Addr) (n c : Nat) : Array Value := (optL o A n c).toArray
/-- what is known of their cells -/
structure OptC (C : Array Value) (o : Opt) (A : Option Addr) (n c : Nat) : Prop where
  size : C.size = 24
  hm : C[0]? = some (.bool o.hm)
  ms : C[1]? = some (.int .u16 o.ms)
  hs : C[2]? = some (.bool o.hs)
  sc : C[3]? = some (.int .u8 o.sc)
  so : C[4]? = some (.bool o.so)
  sk : C[5]? = some (.slice A n c)
  ht : C[6]? = some (.bool o.ht)
  va : C[7]? = some (.int .u32 o.va)
  ec : C[8]? = some (.int .u32 o.ec)
  ha : C[9]? = some (.bool o.ha)
  ki : C[10]? = some (.int .u8 o.ki)
  ni : C[11]? = some (.int .u8 o.ni)
  mac : ∀ j v, (macL o.mac)[j]? = some v → C[12 + j]? = some v
theorem optC {o : Opt} (h : o.mac.length = 12) (A : Option Addr) (n c : Nat) : OptC (optV o A n c) o A n c := by
  have hm : (macL o.mac).length = 12 := by simp [macL, h]
  have e : ∀ j : Nat, (optV o A n c)[j]? = (optL o A n c)[j]? := fun j => by simp [optV]
  refine ⟨by simp [optV, optL, optH, hm], by rw [e]; rfl, by rw [e]; rfl, by rw [e]; rfl, by rw [e]; rfl, by rw [e]; rfl, by rw [e]; rfl, by rw [e]; rfl, by rw [e]; rfl, by rw [e]; rfl, by rw [e]; rfl, by rw [e]; rfl, by rw [e]; rfl, fun j v hv => ?_⟩
  rw [e]
  unfold optL
  rw [List.getElem?_append_right (by simp [optH]), show 12 + j - (optH o A n c).length = j by simp [optH]]
  exact hv
theorem opt_info0 : (Tryd.prog.info? 31).map (·.size) = some 24 := by kernel_rfl
theorem OptC.info {C : Array Value} {o : Opt} {A : Option Addr} {n c : Nat} (h : OptC C o A n c) : (Tryd.prog.info? 31).map (·.size) = some C.size := by rw [opt_info0, h.size]
theorem mac_info {m : List Int} (h : m.length = 12) : (Tryd.prog.info? 29).map (·.size) = some (macL m).length := by
  rw [show (macL m).length = 12 by simp [macL, h]]; kernel_rfl
theorem opt_one (o : Opt) (A : Option Addr) (n c : Nat) : (optV o A n c).all (·.oneCell') = true := by
  rw [Array.all_eq_true_iff_forall_mem]
  intro v hv
  simp [optV, optL, optH, macL] at hv
  rcases hv with rfl | rfl | rfl | rfl | rfl | rfl | rfl | rfl | rfl | rfl | rfl | rfl | ⟨z, _, rfl⟩ <;> rfl
theorem zOpt_info : (Tryd.prog.info? 31).map (·.zero) = some (some (.agg (optV zOpt none 0 0))) := by kernel_rfl
theorem zeroOpt (w : World) : (zeroValue 31).run Tryd.prog w = .ok (.agg (optV zOpt none 0 0)) w := by
  obtain ⟨i, hi, hz⟩ := Option.map_eq_some_iff.1 zOpt_info
  simp [zeroValue, typeInfo, hi, hz]
theorem zOpt_built : Tryd.prog.built 31 [] = some (optV zOpt none 0 0) := by kernel_rfl
/-- the slice at A, of n pairs, holds ps; it lies below block B -/
structure Prs (w : World) (B : Nat) (A : Option Addr) (n : Nat) (ps : List (Int × Int)) : Prop where
  len : ps.length = n
  at_ : 0 < n → ∃ b o, A = some ⟨b, o, none⟩ ∧ b < B ∧ ∀ i, i < n → w.cell? ⟨b, o + i * 2, none⟩ = some (.int .u32 (ps.getD i (0, 0)).1) ∧ w.cell? ⟨b, o + i * 2 + 1, none⟩ = some (.int .u32 (ps.getD i (0, 0)).2)
section
variable {w w' : World} {B B' : Nat} {A : Option Addr} {n : Nat} {ps : List (Int × Int)}
theorem Prs.none_ : Prs w B A 0 [] := ⟨rfl, fun h => absurd h (Nat.lt_irrefl 0)⟩
theorem Prs.zero (h : Prs w B A 0 ps) : ps = [] := List.eq_nil_of_length_eq_zero h.len
theorem Prs.keep (h : Prs w B A n ps) (hk : ∀ p : Addr, p.block < B → w'.cell? p = w.cell? p) : Prs w' B A n ps :=
  ⟨h.len, fun hn => by
    obtain ⟨b, o, e, hb, hc⟩ := h.at_ hn
    exact ⟨b, o, e, hb, fun i hi => ⟨(hk _ hb).trans (hc i hi).1, (hk _ hb).trans (hc i hi).2⟩⟩⟩
theorem Prs.heap (h : Prs w B A n ps) (e : w'.heap = w.heap) : Prs w' B A n ps := h.keep fun p _ => World.cell?_of_block (w := w) (w' := w') (by rw [e])
theorem Prs.more (h : Prs w B A n ps) (hB : B ≤ B') : Prs w B' A n ps :=
  ⟨h.len, fun hn => by
    obtain ⟨b, o, e, hb, hc⟩ := h.at_ hn
    exact ⟨b, o, e, by omega, hc⟩⟩
theorem Prs.below (h : Prs w B A n ps) (hb : Below B w w') : Prs w' B A n ps := h.keep fun _ hp => hb.cell hp
theorem Prs.cell (h : Prs w B A n ps) {i : Nat} (hi : i < n) :
    ∃ b o, A = some ⟨b, o, none⟩ ∧ b < B ∧ w.cell? ⟨b, o + i * 2, none⟩ = some (.int .u32 (ps.getD i (0, 0)).1) ∧ w.cell? ⟨b, o + i * 2 + 1, none⟩ = some (.int .u32 (ps.getD i (0, 0)).2) := by
  obtain ⟨b, o, e, hb, hc⟩ := h.at_ (by omega)
  exact ⟨b, o, e, hb, hc i hi⟩
/-- s[:j] -/
theorem Prs.upto (h : Prs w B A n ps) {j : Nat} (hj : j ≤ n) : Prs w B A j (ps.take j) := by
  refine ⟨by rw [List.length_take, h.len]; omega, fun hn => ?_⟩
  obtain ⟨b, o, rfl, hb, hcell⟩ := h.at_ (by omega)
  refine ⟨b, o, rfl, hb, fun i hi => ?_⟩
  have := hcell i (by omega)
  simpa [List.getD_eq_getElem?_getD, List.getElem?_take, hi] using this
end
def flatP (ps : List (Int × Int)) : List Value := ps.flatMap fun p => [.int .u32 p.1, .int .u32 p.2]
theorem flatP_len (ps : List (Int × Int)) : (flatP ps).length = ps.length * 2 := by
  induction ps with
  | nil => rfl
  | cons p r ih => unfold flatP at ih ⊢; rw [List.flatMap_cons, List.length_append, ih, List.length_cons]; simp; omega
theorem flatP_at : ∀ (ps : List (Int × Int)) (i : Nat), i < ps.length → (flatP ps)[i * 2]? = some (.int .u32 (ps.getD i (0, 0)).1) ∧ (flatP ps)[i * 2 + 1]? = some (.int .u32 (ps.getD i (0, 0)).2)
  | [], i, h => absurd h (Nat.not_lt_zero _)
  | p :: r, 0, _ => ⟨rfl, rfl⟩
  | p :: r, i + 1, h => by
    have ih := flatP_at r i (by simpa using h)
    have e : flatP (p :: r) = [.int .u32 p.1, .int .u32 p.2] ++ flatP r := rfl
    rw [e, List.getElem?_append_right (by simp; omega), List.getElem?_append_right (by simp; omega)]
    simp only [List.length_cons, List.length_nil, List.getD_cons_succ]
    rw [show (i + 1) * 2 - (0 + 1 + 1) = i * 2 by omega, show (i + 1) * 2 + 1 - (0 + 1 + 1) = i * 2 + 1 by omega]
    exact ih
theorem flatP_one (ps : List (Int × Int)) : ∀ u ∈ flatP ps, u.oneCell' = true := by
  intro u hu
  obtain ⟨p, _, h⟩ := List.mem_flatMap.1 hu
  simp at h
  rcases h with rfl | rfl <;> rfl
theorem flatP_append (a b : List (Int × Int)) : flatP (a ++ b) = flatP a ++ flatP b := List.flatMap_append
/-- the call's own row of pairs -/
def OwnP (w : World) (base : Nat) (v : Value) (ps : List (Int × Int)) : Prop := w.ownsRow base 101 2 v ps.length (flatP ps)
section
variable {w w' : World} {base B : Nat} {v : Value} {ps : List (Int × Int)}
theorem OwnP.nil (w : World) (base : Nat) : OwnP w base (.slice none 0 0) [] := World.ownsRow_nil w base 101 2
theorem OwnP.blk (h : OwnP w base v ps) : ∀ g, v.ownBlock = some g → base ≤ g ∧ g < w.heap.size := fun g hg => h.lt g hg
theorem OwnP.form (h : OwnP w base v ps) : ∃ A cap, v = .slice A ps.length cap ∧ ps.length ≤ cap ∧ cap ≤ maxLen ∧ Prs w w.heap.size A ps.length ps := by
  rcases h.2 with ⟨rfl, h0⟩ | ⟨g, cap, cur, rfl, hb, hh, hl, hm, hs, ht⟩
  · rw [h0]
    exact ⟨none, 0, rfl, Nat.le_refl _, by simp [maxLen], ⟨h0, fun h => absurd h (Nat.lt_irrefl 0)⟩⟩
  · refine ⟨some ⟨g, 0, none⟩, cap, rfl, hl, hm, rfl, fun hn => ⟨g, 0, rfl, (h.lt g rfl).2, fun i hi => ?_⟩⟩
    have ha := flatP_at ps i hi
    have h1 := World.ownsRow.cells h (g := g) rfl (i * 2) _ ha.1
    have h2 := World.ownsRow.cells h (g := g) rfl (i * 2 + 1) _ ha.2
    rw [memC.add_plain] at h1 h2
    exact ⟨h1, h2⟩
theorem OwnP.keep (h : OwnP w base v ps) (hk : ∀ g, base ≤ g → g < w.heap.size → w'.heap[g]? = w.heap[g]?) : OwnP w' base v ps := by
  refine ⟨h.1, ?_⟩
  rcases h.2 with h0 | ⟨g, cap, cur, rfl, hb, hh, h'⟩
  · exact .inl h0
  · exact .inr ⟨g, cap, cur, rfl, hb, (hk g hb (h.lt g rfl).2).trans hh, h'⟩
theorem OwnP.below (h : OwnP w base v ps) (hb : Below w.heap.size w w') : OwnP w' base v ps := h.keep fun g _ hg => hb.block g hg
theorem OwnP.less (h : OwnP w base v ps) (hB : B ≤ base) : OwnP w B v ps := by
  refine ⟨h.1, ?_⟩
  rcases h.2 with h0 | ⟨g, cap, cur, rfl, hb, hh, h'⟩
  · exact .inl h0
  · exact .inr ⟨g, cap, cur, rfl, Nat.le_trans hB hb, hh, h'⟩
theorem OwnP.prs {A : Option Addr} {n c : Nat} (h : OwnP w base (.slice A n c) ps) : Prs w w.heap.size A n ps := by
  obtain ⟨A', c', e2, _, _, N⟩ := h.form
  cases e2
  exact N
end
theorem blk_info : (Tryd.prog.info? 101).map (fun i => (i.zero, i.size, i.bytes)) = some (some (.agg #[.int .u32 0, .int .u32 0]), 2, 8) := by kernel_rfl
/-- append(own, pairs...) -/
theorem run_appP (w : World) (base : Nat) (v : Value) (ps : List (Int × Int)) (hown : OwnP w base v ps) (ty : TypeId)
    (B : Nat) (A : Option Addr) (m c : Nat) (qs : List (Int × Int)) (hr : Prs w B A m qs) (hl : ps.length + m ≤ 1000000) (hbase : base ≤ w.heap.size) :
    ∃ v' w', (Builtin.append_ #[28, 28] ty #[v, .slice A m c]).run Tryd.prog w = .ok v' w' ∧ OwnP w' base v' (ps ++ qs) ∧ w.grownBy w' v.ownBlock := by
  obtain ⟨i, hi, he⟩ := Option.map_eq_some_iff.1 blk_info
  obtain ⟨hz, he2⟩ := Prod.mk.inj he
  obtain ⟨hs, hb⟩ := Prod.mk.inj he2
  rcases A with _ | ad
  · have hm : m = 0 := by
      rcases Nat.eq_zero_or_pos m with h0 | h0
      · exact h0
      · obtain ⟨b, o, h, _⟩ := hr.at_ h0
        cases h
    subst hm
    obtain rfl := hr.zero
    exact ⟨v, w, memC.run_append_nil w base _ ty _ i 2 Tryd.underlying28 hi v _ _ hown c, by simpa using hown, World.grownBy.refl w _⟩
  · have hlq := hr.len
    obtain ⟨v', w', hrun, h2, h3, _⟩ := run_append_own (P := Tryd.prog) w base 28 ty 101 i _ 2 8 Tryd.underlying28 hi hz hs hb rfl (by omega) v _ _ hown ad m c (flatP qs) (by rw [flatP_len, hlq])
      (fun j u hu => by
        have hj : j < m * 2 := by
          have := (List.getElem?_eq_some_iff.1 hu).1
          rw [flatP_len, hlq] at this; exact this
        obtain ⟨b, o, hA, hb', hc⟩ := hr.at_ (by omega)
        obtain rfl := Option.some.inj hA
        rw [memC.add_plain]
        have h1 := flatP_at qs (j / 2) (by omega)
        have h2 := hc (j / 2) (by omega)
        rcases Nat.mod_two_eq_zero_or_one j with hm | hm
        · have e : j / 2 * 2 = j := by omega
          rw [e] at h1 h2
          rw [h2.1, ← h1.1, hu]
        · have e : j / 2 * 2 + 1 = j := by omega
          rw [Nat.add_assoc, e] at h2
          rw [e] at h1
          rw [h2.2, ← h1.2, hu]) (flatP_one qs) (by simp only [maxLen]; omega) (by omega) hbase
    refine ⟨v', w', hrun, ?_, h3⟩
    unfold OwnP
    rw [List.length_append, hlq, flatP_append]
    exact h2
end Go.Proofs.YtniimgbljhmcoaaDoor.opC

/-
  How options that came in are opened; '==' of pairs, and of arrays of twelve bytes; what the variable holds.
-/
namespace Go.Proofs.YtniimgbljhmcoaaDoor.opC
open Go.ChangeShapes Go.WideShapes Go.ChangeAt Go.RowKit
open Go.Proofs.YtniimgbljhmcoaaDoor.memC Go.Proofs.YtniimgbljhmcoaaDoor.genC Go.Proofs.YtniimgbljhmcoaaDoor.butC Go.Proofs.YtniimgbljhmcoaaDoor.freeC Go.Proofs.YtniimgbljhmcoaaDoor.adC
set_option linter.unusedVariables false
section
variable {P : Program} {w : World} {r : Reach} {b0 : Nat} {t : TypeId}
theorem cell_intO {k : IntKind} {ti : TypeId} {v : Value} (hi : P.underlying ti = some (.int k)) (h : Cell.okWide P w r b0 ti v) : ∃ z, v = .int k z ∧ k.min ≤ z ∧ z ≤ k.max := by
  unfold Cell.okWide at h
  rw [hi] at h
  unfold Cell.ok at h
  rw [hi] at h
  cases v <;> simp at h
  obtain ⟨rfl, h1, h2⟩ := h
  exact ⟨_, rfl, h1, h2⟩
theorem cell_boolO {tb : TypeId} {v : Value} (hb : P.underlying tb = some .bool) (h : Cell.okWide P w r b0 tb v) : ∃ s, v = .bool s := by
  unfold Cell.okWide at h
  rw [hb] at h
  unfold Cell.ok at h
  rw [hb] at h
  cases v <;> simp at h
  exact ⟨_, rfl⟩
end
set_option maxRecDepth 100000 in
/-- a slice of pairs that came in -/
theorem open_prs {H : Type} {enc : TypeId × Value → H} {w : World} {base : Nat} {spare : Nat → Bool} {held : Bool} {fuel : Nat} {cs : List Value} {x : DataW H × List MemPlace} (hsp : ∀ b, spare b = true)
    (h : DataW.trod enc Tryd.prog w base spare held fuel 28 cs = some x) :
    ∃ (A : Option Addr) (n c : Nat) (ps : List (Int × Int)), cs = [.slice A n c] ∧ n ≤ c ∧ c ≤ 9223372036854775807 ∧ Prs w w.heap.size A n ps ∧ ∀ p ∈ ps, U32 p.1 ∧ U32 p.2 := by
  have hfs : Tryd.prog.fieldsOf 101 = #[(Tryd.prog.fieldsOf 101)[0]!, (Tryd.prog.fieldsOf 101)[1]!] := by kernel_rfl
  have he : Tryd.prog.underlying 101 = some (.struct (Tryd.prog.fieldsOf 101)) := by simp [Program.fieldsOf, Tryd.underlying101]
  rw [hfs] at he
  have t0 : ((Tryd.prog.fieldsOf 101)[0]!).type = 27 := by kernel_rfl
  have t1 : ((Tryd.prog.fieldsOf 101)[1]!).type = 27 := by kernel_rfl
  have c32 : Tryd.prog.cellsOf 27 = 1 := by kernel_rfl
  rcases Deep.open_slice_pairs Tryd.underlying28 he (by kernel_rfl) (by kernel_rfl) (by kernel_rfl) (by rw [t0]; exact c32) (by rw [t1]; exact c32) h with ⟨rfl, _⟩ | ⟨a, len, cap, m, n, V0, V1, D0, D1, P0, P1, rfl, hb, hl, hm, hmm, _, hx⟩
  · exact ⟨none, 0, 0, [], rfl, Nat.le_refl _, Nat.zero_le _, Prs.none_, fun p hp => by cases hp⟩
  rw [hsp, if_pos rfl] at hmm
  subst hmm
  rw [t0, t1] at hx
  have key : ∀ i, i < m → ∃ p : Int × Int, w.cell? (a.add (i * 2)) = some (.int .u32 p.1) ∧ w.cell? (a.add (i * 2 + 1)) = some (.int .u32 p.2) ∧ (U32 p.1 ∧ U32 p.2) := fun i hi => by
    obtain ⟨h1, h2, h3, h4⟩ := hx i hi
    have get : ∀ {v : Value} {y : DataW H × List MemPlace}, DataW.trod enc Tryd.prog w base spare held n 27 [v] = some y → ∃ z, v = .int .u32 z ∧ U32 z := fun {v y} hy => by
      obtain ⟨z, hz, _, hwf⟩ := DataW.trod_int Tryd.underlying27 hy
      refine ⟨z, ?_, ?_⟩
      · simpa using hz
      · simpa [Lit.wf, U32, IntKind.min, IntKind.max, IntKind.signed, IntKind.bits] using hwf
    obtain ⟨z0, rfl', y0⟩ := get h3
    obtain ⟨z1, rfl'', y1⟩ := get h4
    rw [rfl'] at h1
    rw [rfl''] at h2
    exact ⟨(z0, z1), h1, h2, y0, y1⟩
  obtain ⟨f, hf⟩ := Deep.choose_lt key
  refine ⟨some a, len, m, (List.range len).map f, rfl, hl, by unfold maxLen at hm; omega, ⟨by simp, fun hn => ?_⟩, fun p hp => ?_⟩
  · obtain ⟨b, off, spot⟩ := a
    have hc := (hf 0 (by omega)).1
    have hspot : spot = none := by simpa [Addr.add] using World.cell?_spot hc
    subst hspot
    refine ⟨b, off, rfl, ?_, fun i hi => ?_⟩
    · have := World.block_lt_of_cell? _ _ hc
      rw [memC.add_plain] at this
      exact this
    · obtain ⟨h1, h2, _⟩ := hf i (by omega)
      rw [memC.add_plain] at h1 h2
      have e : (((List.range len).map f).getD i (0, 0)) = f i := by simp [List.getD_eq_getElem?_getD, hi]
      rw [e]
      exact ⟨h1, by rw [Nat.add_assoc]; exact h2⟩
  · obtain ⟨i, hi, rfl⟩ := List.mem_map.1 hp
    exact (hf i (by have := List.mem_range.1 hi; omega)).2.2
theorem is_opts : Tryd.prog.underlying 31 = some (.struct (Tryd.prog.fieldsOf 31)) := by simp [Program.fieldsOf, Tryd.underlying31]
theorem opts_sacks : ((Tryd.prog.fieldsOf 31)[5]?).map (fun f => (f.type, f.offset)) = some (28, 5) := by kernel_rfl
set_option maxRecDepth 100000 in
/-- options that came in -/
theorem open_opts {H : Type} {enc : TypeId × Value → H} {w : World} {base : Nat} {spare : Nat → Bool} {held : Bool} {r : Reach} {b0 : Nat} {v : Value} {d : DataW H} {ps : List MemPlace} (hsp : ∀ b, spare b = true)
    (hval : Value.okWide Tryd.prog w r b0 31 v) (hd : DataW.Trod enc Tryd.prog w base spare held 31 v d ps) :
    ∃ (o : Opt) (A : Option Addr) (n c : Nat), v = .agg (optV o A n c) ∧ o.Ok ∧ n ≤ c ∧ c ≤ 9223372036854775807 ∧ Prs w w.heap.size A n o.sk := by
  obtain ⟨f5, h5, hf5⟩ := Option.map_eq_some_iff.1 opts_sacks
  obtain ⟨e5, o5⟩ := Prod.mk.inj hf5
  obtain ⟨fuel, hf⟩ := hd
  have ht := is_opts
  obtain ⟨cs, rfl, hsz, ts', hts', _, hcell⟩ : ∃ cs, v = .agg cs ∧ cs.size = Tryd.prog.cellsOf 31 ∧ Row.okWide Tryd.prog w r b0 31 cs := by
    simpa [Value.okWide, ht] using hval
  obtain ⟨l⟩ := cs
  have hl : l.length = 24 := by rw [show Tryd.prog.cellsOf 31 = 24 by kernel_rfl] at hsz; simpa using hsz
  rw [show Tryd.prog.cellTypes Tryd.prog.depth 31 = some ([4, 26, 4, 5, 4, 28, 4, 27, 27, 4, 5, 5] ++ List.replicate 12 5) by kernel_rfl] at hts'
  obtain rfl := Option.some.inj hts'
  have key : ∀ i, i < 24 → ∃ v u, l[i]? = some v ∧ ([4, 26, 4, 5, 4, 28, 4, 27, 27, 4, 5, 5] ++ List.replicate 12 5)[i]? = some u ∧ Cell.okWide Tryd.prog w r b0 u v := fun i hi => by
    have e : l[i]? = some (l[i]'(by omega)) := List.getElem?_eq_getElem _
    obtain ⟨u, h1, h2⟩ := hcell i (l[i]'(by omega)) (by rw [← e]; simp)
    refine ⟨_, u, e, ?_, h2⟩
    have : i % 24 = i := Nat.mod_eq_of_lt hi
    simpa [this] using h1
  have kB : ∀ i, i < 24 → ([4, 26, 4, 5, 4, 28, 4, 27, 27, 4, 5, 5] ++ List.replicate 12 5)[i]? = some 4 → ∃ s, l[i]? = some (.bool s) := fun i hi hT => by
    obtain ⟨v, u, h1, h2, h3⟩ := key i hi
    rw [hT] at h2
    obtain rfl := Option.some.inj h2
    obtain ⟨s, rfl⟩ := cell_boolO Tryd.underlying4 h3
    exact ⟨s, h1⟩
  have kI : ∀ (k : IntKind) (T : TypeId) (hT0 : Tryd.prog.underlying T = some (.int k)) i, i < 24 → ([4, 26, 4, 5, 4, 28, 4, 27, 27, 4, 5, 5] ++ List.replicate 12 5)[i]? = some T → ∃ z, l[i]? = some (.int k z) ∧ k.min ≤ z ∧ z ≤ k.max := fun k T hT0 i hi hT => by
    obtain ⟨v, u, h1, h2, h3⟩ := key i hi
    rw [hT] at h2
    obtain rfl := Option.some.inj h2
    obtain ⟨z, rfl, hz⟩ := cell_intO hT0 h3
    exact ⟨z, h1, hz⟩
  obtain ⟨x0, h0⟩ := kB 0 (by omega) rfl
  obtain ⟨x1, h1, y1⟩ := kI .u16 _ Tryd.underlying26 1 (by omega) rfl
  obtain ⟨x2, h2⟩ := kB 2 (by omega) rfl
  obtain ⟨x3, h3, y3⟩ := kI .u8 _ Tryd.underlying5 3 (by omega) rfl
  obtain ⟨x4, h4⟩ := kB 4 (by omega) rfl
  obtain ⟨x6, h6⟩ := kB 6 (by omega) rfl
  obtain ⟨x7, h7, y7⟩ := kI .u32 _ Tryd.underlying27 7 (by omega) rfl
  obtain ⟨x8, h8, y8⟩ := kI .u32 _ Tryd.underlying27 8 (by omega) rfl
  obtain ⟨x9, h9⟩ := kB 9 (by omega) rfl
  obtain ⟨x10, h10, y10⟩ := kI .u8 _ Tryd.underlying5 10 (by omega) rfl
  obtain ⟨x11, h11, y11⟩ := kI .u8 _ Tryd.underlying5 11 (by omega) rfl
  have km : ∀ i, i < 12 → ∃ z, l[12 + i]? = some (.int .u8 z) ∧ Byte z := fun i hi => by
    obtain ⟨z, h, hz⟩ := kI .u8 _ Tryd.underlying5 (12 + i) (by omega) (by
      rw [List.getElem?_append_right (by simp), List.getElem?_replicate, if_pos (by simp; omega)])
    exact ⟨z, h, by simpa [Byte, IntKind.min, IntKind.max, IntKind.signed, IntKind.bits] using hz⟩
  obtain ⟨f, hf12⟩ := Deep.choose_lt km
  obtain ⟨ys, n5, _, _, _, hyl, hg⟩ := DataW.trod_struct ht hf
  have g5 := hg 5 f5 h5
  rw [e5, o5, show Tryd.prog.cellsOf 28 = 1 by kernel_rfl] at g5
  have e40 : ((Value.agg { toList := l }).cells.toList.drop 5).take 1 = [l[5]'(by omega)] := by
    have : (Value.agg { toList := l }).cells.toList = l := by simp [Value.cells]
    rw [this, List.drop_eq_getElem_cons (by omega)]
    rfl
  rw [e40] at g5
  have h5' : l[5]? = some (l[5]'(by omega)) := List.getElem?_eq_getElem _
  obtain ⟨A, n, c, qs, hA, hnc, hcm, hN, hwf⟩ : ∃ A n c qs, l[5]? = some (.slice A n c) ∧ n ≤ c ∧ c ≤ 9223372036854775807 ∧ Prs w w.heap.size A n qs ∧ ∀ p ∈ qs, U32 p.1 ∧ U32 p.2 := by
    cases hy : ys[5]? with
    | none =>
      have h1 := (Array.getElem?_eq_some_iff.1 h5).1
      have h2 := List.getElem?_eq_none_iff.1 hy
      omega
    | some y =>
      rw [hy] at g5
      obtain ⟨A, n, c, qs, hcs, h⟩ := open_prs hsp g5
      rw [h5', (List.cons.inj hcs).1]
      exact ⟨A, n, c, qs, rfl, h⟩
  have by8 : ∀ {z : Int}, IntKind.u8.min ≤ z ∧ z ≤ IntKind.u8.max → Byte z := fun {z} h => by simpa [Byte, IntKind.min, IntKind.max, IntKind.signed, IntKind.bits] using h
  have by32 : ∀ {z : Int}, IntKind.u32.min ≤ z ∧ z ≤ IntKind.u32.max → U32 z := fun {z} h => by simpa [U32, IntKind.min, IntKind.max, IntKind.signed, IntKind.bits] using h
  refine ⟨⟨x0, x1, x2, x3, x4, qs, x6, x7, x8, x9, x10, x11, (List.range 12).map f⟩, A, n, c, ?_, ⟨by simpa [IntKind.min, IntKind.max, IntKind.signed, IntKind.bits] using y1, by8 y3, hwf, by32 y7, by32 y8, by8 y10, by8 y11, by simp, fun x hx => ?_⟩, hnc, hcm, hN⟩
  · unfold optV
    congr 2
    unfold optL
    apply List.ext_getElem?
    intro j
    by_cases hj : j < 12
    · rw [List.getElem?_append_left (by simp [optH]; omega)]
      match j, hj with
      | 0, _ => exact h0
      | 1, _ => exact h1
      | 2, _ => exact h2
      | 3, _ => exact h3
      | 4, _ => exact h4
      | 5, _ => exact hA
      | 6, _ => exact h6
      | 7, _ => exact h7
      | 8, _ => exact h8
      | 9, _ => exact h9
      | 10, _ => exact h10
      | 11, _ => exact h11
    · rw [List.getElem?_append_right (by simp [optH]; omega), show j - (optH ⟨x0, x1, x2, x3, x4, qs, x6, x7, x8, x9, x10, x11, (List.range 12).map f⟩ A n c).length = j - 12 by simp [optH]]
      by_cases hj2 : j < 24
      · have e := (hf12 (j - 12) (by omega)).1
        rw [show 12 + (j - 12) = j by omega] at e
        rw [e]
        simp [macL, show j - 12 < 12 by omega]
      · rw [List.getElem?_eq_none (by omega), List.getElem?_eq_none (by simp [macL]; omega)]
  · obtain ⟨i, hi, rfl⟩ := List.mem_map.1 hx
    exact (hf12 i (List.mem_range.1 hi)).2
theorem run_each {P : Program} (w : World) (d : Nat) (e : TypeId) (K : IntKind) (xs ys : Array Value) (f g : Nat → Int) (he : P.underlying e = some (.int K)) :
    ∀ is : List Nat, (∀ j ∈ is, xs[j]? = some (.int K (f j)) ∧ ys[j]? = some (.int K (g j))) → (Op.eqItems (d + 1) e 1 xs ys is).run P w = .ok (is.all fun j => f j == g j) w
  | [], _ => by simp [Op.eqItems]
  | j :: is, h => by
    obtain ⟨hx, hy⟩ := h j (by simp)
    have hagg : (isAgg e).run P w = .ok false w := by
      unfold isAgg
      rw [Sem.run_bind, run_underlying he w]
      rfl
    have hp : (part e xs (j * 1)).run P w = .ok (.int K (f j)) w := by
      rw [Nat.mul_one]
      simp [part, Sem.run_bind, hagg, hx]
    have hp2 : (part e ys (j * 1)).run P w = .ok (.int K (g j)) w := by
      rw [Nat.mul_one]
      simp [part, Sem.run_bind, hagg, hy]
    have ih := run_each w d e K xs ys f g he is fun i hi => h i (by simp [hi])
    have hq := run_equalIn_int (P := P) w d e K K (f j) (g j) he
    by_cases hfg : f j = g j
    · have hb : (f j == g j) = true := beq_iff_eq.2 hfg
      simp only [Op.eqItems, Sem.run_bind, hp, hp2, Result.andThen_ok, hq, hb, Bool.not_true, Bool.false_eq_true, if_false, ih, List.all_cons, Bool.true_and]
    · have hb : (f j == g j) = false := beq_eq_false_iff_ne.2 hfg
      simp only [Op.eqItems, Sem.run_bind, hp, hp2, Result.andThen_ok, hq, hb, Bool.not_false, if_true, Sem.run_pure, List.all_cons, Bool.false_and]
theorem mac_at {xs : List Int} {j : Nat} (hj : j < xs.length) : (macL xs).toArray[j]? = some (.int .u8 (xs.getD j 0)) := by
  simp [macL, List.getD_eq_getElem?_getD, hj]
set_option maxRecDepth 100000 in
theorem eq12 {xs ys : List Int} (hx : xs.length = 12) (hy : ys.length = 12) (w : World) : (Op.equalIn 10000 29 (.agg (macL xs).toArray) (.agg (macL ys).toArray)).run Tryd.prog w = .ok (decide (xs = ys)) w := by
  obtain ⟨i0, hi0, hz0, hz1, hz2⟩ := info_parts byte_inf
  rw [show (10000 : Nat) = 9998 + 1 + 1 from rfl, run_equalIn_array w _ (macL xs).toArray (macL ys).toArray Tryd.underlying29 hi0, show Tryd.prog.cellsOf 5 = 1 by kernel_rfl,
    run_each w _ _ .u8 (macL xs).toArray (macL ys).toArray (fun j => xs.getD j 0) (fun j => ys.getD j 0) rfl _ fun j hj => ⟨mac_at (by rw [hx]; exact List.mem_range.1 hj), mac_at (by rw [hy]; exact List.mem_range.1 hj)⟩]
  congr 1
  by_cases h : xs = ys
  · subst h
    simp
  · rw [decide_eq_false h]
    refine Bool.eq_false_iff.2 fun h2 => h ?_
    apply List.ext_getElem?
    intro j
    by_cases hj : j < 12
    · have := List.all_eq_true.1 h2 j (List.mem_range.2 hj)
      have h3 : xs.getD j 0 = ys.getD j 0 := beq_iff_eq.1 this
      rw [List.getD_eq_getElem?_getD, List.getD_eq_getElem?_getD, List.getElem?_eq_getElem (by omega), List.getElem?_eq_getElem (by omega)] at h3
      rw [List.getElem?_eq_getElem (by omega), List.getElem?_eq_getElem (by omega)]
      exact congrArg some h3
    · rw [List.getElem?_eq_none (by omega), List.getElem?_eq_none (by omega)]
theorem guard12 : Tryd.prog.eqGuardType Tryd.prog.depth 29 = false := by kernel_rfl
def pairV (p : Int × Int) : Array Value := #[.int .u32 p.1, .int .u32 p.2]
theorem fields_two {P : Program} {d : Nat} {xs ys : Array Value} {f1 f2 : Field} {w : World} {a1 b1 a2 b2 : Value} {r1 r2 : Bool} (n1 : f1.name ≠ "_") (n2 : f2.name ≠ "_")
    (p1 : (part f1.type xs f1.offset).run P w = .ok a1 w) (p2 : (part f1.type ys f1.offset).run P w = .ok b1 w) (p3 : (part f2.type xs f2.offset).run P w = .ok a2 w) (p4 : (part f2.type ys f2.offset).run P w = .ok b2 w)
    (q1 : (Op.equalIn d f1.type a1 b1).run P w = .ok r1 w) (q2 : (Op.equalIn d f2.type a2 b2).run P w = .ok r2 w) : (Op.eqFields d xs ys [f1, f2]).run P w = .ok (r1 && r2) w := by
  cases r1 <;> cases r2 <;> simp [Op.eqFields, n1, n2, Sem.run_bind, p1, p2, p3, p4, q1, q2]
def fLeft : Field := { name := "Left", type := 27, offset := 0, embedded := false, tag := "", pkgPath := "", byteOffset := 0 }
def fRight : Field := { name := "Right", type := 27, offset := 1, embedded := false, tag := "", pkgPath := "", byteOffset := 4 }
theorem nLeft : fLeft.name ≠ "_" := by show ("Left" : String) ≠ "_"; decide
theorem nRight : fRight.name ≠ "_" := by show ("Right" : String) ≠ "_"; decide
theorem fields_blk : (Tryd.prog.fieldsOf 101).toList = [fLeft, fRight] := by
  simp [Program.fieldsOf, Tryd.underlying101, fLeft, fRight]
theorem is_blk : Tryd.prog.underlying 101 = some (.struct (Tryd.prog.fieldsOf 101)) := by simp [Program.fieldsOf, Tryd.underlying101]
theorem held_blk : Tryd.prog.stoodInHeld 101 = false := by kernel_rfl
theorem guard_blk : Tryd.prog.eqGuardType Tryd.prog.depth 101 = false := by kernel_rfl
theorem part_int {P : Program} {T : TypeId} {K : IntKind} (hT : P.underlying T = some (.int K)) (xs : Array Value) (j : Nat) (v : Value) (hv : xs[j]? = some v) (w : World) : (part T xs j).run P w = .ok v w := by
  have hagg : (isAgg T).run P w = .ok false w := by
    unfold isAgg
    rw [Sem.run_bind, run_underlying hT w]
    rfl
  simp [part, Sem.run_bind, hagg, hv]
theorem eqB (p q : Int × Int) (w : World) : (Op.equalIn 10000 101 (.agg (pairV p)) (.agg (pairV q))).run Tryd.prog w = .ok (decide (p = q)) w := by
  rw [show (10000 : Nat) = 9998 + 1 + 1 from rfl, run_equalIn_struct w _ _ _ _ is_blk held_blk, fields_blk]
  have p1 := part_int (P := Tryd.prog) Tryd.underlying27 (pairV p) 0 _ rfl w
  have p2 := part_int (P := Tryd.prog) Tryd.underlying27 (pairV q) 0 _ rfl w
  have p3 := part_int (P := Tryd.prog) Tryd.underlying27 (pairV p) 1 _ rfl w
  have p4 := part_int (P := Tryd.prog) Tryd.underlying27 (pairV q) 1 _ rfl w
  have q1 := run_equalIn_int (P := Tryd.prog) w 9998 27 .u32 .u32 p.1 q.1 Tryd.underlying27
  have q2 := run_equalIn_int (P := Tryd.prog) w 9998 27 .u32 .u32 p.2 q.2 Tryd.underlying27
  rw [fields_two (f1 := fLeft) (f2 := fRight) nLeft nRight p1 p2 p3 p4 q1 q2]
  refine congrArg (fun q => Result.ok q w) ?_
  obtain ⟨a, b⟩ := p
  obtain ⟨c, d⟩ := q
  by_cases e1 : a = c <;> by_cases e2 : b = d <;> simp [e1, e2]
/-- what the variable of the kinds holds -/
structure Kd (w : World) : Prop where
  cell : ∀ j v, (macL kinds)[j]? = some v → w.cell? ⟨0, 0 + j, none⟩ = some v
  lt : 0 < w.heap.size
theorem Kd.below {w w' : World} {B : Nat} (h : Kd w) (hb : Below B w w') (hB : 0 < B) : Kd w' := ⟨fun j v hv => (hb.cell hB).trans (h.cell j v hv), Nat.lt_of_lt_of_le h.lt hb.size⟩
theorem Kd.bel {w w' : World} (h : Kd w) (hb : Below w.heap.size w w') : Kd w' := h.below hb h.lt
theorem kinds_info : (Tryd.prog.info? 86).map (·.size) = some (macL kinds).length := by kernel_rfl
end Go.Proofs.YtniimgbljhmcoaaDoor.opC

/-
  Packets of IPv6, laid, read, wrapped and turned: plain mathematics over their bytes.
-/
namespace Go.Proofs.YtniimgbljhmcoaaDoor.sxC
open Go.ChangeShapes Go.WideShapes Go.ChangeAt Go.RowKit
open Go.Proofs.YtniimgbljhmcoaaDoor.memC Go.Proofs.YtniimgbljhmcoaaDoor.genC Go.Proofs.YtniimgbljhmcoaaDoor.adC Go.Proofs.YtniimgbljhmcoaaDoor.pkC
set_option linter.unusedVariables false
/-- two bytes, and four, as a number -/
def w2 (bs : List Int) (i : Nat) : Int := bs.getD i 0 * 256 + bs.getD (i + 1) 0
/-- what the headers that are gone past tell -/
structure Hd where
  e : Int
  proto : Int
  whole : Bool
  more : Bool
  off : Int
  id : Int
  rest : List Int
/-- what the headers tell of bytes -/
structure Hd.Ok (h : Hd) : Prop where
  e : 0 ≤ h.e ∧ h.e ≤ 5
  proto : Byte h.proto
  id : 0 ≤ h.id ∧ h.id ≤ 4294967295
  off : 0 ≤ h.off ∧ h.off ≤ 65535
  rest : ∀ x ∈ h.rest, Byte x
end Go.Proofs.YtniimgbljhmcoaaDoor.sxC

/-
  What a reader's Bytes does.
-/
namespace Go.Proofs.YtniimgbljhmcoaaDoor.octC
open Go.ChangeShapes Go.WideShapes Go.ChangeAt Go.RowKit
open Go.Proofs.YtniimgbljhmcoaaDoor.memC
set_option linter.unusedVariables false
theorem Rd.below {w w' : World} {p : Nat} {bs : List Int} (h : Rd w p bs) (b : Below w.heap.size w w') : Rd w' p bs := by
  obtain ⟨A, n, c, h1, h2, h3, N, h4, h5⟩ := h
  exact ⟨A, n, c, (b.cell (p := ⟨p, 0, none⟩) h3).trans h1, (b.frozen (p := ⟨p, 0, none⟩) h3).trans h2, Nat.lt_of_lt_of_le h3 b.size, N.below (b.mono (Nat.le_of_lt h3)), h4, h5⟩
/-- the next bytes, the call's own, and what is left -/
def ByR (w : World) (p : Nat) (bs : List Int) (s : Nat) (e : Ending) (w' : World) : Prop :=
  ∃ A c, e = .returned (.slice A s c) ∧ Own .u8 5 w' w.heap.size (.slice A s c) (bs.take s) ∧ s ≤ c ∧ c ≤ maxLen ∧ Rd w' p (bs.drop s) ∧ Fr (· = p) w w'
theorem bytes_stop (p : Nat) (bs : List Int) (s : Nat) (z : Int) (w : World) (h : Rd w p bs) (hz : (s : Int) = z) (hs : bs.length < s) :
    Calls Tryd.prog 77 #[.pointer (some ⟨p, 0, none⟩), .int .i64 z] w fun e w' => e = stopped ∧ w = w' := by
  obtain ⟨A, n, c, hc, hf, hp, N, hnc, hcm⟩ := h
  have hn : n < s := by rw [← N.len]; exact hs
  have T := Lib.hid (take_stop p A n c s w hc (by omega) hn)
  rw [hz] at T
  clear hc hf N hnc hcm hz hs hn
  go_enter Tryd.func77, Tryd.ntmps77
  go_wp2_with (first
    | (go_at_call 92; refine T.out.mono ?_; rintro e w' ⟨he, rfl⟩; rw [stopped_eq] at he; subst he))
  exact ⟨rfl, rfl, rfl⟩
theorem bytes_ok (p : Nat) (bs : List Int) (s : Nat) (z : Int) (w : World) (h : Rd w p bs) (hz : (s : Int) = z) (hs : s ≤ bs.length) (hl : bs.length ≤ 100000) :
    Calls Tryd.prog 77 #[.pointer (some ⟨p, 0, none⟩), .int .i64 z] w (ByR w p bs s) := by
  by_cases h0 : s = 0
  · subst h0
    have T := Lib.hid (take_zero (some ⟨p, 0, none⟩) z w (by omega))
    have HR := Lib.hid h
    clear h hs hl hz
    go_enter Tryd.func77, Tryd.ntmps77
    go_wp2_with (first
      | (go_at_call 92; refine T.out.mono ?_; rintro e w' ⟨rfl, rfl⟩)
      | (go_at_call 80; refine (clone_none 0 0 _).mono ?_; rintro e w' ⟨rfl, rfl⟩))
    go_ret
    exact ⟨none, 0, rfl, Own.nil _ _, Nat.le_refl _, Nat.zero_le _, by simpa using HR.out, Fr.refl _⟩
  · obtain ⟨A, n, c, hc, hf, hp, N, hnc, hcm⟩ := h
    have hn : s ≤ n := by rw [← N.len]; exact hs
    have R := Rd.set_ (s := s) hc hf hp N hn hnc hcm
    have N2 : Nums .u8 (w.setCell ⟨p, 0, none⟩ (.slice (if c = s then A else A.map (·.add s)) (n - s) (c - s))) p A s (bs.take s) :=
      (N.upto hn).below ((Below.refl _ _).setCell (p := ⟨p, 0, none⟩) (Nat.le_refl _) _)
    have F1 : Fr (· = p) w (w.setCell ⟨p, 0, none⟩ (.slice (if c = s then A else A.map (·.add s)) (n - s) (c - s))) := Fr.setCell (S := fun x => x = p) _ (fun _ => rfl) _
    have hz2 : w.heap.size = (w.setCell ⟨p, 0, none⟩ (.slice (if c = s then A else A.map (·.add s)) (n - s) (c - s))).heap.size := by simp [World.setCell]
    have TK := Lib.hid (take_ok p A n c s w hc hf (by omega) hn hnc hcm)
    rw [hz] at TK
    clear hc hf
    generalize w.setCell ⟨p, 0, none⟩ (.slice (if c = s then A else A.map (·.add s)) (n - s) (c - s)) = w1 at *
    have CL := Lib.hid (clone_any A s c (bs.take s) w1 (N2.more (by omega)) (by rw [N.len] at hl; omega))
    have HR := Lib.hid R
    have HF := Lib.hid F1
    have HZ := Lib.hid hz2
    have HL := Lib.hid (show (bs.take s).length = s by rw [List.length_take]; omega)
    clear N N2 R F1 hz2 hnc hcm hs hl h0 hn hz
    go_enter Tryd.func77, Tryd.ntmps77
    go_wp2_with (first
      | (go_at_call 92; refine TK.out.mono ?_; rintro e w' ⟨rfl, rfl⟩)
      | (go_at_call 80; refine CL.out.mono ?_; rintro e w2 ⟨A2, c2, he, O, h1, h2, N, B⟩
         rw [HL.out] at he O h1
         subst he
         have HO := Lib.hid O
         have HB := Lib.hid B
         clear O N B))
    go_ret
    refine ⟨A2, c2, rfl, ?_, h1, h2, HR.out.below HB.out, HF.out.trans (Fr.below HB.out)⟩
    rw [HZ.out]; exact HO.out
theorem Fr.setRow {S : Nat → Prop} {w w1 : World} (h : Fr S w w1) {g : Nat} (hg : w.heap.size ≤ g) (cs : Array Value) : Fr S w (w1.setRow g cs) :=
  ⟨h.os, h.tape, h.output, by simpa using h.size, fun k hk hn => (setRow_other _ _ _ _ (by omega)).trans (h.block k hk hn)⟩
theorem Fr.row {S : Nat → Prop} {w w1 : World} (h : Fr S w w1) {g : Nat} {o : Obj} (hr : w.heap[g]? = some o) (hn : ¬ S g) : w1.heap[g]? = some o := by
  have hg : g < w.heap.size := by
    rcases Nat.lt_or_ge g w.heap.size with h' | h'
    · exact h'
    · rw [Array.getElem?_eq_none h'] at hr; cases hr
  rw [h.block g hg hn]; exact hr
/-- own bytes stand where a block below them turns -/
theorem Fr.own {p B : Nat} {w w1 : World} {v : Value} {xs : List Int} (h : Fr (· = p) w w1) (hp : p < B) (O : Own .u8 5 w B v xs) : Own .u8 5 w1 B v xs :=
  O.keep fun g h1 h2 => h.block g h2 (by show ¬ g = p; omega)
end Go.Proofs.YtniimgbljhmcoaaDoor.octC

/-
  A reader in a reader: the next byte, an address, a header that is gone past.
-/
namespace Go.Proofs.YtniimgbljhmcoaaDoor.octC
open Go.ChangeShapes Go.WideShapes Go.ChangeAt Go.RowKit
open Go.Proofs.YtniimgbljhmcoaaDoor.memC
set_option linter.unusedVariables false
/-- a reader whose bytes lie below B -/
def RdD (w : World) (p B : Nat) (bs : List Int) : Prop := ∃ A n c, w.cell? ⟨p, 0, none⟩ = some (.slice A n c) ∧ w.frozen? ⟨p, 0, none⟩ = false ∧ p < w.heap.size ∧ Nums .u8 w B A n bs ∧ n ≤ c ∧ c ≤ 9223372036854775807 ∧ B ≤ p
section
variable {w w' : World} {p B : Nat} {bs : List Int}
theorem RdD.lt (h : RdD w p B bs) : p < w.heap.size := by obtain ⟨_, _, _, _, _, h3, _⟩ := h; exact h3
theorem RdD.le (h : RdD w p B bs) : B ≤ p := by obtain ⟨_, _, _, _, _, _, _, _, _, h6⟩ := h; exact h6
theorem RdD.keep (h : RdD w p B bs) (hs : w.heap.size ≤ w'.heap.size) (hp : w'.heap[p]? = w.heap[p]?) (hk : ∀ k, k < B → w'.heap[k]? = w.heap[k]?) : RdD w' p B bs := by
  obtain ⟨A, n, c, h1, h2, h3, N, h4, h5, h6⟩ := h
  exact ⟨A, n, c, (World.cell?_of_block (w := w) hp).trans h1, (World.frozen?_of_block (w := w) hp).trans h2, by omega, N.keep fun a ha => World.cell?_of_block (w := w) (hk _ ha), h4, h5, h6⟩
theorem RdD.below (h : RdD w p B bs) (b : Below w.heap.size w w') : RdD w' p B bs :=
  h.keep b.size (b.block _ h.lt) fun k hk => b.block _ (by have := h.lt; have := h.le; omega)
theorem RdD.fr {S : Nat → Prop} (h : RdD w p B bs) (F : Fr S w w') (hS : ∀ k, S k → B ≤ k ∧ k ≠ p) : RdD w' p B bs :=
  h.keep F.size (F.block _ h.lt fun e => (hS _ e).2 rfl) fun k hk => F.block _ (by have := h.lt; have := h.le; omega) fun e => by have := (hS _ e).1; omega
theorem RdD.set_ {s : Nat} {A : Option Addr} {n c : Nat} (h : w.cell? ⟨p, 0, none⟩ = some (.slice A n c)) (hf : w.frozen? ⟨p, 0, none⟩ = false) (hp : p < w.heap.size) (N : Nums .u8 w B A n bs) (hn : s ≤ n) (hnc : n ≤ c) (hc : c ≤ 9223372036854775807) (hB : B ≤ p) :
    RdD (w.setCell ⟨p, 0, none⟩ (.slice (if c = s then A else A.map (·.add s)) (n - s) (c - s))) p B (bs.drop s) :=
  ⟨(if c = s then A else A.map (·.add s)), n - s, c - s, by go_simp, by go_simp, by simpa [World.setCell] using hp, (N.cut hn hnc).below ((Below.refl _ _).setCell (p := ⟨p, 0, none⟩) hB _), by omega, by omega, hB⟩
end
/-- the next number -/
def NumD (w : World) (p B : Nat) (bs : List Int) (s : Nat) (e : Ending) (w' : World) : Prop := e = .returned (.int .u64 (getZ (bs.take s))) ∧ RdD w' p B (bs.drop s) ∧ Fr (· = p) w w'
set_option maxRecDepth 100000 in
theorem num_okD (p B : Nat) (bs : List Int) (size : Int) (w : World) (h : RdD w p B bs) (h0 : 0 < size) (h2 : size ≤ 9223372036854775807) (hs : fitN size ≤ bs.length) (hl : bs.length ≤ 100000) (hy : ∀ x ∈ bs, Byte x) :
    Calls Tryd.prog 97 #[.pointer (some ⟨p, 0, none⟩), .int .i64 size] w (NumD w p B bs (fitN size)) := by
  obtain ⟨A, n, c, hc, hf, hp, N, hnc, hcm, hB⟩ := h
  have e0 : 0 < fitN size := by have := fitN_eq size; omega
  have hn : fitN size ≤ n := by rw [← N.len]; exact hs
  have h8 := fitN_le size
  have R := RdD.set_ (s := fitN size) hc hf hp N hn hnc hcm hB
  have N2 : Nums .u8 (w.setCell ⟨p, 0, none⟩ (.slice (if c = fitN size then A else A.map (·.add (fitN size))) (n - fitN size) (c - fitN size))) B A (fitN size) (bs.take (fitN size)) :=
    (N.upto hn).below ((Below.refl _ _).setCell (p := ⟨p, 0, none⟩) hB _)
  have G : Fr (· = p) w (w.setCell ⟨p, 0, none⟩ (.slice (if c = fitN size then A else A.map (·.add (fitN size))) (n - fitN size) (c - fitN size))) := Fr.setCell (S := fun x => x = p) _ (fun _ => rfl) _
  have hz : B ≤ (w.setCell ⟨p, 0, none⟩ (.slice (if c = fitN size then A else A.map (·.add (fitN size))) (n - fitN size) (c - fitN size))).heap.size := by simp [World.setCell]; omega
  have H := Lib.hid hc; have HF := Lib.hid hf
  clear hc hf
  have TK := take_ok p A n c (fitN size) w H.out HF.out e0 hn hnc hcm
  generalize w.setCell ⟨p, 0, none⟩ (.slice (if c = fitN size then A else A.map (·.add (fitN size))) (n - fitN size) (c - fitN size)) = w1 at *
  have EL := Lib.hid (last8_take bs (fitN size) h8)
  go_enter Tryd.func97, Tryd.ntmps97
  go_wp2_with (first
    | (go_at_call 62; refine (fit_any _ _ (by omega) h2).mono ?_; rintro e w' ⟨rfl, rfl⟩)
    | (go_at_call 92; refine TK.mono ?_; rintro e w' ⟨rfl, rfl⟩)
    | (go_at_call 100; refine (get_any _ _ _ _ _ (N2.more hz) (by omega) (by omega) hcm (fun x hx => hy x (List.mem_of_mem_take hx))).mono ?_; rintro e w' ⟨rfl, rfl⟩))
  go_ret
  exact ⟨ret_int (by rw [EL.out]), R, G⟩
/-- the next bytes, the call's own, and what is left -/
def ByD (w : World) (p B : Nat) (bs : List Int) (s : Nat) (e : Ending) (w' : World) : Prop :=
  ∃ A c, e = .returned (.slice A s c) ∧ Own .u8 5 w' w.heap.size (.slice A s c) (bs.take s) ∧ s ≤ c ∧ c ≤ maxLen ∧ RdD w' p B (bs.drop s) ∧ Fr (· = p) w w'
theorem bytes_okD (p B : Nat) (bs : List Int) (s : Nat) (z : Int) (w : World) (h : RdD w p B bs) (hz : (s : Int) = z) (hs : s ≤ bs.length) (hl : bs.length ≤ 100000) :
    Calls Tryd.prog 77 #[.pointer (some ⟨p, 0, none⟩), .int .i64 z] w (ByD w p B bs s) := by
  by_cases h0 : s = 0
  · subst h0
    have T := Lib.hid (take_zero (some ⟨p, 0, none⟩) z w (by omega))
    have HR := Lib.hid h
    clear h hs hl hz
    go_enter Tryd.func77, Tryd.ntmps77
    go_wp2_with (first
      | (go_at_call 92; refine T.out.mono ?_; rintro e w' ⟨rfl, rfl⟩)
      | (go_at_call 80; refine (clone_none 0 0 _).mono ?_; rintro e w' ⟨rfl, rfl⟩))
    go_ret
    exact ⟨none, 0, rfl, Own.nil _ _, Nat.le_refl _, Nat.zero_le _, by simpa using HR.out, Fr.refl _⟩
  · obtain ⟨A, n, c, hc, hf, hp, N, hnc, hcm, hB⟩ := h
    have hn : s ≤ n := by rw [← N.len]; exact hs
    have R := RdD.set_ (s := s) hc hf hp N hn hnc hcm hB
    have N2 : Nums .u8 (w.setCell ⟨p, 0, none⟩ (.slice (if c = s then A else A.map (·.add s)) (n - s) (c - s))) B A s (bs.take s) :=
      (N.upto hn).below ((Below.refl _ _).setCell (p := ⟨p, 0, none⟩) hB _)
    have F1 : Fr (· = p) w (w.setCell ⟨p, 0, none⟩ (.slice (if c = s then A else A.map (·.add s)) (n - s) (c - s))) := Fr.setCell (S := fun x => x = p) _ (fun _ => rfl) _
    have hz2 : w.heap.size = (w.setCell ⟨p, 0, none⟩ (.slice (if c = s then A else A.map (·.add s)) (n - s) (c - s))).heap.size := by simp [World.setCell]
    have TK := Lib.hid (take_ok p A n c s w hc hf (by omega) hn hnc hcm)
    rw [hz] at TK
    clear hc hf
    generalize w.setCell ⟨p, 0, none⟩ (.slice (if c = s then A else A.map (·.add s)) (n - s) (c - s)) = w1 at *
    have CL := Lib.hid (clone_any A s c (bs.take s) w1 (N2.more (by omega)) (by rw [N.len] at hl; omega))
    have HR := Lib.hid R
    have HF := Lib.hid F1
    have HZ := Lib.hid hz2
    have HL := Lib.hid (show (bs.take s).length = s by rw [List.length_take]; omega)
    clear N N2 R F1 hz2 hnc hcm hs hl h0 hn hz
    go_enter Tryd.func77, Tryd.ntmps77
    go_wp2_with (first
      | (go_at_call 92; refine TK.out.mono ?_; rintro e w' ⟨rfl, rfl⟩)
      | (go_at_call 80; refine CL.out.mono ?_; rintro e w2 ⟨A2, c2, he, O, h1, h2, N, Bb⟩
         rw [HL.out] at he O h1
         subst he
         have HO := Lib.hid O
         have HB := Lib.hid Bb
         clear O N Bb))
    go_ret
    refine ⟨A2, c2, rfl, ?_, h1, h2, HR.out.below HB.out, HF.out.trans (Fr.below HB.out)⟩
    rw [HZ.out]; exact HO.out
/-- a reader of the next bytes, and what is left -/
def SubR (w : World) (p B : Nat) (bs : List Int) (s : Nat) (e : Ending) (w' : World) : Prop :=
  ∃ q, e = .returned (.pointer (some ⟨q, 0, none⟩)) ∧ w.heap.size ≤ q ∧ RdD w' q B (bs.take s) ∧ RdD w' p B (bs.drop s) ∧ Fr (· = p) w w'
theorem sub_stop (p : Nat) (bs : List Int) (s : Nat) (z : Int) (w : World) (h : Rd w p bs) (hz : (s : Int) = z) (hs : bs.length < s) :
    Calls Tryd.prog 76 #[.pointer (some ⟨p, 0, none⟩), .int .i64 z] w fun e w' => e = stopped ∧ w = w' := by
  obtain ⟨A, n, c, hc, hf, hp, N, hnc, hcm⟩ := h
  have hn : n < s := by rw [← N.len]; exact hs
  have T := Lib.hid (take_stop p A n c s w hc (by omega) hn)
  rw [hz] at T
  clear hc hf N hnc hcm hz hs hn
  go_enter Tryd.func76, Tryd.ntmps76
  go_wp2_with (first
    | (go_at_call 92; refine T.out.mono ?_; rintro e w' ⟨he, rfl⟩; rw [stopped_eq] at he; subst he))
  exact ⟨rfl, rfl, rfl⟩
theorem sub_ok (p B : Nat) (bs : List Int) (s : Nat) (z : Int) (w : World) (h : RdD w p B bs) (hz : (s : Int) = z) (hs : s ≤ bs.length) :
    Calls Tryd.prog 76 #[.pointer (some ⟨p, 0, none⟩), .int .i64 z] w (SubR w p B bs s) := by
  by_cases h0 : s = 0
  · subst h0
    have T := Lib.hid (take_zero (some ⟨p, 0, none⟩) z w (by omega))
    have HR := Lib.hid h
    have HB := Lib.hid (show B ≤ w.heap.size by have := h.lt; have := h.le; omega)
    clear h hs hz
    go_enter Tryd.func76, Tryd.ntmps76
    go_wp2_with (first
      | (go_at_call 92; refine T.out.mono ?_; rintro e w' ⟨rfl, rfl⟩))
    go_ret
    refine ⟨w.heap.size, rfl, Nat.le_refl _, ⟨none, 0, 0, by go_simp, by go_simp, by simp, Nums.none_ 0, by omega, by omega, HB.out⟩, ?_, Fr.alloc _ _⟩
    rw [List.drop_zero]
    exact HR.out.below ((Below.refl _ _).alloc (Nat.le_refl _) _)
  · obtain ⟨A, n, c, hc, hf, hp, N, hnc, hcm, hB⟩ := h
    have hn : s ≤ n := by rw [← N.len]; exact hs
    have R := RdD.set_ (s := s) hc hf hp N hn hnc hcm hB
    have N2 : Nums .u8 (w.setCell ⟨p, 0, none⟩ (.slice (if c = s then A else A.map (·.add s)) (n - s) (c - s))) B A s (bs.take s) :=
      (N.upto hn).below ((Below.refl _ _).setCell (p := ⟨p, 0, none⟩) hB _)
    have F1 : Fr (· = p) w (w.setCell ⟨p, 0, none⟩ (.slice (if c = s then A else A.map (·.add s)) (n - s) (c - s))) := Fr.setCell (S := fun x => x = p) _ (fun _ => rfl) _
    have hz2 : w.heap.size = (w.setCell ⟨p, 0, none⟩ (.slice (if c = s then A else A.map (·.add s)) (n - s) (c - s))).heap.size := by simp [World.setCell]
    have TK := Lib.hid (take_ok p A n c s w hc hf (by omega) hn hnc hcm)
    rw [hz] at TK
    clear hc hf
    generalize w.setCell ⟨p, 0, none⟩ (.slice (if c = s then A else A.map (·.add s)) (n - s) (c - s)) = w1 at *
    have HR := Lib.hid R
    have HF := Lib.hid F1
    have HZ := Lib.hid hz2
    have HP := Lib.hid hp
    have HN := Lib.hid N2
    have HC := Lib.hid hnc
    have HM := Lib.hid hcm
    have HS := Lib.hid hn
    have HBp := Lib.hid hB
    clear N N2 R F1 hz2 hnc hcm hs h0 hn hz hp hB
    go_enter Tryd.func76, Tryd.ntmps76
    go_wp2_with (first
      | (go_at_call 92; refine TK.out.mono ?_; rintro e w' ⟨rfl, rfl⟩))
    go_ret
    have hp := HP.out
    have hz2 := HZ.out
    have hB := HBp.out
    refine ⟨w1.heap.size, rfl, by omega, ⟨A, s, c, by go_simp, by go_simp, by simp, ?_, by have := HC.out; have := HS.out; omega, HM.out, by omega⟩, HR.out.below ((Below.refl _ _).alloc (Nat.le_refl _) _), HF.out.trans (Fr.alloc _ _)⟩
    exact HN.out.below ((Below.refl _ _).alloc (by omega) _)
end Go.Proofs.YtniimgbljhmcoaaDoor.octC
namespace Go.Proofs.YtniimgbljhmcoaaDoor.sxC
open Go.ChangeShapes Go.WideShapes Go.ChangeAt Go.RowKit
open Go.Proofs.YtniimgbljhmcoaaDoor.memC Go.Proofs.YtniimgbljhmcoaaDoor.genC Go.Proofs.YtniimgbljhmcoaaDoor.adC Go.Proofs.YtniimgbljhmcoaaDoor.pkC
open Go.Proofs.YtniimgbljhmcoaaDoor.octC (Fr Rd RdD stopped)
set_option linter.unusedVariables false
theorem getZ1 {bs : List Int} (h : 1 ≤ bs.length) : octC.getZ (bs.take 1) = bs.getD 0 0 := by
  match bs, h with
  | x :: r, _ => show 0 * 256 + x = x; omega
theorem getZ2 {bs : List Int} (h : 2 ≤ bs.length) : octC.getZ (bs.take 2) = w2 bs 0 := by
  match bs, h with
  | x :: y :: r, _ => show (0 * 256 + x) * 256 + y = x * 256 + y; omega
end Go.Proofs.YtniimgbljhmcoaaDoor.sxC

/-
  The program's small functions: how many bytes an option has, whether there is one, what is missing to a word, the next byte and number.
-/
namespace Go.Proofs.YtniimgbljhmcoaaDoor.opC
open Go.ChangeShapes Go.WideShapes Go.ChangeAt Go.RowKit
open Go.Proofs.YtniimgbljhmcoaaDoor.memC Go.Proofs.YtniimgbljhmcoaaDoor.genC Go.Proofs.YtniimgbljhmcoaaDoor.butC Go.Proofs.YtniimgbljhmcoaaDoor.freeC Go.Proofs.YtniimgbljhmcoaaDoor.adC
open Go.Proofs.YtniimgbljhmcoaaDoor.octC (Fr Rd RdD stopped getZ)
set_option linter.unusedVariables false
theorem size_any (k : Int) (m : Nat) (z : Int) (w : World) (hz : (m : Int) = z) (hm : m ≤ 1000000) : Calls Tryd.prog 59 #[.int .u8 k, .int .i64 z] w fun e w' => e = .returned (.int .i64 (sizeK k m : Nat)) ∧ w' = w := by
  by_cases h2 : k = 2
  · subst h2
    show Calls _ _ _ _ fun e w' => e = .returned (.int .i64 4) ∧ w' = w
    clear hz hm 
    go_enter Tryd.func59, Tryd.ntmps59
    go_wp2_with fail
    go_ret
    exact ⟨rfl, rfl⟩
  by_cases h3 : k = 3
  · subst h3
    show Calls _ _ _ _ fun e w' => e = .returned (.int .i64 3) ∧ w' = w
    clear hz hm h2
    go_enter Tryd.func59, Tryd.ntmps59
    go_wp2_with fail
    go_ret
    exact ⟨rfl, rfl⟩
  by_cases h4 : k = 4
  · subst h4
    show Calls _ _ _ _ fun e w' => e = .returned (.int .i64 2) ∧ w' = w
    clear hz hm h2 h3
    go_enter Tryd.func59, Tryd.ntmps59
    go_wp2_with fail
    go_ret
    exact ⟨rfl, rfl⟩
  by_cases h8 : k = 8
  · subst h8
    show Calls _ _ _ _ fun e w' => e = .returned (.int .i64 10) ∧ w' = w
    clear hz hm h2 h3 h4
    go_enter Tryd.func59, Tryd.ntmps59
    go_wp2_with fail
    go_ret
    exact ⟨rfl, rfl⟩
  by_cases h5 : k = 5
  · subst h5
    have e : ((sizeK 5 m : Nat) : Int) = 2 + 8 * z := by show ((2 + 8 * m : Nat) : Int) = _; omega
    rw [e]
    have w1 : IntKind.i64.wrap (8 * z) = 8 * z := IntWalk.i64_in _ (by omega)
    have w2 : IntKind.i64.wrap (2 + 8 * z) = 2 + 8 * z := IntWalk.i64_in _ (by omega)
    clear e
    clear hz hm h2 h3 h4 h8
    go_enter Tryd.func59, Tryd.ntmps59
    go_wp2_with fail
    go_ret
    exact ⟨rfl, rfl⟩
  by_cases h29 : k = 29
  · subst h29
    show Calls _ _ _ _ fun e w' => e = .returned (.int .i64 16) ∧ w' = w
    clear hz hm h2 h3 h4 h8 h5
    go_enter Tryd.func59, Tryd.ntmps59
    go_wp2_with fail
    go_ret
    exact ⟨rfl, rfl⟩
  have e : sizeK k m = 0 := by unfold sizeK; simp only [h2, h3, h4, h8, h5, h29, if_false]
  rw [e]
  have q2 : (k == 2) = false := beq_eq_false_iff_ne.2 h2
  have q3 : (k == 3) = false := beq_eq_false_iff_ne.2 h3
  have q4 : (k == 4) = false := beq_eq_false_iff_ne.2 h4
  have q8 : (k == 8) = false := beq_eq_false_iff_ne.2 h8
  have q5 : (k == 5) = false := beq_eq_false_iff_ne.2 h5
  have q29 : (k == 29) = false := beq_eq_false_iff_ne.2 h29
  clear hz hm e h2 h3 h4 h8 h5 h29
  go_enter Tryd.func59, Tryd.ntmps59
  go_wp2_with fail
  go_ret
  exact ⟨rfl, rfl⟩
theorem missing_any (n : Nat) (w : World) (hn : n ≤ 1000000) : Calls Tryd.prog 61 #[.int .i64 n] w fun e w' => e = .returned (.int .i64 (padN n : Nat)) ∧ w' = w := by
  obtain ⟨r, hr⟩ : ∃ r : Int, (n : Int).tmod 4 = r := ⟨_, rfl⟩
  have hr2 : r = ((n % 4 : Nat) : Int) := by rw [← hr, Int.tmod_eq_emod_of_nonneg (by omega)]; omega
  have hp : ((padN n : Nat) : Int) = (4 - r).tmod 4 := by rw [Int.tmod_eq_emod_of_nonneg (by omega)]; unfold padN; omega
  rw [hp]
  have w1 : IntKind.i64.wrap (4 - r) = 4 - r := IntWalk.i64_in _ (by omega)
  clear hp hr2 hn
  go_enter Tryd.func61, Tryd.ntmps61
  go_wp2_with fail
  go_ret
  exact ⟨rfl, rfl⟩
set_option maxRecDepth 100000 in
theorem has_any (o : Opt) (A : Option Addr) (n c : Nat) (k : Int) (w : World) (hl : o.mac.length = 12) (hn : o.sk.length = n) : Calls Tryd.prog 58 #[.agg (optV o A n c), .int .u8 k] w (Ret w (.bool (hasB o k))) := by
  obtain ⟨C, hC⟩ : ∃ C, C = optV o A n c := ⟨_, rfl⟩
  have OC : OptC C o A n c := by rw [hC]; exact optC hl A n c
  rw [← hC]
  clear hC
  obtain ⟨W, hW⟩ : ∃ W, W = w.alloc (.cells C 31) := ⟨_, rfl⟩
  have R := Lib.hid (show W.heap[w.heap.size]? = some (.cells C 31 (0, 0)) by rw [hW]; exact heap_alloc_new _ _)
  have HB := Lib.hid (show Below w.heap.size w W by rw [hW]; exact alloc_below _ _)
  by_cases h2 : k = 2
  · subst h2
    have c0 := pkC.PkC.cell R.out OC.hm
    show Calls _ _ _ _ (Ret w (.bool o.hm))
    clear hn hl OC 
    go_enter Tryd.func58, Tryd.ntmps58
    go_upto_region 1 with fail
    rw [← hW]
    clear hW
    go_wp2_with fail
    go_ret
    exact ⟨rfl, HB.out⟩
  by_cases h3 : k = 3
  · subst h3
    have c0 := pkC.PkC.cell R.out OC.hs
    show Calls _ _ _ _ (Ret w (.bool o.hs))
    clear hn hl OC h2
    go_enter Tryd.func58, Tryd.ntmps58
    go_upto_region 1 with fail
    rw [← hW]
    clear hW
    go_wp2_with fail
    go_ret
    exact ⟨rfl, HB.out⟩
  by_cases h4 : k = 4
  · subst h4
    have c0 := pkC.PkC.cell R.out OC.so
    show Calls _ _ _ _ (Ret w (.bool o.so))
    clear hn hl OC h2 h3
    go_enter Tryd.func58, Tryd.ntmps58
    go_upto_region 1 with fail
    rw [← hW]
    clear hW
    go_wp2_with fail
    go_ret
    exact ⟨rfl, HB.out⟩
  by_cases h8 : k = 8
  · subst h8
    have c0 := pkC.PkC.cell R.out OC.ht
    show Calls _ _ _ _ (Ret w (.bool o.ht))
    clear hn hl OC h2 h3 h4
    go_enter Tryd.func58, Tryd.ntmps58
    go_upto_region 1 with fail
    rw [← hW]
    clear hW
    go_wp2_with fail
    go_ret
    exact ⟨rfl, HB.out⟩
  by_cases h5 : k = 5
  · subst h5
    have c0 := pkC.PkC.cell R.out OC.sk
    have e : hasB o 5 = decide (0 < n) := by
      show decide (0 < o.sk.length) = _
      rw [hn]
    rw [e]
    clear e
    clear hn hl OC h2 h3 h4 h8
    go_enter Tryd.func58, Tryd.ntmps58
    go_upto_region 1 with fail
    rw [← hW]
    clear hW
    go_wp2_with fail
    go_ret
    exact ⟨rfl, HB.out⟩
  by_cases h29 : k = 29
  · subst h29
    have c0 := pkC.PkC.cell R.out OC.ha
    show Calls _ _ _ _ (Ret w (.bool o.ha))
    clear hn hl OC h2 h3 h4 h8 h5
    go_enter Tryd.func58, Tryd.ntmps58
    go_upto_region 1 with fail
    rw [← hW]
    clear hW
    go_wp2_with fail
    go_ret
    exact ⟨rfl, HB.out⟩
  have e : hasB o k = false := by unfold hasB; simp only [h2, h3, h4, h8, h5, h29, if_false]
  rw [e]
  have q2 : (k == 2) = false := beq_eq_false_iff_ne.2 h2
  have q3 : (k == 3) = false := beq_eq_false_iff_ne.2 h3
  have q4 : (k == 4) = false := beq_eq_false_iff_ne.2 h4
  have q8 : (k == 8) = false := beq_eq_false_iff_ne.2 h8
  have q5 : (k == 5) = false := beq_eq_false_iff_ne.2 h5
  have q29 : (k == 29) = false := beq_eq_false_iff_ne.2 h29
  clear hn hl OC e h2 h3 h4 h8 h5 h29
  go_enter Tryd.func58, Tryd.ntmps58
  go_upto_region 1 with fail
  rw [← hW]
  clear hW
  go_wp2_with fail
  go_ret
  exact ⟨rfl, HB.out⟩
/-- the next number, of a reader whose bytes lie below B -/
def NxR (w : World) (q B : Nat) (bs : List Int) (s : Nat) (v : Value) (e : Ending) (w' : World) : Prop := e = .returned v ∧ RdD w' q B (bs.drop s) ∧ Fr (· = q) w w'
theorem octet_stop (q : Nat) (bs : List Int) (w : World) (h : Rd w q bs) (hl : bs.length < 1) :
    Calls Tryd.prog 98 #[.pointer (some ⟨q, 0, none⟩)] w fun e w' => e = stopped ∧ w = w' := by
  have T := Lib.hid (octC.num_stop q bs 1 w h (by decide) (by decide) (by rw [show octC.fitN 1 = 1 by decide]; exact hl))
  clear h hl
  go_enter Tryd.func98, Tryd.ntmps98
  go_wp2_with (first
    | (go_at_call 97; refine T.out.mono ?_; rintro e w' ⟨he, rfl⟩; rw [octC.stopped_eq] at he; subst he))
  exact ⟨rfl, rfl, rfl⟩
theorem octet_ok (q B : Nat) (bs : List Int) (w : World) (h : RdD w q B bs) (hl : 1 ≤ bs.length) (hm : bs.length ≤ 100000) (hy : ∀ x ∈ bs, Byte x) :
    Calls Tryd.prog 98 #[.pointer (some ⟨q, 0, none⟩)] w (NxR w q B bs 1 (.int .u8 (bs.getD 0 0))) := by
  have T := octC.num_okD q B bs 1 w h (by decide) (by decide) (by rw [show octC.fitN 1 = 1 by decide]; exact hl) hm hy
  unfold octC.NumD at T
  rw [show octC.fitN 1 = 1 by decide] at T
  rw [sxC.getZ1 hl] at T
  have hb := getD_byte0 hy 0
  unfold Byte at hb
  have W := Lib.hid (show IntKind.u8.wrap (bs.getD 0 0) = bs.getD 0 0 from IntWalk.u8_in _ (by omega))
  have T := Lib.hid T
  unfold NxR
  generalize bs.getD 0 0 = y at *
  clear hb h hl hm hy
  go_enter Tryd.func98, Tryd.ntmps98
  go_wp2_with (first
    | (go_at_call 97; refine T.out.mono ?_; rintro e w' ⟨rfl, R, G⟩
       have RR := Lib.hid R
       have GG := Lib.hid G
       clear R G))
  go_ret
  exact ⟨octC.ret_int W.out, RR.out, GG.out⟩
theorem number_ok (q B : Nat) (bs : List Int) (w : World) (h : RdD w q B bs) (hl : 4 ≤ bs.length) (hm : bs.length ≤ 100000) (hy : ∀ x ∈ bs, Byte x) :
    Calls Tryd.prog 102 #[.pointer (some ⟨q, 0, none⟩)] w (NxR w q B bs 4 (.int .u32 (getZ (bs.take 4)))) := by
  have T := octC.num_okD q B bs 4 w h (by decide) (by decide) (by rw [show octC.fitN 4 = 4 by decide]; exact hl) hm hy
  unfold octC.NumD at T
  rw [show octC.fitN 4 = 4 by decide] at T
  have hb := getZ_bound (b := bs.take 4) fun x hx => hy x (List.mem_of_mem_take hx)
  rw [show (bs.take 4).length = 4 by rw [List.length_take]; omega] at hb
  have W := Lib.hid (show IntKind.u32.wrap (getZ (bs.take 4)) = getZ (bs.take 4) from IntWalk.u32_in _ (by omega))
  have T := Lib.hid T
  unfold NxR
  generalize getZ (bs.take 4) = y at *
  clear hb h hl hm hy
  go_enter Tryd.func102, Tryd.ntmps102
  go_wp2_with (first
    | (go_at_call 97; refine T.out.mono ?_; rintro e w' ⟨rfl, R, G⟩
       have RR := Lib.hid R
       have GG := Lib.hid G
       clear R G))
  go_ret
  exact ⟨octC.ret_int W.out, RR.out, GG.out⟩
end Go.Proofs.YtniimgbljhmcoaaDoor.opC

/-
  a[i] of an array by value, the array a letter.
-/
namespace Go.Proofs.YtniimgbljhmcoaaDoor.idxC
open Go.ChangeShapes Go.WideShapes Go.ChangeAt Go.RowKit
set_option linter.unusedVariables false
theorem run_idx {P : Program} (w : World) (t e : TypeId) (n : Nat) (K : IntKind) (i : TypeInfo) (cs : Array Value) (k : Nat) (v : Value) (ht : P.underlying t = some (.array n e)) (he : P.underlying e = some (.int K))
    (hi : P.info? e = some i) (hs : i.size = 1) (hk : k < n) (hv : cs[k]? = some v) : (Instr.index t (.agg cs) (.int .i64 (k : Int))).run P w = .ok v w := by
  have hn : 0 ≤ (k : Int) ∧ (k : Int) < (n : Int) := by omega
  have hagg : (isAgg e).run P w = .ok false w := by
    unfold isAgg
    rw [Sem.run_bind, run_underlying he w]
    rfl
  have hp : (part e cs k).run P w = .ok v w := by
    simp [part, Sem.run_bind, hagg, hv]
  simp [Instr.index, run_underlying ht, asIntOf, hn, sizeOf, typeInfo, hi, hs, hp, Sem.run_bind]
  omega
end Go.Proofs.YtniimgbljhmcoaaDoor.idxC

/-
  How many bytes options have: the program's.
-/
namespace Go.Proofs.YtniimgbljhmcoaaDoor.opC
open Go.ChangeShapes Go.WideShapes Go.ChangeAt Go.RowKit
open Go.Proofs.YtniimgbljhmcoaaDoor.memC Go.Proofs.YtniimgbljhmcoaaDoor.genC Go.Proofs.YtniimgbljhmcoaaDoor.butC Go.Proofs.YtniimgbljhmcoaaDoor.freeC Go.Proofs.YtniimgbljhmcoaaDoor.adC
set_option linter.unusedVariables false
/-- what the first i kinds have -/
def preN (o : Opt) (i : Nat) : Nat := ((kinds.take i).map (pieceN o)).sum
def preL (o : Opt) (i : Nat) : List Int := (kinds.take i).flatMap (pieceL o)
def kindAt (i : Nat) : Int := kinds.getD i 0
theorem kind_take {i : Nat} (h : i < 6) : kinds.take (i + 1) = kinds.take i ++ [kindAt i] := by
  match i, h with
  | 0, _ => rfl
  | 1, _ => rfl
  | 2, _ => rfl
  | 3, _ => rfl
  | 4, _ => rfl
  | 5, _ => rfl
theorem preN_step (o : Opt) {i : Nat} (h : i < 6) : preN o (i + 1) = preN o i + pieceN o (kindAt i) := by
  unfold preN
  rw [kind_take h, List.map_append, List.sum_append]
  simp
theorem preL_step (o : Opt) {i : Nat} (h : i < 6) : preL o (i + 1) = preL o i ++ pieceL o (kindAt i) := by
  unfold preL
  rw [kind_take h, List.flatMap_append]
  simp
theorem preN_all (o : Opt) : preN o 6 = bodyN o := rfl
theorem preL_all (o : Opt) : preL o 6 = bodyL o := rfl
theorem pieceN_le (o : Opt) (k : Int) : pieceN o k ≤ sizeK k o.sk.length := by unfold pieceN; split <;> omega
theorem preN_le (o : Opt) {i : Nat} (h : i ≤ 6) : preN o i ≤ 37 + 8 * o.sk.length := by
  have h2 : pieceN o 2 ≤ 4 := pieceN_le o 2
  have h3 : pieceN o 3 ≤ 3 := pieceN_le o 3
  have h4 : pieceN o 4 ≤ 2 := pieceN_le o 4
  have h8 : pieceN o 8 ≤ 10 := pieceN_le o 8
  have h5 : pieceN o 5 ≤ 2 + 8 * o.sk.length := pieceN_le o 5
  have h29 : pieceN o 29 ≤ 16 := pieceN_le o 29
  match i, h with
  | 0, _ => simp [preN]
  | 1, _ => simp [preN, kinds]; omega
  | 2, _ => simp [preN, kinds]; omega
  | 3, _ => simp [preN, kinds]; omega
  | 4, _ => simp [preN, kinds]; omega
  | 5, _ => simp [preN, kinds]; omega
  | 6, _ => simp [preN, kinds]; omega
theorem kindAt_byte {i : Nat} (h : i < 6) : Byte (kindAt i) := by
  match i, h with
  | 0, _ => unfold Byte; decide
  | 1, _ => unfold Byte; decide
  | 2, _ => unfold Byte; decide
  | 3, _ => unfold Byte; decide
  | 4, _ => unfold Byte; decide
  | 5, _ => unfold Byte; decide
theorem kinds_at {i : Nat} (h : i < 6) : ((macL kinds).toArray)[i]? = some (.int .u8 (kindAt i)) := by
  match i, h with
  | 0, _ => rfl
  | 1, _ => rfl
  | 2, _ => rfl
  | 3, _ => rfl
  | 4, _ => rfl
  | 5, _ => rfl
set_option maxRecDepth 100000 in
set_option maxHeartbeats 1000000 in
theorem csize_any (o : Opt) (A : Option Addr) (n c : Nat) (w : World) (hk : Kd w) (hl : o.mac.length = 12) (hn : o.sk.length = n) (hm : n ≤ 100000) :
    Calls Tryd.prog 69 #[.agg (optV o A n c)] w (Ret w (.int .i64 (sizeN o : Nat))) := by
  have HS := Lib.hid (fun (k : Int) (w : World) => has_any o A n c k w hl hn)
  obtain ⟨C, hC⟩ : ∃ C, C = optV o A n c := ⟨_, rfl⟩
  have OC : OptC C o A n c := by rw [hC]; exact optC hl A n c
  rw [← hC] at HS ⊢
  clear hC
  obtain ⟨i0, hi0, hz0, hz1, hz2⟩ := info_parts octC.byte_info
  have T1 := Lib.hid hi0; have T3 := Lib.hid hz1
  clear hi0 hz0 hz1 hz2
  obtain ⟨W, hW⟩ : ∃ W, W = w.alloc (.cells C 31) := ⟨_, rfl⟩
  have R := Lib.hid (show W.heap[w.heap.size]? = some (.cells C 31 (0, 0)) by rw [hW]; exact heap_alloc_new _ _)
  have HB := Lib.hid (show Below w.heap.size w W by rw [hW]; exact alloc_below _ _)
  have HK := Lib.hid (hk.bel HB.out)
  have IC := Lib.hid OC.info
  have CS := Lib.hid OC.sk
  have PL := Lib.hid (fun i (h : i ≤ 6) => preN_le o h)
  have HN := Lib.hid hn
  have HM := Lib.hid hm
  clear OC hn hl hk hm
  go_enter Tryd.func69, Tryd.ntmps69
  go_upto_region 1 with fail
  rw [← hW]
  clear hW
  go_upto_region 3 with (first
    | (refine partC.wpList_load_part rfl 86 (.global 0) rfl 0 0 rfl (macL kinds) _ HK.out.cell Tryd.underlying86 rfl kinds_info ?_))
  have HV := Lib.hid (fun i (h : i < 6) => kinds_at h)
  generalize (macL kinds).toArray = KV at *
  go_loopw [3, 7] (fun v u wr => ∃ i : Nat, i ≤ 6 ∧ v = .int .i64 (preN o i : Nat) ∧ u = .int .i64 i ∧ Below W.heap.size W wr) (fun _ u _ => 6 - (intOf u).toNat)
  case atStart => exact ⟨0, by omega, rfl, rfl, Below.refl _ _⟩
  case round =>
    obtain ⟨i, hi, rfl, rfl, BW⟩ := hrel
    have HBW := Lib.hid BW
    by_cases hlt : i < 6
    · have ix : (Instr.index 86 (.agg KV) (.int .i64 (i : Int))).run Tryd.prog wr = .ok (.int .u8 (kindAt i)) wr := idxC.run_idx wr _ _ 6 .u8 i0 KV i _ Tryd.underlying86 rfl T1.out T3.out hlt (HV.out i hlt)
      have ES := Lib.hid (preN_step o hlt)
      have EN := Lib.hid (PL.out (i + 1) (by omega))
      have HI := Lib.hid hlt
      have SZ := Lib.hid (fun w => size_any (kindAt i) n n w rfl (by have := HM.out; omega))
      have HAS := Lib.hid (fun w => HS.out (kindAt i) w)
      have RW := Lib.hid (show wr.heap[w.heap.size]? = some (.cells C 31 (0, 0)) by rw [BW.block _ (lt_of_row R.out)]; exact R.out)
      have q6 : (i : Int) < 6 := by omega
      have PP := Lib.hid (show pieceN o (kindAt i) = if hasB o (kindAt i) = true then sizeK (kindAt i) n else 0 by unfold pieceN; rw [HN.out])
      generalize kindAt i = k at *
      obtain ⟨b, hb⟩ : ∃ b, hasB o k = b := ⟨_, rfl⟩
      rw [hb] at HAS PP
      clear BW hi hlt hb
      obtain ⟨s, hs⟩ : ∃ s, s = preN o i := ⟨_, rfl⟩
      obtain ⟨z, hz⟩ : ∃ z, z = sizeK k n := ⟨_, rfl⟩
      rw [← hs] at ES ⊢
      rw [← hz] at SZ PP
      clear hs hz
      cases b
      · go_wp2_with (first
          | (refine wpList_load_row rfl 31 (.tmp 1) rfl w.heap.size rfl _ _ _ _ RW.out Tryd.underlying31 rfl IC.out ?_)
          | (go_at_call 58; (refine (HAS.out _).mono ?_); rintro e w2 ⟨rfl, B2⟩
             have HB2 := Lib.hid B2
             clear B2))
        go_roundw
        case rel =>
          have e1 := ES.out
          have e2 := PP.out
          simp only [Bool.false_eq_true, if_false] at e2
          exact ⟨i + 1, by have := HI.out; omega, by rw [e1, e2]; rfl, by go_num, HBW.out.trans (HB2.out.mono HBW.out.size)⟩
        case measure => simp [intOf]; omega
      · have hsz : s + z ≤ 37 + 8 * n := by
          have e1 := ES.out
          have e2 := PP.out
          simp only [if_true] at e2
          have e3 := EN.out
          rw [HN.out] at e3
          omega
        have wz : IntKind.i64.wrap ((s : Int) + (z : Int)) = (s : Int) + (z : Int) := IntWalk.i64_in _ (by have := HM.out; omega)
        clear hsz
        go_wp2_with (first
          | (refine wpList_load_row rfl 31 (.tmp 1) rfl w.heap.size rfl _ _ _ _ RW.out Tryd.underlying31 rfl IC.out ?_)
          | (go_at_call 58; (refine (HAS.out _).mono ?_); rintro e w2 ⟨rfl, B2⟩
             have HB2 := Lib.hid B2
             have c5 : w2.cell? ⟨w.heap.size, 5, none⟩ = some (.slice A n c) := (B2.cell (p := ⟨w.heap.size, 5, none⟩) (lt_of_row RW.out)).trans (pkC.PkC.cell RW.out CS.out)
             clear B2)
          | (go_at_call 59; (refine (SZ.out _).mono ?_); rintro e w3 ⟨rfl, rfl⟩))
        go_roundw
        case rel =>
          have e1 := ES.out
          have e2 := PP.out
          simp only [if_true] at e2
          exact ⟨i + 1, by have := HI.out; omega, by rw [e1, e2]; exact congrArg (Value.int .i64) (by omega), by go_num, HBW.out.trans (HB2.out.mono HBW.out.size)⟩
        case measure => simp [intOf]; omega
    · have h6 : i = 6 := by omega
      subst h6
      rw [preN_all]
      have hb := PL.out 6 (by omega)
      rw [preN_all, HN.out] at hb
      have MI := Lib.hid (fun w => missing_any (bodyN o) w (by have := HM.out; omega))
      have hp : padN (bodyN o) ≤ 3 := by unfold padN; omega
      have e : ((sizeN o : Nat) : Int) = (bodyN o : Int) + (padN (bodyN o) : Int) := by unfold sizeN; omega
      have E := Lib.hid e
      have wz : IntKind.i64.wrap ((bodyN o : Int) + (padN (bodyN o) : Int)) = (bodyN o : Int) + (padN (bodyN o) : Int) := IntWalk.i64_in _ (by have := HM.out; omega)
      generalize bodyN o = s at *
      generalize padN s = z at *
      clear hb hp e BW hi hlt
      go_wp2_with (first
          | (go_at_call 61; (refine (MI.out _).mono ?_); rintro e w3 ⟨rfl, rfl⟩))
      go_ret
      exact ⟨octC.ret_int E.out.symm, HB.out.trans (HBW.out.mono HB.out.size)⟩
end Go.Proofs.YtniimgbljhmcoaaDoor.opC

/-
  Which operation a walk stands at: told by its form alone, so that an arm that does not fit falls at once.
-/
namespace Go.Proofs.YtniimgbljhmcoaaDoor.atC
open Go.ChangeShapes Go.WideShapes Go.ChangeAt Go.RowKit
section
variable {P : Program} {ops : Array Oper} {rest : List Oper} {a : Act} {w : World} {Q : Exit → Act → World → Prop} {d : Option Tmp} {t : TypeId} {p : String} {f : Array Edge} {g : Option (Nat × Bool)}
theorem at_load (ty : TypeId) (s : Tmp) (h : wpList P ops Q (⟨d, .load ty (.tmp s), t, p, f, g⟩ :: rest) a w) : wpList P ops Q (⟨d, .load ty (.tmp s), t, p, f, g⟩ :: rest) a w := h
theorem at_bin {x y : Operand} {r : TypeId} (o : BinOp) (ty : TypeId) (h : wpList P ops Q (⟨d, .binOp o ty x y r, t, p, f, g⟩ :: rest) a w) : wpList P ops Q (⟨d, .binOp o ty x y r, t, p, f, g⟩ :: rest) a w := h
theorem at_one {o : Oper} (h : wpList P ops Q (o :: rest) a w) : wpList P ops Q (o :: rest) a w := h
end
end Go.Proofs.YtniimgbljhmcoaaDoor.atC
