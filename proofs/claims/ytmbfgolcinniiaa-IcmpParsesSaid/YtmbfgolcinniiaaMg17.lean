/-
  1 texts of a proof, joined.
-/
import Derived.Test.YtmbfgolcinniiaaMg14
import Derived.Test.YtmbfgolcinniiaaMg16
import Derived.Test.YtmbfgolcinniiaaMg13
import Derived.Test.YtmbfgolcinniiaaMg5
import Derived.Test.YtmbfgolcinniiaaMg6
import Derived.Test.YtmbfgolcinniiaaMg2

/-
  A packet's header, and its bytes: the document's.
-/
namespace Go.Proofs.Ytmbfgolcinniiaa.pkC
open Go.ChangeShapes Go.WideShapes Go.ChangeAt Go.RowKit
open Go.Proofs.Ytmbfgolcinniiaa.memC Go.Proofs.Ytmbfgolcinniiaa.genC Go.Proofs.Ytmbfgolcinniiaa.butC Go.Proofs.Ytmbfgolcinniiaa.freeC Go.Proofs.Ytmbfgolcinniiaa.adC
set_option linter.unusedVariables false
/-- the flags and the place, as 16 bits -/
def flN (p : Pkt) : Int := p.off / 8 + (if p.whole then 16384 else 0) + (if p.more then 8192 else 0)
/-- a header's bytes ahead of the addresses -/
def topL (p : Pkt) (n : Nat) (ck : Int) : List Int := octC.putL [69, 0] 2 [20 + (n : Int), p.id, flN p] ++ [p.hops, p.proto, ck / 256, ck % 256]
def headL (p : Pkt) (n : Nat) (ck : Int) : List Int := topL p n ck ++ p.a.take 4 ++ p.b.take 4
theorem topL_len (p : Pkt) (n : Nat) (ck : Int) : (topL p n ck).length = 12 := by
  unfold topL octC.putL
  rw [List.length_append, List.length_append, octC.flat_len]
  rfl
theorem headL_len {p : Pkt} (h : p.Ok) (n : Nat) (ck : Int) : (headL p n ck).length = 20 := by
  unfold headL
  rw [List.length_append, List.length_append, topL_len, List.length_take, List.length_take, h.la, h.lb]
  rfl
/-- what a packet that may be is bounded by -/
theorem mayB_parts {p : Pkt} {n : Nat} (h : mayB p n = true) : p.s = false ∧ p.t = false ∧ mayL p.s p.a = true ∧ mayL p.t p.b = true ∧ p.id ≤ 65535 ∧ 0 ≤ p.off ∧ p.off % 8 = 0 ∧ (n : Int) ≤ 65515 ∧ p.off ≤ 65515 - (n : Int) ∧ (p.more = true → n % 8 = 0) ∧ (p.whole = true → p.more = false ∧ p.off = 0) := by
  unfold mayB at h
  simp only [Bool.and_eq_true, Bool.or_eq_true, Bool.not_eq_true', decide_eq_true_eq] at h
  obtain ⟨⟨⟨⟨⟨⟨⟨⟨⟨⟨h1, h2⟩, h3⟩, h4⟩, h5⟩, h6⟩, h7⟩, h8⟩, h9⟩, h10⟩, h11⟩ := h
  refine ⟨h1, h2, h3, h4, h5, h6, h7, h8, h9, fun e => ?_, fun e => ?_⟩
  · rcases h10 with h | h
    · rw [e] at h; cases h
    · exact h
  · rcases h11 with h | h
    · rw [e] at h; cases h
    · exact h
theorem four_nums {w : World} {g q : Nat} {C : Array Value} {T : TypeId} {s : Bool} {b : List Int} (hb : b.length = 16) (R : w.heap[g]? = some (.cells C T (0, 0))) (h : ∀ j v, (adrC s b)[j]? = some v → C[q + j]? = some v) :
    Nums .u8 w w.heap.size (some ⟨g, q + 1, none⟩) 4 (b.take 4) :=
  ⟨by rw [List.length_take, hb]; rfl, fun _ => ⟨g, q + 1, rfl, lt_of_row R, fun i hi => by
    rw [cell_of_row w g (q + 1 + i) _ _ (0, 0) R, show q + 1 + i = q + (1 + i) by omega, h (1 + i) (.int .u8 (b.getD i 0)) ?_]
    · rw [List.getD_eq_getElem?_getD, List.getD_eq_getElem?_getD, List.getElem?_take_of_lt hi]
    · unfold adrC
      rw [Nat.add_comm, List.getElem?_cons_succ, List.getElem?_map, List.getElem?_eq_getElem (by omega)]
      simp [List.getD_eq_getElem?_getD, List.getElem?_eq_getElem (show i < b.length by omega)]⟩⟩
/-- the header's bytes as they grow -/
def hdR (B : Nat) (vv : Value) (X0 X1 X2 : List Int) : Nat → (Nat → Value) → World → Prop
  | 0, _, w => Own .u8 5 w B vv X0
  | 1, us, w => Own .u8 5 w B (us 4) X1
  | 2, us, w => Own .u8 5 w B (us 8) X2
  | 3, us, w => Own .u8 5 w B (us 9) X2
  | _, _, _ => True
theorem hdR.keep (B : Nat) (vv : Value) (X0 X1 X2 : List Int) (k : Nat) (us us' : Nat → Value) (w w' : World) (h : ∀ x ∈ [4, 8, 9], us' x = us x) (hB : B ≤ w.heap.size) (hb : Below w.heap.size w w') (hR : hdR B vv X0 X1 X2 k us w) : hdR B vv X0 X1 X2 k us' w' := by
  have h4 := h 4 (by simp); have h8 := h 8 (by simp); have h9 := h 9 (by simp)
  unfold hdR at hR ⊢
  split at hR <;> first | exact hR.below hb | (rw [h4]; exact hR.below hb) | (rw [h8]; exact hR.below hb) | (rw [h9]; exact hR.below hb) | trivial
theorem hdR.m1 {B : Nat} {vv v : Value} {X0 X1 X2 : List Int} {us : Nat → Value} {w : World} (h : Own .u8 5 w B v X1) : hdR B vv X0 X1 X2 1 (upd us 4 v) w := by
  show Own .u8 5 w B (upd us 4 v 4) X1
  rw [upd_same]; exact h
theorem hdR.m2 {B : Nat} {vv v : Value} {X0 X1 X2 : List Int} {us : Nat → Value} {w : World} (h : Own .u8 5 w B v X2) : hdR B vv X0 X1 X2 2 (upd us 8 v) w := by
  show Own .u8 5 w B (upd us 8 v 8) X2
  rw [upd_same]; exact h
theorem hdR.m3 {B : Nat} {vv v : Value} {X0 X1 X2 : List Int} {us : Nat → Value} {w : World} (h : Own .u8 5 w B v X2) : hdR B vv X0 X1 X2 3 (upd us 9 v) w := by
  show Own .u8 5 w B (upd us 9 v 9) X2
  rw [upd_same]; exact h
def hdV (vv : Value) (g0 : Nat) : Nat → Value → World → Prop
  | 0, v, _ => v = vv
  | 1, v, _ => v = .pointer (some ⟨g0, 0, none⟩)
  | 2, v, _ => v = .pointer (some ⟨g0, 1, none⟩)
  | 3, v, _ => v = .slice (some ⟨g0, 1, none⟩) 4 16
  | 5, v, _ => v = .pointer (some ⟨g0, 17, none⟩)
  | 6, v, _ => v = .pointer (some ⟨g0, 18, none⟩)
  | 7, v, _ => v = .slice (some ⟨g0, 18, none⟩) 4 16
  | _, _, _ => True
theorem hdV.keep (vv : Value) (g0 : Nat) (i : Nat) (v : Value) (w w' : World) (h : hdV vv g0 i v w) : hdV vv g0 i v w' := by
  unfold hdV at h ⊢
  split at h <;> exact h
def hdT : List (Option Nat) := [none, none, none, none, some 9, none, none, none, none, none, none, none, none, none, none, none, none, none, none, none, none, none, none, none, none, none, none, none, none, none, none, none, none, none, none, none, none, none, none, none, none, none, none, some 0, some 1, some 2, some 3, some 4, some 5, some 6, some 7, some 8]
/-- the call's own bytes, as a result -/
def OwnB (w : World) (bs : List Int) (e : Ending) (w' : World) : Prop := ∃ v, e = .returned v ∧ Own .u8 5 w' w.heap.size v bs ∧ Below w.heap.size w w'
end Go.Proofs.Ytmbfgolcinniiaa.pkC
