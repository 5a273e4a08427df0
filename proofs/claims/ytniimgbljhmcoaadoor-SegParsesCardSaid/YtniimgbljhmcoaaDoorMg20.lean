/-
  1 texts of a proof, joined.
-/
import Derived.Test.YtniimgbljhmcoaaDoorMg19

/-
  A packet's bytes: the document's.
-/
namespace Go.Proofs.YtniimgbljhmcoaaDoor.pkC
open Go.ChangeShapes Go.WideShapes Go.ChangeAt Go.RowKit
open Go.Proofs.YtniimgbljhmcoaaDoor.memC Go.Proofs.YtniimgbljhmcoaaDoor.genC Go.Proofs.YtniimgbljhmcoaaDoor.butC Go.Proofs.YtniimgbljhmcoaaDoor.freeC Go.Proofs.YtniimgbljhmcoaaDoor.adC
set_option linter.unusedVariables false
/-- a header's check sum -/
def ckL (p : Pkt) (n : Nat) : Int := 65535 - chkM.fo (chkM.wsum (headL p n 0))
/-- a packet's bytes, if it may be -/
def layL (p : Pkt) (n : Nat) (xs : List Int) : List Int := if mayB p n then headL p n (ckL p n) ++ xs else []
def layE (p : Pkt) (n : Nat) : Int := if mayB p n then 0 else 1
/-- the call's own bytes, and an error -/
def OwnE (w : World) (bs : List Int) (er : Int) (e : Ending) (w' : World) : Prop := ∃ A n c, e = .returned (.tuple #[.slice A n c, .int .i64 er]) ∧ Own .u8 5 w' w.heap.size (.slice A n c) bs ∧ Below w.heap.size w w'
/-- the bytes as they grow -/
def lyR (B : Nat) (H X : List Int) (n : Nat) : Nat → (Nat → Value) → World → Prop
  | 0, _, _ => True
  | 1, us, w => Own .u8 5 w B (us 2) H
  | 2, us, w => Own .u8 5 w B (us 5) X ∧ ∃ A c, us 5 = .slice A n c
  | 3, us, w => Own .u8 5 w B (us 6) X ∧ ∃ A c, us 6 = .slice A n c
  | _, _, _ => True
theorem lyR.keep (B : Nat) (H X : List Int) (n k : Nat) (us us' : Nat → Value) (w w' : World) (h : ∀ x ∈ [2, 5, 6], us' x = us x) (hB : B ≤ w.heap.size) (hb : Below w.heap.size w w') (hR : lyR B H X n k us w) : lyR B H X n k us' w' := by
  have h2 := h 2 (by simp); have h5 := h 5 (by simp); have h6 := h 6 (by simp)
  unfold lyR at hR ⊢
  split at hR
  · trivial
  · rw [h2]; exact hR.below hb
  · rw [h5]; exact ⟨hR.1.below hb, hR.2⟩
  · rw [h6]; exact ⟨hR.1.below hb, hR.2⟩
  · trivial
def lyV (g0 : Nat) (CP : Array Value) (ck : Int) (A : Option Addr) (n c : Nat) : Nat → Value → World → Prop
  | 0, v, _ => v = .agg CP
  | 1, v, _ => v = .int .u16 ck
  | 3, v, _ => v = .pointer (some ⟨g0, 40, none⟩)
  | 4, v, _ => v = .slice A n c
  | 7, v, _ => v = .int .i64 0
  | _, _, _ => True
theorem lyV.keep (g0 : Nat) (CP : Array Value) (ck : Int) (A : Option Addr) (n c : Nat) (i : Nat) (v : Value) (w w' : World) (h : lyV g0 CP ck A n c i v w) : lyV g0 CP ck A n c i v w' := by
  unfold lyV at h ⊢
  split at h <;> exact h
end Go.Proofs.YtniimgbljhmcoaaDoor.pkC
