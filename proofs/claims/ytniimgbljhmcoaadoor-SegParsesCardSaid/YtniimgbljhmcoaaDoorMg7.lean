/-
  3 texts of a proof, joined.
-/
import Derived.Test.YtniimgbljhmcoaaDoorMg6
import Derived.Lib.Split
import Derived.Lib.ParseIntB
import Derived.Lib.ItoaNum
import Derived.Deep.QuietTactic
import Derived.BigQuiet
import Derived.Laws.BitsAllLaws
import Derived.Great.BuildSlice

/-
  The program's addresses: a number of a text of sixteens: the library's reading, byte by byte.
-/
namespace Go.Proofs.YtniimgbljhmcoaaDoor.adC
open Go.ChangeShapes Go.WideShapes Go.ChangeAt Go.RowKit
open Go.Proofs.YtniimgbljhmcoaaDoor.memC Go.Proofs.YtniimgbljhmcoaaDoor.genC Go.Proofs.YtniimgbljhmcoaaDoor.butC Go.Proofs.YtniimgbljhmcoaaDoor.freeC Go.Proofs.YtniimgbljhmcoaaDoor.txC
set_option linter.unusedVariables false
/-- a letter made small -/
def lw (c : Int) : Int := bits .or .u8 c 32
/-- a sign's number -/
def dg (c : Int) : Int := if 48 ≤ c ∧ c ≤ 57 then c - 48 else if 97 ≤ lw c ∧ lw c ≤ 122 then lw c - 87 else 99
/-- what the library's reading by sixteens gives: none: a sign that is none -/
def pu16 : List Int → Nat → Option Nat
  | [], n => some n
  | x :: r, n => if dg x < 16 then pu16 r (n * 16 + (dg x).toNat) else none
end Go.Proofs.YtniimgbljhmcoaaDoor.adC

/-
  The program's addresses: a group of a text.
-/
namespace Go.Proofs.YtniimgbljhmcoaaDoor.adC
open Go.ChangeShapes Go.WideShapes Go.ChangeAt Go.RowKit
open Go.Proofs.YtniimgbljhmcoaaDoor.memC Go.Proofs.YtniimgbljhmcoaaDoor.genC Go.Proofs.YtniimgbljhmcoaaDoor.butC Go.Proofs.YtniimgbljhmcoaaDoor.freeC Go.Proofs.YtniimgbljhmcoaaDoor.txC
set_option linter.unusedVariables false
structure P16 (xs : List Int) (R : Option Nat) (k : Nat) (a : Int) : Prop where
  ex : ∃ acc : Nat, a = acc ∧ acc < 16 ^ k ∧ pu16 (xs.drop k) acc = R
end Go.Proofs.YtniimgbljhmcoaaDoor.adC

/-
  The program's addresses: a text of four numbers.
-/
namespace Go.Proofs.YtniimgbljhmcoaaDoor.adC
open Go.ChangeShapes Go.WideShapes Go.ChangeAt Go.RowKit
open Go.Proofs.YtniimgbljhmcoaaDoor.memC Go.Proofs.YtniimgbljhmcoaaDoor.genC Go.Proofs.YtniimgbljhmcoaaDoor.butC Go.Proofs.YtniimgbljhmcoaaDoor.freeC Go.Proofs.YtniimgbljhmcoaaDoor.txC
set_option linter.unusedVariables false
/-- the state of a call that fills a new address: where its result will lie, and what is filled -/
structure FSt (w : World) (g : Nat) (s : Bool) (b : List Int) (wr : World) : Prop where
  bel : Below w.heap.size w wr
  res : wr.heap[w.heap.size]? = some (.cells zAdr 24 (0, 0))
  row : wr.heap[g]? = some (.cells (adrV s b) 24 (0, 0))
  gt : w.heap.size < g
  len : b.length = 16
section
variable {w wr w' : World} {g : Nat} {s : Bool} {b : List Int}
theorem FSt.below (h : FSt w g s b wr) (hb : Below wr.heap.size wr w') : FSt w g s b w' :=
  ⟨h.bel.trans (hb.mono h.bel.size), by rw [hb.block _ (lt_of_row h.res)]; exact h.res, by rw [hb.block _ (lt_of_row h.row)]; exact h.row, h.gt, h.len⟩
theorem FSt.cell (h : FSt w g s b wr) {i : Nat} (hi : i < 16) : wr.cell? ⟨g, 1 + i, none⟩ = some (.int .u8 (b.getD i 0)) := by
  rw [cell_of_row wr g (1 + i) _ _ (0, 0) h.row]; exact adrV_at (by rw [h.len]; exact hi)
theorem FSt.frozen (h : FSt w g s b wr) (i : Nat) : wr.frozen? ⟨g, i, none⟩ = false := frozen_of_row wr g i _ 24 h.row
end
end Go.Proofs.YtniimgbljhmcoaaDoor.adC
