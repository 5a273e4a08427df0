/-
  A call that turns one block that was there, and no other.
-/
import Derived.Test.YtblgkojeholbnaaGen
namespace Go.Proofs.Ytblgkojeholbnaa.butC
open Go.ChangeShapes Go.WideShapes Go.ChangeAt Go.RowKit
open Go.Proofs.Ytblgkojeholbnaa.memC Go.Proofs.Ytblgkojeholbnaa.genC
set_option linter.unusedVariables false
/-- of the blocks that were there, block k alone may have turned -/
structure But (k : Nat) (w w' : World) : Prop where
  os : w'.os = w.os
  tape : w'.tape = w.tape
  output : w'.output = w.output
  size : w.heap.size ≤ w'.heap.size
  block : ∀ g, g < w.heap.size → g ≠ k → w'.heap[g]? = w.heap[g]?
section
variable {k B : Nat} {w w1 w2 : World}
theorem But.below (h : Below w.heap.size w w1) : But k w w1 := ⟨h.os, h.tape, h.output, h.size, fun g hg _ => h.block g hg⟩
theorem But.refl (w : World) : But k w w := But.below (Below.refl _ _)
theorem But.trans (h : But k w w1) (h' : But k w1 w2) : But k w w2 :=
  ⟨h'.os.trans h.os, h'.tape.trans h.tape, h'.output.trans h.output, Nat.le_trans h.size h'.size, fun g hg hn => (h'.block g (Nat.lt_of_lt_of_le hg h.size) hn).trans (h.block g hg hn)⟩
/-- a block that a later world alone has may turn -/
theorem But.under {k2 : Nat} (h : But k w w1) (h' : But k2 w1 w2) (hk : w.heap.size ≤ k2) : But k w w2 :=
  ⟨h'.os.trans h.os, h'.tape.trans h.tape, h'.output.trans h.output, Nat.le_trans h.size h'.size, fun g hg hn => (h'.block g (Nat.lt_of_lt_of_le hg h.size) (by omega)).trans (h.block g hg hn)⟩
theorem But.heap (h : But k w w1) (e : w2.heap = w1.heap) (e1 : w2.os = w1.os) (e2 : w2.tape = w1.tape) (e3 : w2.output = w1.output) : But k w w2 :=
  ⟨e1.trans h.os, e2.trans h.tape, e3.trans h.output, by rw [e]; exact h.size, fun g hg hn => by rw [e]; exact h.block g hg hn⟩
theorem But.alloc (h : But k w w1) (o : Obj) : But k w (w1.alloc o) := h.trans (But.below (alloc_below _ _))
theorem But.setCell (h : But k w w1) (j : Nat) (v : Value) : But k w (w1.setCell ⟨k, j, none⟩ v) :=
  ⟨h.os, h.tape, h.output, by simpa [World.setCell] using h.size, fun g hg hn => by rw [Below.heap_setCell _ _ _ _ hn]; exact h.block g hg hn⟩
/-- a store into a block that was not there -/
theorem But.fresh (h : But k w w1) {a : Addr} (ha : w.heap.size ≤ a.block) (v : Value) : But k w (w1.setCell a v) :=
  ⟨h.os, h.tape, h.output, by simpa [World.setCell] using h.size, fun g hg hn => by rw [Below.heap_setCell _ _ _ _ (by omega)]; exact h.block g hg hn⟩
theorem But.setRow (h : But k w w1) (cs : Array Value) : But k w (w1.setRow k cs) :=
  ⟨h.os, h.tape, h.output, by simpa [World.setRow] using h.size, fun g hg hn => by rw [setRow_other w1 k g cs hn]; exact h.block g hg hn⟩
theorem But.to_below (h : But k w w1) (hk : B ≤ k) (hw : B ≤ w.heap.size) : Below B w w1 :=
  ⟨h.os, h.tape, h.output, h.size, fun g hg => h.block g (by omega) (by omega)⟩
theorem But.cell (h : But k w w1) {a : Addr} (ha : a.block < w.heap.size) (hn : a.block ≠ k) : w1.cell? a = w.cell? a := World.cell?_of_block (w := w) (h.block _ ha hn)
/-- what lies in another block stands -/
def Off (A : Option Addr) (k : Nat) : Prop := ∀ a, A = some a → a.block ≠ k
theorem But.nums {K : IntKind} {A : Option Addr} {n : Nat} {xs : List Int} (h : But k w w1) (hx : Nums K w w.heap.size A n xs) (hA : 0 < n → Off A k) : Nums K w1 w1.heap.size A n xs :=
  ⟨hx.len, fun hn => by
    obtain ⟨b, o, e, hb, hc⟩ := hx.at_ hn
    exact ⟨b, o, e, Nat.lt_of_lt_of_le hb h.size, fun i hi => (h.cell (a := ⟨b, o + i, none⟩) hb (fun e2 => hA hn _ e e2)).trans (hc i hi)⟩⟩
theorem off_below {K : IntKind} {A : Option Addr} {n : Nat} {xs : List Int} (h : Nums K w B A n xs) (hk : B ≤ k) : 0 < n → Off A k := fun hn a ha => by
  obtain ⟨b, o, e, hb, _⟩ := h.at_ hn
  rw [e] at ha
  obtain rfl := Option.some.inj ha
  show b ≠ k
  omega
theorem But.arr {K : IntKind} {T : TypeId} {g : Nat} {xs : List Int} (h : But k w w1) (hx : Arr K T w g xs) (hg : g ≠ k) : Arr K T w1 g xs := ⟨by rw [h.block g hx.lt hg]; exact hx.row⟩
end
end Go.Proofs.Ytblgkojeholbnaa.butC
