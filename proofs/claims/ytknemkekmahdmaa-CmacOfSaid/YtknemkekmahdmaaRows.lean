/-
  No cell of these rows narrows 'for every input' (looked for: loops, veiled, ifaces, maps, wideKeys, modest, calm, conditions, laid).
  DERIVED. THE GIVEN ROWS OF THIS SEAT. 5 by the template 'for every input the law returns true; each argument reads behind the call as it read before'; 0 by the template 'total and deterministic' (their statements: YtknemkekmahdmaaTotals.lean).
  GIVEN WITH THE SEED: the statements are not yours to turn. If you find one false, say at which input.
  Laid BY PROGRAM, IN A SANDBOX (cutbox-rows.mjs): the forced cells as the released guide's own fill.sh prints them over the translation 35b78bcb94e16b46… (all of the seat's roots in one cut). By AI agents, Wed Nov 11 2026. No macro, syntax, notation, axiom, sorry.
-/
import Derived.Test.YtknemkekmahdmaaChecked
import GoSem.Claim
import GoSem.ClaimJoined
import GoSem.ClaimMapViews
import Derived.JoinedTies
import Derived.KernelRfl
namespace Go.Proofs.Ytknemkekmahdmaa
/- THE CELL 'sum', in the pinned program and in every row, IS THE sha256 OF THE DUMP (.gsa) THAT YtknemkekmahdmaaProg.lean LOADS. Nothing in Lean hashes anything: it is a label: what it is worth is what the hold of that sum in a sandbox is worth. -/
noncomputable def Try.pinned : Pinned := { name := "ytknemkekmahdmaa", sum := "35b78bcb94e16b468b495cf21021ef6f5c0fdb3309772ffff9cb177ed2bf0d86", checked := Try.checked }
namespace Rows
def none {H : Type} : Left H := { results := [], args := [] }

/-- 'downhaullaw07.CmacOf': WHATEVER THE INPUT: true; the input reads as it did. -/
def cmacOfSpec : ChangeSpec := { name := "cmacOf", fn := fun _ => fun
  | [d1, d2] => { results := [.lit (.bool true)], args := [d1, d2] }
  | _ => none }
def cmacOfRow : OpenClaim := { program := "ytknemkekmahdmaa", sum := "35b78bcb94e16b468b495cf21021ef6f5c0fdb3309772ffff9cb177ed2bf0d86", func := "downhaul/downhaullaw07.CmacOf", spec := "cmacOf", apart := false }
def CmacOfSaid : Prop := cmacOfRow.holds Try.pinned (OpenSpec.ofChange cmacOfSpec)

/-- ITS FALSE NEIGHBOUR: 'it returns false'. Refute it at one input. -/
def cmacOfWrong : ChangeSpec := { name := "cmacOf", fn := fun _ => fun
  | [d1, d2] => { results := [.lit (.bool false)], args := [d1, d2] }
  | _ => none }
def CmacOfWrongFalsely : Prop := cmacOfRow.holds Try.pinned (OpenSpec.ofChange cmacOfWrong)

/-- 'downhaullaw07.CmacBlocks': WHATEVER THE INPUT: true; the input reads as it did. -/
def cmacBlocksSpec : ChangeSpec := { name := "cmacBlocks", fn := fun _ => fun
  | [d1, d2] => { results := [.lit (.bool true)], args := [d1, d2] }
  | _ => none }
def cmacBlocksRow : OpenClaim := { program := "ytknemkekmahdmaa", sum := "35b78bcb94e16b468b495cf21021ef6f5c0fdb3309772ffff9cb177ed2bf0d86", func := "downhaul/downhaullaw07.CmacBlocks", spec := "cmacBlocks", apart := false }
def CmacBlocksSaid : Prop := cmacBlocksRow.holds Try.pinned (OpenSpec.ofChange cmacBlocksSpec)

/-- ITS FALSE NEIGHBOUR: 'it returns false'. Refute it at one input. -/
def cmacBlocksWrong : ChangeSpec := { name := "cmacBlocks", fn := fun _ => fun
  | [d1, d2] => { results := [.lit (.bool false)], args := [d1, d2] }
  | _ => none }
def CmacBlocksWrongFalsely : Prop := cmacBlocksRow.holds Try.pinned (OpenSpec.ofChange cmacBlocksWrong)

/-- 'downhaullaw07.CmacParts': WHATEVER THE INPUT: true; the input reads as it did. -/
def cmacPartsSpec : ChangeSpec := { name := "cmacParts", fn := fun _ => fun
  | [d1, d2] => { results := [.lit (.bool true)], args := [d1, d2] }
  | _ => none }
def cmacPartsRow : OpenClaim := { program := "ytknemkekmahdmaa", sum := "35b78bcb94e16b468b495cf21021ef6f5c0fdb3309772ffff9cb177ed2bf0d86", func := "downhaul/downhaullaw07.CmacParts", spec := "cmacParts", apart := false }
def CmacPartsSaid : Prop := cmacPartsRow.holds Try.pinned (OpenSpec.ofChange cmacPartsSpec)

/-- ITS FALSE NEIGHBOUR: 'it returns false'. Refute it at one input. -/
def cmacPartsWrong : ChangeSpec := { name := "cmacParts", fn := fun _ => fun
  | [d1, d2] => { results := [.lit (.bool false)], args := [d1, d2] }
  | _ => none }
def CmacPartsWrongFalsely : Prop := cmacPartsRow.holds Try.pinned (OpenSpec.ofChange cmacPartsWrong)

/-- 'downhaullaw07.CmacFilled': WHATEVER THE INPUT: true; the input reads as it did. -/
def cmacFilledSpec : ChangeSpec := { name := "cmacFilled", fn := fun _ => fun
  | [d1, d2] => { results := [.lit (.bool true)], args := [d1, d2] }
  | _ => none }
def cmacFilledRow : OpenClaim := { program := "ytknemkekmahdmaa", sum := "35b78bcb94e16b468b495cf21021ef6f5c0fdb3309772ffff9cb177ed2bf0d86", func := "downhaul/downhaullaw07.CmacFilled", spec := "cmacFilled", apart := false }
def CmacFilledSaid : Prop := cmacFilledRow.holds Try.pinned (OpenSpec.ofChange cmacFilledSpec)

/-- ITS FALSE NEIGHBOUR: 'it returns false'. Refute it at one input. -/
def cmacFilledWrong : ChangeSpec := { name := "cmacFilled", fn := fun _ => fun
  | [d1, d2] => { results := [.lit (.bool false)], args := [d1, d2] }
  | _ => none }
def CmacFilledWrongFalsely : Prop := cmacFilledRow.holds Try.pinned (OpenSpec.ofChange cmacFilledWrong)

/-- 'downhaullaw07.CmacDoubles': WHATEVER THE INPUT: true; the input reads as it did. -/
def cmacDoublesSpec : ChangeSpec := { name := "cmacDoubles", fn := fun _ => fun
  | [d1, d2] => { results := [.lit (.bool true)], args := [d1, d2] }
  | _ => none }
def cmacDoublesRow : OpenClaim := { program := "ytknemkekmahdmaa", sum := "35b78bcb94e16b468b495cf21021ef6f5c0fdb3309772ffff9cb177ed2bf0d86", func := "downhaul/downhaullaw07.CmacDoubles", spec := "cmacDoubles", apart := false }
def CmacDoublesSaid : Prop := cmacDoublesRow.holds Try.pinned (OpenSpec.ofChange cmacDoublesSpec)

/-- ITS FALSE NEIGHBOUR: 'it returns false'. Refute it at one input. -/
def cmacDoublesWrong : ChangeSpec := { name := "cmacDoubles", fn := fun _ => fun
  | [d1, d2] => { results := [.lit (.bool false)], args := [d1, d2] }
  | _ => none }
def CmacDoublesWrongFalsely : Prop := cmacDoublesRow.holds Try.pinned (OpenSpec.ofChange cmacDoublesWrong)

/- THE SECOND FORM. 'bulk': how many values and letters a reading holds, each counted each time it is reached (what is shared counts as often as it is met; a slice's spare places count too). A statement '..UptoSaid' is the law's where the arguments, and the package variables that the reading takes, are together of bulk at most 1048576: NARROWER than '..Said'. Prove '..Said' where nothing that the law and all that it calls make is longer than what came in: it says more and counts as full. Else prove '..UptoSaid'. A law counts once. -/
mutual
def uptoBulk {H : Type} : DataW H → Nat
  | .lit (.string bytes) => bytes.length + 1
  | .lit _ => 1
  | .nil => 1
  | .ptr d => uptoBulk d + 1
  | .slice elems spare => uptoBulkAll elems + uptoBulkAll spare + 1
  | .agg parts => uptoBulkAll parts + 1
  | .iface _ d => uptoBulk d + 1
  | .map entries => uptoBulkEntries entries + 1
  | .held _ => 1
def uptoBulkAll {H : Type} : List (DataW H) → Nat
  | [] => 0
  | d :: r => uptoBulk d + uptoBulkAll r
def uptoBulkEntries {H : Type} : List (Lit × DataW H) → Nat
  | [] => 0
  | x :: r => uptoBulkEntry x + uptoBulkEntries r
def uptoBulkEntry {H : Type} : Lit × DataW H → Nat
  | (.string bytes, d) => bytes.length + uptoBulk d + 1
  | (_, d) => uptoBulk d + 1
 end
def uptoSmall : (H : Type) → List (DataW H) → Bool := fun _ ds => decide (uptoBulkAll ds ≤ 1048576)
def OpenSpec.upto (s : _root_.Go.ChangeSpec) : _root_.Go.OpenSpec := { _root_.Go.OpenSpec.ofChange s with cond := some uptoSmall }

/-- 'downhaullaw07.CmacOf', WHERE WHAT IT READS IS OF BULK AT MOST 1048576: true; the input reads as it did. -/
def cmacOfUptoRow : OpenClaim := { program := "ytknemkekmahdmaa", sum := "35b78bcb94e16b468b495cf21021ef6f5c0fdb3309772ffff9cb177ed2bf0d86", func := "downhaul/downhaullaw07.CmacOf", spec := "cmacOf", apart := false, narrowed := true }
def CmacOfUptoSaid : Prop := cmacOfUptoRow.holds Try.pinned (OpenSpec.upto cmacOfSpec)

/-- 'downhaullaw07.CmacBlocks', WHERE WHAT IT READS IS OF BULK AT MOST 1048576: true; the input reads as it did. -/
def cmacBlocksUptoRow : OpenClaim := { program := "ytknemkekmahdmaa", sum := "35b78bcb94e16b468b495cf21021ef6f5c0fdb3309772ffff9cb177ed2bf0d86", func := "downhaul/downhaullaw07.CmacBlocks", spec := "cmacBlocks", apart := false, narrowed := true }
def CmacBlocksUptoSaid : Prop := cmacBlocksUptoRow.holds Try.pinned (OpenSpec.upto cmacBlocksSpec)

/-- 'downhaullaw07.CmacParts', WHERE WHAT IT READS IS OF BULK AT MOST 1048576: true; the input reads as it did. -/
def cmacPartsUptoRow : OpenClaim := { program := "ytknemkekmahdmaa", sum := "35b78bcb94e16b468b495cf21021ef6f5c0fdb3309772ffff9cb177ed2bf0d86", func := "downhaul/downhaullaw07.CmacParts", spec := "cmacParts", apart := false, narrowed := true }
def CmacPartsUptoSaid : Prop := cmacPartsUptoRow.holds Try.pinned (OpenSpec.upto cmacPartsSpec)

/-- 'downhaullaw07.CmacFilled', WHERE WHAT IT READS IS OF BULK AT MOST 1048576: true; the input reads as it did. -/
def cmacFilledUptoRow : OpenClaim := { program := "ytknemkekmahdmaa", sum := "35b78bcb94e16b468b495cf21021ef6f5c0fdb3309772ffff9cb177ed2bf0d86", func := "downhaul/downhaullaw07.CmacFilled", spec := "cmacFilled", apart := false, narrowed := true }
def CmacFilledUptoSaid : Prop := cmacFilledUptoRow.holds Try.pinned (OpenSpec.upto cmacFilledSpec)

/-- 'downhaullaw07.CmacDoubles', WHERE WHAT IT READS IS OF BULK AT MOST 1048576: true; the input reads as it did. -/
def cmacDoublesUptoRow : OpenClaim := { program := "ytknemkekmahdmaa", sum := "35b78bcb94e16b468b495cf21021ef6f5c0fdb3309772ffff9cb177ed2bf0d86", func := "downhaul/downhaullaw07.CmacDoubles", spec := "cmacDoubles", apart := false, narrowed := true }
def CmacDoublesUptoSaid : Prop := cmacDoublesUptoRow.holds Try.pinned (OpenSpec.upto cmacDoublesSpec)

end Rows
end Go.Proofs.Ytknemkekmahdmaa
