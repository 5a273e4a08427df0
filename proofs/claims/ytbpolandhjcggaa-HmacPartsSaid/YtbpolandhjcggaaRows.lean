/-
  No cell of these rows narrows 'for every input' (looked for: loops, veiled, ifaces, maps, wideKeys, modest, calm, conditions, laid).
  DERIVED. THE GIVEN ROWS OF THIS SEAT. 4 by the template 'for every input the law returns true; each argument reads behind the call as it read before'; 0 by the template 'total and deterministic' (their statements: YtbpolandhjcggaaTotals.lean).
  GIVEN WITH THE SEED: the statements are not yours to turn. If you find one false, say at which input.
  Laid BY PROGRAM, IN A SANDBOX (cutbox-rows.mjs): the forced cells as the released guide's own fill.sh prints them over the translation 264e58f38b068e5d… (all of the seat's roots in one cut). By AI agents, Wed Nov 11 2026. No macro, syntax, notation, axiom, sorry.
-/
import Derived.Test.YtbpolandhjcggaaChecked
import GoSem.Claim
import GoSem.ClaimJoined
import GoSem.ClaimMapViews
import Derived.JoinedTies
import Derived.KernelRfl
namespace Go.Proofs.Ytbpolandhjcggaa
/- THE CELL 'sum', in the pinned program and in every row, IS THE sha256 OF THE DUMP (.gsa) THAT YtbpolandhjcggaaProg.lean LOADS. Nothing in Lean hashes anything: it is a label: what it is worth is what the hold of that sum in a sandbox is worth. -/
noncomputable def Try.pinned : Pinned := { name := "ytbpolandhjcggaa", sum := "264e58f38b068e5d6dd7bdb0944a39598c1e305dd7d0b3a71653b33a76f286ba", checked := Try.checked }
namespace Rows
def none {H : Type} : Left H := { results := [], args := [] }

/-- 'downhaullaw05.HmacOf': WHATEVER THE INPUT: true; the input reads as it did. -/
def hmacOfSpec : ChangeSpec := { name := "hmacOf", fn := fun _ => fun
  | [d1, d2] => { results := [.lit (.bool true)], args := [d1, d2] }
  | _ => none }
def hmacOfRow : OpenClaim := { program := "ytbpolandhjcggaa", sum := "264e58f38b068e5d6dd7bdb0944a39598c1e305dd7d0b3a71653b33a76f286ba", func := "downhaul/downhaullaw05.HmacOf", spec := "hmacOf", apart := false }
def HmacOfSaid : Prop := hmacOfRow.holds Try.pinned (OpenSpec.ofChange hmacOfSpec)

/-- ITS FALSE NEIGHBOUR: 'it returns false'. Refute it at one input. -/
def hmacOfWrong : ChangeSpec := { name := "hmacOf", fn := fun _ => fun
  | [d1, d2] => { results := [.lit (.bool false)], args := [d1, d2] }
  | _ => none }
def HmacOfWrongFalsely : Prop := hmacOfRow.holds Try.pinned (OpenSpec.ofChange hmacOfWrong)

/-- 'downhaullaw05.HmacParts': WHATEVER THE INPUT: true; the input reads as it did. -/
def hmacPartsSpec : ChangeSpec := { name := "hmacParts", fn := fun _ => fun
  | [d1, d2] => { results := [.lit (.bool true)], args := [d1, d2] }
  | _ => none }
def hmacPartsRow : OpenClaim := { program := "ytbpolandhjcggaa", sum := "264e58f38b068e5d6dd7bdb0944a39598c1e305dd7d0b3a71653b33a76f286ba", func := "downhaul/downhaullaw05.HmacParts", spec := "hmacParts", apart := false }
def HmacPartsSaid : Prop := hmacPartsRow.holds Try.pinned (OpenSpec.ofChange hmacPartsSpec)

/-- ITS FALSE NEIGHBOUR: 'it returns false'. Refute it at one input. -/
def hmacPartsWrong : ChangeSpec := { name := "hmacParts", fn := fun _ => fun
  | [d1, d2] => { results := [.lit (.bool false)], args := [d1, d2] }
  | _ => none }
def HmacPartsWrongFalsely : Prop := hmacPartsRow.holds Try.pinned (OpenSpec.ofChange hmacPartsWrong)

/-- 'downhaullaw05.HmacKeys': WHATEVER THE INPUT: true; the input reads as it did. -/
def hmacKeysSpec : ChangeSpec := { name := "hmacKeys", fn := fun _ => fun
  | [d1, d2, d3] => { results := [.lit (.bool true)], args := [d1, d2, d3] }
  | _ => none }
def hmacKeysRow : OpenClaim := { program := "ytbpolandhjcggaa", sum := "264e58f38b068e5d6dd7bdb0944a39598c1e305dd7d0b3a71653b33a76f286ba", func := "downhaul/downhaullaw05.HmacKeys", spec := "hmacKeys", apart := false }
def HmacKeysSaid : Prop := hmacKeysRow.holds Try.pinned (OpenSpec.ofChange hmacKeysSpec)

/-- ITS FALSE NEIGHBOUR: 'it returns false'. Refute it at one input. -/
def hmacKeysWrong : ChangeSpec := { name := "hmacKeys", fn := fun _ => fun
  | [d1, d2, d3] => { results := [.lit (.bool false)], args := [d1, d2, d3] }
  | _ => none }
def HmacKeysWrongFalsely : Prop := hmacKeysRow.holds Try.pinned (OpenSpec.ofChange hmacKeysWrong)

/-- 'downhaullaw05.HmacShort': WHATEVER THE INPUT: true; the input reads as it did. -/
def hmacShortSpec : ChangeSpec := { name := "hmacShort", fn := fun _ => fun
  | [d1, d2] => { results := [.lit (.bool true)], args := [d1, d2] }
  | _ => none }
def hmacShortRow : OpenClaim := { program := "ytbpolandhjcggaa", sum := "264e58f38b068e5d6dd7bdb0944a39598c1e305dd7d0b3a71653b33a76f286ba", func := "downhaul/downhaullaw05.HmacShort", spec := "hmacShort", apart := false }
def HmacShortSaid : Prop := hmacShortRow.holds Try.pinned (OpenSpec.ofChange hmacShortSpec)

/-- ITS FALSE NEIGHBOUR: 'it returns false'. Refute it at one input. -/
def hmacShortWrong : ChangeSpec := { name := "hmacShort", fn := fun _ => fun
  | [d1, d2] => { results := [.lit (.bool false)], args := [d1, d2] }
  | _ => none }
def HmacShortWrongFalsely : Prop := hmacShortRow.holds Try.pinned (OpenSpec.ofChange hmacShortWrong)

/- THE SECOND FORM. 'bulk': how many values and letters a reading holds, each counted each time it is reached (what is shared counts as often as it is met; a slice's spare places count too). A statement '..UptoSaid' is the law's where the arguments, and the package variables that the reading takes, are together of bulk at most 1048576: NARROWER than '..Said'. Prove '..Said' where nothing that the law and all that it calls make is longer than what came in: it says more and counts as full. Else prove '..UptoSaid'. A law counts once. -/
mutual
def uptoBulk {H : Type} : DataW H → Nat
  | .lit (.string bytes) => bytes.length + 1
  | .lit _ => 1
  | .nil => 1
  | .ptr d => uptoBulk d + 1
  | .slice elems spare => uptoBulkAll elems + uptoBulkAll spare + 1
  | .agg parts => uptoBulkAll parts + 1
  | .iface _ d => uptoBulk d + 1
  | .map entries => uptoBulkEntries entries + 1
  | .held _ => 1
def uptoBulkAll {H : Type} : List (DataW H) → Nat
  | [] => 0
  | d :: r => uptoBulk d + uptoBulkAll r
def uptoBulkEntries {H : Type} : List (Lit × DataW H) → Nat
  | [] => 0
  | x :: r => uptoBulkEntry x + uptoBulkEntries r
def uptoBulkEntry {H : Type} : Lit × DataW H → Nat
  | (.string bytes, d) => bytes.length + uptoBulk d + 1
  | (_, d) => uptoBulk d + 1
 end
def uptoSmall : (H : Type) → List (DataW H) → Bool := fun _ ds => decide (uptoBulkAll ds ≤ 1048576)
def OpenSpec.upto (s : _root_.Go.ChangeSpec) : _root_.Go.OpenSpec := { _root_.Go.OpenSpec.ofChange s with cond := some uptoSmall }

/-- 'downhaullaw05.HmacOf', WHERE WHAT IT READS IS OF BULK AT MOST 1048576: true; the input reads as it did. -/
def hmacOfUptoRow : OpenClaim := { program := "ytbpolandhjcggaa", sum := "264e58f38b068e5d6dd7bdb0944a39598c1e305dd7d0b3a71653b33a76f286ba", func := "downhaul/downhaullaw05.HmacOf", spec := "hmacOf", apart := false, narrowed := true }
def HmacOfUptoSaid : Prop := hmacOfUptoRow.holds Try.pinned (OpenSpec.upto hmacOfSpec)

/-- 'downhaullaw05.HmacParts', WHERE WHAT IT READS IS OF BULK AT MOST 1048576: true; the input reads as it did. -/
def hmacPartsUptoRow : OpenClaim := { program := "ytbpolandhjcggaa", sum := "264e58f38b068e5d6dd7bdb0944a39598c1e305dd7d0b3a71653b33a76f286ba", func := "downhaul/downhaullaw05.HmacParts", spec := "hmacParts", apart := false, narrowed := true }
def HmacPartsUptoSaid : Prop := hmacPartsUptoRow.holds Try.pinned (OpenSpec.upto hmacPartsSpec)

/-- 'downhaullaw05.HmacKeys', WHERE WHAT IT READS IS OF BULK AT MOST 1048576: true; the input reads as it did. -/
def hmacKeysUptoRow : OpenClaim := { program := "ytbpolandhjcggaa", sum := "264e58f38b068e5d6dd7bdb0944a39598c1e305dd7d0b3a71653b33a76f286ba", func := "downhaul/downhaullaw05.HmacKeys", spec := "hmacKeys", apart := false, narrowed := true }
def HmacKeysUptoSaid : Prop := hmacKeysUptoRow.holds Try.pinned (OpenSpec.upto hmacKeysSpec)

/-- 'downhaullaw05.HmacShort', WHERE WHAT IT READS IS OF BULK AT MOST 1048576: true; the input reads as it did. -/
def hmacShortUptoRow : OpenClaim := { program := "ytbpolandhjcggaa", sum := "264e58f38b068e5d6dd7bdb0944a39598c1e305dd7d0b3a71653b33a76f286ba", func := "downhaul/downhaullaw05.HmacShort", spec := "hmacShort", apart := false, narrowed := true }
def HmacShortUptoSaid : Prop := hmacShortUptoRow.holds Try.pinned (OpenSpec.upto hmacShortSpec)

end Rows
end Go.Proofs.Ytbpolandhjcggaa
