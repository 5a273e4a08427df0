/-
  No cell of these rows narrows 'for every input' (looked for: loops, veiled, ifaces, maps, wideKeys, modest, calm, conditions, laid).
  DERIVED. THE GIVEN ROWS OF THIS SEAT. 6 by the template 'for every input the law returns true; each argument reads behind the call as it read before'; 0 by the template 'total and deterministic' (their statements: YthbgjjfhgbkbdaaTotals.lean).
  GIVEN WITH THE SEED: the statements are not yours to turn. If you find one false, say at which input.
  Laid BY PROGRAM, IN A SANDBOX (cutbox-rows.mjs): the forced cells as the released guide's own fill.sh prints them over the translation a7555f83947b46b4… (all of the seat's roots in one cut). By AI agents, Wed Nov 11 2026. No macro, syntax, notation, axiom, sorry.
-/
import Derived.Test.YthbgjjfhgbkbdaaChecked
import GoSem.Claim
import GoSem.ClaimJoined
import GoSem.ClaimMapViews
import Derived.JoinedTies
import Derived.KernelRfl
namespace Go.Proofs.Ythbgjjfhgbkbdaa
/- THE CELL 'sum', in the pinned program and in every row, IS THE sha256 OF THE DUMP (.gsa) THAT YthbgjjfhgbkbdaaProg.lean LOADS. Nothing in Lean hashes anything: it is a label: what it is worth is what the hold of that sum in a sandbox is worth. -/
noncomputable def Try.pinned : Pinned := { name := "ythbgjjfhgbkbdaa", sum := "a7555f83947b46b45a1a526818b3985b21998036079b407e981ec5d8ed9eb978", checked := Try.checked }
namespace Rows
def none {H : Type} : Left H := { results := [], args := [] }

/-- 'downhaullaw08.KdfKeys': WHATEVER THE INPUT: true; the input reads as it did. -/
def kdfKeysSpec : ChangeSpec := { name := "kdfKeys", fn := fun _ => fun
  | [d1, d2, d3] => { results := [.lit (.bool true)], args := [d1, d2, d3] }
  | _ => none }
def kdfKeysRow : OpenClaim := { program := "ythbgjjfhgbkbdaa", sum := "a7555f83947b46b45a1a526818b3985b21998036079b407e981ec5d8ed9eb978", func := "downhaul/downhaullaw08.KdfKeys", spec := "kdfKeys", apart := false }
def KdfKeysSaid : Prop := kdfKeysRow.holds Try.pinned (OpenSpec.ofChange kdfKeysSpec)

/-- ITS FALSE NEIGHBOUR: 'it returns false'. Refute it at one input. -/
def kdfKeysWrong : ChangeSpec := { name := "kdfKeys", fn := fun _ => fun
  | [d1, d2, d3] => { results := [.lit (.bool false)], args := [d1, d2, d3] }
  | _ => none }
def KdfKeysWrongFalsely : Prop := kdfKeysRow.holds Try.pinned (OpenSpec.ofChange kdfKeysWrong)

/-- 'downhaullaw08.KdfContexts': WHATEVER THE INPUT: true; the input reads as it did. -/
def kdfContextsSpec : ChangeSpec := { name := "kdfContexts", fn := fun _ => fun
  | [d1, d2, d3] => { results := [.lit (.bool true)], args := [d1, d2, d3] }
  | _ => none }
def kdfContextsRow : OpenClaim := { program := "ythbgjjfhgbkbdaa", sum := "a7555f83947b46b45a1a526818b3985b21998036079b407e981ec5d8ed9eb978", func := "downhaul/downhaullaw08.KdfContexts", spec := "kdfContexts", apart := false }
def KdfContextsSaid : Prop := kdfContextsRow.holds Try.pinned (OpenSpec.ofChange kdfContextsSpec)

/-- ITS FALSE NEIGHBOUR: 'it returns false'. Refute it at one input. -/
def kdfContextsWrong : ChangeSpec := { name := "kdfContexts", fn := fun _ => fun
  | [d1, d2, d3] => { results := [.lit (.bool false)], args := [d1, d2, d3] }
  | _ => none }
def KdfContextsWrongFalsely : Prop := kdfContextsRow.holds Try.pinned (OpenSpec.ofChange kdfContextsWrong)

/-- 'downhaullaw08.KdfMacs': WHATEVER THE INPUT: true; the input reads as it did. -/
def kdfMacsSpec : ChangeSpec := { name := "kdfMacs", fn := fun _ => fun
  | [d1, d2, d3] => { results := [.lit (.bool true)], args := [d1, d2, d3] }
  | _ => none }
def kdfMacsRow : OpenClaim := { program := "ythbgjjfhgbkbdaa", sum := "a7555f83947b46b45a1a526818b3985b21998036079b407e981ec5d8ed9eb978", func := "downhaul/downhaullaw08.KdfMacs", spec := "kdfMacs", apart := false }
def KdfMacsSaid : Prop := kdfMacsRow.holds Try.pinned (OpenSpec.ofChange kdfMacsSpec)

/-- ITS FALSE NEIGHBOUR: 'it returns false'. Refute it at one input. -/
def kdfMacsWrong : ChangeSpec := { name := "kdfMacs", fn := fun _ => fun
  | [d1, d2, d3] => { results := [.lit (.bool false)], args := [d1, d2, d3] }
  | _ => none }
def KdfMacsWrongFalsely : Prop := kdfMacsRow.holds Try.pinned (OpenSpec.ofChange kdfMacsWrong)

/-- 'downhaullaw08.KdfTurned': WHATEVER THE INPUT: true; the input reads as it did. -/
def kdfTurnedSpec : ChangeSpec := { name := "kdfTurned", fn := fun _ => fun
  | [d1, d2, d3] => { results := [.lit (.bool true)], args := [d1, d2, d3] }
  | _ => none }
def kdfTurnedRow : OpenClaim := { program := "ythbgjjfhgbkbdaa", sum := "a7555f83947b46b45a1a526818b3985b21998036079b407e981ec5d8ed9eb978", func := "downhaul/downhaullaw08.KdfTurned", spec := "kdfTurned", apart := false }
def KdfTurnedSaid : Prop := kdfTurnedRow.holds Try.pinned (OpenSpec.ofChange kdfTurnedSpec)

/-- ITS FALSE NEIGHBOUR: 'it returns false'. Refute it at one input. -/
def kdfTurnedWrong : ChangeSpec := { name := "kdfTurned", fn := fun _ => fun
  | [d1, d2, d3] => { results := [.lit (.bool false)], args := [d1, d2, d3] }
  | _ => none }
def KdfTurnedWrongFalsely : Prop := kdfTurnedRow.holds Try.pinned (OpenSpec.ofChange kdfTurnedWrong)

/-- 'downhaullaw08.KdfSizes': WHATEVER THE INPUT: true; the input reads as it did. -/
def kdfSizesSpec : ChangeSpec := { name := "kdfSizes", fn := fun _ => fun
  | [d1, d2, d3] => { results := [.lit (.bool true)], args := [d1, d2, d3] }
  | _ => none }
def kdfSizesRow : OpenClaim := { program := "ythbgjjfhgbkbdaa", sum := "a7555f83947b46b45a1a526818b3985b21998036079b407e981ec5d8ed9eb978", func := "downhaul/downhaullaw08.KdfSizes", spec := "kdfSizes", apart := false }
def KdfSizesSaid : Prop := kdfSizesRow.holds Try.pinned (OpenSpec.ofChange kdfSizesSpec)

/-- ITS FALSE NEIGHBOUR: 'it returns false'. Refute it at one input. -/
def kdfSizesWrong : ChangeSpec := { name := "kdfSizes", fn := fun _ => fun
  | [d1, d2, d3] => { results := [.lit (.bool false)], args := [d1, d2, d3] }
  | _ => none }
def KdfSizesWrongFalsely : Prop := kdfSizesRow.holds Try.pinned (OpenSpec.ofChange kdfSizesWrong)

/-- 'downhaullaw08.KdfApart': WHATEVER THE INPUT: true; the input reads as it did. -/
def kdfApartSpec : ChangeSpec := { name := "kdfApart", fn := fun _ => fun
  | [d1, d2, d3] => { results := [.lit (.bool true)], args := [d1, d2, d3] }
  | _ => none }
def kdfApartRow : OpenClaim := { program := "ythbgjjfhgbkbdaa", sum := "a7555f83947b46b45a1a526818b3985b21998036079b407e981ec5d8ed9eb978", func := "downhaul/downhaullaw08.KdfApart", spec := "kdfApart", unfollowed := true, recurses := true, apart := false }
def KdfApartSaid : Prop := kdfApartRow.holds Try.pinned (OpenSpec.ofChange kdfApartSpec)

/-- ITS FALSE NEIGHBOUR: 'it returns false'. Refute it at one input. -/
def kdfApartWrong : ChangeSpec := { name := "kdfApart", fn := fun _ => fun
  | [d1, d2, d3] => { results := [.lit (.bool false)], args := [d1, d2, d3] }
  | _ => none }
def KdfApartWrongFalsely : Prop := kdfApartRow.holds Try.pinned (OpenSpec.ofChange kdfApartWrong)

/- THE SECOND FORM. 'bulk': how many values and letters a reading holds, each counted each time it is reached (what is shared counts as often as it is met; a slice's spare places count too). A statement '..UptoSaid' is the law's where the arguments, and the package variables that the reading takes, are together of bulk at most 1048576: NARROWER than '..Said'. Prove '..Said' where nothing that the law and all that it calls make is longer than what came in: it says more and counts as full. Else prove '..UptoSaid'. A law counts once. -/
mutual
def uptoBulk {H : Type} : DataW H → Nat
  | .lit (.string bytes) => bytes.length + 1
  | .lit _ => 1
  | .nil => 1
  | .ptr d => uptoBulk d + 1
  | .slice elems spare => uptoBulkAll elems + uptoBulkAll spare + 1
  | .agg parts => uptoBulkAll parts + 1
  | .iface _ d => uptoBulk d + 1
  | .map entries => uptoBulkEntries entries + 1
  | .held _ => 1
def uptoBulkAll {H : Type} : List (DataW H) → Nat
  | [] => 0
  | d :: r => uptoBulk d + uptoBulkAll r
def uptoBulkEntries {H : Type} : List (Lit × DataW H) → Nat
  | [] => 0
  | x :: r => uptoBulkEntry x + uptoBulkEntries r
def uptoBulkEntry {H : Type} : Lit × DataW H → Nat
  | (.string bytes, d) => bytes.length + uptoBulk d + 1
  | (_, d) => uptoBulk d + 1
 end
def uptoSmall : (H : Type) → List (DataW H) → Bool := fun _ ds => decide (uptoBulkAll ds ≤ 1048576)
def OpenSpec.upto (s : _root_.Go.ChangeSpec) : _root_.Go.OpenSpec := { _root_.Go.OpenSpec.ofChange s with cond := some uptoSmall }

/-- 'downhaullaw08.KdfKeys', WHERE WHAT IT READS IS OF BULK AT MOST 1048576: true; the input reads as it did. -/
def kdfKeysUptoRow : OpenClaim := { program := "ythbgjjfhgbkbdaa", sum := "a7555f83947b46b45a1a526818b3985b21998036079b407e981ec5d8ed9eb978", func := "downhaul/downhaullaw08.KdfKeys", spec := "kdfKeys", apart := false, narrowed := true }
def KdfKeysUptoSaid : Prop := kdfKeysUptoRow.holds Try.pinned (OpenSpec.upto kdfKeysSpec)

/-- 'downhaullaw08.KdfContexts', WHERE WHAT IT READS IS OF BULK AT MOST 1048576: true; the input reads as it did. -/
def kdfContextsUptoRow : OpenClaim := { program := "ythbgjjfhgbkbdaa", sum := "a7555f83947b46b45a1a526818b3985b21998036079b407e981ec5d8ed9eb978", func := "downhaul/downhaullaw08.KdfContexts", spec := "kdfContexts", apart := false, narrowed := true }
def KdfContextsUptoSaid : Prop := kdfContextsUptoRow.holds Try.pinned (OpenSpec.upto kdfContextsSpec)

/-- 'downhaullaw08.KdfMacs', WHERE WHAT IT READS IS OF BULK AT MOST 1048576: true; the input reads as it did. -/
def kdfMacsUptoRow : OpenClaim := { program := "ythbgjjfhgbkbdaa", sum := "a7555f83947b46b45a1a526818b3985b21998036079b407e981ec5d8ed9eb978", func := "downhaul/downhaullaw08.KdfMacs", spec := "kdfMacs", apart := false, narrowed := true }
def KdfMacsUptoSaid : Prop := kdfMacsUptoRow.holds Try.pinned (OpenSpec.upto kdfMacsSpec)

/-- 'downhaullaw08.KdfTurned', WHERE WHAT IT READS IS OF BULK AT MOST 1048576: true; the input reads as it did. -/
def kdfTurnedUptoRow : OpenClaim := { program := "ythbgjjfhgbkbdaa", sum := "a7555f83947b46b45a1a526818b3985b21998036079b407e981ec5d8ed9eb978", func := "downhaul/downhaullaw08.KdfTurned", spec := "kdfTurned", apart := false, narrowed := true }
def KdfTurnedUptoSaid : Prop := kdfTurnedUptoRow.holds Try.pinned (OpenSpec.upto kdfTurnedSpec)

/-- 'downhaullaw08.KdfSizes', WHERE WHAT IT READS IS OF BULK AT MOST 1048576: true; the input reads as it did. -/
def kdfSizesUptoRow : OpenClaim := { program := "ythbgjjfhgbkbdaa", sum := "a7555f83947b46b45a1a526818b3985b21998036079b407e981ec5d8ed9eb978", func := "downhaul/downhaullaw08.KdfSizes", spec := "kdfSizes", apart := false, narrowed := true }
def KdfSizesUptoSaid : Prop := kdfSizesUptoRow.holds Try.pinned (OpenSpec.upto kdfSizesSpec)

/-- 'downhaullaw08.KdfApart', WHERE WHAT IT READS IS OF BULK AT MOST 1048576: true; the input reads as it did. -/
def kdfApartUptoRow : OpenClaim := { program := "ythbgjjfhgbkbdaa", sum := "a7555f83947b46b45a1a526818b3985b21998036079b407e981ec5d8ed9eb978", func := "downhaul/downhaullaw08.KdfApart", spec := "kdfApart", unfollowed := true, recurses := true, apart := false, narrowed := true }
def KdfApartUptoSaid : Prop := kdfApartUptoRow.holds Try.pinned (OpenSpec.upto kdfApartSpec)

end Rows
end Go.Proofs.Ythbgjjfhgbkbdaa
