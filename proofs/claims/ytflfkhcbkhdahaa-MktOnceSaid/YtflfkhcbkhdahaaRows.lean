/-
  No cell of these rows narrows 'for every input' (looked for: loops, veiled, ifaces, maps, wideKeys, modest, calm, conditions, laid).
  DERIVED. THE GIVEN ROWS OF THIS SEAT. 3 by the template 'for every input the law returns true; each argument reads behind the call as it read before'; 0 by the template 'total and deterministic' (their statements: YtflfkhcbkhdahaaTotals.lean).
  GIVEN WITH THE SEED: the statements are not yours to turn. If you find one false, say at which input.
  Laid BY PROGRAM, IN A SANDBOX (cutbox-rows.mjs): the forced cells as the released guide's own fill.sh prints them over the translation 8828dee9a3f55cc2… (all of the seat's roots in one cut). By AI agents, Wed Nov 11 2026. No macro, syntax, notation, axiom, sorry.
-/
import Derived.Test.YtflfkhcbkhdahaaChecked
import GoSem.Claim
import GoSem.ClaimJoined
import GoSem.ClaimMapViews
import Derived.JoinedTies
import Derived.KernelRfl
namespace Go.Proofs.Ytflfkhcbkhdahaa
/- THE CELL 'sum', in the pinned program and in every row, IS THE sha256 OF THE DUMP (.gsa) THAT YtflfkhcbkhdahaaProg.lean LOADS. Nothing in Lean hashes anything: it is a label: what it is worth is what the hold of that sum in a sandbox is worth. -/
noncomputable def Try.pinned : Pinned := { name := "ytflfkhcbkhdahaa", sum := "8828dee9a3f55cc2d953a3cdaa7667dac36c34ee86c4b88f763f706a68018f8b", checked := Try.checked }
namespace Rows
def none {H : Type} : Left H := { results := [], args := [] }

/-- 'downhaullaw19.MktPlays': WHATEVER THE INPUT: true; the input reads as it did. -/
def mktPlaysSpec : ChangeSpec := { name := "mktPlays", fn := fun _ => fun
  | [d1, d2, d3] => { results := [.lit (.bool true)], args := [d1, d2, d3] }
  | _ => none }
def mktPlaysRow : OpenClaim := { program := "ytflfkhcbkhdahaa", sum := "8828dee9a3f55cc2d953a3cdaa7667dac36c34ee86c4b88f763f706a68018f8b", func := "downhaul/downhaullaw19.MktPlays", spec := "mktPlays", unfollowed := true, recurses := true, apart := false }
def MktPlaysSaid : Prop := mktPlaysRow.holds Try.pinned (OpenSpec.ofChange mktPlaysSpec)

/-- ITS FALSE NEIGHBOUR: 'it returns false'. Refute it at one input. -/
def mktPlaysWrong : ChangeSpec := { name := "mktPlays", fn := fun _ => fun
  | [d1, d2, d3] => { results := [.lit (.bool false)], args := [d1, d2, d3] }
  | _ => none }
def MktPlaysWrongFalsely : Prop := mktPlaysRow.holds Try.pinned (OpenSpec.ofChange mktPlaysWrong)

/-- 'downhaullaw19.MktOnce': WHATEVER THE INPUT: true; the input reads as it did. -/
def mktOnceSpec : ChangeSpec := { name := "mktOnce", fn := fun _ => fun
  | [d1, d2] => { results := [.lit (.bool true)], args := [d1, d2] }
  | _ => none }
def mktOnceRow : OpenClaim := { program := "ytflfkhcbkhdahaa", sum := "8828dee9a3f55cc2d953a3cdaa7667dac36c34ee86c4b88f763f706a68018f8b", func := "downhaul/downhaullaw19.MktOnce", spec := "mktOnce", unfollowed := true, recurses := true, apart := false }
def MktOnceSaid : Prop := mktOnceRow.holds Try.pinned (OpenSpec.ofChange mktOnceSpec)

/-- ITS FALSE NEIGHBOUR: 'it returns false'. Refute it at one input. -/
def mktOnceWrong : ChangeSpec := { name := "mktOnce", fn := fun _ => fun
  | [d1, d2] => { results := [.lit (.bool false)], args := [d1, d2] }
  | _ => none }
def MktOnceWrongFalsely : Prop := mktOnceRow.holds Try.pinned (OpenSpec.ofChange mktOnceWrong)

/-- 'downhaullaw19.MktNobody': WHATEVER THE INPUT: true; the input reads as it did. -/
def mktNobodySpec : ChangeSpec := { name := "mktNobody", fn := fun _ => fun
  | [d1, d2] => { results := [.lit (.bool true)], args := [d1, d2] }
  | _ => none }
def mktNobodyRow : OpenClaim := { program := "ytflfkhcbkhdahaa", sum := "8828dee9a3f55cc2d953a3cdaa7667dac36c34ee86c4b88f763f706a68018f8b", func := "downhaul/downhaullaw19.MktNobody", spec := "mktNobody", unfollowed := true, recurses := true, apart := false }
def MktNobodySaid : Prop := mktNobodyRow.holds Try.pinned (OpenSpec.ofChange mktNobodySpec)

/-- ITS FALSE NEIGHBOUR: 'it returns false'. Refute it at one input. -/
def mktNobodyWrong : ChangeSpec := { name := "mktNobody", fn := fun _ => fun
  | [d1, d2] => { results := [.lit (.bool false)], args := [d1, d2] }
  | _ => none }
def MktNobodyWrongFalsely : Prop := mktNobodyRow.holds Try.pinned (OpenSpec.ofChange mktNobodyWrong)

/- THE SECOND FORM. 'bulk': how many values and letters a reading holds, each counted each time it is reached (what is shared counts as often as it is met; a slice's spare places count too). A statement '..UptoSaid' is the law's where the arguments, and the package variables that the reading takes, are together of bulk at most 1048576: NARROWER than '..Said'. Prove '..Said' where nothing that the law and all that it calls make is longer than what came in: it says more and counts as full. Else prove '..UptoSaid'. A law counts once. -/
mutual
def uptoBulk {H : Type} : DataW H → Nat
  | .lit (.string bytes) => bytes.length + 1
  | .lit _ => 1
  | .nil => 1
  | .ptr d => uptoBulk d + 1
  | .slice elems spare => uptoBulkAll elems + uptoBulkAll spare + 1
  | .agg parts => uptoBulkAll parts + 1
  | .iface _ d => uptoBulk d + 1
  | .map entries => uptoBulkEntries entries + 1
  | .held _ => 1
def uptoBulkAll {H : Type} : List (DataW H) → Nat
  | [] => 0
  | d :: r => uptoBulk d + uptoBulkAll r
def uptoBulkEntries {H : Type} : List (Lit × DataW H) → Nat
  | [] => 0
  | x :: r => uptoBulkEntry x + uptoBulkEntries r
def uptoBulkEntry {H : Type} : Lit × DataW H → Nat
  | (.string bytes, d) => bytes.length + uptoBulk d + 1
  | (_, d) => uptoBulk d + 1
 end
def uptoSmall : (H : Type) → List (DataW H) → Bool := fun _ ds => decide (uptoBulkAll ds ≤ 1048576)
def OpenSpec.upto (s : _root_.Go.ChangeSpec) : _root_.Go.OpenSpec := { _root_.Go.OpenSpec.ofChange s with cond := some uptoSmall }

/-- 'downhaullaw19.MktPlays', WHERE WHAT IT READS IS OF BULK AT MOST 1048576: true; the input reads as it did. -/
def mktPlaysUptoRow : OpenClaim := { program := "ytflfkhcbkhdahaa", sum := "8828dee9a3f55cc2d953a3cdaa7667dac36c34ee86c4b88f763f706a68018f8b", func := "downhaul/downhaullaw19.MktPlays", spec := "mktPlays", unfollowed := true, recurses := true, apart := false, narrowed := true }
def MktPlaysUptoSaid : Prop := mktPlaysUptoRow.holds Try.pinned (OpenSpec.upto mktPlaysSpec)

/-- 'downhaullaw19.MktOnce', WHERE WHAT IT READS IS OF BULK AT MOST 1048576: true; the input reads as it did. -/
def mktOnceUptoRow : OpenClaim := { program := "ytflfkhcbkhdahaa", sum := "8828dee9a3f55cc2d953a3cdaa7667dac36c34ee86c4b88f763f706a68018f8b", func := "downhaul/downhaullaw19.MktOnce", spec := "mktOnce", unfollowed := true, recurses := true, apart := false, narrowed := true }
def MktOnceUptoSaid : Prop := mktOnceUptoRow.holds Try.pinned (OpenSpec.upto mktOnceSpec)

/-- 'downhaullaw19.MktNobody', WHERE WHAT IT READS IS OF BULK AT MOST 1048576: true; the input reads as it did. -/
def mktNobodyUptoRow : OpenClaim := { program := "ytflfkhcbkhdahaa", sum := "8828dee9a3f55cc2d953a3cdaa7667dac36c34ee86c4b88f763f706a68018f8b", func := "downhaul/downhaullaw19.MktNobody", spec := "mktNobody", unfollowed := true, recurses := true, apart := false, narrowed := true }
def MktNobodyUptoSaid : Prop := mktNobodyUptoRow.holds Try.pinned (OpenSpec.upto mktNobodySpec)

end Rows
end Go.Proofs.Ytflfkhcbkhdahaa
