/-
  NARROWER THAN 'FOR EVERY INPUT', by the rows' own cells (each row's printed sentence says how): SegLays: laid · SegParses: laid · SegTurns: laid · SegBack: laid · SegAgain: laid · SegTrimmed: laid.
  DERIVED. THE GIVEN ROWS OF THIS SEAT. 6 by the template 'for every input the law returns true; each argument reads behind the call as it read before'; 0 by the template 'total and deterministic' (their statements: YtniimgbljhmcoaaDoorTotals.lean).
  GIVEN WITH THE SEED: the statements are not yours to turn. If you find one false, say at which input.
  Laid BY PROGRAM, IN A SANDBOX (cutbox-rows.mjs): the forced cells as the released guide's own fill.sh prints them over the translation c5f87e73b4d16ef1… (all of the seat's roots in one cut). By AI agents, Wed Nov 11 2026. No macro, syntax, notation, axiom, sorry.
-/
import Derived.Test.YtniimgbljhmcoaaDoorChecked
import GoSem.Claim
import GoSem.ClaimJoined
import GoSem.ClaimMapViews
import Derived.JoinedTies
import Derived.KernelRfl
namespace Go.Proofs.YtniimgbljhmcoaaDoor
/- THE CELL 'sum', in the pinned program and in every row, IS THE sha256 OF THE DUMP (.gsa) THAT YtniimgbljhmcoaaDoorProg.lean LOADS. Nothing in Lean hashes anything: it is a label: what it is worth is what the hold of that sum in a sandbox is worth. -/
noncomputable def Tryd.pinned : Pinned := { name := "ytniimgbljhmcoaadoor", sum := "c5f87e73b4d16ef100144320961c5314d164d6daa73ed489f26f3b217c68a288", checked := Tryd.checked }
namespace Rows
def none {H : Type} : Left H := { results := [], args := [] }

/- WHAT THE LISTED PACKAGE-LEVEL VARIABLES READ AS WHEN THE CALL BEGINS. Each datum BY PROGRAM (the guide's laid-datum.mjs) off the statement by which the dump's own 'gosem.cut.vars' lays the variable. In a bare row this is a premise. The card (YtniimgbljhmcoaaDoorCards.lean) ties it to the program's text. -/
def laid_downhaul_opts_kinds {H : Type} : DataW H := .agg [.lit (.int .u8 2), .lit (.int .u8 3), .lit (.int .u8 4), .lit (.int .u8 8), .lit (.int .u8 5), .lit (.int .u8 29)]

/-- 'downhaullaw13.SegLays': WHATEVER THE INPUT: true; the input reads as it did. -/
def segLaysSpec : ChangeSpec := { name := "segLays", fn := fun _ => fun
  | [d1, d2, d3] => { results := [.lit (.bool true)], args := [d1, d2, d3] }
  | _ => none }
def segLaysRow : OpenClaim := { program := "ytniimgbljhmcoaadoor", sum := "c5f87e73b4d16ef100144320961c5314d164d6daa73ed489f26f3b217c68a288", func := "downhaul/downhaullaw13.SegLays", spec := "segLays", unfollowed := true, recurses := true, named := ["downhaul/opts.kinds"], apart := false, laid := [("downhaul/opts.kinds", laid_downhaul_opts_kinds)] }
def SegLaysSaid : Prop := segLaysRow.holds Tryd.pinned (OpenSpec.ofChange segLaysSpec)

/-- ITS FALSE NEIGHBOUR: 'it returns false'. Refute it at one input. -/
def segLaysWrong : ChangeSpec := { name := "segLays", fn := fun _ => fun
  | [d1, d2, d3] => { results := [.lit (.bool false)], args := [d1, d2, d3] }
  | _ => none }
def SegLaysWrongFalsely : Prop := segLaysRow.holds Tryd.pinned (OpenSpec.ofChange segLaysWrong)

/-- 'downhaullaw13.SegParses': WHATEVER THE INPUT: true; the input reads as it did. -/
def segParsesSpec : ChangeSpec := { name := "segParses", fn := fun _ => fun
  | [d1, d2] => { results := [.lit (.bool true)], args := [d1, d2] }
  | _ => none }
def segParsesRow : OpenClaim := { program := "ytniimgbljhmcoaadoor", sum := "c5f87e73b4d16ef100144320961c5314d164d6daa73ed489f26f3b217c68a288", func := "downhaul/downhaullaw13.SegParses", spec := "segParses", unfollowed := true, recurses := true, named := ["downhaul/opts.kinds"], apart := false, laid := [("downhaul/opts.kinds", laid_downhaul_opts_kinds)] }
def SegParsesSaid : Prop := segParsesRow.holds Tryd.pinned (OpenSpec.ofChange segParsesSpec)

/-- ITS FALSE NEIGHBOUR: 'it returns false'. Refute it at one input. -/
def segParsesWrong : ChangeSpec := { name := "segParses", fn := fun _ => fun
  | [d1, d2] => { results := [.lit (.bool false)], args := [d1, d2] }
  | _ => none }
def SegParsesWrongFalsely : Prop := segParsesRow.holds Tryd.pinned (OpenSpec.ofChange segParsesWrong)

/-- 'downhaullaw13.SegTurns': WHATEVER THE INPUT: true; the input reads as it did. -/
def segTurnsSpec : ChangeSpec := { name := "segTurns", fn := fun _ => fun
  | [d1, d2, d3] => { results := [.lit (.bool true)], args := [d1, d2, d3] }
  | _ => none }
def segTurnsRow : OpenClaim := { program := "ytniimgbljhmcoaadoor", sum := "c5f87e73b4d16ef100144320961c5314d164d6daa73ed489f26f3b217c68a288", func := "downhaul/downhaullaw13.SegTurns", spec := "segTurns", unfollowed := true, recurses := true, named := ["downhaul/opts.kinds"], apart := false, laid := [("downhaul/opts.kinds", laid_downhaul_opts_kinds)] }
def SegTurnsSaid : Prop := segTurnsRow.holds Tryd.pinned (OpenSpec.ofChange segTurnsSpec)

/-- ITS FALSE NEIGHBOUR: 'it returns false'. Refute it at one input. -/
def segTurnsWrong : ChangeSpec := { name := "segTurns", fn := fun _ => fun
  | [d1, d2, d3] => { results := [.lit (.bool false)], args := [d1, d2, d3] }
  | _ => none }
def SegTurnsWrongFalsely : Prop := segTurnsRow.holds Tryd.pinned (OpenSpec.ofChange segTurnsWrong)

/-- 'downhaullaw13.SegBack': WHATEVER THE INPUT: true; the input reads as it did. -/
def segBackSpec : ChangeSpec := { name := "segBack", fn := fun _ => fun
  | [d1, d2] => { results := [.lit (.bool true)], args := [d1, d2] }
  | _ => none }
def segBackRow : OpenClaim := { program := "ytniimgbljhmcoaadoor", sum := "c5f87e73b4d16ef100144320961c5314d164d6daa73ed489f26f3b217c68a288", func := "downhaul/downhaullaw13.SegBack", spec := "segBack", unfollowed := true, recurses := true, named := ["downhaul/opts.kinds"], apart := false, laid := [("downhaul/opts.kinds", laid_downhaul_opts_kinds)] }
def SegBackSaid : Prop := segBackRow.holds Tryd.pinned (OpenSpec.ofChange segBackSpec)

/-- ITS FALSE NEIGHBOUR: 'it returns false'. Refute it at one input. -/
def segBackWrong : ChangeSpec := { name := "segBack", fn := fun _ => fun
  | [d1, d2] => { results := [.lit (.bool false)], args := [d1, d2] }
  | _ => none }
def SegBackWrongFalsely : Prop := segBackRow.holds Tryd.pinned (OpenSpec.ofChange segBackWrong)

/-- 'downhaullaw13.SegAgain': WHATEVER THE INPUT: true; the input reads as it did. -/
def segAgainSpec : ChangeSpec := { name := "segAgain", fn := fun _ => fun
  | [d1, d2] => { results := [.lit (.bool true)], args := [d1, d2] }
  | _ => none }
def segAgainRow : OpenClaim := { program := "ytniimgbljhmcoaadoor", sum := "c5f87e73b4d16ef100144320961c5314d164d6daa73ed489f26f3b217c68a288", func := "downhaul/downhaullaw13.SegAgain", spec := "segAgain", unfollowed := true, recurses := true, named := ["downhaul/opts.kinds"], apart := false, laid := [("downhaul/opts.kinds", laid_downhaul_opts_kinds)] }
def SegAgainSaid : Prop := segAgainRow.holds Tryd.pinned (OpenSpec.ofChange segAgainSpec)

/-- ITS FALSE NEIGHBOUR: 'it returns false'. Refute it at one input. -/
def segAgainWrong : ChangeSpec := { name := "segAgain", fn := fun _ => fun
  | [d1, d2] => { results := [.lit (.bool false)], args := [d1, d2] }
  | _ => none }
def SegAgainWrongFalsely : Prop := segAgainRow.holds Tryd.pinned (OpenSpec.ofChange segAgainWrong)

/-- 'downhaullaw13.SegTrimmed': WHATEVER THE INPUT: true; the input reads as it did. -/
def segTrimmedSpec : ChangeSpec := { name := "segTrimmed", fn := fun _ => fun
  | [d1, d2, d3] => { results := [.lit (.bool true)], args := [d1, d2, d3] }
  | _ => none }
def segTrimmedRow : OpenClaim := { program := "ytniimgbljhmcoaadoor", sum := "c5f87e73b4d16ef100144320961c5314d164d6daa73ed489f26f3b217c68a288", func := "downhaul/downhaullaw13.SegTrimmed", spec := "segTrimmed", unfollowed := true, recurses := true, named := ["downhaul/opts.kinds"], apart := false, laid := [("downhaul/opts.kinds", laid_downhaul_opts_kinds)] }
def SegTrimmedSaid : Prop := segTrimmedRow.holds Tryd.pinned (OpenSpec.ofChange segTrimmedSpec)

/-- ITS FALSE NEIGHBOUR: 'it returns false'. Refute it at one input. -/
def segTrimmedWrong : ChangeSpec := { name := "segTrimmed", fn := fun _ => fun
  | [d1, d2, d3] => { results := [.lit (.bool false)], args := [d1, d2, d3] }
  | _ => none }
def SegTrimmedWrongFalsely : Prop := segTrimmedRow.holds Tryd.pinned (OpenSpec.ofChange segTrimmedWrong)

/- THE SECOND FORM. 'bulk': how many values and letters a reading holds, each counted each time it is reached (what is shared counts as often as it is met; a slice's spare places count too). A statement '..UptoSaid' is the law's where the arguments, and the package variables that the reading takes, are together of bulk at most 1048576: NARROWER than '..Said'. Prove '..Said' where nothing that the law and all that it calls make is longer than what came in: it says more and counts as full. Else prove '..UptoSaid'. A law counts once. -/
mutual
def uptoBulk {H : Type} : DataW H → Nat
  | .lit (.string bytes) => bytes.length + 1
  | .lit _ => 1
  | .nil => 1
  | .ptr d => uptoBulk d + 1
  | .slice elems spare => uptoBulkAll elems + uptoBulkAll spare + 1
  | .agg parts => uptoBulkAll parts + 1
  | .iface _ d => uptoBulk d + 1
  | .map entries => uptoBulkEntries entries + 1
  | .held _ => 1
def uptoBulkAll {H : Type} : List (DataW H) → Nat
  | [] => 0
  | d :: r => uptoBulk d + uptoBulkAll r
def uptoBulkEntries {H : Type} : List (Lit × DataW H) → Nat
  | [] => 0
  | x :: r => uptoBulkEntry x + uptoBulkEntries r
def uptoBulkEntry {H : Type} : Lit × DataW H → Nat
  | (.string bytes, d) => bytes.length + uptoBulk d + 1
  | (_, d) => uptoBulk d + 1
 end
def uptoSmall : (H : Type) → List (DataW H) → Bool := fun _ ds => decide (uptoBulkAll ds ≤ 1048576)
def OpenSpec.upto (s : _root_.Go.ChangeSpec) : _root_.Go.OpenSpec := { _root_.Go.OpenSpec.ofChange s with cond := some uptoSmall }

/-- 'downhaullaw13.SegLays', WHERE WHAT IT READS IS OF BULK AT MOST 1048576: true; the input reads as it did. -/
def segLaysUptoRow : OpenClaim := { program := "ytniimgbljhmcoaadoor", sum := "c5f87e73b4d16ef100144320961c5314d164d6daa73ed489f26f3b217c68a288", func := "downhaul/downhaullaw13.SegLays", spec := "segLays", unfollowed := true, recurses := true, named := ["downhaul/opts.kinds"], apart := false, laid := [("downhaul/opts.kinds", laid_downhaul_opts_kinds)], narrowed := true }
def SegLaysUptoSaid : Prop := segLaysUptoRow.holds Tryd.pinned (OpenSpec.upto segLaysSpec)

/-- 'downhaullaw13.SegParses', WHERE WHAT IT READS IS OF BULK AT MOST 1048576: true; the input reads as it did. -/
def segParsesUptoRow : OpenClaim := { program := "ytniimgbljhmcoaadoor", sum := "c5f87e73b4d16ef100144320961c5314d164d6daa73ed489f26f3b217c68a288", func := "downhaul/downhaullaw13.SegParses", spec := "segParses", unfollowed := true, recurses := true, named := ["downhaul/opts.kinds"], apart := false, laid := [("downhaul/opts.kinds", laid_downhaul_opts_kinds)], narrowed := true }
def SegParsesUptoSaid : Prop := segParsesUptoRow.holds Tryd.pinned (OpenSpec.upto segParsesSpec)

/-- 'downhaullaw13.SegTurns', WHERE WHAT IT READS IS OF BULK AT MOST 1048576: true; the input reads as it did. -/
def segTurnsUptoRow : OpenClaim := { program := "ytniimgbljhmcoaadoor", sum := "c5f87e73b4d16ef100144320961c5314d164d6daa73ed489f26f3b217c68a288", func := "downhaul/downhaullaw13.SegTurns", spec := "segTurns", unfollowed := true, recurses := true, named := ["downhaul/opts.kinds"], apart := false, laid := [("downhaul/opts.kinds", laid_downhaul_opts_kinds)], narrowed := true }
def SegTurnsUptoSaid : Prop := segTurnsUptoRow.holds Tryd.pinned (OpenSpec.upto segTurnsSpec)

/-- 'downhaullaw13.SegBack', WHERE WHAT IT READS IS OF BULK AT MOST 1048576: true; the input reads as it did. -/
def segBackUptoRow : OpenClaim := { program := "ytniimgbljhmcoaadoor", sum := "c5f87e73b4d16ef100144320961c5314d164d6daa73ed489f26f3b217c68a288", func := "downhaul/downhaullaw13.SegBack", spec := "segBack", unfollowed := true, recurses := true, named := ["downhaul/opts.kinds"], apart := false, laid := [("downhaul/opts.kinds", laid_downhaul_opts_kinds)], narrowed := true }
def SegBackUptoSaid : Prop := segBackUptoRow.holds Tryd.pinned (OpenSpec.upto segBackSpec)

/-- 'downhaullaw13.SegAgain', WHERE WHAT IT READS IS OF BULK AT MOST 1048576: true; the input reads as it did. -/
def segAgainUptoRow : OpenClaim := { program := "ytniimgbljhmcoaadoor", sum := "c5f87e73b4d16ef100144320961c5314d164d6daa73ed489f26f3b217c68a288", func := "downhaul/downhaullaw13.SegAgain", spec := "segAgain", unfollowed := true, recurses := true, named := ["downhaul/opts.kinds"], apart := false, laid := [("downhaul/opts.kinds", laid_downhaul_opts_kinds)], narrowed := true }
def SegAgainUptoSaid : Prop := segAgainUptoRow.holds Tryd.pinned (OpenSpec.upto segAgainSpec)

/-- 'downhaullaw13.SegTrimmed', WHERE WHAT IT READS IS OF BULK AT MOST 1048576: true; the input reads as it did. -/
def segTrimmedUptoRow : OpenClaim := { program := "ytniimgbljhmcoaadoor", sum := "c5f87e73b4d16ef100144320961c5314d164d6daa73ed489f26f3b217c68a288", func := "downhaul/downhaullaw13.SegTrimmed", spec := "segTrimmed", unfollowed := true, recurses := true, named := ["downhaul/opts.kinds"], apart := false, laid := [("downhaul/opts.kinds", laid_downhaul_opts_kinds)], narrowed := true }
def SegTrimmedUptoSaid : Prop := segTrimmedUptoRow.holds Tryd.pinned (OpenSpec.upto segTrimmedSpec)

end Rows
end Go.Proofs.YtniimgbljhmcoaaDoor
