/-
  DERIVED. GIVEN WITH THE SEED: THE CARDS: each row of YtapcjgmijcpfiaaDoorRows.lean that lists a variable, with what it lists TIED to the program's text (the seventh form; the later family's looks); each row that meets fmt, with fmt's text TOLD by the authors' own Lean function (tested against real Go, not proved from fmt's source: count such statements apart). THE CARD IS WHAT COUNTS. Prove the row's statement (the work); the ties are given (YtapcjgmijcpfiaaDoorTie.lean); close each card by the builder's one call (the guide's Derived/Test/ToyasCard.lean, 'card_holds'). Laid BY PROGRAM, IN A SANDBOX (cutbox-door.mjs). By AI agents, Wed Nov 11 2026. No macro, syntax, notation, axiom, sorry.
-/
import Derived.Test.YtapcjgmijcpfiaaDoorRows
import GoSem.ClaimSeven
namespace Go.Proofs.YtapcjgmijcpfiaaDoor
namespace Rows

/-- THE TIED CARD OF 'downhaullaw12.OptsLays'. -/
def optsLaysCard : Claim7 := { stood := { row := optsLaysRow, standIns := [], harness := (true, "8c5f9e8b967f69447acadefd8b57d4571e229e063e049fb209e2c3388f7f36b9"), looks := true }, kinds := [], alts := [], laidByText := true, laidKinds := [.data], laidTests := true, laidLooks := .later }
def OptsLaysCardSaid : Prop := Claim7.holds Tryd.pinned (.plain (OpenSpec.ofChange optsLaysSpec)) optsLaysCard

/-- THE TIED CARD OF 'downhaullaw12.OptsTurns'. -/
def optsTurnsCard : Claim7 := { stood := { row := optsTurnsRow, standIns := [], harness := (true, "8c5f9e8b967f69447acadefd8b57d4571e229e063e049fb209e2c3388f7f36b9"), looks := true }, kinds := [], alts := [], laidByText := true, laidKinds := [.data], laidTests := true, laidLooks := .later }
def OptsTurnsCardSaid : Prop := Claim7.holds Tryd.pinned (.plain (OpenSpec.ofChange optsTurnsSpec)) optsTurnsCard

/-- THE TIED CARD OF 'downhaullaw12.OptsBack'. -/
def optsBackCard : Claim7 := { stood := { row := optsBackRow, standIns := [], harness := (true, "8c5f9e8b967f69447acadefd8b57d4571e229e063e049fb209e2c3388f7f36b9"), looks := true }, kinds := [], alts := [], laidByText := true, laidKinds := [.data], laidTests := true, laidLooks := .later }
def OptsBackCardSaid : Prop := Claim7.holds Tryd.pinned (.plain (OpenSpec.ofChange optsBackSpec)) optsBackCard

/-- THE TIED CARD OF 'downhaullaw12.OptsAgain'. -/
def optsAgainCard : Claim7 := { stood := { row := optsAgainRow, standIns := [], harness := (true, "8c5f9e8b967f69447acadefd8b57d4571e229e063e049fb209e2c3388f7f36b9"), looks := true }, kinds := [], alts := [], laidByText := true, laidKinds := [.data], laidTests := true, laidLooks := .later }
def OptsAgainCardSaid : Prop := Claim7.holds Tryd.pinned (.plain (OpenSpec.ofChange optsAgainSpec)) optsAgainCard

/-- THE TIED CARD OF 'downhaullaw12.OptsFits'. -/
def optsFitsCard : Claim7 := { stood := { row := optsFitsRow, standIns := [], harness := (true, "8c5f9e8b967f69447acadefd8b57d4571e229e063e049fb209e2c3388f7f36b9"), looks := true }, kinds := [], alts := [], laidByText := true, laidKinds := [.data], laidTests := true, laidLooks := .later }
def OptsFitsCardSaid : Prop := Claim7.holds Tryd.pinned (.plain (OpenSpec.ofChange optsFitsSpec)) optsFitsCard

/-- THE SECOND FORM's CARD OF 'downhaullaw12.OptsLays'. -/
def optsLaysUptoCard : Claim7 := { stood := { row := optsLaysUptoRow, standIns := [], harness := (true, "8c5f9e8b967f69447acadefd8b57d4571e229e063e049fb209e2c3388f7f36b9"), looks := true }, kinds := [], alts := [], laidByText := true, laidKinds := [.data], laidTests := true, laidLooks := .later }
def OptsLaysUptoCardSaid : Prop := Claim7.holds Tryd.pinned (.plain (OpenSpec.upto optsLaysSpec)) optsLaysUptoCard

/-- THE SECOND FORM's CARD OF 'downhaullaw12.OptsTurns'. -/
def optsTurnsUptoCard : Claim7 := { stood := { row := optsTurnsUptoRow, standIns := [], harness := (true, "8c5f9e8b967f69447acadefd8b57d4571e229e063e049fb209e2c3388f7f36b9"), looks := true }, kinds := [], alts := [], laidByText := true, laidKinds := [.data], laidTests := true, laidLooks := .later }
def OptsTurnsUptoCardSaid : Prop := Claim7.holds Tryd.pinned (.plain (OpenSpec.upto optsTurnsSpec)) optsTurnsUptoCard

/-- THE SECOND FORM's CARD OF 'downhaullaw12.OptsBack'. -/
def optsBackUptoCard : Claim7 := { stood := { row := optsBackUptoRow, standIns := [], harness := (true, "8c5f9e8b967f69447acadefd8b57d4571e229e063e049fb209e2c3388f7f36b9"), looks := true }, kinds := [], alts := [], laidByText := true, laidKinds := [.data], laidTests := true, laidLooks := .later }
def OptsBackUptoCardSaid : Prop := Claim7.holds Tryd.pinned (.plain (OpenSpec.upto optsBackSpec)) optsBackUptoCard

/-- THE SECOND FORM's CARD OF 'downhaullaw12.OptsAgain'. -/
def optsAgainUptoCard : Claim7 := { stood := { row := optsAgainUptoRow, standIns := [], harness := (true, "8c5f9e8b967f69447acadefd8b57d4571e229e063e049fb209e2c3388f7f36b9"), looks := true }, kinds := [], alts := [], laidByText := true, laidKinds := [.data], laidTests := true, laidLooks := .later }
def OptsAgainUptoCardSaid : Prop := Claim7.holds Tryd.pinned (.plain (OpenSpec.upto optsAgainSpec)) optsAgainUptoCard

/-- THE SECOND FORM's CARD OF 'downhaullaw12.OptsFits'. -/
def optsFitsUptoCard : Claim7 := { stood := { row := optsFitsUptoRow, standIns := [], harness := (true, "8c5f9e8b967f69447acadefd8b57d4571e229e063e049fb209e2c3388f7f36b9"), looks := true }, kinds := [], alts := [], laidByText := true, laidKinds := [.data], laidTests := true, laidLooks := .later }
def OptsFitsUptoCardSaid : Prop := Claim7.holds Tryd.pinned (.plain (OpenSpec.upto optsFitsSpec)) optsFitsUptoCard
end Rows
end Go.Proofs.YtapcjgmijcpfiaaDoor
