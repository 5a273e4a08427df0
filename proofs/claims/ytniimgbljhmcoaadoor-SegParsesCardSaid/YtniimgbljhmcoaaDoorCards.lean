/-
  DERIVED. GIVEN WITH THE SEED: THE CARDS: each row of YtniimgbljhmcoaaDoorRows.lean that lists a variable, with what it lists TIED to the program's text (the seventh form; the later family's looks); each row that meets fmt, with fmt's text TOLD by the authors' own Lean function (tested against real Go, not proved from fmt's source: count such statements apart). THE CARD IS WHAT COUNTS. Prove the row's statement (the work); the ties are given (YtniimgbljhmcoaaDoorTie.lean); close each card by the builder's one call (the guide's Derived/Test/ToyasCard.lean, 'card_holds'). Laid BY PROGRAM, IN A SANDBOX (cutbox-door.mjs). By AI agents, Wed Nov 11 2026. No macro, syntax, notation, axiom, sorry.
-/
import Derived.Test.YtniimgbljhmcoaaDoorRows
import GoSem.ClaimSeven
namespace Go.Proofs.YtniimgbljhmcoaaDoor
namespace Rows

/-- THE TIED CARD OF 'downhaullaw13.SegLays'. -/
def segLaysCard : Claim7 := { stood := { row := segLaysRow, standIns := [], harness := (true, "78e7da78d9e9b4da05027f2562c982e2c45c841d74f2e6f1d7620eb6c5a9387d"), looks := true }, kinds := [], alts := [], laidByText := true, laidKinds := [.data], laidTests := true, laidLooks := .later }
def SegLaysCardSaid : Prop := Claim7.holds Tryd.pinned (.plain (OpenSpec.ofChange segLaysSpec)) segLaysCard

/-- THE TIED CARD OF 'downhaullaw13.SegParses'. -/
def segParsesCard : Claim7 := { stood := { row := segParsesRow, standIns := [], harness := (true, "78e7da78d9e9b4da05027f2562c982e2c45c841d74f2e6f1d7620eb6c5a9387d"), looks := true }, kinds := [], alts := [], laidByText := true, laidKinds := [.data], laidTests := true, laidLooks := .later }
def SegParsesCardSaid : Prop := Claim7.holds Tryd.pinned (.plain (OpenSpec.ofChange segParsesSpec)) segParsesCard

/-- THE TIED CARD OF 'downhaullaw13.SegTurns'. -/
def segTurnsCard : Claim7 := { stood := { row := segTurnsRow, standIns := [], harness := (true, "78e7da78d9e9b4da05027f2562c982e2c45c841d74f2e6f1d7620eb6c5a9387d"), looks := true }, kinds := [], alts := [], laidByText := true, laidKinds := [.data], laidTests := true, laidLooks := .later }
def SegTurnsCardSaid : Prop := Claim7.holds Tryd.pinned (.plain (OpenSpec.ofChange segTurnsSpec)) segTurnsCard

/-- THE TIED CARD OF 'downhaullaw13.SegBack'. -/
def segBackCard : Claim7 := { stood := { row := segBackRow, standIns := [], harness := (true, "78e7da78d9e9b4da05027f2562c982e2c45c841d74f2e6f1d7620eb6c5a9387d"), looks := true }, kinds := [], alts := [], laidByText := true, laidKinds := [.data], laidTests := true, laidLooks := .later }
def SegBackCardSaid : Prop := Claim7.holds Tryd.pinned (.plain (OpenSpec.ofChange segBackSpec)) segBackCard

/-- THE TIED CARD OF 'downhaullaw13.SegAgain'. -/
def segAgainCard : Claim7 := { stood := { row := segAgainRow, standIns := [], harness := (true, "78e7da78d9e9b4da05027f2562c982e2c45c841d74f2e6f1d7620eb6c5a9387d"), looks := true }, kinds := [], alts := [], laidByText := true, laidKinds := [.data], laidTests := true, laidLooks := .later }
def SegAgainCardSaid : Prop := Claim7.holds Tryd.pinned (.plain (OpenSpec.ofChange segAgainSpec)) segAgainCard

/-- THE TIED CARD OF 'downhaullaw13.SegTrimmed'. -/
def segTrimmedCard : Claim7 := { stood := { row := segTrimmedRow, standIns := [], harness := (true, "78e7da78d9e9b4da05027f2562c982e2c45c841d74f2e6f1d7620eb6c5a9387d"), looks := true }, kinds := [], alts := [], laidByText := true, laidKinds := [.data], laidTests := true, laidLooks := .later }
def SegTrimmedCardSaid : Prop := Claim7.holds Tryd.pinned (.plain (OpenSpec.ofChange segTrimmedSpec)) segTrimmedCard

/-- THE SECOND FORM's CARD OF 'downhaullaw13.SegLays'. -/
def segLaysUptoCard : Claim7 := { stood := { row := segLaysUptoRow, standIns := [], harness := (true, "78e7da78d9e9b4da05027f2562c982e2c45c841d74f2e6f1d7620eb6c5a9387d"), looks := true }, kinds := [], alts := [], laidByText := true, laidKinds := [.data], laidTests := true, laidLooks := .later }
def SegLaysUptoCardSaid : Prop := Claim7.holds Tryd.pinned (.plain (OpenSpec.upto segLaysSpec)) segLaysUptoCard

/-- THE SECOND FORM's CARD OF 'downhaullaw13.SegParses'. -/
def segParsesUptoCard : Claim7 := { stood := { row := segParsesUptoRow, standIns := [], harness := (true, "78e7da78d9e9b4da05027f2562c982e2c45c841d74f2e6f1d7620eb6c5a9387d"), looks := true }, kinds := [], alts := [], laidByText := true, laidKinds := [.data], laidTests := true, laidLooks := .later }
def SegParsesUptoCardSaid : Prop := Claim7.holds Tryd.pinned (.plain (OpenSpec.upto segParsesSpec)) segParsesUptoCard

/-- THE SECOND FORM's CARD OF 'downhaullaw13.SegTurns'. -/
def segTurnsUptoCard : Claim7 := { stood := { row := segTurnsUptoRow, standIns := [], harness := (true, "78e7da78d9e9b4da05027f2562c982e2c45c841d74f2e6f1d7620eb6c5a9387d"), looks := true }, kinds := [], alts := [], laidByText := true, laidKinds := [.data], laidTests := true, laidLooks := .later }
def SegTurnsUptoCardSaid : Prop := Claim7.holds Tryd.pinned (.plain (OpenSpec.upto segTurnsSpec)) segTurnsUptoCard

/-- THE SECOND FORM's CARD OF 'downhaullaw13.SegBack'. -/
def segBackUptoCard : Claim7 := { stood := { row := segBackUptoRow, standIns := [], harness := (true, "78e7da78d9e9b4da05027f2562c982e2c45c841d74f2e6f1d7620eb6c5a9387d"), looks := true }, kinds := [], alts := [], laidByText := true, laidKinds := [.data], laidTests := true, laidLooks := .later }
def SegBackUptoCardSaid : Prop := Claim7.holds Tryd.pinned (.plain (OpenSpec.upto segBackSpec)) segBackUptoCard

/-- THE SECOND FORM's CARD OF 'downhaullaw13.SegAgain'. -/
def segAgainUptoCard : Claim7 := { stood := { row := segAgainUptoRow, standIns := [], harness := (true, "78e7da78d9e9b4da05027f2562c982e2c45c841d74f2e6f1d7620eb6c5a9387d"), looks := true }, kinds := [], alts := [], laidByText := true, laidKinds := [.data], laidTests := true, laidLooks := .later }
def SegAgainUptoCardSaid : Prop := Claim7.holds Tryd.pinned (.plain (OpenSpec.upto segAgainSpec)) segAgainUptoCard

/-- THE SECOND FORM's CARD OF 'downhaullaw13.SegTrimmed'. -/
def segTrimmedUptoCard : Claim7 := { stood := { row := segTrimmedUptoRow, standIns := [], harness := (true, "78e7da78d9e9b4da05027f2562c982e2c45c841d74f2e6f1d7620eb6c5a9387d"), looks := true }, kinds := [], alts := [], laidByText := true, laidKinds := [.data], laidTests := true, laidLooks := .later }
def SegTrimmedUptoCardSaid : Prop := Claim7.holds Tryd.pinned (.plain (OpenSpec.upto segTrimmedSpec)) segTrimmedUptoCard
end Rows
end Go.Proofs.YtniimgbljhmcoaaDoor
