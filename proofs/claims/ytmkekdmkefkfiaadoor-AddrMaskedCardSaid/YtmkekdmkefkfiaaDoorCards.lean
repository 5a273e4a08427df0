/-
  DERIVED. GIVEN WITH THE SEED: THE CARDS: each row of YtmkekdmkefkfiaaDoorRows.lean that lists a variable, with what it lists TIED to the program's text (the seventh form; the later family's looks); each row that meets fmt, with fmt's text TOLD by the authors' own Lean function (tested against real Go, not proved from fmt's source: count such statements apart). THE CARD IS WHAT COUNTS. Prove the row's statement (the work); the ties are given (YtmkekdmkefkfiaaDoorTie.lean); close each card by the builder's one call (the guide's Derived/Test/ToyasCard.lean, 'card_holds'). Laid BY PROGRAM, IN A SANDBOX (cutbox-door.mjs). By AI agents, Wed Nov 11 2026. No macro, syntax, notation, axiom, sorry.
-/
import Derived.Test.YtmkekdmkefkfiaaDoorRows
import GoSem.ClaimSeven
namespace Go.Proofs.YtmkekdmkefkfiaaDoor
namespace Rows

/-- THE TIED CARD OF 'downhaullaw09.AddrMakes'. -/
def addrMakesCard : Claim7 := { stood := { row := addrMakesRow, standIns := [], harness := (true, "203fe51f79f152d9908d67e979c3d47f7ae55880d590edd1a2e098d4a7406458"), looks := true }, kinds := [], alts := [], laidByText := true, laidKinds := [.data, .data, .data, .data, .sentinel, .sentinel, .pinned], laidTests := true, laidLooks := .later }
def AddrMakesCardSaid : Prop := Claim7.holds Tryd.pinned (.plain (OpenSpec.ofChange addrMakesSpec)) addrMakesCard

/-- THE TIED CARD OF 'downhaullaw09.AddrTexts'. -/
def addrTextsCard : Claim7 := { stood := { row := addrTextsRow, standIns := [], harness := (true, "203fe51f79f152d9908d67e979c3d47f7ae55880d590edd1a2e098d4a7406458"), looks := true }, kinds := [], alts := [], laidByText := true, laidKinds := [.data, .data, .data, .data, .sentinel, .sentinel, .pinned], laidTests := true, laidLooks := .later }
def AddrTextsCardSaid : Prop := Claim7.holds Tryd.pinned (.plain (OpenSpec.ofChange addrTextsSpec)) addrTextsCard

/-- THE TIED CARD OF 'downhaullaw09.AddrBack'. -/
def addrBackCard : Claim7 := { stood := { row := addrBackRow, standIns := [], harness := (true, "203fe51f79f152d9908d67e979c3d47f7ae55880d590edd1a2e098d4a7406458"), looks := true }, kinds := [], alts := [], laidByText := true, laidKinds := [.data, .data, .data, .data, .sentinel, .sentinel, .pinned], laidTests := true, laidLooks := .later }
def AddrBackCardSaid : Prop := Claim7.holds Tryd.pinned (.plain (OpenSpec.ofChange addrBackSpec)) addrBackCard

/-- THE TIED CARD OF 'downhaullaw09.AddrMasked'. -/
def addrMaskedCard : Claim7 := { stood := { row := addrMaskedRow, standIns := [], harness := (true, "203fe51f79f152d9908d67e979c3d47f7ae55880d590edd1a2e098d4a7406458"), looks := true }, kinds := [], alts := [], laidByText := true, laidKinds := [.data, .data, .data, .data, .sentinel, .sentinel, .pinned], laidTests := true, laidLooks := .later }
def AddrMaskedCardSaid : Prop := Claim7.holds Tryd.pinned (.plain (OpenSpec.ofChange addrMaskedSpec)) addrMaskedCard

/-- THE SECOND FORM's CARD OF 'downhaullaw09.AddrMakes'. -/
def addrMakesUptoCard : Claim7 := { stood := { row := addrMakesUptoRow, standIns := [], harness := (true, "203fe51f79f152d9908d67e979c3d47f7ae55880d590edd1a2e098d4a7406458"), looks := true }, kinds := [], alts := [], laidByText := true, laidKinds := [.data, .data, .data, .data, .sentinel, .sentinel, .pinned], laidTests := true, laidLooks := .later }
def AddrMakesUptoCardSaid : Prop := Claim7.holds Tryd.pinned (.plain (OpenSpec.upto addrMakesSpec)) addrMakesUptoCard

/-- THE SECOND FORM's CARD OF 'downhaullaw09.AddrTexts'. -/
def addrTextsUptoCard : Claim7 := { stood := { row := addrTextsUptoRow, standIns := [], harness := (true, "203fe51f79f152d9908d67e979c3d47f7ae55880d590edd1a2e098d4a7406458"), looks := true }, kinds := [], alts := [], laidByText := true, laidKinds := [.data, .data, .data, .data, .sentinel, .sentinel, .pinned], laidTests := true, laidLooks := .later }
def AddrTextsUptoCardSaid : Prop := Claim7.holds Tryd.pinned (.plain (OpenSpec.upto addrTextsSpec)) addrTextsUptoCard

/-- THE SECOND FORM's CARD OF 'downhaullaw09.AddrBack'. -/
def addrBackUptoCard : Claim7 := { stood := { row := addrBackUptoRow, standIns := [], harness := (true, "203fe51f79f152d9908d67e979c3d47f7ae55880d590edd1a2e098d4a7406458"), looks := true }, kinds := [], alts := [], laidByText := true, laidKinds := [.data, .data, .data, .data, .sentinel, .sentinel, .pinned], laidTests := true, laidLooks := .later }
def AddrBackUptoCardSaid : Prop := Claim7.holds Tryd.pinned (.plain (OpenSpec.upto addrBackSpec)) addrBackUptoCard

/-- THE SECOND FORM's CARD OF 'downhaullaw09.AddrMasked'. -/
def addrMaskedUptoCard : Claim7 := { stood := { row := addrMaskedUptoRow, standIns := [], harness := (true, "203fe51f79f152d9908d67e979c3d47f7ae55880d590edd1a2e098d4a7406458"), looks := true }, kinds := [], alts := [], laidByText := true, laidKinds := [.data, .data, .data, .data, .sentinel, .sentinel, .pinned], laidTests := true, laidLooks := .later }
def AddrMaskedUptoCardSaid : Prop := Claim7.holds Tryd.pinned (.plain (OpenSpec.upto addrMaskedSpec)) addrMaskedUptoCard
end Rows
end Go.Proofs.YtmkekdmkefkfiaaDoor
