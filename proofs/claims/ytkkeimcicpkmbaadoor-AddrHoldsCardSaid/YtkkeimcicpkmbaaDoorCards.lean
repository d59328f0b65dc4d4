/-
  DERIVED. GIVEN WITH THE SEED: THE CARDS: each row of YtkkeimcicpkmbaaDoorRows.lean that lists a variable, with what it lists TIED to the program's text (the seventh form; the later family's looks); each row that meets fmt, with fmt's text TOLD by the authors' own Lean function (tested against real Go, not proved from fmt's source: count such statements apart). THE CARD IS WHAT COUNTS. Prove the row's statement (the work); the ties are given (YtkkeimcicpkmbaaDoorTie.lean); close each card by the builder's one call (the guide's Derived/Test/ToyasCard.lean, 'card_holds'). Laid BY PROGRAM, IN A SANDBOX (cutbox-door.mjs). By AI agents, Wed Nov 11 2026. No macro, syntax, notation, axiom, sorry.
-/
import Derived.Test.YtkkeimcicpkmbaaDoorRows
import GoSem.ClaimSeven
namespace Go.Proofs.YtkkeimcicpkmbaaDoor
namespace Rows

/-- THE TIED CARD OF 'waywardenlaw01.AddrParts'. -/
def addrPartsCard : Claim7 := { stood := { row := addrPartsRow, standIns := [], harness := (true, "edb7e3b3d95f124817fe3e8495fa2f0fb9c73dcd631f089056aa05d0556ae76e"), looks := true }, kinds := [], alts := [], laidByText := true, laidKinds := [.data, .data, .data], laidTests := true, laidLooks := .later }
def AddrPartsCardSaid : Prop := Claim7.holds Tryd.pinned (.plain (OpenSpec.ofChange addrPartsSpec)) addrPartsCard

/-- THE TIED CARD OF 'waywardenlaw01.AddrTexts'. -/
def addrTextsCard : Claim7 := { stood := { row := addrTextsRow, standIns := [], harness := (true, "edb7e3b3d95f124817fe3e8495fa2f0fb9c73dcd631f089056aa05d0556ae76e"), looks := true }, kinds := [], alts := [], laidByText := true, laidKinds := [.data, .data, .data], laidTests := true, laidLooks := .later }
def AddrTextsCardSaid : Prop := Claim7.holds Tryd.pinned (.plain (OpenSpec.ofChange addrTextsSpec)) addrTextsCard

/-- THE TIED CARD OF 'waywardenlaw01.AddrParses'. -/
def addrParsesCard : Claim7 := { stood := { row := addrParsesRow, standIns := [], harness := (true, "edb7e3b3d95f124817fe3e8495fa2f0fb9c73dcd631f089056aa05d0556ae76e"), looks := true }, kinds := [], alts := [], laidByText := true, laidKinds := [.data, .data, .data], laidTests := true, laidLooks := .later }
def AddrParsesCardSaid : Prop := Claim7.holds Tryd.pinned (.plain (OpenSpec.ofChange addrParsesSpec)) addrParsesCard

/-- THE TIED CARD OF 'waywardenlaw01.AddrEach'. -/
def addrEachCard : Claim7 := { stood := { row := addrEachRow, standIns := [], harness := (true, "edb7e3b3d95f124817fe3e8495fa2f0fb9c73dcd631f089056aa05d0556ae76e"), looks := true }, kinds := [], alts := [], laidByText := true, laidKinds := [.data, .data, .data], laidTests := true, laidLooks := .later }
def AddrEachCardSaid : Prop := Claim7.holds Tryd.pinned (.plain (OpenSpec.ofChange addrEachSpec)) addrEachCard

/-- THE TIED CARD OF 'waywardenlaw01.AddrHolds'. -/
def addrHoldsCard : Claim7 := { stood := { row := addrHoldsRow, standIns := [], harness := (true, "edb7e3b3d95f124817fe3e8495fa2f0fb9c73dcd631f089056aa05d0556ae76e"), looks := true }, kinds := [], alts := [], laidByText := true, laidKinds := [.data, .data, .data], laidTests := true, laidLooks := .later }
def AddrHoldsCardSaid : Prop := Claim7.holds Tryd.pinned (.plain (OpenSpec.ofChange addrHoldsSpec)) addrHoldsCard

/-- THE SECOND FORM's CARD OF 'waywardenlaw01.AddrParts'. -/
def addrPartsUptoCard : Claim7 := { stood := { row := addrPartsUptoRow, standIns := [], harness := (true, "edb7e3b3d95f124817fe3e8495fa2f0fb9c73dcd631f089056aa05d0556ae76e"), looks := true }, kinds := [], alts := [], laidByText := true, laidKinds := [.data, .data, .data], laidTests := true, laidLooks := .later }
def AddrPartsUptoCardSaid : Prop := Claim7.holds Tryd.pinned (.plain (OpenSpec.upto addrPartsSpec)) addrPartsUptoCard

/-- THE SECOND FORM's CARD OF 'waywardenlaw01.AddrTexts'. -/
def addrTextsUptoCard : Claim7 := { stood := { row := addrTextsUptoRow, standIns := [], harness := (true, "edb7e3b3d95f124817fe3e8495fa2f0fb9c73dcd631f089056aa05d0556ae76e"), looks := true }, kinds := [], alts := [], laidByText := true, laidKinds := [.data, .data, .data], laidTests := true, laidLooks := .later }
def AddrTextsUptoCardSaid : Prop := Claim7.holds Tryd.pinned (.plain (OpenSpec.upto addrTextsSpec)) addrTextsUptoCard

/-- THE SECOND FORM's CARD OF 'waywardenlaw01.AddrParses'. -/
def addrParsesUptoCard : Claim7 := { stood := { row := addrParsesUptoRow, standIns := [], harness := (true, "edb7e3b3d95f124817fe3e8495fa2f0fb9c73dcd631f089056aa05d0556ae76e"), looks := true }, kinds := [], alts := [], laidByText := true, laidKinds := [.data, .data, .data], laidTests := true, laidLooks := .later }
def AddrParsesUptoCardSaid : Prop := Claim7.holds Tryd.pinned (.plain (OpenSpec.upto addrParsesSpec)) addrParsesUptoCard

/-- THE SECOND FORM's CARD OF 'waywardenlaw01.AddrEach'. -/
def addrEachUptoCard : Claim7 := { stood := { row := addrEachUptoRow, standIns := [], harness := (true, "edb7e3b3d95f124817fe3e8495fa2f0fb9c73dcd631f089056aa05d0556ae76e"), looks := true }, kinds := [], alts := [], laidByText := true, laidKinds := [.data, .data, .data], laidTests := true, laidLooks := .later }
def AddrEachUptoCardSaid : Prop := Claim7.holds Tryd.pinned (.plain (OpenSpec.upto addrEachSpec)) addrEachUptoCard

/-- THE SECOND FORM's CARD OF 'waywardenlaw01.AddrHolds'. -/
def addrHoldsUptoCard : Claim7 := { stood := { row := addrHoldsUptoRow, standIns := [], harness := (true, "edb7e3b3d95f124817fe3e8495fa2f0fb9c73dcd631f089056aa05d0556ae76e"), looks := true }, kinds := [], alts := [], laidByText := true, laidKinds := [.data, .data, .data], laidTests := true, laidLooks := .later }
def AddrHoldsUptoCardSaid : Prop := Claim7.holds Tryd.pinned (.plain (OpenSpec.upto addrHoldsSpec)) addrHoldsUptoCard
end Rows
end Go.Proofs.YtkkeimcicpkmbaaDoor
