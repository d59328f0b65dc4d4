/-
  DERIVED. GIVEN WITH THE SEED: THE CARDS: each row of YtfbfdjcdjogefaaDoorRows.lean that lists a variable, with what it lists TIED to the program's text (the seventh form; the later family's looks); each row that meets fmt, with fmt's text TOLD by the authors' own Lean function (tested against real Go, not proved from fmt's source: count such statements apart). THE CARD IS WHAT COUNTS. Prove the row's statement (the work); the ties are given (YtfbfdjcdjogefaaDoorTie.lean); close each card by the builder's one call (the guide's Derived/Test/ToyasCard.lean, 'card_holds'). Laid BY PROGRAM, IN A SANDBOX (cutbox-door.mjs). By AI agents, Wed Nov 11 2026. No macro, syntax, notation, axiom, sorry.
-/
import Derived.Test.YtfbfdjcdjogefaaDoorRows
import GoSem.ClaimSeven
namespace Go.Proofs.YtfbfdjcdjogefaaDoor
namespace Rows

/-- THE TIED CARD OF 'waywardenlaw04.EntryBytes'. -/
def entryBytesCard : Claim7 := { stood := { row := entryBytesRow, standIns := [], harness := (true, "7dfb74a19b5c25c27f2c67bf0379ff2856f7968f95815f66f69f38a63da3673b"), looks := true }, kinds := [], alts := [], laidByText := true, laidKinds := [.data], laidTests := true, laidLooks := .later }
def EntryBytesCardSaid : Prop := Claim7.holds Tryd.pinned (.plain (OpenSpec.ofChange entryBytesSpec)) entryBytesCard

/-- THE TIED CARD OF 'waywardenlaw04.EntryWhy'. -/
def entryWhyCard : Claim7 := { stood := { row := entryWhyRow, standIns := [], harness := (true, "7dfb74a19b5c25c27f2c67bf0379ff2856f7968f95815f66f69f38a63da3673b"), looks := true }, kinds := [], alts := [], laidByText := true, laidKinds := [.data], laidTests := true, laidLooks := .later }
def EntryWhyCardSaid : Prop := Claim7.holds Tryd.pinned (.plain (OpenSpec.ofChange entryWhySpec)) entryWhyCard

/-- THE TIED CARD OF 'waywardenlaw04.EntryOf'. -/
def entryOfCard : Claim7 := { stood := { row := entryOfRow, standIns := [], harness := (true, "7dfb74a19b5c25c27f2c67bf0379ff2856f7968f95815f66f69f38a63da3673b"), looks := true }, kinds := [], alts := [], laidByText := true, laidKinds := [.data], laidTests := true, laidLooks := .later }
def EntryOfCardSaid : Prop := Claim7.holds Tryd.pinned (.plain (OpenSpec.ofChange entryOfSpec)) entryOfCard

/-- THE TIED CARD OF 'waywardenlaw04.EntryEach'. -/
def entryEachCard : Claim7 := { stood := { row := entryEachRow, standIns := [], harness := (true, "7dfb74a19b5c25c27f2c67bf0379ff2856f7968f95815f66f69f38a63da3673b"), looks := true }, kinds := [], alts := [], laidByText := true, laidKinds := [.data], laidTests := true, laidLooks := .later }
def EntryEachCardSaid : Prop := Claim7.holds Tryd.pinned (.plain (OpenSpec.ofChange entryEachSpec)) entryEachCard

/-- THE TIED CARD OF 'waywardenlaw04.EntryHolds'. -/
def entryHoldsCard : Claim7 := { stood := { row := entryHoldsRow, standIns := [], harness := (true, "7dfb74a19b5c25c27f2c67bf0379ff2856f7968f95815f66f69f38a63da3673b"), looks := true }, kinds := [], alts := [], laidByText := true, laidKinds := [.data], laidTests := true, laidLooks := .later }
def EntryHoldsCardSaid : Prop := Claim7.holds Tryd.pinned (.plain (OpenSpec.ofChange entryHoldsSpec)) entryHoldsCard

/-- THE SECOND FORM's CARD OF 'waywardenlaw04.EntryBytes'. -/
def entryBytesUptoCard : Claim7 := { stood := { row := entryBytesUptoRow, standIns := [], harness := (true, "7dfb74a19b5c25c27f2c67bf0379ff2856f7968f95815f66f69f38a63da3673b"), looks := true }, kinds := [], alts := [], laidByText := true, laidKinds := [.data], laidTests := true, laidLooks := .later }
def EntryBytesUptoCardSaid : Prop := Claim7.holds Tryd.pinned (.plain (OpenSpec.upto entryBytesSpec)) entryBytesUptoCard

/-- THE SECOND FORM's CARD OF 'waywardenlaw04.EntryWhy'. -/
def entryWhyUptoCard : Claim7 := { stood := { row := entryWhyUptoRow, standIns := [], harness := (true, "7dfb74a19b5c25c27f2c67bf0379ff2856f7968f95815f66f69f38a63da3673b"), looks := true }, kinds := [], alts := [], laidByText := true, laidKinds := [.data], laidTests := true, laidLooks := .later }
def EntryWhyUptoCardSaid : Prop := Claim7.holds Tryd.pinned (.plain (OpenSpec.upto entryWhySpec)) entryWhyUptoCard

/-- THE SECOND FORM's CARD OF 'waywardenlaw04.EntryOf'. -/
def entryOfUptoCard : Claim7 := { stood := { row := entryOfUptoRow, standIns := [], harness := (true, "7dfb74a19b5c25c27f2c67bf0379ff2856f7968f95815f66f69f38a63da3673b"), looks := true }, kinds := [], alts := [], laidByText := true, laidKinds := [.data], laidTests := true, laidLooks := .later }
def EntryOfUptoCardSaid : Prop := Claim7.holds Tryd.pinned (.plain (OpenSpec.upto entryOfSpec)) entryOfUptoCard

/-- THE SECOND FORM's CARD OF 'waywardenlaw04.EntryEach'. -/
def entryEachUptoCard : Claim7 := { stood := { row := entryEachUptoRow, standIns := [], harness := (true, "7dfb74a19b5c25c27f2c67bf0379ff2856f7968f95815f66f69f38a63da3673b"), looks := true }, kinds := [], alts := [], laidByText := true, laidKinds := [.data], laidTests := true, laidLooks := .later }
def EntryEachUptoCardSaid : Prop := Claim7.holds Tryd.pinned (.plain (OpenSpec.upto entryEachSpec)) entryEachUptoCard

/-- THE SECOND FORM's CARD OF 'waywardenlaw04.EntryHolds'. -/
def entryHoldsUptoCard : Claim7 := { stood := { row := entryHoldsUptoRow, standIns := [], harness := (true, "7dfb74a19b5c25c27f2c67bf0379ff2856f7968f95815f66f69f38a63da3673b"), looks := true }, kinds := [], alts := [], laidByText := true, laidKinds := [.data], laidTests := true, laidLooks := .later }
def EntryHoldsUptoCardSaid : Prop := Claim7.holds Tryd.pinned (.plain (OpenSpec.upto entryHoldsSpec)) entryHoldsUptoCard
end Rows
end Go.Proofs.YtfbfdjcdjogefaaDoor
