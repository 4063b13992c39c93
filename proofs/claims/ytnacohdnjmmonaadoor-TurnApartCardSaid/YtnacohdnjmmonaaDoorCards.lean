/-
  DERIVED. GIVEN WITH THE SEED: THE CARDS: each row of YtnacohdnjmmonaaDoorRows.lean that lists a variable, with what it lists TIED to the program's text (the seventh form; the later family's looks); each row that meets fmt, with fmt's text TOLD by the authors' own Lean function (tested against real Go, not proved from fmt's source: count such statements apart). THE CARD IS WHAT COUNTS. Prove the row's statement (the work); the ties are given (YtnacohdnjmmonaaDoorTie.lean); close each card by the builder's one call (the guide's Derived/Test/ToyasCard.lean, 'card_holds'). Laid BY PROGRAM, IN A SANDBOX (cutbox-door.mjs). By AI agents, Wed Nov 11 2026. No macro, syntax, notation, axiom, sorry.
-/
import Derived.Test.YtnacohdnjmmonaaDoorRows
import GoSem.ClaimSeven
namespace Go.Proofs.YtnacohdnjmmonaaDoor
namespace Rows

/-- THE TIED CARD OF 'basculekeep.KeccakParts'. -/
def keccakPartsCard : Claim7 := { stood := { row := keccakPartsRow, standIns := [], harness := (true, "c84c04b79771f79868de0b36c3fd74dc58a641bff1af07cf1a07fa46c0c5b375"), looks := false }, kinds := [], alts := [], laidByText := true, laidKinds := [.data, .data, .data], laidTests := true, laidLooks := .later }
def KeccakPartsCardSaid : Prop := Claim7.holds Tryd.pinned (.plain (OpenSpec.ofChange keccakPartsSpec)) keccakPartsCard

/-- THE TIED CARD OF 'basculekeep.KeccakKnown'. -/
def keccakKnownCard : Claim7 := { stood := { row := keccakKnownRow, standIns := [], harness := (true, "c84c04b79771f79868de0b36c3fd74dc58a641bff1af07cf1a07fa46c0c5b375"), looks := false }, kinds := [], alts := [], laidByText := true, laidKinds := [.data, .data, .data], laidTests := true, laidLooks := .later }
def KeccakKnownCardSaid : Prop := Claim7.holds Tryd.pinned (.plain (OpenSpec.ofChange keccakKnownSpec)) keccakKnownCard

/-- THE TIED CARD OF 'basculekeep.TurnApart'. -/
def turnApartCard : Claim7 := { stood := { row := turnApartRow, standIns := [], harness := (true, "c84c04b79771f79868de0b36c3fd74dc58a641bff1af07cf1a07fa46c0c5b375"), looks := false }, kinds := [], alts := [], laidByText := true, laidKinds := [.data, .data, .data], laidTests := true, laidLooks := .later }
def TurnApartCardSaid : Prop := Claim7.holds Tryd.pinned (.plain (OpenSpec.ofChange turnApartSpec)) turnApartCard

/-- THE SECOND FORM's CARD OF 'basculekeep.KeccakParts'. -/
def keccakPartsUptoCard : Claim7 := { stood := { row := keccakPartsUptoRow, standIns := [], harness := (true, "c84c04b79771f79868de0b36c3fd74dc58a641bff1af07cf1a07fa46c0c5b375"), looks := false }, kinds := [], alts := [], laidByText := true, laidKinds := [.data, .data, .data], laidTests := true, laidLooks := .later }
def KeccakPartsUptoCardSaid : Prop := Claim7.holds Tryd.pinned (.plain (OpenSpec.upto keccakPartsSpec)) keccakPartsUptoCard

/-- THE SECOND FORM's CARD OF 'basculekeep.KeccakKnown'. -/
def keccakKnownUptoCard : Claim7 := { stood := { row := keccakKnownUptoRow, standIns := [], harness := (true, "c84c04b79771f79868de0b36c3fd74dc58a641bff1af07cf1a07fa46c0c5b375"), looks := false }, kinds := [], alts := [], laidByText := true, laidKinds := [.data, .data, .data], laidTests := true, laidLooks := .later }
def KeccakKnownUptoCardSaid : Prop := Claim7.holds Tryd.pinned (.plain (OpenSpec.upto keccakKnownSpec)) keccakKnownUptoCard

/-- THE SECOND FORM's CARD OF 'basculekeep.TurnApart'. -/
def turnApartUptoCard : Claim7 := { stood := { row := turnApartUptoRow, standIns := [], harness := (true, "c84c04b79771f79868de0b36c3fd74dc58a641bff1af07cf1a07fa46c0c5b375"), looks := false }, kinds := [], alts := [], laidByText := true, laidKinds := [.data, .data, .data], laidTests := true, laidLooks := .later }
def TurnApartUptoCardSaid : Prop := Claim7.holds Tryd.pinned (.plain (OpenSpec.upto turnApartSpec)) turnApartUptoCard
end Rows
end Go.Proofs.YtnacohdnjmmonaaDoor
