/-
  DERIVED. GIVEN WITH THE SEED: THE CARDS: each row of YtfoklomipdkomaaDoorRows.lean that lists a variable, with what it lists TIED to the program's text (the seventh form; the later family's looks); each row that meets fmt, with fmt's text TOLD by the authors' own Lean function (tested against real Go, not proved from fmt's source: count such statements apart). THE CARD IS WHAT COUNTS. Prove the row's statement (the work); the ties are given (YtfoklomipdkomaaDoorTie.lean); close each card by the builder's one call (the guide's Derived/Test/ToyasCard.lean, 'card_holds'). Laid BY PROGRAM, IN A SANDBOX (cutbox-door.mjs). By AI agents, Wed Nov 11 2026. No macro, syntax, notation, axiom, sorry.
-/
import Derived.Test.YtfoklomipdkomaaDoorRows
import GoSem.ClaimSeven
namespace Go.Proofs.YtfoklomipdkomaaDoor
namespace Rows

/-- THE TIED CARD OF 'basculelaw.KeccakAdds'. -/
def keccakAddsCard : Claim7 := { stood := { row := keccakAddsRow, standIns := [], harness := (true, "64b9c2414b1aaf5c99ad8adc40ae98af3ab4646820adf4397ab6f9b6fcbbb78d"), looks := false }, kinds := [], alts := [], laidByText := true, laidKinds := [.data, .data, .data], laidTests := true, laidLooks := .later }
def KeccakAddsCardSaid : Prop := Claim7.holds Tryd.pinned (.plain (OpenSpec.ofChange keccakAddsSpec)) keccakAddsCard

/-- THE TIED CARD OF 'basculelaw.KeccakSums'. -/
def keccakSumsCard : Claim7 := { stood := { row := keccakSumsRow, standIns := [], harness := (true, "64b9c2414b1aaf5c99ad8adc40ae98af3ab4646820adf4397ab6f9b6fcbbb78d"), looks := false }, kinds := [], alts := [], laidByText := true, laidKinds := [.data, .data, .data], laidTests := true, laidLooks := .later }
def KeccakSumsCardSaid : Prop := Claim7.holds Tryd.pinned (.plain (OpenSpec.ofChange keccakSumsSpec)) keccakSumsCard

/-- THE SECOND FORM's CARD OF 'basculelaw.KeccakAdds'. -/
def keccakAddsUptoCard : Claim7 := { stood := { row := keccakAddsUptoRow, standIns := [], harness := (true, "64b9c2414b1aaf5c99ad8adc40ae98af3ab4646820adf4397ab6f9b6fcbbb78d"), looks := false }, kinds := [], alts := [], laidByText := true, laidKinds := [.data, .data, .data], laidTests := true, laidLooks := .later }
def KeccakAddsUptoCardSaid : Prop := Claim7.holds Tryd.pinned (.plain (OpenSpec.upto keccakAddsSpec)) keccakAddsUptoCard

/-- THE SECOND FORM's CARD OF 'basculelaw.KeccakSums'. -/
def keccakSumsUptoCard : Claim7 := { stood := { row := keccakSumsUptoRow, standIns := [], harness := (true, "64b9c2414b1aaf5c99ad8adc40ae98af3ab4646820adf4397ab6f9b6fcbbb78d"), looks := false }, kinds := [], alts := [], laidByText := true, laidKinds := [.data, .data, .data], laidTests := true, laidLooks := .later }
def KeccakSumsUptoCardSaid : Prop := Claim7.holds Tryd.pinned (.plain (OpenSpec.upto keccakSumsSpec)) keccakSumsUptoCard
end Rows
end Go.Proofs.YtfoklomipdkomaaDoor
