/-
  DERIVED. GIVEN WITH THE SEED: THE CARDS: each row of YtohnkglcabfpjaaGreatDoorRows.lean that lists a variable, with what it lists TIED to the program's text (the seventh form; the later family's looks); each row that meets fmt, with fmt's text TOLD by the authors' own Lean function (tested against real Go, not proved from fmt's source: count such statements apart). THE CARD IS WHAT COUNTS. Prove the row's statement (the work); the ties are given (YtohnkglcabfpjaaGreatDoorTie.lean); close each card by the builder's one call (the guide's Derived/Test/ToyasCard.lean, 'card_holds'). Laid BY PROGRAM, IN A SANDBOX (cutbox-door.mjs). By AI agents, Wed Nov 11 2026. No macro, syntax, notation, axiom, sorry.
-/
import Derived.Test.YtohnkglcabfpjaaGreatDoorRows
import GoSem.ClaimSeven
namespace Go.Proofs.YtohnkglcabfpjaaGreatDoor
namespace Rows

/-- THE TIED CARD OF 'basculekeep.SignRight'. -/
def signRightCard : Claim7 := { stood := { row := signRightRow, standIns := [], harness := (true, "d48fbe62fcc58f16ab9ea1172fc99f55f502e68178ddd68d62fdfddd0e8fcb9e"), looks := false }, kinds := [], alts := [], laidByText := true, laidKinds := [.data, .data, .data], laidTests := true, laidLooks := .later }
def SignRightCardSaid : Prop := Claim7.holds Tryz.pinned (.plain (OpenSpec.ofChange signRightSpec)) signRightCard

/-- THE TIED CARD OF 'basculekeep.SignOne'. -/
def signOneCard : Claim7 := { stood := { row := signOneRow, standIns := [], harness := (true, "d48fbe62fcc58f16ab9ea1172fc99f55f502e68178ddd68d62fdfddd0e8fcb9e"), looks := false }, kinds := [], alts := [], laidByText := true, laidKinds := [.data, .data, .data], laidTests := true, laidLooks := .later }
def SignOneCardSaid : Prop := Claim7.holds Tryz.pinned (.plain (OpenSpec.ofChange signOneSpec)) signOneCard

/-- THE TIED CARD OF 'basculekeep.SignOther'. -/
def signOtherCard : Claim7 := { stood := { row := signOtherRow, standIns := [], harness := (true, "d48fbe62fcc58f16ab9ea1172fc99f55f502e68178ddd68d62fdfddd0e8fcb9e"), looks := false }, kinds := [], alts := [], laidByText := true, laidKinds := [.data, .data, .data], laidTests := true, laidLooks := .later }
def SignOtherCardSaid : Prop := Claim7.holds Tryz.pinned (.plain (OpenSpec.ofChange signOtherSpec)) signOtherCard

/-- THE TIED CARD OF 'basculekeep.QuorumRight'. -/
def quorumRightCard : Claim7 := { stood := { row := quorumRightRow, standIns := [], harness := (true, "d48fbe62fcc58f16ab9ea1172fc99f55f502e68178ddd68d62fdfddd0e8fcb9e"), looks := false }, kinds := [], alts := [], laidByText := true, laidKinds := [.data, .data, .data], laidTests := true, laidLooks := .later }
def QuorumRightCardSaid : Prop := Claim7.holds Tryz.pinned (.plain (OpenSpec.ofChange quorumRightSpec)) quorumRightCard

/-- THE SECOND FORM's CARD OF 'basculekeep.SignRight'. -/
def signRightUptoCard : Claim7 := { stood := { row := signRightUptoRow, standIns := [], harness := (true, "d48fbe62fcc58f16ab9ea1172fc99f55f502e68178ddd68d62fdfddd0e8fcb9e"), looks := false }, kinds := [], alts := [], laidByText := true, laidKinds := [.data, .data, .data], laidTests := true, laidLooks := .later }
def SignRightUptoCardSaid : Prop := Claim7.holds Tryz.pinned (.plain (OpenSpec.upto signRightSpec)) signRightUptoCard

/-- THE SECOND FORM's CARD OF 'basculekeep.SignOne'. -/
def signOneUptoCard : Claim7 := { stood := { row := signOneUptoRow, standIns := [], harness := (true, "d48fbe62fcc58f16ab9ea1172fc99f55f502e68178ddd68d62fdfddd0e8fcb9e"), looks := false }, kinds := [], alts := [], laidByText := true, laidKinds := [.data, .data, .data], laidTests := true, laidLooks := .later }
def SignOneUptoCardSaid : Prop := Claim7.holds Tryz.pinned (.plain (OpenSpec.upto signOneSpec)) signOneUptoCard

/-- THE SECOND FORM's CARD OF 'basculekeep.SignOther'. -/
def signOtherUptoCard : Claim7 := { stood := { row := signOtherUptoRow, standIns := [], harness := (true, "d48fbe62fcc58f16ab9ea1172fc99f55f502e68178ddd68d62fdfddd0e8fcb9e"), looks := false }, kinds := [], alts := [], laidByText := true, laidKinds := [.data, .data, .data], laidTests := true, laidLooks := .later }
def SignOtherUptoCardSaid : Prop := Claim7.holds Tryz.pinned (.plain (OpenSpec.upto signOtherSpec)) signOtherUptoCard

/-- THE SECOND FORM's CARD OF 'basculekeep.QuorumRight'. -/
def quorumRightUptoCard : Claim7 := { stood := { row := quorumRightUptoRow, standIns := [], harness := (true, "d48fbe62fcc58f16ab9ea1172fc99f55f502e68178ddd68d62fdfddd0e8fcb9e"), looks := false }, kinds := [], alts := [], laidByText := true, laidKinds := [.data, .data, .data], laidTests := true, laidLooks := .later }
def QuorumRightUptoCardSaid : Prop := Claim7.holds Tryz.pinned (.plain (OpenSpec.upto quorumRightSpec)) quorumRightUptoCard
end Rows
end Go.Proofs.YtohnkglcabfpjaaGreatDoor
