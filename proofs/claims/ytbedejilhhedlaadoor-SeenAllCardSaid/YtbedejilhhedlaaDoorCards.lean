/-
  DERIVED. GIVEN WITH THE SEED: THE CARDS: each row of YtbedejilhhedlaaDoorRows.lean that lists a variable, with what it lists TIED to the program's text (the seventh form; the later family's looks); each row that meets fmt, with fmt's text TOLD by the authors' own Lean function (tested against real Go, not proved from fmt's source: count such statements apart). THE CARD IS WHAT COUNTS. Prove the row's statement (the work); the ties are given (YtbedejilhhedlaaDoorTie.lean); close each card by the builder's one call (the guide's Derived/Test/ToyasCard.lean, 'card_holds'). Laid BY PROGRAM, IN A SANDBOX (cutbox-door.mjs). By AI agents, Wed Nov 11 2026. No macro, syntax, notation, axiom, sorry.
-/
import Derived.Test.YtbedejilhhedlaaDoorRows
import GoSem.ClaimSeven
namespace Go.Proofs.YtbedejilhhedlaaDoor
namespace Rows

/-- THE TIED CARD OF 'basculelaw.SeenAll'. -/
def seenAllCard : Claim7 := { stood := { row := seenAllRow, standIns := [], harness := (true, "d98c6ac4992403e291d51892b82e125b84acb41c67b68062c6c292988dd91b1a"), looks := false }, kinds := [], alts := [], laidByText := true, laidKinds := [.data], laidTests := true, laidLooks := .later }
def SeenAllCardSaid : Prop := Claim7.holds Tryd.pinned (.plain (OpenSpec.ofChange seenAllSpec)) seenAllCard

/-- THE SECOND FORM's CARD OF 'basculelaw.SeenAll'. -/
def seenAllUptoCard : Claim7 := { stood := { row := seenAllUptoRow, standIns := [], harness := (true, "d98c6ac4992403e291d51892b82e125b84acb41c67b68062c6c292988dd91b1a"), looks := false }, kinds := [], alts := [], laidByText := true, laidKinds := [.data], laidTests := true, laidLooks := .later }
def SeenAllUptoCardSaid : Prop := Claim7.holds Tryd.pinned (.plain (OpenSpec.upto seenAllSpec)) seenAllUptoCard
end Rows
end Go.Proofs.YtbedejilhhedlaaDoor
