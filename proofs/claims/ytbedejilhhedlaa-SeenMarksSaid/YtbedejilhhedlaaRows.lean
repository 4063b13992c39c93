/-
  No cell of these rows narrows 'for every input' (looked for: loops, veiled, ifaces, maps, wideKeys, modest, calm, conditions, laid).
  DERIVED. THE GIVEN ROWS OF THIS SEAT. 2 by the template 'for every input the law returns true; each argument reads behind the call as it read before'; 0 by the template 'total and deterministic' (their statements: YtbedejilhhedlaaTotals.lean).
  GIVEN WITH THE SEED: the statements are not yours to turn. If you find one false, say at which input.
  Laid BY PROGRAM, IN A SANDBOX (cutbox-rows.mjs): the forced cells as the released guide's own fill.sh prints them over the translation e087fb145defc100… (all of the seat's roots in one cut). By AI agents, Wed Nov 11 2026. No macro, syntax, notation, axiom, sorry.
-/
import Derived.Test.YtbedejilhhedlaaChecked
import GoSem.Claim
import GoSem.ClaimJoined
import GoSem.ClaimMapViews
import Derived.JoinedTies
import Derived.KernelRfl
namespace Go.Proofs.Ytbedejilhhedlaa
/- THE CELL 'sum', in the pinned program and in every row, IS THE sha256 OF THE DUMP (.gsa) THAT YtbedejilhhedlaaProg.lean LOADS. Nothing in Lean hashes anything: it is a label: what it is worth is what the hold of that sum in a sandbox is worth. -/
noncomputable def Try.pinned : Pinned := { name := "ytbedejilhhedlaa", sum := "e087fb145defc100ac921488e7725f31159b083771897ca7a2bccff78a86f8b5", checked := Try.checked }
namespace Rows
def none {H : Type} : Left H := { results := [], args := [] }

/-- 'basculelaw.SeenHas': WHATEVER THE INPUT: true; the input reads as it did. -/
def seenHasSpec : ChangeSpec := { name := "seenHas", fn := fun _ => fun
  | [d1, d2] => { results := [.lit (.bool true)], args := [d1, d2] }
  | _ => none }
def seenHasRow : OpenClaim := { program := "ytbedejilhhedlaa", sum := "e087fb145defc100ac921488e7725f31159b083771897ca7a2bccff78a86f8b5", func := "bascule/basculelaw.SeenHas", spec := "seenHas", apart := false }
def SeenHasSaid : Prop := seenHasRow.holds Try.pinned (OpenSpec.ofChange seenHasSpec)

/-- ITS FALSE NEIGHBOUR: 'it returns false'. Refute it at one input. -/
def seenHasWrong : ChangeSpec := { name := "seenHas", fn := fun _ => fun
  | [d1, d2] => { results := [.lit (.bool false)], args := [d1, d2] }
  | _ => none }
def SeenHasWrongFalsely : Prop := seenHasRow.holds Try.pinned (OpenSpec.ofChange seenHasWrong)

/-- 'basculelaw.SeenMarks': WHATEVER THE INPUT: true; the input reads as it did. -/
def seenMarksSpec : ChangeSpec := { name := "seenMarks", fn := fun _ => fun
  | [d1, d2] => { results := [.lit (.bool true)], args := [d1, d2] }
  | _ => none }
def seenMarksRow : OpenClaim := { program := "ytbedejilhhedlaa", sum := "e087fb145defc100ac921488e7725f31159b083771897ca7a2bccff78a86f8b5", func := "bascule/basculelaw.SeenMarks", spec := "seenMarks", apart := false }
def SeenMarksSaid : Prop := seenMarksRow.holds Try.pinned (OpenSpec.ofChange seenMarksSpec)

/-- ITS FALSE NEIGHBOUR: 'it returns false'. Refute it at one input. -/
def seenMarksWrong : ChangeSpec := { name := "seenMarks", fn := fun _ => fun
  | [d1, d2] => { results := [.lit (.bool false)], args := [d1, d2] }
  | _ => none }
def SeenMarksWrongFalsely : Prop := seenMarksRow.holds Try.pinned (OpenSpec.ofChange seenMarksWrong)

/- THE SECOND FORM. 'bulk': how many values and letters a reading holds, each counted each time it is reached (what is shared counts as often as it is met; a slice's spare places count too). A statement '..UptoSaid' is the law's where the arguments, and the package variables that the reading takes, are together of bulk at most 1048576: NARROWER than '..Said'. Prove '..Said' where nothing that the law and all that it calls make is longer than what came in: it says more and counts as full. Else prove '..UptoSaid'. A law counts once. -/
mutual
def uptoBulk {H : Type} : DataW H → Nat
  | .lit (.string bytes) => bytes.length + 1
  | .lit _ => 1
  | .nil => 1
  | .ptr d => uptoBulk d + 1
  | .slice elems spare => uptoBulkAll elems + uptoBulkAll spare + 1
  | .agg parts => uptoBulkAll parts + 1
  | .iface _ d => uptoBulk d + 1
  | .map entries => uptoBulkEntries entries + 1
  | .held _ => 1
def uptoBulkAll {H : Type} : List (DataW H) → Nat
  | [] => 0
  | d :: r => uptoBulk d + uptoBulkAll r
def uptoBulkEntries {H : Type} : List (Lit × DataW H) → Nat
  | [] => 0
  | x :: r => uptoBulkEntry x + uptoBulkEntries r
def uptoBulkEntry {H : Type} : Lit × DataW H → Nat
  | (.string bytes, d) => bytes.length + uptoBulk d + 1
  | (_, d) => uptoBulk d + 1
 end
def uptoSmall : (H : Type) → List (DataW H) → Bool := fun _ ds => decide (uptoBulkAll ds ≤ 1048576)
def OpenSpec.upto (s : _root_.Go.ChangeSpec) : _root_.Go.OpenSpec := { _root_.Go.OpenSpec.ofChange s with cond := some uptoSmall }

/-- 'basculelaw.SeenHas', WHERE WHAT IT READS IS OF BULK AT MOST 1048576: true; the input reads as it did. -/
def seenHasUptoRow : OpenClaim := { program := "ytbedejilhhedlaa", sum := "e087fb145defc100ac921488e7725f31159b083771897ca7a2bccff78a86f8b5", func := "bascule/basculelaw.SeenHas", spec := "seenHas", apart := false, narrowed := true }
def SeenHasUptoSaid : Prop := seenHasUptoRow.holds Try.pinned (OpenSpec.upto seenHasSpec)

/-- 'basculelaw.SeenMarks', WHERE WHAT IT READS IS OF BULK AT MOST 1048576: true; the input reads as it did. -/
def seenMarksUptoRow : OpenClaim := { program := "ytbedejilhhedlaa", sum := "e087fb145defc100ac921488e7725f31159b083771897ca7a2bccff78a86f8b5", func := "bascule/basculelaw.SeenMarks", spec := "seenMarks", apart := false, narrowed := true }
def SeenMarksUptoSaid : Prop := seenMarksUptoRow.holds Try.pinned (OpenSpec.upto seenMarksSpec)

end Rows
end Go.Proofs.Ytbedejilhhedlaa
