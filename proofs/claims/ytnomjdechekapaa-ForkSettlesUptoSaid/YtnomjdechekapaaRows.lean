/-
  No cell of these rows narrows 'for every input' (looked for: loops, veiled, ifaces, maps, wideKeys, modest, calm, conditions, laid).
  DERIVED. THE GIVEN ROWS OF THIS SEAT. 4 by the template 'for every input the law returns true; each argument reads behind the call as it read before'; 0 by the template 'total and deterministic' (their statements: YtnomjdechekapaaTotals.lean).
  GIVEN WITH THE SEED: the statements are not yours to turn. If you find one false, say at which input.
  Laid BY PROGRAM, IN A SANDBOX (cutbox-rows.mjs): the forced cells as the released guide's own fill.sh prints them over the translation b9e87b8b0c41b7de… (all of the seat's roots in one cut). By AI agents, Wed Nov 11 2026. No macro, syntax, notation, axiom, sorry.
-/
import Derived.Test.YtnomjdechekapaaChecked
import GoSem.Claim
import GoSem.ClaimJoined
import GoSem.ClaimMapViews
import Derived.JoinedTies
import Derived.KernelRfl
namespace Go.Proofs.Ytnomjdechekapaa
/- THE CELL 'sum', in the pinned program and in every row, IS THE sha256 OF THE DUMP (.gsa) THAT YtnomjdechekapaaProg.lean LOADS. Nothing in Lean hashes anything: it is a label: what it is worth is what the hold of that sum in a sandbox is worth. -/
noncomputable def Try.pinned : Pinned := { name := "ytnomjdechekapaa", sum := "b9e87b8b0c41b7def9c17e6cfb69d9c83cd0fb86c3540196c9d9bcbbed4916a5", checked := Try.checked }
namespace Rows
def none {H : Type} : Left H := { results := [], args := [] }

/-- 'basculelaw.ForkChecks': WHATEVER THE INPUT: true; the input reads as it did. -/
def forkChecksSpec : ChangeSpec := { name := "forkChecks", fn := fun _ => fun
  | [d] => { results := [.lit (.bool true)], args := [d] }
  | _ => none }
def forkChecksRow : OpenClaim := { program := "ytnomjdechekapaa", sum := "b9e87b8b0c41b7def9c17e6cfb69d9c83cd0fb86c3540196c9d9bcbbed4916a5", func := "bascule/basculelaw.ForkChecks", spec := "forkChecks", recurses := true, apart := false }
def ForkChecksSaid : Prop := forkChecksRow.holds Try.pinned (OpenSpec.ofChange forkChecksSpec)

/-- ITS FALSE NEIGHBOUR: 'it returns false'. Refute it at one input. -/
def forkChecksWrong : ChangeSpec := { name := "forkChecks", fn := fun _ => fun
  | [d] => { results := [.lit (.bool false)], args := [d] }
  | _ => none }
def ForkChecksWrongFalsely : Prop := forkChecksRow.holds Try.pinned (OpenSpec.ofChange forkChecksWrong)

/-- 'basculelaw.ForkGrows': WHATEVER THE INPUT: true; the input reads as it did. -/
def forkGrowsSpec : ChangeSpec := { name := "forkGrows", fn := fun _ => fun
  | [d1, d2, d3] => { results := [.lit (.bool true)], args := [d1, d2, d3] }
  | _ => none }
def forkGrowsRow : OpenClaim := { program := "ytnomjdechekapaa", sum := "b9e87b8b0c41b7def9c17e6cfb69d9c83cd0fb86c3540196c9d9bcbbed4916a5", func := "bascule/basculelaw.ForkGrows", spec := "forkGrows", recurses := true, apart := false }
def ForkGrowsSaid : Prop := forkGrowsRow.holds Try.pinned (OpenSpec.ofChange forkGrowsSpec)

/-- ITS FALSE NEIGHBOUR: 'it returns false'. Refute it at one input. -/
def forkGrowsWrong : ChangeSpec := { name := "forkGrows", fn := fun _ => fun
  | [d1, d2, d3] => { results := [.lit (.bool false)], args := [d1, d2, d3] }
  | _ => none }
def ForkGrowsWrongFalsely : Prop := forkGrowsRow.holds Try.pinned (OpenSpec.ofChange forkGrowsWrong)

/-- 'basculelaw.ForkSettles': WHATEVER THE INPUT: true; the input reads as it did. -/
def forkSettlesSpec : ChangeSpec := { name := "forkSettles", fn := fun _ => fun
  | [d1, d2] => { results := [.lit (.bool true)], args := [d1, d2] }
  | _ => none }
def forkSettlesRow : OpenClaim := { program := "ytnomjdechekapaa", sum := "b9e87b8b0c41b7def9c17e6cfb69d9c83cd0fb86c3540196c9d9bcbbed4916a5", func := "bascule/basculelaw.ForkSettles", spec := "forkSettles", recurses := true, apart := false }
def ForkSettlesSaid : Prop := forkSettlesRow.holds Try.pinned (OpenSpec.ofChange forkSettlesSpec)

/-- ITS FALSE NEIGHBOUR: 'it returns false'. Refute it at one input. -/
def forkSettlesWrong : ChangeSpec := { name := "forkSettles", fn := fun _ => fun
  | [d1, d2] => { results := [.lit (.bool false)], args := [d1, d2] }
  | _ => none }
def ForkSettlesWrongFalsely : Prop := forkSettlesRow.holds Try.pinned (OpenSpec.ofChange forkSettlesWrong)

/-- 'basculelaw.ForkLines': WHATEVER THE INPUT: true; the input reads as it did. -/
def forkLinesSpec : ChangeSpec := { name := "forkLines", fn := fun _ => fun
  | [d1, d2] => { results := [.lit (.bool true)], args := [d1, d2] }
  | _ => none }
def forkLinesRow : OpenClaim := { program := "ytnomjdechekapaa", sum := "b9e87b8b0c41b7def9c17e6cfb69d9c83cd0fb86c3540196c9d9bcbbed4916a5", func := "bascule/basculelaw.ForkLines", spec := "forkLines", recurses := true, apart := false }
def ForkLinesSaid : Prop := forkLinesRow.holds Try.pinned (OpenSpec.ofChange forkLinesSpec)

/-- ITS FALSE NEIGHBOUR: 'it returns false'. Refute it at one input. -/
def forkLinesWrong : ChangeSpec := { name := "forkLines", fn := fun _ => fun
  | [d1, d2] => { results := [.lit (.bool false)], args := [d1, d2] }
  | _ => none }
def ForkLinesWrongFalsely : Prop := forkLinesRow.holds Try.pinned (OpenSpec.ofChange forkLinesWrong)

/- THE SECOND FORM. 'bulk': how many values and letters a reading holds, each counted each time it is reached (what is shared counts as often as it is met; a slice's spare places count too). A statement '..UptoSaid' is the law's where the arguments, and the package variables that the reading takes, are together of bulk at most 1048576: NARROWER than '..Said'. Prove '..Said' where nothing that the law and all that it calls make is longer than what came in: it says more and counts as full. Else prove '..UptoSaid'. A law counts once. -/
mutual
def uptoBulk {H : Type} : DataW H → Nat
  | .lit (.string bytes) => bytes.length + 1
  | .lit _ => 1
  | .nil => 1
  | .ptr d => uptoBulk d + 1
  | .slice elems spare => uptoBulkAll elems + uptoBulkAll spare + 1
  | .agg parts => uptoBulkAll parts + 1
  | .iface _ d => uptoBulk d + 1
  | .map entries => uptoBulkEntries entries + 1
  | .held _ => 1
def uptoBulkAll {H : Type} : List (DataW H) → Nat
  | [] => 0
  | d :: r => uptoBulk d + uptoBulkAll r
def uptoBulkEntries {H : Type} : List (Lit × DataW H) → Nat
  | [] => 0
  | x :: r => uptoBulkEntry x + uptoBulkEntries r
def uptoBulkEntry {H : Type} : Lit × DataW H → Nat
  | (.string bytes, d) => bytes.length + uptoBulk d + 1
  | (_, d) => uptoBulk d + 1
 end
def uptoSmall : (H : Type) → List (DataW H) → Bool := fun _ ds => decide (uptoBulkAll ds ≤ 1048576)
def OpenSpec.upto (s : _root_.Go.ChangeSpec) : _root_.Go.OpenSpec := { _root_.Go.OpenSpec.ofChange s with cond := some uptoSmall }

/-- 'basculelaw.ForkChecks', WHERE WHAT IT READS IS OF BULK AT MOST 1048576: true; the input reads as it did. -/
def forkChecksUptoRow : OpenClaim := { program := "ytnomjdechekapaa", sum := "b9e87b8b0c41b7def9c17e6cfb69d9c83cd0fb86c3540196c9d9bcbbed4916a5", func := "bascule/basculelaw.ForkChecks", spec := "forkChecks", recurses := true, apart := false, narrowed := true }
def ForkChecksUptoSaid : Prop := forkChecksUptoRow.holds Try.pinned (OpenSpec.upto forkChecksSpec)

/-- 'basculelaw.ForkGrows', WHERE WHAT IT READS IS OF BULK AT MOST 1048576: true; the input reads as it did. -/
def forkGrowsUptoRow : OpenClaim := { program := "ytnomjdechekapaa", sum := "b9e87b8b0c41b7def9c17e6cfb69d9c83cd0fb86c3540196c9d9bcbbed4916a5", func := "bascule/basculelaw.ForkGrows", spec := "forkGrows", recurses := true, apart := false, narrowed := true }
def ForkGrowsUptoSaid : Prop := forkGrowsUptoRow.holds Try.pinned (OpenSpec.upto forkGrowsSpec)

/-- 'basculelaw.ForkSettles', WHERE WHAT IT READS IS OF BULK AT MOST 1048576: true; the input reads as it did. -/
def forkSettlesUptoRow : OpenClaim := { program := "ytnomjdechekapaa", sum := "b9e87b8b0c41b7def9c17e6cfb69d9c83cd0fb86c3540196c9d9bcbbed4916a5", func := "bascule/basculelaw.ForkSettles", spec := "forkSettles", recurses := true, apart := false, narrowed := true }
def ForkSettlesUptoSaid : Prop := forkSettlesUptoRow.holds Try.pinned (OpenSpec.upto forkSettlesSpec)

/-- 'basculelaw.ForkLines', WHERE WHAT IT READS IS OF BULK AT MOST 1048576: true; the input reads as it did. -/
def forkLinesUptoRow : OpenClaim := { program := "ytnomjdechekapaa", sum := "b9e87b8b0c41b7def9c17e6cfb69d9c83cd0fb86c3540196c9d9bcbbed4916a5", func := "bascule/basculelaw.ForkLines", spec := "forkLines", recurses := true, apart := false, narrowed := true }
def ForkLinesUptoSaid : Prop := forkLinesUptoRow.holds Try.pinned (OpenSpec.upto forkLinesSpec)

end Rows
end Go.Proofs.Ytnomjdechekapaa
