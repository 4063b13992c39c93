/-
  No cell of these rows narrows 'for every input' (looked for: loops, veiled, ifaces, maps, wideKeys, modest, calm, conditions, laid).
  DERIVED. THE GIVEN ROWS OF THIS SEAT. 3 by the template 'for every input the law returns true; each argument reads behind the call as it read before'; 0 by the template 'total and deterministic' (their statements: YtkggabbcigeieaaTotals.lean).
  GIVEN WITH THE SEED: the statements are not yours to turn. If you find one false, say at which input.
  Laid BY PROGRAM, IN A SANDBOX (cutbox-rows.mjs): the forced cells as the released guide's own fill.sh prints them over the translation ef7409179943ee2c… (all of the seat's roots in one cut). By AI agents, Wed Nov 11 2026. No macro, syntax, notation, axiom, sorry.
-/
import Derived.Test.YtkggabbcigeieaaChecked
import GoSem.Claim
import GoSem.ClaimJoined
import GoSem.ClaimMapViews
import Derived.JoinedTies
import Derived.KernelRfl
namespace Go.Proofs.Ytkggabbcigeieaa
/- THE CELL 'sum', in the pinned program and in every row, IS THE sha256 OF THE DUMP (.gsa) THAT YtkggabbcigeieaaProg.lean LOADS. Nothing in Lean hashes anything: it is a label: what it is worth is what the hold of that sum in a sandbox is worth. -/
noncomputable def Try.pinned : Pinned := { name := "ytkggabbcigeieaa", sum := "ef7409179943ee2cec4adacfa01a808d079e2baf6b742a1fa0a24f1d2ec81e35", checked := Try.checked }
namespace Rows
def none {H : Type} : Left H := { results := [], args := [] }

/-- 'basculekeep.FinalStays': WHATEVER THE INPUT: true; the input reads as it did. -/
def finalStaysSpec : ChangeSpec := { name := "finalStays", fn := fun _ => fun
  | [d1, d2] => { results := [.lit (.bool true)], args := [d1, d2] }
  | _ => none }
def finalStaysRow : OpenClaim := { program := "ytkggabbcigeieaa", sum := "ef7409179943ee2cec4adacfa01a808d079e2baf6b742a1fa0a24f1d2ec81e35", func := "bascule/basculekeep.FinalStays", spec := "finalStays", apart := false }
def FinalStaysSaid : Prop := finalStaysRow.holds Try.pinned (OpenSpec.ofChange finalStaysSpec)

/-- ITS FALSE NEIGHBOUR: 'it returns false'. Refute it at one input. -/
def finalStaysWrong : ChangeSpec := { name := "finalStays", fn := fun _ => fun
  | [d1, d2] => { results := [.lit (.bool false)], args := [d1, d2] }
  | _ => none }
def FinalStaysWrongFalsely : Prop := finalStaysRow.holds Try.pinned (OpenSpec.ofChange finalStaysWrong)

/-- 'basculekeep.LineHighest': WHATEVER THE INPUT: true; the input reads as it did. -/
def lineHighestSpec : ChangeSpec := { name := "lineHighest", fn := fun _ => fun
  | [d1, d2] => { results := [.lit (.bool true)], args := [d1, d2] }
  | _ => none }
def lineHighestRow : OpenClaim := { program := "ytkggabbcigeieaa", sum := "ef7409179943ee2cec4adacfa01a808d079e2baf6b742a1fa0a24f1d2ec81e35", func := "bascule/basculekeep.LineHighest", spec := "lineHighest", apart := false }
def LineHighestSaid : Prop := lineHighestRow.holds Try.pinned (OpenSpec.ofChange lineHighestSpec)

/-- ITS FALSE NEIGHBOUR: 'it returns false'. Refute it at one input. -/
def lineHighestWrong : ChangeSpec := { name := "lineHighest", fn := fun _ => fun
  | [d1, d2] => { results := [.lit (.bool false)], args := [d1, d2] }
  | _ => none }
def LineHighestWrongFalsely : Prop := lineHighestRow.holds Try.pinned (OpenSpec.ofChange lineHighestWrong)

/-- 'basculekeep.GrowLate': WHATEVER THE INPUT: true; the input reads as it did. -/
def growLateSpec : ChangeSpec := { name := "growLate", fn := fun _ => fun
  | [d1, d2] => { results := [.lit (.bool true)], args := [d1, d2] }
  | _ => none }
def growLateRow : OpenClaim := { program := "ytkggabbcigeieaa", sum := "ef7409179943ee2cec4adacfa01a808d079e2baf6b742a1fa0a24f1d2ec81e35", func := "bascule/basculekeep.GrowLate", spec := "growLate", apart := false }
def GrowLateSaid : Prop := growLateRow.holds Try.pinned (OpenSpec.ofChange growLateSpec)

/-- ITS FALSE NEIGHBOUR: 'it returns false'. Refute it at one input. -/
def growLateWrong : ChangeSpec := { name := "growLate", fn := fun _ => fun
  | [d1, d2] => { results := [.lit (.bool false)], args := [d1, d2] }
  | _ => none }
def GrowLateWrongFalsely : Prop := growLateRow.holds Try.pinned (OpenSpec.ofChange growLateWrong)

/- THE SECOND FORM. 'bulk': how many values and letters a reading holds, each counted each time it is reached (what is shared counts as often as it is met; a slice's spare places count too). A statement '..UptoSaid' is the law's where the arguments, and the package variables that the reading takes, are together of bulk at most 1048576: NARROWER than '..Said'. Prove '..Said' where nothing that the law and all that it calls make is longer than what came in: it says more and counts as full. Else prove '..UptoSaid'. A law counts once. -/
mutual
def uptoBulk {H : Type} : DataW H → Nat
  | .lit (.string bytes) => bytes.length + 1
  | .lit _ => 1
  | .nil => 1
  | .ptr d => uptoBulk d + 1
  | .slice elems spare => uptoBulkAll elems + uptoBulkAll spare + 1
  | .agg parts => uptoBulkAll parts + 1
  | .iface _ d => uptoBulk d + 1
  | .map entries => uptoBulkEntries entries + 1
  | .held _ => 1
def uptoBulkAll {H : Type} : List (DataW H) → Nat
  | [] => 0
  | d :: r => uptoBulk d + uptoBulkAll r
def uptoBulkEntries {H : Type} : List (Lit × DataW H) → Nat
  | [] => 0
  | x :: r => uptoBulkEntry x + uptoBulkEntries r
def uptoBulkEntry {H : Type} : Lit × DataW H → Nat
  | (.string bytes, d) => bytes.length + uptoBulk d + 1
  | (_, d) => uptoBulk d + 1
 end
def uptoSmall : (H : Type) → List (DataW H) → Bool := fun _ ds => decide (uptoBulkAll ds ≤ 1048576)
def OpenSpec.upto (s : _root_.Go.ChangeSpec) : _root_.Go.OpenSpec := { _root_.Go.OpenSpec.ofChange s with cond := some uptoSmall }

/-- 'basculekeep.FinalStays', WHERE WHAT IT READS IS OF BULK AT MOST 1048576: true; the input reads as it did. -/
def finalStaysUptoRow : OpenClaim := { program := "ytkggabbcigeieaa", sum := "ef7409179943ee2cec4adacfa01a808d079e2baf6b742a1fa0a24f1d2ec81e35", func := "bascule/basculekeep.FinalStays", spec := "finalStays", apart := false, narrowed := true }
def FinalStaysUptoSaid : Prop := finalStaysUptoRow.holds Try.pinned (OpenSpec.upto finalStaysSpec)

/-- 'basculekeep.LineHighest', WHERE WHAT IT READS IS OF BULK AT MOST 1048576: true; the input reads as it did. -/
def lineHighestUptoRow : OpenClaim := { program := "ytkggabbcigeieaa", sum := "ef7409179943ee2cec4adacfa01a808d079e2baf6b742a1fa0a24f1d2ec81e35", func := "bascule/basculekeep.LineHighest", spec := "lineHighest", apart := false, narrowed := true }
def LineHighestUptoSaid : Prop := lineHighestUptoRow.holds Try.pinned (OpenSpec.upto lineHighestSpec)

/-- 'basculekeep.GrowLate', WHERE WHAT IT READS IS OF BULK AT MOST 1048576: true; the input reads as it did. -/
def growLateUptoRow : OpenClaim := { program := "ytkggabbcigeieaa", sum := "ef7409179943ee2cec4adacfa01a808d079e2baf6b742a1fa0a24f1d2ec81e35", func := "bascule/basculekeep.GrowLate", spec := "growLate", apart := false, narrowed := true }
def GrowLateUptoSaid : Prop := growLateUptoRow.holds Try.pinned (OpenSpec.upto growLateSpec)

end Rows
end Go.Proofs.Ytkggabbcigeieaa
