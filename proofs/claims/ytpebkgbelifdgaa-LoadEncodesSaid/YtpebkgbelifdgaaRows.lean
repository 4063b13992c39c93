/-
  No cell of these rows narrows 'for every input' (looked for: loops, veiled, ifaces, maps, wideKeys, modest, calm, conditions, laid).
  DERIVED. THE GIVEN ROWS OF THIS SEAT. 6 by the template 'for every input the law returns true; each argument reads behind the call as it read before'; 0 by the template 'total and deterministic' (their statements: YtpebkgbelifdgaaTotals.lean).
  GIVEN WITH THE SEED: the statements are not yours to turn. If you find one false, say at which input.
  Laid BY PROGRAM, IN A SANDBOX (cutbox-rows.mjs): the forced cells as the released guide's own fill.sh prints them over the translation 5324da2c0c5e06bc… (all of the seat's roots in one cut). By AI agents, Wed Nov 11 2026. No macro, syntax, notation, axiom, sorry.
-/
import Derived.Test.YtpebkgbelifdgaaChecked
import GoSem.Claim
import GoSem.ClaimJoined
import GoSem.ClaimMapViews
import Derived.JoinedTies
import Derived.KernelRfl
namespace Go.Proofs.Ytpebkgbelifdgaa
/- THE CELL 'sum', in the pinned program and in every row, IS THE sha256 OF THE DUMP (.gsa) THAT YtpebkgbelifdgaaProg.lean LOADS. Nothing in Lean hashes anything: it is a label: what it is worth is what the hold of that sum in a sandbox is worth. -/
noncomputable def Try.pinned : Pinned := { name := "ytpebkgbelifdgaa", sum := "5324da2c0c5e06bc38b80cfb3d568ed16972353eb33a3f1e61eebb04a63c31bf", checked := Try.checked }
namespace Rows
def none {H : Type} : Left H := { results := [], args := [] }

/-- 'basculelaw.BodyChecks': WHATEVER THE INPUT: true; the input reads as it did. -/
def bodyChecksSpec : ChangeSpec := { name := "bodyChecks", fn := fun _ => fun
  | [d] => { results := [.lit (.bool true)], args := [d] }
  | _ => none }
def bodyChecksRow : OpenClaim := { program := "ytpebkgbelifdgaa", sum := "5324da2c0c5e06bc38b80cfb3d568ed16972353eb33a3f1e61eebb04a63c31bf", func := "bascule/basculelaw.BodyChecks", spec := "bodyChecks", apart := false }
def BodyChecksSaid : Prop := bodyChecksRow.holds Try.pinned (OpenSpec.ofChange bodyChecksSpec)

/-- ITS FALSE NEIGHBOUR: 'it returns false'. Refute it at one input. -/
def bodyChecksWrong : ChangeSpec := { name := "bodyChecks", fn := fun _ => fun
  | [d] => { results := [.lit (.bool false)], args := [d] }
  | _ => none }
def BodyChecksWrongFalsely : Prop := bodyChecksRow.holds Try.pinned (OpenSpec.ofChange bodyChecksWrong)

/-- 'basculelaw.PaperEncodes': WHATEVER THE INPUT: true; the input reads as it did. -/
def paperEncodesSpec : ChangeSpec := { name := "paperEncodes", fn := fun _ => fun
  | [d] => { results := [.lit (.bool true)], args := [d] }
  | _ => none }
def paperEncodesRow : OpenClaim := { program := "ytpebkgbelifdgaa", sum := "5324da2c0c5e06bc38b80cfb3d568ed16972353eb33a3f1e61eebb04a63c31bf", func := "bascule/basculelaw.PaperEncodes", spec := "paperEncodes", apart := false }
def PaperEncodesSaid : Prop := paperEncodesRow.holds Try.pinned (OpenSpec.ofChange paperEncodesSpec)

/-- ITS FALSE NEIGHBOUR: 'it returns false'. Refute it at one input. -/
def paperEncodesWrong : ChangeSpec := { name := "paperEncodes", fn := fun _ => fun
  | [d] => { results := [.lit (.bool false)], args := [d] }
  | _ => none }
def PaperEncodesWrongFalsely : Prop := paperEncodesRow.holds Try.pinned (OpenSpec.ofChange paperEncodesWrong)

/-- 'basculelaw.PaperDecodes': WHATEVER THE INPUT: true; the input reads as it did. -/
def paperDecodesSpec : ChangeSpec := { name := "paperDecodes", fn := fun _ => fun
  | [d] => { results := [.lit (.bool true)], args := [d] }
  | _ => none }
def paperDecodesRow : OpenClaim := { program := "ytpebkgbelifdgaa", sum := "5324da2c0c5e06bc38b80cfb3d568ed16972353eb33a3f1e61eebb04a63c31bf", func := "bascule/basculelaw.PaperDecodes", spec := "paperDecodes", unfollowed := true, recurses := true, apart := false }
def PaperDecodesSaid : Prop := paperDecodesRow.holds Try.pinned (OpenSpec.ofChange paperDecodesSpec)

/-- ITS FALSE NEIGHBOUR: 'it returns false'. Refute it at one input. -/
def paperDecodesWrong : ChangeSpec := { name := "paperDecodes", fn := fun _ => fun
  | [d] => { results := [.lit (.bool false)], args := [d] }
  | _ => none }
def PaperDecodesWrongFalsely : Prop := paperDecodesRow.holds Try.pinned (OpenSpec.ofChange paperDecodesWrong)

/-- 'basculelaw.LoadChecks': WHATEVER THE INPUT: true; the input reads as it did. -/
def loadChecksSpec : ChangeSpec := { name := "loadChecks", fn := fun _ => fun
  | [d] => { results := [.lit (.bool true)], args := [d] }
  | _ => none }
def loadChecksRow : OpenClaim := { program := "ytpebkgbelifdgaa", sum := "5324da2c0c5e06bc38b80cfb3d568ed16972353eb33a3f1e61eebb04a63c31bf", func := "bascule/basculelaw.LoadChecks", spec := "loadChecks", unfollowed := true, recurses := true, apart := false }
def LoadChecksSaid : Prop := loadChecksRow.holds Try.pinned (OpenSpec.ofChange loadChecksSpec)

/-- ITS FALSE NEIGHBOUR: 'it returns false'. Refute it at one input. -/
def loadChecksWrong : ChangeSpec := { name := "loadChecks", fn := fun _ => fun
  | [d] => { results := [.lit (.bool false)], args := [d] }
  | _ => none }
def LoadChecksWrongFalsely : Prop := loadChecksRow.holds Try.pinned (OpenSpec.ofChange loadChecksWrong)

/-- 'basculelaw.LoadEncodes': WHATEVER THE INPUT: true; the input reads as it did. -/
def loadEncodesSpec : ChangeSpec := { name := "loadEncodes", fn := fun _ => fun
  | [d] => { results := [.lit (.bool true)], args := [d] }
  | _ => none }
def loadEncodesRow : OpenClaim := { program := "ytpebkgbelifdgaa", sum := "5324da2c0c5e06bc38b80cfb3d568ed16972353eb33a3f1e61eebb04a63c31bf", func := "bascule/basculelaw.LoadEncodes", spec := "loadEncodes", unfollowed := true, recurses := true, apart := false }
def LoadEncodesSaid : Prop := loadEncodesRow.holds Try.pinned (OpenSpec.ofChange loadEncodesSpec)

/-- ITS FALSE NEIGHBOUR: 'it returns false'. Refute it at one input. -/
def loadEncodesWrong : ChangeSpec := { name := "loadEncodes", fn := fun _ => fun
  | [d] => { results := [.lit (.bool false)], args := [d] }
  | _ => none }
def LoadEncodesWrongFalsely : Prop := loadEncodesRow.holds Try.pinned (OpenSpec.ofChange loadEncodesWrong)

/-- 'basculelaw.LoadDecodes': WHATEVER THE INPUT: true; the input reads as it did. -/
def loadDecodesSpec : ChangeSpec := { name := "loadDecodes", fn := fun _ => fun
  | [d] => { results := [.lit (.bool true)], args := [d] }
  | _ => none }
def loadDecodesRow : OpenClaim := { program := "ytpebkgbelifdgaa", sum := "5324da2c0c5e06bc38b80cfb3d568ed16972353eb33a3f1e61eebb04a63c31bf", func := "bascule/basculelaw.LoadDecodes", spec := "loadDecodes", unfollowed := true, recurses := true, apart := false }
def LoadDecodesSaid : Prop := loadDecodesRow.holds Try.pinned (OpenSpec.ofChange loadDecodesSpec)

/-- ITS FALSE NEIGHBOUR: 'it returns false'. Refute it at one input. -/
def loadDecodesWrong : ChangeSpec := { name := "loadDecodes", fn := fun _ => fun
  | [d] => { results := [.lit (.bool false)], args := [d] }
  | _ => none }
def LoadDecodesWrongFalsely : Prop := loadDecodesRow.holds Try.pinned (OpenSpec.ofChange loadDecodesWrong)

/- THE SECOND FORM. 'bulk': how many values and letters a reading holds, each counted each time it is reached (what is shared counts as often as it is met; a slice's spare places count too). A statement '..UptoSaid' is the law's where the arguments, and the package variables that the reading takes, are together of bulk at most 1048576: NARROWER than '..Said'. Prove '..Said' where nothing that the law and all that it calls make is longer than what came in: it says more and counts as full. Else prove '..UptoSaid'. A law counts once. -/
mutual
def uptoBulk {H : Type} : DataW H → Nat
  | .lit (.string bytes) => bytes.length + 1
  | .lit _ => 1
  | .nil => 1
  | .ptr d => uptoBulk d + 1
  | .slice elems spare => uptoBulkAll elems + uptoBulkAll spare + 1
  | .agg parts => uptoBulkAll parts + 1
  | .iface _ d => uptoBulk d + 1
  | .map entries => uptoBulkEntries entries + 1
  | .held _ => 1
def uptoBulkAll {H : Type} : List (DataW H) → Nat
  | [] => 0
  | d :: r => uptoBulk d + uptoBulkAll r
def uptoBulkEntries {H : Type} : List (Lit × DataW H) → Nat
  | [] => 0
  | x :: r => uptoBulkEntry x + uptoBulkEntries r
def uptoBulkEntry {H : Type} : Lit × DataW H → Nat
  | (.string bytes, d) => bytes.length + uptoBulk d + 1
  | (_, d) => uptoBulk d + 1
 end
def uptoSmall : (H : Type) → List (DataW H) → Bool := fun _ ds => decide (uptoBulkAll ds ≤ 1048576)
def OpenSpec.upto (s : _root_.Go.ChangeSpec) : _root_.Go.OpenSpec := { _root_.Go.OpenSpec.ofChange s with cond := some uptoSmall }

/-- 'basculelaw.BodyChecks', WHERE WHAT IT READS IS OF BULK AT MOST 1048576: true; the input reads as it did. -/
def bodyChecksUptoRow : OpenClaim := { program := "ytpebkgbelifdgaa", sum := "5324da2c0c5e06bc38b80cfb3d568ed16972353eb33a3f1e61eebb04a63c31bf", func := "bascule/basculelaw.BodyChecks", spec := "bodyChecks", apart := false, narrowed := true }
def BodyChecksUptoSaid : Prop := bodyChecksUptoRow.holds Try.pinned (OpenSpec.upto bodyChecksSpec)

/-- 'basculelaw.PaperEncodes', WHERE WHAT IT READS IS OF BULK AT MOST 1048576: true; the input reads as it did. -/
def paperEncodesUptoRow : OpenClaim := { program := "ytpebkgbelifdgaa", sum := "5324da2c0c5e06bc38b80cfb3d568ed16972353eb33a3f1e61eebb04a63c31bf", func := "bascule/basculelaw.PaperEncodes", spec := "paperEncodes", apart := false, narrowed := true }
def PaperEncodesUptoSaid : Prop := paperEncodesUptoRow.holds Try.pinned (OpenSpec.upto paperEncodesSpec)

/-- 'basculelaw.PaperDecodes', WHERE WHAT IT READS IS OF BULK AT MOST 1048576: true; the input reads as it did. -/
def paperDecodesUptoRow : OpenClaim := { program := "ytpebkgbelifdgaa", sum := "5324da2c0c5e06bc38b80cfb3d568ed16972353eb33a3f1e61eebb04a63c31bf", func := "bascule/basculelaw.PaperDecodes", spec := "paperDecodes", unfollowed := true, recurses := true, apart := false, narrowed := true }
def PaperDecodesUptoSaid : Prop := paperDecodesUptoRow.holds Try.pinned (OpenSpec.upto paperDecodesSpec)

/-- 'basculelaw.LoadChecks', WHERE WHAT IT READS IS OF BULK AT MOST 1048576: true; the input reads as it did. -/
def loadChecksUptoRow : OpenClaim := { program := "ytpebkgbelifdgaa", sum := "5324da2c0c5e06bc38b80cfb3d568ed16972353eb33a3f1e61eebb04a63c31bf", func := "bascule/basculelaw.LoadChecks", spec := "loadChecks", unfollowed := true, recurses := true, apart := false, narrowed := true }
def LoadChecksUptoSaid : Prop := loadChecksUptoRow.holds Try.pinned (OpenSpec.upto loadChecksSpec)

/-- 'basculelaw.LoadEncodes', WHERE WHAT IT READS IS OF BULK AT MOST 1048576: true; the input reads as it did. -/
def loadEncodesUptoRow : OpenClaim := { program := "ytpebkgbelifdgaa", sum := "5324da2c0c5e06bc38b80cfb3d568ed16972353eb33a3f1e61eebb04a63c31bf", func := "bascule/basculelaw.LoadEncodes", spec := "loadEncodes", unfollowed := true, recurses := true, apart := false, narrowed := true }
def LoadEncodesUptoSaid : Prop := loadEncodesUptoRow.holds Try.pinned (OpenSpec.upto loadEncodesSpec)

/-- 'basculelaw.LoadDecodes', WHERE WHAT IT READS IS OF BULK AT MOST 1048576: true; the input reads as it did. -/
def loadDecodesUptoRow : OpenClaim := { program := "ytpebkgbelifdgaa", sum := "5324da2c0c5e06bc38b80cfb3d568ed16972353eb33a3f1e61eebb04a63c31bf", func := "bascule/basculelaw.LoadDecodes", spec := "loadDecodes", unfollowed := true, recurses := true, apart := false, narrowed := true }
def LoadDecodesUptoSaid : Prop := loadDecodesUptoRow.holds Try.pinned (OpenSpec.upto loadDecodesSpec)

end Rows
end Go.Proofs.Ytpebkgbelifdgaa
