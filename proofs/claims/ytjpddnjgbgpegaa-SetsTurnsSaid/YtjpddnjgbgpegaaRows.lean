/-
  No cell of these rows narrows 'for every input' (looked for: loops, veiled, ifaces, maps, wideKeys, modest, calm, conditions, laid).
  DERIVED. THE GIVEN ROWS OF THIS SEAT. 6 by the template 'for every input the law returns true; each argument reads behind the call as it read before'; 0 by the template 'total and deterministic' (their statements: YtjpddnjgbgpegaaTotals.lean).
  GIVEN WITH THE SEED: the statements are not yours to turn. If you find one false, say at which input.
  Laid BY PROGRAM, IN A SANDBOX (cutbox-rows.mjs): the forced cells as the released guide's own fill.sh prints them over the translation ed6ea8e5956c2412… (all of the seat's roots in one cut). By AI agents, Wed Nov 11 2026. No macro, syntax, notation, axiom, sorry.
-/
import Derived.Test.YtjpddnjgbgpegaaChecked
import GoSem.Claim
import GoSem.ClaimJoined
import GoSem.ClaimMapViews
import Derived.JoinedTies
import Derived.KernelRfl
namespace Go.Proofs.Ytjpddnjgbgpegaa
/- THE CELL 'sum', in the pinned program and in every row, IS THE sha256 OF THE DUMP (.gsa) THAT YtjpddnjgbgpegaaProg.lean LOADS. Nothing in Lean hashes anything: it is a label: what it is worth is what the hold of that sum in a sandbox is worth. -/
noncomputable def Try.pinned : Pinned := { name := "ytjpddnjgbgpegaa", sum := "ed6ea8e5956c2412edecb50ef756f49e9f89f2fb0751479c24e8270fc1d4a0f4", checked := Try.checked }
namespace Rows
def none {H : Type} : Left H := { results := [], args := [] }

/-- 'basculelaw.ScaleDowns': WHATEVER THE INPUT: true; the input reads as it did. -/
def scaleDownsSpec : ChangeSpec := { name := "scaleDowns", fn := fun _ => fun
  | [d1, d2] => { results := [.lit (.bool true)], args := [d1, d2] }
  | _ => none }
def scaleDownsRow : OpenClaim := { program := "ytjpddnjgbgpegaa", sum := "ed6ea8e5956c2412edecb50ef756f49e9f89f2fb0751479c24e8270fc1d4a0f4", func := "bascule/basculelaw.ScaleDowns", spec := "scaleDowns", inPlace := ["math/bits.Add64", "math/bits.Sub64"], named := ["math/bits.divideError", "math/bits.overflowError"], plainKeys := false, apart := false }
def ScaleDownsSaid : Prop := scaleDownsRow.holds Try.pinned (OpenSpec.ofChange scaleDownsSpec)

/-- ITS FALSE NEIGHBOUR: 'it returns false'. Refute it at one input. -/
def scaleDownsWrong : ChangeSpec := { name := "scaleDowns", fn := fun _ => fun
  | [d1, d2] => { results := [.lit (.bool false)], args := [d1, d2] }
  | _ => none }
def ScaleDownsWrongFalsely : Prop := scaleDownsRow.holds Try.pinned (OpenSpec.ofChange scaleDownsWrong)

/-- 'basculelaw.ScaleUps': WHATEVER THE INPUT: true; the input reads as it did. -/
def scaleUpsSpec : ChangeSpec := { name := "scaleUps", fn := fun _ => fun
  | [d1, d2] => { results := [.lit (.bool true)], args := [d1, d2] }
  | _ => none }
def scaleUpsRow : OpenClaim := { program := "ytjpddnjgbgpegaa", sum := "ed6ea8e5956c2412edecb50ef756f49e9f89f2fb0751479c24e8270fc1d4a0f4", func := "bascule/basculelaw.ScaleUps", spec := "scaleUps", inPlace := ["math/bits.Add64"], plainKeys := false, apart := false }
def ScaleUpsSaid : Prop := scaleUpsRow.holds Try.pinned (OpenSpec.ofChange scaleUpsSpec)

/-- ITS FALSE NEIGHBOUR: 'it returns false'. Refute it at one input. -/
def scaleUpsWrong : ChangeSpec := { name := "scaleUps", fn := fun _ => fun
  | [d1, d2] => { results := [.lit (.bool false)], args := [d1, d2] }
  | _ => none }
def ScaleUpsWrongFalsely : Prop := scaleUpsRow.holds Try.pinned (OpenSpec.ofChange scaleUpsWrong)

/-- 'basculelaw.SetsChecks': WHATEVER THE INPUT: true; the input reads as it did. -/
def setsChecksSpec : ChangeSpec := { name := "setsChecks", fn := fun _ => fun
  | [d] => { results := [.lit (.bool true)], args := [d] }
  | _ => none }
def setsChecksRow : OpenClaim := { program := "ytjpddnjgbgpegaa", sum := "ed6ea8e5956c2412edecb50ef756f49e9f89f2fb0751479c24e8270fc1d4a0f4", func := "bascule/basculelaw.SetsChecks", spec := "setsChecks", plainKeys := false, apart := false }
def SetsChecksSaid : Prop := setsChecksRow.holds Try.pinned (OpenSpec.ofChange setsChecksSpec)

/-- ITS FALSE NEIGHBOUR: 'it returns false'. Refute it at one input. -/
def setsChecksWrong : ChangeSpec := { name := "setsChecks", fn := fun _ => fun
  | [d] => { results := [.lit (.bool false)], args := [d] }
  | _ => none }
def SetsChecksWrongFalsely : Prop := setsChecksRow.holds Try.pinned (OpenSpec.ofChange setsChecksWrong)

/-- 'basculelaw.SetsBegins': WHATEVER THE INPUT: true; the input reads as it did. -/
def setsBeginsSpec : ChangeSpec := { name := "setsBegins", fn := fun _ => fun
  | [d] => { results := [.lit (.bool true)], args := [d] }
  | _ => none }
def setsBeginsRow : OpenClaim := { program := "ytjpddnjgbgpegaa", sum := "ed6ea8e5956c2412edecb50ef756f49e9f89f2fb0751479c24e8270fc1d4a0f4", func := "bascule/basculelaw.SetsBegins", spec := "setsBegins", plainKeys := false, apart := false }
def SetsBeginsSaid : Prop := setsBeginsRow.holds Try.pinned (OpenSpec.ofChange setsBeginsSpec)

/-- ITS FALSE NEIGHBOUR: 'it returns false'. Refute it at one input. -/
def setsBeginsWrong : ChangeSpec := { name := "setsBegins", fn := fun _ => fun
  | [d] => { results := [.lit (.bool false)], args := [d] }
  | _ => none }
def SetsBeginsWrongFalsely : Prop := setsBeginsRow.holds Try.pinned (OpenSpec.ofChange setsBeginsWrong)

/-- 'basculelaw.SetsTurns': WHATEVER THE INPUT: true; the input reads as it did. -/
def setsTurnsSpec : ChangeSpec := { name := "setsTurns", fn := fun _ => fun
  | [d1, d2, d3] => { results := [.lit (.bool true)], args := [d1, d2, d3] }
  | _ => none }
def setsTurnsRow : OpenClaim := { program := "ytjpddnjgbgpegaa", sum := "ed6ea8e5956c2412edecb50ef756f49e9f89f2fb0751479c24e8270fc1d4a0f4", func := "bascule/basculelaw.SetsTurns", spec := "setsTurns", plainKeys := false, apart := false }
def SetsTurnsSaid : Prop := setsTurnsRow.holds Try.pinned (OpenSpec.ofChange setsTurnsSpec)

/-- ITS FALSE NEIGHBOUR: 'it returns false'. Refute it at one input. -/
def setsTurnsWrong : ChangeSpec := { name := "setsTurns", fn := fun _ => fun
  | [d1, d2, d3] => { results := [.lit (.bool false)], args := [d1, d2, d3] }
  | _ => none }
def SetsTurnsWrongFalsely : Prop := setsTurnsRow.holds Try.pinned (OpenSpec.ofChange setsTurnsWrong)

/-- 'basculelaw.SetsLives': WHATEVER THE INPUT: true; the input reads as it did. -/
def setsLivesSpec : ChangeSpec := { name := "setsLives", fn := fun _ => fun
  | [d1, d2, d3] => { results := [.lit (.bool true)], args := [d1, d2, d3] }
  | _ => none }
def setsLivesRow : OpenClaim := { program := "ytjpddnjgbgpegaa", sum := "ed6ea8e5956c2412edecb50ef756f49e9f89f2fb0751479c24e8270fc1d4a0f4", func := "bascule/basculelaw.SetsLives", spec := "setsLives", plainKeys := false, apart := false }
def SetsLivesSaid : Prop := setsLivesRow.holds Try.pinned (OpenSpec.ofChange setsLivesSpec)

/-- ITS FALSE NEIGHBOUR: 'it returns false'. Refute it at one input. -/
def setsLivesWrong : ChangeSpec := { name := "setsLives", fn := fun _ => fun
  | [d1, d2, d3] => { results := [.lit (.bool false)], args := [d1, d2, d3] }
  | _ => none }
def SetsLivesWrongFalsely : Prop := setsLivesRow.holds Try.pinned (OpenSpec.ofChange setsLivesWrong)

/- THE SECOND FORM. 'bulk': how many values and letters a reading holds, each counted each time it is reached (what is shared counts as often as it is met; a slice's spare places count too). A statement '..UptoSaid' is the law's where the arguments, and the package variables that the reading takes, are together of bulk at most 1048576: NARROWER than '..Said'. Prove '..Said' where nothing that the law and all that it calls make is longer than what came in: it says more and counts as full. Else prove '..UptoSaid'. A law counts once. -/
mutual
def uptoBulk {H : Type} : DataW H → Nat
  | .lit (.string bytes) => bytes.length + 1
  | .lit _ => 1
  | .nil => 1
  | .ptr d => uptoBulk d + 1
  | .slice elems spare => uptoBulkAll elems + uptoBulkAll spare + 1
  | .agg parts => uptoBulkAll parts + 1
  | .iface _ d => uptoBulk d + 1
  | .map entries => uptoBulkEntries entries + 1
  | .held _ => 1
def uptoBulkAll {H : Type} : List (DataW H) → Nat
  | [] => 0
  | d :: r => uptoBulk d + uptoBulkAll r
def uptoBulkEntries {H : Type} : List (Lit × DataW H) → Nat
  | [] => 0
  | x :: r => uptoBulkEntry x + uptoBulkEntries r
def uptoBulkEntry {H : Type} : Lit × DataW H → Nat
  | (.string bytes, d) => bytes.length + uptoBulk d + 1
  | (_, d) => uptoBulk d + 1
 end
def uptoSmall : (H : Type) → List (DataW H) → Bool := fun _ ds => decide (uptoBulkAll ds ≤ 1048576)
def OpenSpec.upto (s : _root_.Go.ChangeSpec) : _root_.Go.OpenSpec := { _root_.Go.OpenSpec.ofChange s with cond := some uptoSmall }

/-- 'basculelaw.ScaleDowns', WHERE WHAT IT READS IS OF BULK AT MOST 1048576: true; the input reads as it did. -/
def scaleDownsUptoRow : OpenClaim := { program := "ytjpddnjgbgpegaa", sum := "ed6ea8e5956c2412edecb50ef756f49e9f89f2fb0751479c24e8270fc1d4a0f4", func := "bascule/basculelaw.ScaleDowns", spec := "scaleDowns", inPlace := ["math/bits.Add64", "math/bits.Sub64"], named := ["math/bits.divideError", "math/bits.overflowError"], plainKeys := false, apart := false, narrowed := true }
def ScaleDownsUptoSaid : Prop := scaleDownsUptoRow.holds Try.pinned (OpenSpec.upto scaleDownsSpec)

/-- 'basculelaw.ScaleUps', WHERE WHAT IT READS IS OF BULK AT MOST 1048576: true; the input reads as it did. -/
def scaleUpsUptoRow : OpenClaim := { program := "ytjpddnjgbgpegaa", sum := "ed6ea8e5956c2412edecb50ef756f49e9f89f2fb0751479c24e8270fc1d4a0f4", func := "bascule/basculelaw.ScaleUps", spec := "scaleUps", inPlace := ["math/bits.Add64"], plainKeys := false, apart := false, narrowed := true }
def ScaleUpsUptoSaid : Prop := scaleUpsUptoRow.holds Try.pinned (OpenSpec.upto scaleUpsSpec)

/-- 'basculelaw.SetsChecks', WHERE WHAT IT READS IS OF BULK AT MOST 1048576: true; the input reads as it did. -/
def setsChecksUptoRow : OpenClaim := { program := "ytjpddnjgbgpegaa", sum := "ed6ea8e5956c2412edecb50ef756f49e9f89f2fb0751479c24e8270fc1d4a0f4", func := "bascule/basculelaw.SetsChecks", spec := "setsChecks", plainKeys := false, apart := false, narrowed := true }
def SetsChecksUptoSaid : Prop := setsChecksUptoRow.holds Try.pinned (OpenSpec.upto setsChecksSpec)

/-- 'basculelaw.SetsBegins', WHERE WHAT IT READS IS OF BULK AT MOST 1048576: true; the input reads as it did. -/
def setsBeginsUptoRow : OpenClaim := { program := "ytjpddnjgbgpegaa", sum := "ed6ea8e5956c2412edecb50ef756f49e9f89f2fb0751479c24e8270fc1d4a0f4", func := "bascule/basculelaw.SetsBegins", spec := "setsBegins", plainKeys := false, apart := false, narrowed := true }
def SetsBeginsUptoSaid : Prop := setsBeginsUptoRow.holds Try.pinned (OpenSpec.upto setsBeginsSpec)

/-- 'basculelaw.SetsTurns', WHERE WHAT IT READS IS OF BULK AT MOST 1048576: true; the input reads as it did. -/
def setsTurnsUptoRow : OpenClaim := { program := "ytjpddnjgbgpegaa", sum := "ed6ea8e5956c2412edecb50ef756f49e9f89f2fb0751479c24e8270fc1d4a0f4", func := "bascule/basculelaw.SetsTurns", spec := "setsTurns", plainKeys := false, apart := false, narrowed := true }
def SetsTurnsUptoSaid : Prop := setsTurnsUptoRow.holds Try.pinned (OpenSpec.upto setsTurnsSpec)

/-- 'basculelaw.SetsLives', WHERE WHAT IT READS IS OF BULK AT MOST 1048576: true; the input reads as it did. -/
def setsLivesUptoRow : OpenClaim := { program := "ytjpddnjgbgpegaa", sum := "ed6ea8e5956c2412edecb50ef756f49e9f89f2fb0751479c24e8270fc1d4a0f4", func := "bascule/basculelaw.SetsLives", spec := "setsLives", plainKeys := false, apart := false, narrowed := true }
def SetsLivesUptoSaid : Prop := setsLivesUptoRow.holds Try.pinned (OpenSpec.upto setsLivesSpec)

end Rows
end Go.Proofs.Ytjpddnjgbgpegaa
