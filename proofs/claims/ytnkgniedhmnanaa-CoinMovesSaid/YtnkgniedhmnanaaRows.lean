/-
  No cell of these rows narrows 'for every input' (looked for: loops, veiled, ifaces, maps, wideKeys, modest, calm, conditions, laid).
  DERIVED. THE GIVEN ROWS OF THIS SEAT. 5 by the template 'for every input the law returns true; each argument reads behind the call as it read before'; 0 by the template 'total and deterministic' (their statements: YtnkgniedhmnanaaTotals.lean).
  GIVEN WITH THE SEED: the statements are not yours to turn. If you find one false, say at which input.
  Laid BY PROGRAM, IN A SANDBOX (cutbox-rows.mjs): the forced cells as the released guide's own fill.sh prints them over the translation cae9aedb4c7638ca… (all of the seat's roots in one cut). By AI agents, Wed Nov 11 2026. No macro, syntax, notation, axiom, sorry.
-/
import Derived.Test.YtnkgniedhmnanaaChecked
import GoSem.Claim
import GoSem.ClaimJoined
import GoSem.ClaimMapViews
import Derived.JoinedTies
import Derived.KernelRfl
namespace Go.Proofs.Ytnkgniedhmnanaa
/- THE CELL 'sum', in the pinned program and in every row, IS THE sha256 OF THE DUMP (.gsa) THAT YtnkgniedhmnanaaProg.lean LOADS. Nothing in Lean hashes anything: it is a label: what it is worth is what the hold of that sum in a sandbox is worth. -/
noncomputable def Try.pinned : Pinned := { name := "ytnkgniedhmnanaa", sum := "cae9aedb4c7638caafb40279105c44ded6fbfd0e933672b02a65ff6ddeaf91d7", checked := Try.checked }
namespace Rows
def none {H : Type} : Left H := { results := [], args := [] }

/-- 'basculelaw.CoinChecks': WHATEVER THE INPUT: true; the input reads as it did. -/
def coinChecksSpec : ChangeSpec := { name := "coinChecks", fn := fun _ => fun
  | [d] => { results := [.lit (.bool true)], args := [d] }
  | _ => none }
def coinChecksRow : OpenClaim := { program := "ytnkgniedhmnanaa", sum := "cae9aedb4c7638caafb40279105c44ded6fbfd0e933672b02a65ff6ddeaf91d7", func := "bascule/basculelaw.CoinChecks", spec := "coinChecks", inPlace := ["internal/bytealg.Compare", "math/bits.Add64"], apart := false }
def CoinChecksSaid : Prop := coinChecksRow.holds Try.pinned (OpenSpec.ofChange coinChecksSpec)

/-- ITS FALSE NEIGHBOUR: 'it returns false'. Refute it at one input. -/
def coinChecksWrong : ChangeSpec := { name := "coinChecks", fn := fun _ => fun
  | [d] => { results := [.lit (.bool false)], args := [d] }
  | _ => none }
def CoinChecksWrongFalsely : Prop := coinChecksRow.holds Try.pinned (OpenSpec.ofChange coinChecksWrong)

/-- 'basculelaw.CoinHolds': WHATEVER THE INPUT: true; the input reads as it did. -/
def coinHoldsSpec : ChangeSpec := { name := "coinHolds", fn := fun _ => fun
  | [d1, d2] => { results := [.lit (.bool true)], args := [d1, d2] }
  | _ => none }
def coinHoldsRow : OpenClaim := { program := "ytnkgniedhmnanaa", sum := "cae9aedb4c7638caafb40279105c44ded6fbfd0e933672b02a65ff6ddeaf91d7", func := "bascule/basculelaw.CoinHolds", spec := "coinHolds", inPlace := ["internal/bytealg.Compare", "math/bits.Add64"], unfollowed := true, recurses := true, apart := false }
def CoinHoldsSaid : Prop := coinHoldsRow.holds Try.pinned (OpenSpec.ofChange coinHoldsSpec)

/-- ITS FALSE NEIGHBOUR: 'it returns false'. Refute it at one input. -/
def coinHoldsWrong : ChangeSpec := { name := "coinHolds", fn := fun _ => fun
  | [d1, d2] => { results := [.lit (.bool false)], args := [d1, d2] }
  | _ => none }
def CoinHoldsWrongFalsely : Prop := coinHoldsRow.holds Try.pinned (OpenSpec.ofChange coinHoldsWrong)

/-- 'basculelaw.CoinMints': WHATEVER THE INPUT: true; the input reads as it did. -/
def coinMintsSpec : ChangeSpec := { name := "coinMints", fn := fun _ => fun
  | [d1, d2, d3] => { results := [.lit (.bool true)], args := [d1, d2, d3] }
  | _ => none }
def coinMintsRow : OpenClaim := { program := "ytnkgniedhmnanaa", sum := "cae9aedb4c7638caafb40279105c44ded6fbfd0e933672b02a65ff6ddeaf91d7", func := "bascule/basculelaw.CoinMints", spec := "coinMints", inPlace := ["internal/bytealg.Compare", "math/bits.Add64"], unfollowed := true, recurses := true, apart := false }
def CoinMintsSaid : Prop := coinMintsRow.holds Try.pinned (OpenSpec.ofChange coinMintsSpec)

/-- ITS FALSE NEIGHBOUR: 'it returns false'. Refute it at one input. -/
def coinMintsWrong : ChangeSpec := { name := "coinMints", fn := fun _ => fun
  | [d1, d2, d3] => { results := [.lit (.bool false)], args := [d1, d2, d3] }
  | _ => none }
def CoinMintsWrongFalsely : Prop := coinMintsRow.holds Try.pinned (OpenSpec.ofChange coinMintsWrong)

/-- 'basculelaw.CoinBurns': WHATEVER THE INPUT: true; the input reads as it did. -/
def coinBurnsSpec : ChangeSpec := { name := "coinBurns", fn := fun _ => fun
  | [d1, d2, d3] => { results := [.lit (.bool true)], args := [d1, d2, d3] }
  | _ => none }
def coinBurnsRow : OpenClaim := { program := "ytnkgniedhmnanaa", sum := "cae9aedb4c7638caafb40279105c44ded6fbfd0e933672b02a65ff6ddeaf91d7", func := "bascule/basculelaw.CoinBurns", spec := "coinBurns", inPlace := ["internal/bytealg.Compare", "math/bits.Add64", "math/bits.Sub64"], unfollowed := true, recurses := true, apart := false }
def CoinBurnsSaid : Prop := coinBurnsRow.holds Try.pinned (OpenSpec.ofChange coinBurnsSpec)

/-- ITS FALSE NEIGHBOUR: 'it returns false'. Refute it at one input. -/
def coinBurnsWrong : ChangeSpec := { name := "coinBurns", fn := fun _ => fun
  | [d1, d2, d3] => { results := [.lit (.bool false)], args := [d1, d2, d3] }
  | _ => none }
def CoinBurnsWrongFalsely : Prop := coinBurnsRow.holds Try.pinned (OpenSpec.ofChange coinBurnsWrong)

/-- 'basculelaw.CoinMoves': WHATEVER THE INPUT: true; the input reads as it did. -/
def coinMovesSpec : ChangeSpec := { name := "coinMoves", fn := fun _ => fun
  | [d1, d2, d3, d4] => { results := [.lit (.bool true)], args := [d1, d2, d3, d4] }
  | _ => none }
def coinMovesRow : OpenClaim := { program := "ytnkgniedhmnanaa", sum := "cae9aedb4c7638caafb40279105c44ded6fbfd0e933672b02a65ff6ddeaf91d7", func := "bascule/basculelaw.CoinMoves", spec := "coinMoves", inPlace := ["internal/bytealg.Compare", "math/bits.Add64", "math/bits.Sub64"], unfollowed := true, recurses := true, apart := false }
def CoinMovesSaid : Prop := coinMovesRow.holds Try.pinned (OpenSpec.ofChange coinMovesSpec)

/-- ITS FALSE NEIGHBOUR: 'it returns false'. Refute it at one input. -/
def coinMovesWrong : ChangeSpec := { name := "coinMoves", fn := fun _ => fun
  | [d1, d2, d3, d4] => { results := [.lit (.bool false)], args := [d1, d2, d3, d4] }
  | _ => none }
def CoinMovesWrongFalsely : Prop := coinMovesRow.holds Try.pinned (OpenSpec.ofChange coinMovesWrong)

/- THE SECOND FORM. 'bulk': how many values and letters a reading holds, each counted each time it is reached (what is shared counts as often as it is met; a slice's spare places count too). A statement '..UptoSaid' is the law's where the arguments, and the package variables that the reading takes, are together of bulk at most 1048576: NARROWER than '..Said'. Prove '..Said' where nothing that the law and all that it calls make is longer than what came in: it says more and counts as full. Else prove '..UptoSaid'. A law counts once. -/
mutual
def uptoBulk {H : Type} : DataW H → Nat
  | .lit (.string bytes) => bytes.length + 1
  | .lit _ => 1
  | .nil => 1
  | .ptr d => uptoBulk d + 1
  | .slice elems spare => uptoBulkAll elems + uptoBulkAll spare + 1
  | .agg parts => uptoBulkAll parts + 1
  | .iface _ d => uptoBulk d + 1
  | .map entries => uptoBulkEntries entries + 1
  | .held _ => 1
def uptoBulkAll {H : Type} : List (DataW H) → Nat
  | [] => 0
  | d :: r => uptoBulk d + uptoBulkAll r
def uptoBulkEntries {H : Type} : List (Lit × DataW H) → Nat
  | [] => 0
  | x :: r => uptoBulkEntry x + uptoBulkEntries r
def uptoBulkEntry {H : Type} : Lit × DataW H → Nat
  | (.string bytes, d) => bytes.length + uptoBulk d + 1
  | (_, d) => uptoBulk d + 1
 end
def uptoSmall : (H : Type) → List (DataW H) → Bool := fun _ ds => decide (uptoBulkAll ds ≤ 1048576)
def OpenSpec.upto (s : _root_.Go.ChangeSpec) : _root_.Go.OpenSpec := { _root_.Go.OpenSpec.ofChange s with cond := some uptoSmall }

/-- 'basculelaw.CoinChecks', WHERE WHAT IT READS IS OF BULK AT MOST 1048576: true; the input reads as it did. -/
def coinChecksUptoRow : OpenClaim := { program := "ytnkgniedhmnanaa", sum := "cae9aedb4c7638caafb40279105c44ded6fbfd0e933672b02a65ff6ddeaf91d7", func := "bascule/basculelaw.CoinChecks", spec := "coinChecks", inPlace := ["internal/bytealg.Compare", "math/bits.Add64"], apart := false, narrowed := true }
def CoinChecksUptoSaid : Prop := coinChecksUptoRow.holds Try.pinned (OpenSpec.upto coinChecksSpec)

/-- 'basculelaw.CoinHolds', WHERE WHAT IT READS IS OF BULK AT MOST 1048576: true; the input reads as it did. -/
def coinHoldsUptoRow : OpenClaim := { program := "ytnkgniedhmnanaa", sum := "cae9aedb4c7638caafb40279105c44ded6fbfd0e933672b02a65ff6ddeaf91d7", func := "bascule/basculelaw.CoinHolds", spec := "coinHolds", inPlace := ["internal/bytealg.Compare", "math/bits.Add64"], unfollowed := true, recurses := true, apart := false, narrowed := true }
def CoinHoldsUptoSaid : Prop := coinHoldsUptoRow.holds Try.pinned (OpenSpec.upto coinHoldsSpec)

/-- 'basculelaw.CoinMints', WHERE WHAT IT READS IS OF BULK AT MOST 1048576: true; the input reads as it did. -/
def coinMintsUptoRow : OpenClaim := { program := "ytnkgniedhmnanaa", sum := "cae9aedb4c7638caafb40279105c44ded6fbfd0e933672b02a65ff6ddeaf91d7", func := "bascule/basculelaw.CoinMints", spec := "coinMints", inPlace := ["internal/bytealg.Compare", "math/bits.Add64"], unfollowed := true, recurses := true, apart := false, narrowed := true }
def CoinMintsUptoSaid : Prop := coinMintsUptoRow.holds Try.pinned (OpenSpec.upto coinMintsSpec)

/-- 'basculelaw.CoinBurns', WHERE WHAT IT READS IS OF BULK AT MOST 1048576: true; the input reads as it did. -/
def coinBurnsUptoRow : OpenClaim := { program := "ytnkgniedhmnanaa", sum := "cae9aedb4c7638caafb40279105c44ded6fbfd0e933672b02a65ff6ddeaf91d7", func := "bascule/basculelaw.CoinBurns", spec := "coinBurns", inPlace := ["internal/bytealg.Compare", "math/bits.Add64", "math/bits.Sub64"], unfollowed := true, recurses := true, apart := false, narrowed := true }
def CoinBurnsUptoSaid : Prop := coinBurnsUptoRow.holds Try.pinned (OpenSpec.upto coinBurnsSpec)

/-- 'basculelaw.CoinMoves', WHERE WHAT IT READS IS OF BULK AT MOST 1048576: true; the input reads as it did. -/
def coinMovesUptoRow : OpenClaim := { program := "ytnkgniedhmnanaa", sum := "cae9aedb4c7638caafb40279105c44ded6fbfd0e933672b02a65ff6ddeaf91d7", func := "bascule/basculelaw.CoinMoves", spec := "coinMoves", inPlace := ["internal/bytealg.Compare", "math/bits.Add64", "math/bits.Sub64"], unfollowed := true, recurses := true, apart := false, narrowed := true }
def CoinMovesUptoSaid : Prop := coinMovesUptoRow.holds Try.pinned (OpenSpec.upto coinMovesSpec)

end Rows
end Go.Proofs.Ytnkgniedhmnanaa
