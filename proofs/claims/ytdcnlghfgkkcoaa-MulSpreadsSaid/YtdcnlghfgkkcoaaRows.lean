/-
  No cell of these rows narrows 'for every input' (looked for: loops, veiled, ifaces, maps, wideKeys, modest, calm, conditions, laid).
  DERIVED. THE GIVEN ROWS OF THIS SEAT. 12 by the template 'for every input the law returns true; each argument reads behind the call as it read before'; 0 by the template 'total and deterministic' (their statements: YtdcnlghfgkkcoaaTotals.lean).
  GIVEN WITH THE SEED: the statements are not yours to turn. If you find one false, say at which input.
  Laid BY PROGRAM, IN A SANDBOX (cutbox-rows.mjs): the forced cells as the released guide's own fill.sh prints them over the translation 61aa0479453b9430… (all of the seat's roots in one cut). By AI agents, Wed Nov 11 2026. No macro, syntax, notation, axiom, sorry.
-/
import Derived.Test.YtdcnlghfgkkcoaaChecked
import GoSem.Claim
import GoSem.ClaimJoined
import GoSem.ClaimMapViews
import Derived.JoinedTies
import Derived.KernelRfl
namespace Go.Proofs.Ytdcnlghfgkkcoaa
/- THE CELL 'sum', in the pinned program and in every row, IS THE sha256 OF THE DUMP (.gsa) THAT YtdcnlghfgkkcoaaProg.lean LOADS. Nothing in Lean hashes anything: it is a label: what it is worth is what the hold of that sum in a sandbox is worth. -/
noncomputable def Try.pinned : Pinned := { name := "ytdcnlghfgkkcoaa", sum := "61aa0479453b9430a0c1496b1b60432b2cc03bfce6a08a969f38621e335560ee", checked := Try.checked }
namespace Rows
def none {H : Type} : Left H := { results := [], args := [] }

/-- 'basculelaw.WideSums': WHATEVER THE INPUT: true; the input reads as it did. -/
def wideSumsSpec : ChangeSpec := { name := "wideSums", fn := fun _ => fun
  | [d1, d2] => { results := [.lit (.bool true)], args := [d1, d2] }
  | _ => none }
def wideSumsRow : OpenClaim := { program := "ytdcnlghfgkkcoaa", sum := "61aa0479453b9430a0c1496b1b60432b2cc03bfce6a08a969f38621e335560ee", func := "bascule/basculelaw.WideSums", spec := "wideSums", inPlace := ["math/bits.Add64", "math/bits.Sub64"], apart := false }
def WideSumsSaid : Prop := wideSumsRow.holds Try.pinned (OpenSpec.ofChange wideSumsSpec)

/-- ITS FALSE NEIGHBOUR: 'it returns false'. Refute it at one input. -/
def wideSumsWrong : ChangeSpec := { name := "wideSums", fn := fun _ => fun
  | [d1, d2] => { results := [.lit (.bool false)], args := [d1, d2] }
  | _ => none }
def WideSumsWrongFalsely : Prop := wideSumsRow.holds Try.pinned (OpenSpec.ofChange wideSumsWrong)

/-- 'basculelaw.WideProducts': WHATEVER THE INPUT: true; the input reads as it did. -/
def wideProductsSpec : ChangeSpec := { name := "wideProducts", fn := fun _ => fun
  | [d1, d2] => { results := [.lit (.bool true)], args := [d1, d2] }
  | _ => none }
def wideProductsRow : OpenClaim := { program := "ytdcnlghfgkkcoaa", sum := "61aa0479453b9430a0c1496b1b60432b2cc03bfce6a08a969f38621e335560ee", func := "bascule/basculelaw.WideProducts", spec := "wideProducts", inPlace := ["math/bits.Add64"], apart := false }
def WideProductsSaid : Prop := wideProductsRow.holds Try.pinned (OpenSpec.ofChange wideProductsSpec)

/-- ITS FALSE NEIGHBOUR: 'it returns false'. Refute it at one input. -/
def wideProductsWrong : ChangeSpec := { name := "wideProducts", fn := fun _ => fun
  | [d1, d2] => { results := [.lit (.bool false)], args := [d1, d2] }
  | _ => none }
def WideProductsWrongFalsely : Prop := wideProductsRow.holds Try.pinned (OpenSpec.ofChange wideProductsWrong)

/-- 'basculelaw.WideQuotients': WHATEVER THE INPUT: true; the input reads as it did. -/
def wideQuotientsSpec : ChangeSpec := { name := "wideQuotients", fn := fun _ => fun
  | [d1, d2] => { results := [.lit (.bool true)], args := [d1, d2] }
  | _ => none }
def wideQuotientsRow : OpenClaim := { program := "ytdcnlghfgkkcoaa", sum := "61aa0479453b9430a0c1496b1b60432b2cc03bfce6a08a969f38621e335560ee", func := "bascule/basculelaw.WideQuotients", spec := "wideQuotients", inPlace := ["math/bits.Add64", "math/bits.Sub64"], named := ["math/bits.divideError", "math/bits.overflowError"], apart := false }
def WideQuotientsSaid : Prop := wideQuotientsRow.holds Try.pinned (OpenSpec.ofChange wideQuotientsSpec)

/-- ITS FALSE NEIGHBOUR: 'it returns false'. Refute it at one input. -/
def wideQuotientsWrong : ChangeSpec := { name := "wideQuotients", fn := fun _ => fun
  | [d1, d2] => { results := [.lit (.bool false)], args := [d1, d2] }
  | _ => none }
def WideQuotientsWrongFalsely : Prop := wideQuotientsRow.holds Try.pinned (OpenSpec.ofChange wideQuotientsWrong)

/-- 'basculelaw.WideOrders': WHATEVER THE INPUT: true; the input reads as it did. -/
def wideOrdersSpec : ChangeSpec := { name := "wideOrders", fn := fun _ => fun
  | [d1, d2] => { results := [.lit (.bool true)], args := [d1, d2] }
  | _ => none }
def wideOrdersRow : OpenClaim := { program := "ytdcnlghfgkkcoaa", sum := "61aa0479453b9430a0c1496b1b60432b2cc03bfce6a08a969f38621e335560ee", func := "bascule/basculelaw.WideOrders", spec := "wideOrders", apart := false }
def WideOrdersSaid : Prop := wideOrdersRow.holds Try.pinned (OpenSpec.ofChange wideOrdersSpec)

/-- ITS FALSE NEIGHBOUR: 'it returns false'. Refute it at one input. -/
def wideOrdersWrong : ChangeSpec := { name := "wideOrders", fn := fun _ => fun
  | [d1, d2] => { results := [.lit (.bool false)], args := [d1, d2] }
  | _ => none }
def WideOrdersWrongFalsely : Prop := wideOrdersRow.holds Try.pinned (OpenSpec.ofChange wideOrdersWrong)

/-- 'basculelaw.WideShows': WHATEVER THE INPUT: true; the input reads as it did. -/
def wideShowsSpec : ChangeSpec := { name := "wideShows", fn := fun _ => fun
  | [d] => { results := [.lit (.bool true)], args := [d] }
  | _ => none }
def wideShowsRow : OpenClaim := { program := "ytdcnlghfgkkcoaa", sum := "61aa0479453b9430a0c1496b1b60432b2cc03bfce6a08a969f38621e335560ee", func := "bascule/basculelaw.WideShows", spec := "wideShows", named := ["math/bits.divideError", "math/bits.overflowError"], apart := false }
def WideShowsSaid : Prop := wideShowsRow.holds Try.pinned (OpenSpec.ofChange wideShowsSpec)

/-- ITS FALSE NEIGHBOUR: 'it returns false'. Refute it at one input. -/
def wideShowsWrong : ChangeSpec := { name := "wideShows", fn := fun _ => fun
  | [d] => { results := [.lit (.bool false)], args := [d] }
  | _ => none }
def WideShowsWrongFalsely : Prop := wideShowsRow.holds Try.pinned (OpenSpec.ofChange wideShowsWrong)

/-- 'basculelaw.WideParses': WHATEVER THE INPUT: true; the input reads as it did. -/
def wideParsesSpec : ChangeSpec := { name := "wideParses", fn := fun _ => fun
  | [d] => { results := [.lit (.bool true)], args := [d] }
  | _ => none }
def wideParsesRow : OpenClaim := { program := "ytdcnlghfgkkcoaa", sum := "61aa0479453b9430a0c1496b1b60432b2cc03bfce6a08a969f38621e335560ee", func := "bascule/basculelaw.WideParses", spec := "wideParses", inPlace := ["math/bits.Add64"], apart := false }
def WideParsesSaid : Prop := wideParsesRow.holds Try.pinned (OpenSpec.ofChange wideParsesSpec)

/-- ITS FALSE NEIGHBOUR: 'it returns false'. Refute it at one input. -/
def wideParsesWrong : ChangeSpec := { name := "wideParses", fn := fun _ => fun
  | [d] => { results := [.lit (.bool false)], args := [d] }
  | _ => none }
def WideParsesWrongFalsely : Prop := wideParsesRow.holds Try.pinned (OpenSpec.ofChange wideParsesWrong)

/-- 'basculelaw.WideBytes': WHATEVER THE INPUT: true; the input reads as it did. -/
def wideBytesSpec : ChangeSpec := { name := "wideBytes", fn := fun _ => fun
  | [d1, d2] => { results := [.lit (.bool true)], args := [d1, d2] }
  | _ => none }
def wideBytesRow : OpenClaim := { program := "ytdcnlghfgkkcoaa", sum := "61aa0479453b9430a0c1496b1b60432b2cc03bfce6a08a969f38621e335560ee", func := "bascule/basculelaw.WideBytes", spec := "wideBytes", apart := false }
def WideBytesSaid : Prop := wideBytesRow.holds Try.pinned (OpenSpec.ofChange wideBytesSpec)

/-- ITS FALSE NEIGHBOUR: 'it returns false'. Refute it at one input. -/
def wideBytesWrong : ChangeSpec := { name := "wideBytes", fn := fun _ => fun
  | [d1, d2] => { results := [.lit (.bool false)], args := [d1, d2] }
  | _ => none }
def WideBytesWrongFalsely : Prop := wideBytesRow.holds Try.pinned (OpenSpec.ofChange wideBytesWrong)

/-- 'basculelaw.WideTens': WHATEVER THE INPUT: true; the input reads as it did. -/
def wideTensSpec : ChangeSpec := { name := "wideTens", fn := fun _ => fun
  | [d] => { results := [.lit (.bool true)], args := [d] }
  | _ => none }
def wideTensRow : OpenClaim := { program := "ytdcnlghfgkkcoaa", sum := "61aa0479453b9430a0c1496b1b60432b2cc03bfce6a08a969f38621e335560ee", func := "bascule/basculelaw.WideTens", spec := "wideTens", inPlace := ["math/bits.Add64"], apart := false }
def WideTensSaid : Prop := wideTensRow.holds Try.pinned (OpenSpec.ofChange wideTensSpec)

/-- ITS FALSE NEIGHBOUR: 'it returns false'. Refute it at one input. -/
def wideTensWrong : ChangeSpec := { name := "wideTens", fn := fun _ => fun
  | [d] => { results := [.lit (.bool false)], args := [d] }
  | _ => none }
def WideTensWrongFalsely : Prop := wideTensRow.holds Try.pinned (OpenSpec.ofChange wideTensWrong)

/-- 'basculekeep.AddBack': WHATEVER THE INPUT: true; the input reads as it did. -/
def addBackSpec : ChangeSpec := { name := "addBack", fn := fun _ => fun
  | [d1, d2] => { results := [.lit (.bool true)], args := [d1, d2] }
  | _ => none }
def addBackRow : OpenClaim := { program := "ytdcnlghfgkkcoaa", sum := "61aa0479453b9430a0c1496b1b60432b2cc03bfce6a08a969f38621e335560ee", func := "bascule/basculekeep.AddBack", spec := "addBack", inPlace := ["math/bits.Add64", "math/bits.Sub64"], apart := false }
def AddBackSaid : Prop := addBackRow.holds Try.pinned (OpenSpec.ofChange addBackSpec)

/-- ITS FALSE NEIGHBOUR: 'it returns false'. Refute it at one input. -/
def addBackWrong : ChangeSpec := { name := "addBack", fn := fun _ => fun
  | [d1, d2] => { results := [.lit (.bool false)], args := [d1, d2] }
  | _ => none }
def AddBackWrongFalsely : Prop := addBackRow.holds Try.pinned (OpenSpec.ofChange addBackWrong)

/-- 'basculekeep.AddGroups': WHATEVER THE INPUT: true; the input reads as it did. -/
def addGroupsSpec : ChangeSpec := { name := "addGroups", fn := fun _ => fun
  | [d1, d2, d3] => { results := [.lit (.bool true)], args := [d1, d2, d3] }
  | _ => none }
def addGroupsRow : OpenClaim := { program := "ytdcnlghfgkkcoaa", sum := "61aa0479453b9430a0c1496b1b60432b2cc03bfce6a08a969f38621e335560ee", func := "bascule/basculekeep.AddGroups", spec := "addGroups", inPlace := ["math/bits.Add64"], apart := false }
def AddGroupsSaid : Prop := addGroupsRow.holds Try.pinned (OpenSpec.ofChange addGroupsSpec)

/-- ITS FALSE NEIGHBOUR: 'it returns false'. Refute it at one input. -/
def addGroupsWrong : ChangeSpec := { name := "addGroups", fn := fun _ => fun
  | [d1, d2, d3] => { results := [.lit (.bool false)], args := [d1, d2, d3] }
  | _ => none }
def AddGroupsWrongFalsely : Prop := addGroupsRow.holds Try.pinned (OpenSpec.ofChange addGroupsWrong)

/-- 'basculekeep.MulTurns': WHATEVER THE INPUT: true; the input reads as it did. -/
def mulTurnsSpec : ChangeSpec := { name := "mulTurns", fn := fun _ => fun
  | [d1, d2] => { results := [.lit (.bool true)], args := [d1, d2] }
  | _ => none }
def mulTurnsRow : OpenClaim := { program := "ytdcnlghfgkkcoaa", sum := "61aa0479453b9430a0c1496b1b60432b2cc03bfce6a08a969f38621e335560ee", func := "bascule/basculekeep.MulTurns", spec := "mulTurns", inPlace := ["math/bits.Add64"], apart := false }
def MulTurnsSaid : Prop := mulTurnsRow.holds Try.pinned (OpenSpec.ofChange mulTurnsSpec)

/-- ITS FALSE NEIGHBOUR: 'it returns false'. Refute it at one input. -/
def mulTurnsWrong : ChangeSpec := { name := "mulTurns", fn := fun _ => fun
  | [d1, d2] => { results := [.lit (.bool false)], args := [d1, d2] }
  | _ => none }
def MulTurnsWrongFalsely : Prop := mulTurnsRow.holds Try.pinned (OpenSpec.ofChange mulTurnsWrong)

/-- 'basculekeep.MulSpreads': WHATEVER THE INPUT: true; the input reads as it did. -/
def mulSpreadsSpec : ChangeSpec := { name := "mulSpreads", fn := fun _ => fun
  | [d1, d2, d3] => { results := [.lit (.bool true)], args := [d1, d2, d3] }
  | _ => none }
def mulSpreadsRow : OpenClaim := { program := "ytdcnlghfgkkcoaa", sum := "61aa0479453b9430a0c1496b1b60432b2cc03bfce6a08a969f38621e335560ee", func := "bascule/basculekeep.MulSpreads", spec := "mulSpreads", inPlace := ["math/bits.Add64"], apart := false }
def MulSpreadsSaid : Prop := mulSpreadsRow.holds Try.pinned (OpenSpec.ofChange mulSpreadsSpec)

/-- ITS FALSE NEIGHBOUR: 'it returns false'. Refute it at one input. -/
def mulSpreadsWrong : ChangeSpec := { name := "mulSpreads", fn := fun _ => fun
  | [d1, d2, d3] => { results := [.lit (.bool false)], args := [d1, d2, d3] }
  | _ => none }
def MulSpreadsWrongFalsely : Prop := mulSpreadsRow.holds Try.pinned (OpenSpec.ofChange mulSpreadsWrong)

/- THE SECOND FORM. 'bulk': how many values and letters a reading holds, each counted each time it is reached (what is shared counts as often as it is met; a slice's spare places count too). A statement '..UptoSaid' is the law's where the arguments, and the package variables that the reading takes, are together of bulk at most 1048576: NARROWER than '..Said'. Prove '..Said' where nothing that the law and all that it calls make is longer than what came in: it says more and counts as full. Else prove '..UptoSaid'. A law counts once. -/
mutual
def uptoBulk {H : Type} : DataW H → Nat
  | .lit (.string bytes) => bytes.length + 1
  | .lit _ => 1
  | .nil => 1
  | .ptr d => uptoBulk d + 1
  | .slice elems spare => uptoBulkAll elems + uptoBulkAll spare + 1
  | .agg parts => uptoBulkAll parts + 1
  | .iface _ d => uptoBulk d + 1
  | .map entries => uptoBulkEntries entries + 1
  | .held _ => 1
def uptoBulkAll {H : Type} : List (DataW H) → Nat
  | [] => 0
  | d :: r => uptoBulk d + uptoBulkAll r
def uptoBulkEntries {H : Type} : List (Lit × DataW H) → Nat
  | [] => 0
  | x :: r => uptoBulkEntry x + uptoBulkEntries r
def uptoBulkEntry {H : Type} : Lit × DataW H → Nat
  | (.string bytes, d) => bytes.length + uptoBulk d + 1
  | (_, d) => uptoBulk d + 1
 end
def uptoSmall : (H : Type) → List (DataW H) → Bool := fun _ ds => decide (uptoBulkAll ds ≤ 1048576)
def OpenSpec.upto (s : _root_.Go.ChangeSpec) : _root_.Go.OpenSpec := { _root_.Go.OpenSpec.ofChange s with cond := some uptoSmall }

/-- 'basculelaw.WideSums', WHERE WHAT IT READS IS OF BULK AT MOST 1048576: true; the input reads as it did. -/
def wideSumsUptoRow : OpenClaim := { program := "ytdcnlghfgkkcoaa", sum := "61aa0479453b9430a0c1496b1b60432b2cc03bfce6a08a969f38621e335560ee", func := "bascule/basculelaw.WideSums", spec := "wideSums", inPlace := ["math/bits.Add64", "math/bits.Sub64"], apart := false, narrowed := true }
def WideSumsUptoSaid : Prop := wideSumsUptoRow.holds Try.pinned (OpenSpec.upto wideSumsSpec)

/-- 'basculelaw.WideProducts', WHERE WHAT IT READS IS OF BULK AT MOST 1048576: true; the input reads as it did. -/
def wideProductsUptoRow : OpenClaim := { program := "ytdcnlghfgkkcoaa", sum := "61aa0479453b9430a0c1496b1b60432b2cc03bfce6a08a969f38621e335560ee", func := "bascule/basculelaw.WideProducts", spec := "wideProducts", inPlace := ["math/bits.Add64"], apart := false, narrowed := true }
def WideProductsUptoSaid : Prop := wideProductsUptoRow.holds Try.pinned (OpenSpec.upto wideProductsSpec)

/-- 'basculelaw.WideQuotients', WHERE WHAT IT READS IS OF BULK AT MOST 1048576: true; the input reads as it did. -/
def wideQuotientsUptoRow : OpenClaim := { program := "ytdcnlghfgkkcoaa", sum := "61aa0479453b9430a0c1496b1b60432b2cc03bfce6a08a969f38621e335560ee", func := "bascule/basculelaw.WideQuotients", spec := "wideQuotients", inPlace := ["math/bits.Add64", "math/bits.Sub64"], named := ["math/bits.divideError", "math/bits.overflowError"], apart := false, narrowed := true }
def WideQuotientsUptoSaid : Prop := wideQuotientsUptoRow.holds Try.pinned (OpenSpec.upto wideQuotientsSpec)

/-- 'basculelaw.WideOrders', WHERE WHAT IT READS IS OF BULK AT MOST 1048576: true; the input reads as it did. -/
def wideOrdersUptoRow : OpenClaim := { program := "ytdcnlghfgkkcoaa", sum := "61aa0479453b9430a0c1496b1b60432b2cc03bfce6a08a969f38621e335560ee", func := "bascule/basculelaw.WideOrders", spec := "wideOrders", apart := false, narrowed := true }
def WideOrdersUptoSaid : Prop := wideOrdersUptoRow.holds Try.pinned (OpenSpec.upto wideOrdersSpec)

/-- 'basculelaw.WideShows', WHERE WHAT IT READS IS OF BULK AT MOST 1048576: true; the input reads as it did. -/
def wideShowsUptoRow : OpenClaim := { program := "ytdcnlghfgkkcoaa", sum := "61aa0479453b9430a0c1496b1b60432b2cc03bfce6a08a969f38621e335560ee", func := "bascule/basculelaw.WideShows", spec := "wideShows", named := ["math/bits.divideError", "math/bits.overflowError"], apart := false, narrowed := true }
def WideShowsUptoSaid : Prop := wideShowsUptoRow.holds Try.pinned (OpenSpec.upto wideShowsSpec)

/-- 'basculelaw.WideParses', WHERE WHAT IT READS IS OF BULK AT MOST 1048576: true; the input reads as it did. -/
def wideParsesUptoRow : OpenClaim := { program := "ytdcnlghfgkkcoaa", sum := "61aa0479453b9430a0c1496b1b60432b2cc03bfce6a08a969f38621e335560ee", func := "bascule/basculelaw.WideParses", spec := "wideParses", inPlace := ["math/bits.Add64"], apart := false, narrowed := true }
def WideParsesUptoSaid : Prop := wideParsesUptoRow.holds Try.pinned (OpenSpec.upto wideParsesSpec)

/-- 'basculelaw.WideBytes', WHERE WHAT IT READS IS OF BULK AT MOST 1048576: true; the input reads as it did. -/
def wideBytesUptoRow : OpenClaim := { program := "ytdcnlghfgkkcoaa", sum := "61aa0479453b9430a0c1496b1b60432b2cc03bfce6a08a969f38621e335560ee", func := "bascule/basculelaw.WideBytes", spec := "wideBytes", apart := false, narrowed := true }
def WideBytesUptoSaid : Prop := wideBytesUptoRow.holds Try.pinned (OpenSpec.upto wideBytesSpec)

/-- 'basculelaw.WideTens', WHERE WHAT IT READS IS OF BULK AT MOST 1048576: true; the input reads as it did. -/
def wideTensUptoRow : OpenClaim := { program := "ytdcnlghfgkkcoaa", sum := "61aa0479453b9430a0c1496b1b60432b2cc03bfce6a08a969f38621e335560ee", func := "bascule/basculelaw.WideTens", spec := "wideTens", inPlace := ["math/bits.Add64"], apart := false, narrowed := true }
def WideTensUptoSaid : Prop := wideTensUptoRow.holds Try.pinned (OpenSpec.upto wideTensSpec)

/-- 'basculekeep.AddBack', WHERE WHAT IT READS IS OF BULK AT MOST 1048576: true; the input reads as it did. -/
def addBackUptoRow : OpenClaim := { program := "ytdcnlghfgkkcoaa", sum := "61aa0479453b9430a0c1496b1b60432b2cc03bfce6a08a969f38621e335560ee", func := "bascule/basculekeep.AddBack", spec := "addBack", inPlace := ["math/bits.Add64", "math/bits.Sub64"], apart := false, narrowed := true }
def AddBackUptoSaid : Prop := addBackUptoRow.holds Try.pinned (OpenSpec.upto addBackSpec)

/-- 'basculekeep.AddGroups', WHERE WHAT IT READS IS OF BULK AT MOST 1048576: true; the input reads as it did. -/
def addGroupsUptoRow : OpenClaim := { program := "ytdcnlghfgkkcoaa", sum := "61aa0479453b9430a0c1496b1b60432b2cc03bfce6a08a969f38621e335560ee", func := "bascule/basculekeep.AddGroups", spec := "addGroups", inPlace := ["math/bits.Add64"], apart := false, narrowed := true }
def AddGroupsUptoSaid : Prop := addGroupsUptoRow.holds Try.pinned (OpenSpec.upto addGroupsSpec)

/-- 'basculekeep.MulTurns', WHERE WHAT IT READS IS OF BULK AT MOST 1048576: true; the input reads as it did. -/
def mulTurnsUptoRow : OpenClaim := { program := "ytdcnlghfgkkcoaa", sum := "61aa0479453b9430a0c1496b1b60432b2cc03bfce6a08a969f38621e335560ee", func := "bascule/basculekeep.MulTurns", spec := "mulTurns", inPlace := ["math/bits.Add64"], apart := false, narrowed := true }
def MulTurnsUptoSaid : Prop := mulTurnsUptoRow.holds Try.pinned (OpenSpec.upto mulTurnsSpec)

/-- 'basculekeep.MulSpreads', WHERE WHAT IT READS IS OF BULK AT MOST 1048576: true; the input reads as it did. -/
def mulSpreadsUptoRow : OpenClaim := { program := "ytdcnlghfgkkcoaa", sum := "61aa0479453b9430a0c1496b1b60432b2cc03bfce6a08a969f38621e335560ee", func := "bascule/basculekeep.MulSpreads", spec := "mulSpreads", inPlace := ["math/bits.Add64"], apart := false, narrowed := true }
def MulSpreadsUptoSaid : Prop := mulSpreadsUptoRow.holds Try.pinned (OpenSpec.upto mulSpreadsSpec)

end Rows
end Go.Proofs.Ytdcnlghfgkkcoaa
