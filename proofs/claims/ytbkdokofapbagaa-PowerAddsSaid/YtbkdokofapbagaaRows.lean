/-
  No cell of these rows narrows 'for every input' (looked for: loops, veiled, ifaces, maps, wideKeys, modest, calm, conditions, laid).
  DERIVED. THE GIVEN ROWS OF THIS SEAT. 18 by the template 'for every input the law returns true; each argument reads behind the call as it read before'; 0 by the template 'total and deterministic' (their statements: YtbkdokofapbagaaTotals.lean).
  GIVEN WITH THE SEED: the statements are not yours to turn. If you find one false, say at which input.
  Laid BY PROGRAM, IN A SANDBOX (cutbox-rows.mjs): the forced cells as the released guide's own fill.sh prints them over the translation bbb20219d2ddd0d0… (all of the seat's roots in one cut). By AI agents, Wed Nov 11 2026. No macro, syntax, notation, axiom, sorry.
-/
import Derived.Test.YtbkdokofapbagaaChecked
import GoSem.Claim
import GoSem.ClaimJoined
import GoSem.ClaimMapViews
import Derived.JoinedTies
import Derived.KernelRfl
namespace Go.Proofs.Ytbkdokofapbagaa
/- THE CELL 'sum', in the pinned program and in every row, IS THE sha256 OF THE DUMP (.gsa) THAT YtbkdokofapbagaaProg.lean LOADS. Nothing in Lean hashes anything: it is a label: what it is worth is what the hold of that sum in a sandbox is worth. -/
noncomputable def Try.pinned : Pinned := { name := "ytbkdokofapbagaa", sum := "bbb20219d2ddd0d0e24b0f7c00c30a014b2ee65c5406a03a719d8f5177a3023e", checked := Try.checked }
namespace Rows
def none {H : Type} : Left H := { results := [], args := [] }

/-- 'basculekeep.AddBack': WHATEVER THE INPUT: true; the input reads as it did. -/
def addBackSpec : ChangeSpec := { name := "addBack", fn := fun _ => fun
  | [d1, d2] => { results := [.lit (.bool true)], args := [d1, d2] }
  | _ => none }
def addBackRow : OpenClaim := { program := "ytbkdokofapbagaa", sum := "bbb20219d2ddd0d0e24b0f7c00c30a014b2ee65c5406a03a719d8f5177a3023e", func := "bascule/basculekeep.AddBack", spec := "addBack", inPlace := ["math/bits.Add64", "math/bits.Sub64"], apart := false }
def AddBackSaid : Prop := addBackRow.holds Try.pinned (OpenSpec.ofChange addBackSpec)

/-- ITS FALSE NEIGHBOUR: 'it returns false'. Refute it at one input. -/
def addBackWrong : ChangeSpec := { name := "addBack", fn := fun _ => fun
  | [d1, d2] => { results := [.lit (.bool false)], args := [d1, d2] }
  | _ => none }
def AddBackWrongFalsely : Prop := addBackRow.holds Try.pinned (OpenSpec.ofChange addBackWrong)

/-- 'basculekeep.AddGroups': WHATEVER THE INPUT: true; the input reads as it did. -/
def addGroupsSpec : ChangeSpec := { name := "addGroups", fn := fun _ => fun
  | [d1, d2, d3] => { results := [.lit (.bool true)], args := [d1, d2, d3] }
  | _ => none }
def addGroupsRow : OpenClaim := { program := "ytbkdokofapbagaa", sum := "bbb20219d2ddd0d0e24b0f7c00c30a014b2ee65c5406a03a719d8f5177a3023e", func := "bascule/basculekeep.AddGroups", spec := "addGroups", inPlace := ["math/bits.Add64"], apart := false }
def AddGroupsSaid : Prop := addGroupsRow.holds Try.pinned (OpenSpec.ofChange addGroupsSpec)

/-- ITS FALSE NEIGHBOUR: 'it returns false'. Refute it at one input. -/
def addGroupsWrong : ChangeSpec := { name := "addGroups", fn := fun _ => fun
  | [d1, d2, d3] => { results := [.lit (.bool false)], args := [d1, d2, d3] }
  | _ => none }
def AddGroupsWrongFalsely : Prop := addGroupsRow.holds Try.pinned (OpenSpec.ofChange addGroupsWrong)

/-- 'basculekeep.MulTurns': WHATEVER THE INPUT: true; the input reads as it did. -/
def mulTurnsSpec : ChangeSpec := { name := "mulTurns", fn := fun _ => fun
  | [d1, d2] => { results := [.lit (.bool true)], args := [d1, d2] }
  | _ => none }
def mulTurnsRow : OpenClaim := { program := "ytbkdokofapbagaa", sum := "bbb20219d2ddd0d0e24b0f7c00c30a014b2ee65c5406a03a719d8f5177a3023e", func := "bascule/basculekeep.MulTurns", spec := "mulTurns", inPlace := ["math/bits.Add64"], apart := false }
def MulTurnsSaid : Prop := mulTurnsRow.holds Try.pinned (OpenSpec.ofChange mulTurnsSpec)

/-- ITS FALSE NEIGHBOUR: 'it returns false'. Refute it at one input. -/
def mulTurnsWrong : ChangeSpec := { name := "mulTurns", fn := fun _ => fun
  | [d1, d2] => { results := [.lit (.bool false)], args := [d1, d2] }
  | _ => none }
def MulTurnsWrongFalsely : Prop := mulTurnsRow.holds Try.pinned (OpenSpec.ofChange mulTurnsWrong)

/-- 'basculekeep.MulSpreads': WHATEVER THE INPUT: true; the input reads as it did. -/
def mulSpreadsSpec : ChangeSpec := { name := "mulSpreads", fn := fun _ => fun
  | [d1, d2, d3] => { results := [.lit (.bool true)], args := [d1, d2, d3] }
  | _ => none }
def mulSpreadsRow : OpenClaim := { program := "ytbkdokofapbagaa", sum := "bbb20219d2ddd0d0e24b0f7c00c30a014b2ee65c5406a03a719d8f5177a3023e", func := "bascule/basculekeep.MulSpreads", spec := "mulSpreads", inPlace := ["math/bits.Add64"], apart := false }
def MulSpreadsSaid : Prop := mulSpreadsRow.holds Try.pinned (OpenSpec.ofChange mulSpreadsSpec)

/-- ITS FALSE NEIGHBOUR: 'it returns false'. Refute it at one input. -/
def mulSpreadsWrong : ChangeSpec := { name := "mulSpreads", fn := fun _ => fun
  | [d1, d2, d3] => { results := [.lit (.bool false)], args := [d1, d2, d3] }
  | _ => none }
def MulSpreadsWrongFalsely : Prop := mulSpreadsRow.holds Try.pinned (OpenSpec.ofChange mulSpreadsWrong)

/-- 'basculekeep.MulGroups': WHATEVER THE INPUT: true; the input reads as it did. -/
def mulGroupsSpec : ChangeSpec := { name := "mulGroups", fn := fun _ => fun
  | [d1, d2, d3] => { results := [.lit (.bool true)], args := [d1, d2, d3] }
  | _ => none }
def mulGroupsRow : OpenClaim := { program := "ytbkdokofapbagaa", sum := "bbb20219d2ddd0d0e24b0f7c00c30a014b2ee65c5406a03a719d8f5177a3023e", func := "bascule/basculekeep.MulGroups", spec := "mulGroups", inPlace := ["math/bits.Add64"], apart := false }
def MulGroupsSaid : Prop := mulGroupsRow.holds Try.pinned (OpenSpec.ofChange mulGroupsSpec)

/-- ITS FALSE NEIGHBOUR: 'it returns false'. Refute it at one input. -/
def mulGroupsWrong : ChangeSpec := { name := "mulGroups", fn := fun _ => fun
  | [d1, d2, d3] => { results := [.lit (.bool false)], args := [d1, d2, d3] }
  | _ => none }
def MulGroupsWrongFalsely : Prop := mulGroupsRow.holds Try.pinned (OpenSpec.ofChange mulGroupsWrong)

/-- 'basculekeep.DivBack': WHATEVER THE INPUT: true; the input reads as it did. -/
def divBackSpec : ChangeSpec := { name := "divBack", fn := fun _ => fun
  | [d1, d2] => { results := [.lit (.bool true)], args := [d1, d2] }
  | _ => none }
def divBackRow : OpenClaim := { program := "ytbkdokofapbagaa", sum := "bbb20219d2ddd0d0e24b0f7c00c30a014b2ee65c5406a03a719d8f5177a3023e", func := "bascule/basculekeep.DivBack", spec := "divBack", inPlace := ["math/bits.Add64", "math/bits.Sub64"], named := ["math/bits.divideError", "math/bits.overflowError"], apart := false }
def DivBackSaid : Prop := divBackRow.holds Try.pinned (OpenSpec.ofChange divBackSpec)

/-- ITS FALSE NEIGHBOUR: 'it returns false'. Refute it at one input. -/
def divBackWrong : ChangeSpec := { name := "divBack", fn := fun _ => fun
  | [d1, d2] => { results := [.lit (.bool false)], args := [d1, d2] }
  | _ => none }
def DivBackWrongFalsely : Prop := divBackRow.holds Try.pinned (OpenSpec.ofChange divBackWrong)

/-- 'basculekeep.OrderSubs': WHATEVER THE INPUT: true; the input reads as it did. -/
def orderSubsSpec : ChangeSpec := { name := "orderSubs", fn := fun _ => fun
  | [d1, d2] => { results := [.lit (.bool true)], args := [d1, d2] }
  | _ => none }
def orderSubsRow : OpenClaim := { program := "ytbkdokofapbagaa", sum := "bbb20219d2ddd0d0e24b0f7c00c30a014b2ee65c5406a03a719d8f5177a3023e", func := "bascule/basculekeep.OrderSubs", spec := "orderSubs", inPlace := ["math/bits.Sub64", "math/bits.Add64"], apart := false }
def OrderSubsSaid : Prop := orderSubsRow.holds Try.pinned (OpenSpec.ofChange orderSubsSpec)

/-- ITS FALSE NEIGHBOUR: 'it returns false'. Refute it at one input. -/
def orderSubsWrong : ChangeSpec := { name := "orderSubs", fn := fun _ => fun
  | [d1, d2] => { results := [.lit (.bool false)], args := [d1, d2] }
  | _ => none }
def OrderSubsWrongFalsely : Prop := orderSubsRow.holds Try.pinned (OpenSpec.ofChange orderSubsWrong)

/-- 'basculekeep.TextBack': WHATEVER THE INPUT: true; the input reads as it did. -/
def textBackSpec : ChangeSpec := { name := "textBack", fn := fun _ => fun
  | [d] => { results := [.lit (.bool true)], args := [d] }
  | _ => none }
def textBackRow : OpenClaim := { program := "ytbkdokofapbagaa", sum := "bbb20219d2ddd0d0e24b0f7c00c30a014b2ee65c5406a03a719d8f5177a3023e", func := "bascule/basculekeep.TextBack", spec := "textBack", inPlace := ["math/bits.Add64"], named := ["math/bits.divideError", "math/bits.overflowError"], apart := false }
def TextBackSaid : Prop := textBackRow.holds Try.pinned (OpenSpec.ofChange textBackSpec)

/-- ITS FALSE NEIGHBOUR: 'it returns false'. Refute it at one input. -/
def textBackWrong : ChangeSpec := { name := "textBack", fn := fun _ => fun
  | [d] => { results := [.lit (.bool false)], args := [d] }
  | _ => none }
def TextBackWrongFalsely : Prop := textBackRow.holds Try.pinned (OpenSpec.ofChange textBackWrong)

/-- 'basculekeep.TextFixed': WHATEVER THE INPUT: true; the input reads as it did. -/
def textFixedSpec : ChangeSpec := { name := "textFixed", fn := fun _ => fun
  | [d] => { results := [.lit (.bool true)], args := [d] }
  | _ => none }
def textFixedRow : OpenClaim := { program := "ytbkdokofapbagaa", sum := "bbb20219d2ddd0d0e24b0f7c00c30a014b2ee65c5406a03a719d8f5177a3023e", func := "bascule/basculekeep.TextFixed", spec := "textFixed", inPlace := ["math/bits.Add64"], named := ["math/bits.divideError", "math/bits.overflowError"], apart := false }
def TextFixedSaid : Prop := textFixedRow.holds Try.pinned (OpenSpec.ofChange textFixedSpec)

/-- ITS FALSE NEIGHBOUR: 'it returns false'. Refute it at one input. -/
def textFixedWrong : ChangeSpec := { name := "textFixed", fn := fun _ => fun
  | [d] => { results := [.lit (.bool false)], args := [d] }
  | _ => none }
def TextFixedWrongFalsely : Prop := textFixedRow.holds Try.pinned (OpenSpec.ofChange textFixedWrong)

/-- 'basculekeep.BytesBack': WHATEVER THE INPUT: true; the input reads as it did. -/
def bytesBackSpec : ChangeSpec := { name := "bytesBack", fn := fun _ => fun
  | [d1, d2] => { results := [.lit (.bool true)], args := [d1, d2] }
  | _ => none }
def bytesBackRow : OpenClaim := { program := "ytbkdokofapbagaa", sum := "bbb20219d2ddd0d0e24b0f7c00c30a014b2ee65c5406a03a719d8f5177a3023e", func := "bascule/basculekeep.BytesBack", spec := "bytesBack", inPlace := ["math/bits.Add64"], apart := false }
def BytesBackSaid : Prop := bytesBackRow.holds Try.pinned (OpenSpec.ofChange bytesBackSpec)

/-- ITS FALSE NEIGHBOUR: 'it returns false'. Refute it at one input. -/
def bytesBackWrong : ChangeSpec := { name := "bytesBack", fn := fun _ => fun
  | [d1, d2] => { results := [.lit (.bool false)], args := [d1, d2] }
  | _ => none }
def BytesBackWrongFalsely : Prop := bytesBackRow.holds Try.pinned (OpenSpec.ofChange bytesBackWrong)

/-- 'basculekeep.TenTimes': WHATEVER THE INPUT: true; the input reads as it did. -/
def tenTimesSpec : ChangeSpec := { name := "tenTimes", fn := fun _ => fun
  | [d1, d2] => { results := [.lit (.bool true)], args := [d1, d2] }
  | _ => none }
def tenTimesRow : OpenClaim := { program := "ytbkdokofapbagaa", sum := "bbb20219d2ddd0d0e24b0f7c00c30a014b2ee65c5406a03a719d8f5177a3023e", func := "bascule/basculekeep.TenTimes", spec := "tenTimes", inPlace := ["math/bits.Add64"], apart := false }
def TenTimesSaid : Prop := tenTimesRow.holds Try.pinned (OpenSpec.ofChange tenTimesSpec)

/-- ITS FALSE NEIGHBOUR: 'it returns false'. Refute it at one input. -/
def tenTimesWrong : ChangeSpec := { name := "tenTimes", fn := fun _ => fun
  | [d1, d2] => { results := [.lit (.bool false)], args := [d1, d2] }
  | _ => none }
def TenTimesWrongFalsely : Prop := tenTimesRow.holds Try.pinned (OpenSpec.ofChange tenTimesWrong)

/-- 'basculekeep.FieldTurns': WHATEVER THE INPUT: true; the input reads as it did. -/
def fieldTurnsSpec : ChangeSpec := { name := "fieldTurns", fn := fun _ => fun
  | [d1, d2, d3] => { results := [.lit (.bool true)], args := [d1, d2, d3] }
  | _ => none }
def fieldTurnsRow : OpenClaim := { program := "ytbkdokofapbagaa", sum := "bbb20219d2ddd0d0e24b0f7c00c30a014b2ee65c5406a03a719d8f5177a3023e", func := "bascule/basculekeep.FieldTurns", spec := "fieldTurns", inPlace := ["math/bits.Add64", "math/bits.Sub64"], unfollowed := true, recurses := true, named := ["math/bits.divideError", "math/bits.overflowError"], apart := false }
def FieldTurnsSaid : Prop := fieldTurnsRow.holds Try.pinned (OpenSpec.ofChange fieldTurnsSpec)

/-- ITS FALSE NEIGHBOUR: 'it returns false'. Refute it at one input. -/
def fieldTurnsWrong : ChangeSpec := { name := "fieldTurns", fn := fun _ => fun
  | [d1, d2, d3] => { results := [.lit (.bool false)], args := [d1, d2, d3] }
  | _ => none }
def FieldTurnsWrongFalsely : Prop := fieldTurnsRow.holds Try.pinned (OpenSpec.ofChange fieldTurnsWrong)

/-- 'basculekeep.FieldGroups': WHATEVER THE INPUT: true; the input reads as it did. -/
def fieldGroupsSpec : ChangeSpec := { name := "fieldGroups", fn := fun _ => fun
  | [d1, d2, d3, d4] => { results := [.lit (.bool true)], args := [d1, d2, d3, d4] }
  | _ => none }
def fieldGroupsRow : OpenClaim := { program := "ytbkdokofapbagaa", sum := "bbb20219d2ddd0d0e24b0f7c00c30a014b2ee65c5406a03a719d8f5177a3023e", func := "bascule/basculekeep.FieldGroups", spec := "fieldGroups", inPlace := ["math/bits.Add64", "math/bits.Sub64"], unfollowed := true, recurses := true, named := ["math/bits.divideError", "math/bits.overflowError"], apart := false }
def FieldGroupsSaid : Prop := fieldGroupsRow.holds Try.pinned (OpenSpec.ofChange fieldGroupsSpec)

/-- ITS FALSE NEIGHBOUR: 'it returns false'. Refute it at one input. -/
def fieldGroupsWrong : ChangeSpec := { name := "fieldGroups", fn := fun _ => fun
  | [d1, d2, d3, d4] => { results := [.lit (.bool false)], args := [d1, d2, d3, d4] }
  | _ => none }
def FieldGroupsWrongFalsely : Prop := fieldGroupsRow.holds Try.pinned (OpenSpec.ofChange fieldGroupsWrong)

/-- 'basculekeep.FieldSpreads': WHATEVER THE INPUT: true; the input reads as it did. -/
def fieldSpreadsSpec : ChangeSpec := { name := "fieldSpreads", fn := fun _ => fun
  | [d1, d2, d3, d4] => { results := [.lit (.bool true)], args := [d1, d2, d3, d4] }
  | _ => none }
def fieldSpreadsRow : OpenClaim := { program := "ytbkdokofapbagaa", sum := "bbb20219d2ddd0d0e24b0f7c00c30a014b2ee65c5406a03a719d8f5177a3023e", func := "bascule/basculekeep.FieldSpreads", spec := "fieldSpreads", inPlace := ["math/bits.Add64", "math/bits.Sub64"], unfollowed := true, recurses := true, named := ["math/bits.divideError", "math/bits.overflowError"], apart := false }
def FieldSpreadsSaid : Prop := fieldSpreadsRow.holds Try.pinned (OpenSpec.ofChange fieldSpreadsSpec)

/-- ITS FALSE NEIGHBOUR: 'it returns false'. Refute it at one input. -/
def fieldSpreadsWrong : ChangeSpec := { name := "fieldSpreads", fn := fun _ => fun
  | [d1, d2, d3, d4] => { results := [.lit (.bool false)], args := [d1, d2, d3, d4] }
  | _ => none }
def FieldSpreadsWrongFalsely : Prop := fieldSpreadsRow.holds Try.pinned (OpenSpec.ofChange fieldSpreadsWrong)

/-- 'basculekeep.PowerAdds': WHATEVER THE INPUT: true; the input reads as it did. -/
def powerAddsSpec : ChangeSpec := { name := "powerAdds", fn := fun _ => fun
  | [d1, d2, d3, d4, d5] => { results := [.lit (.bool true)], args := [d1, d2, d3, d4, d5] }
  | _ => none }
def powerAddsRow : OpenClaim := { program := "ytbkdokofapbagaa", sum := "bbb20219d2ddd0d0e24b0f7c00c30a014b2ee65c5406a03a719d8f5177a3023e", func := "bascule/basculekeep.PowerAdds", spec := "powerAdds", inPlace := ["math/bits.Add64", "math/bits.Sub64"], unfollowed := true, recurses := true, named := ["math/bits.divideError", "math/bits.overflowError"], apart := false }
def PowerAddsSaid : Prop := powerAddsRow.holds Try.pinned (OpenSpec.ofChange powerAddsSpec)

/-- ITS FALSE NEIGHBOUR: 'it returns false'. Refute it at one input. -/
def powerAddsWrong : ChangeSpec := { name := "powerAdds", fn := fun _ => fun
  | [d1, d2, d3, d4, d5] => { results := [.lit (.bool false)], args := [d1, d2, d3, d4, d5] }
  | _ => none }
def PowerAddsWrongFalsely : Prop := powerAddsRow.holds Try.pinned (OpenSpec.ofChange powerAddsWrong)

/-- 'basculekeep.InverseBack': WHATEVER THE INPUT: true; the input reads as it did. -/
def inverseBackSpec : ChangeSpec := { name := "inverseBack", fn := fun _ => fun
  | [d1, d2] => { results := [.lit (.bool true)], args := [d1, d2] }
  | _ => none }
def inverseBackRow : OpenClaim := { program := "ytbkdokofapbagaa", sum := "bbb20219d2ddd0d0e24b0f7c00c30a014b2ee65c5406a03a719d8f5177a3023e", func := "bascule/basculekeep.InverseBack", spec := "inverseBack", inPlace := ["math/bits.Add64", "math/bits.Sub64"], unfollowed := true, recurses := true, named := ["math/bits.divideError", "math/bits.overflowError"], apart := false }
def InverseBackSaid : Prop := inverseBackRow.holds Try.pinned (OpenSpec.ofChange inverseBackSpec)

/-- ITS FALSE NEIGHBOUR: 'it returns false'. Refute it at one input. -/
def inverseBackWrong : ChangeSpec := { name := "inverseBack", fn := fun _ => fun
  | [d1, d2] => { results := [.lit (.bool false)], args := [d1, d2] }
  | _ => none }
def InverseBackWrongFalsely : Prop := inverseBackRow.holds Try.pinned (OpenSpec.ofChange inverseBackWrong)

/-- 'basculekeep.InverseNone': WHATEVER THE INPUT: true; the input reads as it did. -/
def inverseNoneSpec : ChangeSpec := { name := "inverseNone", fn := fun _ => fun
  | [d1, d2, d3] => { results := [.lit (.bool true)], args := [d1, d2, d3] }
  | _ => none }
def inverseNoneRow : OpenClaim := { program := "ytbkdokofapbagaa", sum := "bbb20219d2ddd0d0e24b0f7c00c30a014b2ee65c5406a03a719d8f5177a3023e", func := "bascule/basculekeep.InverseNone", spec := "inverseNone", inPlace := ["math/bits.Add64", "math/bits.Sub64"], named := ["math/bits.divideError", "math/bits.overflowError"], apart := false }
def InverseNoneSaid : Prop := inverseNoneRow.holds Try.pinned (OpenSpec.ofChange inverseNoneSpec)

/-- ITS FALSE NEIGHBOUR: 'it returns false'. Refute it at one input. -/
def inverseNoneWrong : ChangeSpec := { name := "inverseNone", fn := fun _ => fun
  | [d1, d2, d3] => { results := [.lit (.bool false)], args := [d1, d2, d3] }
  | _ => none }
def InverseNoneWrongFalsely : Prop := inverseNoneRow.holds Try.pinned (OpenSpec.ofChange inverseNoneWrong)

/-- 'basculekeep.PowerPrime': WHATEVER THE INPUT: true; the input reads as it did. -/
def powerPrimeSpec : ChangeSpec := { name := "powerPrime", fn := fun _ => fun
  | [d1, d2] => { results := [.lit (.bool true)], args := [d1, d2] }
  | _ => none }
def powerPrimeRow : OpenClaim := { program := "ytbkdokofapbagaa", sum := "bbb20219d2ddd0d0e24b0f7c00c30a014b2ee65c5406a03a719d8f5177a3023e", func := "bascule/basculekeep.PowerPrime", spec := "powerPrime", inPlace := ["math/bits.Add64", "math/bits.Sub64"], unfollowed := true, recurses := true, named := ["math/bits.divideError", "math/bits.overflowError"], apart := false }
def PowerPrimeSaid : Prop := powerPrimeRow.holds Try.pinned (OpenSpec.ofChange powerPrimeSpec)

/-- ITS FALSE NEIGHBOUR: 'it returns false'. Refute it at one input. -/
def powerPrimeWrong : ChangeSpec := { name := "powerPrime", fn := fun _ => fun
  | [d1, d2] => { results := [.lit (.bool false)], args := [d1, d2] }
  | _ => none }
def PowerPrimeWrongFalsely : Prop := powerPrimeRow.holds Try.pinned (OpenSpec.ofChange powerPrimeWrong)

/- THE SECOND FORM. 'bulk': how many values and letters a reading holds, each counted each time it is reached (what is shared counts as often as it is met; a slice's spare places count too). A statement '..UptoSaid' is the law's where the arguments, and the package variables that the reading takes, are together of bulk at most 1048576: NARROWER than '..Said'. Prove '..Said' where nothing that the law and all that it calls make is longer than what came in: it says more and counts as full. Else prove '..UptoSaid'. A law counts once. -/
mutual
def uptoBulk {H : Type} : DataW H → Nat
  | .lit (.string bytes) => bytes.length + 1
  | .lit _ => 1
  | .nil => 1
  | .ptr d => uptoBulk d + 1
  | .slice elems spare => uptoBulkAll elems + uptoBulkAll spare + 1
  | .agg parts => uptoBulkAll parts + 1
  | .iface _ d => uptoBulk d + 1
  | .map entries => uptoBulkEntries entries + 1
  | .held _ => 1
def uptoBulkAll {H : Type} : List (DataW H) → Nat
  | [] => 0
  | d :: r => uptoBulk d + uptoBulkAll r
def uptoBulkEntries {H : Type} : List (Lit × DataW H) → Nat
  | [] => 0
  | x :: r => uptoBulkEntry x + uptoBulkEntries r
def uptoBulkEntry {H : Type} : Lit × DataW H → Nat
  | (.string bytes, d) => bytes.length + uptoBulk d + 1
  | (_, d) => uptoBulk d + 1
 end
def uptoSmall : (H : Type) → List (DataW H) → Bool := fun _ ds => decide (uptoBulkAll ds ≤ 1048576)
def OpenSpec.upto (s : _root_.Go.ChangeSpec) : _root_.Go.OpenSpec := { _root_.Go.OpenSpec.ofChange s with cond := some uptoSmall }

/-- 'basculekeep.AddBack', WHERE WHAT IT READS IS OF BULK AT MOST 1048576: true; the input reads as it did. -/
def addBackUptoRow : OpenClaim := { program := "ytbkdokofapbagaa", sum := "bbb20219d2ddd0d0e24b0f7c00c30a014b2ee65c5406a03a719d8f5177a3023e", func := "bascule/basculekeep.AddBack", spec := "addBack", inPlace := ["math/bits.Add64", "math/bits.Sub64"], apart := false, narrowed := true }
def AddBackUptoSaid : Prop := addBackUptoRow.holds Try.pinned (OpenSpec.upto addBackSpec)

/-- 'basculekeep.AddGroups', WHERE WHAT IT READS IS OF BULK AT MOST 1048576: true; the input reads as it did. -/
def addGroupsUptoRow : OpenClaim := { program := "ytbkdokofapbagaa", sum := "bbb20219d2ddd0d0e24b0f7c00c30a014b2ee65c5406a03a719d8f5177a3023e", func := "bascule/basculekeep.AddGroups", spec := "addGroups", inPlace := ["math/bits.Add64"], apart := false, narrowed := true }
def AddGroupsUptoSaid : Prop := addGroupsUptoRow.holds Try.pinned (OpenSpec.upto addGroupsSpec)

/-- 'basculekeep.MulTurns', WHERE WHAT IT READS IS OF BULK AT MOST 1048576: true; the input reads as it did. -/
def mulTurnsUptoRow : OpenClaim := { program := "ytbkdokofapbagaa", sum := "bbb20219d2ddd0d0e24b0f7c00c30a014b2ee65c5406a03a719d8f5177a3023e", func := "bascule/basculekeep.MulTurns", spec := "mulTurns", inPlace := ["math/bits.Add64"], apart := false, narrowed := true }
def MulTurnsUptoSaid : Prop := mulTurnsUptoRow.holds Try.pinned (OpenSpec.upto mulTurnsSpec)

/-- 'basculekeep.MulSpreads', WHERE WHAT IT READS IS OF BULK AT MOST 1048576: true; the input reads as it did. -/
def mulSpreadsUptoRow : OpenClaim := { program := "ytbkdokofapbagaa", sum := "bbb20219d2ddd0d0e24b0f7c00c30a014b2ee65c5406a03a719d8f5177a3023e", func := "bascule/basculekeep.MulSpreads", spec := "mulSpreads", inPlace := ["math/bits.Add64"], apart := false, narrowed := true }
def MulSpreadsUptoSaid : Prop := mulSpreadsUptoRow.holds Try.pinned (OpenSpec.upto mulSpreadsSpec)

/-- 'basculekeep.MulGroups', WHERE WHAT IT READS IS OF BULK AT MOST 1048576: true; the input reads as it did. -/
def mulGroupsUptoRow : OpenClaim := { program := "ytbkdokofapbagaa", sum := "bbb20219d2ddd0d0e24b0f7c00c30a014b2ee65c5406a03a719d8f5177a3023e", func := "bascule/basculekeep.MulGroups", spec := "mulGroups", inPlace := ["math/bits.Add64"], apart := false, narrowed := true }
def MulGroupsUptoSaid : Prop := mulGroupsUptoRow.holds Try.pinned (OpenSpec.upto mulGroupsSpec)

/-- 'basculekeep.DivBack', WHERE WHAT IT READS IS OF BULK AT MOST 1048576: true; the input reads as it did. -/
def divBackUptoRow : OpenClaim := { program := "ytbkdokofapbagaa", sum := "bbb20219d2ddd0d0e24b0f7c00c30a014b2ee65c5406a03a719d8f5177a3023e", func := "bascule/basculekeep.DivBack", spec := "divBack", inPlace := ["math/bits.Add64", "math/bits.Sub64"], named := ["math/bits.divideError", "math/bits.overflowError"], apart := false, narrowed := true }
def DivBackUptoSaid : Prop := divBackUptoRow.holds Try.pinned (OpenSpec.upto divBackSpec)

/-- 'basculekeep.OrderSubs', WHERE WHAT IT READS IS OF BULK AT MOST 1048576: true; the input reads as it did. -/
def orderSubsUptoRow : OpenClaim := { program := "ytbkdokofapbagaa", sum := "bbb20219d2ddd0d0e24b0f7c00c30a014b2ee65c5406a03a719d8f5177a3023e", func := "bascule/basculekeep.OrderSubs", spec := "orderSubs", inPlace := ["math/bits.Sub64", "math/bits.Add64"], apart := false, narrowed := true }
def OrderSubsUptoSaid : Prop := orderSubsUptoRow.holds Try.pinned (OpenSpec.upto orderSubsSpec)

/-- 'basculekeep.TextBack', WHERE WHAT IT READS IS OF BULK AT MOST 1048576: true; the input reads as it did. -/
def textBackUptoRow : OpenClaim := { program := "ytbkdokofapbagaa", sum := "bbb20219d2ddd0d0e24b0f7c00c30a014b2ee65c5406a03a719d8f5177a3023e", func := "bascule/basculekeep.TextBack", spec := "textBack", inPlace := ["math/bits.Add64"], named := ["math/bits.divideError", "math/bits.overflowError"], apart := false, narrowed := true }
def TextBackUptoSaid : Prop := textBackUptoRow.holds Try.pinned (OpenSpec.upto textBackSpec)

/-- 'basculekeep.TextFixed', WHERE WHAT IT READS IS OF BULK AT MOST 1048576: true; the input reads as it did. -/
def textFixedUptoRow : OpenClaim := { program := "ytbkdokofapbagaa", sum := "bbb20219d2ddd0d0e24b0f7c00c30a014b2ee65c5406a03a719d8f5177a3023e", func := "bascule/basculekeep.TextFixed", spec := "textFixed", inPlace := ["math/bits.Add64"], named := ["math/bits.divideError", "math/bits.overflowError"], apart := false, narrowed := true }
def TextFixedUptoSaid : Prop := textFixedUptoRow.holds Try.pinned (OpenSpec.upto textFixedSpec)

/-- 'basculekeep.BytesBack', WHERE WHAT IT READS IS OF BULK AT MOST 1048576: true; the input reads as it did. -/
def bytesBackUptoRow : OpenClaim := { program := "ytbkdokofapbagaa", sum := "bbb20219d2ddd0d0e24b0f7c00c30a014b2ee65c5406a03a719d8f5177a3023e", func := "bascule/basculekeep.BytesBack", spec := "bytesBack", inPlace := ["math/bits.Add64"], apart := false, narrowed := true }
def BytesBackUptoSaid : Prop := bytesBackUptoRow.holds Try.pinned (OpenSpec.upto bytesBackSpec)

/-- 'basculekeep.TenTimes', WHERE WHAT IT READS IS OF BULK AT MOST 1048576: true; the input reads as it did. -/
def tenTimesUptoRow : OpenClaim := { program := "ytbkdokofapbagaa", sum := "bbb20219d2ddd0d0e24b0f7c00c30a014b2ee65c5406a03a719d8f5177a3023e", func := "bascule/basculekeep.TenTimes", spec := "tenTimes", inPlace := ["math/bits.Add64"], apart := false, narrowed := true }
def TenTimesUptoSaid : Prop := tenTimesUptoRow.holds Try.pinned (OpenSpec.upto tenTimesSpec)

/-- 'basculekeep.FieldTurns', WHERE WHAT IT READS IS OF BULK AT MOST 1048576: true; the input reads as it did. -/
def fieldTurnsUptoRow : OpenClaim := { program := "ytbkdokofapbagaa", sum := "bbb20219d2ddd0d0e24b0f7c00c30a014b2ee65c5406a03a719d8f5177a3023e", func := "bascule/basculekeep.FieldTurns", spec := "fieldTurns", inPlace := ["math/bits.Add64", "math/bits.Sub64"], unfollowed := true, recurses := true, named := ["math/bits.divideError", "math/bits.overflowError"], apart := false, narrowed := true }
def FieldTurnsUptoSaid : Prop := fieldTurnsUptoRow.holds Try.pinned (OpenSpec.upto fieldTurnsSpec)

/-- 'basculekeep.FieldGroups', WHERE WHAT IT READS IS OF BULK AT MOST 1048576: true; the input reads as it did. -/
def fieldGroupsUptoRow : OpenClaim := { program := "ytbkdokofapbagaa", sum := "bbb20219d2ddd0d0e24b0f7c00c30a014b2ee65c5406a03a719d8f5177a3023e", func := "bascule/basculekeep.FieldGroups", spec := "fieldGroups", inPlace := ["math/bits.Add64", "math/bits.Sub64"], unfollowed := true, recurses := true, named := ["math/bits.divideError", "math/bits.overflowError"], apart := false, narrowed := true }
def FieldGroupsUptoSaid : Prop := fieldGroupsUptoRow.holds Try.pinned (OpenSpec.upto fieldGroupsSpec)

/-- 'basculekeep.FieldSpreads', WHERE WHAT IT READS IS OF BULK AT MOST 1048576: true; the input reads as it did. -/
def fieldSpreadsUptoRow : OpenClaim := { program := "ytbkdokofapbagaa", sum := "bbb20219d2ddd0d0e24b0f7c00c30a014b2ee65c5406a03a719d8f5177a3023e", func := "bascule/basculekeep.FieldSpreads", spec := "fieldSpreads", inPlace := ["math/bits.Add64", "math/bits.Sub64"], unfollowed := true, recurses := true, named := ["math/bits.divideError", "math/bits.overflowError"], apart := false, narrowed := true }
def FieldSpreadsUptoSaid : Prop := fieldSpreadsUptoRow.holds Try.pinned (OpenSpec.upto fieldSpreadsSpec)

/-- 'basculekeep.PowerAdds', WHERE WHAT IT READS IS OF BULK AT MOST 1048576: true; the input reads as it did. -/
def powerAddsUptoRow : OpenClaim := { program := "ytbkdokofapbagaa", sum := "bbb20219d2ddd0d0e24b0f7c00c30a014b2ee65c5406a03a719d8f5177a3023e", func := "bascule/basculekeep.PowerAdds", spec := "powerAdds", inPlace := ["math/bits.Add64", "math/bits.Sub64"], unfollowed := true, recurses := true, named := ["math/bits.divideError", "math/bits.overflowError"], apart := false, narrowed := true }
def PowerAddsUptoSaid : Prop := powerAddsUptoRow.holds Try.pinned (OpenSpec.upto powerAddsSpec)

/-- 'basculekeep.InverseBack', WHERE WHAT IT READS IS OF BULK AT MOST 1048576: true; the input reads as it did. -/
def inverseBackUptoRow : OpenClaim := { program := "ytbkdokofapbagaa", sum := "bbb20219d2ddd0d0e24b0f7c00c30a014b2ee65c5406a03a719d8f5177a3023e", func := "bascule/basculekeep.InverseBack", spec := "inverseBack", inPlace := ["math/bits.Add64", "math/bits.Sub64"], unfollowed := true, recurses := true, named := ["math/bits.divideError", "math/bits.overflowError"], apart := false, narrowed := true }
def InverseBackUptoSaid : Prop := inverseBackUptoRow.holds Try.pinned (OpenSpec.upto inverseBackSpec)

/-- 'basculekeep.InverseNone', WHERE WHAT IT READS IS OF BULK AT MOST 1048576: true; the input reads as it did. -/
def inverseNoneUptoRow : OpenClaim := { program := "ytbkdokofapbagaa", sum := "bbb20219d2ddd0d0e24b0f7c00c30a014b2ee65c5406a03a719d8f5177a3023e", func := "bascule/basculekeep.InverseNone", spec := "inverseNone", inPlace := ["math/bits.Add64", "math/bits.Sub64"], named := ["math/bits.divideError", "math/bits.overflowError"], apart := false, narrowed := true }
def InverseNoneUptoSaid : Prop := inverseNoneUptoRow.holds Try.pinned (OpenSpec.upto inverseNoneSpec)

/-- 'basculekeep.PowerPrime', WHERE WHAT IT READS IS OF BULK AT MOST 1048576: true; the input reads as it did. -/
def powerPrimeUptoRow : OpenClaim := { program := "ytbkdokofapbagaa", sum := "bbb20219d2ddd0d0e24b0f7c00c30a014b2ee65c5406a03a719d8f5177a3023e", func := "bascule/basculekeep.PowerPrime", spec := "powerPrime", inPlace := ["math/bits.Add64", "math/bits.Sub64"], unfollowed := true, recurses := true, named := ["math/bits.divideError", "math/bits.overflowError"], apart := false, narrowed := true }
def PowerPrimeUptoSaid : Prop := powerPrimeUptoRow.holds Try.pinned (OpenSpec.upto powerPrimeSpec)

end Rows
end Go.Proofs.Ytbkdokofapbagaa
