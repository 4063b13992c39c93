/-
  Texts: V70, P115, P116, V71, P117, V76, P121, P122.
-/
import Derived.Test.YteimeidpcgebkaaM1
import Derived.Test.YteimeidpcgebkaaM2
import Derived.Test.YteimeidpcgebkaaM3
import Derived.Test.YteimeidpcgebkaaM4
import Derived.Test.YteimeidpcgebkaaM5
import Derived.Test.YteimeidpcgebkaaM6
import Derived.Test.YteimeidpcgebkaaM7
import Derived.Test.YteimeidpcgebkaaM8
import Derived.Test.YteimeidpcgebkaaM9
import Derived.Test.YteimeidpcgebkaaM10
import Derived.Test.YteimeidpcgebkaaM11
import Derived.Test.YteimeidpcgebkaaM12
import Derived.Test.YteimeidpcgebkaaM13
import Derived.Test.YteimeidpcgebkaaM14
section
namespace Go.Proofs.Yteimeidpcgebkaa
open Go Go.Sx Go.RowKit
set_option maxRecDepth 100000
def rivC (k a m : Nat) : List Prop := [m % M256 < k, a % M256 < m % M256]
def rivG (X : Nat → Nat → Nat) (B : Nat → Nat → Bool) (a m : Nat) : SV := .tup [sU (X a m), sB (B a m)]
def cxRIv (X : Nat → Nat → Nat) (B : Nat → Nat → Bool) (k : Nat) : Cx := [(1000000008, fun _ => none), (32, specUU quoG), (44, specUUC (rivC k) (rivG X B)), (35, specUUC oppC oppG)]
def pxU (a : Addr) (n : Nat) : SV := .one (.sc (.px a 4 fun c => (SK.u n).cells.getD c (.bit false)))
def zU4 : List SK := List.replicate 4 (.c (.num .u64 0))
def cutRI (m q s : Nat) (P : Nat → (Nat → Int) → Prop) : Inv where
 X := Addr × Option Addr × Nat × Nat × (Nat → Int)
 tm y := slotsAt 67 [(3, pxU y.1 m), (4, .one (.sc (.ptr 0 0))), (6, .one (.sc (.ptr 1 0))), (9, .one (.sc (.ptr 3 0))), (11, .one (xsI y.2.1 y.2.2.1 y.2.2.2.1 .u64 y.2.2.2.2))]
 ob _ := [.cells 24 zU4 0, .cells 24 [.u q] 0, .dead, .cells 24 [.u s] 0, .dead]
 holds y := P y.2.2.1 y.2.2.2.2
 less _ := 0
set_option maxHeartbeats 4000000 in
theorem vc_refInv (a m : Nat) (X : Nat → Nat → Nat) (B : Nat → Nat → Bool) (k q s : Nat) (P : Nat → (Nat → Int) → Prop) :
  OwesV Try.prog (cxRIv X B k) slRest [(11, .cut (cutRI m q s P) (fun _ _ => True))] 8 Try.f44 [sU a, sU m] (rivG X B a m) =
  (let x1 : Nat := X a m % M256; let x2 : Nat := join (limb a 0) (limb a 1) (limb a 2) (limb a 3); let x3 : Nat := x2 % M256; let x4 : Nat := join (limb m 0) (limb m 1) (limb m 2) (limb m 3) % M256; let x5 : Nat := if x3 = 0 then 0 else x4 % x3; let x6 : Nat := x5 % M256; let x7 : Nat := q % M256; let x8 : Nat := s % M256; let x9 : Nat := X x5 x2 % M256; let x10 : Nat := vn 16 fun (i : Nat) => dg ((vn 8 fun (i : Nat) => dg x6 i) * vn 8 fun (i : Nat) => dg x9 i) i; let x11 : Nat := vn 8 fun (i : Nat) => dg x3 i; let x12 : Nat := vn 16 fun (i : Nat) => dg (x10 - 1) i; let x13 : Nat := remL x12 x11 16; ∀ (a_1 a_2 : Go.Addr), (conj [limb m 0 == (1 : Int), limb m 1 == (0 : Int), limb m 2 == (0 : Int), limb m 3 == (0 : Int)] = Bool.true → (0 = x1 ∧ True) ∧ Bool.true = B a m) ∧ (conj [limb m 0 == (1 : Int), limb m 1 == (0 : Int), limb m 2 == (0 : Int), limb m 3 == (0 : Int)] = Bool.false → (conj [limb a 0 == (0 : Int), limb a 1 == (0 : Int), limb a 2 == (0 : Int), limb a 3 == (0 : Int)] = Bool.true → (0 = x1 ∧ True) ∧ Bool.false = B a m) ∧ (conj [limb a 0 == (0 : Int), limb a 1 == (0 : Int), limb a 2 == (0 : Int), limb a 3 == (0 : Int)] = Bool.false → (conj [limb a 0 == (1 : Int), limb a 1 == (0 : Int), limb a 2 == (0 : Int), limb a 3 == (0 : Int)] = Bool.true → (((0 : Int) ≤ limb a 0 ∧ limb a 0 < (18446744073709551616 : Int)) ∧ ((0 : Int) ≤ limb a 1 ∧ limb a 1 < (18446744073709551616 : Int)) ∧ ((0 : Int) ≤ limb a 2 ∧ limb a 2 < (18446744073709551616 : Int)) ∧ ((0 : Int) ≤ limb a 3 ∧ limb a 3 < (18446744073709551616 : Int)) ∧ x3 = x1 ∧ True) ∧ Bool.true = B a m) ∧ (conj [limb a 0 == (1 : Int), limb a 1 == (0 : Int), limb a 2 == (0 : Int), limb a 3 == (0 : Int)] = Bool.false → ((0 : Int) ≤ limb m 0 ∧ limb m 0 < (18446744073709551616 : Int)) ∧ ((0 : Int) ≤ limb m 1 ∧ limb m 1 < (18446744073709551616 : Int)) ∧ ((0 : Int) ≤ limb m 2 ∧ limb m 2 < (18446744073709551616 : Int)) ∧ ((0 : Int) ≤ limb m 3 ∧ limb m 3 < (18446744073709551616 : Int)) ∧ ((0 : Int) ≤ limb a 0 ∧ limb a 0 < (18446744073709551616 : Int)) ∧ ((0 : Int) ≤ limb a 1 ∧ limb a 1 < (18446744073709551616 : Int)) ∧ ((0 : Int) ≤ limb a 2 ∧ limb a 2 < (18446744073709551616 : Int)) ∧ ((0 : Int) ≤ limb a 3 ∧ limb a 3 < (18446744073709551616 : Int)) ∧ ((0 : Int) ≤ limb a 0 ∧ limb a 0 < (18446744073709551616 : Int)) ∧ ((0 : Int) ≤ limb a 1 ∧ limb a 1 < (18446744073709551616 : Int)) ∧ ((0 : Int) ≤ limb a 2 ∧ limb a 2 < (18446744073709551616 : Int)) ∧ ((0 : Int) ≤ limb a 3 ∧ limb a 3 < (18446744073709551616 : Int)) ∧ x3 < k ∧ x6 < x3 ∧ ((!B x5 x2) = Bool.true → (0 = x1 ∧ True) ∧ Bool.false = B a m) ∧ ((!B x5 x2) = Bool.false → (∀ (y : Go.Addr × Option Go.Addr × Nat × Nat × (Nat → Int)), closedB (slotsAt 67 [(3, pxU y.fst m), (4, SV.one (SA.sc (SC.ptr 0 0))), (6, SV.one (SA.sc (SC.ptr 1 0))), (9, SV.one (SA.sc (SC.ptr 3 0))), (11, SV.one (xsI y.snd.fst y.snd.snd.fst y.snd.snd.snd.fst Go.IntKind.u64 y.snd.snd.snd.snd))]) [SO.cells (24 : Go.TypeId) zU4 0, SO.cells (24 : Go.TypeId) [SK.u q] 0, SO.dead, SO.cells (24 : Go.TypeId) [SK.u s] 0, SO.dead] = Bool.true) ∧ ∃ (y0 : Go.Addr × Option Go.Addr × Nat × Nat × (Nat → Int)), (∀ (y : Go.Addr × Option Go.Addr × Nat × Nat × (Nat → Int)), P y.snd.snd.fst y.snd.snd.snd.snd → True → ((∀ (a_9 : Option Go.Addr) (cap : Nat), (a_9 = Option.none → 8 = 0 ∧ cap = 0) → 8 ≤ cap → ∀ (a_12 : Option Go.Addr) (cap : Nat), (a_12 = Option.none → 8 = 0 ∧ cap = 0) → 8 ≤ cap → (∀ (_ : Nat), True) ∧ (∀ (_ : Nat), True) ∧ (dgs 8 fun (i : Nat) => intsC (SC.val (Go.Value.int Go.IntKind.u64 (dg x7 i)))) ∧ 8 ≤ 1000 ∧ (dgs 8 fun (i : Nat) => intsC (SC.val (Go.Value.int Go.IntKind.u64 (dg x8 i)))) ∧ 8 ≤ 1000 ∧ ∀ (a_15 : Option Go.Addr) (cap : Nat), (a_15 = Option.none → 16 = 0 ∧ cap = 0) → 16 ≤ cap → (∀ (_ : Nat), True) ∧ (∀ (_ : Nat), True) ∧ (dgs 16 fun (i : Nat) => intsC (SC.val (Go.Value.int Go.IntKind.u64 (dg ((vn 8 fun (i : Nat) => intsC (SC.val (Go.Value.int Go.IntKind.u64 (dg x7 i)))) * vn 8 fun (i : Nat) => intsC (SC.val (Go.Value.int Go.IntKind.u64 (dg x8 i)))) i)))) ∧ 16 ≤ 1000 ∧ (dgs y.snd.snd.fst fun (i : Nat) => intsC (SC.val (Go.Value.int Go.IntKind.u64 (y.snd.snd.snd.snd i)))) ∧ y.snd.snd.fst ≤ 1000 ∧ ∀ (a_18 : Option Go.Addr) (cap : Nat), (a_18 = Option.none → Max.max 16 y.snd.snd.fst + 1 = 0 ∧ cap = 0) → Max.max 16 y.snd.snd.fst + 1 ≤ cap → (∀ (_ : Nat), True) ∧ ((0 : Int) ≤ limb m 0 ∧ limb m 0 < (18446744073709551616 : Int)) ∧ ((0 : Int) ≤ limb m 1 ∧ limb m 1 < (18446744073709551616 : Int)) ∧ ((0 : Int) ≤ limb m 2 ∧ limb m 2 < (18446744073709551616 : Int)) ∧ ((0 : Int) ≤ limb m 3 ∧ limb m 3 < (18446744073709551616 : Int)) ∧ (dgs (Max.max 16 y.snd.snd.fst + 1) fun (i : Nat) => intsC (SC.val (Go.Value.int Go.IntKind.u64 (dg ((vn 16 fun (i : Nat) => intsC (SC.val (Go.Value.int Go.IntKind.u64 (dg ((vn 8 fun (i : Nat) => intsC (SC.val (Go.Value.int Go.IntKind.u64 (dg x7 i)))) * vn 8 fun (i : Nat) => intsC (SC.val (Go.Value.int Go.IntKind.u64 (dg x8 i)))) i)))) + vn y.snd.snd.fst fun (i : Nat) => intsC (SC.val (Go.Value.int Go.IntKind.u64 (y.snd.snd.snd.snd i)))) i)))) ∧ Max.max 16 y.snd.snd.fst + 1 ≤ 1000 ∧ x4 ≠ 0 ∧ ((0 : Int) ≤ limb m 0 ∧ limb m 0 < (18446744073709551616 : Int)) ∧ ((0 : Int) ≤ limb m 1 ∧ limb m 1 < (18446744073709551616 : Int)) ∧ ((0 : Int) ≤ limb m 2 ∧ limb m 2 < (18446744073709551616 : Int)) ∧ ((0 : Int) ≤ limb m 3 ∧ limb m 3 < (18446744073709551616 : Int)) ∧ (vn (Max.max 16 y.snd.snd.fst + 1) fun (i : Nat) => dg ((vn 16 fun (i : Nat) => dg ((vn 8 fun (i : Nat) => dg x7 i) * vn 8 fun (i : Nat) => dg x8 i) i) + vn y.snd.snd.fst fun (i : Nat) => y.snd.snd.snd.snd i) i) % x4 % M256 ≤ x4 ∧ ((if (vn (Max.max 16 y.snd.snd.fst + 1) fun (i : Nat) => dg ((vn 16 fun (i : Nat) => dg ((vn 8 fun (i : Nat) => dg x7 i) * vn 8 fun (i : Nat) => dg x8 i) i) + vn y.snd.snd.fst fun (i : Nat) => y.snd.snd.snd.snd i) i) % x4 % M256 = 0 then 0 else x4 - (vn (Max.max 16 y.snd.snd.fst + 1) fun (i : Nat) => dg ((vn 16 fun (i : Nat) => dg ((vn 8 fun (i : Nat) => dg x7 i) * vn 8 fun (i : Nat) => dg x8 i) i) + vn y.snd.snd.fst fun (i : Nat) => y.snd.snd.snd.snd i) i) % x4 % M256) % M256 = x1 ∧ True) ∧ Bool.true = B a m) ∧ ∀ (a_9 : Option Go.Addr) (cap : Nat), (a_9 = Option.none → 8 = 0 ∧ cap = 0) → 8 ≤ cap → ∀ (a_12 : Option Go.Addr) (cap : Nat), (a_12 = Option.none → 8 = 0 ∧ cap = 0) → 8 ≤ cap → (∀ (_ : Nat), True) ∧ (∀ (_ : Nat), True) ∧ (dgs 8 fun (i : Nat) => intsC (SC.val (Go.Value.int Go.IntKind.u64 (dg x7 i)))) ∧ 8 ≤ 1000 ∧ (dgs 8 fun (i : Nat) => intsC (SC.val (Go.Value.int Go.IntKind.u64 (dg x8 i)))) ∧ 8 ≤ 1000 ∧ ∀ (a_15 : Option Go.Addr) (cap : Nat), (a_15 = Option.none → 16 = 0 ∧ cap = 0) → 16 ≤ cap → (∀ (_ : Nat), True) ∧ (∀ (_ : Nat), True) ∧ (dgs 16 fun (i : Nat) => intsC (SC.val (Go.Value.int Go.IntKind.u64 (dg ((vn 8 fun (i : Nat) => intsC (SC.val (Go.Value.int Go.IntKind.u64 (dg x7 i)))) * vn 8 fun (i : Nat) => intsC (SC.val (Go.Value.int Go.IntKind.u64 (dg x8 i)))) i)))) ∧ 16 ≤ 1000 ∧ (dgs y.snd.snd.fst fun (i : Nat) => intsC (SC.val (Go.Value.int Go.IntKind.u64 (y.snd.snd.snd.snd i)))) ∧ y.snd.snd.fst ≤ 1000 ∧ ∀ (a_18 : Option Go.Addr) (cap : Nat), (a_18 = Option.none → Max.max 16 y.snd.snd.fst + 1 = 0 ∧ cap = 0) → Max.max 16 y.snd.snd.fst + 1 ≤ cap → (∀ (_ : Nat), True) ∧ ((0 : Int) ≤ limb m 0 ∧ limb m 0 < (18446744073709551616 : Int)) ∧ ((0 : Int) ≤ limb m 1 ∧ limb m 1 < (18446744073709551616 : Int)) ∧ ((0 : Int) ≤ limb m 2 ∧ limb m 2 < (18446744073709551616 : Int)) ∧ ((0 : Int) ≤ limb m 3 ∧ limb m 3 < (18446744073709551616 : Int)) ∧ (dgs (Max.max 16 y.snd.snd.fst + 1) fun (i : Nat) => intsC (SC.val (Go.Value.int Go.IntKind.u64 (dg ((vn 16 fun (i : Nat) => intsC (SC.val (Go.Value.int Go.IntKind.u64 (dg ((vn 8 fun (i : Nat) => intsC (SC.val (Go.Value.int Go.IntKind.u64 (dg x7 i)))) * vn 8 fun (i : Nat) => intsC (SC.val (Go.Value.int Go.IntKind.u64 (dg x8 i)))) i)))) + vn y.snd.snd.fst fun (i : Nat) => intsC (SC.val (Go.Value.int Go.IntKind.u64 (y.snd.snd.snd.snd i)))) i)))) ∧ Max.max 16 y.snd.snd.fst + 1 ≤ 1000 ∧ x4 ≠ 0 ∧ ((0 : Int) ≤ limb m 0 ∧ limb m 0 < (18446744073709551616 : Int)) ∧ ((0 : Int) ≤ limb m 1 ∧ limb m 1 < (18446744073709551616 : Int)) ∧ ((0 : Int) ≤ limb m 2 ∧ limb m 2 < (18446744073709551616 : Int)) ∧ ((0 : Int) ≤ limb m 3 ∧ limb m 3 < (18446744073709551616 : Int)) ∧ (vn (Max.max 16 y.snd.snd.fst + 1) fun (i : Nat) => dg ((vn 16 fun (i : Nat) => dg ((vn 8 fun (i : Nat) => dg x7 i) * vn 8 fun (i : Nat) => dg x8 i) i) + vn y.snd.snd.fst fun (i : Nat) => y.snd.snd.snd.snd i) i) % x4 % M256 ≤ x4 ∧ ((if (vn (Max.max 16 y.snd.snd.fst + 1) fun (i : Nat) => dg ((vn 16 fun (i : Nat) => dg ((vn 8 fun (i : Nat) => dg x7 i) * vn 8 fun (i : Nat) => dg x8 i) i) + vn y.snd.snd.fst fun (i : Nat) => y.snd.snd.snd.snd i) i) % x4 % M256 = 0 then 0 else x4 - (vn (Max.max 16 y.snd.snd.fst + 1) fun (i : Nat) => dg ((vn 16 fun (i : Nat) => dg ((vn 8 fun (i : Nat) => dg x7 i) * vn 8 fun (i : Nat) => dg x8 i) i) + vn y.snd.snd.fst fun (i : Nat) => y.snd.snd.snd.snd i) i) % x4 % M256) % M256 = x1 ∧ True) ∧ Bool.true = B a m) ∧ ∀ (a_9 : Option Go.Addr) (cap : Nat), (a_9 = Option.none → 8 = 0 ∧ cap = 0) → 8 ≤ cap → ∀ (a_12 : Option Go.Addr) (cap : Nat), (a_12 = Option.none → 8 = 0 ∧ cap = 0) → 8 ≤ cap → (∀ (_ : Nat), True) ∧ (∀ (_ : Nat), True) ∧ (dgs 8 fun (i : Nat) => intsC (SC.val (Go.Value.int Go.IntKind.u64 (dg x7 i)))) ∧ 8 ≤ 1000 ∧ (dgs 8 fun (i : Nat) => intsC (SC.val (Go.Value.int Go.IntKind.u64 (dg x8 i)))) ∧ 8 ≤ 1000 ∧ ∀ (a_15 : Option Go.Addr) (cap : Nat), (a_15 = Option.none → 16 = 0 ∧ cap = 0) → 16 ≤ cap → (∀ (_ : Nat), True) ∧ (∀ (_ : Nat), True) ∧ (dgs 16 fun (i : Nat) => intsC (SC.val (Go.Value.int Go.IntKind.u64 (dg ((vn 8 fun (i : Nat) => intsC (SC.val (Go.Value.int Go.IntKind.u64 (dg x7 i)))) * vn 8 fun (i : Nat) => intsC (SC.val (Go.Value.int Go.IntKind.u64 (dg x8 i)))) i)))) ∧ 16 ≤ 1000 ∧ (dgs y.snd.snd.fst fun (i : Nat) => intsC (SC.val (Go.Value.int Go.IntKind.u64 (y.snd.snd.snd.snd i)))) ∧ y.snd.snd.fst ≤ 1000 ∧ ∀ (a_18 : Option Go.Addr) (cap : Nat), (a_18 = Option.none → Max.max 16 y.snd.snd.fst + 1 = 0 ∧ cap = 0) → Max.max 16 y.snd.snd.fst + 1 ≤ cap → (∀ (_ : Nat), True) ∧ ((0 : Int) ≤ limb m 0 ∧ limb m 0 < (18446744073709551616 : Int)) ∧ ((0 : Int) ≤ limb m 1 ∧ limb m 1 < (18446744073709551616 : Int)) ∧ ((0 : Int) ≤ limb m 2 ∧ limb m 2 < (18446744073709551616 : Int)) ∧ ((0 : Int) ≤ limb m 3 ∧ limb m 3 < (18446744073709551616 : Int)) ∧ (dgs (Max.max 16 y.snd.snd.fst + 1) fun (i : Nat) => intsC (SC.val (Go.Value.int Go.IntKind.u64 (dg ((vn 16 fun (i : Nat) => intsC (SC.val (Go.Value.int Go.IntKind.u64 (dg ((vn 8 fun (i : Nat) => intsC (SC.val (Go.Value.int Go.IntKind.u64 (dg x7 i)))) * vn 8 fun (i : Nat) => intsC (SC.val (Go.Value.int Go.IntKind.u64 (dg x8 i)))) i)))) + vn y.snd.snd.fst fun (i : Nat) => intsC (SC.val (Go.Value.int Go.IntKind.u64 (y.snd.snd.snd.snd i)))) i)))) ∧ Max.max 16 y.snd.snd.fst + 1 ≤ 1000 ∧ x4 ≠ 0 ∧ ((0 : Int) ≤ limb m 0 ∧ limb m 0 < (18446744073709551616 : Int)) ∧ ((0 : Int) ≤ limb m 1 ∧ limb m 1 < (18446744073709551616 : Int)) ∧ ((0 : Int) ≤ limb m 2 ∧ limb m 2 < (18446744073709551616 : Int)) ∧ ((0 : Int) ≤ limb m 3 ∧ limb m 3 < (18446744073709551616 : Int)) ∧ (vn (Max.max 16 y.snd.snd.fst + 1) fun (i : Nat) => dg ((vn 16 fun (i : Nat) => dg ((vn 8 fun (i : Nat) => dg x7 i) * vn 8 fun (i : Nat) => dg x8 i) i) + vn y.snd.snd.fst fun (i : Nat) => y.snd.snd.snd.snd i) i) % x4 % M256 ≤ x4 ∧ ((if (vn (Max.max 16 y.snd.snd.fst + 1) fun (i : Nat) => dg ((vn 16 fun (i : Nat) => dg ((vn 8 fun (i : Nat) => dg x7 i) * vn 8 fun (i : Nat) => dg x8 i) i) + vn y.snd.snd.fst fun (i : Nat) => y.snd.snd.snd.snd i) i) % x4 % M256 = 0 then 0 else x4 - (vn (Max.max 16 y.snd.snd.fst + 1) fun (i : Nat) => dg ((vn 16 fun (i : Nat) => dg ((vn 8 fun (i : Nat) => dg x7 i) * vn 8 fun (i : Nat) => dg x8 i) i) + vn y.snd.snd.fst fun (i : Nat) => y.snd.snd.snd.snd i) i) % x4 % M256) % M256 = x1 ∧ True) ∧ Bool.true = B a m) ∧ ((∀ (a_7 : Option Go.Addr) (cap : Nat), (a_7 = Option.none → 8 = 0 ∧ cap = 0) → 8 ≤ cap → ((∀ (a_10 : Option Go.Addr) (cap : Nat), (a_10 = Option.none → 8 = 0 ∧ cap = 0) → 8 ≤ cap → ((∀ (_ : Nat), True) ∧ (∀ (_ : Nat), True) ∧ (dgs 8 fun (i : Nat) => intsC (SC.val (Go.Value.int Go.IntKind.u64 (dg x6 i)))) ∧ 8 ≤ 1000 ∧ (dgs 8 fun (i : Nat) => intsC (SC.val (Go.Value.int Go.IntKind.u64 (dg x9 i)))) ∧ 8 ≤ 1000 ∧ ∀ (a_13 : Option Go.Addr) (cap : Nat), (a_13 = Option.none → 16 = 0 ∧ cap = 0) → 16 ≤ cap → 1 ≤ 1 ∧ ∀ (_ : Go.Addr), (∀ (_ : Nat), True) ∧ (∀ (_ : Nat), True) ∧ (dgs 16 fun (i : Nat) => intsC (SC.val (Go.Value.int Go.IntKind.u64 (dg ((vn 8 fun (i : Nat) => intsC (SC.val (Go.Value.int Go.IntKind.u64 (dg x6 i)))) * vn 8 fun (i : Nat) => intsC (SC.val (Go.Value.int Go.IntKind.u64 (dg x9 i)))) i)))) ∧ 16 ≤ 1000 ∧ (dgs 1 fun (i : Nat) => intsC (SC.val (Go.Value.int (Go.IntKind.u64, (1 : Int)).fst (selG [SK.c (SC.num Go.IntKind.u64 (1 : Int))] i)))) ∧ 1 ≤ 1000 ∧ 1 ≤ x10 ∧ ∀ (a_17 : Option Go.Addr) (cap : Nat), (a_17 = Option.none → 16 = 0 ∧ cap = 0) → 16 ≤ cap → ((0 : Int) ≤ limb a 0 ∧ limb a 0 < (18446744073709551616 : Int)) ∧ ((0 : Int) ≤ limb a 1 ∧ limb a 1 < (18446744073709551616 : Int)) ∧ ((0 : Int) ≤ limb a 2 ∧ limb a 2 < (18446744073709551616 : Int)) ∧ ((0 : Int) ≤ limb a 3 ∧ limb a 3 < (18446744073709551616 : Int)) ∧ ∀ (a : Option Go.Addr) (cap : Nat), (a = Option.none → 8 = 0 ∧ cap = 0) → 8 ≤ cap → (∀ (_ : Nat), True) ∧ (∀ (_ : Nat), True) ∧ (dgs 16 fun (i : Nat) => intsC (SC.val (Go.Value.int Go.IntKind.u64 (dg ((vn 16 fun (i : Nat) => intsC (SC.val (Go.Value.int Go.IntKind.u64 (dg ((vn 8 fun (i : Nat) => intsC (SC.val (Go.Value.int Go.IntKind.u64 (dg x6 i)))) * vn 8 fun (i : Nat) => intsC (SC.val (Go.Value.int Go.IntKind.u64 (dg x9 i)))) i)))) - 1) i)))) ∧ 16 ≤ 1000 ∧ (dgs 8 fun (i : Nat) => intsC (SC.val (Go.Value.int Go.IntKind.u64 (dg x3 i)))) ∧ 8 ≤ 900 ∧ x11 ≠ 0 ∧ ∀ (a : Option Go.Addr) (cap : Nat), (a = Option.none → 16 = 0 ∧ cap = 0) → 16 ≤ cap → ∀ (a_22 : Option Go.Addr) (cap_1 : Nat), (a_22 = Option.none → x13 = 0 ∧ cap_1 = 0) → x13 ≤ cap_1 → (∃ (y : Go.Addr × Option Go.Addr × Nat × Nat × (Nat → Int)), (P y.snd.snd.fst y.snd.snd.snd.snd ∧ True) ∧ (a_2 = y.fst ∧ limb m 0 = limb m 0 ∧ limb m 1 = limb m 1 ∧ limb m 2 = limb m 2 ∧ limb m 3 = limb m 3) ∧ (a = y.snd.fst ∧ 16 = y.snd.snd.fst ∧ cap = y.snd.snd.snd.fst ∧ ∀ (i : Nat), i < 16 → dg (x12 / x11) i = y.snd.snd.snd.snd i) ∧ 0 = 0 ∧ (if x3 = 0 then 0 else x4 / x3) % M256 = x7 ∧ 0 = 0 ∧ x9 = x8 ∧ 0 = 0 ∧ True) ∧ ∃ (y : Go.Addr × Option Go.Addr × Nat × Nat × (Nat → Int)), (P y.snd.snd.fst y.snd.snd.snd.snd ∧ True) ∧ (a_2 = y.fst ∧ limb m 0 = limb m 0 ∧ limb m 1 = limb m 1 ∧ limb m 2 = limb m 2 ∧ limb m 3 = limb m 3) ∧ (a = y.snd.fst ∧ 16 = y.snd.snd.fst ∧ cap = y.snd.snd.snd.fst ∧ ∀ (i : Nat), i < 16 → dg (x12 / x11) i = y.snd.snd.snd.snd i) ∧ 0 = 0 ∧ (if x3 = 0 then 0 else x4 / x3) % M256 = x7 ∧ 0 = 0 ∧ x9 = x8 ∧ 0 = 0 ∧ True) ∧ (∀ (_ : Nat), True) ∧ (∀ (_ : Nat), True) ∧ (dgs 8 fun (i : Nat) => intsC (SC.val (Go.Value.int Go.IntKind.u64 (dg x6 i)))) ∧ 8 ≤ 1000 ∧ (dgs 8 fun (i : Nat) => intsC (SC.val (Go.Value.int Go.IntKind.u64 (dg x9 i)))) ∧ 8 ≤ 1000 ∧ ∀ (a_13 : Option Go.Addr) (cap : Nat), (a_13 = Option.none → 16 = 0 ∧ cap = 0) → 16 ≤ cap → 1 ≤ 1 ∧ ∀ (_ : Go.Addr), (∀ (_ : Nat), True) ∧ (∀ (_ : Nat), True) ∧ (dgs 16 fun (i : Nat) => intsC (SC.val (Go.Value.int Go.IntKind.u64 (dg ((vn 8 fun (i : Nat) => intsC (SC.val (Go.Value.int Go.IntKind.u64 (dg x6 i)))) * vn 8 fun (i : Nat) => intsC (SC.val (Go.Value.int Go.IntKind.u64 (dg x9 i)))) i)))) ∧ 16 ≤ 1000 ∧ (dgs 1 fun (i : Nat) => intsC (SC.val (Go.Value.int (Go.IntKind.u64, (1 : Int)).fst (selG [SK.c (SC.num Go.IntKind.u64 (1 : Int))] i)))) ∧ 1 ≤ 1000 ∧ 1 ≤ x10 ∧ ∀ (a_17 : Option Go.Addr) (cap : Nat), (a_17 = Option.none → 16 = 0 ∧ cap = 0) → 16 ≤ cap → ((0 : Int) ≤ limb a 0 ∧ limb a 0 < (18446744073709551616 : Int)) ∧ ((0 : Int) ≤ limb a 1 ∧ limb a 1 < (18446744073709551616 : Int)) ∧ ((0 : Int) ≤ limb a 2 ∧ limb a 2 < (18446744073709551616 : Int)) ∧ ((0 : Int) ≤ limb a 3 ∧ limb a 3 < (18446744073709551616 : Int)) ∧ ∀ (a : Option Go.Addr) (cap : Nat), (a = Option.none → 8 = 0 ∧ cap = 0) → 8 ≤ cap → (∀ (_ : Nat), True) ∧ (∀ (_ : Nat), True) ∧ (dgs 16 fun (i : Nat) => intsC (SC.val (Go.Value.int Go.IntKind.u64 (dg ((vn 16 fun (i : Nat) => intsC (SC.val (Go.Value.int Go.IntKind.u64 (dg ((vn 8 fun (i : Nat) => intsC (SC.val (Go.Value.int Go.IntKind.u64 (dg x6 i)))) * vn 8 fun (i : Nat) => intsC (SC.val (Go.Value.int Go.IntKind.u64 (dg x9 i)))) i)))) - 1) i)))) ∧ 16 ≤ 1000 ∧ (dgs 8 fun (i : Nat) => intsC (SC.val (Go.Value.int Go.IntKind.u64 (dg x3 i)))) ∧ 8 ≤ 900 ∧ x11 ≠ 0 ∧ ∀ (a : Option Go.Addr) (cap : Nat), (a = Option.none → 16 = 0 ∧ cap = 0) → 16 ≤ cap → ∀ (a_22 : Option Go.Addr) (cap_1 : Nat), (a_22 = Option.none → x13 = 0 ∧ cap_1 = 0) → x13 ≤ cap_1 → (∃ (y : Go.Addr × Option Go.Addr × Nat × Nat × (Nat → Int)), (P y.snd.snd.fst y.snd.snd.snd.snd ∧ True) ∧ (a_2 = y.fst ∧ limb m 0 = limb m 0 ∧ limb m 1 = limb m 1 ∧ limb m 2 = limb m 2 ∧ limb m 3 = limb m 3) ∧ (a = y.snd.fst ∧ 16 = y.snd.snd.fst ∧ cap = y.snd.snd.snd.fst ∧ ∀ (i : Nat), i < 16 → dg (x12 / x11) i = y.snd.snd.snd.snd i) ∧ 0 = 0 ∧ (if x3 = 0 then 0 else x4 / x3) % M256 = x7 ∧ 0 = 0 ∧ x9 = x8 ∧ 0 = 0 ∧ True) ∧ ∃ (y : Go.Addr × Option Go.Addr × Nat × Nat × (Nat → Int)), (P y.snd.snd.fst y.snd.snd.snd.snd ∧ True) ∧ (a_2 = y.fst ∧ limb m 0 = limb m 0 ∧ limb m 1 = limb m 1 ∧ limb m 2 = limb m 2 ∧ limb m 3 = limb m 3) ∧ (a = y.snd.fst ∧ 16 = y.snd.snd.fst ∧ cap = y.snd.snd.snd.fst ∧ ∀ (i : Nat), i < 16 → dg (x12 / x11) i = y.snd.snd.snd.snd i) ∧ 0 = 0 ∧ (if x3 = 0 then 0 else x4 / x3) % M256 = x7 ∧ 0 = 0 ∧ x9 = x8 ∧ 0 = 0 ∧ True) ∧ ∀ (a_10 : Option Go.Addr) (cap : Nat), (a_10 = Option.none → 8 = 0 ∧ cap = 0) → 8 ≤ cap → (∀ (_ : Nat), True) ∧ (∀ (_ : Nat), True) ∧ (dgs 8 fun (i : Nat) => intsC (SC.val (Go.Value.int Go.IntKind.u64 (dg x6 i)))) ∧ 8 ≤ 1000 ∧ (dgs 8 fun (i : Nat) => intsC (SC.val (Go.Value.int Go.IntKind.u64 (dg x9 i)))) ∧ 8 ≤ 1000 ∧ ∀ (a_13 : Option Go.Addr) (cap : Nat), (a_13 = Option.none → 16 = 0 ∧ cap = 0) → 16 ≤ cap → 1 ≤ 1 ∧ ∀ (_ : Go.Addr), (∀ (_ : Nat), True) ∧ (∀ (_ : Nat), True) ∧ (dgs 16 fun (i : Nat) => intsC (SC.val (Go.Value.int Go.IntKind.u64 (dg ((vn 8 fun (i : Nat) => intsC (SC.val (Go.Value.int Go.IntKind.u64 (dg x6 i)))) * vn 8 fun (i : Nat) => intsC (SC.val (Go.Value.int Go.IntKind.u64 (dg x9 i)))) i)))) ∧ 16 ≤ 1000 ∧ (dgs 1 fun (i : Nat) => intsC (SC.val (Go.Value.int (Go.IntKind.u64, (1 : Int)).fst (selG [SK.c (SC.num Go.IntKind.u64 (1 : Int))] i)))) ∧ 1 ≤ 1000 ∧ 1 ≤ x10 ∧ ∀ (a_17 : Option Go.Addr) (cap : Nat), (a_17 = Option.none → 16 = 0 ∧ cap = 0) → 16 ≤ cap → ((0 : Int) ≤ limb a 0 ∧ limb a 0 < (18446744073709551616 : Int)) ∧ ((0 : Int) ≤ limb a 1 ∧ limb a 1 < (18446744073709551616 : Int)) ∧ ((0 : Int) ≤ limb a 2 ∧ limb a 2 < (18446744073709551616 : Int)) ∧ ((0 : Int) ≤ limb a 3 ∧ limb a 3 < (18446744073709551616 : Int)) ∧ ∀ (a : Option Go.Addr) (cap : Nat), (a = Option.none → 8 = 0 ∧ cap = 0) → 8 ≤ cap → (∀ (_ : Nat), True) ∧ (∀ (_ : Nat), True) ∧ (dgs 16 fun (i : Nat) => intsC (SC.val (Go.Value.int Go.IntKind.u64 (dg ((vn 16 fun (i : Nat) => intsC (SC.val (Go.Value.int Go.IntKind.u64 (dg ((vn 8 fun (i : Nat) => intsC (SC.val (Go.Value.int Go.IntKind.u64 (dg x6 i)))) * vn 8 fun (i : Nat) => intsC (SC.val (Go.Value.int Go.IntKind.u64 (dg x9 i)))) i)))) - 1) i)))) ∧ 16 ≤ 1000 ∧ (dgs 8 fun (i : Nat) => intsC (SC.val (Go.Value.int Go.IntKind.u64 (dg x3 i)))) ∧ 8 ≤ 900 ∧ x11 ≠ 0 ∧ ∀ (a : Option Go.Addr) (cap : Nat), (a = Option.none → 16 = 0 ∧ cap = 0) → 16 ≤ cap → ∀ (a_22 : Option Go.Addr) (cap_1 : Nat), (a_22 = Option.none → x13 = 0 ∧ cap_1 = 0) → x13 ≤ cap_1 → (∃ (y : Go.Addr × Option Go.Addr × Nat × Nat × (Nat → Int)), (P y.snd.snd.fst y.snd.snd.snd.snd ∧ True) ∧ (a_2 = y.fst ∧ limb m 0 = limb m 0 ∧ limb m 1 = limb m 1 ∧ limb m 2 = limb m 2 ∧ limb m 3 = limb m 3) ∧ (a = y.snd.fst ∧ 16 = y.snd.snd.fst ∧ cap = y.snd.snd.snd.fst ∧ ∀ (i : Nat), i < 16 → dg (x12 / x11) i = y.snd.snd.snd.snd i) ∧ 0 = 0 ∧ (if x3 = 0 then 0 else x4 / x3) % M256 = x7 ∧ 0 = 0 ∧ x9 = x8 ∧ 0 = 0 ∧ True) ∧ ∃ (y : Go.Addr × Option Go.Addr × Nat × Nat × (Nat → Int)), (P y.snd.snd.fst y.snd.snd.snd.snd ∧ True) ∧ (a_2 = y.fst ∧ limb m 0 = limb m 0 ∧ limb m 1 = limb m 1 ∧ limb m 2 = limb m 2 ∧ limb m 3 = limb m 3) ∧ (a = y.snd.fst ∧ 16 = y.snd.snd.fst ∧ cap = y.snd.snd.snd.fst ∧ ∀ (i : Nat), i < 16 → dg (x12 / x11) i = y.snd.snd.snd.snd i) ∧ 0 = 0 ∧ (if x3 = 0 then 0 else x4 / x3) % M256 = x7 ∧ 0 = 0 ∧ x9 = x8 ∧ 0 = 0 ∧ True) ∧ ∀ (a_10 : Option Go.Addr) (cap : Nat), (a_10 = Option.none → 8 = 0 ∧ cap = 0) → 8 ≤ cap → (∀ (_ : Nat), True) ∧ (∀ (_ : Nat), True) ∧ (dgs 8 fun (i : Nat) => intsC (SC.val (Go.Value.int Go.IntKind.u64 (dg x6 i)))) ∧ 8 ≤ 1000 ∧ (dgs 8 fun (i : Nat) => intsC (SC.val (Go.Value.int Go.IntKind.u64 (dg x9 i)))) ∧ 8 ≤ 1000 ∧ ∀ (a_13 : Option Go.Addr) (cap : Nat), (a_13 = Option.none → 16 = 0 ∧ cap = 0) → 16 ≤ cap → 1 ≤ 1 ∧ ∀ (_ : Go.Addr), (∀ (_ : Nat), True) ∧ (∀ (_ : Nat), True) ∧ (dgs 16 fun (i : Nat) => intsC (SC.val (Go.Value.int Go.IntKind.u64 (dg ((vn 8 fun (i : Nat) => intsC (SC.val (Go.Value.int Go.IntKind.u64 (dg x6 i)))) * vn 8 fun (i : Nat) => intsC (SC.val (Go.Value.int Go.IntKind.u64 (dg x9 i)))) i)))) ∧ 16 ≤ 1000 ∧ (dgs 1 fun (i : Nat) => intsC (SC.val (Go.Value.int (Go.IntKind.u64, (1 : Int)).fst (selG [SK.c (SC.num Go.IntKind.u64 (1 : Int))] i)))) ∧ 1 ≤ 1000 ∧ 1 ≤ x10 ∧ ∀ (a_17 : Option Go.Addr) (cap : Nat), (a_17 = Option.none → 16 = 0 ∧ cap = 0) → 16 ≤ cap → ((0 : Int) ≤ limb a 0 ∧ limb a 0 < (18446744073709551616 : Int)) ∧ ((0 : Int) ≤ limb a 1 ∧ limb a 1 < (18446744073709551616 : Int)) ∧ ((0 : Int) ≤ limb a 2 ∧ limb a 2 < (18446744073709551616 : Int)) ∧ ((0 : Int) ≤ limb a 3 ∧ limb a 3 < (18446744073709551616 : Int)) ∧ ∀ (a : Option Go.Addr) (cap : Nat), (a = Option.none → 8 = 0 ∧ cap = 0) → 8 ≤ cap → (∀ (_ : Nat), True) ∧ (∀ (_ : Nat), True) ∧ (dgs 16 fun (i : Nat) => intsC (SC.val (Go.Value.int Go.IntKind.u64 (dg ((vn 16 fun (i : Nat) => intsC (SC.val (Go.Value.int Go.IntKind.u64 (dg ((vn 8 fun (i : Nat) => intsC (SC.val (Go.Value.int Go.IntKind.u64 (dg x6 i)))) * vn 8 fun (i : Nat) => intsC (SC.val (Go.Value.int Go.IntKind.u64 (dg x9 i)))) i)))) - 1) i)))) ∧ 16 ≤ 1000 ∧ (dgs 8 fun (i : Nat) => intsC (SC.val (Go.Value.int Go.IntKind.u64 (dg x3 i)))) ∧ 8 ≤ 900 ∧ x11 ≠ 0 ∧ ∀ (a : Option Go.Addr) (cap : Nat), (a = Option.none → 16 = 0 ∧ cap = 0) → 16 ≤ cap → ∀ (a_22 : Option Go.Addr) (cap_1 : Nat), (a_22 = Option.none → x13 = 0 ∧ cap_1 = 0) → x13 ≤ cap_1 → (∃ (y : Go.Addr × Option Go.Addr × Nat × Nat × (Nat → Int)), (P y.snd.snd.fst y.snd.snd.snd.snd ∧ True) ∧ (a_2 = y.fst ∧ limb m 0 = limb m 0 ∧ limb m 1 = limb m 1 ∧ limb m 2 = limb m 2 ∧ limb m 3 = limb m 3) ∧ (a = y.snd.fst ∧ 16 = y.snd.snd.fst ∧ cap = y.snd.snd.snd.fst ∧ ∀ (i : Nat), i < 16 → dg (x12 / x11) i = y.snd.snd.snd.snd i) ∧ 0 = 0 ∧ (if x3 = 0 then 0 else x4 / x3) % M256 = x7 ∧ 0 = 0 ∧ x9 = x8 ∧ 0 = 0 ∧ True) ∧ ∃ (y : Go.Addr × Option Go.Addr × Nat × Nat × (Nat → Int)), (P y.snd.snd.fst y.snd.snd.snd.snd ∧ True) ∧ (a_2 = y.fst ∧ limb m 0 = limb m 0 ∧ limb m 1 = limb m 1 ∧ limb m 2 = limb m 2 ∧ limb m 3 = limb m 3) ∧ (a = y.snd.fst ∧ 16 = y.snd.snd.fst ∧ cap = y.snd.snd.snd.fst ∧ ∀ (i : Nat), i < 16 → dg (x12 / x11) i = y.snd.snd.snd.snd i) ∧ 0 = 0 ∧ (if x3 = 0 then 0 else x4 / x3) % M256 = x7 ∧ 0 = 0 ∧ x9 = x8 ∧ 0 = 0 ∧ True) ∧ ((∀ (a_7 : Option Go.Addr) (cap : Nat), (a_7 = Option.none → 8 = 0 ∧ cap = 0) → 8 ≤ cap → (∀ (a_10 : Option Go.Addr) (cap : Nat), (a_10 = Option.none → 8 = 0 ∧ cap = 0) → 8 ≤ cap → ((∀ (_ : Nat), True) ∧ (∀ (_ : Nat), True) ∧ (dgs 8 fun (i : Nat) => intsC (SC.val (Go.Value.int Go.IntKind.u64 (dg x6 i)))) ∧ 8 ≤ 1000 ∧ (dgs 8 fun (i : Nat) => intsC (SC.val (Go.Value.int Go.IntKind.u64 (dg x9 i)))) ∧ 8 ≤ 1000 ∧ ∀ (a_13 : Option Go.Addr) (cap : Nat), (a_13 = Option.none → 16 = 0 ∧ cap = 0) → 16 ≤ cap → 1 ≤ 1 ∧ ∀ (_ : Go.Addr), (∀ (_ : Nat), True) ∧ (∀ (_ : Nat), True) ∧ (dgs 16 fun (i : Nat) => intsC (SC.val (Go.Value.int Go.IntKind.u64 (dg ((vn 8 fun (i : Nat) => intsC (SC.val (Go.Value.int Go.IntKind.u64 (dg x6 i)))) * vn 8 fun (i : Nat) => intsC (SC.val (Go.Value.int Go.IntKind.u64 (dg x9 i)))) i)))) ∧ 16 ≤ 1000 ∧ (dgs 1 fun (i : Nat) => intsC (SC.val (Go.Value.int (Go.IntKind.u64, (1 : Int)).fst (selG [SK.c (SC.num Go.IntKind.u64 (1 : Int))] i)))) ∧ 1 ≤ 1000 ∧ 1 ≤ x10 ∧ ∀ (a_17 : Option Go.Addr) (cap : Nat), (a_17 = Option.none → 16 = 0 ∧ cap = 0) → 16 ≤ cap → ((0 : Int) ≤ limb a 0 ∧ limb a 0 < (18446744073709551616 : Int)) ∧ ((0 : Int) ≤ limb a 1 ∧ limb a 1 < (18446744073709551616 : Int)) ∧ ((0 : Int) ≤ limb a 2 ∧ limb a 2 < (18446744073709551616 : Int)) ∧ ((0 : Int) ≤ limb a 3 ∧ limb a 3 < (18446744073709551616 : Int)) ∧ ∀ (a : Option Go.Addr) (cap : Nat), (a = Option.none → 8 = 0 ∧ cap = 0) → 8 ≤ cap → (∀ (_ : Nat), True) ∧ (∀ (_ : Nat), True) ∧ (dgs 16 fun (i : Nat) => intsC (SC.val (Go.Value.int Go.IntKind.u64 (dg ((vn 16 fun (i : Nat) => intsC (SC.val (Go.Value.int Go.IntKind.u64 (dg ((vn 8 fun (i : Nat) => intsC (SC.val (Go.Value.int Go.IntKind.u64 (dg x6 i)))) * vn 8 fun (i : Nat) => intsC (SC.val (Go.Value.int Go.IntKind.u64 (dg x9 i)))) i)))) - 1) i)))) ∧ 16 ≤ 1000 ∧ (dgs 8 fun (i : Nat) => intsC (SC.val (Go.Value.int Go.IntKind.u64 (dg x3 i)))) ∧ 8 ≤ 900 ∧ x11 ≠ 0 ∧ ∀ (a : Option Go.Addr) (cap : Nat), (a = Option.none → 16 = 0 ∧ cap = 0) → 16 ≤ cap → ∀ (a_22 : Option Go.Addr) (cap_1 : Nat), (a_22 = Option.none → x13 = 0 ∧ cap_1 = 0) → x13 ≤ cap_1 → (∃ (y : Go.Addr × Option Go.Addr × Nat × Nat × (Nat → Int)), (P y.snd.snd.fst y.snd.snd.snd.snd ∧ True) ∧ (a_2 = y.fst ∧ limb m 0 = limb m 0 ∧ limb m 1 = limb m 1 ∧ limb m 2 = limb m 2 ∧ limb m 3 = limb m 3) ∧ (a = y.snd.fst ∧ 16 = y.snd.snd.fst ∧ cap = y.snd.snd.snd.fst ∧ ∀ (i : Nat), i < 16 → dg (x12 / x11) i = y.snd.snd.snd.snd i) ∧ 0 = 0 ∧ (if x3 = 0 then 0 else x4 / x3) % M256 = x7 ∧ 0 = 0 ∧ x9 = x8 ∧ 0 = 0 ∧ True) ∧ ∃ (y : Go.Addr × Option Go.Addr × Nat × Nat × (Nat → Int)), (P y.snd.snd.fst y.snd.snd.snd.snd ∧ True) ∧ (a_2 = y.fst ∧ limb m 0 = limb m 0 ∧ limb m 1 = limb m 1 ∧ limb m 2 = limb m 2 ∧ limb m 3 = limb m 3) ∧ (a = y.snd.fst ∧ 16 = y.snd.snd.fst ∧ cap = y.snd.snd.snd.fst ∧ ∀ (i : Nat), i < 16 → dg (x12 / x11) i = y.snd.snd.snd.snd i) ∧ 0 = 0 ∧ (if x3 = 0 then 0 else x4 / x3) % M256 = x7 ∧ 0 = 0 ∧ x9 = x8 ∧ 0 = 0 ∧ True) ∧ (∀ (_ : Nat), True) ∧ (∀ (_ : Nat), True) ∧ (dgs 8 fun (i : Nat) => intsC (SC.val (Go.Value.int Go.IntKind.u64 (dg x6 i)))) ∧ 8 ≤ 1000 ∧ (dgs 8 fun (i : Nat) => intsC (SC.val (Go.Value.int Go.IntKind.u64 (dg x9 i)))) ∧ 8 ≤ 1000 ∧ ∀ (a_13 : Option Go.Addr) (cap : Nat), (a_13 = Option.none → 16 = 0 ∧ cap = 0) → 16 ≤ cap → 1 ≤ 1 ∧ ∀ (_ : Go.Addr), (∀ (_ : Nat), True) ∧ (∀ (_ : Nat), True) ∧ (dgs 16 fun (i : Nat) => intsC (SC.val (Go.Value.int Go.IntKind.u64 (dg ((vn 8 fun (i : Nat) => intsC (SC.val (Go.Value.int Go.IntKind.u64 (dg x6 i)))) * vn 8 fun (i : Nat) => intsC (SC.val (Go.Value.int Go.IntKind.u64 (dg x9 i)))) i)))) ∧ 16 ≤ 1000 ∧ (dgs 1 fun (i : Nat) => intsC (SC.val (Go.Value.int (Go.IntKind.u64, (1 : Int)).fst (selG [SK.c (SC.num Go.IntKind.u64 (1 : Int))] i)))) ∧ 1 ≤ 1000 ∧ 1 ≤ x10 ∧ ∀ (a_17 : Option Go.Addr) (cap : Nat), (a_17 = Option.none → 16 = 0 ∧ cap = 0) → 16 ≤ cap → ((0 : Int) ≤ limb a 0 ∧ limb a 0 < (18446744073709551616 : Int)) ∧ ((0 : Int) ≤ limb a 1 ∧ limb a 1 < (18446744073709551616 : Int)) ∧ ((0 : Int) ≤ limb a 2 ∧ limb a 2 < (18446744073709551616 : Int)) ∧ ((0 : Int) ≤ limb a 3 ∧ limb a 3 < (18446744073709551616 : Int)) ∧ ∀ (a : Option Go.Addr) (cap : Nat), (a = Option.none → 8 = 0 ∧ cap = 0) → 8 ≤ cap → (∀ (_ : Nat), True) ∧ (∀ (_ : Nat), True) ∧ (dgs 16 fun (i : Nat) => intsC (SC.val (Go.Value.int Go.IntKind.u64 (dg ((vn 16 fun (i : Nat) => intsC (SC.val (Go.Value.int Go.IntKind.u64 (dg ((vn 8 fun (i : Nat) => intsC (SC.val (Go.Value.int Go.IntKind.u64 (dg x6 i)))) * vn 8 fun (i : Nat) => intsC (SC.val (Go.Value.int Go.IntKind.u64 (dg x9 i)))) i)))) - 1) i)))) ∧ 16 ≤ 1000 ∧ (dgs 8 fun (i : Nat) => intsC (SC.val (Go.Value.int Go.IntKind.u64 (dg x3 i)))) ∧ 8 ≤ 900 ∧ x11 ≠ 0 ∧ ∀ (a : Option Go.Addr) (cap : Nat), (a = Option.none → 16 = 0 ∧ cap = 0) → 16 ≤ cap → ∀ (a_22 : Option Go.Addr) (cap_1 : Nat), (a_22 = Option.none → x13 = 0 ∧ cap_1 = 0) → x13 ≤ cap_1 → (∃ (y : Go.Addr × Option Go.Addr × Nat × Nat × (Nat → Int)), (P y.snd.snd.fst y.snd.snd.snd.snd ∧ True) ∧ (a_2 = y.fst ∧ limb m 0 = limb m 0 ∧ limb m 1 = limb m 1 ∧ limb m 2 = limb m 2 ∧ limb m 3 = limb m 3) ∧ (a = y.snd.fst ∧ 16 = y.snd.snd.fst ∧ cap = y.snd.snd.snd.fst ∧ ∀ (i : Nat), i < 16 → dg (x12 / x11) i = y.snd.snd.snd.snd i) ∧ 0 = 0 ∧ (if x3 = 0 then 0 else x4 / x3) % M256 = x7 ∧ 0 = 0 ∧ x9 = x8 ∧ 0 = 0 ∧ True) ∧ ∃ (y : Go.Addr × Option Go.Addr × Nat × Nat × (Nat → Int)), (P y.snd.snd.fst y.snd.snd.snd.snd ∧ True) ∧ (a_2 = y.fst ∧ limb m 0 = limb m 0 ∧ limb m 1 = limb m 1 ∧ limb m 2 = limb m 2 ∧ limb m 3 = limb m 3) ∧ (a = y.snd.fst ∧ 16 = y.snd.snd.fst ∧ cap = y.snd.snd.snd.fst ∧ ∀ (i : Nat), i < 16 → dg (x12 / x11) i = y.snd.snd.snd.snd i) ∧ 0 = 0 ∧ (if x3 = 0 then 0 else x4 / x3) % M256 = x7 ∧ 0 = 0 ∧ x9 = x8 ∧ 0 = 0 ∧ True) ∧ ∀ (a_10 : Option Go.Addr) (cap : Nat), (a_10 = Option.none → 8 = 0 ∧ cap = 0) → 8 ≤ cap → (∀ (_ : Nat), True) ∧ (∀ (_ : Nat), True) ∧ (dgs 8 fun (i : Nat) => intsC (SC.val (Go.Value.int Go.IntKind.u64 (dg x6 i)))) ∧ 8 ≤ 1000 ∧ (dgs 8 fun (i : Nat) => intsC (SC.val (Go.Value.int Go.IntKind.u64 (dg x9 i)))) ∧ 8 ≤ 1000 ∧ ∀ (a_13 : Option Go.Addr) (cap : Nat), (a_13 = Option.none → 16 = 0 ∧ cap = 0) → 16 ≤ cap → 1 ≤ 1 ∧ ∀ (_ : Go.Addr), (∀ (_ : Nat), True) ∧ (∀ (_ : Nat), True) ∧ (dgs 16 fun (i : Nat) => intsC (SC.val (Go.Value.int Go.IntKind.u64 (dg ((vn 8 fun (i : Nat) => intsC (SC.val (Go.Value.int Go.IntKind.u64 (dg x6 i)))) * vn 8 fun (i : Nat) => intsC (SC.val (Go.Value.int Go.IntKind.u64 (dg x9 i)))) i)))) ∧ 16 ≤ 1000 ∧ (dgs 1 fun (i : Nat) => intsC (SC.val (Go.Value.int (Go.IntKind.u64, (1 : Int)).fst (selG [SK.c (SC.num Go.IntKind.u64 (1 : Int))] i)))) ∧ 1 ≤ 1000 ∧ 1 ≤ x10 ∧ ∀ (a_17 : Option Go.Addr) (cap : Nat), (a_17 = Option.none → 16 = 0 ∧ cap = 0) → 16 ≤ cap → ((0 : Int) ≤ limb a 0 ∧ limb a 0 < (18446744073709551616 : Int)) ∧ ((0 : Int) ≤ limb a 1 ∧ limb a 1 < (18446744073709551616 : Int)) ∧ ((0 : Int) ≤ limb a 2 ∧ limb a 2 < (18446744073709551616 : Int)) ∧ ((0 : Int) ≤ limb a 3 ∧ limb a 3 < (18446744073709551616 : Int)) ∧ ∀ (a : Option Go.Addr) (cap : Nat), (a = Option.none → 8 = 0 ∧ cap = 0) → 8 ≤ cap → (∀ (_ : Nat), True) ∧ (∀ (_ : Nat), True) ∧ (dgs 16 fun (i : Nat) => intsC (SC.val (Go.Value.int Go.IntKind.u64 (dg ((vn 16 fun (i : Nat) => intsC (SC.val (Go.Value.int Go.IntKind.u64 (dg ((vn 8 fun (i : Nat) => intsC (SC.val (Go.Value.int Go.IntKind.u64 (dg x6 i)))) * vn 8 fun (i : Nat) => intsC (SC.val (Go.Value.int Go.IntKind.u64 (dg x9 i)))) i)))) - 1) i)))) ∧ 16 ≤ 1000 ∧ (dgs 8 fun (i : Nat) => intsC (SC.val (Go.Value.int Go.IntKind.u64 (dg x3 i)))) ∧ 8 ≤ 900 ∧ x11 ≠ 0 ∧ ∀ (a : Option Go.Addr) (cap : Nat), (a = Option.none → 16 = 0 ∧ cap = 0) → 16 ≤ cap → ∀ (a_22 : Option Go.Addr) (cap_1 : Nat), (a_22 = Option.none → x13 = 0 ∧ cap_1 = 0) → x13 ≤ cap_1 → (∃ (y : Go.Addr × Option Go.Addr × Nat × Nat × (Nat → Int)), (P y.snd.snd.fst y.snd.snd.snd.snd ∧ True) ∧ (a_2 = y.fst ∧ limb m 0 = limb m 0 ∧ limb m 1 = limb m 1 ∧ limb m 2 = limb m 2 ∧ limb m 3 = limb m 3) ∧ (a = y.snd.fst ∧ 16 = y.snd.snd.fst ∧ cap = y.snd.snd.snd.fst ∧ ∀ (i : Nat), i < 16 → dg (x12 / x11) i = y.snd.snd.snd.snd i) ∧ 0 = 0 ∧ (if x3 = 0 then 0 else x4 / x3) % M256 = x7 ∧ 0 = 0 ∧ x9 = x8 ∧ 0 = 0 ∧ True) ∧ ∃ (y : Go.Addr × Option Go.Addr × Nat × Nat × (Nat → Int)), (P y.snd.snd.fst y.snd.snd.snd.snd ∧ True) ∧ (a_2 = y.fst ∧ limb m 0 = limb m 0 ∧ limb m 1 = limb m 1 ∧ limb m 2 = limb m 2 ∧ limb m 3 = limb m 3) ∧ (a = y.snd.fst ∧ 16 = y.snd.snd.fst ∧ cap = y.snd.snd.snd.fst ∧ ∀ (i : Nat), i < 16 → dg (x12 / x11) i = y.snd.snd.snd.snd i) ∧ 0 = 0 ∧ (if x3 = 0 then 0 else x4 / x3) % M256 = x7 ∧ 0 = 0 ∧ x9 = x8 ∧ 0 = 0 ∧ True) ∧ ∀ (a_7 : Option Go.Addr) (cap : Nat), (a_7 = Option.none → 8 = 0 ∧ cap = 0) → 8 ≤ cap → ∀ (a_10 : Option Go.Addr) (cap : Nat), (a_10 = Option.none → 8 = 0 ∧ cap = 0) → 8 ≤ cap → (∀ (_ : Nat), True) ∧ (∀ (_ : Nat), True) ∧ (dgs 8 fun (i : Nat) => intsC (SC.val (Go.Value.int Go.IntKind.u64 (dg x6 i)))) ∧ 8 ≤ 1000 ∧ (dgs 8 fun (i : Nat) => intsC (SC.val (Go.Value.int Go.IntKind.u64 (dg x9 i)))) ∧ 8 ≤ 1000 ∧ ∀ (a_13 : Option Go.Addr) (cap : Nat), (a_13 = Option.none → 16 = 0 ∧ cap = 0) → 16 ≤ cap → 1 ≤ 1 ∧ ∀ (_ : Go.Addr), (∀ (_ : Nat), True) ∧ (∀ (_ : Nat), True) ∧ (dgs 16 fun (i : Nat) => intsC (SC.val (Go.Value.int Go.IntKind.u64 (dg ((vn 8 fun (i : Nat) => intsC (SC.val (Go.Value.int Go.IntKind.u64 (dg x6 i)))) * vn 8 fun (i : Nat) => intsC (SC.val (Go.Value.int Go.IntKind.u64 (dg x9 i)))) i)))) ∧ 16 ≤ 1000 ∧ (dgs 1 fun (i : Nat) => intsC (SC.val (Go.Value.int (Go.IntKind.u64, (1 : Int)).fst (selG [SK.c (SC.num Go.IntKind.u64 (1 : Int))] i)))) ∧ 1 ≤ 1000 ∧ 1 ≤ x10 ∧ ∀ (a_17 : Option Go.Addr) (cap : Nat), (a_17 = Option.none → 16 = 0 ∧ cap = 0) → 16 ≤ cap → ((0 : Int) ≤ limb a 0 ∧ limb a 0 < (18446744073709551616 : Int)) ∧ ((0 : Int) ≤ limb a 1 ∧ limb a 1 < (18446744073709551616 : Int)) ∧ ((0 : Int) ≤ limb a 2 ∧ limb a 2 < (18446744073709551616 : Int)) ∧ ((0 : Int) ≤ limb a 3 ∧ limb a 3 < (18446744073709551616 : Int)) ∧ ∀ (a : Option Go.Addr) (cap : Nat), (a = Option.none → 8 = 0 ∧ cap = 0) → 8 ≤ cap → (∀ (_ : Nat), True) ∧ (∀ (_ : Nat), True) ∧ (dgs 16 fun (i : Nat) => intsC (SC.val (Go.Value.int Go.IntKind.u64 (dg ((vn 16 fun (i : Nat) => intsC (SC.val (Go.Value.int Go.IntKind.u64 (dg ((vn 8 fun (i : Nat) => intsC (SC.val (Go.Value.int Go.IntKind.u64 (dg x6 i)))) * vn 8 fun (i : Nat) => intsC (SC.val (Go.Value.int Go.IntKind.u64 (dg x9 i)))) i)))) - 1) i)))) ∧ 16 ≤ 1000 ∧ (dgs 8 fun (i : Nat) => intsC (SC.val (Go.Value.int Go.IntKind.u64 (dg x3 i)))) ∧ 8 ≤ 900 ∧ x11 ≠ 0 ∧ ∀ (a : Option Go.Addr) (cap : Nat), (a = Option.none → 16 = 0 ∧ cap = 0) → 16 ≤ cap → ∀ (a_22 : Option Go.Addr) (cap_1 : Nat), (a_22 = Option.none → x13 = 0 ∧ cap_1 = 0) → x13 ≤ cap_1 → (∃ (y : Go.Addr × Option Go.Addr × Nat × Nat × (Nat → Int)), (P y.snd.snd.fst y.snd.snd.snd.snd ∧ True) ∧ (a_2 = y.fst ∧ limb m 0 = limb m 0 ∧ limb m 1 = limb m 1 ∧ limb m 2 = limb m 2 ∧ limb m 3 = limb m 3) ∧ (a = y.snd.fst ∧ 16 = y.snd.snd.fst ∧ cap = y.snd.snd.snd.fst ∧ ∀ (i : Nat), i < 16 → dg (x12 / x11) i = y.snd.snd.snd.snd i) ∧ 0 = 0 ∧ (if x3 = 0 then 0 else x4 / x3) % M256 = x7 ∧ 0 = 0 ∧ x9 = x8 ∧ 0 = 0 ∧ True) ∧ ∃ (y : Go.Addr × Option Go.Addr × Nat × Nat × (Nat → Int)), (P y.snd.snd.fst y.snd.snd.snd.snd ∧ True) ∧ (a_2 = y.fst ∧ limb m 0 = limb m 0 ∧ limb m 1 = limb m 1 ∧ limb m 2 = limb m 2 ∧ limb m 3 = limb m 3) ∧ (a = y.snd.fst ∧ 16 = y.snd.snd.fst ∧ cap = y.snd.snd.snd.fst ∧ ∀ (i : Nat), i < 16 → dg (x12 / x11) i = y.snd.snd.snd.snd i) ∧ 0 = 0 ∧ (if x3 = 0 then 0 else x4 / x3) % M256 = x7 ∧ 0 = 0 ∧ x9 = x8 ∧ 0 = 0 ∧ True) ∧ (∀ (a_7 : Option Go.Addr) (cap : Nat), (a_7 = Option.none → 8 = 0 ∧ cap = 0) → 8 ≤ cap → ∀ (a_10 : Option Go.Addr) (cap : Nat), (a_10 = Option.none → 8 = 0 ∧ cap = 0) → 8 ≤ cap → (∀ (_ : Nat), True) ∧ (∀ (_ : Nat), True) ∧ (dgs 8 fun (i : Nat) => intsC (SC.val (Go.Value.int Go.IntKind.u64 (dg x6 i)))) ∧ 8 ≤ 1000 ∧ (dgs 8 fun (i : Nat) => intsC (SC.val (Go.Value.int Go.IntKind.u64 (dg x9 i)))) ∧ 8 ≤ 1000 ∧ ∀ (a_13 : Option Go.Addr) (cap : Nat), (a_13 = Option.none → 16 = 0 ∧ cap = 0) → 16 ≤ cap → 1 ≤ 1 ∧ ∀ (_ : Go.Addr), (∀ (_ : Nat), True) ∧ (∀ (_ : Nat), True) ∧ (dgs 16 fun (i : Nat) => intsC (SC.val (Go.Value.int Go.IntKind.u64 (dg ((vn 8 fun (i : Nat) => intsC (SC.val (Go.Value.int Go.IntKind.u64 (dg x6 i)))) * vn 8 fun (i : Nat) => intsC (SC.val (Go.Value.int Go.IntKind.u64 (dg x9 i)))) i)))) ∧ 16 ≤ 1000 ∧ (dgs 1 fun (i : Nat) => intsC (SC.val (Go.Value.int (Go.IntKind.u64, (1 : Int)).fst (selG [SK.c (SC.num Go.IntKind.u64 (1 : Int))] i)))) ∧ 1 ≤ 1000 ∧ 1 ≤ x10 ∧ ∀ (a_17 : Option Go.Addr) (cap : Nat), (a_17 = Option.none → 16 = 0 ∧ cap = 0) → 16 ≤ cap → ((0 : Int) ≤ limb a 0 ∧ limb a 0 < (18446744073709551616 : Int)) ∧ ((0 : Int) ≤ limb a 1 ∧ limb a 1 < (18446744073709551616 : Int)) ∧ ((0 : Int) ≤ limb a 2 ∧ limb a 2 < (18446744073709551616 : Int)) ∧ ((0 : Int) ≤ limb a 3 ∧ limb a 3 < (18446744073709551616 : Int)) ∧ ∀ (a : Option Go.Addr) (cap : Nat), (a = Option.none → 8 = 0 ∧ cap = 0) → 8 ≤ cap → (∀ (_ : Nat), True) ∧ (∀ (_ : Nat), True) ∧ (dgs 16 fun (i : Nat) => intsC (SC.val (Go.Value.int Go.IntKind.u64 (dg ((vn 16 fun (i : Nat) => intsC (SC.val (Go.Value.int Go.IntKind.u64 (dg ((vn 8 fun (i : Nat) => intsC (SC.val (Go.Value.int Go.IntKind.u64 (dg x6 i)))) * vn 8 fun (i : Nat) => intsC (SC.val (Go.Value.int Go.IntKind.u64 (dg x9 i)))) i)))) - 1) i)))) ∧ 16 ≤ 1000 ∧ (dgs 8 fun (i : Nat) => intsC (SC.val (Go.Value.int Go.IntKind.u64 (dg x3 i)))) ∧ 8 ≤ 900 ∧ x11 ≠ 0 ∧ ∀ (a : Option Go.Addr) (cap : Nat), (a = Option.none → 16 = 0 ∧ cap = 0) → 16 ≤ cap → ∀ (a_22 : Option Go.Addr) (cap_1 : Nat), (a_22 = Option.none → x13 = 0 ∧ cap_1 = 0) → x13 ≤ cap_1 → (∃ (y : Go.Addr × Option Go.Addr × Nat × Nat × (Nat → Int)), (P y.snd.snd.fst y.snd.snd.snd.snd ∧ True) ∧ (a_2 = y.fst ∧ limb m 0 = limb m 0 ∧ limb m 1 = limb m 1 ∧ limb m 2 = limb m 2 ∧ limb m 3 = limb m 3) ∧ (a = y.snd.fst ∧ 16 = y.snd.snd.fst ∧ cap = y.snd.snd.snd.fst ∧ ∀ (i : Nat), i < 16 → dg (x12 / x11) i = y.snd.snd.snd.snd i) ∧ 0 = 0 ∧ (if x3 = 0 then 0 else x4 / x3) % M256 = x7 ∧ 0 = 0 ∧ x9 = x8 ∧ 0 = 0 ∧ True) ∧ ∃ (y : Go.Addr × Option Go.Addr × Nat × Nat × (Nat → Int)), (P y.snd.snd.fst y.snd.snd.snd.snd ∧ True) ∧ (a_2 = y.fst ∧ limb m 0 = limb m 0 ∧ limb m 1 = limb m 1 ∧ limb m 2 = limb m 2 ∧ limb m 3 = limb m 3) ∧ (a = y.snd.fst ∧ 16 = y.snd.snd.fst ∧ cap = y.snd.snd.snd.fst ∧ ∀ (i : Nat), i < 16 → dg (x12 / x11) i = y.snd.snd.snd.snd i) ∧ 0 = 0 ∧ (if x3 = 0 then 0 else x4 / x3) % M256 = x7 ∧ 0 = 0 ∧ x9 = x8 ∧ 0 = 0 ∧ True) ∧ ∀ (a_7 : Option Go.Addr) (cap : Nat), (a_7 = Option.none → 8 = 0 ∧ cap = 0) → 8 ≤ cap → ∀ (a_10 : Option Go.Addr) (cap : Nat), (a_10 = Option.none → 8 = 0 ∧ cap = 0) → 8 ≤ cap → (∀ (_ : Nat), True) ∧ (∀ (_ : Nat), True) ∧ (dgs 8 fun (i : Nat) => intsC (SC.val (Go.Value.int Go.IntKind.u64 (dg x6 i)))) ∧ 8 ≤ 1000 ∧ (dgs 8 fun (i : Nat) => intsC (SC.val (Go.Value.int Go.IntKind.u64 (dg x9 i)))) ∧ 8 ≤ 1000 ∧ ∀ (a_13 : Option Go.Addr) (cap : Nat), (a_13 = Option.none → 16 = 0 ∧ cap = 0) → 16 ≤ cap → 1 ≤ 1 ∧ ∀ (_ : Go.Addr), (∀ (_ : Nat), True) ∧ (∀ (_ : Nat), True) ∧ (dgs 16 fun (i : Nat) => intsC (SC.val (Go.Value.int Go.IntKind.u64 (dg ((vn 8 fun (i : Nat) => intsC (SC.val (Go.Value.int Go.IntKind.u64 (dg x6 i)))) * vn 8 fun (i : Nat) => intsC (SC.val (Go.Value.int Go.IntKind.u64 (dg x9 i)))) i)))) ∧ 16 ≤ 1000 ∧ (dgs 1 fun (i : Nat) => intsC (SC.val (Go.Value.int (Go.IntKind.u64, (1 : Int)).fst (selG [SK.c (SC.num Go.IntKind.u64 (1 : Int))] i)))) ∧ 1 ≤ 1000 ∧ 1 ≤ x10 ∧ ∀ (a_17 : Option Go.Addr) (cap : Nat), (a_17 = Option.none → 16 = 0 ∧ cap = 0) → 16 ≤ cap → ((0 : Int) ≤ limb a 0 ∧ limb a 0 < (18446744073709551616 : Int)) ∧ ((0 : Int) ≤ limb a 1 ∧ limb a 1 < (18446744073709551616 : Int)) ∧ ((0 : Int) ≤ limb a 2 ∧ limb a 2 < (18446744073709551616 : Int)) ∧ ((0 : Int) ≤ limb a 3 ∧ limb a 3 < (18446744073709551616 : Int)) ∧ ∀ (a : Option Go.Addr) (cap : Nat), (a = Option.none → 8 = 0 ∧ cap = 0) → 8 ≤ cap → (∀ (_ : Nat), True) ∧ (∀ (_ : Nat), True) ∧ (dgs 16 fun (i : Nat) => intsC (SC.val (Go.Value.int Go.IntKind.u64 (dg ((vn 16 fun (i : Nat) => intsC (SC.val (Go.Value.int Go.IntKind.u64 (dg ((vn 8 fun (i : Nat) => intsC (SC.val (Go.Value.int Go.IntKind.u64 (dg x6 i)))) * vn 8 fun (i : Nat) => intsC (SC.val (Go.Value.int Go.IntKind.u64 (dg x9 i)))) i)))) - 1) i)))) ∧ 16 ≤ 1000 ∧ (dgs 8 fun (i : Nat) => intsC (SC.val (Go.Value.int Go.IntKind.u64 (dg x3 i)))) ∧ 8 ≤ 900 ∧ x11 ≠ 0 ∧ ∀ (a : Option Go.Addr) (cap : Nat), (a = Option.none → 16 = 0 ∧ cap = 0) → 16 ≤ cap → ∀ (a_22 : Option Go.Addr) (cap_1 : Nat), (a_22 = Option.none → x13 = 0 ∧ cap_1 = 0) → x13 ≤ cap_1 → (∃ (y : Go.Addr × Option Go.Addr × Nat × Nat × (Nat → Int)), (P y.snd.snd.fst y.snd.snd.snd.snd ∧ True) ∧ (a_2 = y.fst ∧ limb m 0 = limb m 0 ∧ limb m 1 = limb m 1 ∧ limb m 2 = limb m 2 ∧ limb m 3 = limb m 3) ∧ (a = y.snd.fst ∧ 16 = y.snd.snd.fst ∧ cap = y.snd.snd.snd.fst ∧ ∀ (i : Nat), i < 16 → dg (x12 / x11) i = y.snd.snd.snd.snd i) ∧ 0 = 0 ∧ (if x3 = 0 then 0 else x4 / x3) % M256 = x7 ∧ 0 = 0 ∧ x9 = x8 ∧ 0 = 0 ∧ True) ∧ ∃ (y : Go.Addr × Option Go.Addr × Nat × Nat × (Nat → Int)), (P y.snd.snd.fst y.snd.snd.snd.snd ∧ True) ∧ (a_2 = y.fst ∧ limb m 0 = limb m 0 ∧ limb m 1 = limb m 1 ∧ limb m 2 = limb m 2 ∧ limb m 3 = limb m 3) ∧ (a = y.snd.fst ∧ 16 = y.snd.snd.fst ∧ cap = y.snd.snd.snd.fst ∧ ∀ (i : Nat), i < 16 → dg (x12 / x11) i = y.snd.snd.snd.snd i) ∧ 0 = 0 ∧ (if x3 = 0 then 0 else x4 / x3) % M256 = x7 ∧ 0 = 0 ∧ x9 = x8 ∧ 0 = 0 ∧ True) ∧ (((∀ (a_7 : Option Go.Addr) (cap : Nat), (a_7 = Option.none → 8 = 0 ∧ cap = 0) → 8 ≤ cap → (∀ (a_10 : Option Go.Addr) (cap : Nat), (a_10 = Option.none → 8 = 0 ∧ cap = 0) → 8 ≤ cap → ((∀ (_ : Nat), True) ∧ (∀ (_ : Nat), True) ∧ (dgs 8 fun (i : Nat) => intsC (SC.val (Go.Value.int Go.IntKind.u64 (dg x6 i)))) ∧ 8 ≤ 1000 ∧ (dgs 8 fun (i : Nat) => intsC (SC.val (Go.Value.int Go.IntKind.u64 (dg x9 i)))) ∧ 8 ≤ 1000 ∧ ∀ (a_13 : Option Go.Addr) (cap : Nat), (a_13 = Option.none → 16 = 0 ∧ cap = 0) → 16 ≤ cap → 1 ≤ 1 ∧ ∀ (_ : Go.Addr), (∀ (_ : Nat), True) ∧ (∀ (_ : Nat), True) ∧ (dgs 16 fun (i : Nat) => intsC (SC.val (Go.Value.int Go.IntKind.u64 (dg ((vn 8 fun (i : Nat) => intsC (SC.val (Go.Value.int Go.IntKind.u64 (dg x6 i)))) * vn 8 fun (i : Nat) => intsC (SC.val (Go.Value.int Go.IntKind.u64 (dg x9 i)))) i)))) ∧ 16 ≤ 1000 ∧ (dgs 1 fun (i : Nat) => intsC (SC.val (Go.Value.int (Go.IntKind.u64, (1 : Int)).fst (selG [SK.c (SC.num Go.IntKind.u64 (1 : Int))] i)))) ∧ 1 ≤ 1000 ∧ 1 ≤ x10 ∧ ∀ (a_17 : Option Go.Addr) (cap : Nat), (a_17 = Option.none → 16 = 0 ∧ cap = 0) → 16 ≤ cap → ((0 : Int) ≤ limb a 0 ∧ limb a 0 < (18446744073709551616 : Int)) ∧ ((0 : Int) ≤ limb a 1 ∧ limb a 1 < (18446744073709551616 : Int)) ∧ ((0 : Int) ≤ limb a 2 ∧ limb a 2 < (18446744073709551616 : Int)) ∧ ((0 : Int) ≤ limb a 3 ∧ limb a 3 < (18446744073709551616 : Int)) ∧ ∀ (a : Option Go.Addr) (cap : Nat), (a = Option.none → 8 = 0 ∧ cap = 0) → 8 ≤ cap → (∀ (_ : Nat), True) ∧ (∀ (_ : Nat), True) ∧ (dgs 16 fun (i : Nat) => intsC (SC.val (Go.Value.int Go.IntKind.u64 (dg ((vn 16 fun (i : Nat) => intsC (SC.val (Go.Value.int Go.IntKind.u64 (dg ((vn 8 fun (i : Nat) => intsC (SC.val (Go.Value.int Go.IntKind.u64 (dg x6 i)))) * vn 8 fun (i : Nat) => intsC (SC.val (Go.Value.int Go.IntKind.u64 (dg x9 i)))) i)))) - 1) i)))) ∧ 16 ≤ 1000 ∧ (dgs 8 fun (i : Nat) => intsC (SC.val (Go.Value.int Go.IntKind.u64 (dg x3 i)))) ∧ 8 ≤ 900 ∧ x11 ≠ 0 ∧ ∀ (a : Option Go.Addr) (cap : Nat), (a = Option.none → 16 = 0 ∧ cap = 0) → 16 ≤ cap → ∀ (a_22 : Option Go.Addr) (cap_1 : Nat), (a_22 = Option.none → x13 = 0 ∧ cap_1 = 0) → x13 ≤ cap_1 → (∃ (y : Go.Addr × Option Go.Addr × Nat × Nat × (Nat → Int)), (P y.snd.snd.fst y.snd.snd.snd.snd ∧ True) ∧ (a_2 = y.fst ∧ limb m 0 = limb m 0 ∧ limb m 1 = limb m 1 ∧ limb m 2 = limb m 2 ∧ limb m 3 = limb m 3) ∧ (a = y.snd.fst ∧ 16 = y.snd.snd.fst ∧ cap = y.snd.snd.snd.fst ∧ ∀ (i : Nat), i < 16 → dg (x12 / x11) i = y.snd.snd.snd.snd i) ∧ 0 = 0 ∧ (if x3 = 0 then 0 else x4 / x3) % M256 = x7 ∧ 0 = 0 ∧ x9 = x8 ∧ 0 = 0 ∧ True) ∧ ∃ (y : Go.Addr × Option Go.Addr × Nat × Nat × (Nat → Int)), (P y.snd.snd.fst y.snd.snd.snd.snd ∧ True) ∧ (a_2 = y.fst ∧ limb m 0 = limb m 0 ∧ limb m 1 = limb m 1 ∧ limb m 2 = limb m 2 ∧ limb m 3 = limb m 3) ∧ (a = y.snd.fst ∧ 16 = y.snd.snd.fst ∧ cap = y.snd.snd.snd.fst ∧ ∀ (i : Nat), i < 16 → dg (x12 / x11) i = y.snd.snd.snd.snd i) ∧ 0 = 0 ∧ (if x3 = 0 then 0 else x4 / x3) % M256 = x7 ∧ 0 = 0 ∧ x9 = x8 ∧ 0 = 0 ∧ True) ∧ (∀ (_ : Nat), True) ∧ (∀ (_ : Nat), True) ∧ (dgs 8 fun (i : Nat) => intsC (SC.val (Go.Value.int Go.IntKind.u64 (dg x6 i)))) ∧ 8 ≤ 1000 ∧ (dgs 8 fun (i : Nat) => intsC (SC.val (Go.Value.int Go.IntKind.u64 (dg x9 i)))) ∧ 8 ≤ 1000 ∧ ∀ (a_13 : Option Go.Addr) (cap : Nat), (a_13 = Option.none → 16 = 0 ∧ cap = 0) → 16 ≤ cap → 1 ≤ 1 ∧ ∀ (_ : Go.Addr), (∀ (_ : Nat), True) ∧ (∀ (_ : Nat), True) ∧ (dgs 16 fun (i : Nat) => intsC (SC.val (Go.Value.int Go.IntKind.u64 (dg ((vn 8 fun (i : Nat) => intsC (SC.val (Go.Value.int Go.IntKind.u64 (dg x6 i)))) * vn 8 fun (i : Nat) => intsC (SC.val (Go.Value.int Go.IntKind.u64 (dg x9 i)))) i)))) ∧ 16 ≤ 1000 ∧ (dgs 1 fun (i : Nat) => intsC (SC.val (Go.Value.int (Go.IntKind.u64, (1 : Int)).fst (selG [SK.c (SC.num Go.IntKind.u64 (1 : Int))] i)))) ∧ 1 ≤ 1000 ∧ 1 ≤ x10 ∧ ∀ (a_17 : Option Go.Addr) (cap : Nat), (a_17 = Option.none → 16 = 0 ∧ cap = 0) → 16 ≤ cap → ((0 : Int) ≤ limb a 0 ∧ limb a 0 < (18446744073709551616 : Int)) ∧ ((0 : Int) ≤ limb a 1 ∧ limb a 1 < (18446744073709551616 : Int)) ∧ ((0 : Int) ≤ limb a 2 ∧ limb a 2 < (18446744073709551616 : Int)) ∧ ((0 : Int) ≤ limb a 3 ∧ limb a 3 < (18446744073709551616 : Int)) ∧ ∀ (a : Option Go.Addr) (cap : Nat), (a = Option.none → 8 = 0 ∧ cap = 0) → 8 ≤ cap → (∀ (_ : Nat), True) ∧ (∀ (_ : Nat), True) ∧ (dgs 16 fun (i : Nat) => intsC (SC.val (Go.Value.int Go.IntKind.u64 (dg ((vn 16 fun (i : Nat) => intsC (SC.val (Go.Value.int Go.IntKind.u64 (dg ((vn 8 fun (i : Nat) => intsC (SC.val (Go.Value.int Go.IntKind.u64 (dg x6 i)))) * vn 8 fun (i : Nat) => intsC (SC.val (Go.Value.int Go.IntKind.u64 (dg x9 i)))) i)))) - 1) i)))) ∧ 16 ≤ 1000 ∧ (dgs 8 fun (i : Nat) => intsC (SC.val (Go.Value.int Go.IntKind.u64 (dg x3 i)))) ∧ 8 ≤ 900 ∧ x11 ≠ 0 ∧ ∀ (a : Option Go.Addr) (cap : Nat), (a = Option.none → 16 = 0 ∧ cap = 0) → 16 ≤ cap → ∀ (a_22 : Option Go.Addr) (cap_1 : Nat), (a_22 = Option.none → x13 = 0 ∧ cap_1 = 0) → x13 ≤ cap_1 → (∃ (y : Go.Addr × Option Go.Addr × Nat × Nat × (Nat → Int)), (P y.snd.snd.fst y.snd.snd.snd.snd ∧ True) ∧ (a_2 = y.fst ∧ limb m 0 = limb m 0 ∧ limb m 1 = limb m 1 ∧ limb m 2 = limb m 2 ∧ limb m 3 = limb m 3) ∧ (a = y.snd.fst ∧ 16 = y.snd.snd.fst ∧ cap = y.snd.snd.snd.fst ∧ ∀ (i : Nat), i < 16 → dg (x12 / x11) i = y.snd.snd.snd.snd i) ∧ 0 = 0 ∧ (if x3 = 0 then 0 else x4 / x3) % M256 = x7 ∧ 0 = 0 ∧ x9 = x8 ∧ 0 = 0 ∧ True) ∧ ∃ (y : Go.Addr × Option Go.Addr × Nat × Nat × (Nat → Int)), (P y.snd.snd.fst y.snd.snd.snd.snd ∧ True) ∧ (a_2 = y.fst ∧ limb m 0 = limb m 0 ∧ limb m 1 = limb m 1 ∧ limb m 2 = limb m 2 ∧ limb m 3 = limb m 3) ∧ (a = y.snd.fst ∧ 16 = y.snd.snd.fst ∧ cap = y.snd.snd.snd.fst ∧ ∀ (i : Nat), i < 16 → dg (x12 / x11) i = y.snd.snd.snd.snd i) ∧ 0 = 0 ∧ (if x3 = 0 then 0 else x4 / x3) % M256 = x7 ∧ 0 = 0 ∧ x9 = x8 ∧ 0 = 0 ∧ True) ∧ ∀ (a_10 : Option Go.Addr) (cap : Nat), (a_10 = Option.none → 8 = 0 ∧ cap = 0) → 8 ≤ cap → (∀ (_ : Nat), True) ∧ (∀ (_ : Nat), True) ∧ (dgs 8 fun (i : Nat) => intsC (SC.val (Go.Value.int Go.IntKind.u64 (dg x6 i)))) ∧ 8 ≤ 1000 ∧ (dgs 8 fun (i : Nat) => intsC (SC.val (Go.Value.int Go.IntKind.u64 (dg x9 i)))) ∧ 8 ≤ 1000 ∧ ∀ (a_13 : Option Go.Addr) (cap : Nat), (a_13 = Option.none → 16 = 0 ∧ cap = 0) → 16 ≤ cap → 1 ≤ 1 ∧ ∀ (_ : Go.Addr), (∀ (_ : Nat), True) ∧ (∀ (_ : Nat), True) ∧ (dgs 16 fun (i : Nat) => intsC (SC.val (Go.Value.int Go.IntKind.u64 (dg ((vn 8 fun (i : Nat) => intsC (SC.val (Go.Value.int Go.IntKind.u64 (dg x6 i)))) * vn 8 fun (i : Nat) => intsC (SC.val (Go.Value.int Go.IntKind.u64 (dg x9 i)))) i)))) ∧ 16 ≤ 1000 ∧ (dgs 1 fun (i : Nat) => intsC (SC.val (Go.Value.int (Go.IntKind.u64, (1 : Int)).fst (selG [SK.c (SC.num Go.IntKind.u64 (1 : Int))] i)))) ∧ 1 ≤ 1000 ∧ 1 ≤ x10 ∧ ∀ (a_17 : Option Go.Addr) (cap : Nat), (a_17 = Option.none → 16 = 0 ∧ cap = 0) → 16 ≤ cap → ((0 : Int) ≤ limb a 0 ∧ limb a 0 < (18446744073709551616 : Int)) ∧ ((0 : Int) ≤ limb a 1 ∧ limb a 1 < (18446744073709551616 : Int)) ∧ ((0 : Int) ≤ limb a 2 ∧ limb a 2 < (18446744073709551616 : Int)) ∧ ((0 : Int) ≤ limb a 3 ∧ limb a 3 < (18446744073709551616 : Int)) ∧ ∀ (a : Option Go.Addr) (cap : Nat), (a = Option.none → 8 = 0 ∧ cap = 0) → 8 ≤ cap → (∀ (_ : Nat), True) ∧ (∀ (_ : Nat), True) ∧ (dgs 16 fun (i : Nat) => intsC (SC.val (Go.Value.int Go.IntKind.u64 (dg ((vn 16 fun (i : Nat) => intsC (SC.val (Go.Value.int Go.IntKind.u64 (dg ((vn 8 fun (i : Nat) => intsC (SC.val (Go.Value.int Go.IntKind.u64 (dg x6 i)))) * vn 8 fun (i : Nat) => intsC (SC.val (Go.Value.int Go.IntKind.u64 (dg x9 i)))) i)))) - 1) i)))) ∧ 16 ≤ 1000 ∧ (dgs 8 fun (i : Nat) => intsC (SC.val (Go.Value.int Go.IntKind.u64 (dg x3 i)))) ∧ 8 ≤ 900 ∧ x11 ≠ 0 ∧ ∀ (a : Option Go.Addr) (cap : Nat), (a = Option.none → 16 = 0 ∧ cap = 0) → 16 ≤ cap → ∀ (a_22 : Option Go.Addr) (cap_1 : Nat), (a_22 = Option.none → x13 = 0 ∧ cap_1 = 0) → x13 ≤ cap_1 → (∃ (y : Go.Addr × Option Go.Addr × Nat × Nat × (Nat → Int)), (P y.snd.snd.fst y.snd.snd.snd.snd ∧ True) ∧ (a_2 = y.fst ∧ limb m 0 = limb m 0 ∧ limb m 1 = limb m 1 ∧ limb m 2 = limb m 2 ∧ limb m 3 = limb m 3) ∧ (a = y.snd.fst ∧ 16 = y.snd.snd.fst ∧ cap = y.snd.snd.snd.fst ∧ ∀ (i : Nat), i < 16 → dg (x12 / x11) i = y.snd.snd.snd.snd i) ∧ 0 = 0 ∧ (if x3 = 0 then 0 else x4 / x3) % M256 = x7 ∧ 0 = 0 ∧ x9 = x8 ∧ 0 = 0 ∧ True) ∧ ∃ (y : Go.Addr × Option Go.Addr × Nat × Nat × (Nat → Int)), (P y.snd.snd.fst y.snd.snd.snd.snd ∧ True) ∧ (a_2 = y.fst ∧ limb m 0 = limb m 0 ∧ limb m 1 = limb m 1 ∧ limb m 2 = limb m 2 ∧ limb m 3 = limb m 3) ∧ (a = y.snd.fst ∧ 16 = y.snd.snd.fst ∧ cap = y.snd.snd.snd.fst ∧ ∀ (i : Nat), i < 16 → dg (x12 / x11) i = y.snd.snd.snd.snd i) ∧ 0 = 0 ∧ (if x3 = 0 then 0 else x4 / x3) % M256 = x7 ∧ 0 = 0 ∧ x9 = x8 ∧ 0 = 0 ∧ True) ∧ ∀ (a_7 : Option Go.Addr) (cap : Nat), (a_7 = Option.none → 8 = 0 ∧ cap = 0) → 8 ≤ cap → ∀ (a_10 : Option Go.Addr) (cap : Nat), (a_10 = Option.none → 8 = 0 ∧ cap = 0) → 8 ≤ cap → (∀ (_ : Nat), True) ∧ (∀ (_ : Nat), True) ∧ (dgs 8 fun (i : Nat) => intsC (SC.val (Go.Value.int Go.IntKind.u64 (dg x6 i)))) ∧ 8 ≤ 1000 ∧ (dgs 8 fun (i : Nat) => intsC (SC.val (Go.Value.int Go.IntKind.u64 (dg x9 i)))) ∧ 8 ≤ 1000 ∧ ∀ (a_13 : Option Go.Addr) (cap : Nat), (a_13 = Option.none → 16 = 0 ∧ cap = 0) → 16 ≤ cap → 1 ≤ 1 ∧ ∀ (_ : Go.Addr), (∀ (_ : Nat), True) ∧ (∀ (_ : Nat), True) ∧ (dgs 16 fun (i : Nat) => intsC (SC.val (Go.Value.int Go.IntKind.u64 (dg ((vn 8 fun (i : Nat) => intsC (SC.val (Go.Value.int Go.IntKind.u64 (dg x6 i)))) * vn 8 fun (i : Nat) => intsC (SC.val (Go.Value.int Go.IntKind.u64 (dg x9 i)))) i)))) ∧ 16 ≤ 1000 ∧ (dgs 1 fun (i : Nat) => intsC (SC.val (Go.Value.int (Go.IntKind.u64, (1 : Int)).fst (selG [SK.c (SC.num Go.IntKind.u64 (1 : Int))] i)))) ∧ 1 ≤ 1000 ∧ 1 ≤ x10 ∧ ∀ (a_17 : Option Go.Addr) (cap : Nat), (a_17 = Option.none → 16 = 0 ∧ cap = 0) → 16 ≤ cap → ((0 : Int) ≤ limb a 0 ∧ limb a 0 < (18446744073709551616 : Int)) ∧ ((0 : Int) ≤ limb a 1 ∧ limb a 1 < (18446744073709551616 : Int)) ∧ ((0 : Int) ≤ limb a 2 ∧ limb a 2 < (18446744073709551616 : Int)) ∧ ((0 : Int) ≤ limb a 3 ∧ limb a 3 < (18446744073709551616 : Int)) ∧ ∀ (a : Option Go.Addr) (cap : Nat), (a = Option.none → 8 = 0 ∧ cap = 0) → 8 ≤ cap → (∀ (_ : Nat), True) ∧ (∀ (_ : Nat), True) ∧ (dgs 16 fun (i : Nat) => intsC (SC.val (Go.Value.int Go.IntKind.u64 (dg ((vn 16 fun (i : Nat) => intsC (SC.val (Go.Value.int Go.IntKind.u64 (dg ((vn 8 fun (i : Nat) => intsC (SC.val (Go.Value.int Go.IntKind.u64 (dg x6 i)))) * vn 8 fun (i : Nat) => intsC (SC.val (Go.Value.int Go.IntKind.u64 (dg x9 i)))) i)))) - 1) i)))) ∧ 16 ≤ 1000 ∧ (dgs 8 fun (i : Nat) => intsC (SC.val (Go.Value.int Go.IntKind.u64 (dg x3 i)))) ∧ 8 ≤ 900 ∧ x11 ≠ 0 ∧ ∀ (a : Option Go.Addr) (cap : Nat), (a = Option.none → 16 = 0 ∧ cap = 0) → 16 ≤ cap → ∀ (a_22 : Option Go.Addr) (cap_1 : Nat), (a_22 = Option.none → x13 = 0 ∧ cap_1 = 0) → x13 ≤ cap_1 → (∃ (y : Go.Addr × Option Go.Addr × Nat × Nat × (Nat → Int)), (P y.snd.snd.fst y.snd.snd.snd.snd ∧ True) ∧ (a_2 = y.fst ∧ limb m 0 = limb m 0 ∧ limb m 1 = limb m 1 ∧ limb m 2 = limb m 2 ∧ limb m 3 = limb m 3) ∧ (a = y.snd.fst ∧ 16 = y.snd.snd.fst ∧ cap = y.snd.snd.snd.fst ∧ ∀ (i : Nat), i < 16 → dg (x12 / x11) i = y.snd.snd.snd.snd i) ∧ 0 = 0 ∧ (if x3 = 0 then 0 else x4 / x3) % M256 = x7 ∧ 0 = 0 ∧ x9 = x8 ∧ 0 = 0 ∧ True) ∧ ∃ (y : Go.Addr × Option Go.Addr × Nat × Nat × (Nat → Int)), (P y.snd.snd.fst y.snd.snd.snd.snd ∧ True) ∧ (a_2 = y.fst ∧ limb m 0 = limb m 0 ∧ limb m 1 = limb m 1 ∧ limb m 2 = limb m 2 ∧ limb m 3 = limb m 3) ∧ (a = y.snd.fst ∧ 16 = y.snd.snd.fst ∧ cap = y.snd.snd.snd.fst ∧ ∀ (i : Nat), i < 16 → dg (x12 / x11) i = y.snd.snd.snd.snd i) ∧ 0 = 0 ∧ (if x3 = 0 then 0 else x4 / x3) % M256 = x7 ∧ 0 = 0 ∧ x9 = x8 ∧ 0 = 0 ∧ True) ∧ ∀ (a_7 : Option Go.Addr) (cap : Nat), (a_7 = Option.none → 8 = 0 ∧ cap = 0) → 8 ≤ cap → ∀ (a_10 : Option Go.Addr) (cap : Nat), (a_10 = Option.none → 8 = 0 ∧ cap = 0) → 8 ≤ cap → (∀ (_ : Nat), True) ∧ (∀ (_ : Nat), True) ∧ (dgs 8 fun (i : Nat) => intsC (SC.val (Go.Value.int Go.IntKind.u64 (dg x6 i)))) ∧ 8 ≤ 1000 ∧ (dgs 8 fun (i : Nat) => intsC (SC.val (Go.Value.int Go.IntKind.u64 (dg x9 i)))) ∧ 8 ≤ 1000 ∧ ∀ (a_13 : Option Go.Addr) (cap : Nat), (a_13 = Option.none → 16 = 0 ∧ cap = 0) → 16 ≤ cap → 1 ≤ 1 ∧ ∀ (_ : Go.Addr), (∀ (_ : Nat), True) ∧ (∀ (_ : Nat), True) ∧ (dgs 16 fun (i : Nat) => intsC (SC.val (Go.Value.int Go.IntKind.u64 (dg ((vn 8 fun (i : Nat) => intsC (SC.val (Go.Value.int Go.IntKind.u64 (dg x6 i)))) * vn 8 fun (i : Nat) => intsC (SC.val (Go.Value.int Go.IntKind.u64 (dg x9 i)))) i)))) ∧ 16 ≤ 1000 ∧ (dgs 1 fun (i : Nat) => intsC (SC.val (Go.Value.int (Go.IntKind.u64, (1 : Int)).fst (selG [SK.c (SC.num Go.IntKind.u64 (1 : Int))] i)))) ∧ 1 ≤ 1000 ∧ 1 ≤ x10 ∧ ∀ (a_17 : Option Go.Addr) (cap : Nat), (a_17 = Option.none → 16 = 0 ∧ cap = 0) → 16 ≤ cap → ((0 : Int) ≤ limb a 0 ∧ limb a 0 < (18446744073709551616 : Int)) ∧ ((0 : Int) ≤ limb a 1 ∧ limb a 1 < (18446744073709551616 : Int)) ∧ ((0 : Int) ≤ limb a 2 ∧ limb a 2 < (18446744073709551616 : Int)) ∧ ((0 : Int) ≤ limb a 3 ∧ limb a 3 < (18446744073709551616 : Int)) ∧ ∀ (a : Option Go.Addr) (cap : Nat), (a = Option.none → 8 = 0 ∧ cap = 0) → 8 ≤ cap → (∀ (_ : Nat), True) ∧ (∀ (_ : Nat), True) ∧ (dgs 16 fun (i : Nat) => intsC (SC.val (Go.Value.int Go.IntKind.u64 (dg ((vn 16 fun (i : Nat) => intsC (SC.val (Go.Value.int Go.IntKind.u64 (dg ((vn 8 fun (i : Nat) => intsC (SC.val (Go.Value.int Go.IntKind.u64 (dg x6 i)))) * vn 8 fun (i : Nat) => intsC (SC.val (Go.Value.int Go.IntKind.u64 (dg x9 i)))) i)))) - 1) i)))) ∧ 16 ≤ 1000 ∧ (dgs 8 fun (i : Nat) => intsC (SC.val (Go.Value.int Go.IntKind.u64 (dg x3 i)))) ∧ 8 ≤ 900 ∧ x11 ≠ 0 ∧ ∀ (a : Option Go.Addr) (cap : Nat), (a = Option.none → 16 = 0 ∧ cap = 0) → 16 ≤ cap → ∀ (a_22 : Option Go.Addr) (cap_1 : Nat), (a_22 = Option.none → x13 = 0 ∧ cap_1 = 0) → x13 ≤ cap_1 → (∃ (y : Go.Addr × Option Go.Addr × Nat × Nat × (Nat → Int)), (P y.snd.snd.fst y.snd.snd.snd.snd ∧ True) ∧ (a_2 = y.fst ∧ limb m 0 = limb m 0 ∧ limb m 1 = limb m 1 ∧ limb m 2 = limb m 2 ∧ limb m 3 = limb m 3) ∧ (a = y.snd.fst ∧ 16 = y.snd.snd.fst ∧ cap = y.snd.snd.snd.fst ∧ ∀ (i : Nat), i < 16 → dg (x12 / x11) i = y.snd.snd.snd.snd i) ∧ 0 = 0 ∧ (if x3 = 0 then 0 else x4 / x3) % M256 = x7 ∧ 0 = 0 ∧ x9 = x8 ∧ 0 = 0 ∧ True) ∧ ∃ (y : Go.Addr × Option Go.Addr × Nat × Nat × (Nat → Int)), (P y.snd.snd.fst y.snd.snd.snd.snd ∧ True) ∧ (a_2 = y.fst ∧ limb m 0 = limb m 0 ∧ limb m 1 = limb m 1 ∧ limb m 2 = limb m 2 ∧ limb m 3 = limb m 3) ∧ (a = y.snd.fst ∧ 16 = y.snd.snd.fst ∧ cap = y.snd.snd.snd.fst ∧ ∀ (i : Nat), i < 16 → dg (x12 / x11) i = y.snd.snd.snd.snd i) ∧ 0 = 0 ∧ (if x3 = 0 then 0 else x4 / x3) % M256 = x7 ∧ 0 = 0 ∧ x9 = x8 ∧ 0 = 0 ∧ True) ∧ ((∀ (a_7 : Option Go.Addr) (cap : Nat), (a_7 = Option.none → 8 = 0 ∧ cap = 0) → 8 ≤ cap → ∀ (a_10 : Option Go.Addr) (cap : Nat), (a_10 = Option.none → 8 = 0 ∧ cap = 0) → 8 ≤ cap → (∀ (_ : Nat), True) ∧ (∀ (_ : Nat), True) ∧ (dgs 8 fun (i : Nat) => intsC (SC.val (Go.Value.int Go.IntKind.u64 (dg x6 i)))) ∧ 8 ≤ 1000 ∧ (dgs 8 fun (i : Nat) => intsC (SC.val (Go.Value.int Go.IntKind.u64 (dg x9 i)))) ∧ 8 ≤ 1000 ∧ ∀ (a_13 : Option Go.Addr) (cap : Nat), (a_13 = Option.none → 16 = 0 ∧ cap = 0) → 16 ≤ cap → 1 ≤ 1 ∧ ∀ (_ : Go.Addr), (∀ (_ : Nat), True) ∧ (∀ (_ : Nat), True) ∧ (dgs 16 fun (i : Nat) => intsC (SC.val (Go.Value.int Go.IntKind.u64 (dg ((vn 8 fun (i : Nat) => intsC (SC.val (Go.Value.int Go.IntKind.u64 (dg x6 i)))) * vn 8 fun (i : Nat) => intsC (SC.val (Go.Value.int Go.IntKind.u64 (dg x9 i)))) i)))) ∧ 16 ≤ 1000 ∧ (dgs 1 fun (i : Nat) => intsC (SC.val (Go.Value.int (Go.IntKind.u64, (1 : Int)).fst (selG [SK.c (SC.num Go.IntKind.u64 (1 : Int))] i)))) ∧ 1 ≤ 1000 ∧ 1 ≤ x10 ∧ ∀ (a_17 : Option Go.Addr) (cap : Nat), (a_17 = Option.none → 16 = 0 ∧ cap = 0) → 16 ≤ cap → ((0 : Int) ≤ limb a 0 ∧ limb a 0 < (18446744073709551616 : Int)) ∧ ((0 : Int) ≤ limb a 1 ∧ limb a 1 < (18446744073709551616 : Int)) ∧ ((0 : Int) ≤ limb a 2 ∧ limb a 2 < (18446744073709551616 : Int)) ∧ ((0 : Int) ≤ limb a 3 ∧ limb a 3 < (18446744073709551616 : Int)) ∧ ∀ (a : Option Go.Addr) (cap : Nat), (a = Option.none → 8 = 0 ∧ cap = 0) → 8 ≤ cap → (∀ (_ : Nat), True) ∧ (∀ (_ : Nat), True) ∧ (dgs 16 fun (i : Nat) => intsC (SC.val (Go.Value.int Go.IntKind.u64 (dg ((vn 16 fun (i : Nat) => intsC (SC.val (Go.Value.int Go.IntKind.u64 (dg ((vn 8 fun (i : Nat) => intsC (SC.val (Go.Value.int Go.IntKind.u64 (dg x6 i)))) * vn 8 fun (i : Nat) => intsC (SC.val (Go.Value.int Go.IntKind.u64 (dg x9 i)))) i)))) - 1) i)))) ∧ 16 ≤ 1000 ∧ (dgs 8 fun (i : Nat) => intsC (SC.val (Go.Value.int Go.IntKind.u64 (dg x3 i)))) ∧ 8 ≤ 900 ∧ x11 ≠ 0 ∧ ∀ (a : Option Go.Addr) (cap : Nat), (a = Option.none → 16 = 0 ∧ cap = 0) → 16 ≤ cap → ∀ (a_22 : Option Go.Addr) (cap_1 : Nat), (a_22 = Option.none → x13 = 0 ∧ cap_1 = 0) → x13 ≤ cap_1 → (∃ (y : Go.Addr × Option Go.Addr × Nat × Nat × (Nat → Int)), (P y.snd.snd.fst y.snd.snd.snd.snd ∧ True) ∧ (a_2 = y.fst ∧ limb m 0 = limb m 0 ∧ limb m 1 = limb m 1 ∧ limb m 2 = limb m 2 ∧ limb m 3 = limb m 3) ∧ (a = y.snd.fst ∧ 16 = y.snd.snd.fst ∧ cap = y.snd.snd.snd.fst ∧ ∀ (i : Nat), i < 16 → dg (x12 / x11) i = y.snd.snd.snd.snd i) ∧ 0 = 0 ∧ (if x3 = 0 then 0 else x4 / x3) % M256 = x7 ∧ 0 = 0 ∧ x9 = x8 ∧ 0 = 0 ∧ True) ∧ ∃ (y : Go.Addr × Option Go.Addr × Nat × Nat × (Nat → Int)), (P y.snd.snd.fst y.snd.snd.snd.snd ∧ True) ∧ (a_2 = y.fst ∧ limb m 0 = limb m 0 ∧ limb m 1 = limb m 1 ∧ limb m 2 = limb m 2 ∧ limb m 3 = limb m 3) ∧ (a = y.snd.fst ∧ 16 = y.snd.snd.fst ∧ cap = y.snd.snd.snd.fst ∧ ∀ (i : Nat), i < 16 → dg (x12 / x11) i = y.snd.snd.snd.snd i) ∧ 0 = 0 ∧ (if x3 = 0 then 0 else x4 / x3) % M256 = x7 ∧ 0 = 0 ∧ x9 = x8 ∧ 0 = 0 ∧ True) ∧ ∀ (a_7 : Option Go.Addr) (cap : Nat), (a_7 = Option.none → 8 = 0 ∧ cap = 0) → 8 ≤ cap → ∀ (a_10 : Option Go.Addr) (cap : Nat), (a_10 = Option.none → 8 = 0 ∧ cap = 0) → 8 ≤ cap → (∀ (_ : Nat), True) ∧ (∀ (_ : Nat), True) ∧ (dgs 8 fun (i : Nat) => intsC (SC.val (Go.Value.int Go.IntKind.u64 (dg x6 i)))) ∧ 8 ≤ 1000 ∧ (dgs 8 fun (i : Nat) => intsC (SC.val (Go.Value.int Go.IntKind.u64 (dg x9 i)))) ∧ 8 ≤ 1000 ∧ ∀ (a_13 : Option Go.Addr) (cap : Nat), (a_13 = Option.none → 16 = 0 ∧ cap = 0) → 16 ≤ cap → 1 ≤ 1 ∧ ∀ (_ : Go.Addr), (∀ (_ : Nat), True) ∧ (∀ (_ : Nat), True) ∧ (dgs 16 fun (i : Nat) => intsC (SC.val (Go.Value.int Go.IntKind.u64 (dg ((vn 8 fun (i : Nat) => intsC (SC.val (Go.Value.int Go.IntKind.u64 (dg x6 i)))) * vn 8 fun (i : Nat) => intsC (SC.val (Go.Value.int Go.IntKind.u64 (dg x9 i)))) i)))) ∧ 16 ≤ 1000 ∧ (dgs 1 fun (i : Nat) => intsC (SC.val (Go.Value.int (Go.IntKind.u64, (1 : Int)).fst (selG [SK.c (SC.num Go.IntKind.u64 (1 : Int))] i)))) ∧ 1 ≤ 1000 ∧ 1 ≤ x10 ∧ ∀ (a_17 : Option Go.Addr) (cap : Nat), (a_17 = Option.none → 16 = 0 ∧ cap = 0) → 16 ≤ cap → ((0 : Int) ≤ limb a 0 ∧ limb a 0 < (18446744073709551616 : Int)) ∧ ((0 : Int) ≤ limb a 1 ∧ limb a 1 < (18446744073709551616 : Int)) ∧ ((0 : Int) ≤ limb a 2 ∧ limb a 2 < (18446744073709551616 : Int)) ∧ ((0 : Int) ≤ limb a 3 ∧ limb a 3 < (18446744073709551616 : Int)) ∧ ∀ (a : Option Go.Addr) (cap : Nat), (a = Option.none → 8 = 0 ∧ cap = 0) → 8 ≤ cap → (∀ (_ : Nat), True) ∧ (∀ (_ : Nat), True) ∧ (dgs 16 fun (i : Nat) => intsC (SC.val (Go.Value.int Go.IntKind.u64 (dg ((vn 16 fun (i : Nat) => intsC (SC.val (Go.Value.int Go.IntKind.u64 (dg ((vn 8 fun (i : Nat) => intsC (SC.val (Go.Value.int Go.IntKind.u64 (dg x6 i)))) * vn 8 fun (i : Nat) => intsC (SC.val (Go.Value.int Go.IntKind.u64 (dg x9 i)))) i)))) - 1) i)))) ∧ 16 ≤ 1000 ∧ (dgs 8 fun (i : Nat) => intsC (SC.val (Go.Value.int Go.IntKind.u64 (dg x3 i)))) ∧ 8 ≤ 900 ∧ x11 ≠ 0 ∧ ∀ (a : Option Go.Addr) (cap : Nat), (a = Option.none → 16 = 0 ∧ cap = 0) → 16 ≤ cap → ∀ (a_22 : Option Go.Addr) (cap_1 : Nat), (a_22 = Option.none → x13 = 0 ∧ cap_1 = 0) → x13 ≤ cap_1 → (∃ (y : Go.Addr × Option Go.Addr × Nat × Nat × (Nat → Int)), (P y.snd.snd.fst y.snd.snd.snd.snd ∧ True) ∧ (a_2 = y.fst ∧ limb m 0 = limb m 0 ∧ limb m 1 = limb m 1 ∧ limb m 2 = limb m 2 ∧ limb m 3 = limb m 3) ∧ (a = y.snd.fst ∧ 16 = y.snd.snd.fst ∧ cap = y.snd.snd.snd.fst ∧ ∀ (i : Nat), i < 16 → dg (x12 / x11) i = y.snd.snd.snd.snd i) ∧ 0 = 0 ∧ (if x3 = 0 then 0 else x4 / x3) % M256 = x7 ∧ 0 = 0 ∧ x9 = x8 ∧ 0 = 0 ∧ True) ∧ ∃ (y : Go.Addr × Option Go.Addr × Nat × Nat × (Nat → Int)), (P y.snd.snd.fst y.snd.snd.snd.snd ∧ True) ∧ (a_2 = y.fst ∧ limb m 0 = limb m 0 ∧ limb m 1 = limb m 1 ∧ limb m 2 = limb m 2 ∧ limb m 3 = limb m 3) ∧ (a = y.snd.fst ∧ 16 = y.snd.snd.fst ∧ cap = y.snd.snd.snd.fst ∧ ∀ (i : Nat), i < 16 → dg (x12 / x11) i = y.snd.snd.snd.snd i) ∧ 0 = 0 ∧ (if x3 = 0 then 0 else x4 / x3) % M256 = x7 ∧ 0 = 0 ∧ x9 = x8 ∧ 0 = 0 ∧ True) ∧ ∀ (a_7 : Option Go.Addr) (cap : Nat), (a_7 = Option.none → 8 = 0 ∧ cap = 0) → 8 ≤ cap → ∀ (a_10 : Option Go.Addr) (cap : Nat), (a_10 = Option.none → 8 = 0 ∧ cap = 0) → 8 ≤ cap → (∀ (_ : Nat), True) ∧ (∀ (_ : Nat), True) ∧ (dgs 8 fun (i : Nat) => intsC (SC.val (Go.Value.int Go.IntKind.u64 (dg x6 i)))) ∧ 8 ≤ 1000 ∧ (dgs 8 fun (i : Nat) => intsC (SC.val (Go.Value.int Go.IntKind.u64 (dg x9 i)))) ∧ 8 ≤ 1000 ∧ ∀ (a_13 : Option Go.Addr) (cap : Nat), (a_13 = Option.none → 16 = 0 ∧ cap = 0) → 16 ≤ cap → 1 ≤ 1 ∧ ∀ (_ : Go.Addr), (∀ (_ : Nat), True) ∧ (∀ (_ : Nat), True) ∧ (dgs 16 fun (i : Nat) => intsC (SC.val (Go.Value.int Go.IntKind.u64 (dg ((vn 8 fun (i : Nat) => intsC (SC.val (Go.Value.int Go.IntKind.u64 (dg x6 i)))) * vn 8 fun (i : Nat) => intsC (SC.val (Go.Value.int Go.IntKind.u64 (dg x9 i)))) i)))) ∧ 16 ≤ 1000 ∧ (dgs 1 fun (i : Nat) => intsC (SC.val (Go.Value.int (Go.IntKind.u64, (1 : Int)).fst (selG [SK.c (SC.num Go.IntKind.u64 (1 : Int))] i)))) ∧ 1 ≤ 1000 ∧ 1 ≤ x10 ∧ ∀ (a_17 : Option Go.Addr) (cap : Nat), (a_17 = Option.none → 16 = 0 ∧ cap = 0) → 16 ≤ cap → ((0 : Int) ≤ limb a 0 ∧ limb a 0 < (18446744073709551616 : Int)) ∧ ((0 : Int) ≤ limb a 1 ∧ limb a 1 < (18446744073709551616 : Int)) ∧ ((0 : Int) ≤ limb a 2 ∧ limb a 2 < (18446744073709551616 : Int)) ∧ ((0 : Int) ≤ limb a 3 ∧ limb a 3 < (18446744073709551616 : Int)) ∧ ∀ (a : Option Go.Addr) (cap : Nat), (a = Option.none → 8 = 0 ∧ cap = 0) → 8 ≤ cap → (∀ (_ : Nat), True) ∧ (∀ (_ : Nat), True) ∧ (dgs 16 fun (i : Nat) => intsC (SC.val (Go.Value.int Go.IntKind.u64 (dg ((vn 16 fun (i : Nat) => intsC (SC.val (Go.Value.int Go.IntKind.u64 (dg ((vn 8 fun (i : Nat) => intsC (SC.val (Go.Value.int Go.IntKind.u64 (dg x6 i)))) * vn 8 fun (i : Nat) => intsC (SC.val (Go.Value.int Go.IntKind.u64 (dg x9 i)))) i)))) - 1) i)))) ∧ 16 ≤ 1000 ∧ (dgs 8 fun (i : Nat) => intsC (SC.val (Go.Value.int Go.IntKind.u64 (dg x3 i)))) ∧ 8 ≤ 900 ∧ x11 ≠ 0 ∧ ∀ (a : Option Go.Addr) (cap : Nat), (a = Option.none → 16 = 0 ∧ cap = 0) → 16 ≤ cap → ∀ (a_22 : Option Go.Addr) (cap_1 : Nat), (a_22 = Option.none → x13 = 0 ∧ cap_1 = 0) → x13 ≤ cap_1 → (∃ (y : Go.Addr × Option Go.Addr × Nat × Nat × (Nat → Int)), (P y.snd.snd.fst y.snd.snd.snd.snd ∧ True) ∧ (a_2 = y.fst ∧ limb m 0 = limb m 0 ∧ limb m 1 = limb m 1 ∧ limb m 2 = limb m 2 ∧ limb m 3 = limb m 3) ∧ (a = y.snd.fst ∧ 16 = y.snd.snd.fst ∧ cap = y.snd.snd.snd.fst ∧ ∀ (i : Nat), i < 16 → dg (x12 / x11) i = y.snd.snd.snd.snd i) ∧ 0 = 0 ∧ (if x3 = 0 then 0 else x4 / x3) % M256 = x7 ∧ 0 = 0 ∧ x9 = x8 ∧ 0 = 0 ∧ True) ∧ ∃ (y : Go.Addr × Option Go.Addr × Nat × Nat × (Nat → Int)), (P y.snd.snd.fst y.snd.snd.snd.snd ∧ True) ∧ (a_2 = y.fst ∧ limb m 0 = limb m 0 ∧ limb m 1 = limb m 1 ∧ limb m 2 = limb m 2 ∧ limb m 3 = limb m 3) ∧ (a = y.snd.fst ∧ 16 = y.snd.snd.fst ∧ cap = y.snd.snd.snd.fst ∧ ∀ (i : Nat), i < 16 → dg (x12 / x11) i = y.snd.snd.snd.snd i) ∧ 0 = 0 ∧ (if x3 = 0 then 0 else x4 / x3) % M256 = x7 ∧ 0 = 0 ∧ x9 = x8 ∧ 0 = 0 ∧ True))))) := by kernel_rfl
end Go.Proofs.Yteimeidpcgebkaa
end

section
namespace Go.Proofs.Yteimeidpcgebkaa
open Go Go.Sx Go.RowKit
theorem rinv_uniq {A N x y : Nat} (hx : x < N) (hy : y < N) (h1 : A * x % N = 1 % N) (h2 : A * y % N = 1 % N) : x = y := by
 have e : A * x * y % N = y := by rw [Nat.mul_mod, h1, ← Nat.mul_mod, Nat.one_mul, Nat.mod_eq_of_lt hy]
 have f : A * y * x % N = x := by rw [Nat.mul_mod, h2, ← Nat.mul_mod, Nat.one_mul, Nat.mod_eq_of_lt hx]
 rw [← f, Nat.mul_right_comm, e]
theorem back_one {A r s : Nat} (hA : 1 < A) (h : r * s % A = 1 % A) : 1 ≤ r * s ∧ A * ((r * s - 1) / A) + 1 = r * s := by
 rw [Nat.mod_eq_of_lt hA] at h
 have d := Nat.div_add_mod (r * s) A
 rw [h] at d
 refine ⟨by omega, ?_⟩
 have e : r * s - 1 = A * (r * s / A) := by omega
 rw [e, Nat.mul_div_cancel_left _ (by omega)]
 exact d
theorem back_step {A N s : Nat} (hA : 1 < A) (hN : A < N) (hg : Nat.gcd A N = 1) (hs : N % A * s % A = 1 % A) :
  (if (N / A * s + (N % A * s - 1) / A) % N = 0 then 0 else N - (N / A * s + (N % A * s - 1) / A) % N) = invN A N := by
 obtain ⟨i1, i2⟩ := invN_spec hN hg
 obtain ⟨_, b2⟩ := back_one hA hs
 have d := Nat.div_add_mod N A
 generalize (N % A * s - 1) / A = k at *
 generalize N / A = q at *
 generalize N % A = r at *
 have e : A * (q * s + k) + 1 = N * s := by
  rw [Nat.mul_add, ← Nat.mul_assoc, Nat.add_assoc, b2, ← Nat.add_mul, d]
 have dt := Nat.div_add_mod (q * s + k) N
 generalize (q * s + k) / N = c at *
 have hw := Nat.mod_lt (q * s + k) (show 0 < N by omega)
 generalize (q * s + k) % N = w at *
 generalize q * s + k = t at *
 by_cases h0 : w = 0
 ·exfalso
  rw [h0, Nat.add_zero] at dt
  rw [← dt] at e
  have h1 : (A * (N * c) + 1) % N = 1 % N := by
   rw [show A * (N * c) = N * (A * c) by rw [← Nat.mul_assoc, Nat.mul_comm A N, Nat.mul_assoc], Nat.mul_add_mod]
  rw [e, Nat.mul_mod_right, Nat.mod_eq_of_lt (by omega)] at h1
  omega
 ·rw [if_neg h0]
  refine rinv_uniq (A := A) (N := N) (by omega) i1 ?_ i2
  have h1 : A * (N - w) + N * s = N * (A + A * c) + 1 := by
   have e2 : A * (N - w) + A * w = A * N := by rw [← Nat.mul_add]; congr 1; omega
   have e3 : A * (N * c) + A * w = A * t := by rw [← Nat.mul_add, dt]
   have e4 : N * (A + A * c) = A * N + A * (N * c) := by rw [Nat.mul_add, Nat.mul_comm N A, ← Nat.mul_assoc, ← Nat.mul_assoc, Nat.mul_comm N A]
   rw [e4]
   omega
  have h2 : (A * (N - w) + N * s) % N = A * (N - w) % N := Nat.add_mul_mod_self_left _ _ _
  rw [← h2, h1, Nat.mul_add_mod]
def rivX (a m : Nat) : Nat := if Nat.gcd (a % M256) (m % M256) = 1 then invN (a % M256) (m % M256) else 0
def rivB (a m : Nat) : Bool := decide (Nat.gcd (a % M256) (m % M256) = 1)
theorem limb_natR (a i : Nat) : ∃ c : Nat, limb a i = (c : Int) ∧ c < 18446744073709551616 := by
 have := limb_range a i
 exact ⟨(limb a i).toNat, by omega, by omega⟩
theorem conj_lit (m : Nat) (c : Int) (hc : 0 ≤ c ∧ c < 18446744073709551616) : conj [limb m 0 == c, limb m 1 == 0, limb m 2 == 0, limb m 3 == 0] = decide (((m % M256 : Nat) : Int) = c) := by
 have hj := join_limbs m
 obtain ⟨c0, k0, q0⟩ := limb_natR m 0
 obtain ⟨c1, k1, q1⟩ := limb_natR m 1
 obtain ⟨c2, k2, q2⟩ := limb_natR m 2
 obtain ⟨c3, k3, q3⟩ := limb_natR m 3
 rw [k0, k1, k2, k3] at hj ⊢
 unfold join at hj
 simp only [Int.toNat_natCast] at hj
 rw [← hj, Bool.eq_iff_iff, decide_eq_true_eq]
 simp only [conj, Bool.and_eq_true, beq_iff_eq]
 omega
def pRI (K : Nat) (n : Nat) (f : Nat → Int) : Prop := n = 16 ∧ ∀ i, i < 16 → f i = dg K i
theorem rivX_lt {a m : Nat} (h : a % M256 < m % M256) : rivX a m < M256 := by
 unfold rivX
 split
 ·rename_i g
  exact Nat.lt_trans (invN_spec h g).1 (modM m)
 ·exact (by decide : 0 < M256)
end Go.Proofs.Yteimeidpcgebkaa
end

section
namespace Go.Proofs.Yteimeidpcgebkaa
open Go Go.Sx Go.RowKit
set_option maxHeartbeats 4000000 in
theorem ok_refInv (k a m : Nat) (hk : m % M256 < k + 1) (ham : a % M256 < m % M256) :
  OwesV Try.prog (cxRIv rivX rivB k) slRest [(11, .cut (cutRI m (m % M256 / (a % M256)) (rivX (m % M256 % (a % M256)) (a % M256)) (pRI ((m % M256 % (a % M256) * rivX (m % M256 % (a % M256)) (a % M256) - 1) / (a % M256)))) (fun _ _ => True))] 8 Try.f44 [sU a, sU m] (rivG rivX rivB a m) := by
 rw [vc_refInv]
 have hA := modM a
 have hN := modM m
 have lM := fun i => limb_range m i
 have lA := fun i => limb_range a i
 have cm1 := conj_lit m 1 ⟨by decide, by decide⟩
 have ca0 := conj_lit a 0 ⟨by decide, by decide⟩
 have ca1 := conj_lit a 1 ⟨by decide, by decide⟩
 have rX : rivX a m = if Nat.gcd (a % M256) (m % M256) = 1 then invN (a % M256) (m % M256) else 0 := rfl
 have rB : rivB a m = decide (Nat.gcd (a % M256) (m % M256) = 1) := rfl
 have M0 : 0 % M256 = 0 := Nat.zero_mod _
 have xlt := rivX_lt ham
 rw [cm1, ca0, ca1, join_limbs a, join_limbs m]
 intro x1 x2 x3 x4 x5 x6 x7 x8 x9 x10 x11 x12 x13
 have E1 : x1 = rivX a m := Nat.mod_eq_of_lt xlt
 have E2 : x2 = a % M256 := rfl
 have E3 : x3 = a % M256 := Nat.mod_eq_of_lt hA
 have E4 : x4 = m % M256 := Nat.mod_eq_of_lt hN
 have E5 : x5 = if x3 = 0 then 0 else x4 % x3 := rfl
 have E6 : x6 = x5 % M256 := rfl
 have E7 : x7 = m % M256 / (a % M256) % M256 := rfl
 have E8 : x8 = rivX (m % M256 % (a % M256)) (a % M256) % M256 := rfl
 have E9 : x9 = rivX x5 x2 % M256 := rfl
 have E10 : x10 = vn 16 fun i => dg ((vn 8 fun i => dg x6 i) * vn 8 fun i => dg x9 i) i := rfl
 have E11 : x11 = vn 8 fun i => dg x3 i := rfl
 have E12 : x12 = vn 16 fun i => dg (x10 - 1) i := rfl
 rw [rB]
 clear_value x1 x2 x3 x4 x5 x6 x7 x8 x9 x10 x11 x12 x13
 rw [rX] at E1
 generalize m % M256 = N at *
 generalize a % M256 = A at *
 subst E3 E4
 refine fun a1 a2 => ⟨fun h => ?_, fun h => ⟨fun h0 => ?_, fun h0 => ⟨fun h1 => ?_, fun h1 => ?_⟩⟩⟩
 ·have h : ((x4 : Nat) : Int) = 1 := of_decide_eq_true h
  have e4 : x4 = 1 := by omega
  have e3 : x3 = 0 := by omega
  subst e4 e3
  have g : Nat.gcd 0 1 = 1 := by decide
  have i := (invN_spec (a := 0) (m := 1) (by decide) g).1
  rw [if_pos g] at E1
  exact ⟨⟨by omega, trivial⟩, rfl⟩
 all_goals
  have h : ¬ ((x4 : Nat) : Int) = 1 := of_decide_eq_false h
 ·have h0 : ((x3 : Nat) : Int) = 0 := of_decide_eq_true h0
  have e3 : x3 = 0 := by omega
  subst e3
  have g0 : ¬ Nat.gcd 0 x4 = 1 := by
   rw [Nat.gcd_zero_left]
   omega
  rw [if_neg g0] at E1
  exact ⟨⟨E1.symm, trivial⟩, (decide_eq_false g0).symm⟩
 all_goals
  have h0 : ¬ ((x3 : Nat) : Int) = 0 := of_decide_eq_false h0
 ·have h1 : ((x3 : Nat) : Int) = 1 := of_decide_eq_true h1
  have e3 : x3 = 1 := by omega
  subst e3
  have g : Nat.gcd 1 x4 = 1 := Nat.gcd_one_left _
  obtain ⟨i1, i2⟩ := invN_spec ham g
  rw [if_pos g] at E1
  rw [Nat.one_mul, Nat.mod_eq_of_lt i1, Nat.mod_eq_of_lt ham] at i2
  exact ⟨⟨lA 0, lA 1, lA 2, lA 3, by omega, trivial⟩, (decide_eq_true g).symm⟩
 ·have h1 : ¬ ((x3 : Nat) : Int) = 1 := of_decide_eq_false h1
  have hx : 1 < x3 := by omega
  have hr := Nat.mod_lt x4 (show 0 < x3 by omega)
  rw [if_neg (by omega)] at E5
  subst E5
  have hrM : x4 % x3 < M256 := Nat.lt_trans hr hA
  rw [Nat.mod_eq_of_lt hrM] at E6
  subst E6
  subst E2
  have e3 : x2 % M256 = x2 := Nat.mod_eq_of_lt hA
  have e5 : x4 % x2 % M256 = x4 % x2 := Nat.mod_eq_of_lt hrM
  have gr := Nat.gcd_rec x2 x4
  have sX : rivX (x4 % x2) x2 = if Nat.gcd x2 x4 = 1 then invN (x4 % x2) x2 else 0 := by
   unfold rivX
   rw [e3, e5]
   by_cases c : Nat.gcd (x4 % x2) x2 = 1
   ·rw [if_pos c, if_pos (gr.trans c)]
   ·rw [if_neg c, if_neg fun h => c (gr.symm.trans h)]
  have sB : rivB (x4 % x2) x2 = decide (Nat.gcd x2 x4 = 1) := by
   unfold rivB
   rw [e3, e5]
   exact decide_eq_decide.2 ⟨fun h => gr.trans h, fun h => gr.symm.trans h⟩
  have h98 : x9 = x8 := by rw [E9, E8]
  refine ⟨lM 0, lM 1, lM 2, lM 3, lA 0, lA 1, lA 2, lA 3, lA 0, lA 1, lA 2, lA 3, by omega, hr, fun hb => ?_, fun hb => ?_⟩
  ·rw [sB, Bool.not_eq_true', decide_eq_false_iff_not] at hb
   rw [if_neg hb] at E1
   exact ⟨⟨E1.symm, trivial⟩, (decide_eq_false hb).symm⟩
  ·rw [sB, Bool.not_eq_false', decide_eq_true_eq] at hb
   rw [if_pos hb] at E1 sX
   have hgs : Nat.gcd (x4 % x2) x2 = 1 := by rw [← Nat.gcd_rec]; exact hb
   obtain ⟨s1, s2⟩ := invN_spec hr hgs
   have hst := back_step hx ham hb s2
   obtain ⟨b1, b2⟩ := back_one hx s2
   have hsM : invN (x4 % x2) x2 < M256 := Nat.lt_trans s1 hA
   have hqM : x4 / x2 < M256 := Nat.lt_of_le_of_lt (Nat.div_le_self _ _) hN
   rw [sX, Nat.mod_eq_of_lt hsM] at E8
   rw [Nat.mod_eq_of_lt hqM] at E7
   rw [h98] at E10
   rw [vn8 hrM, vn8 (by rw [E8]; exact hsM), vnk (by
    rw [M16]
    exact Nat.mul_lt_mul'' hrM (by rw [E8]; exact hsM))] at E10
   rw [vn8 hA] at E11
   have hRS : x10 < M256 * M256 := by
    rw [E10]
    exact Nat.mul_lt_mul'' hrM (by rw [E8]; exact hsM)
   rw [vnk (by rw [M16]; omega)] at E12
   have T : ∀ _ : Nat, True := fun _ => trivial
   have T1 : ∀ _ : Addr, True := fun _ => trivial
   have D1 : dgs 1 fun j => intsC (SC.val (Value.int IntKind.u64 (selG [SK.c (SC.num IntKind.u64 1)] j))) := ⟨fun j hj => by
    have : j = 0 := by omega
    subst this
    exact ⟨by decide, by decide⟩⟩
   have N8 : (8 : Nat) ≤ 1000 := by decide
   have N16 : (16 : Nat) ≤ 1000 := by decide
   have N17 : max 16 16 + 1 ≤ 1000 := by decide
   have N1 : (1 : Nat) ≤ 1000 := by decide
   have N9 : (8 : Nat) ≤ 900 := by decide
   have N0 : (1 : Nat) ≤ 1 := by decide
   have K10 : 1 ≤ x10 := by rw [E10, E8]; exact b1
   have K11 : x11 ≠ 0 := by rw [E11]; omega
   have K4 : x4 ≠ 0 := by omega
   have hK : ∀ i, i < 16 → dg (x12 / x11) i = dg ((x4 % x2 * rivX (x4 % x2) x2 - 1) / x2) i := fun i _ => by rw [E12, E11, E10, E8, sX]
   have h7 : (if x2 = 0 then 0 else x4 / x2) % M256 = x7 := by rw [if_neg (by omega), E7, Nat.mod_eq_of_lt hqM]
   have hkM : (x4 % x2 * rivX (x4 % x2) x2 - 1) / x2 < M256 * M256 := by
    refine Nat.lt_of_le_of_lt (Nat.div_le_self _ _) ?_
    rw [sX, ← E8, ← E10]
    omega
   refine ⟨fun y => rfl, (a1, none, 0, 0, fun _ => 0), ?_, ?_⟩
   ·rintro ⟨b, c, n, cp, f⟩ ⟨hn, hf⟩ _
    have hn : n = 16 := hn
    subst hn
    have hf : ∀ i, i < 16 → f i = dg ((x4 % x2 * rivX (x4 % x2) x2 - 1) / x2) i := hf
    have Df : dgs 16 fun i => intsC (SC.val (Value.int IntKind.u64 (f i))) := ⟨fun i hi => by
     show 0 ≤ f i ∧ f i < 4294967296
     rw [hf i hi]
     exact dg_range _ _⟩
    have hV : (vn (max 16 16 + 1) fun i => dg ((vn 16 fun i => dg ((vn 8 fun i => dg x7 i) * vn 8 fun i => dg x8 i) i) + vn 16 fun i => f i) i) = x4 / x2 * invN (x4 % x2) x2 + (x4 % x2 * invN (x4 % x2) x2 - 1) / x2 := by
     have p : x4 / x2 * invN (x4 % x2) x2 < M256 * M256 := Nat.mul_lt_mul'' hqM hsM
     rw [sX] at hkM hf
     have w1 : (vn 16 fun i => dg (x4 / x2 * invN (x4 % x2) x2) i) = x4 / x2 * invN (x4 % x2) x2 := vnk (by rw [M16]; exact p)
     have w2 : (vn 16 fun i => f i) = (x4 % x2 * invN (x4 % x2) x2 - 1) / x2 := by
      rw [vn_congr hf]
      exact vnk (by rw [M16]; exact hkM)
     have w3 : (vn (max 16 16 + 1) fun i => dg (x4 / x2 * invN (x4 % x2) x2 + (x4 % x2 * invN (x4 % x2) x2 - 1) / x2) i) = x4 / x2 * invN (x4 % x2) x2 + (x4 % x2 * invN (x4 % x2) x2 - 1) / x2 := vnk (k := 17) (by
      rw [Nat.pow_succ, M16]
      omega)
     rw [vn8 (by rw [E7]; exact hqM), vn8 (by rw [E8]; exact hsM), E7, E8, w1, w2]
     exact w3
    have hw := Nat.mod_lt (x4 / x2 * invN (x4 % x2) x2 + (x4 % x2 * invN (x4 % x2) x2 - 1) / x2) (show 0 < x4 by omega)
    have hV2 : (vn (max 16 16 + 1) fun i => dg ((vn 16 fun i => dg ((vn 8 fun i => dg x7 i) * vn 8 fun i => dg x8 i) i) + vn 16 fun i => f i) i) % x4 % M256 = (x4 / x2 * invN (x4 % x2) x2 + (x4 % x2 * invN (x4 % x2) x2 - 1) / x2) % x4 := by
     rw [hV, Nat.mod_eq_of_lt (Nat.lt_trans hw hN)]
    have G1 : (vn (max 16 16 + 1) fun i => dg ((vn 16 fun i => dg ((vn 8 fun i => dg x7 i) * vn 8 fun i => dg x8 i) i) + vn 16 fun i => f i) i) % x4 % M256 ≤ x4 := by
     rw [hV2]; omega
    have G2 : ((if (vn (max 16 16 + 1) fun i => dg ((vn 16 fun i => dg ((vn 8 fun i => dg x7 i) * vn 8 fun i => dg x8 i) i) + vn 16 fun i => f i) i) % x4 % M256 = 0 then 0 else x4 - (vn (max 16 16 + 1) fun i => dg ((vn 16 fun i => dg ((vn 8 fun i => dg x7 i) * vn 8 fun i => dg x8 i) i) + vn 16 fun i => f i) i) % x4 % M256) % M256 = x1 ∧ True) ∧ true = decide (Nat.gcd x2 x4 = 1) := by
     rw [hV2, hst, ← E1, Nat.mod_eq_of_lt (show x1 < M256 by rw [E1]; exact Nat.lt_trans (invN_spec ham hb).1 hN)]
     exact ⟨⟨rfl, trivial⟩, (decide_eq_true hb).symm⟩
    clear hV hV2 E7 E8 E9 E10 E11 E12 hst b1 b2 hK
    repeat' (first | exact T | exact T1 | exact K4 | exact N8 | exact N16 | exact N17 | exact lM _ | exact dgs_dg _ _ | exact Df | exact G1 | exact G2 | (refine And.intro ?_ ?_) | (intro _))
   ·clear hst b1 b2
    repeat' (first | exact T | exact T1 | exact K10 | exact K11 | exact N8 | exact N16 | exact N1 | exact N9 | exact N0 | exact lA _ | exact dgs_dg _ _ | exact D1 | (refine And.intro ?_ ?_) | (intro _) | exact ⟨(a2, _, 16, _, dg (x12 / x11)), ⟨⟨rfl, hK⟩, trivial⟩, ⟨rfl, rfl, rfl, rfl, rfl⟩, ⟨rfl, rfl, rfl, fun _ _ => rfl⟩, rfl, h7, rfl, h98, rfl, trivial⟩)
end Go.Proofs.Yteimeidpcgebkaa
end

section
namespace Go.Proofs.Yteimeidpcgebkaa
open Go Go.Sx Go.RowKit
set_option maxRecDepth 100000
def rinC (a m : Nat) : List Prop := [a % M256 < m % M256]
end Go.Proofs.Yteimeidpcgebkaa
end

section
namespace Go.Proofs.Yteimeidpcgebkaa
open Go Go.Sx Go.RowKit
theorem card_mark8 : FnOK Try.prog 1000000008 (fun _ => none) := fun _ _ _ hs _ => by cases hs
theorem rivG_bnd (a m : Nat) : (rivG rivX rivB a m).bnd none0 := by
 unfold rivG
 intro x hx
 simp only [List.mem_cons, List.not_mem_nil, or_false] at hx
 rcases hx with rfl | rfl
 ·exact bnd_Un _
 ·exact bnd_B _
theorem card_refInvK : ∀ k : Nat, FnOK Try.prog 44 (specUUC (rivC k) (rivG rivX rivB))
 | 0 => FnOKV_UUC (iv := fun _ _ => []) (N := 4) cx_none sl_all Try.func44 (by kernel_rfl) (by kernel_rfl) rivG_bnd fun a m ⟨h, _⟩ => absurd h (Nat.not_lt_zero _)
 | k + 1 => FnOKV_UUC (cx := cxRIv rivX rivB k) (sl := slRest) (N := 8) (iv := fun a m => [(11, .cut (cutRI m (m % M256 / (a % M256)) (rivX (m % M256 % (a % M256)) (a % M256)) (pRI ((m % M256 % (a % M256) * rivX (m % M256 % (a % M256)) (a % M256) - 1) / (a % M256)))) (fun _ _ => True))])
   (CxOK_cons card_mark8 (CxOK_cons card_refQuo (CxOK_cons (card_refInvK k) (CxOK_cons card_refOpp CxOK_nil)))) sl_rest Try.func44 (by kernel_rfl) (by kernel_rfl) rivG_bnd fun a m ⟨h1, h2, _⟩ => ok_refInv k a m h1 h2
theorem card_refInv : FnOK Try.prog 44 (specUUC rinC (rivG rivX rivB)) := by
 intro args ps sv' hs hp
 unfold specUUC at hs
 split at hs
 case h_2 => cases hs
 rename_i x y
 split at hs
 case h_2 => cases hs
 rename_i p a q m hx hy
 simp only [Option.some.injEq, Prod.mk.injEq] at hs
 obtain ⟨rfl, rfl⟩ := hs
 obtain ⟨o1, o2, _⟩ := Ok.append.1 hp
 exact card_refInvK M256 [x, y] ((p ++ q) ++ rivC M256 a m) _ (by simp only [specUUC, hx, hy]) (Ok.append.2 ⟨o1, modM m, o2, trivial⟩)
end Go.Proofs.Yteimeidpcgebkaa
end

section
namespace Go.Proofs.Yteimeidpcgebkaa
open Go Go.Sx Go.RowKit
set_option maxRecDepth 100000
structure rtgP (P A x y : Nat) (f : Bool) (z w : Nat) (g : Bool) : Prop where
 A0 : A % M256 < P % M256
 p0 : f = false → x % M256 < P % M256 ∧ y % M256 < P % M256
 q0 : g = false → z % M256 < P % M256 ∧ w % M256 < P % M256
def rtgC : List (List At) → List Prop
 | [[.u P, .u A, .u _, .u _, .u _, .u _, .b _], [.u x, .u y, .b f], [.u z, .u w, .b g]] => [rtgP P A x y f z w g]
 | _ => [False]
def smB (P A x y : Nat) (f : Bool) (z w : Nat) (g : Bool) : Bool := smT P A x y f z w g 0 == 0
def smR (P A x y : Nat) (f : Bool) (z w : Nat) (g : Bool) : Pt := cond (smB P A x y f z w g) (smV P A x y f z w g) (0, 0, false)
def rtgG : List (List At) → SV
 | [[.u P, .u A, .u _, .u _, .u _, .u _, .b _], [.u x, .u y, .b f], [.u z, .u w, .b g]] => .tup [ptS (smR P A x y f z w g), sB (smB P A x y f z w g)]
 | _ => .tup []
def cRtg : FSpec := specA [.str pCv, .str pPt, .str pPt] rtgC rtgG
def cRCF : FSpec := specA [.str pCv] ckC ckG
def cROn : FSpec := specA [.str pCv, .str pPt] onC onG
def cxTg : Cx := [(43, specU isZG), (41, specUUU proC proG), (40, specUUU modC totG), (35, specUUC oppC oppG), (42, specWU rbyC rbyG), (44, specUUC rinC (rivG rivX rivB))]
def cxROn : Cx := [(16, cRCF), (17, cIsOn)]
theorem vc_refTg (P A B N X Y x y z w r1 r2 : Nat) (F f g r3 o : Bool) :
  Owes Try.prog cxTg [] 10 Try.f18 [sCv P A B N X Y F, sPt x y f, sPt z w g] (.tup [sPt r1 r2 r3, sB o]) =
  (let x1 : Nat := z % M256; let x2 : Nat := r1 % M256; let x3 : Nat := w % M256; let x4 : Nat := r2 % M256; let x5 : Nat := x % M256; let x6 : Nat := y % M256; let x7 : Bool := conj [x5 == x1]; let x8 : Nat := P % M256; let x9 : Nat := 3 % x8 % M256; let x10 : Nat := x5 * x5 % x8 % M256; let x11 : Nat := (x6 + x6) % x8; let x12 : Nat := (x9 * x10 % x8 % M256 + A % M256) % x8 % M256; let x13 : Nat := rivX x11 P % M256; let x14 : Nat := x12 * x13 % x8 % M256; let x15 : Nat := (x5 + x1) % x8 % M256; let x16 : Nat := (if x15 = 0 then 0 else x8 - x15) % M256; let x17 : Nat := (x14 * x14 % x8 % M256 + x16) % x8 % M256; let x18 : Nat := (x5 + (if x17 = 0 then 0 else x8 - x17) % M256) % x8 % M256; let x19 : Nat := (if x6 = 0 then 0 else x8 - x6) % M256; let x20 : Nat := (x1 + (if x5 = 0 then 0 else x8 - x5) % M256) % x8; let x21 : Nat := (x3 + x19) % x8 % M256; let x22 : Nat := rivX x20 P % M256; let x23 : Nat := x21 * x22 % x8 % M256; let x24 : Nat := (x23 * x23 % x8 % M256 + x16) % x8 % M256; let x25 : Nat := (x5 + (if x24 = 0 then 0 else x8 - x24) % M256) % x8 % M256; (f = Bool.true → (x1 = x2 ∧ x3 = x4 ∧ g = r3 ∧ True) ∧ Bool.true = o) ∧ (f = Bool.false → (g = Bool.true → (x5 = x2 ∧ x6 = x4 ∧ f = r3 ∧ True) ∧ Bool.true = o) ∧ (g = Bool.false → (x7 = Bool.true → x7 = Bool.true) ∧ (x7 = Bool.true → x7 = Bool.true) ∧ (x7 = Bool.true → x7 = Bool.true) ∧ (x7 = Bool.true → x7 = Bool.true) ∧ (x7 = Bool.true → x7 = Bool.true) ∧ (x7 = Bool.true → x7 = Bool.true) ∧ (x7 = Bool.true → x8 ≠ 0) ∧ (x7 = Bool.true → x7 = Bool.true) ∧ (x7 = Bool.true → x7 = Bool.true) ∧ ((x7 && (x6 + x3) % x8 % M256 == 0) = Bool.true → (0 = x2 ∧ 0 = x4 ∧ Bool.true = r3 ∧ True) ∧ Bool.true = o) ∧ ((x7 && (x6 + x3) % x8 % M256 == 0) = Bool.false → x6 ≤ x8 ∧ x8 ≠ 0 ∧ x5 ≤ x8 ∧ x8 ≠ 0 ∧ (conj [x5 == x1, x6 == x3, f == g] = Bool.true → ((0 : Int) ≤ (3 : Int) ∧ (3 : Int) < (18446744073709551616 : Int)) ∧ x8 ≠ 0 ∧ x8 ≠ 0 ∧ x5 < x8 ∧ x5 < x8 ∧ x8 ≠ 0 ∧ x9 < x8 ∧ x10 < x8 ∧ x8 ≠ 0 ∧ x8 ≠ 0 ∧ x11 % M256 < x8 ∧ ((!rivB x11 P) = Bool.true → (0 = x2 ∧ 0 = x4 ∧ Bool.false = r3 ∧ True) ∧ Bool.false = o) ∧ ((!rivB x11 P) = Bool.false → x8 ≠ 0 ∧ x12 < x8 ∧ x13 < x8 ∧ x8 ≠ 0 ∧ x14 < x8 ∧ x14 < x8 ∧ x8 ≠ 0 ∧ x15 ≤ x8 ∧ x8 ≠ 0 ∧ x17 ≤ x8 ∧ x8 ≠ 0 ∧ x8 ≠ 0 ∧ x14 < x8 ∧ x18 < x8 ∧ x6 ≤ x8 ∧ x8 ≠ 0 ∧ (x17 = x2 ∧ (x14 * x18 % x8 % M256 + x19) % x8 % M256 = x4 ∧ Bool.false = r3 ∧ True) ∧ Bool.true = o)) ∧ (conj [x5 == x1, x6 == x3, f == g] = Bool.false → x20 % M256 < x8 ∧ ((!rivB x20 P) = Bool.true → (0 = x2 ∧ 0 = x4 ∧ Bool.false = r3 ∧ True) ∧ Bool.false = o) ∧ ((!rivB x20 P) = Bool.false → x8 ≠ 0 ∧ x21 < x8 ∧ x22 < x8 ∧ x8 ≠ 0 ∧ x23 < x8 ∧ x23 < x8 ∧ x8 ≠ 0 ∧ x15 ≤ x8 ∧ x8 ≠ 0 ∧ x24 ≤ x8 ∧ x8 ≠ 0 ∧ x8 ≠ 0 ∧ x23 < x8 ∧ x25 < x8 ∧ x6 ≤ x8 ∧ x8 ≠ 0 ∧ (x24 = x2 ∧ (x23 * x25 % x8 % M256 + x19) % x8 % M256 = x4 ∧ Bool.false = r3 ∧ True) ∧ Bool.true = o)))))) := by kernel_rfl
theorem vc_refOn (P A B N X Y x y : Nat) (F f : Bool) (e : Int) :
  Owes Try.prog cxROn [] 10 Try.f20 [sCv P A B N X Y F, sPt x y f] (.one (sI .i64 e)) =
  (let x1 : Bool := ckE P A B N X Y F != (0 : Int); ((!x1) = Bool.true → (!x1) = Bool.true) ∧ ((!x1) = Bool.true → (!x1) = Bool.true) ∧ ((!x1) = Bool.true → (!x1) = Bool.true) ∧ (x1 = Bool.false → (!x1) = Bool.true) ∧ ((x1 || !isOnB P A B x y f) = Bool.true → (16 : Int) = e) ∧ ((x1 || !isOnB P A B x y f) = Bool.false → (0 : Int) = e)) := by kernel_rfl
end Go.Proofs.Yteimeidpcgebkaa
end

section
namespace Go.Proofs.Yteimeidpcgebkaa
open Go.Sx
def rB (a m : Nat) : Bool := decide (a % M256 < m % M256)
theorem rB_iff {a m : Nat} : rB a m = true ↔ a % M256 < m % M256 := decide_eq_true_iff
theorem nt_nt (a b : Bool) (n : Int) : nt a (nt b n) = nt (b && a) n := by cases a <;> cases b <;> rfl
theorem nt_zero (b : Bool) : (nt b 0 == 0) = b := by cases b <;> rfl
theorem okF_b (a b m : Nat) : okF a b m = (rB a m && rB b m) := by
 unfold okF fE rB
 by_cases h0 : m % M256 = 0
 ·rw [if_pos h0, decide_eq_false (by omega)]
  rfl
 ·rw [if_neg h0]
  by_cases h1 : a % M256 < m % M256
  ·by_cases h2 : b % M256 < m % M256
   ·rw [if_pos ⟨h1, h2⟩, decide_eq_true h1, decide_eq_true h2]; rfl
   ·rw [if_neg (fun h => h2 h.2), decide_eq_true h1, decide_eq_false h2]; rfl
  ·rw [if_neg (fun h => h1 h.1), decide_eq_false h1]; rfl
theorem fE_b {a b m : Nat} (h1 : rB a m = true) (h2 : rB b m = true) : fE a b m = 0 := fE_zero (rB_iff.1 h1) (rB_iff.1 h2)
theorem rB_pos {a m : Nat} (h : rB a m = true) : 0 < m % M256 := Nat.lt_of_le_of_lt (Nat.zero_le _) (rB_iff.1 h)
theorem mdM {m : Nat} (h : 0 < m % M256) (v : Nat) : v % (m % M256) % M256 = v % (m % M256) := mod_M (Nat.mod_lt v h)
theorem rB_mod {m : Nat} (h : 0 < m % M256) (v : Nat) : rB (v % (m % M256)) m = true := by rw [rB_iff, mdM h]; exact Nat.mod_lt v h
theorem rB_zero {m : Nat} (h : 0 < m % M256) : rB 0 m = true := by rw [rB_iff, Nat.zero_mod]; exact h
theorem rB_no {a m : Nat} (h : ¬ 0 < m % M256) : rB a m = false := by unfold rB; exact decide_eq_false (by omega)
theorem rB_hM {m : Nat} (h : 0 < m % M256) (a b : Nat) : rB (hMV m a b) m = true := by
 unfold hMV; split
 ·exact rB_mod h _
 ·exact rB_zero h
theorem rB_hA {m : Nat} (h : 0 < m % M256) (a b : Nat) : rB (hAV m a b) m = true := by
 unfold hAV; split
 ·exact rB_mod h _
 ·exact rB_zero h
theorem rB_hS {m : Nat} (h : 0 < m % M256) (a b : Nat) : rB (hSV m a b) m = true := by
 unfold hSV; split
 ·exact rB_mod h _
 ·exact rB_zero h
theorem rB_h3 {m : Nat} (h : 0 < m % M256) (a : Nat) : rB (h3V m a) m = true := rB_hA h _ _
theorem hMV_of {a b m : Nat} (h1 : rB a m = true) (h2 : rB b m = true) : hMV m a b = a % M256 * (b % M256) % (m % M256) := if_pos (fE_b h1 h2)
theorem hAV_of {a b m : Nat} (h1 : rB a m = true) (h2 : rB b m = true) : hAV m a b = (a % M256 + b % M256) % (m % M256) := if_pos (fE_b h1 h2)
theorem hSV_of {a b m : Nat} (h1 : rB a m = true) (h2 : rB b m = true) : hSV m a b = (a % M256 + m % M256 - b % M256) % (m % M256) := if_pos (fE_b h1 h2)
theorem h3V_of {a m : Nat} (h1 : rB a m = true) : h3V m a = tw3 (m % M256) (a % M256) := by
 have hp := rB_pos h1
 unfold h3V tw3
 rw [hAV_of h1 (rB_hA hp _ _), hAV_of h1 h1, mdM hp]
theorem h3T_eq (m a : Nat) (n : Int) : h3T m a n = nt (rB a m) n := by
 unfold h3T
 by_cases hp : 0 < m % M256
 ·simp only [nt_nt, okF_b, rB_hA hp]
  cases rB a m <;> rfl
 ·simp only [nt_nt, okF_b, rB_no hp, Bool.false_and]
theorem rgtT_eq (m A B x : Nat) (n : Int) : rgtT m A B x n = nt (rB x m && (rB A m && rB B m)) n := by
 unfold rgtT
 by_cases hp : 0 < m % M256
 ·simp only [nt_nt, okF_b, rB_hA hp, rB_hM hp]
  cases rB x m <;> cases rB A m <;> cases rB B m <;> rfl
 ·simp only [nt_nt, okF_b, rB_no hp, Bool.false_and]
theorem rgtV_of {m A B x : Nat} (hx : rB x m = true) (hA : rB A m = true) (hB : rB B m = true) : rgtV m A B x = rhsN (m % M256) (A % M256) (B % M256) (x % M256) := by
 have hp := rB_pos hx
 unfold rgtV rhsN
 rw [hAV_of (rB_hA hp _ _) hB, hAV_of (rB_hM hp _ _) (rB_hM hp _ _), hMV_of hx (rB_hM hp _ _), hMV_of hx hx, hMV_of hA hx]
 simp only [mdM hp]
theorem slpT_eq (m A B : Nat) (n : Int) : slpT m A B n = nt (rB A m && rB B m) n := by
 unfold slpT
 by_cases hp : 0 < m % M256
 ·simp only [h3T_eq, nt_nt, okF_b, rB_hA hp, rB_hM hp, rB_h3 hp]
  cases rB A m <;> cases rB B m <;> rfl
 ·simp only [h3T_eq, nt_nt, okF_b, rB_no hp, Bool.false_and]
theorem slpV_of {m A B : Nat} (hA : rB A m = true) (hB : rB B m = true) : slpV m A B = slopesN (m % M256) (A % M256) (B % M256) := by
 have hp := rB_pos hA
 unfold slpV slopesN
 rw [hAV_of (rB_hA hp _ _) (rB_h3 hp _), hAV_of (rB_hA hp _ _) (rB_hA hp _ _), hAV_of (rB_hM hp _ _) (rB_hM hp _ _), hMV_of hA (rB_hM hp _ _), hMV_of hA hA, h3V_of (rB_h3 hp _), h3V_of (rB_h3 hp _), h3V_of (rB_hM hp _ _), hMV_of hB hB]
 unfold tw3
 simp only [mdM hp]
def haB (m A B x y : Nat) (f : Bool) : Bool := cond f (x % M256 == 0 && y % M256 == 0) (rB x m && (rB y m && (y % M256 * (y % M256) % (m % M256) == rhsN (m % M256) (A % M256) (B % M256) (x % M256))))
theorem havT_eq {m A B : Nat} (hA : rB A m = true) (hB : rB B m = true) (x y : Nat) (f : Bool) (n : Int) : havT m A B x y f n = nt (haB m A B x y f) n := by
 have hp := rB_pos hA
 unfold havT haB
 cases f with
 | true => rfl
 | false =>
  show nt _ (rgtT m A B x (nt (okF y y m) n)) = _
  rw [rgtT_eq, nt_nt, nt_nt, okF_b, hA, hB]
  cases hx : rB x m
  ·cases rB y m <;> rfl
  ·cases hy : rB y m
   ·rfl
   ·rw [hMV_of hy hy, rgtV_of hx hA hB, mdM hp, show rhsN (m % M256) (A % M256) (B % M256) (x % M256) % M256 = rhsN (m % M256) (A % M256) (B % M256) (x % M256) from mdM hp _]
    rfl
def gdB (P A B N X Y : Nat) (F : Bool) : Bool :=
 decide (3 < P % M256) && (decide (P % M256 % 4 = 3) && (rB A P && (rB B P && (decide (1 < N % M256) && (!(slopesN (P % M256) (A % M256) (B % M256) == 0) && (!F && haB P A B X Y F))))))
theorem havT_16 (m A B x y : Nat) (f : Bool) : havT m A B x y f 16 = 16 := by
 have h16 : ∀ b, nt b 16 = 16 := fun b => by cases b <;> rfl
 unfold havT
 rw [h16, h16, rgtT_eq, h16, h16]
 cases f <;> rfl
theorem ckE_eq (P A B N X Y : Nat) (F : Bool) : ckE P A B N X Y F = nt (gdB P A B N X Y F) 0 := by
 unfold ckE mbeT gdB
 rw [slpT_eq]
 cases hA : rB A P with
 | false =>
  simp only [nt_nt, Bool.false_and, Bool.and_false]
  exact havT_16 _ _ _ _ _ _
 | true => cases hB : rB B P with
  | false =>
   simp only [nt_nt, Bool.false_and, Bool.and_false]
   exact havT_16 _ _ _ _ _ _
  | true =>
   have hp := rB_pos hA
   rw [havT_eq hA hB, slpV_of hA hB, show slopesN (P % M256) (A % M256) (B % M256) % M256 = slopesN (P % M256) (A % M256) (B % M256) from mdM hp _]
   simp only [nt_nt]
   congr 1
   cases decide (3 < P % M256) <;> cases decide (P % M256 % 4 = 3) <;> cases decide (1 < N % M256) <;> cases (slopesN (P % M256) (A % M256) (B % M256) == 0) <;> cases F <;> simp
theorem gdB_A {P A B N X Y : Nat} {F : Bool} (h : gdB P A B N X Y F = true) : 3 < P % M256 ∧ P % M256 % 4 = 3 ∧ rB A P = true ∧ rB B P = true ∧ 1 < N % M256 ∧ haB P A B X Y F = true ∧ F = false := by
 unfold gdB at h
 simp only [Bool.and_eq_true, decide_eq_true_eq, Bool.not_eq_true'] at h
 exact ⟨h.1, h.2.1, h.2.2.1, h.2.2.2.1, h.2.2.2.2.1, h.2.2.2.2.2.2.2, h.2.2.2.2.2.2.1⟩
def inB (m x y : Nat) (f : Bool) : Bool := f || (rB x m && rB y m)
theorem haB_in {m A B x y : Nat} {f : Bool} (h : haB m A B x y f = true) : inB m x y f = true := by
 unfold haB at h
 unfold inB
 cases f
 ·simp only [cond_false, Bool.and_eq_true] at h
  simp [h.1, h.2.1]
 ·rfl
end Go.Proofs.Yteimeidpcgebkaa
end

section
namespace Go.Proofs.Yteimeidpcgebkaa
open Go.Sx
theorem conj_one (a : Bool) : conj [a] = a := by rw [conj_all]; simp
theorem ok_wSlope (ls : List (List At)) (n : Int) (hc : Ok (wSmC ls)) : OwesW Try.prog cySlope [] [] 10 Try.f39 (mkArgsW [.hand, .str [.u], .str pPt, .str pPt] ls) tErr .i64 n (wSlpG ls) (wSlpT ls n) := by
 unfold wSmC at hc
 split at hc
 ·rename_i m A x y f z w g
  show OwesW Try.prog cySlope [] [] 10 Try.f39 [sHd m, sU A, sPt x y f, sPt z w g] tErr .i64 n (.one (sU (slV m A x y f z w g))) (slT m A x y f z w g n)
  rw [wc_slope]
  refine ⟨fun h => ?_, fun h => ?_⟩
  ·have hs : samePt x y f z w g = true := h
   unfold slV slT
   rw [hs]
   exact okW rfl rfl
  ·have hs : samePt x y f z w g = false := h
   unfold slV slT
   rw [hs]
   exact okW rfl rfl
 ·exact hc.1.elim
theorem ok_wSum (ls : List (List At)) (n : Int) (hc : Ok (wSmC ls)) : OwesW Try.prog cySum [] [] 10 Try.f15 (mkArgsW [.hand, .str [.u], .str pPt, .str pPt] ls) tErr .i64 n (wSumG ls) (wSumT ls n) := by
 unfold wSmC at hc
 split at hc
 ·rename_i m A x y f z w g
  show OwesW Try.prog cySum [] [] 10 Try.f15 [sHd m, sU A, sPt x y f, sPt z w g] tErr .i64 n (.one (sPt (smV m A x y f z w g).1 (smV m A x y f z w g).2.1 (smV m A x y f z w g).2.2)) (smT m A x y f z w g n)
  rw [wc_sum]
  refine ⟨fun h => ?_, fun h => ⟨fun h' => ?_, fun h' => ⟨id, id, id, id, id, id, id, id, fun h2 => ?_, fun h2 => ?_⟩⟩⟩
  ·subst h
   exact ⟨⟨rfl, rfl, rfl, trivial⟩, rfl⟩
  ·subst h
   subst h'
   exact ⟨⟨rfl, rfl, rfl, trivial⟩, rfl⟩
  ·subst h
   subst h'
   rw [conj_one, conj_one, Bool.and_eq_true] at h2
   have eV : smV m A x y false z w false = (0, 0, true) := by unfold smV; rw [h2.1, h2.2]; rfl
   have eT : smT m A x y false z w false n = nt (okF y w m) n := by unfold smT; rw [h2.1, h2.2]; rfl
   rw [eV, eT, conj_one, h2.1]
   exact ⟨⟨rfl, rfl, rfl, trivial⟩, rfl⟩
  ·subst h
   subst h'
   rw [conj_one, conj_one] at h2
   rw [conj_one]
   have eV : smV m A x y false z w false = (thX m (slV m A x y false z w false) x z, thY m (slV m A x y false z w false) x y z, false) := by
    unfold smV
    cases ha : (x % M256 == z % M256)
    ·rfl
    ·rw [ha, Bool.true_and] at h2
     rw [h2]; rfl
   have eT : smT m A x y false z w false n = thT m (slV m A x y false z w false) x y z (slT m A x y false z w false (cond (x % M256 == z % M256) (nt (okF y w m) n) n)) := by
    unfold smT
    cases ha : (x % M256 == z % M256)
    ·rfl
    ·rw [ha, Bool.true_and] at h2
     rw [h2]; rfl
   rw [eV, eT]
   exact ⟨⟨rfl, rfl, rfl, trivial⟩, rfl⟩
 ·exact hc.1.elim
theorem wcard_slope : FnOKw Try.prog [] 39 wSlope :=
 FnOKw_A (cx := cySlope) (iv := fun _ => []) (CxOK_wcons wcard_add (CxOK_wcons wcard_sub (CxOK_wcons wcard_mul (CxOK_wcons wcard_div (CxOK_wcons wcard_twice (CxOK_wcons wcard_thrice CxOK_wnil)))))) wNone Try.func39 (by kernel_rfl) (by kernel_rfl) (fun ls => wg_one (by unfold wSlpG; split; exact .inr ⟨_, rfl⟩; exact .inl rfl)) ok_wSlope
theorem bnd_pt (p : Pt) : (ptS p).bnd none0 := by
 intro k hk
 simp only [List.mem_cons, List.not_mem_nil, or_false] at hk
 rcases hk with rfl | rfl | rfl <;> trivial
theorem wcard_sum : FnOKw Try.prog [] 15 wSum :=
 FnOKw_A (cx := cySum) (iv := fun _ => []) (CxOK_cons wcard_far (CxOK_wcons wcard_add (CxOK_wcons wcard_sub (CxOK_wcons wcard_mul (CxOK_wcons wcard_slope CxOK_wnil))))) wNone Try.func15 (by kernel_rfl) (by kernel_rfl) (fun ls => by unfold wSumG; split; exact bnd_one (bnd_pt _); exact bnd_none) ok_wSum
theorem bnd_pte (p : Pt) (e : Int) : SV.bnd none0 (.tup [ptS p, sI .i64 e]) := bnd_two (bnd_pt p) (bnd_I _ _)
theorem ok_Td (ls : List (List At)) (e : Int) (hc : Ok (tdC ls)) : OwesW Try.prog .none [] [] 10 Try.f14 (mkArgsW [.hand, .str pPt] ls) tErr .i64 e (tdG ls e) e := by
 unfold tdC at hc
 split at hc
 ·rename_i m x y f
  show OwesW Try.prog .none [] [] 10 Try.f14 [sHd m, sPt x y f] tErr .i64 e (.tup [sPt (tdV e (x, y, f)).1 (tdV e (x, y, f)).2.1 (tdV e (x, y, f)).2.2, sI .i64 e]) e
  rw [wc_told]
  refine ⟨fun h => ?_, fun h => ?_⟩
  ·have h : e ≠ 0 := by simpa using h
   unfold tdV
   rw [if_neg h]
   exact ⟨⟨⟨rfl, rfl, rfl, trivial⟩, rfl⟩, rfl⟩
  ·have h : e = 0 := by simpa using h
   subst h
   exact ⟨⟨⟨rfl, rfl, rfl, trivial⟩, rfl⟩, rfl⟩
 ·exact hc.1.elim
theorem wcard_told : FnOKw Try.prog [] 14 cTd :=
 FnOKw_N (cx := .none) (iv := fun _ => []) CxOK_wnil (fun p hp => by cases hp) Try.func14 (by kernel_rfl) (by kernel_rfl) (fun ls e => by unfold tdG; split; exact bnd_two (bnd_pt (_, _, _)) trivial; exact bnd_none) ok_Td
end Go.Proofs.Yteimeidpcgebkaa
end
