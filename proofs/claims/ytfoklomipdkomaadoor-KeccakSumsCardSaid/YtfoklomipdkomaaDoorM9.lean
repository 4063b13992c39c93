/-
  Texts: V32, P62, Kr.
-/
import Derived.Test.YtfoklomipdkomaaDoorM1
import Derived.Test.YtfoklomipdkomaaDoorM2
import Derived.Test.YtfoklomipdkomaaDoorM3
import Derived.Test.YtfoklomipdkomaaDoorM4
import Derived.Test.YtfoklomipdkomaaDoorM5
import Derived.Test.YtfoklomipdkomaaDoorM6
import Derived.Test.YtfoklomipdkomaaDoorM7
import Derived.Test.YtfoklomipdkomaaDoorM8
section
/-
  Duties of package keccak: what each function comes to, part 3.
-/
namespace Go.Proofs.YtfoklomipdkomaaDoor
open Go Go.Sx Go.RowKit
def cxEnd : Cx := ⟨[(10, specSp (fun _ _ _ => []) fun _ H N => .one (sB (mayG H N))), (11, specSp (fun L _ _ => [lanes 25 L]) soakG), (18, specRow .u64 .u8 25 32 (fun _ => []) firstG)], glK, 0⟩
def spOf (L H : Nat → Int) (N : Int) : Sp := ⟨ofRow L, H, N.toNat⟩
def endG (L H : Nat → Int) (N : Int) : SV := .tup [sRow .u8 32 (fun j => if mayG H N then endB (spOf L H N) j else 0), sI .i64 (if mayG H N then 0 else 12)]
def kAddG (L H : Nat → Int) (N : Int) (n : Nat) (f : Nat → Int) : SV := .tup [sSp (fun i => if mayG H N then lw ((addB (spOf L H N) f n).a i) else 0) (fun j => if mayG H N then (addB (spOf L H N) f n).H j else 0) (if mayG H N then ((addB (spOf L H N) f n).n : Int) else 0), sI .i64 (if mayG H N then 0 else 12)]
def invAdd (L H : Nat → Int) (N : Int) (n : Nat) (f : Nat → Int) : Inv where
  X := Nat × Option Addr × Nat
  tm y := slotsAt 34 [(1, .one (sXs y.2.1 (n - y.1) y.2.2 (fun i => f (y.1 + i)))), (2, .one (.sc (.ptr 0 0))), (4, .one (.sc (.ptr 1 0))), (5, .one (.sc (.num .i64 0)))]
  ob y := [.cells 26 [.f .u64 25 (fun i => lw ((addB (spOf L H N) f y.1).a i)), .f .u8 136 (addB (spOf L H N) f y.1).H, .c (.val (.int .i64 ((addB (spOf L H N) f y.1).n : Int)))] 0, .cells 26 (List.replicate 25 (.c (.num .u64 0)) ++ List.replicate 136 (.c (.num .u8 0)) ++ [.c (.num .i64 0)]) 0]
  holds y := mayG H N = true ∧ y.1 ≤ n
  less y := n - y.1
-- VC vc_End HASH 5ea8c2d7d666c23b
theorem vc_End (L H : Nat → Int) (N : Int) :
    Owes Tryd.prog cxEnd [] 10 Tryd.f14 [sSp L H N] (endG L H N) =
    (let x1 : Int := if mayG H N = Bool.true then (0 : Int) else (12 : Int); let x2 : Int := Go.IntKind.u8.wrap (H N.toNat + (1 : Int)); ((!mayG H N) = Bool.true → (((0 : Int) = if mayG H N = Bool.true then Go.Sx.endB (spOf L H N) (0 : Nat) else (0 : Int)) ∧ ((0 : Int) = if mayG H N = Bool.true then Go.Sx.endB (spOf L H N) (1 : Nat) else (0 : Int)) ∧ ((0 : Int) = if mayG H N = Bool.true then Go.Sx.endB (spOf L H N) (2 : Nat) else (0 : Int)) ∧ ((0 : Int) = if mayG H N = Bool.true then Go.Sx.endB (spOf L H N) (3 : Nat) else (0 : Int)) ∧ ((0 : Int) = if mayG H N = Bool.true then Go.Sx.endB (spOf L H N) (4 : Nat) else (0 : Int)) ∧ ((0 : Int) = if mayG H N = Bool.true then Go.Sx.endB (spOf L H N) (5 : Nat) else (0 : Int)) ∧ ((0 : Int) = if mayG H N = Bool.true then Go.Sx.endB (spOf L H N) (6 : Nat) else (0 : Int)) ∧ ((0 : Int) = if mayG H N = Bool.true then Go.Sx.endB (spOf L H N) (7 : Nat) else (0 : Int)) ∧ ((0 : Int) = if mayG H N = Bool.true then Go.Sx.endB (spOf L H N) (8 : Nat) else (0 : Int)) ∧ ((0 : Int) = if mayG H N = Bool.true then Go.Sx.endB (spOf L H N) (9 : Nat) else (0 : Int)) ∧ ((0 : Int) = if mayG H N = Bool.true then Go.Sx.endB (spOf L H N) (10 : Nat) else (0 : Int)) ∧ ((0 : Int) = if mayG H N = Bool.true then Go.Sx.endB (spOf L H N) (11 : Nat) else (0 : Int)) ∧ ((0 : Int) = if mayG H N = Bool.true then Go.Sx.endB (spOf L H N) (12 : Nat) else (0 : Int)) ∧ ((0 : Int) = if mayG H N = Bool.true then Go.Sx.endB (spOf L H N) (13 : Nat) else (0 : Int)) ∧ ((0 : Int) = if mayG H N = Bool.true then Go.Sx.endB (spOf L H N) (14 : Nat) else (0 : Int)) ∧ ((0 : Int) = if mayG H N = Bool.true then Go.Sx.endB (spOf L H N) (15 : Nat) else (0 : Int)) ∧ ((0 : Int) = if mayG H N = Bool.true then Go.Sx.endB (spOf L H N) (16 : Nat) else (0 : Int)) ∧ ((0 : Int) = if mayG H N = Bool.true then Go.Sx.endB (spOf L H N) (17 : Nat) else (0 : Int)) ∧ ((0 : Int) = if mayG H N = Bool.true then Go.Sx.endB (spOf L H N) (18 : Nat) else (0 : Int)) ∧ ((0 : Int) = if mayG H N = Bool.true then Go.Sx.endB (spOf L H N) (19 : Nat) else (0 : Int)) ∧ ((0 : Int) = if mayG H N = Bool.true then Go.Sx.endB (spOf L H N) (20 : Nat) else (0 : Int)) ∧ ((0 : Int) = if mayG H N = Bool.true then Go.Sx.endB (spOf L H N) (21 : Nat) else (0 : Int)) ∧ ((0 : Int) = if mayG H N = Bool.true then Go.Sx.endB (spOf L H N) (22 : Nat) else (0 : Int)) ∧ ((0 : Int) = if mayG H N = Bool.true then Go.Sx.endB (spOf L H N) (23 : Nat) else (0 : Int)) ∧ ((0 : Int) = if mayG H N = Bool.true then Go.Sx.endB (spOf L H N) (24 : Nat) else (0 : Int)) ∧ ((0 : Int) = if mayG H N = Bool.true then Go.Sx.endB (spOf L H N) (25 : Nat) else (0 : Int)) ∧ ((0 : Int) = if mayG H N = Bool.true then Go.Sx.endB (spOf L H N) (26 : Nat) else (0 : Int)) ∧ ((0 : Int) = if mayG H N = Bool.true then Go.Sx.endB (spOf L H N) (27 : Nat) else (0 : Int)) ∧ ((0 : Int) = if mayG H N = Bool.true then Go.Sx.endB (spOf L H N) (28 : Nat) else (0 : Int)) ∧ ((0 : Int) = if mayG H N = Bool.true then Go.Sx.endB (spOf L H N) (29 : Nat) else (0 : Int)) ∧ ((0 : Int) = if mayG H N = Bool.true then Go.Sx.endB (spOf L H N) (30 : Nat) else (0 : Int)) ∧ ((0 : Int) = if mayG H N = Bool.true then Go.Sx.endB (spOf L H N) (31 : Nat) else (0 : Int)) ∧ True) ∧ (12 : Int) = x1) ∧ ((!mayG H N) = Bool.false → ((0 : Int) ≤ N ∧ N < (136 : Int)) ∧ ((0 : Int) ≤ N ∧ N < (136 : Int)) ∧ ((0 : Int) ≤ N ∧ N < (136 : Int)) ∧ ((0 : Int) ≤ N ∧ N < (136 : Int)) ∧ (∀ (i : Nat), i < (25 : Nat) → (0 : Int) ≤ L i ∧ L i < (18446744073709551616 : Int)) ∧ ((∀ (j : Nat), j < (32 : Nat) → Go.Sx.firstG (fun (i : Nat) => Go.Sx.lw (Go.Sx.soakB (Go.Sx.ofRow L) (fun (j : Nat) => (Go.Sx.intsL [Go.Sx.SK.f Go.IntKind.u8 (135 : Nat) fun (j : Nat) => if j = N.toNat then x2 else H j, Go.Sx.SK.c (Go.Sx.SC.val (Go.Value.int Go.IntKind.u8 (Go.IntKind.u8.wrap ((if (135 : Nat) = N.toNat then x2 else H (135 : Nat)) + (128 : Int)))))]).getD j (0 : Int)) i)) j = if mayG H N = Bool.true then Go.Sx.endB (spOf L H N) j else (0 : Int)) ∧ True) ∧ (0 : Int) = x1)) := by kernel_rfl
-- END VC
-- VC vc_kAdd HASH 6d70869f10ea8685
theorem vc_kAdd (L H : Nat → Int) (N : Int) (a : Option Addr) (n cap : Nat) (f : Nat → Int) :
    Owes Tryd.prog cxEnd [(3, .inv (invAdd L H N n f))] 10 Tryd.f5 [sSp L H N, sXs a n cap f] (kAddG L H N n f) =
    (let x1 : Int := if mayG H N = Bool.true then (↑(Go.Sx.addB (spOf L H N) f n).n : Int) else (0 : Int); let x2 : Int := if mayG H N = Bool.true then (0 : Int) else (12 : Int); ((!mayG H N) = Bool.true → (((0 : Int) = if mayG H N = Bool.true then Go.Sx.lw ((Go.Sx.addB (spOf L H N) f n).a (0 : Nat)) else (0 : Int)) ∧ ((0 : Int) = if mayG H N = Bool.true then Go.Sx.lw ((Go.Sx.addB (spOf L H N) f n).a (1 : Nat)) else (0 : Int)) ∧ ((0 : Int) = if mayG H N = Bool.true then Go.Sx.lw ((Go.Sx.addB (spOf L H N) f n).a (2 : Nat)) else (0 : Int)) ∧ ((0 : Int) = if mayG H N = Bool.true then Go.Sx.lw ((Go.Sx.addB (spOf L H N) f n).a (3 : Nat)) else (0 : Int)) ∧ ((0 : Int) = if mayG H N = Bool.true then Go.Sx.lw ((Go.Sx.addB (spOf L H N) f n).a (4 : Nat)) else (0 : Int)) ∧ ((0 : Int) = if mayG H N = Bool.true then Go.Sx.lw ((Go.Sx.addB (spOf L H N) f n).a (5 : Nat)) else (0 : Int)) ∧ ((0 : Int) = if mayG H N = Bool.true then Go.Sx.lw ((Go.Sx.addB (spOf L H N) f n).a (6 : Nat)) else (0 : Int)) ∧ ((0 : Int) = if mayG H N = Bool.true then Go.Sx.lw ((Go.Sx.addB (spOf L H N) f n).a (7 : Nat)) else (0 : Int)) ∧ ((0 : Int) = if mayG H N = Bool.true then Go.Sx.lw ((Go.Sx.addB (spOf L H N) f n).a (8 : Nat)) else (0 : Int)) ∧ ((0 : Int) = if mayG H N = Bool.true then Go.Sx.lw ((Go.Sx.addB (spOf L H N) f n).a (9 : Nat)) else (0 : Int)) ∧ ((0 : Int) = if mayG H N = Bool.true then Go.Sx.lw ((Go.Sx.addB (spOf L H N) f n).a (10 : Nat)) else (0 : Int)) ∧ ((0 : Int) = if mayG H N = Bool.true then Go.Sx.lw ((Go.Sx.addB (spOf L H N) f n).a (11 : Nat)) else (0 : Int)) ∧ ((0 : Int) = if mayG H N = Bool.true then Go.Sx.lw ((Go.Sx.addB (spOf L H N) f n).a (12 : Nat)) else (0 : Int)) ∧ ((0 : Int) = if mayG H N = Bool.true then Go.Sx.lw ((Go.Sx.addB (spOf L H N) f n).a (13 : Nat)) else (0 : Int)) ∧ ((0 : Int) = if mayG H N = Bool.true then Go.Sx.lw ((Go.Sx.addB (spOf L H N) f n).a (14 : Nat)) else (0 : Int)) ∧ ((0 : Int) = if mayG H N = Bool.true then Go.Sx.lw ((Go.Sx.addB (spOf L H N) f n).a (15 : Nat)) else (0 : Int)) ∧ ((0 : Int) = if mayG H N = Bool.true then Go.Sx.lw ((Go.Sx.addB (spOf L H N) f n).a (16 : Nat)) else (0 : Int)) ∧ ((0 : Int) = if mayG H N = Bool.true then Go.Sx.lw ((Go.Sx.addB (spOf L H N) f n).a (17 : Nat)) else (0 : Int)) ∧ ((0 : Int) = if mayG H N = Bool.true then Go.Sx.lw ((Go.Sx.addB (spOf L H N) f n).a (18 : Nat)) else (0 : Int)) ∧ ((0 : Int) = if mayG H N = Bool.true then Go.Sx.lw ((Go.Sx.addB (spOf L H N) f n).a (19 : Nat)) else (0 : Int)) ∧ ((0 : Int) = if mayG H N = Bool.true then Go.Sx.lw ((Go.Sx.addB (spOf L H N) f n).a (20 : Nat)) else (0 : Int)) ∧ ((0 : Int) = if mayG H N = Bool.true then Go.Sx.lw ((Go.Sx.addB (spOf L H N) f n).a (21 : Nat)) else (0 : Int)) ∧ ((0 : Int) = if mayG H N = Bool.true then Go.Sx.lw ((Go.Sx.addB (spOf L H N) f n).a (22 : Nat)) else (0 : Int)) ∧ ((0 : Int) = if mayG H N = Bool.true then Go.Sx.lw ((Go.Sx.addB (spOf L H N) f n).a (23 : Nat)) else (0 : Int)) ∧ ((0 : Int) = if mayG H N = Bool.true then Go.Sx.lw ((Go.Sx.addB (spOf L H N) f n).a (24 : Nat)) else (0 : Int)) ∧ ((0 : Int) = if mayG H N = Bool.true then (Go.Sx.addB (spOf L H N) f n).H (0 : Nat) else (0 : Int)) ∧ ((0 : Int) = if mayG H N = Bool.true then (Go.Sx.addB (spOf L H N) f n).H (1 : Nat) else (0 : Int)) ∧ ((0 : Int) = if mayG H N = Bool.true then (Go.Sx.addB (spOf L H N) f n).H (2 : Nat) else (0 : Int)) ∧ ((0 : Int) = if mayG H N = Bool.true then (Go.Sx.addB (spOf L H N) f n).H (3 : Nat) else (0 : Int)) ∧ ((0 : Int) = if mayG H N = Bool.true then (Go.Sx.addB (spOf L H N) f n).H (4 : Nat) else (0 : Int)) ∧ ((0 : Int) = if mayG H N = Bool.true then (Go.Sx.addB (spOf L H N) f n).H (5 : Nat) else (0 : Int)) ∧ ((0 : Int) = if mayG H N = Bool.true then (Go.Sx.addB (spOf L H N) f n).H (6 : Nat) else (0 : Int)) ∧ ((0 : Int) = if mayG H N = Bool.true then (Go.Sx.addB (spOf L H N) f n).H (7 : Nat) else (0 : Int)) ∧ ((0 : Int) = if mayG H N = Bool.true then (Go.Sx.addB (spOf L H N) f n).H (8 : Nat) else (0 : Int)) ∧ ((0 : Int) = if mayG H N = Bool.true then (Go.Sx.addB (spOf L H N) f n).H (9 : Nat) else (0 : Int)) ∧ ((0 : Int) = if mayG H N = Bool.true then (Go.Sx.addB (spOf L H N) f n).H (10 : Nat) else (0 : Int)) ∧ ((0 : Int) = if mayG H N = Bool.true then (Go.Sx.addB (spOf L H N) f n).H (11 : Nat) else (0 : Int)) ∧ ((0 : Int) = if mayG H N = Bool.true then (Go.Sx.addB (spOf L H N) f n).H (12 : Nat) else (0 : Int)) ∧ ((0 : Int) = if mayG H N = Bool.true then (Go.Sx.addB (spOf L H N) f n).H (13 : Nat) else (0 : Int)) ∧ ((0 : Int) = if mayG H N = Bool.true then (Go.Sx.addB (spOf L H N) f n).H (14 : Nat) else (0 : Int)) ∧ ((0 : Int) = if mayG H N = Bool.true then (Go.Sx.addB (spOf L H N) f n).H (15 : Nat) else (0 : Int)) ∧ ((0 : Int) = if mayG H N = Bool.true then (Go.Sx.addB (spOf L H N) f n).H (16 : Nat) else (0 : Int)) ∧ ((0 : Int) = if mayG H N = Bool.true then (Go.Sx.addB (spOf L H N) f n).H (17 : Nat) else (0 : Int)) ∧ ((0 : Int) = if mayG H N = Bool.true then (Go.Sx.addB (spOf L H N) f n).H (18 : Nat) else (0 : Int)) ∧ ((0 : Int) = if mayG H N = Bool.true then (Go.Sx.addB (spOf L H N) f n).H (19 : Nat) else (0 : Int)) ∧ ((0 : Int) = if mayG H N = Bool.true then (Go.Sx.addB (spOf L H N) f n).H (20 : Nat) else (0 : Int)) ∧ ((0 : Int) = if mayG H N = Bool.true then (Go.Sx.addB (spOf L H N) f n).H (21 : Nat) else (0 : Int)) ∧ ((0 : Int) = if mayG H N = Bool.true then (Go.Sx.addB (spOf L H N) f n).H (22 : Nat) else (0 : Int)) ∧ ((0 : Int) = if mayG H N = Bool.true then (Go.Sx.addB (spOf L H N) f n).H (23 : Nat) else (0 : Int)) ∧ ((0 : Int) = if mayG H N = Bool.true then (Go.Sx.addB (spOf L H N) f n).H (24 : Nat) else (0 : Int)) ∧ ((0 : Int) = if mayG H N = Bool.true then (Go.Sx.addB (spOf L H N) f n).H (25 : Nat) else (0 : Int)) ∧ ((0 : Int) = if mayG H N = Bool.true then (Go.Sx.addB (spOf L H N) f n).H (26 : Nat) else (0 : Int)) ∧ ((0 : Int) = if mayG H N = Bool.true then (Go.Sx.addB (spOf L H N) f n).H (27 : Nat) else (0 : Int)) ∧ ((0 : Int) = if mayG H N = Bool.true then (Go.Sx.addB (spOf L H N) f n).H (28 : Nat) else (0 : Int)) ∧ ((0 : Int) = if mayG H N = Bool.true then (Go.Sx.addB (spOf L H N) f n).H (29 : Nat) else (0 : Int)) ∧ ((0 : Int) = if mayG H N = Bool.true then (Go.Sx.addB (spOf L H N) f n).H (30 : Nat) else (0 : Int)) ∧ ((0 : Int) = if mayG H N = Bool.true then (Go.Sx.addB (spOf L H N) f n).H (31 : Nat) else (0 : Int)) ∧ ((0 : Int) = if mayG H N = Bool.true then (Go.Sx.addB (spOf L H N) f n).H (32 : Nat) else (0 : Int)) ∧ ((0 : Int) = if mayG H N = Bool.true then (Go.Sx.addB (spOf L H N) f n).H (33 : Nat) else (0 : Int)) ∧ ((0 : Int) = if mayG H N = Bool.true then (Go.Sx.addB (spOf L H N) f n).H (34 : Nat) else (0 : Int)) ∧ ((0 : Int) = if mayG H N = Bool.true then (Go.Sx.addB (spOf L H N) f n).H (35 : Nat) else (0 : Int)) ∧ ((0 : Int) = if mayG H N = Bool.true then (Go.Sx.addB (spOf L H N) f n).H (36 : Nat) else (0 : Int)) ∧ ((0 : Int) = if mayG H N = Bool.true then (Go.Sx.addB (spOf L H N) f n).H (37 : Nat) else (0 : Int)) ∧ ((0 : Int) = if mayG H N = Bool.true then (Go.Sx.addB (spOf L H N) f n).H (38 : Nat) else (0 : Int)) ∧ ((0 : Int) = if mayG H N = Bool.true then (Go.Sx.addB (spOf L H N) f n).H (39 : Nat) else (0 : Int)) ∧ ((0 : Int) = if mayG H N = Bool.true then (Go.Sx.addB (spOf L H N) f n).H (40 : Nat) else (0 : Int)) ∧ ((0 : Int) = if mayG H N = Bool.true then (Go.Sx.addB (spOf L H N) f n).H (41 : Nat) else (0 : Int)) ∧ ((0 : Int) = if mayG H N = Bool.true then (Go.Sx.addB (spOf L H N) f n).H (42 : Nat) else (0 : Int)) ∧ ((0 : Int) = if mayG H N = Bool.true then (Go.Sx.addB (spOf L H N) f n).H (43 : Nat) else (0 : Int)) ∧ ((0 : Int) = if mayG H N = Bool.true then (Go.Sx.addB (spOf L H N) f n).H (44 : Nat) else (0 : Int)) ∧ ((0 : Int) = if mayG H N = Bool.true then (Go.Sx.addB (spOf L H N) f n).H (45 : Nat) else (0 : Int)) ∧ ((0 : Int) = if mayG H N = Bool.true then (Go.Sx.addB (spOf L H N) f n).H (46 : Nat) else (0 : Int)) ∧ ((0 : Int) = if mayG H N = Bool.true then (Go.Sx.addB (spOf L H N) f n).H (47 : Nat) else (0 : Int)) ∧ ((0 : Int) = if mayG H N = Bool.true then (Go.Sx.addB (spOf L H N) f n).H (48 : Nat) else (0 : Int)) ∧ ((0 : Int) = if mayG H N = Bool.true then (Go.Sx.addB (spOf L H N) f n).H (49 : Nat) else (0 : Int)) ∧ ((0 : Int) = if mayG H N = Bool.true then (Go.Sx.addB (spOf L H N) f n).H (50 : Nat) else (0 : Int)) ∧ ((0 : Int) = if mayG H N = Bool.true then (Go.Sx.addB (spOf L H N) f n).H (51 : Nat) else (0 : Int)) ∧ ((0 : Int) = if mayG H N = Bool.true then (Go.Sx.addB (spOf L H N) f n).H (52 : Nat) else (0 : Int)) ∧ ((0 : Int) = if mayG H N = Bool.true then (Go.Sx.addB (spOf L H N) f n).H (53 : Nat) else (0 : Int)) ∧ ((0 : Int) = if mayG H N = Bool.true then (Go.Sx.addB (spOf L H N) f n).H (54 : Nat) else (0 : Int)) ∧ ((0 : Int) = if mayG H N = Bool.true then (Go.Sx.addB (spOf L H N) f n).H (55 : Nat) else (0 : Int)) ∧ ((0 : Int) = if mayG H N = Bool.true then (Go.Sx.addB (spOf L H N) f n).H (56 : Nat) else (0 : Int)) ∧ ((0 : Int) = if mayG H N = Bool.true then (Go.Sx.addB (spOf L H N) f n).H (57 : Nat) else (0 : Int)) ∧ ((0 : Int) = if mayG H N = Bool.true then (Go.Sx.addB (spOf L H N) f n).H (58 : Nat) else (0 : Int)) ∧ ((0 : Int) = if mayG H N = Bool.true then (Go.Sx.addB (spOf L H N) f n).H (59 : Nat) else (0 : Int)) ∧ ((0 : Int) = if mayG H N = Bool.true then (Go.Sx.addB (spOf L H N) f n).H (60 : Nat) else (0 : Int)) ∧ ((0 : Int) = if mayG H N = Bool.true then (Go.Sx.addB (spOf L H N) f n).H (61 : Nat) else (0 : Int)) ∧ ((0 : Int) = if mayG H N = Bool.true then (Go.Sx.addB (spOf L H N) f n).H (62 : Nat) else (0 : Int)) ∧ ((0 : Int) = if mayG H N = Bool.true then (Go.Sx.addB (spOf L H N) f n).H (63 : Nat) else (0 : Int)) ∧ ((0 : Int) = if mayG H N = Bool.true then (Go.Sx.addB (spOf L H N) f n).H (64 : Nat) else (0 : Int)) ∧ ((0 : Int) = if mayG H N = Bool.true then (Go.Sx.addB (spOf L H N) f n).H (65 : Nat) else (0 : Int)) ∧ ((0 : Int) = if mayG H N = Bool.true then (Go.Sx.addB (spOf L H N) f n).H (66 : Nat) else (0 : Int)) ∧ ((0 : Int) = if mayG H N = Bool.true then (Go.Sx.addB (spOf L H N) f n).H (67 : Nat) else (0 : Int)) ∧ ((0 : Int) = if mayG H N = Bool.true then (Go.Sx.addB (spOf L H N) f n).H (68 : Nat) else (0 : Int)) ∧ ((0 : Int) = if mayG H N = Bool.true then (Go.Sx.addB (spOf L H N) f n).H (69 : Nat) else (0 : Int)) ∧ ((0 : Int) = if mayG H N = Bool.true then (Go.Sx.addB (spOf L H N) f n).H (70 : Nat) else (0 : Int)) ∧ ((0 : Int) = if mayG H N = Bool.true then (Go.Sx.addB (spOf L H N) f n).H (71 : Nat) else (0 : Int)) ∧ ((0 : Int) = if mayG H N = Bool.true then (Go.Sx.addB (spOf L H N) f n).H (72 : Nat) else (0 : Int)) ∧ ((0 : Int) = if mayG H N = Bool.true then (Go.Sx.addB (spOf L H N) f n).H (73 : Nat) else (0 : Int)) ∧ ((0 : Int) = if mayG H N = Bool.true then (Go.Sx.addB (spOf L H N) f n).H (74 : Nat) else (0 : Int)) ∧ ((0 : Int) = if mayG H N = Bool.true then (Go.Sx.addB (spOf L H N) f n).H (75 : Nat) else (0 : Int)) ∧ ((0 : Int) = if mayG H N = Bool.true then (Go.Sx.addB (spOf L H N) f n).H (76 : Nat) else (0 : Int)) ∧ ((0 : Int) = if mayG H N = Bool.true then (Go.Sx.addB (spOf L H N) f n).H (77 : Nat) else (0 : Int)) ∧ ((0 : Int) = if mayG H N = Bool.true then (Go.Sx.addB (spOf L H N) f n).H (78 : Nat) else (0 : Int)) ∧ ((0 : Int) = if mayG H N = Bool.true then (Go.Sx.addB (spOf L H N) f n).H (79 : Nat) else (0 : Int)) ∧ ((0 : Int) = if mayG H N = Bool.true then (Go.Sx.addB (spOf L H N) f n).H (80 : Nat) else (0 : Int)) ∧ ((0 : Int) = if mayG H N = Bool.true then (Go.Sx.addB (spOf L H N) f n).H (81 : Nat) else (0 : Int)) ∧ ((0 : Int) = if mayG H N = Bool.true then (Go.Sx.addB (spOf L H N) f n).H (82 : Nat) else (0 : Int)) ∧ ((0 : Int) = if mayG H N = Bool.true then (Go.Sx.addB (spOf L H N) f n).H (83 : Nat) else (0 : Int)) ∧ ((0 : Int) = if mayG H N = Bool.true then (Go.Sx.addB (spOf L H N) f n).H (84 : Nat) else (0 : Int)) ∧ ((0 : Int) = if mayG H N = Bool.true then (Go.Sx.addB (spOf L H N) f n).H (85 : Nat) else (0 : Int)) ∧ ((0 : Int) = if mayG H N = Bool.true then (Go.Sx.addB (spOf L H N) f n).H (86 : Nat) else (0 : Int)) ∧ ((0 : Int) = if mayG H N = Bool.true then (Go.Sx.addB (spOf L H N) f n).H (87 : Nat) else (0 : Int)) ∧ ((0 : Int) = if mayG H N = Bool.true then (Go.Sx.addB (spOf L H N) f n).H (88 : Nat) else (0 : Int)) ∧ ((0 : Int) = if mayG H N = Bool.true then (Go.Sx.addB (spOf L H N) f n).H (89 : Nat) else (0 : Int)) ∧ ((0 : Int) = if mayG H N = Bool.true then (Go.Sx.addB (spOf L H N) f n).H (90 : Nat) else (0 : Int)) ∧ ((0 : Int) = if mayG H N = Bool.true then (Go.Sx.addB (spOf L H N) f n).H (91 : Nat) else (0 : Int)) ∧ ((0 : Int) = if mayG H N = Bool.true then (Go.Sx.addB (spOf L H N) f n).H (92 : Nat) else (0 : Int)) ∧ ((0 : Int) = if mayG H N = Bool.true then (Go.Sx.addB (spOf L H N) f n).H (93 : Nat) else (0 : Int)) ∧ ((0 : Int) = if mayG H N = Bool.true then (Go.Sx.addB (spOf L H N) f n).H (94 : Nat) else (0 : Int)) ∧ ((0 : Int) = if mayG H N = Bool.true then (Go.Sx.addB (spOf L H N) f n).H (95 : Nat) else (0 : Int)) ∧ ((0 : Int) = if mayG H N = Bool.true then (Go.Sx.addB (spOf L H N) f n).H (96 : Nat) else (0 : Int)) ∧ ((0 : Int) = if mayG H N = Bool.true then (Go.Sx.addB (spOf L H N) f n).H (97 : Nat) else (0 : Int)) ∧ ((0 : Int) = if mayG H N = Bool.true then (Go.Sx.addB (spOf L H N) f n).H (98 : Nat) else (0 : Int)) ∧ ((0 : Int) = if mayG H N = Bool.true then (Go.Sx.addB (spOf L H N) f n).H (99 : Nat) else (0 : Int)) ∧ ((0 : Int) = if mayG H N = Bool.true then (Go.Sx.addB (spOf L H N) f n).H (100 : Nat) else (0 : Int)) ∧ ((0 : Int) = if mayG H N = Bool.true then (Go.Sx.addB (spOf L H N) f n).H (101 : Nat) else (0 : Int)) ∧ ((0 : Int) = if mayG H N = Bool.true then (Go.Sx.addB (spOf L H N) f n).H (102 : Nat) else (0 : Int)) ∧ ((0 : Int) = if mayG H N = Bool.true then (Go.Sx.addB (spOf L H N) f n).H (103 : Nat) else (0 : Int)) ∧ ((0 : Int) = if mayG H N = Bool.true then (Go.Sx.addB (spOf L H N) f n).H (104 : Nat) else (0 : Int)) ∧ ((0 : Int) = if mayG H N = Bool.true then (Go.Sx.addB (spOf L H N) f n).H (105 : Nat) else (0 : Int)) ∧ ((0 : Int) = if mayG H N = Bool.true then (Go.Sx.addB (spOf L H N) f n).H (106 : Nat) else (0 : Int)) ∧ ((0 : Int) = if mayG H N = Bool.true then (Go.Sx.addB (spOf L H N) f n).H (107 : Nat) else (0 : Int)) ∧ ((0 : Int) = if mayG H N = Bool.true then (Go.Sx.addB (spOf L H N) f n).H (108 : Nat) else (0 : Int)) ∧ ((0 : Int) = if mayG H N = Bool.true then (Go.Sx.addB (spOf L H N) f n).H (109 : Nat) else (0 : Int)) ∧ ((0 : Int) = if mayG H N = Bool.true then (Go.Sx.addB (spOf L H N) f n).H (110 : Nat) else (0 : Int)) ∧ ((0 : Int) = if mayG H N = Bool.true then (Go.Sx.addB (spOf L H N) f n).H (111 : Nat) else (0 : Int)) ∧ ((0 : Int) = if mayG H N = Bool.true then (Go.Sx.addB (spOf L H N) f n).H (112 : Nat) else (0 : Int)) ∧ ((0 : Int) = if mayG H N = Bool.true then (Go.Sx.addB (spOf L H N) f n).H (113 : Nat) else (0 : Int)) ∧ ((0 : Int) = if mayG H N = Bool.true then (Go.Sx.addB (spOf L H N) f n).H (114 : Nat) else (0 : Int)) ∧ ((0 : Int) = if mayG H N = Bool.true then (Go.Sx.addB (spOf L H N) f n).H (115 : Nat) else (0 : Int)) ∧ ((0 : Int) = if mayG H N = Bool.true then (Go.Sx.addB (spOf L H N) f n).H (116 : Nat) else (0 : Int)) ∧ ((0 : Int) = if mayG H N = Bool.true then (Go.Sx.addB (spOf L H N) f n).H (117 : Nat) else (0 : Int)) ∧ ((0 : Int) = if mayG H N = Bool.true then (Go.Sx.addB (spOf L H N) f n).H (118 : Nat) else (0 : Int)) ∧ ((0 : Int) = if mayG H N = Bool.true then (Go.Sx.addB (spOf L H N) f n).H (119 : Nat) else (0 : Int)) ∧ ((0 : Int) = if mayG H N = Bool.true then (Go.Sx.addB (spOf L H N) f n).H (120 : Nat) else (0 : Int)) ∧ ((0 : Int) = if mayG H N = Bool.true then (Go.Sx.addB (spOf L H N) f n).H (121 : Nat) else (0 : Int)) ∧ ((0 : Int) = if mayG H N = Bool.true then (Go.Sx.addB (spOf L H N) f n).H (122 : Nat) else (0 : Int)) ∧ ((0 : Int) = if mayG H N = Bool.true then (Go.Sx.addB (spOf L H N) f n).H (123 : Nat) else (0 : Int)) ∧ ((0 : Int) = if mayG H N = Bool.true then (Go.Sx.addB (spOf L H N) f n).H (124 : Nat) else (0 : Int)) ∧ ((0 : Int) = if mayG H N = Bool.true then (Go.Sx.addB (spOf L H N) f n).H (125 : Nat) else (0 : Int)) ∧ ((0 : Int) = if mayG H N = Bool.true then (Go.Sx.addB (spOf L H N) f n).H (126 : Nat) else (0 : Int)) ∧ ((0 : Int) = if mayG H N = Bool.true then (Go.Sx.addB (spOf L H N) f n).H (127 : Nat) else (0 : Int)) ∧ ((0 : Int) = if mayG H N = Bool.true then (Go.Sx.addB (spOf L H N) f n).H (128 : Nat) else (0 : Int)) ∧ ((0 : Int) = if mayG H N = Bool.true then (Go.Sx.addB (spOf L H N) f n).H (129 : Nat) else (0 : Int)) ∧ ((0 : Int) = if mayG H N = Bool.true then (Go.Sx.addB (spOf L H N) f n).H (130 : Nat) else (0 : Int)) ∧ ((0 : Int) = if mayG H N = Bool.true then (Go.Sx.addB (spOf L H N) f n).H (131 : Nat) else (0 : Int)) ∧ ((0 : Int) = if mayG H N = Bool.true then (Go.Sx.addB (spOf L H N) f n).H (132 : Nat) else (0 : Int)) ∧ ((0 : Int) = if mayG H N = Bool.true then (Go.Sx.addB (spOf L H N) f n).H (133 : Nat) else (0 : Int)) ∧ ((0 : Int) = if mayG H N = Bool.true then (Go.Sx.addB (spOf L H N) f n).H (134 : Nat) else (0 : Int)) ∧ ((0 : Int) = if mayG H N = Bool.true then (Go.Sx.addB (spOf L H N) f n).H (135 : Nat) else (0 : Int)) ∧ (0 : Int) = x1 ∧ True) ∧ (12 : Int) = x2) ∧ ((!mayG H N) = Bool.false → (∀ (y : Nat × Option Go.Addr × Nat), Go.Sx.closedB (Go.Sx.slotsAt (34 : Nat) [((1 : Nat), Go.Sx.SV.one (Go.Sx.sXs y.snd.fst (n - y.fst) y.snd.snd fun (i : Nat) => f (y.fst + i))), ((2 : Nat), Go.Sx.SV.one (Go.Sx.SA.sc (Go.Sx.SC.ptr (0 : Nat) (0 : Nat)))), ((4 : Nat), Go.Sx.SV.one (Go.Sx.SA.sc (Go.Sx.SC.ptr (1 : Nat) (0 : Nat)))), ((5 : Nat), Go.Sx.SV.one (Go.Sx.SA.sc (Go.Sx.SC.num Go.IntKind.i64 (0 : Int))))]) [Go.Sx.SO.cells (26 : Go.TypeId) [Go.Sx.SK.f Go.IntKind.u64 (25 : Nat) fun (i : Nat) => Go.Sx.lw ((Go.Sx.addB (spOf L H N) f y.fst).a i), Go.Sx.SK.f Go.IntKind.u8 (136 : Nat) (Go.Sx.addB (spOf L H N) f y.fst).H, Go.Sx.SK.c (Go.Sx.SC.val (Go.Value.int Go.IntKind.i64 (↑(Go.Sx.addB (spOf L H N) f y.fst).n : Int)))] (0 : Nat), Go.Sx.SO.cells (26 : Go.TypeId) (List.replicate (25 : Nat) (Go.Sx.SK.c (Go.Sx.SC.num Go.IntKind.u64 (0 : Int))) ++ List.replicate (136 : Nat) (Go.Sx.SK.c (Go.Sx.SC.num Go.IntKind.u8 (0 : Int))) ++ [Go.Sx.SK.c (Go.Sx.SC.num Go.IntKind.i64 (0 : Int))]) (0 : Nat)] = Bool.true) ∧ ∃ (y : Nat × Option Go.Addr × Nat), (mayG H N = Bool.true ∧ y.fst ≤ n) ∧ (a = y.snd.fst ∧ n = n - y.fst ∧ cap = y.snd.snd ∧ ∀ (i : Nat), i < n → f i = f (y.fst + i)) ∧ ((∀ (j : Nat), j < (25 : Nat) → L j = Go.Sx.lw ((Go.Sx.addB (spOf L H N) f y.fst).a j)) ∧ (∀ (j : Nat), j < (136 : Nat) → H j = (Go.Sx.addB (spOf L H N) f y.fst).H j) ∧ N = (↑(Go.Sx.addB (spOf L H N) f y.fst).n : Int) ∧ True) ∧ (0 : Nat) = (0 : Nat) ∧ (0 : Nat) = (0 : Nat) ∧ ∀ (y : Nat × Option Go.Addr × Nat), mayG H N = Bool.true ∧ y.fst ≤ n → (Decidable.decide ((↑(n - y.fst) : Int) > (0 : Int)) = Bool.true → ((0 : Int) ≤ (↑(Go.Sx.addB (spOf L H N) f y.fst).n : Int) ∧ (↑(Go.Sx.addB (spOf L H N) f y.fst).n : Int) < (136 : Int)) ∧ (↑(Go.Sx.addB (spOf L H N) f y.fst).n : Int).toNat ≤ (136 : Nat) ∧ (∀ (j : Nat), True) ∧ ((0 : Int) ≤ (↑((n - y.fst).min ((136 : Nat) - (↑(Go.Sx.addB (spOf L H N) f y.fst).n : Int).toNat)) : Int) ∧ (↑((n - y.fst).min ((136 : Nat) - (↑(Go.Sx.addB (spOf L H N) f y.fst).n : Int).toNat)) : Int) ≤ (↑(n - y.fst) : Int) ∧ (↑(n - y.fst) : Int) ≤ (↑(n - y.fst) : Int)) ∧ ((Go.IntKind.i64.wrap ((↑(Go.Sx.addB (spOf L H N) f y.fst).n : Int) + (↑((n - y.fst).min ((136 : Nat) - (↑(Go.Sx.addB (spOf L H N) f y.fst).n : Int).toNat)) : Int)) == (136 : Int)) = Bool.true → (∀ (i : Nat), i < (25 : Nat) → (0 : Int) ≤ Go.Sx.lw ((Go.Sx.addB (spOf L H N) f y.fst).a i) ∧ Go.Sx.lw ((Go.Sx.addB (spOf L H N) f y.fst).a i) < (18446744073709551616 : Int)) ∧ ∃ (y' : Nat × Option Go.Addr × Nat), (mayG H N = Bool.true ∧ y'.fst ≤ n) ∧ (Go.Sx.adS y.snd.snd (↑((n - y.fst).min ((136 : Nat) - (↑(Go.Sx.addB (spOf L H N) f y.fst).n : Int).toNat)) : Int).toNat (1 : Nat) y.snd.fst = y'.snd.fst ∧ n - y.fst - (↑((n - y.fst).min ((136 : Nat) - (↑(Go.Sx.addB (spOf L H N) f y.fst).n : Int).toNat)) : Int).toNat = n - y'.fst ∧ y.snd.snd - (↑((n - y.fst).min ((136 : Nat) - (↑(Go.Sx.addB (spOf L H N) f y.fst).n : Int).toNat)) : Int).toNat = y'.snd.snd ∧ ∀ (i : Nat), i < n - y.fst - (↑((n - y.fst).min ((136 : Nat) - (↑(Go.Sx.addB (spOf L H N) f y.fst).n : Int).toNat)) : Int).toNat → f (y.fst + ((↑((n - y.fst).min ((136 : Nat) - (↑(Go.Sx.addB (spOf L H N) f y.fst).n : Int).toNat)) : Int).toNat + i)) = f (y'.fst + i)) ∧ ((∀ (j : Nat), j < (25 : Nat) → Go.Sx.lw (Go.Sx.soakB (Go.Sx.ofRow fun (i : Nat) => Go.Sx.lw ((Go.Sx.addB (spOf L H N) f y.fst).a i)) (fun (j : Nat) => if (↑(Go.Sx.addB (spOf L H N) f y.fst).n : Int).toNat ≤ j ∧ j < (↑(Go.Sx.addB (spOf L H N) f y.fst).n : Int).toNat + (n - y.fst).min ((136 : Nat) - (↑(Go.Sx.addB (spOf L H N) f y.fst).n : Int).toNat) then f (y.fst + (j - (↑(Go.Sx.addB (spOf L H N) f y.fst).n : Int).toNat)) else (Go.Sx.addB (spOf L H N) f y.fst).2 j) j) = Go.Sx.lw ((Go.Sx.addB (spOf L H N) f y'.fst).a j)) ∧ (∀ (j : Nat), j < (136 : Nat) → (0 : Int) = (Go.Sx.addB (spOf L H N) f y'.fst).H j) ∧ (0 : Int) = (↑(Go.Sx.addB (spOf L H N) f y'.fst).n : Int) ∧ True) ∧ (0 : Nat) = (0 : Nat) ∧ (0 : Nat) = (0 : Nat) ∧ n - y'.fst < n - y.fst) ∧ ((Go.IntKind.i64.wrap ((↑(Go.Sx.addB (spOf L H N) f y.fst).n : Int) + (↑((n - y.fst).min ((136 : Nat) - (↑(Go.Sx.addB (spOf L H N) f y.fst).n : Int).toNat)) : Int)) == (136 : Int)) = Bool.false → ∃ (y' : Nat × Option Go.Addr × Nat), (mayG H N = Bool.true ∧ y'.fst ≤ n) ∧ (Go.Sx.adS y.snd.snd (↑((n - y.fst).min ((136 : Nat) - (↑(Go.Sx.addB (spOf L H N) f y.fst).n : Int).toNat)) : Int).toNat (1 : Nat) y.snd.fst = y'.snd.fst ∧ n - y.fst - (↑((n - y.fst).min ((136 : Nat) - (↑(Go.Sx.addB (spOf L H N) f y.fst).n : Int).toNat)) : Int).toNat = n - y'.fst ∧ y.snd.snd - (↑((n - y.fst).min ((136 : Nat) - (↑(Go.Sx.addB (spOf L H N) f y.fst).n : Int).toNat)) : Int).toNat = y'.snd.snd ∧ ∀ (i : Nat), i < n - y.fst - (↑((n - y.fst).min ((136 : Nat) - (↑(Go.Sx.addB (spOf L H N) f y.fst).n : Int).toNat)) : Int).toNat → f (y.fst + ((↑((n - y.fst).min ((136 : Nat) - (↑(Go.Sx.addB (spOf L H N) f y.fst).n : Int).toNat)) : Int).toNat + i)) = f (y'.fst + i)) ∧ ((∀ (j : Nat), j < (25 : Nat) → Go.Sx.lw ((Go.Sx.addB (spOf L H N) f y.fst).a j) = Go.Sx.lw ((Go.Sx.addB (spOf L H N) f y'.fst).a j)) ∧ (∀ (j : Nat), j < (136 : Nat) → (if (↑(Go.Sx.addB (spOf L H N) f y.fst).n : Int).toNat ≤ j ∧ j < (↑(Go.Sx.addB (spOf L H N) f y.fst).n : Int).toNat + (n - y.fst).min ((136 : Nat) - (↑(Go.Sx.addB (spOf L H N) f y.fst).n : Int).toNat) then f (y.fst + (j - (↑(Go.Sx.addB (spOf L H N) f y.fst).n : Int).toNat)) else (Go.Sx.addB (spOf L H N) f y.fst).2 j) = (Go.Sx.addB (spOf L H N) f y'.fst).H j) ∧ Go.IntKind.i64.wrap ((↑(Go.Sx.addB (spOf L H N) f y.fst).n : Int) + (↑((n - y.fst).min ((136 : Nat) - (↑(Go.Sx.addB (spOf L H N) f y.fst).n : Int).toNat)) : Int)) = (↑(Go.Sx.addB (spOf L H N) f y'.fst).n : Int) ∧ True) ∧ (0 : Nat) = (0 : Nat) ∧ (0 : Nat) = (0 : Nat) ∧ n - y'.fst < n - y.fst)) ∧ (Decidable.decide ((↑(n - y.fst) : Int) > (0 : Int)) = Bool.false → ((∀ (j : Nat), j < (25 : Nat) → Go.Sx.lw ((Go.Sx.addB (spOf L H N) f y.fst).a j) = if mayG H N = Bool.true then Go.Sx.lw ((Go.Sx.addB (spOf L H N) f n).a j) else (0 : Int)) ∧ (∀ (j : Nat), j < (136 : Nat) → (Go.Sx.addB (spOf L H N) f y.fst).H j = if mayG H N = Bool.true then (Go.Sx.addB (spOf L H N) f n).H j else (0 : Int)) ∧ (↑(Go.Sx.addB (spOf L H N) f y.fst).n : Int) = x1 ∧ True) ∧ (0 : Int) = x2))) := by kernel_rfl
-- END VC
end Go.Proofs.YtfoklomipdkomaaDoor
end

section
/-
  Package keccak: bytes that are added, and what ends them.
-/
namespace Go.Proofs.YtfoklomipdkomaaDoor
open Go Go.Sx Go.RowKit

theorem pushB_lt {s : Sp} (h : s.n < 136) (b : Int) : (pushB s b).n < 136 := by
  unfold pushB
  split
  · exact Nat.zero_lt_succ _
  · simp only; omega
theorem addB_lt {s : Sp} (h : s.n < 136) (f : Nat → Int) : ∀ p, (addB s f p).n < 136
  | 0 => h
  | p + 1 => pushB_lt (addB_lt h f p) _
theorem addB_add (s : Sp) (f : Nat → Int) (p : Nat) : ∀ m, addB (addB s f p) (fun i => f (p + i)) m = addB s f (p + m)
  | 0 => rfl
  | m + 1 => by
    show pushB _ _ = pushB _ _
    rw [addB_add s f p m]
    rfl
theorem addB_congr {s : Sp} {f g : Nat → Int} : ∀ {m : Nat}, (∀ i, i < m → f i = g i) → addB s f m = addB s g m
  | 0, _ => rfl
  | m + 1, h => by
    show pushB _ _ = pushB _ _
    rw [addB_congr (fun i hi => h i (by omega)), h m (by omega)]
/-- Bytes that fit are held. -/
theorem addB_held (t : Sp) (g : Nat → Int) : ∀ m, t.n + m < 136 → addB t g m = ⟨t.a, fun j => if t.n ≤ j ∧ j < t.n + m then g (j - t.n) else t.H j, t.n + m⟩
  | 0, _ => by
    have : (fun j => if t.n ≤ j ∧ j < t.n + 0 then g (j - t.n) else t.H j) = t.H := by
      funext j
      rw [if_neg (by omega)]
    rw [this]; rfl
  | m + 1, h => by
    show pushB _ _ = _
    rw [addB_held t g m (by omega)]
    unfold pushB
    simp only
    rw [if_neg (by omega)]
    congr 1
    funext j
    by_cases e : j = t.n + m
    · subst e
      rw [if_pos rfl, if_pos (by omega)]
      congr 1; omega
    · rw [if_neg e]
      by_cases c : t.n ≤ j ∧ j < t.n + m
      · rw [if_pos c, if_pos (by omega)]
      · rw [if_neg c, if_neg (by omega)]
/-- The block is full: it is soaked. -/
theorem addB_full (t : Sp) (g : Nat → Int) {m : Nat} (hn : t.n < 136) (h : t.n + m = 136) : addB t g m = ⟨soakB t.a (fun j => if t.n ≤ j ∧ j < t.n + m then g (j - t.n) else t.H j), fun _ => 0, 0⟩ := by
  match m, h with
  | 0, h => omega
  | m + 1, h =>
    show pushB _ _ = _
    rw [addB_held t g m (by omega)]
    unfold pushB
    simp only
    rw [if_pos (by omega)]
    congr 2
    funext j
    by_cases e : j = t.n + m
    · subst e
      rw [if_pos rfl, if_pos (by omega)]
      congr 1; omega
    · rw [if_neg e]
      by_cases c : t.n ≤ j ∧ j < t.n + m
      · rw [if_pos c, if_pos (by omega)]
      · rw [if_neg c, if_neg (by omega)]
theorem may_lt {L H : Nat → Int} {N : Int} (h : mayG H N = true) : (spOf L H N).n < 136 := by
  obtain ⟨⟨h1, h2⟩, _⟩ := (mayG_iff H N).1 h
  show N.toNat < 136
  omega
theorem ok_kAdd (L H : Nat → Int) (N : Int) (a : Option Addr) (n cap : Nat) (f : Nat → Int) (hL : lanes 25 L) :
    Owes Tryd.prog cxEnd [(3, .inv (invAdd L H N n f))] 10 Tryd.f5 [sSp L H N, sXs a n cap f] (kAddG L H N n f) := by
  rw [vc_kAdd]
  intro x1 x2
  refine ⟨fun hm => ?_, fun hm => ?_⟩
  · have hm : mayG H N = false := by simpa using hm
    simp only [x1, x2, hm, Bool.false_eq_true, if_false, and_self]
  · have hm : mayG H N = true := by simpa using hm
    obtain ⟨⟨hN1, hN2⟩, _⟩ := (mayG_iff H N).1 hm
    refine ⟨fun y => rfl, (0, a, cap), ⟨hm, Nat.zero_le _⟩, ⟨rfl, rfl, rfl, fun i _ => by simp only [Nat.zero_add]⟩, ⟨fun j hj => (lw_ofRow hL hj).symm, fun _ _ => rfl, ?_, trivial⟩, rfl, rfl, ?_⟩
    · show N = ((N.toNat : Nat) : Int)
      omega
    rintro ⟨p, ad, cp⟩ ⟨_, hp⟩
    simp only at hp ⊢
    have htl : (addB (spOf L H N) f p).n < 136 := addB_lt (may_lt hm) f p
    refine ⟨fun hlt => ?_, fun hge => ?_⟩
    · have hlt : 0 < ((n - p : Nat) : Int) := of_decide_eq_true hlt
      have hadd := addB_add (spOf L H N) f p
      generalize ht : addB (spOf L H N) f p = t at *
      generalize hq : (n - p).min (136 - ((t.n : Nat) : Int).toNat) = q
      have hq1 : q ≤ n - p := by rw [← hq]; exact Nat.min_le_left _ _
      have hq2 : q ≤ 136 - t.n := by rw [← hq]; exact Nat.min_le_right _ _
      have hq3 : q ≠ 0 := by
        rw [← hq]
        have : 0 < (n - p).min (136 - ((t.n : Nat) : Int).toNat) := Nat.lt_min.2 ⟨by omega, by omega⟩
        omega
      refine ⟨⟨by omega, by omega⟩, by omega, fun _ => trivial, ⟨by omega, by omega, by omega⟩, fun hf => ?_, fun hf => ?_⟩
      · have hf : IntKind.i64.wrap ((t.n : Int) + (q : Int)) = 136 := by simpa using hf
        rw [wrap_small (by omega)] at hf
        have hfull := addB_full t (fun i => f (p + i)) htl (m := q) (by omega)
        rw [hadd q] at hfull
        refine ⟨lanes_lw _ _, (p + q, _, _), ⟨hm, by simp only; omega⟩, ⟨rfl, by simp only [Int.toNat_natCast]; omega, rfl, fun i _ => by simp only [Int.toNat_natCast, Nat.add_assoc]⟩, ⟨fun j _ => ?_, fun j _ => ?_, ?_, trivial⟩, trivial, trivial, by simp only; omega⟩
        · simp only [hfull, ofRow_lw, Int.toNat_natCast]
        · simp only [hfull]
        · simp only [hfull]; rfl
      · have hf : IntKind.i64.wrap ((t.n : Int) + (q : Int)) ≠ 136 := by simpa using hf
        rw [wrap_small (by omega)] at hf
        have hheld := addB_held t (fun i => f (p + i)) q (by omega)
        rw [hadd q] at hheld
        refine ⟨(p + q, _, _), ⟨hm, by simp only; omega⟩, ⟨rfl, by simp only [Int.toNat_natCast]; omega, rfl, fun i _ => by simp only [Int.toNat_natCast, Nat.add_assoc]⟩, ⟨fun j _ => ?_, fun j _ => ?_, ?_, trivial⟩, trivial, trivial, by simp only; omega⟩
        · simp only [hheld]
        · simp only [hheld, Int.toNat_natCast]
        · simp only [hheld]; rw [wrap_small (by omega)]; omega
    · have hge : ¬ 0 < ((n - p : Nat) : Int) := of_decide_eq_false hge
      have : p = n := by omega
      subst this
      simp only [x1, x2, hm, if_true, and_self, implies_true]
theorem bnd_row (k : IntKind) (m : Nat) (g : Nat → Int) (n : Env) : (sRow k m g).bnd n := by
  intro x hx; simp only [List.mem_singleton] at hx; subst hx; trivial
theorem card_kAdd : FnOKg Tryd.prog glK 5 (specSpB (fun L _ _ _ _ => [lanes 25 L]) kAddG) :=
  FnOK_SpB (cx := cxEnd) (iv := fun L H N _ n _ f => [(3, .inv (invAdd L H N n f))]) (by
    intro p hp
    simp only [cxEnd, List.mem_cons, List.not_mem_nil, or_false] at hp
    rcases hp with rfl | rfl | rfl
    · exact card_kMay
    · exact card_soak
    · exact card_first) Tryd.func5 (by kernel_rfl) (by kernel_rfl) (fun _ _ _ _ _ => by
    intro x hx
    simp only [List.mem_cons, List.not_mem_nil, or_false] at hx
    rcases hx with rfl | rfl
    · exact bnd_sSp _ _ _ _
    · trivial) fun L H N a n cap f hc => ok_kAdd L H N a n cap f hc.1
theorem absB_congr {a : Nat → BitVec 64} {H H' : Nat → Int} : ∀ {m : Nat}, (∀ j, j < m → H j = H' j) → absB a H m = absB a H' m
  | 0, _ => rfl
  | m + 1, h => by
    have ih := absB_congr (a := a) (m := m) (fun j hj => h j (by omega))
    simp only [absB, ih, h m (by omega)]
theorem soakB_congr {a : Nat → BitVec 64} {H H' : Nat → Int} (h : ∀ j, j < 136 → H j = H' j) : soakB a H = soakB a H' := by
  unfold soakB; rw [absB_congr h]
set_option maxRecDepth 100000 in
theorem ok_End (L H : Nat → Int) (N : Int) (hL : lanes 25 L) : Owes Tryd.prog cxEnd [] 10 Tryd.f14 [sSp L H N] (endG L H N) := by
  rw [vc_End]
  generalize hW : endB (spOf L H N) = W
  intro x1 x2
  constructor <;> intro hm
  · have hm : mayG H N = false := by simpa using hm
    simp only [x1, hm, Bool.false_eq_true, if_false, and_self]
  · have hm : mayG H N = true := by simpa using hm
    obtain ⟨⟨hN1, hN2⟩, _⟩ := (mayG_iff H N).1 hm
    refine ⟨⟨hN1, hN2⟩, ⟨hN1, hN2⟩, ⟨hN1, hN2⟩, ⟨hN1, hN2⟩, hL, ⟨fun j _ => ?_, trivial⟩, by simp only [x1, hm, if_true]⟩
    refine Eq.trans ?_ (if_pos hm).symm
    rw [← hW]
    refine congrArg (fun F => firstG F j) (funext fun i => congrArg (fun F => lw (F i)) (soakB_congr (a := ofRow L) (H' := padB H N.toNat) fun j hj => ?_))
    simp only [intsL]
    by_cases e : j = 135
    · subst e
      rw [List.getD_eq_getElem?_getD, List.getElem?_append_right (by simp)]
      simp only [List.length_map, List.length_range, Nat.sub_self, List.getElem?_cons_zero, Option.getD_some]
      simp only [intsC, asI, padB, if_true, pad1, x2]
      by_cases e2 : 135 = N.toNat
      · rw [if_pos e2, if_pos e2, e2]
      · rw [if_neg e2, if_neg e2]
    · rw [List.getD_eq_getElem?_getD, List.getElem?_append_left (by simp; omega), List.getElem?_map, List.getElem?_range (by omega)]
      simp only [Option.map_some, Option.getD_some, padB, e, if_false, pad1, x2]
      by_cases e2 : j = N.toNat
      · rw [if_pos e2, if_pos e2, e2]
      · rw [if_neg e2, if_neg e2]
theorem card_End : FnOKg Tryd.prog glK 14 (specSp (fun L _ _ => [lanes 25 L]) endG) :=
  FnOK_Sp (cx := cxEnd) (iv := fun _ _ _ => []) (by
    intro p hp
    simp only [cxEnd, List.mem_cons, List.not_mem_nil, or_false] at hp
    rcases hp with rfl | rfl | rfl
    · exact card_kMay
    · exact card_soak
    · exact card_first) Tryd.func14 (by kernel_rfl) (by kernel_rfl) (fun _ _ _ => by
    intro x hx
    simp only [List.mem_cons, List.not_mem_nil, or_false] at hx
    rcases hx with rfl | rfl
    · exact bnd_row _ _ _ _
    · trivial) fun L H N hc => ok_End L H N hc.1
theorem spOf_lw (t : Sp) : spOf (fun i => lw (t.a i)) t.H (t.n : Int) = t := by
  unfold spOf
  rw [ofRow_lw]
  rfl
theorem mayG_sp {t : Sp} (h1 : t.n < 136) (h2 : ∀ j, t.n ≤ j → j < 136 → t.H j = 0) : mayG t.H (t.n : Int) = true := by
  rw [mayG_iff]
  exact ⟨⟨by omega, by omega⟩, fun j hj => h2 _ (by omega) hj⟩
def clean (t : Sp) : Prop := t.n < 136 ∧ ∀ j, t.n ≤ j → j < 136 → t.H j = 0
theorem pushB_clean {t : Sp} (h : clean t) (b : Int) : clean (pushB t b) := by
  unfold pushB
  split
  · exact ⟨Nat.zero_lt_succ _, fun j _ _ => rfl⟩
  · refine ⟨by have := h.1; simp only; omega, fun j hj hj2 => ?_⟩
    simp only at hj ⊢
    rw [if_neg (by omega)]
    exact h.2 j (by omega) hj2
theorem addB_clean {t : Sp} (h : clean t) (f : Nat → Int) : ∀ m, clean (addB t f m)
  | 0 => h
  | m + 1 => pushB_clean (addB_clean h f m) _
theorem may_clean {t : Sp} (h : clean t) : mayG t.H (t.n : Int) = true := mayG_sp h.1 h.2
/-- A sponge that may be, and bytes. -/
def addM (L H : Nat → Int) (N : Int) (n : Nat) (f : Nat → Int) : SV := .tup [sSp (fun i => lw ((addB (spOf L H N) f n).a i)) (addB (spOf L H N) f n).H ((addB (spOf L H N) f n).n : Int), .sc (.num .i64 0)]
def endM (L H : Nat → Int) (N : Int) : SV := .tup [sRow .u8 32 (endB (spOf L H N)), .sc (.num .i64 0)]
def cAddM : FSpec := specSpB (fun L H N _ _ => [lanes 25 L, mayG H N = true]) addM
def cEndM : FSpec := specSp (fun L H N => [lanes 25 L, mayG H N = true]) endM
theorem card_AddM : FnOKg Tryd.prog glK 5 cAddM := by
  refine FnOKg_weak card_kAdd fun args ps sv' hs hp => ?_
  unfold cAddM specSpB at hs
  split at hs
  · rename_i x y
    split at hs
    · rename_i L H N ps' a n cap f hx hy
      simp only [Option.some.injEq, Prod.mk.injEq] at hs
      obtain ⟨rfl, rfl⟩ := hs
      obtain ⟨o1, o2, o3, _⟩ := Ok.append.1 hp
      refine ⟨?_, ps' ++ [lanes 25 L], kAddG L H N n f, by simp only [specSpB, hx, hy], Ok.append.2 ⟨o1, o2, trivial⟩, fun ρ v hv => ?_⟩
      · intro z hz
        simp only [List.mem_cons, List.not_mem_nil, or_false] at hz
        rcases hz with rfl | rfl
        · exact bnd_sSp _ _ _ _
        · trivial
      · have e : kAddG L H N n f = .tup [sSp (fun i => lw ((addB (spOf L H N) f n).a i)) (addB (spOf L H N) f n).H ((addB (spOf L H N) f n).n : Int), sI .i64 0] := by simp only [kAddG, o3, if_true]
        rw [e] at hv
        exact hv
    · cases hs
  · cases hs
theorem card_EndM : FnOKg Tryd.prog glK 14 cEndM := by
  refine FnOKg_weak card_End fun args ps sv' hs hp => ?_
  unfold cEndM specSp at hs
  split at hs
  · rename_i x
    split at hs
    · rename_i L H N hx
      simp only [Option.some.injEq, Prod.mk.injEq] at hs
      obtain ⟨rfl, rfl⟩ := hs
      obtain ⟨o2, o3, _⟩ := hp
      refine ⟨?_, [lanes 25 L], endG L H N, by simp only [specSp, hx], ⟨o2, trivial⟩, fun ρ v hv => ?_⟩
      · intro z hz
        simp only [List.mem_cons, List.not_mem_nil, or_false] at hz
        rcases hz with rfl | rfl
        · exact bnd_row _ _ _ _
        · trivial
      · have e : endG L H N = .tup [sRow .u8 32 (endB (spOf L H N)), sI .i64 0] := by simp only [endG, o3, if_true]
        rw [e] at hv
        exact hv
    · cases hs
  · cases hs
end Go.Proofs.YtfoklomipdkomaaDoor
end

section
/-
  Turns by any number of places.
-/
namespace Go.Sx
open Go.RowKit
def rotlM (x k : Int) : Int := lw ((BitVec.ofInt 64 x).rotateLeft (k.toNat % 64))
def specRotlN : FSpec := fun args =>
  match args with
  | [x, y] => match asI x, asI y with
    | some (.u64, x), some (.i64, k) => some ([0 ≤ x ∧ x < 18446744073709551616, 0 ≤ k ∧ k < 4096], .one (sI .u64 (rotlM x k)))
    | _, _ => none
  | _ => none
end Go.Sx
end
