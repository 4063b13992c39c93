/-
  Texts: V32, P62, Kl, V33, P63, P11, Byt, V103, P150, V93, V96, P144, V97, P145, Kr.
-/
import Derived.Test.YtpebkgbelifdgaaDoorM1
import Derived.Test.YtpebkgbelifdgaaDoorM2
import Derived.Test.YtpebkgbelifdgaaDoorM3
import Derived.Test.YtpebkgbelifdgaaDoorM4
import Derived.Test.YtpebkgbelifdgaaDoorM5
import Derived.Test.YtpebkgbelifdgaaDoorM6
import Derived.Test.YtpebkgbelifdgaaDoorM7
import Derived.Test.YtpebkgbelifdgaaDoorM8
import Derived.Test.YtpebkgbelifdgaaDoorM9
import Derived.Test.YtpebkgbelifdgaaDoorM10
import Derived.Laws.Strings
section
namespace Go.Proofs.YtpebkgbelifdgaaDoor
open Go Go.Sx Go.RowKit
def cxEnd : Cx := ⟨[(24, specSp (fun _ _ _ => []) fun _ H N => .one (sB (mayG H N))), (25, specSp (fun L _ _ => [lanes 25 L]) soakG), (26, specRow .u64 .u8 25 32 (fun _ => []) firstG)], glK, 0, []⟩
def spOf (L H : Nat → Int) (N : Int) : Sp := ⟨ofRow L, H, N.toNat⟩
def endG (L H : Nat → Int) (N : Int) : SV := .tup [sRow .u8 32 (fun j => if mayG H N then endB (spOf L H N) j else 0), sI .i64 (if mayG H N then 0 else 12)]
def kAddG (L H : Nat → Int) (N : Int) (n : Nat) (f : Nat → Int) : SV := .tup [sSp (fun i => if mayG H N then lw ((addB (spOf L H N) f n).a i) else 0) (fun j => if mayG H N then (addB (spOf L H N) f n).H j else 0) (if mayG H N then ((addB (spOf L H N) f n).n : Int) else 0), sI .i64 (if mayG H N then 0 else 12)]
def invAdd (L H : Nat → Int) (N : Int) (n : Nat) (f : Nat → Int) : Inv where
  X := Nat × Option Addr × Nat
  tm y := slotsAt 34 [(1, .one (sXs y.2.1 (n - y.1) y.2.2 (fun i => f (y.1 + i)))), (2, .one (.sc (.ptr 0 0))), (4, .one (.sc (.ptr 1 0))), (5, .one (.sc (.num .i64 0)))]
  ob y := [.cells 44 [.f .u64 25 (fun i => lw ((addB (spOf L H N) f y.1).a i)), .f .u8 136 (addB (spOf L H N) f y.1).H, .c (.val (.int .i64 ((addB (spOf L H N) f y.1).n : Int)))] 0, .cells 44 (List.replicate 25 (.c (.num .u64 0)) ++ List.replicate 136 (.c (.num .u8 0)) ++ [.c (.num .i64 0)]) 0]
  holds y := mayG H N = true ∧ y.1 ≤ n
  less y := n - y.1
theorem vc_End (L H : Nat → Int) (N : Int) :
    Owes Tryd.prog cxEnd [] 10 Tryd.f19 [sSp L H N] (endG L H N) =
    (let x1 : Int := if mayG H N = Bool.true then (0 : Int) else (12 : Int); let x2 : Int := Go.IntKind.u8.wrap (H N.toNat + (1 : Int)); ((!mayG H N) = Bool.true → (((0 : Int) = if mayG H N = Bool.true then endB (spOf L H N) 0 else (0 : Int)) ∧ ((0 : Int) = if mayG H N = Bool.true then endB (spOf L H N) 1 else (0 : Int)) ∧ ((0 : Int) = if mayG H N = Bool.true then endB (spOf L H N) 2 else (0 : Int)) ∧ ((0 : Int) = if mayG H N = Bool.true then endB (spOf L H N) 3 else (0 : Int)) ∧ ((0 : Int) = if mayG H N = Bool.true then endB (spOf L H N) 4 else (0 : Int)) ∧ ((0 : Int) = if mayG H N = Bool.true then endB (spOf L H N) 5 else (0 : Int)) ∧ ((0 : Int) = if mayG H N = Bool.true then endB (spOf L H N) 6 else (0 : Int)) ∧ ((0 : Int) = if mayG H N = Bool.true then endB (spOf L H N) 7 else (0 : Int)) ∧ ((0 : Int) = if mayG H N = Bool.true then endB (spOf L H N) 8 else (0 : Int)) ∧ ((0 : Int) = if mayG H N = Bool.true then endB (spOf L H N) 9 else (0 : Int)) ∧ ((0 : Int) = if mayG H N = Bool.true then endB (spOf L H N) 10 else (0 : Int)) ∧ ((0 : Int) = if mayG H N = Bool.true then endB (spOf L H N) 11 else (0 : Int)) ∧ ((0 : Int) = if mayG H N = Bool.true then endB (spOf L H N) 12 else (0 : Int)) ∧ ((0 : Int) = if mayG H N = Bool.true then endB (spOf L H N) 13 else (0 : Int)) ∧ ((0 : Int) = if mayG H N = Bool.true then endB (spOf L H N) 14 else (0 : Int)) ∧ ((0 : Int) = if mayG H N = Bool.true then endB (spOf L H N) 15 else (0 : Int)) ∧ ((0 : Int) = if mayG H N = Bool.true then endB (spOf L H N) 16 else (0 : Int)) ∧ ((0 : Int) = if mayG H N = Bool.true then endB (spOf L H N) 17 else (0 : Int)) ∧ ((0 : Int) = if mayG H N = Bool.true then endB (spOf L H N) 18 else (0 : Int)) ∧ ((0 : Int) = if mayG H N = Bool.true then endB (spOf L H N) 19 else (0 : Int)) ∧ ((0 : Int) = if mayG H N = Bool.true then endB (spOf L H N) 20 else (0 : Int)) ∧ ((0 : Int) = if mayG H N = Bool.true then endB (spOf L H N) 21 else (0 : Int)) ∧ ((0 : Int) = if mayG H N = Bool.true then endB (spOf L H N) 22 else (0 : Int)) ∧ ((0 : Int) = if mayG H N = Bool.true then endB (spOf L H N) 23 else (0 : Int)) ∧ ((0 : Int) = if mayG H N = Bool.true then endB (spOf L H N) 24 else (0 : Int)) ∧ ((0 : Int) = if mayG H N = Bool.true then endB (spOf L H N) 25 else (0 : Int)) ∧ ((0 : Int) = if mayG H N = Bool.true then endB (spOf L H N) 26 else (0 : Int)) ∧ ((0 : Int) = if mayG H N = Bool.true then endB (spOf L H N) 27 else (0 : Int)) ∧ ((0 : Int) = if mayG H N = Bool.true then endB (spOf L H N) 28 else (0 : Int)) ∧ ((0 : Int) = if mayG H N = Bool.true then endB (spOf L H N) 29 else (0 : Int)) ∧ ((0 : Int) = if mayG H N = Bool.true then endB (spOf L H N) 30 else (0 : Int)) ∧ ((0 : Int) = if mayG H N = Bool.true then endB (spOf L H N) 31 else (0 : Int)) ∧ True) ∧ (12 : Int) = x1) ∧ ((!mayG H N) = Bool.false → ((0 : Int) ≤ N ∧ N < (136 : Int)) ∧ ((0 : Int) ≤ N ∧ N < (136 : Int)) ∧ ((0 : Int) ≤ N ∧ N < (136 : Int)) ∧ ((0 : Int) ≤ N ∧ N < (136 : Int)) ∧ (∀ (i : Nat), i < 25 → (0 : Int) ≤ L i ∧ L i < (18446744073709551616 : Int)) ∧ ((∀ (j : Nat), j < 32 → firstG (fun (i : Nat) => lw (soakB (ofRow L) (fun (j : Nat) => (intsL [SK.f Go.IntKind.u8 135 fun (j : Nat) => if j = N.toNat then x2 else H j, SK.c (SC.val (Go.Value.int Go.IntKind.u8 (Go.IntKind.u8.wrap ((if 135 = N.toNat then x2 else H 135) + (128 : Int)))))]).getD j (0 : Int)) i)) j = if mayG H N = Bool.true then endB (spOf L H N) j else (0 : Int)) ∧ True) ∧ (0 : Int) = x1)) := by kernel_rfl
set_option maxHeartbeats 4000000 in
theorem vc_kAdd (L H : Nat → Int) (N : Int) (a : Option Addr) (n cap : Nat) (f : Nat → Int) :
    Owes Tryd.prog cxEnd [(3, .inv (invAdd L H N n f))] 10 Tryd.f17 [sSp L H N, sXs a n cap f] (kAddG L H N n f) =
    (let x1 : Int := if mayG H N = Bool.true then (↑(addB (spOf L H N) f n).n : Int) else (0 : Int); let x2 : Int := if mayG H N = Bool.true then (0 : Int) else (12 : Int); ((!mayG H N) = Bool.true → (((0 : Int) = if mayG H N = Bool.true then lw ((addB (spOf L H N) f n).a 0) else (0 : Int)) ∧ ((0 : Int) = if mayG H N = Bool.true then lw ((addB (spOf L H N) f n).a 1) else (0 : Int)) ∧ ((0 : Int) = if mayG H N = Bool.true then lw ((addB (spOf L H N) f n).a 2) else (0 : Int)) ∧ ((0 : Int) = if mayG H N = Bool.true then lw ((addB (spOf L H N) f n).a 3) else (0 : Int)) ∧ ((0 : Int) = if mayG H N = Bool.true then lw ((addB (spOf L H N) f n).a 4) else (0 : Int)) ∧ ((0 : Int) = if mayG H N = Bool.true then lw ((addB (spOf L H N) f n).a 5) else (0 : Int)) ∧ ((0 : Int) = if mayG H N = Bool.true then lw ((addB (spOf L H N) f n).a 6) else (0 : Int)) ∧ ((0 : Int) = if mayG H N = Bool.true then lw ((addB (spOf L H N) f n).a 7) else (0 : Int)) ∧ ((0 : Int) = if mayG H N = Bool.true then lw ((addB (spOf L H N) f n).a 8) else (0 : Int)) ∧ ((0 : Int) = if mayG H N = Bool.true then lw ((addB (spOf L H N) f n).a 9) else (0 : Int)) ∧ ((0 : Int) = if mayG H N = Bool.true then lw ((addB (spOf L H N) f n).a 10) else (0 : Int)) ∧ ((0 : Int) = if mayG H N = Bool.true then lw ((addB (spOf L H N) f n).a 11) else (0 : Int)) ∧ ((0 : Int) = if mayG H N = Bool.true then lw ((addB (spOf L H N) f n).a 12) else (0 : Int)) ∧ ((0 : Int) = if mayG H N = Bool.true then lw ((addB (spOf L H N) f n).a 13) else (0 : Int)) ∧ ((0 : Int) = if mayG H N = Bool.true then lw ((addB (spOf L H N) f n).a 14) else (0 : Int)) ∧ ((0 : Int) = if mayG H N = Bool.true then lw ((addB (spOf L H N) f n).a 15) else (0 : Int)) ∧ ((0 : Int) = if mayG H N = Bool.true then lw ((addB (spOf L H N) f n).a 16) else (0 : Int)) ∧ ((0 : Int) = if mayG H N = Bool.true then lw ((addB (spOf L H N) f n).a 17) else (0 : Int)) ∧ ((0 : Int) = if mayG H N = Bool.true then lw ((addB (spOf L H N) f n).a 18) else (0 : Int)) ∧ ((0 : Int) = if mayG H N = Bool.true then lw ((addB (spOf L H N) f n).a 19) else (0 : Int)) ∧ ((0 : Int) = if mayG H N = Bool.true then lw ((addB (spOf L H N) f n).a 20) else (0 : Int)) ∧ ((0 : Int) = if mayG H N = Bool.true then lw ((addB (spOf L H N) f n).a 21) else (0 : Int)) ∧ ((0 : Int) = if mayG H N = Bool.true then lw ((addB (spOf L H N) f n).a 22) else (0 : Int)) ∧ ((0 : Int) = if mayG H N = Bool.true then lw ((addB (spOf L H N) f n).a 23) else (0 : Int)) ∧ ((0 : Int) = if mayG H N = Bool.true then lw ((addB (spOf L H N) f n).a 24) else (0 : Int)) ∧ ((0 : Int) = if mayG H N = Bool.true then (addB (spOf L H N) f n).H 0 else (0 : Int)) ∧ ((0 : Int) = if mayG H N = Bool.true then (addB (spOf L H N) f n).H 1 else (0 : Int)) ∧ ((0 : Int) = if mayG H N = Bool.true then (addB (spOf L H N) f n).H 2 else (0 : Int)) ∧ ((0 : Int) = if mayG H N = Bool.true then (addB (spOf L H N) f n).H 3 else (0 : Int)) ∧ ((0 : Int) = if mayG H N = Bool.true then (addB (spOf L H N) f n).H 4 else (0 : Int)) ∧ ((0 : Int) = if mayG H N = Bool.true then (addB (spOf L H N) f n).H 5 else (0 : Int)) ∧ ((0 : Int) = if mayG H N = Bool.true then (addB (spOf L H N) f n).H 6 else (0 : Int)) ∧ ((0 : Int) = if mayG H N = Bool.true then (addB (spOf L H N) f n).H 7 else (0 : Int)) ∧ ((0 : Int) = if mayG H N = Bool.true then (addB (spOf L H N) f n).H 8 else (0 : Int)) ∧ ((0 : Int) = if mayG H N = Bool.true then (addB (spOf L H N) f n).H 9 else (0 : Int)) ∧ ((0 : Int) = if mayG H N = Bool.true then (addB (spOf L H N) f n).H 10 else (0 : Int)) ∧ ((0 : Int) = if mayG H N = Bool.true then (addB (spOf L H N) f n).H 11 else (0 : Int)) ∧ ((0 : Int) = if mayG H N = Bool.true then (addB (spOf L H N) f n).H 12 else (0 : Int)) ∧ ((0 : Int) = if mayG H N = Bool.true then (addB (spOf L H N) f n).H 13 else (0 : Int)) ∧ ((0 : Int) = if mayG H N = Bool.true then (addB (spOf L H N) f n).H 14 else (0 : Int)) ∧ ((0 : Int) = if mayG H N = Bool.true then (addB (spOf L H N) f n).H 15 else (0 : Int)) ∧ ((0 : Int) = if mayG H N = Bool.true then (addB (spOf L H N) f n).H 16 else (0 : Int)) ∧ ((0 : Int) = if mayG H N = Bool.true then (addB (spOf L H N) f n).H 17 else (0 : Int)) ∧ ((0 : Int) = if mayG H N = Bool.true then (addB (spOf L H N) f n).H 18 else (0 : Int)) ∧ ((0 : Int) = if mayG H N = Bool.true then (addB (spOf L H N) f n).H 19 else (0 : Int)) ∧ ((0 : Int) = if mayG H N = Bool.true then (addB (spOf L H N) f n).H 20 else (0 : Int)) ∧ ((0 : Int) = if mayG H N = Bool.true then (addB (spOf L H N) f n).H 21 else (0 : Int)) ∧ ((0 : Int) = if mayG H N = Bool.true then (addB (spOf L H N) f n).H 22 else (0 : Int)) ∧ ((0 : Int) = if mayG H N = Bool.true then (addB (spOf L H N) f n).H 23 else (0 : Int)) ∧ ((0 : Int) = if mayG H N = Bool.true then (addB (spOf L H N) f n).H 24 else (0 : Int)) ∧ ((0 : Int) = if mayG H N = Bool.true then (addB (spOf L H N) f n).H 25 else (0 : Int)) ∧ ((0 : Int) = if mayG H N = Bool.true then (addB (spOf L H N) f n).H 26 else (0 : Int)) ∧ ((0 : Int) = if mayG H N = Bool.true then (addB (spOf L H N) f n).H 27 else (0 : Int)) ∧ ((0 : Int) = if mayG H N = Bool.true then (addB (spOf L H N) f n).H 28 else (0 : Int)) ∧ ((0 : Int) = if mayG H N = Bool.true then (addB (spOf L H N) f n).H 29 else (0 : Int)) ∧ ((0 : Int) = if mayG H N = Bool.true then (addB (spOf L H N) f n).H 30 else (0 : Int)) ∧ ((0 : Int) = if mayG H N = Bool.true then (addB (spOf L H N) f n).H 31 else (0 : Int)) ∧ ((0 : Int) = if mayG H N = Bool.true then (addB (spOf L H N) f n).H 32 else (0 : Int)) ∧ ((0 : Int) = if mayG H N = Bool.true then (addB (spOf L H N) f n).H 33 else (0 : Int)) ∧ ((0 : Int) = if mayG H N = Bool.true then (addB (spOf L H N) f n).H 34 else (0 : Int)) ∧ ((0 : Int) = if mayG H N = Bool.true then (addB (spOf L H N) f n).H 35 else (0 : Int)) ∧ ((0 : Int) = if mayG H N = Bool.true then (addB (spOf L H N) f n).H 36 else (0 : Int)) ∧ ((0 : Int) = if mayG H N = Bool.true then (addB (spOf L H N) f n).H 37 else (0 : Int)) ∧ ((0 : Int) = if mayG H N = Bool.true then (addB (spOf L H N) f n).H 38 else (0 : Int)) ∧ ((0 : Int) = if mayG H N = Bool.true then (addB (spOf L H N) f n).H 39 else (0 : Int)) ∧ ((0 : Int) = if mayG H N = Bool.true then (addB (spOf L H N) f n).H 40 else (0 : Int)) ∧ ((0 : Int) = if mayG H N = Bool.true then (addB (spOf L H N) f n).H 41 else (0 : Int)) ∧ ((0 : Int) = if mayG H N = Bool.true then (addB (spOf L H N) f n).H 42 else (0 : Int)) ∧ ((0 : Int) = if mayG H N = Bool.true then (addB (spOf L H N) f n).H 43 else (0 : Int)) ∧ ((0 : Int) = if mayG H N = Bool.true then (addB (spOf L H N) f n).H 44 else (0 : Int)) ∧ ((0 : Int) = if mayG H N = Bool.true then (addB (spOf L H N) f n).H 45 else (0 : Int)) ∧ ((0 : Int) = if mayG H N = Bool.true then (addB (spOf L H N) f n).H 46 else (0 : Int)) ∧ ((0 : Int) = if mayG H N = Bool.true then (addB (spOf L H N) f n).H 47 else (0 : Int)) ∧ ((0 : Int) = if mayG H N = Bool.true then (addB (spOf L H N) f n).H 48 else (0 : Int)) ∧ ((0 : Int) = if mayG H N = Bool.true then (addB (spOf L H N) f n).H 49 else (0 : Int)) ∧ ((0 : Int) = if mayG H N = Bool.true then (addB (spOf L H N) f n).H 50 else (0 : Int)) ∧ ((0 : Int) = if mayG H N = Bool.true then (addB (spOf L H N) f n).H 51 else (0 : Int)) ∧ ((0 : Int) = if mayG H N = Bool.true then (addB (spOf L H N) f n).H 52 else (0 : Int)) ∧ ((0 : Int) = if mayG H N = Bool.true then (addB (spOf L H N) f n).H 53 else (0 : Int)) ∧ ((0 : Int) = if mayG H N = Bool.true then (addB (spOf L H N) f n).H 54 else (0 : Int)) ∧ ((0 : Int) = if mayG H N = Bool.true then (addB (spOf L H N) f n).H 55 else (0 : Int)) ∧ ((0 : Int) = if mayG H N = Bool.true then (addB (spOf L H N) f n).H 56 else (0 : Int)) ∧ ((0 : Int) = if mayG H N = Bool.true then (addB (spOf L H N) f n).H 57 else (0 : Int)) ∧ ((0 : Int) = if mayG H N = Bool.true then (addB (spOf L H N) f n).H 58 else (0 : Int)) ∧ ((0 : Int) = if mayG H N = Bool.true then (addB (spOf L H N) f n).H 59 else (0 : Int)) ∧ ((0 : Int) = if mayG H N = Bool.true then (addB (spOf L H N) f n).H 60 else (0 : Int)) ∧ ((0 : Int) = if mayG H N = Bool.true then (addB (spOf L H N) f n).H 61 else (0 : Int)) ∧ ((0 : Int) = if mayG H N = Bool.true then (addB (spOf L H N) f n).H 62 else (0 : Int)) ∧ ((0 : Int) = if mayG H N = Bool.true then (addB (spOf L H N) f n).H 63 else (0 : Int)) ∧ ((0 : Int) = if mayG H N = Bool.true then (addB (spOf L H N) f n).H 64 else (0 : Int)) ∧ ((0 : Int) = if mayG H N = Bool.true then (addB (spOf L H N) f n).H 65 else (0 : Int)) ∧ ((0 : Int) = if mayG H N = Bool.true then (addB (spOf L H N) f n).H 66 else (0 : Int)) ∧ ((0 : Int) = if mayG H N = Bool.true then (addB (spOf L H N) f n).H 67 else (0 : Int)) ∧ ((0 : Int) = if mayG H N = Bool.true then (addB (spOf L H N) f n).H 68 else (0 : Int)) ∧ ((0 : Int) = if mayG H N = Bool.true then (addB (spOf L H N) f n).H 69 else (0 : Int)) ∧ ((0 : Int) = if mayG H N = Bool.true then (addB (spOf L H N) f n).H 70 else (0 : Int)) ∧ ((0 : Int) = if mayG H N = Bool.true then (addB (spOf L H N) f n).H 71 else (0 : Int)) ∧ ((0 : Int) = if mayG H N = Bool.true then (addB (spOf L H N) f n).H 72 else (0 : Int)) ∧ ((0 : Int) = if mayG H N = Bool.true then (addB (spOf L H N) f n).H 73 else (0 : Int)) ∧ ((0 : Int) = if mayG H N = Bool.true then (addB (spOf L H N) f n).H 74 else (0 : Int)) ∧ ((0 : Int) = if mayG H N = Bool.true then (addB (spOf L H N) f n).H 75 else (0 : Int)) ∧ ((0 : Int) = if mayG H N = Bool.true then (addB (spOf L H N) f n).H 76 else (0 : Int)) ∧ ((0 : Int) = if mayG H N = Bool.true then (addB (spOf L H N) f n).H 77 else (0 : Int)) ∧ ((0 : Int) = if mayG H N = Bool.true then (addB (spOf L H N) f n).H 78 else (0 : Int)) ∧ ((0 : Int) = if mayG H N = Bool.true then (addB (spOf L H N) f n).H 79 else (0 : Int)) ∧ ((0 : Int) = if mayG H N = Bool.true then (addB (spOf L H N) f n).H 80 else (0 : Int)) ∧ ((0 : Int) = if mayG H N = Bool.true then (addB (spOf L H N) f n).H 81 else (0 : Int)) ∧ ((0 : Int) = if mayG H N = Bool.true then (addB (spOf L H N) f n).H 82 else (0 : Int)) ∧ ((0 : Int) = if mayG H N = Bool.true then (addB (spOf L H N) f n).H 83 else (0 : Int)) ∧ ((0 : Int) = if mayG H N = Bool.true then (addB (spOf L H N) f n).H 84 else (0 : Int)) ∧ ((0 : Int) = if mayG H N = Bool.true then (addB (spOf L H N) f n).H 85 else (0 : Int)) ∧ ((0 : Int) = if mayG H N = Bool.true then (addB (spOf L H N) f n).H 86 else (0 : Int)) ∧ ((0 : Int) = if mayG H N = Bool.true then (addB (spOf L H N) f n).H 87 else (0 : Int)) ∧ ((0 : Int) = if mayG H N = Bool.true then (addB (spOf L H N) f n).H 88 else (0 : Int)) ∧ ((0 : Int) = if mayG H N = Bool.true then (addB (spOf L H N) f n).H 89 else (0 : Int)) ∧ ((0 : Int) = if mayG H N = Bool.true then (addB (spOf L H N) f n).H 90 else (0 : Int)) ∧ ((0 : Int) = if mayG H N = Bool.true then (addB (spOf L H N) f n).H 91 else (0 : Int)) ∧ ((0 : Int) = if mayG H N = Bool.true then (addB (spOf L H N) f n).H 92 else (0 : Int)) ∧ ((0 : Int) = if mayG H N = Bool.true then (addB (spOf L H N) f n).H 93 else (0 : Int)) ∧ ((0 : Int) = if mayG H N = Bool.true then (addB (spOf L H N) f n).H 94 else (0 : Int)) ∧ ((0 : Int) = if mayG H N = Bool.true then (addB (spOf L H N) f n).H 95 else (0 : Int)) ∧ ((0 : Int) = if mayG H N = Bool.true then (addB (spOf L H N) f n).H 96 else (0 : Int)) ∧ ((0 : Int) = if mayG H N = Bool.true then (addB (spOf L H N) f n).H 97 else (0 : Int)) ∧ ((0 : Int) = if mayG H N = Bool.true then (addB (spOf L H N) f n).H 98 else (0 : Int)) ∧ ((0 : Int) = if mayG H N = Bool.true then (addB (spOf L H N) f n).H 99 else (0 : Int)) ∧ ((0 : Int) = if mayG H N = Bool.true then (addB (spOf L H N) f n).H 100 else (0 : Int)) ∧ ((0 : Int) = if mayG H N = Bool.true then (addB (spOf L H N) f n).H 101 else (0 : Int)) ∧ ((0 : Int) = if mayG H N = Bool.true then (addB (spOf L H N) f n).H 102 else (0 : Int)) ∧ ((0 : Int) = if mayG H N = Bool.true then (addB (spOf L H N) f n).H 103 else (0 : Int)) ∧ ((0 : Int) = if mayG H N = Bool.true then (addB (spOf L H N) f n).H 104 else (0 : Int)) ∧ ((0 : Int) = if mayG H N = Bool.true then (addB (spOf L H N) f n).H 105 else (0 : Int)) ∧ ((0 : Int) = if mayG H N = Bool.true then (addB (spOf L H N) f n).H 106 else (0 : Int)) ∧ ((0 : Int) = if mayG H N = Bool.true then (addB (spOf L H N) f n).H 107 else (0 : Int)) ∧ ((0 : Int) = if mayG H N = Bool.true then (addB (spOf L H N) f n).H 108 else (0 : Int)) ∧ ((0 : Int) = if mayG H N = Bool.true then (addB (spOf L H N) f n).H 109 else (0 : Int)) ∧ ((0 : Int) = if mayG H N = Bool.true then (addB (spOf L H N) f n).H 110 else (0 : Int)) ∧ ((0 : Int) = if mayG H N = Bool.true then (addB (spOf L H N) f n).H 111 else (0 : Int)) ∧ ((0 : Int) = if mayG H N = Bool.true then (addB (spOf L H N) f n).H 112 else (0 : Int)) ∧ ((0 : Int) = if mayG H N = Bool.true then (addB (spOf L H N) f n).H 113 else (0 : Int)) ∧ ((0 : Int) = if mayG H N = Bool.true then (addB (spOf L H N) f n).H 114 else (0 : Int)) ∧ ((0 : Int) = if mayG H N = Bool.true then (addB (spOf L H N) f n).H 115 else (0 : Int)) ∧ ((0 : Int) = if mayG H N = Bool.true then (addB (spOf L H N) f n).H 116 else (0 : Int)) ∧ ((0 : Int) = if mayG H N = Bool.true then (addB (spOf L H N) f n).H 117 else (0 : Int)) ∧ ((0 : Int) = if mayG H N = Bool.true then (addB (spOf L H N) f n).H 118 else (0 : Int)) ∧ ((0 : Int) = if mayG H N = Bool.true then (addB (spOf L H N) f n).H 119 else (0 : Int)) ∧ ((0 : Int) = if mayG H N = Bool.true then (addB (spOf L H N) f n).H 120 else (0 : Int)) ∧ ((0 : Int) = if mayG H N = Bool.true then (addB (spOf L H N) f n).H 121 else (0 : Int)) ∧ ((0 : Int) = if mayG H N = Bool.true then (addB (spOf L H N) f n).H 122 else (0 : Int)) ∧ ((0 : Int) = if mayG H N = Bool.true then (addB (spOf L H N) f n).H 123 else (0 : Int)) ∧ ((0 : Int) = if mayG H N = Bool.true then (addB (spOf L H N) f n).H 124 else (0 : Int)) ∧ ((0 : Int) = if mayG H N = Bool.true then (addB (spOf L H N) f n).H 125 else (0 : Int)) ∧ ((0 : Int) = if mayG H N = Bool.true then (addB (spOf L H N) f n).H 126 else (0 : Int)) ∧ ((0 : Int) = if mayG H N = Bool.true then (addB (spOf L H N) f n).H 127 else (0 : Int)) ∧ ((0 : Int) = if mayG H N = Bool.true then (addB (spOf L H N) f n).H 128 else (0 : Int)) ∧ ((0 : Int) = if mayG H N = Bool.true then (addB (spOf L H N) f n).H 129 else (0 : Int)) ∧ ((0 : Int) = if mayG H N = Bool.true then (addB (spOf L H N) f n).H 130 else (0 : Int)) ∧ ((0 : Int) = if mayG H N = Bool.true then (addB (spOf L H N) f n).H 131 else (0 : Int)) ∧ ((0 : Int) = if mayG H N = Bool.true then (addB (spOf L H N) f n).H 132 else (0 : Int)) ∧ ((0 : Int) = if mayG H N = Bool.true then (addB (spOf L H N) f n).H 133 else (0 : Int)) ∧ ((0 : Int) = if mayG H N = Bool.true then (addB (spOf L H N) f n).H 134 else (0 : Int)) ∧ ((0 : Int) = if mayG H N = Bool.true then (addB (spOf L H N) f n).H 135 else (0 : Int)) ∧ (0 : Int) = x1 ∧ True) ∧ (12 : Int) = x2) ∧ ((!mayG H N) = Bool.false → (∀ (y : Nat × Option Go.Addr × Nat), closedB (slotsAt 34 [(1, SV.one (sXs y.snd.fst (n - y.fst) y.snd.snd fun (i : Nat) => f (y.fst + i))), (2, SV.one (SA.sc (SC.ptr 0 0))), (4, SV.one (SA.sc (SC.ptr 1 0))), (5, SV.one (SA.sc (SC.num Go.IntKind.i64 (0 : Int))))]) [SO.cells (44 : Go.TypeId) [SK.f Go.IntKind.u64 25 fun (i : Nat) => lw ((addB (spOf L H N) f y.fst).a i), SK.f Go.IntKind.u8 136 (addB (spOf L H N) f y.fst).H, SK.c (SC.val (Go.Value.int Go.IntKind.i64 (↑(addB (spOf L H N) f y.fst).n : Int)))] 0, SO.cells (44 : Go.TypeId) (List.replicate 25 (SK.c (SC.num Go.IntKind.u64 (0 : Int))) ++ List.replicate 136 (SK.c (SC.num Go.IntKind.u8 (0 : Int))) ++ [SK.c (SC.num Go.IntKind.i64 (0 : Int))]) 0] = Bool.true) ∧ ∃ (y : Nat × Option Go.Addr × Nat), (mayG H N = Bool.true ∧ y.fst ≤ n) ∧ (a = y.snd.fst ∧ n = n - y.fst ∧ cap = y.snd.snd ∧ ∀ (i : Nat), i < n → f i = f (y.fst + i)) ∧ ((∀ (j : Nat), j < 25 → L j = lw ((addB (spOf L H N) f y.fst).a j)) ∧ (∀ (j : Nat), j < 136 → H j = (addB (spOf L H N) f y.fst).H j) ∧ N = (↑(addB (spOf L H N) f y.fst).n : Int) ∧ True) ∧ 0 = 0 ∧ 0 = 0 ∧ ∀ (y : Nat × Option Go.Addr × Nat), mayG H N = Bool.true ∧ y.fst ≤ n → (Decidable.decide ((↑(n - y.fst) : Int) > (0 : Int)) = Bool.true → ((0 : Int) ≤ (↑(addB (spOf L H N) f y.fst).n : Int) ∧ (↑(addB (spOf L H N) f y.fst).n : Int) < (136 : Int)) ∧ (↑(addB (spOf L H N) f y.fst).n : Int).toNat ≤ 136 ∧ (∀ (j : Nat), True) ∧ ((0 : Int) ≤ (↑((n - y.fst).min (136 - (↑(addB (spOf L H N) f y.fst).n : Int).toNat)) : Int) ∧ (↑((n - y.fst).min (136 - (↑(addB (spOf L H N) f y.fst).n : Int).toNat)) : Int) ≤ (↑(n - y.fst) : Int) ∧ (↑(n - y.fst) : Int) ≤ (↑(n - y.fst) : Int)) ∧ ((Go.IntKind.i64.wrap ((↑(addB (spOf L H N) f y.fst).n : Int) + (↑((n - y.fst).min (136 - (↑(addB (spOf L H N) f y.fst).n : Int).toNat)) : Int)) == (136 : Int)) = Bool.true → (∀ (i : Nat), i < 25 → (0 : Int) ≤ lw ((addB (spOf L H N) f y.fst).a i) ∧ lw ((addB (spOf L H N) f y.fst).a i) < (18446744073709551616 : Int)) ∧ ∃ (y' : Nat × Option Go.Addr × Nat), (mayG H N = Bool.true ∧ y'.fst ≤ n) ∧ (adS y.snd.snd (↑((n - y.fst).min (136 - (↑(addB (spOf L H N) f y.fst).n : Int).toNat)) : Int).toNat 1 y.snd.fst = y'.snd.fst ∧ n - y.fst - (↑((n - y.fst).min (136 - (↑(addB (spOf L H N) f y.fst).n : Int).toNat)) : Int).toNat = n - y'.fst ∧ y.snd.snd - (↑((n - y.fst).min (136 - (↑(addB (spOf L H N) f y.fst).n : Int).toNat)) : Int).toNat = y'.snd.snd ∧ ∀ (i : Nat), i < n - y.fst - (↑((n - y.fst).min (136 - (↑(addB (spOf L H N) f y.fst).n : Int).toNat)) : Int).toNat → f (y.fst + ((↑((n - y.fst).min (136 - (↑(addB (spOf L H N) f y.fst).n : Int).toNat)) : Int).toNat + i)) = f (y'.fst + i)) ∧ ((∀ (j : Nat), j < 25 → lw (soakB (ofRow fun (i : Nat) => lw ((addB (spOf L H N) f y.fst).a i)) (fun (j : Nat) => if (↑(addB (spOf L H N) f y.fst).n : Int).toNat ≤ j ∧ j < (↑(addB (spOf L H N) f y.fst).n : Int).toNat + (n - y.fst).min (136 - (↑(addB (spOf L H N) f y.fst).n : Int).toNat) then f (y.fst + (j - (↑(addB (spOf L H N) f y.fst).n : Int).toNat)) else (addB (spOf L H N) f y.fst).2 j) j) = lw ((addB (spOf L H N) f y'.fst).a j)) ∧ (∀ (j : Nat), j < 136 → (0 : Int) = (addB (spOf L H N) f y'.fst).H j) ∧ (0 : Int) = (↑(addB (spOf L H N) f y'.fst).n : Int) ∧ True) ∧ 0 = 0 ∧ 0 = 0 ∧ n - y'.fst < n - y.fst) ∧ ((Go.IntKind.i64.wrap ((↑(addB (spOf L H N) f y.fst).n : Int) + (↑((n - y.fst).min (136 - (↑(addB (spOf L H N) f y.fst).n : Int).toNat)) : Int)) == (136 : Int)) = Bool.false → ∃ (y' : Nat × Option Go.Addr × Nat), (mayG H N = Bool.true ∧ y'.fst ≤ n) ∧ (adS y.snd.snd (↑((n - y.fst).min (136 - (↑(addB (spOf L H N) f y.fst).n : Int).toNat)) : Int).toNat 1 y.snd.fst = y'.snd.fst ∧ n - y.fst - (↑((n - y.fst).min (136 - (↑(addB (spOf L H N) f y.fst).n : Int).toNat)) : Int).toNat = n - y'.fst ∧ y.snd.snd - (↑((n - y.fst).min (136 - (↑(addB (spOf L H N) f y.fst).n : Int).toNat)) : Int).toNat = y'.snd.snd ∧ ∀ (i : Nat), i < n - y.fst - (↑((n - y.fst).min (136 - (↑(addB (spOf L H N) f y.fst).n : Int).toNat)) : Int).toNat → f (y.fst + ((↑((n - y.fst).min (136 - (↑(addB (spOf L H N) f y.fst).n : Int).toNat)) : Int).toNat + i)) = f (y'.fst + i)) ∧ ((∀ (j : Nat), j < 25 → lw ((addB (spOf L H N) f y.fst).a j) = lw ((addB (spOf L H N) f y'.fst).a j)) ∧ (∀ (j : Nat), j < 136 → (if (↑(addB (spOf L H N) f y.fst).n : Int).toNat ≤ j ∧ j < (↑(addB (spOf L H N) f y.fst).n : Int).toNat + (n - y.fst).min (136 - (↑(addB (spOf L H N) f y.fst).n : Int).toNat) then f (y.fst + (j - (↑(addB (spOf L H N) f y.fst).n : Int).toNat)) else (addB (spOf L H N) f y.fst).2 j) = (addB (spOf L H N) f y'.fst).H j) ∧ Go.IntKind.i64.wrap ((↑(addB (spOf L H N) f y.fst).n : Int) + (↑((n - y.fst).min (136 - (↑(addB (spOf L H N) f y.fst).n : Int).toNat)) : Int)) = (↑(addB (spOf L H N) f y'.fst).n : Int) ∧ True) ∧ 0 = 0 ∧ 0 = 0 ∧ n - y'.fst < n - y.fst)) ∧ (Decidable.decide ((↑(n - y.fst) : Int) > (0 : Int)) = Bool.false → ((∀ (j : Nat), j < 25 → lw ((addB (spOf L H N) f y.fst).a j) = if mayG H N = Bool.true then lw ((addB (spOf L H N) f n).a j) else (0 : Int)) ∧ (∀ (j : Nat), j < 136 → (addB (spOf L H N) f y.fst).H j = if mayG H N = Bool.true then (addB (spOf L H N) f n).H j else (0 : Int)) ∧ (↑(addB (spOf L H N) f y.fst).n : Int) = x1 ∧ True) ∧ (0 : Int) = x2))) := by kernel_rfl
end Go.Proofs.YtpebkgbelifdgaaDoor
end

section
namespace Go.Proofs.YtpebkgbelifdgaaDoor
open Go Go.Sx Go.RowKit
theorem pushB_lt {s : Sp} (h : s.n < 136) (b : Int) : (pushB s b).n < 136 := by
  unfold pushB
  split
  · exact Nat.zero_lt_succ _
  · simp only; omega
theorem addB_lt {s : Sp} (h : s.n < 136) (f : Nat → Int) : ∀ p, (addB s f p).n < 136
  | 0 => h
  | p + 1 => pushB_lt (addB_lt h f p) _
theorem addB_add (s : Sp) (f : Nat → Int) (p : Nat) : ∀ m, addB (addB s f p) (fun i => f (p + i)) m = addB s f (p + m)
  | 0 => rfl
  | m + 1 => by
    show pushB _ _ = pushB _ _
    rw [addB_add s f p m]
    rfl
theorem addB_congr {s : Sp} {f g : Nat → Int} : ∀ {m : Nat}, (∀ i, i < m → f i = g i) → addB s f m = addB s g m
  | 0, _ => rfl
  | m + 1, h => by
    show pushB _ _ = pushB _ _
    rw [addB_congr (fun i hi => h i (by omega)), h m (by omega)]
theorem addB_held (t : Sp) (g : Nat → Int) : ∀ m, t.n + m < 136 → addB t g m = ⟨t.a, fun j => if t.n ≤ j ∧ j < t.n + m then g (j - t.n) else t.H j, t.n + m⟩
  | 0, _ => by
    have : (fun j => if t.n ≤ j ∧ j < t.n + 0 then g (j - t.n) else t.H j) = t.H := by
      funext j
      rw [if_neg (by omega)]
    rw [this]; rfl
  | m + 1, h => by
    show pushB _ _ = _
    rw [addB_held t g m (by omega)]
    unfold pushB
    simp only
    rw [if_neg (by omega)]
    congr 1
    funext j
    by_cases e : j = t.n + m
    · subst e
      rw [if_pos rfl, if_pos (by omega)]
      congr 1; omega
    · rw [if_neg e]
      by_cases c : t.n ≤ j ∧ j < t.n + m
      · rw [if_pos c, if_pos (by omega)]
      · rw [if_neg c, if_neg (by omega)]
theorem addB_full (t : Sp) (g : Nat → Int) {m : Nat} (hn : t.n < 136) (h : t.n + m = 136) : addB t g m = ⟨soakB t.a (fun j => if t.n ≤ j ∧ j < t.n + m then g (j - t.n) else t.H j), fun _ => 0, 0⟩ := by
  match m, h with
  | 0, h => omega
  | m + 1, h =>
    show pushB _ _ = _
    rw [addB_held t g m (by omega)]
    unfold pushB
    simp only
    rw [if_pos (by omega)]
    congr 2
    funext j
    by_cases e : j = t.n + m
    · subst e
      rw [if_pos rfl, if_pos (by omega)]
      congr 1; omega
    · rw [if_neg e]
      by_cases c : t.n ≤ j ∧ j < t.n + m
      · rw [if_pos c, if_pos (by omega)]
      · rw [if_neg c, if_neg (by omega)]
theorem may_lt {L H : Nat → Int} {N : Int} (h : mayG H N = true) : (spOf L H N).n < 136 := by
  obtain ⟨⟨h1, h2⟩, _⟩ := (mayG_iff H N).1 h
  show N.toNat < 136
  omega
theorem ok_kAdd (L H : Nat → Int) (N : Int) (a : Option Addr) (n cap : Nat) (f : Nat → Int) (hL : lanes 25 L) :
    Owes Tryd.prog cxEnd [(3, .inv (invAdd L H N n f))] 10 Tryd.f17 [sSp L H N, sXs a n cap f] (kAddG L H N n f) := by
  rw [vc_kAdd]
  intro x1 x2
  refine ⟨fun hm => ?_, fun hm => ?_⟩
  · have hm : mayG H N = false := by simpa using hm
    simp only [x1, x2, hm, Bool.false_eq_true, if_false, and_self]
  · have hm : mayG H N = true := by simpa using hm
    obtain ⟨⟨hN1, hN2⟩, _⟩ := (mayG_iff H N).1 hm
    refine ⟨fun y => rfl, (0, a, cap), ⟨hm, Nat.zero_le _⟩, ⟨rfl, rfl, rfl, fun i _ => by simp only [Nat.zero_add]⟩, ⟨fun j hj => (lw_ofRow hL hj).symm, fun _ _ => rfl, ?_, trivial⟩, rfl, rfl, ?_⟩
    · show N = ((N.toNat : Nat) : Int)
      omega
    rintro ⟨p, ad, cp⟩ ⟨_, hp⟩
    simp only at hp ⊢
    have htl : (addB (spOf L H N) f p).n < 136 := addB_lt (may_lt hm) f p
    refine ⟨fun hlt => ?_, fun hge => ?_⟩
    · have hlt : 0 < ((n - p : Nat) : Int) := of_decide_eq_true hlt
      have hadd := addB_add (spOf L H N) f p
      generalize ht : addB (spOf L H N) f p = t at *
      generalize hq : (n - p).min (136 - ((t.n : Nat) : Int).toNat) = q
      have hq1 : q ≤ n - p := by rw [← hq]; exact Nat.min_le_left _ _
      have hq2 : q ≤ 136 - t.n := by rw [← hq]; exact Nat.min_le_right _ _
      have hq3 : q ≠ 0 := by
        rw [← hq]
        have : 0 < (n - p).min (136 - ((t.n : Nat) : Int).toNat) := Nat.lt_min.2 ⟨by omega, by omega⟩
        omega
      refine ⟨⟨by omega, by omega⟩, by omega, fun _ => trivial, ⟨by omega, by omega, by omega⟩, fun hf => ?_, fun hf => ?_⟩
      · have hf : IntKind.i64.wrap ((t.n : Int) + (q : Int)) = 136 := by simpa using hf
        rw [wrap_small (by omega)] at hf
        have hfull := addB_full t (fun i => f (p + i)) htl (m := q) (by omega)
        rw [hadd q] at hfull
        refine ⟨lanes_lw _ _, (p + q, _, _), ⟨hm, by simp only; omega⟩, ⟨rfl, by simp only [Int.toNat_natCast]; omega, rfl, fun i _ => by simp only [Int.toNat_natCast, Nat.add_assoc]⟩, ⟨fun j _ => ?_, fun j _ => ?_, ?_, trivial⟩, trivial, trivial, by simp only; omega⟩
        · simp only [hfull, ofRow_lw, Int.toNat_natCast]
        · simp only [hfull]
        · simp only [hfull]; rfl
      · have hf : IntKind.i64.wrap ((t.n : Int) + (q : Int)) ≠ 136 := by simpa using hf
        rw [wrap_small (by omega)] at hf
        have hheld := addB_held t (fun i => f (p + i)) q (by omega)
        rw [hadd q] at hheld
        refine ⟨(p + q, _, _), ⟨hm, by simp only; omega⟩, ⟨rfl, by simp only [Int.toNat_natCast]; omega, rfl, fun i _ => by simp only [Int.toNat_natCast, Nat.add_assoc]⟩, ⟨fun j _ => ?_, fun j _ => ?_, ?_, trivial⟩, trivial, trivial, by simp only; omega⟩
        · simp only [hheld]
        · simp only [hheld, Int.toNat_natCast]
        · simp only [hheld]; rw [wrap_small (by omega)]; omega
    · have hge : ¬ 0 < ((n - p : Nat) : Int) := of_decide_eq_false hge
      have : p = n := by omega
      subst this
      simp only [x1, x2, hm, if_true, and_self, implies_true]
theorem bnd_row (k : IntKind) (m : Nat) (g : Nat → Int) (n : Env) : (sRow k m g).bnd n := by
  intro x hx; simp only [List.mem_singleton] at hx; subst hx; trivial
theorem card_kAdd : FnOKg Tryd.prog glK 17 (specSpB (fun L _ _ _ _ => [lanes 25 L]) kAddG) :=
  FnOK_SpB (cx := cxEnd) (iv := fun L H N _ n _ f => [(3, .inv (invAdd L H N n f))]) (by
    refine ⟨fun p hp => ?_, fun _ h => (by cases h)⟩
    simp only [cxEnd, List.mem_cons, List.not_mem_nil, or_false] at hp
    rcases hp with rfl | rfl | rfl
    · exact card_kMay
    · exact card_soak
    · exact card_first) Tryd.func17 (by kernel_rfl) (by kernel_rfl) (fun _ _ _ _ _ => by
    intro x hx
    simp only [List.mem_cons, List.not_mem_nil, or_false] at hx
    rcases hx with rfl | rfl
    · exact bnd_sSp _ _ _ _
    · trivial) fun L H N a n cap f hc => ok_kAdd L H N a n cap f hc.1
theorem absB_congr {a : Nat → BitVec 64} {H H' : Nat → Int} : ∀ {m : Nat}, (∀ j, j < m → H j = H' j) → absB a H m = absB a H' m
  | 0, _ => rfl
  | m + 1, h => by
    have ih := absB_congr (a := a) (m := m) (fun j hj => h j (by omega))
    simp only [absB, ih, h m (by omega)]
theorem soakB_congr {a : Nat → BitVec 64} {H H' : Nat → Int} (h : ∀ j, j < 136 → H j = H' j) : soakB a H = soakB a H' := by
  unfold soakB; rw [absB_congr h]
set_option maxRecDepth 100000 in
theorem ok_End (L H : Nat → Int) (N : Int) (hL : lanes 25 L) : Owes Tryd.prog cxEnd [] 10 Tryd.f19 [sSp L H N] (endG L H N) := by
  rw [vc_End]
  generalize hW : endB (spOf L H N) = W
  intro x1 x2
  constructor <;> intro hm
  · have hm : mayG H N = false := by simpa using hm
    simp only [x1, hm, Bool.false_eq_true, if_false, and_self]
  · have hm : mayG H N = true := by simpa using hm
    obtain ⟨⟨hN1, hN2⟩, _⟩ := (mayG_iff H N).1 hm
    refine ⟨⟨hN1, hN2⟩, ⟨hN1, hN2⟩, ⟨hN1, hN2⟩, ⟨hN1, hN2⟩, hL, ⟨fun j _ => ?_, trivial⟩, by simp only [x1, hm, if_true]⟩
    refine Eq.trans ?_ (if_pos hm).symm
    rw [← hW]
    refine congrArg (fun F => firstG F j) (funext fun i => congrArg (fun F => lw (F i)) (soakB_congr (a := ofRow L) (H' := padB H N.toNat) fun j hj => ?_))
    simp only [intsL]
    by_cases e : j = 135
    · subst e
      rw [List.getD_eq_getElem?_getD, List.getElem?_append_right (by simp)]
      simp only [List.length_map, List.length_range, Nat.sub_self, List.getElem?_cons_zero, Option.getD_some]
      simp only [intsC, asI, padB, if_true, pad1, x2]
      by_cases e2 : 135 = N.toNat
      · rw [if_pos e2, if_pos e2, e2]
      · rw [if_neg e2, if_neg e2]
    · rw [List.getD_eq_getElem?_getD, List.getElem?_append_left (by simp; omega), List.getElem?_map, List.getElem?_range (by omega)]
      simp only [Option.map_some, Option.getD_some, padB, e, if_false, pad1, x2]
      by_cases e2 : j = N.toNat
      · rw [if_pos e2, if_pos e2, e2]
      · rw [if_neg e2, if_neg e2]
theorem card_End : FnOKg Tryd.prog glK 19 (specSp (fun L _ _ => [lanes 25 L]) endG) :=
  FnOK_Sp (cx := cxEnd) (iv := fun _ _ _ => []) (by
    refine ⟨fun p hp => ?_, fun _ h => (by cases h)⟩
    simp only [cxEnd, List.mem_cons, List.not_mem_nil, or_false] at hp
    rcases hp with rfl | rfl | rfl
    · exact card_kMay
    · exact card_soak
    · exact card_first) Tryd.func19 (by kernel_rfl) (by kernel_rfl) (fun _ _ _ => by
    intro x hx
    simp only [List.mem_cons, List.not_mem_nil, or_false] at hx
    rcases hx with rfl | rfl
    · exact bnd_row _ _ _ _
    · trivial) fun L H N hc => ok_End L H N hc.1
theorem spOf_lw (t : Sp) : spOf (fun i => lw (t.a i)) t.H (t.n : Int) = t := by
  unfold spOf
  rw [ofRow_lw]
  rfl
theorem mayG_sp {t : Sp} (h1 : t.n < 136) (h2 : ∀ j, t.n ≤ j → j < 136 → t.H j = 0) : mayG t.H (t.n : Int) = true := by
  rw [mayG_iff]
  exact ⟨⟨by omega, by omega⟩, fun j hj => h2 _ (by omega) hj⟩
def clean (t : Sp) : Prop := t.n < 136 ∧ ∀ j, t.n ≤ j → j < 136 → t.H j = 0
theorem pushB_clean {t : Sp} (h : clean t) (b : Int) : clean (pushB t b) := by
  unfold pushB
  split
  · exact ⟨Nat.zero_lt_succ _, fun j _ _ => rfl⟩
  · refine ⟨by have := h.1; simp only; omega, fun j hj hj2 => ?_⟩
    simp only at hj ⊢
    rw [if_neg (by omega)]
    exact h.2 j (by omega) hj2
theorem addB_clean {t : Sp} (h : clean t) (f : Nat → Int) : ∀ m, clean (addB t f m)
  | 0 => h
  | m + 1 => pushB_clean (addB_clean h f m) _
theorem may_clean {t : Sp} (h : clean t) : mayG t.H (t.n : Int) = true := mayG_sp h.1 h.2
def addM (L H : Nat → Int) (N : Int) (n : Nat) (f : Nat → Int) : SV := .tup [sSp (fun i => lw ((addB (spOf L H N) f n).a i)) (addB (spOf L H N) f n).H ((addB (spOf L H N) f n).n : Int), .sc (.num .i64 0)]
def endM (L H : Nat → Int) (N : Int) : SV := .tup [sRow .u8 32 (endB (spOf L H N)), .sc (.num .i64 0)]
def cAddM : FSpec := specSpB (fun L H N _ _ => [lanes 25 L, mayG H N = true]) addM
def cEndM : FSpec := specSp (fun L H N => [lanes 25 L, mayG H N = true]) endM
theorem card_AddM : FnOKg Tryd.prog glK 17 cAddM := by
  refine FnOKg_weak card_kAdd fun args ps sv' hs hp => ?_
  unfold cAddM specSpB at hs
  split at hs
  · rename_i x y
    split at hs
    · rename_i L H N ps' a n cap f hx hy
      simp only [Option.some.injEq, Prod.mk.injEq] at hs
      obtain ⟨rfl, rfl⟩ := hs
      obtain ⟨o1, o2, o3, _⟩ := Ok.append.1 hp
      refine ⟨?_, ps' ++ [lanes 25 L], kAddG L H N n f, by simp only [specSpB, hx, hy], Ok.append.2 ⟨o1, o2, trivial⟩, fun ρ v hv => ?_⟩
      · intro z hz
        simp only [List.mem_cons, List.not_mem_nil, or_false] at hz
        rcases hz with rfl | rfl
        · exact bnd_sSp _ _ _ _
        · trivial
      · have e : kAddG L H N n f = .tup [sSp (fun i => lw ((addB (spOf L H N) f n).a i)) (addB (spOf L H N) f n).H ((addB (spOf L H N) f n).n : Int), sI .i64 0] := by simp only [kAddG, o3, if_true]
        rw [e] at hv
        exact hv
    · cases hs
  · cases hs
theorem card_EndM : FnOKg Tryd.prog glK 19 cEndM := by
  refine FnOKg_weak card_End fun args ps sv' hs hp => ?_
  unfold cEndM specSp at hs
  split at hs
  · rename_i x
    split at hs
    · rename_i L H N hx
      simp only [Option.some.injEq, Prod.mk.injEq] at hs
      obtain ⟨rfl, rfl⟩ := hs
      obtain ⟨o2, o3, _⟩ := hp
      refine ⟨?_, [lanes 25 L], endG L H N, by simp only [specSp, hx], ⟨o2, trivial⟩, fun ρ v hv => ?_⟩
      · intro z hz
        simp only [List.mem_cons, List.not_mem_nil, or_false] at hz
        rcases hz with rfl | rfl
        · exact bnd_row _ _ _ _
        · trivial
      · have e : endG L H N = .tup [sRow .u8 32 (endB (spOf L H N)), sI .i64 0] := by simp only [endG, o3, if_true]
        rw [e] at hv
        exact hv
    · cases hs
  · cases hs
end Go.Proofs.YtpebkgbelifdgaaDoor
end

section
namespace Go.Sx
open Go.RowKit
def sp0 : Sp := ⟨fun _ => 0, fun _ => 0, 0⟩
def sumB (n : Nat) (f : Nat → Int) (j : Nat) : Int := endB (addB sp0 f n) j
end Go.Sx
end

section
namespace Go.Proofs.YtpebkgbelifdgaaDoor
open Go Go.Sx Go.RowKit
def cxKSum : Cx := ⟨[(17, cAddM), (19, cEndM)], glK, 0, []⟩
def kSumG (n : Nat) (f : Nat → Int) : SV := .one (sRow .u8 32 (sumB n f))
theorem vc_Sum (a : Option Addr) (n cap : Nat) (f : Nat → Int) :
    Owes Tryd.prog cxKSum [] 10 Tryd.f11 [sXs a n cap f] (kSumG n f) =
    (let x1 : Int := (↑(addB (spOf (fun (x : Nat) => (0 : Int)) (fun (x : Nat) => (0 : Int)) (0 : Int)) (fun (j : Nat) => f j) n).n : Int); (∀ (j : Nat), True) ∧ (∀ (i : Nat), i < 25 → (0 : Int) ≤ (0 : Int) ∧ (0 : Int) < (18446744073709551616 : Int)) ∧ mayG (fun (x : Nat) => (0 : Int)) (0 : Int) = Bool.true ∧ (∀ (i : Nat), i < 25 → (0 : Int) ≤ lw ((addB (spOf (fun (x : Nat) => (0 : Int)) (fun (x : Nat) => (0 : Int)) (0 : Int)) (fun (j : Nat) => f j) n).a i) ∧ lw ((addB (spOf (fun (x : Nat) => (0 : Int)) (fun (x : Nat) => (0 : Int)) (0 : Int)) (fun (j : Nat) => f j) n).a i) < (18446744073709551616 : Int)) ∧ mayG (addB (spOf (fun (x : Nat) => (0 : Int)) (fun (x : Nat) => (0 : Int)) (0 : Int)) (fun (j : Nat) => f j) n).2 x1 = Bool.true ∧ (∀ (j : Nat), j < 32 → endB (spOf (fun (i : Nat) => lw ((addB (spOf (fun (x : Nat) => (0 : Int)) (fun (x : Nat) => (0 : Int)) (0 : Int)) (fun (j : Nat) => f j) n).a i)) (addB (spOf (fun (x : Nat) => (0 : Int)) (fun (x : Nat) => (0 : Int)) (0 : Int)) (fun (j : Nat) => f j) n).2 x1) j = sumB n f j) ∧ True) := by kernel_rfl
end Go.Proofs.YtpebkgbelifdgaaDoor
end

section
namespace Go.Proofs.YtpebkgbelifdgaaDoor
open Go Go.Sx Go.RowKit
theorem sp0_eq : spOf (fun _ => 0) (fun _ => 0) 0 = sp0 := by
  unfold spOf sp0
  congr 1
theorem sp0_clean : clean sp0 := ⟨(by decide : (0 : Nat) < 136), fun j _ _ => (rfl : sp0.H j = 0)⟩
theorem may_zero : mayG (fun _ => 0) 0 = true := by
  rw [mayG_iff]
  exact ⟨⟨by omega, by omega⟩, fun _ _ => rfl⟩
theorem ok_Sum (a : Option Addr) (n cap : Nat) (f : Nat → Int) : Owes Tryd.prog cxKSum [] 10 Tryd.f11 [sXs a n cap f] (kSumG n f) := by
  rw [vc_Sum]
  intro x1
  have e0 : spOf (fun _ => 0) (fun _ => 0) 0 = sp0 := sp0_eq
  simp only [x1, e0, spOf_lw]
  exact ⟨fun _ => trivial, fun _ _ => ⟨by omega, by omega⟩, may_zero, lanes_lw _ _, may_clean (addB_clean sp0_clean _ _), fun _ _ => rfl, trivial⟩
theorem card_Sum : FnOKg Tryd.prog glK 11 (specBs (fun _ _ => []) kSumG) :=
  FnOK_Bs (cx := cxKSum) (iv := fun _ _ _ _ => []) (N := 10) (by
    refine ⟨fun p hp => ?_, fun _ h => (by cases h)⟩
    simp only [cxKSum, List.mem_cons, List.not_mem_nil, or_false] at hp
    rcases hp with rfl | rfl
    · exact card_AddM
    · exact card_EndM) Tryd.func11 (by kernel_rfl) (by kernel_rfl) (fun _ _ => bnd_row _ _ _ _) fun a n cap f _ => ok_Sum a n cap f
theorem sumB_congr {n : Nat} {f g : Nat → Int} (h : ∀ i, i < n → f i = g i) : sumB n f = sumB n g := by
  funext j
  unfold sumB
  rw [addB_congr h]
end Go.Proofs.YtpebkgbelifdgaaDoor
end

section
namespace Go.Proofs.YtpebkgbelifdgaaDoor
open Go.Sx
end Go.Proofs.YtpebkgbelifdgaaDoor
end

section
namespace Go.Sx
theorem byI_go (l : List Int) : ∀ r : ByteArray, (l.foldl (fun r n => r.push (UInt8.ofNat n.toNat)) r).data.toList = r.data.toList ++ l.map fun n => UInt8.ofNat n.toNat := by
  induction l with
  | nil => intro r; simp
  | cons n l ih => intro r; rw [List.foldl_cons, ih]; simp [ByteArray.push]
theorem byI_list (l : List Int) : (bytesI l).data.toList = l.map fun n => UInt8.ofNat n.toNat := by
  unfold bytesI
  rw [byI_go]
  rfl
theorem txt_ext {s t : ByteArray} (e : s.data.toList = t.data.toList) : s = t := by
  cases s; cases t
  simp only at e
  rw [ByteArray.mk.injEq]
  exact Array.toList_inj.1 e
theorem txt_size (s : ByteArray) : s.size = s.data.toList.length := by rw [Array.length_toList]; rfl
theorem txt_app (s t : ByteArray) : (s ++ t).data.toList = s.data.toList ++ t.data.toList := by
  rw [ByteArray.data_append, Array.toList_append]
theorem byI_app (a b : List Int) : bytesI (a ++ b) = bytesI a ++ bytesI b := by
  apply txt_ext
  rw [txt_app, byI_list, byI_list, byI_list, List.map_append]
theorem byI_size (l : List Int) : (bytesI l).size = l.length := by rw [txt_size, byI_list, List.length_map]
theorem byI_cell {l : List Int} {i : Nat} {x : Int} (h : l[i]? = some x) (hx : 0 ≤ x ∧ x < 256) : (((bytesI l).data.getD i 0).toNat : Int) = x := by
  have : (bytesI l).data.getD i 0 = UInt8.ofNat x.toNat := by
    rw [Array.getD_eq_getD_getElem?, ← Array.getElem?_toList, byI_list, List.getElem?_map, h]
    rfl
  rw [this, UInt8.toNat_ofNat']
  omega
theorem cat_list (a b : Nat) (h k : Nat → Int) : (List.range (a + b)).map (catB a h k) = (List.range a).map h ++ (List.range b).map k := by
  rw [List.range_add, List.map_append, List.map_map]
  congr 1
  · exact List.map_congr_left fun i hi => if_pos (List.mem_range.1 hi)
  · exact List.map_congr_left fun i _ => by
      show catB a h k (a + i) = k i
      unfold catB
      rw [if_neg (by omega), Nat.add_sub_cancel_left]
theorem row_congr {n : Nat} {h k : Nat → Int} (e : ∀ i, i < n → h i = k i) : (List.range n).map h = (List.range n).map k := List.map_congr_left fun i hi => e i (List.mem_range.1 hi)
end Go.Sx
end

section
namespace Go.Proofs.YtpebkgbelifdgaaDoor
open Go Go.Sx Go.RowKit
set_option maxRecDepth 100000
def tlBy : List (Nat × TSpec) := [(10, tPb)]
def bytN (t n c u l : Int) (m : Nat) : Nat := if bodyE t n c u l m = 0 then 55 + m else 0
def bytS : List (List FD) → List RS
  | [[.i t, .i n, .i c, .y em, .i u, .i l, .x _ m _ f]] => [.s (bytN t n c u l m) .u8 (bodyF t n c em u l (kOf f)), .v (sI .i64 (bodyE t n c u l m))]
  | _ => []
def cByS : SSpec := specQ false shBd nfBd nfC bytS
def smF (t n c : Int) (em : Nat → Int) (u l : Int) (m : Nat) (k : Nat → Nat → Int) (j : Nat) : Int := if bodyE t n c u l m = 0 then sumB 32 (sumB (55 + m) (bodyF t n c em u l k)) j else 0
def smS : List (List FD) → List RS
  | [[.i t, .i n, .i c, .y em, .i u, .i l, .x _ m _ f]] => [.v (sRow .u8 32 (smF t n c em u l m (kOf f))), .v (sI .i64 (bodyE t n c u l m))]
  | _ => []
def cSmS : SSpec := specQ false shBd nfBd nfC smS
def slSm : List (Nat × SSpec) := [(4, cByS)]
def cxSm : Cx := ⟨[(11, specBs (fun _ _ => []) kSumG), (1000000009, fun _ => none)], glK, 0, []⟩
def sameC : List (List FD) → List Prop
  | [[.i _, .i _, .i _, .y _, .i _, .i _, .x _ _ _ f], [.i _, .i _, .i _, .y _, .i _, .i _, .x _ _ _ f']] => [f = u8F (kOf f), f' = u8F (kOf f')]
  | _ => [False]
theorem vc_by (t n c u l e : Int) (em : Nat → Int) (a : Option Addr) (m cap : Nat) (k : Nat → Nat → Int) (r : Nat) (g : Nat → Int) :
    OwesQ Tryd.prog cxAp slBck tlBy [] 30 Tryd.f4 [sBody t n c em u l a m cap k] false [.s r .u8 g, .v (sI .i64 e)] =
    (let x1 : Nat := pbM [[FD.i t, FD.i n, FD.i c, FD.y em, FD.i u, FD.i l, FD.x a m cap (u8F (kOf (u8F k)))]] 0; t = t ∧ n = n ∧ c = c ∧ (∀ (j : Nat), j < 32 → em j = em j) ∧ u = u ∧ l = l ∧ a = a ∧ m = m ∧ cap = cap ∧ (∀ (i : Nat), i < m → k i 0 = kOf (u8F k) i 0) ∧ u8F (kOf (u8F k)) = u8F (kOf (u8F (kOf (u8F k)))) ∧ ((bodyE t n c u l m != (0 : Int)) = Bool.true → r = 0 ∧ bodyE t n c u l m = e) ∧ ((bodyE t n c u l m != (0 : Int)) = Bool.false → t = t ∧ n = n ∧ c = c ∧ (∀ (j : Nat), j < 32 → em j = em j) ∧ u = u ∧ l = l ∧ a = a ∧ m = m ∧ cap = cap ∧ (∀ (i : Nat), i < m → k i 0 = kOf (u8F k) i 0) ∧ rowQ (fun (_ _ : Nat) => SC.val (Go.Value.int Go.IntKind.u8 (0 : Int))) 0 (100 + m) (u8F (kOf (u8F k))) ∧ ∀ (c_1 : Nat), x1 + c_1 ≤ Go.maxLen → (0 + x1 ≤ x1 ∧ x1 = r ∧ x1 ≤ x1 + c_1 ∧ ∀ (i : Nat), i < r → catB 0 (hOf fun (_ _ : Nat) => SC.val (Go.Value.int Go.IntKind.u8 (0 : Int))) (bodyF t n c em u l (kOf (u8F (kOf (u8F k))))) (0 + i) = g i) ∧ (0 : Int) = e)) := by kernel_rfl
theorem vc_sm (t n c u l e : Int) (em : Nat → Int) (a : Option Addr) (m cap : Nat) (k : Nat → Nat → Int) (g : Nat → Int) :
    OwesR Tryd.prog cxSm slSm [] 30 Tryd.f5 [sBody t n c em u l a m cap k] false [.v (sRow .u8 32 g), .v (sI .i64 e)] =
    (t = t ∧ n = n ∧ c = c ∧ (∀ (j : Nat), j < 32 → em j = em j) ∧ u = u ∧ l = l ∧ a = a ∧ m = m ∧ cap = cap ∧ (∀ (i : Nat), i < m → k i 0 = kOf (u8F k) i 0) ∧ u8F (kOf (u8F k)) = u8F (kOf (u8F (kOf (u8F k)))) ∧ ∀ (a : Option Go.Addr) (cap : Nat), (a = Option.none → bytN t n c u l m = 0 ∧ cap = 0) → bytN t n c u l m ≤ cap → ((bodyE t n c u l m != (0 : Int)) = Bool.true → ((0 : Int) = g 0 ∧ (0 : Int) = g 1 ∧ (0 : Int) = g 2 ∧ (0 : Int) = g 3 ∧ (0 : Int) = g 4 ∧ (0 : Int) = g 5 ∧ (0 : Int) = g 6 ∧ (0 : Int) = g 7 ∧ (0 : Int) = g 8 ∧ (0 : Int) = g 9 ∧ (0 : Int) = g 10 ∧ (0 : Int) = g 11 ∧ (0 : Int) = g 12 ∧ (0 : Int) = g 13 ∧ (0 : Int) = g 14 ∧ (0 : Int) = g 15 ∧ (0 : Int) = g 16 ∧ (0 : Int) = g 17 ∧ (0 : Int) = g 18 ∧ (0 : Int) = g 19 ∧ (0 : Int) = g 20 ∧ (0 : Int) = g 21 ∧ (0 : Int) = g 22 ∧ (0 : Int) = g 23 ∧ (0 : Int) = g 24 ∧ (0 : Int) = g 25 ∧ (0 : Int) = g 26 ∧ (0 : Int) = g 27 ∧ (0 : Int) = g 28 ∧ (0 : Int) = g 29 ∧ (0 : Int) = g 30 ∧ (0 : Int) = g 31 ∧ True) ∧ bodyE t n c u l m = e) ∧ ((bodyE t n c u l m != (0 : Int)) = Bool.false → (∀ (_ : Nat), True) ∧ 32 ≤ 32 ∧ ∀ (_ : Go.Addr), (∀ (_ : Nat), True) ∧ ((∀ (j : Nat), j < 32 → sumB 32 (fun (j : Nat) => endB (addB sp0 (fun (j : Nat) => bodyF t n c em u l (kOf (u8F (kOf (u8F k)))) j) (bytN t n c u l m)) j) j = g j) ∧ True) ∧ (0 : Int) = e)) := by kernel_rfl
end Go.Proofs.YtpebkgbelifdgaaDoor
end

section
namespace Go.Proofs.YtpebkgbelifdgaaDoor
open Go Go.Sx Go.RowKit
theorem bodyE_m {t n c u l : Int} {m : Nat} (h : bodyE t n c u l m = 0) : m ≤ 300 := by
  unfold bodyE at h
  split at h
  · split at h
    · assumption
    · cases h
  · cases h
theorem ok_by (t n c u l : Int) (em : Nat → Int) (a : Option Addr) (m cap : Nat) (k : Nat → Nat → Int) :
    OwesQ Tryd.prog cxAp slBck tlBy [] 30 Tryd.f4 [sBody t n c em u l a m cap k] false [.s (bytN t n c u l m) .u8 (bodyF t n c em u l k), .v (sI .i64 (bodyE t n c u l m))] := by
  rw [vc_by]
  simp only [eq_self, implies_true, and_self, true_and, and_true, k_u8F]
  refine ⟨fun h => ?_, fun h => ?_⟩
  · exact if_neg (bne_iff_ne.1 h)
  · have h0 : bodyE t n c u l m = 0 := by simpa using h
    have hm := bodyE_m h0
    have e : bytN t n c u l m = 55 + m := if_pos h0
    have e2 : pbM [[FD.i t, FD.i n, FD.i c, FD.y em, FD.i u, FD.i l, FD.x a m cap (u8F k)]] 0 = 55 + m := Nat.zero_add _
    rw [e, e2, h0]
    refine ⟨⟨rfl, by omega, rfl⟩, fun c1 _ => ⟨⟨by omega, rfl, by omega, fun i _ => ?_⟩, rfl⟩⟩
    rw [catB_zero, Nat.zero_add]
theorem card_by {gl : Globs} : FnOKs Tryd.prog gl 4 cByS := by
  refine FnOKs.up0 (FnOKs_QQ (cx := cxAp) cxok_Ap (sl := slBck) (fun p hp => by rw [List.mem_singleton.1 hp]; exact card_bck) (tl := tlBy) (tl_cons card_pb tl_nil) Tryd.func4 (by kernel_rfl) (by kernel_rfl) fun ls hc => ?_) gl
  unfold nfC at hc
  split at hc
  · rename_i t n c em u l a m cap f
    obtain ⟨h, _⟩ := hc
    have := ok_by t n c u l em a m cap (kOf f)
    unfold sBody ksBody at this
    rw [← h] at this
    refine ⟨_, _, fun r hr => ?_, this⟩
    rcases List.mem_cons.1 hr with rfl | hr
    · exact trivial
    · rw [List.mem_singleton.1 hr]; exact trivial
  · exact hc.1.elim
theorem ok_sm (t n c u l : Int) (em : Nat → Int) (a : Option Addr) (m cap : Nat) (k : Nat → Nat → Int) :
    OwesR Tryd.prog cxSm slSm [] 30 Tryd.f5 [sBody t n c em u l a m cap k] false [.v (sRow .u8 32 (smF t n c em u l m k)), .v (sI .i64 (bodyE t n c u l m))] := by
  rw [vc_sm]
  simp only [eq_self, implies_true, and_self, true_and, and_true, k_u8F]
  refine fun _ _ _ _ => ⟨fun h => ?_, fun h => ?_⟩
  · have e : ∀ j, 0 = smF t n c em u l m k j := fun j => (if_neg (bne_iff_ne.1 h)).symm
    exact ⟨e _, e _, e _, e _, e _, e _, e _, e _, e _, e _, e _, e _, e _, e _, e _, e _, e _, e _, e _, e _, e _, e _, e _, e _, e _, e _, e _, e _, e _, e _, e _, e _⟩
  · have h0 : bodyE t n c u l m = 0 := by simpa using h
    have e : bytN t n c u l m = 55 + m := if_pos h0
    rw [e, h0]
    refine ⟨Nat.le_refl _, fun _ => ⟨fun j _ => ?_, rfl⟩⟩
    unfold smF
    rw [if_pos h0]
    rfl
theorem cxok_Sm : CxOK Tryd.prog cxSm := pgl_cons card_Sum ⟨fun p hp => by rw [List.mem_singleton.1 hp]; exact fun _ _ _ h => (by cases h), fun _ h => (by cases h)⟩
theorem card_sm : FnOKs Tryd.prog glK 5 cSmS := by
  refine FnOKs_Q (cx := cxSm) cxok_Sm (sl := slSm) (fun p hp => by rw [List.mem_singleton.1 hp]; exact card_by) Tryd.func5 (by kernel_rfl) (by kernel_rfl) fun ls hc => ?_
  unfold nfC at hc
  split at hc
  · rename_i t n c em u l a m cap f
    obtain ⟨h, _⟩ := hc
    have := ok_sm t n c u l em a m cap (kOf f)
    unfold sBody ksBody at this
    rw [← h] at this
    refine ⟨_, _, fun r hr => ?_, this⟩
    rcases List.mem_cons.1 hr with rfl | hr
    · exact bnd_row _ _ _ _
    · rw [List.mem_singleton.1 hr]; exact trivial
  · exact hc.1.elim
section
variable {t n c u l : Int} {em : Nat → Int} {k : Nat → Nat → Int} {j : Nat}
end
end Go.Proofs.YtpebkgbelifdgaaDoor
end

section
namespace Go.Proofs.YtpebkgbelifdgaaDoor
open Go.Sx
set_option maxRecDepth 100000
def bigL (k : Nat) (v : Int) : List Int := (List.range k).map fun j => v / 256 ^ (k - 1 - j) % 256
def bigB (k : Nat) (v : Int) : ByteArray := bytesI (bigL k v)
def cBigK : FSpec := fun args =>
  match args with
  | [x, y] => match asI x, asI y with
    | some (.u64, v), some (.i64, 1) => some ([0 ≤ v ∧ v < 18446744073709551616], .one (sStr (bigB 1 v)))
    | some (.u64, v), some (.i64, 2) => some ([0 ≤ v ∧ v < 18446744073709551616], .one (sStr (bigB 2 v)))
    | some (.u64, v), some (.i64, 4) => some ([0 ≤ v ∧ v < 18446744073709551616], .one (sStr (bigB 4 v)))
    | some (.u64, v), some (.i64, 8) => some ([0 ≤ v ∧ v < 18446744073709551616], .one (sStr (bigB 8 v)))
    | _, _ => none
  | _ => none
def cxTxt : Cx := ⟨[(21, cBigK)], [], 0, []⟩
def bodyStr (t n c : Int) (em : Nat → Int) (u l : Int) (m : Nat) (k : Nat → Nat → Int) : ByteArray :=
  bigB 8 t ++ bigB 4 n ++ bigB 2 c ++ bytesI ((List.range 32).map em) ++ bigB 8 u ++ bigB 1 l ++ bytesI ((List.range m).map fun j => k j 0)
theorem vc_rbig1 (v : Int) :
    Owes Tryd.prog Cx.none [] 12 Tryd.f21 [sI .u64 v, .sc (.num .i64 1)] (.one (sStr (bigB 1 v))) =
    ((bytesI (intsL [SK.c (SC.val (Go.Value.int Go.IntKind.u8 (Go.IntKind.u8.wrap v)))])).size + 0 ≤ 9223372036854775807 ∧ bytesI (intsL [SK.c (SC.val (Go.Value.int Go.IntKind.u8 (Go.IntKind.u8.wrap v)))]) ++ (ByteArray.mk #[]) = bigB 1 v) := by kernel_rfl
theorem vc_rbig2 (v : Int) :
    Owes Tryd.prog Cx.none [] 12 Tryd.f21 [sI .u64 v, .sc (.num .i64 2)] (.one (sStr (bigB 2 v))) =
    ((bytesI (intsL [SK.c (SC.val (Go.Value.int Go.IntKind.u8 (Go.IntKind.u8.wrap v)))])).size + 0 ≤ 9223372036854775807 ∧ (bytesI (intsL [SK.c (SC.val (Go.Value.int Go.IntKind.u8 (Go.IntKind.u8.wrap (v.fdiv (256 : Int)))))])).size + (bytesI (intsL [SK.c (SC.val (Go.Value.int Go.IntKind.u8 (Go.IntKind.u8.wrap v)))]) ++ (ByteArray.mk #[])).size ≤ 9223372036854775807 ∧ bytesI (intsL [SK.c (SC.val (Go.Value.int Go.IntKind.u8 (Go.IntKind.u8.wrap (v.fdiv (256 : Int)))))]) ++ (bytesI (intsL [SK.c (SC.val (Go.Value.int Go.IntKind.u8 (Go.IntKind.u8.wrap v)))]) ++ (ByteArray.mk #[])) = bigB 2 v) := by kernel_rfl
theorem vc_rbig4 (v : Int) :
    Owes Tryd.prog Cx.none [] 12 Tryd.f21 [sI .u64 v, .sc (.num .i64 4)] (.one (sStr (bigB 4 v))) =
    (let x1 : Int := (v.fdiv (256 : Int)).fdiv (256 : Int); (bytesI (intsL [SK.c (SC.val (Go.Value.int Go.IntKind.u8 (Go.IntKind.u8.wrap v)))])).size + 0 ≤ 9223372036854775807 ∧ (bytesI (intsL [SK.c (SC.val (Go.Value.int Go.IntKind.u8 (Go.IntKind.u8.wrap (v.fdiv (256 : Int)))))])).size + (bytesI (intsL [SK.c (SC.val (Go.Value.int Go.IntKind.u8 (Go.IntKind.u8.wrap v)))]) ++ (ByteArray.mk #[])).size ≤ 9223372036854775807 ∧ (bytesI (intsL [SK.c (SC.val (Go.Value.int Go.IntKind.u8 (Go.IntKind.u8.wrap x1)))])).size + (bytesI (intsL [SK.c (SC.val (Go.Value.int Go.IntKind.u8 (Go.IntKind.u8.wrap (v.fdiv (256 : Int)))))]) ++ (bytesI (intsL [SK.c (SC.val (Go.Value.int Go.IntKind.u8 (Go.IntKind.u8.wrap v)))]) ++ (ByteArray.mk #[]))).size ≤ 9223372036854775807 ∧ (bytesI (intsL [SK.c (SC.val (Go.Value.int Go.IntKind.u8 (Go.IntKind.u8.wrap (x1.fdiv (256 : Int)))))])).size + (bytesI (intsL [SK.c (SC.val (Go.Value.int Go.IntKind.u8 (Go.IntKind.u8.wrap x1)))]) ++ (bytesI (intsL [SK.c (SC.val (Go.Value.int Go.IntKind.u8 (Go.IntKind.u8.wrap (v.fdiv (256 : Int)))))]) ++ (bytesI (intsL [SK.c (SC.val (Go.Value.int Go.IntKind.u8 (Go.IntKind.u8.wrap v)))]) ++ (ByteArray.mk #[])))).size ≤ 9223372036854775807 ∧ bytesI (intsL [SK.c (SC.val (Go.Value.int Go.IntKind.u8 (Go.IntKind.u8.wrap (x1.fdiv (256 : Int)))))]) ++ (bytesI (intsL [SK.c (SC.val (Go.Value.int Go.IntKind.u8 (Go.IntKind.u8.wrap x1)))]) ++ (bytesI (intsL [SK.c (SC.val (Go.Value.int Go.IntKind.u8 (Go.IntKind.u8.wrap (v.fdiv (256 : Int)))))]) ++ (bytesI (intsL [SK.c (SC.val (Go.Value.int Go.IntKind.u8 (Go.IntKind.u8.wrap v)))]) ++ (ByteArray.mk #[])))) = bigB 4 v) := by kernel_rfl
theorem vc_rbig8 (v : Int) :
    Owes Tryd.prog Cx.none [] 12 Tryd.f21 [sI .u64 v, .sc (.num .i64 8)] (.one (sStr (bigB 8 v))) =
    (let x1 : Int := (v.fdiv (256 : Int)).fdiv (256 : Int); let x2 : Int := x1.fdiv (256 : Int); let x3 : Int := x2.fdiv (256 : Int); let x4 : Int := x3.fdiv (256 : Int); let x5 : Int := x4.fdiv (256 : Int); (bytesI (intsL [SK.c (SC.val (Go.Value.int Go.IntKind.u8 (Go.IntKind.u8.wrap v)))])).size + 0 ≤ 9223372036854775807 ∧ (bytesI (intsL [SK.c (SC.val (Go.Value.int Go.IntKind.u8 (Go.IntKind.u8.wrap (v.fdiv (256 : Int)))))])).size + (bytesI (intsL [SK.c (SC.val (Go.Value.int Go.IntKind.u8 (Go.IntKind.u8.wrap v)))]) ++ (ByteArray.mk #[])).size ≤ 9223372036854775807 ∧ (bytesI (intsL [SK.c (SC.val (Go.Value.int Go.IntKind.u8 (Go.IntKind.u8.wrap x1)))])).size + (bytesI (intsL [SK.c (SC.val (Go.Value.int Go.IntKind.u8 (Go.IntKind.u8.wrap (v.fdiv (256 : Int)))))]) ++ (bytesI (intsL [SK.c (SC.val (Go.Value.int Go.IntKind.u8 (Go.IntKind.u8.wrap v)))]) ++ (ByteArray.mk #[]))).size ≤ 9223372036854775807 ∧ (bytesI (intsL [SK.c (SC.val (Go.Value.int Go.IntKind.u8 (Go.IntKind.u8.wrap x2)))])).size + (bytesI (intsL [SK.c (SC.val (Go.Value.int Go.IntKind.u8 (Go.IntKind.u8.wrap x1)))]) ++ (bytesI (intsL [SK.c (SC.val (Go.Value.int Go.IntKind.u8 (Go.IntKind.u8.wrap (v.fdiv (256 : Int)))))]) ++ (bytesI (intsL [SK.c (SC.val (Go.Value.int Go.IntKind.u8 (Go.IntKind.u8.wrap v)))]) ++ (ByteArray.mk #[])))).size ≤ 9223372036854775807 ∧ (bytesI (intsL [SK.c (SC.val (Go.Value.int Go.IntKind.u8 (Go.IntKind.u8.wrap x3)))])).size + (bytesI (intsL [SK.c (SC.val (Go.Value.int Go.IntKind.u8 (Go.IntKind.u8.wrap x2)))]) ++ (bytesI (intsL [SK.c (SC.val (Go.Value.int Go.IntKind.u8 (Go.IntKind.u8.wrap x1)))]) ++ (bytesI (intsL [SK.c (SC.val (Go.Value.int Go.IntKind.u8 (Go.IntKind.u8.wrap (v.fdiv (256 : Int)))))]) ++ (bytesI (intsL [SK.c (SC.val (Go.Value.int Go.IntKind.u8 (Go.IntKind.u8.wrap v)))]) ++ (ByteArray.mk #[]))))).size ≤ 9223372036854775807 ∧ (bytesI (intsL [SK.c (SC.val (Go.Value.int Go.IntKind.u8 (Go.IntKind.u8.wrap x4)))])).size + (bytesI (intsL [SK.c (SC.val (Go.Value.int Go.IntKind.u8 (Go.IntKind.u8.wrap x3)))]) ++ (bytesI (intsL [SK.c (SC.val (Go.Value.int Go.IntKind.u8 (Go.IntKind.u8.wrap x2)))]) ++ (bytesI (intsL [SK.c (SC.val (Go.Value.int Go.IntKind.u8 (Go.IntKind.u8.wrap x1)))]) ++ (bytesI (intsL [SK.c (SC.val (Go.Value.int Go.IntKind.u8 (Go.IntKind.u8.wrap (v.fdiv (256 : Int)))))]) ++ (bytesI (intsL [SK.c (SC.val (Go.Value.int Go.IntKind.u8 (Go.IntKind.u8.wrap v)))]) ++ (ByteArray.mk #[])))))).size ≤ 9223372036854775807 ∧ (bytesI (intsL [SK.c (SC.val (Go.Value.int Go.IntKind.u8 (Go.IntKind.u8.wrap x5)))])).size + (bytesI (intsL [SK.c (SC.val (Go.Value.int Go.IntKind.u8 (Go.IntKind.u8.wrap x4)))]) ++ (bytesI (intsL [SK.c (SC.val (Go.Value.int Go.IntKind.u8 (Go.IntKind.u8.wrap x3)))]) ++ (bytesI (intsL [SK.c (SC.val (Go.Value.int Go.IntKind.u8 (Go.IntKind.u8.wrap x2)))]) ++ (bytesI (intsL [SK.c (SC.val (Go.Value.int Go.IntKind.u8 (Go.IntKind.u8.wrap x1)))]) ++ (bytesI (intsL [SK.c (SC.val (Go.Value.int Go.IntKind.u8 (Go.IntKind.u8.wrap (v.fdiv (256 : Int)))))]) ++ (bytesI (intsL [SK.c (SC.val (Go.Value.int Go.IntKind.u8 (Go.IntKind.u8.wrap v)))]) ++ (ByteArray.mk #[]))))))).size ≤ 9223372036854775807 ∧ (bytesI (intsL [SK.c (SC.val (Go.Value.int Go.IntKind.u8 (Go.IntKind.u8.wrap (x5.fdiv (256 : Int)))))])).size + (bytesI (intsL [SK.c (SC.val (Go.Value.int Go.IntKind.u8 (Go.IntKind.u8.wrap x5)))]) ++ (bytesI (intsL [SK.c (SC.val (Go.Value.int Go.IntKind.u8 (Go.IntKind.u8.wrap x4)))]) ++ (bytesI (intsL [SK.c (SC.val (Go.Value.int Go.IntKind.u8 (Go.IntKind.u8.wrap x3)))]) ++ (bytesI (intsL [SK.c (SC.val (Go.Value.int Go.IntKind.u8 (Go.IntKind.u8.wrap x2)))]) ++ (bytesI (intsL [SK.c (SC.val (Go.Value.int Go.IntKind.u8 (Go.IntKind.u8.wrap x1)))]) ++ (bytesI (intsL [SK.c (SC.val (Go.Value.int Go.IntKind.u8 (Go.IntKind.u8.wrap (v.fdiv (256 : Int)))))]) ++ (bytesI (intsL [SK.c (SC.val (Go.Value.int Go.IntKind.u8 (Go.IntKind.u8.wrap v)))]) ++ (ByteArray.mk #[])))))))).size ≤ 9223372036854775807 ∧ bytesI (intsL [SK.c (SC.val (Go.Value.int Go.IntKind.u8 (Go.IntKind.u8.wrap (x5.fdiv (256 : Int)))))]) ++ (bytesI (intsL [SK.c (SC.val (Go.Value.int Go.IntKind.u8 (Go.IntKind.u8.wrap x5)))]) ++ (bytesI (intsL [SK.c (SC.val (Go.Value.int Go.IntKind.u8 (Go.IntKind.u8.wrap x4)))]) ++ (bytesI (intsL [SK.c (SC.val (Go.Value.int Go.IntKind.u8 (Go.IntKind.u8.wrap x3)))]) ++ (bytesI (intsL [SK.c (SC.val (Go.Value.int Go.IntKind.u8 (Go.IntKind.u8.wrap x2)))]) ++ (bytesI (intsL [SK.c (SC.val (Go.Value.int Go.IntKind.u8 (Go.IntKind.u8.wrap x1)))]) ++ (bytesI (intsL [SK.c (SC.val (Go.Value.int Go.IntKind.u8 (Go.IntKind.u8.wrap (v.fdiv (256 : Int)))))]) ++ (bytesI (intsL [SK.c (SC.val (Go.Value.int Go.IntKind.u8 (Go.IntKind.u8.wrap v)))]) ++ (ByteArray.mk #[])))))))) = bigB 8 v) := by kernel_rfl
theorem vc_rbdt (t n c u l : Int) (em : Nat → Int) (a : Option Addr) (m cap : Nat) (k : Nat → Nat → Int) (r : ByteArray) :
    OwesR Tryd.prog cxTxt [] [] 30 Tryd.f13 [sBody t n c em u l a m cap k] false [.v (sStr r)] =
    (((0 : Int) ≤ Go.IntKind.u64.wrap t ∧ Go.IntKind.u64.wrap t < (18446744073709551616 : Int)) ∧ ((0 : Int) ≤ Go.IntKind.u64.wrap n ∧ Go.IntKind.u64.wrap n < (18446744073709551616 : Int)) ∧ (bigB 8 (Go.IntKind.u64.wrap t)).size + (bigB 4 (Go.IntKind.u64.wrap n)).size ≤ 9223372036854775807 ∧ ((0 : Int) ≤ Go.IntKind.u64.wrap c ∧ Go.IntKind.u64.wrap c < (18446744073709551616 : Int)) ∧ (bigB 8 (Go.IntKind.u64.wrap t) ++ bigB 4 (Go.IntKind.u64.wrap n)).size + (bigB 2 (Go.IntKind.u64.wrap c)).size ≤ 9223372036854775807 ∧ (bigB 8 (Go.IntKind.u64.wrap t) ++ bigB 4 (Go.IntKind.u64.wrap n) ++ bigB 2 (Go.IntKind.u64.wrap c)).size + (bytesI (intsL [SK.f Go.IntKind.u8 32 em])).size ≤ 9223372036854775807 ∧ ((0 : Int) ≤ Go.IntKind.u64.wrap u ∧ Go.IntKind.u64.wrap u < (18446744073709551616 : Int)) ∧ (bigB 8 (Go.IntKind.u64.wrap t) ++ bigB 4 (Go.IntKind.u64.wrap n) ++ bigB 2 (Go.IntKind.u64.wrap c) ++ bytesI (intsL [SK.f Go.IntKind.u8 32 em])).size + (bigB 8 (Go.IntKind.u64.wrap u)).size ≤ 9223372036854775807 ∧ ((0 : Int) ≤ Go.IntKind.u64.wrap l ∧ Go.IntKind.u64.wrap l < (18446744073709551616 : Int)) ∧ (bigB 8 (Go.IntKind.u64.wrap t) ++ bigB 4 (Go.IntKind.u64.wrap n) ++ bigB 2 (Go.IntKind.u64.wrap c) ++ bytesI (intsL [SK.f Go.IntKind.u8 32 em]) ++ bigB 8 (Go.IntKind.u64.wrap u)).size + (bigB 1 (Go.IntKind.u64.wrap l)).size ≤ 9223372036854775807 ∧ (∀ (_ : Nat), True) ∧ (bigB 8 (Go.IntKind.u64.wrap t) ++ bigB 4 (Go.IntKind.u64.wrap n) ++ bigB 2 (Go.IntKind.u64.wrap c) ++ bytesI (intsL [SK.f Go.IntKind.u8 32 em]) ++ bigB 8 (Go.IntKind.u64.wrap u) ++ bigB 1 (Go.IntKind.u64.wrap l)).size + (bytesI (List.map (fun (j : Nat) => k j 0) (List.range m))).size ≤ 9223372036854775807 ∧ bigB 8 (Go.IntKind.u64.wrap t) ++ bigB 4 (Go.IntKind.u64.wrap n) ++ bigB 2 (Go.IntKind.u64.wrap c) ++ bytesI (intsL [SK.f Go.IntKind.u8 32 em]) ++ bigB 8 (Go.IntKind.u64.wrap u) ++ bigB 1 (Go.IntKind.u64.wrap l) ++ bytesI (List.map (fun (j : Nat) => k j 0) (List.range m)) = r) := by kernel_rfl
end Go.Proofs.YtpebkgbelifdgaaDoor
end

section
namespace Go.Proofs.YtpebkgbelifdgaaDoor
open Go.Sx
set_option maxRecDepth 100000
end Go.Proofs.YtpebkgbelifdgaaDoor
end

section
namespace Go.Proofs.YtpebkgbelifdgaaDoor
open Go.Sx
end Go.Proofs.YtpebkgbelifdgaaDoor
end

section
namespace Go.Proofs.YtpebkgbelifdgaaDoor
open Go.Sx
set_option maxRecDepth 100000
def bdtC : List (List FD) → List Prop
  | [[.i t, .i n, .i c, .y _, .i u, .i l, .x _ m _ f]] => [f = u8F (kOf f), bodyE t n c u l m = 0]
  | _ => [False]
def bdtG : List (List FD) → List RS
  | [[.i t, .i n, .i c, .y em, .i u, .i l, .x _ m _ f]] => [.v (sStr (bodyStr t n c em u l m (kOf f)))]
  | _ => []
def cBdtS : SSpec := specQ false shBd nfBd bdtC bdtG
end Go.Proofs.YtpebkgbelifdgaaDoor
end

section
namespace Go.Proofs.YtpebkgbelifdgaaDoor
open Go.Sx
theorem bigB_row (k : Nat) (v : Int) : bigB k v = bytesI ((List.range k).map (bigAt k v)) := rfl
theorem bigB_size (k : Nat) (v : Int) : (bigB k v).size = k := by rw [bigB_row, byI_size, List.length_map, List.length_range]
theorem one_list (z : Int) : (bytesI (intsL [SK.c (SC.val (Value.int IntKind.u8 z))])).data.toList = [UInt8.ofNat z.toNat] := by rw [byI_list]; rfl
theorem one_size (z : Int) : (bytesI (intsL [SK.c (SC.val (Value.int IntKind.u8 z))])).size = 1 := by rw [byI_size]; rfl
theorem nil_size : (ByteArray.mk #[]).size = 0 := rfl
theorem nil_list : (ByteArray.mk #[]).data.toList = [] := rfl
theorem bigB_list (k : Nat) (v : Int) : (bigB k v).data.toList = (List.range k).map fun j => UInt8.ofNat (bigAt k v j).toNat := by rw [bigB_row, byI_list, List.map_map]; rfl
theorem fdiv_256 (z : Int) : z.fdiv 256 = z / 256 := Int.fdiv_eq_ediv_of_nonneg z (by decide)
theorem ok_rbig1 (v : Int) : Owes Tryd.prog Cx.none [] 12 Tryd.f21 [sI .u64 v, .sc (.num .i64 1)] (.one (sStr (bigB 1 v))) := by
  rw [vc_rbig1]
  simp only [ByteArray.size_append, one_size, nil_size]
  refine ⟨by decide, txt_ext ?_⟩
  simp only [txt_app, one_list, nil_list, bigB_list, IntKind.wrap_u8, List.append_nil]
  show _ = [_]
  unfold bigAt
  simp
theorem ok_rbig2 (v : Int) : Owes Tryd.prog Cx.none [] 12 Tryd.f21 [sI .u64 v, .sc (.num .i64 2)] (.one (sStr (bigB 2 v))) := by
  rw [vc_rbig2]
  simp only [ByteArray.size_append, one_size, nil_size, fdiv_256]
  refine ⟨by decide, by decide, txt_ext ?_⟩
  simp only [txt_app, one_list, nil_list, bigB_list, IntKind.wrap_u8, List.append_nil]
  show _ = [_, _]
  unfold bigAt
  simp
theorem ok_rbig4 (v : Int) : Owes Tryd.prog Cx.none [] 12 Tryd.f21 [sI .u64 v, .sc (.num .i64 4)] (.one (sStr (bigB 4 v))) := by
  rw [vc_rbig4]
  intro x1
  have e1 : x1 = v / 256 / 256 := by simp only [x1, fdiv_256]
  clear_value x1
  simp only [ByteArray.size_append, one_size, nil_size, fdiv_256]
  refine ⟨by decide, by decide, by decide, by decide, txt_ext ?_⟩
  simp only [txt_app, one_list, nil_list, bigB_list, IntKind.wrap_u8, List.append_nil]
  show _ = [UInt8.ofNat (v / 256 ^ (4 - 1 - 0) % 256).toNat, UInt8.ofNat (v / 256 ^ (4 - 1 - 1) % 256).toNat, UInt8.ofNat (v / 256 ^ (4 - 1 - 2) % 256).toNat, UInt8.ofNat (v / 256 ^ (4 - 1 - 3) % 256).toNat]
  have f0 : v / 256 ^ (4 - 1 - 3) % 256 = v % 256 := by simp
  have f1 : v / 256 ^ (4 - 1 - 2) % 256 = v / 256 % 256 := by omega
  have f2 : v / 256 ^ (4 - 1 - 1) % 256 = x1 % 256 := by omega
  have f3 : v / 256 ^ (4 - 1 - 0) % 256 = x1 / 256 % 256 := by omega
  rw [f0, f1, f2, f3]
  simp
theorem ok_rbig8 (v : Int) : Owes Tryd.prog Cx.none [] 12 Tryd.f21 [sI .u64 v, .sc (.num .i64 8)] (.one (sStr (bigB 8 v))) := by
  rw [vc_rbig8]
  intro x1 x2 x3 x4 x5
  have e1 : x1 = v / 256 / 256 := by simp only [x1, fdiv_256]
  have e2 : x2 = x1 / 256 := by simp only [x2, fdiv_256]
  have e3 : x3 = x2 / 256 := by simp only [x3, fdiv_256]
  have e4 : x4 = x3 / 256 := by simp only [x4, fdiv_256]
  have e5 : x5 = x4 / 256 := by simp only [x5, fdiv_256]
  clear_value x5 x4 x3 x2 x1
  simp only [ByteArray.size_append, one_size, nil_size, fdiv_256]
  refine ⟨by decide, by decide, by decide, by decide, by decide, by decide, by decide, by decide, txt_ext ?_⟩
  simp only [txt_app, one_list, nil_list, bigB_list, IntKind.wrap_u8, List.append_nil]
  show _ = [UInt8.ofNat (v / 256 ^ (8 - 1 - 0) % 256).toNat, UInt8.ofNat (v / 256 ^ (8 - 1 - 1) % 256).toNat, UInt8.ofNat (v / 256 ^ (8 - 1 - 2) % 256).toNat, UInt8.ofNat (v / 256 ^ (8 - 1 - 3) % 256).toNat, UInt8.ofNat (v / 256 ^ (8 - 1 - 4) % 256).toNat, UInt8.ofNat (v / 256 ^ (8 - 1 - 5) % 256).toNat, UInt8.ofNat (v / 256 ^ (8 - 1 - 6) % 256).toNat, UInt8.ofNat (v / 256 ^ (8 - 1 - 7) % 256).toNat]
  have f0 : v / 256 ^ (8 - 1 - 7) % 256 = v % 256 := by simp
  have f1 : v / 256 ^ (8 - 1 - 6) % 256 = v / 256 % 256 := by omega
  have f2 : v / 256 ^ (8 - 1 - 5) % 256 = x1 % 256 := by omega
  have f3 : v / 256 ^ (8 - 1 - 4) % 256 = x2 % 256 := by omega
  have f4 : v / 256 ^ (8 - 1 - 3) % 256 = x3 % 256 := by omega
  have f5 : v / 256 ^ (8 - 1 - 2) % 256 = x4 % 256 := by omega
  have f6 : v / 256 ^ (8 - 1 - 1) % 256 = x5 % 256 := by omega
  have f7 : v / 256 ^ (8 - 1 - 0) % 256 = x5 / 256 % 256 := by omega
  rw [f0, f1, f2, f3, f4, f5, f6, f7]
  simp
theorem card_rbig : FnOK Tryd.prog 21 cBigK := by
  refine FnOK_owes (cx := Cx.none) (iv := []) (N := 12) pcx_none Tryd.func21 (by kernel_rfl) (by kernel_rfl) fun args ps sv hs hp => ?_
  unfold cBigK at hs
  split at hs
  case h_2 => cases hs
  rename_i x y
  split at hs
  case h_5 => cases hs
  all_goals
    rename_i v hx hy
    simp only [Option.some.injEq, Prod.mk.injEq] at hs
    obtain ⟨rfl, rfl⟩ := hs
    refine ⟨[sI .u64 v, .sc (.num .i64 _)], fun ρ => by simp only [List.map_cons, List.map_nil, asI_sound hx ρ, asI_sound hy ρ]; rfl, fun z hz => ?_, trivial, ?_⟩
  case h_1.refine_2 => exact ok_rbig1 v
  case h_2.refine_2 => exact ok_rbig2 v
  case h_3.refine_2 => exact ok_rbig4 v
  case h_4.refine_2 => exact ok_rbig8 v
  all_goals
    simp only [List.mem_cons, List.not_mem_nil, or_false] at hz
    rcases hz with rfl | rfl <;> trivial
theorem cxok_Txt : CxOK Tryd.prog cxTxt := pgl_cons card_rbig pgl_nil
theorem bodyStr_row (t n c : Int) (em : Nat → Int) (u l : Int) (m : Nat) (k : Nat → Nat → Int) : bodyStr t n c em u l m k = bytesI ((List.range (55 + m)).map (bodyF t n c em u l k)) := by
  unfold bodyStr
  simp only [bigB_row, ← byI_app, ← cat_list]
  congr 1
  refine row_congr fun i hi => ?_
  unfold catB bodyF
  have e3 : i - (8 + 4 + 2) = i - 14 := by omega
  have e4 : i - (8 + 4 + 2 + 32) = i - 46 := by omega
  have e5 : i - (8 + 4 + 2 + 32 + 8) = i - 54 := by omega
  have e6 : i - (8 + 4 + 2 + 32 + 8 + 1) = i - 55 := by omega
  rw [e3, e4, e5, e6]
  grind
theorem bodyStr_size (t n c : Int) (em : Nat → Int) (u l : Int) (m : Nat) (k : Nat → Nat → Int) : (bodyStr t n c em u l m k).size = 55 + m := by rw [bodyStr_row, byI_size, List.length_map, List.length_range]
theorem bodyE_ok {t n c u l : Int} {m : Nat} (h : bodyE t n c u l m = 0) : (0 ≤ t ∧ t ≤ 1099511627776) ∧ (0 ≤ n ∧ n ≤ 4294967295) ∧ (0 ≤ c ∧ c ≤ 65535) ∧ (0 ≤ u ∧ u ≤ 1099511627776) ∧ (0 ≤ l ∧ l ≤ 255) ∧ m ≤ 300 := by
  unfold bodyE at h
  split at h
  · split at h
    · rename_i a b; exact ⟨a.1, a.2.1, a.2.2.1, a.2.2.2.1, a.2.2.2.2, b⟩
    · cases h
  · cases h
theorem u64_id {x : Int} (h : 0 ≤ x ∧ x < 18446744073709551616) : IntKind.u64.wrap x = x := wrap_id h
theorem ok_rbdt (t n c u l : Int) (em : Nat → Int) (a : Option Addr) (m cap : Nat) (k : Nat → Nat → Int) (h : bodyE t n c u l m = 0) :
    OwesR Tryd.prog cxTxt [] [] 30 Tryd.f13 [sBody t n c em u l a m cap k] false [.v (sStr (bodyStr t n c em u l m k))] := by
  rw [vc_rbdt]
  obtain ⟨h1, h2, h3, h4, h5, h6⟩ := bodyE_ok h
  rw [u64_id (x := t) (by omega), u64_id (x := n) (by omega), u64_id (x := c) (by omega), u64_id (x := u) (by omega), u64_id (x := l) (by omega)]
  simp only [ByteArray.size_append, bigB_size, byI_size, List.length_map, List.length_range]
  have e : (intsL [SK.f IntKind.u8 32 em]).length = 32 := rfl
  rw [e]
  refine ⟨by omega, by omega, by decide, by omega, by decide, by decide, by omega, by decide, by omega, by decide, fun _ => trivial, by omega, ?_⟩
  unfold bodyStr
  have e2 : intsL [SK.f IntKind.u8 32 em] = (List.range 32).map em := List.append_nil _
  rw [e2]
theorem card_rbdt {gl : Globs} : FnOKs Tryd.prog gl 13 cBdtS := by
  refine FnOKs.up0 (FnOKs_Q (cx := cxTxt) (sl := []) cxok_Txt sl_nil Tryd.func13 (by kernel_rfl) (by kernel_rfl) fun ls hc => ?_) gl
  unfold bdtC at hc
  split at hc
  · rename_i t n c em u l a m cap f
    obtain ⟨h, h0, _⟩ := hc
    have := ok_rbdt t n c u l em a m cap (kOf f) h0
    unfold sBody ksBody at this
    rw [← h] at this
    exact ⟨[], 30, mem_one trivial, this⟩
  · exact hc.1.elim
end Go.Proofs.YtpebkgbelifdgaaDoor
end

section
namespace Go.Sx
open Go.RowKit
def rotlM (x k : Int) : Int := lw ((BitVec.ofInt 64 x).rotateLeft (k.toNat % 64))
def specRotlN : FSpec := fun args =>
  match args with
  | [x, y] => match asI x, asI y with
    | some (.u64, x), some (.i64, k) => some ([0 ≤ x ∧ x < 18446744073709551616, 0 ≤ k ∧ k < 4096], .one (sI .u64 (rotlM x k)))
    | _, _ => none
  | _ => none
end Go.Sx
end
