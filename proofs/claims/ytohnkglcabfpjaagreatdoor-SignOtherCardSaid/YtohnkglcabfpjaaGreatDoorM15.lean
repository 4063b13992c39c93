/-
  Texts: V32, P62, Kl, V33, P63, V52, P85, V53, P86, P87.
-/
import Derived.Test.YtohnkglcabfpjaaGreatDoorM1
import Derived.Test.YtohnkglcabfpjaaGreatDoorM2
import Derived.Test.YtohnkglcabfpjaaGreatDoorM3
import Derived.Test.YtohnkglcabfpjaaGreatDoorM4
import Derived.Test.YtohnkglcabfpjaaGreatDoorM5
import Derived.Test.YtohnkglcabfpjaaGreatDoorM6
import Derived.Test.YtohnkglcabfpjaaGreatDoorM7
import Derived.Test.YtohnkglcabfpjaaGreatDoorM8
import Derived.Test.YtohnkglcabfpjaaGreatDoorM9
import Derived.Test.YtohnkglcabfpjaaGreatDoorM10
import Derived.Test.YtohnkglcabfpjaaGreatDoorM11
import Derived.Test.YtohnkglcabfpjaaGreatDoorM12
import Derived.Test.YtohnkglcabfpjaaGreatDoorM13
import Derived.Test.YtohnkglcabfpjaaGreatDoorM14
section
namespace Go.Proofs.YtohnkglcabfpjaaGreatDoor
open Go Go.Sx Go.RowKit
def cxEnd : Cx := ⟨[(95, specSp (fun _ _ _ => []) fun _ H N => .one (sB (mayG H N))), (96, specSp (fun L _ _ => [lanes 25 L]) soakG), (97, specRow .u64 .u8 25 32 (fun _ => []) firstG)], glK, 0, []⟩
def spOf (L H : Nat → Int) (N : Int) : Sp := ⟨ofRow L, H, N.toNat⟩
def endG (L H : Nat → Int) (N : Int) : SV := .tup [sRow .u8 32 (fun j => if mayG H N then endB (spOf L H N) j else 0), sI .i64 (if mayG H N then 0 else 12)]
def kAddG (L H : Nat → Int) (N : Int) (n : Nat) (f : Nat → Int) : SV := .tup [sSp (fun i => if mayG H N then lw ((addB (spOf L H N) f n).a i) else 0) (fun j => if mayG H N then (addB (spOf L H N) f n).H j else 0) (if mayG H N then ((addB (spOf L H N) f n).n : Int) else 0), sI .i64 (if mayG H N then 0 else 12)]
def invAdd (L H : Nat → Int) (N : Int) (n : Nat) (f : Nat → Int) : Inv where
  X := Nat × Option Addr × Nat
  tm y := slotsAt 34 [(1, .one (sXs y.2.1 (n - y.1) y.2.2 (fun i => f (y.1 + i)))), (2, .one (.sc (.ptr 0 0))), (4, .one (.sc (.ptr 1 0))), (5, .one (.sc (.num .i64 0)))]
  ob y := [.cells 124 [.f .u64 25 (fun i => lw ((addB (spOf L H N) f y.1).a i)), .f .u8 136 (addB (spOf L H N) f y.1).H, .c (.val (.int .i64 ((addB (spOf L H N) f y.1).n : Int)))] 0, .cells 124 (List.replicate 25 (.c (.num .u64 0)) ++ List.replicate 136 (.c (.num .u8 0)) ++ [.c (.num .i64 0)]) 0]
  holds y := mayG H N = true ∧ y.1 ≤ n
  less y := n - y.1
theorem vc_End (L H : Nat → Int) (N : Int) :
    Owes Tryz.prog cxEnd [] 10 Tryz.f77 [sSp L H N] (endG L H N) =
    (let x1 : Int := if mayG H N = Bool.true then (0 : Int) else (12 : Int); let x2 : Int := Go.IntKind.u8.wrap (H N.toNat + (1 : Int)); ((!mayG H N) = Bool.true → (((0 : Int) = if mayG H N = Bool.true then endB (spOf L H N) 0 else (0 : Int)) ∧ ((0 : Int) = if mayG H N = Bool.true then endB (spOf L H N) 1 else (0 : Int)) ∧ ((0 : Int) = if mayG H N = Bool.true then endB (spOf L H N) 2 else (0 : Int)) ∧ ((0 : Int) = if mayG H N = Bool.true then endB (spOf L H N) 3 else (0 : Int)) ∧ ((0 : Int) = if mayG H N = Bool.true then endB (spOf L H N) 4 else (0 : Int)) ∧ ((0 : Int) = if mayG H N = Bool.true then endB (spOf L H N) 5 else (0 : Int)) ∧ ((0 : Int) = if mayG H N = Bool.true then endB (spOf L H N) 6 else (0 : Int)) ∧ ((0 : Int) = if mayG H N = Bool.true then endB (spOf L H N) 7 else (0 : Int)) ∧ ((0 : Int) = if mayG H N = Bool.true then endB (spOf L H N) 8 else (0 : Int)) ∧ ((0 : Int) = if mayG H N = Bool.true then endB (spOf L H N) 9 else (0 : Int)) ∧ ((0 : Int) = if mayG H N = Bool.true then endB (spOf L H N) 10 else (0 : Int)) ∧ ((0 : Int) = if mayG H N = Bool.true then endB (spOf L H N) 11 else (0 : Int)) ∧ ((0 : Int) = if mayG H N = Bool.true then endB (spOf L H N) 12 else (0 : Int)) ∧ ((0 : Int) = if mayG H N = Bool.true then endB (spOf L H N) 13 else (0 : Int)) ∧ ((0 : Int) = if mayG H N = Bool.true then endB (spOf L H N) 14 else (0 : Int)) ∧ ((0 : Int) = if mayG H N = Bool.true then endB (spOf L H N) 15 else (0 : Int)) ∧ ((0 : Int) = if mayG H N = Bool.true then endB (spOf L H N) 16 else (0 : Int)) ∧ ((0 : Int) = if mayG H N = Bool.true then endB (spOf L H N) 17 else (0 : Int)) ∧ ((0 : Int) = if mayG H N = Bool.true then endB (spOf L H N) 18 else (0 : Int)) ∧ ((0 : Int) = if mayG H N = Bool.true then endB (spOf L H N) 19 else (0 : Int)) ∧ ((0 : Int) = if mayG H N = Bool.true then endB (spOf L H N) 20 else (0 : Int)) ∧ ((0 : Int) = if mayG H N = Bool.true then endB (spOf L H N) 21 else (0 : Int)) ∧ ((0 : Int) = if mayG H N = Bool.true then endB (spOf L H N) 22 else (0 : Int)) ∧ ((0 : Int) = if mayG H N = Bool.true then endB (spOf L H N) 23 else (0 : Int)) ∧ ((0 : Int) = if mayG H N = Bool.true then endB (spOf L H N) 24 else (0 : Int)) ∧ ((0 : Int) = if mayG H N = Bool.true then endB (spOf L H N) 25 else (0 : Int)) ∧ ((0 : Int) = if mayG H N = Bool.true then endB (spOf L H N) 26 else (0 : Int)) ∧ ((0 : Int) = if mayG H N = Bool.true then endB (spOf L H N) 27 else (0 : Int)) ∧ ((0 : Int) = if mayG H N = Bool.true then endB (spOf L H N) 28 else (0 : Int)) ∧ ((0 : Int) = if mayG H N = Bool.true then endB (spOf L H N) 29 else (0 : Int)) ∧ ((0 : Int) = if mayG H N = Bool.true then endB (spOf L H N) 30 else (0 : Int)) ∧ ((0 : Int) = if mayG H N = Bool.true then endB (spOf L H N) 31 else (0 : Int)) ∧ True) ∧ (12 : Int) = x1) ∧ ((!mayG H N) = Bool.false → ((0 : Int) ≤ N ∧ N < (136 : Int)) ∧ ((0 : Int) ≤ N ∧ N < (136 : Int)) ∧ ((0 : Int) ≤ N ∧ N < (136 : Int)) ∧ ((0 : Int) ≤ N ∧ N < (136 : Int)) ∧ (∀ (i : Nat), i < 25 → (0 : Int) ≤ L i ∧ L i < (18446744073709551616 : Int)) ∧ ((∀ (j : Nat), j < 32 → firstG (fun (i : Nat) => lw (soakB (ofRow L) (fun (j : Nat) => (intsL [SK.f Go.IntKind.u8 135 fun (j : Nat) => if j = N.toNat then x2 else H j, SK.c (SC.val (Go.Value.int Go.IntKind.u8 (Go.IntKind.u8.wrap ((if 135 = N.toNat then x2 else H 135) + (128 : Int)))))]).getD j (0 : Int)) i)) j = if mayG H N = Bool.true then endB (spOf L H N) j else (0 : Int)) ∧ True) ∧ (0 : Int) = x1)) := by kernel_rfl
set_option maxHeartbeats 4000000 in
theorem vc_kAdd (L H : Nat → Int) (N : Int) (a : Option Addr) (n cap : Nat) (f : Nat → Int) :
    Owes Tryz.prog cxEnd [(3, .inv (invAdd L H N n f))] 10 Tryz.f75 [sSp L H N, sXs a n cap f] (kAddG L H N n f) =
    (let x1 : Int := if mayG H N = Bool.true then (↑(addB (spOf L H N) f n).n : Int) else (0 : Int); let x2 : Int := if mayG H N = Bool.true then (0 : Int) else (12 : Int); ((!mayG H N) = Bool.true → (((0 : Int) = if mayG H N = Bool.true then lw ((addB (spOf L H N) f n).a 0) else (0 : Int)) ∧ ((0 : Int) = if mayG H N = Bool.true then lw ((addB (spOf L H N) f n).a 1) else (0 : Int)) ∧ ((0 : Int) = if mayG H N = Bool.true then lw ((addB (spOf L H N) f n).a 2) else (0 : Int)) ∧ ((0 : Int) = if mayG H N = Bool.true then lw ((addB (spOf L H N) f n).a 3) else (0 : Int)) ∧ ((0 : Int) = if mayG H N = Bool.true then lw ((addB (spOf L H N) f n).a 4) else (0 : Int)) ∧ ((0 : Int) = if mayG H N = Bool.true then lw ((addB (spOf L H N) f n).a 5) else (0 : Int)) ∧ ((0 : Int) = if mayG H N = Bool.true then lw ((addB (spOf L H N) f n).a 6) else (0 : Int)) ∧ ((0 : Int) = if mayG H N = Bool.true then lw ((addB (spOf L H N) f n).a 7) else (0 : Int)) ∧ ((0 : Int) = if mayG H N = Bool.true then lw ((addB (spOf L H N) f n).a 8) else (0 : Int)) ∧ ((0 : Int) = if mayG H N = Bool.true then lw ((addB (spOf L H N) f n).a 9) else (0 : Int)) ∧ ((0 : Int) = if mayG H N = Bool.true then lw ((addB (spOf L H N) f n).a 10) else (0 : Int)) ∧ ((0 : Int) = if mayG H N = Bool.true then lw ((addB (spOf L H N) f n).a 11) else (0 : Int)) ∧ ((0 : Int) = if mayG H N = Bool.true then lw ((addB (spOf L H N) f n).a 12) else (0 : Int)) ∧ ((0 : Int) = if mayG H N = Bool.true then lw ((addB (spOf L H N) f n).a 13) else (0 : Int)) ∧ ((0 : Int) = if mayG H N = Bool.true then lw ((addB (spOf L H N) f n).a 14) else (0 : Int)) ∧ ((0 : Int) = if mayG H N = Bool.true then lw ((addB (spOf L H N) f n).a 15) else (0 : Int)) ∧ ((0 : Int) = if mayG H N = Bool.true then lw ((addB (spOf L H N) f n).a 16) else (0 : Int)) ∧ ((0 : Int) = if mayG H N = Bool.true then lw ((addB (spOf L H N) f n).a 17) else (0 : Int)) ∧ ((0 : Int) = if mayG H N = Bool.true then lw ((addB (spOf L H N) f n).a 18) else (0 : Int)) ∧ ((0 : Int) = if mayG H N = Bool.true then lw ((addB (spOf L H N) f n).a 19) else (0 : Int)) ∧ ((0 : Int) = if mayG H N = Bool.true then lw ((addB (spOf L H N) f n).a 20) else (0 : Int)) ∧ ((0 : Int) = if mayG H N = Bool.true then lw ((addB (spOf L H N) f n).a 21) else (0 : Int)) ∧ ((0 : Int) = if mayG H N = Bool.true then lw ((addB (spOf L H N) f n).a 22) else (0 : Int)) ∧ ((0 : Int) = if mayG H N = Bool.true then lw ((addB (spOf L H N) f n).a 23) else (0 : Int)) ∧ ((0 : Int) = if mayG H N = Bool.true then lw ((addB (spOf L H N) f n).a 24) else (0 : Int)) ∧ ((0 : Int) = if mayG H N = Bool.true then (addB (spOf L H N) f n).H 0 else (0 : Int)) ∧ ((0 : Int) = if mayG H N = Bool.true then (addB (spOf L H N) f n).H 1 else (0 : Int)) ∧ ((0 : Int) = if mayG H N = Bool.true then (addB (spOf L H N) f n).H 2 else (0 : Int)) ∧ ((0 : Int) = if mayG H N = Bool.true then (addB (spOf L H N) f n).H 3 else (0 : Int)) ∧ ((0 : Int) = if mayG H N = Bool.true then (addB (spOf L H N) f n).H 4 else (0 : Int)) ∧ ((0 : Int) = if mayG H N = Bool.true then (addB (spOf L H N) f n).H 5 else (0 : Int)) ∧ ((0 : Int) = if mayG H N = Bool.true then (addB (spOf L H N) f n).H 6 else (0 : Int)) ∧ ((0 : Int) = if mayG H N = Bool.true then (addB (spOf L H N) f n).H 7 else (0 : Int)) ∧ ((0 : Int) = if mayG H N = Bool.true then (addB (spOf L H N) f n).H 8 else (0 : Int)) ∧ ((0 : Int) = if mayG H N = Bool.true then (addB (spOf L H N) f n).H 9 else (0 : Int)) ∧ ((0 : Int) = if mayG H N = Bool.true then (addB (spOf L H N) f n).H 10 else (0 : Int)) ∧ ((0 : Int) = if mayG H N = Bool.true then (addB (spOf L H N) f n).H 11 else (0 : Int)) ∧ ((0 : Int) = if mayG H N = Bool.true then (addB (spOf L H N) f n).H 12 else (0 : Int)) ∧ ((0 : Int) = if mayG H N = Bool.true then (addB (spOf L H N) f n).H 13 else (0 : Int)) ∧ ((0 : Int) = if mayG H N = Bool.true then (addB (spOf L H N) f n).H 14 else (0 : Int)) ∧ ((0 : Int) = if mayG H N = Bool.true then (addB (spOf L H N) f n).H 15 else (0 : Int)) ∧ ((0 : Int) = if mayG H N = Bool.true then (addB (spOf L H N) f n).H 16 else (0 : Int)) ∧ ((0 : Int) = if mayG H N = Bool.true then (addB (spOf L H N) f n).H 17 else (0 : Int)) ∧ ((0 : Int) = if mayG H N = Bool.true then (addB (spOf L H N) f n).H 18 else (0 : Int)) ∧ ((0 : Int) = if mayG H N = Bool.true then (addB (spOf L H N) f n).H 19 else (0 : Int)) ∧ ((0 : Int) = if mayG H N = Bool.true then (addB (spOf L H N) f n).H 20 else (0 : Int)) ∧ ((0 : Int) = if mayG H N = Bool.true then (addB (spOf L H N) f n).H 21 else (0 : Int)) ∧ ((0 : Int) = if mayG H N = Bool.true then (addB (spOf L H N) f n).H 22 else (0 : Int)) ∧ ((0 : Int) = if mayG H N = Bool.true then (addB (spOf L H N) f n).H 23 else (0 : Int)) ∧ ((0 : Int) = if mayG H N = Bool.true then (addB (spOf L H N) f n).H 24 else (0 : Int)) ∧ ((0 : Int) = if mayG H N = Bool.true then (addB (spOf L H N) f n).H 25 else (0 : Int)) ∧ ((0 : Int) = if mayG H N = Bool.true then (addB (spOf L H N) f n).H 26 else (0 : Int)) ∧ ((0 : Int) = if mayG H N = Bool.true then (addB (spOf L H N) f n).H 27 else (0 : Int)) ∧ ((0 : Int) = if mayG H N = Bool.true then (addB (spOf L H N) f n).H 28 else (0 : Int)) ∧ ((0 : Int) = if mayG H N = Bool.true then (addB (spOf L H N) f n).H 29 else (0 : Int)) ∧ ((0 : Int) = if mayG H N = Bool.true then (addB (spOf L H N) f n).H 30 else (0 : Int)) ∧ ((0 : Int) = if mayG H N = Bool.true then (addB (spOf L H N) f n).H 31 else (0 : Int)) ∧ ((0 : Int) = if mayG H N = Bool.true then (addB (spOf L H N) f n).H 32 else (0 : Int)) ∧ ((0 : Int) = if mayG H N = Bool.true then (addB (spOf L H N) f n).H 33 else (0 : Int)) ∧ ((0 : Int) = if mayG H N = Bool.true then (addB (spOf L H N) f n).H 34 else (0 : Int)) ∧ ((0 : Int) = if mayG H N = Bool.true then (addB (spOf L H N) f n).H 35 else (0 : Int)) ∧ ((0 : Int) = if mayG H N = Bool.true then (addB (spOf L H N) f n).H 36 else (0 : Int)) ∧ ((0 : Int) = if mayG H N = Bool.true then (addB (spOf L H N) f n).H 37 else (0 : Int)) ∧ ((0 : Int) = if mayG H N = Bool.true then (addB (spOf L H N) f n).H 38 else (0 : Int)) ∧ ((0 : Int) = if mayG H N = Bool.true then (addB (spOf L H N) f n).H 39 else (0 : Int)) ∧ ((0 : Int) = if mayG H N = Bool.true then (addB (spOf L H N) f n).H 40 else (0 : Int)) ∧ ((0 : Int) = if mayG H N = Bool.true then (addB (spOf L H N) f n).H 41 else (0 : Int)) ∧ ((0 : Int) = if mayG H N = Bool.true then (addB (spOf L H N) f n).H 42 else (0 : Int)) ∧ ((0 : Int) = if mayG H N = Bool.true then (addB (spOf L H N) f n).H 43 else (0 : Int)) ∧ ((0 : Int) = if mayG H N = Bool.true then (addB (spOf L H N) f n).H 44 else (0 : Int)) ∧ ((0 : Int) = if mayG H N = Bool.true then (addB (spOf L H N) f n).H 45 else (0 : Int)) ∧ ((0 : Int) = if mayG H N = Bool.true then (addB (spOf L H N) f n).H 46 else (0 : Int)) ∧ ((0 : Int) = if mayG H N = Bool.true then (addB (spOf L H N) f n).H 47 else (0 : Int)) ∧ ((0 : Int) = if mayG H N = Bool.true then (addB (spOf L H N) f n).H 48 else (0 : Int)) ∧ ((0 : Int) = if mayG H N = Bool.true then (addB (spOf L H N) f n).H 49 else (0 : Int)) ∧ ((0 : Int) = if mayG H N = Bool.true then (addB (spOf L H N) f n).H 50 else (0 : Int)) ∧ ((0 : Int) = if mayG H N = Bool.true then (addB (spOf L H N) f n).H 51 else (0 : Int)) ∧ ((0 : Int) = if mayG H N = Bool.true then (addB (spOf L H N) f n).H 52 else (0 : Int)) ∧ ((0 : Int) = if mayG H N = Bool.true then (addB (spOf L H N) f n).H 53 else (0 : Int)) ∧ ((0 : Int) = if mayG H N = Bool.true then (addB (spOf L H N) f n).H 54 else (0 : Int)) ∧ ((0 : Int) = if mayG H N = Bool.true then (addB (spOf L H N) f n).H 55 else (0 : Int)) ∧ ((0 : Int) = if mayG H N = Bool.true then (addB (spOf L H N) f n).H 56 else (0 : Int)) ∧ ((0 : Int) = if mayG H N = Bool.true then (addB (spOf L H N) f n).H 57 else (0 : Int)) ∧ ((0 : Int) = if mayG H N = Bool.true then (addB (spOf L H N) f n).H 58 else (0 : Int)) ∧ ((0 : Int) = if mayG H N = Bool.true then (addB (spOf L H N) f n).H 59 else (0 : Int)) ∧ ((0 : Int) = if mayG H N = Bool.true then (addB (spOf L H N) f n).H 60 else (0 : Int)) ∧ ((0 : Int) = if mayG H N = Bool.true then (addB (spOf L H N) f n).H 61 else (0 : Int)) ∧ ((0 : Int) = if mayG H N = Bool.true then (addB (spOf L H N) f n).H 62 else (0 : Int)) ∧ ((0 : Int) = if mayG H N = Bool.true then (addB (spOf L H N) f n).H 63 else (0 : Int)) ∧ ((0 : Int) = if mayG H N = Bool.true then (addB (spOf L H N) f n).H 64 else (0 : Int)) ∧ ((0 : Int) = if mayG H N = Bool.true then (addB (spOf L H N) f n).H 65 else (0 : Int)) ∧ ((0 : Int) = if mayG H N = Bool.true then (addB (spOf L H N) f n).H 66 else (0 : Int)) ∧ ((0 : Int) = if mayG H N = Bool.true then (addB (spOf L H N) f n).H 67 else (0 : Int)) ∧ ((0 : Int) = if mayG H N = Bool.true then (addB (spOf L H N) f n).H 68 else (0 : Int)) ∧ ((0 : Int) = if mayG H N = Bool.true then (addB (spOf L H N) f n).H 69 else (0 : Int)) ∧ ((0 : Int) = if mayG H N = Bool.true then (addB (spOf L H N) f n).H 70 else (0 : Int)) ∧ ((0 : Int) = if mayG H N = Bool.true then (addB (spOf L H N) f n).H 71 else (0 : Int)) ∧ ((0 : Int) = if mayG H N = Bool.true then (addB (spOf L H N) f n).H 72 else (0 : Int)) ∧ ((0 : Int) = if mayG H N = Bool.true then (addB (spOf L H N) f n).H 73 else (0 : Int)) ∧ ((0 : Int) = if mayG H N = Bool.true then (addB (spOf L H N) f n).H 74 else (0 : Int)) ∧ ((0 : Int) = if mayG H N = Bool.true then (addB (spOf L H N) f n).H 75 else (0 : Int)) ∧ ((0 : Int) = if mayG H N = Bool.true then (addB (spOf L H N) f n).H 76 else (0 : Int)) ∧ ((0 : Int) = if mayG H N = Bool.true then (addB (spOf L H N) f n).H 77 else (0 : Int)) ∧ ((0 : Int) = if mayG H N = Bool.true then (addB (spOf L H N) f n).H 78 else (0 : Int)) ∧ ((0 : Int) = if mayG H N = Bool.true then (addB (spOf L H N) f n).H 79 else (0 : Int)) ∧ ((0 : Int) = if mayG H N = Bool.true then (addB (spOf L H N) f n).H 80 else (0 : Int)) ∧ ((0 : Int) = if mayG H N = Bool.true then (addB (spOf L H N) f n).H 81 else (0 : Int)) ∧ ((0 : Int) = if mayG H N = Bool.true then (addB (spOf L H N) f n).H 82 else (0 : Int)) ∧ ((0 : Int) = if mayG H N = Bool.true then (addB (spOf L H N) f n).H 83 else (0 : Int)) ∧ ((0 : Int) = if mayG H N = Bool.true then (addB (spOf L H N) f n).H 84 else (0 : Int)) ∧ ((0 : Int) = if mayG H N = Bool.true then (addB (spOf L H N) f n).H 85 else (0 : Int)) ∧ ((0 : Int) = if mayG H N = Bool.true then (addB (spOf L H N) f n).H 86 else (0 : Int)) ∧ ((0 : Int) = if mayG H N = Bool.true then (addB (spOf L H N) f n).H 87 else (0 : Int)) ∧ ((0 : Int) = if mayG H N = Bool.true then (addB (spOf L H N) f n).H 88 else (0 : Int)) ∧ ((0 : Int) = if mayG H N = Bool.true then (addB (spOf L H N) f n).H 89 else (0 : Int)) ∧ ((0 : Int) = if mayG H N = Bool.true then (addB (spOf L H N) f n).H 90 else (0 : Int)) ∧ ((0 : Int) = if mayG H N = Bool.true then (addB (spOf L H N) f n).H 91 else (0 : Int)) ∧ ((0 : Int) = if mayG H N = Bool.true then (addB (spOf L H N) f n).H 92 else (0 : Int)) ∧ ((0 : Int) = if mayG H N = Bool.true then (addB (spOf L H N) f n).H 93 else (0 : Int)) ∧ ((0 : Int) = if mayG H N = Bool.true then (addB (spOf L H N) f n).H 94 else (0 : Int)) ∧ ((0 : Int) = if mayG H N = Bool.true then (addB (spOf L H N) f n).H 95 else (0 : Int)) ∧ ((0 : Int) = if mayG H N = Bool.true then (addB (spOf L H N) f n).H 96 else (0 : Int)) ∧ ((0 : Int) = if mayG H N = Bool.true then (addB (spOf L H N) f n).H 97 else (0 : Int)) ∧ ((0 : Int) = if mayG H N = Bool.true then (addB (spOf L H N) f n).H 98 else (0 : Int)) ∧ ((0 : Int) = if mayG H N = Bool.true then (addB (spOf L H N) f n).H 99 else (0 : Int)) ∧ ((0 : Int) = if mayG H N = Bool.true then (addB (spOf L H N) f n).H 100 else (0 : Int)) ∧ ((0 : Int) = if mayG H N = Bool.true then (addB (spOf L H N) f n).H 101 else (0 : Int)) ∧ ((0 : Int) = if mayG H N = Bool.true then (addB (spOf L H N) f n).H 102 else (0 : Int)) ∧ ((0 : Int) = if mayG H N = Bool.true then (addB (spOf L H N) f n).H 103 else (0 : Int)) ∧ ((0 : Int) = if mayG H N = Bool.true then (addB (spOf L H N) f n).H 104 else (0 : Int)) ∧ ((0 : Int) = if mayG H N = Bool.true then (addB (spOf L H N) f n).H 105 else (0 : Int)) ∧ ((0 : Int) = if mayG H N = Bool.true then (addB (spOf L H N) f n).H 106 else (0 : Int)) ∧ ((0 : Int) = if mayG H N = Bool.true then (addB (spOf L H N) f n).H 107 else (0 : Int)) ∧ ((0 : Int) = if mayG H N = Bool.true then (addB (spOf L H N) f n).H 108 else (0 : Int)) ∧ ((0 : Int) = if mayG H N = Bool.true then (addB (spOf L H N) f n).H 109 else (0 : Int)) ∧ ((0 : Int) = if mayG H N = Bool.true then (addB (spOf L H N) f n).H 110 else (0 : Int)) ∧ ((0 : Int) = if mayG H N = Bool.true then (addB (spOf L H N) f n).H 111 else (0 : Int)) ∧ ((0 : Int) = if mayG H N = Bool.true then (addB (spOf L H N) f n).H 112 else (0 : Int)) ∧ ((0 : Int) = if mayG H N = Bool.true then (addB (spOf L H N) f n).H 113 else (0 : Int)) ∧ ((0 : Int) = if mayG H N = Bool.true then (addB (spOf L H N) f n).H 114 else (0 : Int)) ∧ ((0 : Int) = if mayG H N = Bool.true then (addB (spOf L H N) f n).H 115 else (0 : Int)) ∧ ((0 : Int) = if mayG H N = Bool.true then (addB (spOf L H N) f n).H 116 else (0 : Int)) ∧ ((0 : Int) = if mayG H N = Bool.true then (addB (spOf L H N) f n).H 117 else (0 : Int)) ∧ ((0 : Int) = if mayG H N = Bool.true then (addB (spOf L H N) f n).H 118 else (0 : Int)) ∧ ((0 : Int) = if mayG H N = Bool.true then (addB (spOf L H N) f n).H 119 else (0 : Int)) ∧ ((0 : Int) = if mayG H N = Bool.true then (addB (spOf L H N) f n).H 120 else (0 : Int)) ∧ ((0 : Int) = if mayG H N = Bool.true then (addB (spOf L H N) f n).H 121 else (0 : Int)) ∧ ((0 : Int) = if mayG H N = Bool.true then (addB (spOf L H N) f n).H 122 else (0 : Int)) ∧ ((0 : Int) = if mayG H N = Bool.true then (addB (spOf L H N) f n).H 123 else (0 : Int)) ∧ ((0 : Int) = if mayG H N = Bool.true then (addB (spOf L H N) f n).H 124 else (0 : Int)) ∧ ((0 : Int) = if mayG H N = Bool.true then (addB (spOf L H N) f n).H 125 else (0 : Int)) ∧ ((0 : Int) = if mayG H N = Bool.true then (addB (spOf L H N) f n).H 126 else (0 : Int)) ∧ ((0 : Int) = if mayG H N = Bool.true then (addB (spOf L H N) f n).H 127 else (0 : Int)) ∧ ((0 : Int) = if mayG H N = Bool.true then (addB (spOf L H N) f n).H 128 else (0 : Int)) ∧ ((0 : Int) = if mayG H N = Bool.true then (addB (spOf L H N) f n).H 129 else (0 : Int)) ∧ ((0 : Int) = if mayG H N = Bool.true then (addB (spOf L H N) f n).H 130 else (0 : Int)) ∧ ((0 : Int) = if mayG H N = Bool.true then (addB (spOf L H N) f n).H 131 else (0 : Int)) ∧ ((0 : Int) = if mayG H N = Bool.true then (addB (spOf L H N) f n).H 132 else (0 : Int)) ∧ ((0 : Int) = if mayG H N = Bool.true then (addB (spOf L H N) f n).H 133 else (0 : Int)) ∧ ((0 : Int) = if mayG H N = Bool.true then (addB (spOf L H N) f n).H 134 else (0 : Int)) ∧ ((0 : Int) = if mayG H N = Bool.true then (addB (spOf L H N) f n).H 135 else (0 : Int)) ∧ (0 : Int) = x1 ∧ True) ∧ (12 : Int) = x2) ∧ ((!mayG H N) = Bool.false → (∀ (y : Nat × Option Go.Addr × Nat), closedB (slotsAt 34 [(1, SV.one (sXs y.snd.fst (n - y.fst) y.snd.snd fun (i : Nat) => f (y.fst + i))), (2, SV.one (SA.sc (SC.ptr 0 0))), (4, SV.one (SA.sc (SC.ptr 1 0))), (5, SV.one (SA.sc (SC.num Go.IntKind.i64 (0 : Int))))]) [SO.cells (124 : Go.TypeId) [SK.f Go.IntKind.u64 25 fun (i : Nat) => lw ((addB (spOf L H N) f y.fst).a i), SK.f Go.IntKind.u8 136 (addB (spOf L H N) f y.fst).H, SK.c (SC.val (Go.Value.int Go.IntKind.i64 (↑(addB (spOf L H N) f y.fst).n : Int)))] 0, SO.cells (124 : Go.TypeId) (List.replicate 25 (SK.c (SC.num Go.IntKind.u64 (0 : Int))) ++ List.replicate 136 (SK.c (SC.num Go.IntKind.u8 (0 : Int))) ++ [SK.c (SC.num Go.IntKind.i64 (0 : Int))]) 0] = Bool.true) ∧ ∃ (y : Nat × Option Go.Addr × Nat), (mayG H N = Bool.true ∧ y.fst ≤ n) ∧ (a = y.snd.fst ∧ n = n - y.fst ∧ cap = y.snd.snd ∧ ∀ (i : Nat), i < n → f i = f (y.fst + i)) ∧ ((∀ (j : Nat), j < 25 → L j = lw ((addB (spOf L H N) f y.fst).a j)) ∧ (∀ (j : Nat), j < 136 → H j = (addB (spOf L H N) f y.fst).H j) ∧ N = (↑(addB (spOf L H N) f y.fst).n : Int) ∧ True) ∧ 0 = 0 ∧ 0 = 0 ∧ ∀ (y : Nat × Option Go.Addr × Nat), mayG H N = Bool.true ∧ y.fst ≤ n → (Decidable.decide ((↑(n - y.fst) : Int) > (0 : Int)) = Bool.true → ((0 : Int) ≤ (↑(addB (spOf L H N) f y.fst).n : Int) ∧ (↑(addB (spOf L H N) f y.fst).n : Int) < (136 : Int)) ∧ (↑(addB (spOf L H N) f y.fst).n : Int).toNat ≤ 136 ∧ (∀ (j : Nat), True) ∧ ((0 : Int) ≤ (↑((n - y.fst).min (136 - (↑(addB (spOf L H N) f y.fst).n : Int).toNat)) : Int) ∧ (↑((n - y.fst).min (136 - (↑(addB (spOf L H N) f y.fst).n : Int).toNat)) : Int) ≤ (↑(n - y.fst) : Int) ∧ (↑(n - y.fst) : Int) ≤ (↑(n - y.fst) : Int)) ∧ ((Go.IntKind.i64.wrap ((↑(addB (spOf L H N) f y.fst).n : Int) + (↑((n - y.fst).min (136 - (↑(addB (spOf L H N) f y.fst).n : Int).toNat)) : Int)) == (136 : Int)) = Bool.true → (∀ (i : Nat), i < 25 → (0 : Int) ≤ lw ((addB (spOf L H N) f y.fst).a i) ∧ lw ((addB (spOf L H N) f y.fst).a i) < (18446744073709551616 : Int)) ∧ ∃ (y' : Nat × Option Go.Addr × Nat), (mayG H N = Bool.true ∧ y'.fst ≤ n) ∧ (adS y.snd.snd (↑((n - y.fst).min (136 - (↑(addB (spOf L H N) f y.fst).n : Int).toNat)) : Int).toNat 1 y.snd.fst = y'.snd.fst ∧ n - y.fst - (↑((n - y.fst).min (136 - (↑(addB (spOf L H N) f y.fst).n : Int).toNat)) : Int).toNat = n - y'.fst ∧ y.snd.snd - (↑((n - y.fst).min (136 - (↑(addB (spOf L H N) f y.fst).n : Int).toNat)) : Int).toNat = y'.snd.snd ∧ ∀ (i : Nat), i < n - y.fst - (↑((n - y.fst).min (136 - (↑(addB (spOf L H N) f y.fst).n : Int).toNat)) : Int).toNat → f (y.fst + ((↑((n - y.fst).min (136 - (↑(addB (spOf L H N) f y.fst).n : Int).toNat)) : Int).toNat + i)) = f (y'.fst + i)) ∧ ((∀ (j : Nat), j < 25 → lw (soakB (ofRow fun (i : Nat) => lw ((addB (spOf L H N) f y.fst).a i)) (fun (j : Nat) => if (↑(addB (spOf L H N) f y.fst).n : Int).toNat ≤ j ∧ j < (↑(addB (spOf L H N) f y.fst).n : Int).toNat + (n - y.fst).min (136 - (↑(addB (spOf L H N) f y.fst).n : Int).toNat) then f (y.fst + (j - (↑(addB (spOf L H N) f y.fst).n : Int).toNat)) else (addB (spOf L H N) f y.fst).2 j) j) = lw ((addB (spOf L H N) f y'.fst).a j)) ∧ (∀ (j : Nat), j < 136 → (0 : Int) = (addB (spOf L H N) f y'.fst).H j) ∧ (0 : Int) = (↑(addB (spOf L H N) f y'.fst).n : Int) ∧ True) ∧ 0 = 0 ∧ 0 = 0 ∧ n - y'.fst < n - y.fst) ∧ ((Go.IntKind.i64.wrap ((↑(addB (spOf L H N) f y.fst).n : Int) + (↑((n - y.fst).min (136 - (↑(addB (spOf L H N) f y.fst).n : Int).toNat)) : Int)) == (136 : Int)) = Bool.false → ∃ (y' : Nat × Option Go.Addr × Nat), (mayG H N = Bool.true ∧ y'.fst ≤ n) ∧ (adS y.snd.snd (↑((n - y.fst).min (136 - (↑(addB (spOf L H N) f y.fst).n : Int).toNat)) : Int).toNat 1 y.snd.fst = y'.snd.fst ∧ n - y.fst - (↑((n - y.fst).min (136 - (↑(addB (spOf L H N) f y.fst).n : Int).toNat)) : Int).toNat = n - y'.fst ∧ y.snd.snd - (↑((n - y.fst).min (136 - (↑(addB (spOf L H N) f y.fst).n : Int).toNat)) : Int).toNat = y'.snd.snd ∧ ∀ (i : Nat), i < n - y.fst - (↑((n - y.fst).min (136 - (↑(addB (spOf L H N) f y.fst).n : Int).toNat)) : Int).toNat → f (y.fst + ((↑((n - y.fst).min (136 - (↑(addB (spOf L H N) f y.fst).n : Int).toNat)) : Int).toNat + i)) = f (y'.fst + i)) ∧ ((∀ (j : Nat), j < 25 → lw ((addB (spOf L H N) f y.fst).a j) = lw ((addB (spOf L H N) f y'.fst).a j)) ∧ (∀ (j : Nat), j < 136 → (if (↑(addB (spOf L H N) f y.fst).n : Int).toNat ≤ j ∧ j < (↑(addB (spOf L H N) f y.fst).n : Int).toNat + (n - y.fst).min (136 - (↑(addB (spOf L H N) f y.fst).n : Int).toNat) then f (y.fst + (j - (↑(addB (spOf L H N) f y.fst).n : Int).toNat)) else (addB (spOf L H N) f y.fst).2 j) = (addB (spOf L H N) f y'.fst).H j) ∧ Go.IntKind.i64.wrap ((↑(addB (spOf L H N) f y.fst).n : Int) + (↑((n - y.fst).min (136 - (↑(addB (spOf L H N) f y.fst).n : Int).toNat)) : Int)) = (↑(addB (spOf L H N) f y'.fst).n : Int) ∧ True) ∧ 0 = 0 ∧ 0 = 0 ∧ n - y'.fst < n - y.fst)) ∧ (Decidable.decide ((↑(n - y.fst) : Int) > (0 : Int)) = Bool.false → ((∀ (j : Nat), j < 25 → lw ((addB (spOf L H N) f y.fst).a j) = if mayG H N = Bool.true then lw ((addB (spOf L H N) f n).a j) else (0 : Int)) ∧ (∀ (j : Nat), j < 136 → (addB (spOf L H N) f y.fst).H j = if mayG H N = Bool.true then (addB (spOf L H N) f n).H j else (0 : Int)) ∧ (↑(addB (spOf L H N) f y.fst).n : Int) = x1 ∧ True) ∧ (0 : Int) = x2))) := by kernel_rfl
end Go.Proofs.YtohnkglcabfpjaaGreatDoor
end

section
namespace Go.Proofs.YtohnkglcabfpjaaGreatDoor
open Go Go.Sx Go.RowKit
theorem pushB_lt {s : Sp} (h : s.n < 136) (b : Int) : (pushB s b).n < 136 := by
  unfold pushB
  split
  · exact Nat.zero_lt_succ _
  · simp only; omega
theorem addB_lt {s : Sp} (h : s.n < 136) (f : Nat → Int) : ∀ p, (addB s f p).n < 136
  | 0 => h
  | p + 1 => pushB_lt (addB_lt h f p) _
theorem addB_add (s : Sp) (f : Nat → Int) (p : Nat) : ∀ m, addB (addB s f p) (fun i => f (p + i)) m = addB s f (p + m)
  | 0 => rfl
  | m + 1 => by
    show pushB _ _ = pushB _ _
    rw [addB_add s f p m]
    rfl
theorem addB_held (t : Sp) (g : Nat → Int) : ∀ m, t.n + m < 136 → addB t g m = ⟨t.a, fun j => if t.n ≤ j ∧ j < t.n + m then g (j - t.n) else t.H j, t.n + m⟩
  | 0, _ => by
    have : (fun j => if t.n ≤ j ∧ j < t.n + 0 then g (j - t.n) else t.H j) = t.H := by
      funext j
      rw [if_neg (by omega)]
    rw [this]; rfl
  | m + 1, h => by
    show pushB _ _ = _
    rw [addB_held t g m (by omega)]
    unfold pushB
    simp only
    rw [if_neg (by omega)]
    congr 1
    funext j
    by_cases e : j = t.n + m
    · subst e
      rw [if_pos rfl, if_pos (by omega)]
      congr 1; omega
    · rw [if_neg e]
      by_cases c : t.n ≤ j ∧ j < t.n + m
      · rw [if_pos c, if_pos (by omega)]
      · rw [if_neg c, if_neg (by omega)]
theorem addB_full (t : Sp) (g : Nat → Int) {m : Nat} (hn : t.n < 136) (h : t.n + m = 136) : addB t g m = ⟨soakB t.a (fun j => if t.n ≤ j ∧ j < t.n + m then g (j - t.n) else t.H j), fun _ => 0, 0⟩ := by
  match m, h with
  | 0, h => omega
  | m + 1, h =>
    show pushB _ _ = _
    rw [addB_held t g m (by omega)]
    unfold pushB
    simp only
    rw [if_pos (by omega)]
    congr 2
    funext j
    by_cases e : j = t.n + m
    · subst e
      rw [if_pos rfl, if_pos (by omega)]
      congr 1; omega
    · rw [if_neg e]
      by_cases c : t.n ≤ j ∧ j < t.n + m
      · rw [if_pos c, if_pos (by omega)]
      · rw [if_neg c, if_neg (by omega)]
theorem may_lt {L H : Nat → Int} {N : Int} (h : mayG H N = true) : (spOf L H N).n < 136 := by
  obtain ⟨⟨h1, h2⟩, _⟩ := (mayG_iff H N).1 h
  show N.toNat < 136
  omega
theorem ok_kAdd (L H : Nat → Int) (N : Int) (a : Option Addr) (n cap : Nat) (f : Nat → Int) (hL : lanes 25 L) :
    Owes Tryz.prog cxEnd [(3, .inv (invAdd L H N n f))] 10 Tryz.f75 [sSp L H N, sXs a n cap f] (kAddG L H N n f) := by
  rw [vc_kAdd]
  intro x1 x2
  refine ⟨fun hm => ?_, fun hm => ?_⟩
  · have hm : mayG H N = false := by simpa using hm
    simp only [x1, x2, hm, Bool.false_eq_true, if_false, and_self]
  · have hm : mayG H N = true := by simpa using hm
    obtain ⟨⟨hN1, hN2⟩, _⟩ := (mayG_iff H N).1 hm
    refine ⟨fun y => rfl, (0, a, cap), ⟨hm, Nat.zero_le _⟩, ⟨rfl, rfl, rfl, fun i _ => by simp only [Nat.zero_add]⟩, ⟨fun j hj => (lw_ofRow hL hj).symm, fun _ _ => rfl, ?_, trivial⟩, rfl, rfl, ?_⟩
    · show N = ((N.toNat : Nat) : Int)
      omega
    rintro ⟨p, ad, cp⟩ ⟨_, hp⟩
    simp only at hp ⊢
    have htl : (addB (spOf L H N) f p).n < 136 := addB_lt (may_lt hm) f p
    refine ⟨fun hlt => ?_, fun hge => ?_⟩
    · have hlt : 0 < ((n - p : Nat) : Int) := of_decide_eq_true hlt
      have hadd := addB_add (spOf L H N) f p
      generalize ht : addB (spOf L H N) f p = t at *
      generalize hq : (n - p).min (136 - ((t.n : Nat) : Int).toNat) = q
      have hq1 : q ≤ n - p := by rw [← hq]; exact Nat.min_le_left _ _
      have hq2 : q ≤ 136 - t.n := by rw [← hq]; exact Nat.min_le_right _ _
      have hq3 : q ≠ 0 := by
        rw [← hq]
        have : 0 < (n - p).min (136 - ((t.n : Nat) : Int).toNat) := Nat.lt_min.2 ⟨by omega, by omega⟩
        omega
      refine ⟨⟨by omega, by omega⟩, by omega, fun _ => trivial, ⟨by omega, by omega, by omega⟩, fun hf => ?_, fun hf => ?_⟩
      · have hf : IntKind.i64.wrap ((t.n : Int) + (q : Int)) = 136 := by simpa using hf
        rw [wrap_small (by omega)] at hf
        have hfull := addB_full t (fun i => f (p + i)) htl (m := q) (by omega)
        rw [hadd q] at hfull
        refine ⟨lanes_lw _ _, (p + q, _, _), ⟨hm, by simp only; omega⟩, ⟨rfl, by simp only [Int.toNat_natCast]; omega, rfl, fun i _ => by simp only [Int.toNat_natCast, Nat.add_assoc]⟩, ⟨fun j _ => ?_, fun j _ => ?_, ?_, trivial⟩, trivial, trivial, by simp only; omega⟩
        · simp only [hfull, ofRow_lw, Int.toNat_natCast]
        · simp only [hfull]
        · simp only [hfull]; rfl
      · have hf : IntKind.i64.wrap ((t.n : Int) + (q : Int)) ≠ 136 := by simpa using hf
        rw [wrap_small (by omega)] at hf
        have hheld := addB_held t (fun i => f (p + i)) q (by omega)
        rw [hadd q] at hheld
        refine ⟨(p + q, _, _), ⟨hm, by simp only; omega⟩, ⟨rfl, by simp only [Int.toNat_natCast]; omega, rfl, fun i _ => by simp only [Int.toNat_natCast, Nat.add_assoc]⟩, ⟨fun j _ => ?_, fun j _ => ?_, ?_, trivial⟩, trivial, trivial, by simp only; omega⟩
        · simp only [hheld]
        · simp only [hheld, Int.toNat_natCast]
        · simp only [hheld]; rw [wrap_small (by omega)]; omega
    · have hge : ¬ 0 < ((n - p : Nat) : Int) := of_decide_eq_false hge
      have : p = n := by omega
      subst this
      simp only [x1, x2, hm, if_true, and_self, implies_true]
theorem bnd_row (k : IntKind) (m : Nat) (g : Nat → Int) (n : Env) : (sRow k m g).bnd n := by
  intro x hx; simp only [List.mem_singleton] at hx; subst hx; trivial
theorem card_kAdd : FnOKg Tryz.prog glK 75 (specSpB (fun L _ _ _ _ => [lanes 25 L]) kAddG) :=
  FnOK_SpB (cx := cxEnd) (iv := fun L H N _ n _ f => [(3, .inv (invAdd L H N n f))]) (by
    refine ⟨fun p hp => ?_, fun _ h => (by cases h)⟩
    simp only [cxEnd, List.mem_cons, List.not_mem_nil, or_false] at hp
    rcases hp with rfl | rfl | rfl
    · exact card_kMay
    · exact card_soak
    · exact card_first) Tryz.func75 (by kernel_rfl) (by kernel_rfl) (fun _ _ _ _ _ => by
    intro x hx
    simp only [List.mem_cons, List.not_mem_nil, or_false] at hx
    rcases hx with rfl | rfl
    · exact bnd_sSp _ _ _ _
    · trivial) fun L H N a n cap f hc => ok_kAdd L H N a n cap f hc.1
theorem absB_congr {a : Nat → BitVec 64} {H H' : Nat → Int} : ∀ {m : Nat}, (∀ j, j < m → H j = H' j) → absB a H m = absB a H' m
  | 0, _ => rfl
  | m + 1, h => by
    have ih := absB_congr (a := a) (m := m) (fun j hj => h j (by omega))
    simp only [absB, ih, h m (by omega)]
theorem soakB_congr {a : Nat → BitVec 64} {H H' : Nat → Int} (h : ∀ j, j < 136 → H j = H' j) : soakB a H = soakB a H' := by
  unfold soakB; rw [absB_congr h]
set_option maxRecDepth 100000 in
theorem ok_End (L H : Nat → Int) (N : Int) (hL : lanes 25 L) : Owes Tryz.prog cxEnd [] 10 Tryz.f77 [sSp L H N] (endG L H N) := by
  rw [vc_End]
  generalize hW : endB (spOf L H N) = W
  intro x1 x2
  constructor <;> intro hm
  · have hm : mayG H N = false := by simpa using hm
    simp only [x1, hm, Bool.false_eq_true, if_false, and_self]
  · have hm : mayG H N = true := by simpa using hm
    obtain ⟨⟨hN1, hN2⟩, _⟩ := (mayG_iff H N).1 hm
    refine ⟨⟨hN1, hN2⟩, ⟨hN1, hN2⟩, ⟨hN1, hN2⟩, ⟨hN1, hN2⟩, hL, ⟨fun j _ => ?_, trivial⟩, by simp only [x1, hm, if_true]⟩
    refine Eq.trans ?_ (if_pos hm).symm
    rw [← hW]
    refine congrArg (fun F => firstG F j) (funext fun i => congrArg (fun F => lw (F i)) (soakB_congr (a := ofRow L) (H' := padB H N.toNat) fun j hj => ?_))
    simp only [intsL]
    by_cases e : j = 135
    · subst e
      rw [List.getD_eq_getElem?_getD, List.getElem?_append_right (by simp)]
      simp only [List.length_map, List.length_range, Nat.sub_self, List.getElem?_cons_zero, Option.getD_some]
      simp only [intsC, asI, padB, if_true, pad1, x2]
      by_cases e2 : 135 = N.toNat
      · rw [if_pos e2, if_pos e2, e2]
      · rw [if_neg e2, if_neg e2]
    · rw [List.getD_eq_getElem?_getD, List.getElem?_append_left (by simp; omega), List.getElem?_map, List.getElem?_range (by omega)]
      simp only [Option.map_some, Option.getD_some, padB, e, if_false, pad1, x2]
      by_cases e2 : j = N.toNat
      · rw [if_pos e2, if_pos e2, e2]
      · rw [if_neg e2, if_neg e2]
theorem card_End : FnOKg Tryz.prog glK 77 (specSp (fun L _ _ => [lanes 25 L]) endG) :=
  FnOK_Sp (cx := cxEnd) (iv := fun _ _ _ => []) (by
    refine ⟨fun p hp => ?_, fun _ h => (by cases h)⟩
    simp only [cxEnd, List.mem_cons, List.not_mem_nil, or_false] at hp
    rcases hp with rfl | rfl | rfl
    · exact card_kMay
    · exact card_soak
    · exact card_first) Tryz.func77 (by kernel_rfl) (by kernel_rfl) (fun _ _ _ => by
    intro x hx
    simp only [List.mem_cons, List.not_mem_nil, or_false] at hx
    rcases hx with rfl | rfl
    · exact bnd_row _ _ _ _
    · trivial) fun L H N hc => ok_End L H N hc.1
theorem spOf_lw (t : Sp) : spOf (fun i => lw (t.a i)) t.H (t.n : Int) = t := by
  unfold spOf
  rw [ofRow_lw]
  rfl
theorem mayG_sp {t : Sp} (h1 : t.n < 136) (h2 : ∀ j, t.n ≤ j → j < 136 → t.H j = 0) : mayG t.H (t.n : Int) = true := by
  rw [mayG_iff]
  exact ⟨⟨by omega, by omega⟩, fun j hj => h2 _ (by omega) hj⟩
def clean (t : Sp) : Prop := t.n < 136 ∧ ∀ j, t.n ≤ j → j < 136 → t.H j = 0
theorem pushB_clean {t : Sp} (h : clean t) (b : Int) : clean (pushB t b) := by
  unfold pushB
  split
  · exact ⟨Nat.zero_lt_succ _, fun j _ _ => rfl⟩
  · refine ⟨by have := h.1; simp only; omega, fun j hj hj2 => ?_⟩
    simp only at hj ⊢
    rw [if_neg (by omega)]
    exact h.2 j (by omega) hj2
theorem addB_clean {t : Sp} (h : clean t) (f : Nat → Int) : ∀ m, clean (addB t f m)
  | 0 => h
  | m + 1 => pushB_clean (addB_clean h f m) _
theorem may_clean {t : Sp} (h : clean t) : mayG t.H (t.n : Int) = true := mayG_sp h.1 h.2
def addM (L H : Nat → Int) (N : Int) (n : Nat) (f : Nat → Int) : SV := .tup [sSp (fun i => lw ((addB (spOf L H N) f n).a i)) (addB (spOf L H N) f n).H ((addB (spOf L H N) f n).n : Int), .sc (.num .i64 0)]
def endM (L H : Nat → Int) (N : Int) : SV := .tup [sRow .u8 32 (endB (spOf L H N)), .sc (.num .i64 0)]
def cAddM : FSpec := specSpB (fun L H N _ _ => [lanes 25 L, mayG H N = true]) addM
def cEndM : FSpec := specSp (fun L H N => [lanes 25 L, mayG H N = true]) endM
theorem card_AddM : FnOKg Tryz.prog glK 75 cAddM := by
  refine FnOKg_weak card_kAdd fun args ps sv' hs hp => ?_
  unfold cAddM specSpB at hs
  split at hs
  · rename_i x y
    split at hs
    · rename_i L H N ps' a n cap f hx hy
      simp only [Option.some.injEq, Prod.mk.injEq] at hs
      obtain ⟨rfl, rfl⟩ := hs
      obtain ⟨o1, o2, o3, _⟩ := Ok.append.1 hp
      refine ⟨?_, ps' ++ [lanes 25 L], kAddG L H N n f, by simp only [specSpB, hx, hy], Ok.append.2 ⟨o1, o2, trivial⟩, fun ρ v hv => ?_⟩
      · intro z hz
        simp only [List.mem_cons, List.not_mem_nil, or_false] at hz
        rcases hz with rfl | rfl
        · exact bnd_sSp _ _ _ _
        · trivial
      · have e : kAddG L H N n f = .tup [sSp (fun i => lw ((addB (spOf L H N) f n).a i)) (addB (spOf L H N) f n).H ((addB (spOf L H N) f n).n : Int), sI .i64 0] := by simp only [kAddG, o3, if_true]
        rw [e] at hv
        exact hv
    · cases hs
  · cases hs
theorem card_EndM : FnOKg Tryz.prog glK 77 cEndM := by
  refine FnOKg_weak card_End fun args ps sv' hs hp => ?_
  unfold cEndM specSp at hs
  split at hs
  · rename_i x
    split at hs
    · rename_i L H N hx
      simp only [Option.some.injEq, Prod.mk.injEq] at hs
      obtain ⟨rfl, rfl⟩ := hs
      obtain ⟨o2, o3, _⟩ := hp
      refine ⟨?_, [lanes 25 L], endG L H N, by simp only [specSp, hx], ⟨o2, trivial⟩, fun ρ v hv => ?_⟩
      · intro z hz
        simp only [List.mem_cons, List.not_mem_nil, or_false] at hz
        rcases hz with rfl | rfl
        · exact bnd_row _ _ _ _
        · trivial
      · have e : endG L H N = .tup [sRow .u8 32 (endB (spOf L H N)), sI .i64 0] := by simp only [endG, o3, if_true]
        rw [e] at hv
        exact hv
    · cases hs
  · cases hs
end Go.Proofs.YtohnkglcabfpjaaGreatDoor
end

section
namespace Go.Sx
open Go.RowKit
def sp0 : Sp := ⟨fun _ => 0, fun _ => 0, 0⟩
def sumB (n : Nat) (f : Nat → Int) (j : Nat) : Int := endB (addB sp0 f n) j
end Go.Sx
end

section
namespace Go.Proofs.YtohnkglcabfpjaaGreatDoor
open Go Go.Sx Go.RowKit
def cxKSum : Cx := ⟨[(75, cAddM), (77, cEndM)], glK, 0, []⟩
def kSumG (n : Nat) (f : Nat → Int) : SV := .one (sRow .u8 32 (sumB n f))
theorem vc_Sum (a : Option Addr) (n cap : Nat) (f : Nat → Int) :
    Owes Tryz.prog cxKSum [] 10 Tryz.f51 [sXs a n cap f] (kSumG n f) =
    (let x1 : Int := (↑(addB (spOf (fun (x : Nat) => (0 : Int)) (fun (x : Nat) => (0 : Int)) (0 : Int)) (fun (j : Nat) => f j) n).n : Int); (∀ (j : Nat), True) ∧ (∀ (i : Nat), i < 25 → (0 : Int) ≤ (0 : Int) ∧ (0 : Int) < (18446744073709551616 : Int)) ∧ mayG (fun (x : Nat) => (0 : Int)) (0 : Int) = Bool.true ∧ (∀ (i : Nat), i < 25 → (0 : Int) ≤ lw ((addB (spOf (fun (x : Nat) => (0 : Int)) (fun (x : Nat) => (0 : Int)) (0 : Int)) (fun (j : Nat) => f j) n).a i) ∧ lw ((addB (spOf (fun (x : Nat) => (0 : Int)) (fun (x : Nat) => (0 : Int)) (0 : Int)) (fun (j : Nat) => f j) n).a i) < (18446744073709551616 : Int)) ∧ mayG (addB (spOf (fun (x : Nat) => (0 : Int)) (fun (x : Nat) => (0 : Int)) (0 : Int)) (fun (j : Nat) => f j) n).2 x1 = Bool.true ∧ (∀ (j : Nat), j < 32 → endB (spOf (fun (i : Nat) => lw ((addB (spOf (fun (x : Nat) => (0 : Int)) (fun (x : Nat) => (0 : Int)) (0 : Int)) (fun (j : Nat) => f j) n).a i)) (addB (spOf (fun (x : Nat) => (0 : Int)) (fun (x : Nat) => (0 : Int)) (0 : Int)) (fun (j : Nat) => f j) n).2 x1) j = sumB n f j) ∧ True) := by kernel_rfl
end Go.Proofs.YtohnkglcabfpjaaGreatDoor
end

section
namespace Go.Proofs.YtohnkglcabfpjaaGreatDoor
open Go Go.Sx Go.RowKit
theorem sp0_eq : spOf (fun _ => 0) (fun _ => 0) 0 = sp0 := by
  unfold spOf sp0
  congr 1
theorem sp0_clean : clean sp0 := ⟨(by decide : (0 : Nat) < 136), fun j _ _ => (rfl : sp0.H j = 0)⟩
theorem may_zero : mayG (fun _ => 0) 0 = true := by
  rw [mayG_iff]
  exact ⟨⟨by omega, by omega⟩, fun _ _ => rfl⟩
theorem ok_Sum (a : Option Addr) (n cap : Nat) (f : Nat → Int) : Owes Tryz.prog cxKSum [] 10 Tryz.f51 [sXs a n cap f] (kSumG n f) := by
  rw [vc_Sum]
  intro x1
  have e0 : spOf (fun _ => 0) (fun _ => 0) 0 = sp0 := sp0_eq
  simp only [x1, e0, spOf_lw]
  exact ⟨fun _ => trivial, fun _ _ => ⟨by omega, by omega⟩, may_zero, lanes_lw _ _, may_clean (addB_clean sp0_clean _ _), fun _ _ => rfl, trivial⟩
theorem card_Sum : FnOKg Tryz.prog glK 51 (specBs (fun _ _ => []) kSumG) :=
  FnOK_Bs (cx := cxKSum) (iv := fun _ _ _ _ => []) (N := 10) (by
    refine ⟨fun p hp => ?_, fun _ h => (by cases h)⟩
    simp only [cxKSum, List.mem_cons, List.not_mem_nil, or_false] at hp
    rcases hp with rfl | rfl
    · exact card_AddM
    · exact card_EndM) Tryz.func51 (by kernel_rfl) (by kernel_rfl) (fun _ _ => bnd_row _ _ _ _) fun a n cap f _ => ok_Sum a n cap f
end Go.Proofs.YtohnkglcabfpjaaGreatDoor
end

section
namespace Go.Proofs.YtohnkglcabfpjaaGreatDoor
open Go.Sx
set_option maxRecDepth 100000
def trF (d : Nat) (g : Nat → Int) (t : Int) (j : Nat) : Int := (intsL [SK.f .u8 32 fun j => by8 d (31 - j), SK.f .u8 32 g, SK.c (SC.val (.int .u8 (IntKind.u8.wrap t)))]).getD j 0
def numN (d : Nat) (g : Nat → Int) (t : Int) : Nat := if 256 ≤ t then (t - 255).toNat else fromN (fun j => endB (addB sp0 (fun j => trF d g t j) 65) j) 32
def numC : List (List At) → List Prop
  | [[.u _], [.y 32 g], [.i t]] => [byteOK 32 g, 0 ≤ t ∧ t ≤ 271]
  | _ => [False]
def numbG (num : Nat → (Nat → Int) → Int → Nat) : List (List At) → SV
  | [[.u d], [.y 32 g], [.i t]] => .one (sU (num d g t))
  | _ => .tup []
def cNum (num : Nat → (Nat → Int) → Int → Nat) : FSpec := specA [.str [.u], .str [.y 32], .int .i64] numC (numbG num)
def cxNum : Cx := ⟨[(50, specU bytesG), (51, specBs (fun _ _ => []) kSumG), (18, specB fromG)], glK, 0, []⟩
def oaddN (n a b : Nat) : Nat := if fE a b n = 0 then (a % M256 + b % M256) % (n % M256) else 0
def oAddG (n a b : Nat) : SV := .one (sU (oaddN n a b))
def cxOAdd : Cx := [(79, specUUU noC faddG)]
def oddO (n x y : Nat) : Int := ((y % M256 % 2 : Nat) : Int) + if n % M256 ≤ x % M256 then 2 else 0
def oddC : List (List At) → List Prop
  | [[.u _], [.u _, .u _, .b _]] => []
  | _ => [False]
def oddOG : List (List At) → SV
  | [[.u n], [.u x, .u y, .b _]] => .one (sI .i64 (oddO n x y))
  | _ => .tup []
def cOdd : FSpec := specA [.str [.u], .str pPt] oddC oddOG
def lowS (n S : Nat) : Nat := if highB n S = true then minN n S else S
def lowO (n S : Nat) (o : Int) : Int := if highB n S = true then o + 1 - 2 * (o % 2) else o
def lowC : List (List At) → List Prop
  | [[.u _], [.u _, .u _, .i o]] => [0 ≤ o ∧ o ≤ 3]
  | _ => [False]
def lowG : List (List At) → SV
  | [[.u n], [.u R, .u S, .i o]] => .one (sSg R (lowS n S) (lowO n S o))
  | _ => .tup []
def cLow : FSpec := specA [.str [.u], .str pSg] lowC lowG
def cxOdd : Cx := [(16, specUU cmpG)]
def cxLow : Cx := [(56, specUU oHighG), (36, specUU minG)]
def swP (P A : Nat) (b : Pt) (k : Nat) : Pt := cmulR P A (k % M256) b 256
def swR (P A N : Nat) (b : Pt) (k : Nat) : Nat := restN N (swP P A b k).1
def swS (P A N : Nat) (b : Pt) (k d : Nat) (g : Nat → Int) : Nat := mulN N (oinvN N k) (oaddN N (restN N (fromN g 32)) (mulN N (swR P A N b k) d))
def swE (P A N : Nat) (b : Pt) (k d : Nat) (g : Nat → Int) : Int :=
  if k % M256 = 0 then 5 else if ((swP P A b k).2.2 || (swR P A N b k % M256 == 0)) = true then 5 else if oinvE N k = 0 then if swS P A N b k d g % M256 = 0 then 5 else 0 else oinvE N k
def swA (P A N : Nat) (b : Pt) (k d : Nat) (g : Nat → Int) : Nat × Nat × Int :=
  if swE P A N b k d g = 0 then (swR P A N b k, lowS N (swS P A N b k d g), lowO N (swS P A N b k d g) (oddO N (swP P A b k).1 (swP P A b k).2.1)) else (0, 0, 0)
structure swOK (P A B N : Nat) (b : Pt) (k : Nat) (g : Nat → Int) : Prop where
  good : goodP P A B (N % M256) b
  m1 : k % M256 ≠ 0 → mulOK P A (k % M256) b
  b32 : byteOK 32 g
def sgS (p : Nat × Nat × Int) : SA := sSg p.1 p.2.1 p.2.2
def swC : List (List At) → List Prop
  | [[.u P, .u A, .u B, .u N, .u X, .u Y, .b F], [.u k], [.u _], [.y 32 g]] => [swOK (P % M256) (A % M256) (B % M256) N (red X Y F) k g]
  | _ => [False]
def swG : List (List At) → SV
  | [[.u P, .u A, .u _, .u N, .u X, .u Y, .b F], [.u k], [.u d], [.y 32 g]] => .tup [sgS (swA (P % M256) (A % M256) N (red X Y F) k d g), sI .i64 (swE (P % M256) (A % M256) N (red X Y F) k d g)]
  | _ => .tup []
def cSw : FSpec := specA [.str pCv, .str [.u], .str [.u], .str [.y 32]] swC swG
def cxSw : Cx := [(26, cMultS'), (27, specUU oRestG), (34, specUU oinvG), (38, cOfSum), (37, specUUU noC oMulG), (53, specUUU noC oAddG), (55, cOdd), (54, cLow)]
def firstT (e : Nat → Int) : Nat → Nat → Option Nat
  | 0, _ => none
  | n + 1, i => if e i = 5 then firstT e n (i + 1) else some i
def tryK (num : Nat → (Nat → Int) → Int → Nat) (N d : Nat) (g : Nat → Int) (i : Nat) : Nat := restN N (num d g (i : Int))
def tryE (num : Nat → (Nat → Int) → Int → Nat) (P A N : Nat) (b : Pt) (d : Nat) (g : Nat → Int) (i : Nat) : Int := swE P A N b (tryK num N d g i) d g
def tryA (num : Nat → (Nat → Int) → Int → Nat) (P A N : Nat) (b : Pt) (d : Nat) (g : Nat → Int) (i : Nat) : Nat × Nat × Int := swA P A N b (tryK num N d g i) d g
def mkE (num : Nat → (Nat → Int) → Int → Nat) (P A N : Nat) (b : Pt) (d : Nat) (g : Nat → Int) : Int := match firstT (tryE num P A N b d g) 272 0 with
  | some i => tryE num P A N b d g i
  | none => 5
def mkA (num : Nat → (Nat → Int) → Int → Nat) (P A N : Nat) (b : Pt) (d : Nat) (g : Nat → Int) : Nat × Nat × Int := match firstT (tryE num P A N b d g) 272 0 with
  | some i => tryA num P A N b d g i
  | none => (0, 0, 0)
structure mkOK (P A B N : Nat) (b : Pt) (d : Nat) (g : Nat → Int) : Prop where
  good : goodP P A B (N % M256) b
  sec : secB N d = true
  b32 : byteOK 32 g
  m1 : ∀ v, mulOK P A (restN N v % M256) b
def mkC : List (List At) → List Prop
  | [[.u P, .u A, .u B, .u N, .u X, .u Y, .b F], [.u d], [.y 32 g]] => [mkOK (P % M256) (A % M256) (B % M256) N (red X Y F) d g]
  | _ => [False]
def mkG (a : Nat → Nat → Nat → Pt → Nat → (Nat → Int) → Nat × Nat × Int) (e : Nat → Nat → Nat → Pt → Nat → (Nat → Int) → Int) : List (List At) → SV
  | [[.u P, .u A, .u _, .u N, .u X, .u Y, .b F], [.u d], [.y 32 g]] => .tup [sgS (a (P % M256) (A % M256) N (red X Y F) d g), sI .i64 (e (P % M256) (A % M256) N (red X Y F) d g)]
  | _ => .tup []
def cMake (a : Nat → Nat → Nat → Pt → Nat → (Nat → Int) → Nat × Nat × Int) (e : Nat → Nat → Nat → Pt → Nat → (Nat → Int) → Int) : FSpec := specA [.str pCv, .str [.u], .str [.y 32]] mkC (mkG a e)
def cxMake (num : Nat → (Nat → Int) → Int → Nat) : Cx := ⟨[(25, cLook), (28, cNum num), (27, specUU oRestG), (29, cSw)], glK, 0, []⟩
def zeroSg : List SK := zeroU ++ zeroU ++ [.c (.num .i64 0)]
def invMake (num : Nat → (Nat → Int) → Int → Nat) (P A B N X Y : Nat) (F : Bool) (d : Nat) (g : Nat → Int) : Inv where
  X := Nat
  tm y := slotsAt 44 [(3, .one (.sc (.ptr 0 0))), (4, .one (.sc (.ptr 1 0))), (5, .one (.sc (.ptr 2 0))), (6, .one (.sc (.ptr 3 0))), (20, .one (sI .i64 y))]
  ob _ := [.cells 30 [.u P, .u A, .u B, .u N, .u X, .u Y, .c (.val (.bool F))] 0, .cells 26 [.u d] 0, .cells 40 [.f .u8 32 g] 0, .cells 37 zeroSg 0]
  holds y := y ≤ 272 ∧ firstT (tryE num (P % M256) (A % M256) N (red X Y F) d g) 272 0 = firstT (tryE num (P % M256) (A % M256) N (red X Y F) d g) (272 - y) y
  less y := 272 - y
theorem vc_sNumber (d : Nat) (g : Nat → Int) (t : Int) :
    Owes Tryz.prog cxNum [] 100 Tryz.f28 [sU d, sBy 32 g, sI .i64 t] (numbG numN [[.u d], [.y 32 g], [.i t]]) =
    (let x1 : Int := Go.IntKind.u64.wrap (Go.IntKind.i64.wrap (Go.IntKind.i64.wrap (t - (256 : Int)) + (1 : Int))); let x2 : Nat := numN d g t % M256; (Decidable.decide (t ≥ (256 : Int)) = Bool.true → ((0 : Int) ≤ x1 ∧ x1 < (18446744073709551616 : Int)) ∧ ((0 : Int) ≤ (0 : Int) ∧ (0 : Int) < (18446744073709551616 : Int)) ∧ ((0 : Int) ≤ (0 : Int) ∧ (0 : Int) < (18446744073709551616 : Int)) ∧ ((0 : Int) ≤ (0 : Int) ∧ (0 : Int) < (18446744073709551616 : Int)) ∧ join x1 (0 : Int) (0 : Int) (0 : Int) % M256 = x2 ∧ True) ∧ (Decidable.decide (t ≥ (256 : Int)) = Bool.false → ∀ (c : Nat), 65 + c ≤ Go.maxLen → 0 ≤ 65 + c ∧ (65 + c - 0 ≤ Go.maxLen ∧ (65 + c - 0) * 1 = 65 + c * 1) ∧ ∀ (c : Nat), 32 + c ≤ Go.maxLen → (32 ≤ 32 + c ∧ 32 + c ≤ Go.maxLen ∧ (32 + c) * 1 = 32 + c * 1) ∧ ∀ (c : Nat), 64 + c ≤ Go.maxLen → (64 ≤ 64 + c ∧ 64 + c ≤ Go.maxLen ∧ (64 + c) * 1 = 64 + c * 1) ∧ ∀ (c : Nat), 65 + c ≤ Go.maxLen → 65 ≤ 65 + c ∧ ∀ (a : Go.Addr), (∀ (j : Nat), True) ∧ (∀ (j : Nat), j < 32 → (0 : Int) ≤ endB (addB sp0 (fun (j : Nat) => (intsL [SK.f Go.IntKind.u8 32 fun (j : Nat) => by8 d (31 - j), SK.f Go.IntKind.u8 32 g, SK.c (SC.val (Go.Value.int Go.IntKind.u8 (Go.IntKind.u8.wrap t)))]).getD j (0 : Int)) 65) j ∧ endB (addB sp0 (fun (j : Nat) => (intsL [SK.f Go.IntKind.u8 32 fun (j : Nat) => by8 d (31 - j), SK.f Go.IntKind.u8 32 g, SK.c (SC.val (Go.Value.int Go.IntKind.u8 (Go.IntKind.u8.wrap t)))]).getD j (0 : Int)) 65) j < (256 : Int)) ∧ fromN (fun (j : Nat) => endB (addB sp0 (fun (j : Nat) => (intsL [SK.f Go.IntKind.u8 32 fun (j : Nat) => by8 d (31 - j), SK.f Go.IntKind.u8 32 g, SK.c (SC.val (Go.Value.int Go.IntKind.u8 (Go.IntKind.u8.wrap t)))]).getD j (0 : Int)) 65) j) 32 % M256 = x2 ∧ True)) := by kernel_rfl
theorem vc_oAdd (n a b : Nat) :
    Owes Tryz.prog cxOAdd [] 100 Tryz.f53 [sU n, sU a, sU b] (oAddG n a b) =
    ((if fE a b n = (0 : Int) then (a % M256 + b % M256) % (n % M256) else 0) % M256 = oaddN n a b % M256 ∧ True) := by kernel_rfl
theorem vc_oddOf (n x y : Nat) (f : Bool) :
    Owes Tryz.prog cxOdd [] 100 Tryz.f55 [sU n, sPt x y f] (oddOG [[.u n], [.u x, .u y, .b f]]) =
    (let x1 : Int := Go.IntKind.i64.wrap ((limb y 0).tmod (2 : Int)); (Decidable.decide (cmpN x n ≥ (0 : Int)) = Bool.true → Go.IntKind.i64.wrap (x1 + (2 : Int)) = oddO n x y) ∧ (Decidable.decide (cmpN x n ≥ (0 : Int)) = Bool.false → x1 = oddO n x y)) := by kernel_rfl
theorem vc_lowered (n R S : Nat) (o : Int) :
    Owes Tryz.prog cxLow [] 100 Tryz.f54 [sU n, sSg R S o] (lowG [[.u n], [.u R, .u S, .i o]]) =
    (let x1 : Nat := R % M256; let x2 : Nat := lowS n S % M256; (highB n S = Bool.true → x1 = x1 ∧ minN n S % M256 = x2 ∧ Go.IntKind.i64.wrap (↑(BitVec.ofInt 64 o ^^^ BitVec.ofInt 64 (1 : Int)).toNat : Int) = lowO n S o ∧ True) ∧ (highB n S = Bool.false → x1 = x1 ∧ S % M256 = x2 ∧ o = lowO n S o ∧ True)) := by kernel_rfl
theorem vc_signWith (P A B N X Y k d : Nat) (F : Bool) (g : Nat → Int) :
    Owes Tryz.prog cxSw [] 100 Tryz.f29 [sCv P A B N X Y F, sU k, sU d, sBy 32 g] (swG [[.u P, .u A, .u B, .u N, .u X, .u Y, .b F], [.u k], [.u d], [.y 32 g]]) =
    (let x1 : Nat := k % M256; let x2 : Nat := P % M256; let x3 : Nat := A % M256; let x4 : Nat := (swA x2 x3 N (red X Y F) k d g).fst % M256; let x5 : Nat := (swA x2 x3 N (red X Y F) k d g).snd.fst % M256; let x6 : Int := (swA x2 x3 N (red X Y F) k d g).snd.snd; let x7 : Int := swE x2 x3 N (red X Y F) k d g; let x8 : Nat := B % M256; let x9 : Bool := (cmulR x2 x3 x1 (red X Y F) 256).snd.snd; let x10 : Nat := (cmulR x2 x3 x1 (red X Y F) 256).fst; let x11 : Nat := restN N x10; let x12 : Nat := x11 % M256; let x13 : Nat := mulN N (oinvN N k) (oaddN N (restN N (fromN g 32)) (mulN N x11 d)); let x14 : Int := oddO N x10 (cmulR x2 x3 x1 (red X Y F) 256).snd.fst; (conj [x1 == 0] = Bool.true → (0 = x4 ∧ 0 = x5 ∧ (0 : Int) = x6 ∧ True) ∧ (5 : Int) = x7) ∧ (conj [x1 == 0] = Bool.false → goodP x2 x3 x8 (N % M256) (red X Y F) ∧ onP x2 x3 x8 (red X Y F) ∧ mulOK x2 x3 x1 (red X Y F) ∧ ((!x9) = Bool.true → (!x9) = Bool.true) ∧ ((!x9) = Bool.true → (!x9) = Bool.true) ∧ (x9 = Bool.false → (!x9) = Bool.true) ∧ ((x9 || conj [x12 == 0]) = Bool.true → (0 = x4 ∧ 0 = x5 ∧ (0 : Int) = x6 ∧ True) ∧ (5 : Int) = x7) ∧ ((x9 || conj [x12 == 0]) = Bool.false → ((oinvE N k != (0 : Int)) = Bool.true → (0 = x4 ∧ 0 = x5 ∧ (0 : Int) = x6 ∧ True) ∧ oinvE N k = x7) ∧ ((oinvE N k != (0 : Int)) = Bool.false → (∀ (j : Nat), j < 32 → (0 : Int) ≤ g j ∧ g j < (256 : Int)) ∧ (conj [x13 % M256 == 0] = Bool.true → (0 = x4 ∧ 0 = x5 ∧ (0 : Int) = x6 ∧ True) ∧ (5 : Int) = x7) ∧ (conj [x13 % M256 == 0] = Bool.false → ((0 : Int) ≤ x14 ∧ x14 ≤ (3 : Int)) ∧ (x12 = x4 ∧ lowS N x13 % M256 = x5 ∧ lowO N x13 x14 = x6 ∧ True) ∧ (0 : Int) = x7))))) := by kernel_rfl
theorem vc_Make (num : Nat → (Nat → Int) → Int → Nat) (P A B N X Y d : Nat) (F : Bool) (g : Nat → Int) :
    Owes Tryz.prog (cxMake num) [(5, .inv (invMake num P A B N X Y F d g))] 100 Tryz.f10 [sCv P A B N X Y F, sU d, sBy 32 g] (mkG (mkA num) (mkE num) [[.u P, .u A, .u B, .u N, .u X, .u Y, .b F], [.u d], [.y 32 g]]) =
    (let x1 : Nat := P % M256; let x2 : Nat := A % M256; let x3 : Nat := B % M256; let x4 : Nat := N % M256; let x5 : Int := if secB N d = Bool.true then (0 : Int) else (6 : Int); let x6 : Nat := (mkA num x1 x2 N (red X Y F) d g).fst % M256; let x7 : Nat := (mkA num x1 x2 N (red X Y F) d g).snd.fst % M256; let x8 : Int := (mkA num x1 x2 N (red X Y F) d g).snd.snd; let x9 : Int := mkE num x1 x2 N (red X Y F) d g; let x10 : Nat := X % M256; let x11 : Nat := Y % M256; let x12 : Nat := d % M256; goodP x1 x2 x3 x4 (red X Y F) ∧ ((x5 != (0 : Int)) = Bool.true → (0 = x6 ∧ 0 = x7 ∧ (0 : Int) = x8 ∧ True) ∧ x5 = x9) ∧ ((x5 != (0 : Int)) = Bool.false → (∀ (y : Nat), closedB (slotsAt 44 [(3, SV.one (SA.sc (SC.ptr 0 0))), (4, SV.one (SA.sc (SC.ptr 1 0))), (5, SV.one (SA.sc (SC.ptr 2 0))), (6, SV.one (SA.sc (SC.ptr 3 0))), (20, SV.one (sI Go.IntKind.i64 (↑y : Int)))]) [SO.cells (30 : Go.TypeId) [SK.u P, SK.u A, SK.u B, SK.u N, SK.u X, SK.u Y, SK.c (SC.val (Go.Value.bool F))] 0, SO.cells (26 : Go.TypeId) [SK.u d] 0, SO.cells (40 : Go.TypeId) [SK.f Go.IntKind.u8 32 g] 0, SO.cells (37 : Go.TypeId) zeroSg 0] = Bool.true) ∧ ∃ (y : Nat), (y ≤ 272 ∧ firstT (tryE num x1 x2 N (red X Y F) d g) 272 0 = firstT (tryE num x1 x2 N (red X Y F) d g) (272 - y) y) ∧ (0 : Int) = (↑y : Int) ∧ x1 = x1 ∧ x2 = x2 ∧ x3 = x3 ∧ x4 = x4 ∧ x10 = x10 ∧ x11 = x11 ∧ F = F ∧ 0 = 0 ∧ x12 = x12 ∧ 0 = 0 ∧ ((∀ (j : Nat), j < 32 → g j = g j) ∧ True) ∧ 0 = 0 ∧ 0 = 0 ∧ ∀ (y : Nat), y ≤ 272 ∧ firstT (tryE num x1 x2 N (red X Y F) d g) 272 0 = firstT (tryE num x1 x2 N (red X Y F) d g) (272 - y) y → (Decidable.decide ((↑y : Int) < (272 : Int)) = Bool.true → (∀ (j : Nat), j < 32 → (0 : Int) ≤ g j ∧ g j < (256 : Int)) ∧ ((0 : Int) ≤ (↑y : Int) ∧ (↑y : Int) ≤ (271 : Int)) ∧ swOK x1 x2 x3 N (red X Y F) (restN N (num d (selG [SK.f Go.IntKind.u8 32 g]) (↑y : Int))) (selG [SK.f Go.IntKind.u8 32 g]) ∧ ((swE x1 x2 N (red X Y F) (restN N (num d g (↑y : Int))) d g != (5 : Int)) = Bool.true → ((swA x1 x2 N (red X Y F) (restN N (num d g (↑y : Int))) d g).fst % M256 = x6 ∧ (swA x1 x2 N (red X Y F) (restN N (num d g (↑y : Int))) d g).snd.fst % M256 = x7 ∧ (swA x1 x2 N (red X Y F) (restN N (num d g (↑y : Int))) d g).snd.snd = x8 ∧ True) ∧ swE x1 x2 N (red X Y F) (restN N (num d g (↑y : Int))) d g = x9) ∧ ((swE x1 x2 N (red X Y F) (restN N (num d g (↑y : Int))) d g != (5 : Int)) = Bool.false → ∃ (y' : Nat), (y' ≤ 272 ∧ firstT (tryE num x1 x2 N (red X Y F) d g) 272 0 = firstT (tryE num x1 x2 N (red X Y F) d g) (272 - y') y') ∧ Go.IntKind.i64.wrap ((↑y : Int) + (1 : Int)) = (↑y' : Int) ∧ x1 = x1 ∧ x2 = x2 ∧ x3 = x3 ∧ x4 = x4 ∧ x10 = x10 ∧ x11 = x11 ∧ F = F ∧ 0 = 0 ∧ x12 = x12 ∧ 0 = 0 ∧ ((∀ (j : Nat), j < 32 → g j = g j) ∧ True) ∧ 0 = 0 ∧ 0 = 0 ∧ 272 - y' < 272 - y)) ∧ (Decidable.decide ((↑y : Int) < (272 : Int)) = Bool.false → (0 = x6 ∧ 0 = x7 ∧ (0 : Int) = x8 ∧ True) ∧ (5 : Int) = x9))) := by kernel_rfl
end Go.Proofs.YtohnkglcabfpjaaGreatDoor
end

section
namespace Go.Proofs.YtohnkglcabfpjaaGreatDoor
open Go.Sx
theorem CxOK_nilK : CxOK Tryz.prog ⟨[], glK, 0, []⟩ := ⟨fun _ h => (by cases h), fun _ h => (by cases h)⟩
theorem ok_sNumber : ∀ (ls : List (List At)) (vs : List (Option Addr)), Ok (numC ls) → Owes Tryz.prog cxNum [] 100 Tryz.f28 (mkArgs [.str [.u], .str [.y 32], .int .i64] ls vs) (numbG numN ls) := by
  intro ls vs hc
  unfold numC at hc
  split at hc
  · rename_i d g t
    have h : Owes Tryz.prog cxNum [] 100 Tryz.f28 [sU d, sBy 32 g, sI .i64 t] (numbG numN [[.u d], [.y 32 g], [.i t]]) := by
      rw [vc_sNumber]
      obtain ⟨hg, ⟨t0, t1⟩, _⟩ := hc
      intro x1 x2
      refine ⟨fun h => ?_, fun h c0 _ => ⟨by omega, ⟨by omega, by omega⟩, fun c1 _ => ⟨⟨by omega, by omega, by omega⟩, fun c2 _ => ⟨⟨by omega, by omega, by omega⟩, fun c3 _ => ⟨by omega, fun _ => ⟨fun _ => trivial, fun j _ => u8_in _, ?_, trivial⟩⟩⟩⟩⟩⟩
      · have ht : 256 ≤ t := of_decide_eq_true h
        have e1 : x1 = t - 255 := by
          simp only [x1]
          rw [IntWalk.i64_in (t - 256) (by omega), IntWalk.i64_in (t - 256 + 1) (by omega), wrap_id (by omega)]
          omega
        refine ⟨by omega, by decide, by decide, by decide, ?_, trivial⟩
        simp only [x2]
        unfold numN
        rw [if_pos ht, e1]
        obtain ⟨m, hm⟩ := Int.eq_ofNat_of_zero_le (show 0 ≤ t - 255 by omega)
        rw [hm, Int.toNat_natCast]
        unfold join
        simp
      · have ht : ¬ 256 ≤ t := of_decide_eq_false h
        simp only [x2]
        unfold numN
        rw [if_neg ht]
        rfl
    exact h
  · exact hc.1.elim
theorem ok_oAdd : ∀ n a b : Nat, Ok (noC n a b) → Owes Tryz.prog cxOAdd [] 100 Tryz.f53 [sU n, sU a, sU b] (oAddG n a b) := by
  intro n a b _
  rw [vc_oAdd]
  exact ⟨rfl, trivial⟩
theorem ok_oddOf : ∀ (ls : List (List At)) (vs : List (Option Addr)), Ok (oddC ls) → Owes Tryz.prog cxOdd [] 100 Tryz.f55 (mkArgs [.str [.u], .str pPt] ls vs) (oddOG ls) := by
  intro ls vs hc
  unfold oddC at hc
  split at hc
  · rename_i n x y f
    have h : Owes Tryz.prog cxOdd [] 100 Tryz.f55 [sU n, sPt x y f] (oddOG [[.u n], [.u x, .u y, .b f]]) := by
      rw [vc_oddOf]
      have e1 : IntKind.i64.wrap ((limb y 0).tmod 2) = ((y % M256 % 2 : Nat) : Int) := by
        rw [limb_low, Int.tmod_eq_emod_of_nonneg (Int.natCast_nonneg _), IntWalk.i64_in _ (by omega)]
        generalize y % M256 = Q
        omega
      have cg : decide (cmpN x n ≥ 0) = decide (n % M256 ≤ x % M256) := by
        rw [Bool.eq_iff_iff, decide_eq_true_eq, decide_eq_true_eq]
        exact cmp_ge
      rw [e1, cg]
      intro x1
      have hb : 0 ≤ x1 ∧ x1 ≤ 1 := by
        have : x1 = ((y % M256 % 2 : Nat) : Int) := rfl
        have := Nat.mod_lt (y % M256) (show 0 < 2 by decide)
        omega
      refine ⟨fun h => ?_, fun h => ?_⟩
      · unfold oddO
        rw [if_pos (of_decide_eq_true h), IntWalk.i64_in _ (by omega)]
      · unfold oddO
        rw [if_neg (of_decide_eq_false h), Int.add_zero]
    exact h
  · exact hc.1.elim
theorem xor_one {o : Int} (h : 0 ≤ o ∧ o ≤ 3) : IntKind.i64.wrap (((BitVec.ofInt 64 o ^^^ BitVec.ofInt 64 1).toNat : Nat) : Int) = o + 1 - 2 * (o % 2) := by
  have : o = 0 ∨ o = 1 ∨ o = 2 ∨ o = 3 := by omega
  rcases this with rfl | rfl | rfl | rfl <;> decide
theorem ok_lowered : ∀ (ls : List (List At)) (vs : List (Option Addr)), Ok (lowC ls) → Owes Tryz.prog cxLow [] 100 Tryz.f54 (mkArgs [.str [.u], .str pSg] ls vs) (lowG ls) := by
  intro ls vs hc
  unfold lowC at hc
  split at hc
  · rename_i n R S o
    have h : Owes Tryz.prog cxLow [] 100 Tryz.f54 [sU n, sSg R S o] (lowG [[.u n], [.u R, .u S, .i o]]) := by
      rw [vc_lowered]
      obtain ⟨ho, _⟩ := hc
      intro x1 x2
      refine ⟨fun h => ⟨rfl, ?_, ?_, trivial⟩, fun h => ⟨rfl, ?_, ?_, trivial⟩⟩
      · simp only [x2]; unfold lowS; rw [if_pos h]
      · unfold lowO; rw [if_pos h]; exact xor_one ho
      · simp only [x2]; unfold lowS; rw [if_neg (by rw [h]; exact Bool.false_ne_true)]
      · unfold lowO; rw [if_neg (by rw [h]; exact Bool.false_ne_true)]
    exact h
  · exact hc.1.elim
theorem ok_signWith : ∀ (ls : List (List At)) (vs : List (Option Addr)), Ok (swC ls) → Owes Tryz.prog cxSw [] 100 Tryz.f29 (mkArgs [.str pCv, .str [.u], .str [.u], .str [.y 32]] ls vs) (swG ls) := by
  intro ls vs hc
  unfold swC at hc
  split at hc
  · rename_i P A B N X Y F k d g
    have h : Owes Tryz.prog cxSw [] 100 Tryz.f29 [sCv P A B N X Y F, sU k, sU d, sBy 32 g] (swG [[.u P, .u A, .u B, .u N, .u X, .u Y, .b F], [.u k], [.u d], [.y 32 g]]) := by
      rw [vc_signWith]
      obtain ⟨hk, _⟩ := hc
      have hm := hk.m1
      intro x1 x2 x3 x4 x5 x6 x7 x8 x9 x10 x11 x12 x13 x14
      have E7 : x7 = swE x2 x3 N (red X Y F) k d g := rfl
      have E9 : x9 = (swP x2 x3 (red X Y F) k).2.2 := rfl
      have E12 : x12 = swR x2 x3 N (red X Y F) k % M256 := rfl
      have E13 : x13 = swS x2 x3 N (red X Y F) k d g := rfl
      have bad : x7 ≠ 0 → 0 = x4 ∧ 0 = x5 ∧ 0 = x6 ∧ True := by
        intro h
        simp only [x4, x5, x6]
        unfold swA
        rw [← E7, if_neg h]
        exact ⟨(Nat.zero_mod _).symm, (Nat.zero_mod _).symm, rfl, trivial⟩
      have bad5 : x7 = 5 → (0 = x4 ∧ 0 = x5 ∧ 0 = x6 ∧ True) ∧ (5 : Int) = x7 := fun e => ⟨bad (by rw [e]; decide), e.symm⟩
      have good : x7 = 0 → (x12 = x4 ∧ lowS N x13 % M256 = x5 ∧ lowO N x13 x14 = x6 ∧ True) ∧ (0 : Int) = x7 := by
        intro h
        refine ⟨?_, h.symm⟩
        simp only [x4, x5, x6]
        unfold swA
        rw [← E7, if_pos h]
        exact ⟨rfl, rfl, rfl, trivial⟩
      rw [beq_conj1, beq_conj1, beq_conj1]
      refine ⟨fun h => bad5 ?_, fun h => ⟨hk.good, hk.good.on, hm (beq_eq_false_iff_ne.1 h), id, id, fun h => by rw [h]; rfl, fun h2 => bad5 ?_, fun h2 => ⟨fun h3 => ?_, fun h3 => ⟨hk.b32, fun h4 => bad5 ?_, fun h4 => ⟨?_, good ?_⟩⟩⟩⟩⟩
      · rw [E7]; unfold swE
        exact if_pos (beq_iff_eq.1 h)
      · rw [E7]; unfold swE
        rw [if_neg (beq_eq_false_iff_ne.1 h : ¬ k % M256 = 0)]
        exact if_pos h2
      · have e3 : ¬ oinvE N k = 0 := by simpa using h3
        have e : x7 = oinvE N k := by
          rw [E7]; unfold swE
          rw [if_neg (beq_eq_false_iff_ne.1 h : ¬ k % M256 = 0), if_neg (by rw [Bool.not_eq_true]; exact h2), if_neg e3]
        exact ⟨bad (by rw [e]; exact e3), e.symm⟩
      · have e3 : oinvE N k = 0 := by simpa using h3
        rw [E7]; unfold swE
        rw [if_neg (beq_eq_false_iff_ne.1 h : ¬ k % M256 = 0), if_neg (by rw [Bool.not_eq_true]; exact h2), if_pos e3]
        exact if_pos (beq_iff_eq.1 h4)
      · have e : x14 = oddO N x10 (cmulR x2 x3 x1 (red X Y F) 256).2.1 := rfl
        have hb := Nat.mod_lt ((cmulR x2 x3 x1 (red X Y F) 256).2.1 % M256) (show 0 < 2 by decide)
        rw [e]
        unfold oddO
        split <;> omega
      · have e3 : oinvE N k = 0 := by simpa using h3
        rw [E7]; unfold swE
        rw [if_neg (beq_eq_false_iff_ne.1 h : ¬ k % M256 = 0), if_neg (by rw [Bool.not_eq_true]; exact h2), if_pos e3]
        exact if_neg (beq_eq_false_iff_ne.1 h4)
    exact h
  · exact hc.1.elim
theorem firstT_step {e : Nat → Int} {n i : Nat} : firstT e (n + 1) i = if e i = 5 then firstT e n (i + 1) else some i := rfl
theorem ok_Make (num : Nat → (Nat → Int) → Int → Nat) : ∀ (P A B N X Y d : Nat) (F : Bool) (g : Nat → Int), mkOK (P % M256) (A % M256) (B % M256) N (red X Y F) d g →
    Owes Tryz.prog (cxMake num) [(5, .inv (invMake num P A B N X Y F d g))] 100 Tryz.f10 [sCv P A B N X Y F, sU d, sBy 32 g] (mkG (mkA num) (mkE num) [[.u P, .u A, .u B, .u N, .u X, .u Y, .b F], [.u d], [.y 32 g]]) := by
  intro P A B N X Y d F g hk
  rw [vc_Make]
  have hm := hk.m1
  intro x1 x2 x3 x4 x5 x6 x7 x8 x9 x10 x11 x12
  have E5 : x5 = 0 := if_pos hk.sec
  have E9 : x9 = mkE num x1 x2 N (red X Y F) d g := rfl
  rw [E5]
  refine ⟨hk.good, fun h => (by cases h), fun _ => ⟨fun y => rfl, 0, ⟨by decide, rfl⟩, rfl, rfl, rfl, rfl, rfl, rfl, rfl, rfl, rfl, rfl, rfl, ⟨fun j _ => rfl, trivial⟩, rfl, rfl, fun y hy => ⟨fun h => ?_, fun h => ?_⟩⟩⟩
  · have hy2 : (y : Int) < 272 := of_decide_eq_true h
    obtain ⟨hy1, hf⟩ := hy
    obtain ⟨m, hmm⟩ : ∃ m, 272 - y = m + 1 := ⟨271 - y, by omega⟩
    rw [hmm, firstT_step (n := m)] at hf
    refine ⟨hk.b32, by omega, ⟨hk.good, fun _ => hm _, hk.b32⟩, fun h2 => ?_, fun h2 => ?_⟩
    · have e : ¬ tryE num x1 x2 N (red X Y F) d g y = 5 := by
        have : ¬ swE x1 x2 N (red X Y F) (restN N (num d g (y : Int))) d g = 5 := by simpa using h2
        exact this
      rw [if_neg e] at hf
      have a1 : mkA num x1 x2 N (red X Y F) d g = tryA num x1 x2 N (red X Y F) d g y := by unfold mkA; rw [hf]
      have a2 : mkE num x1 x2 N (red X Y F) d g = tryE num x1 x2 N (red X Y F) d g y := by unfold mkE; rw [hf]
      simp only [x6, x7, x8]
      rw [E9, a1, a2]
      exact ⟨⟨rfl, rfl, rfl, trivial⟩, rfl⟩
    · have e : tryE num x1 x2 N (red X Y F) d g y = 5 := by
        have : swE x1 x2 N (red X Y F) (restN N (num d g (y : Int))) d g = 5 := by simpa using h2
        exact this
      rw [if_pos e] at hf
      refine ⟨y + 1, ⟨by omega, by rw [hf, show 272 - (y + 1) = m by omega]⟩, ?_, rfl, rfl, rfl, rfl, rfl, rfl, rfl, rfl, rfl, rfl, ⟨fun j _ => rfl, trivial⟩, rfl, rfl, by omega⟩
      rw [IntWalk.i64_in _ (by omega)]
      omega
  · have hy2 : ¬ (y : Int) < 272 := of_decide_eq_false h
    obtain ⟨hy1, hf⟩ := hy
    have e : 272 - y = 0 := by omega
    rw [e] at hf
    have hf : firstT (tryE num x1 x2 N (red X Y F) d g) 272 0 = none := hf
    have a1 : mkA num x1 x2 N (red X Y F) d g = (0, 0, 0) := by unfold mkA; rw [hf]
    have a2 : mkE num x1 x2 N (red X Y F) d g = 5 := by unfold mkE; rw [hf]
    simp only [x6, x7, x8]
    rw [E9, a1, a2]
    exact ⟨⟨(Nat.zero_mod _).symm, (Nat.zero_mod _).symm, rfl, trivial⟩, rfl⟩
theorem bnd_sg (p : Nat × Nat × Int) : SA.bnd none0 (sgS p) := by
  intro k hk
  simp only [List.mem_cons, List.not_mem_nil, or_false] at hk
  rcases hk with rfl | rfl | rfl <;> trivial
theorem card_sNumber : FnOKg Tryz.prog glK 28 (cNum numN) :=
  FnOK_A (cx := cxNum) (CxOK_cons (FnOKg.up card_Bytes glK) (CxOK_cons card_Sum (CxOK_cons (FnOKg.up card_From glK) CxOK_nilK))) (iv := fun _ => []) (N := 100) Tryz.func28 (by kernel_rfl) (by kernel_rfl) (fun ls => by unfold numbG; split; exact bnd_one (bnd_U _); exact bnd_none) ok_sNumber
theorem card_oAdd : FnOK Tryz.prog 53 (specUUU noC oAddG) :=
  FnOK_UUU (CxOK_cons card_fAdd CxOK_nil) (iv := fun _ _ _ => []) (N := 100) Tryz.func53 (by kernel_rfl) (by kernel_rfl) (fun _ _ _ => bnd_one (bnd_U _)) ok_oAdd
theorem card_oddOf : FnOK Tryz.prog 55 cOdd :=
  FnOK_A (CxOK_cons card_Cmp CxOK_nil) (iv := fun _ => []) (N := 100) Tryz.func55 (by kernel_rfl) (by kernel_rfl) (fun ls => by unfold oddOG; split; exact bnd_one (bnd_I _ _); exact bnd_none) ok_oddOf
theorem card_lowered : FnOK Tryz.prog 54 cLow :=
  FnOK_A (CxOK_cons card_oHigh (CxOK_cons card_oMinus CxOK_nil)) (iv := fun _ => []) (N := 100) Tryz.func54 (by kernel_rfl) (by kernel_rfl) (fun ls => by unfold lowG; split; exact bnd_one (bnd_sg (_, _, _)); exact bnd_none) ok_lowered
theorem card_signWith : FnOK Tryz.prog 29 cSw :=
  FnOK_A (CxOK_cons card_cMult (CxOK_cons card_oRest (CxOK_cons card_oInv (CxOK_cons card_ofSum (CxOK_cons card_oMul (CxOK_cons card_oAdd (CxOK_cons card_oddOf (CxOK_cons card_lowered CxOK_nil)))))))) (iv := fun _ => []) (N := 100) Tryz.func29 (by kernel_rfl) (by kernel_rfl) (fun ls => by
    unfold swG
    split
    · exact bnd_two (bnd_sg _) (bnd_I _ _)
    · exact bnd_none) ok_signWith
theorem card_Make : FnOKg Tryz.prog glK 10 (cMake (mkA numN) (mkE numN)) :=
  FnOK_A (cx := cxMake numN) (CxOK_cons (FnOKg.up card_look glK) (CxOK_cons card_sNumber (CxOK_cons (FnOKg.up card_oRest glK) (CxOK_cons (FnOKg.up card_signWith glK) CxOK_nilK)))) (iv := fun ls => match ls with
    | [[.u P, .u A, .u B, .u N, .u X, .u Y, .b F], [.u d], [.y 32 g]] => [(5, .inv (invMake numN P A B N X Y F d g))]
    | _ => []) (N := 100) Tryz.func10 (by kernel_rfl) (by kernel_rfl) (fun ls => by
    unfold mkG
    split
    · exact bnd_two (bnd_sg _) (bnd_I _ _)
    · exact bnd_none) (fun ls vs hc => by
    unfold mkC at hc
    split at hc
    · rename_i P A B N X Y F d g
      exact ok_Make numN P A B N X Y d F g hc.1
    · exact hc.1.elim)
end Go.Proofs.YtohnkglcabfpjaaGreatDoor
end

section
namespace Go.Proofs.YtohnkglcabfpjaaGreatDoor
open Go.Sx
set_option maxRecDepth 100000
def cxSig (fs : Int → Int → ByteArray → Nat → Int) (ma : Nat → Nat → Nat → Pt → Nat → (Nat → Int) → Nat × Nat × Int) (me : Nat → Nat → Nat → Pt → Nat → (Nat → Int) → Int) : Cx := ⟨[(7, specA [.int .i64] curveC curveG), (8, cSecret), (11, cSumR fs), (13, spec0 yes), (9, cPnt), (10, cMake ma me), (12, cRec), (14, cChk), (15, specUU subG), (16, specUU cmpG), (17, specUU dmG), (18, specB fromG)], glK, 0, []⟩
theorem vc_SignRight (fs : Int → Int → ByteArray → Nat → Int) (ma : Nat → Nat → Nat → Pt → Nat → (Nat → Int) → Nat × Nat × Int) (me : Nat → Nat → Nat → Pt → Nat → (Nat → Int) → Int) (n d : Int) (k a b : Int) (s : ByteArray) :
    Owes Tryz.prog (cxSig fs ma me) [] 100 Tryz.f3 [sI .i64 n, sI .i64 d, sRaw k a b s] yes =
    (let x1 : Nat := cP (ixN n) % M256; let x2 : Nat := ixP x1; let x3 : Nat := cB (ixN n) % M256; let x4 : Nat := 1 + (d % ((↑(cN x2) : Int) - (1 : Int))).toNat; let x5 : Nat := x4 % M256; let x6 : Nat := (ma x1 0 (cN (ixN n)) (red (cX (ixN n)) (cY (ixN n)) Bool.false) x4 (selG [SK.f Go.IntKind.u8 32 (fs a b s)])).fst; let x7 : Nat := (ma x1 0 (cN (ixN n)) (red (cX (ixN n)) (cY (ixN n)) Bool.false) x4 (selG [SK.f Go.IntKind.u8 32 (fs a b s)])).snd.fst; let x8 : Int := (ma x1 0 (cN (ixN n)) (red (cX (ixN n)) (cY (ixN n)) Bool.false) x4 (selG [SK.f Go.IntKind.u8 32 (fs a b s)])).snd.snd; let x9 : Bool := Bool.true && (0 : Int) == (0 : Int); let x10 : Bool := x9 && me x1 0 (cN (ixN n)) (red (cX (ixN n)) (cY (ixN n)) Bool.false) x4 (fs a b s) == (0 : Int); let x11 : Nat := (ma x1 0 (cN (ixN n)) (red (cX (ixN n)) (cY (ixN n)) Bool.false) x4 (fs a b s)).fst; let x12 : Nat := (ma x1 0 (cN (ixN n)) (red (cX (ixN n)) (cY (ixN n)) Bool.false) x4 (fs a b s)).snd.fst; let x13 : Int := (ma x1 0 (cN (ixN n)) (red (cX (ixN n)) (cY (ixN n)) Bool.false) x4 (fs a b s)).snd.snd; let x14 : Bool := x10 && recE x1 0 x3 (cN (ixN n)) (red (cX (ixN n)) (cY (ixN n)) Bool.false) (fs a b s) x11 x12 x13 == (0 : Int); let x15 : Nat := (cmulR x1 0 x5 (red (cX (ixN n)) (cY (ixN n)) Bool.false) 256).fst; let x16 : Nat := (cmulR x1 0 x5 (red (cX (ixN n)) (cY (ixN n)) Bool.false) 256).snd.fst; let x17 : Bool := (cmulR x1 0 x5 (red (cX (ixN n)) (cY (ixN n)) Bool.false) 256).snd.snd; let x18 : Bool := x14 && chkE x1 0 (cN (ixN n)) (red (cX (ixN n)) (cY (ixN n)) Bool.false) (red x15 x16 x17) (fs a b s) x11 x12 x13 == (0 : Int); ((-9223372036854775808 : Int) ≤ n ∧ n ≤ (9223372036854775807 : Int)) ∧ isCv x2 (cP (ixN n)) 0 (cB (ixN n)) (cN (ixN n)) (cX (ixN n)) (cY (ixN n)) Bool.false ∧ ((-9223372036854775808 : Int) ≤ d ∧ d ≤ (9223372036854775807 : Int)) ∧ goodP x1 0 x3 (cN (ixN n) % M256) (red (cX (ixN n)) (cY (ixN n)) Bool.false) ∧ secB (cN (ixN n)) x4 = Bool.true ∧ mulOK x1 0 x5 (red (cX (ixN n)) (cY (ixN n)) Bool.false) ∧ ((-9223372036854775808 : Int) ≤ k ∧ k ≤ (9223372036854775807 : Int)) ∧ ((-9223372036854775808 : Int) ≤ a ∧ a ≤ (9223372036854775807 : Int)) ∧ ((-9223372036854775808 : Int) ≤ b ∧ b ≤ (9223372036854775807 : Int)) ∧ mkOK x1 0 x3 (cN (ixN n)) (red (cX (ixN n)) (cY (ixN n)) Bool.false) x4 (selG [SK.f Go.IntKind.u8 32 (fs a b s)]) ∧ ((-9223372036854775808 : Int) ≤ k ∧ k ≤ (9223372036854775807 : Int)) ∧ ((-9223372036854775808 : Int) ≤ a ∧ a ≤ (9223372036854775807 : Int)) ∧ ((-9223372036854775808 : Int) ≤ b ∧ b ≤ (9223372036854775807 : Int)) ∧ recOK x1 0 x3 (cN (ixN n)) (red (cX (ixN n)) (cY (ixN n)) Bool.false) (selG [SK.f Go.IntKind.u8 32 (fs a b s)]) x6 x7 x8 ∧ (Bool.true = Bool.true → Bool.true = Bool.true) ∧ (Bool.true = Bool.true → Bool.true = Bool.true) ∧ (x9 = Bool.true → x9 = Bool.true) ∧ (x9 = Bool.true → x9 = Bool.true) ∧ (x10 = Bool.true → x10 = Bool.true) ∧ (x10 = Bool.true → x10 = Bool.true) ∧ (x14 = Bool.true → x14 = Bool.true) ∧ (x14 = Bool.true → (-9223372036854775808 : Int) ≤ k ∧ k ≤ (9223372036854775807 : Int)) ∧ (x14 = Bool.true → (-9223372036854775808 : Int) ≤ a ∧ a ≤ (9223372036854775807 : Int)) ∧ (x14 = Bool.true → (-9223372036854775808 : Int) ≤ b ∧ b ≤ (9223372036854775807 : Int)) ∧ (x14 = Bool.true → x14 = Bool.true) ∧ (x14 = Bool.true → x14 = Bool.true) ∧ (x14 = Bool.true → x14 = Bool.true) ∧ (x14 = Bool.true → x14 = Bool.true) ∧ (x14 = Bool.true → chkOK x1 0 x3 (cN (ixN n)) (red (cX (ixN n)) (cY (ixN n)) Bool.false) (red x15 x16 x17) (selG [SK.f Go.IntKind.u8 32 (fs a b s)]) x6 x7 x8) ∧ (x14 = Bool.true → x14 = Bool.true) ∧ (x14 = Bool.true → x14 = Bool.true) ∧ (x18 = Bool.true → x18 = Bool.true) ∧ (x18 = Bool.true → x18 = Bool.true) ∧ (x18 = Bool.true → x18 = Bool.true) ∧ (x18 && conj [(recA x1 0 x3 (cN (ixN n)) (red (cX (ixN n)) (cY (ixN n)) Bool.false) (fs a b s) x11 x12 x13).fst % M256 == x15 % M256, (recA x1 0 x3 (cN (ixN n)) (red (cX (ixN n)) (cY (ixN n)) Bool.false) (fs a b s) x11 x12 x13).snd.fst % M256 == x16 % M256, (recA x1 0 x3 (cN (ixN n)) (red (cX (ixN n)) (cY (ixN n)) Bool.false) (fs a b s) x11 x12 x13).snd.snd == x17]) = Bool.true) := by kernel_rfl
theorem vc_SignOne (fs : Int → Int → ByteArray → Nat → Int) (ma : Nat → Nat → Nat → Pt → Nat → (Nat → Int) → Nat × Nat × Int) (me : Nat → Nat → Nat → Pt → Nat → (Nat → Int) → Int) (n d : Int) (k a b : Int) (s : ByteArray) :
    Owes Tryz.prog (cxSig fs ma me) [] 100 Tryz.f4 [sI .i64 n, sI .i64 d, sRaw k a b s] yes =
    (let x1 : Nat := cP (ixN n) % M256; let x2 : Nat := ixP x1; let x3 : Nat := cB (ixN n) % M256; let x4 : Nat := cN (ixN n) % M256; let x5 : Nat := 1 + (d % ((↑(cN x2) : Int) - (1 : Int))).toNat; let x6 : Nat := x5 % M256; let x7 : Nat := (ma x1 0 (cN (ixN n)) (red (cX (ixN n)) (cY (ixN n)) Bool.false) x5 (selG [SK.f Go.IntKind.u8 32 (fs a b s)])).fst; let x8 : Nat := x4 + M256 - (ma x1 0 (cN (ixN n)) (red (cX (ixN n)) (cY (ixN n)) Bool.false) x5 (selG [SK.f Go.IntKind.u8 32 (fs a b s)])).snd.fst % M256; let x9 : Int := Go.IntKind.i64.wrap (↑(BitVec.ofInt 64 (ma x1 0 (cN (ixN n)) (red (cX (ixN n)) (cY (ixN n)) Bool.false) x5 (selG [SK.f Go.IntKind.u8 32 (fs a b s)])).snd.snd ^^^ BitVec.ofInt 64 (1 : Int)).toNat : Int); let x10 : Bool := Bool.true && me x1 0 (cN (ixN n)) (red (cX (ixN n)) (cY (ixN n)) Bool.false) x5 (fs a b s) == (0 : Int); let x11 : Nat := (ma x1 0 (cN (ixN n)) (red (cX (ixN n)) (cY (ixN n)) Bool.false) x5 (fs a b s)).snd.fst; let x12 : Nat := x4 + M256 - x11 % M256; let x13 : Int := cmpN x11 x12; let x14 : Bool := x10 && Decidable.decide (x13 < (0 : Int)); let x15 : Nat := (ma x1 0 (cN (ixN n)) (red (cX (ixN n)) (cY (ixN n)) Bool.false) x5 (fs a b s)).fst; let x16 : Int := Go.IntKind.i64.wrap (↑(BitVec.ofInt 64 (ma x1 0 (cN (ixN n)) (red (cX (ixN n)) (cY (ixN n)) Bool.false) x5 (fs a b s)).snd.snd ^^^ BitVec.ofInt 64 (1 : Int)).toNat : Int); let x17 : Bool := x14 && chkE x1 0 (cN (ixN n)) (red (cX (ixN n)) (cY (ixN n)) Bool.false) (red (cmulR x1 0 x6 (red (cX (ixN n)) (cY (ixN n)) Bool.false) 256).fst (cmulR x1 0 x6 (red (cX (ixN n)) (cY (ixN n)) Bool.false) 256).snd.fst (cmulR x1 0 x6 (red (cX (ixN n)) (cY (ixN n)) Bool.false) 256).snd.snd) (fs a b s) x15 x12 x16 == (10 : Int); ((-9223372036854775808 : Int) ≤ n ∧ n ≤ (9223372036854775807 : Int)) ∧ isCv x2 (cP (ixN n)) 0 (cB (ixN n)) (cN (ixN n)) (cX (ixN n)) (cY (ixN n)) Bool.false ∧ ((-9223372036854775808 : Int) ≤ d ∧ d ≤ (9223372036854775807 : Int)) ∧ goodP x1 0 x3 x4 (red (cX (ixN n)) (cY (ixN n)) Bool.false) ∧ secB (cN (ixN n)) x5 = Bool.true ∧ mulOK x1 0 x6 (red (cX (ixN n)) (cY (ixN n)) Bool.false) ∧ ((-9223372036854775808 : Int) ≤ k ∧ k ≤ (9223372036854775807 : Int)) ∧ ((-9223372036854775808 : Int) ≤ a ∧ a ≤ (9223372036854775807 : Int)) ∧ ((-9223372036854775808 : Int) ≤ b ∧ b ≤ (9223372036854775807 : Int)) ∧ mkOK x1 0 x3 (cN (ixN n)) (red (cX (ixN n)) (cY (ixN n)) Bool.false) x5 (selG [SK.f Go.IntKind.u8 32 (fs a b s)]) ∧ ((-9223372036854775808 : Int) ≤ k ∧ k ≤ (9223372036854775807 : Int)) ∧ ((-9223372036854775808 : Int) ≤ a ∧ a ≤ (9223372036854775807 : Int)) ∧ ((-9223372036854775808 : Int) ≤ b ∧ b ≤ (9223372036854775807 : Int)) ∧ recOK x1 0 x3 (cN (ixN n)) (red (cX (ixN n)) (cY (ixN n)) Bool.false) (selG [SK.f Go.IntKind.u8 32 (fs a b s)]) x7 x8 x9 ∧ (Bool.true = Bool.true → Bool.true = Bool.true) ∧ (Bool.true = Bool.true → Bool.true = Bool.true) ∧ (x10 = Bool.true → x10 = Bool.true) ∧ (x10 = Bool.true → x10 = Bool.true) ∧ (x10 = Bool.true → x10 = Bool.true) ∧ (x10 = Bool.true → x10 = Bool.true) ∧ (x10 = Bool.true → x10 = Bool.true) ∧ (x10 = Bool.true → x10 = Bool.true) ∧ (x14 = Bool.true → x14 = Bool.true) ∧ (x14 = Bool.true → (-9223372036854775808 : Int) ≤ k ∧ k ≤ (9223372036854775807 : Int)) ∧ (x14 = Bool.true → (-9223372036854775808 : Int) ≤ a ∧ a ≤ (9223372036854775807 : Int)) ∧ (x14 = Bool.true → (-9223372036854775808 : Int) ≤ b ∧ b ≤ (9223372036854775807 : Int)) ∧ (x14 = Bool.true → x14 = Bool.true) ∧ (x14 = Bool.true → x14 = Bool.true) ∧ (x14 = Bool.true → x14 = Bool.true) ∧ (x14 = Bool.true → x14 = Bool.true) ∧ (x14 = Bool.true → chkOK x1 0 x3 (cN (ixN n)) (red (cX (ixN n)) (cY (ixN n)) Bool.false) (red (cmulR x1 0 x6 (red (cX (ixN n)) (cY (ixN n)) Bool.false) 256).fst (cmulR x1 0 x6 (red (cX (ixN n)) (cY (ixN n)) Bool.false) 256).snd.fst (cmulR x1 0 x6 (red (cX (ixN n)) (cY (ixN n)) Bool.false) 256).snd.snd) (selG [SK.f Go.IntKind.u8 32 (fs a b s)]) x7 x8 x9) ∧ (x14 = Bool.true → x14 = Bool.true) ∧ (x14 = Bool.true → x14 = Bool.true) ∧ (x17 = Bool.true → x17 = Bool.true) ∧ (x17 = Bool.true → x17 = Bool.true) ∧ (x17 && recE x1 0 x3 (cN (ixN n)) (red (cX (ixN n)) (cY (ixN n)) Bool.false) (fs a b s) x15 x12 x16 == (10 : Int)) = Bool.true) := by kernel_rfl
theorem vc_SignOther (fs : Int → Int → ByteArray → Nat → Int) (ma : Nat → Nat → Nat → Pt → Nat → (Nat → Int) → Nat × Nat × Int) (me : Nat → Nat → Nat → Pt → Nat → (Nat → Int) → Int) (n d : Int) (k a b : Int) (s : ByteArray) (k' a' b' : Int) (s' : ByteArray) :
    Owes Tryz.prog (cxSig fs ma me) [] 100 Tryz.f5 [sI .i64 n, sI .i64 d, sRaw k a b s, sRaw k' a' b' s'] yes =
    (let x1 : Nat := cP (ixN n) % M256; let x2 : Nat := ixP x1; let x3 : Nat := cB (ixN n) % M256; let x4 : Nat := cN (ixN n) % M256; let x5 : Nat := 1 + (d % ((↑(cN x2) : Int) - (1 : Int))).toNat; let x6 : Nat := x5 % M256; let x7 : Bool := Bool.true && me x1 0 (cN (ixN n)) (red (cX (ixN n)) (cY (ixN n)) Bool.false) x5 (fs a b s) == (0 : Int); let x8 : Bool := conj [(if x4 = 0 then 0 else fromN (fs a b s) 32 % M256 % x4) % M256 == (if x4 = 0 then 0 else fromN (fs a' b' s') 32 % M256 % x4) % M256]; let x9 : Bool := !x8; let x10 : Bool := x7 && !x9; let x11 : Nat := (ma x1 0 (cN (ixN n)) (red (cX (ixN n)) (cY (ixN n)) Bool.false) x5 (fs a b s)).fst; let x12 : Nat := (ma x1 0 (cN (ixN n)) (red (cX (ixN n)) (cY (ixN n)) Bool.false) x5 (fs a b s)).snd.fst; let x13 : Int := (ma x1 0 (cN (ixN n)) (red (cX (ixN n)) (cY (ixN n)) Bool.false) x5 (fs a b s)).snd.snd; let x14 : Int := recE x1 0 x3 (cN (ixN n)) (red (cX (ixN n)) (cY (ixN n)) Bool.false) (fs a' b' s') x11 x12 x13; let x15 : Bool := x14 == (0 : Int); let x16 : Bool := conj [(recA x1 0 x3 (cN (ixN n)) (red (cX (ixN n)) (cY (ixN n)) Bool.false) (fs a' b' s') x11 x12 x13).fst % M256 == (cmulR x1 0 x6 (red (cX (ixN n)) (cY (ixN n)) Bool.false) 256).fst % M256, (recA x1 0 x3 (cN (ixN n)) (red (cX (ixN n)) (cY (ixN n)) Bool.false) (fs a' b' s') x11 x12 x13).snd.fst % M256 == (cmulR x1 0 x6 (red (cX (ixN n)) (cY (ixN n)) Bool.false) 256).snd.fst % M256, (recA x1 0 x3 (cN (ixN n)) (red (cX (ixN n)) (cY (ixN n)) Bool.false) (fs a' b' s') x11 x12 x13).snd.snd == (cmulR x1 0 x6 (red (cX (ixN n)) (cY (ixN n)) Bool.false) 256).snd.snd]; let x17 : Bool := x7 && (x9 || x15 && x16); let x18 : Bool := x8 || x14 != (0 : Int); ((-9223372036854775808 : Int) ≤ n ∧ n ≤ (9223372036854775807 : Int)) ∧ isCv x2 (cP (ixN n)) 0 (cB (ixN n)) (cN (ixN n)) (cX (ixN n)) (cY (ixN n)) Bool.false ∧ ((-9223372036854775808 : Int) ≤ d ∧ d ≤ (9223372036854775807 : Int)) ∧ goodP x1 0 x3 x4 (red (cX (ixN n)) (cY (ixN n)) Bool.false) ∧ secB (cN (ixN n)) x5 = Bool.true ∧ mulOK x1 0 x6 (red (cX (ixN n)) (cY (ixN n)) Bool.false) ∧ ((-9223372036854775808 : Int) ≤ k ∧ k ≤ (9223372036854775807 : Int)) ∧ ((-9223372036854775808 : Int) ≤ a ∧ a ≤ (9223372036854775807 : Int)) ∧ ((-9223372036854775808 : Int) ≤ b ∧ b ≤ (9223372036854775807 : Int)) ∧ mkOK x1 0 x3 (cN (ixN n)) (red (cX (ixN n)) (cY (ixN n)) Bool.false) x5 (selG [SK.f Go.IntKind.u8 32 (fs a b s)]) ∧ ((-9223372036854775808 : Int) ≤ k ∧ k ≤ (9223372036854775807 : Int)) ∧ ((-9223372036854775808 : Int) ≤ a ∧ a ≤ (9223372036854775807 : Int)) ∧ ((-9223372036854775808 : Int) ≤ b ∧ b ≤ (9223372036854775807 : Int)) ∧ (∀ (j : Nat), j < 32 → (0 : Int) ≤ fs a b s j ∧ fs a b s j < (256 : Int)) ∧ ((-9223372036854775808 : Int) ≤ k' ∧ k' ≤ (9223372036854775807 : Int)) ∧ ((-9223372036854775808 : Int) ≤ a' ∧ a' ≤ (9223372036854775807 : Int)) ∧ ((-9223372036854775808 : Int) ≤ b' ∧ b' ≤ (9223372036854775807 : Int)) ∧ (∀ (j : Nat), j < 32 → (0 : Int) ≤ fs a' b' s' j ∧ fs a' b' s' j < (256 : Int)) ∧ ((-9223372036854775808 : Int) ≤ k' ∧ k' ≤ (9223372036854775807 : Int)) ∧ ((-9223372036854775808 : Int) ≤ a' ∧ a' ≤ (9223372036854775807 : Int)) ∧ ((-9223372036854775808 : Int) ≤ b' ∧ b' ≤ (9223372036854775807 : Int)) ∧ recOK x1 0 x3 (cN (ixN n)) (red (cX (ixN n)) (cY (ixN n)) Bool.false) (selG [SK.f Go.IntKind.u8 32 (fs a' b' s')]) (ma x1 0 (cN (ixN n)) (red (cX (ixN n)) (cY (ixN n)) Bool.false) x5 (selG [SK.f Go.IntKind.u8 32 (fs a b s)])).fst (ma x1 0 (cN (ixN n)) (red (cX (ixN n)) (cY (ixN n)) Bool.false) x5 (selG [SK.f Go.IntKind.u8 32 (fs a b s)])).snd.fst (ma x1 0 (cN (ixN n)) (red (cX (ixN n)) (cY (ixN n)) Bool.false) x5 (selG [SK.f Go.IntKind.u8 32 (fs a b s)])).snd.snd ∧ (Bool.true = Bool.true → Bool.true = Bool.true) ∧ (Bool.true = Bool.true → Bool.true = Bool.true) ∧ (x7 = Bool.true → x7 = Bool.true) ∧ (x7 = Bool.true → x7 = Bool.true) ∧ (x7 = Bool.true → x7 = Bool.true) ∧ (x10 = Bool.true → x10 = Bool.true) ∧ (x10 = Bool.true → x10 = Bool.true) ∧ ((x10 && x15) = Bool.true → (x10 && x15) = Bool.true) ∧ ((x10 && x15) = Bool.true → (x10 && x15) = Bool.true) ∧ (x10 = Bool.true → x10 = Bool.true) ∧ (x10 = Bool.true → x15 = Bool.true → (x10 && x15) = Bool.true) ∧ (x7 = Bool.true → x7 = Bool.true) ∧ (x7 = Bool.true → x9 = Bool.false → x10 = Bool.true) ∧ (x7 = Bool.true → x7 = Bool.true) ∧ (x17 = Bool.true → x17 = Bool.true) ∧ (x17 = Bool.true → x17 = Bool.true) ∧ (x17 = Bool.true → x17 = Bool.true) ∧ ((x17 && x9) = Bool.true → (x17 && x9) = Bool.true) ∧ (x17 = Bool.true → x17 = Bool.true) ∧ (x17 = Bool.true → x8 = Bool.false → (x17 && x9) = Bool.true) ∧ (x17 = Bool.true → x17 = Bool.true) ∧ ((x17 && !x18) = Bool.true → (x17 && !x18) = Bool.true) ∧ ((x17 && !x18) = Bool.true → (x17 && !x18) = Bool.true) ∧ (x17 = Bool.true → x17 = Bool.true) ∧ (x17 = Bool.true → x18 = Bool.false → (x17 && !x18) = Bool.true) ∧ (x17 = Bool.true → x17 = Bool.true) ∧ (x17 && (x18 || !x16)) = Bool.true) := by kernel_rfl
end Go.Proofs.YtohnkglcabfpjaaGreatDoor
end

section
namespace Go.Proofs.YtohnkglcabfpjaaGreatDoor
open Go.Sx
structure Made (I d : Nat) (g : Nat → Int) (R S : Nat) (o : Int) : Prop where
  ex : ∃ K, 1 ≤ K ∧ K < cN I ∧ R = (ptOf I K).1 % cN I ∧ o = ((ptOf I K).2.1 % 2 : Nat) + (if cN I ≤ (ptOf I K).1 then 2 else 0) ∧ ((cN I : Nat) : Int) ∣ (S : Int) * K - ((hS I g : Int) + (R : Int) * d)
  R1 : 1 ≤ R
  R2 : R < cN I
  S1 : 1 ≤ S
  S2 : 2 * S ≤ cN I
  o0 : 0 ≤ o
  o3 : o ≤ 3
theorem ptx_small {I K : Nat} (hi : I < 8) (hK : K < cN I) : (ptOf I K).1 % M256 = (ptOf I K).1 ∧ (ptOf I K).2.1 % M256 = (ptOf I K).2.1 := by
  have h := inM_pt hi hK
  exact ⟨Nat.mod_eq_of_lt h.x, Nat.mod_eq_of_lt h.y⟩
theorem oadd_is {I a b : Nat} (hi : I < 8) (ha : a < cN I) (hb : b < cN I) : oaddN (cN I) a b = (a + b) % cN I := by
  unfold oaddN
  rw [if_pos (fE_ok (cN_M hi) ha hb), cN_M hi, lt_M hi ha, lt_M hi hb]
theorem swP_at {I k : Nat} (hi : I < 8) (hk : k < cN I) : swP (cP I) 0 (ptOf I 1) k = ptOf I k := by
  have hr := cN_range hi
  have hM := M256_eq
  unfold swP
  rw [lt_M hi hk, (cmul_pt hi (show 1 < cN I by omega) (show k < M256 by omega)).2, Nat.mul_one, Nat.mod_eq_of_lt hk]
theorem swR_at {I k : Nat} (hi : I < 8) (hk : k < cN I) : swR (cP I) 0 (cN I) (ptOf I 1) k = (ptOf I k).1 % cN I := by
  unfold swR
  rw [swP_at hi hk, rest_is hi, (ptx_small hi hk).1]
theorem swS_at {I k d : Nat} {g : Nat → Int} (hi : I < 8) (k1 : 1 ≤ k) (hk : k < cN I) (hd : d < cN I) :
    swS (cP I) 0 (cN I) (ptOf I 1) k d g < cN I ∧ ((cN I : Nat) : Int) ∣ ((swS (cP I) 0 (cN I) (ptOf I 1) k d g : Nat) : Int) * k - ((hS I g : Int) + (((ptOf I k).1 % cN I : Nat) : Int) * d) := by
  have hr := (cN_range hi).1
  have lt : ∀ v, v % cN I < cN I := fun v => Nat.mod_lt v (by omega)
  obtain ⟨_, i2, i3⟩ := inv_sec hi k1 hk
  have hh := hS_lt hi g
  have e1 : restN (cN I) (fromN g 32) = hS I g := rest_is hi _
  have e : swS (cP I) 0 (cN I) (ptOf I 1) k d g = oinvN (cN I) k * ((hS I g + (ptOf I k).1 % cN I * d % cN I) % cN I) % cN I := by
    unfold swS
    rw [swR_at hi hk, e1, mul_is hi (lt _) hd, oadd_is hi hh (lt _), mul_is hi i2 (lt _)]
  rw [e]
  refine ⟨lt _, ?_⟩
  have c : Cg (cN I) (oinvN (cN I) k * ((hS I g + (ptOf I k).1 % cN I * d % cN I) % cN I) % cN I) (((oinvN (cN I) k : Nat) : Int) * ((hS I g : Int) + (((ptOf I k).1 % cN I : Nat) : Int) * d)) :=
    ((Cg.self _ _).mul ((Cg.self _ _).add ((Cg.self _ _).mul (Cg.self _ _)).md).md).md
  obtain ⟨z, hz⟩ := c.d
  obtain ⟨t, ht⟩ := i3
  generalize ((oinvN (cN I) k * ((hS I g + (ptOf I k).1 % cN I * d % cN I) % cN I) % cN I : Nat) : Int) = s at *
  generalize (hS I g : Int) + (((ptOf I k).1 % cN I : Nat) : Int) * d = q at *
  generalize ((oinvN (cN I) k : Nat) : Int) = u at *
  refine ⟨z * k + t * q, ?_⟩
  have e1 : s = u * q + (cN I : Int) * z := by omega
  have e2 : (k : Int) * u = 1 + (cN I : Int) * t := by omega
  rw [e1]
  have e3 : (u * q + (cN I : Int) * z) * (k : Int) = (k : Int) * u * q + (cN I : Int) * (z * k) := by grind
  rw [e3, e2]
  grind
theorem swE_at {I k d : Nat} {g : Nat → Int} (hi : I < 8) (k1 : 1 ≤ k) (hk : k < cN I) (hd : d < cN I) :
    swE (cP I) 0 (cN I) (ptOf I 1) k d g = if (ptOf I k).1 % cN I = 0 then 5 else if swS (cP I) 0 (cN I) (ptOf I 1) k d g = 0 then 5 else 0 := by
  have hr := (cN_range hi).1
  have lt : ∀ v, v % cN I < cN I := fun v => Nat.mod_lt v (by omega)
  obtain ⟨i1, _, _⟩ := inv_sec hi k1 hk
  have hs := (swS_at (g := g) hi k1 hk hd).1
  unfold swE
  rw [lt_M hi hk, if_neg (show ¬ k = 0 by omega), swP_at hi hk, swR_at hi hk, lt_M hi (lt _), i1, if_pos rfl, lt_M hi hs, pt_pos I k1]
  dsimp only
  rw [Bool.false_or]
  by_cases e : ((tabOf I).getD k (0, 0)).1 % cN I = 0
  · rw [if_pos e, if_pos (beq_iff_eq.2 e)]
  · rw [if_neg e, if_neg (by simpa using e)]
theorem swE_zero {I d : Nat} {g : Nat → Int} (hi : I < 8) : swE (cP I) 0 (cN I) (ptOf I 1) 0 d g = 5 := by
  unfold swE
  rw [Nat.zero_mod, if_pos rfl]
theorem swA_made {I k d : Nat} {g : Nat → Int} (hi : I < 8) (hk : k < cN I) (hd : d < cN I) (h : swE (cP I) 0 (cN I) (ptOf I 1) k d g ≠ 5) :
    swE (cP I) 0 (cN I) (ptOf I 1) k d g = 0 ∧ Made I d g (swA (cP I) 0 (cN I) (ptOf I 1) k d g).1 (swA (cP I) 0 (cN I) (ptOf I 1) k d g).2.1 (swA (cP I) 0 (cN I) (ptOf I 1) k d g).2.2 := by
  have hr := cN_range hi
  have hp := cP_range hi
  have lt : ∀ v, v % cN I < cN I := fun v => Nat.mod_lt v (by omega)
  have k1 : 1 ≤ k := by
    rcases Nat.eq_zero_or_pos k with e | e
    · subst e; exact absurd (swE_zero hi) h
    · exact e
  have e := swE_at (g := g) hi k1 hk hd
  rw [e] at h
  have r0 : ¬ (ptOf I k).1 % cN I = 0 := fun c => h (if_pos c)
  rw [if_neg r0] at h e
  have s0 : ¬ swS (cP I) 0 (cN I) (ptOf I 1) k d g = 0 := fun c => h (if_pos c)
  rw [if_neg s0] at e
  refine ⟨e, ?_⟩
  obtain ⟨hs, hc⟩ := swS_at (g := g) hi k1 hk hd
  unfold swA
  rw [if_pos e]
  dsimp only
  rw [swR_at hi hk, swP_at hi hk]
  generalize swS (cP I) 0 (cN I) (ptOf I 1) k d g = s at *
  have ho : oddO (cN I) (ptOf I k).1 (ptOf I k).2.1 = (((ptOf I k).2.1 % 2 : Nat) : Int) + (if cN I ≤ (ptOf I k).1 then 2 else 0) := by
    unfold oddO
    rw [cN_M hi, (ptx_small hi hk).1, (ptx_small hi hk).2]
  rw [ho]
  have hy := Nat.mod_lt (ptOf I k).2.1 (show 0 < 2 by decide)
  have hcase : ∀ o : Int, o = (((ptOf I k).2.1 % 2 : Nat) : Int) + (if cN I ≤ (ptOf I k).1 then 2 else 0) → 0 ≤ o ∧ o ≤ 3 ∧ o % 2 = (((ptOf I k).2.1 % 2 : Nat) : Int) := by
    intro o ho
    split at ho <;> omega
  obtain ⟨o0, o3, om⟩ := hcase _ rfl
  unfold lowS lowO
  rw [high_is hi (by omega) hs]
  by_cases hh : cN I - s < s
  · rw [decide_eq_true hh, if_pos rfl, if_pos rfl, min_is hi hs, Nat.zero_add, Nat.mod_eq_of_lt (show cN I - s < cN I by omega), om]
    obtain ⟨g1, g2, _, _, g5, g6, _⟩ := neg_pt hi k1 hk
    have hodd : cP I % 2 = 1 := by have := (good_all hi).P4; omega
    refine ⟨⟨cN I - k, by omega, by omega, by rw [g1], ?_, ?_⟩, Nat.pos_of_ne_zero r0, lt _, by omega, by omega, ?_, ?_⟩
    · rw [g1, g2]
      have : (cP I - (ptOf I k).2.1) % 2 = 1 - (ptOf I k).2.1 % 2 := by omega
      rw [this]
      omega
    · obtain ⟨z, hz⟩ := hc
      refine ⟨(cN I : Int) - k - s + z, ?_⟩
      rw [Int.ofNat_sub (Nat.le_of_lt hs), Int.ofNat_sub (Nat.le_of_lt hk)]
      have e1 : (s : Int) * k = (hS I g : Int) + (((ptOf I k).1 % cN I : Nat) : Int) * d + (cN I : Int) * z := by omega
      have e2 : ((cN I : Int) - s) * ((cN I : Int) - k) = (cN I : Int) * ((cN I : Int) - k - s) + (s : Int) * k := by grind
      rw [e2, e1]
      grind
    · omega
    · omega
  · rw [decide_eq_false hh, if_neg Bool.false_ne_true, if_neg Bool.false_ne_true]
    exact ⟨⟨k, k1, hk, rfl, rfl, hc⟩, Nat.pos_of_ne_zero r0, lt _, by omega, by omega, o0, o3⟩
theorem firstT_none {e : Nat → Int} : ∀ {n i : Nat}, firstT e n i = none → ∀ j, i ≤ j → j < i + n → e j = 5
  | 0, i, _, j, h1, h2 => by omega
  | n + 1, i, h, j, h1, h2 => by
    rw [firstT_step] at h
    split at h
    · rename_i h5
      rcases Nat.eq_or_lt_of_le h1 with e | e
      · subst e; exact h5
      · exact firstT_none h j e (by omega)
    · cases h
theorem firstT_some {e : Nat → Int} : ∀ {n i j : Nat}, firstT e n i = some j → e j ≠ 5
  | 0, i, j, h => by cases h
  | n + 1, i, j, h => by
    rw [firstT_step] at h
    split at h
    · exact firstT_some h
    · rename_i h5
      simp only [Option.some.injEq] at h
      subst h
      exact h5
theorem two_rests {I : Nat} (hi : I < 8) : (ptOf I 1).1 % cN I ≠ 0 ∧ (ptOf I 2).1 % cN I ≠ 0 ∧ (ptOf I 1).1 % cN I ≠ (ptOf I 2).1 % cN I := by
  have : ∀ i : Fin 8, (ptOf i.val 1).1 % cN i.val ≠ 0 ∧ (ptOf i.val 2).1 % cN i.val ≠ 0 ∧ (ptOf i.val 1).1 % cN i.val ≠ (ptOf i.val 2).1 % cN i.val := by decide +kernel
  exact this ⟨I, hi⟩
theorem one_of_two {I d : Nat} {g : Nat → Int} (hi : I < 8) (d1 : 1 ≤ d) (hd : d < cN I) : swE (cP I) 0 (cN I) (ptOf I 1) 1 d g ≠ 5 ∨ swE (cP I) 0 (cN I) (ptOf I 1) 2 d g ≠ 5 := by
  have hr := (cN_range hi).1
  obtain ⟨r1, r2, r3⟩ := two_rests hi
  rw [swE_at hi (Nat.le_refl 1) (by omega) hd, swE_at hi (by omega) (show 2 < cN I by omega) hd, if_neg r1, if_neg r2]
  obtain ⟨_, c1⟩ := swS_at (g := g) hi (Nat.le_refl 1) (show 1 < cN I by omega) hd
  obtain ⟨_, c2⟩ := swS_at (g := g) hi (show 1 ≤ 2 by omega) (show 2 < cN I by omega) hd
  by_cases s1 : swS (cP I) 0 (cN I) (ptOf I 1) 1 d g = 0
  · by_cases s2 : swS (cP I) 0 (cN I) (ptOf I 1) 2 d g = 0
    · exfalso
      rw [s1] at c1
      rw [s2] at c2
      have lt : ∀ v, v % cN I < cN I := fun v => Nat.mod_lt v (by omega)
      have l1 := lt (ptOf I 1).1
      have l2 := lt (ptOf I 2).1
      generalize (ptOf I 1).1 % cN I = a at *
      generalize (ptOf I 2).1 % cN I = b at *
      have c3 := Int.dvd_sub c1 c2
      rw [show ((0 : Nat) : Int) * ((1 : Nat) : Int) - ((hS I g : Int) + (a : Int) * d) - (((0 : Nat) : Int) * ((2 : Nat) : Int) - ((hS I g : Int) + (b : Int) * d)) = ((b : Int) - a) * d by grind] at c3
      have gc := (one_of hi d1 hd).gc
      have key : ∀ x y : Nat, x ≤ y → y < cN I → ((cN I : Nat) : Int) ∣ ((y : Int) - x) * d → x = y := by
        intro x y hxy hy hdv
        have e : ((y : Int) - x) * d = (((y - x) * d : Nat) : Int) := by rw [Int.natCast_mul, Int.ofNat_sub hxy]
        rw [e] at hdv
        have h1 := Int.natCast_dvd_natCast.1 hdv
        have h2 : cN I ∣ y - x := Nat.Coprime.dvd_of_dvd_mul_right (Nat.Coprime.symm gc) h1
        have := Nat.eq_zero_of_dvd_of_lt h2 (by omega)
        omega
      rcases Nat.le_total a b with h | h
      · exact r3 (key a b h l2 c3)
      · refine r3 (key b a h l1 ?_).symm
        obtain ⟨z, hz⟩ := c3
        exact ⟨-z, by rw [Int.mul_neg, ← hz]; grind⟩
    · exact .inr (by rw [if_neg s2]; decide)
  · exact .inl (by rw [if_neg s1]; decide)
theorem made_all {I d : Nat} {g : Nat → Int} (hi : I < 8) (d1 : 1 ≤ d) (hd : d < cN I) :
    mkE numN (cP I) 0 (cN I) (ptOf I 1) d g = 0 ∧ Made I d g (mkA numN (cP I) 0 (cN I) (ptOf I 1) d g).1 (mkA numN (cP I) 0 (cN I) (ptOf I 1) d g).2.1 (mkA numN (cP I) 0 (cN I) (ptOf I 1) d g).2.2 := by
  have hr := (cN_range hi).1
  have lt : ∀ v, v % cN I < cN I := fun v => Nat.mod_lt v (by omega)
  have small : ∀ i : Nat, 256 ≤ i → i ≤ 257 → tryK numN (cN I) d g i = i - 255 := by
    intro i h1 h2
    unfold tryK numN
    rw [if_pos (by omega), rest_is hi, show ((i : Int) - 255).toNat = i - 255 by omega, lt_M hi (show i - 255 < cN I by omega), Nat.mod_eq_of_lt (by omega)]
  unfold mkE mkA
  cases hf : firstT (tryE numN (cP I) 0 (cN I) (ptOf I 1) d g) 272 0 with
  | none =>
    exfalso
    have h1 := firstT_none hf 256 (by omega) (by omega)
    have h2 := firstT_none hf 257 (by omega) (by omega)
    unfold tryE at h1 h2
    rw [small 256 (by omega) (by omega)] at h1
    rw [small 257 (by omega) (by omega)] at h2
    rcases one_of_two (g := g) hi d1 hd with h | h
    · exact h h1
    · exact h h2
  | some i =>
    have h5 := firstT_some hf
    have hk : tryK numN (cN I) d g i < cN I := by
      unfold tryK
      rw [rest_is hi]
      exact lt _
    exact swA_made hi hk hd h5
end Go.Proofs.YtohnkglcabfpjaaGreatDoor
end

section
namespace Go.Proofs.YtohnkglcabfpjaaGreatDoor
open Go.Sx
theorem may_made {I d R S : Nat} {o : Int} {g : Nat → Int} (hi : I < 8) (m : Made I d g R S o) : mayB (cN I) R S o = true := may_of hi m.R1 m.R2 m.S1 m.S2 m.o0 m.o3
theorem rec_made {I d R S : Nat} {o : Int} {g g' : Nat → Int} (hi : I < 8) (d2 : d < cN I) (m : Made I d g R S o) :
    ∃ d', d' < cN I ∧ recE (cP I) 0 (cB I) (cN I) (ptOf I 1) g' R S o = (if d' = 0 then 10 else 0) ∧ (d' ≠ 0 → recA (cP I) 0 (cB I) (cN I) (ptOf I 1) g' R S o = ptOf I d') ∧ (hS I g = hS I g' → d' = d) ∧ (d' = d → hS I g = hS I g') := by
  obtain ⟨K, k1, k2, hR, ho, hdv⟩ := m.ex
  have R1 := m.R1
  have R2 := m.R2
  have S1 := m.S1
  have S2 := m.S2
  obtain ⟨p1, p2⟩ := pof_of hi k1 k2 hR ho
  have hm := may_made hi m
  obtain ⟨i1, _, d', l', hq, hc⟩ := rec_at (g := g') hi R1 R2 (show S < cN I by omega) k1 k2 p2
  obtain ⟨_, _, iu⟩ := inv_sec hi R1 R2
  have hd := ring_d iu hdv
  have e1 : recE (cP I) 0 (cB I) (cN I) (ptOf I 1) g' R S o = (if d' = 0 then 10 else 0) := by
    unfold recE
    rw [if_pos hm, if_pos p1, if_pos i1, hq]
    by_cases e : d' = 0
    · subst e
      rw [if_pos rfl]
      exact if_pos rfl
    · rw [if_neg e, if_neg]
      rw [pt_pos I (Nat.pos_of_ne_zero e)]
      exact Bool.false_ne_true
  refine ⟨d', l', e1, fun e => ?_, fun e => ?_, fun e => ?_⟩
  · unfold recA
    rw [e1, if_neg e, if_pos rfl, hq]
  · rw [e] at hd
    exact (hc.to hd).eq (Cg.self _ _) l' d2
  · subst e
    have c2 := hc.d
    obtain ⟨x, hx⟩ := hd
    obtain ⟨y, hy⟩ := c2
    obtain ⟨z, hz⟩ := iu
    generalize ((oinvN (cN I) R : Nat) : Int) = u at *
    have key : ((cN I : Nat) : Int) ∣ (hS I g : Int) - (hS I g' : Int) := by
      refine ⟨-((x + y) * R) - ((hS I g : Int) - hS I g') * z, ?_⟩
      have e1 : ((hS I g : Int) - hS I g') * u = -((cN I : Int) * (x + y)) := by
        rw [Int.mul_add, ← hx, ← hy]
        grind
      have e2 : (R : Int) * u = 1 + (cN I : Int) * z := by omega
      have e3 : ((hS I g : Int) - hS I g') * ((R : Int) * u) = ((hS I g : Int) - hS I g') * u * R := by grind
      rw [e2, e1] at e3
      grind
    have h1 := hS_lt hi g
    have h2 := hS_lt hi g'
    exact (Cg.mk key : Cg (cN I) (hS I g) (hS I g' : Int)).eq (Cg.self _ _) h1 h2
theorem chk_made {I d R S : Nat} {o : Int} {g : Nat → Int} (hi : I < 8) (d1 : 1 ≤ d) (d2 : d < cN I) (m : Made I d g R S o) : chkE (cP I) 0 (cN I) (ptOf I 1) (ptOf I d) g R S o = 0 := by
  obtain ⟨K, k1, k2, hR, ho, hdv⟩ := m.ex
  have S2 := m.S2
  have S1 := m.S1
  obtain ⟨_, _, iu⟩ := inv_sec hi m.R1 m.R2
  obtain ⟨_, _, iv⟩ := inv_sec hi m.S1 (show S < cN I by omega)
  exact chkE_ok hi (may_made hi m) m.R2 m.S1 (show S < cN I by omega) d1 d2 k1 k2 hR.symm (ring_K iu iv (ring_d iu hdv))
theorem mkOK_all {I d : Nat} {g : Nat → Int} (hi : I < 8) (d1 : 1 ≤ d) (d2 : d < cN I) (hg : byteOK 32 g) : mkOK (cP I) 0 (cB I) (cN I) (ptOf I 1) d g := by
  obtain ⟨_, _, _, _, _, _, fg⟩ := cx_facts hi
  have hr := (cN_range hi).1
  exact ⟨by rw [cN_M hi]; exact fg, sec_of hi d1 d2, hg, fun v => (cmul_pt hi (show 1 < cN I by omega) (Nat.mod_lt _ M_pos)).1⟩
theorem cxok_Sig : CxOK Tryz.prog (cxSig sumF (mkA numN) (mkE numN)) := CxOK_cons (FnOKg.up card_Curve glK) (CxOK_cons (FnOKg.up card_Secret glK) (CxOK_cons (FnOKg.up card_sumR glK) (CxOK_cons (FnOKg.up card_sTells glK) (CxOK_cons (FnOKg.up card_sPoint glK) (CxOK_cons card_Make (CxOK_cons (FnOKg.up card_Recover glK) (CxOK_cons (FnOKg.up card_Check glK) (CxOK_cons (FnOKg.up card_Sub glK) (CxOK_cons (FnOKg.up card_Cmp glK) (CxOK_cons (FnOKg.up card_DivMod glK) (CxOK_cons (FnOKg.up card_From glK) CxOK_nilK)))))))))))
theorem sel_self (g : Nat → Int) : selG [SK.f .u8 32 g] = g := rfl
theorem ok_SignRight : ∀ (n d k a b : Int) (s : ByteArray), i64ok n → i64ok d → i64ok k → i64ok a → i64ok b → Owes Tryz.prog (cxSig sumF (mkA numN) (mkE numN)) [] 100 Tryz.f3 [sI .i64 n, sI .i64 d, sRaw k a b s] yes := by
  intro n d k a b s hn hd hk ha hb
  rw [vc_SignRight]
  have hI := ixN_lt n
  generalize ixN n = I at *
  obtain ⟨fP, fB, fN, fb, fx, fcv, fg⟩ := cx_facts hI
  obtain ⟨n1, n2⟩ := cN_range hI
  have hM := M256_eq
  obtain ⟨_, D, D1, D2, _, _, D5⟩ := pick_one hI d
  rw [sel_self]
  have hgb := sumF_ok a b s
  generalize sumF a b s = g at *
  obtain ⟨m0, m⟩ := made_all (g := g) hI D1 D2
  have hmk := mkOK_all hI D1 D2 hgb
  generalize mkA numN = ma at *
  generalize mkE numN = me at *
  obtain ⟨R, S, o, hA⟩ : ∃ R S o, ma (cP I) 0 (cN I) (ptOf I 1) D g = (R, S, o) := ⟨_, _, _, rfl⟩
  rw [hA] at m
  have m : Made I D g R S o := m
  have hrec := recOK_all (g := g) (o := o) hI (show R < M256 by have := m.R2; omega) (show S < M256 by have := m.S2; omega) hgb
  have hchk := chkOK_all (g := g) (o := o) hI (show R < M256 by have := m.R2; omega) (show S < M256 by have := m.S2; omega) hgb D2
  obtain ⟨d', l', rE, rA, rd, _⟩ := rec_made (g' := g) hI D2 m
  have e := rd rfl
  subst e
  rw [if_neg (by omega)] at rE
  have rA := rA (by omega)
  have cE := chk_made hI D1 D2 m
  obtain ⟨c1, c2⟩ := cmul_pt hI (show 1 < cN I by omega) (show d' < M256 by omega)
  rw [Nat.mul_one, Nat.mod_eq_of_lt D2] at c2
  rw [fb]
  intro x1 x2 x3 x4 x5 x6 x7 x8 x9 x10 x11 x12 x13 x14 x15 x16 x17 x18
  have E1 : x1 = cP I := fP
  have E2 : x2 = I := by simp only [x2]; rw [E1]; exact fx
  have E3 : x3 = cB I := fB
  have E4 : x4 = d' := by simp only [x4]; rw [E2]; exact D5
  have E5 : x5 = d' := by simp only [x5]; rw [E4]; exact lt_M hI D2
  have E6 : x6 = R := by simp only [x6]; rw [E1, E4, hA]
  have E7 : x7 = S := by simp only [x7]; rw [E1, E4, hA]
  have E8 : x8 = o := by simp only [x8]; rw [E1, E4, hA]
  have E11 : x11 = R := E6
  have E12 : x12 = S := E7
  have E13 : x13 = o := E8
  have E10 : x10 = true := by simp only [x10, x9]; rw [E1, E4, m0]; rfl
  have E14 : x14 = true := by simp only [x14]; rw [E10, E1, E3, E11, E12, E13, rE]; rfl
  have E15 : x15 = (ptOf I d').1 := by simp only [x15]; rw [E1, E5, c2]
  have E16 : x16 = (ptOf I d').2.1 := by simp only [x16]; rw [E1, E5, c2]
  have E17 : x17 = (ptOf I d').2.2 := by simp only [x17]; rw [E1, E5, c2]
  have er : red x15 x16 x17 = ptOf I d' := by rw [E15, E16, E17]; exact red_pt hI D2
  have E18 : x18 = true := by simp only [x18]; rw [E14, er, E1, E11, E12, E13, cE]; rfl
  rw [er, E1, E2, E3, E4, E5, E6, E7, E8, E11, E12, E13, E15, E16, E17, rA, same_pt, E18, fN]
  exact ⟨hn, fcv, hd, fg, sec_of hI D1 D2, c1, hk, ha, hb, hmk, hk, ha, hb, hrec, id, id, id, id, id, id, id, fun _ => hk, fun _ => ha, fun _ => hb, id, id, id, id, fun _ => hchk, id, id, id, id, id, rfl⟩
end Go.Proofs.YtohnkglcabfpjaaGreatDoor
end
