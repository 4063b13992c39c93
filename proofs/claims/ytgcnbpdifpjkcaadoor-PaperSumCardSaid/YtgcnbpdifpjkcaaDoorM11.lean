/-
  Texts: V32, P62, Kl, V33, P63, P11, Byt, V103, P150.
-/
import Derived.Test.YtgcnbpdifpjkcaaDoorM1
import Derived.Test.YtgcnbpdifpjkcaaDoorM2
import Derived.Test.YtgcnbpdifpjkcaaDoorM3
import Derived.Test.YtgcnbpdifpjkcaaDoorM4
import Derived.Test.YtgcnbpdifpjkcaaDoorM5
import Derived.Test.YtgcnbpdifpjkcaaDoorM6
import Derived.Test.YtgcnbpdifpjkcaaDoorM7
import Derived.Test.YtgcnbpdifpjkcaaDoorM8
import Derived.Test.YtgcnbpdifpjkcaaDoorM9
import Derived.Test.YtgcnbpdifpjkcaaDoorM10
import Derived.Laws.Strings
section
namespace Go.Proofs.YtgcnbpdifpjkcaaDoor
open Go Go.Sx Go.RowKit
def cxEnd : Cx := ⟨[(20, specSp (fun _ _ _ => []) fun _ H N => .one (sB (mayG H N))), (21, specSp (fun L _ _ => [lanes 25 L]) soakG), (22, specRow .u64 .u8 25 32 (fun _ => []) firstG)], glK, 0, []⟩
def spOf (L H : Nat → Int) (N : Int) : Sp := ⟨ofRow L, H, N.toNat⟩
def endG (L H : Nat → Int) (N : Int) : SV := .tup [sRow .u8 32 (fun j => if mayG H N then endB (spOf L H N) j else 0), sI .i64 (if mayG H N then 0 else 12)]
def kAddG (L H : Nat → Int) (N : Int) (n : Nat) (f : Nat → Int) : SV := .tup [sSp (fun i => if mayG H N then lw ((addB (spOf L H N) f n).a i) else 0) (fun j => if mayG H N then (addB (spOf L H N) f n).H j else 0) (if mayG H N then ((addB (spOf L H N) f n).n : Int) else 0), sI .i64 (if mayG H N then 0 else 12)]
def invAdd (L H : Nat → Int) (N : Int) (n : Nat) (f : Nat → Int) : Inv where
  X := Nat × Option Addr × Nat
  tm y := slotsAt 34 [(1, .one (sXs y.2.1 (n - y.1) y.2.2 (fun i => f (y.1 + i)))), (2, .one (.sc (.ptr 0 0))), (4, .one (.sc (.ptr 1 0))), (5, .one (.sc (.num .i64 0)))]
  ob y := [.cells 49 [.f .u64 25 (fun i => lw ((addB (spOf L H N) f y.1).a i)), .f .u8 136 (addB (spOf L H N) f y.1).H, .c (.val (.int .i64 ((addB (spOf L H N) f y.1).n : Int)))] 0, .cells 49 (List.replicate 25 (.c (.num .u64 0)) ++ List.replicate 136 (.c (.num .u8 0)) ++ [.c (.num .i64 0)]) 0]
  holds y := mayG H N = true ∧ y.1 ≤ n
  less y := n - y.1
theorem vc_End (L H : Nat → Int) (N : Int) :
    Owes Tryd.prog cxEnd [] 10 Tryd.f19 [sSp L H N] (endG L H N) =
    (let x1 : Int := if mayG H N = Bool.true then (0 : Int) else (12 : Int); let x2 : Int := Go.IntKind.u8.wrap (H N.toNat + (1 : Int)); ((!mayG H N) = Bool.true → (((0 : Int) = if mayG H N = Bool.true then endB (spOf L H N) 0 else (0 : Int)) ∧ ((0 : Int) = if mayG H N = Bool.true then endB (spOf L H N) 1 else (0 : Int)) ∧ ((0 : Int) = if mayG H N = Bool.true then endB (spOf L H N) 2 else (0 : Int)) ∧ ((0 : Int) = if mayG H N = Bool.true then endB (spOf L H N) 3 else (0 : Int)) ∧ ((0 : Int) = if mayG H N = Bool.true then endB (spOf L H N) 4 else (0 : Int)) ∧ ((0 : Int) = if mayG H N = Bool.true then endB (spOf L H N) 5 else (0 : Int)) ∧ ((0 : Int) = if mayG H N = Bool.true then endB (spOf L H N) 6 else (0 : Int)) ∧ ((0 : Int) = if mayG H N = Bool.true then endB (spOf L H N) 7 else (0 : Int)) ∧ ((0 : Int) = if mayG H N = Bool.true then endB (spOf L H N) 8 else (0 : Int)) ∧ ((0 : Int) = if mayG H N = Bool.true then endB (spOf L H N) 9 else (0 : Int)) ∧ ((0 : Int) = if mayG H N = Bool.true then endB (spOf L H N) 10 else (0 : Int)) ∧ ((0 : Int) = if mayG H N = Bool.true then endB (spOf L H N) 11 else (0 : Int)) ∧ ((0 : Int) = if mayG H N = Bool.true then endB (spOf L H N) 12 else (0 : Int)) ∧ ((0 : Int) = if mayG H N = Bool.true then endB (spOf L H N) 13 else (0 : Int)) ∧ ((0 : Int) = if mayG H N = Bool.true then endB (spOf L H N) 14 else (0 : Int)) ∧ ((0 : Int) = if mayG H N = Bool.true then endB (spOf L H N) 15 else (0 : Int)) ∧ ((0 : Int) = if mayG H N = Bool.true then endB (spOf L H N) 16 else (0 : Int)) ∧ ((0 : Int) = if mayG H N = Bool.true then endB (spOf L H N) 17 else (0 : Int)) ∧ ((0 : Int) = if mayG H N = Bool.true then endB (spOf L H N) 18 else (0 : Int)) ∧ ((0 : Int) = if mayG H N = Bool.true then endB (spOf L H N) 19 else (0 : Int)) ∧ ((0 : Int) = if mayG H N = Bool.true then endB (spOf L H N) 20 else (0 : Int)) ∧ ((0 : Int) = if mayG H N = Bool.true then endB (spOf L H N) 21 else (0 : Int)) ∧ ((0 : Int) = if mayG H N = Bool.true then endB (spOf L H N) 22 else (0 : Int)) ∧ ((0 : Int) = if mayG H N = Bool.true then endB (spOf L H N) 23 else (0 : Int)) ∧ ((0 : Int) = if mayG H N = Bool.true then endB (spOf L H N) 24 else (0 : Int)) ∧ ((0 : Int) = if mayG H N = Bool.true then endB (spOf L H N) 25 else (0 : Int)) ∧ ((0 : Int) = if mayG H N = Bool.true then endB (spOf L H N) 26 else (0 : Int)) ∧ ((0 : Int) = if mayG H N = Bool.true then endB (spOf L H N) 27 else (0 : Int)) ∧ ((0 : Int) = if mayG H N = Bool.true then endB (spOf L H N) 28 else (0 : Int)) ∧ ((0 : Int) = if mayG H N = Bool.true then endB (spOf L H N) 29 else (0 : Int)) ∧ ((0 : Int) = if mayG H N = Bool.true then endB (spOf L H N) 30 else (0 : Int)) ∧ ((0 : Int) = if mayG H N = Bool.true then endB (spOf L H N) 31 else (0 : Int)) ∧ True) ∧ (12 : Int) = x1) ∧ ((!mayG H N) = Bool.false → ((0 : Int) ≤ N ∧ N < (136 : Int)) ∧ ((0 : Int) ≤ N ∧ N < (136 : Int)) ∧ ((0 : Int) ≤ N ∧ N < (136 : Int)) ∧ ((0 : Int) ≤ N ∧ N < (136 : Int)) ∧ (∀ (i : Nat), i < 25 → (0 : Int) ≤ L i ∧ L i < (18446744073709551616 : Int)) ∧ ((∀ (j : Nat), j < 32 → firstG (fun (i : Nat) => lw (soakB (ofRow L) (fun (j : Nat) => (intsL [SK.f Go.IntKind.u8 135 fun (j : Nat) => if j = N.toNat then x2 else H j, SK.c (SC.val (Go.Value.int Go.IntKind.u8 (Go.IntKind.u8.wrap ((if 135 = N.toNat then x2 else H 135) + (128 : Int)))))]).getD j (0 : Int)) i)) j = if mayG H N = Bool.true then endB (spOf L H N) j else (0 : Int)) ∧ True) ∧ (0 : Int) = x1)) := by kernel_rfl
set_option maxHeartbeats 4000000 in
theorem vc_kAdd (L H : Nat → Int) (N : Int) (a : Option Addr) (n cap : Nat) (f : Nat → Int) :
    Owes Tryd.prog cxEnd [(3, .inv (invAdd L H N n f))] 10 Tryd.f17 [sSp L H N, sXs a n cap f] (kAddG L H N n f) =
    (let x1 : Int := if mayG H N = Bool.true then (↑(addB (spOf L H N) f n).n : Int) else (0 : Int); let x2 : Int := if mayG H N = Bool.true then (0 : Int) else (12 : Int); ((!mayG H N) = Bool.true → (((0 : Int) = if mayG H N = Bool.true then lw ((addB (spOf L H N) f n).a 0) else (0 : Int)) ∧ ((0 : Int) = if mayG H N = Bool.true then lw ((addB (spOf L H N) f n).a 1) else (0 : Int)) ∧ ((0 : Int) = if mayG H N = Bool.true then lw ((addB (spOf L H N) f n).a 2) else (0 : Int)) ∧ ((0 : Int) = if mayG H N = Bool.true then lw ((addB (spOf L H N) f n).a 3) else (0 : Int)) ∧ ((0 : Int) = if mayG H N = Bool.true then lw ((addB (spOf L H N) f n).a 4) else (0 : Int)) ∧ ((0 : Int) = if mayG H N = Bool.true then lw ((addB (spOf L H N) f n).a 5) else (0 : Int)) ∧ ((0 : Int) = if mayG H N = Bool.true then lw ((addB (spOf L H N) f n).a 6) else (0 : Int)) ∧ ((0 : Int) = if mayG H N = Bool.true then lw ((addB (spOf L H N) f n).a 7) else (0 : Int)) ∧ ((0 : Int) = if mayG H N = Bool.true then lw ((addB (spOf L H N) f n).a 8) else (0 : Int)) ∧ ((0 : Int) = if mayG H N = Bool.true then lw ((addB (spOf L H N) f n).a 9) else (0 : Int)) ∧ ((0 : Int) = if mayG H N = Bool.true then lw ((addB (spOf L H N) f n).a 10) else (0 : Int)) ∧ ((0 : Int) = if mayG H N = Bool.true then lw ((addB (spOf L H N) f n).a 11) else (0 : Int)) ∧ ((0 : Int) = if mayG H N = Bool.true then lw ((addB (spOf L H N) f n).a 12) else (0 : Int)) ∧ ((0 : Int) = if mayG H N = Bool.true then lw ((addB (spOf L H N) f n).a 13) else (0 : Int)) ∧ ((0 : Int) = if mayG H N = Bool.true then lw ((addB (spOf L H N) f n).a 14) else (0 : Int)) ∧ ((0 : Int) = if mayG H N = Bool.true then lw ((addB (spOf L H N) f n).a 15) else (0 : Int)) ∧ ((0 : Int) = if mayG H N = Bool.true then lw ((addB (spOf L H N) f n).a 16) else (0 : Int)) ∧ ((0 : Int) = if mayG H N = Bool.true then lw ((addB (spOf L H N) f n).a 17) else (0 : Int)) ∧ ((0 : Int) = if mayG H N = Bool.true then lw ((addB (spOf L H N) f n).a 18) else (0 : Int)) ∧ ((0 : Int) = if mayG H N = Bool.true then lw ((addB (spOf L H N) f n).a 19) else (0 : Int)) ∧ ((0 : Int) = if mayG H N = Bool.true then lw ((addB (spOf L H N) f n).a 20) else (0 : Int)) ∧ ((0 : Int) = if mayG H N = Bool.true then lw ((addB (spOf L H N) f n).a 21) else (0 : Int)) ∧ ((0 : Int) = if mayG H N = Bool.true then lw ((addB (spOf L H N) f n).a 22) else (0 : Int)) ∧ ((0 : Int) = if mayG H N = Bool.true then lw ((addB (spOf L H N) f n).a 23) else (0 : Int)) ∧ ((0 : Int) = if mayG H N = Bool.true then lw ((addB (spOf L H N) f n).a 24) else (0 : Int)) ∧ ((0 : Int) = if mayG H N = Bool.true then (addB (spOf L H N) f n).H 0 else (0 : Int)) ∧ ((0 : Int) = if mayG H N = Bool.true then (addB (spOf L H N) f n).H 1 else (0 : Int)) ∧ ((0 : Int) = if mayG H N = Bool.true then (addB (spOf L H N) f n).H 2 else (0 : Int)) ∧ ((0 : Int) = if mayG H N = Bool.true then (addB (spOf L H N) f n).H 3 else (0 : Int)) ∧ ((0 : Int) = if mayG H N = Bool.true then (addB (spOf L H N) f n).H 4 else (0 : Int)) ∧ ((0 : Int) = if mayG H N = Bool.true then (addB (spOf L H N) f n).H 5 else (0 : Int)) ∧ ((0 : Int) = if mayG H N = Bool.true then (addB (spOf L H N) f n).H 6 else (0 : Int)) ∧ ((0 : Int) = if mayG H N = Bool.true then (addB (spOf L H N) f n).H 7 else (0 : Int)) ∧ ((0 : Int) = if mayG H N = Bool.true then (addB (spOf L H N) f n).H 8 else (0 : Int)) ∧ ((0 : Int) = if mayG H N = Bool.true then (addB (spOf L H N) f n).H 9 else (0 : Int)) ∧ ((0 : Int) = if mayG H N = Bool.true then (addB (spOf L H N) f n).H 10 else (0 : Int)) ∧ ((0 : Int) = if mayG H N = Bool.true then (addB (spOf L H N) f n).H 11 else (0 : Int)) ∧ ((0 : Int) = if mayG H N = Bool.true then (addB (spOf L H N) f n).H 12 else (0 : Int)) ∧ ((0 : Int) = if mayG H N = Bool.true then (addB (spOf L H N) f n).H 13 else (0 : Int)) ∧ ((0 : Int) = if mayG H N = Bool.true then (addB (spOf L H N) f n).H 14 else (0 : Int)) ∧ ((0 : Int) = if mayG H N = Bool.true then (addB (spOf L H N) f n).H 15 else (0 : Int)) ∧ ((0 : Int) = if mayG H N = Bool.true then (addB (spOf L H N) f n).H 16 else (0 : Int)) ∧ ((0 : Int) = if mayG H N = Bool.true then (addB (spOf L H N) f n).H 17 else (0 : Int)) ∧ ((0 : Int) = if mayG H N = Bool.true then (addB (spOf L H N) f n).H 18 else (0 : Int)) ∧ ((0 : Int) = if mayG H N = Bool.true then (addB (spOf L H N) f n).H 19 else (0 : Int)) ∧ ((0 : Int) = if mayG H N = Bool.true then (addB (spOf L H N) f n).H 20 else (0 : Int)) ∧ ((0 : Int) = if mayG H N = Bool.true then (addB (spOf L H N) f n).H 21 else (0 : Int)) ∧ ((0 : Int) = if mayG H N = Bool.true then (addB (spOf L H N) f n).H 22 else (0 : Int)) ∧ ((0 : Int) = if mayG H N = Bool.true then (addB (spOf L H N) f n).H 23 else (0 : Int)) ∧ ((0 : Int) = if mayG H N = Bool.true then (addB (spOf L H N) f n).H 24 else (0 : Int)) ∧ ((0 : Int) = if mayG H N = Bool.true then (addB (spOf L H N) f n).H 25 else (0 : Int)) ∧ ((0 : Int) = if mayG H N = Bool.true then (addB (spOf L H N) f n).H 26 else (0 : Int)) ∧ ((0 : Int) = if mayG H N = Bool.true then (addB (spOf L H N) f n).H 27 else (0 : Int)) ∧ ((0 : Int) = if mayG H N = Bool.true then (addB (spOf L H N) f n).H 28 else (0 : Int)) ∧ ((0 : Int) = if mayG H N = Bool.true then (addB (spOf L H N) f n).H 29 else (0 : Int)) ∧ ((0 : Int) = if mayG H N = Bool.true then (addB (spOf L H N) f n).H 30 else (0 : Int)) ∧ ((0 : Int) = if mayG H N = Bool.true then (addB (spOf L H N) f n).H 31 else (0 : Int)) ∧ ((0 : Int) = if mayG H N = Bool.true then (addB (spOf L H N) f n).H 32 else (0 : Int)) ∧ ((0 : Int) = if mayG H N = Bool.true then (addB (spOf L H N) f n).H 33 else (0 : Int)) ∧ ((0 : Int) = if mayG H N = Bool.true then (addB (spOf L H N) f n).H 34 else (0 : Int)) ∧ ((0 : Int) = if mayG H N = Bool.true then (addB (spOf L H N) f n).H 35 else (0 : Int)) ∧ ((0 : Int) = if mayG H N = Bool.true then (addB (spOf L H N) f n).H 36 else (0 : Int)) ∧ ((0 : Int) = if mayG H N = Bool.true then (addB (spOf L H N) f n).H 37 else (0 : Int)) ∧ ((0 : Int) = if mayG H N = Bool.true then (addB (spOf L H N) f n).H 38 else (0 : Int)) ∧ ((0 : Int) = if mayG H N = Bool.true then (addB (spOf L H N) f n).H 39 else (0 : Int)) ∧ ((0 : Int) = if mayG H N = Bool.true then (addB (spOf L H N) f n).H 40 else (0 : Int)) ∧ ((0 : Int) = if mayG H N = Bool.true then (addB (spOf L H N) f n).H 41 else (0 : Int)) ∧ ((0 : Int) = if mayG H N = Bool.true then (addB (spOf L H N) f n).H 42 else (0 : Int)) ∧ ((0 : Int) = if mayG H N = Bool.true then (addB (spOf L H N) f n).H 43 else (0 : Int)) ∧ ((0 : Int) = if mayG H N = Bool.true then (addB (spOf L H N) f n).H 44 else (0 : Int)) ∧ ((0 : Int) = if mayG H N = Bool.true then (addB (spOf L H N) f n).H 45 else (0 : Int)) ∧ ((0 : Int) = if mayG H N = Bool.true then (addB (spOf L H N) f n).H 46 else (0 : Int)) ∧ ((0 : Int) = if mayG H N = Bool.true then (addB (spOf L H N) f n).H 47 else (0 : Int)) ∧ ((0 : Int) = if mayG H N = Bool.true then (addB (spOf L H N) f n).H 48 else (0 : Int)) ∧ ((0 : Int) = if mayG H N = Bool.true then (addB (spOf L H N) f n).H 49 else (0 : Int)) ∧ ((0 : Int) = if mayG H N = Bool.true then (addB (spOf L H N) f n).H 50 else (0 : Int)) ∧ ((0 : Int) = if mayG H N = Bool.true then (addB (spOf L H N) f n).H 51 else (0 : Int)) ∧ ((0 : Int) = if mayG H N = Bool.true then (addB (spOf L H N) f n).H 52 else (0 : Int)) ∧ ((0 : Int) = if mayG H N = Bool.true then (addB (spOf L H N) f n).H 53 else (0 : Int)) ∧ ((0 : Int) = if mayG H N = Bool.true then (addB (spOf L H N) f n).H 54 else (0 : Int)) ∧ ((0 : Int) = if mayG H N = Bool.true then (addB (spOf L H N) f n).H 55 else (0 : Int)) ∧ ((0 : Int) = if mayG H N = Bool.true then (addB (spOf L H N) f n).H 56 else (0 : Int)) ∧ ((0 : Int) = if mayG H N = Bool.true then (addB (spOf L H N) f n).H 57 else (0 : Int)) ∧ ((0 : Int) = if mayG H N = Bool.true then (addB (spOf L H N) f n).H 58 else (0 : Int)) ∧ ((0 : Int) = if mayG H N = Bool.true then (addB (spOf L H N) f n).H 59 else (0 : Int)) ∧ ((0 : Int) = if mayG H N = Bool.true then (addB (spOf L H N) f n).H 60 else (0 : Int)) ∧ ((0 : Int) = if mayG H N = Bool.true then (addB (spOf L H N) f n).H 61 else (0 : Int)) ∧ ((0 : Int) = if mayG H N = Bool.true then (addB (spOf L H N) f n).H 62 else (0 : Int)) ∧ ((0 : Int) = if mayG H N = Bool.true then (addB (spOf L H N) f n).H 63 else (0 : Int)) ∧ ((0 : Int) = if mayG H N = Bool.true then (addB (spOf L H N) f n).H 64 else (0 : Int)) ∧ ((0 : Int) = if mayG H N = Bool.true then (addB (spOf L H N) f n).H 65 else (0 : Int)) ∧ ((0 : Int) = if mayG H N = Bool.true then (addB (spOf L H N) f n).H 66 else (0 : Int)) ∧ ((0 : Int) = if mayG H N = Bool.true then (addB (spOf L H N) f n).H 67 else (0 : Int)) ∧ ((0 : Int) = if mayG H N = Bool.true then (addB (spOf L H N) f n).H 68 else (0 : Int)) ∧ ((0 : Int) = if mayG H N = Bool.true then (addB (spOf L H N) f n).H 69 else (0 : Int)) ∧ ((0 : Int) = if mayG H N = Bool.true then (addB (spOf L H N) f n).H 70 else (0 : Int)) ∧ ((0 : Int) = if mayG H N = Bool.true then (addB (spOf L H N) f n).H 71 else (0 : Int)) ∧ ((0 : Int) = if mayG H N = Bool.true then (addB (spOf L H N) f n).H 72 else (0 : Int)) ∧ ((0 : Int) = if mayG H N = Bool.true then (addB (spOf L H N) f n).H 73 else (0 : Int)) ∧ ((0 : Int) = if mayG H N = Bool.true then (addB (spOf L H N) f n).H 74 else (0 : Int)) ∧ ((0 : Int) = if mayG H N = Bool.true then (addB (spOf L H N) f n).H 75 else (0 : Int)) ∧ ((0 : Int) = if mayG H N = Bool.true then (addB (spOf L H N) f n).H 76 else (0 : Int)) ∧ ((0 : Int) = if mayG H N = Bool.true then (addB (spOf L H N) f n).H 77 else (0 : Int)) ∧ ((0 : Int) = if mayG H N = Bool.true then (addB (spOf L H N) f n).H 78 else (0 : Int)) ∧ ((0 : Int) = if mayG H N = Bool.true then (addB (spOf L H N) f n).H 79 else (0 : Int)) ∧ ((0 : Int) = if mayG H N = Bool.true then (addB (spOf L H N) f n).H 80 else (0 : Int)) ∧ ((0 : Int) = if mayG H N = Bool.true then (addB (spOf L H N) f n).H 81 else (0 : Int)) ∧ ((0 : Int) = if mayG H N = Bool.true then (addB (spOf L H N) f n).H 82 else (0 : Int)) ∧ ((0 : Int) = if mayG H N = Bool.true then (addB (spOf L H N) f n).H 83 else (0 : Int)) ∧ ((0 : Int) = if mayG H N = Bool.true then (addB (spOf L H N) f n).H 84 else (0 : Int)) ∧ ((0 : Int) = if mayG H N = Bool.true then (addB (spOf L H N) f n).H 85 else (0 : Int)) ∧ ((0 : Int) = if mayG H N = Bool.true then (addB (spOf L H N) f n).H 86 else (0 : Int)) ∧ ((0 : Int) = if mayG H N = Bool.true then (addB (spOf L H N) f n).H 87 else (0 : Int)) ∧ ((0 : Int) = if mayG H N = Bool.true then (addB (spOf L H N) f n).H 88 else (0 : Int)) ∧ ((0 : Int) = if mayG H N = Bool.true then (addB (spOf L H N) f n).H 89 else (0 : Int)) ∧ ((0 : Int) = if mayG H N = Bool.true then (addB (spOf L H N) f n).H 90 else (0 : Int)) ∧ ((0 : Int) = if mayG H N = Bool.true then (addB (spOf L H N) f n).H 91 else (0 : Int)) ∧ ((0 : Int) = if mayG H N = Bool.true then (addB (spOf L H N) f n).H 92 else (0 : Int)) ∧ ((0 : Int) = if mayG H N = Bool.true then (addB (spOf L H N) f n).H 93 else (0 : Int)) ∧ ((0 : Int) = if mayG H N = Bool.true then (addB (spOf L H N) f n).H 94 else (0 : Int)) ∧ ((0 : Int) = if mayG H N = Bool.true then (addB (spOf L H N) f n).H 95 else (0 : Int)) ∧ ((0 : Int) = if mayG H N = Bool.true then (addB (spOf L H N) f n).H 96 else (0 : Int)) ∧ ((0 : Int) = if mayG H N = Bool.true then (addB (spOf L H N) f n).H 97 else (0 : Int)) ∧ ((0 : Int) = if mayG H N = Bool.true then (addB (spOf L H N) f n).H 98 else (0 : Int)) ∧ ((0 : Int) = if mayG H N = Bool.true then (addB (spOf L H N) f n).H 99 else (0 : Int)) ∧ ((0 : Int) = if mayG H N = Bool.true then (addB (spOf L H N) f n).H 100 else (0 : Int)) ∧ ((0 : Int) = if mayG H N = Bool.true then (addB (spOf L H N) f n).H 101 else (0 : Int)) ∧ ((0 : Int) = if mayG H N = Bool.true then (addB (spOf L H N) f n).H 102 else (0 : Int)) ∧ ((0 : Int) = if mayG H N = Bool.true then (addB (spOf L H N) f n).H 103 else (0 : Int)) ∧ ((0 : Int) = if mayG H N = Bool.true then (addB (spOf L H N) f n).H 104 else (0 : Int)) ∧ ((0 : Int) = if mayG H N = Bool.true then (addB (spOf L H N) f n).H 105 else (0 : Int)) ∧ ((0 : Int) = if mayG H N = Bool.true then (addB (spOf L H N) f n).H 106 else (0 : Int)) ∧ ((0 : Int) = if mayG H N = Bool.true then (addB (spOf L H N) f n).H 107 else (0 : Int)) ∧ ((0 : Int) = if mayG H N = Bool.true then (addB (spOf L H N) f n).H 108 else (0 : Int)) ∧ ((0 : Int) = if mayG H N = Bool.true then (addB (spOf L H N) f n).H 109 else (0 : Int)) ∧ ((0 : Int) = if mayG H N = Bool.true then (addB (spOf L H N) f n).H 110 else (0 : Int)) ∧ ((0 : Int) = if mayG H N = Bool.true then (addB (spOf L H N) f n).H 111 else (0 : Int)) ∧ ((0 : Int) = if mayG H N = Bool.true then (addB (spOf L H N) f n).H 112 else (0 : Int)) ∧ ((0 : Int) = if mayG H N = Bool.true then (addB (spOf L H N) f n).H 113 else (0 : Int)) ∧ ((0 : Int) = if mayG H N = Bool.true then (addB (spOf L H N) f n).H 114 else (0 : Int)) ∧ ((0 : Int) = if mayG H N = Bool.true then (addB (spOf L H N) f n).H 115 else (0 : Int)) ∧ ((0 : Int) = if mayG H N = Bool.true then (addB (spOf L H N) f n).H 116 else (0 : Int)) ∧ ((0 : Int) = if mayG H N = Bool.true then (addB (spOf L H N) f n).H 117 else (0 : Int)) ∧ ((0 : Int) = if mayG H N = Bool.true then (addB (spOf L H N) f n).H 118 else (0 : Int)) ∧ ((0 : Int) = if mayG H N = Bool.true then (addB (spOf L H N) f n).H 119 else (0 : Int)) ∧ ((0 : Int) = if mayG H N = Bool.true then (addB (spOf L H N) f n).H 120 else (0 : Int)) ∧ ((0 : Int) = if mayG H N = Bool.true then (addB (spOf L H N) f n).H 121 else (0 : Int)) ∧ ((0 : Int) = if mayG H N = Bool.true then (addB (spOf L H N) f n).H 122 else (0 : Int)) ∧ ((0 : Int) = if mayG H N = Bool.true then (addB (spOf L H N) f n).H 123 else (0 : Int)) ∧ ((0 : Int) = if mayG H N = Bool.true then (addB (spOf L H N) f n).H 124 else (0 : Int)) ∧ ((0 : Int) = if mayG H N = Bool.true then (addB (spOf L H N) f n).H 125 else (0 : Int)) ∧ ((0 : Int) = if mayG H N = Bool.true then (addB (spOf L H N) f n).H 126 else (0 : Int)) ∧ ((0 : Int) = if mayG H N = Bool.true then (addB (spOf L H N) f n).H 127 else (0 : Int)) ∧ ((0 : Int) = if mayG H N = Bool.true then (addB (spOf L H N) f n).H 128 else (0 : Int)) ∧ ((0 : Int) = if mayG H N = Bool.true then (addB (spOf L H N) f n).H 129 else (0 : Int)) ∧ ((0 : Int) = if mayG H N = Bool.true then (addB (spOf L H N) f n).H 130 else (0 : Int)) ∧ ((0 : Int) = if mayG H N = Bool.true then (addB (spOf L H N) f n).H 131 else (0 : Int)) ∧ ((0 : Int) = if mayG H N = Bool.true then (addB (spOf L H N) f n).H 132 else (0 : Int)) ∧ ((0 : Int) = if mayG H N = Bool.true then (addB (spOf L H N) f n).H 133 else (0 : Int)) ∧ ((0 : Int) = if mayG H N = Bool.true then (addB (spOf L H N) f n).H 134 else (0 : Int)) ∧ ((0 : Int) = if mayG H N = Bool.true then (addB (spOf L H N) f n).H 135 else (0 : Int)) ∧ (0 : Int) = x1 ∧ True) ∧ (12 : Int) = x2) ∧ ((!mayG H N) = Bool.false → (∀ (y : Nat × Option Go.Addr × Nat), closedB (slotsAt 34 [(1, SV.one (sXs y.snd.fst (n - y.fst) y.snd.snd fun (i : Nat) => f (y.fst + i))), (2, SV.one (SA.sc (SC.ptr 0 0))), (4, SV.one (SA.sc (SC.ptr 1 0))), (5, SV.one (SA.sc (SC.num Go.IntKind.i64 (0 : Int))))]) [SO.cells (49 : Go.TypeId) [SK.f Go.IntKind.u64 25 fun (i : Nat) => lw ((addB (spOf L H N) f y.fst).a i), SK.f Go.IntKind.u8 136 (addB (spOf L H N) f y.fst).H, SK.c (SC.val (Go.Value.int Go.IntKind.i64 (↑(addB (spOf L H N) f y.fst).n : Int)))] 0, SO.cells (49 : Go.TypeId) (List.replicate 25 (SK.c (SC.num Go.IntKind.u64 (0 : Int))) ++ List.replicate 136 (SK.c (SC.num Go.IntKind.u8 (0 : Int))) ++ [SK.c (SC.num Go.IntKind.i64 (0 : Int))]) 0] = Bool.true) ∧ ∃ (y : Nat × Option Go.Addr × Nat), (mayG H N = Bool.true ∧ y.fst ≤ n) ∧ (a = y.snd.fst ∧ n = n - y.fst ∧ cap = y.snd.snd ∧ ∀ (i : Nat), i < n → f i = f (y.fst + i)) ∧ ((∀ (j : Nat), j < 25 → L j = lw ((addB (spOf L H N) f y.fst).a j)) ∧ (∀ (j : Nat), j < 136 → H j = (addB (spOf L H N) f y.fst).H j) ∧ N = (↑(addB (spOf L H N) f y.fst).n : Int) ∧ True) ∧ 0 = 0 ∧ 0 = 0 ∧ ∀ (y : Nat × Option Go.Addr × Nat), mayG H N = Bool.true ∧ y.fst ≤ n → (Decidable.decide ((↑(n - y.fst) : Int) > (0 : Int)) = Bool.true → ((0 : Int) ≤ (↑(addB (spOf L H N) f y.fst).n : Int) ∧ (↑(addB (spOf L H N) f y.fst).n : Int) < (136 : Int)) ∧ (↑(addB (spOf L H N) f y.fst).n : Int).toNat ≤ 136 ∧ (∀ (j : Nat), True) ∧ ((0 : Int) ≤ (↑((n - y.fst).min (136 - (↑(addB (spOf L H N) f y.fst).n : Int).toNat)) : Int) ∧ (↑((n - y.fst).min (136 - (↑(addB (spOf L H N) f y.fst).n : Int).toNat)) : Int) ≤ (↑(n - y.fst) : Int) ∧ (↑(n - y.fst) : Int) ≤ (↑(n - y.fst) : Int)) ∧ ((Go.IntKind.i64.wrap ((↑(addB (spOf L H N) f y.fst).n : Int) + (↑((n - y.fst).min (136 - (↑(addB (spOf L H N) f y.fst).n : Int).toNat)) : Int)) == (136 : Int)) = Bool.true → (∀ (i : Nat), i < 25 → (0 : Int) ≤ lw ((addB (spOf L H N) f y.fst).a i) ∧ lw ((addB (spOf L H N) f y.fst).a i) < (18446744073709551616 : Int)) ∧ ∃ (y' : Nat × Option Go.Addr × Nat), (mayG H N = Bool.true ∧ y'.fst ≤ n) ∧ (adS y.snd.snd (↑((n - y.fst).min (136 - (↑(addB (spOf L H N) f y.fst).n : Int).toNat)) : Int).toNat 1 y.snd.fst = y'.snd.fst ∧ n - y.fst - (↑((n - y.fst).min (136 - (↑(addB (spOf L H N) f y.fst).n : Int).toNat)) : Int).toNat = n - y'.fst ∧ y.snd.snd - (↑((n - y.fst).min (136 - (↑(addB (spOf L H N) f y.fst).n : Int).toNat)) : Int).toNat = y'.snd.snd ∧ ∀ (i : Nat), i < n - y.fst - (↑((n - y.fst).min (136 - (↑(addB (spOf L H N) f y.fst).n : Int).toNat)) : Int).toNat → f (y.fst + ((↑((n - y.fst).min (136 - (↑(addB (spOf L H N) f y.fst).n : Int).toNat)) : Int).toNat + i)) = f (y'.fst + i)) ∧ ((∀ (j : Nat), j < 25 → lw (soakB (ofRow fun (i : Nat) => lw ((addB (spOf L H N) f y.fst).a i)) (fun (j : Nat) => if (↑(addB (spOf L H N) f y.fst).n : Int).toNat ≤ j ∧ j < (↑(addB (spOf L H N) f y.fst).n : Int).toNat + (n - y.fst).min (136 - (↑(addB (spOf L H N) f y.fst).n : Int).toNat) then f (y.fst + (j - (↑(addB (spOf L H N) f y.fst).n : Int).toNat)) else (addB (spOf L H N) f y.fst).2 j) j) = lw ((addB (spOf L H N) f y'.fst).a j)) ∧ (∀ (j : Nat), j < 136 → (0 : Int) = (addB (spOf L H N) f y'.fst).H j) ∧ (0 : Int) = (↑(addB (spOf L H N) f y'.fst).n : Int) ∧ True) ∧ 0 = 0 ∧ 0 = 0 ∧ n - y'.fst < n - y.fst) ∧ ((Go.IntKind.i64.wrap ((↑(addB (spOf L H N) f y.fst).n : Int) + (↑((n - y.fst).min (136 - (↑(addB (spOf L H N) f y.fst).n : Int).toNat)) : Int)) == (136 : Int)) = Bool.false → ∃ (y' : Nat × Option Go.Addr × Nat), (mayG H N = Bool.true ∧ y'.fst ≤ n) ∧ (adS y.snd.snd (↑((n - y.fst).min (136 - (↑(addB (spOf L H N) f y.fst).n : Int).toNat)) : Int).toNat 1 y.snd.fst = y'.snd.fst ∧ n - y.fst - (↑((n - y.fst).min (136 - (↑(addB (spOf L H N) f y.fst).n : Int).toNat)) : Int).toNat = n - y'.fst ∧ y.snd.snd - (↑((n - y.fst).min (136 - (↑(addB (spOf L H N) f y.fst).n : Int).toNat)) : Int).toNat = y'.snd.snd ∧ ∀ (i : Nat), i < n - y.fst - (↑((n - y.fst).min (136 - (↑(addB (spOf L H N) f y.fst).n : Int).toNat)) : Int).toNat → f (y.fst + ((↑((n - y.fst).min (136 - (↑(addB (spOf L H N) f y.fst).n : Int).toNat)) : Int).toNat + i)) = f (y'.fst + i)) ∧ ((∀ (j : Nat), j < 25 → lw ((addB (spOf L H N) f y.fst).a j) = lw ((addB (spOf L H N) f y'.fst).a j)) ∧ (∀ (j : Nat), j < 136 → (if (↑(addB (spOf L H N) f y.fst).n : Int).toNat ≤ j ∧ j < (↑(addB (spOf L H N) f y.fst).n : Int).toNat + (n - y.fst).min (136 - (↑(addB (spOf L H N) f y.fst).n : Int).toNat) then f (y.fst + (j - (↑(addB (spOf L H N) f y.fst).n : Int).toNat)) else (addB (spOf L H N) f y.fst).2 j) = (addB (spOf L H N) f y'.fst).H j) ∧ Go.IntKind.i64.wrap ((↑(addB (spOf L H N) f y.fst).n : Int) + (↑((n - y.fst).min (136 - (↑(addB (spOf L H N) f y.fst).n : Int).toNat)) : Int)) = (↑(addB (spOf L H N) f y'.fst).n : Int) ∧ True) ∧ 0 = 0 ∧ 0 = 0 ∧ n - y'.fst < n - y.fst)) ∧ (Decidable.decide ((↑(n - y.fst) : Int) > (0 : Int)) = Bool.false → ((∀ (j : Nat), j < 25 → lw ((addB (spOf L H N) f y.fst).a j) = if mayG H N = Bool.true then lw ((addB (spOf L H N) f n).a j) else (0 : Int)) ∧ (∀ (j : Nat), j < 136 → (addB (spOf L H N) f y.fst).H j = if mayG H N = Bool.true then (addB (spOf L H N) f n).H j else (0 : Int)) ∧ (↑(addB (spOf L H N) f y.fst).n : Int) = x1 ∧ True) ∧ (0 : Int) = x2))) := by kernel_rfl
end Go.Proofs.YtgcnbpdifpjkcaaDoor
end

section
namespace Go.Proofs.YtgcnbpdifpjkcaaDoor
open Go Go.Sx Go.RowKit
theorem pushB_lt {s : Sp} (h : s.n < 136) (b : Int) : (pushB s b).n < 136 := by
  unfold pushB
  split
  · exact Nat.zero_lt_succ _
  · simp only; omega
theorem addB_lt {s : Sp} (h : s.n < 136) (f : Nat → Int) : ∀ p, (addB s f p).n < 136
  | 0 => h
  | p + 1 => pushB_lt (addB_lt h f p) _
theorem addB_add (s : Sp) (f : Nat → Int) (p : Nat) : ∀ m, addB (addB s f p) (fun i => f (p + i)) m = addB s f (p + m)
  | 0 => rfl
  | m + 1 => by
    show pushB _ _ = pushB _ _
    rw [addB_add s f p m]
    rfl
theorem addB_congr {s : Sp} {f g : Nat → Int} : ∀ {m : Nat}, (∀ i, i < m → f i = g i) → addB s f m = addB s g m
  | 0, _ => rfl
  | m + 1, h => by
    show pushB _ _ = pushB _ _
    rw [addB_congr (fun i hi => h i (by omega)), h m (by omega)]
theorem addB_held (t : Sp) (g : Nat → Int) : ∀ m, t.n + m < 136 → addB t g m = ⟨t.a, fun j => if t.n ≤ j ∧ j < t.n + m then g (j - t.n) else t.H j, t.n + m⟩
  | 0, _ => by
    have : (fun j => if t.n ≤ j ∧ j < t.n + 0 then g (j - t.n) else t.H j) = t.H := by
      funext j
      rw [if_neg (by omega)]
    rw [this]; rfl
  | m + 1, h => by
    show pushB _ _ = _
    rw [addB_held t g m (by omega)]
    unfold pushB
    simp only
    rw [if_neg (by omega)]
    congr 1
    funext j
    by_cases e : j = t.n + m
    · subst e
      rw [if_pos rfl, if_pos (by omega)]
      congr 1; omega
    · rw [if_neg e]
      by_cases c : t.n ≤ j ∧ j < t.n + m
      · rw [if_pos c, if_pos (by omega)]
      · rw [if_neg c, if_neg (by omega)]
theorem addB_full (t : Sp) (g : Nat → Int) {m : Nat} (hn : t.n < 136) (h : t.n + m = 136) : addB t g m = ⟨soakB t.a (fun j => if t.n ≤ j ∧ j < t.n + m then g (j - t.n) else t.H j), fun _ => 0, 0⟩ := by
  match m, h with
  | 0, h => omega
  | m + 1, h =>
    show pushB _ _ = _
    rw [addB_held t g m (by omega)]
    unfold pushB
    simp only
    rw [if_pos (by omega)]
    congr 2
    funext j
    by_cases e : j = t.n + m
    · subst e
      rw [if_pos rfl, if_pos (by omega)]
      congr 1; omega
    · rw [if_neg e]
      by_cases c : t.n ≤ j ∧ j < t.n + m
      · rw [if_pos c, if_pos (by omega)]
      · rw [if_neg c, if_neg (by omega)]
theorem may_lt {L H : Nat → Int} {N : Int} (h : mayG H N = true) : (spOf L H N).n < 136 := by
  obtain ⟨⟨h1, h2⟩, _⟩ := (mayG_iff H N).1 h
  show N.toNat < 136
  omega
theorem ok_kAdd (L H : Nat → Int) (N : Int) (a : Option Addr) (n cap : Nat) (f : Nat → Int) (hL : lanes 25 L) :
    Owes Tryd.prog cxEnd [(3, .inv (invAdd L H N n f))] 10 Tryd.f17 [sSp L H N, sXs a n cap f] (kAddG L H N n f) := by
  rw [vc_kAdd]
  intro x1 x2
  refine ⟨fun hm => ?_, fun hm => ?_⟩
  · have hm : mayG H N = false := by simpa using hm
    simp only [x1, x2, hm, Bool.false_eq_true, if_false, and_self]
  · have hm : mayG H N = true := by simpa using hm
    obtain ⟨⟨hN1, hN2⟩, _⟩ := (mayG_iff H N).1 hm
    refine ⟨fun y => rfl, (0, a, cap), ⟨hm, Nat.zero_le _⟩, ⟨rfl, rfl, rfl, fun i _ => by simp only [Nat.zero_add]⟩, ⟨fun j hj => (lw_ofRow hL hj).symm, fun _ _ => rfl, ?_, trivial⟩, rfl, rfl, ?_⟩
    · show N = ((N.toNat : Nat) : Int)
      omega
    rintro ⟨p, ad, cp⟩ ⟨_, hp⟩
    simp only at hp ⊢
    have htl : (addB (spOf L H N) f p).n < 136 := addB_lt (may_lt hm) f p
    refine ⟨fun hlt => ?_, fun hge => ?_⟩
    · have hlt : 0 < ((n - p : Nat) : Int) := of_decide_eq_true hlt
      have hadd := addB_add (spOf L H N) f p
      generalize ht : addB (spOf L H N) f p = t at *
      generalize hq : (n - p).min (136 - ((t.n : Nat) : Int).toNat) = q
      have hq1 : q ≤ n - p := by rw [← hq]; exact Nat.min_le_left _ _
      have hq2 : q ≤ 136 - t.n := by rw [← hq]; exact Nat.min_le_right _ _
      have hq3 : q ≠ 0 := by
        rw [← hq]
        have : 0 < (n - p).min (136 - ((t.n : Nat) : Int).toNat) := Nat.lt_min.2 ⟨by omega, by omega⟩
        omega
      refine ⟨⟨by omega, by omega⟩, by omega, fun _ => trivial, ⟨by omega, by omega, by omega⟩, fun hf => ?_, fun hf => ?_⟩
      · have hf : IntKind.i64.wrap ((t.n : Int) + (q : Int)) = 136 := by simpa using hf
        rw [wrap_small (by omega)] at hf
        have hfull := addB_full t (fun i => f (p + i)) htl (m := q) (by omega)
        rw [hadd q] at hfull
        refine ⟨lanes_lw _ _, (p + q, _, _), ⟨hm, by simp only; omega⟩, ⟨rfl, by simp only [Int.toNat_natCast]; omega, rfl, fun i _ => by simp only [Int.toNat_natCast, Nat.add_assoc]⟩, ⟨fun j _ => ?_, fun j _ => ?_, ?_, trivial⟩, trivial, trivial, by simp only; omega⟩
        · simp only [hfull, ofRow_lw, Int.toNat_natCast]
        · simp only [hfull]
        · simp only [hfull]; rfl
      · have hf : IntKind.i64.wrap ((t.n : Int) + (q : Int)) ≠ 136 := by simpa using hf
        rw [wrap_small (by omega)] at hf
        have hheld := addB_held t (fun i => f (p + i)) q (by omega)
        rw [hadd q] at hheld
        refine ⟨(p + q, _, _), ⟨hm, by simp only; omega⟩, ⟨rfl, by simp only [Int.toNat_natCast]; omega, rfl, fun i _ => by simp only [Int.toNat_natCast, Nat.add_assoc]⟩, ⟨fun j _ => ?_, fun j _ => ?_, ?_, trivial⟩, trivial, trivial, by simp only; omega⟩
        · simp only [hheld]
        · simp only [hheld, Int.toNat_natCast]
        · simp only [hheld]; rw [wrap_small (by omega)]; omega
    · have hge : ¬ 0 < ((n - p : Nat) : Int) := of_decide_eq_false hge
      have : p = n := by omega
      subst this
      simp only [x1, x2, hm, if_true, and_self, implies_true]
theorem bnd_row (k : IntKind) (m : Nat) (g : Nat → Int) (n : Env) : (sRow k m g).bnd n := by
  intro x hx; simp only [List.mem_singleton] at hx; subst hx; trivial
theorem card_kAdd : FnOKg Tryd.prog glK 17 (specSpB (fun L _ _ _ _ => [lanes 25 L]) kAddG) :=
  FnOK_SpB (cx := cxEnd) (iv := fun L H N _ n _ f => [(3, .inv (invAdd L H N n f))]) (by
    refine ⟨fun p hp => ?_, fun _ h => (by cases h)⟩
    simp only [cxEnd, List.mem_cons, List.not_mem_nil, or_false] at hp
    rcases hp with rfl | rfl | rfl
    · exact card_kMay
    · exact card_soak
    · exact card_first) Tryd.func17 (by kernel_rfl) (by kernel_rfl) (fun _ _ _ _ _ => by
    intro x hx
    simp only [List.mem_cons, List.not_mem_nil, or_false] at hx
    rcases hx with rfl | rfl
    · exact bnd_sSp _ _ _ _
    · trivial) fun L H N a n cap f hc => ok_kAdd L H N a n cap f hc.1
theorem absB_congr {a : Nat → BitVec 64} {H H' : Nat → Int} : ∀ {m : Nat}, (∀ j, j < m → H j = H' j) → absB a H m = absB a H' m
  | 0, _ => rfl
  | m + 1, h => by
    have ih := absB_congr (a := a) (m := m) (fun j hj => h j (by omega))
    simp only [absB, ih, h m (by omega)]
theorem soakB_congr {a : Nat → BitVec 64} {H H' : Nat → Int} (h : ∀ j, j < 136 → H j = H' j) : soakB a H = soakB a H' := by
  unfold soakB; rw [absB_congr h]
set_option maxRecDepth 100000 in
theorem ok_End (L H : Nat → Int) (N : Int) (hL : lanes 25 L) : Owes Tryd.prog cxEnd [] 10 Tryd.f19 [sSp L H N] (endG L H N) := by
  rw [vc_End]
  generalize hW : endB (spOf L H N) = W
  intro x1 x2
  constructor <;> intro hm
  · have hm : mayG H N = false := by simpa using hm
    simp only [x1, hm, Bool.false_eq_true, if_false, and_self]
  · have hm : mayG H N = true := by simpa using hm
    obtain ⟨⟨hN1, hN2⟩, _⟩ := (mayG_iff H N).1 hm
    refine ⟨⟨hN1, hN2⟩, ⟨hN1, hN2⟩, ⟨hN1, hN2⟩, ⟨hN1, hN2⟩, hL, ⟨fun j _ => ?_, trivial⟩, by simp only [x1, hm, if_true]⟩
    refine Eq.trans ?_ (if_pos hm).symm
    rw [← hW]
    refine congrArg (fun F => firstG F j) (funext fun i => congrArg (fun F => lw (F i)) (soakB_congr (a := ofRow L) (H' := padB H N.toNat) fun j hj => ?_))
    simp only [intsL]
    by_cases e : j = 135
    · subst e
      rw [List.getD_eq_getElem?_getD, List.getElem?_append_right (by simp)]
      simp only [List.length_map, List.length_range, Nat.sub_self, List.getElem?_cons_zero, Option.getD_some]
      simp only [intsC, asI, padB, if_true, pad1, x2]
      by_cases e2 : 135 = N.toNat
      · rw [if_pos e2, if_pos e2, e2]
      · rw [if_neg e2, if_neg e2]
    · rw [List.getD_eq_getElem?_getD, List.getElem?_append_left (by simp; omega), List.getElem?_map, List.getElem?_range (by omega)]
      simp only [Option.map_some, Option.getD_some, padB, e, if_false, pad1, x2]
      by_cases e2 : j = N.toNat
      · rw [if_pos e2, if_pos e2, e2]
      · rw [if_neg e2, if_neg e2]
theorem card_End : FnOKg Tryd.prog glK 19 (specSp (fun L _ _ => [lanes 25 L]) endG) :=
  FnOK_Sp (cx := cxEnd) (iv := fun _ _ _ => []) (by
    refine ⟨fun p hp => ?_, fun _ h => (by cases h)⟩
    simp only [cxEnd, List.mem_cons, List.not_mem_nil, or_false] at hp
    rcases hp with rfl | rfl | rfl
    · exact card_kMay
    · exact card_soak
    · exact card_first) Tryd.func19 (by kernel_rfl) (by kernel_rfl) (fun _ _ _ => by
    intro x hx
    simp only [List.mem_cons, List.not_mem_nil, or_false] at hx
    rcases hx with rfl | rfl
    · exact bnd_row _ _ _ _
    · trivial) fun L H N hc => ok_End L H N hc.1
theorem spOf_lw (t : Sp) : spOf (fun i => lw (t.a i)) t.H (t.n : Int) = t := by
  unfold spOf
  rw [ofRow_lw]
  rfl
theorem mayG_sp {t : Sp} (h1 : t.n < 136) (h2 : ∀ j, t.n ≤ j → j < 136 → t.H j = 0) : mayG t.H (t.n : Int) = true := by
  rw [mayG_iff]
  exact ⟨⟨by omega, by omega⟩, fun j hj => h2 _ (by omega) hj⟩
def clean (t : Sp) : Prop := t.n < 136 ∧ ∀ j, t.n ≤ j → j < 136 → t.H j = 0
theorem pushB_clean {t : Sp} (h : clean t) (b : Int) : clean (pushB t b) := by
  unfold pushB
  split
  · exact ⟨Nat.zero_lt_succ _, fun j _ _ => rfl⟩
  · refine ⟨by have := h.1; simp only; omega, fun j hj hj2 => ?_⟩
    simp only at hj ⊢
    rw [if_neg (by omega)]
    exact h.2 j (by omega) hj2
theorem addB_clean {t : Sp} (h : clean t) (f : Nat → Int) : ∀ m, clean (addB t f m)
  | 0 => h
  | m + 1 => pushB_clean (addB_clean h f m) _
theorem may_clean {t : Sp} (h : clean t) : mayG t.H (t.n : Int) = true := mayG_sp h.1 h.2
def addM (L H : Nat → Int) (N : Int) (n : Nat) (f : Nat → Int) : SV := .tup [sSp (fun i => lw ((addB (spOf L H N) f n).a i)) (addB (spOf L H N) f n).H ((addB (spOf L H N) f n).n : Int), .sc (.num .i64 0)]
def endM (L H : Nat → Int) (N : Int) : SV := .tup [sRow .u8 32 (endB (spOf L H N)), .sc (.num .i64 0)]
def cAddM : FSpec := specSpB (fun L H N _ _ => [lanes 25 L, mayG H N = true]) addM
def cEndM : FSpec := specSp (fun L H N => [lanes 25 L, mayG H N = true]) endM
theorem card_AddM : FnOKg Tryd.prog glK 17 cAddM := by
  refine FnOKg_weak card_kAdd fun args ps sv' hs hp => ?_
  unfold cAddM specSpB at hs
  split at hs
  · rename_i x y
    split at hs
    · rename_i L H N ps' a n cap f hx hy
      simp only [Option.some.injEq, Prod.mk.injEq] at hs
      obtain ⟨rfl, rfl⟩ := hs
      obtain ⟨o1, o2, o3, _⟩ := Ok.append.1 hp
      refine ⟨?_, ps' ++ [lanes 25 L], kAddG L H N n f, by simp only [specSpB, hx, hy], Ok.append.2 ⟨o1, o2, trivial⟩, fun ρ v hv => ?_⟩
      · intro z hz
        simp only [List.mem_cons, List.not_mem_nil, or_false] at hz
        rcases hz with rfl | rfl
        · exact bnd_sSp _ _ _ _
        · trivial
      · have e : kAddG L H N n f = .tup [sSp (fun i => lw ((addB (spOf L H N) f n).a i)) (addB (spOf L H N) f n).H ((addB (spOf L H N) f n).n : Int), sI .i64 0] := by simp only [kAddG, o3, if_true]
        rw [e] at hv
        exact hv
    · cases hs
  · cases hs
theorem card_EndM : FnOKg Tryd.prog glK 19 cEndM := by
  refine FnOKg_weak card_End fun args ps sv' hs hp => ?_
  unfold cEndM specSp at hs
  split at hs
  · rename_i x
    split at hs
    · rename_i L H N hx
      simp only [Option.some.injEq, Prod.mk.injEq] at hs
      obtain ⟨rfl, rfl⟩ := hs
      obtain ⟨o2, o3, _⟩ := hp
      refine ⟨?_, [lanes 25 L], endG L H N, by simp only [specSp, hx], ⟨o2, trivial⟩, fun ρ v hv => ?_⟩
      · intro z hz
        simp only [List.mem_cons, List.not_mem_nil, or_false] at hz
        rcases hz with rfl | rfl
        · exact bnd_row _ _ _ _
        · trivial
      · have e : endG L H N = .tup [sRow .u8 32 (endB (spOf L H N)), sI .i64 0] := by simp only [endG, o3, if_true]
        rw [e] at hv
        exact hv
    · cases hs
  · cases hs
end Go.Proofs.YtgcnbpdifpjkcaaDoor
end

section
namespace Go.Sx
open Go.RowKit
theorem thetaB_congr {a b : Nat → BitVec 64} (h : ∀ j, j < 25 → a j = b j) {i : Nat} (hi : i < 25) : thetaB a i = thetaB b i := by
  have col : ∀ x, x < 5 → colB a x = colB b x := fun x hx => by
    simp only [colB, h x (by omega), h (x + 5) (by omega), h (x + 10) (by omega), h (x + 15) (by omega), h (x + 20) (by omega)]
  simp only [thetaB, h i hi, col _ (Nat.mod_lt _ (by decide : 0 < 5))]
theorem src_lt : ∀ i, i < 25 → srcN.getD i 0 < 25 := by decide
theorem scatB_congr {a b : Nat → BitVec 64} (h : ∀ j, j < 25 → a j = b j) {i : Nat} (hi : i < 25) : scatB a i = scatB b i := by
  simp only [scatB, h _ (src_lt i hi)]
theorem chiB_congr {a b : Nat → BitVec 64} (h : ∀ j, j < 25 → a j = b j) {i : Nat} (hi : i < 25) : chiB a i = chiB b i := by
  have h1 : (i % 5 + 1) % 5 < 5 := Nat.mod_lt _ (by decide)
  have h2 : (i % 5 + 2) % 5 < 5 := Nat.mod_lt _ (by decide)
  simp only [chiB, h i hi, h (i / 5 * 5 + (i % 5 + 1) % 5) (by omega), h (i / 5 * 5 + (i % 5 + 2) % 5) (by omega)]
theorem stepB_congr {a b : Nat → BitVec 64} (h : ∀ j, j < 25 → a j = b j) {i : Nat} (hi : i < 25) : chiB (scatB (thetaB a)) i = chiB (scatB (thetaB b)) i :=
  chiB_congr (fun _ hj => scatB_congr (fun _ hk => thetaB_congr h hk) hj) hi
theorem roundB_congr {a b : Nat → BitVec 64} (h : ∀ j, j < 25 → a j = b j) (r : Nat) {i : Nat} (hi : i < 25) : roundB a r i = roundB b r i := by
  simp only [roundB, stepB_congr h hi, stepB_congr h (show 0 < 25 by decide)]
def tabL (a : Nat → BitVec 64) : List (BitVec 64) := (List.range 25).map a
def getL (l : List (BitVec 64)) (i : Nat) : BitVec 64 := l.getD i 0
theorem getL_tabL (a : Nat → BitVec 64) {i : Nat} (hi : i < 25) : getL (tabL a) i = a i := by
  simp [getL, tabL, List.getD_eq_getElem?_getD, hi]
def roundsL : Nat → List (BitVec 64) → List (BitVec 64)
  | 0, l => l
  | r + 1, l => tabL (roundB (getL (roundsL r l)) r)
theorem roundsL_eq (a : Nat → BitVec 64) : ∀ r i, i < 25 → roundsB r a i = getL (roundsL r (tabL a)) i
  | 0, i, hi => (getL_tabL a hi).symm
  | r + 1, i, hi => by
    simp only [roundsB, roundsL]
    rw [getL_tabL _ hi]
    exact roundB_congr (fun j hj => roundsL_eq a r j hj) r hi
def soakL (a : Nat → BitVec 64) (H : Nat → Int) : List (BitVec 64) := roundsL 24 (tabL (absB a H 136))
theorem soakL_eq (a : Nat → BitVec 64) (H : Nat → Int) {i : Nat} (hi : i < 25) : soakB a H i = getL (soakL a H) i := roundsL_eq _ 24 i hi
def endL (s : Sp) (j : Nat) : Int := firstG (fun i => lw (getL (soakL s.a (padB s.H s.n)) i)) j
theorem endL_eq (s : Sp) {j : Nat} (hj : j < 32) : endB s j = endL s j := by
  simp only [endB, endL, firstG, soakL_eq s.a (padB s.H s.n) (show j / 8 < 25 by omega)]
def sp0 : Sp := ⟨fun _ => 0, fun _ => 0, 0⟩
def sumB (n : Nat) (f : Nat → Int) (j : Nat) : Int := endB (addB sp0 f n) j
def abcF : Nat → Int := fun i => [97, 98, 99].getD i 0
theorem sum_abc : (List.range 8).all (fun j => endL (addB sp0 abcF 3) j == [78, 3, 101, 122, 234, 69, 169, 79].getD j 0) = true := by decide +kernel
end Go.Sx
end

section
namespace Go.Proofs.YtgcnbpdifpjkcaaDoor
open Go Go.Sx Go.RowKit
def cxKSum : Cx := ⟨[(17, cAddM), (19, cEndM)], glK, 0, []⟩
def kSumG (n : Nat) (f : Nat → Int) : SV := .one (sRow .u8 32 (sumB n f))
def pkG (a b : Int) : SV := .one (sI .i64 (a % b))
def cxKTells : Cx := ⟨[(14, specBs (fun _ _ => []) kSumG)], glK, 0, []⟩
theorem vc_pk (a b : Int) :
    Owes Tryd.prog Cx.none [] 10 Tryd.f9 [sI .i64 a, sI .i64 b] (pkG a b) =
    (let x1 : Int := a % b; b ≠ (0 : Int) ∧ (Decidable.decide (a.tmod b < (0 : Int)) = Bool.true → Go.IntKind.i64.wrap (a.tmod b + b) = x1) ∧ (Decidable.decide (a.tmod b < (0 : Int)) = Bool.false → a.tmod b = x1)) := by kernel_rfl
theorem vc_kTells  :
    Owes Tryd.prog cxKTells [] 10 Tryd.f8 [] (.one (sB true)) =
    (3 ≤ 3 ∧ ∀ (a : Go.Addr), (∀ (j : Nat), True) ∧ (sumB 3 (fun (j : Nat) => (intsL [SK.c (SC.num Go.IntKind.u8 (97 : Int)), SK.c (SC.num Go.IntKind.u8 (98 : Int)), SK.c (SC.num Go.IntKind.u8 (99 : Int))]).getD j (0 : Int)) 0 == (78 : Int)) = Bool.true) := by kernel_rfl
theorem vc_Sum (a : Option Addr) (n cap : Nat) (f : Nat → Int) :
    Owes Tryd.prog cxKSum [] 10 Tryd.f14 [sXs a n cap f] (kSumG n f) =
    (let x1 : Int := (↑(addB (spOf (fun (x : Nat) => (0 : Int)) (fun (x : Nat) => (0 : Int)) (0 : Int)) (fun (j : Nat) => f j) n).n : Int); (∀ (j : Nat), True) ∧ (∀ (i : Nat), i < 25 → (0 : Int) ≤ (0 : Int) ∧ (0 : Int) < (18446744073709551616 : Int)) ∧ mayG (fun (x : Nat) => (0 : Int)) (0 : Int) = Bool.true ∧ (∀ (i : Nat), i < 25 → (0 : Int) ≤ lw ((addB (spOf (fun (x : Nat) => (0 : Int)) (fun (x : Nat) => (0 : Int)) (0 : Int)) (fun (j : Nat) => f j) n).a i) ∧ lw ((addB (spOf (fun (x : Nat) => (0 : Int)) (fun (x : Nat) => (0 : Int)) (0 : Int)) (fun (j : Nat) => f j) n).a i) < (18446744073709551616 : Int)) ∧ mayG (addB (spOf (fun (x : Nat) => (0 : Int)) (fun (x : Nat) => (0 : Int)) (0 : Int)) (fun (j : Nat) => f j) n).2 x1 = Bool.true ∧ (∀ (j : Nat), j < 32 → endB (spOf (fun (i : Nat) => lw ((addB (spOf (fun (x : Nat) => (0 : Int)) (fun (x : Nat) => (0 : Int)) (0 : Int)) (fun (j : Nat) => f j) n).a i)) (addB (spOf (fun (x : Nat) => (0 : Int)) (fun (x : Nat) => (0 : Int)) (0 : Int)) (fun (j : Nat) => f j) n).2 x1) j = sumB n f j) ∧ True) := by kernel_rfl
end Go.Proofs.YtgcnbpdifpjkcaaDoor
end

section
namespace Go.Proofs.YtgcnbpdifpjkcaaDoor
open Go Go.Sx Go.RowKit
theorem sp0_eq : spOf (fun _ => 0) (fun _ => 0) 0 = sp0 := by
  unfold spOf sp0
  congr 1
theorem sp0_clean : clean sp0 := ⟨(by decide : (0 : Nat) < 136), fun j _ _ => (rfl : sp0.H j = 0)⟩
theorem may_zero : mayG (fun _ => 0) 0 = true := by
  rw [mayG_iff]
  exact ⟨⟨by omega, by omega⟩, fun _ _ => rfl⟩
theorem ok_Sum (a : Option Addr) (n cap : Nat) (f : Nat → Int) : Owes Tryd.prog cxKSum [] 10 Tryd.f14 [sXs a n cap f] (kSumG n f) := by
  rw [vc_Sum]
  intro x1
  have e0 : spOf (fun _ => 0) (fun _ => 0) 0 = sp0 := sp0_eq
  simp only [x1, e0, spOf_lw]
  exact ⟨fun _ => trivial, fun _ _ => ⟨by omega, by omega⟩, may_zero, lanes_lw _ _, may_clean (addB_clean sp0_clean _ _), fun _ _ => rfl, trivial⟩
theorem card_Sum : FnOKg Tryd.prog glK 14 (specBs (fun _ _ => []) kSumG) :=
  FnOK_Bs (cx := cxKSum) (iv := fun _ _ _ _ => []) (N := 10) (by
    refine ⟨fun p hp => ?_, fun _ h => (by cases h)⟩
    simp only [cxKSum, List.mem_cons, List.not_mem_nil, or_false] at hp
    rcases hp with rfl | rfl
    · exact card_AddM
    · exact card_EndM) Tryd.func14 (by kernel_rfl) (by kernel_rfl) (fun _ _ => bnd_row _ _ _ _) fun a n cap f _ => ok_Sum a n cap f
theorem sum_at {n : Nat} {f : Nat → Int} {l : List Int} (h : (List.range 8).all (fun j => endL (addB sp0 f n) j == l.getD j 0) = true) {j : Nat} (hj : j < 8) : sumB n f j = l.getD j 0 := by
  have := List.all_eq_true.1 h j (List.mem_range.2 hj)
  unfold sumB
  rw [endL_eq _ (by omega)]
  simpa using this
theorem ok_kTells : Owes Tryd.prog cxKTells [] 10 Tryd.f8 [] (.one (sB true)) := by
  rw [vc_kTells]
  have h : (sumB 3 abcF 0 == 78) = true := by rw [sum_at sum_abc (by decide : 0 < 8)]; rfl
  exact ⟨Nat.le_refl _, fun _ => ⟨fun _ => trivial, h⟩⟩
theorem card_kTells : FnOKg Tryd.prog glK 8 (spec0 (.one (sB true))) :=
  FnOK_0 (cx := cxKTells) (iv := []) (N := 10) (by
    refine ⟨fun p hp => ?_, fun _ h => (by cases h)⟩
    simp only [cxKTells, List.mem_singleton] at hp
    subst hp
    exact card_Sum) Tryd.func8 (by kernel_rfl) (by kernel_rfl) trivial ok_kTells
theorem sumB_congr {n : Nat} {f g : Nat → Int} (h : ∀ i, i < n → f i = g i) : sumB n f = sumB n g := by
  funext j
  unfold sumB
  rw [addB_congr h]
end Go.Proofs.YtgcnbpdifpjkcaaDoor
end

section
namespace Go.Proofs.YtgcnbpdifpjkcaaDoor
open Go.Sx
theorem ok_word : ∀ k a b s, i64ok k → i64ok a → i64ok b → Owes Tryd.prog Cx.none [] 400 Tryd.f11 [sRaw k a b s] (wordG k a b s) := by
  intro k a b s _ _ _
  rw [vc_word]
  exact ⟨rfl, rfl, rfl, rfl, rfl, rfl, rfl, rfl, rfl, rfl, rfl, rfl, rfl, rfl, rfl, rfl, rfl, rfl, rfl, rfl, rfl, rfl, rfl, rfl, rfl, rfl, rfl, rfl, rfl, rfl, rfl, rfl, trivial⟩
theorem card_word : FnOK Tryd.prog 11 (specRaw wordG) :=
  FnOK_Raw CxOK_nil (iv := []) (N := 400) Tryd.func11 (by kernel_rfl) (by kernel_rfl) (fun k a b s => by unfold wordG; intro k hk; simp only [List.mem_singleton] at hk; subst hk; trivial) ok_word
end Go.Proofs.YtgcnbpdifpjkcaaDoor
end

section
namespace Go.Sx
theorem byI_go (l : List Int) : ∀ r : ByteArray, (l.foldl (fun r n => r.push (UInt8.ofNat n.toNat)) r).data.toList = r.data.toList ++ l.map fun n => UInt8.ofNat n.toNat := by
  induction l with
  | nil => intro r; simp
  | cons n l ih => intro r; rw [List.foldl_cons, ih]; simp [ByteArray.push]
theorem byI_list (l : List Int) : (bytesI l).data.toList = l.map fun n => UInt8.ofNat n.toNat := by
  unfold bytesI
  rw [byI_go]
  rfl
theorem txt_ext {s t : ByteArray} (e : s.data.toList = t.data.toList) : s = t := by
  cases s; cases t
  simp only at e
  rw [ByteArray.mk.injEq]
  exact Array.toList_inj.1 e
theorem txt_size (s : ByteArray) : s.size = s.data.toList.length := by rw [Array.length_toList]; rfl
theorem byI_size (l : List Int) : (bytesI l).size = l.length := by rw [txt_size, byI_list, List.length_map]
theorem byI_cell {l : List Int} {i : Nat} {x : Int} (h : l[i]? = some x) (hx : 0 ≤ x ∧ x < 256) : (((bytesI l).data.getD i 0).toNat : Int) = x := by
  have : (bytesI l).data.getD i 0 = UInt8.ofNat x.toNat := by
    rw [Array.getD_eq_getD_getElem?, ← Array.getElem?_toList, byI_list, List.getElem?_map, h]
    rfl
  rw [this, UInt8.toNat_ofNat']
  omega
theorem row_congr {n : Nat} {h k : Nat → Int} (e : ∀ i, i < n → h i = k i) : (List.range n).map h = (List.range n).map k := List.map_congr_left fun i hi => e i (List.mem_range.1 hi)
end Go.Sx
end

section
namespace Go.Proofs.YtgcnbpdifpjkcaaDoor
open Go Go.Sx Go.RowKit
set_option maxRecDepth 100000
def cPk : FSpec := specII (fun a b => [i64ok a, 0 < b ∧ b ≤ 1099511627776]) pkG
def cxBod : Cx := ⟨[(9, cPk), (11, specRaw wordG), (1000000008, fun _ => none), (1000000010, fun _ => none), (1000000012, fun _ => none)], [], 0, []⟩
def tlBy : List (Nat × TSpec) := [(13, tPb)]
def bytN (t n c u l : Int) (m : Nat) : Nat := if bodyE t n c u l m = 0 then 55 + m else 0
def bytS : List (List FD) → List RS
  | [[.i t, .i n, .i c, .y em, .i u, .i l, .x _ m _ f]] => [.s (bytN t n c u l m) .u8 (bodyF t n c em u l (kOf f)), .v (sI .i64 (bodyE t n c u l m))]
  | _ => []
def cByS : SSpec := specQ false shBd nfBd nfC bytS
def smF (t n c : Int) (em : Nat → Int) (u l : Int) (m : Nat) (k : Nat → Nat → Int) (j : Nat) : Int := if bodyE t n c u l m = 0 then sumB 32 (sumB (55 + m) (bodyF t n c em u l k)) j else 0
def smS : List (List FD) → List RS
  | [[.i t, .i n, .i c, .y em, .i u, .i l, .x _ m _ f]] => [.v (sRow .u8 32 (smF t n c em u l m (kOf f))), .v (sI .i64 (bodyE t n c u l m))]
  | _ => []
def cSmS : SSpec := specQ false shBd nfBd nfC smS
def slSm : List (Nat × SSpec) := [(5, cByS)]
def cxSm : Cx := ⟨[(14, specBs (fun _ _ => []) kSumG), (1000000009, fun _ => none)], glK, 0, []⟩
def strOf (m : Nat) (k : Nat → Nat → Int) : ByteArray := bytesI ((List.range m).map fun i => k i 0)
def sameB (t n c : Int) (em : Nat → Int) (u l : Int) (m : Nat) (k : Nat → Nat → Int) (t' n' c' : Int) (em' : Nat → Int) (u' l' : Int) (m' : Nat) (k' : Nat → Nat → Int) : Bool :=
  t == t' && n == n' && c == c' && conj [(List.range 32).all fun j => em j == em' j] && u == u' && l == l' && (strOf m k).toList == (strOf m' k').toList
def nf2 : List (List FD) → List (List FD)
  | [[.i t, .i n, .i c, .y em, .i u, .i l, .x a m cap f], [.i t', .i n', .i c', .y em', .i u', .i l', .x a' m' cap' f']] => [[.i t, .i n, .i c, .y em, .i u, .i l, .x a m cap (u8F (kOf f))], [.i t', .i n', .i c', .y em', .i u', .i l', .x a' m' cap' (u8F (kOf f'))]]
  | ls => ls
def sameC : List (List FD) → List Prop
  | [[.i _, .i _, .i _, .y _, .i _, .i _, .x _ _ _ f], [.i _, .i _, .i _, .y _, .i _, .i _, .x _ _ _ f']] => [f = u8F (kOf f), f' = u8F (kOf f')]
  | _ => [False]
def sameS : List (List FD) → List RS
  | [[.i t, .i n, .i c, .y em, .i u, .i l, .x _ m _ f], [.i t', .i n', .i c', .y em', .i u', .i l', .x _ m' _ f']] => [.v (sB (sameB t n c em u l m (kOf f) t' n' c' em' u' l' m' (kOf f')))]
  | _ => []
def cSame : SSpec := specQ false [.st pqBd, .st pqBd] nf2 sameC sameS
def shRaw : List AQ := [.st [.i .i64, .i .i64, .i .i64, .t]]
def cutL (s : ByteArray) : Nat := min s.size 60
def cutF (s : ByteArray) (i : Nat) : Int := (((s.extract 0 (cutL s)).data.getD i (0 : UInt8)).toNat : Int)
structure rawP (k a b : Int) (s : ByteArray) : Prop where
  k : -9223372036854775808 ≤ k ∧ k ≤ 9223372036854775807
  a : -9223372036854775808 ≤ a ∧ a ≤ 9223372036854775807
  b : -9223372036854775808 ≤ b ∧ b ≤ 9223372036854775807
def bodC : List (List FD) → List Prop
  | [[.i k, .i a, .i b, .t s]] => [rawP k a b s]
  | _ => [False]
def rBod (k a b : Int) (s : ByteArray) : List RS := [.st [.k (.c (.val (.int .i64 (a % 1000)))), .k (.c (.val (.int .i64 (b % 4294967296)))), .k (.c (.val (.int .i64 (k % 65536)))), .k (.f .u8 32 (wordF a b s)), .k (.c (.val (.int .i64 (IntKind.i64.wrap (a * b) % 1099511627776)))), .k (.c (.val (.int .i64 (k % 256)))), .s (cutL s) 1 (u8F fun i _ => cutF s i)]]
def bodS : List (List FD) → List RS
  | [[.i k, .i a, .i b, .t s]] => rBod k a b s
  | _ => []
def cBod : SSpec := specQ true shRaw id bodC bodS
def slPS : List (Nat × SSpec) := [(4, cBod), (5, cByS), (6, cSmS), (7, cSame)]
theorem vc_same (t n c u l t' n' c' u' l' : Int) (em em' : Nat → Int) (a a' : Option Addr) (m cap m' cap' : Nat) (k k' : Nat → Nat → Int) (r : Bool) :
    OwesR Tryd.prog Cx.none [] [] 30 Tryd.f7 [sBody t n c em u l a m cap k, sBody t' n' c' em' u' l' a' m' cap' k'] false [.v (sB r)] =
    (let x1 : Bool := t == t' && n == n'; let x2 : Bool := x1 && c == c'; let x3 : Bool := x2 && conj [(List.range 32).all fun (j : Nat) => em j == em' j]; let x4 : Bool := x3 && u == u'; let x5 : Bool := x4 && l == l'; ((t == t') = Bool.true → (t == t') = Bool.true) ∧ ((t == t') = Bool.true → (t == t') = Bool.true) ∧ ((t == t') = Bool.true → (t == t') = Bool.true) ∧ ((t == t') = Bool.true → (t == t') = Bool.true) ∧ ((t == t') = Bool.true → (t == t') = Bool.true) ∧ (x1 = Bool.true → x1 = Bool.true) ∧ (x1 = Bool.true → x1 = Bool.true) ∧ (x1 = Bool.true → x1 = Bool.true) ∧ (x1 = Bool.true → x1 = Bool.true) ∧ (x1 = Bool.true → x1 = Bool.true) ∧ (x2 = Bool.true → x2 = Bool.true) ∧ (x2 = Bool.true → x2 = Bool.true) ∧ (x2 = Bool.true → x2 = Bool.true) ∧ (x2 = Bool.true → x2 = Bool.true) ∧ (x2 = Bool.true → x2 = Bool.true) ∧ (x3 = Bool.true → x3 = Bool.true) ∧ (x3 = Bool.true → x3 = Bool.true) ∧ (x3 = Bool.true → x3 = Bool.true) ∧ (x3 = Bool.true → x3 = Bool.true) ∧ (x3 = Bool.true → x3 = Bool.true) ∧ (x4 = Bool.true → x4 = Bool.true) ∧ (x4 = Bool.true → x4 = Bool.true) ∧ (x4 = Bool.true → x4 = Bool.true) ∧ (x4 = Bool.true → x4 = Bool.true) ∧ (x4 = Bool.true → x4 = Bool.true) ∧ (x5 = Bool.true → x5 = Bool.true) ∧ (x5 = Bool.true → x5 = Bool.true) ∧ (x5 = Bool.true → ∀ (j : Nat), True) ∧ (x5 = Bool.true → x5 = Bool.true) ∧ (x5 = Bool.true → x5 = Bool.true) ∧ (x5 = Bool.true → ∀ (j : Nat), True) ∧ (x5 = Bool.true → x5 = Bool.true) ∧ (x5 = Bool.true → x5 = Bool.true) ∧ (x5 = Bool.true → x5 = Bool.true) ∧ (x5 && (bytesI (List.map (fun (j : Nat) => k j 0) (List.range m))).toList == (bytesI (List.map (fun (j : Nat) => k' j 0) (List.range m'))).toList) = r) := by kernel_rfl
theorem vc_by (t n c u l e : Int) (em : Nat → Int) (a : Option Addr) (m cap : Nat) (k : Nat → Nat → Int) (r : Nat) (g : Nat → Int) :
    OwesQ Tryd.prog cxAp slBck tlBy [] 30 Tryd.f5 [sBody t n c em u l a m cap k] false [.s r .u8 g, .v (sI .i64 e)] =
    (let x1 : Nat := pbM [[FD.i t, FD.i n, FD.i c, FD.y em, FD.i u, FD.i l, FD.x a m cap (u8F (kOf (u8F k)))]] 0; t = t ∧ n = n ∧ c = c ∧ (∀ (j : Nat), j < 32 → em j = em j) ∧ u = u ∧ l = l ∧ a = a ∧ m = m ∧ cap = cap ∧ (∀ (i : Nat), i < m → k i 0 = kOf (u8F k) i 0) ∧ u8F (kOf (u8F k)) = u8F (kOf (u8F (kOf (u8F k)))) ∧ ((bodyE t n c u l m != (0 : Int)) = Bool.true → r = 0 ∧ bodyE t n c u l m = e) ∧ ((bodyE t n c u l m != (0 : Int)) = Bool.false → t = t ∧ n = n ∧ c = c ∧ (∀ (j : Nat), j < 32 → em j = em j) ∧ u = u ∧ l = l ∧ a = a ∧ m = m ∧ cap = cap ∧ (∀ (i : Nat), i < m → k i 0 = kOf (u8F k) i 0) ∧ rowQ (fun (x x_1 : Nat) => SC.val (Go.Value.int Go.IntKind.u8 (0 : Int))) 0 (100 + m) (u8F (kOf (u8F k))) ∧ ∀ (c_1 : Nat), x1 + c_1 ≤ Go.maxLen → (0 + x1 ≤ x1 ∧ x1 = r ∧ x1 ≤ x1 + c_1 ∧ ∀ (i : Nat), i < r → catB 0 (hOf fun (x x_1 : Nat) => SC.val (Go.Value.int Go.IntKind.u8 (0 : Int))) (bodyF t n c em u l (kOf (u8F (kOf (u8F k))))) (0 + i) = g i) ∧ (0 : Int) = e)) := by kernel_rfl
theorem vc_sm (t n c u l e : Int) (em : Nat → Int) (a : Option Addr) (m cap : Nat) (k : Nat → Nat → Int) (g : Nat → Int) :
    OwesR Tryd.prog cxSm slSm [] 30 Tryd.f6 [sBody t n c em u l a m cap k] false [.v (sRow .u8 32 g), .v (sI .i64 e)] =
    (t = t ∧ n = n ∧ c = c ∧ (∀ (j : Nat), j < 32 → em j = em j) ∧ u = u ∧ l = l ∧ a = a ∧ m = m ∧ cap = cap ∧ (∀ (i : Nat), i < m → k i 0 = kOf (u8F k) i 0) ∧ u8F (kOf (u8F k)) = u8F (kOf (u8F (kOf (u8F k)))) ∧ ∀ (a : Option Go.Addr) (cap : Nat), (a = Option.none → bytN t n c u l m = 0 ∧ cap = 0) → bytN t n c u l m ≤ cap → ((bodyE t n c u l m != (0 : Int)) = Bool.true → ((0 : Int) = g 0 ∧ (0 : Int) = g 1 ∧ (0 : Int) = g 2 ∧ (0 : Int) = g 3 ∧ (0 : Int) = g 4 ∧ (0 : Int) = g 5 ∧ (0 : Int) = g 6 ∧ (0 : Int) = g 7 ∧ (0 : Int) = g 8 ∧ (0 : Int) = g 9 ∧ (0 : Int) = g 10 ∧ (0 : Int) = g 11 ∧ (0 : Int) = g 12 ∧ (0 : Int) = g 13 ∧ (0 : Int) = g 14 ∧ (0 : Int) = g 15 ∧ (0 : Int) = g 16 ∧ (0 : Int) = g 17 ∧ (0 : Int) = g 18 ∧ (0 : Int) = g 19 ∧ (0 : Int) = g 20 ∧ (0 : Int) = g 21 ∧ (0 : Int) = g 22 ∧ (0 : Int) = g 23 ∧ (0 : Int) = g 24 ∧ (0 : Int) = g 25 ∧ (0 : Int) = g 26 ∧ (0 : Int) = g 27 ∧ (0 : Int) = g 28 ∧ (0 : Int) = g 29 ∧ (0 : Int) = g 30 ∧ (0 : Int) = g 31 ∧ True) ∧ bodyE t n c u l m = e) ∧ ((bodyE t n c u l m != (0 : Int)) = Bool.false → (∀ (j : Nat), True) ∧ 32 ≤ 32 ∧ ∀ (_ : Go.Addr), (∀ (j : Nat), True) ∧ ((∀ (j : Nat), j < 32 → sumB 32 (fun (j : Nat) => endB (addB sp0 (fun (j : Nat) => bodyF t n c em u l (kOf (u8F (kOf (u8F k)))) j) (bytN t n c u l m)) j) j = g j) ∧ True) ∧ (0 : Int) = e)) := by kernel_rfl
theorem vc_body (k a b t n c u l : Int) (s : ByteArray) (em : Nat → Int) (m : Nat) (f : Nat → Nat → Int) :
    OwesR Tryd.prog cxBod [] [] 30 Tryd.f4 [sRaw k a b s] true [.st [.k (.c (.val (.int .i64 t))), .k (.c (.val (.int .i64 n))), .k (.c (.val (.int .i64 c))), .k (.f .u8 32 em), .k (.c (.val (.int .i64 u))), .k (.c (.val (.int .i64 l))), .s m 1 (u8F f)]] =
    (let x1 : Int := Go.IntKind.i64.wrap (a * b); let x2 : Int := if (60 : Int) < (↑s.size : Int) then (60 : Int) else (↑s.size : Int); let x3 : Nat := (s.extract 0 x2.toNat).size; ∀ (_ : Go.Addr), (((-9223372036854775808 : Int) ≤ a ∧ a ≤ (9223372036854775807 : Int)) ∧ ((0 : Int) < (1000 : Int) ∧ (1000 : Int) ≤ (1099511627776 : Int)) ∧ (((-9223372036854775808 : Int) ≤ b ∧ b ≤ (9223372036854775807 : Int)) ∧ ((0 : Int) < (4294967296 : Int) ∧ (4294967296 : Int) ≤ (1099511627776 : Int)) ∧ (((-9223372036854775808 : Int) ≤ k ∧ k ≤ (9223372036854775807 : Int)) ∧ ((0 : Int) < (65536 : Int) ∧ (65536 : Int) ≤ (1099511627776 : Int)) ∧ (((-9223372036854775808 : Int) ≤ x1 ∧ x1 ≤ (9223372036854775807 : Int)) ∧ ((0 : Int) < (1099511627776 : Int) ∧ (1099511627776 : Int) ≤ (1099511627776 : Int)) ∧ (((-9223372036854775808 : Int) ≤ k ∧ k ≤ (9223372036854775807 : Int)) ∧ ((0 : Int) < (256 : Int) ∧ (256 : Int) ≤ (1099511627776 : Int)) ∧ (((0 : Int) ≤ (0 : Int) ∧ (0 : Int) ≤ x2 ∧ x2 ≤ (↑s.size : Int)) ∧ (∀ (a_2 : Go.Addr) (cap : Nat), x3 ≤ cap → ((-9223372036854775808 : Int) ≤ k ∧ k ≤ (9223372036854775807 : Int)) ∧ ((-9223372036854775808 : Int) ≤ a ∧ a ≤ (9223372036854775807 : Int)) ∧ ((-9223372036854775808 : Int) ≤ b ∧ b ≤ (9223372036854775807 : Int)) ∧ (a % (1000 : Int) = t ∧ True) ∧ (b % (4294967296 : Int) = n ∧ True) ∧ (k % (65536 : Int) = c ∧ True) ∧ ((∀ (j : Nat), j < 32 → wordF a b s j = em j) ∧ True) ∧ (x1 % (1099511627776 : Int) = u ∧ True) ∧ (k % (256 : Int) = l ∧ True) ∧ (x3 = m ∧ ∀ (i : Nat), i < m → (↑((s.extract 0 x2.toNat).data.getD i (0 : UInt8)).toNat : Int) = f i 0) ∧ True) ∧ ∀ (a_2 : Go.Addr) (cap : Nat), x3 ≤ cap → ((-9223372036854775808 : Int) ≤ k ∧ k ≤ (9223372036854775807 : Int)) ∧ ((-9223372036854775808 : Int) ≤ a ∧ a ≤ (9223372036854775807 : Int)) ∧ ((-9223372036854775808 : Int) ≤ b ∧ b ≤ (9223372036854775807 : Int)) ∧ (a % (1000 : Int) = t ∧ True) ∧ (b % (4294967296 : Int) = n ∧ True) ∧ (k % (65536 : Int) = c ∧ True) ∧ ((∀ (j : Nat), j < 32 → wordF a b s j = em j) ∧ True) ∧ (x1 % (1099511627776 : Int) = u ∧ True) ∧ (k % (256 : Int) = l ∧ True) ∧ (x3 = m ∧ ∀ (i : Nat), i < m → (↑((s.extract 0 x2.toNat).data.getD i (0 : UInt8)).toNat : Int) = f i 0) ∧ True) ∧ ((0 : Int) ≤ (0 : Int) ∧ (0 : Int) ≤ x2 ∧ x2 ≤ (↑s.size : Int)) ∧ ∀ (a_2 : Go.Addr) (cap : Nat), x3 ≤ cap → ((-9223372036854775808 : Int) ≤ k ∧ k ≤ (9223372036854775807 : Int)) ∧ ((-9223372036854775808 : Int) ≤ a ∧ a ≤ (9223372036854775807 : Int)) ∧ ((-9223372036854775808 : Int) ≤ b ∧ b ≤ (9223372036854775807 : Int)) ∧ (a % (1000 : Int) = t ∧ True) ∧ (b % (4294967296 : Int) = n ∧ True) ∧ (k % (65536 : Int) = c ∧ True) ∧ ((∀ (j : Nat), j < 32 → wordF a b s j = em j) ∧ True) ∧ (x1 % (1099511627776 : Int) = u ∧ True) ∧ (k % (256 : Int) = l ∧ True) ∧ (x3 = m ∧ ∀ (i : Nat), i < m → (↑((s.extract 0 x2.toNat).data.getD i (0 : UInt8)).toNat : Int) = f i 0) ∧ True) ∧ ((-9223372036854775808 : Int) ≤ k ∧ k ≤ (9223372036854775807 : Int)) ∧ ((0 : Int) < (256 : Int) ∧ (256 : Int) ≤ (1099511627776 : Int)) ∧ ((0 : Int) ≤ (0 : Int) ∧ (0 : Int) ≤ x2 ∧ x2 ≤ (↑s.size : Int)) ∧ ∀ (a_2 : Go.Addr) (cap : Nat), x3 ≤ cap → ((-9223372036854775808 : Int) ≤ k ∧ k ≤ (9223372036854775807 : Int)) ∧ ((-9223372036854775808 : Int) ≤ a ∧ a ≤ (9223372036854775807 : Int)) ∧ ((-9223372036854775808 : Int) ≤ b ∧ b ≤ (9223372036854775807 : Int)) ∧ (a % (1000 : Int) = t ∧ True) ∧ (b % (4294967296 : Int) = n ∧ True) ∧ (k % (65536 : Int) = c ∧ True) ∧ ((∀ (j : Nat), j < 32 → wordF a b s j = em j) ∧ True) ∧ (x1 % (1099511627776 : Int) = u ∧ True) ∧ (k % (256 : Int) = l ∧ True) ∧ (x3 = m ∧ ∀ (i : Nat), i < m → (↑((s.extract 0 x2.toNat).data.getD i (0 : UInt8)).toNat : Int) = f i 0) ∧ True) ∧ ((-9223372036854775808 : Int) ≤ x1 ∧ x1 ≤ (9223372036854775807 : Int)) ∧ ((0 : Int) < (1099511627776 : Int) ∧ (1099511627776 : Int) ≤ (1099511627776 : Int)) ∧ ((-9223372036854775808 : Int) ≤ k ∧ k ≤ (9223372036854775807 : Int)) ∧ ((0 : Int) < (256 : Int) ∧ (256 : Int) ≤ (1099511627776 : Int)) ∧ ((0 : Int) ≤ (0 : Int) ∧ (0 : Int) ≤ x2 ∧ x2 ≤ (↑s.size : Int)) ∧ ∀ (a_2 : Go.Addr) (cap : Nat), x3 ≤ cap → ((-9223372036854775808 : Int) ≤ k ∧ k ≤ (9223372036854775807 : Int)) ∧ ((-9223372036854775808 : Int) ≤ a ∧ a ≤ (9223372036854775807 : Int)) ∧ ((-9223372036854775808 : Int) ≤ b ∧ b ≤ (9223372036854775807 : Int)) ∧ (a % (1000 : Int) = t ∧ True) ∧ (b % (4294967296 : Int) = n ∧ True) ∧ (k % (65536 : Int) = c ∧ True) ∧ ((∀ (j : Nat), j < 32 → wordF a b s j = em j) ∧ True) ∧ (x1 % (1099511627776 : Int) = u ∧ True) ∧ (k % (256 : Int) = l ∧ True) ∧ (x3 = m ∧ ∀ (i : Nat), i < m → (↑((s.extract 0 x2.toNat).data.getD i (0 : UInt8)).toNat : Int) = f i 0) ∧ True) ∧ ((-9223372036854775808 : Int) ≤ k ∧ k ≤ (9223372036854775807 : Int)) ∧ ((0 : Int) < (65536 : Int) ∧ (65536 : Int) ≤ (1099511627776 : Int)) ∧ ((-9223372036854775808 : Int) ≤ x1 ∧ x1 ≤ (9223372036854775807 : Int)) ∧ ((0 : Int) < (1099511627776 : Int) ∧ (1099511627776 : Int) ≤ (1099511627776 : Int)) ∧ ((-9223372036854775808 : Int) ≤ k ∧ k ≤ (9223372036854775807 : Int)) ∧ ((0 : Int) < (256 : Int) ∧ (256 : Int) ≤ (1099511627776 : Int)) ∧ ((0 : Int) ≤ (0 : Int) ∧ (0 : Int) ≤ x2 ∧ x2 ≤ (↑s.size : Int)) ∧ ∀ (a_2 : Go.Addr) (cap : Nat), x3 ≤ cap → ((-9223372036854775808 : Int) ≤ k ∧ k ≤ (9223372036854775807 : Int)) ∧ ((-9223372036854775808 : Int) ≤ a ∧ a ≤ (9223372036854775807 : Int)) ∧ ((-9223372036854775808 : Int) ≤ b ∧ b ≤ (9223372036854775807 : Int)) ∧ (a % (1000 : Int) = t ∧ True) ∧ (b % (4294967296 : Int) = n ∧ True) ∧ (k % (65536 : Int) = c ∧ True) ∧ ((∀ (j : Nat), j < 32 → wordF a b s j = em j) ∧ True) ∧ (x1 % (1099511627776 : Int) = u ∧ True) ∧ (k % (256 : Int) = l ∧ True) ∧ (x3 = m ∧ ∀ (i : Nat), i < m → (↑((s.extract 0 x2.toNat).data.getD i (0 : UInt8)).toNat : Int) = f i 0) ∧ True) ∧ ((-9223372036854775808 : Int) ≤ b ∧ b ≤ (9223372036854775807 : Int)) ∧ ((0 : Int) < (4294967296 : Int) ∧ (4294967296 : Int) ≤ (1099511627776 : Int)) ∧ ((-9223372036854775808 : Int) ≤ k ∧ k ≤ (9223372036854775807 : Int)) ∧ ((0 : Int) < (65536 : Int) ∧ (65536 : Int) ≤ (1099511627776 : Int)) ∧ ((-9223372036854775808 : Int) ≤ x1 ∧ x1 ≤ (9223372036854775807 : Int)) ∧ ((0 : Int) < (1099511627776 : Int) ∧ (1099511627776 : Int) ≤ (1099511627776 : Int)) ∧ ((-9223372036854775808 : Int) ≤ k ∧ k ≤ (9223372036854775807 : Int)) ∧ ((0 : Int) < (256 : Int) ∧ (256 : Int) ≤ (1099511627776 : Int)) ∧ ((0 : Int) ≤ (0 : Int) ∧ (0 : Int) ≤ x2 ∧ x2 ≤ (↑s.size : Int)) ∧ ∀ (a_2 : Go.Addr) (cap : Nat), x3 ≤ cap → ((-9223372036854775808 : Int) ≤ k ∧ k ≤ (9223372036854775807 : Int)) ∧ ((-9223372036854775808 : Int) ≤ a ∧ a ≤ (9223372036854775807 : Int)) ∧ ((-9223372036854775808 : Int) ≤ b ∧ b ≤ (9223372036854775807 : Int)) ∧ (a % (1000 : Int) = t ∧ True) ∧ (b % (4294967296 : Int) = n ∧ True) ∧ (k % (65536 : Int) = c ∧ True) ∧ ((∀ (j : Nat), j < 32 → wordF a b s j = em j) ∧ True) ∧ (x1 % (1099511627776 : Int) = u ∧ True) ∧ (k % (256 : Int) = l ∧ True) ∧ (x3 = m ∧ ∀ (i : Nat), i < m → (↑((s.extract 0 x2.toNat).data.getD i (0 : UInt8)).toNat : Int) = f i 0) ∧ True) ∧ ((-9223372036854775808 : Int) ≤ a ∧ a ≤ (9223372036854775807 : Int)) ∧ ((0 : Int) < (1000 : Int) ∧ (1000 : Int) ≤ (1099511627776 : Int)) ∧ ((-9223372036854775808 : Int) ≤ b ∧ b ≤ (9223372036854775807 : Int)) ∧ ((0 : Int) < (4294967296 : Int) ∧ (4294967296 : Int) ≤ (1099511627776 : Int)) ∧ ((-9223372036854775808 : Int) ≤ k ∧ k ≤ (9223372036854775807 : Int)) ∧ ((0 : Int) < (65536 : Int) ∧ (65536 : Int) ≤ (1099511627776 : Int)) ∧ ((-9223372036854775808 : Int) ≤ x1 ∧ x1 ≤ (9223372036854775807 : Int)) ∧ ((0 : Int) < (1099511627776 : Int) ∧ (1099511627776 : Int) ≤ (1099511627776 : Int)) ∧ ((-9223372036854775808 : Int) ≤ k ∧ k ≤ (9223372036854775807 : Int)) ∧ ((0 : Int) < (256 : Int) ∧ (256 : Int) ≤ (1099511627776 : Int)) ∧ ((0 : Int) ≤ (0 : Int) ∧ (0 : Int) ≤ x2 ∧ x2 ≤ (↑s.size : Int)) ∧ ∀ (a_2 : Go.Addr) (cap : Nat), x3 ≤ cap → ((-9223372036854775808 : Int) ≤ k ∧ k ≤ (9223372036854775807 : Int)) ∧ ((-9223372036854775808 : Int) ≤ a ∧ a ≤ (9223372036854775807 : Int)) ∧ ((-9223372036854775808 : Int) ≤ b ∧ b ≤ (9223372036854775807 : Int)) ∧ (a % (1000 : Int) = t ∧ True) ∧ (b % (4294967296 : Int) = n ∧ True) ∧ (k % (65536 : Int) = c ∧ True) ∧ ((∀ (j : Nat), j < 32 → wordF a b s j = em j) ∧ True) ∧ (x1 % (1099511627776 : Int) = u ∧ True) ∧ (k % (256 : Int) = l ∧ True) ∧ (x3 = m ∧ ∀ (i : Nat), i < m → (↑((s.extract 0 x2.toNat).data.getD i (0 : UInt8)).toNat : Int) = f i 0) ∧ True) := by kernel_rfl
end Go.Proofs.YtgcnbpdifpjkcaaDoor
end

section
namespace Go.Proofs.YtgcnbpdifpjkcaaDoor
open Go Go.Sx Go.RowKit
theorem bodyE_m {t n c u l : Int} {m : Nat} (h : bodyE t n c u l m = 0) : m ≤ 300 := by
  unfold bodyE at h
  split at h
  · split at h
    · assumption
    · cases h
  · cases h
theorem ok_by (t n c u l : Int) (em : Nat → Int) (a : Option Addr) (m cap : Nat) (k : Nat → Nat → Int) :
    OwesQ Tryd.prog cxAp slBck tlBy [] 30 Tryd.f5 [sBody t n c em u l a m cap k] false [.s (bytN t n c u l m) .u8 (bodyF t n c em u l k), .v (sI .i64 (bodyE t n c u l m))] := by
  rw [vc_by]
  simp only [eq_self, implies_true, and_self, true_and, and_true, k_u8F]
  refine ⟨fun h => ?_, fun h => ?_⟩
  · exact if_neg (bne_iff_ne.1 h)
  · have h0 : bodyE t n c u l m = 0 := by simpa using h
    have hm := bodyE_m h0
    have e : bytN t n c u l m = 55 + m := if_pos h0
    have e2 : pbM [[FD.i t, FD.i n, FD.i c, FD.y em, FD.i u, FD.i l, FD.x a m cap (u8F k)]] 0 = 55 + m := Nat.zero_add _
    rw [e, e2, h0]
    refine ⟨⟨rfl, by omega, rfl⟩, fun c1 _ => ⟨⟨by omega, rfl, by omega, fun i _ => ?_⟩, rfl⟩⟩
    rw [catB_zero, Nat.zero_add]
theorem card_by {gl : Globs} : FnOKs Tryd.prog gl 5 cByS := by
  refine FnOKs.up0 (FnOKs_QQ (cx := cxAp) cxok_Ap (sl := slBck) (fun p hp => by rw [List.mem_singleton.1 hp]; exact card_bck) (tl := tlBy) (tl_cons card_pb tl_nil) Tryd.func5 (by kernel_rfl) (by kernel_rfl) fun ls hc => ?_) gl
  unfold nfC at hc
  split at hc
  · rename_i t n c em u l a m cap f
    obtain ⟨h, _⟩ := hc
    have := ok_by t n c u l em a m cap (kOf f)
    unfold sBody ksBody at this
    rw [← h] at this
    refine ⟨_, _, fun r hr => ?_, this⟩
    rcases List.mem_cons.1 hr with rfl | hr
    · exact trivial
    · rw [List.mem_singleton.1 hr]; exact trivial
  · exact hc.1.elim
theorem ok_sm (t n c u l : Int) (em : Nat → Int) (a : Option Addr) (m cap : Nat) (k : Nat → Nat → Int) :
    OwesR Tryd.prog cxSm slSm [] 30 Tryd.f6 [sBody t n c em u l a m cap k] false [.v (sRow .u8 32 (smF t n c em u l m k)), .v (sI .i64 (bodyE t n c u l m))] := by
  rw [vc_sm]
  simp only [eq_self, implies_true, and_self, true_and, and_true, k_u8F]
  refine fun _ _ _ _ => ⟨fun h => ?_, fun h => ?_⟩
  · have e : ∀ j, 0 = smF t n c em u l m k j := fun j => (if_neg (bne_iff_ne.1 h)).symm
    exact ⟨e _, e _, e _, e _, e _, e _, e _, e _, e _, e _, e _, e _, e _, e _, e _, e _, e _, e _, e _, e _, e _, e _, e _, e _, e _, e _, e _, e _, e _, e _, e _, e _⟩
  · have h0 : bodyE t n c u l m = 0 := by simpa using h
    have e : bytN t n c u l m = 55 + m := if_pos h0
    rw [e, h0]
    refine ⟨Nat.le_refl _, fun _ => ⟨fun j _ => ?_, rfl⟩⟩
    unfold smF
    rw [if_pos h0]
    rfl
theorem cxok_Sm : CxOK Tryd.prog cxSm := pgl_cons card_Sum ⟨fun p hp => by rw [List.mem_singleton.1 hp]; exact fun _ _ _ h => (by cases h), fun _ h => (by cases h)⟩
theorem card_sm : FnOKs Tryd.prog glK 6 cSmS := by
  refine FnOKs_Q (cx := cxSm) cxok_Sm (sl := slSm) (fun p hp => by rw [List.mem_singleton.1 hp]; exact card_by) Tryd.func6 (by kernel_rfl) (by kernel_rfl) fun ls hc => ?_
  unfold nfC at hc
  split at hc
  · rename_i t n c em u l a m cap f
    obtain ⟨h, _⟩ := hc
    have := ok_sm t n c u l em a m cap (kOf f)
    unfold sBody ksBody at this
    rw [← h] at this
    refine ⟨_, _, fun r hr => ?_, this⟩
    rcases List.mem_cons.1 hr with rfl | hr
    · exact bnd_row _ _ _ _
    · rw [List.mem_singleton.1 hr]; exact trivial
  · exact hc.1.elim
theorem ok_same (t n c u l t' n' c' u' l' : Int) (em em' : Nat → Int) (a a' : Option Addr) (m cap m' cap' : Nat) (k k' : Nat → Nat → Int) :
    OwesR Tryd.prog Cx.none [] [] 30 Tryd.f7 [sBody t n c em u l a m cap k, sBody t' n' c' em' u' l' a' m' cap' k'] false [.v (sB (sameB t n c em u l m k t' n' c' em' u' l' m' k'))] := by
  rw [vc_same]
  exact ⟨id, id, id, id, id, id, id, id, id, id, id, id, id, id, id, id, id, id, id, id, id, id, id, id, id, id, id, fun _ _ => trivial, id, id, fun _ _ => trivial, id, id, id, rfl⟩
theorem card_same {gl : Globs} : FnOKs Tryd.prog gl 7 cSame := by
  refine FnOKs.up0 (FnOKs_Q (cx := Cx.none) pcx_none (sl := []) (fun p hp => (by cases hp)) Tryd.func7 (by kernel_rfl) (by kernel_rfl) fun ls hc => ?_) gl
  unfold sameC at hc
  split at hc
  · rename_i t n c em u l a m cap f t' n' c' em' u' l' a' m' cap' f'
    obtain ⟨h, h', _⟩ := hc
    have := ok_same t n c u l t' n' c' u' l' em em' a a' m cap m' cap' (kOf f) (kOf f')
    unfold sBody ksBody at this
    rw [← h, ← h'] at this
    refine ⟨_, _, fun r hr => ?_, this⟩
    rw [List.mem_singleton.1 hr]; exact trivial
  · exact hc.1.elim
theorem ok_pkW (a b : Int) (ha : i64ok a) (hb : 0 < b ∧ b ≤ 1099511627776) : Owes Tryd.prog Cx.none [] 10 Tryd.f9 [sI .i64 a, sI .i64 b] (pkG a b) := by
  rw [vc_pk]
  obtain ⟨a1, a2⟩ := ha
  intro x1
  have e1 : x1 = a % b := rfl
  have p0 := Int.emod_nonneg a (by omega : b ≠ 0)
  have p1 := Int.emod_lt_of_pos a hb.1
  have q := Int.tmod_eq_emod (a := a) (b := b)
  have e2 : (b.natAbs : Int) = b := by omega
  refine ⟨by omega, fun h => ?_, fun h => ?_⟩
  · have h' : a.tmod b < 0 := of_decide_eq_true h
    by_cases c : 0 ≤ a ∨ b ∣ a
    · rw [if_pos c] at q; omega
    · rw [if_neg c, e2] at q
      have w : IntKind.wrap .i64 (a.tmod b + b) = a.tmod b + b := by rw [IntKind.wrap_i64]; omega
      rw [w]; omega
  · have h' : ¬ a.tmod b < 0 := of_decide_eq_false h
    by_cases c : 0 ≤ a ∨ b ∣ a
    · rw [if_pos c] at q; omega
    · rw [if_neg c, e2] at q; omega
theorem card_pkW : FnOKg Tryd.prog [] 9 (specII (fun a b => [i64ok a, 0 < b ∧ b ≤ 1099511627776]) pkG) :=
  FnOK_II (cx := Cx.none) (iv := []) (N := 10) ⟨fun _ h => (by cases h), fun _ h => (by cases h)⟩ Tryd.func9 (by kernel_rfl) (by kernel_rfl) (fun _ _ => trivial) fun a b h => ok_pkW a b h.1 h.2.1
theorem big_inj : ∀ (z : Nat) (v w : Int), 0 ≤ v → v < 256 ^ z → 0 ≤ w → w < 256 ^ z → (∀ j, j < z → bigAt z v j = bigAt z w j) → v = w
  | 0, v, w, h1, h2, h3, h4, _ => by rw [Int.pow_zero] at h2 h4; omega
  | z + 1, v, w, h1, h2, h3, h4, h => by
    rw [Int.pow_succ] at h2 h4
    have e : ∀ (x : Int) (j : Nat), j < z → bigAt (z + 1) x j = bigAt z (x / 256) j := fun x j hj => by
      unfold bigAt
      have e2 : (256 : Int) ^ (z + 1 - 1 - j) = 256 * 256 ^ (z - 1 - j) := by rw [show z + 1 - 1 - j = (z - 1 - j) + 1 by omega, Int.pow_succ']
      rw [e2, ← Int.ediv_ediv_of_nonneg (by decide : (0 : Int) ≤ 256)]
    have l : v % 256 = w % 256 := by
      have := h z (by omega)
      unfold bigAt at this
      rw [show z + 1 - 1 - z = 0 by omega, Int.pow_zero, Int.ediv_one, Int.ediv_one] at this
      exact this
    have := big_inj z (v / 256) (w / 256) (by omega) (by omega) (by omega) (by omega) fun j hj => by rw [← e v j hj, ← e w j hj]; exact h j (by omega)
    omega
section
variable {t n c u l : Int} {em : Nat → Int} {k : Nat → Nat → Int} {j : Nat}
theorem bF_t (h : j < 8) : bodyF t n c em u l k j = bigAt 8 t j := by unfold bodyF; rw [if_pos h]
theorem bF_n (h : j < 4) : bodyF t n c em u l k (8 + j) = bigAt 4 n j := by unfold bodyF; rw [if_neg (by omega), if_pos (by omega)]; congr 1; omega
theorem bF_c (h : j < 2) : bodyF t n c em u l k (12 + j) = bigAt 2 c j := by unfold bodyF; rw [if_neg (by omega), if_neg (by omega), if_pos (by omega)]; congr 1; omega
theorem bF_e (h : j < 32) : bodyF t n c em u l k (14 + j) = em j := by unfold bodyF; rw [if_neg (by omega), if_neg (by omega), if_neg (by omega), if_pos (by omega)]; congr 1; omega
theorem bF_u (h : j < 8) : bodyF t n c em u l k (46 + j) = bigAt 8 u j := by unfold bodyF; rw [if_neg (by omega), if_neg (by omega), if_neg (by omega), if_neg (by omega), if_pos (by omega)]; congr 1; omega
theorem bF_l (h : j < 1) : bodyF t n c em u l k (54 + j) = bigAt 1 l j := by unfold bodyF; rw [if_neg (by omega), if_neg (by omega), if_neg (by omega), if_neg (by omega), if_neg (by omega), if_pos (by omega)]; congr 1; omega
theorem bF_k : bodyF t n c em u l k (55 + j) = k j 0 := by unfold bodyF; rw [if_neg (by omega), if_neg (by omega), if_neg (by omega), if_neg (by omega), if_neg (by omega), if_neg (by omega)]; congr 1; omega
end
theorem body_inj {t n c u l t' n' c' u' l' : Int} {em em' : Nat → Int} {m m' : Nat} {k k' : Nat → Nat → Int}
    (b : bodyE t n c u l m = 0) (b' : bodyE t' n' c' u' l' m' = 0) (hl : m = m') (h : ∀ j, j < 55 + m → bodyF t n c em u l k j = bodyF t' n' c' em' u' l' k' j) :
    t = t' ∧ n = n' ∧ c = c' ∧ (∀ j, j < 32 → em j = em' j) ∧ u = u' ∧ l = l' ∧ ∀ i, i < m → k i 0 = k' i 0 := by
  have r : ∀ {t n c u l : Int} {m : Nat}, bodyE t n c u l m = 0 → (0 ≤ t ∧ t ≤ 1099511627776) ∧ (0 ≤ n ∧ n ≤ 4294967295) ∧ (0 ≤ c ∧ c ≤ 65535) ∧ (0 ≤ u ∧ u ≤ 1099511627776) ∧ (0 ≤ l ∧ l ≤ 255) := fun h => by
    unfold bodyE at h
    split at h
    · rename_i g; exact g
    · cases h
  obtain ⟨⟨t1, t2⟩, ⟨n1, n2⟩, ⟨c1, c2⟩, ⟨u1, u2⟩, l1, l2⟩ := r b
  obtain ⟨⟨t3, t4⟩, ⟨n3, n4⟩, ⟨c3, c4⟩, ⟨u3, u4⟩, l3, l4⟩ := r b'
  have p8 : (256 : Int) ^ 8 = 18446744073709551616 := by decide
  have p4 : (256 : Int) ^ 4 = 4294967296 := by decide
  have p2 : (256 : Int) ^ 2 = 65536 := by decide
  have p1 : (256 : Int) ^ 1 = 256 := by decide
  refine ⟨big_inj 8 _ _ t1 (by omega) t3 (by omega) fun j hj => ?_, big_inj 4 _ _ n1 (by omega) n3 (by omega) fun j hj => ?_, big_inj 2 _ _ c1 (by omega) c3 (by omega) fun j hj => ?_, fun j hj => ?_, big_inj 8 _ _ u1 (by omega) u3 (by omega) fun j hj => ?_, big_inj 1 _ _ l1 (by omega) l3 (by omega) fun j hj => ?_, fun i hi => ?_⟩
  · have := h j (by omega); rwa [bF_t hj, bF_t hj] at this
  · have := h (8 + j) (by omega); rwa [bF_n hj, bF_n hj] at this
  · have := h (12 + j) (by omega); rwa [bF_c hj, bF_c hj] at this
  · have := h (14 + j) (by omega); rwa [bF_e hj, bF_e hj] at this
  · have := h (46 + j) (by omega); rwa [bF_u hj, bF_u hj] at this
  · have := h (54 + j) (by omega); rwa [bF_l hj, bF_l hj] at this
  · have := h (55 + i) (by omega); rwa [bF_k, bF_k] at this
theorem ok_body (k a b : Int) (s : ByteArray) (h : rawP k a b s) :
    OwesR Tryd.prog cxBod [] [] 30 Tryd.f4 [sRaw k a b s] true (rBod k a b s) := by
  unfold rBod
  rw [vc_body]
  intro x1 x2 x3 _
  have k1 := h.k
  have a1 := h.a
  have b1 := h.b
  have h1 : -9223372036854775808 ≤ x1 ∧ x1 ≤ 9223372036854775807 := by show _ ≤ IntKind.i64.wrap (a * b) ∧ IntKind.i64.wrap (a * b) ≤ _; rw [IntKind.wrap_i64]; omega
  have h2 : 0 ≤ x2 ∧ x2 ≤ (s.size : Int) := by show 0 ≤ (if (60 : Int) < (s.size : Int) then (60 : Int) else (s.size : Int)) ∧ (if (60 : Int) < (s.size : Int) then (60 : Int) else (s.size : Int)) ≤ _; split <;> omega
  have e2 : x2.toNat = cutL s := by show (if (60 : Int) < (s.size : Int) then (60 : Int) else (s.size : Int)).toNat = min s.size 60; split <;> omega
  have e3 : x3 = cutL s := by
    show (s.extract 0 x2.toNat).size = cutL s
    rw [e2, ByteArray.size_extract]
    unfold cutL
    omega
  have e1 : IntKind.i64.wrap (a * b) = x1 := rfl
  rw [e1, e2, e3]
  clear_value x1 x2 x3
  have F : ∀ i, i < cutL s → (((s.extract 0 (cutL s)).data.getD i (0 : UInt8)).toNat : Int) = cutF s i := fun _ _ => rfl
  simp [k1, a1, b1, h1, h2]
  intro _ _ i hi
  have := F i hi
  simpa using this
theorem cxok_Bod : CxOK Tryd.prog cxBod := pgl_cons card_pkW (pgl_cons card_word ⟨fun p hp => by
  simp only [List.mem_cons, List.not_mem_nil, or_false] at hp
  rcases hp with rfl | rfl | rfl <;> exact fun _ _ _ h => (by cases h), fun _ h => (by cases h)⟩)
theorem card_body {gl : Globs} : FnOKs Tryd.prog gl 4 cBod := by
  refine FnOKs.up0 (FnOKs_Q (cx := cxBod) cxok_Bod (sl := []) (fun p hp => (by cases hp)) Tryd.func4 (by kernel_rfl) (by kernel_rfl) fun ls hc => ?_) gl
  unfold bodC at hc
  split at hc
  · rename_i k a b s
    refine ⟨_, _, fun r hr => ?_, ok_body k a b s hc.1⟩
    rw [List.mem_singleton.1 hr]
    intro z hz
    simp only [List.mem_cons, List.not_mem_nil, or_false] at hz
    rcases hz with rfl | rfl | rfl | rfl | rfl | rfl | rfl
    · exact trivial
    · exact trivial
    · exact trivial
    · exact trivial
    · exact trivial
    · exact trivial
    · exact fun i _ c _ => ⟨trivial, rfl⟩
  · exact hc.1.elim
end Go.Proofs.YtgcnbpdifpjkcaaDoor
end
