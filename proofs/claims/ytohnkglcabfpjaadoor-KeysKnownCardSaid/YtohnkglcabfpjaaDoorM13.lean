/-
  Texts: V31, P61, V32, P62, Kl, V33, P63, V17, P48, V54, P89.
-/
import Derived.Test.YtohnkglcabfpjaaDoorM1
import Derived.Test.YtohnkglcabfpjaaDoorM2
import Derived.Test.YtohnkglcabfpjaaDoorM3
import Derived.Test.YtohnkglcabfpjaaDoorM4
import Derived.Test.YtohnkglcabfpjaaDoorM5
import Derived.Test.YtohnkglcabfpjaaDoorM6
import Derived.Test.YtohnkglcabfpjaaDoorM7
import Derived.Test.YtohnkglcabfpjaaDoorM8
import Derived.Test.YtohnkglcabfpjaaDoorM9
import Derived.Test.YtohnkglcabfpjaaDoorM10
import Derived.Test.YtohnkglcabfpjaaDoorM11
import Derived.Test.YtohnkglcabfpjaaDoorM12
section
namespace Go.Proofs.YtohnkglcabfpjaaDoor
open Go Go.Sx Go.RowKit
def cxKTurn : Cx := ⟨[(50, specLanes 25 25 thetaB), (49, specLanes 25 25 scatB), (48, specLanes 25 25 chiB)], glK, 0, []⟩
def kRow25 (a : Nat → BitVec 64) : List SK := [.f .u64 25 fun i => lw (a i)]
def rcSK : List SK := [.c (.num .u64 1), .c (.num .u64 32898), .c (.num .u64 9223372036854808714), .c (.num .u64 9223372039002292224), .c (.num .u64 32907), .c (.num .u64 2147483649), .c (.num .u64 9223372039002292353), .c (.num .u64 9223372036854808585), .c (.num .u64 138), .c (.num .u64 136), .c (.num .u64 2147516425), .c (.num .u64 2147483658), .c (.num .u64 2147516555), .c (.num .u64 9223372036854775947), .c (.num .u64 9223372036854808713), .c (.num .u64 9223372036854808579), .c (.num .u64 9223372036854808578), .c (.num .u64 9223372036854775936), .c (.num .u64 32778), .c (.num .u64 9223372039002259466), .c (.num .u64 9223372039002292353), .c (.num .u64 9223372036854808704), .c (.num .u64 2147483649), .c (.num .u64 9223372039002292232)]
def invTurn (a : Nat → BitVec 64) : Inv where
  X := Nat
  tm r := slotsAt 20 [(1, .one (.sc (.ptr 0 0))), (2, .one (.sc (.ptr 1 0))), (5, .one (.agg rcSK)), (6, .one (sI .i64 (r : Int)))]
  ob r := [.cells 57 (kRow25 (roundsB r a)) 0, .cells 57 (List.replicate 25 (.c (.num .u64 0))) 0]
  holds r := r ≤ 24
  less r := 24 - r
def mayG (H : Nat → Int) (N : Int) : Bool := decide (0 ≤ N ∧ N < 136) && (List.range (136 - N.toNat)).all fun j => H (N.toNat + j) == 0
def invMay (L H : Nat → Int) (N : Int) : Inv where
  X := Nat
  tm i := slotsAt 25 [(1, .one (.sc (.ptr 0 0))), (16, .one (.sc (.sls 0 25 N.toNat 136 (136 - N.toNat)))), (17, .one (sI .i64 ((136 - N.toNat : Nat) : Int))), (18, .one (sI .i64 (i : Int)))]
  ob _ := [.cells 60 [.f .u64 25 L, .f .u8 136 H, .c (.val (.int .i64 N))] 0]
  holds i := 0 ≤ N ∧ N < 136 ∧ i ≤ 136 - N.toNat ∧ ∀ j, j < i → H (N.toNat + j) = 0
  less i := 136 - i
def invSoak (a : Nat → BitVec 64) (H : Nat → Int) (N : Int) : Inv where
  X := Nat
  tm i := slotsAt 30 [(1, .one (.sc (.ptr 0 0))), (2, .one (.sc (.ptr 1 0))), (6, .one (.agg [.f .u8 136 H])), (7, .one (sI .i64 (i : Int)))]
  ob i := [.cells 60 [.f .u64 25 (fun j => lw (absB a H i j)), .f .u8 136 H, .c (.val (.int .i64 N))] 0, .cells 60 (List.replicate 25 (.c (.num .u64 0)) ++ List.replicate 136 (.c (.num .u8 0)) ++ [.c (.num .i64 0)]) 0]
  holds i := i ≤ 136
  less i := 136 - i
def zeroSp : List SK := [.f .u8 136 (fun _ => 0), .c (.num .i64 0)]
def invFirst (L : Nat → Int) : Inv where
  X := Nat
  tm i := slotsAt 21 [(1, .one (.sc (.ptr 0 0))), (2, .one (.sc (.ptr 1 0))), (3, .one (.sc (.ptr 2 0))), (5, .one (sI .i64 (i : Int)))]
  ob i := [.cells 57 [.f .u64 25 L] 0, .cells 42 (List.replicate 32 (.c (.num .u8 0))) 0, .cells 42 [.f .u8 32 (fun j => if j < i then firstG L j else 0)] 0]
  holds i := i ≤ 32
  less i := 32 - i
theorem vc_Turn (a : Nat → BitVec 64) :
    Owes Tryd.prog cxKTurn [(2, .inv (invTurn a))] 30 Tryd.f42 [sRow .u64 25 fun i => lw (a i)] (.one (sRow .u64 25 fun i => lw (turnB a i))) =
    ((∀ (y : Nat), closedB (slotsAt 20 [(1, SV.one (SA.sc (SC.ptr 0 0))), (2, SV.one (SA.sc (SC.ptr 1 0))), (5, SV.one (SA.agg rcSK)), (6, SV.one (sI Go.IntKind.i64 (↑y : Int)))]) [SO.cells (57 : Go.TypeId) (kRow25 (roundsB y a)) 0, SO.cells (57 : Go.TypeId) (List.replicate 25 (SK.c (SC.num Go.IntKind.u64 (0 : Int)))) 0] = Bool.true) ∧ ∃ (y : Nat), y ≤ 24 ∧ (0 : Int) = (↑y : Int) ∧ ((∀ (j : Nat), j < 25 → lw (a j) = lw (roundsB y a j)) ∧ True) ∧ 0 = 0 ∧ 0 = 0 ∧ ∀ (y : Nat), y ≤ 24 → (Decidable.decide ((↑y : Int) < (24 : Int)) = Bool.true → ((0 : Int) ≤ (↑y : Int) ∧ (↑y : Int) < (24 : Int)) ∧ (∀ (i : Nat), i < 25 → (0 : Int) ≤ lw (roundsB y a i) ∧ lw (roundsB y a i) < (18446744073709551616 : Int)) ∧ (∀ (i : Nat), i < 25 → (0 : Int) ≤ lw (thetaB (ofRow fun (i : Nat) => lw (roundsB y a i)) i) ∧ lw (thetaB (ofRow fun (i : Nat) => lw (roundsB y a i)) i) < (18446744073709551616 : Int)) ∧ (∀ (i : Nat), i < 25 → (0 : Int) ≤ lw (scatB (ofRow fun (i : Nat) => lw (thetaB (ofRow fun (i : Nat) => lw (roundsB y a i)) i)) i) ∧ lw (scatB (ofRow fun (i : Nat) => lw (thetaB (ofRow fun (i : Nat) => lw (roundsB y a i)) i)) i) < (18446744073709551616 : Int)) ∧ ∃ (y' : Nat), y' ≤ 24 ∧ Go.IntKind.i64.wrap ((↑y : Int) + (1 : Int)) = (↑y' : Int) ∧ (Go.IntKind.u64.wrap (↑(BitVec.ofInt 64 (lw (chiB (ofRow fun (i : Nat) => lw (scatB (ofRow fun (i : Nat) => lw (thetaB (ofRow fun (i : Nat) => lw (roundsB y a i)) i)) i)) 0)) ^^^ BitVec.ofInt 64 ((intsL [SK.c (SC.num Go.IntKind.u64 (1 : Int)), SK.c (SC.num Go.IntKind.u64 (32898 : Int)), SK.c (SC.num Go.IntKind.u64 (9223372036854808714 : Int)), SK.c (SC.num Go.IntKind.u64 (9223372039002292224 : Int)), SK.c (SC.num Go.IntKind.u64 (32907 : Int)), SK.c (SC.num Go.IntKind.u64 (2147483649 : Int)), SK.c (SC.num Go.IntKind.u64 (9223372039002292353 : Int)), SK.c (SC.num Go.IntKind.u64 (9223372036854808585 : Int)), SK.c (SC.num Go.IntKind.u64 (138 : Int)), SK.c (SC.num Go.IntKind.u64 (136 : Int)), SK.c (SC.num Go.IntKind.u64 (2147516425 : Int)), SK.c (SC.num Go.IntKind.u64 (2147483658 : Int)), SK.c (SC.num Go.IntKind.u64 (2147516555 : Int)), SK.c (SC.num Go.IntKind.u64 (9223372036854775947 : Int)), SK.c (SC.num Go.IntKind.u64 (9223372036854808713 : Int)), SK.c (SC.num Go.IntKind.u64 (9223372036854808579 : Int)), SK.c (SC.num Go.IntKind.u64 (9223372036854808578 : Int)), SK.c (SC.num Go.IntKind.u64 (9223372036854775936 : Int)), SK.c (SC.num Go.IntKind.u64 (32778 : Int)), SK.c (SC.num Go.IntKind.u64 (9223372039002259466 : Int)), SK.c (SC.num Go.IntKind.u64 (9223372039002292353 : Int)), SK.c (SC.num Go.IntKind.u64 (9223372036854808704 : Int)), SK.c (SC.num Go.IntKind.u64 (2147483649 : Int)), SK.c (SC.num Go.IntKind.u64 (9223372039002292232 : Int))]).getD (↑y : Int).toNat (0 : Int))).toNat : Int) = lw (roundsB y' a 0) ∧ lw (chiB (ofRow fun (i : Nat) => lw (scatB (ofRow fun (i : Nat) => lw (thetaB (ofRow fun (i : Nat) => lw (roundsB y a i)) i)) i)) 1) = lw (roundsB y' a 1) ∧ lw (chiB (ofRow fun (i : Nat) => lw (scatB (ofRow fun (i : Nat) => lw (thetaB (ofRow fun (i : Nat) => lw (roundsB y a i)) i)) i)) 2) = lw (roundsB y' a 2) ∧ lw (chiB (ofRow fun (i : Nat) => lw (scatB (ofRow fun (i : Nat) => lw (thetaB (ofRow fun (i : Nat) => lw (roundsB y a i)) i)) i)) 3) = lw (roundsB y' a 3) ∧ lw (chiB (ofRow fun (i : Nat) => lw (scatB (ofRow fun (i : Nat) => lw (thetaB (ofRow fun (i : Nat) => lw (roundsB y a i)) i)) i)) 4) = lw (roundsB y' a 4) ∧ lw (chiB (ofRow fun (i : Nat) => lw (scatB (ofRow fun (i : Nat) => lw (thetaB (ofRow fun (i : Nat) => lw (roundsB y a i)) i)) i)) 5) = lw (roundsB y' a 5) ∧ lw (chiB (ofRow fun (i : Nat) => lw (scatB (ofRow fun (i : Nat) => lw (thetaB (ofRow fun (i : Nat) => lw (roundsB y a i)) i)) i)) 6) = lw (roundsB y' a 6) ∧ lw (chiB (ofRow fun (i : Nat) => lw (scatB (ofRow fun (i : Nat) => lw (thetaB (ofRow fun (i : Nat) => lw (roundsB y a i)) i)) i)) 7) = lw (roundsB y' a 7) ∧ lw (chiB (ofRow fun (i : Nat) => lw (scatB (ofRow fun (i : Nat) => lw (thetaB (ofRow fun (i : Nat) => lw (roundsB y a i)) i)) i)) 8) = lw (roundsB y' a 8) ∧ lw (chiB (ofRow fun (i : Nat) => lw (scatB (ofRow fun (i : Nat) => lw (thetaB (ofRow fun (i : Nat) => lw (roundsB y a i)) i)) i)) 9) = lw (roundsB y' a 9) ∧ lw (chiB (ofRow fun (i : Nat) => lw (scatB (ofRow fun (i : Nat) => lw (thetaB (ofRow fun (i : Nat) => lw (roundsB y a i)) i)) i)) 10) = lw (roundsB y' a 10) ∧ lw (chiB (ofRow fun (i : Nat) => lw (scatB (ofRow fun (i : Nat) => lw (thetaB (ofRow fun (i : Nat) => lw (roundsB y a i)) i)) i)) 11) = lw (roundsB y' a 11) ∧ lw (chiB (ofRow fun (i : Nat) => lw (scatB (ofRow fun (i : Nat) => lw (thetaB (ofRow fun (i : Nat) => lw (roundsB y a i)) i)) i)) 12) = lw (roundsB y' a 12) ∧ lw (chiB (ofRow fun (i : Nat) => lw (scatB (ofRow fun (i : Nat) => lw (thetaB (ofRow fun (i : Nat) => lw (roundsB y a i)) i)) i)) 13) = lw (roundsB y' a 13) ∧ lw (chiB (ofRow fun (i : Nat) => lw (scatB (ofRow fun (i : Nat) => lw (thetaB (ofRow fun (i : Nat) => lw (roundsB y a i)) i)) i)) 14) = lw (roundsB y' a 14) ∧ lw (chiB (ofRow fun (i : Nat) => lw (scatB (ofRow fun (i : Nat) => lw (thetaB (ofRow fun (i : Nat) => lw (roundsB y a i)) i)) i)) 15) = lw (roundsB y' a 15) ∧ lw (chiB (ofRow fun (i : Nat) => lw (scatB (ofRow fun (i : Nat) => lw (thetaB (ofRow fun (i : Nat) => lw (roundsB y a i)) i)) i)) 16) = lw (roundsB y' a 16) ∧ lw (chiB (ofRow fun (i : Nat) => lw (scatB (ofRow fun (i : Nat) => lw (thetaB (ofRow fun (i : Nat) => lw (roundsB y a i)) i)) i)) 17) = lw (roundsB y' a 17) ∧ lw (chiB (ofRow fun (i : Nat) => lw (scatB (ofRow fun (i : Nat) => lw (thetaB (ofRow fun (i : Nat) => lw (roundsB y a i)) i)) i)) 18) = lw (roundsB y' a 18) ∧ lw (chiB (ofRow fun (i : Nat) => lw (scatB (ofRow fun (i : Nat) => lw (thetaB (ofRow fun (i : Nat) => lw (roundsB y a i)) i)) i)) 19) = lw (roundsB y' a 19) ∧ lw (chiB (ofRow fun (i : Nat) => lw (scatB (ofRow fun (i : Nat) => lw (thetaB (ofRow fun (i : Nat) => lw (roundsB y a i)) i)) i)) 20) = lw (roundsB y' a 20) ∧ lw (chiB (ofRow fun (i : Nat) => lw (scatB (ofRow fun (i : Nat) => lw (thetaB (ofRow fun (i : Nat) => lw (roundsB y a i)) i)) i)) 21) = lw (roundsB y' a 21) ∧ lw (chiB (ofRow fun (i : Nat) => lw (scatB (ofRow fun (i : Nat) => lw (thetaB (ofRow fun (i : Nat) => lw (roundsB y a i)) i)) i)) 22) = lw (roundsB y' a 22) ∧ lw (chiB (ofRow fun (i : Nat) => lw (scatB (ofRow fun (i : Nat) => lw (thetaB (ofRow fun (i : Nat) => lw (roundsB y a i)) i)) i)) 23) = lw (roundsB y' a 23) ∧ lw (chiB (ofRow fun (i : Nat) => lw (scatB (ofRow fun (i : Nat) => lw (thetaB (ofRow fun (i : Nat) => lw (roundsB y a i)) i)) i)) 24) = lw (roundsB y' a 24) ∧ True) ∧ 0 = 0 ∧ 0 = 0 ∧ 24 - y' < 24 - y) ∧ (Decidable.decide ((↑y : Int) < (24 : Int)) = Bool.false → (∀ (j : Nat), j < 25 → lw (roundsB y a j) = lw (turnB a j)) ∧ True)) := by kernel_rfl
theorem vc_kMay (L H : Nat → Int) (N : Int) :
    Owes Tryd.prog Cx.none [(4, .inv (invMay L H N))] 30 Tryd.f32 [sSp L H N] (.one (sB (mayG H N))) =
    (let x1 : Bool := Decidable.decide (N < (0 : Int)); let x2 : Nat := 136 - N.toNat; let x3 : Int := (↑x2 : Int); ((!x1) = Bool.true → (!x1) = Bool.true) ∧ ((!x1) = Bool.true → (!x1) = Bool.true) ∧ (x1 = Bool.false → (!x1) = Bool.true) ∧ ((x1 || Decidable.decide (N ≥ (136 : Int))) = Bool.true → Bool.false = mayG H N) ∧ ((x1 || Decidable.decide (N ≥ (136 : Int))) = Bool.false → ((0 : Int) ≤ N ∧ N < (136 : Int)) ∧ (∀ (y : Nat), closedB (slotsAt 25 [(1, SV.one (SA.sc (SC.ptr 0 0))), (16, SV.one (SA.sc (SC.sls 0 25 N.toNat 136 x2))), (17, SV.one (sI Go.IntKind.i64 x3)), (18, SV.one (sI Go.IntKind.i64 (↑y : Int)))]) [SO.cells (60 : Go.TypeId) [SK.f Go.IntKind.u64 25 L, SK.f Go.IntKind.u8 136 H, SK.c (SC.val (Go.Value.int Go.IntKind.i64 N))] 0] = Bool.true) ∧ ∃ (y : Nat), ((0 : Int) ≤ N ∧ N < (136 : Int) ∧ y ≤ x2 ∧ ∀ (j : Nat), j < y → H (N.toNat + j) = (0 : Int)) ∧ (0 = 0 ∧ 25 = 25 ∧ N.toNat = N.toNat ∧ 136 = 136 ∧ x2 = x2) ∧ x3 = x3 ∧ (0 : Int) = (↑y : Int) ∧ ((∀ (j : Nat), j < 25 → L j = L j) ∧ (∀ (j : Nat), j < 136 → H j = H j) ∧ N = N ∧ True) ∧ 0 = 0 ∧ ∀ (y : Nat), ((0 : Int) ≤ N ∧ N < (136 : Int) ∧ y ≤ x2 ∧ ∀ (j : Nat), j < y → H (N.toNat + j) = (0 : Int)) → (Decidable.decide ((↑y : Int) < x3) = Bool.true → ((0 : Int) ≤ (↑y : Int) ∧ (↑y : Int) < x3) ∧ ((0 : Int) ≤ (↑N.toNat : Int) + (↑y : Int) ∧ (↑N.toNat : Int) + (↑y : Int) < (136 : Int)) ∧ ((H ((↑N.toNat : Int) + (↑y : Int)).toNat != (0 : Int)) = Bool.true → Bool.false = mayG H N) ∧ ((H ((↑N.toNat : Int) + (↑y : Int)).toNat != (0 : Int)) = Bool.false → ∃ (y' : Nat), ((0 : Int) ≤ N ∧ N < (136 : Int) ∧ y' ≤ x2 ∧ ∀ (j : Nat), j < y' → H (N.toNat + j) = (0 : Int)) ∧ (0 = 0 ∧ 25 = 25 ∧ N.toNat = N.toNat ∧ 136 = 136 ∧ x2 = x2) ∧ x3 = x3 ∧ Go.IntKind.i64.wrap ((↑y : Int) + (1 : Int)) = (↑y' : Int) ∧ ((∀ (j : Nat), j < 25 → L j = L j) ∧ (∀ (j : Nat), j < 136 → H j = H j) ∧ N = N ∧ True) ∧ 0 = 0 ∧ 136 - y' < 136 - y)) ∧ (Decidable.decide ((↑y : Int) < x3) = Bool.false → Bool.true = mayG H N))) := by kernel_rfl
theorem vc_soak (a : Nat → BitVec 64) (H : Nat → Int) (N : Int) :
    Owes Tryd.prog ⟨[(42, specLanes 25 25 turnB)], glK, 0, []⟩ [(2, .inv (invSoak a H N))] 140 Tryd.f33 [sSp (fun i => lw (a i)) H N] (.one (.agg (.f .u64 25 (fun i => lw (soakB a H i)) :: zeroSp))) =
    ((∀ (y : Nat), closedB (slotsAt 30 [(1, SV.one (SA.sc (SC.ptr 0 0))), (2, SV.one (SA.sc (SC.ptr 1 0))), (6, SV.one (SA.agg [SK.f Go.IntKind.u8 136 H])), (7, SV.one (sI Go.IntKind.i64 (↑y : Int)))]) [SO.cells (60 : Go.TypeId) [SK.f Go.IntKind.u64 25 fun (j : Nat) => lw (absB a H y j), SK.f Go.IntKind.u8 136 H, SK.c (SC.val (Go.Value.int Go.IntKind.i64 N))] 0, SO.cells (60 : Go.TypeId) (List.replicate 25 (SK.c (SC.num Go.IntKind.u64 (0 : Int))) ++ List.replicate 136 (SK.c (SC.num Go.IntKind.u8 (0 : Int))) ++ [SK.c (SC.num Go.IntKind.i64 (0 : Int))]) 0] = Bool.true) ∧ ∃ (y : Nat), y ≤ 136 ∧ ((∀ (j : Nat), j < 136 → H j = H j) ∧ True) ∧ (0 : Int) = (↑y : Int) ∧ ((∀ (j : Nat), j < 25 → lw (a j) = lw (absB a H y j)) ∧ (∀ (j : Nat), j < 136 → H j = H j) ∧ N = N ∧ True) ∧ 0 = 0 ∧ 0 = 0 ∧ ∀ (y : Nat), y ≤ 136 → (Decidable.decide ((↑y : Int) < (136 : Int)) = Bool.true → ((0 : Int) ≤ (↑y : Int) ∧ (↑y : Int) < (136 : Int)) ∧ ((0 : Int) ≤ Go.IntKind.i64.wrap ((↑y : Int).tdiv (8 : Int)) ∧ Go.IntKind.i64.wrap ((↑y : Int).tdiv (8 : Int)) < (25 : Int)) ∧ ((0 : Int) ≤ Go.IntKind.i64.wrap ((↑y : Int).tdiv (8 : Int)) ∧ Go.IntKind.i64.wrap ((↑y : Int).tdiv (8 : Int)) < (25 : Int)) ∧ (0 : Int) ≤ Go.IntKind.i64.wrap ((↑y : Int).tmod (8 : Int) * (8 : Int)) ∧ ((0 : Int) ≤ Go.IntKind.i64.wrap ((↑y : Int).tdiv (8 : Int)) ∧ Go.IntKind.i64.wrap ((↑y : Int).tdiv (8 : Int)) < (25 : Int)) ∧ ((0 : Int) ≤ Go.IntKind.i64.wrap ((↑y : Int).tdiv (8 : Int)) ∧ Go.IntKind.i64.wrap ((↑y : Int).tdiv (8 : Int)) < (25 : Int)) ∧ ∃ (y' : Nat), y' ≤ 136 ∧ ((∀ (j : Nat), j < 136 → H j = H j) ∧ True) ∧ Go.IntKind.i64.wrap ((↑y : Int) + (1 : Int)) = (↑y' : Int) ∧ ((∀ (j : Nat), j < 25 → (if j = (Go.IntKind.i64.wrap ((↑y : Int).tdiv (8 : Int))).toNat then Go.IntKind.u64.wrap (↑(BitVec.ofInt 64 (lw (absB a H y (Go.IntKind.i64.wrap ((↑y : Int).tdiv (8 : Int))).toNat)) ^^^ BitVec.ofInt 64 (Go.IntKind.u64.wrap (Go.IntKind.u64.wrap (H (↑y : Int).toNat) * (2 : Int) ^ Min.min (Go.IntKind.i64.wrap ((↑y : Int).tmod (8 : Int) * (8 : Int))).toNat 64))).toNat : Int) else lw (absB a H y j)) = lw (absB a H y' j)) ∧ (∀ (j : Nat), j < 136 → H j = H j) ∧ N = N ∧ True) ∧ 0 = 0 ∧ 0 = 0 ∧ 136 - y' < 136 - y) ∧ (Decidable.decide ((↑y : Int) < (136 : Int)) = Bool.false → (∀ (i : Nat), i < 25 → (0 : Int) ≤ lw (absB a H y i) ∧ lw (absB a H y i) < (18446744073709551616 : Int)) ∧ (∀ (j : Nat), j < 25 → lw (turnB (ofRow fun (j : Nat) => lw (absB a H y j)) j) = lw (soakB a H j)) ∧ (0 : Int) = (0 : Int) ∧ (0 : Int) = (0 : Int) ∧ (0 : Int) = (0 : Int) ∧ (0 : Int) = (0 : Int) ∧ (0 : Int) = (0 : Int) ∧ (0 : Int) = (0 : Int) ∧ (0 : Int) = (0 : Int) ∧ (0 : Int) = (0 : Int) ∧ (0 : Int) = (0 : Int) ∧ (0 : Int) = (0 : Int) ∧ (0 : Int) = (0 : Int) ∧ (0 : Int) = (0 : Int) ∧ (0 : Int) = (0 : Int) ∧ (0 : Int) = (0 : Int) ∧ (0 : Int) = (0 : Int) ∧ (0 : Int) = (0 : Int) ∧ (0 : Int) = (0 : Int) ∧ (0 : Int) = (0 : Int) ∧ (0 : Int) = (0 : Int) ∧ (0 : Int) = (0 : Int) ∧ (0 : Int) = (0 : Int) ∧ (0 : Int) = (0 : Int) ∧ (0 : Int) = (0 : Int) ∧ (0 : Int) = (0 : Int) ∧ (0 : Int) = (0 : Int) ∧ (0 : Int) = (0 : Int) ∧ (0 : Int) = (0 : Int) ∧ (0 : Int) = (0 : Int) ∧ (0 : Int) = (0 : Int) ∧ (0 : Int) = (0 : Int) ∧ (0 : Int) = (0 : Int) ∧ (0 : Int) = (0 : Int) ∧ (0 : Int) = (0 : Int) ∧ (0 : Int) = (0 : Int) ∧ (0 : Int) = (0 : Int) ∧ (0 : Int) = (0 : Int) ∧ (0 : Int) = (0 : Int) ∧ (0 : Int) = (0 : Int) ∧ (0 : Int) = (0 : Int) ∧ (0 : Int) = (0 : Int) ∧ (0 : Int) = (0 : Int) ∧ (0 : Int) = (0 : Int) ∧ (0 : Int) = (0 : Int) ∧ (0 : Int) = (0 : Int) ∧ (0 : Int) = (0 : Int) ∧ (0 : Int) = (0 : Int) ∧ (0 : Int) = (0 : Int) ∧ (0 : Int) = (0 : Int) ∧ (0 : Int) = (0 : Int) ∧ (0 : Int) = (0 : Int) ∧ (0 : Int) = (0 : Int) ∧ (0 : Int) = (0 : Int) ∧ (0 : Int) = (0 : Int) ∧ (0 : Int) = (0 : Int) ∧ (0 : Int) = (0 : Int) ∧ (0 : Int) = (0 : Int) ∧ (0 : Int) = (0 : Int) ∧ (0 : Int) = (0 : Int) ∧ (0 : Int) = (0 : Int) ∧ (0 : Int) = (0 : Int) ∧ (0 : Int) = (0 : Int) ∧ (0 : Int) = (0 : Int) ∧ (0 : Int) = (0 : Int) ∧ (0 : Int) = (0 : Int) ∧ (0 : Int) = (0 : Int) ∧ (0 : Int) = (0 : Int) ∧ (0 : Int) = (0 : Int) ∧ (0 : Int) = (0 : Int) ∧ (0 : Int) = (0 : Int) ∧ (0 : Int) = (0 : Int) ∧ (0 : Int) = (0 : Int) ∧ (0 : Int) = (0 : Int) ∧ (0 : Int) = (0 : Int) ∧ (0 : Int) = (0 : Int) ∧ (0 : Int) = (0 : Int) ∧ (0 : Int) = (0 : Int) ∧ (0 : Int) = (0 : Int) ∧ (0 : Int) = (0 : Int) ∧ (0 : Int) = (0 : Int) ∧ (0 : Int) = (0 : Int) ∧ (0 : Int) = (0 : Int) ∧ (0 : Int) = (0 : Int) ∧ (0 : Int) = (0 : Int) ∧ (0 : Int) = (0 : Int) ∧ (0 : Int) = (0 : Int) ∧ (0 : Int) = (0 : Int) ∧ (0 : Int) = (0 : Int) ∧ (0 : Int) = (0 : Int) ∧ (0 : Int) = (0 : Int) ∧ (0 : Int) = (0 : Int) ∧ (0 : Int) = (0 : Int) ∧ (0 : Int) = (0 : Int) ∧ (0 : Int) = (0 : Int) ∧ (0 : Int) = (0 : Int) ∧ (0 : Int) = (0 : Int) ∧ (0 : Int) = (0 : Int) ∧ (0 : Int) = (0 : Int) ∧ (0 : Int) = (0 : Int) ∧ (0 : Int) = (0 : Int) ∧ (0 : Int) = (0 : Int) ∧ (0 : Int) = (0 : Int) ∧ (0 : Int) = (0 : Int) ∧ (0 : Int) = (0 : Int) ∧ (0 : Int) = (0 : Int) ∧ (0 : Int) = (0 : Int) ∧ (0 : Int) = (0 : Int) ∧ (0 : Int) = (0 : Int) ∧ (0 : Int) = (0 : Int) ∧ (0 : Int) = (0 : Int) ∧ (0 : Int) = (0 : Int) ∧ (0 : Int) = (0 : Int) ∧ (0 : Int) = (0 : Int) ∧ (0 : Int) = (0 : Int) ∧ (0 : Int) = (0 : Int) ∧ (0 : Int) = (0 : Int) ∧ (0 : Int) = (0 : Int) ∧ (0 : Int) = (0 : Int) ∧ (0 : Int) = (0 : Int) ∧ (0 : Int) = (0 : Int) ∧ (0 : Int) = (0 : Int) ∧ (0 : Int) = (0 : Int) ∧ (0 : Int) = (0 : Int) ∧ (0 : Int) = (0 : Int) ∧ (0 : Int) = (0 : Int) ∧ (0 : Int) = (0 : Int) ∧ (0 : Int) = (0 : Int) ∧ (0 : Int) = (0 : Int) ∧ (0 : Int) = (0 : Int) ∧ (0 : Int) = (0 : Int) ∧ (0 : Int) = (0 : Int) ∧ (0 : Int) = (0 : Int) ∧ (0 : Int) = (0 : Int) ∧ (0 : Int) = (0 : Int) ∧ (0 : Int) = (0 : Int) ∧ (0 : Int) = (0 : Int) ∧ (0 : Int) = (0 : Int) ∧ (0 : Int) = (0 : Int) ∧ True)) := by kernel_rfl
theorem vc_first (L : Nat → Int) :
    Owes Tryd.prog Cx.none [(3, .inv (invFirst L))] 40 Tryd.f34 [sRow .u64 25 L] (.one (sRow .u8 32 (firstG L))) =
    ((∀ (y : Nat), closedB (slotsAt 21 [(1, SV.one (SA.sc (SC.ptr 0 0))), (2, SV.one (SA.sc (SC.ptr 1 0))), (3, SV.one (SA.sc (SC.ptr 2 0))), (5, SV.one (sI Go.IntKind.i64 (↑y : Int)))]) [SO.cells (57 : Go.TypeId) [SK.f Go.IntKind.u64 25 L] 0, SO.cells (42 : Go.TypeId) (List.replicate 32 (SK.c (SC.num Go.IntKind.u8 (0 : Int)))) 0, SO.cells (42 : Go.TypeId) [SK.f Go.IntKind.u8 32 fun (j : Nat) => if j < y then firstG L j else (0 : Int)] 0] = Bool.true) ∧ ∃ (y : Nat), y ≤ 32 ∧ (0 : Int) = (↑y : Int) ∧ ((∀ (j : Nat), j < 25 → L j = L j) ∧ True) ∧ 0 = 0 ∧ 0 = 0 ∧ (((0 : Int) = if 0 < y then firstG L 0 else (0 : Int)) ∧ ((0 : Int) = if 1 < y then firstG L 1 else (0 : Int)) ∧ ((0 : Int) = if 2 < y then firstG L 2 else (0 : Int)) ∧ ((0 : Int) = if 3 < y then firstG L 3 else (0 : Int)) ∧ ((0 : Int) = if 4 < y then firstG L 4 else (0 : Int)) ∧ ((0 : Int) = if 5 < y then firstG L 5 else (0 : Int)) ∧ ((0 : Int) = if 6 < y then firstG L 6 else (0 : Int)) ∧ ((0 : Int) = if 7 < y then firstG L 7 else (0 : Int)) ∧ ((0 : Int) = if 8 < y then firstG L 8 else (0 : Int)) ∧ ((0 : Int) = if 9 < y then firstG L 9 else (0 : Int)) ∧ ((0 : Int) = if 10 < y then firstG L 10 else (0 : Int)) ∧ ((0 : Int) = if 11 < y then firstG L 11 else (0 : Int)) ∧ ((0 : Int) = if 12 < y then firstG L 12 else (0 : Int)) ∧ ((0 : Int) = if 13 < y then firstG L 13 else (0 : Int)) ∧ ((0 : Int) = if 14 < y then firstG L 14 else (0 : Int)) ∧ ((0 : Int) = if 15 < y then firstG L 15 else (0 : Int)) ∧ ((0 : Int) = if 16 < y then firstG L 16 else (0 : Int)) ∧ ((0 : Int) = if 17 < y then firstG L 17 else (0 : Int)) ∧ ((0 : Int) = if 18 < y then firstG L 18 else (0 : Int)) ∧ ((0 : Int) = if 19 < y then firstG L 19 else (0 : Int)) ∧ ((0 : Int) = if 20 < y then firstG L 20 else (0 : Int)) ∧ ((0 : Int) = if 21 < y then firstG L 21 else (0 : Int)) ∧ ((0 : Int) = if 22 < y then firstG L 22 else (0 : Int)) ∧ ((0 : Int) = if 23 < y then firstG L 23 else (0 : Int)) ∧ ((0 : Int) = if 24 < y then firstG L 24 else (0 : Int)) ∧ ((0 : Int) = if 25 < y then firstG L 25 else (0 : Int)) ∧ ((0 : Int) = if 26 < y then firstG L 26 else (0 : Int)) ∧ ((0 : Int) = if 27 < y then firstG L 27 else (0 : Int)) ∧ ((0 : Int) = if 28 < y then firstG L 28 else (0 : Int)) ∧ ((0 : Int) = if 29 < y then firstG L 29 else (0 : Int)) ∧ ((0 : Int) = if 30 < y then firstG L 30 else (0 : Int)) ∧ ((0 : Int) = if 31 < y then firstG L 31 else (0 : Int)) ∧ True) ∧ 0 = 0 ∧ ∀ (y : Nat), y ≤ 32 → (Decidable.decide ((↑y : Int) < (32 : Int)) = Bool.true → ((0 : Int) ≤ Go.IntKind.i64.wrap ((↑y : Int).tdiv (8 : Int)) ∧ Go.IntKind.i64.wrap ((↑y : Int).tdiv (8 : Int)) < (25 : Int)) ∧ ((0 : Int) ≤ Go.IntKind.i64.wrap ((↑y : Int).tdiv (8 : Int)) ∧ Go.IntKind.i64.wrap ((↑y : Int).tdiv (8 : Int)) < (25 : Int)) ∧ (0 : Int) ≤ Go.IntKind.i64.wrap ((↑y : Int).tmod (8 : Int) * (8 : Int)) ∧ ((0 : Int) ≤ (↑y : Int) ∧ (↑y : Int) < (32 : Int)) ∧ ((0 : Int) ≤ (↑y : Int) ∧ (↑y : Int) < (32 : Int)) ∧ ∃ (y' : Nat), y' ≤ 32 ∧ Go.IntKind.i64.wrap ((↑y : Int) + (1 : Int)) = (↑y' : Int) ∧ ((∀ (j : Nat), j < 25 → L j = L j) ∧ True) ∧ 0 = 0 ∧ 0 = 0 ∧ ((∀ (j : Nat), j < 32 → (if j = (↑y : Int).toNat then Go.IntKind.u8.wrap ((L (Go.IntKind.i64.wrap ((↑y : Int).tdiv (8 : Int))).toNat).fdiv ((2 : Int) ^ Min.min (Go.IntKind.i64.wrap ((↑y : Int).tmod (8 : Int) * (8 : Int))).toNat 64)) else if j < y then firstG L j else (0 : Int)) = if j < y' then firstG L j else (0 : Int)) ∧ True) ∧ 0 = 0 ∧ 32 - y' < 32 - y) ∧ (Decidable.decide ((↑y : Int) < (32 : Int)) = Bool.false → (∀ (j : Nat), j < 32 → (if j < y then firstG L j else (0 : Int)) = firstG L j) ∧ True)) := by kernel_rfl
end Go.Proofs.YtohnkglcabfpjaaDoor
end

section
namespace Go.Proofs.YtohnkglcabfpjaaDoor
open Go Go.Sx Go.RowKit
theorem wrap_small {x : Int} (h : 0 ≤ x ∧ x < 9223372036854775808) : IntKind.i64.wrap x = x := by
  rw [IntKind.wrap_i64]; omega
theorem ofRow_lw (a : Nat → BitVec 64) : (ofRow fun i => lw (a i)) = a := by
  funext i; exact ofInt_lw _
theorem lanes_lw (n : Nat) (a : Nat → BitVec 64) : ∀ i, i < n → 0 ≤ lw (a i) ∧ lw (a i) < 18446744073709551616 := fun i _ => lane_lw (a i)
theorem rc_get : ∀ y, y < 24 → BitVec.ofInt 64 ((intsL rcSK).getD y 0) = rcN.getD y 0 := by decide +kernel
theorem ok_Turn (a : Nat → BitVec 64) : Owes Tryd.prog cxKTurn [(2, .inv (invTurn a))] 30 Tryd.f42 [sRow .u64 25 fun i => lw (a i)] (.one (sRow .u64 25 fun i => lw (turnB a i))) := by
  have hrc := rc_get
  simp only [rcSK] at hrc
  rw [vc_Turn]
  refine ⟨fun y => rfl, 0, by omega, rfl, ⟨fun j _ => rfl, trivial⟩, rfl, rfl, fun y hy => ⟨fun hlt => ?_, fun hge => ?_⟩⟩
  · have hlt : y < 24 := by have := of_decide_eq_true hlt; omega
    refine ⟨⟨by omega, by omega⟩, lanes_lw _ _, lanes_lw _ _, lanes_lw _ _, y + 1, by omega, by rw [wrap_small (by omega)]; omega, ?_, rfl, rfl, by omega⟩
    simp only [ofRow_lw, Int.toNat_natCast, hrc y hlt, ofInt_lw, wrap_nat]
    simp [roundsB, roundB]
  · have hge : ¬ y < 24 := by have := of_decide_eq_false hge; omega
    have : y = 24 := by omega
    subst this
    exact ⟨fun j _ => rfl, trivial⟩
theorem card_Turn : FnOKg Tryd.prog glK 42 (specLanes 25 25 turnB) :=
  FnOK_lanes (cx := cxKTurn) (iv := fun a => [(2, .inv (invTurn a))]) (by
    refine ⟨fun p hp => ?_, fun _ h => (by cases h)⟩
    simp only [cxKTurn, List.mem_cons, List.not_mem_nil, or_false] at hp
    rcases hp with rfl | rfl | rfl
    · exact card_theta
    · exact card_scat
    · exact card_chi) Tryd.func42 (by kernel_rfl) (by kernel_rfl) ok_Turn
theorem mayG_iff (H : Nat → Int) (N : Int) : mayG H N = true ↔ (0 ≤ N ∧ N < 136) ∧ ∀ j, N.toNat + j < 136 → H (N.toNat + j) = 0 := by
  simp only [mayG, Bool.and_eq_true, decide_eq_true_eq, List.all_eq_true, List.mem_range, beq_iff_eq]
  constructor
  · rintro ⟨h1, h2⟩
    exact ⟨h1, fun j hj => h2 j (by omega)⟩
  · rintro ⟨h1, h2⟩
    exact ⟨h1, fun j hj => h2 j (by omega)⟩
theorem ok_kMay (L H : Nat → Int) (N : Int) : Owes Tryd.prog Cx.none [(4, .inv (invMay L H N))] 30 Tryd.f32 [sSp L H N] (.one (sB (mayG H N))) := by
  rw [vc_kMay]
  intro x1 x2 x3
  refine ⟨id, id, fun h => by rw [h]; rfl, fun h => ?_, fun h => ?_⟩
  · have h1 : N < 0 ∨ 136 ≤ N := by simpa [x1] using h
    cases hm : mayG H N with
    | false => rfl
    | true => obtain ⟨⟨k1, k2⟩, _⟩ := (mayG_iff H N).1 hm; omega
  · have h1 : ¬ N < 0 ∧ ¬ 136 ≤ N := by simpa [x1] using h
    have e3 : x3 = ((136 - N.toNat : Nat) : Int) := rfl
    refine ⟨⟨by omega, by omega⟩, fun y => rfl, 0, ⟨by omega, by omega, by omega, fun j hj => by omega⟩, ⟨rfl, rfl, rfl, rfl, rfl⟩, rfl, rfl, ⟨fun _ _ => rfl, fun _ _ => rfl, rfl, trivial⟩, rfl, fun y hy => ⟨fun hlt => ?_, fun hge => ?_⟩⟩
    · obtain ⟨y1, y2, y3, y4⟩ := hy
      have hlt : (y : Int) < x3 := by simpa using hlt
      have e4 : ((N.toNat : Int) + (y : Int)).toNat = N.toNat + y := by omega
      rw [e4]
      refine ⟨⟨by omega, hlt⟩, ⟨by omega, by omega⟩, fun hne => ?_, fun heq => ?_⟩
      · have hne : H (N.toNat + y) ≠ 0 := by simpa using hne
        cases hm : mayG H N with
        | false => rfl
        | true => exact absurd (((mayG_iff H N).1 hm).2 y (by omega)) hne
      · have heq : H (N.toNat + y) = 0 := by simpa using heq
        refine ⟨y + 1, ⟨y1, y2, by omega, fun j hj => ?_⟩, ⟨rfl, rfl, rfl, rfl, rfl⟩, rfl, by rw [wrap_small (by omega)]; omega, ⟨fun _ _ => rfl, fun _ _ => rfl, rfl, trivial⟩, rfl, by omega⟩
        by_cases e : j = y
        · subst e; exact heq
        · exact y4 j (by omega)
    · obtain ⟨y1, y2, y3, y4⟩ := hy
      have hge : ¬ (y : Int) < x3 := by simpa using hge
      symm
      rw [mayG_iff]
      exact ⟨⟨y1, y2⟩, fun j hj => y4 j (by omega)⟩
theorem card_kMay : FnOKg Tryd.prog glK 32 (specSp (fun _ _ _ => []) fun _ H N => .one (sB (mayG H N))) :=
  FnOKg.up (FnOK_Sp (cx := Cx.none) (g := fun _ H N => .one (sB (mayG H N))) (iv := fun L H N => [(4, .inv (invMay L H N))]) ⟨fun p hp => (by cases hp), fun _ h => (by cases h)⟩ Tryd.func32 (by kernel_rfl) (by kernel_rfl) (fun _ _ _ => trivial) fun L H N _ => ok_kMay L H N) glK
theorem div8 {y : Nat} (h : y < 136) : IntKind.i64.wrap ((y : Int).tdiv 8) = ((y / 8 : Nat) : Int) := by
  have e : (y : Int).tdiv 8 = ((y / 8 : Nat) : Int) := by rw [Int.tdiv_eq_ediv_of_nonneg (by omega)]; omega
  rw [e, wrap_small (by omega)]
theorem mod8 {y : Nat} : IntKind.i64.wrap ((y : Int).tmod 8 * 8) = ((y % 8 * 8 : Nat) : Int) := by
  have e : (y : Int).tmod 8 = ((y % 8 : Nat) : Int) := by rw [Int.tmod_eq_emod_of_nonneg (by omega)]; omega
  rw [e, wrap_small (by omega)]
  omega
theorem ok_soak (a : Nat → BitVec 64) (H : Nat → Int) (N : Int) : Owes Tryd.prog ⟨[(42, specLanes 25 25 turnB)], glK, 0, []⟩ [(2, .inv (invSoak a H N))] 140 Tryd.f33 [sSp (fun i => lw (a i)) H N] (.one (.agg (.f .u64 25 (fun i => lw (soakB a H i)) :: zeroSp))) := by
  rw [vc_soak]
  refine ⟨fun y => rfl, 0, by omega, ⟨fun _ _ => rfl, trivial⟩, rfl, ⟨fun _ _ => rfl, fun _ _ => rfl, rfl, trivial⟩, rfl, rfl, fun y hy => ⟨fun hlt => ?_, fun hge => ?_⟩⟩
  · have hlt : (y : Int) < 136 := of_decide_eq_true hlt
    have hlt : y < 136 := by omega
    rw [div8 hlt, mod8]
    refine ⟨⟨by omega, by omega⟩, ⟨by omega, by omega⟩, ⟨by omega, by omega⟩, by omega, ⟨by omega, by omega⟩, ⟨by omega, by omega⟩, y + 1, by omega, ⟨fun _ _ => rfl, trivial⟩, by rw [wrap_small (by omega)]; omega, ⟨fun j hj => ?_, fun _ _ => rfl, rfl, trivial⟩, rfl, rfl, by omega⟩
    simp only [Int.toNat_natCast, ofInt_lw, wrap_nat, absB]
    have hm : Min.min (y % 8 * 8) 64 = y % 8 * 8 := by omega
    by_cases e : j = y / 8
    · subst e
      simp only [if_true]
      rw [hm]
      rfl
    · simp only [e, if_false]
  · have hge : ¬ (y : Int) < 136 := of_decide_eq_false hge
    have : y = 136 := by omega
    subst this
    refine ⟨lanes_lw _ _, fun j _ => ?_, ?_⟩
    · rw [ofRow_lw]; rfl
    · simp
theorem ok_first (L : Nat → Int) : Owes Tryd.prog Cx.none [(3, .inv (invFirst L))] 40 Tryd.f34 [sRow .u64 25 L] (.one (sRow .u8 32 (firstG L))) := by
  rw [vc_first]
  refine ⟨fun y => rfl, 0, by omega, rfl, ⟨fun _ _ => rfl, trivial⟩, rfl, rfl, ?_, rfl, fun y hy => ⟨fun hlt => ?_, fun hge => ?_⟩⟩
  · simp
  · have hlt : (y : Int) < 32 := of_decide_eq_true hlt
    have hlt : y < 32 := by omega
    rw [div8 (by omega), mod8]
    refine ⟨⟨by omega, by omega⟩, ⟨by omega, by omega⟩, by omega, ⟨by omega, by omega⟩, ⟨by omega, by omega⟩, y + 1, by omega, by rw [wrap_small (by omega)]; omega, ⟨fun _ _ => rfl, trivial⟩, rfl, rfl, ⟨fun j hj => ?_, trivial⟩, rfl, by omega⟩
    simp only [Int.toNat_natCast]
    have hm : Min.min (y % 8 * 8) 64 = y % 8 * 8 := by omega
    by_cases e : j = y
    · subst e
      simp only [if_true, hm, if_pos (Nat.lt_succ_self j), firstG]
    · have : j < y + 1 ↔ j < y := by omega
      simp only [e, if_false, this]
  · have hge : ¬ (y : Int) < 32 := of_decide_eq_false hge
    have : y = 32 := by omega
    subst this
    exact ⟨fun j hj => by simp [hj], trivial⟩
theorem card_first : FnOKg Tryd.prog glK 34 (specRow .u64 .u8 25 32 (fun _ => []) firstG) :=
  FnOKg.up (FnOK_row (cx := Cx.none) (iv := fun L => [(3, .inv (invFirst L))]) ⟨fun p hp => (by cases hp), fun _ h => (by cases h)⟩ Tryd.func34 (by kernel_rfl) (by kernel_rfl) fun L _ => ok_first L) glK
def soakG (L H : Nat → Int) (_ : Int) : SV := .one (.agg (.f .u64 25 (fun i => lw (soakB (ofRow L) H i)) :: zeroSp))
theorem lw_ofRow {n : Nat} {L : Nat → Int} (h : lanes n L) {i : Nat} (hi : i < n) : lw (ofRow L i) = L i := lw_of (h i hi)
theorem card_soak : FnOKg Tryd.prog glK 33 (specSp (fun L _ _ => [lanes 25 L]) soakG) := by
  refine FnOK_owesG (cx := ⟨[(42, specLanes 25 25 turnB)], glK, 0, []⟩) (by
    refine ⟨fun p hp => ?_, fun _ h => (by cases h)⟩
    simp only [List.mem_singleton] at hp
    subst hp
    exact card_Turn) Tryd.func33 (by kernel_rfl) (by kernel_rfl) fun args ps sv hs hp => ?_
  unfold specSp at hs
  split at hs
  · rename_i x
    split at hs
    · rename_i L H N hx
      simp only [Option.some.injEq, Prod.mk.injEq] at hs
      obtain ⟨rfl, rfl⟩ := hs
      obtain ⟨hl, _⟩ := hp
      refine ⟨_, _, [sSp (fun i => lw (ofRow L i)) H N], fun ρ => ?_, fun fz _ z hz => by simp only [List.mem_singleton] at hz; subst hz; exact bnd_sSp _ _ _ _, ?_, ok_soak (ofRow L) H N⟩
      · rw [List.map_singleton, List.map_singleton, asSp_canon hx ρ]
        congr 1
        simp only [SA.conc]
        rw [concs_cons, concs_cons ρ (.f .u64 25 fun i => lw (ofRow L i)), concs_f, concs_f]
        congr 3
        exact List.map_congr_left fun j hj => by rw [lw_ofRow hl (List.mem_range.1 hj)]
      · intro k hk
        simp only [zeroSp, List.mem_cons, List.not_mem_nil, or_false] at hk
        rcases hk with rfl | rfl | rfl <;> trivial
    · cases hs
  · cases hs
end Go.Proofs.YtohnkglcabfpjaaDoor
end

section
namespace Go.Proofs.YtohnkglcabfpjaaDoor
open Go Go.Sx Go.RowKit
def cxEnd : Cx := ⟨[(32, specSp (fun _ _ _ => []) fun _ H N => .one (sB (mayG H N))), (33, specSp (fun L _ _ => [lanes 25 L]) soakG), (34, specRow .u64 .u8 25 32 (fun _ => []) firstG)], glK, 0, []⟩
def spOf (L H : Nat → Int) (N : Int) : Sp := ⟨ofRow L, H, N.toNat⟩
def endG (L H : Nat → Int) (N : Int) : SV := .tup [sRow .u8 32 (fun j => if mayG H N then endB (spOf L H N) j else 0), sI .i64 (if mayG H N then 0 else 12)]
def kAddG (L H : Nat → Int) (N : Int) (n : Nat) (f : Nat → Int) : SV := .tup [sSp (fun i => if mayG H N then lw ((addB (spOf L H N) f n).a i) else 0) (fun j => if mayG H N then (addB (spOf L H N) f n).H j else 0) (if mayG H N then ((addB (spOf L H N) f n).n : Int) else 0), sI .i64 (if mayG H N then 0 else 12)]
def invAdd (L H : Nat → Int) (N : Int) (n : Nat) (f : Nat → Int) : Inv where
  X := Nat × Option Addr × Nat
  tm y := slotsAt 34 [(1, .one (sXs y.2.1 (n - y.1) y.2.2 (fun i => f (y.1 + i)))), (2, .one (.sc (.ptr 0 0))), (4, .one (.sc (.ptr 1 0))), (5, .one (.sc (.num .i64 0)))]
  ob y := [.cells 60 [.f .u64 25 (fun i => lw ((addB (spOf L H N) f y.1).a i)), .f .u8 136 (addB (spOf L H N) f y.1).H, .c (.val (.int .i64 ((addB (spOf L H N) f y.1).n : Int)))] 0, .cells 60 (List.replicate 25 (.c (.num .u64 0)) ++ List.replicate 136 (.c (.num .u8 0)) ++ [.c (.num .i64 0)]) 0]
  holds y := mayG H N = true ∧ y.1 ≤ n
  less y := n - y.1
theorem vc_End (L H : Nat → Int) (N : Int) :
    Owes Tryd.prog cxEnd [] 10 Tryd.f22 [sSp L H N] (endG L H N) =
    (let x1 : Int := if mayG H N = Bool.true then (0 : Int) else (12 : Int); let x2 : Int := Go.IntKind.u8.wrap (H N.toNat + (1 : Int)); ((!mayG H N) = Bool.true → (((0 : Int) = if mayG H N = Bool.true then endB (spOf L H N) 0 else (0 : Int)) ∧ ((0 : Int) = if mayG H N = Bool.true then endB (spOf L H N) 1 else (0 : Int)) ∧ ((0 : Int) = if mayG H N = Bool.true then endB (spOf L H N) 2 else (0 : Int)) ∧ ((0 : Int) = if mayG H N = Bool.true then endB (spOf L H N) 3 else (0 : Int)) ∧ ((0 : Int) = if mayG H N = Bool.true then endB (spOf L H N) 4 else (0 : Int)) ∧ ((0 : Int) = if mayG H N = Bool.true then endB (spOf L H N) 5 else (0 : Int)) ∧ ((0 : Int) = if mayG H N = Bool.true then endB (spOf L H N) 6 else (0 : Int)) ∧ ((0 : Int) = if mayG H N = Bool.true then endB (spOf L H N) 7 else (0 : Int)) ∧ ((0 : Int) = if mayG H N = Bool.true then endB (spOf L H N) 8 else (0 : Int)) ∧ ((0 : Int) = if mayG H N = Bool.true then endB (spOf L H N) 9 else (0 : Int)) ∧ ((0 : Int) = if mayG H N = Bool.true then endB (spOf L H N) 10 else (0 : Int)) ∧ ((0 : Int) = if mayG H N = Bool.true then endB (spOf L H N) 11 else (0 : Int)) ∧ ((0 : Int) = if mayG H N = Bool.true then endB (spOf L H N) 12 else (0 : Int)) ∧ ((0 : Int) = if mayG H N = Bool.true then endB (spOf L H N) 13 else (0 : Int)) ∧ ((0 : Int) = if mayG H N = Bool.true then endB (spOf L H N) 14 else (0 : Int)) ∧ ((0 : Int) = if mayG H N = Bool.true then endB (spOf L H N) 15 else (0 : Int)) ∧ ((0 : Int) = if mayG H N = Bool.true then endB (spOf L H N) 16 else (0 : Int)) ∧ ((0 : Int) = if mayG H N = Bool.true then endB (spOf L H N) 17 else (0 : Int)) ∧ ((0 : Int) = if mayG H N = Bool.true then endB (spOf L H N) 18 else (0 : Int)) ∧ ((0 : Int) = if mayG H N = Bool.true then endB (spOf L H N) 19 else (0 : Int)) ∧ ((0 : Int) = if mayG H N = Bool.true then endB (spOf L H N) 20 else (0 : Int)) ∧ ((0 : Int) = if mayG H N = Bool.true then endB (spOf L H N) 21 else (0 : Int)) ∧ ((0 : Int) = if mayG H N = Bool.true then endB (spOf L H N) 22 else (0 : Int)) ∧ ((0 : Int) = if mayG H N = Bool.true then endB (spOf L H N) 23 else (0 : Int)) ∧ ((0 : Int) = if mayG H N = Bool.true then endB (spOf L H N) 24 else (0 : Int)) ∧ ((0 : Int) = if mayG H N = Bool.true then endB (spOf L H N) 25 else (0 : Int)) ∧ ((0 : Int) = if mayG H N = Bool.true then endB (spOf L H N) 26 else (0 : Int)) ∧ ((0 : Int) = if mayG H N = Bool.true then endB (spOf L H N) 27 else (0 : Int)) ∧ ((0 : Int) = if mayG H N = Bool.true then endB (spOf L H N) 28 else (0 : Int)) ∧ ((0 : Int) = if mayG H N = Bool.true then endB (spOf L H N) 29 else (0 : Int)) ∧ ((0 : Int) = if mayG H N = Bool.true then endB (spOf L H N) 30 else (0 : Int)) ∧ ((0 : Int) = if mayG H N = Bool.true then endB (spOf L H N) 31 else (0 : Int)) ∧ True) ∧ (12 : Int) = x1) ∧ ((!mayG H N) = Bool.false → ((0 : Int) ≤ N ∧ N < (136 : Int)) ∧ ((0 : Int) ≤ N ∧ N < (136 : Int)) ∧ ((0 : Int) ≤ N ∧ N < (136 : Int)) ∧ ((0 : Int) ≤ N ∧ N < (136 : Int)) ∧ (∀ (i : Nat), i < 25 → (0 : Int) ≤ L i ∧ L i < (18446744073709551616 : Int)) ∧ ((∀ (j : Nat), j < 32 → firstG (fun (i : Nat) => lw (soakB (ofRow L) (fun (j : Nat) => (intsL [SK.f Go.IntKind.u8 135 fun (j : Nat) => if j = N.toNat then x2 else H j, SK.c (SC.val (Go.Value.int Go.IntKind.u8 (Go.IntKind.u8.wrap ((if 135 = N.toNat then x2 else H 135) + (128 : Int)))))]).getD j (0 : Int)) i)) j = if mayG H N = Bool.true then endB (spOf L H N) j else (0 : Int)) ∧ True) ∧ (0 : Int) = x1)) := by kernel_rfl
set_option maxHeartbeats 4000000 in
theorem vc_kAdd (L H : Nat → Int) (N : Int) (a : Option Addr) (n cap : Nat) (f : Nat → Int) :
    Owes Tryd.prog cxEnd [(3, .inv (invAdd L H N n f))] 10 Tryd.f20 [sSp L H N, sXs a n cap f] (kAddG L H N n f) =
    (let x1 : Int := if mayG H N = Bool.true then (↑(addB (spOf L H N) f n).n : Int) else (0 : Int); let x2 : Int := if mayG H N = Bool.true then (0 : Int) else (12 : Int); ((!mayG H N) = Bool.true → (((0 : Int) = if mayG H N = Bool.true then lw ((addB (spOf L H N) f n).a 0) else (0 : Int)) ∧ ((0 : Int) = if mayG H N = Bool.true then lw ((addB (spOf L H N) f n).a 1) else (0 : Int)) ∧ ((0 : Int) = if mayG H N = Bool.true then lw ((addB (spOf L H N) f n).a 2) else (0 : Int)) ∧ ((0 : Int) = if mayG H N = Bool.true then lw ((addB (spOf L H N) f n).a 3) else (0 : Int)) ∧ ((0 : Int) = if mayG H N = Bool.true then lw ((addB (spOf L H N) f n).a 4) else (0 : Int)) ∧ ((0 : Int) = if mayG H N = Bool.true then lw ((addB (spOf L H N) f n).a 5) else (0 : Int)) ∧ ((0 : Int) = if mayG H N = Bool.true then lw ((addB (spOf L H N) f n).a 6) else (0 : Int)) ∧ ((0 : Int) = if mayG H N = Bool.true then lw ((addB (spOf L H N) f n).a 7) else (0 : Int)) ∧ ((0 : Int) = if mayG H N = Bool.true then lw ((addB (spOf L H N) f n).a 8) else (0 : Int)) ∧ ((0 : Int) = if mayG H N = Bool.true then lw ((addB (spOf L H N) f n).a 9) else (0 : Int)) ∧ ((0 : Int) = if mayG H N = Bool.true then lw ((addB (spOf L H N) f n).a 10) else (0 : Int)) ∧ ((0 : Int) = if mayG H N = Bool.true then lw ((addB (spOf L H N) f n).a 11) else (0 : Int)) ∧ ((0 : Int) = if mayG H N = Bool.true then lw ((addB (spOf L H N) f n).a 12) else (0 : Int)) ∧ ((0 : Int) = if mayG H N = Bool.true then lw ((addB (spOf L H N) f n).a 13) else (0 : Int)) ∧ ((0 : Int) = if mayG H N = Bool.true then lw ((addB (spOf L H N) f n).a 14) else (0 : Int)) ∧ ((0 : Int) = if mayG H N = Bool.true then lw ((addB (spOf L H N) f n).a 15) else (0 : Int)) ∧ ((0 : Int) = if mayG H N = Bool.true then lw ((addB (spOf L H N) f n).a 16) else (0 : Int)) ∧ ((0 : Int) = if mayG H N = Bool.true then lw ((addB (spOf L H N) f n).a 17) else (0 : Int)) ∧ ((0 : Int) = if mayG H N = Bool.true then lw ((addB (spOf L H N) f n).a 18) else (0 : Int)) ∧ ((0 : Int) = if mayG H N = Bool.true then lw ((addB (spOf L H N) f n).a 19) else (0 : Int)) ∧ ((0 : Int) = if mayG H N = Bool.true then lw ((addB (spOf L H N) f n).a 20) else (0 : Int)) ∧ ((0 : Int) = if mayG H N = Bool.true then lw ((addB (spOf L H N) f n).a 21) else (0 : Int)) ∧ ((0 : Int) = if mayG H N = Bool.true then lw ((addB (spOf L H N) f n).a 22) else (0 : Int)) ∧ ((0 : Int) = if mayG H N = Bool.true then lw ((addB (spOf L H N) f n).a 23) else (0 : Int)) ∧ ((0 : Int) = if mayG H N = Bool.true then lw ((addB (spOf L H N) f n).a 24) else (0 : Int)) ∧ ((0 : Int) = if mayG H N = Bool.true then (addB (spOf L H N) f n).H 0 else (0 : Int)) ∧ ((0 : Int) = if mayG H N = Bool.true then (addB (spOf L H N) f n).H 1 else (0 : Int)) ∧ ((0 : Int) = if mayG H N = Bool.true then (addB (spOf L H N) f n).H 2 else (0 : Int)) ∧ ((0 : Int) = if mayG H N = Bool.true then (addB (spOf L H N) f n).H 3 else (0 : Int)) ∧ ((0 : Int) = if mayG H N = Bool.true then (addB (spOf L H N) f n).H 4 else (0 : Int)) ∧ ((0 : Int) = if mayG H N = Bool.true then (addB (spOf L H N) f n).H 5 else (0 : Int)) ∧ ((0 : Int) = if mayG H N = Bool.true then (addB (spOf L H N) f n).H 6 else (0 : Int)) ∧ ((0 : Int) = if mayG H N = Bool.true then (addB (spOf L H N) f n).H 7 else (0 : Int)) ∧ ((0 : Int) = if mayG H N = Bool.true then (addB (spOf L H N) f n).H 8 else (0 : Int)) ∧ ((0 : Int) = if mayG H N = Bool.true then (addB (spOf L H N) f n).H 9 else (0 : Int)) ∧ ((0 : Int) = if mayG H N = Bool.true then (addB (spOf L H N) f n).H 10 else (0 : Int)) ∧ ((0 : Int) = if mayG H N = Bool.true then (addB (spOf L H N) f n).H 11 else (0 : Int)) ∧ ((0 : Int) = if mayG H N = Bool.true then (addB (spOf L H N) f n).H 12 else (0 : Int)) ∧ ((0 : Int) = if mayG H N = Bool.true then (addB (spOf L H N) f n).H 13 else (0 : Int)) ∧ ((0 : Int) = if mayG H N = Bool.true then (addB (spOf L H N) f n).H 14 else (0 : Int)) ∧ ((0 : Int) = if mayG H N = Bool.true then (addB (spOf L H N) f n).H 15 else (0 : Int)) ∧ ((0 : Int) = if mayG H N = Bool.true then (addB (spOf L H N) f n).H 16 else (0 : Int)) ∧ ((0 : Int) = if mayG H N = Bool.true then (addB (spOf L H N) f n).H 17 else (0 : Int)) ∧ ((0 : Int) = if mayG H N = Bool.true then (addB (spOf L H N) f n).H 18 else (0 : Int)) ∧ ((0 : Int) = if mayG H N = Bool.true then (addB (spOf L H N) f n).H 19 else (0 : Int)) ∧ ((0 : Int) = if mayG H N = Bool.true then (addB (spOf L H N) f n).H 20 else (0 : Int)) ∧ ((0 : Int) = if mayG H N = Bool.true then (addB (spOf L H N) f n).H 21 else (0 : Int)) ∧ ((0 : Int) = if mayG H N = Bool.true then (addB (spOf L H N) f n).H 22 else (0 : Int)) ∧ ((0 : Int) = if mayG H N = Bool.true then (addB (spOf L H N) f n).H 23 else (0 : Int)) ∧ ((0 : Int) = if mayG H N = Bool.true then (addB (spOf L H N) f n).H 24 else (0 : Int)) ∧ ((0 : Int) = if mayG H N = Bool.true then (addB (spOf L H N) f n).H 25 else (0 : Int)) ∧ ((0 : Int) = if mayG H N = Bool.true then (addB (spOf L H N) f n).H 26 else (0 : Int)) ∧ ((0 : Int) = if mayG H N = Bool.true then (addB (spOf L H N) f n).H 27 else (0 : Int)) ∧ ((0 : Int) = if mayG H N = Bool.true then (addB (spOf L H N) f n).H 28 else (0 : Int)) ∧ ((0 : Int) = if mayG H N = Bool.true then (addB (spOf L H N) f n).H 29 else (0 : Int)) ∧ ((0 : Int) = if mayG H N = Bool.true then (addB (spOf L H N) f n).H 30 else (0 : Int)) ∧ ((0 : Int) = if mayG H N = Bool.true then (addB (spOf L H N) f n).H 31 else (0 : Int)) ∧ ((0 : Int) = if mayG H N = Bool.true then (addB (spOf L H N) f n).H 32 else (0 : Int)) ∧ ((0 : Int) = if mayG H N = Bool.true then (addB (spOf L H N) f n).H 33 else (0 : Int)) ∧ ((0 : Int) = if mayG H N = Bool.true then (addB (spOf L H N) f n).H 34 else (0 : Int)) ∧ ((0 : Int) = if mayG H N = Bool.true then (addB (spOf L H N) f n).H 35 else (0 : Int)) ∧ ((0 : Int) = if mayG H N = Bool.true then (addB (spOf L H N) f n).H 36 else (0 : Int)) ∧ ((0 : Int) = if mayG H N = Bool.true then (addB (spOf L H N) f n).H 37 else (0 : Int)) ∧ ((0 : Int) = if mayG H N = Bool.true then (addB (spOf L H N) f n).H 38 else (0 : Int)) ∧ ((0 : Int) = if mayG H N = Bool.true then (addB (spOf L H N) f n).H 39 else (0 : Int)) ∧ ((0 : Int) = if mayG H N = Bool.true then (addB (spOf L H N) f n).H 40 else (0 : Int)) ∧ ((0 : Int) = if mayG H N = Bool.true then (addB (spOf L H N) f n).H 41 else (0 : Int)) ∧ ((0 : Int) = if mayG H N = Bool.true then (addB (spOf L H N) f n).H 42 else (0 : Int)) ∧ ((0 : Int) = if mayG H N = Bool.true then (addB (spOf L H N) f n).H 43 else (0 : Int)) ∧ ((0 : Int) = if mayG H N = Bool.true then (addB (spOf L H N) f n).H 44 else (0 : Int)) ∧ ((0 : Int) = if mayG H N = Bool.true then (addB (spOf L H N) f n).H 45 else (0 : Int)) ∧ ((0 : Int) = if mayG H N = Bool.true then (addB (spOf L H N) f n).H 46 else (0 : Int)) ∧ ((0 : Int) = if mayG H N = Bool.true then (addB (spOf L H N) f n).H 47 else (0 : Int)) ∧ ((0 : Int) = if mayG H N = Bool.true then (addB (spOf L H N) f n).H 48 else (0 : Int)) ∧ ((0 : Int) = if mayG H N = Bool.true then (addB (spOf L H N) f n).H 49 else (0 : Int)) ∧ ((0 : Int) = if mayG H N = Bool.true then (addB (spOf L H N) f n).H 50 else (0 : Int)) ∧ ((0 : Int) = if mayG H N = Bool.true then (addB (spOf L H N) f n).H 51 else (0 : Int)) ∧ ((0 : Int) = if mayG H N = Bool.true then (addB (spOf L H N) f n).H 52 else (0 : Int)) ∧ ((0 : Int) = if mayG H N = Bool.true then (addB (spOf L H N) f n).H 53 else (0 : Int)) ∧ ((0 : Int) = if mayG H N = Bool.true then (addB (spOf L H N) f n).H 54 else (0 : Int)) ∧ ((0 : Int) = if mayG H N = Bool.true then (addB (spOf L H N) f n).H 55 else (0 : Int)) ∧ ((0 : Int) = if mayG H N = Bool.true then (addB (spOf L H N) f n).H 56 else (0 : Int)) ∧ ((0 : Int) = if mayG H N = Bool.true then (addB (spOf L H N) f n).H 57 else (0 : Int)) ∧ ((0 : Int) = if mayG H N = Bool.true then (addB (spOf L H N) f n).H 58 else (0 : Int)) ∧ ((0 : Int) = if mayG H N = Bool.true then (addB (spOf L H N) f n).H 59 else (0 : Int)) ∧ ((0 : Int) = if mayG H N = Bool.true then (addB (spOf L H N) f n).H 60 else (0 : Int)) ∧ ((0 : Int) = if mayG H N = Bool.true then (addB (spOf L H N) f n).H 61 else (0 : Int)) ∧ ((0 : Int) = if mayG H N = Bool.true then (addB (spOf L H N) f n).H 62 else (0 : Int)) ∧ ((0 : Int) = if mayG H N = Bool.true then (addB (spOf L H N) f n).H 63 else (0 : Int)) ∧ ((0 : Int) = if mayG H N = Bool.true then (addB (spOf L H N) f n).H 64 else (0 : Int)) ∧ ((0 : Int) = if mayG H N = Bool.true then (addB (spOf L H N) f n).H 65 else (0 : Int)) ∧ ((0 : Int) = if mayG H N = Bool.true then (addB (spOf L H N) f n).H 66 else (0 : Int)) ∧ ((0 : Int) = if mayG H N = Bool.true then (addB (spOf L H N) f n).H 67 else (0 : Int)) ∧ ((0 : Int) = if mayG H N = Bool.true then (addB (spOf L H N) f n).H 68 else (0 : Int)) ∧ ((0 : Int) = if mayG H N = Bool.true then (addB (spOf L H N) f n).H 69 else (0 : Int)) ∧ ((0 : Int) = if mayG H N = Bool.true then (addB (spOf L H N) f n).H 70 else (0 : Int)) ∧ ((0 : Int) = if mayG H N = Bool.true then (addB (spOf L H N) f n).H 71 else (0 : Int)) ∧ ((0 : Int) = if mayG H N = Bool.true then (addB (spOf L H N) f n).H 72 else (0 : Int)) ∧ ((0 : Int) = if mayG H N = Bool.true then (addB (spOf L H N) f n).H 73 else (0 : Int)) ∧ ((0 : Int) = if mayG H N = Bool.true then (addB (spOf L H N) f n).H 74 else (0 : Int)) ∧ ((0 : Int) = if mayG H N = Bool.true then (addB (spOf L H N) f n).H 75 else (0 : Int)) ∧ ((0 : Int) = if mayG H N = Bool.true then (addB (spOf L H N) f n).H 76 else (0 : Int)) ∧ ((0 : Int) = if mayG H N = Bool.true then (addB (spOf L H N) f n).H 77 else (0 : Int)) ∧ ((0 : Int) = if mayG H N = Bool.true then (addB (spOf L H N) f n).H 78 else (0 : Int)) ∧ ((0 : Int) = if mayG H N = Bool.true then (addB (spOf L H N) f n).H 79 else (0 : Int)) ∧ ((0 : Int) = if mayG H N = Bool.true then (addB (spOf L H N) f n).H 80 else (0 : Int)) ∧ ((0 : Int) = if mayG H N = Bool.true then (addB (spOf L H N) f n).H 81 else (0 : Int)) ∧ ((0 : Int) = if mayG H N = Bool.true then (addB (spOf L H N) f n).H 82 else (0 : Int)) ∧ ((0 : Int) = if mayG H N = Bool.true then (addB (spOf L H N) f n).H 83 else (0 : Int)) ∧ ((0 : Int) = if mayG H N = Bool.true then (addB (spOf L H N) f n).H 84 else (0 : Int)) ∧ ((0 : Int) = if mayG H N = Bool.true then (addB (spOf L H N) f n).H 85 else (0 : Int)) ∧ ((0 : Int) = if mayG H N = Bool.true then (addB (spOf L H N) f n).H 86 else (0 : Int)) ∧ ((0 : Int) = if mayG H N = Bool.true then (addB (spOf L H N) f n).H 87 else (0 : Int)) ∧ ((0 : Int) = if mayG H N = Bool.true then (addB (spOf L H N) f n).H 88 else (0 : Int)) ∧ ((0 : Int) = if mayG H N = Bool.true then (addB (spOf L H N) f n).H 89 else (0 : Int)) ∧ ((0 : Int) = if mayG H N = Bool.true then (addB (spOf L H N) f n).H 90 else (0 : Int)) ∧ ((0 : Int) = if mayG H N = Bool.true then (addB (spOf L H N) f n).H 91 else (0 : Int)) ∧ ((0 : Int) = if mayG H N = Bool.true then (addB (spOf L H N) f n).H 92 else (0 : Int)) ∧ ((0 : Int) = if mayG H N = Bool.true then (addB (spOf L H N) f n).H 93 else (0 : Int)) ∧ ((0 : Int) = if mayG H N = Bool.true then (addB (spOf L H N) f n).H 94 else (0 : Int)) ∧ ((0 : Int) = if mayG H N = Bool.true then (addB (spOf L H N) f n).H 95 else (0 : Int)) ∧ ((0 : Int) = if mayG H N = Bool.true then (addB (spOf L H N) f n).H 96 else (0 : Int)) ∧ ((0 : Int) = if mayG H N = Bool.true then (addB (spOf L H N) f n).H 97 else (0 : Int)) ∧ ((0 : Int) = if mayG H N = Bool.true then (addB (spOf L H N) f n).H 98 else (0 : Int)) ∧ ((0 : Int) = if mayG H N = Bool.true then (addB (spOf L H N) f n).H 99 else (0 : Int)) ∧ ((0 : Int) = if mayG H N = Bool.true then (addB (spOf L H N) f n).H 100 else (0 : Int)) ∧ ((0 : Int) = if mayG H N = Bool.true then (addB (spOf L H N) f n).H 101 else (0 : Int)) ∧ ((0 : Int) = if mayG H N = Bool.true then (addB (spOf L H N) f n).H 102 else (0 : Int)) ∧ ((0 : Int) = if mayG H N = Bool.true then (addB (spOf L H N) f n).H 103 else (0 : Int)) ∧ ((0 : Int) = if mayG H N = Bool.true then (addB (spOf L H N) f n).H 104 else (0 : Int)) ∧ ((0 : Int) = if mayG H N = Bool.true then (addB (spOf L H N) f n).H 105 else (0 : Int)) ∧ ((0 : Int) = if mayG H N = Bool.true then (addB (spOf L H N) f n).H 106 else (0 : Int)) ∧ ((0 : Int) = if mayG H N = Bool.true then (addB (spOf L H N) f n).H 107 else (0 : Int)) ∧ ((0 : Int) = if mayG H N = Bool.true then (addB (spOf L H N) f n).H 108 else (0 : Int)) ∧ ((0 : Int) = if mayG H N = Bool.true then (addB (spOf L H N) f n).H 109 else (0 : Int)) ∧ ((0 : Int) = if mayG H N = Bool.true then (addB (spOf L H N) f n).H 110 else (0 : Int)) ∧ ((0 : Int) = if mayG H N = Bool.true then (addB (spOf L H N) f n).H 111 else (0 : Int)) ∧ ((0 : Int) = if mayG H N = Bool.true then (addB (spOf L H N) f n).H 112 else (0 : Int)) ∧ ((0 : Int) = if mayG H N = Bool.true then (addB (spOf L H N) f n).H 113 else (0 : Int)) ∧ ((0 : Int) = if mayG H N = Bool.true then (addB (spOf L H N) f n).H 114 else (0 : Int)) ∧ ((0 : Int) = if mayG H N = Bool.true then (addB (spOf L H N) f n).H 115 else (0 : Int)) ∧ ((0 : Int) = if mayG H N = Bool.true then (addB (spOf L H N) f n).H 116 else (0 : Int)) ∧ ((0 : Int) = if mayG H N = Bool.true then (addB (spOf L H N) f n).H 117 else (0 : Int)) ∧ ((0 : Int) = if mayG H N = Bool.true then (addB (spOf L H N) f n).H 118 else (0 : Int)) ∧ ((0 : Int) = if mayG H N = Bool.true then (addB (spOf L H N) f n).H 119 else (0 : Int)) ∧ ((0 : Int) = if mayG H N = Bool.true then (addB (spOf L H N) f n).H 120 else (0 : Int)) ∧ ((0 : Int) = if mayG H N = Bool.true then (addB (spOf L H N) f n).H 121 else (0 : Int)) ∧ ((0 : Int) = if mayG H N = Bool.true then (addB (spOf L H N) f n).H 122 else (0 : Int)) ∧ ((0 : Int) = if mayG H N = Bool.true then (addB (spOf L H N) f n).H 123 else (0 : Int)) ∧ ((0 : Int) = if mayG H N = Bool.true then (addB (spOf L H N) f n).H 124 else (0 : Int)) ∧ ((0 : Int) = if mayG H N = Bool.true then (addB (spOf L H N) f n).H 125 else (0 : Int)) ∧ ((0 : Int) = if mayG H N = Bool.true then (addB (spOf L H N) f n).H 126 else (0 : Int)) ∧ ((0 : Int) = if mayG H N = Bool.true then (addB (spOf L H N) f n).H 127 else (0 : Int)) ∧ ((0 : Int) = if mayG H N = Bool.true then (addB (spOf L H N) f n).H 128 else (0 : Int)) ∧ ((0 : Int) = if mayG H N = Bool.true then (addB (spOf L H N) f n).H 129 else (0 : Int)) ∧ ((0 : Int) = if mayG H N = Bool.true then (addB (spOf L H N) f n).H 130 else (0 : Int)) ∧ ((0 : Int) = if mayG H N = Bool.true then (addB (spOf L H N) f n).H 131 else (0 : Int)) ∧ ((0 : Int) = if mayG H N = Bool.true then (addB (spOf L H N) f n).H 132 else (0 : Int)) ∧ ((0 : Int) = if mayG H N = Bool.true then (addB (spOf L H N) f n).H 133 else (0 : Int)) ∧ ((0 : Int) = if mayG H N = Bool.true then (addB (spOf L H N) f n).H 134 else (0 : Int)) ∧ ((0 : Int) = if mayG H N = Bool.true then (addB (spOf L H N) f n).H 135 else (0 : Int)) ∧ (0 : Int) = x1 ∧ True) ∧ (12 : Int) = x2) ∧ ((!mayG H N) = Bool.false → (∀ (y : Nat × Option Go.Addr × Nat), closedB (slotsAt 34 [(1, SV.one (sXs y.snd.fst (n - y.fst) y.snd.snd fun (i : Nat) => f (y.fst + i))), (2, SV.one (SA.sc (SC.ptr 0 0))), (4, SV.one (SA.sc (SC.ptr 1 0))), (5, SV.one (SA.sc (SC.num Go.IntKind.i64 (0 : Int))))]) [SO.cells (60 : Go.TypeId) [SK.f Go.IntKind.u64 25 fun (i : Nat) => lw ((addB (spOf L H N) f y.fst).a i), SK.f Go.IntKind.u8 136 (addB (spOf L H N) f y.fst).H, SK.c (SC.val (Go.Value.int Go.IntKind.i64 (↑(addB (spOf L H N) f y.fst).n : Int)))] 0, SO.cells (60 : Go.TypeId) (List.replicate 25 (SK.c (SC.num Go.IntKind.u64 (0 : Int))) ++ List.replicate 136 (SK.c (SC.num Go.IntKind.u8 (0 : Int))) ++ [SK.c (SC.num Go.IntKind.i64 (0 : Int))]) 0] = Bool.true) ∧ ∃ (y : Nat × Option Go.Addr × Nat), (mayG H N = Bool.true ∧ y.fst ≤ n) ∧ (a = y.snd.fst ∧ n = n - y.fst ∧ cap = y.snd.snd ∧ ∀ (i : Nat), i < n → f i = f (y.fst + i)) ∧ ((∀ (j : Nat), j < 25 → L j = lw ((addB (spOf L H N) f y.fst).a j)) ∧ (∀ (j : Nat), j < 136 → H j = (addB (spOf L H N) f y.fst).H j) ∧ N = (↑(addB (spOf L H N) f y.fst).n : Int) ∧ True) ∧ 0 = 0 ∧ 0 = 0 ∧ ∀ (y : Nat × Option Go.Addr × Nat), mayG H N = Bool.true ∧ y.fst ≤ n → (Decidable.decide ((↑(n - y.fst) : Int) > (0 : Int)) = Bool.true → ((0 : Int) ≤ (↑(addB (spOf L H N) f y.fst).n : Int) ∧ (↑(addB (spOf L H N) f y.fst).n : Int) < (136 : Int)) ∧ (↑(addB (spOf L H N) f y.fst).n : Int).toNat ≤ 136 ∧ (∀ (j : Nat), True) ∧ ((0 : Int) ≤ (↑((n - y.fst).min (136 - (↑(addB (spOf L H N) f y.fst).n : Int).toNat)) : Int) ∧ (↑((n - y.fst).min (136 - (↑(addB (spOf L H N) f y.fst).n : Int).toNat)) : Int) ≤ (↑(n - y.fst) : Int) ∧ (↑(n - y.fst) : Int) ≤ (↑(n - y.fst) : Int)) ∧ ((Go.IntKind.i64.wrap ((↑(addB (spOf L H N) f y.fst).n : Int) + (↑((n - y.fst).min (136 - (↑(addB (spOf L H N) f y.fst).n : Int).toNat)) : Int)) == (136 : Int)) = Bool.true → (∀ (i : Nat), i < 25 → (0 : Int) ≤ lw ((addB (spOf L H N) f y.fst).a i) ∧ lw ((addB (spOf L H N) f y.fst).a i) < (18446744073709551616 : Int)) ∧ ∃ (y' : Nat × Option Go.Addr × Nat), (mayG H N = Bool.true ∧ y'.fst ≤ n) ∧ (adS y.snd.snd (↑((n - y.fst).min (136 - (↑(addB (spOf L H N) f y.fst).n : Int).toNat)) : Int).toNat 1 y.snd.fst = y'.snd.fst ∧ n - y.fst - (↑((n - y.fst).min (136 - (↑(addB (spOf L H N) f y.fst).n : Int).toNat)) : Int).toNat = n - y'.fst ∧ y.snd.snd - (↑((n - y.fst).min (136 - (↑(addB (spOf L H N) f y.fst).n : Int).toNat)) : Int).toNat = y'.snd.snd ∧ ∀ (i : Nat), i < n - y.fst - (↑((n - y.fst).min (136 - (↑(addB (spOf L H N) f y.fst).n : Int).toNat)) : Int).toNat → f (y.fst + ((↑((n - y.fst).min (136 - (↑(addB (spOf L H N) f y.fst).n : Int).toNat)) : Int).toNat + i)) = f (y'.fst + i)) ∧ ((∀ (j : Nat), j < 25 → lw (soakB (ofRow fun (i : Nat) => lw ((addB (spOf L H N) f y.fst).a i)) (fun (j : Nat) => if (↑(addB (spOf L H N) f y.fst).n : Int).toNat ≤ j ∧ j < (↑(addB (spOf L H N) f y.fst).n : Int).toNat + (n - y.fst).min (136 - (↑(addB (spOf L H N) f y.fst).n : Int).toNat) then f (y.fst + (j - (↑(addB (spOf L H N) f y.fst).n : Int).toNat)) else (addB (spOf L H N) f y.fst).2 j) j) = lw ((addB (spOf L H N) f y'.fst).a j)) ∧ (∀ (j : Nat), j < 136 → (0 : Int) = (addB (spOf L H N) f y'.fst).H j) ∧ (0 : Int) = (↑(addB (spOf L H N) f y'.fst).n : Int) ∧ True) ∧ 0 = 0 ∧ 0 = 0 ∧ n - y'.fst < n - y.fst) ∧ ((Go.IntKind.i64.wrap ((↑(addB (spOf L H N) f y.fst).n : Int) + (↑((n - y.fst).min (136 - (↑(addB (spOf L H N) f y.fst).n : Int).toNat)) : Int)) == (136 : Int)) = Bool.false → ∃ (y' : Nat × Option Go.Addr × Nat), (mayG H N = Bool.true ∧ y'.fst ≤ n) ∧ (adS y.snd.snd (↑((n - y.fst).min (136 - (↑(addB (spOf L H N) f y.fst).n : Int).toNat)) : Int).toNat 1 y.snd.fst = y'.snd.fst ∧ n - y.fst - (↑((n - y.fst).min (136 - (↑(addB (spOf L H N) f y.fst).n : Int).toNat)) : Int).toNat = n - y'.fst ∧ y.snd.snd - (↑((n - y.fst).min (136 - (↑(addB (spOf L H N) f y.fst).n : Int).toNat)) : Int).toNat = y'.snd.snd ∧ ∀ (i : Nat), i < n - y.fst - (↑((n - y.fst).min (136 - (↑(addB (spOf L H N) f y.fst).n : Int).toNat)) : Int).toNat → f (y.fst + ((↑((n - y.fst).min (136 - (↑(addB (spOf L H N) f y.fst).n : Int).toNat)) : Int).toNat + i)) = f (y'.fst + i)) ∧ ((∀ (j : Nat), j < 25 → lw ((addB (spOf L H N) f y.fst).a j) = lw ((addB (spOf L H N) f y'.fst).a j)) ∧ (∀ (j : Nat), j < 136 → (if (↑(addB (spOf L H N) f y.fst).n : Int).toNat ≤ j ∧ j < (↑(addB (spOf L H N) f y.fst).n : Int).toNat + (n - y.fst).min (136 - (↑(addB (spOf L H N) f y.fst).n : Int).toNat) then f (y.fst + (j - (↑(addB (spOf L H N) f y.fst).n : Int).toNat)) else (addB (spOf L H N) f y.fst).2 j) = (addB (spOf L H N) f y'.fst).H j) ∧ Go.IntKind.i64.wrap ((↑(addB (spOf L H N) f y.fst).n : Int) + (↑((n - y.fst).min (136 - (↑(addB (spOf L H N) f y.fst).n : Int).toNat)) : Int)) = (↑(addB (spOf L H N) f y'.fst).n : Int) ∧ True) ∧ 0 = 0 ∧ 0 = 0 ∧ n - y'.fst < n - y.fst)) ∧ (Decidable.decide ((↑(n - y.fst) : Int) > (0 : Int)) = Bool.false → ((∀ (j : Nat), j < 25 → lw ((addB (spOf L H N) f y.fst).a j) = if mayG H N = Bool.true then lw ((addB (spOf L H N) f n).a j) else (0 : Int)) ∧ (∀ (j : Nat), j < 136 → (addB (spOf L H N) f y.fst).H j = if mayG H N = Bool.true then (addB (spOf L H N) f n).H j else (0 : Int)) ∧ (↑(addB (spOf L H N) f y.fst).n : Int) = x1 ∧ True) ∧ (0 : Int) = x2))) := by kernel_rfl
end Go.Proofs.YtohnkglcabfpjaaDoor
end

section
namespace Go.Proofs.YtohnkglcabfpjaaDoor
open Go Go.Sx Go.RowKit
theorem pushB_lt {s : Sp} (h : s.n < 136) (b : Int) : (pushB s b).n < 136 := by
  unfold pushB
  split
  · exact Nat.zero_lt_succ _
  · simp only; omega
theorem addB_lt {s : Sp} (h : s.n < 136) (f : Nat → Int) : ∀ p, (addB s f p).n < 136
  | 0 => h
  | p + 1 => pushB_lt (addB_lt h f p) _
theorem addB_add (s : Sp) (f : Nat → Int) (p : Nat) : ∀ m, addB (addB s f p) (fun i => f (p + i)) m = addB s f (p + m)
  | 0 => rfl
  | m + 1 => by
    show pushB _ _ = pushB _ _
    rw [addB_add s f p m]
    rfl
theorem addB_congr {s : Sp} {f g : Nat → Int} : ∀ {m : Nat}, (∀ i, i < m → f i = g i) → addB s f m = addB s g m
  | 0, _ => rfl
  | m + 1, h => by
    show pushB _ _ = pushB _ _
    rw [addB_congr (fun i hi => h i (by omega)), h m (by omega)]
theorem addB_held (t : Sp) (g : Nat → Int) : ∀ m, t.n + m < 136 → addB t g m = ⟨t.a, fun j => if t.n ≤ j ∧ j < t.n + m then g (j - t.n) else t.H j, t.n + m⟩
  | 0, _ => by
    have : (fun j => if t.n ≤ j ∧ j < t.n + 0 then g (j - t.n) else t.H j) = t.H := by
      funext j
      rw [if_neg (by omega)]
    rw [this]; rfl
  | m + 1, h => by
    show pushB _ _ = _
    rw [addB_held t g m (by omega)]
    unfold pushB
    simp only
    rw [if_neg (by omega)]
    congr 1
    funext j
    by_cases e : j = t.n + m
    · subst e
      rw [if_pos rfl, if_pos (by omega)]
      congr 1; omega
    · rw [if_neg e]
      by_cases c : t.n ≤ j ∧ j < t.n + m
      · rw [if_pos c, if_pos (by omega)]
      · rw [if_neg c, if_neg (by omega)]
theorem addB_full (t : Sp) (g : Nat → Int) {m : Nat} (hn : t.n < 136) (h : t.n + m = 136) : addB t g m = ⟨soakB t.a (fun j => if t.n ≤ j ∧ j < t.n + m then g (j - t.n) else t.H j), fun _ => 0, 0⟩ := by
  match m, h with
  | 0, h => omega
  | m + 1, h =>
    show pushB _ _ = _
    rw [addB_held t g m (by omega)]
    unfold pushB
    simp only
    rw [if_pos (by omega)]
    congr 2
    funext j
    by_cases e : j = t.n + m
    · subst e
      rw [if_pos rfl, if_pos (by omega)]
      congr 1; omega
    · rw [if_neg e]
      by_cases c : t.n ≤ j ∧ j < t.n + m
      · rw [if_pos c, if_pos (by omega)]
      · rw [if_neg c, if_neg (by omega)]
theorem may_lt {L H : Nat → Int} {N : Int} (h : mayG H N = true) : (spOf L H N).n < 136 := by
  obtain ⟨⟨h1, h2⟩, _⟩ := (mayG_iff H N).1 h
  show N.toNat < 136
  omega
theorem ok_kAdd (L H : Nat → Int) (N : Int) (a : Option Addr) (n cap : Nat) (f : Nat → Int) (hL : lanes 25 L) :
    Owes Tryd.prog cxEnd [(3, .inv (invAdd L H N n f))] 10 Tryd.f20 [sSp L H N, sXs a n cap f] (kAddG L H N n f) := by
  rw [vc_kAdd]
  intro x1 x2
  refine ⟨fun hm => ?_, fun hm => ?_⟩
  · have hm : mayG H N = false := by simpa using hm
    simp only [x1, x2, hm, Bool.false_eq_true, if_false, and_self]
  · have hm : mayG H N = true := by simpa using hm
    obtain ⟨⟨hN1, hN2⟩, _⟩ := (mayG_iff H N).1 hm
    refine ⟨fun y => rfl, (0, a, cap), ⟨hm, Nat.zero_le _⟩, ⟨rfl, rfl, rfl, fun i _ => by simp only [Nat.zero_add]⟩, ⟨fun j hj => (lw_ofRow hL hj).symm, fun _ _ => rfl, ?_, trivial⟩, rfl, rfl, ?_⟩
    · show N = ((N.toNat : Nat) : Int)
      omega
    rintro ⟨p, ad, cp⟩ ⟨_, hp⟩
    simp only at hp ⊢
    have htl : (addB (spOf L H N) f p).n < 136 := addB_lt (may_lt hm) f p
    refine ⟨fun hlt => ?_, fun hge => ?_⟩
    · have hlt : 0 < ((n - p : Nat) : Int) := of_decide_eq_true hlt
      have hadd := addB_add (spOf L H N) f p
      generalize ht : addB (spOf L H N) f p = t at *
      generalize hq : (n - p).min (136 - ((t.n : Nat) : Int).toNat) = q
      have hq1 : q ≤ n - p := by rw [← hq]; exact Nat.min_le_left _ _
      have hq2 : q ≤ 136 - t.n := by rw [← hq]; exact Nat.min_le_right _ _
      have hq3 : q ≠ 0 := by
        rw [← hq]
        have : 0 < (n - p).min (136 - ((t.n : Nat) : Int).toNat) := Nat.lt_min.2 ⟨by omega, by omega⟩
        omega
      refine ⟨⟨by omega, by omega⟩, by omega, fun _ => trivial, ⟨by omega, by omega, by omega⟩, fun hf => ?_, fun hf => ?_⟩
      · have hf : IntKind.i64.wrap ((t.n : Int) + (q : Int)) = 136 := by simpa using hf
        rw [wrap_small (by omega)] at hf
        have hfull := addB_full t (fun i => f (p + i)) htl (m := q) (by omega)
        rw [hadd q] at hfull
        refine ⟨lanes_lw _ _, (p + q, _, _), ⟨hm, by simp only; omega⟩, ⟨rfl, by simp only [Int.toNat_natCast]; omega, rfl, fun i _ => by simp only [Int.toNat_natCast, Nat.add_assoc]⟩, ⟨fun j _ => ?_, fun j _ => ?_, ?_, trivial⟩, trivial, trivial, by simp only; omega⟩
        · simp only [hfull, ofRow_lw, Int.toNat_natCast]
        · simp only [hfull]
        · simp only [hfull]; rfl
      · have hf : IntKind.i64.wrap ((t.n : Int) + (q : Int)) ≠ 136 := by simpa using hf
        rw [wrap_small (by omega)] at hf
        have hheld := addB_held t (fun i => f (p + i)) q (by omega)
        rw [hadd q] at hheld
        refine ⟨(p + q, _, _), ⟨hm, by simp only; omega⟩, ⟨rfl, by simp only [Int.toNat_natCast]; omega, rfl, fun i _ => by simp only [Int.toNat_natCast, Nat.add_assoc]⟩, ⟨fun j _ => ?_, fun j _ => ?_, ?_, trivial⟩, trivial, trivial, by simp only; omega⟩
        · simp only [hheld]
        · simp only [hheld, Int.toNat_natCast]
        · simp only [hheld]; rw [wrap_small (by omega)]; omega
    · have hge : ¬ 0 < ((n - p : Nat) : Int) := of_decide_eq_false hge
      have : p = n := by omega
      subst this
      simp only [x1, x2, hm, if_true, and_self, implies_true]
theorem bnd_row (k : IntKind) (m : Nat) (g : Nat → Int) (n : Env) : (sRow k m g).bnd n := by
  intro x hx; simp only [List.mem_singleton] at hx; subst hx; trivial
theorem card_kAdd : FnOKg Tryd.prog glK 20 (specSpB (fun L _ _ _ _ => [lanes 25 L]) kAddG) :=
  FnOK_SpB (cx := cxEnd) (iv := fun L H N _ n _ f => [(3, .inv (invAdd L H N n f))]) (by
    refine ⟨fun p hp => ?_, fun _ h => (by cases h)⟩
    simp only [cxEnd, List.mem_cons, List.not_mem_nil, or_false] at hp
    rcases hp with rfl | rfl | rfl
    · exact card_kMay
    · exact card_soak
    · exact card_first) Tryd.func20 (by kernel_rfl) (by kernel_rfl) (fun _ _ _ _ _ => by
    intro x hx
    simp only [List.mem_cons, List.not_mem_nil, or_false] at hx
    rcases hx with rfl | rfl
    · exact bnd_sSp _ _ _ _
    · trivial) fun L H N a n cap f hc => ok_kAdd L H N a n cap f hc.1
theorem absB_congr {a : Nat → BitVec 64} {H H' : Nat → Int} : ∀ {m : Nat}, (∀ j, j < m → H j = H' j) → absB a H m = absB a H' m
  | 0, _ => rfl
  | m + 1, h => by
    have ih := absB_congr (a := a) (m := m) (fun j hj => h j (by omega))
    simp only [absB, ih, h m (by omega)]
theorem soakB_congr {a : Nat → BitVec 64} {H H' : Nat → Int} (h : ∀ j, j < 136 → H j = H' j) : soakB a H = soakB a H' := by
  unfold soakB; rw [absB_congr h]
set_option maxRecDepth 100000 in
theorem ok_End (L H : Nat → Int) (N : Int) (hL : lanes 25 L) : Owes Tryd.prog cxEnd [] 10 Tryd.f22 [sSp L H N] (endG L H N) := by
  rw [vc_End]
  generalize hW : endB (spOf L H N) = W
  intro x1 x2
  constructor <;> intro hm
  · have hm : mayG H N = false := by simpa using hm
    simp only [x1, hm, Bool.false_eq_true, if_false, and_self]
  · have hm : mayG H N = true := by simpa using hm
    obtain ⟨⟨hN1, hN2⟩, _⟩ := (mayG_iff H N).1 hm
    refine ⟨⟨hN1, hN2⟩, ⟨hN1, hN2⟩, ⟨hN1, hN2⟩, ⟨hN1, hN2⟩, hL, ⟨fun j _ => ?_, trivial⟩, by simp only [x1, hm, if_true]⟩
    refine Eq.trans ?_ (if_pos hm).symm
    rw [← hW]
    refine congrArg (fun F => firstG F j) (funext fun i => congrArg (fun F => lw (F i)) (soakB_congr (a := ofRow L) (H' := padB H N.toNat) fun j hj => ?_))
    simp only [intsL]
    by_cases e : j = 135
    · subst e
      rw [List.getD_eq_getElem?_getD, List.getElem?_append_right (by simp)]
      simp only [List.length_map, List.length_range, Nat.sub_self, List.getElem?_cons_zero, Option.getD_some]
      simp only [intsC, asI, padB, if_true, pad1, x2]
      by_cases e2 : 135 = N.toNat
      · rw [if_pos e2, if_pos e2, e2]
      · rw [if_neg e2, if_neg e2]
    · rw [List.getD_eq_getElem?_getD, List.getElem?_append_left (by simp; omega), List.getElem?_map, List.getElem?_range (by omega)]
      simp only [Option.map_some, Option.getD_some, padB, e, if_false, pad1, x2]
      by_cases e2 : j = N.toNat
      · rw [if_pos e2, if_pos e2, e2]
      · rw [if_neg e2, if_neg e2]
theorem card_End : FnOKg Tryd.prog glK 22 (specSp (fun L _ _ => [lanes 25 L]) endG) :=
  FnOK_Sp (cx := cxEnd) (iv := fun _ _ _ => []) (by
    refine ⟨fun p hp => ?_, fun _ h => (by cases h)⟩
    simp only [cxEnd, List.mem_cons, List.not_mem_nil, or_false] at hp
    rcases hp with rfl | rfl | rfl
    · exact card_kMay
    · exact card_soak
    · exact card_first) Tryd.func22 (by kernel_rfl) (by kernel_rfl) (fun _ _ _ => by
    intro x hx
    simp only [List.mem_cons, List.not_mem_nil, or_false] at hx
    rcases hx with rfl | rfl
    · exact bnd_row _ _ _ _
    · trivial) fun L H N hc => ok_End L H N hc.1
theorem spOf_lw (t : Sp) : spOf (fun i => lw (t.a i)) t.H (t.n : Int) = t := by
  unfold spOf
  rw [ofRow_lw]
  rfl
theorem mayG_sp {t : Sp} (h1 : t.n < 136) (h2 : ∀ j, t.n ≤ j → j < 136 → t.H j = 0) : mayG t.H (t.n : Int) = true := by
  rw [mayG_iff]
  exact ⟨⟨by omega, by omega⟩, fun j hj => h2 _ (by omega) hj⟩
def clean (t : Sp) : Prop := t.n < 136 ∧ ∀ j, t.n ≤ j → j < 136 → t.H j = 0
theorem pushB_clean {t : Sp} (h : clean t) (b : Int) : clean (pushB t b) := by
  unfold pushB
  split
  · exact ⟨Nat.zero_lt_succ _, fun j _ _ => rfl⟩
  · refine ⟨by have := h.1; simp only; omega, fun j hj hj2 => ?_⟩
    simp only at hj ⊢
    rw [if_neg (by omega)]
    exact h.2 j (by omega) hj2
theorem addB_clean {t : Sp} (h : clean t) (f : Nat → Int) : ∀ m, clean (addB t f m)
  | 0 => h
  | m + 1 => pushB_clean (addB_clean h f m) _
theorem may_clean {t : Sp} (h : clean t) : mayG t.H (t.n : Int) = true := mayG_sp h.1 h.2
def addM (L H : Nat → Int) (N : Int) (n : Nat) (f : Nat → Int) : SV := .tup [sSp (fun i => lw ((addB (spOf L H N) f n).a i)) (addB (spOf L H N) f n).H ((addB (spOf L H N) f n).n : Int), .sc (.num .i64 0)]
def endM (L H : Nat → Int) (N : Int) : SV := .tup [sRow .u8 32 (endB (spOf L H N)), .sc (.num .i64 0)]
def cAddM : FSpec := specSpB (fun L H N _ _ => [lanes 25 L, mayG H N = true]) addM
def cEndM : FSpec := specSp (fun L H N => [lanes 25 L, mayG H N = true]) endM
theorem card_AddM : FnOKg Tryd.prog glK 20 cAddM := by
  refine FnOKg_weak card_kAdd fun args ps sv' hs hp => ?_
  unfold cAddM specSpB at hs
  split at hs
  · rename_i x y
    split at hs
    · rename_i L H N ps' a n cap f hx hy
      simp only [Option.some.injEq, Prod.mk.injEq] at hs
      obtain ⟨rfl, rfl⟩ := hs
      obtain ⟨o1, o2, o3, _⟩ := Ok.append.1 hp
      refine ⟨?_, ps' ++ [lanes 25 L], kAddG L H N n f, by simp only [specSpB, hx, hy], Ok.append.2 ⟨o1, o2, trivial⟩, fun ρ v hv => ?_⟩
      · intro z hz
        simp only [List.mem_cons, List.not_mem_nil, or_false] at hz
        rcases hz with rfl | rfl
        · exact bnd_sSp _ _ _ _
        · trivial
      · have e : kAddG L H N n f = .tup [sSp (fun i => lw ((addB (spOf L H N) f n).a i)) (addB (spOf L H N) f n).H ((addB (spOf L H N) f n).n : Int), sI .i64 0] := by simp only [kAddG, o3, if_true]
        rw [e] at hv
        exact hv
    · cases hs
  · cases hs
theorem card_EndM : FnOKg Tryd.prog glK 22 cEndM := by
  refine FnOKg_weak card_End fun args ps sv' hs hp => ?_
  unfold cEndM specSp at hs
  split at hs
  · rename_i x
    split at hs
    · rename_i L H N hx
      simp only [Option.some.injEq, Prod.mk.injEq] at hs
      obtain ⟨rfl, rfl⟩ := hs
      obtain ⟨o2, o3, _⟩ := hp
      refine ⟨?_, [lanes 25 L], endG L H N, by simp only [specSp, hx], ⟨o2, trivial⟩, fun ρ v hv => ?_⟩
      · intro z hz
        simp only [List.mem_cons, List.not_mem_nil, or_false] at hz
        rcases hz with rfl | rfl
        · exact bnd_row _ _ _ _
        · trivial
      · have e : endG L H N = .tup [sRow .u8 32 (endB (spOf L H N)), sI .i64 0] := by simp only [endG, o3, if_true]
        rw [e] at hv
        exact hv
    · cases hs
  · cases hs
end Go.Proofs.YtohnkglcabfpjaaDoor
end

section
namespace Go.Sx
open Go.RowKit
theorem thetaB_congr {a b : Nat → BitVec 64} (h : ∀ j, j < 25 → a j = b j) {i : Nat} (hi : i < 25) : thetaB a i = thetaB b i := by
  have col : ∀ x, x < 5 → colB a x = colB b x := fun x hx => by
    simp only [colB, h x (by omega), h (x + 5) (by omega), h (x + 10) (by omega), h (x + 15) (by omega), h (x + 20) (by omega)]
  simp only [thetaB, h i hi, col _ (Nat.mod_lt _ (by decide : 0 < 5))]
theorem src_lt : ∀ i, i < 25 → srcN.getD i 0 < 25 := by decide
theorem scatB_congr {a b : Nat → BitVec 64} (h : ∀ j, j < 25 → a j = b j) {i : Nat} (hi : i < 25) : scatB a i = scatB b i := by
  simp only [scatB, h _ (src_lt i hi)]
theorem chiB_congr {a b : Nat → BitVec 64} (h : ∀ j, j < 25 → a j = b j) {i : Nat} (hi : i < 25) : chiB a i = chiB b i := by
  have h1 : (i % 5 + 1) % 5 < 5 := Nat.mod_lt _ (by decide)
  have h2 : (i % 5 + 2) % 5 < 5 := Nat.mod_lt _ (by decide)
  simp only [chiB, h i hi, h (i / 5 * 5 + (i % 5 + 1) % 5) (by omega), h (i / 5 * 5 + (i % 5 + 2) % 5) (by omega)]
theorem stepB_congr {a b : Nat → BitVec 64} (h : ∀ j, j < 25 → a j = b j) {i : Nat} (hi : i < 25) : chiB (scatB (thetaB a)) i = chiB (scatB (thetaB b)) i :=
  chiB_congr (fun _ hj => scatB_congr (fun _ hk => thetaB_congr h hk) hj) hi
theorem roundB_congr {a b : Nat → BitVec 64} (h : ∀ j, j < 25 → a j = b j) (r : Nat) {i : Nat} (hi : i < 25) : roundB a r i = roundB b r i := by
  simp only [roundB, stepB_congr h hi, stepB_congr h (show 0 < 25 by decide)]
def tabL (a : Nat → BitVec 64) : List (BitVec 64) := (List.range 25).map a
def getL (l : List (BitVec 64)) (i : Nat) : BitVec 64 := l.getD i 0
theorem getL_tabL (a : Nat → BitVec 64) {i : Nat} (hi : i < 25) : getL (tabL a) i = a i := by
  simp [getL, tabL, List.getD_eq_getElem?_getD, hi]
def roundsL : Nat → List (BitVec 64) → List (BitVec 64)
  | 0, l => l
  | r + 1, l => tabL (roundB (getL (roundsL r l)) r)
theorem roundsL_eq (a : Nat → BitVec 64) : ∀ r i, i < 25 → roundsB r a i = getL (roundsL r (tabL a)) i
  | 0, i, hi => (getL_tabL a hi).symm
  | r + 1, i, hi => by
    simp only [roundsB, roundsL]
    rw [getL_tabL _ hi]
    exact roundB_congr (fun j hj => roundsL_eq a r j hj) r hi
def soakL (a : Nat → BitVec 64) (H : Nat → Int) : List (BitVec 64) := roundsL 24 (tabL (absB a H 136))
theorem soakL_eq (a : Nat → BitVec 64) (H : Nat → Int) {i : Nat} (hi : i < 25) : soakB a H i = getL (soakL a H) i := roundsL_eq _ 24 i hi
def endL (s : Sp) (j : Nat) : Int := firstG (fun i => lw (getL (soakL s.a (padB s.H s.n)) i)) j
theorem endL_eq (s : Sp) {j : Nat} (hj : j < 32) : endB s j = endL s j := by
  simp only [endB, endL, firstG, soakL_eq s.a (padB s.H s.n) (show j / 8 < 25 by omega)]
def sp0 : Sp := ⟨fun _ => 0, fun _ => 0, 0⟩
def sumB (n : Nat) (f : Nat → Int) (j : Nat) : Int := endB (addB sp0 f n) j
end Go.Sx
end

section
namespace Go.Proofs.YtohnkglcabfpjaaDoor
open Go Go.Sx Go.RowKit
def cxKSum : Cx := ⟨[(20, cAddM), (22, cEndM)], glK, 0, []⟩
def kSumG (n : Nat) (f : Nat → Int) : SV := .one (sRow .u8 32 (sumB n f))
theorem vc_Sum (a : Option Addr) (n cap : Nat) (f : Nat → Int) :
    Owes Tryd.prog cxKSum [] 10 Tryd.f11 [sXs a n cap f] (kSumG n f) =
    (let x1 : Int := (↑(addB (spOf (fun (x : Nat) => (0 : Int)) (fun (x : Nat) => (0 : Int)) (0 : Int)) (fun (j : Nat) => f j) n).n : Int); (∀ (j : Nat), True) ∧ (∀ (i : Nat), i < 25 → (0 : Int) ≤ (0 : Int) ∧ (0 : Int) < (18446744073709551616 : Int)) ∧ mayG (fun (x : Nat) => (0 : Int)) (0 : Int) = Bool.true ∧ (∀ (i : Nat), i < 25 → (0 : Int) ≤ lw ((addB (spOf (fun (x : Nat) => (0 : Int)) (fun (x : Nat) => (0 : Int)) (0 : Int)) (fun (j : Nat) => f j) n).a i) ∧ lw ((addB (spOf (fun (x : Nat) => (0 : Int)) (fun (x : Nat) => (0 : Int)) (0 : Int)) (fun (j : Nat) => f j) n).a i) < (18446744073709551616 : Int)) ∧ mayG (addB (spOf (fun (x : Nat) => (0 : Int)) (fun (x : Nat) => (0 : Int)) (0 : Int)) (fun (j : Nat) => f j) n).2 x1 = Bool.true ∧ (∀ (j : Nat), j < 32 → endB (spOf (fun (i : Nat) => lw ((addB (spOf (fun (x : Nat) => (0 : Int)) (fun (x : Nat) => (0 : Int)) (0 : Int)) (fun (j : Nat) => f j) n).a i)) (addB (spOf (fun (x : Nat) => (0 : Int)) (fun (x : Nat) => (0 : Int)) (0 : Int)) (fun (j : Nat) => f j) n).2 x1) j = sumB n f j) ∧ True) := by kernel_rfl
end Go.Proofs.YtohnkglcabfpjaaDoor
end

section
namespace Go.Proofs.YtohnkglcabfpjaaDoor
open Go Go.Sx Go.RowKit
theorem sp0_eq : spOf (fun _ => 0) (fun _ => 0) 0 = sp0 := by
  unfold spOf sp0
  congr 1
theorem sp0_clean : clean sp0 := ⟨(by decide : (0 : Nat) < 136), fun j _ _ => (rfl : sp0.H j = 0)⟩
theorem may_zero : mayG (fun _ => 0) 0 = true := by
  rw [mayG_iff]
  exact ⟨⟨by omega, by omega⟩, fun _ _ => rfl⟩
theorem ok_Sum (a : Option Addr) (n cap : Nat) (f : Nat → Int) : Owes Tryd.prog cxKSum [] 10 Tryd.f11 [sXs a n cap f] (kSumG n f) := by
  rw [vc_Sum]
  intro x1
  have e0 : spOf (fun _ => 0) (fun _ => 0) 0 = sp0 := sp0_eq
  simp only [x1, e0, spOf_lw]
  exact ⟨fun _ => trivial, fun _ _ => ⟨by omega, by omega⟩, may_zero, lanes_lw _ _, may_clean (addB_clean sp0_clean _ _), fun _ _ => rfl, trivial⟩
theorem card_Sum : FnOKg Tryd.prog glK 11 (specBs (fun _ _ => []) kSumG) :=
  FnOK_Bs (cx := cxKSum) (iv := fun _ _ _ _ => []) (N := 10) (by
    refine ⟨fun p hp => ?_, fun _ h => (by cases h)⟩
    simp only [cxKSum, List.mem_cons, List.not_mem_nil, or_false] at hp
    rcases hp with rfl | rfl
    · exact card_AddM
    · exact card_EndM) Tryd.func11 (by kernel_rfl) (by kernel_rfl) (fun _ _ => bnd_row _ _ _ _) fun a n cap f _ => ok_Sum a n cap f
theorem sumB_congr {n : Nat} {f g : Nat → Int} (h : ∀ i, i < n → f i = g i) : sumB n f = sumB n g := by
  funext j
  unfold sumB
  rw [addB_congr h]
end Go.Proofs.YtohnkglcabfpjaaDoor
end

section
namespace Go.Proofs.YtohnkglcabfpjaaDoor
open Go.Sx
set_option maxRecDepth 100000
end Go.Proofs.YtohnkglcabfpjaaDoor
end

section
namespace Go.Proofs.YtohnkglcabfpjaaDoor
open Go.Sx
def inPB (m : Nat) (p : Pt) : Bool := p.2.2 || (Nat.blt p.1 m && Nat.blt p.2.1 m)
def slopeB (m : Nat) (p q : Pt) : Bool := match decide (p = q) with
  | true => Nat.beq (Nat.gcd ((p.2.1 + p.2.1) % m) m) 1
  | false => Nat.beq (Nat.gcd ((q.1 + m - p.1) % m) m) 1
def sumPB (m A : Nat) (p q : Pt) : Bool := (Nat.blt A m && (inPB m p && inPB m q)) && (p.2.2 || (q.2.2 || ((Nat.beq p.1 q.1 && Nat.beq ((p.2.1 + q.2.1) % m) 0) || slopeB m p q)))
theorem inPB_sound {m : Nat} {p : Pt} (h : inPB m p = true) : inP m p := by
  refine ⟨fun hf => ?_⟩
  unfold inPB at h
  rw [hf, Bool.false_or, Bool.and_eq_true] at h
  exact ⟨by simpa using h.1, by simpa using h.2⟩
theorem slopeB_sound {m : Nat} {p q : Pt} (h : slopeB m p q = true) : slopeOK m p q := by
  unfold slopeB at h
  split at h
  · rename_i e
    exact ⟨fun _ => Nat.eq_of_beq_eq_true h, fun n => absurd (of_decide_eq_true e) n⟩
  · rename_i e
    exact ⟨fun n => absurd n (of_decide_eq_false e), fun _ => Nat.eq_of_beq_eq_true h⟩
theorem sumPB_sound {m A : Nat} {p q : Pt} (h : sumPB m A p q = true) : sumOK m A p q := by
  unfold sumPB at h
  rw [Bool.and_eq_true, Bool.and_eq_true, Bool.and_eq_true] at h
  obtain ⟨⟨h1, h2, h3⟩, h4⟩ := h
  refine ⟨by simpa using h1, inPB_sound h2, inPB_sound h3, fun hp hq hn => ?_⟩
  rw [hp, hq, Bool.false_or, Bool.false_or, Bool.or_eq_true, Bool.and_eq_true] at h4
  rcases h4 with ⟨a, b⟩ | h4
  · exact absurd ⟨Nat.eq_of_beq_eq_true a, Nat.eq_of_beq_eq_true b⟩ hn
  · exact slopeB_sound h4
def mulB (m A k : Nat) (p : Pt) : Bool := (List.range 256).all fun n => sumPB m A (cmulR m A k p n) (cmulR m A k p n) && (!k.testBit (255 - n) || sumPB m A (csum m A (cmulR m A k p n) (cmulR m A k p n)) p)
theorem mulB_sound {m A k : Nat} {p : Pt} (h : mulB m A k p = true) : mulOK m A k p := by
  have h1 := fun n hn => List.all_eq_true.1 h n (List.mem_range.2 hn)
  refine ⟨fun n hn => ?_, fun n hn hb => ?_⟩
  · have := h1 n hn
    rw [Bool.and_eq_true] at this
    exact sumPB_sound this.1
  · have := h1 n hn
    rw [Bool.and_eq_true, hb, Bool.not_true, Bool.false_or] at this
    exact sumPB_sound this.2
theorem known_mul2 : mulB 115792089237316195423570985008687907853269984665640564039457584007908834671663 0 2 (red 55066263022277343669578718895168534326250603453777594175500187360389116729240 32670510020758816978083085130507043184471273380659243275938904335757337482424 false) = true := by kernel_rfl
theorem known_on : onP 115792089237316195423570985008687907853269984665640564039457584007908834671663 0 7 (red 55066263022277343669578718895168534326250603453777594175500187360389116729240 32670510020758816978083085130507043184471273380659243275938904335757337482424 false) := ⟨fun h => (by cases h), fun _ => (by decide +kernel)⟩
theorem known_good : goodP 115792089237316195423570985008687907853269984665640564039457584007908834671663 0 7 115792089237316195423570985008687907852837564279074904382605163141518161494337 (red 55066263022277343669578718895168534326250603453777594175500187360389116729240 32670510020758816978083085130507043184471273380659243275938904335757337482424 false) := ⟨by decide, by decide, by decide, by decide, by decide, by decide +kernel, rfl, known_on⟩
end Go.Proofs.YtohnkglcabfpjaaDoor
end

section
namespace Go.Proofs.YtohnkglcabfpjaaDoor
open Go.Sx
set_option maxRecDepth 100000
def keyF (x y : Nat) (j : Nat) : Int := (intsL [SK.f .u8 32 fun j => by8 x (31 - j), SK.f .u8 32 fun j => by8 y (31 - j)]).getD j 0
def kSumG2 (n : Nat) (f : Nat → Int) : SV := .one (.agg [.f .u8 12 (sumB n f), .f .u8 20 fun j => sumB n f (12 + j)])
def keyG : List (List At) → SV
  | [[.u x, .u y, .b _]] => .one (.agg [.f .u8 20 fun j => sumB 64 (keyF x y) (12 + j)])
  | _ => .tup []
def keyG2 : List (List At) → SV
  | [[.u x, .u y, .b _]] => .one (.agg [.f .u8 4 fun j => sumB 64 (keyF x y) (12 + j), .f .u8 16 fun j => sumB 64 (keyF x y) (12 + (4 + j))])
  | _ => .tup []
def keyC : List (List At) → List Prop
  | [[.u _, .u _, .b _]] => []
  | _ => [False]
def cKey : FSpec := specA [.str pPt] keyC keyG
def cKey2 : FSpec := specA [.str pPt] keyC keyG2
def pntM : List (List At) → SV
  | [[.u P, .u A, .u _, .u _, .u X, .u Y, .b F], [.u d]] => .tup [ptS (cmulR (P % M256) (A % M256) (d % M256) (red X Y F) 256), .sc (.num .i64 0)]
  | _ => .tup []
def cPntM : FSpec := specA [.str pCv, .str [.u]] pntC pntM
def cxKey : Cx := ⟨[(10, specU bytesG), (11, specBs (fun _ _ => []) kSumG2), (1000000009, fun _ => none)], glK, 0, []⟩
def cxKK : Cx := ⟨[(5, cPick), (6, cPntM), (7, cKey2)], glK, 0, []⟩
theorem vc_KeyOf (x y : Nat) (f : Bool) :
    Owes Tryd.prog cxKey [] 100 Tryd.f7 [sPt x y f] (keyG [[.u x, .u y, .b f]]) =
    (((((∀ (c : Nat), 64 + c ≤ Go.maxLen → 0 ≤ 64 + c ∧ (64 + c - 0 ≤ Go.maxLen ∧ (64 + c - 0) * 1 = 64 + c * 1) ∧ ∀ (c : Nat), 32 + c ≤ Go.maxLen → (32 ≤ 32 + c ∧ 32 + c ≤ Go.maxLen ∧ (32 + c) * 1 = 32 + c * 1) ∧ ∀ (c : Nat), 64 + c ≤ Go.maxLen → (64 ≤ 64 + c ∧ ∀ (_ : Go.Addr), (∀ (j : Nat), True) ∧ (∀ (j : Nat), j < 20 → sumB 64 (fun (j : Nat) => (intsL [SK.f Go.IntKind.u8 32 fun (j : Nat) => by8 x (31 - j), SK.f Go.IntKind.u8 32 fun (j : Nat) => by8 y (31 - j)]).getD j (0 : Int)) (12 + j) = sumB 64 (keyF x y) (12 + j)) ∧ True) ∧ 64 ≤ 64 + c ∧ ∀ (_ : Go.Addr), (∀ (j : Nat), True) ∧ (∀ (j : Nat), j < 20 → sumB 64 (fun (j : Nat) => (intsL [SK.f Go.IntKind.u8 32 fun (j : Nat) => by8 x (31 - j), SK.f Go.IntKind.u8 32 fun (j : Nat) => by8 y (31 - j)]).getD j (0 : Int)) (12 + j) = sumB 64 (keyF x y) (12 + j)) ∧ True) ∧ ∀ (c : Nat), 64 + c ≤ Go.maxLen → 0 ≤ 64 + c ∧ (64 + c - 0 ≤ Go.maxLen ∧ (64 + c - 0) * 1 = 64 + c * 1) ∧ ∀ (c : Nat), 32 + c ≤ Go.maxLen → (32 ≤ 32 + c ∧ 32 + c ≤ Go.maxLen ∧ (32 + c) * 1 = 32 + c * 1) ∧ ∀ (c : Nat), 64 + c ≤ Go.maxLen → 64 ≤ 64 + c ∧ ∀ (_ : Go.Addr), (∀ (j : Nat), True) ∧ (∀ (j : Nat), j < 20 → sumB 64 (fun (j : Nat) => (intsL [SK.f Go.IntKind.u8 32 fun (j : Nat) => by8 x (31 - j), SK.f Go.IntKind.u8 32 fun (j : Nat) => by8 y (31 - j)]).getD j (0 : Int)) (12 + j) = sumB 64 (keyF x y) (12 + j)) ∧ True) ∧ ∀ (c : Nat), 64 + c ≤ Go.maxLen → 0 ≤ 64 + c ∧ (64 + c - 0 ≤ Go.maxLen ∧ (64 + c - 0) * 1 = 64 + c * 1) ∧ ∀ (c : Nat), 32 + c ≤ Go.maxLen → (32 ≤ 32 + c ∧ 32 + c ≤ Go.maxLen ∧ (32 + c) * 1 = 32 + c * 1) ∧ ∀ (c : Nat), 64 + c ≤ Go.maxLen → 64 ≤ 64 + c ∧ ∀ (_ : Go.Addr), (∀ (j : Nat), True) ∧ (∀ (j : Nat), j < 20 → sumB 64 (fun (j : Nat) => (intsL [SK.f Go.IntKind.u8 32 fun (j : Nat) => by8 x (31 - j), SK.f Go.IntKind.u8 32 fun (j : Nat) => by8 y (31 - j)]).getD j (0 : Int)) (12 + j) = sumB 64 (keyF x y) (12 + j)) ∧ True) ∧ ∀ (c : Nat), 64 + c ≤ Go.maxLen → 0 ≤ 64 + c ∧ (64 + c - 0 ≤ Go.maxLen ∧ (64 + c - 0) * 1 = 64 + c * 1) ∧ ∀ (c : Nat), 32 + c ≤ Go.maxLen → (32 ≤ 32 + c ∧ 32 + c ≤ Go.maxLen ∧ (32 + c) * 1 = 32 + c * 1) ∧ ∀ (c : Nat), 64 + c ≤ Go.maxLen → 64 ≤ 64 + c ∧ ∀ (_ : Go.Addr), (∀ (j : Nat), True) ∧ (∀ (j : Nat), j < 20 → sumB 64 (fun (j : Nat) => (intsL [SK.f Go.IntKind.u8 32 fun (j : Nat) => by8 x (31 - j), SK.f Go.IntKind.u8 32 fun (j : Nat) => by8 y (31 - j)]).getD j (0 : Int)) (12 + j) = sumB 64 (keyF x y) (12 + j)) ∧ True) ∧ ((((∀ (c : Nat), 64 + c ≤ Go.maxLen → 0 ≤ 64 + c ∧ (64 + c - 0 ≤ Go.maxLen ∧ (64 + c - 0) * 1 = 64 + c * 1) ∧ ∀ (c : Nat), 32 + c ≤ Go.maxLen → (32 ≤ 32 + c ∧ 32 + c ≤ Go.maxLen ∧ (32 + c) * 1 = 32 + c * 1) ∧ ∀ (c : Nat), 64 + c ≤ Go.maxLen → (64 ≤ 64 + c ∧ ∀ (_ : Go.Addr), (∀ (j : Nat), True) ∧ (∀ (j : Nat), j < 20 → sumB 64 (fun (j : Nat) => (intsL [SK.f Go.IntKind.u8 32 fun (j : Nat) => by8 x (31 - j), SK.f Go.IntKind.u8 32 fun (j : Nat) => by8 y (31 - j)]).getD j (0 : Int)) (12 + j) = sumB 64 (keyF x y) (12 + j)) ∧ True) ∧ 64 ≤ 64 + c ∧ ∀ (_ : Go.Addr), (∀ (j : Nat), True) ∧ (∀ (j : Nat), j < 20 → sumB 64 (fun (j : Nat) => (intsL [SK.f Go.IntKind.u8 32 fun (j : Nat) => by8 x (31 - j), SK.f Go.IntKind.u8 32 fun (j : Nat) => by8 y (31 - j)]).getD j (0 : Int)) (12 + j) = sumB 64 (keyF x y) (12 + j)) ∧ True) ∧ ∀ (c : Nat), 64 + c ≤ Go.maxLen → 0 ≤ 64 + c ∧ (64 + c - 0 ≤ Go.maxLen ∧ (64 + c - 0) * 1 = 64 + c * 1) ∧ ∀ (c : Nat), 32 + c ≤ Go.maxLen → (32 ≤ 32 + c ∧ 32 + c ≤ Go.maxLen ∧ (32 + c) * 1 = 32 + c * 1) ∧ ∀ (c : Nat), 64 + c ≤ Go.maxLen → 64 ≤ 64 + c ∧ ∀ (_ : Go.Addr), (∀ (j : Nat), True) ∧ (∀ (j : Nat), j < 20 → sumB 64 (fun (j : Nat) => (intsL [SK.f Go.IntKind.u8 32 fun (j : Nat) => by8 x (31 - j), SK.f Go.IntKind.u8 32 fun (j : Nat) => by8 y (31 - j)]).getD j (0 : Int)) (12 + j) = sumB 64 (keyF x y) (12 + j)) ∧ True) ∧ ∀ (c : Nat), 64 + c ≤ Go.maxLen → 0 ≤ 64 + c ∧ (64 + c - 0 ≤ Go.maxLen ∧ (64 + c - 0) * 1 = 64 + c * 1) ∧ ∀ (c : Nat), 32 + c ≤ Go.maxLen → (32 ≤ 32 + c ∧ 32 + c ≤ Go.maxLen ∧ (32 + c) * 1 = 32 + c * 1) ∧ ∀ (c : Nat), 64 + c ≤ Go.maxLen → 64 ≤ 64 + c ∧ ∀ (_ : Go.Addr), (∀ (j : Nat), True) ∧ (∀ (j : Nat), j < 20 → sumB 64 (fun (j : Nat) => (intsL [SK.f Go.IntKind.u8 32 fun (j : Nat) => by8 x (31 - j), SK.f Go.IntKind.u8 32 fun (j : Nat) => by8 y (31 - j)]).getD j (0 : Int)) (12 + j) = sumB 64 (keyF x y) (12 + j)) ∧ True) ∧ ∀ (c : Nat), 64 + c ≤ Go.maxLen → 0 ≤ 64 + c ∧ (64 + c - 0 ≤ Go.maxLen ∧ (64 + c - 0) * 1 = 64 + c * 1) ∧ ∀ (c : Nat), 32 + c ≤ Go.maxLen → (32 ≤ 32 + c ∧ 32 + c ≤ Go.maxLen ∧ (32 + c) * 1 = 32 + c * 1) ∧ ∀ (c : Nat), 64 + c ≤ Go.maxLen → 64 ≤ 64 + c ∧ ∀ (_ : Go.Addr), (∀ (j : Nat), True) ∧ (∀ (j : Nat), j < 20 → sumB 64 (fun (j : Nat) => (intsL [SK.f Go.IntKind.u8 32 fun (j : Nat) => by8 x (31 - j), SK.f Go.IntKind.u8 32 fun (j : Nat) => by8 y (31 - j)]).getD j (0 : Int)) (12 + j) = sumB 64 (keyF x y) (12 + j)) ∧ True) ∧ (∀ (c : Nat), 64 + c ≤ Go.maxLen → 0 ≤ 64 + c ∧ (64 + c - 0 ≤ Go.maxLen ∧ (64 + c - 0) * 1 = 64 + c * 1) ∧ ∀ (c : Nat), 32 + c ≤ Go.maxLen → (32 ≤ 32 + c ∧ 32 + c ≤ Go.maxLen ∧ (32 + c) * 1 = 32 + c * 1) ∧ ∀ (c : Nat), 64 + c ≤ Go.maxLen → 64 ≤ 64 + c ∧ ∀ (_ : Go.Addr), (∀ (j : Nat), True) ∧ (∀ (j : Nat), j < 20 → sumB 64 (fun (j : Nat) => (intsL [SK.f Go.IntKind.u8 32 fun (j : Nat) => by8 x (31 - j), SK.f Go.IntKind.u8 32 fun (j : Nat) => by8 y (31 - j)]).getD j (0 : Int)) (12 + j) = sumB 64 (keyF x y) (12 + j)) ∧ True) ∧ ∀ (c : Nat), 64 + c ≤ Go.maxLen → 0 ≤ 64 + c ∧ (64 + c - 0 ≤ Go.maxLen ∧ (64 + c - 0) * 1 = 64 + c * 1) ∧ ∀ (c : Nat), 32 + c ≤ Go.maxLen → (32 ≤ 32 + c ∧ 32 + c ≤ Go.maxLen ∧ (32 + c) * 1 = 32 + c * 1) ∧ ∀ (c : Nat), 64 + c ≤ Go.maxLen → 64 ≤ 64 + c ∧ ∀ (_ : Go.Addr), (∀ (j : Nat), True) ∧ (∀ (j : Nat), j < 20 → sumB 64 (fun (j : Nat) => (intsL [SK.f Go.IntKind.u8 32 fun (j : Nat) => by8 x (31 - j), SK.f Go.IntKind.u8 32 fun (j : Nat) => by8 y (31 - j)]).getD j (0 : Int)) (12 + j) = sumB 64 (keyF x y) (12 + j)) ∧ True) := by kernel_rfl
theorem vc_KeysKnown (n : Int) :
    Owes Tryd.prog cxKK [(2, .split 4 1)] 100 Tryd.f3 [sI .i64 n] yes =
    (let x1 : Int := n % (2 : Int); ((-9223372036854775808 : Int) ≤ n ∧ n ≤ (9223372036854775807 : Int)) ∧ ((0 : Int) < (2 : Int) ∧ (2 : Int) ≤ (1048576 : Int)) ∧ ((0 : Int) ≤ x1 ∧ x1 ≤ (1 : Int)) ∧ (x1 = (0 : Int) → goodP 115792089237316195423570985008687907853269984665640564039457584007908834671663 0 7 115792089237316195423570985008687907852837564279074904382605163141518161494337 (red 55066263022277343669578718895168534326250603453777594175500187360389116729240 32670510020758816978083085130507043184471273380659243275938904335757337482424 Bool.false) ∧ secB 115792089237316195423570985008687907852837564279074904382605163141518161494337 1 = Bool.true ∧ mulOK 115792089237316195423570985008687907853269984665640564039457584007908834671663 0 1 (red 55066263022277343669578718895168534326250603453777594175500187360389116729240 32670510020758816978083085130507043184471273380659243275938904335757337482424 Bool.false) ∧ ((bytesI (intsL [SK.f Go.IntKind.u8 4 fun (j : Nat) => sumB 64 (keyF 55066263022277343669578718895168534326250603453777594175500187360389116729240 32670510020758816978083085130507043184471273380659243275938904335757337482424) (12 + j)])).toList == (ByteArray.mk #[(126 : UInt8), (95 : UInt8), (69 : UInt8), (82 : UInt8)]).toList) = Bool.true) ∧ (x1 = (1 : Int) → goodP 115792089237316195423570985008687907853269984665640564039457584007908834671663 0 7 115792089237316195423570985008687907852837564279074904382605163141518161494337 (red 55066263022277343669578718895168534326250603453777594175500187360389116729240 32670510020758816978083085130507043184471273380659243275938904335757337482424 Bool.false) ∧ secB 115792089237316195423570985008687907852837564279074904382605163141518161494337 2 = Bool.true ∧ mulOK 115792089237316195423570985008687907853269984665640564039457584007908834671663 0 2 (red 55066263022277343669578718895168534326250603453777594175500187360389116729240 32670510020758816978083085130507043184471273380659243275938904335757337482424 Bool.false) ∧ ((bytesI (intsL [SK.f Go.IntKind.u8 4 fun (j : Nat) => sumB 64 (keyF 89565891926547004231252920425935692360644145829622209833684329913297188986597 12158399299693830322967808612713398636155367887041628176798871954788371653930) (12 + j)])).toList == (ByteArray.mk #[(43 : UInt8), (90 : UInt8), (213 : UInt8), (196 : UInt8)]).toList) = Bool.true)) := by kernel_rfl
end Go.Proofs.YtohnkglcabfpjaaDoor
end

section
namespace Go.Proofs.YtohnkglcabfpjaaDoor
open Go Go.Sx Go.RowKit
theorem flat_cut (k : IntKind) (a b : Nat) (g : Nat → Int) : flat [SK.f k a g, SK.f k b fun j => g (a + j)] = flat [SK.f k (a + b) g] := by
  simp only [flat, SK.cells, List.append_nil, List.range_add, List.map_append, List.map_map]
  rfl
theorem conc_cut (k : IntKind) (a b : Nat) (g : Nat → Int) (ρ : Rho) : (SA.agg [SK.f k a g, SK.f k b fun j => g (a + j)]).conc ρ = (SA.agg [SK.f k (a + b) g]).conc ρ := by
  simp only [SA.conc, concs, flat_cut]
theorem bnd_cut (k : IntKind) (a b : Nat) (g h : Nat → Int) : (SV.one (.agg [SK.f k a g, SK.f k b h])).bnd none0 := by
  intro x hx
  simp only [List.mem_cons, List.not_mem_nil, or_false] at hx
  rcases hx with rfl | rfl <;> trivial
theorem card_Sum2 : FnOKg Tryd.prog glK 11 (specBs (fun _ _ => []) kSumG2) := by
  refine FnOKg_weak card_Sum fun args ps sv' hs hp => ?_
  unfold specBs at hs
  split at hs
  · rename_i y
    split at hs
    · rename_i ps' a n cap f hy
      simp only [Option.some.injEq, Prod.mk.injEq] at hs
      obtain ⟨rfl, rfl⟩ := hs
      refine ⟨bnd_cut _ _ _ _ _, ps' ++ [], kSumG n f, by simp only [specBs, hy], hp, fun ρ v hv => ?_⟩
      have hv : v = (SA.agg [SK.f .u8 (12 + 20) (sumB n f)]).conc ρ := hv
      exact hv.trans (conc_cut .u8 12 20 (sumB n f) ρ).symm
    · cases hs
  · cases hs
theorem card_mark9 : FnOKg Tryd.prog glK 1000000009 (fun _ => none) := fun _ _ _ hs _ => by cases hs
theorem cxok_Key : CxOK Tryd.prog cxKey := by
  refine ⟨fun p hp => ?_, fun _ h => (by cases h)⟩
  simp only [cxKey, List.mem_cons, List.not_mem_nil, or_false] at hp
  rcases hp with rfl | rfl | rfl
  · exact FnOKg.up card_Bytes glK
  · exact card_Sum2
  · exact card_mark9
theorem ok_KeyOf : ∀ (ls : List (List At)) (vs : List (Option Addr)), Ok (keyC ls) → Owes Tryd.prog cxKey [] 100 Tryd.f7 (mkArgs [.str pPt] ls vs) (keyG ls) := by
  intro ls vs h
  unfold keyC at h
  split at h
  · rename_i x y f
    show Owes _ _ _ _ _ [sPt x y f] _
    rw [vc_KeyOf]
    have hK : ∀ j, j < 20 → sumB 64 (fun j => (intsL [SK.f .u8 32 fun j => by8 x (31 - j), SK.f .u8 32 fun j => by8 y (31 - j)]).getD j 0) (12 + j) = sumB 64 (keyF x y) (12 + j) := fun j _ =>
      congrArg (fun F : Nat → Int => sumB 64 F (12 + j)) (rfl : (fun j => (intsL [SK.f .u8 32 fun j => by8 x (31 - j), SK.f .u8 32 fun j => by8 y (31 - j)]).getD j 0) = keyF x y)
    repeat' (first | exact fun _ => trivial | exact trivial | exact hK | omega | intro _ | refine And.intro ?_ ?_)
  · exact h.1.elim
theorem keyG_bnd (ls : List (List At)) : (keyG ls).bnd none0 := by
  unfold keyG
  split
  · exact bnd_row _ _ _ _
  · exact bnd_none
theorem card_KeyOf : FnOKg Tryd.prog glK 7 cKey :=
  FnOK_A (cx := cxKey) cxok_Key (iv := fun _ => []) (N := 100) Tryd.func7 (by kernel_rfl) (by kernel_rfl) keyG_bnd ok_KeyOf
theorem card_KeyOf2 : FnOKg Tryd.prog glK 7 cKey2 := by
  refine FnOKg_weak card_KeyOf fun args ps sv' hs hp => ?_
  unfold cKey2 specA at hs
  split at hs
  · rename_i p ls ha
    simp only [Option.some.injEq, Prod.mk.injEq] at hs
    obtain ⟨rfl, rfl⟩ := hs
    obtain ⟨o1, o2⟩ := Ok.append.1 hp
    unfold keyC at o2
    split at o2
    · rename_i x y f
      refine ⟨bnd_cut _ _ _ _ _, _, keyG [[.u x, .u y, .b f]], by simp only [cKey, specA, ha], hp, fun ρ v hv => ?_⟩
      have hv : v = (SA.agg [SK.f .u8 (4 + 16) fun j => sumB 64 (keyF x y) (12 + j)]).conc ρ := hv
      exact hv.trans (conc_cut .u8 4 16 (fun j => sumB 64 (keyF x y) (12 + j)) ρ).symm
    · exact o2.1.elim
  · cases hs
theorem card_sPointM : FnOK Tryd.prog 6 cPntM := by
  refine FnOKg_weak card_sPoint fun args ps sv' hs hp => ?_
  unfold cPntM specA at hs
  split at hs
  · rename_i p ls ha
    simp only [Option.some.injEq, Prod.mk.injEq] at hs
    obtain ⟨rfl, rfl⟩ := hs
    obtain ⟨o1, o2⟩ := Ok.append.1 hp
    unfold pntC at o2
    split at o2
    · rename_i P A B N X Y F d
      refine ⟨?_, _, pntG [[.u P, .u A, .u B, .u N, .u X, .u Y, .b F], [.u d]], by simp only [cPnt, specA, ha], hp, fun ρ v hv => hv⟩
      intro x hx
      simp only [List.mem_cons, List.not_mem_nil, or_false] at hx
      rcases hx with rfl | rfl
      · exact bnd_pt _
      · trivial
    · exact o2.1.elim
  · cases hs
theorem cxok_KK : CxOK Tryd.prog cxKK := by
  refine ⟨fun p hp => ?_, fun _ h => (by cases h)⟩
  simp only [cxKK, List.mem_cons, List.not_mem_nil, or_false] at hp
  rcases hp with rfl | rfl | rfl
  · exact FnOKg.up card_pickBig glK
  · exact FnOKg.up card_sPointM glK
  · exact card_KeyOf2
def bytesK1 : List Int := [121, 190, 102, 126, 249, 220, 187, 172, 85, 160, 98, 149, 206, 135, 11, 7, 2, 155, 252, 219, 45, 206, 40, 217, 89, 242, 129, 91, 22, 248, 23, 152, 72, 58, 218, 119, 38, 163, 196, 101, 93, 164, 251, 252, 14, 17, 8, 168, 253, 23, 180, 72, 166, 133, 84, 25, 156, 71, 208, 143, 251, 16, 212, 184]
def bytesK2 : List Int := [198, 4, 127, 148, 65, 237, 125, 109, 48, 69, 64, 110, 149, 192, 124, 216, 92, 119, 142, 75, 140, 239, 60, 167, 171, 172, 9, 185, 92, 112, 158, 229, 26, 225, 104, 254, 166, 61, 195, 57, 163, 197, 132, 25, 70, 108, 234, 238, 247, 246, 50, 101, 50, 102, 208, 225, 35, 100, 49, 169, 80, 207, 229, 42]
theorem key_F1 : (List.range 64).all (fun i => keyF 55066263022277343669578718895168534326250603453777594175500187360389116729240 32670510020758816978083085130507043184471273380659243275938904335757337482424 i == bytesK1.getD i 0) = true := by decide +kernel
theorem key_F2 : (List.range 64).all (fun i => keyF 89565891926547004231252920425935692360644145829622209833684329913297188986597 12158399299693830322967808612713398636155367887041628176798871954788371653930 i == bytesK2.getD i 0) = true := by decide +kernel
theorem key_S1 : (List.range 4).all (fun j => endL (addB sp0 (fun i => bytesK1.getD i 0) 64) (12 + j) == [126, 95, 69, 82].getD j 0) = true := by decide +kernel
theorem key_S2 : (List.range 4).all (fun j => endL (addB sp0 (fun i => bytesK2.getD i 0) 64) (12 + j) == [43, 90, 213, 196].getD j 0) = true := by decide +kernel
theorem key_row {F : Nat → Int} {k l : List Int} (hF : (List.range 64).all (fun i => F i == k.getD i 0) = true) (h : (List.range 4).all (fun j => endL (addB sp0 (fun i => k.getD i 0) 64) (12 + j) == l.getD j 0) = true) : (List.range 4).map (fun j => sumB 64 F (12 + j)) = (List.range 4).map fun j => l.getD j 0 := by
  have e : sumB 64 F = sumB 64 fun i => k.getD i 0 := sumB_congr fun i hi => by
    have := List.all_eq_true.1 hF i (List.mem_range.2 hi)
    simpa using this
  rw [e]
  refine List.map_congr_left fun j hj => ?_
  have hj := List.mem_range.1 hj
  have := List.all_eq_true.1 h j (List.mem_range.2 hj)
  unfold sumB
  rw [endL_eq _ (by omega)]
  simpa using this
theorem known_mul1 : mulB 115792089237316195423570985008687907853269984665640564039457584007908834671663 0 1 (red 55066263022277343669578718895168534326250603453777594175500187360389116729240 32670510020758816978083085130507043184471273380659243275938904335757337482424 false) = true := by kernel_rfl
theorem ok_KeysKnown : ∀ n : Int, i64ok n → Owes Tryd.prog cxKK [(2, .split 4 1)] 100 Tryd.f3 [sI .i64 n] yes := by
  intro n hn
  rw [vc_KeysKnown]
  intro x1
  have hx : 0 ≤ x1 ∧ x1 ≤ 1 := by
    simp only [x1]
    omega
  refine ⟨hn, by decide, hx, fun _ => ⟨known_good, by kernel_rfl, mulB_sound known_mul1, ?_⟩, fun _ => ⟨known_good, by kernel_rfl, mulB_sound known_mul2, ?_⟩⟩
  · show ((bytesI ((List.range 4).map (fun j => sumB 64 _ (12 + j)) ++ [])).toList == _) = true
    rw [key_row key_F1 key_S1]
    decide +kernel
  · show ((bytesI ((List.range 4).map (fun j => sumB 64 _ (12 + j)) ++ [])).toList == _) = true
    rw [key_row key_F2 key_S2]
    decide +kernel
end Go.Proofs.YtohnkglcabfpjaaDoor
end
