/-
  Texts: V164, P266, V165, P267.
-/
import Derived.Test.YtdjjggomhloanaaM1
import Derived.Test.YtdjjggomhloanaaM2
import Derived.Test.YtdjjggomhloanaaM3
import Derived.Test.YtdjjggomhloanaaM4
import Derived.Test.YtdjjggomhloanaaM5
import Derived.Test.YtdjjggomhloanaaM6
import Derived.Test.YtdjjggomhloanaaM7
import Derived.Test.YtdjjggomhloanaaM8
import Derived.Test.YtdjjggomhloanaaM9
import Derived.Test.YtdjjggomhloanaaM10
section
namespace Go.Proofs.Ytdjjggomhloanaa
open Go Go.Sx Go.RowKit
set_option maxRecDepth 100000
def invBs (a : Option Addr) (n cap : Nat) (W : Nat → Nat → Int) (A : Nat → Nat) (v : Nat → Int) (P : Nat → Nat → Prop) : Inv where
  X := Nat × Nat × Addr
  tm y := slotsAt 49 [(0, .one (sHs a n cap W A)), (2, .one (.sc (.fn 37 []))), (4, .one (.sc (.px y.2.2 32 fun c => .val (.int .u8 (v c))))), (8, .one (sI .i64 (n : Int))), (9, .one (sI .i64 (y.1 : Int))), (10, .one (sI .i64 (y.2.1 : Int)))]
  ob _ := []
  holds y := y.1 ≤ y.2.1 ∧ y.2.1 ≤ n ∧ P y.1 y.2.1
  less y := y.2.1 - y.1
def cx17 : Cx := ⟨[(1000000008, fun _ => none), (1000000010, fun _ => none), (1000000012, fun _ => none), (1000000013, fun _ => none), (1000000014, fun _ => none), (1000000017, fun _ => none)], [], 0, []⟩
def slBs : List (Nat × SSpec) := [(37, cAg)]
set_option maxHeartbeats 4000000 in
theorem vc_fi (a : Option Addr) (n cap : Nat) (W : Nat → Nat → Int) (A : Nat → Nat) (v : Nat → Int) (P : Nat → Nat → Prop) (r : Int) (b : Bool) :
    OwesR Try.prog cx17 slBs [((42 + 1) * 100000 + 3, .inv (invBs a n cap W A v P))] 10 Try.f35 [sHs a n cap W A, sWh v] false [.v (sI .i64 r), .v (sB b)] =
    (let x1 : Nat := kv fun (j : Nat) => v (0 + j); ∀ (a_1 a_2 : Go.Addr), (∀ (y : Nat × Nat × Go.Addr), closedB (slotsAt 49 [(0, SV.one (sHs a n cap W A)), (2, SV.one (SA.sc (SC.fn 37 []))), (4, SV.one (SA.sc (SC.px y.snd.snd 32 fun (c : Nat) => SC.val (Go.Value.int Go.IntKind.u8 (v c))))), (8, SV.one (sI Go.IntKind.i64 (↑n : Int))), (9, SV.one (sI Go.IntKind.i64 (↑y.fst : Int))), (10, SV.one (sI Go.IntKind.i64 (↑y.snd.fst : Int)))]) [] = Bool.true) ∧ ∃ (y : Nat × Nat × Go.Addr), (y.fst ≤ y.snd.fst ∧ y.snd.fst ≤ n ∧ P y.fst y.snd.fst) ∧ (a = a ∧ n = n ∧ cap = cap ∧ ∀ (i : Nat), i < n → simC (hoF W A i 0) (hoF W A i 0) ∧ simC (hoF W A i 1) (hoF W A i 1) ∧ simC (hoF W A i 2) (hoF W A i 2) ∧ simC (hoF W A i 3) (hoF W A i 3) ∧ simC (hoF W A i 4) (hoF W A i 4) ∧ simC (hoF W A i 5) (hoF W A i 5) ∧ simC (hoF W A i 6) (hoF W A i 6) ∧ simC (hoF W A i 7) (hoF W A i 7) ∧ simC (hoF W A i 8) (hoF W A i 8) ∧ simC (hoF W A i 9) (hoF W A i 9) ∧ simC (hoF W A i 10) (hoF W A i 10) ∧ simC (hoF W A i 11) (hoF W A i 11) ∧ simC (hoF W A i 12) (hoF W A i 12) ∧ simC (hoF W A i 13) (hoF W A i 13) ∧ simC (hoF W A i 14) (hoF W A i 14) ∧ simC (hoF W A i 15) (hoF W A i 15) ∧ simC (hoF W A i 16) (hoF W A i 16) ∧ simC (hoF W A i 17) (hoF W A i 17) ∧ simC (hoF W A i 18) (hoF W A i 18) ∧ simC (hoF W A i 19) (hoF W A i 19) ∧ simC (hoF W A i 20) (hoF W A i 20) ∧ simC (hoF W A i 21) (hoF W A i 21) ∧ simC (hoF W A i 22) (hoF W A i 22) ∧ simC (hoF W A i 23) (hoF W A i 23) ∧ simC (hoF W A i 24) (hoF W A i 24) ∧ simC (hoF W A i 25) (hoF W A i 25) ∧ simC (hoF W A i 26) (hoF W A i 26) ∧ simC (hoF W A i 27) (hoF W A i 27) ∧ simC (hoF W A i 28) (hoF W A i 28) ∧ simC (hoF W A i 29) (hoF W A i 29) ∧ simC (hoF W A i 30) (hoF W A i 30) ∧ simC (hoF W A i 31) (hoF W A i 31) ∧ simC (hoF W A i 32) (hoF W A i 32) ∧ simC (hoF W A i 33) (hoF W A i 33) ∧ simC (hoF W A i 34) (hoF W A i 34) ∧ limb (A i) 3 = limb (A i) 3) ∧ (37 = 37 ∧ ([] : List PV) = []) ∧ (a_2 = y.snd.snd ∧ simC ((flat (toKs (SA.agg (grpK (fun (c : Nat) => (flat (toKs (sWh v))).getD c (SC.bit Bool.false)) 0 (segT Try.prog 8 34))))).getD 0 (SC.bit Bool.false)) (SC.val (Go.Value.int Go.IntKind.u8 (v 0))) ∧ simC ((flat (toKs (SA.agg (grpK (fun (c : Nat) => (flat (toKs (sWh v))).getD c (SC.bit Bool.false)) 0 (segT Try.prog 8 34))))).getD 1 (SC.bit Bool.false)) (SC.val (Go.Value.int Go.IntKind.u8 (v 1))) ∧ simC ((flat (toKs (SA.agg (grpK (fun (c : Nat) => (flat (toKs (sWh v))).getD c (SC.bit Bool.false)) 0 (segT Try.prog 8 34))))).getD 2 (SC.bit Bool.false)) (SC.val (Go.Value.int Go.IntKind.u8 (v 2))) ∧ simC ((flat (toKs (SA.agg (grpK (fun (c : Nat) => (flat (toKs (sWh v))).getD c (SC.bit Bool.false)) 0 (segT Try.prog 8 34))))).getD 3 (SC.bit Bool.false)) (SC.val (Go.Value.int Go.IntKind.u8 (v 3))) ∧ simC ((flat (toKs (SA.agg (grpK (fun (c : Nat) => (flat (toKs (sWh v))).getD c (SC.bit Bool.false)) 0 (segT Try.prog 8 34))))).getD 4 (SC.bit Bool.false)) (SC.val (Go.Value.int Go.IntKind.u8 (v 4))) ∧ simC ((flat (toKs (SA.agg (grpK (fun (c : Nat) => (flat (toKs (sWh v))).getD c (SC.bit Bool.false)) 0 (segT Try.prog 8 34))))).getD 5 (SC.bit Bool.false)) (SC.val (Go.Value.int Go.IntKind.u8 (v 5))) ∧ simC ((flat (toKs (SA.agg (grpK (fun (c : Nat) => (flat (toKs (sWh v))).getD c (SC.bit Bool.false)) 0 (segT Try.prog 8 34))))).getD 6 (SC.bit Bool.false)) (SC.val (Go.Value.int Go.IntKind.u8 (v 6))) ∧ simC ((flat (toKs (SA.agg (grpK (fun (c : Nat) => (flat (toKs (sWh v))).getD c (SC.bit Bool.false)) 0 (segT Try.prog 8 34))))).getD 7 (SC.bit Bool.false)) (SC.val (Go.Value.int Go.IntKind.u8 (v 7))) ∧ simC ((flat (toKs (SA.agg (grpK (fun (c : Nat) => (flat (toKs (sWh v))).getD c (SC.bit Bool.false)) 0 (segT Try.prog 8 34))))).getD 8 (SC.bit Bool.false)) (SC.val (Go.Value.int Go.IntKind.u8 (v 8))) ∧ simC ((flat (toKs (SA.agg (grpK (fun (c : Nat) => (flat (toKs (sWh v))).getD c (SC.bit Bool.false)) 0 (segT Try.prog 8 34))))).getD 9 (SC.bit Bool.false)) (SC.val (Go.Value.int Go.IntKind.u8 (v 9))) ∧ simC ((flat (toKs (SA.agg (grpK (fun (c : Nat) => (flat (toKs (sWh v))).getD c (SC.bit Bool.false)) 0 (segT Try.prog 8 34))))).getD 10 (SC.bit Bool.false)) (SC.val (Go.Value.int Go.IntKind.u8 (v 10))) ∧ simC ((flat (toKs (SA.agg (grpK (fun (c : Nat) => (flat (toKs (sWh v))).getD c (SC.bit Bool.false)) 0 (segT Try.prog 8 34))))).getD 11 (SC.bit Bool.false)) (SC.val (Go.Value.int Go.IntKind.u8 (v 11))) ∧ simC ((flat (toKs (SA.agg (grpK (fun (c : Nat) => (flat (toKs (sWh v))).getD c (SC.bit Bool.false)) 0 (segT Try.prog 8 34))))).getD 12 (SC.bit Bool.false)) (SC.val (Go.Value.int Go.IntKind.u8 (v 12))) ∧ simC ((flat (toKs (SA.agg (grpK (fun (c : Nat) => (flat (toKs (sWh v))).getD c (SC.bit Bool.false)) 0 (segT Try.prog 8 34))))).getD 13 (SC.bit Bool.false)) (SC.val (Go.Value.int Go.IntKind.u8 (v 13))) ∧ simC ((flat (toKs (SA.agg (grpK (fun (c : Nat) => (flat (toKs (sWh v))).getD c (SC.bit Bool.false)) 0 (segT Try.prog 8 34))))).getD 14 (SC.bit Bool.false)) (SC.val (Go.Value.int Go.IntKind.u8 (v 14))) ∧ simC ((flat (toKs (SA.agg (grpK (fun (c : Nat) => (flat (toKs (sWh v))).getD c (SC.bit Bool.false)) 0 (segT Try.prog 8 34))))).getD 15 (SC.bit Bool.false)) (SC.val (Go.Value.int Go.IntKind.u8 (v 15))) ∧ simC ((flat (toKs (SA.agg (grpK (fun (c : Nat) => (flat (toKs (sWh v))).getD c (SC.bit Bool.false)) 0 (segT Try.prog 8 34))))).getD 16 (SC.bit Bool.false)) (SC.val (Go.Value.int Go.IntKind.u8 (v 16))) ∧ simC ((flat (toKs (SA.agg (grpK (fun (c : Nat) => (flat (toKs (sWh v))).getD c (SC.bit Bool.false)) 0 (segT Try.prog 8 34))))).getD 17 (SC.bit Bool.false)) (SC.val (Go.Value.int Go.IntKind.u8 (v 17))) ∧ simC ((flat (toKs (SA.agg (grpK (fun (c : Nat) => (flat (toKs (sWh v))).getD c (SC.bit Bool.false)) 0 (segT Try.prog 8 34))))).getD 18 (SC.bit Bool.false)) (SC.val (Go.Value.int Go.IntKind.u8 (v 18))) ∧ simC ((flat (toKs (SA.agg (grpK (fun (c : Nat) => (flat (toKs (sWh v))).getD c (SC.bit Bool.false)) 0 (segT Try.prog 8 34))))).getD 19 (SC.bit Bool.false)) (SC.val (Go.Value.int Go.IntKind.u8 (v 19))) ∧ simC ((flat (toKs (SA.agg (grpK (fun (c : Nat) => (flat (toKs (sWh v))).getD c (SC.bit Bool.false)) 0 (segT Try.prog 8 34))))).getD 20 (SC.bit Bool.false)) (SC.val (Go.Value.int Go.IntKind.u8 (v 20))) ∧ simC ((flat (toKs (SA.agg (grpK (fun (c : Nat) => (flat (toKs (sWh v))).getD c (SC.bit Bool.false)) 0 (segT Try.prog 8 34))))).getD 21 (SC.bit Bool.false)) (SC.val (Go.Value.int Go.IntKind.u8 (v 21))) ∧ simC ((flat (toKs (SA.agg (grpK (fun (c : Nat) => (flat (toKs (sWh v))).getD c (SC.bit Bool.false)) 0 (segT Try.prog 8 34))))).getD 22 (SC.bit Bool.false)) (SC.val (Go.Value.int Go.IntKind.u8 (v 22))) ∧ simC ((flat (toKs (SA.agg (grpK (fun (c : Nat) => (flat (toKs (sWh v))).getD c (SC.bit Bool.false)) 0 (segT Try.prog 8 34))))).getD 23 (SC.bit Bool.false)) (SC.val (Go.Value.int Go.IntKind.u8 (v 23))) ∧ simC ((flat (toKs (SA.agg (grpK (fun (c : Nat) => (flat (toKs (sWh v))).getD c (SC.bit Bool.false)) 0 (segT Try.prog 8 34))))).getD 24 (SC.bit Bool.false)) (SC.val (Go.Value.int Go.IntKind.u8 (v 24))) ∧ simC ((flat (toKs (SA.agg (grpK (fun (c : Nat) => (flat (toKs (sWh v))).getD c (SC.bit Bool.false)) 0 (segT Try.prog 8 34))))).getD 25 (SC.bit Bool.false)) (SC.val (Go.Value.int Go.IntKind.u8 (v 25))) ∧ simC ((flat (toKs (SA.agg (grpK (fun (c : Nat) => (flat (toKs (sWh v))).getD c (SC.bit Bool.false)) 0 (segT Try.prog 8 34))))).getD 26 (SC.bit Bool.false)) (SC.val (Go.Value.int Go.IntKind.u8 (v 26))) ∧ simC ((flat (toKs (SA.agg (grpK (fun (c : Nat) => (flat (toKs (sWh v))).getD c (SC.bit Bool.false)) 0 (segT Try.prog 8 34))))).getD 27 (SC.bit Bool.false)) (SC.val (Go.Value.int Go.IntKind.u8 (v 27))) ∧ simC ((flat (toKs (SA.agg (grpK (fun (c : Nat) => (flat (toKs (sWh v))).getD c (SC.bit Bool.false)) 0 (segT Try.prog 8 34))))).getD 28 (SC.bit Bool.false)) (SC.val (Go.Value.int Go.IntKind.u8 (v 28))) ∧ simC ((flat (toKs (SA.agg (grpK (fun (c : Nat) => (flat (toKs (sWh v))).getD c (SC.bit Bool.false)) 0 (segT Try.prog 8 34))))).getD 29 (SC.bit Bool.false)) (SC.val (Go.Value.int Go.IntKind.u8 (v 29))) ∧ simC ((flat (toKs (SA.agg (grpK (fun (c : Nat) => (flat (toKs (sWh v))).getD c (SC.bit Bool.false)) 0 (segT Try.prog 8 34))))).getD 30 (SC.bit Bool.false)) (SC.val (Go.Value.int Go.IntKind.u8 (v 30))) ∧ v 31 = v 31) ∧ (↑n : Int) = (↑n : Int) ∧ (0 : Int) = (↑y.fst : Int) ∧ (↑n : Int) = (↑y.snd.fst : Int) ∧ ∀ (y : Nat × Nat × Go.Addr), y.fst ≤ y.snd.fst ∧ y.snd.fst ≤ n ∧ P y.fst y.snd.fst → (Decidable.decide ((↑y.fst : Int) < (↑y.snd.fst : Int)) = Bool.true → ((0 : Int) ≤ Go.IntKind.i64.wrap ((Go.IntKind.u64.wrap (Go.IntKind.i64.wrap ((↑y.fst : Int) + (↑y.snd.fst : Int)))).fdiv (2 : Int)) ∧ Go.IntKind.i64.wrap ((Go.IntKind.u64.wrap (Go.IntKind.i64.wrap ((↑y.fst : Int) + (↑y.snd.fst : Int)))).fdiv (2 : Int)) < (↑n : Int)) ∧ ((0 : Int) ≤ limb (A (Go.IntKind.i64.wrap ((Go.IntKind.u64.wrap (Go.IntKind.i64.wrap ((↑y.fst : Int) + (↑y.snd.fst : Int)))).fdiv (2 : Int))).toNat) 0 ∧ limb (A (Go.IntKind.i64.wrap ((Go.IntKind.u64.wrap (Go.IntKind.i64.wrap ((↑y.fst : Int) + (↑y.snd.fst : Int)))).fdiv (2 : Int))).toNat) 0 < (18446744073709551616 : Int)) ∧ ((0 : Int) ≤ limb (A (Go.IntKind.i64.wrap ((Go.IntKind.u64.wrap (Go.IntKind.i64.wrap ((↑y.fst : Int) + (↑y.snd.fst : Int)))).fdiv (2 : Int))).toNat) 1 ∧ limb (A (Go.IntKind.i64.wrap ((Go.IntKind.u64.wrap (Go.IntKind.i64.wrap ((↑y.fst : Int) + (↑y.snd.fst : Int)))).fdiv (2 : Int))).toNat) 1 < (18446744073709551616 : Int)) ∧ ((0 : Int) ≤ limb (A (Go.IntKind.i64.wrap ((Go.IntKind.u64.wrap (Go.IntKind.i64.wrap ((↑y.fst : Int) + (↑y.snd.fst : Int)))).fdiv (2 : Int))).toNat) 2 ∧ limb (A (Go.IntKind.i64.wrap ((Go.IntKind.u64.wrap (Go.IntKind.i64.wrap ((↑y.fst : Int) + (↑y.snd.fst : Int)))).fdiv (2 : Int))).toNat) 2 < (18446744073709551616 : Int)) ∧ ((0 : Int) ≤ limb (A (Go.IntKind.i64.wrap ((Go.IntKind.u64.wrap (Go.IntKind.i64.wrap ((↑y.fst : Int) + (↑y.snd.fst : Int)))).fdiv (2 : Int))).toNat) 3 ∧ limb (A (Go.IntKind.i64.wrap ((Go.IntKind.u64.wrap (Go.IntKind.i64.wrap ((↑y.fst : Int) + (↑y.snd.fst : Int)))).fdiv (2 : Int))).toNat) 3 < (18446744073709551616 : Int)) ∧ (∀ (j : Nat), j < 32 → intsC (hoF W A (Go.IntKind.i64.wrap ((Go.IntKind.u64.wrap (Go.IntKind.i64.wrap ((↑y.fst : Int) + (↑y.snd.fst : Int)))).fdiv (2 : Int))).toNat (0 + j)) = intsC (hoF W A (Go.IntKind.i64.wrap ((Go.IntKind.u64.wrap (Go.IntKind.i64.wrap ((↑y.fst : Int) + (↑y.snd.fst : Int)))).fdiv (2 : Int))).toNat (0 + j))) ∧ join (limb (A (Go.IntKind.i64.wrap ((Go.IntKind.u64.wrap (Go.IntKind.i64.wrap ((↑y.fst : Int) + (↑y.snd.fst : Int)))).fdiv (2 : Int))).toNat) 0) (limb (A (Go.IntKind.i64.wrap ((Go.IntKind.u64.wrap (Go.IntKind.i64.wrap ((↑y.fst : Int) + (↑y.snd.fst : Int)))).fdiv (2 : Int))).toNat) 1) (limb (A (Go.IntKind.i64.wrap ((Go.IntKind.u64.wrap (Go.IntKind.i64.wrap ((↑y.fst : Int) + (↑y.snd.fst : Int)))).fdiv (2 : Int))).toNat) 2) (limb (A (Go.IntKind.i64.wrap ((Go.IntKind.u64.wrap (Go.IntKind.i64.wrap ((↑y.fst : Int) + (↑y.snd.fst : Int)))).fdiv (2 : Int))).toNat) 3) = join (limb (A (Go.IntKind.i64.wrap ((Go.IntKind.u64.wrap (Go.IntKind.i64.wrap ((↑y.fst : Int) + (↑y.snd.fst : Int)))).fdiv (2 : Int))).toNat) 0) (limb (A (Go.IntKind.i64.wrap ((Go.IntKind.u64.wrap (Go.IntKind.i64.wrap ((↑y.fst : Int) + (↑y.snd.fst : Int)))).fdiv (2 : Int))).toNat) 1) (limb (A (Go.IntKind.i64.wrap ((Go.IntKind.u64.wrap (Go.IntKind.i64.wrap ((↑y.fst : Int) + (↑y.snd.fst : Int)))).fdiv (2 : Int))).toNat) 2) (limb (A (Go.IntKind.i64.wrap ((Go.IntKind.u64.wrap (Go.IntKind.i64.wrap ((↑y.fst : Int) + (↑y.snd.fst : Int)))).fdiv (2 : Int))).toNat) 3) ∧ (∀ (j : Nat), j < 32 → v (0 + j) = v (0 + j)) ∧ (∀ (j : Nat), j < 32 → (0 : Int) ≤ intsC (hoF W A (Go.IntKind.i64.wrap ((Go.IntKind.u64.wrap (Go.IntKind.i64.wrap ((↑y.fst : Int) + (↑y.snd.fst : Int)))).fdiv (2 : Int))).toNat (0 + j)) ∧ intsC (hoF W A (Go.IntKind.i64.wrap ((Go.IntKind.u64.wrap (Go.IntKind.i64.wrap ((↑y.fst : Int) + (↑y.snd.fst : Int)))).fdiv (2 : Int))).toNat (0 + j)) < (256 : Int)) ∧ (∀ (j : Nat), j < 32 → (0 : Int) ≤ v (0 + j) ∧ v (0 + j) < (256 : Int)) ∧ (Decidable.decide (cmpK (kv fun (j : Nat) => intsC (hoF W A (Go.IntKind.i64.wrap ((Go.IntKind.u64.wrap (Go.IntKind.i64.wrap ((↑y.fst : Int) + (↑y.snd.fst : Int)))).fdiv (2 : Int))).toNat (0 + j))) x1 < (0 : Int)) = Bool.true → ∃ (y' : Nat × Nat × Go.Addr), (y'.fst ≤ y'.snd.fst ∧ y'.snd.fst ≤ n ∧ P y'.fst y'.snd.fst) ∧ (a = a ∧ n = n ∧ cap = cap ∧ ∀ (i : Nat), i < n → simC (hoF W A i 0) (hoF W A i 0) ∧ simC (hoF W A i 1) (hoF W A i 1) ∧ simC (hoF W A i 2) (hoF W A i 2) ∧ simC (hoF W A i 3) (hoF W A i 3) ∧ simC (hoF W A i 4) (hoF W A i 4) ∧ simC (hoF W A i 5) (hoF W A i 5) ∧ simC (hoF W A i 6) (hoF W A i 6) ∧ simC (hoF W A i 7) (hoF W A i 7) ∧ simC (hoF W A i 8) (hoF W A i 8) ∧ simC (hoF W A i 9) (hoF W A i 9) ∧ simC (hoF W A i 10) (hoF W A i 10) ∧ simC (hoF W A i 11) (hoF W A i 11) ∧ simC (hoF W A i 12) (hoF W A i 12) ∧ simC (hoF W A i 13) (hoF W A i 13) ∧ simC (hoF W A i 14) (hoF W A i 14) ∧ simC (hoF W A i 15) (hoF W A i 15) ∧ simC (hoF W A i 16) (hoF W A i 16) ∧ simC (hoF W A i 17) (hoF W A i 17) ∧ simC (hoF W A i 18) (hoF W A i 18) ∧ simC (hoF W A i 19) (hoF W A i 19) ∧ simC (hoF W A i 20) (hoF W A i 20) ∧ simC (hoF W A i 21) (hoF W A i 21) ∧ simC (hoF W A i 22) (hoF W A i 22) ∧ simC (hoF W A i 23) (hoF W A i 23) ∧ simC (hoF W A i 24) (hoF W A i 24) ∧ simC (hoF W A i 25) (hoF W A i 25) ∧ simC (hoF W A i 26) (hoF W A i 26) ∧ simC (hoF W A i 27) (hoF W A i 27) ∧ simC (hoF W A i 28) (hoF W A i 28) ∧ simC (hoF W A i 29) (hoF W A i 29) ∧ simC (hoF W A i 30) (hoF W A i 30) ∧ simC (hoF W A i 31) (hoF W A i 31) ∧ simC (hoF W A i 32) (hoF W A i 32) ∧ simC (hoF W A i 33) (hoF W A i 33) ∧ simC (hoF W A i 34) (hoF W A i 34) ∧ limb (A i) 3 = limb (A i) 3) ∧ (37 = 37 ∧ ([] : List PV) = []) ∧ (y.snd.snd = y'.snd.snd ∧ simC (SC.val (Go.Value.int Go.IntKind.u8 (v 0))) (SC.val (Go.Value.int Go.IntKind.u8 (v 0))) ∧ simC (SC.val (Go.Value.int Go.IntKind.u8 (v 1))) (SC.val (Go.Value.int Go.IntKind.u8 (v 1))) ∧ simC (SC.val (Go.Value.int Go.IntKind.u8 (v 2))) (SC.val (Go.Value.int Go.IntKind.u8 (v 2))) ∧ simC (SC.val (Go.Value.int Go.IntKind.u8 (v 3))) (SC.val (Go.Value.int Go.IntKind.u8 (v 3))) ∧ simC (SC.val (Go.Value.int Go.IntKind.u8 (v 4))) (SC.val (Go.Value.int Go.IntKind.u8 (v 4))) ∧ simC (SC.val (Go.Value.int Go.IntKind.u8 (v 5))) (SC.val (Go.Value.int Go.IntKind.u8 (v 5))) ∧ simC (SC.val (Go.Value.int Go.IntKind.u8 (v 6))) (SC.val (Go.Value.int Go.IntKind.u8 (v 6))) ∧ simC (SC.val (Go.Value.int Go.IntKind.u8 (v 7))) (SC.val (Go.Value.int Go.IntKind.u8 (v 7))) ∧ simC (SC.val (Go.Value.int Go.IntKind.u8 (v 8))) (SC.val (Go.Value.int Go.IntKind.u8 (v 8))) ∧ simC (SC.val (Go.Value.int Go.IntKind.u8 (v 9))) (SC.val (Go.Value.int Go.IntKind.u8 (v 9))) ∧ simC (SC.val (Go.Value.int Go.IntKind.u8 (v 10))) (SC.val (Go.Value.int Go.IntKind.u8 (v 10))) ∧ simC (SC.val (Go.Value.int Go.IntKind.u8 (v 11))) (SC.val (Go.Value.int Go.IntKind.u8 (v 11))) ∧ simC (SC.val (Go.Value.int Go.IntKind.u8 (v 12))) (SC.val (Go.Value.int Go.IntKind.u8 (v 12))) ∧ simC (SC.val (Go.Value.int Go.IntKind.u8 (v 13))) (SC.val (Go.Value.int Go.IntKind.u8 (v 13))) ∧ simC (SC.val (Go.Value.int Go.IntKind.u8 (v 14))) (SC.val (Go.Value.int Go.IntKind.u8 (v 14))) ∧ simC (SC.val (Go.Value.int Go.IntKind.u8 (v 15))) (SC.val (Go.Value.int Go.IntKind.u8 (v 15))) ∧ simC (SC.val (Go.Value.int Go.IntKind.u8 (v 16))) (SC.val (Go.Value.int Go.IntKind.u8 (v 16))) ∧ simC (SC.val (Go.Value.int Go.IntKind.u8 (v 17))) (SC.val (Go.Value.int Go.IntKind.u8 (v 17))) ∧ simC (SC.val (Go.Value.int Go.IntKind.u8 (v 18))) (SC.val (Go.Value.int Go.IntKind.u8 (v 18))) ∧ simC (SC.val (Go.Value.int Go.IntKind.u8 (v 19))) (SC.val (Go.Value.int Go.IntKind.u8 (v 19))) ∧ simC (SC.val (Go.Value.int Go.IntKind.u8 (v 20))) (SC.val (Go.Value.int Go.IntKind.u8 (v 20))) ∧ simC (SC.val (Go.Value.int Go.IntKind.u8 (v 21))) (SC.val (Go.Value.int Go.IntKind.u8 (v 21))) ∧ simC (SC.val (Go.Value.int Go.IntKind.u8 (v 22))) (SC.val (Go.Value.int Go.IntKind.u8 (v 22))) ∧ simC (SC.val (Go.Value.int Go.IntKind.u8 (v 23))) (SC.val (Go.Value.int Go.IntKind.u8 (v 23))) ∧ simC (SC.val (Go.Value.int Go.IntKind.u8 (v 24))) (SC.val (Go.Value.int Go.IntKind.u8 (v 24))) ∧ simC (SC.val (Go.Value.int Go.IntKind.u8 (v 25))) (SC.val (Go.Value.int Go.IntKind.u8 (v 25))) ∧ simC (SC.val (Go.Value.int Go.IntKind.u8 (v 26))) (SC.val (Go.Value.int Go.IntKind.u8 (v 26))) ∧ simC (SC.val (Go.Value.int Go.IntKind.u8 (v 27))) (SC.val (Go.Value.int Go.IntKind.u8 (v 27))) ∧ simC (SC.val (Go.Value.int Go.IntKind.u8 (v 28))) (SC.val (Go.Value.int Go.IntKind.u8 (v 28))) ∧ simC (SC.val (Go.Value.int Go.IntKind.u8 (v 29))) (SC.val (Go.Value.int Go.IntKind.u8 (v 29))) ∧ simC (SC.val (Go.Value.int Go.IntKind.u8 (v 30))) (SC.val (Go.Value.int Go.IntKind.u8 (v 30))) ∧ v 31 = v 31) ∧ (↑n : Int) = (↑n : Int) ∧ Go.IntKind.i64.wrap (Go.IntKind.i64.wrap ((Go.IntKind.u64.wrap (Go.IntKind.i64.wrap ((↑y.fst : Int) + (↑y.snd.fst : Int)))).fdiv (2 : Int)) + (1 : Int)) = (↑y'.fst : Int) ∧ (↑y.snd.fst : Int) = (↑y'.snd.fst : Int) ∧ (y'.snd.fst - y'.fst).succ.le (y.snd.fst - y.fst)) ∧ (Decidable.decide (cmpK (kv fun (j : Nat) => intsC (hoF W A (Go.IntKind.i64.wrap ((Go.IntKind.u64.wrap (Go.IntKind.i64.wrap ((↑y.fst : Int) + (↑y.snd.fst : Int)))).fdiv (2 : Int))).toNat (0 + j))) x1 < (0 : Int)) = Bool.false → ∃ (y' : Nat × Nat × Go.Addr), (y'.fst ≤ y'.snd.fst ∧ y'.snd.fst ≤ n ∧ P y'.fst y'.snd.fst) ∧ (a = a ∧ n = n ∧ cap = cap ∧ ∀ (i : Nat), i < n → simC (hoF W A i 0) (hoF W A i 0) ∧ simC (hoF W A i 1) (hoF W A i 1) ∧ simC (hoF W A i 2) (hoF W A i 2) ∧ simC (hoF W A i 3) (hoF W A i 3) ∧ simC (hoF W A i 4) (hoF W A i 4) ∧ simC (hoF W A i 5) (hoF W A i 5) ∧ simC (hoF W A i 6) (hoF W A i 6) ∧ simC (hoF W A i 7) (hoF W A i 7) ∧ simC (hoF W A i 8) (hoF W A i 8) ∧ simC (hoF W A i 9) (hoF W A i 9) ∧ simC (hoF W A i 10) (hoF W A i 10) ∧ simC (hoF W A i 11) (hoF W A i 11) ∧ simC (hoF W A i 12) (hoF W A i 12) ∧ simC (hoF W A i 13) (hoF W A i 13) ∧ simC (hoF W A i 14) (hoF W A i 14) ∧ simC (hoF W A i 15) (hoF W A i 15) ∧ simC (hoF W A i 16) (hoF W A i 16) ∧ simC (hoF W A i 17) (hoF W A i 17) ∧ simC (hoF W A i 18) (hoF W A i 18) ∧ simC (hoF W A i 19) (hoF W A i 19) ∧ simC (hoF W A i 20) (hoF W A i 20) ∧ simC (hoF W A i 21) (hoF W A i 21) ∧ simC (hoF W A i 22) (hoF W A i 22) ∧ simC (hoF W A i 23) (hoF W A i 23) ∧ simC (hoF W A i 24) (hoF W A i 24) ∧ simC (hoF W A i 25) (hoF W A i 25) ∧ simC (hoF W A i 26) (hoF W A i 26) ∧ simC (hoF W A i 27) (hoF W A i 27) ∧ simC (hoF W A i 28) (hoF W A i 28) ∧ simC (hoF W A i 29) (hoF W A i 29) ∧ simC (hoF W A i 30) (hoF W A i 30) ∧ simC (hoF W A i 31) (hoF W A i 31) ∧ simC (hoF W A i 32) (hoF W A i 32) ∧ simC (hoF W A i 33) (hoF W A i 33) ∧ simC (hoF W A i 34) (hoF W A i 34) ∧ limb (A i) 3 = limb (A i) 3) ∧ (37 = 37 ∧ ([] : List PV) = []) ∧ (y.snd.snd = y'.snd.snd ∧ simC (SC.val (Go.Value.int Go.IntKind.u8 (v 0))) (SC.val (Go.Value.int Go.IntKind.u8 (v 0))) ∧ simC (SC.val (Go.Value.int Go.IntKind.u8 (v 1))) (SC.val (Go.Value.int Go.IntKind.u8 (v 1))) ∧ simC (SC.val (Go.Value.int Go.IntKind.u8 (v 2))) (SC.val (Go.Value.int Go.IntKind.u8 (v 2))) ∧ simC (SC.val (Go.Value.int Go.IntKind.u8 (v 3))) (SC.val (Go.Value.int Go.IntKind.u8 (v 3))) ∧ simC (SC.val (Go.Value.int Go.IntKind.u8 (v 4))) (SC.val (Go.Value.int Go.IntKind.u8 (v 4))) ∧ simC (SC.val (Go.Value.int Go.IntKind.u8 (v 5))) (SC.val (Go.Value.int Go.IntKind.u8 (v 5))) ∧ simC (SC.val (Go.Value.int Go.IntKind.u8 (v 6))) (SC.val (Go.Value.int Go.IntKind.u8 (v 6))) ∧ simC (SC.val (Go.Value.int Go.IntKind.u8 (v 7))) (SC.val (Go.Value.int Go.IntKind.u8 (v 7))) ∧ simC (SC.val (Go.Value.int Go.IntKind.u8 (v 8))) (SC.val (Go.Value.int Go.IntKind.u8 (v 8))) ∧ simC (SC.val (Go.Value.int Go.IntKind.u8 (v 9))) (SC.val (Go.Value.int Go.IntKind.u8 (v 9))) ∧ simC (SC.val (Go.Value.int Go.IntKind.u8 (v 10))) (SC.val (Go.Value.int Go.IntKind.u8 (v 10))) ∧ simC (SC.val (Go.Value.int Go.IntKind.u8 (v 11))) (SC.val (Go.Value.int Go.IntKind.u8 (v 11))) ∧ simC (SC.val (Go.Value.int Go.IntKind.u8 (v 12))) (SC.val (Go.Value.int Go.IntKind.u8 (v 12))) ∧ simC (SC.val (Go.Value.int Go.IntKind.u8 (v 13))) (SC.val (Go.Value.int Go.IntKind.u8 (v 13))) ∧ simC (SC.val (Go.Value.int Go.IntKind.u8 (v 14))) (SC.val (Go.Value.int Go.IntKind.u8 (v 14))) ∧ simC (SC.val (Go.Value.int Go.IntKind.u8 (v 15))) (SC.val (Go.Value.int Go.IntKind.u8 (v 15))) ∧ simC (SC.val (Go.Value.int Go.IntKind.u8 (v 16))) (SC.val (Go.Value.int Go.IntKind.u8 (v 16))) ∧ simC (SC.val (Go.Value.int Go.IntKind.u8 (v 17))) (SC.val (Go.Value.int Go.IntKind.u8 (v 17))) ∧ simC (SC.val (Go.Value.int Go.IntKind.u8 (v 18))) (SC.val (Go.Value.int Go.IntKind.u8 (v 18))) ∧ simC (SC.val (Go.Value.int Go.IntKind.u8 (v 19))) (SC.val (Go.Value.int Go.IntKind.u8 (v 19))) ∧ simC (SC.val (Go.Value.int Go.IntKind.u8 (v 20))) (SC.val (Go.Value.int Go.IntKind.u8 (v 20))) ∧ simC (SC.val (Go.Value.int Go.IntKind.u8 (v 21))) (SC.val (Go.Value.int Go.IntKind.u8 (v 21))) ∧ simC (SC.val (Go.Value.int Go.IntKind.u8 (v 22))) (SC.val (Go.Value.int Go.IntKind.u8 (v 22))) ∧ simC (SC.val (Go.Value.int Go.IntKind.u8 (v 23))) (SC.val (Go.Value.int Go.IntKind.u8 (v 23))) ∧ simC (SC.val (Go.Value.int Go.IntKind.u8 (v 24))) (SC.val (Go.Value.int Go.IntKind.u8 (v 24))) ∧ simC (SC.val (Go.Value.int Go.IntKind.u8 (v 25))) (SC.val (Go.Value.int Go.IntKind.u8 (v 25))) ∧ simC (SC.val (Go.Value.int Go.IntKind.u8 (v 26))) (SC.val (Go.Value.int Go.IntKind.u8 (v 26))) ∧ simC (SC.val (Go.Value.int Go.IntKind.u8 (v 27))) (SC.val (Go.Value.int Go.IntKind.u8 (v 27))) ∧ simC (SC.val (Go.Value.int Go.IntKind.u8 (v 28))) (SC.val (Go.Value.int Go.IntKind.u8 (v 28))) ∧ simC (SC.val (Go.Value.int Go.IntKind.u8 (v 29))) (SC.val (Go.Value.int Go.IntKind.u8 (v 29))) ∧ simC (SC.val (Go.Value.int Go.IntKind.u8 (v 30))) (SC.val (Go.Value.int Go.IntKind.u8 (v 30))) ∧ v 31 = v 31) ∧ (↑n : Int) = (↑n : Int) ∧ (↑y.fst : Int) = (↑y'.fst : Int) ∧ Go.IntKind.i64.wrap ((Go.IntKind.u64.wrap (Go.IntKind.i64.wrap ((↑y.fst : Int) + (↑y.snd.fst : Int)))).fdiv (2 : Int)) = (↑y'.snd.fst : Int) ∧ (y'.snd.fst - y'.fst).succ.le (y.snd.fst - y.fst))) ∧ (Decidable.decide ((↑y.fst : Int) < (↑y.snd.fst : Int)) = Bool.false → (Decidable.decide ((↑y.fst : Int) < (↑n : Int)) = Bool.true → Decidable.decide ((↑y.fst : Int) < (↑n : Int)) = Bool.true) ∧ (Decidable.decide ((↑y.fst : Int) < (↑n : Int)) = Bool.true → Decidable.decide ((↑y.fst : Int) < (↑n : Int)) = Bool.true) ∧ (Decidable.decide ((↑y.fst : Int) < (↑n : Int)) = Bool.true → (0 : Int) ≤ (↑y.fst : Int) ∧ (↑y.fst : Int) < (↑n : Int)) ∧ (Decidable.decide ((↑y.fst : Int) < (↑n : Int)) = Bool.true → Decidable.decide ((↑y.fst : Int) < (↑n : Int)) = Bool.true) ∧ (Decidable.decide ((↑y.fst : Int) < (↑n : Int)) = Bool.true → Decidable.decide ((↑y.fst : Int) < (↑n : Int)) = Bool.true ∧ Decidable.decide ((↑y.fst : Int) < (↑n : Int)) = Bool.true ∧ Decidable.decide ((↑y.fst : Int) < (↑n : Int)) = Bool.true ∧ ((0 : Int) ≤ limb (A (↑y.fst : Int).toNat) 0 ∧ limb (A (↑y.fst : Int).toNat) 0 < (18446744073709551616 : Int)) ∧ ((0 : Int) ≤ limb (A (↑y.fst : Int).toNat) 1 ∧ limb (A (↑y.fst : Int).toNat) 1 < (18446744073709551616 : Int)) ∧ ((0 : Int) ≤ limb (A (↑y.fst : Int).toNat) 2 ∧ limb (A (↑y.fst : Int).toNat) 2 < (18446744073709551616 : Int)) ∧ ((0 : Int) ≤ limb (A (↑y.fst : Int).toNat) 3 ∧ limb (A (↑y.fst : Int).toNat) 3 < (18446744073709551616 : Int)) ∧ (∀ (j : Nat), j < 32 → intsC (hoF W A (↑y.fst : Int).toNat (0 + j)) = intsC (hoF W A (↑y.fst : Int).toNat (0 + j))) ∧ join (limb (A (↑y.fst : Int).toNat) 0) (limb (A (↑y.fst : Int).toNat) 1) (limb (A (↑y.fst : Int).toNat) 2) (limb (A (↑y.fst : Int).toNat) 3) = join (limb (A (↑y.fst : Int).toNat) 0) (limb (A (↑y.fst : Int).toNat) 1) (limb (A (↑y.fst : Int).toNat) 2) (limb (A (↑y.fst : Int).toNat) 3) ∧ (∀ (j : Nat), j < 32 → v (0 + j) = v (0 + j)) ∧ (∀ (j : Nat), j < 32 → (0 : Int) ≤ intsC (hoF W A (↑y.fst : Int).toNat (0 + j)) ∧ intsC (hoF W A (↑y.fst : Int).toNat (0 + j)) < (256 : Int)) ∧ (∀ (j : Nat), j < 32 → (0 : Int) ≤ v (0 + j) ∧ v (0 + j) < (256 : Int)) ∧ (↑y.fst : Int) = r ∧ (cmpK (kv fun (j : Nat) => intsC (hoF W A (↑y.fst : Int).toNat (0 + j))) x1 == (0 : Int)) = b) ∧ (Decidable.decide ((↑y.fst : Int) < (↑n : Int)) = Bool.false → (↑y.fst : Int) = r ∧ Bool.false = b))) := by kernel_rfl
end Go.Proofs.Ytdjjggomhloanaa
end

section
namespace Go.Proofs.Ytdjjggomhloanaa
open Go Go.Sx Go.RowKit
set_option maxRecDepth 100000
def posN (K : Nat → Nat) (k : Nat) : Nat → Nat
  | 0 => 0
  | n + 1 => posN K k n + (if K n < k then 1 else 0)
def isN (K : Nat → Nat) (k n : Nat) : Bool := decide (posN K k n < n) && decide (K (posN K k n) = k)
theorem posN_eq {K : Nat → Nat} {k p : Nat} : ∀ {n : Nat}, p ≤ n → (∀ i, i < p → K i < k) → (∀ i, p ≤ i → i < n → ¬ K i < k) → posN K k n = p
  | 0, h, _, _ => by rw [posN]; omega
  | n + 1, h, h1, h2 => by
    rw [posN]
    rcases Nat.lt_or_ge n p with hp | hp
    · have e : p = n + 1 := by omega
      rw [posN_eq (n := n) (p := n) (Nat.le_refl _) (fun i hi => h1 i (by omega)) (fun i hi hj => by omega), if_pos (h1 n hp), e]
    · rw [posN_eq (n := n) (p := p) hp h1 (fun i hi hj => h2 i hi (by omega)), if_neg (h2 n hp (by omega)), Nat.add_zero]
theorem posN_le (K : Nat → Nat) (k : Nat) : ∀ n, posN K k n ≤ n
  | 0 => Nat.le_refl _
  | n + 1 => by
    have := posN_le K k n
    rw [posN]
    split <;> omega
theorem ord_lt {n : Nat} {K A : Nat → Nat} (h : ordB n K A = true) {i : Nat} : ∀ {j : Nat}, i < j → j < n → K i < K j
  | 0, hij, _ => by omega
  | j + 1, hij, hj => by
    have h1 := (ordB_iff.1 h (j + 1) hj).2
    rw [Nat.add_sub_cancel] at h1
    have h1 : K j < K (j + 1) := by
      rcases h1 with h1 | h1
      · omega
      · exact h1
    rcases Nat.lt_or_ge i j with h2 | h2
    · exact Nat.lt_trans (ord_lt h h2 (by omega)) h1
    · rw [show i = j by omega]; exact h1
theorem ord_le {n : Nat} {K A : Nat → Nat} (h : ordB n K A = true) {i j : Nat} (hij : i ≤ j) (hj : j < n) : K i ≤ K j := by
  rcases Nat.lt_or_ge i j with k | k
  · exact Nat.le_of_lt (ord_lt h k hj)
  · rw [show i = j by omega]; exact Nat.le_refl _
theorem pos_lo {n : Nat} {K A : Nat → Nat} (h : ordB n K A = true) (k : Nat) : (∀ i, i < posN K k n → K i < k) ∧ ∀ i, posN K k n ≤ i → i < n → ¬ K i < k := by
  induction n with
  | zero => exact ⟨fun i hi => absurd hi (Nat.not_lt_zero _), fun i _ hi => absurd hi (Nat.not_lt_zero _)⟩
  | succ n ih =>
    obtain ⟨h1, h2⟩ := ih (ordB_mono (Nat.le_succ n) h)
    have hle := posN_le K k n
    rw [posN]
    by_cases hk : K n < k
    · rw [if_pos hk]
      have e : posN K k n = n := by
        rcases Nat.lt_or_ge (posN K k n) n with q | q
        · exact absurd (Nat.lt_of_le_of_lt (ord_le h (Nat.le_of_lt q) (Nat.lt_succ_self n)) hk) (h2 _ (Nat.le_refl _) q)
        · omega
      rw [e]
      exact ⟨fun i hi => by
        rcases Nat.lt_or_ge i n with q | q
        · exact h1 i (by omega)
        · rw [show i = n by omega]; exact hk, fun i hi hj => by omega⟩
    · rw [if_neg hk, Nat.add_zero]
      exact ⟨h1, fun i hi hj => by
        rcases Nat.lt_or_ge i n with q | q
        · exact h2 i hi q
        · rw [show i = n by omega]; exact hk⟩
theorem seg_wh : segT Try.prog (8 : Nat) (34 : Nat) = [(true, 32)] := by kernel_rfl
theorem wh_at (v : Nat → Int) {c : Nat} (h : c < 32) : (flat (toKs (sWh v))).getD c (SC.bit false) = .val (.int .u8 (v c)) := by
  have e : flat (toKs (sWh v)) = (List.range 32).map fun j => .val (.int .u8 (v j)) := by
    show flat [SK.f .u8 32 v] = _
    rw [flat, flat, List.append_nil]; rfl
  rw [e, List.getD_eq_getElem?_getD, List.getElem?_map, List.getElem?_range h]; rfl
theorem px_wh (v : Nat → Int) {k : Nat} (hk : k < 32) : (flat (toKs (SA.agg (grpK (fun c => (flat (toKs (sWh v))).getD c (SC.bit false)) 0 [(true, 32)])))).getD k (SC.bit false) = .val (.int .u8 (v k)) := by
  have e0 : kindC ((flat (toKs (sWh v))).getD 0 (SC.bit false)) = some .u8 := by rw [wh_at v (by decide)]; rfl
  have e1 : grpK (fun c => (flat (toKs (sWh v))).getD c (SC.bit false)) 0 [(true, 32)] = [.f .u8 32 fun j => intsC ((flat (toKs (sWh v))).getD (0 + j) (SC.bit false))] := by
    rw [grpK, grpK, List.append_nil, rowK]
    simp only [e0]
    rw [if_pos]
    rw [List.all_eq_true]
    intro j hj
    rw [Nat.zero_add, wh_at v (List.mem_range.1 hj)]; rfl
  rw [e1]
  have e2 : flat (toKs (SA.agg [.f .u8 32 fun j => intsC ((flat (toKs (sWh v))).getD (0 + j) (SC.bit false))])) = (List.range 32).map fun j => .val (.int .u8 (intsC ((flat (toKs (sWh v))).getD (0 + j) (SC.bit false)))) := by
    show flat [SK.f .u8 32 _] = _
    rw [flat, flat, List.append_nil]; rfl
  rw [e2, List.getD_eq_getElem?_getD, List.getElem?_map, List.getElem?_range hk, Option.map_some, Option.getD_some, Nat.zero_add, wh_at v hk]
  exact rfl
theorem px_wh' (v : Nat → Int) : ∃ L, L = flat (toKs (SA.agg (grpK (fun c => (flat (toKs (sWh v))).getD c (SC.bit false)) 0 [(true, 32)]))) ∧ ∀ k, k < 32 → L.getD k (SC.bit false) = .val (.int .u8 (v k)) := ⟨_, rfl, fun _ hk => px_wh v hk⟩
theorem mid_eq {i j : Nat} (h : i ≤ j) (hj : j ≤ maxLen) : IntKind.i64.wrap ((IntKind.u64.wrap (IntKind.i64.wrap ((i : Int) + (j : Int)))).fdiv 2) = (((i + j) / 2 : Nat) : Int) := by
  have hML : maxLen = 9223372036854775807 := rfl
  have e : IntKind.u64.wrap (IntKind.i64.wrap ((i : Int) + (j : Int))) = ((i + j : Nat) : Int) := by
    rw [IntKind.wrap_i64, IntKind.wrap_u64]; omega
  rw [e, Int.fdiv_eq_ediv_of_nonneg _ (by decide), IntKind.wrap_i64]
  omega
theorem cmpK_lt {a b : Nat} : cmpK a b < 0 ↔ a < b := by
  unfold cmpK
  by_cases h : a < b
  · rw [if_pos h]; omega
  · rw [if_neg h]
    by_cases k : b < a
    · rw [if_pos k]; omega
    · rw [if_neg k]; omega
theorem cmpK_eq (a b : Nat) : (cmpK a b == 0) = decide (a = b) := by
  unfold cmpK
  by_cases h : a < b
  · rw [if_pos h, decide_eq_false (by omega)]; rfl
  · rw [if_neg h]
    by_cases k : b < a
    · rw [if_pos k, decide_eq_false (by omega)]; rfl
    · rw [if_neg k, decide_eq_true (by omega)]; rfl
abbrev pFi (n : Nat) (K : Nat → Nat) (k i j : Nat) : Prop := (∀ x, x < i → K x < k) ∧ ∀ x, j ≤ x → x < n → ¬ K x < k
theorem ok_fi (a : Option Addr) (n cap : Nat) (W : Nat → Nat → Int) (A : Nat → Nat) (v : Nat → Int) (h : hoP a n W A) (ho : ordB n (fun i => kv (W i)) A = true) (hv : by32 v) :
    OwesR Try.prog cx17 slBs [((42 + 1) * 100000 + 3, .inv (invBs a n cap W A v (pFi n (fun i => kv (W i)) (kv v))))] 10 Try.f35 [sHs a n cap W A, sWh v] false
      [.v (sI .i64 (posN (fun i => kv (W i)) (kv v) n : Nat)), .v (sB (isN (fun i => kv (W i)) (kv v) n))] := by
  obtain ⟨r, hr⟩ : ∃ r : Int, r = (posN (fun i => kv (W i)) (kv v) n : Nat) := ⟨_, rfl⟩
  obtain ⟨b, hb⟩ : ∃ b, b = isN (fun i => kv (W i)) (kv v) n := ⟨_, rfl⟩
  obtain ⟨L, hL, hk⟩ := px_wh' v
  rw [← hr, ← hb, vc_fi, seg_wh, ← hL]
  clear hL
  intro x1 a1 a2
  have e1 : x1 = kv v := kv_congr fun j _ => by rw [Nat.zero_add]
  clear_value x1
  rw [e1]
  clear e1 x1
  have z := sim_ho W A
  have zv : ∀ x : Int, simC (.val (.int .u8 x)) (.val (.int .u8 x)) := fun _ => rfl
  have hML : maxLen = 9223372036854775807 := rfl
  have hv2 : ∀ j, j < 32 → 0 ≤ v (0 + j) ∧ v (0 + j) < 256 := fun j hj => by rw [Nat.zero_add]; exact hv j hj
  simp only [eq_self, implies_true, and_self, true_and, and_true, imp_self, z, zv, lb_in, Int.toNat_natCast, kv_ho, cmpK_eq]
  refine ⟨fun _ => rfl, ?_⟩
  refine ⟨⟨0, n, a2⟩, ?_⟩
  refine ⟨?_, ?_⟩
  · refine ⟨?_, ?_⟩
    · exact Nat.zero_le _
    · refine ⟨?_, ?_⟩
      · exact Nat.le_refl _
      · refine ⟨?_, ?_⟩
        · intro x hx
          exact absurd hx (Nat.not_lt_zero _)
        · intro x hx hx'
          have hx : n ≤ x := hx
          omega
  refine ⟨?_, rfl, rfl, fun y hy => ?_⟩
  · simp only [hk 0 (by decide), hk 1 (by decide), hk 2 (by decide), hk 3 (by decide), hk 4 (by decide), hk 5 (by decide), hk 6 (by decide), hk 7 (by decide), hk 8 (by decide), hk 9 (by decide), hk 10 (by decide), hk 11 (by decide), hk 12 (by decide), hk 13 (by decide), hk 14 (by decide), hk 15 (by decide), hk 16 (by decide), hk 17 (by decide), hk 18 (by decide), hk 19 (by decide), hk 20 (by decide), hk 21 (by decide), hk 22 (by decide), hk 23 (by decide), hk 24 (by decide), hk 25 (by decide), hk 26 (by decide), hk 27 (by decide), hk 28 (by decide), hk 29 (by decide), hk 30 (by decide), zv, and_self]
  obtain ⟨i, j, c⟩ := y
  obtain ⟨y1, y2, y3, y4⟩ := hy
  simp only at y1 y2 y3 y4 ⊢
  rw [mid_eq y1 (by have := h.hn; omega), Int.toNat_natCast]
  refine ⟨fun hl => ?_, fun hl => ?_⟩
  · have hl := of_decide_eq_true hl
    have hl : i < j := by omega
    obtain ⟨m, hm⟩ : ∃ m, m = (i + j) / 2 := ⟨_, rfl⟩
    rw [← hm]
    have m1 : i ≤ m := by omega
    have m2 : m < j := by omega
    have m3 : m < n := by omega
    refine ⟨⟨by omega, by omega⟩, by_ho (h.hw m m3), hv2, fun hd => ⟨⟨m + 1, j, c⟩, ?_⟩, fun hd => ⟨⟨i, m, c⟩, ?_⟩⟩
    · have hd := cmpK_lt.1 (of_decide_eq_true hd)
      refine ⟨⟨?_, y2, ?_, y4⟩, rfl, ?_, rfl, ?_⟩
      · show m + 1 ≤ j; omega
      · intro x hx
        have hx : x < m + 1 := hx
        exact Nat.lt_of_le_of_lt (ord_le ho (by omega) m3) hd
      · exact w_succ m3 h.hn
      · show j - (m + 1) + 1 ≤ j - i; omega
    · have hd := of_decide_eq_false hd
      rw [cmpK_lt] at hd
      refine ⟨⟨m1, ?_, y3, ?_⟩, rfl, rfl, rfl, ?_⟩
      · show m ≤ n; omega
      · intro x hx hx'
        have hx : m ≤ x := hx
        exact fun q => hd (Nat.lt_of_le_of_lt (ord_le ho hx hx') q)
      · show m - i + 1 ≤ j - i; omega
  · have hl := of_decide_eq_false hl
    have e : j = i := by omega
    subst e
    have hp : posN (fun i => kv (W i)) (kv v) n = j := posN_eq y2 y3 y4
    refine ⟨fun hd => ?_, fun hd => ⟨hd, hd, hd, ?_, hv2, ?_, ?_⟩, fun hd => ⟨?_, ?_⟩⟩
    · have hd := of_decide_eq_true hd
      exact ⟨by omega, hd⟩
    · have hd := of_decide_eq_true hd
      exact by_ho (h.hw j (by omega))
    · rw [hr, hp]
    · have hd := of_decide_eq_true hd
      rw [hb]; unfold isN; rw [hp, decide_eq_true (by omega : j < n), Bool.true_and]
    · rw [hr, hp]
    · have hd := of_decide_eq_false hd
      rw [hb]; unfold isN; rw [hp, decide_eq_false (by omega : ¬ j < n), Bool.false_and]
structure fiP (a : Option Addr) (n : Nat) (f : Nat → Nat → SC) (v : Nat → Int) : Prop where
  f1 : hkP a n f
  f2 : ordB n (kH f) (aH f) = true
  f3 : by32 v
def fiC : List (List FD) → List Prop
  | [[.x a n _ f], [.y v]] => [fiP a n f v]
  | _ => [False]
def fiG : List (List FD) → List RS
  | [[.x _ n _ f], [.y v]] => [.v (sI .i64 (posN (kH f) (kv v) n : Nat)), .v (sB (isN (kH f) (kv v) n))]
  | _ => []
def cFi : SSpec := specQ0 false [.one (.x 36), .st [.y 32]] fiC fiG
theorem okx_17 : CxOK Try.prog cx17 := okx_mark (okx_mark (okx_mark (okx_mark (okx_mark (okx_mark okx_nil)))))
theorem oks_Bs : ∀ p ∈ slBs, FnOKs Try.prog cx17.gl p.1 p.2 := oks_cons card_ag oks_nil
theorem card_fi {gl : Globs} : FnOKs Try.prog gl 35 cFi := by
  refine FnOKs.up0 (FnOKs_R0 (cx := cx17) okx_17 (sl := slBs) oks_Bs Try.func35 (by kernel_rfl) (by kernel_rfl) fun ls hc => ?_) gl
  unfold fiC at hc
  split at hc
  · rename_i a n cap f v
    obtain ⟨p, _⟩ := hc
    refine ⟨_, _, [sHs a n cap (kOf f) (aH f), sWh v], fun _ => rfl, fun E hE => ?_, fun r hr => ?_, ok_fi a n cap (kOf f) (aH f) v (hk_hoP p.f1) p.f2 p.f3⟩
    · intro z hz
      simp only [List.mem_cons, List.not_mem_nil, or_false] at hz
      rcases hz with rfl | rfl
      · exact hk_bnd p.f1 (hE _ (List.mem_cons_self ..))
      · exact hE _ (List.mem_cons_of_mem _ (List.mem_cons_self ..))
    · unfold fiG at hr
      simp only [List.mem_cons, List.not_mem_nil, or_false] at hr
      rcases hr with rfl | rfl <;> exact trivial
  · exact hc.1.elim
end Go.Proofs.Ytdjjggomhloanaa
end

section
namespace Go.Proofs.Ytdjjggomhloanaa
open Go Go.Sx Go.RowKit
set_option maxRecDepth 100000
def hldN (n : Nat) (K A : Nat → Nat) (k : Nat) : Nat := if isN K k n = true then A (posN K k n) else 0
def slAm : List (Nat × SSpec) := [(35, cFi)]
def amG : List (List FD) → List RS
  | [[.x _ n _ f], [.y v]] => [.v (sU (hldN n (kH f) (aH f) (kv v)))]
  | _ => []
def cAm : SSpec := specQ0 false [.one (.x 36), .st [.y 32]] fiC amG
def slOf : List (Nat × SSpec) := [(12, cCn), (24, cAm)]
theorem vc_am (a : Option Addr) (n cap : Nat) (W : Nat → Nat → Int) (A : Nat → Nat) (v : Nat → Int) (r : Nat) :
    OwesR Try.prog cx14 slAm [] 10 Try.f24 [sHs a n cap W A, sWh v] false [.v (sU r)] =
    (let x1 : Int := (↑(posN (kH (hoF W A)) (kv v) n) : Int); let x2 : Int := limb (A x1.toNat) 0; let x3 : Int := limb (A x1.toNat) 1; let x4 : Int := limb (A x1.toNat) 2; let x5 : Int := limb (A x1.toNat) 3; let x6 : Nat := r % M256; fiP a n (hoF W A) v ∧ (isN (kH (hoF W A)) (kv v) n = Bool.true → ((0 : Int) ≤ x1 ∧ x1 < (↑n : Int)) ∧ ((0 : Int) ≤ x2 ∧ x2 < (18446744073709551616 : Int)) ∧ ((0 : Int) ≤ x3 ∧ x3 < (18446744073709551616 : Int)) ∧ ((0 : Int) ≤ x4 ∧ x4 < (18446744073709551616 : Int)) ∧ ((0 : Int) ≤ x5 ∧ x5 < (18446744073709551616 : Int)) ∧ join x2 x3 x4 x5 % M256 = x6 ∧ True) ∧ (isN (kH (hoF W A)) (kv v) n = Bool.false → 0 = x6 ∧ True)) := by kernel_rfl
theorem vc_of (s : Nat) (a : Option Addr) (n cap : Nat) (W : Nat → Nat → Int) (A : Nat → Nat) (v : Nat → Int) (r : Nat) (e : Int) :
    OwesR Try.prog cx14 slOf [] 10 Try.f8 [sCn s a n cap W A, sWh v] false [.v (sU r), .v (sI .i64 e)] =
    (let x1 : Int := cnE n (kH (hoF W A)) (aH (hoF W A)) (s % M256); let x2 : Nat := r % M256; hkP a n (hoF W A) ∧ ((x1 != (0 : Int)) = Bool.true → (0 = x2 ∧ True) ∧ x1 = e) ∧ ((x1 != (0 : Int)) = Bool.false → fiP a n (hoF W A) v ∧ (hldN n (kH (hoF W A)) (aH (hoF W A)) (kv v) % M256 = x2 ∧ True) ∧ (0 : Int) = e)) := by kernel_rfl
end Go.Proofs.Ytdjjggomhloanaa
end

section
namespace Go.Proofs.Ytdjjggomhloanaa
open Go Go.Sx Go.RowKit
set_option maxRecDepth 100000
theorem fi_ho {a : Option Addr} {n : Nat} {W : Nat → Nat → Int} {A : Nat → Nat} {v : Nat → Int} (h : hoP a n W A) (ho : ordB n (fun i => kv (W i)) A = true) (hv : by32 v) : fiP a n (hoF W A) v :=
  ⟨hk_ho h, by rw [ordB_ho h]; exact ho, hv⟩
theorem is_lt {K : Nat → Nat} {k n : Nat} (h : isN K k n = true) : posN K k n < n ∧ K (posN K k n) = k := by
  unfold isN at h
  rwa [Bool.and_eq_true, decide_eq_true_eq, decide_eq_true_eq] at h
theorem hld_congr {n k : Nat} {K A A' : Nat → Nat} (h : ∀ i, i < n → A i = A' i) : hldN n K A k = hldN n K A' k := by
  unfold hldN
  by_cases q : isN K k n = true
  · rw [if_pos q, if_pos q, h _ (is_lt q).1]
  · rw [if_neg q, if_neg q]
theorem hld_ho {a : Option Addr} {n : Nat} {W : Nat → Nat → Int} {A : Nat → Nat} (h : hoP a n W A) (k : Nat) : hldN n (kH (hoF W A)) (aH (hoF W A)) k = hldN n (fun i => kv (W i)) A k := by
  rw [kH_f]; exact hld_congr (aH_lt h)
theorem cn_0 {n s : Nat} {K A : Nat → Nat} (h : cnE n K A s = 0) : n ≤ 40 ∧ ordB n K A = true ∧ sumN A n = s := by
  unfold cnE at h
  by_cases q : 40 < n
  · rw [if_pos q] at h; cases h
  · rw [if_neg q] at h
    by_cases t : ordB n K A = true ∧ sumN A n = s
    · exact ⟨by omega, t.1, t.2⟩
    · rw [if_neg t] at h; cases h
theorem cn_ho {a : Option Addr} {n : Nat} {W : Nat → Nat → Int} {A : Nat → Nat} (h : hoP a n W A) (s : Nat) : cnE n (kH (hoF W A)) (aH (hoF W A)) s = cnE n (fun i => kv (W i)) A s :=
  cnE_congr (fun i _ => kH_ho W A i) (aH_lt h)
theorem ok_am (a : Option Addr) (n cap : Nat) (W : Nat → Nat → Int) (A : Nat → Nat) (v : Nat → Int) (h : hoP a n W A) (ho : ordB n (fun i => kv (W i)) A = true) (hv : by32 v) :
    OwesR Try.prog cx14 slAm [] 10 Try.f24 [sHs a n cap W A, sWh v] false [.v (sU (hldN n (fun i => kv (W i)) A (kv v)))] := by
  obtain ⟨r, hr⟩ : ∃ r, r = hldN n (fun i => kv (W i)) A (kv v) := ⟨_, rfl⟩
  rw [← hr, vc_am]
  intro x1 x2 x3 x4 x5 x6
  have e1 : x1 = (posN (fun i => kv (W i)) (kv v) n : Nat) := by show ((posN (kH (hoF W A)) (kv v) n : Nat) : Int) = _; rw [kH_f]
  have ej : join x2 x3 x4 x5 = A x1.toNat % M256 := join_limbs _
  have e2 : 0 ≤ x2 ∧ x2 < 18446744073709551616 := ⟨limb_nonneg _ _, limb_lt _ _⟩
  have e3 : 0 ≤ x3 ∧ x3 < 18446744073709551616 := ⟨limb_nonneg _ _, limb_lt _ _⟩
  have e4 : 0 ≤ x4 ∧ x4 < 18446744073709551616 := ⟨limb_nonneg _ _, limb_lt _ _⟩
  have e5 : 0 ≤ x5 ∧ x5 < 18446744073709551616 := ⟨limb_nonneg _ _, limb_lt _ _⟩
  have e6 : x6 = r % M256 := rfl
  clear_value x2 x3 x4 x5 x1 x6
  rw [kH_f, ej, e6, hr, e1, Int.toNat_natCast]
  unfold hldN
  refine ⟨fi_ho h ho hv, fun hi => ?_, fun hi => ?_⟩
  · obtain ⟨p1, p2⟩ := is_lt hi
    rw [if_pos hi, Nat.mod_mod]
    exact ⟨⟨by omega, by omega⟩, e2, e3, e4, e5, rfl, trivial⟩
  · rw [if_neg (by rw [hi]; decide), Nat.zero_mod]
    exact ⟨rfl, trivial⟩
theorem oks_Am : ∀ p ∈ slAm, FnOKs Try.prog cx14.gl p.1 p.2 := oks_cons card_fi oks_nil
theorem card_am {gl : Globs} : FnOKs Try.prog gl 24 cAm := by
  refine FnOKs.up0 (FnOKs_R0 (cx := cx14) okx_14 (sl := slAm) oks_Am Try.func24 (by kernel_rfl) (by kernel_rfl) fun ls hc => ?_) gl
  unfold fiC at hc
  split at hc
  · rename_i a n cap f v
    obtain ⟨p, _⟩ := hc
    refine ⟨_, _, [sHs a n cap (kOf f) (aH f), sWh v], fun _ => rfl, fun E hE => ?_, fun r hr => ?_, ok_am a n cap (kOf f) (aH f) v (hk_hoP p.f1) p.f2 p.f3⟩
    · intro z hz
      simp only [List.mem_cons, List.not_mem_nil, or_false] at hz
      rcases hz with rfl | rfl
      · exact hk_bnd p.f1 (hE _ (List.mem_cons_self ..))
      · exact hE _ (List.mem_cons_of_mem _ (List.mem_cons_self ..))
    · rw [List.mem_singleton.1 hr]; exact bnd_Un _
  · exact hc.1.elim
def ofN (n : Nat) (K A : Nat → Nat) (s k : Nat) : Nat := if cnE n K A s = 0 then hldN n K A k else 0
theorem bne_0 {x : Int} (h : (x != 0) = true) : ¬ x = 0 := by simpa using h
theorem bne_1 {x : Int} (h : (x != 0) = false) : x = 0 := by simpa using h
theorem ok_of (s : Nat) (a : Option Addr) (n cap : Nat) (W : Nat → Nat → Int) (A : Nat → Nat) (v : Nat → Int) (h : hoP a n W A) (hv : by32 v) :
    OwesR Try.prog cx14 slOf [] 10 Try.f8 [sCn s a n cap W A, sWh v] false [.v (sU (ofN n (fun i => kv (W i)) A (s % M256) (kv v))), .v (sI .i64 (cnE n (fun i => kv (W i)) A (s % M256)))] := by
  obtain ⟨r, hr⟩ : ∃ r, r = ofN n (fun i => kv (W i)) A (s % M256) (kv v) := ⟨_, rfl⟩
  obtain ⟨e, he⟩ : ∃ e, e = cnE n (fun i => kv (W i)) A (s % M256) := ⟨_, rfl⟩
  rw [← hr, ← he, vc_of]
  intro x1 x2
  have e1 : x1 = e := by show cnE n (kH (hoF W A)) (aH (hoF W A)) (s % M256) = _; rw [cn_ho h, he]
  have e2 : x2 = r % M256 := rfl
  clear_value x1 x2
  rw [e1, e2, hr, hld_ho h]
  unfold ofN
  refine ⟨hk_ho h, fun h0 => ?_, fun h0 => ?_⟩
  · rw [he] at h0
    rw [if_neg (bne_0 h0), Nat.zero_mod]
    exact ⟨⟨rfl, trivial⟩, rfl⟩
  · have h0 := bne_1 h0
    rw [he] at h0
    rw [if_pos h0]
    exact ⟨fi_ho h (cn_0 h0).2.1 hv, ⟨rfl, trivial⟩, by rw [he, h0]⟩
structure ofP (a : Option Addr) (n : Nat) (f : Nat → Nat → SC) (v : Nat → Int) : Prop where
  o1 : hkP a n f
  o2 : by32 v
def ofC : List (List FD) → List Prop
  | [[.u _, .x a n _ f], [.y v]] => [ofP a n f v]
  | _ => [False]
def ofG : List (List FD) → List RS
  | [[.u s, .x _ n _ f], [.y v]] => [.v (sU (ofN n (kH f) (aH f) (s % M256) (kv v))), .v (sI .i64 (cnE n (kH f) (aH f) (s % M256)))]
  | _ => []
def cOf : SSpec := specQ0 false [.st [.u, .x 36], .st [.y 32]] ofC ofG
theorem oks_Of : ∀ p ∈ slOf, FnOKs Try.prog cx14.gl p.1 p.2 := oks_cons card_ck (oks_cons card_am oks_nil)
theorem card_of {gl : Globs} : FnOKs Try.prog gl 8 cOf := by
  refine FnOKs.up0 (FnOKs_R0 (cx := cx14) okx_14 (sl := slOf) oks_Of Try.func8 (by kernel_rfl) (by kernel_rfl) fun ls hc => ?_) gl
  unfold ofC at hc
  split at hc
  · rename_i s a n cap f v
    obtain ⟨p, _⟩ := hc
    refine ⟨_, _, [sCn s a n cap (kOf f) (aH f), sWh v], fun _ => rfl, fun E hE => ?_, fun r hr => ?_, ok_of s a n cap (kOf f) (aH f) v (hk_hoP p.o1) p.o2⟩
    · intro z hz
      simp only [List.mem_cons, List.not_mem_nil, or_false] at hz
      rcases hz with rfl | rfl
      · exact cn_bnd p.o1 (hE _ (List.mem_cons_self ..))
      · exact hE _ (List.mem_cons_of_mem _ (List.mem_cons_self ..))
    · unfold ofG at hr
      simp only [List.mem_cons, List.not_mem_nil, or_false] at hr
      rcases hr with rfl | rfl
      · exact bnd_Un _
      · exact trivial
  · exact hc.1.elim
end Go.Proofs.Ytdjjggomhloanaa
end
