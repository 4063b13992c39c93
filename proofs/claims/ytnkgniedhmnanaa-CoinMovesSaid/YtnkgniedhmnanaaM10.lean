/-
  Texts: V161, P261, Tex, TexQ, DgA, V60, P100, P101, V61.
-/
import Derived.Test.YtnkgniedhmnanaaM1
import Derived.Test.YtnkgniedhmnanaaM2
import Derived.Test.YtnkgniedhmnanaaM3
import Derived.Test.YtnkgniedhmnanaaM4
import Derived.Test.YtnkgniedhmnanaaM5
import Derived.Test.YtnkgniedhmnanaaM6
import Derived.Test.YtnkgniedhmnanaaM7
import Derived.Test.YtnkgniedhmnanaaM8
import Derived.Test.YtnkgniedhmnanaaM9
import Derived.Test.YtnkgniedhmnanaaProg
section
namespace Go.Proofs.Ytnkgniedhmnanaa
open Go.Sx
set_option maxRecDepth 100000
def hoF (W : Nat → Nat → Int) (A : Nat → Nat) (i c : Nat) : SC :=
  match Nat.blt c 32 with
  | true => .val (.int .u8 (W i c))
  | false => match Nat.sub c 32 with
    | 0 => .val (.int .u64 (limb (A i) 0))
    | 1 => .val (.int .u64 (limb (A i) 1))
    | 2 => .val (.int .u64 (limb (A i) 2))
    | _ => .val (.int .u64 (limb (A i) 3))
def sHs (a : Option Addr) (n cap : Nat) (W : Nat → Nat → Int) (A : Nat → Nat) : SA := .sc (.xs a n cap 36 (hoF W A))
def sCn (s : Nat) (a : Option Addr) (n cap : Nat) (W : Nat → Nat → Int) (A : Nat → Nat) : SA := .agg [.u s, .c (.xs a n cap 36 (hoF W A))]
def invOr (a : Option Addr) (n cap : Nat) (W : Nat → Nat → Int) (A : Nat → Nat) (P : Nat → Prop) : Inv where
  X := Nat
  tm i := slotsAt 30 [(0, .one (sHs a n cap W A)), (5, .one (sHs a n cap W A)), (6, .one (sI .i64 (n : Int))), (7, .one (sI .i64 (i : Int)))]
  ob _ := []
  holds i := i ≤ n ∧ P i
  less i := n - i
def slOr : List (Nat × SSpec) := [(35, cAg)]
def invTo (a : Option Addr) (n cap : Nat) (W : Nat → Nat → Int) (A : Nat → Nat) (S : Nat → Nat) (P : Nat → Prop) : Inv where
  X := Nat
  tm i := slotsAt 27 [(0, .one (sHs a n cap W A)), (2, .one (.sc (.ptr 0 0))), (4, .one (.sc (.ptr 1 0))), (9, .one (sHs a n cap W A)), (10, .one (sI .i64 (n : Int))), (11, .one (sI .i64 (i : Int)))]
  ob i := [.cells 24 [.u 0] 0, .cells 24 [.u (S i)] 0]
  holds i := i ≤ n ∧ P i
  less i := n - i
def cxTo : Cx := [(29, specUU addG)]
def cx14 : Cx := ⟨[(1000000014, fun _ => none)], [], 0, []⟩
theorem vc_or (a : Option Addr) (n cap : Nat) (W : Nat → Nat → Int) (A : Nat → Nat) (P : Nat → Prop) (r : Bool) :
    OwesR Try.prog cx14 slOr [(2, .inv (invOr a n cap W A P))] 10 Try.f19 [sHs a n cap W A] false [.v (sB r)] =
    ((∀ (y : Nat), closedB (slotsAt 30 [(0, SV.one (sHs a n cap W A)), (5, SV.one (sHs a n cap W A)), (6, SV.one (sI Go.IntKind.i64 (↑n : Int))), (7, SV.one (sI Go.IntKind.i64 (↑y : Int)))]) [] = Bool.true) ∧ ∃ (y : Nat), (y ≤ n ∧ P y) ∧ (a = a ∧ n = n ∧ cap = cap ∧ ∀ (i : Nat), i < n → simC (hoF W A i 0) (hoF W A i 0) ∧ simC (hoF W A i 1) (hoF W A i 1) ∧ simC (hoF W A i 2) (hoF W A i 2) ∧ simC (hoF W A i 3) (hoF W A i 3) ∧ simC (hoF W A i 4) (hoF W A i 4) ∧ simC (hoF W A i 5) (hoF W A i 5) ∧ simC (hoF W A i 6) (hoF W A i 6) ∧ simC (hoF W A i 7) (hoF W A i 7) ∧ simC (hoF W A i 8) (hoF W A i 8) ∧ simC (hoF W A i 9) (hoF W A i 9) ∧ simC (hoF W A i 10) (hoF W A i 10) ∧ simC (hoF W A i 11) (hoF W A i 11) ∧ simC (hoF W A i 12) (hoF W A i 12) ∧ simC (hoF W A i 13) (hoF W A i 13) ∧ simC (hoF W A i 14) (hoF W A i 14) ∧ simC (hoF W A i 15) (hoF W A i 15) ∧ simC (hoF W A i 16) (hoF W A i 16) ∧ simC (hoF W A i 17) (hoF W A i 17) ∧ simC (hoF W A i 18) (hoF W A i 18) ∧ simC (hoF W A i 19) (hoF W A i 19) ∧ simC (hoF W A i 20) (hoF W A i 20) ∧ simC (hoF W A i 21) (hoF W A i 21) ∧ simC (hoF W A i 22) (hoF W A i 22) ∧ simC (hoF W A i 23) (hoF W A i 23) ∧ simC (hoF W A i 24) (hoF W A i 24) ∧ simC (hoF W A i 25) (hoF W A i 25) ∧ simC (hoF W A i 26) (hoF W A i 26) ∧ simC (hoF W A i 27) (hoF W A i 27) ∧ simC (hoF W A i 28) (hoF W A i 28) ∧ simC (hoF W A i 29) (hoF W A i 29) ∧ simC (hoF W A i 30) (hoF W A i 30) ∧ simC (hoF W A i 31) (hoF W A i 31) ∧ simC (hoF W A i 32) (hoF W A i 32) ∧ simC (hoF W A i 33) (hoF W A i 33) ∧ simC (hoF W A i 34) (hoF W A i 34) ∧ limb (A i) 3 = limb (A i) 3) ∧ (a = a ∧ n = n ∧ cap = cap ∧ ∀ (i : Nat), i < n → simC (hoF W A i 0) (hoF W A i 0) ∧ simC (hoF W A i 1) (hoF W A i 1) ∧ simC (hoF W A i 2) (hoF W A i 2) ∧ simC (hoF W A i 3) (hoF W A i 3) ∧ simC (hoF W A i 4) (hoF W A i 4) ∧ simC (hoF W A i 5) (hoF W A i 5) ∧ simC (hoF W A i 6) (hoF W A i 6) ∧ simC (hoF W A i 7) (hoF W A i 7) ∧ simC (hoF W A i 8) (hoF W A i 8) ∧ simC (hoF W A i 9) (hoF W A i 9) ∧ simC (hoF W A i 10) (hoF W A i 10) ∧ simC (hoF W A i 11) (hoF W A i 11) ∧ simC (hoF W A i 12) (hoF W A i 12) ∧ simC (hoF W A i 13) (hoF W A i 13) ∧ simC (hoF W A i 14) (hoF W A i 14) ∧ simC (hoF W A i 15) (hoF W A i 15) ∧ simC (hoF W A i 16) (hoF W A i 16) ∧ simC (hoF W A i 17) (hoF W A i 17) ∧ simC (hoF W A i 18) (hoF W A i 18) ∧ simC (hoF W A i 19) (hoF W A i 19) ∧ simC (hoF W A i 20) (hoF W A i 20) ∧ simC (hoF W A i 21) (hoF W A i 21) ∧ simC (hoF W A i 22) (hoF W A i 22) ∧ simC (hoF W A i 23) (hoF W A i 23) ∧ simC (hoF W A i 24) (hoF W A i 24) ∧ simC (hoF W A i 25) (hoF W A i 25) ∧ simC (hoF W A i 26) (hoF W A i 26) ∧ simC (hoF W A i 27) (hoF W A i 27) ∧ simC (hoF W A i 28) (hoF W A i 28) ∧ simC (hoF W A i 29) (hoF W A i 29) ∧ simC (hoF W A i 30) (hoF W A i 30) ∧ simC (hoF W A i 31) (hoF W A i 31) ∧ simC (hoF W A i 32) (hoF W A i 32) ∧ simC (hoF W A i 33) (hoF W A i 33) ∧ simC (hoF W A i 34) (hoF W A i 34) ∧ limb (A i) 3 = limb (A i) 3) ∧ (↑n : Int) = (↑n : Int) ∧ (0 : Int) = (↑y : Int) ∧ ∀ (y : Nat), y ≤ n ∧ P y → (Decidable.decide ((↑y : Int) < (↑n : Int)) = Bool.true → ((0 : Int) ≤ (↑y : Int) ∧ (↑y : Int) < (↑n : Int)) ∧ (conj [limb (A (↑y : Int).toNat) 0 == (0 : Int), limb (A (↑y : Int).toNat) 1 == (0 : Int), limb (A (↑y : Int).toNat) 2 == (0 : Int), limb (A (↑y : Int).toNat) 3 == (0 : Int)] = Bool.true → Bool.false = r) ∧ (conj [limb (A (↑y : Int).toNat) 0 == (0 : Int), limb (A (↑y : Int).toNat) 1 == (0 : Int), limb (A (↑y : Int).toNat) 2 == (0 : Int), limb (A (↑y : Int).toNat) 3 == (0 : Int)] = Bool.false → (Decidable.decide ((↑y : Int) > (0 : Int)) = Bool.true → Decidable.decide ((↑y : Int) > (0 : Int)) = Bool.true) ∧ (Decidable.decide ((↑y : Int) > (0 : Int)) = Bool.true → Decidable.decide ((↑y : Int) > (0 : Int)) = Bool.true) ∧ (Decidable.decide ((↑y : Int) > (0 : Int)) = Bool.true → Decidable.decide ((↑y : Int) > (0 : Int)) = Bool.true) ∧ (Decidable.decide ((↑y : Int) > (0 : Int)) = Bool.true → (0 : Int) ≤ Go.IntKind.i64.wrap ((↑y : Int) - (1 : Int)) ∧ Go.IntKind.i64.wrap ((↑y : Int) - (1 : Int)) < (↑n : Int)) ∧ (Decidable.decide ((↑y : Int) > (0 : Int)) = Bool.true → Decidable.decide ((↑y : Int) > (0 : Int)) = Bool.true) ∧ (Decidable.decide ((↑y : Int) > (0 : Int)) = Bool.true → Decidable.decide ((↑y : Int) > (0 : Int)) = Bool.true) ∧ (Decidable.decide ((↑y : Int) > (0 : Int)) = Bool.true → Decidable.decide ((↑y : Int) > (0 : Int)) = Bool.true ∧ Decidable.decide ((↑y : Int) > (0 : Int)) = Bool.true ∧ ((0 : Int) ≤ limb (A (Go.IntKind.i64.wrap ((↑y : Int) - (1 : Int))).toNat) 0 ∧ limb (A (Go.IntKind.i64.wrap ((↑y : Int) - (1 : Int))).toNat) 0 < (18446744073709551616 : Int)) ∧ ((0 : Int) ≤ limb (A (Go.IntKind.i64.wrap ((↑y : Int) - (1 : Int))).toNat) 1 ∧ limb (A (Go.IntKind.i64.wrap ((↑y : Int) - (1 : Int))).toNat) 1 < (18446744073709551616 : Int)) ∧ ((0 : Int) ≤ limb (A (Go.IntKind.i64.wrap ((↑y : Int) - (1 : Int))).toNat) 2 ∧ limb (A (Go.IntKind.i64.wrap ((↑y : Int) - (1 : Int))).toNat) 2 < (18446744073709551616 : Int)) ∧ ((0 : Int) ≤ limb (A (Go.IntKind.i64.wrap ((↑y : Int) - (1 : Int))).toNat) 3 ∧ limb (A (Go.IntKind.i64.wrap ((↑y : Int) - (1 : Int))).toNat) 3 < (18446744073709551616 : Int)) ∧ (∀ (j : Nat), j < 32 → intsC (hoF W A (Go.IntKind.i64.wrap ((↑y : Int) - (1 : Int))).toNat (0 + j)) = intsC (hoF W A (Go.IntKind.i64.wrap ((↑y : Int) - (1 : Int))).toNat (0 + j))) ∧ join (limb (A (Go.IntKind.i64.wrap ((↑y : Int) - (1 : Int))).toNat) 0) (limb (A (Go.IntKind.i64.wrap ((↑y : Int) - (1 : Int))).toNat) 1) (limb (A (Go.IntKind.i64.wrap ((↑y : Int) - (1 : Int))).toNat) 2) (limb (A (Go.IntKind.i64.wrap ((↑y : Int) - (1 : Int))).toNat) 3) = join (limb (A (Go.IntKind.i64.wrap ((↑y : Int) - (1 : Int))).toNat) 0) (limb (A (Go.IntKind.i64.wrap ((↑y : Int) - (1 : Int))).toNat) 1) (limb (A (Go.IntKind.i64.wrap ((↑y : Int) - (1 : Int))).toNat) 2) (limb (A (Go.IntKind.i64.wrap ((↑y : Int) - (1 : Int))).toNat) 3) ∧ (∀ (j : Nat), j < 32 → intsC (hoF W A (↑y : Int).toNat (0 + j)) = intsC (hoF W A (↑y : Int).toNat (0 + j))) ∧ (∀ (j : Nat), j < 32 → (0 : Int) ≤ intsC (hoF W A (Go.IntKind.i64.wrap ((↑y : Int) - (1 : Int))).toNat (0 + j)) ∧ intsC (hoF W A (Go.IntKind.i64.wrap ((↑y : Int) - (1 : Int))).toNat (0 + j)) < (256 : Int)) ∧ (∀ (j : Nat), j < 32 → (0 : Int) ≤ intsC (hoF W A (↑y : Int).toNat (0 + j)) ∧ intsC (hoF W A (↑y : Int).toNat (0 + j)) < (256 : Int)) ∧ (Decidable.decide (cmpK (kv fun (j : Nat) => intsC (hoF W A (Go.IntKind.i64.wrap ((↑y : Int) - (1 : Int))).toNat (0 + j))) (kv fun (j : Nat) => intsC (hoF W A (↑y : Int).toNat (0 + j))) ≥ (0 : Int)) = Bool.true → Bool.false = r) ∧ (Decidable.decide (cmpK (kv fun (j : Nat) => intsC (hoF W A (Go.IntKind.i64.wrap ((↑y : Int) - (1 : Int))).toNat (0 + j))) (kv fun (j : Nat) => intsC (hoF W A (↑y : Int).toNat (0 + j))) ≥ (0 : Int)) = Bool.false → ∃ (y' : Nat), (y' ≤ n ∧ P y') ∧ (a = a ∧ n = n ∧ cap = cap ∧ ∀ (i : Nat), i < n → simC (hoF W A i 0) (hoF W A i 0) ∧ simC (hoF W A i 1) (hoF W A i 1) ∧ simC (hoF W A i 2) (hoF W A i 2) ∧ simC (hoF W A i 3) (hoF W A i 3) ∧ simC (hoF W A i 4) (hoF W A i 4) ∧ simC (hoF W A i 5) (hoF W A i 5) ∧ simC (hoF W A i 6) (hoF W A i 6) ∧ simC (hoF W A i 7) (hoF W A i 7) ∧ simC (hoF W A i 8) (hoF W A i 8) ∧ simC (hoF W A i 9) (hoF W A i 9) ∧ simC (hoF W A i 10) (hoF W A i 10) ∧ simC (hoF W A i 11) (hoF W A i 11) ∧ simC (hoF W A i 12) (hoF W A i 12) ∧ simC (hoF W A i 13) (hoF W A i 13) ∧ simC (hoF W A i 14) (hoF W A i 14) ∧ simC (hoF W A i 15) (hoF W A i 15) ∧ simC (hoF W A i 16) (hoF W A i 16) ∧ simC (hoF W A i 17) (hoF W A i 17) ∧ simC (hoF W A i 18) (hoF W A i 18) ∧ simC (hoF W A i 19) (hoF W A i 19) ∧ simC (hoF W A i 20) (hoF W A i 20) ∧ simC (hoF W A i 21) (hoF W A i 21) ∧ simC (hoF W A i 22) (hoF W A i 22) ∧ simC (hoF W A i 23) (hoF W A i 23) ∧ simC (hoF W A i 24) (hoF W A i 24) ∧ simC (hoF W A i 25) (hoF W A i 25) ∧ simC (hoF W A i 26) (hoF W A i 26) ∧ simC (hoF W A i 27) (hoF W A i 27) ∧ simC (hoF W A i 28) (hoF W A i 28) ∧ simC (hoF W A i 29) (hoF W A i 29) ∧ simC (hoF W A i 30) (hoF W A i 30) ∧ simC (hoF W A i 31) (hoF W A i 31) ∧ simC (hoF W A i 32) (hoF W A i 32) ∧ simC (hoF W A i 33) (hoF W A i 33) ∧ simC (hoF W A i 34) (hoF W A i 34) ∧ limb (A i) 3 = limb (A i) 3) ∧ (a = a ∧ n = n ∧ cap = cap ∧ ∀ (i : Nat), i < n → simC (hoF W A i 0) (hoF W A i 0) ∧ simC (hoF W A i 1) (hoF W A i 1) ∧ simC (hoF W A i 2) (hoF W A i 2) ∧ simC (hoF W A i 3) (hoF W A i 3) ∧ simC (hoF W A i 4) (hoF W A i 4) ∧ simC (hoF W A i 5) (hoF W A i 5) ∧ simC (hoF W A i 6) (hoF W A i 6) ∧ simC (hoF W A i 7) (hoF W A i 7) ∧ simC (hoF W A i 8) (hoF W A i 8) ∧ simC (hoF W A i 9) (hoF W A i 9) ∧ simC (hoF W A i 10) (hoF W A i 10) ∧ simC (hoF W A i 11) (hoF W A i 11) ∧ simC (hoF W A i 12) (hoF W A i 12) ∧ simC (hoF W A i 13) (hoF W A i 13) ∧ simC (hoF W A i 14) (hoF W A i 14) ∧ simC (hoF W A i 15) (hoF W A i 15) ∧ simC (hoF W A i 16) (hoF W A i 16) ∧ simC (hoF W A i 17) (hoF W A i 17) ∧ simC (hoF W A i 18) (hoF W A i 18) ∧ simC (hoF W A i 19) (hoF W A i 19) ∧ simC (hoF W A i 20) (hoF W A i 20) ∧ simC (hoF W A i 21) (hoF W A i 21) ∧ simC (hoF W A i 22) (hoF W A i 22) ∧ simC (hoF W A i 23) (hoF W A i 23) ∧ simC (hoF W A i 24) (hoF W A i 24) ∧ simC (hoF W A i 25) (hoF W A i 25) ∧ simC (hoF W A i 26) (hoF W A i 26) ∧ simC (hoF W A i 27) (hoF W A i 27) ∧ simC (hoF W A i 28) (hoF W A i 28) ∧ simC (hoF W A i 29) (hoF W A i 29) ∧ simC (hoF W A i 30) (hoF W A i 30) ∧ simC (hoF W A i 31) (hoF W A i 31) ∧ simC (hoF W A i 32) (hoF W A i 32) ∧ simC (hoF W A i 33) (hoF W A i 33) ∧ simC (hoF W A i 34) (hoF W A i 34) ∧ limb (A i) 3 = limb (A i) 3) ∧ (↑n : Int) = (↑n : Int) ∧ Go.IntKind.i64.wrap ((↑y : Int) + (1 : Int)) = (↑y' : Int) ∧ (n - y').succ.le (n - y))) ∧ (Decidable.decide ((↑y : Int) > (0 : Int)) = Bool.false → ∃ (y' : Nat), (y' ≤ n ∧ P y') ∧ (a = a ∧ n = n ∧ cap = cap ∧ ∀ (i : Nat), i < n → simC (hoF W A i 0) (hoF W A i 0) ∧ simC (hoF W A i 1) (hoF W A i 1) ∧ simC (hoF W A i 2) (hoF W A i 2) ∧ simC (hoF W A i 3) (hoF W A i 3) ∧ simC (hoF W A i 4) (hoF W A i 4) ∧ simC (hoF W A i 5) (hoF W A i 5) ∧ simC (hoF W A i 6) (hoF W A i 6) ∧ simC (hoF W A i 7) (hoF W A i 7) ∧ simC (hoF W A i 8) (hoF W A i 8) ∧ simC (hoF W A i 9) (hoF W A i 9) ∧ simC (hoF W A i 10) (hoF W A i 10) ∧ simC (hoF W A i 11) (hoF W A i 11) ∧ simC (hoF W A i 12) (hoF W A i 12) ∧ simC (hoF W A i 13) (hoF W A i 13) ∧ simC (hoF W A i 14) (hoF W A i 14) ∧ simC (hoF W A i 15) (hoF W A i 15) ∧ simC (hoF W A i 16) (hoF W A i 16) ∧ simC (hoF W A i 17) (hoF W A i 17) ∧ simC (hoF W A i 18) (hoF W A i 18) ∧ simC (hoF W A i 19) (hoF W A i 19) ∧ simC (hoF W A i 20) (hoF W A i 20) ∧ simC (hoF W A i 21) (hoF W A i 21) ∧ simC (hoF W A i 22) (hoF W A i 22) ∧ simC (hoF W A i 23) (hoF W A i 23) ∧ simC (hoF W A i 24) (hoF W A i 24) ∧ simC (hoF W A i 25) (hoF W A i 25) ∧ simC (hoF W A i 26) (hoF W A i 26) ∧ simC (hoF W A i 27) (hoF W A i 27) ∧ simC (hoF W A i 28) (hoF W A i 28) ∧ simC (hoF W A i 29) (hoF W A i 29) ∧ simC (hoF W A i 30) (hoF W A i 30) ∧ simC (hoF W A i 31) (hoF W A i 31) ∧ simC (hoF W A i 32) (hoF W A i 32) ∧ simC (hoF W A i 33) (hoF W A i 33) ∧ simC (hoF W A i 34) (hoF W A i 34) ∧ limb (A i) 3 = limb (A i) 3) ∧ (a = a ∧ n = n ∧ cap = cap ∧ ∀ (i : Nat), i < n → simC (hoF W A i 0) (hoF W A i 0) ∧ simC (hoF W A i 1) (hoF W A i 1) ∧ simC (hoF W A i 2) (hoF W A i 2) ∧ simC (hoF W A i 3) (hoF W A i 3) ∧ simC (hoF W A i 4) (hoF W A i 4) ∧ simC (hoF W A i 5) (hoF W A i 5) ∧ simC (hoF W A i 6) (hoF W A i 6) ∧ simC (hoF W A i 7) (hoF W A i 7) ∧ simC (hoF W A i 8) (hoF W A i 8) ∧ simC (hoF W A i 9) (hoF W A i 9) ∧ simC (hoF W A i 10) (hoF W A i 10) ∧ simC (hoF W A i 11) (hoF W A i 11) ∧ simC (hoF W A i 12) (hoF W A i 12) ∧ simC (hoF W A i 13) (hoF W A i 13) ∧ simC (hoF W A i 14) (hoF W A i 14) ∧ simC (hoF W A i 15) (hoF W A i 15) ∧ simC (hoF W A i 16) (hoF W A i 16) ∧ simC (hoF W A i 17) (hoF W A i 17) ∧ simC (hoF W A i 18) (hoF W A i 18) ∧ simC (hoF W A i 19) (hoF W A i 19) ∧ simC (hoF W A i 20) (hoF W A i 20) ∧ simC (hoF W A i 21) (hoF W A i 21) ∧ simC (hoF W A i 22) (hoF W A i 22) ∧ simC (hoF W A i 23) (hoF W A i 23) ∧ simC (hoF W A i 24) (hoF W A i 24) ∧ simC (hoF W A i 25) (hoF W A i 25) ∧ simC (hoF W A i 26) (hoF W A i 26) ∧ simC (hoF W A i 27) (hoF W A i 27) ∧ simC (hoF W A i 28) (hoF W A i 28) ∧ simC (hoF W A i 29) (hoF W A i 29) ∧ simC (hoF W A i 30) (hoF W A i 30) ∧ simC (hoF W A i 31) (hoF W A i 31) ∧ simC (hoF W A i 32) (hoF W A i 32) ∧ simC (hoF W A i 33) (hoF W A i 33) ∧ simC (hoF W A i 34) (hoF W A i 34) ∧ limb (A i) 3 = limb (A i) 3) ∧ (↑n : Int) = (↑n : Int) ∧ Go.IntKind.i64.wrap ((↑y : Int) + (1 : Int)) = (↑y' : Int) ∧ (n - y').succ.le (n - y)))) ∧ (Decidable.decide ((↑y : Int) < (↑n : Int)) = Bool.false → Bool.true = r)) := by kernel_rfl
theorem vc_to (a : Option Addr) (n cap : Nat) (W : Nat → Nat → Int) (A : Nat → Nat) (S : Nat → Nat) (P : Nat → Prop) (s : Nat) (r : Bool) :
    OwesR Try.prog cxTo [] [(3, .inv (invTo a n cap W A S P))] 10 Try.f20 [sHs a n cap W A] false [.v (sU s), .v (sB r)] =
    (let x1 : Nat := s % M256; (∀ (y : Nat), closedB (slotsAt 27 [(0, SV.one (sHs a n cap W A)), (2, SV.one (SA.sc (SC.ptr 0 0))), (4, SV.one (SA.sc (SC.ptr 1 0))), (9, SV.one (sHs a n cap W A)), (10, SV.one (sI Go.IntKind.i64 (↑n : Int))), (11, SV.one (sI Go.IntKind.i64 (↑y : Int)))]) [SO.cells (24 : Go.TypeId) [SK.u 0] 0, SO.cells (24 : Go.TypeId) [SK.u (S y)] 0] = Bool.true) ∧ ∃ (y : Nat), (y ≤ n ∧ P y) ∧ (a = a ∧ n = n ∧ cap = cap ∧ ∀ (i : Nat), i < n → simC (hoF W A i 0) (hoF W A i 0) ∧ simC (hoF W A i 1) (hoF W A i 1) ∧ simC (hoF W A i 2) (hoF W A i 2) ∧ simC (hoF W A i 3) (hoF W A i 3) ∧ simC (hoF W A i 4) (hoF W A i 4) ∧ simC (hoF W A i 5) (hoF W A i 5) ∧ simC (hoF W A i 6) (hoF W A i 6) ∧ simC (hoF W A i 7) (hoF W A i 7) ∧ simC (hoF W A i 8) (hoF W A i 8) ∧ simC (hoF W A i 9) (hoF W A i 9) ∧ simC (hoF W A i 10) (hoF W A i 10) ∧ simC (hoF W A i 11) (hoF W A i 11) ∧ simC (hoF W A i 12) (hoF W A i 12) ∧ simC (hoF W A i 13) (hoF W A i 13) ∧ simC (hoF W A i 14) (hoF W A i 14) ∧ simC (hoF W A i 15) (hoF W A i 15) ∧ simC (hoF W A i 16) (hoF W A i 16) ∧ simC (hoF W A i 17) (hoF W A i 17) ∧ simC (hoF W A i 18) (hoF W A i 18) ∧ simC (hoF W A i 19) (hoF W A i 19) ∧ simC (hoF W A i 20) (hoF W A i 20) ∧ simC (hoF W A i 21) (hoF W A i 21) ∧ simC (hoF W A i 22) (hoF W A i 22) ∧ simC (hoF W A i 23) (hoF W A i 23) ∧ simC (hoF W A i 24) (hoF W A i 24) ∧ simC (hoF W A i 25) (hoF W A i 25) ∧ simC (hoF W A i 26) (hoF W A i 26) ∧ simC (hoF W A i 27) (hoF W A i 27) ∧ simC (hoF W A i 28) (hoF W A i 28) ∧ simC (hoF W A i 29) (hoF W A i 29) ∧ simC (hoF W A i 30) (hoF W A i 30) ∧ simC (hoF W A i 31) (hoF W A i 31) ∧ simC (hoF W A i 32) (hoF W A i 32) ∧ simC (hoF W A i 33) (hoF W A i 33) ∧ simC (hoF W A i 34) (hoF W A i 34) ∧ limb (A i) 3 = limb (A i) 3) ∧ (a = a ∧ n = n ∧ cap = cap ∧ ∀ (i : Nat), i < n → simC (hoF W A i 0) (hoF W A i 0) ∧ simC (hoF W A i 1) (hoF W A i 1) ∧ simC (hoF W A i 2) (hoF W A i 2) ∧ simC (hoF W A i 3) (hoF W A i 3) ∧ simC (hoF W A i 4) (hoF W A i 4) ∧ simC (hoF W A i 5) (hoF W A i 5) ∧ simC (hoF W A i 6) (hoF W A i 6) ∧ simC (hoF W A i 7) (hoF W A i 7) ∧ simC (hoF W A i 8) (hoF W A i 8) ∧ simC (hoF W A i 9) (hoF W A i 9) ∧ simC (hoF W A i 10) (hoF W A i 10) ∧ simC (hoF W A i 11) (hoF W A i 11) ∧ simC (hoF W A i 12) (hoF W A i 12) ∧ simC (hoF W A i 13) (hoF W A i 13) ∧ simC (hoF W A i 14) (hoF W A i 14) ∧ simC (hoF W A i 15) (hoF W A i 15) ∧ simC (hoF W A i 16) (hoF W A i 16) ∧ simC (hoF W A i 17) (hoF W A i 17) ∧ simC (hoF W A i 18) (hoF W A i 18) ∧ simC (hoF W A i 19) (hoF W A i 19) ∧ simC (hoF W A i 20) (hoF W A i 20) ∧ simC (hoF W A i 21) (hoF W A i 21) ∧ simC (hoF W A i 22) (hoF W A i 22) ∧ simC (hoF W A i 23) (hoF W A i 23) ∧ simC (hoF W A i 24) (hoF W A i 24) ∧ simC (hoF W A i 25) (hoF W A i 25) ∧ simC (hoF W A i 26) (hoF W A i 26) ∧ simC (hoF W A i 27) (hoF W A i 27) ∧ simC (hoF W A i 28) (hoF W A i 28) ∧ simC (hoF W A i 29) (hoF W A i 29) ∧ simC (hoF W A i 30) (hoF W A i 30) ∧ simC (hoF W A i 31) (hoF W A i 31) ∧ simC (hoF W A i 32) (hoF W A i 32) ∧ simC (hoF W A i 33) (hoF W A i 33) ∧ simC (hoF W A i 34) (hoF W A i 34) ∧ limb (A i) 3 = limb (A i) 3) ∧ (↑n : Int) = (↑n : Int) ∧ (0 : Int) = (↑y : Int) ∧ (0 = 0 ∧ True) ∧ 0 = 0 ∧ (0 = S y % M256 ∧ True) ∧ 0 = 0 ∧ ∀ (y : Nat), y ≤ n ∧ P y → (Decidable.decide ((↑y : Int) < (↑n : Int)) = Bool.true → ((0 : Int) ≤ (↑y : Int) ∧ (↑y : Int) < (↑n : Int)) ∧ ((0 : Int) ≤ limb (A (↑y : Int).toNat) 0 ∧ limb (A (↑y : Int).toNat) 0 < (18446744073709551616 : Int)) ∧ ((0 : Int) ≤ limb (A (↑y : Int).toNat) 1 ∧ limb (A (↑y : Int).toNat) 1 < (18446744073709551616 : Int)) ∧ ((0 : Int) ≤ limb (A (↑y : Int).toNat) 2 ∧ limb (A (↑y : Int).toNat) 2 < (18446744073709551616 : Int)) ∧ ((0 : Int) ≤ limb (A (↑y : Int).toNat) 3 ∧ limb (A (↑y : Int).toNat) 3 < (18446744073709551616 : Int)) ∧ (Decidable.decide (M256 ≤ S y % M256 + join (limb (A (↑y : Int).toNat) 0) (limb (A (↑y : Int).toNat) 1) (limb (A (↑y : Int).toNat) 2) (limb (A (↑y : Int).toNat) 3) % M256) = Bool.true → (0 = x1 ∧ True) ∧ Bool.true = r) ∧ (Decidable.decide (M256 ≤ S y % M256 + join (limb (A (↑y : Int).toNat) 0) (limb (A (↑y : Int).toNat) 1) (limb (A (↑y : Int).toNat) 2) (limb (A (↑y : Int).toNat) 3) % M256) = Bool.false → ∃ (y' : Nat), (y' ≤ n ∧ P y') ∧ (a = a ∧ n = n ∧ cap = cap ∧ ∀ (i : Nat), i < n → simC (hoF W A i 0) (hoF W A i 0) ∧ simC (hoF W A i 1) (hoF W A i 1) ∧ simC (hoF W A i 2) (hoF W A i 2) ∧ simC (hoF W A i 3) (hoF W A i 3) ∧ simC (hoF W A i 4) (hoF W A i 4) ∧ simC (hoF W A i 5) (hoF W A i 5) ∧ simC (hoF W A i 6) (hoF W A i 6) ∧ simC (hoF W A i 7) (hoF W A i 7) ∧ simC (hoF W A i 8) (hoF W A i 8) ∧ simC (hoF W A i 9) (hoF W A i 9) ∧ simC (hoF W A i 10) (hoF W A i 10) ∧ simC (hoF W A i 11) (hoF W A i 11) ∧ simC (hoF W A i 12) (hoF W A i 12) ∧ simC (hoF W A i 13) (hoF W A i 13) ∧ simC (hoF W A i 14) (hoF W A i 14) ∧ simC (hoF W A i 15) (hoF W A i 15) ∧ simC (hoF W A i 16) (hoF W A i 16) ∧ simC (hoF W A i 17) (hoF W A i 17) ∧ simC (hoF W A i 18) (hoF W A i 18) ∧ simC (hoF W A i 19) (hoF W A i 19) ∧ simC (hoF W A i 20) (hoF W A i 20) ∧ simC (hoF W A i 21) (hoF W A i 21) ∧ simC (hoF W A i 22) (hoF W A i 22) ∧ simC (hoF W A i 23) (hoF W A i 23) ∧ simC (hoF W A i 24) (hoF W A i 24) ∧ simC (hoF W A i 25) (hoF W A i 25) ∧ simC (hoF W A i 26) (hoF W A i 26) ∧ simC (hoF W A i 27) (hoF W A i 27) ∧ simC (hoF W A i 28) (hoF W A i 28) ∧ simC (hoF W A i 29) (hoF W A i 29) ∧ simC (hoF W A i 30) (hoF W A i 30) ∧ simC (hoF W A i 31) (hoF W A i 31) ∧ simC (hoF W A i 32) (hoF W A i 32) ∧ simC (hoF W A i 33) (hoF W A i 33) ∧ simC (hoF W A i 34) (hoF W A i 34) ∧ limb (A i) 3 = limb (A i) 3) ∧ (a = a ∧ n = n ∧ cap = cap ∧ ∀ (i : Nat), i < n → simC (hoF W A i 0) (hoF W A i 0) ∧ simC (hoF W A i 1) (hoF W A i 1) ∧ simC (hoF W A i 2) (hoF W A i 2) ∧ simC (hoF W A i 3) (hoF W A i 3) ∧ simC (hoF W A i 4) (hoF W A i 4) ∧ simC (hoF W A i 5) (hoF W A i 5) ∧ simC (hoF W A i 6) (hoF W A i 6) ∧ simC (hoF W A i 7) (hoF W A i 7) ∧ simC (hoF W A i 8) (hoF W A i 8) ∧ simC (hoF W A i 9) (hoF W A i 9) ∧ simC (hoF W A i 10) (hoF W A i 10) ∧ simC (hoF W A i 11) (hoF W A i 11) ∧ simC (hoF W A i 12) (hoF W A i 12) ∧ simC (hoF W A i 13) (hoF W A i 13) ∧ simC (hoF W A i 14) (hoF W A i 14) ∧ simC (hoF W A i 15) (hoF W A i 15) ∧ simC (hoF W A i 16) (hoF W A i 16) ∧ simC (hoF W A i 17) (hoF W A i 17) ∧ simC (hoF W A i 18) (hoF W A i 18) ∧ simC (hoF W A i 19) (hoF W A i 19) ∧ simC (hoF W A i 20) (hoF W A i 20) ∧ simC (hoF W A i 21) (hoF W A i 21) ∧ simC (hoF W A i 22) (hoF W A i 22) ∧ simC (hoF W A i 23) (hoF W A i 23) ∧ simC (hoF W A i 24) (hoF W A i 24) ∧ simC (hoF W A i 25) (hoF W A i 25) ∧ simC (hoF W A i 26) (hoF W A i 26) ∧ simC (hoF W A i 27) (hoF W A i 27) ∧ simC (hoF W A i 28) (hoF W A i 28) ∧ simC (hoF W A i 29) (hoF W A i 29) ∧ simC (hoF W A i 30) (hoF W A i 30) ∧ simC (hoF W A i 31) (hoF W A i 31) ∧ simC (hoF W A i 32) (hoF W A i 32) ∧ simC (hoF W A i 33) (hoF W A i 33) ∧ simC (hoF W A i 34) (hoF W A i 34) ∧ limb (A i) 3 = limb (A i) 3) ∧ (↑n : Int) = (↑n : Int) ∧ Go.IntKind.i64.wrap ((↑y : Int) + (1 : Int)) = (↑y' : Int) ∧ 0 = 0 ∧ 0 = 0 ∧ (S y + join (limb (A (↑y : Int).toNat) 0) (limb (A (↑y : Int).toNat) 1) (limb (A (↑y : Int).toNat) 2) (limb (A (↑y : Int).toNat) 3)) % M256 = S y' % M256 ∧ 0 = 0 ∧ (n - y').succ.le (n - y))) ∧ (Decidable.decide ((↑y : Int) < (↑n : Int)) = Bool.false → (S y % M256 = x1 ∧ True) ∧ Bool.false = r)) := by kernel_rfl
end Go.Proofs.Ytnkgniedhmnanaa
end

section
namespace Go.Proofs.Ytnkgniedhmnanaa
open Go.Sx
set_option maxRecDepth 100000
def ordB (n : Nat) (K A : Nat → Nat) : Bool := (List.range n).all fun i => decide (A i ≠ 0) && (decide (i = 0) || decide (K (i - 1) < K i))
def sumN (A : Nat → Nat) : Nat → Nat
  | 0 => 0
  | n + 1 => sumN A n + A n
def cnE (n : Nat) (K A : Nat → Nat) (s : Nat) : Int := if 40 < n then 1 else if ordB n K A = true ∧ sumN A n = s then 0 else 12
structure hoP (a : Option Addr) (n : Nat) (W : Nat → Nat → Int) (A : Nat → Nat) : Prop where
  hn : n ≤ maxLen
  ha : a = none → n = 0
  hw : ∀ i, i < n → by32 (W i)
  hA : ∀ i, i < n → A i < M256
def kH (f : Nat → Nat → SC) (i : Nat) : Nat := kv fun j => kOf f i j
def aH (f : Nat → Nat → SC) (i : Nat) : Nat := natOf (f i) 32
theorem sim_ho (W : Nat → Nat → Int) (A : Nat → Nat) (i c : Nat) : simC (hoF W A i c) (hoF W A i c) := by
  unfold hoF
  split
  · exact rfl
  · split <;> exact rfl
theorem ho_lo {W : Nat → Nat → Int} {A : Nat → Nat} {i c : Nat} (h : c < 32) : hoF W A i c = .val (.int .u8 (W i c)) := by
  unfold hoF
  rw [show Nat.blt c 32 = true from Nat.ble_eq_true_of_le h]
theorem ho_i {W : Nat → Nat → Int} {A : Nat → Nat} {i j : Nat} (h : j < 32) : intsC (hoF W A i (0 + j)) = W i j := by
  rw [Nat.zero_add, ho_lo h]; rfl
theorem kv_ho (W : Nat → Nat → Int) (A : Nat → Nat) (i : Nat) : (kv fun j => intsC (hoF W A i (0 + j))) = kv (W i) := kv_congr fun _ hj => ho_i hj
theorem by_ho {W : Nat → Nat → Int} {A : Nat → Nat} {i : Nat} (h : by32 (W i)) : ∀ j, j < 32 → 0 ≤ intsC (hoF W A i (0 + j)) ∧ intsC (hoF W A i (0 + j)) < 256 := fun j hj => by rw [ho_i hj]; exact h j hj
theorem kH_ho (W : Nat → Nat → Int) (A : Nat → Nat) (i : Nat) : kH (hoF W A) i = kv (W i) := kv_congr fun j hj => by
  unfold kOf; rw [ho_lo hj]; rfl
theorem aH_ho (W : Nat → Nat → Int) (A : Nat → Nat) (i : Nat) : aH (hoF W A) i = A i % M256 := join_limbs (A i)
theorem lb_in (n j : Nat) : (0 ≤ limb n j ∧ limb n j < 18446744073709551616) = True := eq_true ⟨limb_nonneg _ _, limb_lt _ _⟩
theorem cj4 (x : Nat) : conj [limb x 0 == 0, limb x 1 == 0, limb x 2 == 0, limb x 3 == 0] = decide (x % M256 = 0) := by
  have h := limbs_eq (a := x) (b := 0)
  have z : ∀ i, limb 0 i = 0 := fun i => by unfold limb; simp
  rw [z, z, z, z, Nat.zero_mod] at h
  rw [Bool.eq_iff_iff, decide_eq_true_eq, h]
  simp only [conj, Bool.and_eq_true, beq_iff_eq]
theorem ordB_succ (n : Nat) (K A : Nat → Nat) : ordB (n + 1) K A = (ordB n K A && (decide (A n ≠ 0) && (decide (n = 0) || decide (K (n - 1) < K n)))) := by
  unfold ordB
  rw [List.range_succ, List.all_append, List.all_cons, List.all_nil, Bool.and_true]
theorem rng_all {n : Nat} {p : Nat → Bool} : (List.range n).all p = true ↔ ∀ j, j < n → p j = true := by
  rw [List.all_eq_true]
  exact ⟨fun h j hj => h j (List.mem_range.2 hj), fun h j hj => h j (List.mem_range.1 hj)⟩
theorem ordB_iff {n : Nat} {K A : Nat → Nat} : ordB n K A = true ↔ ∀ i, i < n → A i ≠ 0 ∧ (i = 0 ∨ K (i - 1) < K i) := by
  unfold ordB
  rw [rng_all]
  simp only [Bool.and_eq_true, Bool.or_eq_true, decide_eq_true_eq]
theorem ordB_mono {m n : Nat} {K A : Nat → Nat} (h : m ≤ n) (hn : ordB n K A = true) : ordB m K A = true :=
  ordB_iff.2 fun i hi => ordB_iff.1 hn i (by omega)
theorem ordB_no {m n : Nat} {K A : Nat → Nat} (h : m < n) (hm : ¬ (A m ≠ 0 ∧ (m = 0 ∨ K (m - 1) < K m))) : ordB n K A = false := by
  cases q : ordB n K A
  · rfl
  · exact absurd (ordB_iff.1 q m h) hm
theorem cmpK_ge {a b : Nat} : cmpK a b ≥ 0 ↔ ¬ a < b := by
  unfold cmpK
  by_cases h : a < b
  · rw [if_pos h]; omega
  · rw [if_neg h]
    by_cases k : b < a
    · rw [if_pos k]; omega
    · rw [if_neg k]; omega
theorem w_pred {y n : Nat} (h0 : 0 < y) (h : y < n) (hn : n ≤ maxLen) : IntKind.i64.wrap ((y : Int) - 1) = ((y - 1 : Nat) : Int) := by
  have hML : maxLen = 9223372036854775807 := rfl
  rw [IntKind.wrap_i64]; omega
theorem w_succ {y n : Nat} (h : y < n) (hn : n ≤ maxLen) : IntKind.i64.wrap ((y : Int) + 1) = ((y + 1 : Nat) : Int) := by
  have hML : maxLen = 9223372036854775807 := rfl
  rw [IntKind.wrap_i64]; omega
theorem less_step {n y : Nat} (h : y < n) : (n - (y + 1)).succ.le (n - y) := by show n - (y + 1) + 1 ≤ n - y; omega
theorem ok_or (a : Option Addr) (n cap : Nat) (W : Nat → Nat → Int) (A : Nat → Nat) (h : hoP a n W A) :
    OwesR Try.prog cx14 slOr [(2, .inv (invOr a n cap W A fun i => ordB i (fun i => kv (W i)) A = true))] 10 Try.f19 [sHs a n cap W A] false [.v (sB (ordB n (fun i => kv (W i)) A))] := by
  rw [vc_or]
  have z := sim_ho W A
  simp only [eq_self, implies_true, and_self, true_and, and_true, imp_self, z, lb_in, kv_ho, Int.toNat_natCast, cj4]
  refine ⟨fun _ => rfl, 0, ⟨Nat.zero_le _, rfl⟩, rfl, fun y hy => ⟨fun hl => ?_, fun hl => ?_⟩⟩
  · have hl := of_decide_eq_true hl
    have hl : y < n := by omega
    refine ⟨⟨by omega, by omega⟩, fun h0 => ?_, fun h0 => ?_⟩
    · have h0 := of_decide_eq_true h0
      rw [Nat.mod_eq_of_lt (h.hA y hl)] at h0
      exact (ordB_no hl fun q => q.1 h0).symm
    have h0 := of_decide_eq_false h0
    rw [Nat.mod_eq_of_lt (h.hA y hl)] at h0
    refine ⟨fun h1 => ?_, fun h1 => ?_, fun h1 => ?_⟩
    · have h1 : 0 < y := by have := of_decide_eq_true h1; omega
      rw [w_pred h1 hl h.hn]; omega
    · have hd := h1
      have h1 : 0 < y := by have := of_decide_eq_true h1; omega
      rw [w_pred h1 hl h.hn, Int.toNat_natCast]
      refine ⟨hd, hd, by_ho (h.hw _ (by omega)), by_ho (h.hw _ hl), fun h2 => ?_, fun h2 => ⟨y + 1, ⟨by omega, ?_⟩, w_succ hl h.hn, less_step hl⟩⟩
      · have h2 := cmpK_ge.1 (of_decide_eq_true h2)
        exact (ordB_no hl fun q => by rcases q.2 with q | q; omega; exact h2 q).symm
      · have h2 := of_decide_eq_false h2
        rw [cmpK_ge, Decidable.not_not] at h2
        rw [ordB_succ, hy.2, decide_eq_true h0, decide_eq_true h2, Bool.or_true]; rfl
    · have h1 : y = 0 := by have := of_decide_eq_false h1; omega
      refine ⟨y + 1, ⟨by omega, ?_⟩, w_succ hl h.hn, less_step hl⟩
      rw [ordB_succ, hy.2, decide_eq_true h0, decide_eq_true h1]; rfl
  · have hl := of_decide_eq_false hl
    have e1 : y = n := by omega
    rw [← e1, hy.2]
theorem sumN_mono (A : Nat → Nat) {m n : Nat} (h : m ≤ n) : sumN A m ≤ sumN A n := by
  induction n with
  | zero => rw [Nat.le_zero.1 h]; exact Nat.le_refl _
  | succ n ih =>
    rcases Nat.lt_or_ge m (n + 1) with k | k
    · have := ih (by omega)
      rw [sumN]; omega
    · rw [show m = n + 1 by omega]; exact Nat.le_refl _
theorem ok_to (a : Option Addr) (n cap : Nat) (W : Nat → Nat → Int) (A : Nat → Nat) (h : hoP a n W A) :
    OwesR Try.prog cxTo [] [(3, .inv (invTo a n cap W A (sumN A) fun i => sumN A i < M256))] 10 Try.f20 [sHs a n cap W A] false [.v (sU (if sumN A n < M256 then sumN A n else 0)), .v (sB (!decide (sumN A n < M256)))] := by
  rw [vc_to]
  intro x1
  have z := sim_ho W A
  have e1 : x1 = (if sumN A n < M256 then sumN A n else 0) % M256 := rfl
  have hM : 0 < M256 := by decide
  clear_value x1
  simp only [eq_self, implies_true, and_self, true_and, and_true, imp_self, z, lb_in, Int.toNat_natCast, join_limbs]
  refine ⟨fun _ => rfl, 0, ⟨Nat.zero_le _, hM⟩, rfl, rfl, fun y hy => ⟨fun hl => ?_, fun hl => ?_⟩⟩
  · have hl := of_decide_eq_true hl
    have hl : y < n := by omega
    have hs : sumN A (y + 1) = sumN A y + A y := rfl
    have hm := sumN_mono A (show y + 1 ≤ n by omega)
    rw [Nat.mod_mod, Nat.mod_eq_of_lt (h.hA y hl), Nat.mod_eq_of_lt hy.2]
    refine ⟨⟨by omega, by omega⟩, fun h0 => ?_, fun h0 => ⟨y + 1, ⟨by omega, ?_⟩, w_succ hl h.hn, rfl, less_step hl⟩⟩
    · have h0 := of_decide_eq_true h0
      rw [e1, if_neg (by omega), decide_eq_false (by omega)]
      exact ⟨rfl, rfl⟩
    · have h0 := of_decide_eq_false h0
      omega
  · have hl := of_decide_eq_false hl
    have e2 : y = n := by omega
    subst e2
    rw [e1, if_pos hy.2, decide_eq_true hy.2]
    exact ⟨rfl, rfl⟩
end Go.Proofs.Ytnkgniedhmnanaa
end

section
namespace Go.Sx
end Go.Sx
end

section
namespace Go.Sx
def specQ0 (share : Bool) (aq : List AQ) (c : List (List FD) → List Prop) (g : List (List FD) → List RS) : SSpec :=
  ⟨share, fun args => match asQs aq args with
    | some (ps, ls) => some (ps ++ c ls, g ls)
    | none => none⟩
theorem FnOKs_R0 {P : Program} {cx : Cx} (hcx : CxOK P cx) {sl : List (Nat × SSpec)} (hsl : ∀ p ∈ sl, FnOKs P cx.gl p.1 p.2) {f : Nat} {fn : Func} (hf : P.funcs[f]? = some fn) (hb : fn.body.isSome = true) (hn : (fn.name == "runtime.NumGoroutine") = false)
    {share : Bool} {aq : List AQ} {c : List (List FD) → List Prop} {g : List (List FD) → List RS}
    (h : ∀ ls, Ok (c ls) → ∃ iv N args', (∀ ρ, (mkQs aq ls).map (SA.conc ρ) = args'.map (SA.conc ρ)) ∧ (∀ E, (∀ x ∈ mkQs aq ls, x.bnd E) → ∀ x ∈ args', x.bnd E) ∧ (∀ r ∈ g ls, r.closed) ∧ OwesR P cx sl iv N fn args' share (g ls)) : FnOKs P cx.gl f (specQ0 share aq c g) := by
  refine FnOKs_owes hcx hsl hf hb hn fun args ps rs hs hp => ?_
  simp only [specQ0] at hs
  split at hs
  case h_2 => cases hs
  rename_i q ls ha
  simp only [Option.some.injEq, Prod.mk.injEq] at hs
  obtain ⟨rfl, rfl⟩ := hs
  obtain ⟨o1, o3⟩ := Ok.append.1 hp
  obtain ⟨a1, a2⟩ := asQs_sound ha
  obtain ⟨iv, N, args', h1, h2, hc, hw⟩ := h ls o3
  refine ⟨iv, N, args', fun ρ => by rw [a1 o1 ρ, h1], fun fz hx x hxm => ?_, hc, hw⟩
  exact h2 ⟨fun _ => False, fz⟩ (fun y hy => a2 ⟨fun _ => True, fz⟩ hx y hy) x hxm
end Go.Sx
end

section
namespace Go.Sx
open Go.RowKit
theorem pwN_pos (n : Nat) : 0 < 4294967296 ^ n := Nat.pow_pos (by decide)
theorem dg_range (X i : Nat) : 0 ≤ dg X i ∧ dg X i < 4294967296 := (dgs_dg (i + 1) X).at' i (by omega)
theorem dg_out {X n i : Nat} (h : X < 4294967296 ^ n) (hi : n ≤ i) : dg X i = 0 := by
  unfold dg
  rw [Nat.div_eq_of_lt (Nat.lt_of_lt_of_le h (Nat.pow_le_pow_right (by decide) hi))]
  rfl
theorem dg_in {n : Nat} {f : Nat → Int} (h : dgs n f) {i : Nat} (hi : i < n) : f i = dg (vn n f) i := (dg_vn h i hi).symm
theorem dg_past {n : Nat} {f : Nat → Int} (h : dgs n f) {i : Nat} (hi : n ≤ i) : dg (vn n f) i = 0 := dg_out (vn_lt h) hi
theorem mod_succ (X i : Nat) : ((X % 4294967296 ^ (i + 1) : Nat) : Int) = ((X % 4294967296 ^ i : Nat) : Int) + dg X i * 4294967296 ^ i := by
  rw [← vz_dg, ← vz_dg]; rfl
theorem div_succ (X i : Nat) : ((X / 4294967296 ^ i : Nat) : Int) = 4294967296 * ((X / 4294967296 ^ (i + 1) : Nat) : Int) + dg X i := by
  unfold dg
  rw [Nat.pow_succ, ← Nat.div_div_eq_div_mul]
  omega
structure PlusP (X Y : Nat) (i : Nat) (g : Nat → Int) (c : Int) : Prop where
  ds : dgs i g
  c1 : 0 ≤ c ∧ c ≤ 1
  sum : vz g i + c * 4294967296 ^ i = ((X % 4294967296 ^ i : Nat) : Int) + ((Y % 4294967296 ^ i : Nat) : Int)
theorem PlusP.start (X Y : Nat) (g : Nat → Int) : PlusP X Y 0 g 0 := ⟨⟨fun i hi => by omega⟩, ⟨by omega, by omega⟩, by simp [vz, Nat.mod_one]⟩
theorem dgs_app {i : Nat} {g : Nat → Int} {v : Int} (h : dgs i g) (hv : 0 ≤ v ∧ v < 4294967296) : dgs (i + 1) (fun j => bif decide (j < i) then g j else v) := ⟨fun j hj => by
  by_cases e : j < i
  · simp only [e, decide_true, cond_true]; exact h.at' j e
  · simp only [e, decide_false, cond_false]; exact hv⟩
theorem vz_app {i : Nat} {g : Nat → Int} {v : Int} : vz (fun j => bif decide (j < i) then g j else v) (i + 1) = vz g i + v * 4294967296 ^ i := by
  simp only [vz, Nat.lt_irrefl, decide_false, cond_false]
  rw [vz_congr (g := g) fun j hj => by simp only [hj, decide_true, cond_true]]
theorem PlusP.step {X Y i : Nat} {g : Nat → Int} {c s : Int} (h : PlusP X Y i g c) (hs : s = c + dg X i + dg Y i) : PlusP X Y (i + 1) (fun j => bif decide (j < i) then g j else s.tmod 4294967296) (IntKind.u64.wrap (s.tdiv 4294967296)) := by
  obtain ⟨h1, h2, h3⟩ := h
  have hx := dg_range X i
  have hy := dg_range Y i
  have e1 : s.tmod 4294967296 = s % 4294967296 := Int.tmod_eq_emod_of_nonneg (by omega)
  have e2 : s.tdiv 4294967296 = s / 4294967296 := Int.tdiv_eq_ediv_of_nonneg (by omega)
  have e3 : IntKind.u64.wrap (s / 4294967296) = s / 4294967296 := by rw [IntKind.wrap_u64]; omega
  rw [e1, e2, e3]
  refine ⟨dgs_app h1 (by omega), by omega, ?_⟩
  rw [vz_app, mod_succ, mod_succ, Int.pow_succ]
  have hq : s = 4294967296 * (s / 4294967296) + s % 4294967296 := by omega
  generalize s / 4294967296 = q at *
  generalize s % 4294967296 = r at *
  generalize (4294967296 : Int) ^ i = w at *
  generalize vz g i = z at *
  generalize ((X % 4294967296 ^ i : Nat) : Int) = x at *
  generalize ((Y % 4294967296 ^ i : Nat) : Int) = y at *
  generalize dg X i = dx at *
  generalize dg Y i = dy at *
  grind
def cmpI (X Y : Nat) : Int := if X < Y then -1 else if Y < X then 1 else 0
theorem cmp_lt {X Y k : Nat} (h : X / 4294967296 ^ (k + 1) = Y / 4294967296 ^ (k + 1)) (hd : dg X k < dg Y k) : X < Y := by
  have h1 := div_succ X k
  have h2 := div_succ Y k
  rw [h] at h1
  have : X / 4294967296 ^ k < Y / 4294967296 ^ k := by omega
  exact Nat.lt_of_not_le fun hle => by have := Nat.div_le_div_right (c := 4294967296 ^ k) hle; omega
theorem cmp_eq {X Y k : Nat} (h : X / 4294967296 ^ (k + 1) = Y / 4294967296 ^ (k + 1)) (hd : dg X k = dg Y k) : X / 4294967296 ^ k = Y / 4294967296 ^ k := by
  have h1 := div_succ X k
  have h2 := div_succ Y k
  rw [h, hd] at h1
  omega
structure LessP (X Y n : Nat) (i : Nat) (g : Nat → Int) (c : Int) : Prop where
  ds : dgs n g
  c1 : c = 0 ∨ c = 1
  rest : ∀ j, i ≤ j → j < n → g j = dg X j
  sum : vz g i - c * 4294967296 ^ i = ((X % 4294967296 ^ i : Nat) : Int) - ((Y % 4294967296 ^ i : Nat) : Int)
theorem LessP.step {X Y n i : Nat} {g g' : Nat → Int} {c v c' : Int} (h : LessP X Y n i g c) (hi : i < n) (hv : v = dg X i - (c + dg Y i) + c' * 4294967296) (hc : c' = if dg X i < c + dg Y i then 1 else 0) (hg : ∀ j, j < n → g' j = if j = i then v else g j) : LessP X Y n (i + 1) g' c' := by
  obtain ⟨h1, h2, h3, h4⟩ := h
  have hx := dg_range X i
  have hy := dg_range Y i
  have hc' : (c' = 0 ∧ c + dg Y i ≤ dg X i) ∨ (c' = 1 ∧ dg X i < c + dg Y i) := by
    rw [hc]; split
    · exact .inr ⟨rfl, by assumption⟩
    · exact .inl ⟨rfl, by omega⟩
  clear hc
  have hvr : 0 ≤ v ∧ v < 4294967296 := by omega
  refine ⟨⟨fun j hj => ?_⟩, by omega, fun j hj hjn => ?_, ?_⟩
  · rw [hg j hj]
    split
    · exact hvr
    · exact h1.at' j hj
  · rw [hg j hjn, if_neg (by omega)]
    exact h3 j (by omega) hjn
  · simp only [vz]
    rw [vz_congr (g := g) (fun j hj => by rw [hg j (by omega), if_neg (by omega)]), hg i hi, if_pos rfl, mod_succ, mod_succ, Int.pow_succ]
    generalize (4294967296 : Int) ^ i = w at *
    generalize vz g i = z at *
    generalize ((X % 4294967296 ^ i : Nat) : Int) = x at *
    generalize ((Y % 4294967296 ^ i : Nat) : Int) = y at *
    generalize dg X i = dx at *
    generalize dg Y i = dy at *
    clear hg h3 h1 hc' hvr hx hy h2
    grind
theorem LessP.done {X Y n : Nat} {g : Nat → Int} {c : Int} (h : LessP X Y n n g c) (hX : X < 4294967296 ^ n) (hY : Y ≤ X) : ∀ i, i < n → g i = dg (X - Y) i := by
  obtain ⟨h1, h2, _, h4⟩ := h
  rw [Nat.mod_eq_of_lt hX, Nat.mod_eq_of_lt (by omega)] at h4
  have hb := vz_bound h1
  have hp := pw_pos n
  refine dg_eq h1 ?_
  rcases h2 with rfl | rfl
  · omega
  · omega
def lenDg (X : Nat) : Nat := if X = 0 then 0 else Nat.log2 X / 32 + 1
theorem pw_two (n : Nat) : (4294967296 : Nat) ^ n = 2 ^ (32 * n) := by rw [Nat.pow_mul]
theorem lenDg_lt (X : Nat) : X < 4294967296 ^ lenDg X := by
  unfold lenDg
  split
  · subst_vars; decide
  · rename_i h
    rw [pw_two, ← Nat.log2_lt h]
    omega
theorem lenDg_le {X k : Nat} (h : X < 4294967296 ^ k) : lenDg X ≤ k := by
  unfold lenDg
  split
  · omega
  · rename_i h0
    rw [pw_two, ← Nat.log2_lt h0] at h
    omega
theorem lenDg_eq {X k : Nat} (h : X < 4294967296 ^ k) (hk : k = 0 ∨ dg X (k - 1) ≠ 0) : k = lenDg X := by
  have h1 := lenDg_le h
  rcases Nat.lt_or_ge (lenDg X) k with hlt | hge
  · rcases hk with hk | hk
    · omega
    · exact absurd (dg_out (lenDg_lt X) (by omega)) hk
  · omega
end Go.Sx
end

section
namespace Go.Proofs.Ytnkgniedhmnanaa
open Go Go.Sx Go.RowKit
set_option maxRecDepth 100000
def markR : List (Nat × FSpec) := [(1000000007, fun _ => none)]
def cxR : Cx := ⟨markR, [], 0, []⟩
def r64 (g : Nat → Int) : Nat → Nat → SC := fun i _ => .val (.int .u64 (g i))
def invPlus (a : Option Addr) (n c : Nat) (f : Nat → Int) (b : Option Addr) (m d : Nat) (h : Nat → Int) (P : Nat → (Nat → Int) → Int → Prop) : Inv where
  X := Nat × (Nat → Int) × Int × Nat
  tm y := slotsAt 53 [(0, .one (xsI a n c .u64 f)), (1, .one (xsI b m d .u64 h)), (5, .one (.sc (.slw 1 1 0 y.1 (y.1 + y.2.2.2)))), (6, .one (sI .u64 y.2.2.1)), (7, .one (sI .i64 (y.1 : Int)))]
  ob y := [.dead, .row 22 1 y.1 (r64 y.2.1) y.2.2.2]
  holds y := P y.1 y.2.1 y.2.2.1 ∧ y.1 ≤ max n m ∧ y.1 + y.2.2.2 ≤ maxLen
  less y := max n m - y.1
def invCmp (a : Option Addr) (n c : Nat) (f : Nat → Int) (b : Option Addr) (m d : Nat) (h : Nat → Int) (P : Nat → Prop) : Inv where
  X := Nat
  tm y := slotsAt 40 [(0, .one (xsI a n c .u64 f)), (1, .one (xsI b m d .u64 h)), (5, .one (sI .i64 ((y : Int) - 1)))]
  ob _ := []
  holds y := P y ∧ y ≤ max n m
  less y := y
def invLess (b : Option Addr) (m d : Nat) (h : Nat → Int) (n : Nat) (P : Nat → (Nat → Int) → Int → Prop) : Inv where
  X := Nat × (Nat → Int) × Int × Nat
  tm y := slotsAt 49 [(1, .one (xsI b m d .u64 h)), (5, .one (.sc (.slw 0 1 0 n (n + y.2.2.2)))), (6, .one (sI .u64 y.2.2.1)), (13, .one (sI .i64 (n : Int))), (14, .one (sI .i64 (y.1 : Int)))]
  ob y := [.row 22 1 n (r64 y.2.1) y.2.2.2]
  holds y := P y.1 y.2.1 y.2.2.1 ∧ y.1 ≤ n
  less y := n - y.1
def invShorn (f : Nat → Int) (P : Nat → Prop) : Inv where
  X := Option Addr × Nat × Nat
  tm y := slotsAt 21 [(0, .one (xsI y.1 y.2.1 y.2.2 .u64 f))]
  ob _ := []
  holds y := P y.2.1
  less y := y.2.1
def shornR (n : Nat) (f : Nat → Int) : List RS := [.s (lenDg (vn n f)) .u64 (dg (vn n f))]
def dgsC (n : Nat) (f : Nat → Int) : List Prop := [dgs n f, n ≤ 1000]
theorem vc_dOf (r : Nat → Int) (a : Nat) :
    OwesR Try.prog .none [] [] 20 Try.f25 [sU a] false [.s 8 .u64 r] =
    (∀ (c : Nat), 2 + c ≤ Go.maxLen → (2 ≤ 2 + c ∧ 2 + c ≤ Go.maxLen ∧ (2 + c) * 1 = 2 + c * 1) ∧ ∀ (c : Nat), 4 + c ≤ Go.maxLen → (4 ≤ 4 + c ∧ 4 + c ≤ Go.maxLen ∧ (4 + c) * 1 = 4 + c * 1) ∧ ∀ (c : Nat), 6 + c ≤ Go.maxLen → (6 ≤ 6 + c ∧ 6 + c ≤ Go.maxLen ∧ (6 + c) * 1 = 6 + c * 1) ∧ ∀ (c : Nat), 8 + c ≤ Go.maxLen → 8 = 8 ∧ 8 ≤ 8 + c ∧ ∀ (i : Nat), i < 8 → (intsL [SK.c (SC.val (Go.Value.int Go.IntKind.u64 ((limb a 0).tmod (4294967296 : Int)))), SK.c (SC.val (Go.Value.int Go.IntKind.u64 (Go.IntKind.u64.wrap ((limb a 0).tdiv (4294967296 : Int))))), SK.c (SC.val (Go.Value.int Go.IntKind.u64 ((limb a 1).tmod (4294967296 : Int)))), SK.c (SC.val (Go.Value.int Go.IntKind.u64 (Go.IntKind.u64.wrap ((limb a 1).tdiv (4294967296 : Int))))), SK.c (SC.val (Go.Value.int Go.IntKind.u64 ((limb a 2).tmod (4294967296 : Int)))), SK.c (SC.val (Go.Value.int Go.IntKind.u64 (Go.IntKind.u64.wrap ((limb a 2).tdiv (4294967296 : Int))))), SK.c (SC.val (Go.Value.int Go.IntKind.u64 ((limb a 3).tmod (4294967296 : Int)))), SK.c (SC.val (Go.Value.int Go.IntKind.u64 (Go.IntKind.u64.wrap ((limb a 3).tdiv (4294967296 : Int)))))]).getD i (0 : Int) = r i) := by kernel_rfl
theorem vc_dPlus (a : Option Addr) (n c : Nat) (f : Nat → Int) (b : Option Addr) (m d : Nat) (h : Nat → Int) (P : Nat → (Nat → Int) → Int → Prop) (k : Nat) (r : Nat → Int) :
    OwesR Try.prog cxR [] [(4, .inv1 (invPlus a n c f b m d h P))] 4 Try.f24 [xsI a n c .u64 f, xsI b m d .u64 h] false [.s k .u64 r] =
    (let x1 : Bool := Decidable.decide ((0 : Int) < (↑n : Int)); let x2 : Bool := Decidable.decide ((0 : Int) < (↑m : Int)); let x3 : Int := Go.IntKind.u64.wrap ((0 : Int) + f 0); let x5 : Int := Go.IntKind.u64.wrap (x3 + h 0); let x7 : Int := x5.tmod (4294967296 : Int); let x8 : Int := x3.tmod (4294967296 : Int); let x9 : Int := Go.IntKind.u64.wrap ((0 : Int) + h 0); let x10 : Int := x9.tmod (4294967296 : Int); (∀ (y : Nat × (Nat → Int) × Int × Nat), closedB (slotsAt 53 [(0, SV.one (xsI a n c Go.IntKind.u64 f)), (1, SV.one (xsI b m d Go.IntKind.u64 h)), (5, SV.one (SA.sc (SC.slw 1 1 0 y.fst (y.fst + y.snd.snd.snd)))), (6, SV.one (sI Go.IntKind.u64 y.snd.snd.fst)), (7, SV.one (sI Go.IntKind.i64 (↑y.fst : Int)))]) [SO.dead, SO.row (22 : Go.TypeId) 1 y.fst (r64 y.snd.fst) y.snd.snd.snd] = Bool.true) ∧ (∀ (y : Nat × (Nat → Int) × Int × Nat), P y.fst y.snd.fst y.snd.snd.fst ∧ y.fst ≤ Max.max n m ∧ y.fst + y.snd.snd.snd ≤ Go.maxLen → ((!Decidable.decide ((↑y.fst : Int) < (↑n : Int))) = Bool.true → (!Decidable.decide ((↑y.fst : Int) < (↑n : Int))) = Bool.true) ∧ ((!Decidable.decide ((↑y.fst : Int) < (↑n : Int))) = Bool.true → (!Decidable.decide ((↑y.fst : Int) < (↑n : Int))) = Bool.true) ∧ ((!Decidable.decide ((↑y.fst : Int) < (↑n : Int))) = Bool.true → (!Decidable.decide ((↑y.fst : Int) < (↑n : Int))) = Bool.true) ∧ (Decidable.decide ((↑y.fst : Int) < (↑n : Int)) = Bool.false → (!Decidable.decide ((↑y.fst : Int) < (↑n : Int))) = Bool.true) ∧ ((Decidable.decide ((↑y.fst : Int) < (↑n : Int)) || Decidable.decide ((↑y.fst : Int) < (↑m : Int))) = Bool.true → (Decidable.decide ((↑y.fst : Int) < (↑n : Int)) = Bool.true → ((0 : Int) ≤ (↑y.fst : Int) ∧ (↑y.fst : Int) < (↑n : Int)) ∧ (Decidable.decide ((↑y.fst : Int) < (↑m : Int)) = Bool.true → ((0 : Int) ≤ (↑y.fst : Int) ∧ (↑y.fst : Int) < (↑m : Int)) ∧ 0 = 0 ∧ y.fst = y.fst ∧ (y.fst ≤ y.fst + y.snd.snd.snd ∧ y.fst + y.snd.snd.snd ≤ Go.maxLen ∧ (y.fst + y.snd.snd.snd) * 1 = y.fst * 1 + y.snd.snd.snd) ∧ (y.fst + 1 ≤ Go.maxLen ∧ (y.fst + 1) * 8 ≤ 140737488355328) ∧ ∀ (c_1 : Nat), y.fst + 1 + c_1 ≤ Go.maxLen → ∃ (y' : Nat × (Nat → Int) × Int × Nat), (P y'.fst y'.snd.fst y'.snd.snd.fst ∧ y'.fst ≤ Max.max n m ∧ y'.fst + y'.snd.snd.snd ≤ Go.maxLen) ∧ (a = a ∧ n = n ∧ c = c ∧ ∀ (i : Nat), i < n → f i = f i) ∧ (b = b ∧ m = m ∧ d = d ∧ ∀ (i : Nat), i < m → h i = h i) ∧ (1 = 1 ∧ 1 = 1 ∧ 0 = 0 ∧ y.fst + 1 = y'.fst ∧ y.fst + 1 + c_1 = y'.fst + y'.snd.snd.snd) ∧ Go.IntKind.u64.wrap ((Go.IntKind.u64.wrap (Go.IntKind.u64.wrap (y.snd.snd.fst + f (↑y.fst : Int).toNat) + h (↑y.fst : Int).toNat)).tdiv (4294967296 : Int)) = y'.snd.snd.fst ∧ Go.IntKind.i64.wrap ((↑y.fst : Int) + (1 : Int)) = (↑y'.fst : Int) ∧ y.fst + 1 = y'.fst ∧ c_1 * 1 = y'.snd.snd.snd ∧ (∀ (i : Nat), i < y.fst + 1 → (bif Decidable.decide (i < y.fst) then y.snd.fst i else (Go.IntKind.u64.wrap (Go.IntKind.u64.wrap (y.snd.snd.fst + f (↑y.fst : Int).toNat) + h (↑y.fst : Int).toNat)).tmod (4294967296 : Int)) = y'.snd.fst i) ∧ Max.max n m - y'.fst < Max.max n m - y.fst) ∧ (Decidable.decide ((↑y.fst : Int) < (↑m : Int)) = Bool.false → 0 = 0 ∧ y.fst = y.fst ∧ (y.fst ≤ y.fst + y.snd.snd.snd ∧ y.fst + y.snd.snd.snd ≤ Go.maxLen ∧ (y.fst + y.snd.snd.snd) * 1 = y.fst * 1 + y.snd.snd.snd) ∧ (y.fst + 1 ≤ Go.maxLen ∧ (y.fst + 1) * 8 ≤ 140737488355328) ∧ ∀ (c_1 : Nat), y.fst + 1 + c_1 ≤ Go.maxLen → ∃ (y' : Nat × (Nat → Int) × Int × Nat), (P y'.fst y'.snd.fst y'.snd.snd.fst ∧ y'.fst ≤ Max.max n m ∧ y'.fst + y'.snd.snd.snd ≤ Go.maxLen) ∧ (a = a ∧ n = n ∧ c = c ∧ ∀ (i : Nat), i < n → f i = f i) ∧ (b = b ∧ m = m ∧ d = d ∧ ∀ (i : Nat), i < m → h i = h i) ∧ (1 = 1 ∧ 1 = 1 ∧ 0 = 0 ∧ y.fst + 1 = y'.fst ∧ y.fst + 1 + c_1 = y'.fst + y'.snd.snd.snd) ∧ Go.IntKind.u64.wrap ((Go.IntKind.u64.wrap (y.snd.snd.fst + f (↑y.fst : Int).toNat)).tdiv (4294967296 : Int)) = y'.snd.snd.fst ∧ Go.IntKind.i64.wrap ((↑y.fst : Int) + (1 : Int)) = (↑y'.fst : Int) ∧ y.fst + 1 = y'.fst ∧ c_1 * 1 = y'.snd.snd.snd ∧ (∀ (i : Nat), i < y.fst + 1 → (bif Decidable.decide (i < y.fst) then y.snd.fst i else (Go.IntKind.u64.wrap (y.snd.snd.fst + f (↑y.fst : Int).toNat)).tmod (4294967296 : Int)) = y'.snd.fst i) ∧ Max.max n m - y'.fst < Max.max n m - y.fst)) ∧ (Decidable.decide ((↑y.fst : Int) < (↑n : Int)) = Bool.false → (Decidable.decide ((↑y.fst : Int) < (↑m : Int)) = Bool.true → ((0 : Int) ≤ (↑y.fst : Int) ∧ (↑y.fst : Int) < (↑m : Int)) ∧ 0 = 0 ∧ y.fst = y.fst ∧ (y.fst ≤ y.fst + y.snd.snd.snd ∧ y.fst + y.snd.snd.snd ≤ Go.maxLen ∧ (y.fst + y.snd.snd.snd) * 1 = y.fst * 1 + y.snd.snd.snd) ∧ (y.fst + 1 ≤ Go.maxLen ∧ (y.fst + 1) * 8 ≤ 140737488355328) ∧ ∀ (c_1 : Nat), y.fst + 1 + c_1 ≤ Go.maxLen → ∃ (y' : Nat × (Nat → Int) × Int × Nat), (P y'.fst y'.snd.fst y'.snd.snd.fst ∧ y'.fst ≤ Max.max n m ∧ y'.fst + y'.snd.snd.snd ≤ Go.maxLen) ∧ (a = a ∧ n = n ∧ c = c ∧ ∀ (i : Nat), i < n → f i = f i) ∧ (b = b ∧ m = m ∧ d = d ∧ ∀ (i : Nat), i < m → h i = h i) ∧ (1 = 1 ∧ 1 = 1 ∧ 0 = 0 ∧ y.fst + 1 = y'.fst ∧ y.fst + 1 + c_1 = y'.fst + y'.snd.snd.snd) ∧ Go.IntKind.u64.wrap ((Go.IntKind.u64.wrap (y.snd.snd.fst + h (↑y.fst : Int).toNat)).tdiv (4294967296 : Int)) = y'.snd.snd.fst ∧ Go.IntKind.i64.wrap ((↑y.fst : Int) + (1 : Int)) = (↑y'.fst : Int) ∧ y.fst + 1 = y'.fst ∧ c_1 * 1 = y'.snd.snd.snd ∧ (∀ (i : Nat), i < y.fst + 1 → (bif Decidable.decide (i < y.fst) then y.snd.fst i else (Go.IntKind.u64.wrap (y.snd.snd.fst + h (↑y.fst : Int).toNat)).tmod (4294967296 : Int)) = y'.snd.fst i) ∧ Max.max n m - y'.fst < Max.max n m - y.fst) ∧ (Decidable.decide ((↑y.fst : Int) < (↑m : Int)) = Bool.false → 0 = 0 ∧ y.fst = y.fst ∧ (y.fst ≤ y.fst + y.snd.snd.snd ∧ y.fst + y.snd.snd.snd ≤ Go.maxLen ∧ (y.fst + y.snd.snd.snd) * 1 = y.fst * 1 + y.snd.snd.snd) ∧ (y.fst + 1 ≤ Go.maxLen ∧ (y.fst + 1) * 8 ≤ 140737488355328) ∧ ∀ (c_1 : Nat), y.fst + 1 + c_1 ≤ Go.maxLen → ∃ (y' : Nat × (Nat → Int) × Int × Nat), (P y'.fst y'.snd.fst y'.snd.snd.fst ∧ y'.fst ≤ Max.max n m ∧ y'.fst + y'.snd.snd.snd ≤ Go.maxLen) ∧ (a = a ∧ n = n ∧ c = c ∧ ∀ (i : Nat), i < n → f i = f i) ∧ (b = b ∧ m = m ∧ d = d ∧ ∀ (i : Nat), i < m → h i = h i) ∧ (1 = 1 ∧ 1 = 1 ∧ 0 = 0 ∧ y.fst + 1 = y'.fst ∧ y.fst + 1 + c_1 = y'.fst + y'.snd.snd.snd) ∧ Go.IntKind.u64.wrap (y.snd.snd.fst.tdiv (4294967296 : Int)) = y'.snd.snd.fst ∧ Go.IntKind.i64.wrap ((↑y.fst : Int) + (1 : Int)) = (↑y'.fst : Int) ∧ y.fst + 1 = y'.fst ∧ c_1 * 1 = y'.snd.snd.snd ∧ (∀ (i : Nat), i < y.fst + 1 → (bif Decidable.decide (i < y.fst) then y.snd.fst i else y.snd.snd.fst.tmod (4294967296 : Int)) = y'.snd.fst i) ∧ Max.max n m - y'.fst < Max.max n m - y.fst))) ∧ ((Decidable.decide ((↑y.fst : Int) < (↑n : Int)) || Decidable.decide ((↑y.fst : Int) < (↑m : Int))) = Bool.false → 0 = 0 ∧ y.fst = y.fst ∧ (y.fst ≤ y.fst + y.snd.snd.snd ∧ y.fst + y.snd.snd.snd ≤ Go.maxLen ∧ (y.fst + y.snd.snd.snd) * 1 = y.fst * 1 + y.snd.snd.snd) ∧ (y.fst + 1 ≤ Go.maxLen ∧ (y.fst + 1) * 8 ≤ 140737488355328) ∧ ∀ (c : Nat), y.fst + 1 + c ≤ Go.maxLen → 0 + (y.fst + 1) ≤ y.fst + 1 ∧ y.fst + 1 = k ∧ y.fst + 1 ≤ y.fst + 1 + c ∧ ∀ (i : Nat), i < k → (bif Decidable.decide (0 + i < y.fst) then y.snd.fst (0 + i) else y.snd.snd.fst) = r i)) ∧ ((!x1) = Bool.true → (!x1) = Bool.true) ∧ ((!x1) = Bool.true → (!x1) = Bool.true) ∧ ((!x1) = Bool.true → (!x1) = Bool.true) ∧ (x1 = Bool.false → (!x1) = Bool.true) ∧ ((x1 || x2) = Bool.true → (x1 = Bool.true → ((0 : Int) ≤ (0 : Int) ∧ (0 : Int) < (↑n : Int)) ∧ (x2 = Bool.true → ((0 : Int) ≤ (0 : Int) ∧ (0 : Int) < (↑m : Int)) ∧ (1 ≤ Go.maxLen ∧ 8 ≤ 140737488355328) ∧ ∀ (c_1 : Nat), 1 + c_1 ≤ Go.maxLen → ∃ (y' : Nat × (Nat → Int) × Int × Nat), (P y'.fst y'.snd.fst y'.snd.snd.fst ∧ y'.fst ≤ Max.max n m ∧ y'.fst + y'.snd.snd.snd ≤ Go.maxLen) ∧ (a = a ∧ n = n ∧ c = c ∧ ∀ (i : Nat), i < n → f i = f i) ∧ (b = b ∧ m = m ∧ d = d ∧ ∀ (i : Nat), i < m → h i = h i) ∧ (1 = 1 ∧ 1 = 1 ∧ 0 = 0 ∧ 1 = y'.fst ∧ 1 + c_1 = y'.fst + y'.snd.snd.snd) ∧ Go.IntKind.u64.wrap (x5.tdiv (4294967296 : Int)) = y'.snd.snd.fst ∧ (1 : Int) = (↑y'.fst : Int) ∧ 1 = y'.fst ∧ c_1 * 1 = y'.snd.snd.snd ∧ (∀ (i : Nat), i < 1 → x7 = y'.snd.fst i) ∧ True) ∧ (x2 = Bool.false → (1 ≤ Go.maxLen ∧ 8 ≤ 140737488355328) ∧ ∀ (c_1 : Nat), 1 + c_1 ≤ Go.maxLen → ∃ (y' : Nat × (Nat → Int) × Int × Nat), (P y'.fst y'.snd.fst y'.snd.snd.fst ∧ y'.fst ≤ Max.max n m ∧ y'.fst + y'.snd.snd.snd ≤ Go.maxLen) ∧ (a = a ∧ n = n ∧ c = c ∧ ∀ (i : Nat), i < n → f i = f i) ∧ (b = b ∧ m = m ∧ d = d ∧ ∀ (i : Nat), i < m → h i = h i) ∧ (1 = 1 ∧ 1 = 1 ∧ 0 = 0 ∧ 1 = y'.fst ∧ 1 + c_1 = y'.fst + y'.snd.snd.snd) ∧ Go.IntKind.u64.wrap (x3.tdiv (4294967296 : Int)) = y'.snd.snd.fst ∧ (1 : Int) = (↑y'.fst : Int) ∧ 1 = y'.fst ∧ c_1 * 1 = y'.snd.snd.snd ∧ (∀ (i : Nat), i < 1 → x8 = y'.snd.fst i) ∧ True)) ∧ (x1 = Bool.false → (x2 = Bool.true → ((0 : Int) ≤ (0 : Int) ∧ (0 : Int) < (↑m : Int)) ∧ (1 ≤ Go.maxLen ∧ 8 ≤ 140737488355328) ∧ ∀ (c_1 : Nat), 1 + c_1 ≤ Go.maxLen → ∃ (y' : Nat × (Nat → Int) × Int × Nat), (P y'.fst y'.snd.fst y'.snd.snd.fst ∧ y'.fst ≤ Max.max n m ∧ y'.fst + y'.snd.snd.snd ≤ Go.maxLen) ∧ (a = a ∧ n = n ∧ c = c ∧ ∀ (i : Nat), i < n → f i = f i) ∧ (b = b ∧ m = m ∧ d = d ∧ ∀ (i : Nat), i < m → h i = h i) ∧ (1 = 1 ∧ 1 = 1 ∧ 0 = 0 ∧ 1 = y'.fst ∧ 1 + c_1 = y'.fst + y'.snd.snd.snd) ∧ Go.IntKind.u64.wrap (x9.tdiv (4294967296 : Int)) = y'.snd.snd.fst ∧ (1 : Int) = (↑y'.fst : Int) ∧ 1 = y'.fst ∧ c_1 * 1 = y'.snd.snd.snd ∧ (∀ (i : Nat), i < 1 → x10 = y'.snd.fst i) ∧ True) ∧ (x2 = Bool.false → (1 ≤ Go.maxLen ∧ 8 ≤ 140737488355328) ∧ ∀ (c_1 : Nat), 1 + c_1 ≤ Go.maxLen → ∃ (y' : Nat × (Nat → Int) × Int × Nat), (P y'.fst y'.snd.fst y'.snd.snd.fst ∧ y'.fst ≤ Max.max n m ∧ y'.fst + y'.snd.snd.snd ≤ Go.maxLen) ∧ (a = a ∧ n = n ∧ c = c ∧ ∀ (i : Nat), i < n → f i = f i) ∧ (b = b ∧ m = m ∧ d = d ∧ ∀ (i : Nat), i < m → h i = h i) ∧ (1 = 1 ∧ 1 = 1 ∧ 0 = 0 ∧ 1 = y'.fst ∧ 1 + c_1 = y'.fst + y'.snd.snd.snd) ∧ (0 : Int) = y'.snd.snd.fst ∧ (1 : Int) = (↑y'.fst : Int) ∧ 1 = y'.fst ∧ c_1 * 1 = y'.snd.snd.snd ∧ (∀ (i : Nat), i < 1 → (0 : Int) = y'.snd.fst i) ∧ True))) ∧ ((x1 || x2) = Bool.false → (1 ≤ Go.maxLen ∧ 8 ≤ 140737488355328) ∧ ∀ (c : Nat), 1 + c ≤ Go.maxLen → 1 ≤ 1 ∧ 1 = k ∧ 1 ≤ 1 + c ∧ ∀ (i : Nat), i < k → (0 : Int) = r i)) := by kernel_rfl
theorem vc_compare (a : Option Addr) (n c : Nat) (f : Nat → Int) (b : Option Addr) (m d : Nat) (h : Nat → Int) (P : Nat → Prop) (r : Int) :
    OwesR Try.prog cxR [] [(2, .inv (invCmp a n c f b m d h P))] 4 Try.f26 [xsI a n c .u64 f, xsI b m d .u64 h] false [.v (sI .i64 r)] =
    ((∀ (y : Nat), closedB (slotsAt 40 [(0, SV.one (xsI a n c Go.IntKind.u64 f)), (1, SV.one (xsI b m d Go.IntKind.u64 h)), (5, SV.one (sI Go.IntKind.i64 ((↑y : Int) - (1 : Int))))]) [] = Bool.true) ∧ ∃ (y : Nat), (P y ∧ y ≤ Max.max n m) ∧ (a = a ∧ n = n ∧ c = c ∧ ∀ (i : Nat), i < n → f i = f i) ∧ (b = b ∧ m = m ∧ d = d ∧ ∀ (i : Nat), i < m → h i = h i) ∧ Go.IntKind.i64.wrap ((if (↑m : Int) > (↑n : Int) then (↑m : Int) else (↑n : Int)) - (1 : Int)) = (↑y : Int) - (1 : Int) ∧ ∀ (y : Nat), P y ∧ y ≤ Max.max n m → (Decidable.decide ((↑y : Int) - (1 : Int) ≥ (0 : Int)) = Bool.true → (Decidable.decide ((↑y : Int) - (1 : Int) < (↑n : Int)) = Bool.true → ((0 : Int) ≤ (↑y : Int) - (1 : Int) ∧ (↑y : Int) - (1 : Int) < (↑n : Int)) ∧ (Decidable.decide ((↑y : Int) - (1 : Int) < (↑m : Int)) = Bool.true → ((0 : Int) ≤ (↑y : Int) - (1 : Int) ∧ (↑y : Int) - (1 : Int) < (↑m : Int)) ∧ (Decidable.decide (f ((↑y : Int) - (1 : Int)).toNat < h ((↑y : Int) - (1 : Int)).toNat) = Bool.true → (-1 : Int) = r) ∧ (Decidable.decide (f ((↑y : Int) - (1 : Int)).toNat < h ((↑y : Int) - (1 : Int)).toNat) = Bool.false → (Decidable.decide (f ((↑y : Int) - (1 : Int)).toNat > h ((↑y : Int) - (1 : Int)).toNat) = Bool.true → (1 : Int) = r) ∧ (Decidable.decide (f ((↑y : Int) - (1 : Int)).toNat > h ((↑y : Int) - (1 : Int)).toNat) = Bool.false → ∃ (y' : Nat), (P y' ∧ y' ≤ Max.max n m) ∧ (a = a ∧ n = n ∧ c = c ∧ ∀ (i : Nat), i < n → f i = f i) ∧ (b = b ∧ m = m ∧ d = d ∧ ∀ (i : Nat), i < m → h i = h i) ∧ Go.IntKind.i64.wrap ((↑y : Int) - (1 : Int) - (1 : Int)) = (↑y' : Int) - (1 : Int) ∧ y' < y))) ∧ (Decidable.decide ((↑y : Int) - (1 : Int) < (↑m : Int)) = Bool.false → (Decidable.decide (f ((↑y : Int) - (1 : Int)).toNat < (0 : Int)) = Bool.true → (-1 : Int) = r) ∧ (Decidable.decide (f ((↑y : Int) - (1 : Int)).toNat < (0 : Int)) = Bool.false → (Decidable.decide (f ((↑y : Int) - (1 : Int)).toNat > (0 : Int)) = Bool.true → (1 : Int) = r) ∧ (Decidable.decide (f ((↑y : Int) - (1 : Int)).toNat > (0 : Int)) = Bool.false → ∃ (y' : Nat), (P y' ∧ y' ≤ Max.max n m) ∧ (a = a ∧ n = n ∧ c = c ∧ ∀ (i : Nat), i < n → f i = f i) ∧ (b = b ∧ m = m ∧ d = d ∧ ∀ (i : Nat), i < m → h i = h i) ∧ Go.IntKind.i64.wrap ((↑y : Int) - (1 : Int) - (1 : Int)) = (↑y' : Int) - (1 : Int) ∧ y' < y)))) ∧ (Decidable.decide ((↑y : Int) - (1 : Int) < (↑n : Int)) = Bool.false → (Decidable.decide ((↑y : Int) - (1 : Int) < (↑m : Int)) = Bool.true → ((0 : Int) ≤ (↑y : Int) - (1 : Int) ∧ (↑y : Int) - (1 : Int) < (↑m : Int)) ∧ (Decidable.decide ((0 : Int) < h ((↑y : Int) - (1 : Int)).toNat) = Bool.true → (-1 : Int) = r) ∧ (Decidable.decide ((0 : Int) < h ((↑y : Int) - (1 : Int)).toNat) = Bool.false → (Decidable.decide ((0 : Int) > h ((↑y : Int) - (1 : Int)).toNat) = Bool.true → (1 : Int) = r) ∧ (Decidable.decide ((0 : Int) > h ((↑y : Int) - (1 : Int)).toNat) = Bool.false → ∃ (y' : Nat), (P y' ∧ y' ≤ Max.max n m) ∧ (a = a ∧ n = n ∧ c = c ∧ ∀ (i : Nat), i < n → f i = f i) ∧ (b = b ∧ m = m ∧ d = d ∧ ∀ (i : Nat), i < m → h i = h i) ∧ Go.IntKind.i64.wrap ((↑y : Int) - (1 : Int) - (1 : Int)) = (↑y' : Int) - (1 : Int) ∧ y' < y))) ∧ (Decidable.decide ((↑y : Int) - (1 : Int) < (↑m : Int)) = Bool.false → ∃ (y' : Nat), (P y' ∧ y' ≤ Max.max n m) ∧ (a = a ∧ n = n ∧ c = c ∧ ∀ (i : Nat), i < n → f i = f i) ∧ (b = b ∧ m = m ∧ d = d ∧ ∀ (i : Nat), i < m → h i = h i) ∧ Go.IntKind.i64.wrap ((↑y : Int) - (1 : Int) - (1 : Int)) = (↑y' : Int) - (1 : Int) ∧ y' < y))) ∧ (Decidable.decide ((↑y : Int) - (1 : Int) ≥ (0 : Int)) = Bool.false → (0 : Int) = r)) := by kernel_rfl
theorem vc_dLess (a : Option Addr) (n c : Nat) (f : Nat → Int) (b : Option Addr) (m d : Nat) (h : Nat → Int) (P : Nat → (Nat → Int) → Int → Prop) (r : Nat → Int) :
    OwesR Try.prog cxR [] [(4, .inv (invLess b m d h n P))] 4 Try.f42 [xsI a n c .u64 f, xsI b m d .u64 h] false [.s n .u64 r] =
    (let x1 : Nat := 0 + n; (0 ≤ 0 ∧ 0 ≤ Go.maxLen ∧ 0 = 0) ∧ (x1 ≤ Go.maxLen ∧ x1 * 8 ≤ 140737488355328) ∧ ∀ (c : Nat), x1 + c ≤ Go.maxLen → (∀ (y : Nat × (Nat → Int) × Int × Nat), closedB (slotsAt 49 [(1, SV.one (xsI b m d Go.IntKind.u64 h)), (5, SV.one (SA.sc (SC.slw 0 1 0 n (n + y.snd.snd.snd)))), (6, SV.one (sI Go.IntKind.u64 y.snd.snd.fst)), (13, SV.one (sI Go.IntKind.i64 (↑n : Int))), (14, SV.one (sI Go.IntKind.i64 (↑y.fst : Int)))]) [SO.row (22 : Go.TypeId) 1 n (r64 y.snd.fst) y.snd.snd.snd] = Bool.true) ∧ ∃ (y : Nat × (Nat → Int) × Int × Nat), (P y.fst y.snd.fst y.snd.snd.fst ∧ y.fst ≤ n) ∧ (b = b ∧ m = m ∧ d = d ∧ ∀ (i : Nat), i < m → h i = h i) ∧ (0 = 0 ∧ 1 = 1 ∧ 0 = 0 ∧ x1 = n ∧ x1 + c = n + y.snd.snd.snd) ∧ (0 : Int) = y.snd.snd.fst ∧ (↑x1 : Int) = (↑n : Int) ∧ (0 : Int) = (↑y.fst : Int) ∧ x1 = n ∧ c * 1 = y.snd.snd.snd ∧ (∀ (i : Nat), i < x1 → f (i - 0) = y.snd.fst i) ∧ ∀ (y : Nat × (Nat → Int) × Int × Nat), P y.fst y.snd.fst y.snd.snd.fst ∧ y.fst ≤ n → (Decidable.decide ((↑y.fst : Int) < (↑n : Int)) = Bool.true → (Decidable.decide ((↑y.fst : Int) < (↑m : Int)) = Bool.true → ((0 : Int) ≤ (↑y.fst : Int) ∧ (↑y.fst : Int) < (↑m : Int)) ∧ ((0 : Int) ≤ (↑y.fst : Int) ∧ (↑y.fst : Int) < (↑n : Int)) ∧ 0 + (↑y.fst : Int).toNat < n ∧ (Decidable.decide (y.snd.fst (0 + (↑y.fst : Int).toNat) < Go.IntKind.u64.wrap (y.snd.snd.fst + h (↑y.fst : Int).toNat)) = Bool.true → ((0 : Int) ≤ (↑y.fst : Int) ∧ (↑y.fst : Int) < (↑n : Int)) ∧ 0 + (↑y.fst : Int).toNat < n ∧ ((0 : Int) ≤ (↑y.fst : Int) ∧ (↑y.fst : Int) < (↑n : Int)) ∧ 0 + (↑y.fst : Int).toNat < n ∧ ((0 : Int) ≤ (↑y.fst : Int) ∧ (↑y.fst : Int) < (↑n : Int)) ∧ 0 + (↑y.fst : Int).toNat < n ∧ ((0 : Int) ≤ (↑y.fst : Int) ∧ (↑y.fst : Int) < (↑n : Int)) ∧ 0 + (↑y.fst : Int).toNat < n ∧ ∃ (y' : Nat × (Nat → Int) × Int × Nat), (P y'.fst y'.snd.fst y'.snd.snd.fst ∧ y'.fst ≤ n) ∧ (b = b ∧ m = m ∧ d = d ∧ ∀ (i : Nat), i < m → h i = h i) ∧ (0 = 0 ∧ 1 = 1 ∧ 0 = 0 ∧ n = n ∧ n + y.snd.snd.snd = n + y'.snd.snd.snd) ∧ (1 : Int) = y'.snd.snd.fst ∧ (↑n : Int) = (↑n : Int) ∧ Go.IntKind.i64.wrap ((↑y.fst : Int) + (1 : Int)) = (↑y'.fst : Int) ∧ n = n ∧ y.snd.snd.snd = y'.snd.snd.snd ∧ (∀ (i : Nat), i < n → (bif Decidable.decide (i = 0 + (↑y.fst : Int).toNat) then Go.IntKind.u64.wrap ((bif Decidable.decide (0 + (↑y.fst : Int).toNat = 0 + (↑y.fst : Int).toNat) then Go.IntKind.u64.wrap (y.snd.fst (0 + (↑y.fst : Int).toNat) + (4294967296 : Int)) else y.snd.fst (0 + (↑y.fst : Int).toNat)) - Go.IntKind.u64.wrap (y.snd.snd.fst + h (↑y.fst : Int).toNat)) else bif Decidable.decide (i = 0 + (↑y.fst : Int).toNat) then Go.IntKind.u64.wrap (y.snd.fst (0 + (↑y.fst : Int).toNat) + (4294967296 : Int)) else y.snd.fst i) = y'.snd.fst i) ∧ n - y'.fst < n - y.fst) ∧ (Decidable.decide (y.snd.fst (0 + (↑y.fst : Int).toNat) < Go.IntKind.u64.wrap (y.snd.snd.fst + h (↑y.fst : Int).toNat)) = Bool.false → ((0 : Int) ≤ (↑y.fst : Int) ∧ (↑y.fst : Int) < (↑n : Int)) ∧ 0 + (↑y.fst : Int).toNat < n ∧ ((0 : Int) ≤ (↑y.fst : Int) ∧ (↑y.fst : Int) < (↑n : Int)) ∧ 0 + (↑y.fst : Int).toNat < n ∧ ∃ (y' : Nat × (Nat → Int) × Int × Nat), (P y'.fst y'.snd.fst y'.snd.snd.fst ∧ y'.fst ≤ n) ∧ (b = b ∧ m = m ∧ d = d ∧ ∀ (i : Nat), i < m → h i = h i) ∧ (0 = 0 ∧ 1 = 1 ∧ 0 = 0 ∧ n = n ∧ n + y.snd.snd.snd = n + y'.snd.snd.snd) ∧ (0 : Int) = y'.snd.snd.fst ∧ (↑n : Int) = (↑n : Int) ∧ Go.IntKind.i64.wrap ((↑y.fst : Int) + (1 : Int)) = (↑y'.fst : Int) ∧ n = n ∧ y.snd.snd.snd = y'.snd.snd.snd ∧ (∀ (i : Nat), i < n → (bif Decidable.decide (i = 0 + (↑y.fst : Int).toNat) then Go.IntKind.u64.wrap (y.snd.fst (0 + (↑y.fst : Int).toNat) - Go.IntKind.u64.wrap (y.snd.snd.fst + h (↑y.fst : Int).toNat)) else y.snd.fst i) = y'.snd.fst i) ∧ n - y'.fst < n - y.fst)) ∧ (Decidable.decide ((↑y.fst : Int) < (↑m : Int)) = Bool.false → ((0 : Int) ≤ (↑y.fst : Int) ∧ (↑y.fst : Int) < (↑n : Int)) ∧ 0 + (↑y.fst : Int).toNat < n ∧ (Decidable.decide (y.snd.fst (0 + (↑y.fst : Int).toNat) < y.snd.snd.fst) = Bool.true → ((0 : Int) ≤ (↑y.fst : Int) ∧ (↑y.fst : Int) < (↑n : Int)) ∧ 0 + (↑y.fst : Int).toNat < n ∧ ((0 : Int) ≤ (↑y.fst : Int) ∧ (↑y.fst : Int) < (↑n : Int)) ∧ 0 + (↑y.fst : Int).toNat < n ∧ ((0 : Int) ≤ (↑y.fst : Int) ∧ (↑y.fst : Int) < (↑n : Int)) ∧ 0 + (↑y.fst : Int).toNat < n ∧ ((0 : Int) ≤ (↑y.fst : Int) ∧ (↑y.fst : Int) < (↑n : Int)) ∧ 0 + (↑y.fst : Int).toNat < n ∧ ∃ (y' : Nat × (Nat → Int) × Int × Nat), (P y'.fst y'.snd.fst y'.snd.snd.fst ∧ y'.fst ≤ n) ∧ (b = b ∧ m = m ∧ d = d ∧ ∀ (i : Nat), i < m → h i = h i) ∧ (0 = 0 ∧ 1 = 1 ∧ 0 = 0 ∧ n = n ∧ n + y.snd.snd.snd = n + y'.snd.snd.snd) ∧ (1 : Int) = y'.snd.snd.fst ∧ (↑n : Int) = (↑n : Int) ∧ Go.IntKind.i64.wrap ((↑y.fst : Int) + (1 : Int)) = (↑y'.fst : Int) ∧ n = n ∧ y.snd.snd.snd = y'.snd.snd.snd ∧ (∀ (i : Nat), i < n → (bif Decidable.decide (i = 0 + (↑y.fst : Int).toNat) then Go.IntKind.u64.wrap ((bif Decidable.decide (0 + (↑y.fst : Int).toNat = 0 + (↑y.fst : Int).toNat) then Go.IntKind.u64.wrap (y.snd.fst (0 + (↑y.fst : Int).toNat) + (4294967296 : Int)) else y.snd.fst (0 + (↑y.fst : Int).toNat)) - y.snd.snd.fst) else bif Decidable.decide (i = 0 + (↑y.fst : Int).toNat) then Go.IntKind.u64.wrap (y.snd.fst (0 + (↑y.fst : Int).toNat) + (4294967296 : Int)) else y.snd.fst i) = y'.snd.fst i) ∧ n - y'.fst < n - y.fst) ∧ (Decidable.decide (y.snd.fst (0 + (↑y.fst : Int).toNat) < y.snd.snd.fst) = Bool.false → ((0 : Int) ≤ (↑y.fst : Int) ∧ (↑y.fst : Int) < (↑n : Int)) ∧ 0 + (↑y.fst : Int).toNat < n ∧ ((0 : Int) ≤ (↑y.fst : Int) ∧ (↑y.fst : Int) < (↑n : Int)) ∧ 0 + (↑y.fst : Int).toNat < n ∧ ∃ (y' : Nat × (Nat → Int) × Int × Nat), (P y'.fst y'.snd.fst y'.snd.snd.fst ∧ y'.fst ≤ n) ∧ (b = b ∧ m = m ∧ d = d ∧ ∀ (i : Nat), i < m → h i = h i) ∧ (0 = 0 ∧ 1 = 1 ∧ 0 = 0 ∧ n = n ∧ n + y.snd.snd.snd = n + y'.snd.snd.snd) ∧ (0 : Int) = y'.snd.snd.fst ∧ (↑n : Int) = (↑n : Int) ∧ Go.IntKind.i64.wrap ((↑y.fst : Int) + (1 : Int)) = (↑y'.fst : Int) ∧ n = n ∧ y.snd.snd.snd = y'.snd.snd.snd ∧ (∀ (i : Nat), i < n → (bif Decidable.decide (i = 0 + (↑y.fst : Int).toNat) then Go.IntKind.u64.wrap (y.snd.fst (0 + (↑y.fst : Int).toNat) - y.snd.snd.fst) else y.snd.fst i) = y'.snd.fst i) ∧ n - y'.fst < n - y.fst))) ∧ (Decidable.decide ((↑y.fst : Int) < (↑n : Int)) = Bool.false → x1 ≤ n ∧ n = n ∧ n ≤ n + y.snd.snd.snd ∧ ∀ (i : Nat), i < n → y.snd.fst (0 + i) = r i)) := by kernel_rfl
theorem vc_shorn (a : Option Addr) (n c : Nat) (f : Nat → Int) (P : Nat → Prop) (k : Nat) (r : Nat → Int) :
    OwesR Try.prog cxR [] [(1, .inv (invShorn f P))] 4 Try.f23 [xsI a n c .u64 f] true [.s k .u64 r] =
    ((∀ (y : Option Go.Addr × Nat × Nat), closedB (slotsAt 21 [(0, SV.one (xsI y.fst y.snd.fst y.snd.snd Go.IntKind.u64 f))]) [] = Bool.true) ∧ ∃ (y : Option Go.Addr × Nat × Nat), P y.snd.fst ∧ (a = y.fst ∧ n = y.snd.fst ∧ c = y.snd.snd ∧ ∀ (i : Nat), i < n → f i = f i) ∧ ∀ (y : Option Go.Addr × Nat × Nat), P y.snd.fst → (Decidable.decide ((↑y.snd.fst : Int) > (0 : Int)) = Bool.true → Decidable.decide ((↑y.snd.fst : Int) > (0 : Int)) = Bool.true) ∧ (Decidable.decide ((↑y.snd.fst : Int) > (0 : Int)) = Bool.true → Decidable.decide ((↑y.snd.fst : Int) > (0 : Int)) = Bool.true) ∧ (Decidable.decide ((↑y.snd.fst : Int) > (0 : Int)) = Bool.true → Decidable.decide ((↑y.snd.fst : Int) > (0 : Int)) = Bool.true) ∧ (Decidable.decide ((↑y.snd.fst : Int) > (0 : Int)) = Bool.true → Decidable.decide ((↑y.snd.fst : Int) > (0 : Int)) = Bool.true) ∧ (Decidable.decide ((↑y.snd.fst : Int) > (0 : Int)) = Bool.true → (0 : Int) ≤ Go.IntKind.i64.wrap ((↑y.snd.fst : Int) - (1 : Int)) ∧ Go.IntKind.i64.wrap ((↑y.snd.fst : Int) - (1 : Int)) < (↑y.snd.fst : Int)) ∧ (Decidable.decide ((↑y.snd.fst : Int) > (0 : Int)) = Bool.true → Decidable.decide ((↑y.snd.fst : Int) > (0 : Int)) = Bool.true) ∧ (Decidable.decide ((↑y.snd.fst : Int) > (0 : Int)) = Bool.true → Decidable.decide ((↑y.snd.fst : Int) > (0 : Int)) = Bool.true) ∧ (Decidable.decide ((↑y.snd.fst : Int) > (0 : Int)) = Bool.true → Decidable.decide ((↑y.snd.fst : Int) > (0 : Int)) = Bool.true) ∧ ((Decidable.decide ((↑y.snd.fst : Int) > (0 : Int)) && f (Go.IntKind.i64.wrap ((↑y.snd.fst : Int) - (1 : Int))).toNat == (0 : Int)) = Bool.true → ((0 : Int) ≤ Go.IntKind.i64.wrap ((↑y.snd.fst : Int) - (1 : Int)) ∧ Go.IntKind.i64.wrap ((↑y.snd.fst : Int) - (1 : Int)) ≤ (↑y.snd.fst : Int)) ∧ ∃ (y' : Option Go.Addr × Nat × Nat), P y'.snd.fst ∧ (y.fst = y'.fst ∧ (Go.IntKind.i64.wrap ((↑y.snd.fst : Int) - (1 : Int))).toNat = y'.snd.fst ∧ y.snd.snd = y'.snd.snd ∧ ∀ (i : Nat), i < (Go.IntKind.i64.wrap ((↑y.snd.fst : Int) - (1 : Int))).toNat → f i = f i) ∧ y'.snd.fst < y.snd.fst) ∧ ((Decidable.decide ((↑y.snd.fst : Int) > (0 : Int)) && f (Go.IntKind.i64.wrap ((↑y.snd.fst : Int) - (1 : Int))).toNat == (0 : Int)) = Bool.false → y.snd.fst = k ∧ ∀ (i : Nat), i < k → f i = r i)) := by kernel_rfl
end Go.Proofs.Ytnkgniedhmnanaa
end

section
namespace Go.Proofs.Ytnkgniedhmnanaa
open Go Go.Sx Go.RowKit
theorem wrap64 {x : Int} (h : 0 ≤ x ∧ x < 18446744073709551616) : IntKind.u64.wrap x = x := by rw [IntKind.wrap_u64]; omega
theorem wrapi {x : Int} (h : -9223372036854775808 ≤ x ∧ x < 9223372036854775808) : IntKind.i64.wrap x = x := by rw [IntKind.wrap_i64]; omega
theorem maxLen_eq : maxLen = 9223372036854775807 := rfl
theorem plus_round {a : Option Addr} {n c : Nat} {f : Nat → Int} {b : Option Addr} {m d : Nat} {h : Nat → Int} {X Y i c1 : Nat} {g : Nat → Int} {k s : Int} {M : Nat} (hM : M = max n m) (hn : n ≤ 1000) (hm : m ≤ 1000) (hP : PlusP X Y i g k) (hi : i < M) (hs : s = k + dg X i + dg Y i) (hc : i + 1 + c1 ≤ maxLen) :
    ∃ y' : Nat × (Nat → Int) × Int × Nat, (PlusP X Y y'.1 y'.2.1 y'.2.2.1 ∧ y'.1 ≤ M ∧ y'.1 + y'.2.2.2 ≤ maxLen) ∧ (a = a ∧ n = n ∧ c = c ∧ ∀ i, i < n → f i = f i) ∧ (b = b ∧ m = m ∧ d = d ∧ ∀ i, i < m → h i = h i) ∧ (1 = 1 ∧ 1 = 1 ∧ 0 = 0 ∧ i + 1 = y'.1 ∧ i + 1 + c1 = y'.1 + y'.2.2.2) ∧ IntKind.u64.wrap (s.tdiv 4294967296) = y'.2.2.1 ∧ IntKind.i64.wrap ((i : Int) + 1) = (y'.1 : Int) ∧ i + 1 = y'.1 ∧ c1 * 1 = y'.2.2.2 ∧ (∀ j, j < i + 1 → (bif decide (j < i) then g j else s.tmod 4294967296) = y'.2.1 j) ∧ M - y'.1 < M - i := by
  refine ⟨(i + 1, _, _, c1), ⟨hP.step hs, by show i + 1 ≤ M; omega, hc⟩, ⟨rfl, rfl, rfl, fun _ _ => rfl⟩, ⟨rfl, rfl, rfl, fun _ _ => rfl⟩, ⟨rfl, rfl, rfl, rfl, rfl⟩, rfl, ?_, rfl, Nat.mul_one _, fun _ _ => rfl, by show M - (i + 1) < M - i; omega⟩
  rw [wrapi (by omega)]
  rfl
theorem plus_first {a : Option Addr} {n c : Nat} {f : Nat → Int} {b : Option Addr} {m d : Nat} {h : Nat → Int} {X Y c1 : Nat} {s : Int} {M : Nat} (hi : 0 < M) (hs : s = dg X 0 + dg Y 0) (hc : 1 + c1 ≤ maxLen) :
    ∃ y' : Nat × (Nat → Int) × Int × Nat, (PlusP X Y y'.1 y'.2.1 y'.2.2.1 ∧ y'.1 ≤ M ∧ y'.1 + y'.2.2.2 ≤ maxLen) ∧ (a = a ∧ n = n ∧ c = c ∧ ∀ i, i < n → f i = f i) ∧ (b = b ∧ m = m ∧ d = d ∧ ∀ i, i < m → h i = h i) ∧ (1 = 1 ∧ 1 = 1 ∧ 0 = 0 ∧ 1 = y'.1 ∧ 1 + c1 = y'.1 + y'.2.2.2) ∧ IntKind.u64.wrap (s.tdiv 4294967296) = y'.2.2.1 ∧ (1 : Int) = (y'.1 : Int) ∧ 1 = y'.1 ∧ c1 * 1 = y'.2.2.2 ∧ (∀ j, j < 1 → s.tmod 4294967296 = y'.2.1 j) ∧ True := by
  refine ⟨(1, _, _, c1), ⟨(PlusP.start X Y fun _ => 0).step (s := s) (by rw [hs]; omega), hi, hc⟩, ⟨rfl, rfl, rfl, fun _ _ => rfl⟩, ⟨rfl, rfl, rfl, fun _ _ => rfl⟩, ⟨rfl, rfl, rfl, rfl, rfl⟩, rfl, rfl, rfl, Nat.mul_one _, fun j hj => ?_, trivial⟩
  show _ = (bif decide (j < 0) then (0 : Int) else s.tmod 4294967296)
  simp
theorem ok_dPlus (a : Option Addr) (n c : Nat) (f : Nat → Int) (b : Option Addr) (m d : Nat) (h : Nat → Int) (hf : dgs n f) (hn : n ≤ 1000) (hh : dgs m h) (hm : m ≤ 1000) :
    OwesR Try.prog cxR [] [(4, .inv1 (invPlus a n c f b m d h (PlusP (vn n f) (vn m h))))] 4 Try.f24 [xsI a n c .u64 f, xsI b m d .u64 h] false [.s (max n m + 1) .u64 (dg (vn n f + vn m h))] := by
  rw [vc_dPlus]
  have hfi : ∀ i, i < n → f i = dg (vn n f) i := fun i hi => dg_in hf hi
  have hfo : ∀ i, n ≤ i → dg (vn n f) i = 0 := fun i hi => dg_past hf hi
  have hhi : ∀ i, i < m → h i = dg (vn m h) i := fun i hi => dg_in hh hi
  have hho : ∀ i, m ≤ i → dg (vn m h) i = 0 := fun i hi => dg_past hh hi
  have hXr := dg_range (vn n f)
  have hYr := dg_range (vn m h)
  have hX := vn_lt hf
  have hY := vn_lt hh
  generalize vn n f = X at *
  generalize vn m h = Y at *
  have hL := maxLen_eq
  obtain ⟨M, hM⟩ : ∃ M, M = max n m := ⟨_, rfl⟩
  rw [← hM]
  have hM1 : n ≤ M ∧ m ≤ M ∧ M ≤ 1000 := by omega
  have hXM : X < 4294967296 ^ M := Nat.lt_of_lt_of_le hX (Nat.pow_le_pow_right (by decide) hM1.1)
  have hYM : Y < 4294967296 ^ M := Nat.lt_of_lt_of_le hY (Nat.pow_le_pow_right (by decide) hM1.2.1)
  intro x1 x2 x3 x5 x7 x8 x9 x10
  refine ⟨fun y => rfl, fun ⟨i, g, k, sp⟩ ⟨hP, hi, hs⟩ => ?_, id, id, id, fun h => by rw [h]; rfl, fun hor => ⟨fun h1 => ⟨?_, fun h2 => ?_, fun h2 => ?_⟩, fun h1 => ⟨fun h2 => ?_, fun h2 => ?_⟩⟩, fun h0 => ?_⟩
  · have hP : PlusP X Y i g k := hP
    have hi : i ≤ M := hi
    have hs : i + sp ≤ maxLen := hs
    have hk := hP.c1
    have xr := hXr i
    have yr := hYr i
    have big : i + 1 ≤ maxLen ∧ (i + 1) * 8 ≤ 140737488355328 := by omega
    have cap : i ≤ i + sp ∧ i + sp ≤ maxLen ∧ (i + sp) * 1 = i * 1 + sp := by omega
    refine ⟨id, id, id, fun h => by rw [h]; rfl, fun hor => ⟨fun h1 => ⟨?_, fun h2 => ⟨?_, rfl, rfl, cap, big, fun c1 hc => ?_⟩, fun h2 => ⟨rfl, rfl, cap, big, fun c1 hc => ?_⟩⟩, fun h1 => ⟨fun h2 => ⟨?_, rfl, rfl, cap, big, fun c1 hc => ?_⟩, fun h2 => ?_⟩⟩, fun h0 => ⟨rfl, rfl, cap, big, fun c1 hc => ?_⟩⟩
    · have := of_decide_eq_true h1; exact ⟨by show (0 : Int) ≤ (i : Int); omega, this⟩
    · have := of_decide_eq_true h2; exact ⟨by show (0 : Int) ≤ (i : Int); omega, this⟩
    · have h1 : (i : Int) < (n : Int) := of_decide_eq_true h1
      have h2 : (i : Int) < (m : Int) := of_decide_eq_true h2
      refine plus_round (M := M) hM hn hm hP (by omega) ?_ hc
      simp only [Int.toNat_natCast]
      rw [hfi i (by omega), hhi i (by omega), wrap64 (x := k + dg X i) (by omega), wrap64 (by omega)]
    · have h1 : (i : Int) < (n : Int) := of_decide_eq_true h1
      have h2 : ¬ (i : Int) < (m : Int) := of_decide_eq_false h2
      refine plus_round (M := M) hM hn hm hP (by omega) ?_ hc
      simp only [Int.toNat_natCast]
      rw [hfi i (by omega), hho i (by omega), wrap64 (x := k + dg X i) (by omega), Int.add_zero]
    · have := of_decide_eq_true h2; exact ⟨by show (0 : Int) ≤ (i : Int); omega, this⟩
    · have h1 : ¬ (i : Int) < (n : Int) := of_decide_eq_false h1
      have h2 : (i : Int) < (m : Int) := of_decide_eq_true h2
      refine plus_round (M := M) hM hn hm hP (by omega) ?_ hc
      simp only [Int.toNat_natCast]
      rw [hhi i (by omega), hfo i (by omega), wrap64 (x := k + dg Y i) (by omega), Int.add_zero]
    · exfalso
      simp only at h1 h2 hor
      rw [h1, h2] at hor
      cases hor
    · have hor : (decide ((i : Int) < (n : Int)) || decide ((i : Int) < (m : Int))) = false := h0
      simp only [Bool.or_eq_false_iff, decide_eq_false_iff_not] at hor
      have e : i = M := by omega
      subst e
      refine ⟨by show 0 + (i + 1) ≤ i + 1; omega, rfl, by show i + 1 ≤ i + 1 + c1; omega, ?_⟩
      obtain ⟨q1, q2, q3⟩ := hP
      rw [Nat.mod_eq_of_lt hXM, Nat.mod_eq_of_lt hYM] at q3
      intro j hj
      have key := dg_eq (X := X + Y) (dgs_app (v := k) q1 (by omega)) (by rw [vz_app, q3, Int.natCast_add]) j hj
      rw [← key]
      show (bif decide (0 + j < i) then g (0 + j) else k) = _
      rw [Nat.zero_add]
  · have g1 : (0 : Int) < (n : Int) := of_decide_eq_true h1
    exact ⟨by omega, g1⟩
  · have g1 : (0 : Int) < (n : Int) := of_decide_eq_true h1
    have g2 : (0 : Int) < (m : Int) := of_decide_eq_true h2
    refine ⟨⟨by omega, g2⟩, by omega, fun c1 hc => ?_⟩
    refine plus_first (X := X) (Y := Y) (M := M) (s := x5) (by omega) ?_ hc
    have r1 := hXr 0
    have r2 := hYr 0
    simp only [x5, x3]
    rw [hfi 0 (by omega), hhi 0 (by omega), Int.zero_add, wrap64 (x := dg X 0) (by omega), wrap64 (by omega)]
  · have g1 : (0 : Int) < (n : Int) := of_decide_eq_true h1
    have g2 : ¬ (0 : Int) < (m : Int) := of_decide_eq_false h2
    refine ⟨by omega, fun c1 hc => ?_⟩
    refine plus_first (X := X) (Y := Y) (M := M) (s := x3) (by omega) ?_ hc
    have r1 := hXr 0
    simp only [x3]
    rw [hfi 0 (by omega), hho 0 (by omega), Int.zero_add, wrap64 (x := dg X 0) (by omega), Int.add_zero]
  · have g1 : ¬ (0 : Int) < (n : Int) := of_decide_eq_false h1
    have g2 : (0 : Int) < (m : Int) := of_decide_eq_true h2
    refine ⟨⟨by omega, g2⟩, by omega, fun c1 hc => ?_⟩
    refine plus_first (X := X) (Y := Y) (M := M) (s := x9) (by omega) ?_ hc
    have r1 := hYr 0
    simp only [x9]
    rw [hhi 0 (by omega), hfo 0 (by omega), Int.zero_add, wrap64 (x := dg Y 0) (by omega)]
  · exfalso
    rw [h1, h2] at hor
    cases hor
  · refine ⟨by omega, fun c1 hc => ?_⟩
    have h0 : (decide ((0 : Int) < (n : Int)) || decide ((0 : Int) < (m : Int))) = false := h0
    simp only [Bool.or_eq_false_iff, decide_eq_false_iff_not] at h0
    have e : M = 0 := by omega
    subst e
    have eX : X = 0 := by simpa using hXM
    have eY : Y = 0 := by simpa using hYM
    subst eX eY
    refine ⟨Nat.le_refl _, rfl, by omega, fun i hi => ?_⟩
    rw [dg_out (n := 0) (by decide) (by omega)]
end Go.Proofs.Ytnkgniedhmnanaa
end

section
namespace Go.Proofs.Ytnkgniedhmnanaa
open Go Go.Sx Go.RowKit
theorem ok_compare (a : Option Addr) (n c : Nat) (f : Nat → Int) (b : Option Addr) (m d : Nat) (h : Nat → Int) (hf : dgs n f) (hn : n ≤ 1000) (hh : dgs m h) (hm : m ≤ 1000) :
    OwesR Try.prog cxR [] [(2, .inv (invCmp a n c f b m d h fun k => vn n f / 4294967296 ^ k = vn m h / 4294967296 ^ k))] 4 Try.f26 [xsI a n c .u64 f, xsI b m d .u64 h] false [.v (sI .i64 (cmpI (vn n f) (vn m h)))] := by
  rw [vc_compare]
  have hfi : ∀ i, i < n → f i = dg (vn n f) i := fun i hi => dg_in hf hi
  have hfo : ∀ i, n ≤ i → dg (vn n f) i = 0 := fun i hi => dg_past hf hi
  have hhi : ∀ i, i < m → h i = dg (vn m h) i := fun i hi => dg_in hh hi
  have hho : ∀ i, m ≤ i → dg (vn m h) i = 0 := fun i hi => dg_past hh hi
  have hX := vn_lt hf
  have hY := vn_lt hh
  generalize vn n f = X at *
  generalize vn m h = Y at *
  obtain ⟨M, hM⟩ : ∃ M, M = max n m := ⟨_, rfl⟩
  rw [← hM]
  have hM1 : n ≤ M ∧ m ≤ M ∧ M ≤ 1000 := by omega
  have hXM : X < 4294967296 ^ M := Nat.lt_of_lt_of_le hX (Nat.pow_le_pow_right (by decide) hM1.1)
  have hYM : Y < 4294967296 ^ M := Nat.lt_of_lt_of_le hY (Nat.pow_le_pow_right (by decide) hM1.2.1)
  have tl : ∀ k, X / 4294967296 ^ (k + 1) = Y / 4294967296 ^ (k + 1) → dg X k < dg Y k → (-1 : Int) = cmpI X Y := fun k e hd => by
    unfold cmpI; rw [if_pos (cmp_lt e hd)]
  have tg : ∀ k, X / 4294967296 ^ (k + 1) = Y / 4294967296 ^ (k + 1) → dg X k > dg Y k → (1 : Int) = cmpI X Y := fun k e hd => by
    have := cmp_lt e.symm hd
    unfold cmpI; rw [if_neg (by omega), if_pos this]
  have go : ∀ k, k + 1 ≤ M → X / 4294967296 ^ (k + 1) = Y / 4294967296 ^ (k + 1) → dg X k = dg Y k → ∃ y' : Nat, (X / 4294967296 ^ y' = Y / 4294967296 ^ y' ∧ y' ≤ M) ∧ (True ∧ True ∧ True ∧ ∀ i, i < n → True) ∧ (True ∧ True ∧ True ∧ ∀ i, i < m → True) ∧ IntKind.i64.wrap (((k + 1 : Nat) : Int) - 1 - 1) = (y' : Int) - 1 ∧ y' < k + 1 := fun k hk e hd =>
    ⟨k, ⟨cmp_eq e hd, by omega⟩, ⟨trivial, trivial, trivial, fun _ _ => trivial⟩, ⟨trivial, trivial, trivial, fun _ _ => trivial⟩, by rw [wrapi (by omega)]; omega, by omega⟩
  refine ⟨fun y => rfl, M, ⟨?_, Nat.le_refl _⟩, ⟨rfl, rfl, rfl, fun _ _ => rfl⟩, ⟨rfl, rfl, rfl, fun _ _ => rfl⟩, ?_, fun y ⟨e, hy⟩ => ⟨fun h0 => ?_, fun h0 => ?_⟩⟩
  · rw [Nat.div_eq_of_lt hXM, Nat.div_eq_of_lt hYM]
  · rw [show (if (m : Int) > (n : Int) then (m : Int) else (n : Int)) = (M : Int) by split <;> omega]
    exact wrapi (by omega)
  · have h0 : (y : Int) - 1 ≥ 0 := of_decide_eq_true h0
    obtain ⟨k, rfl⟩ : ∃ k, y = k + 1 := ⟨y - 1, by omega⟩
    have ek : (((k + 1 : Nat) : Int) - 1).toNat = k := by omega
    have e1 : X / 4294967296 ^ (k + 1) = Y / 4294967296 ^ (k + 1) := e
    simp only [ek]
    refine ⟨fun h1 => ⟨⟨h0, of_decide_eq_true h1⟩, fun h2 => ⟨⟨h0, of_decide_eq_true h2⟩, fun h3 => ?_, fun h3 => ⟨fun h4 => ?_, fun h4 => ?_⟩⟩, fun h2 => ⟨fun h3 => ?_, fun h3 => ⟨fun h4 => ?_, fun h4 => ?_⟩⟩⟩, fun h1 => ⟨fun h2 => ⟨⟨h0, of_decide_eq_true h2⟩, fun h3 => ?_, fun h3 => ⟨fun h4 => ?_, fun h4 => ?_⟩⟩, fun h2 => ?_⟩⟩
    · have g1 := of_decide_eq_true h1
      have g2 := of_decide_eq_true h2
      have g3 := of_decide_eq_true h3
      exact tl k e1 (by rw [← hfi k (by omega), ← hhi k (by omega)]; exact g3)
    · have g1 := of_decide_eq_true h1
      have g2 := of_decide_eq_true h2
      have g3 := of_decide_eq_true h4
      exact tg k e1 (by rw [← hfi k (by omega), ← hhi k (by omega)]; exact g3)
    · have g1 := of_decide_eq_true h1
      have g2 := of_decide_eq_true h2
      have g3 := of_decide_eq_false h3
      have g4 := of_decide_eq_false h4
      exact go k hy e1 (by rw [← hfi k (by omega), ← hhi k (by omega)]; omega)
    · have g1 := of_decide_eq_true h1
      have g2 := of_decide_eq_false h2
      have g3 := of_decide_eq_true h3
      exact tl k e1 (by rw [← hfi k (by omega), hho k (by omega)]; exact g3)
    · have g1 := of_decide_eq_true h1
      have g2 := of_decide_eq_false h2
      have g3 := of_decide_eq_true h4
      exact tg k e1 (by rw [← hfi k (by omega), hho k (by omega)]; exact g3)
    · have g1 := of_decide_eq_true h1
      have g2 := of_decide_eq_false h2
      have g3 := of_decide_eq_false h3
      have g4 := of_decide_eq_false h4
      exact go k hy e1 (by rw [← hfi k (by omega), hho k (by omega)]; omega)
    · have g1 := of_decide_eq_false h1
      have g2 := of_decide_eq_true h2
      have g3 := of_decide_eq_true h3
      exact tl k e1 (by rw [hfo k (by omega), ← hhi k (by omega)]; exact g3)
    · have g1 := of_decide_eq_false h1
      have g2 := of_decide_eq_true h2
      have g3 := of_decide_eq_true h4
      exact tg k e1 (by rw [hfo k (by omega), ← hhi k (by omega)]; exact g3)
    · have g1 := of_decide_eq_false h1
      have g2 := of_decide_eq_true h2
      have g3 := of_decide_eq_false h3
      have g4 := of_decide_eq_false h4
      exact go k hy e1 (by rw [hfo k (by omega), ← hhi k (by omega)]; omega)
    · have g1 := of_decide_eq_false h1
      have g2 := of_decide_eq_false h2
      exact go k hy e1 (by rw [hfo k (by omega), hho k (by omega)])
  · have h0 : ¬ (y : Int) - 1 ≥ 0 := of_decide_eq_false h0
    have : y = 0 := by omega
    subst this
    have e : X / 4294967296 ^ 0 = Y / 4294967296 ^ 0 := e
    rw [Nat.pow_zero, Nat.div_one, Nat.div_one] at e
    subst e
    unfold cmpI
    rw [if_neg (Nat.lt_irrefl _), if_neg (Nat.lt_irrefl _)]
theorem ok_shorn (a : Option Addr) (n c : Nat) (f : Nat → Int) (hf : dgs n f) (hn : n ≤ 1000) :
    OwesR Try.prog cxR [] [(1, .inv (invShorn f fun k => k ≤ n ∧ vn n f < 4294967296 ^ k))] 4 Try.f23 [xsI a n c .u64 f] true (shornR n f) := by
  unfold shornR
  rw [vc_shorn]
  have hfi : ∀ i, i < n → f i = dg (vn n f) i := fun i hi => dg_in hf hi
  have hX := vn_lt hf
  generalize vn n f = X at *
  refine ⟨fun y => rfl, (a, n, c), ⟨Nat.le_refl _, hX⟩, ⟨rfl, rfl, rfl, fun _ _ => rfl⟩, fun ⟨a', k, c'⟩ ⟨hk, hXk⟩ => ?_⟩
  have hk : k ≤ n := hk
  have hXk : X < 4294967296 ^ k := hXk
  have e1 : ∀ _ : 0 < k, IntKind.i64.wrap ((k : Int) - 1) = ((k - 1 : Nat) : Int) := fun h => by rw [wrapi (by omega)]; omega
  refine ⟨id, id, id, id, fun h => ?_, id, id, id, fun h => ?_, fun h => ?_⟩
  · have h : (k : Int) > 0 := of_decide_eq_true h
    show (0 : Int) ≤ IntKind.i64.wrap ((k : Int) - 1) ∧ IntKind.i64.wrap ((k : Int) - 1) < (k : Int)
    rw [e1 (by omega)]
    omega
  · have h : (decide ((k : Int) > 0) && f (IntKind.i64.wrap ((k : Int) - 1)).toNat == 0) = true := h
    rw [Bool.and_eq_true] at h
    have h1 : (k : Int) > 0 := of_decide_eq_true h.1
    have h2 := eq_of_beq h.2
    rw [e1 (by omega), Int.toNat_natCast] at h2
    show (0 ≤ IntKind.i64.wrap ((k : Int) - 1) ∧ IntKind.i64.wrap ((k : Int) - 1) ≤ (k : Int)) ∧ ∃ y' : Option Addr × Nat × Nat, _ ∧ (a' = y'.1 ∧ (IntKind.i64.wrap ((k : Int) - 1)).toNat = y'.2.1 ∧ c' = y'.2.2 ∧ ∀ i, i < (IntKind.i64.wrap ((k : Int) - 1)).toNat → f i = f i) ∧ y'.2.1 < k
    rw [e1 (by omega), Int.toNat_natCast]
    refine ⟨by omega, (a', k - 1, c'), ⟨by show k - 1 ≤ n; omega, ?_⟩, ⟨rfl, rfl, rfl, fun _ _ => rfl⟩, by show k - 1 < k; omega⟩
    show X < 4294967296 ^ (k - 1)
    rw [hfi (k - 1) (by omega)] at h2
    obtain ⟨j, rfl⟩ : ∃ j, k = j + 1 := ⟨k - 1, by omega⟩
    have hj : j + 1 - 1 = j := by omega
    rw [hj] at h2 ⊢
    have hd := div_succ X j
    rw [Nat.div_eq_of_lt hXk, h2] at hd
    have : X / 4294967296 ^ j = 0 := by omega
    rcases Nat.lt_or_ge X (4294967296 ^ j) with hlt | hge
    · exact hlt
    · have := Nat.div_pos hge (pwN_pos j)
      omega
  · have h : (decide ((k : Int) > 0) && f (IntKind.i64.wrap ((k : Int) - 1)).toNat == 0) = false := h
    have hl : k = lenDg X := by
      refine lenDg_eq hXk ?_
      rcases Nat.eq_zero_or_pos k with h0 | h0
      · exact .inl h0
      · right
        rw [e1 h0, Int.toNat_natCast, hfi (k - 1) (by omega), decide_eq_true (show (k : Int) > 0 by omega), Bool.true_and] at h
        exact ne_of_beq_false h
    refine ⟨hl, fun i hi => hfi i (by omega)⟩
theorem ok_dLess (a : Option Addr) (n c : Nat) (f : Nat → Int) (b : Option Addr) (m d : Nat) (h : Nat → Int) (hf : dgs n f) (hn : n ≤ 1000) (hh : dgs m h) (hm : m ≤ 1000) (hle : vn m h ≤ vn n f) :
    OwesR Try.prog cxR [] [(4, .inv (invLess b m d h n (LessP (vn n f) (vn m h) n)))] 4 Try.f42 [xsI a n c .u64 f, xsI b m d .u64 h] false [.s n .u64 (dg (vn n f - vn m h))] := by
  rw [vc_dLess]
  have hfi : ∀ i, i < n → f i = dg (vn n f) i := fun i hi => dg_in hf hi
  have hhi : ∀ i, i < m → h i = dg (vn m h) i := fun i hi => dg_in hh hi
  have hho : ∀ i, m ≤ i → dg (vn m h) i = 0 := fun i hi => dg_past hh hi
  have hX := vn_lt hf
  have hXr := dg_range (vn n f)
  have hYr := dg_range (vn m h)
  generalize vn n f = X at *
  generalize vn m h = Y at *
  have hL := maxLen_eq
  intro x1
  have ex1 : x1 = n := Nat.zero_add n
  have step : ∀ {i sp : Nat} {g : Nat → Int} {k : Int} (t k' : Int) (g' : Nat → Int), LessP X Y n i g k → i < n → t = k + dg Y i → k' = (if dg X i < t then 1 else 0) → (∀ j, j < n → g' j = if j = i then dg X i - t + k' * 4294967296 else g j) → ∃ y' : Nat × (Nat → Int) × Int × Nat, (LessP X Y n y'.1 y'.2.1 y'.2.2.1 ∧ y'.1 ≤ n) ∧ (b = b ∧ m = m ∧ d = d ∧ ∀ i, i < m → h i = h i) ∧ (0 = 0 ∧ 1 = 1 ∧ 0 = 0 ∧ n = n ∧ n + sp = n + y'.2.2.2) ∧ k' = y'.2.2.1 ∧ (n : Int) = (n : Int) ∧ IntKind.i64.wrap ((i : Int) + 1) = (y'.1 : Int) ∧ n = n ∧ sp = y'.2.2.2 ∧ (∀ j, j < n → g' j = y'.2.1 j) ∧ n - y'.1 < n - i := by
    intro i sp g k t k' g' hP hi ht hk hg
    refine ⟨(i + 1, g', k', sp), ⟨hP.step hi (v := dg X i - t + k' * 4294967296) (by rw [ht]) (by rw [hk, ht]) hg, hi⟩, ⟨rfl, rfl, rfl, fun _ _ => rfl⟩, ⟨rfl, rfl, rfl, rfl, rfl⟩, rfl, rfl, ?_, rfl, rfl, fun _ _ => rfl, by show n - (i + 1) < n - i; omega⟩
    rw [wrapi (by omega)]
    rfl
  clear_value x1
  subst ex1
  refine ⟨⟨Nat.le_refl _, by omega, rfl⟩, ⟨by omega, by omega⟩, fun c1 hc => ⟨fun y => rfl, (0, f, 0, c1), ⟨⟨hf, .inl rfl, fun j _ hj => hfi j hj, by simp [vz, Nat.mod_one]⟩, Nat.zero_le _⟩, ⟨rfl, rfl, rfl, fun _ _ => rfl⟩, ⟨rfl, rfl, rfl, rfl, rfl⟩, rfl, rfl, rfl, rfl, Nat.mul_one _, fun _ _ => rfl, fun ⟨i, g, k, sp⟩ ⟨hP, hi⟩ => ⟨fun h1 => ⟨fun h2 => ?_, fun h2 => ?_⟩, fun h1 => ?_⟩⟩⟩
  · have hP : LessP X Y x1 i g k := hP
    have h1 : (i : Int) < (x1 : Int) := of_decide_eq_true h1
    have h2 : (i : Int) < (m : Int) := of_decide_eq_true h2
    have xr := hXr i
    have yr := hYr i
    have hk := hP.c1
    have hgi := hP.rest i (Nat.le_refl _) (by omega)
    have A : (0 : Int) ≤ (i : Int) ∧ (i : Int) < (x1 : Int) := ⟨by omega, h1⟩
    have B : 0 + ((i : Int)).toNat < x1 := by omega
    have E1 : 0 + ((i : Int)).toNat = i := by omega
    have E2 : IntKind.u64.wrap (k + h ((i : Int)).toNat) = k + dg Y i := by rw [Int.toNat_natCast, hhi i (by omega), wrap64 (by omega)]
    refine ⟨⟨by show (0 : Int) ≤ (i : Int); omega, h2⟩, A, B, fun h3 => ⟨A, B, A, B, A, B, A, B, ?_⟩, fun h3 => ⟨A, B, A, B, ?_⟩⟩
    · have h3 := of_decide_eq_true h3
      simp only [E1, E2] at h3
      rw [hgi] at h3
      refine step (k + dg Y i) 1 _ hP (by omega) rfl (by rw [if_pos h3]) (fun j hj => ?_)
      simp only [E1, E2]
      by_cases e : j = i
      · subst e
        simp only [decide_true, cond_true, if_true]
        rw [hgi, wrap64 (x := dg X j + 4294967296) (by omega), wrap64 (by omega)]
        omega
      · simp only [e, decide_false, cond_false, if_false]
    · have h3 := of_decide_eq_false h3
      simp only [E1, E2] at h3
      rw [hgi] at h3
      refine step (k + dg Y i) 0 _ hP (by omega) rfl (by rw [if_neg h3]) (fun j hj => ?_)
      simp only [E1, E2]
      by_cases e : j = i
      · subst e
        simp only [decide_true, cond_true, if_true]
        rw [hgi, wrap64 (by omega)]
        omega
      · simp only [e, decide_false, cond_false, if_false]
  · have hP : LessP X Y x1 i g k := hP
    have h1 : (i : Int) < (x1 : Int) := of_decide_eq_true h1
    have h2 : ¬ (i : Int) < (m : Int) := of_decide_eq_false h2
    have xr := hXr i
    have hY0 := hho i (by omega)
    have hk := hP.c1
    have hgi := hP.rest i (Nat.le_refl _) (by omega)
    have A : (0 : Int) ≤ (i : Int) ∧ (i : Int) < (x1 : Int) := ⟨by omega, h1⟩
    have B : 0 + ((i : Int)).toNat < x1 := by omega
    have E1 : 0 + ((i : Int)).toNat = i := by omega
    refine ⟨A, B, fun h3 => ⟨A, B, A, B, A, B, A, B, ?_⟩, fun h3 => ⟨A, B, A, B, ?_⟩⟩
    · have h3 := of_decide_eq_true h3
      simp only [E1] at h3
      rw [hgi] at h3
      refine step k 1 _ hP (by omega) (by rw [hY0, Int.add_zero]) (by rw [if_pos h3]) (fun j hj => ?_)
      simp only [E1]
      by_cases e : j = i
      · subst e
        simp only [decide_true, cond_true, if_true]
        rw [hgi, wrap64 (x := dg X j + 4294967296) (by omega), wrap64 (by omega)]
        omega
      · simp only [e, decide_false, cond_false, if_false]
    · have h3 := of_decide_eq_false h3
      simp only [E1] at h3
      rw [hgi] at h3
      refine step k 0 _ hP (by omega) (by rw [hY0, Int.add_zero]) (by rw [if_neg h3]) (fun j hj => ?_)
      simp only [E1]
      by_cases e : j = i
      · subst e
        simp only [decide_true, cond_true, if_true]
        rw [hgi, wrap64 (by omega)]
        omega
      · simp only [e, decide_false, cond_false, if_false]
  · have hP : LessP X Y x1 i g k := hP
    have h1 : ¬ (i : Int) < (x1 : Int) := of_decide_eq_false h1
    have hi : i ≤ x1 := hi
    have : i = x1 := by omega
    subst this
    refine ⟨Nat.le_refl _, rfl, Nat.le_add_right _ _, fun j hj => ?_⟩
    rw [Nat.zero_add]
    exact hP.done hX hle j hj
end Go.Proofs.Ytnkgniedhmnanaa
end

section
namespace Go.Proofs.Ytnkgniedhmnanaa
open Go Go.Sx Go.RowKit
set_option maxRecDepth 100000
def invWide (a : Option Addr) (n c : Nat) (f : Nat → Int) (V : Nat → Nat) (o : Nat → Bool) : Inv where
  X := Nat
  tm y := slotsAt 36 [(2, .one (.sc (.ptr 0 0))), (4, .one (.sc (.ptr 1 0))), (5, .one (sB (o y))), (8, .one (xsI a n c .u64 f)), (9, .one (sI .i64 (n : Int))), (10, .one (sI .i64 (y : Int)))]
  ob y := [.cells 24 (List.replicate 4 (.c (.num .u64 0))) 0, .cells 24 [.u (V y)] 0]
  holds y := y ≤ n
  less y := n - y
def wideR (n : Nat) (f : Nat → Int) : List RS := [.v (sU (vn n f % M256)), .v (sB (decide (M256 ≤ vn n f)))]
def cutR (n : Nat) (f : Nat → Int) : List RS := [.v (sU (vn n f % M256))]
def slWide : List (Nat × SSpec) := [(39, specD false dgsC wideR)]
theorem vc_wide (a : Option Addr) (n c : Nat) (f : Nat → Int) (V : Nat → Nat) (o : Nat → Bool) (r : Nat) (z : Bool) :
    OwesR Try.prog cxR [] [(4, .inv (invWide a n c f V o))] 4 Try.f39 [xsI a n c .u64 f] false [.v (sU r), .v (sB z)] =
    ((∀ (y : Nat), closedB (slotsAt 36 [(2, SV.one (SA.sc (SC.ptr 0 0))), (4, SV.one (SA.sc (SC.ptr 1 0))), (5, SV.one (sB (o y))), (8, SV.one (xsI a n c Go.IntKind.u64 f)), (9, SV.one (sI Go.IntKind.i64 (↑n : Int))), (10, SV.one (sI Go.IntKind.i64 (↑y : Int)))]) [SO.cells (24 : Go.TypeId) (List.replicate 4 (SK.c (SC.num Go.IntKind.u64 (0 : Int)))) 0, SO.cells (24 : Go.TypeId) [SK.u (V y)] 0] = Bool.true) ∧ ∃ (y : Nat), y ≤ n ∧ Bool.false = o y ∧ (a = a ∧ n = n ∧ c = c ∧ ∀ (i : Nat), i < n → f i = f i) ∧ (↑n : Int) = (↑n : Int) ∧ (0 : Int) = (↑y : Int) ∧ 0 = 0 ∧ (0 = V y % M256 ∧ True) ∧ 0 = 0 ∧ ∀ (y : Nat), y ≤ n → (Decidable.decide ((↑y : Int) < (↑n : Int)) = Bool.true → ((0 : Int) ≤ (↑y : Int) ∧ (↑y : Int) < (↑n : Int)) ∧ (Decidable.decide ((↑y : Int) ≥ (8 : Int)) = Bool.true → ((!o y) = Bool.true → (!o y) = Bool.true) ∧ (o y = Bool.false → (!o y) = Bool.true) ∧ ∃ (y' : Nat), y' ≤ n ∧ (o y || f (↑y : Int).toNat != (0 : Int)) = o y' ∧ (a = a ∧ n = n ∧ c = c ∧ ∀ (i : Nat), i < n → f i = f i) ∧ (↑n : Int) = (↑n : Int) ∧ Go.IntKind.i64.wrap ((↑y : Int) + (1 : Int)) = (↑y' : Int) ∧ 0 = 0 ∧ V y % M256 = V y' % M256 ∧ 0 = 0 ∧ n - y' < n - y) ∧ (Decidable.decide ((↑y : Int) ≥ (8 : Int)) = Bool.false → ((0 : Int) ≤ Go.IntKind.i64.wrap ((↑y : Int).tdiv (2 : Int)) ∧ Go.IntKind.i64.wrap ((↑y : Int).tdiv (2 : Int)) < (4 : Int)) ∧ ((0 : Int) ≤ Go.IntKind.i64.wrap ((↑y : Int).tdiv (2 : Int)) ∧ Go.IntKind.i64.wrap ((↑y : Int).tdiv (2 : Int)) < (4 : Int)) ∧ (0 : Int) ≤ Go.IntKind.i64.wrap ((32 : Int) * (↑y : Int).tmod (2 : Int)) ∧ ((0 : Int) ≤ Go.IntKind.i64.wrap ((↑y : Int).tdiv (2 : Int)) ∧ Go.IntKind.i64.wrap ((↑y : Int).tdiv (2 : Int)) < (4 : Int)) ∧ ((0 : Int) ≤ Go.IntKind.i64.wrap ((↑y : Int).tdiv (2 : Int)) ∧ Go.IntKind.i64.wrap ((↑y : Int).tdiv (2 : Int)) < (4 : Int)) ∧ ∃ (y' : Nat), y' ≤ n ∧ o y = o y' ∧ (a = a ∧ n = n ∧ c = c ∧ ∀ (i : Nat), i < n → f i = f i) ∧ (↑n : Int) = (↑n : Int) ∧ Go.IntKind.i64.wrap ((↑y : Int) + (1 : Int)) = (↑y' : Int) ∧ 0 = 0 ∧ ((((0 : Int) ≤ if 0 = (Go.IntKind.i64.wrap ((↑y : Int).tdiv (2 : Int))).toNat then Go.IntKind.u64.wrap (↑(BitVec.ofInt 64 (limb (V y) (Go.IntKind.i64.wrap ((↑y : Int).tdiv (2 : Int))).toNat) ||| BitVec.ofInt 64 (Go.IntKind.u64.wrap (f (↑y : Int).toNat * (2 : Int) ^ Min.min (Go.IntKind.i64.wrap ((32 : Int) * (↑y : Int).tmod (2 : Int))).toNat 64))).toNat : Int) else limb (V y) 0) ∧ (if 0 = (Go.IntKind.i64.wrap ((↑y : Int).tdiv (2 : Int))).toNat then Go.IntKind.u64.wrap (↑(BitVec.ofInt 64 (limb (V y) (Go.IntKind.i64.wrap ((↑y : Int).tdiv (2 : Int))).toNat) ||| BitVec.ofInt 64 (Go.IntKind.u64.wrap (f (↑y : Int).toNat * (2 : Int) ^ Min.min (Go.IntKind.i64.wrap ((32 : Int) * (↑y : Int).tmod (2 : Int))).toNat 64))).toNat : Int) else limb (V y) 0) < (18446744073709551616 : Int)) ∧ (((0 : Int) ≤ if 1 = (Go.IntKind.i64.wrap ((↑y : Int).tdiv (2 : Int))).toNat then Go.IntKind.u64.wrap (↑(BitVec.ofInt 64 (limb (V y) (Go.IntKind.i64.wrap ((↑y : Int).tdiv (2 : Int))).toNat) ||| BitVec.ofInt 64 (Go.IntKind.u64.wrap (f (↑y : Int).toNat * (2 : Int) ^ Min.min (Go.IntKind.i64.wrap ((32 : Int) * (↑y : Int).tmod (2 : Int))).toNat 64))).toNat : Int) else limb (V y) 1) ∧ (if 1 = (Go.IntKind.i64.wrap ((↑y : Int).tdiv (2 : Int))).toNat then Go.IntKind.u64.wrap (↑(BitVec.ofInt 64 (limb (V y) (Go.IntKind.i64.wrap ((↑y : Int).tdiv (2 : Int))).toNat) ||| BitVec.ofInt 64 (Go.IntKind.u64.wrap (f (↑y : Int).toNat * (2 : Int) ^ Min.min (Go.IntKind.i64.wrap ((32 : Int) * (↑y : Int).tmod (2 : Int))).toNat 64))).toNat : Int) else limb (V y) 1) < (18446744073709551616 : Int)) ∧ (((0 : Int) ≤ if 2 = (Go.IntKind.i64.wrap ((↑y : Int).tdiv (2 : Int))).toNat then Go.IntKind.u64.wrap (↑(BitVec.ofInt 64 (limb (V y) (Go.IntKind.i64.wrap ((↑y : Int).tdiv (2 : Int))).toNat) ||| BitVec.ofInt 64 (Go.IntKind.u64.wrap (f (↑y : Int).toNat * (2 : Int) ^ Min.min (Go.IntKind.i64.wrap ((32 : Int) * (↑y : Int).tmod (2 : Int))).toNat 64))).toNat : Int) else limb (V y) 2) ∧ (if 2 = (Go.IntKind.i64.wrap ((↑y : Int).tdiv (2 : Int))).toNat then Go.IntKind.u64.wrap (↑(BitVec.ofInt 64 (limb (V y) (Go.IntKind.i64.wrap ((↑y : Int).tdiv (2 : Int))).toNat) ||| BitVec.ofInt 64 (Go.IntKind.u64.wrap (f (↑y : Int).toNat * (2 : Int) ^ Min.min (Go.IntKind.i64.wrap ((32 : Int) * (↑y : Int).tmod (2 : Int))).toNat 64))).toNat : Int) else limb (V y) 2) < (18446744073709551616 : Int)) ∧ (((0 : Int) ≤ if 3 = (Go.IntKind.i64.wrap ((↑y : Int).tdiv (2 : Int))).toNat then Go.IntKind.u64.wrap (↑(BitVec.ofInt 64 (limb (V y) (Go.IntKind.i64.wrap ((↑y : Int).tdiv (2 : Int))).toNat) ||| BitVec.ofInt 64 (Go.IntKind.u64.wrap (f (↑y : Int).toNat * (2 : Int) ^ Min.min (Go.IntKind.i64.wrap ((32 : Int) * (↑y : Int).tmod (2 : Int))).toNat 64))).toNat : Int) else limb (V y) 3) ∧ (if 3 = (Go.IntKind.i64.wrap ((↑y : Int).tdiv (2 : Int))).toNat then Go.IntKind.u64.wrap (↑(BitVec.ofInt 64 (limb (V y) (Go.IntKind.i64.wrap ((↑y : Int).tdiv (2 : Int))).toNat) ||| BitVec.ofInt 64 (Go.IntKind.u64.wrap (f (↑y : Int).toNat * (2 : Int) ^ Min.min (Go.IntKind.i64.wrap ((32 : Int) * (↑y : Int).tmod (2 : Int))).toNat 64))).toNat : Int) else limb (V y) 3) < (18446744073709551616 : Int)) ∧ join (if 0 = (Go.IntKind.i64.wrap ((↑y : Int).tdiv (2 : Int))).toNat then Go.IntKind.u64.wrap (↑(BitVec.ofInt 64 (limb (V y) (Go.IntKind.i64.wrap ((↑y : Int).tdiv (2 : Int))).toNat) ||| BitVec.ofInt 64 (Go.IntKind.u64.wrap (f (↑y : Int).toNat * (2 : Int) ^ Min.min (Go.IntKind.i64.wrap ((32 : Int) * (↑y : Int).tmod (2 : Int))).toNat 64))).toNat : Int) else limb (V y) 0) (if 1 = (Go.IntKind.i64.wrap ((↑y : Int).tdiv (2 : Int))).toNat then Go.IntKind.u64.wrap (↑(BitVec.ofInt 64 (limb (V y) (Go.IntKind.i64.wrap ((↑y : Int).tdiv (2 : Int))).toNat) ||| BitVec.ofInt 64 (Go.IntKind.u64.wrap (f (↑y : Int).toNat * (2 : Int) ^ Min.min (Go.IntKind.i64.wrap ((32 : Int) * (↑y : Int).tmod (2 : Int))).toNat 64))).toNat : Int) else limb (V y) 1) (if 2 = (Go.IntKind.i64.wrap ((↑y : Int).tdiv (2 : Int))).toNat then Go.IntKind.u64.wrap (↑(BitVec.ofInt 64 (limb (V y) (Go.IntKind.i64.wrap ((↑y : Int).tdiv (2 : Int))).toNat) ||| BitVec.ofInt 64 (Go.IntKind.u64.wrap (f (↑y : Int).toNat * (2 : Int) ^ Min.min (Go.IntKind.i64.wrap ((32 : Int) * (↑y : Int).tmod (2 : Int))).toNat 64))).toNat : Int) else limb (V y) 2) (if 3 = (Go.IntKind.i64.wrap ((↑y : Int).tdiv (2 : Int))).toNat then Go.IntKind.u64.wrap (↑(BitVec.ofInt 64 (limb (V y) (Go.IntKind.i64.wrap ((↑y : Int).tdiv (2 : Int))).toNat) ||| BitVec.ofInt 64 (Go.IntKind.u64.wrap (f (↑y : Int).toNat * (2 : Int) ^ Min.min (Go.IntKind.i64.wrap ((32 : Int) * (↑y : Int).tmod (2 : Int))).toNat 64))).toNat : Int) else limb (V y) 3) % M256 = V y' % M256 ∧ True) ∧ 0 = 0 ∧ n - y' < n - y)) ∧ (Decidable.decide ((↑y : Int) < (↑n : Int)) = Bool.false → (V y % M256 = r % M256 ∧ True) ∧ o y = z)) := by kernel_rfl
theorem vc_cut (a : Option Addr) (n c : Nat) (f : Nat → Int) :
    OwesR Try.prog cxR slWide [] 4 Try.f41 [xsI a n c .u64 f] false (cutR n f) =
    ((∀ (_ : Nat), True) ∧ (dgs n fun (i : Nat) => intsC (SC.val (Go.Value.int Go.IntKind.u64 (f i)))) ∧ n ≤ 1000 ∧ (vn n fun (i : Nat) => f i) % M256 % M256 = vn n f % M256 % M256 ∧ True) := by kernel_rfl
end Go.Proofs.Ytnkgniedhmnanaa
end
