/-
  Texts: V143, V144, P221, P361, P362, P363, V260, Tex, TexQ, P364, V261, P365, P366, P367, V262.
-/
import Derived.Test.YtdlmlejejodbgaaM1
import Derived.Test.YtdlmlejejodbgaaM2
import Derived.Test.YtdlmlejejodbgaaM3
import Derived.Test.YtdlmlejejodbgaaM4
import Derived.Test.YtdlmlejejodbgaaM5
import Derived.Test.YtdlmlejejodbgaaM6
import Derived.Test.YtdlmlejejodbgaaM7
import Derived.Test.YtdlmlejejodbgaaM8
import Derived.Test.YtdlmlejejodbgaaM9
import Derived.Test.YtdlmlejejodbgaaChecked
section
namespace Go.Proofs.Ytdlmlejejodbgaa
open Go.Sx
set_option maxRecDepth 100000
def kIn (n : Nat) (k : Nat → Nat → Int) (e : Nat → Int) : Bool := (List.range n).any fun j => (List.range 20).all fun c => e c == k j c
def kDis (n : Nat) (k : Nat → Nat → Int) : Bool := (List.range n).all fun j => !kIn j k (k j)
def sXk (a : Option Addr) (n cap : Nat) (k : Nat → Nat → Int) : SA := .sc (.xs a n cap 20 (u8F k))
def sKy (e : Nat → Int) : SA := .agg [.f .u8 20 e]
def setF (I U : Nat → Int) (A : Nat → Option Addr) (N C : Nat → Nat) (K : Nat → Nat → Nat → Int) (i c : Nat) : SC :=
  match c with
  | 0 => .val (.int .i64 (I i))
  | 1 => .xs (A i) (N i) (C i) 20 (u8F (K i))
  | _ => .val (.int .i64 (U i))
def invIx (a : Option Addr) (n cap : Nat) (k : Nat → Nat → Int) (e : Nat → Int) : Inv where
  X := Nat
  tm i := slotsAt 19 [(0, .one (sXk a n cap k)), (3, .one (.sc (.ptr 1 0))), (7, .one (sI .i64 (n : Int))), (8, .one (sI .i64 (i : Int)))]
  ob _ := [.dead, .cells 36 [.f .u8 20 e] 0]
  holds i := i ≤ n ∧ kIn i k e = false
  less i := n - i
def invLk (a : Option Addr) (n cap : Nat) (k : Nat → Nat → Int) : Inv where
  X := Nat
  tm i := slotsAt 26 [(0, .one (sXk a n cap k)), (13, .one (sXk a n cap k)), (14, .one (sI .i64 (n : Int))), (15, .one (sI .i64 (i : Int)))]
  ob _ := []
  holds i := i ≤ n ∧ kDis i k = true
  less i := n - i
def pqKy : List AQ := [.one (.x 20), .st [.y 20]]
structure kyP (a : Option Addr) (n : Nat) (f : Nat → Nat → SC) : Prop where
  kf : f = u8F (kOf f)
  kn : n ≤ maxLen
  ka : a = none → n = 0
  kr : ∀ i, i < n → ∀ c, c < 20 → 0 ≤ kOf f i c ∧ kOf f i c < 256
def ctC : List (List FD) → List Prop
  | [[.x a n _ f], [.y _]] => [kyP a n f]
  | _ => [False]
def ctG : List (List FD) → List RS
  | [[.x _ n _ f], [.y e]] => [.v (sB (kIn n (kOf f) e))]
  | _ => []
def cCt : SSpec := specQ false pqKy id ctC ctG
def slCt : List (Nat × SSpec) := [(15, cCt)]
theorem vc_lk (a : Option Addr) (n cap : Nat) (k : Nat → Nat → Int) (r : Int) :
    OwesR Try.prog .none slCt [(4, .inv (invLk a n cap k))] 12 Try.f12 [sXk a n cap k] false [.v (sI .i64 r)] =
    (let x1 : Bool := Decidable.decide ((↑n : Int) < (1 : Int)); ((!x1) = Bool.true → (!x1) = Bool.true) ∧ ((!x1) = Bool.true → (!x1) = Bool.true) ∧ (x1 = Bool.false → (!x1) = Bool.true) ∧ ((x1 || Decidable.decide ((↑n : Int) > (19 : Int))) = Bool.true → (1 : Int) = r) ∧ ((x1 || Decidable.decide ((↑n : Int) > (19 : Int))) = Bool.false → (∀ (y : Nat), closedB (slotsAt 26 [(0, SV.one (sXk a n cap k)), (13, SV.one (sXk a n cap k)), (14, SV.one (sI Go.IntKind.i64 (↑n : Int))), (15, SV.one (sI Go.IntKind.i64 (↑y : Int)))]) [] = Bool.true) ∧ ∃ (y : Nat), (y ≤ n ∧ kDis y k = Bool.true) ∧ (a = a ∧ n = n ∧ cap = cap ∧ ∀ (i : Nat), i < n → simC (u8F k i 0) (u8F k i 0) ∧ simC (u8F k i 1) (u8F k i 1) ∧ simC (u8F k i 2) (u8F k i 2) ∧ simC (u8F k i 3) (u8F k i 3) ∧ simC (u8F k i 4) (u8F k i 4) ∧ simC (u8F k i 5) (u8F k i 5) ∧ simC (u8F k i 6) (u8F k i 6) ∧ simC (u8F k i 7) (u8F k i 7) ∧ simC (u8F k i 8) (u8F k i 8) ∧ simC (u8F k i 9) (u8F k i 9) ∧ simC (u8F k i 10) (u8F k i 10) ∧ simC (u8F k i 11) (u8F k i 11) ∧ simC (u8F k i 12) (u8F k i 12) ∧ simC (u8F k i 13) (u8F k i 13) ∧ simC (u8F k i 14) (u8F k i 14) ∧ simC (u8F k i 15) (u8F k i 15) ∧ simC (u8F k i 16) (u8F k i 16) ∧ simC (u8F k i 17) (u8F k i 17) ∧ simC (u8F k i 18) (u8F k i 18) ∧ k i 19 = k i 19) ∧ (a = a ∧ n = n ∧ cap = cap ∧ ∀ (i : Nat), i < n → simC (u8F k i 0) (u8F k i 0) ∧ simC (u8F k i 1) (u8F k i 1) ∧ simC (u8F k i 2) (u8F k i 2) ∧ simC (u8F k i 3) (u8F k i 3) ∧ simC (u8F k i 4) (u8F k i 4) ∧ simC (u8F k i 5) (u8F k i 5) ∧ simC (u8F k i 6) (u8F k i 6) ∧ simC (u8F k i 7) (u8F k i 7) ∧ simC (u8F k i 8) (u8F k i 8) ∧ simC (u8F k i 9) (u8F k i 9) ∧ simC (u8F k i 10) (u8F k i 10) ∧ simC (u8F k i 11) (u8F k i 11) ∧ simC (u8F k i 12) (u8F k i 12) ∧ simC (u8F k i 13) (u8F k i 13) ∧ simC (u8F k i 14) (u8F k i 14) ∧ simC (u8F k i 15) (u8F k i 15) ∧ simC (u8F k i 16) (u8F k i 16) ∧ simC (u8F k i 17) (u8F k i 17) ∧ simC (u8F k i 18) (u8F k i 18) ∧ k i 19 = k i 19) ∧ (↑n : Int) = (↑n : Int) ∧ (0 : Int) = (↑y : Int) ∧ ∀ (y : Nat), y ≤ n ∧ kDis y k = Bool.true → (Decidable.decide ((↑y : Int) < (↑n : Int)) = Bool.true → ((0 : Int) ≤ (↑y : Int) ∧ (↑y : Int) < (↑n : Int)) ∧ ((0 : Int) ≤ (↑y : Int) ∧ (↑y : Int) ≤ (↑n : Int)) ∧ a = a ∧ (↑y : Int).toNat = (↑y : Int).toNat ∧ cap = cap ∧ (∀ (i : Nat), i < (↑y : Int).toNat → k i 0 = k i 0 ∧ k i 1 = k i 1 ∧ k i 2 = k i 2 ∧ k i 3 = k i 3 ∧ k i 4 = k i 4 ∧ k i 5 = k i 5 ∧ k i 6 = k i 6 ∧ k i 7 = k i 7 ∧ k i 8 = k i 8 ∧ k i 9 = k i 9 ∧ k i 10 = k i 10 ∧ k i 11 = k i 11 ∧ k i 12 = k i 12 ∧ k i 13 = k i 13 ∧ k i 14 = k i 14 ∧ k i 15 = k i 15 ∧ k i 16 = k i 16 ∧ k i 17 = k i 17 ∧ k i 18 = k i 18 ∧ k i 19 = k i 19) ∧ (∀ (j : Nat), j < 20 → k (↑y : Int).toNat (0 + j) = k (↑y : Int).toNat (0 + j)) ∧ kyP a (↑y : Int).toNat (u8F k) ∧ ((kIn (↑y : Int).toNat (kOf (u8F k)) fun (j : Nat) => k (↑y : Int).toNat (0 + j)) = Bool.true → (8 : Int) = r) ∧ ((kIn (↑y : Int).toNat (kOf (u8F k)) fun (j : Nat) => k (↑y : Int).toNat (0 + j)) = Bool.false → ∃ (y' : Nat), (y' ≤ n ∧ kDis y' k = Bool.true) ∧ (a = a ∧ n = n ∧ cap = cap ∧ ∀ (i : Nat), i < n → simC (u8F k i 0) (u8F k i 0) ∧ simC (u8F k i 1) (u8F k i 1) ∧ simC (u8F k i 2) (u8F k i 2) ∧ simC (u8F k i 3) (u8F k i 3) ∧ simC (u8F k i 4) (u8F k i 4) ∧ simC (u8F k i 5) (u8F k i 5) ∧ simC (u8F k i 6) (u8F k i 6) ∧ simC (u8F k i 7) (u8F k i 7) ∧ simC (u8F k i 8) (u8F k i 8) ∧ simC (u8F k i 9) (u8F k i 9) ∧ simC (u8F k i 10) (u8F k i 10) ∧ simC (u8F k i 11) (u8F k i 11) ∧ simC (u8F k i 12) (u8F k i 12) ∧ simC (u8F k i 13) (u8F k i 13) ∧ simC (u8F k i 14) (u8F k i 14) ∧ simC (u8F k i 15) (u8F k i 15) ∧ simC (u8F k i 16) (u8F k i 16) ∧ simC (u8F k i 17) (u8F k i 17) ∧ simC (u8F k i 18) (u8F k i 18) ∧ k i 19 = k i 19) ∧ (a = a ∧ n = n ∧ cap = cap ∧ ∀ (i : Nat), i < n → simC (u8F k i 0) (u8F k i 0) ∧ simC (u8F k i 1) (u8F k i 1) ∧ simC (u8F k i 2) (u8F k i 2) ∧ simC (u8F k i 3) (u8F k i 3) ∧ simC (u8F k i 4) (u8F k i 4) ∧ simC (u8F k i 5) (u8F k i 5) ∧ simC (u8F k i 6) (u8F k i 6) ∧ simC (u8F k i 7) (u8F k i 7) ∧ simC (u8F k i 8) (u8F k i 8) ∧ simC (u8F k i 9) (u8F k i 9) ∧ simC (u8F k i 10) (u8F k i 10) ∧ simC (u8F k i 11) (u8F k i 11) ∧ simC (u8F k i 12) (u8F k i 12) ∧ simC (u8F k i 13) (u8F k i 13) ∧ simC (u8F k i 14) (u8F k i 14) ∧ simC (u8F k i 15) (u8F k i 15) ∧ simC (u8F k i 16) (u8F k i 16) ∧ simC (u8F k i 17) (u8F k i 17) ∧ simC (u8F k i 18) (u8F k i 18) ∧ k i 19 = k i 19) ∧ (↑n : Int) = (↑n : Int) ∧ Go.IntKind.i64.wrap ((↑y : Int) + (1 : Int)) = (↑y' : Int) ∧ (n - y').succ.le (n - y))) ∧ (Decidable.decide ((↑y : Int) < (↑n : Int)) = Bool.false → (0 : Int) = r))) := by kernel_rfl
theorem vc_ix (a : Option Addr) (n cap : Nat) (k : Nat → Nat → Int) (e : Nat → Int) (b : Bool) :
    OwesR Try.prog .none [] [((16 + 1) * 100000 + 2, .inv (invIx a n cap k e))] 12 Try.f15 [sXk a n cap k, sKy e] false [.v (sB b)] =
    ((∀ (y : Nat), closedB (slotsAt 19 [(0, SV.one (sXk a n cap k)), (3, SV.one (SA.sc (SC.ptr 1 0))), (7, SV.one (sI Go.IntKind.i64 (↑n : Int))), (8, SV.one (sI Go.IntKind.i64 (↑y : Int)))]) [SO.dead, SO.cells (36 : Go.TypeId) [SK.f Go.IntKind.u8 20 e] 0] = Bool.true) ∧ ∃ (y : Nat), (y ≤ n ∧ kIn y k e = Bool.false) ∧ (a = a ∧ n = n ∧ cap = cap ∧ ∀ (i : Nat), i < n → simC (u8F k i 0) (u8F k i 0) ∧ simC (u8F k i 1) (u8F k i 1) ∧ simC (u8F k i 2) (u8F k i 2) ∧ simC (u8F k i 3) (u8F k i 3) ∧ simC (u8F k i 4) (u8F k i 4) ∧ simC (u8F k i 5) (u8F k i 5) ∧ simC (u8F k i 6) (u8F k i 6) ∧ simC (u8F k i 7) (u8F k i 7) ∧ simC (u8F k i 8) (u8F k i 8) ∧ simC (u8F k i 9) (u8F k i 9) ∧ simC (u8F k i 10) (u8F k i 10) ∧ simC (u8F k i 11) (u8F k i 11) ∧ simC (u8F k i 12) (u8F k i 12) ∧ simC (u8F k i 13) (u8F k i 13) ∧ simC (u8F k i 14) (u8F k i 14) ∧ simC (u8F k i 15) (u8F k i 15) ∧ simC (u8F k i 16) (u8F k i 16) ∧ simC (u8F k i 17) (u8F k i 17) ∧ simC (u8F k i 18) (u8F k i 18) ∧ k i 19 = k i 19) ∧ (↑n : Int) = (↑n : Int) ∧ (0 : Int) = (↑y : Int) ∧ ((∀ (j : Nat), j < 20 → e j = e j) ∧ True) ∧ 0 = 0 ∧ ∀ (y : Nat), y ≤ n ∧ kIn y k e = Bool.false → (Decidable.decide ((↑y : Int) < (↑n : Int)) = Bool.true → ((0 : Int) ≤ (↑y : Int) ∧ (↑y : Int) < (↑n : Int)) ∧ (conj [(List.range 20).all fun (j : Nat) => e j == k (↑y : Int).toNat (0 + j)] = Bool.true → Decidable.decide ((↑y : Int) ≥ (0 : Int)) = b) ∧ (conj [(List.range 20).all fun (j : Nat) => e j == k (↑y : Int).toNat (0 + j)] = Bool.false → ∃ (y' : Nat), (y' ≤ n ∧ kIn y' k e = Bool.false) ∧ (a = a ∧ n = n ∧ cap = cap ∧ ∀ (i : Nat), i < n → simC (u8F k i 0) (u8F k i 0) ∧ simC (u8F k i 1) (u8F k i 1) ∧ simC (u8F k i 2) (u8F k i 2) ∧ simC (u8F k i 3) (u8F k i 3) ∧ simC (u8F k i 4) (u8F k i 4) ∧ simC (u8F k i 5) (u8F k i 5) ∧ simC (u8F k i 6) (u8F k i 6) ∧ simC (u8F k i 7) (u8F k i 7) ∧ simC (u8F k i 8) (u8F k i 8) ∧ simC (u8F k i 9) (u8F k i 9) ∧ simC (u8F k i 10) (u8F k i 10) ∧ simC (u8F k i 11) (u8F k i 11) ∧ simC (u8F k i 12) (u8F k i 12) ∧ simC (u8F k i 13) (u8F k i 13) ∧ simC (u8F k i 14) (u8F k i 14) ∧ simC (u8F k i 15) (u8F k i 15) ∧ simC (u8F k i 16) (u8F k i 16) ∧ simC (u8F k i 17) (u8F k i 17) ∧ simC (u8F k i 18) (u8F k i 18) ∧ k i 19 = k i 19) ∧ (↑n : Int) = (↑n : Int) ∧ Go.IntKind.i64.wrap ((↑y : Int) + (1 : Int)) = (↑y' : Int) ∧ ((∀ (j : Nat), j < 20 → e j = e j) ∧ True) ∧ 0 = 0 ∧ (n - y').succ.le (n - y))) ∧ (Decidable.decide ((↑y : Int) < (↑n : Int)) = Bool.false → Decidable.decide ((-1 : Int) ≥ (0 : Int)) = b)) := by kernel_rfl
end Go.Proofs.Ytdlmlejejodbgaa
end

section
namespace Go.Proofs.Ytdlmlejejodbgaa
open Go.Sx
set_option maxRecDepth 100000
def kyE (n : Nat) (k : Nat → Nat → Int) : Int := if n < 1 ∨ 19 < n then 1 else if kDis n k then 0 else 8
def lkC : List (List FD) → List Prop
  | [[.x a n _ f]] => [kyP a n f]
  | _ => [False]
def lkG : List (List FD) → List RS
  | [[.x _ n _ f]] => [.v (sI .i64 (kyE n (kOf f)))]
  | _ => []
def cLk : SSpec := specQ false [.one (.x 20)] id lkC lkG
def sXs (a : Option Addr) (n cap : Nat) (I U : Nat → Int) (A : Nat → Option Addr) (N C : Nat → Nat) (K : Nat → Nat → Nat → Int) : SA := .sc (.xs a n cap 3 (setF I U A N C K))
def slSc : List (Nat × SSpec) := [(12, cLk)]
def invSc (a : Option Addr) (n cap : Nat) (I U : Nat → Int) (A : Nat → Option Addr) (N C : Nat → Nat) (K : Nat → Nat → Nat → Int) (P : Nat → Prop) : Inv where
  X := Nat
  tm i := slotsAt 38 [(0, .one (sXs a n cap I U A N C K)), (14, .one (sXs a n cap I U A N C K)), (15, .one (sI .i64 (n : Int))), (16, .one (sI .i64 (i : Int)))]
  ob _ := []
  holds i := i ≤ n ∧ P i
  less i := n - i
def cxSc : Cx := ⟨[(1000000014, fun _ => none)], [], 0, []⟩
theorem vc_sck (a : Option Addr) (n cap : Nat) (I U : Nat → Int) (A : Nat → Option Addr) (N C : Nat → Nat) (K : Nat → Nat → Nat → Int) (P : Nat → Prop) (r : Int) :
    OwesR Try.prog cxSc slSc [(4, .inv (invSc a n cap I U A N C K P))] 20 Try.f7 [sXs a n cap I U A N C K] false [.v (sI .i64 r)] =
    (let x1 : Bool := Decidable.decide ((↑n : Int) < (1 : Int)); ((!x1) = Bool.true → (!x1) = Bool.true) ∧ ((!x1) = Bool.true → (!x1) = Bool.true) ∧ (x1 = Bool.false → (!x1) = Bool.true) ∧ ((x1 || Decidable.decide ((↑n : Int) > (8 : Int))) = Bool.true → (1 : Int) = r) ∧ ((x1 || Decidable.decide ((↑n : Int) > (8 : Int))) = Bool.false → (∀ (y : Nat), closedB (slotsAt 38 [(0, SV.one (sXs a n cap I U A N C K)), (14, SV.one (sXs a n cap I U A N C K)), (15, SV.one (sI Go.IntKind.i64 (↑n : Int))), (16, SV.one (sI Go.IntKind.i64 (↑y : Int)))]) [] = Bool.true) ∧ ∃ (y : Nat), (y ≤ n ∧ P y) ∧ (a = a ∧ n = n ∧ cap = cap ∧ ∀ (i : Nat), i < n → simC (setF I U A N C K i 0) (setF I U A N C K i 0) ∧ simC (setF I U A N C K i 1) (setF I U A N C K i 1) ∧ U i = U i) ∧ (a = a ∧ n = n ∧ cap = cap ∧ ∀ (i : Nat), i < n → simC (setF I U A N C K i 0) (setF I U A N C K i 0) ∧ simC (setF I U A N C K i 1) (setF I U A N C K i 1) ∧ U i = U i) ∧ (↑n : Int) = (↑n : Int) ∧ (0 : Int) = (↑y : Int) ∧ ∀ (y : Nat), y ≤ n ∧ P y → (Decidable.decide ((↑y : Int) < (↑n : Int)) = Bool.true → ((0 : Int) ≤ (↑y : Int) ∧ (↑y : Int) < (↑n : Int)) ∧ A (↑y : Int).toNat = A (↑y : Int).toNat ∧ N (↑y : Int).toNat = N (↑y : Int).toNat ∧ C (↑y : Int).toNat = C (↑y : Int).toNat ∧ (∀ (i : Nat), i < N (↑y : Int).toNat → K (↑y : Int).toNat i 0 = K (↑y : Int).toNat i 0 ∧ K (↑y : Int).toNat i 1 = K (↑y : Int).toNat i 1 ∧ K (↑y : Int).toNat i 2 = K (↑y : Int).toNat i 2 ∧ K (↑y : Int).toNat i 3 = K (↑y : Int).toNat i 3 ∧ K (↑y : Int).toNat i 4 = K (↑y : Int).toNat i 4 ∧ K (↑y : Int).toNat i 5 = K (↑y : Int).toNat i 5 ∧ K (↑y : Int).toNat i 6 = K (↑y : Int).toNat i 6 ∧ K (↑y : Int).toNat i 7 = K (↑y : Int).toNat i 7 ∧ K (↑y : Int).toNat i 8 = K (↑y : Int).toNat i 8 ∧ K (↑y : Int).toNat i 9 = K (↑y : Int).toNat i 9 ∧ K (↑y : Int).toNat i 10 = K (↑y : Int).toNat i 10 ∧ K (↑y : Int).toNat i 11 = K (↑y : Int).toNat i 11 ∧ K (↑y : Int).toNat i 12 = K (↑y : Int).toNat i 12 ∧ K (↑y : Int).toNat i 13 = K (↑y : Int).toNat i 13 ∧ K (↑y : Int).toNat i 14 = K (↑y : Int).toNat i 14 ∧ K (↑y : Int).toNat i 15 = K (↑y : Int).toNat i 15 ∧ K (↑y : Int).toNat i 16 = K (↑y : Int).toNat i 16 ∧ K (↑y : Int).toNat i 17 = K (↑y : Int).toNat i 17 ∧ K (↑y : Int).toNat i 18 = K (↑y : Int).toNat i 18 ∧ K (↑y : Int).toNat i 19 = K (↑y : Int).toNat i 19) ∧ kyP (A (↑y : Int).toNat) (N (↑y : Int).toNat) (u8F (K (↑y : Int).toNat)) ∧ ((kyE (N (↑y : Int).toNat) (kOf (u8F (K (↑y : Int).toNat))) != (0 : Int)) = Bool.true → kyE (N (↑y : Int).toNat) (kOf (u8F (K (↑y : Int).toNat))) = r) ∧ ((kyE (N (↑y : Int).toNat) (kOf (u8F (K (↑y : Int).toNat))) != (0 : Int)) = Bool.false → ((!I (↑y : Int).toNat != (↑y : Int)) = Bool.true → (!I (↑y : Int).toNat != (↑y : Int)) = Bool.true ∧ (!I (↑y : Int).toNat != (↑y : Int)) = Bool.true ∧ ((0 : Int) ≤ (↑y : Int) ∧ (↑y : Int) < (↑n : Int)) ∧ (((↑y : Int) == Go.IntKind.i64.wrap ((↑n : Int) - (1 : Int))) = Bool.true → ((!U (↑y : Int).toNat == (0 : Int)) = Bool.true → (12 : Int) = r) ∧ ((!U (↑y : Int).toNat == (0 : Int)) = Bool.false → ∃ (y' : Nat), (y' ≤ n ∧ P y') ∧ (a = a ∧ n = n ∧ cap = cap ∧ ∀ (i : Nat), i < n → simC (setF I U A N C K i 0) (setF I U A N C K i 0) ∧ simC (setF I U A N C K i 1) (setF I U A N C K i 1) ∧ U i = U i) ∧ (a = a ∧ n = n ∧ cap = cap ∧ ∀ (i : Nat), i < n → simC (setF I U A N C K i 0) (setF I U A N C K i 0) ∧ simC (setF I U A N C K i 1) (setF I U A N C K i 1) ∧ U i = U i) ∧ (↑n : Int) = (↑n : Int) ∧ Go.IntKind.i64.wrap ((↑y : Int) + (1 : Int)) = (↑y' : Int) ∧ (n - y').succ.le (n - y))) ∧ (((↑y : Int) == Go.IntKind.i64.wrap ((↑n : Int) - (1 : Int))) = Bool.false → (((↑y : Int) == (0 : Int)) = Bool.true → (Decidable.decide (U (↑y : Int).toNat ≥ (1 : Int)) = Bool.true → Decidable.decide (U (↑y : Int).toNat ≥ (1 : Int)) = Bool.true) ∧ (Decidable.decide (U (↑y : Int).toNat ≥ (1 : Int)) = Bool.true → Decidable.decide (U (↑y : Int).toNat ≥ (1 : Int)) = Bool.true) ∧ ((!(Decidable.decide (U (↑y : Int).toNat ≥ (1 : Int)) && Decidable.decide (U (↑y : Int).toNat ≤ (1099511627800 : Int)))) = Bool.true → (12 : Int) = r) ∧ ((!(Decidable.decide (U (↑y : Int).toNat ≥ (1 : Int)) && Decidable.decide (U (↑y : Int).toNat ≤ (1099511627800 : Int)))) = Bool.false → ∃ (y' : Nat), (y' ≤ n ∧ P y') ∧ (a = a ∧ n = n ∧ cap = cap ∧ ∀ (i : Nat), i < n → simC (setF I U A N C K i 0) (setF I U A N C K i 0) ∧ simC (setF I U A N C K i 1) (setF I U A N C K i 1) ∧ U i = U i) ∧ (a = a ∧ n = n ∧ cap = cap ∧ ∀ (i : Nat), i < n → simC (setF I U A N C K i 0) (setF I U A N C K i 0) ∧ simC (setF I U A N C K i 1) (setF I U A N C K i 1) ∧ U i = U i) ∧ (↑n : Int) = (↑n : Int) ∧ Go.IntKind.i64.wrap ((↑y : Int) + (1 : Int)) = (↑y' : Int) ∧ (n - y').succ.le (n - y))) ∧ (((↑y : Int) == (0 : Int)) = Bool.false → ((0 : Int) ≤ Go.IntKind.i64.wrap ((↑y : Int) - (1 : Int)) ∧ Go.IntKind.i64.wrap ((↑y : Int) - (1 : Int)) < (↑n : Int)) ∧ (Decidable.decide (U (↑y : Int).toNat ≥ U (Go.IntKind.i64.wrap ((↑y : Int) - (1 : Int))).toNat) = Bool.true → Decidable.decide (U (↑y : Int).toNat ≥ U (Go.IntKind.i64.wrap ((↑y : Int) - (1 : Int))).toNat) = Bool.true) ∧ (Decidable.decide (U (↑y : Int).toNat ≥ U (Go.IntKind.i64.wrap ((↑y : Int) - (1 : Int))).toNat) = Bool.true → Decidable.decide (U (↑y : Int).toNat ≥ U (Go.IntKind.i64.wrap ((↑y : Int) - (1 : Int))).toNat) = Bool.true) ∧ ((!(Decidable.decide (U (↑y : Int).toNat ≥ U (Go.IntKind.i64.wrap ((↑y : Int) - (1 : Int))).toNat) && Decidable.decide (U (↑y : Int).toNat ≤ (1099511627800 : Int)))) = Bool.true → (12 : Int) = r) ∧ ((!(Decidable.decide (U (↑y : Int).toNat ≥ U (Go.IntKind.i64.wrap ((↑y : Int) - (1 : Int))).toNat) && Decidable.decide (U (↑y : Int).toNat ≤ (1099511627800 : Int)))) = Bool.false → ∃ (y' : Nat), (y' ≤ n ∧ P y') ∧ (a = a ∧ n = n ∧ cap = cap ∧ ∀ (i : Nat), i < n → simC (setF I U A N C K i 0) (setF I U A N C K i 0) ∧ simC (setF I U A N C K i 1) (setF I U A N C K i 1) ∧ U i = U i) ∧ (a = a ∧ n = n ∧ cap = cap ∧ ∀ (i : Nat), i < n → simC (setF I U A N C K i 0) (setF I U A N C K i 0) ∧ simC (setF I U A N C K i 1) (setF I U A N C K i 1) ∧ U i = U i) ∧ (↑n : Int) = (↑n : Int) ∧ Go.IntKind.i64.wrap ((↑y : Int) + (1 : Int)) = (↑y' : Int) ∧ (n - y').succ.le (n - y))))) ∧ ((!I (↑y : Int).toNat != (↑y : Int)) = Bool.false → (12 : Int) = r))) ∧ (Decidable.decide ((↑y : Int) < (↑n : Int)) = Bool.false → (0 : Int) = r))) := by kernel_rfl
end Go.Proofs.Ytdlmlejejodbgaa
end

section
namespace Go.Proofs.Ytdlmlejejodbgaa
open Go.Sx
set_option maxRecDepth 100000
theorem all_rng {n : Nat} {p : Nat → Bool} : (List.range n).all p = true ↔ ∀ j, j < n → p j = true := by
  rw [List.all_eq_true]
  exact ⟨fun h j hj => h j (List.mem_range.2 hj), fun h j hj => h j (List.mem_range.1 hj)⟩
theorem any_rng {n : Nat} {p : Nat → Bool} : (List.range n).any p = true ↔ ∃ j, j < n ∧ p j = true := by
  rw [List.any_eq_true]
  exact ⟨fun ⟨j, h, e⟩ => ⟨j, List.mem_range.1 h, e⟩, fun ⟨j, h, e⟩ => ⟨j, List.mem_range.2 h, e⟩⟩
theorem kIn_succ (n : Nat) (k : Nat → Nat → Int) (e : Nat → Int) : kIn (n + 1) k e = (kIn n k e || (List.range 20).all fun c => e c == k n c) := by
  unfold kIn
  rw [List.range_succ, List.any_append, List.any_cons, List.any_nil, Bool.or_false]
theorem kDis_succ (n : Nat) (k : Nat → Nat → Int) : kDis (n + 1) k = (kDis n k && !kIn n k (k n)) := by
  unfold kDis
  rw [List.range_succ, List.all_append, List.all_cons, List.all_nil, Bool.and_true]
theorem kDis_mono {n m : Nat} {k : Nat → Nat → Int} (h : n ≤ m) (hk : kDis m k = true) : kDis n k = true :=
  all_rng.2 fun j hj => all_rng.1 hk j (by omega)
theorem conj_q (b : Bool) : conj [b] = b := by cases b <;> rfl
theorem ok_ix (a : Option Addr) (n cap : Nat) (k : Nat → Nat → Int) (e : Nat → Int) (hn : n ≤ maxLen) :
    OwesR Try.prog .none [] [((16 + 1) * 100000 + 2, .inv (invIx a n cap k e))] 12 Try.f15 [sXk a n cap k, sKy e] false [.v (sB (kIn n k e))] := by
  rw [vc_ix]
  have hML : maxLen = 9223372036854775807 := rfl
  have z : ∀ i c, simC (u8F k i c) (u8F k i c) := fun _ _ => rfl
  simp only [eq_self, implies_true, and_self, true_and, and_true, z, conj_q, Int.toNat_natCast, Nat.zero_add]
  refine ⟨fun _ => rfl, 0, ⟨Nat.zero_le _, rfl⟩, rfl, fun y hy => ⟨fun hl => ?_, fun hl => ?_⟩⟩
  · have hl := of_decide_eq_true hl
    refine ⟨⟨by omega, by omega⟩, fun h => ?_, fun h => ⟨y + 1, ⟨by omega, ?_⟩, by rw [IntKind.wrap_i64]; omega, by show n - (y + 1) + 1 ≤ n - y; omega⟩⟩
    · rw [decide_eq_true (by omega : ((y : Int) ≥ 0))]
      exact (any_rng.2 ⟨y, by omega, h⟩).symm
    · rw [kIn_succ, hy.2, h]; rfl
  · have hl := of_decide_eq_false hl
    have e1 : y = n := by omega
    rw [← e1, hy.2]
    rfl
theorem card_ct {gl : Globs} : FnOKs Try.prog gl 15 cCt := by
  refine FnOKs.up0 (FnOKs_Q (cx := Cx.none) ⟨fun _ h => (by cases h), fun _ h => (by cases h)⟩ (sl := []) oks_nil Try.func15 (by kernel_rfl) (by kernel_rfl) fun ls hc => ?_) gl
  unfold ctC at hc
  split at hc
  · rename_i a n cap f e
    obtain ⟨p, _⟩ := hc
    have := ok_ix a n cap (kOf f) e p.kn
    unfold sXk at this
    rw [← p.kf] at this
    refine ⟨_, _, fun r hr => ?_, this⟩
    rw [List.mem_singleton.1 hr]; exact trivial
  · exact hc.1.elim
theorem ok_lk (a : Option Addr) (n cap : Nat) (k : Nat → Nat → Int) (hn : n ≤ maxLen) (ha : a = none → n = 0) (hr : ∀ i, i < n → ∀ c, c < 20 → 0 ≤ k i c ∧ k i c < 256) :
    OwesR Try.prog .none slCt [(4, .inv (invLk a n cap k))] 12 Try.f12 [sXk a n cap k] false [.v (sI .i64 (kyE n k))] := by
  rw [vc_lk]
  intro x1
  have e1 : x1 = decide ((n : Int) < 1) := rfl
  have hML : maxLen = 9223372036854775807 := rfl
  have z : ∀ i c, simC (u8F k i c) (u8F k i c) := fun _ _ => rfl
  have k2 : kOf (u8F k) = k := rfl
  clear_value x1
  simp only [eq_self, implies_true, and_self, true_and, and_true, z, Int.toNat_natCast, Nat.zero_add, k2, imp_self]
  refine ⟨fun h => by rw [h]; rfl, fun h => ?_, fun h => ?_⟩
  · rw [e1, Bool.or_eq_true, decide_eq_true_eq, decide_eq_true_eq] at h
    unfold kyE
    rw [if_pos (by omega)]
  · rw [e1, Bool.or_eq_false_iff, decide_eq_false_iff_not, decide_eq_false_iff_not] at h
    have hE : kyE n k = if kDis n k then 0 else 8 := by unfold kyE; rw [if_neg (by omega)]
    rw [hE]
    refine ⟨fun _ => rfl, 0, ⟨Nat.zero_le _, rfl⟩, rfl, fun y hy => ⟨fun hl => ?_, fun hl => ?_⟩⟩
    · have hl := of_decide_eq_true hl
      refine ⟨⟨by omega, by omega⟩, ⟨by omega, by omega⟩, ⟨rfl, by omega, fun e => by have := ha e; omega, fun i hi c hc => hr i (by omega) c hc⟩, fun h => ?_, fun h => ⟨y + 1, ⟨by omega, ?_⟩, by rw [IntKind.wrap_i64]; omega, by show n - (y + 1) + 1 ≤ n - y; omega⟩⟩
      · have hd : kDis n k = false := by
          cases q : kDis n k
          · rfl
          · have := kDis_mono (show y + 1 ≤ n by omega) q
            rw [kDis_succ, h] at this
            rw [Bool.not_true, Bool.and_false] at this
            cases this
        rw [hd]; rfl
      · rw [kDis_succ, hy.2, h]; rfl
    · have hl := of_decide_eq_false hl
      have e1 : y = n := by omega
      rw [← e1, hy.2]
      rfl
theorem card_lk {gl : Globs} : FnOKs Try.prog gl 12 cLk := by
  refine FnOKs.up0 (FnOKs_Q (cx := Cx.none) ⟨fun _ h => (by cases h), fun _ h => (by cases h)⟩ (sl := slCt) (oks_cons card_ct oks_nil) Try.func12 (by kernel_rfl) (by kernel_rfl) fun ls hc => ?_) gl
  unfold lkC at hc
  split at hc
  · rename_i a n cap f
    obtain ⟨p, _⟩ := hc
    have := ok_lk a n cap (kOf f) p.kn p.ka p.kr
    unfold sXk at this
    rw [← p.kf] at this
    refine ⟨_, _, fun r hr => ?_, this⟩
    rw [List.mem_singleton.1 hr]; exact trivial
  · exact hc.1.elim
end Go.Proofs.Ytdlmlejejodbgaa
end

section
namespace Go.Proofs.Ytdlmlejejodbgaa
open Go.Sx
set_option maxRecDepth 100000
def okB (n : Nat) (I U : Nat → Int) (i : Nat) : Bool := I i == (i : Int) && (if i + 1 = n then U i == 0 else decide (1 ≤ U i) && (i == 0 || decide (U (i - 1) ≤ U i)) && decide (U i ≤ 1099511627800))
def stR (n : Nat) (I U : Nat → Int) (N : Nat → Nat) (K : Nat → Nat → Nat → Int) : Nat → Int
  | 0 => 0
  | m + 1 => if stR n I U N K m ≠ 0 then stR n I U N K m else if kyE (N m) (K m) ≠ 0 then kyE (N m) (K m) else if okB n I U m then 0 else 12
def stE (n : Nat) (I U : Nat → Int) (N : Nat → Nat) (K : Nat → Nat → Nat → Int) : Int := if n < 1 ∨ 8 < n then 1 else stR n I U N K n
section
variable {n : Nat} {I U : Nat → Int} {N : Nat → Nat} {K : Nat → Nat → Nat → Int}
theorem stR_stay {m : Nat} (h : stR n I U N K m ≠ 0) : ∀ d, stR n I U N K (m + d) = stR n I U N K m
  | 0 => rfl
  | d + 1 => by
    have ih := stR_stay h d
    have e : stR n I U N K (m + (d + 1)) = if stR n I U N K (m + d) ≠ 0 then stR n I U N K (m + d) else if kyE (N (m + d)) (K (m + d)) ≠ 0 then kyE (N (m + d)) (K (m + d)) else if okB n I U (m + d) then 0 else 12 := rfl
    rw [e, if_pos (by rw [ih]; exact h), ih]
theorem stR_end {m : Nat} (hm : m < n) {r : Int} (hr : r ≠ 0) (h : stR n I U N K (m + 1) = r) : stR n I U N K n = r := by
  have := stR_stay (m := m + 1) (by rw [h]; exact hr) (n - (m + 1))
  rw [show m + 1 + (n - (m + 1)) = n by omega] at this
  rw [this, h]
theorem stR_key {m : Nat} (h : stR n I U N K m = 0) (hk : kyE (N m) (K m) ≠ 0) : stR n I U N K (m + 1) = kyE (N m) (K m) := by
  have e : stR n I U N K (m + 1) = if stR n I U N K m ≠ 0 then stR n I U N K m else if kyE (N m) (K m) ≠ 0 then kyE (N m) (K m) else if okB n I U m then 0 else 12 := rfl
  rw [e, if_neg (fun c => c h), if_pos hk]
theorem stR_ok {m : Nat} (h : stR n I U N K m = 0) (hk : kyE (N m) (K m) = 0) : stR n I U N K (m + 1) = if okB n I U m then 0 else 12 := by
  have e : stR n I U N K (m + 1) = if stR n I U N K m ≠ 0 then stR n I U N K m else if kyE (N m) (K m) ≠ 0 then kyE (N m) (K m) else if okB n I U m then 0 else 12 := rfl
  rw [e, if_neg (fun c => c h), if_neg (fun c => c hk)]
theorem stR_pre {m : Nat} (h : stR n I U N K (m + 1) = 0) : stR n I U N K m = 0 ∧ kyE (N m) (K m) = 0 ∧ okB n I U m = true := by
  have h : (if stR n I U N K m ≠ 0 then stR n I U N K m else if kyE (N m) (K m) ≠ 0 then kyE (N m) (K m) else if okB n I U m then 0 else 12) = 0 := h
  by_cases c : stR n I U N K m = 0
  · rw [if_neg (fun x => x c)] at h
    by_cases d : kyE (N m) (K m) = 0
    · rw [if_neg (fun x => x d)] at h
      refine ⟨c, d, ?_⟩
      cases e : okB n I U m
      · rw [e] at h; cases h
      · rfl
    · rw [if_pos d] at h; exact absurd h d
  · rw [if_pos c] at h; exact absurd h c
theorem okB_last {m : Nat} (h : m + 1 = n) (hi : I m = m) : okB n I U m = (U m == 0) := by
  unfold okB
  rw [if_pos h, hi, beq_self_eq_true, Bool.true_and]
theorem okB_bad {m : Nat} (hi : I m ≠ m) : okB n I U m = false := by
  unfold okB
  rw [show (I m == (m : Int)) = false from beq_eq_false_iff_ne.2 hi, Bool.false_and]
theorem okB_mid {m : Nat} (h : m + 1 ≠ n) (hi : I m = m) : okB n I U m = true ↔ 1 ≤ U m ∧ (m ≠ 0 → U (m - 1) ≤ U m) ∧ U m ≤ 1099511627800 := by
  unfold okB
  rw [if_neg h, hi, beq_self_eq_true, Bool.true_and]
  simp only [Bool.and_eq_true, decide_eq_true_eq, Bool.or_eq_true, beq_iff_eq, and_assoc]
  exact ⟨fun ⟨a, b, c⟩ => ⟨a, fun d => b.resolve_left d, c⟩, fun ⟨a, b, c⟩ => ⟨a, (Nat.eq_zero_or_pos m).imp id fun d => b (by omega), c⟩⟩
theorem stR_okt {m : Nat} (h : stR n I U N K m = 0) (hk : kyE (N m) (K m) = 0) (ho : okB n I U m = true) : stR n I U N K (m + 1) = 0 := by rw [stR_ok h hk, ho]; rfl
theorem stR_okf {m : Nat} (hm : m < n) (h : stR n I U N K m = 0) (hk : kyE (N m) (K m) = 0) (ho : okB n I U m = false) : stR n I U N K n = 12 := stR_end hm (by decide) (by rw [stR_ok h hk, ho]; rfl)
theorem stR_kf {m : Nat} (hm : m < n) (h : stR n I U N K m = 0) (hk : kyE (N m) (K m) ≠ 0) : stR n I U N K n = kyE (N m) (K m) := stR_end hm hk (stR_key h hk)
theorem stR_all : ∀ {m : Nat}, stR n I U N K m = 0 → ∀ j, j < m → kyE (N j) (K j) = 0 ∧ okB n I U j = true
  | 0, _, j, hj => absurd hj (Nat.not_lt_zero _)
  | m + 1, h, j, hj => by
    obtain ⟨h1, h2, h3⟩ := stR_pre h
    by_cases c : j = m
    · rw [c]; exact ⟨h2, h3⟩
    · exact stR_all h1 j (by omega)
theorem stE_0 (h : stE n I U N K = 0) : (1 ≤ n ∧ n ≤ 8) ∧ ∀ j, j < n → kyE (N j) (K j) = 0 ∧ okB n I U j = true := by
  unfold stE at h
  split at h
  · cases h
  · exact ⟨by omega, stR_all h⟩
theorem st_one {m : Nat} (hm : 0 < m) (hn : m < n) (h : stR n I U N K m = 0) : 1 ≤ U (m - 1) := by
  obtain ⟨j, rfl⟩ : ∃ j, m = j + 1 := ⟨m - 1, by omega⟩
  obtain ⟨_, _, h3⟩ := stR_pre h
  unfold okB at h3
  rw [if_neg (show ¬ j + 1 = n by omega)] at h3
  simp only [Bool.and_eq_true, decide_eq_true_eq] at h3
  rw [Nat.add_sub_cancel]
  exact h3.2.1.1
end
end Go.Proofs.Ytdlmlejejodbgaa
end

section
namespace Go.Proofs.Ytdlmlejejodbgaa
open Go.Sx
set_option maxRecDepth 100000
theorem ok_sck (a : Option Addr) (n cap : Nat) (I U : Nat → Int) (A : Nat → Option Addr) (N C : Nat → Nat) (K : Nat → Nat → Nat → Int) (hn : n ≤ maxLen) (hk : ∀ i, i < n → kyP (A i) (N i) (u8F (K i))) :
    OwesR Try.prog cxSc slSc [(4, .inv (invSc a n cap I U A N C K fun i => stR n I U N K i = 0))] 20 Try.f7 [sXs a n cap I U A N C K] false [.v (sI .i64 (stE n I U N K))] := by
  rw [vc_sck]
  intro x1
  have e1 : x1 = decide ((n : Int) < 1) := rfl
  have hML : maxLen = 9223372036854775807 := rfl
  have z : ∀ i c, simC (setF I U A N C K i c) (setF I U A N C K i c) := fun i c => by
    rcases c with _ | _ | c
    · rfl
    · exact ⟨rfl, rfl, rfl, fun i _ => ⟨rfl, rfl, rfl, rfl, rfl, rfl, rfl, rfl, rfl, rfl, rfl, rfl, rfl, rfl, rfl, rfl, rfl, rfl, rfl, rfl⟩⟩
    · rfl
  have k2 : ∀ k : Nat → Nat → Int, kOf (u8F k) = k := fun _ => rfl
  clear_value x1
  simp only [eq_self, implies_true, and_self, true_and, and_true, z, Int.toNat_natCast, Nat.zero_add, k2, imp_self]
  have eq9 : ∀ (b : Int) (c : Int), (!b == c) = true ↔ b ≠ c := fun b c => by simp
  refine ⟨fun h => by rw [h]; rfl, fun h => ?_, fun h => ?_⟩
  · simp only [Bool.or_eq_true, decide_eq_true_eq, e1] at h
    unfold stE
    rw [if_pos (by omega)]
  · simp only [Bool.or_eq_false_iff, decide_eq_false_iff_not, e1] at h
    have es : stE n I U N K = stR n I U N K n := by unfold stE; rw [if_neg (by omega)]
    rw [es]
    refine ⟨fun _ => rfl, 0, ⟨Nat.zero_le _, rfl⟩, rfl, fun y ⟨hy, hP⟩ => ⟨fun hl => ?_, fun hl => ?_⟩⟩
    · replace hl : y < n := by have := of_decide_eq_true hl; omega
      refine ⟨⟨by omega, by omega⟩, hk y hl, fun hb => (stR_kf hl hP (by simpa using hb)).symm, fun hb => ?_⟩
      have hkz : kyE (N y) (K y) = 0 := by simpa using hb
      have go : okB n I U y = true → ∃ y', (y' ≤ n ∧ stR n I U N K y' = 0) ∧ IntKind.i64.wrap ((y : Int) + 1) = (y' : Int) ∧ (n - y').succ ≤ n - y := fun ho =>
        ⟨y + 1, ⟨by omega, stR_okt hP hkz ho⟩, by rw [IntKind.wrap_i64]; omega, by omega⟩
      have no : okB n I U y = false → 12 = stR n I U N K n := fun ho => (stR_okf hl hP hkz ho).symm
      have w1 : IntKind.i64.wrap ((n : Int) - 1) = (n : Int) - 1 := by rw [IntKind.wrap_i64]; omega
      refine ⟨fun hi => ?_, fun hi => no (okB_bad (by simpa using hi))⟩
      have hI : I y = (y : Int) := by simpa using hi
      refine ⟨hi, hi, ⟨by omega, by omega⟩, fun hn => ?_, fun hn => ?_⟩
      · have hny : y + 1 = n := by have := eq_of_beq hn; rw [w1] at this; omega
        have eo := okB_last (U := U) hny hI
        exact ⟨fun h => no (by rw [eo]; simpa using h), fun h => go (by rw [eo]; simpa using h)⟩
      · have hny : y + 1 ≠ n := fun e => by rw [w1] at hn; have := ne_of_beq_false hn; omega
        have eo := okB_mid (U := U) hny hI
        have no' : ¬ (1 ≤ U y ∧ (y ≠ 0 → U (y - 1) ≤ U y) ∧ U y ≤ 1099511627800) → 12 = stR n I U N K n := fun h => no (by
          cases c : okB n I U y
          · rfl
          · exact absurd (eo.1 c) h)
        refine ⟨fun h0 => ⟨fun h => no' fun c => ?_, fun h => go (eo.2 ?_)⟩, fun h0 => ?_⟩
        · simp [c.1, c.2.2] at h
        · simp only [Bool.not_eq_false', Bool.and_eq_true, decide_eq_true_eq] at h
          have := eq_of_beq h0
          exact ⟨h.1, fun c => absurd (by omega) c, h.2⟩
        · have y0 : y ≠ 0 := fun e => by have := ne_of_beq_false h0; omega
          have wy : IntKind.i64.wrap ((y : Int) - 1) = ((y - 1 : Nat) : Int) := by rw [IntKind.wrap_i64]; omega
          rw [wy, Int.toNat_natCast]
          refine ⟨⟨by omega, by omega⟩, fun h => no' fun c => ?_, fun h => go (eo.2 ?_)⟩
          · simp [c.2.1 y0, c.2.2] at h
          · simp only [Bool.not_eq_false', Bool.and_eq_true, decide_eq_true_eq] at h
            have := st_one (by omega) hl hP
            exact ⟨by omega, fun _ => h.1, h.2⟩
    · have := of_decide_eq_false hl
      have hyn : y = n := by omega
      rw [hyn] at hP
      exact hP.symm
end Go.Proofs.Ytdlmlejejodbgaa
end

section
namespace Go.Proofs.Ytdlmlejejodbgaa
open Go.Sx
set_option maxRecDepth 100000
def aOf (f : Nat → Nat → SC) (i : Nat) : Option Addr := match f i 1 with
  | .xs a _ _ _ _ => a
  | _ => none
def mOf (f : Nat → Nat → SC) (i : Nat) : Nat := match f i 1 with
  | .xs _ n _ _ _ => n
  | _ => 0
def cpOf (f : Nat → Nat → SC) (i : Nat) : Nat := match f i 1 with
  | .xs _ _ c _ _ => c
  | _ => 0
def kkOf (f : Nat → Nat → SC) (i : Nat) : Nat → Nat → Int := match f i 1 with
  | .xs _ _ _ _ g => kOf g
  | _ => fun _ _ => 0
structure stP (n : Nat) (f : Nat → Nat → SC) : Prop where
  sf : f = setF (fun i => intOf (f i 0)) (fun i => intOf (f i 2)) (aOf f) (mOf f) (cpOf f) (kkOf f)
  sn : n ≤ maxLen
  sk : ∀ i, i < n → kyP (aOf f i) (mOf f i) (u8F (kkOf f i))
def scC : List (List FD) → List Prop
  | [[.x _ n _ f]] => [stP n f]
  | _ => [False]
def scG : List (List FD) → List RS
  | [[.x _ n _ f]] => [.v (sI .i64 (stE n (fun i => intOf (f i 0)) (fun i => intOf (f i 2)) (mOf f) (kkOf f)))]
  | _ => []
theorem okx_Sc : CxOK Try.prog cxSc := okx_mark okx_nil
theorem stP_set {n : Nat} {I U : Nat → Int} {A : Nat → Option Addr} {N C : Nat → Nat} {K : Nat → Nat → Nat → Int} (hn : n ≤ maxLen) (hk : ∀ i, i < n → kyP (A i) (N i) (u8F (K i))) : stP n (setF I U A N C K) := ⟨rfl, hn, hk⟩
end Go.Proofs.Ytdlmlejejodbgaa
end

section
namespace Go.Proofs.Ytdlmlejejodbgaa
open Go.Sx
set_option maxRecDepth 100000
def kvF (N : Nat → Nat) (K : Nat → Nat → Nat → Int) (n k x c : Nat) : SC := .val (.int .u8 (if x < sm N k then K (wh N n x) (x - sm N (wh N n x)) c else 0))
def swB (I U : Nat → Int) (N : Nat → Nat) (n k i c : Nat) : SC :=
  if i < k then (match c with
    | 0 => .val (.int .i64 (I i))
    | 1 => .slw 0 20 (zz N (sm N n) i) (N i) (N i)
    | _ => .val (.int .i64 (U i))) else (match c with
    | 0 => .val (.int .i64 0)
    | 1 => .val (.slice none 0 0)
    | _ => .val (.int .i64 0))
def soA (a : Option Addr) (n cap : Nat) (I U : Nat → Int) (A : Nat → Option Addr) (N C : Nat → Nat) (K : Nat → Nat → Nat → Int) : Inv where
  X := Nat
  tm y := slotsAt 53 [(0, .one (sXs a n cap I U A N C K)), (3, .one (sI .i64 (sm N y : Int))), (11, .one (sXs a n cap I U A N C K)), (12, .one (sI .i64 (n : Int))), (13, .one (sI .i64 (y : Int)))]
  ob _ := []
  holds y := y ≤ n
  less y := n - y
def soB (a : Option Addr) (n cap : Nat) (I U : Nat → Int) (A : Nat → Option Addr) (N C : Nat → Nat) (K : Nat → Nat → Nat → Int) : Inv where
  X := Nat
  tm y := slotsAt 53 [(6, .one (.sc (.slw 0 20 (zz N (sm N n) y) (sm N n - sm N y) (sm N n - sm N y)))), (7, .one (.sc (.slw 1 3 0 n n))), (28, .one (sXs a n cap I U A N C K)), (29, .one (sI .i64 (n : Int))), (30, .one (sI .i64 (y : Int)))]
  ob y := [.row 36 20 (sm N n) (kvF N K n y) 0, .rown 30 3 n (swB I U N n y) 0 0]
  holds y := y ≤ n
  less y := n - y
def soR (I U : Nat → Int) (N : Nat → Nat) (K : Nat → Nat → Nat → Int) (n : Nat) : List RS := [.ex (fun ac => ∀ i, i < n → (ac [i]).1 = none → N i = 0) fun ac => .rows n 3 (setF I U (fun i => (ac [i]).1) N (fun i => (ac [i]).2) K)]
theorem vc_so (a : Option Addr) (n cap : Nat) (I U : Nat → Int) (A : Nat → Option Addr) (N C : Nat → Nat) (K : Nat → Nat → Nat → Int) :
    OwesR Try.prog .none [] [(3, .inv (soA a n cap I U A N C K)), (10, .inv (soB a n cap I U A N C K)), (16, .split 6 0)] 2 Try.f11 [sXs a n cap I U A N C K] true (soR I U N K n) =
    ((∀ (y : Nat), closedB (slotsAt 53 [(0, SV.one (sXs a n cap I U A N C K)), (3, SV.one (sI Go.IntKind.i64 (↑(sm N y) : Int))), (11, SV.one (sXs a n cap I U A N C K)), (12, SV.one (sI Go.IntKind.i64 (↑n : Int))), (13, SV.one (sI Go.IntKind.i64 (↑y : Int)))]) [] = Bool.true) ∧ ∃ (y : Nat), y ≤ n ∧ simC (SC.xs a n cap 3 (setF I U A N C K)) (SC.xs a n cap 3 (setF I U A N C K)) ∧ (0 : Int) = (↑(sm N y) : Int) ∧ simC (SC.xs a n cap 3 (setF I U A N C K)) (SC.xs a n cap 3 (setF I U A N C K)) ∧ (↑n : Int) = (↑n : Int) ∧ (0 : Int) = (↑y : Int) ∧ ∀ (y : Nat), y ≤ n → (Decidable.decide ((↑y : Int) < (↑n : Int)) = Bool.true → ((0 : Int) ≤ (↑y : Int) ∧ (↑y : Int) < (↑n : Int)) ∧ ∃ (y' : Nat), y' ≤ n ∧ simC (SC.xs a n cap 3 (setF I U A N C K)) (SC.xs a n cap 3 (setF I U A N C K)) ∧ Go.IntKind.i64.wrap ((↑(sm N y) : Int) + (↑(N (↑y : Int).toNat) : Int)) = (↑(sm N y') : Int) ∧ simC (SC.xs a n cap 3 (setF I U A N C K)) (SC.xs a n cap 3 (setF I U A N C K)) ∧ (↑n : Int) = (↑n : Int) ∧ Go.IntKind.i64.wrap ((↑y : Int) + (1 : Int)) = (↑y' : Int) ∧ (n - y').succ.le (n - y)) ∧ (Decidable.decide ((↑y : Int) < (↑n : Int)) = Bool.false → ((0 : Int) ≤ (↑(sm N y) : Int) ∧ (↑(sm N y) : Int) ≤ (↑(sm N y) : Int) ∧ (20 : Int) * (↑(sm N y) : Int) ≤ (281474976710656 : Int) ∧ (↑(sm N y) : Int) ≤ (9223372036854775807 : Int)) ∧ ((0 : Int) ≤ (↑n : Int) ∧ (↑n : Int) ≤ (↑n : Int) ∧ (40 : Int) * (↑n : Int) ≤ (281474976710656 : Int) ∧ (↑n : Int) ≤ (9223372036854775807 : Int)) ∧ (∀ (y : Nat), closedB (slotsAt 53 [(6, SV.one (SA.sc (SC.slw 0 20 (zz N (sm N n) y) (sm N n - sm N y) (sm N n - sm N y)))), (7, SV.one (SA.sc (SC.slw 1 3 0 n n))), (28, SV.one (sXs a n cap I U A N C K)), (29, SV.one (sI Go.IntKind.i64 (↑n : Int))), (30, SV.one (sI Go.IntKind.i64 (↑y : Int)))]) [SO.row (36 : Go.TypeId) 20 (sm N n) (kvF N K n y) 0, SO.rown (30 : Go.TypeId) 3 n (swB I U N n y) 0 0] = Bool.true) ∧ ∃ (y_1 : Nat), y_1 ≤ n ∧ (0 = 0 ∧ 20 = 20 ∧ 0 = zz N (sm N n) y_1 ∧ (↑(sm N y) : Int).toNat = sm N n - sm N y_1 ∧ (↑(sm N y) : Int).toNat = sm N n - sm N y_1) ∧ (1 = 1 ∧ 3 = 3 ∧ 0 = 0 ∧ (↑n : Int).toNat = n ∧ (↑n : Int).toNat = n) ∧ simC (SC.xs a n cap 3 (setF I U A N C K)) (SC.xs a n cap 3 (setF I U A N C K)) ∧ (↑n : Int) = (↑n : Int) ∧ (0 : Int) = (↑y_1 : Int) ∧ (↑(sm N y) : Int).toNat = sm N n ∧ ((↑(sm N y) : Int).toNat - (↑(sm N y) : Int).toNat) * 20 = 0 ∧ (∀ (i : Nat), i < (↑(sm N y) : Int).toNat → allC 20 fun (c : Nat) => simC ((flat (List.map litC (Go.Value.agg #[Go.Value.int Go.IntKind.u8 (0 : Int), Go.Value.int Go.IntKind.u8 (0 : Int), Go.Value.int Go.IntKind.u8 (0 : Int), Go.Value.int Go.IntKind.u8 (0 : Int), Go.Value.int Go.IntKind.u8 (0 : Int), Go.Value.int Go.IntKind.u8 (0 : Int), Go.Value.int Go.IntKind.u8 (0 : Int), Go.Value.int Go.IntKind.u8 (0 : Int), Go.Value.int Go.IntKind.u8 (0 : Int), Go.Value.int Go.IntKind.u8 (0 : Int), Go.Value.int Go.IntKind.u8 (0 : Int), Go.Value.int Go.IntKind.u8 (0 : Int), Go.Value.int Go.IntKind.u8 (0 : Int), Go.Value.int Go.IntKind.u8 (0 : Int), Go.Value.int Go.IntKind.u8 (0 : Int), Go.Value.int Go.IntKind.u8 (0 : Int), Go.Value.int Go.IntKind.u8 (0 : Int), Go.Value.int Go.IntKind.u8 (0 : Int), Go.Value.int Go.IntKind.u8 (0 : Int), Go.Value.int Go.IntKind.u8 (0 : Int)]).cells.toList)).getD c (SC.bit Bool.false)) (kvF N K n y_1 i c)) ∧ (↑n : Int).toNat = n ∧ ((↑n : Int).toNat - (↑n : Int).toNat) * 3 = 0 ∧ (∀ (i : Nat), i < (↑n : Int).toNat → allC 3 fun (c : Nat) => simC ((flat (List.map litC (Go.Value.agg #[Go.Value.int Go.IntKind.i64 (0 : Int), Go.Value.slice Option.none 0 0, Go.Value.int Go.IntKind.i64 (0 : Int)]).cells.toList)).getD c (SC.bit Bool.false)) (swB I U N n y_1 i c)) ∧ ∀ (y : Nat), let x101 : Prop := (↑((N (↑y : Int).toNat).min (sm N n - sm N y)) : Int) ≤ (↑(sm N n - sm N y) : Int); y ≤ n → (Decidable.decide ((↑y : Int) < (↑n : Int)) = Bool.true → ((0 : Int) ≤ (↑y : Int) ∧ (↑y : Int) < (↑n : Int)) ∧ zz N (sm N n) y + (sm N n - sm N y) ≤ sm N n ∧ ((0 : Int) ≤ (↑((N (↑y : Int).toNat).min (sm N n - sm N y)) : Int) ∧ (↑((N (↑y : Int).toNat).min (sm N n - sm N y)) : Int) ≤ (↑((N (↑y : Int).toNat).min (sm N n - sm N y)) : Int) ∧ x101) ∧ ((0 : Int) ≤ (↑((N (↑y : Int).toNat).min (sm N n - sm N y)) : Int) ∧ x101 ∧ (↑(sm N n - sm N y) : Int) ≤ (↑(sm N n - sm N y) : Int)) ∧ ((0 : Int) ≤ (↑y : Int) ∧ (↑y : Int) < (↑n : Int)) ∧ 0 + (↑y : Int).toNat < n ∧ ∃ (y' : Nat), let x102 : Prop := sm N n - sm N y - (↑((N (↑y : Int).toNat).min (sm N n - sm N y)) : Int).toNat = sm N n - sm N y'; y' ≤ n ∧ (0 = 0 ∧ 20 = 20 ∧ offS (sm N n - sm N y) (↑((N (↑y : Int).toNat).min (sm N n - sm N y)) : Int).toNat (zz N (sm N n) y) = zz N (sm N n) y' ∧ x102 ∧ x102) ∧ (1 = 1 ∧ 3 = 3 ∧ 0 = 0 ∧ n = n ∧ n = n) ∧ simC (SC.xs a n cap 3 (setF I U A N C K)) (SC.xs a n cap 3 (setF I U A N C K)) ∧ (↑n : Int) = (↑n : Int) ∧ Go.IntKind.i64.wrap ((↑y : Int) + (1 : Int)) = (↑y' : Int) ∧ sm N n = sm N n ∧ 0 = 0 ∧ (∀ (i : Nat), i < sm N n → allC 20 fun (c : Nat) => simC (selC (Decidable.decide (zz N (sm N n) y ≤ i) && Decidable.decide (i < zz N (sm N n) y + (N (↑y : Int).toNat).min (sm N n - sm N y))) (u8F (K (↑y : Int).toNat) (i - zz N (sm N n) y) c) (kvF N K n y i c)) (kvF N K n y' i c)) ∧ n = n ∧ 0 = 0 ∧ (∀ (i : Nat), i < n → allC 3 fun (c : Nat) => simC (setN (swB I U N n y) (0 + (↑y : Int).toNat) 0 (flat (toKs (SA.agg [SK.c (setF I U A N C K (↑y : Int).toNat 0), SK.c (SC.slw 0 20 (zz N (sm N n) y) (↑((N (↑y : Int).toNat).min (sm N n - sm N y)) : Int).toNat (↑((N (↑y : Int).toNat).min (sm N n - sm N y)) : Int).toNat), SK.c (setF I U A N C K (↑y : Int).toNat 2)]))) i c) (swB I U N n y' i c)) ∧ (n - y').succ.le (n - y)) ∧ (Decidable.decide ((↑y : Int) < (↑n : Int)) = Bool.false → ∀ (b : Nat), (∀ (i : Nat), i < n → allC 3 fun (c : Nat) => thOK 0 20 (sm N n) (swB I U N n y i c)) ∧ ∃ (ac : List Nat → Option Go.Addr × Nat), (∀ (i : Nat), i < n → (ac [i]).fst = Option.none → N i = 0) ∧ 0 + n ≤ n ∧ n = n ∧ n ≤ n ∧ ∀ (i : Nat), i < n → allC 3 fun (c : Nat) => simC (thC b 20 (kvF N K n y) (swB I U N n y (0 + i) c)) (setF I U (fun (i : Nat) => (ac [i]).fst) N (fun (i : Nat) => (ac [i]).snd) K i c)))) := by kernel_rfl
end Go.Proofs.Ytdlmlejejodbgaa
end

section
namespace Go.Sx
end Go.Sx
end

section
namespace Go.Sx
def specQ0 (share : Bool) (aq : List AQ) (c : List (List FD) → List Prop) (g : List (List FD) → List RS) : SSpec :=
  ⟨share, fun args => match asQs aq args with
    | some (ps, ls) => some (ps ++ c ls, g ls)
    | none => none⟩
theorem FnOKs_R0 {P : Program} {cx : Cx} (hcx : CxOK P cx) {sl : List (Nat × SSpec)} (hsl : ∀ p ∈ sl, FnOKs P cx.gl p.1 p.2) {f : Nat} {fn : Func} (hf : P.funcs[f]? = some fn) (hb : fn.body.isSome = true) (hn : (fn.name == "runtime.NumGoroutine") = false)
    {share : Bool} {aq : List AQ} {c : List (List FD) → List Prop} {g : List (List FD) → List RS}
    (h : ∀ ls, Ok (c ls) → ∃ iv N args', (∀ ρ, (mkQs aq ls).map (SA.conc ρ) = args'.map (SA.conc ρ)) ∧ (∀ E, (∀ x ∈ mkQs aq ls, x.bnd E) → ∀ x ∈ args', x.bnd E) ∧ (∀ r ∈ g ls, r.closed) ∧ OwesR P cx sl iv N fn args' share (g ls)) : FnOKs P cx.gl f (specQ0 share aq c g) := by
  refine FnOKs_owes hcx hsl hf hb hn fun args ps rs hs hp => ?_
  simp only [specQ0] at hs
  split at hs
  case h_2 => cases hs
  rename_i q ls ha
  simp only [Option.some.injEq, Prod.mk.injEq] at hs
  obtain ⟨rfl, rfl⟩ := hs
  obtain ⟨o1, o3⟩ := Ok.append.1 hp
  obtain ⟨a1, a2⟩ := asQs_sound ha
  obtain ⟨iv, N, args', h1, h2, hc, hw⟩ := h ls o3
  refine ⟨iv, N, args', fun ρ => by rw [a1 o1 ρ, h1], fun fz hx x hxm => ?_, hc, hw⟩
  exact h2 ⟨fun _ => False, fz⟩ (fun y hy => a2 ⟨fun _ => True, fz⟩ hx y hy) x hxm
end Go.Sx
end

section
namespace Go.Proofs.Ytdlmlejejodbgaa
open Go.Sx
set_option maxRecDepth 100000
section
variable {I U : Nat → Int} {N : Nat → Nat} {K : Nat → Nat → Nat → Int} {n k : Nat}
theorem kv_step (hk : k < n) {z m : Nat} (hz : N k = 0 ∨ z = sm N k) (hm : m = N k) (x c : Nat) :
    simC (selC (decide (z ≤ x) && decide (x < z + m)) (u8F (K k) (x - z) c) (kvF N K n k x c)) (kvF N K n (k + 1) x c) := by
  subst hm
  have key : cond (decide (z ≤ x) && decide (x < z + N k)) (K k (x - z) c) (if x < sm N k then K (wh N n x) (x - sm N (wh N n x)) c else 0) = if x < sm N (k + 1) then K (wh N n x) (x - sm N (wh N n x)) c else 0 := by
    show _ = if x < sm N k + N k then _ else _
    rcases hz with hz | hz
    · rw [hz, Nat.add_zero, Nat.add_zero, show (decide (z ≤ x) && decide (x < z)) = false from by simp only [Bool.and_eq_false_iff, decide_eq_false_iff_not]; omega]
      rfl
    · subst hz
      by_cases h : x < sm N k
      · rw [show (decide (sm N k ≤ x) && decide (x < sm N k + N k)) = false from by simp only [Bool.and_eq_false_iff, decide_eq_false_iff_not]; omega, if_pos h, if_pos (by omega)]
        rfl
      · by_cases h2 : x < sm N k + N k
        · rw [show (decide (sm N k ≤ x) && decide (x < sm N k + N k)) = true from by simp only [Bool.and_eq_true, decide_eq_true_eq]; omega, if_pos h2]
          have := wh_at N n k (x - sm N k) hk (by omega)
          rw [show sm N k + (x - sm N k) = x by omega] at this
          rw [this]; rfl
        · rw [show (decide (sm N k ≤ x) && decide (x < sm N k + N k)) = false from by simp only [Bool.and_eq_false_iff, decide_eq_false_iff_not]; omega, if_neg h, if_neg h2]
          rfl
  show simC (.val (.int .u8 (cond (decide (z ≤ x) && decide (x < z + N k)) (K k (x - z) c) (if x < sm N k then K (wh N n x) (x - sm N (wh N n x)) c else 0)))) (.val (.int .u8 (if x < sm N (k + 1) then K (wh N n x) (x - sm N (wh N n x)) c else 0)))
  rw [key]
  exact val_refl
theorem sw_refl (i c : Nat) : simC (swB I U N n k i c) (swB I U N n k i c) := by
  unfold swB
  split
  · split
    · exact rfl
    · exact ⟨rfl, rfl, rfl, rfl, rfl⟩
    · exact rfl
  · split <;> exact rfl
theorem sw_step (i : Nat) {z m k2 : Nat} {x0 x2 : SC} (h0 : x0 = .val (.int .i64 (I k))) (h2 : x2 = .val (.int .i64 (U k))) (hz : z = zz N (sm N n) k) (hm : m = N k) (hk : k2 = k) :
    allC 3 fun c => simC (setN (swB I U N n k) k2 0 (flat (toKs (SA.agg [SK.c x0, SK.c (SC.slw 0 20 z m m), SK.c x2]))) i c) (swB I U N n (k + 1) i c) := by
  subst hz hm hk h0 h2
  have key : ∀ c (x : SC), x = swB I U N n (k2 + 1) k2 c → cond (decide (i = k2)) x (swB I U N n k2 i c) = swB I U N n (k2 + 1) i c := fun c x hx => by
    by_cases h : i = k2
    · subst h; rw [decide_eq_true rfl, hx]; rfl
    · rw [decide_eq_false h]
      show swB I U N n k2 i c = _
      unfold swB
      by_cases h1 : i < k2
      · rw [if_pos h1, if_pos (by omega)]
      · rw [if_neg h1, if_neg (by omega)]
  have at_ : ∀ c, swB I U N n (k2 + 1) k2 c = match c with
    | 0 => .val (.int .i64 (I k2))
    | 1 => .slw 0 20 (zz N (sm N n) k2) (N k2) (N k2)
    | _ => .val (.int .i64 (U k2)) := fun c => if_pos (Nat.lt_succ_self _)
  refine ⟨?_, ?_, ?_⟩
  · show simC (cond (decide (i = k2)) (.val (.int .i64 (I k2))) (swB I U N n k2 i 0)) _
    rw [key 0 (.val (.int .i64 (I k2))) (at_ 0).symm]; exact sw_refl i 0
  · show simC (cond (decide (i = k2)) (.slw 0 20 (zz N (sm N n) k2) (N k2) (N k2)) (swB I U N n k2 i 1)) _
    rw [key 1 (.slw 0 20 (zz N (sm N n) k2) (N k2) (N k2)) (at_ 1).symm]; exact sw_refl i 1
  · show simC (cond (decide (i = k2)) (.val (.int .i64 (U k2))) (swB I U N n k2 i 2)) _
    rw [key 2 (.val (.int .i64 (U k2))) (at_ 2).symm]; exact sw_refl i 2
end
theorem all_of : ∀ {n : Nat} {f : Nat → Prop}, (∀ c, c < n → f c) → allC n f
  | 0, _, _ => trivial
  | 1, _, h => h 0 (by omega)
  | n + 2, f, h => ⟨h 0 (by omega), all_of (n := n + 1) (f := fun c => f (c + 1)) fun c hc => h (c + 1) (by omega)⟩
theorem set_sim {a : Option Addr} {n cap : Nat} {I U : Nat → Int} {A : Nat → Option Addr} {N C : Nat → Nat} {K : Nat → Nat → Nat → Int} : simC (.xs a n cap 3 (setF I U A N C K)) (.xs a n cap 3 (setF I U A N C K)) := ⟨rfl, rfl, rfl, fun _ _ => ⟨rfl, ⟨rfl, rfl, rfl, fun _ _ => all_of fun _ _ => val_refl (k := .u8)⟩, rfl⟩⟩
theorem ok_so (a : Option Addr) (n cap : Nat) (I U : Nat → Int) (A : Nat → Option Addr) (N C : Nat → Nat) (K : Nat → Nat → Nat → Int) (hn : n ≤ 8) (hN : ∀ i, i < n → N i ≤ 19) :
    OwesR Try.prog .none [] [(3, .inv (soA a n cap I U A N C K)), (10, .inv (soB a n cap I U A N C K)), (16, .split 6 0)] 2 Try.f11 [sXs a n cap I U A N C K] true (soR I U N K n) := by
  rw [vc_so]
  have xx := set_sim (a := a) (n := n) (cap := cap) (I := I) (U := U) (A := A) (N := N) (C := C) (K := K)
  have hS : sm N n ≤ 152 := by have := sm_le n hN; omega
  refine ⟨fun _ => rfl, 0, Nat.zero_le _, xx, rfl, xx, rfl, rfl, fun y hy => ⟨fun hl => ?_, fun hl => ?_⟩⟩
  · have hl := of_decide_eq_true hl
    have hk : y < n := by omega
    have u := sm_up N hk
    refine ⟨⟨by omega, hl⟩, y + 1, hk, xx, ?_, xx, rfl, ?_, ?_⟩
    · show IntKind.i64.wrap ((sm N y : Int) + (N y : Int)) = ((sm N y + N y : Nat) : Int)
      rw [IntKind.wrap_i64]; omega
    · show IntKind.i64.wrap ((y : Int) + 1) = ((y + 1 : Nat) : Int)
      rw [IntKind.wrap_i64]; omega
    · show (n - (y + 1)) + 1 ≤ n - y
      omega
  · have hl := of_decide_eq_false hl
    have e : n = y := by omega
    subst e
    refine ⟨⟨by omega, Int.le_refl _, by omega, by omega⟩, ⟨by omega, Int.le_refl _, by omega, by omega⟩, fun _ => rfl, 0, Nat.zero_le _, ⟨rfl, rfl, rfl, rfl, rfl⟩, ⟨rfl, rfl, rfl, rfl, rfl⟩, xx, rfl, rfl, rfl, by rw [Nat.sub_self], fun i _ => ?_, rfl, by rw [Nat.sub_self], fun i _ => ?_, ?_⟩
    · have e0 : ∀ c, kvF N K n 0 i c = .val (.int .u8 0) := fun c => by
        unfold kvF
        rw [if_neg (show ¬ i < sm N 0 from Nat.not_lt_zero i)]
      simp only [e0]
      exact ⟨rfl, rfl, rfl, rfl, rfl, rfl, rfl, rfl, rfl, rfl, rfl, rfl, rfl, rfl, rfl, rfl, rfl, rfl, rfl, rfl⟩
    · exact ⟨rfl, rfl, rfl⟩
    intro y x101 hy
    refine ⟨fun hl => ?_, fun hl => ?_⟩
    · have hl := of_decide_eq_true hl
      have hk : y < n := by omega
      have u := sm_up N hk
      have em : Nat.min (N (y : Int).toNat) (sm N n - sm N y) = N y := Nat.min_eq_left (by show N y ≤ _; omega)
      have z1 := zz_le N (sm N n) y
      have hz : N y = 0 ∨ zz N (sm N n) y = sm N y := by
        rcases Nat.eq_zero_or_pos (N y) with h | h
        · exact .inl h
        · exact .inr (zz_at y (by omega))
      have h101 : x101 := by show ((Nat.min (N (y : Int).toNat) (sm N n - sm N y) : Nat) : Int) ≤ _; rw [em]; omega
      clear_value x101
      refine ⟨⟨by omega, hl⟩, by omega, ⟨by omega, Int.le_refl _, h101⟩, ⟨by omega, h101, Int.le_refl _⟩, ⟨by omega, hl⟩, by show 0 + y < n; omega, y + 1, ?_⟩
      intro x102
      have h102 : x102 := by show sm N n - sm N y - ((Nat.min (N (y : Int).toNat) (sm N n - sm N y) : Nat) : Int).toNat = sm N n - (sm N y + N y); rw [em]; omega
      clear_value x102
      refine ⟨hk, ⟨rfl, rfl, ?_, h102, h102⟩, ⟨rfl, rfl, rfl, rfl, rfl⟩, xx, rfl, ?_, rfl, rfl, fun i _ => all_of fun c _ => ?_, rfl, rfl, fun i _ => ?_, ?_⟩
      · show offS (sm N n - sm N y) ((Nat.min (N (y : Int).toNat) (sm N n - sm N y) : Nat) : Int).toNat (zz N (sm N n) y) = _
        rw [em]; rfl
      · show IntKind.i64.wrap ((y : Int) + 1) = ((y + 1 : Nat) : Int)
        rw [IntKind.wrap_i64]; omega
      · exact kv_step hk hz em i c
      · refine sw_step i rfl rfl rfl ?_ (by show 0 + y = y; omega)
        show ((Nat.min (N (y : Int).toNat) (sm N n - sm N y) : Nat) : Int).toNat = N y
        rw [em]; rfl
      · show (n - (y + 1)) + 1 ≤ n - y
        omega
    · have hl := of_decide_eq_false hl
      have e : n = y := by omega
      subst e
      refine fun b => ⟨fun i hi => ?_, fun p => match p with
          | [i] => (some ⟨b, zz N (sm N n) i * 20, none⟩, N i)
          | _ => (none, 0), fun i _ h => (by cases h), by omega, rfl, Nat.le_refl _, fun i hi => ?_⟩
      · have z1 := zz_le N (sm N n) i
        have u := sm_up N hi
        have h0 : ∀ c, swB I U N n n i c = match c with
          | 0 => .val (.int .i64 (I i))
          | 1 => .slw 0 20 (zz N (sm N n) i) (N i) (N i)
          | _ => .val (.int .i64 (U i)) := fun c => if_pos hi
        refine ⟨?_, ?_, ?_⟩
        · show thOK 0 20 (sm N n) (swB I U N n n i 0)
          rw [h0 0]; exact rfl
        · show thOK 0 20 (sm N n) (swB I U N n n i 1)
          rw [h0 1]; exact ⟨rfl, rfl, by omega, Nat.le_refl _⟩
        · show thOK 0 20 (sm N n) (swB I U N n n i 2)
          rw [h0 2]; exact rfl
      · have h0 : ∀ c, swB I U N n n (0 + i) c = match c with
          | 0 => .val (.int .i64 (I i))
          | 1 => .slw 0 20 (zz N (sm N n) i) (N i) (N i)
          | _ => .val (.int .i64 (U i)) := fun c => by rw [Nat.zero_add]; exact if_pos hi
        refine ⟨?_, ?_, ?_⟩
        · show simC (thC b 20 _ (swB I U N n n (0 + i) 0)) _
          rw [h0 0]; exact rfl
        · show simC (thC b 20 _ (swB I U N n n (0 + i) 1)) _
          rw [h0 1]
          refine ⟨rfl, rfl, rfl, fun j hj => all_of fun c _ => ?_⟩
          have hj : j < N i := hj
          have u := sm_up N hi
          have ez : zz N (sm N n) i = sm N i := zz_at i (by omega)
          show simC (kvF N K n n (zz N (sm N n) i + j) c) (.val (.int .u8 (K i j c)))
          rw [ez]
          unfold kvF
          rw [if_pos (by omega), wh_at N n i j hi hj, Nat.add_sub_cancel_left]
          exact val_refl
        · show simC (thC b 20 _ (swB I U N n n (0 + i) 2)) _
          rw [h0 2]; exact rfl
theorem xs_told {a : Option Addr} {n cap w : Nat} {f g : Nat → Nat → SC} (h : ∀ i, i < n → ∀ c, c < w → f i c = g i c) {E : Env} (hb : (SC.xs a n cap w f).bnd E) : (SC.xs a n cap w g).bnd E := by
  obtain ⟨b1, b2, b3⟩ := hb
  exact ⟨b1, b2, fun b hb => ⟨(b3 b hb).1, fun i hi c hc => by rw [← h i hi c hc]; exact (b3 b hb).2 i hi c hc⟩⟩
theorem xs_told2 {a : Option Addr} {n cap w : Nat} {f g : Nat → Nat → SC} (h : ∀ i, i < n → ∀ c, c < w → (∀ E : Env, (f i c).bnd E → (g i c).bnd E) ∧ ((f i c).fit = true → (g i c).fit = true) ∧ (f i c).conc Rho.nil = (g i c).conc Rho.nil) {E : Env} (hb : (SC.xs a n cap w f).bnd E) : (SC.xs a n cap w g).bnd E := by
  obtain ⟨b1, b2, b3⟩ := hb
  exact ⟨b1, b2, fun b hb => ⟨(b3 b hb).1, fun i hi c hc => by
    obtain ⟨q1, q2, q3⟩ := h i hi c hc
    have k := (b3 b hb).2 i hi c hc
    exact ⟨q1 _ k.1, q2 k.2.1, q3 ▸ k.2.2⟩⟩⟩
def tld (x y : SC) : Prop := x = y ∨ ∃ k v, x = .num k v ∧ y = .val (.int k v)
theorem tld_all {x y : SC} (h : tld x y) : (∀ E : Env, x.bnd E → y.bnd E) ∧ (x.fit = true → y.fit = true) ∧ x.conc Rho.nil = y.conc Rho.nil := by
  rcases h with rfl | ⟨k, v, rfl, rfl⟩
  · exact ⟨fun _ h => h, fun h => h, rfl⟩
  · exact ⟨fun _ _ => trivial, fun _ => rfl, rfl⟩
structure soP (n : Nat) (f : Nat → Nat → SC) : Prop where
  sf : ∀ i, i < n → ∀ c, c < 3 → tld (f i c) (setF (fun i => intOf (f i 0)) (fun i => intOf (f i 2)) (aOf f) (mOf f) (cpOf f) (kkOf f) i c)
  sn : n ≤ 8
  sk : ∀ i, i < n → mOf f i ≤ 19
def soC : List (List FD) → List Prop
  | [[.x _ n _ f]] => [soP n f]
  | _ => [False]
def soG : List (List FD) → List RS
  | [[.x _ n _ f]] => soR (fun i => intOf (f i 0)) (fun i => intOf (f i 2)) (mOf f) (kkOf f) n
  | _ => []
def cSo : SSpec := specQ0 true [.one (.x 3)] soC soG
theorem okx_n : CxOK Try.prog Cx.none := ⟨fun _ h => (by cases h), fun _ h => (by cases h)⟩
theorem card_so {gl : Globs} : FnOKs Try.prog gl 11 cSo := by
  refine FnOKs.up0 (FnOKs_R0 (cx := .none) okx_n (sl := []) oks_nil Try.func11 (by kernel_rfl) (by kernel_rfl) fun ls hc => ?_) gl
  unfold soC at hc
  split at hc
  · rename_i a n cap f
    obtain ⟨p, _⟩ := hc
    refine ⟨_, _, _, fun ρ => ?_, fun E hE x hx => ?_, fun r hr => ?_, ok_so a n cap (fun i => intOf (f i 0)) (fun i => intOf (f i 2)) (aOf f) (mOf f) (cpOf f) (kkOf f) p.sn p.sk⟩
    · rfl
    · rw [List.mem_singleton.1 hx]
      exact xs_told2 (fun i hi c hc => tld_all (p.sf i hi c hc)) (hE (.sc (.xs a n cap 3 f)) (List.mem_cons_self ..))
    · unfold soG soR at hr
      rw [List.mem_singleton.1 hr]
      exact fun _ => trivial
  · exact hc.1.elim
end Go.Proofs.Ytdlmlejejodbgaa
end

section
namespace Go.Proofs.Ytdlmlejejodbgaa
open Go.Sx
set_option maxRecDepth 100000
def cSc0 : SSpec := specQ0 false [.one (.x 3)] scC scG
def cLk0 : SSpec := specQ0 false [.one (.x 20)] lkC lkG
def putN {T : Type} (n : Nat) (g : Nat → T) (x : T) (i : Nat) : T := if i < n then g i else x
def tuU (U : Nat → Int) (n : Nat) (now : Int) (i : Nat) : Int := if i + 1 = n then now + 24 else if i < n then U i else 0
def tuI (I : Nat → Int) (n : Nat) (i : Nat) : Int := if i < n then I i else (n : Int)
def stX (n : Nat) (N : Nat → Nat) (ac : List Nat → Option Addr × Nat) : Prop := ∀ i, i < n → (ac [i]).1 = none → N i = 0
def tuR (I U : Nat → Int) (N : Nat → Nat) (K : Nat → Nat → Nat → Int) (n m : Nat) (k : Nat → Nat → Int) (now : Int) : List RS :=
  [.ex (stX (n + 1) (putN n N m)) fun ac => .rows (n + 1) 3 (setF (tuI I n) (tuU U n now) (fun i => (ac [i]).1) (putN n N m) (fun i => (ac [i]).2) (putN n K k)), .v (sI .i64 0)]
def bgR (m : Nat) (k : Nat → Nat → Int) : List RS :=
  [.ex (stX 1 (fun _ => m)) fun ac => .rows 1 3 (setF (fun _ => 0) (fun _ => 0) (fun i => (ac [i]).1) (fun _ => m) (fun i => (ac [i]).2) (fun _ => k)), .v (sI .i64 0)]
def liE (n : Nat) (U : Nat → Int) (x now : Int) : Int := if x < 0 ∨ (n : Int) ≤ x then 5 else if U x.toNat ≠ 0 ∧ U x.toNat ≤ now then 15 else 0
def kI (x : Int) : RK := .k (.c (.val (.int .i64 x)))
def lvR (I U : Nat → Int) (N : Nat → Nat) (K : Nat → Nat → Nat → Int) (n : Nat) (x now : Int) : List RS :=
  [.st [kI (if liE n U x now = 0 then I x.toNat else 0), .s (if liE n U x now = 0 then N x.toNat else 0) 20 (u8F (K x.toNat)), kI (if liE n U x now = 0 then U x.toNat else 0)], .v (sI .i64 (liE n U x now))]
def slTu : List (Nat × SSpec) := [(7, cSc0), (12, cLk0), (11, cSo)]
def slLi : List (Nat × SSpec) := [(7, cSc0), (12, cLk0)]
def cxTu : Cx := ⟨[(1000000010, fun _ => none), (1000000012, fun _ => none), (1000000013, fun _ => none), (1000000014, fun _ => none), (1000000020, fun _ => none)], [], 0, []⟩
theorem vc_bg (a : Option Addr) (m cap : Nat) (k : Nat → Nat → Int) :
    OwesR Try.prog cxTu slTu [] 2 Try.f8 [sXk a m cap k] true (bgR m k) =
    (let x1 : Prop := 1 = 0; kyP a m (u8F k) ∧ ((kyE m (kOf (u8F k)) != (0 : Int)) = Bool.true → (∃ (ac : List Nat → Option Go.Addr × Nat), (∀ (i : Nat), i < 1 → (ac [i]).fst = Option.none → m = 0) ∧ x1) ∧ kyE m (kOf (u8F k)) = (0 : Int)) ∧ ((kyE m (kOf (u8F k)) != (0 : Int)) = Bool.false → 1 ≤ 1 ∧ ∀ (_ : Go.Addr), (soP 1 fun (i c : Nat) => (flat ([] ++ toKs (SA.agg ([SK.c (SC.num Go.IntKind.i64 (0 : Int))] ++ toKs (sXk a m cap k) ++ litC (Go.Value.int Go.IntKind.i64 (0 : Int)) :: [])) ++ [])).getD (i * 3 + c) (SC.bit Bool.false)) ∧ ∀ (ac : List Nat → Option Go.Addr × Nat), (∀ (i : Nat), i < 1 → (ac [i]).fst = Option.none → mOf (fun (i c : Nat) => (flat ([] ++ toKs (SA.agg ([SK.c (SC.num Go.IntKind.i64 (0 : Int))] ++ toKs (sXk a m cap k) ++ litC (Go.Value.int Go.IntKind.i64 (0 : Int)) :: [])) ++ [])).getD (i * 3 + c) (SC.bit Bool.false)) i = 0) → ∀ (a_4 : Option Go.Addr) (cap_1 : Nat), (a_4 = Option.none → x1 ∧ cap_1 = 0) → 1 ≤ cap_1 → (∃ (ac_1 : List Nat → Option Go.Addr × Nat), (∀ (i : Nat), i < 1 → (ac_1 [i]).fst = Option.none → m = 0) ∧ 1 = 1 ∧ ∀ (i : Nat), i < 1 → allC 3 fun (c : Nat) => simC (setF (fun (i : Nat) => intOf ((flat ([] ++ toKs (SA.agg ([SK.c (SC.num Go.IntKind.i64 (0 : Int))] ++ toKs (sXk a m cap k) ++ litC (Go.Value.int Go.IntKind.i64 (0 : Int)) :: [])) ++ [])).getD (i * 3 + 0) (SC.bit Bool.false))) (fun (i : Nat) => intOf ((flat ([] ++ toKs (SA.agg ([SK.c (SC.num Go.IntKind.i64 (0 : Int))] ++ toKs (sXk a m cap k) ++ litC (Go.Value.int Go.IntKind.i64 (0 : Int)) :: [])) ++ [])).getD (i * 3 + 2) (SC.bit Bool.false))) (fun (i : Nat) => (ac [i]).fst) (mOf fun (i c : Nat) => (flat ([] ++ toKs (SA.agg ([SK.c (SC.num Go.IntKind.i64 (0 : Int))] ++ toKs (sXk a m cap k) ++ litC (Go.Value.int Go.IntKind.i64 (0 : Int)) :: [])) ++ [])).getD (i * 3 + c) (SC.bit Bool.false)) (fun (i : Nat) => (ac [i]).snd) (kkOf fun (i c : Nat) => (flat ([] ++ toKs (SA.agg ([SK.c (SC.num Go.IntKind.i64 (0 : Int))] ++ toKs (sXk a m cap k) ++ litC (Go.Value.int Go.IntKind.i64 (0 : Int)) :: [])) ++ [])).getD (i * 3 + c) (SC.bit Bool.false)) i c) (setF (fun (_ : Nat) => (0 : Int)) (fun (_ : Nat) => (0 : Int)) (fun (i : Nat) => (ac_1 [i]).fst) (fun (_ : Nat) => m) (fun (i : Nat) => (ac_1 [i]).snd) (fun (_ : Nat) => k) i c)) ∧ (0 : Int) = (0 : Int))) := by kernel_rfl
theorem vc_tu (a : Option Addr) (n cap : Nat) (I U : Nat → Int) (A : Nat → Option Addr) (N C : Nat → Nat) (K : Nat → Nat → Nat → Int) (b : Option Addr) (m cb : Nat) (k : Nat → Nat → Int) (now : Int) :
    OwesR Try.prog cxTu slTu [] 2 Try.f10 [sXs a n cap I U A N C K, sXk b m cb k, sI .i64 now] true (tuR I U N K n m k now) =
    (let x1 : Int := stE n (fun (i : Nat) => intOf (setF I U A N C K i 0)) (fun (i : Nat) => intOf (setF I U A N C K i 2)) (mOf (setF I U A N C K)) (kkOf (setF I U A N C K)); let x2 : Nat := n + 1; let x3 : Bool := Decidable.decide (now < (1 : Int)); let x4 : Prop := (!x3) = Bool.true; let x5 : Prop := (!(x3 || Decidable.decide (now > (1099511627776 : Int)))) = Bool.true; let x6 : Int := Go.IntKind.i64.wrap ((↑n : Int) - (1 : Int)); let x7 : Int := Go.IntKind.i64.wrap (now + (24 : Int)); let x8 : Prop := (∃ (ac : List Nat → Option Go.Addr × Nat), (∀ (i : Nat), i < x2 → (ac [i]).fst = Option.none → putN n N m i = 0) ∧ x2 = 0) ∧ (6 : Int) = (0 : Int); let x9 : Prop := (↑n : Int) ≤ (↑n : Int); let x10 : Nat := (↑n : Int).toNat + 1; let x11 : Nat := 0 + x6.toNat; let x12 : Prop := (((↑n : Int) == (8 : Int)) = Bool.true → (∃ (ac : List Nat → Option Go.Addr × Nat), (∀ (i : Nat), i < x2 → (ac [i]).fst = Option.none → putN n N m i = 0) ∧ x2 = 0) ∧ (9 : Int) = (0 : Int)) ∧ (((↑n : Int) == (8 : Int)) = Bool.false → ((0 : Int) ≤ (↑n : Int) ∧ x9 ∧ (↑n : Int) ≤ (↑cap : Int) ∧ x9) ∧ (↑n : Int).toNat ≠ 0 ∧ (↑n : Int).toNat = (↑n : Int).toNat ∧ (x10 ≤ Go.maxLen ∧ x10 * 40 ≤ 140737488355328) ∧ ∀ (c : Nat), x10 + c ≤ Go.maxLen → ((0 : Int) ≤ x6 ∧ x6 < (↑x10 : Int)) ∧ x11 < x10 ∧ ∀ (_ : Nat → Go.Addr), 0 + x10 ≤ x10 ∧ x10 ≤ x10 + c ∧ (soP x10 fun (i c : Nat) => setG (fun (i c : Nat) => selC (Decidable.decide (i < (↑n : Int).toNat)) (setF I U A N C K i c) (fixAt (flat [SK.c (SC.val (Go.Value.int Go.IntKind.i64 (↑n : Int))), SK.c (SC.xs b m cb 20 (u8F k)), SK.c (SC.num Go.IntKind.i64 (0 : Int))]) 3 1 0 (i - (↑n : Int).toNat) c)) x11 2 (flat (toKs (ofV (Bool.false && Bool.true) (Go.Value.int Go.IntKind.i64 x7)))) (0 + i) c) ∧ ∀ (ac : List Nat → Option Go.Addr × Nat), (∀ (i : Nat), i < x10 → (ac [i]).fst = Option.none → mOf (fun (i c : Nat) => setG (fun (i c : Nat) => selC (Decidable.decide (i < (↑n : Int).toNat)) (setF I U A N C K i c) (fixAt (flat [SK.c (SC.val (Go.Value.int Go.IntKind.i64 (↑n : Int))), SK.c (SC.xs b m cb 20 (u8F k)), SK.c (SC.num Go.IntKind.i64 (0 : Int))]) 3 1 0 (i - (↑n : Int).toNat) c)) x11 2 (flat (toKs (ofV (Bool.false && Bool.true) (Go.Value.int Go.IntKind.i64 x7)))) (0 + i) c) i = 0) → ∀ (a : Option Go.Addr) (cap : Nat), (a = Option.none → x10 = 0 ∧ cap = 0) → x10 ≤ cap → (∃ (ac_1 : List Nat → Option Go.Addr × Nat), (∀ (i : Nat), i < x2 → (ac_1 [i]).fst = Option.none → putN n N m i = 0) ∧ x10 = x2 ∧ ∀ (i : Nat), i < x2 → allC 3 fun (c : Nat) => simC (setF (fun (i : Nat) => intOf (setG (fun (i c : Nat) => selC (Decidable.decide (i < (↑n : Int).toNat)) (setF I U A N C K i c) (fixAt (flat [SK.c (SC.val (Go.Value.int Go.IntKind.i64 (↑n : Int))), SK.c (SC.xs b m cb 20 (u8F k)), SK.c (SC.num Go.IntKind.i64 (0 : Int))]) 3 1 0 (i - (↑n : Int).toNat) c)) x11 2 (flat (toKs (ofV (Bool.false && Bool.true) (Go.Value.int Go.IntKind.i64 x7)))) (0 + i) 0)) (fun (i : Nat) => intOf (setG (fun (i c : Nat) => selC (Decidable.decide (i < (↑n : Int).toNat)) (setF I U A N C K i c) (fixAt (flat [SK.c (SC.val (Go.Value.int Go.IntKind.i64 (↑n : Int))), SK.c (SC.xs b m cb 20 (u8F k)), SK.c (SC.num Go.IntKind.i64 (0 : Int))]) 3 1 0 (i - (↑n : Int).toNat) c)) x11 2 (flat (toKs (ofV (Bool.false && Bool.true) (Go.Value.int Go.IntKind.i64 x7)))) (0 + i) 2)) (fun (i : Nat) => (ac [i]).fst) (mOf fun (i c : Nat) => setG (fun (i c : Nat) => selC (Decidable.decide (i < (↑n : Int).toNat)) (setF I U A N C K i c) (fixAt (flat [SK.c (SC.val (Go.Value.int Go.IntKind.i64 (↑n : Int))), SK.c (SC.xs b m cb 20 (u8F k)), SK.c (SC.num Go.IntKind.i64 (0 : Int))]) 3 1 0 (i - (↑n : Int).toNat) c)) x11 2 (flat (toKs (ofV (Bool.false && Bool.true) (Go.Value.int Go.IntKind.i64 x7)))) (0 + i) c) (fun (i : Nat) => (ac [i]).snd) (kkOf fun (i c : Nat) => setG (fun (i c : Nat) => selC (Decidable.decide (i < (↑n : Int).toNat)) (setF I U A N C K i c) (fixAt (flat [SK.c (SC.val (Go.Value.int Go.IntKind.i64 (↑n : Int))), SK.c (SC.xs b m cb 20 (u8F k)), SK.c (SC.num Go.IntKind.i64 (0 : Int))]) 3 1 0 (i - (↑n : Int).toNat) c)) x11 2 (flat (toKs (ofV (Bool.false && Bool.true) (Go.Value.int Go.IntKind.i64 x7)))) (0 + i) c) i c) (setF (tuI I n) (tuU U n now) (fun (i : Nat) => (ac_1 [i]).fst) (putN n N m) (fun (i : Nat) => (ac_1 [i]).snd) (putN n K k) i c)) ∧ (0 : Int) = (0 : Int)); let x13 : Int := Go.IntKind.i64.wrap (x6 - (1 : Int)); let x14 : Int := U x13.toNat; stP n (setF I U A N C K) ∧ ((x1 != (0 : Int)) = Bool.true → (∃ (ac : List Nat → Option Go.Addr × Nat), (∀ (i : Nat), i < x2 → (ac [i]).fst = Option.none → putN n N m i = 0) ∧ x2 = 0) ∧ x1 = (0 : Int)) ∧ ((x1 != (0 : Int)) = Bool.false → kyP b m (u8F k) ∧ ((kyE m (kOf (u8F k)) != (0 : Int)) = Bool.true → (∃ (ac : List Nat → Option Go.Addr × Nat), (∀ (i : Nat), i < x2 → (ac [i]).fst = Option.none → putN n N m i = 0) ∧ x2 = 0) ∧ kyE m (kOf (u8F k)) = (0 : Int)) ∧ ((kyE m (kOf (u8F k)) != (0 : Int)) = Bool.false → (x4 → x4) ∧ (x3 = Bool.false → x4) ∧ (x5 → x5) ∧ (x5 → x5 ∧ x5 ∧ ((x6 == (0 : Int)) = Bool.true → x5 ∧ (Decidable.decide (x7 < (1 : Int)) = Bool.true → x8) ∧ (Decidable.decide (x7 < (1 : Int)) = Bool.false → x12)) ∧ ((x6 == (0 : Int)) = Bool.false → ((0 : Int) ≤ x13 ∧ x13 < (↑n : Int)) ∧ x5 ∧ (Decidable.decide (x7 < x14) = Bool.true → x8) ∧ (Decidable.decide (x7 < x14) = Bool.false → x12))) ∧ ((!(x3 || Decidable.decide (now > (1099511627776 : Int)))) = Bool.false → x8)))) := by kernel_rfl
theorem vc_li (a : Option Addr) (n cap : Nat) (I U : Nat → Int) (A : Nat → Option Addr) (N C : Nat → Nat) (K : Nat → Nat → Nat → Int) (x now : Int) :
    OwesR Try.prog cxTu slLi [] 3 Try.f6 [sXs a n cap I U A N C K, sI .i64 x, sI .i64 now] true (lvR I U N K n x now) =
    (let x1 : Int := stE n (fun (i : Nat) => intOf (setF I U A N C K i 0)) (fun (i : Nat) => intOf (setF I U A N C K i 2)) (mOf (setF I U A N C K)) (kkOf (setF I U A N C K)); let x2 : Prop := liE n U x now = (0 : Int); let x3 : Int := if x2 then I x.toNat else (0 : Int); let x4 : Nat := if x2 then N x.toNat else 0; let x5 : Int := if x2 then U x.toNat else (0 : Int); let x6 : Bool := Decidable.decide (x < (0 : Int)); let x7 : Prop := (!x6) = Bool.true; let x8 : Bool := U x.toNat != (0 : Int); let x9 : Prop := x8 = Bool.true; let x10 : Int := Go.IntKind.i64.wrap ((0 : Int) + (↑(N x.toNat) : Int)); let x11 : Nat := x10.toNat; let x12 : Nat := (N x.toNat).min x11; let x13 : Int := (↑x12 : Int); let x14 : Int := (↑x11 : Int); let x15 : Prop := x13 ≤ x14; let x16 : Nat := x13.toNat; let x17 : Nat := 0 + x12; stP n (setF I U A N C K) ∧ ((x1 != (0 : Int)) = Bool.true → (((0 : Int) = x3 ∧ True) ∧ x4 = 0 ∧ ((0 : Int) = x5 ∧ True) ∧ True) ∧ x1 = liE n U x now) ∧ ((x1 != (0 : Int)) = Bool.false → (x7 → x7) ∧ (x7 → x7) ∧ (x7 → x7) ∧ (x6 = Bool.false → x7) ∧ ((x6 || Decidable.decide (x ≥ (↑n : Int))) = Bool.true → (((0 : Int) = x3 ∧ True) ∧ x4 = 0 ∧ ((0 : Int) = x5 ∧ True) ∧ True) ∧ (5 : Int) = liE n U x now) ∧ ((x6 || Decidable.decide (x ≥ (↑n : Int))) = Bool.false → ((0 : Int) ≤ x ∧ x < (↑n : Int)) ∧ (x9 → x9) ∧ (x9 → x9) ∧ (x9 → x9) ∧ (x9 → x9) ∧ ((x8 && Decidable.decide (now ≥ U x.toNat)) = Bool.true → (((0 : Int) = x3 ∧ True) ∧ x4 = 0 ∧ ((0 : Int) = x5 ∧ True) ∧ True) ∧ (15 : Int) = liE n U x now) ∧ ((x8 && Decidable.decide (now ≥ U x.toNat)) = Bool.false → ((0 : Int) ≤ x10 ∧ x10 ≤ x10 ∧ (20 : Int) * x10 ≤ (281474976710656 : Int) ∧ x10 ≤ (9223372036854775807 : Int)) ∧ 0 + x11 ≤ x11 ∧ ((0 : Int) ≤ x13 ∧ x13 ≤ x13 ∧ x15) ∧ ((0 : Int) ≤ x13 ∧ x15 ∧ x14 ≤ x14) ∧ ((I x.toNat = x3 ∧ True) ∧ (0 + x16 ≤ x11 ∧ x16 = x4 ∧ x16 ≤ x16 ∧ ∀ (i : Nat), i < x4 → allC 20 fun (c : Nat) => simC (selC (Decidable.decide (0 ≤ 0 + i) && Decidable.decide (0 + i < x17)) (u8F (K x.toNat) (0 + i - 0) c) ((flat (List.map litC (Go.Value.agg #[Go.Value.int Go.IntKind.u8 (0 : Int), Go.Value.int Go.IntKind.u8 (0 : Int), Go.Value.int Go.IntKind.u8 (0 : Int), Go.Value.int Go.IntKind.u8 (0 : Int), Go.Value.int Go.IntKind.u8 (0 : Int), Go.Value.int Go.IntKind.u8 (0 : Int), Go.Value.int Go.IntKind.u8 (0 : Int), Go.Value.int Go.IntKind.u8 (0 : Int), Go.Value.int Go.IntKind.u8 (0 : Int), Go.Value.int Go.IntKind.u8 (0 : Int), Go.Value.int Go.IntKind.u8 (0 : Int), Go.Value.int Go.IntKind.u8 (0 : Int), Go.Value.int Go.IntKind.u8 (0 : Int), Go.Value.int Go.IntKind.u8 (0 : Int), Go.Value.int Go.IntKind.u8 (0 : Int), Go.Value.int Go.IntKind.u8 (0 : Int), Go.Value.int Go.IntKind.u8 (0 : Int), Go.Value.int Go.IntKind.u8 (0 : Int), Go.Value.int Go.IntKind.u8 (0 : Int), Go.Value.int Go.IntKind.u8 (0 : Int)]).cells.toList)).getD c (SC.bit Bool.false))) (u8F (K x.toNat) i c)) ∧ (U x.toNat = x5 ∧ True) ∧ True) ∧ (0 : Int) = liE n U x now)))) := by kernel_rfl
end Go.Proofs.Ytdlmlejejodbgaa
end

section
namespace Go.Proofs.Ytdlmlejejodbgaa
open Go.Sx
set_option maxRecDepth 100000
theorem ky_few {m : Nat} {k : Nat → Nat → Int} (h : kyE m k = 0) : 1 ≤ m ∧ m ≤ 19 := by
  unfold kyE at h
  split at h
  · cases h
  · omega
theorem cond_put {T : Type} {n : Nat} (g : Nat → T) (x : T) (i : Nat) : cond (decide (i < n)) (g i) x = putN n g x i := by
  unfold putN
  by_cases h : i < n
  · rw [if_pos h, decide_eq_true h]; rfl
  · rw [if_neg h, decide_eq_false h]; rfl
theorem ok_bg (a : Option Addr) (m cap : Nat) (k : Nat → Nat → Int) (hk : kyP a m (u8F k)) (he : kyE m k = 0) :
    OwesR Try.prog cxTu slTu [] 2 Try.f8 [sXk a m cap k] true (bgR m k) := by
  rw [vc_bg]
  intro x1
  have he' : kyE m (kOf (u8F k)) = 0 := he
  refine ⟨hk, fun h => ?_, fun _ => ⟨Nat.le_refl _, fun _ => ⟨⟨fun i hi c hc => ?_, by decide, fun i hi => ?_⟩, fun ac hac _ _ _ _ => ⟨⟨ac, fun i hi h => ?_, rfl, fun i hi => ?_⟩, rfl⟩⟩⟩⟩
  · rw [he'] at h; cases h
  · have e : i = 0 := by omega
    subst e
    rcases c with _ | _ | _ | c
    · exact .inr ⟨.i64, 0, rfl, rfl⟩
    · exact .inl rfl
    · exact .inr ⟨.i64, 0, rfl, rfl⟩
    · omega
  · have e : i = 0 := by omega
    subst e
    exact (ky_few he).2
  · have e : i = 0 := by omega
    subst e
    exact hac 0 hi h
  · have e : i = 0 := by omega
    subst e
    exact ⟨rfl, ⟨rfl, rfl, rfl, fun _ _ => all_of fun _ _ => val_refl (k := .u8)⟩, rfl⟩
section
variable {I U : Nat → Int} {N C : Nat → Nat} {A : Nat → Option Addr} {K : Nat → Nat → Nat → Int} {n m cb : Nat} {b : Option Addr} {k : Nat → Nat → Int} {now : Int}
theorem tu_own (hn : n ≤ 7) (hN : ∀ i, i < n → N i ≤ 19) (hm : m ≤ 19) {G : Nat → Nat → SC} (g0 : ∀ i, i < n + 1 → G i 0 = .val (.int .i64 (tuI I n i))) (g1 : ∀ i, i < n + 1 → G i 1 = .xs (putN n A b i) (putN n N m i) (putN n C cb i) 20 (u8F (putN n K k i))) (g2 : ∀ i, i < n + 1 → G i 2 = .val (.int .i64 (tuU U n now i))) :
    soP (n + 1) G ∧ (∀ i, i < n + 1 → mOf G i = putN n N m i) ∧ ∀ ac : List Nat → Option Addr × Nat, ∀ i, i < n + 1 → allC 3 fun c => simC (setF (fun i => intOf (G i 0)) (fun i => intOf (G i 2)) (fun i => (ac [i]).1) (mOf G) (fun i => (ac [i]).2) (kkOf G) i c) (setF (tuI I n) (tuU U n now) (fun i => (ac [i]).1) (putN n N m) (fun i => (ac [i]).2) (putN n K k) i c) := by
  have em : ∀ i, i < n + 1 → mOf G i = putN n N m i := fun i hi => by unfold mOf; rw [g1 i hi]
  have ek : ∀ i, i < n + 1 → kkOf G i = putN n K k i := fun i hi => by unfold kkOf; rw [g1 i hi]; rfl
  refine ⟨⟨fun i hi c hc => .inl ?_, by omega, fun i hi => ?_⟩, em, fun ac i hi => ⟨?_, ?_, ?_⟩⟩
  · rcases c with _ | _ | _ | c
    · show _ = SC.val (.int .i64 (intOf (G i 0)))
      rw [g0 i hi]; rfl
    · show _ = SC.xs (aOf G i) (mOf G i) (cpOf G i) 20 (u8F (kkOf G i))
      unfold aOf mOf cpOf kkOf
      rw [g1 i hi]; rfl
    · show _ = SC.val (.int .i64 (intOf (G i 2)))
      rw [g2 i hi]; rfl
    · omega
  · rw [em i hi]
    unfold putN
    by_cases c : i < n
    · rw [if_pos c]; exact hN i c
    · rw [if_neg c]; exact hm
  · show simC (.val (.int .i64 (intOf (G i 0)))) (.val (.int .i64 (tuI I n i)))
    rw [g0 i hi]; exact val_refl
  · refine ⟨rfl, em i hi, rfl, fun j _ => all_of fun c _ => ?_⟩
    show simC (.val (.int .u8 (kkOf G i j c))) (.val (.int .u8 (putN n K k i j c)))
    rw [ek i hi]; exact val_refl
  · show simC (.val (.int .i64 (intOf (G i 2)))) (.val (.int .i64 (tuU U n now i)))
    rw [g2 i hi]; exact val_refl
end
theorem ok_tu (a : Option Addr) (n cap : Nat) (I U : Nat → Int) (A : Nat → Option Addr) (N C : Nat → Nat) (K : Nat → Nat → Nat → Int) (b : Option Addr) (m cb : Nat) (k : Nat → Nat → Int) (now : Int) (hs : stP n (setF I U A N C K)) (he : stE n I U N K = 0) (hk : kyP b m (u8F k)) (hke : kyE m k = 0) (h1 : 1 ≤ now) (h2 : now ≤ 1099511627776) (h7 : n ≤ 7) (hc : n ≤ cap) (hl : (if n = 1 then 1 else U (n - 2)) ≤ now + 24) :
    OwesR Try.prog cxTu slTu [] 2 Try.f10 [sXs a n cap I U A N C K, sXk b m cb k, sI .i64 now] true (tuR I U N K n m k now) := by
  rw [vc_tu]
  have hML : maxLen = 9223372036854775807 := rfl
  obtain ⟨⟨n1, n8⟩, hall⟩ := stE_0 he
  have hN : ∀ i, i < n → N i ≤ 19 := fun i hi => (ky_few (hall i hi).1).2
  intro x1 x2 x3 x4 x5 x6 x7 x8 x9 x10 x11 x12 x13 x14
  have e1 : x1 = 0 := he
  have e3 : x3 = false := decide_eq_false (by omega)
  have h4 : x4 := by show (!x3) = true; rw [e3]; rfl
  have h5 : x5 := by
    show (!(x3 || decide (now > 1099511627776))) = true
    rw [e3, show decide (now > 1099511627776) = false from decide_eq_false (by omega)]; rfl
  have e6 : x6 = (n : Int) - 1 := by show IntKind.i64.wrap ((n : Int) - 1) = _; rw [IntKind.wrap_i64]; omega
  have e7 : x7 = now + 24 := by show IntKind.i64.wrap (now + 24) = _; rw [IntKind.wrap_i64]; omega
  have en : (n : Int).toNat = n := Int.toNat_natCast n
  have e10 : x10 = n + 1 := by show (n : Int).toNat + 1 = _; rw [en]
  have e11 : x11 = n - 1 := by show 0 + x6.toNat = _; rw [e6]; omega
  have h9 : x9 := Int.le_refl _
  have hx12 : x12 := by
    refine ⟨fun h => ?_, fun _ => ?_⟩
    · have h : (n : Int) = 8 := by simpa using h
      omega
    clear_value x9 x11 x10 x7 x6
    subst e10 e11 e7
    have key := tu_own (I := I) (U := U) (N := N) (C := C) (A := A) (K := K) (n := n) (m := m) (cb := cb) (b := b) (k := k) (now := now) h7 hN (ky_few hke).2 (G := fun i c => setG (fun i c => selC (decide (i < (n : Int).toNat)) (setF I U A N C K i c) (fixAt (flat [SK.c (SC.val (.int .i64 (n : Int))), SK.c (SC.xs b m cb 20 (u8F k)), SK.c (SC.num .i64 0)]) 3 1 0 (i - (n : Int).toNat) c)) (n - 1) 2 (flat (toKs (ofV (false && true) (.int .i64 (now + 24))))) (0 + i) c)
      (fun i hi => by
        show selC (decide (0 + i < (n : Int).toNat)) (setF I U A N C K (0 + i) 0) (fixAt (flat [SK.c (SC.val (.int .i64 (n : Int))), SK.c (SC.xs b m cb 20 (u8F k)), SK.c (SC.num .i64 0)]) 3 1 0 (0 + i - (n : Int).toNat) 0) = _
        rw [Nat.zero_add, en]
        show SC.val (.int .i64 (cond (decide (i < n)) (I i) (n : Int))) = _
        rw [cond_put]; rfl)
      (fun i hi => by
        show selC (decide (0 + i < (n : Int).toNat)) (setF I U A N C K (0 + i) 1) (fixAt (flat [SK.c (SC.val (.int .i64 (n : Int))), SK.c (SC.xs b m cb 20 (u8F k)), SK.c (SC.num .i64 0)]) 3 1 0 (0 + i - (n : Int).toNat) 1) = _
        rw [Nat.zero_add, en]
        show SC.xs (cond (decide (i < n)) (A i) b) (cond (decide (i < n)) (N i) m) (cond (decide (i < n)) (C i) cb) 20 (fun j c => SC.val (.int .u8 (cond (decide (i < n)) (K i j c) (k j c)))) = _
        rw [cond_put, cond_put, cond_put]
        congr 1
        funext j c
        show SC.val (.int .u8 _) = SC.val (.int .u8 _)
        unfold putN
        by_cases h : i < n
        · rw [if_pos h, decide_eq_true h]; rfl
        · rw [if_neg h, decide_eq_false h]; rfl)
      (fun i hi => by
        show selC (decide (0 + i = n - 1)) (SC.val (.int .i64 (now + 24))) (selC (decide (0 + i < (n : Int).toNat)) (setF I U A N C K (0 + i) 2) (fixAt (flat [SK.c (SC.val (.int .i64 (n : Int))), SK.c (SC.xs b m cb 20 (u8F k)), SK.c (SC.num .i64 0)]) 3 1 0 (0 + i - (n : Int).toNat) 2)) = _
        rw [Nat.zero_add, en]
        show SC.val (.int .i64 (cond (decide (i = n - 1)) (now + 24) (cond (decide (i < n)) (U i) 0))) = _
        unfold tuU
        by_cases h : i + 1 = n
        · rw [if_pos h, decide_eq_true (show i = n - 1 by omega)]; rfl
        · rw [if_neg h, decide_eq_false (show ¬ i = n - 1 by omega)]
          by_cases h2 : i < n
          · rw [if_pos h2, decide_eq_true h2]; rfl
          · rw [if_neg h2, decide_eq_false h2]; rfl)
    refine ⟨⟨by omega, h9, by omega, h9⟩, by omega, rfl, ⟨by omega, by omega⟩, fun c hc' => ⟨⟨by omega, by omega⟩, by omega, fun ad => ⟨by omega, by omega, key.1, fun ac hac _ _ _ _ => ⟨⟨ac, fun i hi h => ?_, rfl, key.2.2 ac⟩, rfl⟩⟩⟩⟩
    rw [← key.2.1 i hi]
    exact hac i hi h
  have hx13 : x6 ≠ 0 → x13 = (n : Int) - 2 := fun h => by show IntKind.i64.wrap (x6 - 1) = _; rw [e6, IntKind.wrap_i64]; omega
  refine ⟨hs, fun h => ?_, fun _ => ⟨hk, fun h => ?_, fun _ => ⟨id, fun _ => h4, id, fun _ => ⟨h5, h5, fun h0 => ⟨h5, fun h => ?_, fun _ => hx12⟩, fun h0 => ⟨?_, h5, fun h => ?_, fun _ => hx12⟩⟩, fun h => ?_⟩⟩⟩
  · rw [e1] at h; cases h
  · have : kyE m (kOf (u8F k)) = 0 := hke
    rw [this] at h; cases h
  · have h := of_decide_eq_true h
    omega
  · have h0 : x6 ≠ 0 := by simpa using h0
    have := hx13 h0
    omega
  · have h0 : x6 ≠ 0 := by simpa using h0
    have e13 := hx13 h0
    have h := of_decide_eq_true h
    have hn1 : n ≠ 1 := fun c => h0 (by rw [e6, c]; rfl)
    rw [if_neg hn1] at hl
    have e14 : x14 = U (n - 2) := by show U x13.toNat = _; rw [e13]; congr 1; omega
    omega
  · have : (!(x3 || decide (now > 1099511627776))) = true := h5
    rw [h] at this; cases this
end Go.Proofs.Ytdlmlejejodbgaa
end

section
namespace Go.Proofs.Ytdlmlejejodbgaa
open Go.Sx
set_option maxRecDepth 100000
theorem ok_li (a : Option Addr) (n cap : Nat) (I U : Nat → Int) (A : Nat → Option Addr) (N C : Nat → Nat) (K : Nat → Nat → Nat → Int) (x now : Int) (hs : stP n (setF I U A N C K)) (he : stE n I U N K = 0) :
    OwesR Try.prog cxTu slLi [] 3 Try.f6 [sXs a n cap I U A N C K, sI .i64 x, sI .i64 now] true (lvR I U N K n x now) := by
  rw [vc_li]
  obtain ⟨⟨n1, n8⟩, hall⟩ := stE_0 he
  have hN : ∀ i, i < n → N i ≤ 19 := fun i hi => (ky_few (hall i hi).1).2
  intro x1 x2 x3 x4 x5 x6 x7 x8 x9 x10 x11 x12 x13 x14 x15 x16 x17
  have e1 : x1 = 0 := he
  have bad : ¬ x2 → (((0 : Int) = x3 ∧ True) ∧ x4 = 0 ∧ ((0 : Int) = x5 ∧ True) ∧ True) := fun h => ⟨⟨(if_neg h).symm, trivial⟩, if_neg h, ⟨(if_neg h).symm, trivial⟩, trivial⟩
  have h7 : x6 = false → x7 := fun h => by show (!x6) = true; rw [h]; rfl
  refine ⟨hs, fun h => ?_, fun _ => ⟨id, id, id, h7, fun h => ?_, fun h => ?_⟩⟩
  · rw [e1] at h; cases h
  · have h : (decide (x < 0) || decide (x ≥ (n : Int))) = true := h
    simp only [Bool.or_eq_true, decide_eq_true_eq] at h
    have e : liE n U x now = 5 := by unfold liE; rw [if_pos (by omega)]
    exact ⟨bad (by show ¬ liE n U x now = 0; rw [e]; decide), e.symm⟩
  · have h : (decide (x < 0) || decide (x ≥ (n : Int))) = false := h
    simp only [Bool.or_eq_false_iff, decide_eq_false_iff_not] at h
    have hx : x.toNat < n := by omega
    have es : liE n U x now = if U x.toNat ≠ 0 ∧ U x.toNat ≤ now then 15 else 0 := by unfold liE; rw [if_neg (by omega)]
    refine ⟨⟨by omega, by omega⟩, id, id, id, id, fun h8 => ?_, fun h8 => ?_⟩
    · have h8 : ((U x.toNat != 0) && decide (now ≥ U x.toNat)) = true := h8
      simp only [Bool.and_eq_true, decide_eq_true_eq, bne_iff_ne] at h8
      have e : liE n U x now = 15 := by rw [es, if_pos ⟨h8.1, h8.2⟩]
      exact ⟨bad (by show ¬ liE n U x now = 0; rw [e]; decide), e.symm⟩
    · have h8 : ((U x.toNat != 0) && decide (now ≥ U x.toNat)) = false := h8
      simp only [Bool.and_eq_false_iff, decide_eq_false_iff_not, bne_eq_false_iff_eq] at h8
      have e : liE n U x now = 0 := by rw [es, if_neg (by omega)]
      have hNx := hN x.toNat hx
      have e10 : x10 = (N x.toNat : Int) := by show IntKind.i64.wrap (0 + (N x.toNat : Int)) = _; rw [IntKind.wrap_i64]; omega
      have e11 : x11 = N x.toNat := by show x10.toNat = _; rw [e10]; rfl
      have e12 : x12 = N x.toNat := by show Nat.min (N x.toNat) x11 = _; rw [e11]; exact Nat.min_self _
      have e13 : x13 = (N x.toNat : Int) := by show ((x12 : Nat) : Int) = _; rw [e12]
      have e14 : x14 = (N x.toNat : Int) := by show ((x11 : Nat) : Int) = _; rw [e11]
      have e16 : x16 = N x.toNat := by show x13.toNat = _; rw [e13]; rfl
      have e17 : x17 = N x.toNat := by show 0 + x12 = _; rw [e12]; omega
      have e3 : x3 = I x.toNat := if_pos e
      have e4 : x4 = N x.toNat := if_pos e
      have e5 : x5 = U x.toNat := if_pos e
      have h15 : x15 := by show x13 ≤ x14; rw [e13, e14]; exact Int.le_refl _
      clear_value x15 x17 x16 x14 x13 x12 x11 x10 x5 x4 x3
      subst e17
      refine ⟨⟨by omega, Int.le_refl _, by omega, by omega⟩, by omega, ⟨by omega, Int.le_refl _, h15⟩, ⟨by omega, h15, Int.le_refl _⟩, ⟨⟨e3.symm, trivial⟩, ⟨by omega, by omega, Nat.le_refl _, fun i hi => all_of fun c _ => ?_⟩, ⟨e5.symm, trivial⟩, trivial⟩, e.symm⟩
      rw [show (decide (0 ≤ 0 + i) && decide (0 + i < N x.toNat)) = true from by simp only [Bool.and_eq_true, decide_eq_true_eq]; omega]
      rw [show (0 : Nat) + i - 0 = i by omega]
      generalize hz : (flat _).getD c (SC.bit false) = z
      have hzk : ∃ v, z = .num .u8 v := by
        rename_i hc
        match c, hc with
        | 0, _ | 1, _ | 2, _ | 3, _ | 4, _ | 5, _ | 6, _ | 7, _ | 8, _ | 9, _ | 10, _ | 11, _ | 12, _ | 13, _ | 14, _ | 15, _ | 16, _ | 17, _ | 18, _ | 19, _ => exact ⟨0, hz.symm⟩
        | c + 20, hc => omega
      obtain ⟨v, rfl⟩ := hzk
      exact val_refl (k := .u8)
structure kyT (a : Option Addr) (n : Nat) (f : Nat → Nat → SC) : Prop where
  kt : ∀ i, i < n → ∀ c, c < 20 → tld (f i c) (u8F (kOf f) i c)
  kn : n ≤ maxLen
  ka : a = none → n = 0
  kr : ∀ i, i < n → ∀ c, c < 20 → 0 ≤ kOf f i c ∧ kOf f i c < 256
theorem kyT.told {a : Option Addr} {n : Nat} {f : Nat → Nat → SC} (p : kyT a n f) : kyP a n (u8F (kOf f)) := ⟨rfl, p.kn, p.ka, p.kr⟩
def bgC : List (List FD) → List Prop
  | [[.x a m _ f]] => [kyT a m f, kyE m (kOf f) = 0]
  | _ => [False]
def bgG : List (List FD) → List RS
  | [[.x _ m _ f]] => bgR m (kOf f)
  | _ => []
def cBg : SSpec := specQ0 true [.one (.x 20)] bgC bgG
def tuC : List (List FD) → List Prop
  | [[.x _ n cap f], [.x b m _ g], [.i now]] => [stP n f, stE n (fun i => intOf (f i 0)) (fun i => intOf (f i 2)) (mOf f) (kkOf f) = 0, kyT b m g, kyE m (kOf g) = 0, 1 ≤ now, now ≤ 1099511627776, n ≤ 7, n ≤ cap, (if n = 1 then 1 else intOf (f (n - 2) 2)) ≤ now + 24]
  | _ => [False]
def tuG : List (List FD) → List RS
  | [[.x _ n _ f], [.x _ m _ g], [.i now]] => tuR (fun i => intOf (f i 0)) (fun i => intOf (f i 2)) (mOf f) (kkOf f) n m (kOf g) now
  | _ => []
def cTu : SSpec := specQ0 true [.one (.x 3), .one (.x 20), .one (.i .i64)] tuC tuG
def lvC : List (List FD) → List Prop
  | [[.x _ n _ f], [.i _], [.i _]] => [stP n f, stE n (fun i => intOf (f i 0)) (fun i => intOf (f i 2)) (mOf f) (kkOf f) = 0]
  | _ => [False]
def lvG : List (List FD) → List RS
  | [[.x _ n _ f], [.i x], [.i now]] => lvR (fun i => intOf (f i 0)) (fun i => intOf (f i 2)) (mOf f) (kkOf f) n x now
  | _ => []
def cLv : SSpec := specQ0 true [.one (.x 3), .one (.i .i64), .one (.i .i64)] lvC lvG
end Go.Proofs.Ytdlmlejejodbgaa
end

section
namespace Go.Proofs.Ytdlmlejejodbgaa
open Go.Sx
set_option maxRecDepth 100000
theorem card_lk0 {gl : Globs} : FnOKs Try.prog gl 12 cLk0 := by
  refine FnOKs.up0 (FnOKs_R0 (cx := Cx.none) ⟨fun _ h => (by cases h), fun _ h => (by cases h)⟩ (sl := slCt) (oks_cons card_ct oks_nil) Try.func12 (by kernel_rfl) (by kernel_rfl) fun ls hc => ?_) gl
  unfold lkC at hc
  split at hc
  · rename_i a n cap f
    obtain ⟨p, _⟩ := hc
    have := ok_lk a n cap (kOf f) p.kn p.ka p.kr
    unfold sXk at this
    rw [← p.kf] at this
    refine ⟨_, _, _, fun _ => rfl, fun _ h => h, fun r hr => ?_, this⟩
    rw [List.mem_singleton.1 hr]; exact trivial
  · exact hc.1.elim
theorem card_sc0 {gl : Globs} : FnOKs Try.prog gl 7 cSc0 := by
  refine FnOKs.up0 (FnOKs_R0 (cx := cxSc) okx_Sc (sl := slSc) (oks_cons card_lk oks_nil) Try.func7 (by kernel_rfl) (by kernel_rfl) fun ls hc => ?_) gl
  unfold scC at hc
  split at hc
  · rename_i a n cap f
    obtain ⟨p, _⟩ := hc
    have := ok_sck a n cap (fun i => intOf (f i 0)) (fun i => intOf (f i 2)) (aOf f) (mOf f) (cpOf f) (kkOf f) p.sn p.sk
    unfold sXs at this
    rw [← p.sf] at this
    refine ⟨_, _, _, fun _ => rfl, fun _ h => h, fun r hr => ?_, this⟩
    rw [List.mem_singleton.1 hr]; exact trivial
  · exact hc.1.elim
theorem okx_Tu : CxOK Try.prog cxTu := okx_mark (okx_mark (okx_mark (okx_mark (okx_mark okx_nil))))
theorem oks_Tu : ∀ p ∈ slTu, FnOKs Try.prog cxTu.gl p.1 p.2 := oks_cons card_sc0 (oks_cons card_lk0 (oks_cons card_so oks_nil))
theorem oks_Li : ∀ p ∈ slLi, FnOKs Try.prog cxTu.gl p.1 p.2 := oks_cons card_sc0 (oks_cons card_lk0 oks_nil)
theorem card_bg {gl : Globs} : FnOKs Try.prog gl 8 cBg := by
  refine FnOKs.up0 (FnOKs_R0 (cx := cxTu) okx_Tu (sl := slTu) oks_Tu Try.func8 (by kernel_rfl) (by kernel_rfl) fun ls hc => ?_) gl
  unfold bgC at hc
  split at hc
  · rename_i a m cap f
    obtain ⟨p, he, _⟩ := hc
    refine ⟨_, _, _, fun ρ => ?_, fun E hE x hx => ?_, fun r hr => ?_, ok_bg a m cap (kOf f) p.told he⟩
    · rfl
    · rw [List.mem_singleton.1 hx]
      exact xs_told2 (fun i hi c hc => tld_all (p.kt i hi c hc)) (hE (.sc (.xs a m cap 20 f)) (List.mem_cons_self ..))
    · unfold bgG bgR at hr
      rcases List.mem_cons.1 hr with rfl | hr
      · exact fun _ => trivial
      · rw [List.mem_singleton.1 hr]; exact trivial
  · exact hc.1.elim
theorem card_tu {gl : Globs} : FnOKs Try.prog gl 10 cTu := by
  refine FnOKs.up0 (FnOKs_R0 (cx := cxTu) okx_Tu (sl := slTu) oks_Tu Try.func10 (by kernel_rfl) (by kernel_rfl) fun ls hc => ?_) gl
  unfold tuC at hc
  split at hc
  · rename_i a n cap f b m cb g now
    obtain ⟨p, he, q, hk, h1, h2, h7, hcap, hl, _⟩ := hc
    have := ok_tu a n cap (fun i => intOf (f i 0)) (fun i => intOf (f i 2)) (aOf f) (mOf f) (cpOf f) (kkOf f) b m cb (kOf g) now (by rw [← p.sf]; exact p) he q.told hk h1 h2 h7 hcap hl
    unfold sXs at this
    rw [← p.sf] at this
    refine ⟨_, _, _, fun ρ => ?_, fun E hE x hx => ?_, fun r hr => ?_, this⟩
    · rfl
    · rcases List.mem_cons.1 hx with rfl | hx
      · exact hE _ (List.mem_cons_self ..)
      · rcases List.mem_cons.1 hx with rfl | hx
        · exact xs_told2 (fun i hi c hc => tld_all (q.kt i hi c hc)) (hE (.sc (.xs b m cb 20 g)) (List.mem_cons_of_mem _ (List.mem_cons_self ..)))
        · exact hE x (List.mem_cons_of_mem _ (List.mem_cons_of_mem _ hx))
    · unfold tuG tuR at hr
      rcases List.mem_cons.1 hr with rfl | hr
      · exact fun _ => trivial
      · rw [List.mem_singleton.1 hr]; exact trivial
  · exact hc.1.elim
theorem card_lv {gl : Globs} : FnOKs Try.prog gl 6 cLv := by
  refine FnOKs.up0 (FnOKs_R0 (cx := cxTu) okx_Tu (sl := slLi) oks_Li Try.func6 (by kernel_rfl) (by kernel_rfl) fun ls hc => ?_) gl
  unfold lvC at hc
  split at hc
  · rename_i a n cap f x now
    obtain ⟨p, he, _⟩ := hc
    have := ok_li a n cap (fun i => intOf (f i 0)) (fun i => intOf (f i 2)) (aOf f) (mOf f) (cpOf f) (kkOf f) x now (by rw [← p.sf]; exact p) he
    unfold sXs at this
    rw [← p.sf] at this
    refine ⟨_, _, _, fun _ => rfl, fun _ h => h, fun r hr => ?_, this⟩
    unfold lvG lvR at hr
    rcases List.mem_cons.1 hr with rfl | hr
    · intro k hk
      rcases List.mem_cons.1 hk with rfl | hk
      · exact trivial
      · rcases List.mem_cons.1 hk with rfl | hk
        · exact fun _ _ _ _ => ⟨trivial, rfl⟩
        · rw [List.mem_singleton.1 hk]; exact trivial
    · rw [List.mem_singleton.1 hr]; exact trivial
  · exact hc.1.elim
end Go.Proofs.Ytdlmlejejodbgaa
end

section
namespace Go.Proofs.Ytdlmlejejodbgaa
open Go.Sx
set_option maxRecDepth 100000
def rawF (K A B : Nat → Int) (s : Nat → ByteArray) (i c : Nat) : SC :=
  match c with
  | 0 => .val (.int .i64 (K i))
  | 1 => .val (.int .i64 (A i))
  | 2 => .val (.int .i64 (B i))
  | _ => .val (.string (s i))
def cPk4 : FSpec := specII (fun a b => [i64ok a, 0 < b ∧ b ≤ 1099511627776]) pickedG
def gnL (n : Nat) (m : Int) : Nat := Nat.min n m.toNat
def hoF (A : Nat → Int) : Nat → Int
  | 0 => 1
  | i + 1 => hoF A i + A i % 40
def tdI (i : Nat) : Int := (i : Int)
def tdU (A : Nat → Int) (k i : Nat) : Int := if i < k then hoF A (i + 1) + 24 else 0
def tdN (i : Nat) : Nat := if i = 0 then 1 else 2
def tdK (B : Nat → Int) (i j c : Nat) : Int := if j = 0 then (if c = 0 then ((i + 1 : Nat) : Int) % 256 else 0) else (if c = 0 then B (i - 1) % 256 else if c = 1 then 1 else 0)
structure TdX where
  i : Nat
  a : Option Addr
  c : Nat
  ac : List Nat → Option Addr × Nat
  p : Nat
def tdS (A B : Nat → Int) (k : Nat) (ac : List Nat → Option Addr × Nat) : Nat → Nat → SC := setF tdI (tdU A k) (fun i => (ac [i]).1) tdN (fun i => (ac [i]).2) (tdK B)
def tdT (a : Option Addr) (n cap : Nat) (K A B : Nat → Int) (s : Nat → ByteArray) (at_ : SC) (y : TdX) : List SV := slotsAt 69 [(5, .one (.sc (.xs y.a (y.i + 1) y.c 3 (tdS A B y.i y.ac)))), (6, .one (sI .i64 0)), (7, .one (sI .i64 (hoF A y.i))), (8, .one (.sc at_)), (20, .one (.sc (.xs a (gnL n 7) cap 4 (rawF K A B s)))), (21, .one (sI .i64 (gnL n 7 : Int))), (22, .one (sI .i64 (y.i : Int)))]
def tdH (n : Nat) (y : TdX) : Prop := y.i ≤ gnL n 7 ∧ y.i + 1 ≤ y.c ∧ stX (y.i + 1) tdN y.ac
def invTL (a : Option Addr) (n cap : Nat) (K A B : Nat → Int) (s : Nat → ByteArray) : Inv where
  X := TdX
  tm y := tdT a n cap K A B s (.val (.slice none 0 0)) y
  ob _ := []
  holds y := tdH n y ∧ y.i = 0
  less y := gnL n 7 - y.i
def invTM (a : Option Addr) (n cap : Nat) (K A B : Nat → Int) (s : Nat → ByteArray) : Inv where
  X := TdX
  tm y := tdT a n cap K A B s (.slw 0 1 0 y.i (y.i + y.p)) y
  ob y := [.row 3 1 y.i (fun j _ => .val (.int .i64 (hoF A (j + 1)))) y.p]
  holds y := tdH n y ∧ 0 < y.i ∧ y.i + y.p ≤ maxLen
  less y := gnL n 7 - y.i
def pick8 (tm : List SV) (_ : List SO) : Bool := match tm.getD 8 .any with
  | .one (.sc (.val _)) => true
  | _ => false
def tdR (n : Nat) (A B : Nat → Int) : List RS :=
  [.ex (stX (gnL n 7 + 1) tdN) fun ac => .rows (gnL n 7 + 1) 3 (tdS A B (gnL n 7) ac), .s (gnL n 7) .i64 (fun j => hoF A (j + 1)), .v (sB true)]
def kLit (p q : Int) (i c : Nat) : SC := (([.val (.int .u8 p)] ++ List.replicate 19 (.num .u8 0) ++ [.val (.int .u8 q), .num .u8 1] ++ List.replicate 18 (.num .u8 0) : List SC)).getD (i * 20 + c) (.bit false)
def kOne (i c : Nat) : SC := ((SC.num .u8 1 :: List.replicate 19 (.num .u8 0) : List SC)).getD (i * 20 + c) (.bit false)
def slTd : List (Nat × SSpec) := [(8, cBg), (10, cTu)]
def cxTd : Cx := ⟨[(5, cPk4), (1000000007, fun _ => none), (1000000010, fun _ => none), (1000000012, fun _ => none), (1000000013, fun _ => none), (1000000014, fun _ => none)], [], 0, []⟩
theorem vc_td (a : Option Addr) (n cap : Nat) (K A B : Nat → Int) (s : Nat → ByteArray) :
    OwesR Try.prog cxTd slTd [(5, .inv2 (invTL a n cap K A B s) (invTM a n cap K A B s) pick8)] 4 Try.f4 [.sc (.xs a n cap 4 (rawF K A B s))] true (tdR n A B) =
    (let x1 : Prop := 1 = 0; let x2 : Int := if (7 : Int) < (↑n : Int) then (7 : Int) else (↑n : Int); let x3 : Int := (↑(gnL n (7 : Int)) : Int); let x4 : Prop := ((0 : Int) != (0 : Int)) = Bool.true; let x5 : Nat := gnL n (7 : Int) + 1; let x6 : Prop := ∀ (i : Nat), i < gnL n (7 : Int) → hoF A (0 + i + 1) = hoF A (i + 1); let x7 : Prop := ((0 : Int) != (0 : Int)) = Bool.false; let x8 : Bool := (0 : Int) == (0 : Int); let x9 : Prop := x8 = Bool.true; let x10 : Nat := x2.toNat; 1 ≤ 1 ∧ ∀ (a_1 : Go.Addr), (kyT (Option.some a_1) 1 fun (i c : Nat) => kOne i c) ∧ (0 : Int) = (0 : Int) ∧ ∀ (ac : List Nat → Option Go.Addr × Nat), (∀ (i : Nat), i < 1 → (ac [i]).fst = Option.none → x1) → ∀ (a_3 : Option Go.Addr) (cap_1 : Nat), (a_3 = Option.none → x1 ∧ cap_1 = 0) → 1 ≤ cap_1 → ((0 : Int) ≤ x2 ∧ x2 ≤ (↑n : Int)) ∧ (∀ (y : TdX), closedB (tdT a n cap K A B s (SC.val (Go.Value.slice Option.none 0 0)) y) [] = Bool.true) ∧ (∀ (y : TdX), closedB (tdT a n cap K A B s (SC.slw 0 1 0 y.i (y.i + y.p)) y) [SO.row (3 : Go.TypeId) 1 y.i (fun (j _ : Nat) => SC.val (Go.Value.int Go.IntKind.i64 (hoF A (j + 1)))) y.p] = Bool.true) ∧ (∀ (y : TdX), (y.i ≤ gnL n (7 : Int) ∧ y.i + 1 ≤ y.c ∧ ∀ (i : Nat), i < y.i + 1 → (y.ac [i]).fst = Option.none → tdN i = 0) ∧ 0 < y.i ∧ y.i + y.p ≤ Go.maxLen → (Decidable.decide ((↑y.i : Int) < x3) = Bool.true → ((0 : Int) ≤ (↑y.i : Int) ∧ (↑y.i : Int) < x3) ∧ ((-9223372036854775808 : Int) ≤ A (↑y.i : Int).toNat ∧ A (↑y.i : Int).toNat ≤ (9223372036854775807 : Int)) ∧ ((0 : Int) < (40 : Int) ∧ (40 : Int) ≤ (1099511627776 : Int)) ∧ 2 ≤ 2 ∧ ∀ (a_8 : Go.Addr), stP (y.i + 1) (tdS A B y.i y.ac) ∧ stE (y.i + 1) (fun (i : Nat) => intOf (tdS A B y.i y.ac i 0)) (fun (i : Nat) => intOf (tdS A B y.i y.ac i 2)) (mOf (tdS A B y.i y.ac)) (kkOf (tdS A B y.i y.ac)) = (0 : Int) ∧ (kyT (Option.some a_8) 2 fun (i c : Nat) => kLit (Go.IntKind.u8.wrap (Go.IntKind.i64.wrap ((↑y.i : Int) + (2 : Int)))) (Go.IntKind.u8.wrap (B (↑y.i : Int).toNat)) i c) ∧ kyE 2 (kOf fun (i c : Nat) => kLit (Go.IntKind.u8.wrap (Go.IntKind.i64.wrap ((↑y.i : Int) + (2 : Int)))) (Go.IntKind.u8.wrap (B (↑y.i : Int).toNat)) i c) = (0 : Int) ∧ (1 : Int) ≤ Go.IntKind.i64.wrap (hoF A y.i + A (↑y.i : Int).toNat % (40 : Int)) ∧ Go.IntKind.i64.wrap (hoF A y.i + A (↑y.i : Int).toNat % (40 : Int)) ≤ (1099511627776 : Int) ∧ y.i + 1 ≤ 7 ∧ y.i + 1 ≤ y.c ∧ (if y.i + 1 = 1 then (1 : Int) else intOf (tdS A B y.i y.ac (y.i + 1 - 2) 2)) ≤ Go.IntKind.i64.wrap (hoF A y.i + A (↑y.i : Int).toNat % (40 : Int)) + (24 : Int) ∧ ∀ (ac : List Nat → Option Go.Addr × Nat), (∀ (i : Nat), i < y.i + 1 + 1 → (ac [i]).fst = Option.none → putN (y.i + 1) (mOf (tdS A B y.i y.ac)) 2 i = 0) → ∀ (a_10 : Option Go.Addr) (cap_2 : Nat), (a_10 = Option.none → y.i + 1 + 1 = 0 ∧ cap_2 = 0) → y.i + 1 + 1 ≤ cap_2 → (x4 → (∃ (ac : List Nat → Option Go.Addr × Nat), (∀ (i : Nat), i < x5 → (ac [i]).fst = Option.none → tdN i = 0) ∧ y.i + 1 = x5 ∧ ∀ (i : Nat), i < x5 → allC 3 fun (c : Nat) => simC (tdS A B y.i y.ac i c) (tdS A B (gnL n (7 : Int)) ac i c)) ∧ (0 + y.i ≤ y.i ∧ y.i = gnL n (7 : Int) ∧ y.i ≤ y.i + y.p ∧ x6) ∧ Bool.false = Bool.true) ∧ (x7 → 0 = 0 ∧ y.i = y.i ∧ (y.i ≤ y.i + y.p ∧ y.i + y.p ≤ Go.maxLen ∧ (y.i + y.p) * 1 = y.i * 1 + y.p) ∧ (y.i + 1 ≤ Go.maxLen ∧ (y.i + 1) * 8 ≤ 140737488355328) ∧ ∀ (c : Nat), y.i + 1 + c ≤ Go.maxLen → ∃ (y' : TdX), ((y'.i ≤ gnL n (7 : Int) ∧ y'.i + 1 ≤ y'.c ∧ ∀ (i : Nat), i < y'.i + 1 → (y'.ac [i]).fst = Option.none → tdN i = 0) ∧ 0 < y'.i ∧ y'.i + y'.p ≤ Go.maxLen) ∧ (a_10 = y'.a ∧ y.i + 1 + 1 = y'.i + 1 ∧ cap_2 = y'.c ∧ ∀ (i : Nat), i < y.i + 1 + 1 → allC 3 fun (c : Nat) => simC (setF (tuI (fun (i : Nat) => intOf (tdS A B y.i y.ac i 0)) (y.i + 1)) (tuU (fun (i : Nat) => intOf (tdS A B y.i y.ac i 2)) (y.i + 1) (Go.IntKind.i64.wrap (hoF A y.i + A (↑y.i : Int).toNat % (40 : Int)))) (fun (i : Nat) => (ac [i]).fst) (putN (y.i + 1) (mOf (tdS A B y.i y.ac)) 2) (fun (i : Nat) => (ac [i]).snd) (putN (y.i + 1) (kkOf (tdS A B y.i y.ac)) (kOf fun (i c : Nat) => kLit (Go.IntKind.u8.wrap (Go.IntKind.i64.wrap ((↑y.i : Int) + (2 : Int)))) (Go.IntKind.u8.wrap (B (↑y.i : Int).toNat)) i c)) i c) (tdS A B y'.i y'.ac i c)) ∧ (0 : Int) = (0 : Int) ∧ Go.IntKind.i64.wrap (hoF A y.i + A (↑y.i : Int).toNat % (40 : Int)) = hoF A y'.i ∧ (0 = 0 ∧ 1 = 1 ∧ 0 = 0 ∧ y.i + 1 = y'.i ∧ y.i + 1 + c = y'.i + y'.p) ∧ simC (SC.xs a (gnL n (7 : Int)) cap 4 (rawF K A B s)) (SC.xs a (gnL n (7 : Int)) cap 4 (rawF K A B s)) ∧ x3 = x3 ∧ Go.IntKind.i64.wrap ((↑y.i : Int) + (1 : Int)) = (↑y'.i : Int) ∧ y.i + 1 = y'.i ∧ c * 1 = y'.p ∧ (∀ (i : Nat), i < y.i + 1 → allC 1 fun (c : Nat) => simC (newH (SA.sc (SC.slw 0 1 0 y.i (y.i + y.p))) (SA.sc (SC.sl 3 0 1 1)) y.i (fun (j _ : Nat) => SC.val (Go.Value.int Go.IntKind.i64 (hoF A (j + 1)))) (fixAt (flat [SK.c (SC.val (Go.Value.int Go.IntKind.i64 (Go.IntKind.i64.wrap (hoF A y.i + A (↑y.i : Int).toNat % (40 : Int)))))]) 1 1 0) i c) (SC.val (Go.Value.int Go.IntKind.i64 (hoF A (i + 1))))) ∧ (gnL n (7 : Int) - y'.i).succ.le (gnL n (7 : Int) - y.i))) ∧ (Decidable.decide ((↑y.i : Int) < x3) = Bool.false → (x9 → x9) ∧ (x9 → x9) ∧ (x9 → x9) ∧ (x9 → x9) ∧ (x9 → x9) ∧ (x9 → x9) ∧ (∃ (ac : List Nat → Option Go.Addr × Nat), (∀ (i : Nat), i < x5 → (ac [i]).fst = Option.none → tdN i = 0) ∧ y.i + 1 = x5 ∧ ∀ (i : Nat), i < x5 → allC 3 fun (c : Nat) => simC (tdS A B y.i y.ac i c) (tdS A B (gnL n (7 : Int)) ac i c)) ∧ (0 + y.i ≤ y.i ∧ y.i = gnL n (7 : Int) ∧ y.i ≤ y.i + y.p ∧ x6) ∧ (x8 && (↑(y.i + 1) : Int) == Go.IntKind.i64.wrap ((↑y.i : Int) + (1 : Int))) = Bool.true)) ∧ ∃ (y : TdX), ((y.i ≤ gnL n (7 : Int) ∧ y.i + 1 ≤ y.c ∧ ∀ (i : Nat), i < y.i + 1 → (y.ac [i]).fst = Option.none → tdN i = 0) ∧ y.i = 0) ∧ (a_3 = y.a ∧ 1 = y.i + 1 ∧ cap_1 = y.c ∧ ∀ (i : Nat), i < 1 → allC 3 fun (c : Nat) => simC (setF (fun (_ : Nat) => (0 : Int)) (fun (_ : Nat) => (0 : Int)) (fun (i : Nat) => (ac [i]).fst) (fun (_ : Nat) => 1) (fun (i : Nat) => (ac [i]).snd) (fun (_ : Nat) => kOf fun (i c : Nat) => kOne i c) i c) (tdS A B y.i y.ac i c)) ∧ (0 : Int) = (0 : Int) ∧ (1 : Int) = hoF A y.i ∧ Go.Value.slice Option.none 0 0 = Go.Value.slice Option.none 0 0 ∧ (a = a ∧ x10 = gnL n (7 : Int) ∧ cap = cap ∧ ∀ (i : Nat), i < x10 → allC 4 fun (c : Nat) => simC (rawF K A B s i c) (rawF K A B s i c)) ∧ (↑x10 : Int) = x3 ∧ (0 : Int) = (↑y.i : Int) ∧ ∀ (y : TdX), (y.i ≤ gnL n (7 : Int) ∧ y.i + 1 ≤ y.c ∧ ∀ (i : Nat), i < y.i + 1 → (y.ac [i]).fst = Option.none → tdN i = 0) ∧ y.i = 0 → (Decidable.decide ((↑y.i : Int) < x3) = Bool.true → ((0 : Int) ≤ (↑y.i : Int) ∧ (↑y.i : Int) < x3) ∧ ((-9223372036854775808 : Int) ≤ A (↑y.i : Int).toNat ∧ A (↑y.i : Int).toNat ≤ (9223372036854775807 : Int)) ∧ ((0 : Int) < (40 : Int) ∧ (40 : Int) ≤ (1099511627776 : Int)) ∧ 2 ≤ 2 ∧ ∀ (a_8 : Go.Addr), stP (y.i + 1) (tdS A B y.i y.ac) ∧ stE (y.i + 1) (fun (i : Nat) => intOf (tdS A B y.i y.ac i 0)) (fun (i : Nat) => intOf (tdS A B y.i y.ac i 2)) (mOf (tdS A B y.i y.ac)) (kkOf (tdS A B y.i y.ac)) = (0 : Int) ∧ (kyT (Option.some a_8) 2 fun (i c : Nat) => kLit (Go.IntKind.u8.wrap (Go.IntKind.i64.wrap ((↑y.i : Int) + (2 : Int)))) (Go.IntKind.u8.wrap (B (↑y.i : Int).toNat)) i c) ∧ kyE 2 (kOf fun (i c : Nat) => kLit (Go.IntKind.u8.wrap (Go.IntKind.i64.wrap ((↑y.i : Int) + (2 : Int)))) (Go.IntKind.u8.wrap (B (↑y.i : Int).toNat)) i c) = (0 : Int) ∧ (1 : Int) ≤ Go.IntKind.i64.wrap (hoF A y.i + A (↑y.i : Int).toNat % (40 : Int)) ∧ Go.IntKind.i64.wrap (hoF A y.i + A (↑y.i : Int).toNat % (40 : Int)) ≤ (1099511627776 : Int) ∧ y.i + 1 ≤ 7 ∧ y.i + 1 ≤ y.c ∧ (if y.i + 1 = 1 then (1 : Int) else intOf (tdS A B y.i y.ac (y.i + 1 - 2) 2)) ≤ Go.IntKind.i64.wrap (hoF A y.i + A (↑y.i : Int).toNat % (40 : Int)) + (24 : Int) ∧ ∀ (ac : List Nat → Option Go.Addr × Nat), (∀ (i : Nat), i < y.i + 1 + 1 → (ac [i]).fst = Option.none → putN (y.i + 1) (mOf (tdS A B y.i y.ac)) 2 i = 0) → ∀ (a_10 : Option Go.Addr) (cap_2 : Nat), (a_10 = Option.none → y.i + 1 + 1 = 0 ∧ cap_2 = 0) → y.i + 1 + 1 ≤ cap_2 → (x4 → (∃ (ac : List Nat → Option Go.Addr × Nat), (∀ (i : Nat), i < x5 → (ac [i]).fst = Option.none → tdN i = 0) ∧ y.i + 1 = x5 ∧ ∀ (i : Nat), i < x5 → allC 3 fun (c : Nat) => simC (tdS A B y.i y.ac i c) (tdS A B (gnL n (7 : Int)) ac i c)) ∧ gnL n (7 : Int) = 0 ∧ Bool.false = Bool.true) ∧ (x7 → (1 ≤ Go.maxLen ∧ 8 ≤ 140737488355328) ∧ ∀ (c : Nat), 1 + c ≤ Go.maxLen → ∃ (y' : TdX), ((y'.i ≤ gnL n (7 : Int) ∧ y'.i + 1 ≤ y'.c ∧ ∀ (i : Nat), i < y'.i + 1 → (y'.ac [i]).fst = Option.none → tdN i = 0) ∧ 0 < y'.i ∧ y'.i + y'.p ≤ Go.maxLen) ∧ (a_10 = y'.a ∧ y.i + 1 + 1 = y'.i + 1 ∧ cap_2 = y'.c ∧ ∀ (i : Nat), i < y.i + 1 + 1 → allC 3 fun (c : Nat) => simC (setF (tuI (fun (i : Nat) => intOf (tdS A B y.i y.ac i 0)) (y.i + 1)) (tuU (fun (i : Nat) => intOf (tdS A B y.i y.ac i 2)) (y.i + 1) (Go.IntKind.i64.wrap (hoF A y.i + A (↑y.i : Int).toNat % (40 : Int)))) (fun (i : Nat) => (ac [i]).fst) (putN (y.i + 1) (mOf (tdS A B y.i y.ac)) 2) (fun (i : Nat) => (ac [i]).snd) (putN (y.i + 1) (kkOf (tdS A B y.i y.ac)) (kOf fun (i c : Nat) => kLit (Go.IntKind.u8.wrap (Go.IntKind.i64.wrap ((↑y.i : Int) + (2 : Int)))) (Go.IntKind.u8.wrap (B (↑y.i : Int).toNat)) i c)) i c) (tdS A B y'.i y'.ac i c)) ∧ (0 : Int) = (0 : Int) ∧ Go.IntKind.i64.wrap (hoF A y.i + A (↑y.i : Int).toNat % (40 : Int)) = hoF A y'.i ∧ (0 = 0 ∧ 1 = 1 ∧ 0 = 0 ∧ 1 = y'.i ∧ 1 + c = y'.i + y'.p) ∧ simC (SC.xs a (gnL n (7 : Int)) cap 4 (rawF K A B s)) (SC.xs a (gnL n (7 : Int)) cap 4 (rawF K A B s)) ∧ x3 = x3 ∧ Go.IntKind.i64.wrap ((↑y.i : Int) + (1 : Int)) = (↑y'.i : Int) ∧ 1 = y'.i ∧ c * 1 = y'.p ∧ (∀ (i : Nat), i < 1 → allC 1 fun (c : Nat) => simC (fixAt (flat [SK.c (SC.val (Go.Value.int Go.IntKind.i64 (Go.IntKind.i64.wrap (hoF A y.i + A (↑y.i : Int).toNat % (40 : Int)))))]) 1 1 0 i c) (SC.val (Go.Value.int Go.IntKind.i64 (hoF A (i + 1))))) ∧ (gnL n (7 : Int) - y'.i).succ.le (gnL n (7 : Int) - y.i))) ∧ (Decidable.decide ((↑y.i : Int) < x3) = Bool.false → (x9 → x9) ∧ (x9 → x9) ∧ (x9 → x9) ∧ (x9 → x9) ∧ (x9 → x9) ∧ (x9 → x9) ∧ (∃ (ac : List Nat → Option Go.Addr × Nat), (∀ (i : Nat), i < x5 → (ac [i]).fst = Option.none → tdN i = 0) ∧ y.i + 1 = x5 ∧ ∀ (i : Nat), i < x5 → allC 3 fun (c : Nat) => simC (tdS A B y.i y.ac i c) (tdS A B (gnL n (7 : Int)) ac i c)) ∧ gnL n (7 : Int) = 0 ∧ (x8 && (↑(y.i + 1) : Int) == (1 : Int)) = Bool.true)) := by kernel_rfl
end Go.Proofs.Ytdlmlejejodbgaa
end
