/-
  Texts: V7, Wsp4, V8, V9, V10, Wsp5, Leh, V11, V12.
-/
import Derived.Test.YtbfcccoeekonlaaGreatDoorM1
import Derived.Test.YtbfcccoeekonlaaGreatDoorM2
import Derived.Test.YtbfcccoeekonlaaGreatDoorM3
import Derived.Test.YtbfcccoeekonlaaGreatDoorM4
import Derived.Test.YtbfcccoeekonlaaGreatDoorM5
import Derived.Test.YtbfcccoeekonlaaGreatDoorM6
import Derived.Test.YtbfcccoeekonlaaGreatDoorM7
section
/-
  Quotients: reckoned by the kernel. (Laid by program.)
-/
namespace Go.Proofs.YtbfcccoeekonlaaGreatDoor
open Go.Sx
set_option maxRecDepth 100000
def guessC (h l y : Int) : List Prop := [w64ok h, w64ok l, w64ok y, 0 < y]
def guessN (h l y : Int) : Int := if h < y then (h * 18446744073709551616 + l) / y else 18446744073709551615
def guessG (h l y : Int) : SV := .one (sI .u64 (guessN h l y))
def cxGuess : Cx := [(103, specWWW divC divG)]
def bitsN (n : Nat) : Nat := if n = 0 then 0 else n.log2 + 1
def noughtsG (a : Nat) : SV := .one (sI .i64 ((256 - bitsN (a % M256) : Nat) : Int))
def cxNoughts : Cx := [(81, specW lzG)]
def moveC (_ : Nat) (n : Int) : List Prop := [0 ≤ n ∧ n ≤ 256]
def upG (a : Nat) (n : Int) : SV := .one (sU (a * 2 ^ n.toNat))
def downG (a : Nat) (n : Int) : SV := .one (sU (a % M256 / 2 ^ n.toNat))
def digC (r : Nat) (x : Int) (b : Nat) : List Prop := [w64ok x, r % M256 < b % M256, M256 ≤ 2 * (b % M256)]
def digR (r : Nat) (x : Int) : Nat := r % M256 * 18446744073709551616 + x.toNat
def digG (r : Nat) (x : Int) (b : Nat) : SV := .tup [sI .u64 ((digR r x / (b % M256) : Nat) : Int), sU (digR r x % (b % M256))]
def digAt (r : Nat) (x : Int) (b e : Nat) : Nat := M256 * 18446744073709551616 + digR r x % (b % M256) - e * (b % M256)
def invDig (r : Nat) (x : Int) (b : Nat) : Inv where
  X := Nat
  tm e := slotsAt 62 [(0, .one (sU r)), (1, .one (sI .u64 x)), (2, .one (sU b)), (3, .one (.sc (.ptr 0 0))), (5, .one (.sc (.ptr 1 0))), (6, .one (.sc (.num .u64 0))), (7, .one (.sc (.ptr 2 0))), (8, .one (sI .u64 ((digAt r x b e / M256 % 18446744073709551616 : Nat) : Int))), (9, .one (sI .u64 ((digR r x / (b % M256) + e : Nat) : Int)))]
  ob e := [.cells 26 [.u (digAt r x b e)] 0, .cells 26 [.u b] 0, .cells 26 [.c (.num .u64 0), .c (.num .u64 0), .c (.num .u64 0), .c (.num .u64 0)] 0]
  holds e := e ≤ 2 ∧ digR r x / (b % M256) + e < 18446744073709551616
  less e := e
def cxDig : Cx := [(82, specWWW guessC guessG), (83, specUI timesG), (35, specUU lessG), (73, specUU plusG)]
def dvC (_ b : Nat) : List Prop := [0 < b % M256]
def dvG (a b : Nat) : SV := .tup [sU (a % M256 / (b % M256)), sU (a % M256 % (b % M256))]
def cxDv : Cx := [(57, specU noughtsG), (58, specUJ moveC upG), (59, specUJ moveC downG), (60, specUWU digC digG)]
def dmG (a b : Nat) : SV := .tup [sU (if b % M256 = 0 then 0 else a % M256 / (b % M256)), sU (if b % M256 = 0 then 0 else a % M256 % (b % M256)), sI .i64 (if b % M256 = 0 then 7 else 0)]
def cxDm : Cx := [(36, specUUC dvC dvG)]
-- VC vc_guess HASH e62c96128aaa7665
theorem vc_guess (h l y : Int) :
    Owes Tryz.prog cxGuess [] 100 Tryz.f82 [sI .u64 h, sI .u64 l, sI .u64 y] (guessG h l y) =
    ((Decidable.decide (h ≥ y) = Bool.true → (18446744073709551615 : Int) = guessN h l y) ∧ (Decidable.decide (h ≥ y) = Bool.false → ((0 : Int) ≤ h ∧ h < (18446744073709551616 : Int)) ∧ ((0 : Int) ≤ l ∧ l < (18446744073709551616 : Int)) ∧ ((0 : Int) ≤ y ∧ y < (18446744073709551616 : Int)) ∧ h < y ∧ (h * (18446744073709551616 : Int) + l) / y = guessN h l y)) := by kernel_rfl
-- END VC
-- VC vc_noughts HASH c7cc3d72ad9a41a0
theorem vc_noughts (a : Nat) :
    Owes Tryz.prog cxNoughts [] 100 Tryz.f57 [sU a] (noughtsG a) =
    (let x1 : Int := Go.IntKind.i64.wrap ((0 : Int) + ((64 : Int) - Go.Sx.lenN (Go.Sx.limb a (3 : Nat)))); let x2 : Int := (↑((256 : Nat) - bitsN (a % Go.Sx.M256)) : Int); let x3 : Int := Go.IntKind.i64.wrap (x1 + ((64 : Int) - Go.Sx.lenN (Go.Sx.limb a (2 : Nat)))); let x4 : Int := Go.IntKind.i64.wrap (x3 + ((64 : Int) - Go.Sx.lenN (Go.Sx.limb a (1 : Nat)))); ((0 : Int) ≤ Go.Sx.limb a (3 : Nat) ∧ Go.Sx.limb a (3 : Nat) < (18446744073709551616 : Int)) ∧ ((Go.Sx.limb a (3 : Nat) != (0 : Int)) = Bool.true → x1 = x2) ∧ ((Go.Sx.limb a (3 : Nat) != (0 : Int)) = Bool.false → ((0 : Int) ≤ Go.Sx.limb a (2 : Nat) ∧ Go.Sx.limb a (2 : Nat) < (18446744073709551616 : Int)) ∧ ((Go.Sx.limb a (2 : Nat) != (0 : Int)) = Bool.true → x3 = x2) ∧ ((Go.Sx.limb a (2 : Nat) != (0 : Int)) = Bool.false → ((0 : Int) ≤ Go.Sx.limb a (1 : Nat) ∧ Go.Sx.limb a (1 : Nat) < (18446744073709551616 : Int)) ∧ ((Go.Sx.limb a (1 : Nat) != (0 : Int)) = Bool.true → x4 = x2) ∧ ((Go.Sx.limb a (1 : Nat) != (0 : Int)) = Bool.false → ((0 : Int) ≤ Go.Sx.limb a (0 : Nat) ∧ Go.Sx.limb a (0 : Nat) < (18446744073709551616 : Int)) ∧ ((Go.Sx.limb a (0 : Nat) != (0 : Int)) = Bool.true → Go.IntKind.i64.wrap (x4 + ((64 : Int) - Go.Sx.lenN (Go.Sx.limb a (0 : Nat)))) = x2) ∧ ((Go.Sx.limb a (0 : Nat) != (0 : Int)) = Bool.false → Go.IntKind.i64.wrap (x4 + ((64 : Int) - Go.Sx.lenN (Go.Sx.limb a (0 : Nat)))) = x2))))) := by kernel_rfl
-- END VC
-- VC vc_up HASH 4e038428dd6c2e88
theorem vc_up (a : Nat) (n : Int) :
    Owes Tryz.prog Cx.none [(2, .split 6 4)] 100 Tryz.f58 [sU a, sI .i64 n] (upG a n) =
    (let x1 : Int := Go.IntKind.i64.wrap (n.tdiv (64 : Int)); let x2 : Int := Go.IntKind.i64.wrap ((64 : Int) - n.tmod (64 : Int)); let x3 : Int := (2 : Int) ^ Min.min (n.tmod (64 : Int)).toNat (64 : Nat); let x4 : Int := Go.IntKind.u64.wrap (Go.Sx.limb a (0 : Nat) * x3); let x5 : Int := (2 : Int) ^ Min.min x2.toNat (64 : Nat); let x6 : Int := Go.IntKind.u64.wrap (↑(BitVec.ofInt (64 : Nat) (Go.IntKind.u64.wrap (Go.Sx.limb a (1 : Nat) * x3)) ||| BitVec.ofInt (64 : Nat) ((Go.Sx.limb a (0 : Nat)).fdiv x5)).toNat : Int); let x7 : Int := Go.IntKind.u64.wrap (↑(BitVec.ofInt (64 : Nat) (Go.IntKind.u64.wrap (Go.Sx.limb a (2 : Nat) * x3)) ||| BitVec.ofInt (64 : Nat) ((Go.Sx.limb a (1 : Nat)).fdiv x5)).toNat : Int); let x8 : Int := Go.IntKind.u64.wrap (↑(BitVec.ofInt (64 : Nat) (Go.IntKind.u64.wrap (Go.Sx.limb a (3 : Nat) * x3)) ||| BitVec.ofInt (64 : Nat) ((Go.Sx.limb a (2 : Nat)).fdiv x5)).toNat : Int); let x9 : Nat := a * (2 : Nat) ^ n.toNat % Go.Sx.M256; ((0 : Int) ≤ x1 ∧ x1 ≤ (4 : Int)) ∧ ((((x1 = (0 : Int) → (0 : Int) ≤ n.tmod (64 : Int) ∧ (0 : Int) ≤ n.tmod (64 : Int) ∧ (0 : Int) ≤ x2 ∧ (0 : Int) ≤ n.tmod (64 : Int) ∧ (0 : Int) ≤ x2 ∧ (0 : Int) ≤ n.tmod (64 : Int) ∧ (0 : Int) ≤ x2 ∧ ((0 : Int) ≤ x4 ∧ x4 < (18446744073709551616 : Int)) ∧ ((0 : Int) ≤ x6 ∧ x6 < (18446744073709551616 : Int)) ∧ ((0 : Int) ≤ x7 ∧ x7 < (18446744073709551616 : Int)) ∧ ((0 : Int) ≤ x8 ∧ x8 < (18446744073709551616 : Int)) ∧ Go.Sx.join x4 x6 x7 x8 % Go.Sx.M256 = x9 ∧ True) ∧ (x1 = (1 : Int) → (0 : Int) ≤ n.tmod (64 : Int) ∧ (0 : Int) ≤ n.tmod (64 : Int) ∧ (0 : Int) ≤ x2 ∧ (0 : Int) ≤ n.tmod (64 : Int) ∧ (0 : Int) ≤ x2 ∧ ((0 : Int) ≤ (0 : Int) ∧ (0 : Int) < (18446744073709551616 : Int)) ∧ ((0 : Int) ≤ x4 ∧ x4 < (18446744073709551616 : Int)) ∧ ((0 : Int) ≤ x6 ∧ x6 < (18446744073709551616 : Int)) ∧ ((0 : Int) ≤ x7 ∧ x7 < (18446744073709551616 : Int)) ∧ Go.Sx.join (0 : Int) x4 x6 x7 % Go.Sx.M256 = x9 ∧ True)) ∧ (x1 = (2 : Int) → (0 : Int) ≤ n.tmod (64 : Int) ∧ (0 : Int) ≤ n.tmod (64 : Int) ∧ (0 : Int) ≤ x2 ∧ ((0 : Int) ≤ (0 : Int) ∧ (0 : Int) < (18446744073709551616 : Int)) ∧ ((0 : Int) ≤ (0 : Int) ∧ (0 : Int) < (18446744073709551616 : Int)) ∧ ((0 : Int) ≤ x4 ∧ x4 < (18446744073709551616 : Int)) ∧ ((0 : Int) ≤ x6 ∧ x6 < (18446744073709551616 : Int)) ∧ Go.Sx.join (0 : Int) (0 : Int) x4 x6 % Go.Sx.M256 = x9 ∧ True)) ∧ (x1 = (3 : Int) → (0 : Int) ≤ n.tmod (64 : Int) ∧ ((0 : Int) ≤ (0 : Int) ∧ (0 : Int) < (18446744073709551616 : Int)) ∧ ((0 : Int) ≤ (0 : Int) ∧ (0 : Int) < (18446744073709551616 : Int)) ∧ ((0 : Int) ≤ (0 : Int) ∧ (0 : Int) < (18446744073709551616 : Int)) ∧ ((0 : Int) ≤ x4 ∧ x4 < (18446744073709551616 : Int)) ∧ Go.Sx.join (0 : Int) (0 : Int) (0 : Int) x4 % Go.Sx.M256 = x9 ∧ True)) ∧ (x1 = (4 : Int) → (0 : Nat) = x9 ∧ True)) := by kernel_rfl
-- END VC
-- VC vc_down HASH 54f897cdb231f3b2
theorem vc_down (a : Nat) (n : Int) :
    Owes Tryz.prog Cx.none [(2, .split 6 4)] 100 Tryz.f59 [sU a, sI .i64 n] (downG a n) =
    (let x1 : Int := Go.IntKind.i64.wrap (n.tdiv (64 : Int)); let x2 : Int := Go.IntKind.i64.wrap ((64 : Int) - n.tmod (64 : Int)); let x3 : Int := (2 : Int) ^ Min.min (n.tmod (64 : Int)).toNat (64 : Nat); let x4 : Int := (2 : Int) ^ Min.min x2.toNat (64 : Nat); let x5 : Int := Go.IntKind.u64.wrap (↑(BitVec.ofInt (64 : Nat) ((Go.Sx.limb a (0 : Nat)).fdiv x3) ||| BitVec.ofInt (64 : Nat) (Go.IntKind.u64.wrap (Go.Sx.limb a (1 : Nat) * x4))).toNat : Int); let x6 : Int := Go.IntKind.u64.wrap (↑(BitVec.ofInt (64 : Nat) ((Go.Sx.limb a (1 : Nat)).fdiv x3) ||| BitVec.ofInt (64 : Nat) (Go.IntKind.u64.wrap (Go.Sx.limb a (2 : Nat) * x4))).toNat : Int); let x7 : Int := Go.IntKind.u64.wrap (↑(BitVec.ofInt (64 : Nat) ((Go.Sx.limb a (2 : Nat)).fdiv x3) ||| BitVec.ofInt (64 : Nat) (Go.IntKind.u64.wrap (Go.Sx.limb a (3 : Nat) * x4))).toNat : Int); let x8 : Int := (Go.Sx.limb a (3 : Nat)).fdiv x3; let x9 : Nat := a % Go.Sx.M256 / (2 : Nat) ^ n.toNat % Go.Sx.M256; ((0 : Int) ≤ x1 ∧ x1 ≤ (4 : Int)) ∧ ((((x1 = (0 : Int) → (0 : Int) ≤ n.tmod (64 : Int) ∧ (0 : Int) ≤ x2 ∧ (0 : Int) ≤ n.tmod (64 : Int) ∧ (0 : Int) ≤ x2 ∧ (0 : Int) ≤ n.tmod (64 : Int) ∧ (0 : Int) ≤ x2 ∧ (0 : Int) ≤ n.tmod (64 : Int) ∧ ((0 : Int) ≤ x5 ∧ x5 < (18446744073709551616 : Int)) ∧ ((0 : Int) ≤ x6 ∧ x6 < (18446744073709551616 : Int)) ∧ ((0 : Int) ≤ x7 ∧ x7 < (18446744073709551616 : Int)) ∧ ((0 : Int) ≤ x8 ∧ x8 < (18446744073709551616 : Int)) ∧ Go.Sx.join x5 x6 x7 x8 % Go.Sx.M256 = x9 ∧ True) ∧ (x1 = (1 : Int) → (0 : Int) ≤ n.tmod (64 : Int) ∧ (0 : Int) ≤ x2 ∧ (0 : Int) ≤ n.tmod (64 : Int) ∧ (0 : Int) ≤ x2 ∧ (0 : Int) ≤ n.tmod (64 : Int) ∧ ((0 : Int) ≤ x6 ∧ x6 < (18446744073709551616 : Int)) ∧ ((0 : Int) ≤ x7 ∧ x7 < (18446744073709551616 : Int)) ∧ ((0 : Int) ≤ x8 ∧ x8 < (18446744073709551616 : Int)) ∧ ((0 : Int) ≤ (0 : Int) ∧ (0 : Int) < (18446744073709551616 : Int)) ∧ Go.Sx.join x6 x7 x8 (0 : Int) % Go.Sx.M256 = x9 ∧ True)) ∧ (x1 = (2 : Int) → (0 : Int) ≤ n.tmod (64 : Int) ∧ (0 : Int) ≤ x2 ∧ (0 : Int) ≤ n.tmod (64 : Int) ∧ ((0 : Int) ≤ x7 ∧ x7 < (18446744073709551616 : Int)) ∧ ((0 : Int) ≤ x8 ∧ x8 < (18446744073709551616 : Int)) ∧ ((0 : Int) ≤ (0 : Int) ∧ (0 : Int) < (18446744073709551616 : Int)) ∧ ((0 : Int) ≤ (0 : Int) ∧ (0 : Int) < (18446744073709551616 : Int)) ∧ Go.Sx.join x7 x8 (0 : Int) (0 : Int) % Go.Sx.M256 = x9 ∧ True)) ∧ (x1 = (3 : Int) → (0 : Int) ≤ n.tmod (64 : Int) ∧ ((0 : Int) ≤ x8 ∧ x8 < (18446744073709551616 : Int)) ∧ ((0 : Int) ≤ (0 : Int) ∧ (0 : Int) < (18446744073709551616 : Int)) ∧ ((0 : Int) ≤ (0 : Int) ∧ (0 : Int) < (18446744073709551616 : Int)) ∧ ((0 : Int) ≤ (0 : Int) ∧ (0 : Int) < (18446744073709551616 : Int)) ∧ Go.Sx.join x8 (0 : Int) (0 : Int) (0 : Int) % Go.Sx.M256 = x9 ∧ True)) ∧ (x1 = (4 : Int) → (0 : Nat) = x9 ∧ True)) := by kernel_rfl
-- END VC
-- VC vc_digit HASH 89f53d4c44464754
theorem vc_digit (r : Nat) (x : Int) (b : Nat) :
    Owes Tryz.prog cxDig [(7, .inv (invDig r x b))] 100 Tryz.f60 [sU r, sI .u64 x, sU b] (digG r x b) =
    (let x1 : Int := guessN (Go.Sx.limb r (3 : Nat)) (Go.Sx.limb r (2 : Nat)) (Go.Sx.limb b (3 : Nat)); let x2 : Nat := b % Go.Sx.M256; let x3 : Nat := digR r x / x2; let x4 : Nat := r % Go.Sx.M256; let x5 : Nat := x1.toNat; let x6 : Nat := Go.Sx.join x (Go.Sx.limb r (0 : Nat)) (Go.Sx.limb r (1 : Nat)) (Go.Sx.limb r (2 : Nat)) % Go.Sx.M256; let x7 : Nat := b * x5 % Go.Sx.M256; ((0 : Int) ≤ Go.Sx.limb r (3 : Nat) ∧ Go.Sx.limb r (3 : Nat) < (18446744073709551616 : Int)) ∧ ((0 : Int) ≤ Go.Sx.limb r (2 : Nat) ∧ Go.Sx.limb r (2 : Nat) < (18446744073709551616 : Int)) ∧ ((0 : Int) ≤ Go.Sx.limb b (3 : Nat) ∧ Go.Sx.limb b (3 : Nat) < (18446744073709551616 : Int)) ∧ (0 : Int) < Go.Sx.limb b (3 : Nat) ∧ ((0 : Int) ≤ x1 ∧ x1 < (18446744073709551616 : Int)) ∧ ((0 : Int) ≤ x ∧ x < (18446744073709551616 : Int)) ∧ ((0 : Int) ≤ Go.Sx.limb r (0 : Nat) ∧ Go.Sx.limb r (0 : Nat) < (18446744073709551616 : Int)) ∧ ((0 : Int) ≤ Go.Sx.limb r (1 : Nat) ∧ Go.Sx.limb r (1 : Nat) < (18446744073709551616 : Int)) ∧ ((0 : Int) ≤ Go.Sx.limb r (2 : Nat) ∧ Go.Sx.limb r (2 : Nat) < (18446744073709551616 : Int)) ∧ (∀ (y : Nat), Go.Sx.closedB (Go.Sx.slotsAt (62 : Nat) [((0 : Nat), Go.Sx.SV.one (Go.Sx.sU r)), ((1 : Nat), Go.Sx.SV.one (Go.Sx.sI Go.IntKind.u64 x)), ((2 : Nat), Go.Sx.SV.one (Go.Sx.sU b)), ((3 : Nat), Go.Sx.SV.one (Go.Sx.SA.sc (Go.Sx.SC.ptr (0 : Nat) (0 : Nat)))), ((5 : Nat), Go.Sx.SV.one (Go.Sx.SA.sc (Go.Sx.SC.ptr (1 : Nat) (0 : Nat)))), ((6 : Nat), Go.Sx.SV.one (Go.Sx.SA.sc (Go.Sx.SC.num Go.IntKind.u64 (0 : Int)))), ((7 : Nat), Go.Sx.SV.one (Go.Sx.SA.sc (Go.Sx.SC.ptr (2 : Nat) (0 : Nat)))), ((8 : Nat), Go.Sx.SV.one (Go.Sx.sI Go.IntKind.u64 (↑(digAt r x b y / Go.Sx.M256 % (18446744073709551616 : Nat)) : Int))), ((9 : Nat), Go.Sx.SV.one (Go.Sx.sI Go.IntKind.u64 (↑(x3 + y) : Int)))]) [Go.Sx.SO.cells (26 : Go.TypeId) [Go.Sx.SK.u (digAt r x b y)] (0 : Nat), Go.Sx.SO.cells (26 : Go.TypeId) [Go.Sx.SK.u b] (0 : Nat), Go.Sx.SO.cells (26 : Go.TypeId) [Go.Sx.SK.c (Go.Sx.SC.num Go.IntKind.u64 (0 : Int)), Go.Sx.SK.c (Go.Sx.SC.num Go.IntKind.u64 (0 : Int)), Go.Sx.SK.c (Go.Sx.SC.num Go.IntKind.u64 (0 : Int)), Go.Sx.SK.c (Go.Sx.SC.num Go.IntKind.u64 (0 : Int))] (0 : Nat)] = Bool.true) ∧ ∃ (y : Nat), (y ≤ (2 : Nat) ∧ x3 + y < (18446744073709551616 : Nat)) ∧ x4 = x4 ∧ x = x ∧ x2 = x2 ∧ Go.IntKind.u64.wrap (Go.Sx.limb r (3 : Nat) - Go.IntKind.u64.wrap ((↑(x2 * x5 / Go.Sx.M256) : Int) + if x6 < x7 then (1 : Int) else (0 : Int))) = (↑(digAt r x b y / Go.Sx.M256 % (18446744073709551616 : Nat)) : Int) ∧ x1 = (↑(x3 + y) : Int) ∧ (x6 + Go.Sx.M256 - x7) % Go.Sx.M256 = digAt r x b y % Go.Sx.M256 ∧ (0 : Nat) = (0 : Nat) ∧ x2 = x2 ∧ (0 : Nat) = (0 : Nat) ∧ (0 : Nat) = (0 : Nat) ∧ ∀ (y : Nat), y ≤ (2 : Nat) ∧ x3 + y < (18446744073709551616 : Nat) → (((↑(digAt r x b y / Go.Sx.M256 % (18446744073709551616 : Nat)) : Int) != (0 : Int)) = Bool.true → ∃ (y' : Nat), (y' ≤ (2 : Nat) ∧ x3 + y' < (18446744073709551616 : Nat)) ∧ x4 = x4 ∧ x = x ∧ x2 = x2 ∧ Go.IntKind.u64.wrap ((↑(digAt r x b y / Go.Sx.M256 % (18446744073709551616 : Nat)) : Int) + (↑((digAt r x b y % Go.Sx.M256 + x2) / Go.Sx.M256) : Int)) = (↑(digAt r x b y' / Go.Sx.M256 % (18446744073709551616 : Nat)) : Int) ∧ Go.IntKind.u64.wrap ((↑(x3 + y) : Int) - (1 : Int)) = (↑(x3 + y') : Int) ∧ (digAt r x b y + b) % Go.Sx.M256 = digAt r x b y' % Go.Sx.M256 ∧ (0 : Nat) = (0 : Nat) ∧ x2 = x2 ∧ (0 : Nat) = (0 : Nat) ∧ (0 : Nat) = (0 : Nat) ∧ y' < y) ∧ (((↑(digAt r x b y / Go.Sx.M256 % (18446744073709551616 : Nat)) : Int) != (0 : Int)) = Bool.false → (↑(x3 + y) : Int) = (↑x3 : Int) ∧ digAt r x b y % Go.Sx.M256 = digR r x % x2 % Go.Sx.M256 ∧ True)) := by kernel_rfl
-- END VC
-- VC vc_divide HASH 6f67744863a75f83
theorem vc_divide (a b : Nat) :
    Owes Tryz.prog cxDv [] 100 Tryz.f36 [sU a, sU b] (dvG a b) =
    (let x1 : Nat := b % Go.Sx.M256; let x2 : Int := (↑((256 : Nat) - bitsN x1) : Int); let x3 : Int := Go.IntKind.i64.wrap ((256 : Int) - x2); let x4 : Nat := (2 : Nat) ^ x2.toNat; let x5 : Int := Go.Sx.limb (a * x4) (3 : Nat); let x6 : Nat := a % Go.Sx.M256; let x7 : Nat := x6 / (2 : Nat) ^ x3.toNat; let x8 : Nat := b * x4 % Go.Sx.M256; let x9 : Int := Go.Sx.limb (a * x4) (2 : Nat); let x10 : Nat := digR x7 x5; let x11 : Nat := x10 % x8; let x12 : Int := Go.Sx.limb (a * x4) (1 : Nat); let x13 : Nat := digR x11 x9; let x14 : Nat := x13 % x8; let x15 : Int := Go.Sx.limb (a * x4) (0 : Nat); let x16 : Nat := digR x14 x12; let x17 : Nat := x16 % x8; let x18 : Nat := digR x17 x15; let x19 : Int := (↑(x18 / x8) : Int); let x20 : Int := (↑(x16 / x8) : Int); let x21 : Int := (↑(x13 / x8) : Int); let x22 : Int := (↑(x10 / x8) : Int); ((0 : Int) ≤ x2 ∧ x2 ≤ (256 : Int)) ∧ ((0 : Int) ≤ x3 ∧ x3 ≤ (256 : Int)) ∧ ((0 : Int) ≤ x2 ∧ x2 ≤ (256 : Int)) ∧ ((0 : Int) ≤ x5 ∧ x5 < (18446744073709551616 : Int)) ∧ x7 % Go.Sx.M256 < x8 ∧ Go.Sx.M256 ≤ (2 : Nat) * x8 ∧ ((0 : Int) ≤ x9 ∧ x9 < (18446744073709551616 : Int)) ∧ x11 % Go.Sx.M256 < x8 ∧ Go.Sx.M256 ≤ (2 : Nat) * x8 ∧ ((0 : Int) ≤ x12 ∧ x12 < (18446744073709551616 : Int)) ∧ x14 % Go.Sx.M256 < x8 ∧ Go.Sx.M256 ≤ (2 : Nat) * x8 ∧ ((0 : Int) ≤ x15 ∧ x15 < (18446744073709551616 : Int)) ∧ x17 % Go.Sx.M256 < x8 ∧ Go.Sx.M256 ≤ (2 : Nat) * x8 ∧ ((0 : Int) ≤ x2 ∧ x2 ≤ (256 : Int)) ∧ (((0 : Int) ≤ x19 ∧ x19 < (18446744073709551616 : Int)) ∧ ((0 : Int) ≤ x20 ∧ x20 < (18446744073709551616 : Int)) ∧ ((0 : Int) ≤ x21 ∧ x21 < (18446744073709551616 : Int)) ∧ ((0 : Int) ≤ x22 ∧ x22 < (18446744073709551616 : Int)) ∧ Go.Sx.join x19 x20 x21 x22 % Go.Sx.M256 = x6 / x1 % Go.Sx.M256 ∧ True) ∧ x18 % x8 % Go.Sx.M256 / x4 % Go.Sx.M256 = x6 % x1 % Go.Sx.M256 ∧ True) := by kernel_rfl
-- END VC
-- VC vc_DivMod HASH 5d527b4ee574f742
theorem vc_DivMod (a b : Nat) :
    Owes Tryz.prog cxDm [] 100 Tryz.f16 [sU a, sU b] (dmG a b) =
    (let x1 : Nat := b % Go.Sx.M256; let x2 : Nat := a % Go.Sx.M256; let x3 : Nat := x2 / x1; let x4 : Nat := (if x1 = (0 : Nat) then (0 : Nat) else x3) % Go.Sx.M256; let x5 : Nat := x2 % x1; let x6 : Nat := (if x1 = (0 : Nat) then (0 : Nat) else x5) % Go.Sx.M256; let x7 : Int := if x1 = (0 : Nat) then (7 : Int) else (0 : Int); (Go.Sx.conj [x1 == (0 : Nat)] = Bool.true → ((0 : Nat) = x4 ∧ True) ∧ ((0 : Nat) = x6 ∧ True) ∧ (7 : Int) = x7) ∧ (Go.Sx.conj [x1 == (0 : Nat)] = Bool.false → (0 : Nat) < x1 ∧ (x3 % Go.Sx.M256 = x4 ∧ True) ∧ (x5 % Go.Sx.M256 = x6 ∧ True) ∧ (0 : Int) = x7)) := by kernel_rfl
-- END VC
end Go.Proofs.YtbfcccoeekonlaaGreatDoor
end

section
/-
  More shapes of cards: three numbers.
-/
namespace Go.Sx
open Go.RowKit

/-- Three numbers of 256 bits, under a condition. -/
def specUUU (c : Nat → Nat → Nat → List Prop) (g : Nat → Nat → Nat → SV) : FSpec := fun args =>
  match args with
  | [x, y, z] => match asU x, asU y, asU z with
    | some (p, a), some (o, n), some (q, b) => some (((p ++ o) ++ q) ++ c a n b, g a n b)
    | _, _, _ => none
  | _ => none
theorem FnOK_UUU {P : Program} {cx : Cx} (hcx : CxOK P cx) {iv : Nat → Nat → Nat → List (Nat × Hint)} {N : Nat} {f : Nat} {fn : Func} (hf : P.funcs[f]? = some fn) (hb : fn.body.isSome = true) (hn : (fn.name == "runtime.NumGoroutine") = false) {c : Nat → Nat → Nat → List Prop} {g : Nat → Nat → Nat → SV} (hg : ∀ a n b, (g a n b).bnd none0)
    (h : ∀ a n b, Ok (c a n b) → Owes P cx (iv a n b) N fn [sU a, sU n, sU b] (g a n b)) : FnOKg P cx.gl f (specUUU c g) := by
  refine FnOK_of hf hb hn fun args ps sv hs hp => ?_
  unfold specUUU at hs
  split at hs
  · rename_i x y z
    split at hs
    · rename_i p a o n q b ha hn' hb'
      simp only [Option.some.injEq, Prod.mk.injEq] at hs
      obtain ⟨rfl, rfl⟩ := hs
      obtain ⟨o12, o3⟩ := Ok.append.1 hp
      obtain ⟨o1', o2⟩ := Ok.append.1 o12
      obtain ⟨o1, o4⟩ := Ok.append.1 o1'
      refine ⟨hg a n b, fun ρ w hzz hgg _ => ?_⟩
      rw [show [x, y, z].map (SA.conc ρ) = [sU a, sU n, sU b].map (SA.conc ρ) by simp only [List.map_cons, List.map_nil, asU_canon ha o1 ρ, asU_canon hn' o4 ρ, asU_canon hb' o2 ρ]]
      refine (calls_of_owes0 hcx hf hb (args := [sU a, sU n, sU b]) (by
        intro z hz
        simp only [List.mem_cons, List.not_mem_nil, or_false] at hz
        rcases hz with rfl | rfl | rfl <;> exact bnd_sU _) (h a n b o3) ρ w hzz hgg).mono ?_
      rintro e w' ⟨v, rfl, ⟨ρ', hr⟩, hbl⟩
      exact ⟨v, rfl, rep_none0 (hg a n b) hr, hbl⟩
    · cases hs
  · cases hs
end Go.Sx
end

section
/-
  Package field: reckoned by the kernel. (Laid by program.)
-/
namespace Go.Proofs.YtbfcccoeekonlaaGreatDoor
open Go.Sx
set_option maxRecDepth 100000
def cxFless : Cx := [(104, specWW mul64G), (92, specAdd64), (56, specSub64)]
def flessG (a : Nat) (q : Int) (b : Nat) : SV := .tup [sU (a % M256 + M256 - b % M256 * q.toNat % M256), sI .u64 (((b % M256 * q.toNat / M256 : Nat) : Int) + if a % M256 < b % M256 * q.toNat % M256 then 1 else 0)]
def flessC (_ : Nat) (q : Int) (_ : Nat) : List Prop := [w64ok q]
def invBring (r : Nat) (x : Int) (b : Nat) : Inv where
  X := Nat
  tm e := slotsAt 48 [(0, .one (sU r)), (1, .one (sI .u64 x)), (2, .one (sU b)), (3, .one (.sc (.ptr 0 0))), (5, .one (.sc (.ptr 1 0))), (6, .one (.sc (.ptr 2 0))), (7, .one (sI .u64 ((digAt r x b e / M256 % 18446744073709551616 : Nat) : Int)))]
  ob e := [.cells 26 [.u (digAt r x b e)] 0, .cells 26 [.u b] 0, .cells 26 [.c (.num .u64 0), .c (.num .u64 0), .c (.num .u64 0), .c (.num .u64 0)] 0]
  holds e := e ≤ 2
  less e := e
def bringG (r : Nat) (x : Int) (b : Nat) : SV := .one (sU (digR r x % (b % M256)))
def cxBring : Cx := [(115, specWWW guessC guessG), (116, specUWU flessC flessG), (50, specUU addG)]
def restC (a b m : Nat) : List Prop := [a % M256 < m % M256, b % M256 < m % M256, M256 ≤ 2 * (m % M256)]
def restG (a b m : Nat) : SV := .one (sU (a % M256 * (b % M256) % (m % M256)))
def cxRest : Cx := [(100, specUU mulG), (109, specUWU digC bringG)]
def bitC (n : Int) : List Prop := [0 ≤ n ∧ n ≤ 255]
def bitG (n : Int) : SV := .one (sU (2 ^ n.toNat))
def prodC (a b m : Nat) : List Prop := [a % M256 < m % M256, b % M256 < m % M256]
def prodG (a b m : Nat) : SV := .one (sU (a % M256 * (b % M256) % (m % M256)))
def cxProd : Cx := [(98, specU noughtsG), (99, specUUU restC restG), (101, specI bitC bitG), (100, specUU mulG)]
def sumG (a b m : Nat) : SV := .one (sU ((a % M256 + b % M256) % (m % M256)))
def diffG (a b m : Nat) : SV := .one (sU ((a % M256 + m % M256 - b % M256) % (m % M256)))
def cxSum : Cx := [(50, specUU addG), (15, specUU cmpG), (14, specUU subG)]
-- VC vc_fguess HASH 45e50bdf6c3197c8
theorem vc_fguess (h l y : Int) :
    Owes Tryz.prog cxGuess [] 100 Tryz.f115 [sI .u64 h, sI .u64 l, sI .u64 y] (guessG h l y) =
    ((Decidable.decide (h ≥ y) = Bool.true → (18446744073709551615 : Int) = guessN h l y) ∧ (Decidable.decide (h ≥ y) = Bool.false → ((0 : Int) ≤ h ∧ h < (18446744073709551616 : Int)) ∧ ((0 : Int) ≤ l ∧ l < (18446744073709551616 : Int)) ∧ ((0 : Int) ≤ y ∧ y < (18446744073709551616 : Int)) ∧ h < y ∧ (h * (18446744073709551616 : Int) + l) / y = guessN h l y)) := by kernel_rfl
-- END VC
-- VC vc_fnoughts HASH 8ba5090333e0a68e
theorem vc_fnoughts (a : Nat) :
    Owes Tryz.prog cxNoughts [] 100 Tryz.f98 [sU a] (noughtsG a) =
    (let x1 : Int := Go.IntKind.i64.wrap ((0 : Int) + ((64 : Int) - Go.Sx.lenN (Go.Sx.limb a (3 : Nat)))); let x2 : Int := (↑((256 : Nat) - bitsN (a % Go.Sx.M256)) : Int); let x3 : Int := Go.IntKind.i64.wrap (x1 + ((64 : Int) - Go.Sx.lenN (Go.Sx.limb a (2 : Nat)))); let x4 : Int := Go.IntKind.i64.wrap (x3 + ((64 : Int) - Go.Sx.lenN (Go.Sx.limb a (1 : Nat)))); ((0 : Int) ≤ Go.Sx.limb a (3 : Nat) ∧ Go.Sx.limb a (3 : Nat) < (18446744073709551616 : Int)) ∧ ((Go.Sx.limb a (3 : Nat) != (0 : Int)) = Bool.true → x1 = x2) ∧ ((Go.Sx.limb a (3 : Nat) != (0 : Int)) = Bool.false → ((0 : Int) ≤ Go.Sx.limb a (2 : Nat) ∧ Go.Sx.limb a (2 : Nat) < (18446744073709551616 : Int)) ∧ ((Go.Sx.limb a (2 : Nat) != (0 : Int)) = Bool.true → x3 = x2) ∧ ((Go.Sx.limb a (2 : Nat) != (0 : Int)) = Bool.false → ((0 : Int) ≤ Go.Sx.limb a (1 : Nat) ∧ Go.Sx.limb a (1 : Nat) < (18446744073709551616 : Int)) ∧ ((Go.Sx.limb a (1 : Nat) != (0 : Int)) = Bool.true → x4 = x2) ∧ ((Go.Sx.limb a (1 : Nat) != (0 : Int)) = Bool.false → ((0 : Int) ≤ Go.Sx.limb a (0 : Nat) ∧ Go.Sx.limb a (0 : Nat) < (18446744073709551616 : Int)) ∧ ((Go.Sx.limb a (0 : Nat) != (0 : Int)) = Bool.true → Go.IntKind.i64.wrap (x4 + ((64 : Int) - Go.Sx.lenN (Go.Sx.limb a (0 : Nat)))) = x2) ∧ ((Go.Sx.limb a (0 : Nat) != (0 : Int)) = Bool.false → Go.IntKind.i64.wrap (x4 + ((64 : Int) - Go.Sx.lenN (Go.Sx.limb a (0 : Nat)))) = x2))))) := by kernel_rfl
-- END VC
-- VC vc_fless HASH 3e51a4d87bf4bc9d
theorem vc_fless (a : Nat) (q : Int) (b : Nat) :
    Owes Tryz.prog cxFless [] 100 Tryz.f116 [sU a, sI .u64 q, sU b] (flessG a q b) =
    (let x1 : Int := Go.Sx.limb b (0 : Nat) * q; let x2 : Int := x1 % (18446744073709551616 : Int); let x3 : Int := x2 + (0 : Int) + (0 : Int); let x4 : Int := x3 % (18446744073709551616 : Int); let x5 : Int := Go.Sx.limb b (1 : Nat) * q; let x6 : Int := x5 % (18446744073709551616 : Int); let x7 : Int := Go.Sx.limb a (0 : Nat) - x4 - (0 : Int); let x8 : Int := Go.IntKind.u64.wrap (Go.IntKind.u64.wrap (x1 / (18446744073709551616 : Int) + x3 / (18446744073709551616 : Int)) + -(x7 / (18446744073709551616 : Int))); let x9 : Int := x6 + x8 + (0 : Int); let x10 : Int := x9 % (18446744073709551616 : Int); let x11 : Int := Go.Sx.limb b (2 : Nat) * q; let x12 : Int := x11 % (18446744073709551616 : Int); let x13 : Int := Go.Sx.limb a (1 : Nat) - x10 - (0 : Int); let x14 : Int := Go.IntKind.u64.wrap (Go.IntKind.u64.wrap (x5 / (18446744073709551616 : Int) + x9 / (18446744073709551616 : Int)) + -(x13 / (18446744073709551616 : Int))); let x15 : Int := x12 + x14 + (0 : Int); let x16 : Int := x15 % (18446744073709551616 : Int); let x17 : Int := Go.Sx.limb b (3 : Nat) * q; let x18 : Int := x17 % (18446744073709551616 : Int); let x19 : Int := Go.Sx.limb a (2 : Nat) - x16 - (0 : Int); let x20 : Int := Go.IntKind.u64.wrap (Go.IntKind.u64.wrap (x11 / (18446744073709551616 : Int) + x15 / (18446744073709551616 : Int)) + -(x19 / (18446744073709551616 : Int))); let x21 : Int := x18 + x20 + (0 : Int); let x22 : Int := x21 % (18446744073709551616 : Int); let x23 : Int := x7 % (18446744073709551616 : Int); let x24 : Int := x13 % (18446744073709551616 : Int); let x25 : Int := x19 % (18446744073709551616 : Int); let x26 : Int := Go.Sx.limb a (3 : Nat) - x22 - (0 : Int); let x27 : Int := x26 % (18446744073709551616 : Int); let x28 : Nat := a % Go.Sx.M256; let x29 : Nat := b % Go.Sx.M256 * q.toNat; let x30 : Nat := x29 % Go.Sx.M256; ((0 : Int) ≤ Go.Sx.limb b (0 : Nat) ∧ Go.Sx.limb b (0 : Nat) < (18446744073709551616 : Int)) ∧ ((0 : Int) ≤ q ∧ q < (18446744073709551616 : Int)) ∧ (0 : Int) ≤ x2 ∧ (0 : Int) ≤ (0 : Int) ∧ ((0 : Int) ≤ (0 : Int) ∧ (0 : Int) ≤ (1 : Int)) ∧ ((0 : Int) ≤ Go.Sx.limb a (0 : Nat) ∧ Go.Sx.limb a (0 : Nat) < (18446744073709551616 : Int)) ∧ ((0 : Int) ≤ x4 ∧ x4 < (18446744073709551616 : Int)) ∧ ((0 : Int) ≤ (0 : Int) ∧ (0 : Int) ≤ (1 : Int)) ∧ ((0 : Int) ≤ Go.Sx.limb b (1 : Nat) ∧ Go.Sx.limb b (1 : Nat) < (18446744073709551616 : Int)) ∧ ((0 : Int) ≤ q ∧ q < (18446744073709551616 : Int)) ∧ (0 : Int) ≤ x6 ∧ (0 : Int) ≤ x8 ∧ ((0 : Int) ≤ (0 : Int) ∧ (0 : Int) ≤ (1 : Int)) ∧ ((0 : Int) ≤ Go.Sx.limb a (1 : Nat) ∧ Go.Sx.limb a (1 : Nat) < (18446744073709551616 : Int)) ∧ ((0 : Int) ≤ x10 ∧ x10 < (18446744073709551616 : Int)) ∧ ((0 : Int) ≤ (0 : Int) ∧ (0 : Int) ≤ (1 : Int)) ∧ ((0 : Int) ≤ Go.Sx.limb b (2 : Nat) ∧ Go.Sx.limb b (2 : Nat) < (18446744073709551616 : Int)) ∧ ((0 : Int) ≤ q ∧ q < (18446744073709551616 : Int)) ∧ (0 : Int) ≤ x12 ∧ (0 : Int) ≤ x14 ∧ ((0 : Int) ≤ (0 : Int) ∧ (0 : Int) ≤ (1 : Int)) ∧ ((0 : Int) ≤ Go.Sx.limb a (2 : Nat) ∧ Go.Sx.limb a (2 : Nat) < (18446744073709551616 : Int)) ∧ ((0 : Int) ≤ x16 ∧ x16 < (18446744073709551616 : Int)) ∧ ((0 : Int) ≤ (0 : Int) ∧ (0 : Int) ≤ (1 : Int)) ∧ ((0 : Int) ≤ Go.Sx.limb b (3 : Nat) ∧ Go.Sx.limb b (3 : Nat) < (18446744073709551616 : Int)) ∧ ((0 : Int) ≤ q ∧ q < (18446744073709551616 : Int)) ∧ (0 : Int) ≤ x18 ∧ (0 : Int) ≤ x20 ∧ ((0 : Int) ≤ (0 : Int) ∧ (0 : Int) ≤ (1 : Int)) ∧ ((0 : Int) ≤ Go.Sx.limb a (3 : Nat) ∧ Go.Sx.limb a (3 : Nat) < (18446744073709551616 : Int)) ∧ ((0 : Int) ≤ x22 ∧ x22 < (18446744073709551616 : Int)) ∧ ((0 : Int) ≤ (0 : Int) ∧ (0 : Int) ≤ (1 : Int)) ∧ (((0 : Int) ≤ x23 ∧ x23 < (18446744073709551616 : Int)) ∧ ((0 : Int) ≤ x24 ∧ x24 < (18446744073709551616 : Int)) ∧ ((0 : Int) ≤ x25 ∧ x25 < (18446744073709551616 : Int)) ∧ ((0 : Int) ≤ x27 ∧ x27 < (18446744073709551616 : Int)) ∧ Go.Sx.join x23 x24 x25 x27 % Go.Sx.M256 = (x28 + Go.Sx.M256 - x30) % Go.Sx.M256 ∧ True) ∧ Go.IntKind.u64.wrap (Go.IntKind.u64.wrap (x17 / (18446744073709551616 : Int) + x21 / (18446744073709551616 : Int)) + -(x26 / (18446744073709551616 : Int))) = (↑(x29 / Go.Sx.M256) : Int) + if x28 < x30 then (1 : Int) else (0 : Int)) := by kernel_rfl
-- END VC
-- VC vc_bring HASH 38325b855d33585d
theorem vc_bring (r : Nat) (x : Int) (b : Nat) :
    Owes Tryz.prog cxBring [(5, .inv (invBring r x b))] 100 Tryz.f109 [sU r, sI .u64 x, sU b] (bringG r x b) =
    (let x1 : Int := guessN (Go.Sx.limb r (3 : Nat)) (Go.Sx.limb r (2 : Nat)) (Go.Sx.limb b (3 : Nat)); let x2 : Nat := r % Go.Sx.M256; let x3 : Nat := b % Go.Sx.M256; let x4 : Nat := x3 * x1.toNat; let x5 : Nat := Go.Sx.join x (Go.Sx.limb r (0 : Nat)) (Go.Sx.limb r (1 : Nat)) (Go.Sx.limb r (2 : Nat)) % Go.Sx.M256; let x6 : Nat := x4 % Go.Sx.M256; ((0 : Int) ≤ Go.Sx.limb r (3 : Nat) ∧ Go.Sx.limb r (3 : Nat) < (18446744073709551616 : Int)) ∧ ((0 : Int) ≤ Go.Sx.limb r (2 : Nat) ∧ Go.Sx.limb r (2 : Nat) < (18446744073709551616 : Int)) ∧ ((0 : Int) ≤ Go.Sx.limb b (3 : Nat) ∧ Go.Sx.limb b (3 : Nat) < (18446744073709551616 : Int)) ∧ (0 : Int) < Go.Sx.limb b (3 : Nat) ∧ ((0 : Int) ≤ x ∧ x < (18446744073709551616 : Int)) ∧ ((0 : Int) ≤ Go.Sx.limb r (0 : Nat) ∧ Go.Sx.limb r (0 : Nat) < (18446744073709551616 : Int)) ∧ ((0 : Int) ≤ Go.Sx.limb r (1 : Nat) ∧ Go.Sx.limb r (1 : Nat) < (18446744073709551616 : Int)) ∧ ((0 : Int) ≤ Go.Sx.limb r (2 : Nat) ∧ Go.Sx.limb r (2 : Nat) < (18446744073709551616 : Int)) ∧ ((0 : Int) ≤ x1 ∧ x1 < (18446744073709551616 : Int)) ∧ (∀ (y : Nat), Go.Sx.closedB (Go.Sx.slotsAt (48 : Nat) [((0 : Nat), Go.Sx.SV.one (Go.Sx.sU r)), ((1 : Nat), Go.Sx.SV.one (Go.Sx.sI Go.IntKind.u64 x)), ((2 : Nat), Go.Sx.SV.one (Go.Sx.sU b)), ((3 : Nat), Go.Sx.SV.one (Go.Sx.SA.sc (Go.Sx.SC.ptr (0 : Nat) (0 : Nat)))), ((5 : Nat), Go.Sx.SV.one (Go.Sx.SA.sc (Go.Sx.SC.ptr (1 : Nat) (0 : Nat)))), ((6 : Nat), Go.Sx.SV.one (Go.Sx.SA.sc (Go.Sx.SC.ptr (2 : Nat) (0 : Nat)))), ((7 : Nat), Go.Sx.SV.one (Go.Sx.sI Go.IntKind.u64 (↑(digAt r x b y / Go.Sx.M256 % (18446744073709551616 : Nat)) : Int)))]) [Go.Sx.SO.cells (26 : Go.TypeId) [Go.Sx.SK.u (digAt r x b y)] (0 : Nat), Go.Sx.SO.cells (26 : Go.TypeId) [Go.Sx.SK.u b] (0 : Nat), Go.Sx.SO.cells (26 : Go.TypeId) [Go.Sx.SK.c (Go.Sx.SC.num Go.IntKind.u64 (0 : Int)), Go.Sx.SK.c (Go.Sx.SC.num Go.IntKind.u64 (0 : Int)), Go.Sx.SK.c (Go.Sx.SC.num Go.IntKind.u64 (0 : Int)), Go.Sx.SK.c (Go.Sx.SC.num Go.IntKind.u64 (0 : Int))] (0 : Nat)] = Bool.true) ∧ ∃ (y : Nat), y ≤ (2 : Nat) ∧ x2 = x2 ∧ x = x ∧ x3 = x3 ∧ Go.IntKind.u64.wrap (Go.Sx.limb r (3 : Nat) - ((↑(x4 / Go.Sx.M256) : Int) + if x5 < x6 then (1 : Int) else (0 : Int))) = (↑(digAt r x b y / Go.Sx.M256 % (18446744073709551616 : Nat)) : Int) ∧ (x5 + Go.Sx.M256 - x6) % Go.Sx.M256 = digAt r x b y % Go.Sx.M256 ∧ (0 : Nat) = (0 : Nat) ∧ x3 = x3 ∧ (0 : Nat) = (0 : Nat) ∧ (0 : Nat) = (0 : Nat) ∧ ∀ (y : Nat), y ≤ (2 : Nat) → (((↑(digAt r x b y / Go.Sx.M256 % (18446744073709551616 : Nat)) : Int) != (0 : Int)) = Bool.true → (Decidable.decide (Go.Sx.M256 ≤ digAt r x b y % Go.Sx.M256 + x3) = Bool.true → ∃ (y' : Nat), y' ≤ (2 : Nat) ∧ x2 = x2 ∧ x = x ∧ x3 = x3 ∧ Go.IntKind.u64.wrap ((↑(digAt r x b y / Go.Sx.M256 % (18446744073709551616 : Nat)) : Int) + (1 : Int)) = (↑(digAt r x b y' / Go.Sx.M256 % (18446744073709551616 : Nat)) : Int) ∧ (digAt r x b y + b) % Go.Sx.M256 = digAt r x b y' % Go.Sx.M256 ∧ (0 : Nat) = (0 : Nat) ∧ x3 = x3 ∧ (0 : Nat) = (0 : Nat) ∧ (0 : Nat) = (0 : Nat) ∧ y' < y) ∧ (Decidable.decide (Go.Sx.M256 ≤ digAt r x b y % Go.Sx.M256 + x3) = Bool.false → ∃ (y' : Nat), y' ≤ (2 : Nat) ∧ x2 = x2 ∧ x = x ∧ x3 = x3 ∧ (↑(digAt r x b y / Go.Sx.M256 % (18446744073709551616 : Nat)) : Int) = (↑(digAt r x b y' / Go.Sx.M256 % (18446744073709551616 : Nat)) : Int) ∧ (digAt r x b y + b) % Go.Sx.M256 = digAt r x b y' % Go.Sx.M256 ∧ (0 : Nat) = (0 : Nat) ∧ x3 = x3 ∧ (0 : Nat) = (0 : Nat) ∧ (0 : Nat) = (0 : Nat) ∧ y' < y)) ∧ (((↑(digAt r x b y / Go.Sx.M256 % (18446744073709551616 : Nat)) : Int) != (0 : Int)) = Bool.false → digAt r x b y % Go.Sx.M256 = digR r x % x3 % Go.Sx.M256 ∧ True)) := by kernel_rfl
-- END VC
-- VC vc_rest HASH 3dfc1e1ad2265348
theorem vc_rest (a b m : Nat) :
    Owes Tryz.prog cxRest [] 100 Tryz.f99 [sU a, sU b, sU m] (restG a b m) =
    (let x1 : Int := Go.Sx.limb (a * b) (3 : Nat); let x2 : Nat := a % Go.Sx.M256 * (b % Go.Sx.M256); let x3 : Nat := x2 / Go.Sx.M256; let x4 : Nat := m % Go.Sx.M256; let x5 : Int := Go.Sx.limb (a * b) (2 : Nat); let x6 : Nat := digR x3 x1 % x4; let x7 : Int := Go.Sx.limb (a * b) (1 : Nat); let x8 : Nat := digR x6 x5 % x4; let x9 : Int := Go.Sx.limb (a * b) (0 : Nat); let x10 : Nat := digR x8 x7 % x4; ((0 : Int) ≤ x1 ∧ x1 < (18446744073709551616 : Int)) ∧ x3 % Go.Sx.M256 < x4 ∧ Go.Sx.M256 ≤ (2 : Nat) * x4 ∧ ((0 : Int) ≤ x5 ∧ x5 < (18446744073709551616 : Int)) ∧ x6 % Go.Sx.M256 < x4 ∧ Go.Sx.M256 ≤ (2 : Nat) * x4 ∧ ((0 : Int) ≤ x7 ∧ x7 < (18446744073709551616 : Int)) ∧ x8 % Go.Sx.M256 < x4 ∧ Go.Sx.M256 ≤ (2 : Nat) * x4 ∧ ((0 : Int) ≤ x9 ∧ x9 < (18446744073709551616 : Int)) ∧ x10 % Go.Sx.M256 < x4 ∧ Go.Sx.M256 ≤ (2 : Nat) * x4 ∧ digR x10 x9 % x4 % Go.Sx.M256 = x2 % x4 % Go.Sx.M256 ∧ True) := by kernel_rfl
-- END VC
-- VC vc_bit HASH 135daaa6e0aef20a
theorem vc_bit (n : Int) :
    Owes Tryz.prog Cx.none [] 100 Tryz.f101 [sI .i64 n] (bitG n) =
    (let x1 : Int := Go.IntKind.i64.wrap (n.tdiv (64 : Int)); let x2 : Nat := x1.toNat; let x3 : Int := Go.IntKind.u64.wrap ((1 : Int) * (2 : Int) ^ Min.min (n.tmod (64 : Int)).toNat (64 : Nat)); let x4 : Int := if (0 : Nat) = x2 then x3 else (0 : Int); let x5 : Int := if (1 : Nat) = x2 then x3 else (0 : Int); let x6 : Int := if (2 : Nat) = x2 then x3 else (0 : Int); let x7 : Int := if (3 : Nat) = x2 then x3 else (0 : Int); (0 : Int) ≤ n.tmod (64 : Int) ∧ ((0 : Int) ≤ x1 ∧ x1 < (4 : Int)) ∧ ((0 : Int) ≤ x1 ∧ x1 < (4 : Int)) ∧ ((0 : Int) ≤ x4 ∧ x4 < (18446744073709551616 : Int)) ∧ ((0 : Int) ≤ x5 ∧ x5 < (18446744073709551616 : Int)) ∧ ((0 : Int) ≤ x6 ∧ x6 < (18446744073709551616 : Int)) ∧ ((0 : Int) ≤ x7 ∧ x7 < (18446744073709551616 : Int)) ∧ Go.Sx.join x4 x5 x6 x7 % Go.Sx.M256 = (2 : Nat) ^ n.toNat % Go.Sx.M256 ∧ True) := by kernel_rfl
-- END VC
-- VC vc_product HASH 997c2b50781fb2de
theorem vc_product (a b m : Nat) :
    Owes Tryz.prog cxProd [] 100 Tryz.f80 [sU a, sU b, sU m] (prodG a b m) =
    (let x1 : Nat := m % Go.Sx.M256; let x2 : Int := (↑((256 : Nat) - bitsN x1) : Int); let x3 : Nat := a % Go.Sx.M256; let x4 : Nat := b % Go.Sx.M256; let x5 : Nat := x3 * x4 % x1 % Go.Sx.M256; let x6 : Nat := (2 : Nat) ^ x2.toNat; let x7 : Nat := m * x6 % Go.Sx.M256; let x8 : Nat := b * x6 % Go.Sx.M256; let x9 : Int := Go.IntKind.i64.wrap ((256 : Int) - x2); ((x2 == (0 : Int)) = Bool.true → x3 < x1 ∧ x4 < x1 ∧ Go.Sx.M256 ≤ (2 : Nat) * x1 ∧ x5 = x5 ∧ True) ∧ ((x2 == (0 : Int)) = Bool.false → ((0 : Int) ≤ x2 ∧ x2 ≤ (255 : Int)) ∧ ((0 : Int) ≤ x2 ∧ x2 ≤ (255 : Int)) ∧ x3 < x7 ∧ x8 < x7 ∧ Go.Sx.M256 ≤ (2 : Nat) * x7 ∧ ((0 : Int) ≤ x9 ∧ x9 ≤ (255 : Int)) ∧ x3 * x8 % x7 % Go.Sx.M256 * ((2 : Nat) ^ x9.toNat % Go.Sx.M256) / Go.Sx.M256 % Go.Sx.M256 = x5 ∧ True)) := by kernel_rfl
-- END VC
-- VC vc_sum HASH f1890e7d34c57f46
theorem vc_sum (a b m : Nat) :
    Owes Tryz.prog cxSum [] 100 Tryz.f91 [sU a, sU b, sU m] (sumG a b m) =
    (let x1 : Nat := a % Go.Sx.M256 + b % Go.Sx.M256; let x2 : Bool := Decidable.decide (Go.Sx.M256 ≤ x1); let x3 : Nat := a + b; let x4 : Int := Go.Sx.cmpN x3 m; let x5 : Nat := x3 % Go.Sx.M256; let x6 : Nat := m % Go.Sx.M256; let x7 : Nat := x1 % x6 % Go.Sx.M256; ((!x2) = Bool.true → (!x2) = Bool.true) ∧ ((!x2) = Bool.true → (!x2) = Bool.true) ∧ ((!x2) = Bool.true → (!x2) = Bool.true) ∧ (x2 = Bool.false → (!x2) = Bool.true) ∧ ((x2 || Decidable.decide (x4 ≥ (0 : Int))) = Bool.true → (x5 + Go.Sx.M256 - x6) % Go.Sx.M256 = x7 ∧ True) ∧ ((x2 || Decidable.decide (x4 ≥ (0 : Int))) = Bool.false → x5 = x7 ∧ True)) := by kernel_rfl
-- END VC
-- VC vc_difference HASH 7180318ccb724778
theorem vc_difference (a b m : Nat) :
    Owes Tryz.prog cxSum [] 100 Tryz.f79 [sU a, sU b, sU m] (diffG a b m) =
    (let x1 : Nat := a % Go.Sx.M256; let x2 : Nat := b % Go.Sx.M256; let x3 : Nat := x1 + Go.Sx.M256 - x2; let x4 : Nat := m % Go.Sx.M256; let x5 : Nat := (x1 + x4 - x2) % x4 % Go.Sx.M256; (Decidable.decide (x1 < x2) = Bool.true → (x3 + m) % Go.Sx.M256 = x5 ∧ True) ∧ (Decidable.decide (x1 < x2) = Bool.false → x3 % Go.Sx.M256 = x5 ∧ True)) := by kernel_rfl
-- END VC

end Go.Proofs.YtbfcccoeekonlaaGreatDoor
end

section
/-
  Package field's calls, and its laws: reckoned by the kernel. (Laid by program.)
-/
namespace Go.Proofs.YtbfcccoeekonlaaGreatDoor
open Go.Sx
set_option maxRecDepth 100000
def fE (a b m : Nat) : Int := if m % M256 = 0 then 7 else if a % M256 < m % M256 ∧ b % M256 < m % M256 then 0 else 6
def faddG (a b m : Nat) : SV := .tup [sU (if fE a b m = 0 then (a % M256 + b % M256) % (m % M256) else 0), sI .i64 (fE a b m)]
def fsubG (a b m : Nat) : SV := .tup [sU (if fE a b m = 0 then (a % M256 + m % M256 - b % M256) % (m % M256) else 0), sI .i64 (fE a b m)]
def fmulG (a b m : Nat) : SV := .tup [sU (if fE a b m = 0 then a % M256 * (b % M256) % (m % M256) else 0), sI .i64 (fE a b m)]
def noC (_ _ _ : Nat) : List Prop := []
def cxFadd : Cx := [(15, specUU cmpG), (91, specUUU prodC sumG)]
def cxFsub : Cx := [(15, specUU cmpG), (79, specUUU prodC diffG)]
def cxFmul : Cx := [(15, specUU cmpG), (80, specUUU prodC prodG)]
-- VC vc_fAdd HASH ae97056197991e6f
theorem vc_fAdd (a b m : Nat) :
    Owes Tryz.prog cxFadd [] 100 Tryz.f72 [sU a, sU b, sU m] (faddG a b m) =
    (let x1 : Nat := m % Go.Sx.M256; let x2 : Nat := a % Go.Sx.M256; let x3 : Nat := b % Go.Sx.M256; let x4 : Nat := (x2 + x3) % x1; let x5 : Nat := (if fE a b m = (0 : Int) then x4 else (0 : Nat)) % Go.Sx.M256; (Go.Sx.conj [x1 == (0 : Nat)] = Bool.true → ((0 : Nat) = x5 ∧ True) ∧ (7 : Int) = fE a b m) ∧ (Go.Sx.conj [x1 == (0 : Nat)] = Bool.false → (Decidable.decide (Go.Sx.cmpN a m ≥ (0 : Int)) = Bool.true → ((0 : Nat) = x5 ∧ True) ∧ (6 : Int) = fE a b m) ∧ (Decidable.decide (Go.Sx.cmpN a m ≥ (0 : Int)) = Bool.false → (Decidable.decide (Go.Sx.cmpN b m ≥ (0 : Int)) = Bool.true → ((0 : Nat) = x5 ∧ True) ∧ (6 : Int) = fE a b m) ∧ (Decidable.decide (Go.Sx.cmpN b m ≥ (0 : Int)) = Bool.false → x2 < x1 ∧ x3 < x1 ∧ (x4 % Go.Sx.M256 = x5 ∧ True) ∧ (0 : Int) = fE a b m)))) := by kernel_rfl
-- END VC
-- VC vc_fSub HASH 0ba917dbac0c38fe
theorem vc_fSub (a b m : Nat) :
    Owes Tryz.prog cxFsub [] 100 Tryz.f54 [sU a, sU b, sU m] (fsubG a b m) =
    (let x1 : Nat := m % Go.Sx.M256; let x2 : Nat := a % Go.Sx.M256; let x3 : Nat := b % Go.Sx.M256; let x4 : Nat := (x2 + x1 - x3) % x1; let x5 : Nat := (if fE a b m = (0 : Int) then x4 else (0 : Nat)) % Go.Sx.M256; (Go.Sx.conj [x1 == (0 : Nat)] = Bool.true → ((0 : Nat) = x5 ∧ True) ∧ (7 : Int) = fE a b m) ∧ (Go.Sx.conj [x1 == (0 : Nat)] = Bool.false → (Decidable.decide (Go.Sx.cmpN a m ≥ (0 : Int)) = Bool.true → ((0 : Nat) = x5 ∧ True) ∧ (6 : Int) = fE a b m) ∧ (Decidable.decide (Go.Sx.cmpN a m ≥ (0 : Int)) = Bool.false → (Decidable.decide (Go.Sx.cmpN b m ≥ (0 : Int)) = Bool.true → ((0 : Nat) = x5 ∧ True) ∧ (6 : Int) = fE a b m) ∧ (Decidable.decide (Go.Sx.cmpN b m ≥ (0 : Int)) = Bool.false → x2 < x1 ∧ x3 < x1 ∧ (x4 % Go.Sx.M256 = x5 ∧ True) ∧ (0 : Int) = fE a b m)))) := by kernel_rfl
-- END VC
-- VC vc_fMul HASH 7e2dd8a5ef344668
theorem vc_fMul (a b m : Nat) :
    Owes Tryz.prog cxFmul [] 100 Tryz.f55 [sU a, sU b, sU m] (fmulG a b m) =
    (let x1 : Nat := m % Go.Sx.M256; let x2 : Nat := a % Go.Sx.M256; let x3 : Nat := b % Go.Sx.M256; let x4 : Nat := x2 * x3 % x1; let x5 : Nat := (if fE a b m = (0 : Int) then x4 else (0 : Nat)) % Go.Sx.M256; (Go.Sx.conj [x1 == (0 : Nat)] = Bool.true → ((0 : Nat) = x5 ∧ True) ∧ (7 : Int) = fE a b m) ∧ (Go.Sx.conj [x1 == (0 : Nat)] = Bool.false → (Decidable.decide (Go.Sx.cmpN a m ≥ (0 : Int)) = Bool.true → ((0 : Nat) = x5 ∧ True) ∧ (6 : Int) = fE a b m) ∧ (Decidable.decide (Go.Sx.cmpN a m ≥ (0 : Int)) = Bool.false → (Decidable.decide (Go.Sx.cmpN b m ≥ (0 : Int)) = Bool.true → ((0 : Nat) = x5 ∧ True) ∧ (6 : Int) = fE a b m) ∧ (Decidable.decide (Go.Sx.cmpN b m ≥ (0 : Int)) = Bool.false → x2 < x1 ∧ x3 < x1 ∧ (x4 % Go.Sx.M256 = x5 ∧ True) ∧ (0 : Int) = fE a b m)))) := by kernel_rfl
-- END VC
end Go.Proofs.YtbfcccoeekonlaaGreatDoor
end

section
/-
  Package field: powers: reckoned by the kernel. (Laid by program.)
-/
namespace Go.Proofs.YtbfcccoeekonlaaGreatDoor
open Go.Sx
set_option maxRecDepth 100000
def powC (a _ m : Nat) : List Prop := [a % M256 < m % M256]
def powG (a x m : Nat) : SV := .one (sU ((a % M256) ^ (x % M256) % (m % M256)))
def cxPow : Cx := [(80, specUUU prodC prodG), (98, specU noughtsG)]
def zeroU : List SK := [.c (.num .u64 0), .c (.num .u64 0), .c (.num .u64 0), .c (.num .u64 0)]
def invPow (a x m : Nat) : Inv where
  X := Nat
  tm j := slotsAt 23 [(0, .one (sU x)), (1, .one (.sc (.fn 114 [.p 4 0, .p 2 0, .p 0 0]))), (2, .one (.sc (.ptr 5 0))), (4, .one (sI .i64 ((j : Int) - 1)))]
  ob j := [.cells 26 [.u a] 0, .cells 26 [.u x] 0, .cells 26 [.u m] 0, .cells 26 zeroU 0, .cells 26 [.u ((a % M256) ^ (x % M256 / 2 ^ j) % (m % M256))] 0, .cells 26 [.u x] 0]
  holds j := j ≤ 256
  less j := j
def pE (a m : Nat) : Int := if m % M256 = 0 then 7 else if a % M256 < m % M256 then 0 else 6
def fpowG (a x m : Nat) : SV := .tup [sU (if pE a m = 0 then (a % M256) ^ (x % M256) % (m % M256) else 0), sI .i64 (pE a m)]
def cxFpow : Cx := [(15, specUU cmpG), (106, specUUU powC powG)]
-- VC vc_power HASH b1eab28b9720fc76
theorem vc_power (a x m : Nat) :
    Owes Tryz.prog cxPow [((113 + 1) * 100000 + 2, .inv (invPow a x m))] 100 Tryz.f106 [sU a, sU x, sU m] (powG a x m) =
    (let x1 : Nat := m % Go.Sx.M256; let x2 : Nat := a % Go.Sx.M256; let x3 : Nat := x % Go.Sx.M256; let x4 : Nat := x2 ^ x3 % x1 % Go.Sx.M256; (Go.Sx.conj [(1 : Nat) == x1] = Bool.true → (0 : Nat) = x4 ∧ True) ∧ (Go.Sx.conj [(1 : Nat) == x1] = Bool.false → (∀ (y : Nat), Go.Sx.closedB (Go.Sx.slotsAt (23 : Nat) [((0 : Nat), Go.Sx.SV.one (Go.Sx.sU x)), ((1 : Nat), Go.Sx.SV.one (Go.Sx.SA.sc (Go.Sx.SC.fn (114 : Nat) [Go.Sx.PV.p (4 : Nat) (0 : Nat), Go.Sx.PV.p (2 : Nat) (0 : Nat), Go.Sx.PV.p (0 : Nat) (0 : Nat)]))), ((2 : Nat), Go.Sx.SV.one (Go.Sx.SA.sc (Go.Sx.SC.ptr (5 : Nat) (0 : Nat)))), ((4 : Nat), Go.Sx.SV.one (Go.Sx.sI Go.IntKind.i64 ((↑y : Int) - (1 : Int))))]) [Go.Sx.SO.cells (26 : Go.TypeId) [Go.Sx.SK.u a] (0 : Nat), Go.Sx.SO.cells (26 : Go.TypeId) [Go.Sx.SK.u x] (0 : Nat), Go.Sx.SO.cells (26 : Go.TypeId) [Go.Sx.SK.u m] (0 : Nat), Go.Sx.SO.cells (26 : Go.TypeId) zeroU (0 : Nat), Go.Sx.SO.cells (26 : Go.TypeId) [Go.Sx.SK.u (x2 ^ (x3 / (2 : Nat) ^ y) % x1)] (0 : Nat), Go.Sx.SO.cells (26 : Go.TypeId) [Go.Sx.SK.u x] (0 : Nat)] = Bool.true) ∧ ∃ (y : Nat), y ≤ (256 : Nat) ∧ x3 = x3 ∧ ((114 : Nat) = (114 : Nat) ∧ [Go.Sx.PV.p (match Bool.false with | Bool.true => (1 : Nat) | Bool.false => ([] ++ [Go.Sx.SO.cells (26 : Nat) (Go.Sx.toKs (Go.Sx.sU a)) (0 : Nat)] ++ [Go.Sx.SO.cells (26 : Nat) (Go.Sx.toKs (Go.Sx.sU x)) (0 : Nat)] ++ [Go.Sx.SO.cells (26 : Nat) (Go.Sx.toKs (Go.Sx.sU m)) (0 : Nat)] ++ [Go.Sx.SO.cells (26 : Nat) (List.map Go.Sx.litC (Go.Value.agg #[Go.Value.int Go.IntKind.u64 (0 : Int), Go.Value.int Go.IntKind.u64 (0 : Int), Go.Value.int Go.IntKind.u64 (0 : Int), Go.Value.int Go.IntKind.u64 (0 : Int)]).cells.toList) (0 : Nat)]).length) (0 : Nat), Go.Sx.PV.p (match Bool.false with | Bool.true => (2 : Nat) | Bool.false => ([] ++ [Go.Sx.SO.cells (26 : Nat) (Go.Sx.toKs (Go.Sx.sU a)) (0 : Nat)] ++ [Go.Sx.SO.cells (26 : Nat) (Go.Sx.toKs (Go.Sx.sU x)) (0 : Nat)]).length) (0 : Nat), Go.Sx.PV.p (0 : Nat) (0 : Nat)] = [Go.Sx.PV.p (4 : Nat) (0 : Nat), Go.Sx.PV.p (2 : Nat) (0 : Nat), Go.Sx.PV.p (0 : Nat) (0 : Nat)]) ∧ Go.IntKind.i64.wrap ((255 : Int) - (↑((256 : Nat) - bitsN x3) : Int)) = (↑y : Int) - (1 : Int) ∧ x2 = x2 ∧ (0 : Nat) = (0 : Nat) ∧ x3 = x3 ∧ (0 : Nat) = (0 : Nat) ∧ x1 = x1 ∧ (0 : Nat) = (0 : Nat) ∧ (0 : Nat) = (0 : Nat) ∧ ((1 : Nat) = x2 ^ (x3 / (2 : Nat) ^ y) % x1 % Go.Sx.M256 ∧ True) ∧ (0 : Nat) = (0 : Nat) ∧ x3 = x3 ∧ (0 : Nat) = (0 : Nat) ∧ ∀ (y : Nat), y ≤ (256 : Nat) → (Decidable.decide ((↑y : Int) - (1 : Int) ≥ (0 : Int)) = Bool.true → ((0 : Int) ≤ Go.IntKind.i64.wrap (((↑y : Int) - (1 : Int)).tdiv (64 : Int)) ∧ Go.IntKind.i64.wrap (((↑y : Int) - (1 : Int)).tdiv (64 : Int)) < (4 : Int)) ∧ ((0 : Int) ≤ Go.IntKind.i64.wrap (((↑y : Int) - (1 : Int)).tdiv (64 : Int)) ∧ Go.IntKind.i64.wrap (((↑y : Int) - (1 : Int)).tdiv (64 : Int)) < (4 : Int)) ∧ (0 : Int) ≤ ((↑y : Int) - (1 : Int)).tmod (64 : Int) ∧ x2 ^ (x3 / (2 : Nat) ^ y) % x1 % Go.Sx.M256 < x1 ∧ x2 ^ (x3 / (2 : Nat) ^ y) % x1 % Go.Sx.M256 < x1 ∧ ((Go.IntKind.u64.wrap (↑(BitVec.ofInt (64 : Nat) ((Go.Sx.limb x (Go.IntKind.i64.wrap (((↑y : Int) - (1 : Int)).tdiv (64 : Int))).toNat).fdiv ((2 : Int) ^ Min.min (((↑y : Int) - (1 : Int)).tmod (64 : Int)).toNat (64 : Nat))) &&& BitVec.ofInt (64 : Nat) (1 : Int)).toNat : Int) == (1 : Int)) = Bool.true → x2 ^ (x3 / (2 : Nat) ^ y) % x1 % Go.Sx.M256 * (x2 ^ (x3 / (2 : Nat) ^ y) % x1 % Go.Sx.M256) % x1 % Go.Sx.M256 < x1 ∧ x2 < x1 ∧ ∃ (y' : Nat), y' ≤ (256 : Nat) ∧ x3 = x3 ∧ ((114 : Nat) = (114 : Nat) ∧ [Go.Sx.PV.p (4 : Nat) (0 : Nat), Go.Sx.PV.p (2 : Nat) (0 : Nat), Go.Sx.PV.p (0 : Nat) (0 : Nat)] = [Go.Sx.PV.p (4 : Nat) (0 : Nat), Go.Sx.PV.p (2 : Nat) (0 : Nat), Go.Sx.PV.p (0 : Nat) (0 : Nat)]) ∧ Go.IntKind.i64.wrap ((↑y : Int) - (1 : Int) - (1 : Int)) = (↑y' : Int) - (1 : Int) ∧ x2 = x2 ∧ (0 : Nat) = (0 : Nat) ∧ x3 = x3 ∧ (0 : Nat) = (0 : Nat) ∧ x1 = x1 ∧ (0 : Nat) = (0 : Nat) ∧ (0 : Nat) = (0 : Nat) ∧ x2 ^ (x3 / (2 : Nat) ^ y) % x1 % Go.Sx.M256 * (x2 ^ (x3 / (2 : Nat) ^ y) % x1 % Go.Sx.M256) % x1 % Go.Sx.M256 * x2 % x1 % Go.Sx.M256 = x2 ^ (x3 / (2 : Nat) ^ y') % x1 % Go.Sx.M256 ∧ (0 : Nat) = (0 : Nat) ∧ x3 = x3 ∧ (0 : Nat) = (0 : Nat) ∧ y' < y) ∧ ((Go.IntKind.u64.wrap (↑(BitVec.ofInt (64 : Nat) ((Go.Sx.limb x (Go.IntKind.i64.wrap (((↑y : Int) - (1 : Int)).tdiv (64 : Int))).toNat).fdiv ((2 : Int) ^ Min.min (((↑y : Int) - (1 : Int)).tmod (64 : Int)).toNat (64 : Nat))) &&& BitVec.ofInt (64 : Nat) (1 : Int)).toNat : Int) == (1 : Int)) = Bool.false → ∃ (y' : Nat), y' ≤ (256 : Nat) ∧ x3 = x3 ∧ ((114 : Nat) = (114 : Nat) ∧ [Go.Sx.PV.p (4 : Nat) (0 : Nat), Go.Sx.PV.p (2 : Nat) (0 : Nat), Go.Sx.PV.p (0 : Nat) (0 : Nat)] = [Go.Sx.PV.p (4 : Nat) (0 : Nat), Go.Sx.PV.p (2 : Nat) (0 : Nat), Go.Sx.PV.p (0 : Nat) (0 : Nat)]) ∧ Go.IntKind.i64.wrap ((↑y : Int) - (1 : Int) - (1 : Int)) = (↑y' : Int) - (1 : Int) ∧ x2 = x2 ∧ (0 : Nat) = (0 : Nat) ∧ x3 = x3 ∧ (0 : Nat) = (0 : Nat) ∧ x1 = x1 ∧ (0 : Nat) = (0 : Nat) ∧ (0 : Nat) = (0 : Nat) ∧ x2 ^ (x3 / (2 : Nat) ^ y) % x1 % Go.Sx.M256 * (x2 ^ (x3 / (2 : Nat) ^ y) % x1 % Go.Sx.M256) % x1 % Go.Sx.M256 = x2 ^ (x3 / (2 : Nat) ^ y') % x1 % Go.Sx.M256 ∧ (0 : Nat) = (0 : Nat) ∧ x3 = x3 ∧ (0 : Nat) = (0 : Nat) ∧ y' < y)) ∧ (Decidable.decide ((↑y : Int) - (1 : Int) ≥ (0 : Int)) = Bool.false → x2 ^ (x3 / (2 : Nat) ^ y) % x1 % Go.Sx.M256 = x4 ∧ True))) := by kernel_rfl
-- END VC
-- VC vc_fPow HASH 63173778097e31b1
theorem vc_fPow (a x m : Nat) :
    Owes Tryz.prog cxFpow [] 100 Tryz.f93 [sU a, sU x, sU m] (fpowG a x m) =
    (let x1 : Nat := m % Go.Sx.M256; let x2 : Nat := a % Go.Sx.M256; let x3 : Nat := x2 ^ (x % Go.Sx.M256) % x1; let x4 : Nat := (if pE a m = (0 : Int) then x3 else (0 : Nat)) % Go.Sx.M256; (Go.Sx.conj [x1 == (0 : Nat)] = Bool.true → ((0 : Nat) = x4 ∧ True) ∧ (7 : Int) = pE a m) ∧ (Go.Sx.conj [x1 == (0 : Nat)] = Bool.false → (Decidable.decide (Go.Sx.cmpN a m ≥ (0 : Int)) = Bool.true → ((0 : Nat) = x4 ∧ True) ∧ (6 : Int) = pE a m) ∧ (Decidable.decide (Go.Sx.cmpN a m ≥ (0 : Int)) = Bool.false → x2 < x1 ∧ (x3 % Go.Sx.M256 = x4 ∧ True) ∧ (0 : Int) = pE a m))) := by kernel_rfl
-- END VC
end Go.Proofs.YtbfcccoeekonlaaGreatDoor
end

section
/-
  Cards for arguments of any shape: structs of numbers and bits, a struct with an address that nobody follows.
-/
namespace Go.Sx
open Go.RowKit

/-- What a part of an argument is: a number of 256 bits, a bit; and what it holds. -/
inductive PK where
  | u | b | i
  | y (n : Nat)
inductive At where
  | u (n : Nat)
  | b (x : Bool)
  | i (n : Int)
  | y (n : Nat) (g : Nat → Int)
/-- What an argument is: a number and an address; a struct; a whole number; a bit. -/
inductive AP where
  | hand
  | str (ps : List PK)
  | int (k : IntKind)
  | bit

def asBit : SC → Option Bool
  | .bit x => some x
  | .val (.bool x) => some x
  | _ => none
theorem asBit_sound {s : SC} {x : Bool} (h : asBit s = some x) (ρ : Rho) : s.conc ρ = .bool x := by
  unfold asBit at h
  split at h
  · cases h; rfl
  · cases h; rfl
  · cases h
def takeU : List SK → Option (List Prop × Nat × List SK)
  | .u n :: r => some ([], n, r)
  | .c a :: .c b :: .c c :: .c d :: r => match asU4 [a, b, c, d] with
    | some (ps, n) => some (ps, n, r)
    | none => none
  | _ => none
theorem takeU_sound {ks r : List SK} {ps : List Prop} {n : Nat} (h : takeU ks = some (ps, n, r)) (hp : Ok ps) (ρ : Rho) : concs ρ ks = concs ρ (.u n :: r) := by
  unfold takeU at h
  split at h
  · cases h; rfl
  · rename_i a b c d r'
    split at h
    · rename_i ps' n' h4
      simp only [Option.some.injEq, Prod.mk.injEq] at h
      obtain ⟨rfl, rfl, rfl⟩ := h
      have := asU4_sound h4 hp ρ
      simp only [U, List.map_cons, List.map_nil, Value.agg.injEq] at this
      have := congrArg Array.toList this
      simp only [List.cons.injEq, and_true] at this
      obtain ⟨e1, e2, e3, e4⟩ := this
      simp [concs, flat, SK.cells, e1, e2, e3, e4, show ∀ v, (SC.val v).conc ρ = v from fun _ => rfl]
    · cases h
  · cases h
def asKs : List PK → List SK → Option (List Prop × List At)
  | [], [] => some ([], [])
  | .u :: ps, ks => match takeU ks with
    | some (p, n, r) => match asKs ps r with
      | some (q, l) => some (p ++ q, .u n :: l)
      | none => none
    | none => none
  | .b :: ps, .c s :: r => match asBit s with
    | some x => match asKs ps r with
      | some (q, l) => some (q, .b x :: l)
      | none => none
    | none => none
  | .i :: ps, .c s :: r => match asI (.sc s) with
    | some (.i64, x) => match asKs ps r with
      | some (q, l) => some (q, .i x :: l)
      | none => none
    | _ => none
  | [.y n], ks => match asBy n (.agg ks) with
    | some g => some ([], [.y n g])
    | none => none
  | _, _ => none
def At.sk : At → SK
  | .u n => .u n
  | .b x => .c (.val (.bool x))
  | .i n => .c (.val (.int .i64 n))
  | .y n g => .f .u8 n g
theorem concs_app (ρ : Rho) (k : SK) {xs ys : List SK} (h : concs ρ xs = concs ρ ys) : concs ρ (k :: xs) = concs ρ (k :: ys) := by
  rw [concs_cons ρ k xs, concs_cons ρ k ys, h]
theorem asKs_sound (ρ : Rho) : ∀ {ps : List PK} {ks : List SK} {q : List Prop} {l : List At}, asKs ps ks = some (q, l) → Ok q → concs ρ ks = concs ρ (l.map At.sk)
  | [], [], q, l, h, _ => by simp only [asKs, Option.some.injEq, Prod.mk.injEq] at h; obtain ⟨_, rfl⟩ := h; rfl
  | [], _ :: _, q, l, h, _ => by simp [asKs] at h
  | .u :: ps, ks, q, l, h, hq => by
    simp only [asKs] at h
    split at h
    · rename_i p n r hu
      split at h
      · rename_i q' l' hr
        simp only [Option.some.injEq, Prod.mk.injEq] at h
        obtain ⟨rfl, rfl⟩ := h
        obtain ⟨h1, h2⟩ := Ok.append.1 hq
        rw [takeU_sound hu h1 ρ]
        exact concs_app ρ _ (asKs_sound ρ hr h2)
      · cases h
    · cases h
  | .i :: ps, [], q, l, h, _ => by simp [asKs] at h
  | .i :: ps, .u _ :: _, q, l, h, _ => by simp [asKs] at h
  | .i :: ps, .f _ _ _ :: _, q, l, h, _ => by simp [asKs] at h
  | .i :: ps, .c s :: r, q, l, h, hq => by
    simp only [asKs] at h
    split at h
    · rename_i x hx
      split at h
      · rename_i q' l' hr
        simp only [Option.some.injEq, Prod.mk.injEq] at h
        obtain ⟨rfl, rfl⟩ := h
        have ih := asKs_sound ρ hr hq
        rw [List.map_cons, concs_cons, concs_cons ρ (At.sk (.i x)), ih]
        have e : s.conc ρ = .int .i64 x := asI_sound hx ρ
        simp [concs, flat, SK.cells, At.sk, e, show ∀ v, (SC.val v).conc ρ = v from fun _ => rfl]
      · cases h
    · cases h
  | .y n :: p :: ps, ks, q, l, h, _ => by simp [asKs] at h
  | [.y n], ks, q, l, h, hq => by
    simp only [asKs] at h
    split at h
    · rename_i g hg
      simp only [Option.some.injEq, Prod.mk.injEq] at h
      obtain ⟨rfl, rfl⟩ := h
      have := asBy_sound hg ρ
      simp only [SA.conc, Value.agg.injEq] at this
      have := congrArg Array.toList this
      simpa [At.sk] using this
    · cases h
  | .b :: ps, [], q, l, h, _ => by simp [asKs] at h
  | .b :: ps, .u _ :: _, q, l, h, _ => by simp [asKs] at h
  | .b :: ps, .f _ _ _ :: _, q, l, h, _ => by simp [asKs] at h
  | .b :: ps, .c s :: r, q, l, h, hq => by
    simp only [asKs] at h
    split at h
    · rename_i x hx
      split at h
      · rename_i q' l' hr
        simp only [Option.some.injEq, Prod.mk.injEq] at h
        obtain ⟨rfl, rfl⟩ := h
        have ih := asKs_sound ρ hr hq
        rw [List.map_cons, concs_cons, concs_cons ρ (At.sk (.b x)), ih]
        have e := asBit_sound hx ρ
        simp [concs, flat, SK.cells, At.sk, e, show ∀ v, (SC.val v).conc ρ = v from fun _ => rfl]
      · cases h
    · cases h

def isPtr : SC → Bool
  | .ptr _ _ => true
  | .val (.pointer _) => true
  | _ => false
def asArg : AP → SA → Option (List Prop × List At)
  | .hand, .agg ks => match takeU ks with
    | some (p, n, [.c s]) => if isPtr s then some (p, [.u n]) else none
    | _ => none
  | .str ps, .agg ks => asKs ps ks
  | .int k, x => match asI x with
    | some (k', n) => if k' = k then some ([], [.i n]) else none
    | none => none
  | .bit, .sc s => match asBit s with
    | some x => some ([], [.b x])
    | none => none
  | _, _ => none
/-- An argument that stands for others of its shape; v: the address. -/
def mkArg : AP → List At → Option Addr → SA
  | .hand, [.u n], v => .agg [.u n, .c (.val (.pointer v))]
  | .str _, l, _ => .agg (l.map At.sk)
  | .int k, [.i n], _ => sI k n
  | .bit, [.b x], _ => sB x
  | _, _, _ => .agg []
theorem asArg_sound {ap : AP} {x : SA} {q : List Prop} {l : List At} (h : asArg ap x = some (q, l)) (hq : Ok q) (ρ : Rho) : ∃ v, x.conc ρ = (mkArg ap l v).conc ρ := by
  unfold asArg at h
  split at h
  · rename_i ks
    split at h
    · rename_i p n s hu
      split at h
      · rename_i hs
        simp only [Option.some.injEq, Prod.mk.injEq] at h
        obtain ⟨rfl, rfl⟩ := h
        obtain ⟨v, hv⟩ : ∃ v, s.conc ρ = .pointer v := by
          unfold isPtr at hs
          split at hs
          · exact ⟨_, rfl⟩
          · exact ⟨_, rfl⟩
          · cases hs
        refine ⟨v, ?_⟩
        simp only [SA.conc, mkArg, takeU_sound hu hq ρ]
        simp [concs, flat, SK.cells, hv, show ∀ v, (SC.val v).conc ρ = v from fun _ => rfl]
      · cases h
    · cases h
  · rename_i ps ks
    exact ⟨none, by simp only [SA.conc, mkArg, asKs_sound ρ h hq]⟩
  · rename_i k x'
    split at h
    · rename_i k' n hi
      split at h
      · rename_i hk
        subst hk
        simp only [Option.some.injEq, Prod.mk.injEq] at h
        obtain ⟨rfl, rfl⟩ := h
        exact ⟨none, asI_canon hi ρ⟩
      · cases h
    · cases h
  · split at h
    · rename_i b hb
      simp only [Option.some.injEq, Prod.mk.injEq] at h
      obtain ⟨rfl, rfl⟩ := h
      exact ⟨none, asBit_sound hb ρ⟩
    · cases h
  · cases h
theorem mkArg_bnd (ap : AP) (l : List At) (v : Option Addr) : (mkArg ap l v).bnd none0 := by
  unfold mkArg
  split
  · intro k hk
    simp only [List.mem_cons, List.not_mem_nil, or_false] at hk
    rcases hk with rfl | rfl <;> trivial
  · intro k hk
    simp only [List.mem_map] at hk
    obtain ⟨a, _, rfl⟩ := hk
    cases a <;> trivial
  · trivial
  · trivial
  · intro k hk
    simp at hk
def asArgs : List AP → List SA → Option (List Prop × List (List At))
  | [], [] => some ([], [])
  | ap :: sh, x :: r => match asArg ap x with
    | some (p, l) => match asArgs sh r with
      | some (q, ls) => some (p ++ q, l :: ls)
      | none => none
    | none => none
  | _, _ => none
def mkArgs : List AP → List (List At) → List (Option Addr) → List SA
  | ap :: sh, l :: ls, vs => mkArg ap l (vs.headD none) :: mkArgs sh ls vs.tail
  | _, _, _ => []
theorem asArgs_sound (ρ : Rho) : ∀ {sh : List AP} {xs : List SA} {q : List Prop} {ls : List (List At)}, asArgs sh xs = some (q, ls) → Ok q → ∃ vs, xs.map (SA.conc ρ) = (mkArgs sh ls vs).map (SA.conc ρ)
  | [], [], q, ls, h, _ => ⟨[], by simp only [asArgs, Option.some.injEq, Prod.mk.injEq] at h; obtain ⟨_, rfl⟩ := h; rfl⟩
  | [], _ :: _, q, ls, h, _ => by simp [asArgs] at h
  | _ :: _, [], q, ls, h, _ => by simp [asArgs] at h
  | ap :: sh, x :: r, q, ls, h, hq => by
    simp only [asArgs] at h
    split at h
    · rename_i p l hx
      split at h
      · rename_i q' l' hr
        simp only [Option.some.injEq, Prod.mk.injEq] at h
        obtain ⟨rfl, rfl⟩ := h
        obtain ⟨h1, h2⟩ := Ok.append.1 hq
        obtain ⟨v, hv⟩ := asArg_sound hx h1 ρ
        obtain ⟨vs, hvs⟩ := asArgs_sound ρ hr h2
        exact ⟨v :: vs, by simp only [mkArgs, List.map_cons, List.headD_cons, List.tail_cons, hv, hvs]⟩
      · cases h
    · cases h
theorem mkArgs_bnd : ∀ (sh : List AP) (ls : List (List At)) (vs : List (Option Addr)), ∀ x ∈ mkArgs sh ls vs, x.bnd none0
  | [], _, _, x, h => by simp [mkArgs] at h
  | _ :: _, [], _, x, h => by simp [mkArgs] at h
  | ap :: sh, l :: ls, vs, x, h => by
    simp only [mkArgs, List.mem_cons] at h
    rcases h with rfl | h
    · exact mkArg_bnd _ _ _
    · exact mkArgs_bnd sh ls _ x h

/-- A card for arguments of such shapes, under a condition. -/
def specA (sh : List AP) (c : List (List At) → List Prop) (g : List (List At) → SV) : FSpec := fun args =>
  match asArgs sh args with
  | some (p, ls) => some (p ++ c ls, g ls)
  | none => none
theorem FnOK_A {P : Program} {cx : Cx} (hcx : CxOK P cx) {sh : List AP} {c : List (List At) → List Prop} {g : List (List At) → SV} {iv : List (List At) → List (Nat × Hint)} {N : Nat} {f : Nat} {fn : Func} (hf : P.funcs[f]? = some fn) (hb : fn.body.isSome = true) (hn : (fn.name == "runtime.NumGoroutine") = false) (hg : ∀ ls, (g ls).bnd none0)
    (h : ∀ ls vs, Ok (c ls) → Owes P cx (iv ls) N fn (mkArgs sh ls vs) (g ls)) : FnOKg P cx.gl f (specA sh c g) := by
  refine FnOK_of hf hb hn fun args ps sv hs hp => ?_
  unfold specA at hs
  split at hs
  · rename_i p ls ha
    simp only [Option.some.injEq, Prod.mk.injEq] at hs
    obtain ⟨rfl, rfl⟩ := hs
    obtain ⟨o1, o2⟩ := Ok.append.1 hp
    refine ⟨hg ls, fun ρ w hzz hgg _ => ?_⟩
    obtain ⟨vs, hv⟩ := asArgs_sound ρ ha o1
    rw [hv]
    refine (calls_of_owes0 hcx hf hb (mkArgs_bnd sh ls vs) (h ls vs o2) ρ w hzz hgg).mono ?_
    rintro e w' ⟨v, rfl, ⟨ρ', hr⟩, hbl⟩
    exact ⟨v, rfl, rep_none0 (hg ls) hr, hbl⟩
  · cases hs
/-- The same, where the cards beneath are picked by the arguments. -/
theorem FnOK_AX {P : Program} {gl : Globs} {cx : List (List At) → Cx} {sh : List AP} {c : List (List At) → List Prop} (hcx : ∀ ls, Ok (c ls) → CxOK P (cx ls)) (hgl : ∀ ls, (cx ls).gl = gl) {g : List (List At) → SV} {iv : List (List At) → List (Nat × Hint)} {N : Nat} {f : Nat} {fn : Func} (hf : P.funcs[f]? = some fn) (hb : fn.body.isSome = true) (hn : (fn.name == "runtime.NumGoroutine") = false) (hg : ∀ ls, (g ls).bnd none0)
    (h : ∀ ls vs, Ok (c ls) → Owes P (cx ls) (iv ls) N fn (mkArgs sh ls vs) (g ls)) : FnOKg P gl f (specA sh c g) := by
  refine FnOK_of hf hb hn fun args ps sv hs hp => ?_
  unfold specA at hs
  split at hs
  · rename_i p ls ha
    simp only [Option.some.injEq, Prod.mk.injEq] at hs
    obtain ⟨rfl, rfl⟩ := hs
    obtain ⟨o1, o2⟩ := Ok.append.1 hp
    refine ⟨hg ls, fun ρ w hzz hgg _ => ?_⟩
    obtain ⟨vs, hv⟩ := asArgs_sound ρ ha o1
    rw [hv]
    refine (calls_of_owes0 (hcx ls o2) hf hb (mkArgs_bnd sh ls vs) (h ls vs o2) ρ w hzz (by rw [hgl]; exact hgg)).mono ?_
    rintro e w' ⟨v, rfl, ⟨ρ', hr⟩, hbl⟩
    exact ⟨v, rfl, rep_none0 (hg ls) hr, hbl⟩
  · cases hs
end Go.Sx
end

section
/-
  Euclid's way, and several of its steps told by the highest bits: numbers alone.
-/
namespace Go.Sx

/-- Euclid's steps: what is left, and how often a number goes into it. -/
def eu : Nat → Nat → Nat → Int → Int → Nat × Int
  | 0, r0, _, s0, _ => (r0, s0)
  | n + 1, r0, r1, s0, s1 => if r1 = 0 then (r0, s0) else eu n r1 (r0 % r1) s1 (s0 - ((r0 / r1 : Nat) : Int) * s1)
theorem eu_more : ∀ (n k r0 r1 : Nat) (s0 s1 : Int), r1 ≤ n → r1 ≤ k → eu n r0 r1 s0 s1 = eu k r0 r1 s0 s1
  | 0, 0, _, _, _, _, _, _ => rfl
  | 0, k + 1, r0, r1, s0, s1, h, _ => by
    have : r1 = 0 := by omega
    simp only [eu, if_pos this]
  | n + 1, 0, r0, r1, s0, s1, _, h => by
    have : r1 = 0 := by omega
    simp only [eu, if_pos this]
  | n + 1, k + 1, r0, r1, s0, s1, h, h' => by
    simp only [eu]
    by_cases e : r1 = 0
    · rw [if_pos e, if_pos e]
    · have := Nat.mod_lt r0 (Nat.pos_of_ne_zero e)
      rw [if_neg e, if_neg e, eu_more n k _ _ _ _ (by omega) (by omega)]
def euE (r0 r1 : Nat) (s0 s1 : Int) : Nat × Int := eu r1 r0 r1 s0 s1
theorem euE_zero (r0 : Nat) (s0 s1 : Int) : euE r0 0 s0 s1 = (r0, s0) := rfl
theorem euE_step {r0 r1 : Nat} (h : r1 ≠ 0) (s0 s1 : Int) : euE r0 r1 s0 s1 = euE r1 (r0 % r1) s1 (s0 - ((r0 / r1 : Nat) : Int) * s1) := by
  unfold euE
  obtain ⟨k, rfl⟩ : ∃ k, r1 = k + 1 := ⟨r1 - 1, by omega⟩
  rw [eu, if_neg h]
  have : r0 % (k + 1) < k + 1 := Nat.mod_lt r0 (Nat.succ_pos k)
  exact eu_more _ _ _ _ _ _ (by omega) (Nat.le_refl _)
theorem eu_gcd : ∀ (n r0 r1 : Nat) (s0 s1 : Int), r1 ≤ n → (eu n r0 r1 s0 s1).1 = Nat.gcd r1 r0
  | 0, r0, r1, s0, s1, h => by
    have : r1 = 0 := by omega
    subst this
    simp [eu]
  | n + 1, r0, r1, s0, s1, h => by
    simp only [eu]
    by_cases e : r1 = 0
    · subst e
      simp
    · have := Nat.mod_lt r0 (Nat.pos_of_ne_zero e)
      rw [if_neg e, eu_gcd n _ _ _ _ (by omega), Nat.gcd_rec r1 r0]
theorem euE_gcd (r0 r1 : Nat) (s0 s1 : Int) : (euE r0 r1 s0 s1).1 = Nat.gcd r1 r0 := eu_gcd _ _ _ _ _ (Nat.le_refl _)

/-- What holds at each of Euclid's steps. -/
structure EuK (m a r0 r1 : Nat) (s0 s1 : Int) : Prop where
  lt : r1 < r0
  d0 : (m : Int) ∣ (a : Int) * s0 - r0
  d1 : (m : Int) ∣ (a : Int) * s1 - r1
  sg : (s0 ≤ 0 ∧ 0 ≤ s1 ∧ (r0 : Int) * s1 - (r1 : Int) * s0 = m) ∨ (0 ≤ s0 ∧ s1 ≤ 0 ∧ (r1 : Int) * s0 - (r0 : Int) * s1 = m)
  le : s0.natAbs ≤ s1.natAbs
  tw : r1 = 0 → 2 * s0.natAbs ≤ s1.natAbs
theorem EuK.start {m a : Nat} (h : a < m) : EuK m a m a 0 1 where
  lt := h
  d0 := ⟨-1, by omega⟩
  d1 := ⟨0, by omega⟩
  sg := .inl ⟨by omega, by omega, by omega⟩
  le := by decide
  tw := fun _ => by decide
theorem EuK.step {m a r0 r1 : Nat} {s0 s1 : Int} (k : EuK m a r0 r1 s0 s1) (h : r1 ≠ 0) : EuK m a r1 (r0 % r1) s1 (s0 - ((r0 / r1 : Nat) : Int) * s1) := by
  have hr := Nat.div_add_mod r0 r1
  have hlt := Nat.mod_lt r0 (Nat.pos_of_ne_zero h)
  have hq : 1 ≤ r0 / r1 := by
    rw [Nat.le_div_iff_mul_le (Nat.pos_of_ne_zero h)]
    have := k.lt
    omega
  have hq2 : r0 % r1 = 0 → 2 ≤ r0 / r1 := by
    intro e
    have h1 := k.lt
    rcases Nat.lt_or_ge (r0 / r1) 2 with g | g
    · have : r0 / r1 = 1 := by omega
      rw [this, e] at hr
      omega
    · exact g
  have e0 : (r0 : Int) = (r1 : Int) * ((r0 / r1 : Nat) : Int) + ((r0 % r1 : Nat) : Int) := by exact_mod_cast hr.symm
  generalize r0 / r1 = q at *
  generalize r0 % r1 = r2 at *
  have hab : s0.natAbs ≤ s1.natAbs := k.le
  have hsg := k.sg
  have hz : ∀ t : Nat, t ≤ q → ∃ z : Int, (q : Int) * s1 = z ∧ (0 ≤ s1 → (t : Int) * s1 ≤ z) ∧ (s1 ≤ 0 → z ≤ (t : Int) * s1) := by
    intro t ht
    refine ⟨_, rfl, fun g => Int.mul_le_mul_of_nonneg_right (by omega) g, fun g => ?_⟩
    have := Int.mul_le_mul_of_nonneg_right (show (t : Int) ≤ q by omega) (show 0 ≤ -s1 by omega)
    rw [Int.mul_neg, Int.mul_neg] at this
    omega
  refine ⟨hlt, k.d1, ?_, ?_, ?_, ?_⟩
  · obtain ⟨u, hu⟩ := k.d0
    obtain ⟨v, hv⟩ := k.d1
    refine ⟨u - q * v, ?_⟩
    rw [Int.mul_sub (m : Int), ← Int.mul_assoc (m : Int), Int.mul_comm (m : Int) q, Int.mul_assoc (q : Int), ← hu, ← hv]
    grind
  · rcases hsg with ⟨g1, g2, g3⟩ | ⟨g1, g2, g3⟩
    · refine .inr ⟨g2, ?_, by grind⟩
      obtain ⟨z, hz1, hz2, _⟩ := hz 1 hq
      have := hz2 g2
      omega
    · refine .inl ⟨g2, ?_, by grind⟩
      obtain ⟨z, hz1, _, hz3⟩ := hz 1 hq
      have := hz3 g2
      omega
  · obtain ⟨z, hz1, hz2, hz3⟩ := hz 1 hq
    rw [hz1]
    rcases hsg with ⟨g1, g2, g3⟩ | ⟨g1, g2, g3⟩
    · have := hz2 g2; omega
    · have := hz3 g2; omega
  · intro e
    obtain ⟨z, hz1, hz2, hz3⟩ := hz 2 (hq2 e)
    rw [hz1]
    rcases hsg with ⟨g1, g2, g3⟩ | ⟨g1, g2, g3⟩
    · have := hz2 g2; omega
    · have := hz3 g2; omega
theorem EuK.half {m a r0 : Nat} {s0 s1 : Int} (k : EuK m a r0 0 s0 s1) : 2 * s0.natAbs ≤ m := by
  have h1 := k.tw rfl
  have h2 := k.lt
  have h3 : r0 * s1.natAbs = m := by
    rcases k.sg with ⟨_, g, e⟩ | ⟨_, g, e⟩
    · obtain ⟨n, rfl⟩ := Int.eq_ofNat_of_zero_le g
      simp only [Int.natAbs_natCast]
      have : ((r0 * n : Nat) : Int) = m := by rw [Int.natCast_mul]; simpa using e
      exact_mod_cast this
    · obtain ⟨n, hn⟩ := Int.eq_ofNat_of_zero_le (show 0 ≤ -s1 by omega)
      obtain rfl : s1 = -(n : Int) := by omega
      simp only [Int.natAbs_neg, Int.natAbs_natCast]
      have : ((r0 * n : Nat) : Int) = m := by rw [Int.natCast_mul]; rw [Int.mul_neg] at e; omega
      exact_mod_cast this
  have : 1 * s1.natAbs ≤ r0 * s1.natAbs := Nat.mul_le_mul_right _ h2
  omega

/-- Several steps at once. -/
structure Goes (r0 r1 R0 R1 : Nat) (a b c d : Int) : Prop where
  e0 : (R0 : Int) = a * r0 + b * r1
  e1 : (R1 : Int) = c * r0 + d * r1
  gE : ∀ s0 s1, euE r0 r1 s0 s1 = euE R0 R1 (a * s0 + b * s1) (c * s0 + d * s1)
  gK : ∀ (m x : Nat) (s0 s1 : Int), EuK m x r0 r1 s0 s1 → EuK m x R0 R1 (a * s0 + b * s1) (c * s0 + d * s1)
theorem Goes.id (r0 r1 : Nat) : Goes r0 r1 r0 r1 1 0 0 1 where
  e0 := by omega
  e1 := by omega
  gE s0 s1 := by rw [show (1 : Int) * s0 + 0 * s1 = s0 by omega, show (0 : Int) * s0 + 1 * s1 = s1 by omega]
  gK m x s0 s1 k := by rw [show (1 : Int) * s0 + 0 * s1 = s0 by omega, show (0 : Int) * s0 + 1 * s1 = s1 by omega]; exact k
theorem Goes.step {r0 r1 R0 R1 : Nat} {a b c d : Int} (g : Goes r0 r1 R0 R1 a b c d) (h : R1 ≠ 0) {q : Int} (hq : ((R0 / R1 : Nat) : Int) = q) : Goes r0 r1 R1 (R0 % R1) c d (a - q * c) (b - q * d) where
  e0 := g.e1
  e1 := by
    have h1 : (R0 : Int) = (R1 : Int) * ((R0 / R1 : Nat) : Int) + ((R0 % R1 : Nat) : Int) := by exact_mod_cast (Nat.div_add_mod R0 R1).symm
    have h2 := g.e0
    have h3 := g.e1
    rw [hq] at h1
    grind
  gE s0 s1 := by
    rw [g.gE, euE_step h, hq]
    congr 1
    grind
  gK m x s0 s1 k := by
    have := (g.gK m x s0 s1 k).step h
    rw [hq] at this
    rw [show (a - q * c) * s0 + (b - q * d) * s1 = a * s0 + b * s1 - q * (c * s0 + d * s1) by grind]
    exact this

/-- Steps as long as the highest bits tell them. -/
def fs : Nat → Int → Int → Int → Int → Int → Int → Int × Int × Int × Int
  | 0, _, _, a, b, c, d => (a, b, c, d)
  | n + 1, x, y, a, b, c, d => if y + c = 0 ∨ y + d = 0 then (a, b, c, d) else if (x + a) / (y + c) ≠ (x + b) / (y + d) then (a, b, c, d) else fs n y (x - (x + a) / (y + c) * y) c d (a - (x + a) / (y + c) * c) (b - (x + a) / (y + c) * d)

theorem low_side {y c d e0 e1 B t : Int} (hs : (c ≤ 0 ∧ 0 ≤ d) ∨ (0 ≤ c ∧ d ≤ 0)) (h0 : 0 ≤ e0) (h0' : e0 ≤ B) (h1 : 0 ≤ e1) (h1' : e1 ≤ B) (hc : t ≤ y + c) (hd : t ≤ y + d) : t * B ≤ y * B + c * e0 + d * e1 := by
  rcases hs with ⟨g1, g2⟩ | ⟨g1, g2⟩
  · have p1 := Int.mul_le_mul_of_nonpos_left g1 h0'
    have p2 := Int.mul_nonneg g2 h1
    have p3 := Int.mul_le_mul_of_nonneg_right hc (show 0 ≤ B by omega)
    rw [Int.add_mul] at p3
    omega
  · have p1 := Int.mul_le_mul_of_nonpos_left g2 h1'
    have p2 := Int.mul_nonneg g1 h0
    have p3 := Int.mul_le_mul_of_nonneg_right hd (show 0 ≤ B by omega)
    rw [Int.add_mul] at p3
    omega
theorem high_side {y c d e0 e1 B t : Int} (hs : (c ≤ 0 ∧ 0 ≤ d) ∨ (0 ≤ c ∧ d ≤ 0)) (h0 : 0 ≤ e0) (h0' : e0 ≤ B) (h1 : 0 ≤ e1) (h1' : e1 ≤ B) (hc : y + c ≤ t) (hd : y + d ≤ t) : y * B + c * e0 + d * e1 ≤ t * B := by
  have := low_side (y := -y) (c := -c) (d := -d) (t := -t) (by omega) h0 h0' h1 h1' (by omega) (by omega)
  rw [Int.neg_mul, Int.neg_mul, Int.neg_mul, Int.neg_mul] at this
  omega
theorem nn_of_mul {x n : Int} (hn : 0 < n) (h : 0 ≤ x * n) : 0 ≤ x := by
  rcases Int.lt_or_le x 0 with g | g
  · have := Int.mul_neg_of_neg_of_pos g hn
    omega
  · exact g
theorem pos_of_mul' {x n : Int} (hn : 0 < n) (h : 0 < x * n) : 0 < x := by
  rcases Int.lt_or_le 0 x with g | g
  · exact g
  · have := Int.mul_nonpos_of_nonpos_of_nonneg g (Int.le_of_lt hn)
    omega

theorem ring1 {r0 r1 N x0 y0 B e0 e1 c d : Int} (h0 : r0 * N = x0 * B + e0) (h1 : r1 * N = y0 * B + e1) : (c * r0 + d * r1) * N = (c * x0 + d * y0) * B + c * e0 + d * e1 := by grind
theorem ring2 {r0 r1 N x0 y0 B e0 e1 a b c d q : Int} (h0 : r0 * N = x0 * B + e0) (h1 : r1 * N = y0 * B + e1) : (a * r0 + b * r1 - q * (c * r0 + d * r1)) * N = (a * x0 + b * y0 - q * (c * x0 + d * y0)) * B + (a - q * c) * e0 + (b - q * d) * e1 := by grind
theorem ring3 {r0 r1 N x0 y0 B e0 e1 a b c d q : Int} (h0 : r0 * N = x0 * B + e0) (h1 : r1 * N = y0 * B + e1) : (a * r0 + b * r1 - q * (c * r0 + d * r1) - (c * r0 + d * r1)) * N = (a * x0 + b * y0 - q * (c * x0 + d * y0) - (c * x0 + d * y0)) * B + (a - q * c - c) * e0 + (b - q * d - d) * e1 := by grind
theorem ring4 {x y a c q u : Int} (h : (y + c) * q + u = x + a) : x - q * y + (a - q * c) = u := by grind
theorem ring5 {x0 y0 x y a b c d q : Int} (ex : x = a * x0 + b * y0) (ey : y = c * x0 + d * y0) : (c * (b - q * d) - d * (a - q * c)) * (x0 + 1) = (b - q * d) * (y + c) - d * (x - q * y + (a - q * c)) := by subst ex ey; grind
theorem ring6 {x0 y0 x y a b c d q : Int} (ex : x = a * x0 + b * y0) (ey : y = c * x0 + d * y0) : (c * (b - q * d) - d * (a - q * c)) * y0 = c * (x - q * y + (a - q * c)) - (a - q * c) * (y + c) := by subst ex ey; grind
theorem ring7 {a b c d q : Int} : c * (b - q * d) - d * (a - q * c) = -(a * d - b * c) := by grind
theorem ring8 {x0 y0 x y a b c d q : Int} (ex : x = a * x0 + b * y0) (ey : y = c * x0 + d * y0) : x - q * y = (a - q * c) * x0 + (b - q * d) * y0 := by subst ex ey; grind

/-- What holds where the highest bits tell the steps. W: what they are below. -/
structure FsK (r0 r1 : Nat) (N B x0 y0 e0 e1 W : Int) (x y a b c d : Int) : Prop where
  g : ∃ R0 R1 : Nat, Goes r0 r1 R0 R1 a b c d ∧ (R1 < r1 ∨ R1 = r1 ∧ b = 0)
  ex : x = a * x0 + b * y0
  ey : y = c * x0 + d * y0
  p1 : 1 ≤ x + a ∧ x + a ≤ W
  p2 : 1 ≤ x + b ∧ x + b ≤ W
  p3 : 0 ≤ y + c ∧ y + c ≤ W
  p4 : 0 ≤ y + d ∧ y + d ≤ W
  sg : (0 ≤ a ∧ b ≤ 0 ∧ c ≤ 0 ∧ 0 ≤ d ∧ a * d - b * c = 1) ∨ (a ≤ 0 ∧ 0 ≤ b ∧ 0 ≤ c ∧ d ≤ 0 ∧ a * d - b * c = -1)
  ba : a.natAbs ≤ W.toNat
  bb : b.natAbs ≤ W.toNat
  bc : c.natAbs ≤ W.toNat
  bd : d.natAbs ≤ W.toNat

structure FsC (r0 r1 : Nat) (N B x0 y0 e0 e1 W : Int) : Prop where
  N0 : 0 < N
  h0 : (r0 : Int) * N = x0 * B + e0
  h1 : (r1 : Int) * N = y0 * B + e1
  l0 : 0 ≤ e0 ∧ e0 < B
  l1 : 0 ≤ e1 ∧ e1 < B
  x1 : 1 ≤ x0 ∧ x0 < W
  y1 : 0 ≤ y0 ∧ y0 < W

theorem FsK.start {r0 r1 : Nat} {N B x0 y0 e0 e1 W : Int} (k : FsC r0 r1 N B x0 y0 e0 e1 W) : FsK r0 r1 N B x0 y0 e0 e1 W x0 y0 1 0 0 1 := by
  obtain ⟨_, _, _, _, _, x1, y1⟩ := k
  refine ⟨⟨r0, r1, Goes.id _ _, .inr ⟨rfl, rfl⟩⟩, by omega, by omega, by omega, by omega, by omega, by omega, .inl (by omega), ?_, ?_, ?_, ?_⟩ <;> omega

theorem sg_next {a b c d q : Int} (hq : 0 ≤ q) (sg : (0 ≤ a ∧ b ≤ 0 ∧ c ≤ 0 ∧ 0 ≤ d ∧ a * d - b * c = 1) ∨ (a ≤ 0 ∧ 0 ≤ b ∧ 0 ≤ c ∧ d ≤ 0 ∧ a * d - b * c = -1)) :
    (0 ≤ c ∧ d ≤ 0 ∧ a - q * c ≤ 0 ∧ 0 ≤ b - q * d ∧ c * (b - q * d) - d * (a - q * c) = 1) ∨ (c ≤ 0 ∧ 0 ≤ d ∧ 0 ≤ a - q * c ∧ b - q * d ≤ 0 ∧ c * (b - q * d) - d * (a - q * c) = -1) := by
  have sgc : (0 ≤ c → 0 ≤ q * c) ∧ (c ≤ 0 → q * c ≤ 0) := ⟨fun h => Int.mul_nonneg hq h, fun h => Int.mul_nonpos_of_nonneg_of_nonpos hq h⟩
  have sgd : (0 ≤ d → 0 ≤ q * d) ∧ (d ≤ 0 → q * d ≤ 0) := ⟨fun h => Int.mul_nonneg hq h, fun h => Int.mul_nonpos_of_nonneg_of_nonpos hq h⟩
  rw [ring7]
  generalize a * d - b * c = D at *
  generalize q * c = Z at *
  generalize q * d = Y at *
  rcases sg with ⟨i1, i2, i3, i4, i5⟩ | ⟨i1, i2, i3, i4, i5⟩
  · refine .inr ⟨i3, i4, ?_, ?_, ?_⟩ <;> omega
  · refine .inl ⟨i3, i4, ?_, ?_, ?_⟩ <;> omega
theorem quot_told {R0 R1 : Nat} {N B e0 e1 x' y c d c' d' q : Int} (N0 : 0 < N) (B0 : 0 < B) (l0 : 0 ≤ e0 ∧ e0 < B) (l1 : 0 ≤ e1 ∧ e1 < B)
    (s1 : (R1 : Int) * N = y * B + c * e0 + d * e1) (s2 : ((R0 : Int) - q * R1) * N = x' * B + c' * e0 + d' * e1) (s3 : ((R0 : Int) - q * R1 - R1) * N = (x' - y) * B + (c' - c) * e0 + (d' - d) * e1)
    (sg : (0 ≤ c ∧ d ≤ 0 ∧ c' ≤ 0 ∧ 0 ≤ d') ∨ (c ≤ 0 ∧ 0 ≤ d ∧ 0 ≤ c' ∧ d' ≤ 0)) (p1 : 1 ≤ y + c) (p2 : 1 ≤ y + d) (p3 : 0 ≤ x' + c') (p4 : 0 ≤ x' + d') (p5 : x' + c' < y + c) (p6 : x' + d' < y + d) :
    R1 ≠ 0 ∧ ((R0 / R1 : Nat) : Int) = q := by
  have g1 : (c ≤ 0 ∧ 0 ≤ d) ∨ (0 ≤ c ∧ d ≤ 0) := by rcases sg with h | h <;> omega
  have g2 : (c' ≤ 0 ∧ 0 ≤ d') ∨ (0 ≤ c' ∧ d' ≤ 0) := by rcases sg with h | h <;> omega
  have g3 : (c' - c ≤ 0 ∧ 0 ≤ d' - d) ∨ (0 ≤ c' - c ∧ d' - d ≤ 0) := by rcases sg with h | h <;> omega
  have z1 : 0 < (R1 : Int) := by
    refine pos_of_mul' N0 ?_
    rw [s1]
    have := low_side (y := y) (c := c) (d := d) (t := 1) g1 l0.1 (Int.le_of_lt l0.2) l1.1 (Int.le_of_lt l1.2) p1 p2
    rw [Int.one_mul] at this
    exact Int.lt_of_lt_of_le B0 this
  have z2 : 0 ≤ (R0 : Int) - q * R1 := by
    refine nn_of_mul N0 ?_
    rw [s2]
    have := low_side (y := x') (c := c') (d := d') (t := 0) g2 l0.1 (Int.le_of_lt l0.2) l1.1 (Int.le_of_lt l1.2) p3 p4
    rwa [Int.zero_mul] at this
  have z3 : (R0 : Int) - q * R1 - R1 < 0 := by
    have : 0 < -((R0 : Int) - q * R1 - R1) := by
      refine pos_of_mul' N0 ?_
      rw [Int.neg_mul, s3]
      have := high_side (y := x' - y) (c := c' - c) (d := d' - d) (t := -1) g3 l0.1 (Int.le_of_lt l0.2) l1.1 (Int.le_of_lt l1.2) (by omega) (by omega)
      rw [Int.neg_mul, Int.one_mul] at this
      omega
    omega
  refine ⟨by omega, ?_⟩
  rw [Int.natCast_ediv]
  refine Int.le_antisymm ?_ (Int.le_ediv_of_mul_le z1 (by omega))
  have := Int.ediv_lt_of_lt_mul z1 (show (R0 : Int) < (q + 1) * R1 by rw [Int.add_mul]; omega)
  omega
theorem ent_le {w u c d c' d' y0 x0 W : Int} (hw : 1 ≤ w) (hu : 0 ≤ u) (x1 : x0 + 1 ≤ W) (y1 : y0 ≤ W)
    (sg : (0 ≤ c ∧ d ≤ 0 ∧ c' ≤ 0 ∧ 0 ≤ d' ∧ c * d' - d * c' = 1) ∨ (c ≤ 0 ∧ 0 ≤ d ∧ 0 ≤ c' ∧ d' ≤ 0 ∧ c * d' - d * c' = -1))
    (f1 : (c * d' - d * c') * (x0 + 1) = d' * w - d * u) (f2 : (c * d' - d * c') * y0 = c * u - c' * w) : c'.natAbs ≤ W.toNat ∧ d'.natAbs ≤ W.toNat := by
  have big : ∀ A : Int, (0 ≤ A → A ≤ A * w) ∧ (A ≤ 0 → A * w ≤ A) := by
    intro A
    refine ⟨fun h => ?_, fun h => ?_⟩
    · have := Int.mul_le_mul_of_nonneg_left hw h
      omega
    · have := Int.mul_le_mul_of_nonpos_left h hw
      omega
  have bD := big d'
  have bC := big c'
  have sgu : ∀ A : Int, (0 ≤ A → 0 ≤ A * u) ∧ (A ≤ 0 → A * u ≤ 0) := fun A => ⟨fun h => Int.mul_nonneg h hu, fun h => Int.mul_nonpos_of_nonpos_of_nonneg h hu⟩
  have uD := sgu d
  have uC := sgu c
  clear big sgu
  rcases sg with ⟨i1, i2, i3, i4, i5⟩ | ⟨i1, i2, i3, i4, i5⟩
  · rw [i5] at f1 f2
    have a1 := uC.1 i1
    have a2 := bC.2 i3
    have a3 := uD.2 i2
    have a4 := bD.1 i4
    clear uD uC bD bC
    generalize c' * w = z1 at *
    generalize d' * w = z2 at *
    generalize c * u = z3 at *
    generalize d * u = z4 at *
    omega
  · rw [i5] at f1 f2
    have a1 := uC.2 i1
    have a2 := bC.1 i3
    have a3 := uD.1 i2
    have a4 := bD.2 i4
    clear uD uC bD bC
    generalize c' * w = z1 at *
    generalize d' * w = z2 at *
    generalize c * u = z3 at *
    generalize d * u = z4 at *
    omega
theorem FsK.step {r0 r1 : Nat} {N B x0 y0 e0 e1 W x y a b c d q : Int} (k : FsC r0 r1 N B x0 y0 e0 e1 W) (f : FsK r0 r1 N B x0 y0 e0 e1 W x y a b c d) (hc : y + c ≠ 0) (hd : y + d ≠ 0) (q1 : (x + a) / (y + c) = q) (q2 : (x + b) / (y + d) = q) :
    FsK r0 r1 N B x0 y0 e0 e1 W y (x - q * y) c d (a - q * c) (b - q * d) ∧ x - q * y + (a - q * c) < y + c := by
  obtain ⟨⟨R0, R1, g, hg⟩, ex, ey, p1, p2, p3, p4, sg, ba, bb, bc, bd⟩ := f
  obtain ⟨N0, h0, h1, l0, l1, x1, y1⟩ := k
  have hq : 0 ≤ q := by rw [← q1]; exact Int.ediv_nonneg (Int.le_trans (by decide) p1.1) p3.1
  have hw : 1 ≤ y + c := by clear sg; omega
  have hw' : 1 ≤ y + d := by clear sg; omega
  have u1 : (y + c) * q + (x + a) % (y + c) = x + a := by rw [← q1]; exact Int.mul_ediv_add_emod _ _
  have u2 : (y + d) * q + (x + b) % (y + d) = x + b := by rw [← q2]; exact Int.mul_ediv_add_emod _ _
  have v1 := Int.emod_nonneg (x + a) hc
  have v2 := Int.emod_nonneg (x + b) hd
  have w1 := Int.emod_lt_of_pos (x + a) hw
  have w2 := Int.emod_lt_of_pos (x + b) hw'
  have t1 : x - q * y + (a - q * c) = (x + a) % (y + c) := ring4 u1
  have t2 : x - q * y + (b - q * d) = (x + b) % (y + d) := ring4 u2
  rw [← t1] at v1 w1
  rw [← t2] at v2 w2
  have E0 := g.e0
  have E1 := g.e1
  have s1 : (R1 : Int) * N = y * B + c * e0 + d * e1 := by rw [E1, ey]; exact ring1 h0 h1
  have s2 : ((R0 : Int) - q * R1) * N = (x - q * y) * B + (a - q * c) * e0 + (b - q * d) * e1 := by rw [E0, E1, ex, ey]; exact ring2 h0 h1
  have s3 : ((R0 : Int) - q * R1 - R1) * N = (x - q * y - y) * B + (a - q * c - c) * e0 + (b - q * d - d) * e1 := by rw [E0, E1, ex, ey]; exact ring3 h0 h1
  have nsg := sg_next hq sg
  have nsg' : (0 ≤ c ∧ d ≤ 0 ∧ a - q * c ≤ 0 ∧ 0 ≤ b - q * d) ∨ (c ≤ 0 ∧ 0 ≤ d ∧ 0 ≤ a - q * c ∧ b - q * d ≤ 0) := nsg.imp (fun h => ⟨h.1, h.2.1, h.2.2.1, h.2.2.2.1⟩) (fun h => ⟨h.1, h.2.1, h.2.2.1, h.2.2.2.1⟩)
  obtain ⟨hR, hQ⟩ := quot_told N0 (Int.lt_of_le_of_lt l0.1 l0.2) l0 l1 s1 s2 s3 nsg' hw hw' v1 v2 w1 w2
  have hmod := Nat.mod_lt R0 (Nat.pos_of_ne_zero hR)
  obtain ⟨b1, b2⟩ := ent_le hw v1 (show x0 + 1 ≤ W by omega) (show y0 ≤ W by omega) nsg (ring5 ex ey) (ring6 ex ey)
  refine ⟨⟨⟨R1, R0 % R1, g.step hR hQ, .inl ?_⟩, ey, ring8 ex ey, ⟨hw, p3.2⟩, ⟨hw', p4.2⟩, ⟨v1, Int.le_of_lt (Int.lt_of_lt_of_le w1 p3.2)⟩, ⟨v2, Int.le_of_lt (Int.lt_of_lt_of_le w2 p4.2)⟩, ?_, bc, bd, b1, b2⟩, w1⟩
  · rcases hg with h | h
    · exact Nat.lt_trans hmod h
    · rw [← h.1]; exact hmod
  · rcases nsg with h | h
    · exact .inl h
    · exact .inr h
theorem FsK.run {r0 r1 : Nat} {N B x0 y0 e0 e1 W : Int} (k : FsC r0 r1 N B x0 y0 e0 e1 W) : ∀ (n : Nat) (x y a b c d : Int), FsK r0 r1 N B x0 y0 e0 e1 W x y a b c d →
    ∃ x' y' : Int, FsK r0 r1 N B x0 y0 e0 e1 W x' y' (fs n x y a b c d).1 (fs n x y a b c d).2.1 (fs n x y a b c d).2.2.1 (fs n x y a b c d).2.2.2
  | 0, x, y, a, b, c, d, f => ⟨x, y, f⟩
  | n + 1, x, y, a, b, c, d, f => by
    simp only [fs]
    by_cases e1 : y + c = 0 ∨ y + d = 0
    · rw [if_pos e1]; exact ⟨x, y, f⟩
    · rw [if_neg e1]
      by_cases e2 : (x + a) / (y + c) ≠ (x + b) / (y + d)
      · rw [if_pos e2]; exact ⟨x, y, f⟩
      · rw [if_neg e2]
        exact FsK.run k n _ _ _ _ _ _ (f.step k (by omega) (by omega) rfl (by omega)).1
end Go.Sx
end

section
/-
  Package field: inverses: reckoned by the kernel. (Laid by program.)
-/
namespace Go.Proofs.YtbfcccoeekonlaaGreatDoor
open Go.Sx
set_option maxRecDepth 100000
def wrN (z : Int) : Nat := (z % (M256 : Int)).toNat
def signedC (z : Int) : List Prop := [i64ok z]
def signedG (z : Int) : SV := .one (sU (wrN z))
def highN (a : Nat) (n : Int) : Nat := a % M256 * 2 ^ n.toNat / 2 ^ 194
def highC (a : Nat) (n : Int) : List Prop := [0 ≤ n ∧ n ≤ 255, a % M256 * 2 ^ n.toNat < M256]
def highG (a : Nat) (n : Int) : SV := .one (sI .i64 ((highN a n : Nat) : Int))
def foN (p : Nat) : Int := ((256 - bitsN (p % M256) : Nat) : Int)
def foR (p q : Nat) : Int × Int × Int × Int := fs (highN q (foN p) + 1) (highN p (foN p) : Nat) (highN q (foN p) : Nat) 1 0 0 1
def foC : List (List At) → List Prop
  | [[.u p, .u q]] => [q % M256 < p % M256]
  | _ => [False]
def foG : List (List At) → SV
  | [[.u p, .u q]] => .tup [.agg [.u (wrN (foR p q).1), .u (wrN (foR p q).2.1), .u (wrN (foR p q).2.2.1), .u (wrN (foR p q).2.2.2)], sB (!((foR p q).2.1 == 0))]
  | _ => .tup []
def turnC : List (List At) → List Prop
  | [[.u _, .u _, .u _, .u _], [.u _, .u _]] => []
  | _ => [False]
def turnG : List (List At) → SV
  | [[.u a, .u b, .u c, .u d], [.u p, .u q]] => .one (.agg [.u (a * p + b * q), .u (c * p + d * q)])
  | _ => .tup []
def aboveG (a m : Nat) : SV := .one (sU (if 2 ^ 255 ≤ a % M256 then a + m else a))
def invN (a m : Nat) : Nat := if (euE m a 0 1).1 = 1 then ((euE m a 0 1).2 % (m : Int)).toNat else 0
def invE (a m : Nat) : Int := if (euE m a 0 1).1 = 1 then 0 else 5
def inverseC (a m : Nat) : List Prop := [a % M256 < m % M256]
def inverseG (a m : Nat) : SV := .tup [sU (invN (a % M256) (m % M256)), sI .i64 (invE (a % M256) (m % M256))]
def finvE (a m : Nat) : Int := if m % M256 = 0 then 7 else if a % M256 < m % M256 then invE (a % M256) (m % M256) else 6
def finvG (a m : Nat) : SV := .tup [sU (if finvE a m = 0 then invN (a % M256) (m % M256) else 0), sI .i64 (finvE a m)]
def zeroT : List SK := zeroU ++ zeroU ++ zeroU ++ zeroU
def invFo (p q : Nat) : Inv where
  X := Int × Int × Int × Int × Int × Int × Nat
  tm j := slotsAt 80 [(2, .one (.sc (.ptr 1 0))), (5, .one (sI .i64 j.1)), (6, .one (sI .i64 j.2.1)), (7, .one (sI .i64 j.2.2.1)), (8, .one (sI .i64 j.2.2.2.1)), (9, .one (sI .i64 j.2.2.2.2.1)), (10, .one (sI .i64 j.2.2.2.2.2.1))]
  ob _ := [.cells 126 [.u p, .u q] 0, .cells 128 zeroT 0]
  holds j := fs j.2.2.2.2.2.2 j.1 j.2.1 j.2.2.1 j.2.2.2.1 j.2.2.2.2.1 j.2.2.2.2.2.1 = foR p q ∧ (j.2.1 + j.2.2.2.2.1).toNat < j.2.2.2.2.2.2 ∧
    ∃ N B e0 e1 : Int, FsC (p % M256) (q % M256) N B (highN p (foN p) : Nat) (highN q (foN p) : Nat) e0 e1 (2 ^ 62) ∧ FsK (p % M256) (q % M256) N B (highN p (foN p) : Nat) (highN q (foN p) : Nat) e0 e1 (2 ^ 62) j.1 j.2.1 j.2.2.1 j.2.2.2.1 j.2.2.2.2.1 j.2.2.2.2.2.1
  less j := j.2.2.2.2.2.2
def cxFo : Cx := [(98, specU noughtsG), (107, specUJ highC highG), (108, specI signedC signedG)]
def cxTurn : Cx := [(100, specUU mulG), (50, specUU addG)]
def cxAbove : Cx := [(50, specUU addG)]
def invInv (a m : Nat) : Inv where
  X := Nat × Nat × Int × Int
  tm _ := slotsAt 44 [(2, .one (.sc (.ptr 0 0))), (3, .one (.sc (.ptr 1 0))), (4, .one (.sc (.ptr 2 0))), (6, .one (.sc (.ptr 3 0))), (7, .one (.sc (.ptr 4 0)))]
  ob j := [.cells 26 [.u a] 0, .cells 26 [.u m] 0, .cells 26 zeroU 0, .cells 126 [.u j.1, .u j.2.1] 0, .cells 126 [.u (wrN j.2.2.1), .u (wrN j.2.2.2)] 0]
  holds j := EuK (m % M256) (a % M256) j.1 j.2.1 j.2.2.1 j.2.2.2 ∧ euE j.1 j.2.1 j.2.2.1 j.2.2.2 = euE (m % M256) (a % M256) 0 1 ∧ j.1 ≤ m % M256
  less j := j.2.1
def cxInverse : Cx := [(94, specA [.str [.u, .u]] foC foG), (96, specA [.str [.u, .u, .u, .u], .str [.u, .u]] turnC turnG), (97, specUU aboveG), (16, specUU dmG), (14, specUU subG)]
def cxInv : Cx := [(15, specUU cmpG), (77, specUUC inverseC inverseG)]
-- VC vc_signed HASH 112e6f980bb1209c
theorem vc_signed (z : Int) :
    Owes Tryz.prog Cx.none [] 100 Tryz.f108 [sI .i64 z] (signedG z) =
    (let x1 : Int := Go.IntKind.u64.wrap (z.fdiv (9223372036854775808 : Int)); ((0 : Int) ≤ Go.IntKind.u64.wrap z ∧ Go.IntKind.u64.wrap z < (18446744073709551616 : Int)) ∧ ((0 : Int) ≤ x1 ∧ x1 < (18446744073709551616 : Int)) ∧ ((0 : Int) ≤ x1 ∧ x1 < (18446744073709551616 : Int)) ∧ ((0 : Int) ≤ x1 ∧ x1 < (18446744073709551616 : Int)) ∧ Go.Sx.join (Go.IntKind.u64.wrap z) x1 x1 x1 % Go.Sx.M256 = wrN z % Go.Sx.M256 ∧ True) := by kernel_rfl
-- END VC
-- VC vc_highest HASH 9c4b98e673ac0f89
theorem vc_highest (a : Nat) (n : Int) :
    Owes Tryz.prog Cx.none [] 100 Tryz.f107 [sU a, sI .i64 n] (highG a n) =
    (let x1 : Int := Go.IntKind.i64.wrap ((3 : Int) - Go.IntKind.i64.wrap (n.tdiv (64 : Int))); let x2 : Int := Go.IntKind.i64.wrap (x1 - (1 : Int)); let x3 : Int := Go.IntKind.i64.wrap ((64 : Int) - n.tmod (64 : Int)); let x4 : Int := Go.IntKind.u64.wrap (Go.Sx.limb a x1.toNat * (2 : Int) ^ Min.min (n.tmod (64 : Int)).toNat (64 : Nat)); ((0 : Int) ≤ x1 ∧ x1 < (4 : Int)) ∧ ((0 : Int) ≤ x1 ∧ x1 < (4 : Int)) ∧ (0 : Int) ≤ n.tmod (64 : Int) ∧ (Decidable.decide (x1 > (0 : Int)) = Bool.true → ((0 : Int) ≤ x2 ∧ x2 < (4 : Int)) ∧ ((0 : Int) ≤ x2 ∧ x2 < (4 : Int)) ∧ (0 : Int) ≤ x3 ∧ Go.IntKind.i64.wrap ((Go.IntKind.u64.wrap (↑(BitVec.ofInt (64 : Nat) x4 ||| BitVec.ofInt (64 : Nat) ((Go.Sx.limb a x2.toNat).fdiv ((2 : Int) ^ Min.min x3.toNat (64 : Nat)))).toNat : Int)).fdiv (4 : Int)) = (↑(highN a n) : Int)) ∧ (Decidable.decide (x1 > (0 : Int)) = Bool.false → Go.IntKind.i64.wrap (x4.fdiv (4 : Int)) = (↑(highN a n) : Int))) := by kernel_rfl
-- END VC
-- VC vc_foresee HASH 7882f32bd018081d
theorem vc_foresee (p q : Nat) :
    Owes Tryz.prog cxFo [(4, .inv (invFo p q))] 100 Tryz.f94 [.agg [.u p, .u q]] (foG [[.u p, .u q]]) =
    (let x1 : Nat := p % Go.Sx.M256; let x2 : Int := (↑((256 : Nat) - bitsN x1) : Int); let x3 : Nat := (2 : Nat) ^ x2.toNat; let x4 : Nat := q % Go.Sx.M256; let x5 : Nat := wrN (foR p q).fst % Go.Sx.M256; let x6 : Int := (foR p q).snd.fst; let x7 : Nat := wrN x6 % Go.Sx.M256; let x8 : Nat := wrN (foR p q).snd.snd.fst % Go.Sx.M256; let x9 : Nat := wrN (foR p q).snd.snd.snd % Go.Sx.M256; let x10 : Bool := !x6 == (0 : Int); ((0 : Int) ≤ x2 ∧ x2 ≤ (255 : Int)) ∧ x1 * x3 < Go.Sx.M256 ∧ ((0 : Int) ≤ x2 ∧ x2 ≤ (255 : Int)) ∧ x4 * x3 < Go.Sx.M256 ∧ (∀ (y : Int × Int × Int × Int × Int × Int × Nat), Go.Sx.closedB (Go.Sx.slotsAt (80 : Nat) [((2 : Nat), Go.Sx.SV.one (Go.Sx.SA.sc (Go.Sx.SC.ptr (1 : Nat) (0 : Nat)))), ((5 : Nat), Go.Sx.SV.one (Go.Sx.sI Go.IntKind.i64 y.fst)), ((6 : Nat), Go.Sx.SV.one (Go.Sx.sI Go.IntKind.i64 y.snd.fst)), ((7 : Nat), Go.Sx.SV.one (Go.Sx.sI Go.IntKind.i64 y.snd.snd.fst)), ((8 : Nat), Go.Sx.SV.one (Go.Sx.sI Go.IntKind.i64 y.snd.snd.snd.fst)), ((9 : Nat), Go.Sx.SV.one (Go.Sx.sI Go.IntKind.i64 y.snd.snd.snd.snd.fst)), ((10 : Nat), Go.Sx.SV.one (Go.Sx.sI Go.IntKind.i64 y.snd.snd.snd.snd.snd.fst))]) [Go.Sx.SO.cells (126 : Go.TypeId) [Go.Sx.SK.u p, Go.Sx.SK.u q] (0 : Nat), Go.Sx.SO.cells (128 : Go.TypeId) zeroT (0 : Nat)] = Bool.true) ∧ ∃ (y : Int × Int × Int × Int × Int × Int × Nat), (Go.Sx.fs y.snd.snd.snd.snd.snd.snd y.fst y.snd.fst y.snd.snd.fst y.snd.snd.snd.fst y.snd.snd.snd.snd.fst y.snd.snd.snd.snd.snd.fst = foR p q ∧ (y.snd.fst + y.snd.snd.snd.snd.fst).toNat < y.snd.snd.snd.snd.snd.snd ∧ ∃ (N : Int), ∃ (B : Int), ∃ (e0 : Int), ∃ (e1 : Int), Go.Sx.FsC x1 x4 N B (↑(highN p (foN p)) : Int) (↑(highN q (foN p)) : Int) e0 e1 (4611686018427387904 : Int) ∧ Go.Sx.FsK x1 x4 N B (↑(highN p (foN p)) : Int) (↑(highN q (foN p)) : Int) e0 e1 (4611686018427387904 : Int) y.fst y.snd.fst y.snd.snd.fst y.snd.snd.snd.fst y.snd.snd.snd.snd.fst y.snd.snd.snd.snd.snd.fst) ∧ (↑(highN p x2) : Int) = y.fst ∧ (↑(highN q x2) : Int) = y.snd.fst ∧ (1 : Int) = y.snd.snd.fst ∧ (0 : Int) = y.snd.snd.snd.fst ∧ (0 : Int) = y.snd.snd.snd.snd.fst ∧ (1 : Int) = y.snd.snd.snd.snd.snd.fst ∧ x1 = x1 ∧ x4 = x4 ∧ (0 : Nat) = (0 : Nat) ∧ (0 : Nat) = (0 : Nat) ∧ ∀ (y : Int × Int × Int × Int × Int × Int × Nat), (Go.Sx.fs y.snd.snd.snd.snd.snd.snd y.fst y.snd.fst y.snd.snd.fst y.snd.snd.snd.fst y.snd.snd.snd.snd.fst y.snd.snd.snd.snd.snd.fst = foR p q ∧ (y.snd.fst + y.snd.snd.snd.snd.fst).toNat < y.snd.snd.snd.snd.snd.snd ∧ ∃ (N : Int), ∃ (B : Int), ∃ (e0 : Int), ∃ (e1 : Int), Go.Sx.FsC x1 x4 N B (↑(highN p (foN p)) : Int) (↑(highN q (foN p)) : Int) e0 e1 (4611686018427387904 : Int) ∧ Go.Sx.FsK x1 x4 N B (↑(highN p (foN p)) : Int) (↑(highN q (foN p)) : Int) e0 e1 (4611686018427387904 : Int) y.fst y.snd.fst y.snd.snd.fst y.snd.snd.snd.fst y.snd.snd.snd.snd.fst y.snd.snd.snd.snd.snd.fst) → ((Go.IntKind.i64.wrap (y.snd.fst + y.snd.snd.snd.snd.fst) != (0 : Int)) = Bool.true → (Go.IntKind.i64.wrap (y.snd.fst + y.snd.snd.snd.snd.fst) != (0 : Int)) = Bool.true) ∧ ((Go.IntKind.i64.wrap (y.snd.fst + y.snd.snd.snd.snd.fst) != (0 : Int)) = Bool.true → (Go.IntKind.i64.wrap (y.snd.fst + y.snd.snd.snd.snd.fst) != (0 : Int)) = Bool.true) ∧ ((Go.IntKind.i64.wrap (y.snd.fst + y.snd.snd.snd.snd.fst) != (0 : Int)) = Bool.true → (Go.IntKind.i64.wrap (y.snd.fst + y.snd.snd.snd.snd.fst) != (0 : Int)) = Bool.true) ∧ ((Go.IntKind.i64.wrap (y.snd.fst + y.snd.snd.snd.snd.fst) != (0 : Int)) = Bool.true → (Go.IntKind.i64.wrap (y.snd.fst + y.snd.snd.snd.snd.fst) != (0 : Int)) = Bool.true) ∧ ((Go.IntKind.i64.wrap (y.snd.fst + y.snd.snd.snd.snd.fst) != (0 : Int) && Go.IntKind.i64.wrap (y.snd.fst + y.snd.snd.snd.snd.snd.fst) != (0 : Int)) = Bool.true → Go.IntKind.i64.wrap (y.snd.fst + y.snd.snd.snd.snd.fst) ≠ (0 : Int) ∧ Go.IntKind.i64.wrap (y.snd.fst + y.snd.snd.snd.snd.snd.fst) ≠ (0 : Int) ∧ ((Go.IntKind.i64.wrap ((Go.IntKind.i64.wrap (y.fst + y.snd.snd.fst)).tdiv (Go.IntKind.i64.wrap (y.snd.fst + y.snd.snd.snd.snd.fst))) != Go.IntKind.i64.wrap ((Go.IntKind.i64.wrap (y.fst + y.snd.snd.snd.fst)).tdiv (Go.IntKind.i64.wrap (y.snd.fst + y.snd.snd.snd.snd.snd.fst)))) = Bool.true → ((-9223372036854775808 : Int) ≤ y.snd.snd.fst ∧ y.snd.snd.fst ≤ (9223372036854775807 : Int)) ∧ ((-9223372036854775808 : Int) ≤ y.snd.snd.snd.fst ∧ y.snd.snd.snd.fst ≤ (9223372036854775807 : Int)) ∧ ((-9223372036854775808 : Int) ≤ y.snd.snd.snd.snd.fst ∧ y.snd.snd.snd.snd.fst ≤ (9223372036854775807 : Int)) ∧ ((-9223372036854775808 : Int) ≤ y.snd.snd.snd.snd.snd.fst ∧ y.snd.snd.snd.snd.snd.fst ≤ (9223372036854775807 : Int)) ∧ (wrN y.snd.snd.fst % Go.Sx.M256 = x5 ∧ wrN y.snd.snd.snd.fst % Go.Sx.M256 = x7 ∧ wrN y.snd.snd.snd.snd.fst % Go.Sx.M256 = x8 ∧ wrN y.snd.snd.snd.snd.snd.fst % Go.Sx.M256 = x9 ∧ True) ∧ (y.snd.snd.snd.fst != (0 : Int)) = x10) ∧ ((Go.IntKind.i64.wrap ((Go.IntKind.i64.wrap (y.fst + y.snd.snd.fst)).tdiv (Go.IntKind.i64.wrap (y.snd.fst + y.snd.snd.snd.snd.fst))) != Go.IntKind.i64.wrap ((Go.IntKind.i64.wrap (y.fst + y.snd.snd.snd.fst)).tdiv (Go.IntKind.i64.wrap (y.snd.fst + y.snd.snd.snd.snd.snd.fst)))) = Bool.false → ∃ (y' : Int × Int × Int × Int × Int × Int × Nat), (Go.Sx.fs y'.snd.snd.snd.snd.snd.snd y'.fst y'.snd.fst y'.snd.snd.fst y'.snd.snd.snd.fst y'.snd.snd.snd.snd.fst y'.snd.snd.snd.snd.snd.fst = foR p q ∧ (y'.snd.fst + y'.snd.snd.snd.snd.fst).toNat < y'.snd.snd.snd.snd.snd.snd ∧ ∃ (N : Int), ∃ (B : Int), ∃ (e0 : Int), ∃ (e1 : Int), Go.Sx.FsC x1 x4 N B (↑(highN p (foN p)) : Int) (↑(highN q (foN p)) : Int) e0 e1 (4611686018427387904 : Int) ∧ Go.Sx.FsK x1 x4 N B (↑(highN p (foN p)) : Int) (↑(highN q (foN p)) : Int) e0 e1 (4611686018427387904 : Int) y'.fst y'.snd.fst y'.snd.snd.fst y'.snd.snd.snd.fst y'.snd.snd.snd.snd.fst y'.snd.snd.snd.snd.snd.fst) ∧ y.snd.fst = y'.fst ∧ Go.IntKind.i64.wrap (y.fst - Go.IntKind.i64.wrap (Go.IntKind.i64.wrap ((Go.IntKind.i64.wrap (y.fst + y.snd.snd.fst)).tdiv (Go.IntKind.i64.wrap (y.snd.fst + y.snd.snd.snd.snd.fst))) * y.snd.fst)) = y'.snd.fst ∧ y.snd.snd.snd.snd.fst = y'.snd.snd.fst ∧ y.snd.snd.snd.snd.snd.fst = y'.snd.snd.snd.fst ∧ Go.IntKind.i64.wrap (y.snd.snd.fst - Go.IntKind.i64.wrap (Go.IntKind.i64.wrap ((Go.IntKind.i64.wrap (y.fst + y.snd.snd.fst)).tdiv (Go.IntKind.i64.wrap (y.snd.fst + y.snd.snd.snd.snd.fst))) * y.snd.snd.snd.snd.fst)) = y'.snd.snd.snd.snd.fst ∧ Go.IntKind.i64.wrap (y.snd.snd.snd.fst - Go.IntKind.i64.wrap (Go.IntKind.i64.wrap ((Go.IntKind.i64.wrap (y.fst + y.snd.snd.fst)).tdiv (Go.IntKind.i64.wrap (y.snd.fst + y.snd.snd.snd.snd.fst))) * y.snd.snd.snd.snd.snd.fst)) = y'.snd.snd.snd.snd.snd.fst ∧ x1 = x1 ∧ x4 = x4 ∧ (0 : Nat) = (0 : Nat) ∧ (0 : Nat) = (0 : Nat) ∧ y'.snd.snd.snd.snd.snd.snd < y.snd.snd.snd.snd.snd.snd)) ∧ ((Go.IntKind.i64.wrap (y.snd.fst + y.snd.snd.snd.snd.fst) != (0 : Int) && Go.IntKind.i64.wrap (y.snd.fst + y.snd.snd.snd.snd.snd.fst) != (0 : Int)) = Bool.false → ((-9223372036854775808 : Int) ≤ y.snd.snd.fst ∧ y.snd.snd.fst ≤ (9223372036854775807 : Int)) ∧ ((-9223372036854775808 : Int) ≤ y.snd.snd.snd.fst ∧ y.snd.snd.snd.fst ≤ (9223372036854775807 : Int)) ∧ ((-9223372036854775808 : Int) ≤ y.snd.snd.snd.snd.fst ∧ y.snd.snd.snd.snd.fst ≤ (9223372036854775807 : Int)) ∧ ((-9223372036854775808 : Int) ≤ y.snd.snd.snd.snd.snd.fst ∧ y.snd.snd.snd.snd.snd.fst ≤ (9223372036854775807 : Int)) ∧ (wrN y.snd.snd.fst % Go.Sx.M256 = x5 ∧ wrN y.snd.snd.snd.fst % Go.Sx.M256 = x7 ∧ wrN y.snd.snd.snd.snd.fst % Go.Sx.M256 = x8 ∧ wrN y.snd.snd.snd.snd.snd.fst % Go.Sx.M256 = x9 ∧ True) ∧ (y.snd.snd.snd.fst != (0 : Int)) = x10)) := by kernel_rfl
-- END VC
-- VC vc_of HASH d3233c265dbc61d8
theorem vc_of (a b c d p q : Nat) :
    Owes Tryz.prog cxTurn [] 100 Tryz.f96 [.agg [.u a, .u b, .u c, .u d], .agg [.u p, .u q]] (turnG [[.u a, .u b, .u c, .u d], [.u p, .u q]]) =
    (let x1 : Nat := (a * p + b * q) % Go.Sx.M256; let x2 : Nat := (c * p + d * q) % Go.Sx.M256; x1 = x1 ∧ x2 = x2 ∧ True) := by kernel_rfl
-- END VC
-- VC vc_above HASH 1eb1242aee8dd8e7
theorem vc_above (a m : Nat) :
    Owes Tryz.prog cxAbove [] 100 Tryz.f97 [sU a, sU m] (aboveG a m) =
    (let x1 : Nat := a + m; let x2 : Nat := a % Go.Sx.M256; let x3 : Nat := (if (57896044618658097711785492504343953926634992332820282019728792003956564819968 : Nat) ≤ x2 then x1 else a) % Go.Sx.M256; (((Go.Sx.limb a (3 : Nat)).fdiv (9223372036854775808 : Int) == (1 : Int)) = Bool.true → x1 % Go.Sx.M256 = x3 ∧ True) ∧ (((Go.Sx.limb a (3 : Nat)).fdiv (9223372036854775808 : Int) == (1 : Int)) = Bool.false → x2 = x3 ∧ True)) := by kernel_rfl
-- END VC
-- VC vc_inverse HASH 825a42b1a85797b6
theorem vc_inverse (a m : Nat) :
    Owes Tryz.prog cxInverse [(2, .inv (invInv a m))] 100 Tryz.f77 [sU a, sU m] (inverseG a m) =
    (let x1 : Nat := m % Go.Sx.M256; let x2 : Nat := a % Go.Sx.M256; let x3 : Nat := invN x2 x1 % Go.Sx.M256; let x4 : Int := invE x2 x1; (∀ (y : Nat × Nat × Int × Int), Go.Sx.closedB (Go.Sx.slotsAt (44 : Nat) [((2 : Nat), Go.Sx.SV.one (Go.Sx.SA.sc (Go.Sx.SC.ptr (0 : Nat) (0 : Nat)))), ((3 : Nat), Go.Sx.SV.one (Go.Sx.SA.sc (Go.Sx.SC.ptr (1 : Nat) (0 : Nat)))), ((4 : Nat), Go.Sx.SV.one (Go.Sx.SA.sc (Go.Sx.SC.ptr (2 : Nat) (0 : Nat)))), ((6 : Nat), Go.Sx.SV.one (Go.Sx.SA.sc (Go.Sx.SC.ptr (3 : Nat) (0 : Nat)))), ((7 : Nat), Go.Sx.SV.one (Go.Sx.SA.sc (Go.Sx.SC.ptr (4 : Nat) (0 : Nat))))]) [Go.Sx.SO.cells (26 : Go.TypeId) [Go.Sx.SK.u a] (0 : Nat), Go.Sx.SO.cells (26 : Go.TypeId) [Go.Sx.SK.u m] (0 : Nat), Go.Sx.SO.cells (26 : Go.TypeId) zeroU (0 : Nat), Go.Sx.SO.cells (126 : Go.TypeId) [Go.Sx.SK.u y.fst, Go.Sx.SK.u y.snd.fst] (0 : Nat), Go.Sx.SO.cells (126 : Go.TypeId) [Go.Sx.SK.u (wrN y.snd.snd.fst), Go.Sx.SK.u (wrN y.snd.snd.snd)] (0 : Nat)] = Bool.true) ∧ ∃ (y : Nat × Nat × Int × Int), (Go.Sx.EuK x1 x2 y.fst y.snd.fst y.snd.snd.fst y.snd.snd.snd ∧ Go.Sx.euE y.fst y.snd.fst y.snd.snd.fst y.snd.snd.snd = Go.Sx.euE x1 x2 (0 : Int) (1 : Int) ∧ y.fst ≤ x1) ∧ x2 = x2 ∧ (0 : Nat) = (0 : Nat) ∧ x1 = x1 ∧ (0 : Nat) = (0 : Nat) ∧ (0 : Nat) = (0 : Nat) ∧ x1 = y.fst % Go.Sx.M256 ∧ x2 = y.snd.fst % Go.Sx.M256 ∧ (0 : Nat) = (0 : Nat) ∧ ((0 : Nat) = wrN y.snd.snd.fst % Go.Sx.M256 ∧ (1 : Nat) = wrN y.snd.snd.snd % Go.Sx.M256 ∧ True) ∧ (0 : Nat) = (0 : Nat) ∧ ∀ (y : Nat × Nat × Int × Int), Go.Sx.EuK x1 x2 y.fst y.snd.fst y.snd.snd.fst y.snd.snd.snd ∧ Go.Sx.euE y.fst y.snd.fst y.snd.snd.fst y.snd.snd.snd = Go.Sx.euE x1 x2 (0 : Int) (1 : Int) ∧ y.fst ≤ x1 → ((!Go.Sx.conj [y.snd.fst % Go.Sx.M256 == (0 : Nat)]) = Bool.true → y.snd.fst % Go.Sx.M256 < y.fst % Go.Sx.M256 ∧ ((!!(foR y.fst y.snd.fst).snd.fst == (0 : Int)) = Bool.true → ∃ (y' : Nat × Nat × Int × Int), (Go.Sx.EuK x1 x2 y'.fst y'.snd.fst y'.snd.snd.fst y'.snd.snd.snd ∧ Go.Sx.euE y'.fst y'.snd.fst y'.snd.snd.fst y'.snd.snd.snd = Go.Sx.euE x1 x2 (0 : Int) (1 : Int) ∧ y'.fst ≤ x1) ∧ x2 = x2 ∧ (0 : Nat) = (0 : Nat) ∧ x1 = x1 ∧ (0 : Nat) = (0 : Nat) ∧ (0 : Nat) = (0 : Nat) ∧ ((0 : Nat) * y.fst + (1 : Nat) * y.snd.fst) % Go.Sx.M256 = y'.fst % Go.Sx.M256 ∧ ((1 : Nat) * y.fst + ((115792089237316195423570985008687907853269984665640564039457584007913129639936 : Nat) - (if y.snd.fst % Go.Sx.M256 = (0 : Nat) then (0 : Nat) else y.fst % Go.Sx.M256 / (y.snd.fst % Go.Sx.M256)) % Go.Sx.M256) * y.snd.fst) % Go.Sx.M256 = y'.snd.fst % Go.Sx.M256 ∧ (0 : Nat) = (0 : Nat) ∧ ((0 : Nat) * wrN y.snd.snd.fst + (1 : Nat) * wrN y.snd.snd.snd) % Go.Sx.M256 = wrN y'.snd.snd.fst % Go.Sx.M256 ∧ ((1 : Nat) * wrN y.snd.snd.fst + ((115792089237316195423570985008687907853269984665640564039457584007913129639936 : Nat) - (if y.snd.fst % Go.Sx.M256 = (0 : Nat) then (0 : Nat) else y.fst % Go.Sx.M256 / (y.snd.fst % Go.Sx.M256)) % Go.Sx.M256) * wrN y.snd.snd.snd) % Go.Sx.M256 = wrN y'.snd.snd.snd % Go.Sx.M256 ∧ (0 : Nat) = (0 : Nat) ∧ y'.snd.fst < y.snd.fst) ∧ ((!!(foR y.fst y.snd.fst).snd.fst == (0 : Int)) = Bool.false → ∃ (y' : Nat × Nat × Int × Int), (Go.Sx.EuK x1 x2 y'.fst y'.snd.fst y'.snd.snd.fst y'.snd.snd.snd ∧ Go.Sx.euE y'.fst y'.snd.fst y'.snd.snd.fst y'.snd.snd.snd = Go.Sx.euE x1 x2 (0 : Int) (1 : Int) ∧ y'.fst ≤ x1) ∧ x2 = x2 ∧ (0 : Nat) = (0 : Nat) ∧ x1 = x1 ∧ (0 : Nat) = (0 : Nat) ∧ (0 : Nat) = (0 : Nat) ∧ (wrN (foR y.fst y.snd.fst).fst * y.fst + wrN (foR y.fst y.snd.fst).snd.fst * y.snd.fst) % Go.Sx.M256 = y'.fst % Go.Sx.M256 ∧ (wrN (foR y.fst y.snd.fst).snd.snd.fst * y.fst + wrN (foR y.fst y.snd.fst).snd.snd.snd * y.snd.fst) % Go.Sx.M256 = y'.snd.fst % Go.Sx.M256 ∧ (0 : Nat) = (0 : Nat) ∧ (wrN (foR y.fst y.snd.fst).fst * wrN y.snd.snd.fst + wrN (foR y.fst y.snd.fst).snd.fst * wrN y.snd.snd.snd) % Go.Sx.M256 = wrN y'.snd.snd.fst % Go.Sx.M256 ∧ (wrN (foR y.fst y.snd.fst).snd.snd.fst * wrN y.snd.snd.fst + wrN (foR y.fst y.snd.fst).snd.snd.snd * wrN y.snd.snd.snd) % Go.Sx.M256 = wrN y'.snd.snd.snd % Go.Sx.M256 ∧ (0 : Nat) = (0 : Nat) ∧ y'.snd.fst < y.snd.fst)) ∧ ((!Go.Sx.conj [y.snd.fst % Go.Sx.M256 == (0 : Nat)]) = Bool.false → ((!Go.Sx.conj [y.fst % Go.Sx.M256 == (1 : Nat)]) = Bool.true → ((0 : Nat) = x3 ∧ True) ∧ (5 : Int) = x4) ∧ ((!Go.Sx.conj [y.fst % Go.Sx.M256 == (1 : Nat)]) = Bool.false → ((if (57896044618658097711785492504343953926634992332820282019728792003956564819968 : Nat) ≤ wrN y.snd.snd.fst % Go.Sx.M256 then wrN y.snd.snd.fst + m else wrN y.snd.snd.fst) % Go.Sx.M256 = x3 ∧ True) ∧ (0 : Int) = x4))) := by kernel_rfl
-- END VC
-- VC vc_fInv HASH 8224b387e4246db1
theorem vc_fInv (a m : Nat) :
    Owes Tryz.prog cxInv [] 100 Tryz.f52 [sU a, sU m] (finvG a m) =
    (let x1 : Nat := m % Go.Sx.M256; let x2 : Nat := a % Go.Sx.M256; let x3 : Nat := invN x2 x1; let x4 : Nat := (if finvE a m = (0 : Int) then x3 else (0 : Nat)) % Go.Sx.M256; (Go.Sx.conj [x1 == (0 : Nat)] = Bool.true → ((0 : Nat) = x4 ∧ True) ∧ (7 : Int) = finvE a m) ∧ (Go.Sx.conj [x1 == (0 : Nat)] = Bool.false → (Decidable.decide (Go.Sx.cmpN a m ≥ (0 : Int)) = Bool.true → ((0 : Nat) = x4 ∧ True) ∧ (6 : Int) = finvE a m) ∧ (Decidable.decide (Go.Sx.cmpN a m ≥ (0 : Int)) = Bool.false → x2 < x1 ∧ (x3 % Go.Sx.M256 = x4 ∧ True) ∧ invE x2 x1 = finvE a m))) := by kernel_rfl
-- END VC

end Go.Proofs.YtbfcccoeekonlaaGreatDoor
end

section
/-
  Small curves by number; inverses: laws: reckoned by the kernel. (Laid by program.)
-/
namespace Go.Proofs.YtbfcccoeekonlaaGreatDoor
open Go.Sx
set_option maxRecDepth 100000
/-- The eight small curves. -/
def ixN (n : Int) : Nat := (n % 8).toNat
def cP (i : Nat) : Nat := [43, 67, 79, 139, 163, 211, 379, 691].getD i 0
def cB (i : Nat) : Nat := [7, 2, 6, 2, 3, 3, 2, 3].getD i 0
def cN (i : Nat) : Nat := [31, 73, 67, 163, 181, 199, 409, 643].getD i 0
def cX (i : Nat) : Nat := [2, 2, 5, 3, 1, 1, 5, 1].getD i 0
def cY (i : Nat) : Nat := [12, 12, 17, 53, 2, 2, 49, 2].getD i 0
def numG (k : Nat) : SV := .one (.sc (.num .i64 k))
def pickC (k : Nat) (a b : Int) : List Prop := [i64ok a, 0 < b ∧ b ≤ 1000000, a % b = (k : Int)]
def cxPickN (k : Nat) : Cx := [(19, specII (pickC k) fun _ _ => numG k)]
def curveS (i : Nat) : SA := .agg [.u (cP i), .u 0, .u (cB i), .u (cN i), .u (cX i), .u (cY i), .c (.bit false)]
def curveC : List (List At) → List Prop
  | [[.i n]] => [i64ok n]
  | _ => [False]
def curveG : List (List At) → SV
  | [[.i n]] => .one (curveS (ixN n))
  | _ => .tup []
-- VC vc_pickN HASH 40ae070577a1ccad
theorem vc_pickN (k : Nat) (a b : Int) :
    Owes Tryz.prog Cx.none [] 100 Tryz.f19 [sI .i64 a, sI .i64 b] (numG k) =
    (b ≠ (0 : Int) ∧ (Decidable.decide (a.tmod b < (0 : Int)) = Bool.true → Go.IntKind.i64.wrap (a.tmod b + b) = (↑k : Int)) ∧ (Decidable.decide (a.tmod b < (0 : Int)) = Bool.false → a.tmod b = (↑k : Int))) := by kernel_rfl
-- END VC
-- VC vc_Curve0 HASH c6df19f78b1c9960
theorem vc_Curve0 (n : Int) :
    Owes Tryz.prog (cxPickN 0) [] 100 Tryz.f6 [sI .i64 n] (curveG [[.i n]]) =
    (((-9223372036854775808 : Int) ≤ n ∧ n ≤ (9223372036854775807 : Int)) ∧ ((0 : Int) < (8 : Int) ∧ (8 : Int) ≤ (1000000 : Int)) ∧ n % (8 : Int) = (0 : Int) ∧ (43 : Nat) = cP (ixN n) % Go.Sx.M256 ∧ (0 : Nat) = (0 : Nat) ∧ (7 : Nat) = cB (ixN n) % Go.Sx.M256 ∧ (31 : Nat) = cN (ixN n) % Go.Sx.M256 ∧ (2 : Nat) = cX (ixN n) % Go.Sx.M256 ∧ (12 : Nat) = cY (ixN n) % Go.Sx.M256 ∧ Bool.false = Bool.false ∧ True) := by kernel_rfl
-- END VC
-- VC vc_Curve1 HASH b304bd8bc9dfa860
theorem vc_Curve1 (n : Int) :
    Owes Tryz.prog (cxPickN 1) [] 100 Tryz.f6 [sI .i64 n] (curveG [[.i n]]) =
    (((-9223372036854775808 : Int) ≤ n ∧ n ≤ (9223372036854775807 : Int)) ∧ ((0 : Int) < (8 : Int) ∧ (8 : Int) ≤ (1000000 : Int)) ∧ n % (8 : Int) = (1 : Int) ∧ (67 : Nat) = cP (ixN n) % Go.Sx.M256 ∧ (0 : Nat) = (0 : Nat) ∧ (2 : Nat) = cB (ixN n) % Go.Sx.M256 ∧ (73 : Nat) = cN (ixN n) % Go.Sx.M256 ∧ (2 : Nat) = cX (ixN n) % Go.Sx.M256 ∧ (12 : Nat) = cY (ixN n) % Go.Sx.M256 ∧ Bool.false = Bool.false ∧ True) := by kernel_rfl
-- END VC
-- VC vc_Curve2 HASH 8eeed9d41717a311
theorem vc_Curve2 (n : Int) :
    Owes Tryz.prog (cxPickN 2) [] 100 Tryz.f6 [sI .i64 n] (curveG [[.i n]]) =
    (((-9223372036854775808 : Int) ≤ n ∧ n ≤ (9223372036854775807 : Int)) ∧ ((0 : Int) < (8 : Int) ∧ (8 : Int) ≤ (1000000 : Int)) ∧ n % (8 : Int) = (2 : Int) ∧ (79 : Nat) = cP (ixN n) % Go.Sx.M256 ∧ (0 : Nat) = (0 : Nat) ∧ (6 : Nat) = cB (ixN n) % Go.Sx.M256 ∧ (67 : Nat) = cN (ixN n) % Go.Sx.M256 ∧ (5 : Nat) = cX (ixN n) % Go.Sx.M256 ∧ (17 : Nat) = cY (ixN n) % Go.Sx.M256 ∧ Bool.false = Bool.false ∧ True) := by kernel_rfl
-- END VC
-- VC vc_Curve3 HASH edd3d159bacb37cd
theorem vc_Curve3 (n : Int) :
    Owes Tryz.prog (cxPickN 3) [] 100 Tryz.f6 [sI .i64 n] (curveG [[.i n]]) =
    (((-9223372036854775808 : Int) ≤ n ∧ n ≤ (9223372036854775807 : Int)) ∧ ((0 : Int) < (8 : Int) ∧ (8 : Int) ≤ (1000000 : Int)) ∧ n % (8 : Int) = (3 : Int) ∧ (139 : Nat) = cP (ixN n) % Go.Sx.M256 ∧ (0 : Nat) = (0 : Nat) ∧ (2 : Nat) = cB (ixN n) % Go.Sx.M256 ∧ (163 : Nat) = cN (ixN n) % Go.Sx.M256 ∧ (3 : Nat) = cX (ixN n) % Go.Sx.M256 ∧ (53 : Nat) = cY (ixN n) % Go.Sx.M256 ∧ Bool.false = Bool.false ∧ True) := by kernel_rfl
-- END VC
-- VC vc_Curve4 HASH bd8a297845c76007
theorem vc_Curve4 (n : Int) :
    Owes Tryz.prog (cxPickN 4) [] 100 Tryz.f6 [sI .i64 n] (curveG [[.i n]]) =
    (((-9223372036854775808 : Int) ≤ n ∧ n ≤ (9223372036854775807 : Int)) ∧ ((0 : Int) < (8 : Int) ∧ (8 : Int) ≤ (1000000 : Int)) ∧ n % (8 : Int) = (4 : Int) ∧ (163 : Nat) = cP (ixN n) % Go.Sx.M256 ∧ (0 : Nat) = (0 : Nat) ∧ (3 : Nat) = cB (ixN n) % Go.Sx.M256 ∧ (181 : Nat) = cN (ixN n) % Go.Sx.M256 ∧ (1 : Nat) = cX (ixN n) % Go.Sx.M256 ∧ (2 : Nat) = cY (ixN n) % Go.Sx.M256 ∧ Bool.false = Bool.false ∧ True) := by kernel_rfl
-- END VC
-- VC vc_Curve5 HASH 84bd21fd696db28f
theorem vc_Curve5 (n : Int) :
    Owes Tryz.prog (cxPickN 5) [] 100 Tryz.f6 [sI .i64 n] (curveG [[.i n]]) =
    (((-9223372036854775808 : Int) ≤ n ∧ n ≤ (9223372036854775807 : Int)) ∧ ((0 : Int) < (8 : Int) ∧ (8 : Int) ≤ (1000000 : Int)) ∧ n % (8 : Int) = (5 : Int) ∧ (211 : Nat) = cP (ixN n) % Go.Sx.M256 ∧ (0 : Nat) = (0 : Nat) ∧ (3 : Nat) = cB (ixN n) % Go.Sx.M256 ∧ (199 : Nat) = cN (ixN n) % Go.Sx.M256 ∧ (1 : Nat) = cX (ixN n) % Go.Sx.M256 ∧ (2 : Nat) = cY (ixN n) % Go.Sx.M256 ∧ Bool.false = Bool.false ∧ True) := by kernel_rfl
-- END VC
-- VC vc_Curve6 HASH d8df98769e97661d
theorem vc_Curve6 (n : Int) :
    Owes Tryz.prog (cxPickN 6) [] 100 Tryz.f6 [sI .i64 n] (curveG [[.i n]]) =
    (((-9223372036854775808 : Int) ≤ n ∧ n ≤ (9223372036854775807 : Int)) ∧ ((0 : Int) < (8 : Int) ∧ (8 : Int) ≤ (1000000 : Int)) ∧ n % (8 : Int) = (6 : Int) ∧ (379 : Nat) = cP (ixN n) % Go.Sx.M256 ∧ (0 : Nat) = (0 : Nat) ∧ (2 : Nat) = cB (ixN n) % Go.Sx.M256 ∧ (409 : Nat) = cN (ixN n) % Go.Sx.M256 ∧ (5 : Nat) = cX (ixN n) % Go.Sx.M256 ∧ (49 : Nat) = cY (ixN n) % Go.Sx.M256 ∧ Bool.false = Bool.false ∧ True) := by kernel_rfl
-- END VC
-- VC vc_Curve7 HASH b58ce194cfcd385d
theorem vc_Curve7 (n : Int) :
    Owes Tryz.prog (cxPickN 7) [] 100 Tryz.f6 [sI .i64 n] (curveG [[.i n]]) =
    (((-9223372036854775808 : Int) ≤ n ∧ n ≤ (9223372036854775807 : Int)) ∧ ((0 : Int) < (8 : Int) ∧ (8 : Int) ≤ (1000000 : Int)) ∧ n % (8 : Int) = (7 : Int) ∧ (691 : Nat) = cP (ixN n) % Go.Sx.M256 ∧ (0 : Nat) = (0 : Nat) ∧ (3 : Nat) = cB (ixN n) % Go.Sx.M256 ∧ (643 : Nat) = cN (ixN n) % Go.Sx.M256 ∧ (1 : Nat) = cX (ixN n) % Go.Sx.M256 ∧ (2 : Nat) = cY (ixN n) % Go.Sx.M256 ∧ Bool.false = Bool.false ∧ True) := by kernel_rfl
-- END VC
-- VC vc_pickBig HASH c70aa24e9f6edddb
theorem vc_pickBig (a b : Int) :
    Owes Tryz.prog Cx.none [] 100 Tryz.f19 [sI .i64 a, sI .i64 b] (pickedG a b) =
    (let x1 : Int := a % b; b ≠ (0 : Int) ∧ (Decidable.decide (a.tmod b < (0 : Int)) = Bool.true → Go.IntKind.i64.wrap (a.tmod b + b) = x1) ∧ (Decidable.decide (a.tmod b < (0 : Int)) = Bool.false → a.tmod b = x1)) := by kernel_rfl
-- END VC
end Go.Proofs.YtbfcccoeekonlaaGreatDoor
end
