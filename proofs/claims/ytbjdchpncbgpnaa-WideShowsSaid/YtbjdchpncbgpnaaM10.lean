/-
  Texts: V5, V7, V6, V4, P1, P2, P3, P4, P5, P6, P7, C1, C2, P9, P12, P13, P14, P15, P16, P18, P19, P20, P21, P22, V64, P108, P17, V67, P111, P10, V68, P112, P113.
-/
import Derived.Test.YtbjdchpncbgpnaaM1
import Derived.Test.YtbjdchpncbgpnaaM2
import Derived.Test.YtbjdchpncbgpnaaM3
import Derived.Test.YtbjdchpncbgpnaaM4
import Derived.Test.YtbjdchpncbgpnaaM5
import Derived.Test.YtbjdchpncbgpnaaM6
import Derived.Test.YtbjdchpncbgpnaaM7
import Derived.Test.YtbjdchpncbgpnaaM8
import Derived.Test.YtbjdchpncbgpnaaM9
import Derived.Lib.Mul64
section
/-
  The library's counting of bits, and its quotient of two words by one: reckoned by the kernel. (Laid by program.)
-/
namespace Go.Proofs.Ytbjdchpncbgpnaa
open Go.Sx
set_option maxRecDepth 100000
def cxLz : Cx := [(95, specW lenG)]
def cxDiv64 : Cx := [(90, specW lzG)]
/-- At the heads of the two loops: the digit and what it leaves. h', l' are the two words moved, y1, y0 the divisor's halves, U the upper word, w1, w0 the lower word's halves, s the shift. -/
structure DivAt where
  q : Nat
  r : Nat
def invDiv1 (h l _ s y' y1 y0 U L w1 w0 : Int) : Inv where
  X := DivAt
  tm x := slotsAt 135 [(0, .one (sI .u64 h)), (1, .one (sI .u64 l)), (2, .one (sI .u64 y')), (8, .one (sI .u64 s)), (9, .one (sI .u64 y1)), (10, .one (sI .u64 y0)), (11, .one (sI .u64 U)), (12, .one (sI .u64 L)), (13, .one (sI .u64 w1)), (14, .one (sI .u64 w0)), (15, .one (sI .u64 x.q)), (16, .one (sI .u64 x.r)), (6, .one (.sc (.num .u64 0))), (7, .one (.sc (.num .u64 0)))]
  ob _ := []
  holds x := (x.q : Int) * y1 + x.r = U ∧ x.r < 4294967296 ∧ (U * 4294967296 + w1) / y' ≤ x.q ∧ x.q ≤ 4294967297
  less x := x.q
def invDiv2 (h l _ s y' y1 y0 U L w1 w0 q1 V : Int) : Inv where
  X := DivAt
  tm x := slotsAt 135 [(0, .one (sI .u64 h)), (1, .one (sI .u64 l)), (2, .one (sI .u64 y')), (8, .one (sI .u64 s)), (9, .one (sI .u64 y1)), (10, .one (sI .u64 y0)), (11, .one (sI .u64 U)), (12, .one (sI .u64 L)), (13, .one (sI .u64 w1)), (14, .one (sI .u64 w0)), (15, .one (sI .u64 q1)), (17, .one (sI .u64 V)), (18, .one (sI .u64 x.q)), (16, .one (sI .u64 x.r)), (6, .one (.sc (.num .u64 0))), (7, .one (.sc (.num .u64 0)))]
  ob _ := []
  holds x := (x.q : Int) * y1 + x.r = V ∧ x.r < 4294967296 ∧ (V * 4294967296 + w0) / y' ≤ x.q ∧ x.q ≤ 4294967297
  less x := x.q
def shY (y : Int) : Int := y * 2 ^ (64 - lenN y).toNat
def shU (h l y : Int) : Int := h * 2 ^ (64 - lenN y).toNat + l / 2 ^ (lenN y).toNat
def shL (l y : Int) : Int := l * 2 ^ (64 - lenN y).toNat % 18446744073709551616
def dq1 (h l y : Int) : Int := (shU h l y * 4294967296 + shL l y / 4294967296) / shY y
def dV (h l y : Int) : Int := (shU h l y * 4294967296 + shL l y / 4294967296) % shY y
def ivDiv (h l y : Int) : List (Nat × Hint) :=
  [(17, .inv (invDiv1 h l y (64 - lenN y) (shY y) (shY y / 4294967296) (shY y % 4294967296) (shU h l y) (shL l y) (shL l y / 4294967296) (shL l y % 4294967296))),
   (24, .inv (invDiv2 h l y (64 - lenN y) (shY y) (shY y / 4294967296) (shY y % 4294967296) (shU h l y) (shL l y) (shL l y / 4294967296) (shL l y % 4294967296) (dq1 h l y) (dV h l y)))]
-- VC vc_Len64 HASH dd73c16809bf9018
def lit_650f3990 : ByteArray := { data := (([(0 : UInt8), (1 : UInt8), (2 : UInt8), (2 : UInt8), (3 : UInt8), (3 : UInt8), (3 : UInt8), (3 : UInt8), (4 : UInt8), (4 : UInt8), (4 : UInt8), (4 : UInt8), (4 : UInt8), (4 : UInt8), (4 : UInt8), (4 : UInt8), (5 : UInt8), (5 : UInt8), (5 : UInt8), (5 : UInt8), (5 : UInt8), (5 : UInt8), (5 : UInt8), (5 : UInt8), (5 : UInt8), (5 : UInt8), (5 : UInt8), (5 : UInt8), (5 : UInt8), (5 : UInt8), (5 : UInt8), (5 : UInt8), (6 : UInt8), (6 : UInt8), (6 : UInt8), (6 : UInt8), (6 : UInt8), (6 : UInt8), (6 : UInt8), (6 : UInt8), (6 : UInt8), (6 : UInt8), (6 : UInt8), (6 : UInt8), (6 : UInt8), (6 : UInt8), (6 : UInt8), (6 : UInt8), (6 : UInt8), (6 : UInt8), (6 : UInt8), (6 : UInt8), (6 : UInt8), (6 : UInt8), (6 : UInt8), (6 : UInt8), (6 : UInt8), (6 : UInt8), (6 : UInt8), (6 : UInt8), (6 : UInt8), (6 : UInt8), (6 : UInt8), (6 : UInt8)].append [(7 : UInt8), (7 : UInt8), (7 : UInt8), (7 : UInt8), (7 : UInt8), (7 : UInt8), (7 : UInt8), (7 : UInt8), (7 : UInt8), (7 : UInt8), (7 : UInt8), (7 : UInt8), (7 : UInt8), (7 : UInt8), (7 : UInt8), (7 : UInt8), (7 : UInt8), (7 : UInt8), (7 : UInt8), (7 : UInt8), (7 : UInt8), (7 : UInt8), (7 : UInt8), (7 : UInt8), (7 : UInt8), (7 : UInt8), (7 : UInt8), (7 : UInt8), (7 : UInt8), (7 : UInt8), (7 : UInt8), (7 : UInt8), (7 : UInt8), (7 : UInt8), (7 : UInt8), (7 : UInt8), (7 : UInt8), (7 : UInt8), (7 : UInt8), (7 : UInt8), (7 : UInt8), (7 : UInt8), (7 : UInt8), (7 : UInt8), (7 : UInt8), (7 : UInt8), (7 : UInt8), (7 : UInt8), (7 : UInt8), (7 : UInt8), (7 : UInt8), (7 : UInt8), (7 : UInt8), (7 : UInt8), (7 : UInt8), (7 : UInt8), (7 : UInt8), (7 : UInt8), (7 : UInt8), (7 : UInt8), (7 : UInt8), (7 : UInt8), (7 : UInt8), (7 : UInt8)]).append ([(8 : UInt8), (8 : UInt8), (8 : UInt8), (8 : UInt8), (8 : UInt8), (8 : UInt8), (8 : UInt8), (8 : UInt8), (8 : UInt8), (8 : UInt8), (8 : UInt8), (8 : UInt8), (8 : UInt8), (8 : UInt8), (8 : UInt8), (8 : UInt8), (8 : UInt8), (8 : UInt8), (8 : UInt8), (8 : UInt8), (8 : UInt8), (8 : UInt8), (8 : UInt8), (8 : UInt8), (8 : UInt8), (8 : UInt8), (8 : UInt8), (8 : UInt8), (8 : UInt8), (8 : UInt8), (8 : UInt8), (8 : UInt8), (8 : UInt8), (8 : UInt8), (8 : UInt8), (8 : UInt8), (8 : UInt8), (8 : UInt8), (8 : UInt8), (8 : UInt8), (8 : UInt8), (8 : UInt8), (8 : UInt8), (8 : UInt8), (8 : UInt8), (8 : UInt8), (8 : UInt8), (8 : UInt8), (8 : UInt8), (8 : UInt8), (8 : UInt8), (8 : UInt8), (8 : UInt8), (8 : UInt8), (8 : UInt8), (8 : UInt8), (8 : UInt8), (8 : UInt8), (8 : UInt8), (8 : UInt8), (8 : UInt8), (8 : UInt8), (8 : UInt8), (8 : UInt8)].append [(8 : UInt8), (8 : UInt8), (8 : UInt8), (8 : UInt8), (8 : UInt8), (8 : UInt8), (8 : UInt8), (8 : UInt8), (8 : UInt8), (8 : UInt8), (8 : UInt8), (8 : UInt8), (8 : UInt8), (8 : UInt8), (8 : UInt8), (8 : UInt8), (8 : UInt8), (8 : UInt8), (8 : UInt8), (8 : UInt8), (8 : UInt8), (8 : UInt8), (8 : UInt8), (8 : UInt8), (8 : UInt8), (8 : UInt8), (8 : UInt8), (8 : UInt8), (8 : UInt8), (8 : UInt8), (8 : UInt8), (8 : UInt8), (8 : UInt8), (8 : UInt8), (8 : UInt8), (8 : UInt8), (8 : UInt8), (8 : UInt8), (8 : UInt8), (8 : UInt8), (8 : UInt8), (8 : UInt8), (8 : UInt8), (8 : UInt8), (8 : UInt8), (8 : UInt8), (8 : UInt8), (8 : UInt8), (8 : UInt8), (8 : UInt8), (8 : UInt8), (8 : UInt8), (8 : UInt8), (8 : UInt8), (8 : UInt8), (8 : UInt8), (8 : UInt8), (8 : UInt8), (8 : UInt8), (8 : UInt8), (8 : UInt8), (8 : UInt8), (8 : UInt8), (8 : UInt8)])).toArray }
theorem vc_Len64 (x : Int) :
    Owes Try.prog Cx.none [] 100 Try.f95 [sI .u64 x] (lenG x) =
    (let x1 : Int := (x.fdiv (4294967296 : Int)).fdiv (65536 : Int); let x2 : Int := Go.IntKind.u8.wrap (x1.fdiv (256 : Int)); let x3 : Nat := x2.toNat; let x4 : Int := Go.IntKind.u8.wrap x1; let x5 : Nat := x4.toNat; let x6 : Int := Go.IntKind.u8.wrap ((x.fdiv (4294967296 : Int)).fdiv (256 : Int)); let x7 : Nat := x6.toNat; let x8 : Int := Go.IntKind.u8.wrap (x.fdiv (4294967296 : Int)); let x9 : Nat := x8.toNat; let x10 : Int := Go.IntKind.u8.wrap ((x.fdiv (65536 : Int)).fdiv (256 : Int)); let x11 : Nat := x10.toNat; let x12 : Int := Go.IntKind.u8.wrap (x.fdiv (65536 : Int)); let x13 : Nat := x12.toNat; let x14 : Int := Go.IntKind.u8.wrap (x.fdiv (256 : Int)); let x15 : Nat := x14.toNat; (Decidable.decide (x ≥ (4294967296 : Int)) = Bool.true → (Decidable.decide (x.fdiv (4294967296 : Int) ≥ (65536 : Int)) = Bool.true → (Decidable.decide (x1 ≥ (256 : Int)) = Bool.true → ((0 : Int) ≤ x2 ∧ x3 < (256 : Nat)) ∧ Go.IntKind.i64.wrap ((56 : Int) + Go.IntKind.i64.wrap (↑(lit_650f3990.data.getD x3 (0 : UInt8)).toNat : Int)) = Go.Sx.lenN x) ∧ (Decidable.decide (x1 ≥ (256 : Int)) = Bool.false → ((0 : Int) ≤ x4 ∧ x5 < (256 : Nat)) ∧ Go.IntKind.i64.wrap ((48 : Int) + Go.IntKind.i64.wrap (↑(lit_650f3990.data.getD x5 (0 : UInt8)).toNat : Int)) = Go.Sx.lenN x)) ∧ (Decidable.decide (x.fdiv (4294967296 : Int) ≥ (65536 : Int)) = Bool.false → (Decidable.decide (x.fdiv (4294967296 : Int) ≥ (256 : Int)) = Bool.true → ((0 : Int) ≤ x6 ∧ x7 < (256 : Nat)) ∧ Go.IntKind.i64.wrap ((40 : Int) + Go.IntKind.i64.wrap (↑(lit_650f3990.data.getD x7 (0 : UInt8)).toNat : Int)) = Go.Sx.lenN x) ∧ (Decidable.decide (x.fdiv (4294967296 : Int) ≥ (256 : Int)) = Bool.false → ((0 : Int) ≤ x8 ∧ x9 < (256 : Nat)) ∧ Go.IntKind.i64.wrap ((32 : Int) + Go.IntKind.i64.wrap (↑(lit_650f3990.data.getD x9 (0 : UInt8)).toNat : Int)) = Go.Sx.lenN x))) ∧ (Decidable.decide (x ≥ (4294967296 : Int)) = Bool.false → (Decidable.decide (x ≥ (65536 : Int)) = Bool.true → (Decidable.decide (x.fdiv (65536 : Int) ≥ (256 : Int)) = Bool.true → ((0 : Int) ≤ x10 ∧ x11 < (256 : Nat)) ∧ Go.IntKind.i64.wrap ((24 : Int) + Go.IntKind.i64.wrap (↑(lit_650f3990.data.getD x11 (0 : UInt8)).toNat : Int)) = Go.Sx.lenN x) ∧ (Decidable.decide (x.fdiv (65536 : Int) ≥ (256 : Int)) = Bool.false → ((0 : Int) ≤ x12 ∧ x13 < (256 : Nat)) ∧ Go.IntKind.i64.wrap ((16 : Int) + Go.IntKind.i64.wrap (↑(lit_650f3990.data.getD x13 (0 : UInt8)).toNat : Int)) = Go.Sx.lenN x)) ∧ (Decidable.decide (x ≥ (65536 : Int)) = Bool.false → (Decidable.decide (x ≥ (256 : Int)) = Bool.true → ((0 : Int) ≤ x14 ∧ x15 < (256 : Nat)) ∧ Go.IntKind.i64.wrap ((8 : Int) + Go.IntKind.i64.wrap (↑(lit_650f3990.data.getD x15 (0 : UInt8)).toNat : Int)) = Go.Sx.lenN x) ∧ (Decidable.decide (x ≥ (256 : Int)) = Bool.false → ((0 : Int) ≤ Go.IntKind.u8.wrap x ∧ (Go.IntKind.u8.wrap x).toNat < (256 : Nat)) ∧ Go.IntKind.i64.wrap ((0 : Int) + Go.IntKind.i64.wrap (↑(lit_650f3990.data.getD (Go.IntKind.u8.wrap x).toNat (0 : UInt8)).toNat : Int)) = Go.Sx.lenN x)))) := by kernel_rfl
-- END VC
-- VC vc_LZ64 HASH 23bea001194db56a
theorem vc_LZ64 (x : Int) :
    Owes Try.prog cxLz [] 100 Try.f90 [sI .u64 x] (lzG x) =
    (let x1 : Int := (64 : Int) - Go.Sx.lenN x; ((0 : Int) ≤ x ∧ x < (18446744073709551616 : Int)) ∧ Go.IntKind.i64.wrap x1 = x1) := by kernel_rfl
-- END VC
-- VC vc_Div64 HASH 489e86658c03af1a
theorem vc_Div64 (h l y : Int) :
    Owes Try.prog cxDiv64 (ivDiv h l y) 100 Try.f74 [sI .u64 h, sI .u64 l, sI .u64 y] (divG h l y) =
    (let x1 : Int := h * (18446744073709551616 : Int) + l; let x2 : Int := x1 / y; let x3 : Int := x1 % y; let x4 : Int := (64 : Int) - Go.Sx.lenN y; let x5 : Int := Go.IntKind.u64.wrap x4; let x6 : Int := Go.IntKind.u64.wrap ((64 : Int) - x5); let x7 : Int := (2 : Int) ^ Min.min x5.toNat (64 : Nat); let x8 : Int := Go.IntKind.u64.wrap (y * x7); let x9 : Int := x8.fdiv (4294967296 : Int); let x10 : Int := shY y / (4294967296 : Int); let x11 : Int := shY y % (4294967296 : Int); let x12 : Int := shL l y / (4294967296 : Int); let x13 : Int := shL l y % (4294967296 : Int); let x14 : Int := shU h l y * (4294967296 : Int); let x15 : Int := Go.IntKind.u64.wrap (↑(BitVec.ofInt (64 : Nat) (Go.IntKind.u64.wrap (h * x7)) ||| BitVec.ofInt (64 : Nat) (l.fdiv ((2 : Int) ^ Min.min x6.toNat (64 : Nat)))).toNat : Int); let x16 : Int := Go.IntKind.u64.wrap (l * x7); let x17 : Int := Go.IntKind.u64.wrap (x15.tdiv x9); let x18 : Int := dV h l y * (4294967296 : Int); let x19 : Int := (2 : Int) ^ Min.min x4.toNat (64 : Nat); ((y == (0 : Int)) = Bool.true → Go.Sx.Stuck { dst := Option.some (21 : Nat), op := Go.Op.load (96 : Nat) (Go.Operand.global (0 : Nat)), type := (96 : Nat), pos := "bits.go:520", after := #[], guard := Option.none }) ∧ ((y == (0 : Int)) = Bool.false → (Decidable.decide (y ≤ h) = Bool.true → Go.Sx.Stuck { dst := Option.some (25 : Nat), op := Go.Op.load (96 : Nat) (Go.Operand.global (1 : Nat)), type := (96 : Nat), pos := "bits.go:523", after := #[], guard := Option.none }) ∧ (Decidable.decide (y ≤ h) = Bool.false → ((h == (0 : Int)) = Bool.true → y ≠ (0 : Int) ∧ y ≠ (0 : Int) ∧ Go.IntKind.u64.wrap (l.tdiv y) = x2 ∧ l.tmod y = x3) ∧ ((h == (0 : Int)) = Bool.false → ((0 : Int) ≤ y ∧ y < (18446744073709551616 : Int)) ∧ (0 : Int) ≤ x5 ∧ (0 : Int) ≤ x5 ∧ (0 : Int) ≤ x6 ∧ (0 : Int) ≤ x5 ∧ x9 ≠ (0 : Int) ∧ (∀ (y_1 : DivAt), Go.Sx.closedB (Go.Sx.slotsAt (135 : Nat) [((0 : Nat), Go.Sx.SV.one (Go.Sx.sI Go.IntKind.u64 h)), ((1 : Nat), Go.Sx.SV.one (Go.Sx.sI Go.IntKind.u64 l)), ((2 : Nat), Go.Sx.SV.one (Go.Sx.sI Go.IntKind.u64 (shY y))), ((8 : Nat), Go.Sx.SV.one (Go.Sx.sI Go.IntKind.u64 x4)), ((9 : Nat), Go.Sx.SV.one (Go.Sx.sI Go.IntKind.u64 x10)), ((10 : Nat), Go.Sx.SV.one (Go.Sx.sI Go.IntKind.u64 x11)), ((11 : Nat), Go.Sx.SV.one (Go.Sx.sI Go.IntKind.u64 (shU h l y))), ((12 : Nat), Go.Sx.SV.one (Go.Sx.sI Go.IntKind.u64 (shL l y))), ((13 : Nat), Go.Sx.SV.one (Go.Sx.sI Go.IntKind.u64 x12)), ((14 : Nat), Go.Sx.SV.one (Go.Sx.sI Go.IntKind.u64 x13)), ((15 : Nat), Go.Sx.SV.one (Go.Sx.sI Go.IntKind.u64 (↑y_1.q : Int))), ((16 : Nat), Go.Sx.SV.one (Go.Sx.sI Go.IntKind.u64 (↑y_1.r : Int))), ((6 : Nat), Go.Sx.SV.one (Go.Sx.SA.sc (Go.Sx.SC.num Go.IntKind.u64 (0 : Int)))), ((7 : Nat), Go.Sx.SV.one (Go.Sx.SA.sc (Go.Sx.SC.num Go.IntKind.u64 (0 : Int))))]) [] = Bool.true) ∧ ∃ (y_1 : DivAt), ((↑y_1.q : Int) * x10 + (↑y_1.r : Int) = shU h l y ∧ y_1.r < (4294967296 : Nat) ∧ (x14 + x12) / shY y ≤ (↑y_1.q : Int) ∧ y_1.q ≤ (4294967297 : Nat)) ∧ h = h ∧ l = l ∧ x8 = shY y ∧ x5 = x4 ∧ x9 = x10 ∧ Go.IntKind.u64.wrap (↑(BitVec.ofInt (64 : Nat) x8 &&& BitVec.ofInt (64 : Nat) (4294967295 : Int)).toNat : Int) = x11 ∧ x15 = shU h l y ∧ x16 = shL l y ∧ x16.fdiv (4294967296 : Int) = x12 ∧ Go.IntKind.u64.wrap (↑(BitVec.ofInt (64 : Nat) x16 &&& BitVec.ofInt (64 : Nat) (4294967295 : Int)).toNat : Int) = x13 ∧ x17 = (↑y_1.q : Int) ∧ Go.IntKind.u64.wrap (x15 - Go.IntKind.u64.wrap (x17 * x9)) = (↑y_1.r : Int) ∧ ∀ (y_2 : DivAt), (↑y_2.q : Int) * x10 + (↑y_2.r : Int) = shU h l y ∧ y_2.r < (4294967296 : Nat) ∧ (x14 + x12) / shY y ≤ (↑y_2.q : Int) ∧ y_2.q ≤ (4294967297 : Nat) → ((!Decidable.decide ((↑y_2.q : Int) ≥ (4294967296 : Int))) = Bool.true → (!Decidable.decide ((↑y_2.q : Int) ≥ (4294967296 : Int))) = Bool.true) ∧ ((!Decidable.decide ((↑y_2.q : Int) ≥ (4294967296 : Int))) = Bool.true → (!Decidable.decide ((↑y_2.q : Int) ≥ (4294967296 : Int))) = Bool.true) ∧ ((!Decidable.decide ((↑y_2.q : Int) ≥ (4294967296 : Int))) = Bool.true → (!Decidable.decide ((↑y_2.q : Int) ≥ (4294967296 : Int))) = Bool.true) ∧ ((!Decidable.decide ((↑y_2.q : Int) ≥ (4294967296 : Int))) = Bool.true → (!Decidable.decide ((↑y_2.q : Int) ≥ (4294967296 : Int))) = Bool.true) ∧ ((!Decidable.decide ((↑y_2.q : Int) ≥ (4294967296 : Int))) = Bool.true → (!Decidable.decide ((↑y_2.q : Int) ≥ (4294967296 : Int))) = Bool.true) ∧ ((!Decidable.decide ((↑y_2.q : Int) ≥ (4294967296 : Int))) = Bool.true → (!Decidable.decide ((↑y_2.q : Int) ≥ (4294967296 : Int))) = Bool.true) ∧ ((!Decidable.decide ((↑y_2.q : Int) ≥ (4294967296 : Int))) = Bool.true → (!Decidable.decide ((↑y_2.q : Int) ≥ (4294967296 : Int))) = Bool.true) ∧ (Decidable.decide ((↑y_2.q : Int) ≥ (4294967296 : Int)) = Bool.false → (!Decidable.decide ((↑y_2.q : Int) ≥ (4294967296 : Int))) = Bool.true) ∧ ((Decidable.decide ((↑y_2.q : Int) ≥ (4294967296 : Int)) || Decidable.decide (Go.IntKind.u64.wrap ((↑y_2.q : Int) * x11) > Go.IntKind.u64.wrap (Go.IntKind.u64.wrap ((4294967296 : Int) * (↑y_2.r : Int)) + x12))) = Bool.true → (Decidable.decide (Go.IntKind.u64.wrap ((↑y_2.r : Int) + x10) ≥ (4294967296 : Int)) = Bool.true → x10 ≠ (0 : Int) ∧ (∀ (y_3 : DivAt), Go.Sx.closedB (Go.Sx.slotsAt (135 : Nat) [((0 : Nat), Go.Sx.SV.one (Go.Sx.sI Go.IntKind.u64 h)), ((1 : Nat), Go.Sx.SV.one (Go.Sx.sI Go.IntKind.u64 l)), ((2 : Nat), Go.Sx.SV.one (Go.Sx.sI Go.IntKind.u64 (shY y))), ((8 : Nat), Go.Sx.SV.one (Go.Sx.sI Go.IntKind.u64 x4)), ((9 : Nat), Go.Sx.SV.one (Go.Sx.sI Go.IntKind.u64 x10)), ((10 : Nat), Go.Sx.SV.one (Go.Sx.sI Go.IntKind.u64 x11)), ((11 : Nat), Go.Sx.SV.one (Go.Sx.sI Go.IntKind.u64 (shU h l y))), ((12 : Nat), Go.Sx.SV.one (Go.Sx.sI Go.IntKind.u64 (shL l y))), ((13 : Nat), Go.Sx.SV.one (Go.Sx.sI Go.IntKind.u64 x12)), ((14 : Nat), Go.Sx.SV.one (Go.Sx.sI Go.IntKind.u64 x13)), ((15 : Nat), Go.Sx.SV.one (Go.Sx.sI Go.IntKind.u64 (dq1 h l y))), ((17 : Nat), Go.Sx.SV.one (Go.Sx.sI Go.IntKind.u64 (dV h l y))), ((18 : Nat), Go.Sx.SV.one (Go.Sx.sI Go.IntKind.u64 (↑y_3.q : Int))), ((16 : Nat), Go.Sx.SV.one (Go.Sx.sI Go.IntKind.u64 (↑y_3.r : Int))), ((6 : Nat), Go.Sx.SV.one (Go.Sx.SA.sc (Go.Sx.SC.num Go.IntKind.u64 (0 : Int)))), ((7 : Nat), Go.Sx.SV.one (Go.Sx.SA.sc (Go.Sx.SC.num Go.IntKind.u64 (0 : Int))))]) [] = Bool.true) ∧ ∃ (y_3 : DivAt), ((↑y_3.q : Int) * x10 + (↑y_3.r : Int) = dV h l y ∧ y_3.r < (4294967296 : Nat) ∧ (x18 + x13) / shY y ≤ (↑y_3.q : Int) ∧ y_3.q ≤ (4294967297 : Nat)) ∧ h = h ∧ l = l ∧ shY y = shY y ∧ x4 = x4 ∧ x10 = x10 ∧ x11 = x11 ∧ shU h l y = shU h l y ∧ shL l y = shL l y ∧ x12 = x12 ∧ x13 = x13 ∧ Go.IntKind.u64.wrap ((↑y_2.q : Int) - (1 : Int)) = dq1 h l y ∧ Go.IntKind.u64.wrap (Go.IntKind.u64.wrap (Go.IntKind.u64.wrap (Go.IntKind.u64.wrap x14 + x12) - Go.IntKind.u64.wrap (Go.IntKind.u64.wrap ((↑y_2.q : Int) - (1 : Int)) * shY y)) - Go.IntKind.u64.wrap (Go.IntKind.u64.wrap ((Go.IntKind.u64.wrap (Go.IntKind.u64.wrap (Go.IntKind.u64.wrap x14 + x12) - Go.IntKind.u64.wrap (Go.IntKind.u64.wrap ((↑y_2.q : Int) - (1 : Int)) * shY y))).tdiv x10) * x10)) = (↑y_3.r : Int) ∧ Go.IntKind.u64.wrap (Go.IntKind.u64.wrap (Go.IntKind.u64.wrap x14 + x12) - Go.IntKind.u64.wrap (Go.IntKind.u64.wrap ((↑y_2.q : Int) - (1 : Int)) * shY y)) = dV h l y ∧ Go.IntKind.u64.wrap ((Go.IntKind.u64.wrap (Go.IntKind.u64.wrap (Go.IntKind.u64.wrap x14 + x12) - Go.IntKind.u64.wrap (Go.IntKind.u64.wrap ((↑y_2.q : Int) - (1 : Int)) * shY y))).tdiv x10) = (↑y_3.q : Int) ∧ ∀ (y_4 : DivAt), (↑y_4.q : Int) * x10 + (↑y_4.r : Int) = dV h l y ∧ y_4.r < (4294967296 : Nat) ∧ (x18 + x13) / shY y ≤ (↑y_4.q : Int) ∧ y_4.q ≤ (4294967297 : Nat) → ((!Decidable.decide ((↑y_4.q : Int) ≥ (4294967296 : Int))) = Bool.true → (!Decidable.decide ((↑y_4.q : Int) ≥ (4294967296 : Int))) = Bool.true) ∧ ((!Decidable.decide ((↑y_4.q : Int) ≥ (4294967296 : Int))) = Bool.true → (!Decidable.decide ((↑y_4.q : Int) ≥ (4294967296 : Int))) = Bool.true) ∧ ((!Decidable.decide ((↑y_4.q : Int) ≥ (4294967296 : Int))) = Bool.true → (!Decidable.decide ((↑y_4.q : Int) ≥ (4294967296 : Int))) = Bool.true) ∧ ((!Decidable.decide ((↑y_4.q : Int) ≥ (4294967296 : Int))) = Bool.true → (!Decidable.decide ((↑y_4.q : Int) ≥ (4294967296 : Int))) = Bool.true) ∧ ((!Decidable.decide ((↑y_4.q : Int) ≥ (4294967296 : Int))) = Bool.true → (!Decidable.decide ((↑y_4.q : Int) ≥ (4294967296 : Int))) = Bool.true) ∧ ((!Decidable.decide ((↑y_4.q : Int) ≥ (4294967296 : Int))) = Bool.true → (!Decidable.decide ((↑y_4.q : Int) ≥ (4294967296 : Int))) = Bool.true) ∧ ((!Decidable.decide ((↑y_4.q : Int) ≥ (4294967296 : Int))) = Bool.true → (!Decidable.decide ((↑y_4.q : Int) ≥ (4294967296 : Int))) = Bool.true) ∧ (Decidable.decide ((↑y_4.q : Int) ≥ (4294967296 : Int)) = Bool.false → (!Decidable.decide ((↑y_4.q : Int) ≥ (4294967296 : Int))) = Bool.true) ∧ ((Decidable.decide ((↑y_4.q : Int) ≥ (4294967296 : Int)) || Decidable.decide (Go.IntKind.u64.wrap ((↑y_4.q : Int) * x11) > Go.IntKind.u64.wrap (Go.IntKind.u64.wrap ((4294967296 : Int) * (↑y_4.r : Int)) + x13))) = Bool.true → (Decidable.decide (Go.IntKind.u64.wrap ((↑y_4.r : Int) + x10) ≥ (4294967296 : Int)) = Bool.true → (0 : Int) ≤ x4 ∧ Go.IntKind.u64.wrap (Go.IntKind.u64.wrap (dq1 h l y * (4294967296 : Int)) + Go.IntKind.u64.wrap ((↑y_4.q : Int) - (1 : Int))) = x2 ∧ (Go.IntKind.u64.wrap (Go.IntKind.u64.wrap (Go.IntKind.u64.wrap x18 + x13) - Go.IntKind.u64.wrap (Go.IntKind.u64.wrap ((↑y_4.q : Int) - (1 : Int)) * shY y))).fdiv x19 = x3) ∧ (Decidable.decide (Go.IntKind.u64.wrap ((↑y_4.r : Int) + x10) ≥ (4294967296 : Int)) = Bool.false → ∃ (y' : DivAt), ((↑y'.q : Int) * x10 + (↑y'.r : Int) = dV h l y ∧ y'.r < (4294967296 : Nat) ∧ (x18 + x13) / shY y ≤ (↑y'.q : Int) ∧ y'.q ≤ (4294967297 : Nat)) ∧ h = h ∧ l = l ∧ shY y = shY y ∧ x4 = x4 ∧ x10 = x10 ∧ x11 = x11 ∧ shU h l y = shU h l y ∧ shL l y = shL l y ∧ x12 = x12 ∧ x13 = x13 ∧ dq1 h l y = dq1 h l y ∧ Go.IntKind.u64.wrap ((↑y_4.r : Int) + x10) = (↑y'.r : Int) ∧ dV h l y = dV h l y ∧ Go.IntKind.u64.wrap ((↑y_4.q : Int) - (1 : Int)) = (↑y'.q : Int) ∧ y'.q < y_4.q)) ∧ ((Decidable.decide ((↑y_4.q : Int) ≥ (4294967296 : Int)) || Decidable.decide (Go.IntKind.u64.wrap ((↑y_4.q : Int) * x11) > Go.IntKind.u64.wrap (Go.IntKind.u64.wrap ((4294967296 : Int) * (↑y_4.r : Int)) + x13))) = Bool.false → (0 : Int) ≤ x4 ∧ Go.IntKind.u64.wrap (Go.IntKind.u64.wrap (dq1 h l y * (4294967296 : Int)) + (↑y_4.q : Int)) = x2 ∧ (Go.IntKind.u64.wrap (Go.IntKind.u64.wrap (Go.IntKind.u64.wrap x18 + x13) - Go.IntKind.u64.wrap ((↑y_4.q : Int) * shY y))).fdiv x19 = x3)) ∧ (Decidable.decide (Go.IntKind.u64.wrap ((↑y_2.r : Int) + x10) ≥ (4294967296 : Int)) = Bool.false → ∃ (y' : DivAt), ((↑y'.q : Int) * x10 + (↑y'.r : Int) = shU h l y ∧ y'.r < (4294967296 : Nat) ∧ (x14 + x12) / shY y ≤ (↑y'.q : Int) ∧ y'.q ≤ (4294967297 : Nat)) ∧ h = h ∧ l = l ∧ shY y = shY y ∧ x4 = x4 ∧ x10 = x10 ∧ x11 = x11 ∧ shU h l y = shU h l y ∧ shL l y = shL l y ∧ x12 = x12 ∧ x13 = x13 ∧ Go.IntKind.u64.wrap ((↑y_2.q : Int) - (1 : Int)) = (↑y'.q : Int) ∧ Go.IntKind.u64.wrap ((↑y_2.r : Int) + x10) = (↑y'.r : Int) ∧ y'.q < y_2.q)) ∧ ((Decidable.decide ((↑y_2.q : Int) ≥ (4294967296 : Int)) || Decidable.decide (Go.IntKind.u64.wrap ((↑y_2.q : Int) * x11) > Go.IntKind.u64.wrap (Go.IntKind.u64.wrap ((4294967296 : Int) * (↑y_2.r : Int)) + x12))) = Bool.false → x10 ≠ (0 : Int) ∧ (∀ (y_3 : DivAt), Go.Sx.closedB (Go.Sx.slotsAt (135 : Nat) [((0 : Nat), Go.Sx.SV.one (Go.Sx.sI Go.IntKind.u64 h)), ((1 : Nat), Go.Sx.SV.one (Go.Sx.sI Go.IntKind.u64 l)), ((2 : Nat), Go.Sx.SV.one (Go.Sx.sI Go.IntKind.u64 (shY y))), ((8 : Nat), Go.Sx.SV.one (Go.Sx.sI Go.IntKind.u64 x4)), ((9 : Nat), Go.Sx.SV.one (Go.Sx.sI Go.IntKind.u64 x10)), ((10 : Nat), Go.Sx.SV.one (Go.Sx.sI Go.IntKind.u64 x11)), ((11 : Nat), Go.Sx.SV.one (Go.Sx.sI Go.IntKind.u64 (shU h l y))), ((12 : Nat), Go.Sx.SV.one (Go.Sx.sI Go.IntKind.u64 (shL l y))), ((13 : Nat), Go.Sx.SV.one (Go.Sx.sI Go.IntKind.u64 x12)), ((14 : Nat), Go.Sx.SV.one (Go.Sx.sI Go.IntKind.u64 x13)), ((15 : Nat), Go.Sx.SV.one (Go.Sx.sI Go.IntKind.u64 (dq1 h l y))), ((17 : Nat), Go.Sx.SV.one (Go.Sx.sI Go.IntKind.u64 (dV h l y))), ((18 : Nat), Go.Sx.SV.one (Go.Sx.sI Go.IntKind.u64 (↑y_3.q : Int))), ((16 : Nat), Go.Sx.SV.one (Go.Sx.sI Go.IntKind.u64 (↑y_3.r : Int))), ((6 : Nat), Go.Sx.SV.one (Go.Sx.SA.sc (Go.Sx.SC.num Go.IntKind.u64 (0 : Int)))), ((7 : Nat), Go.Sx.SV.one (Go.Sx.SA.sc (Go.Sx.SC.num Go.IntKind.u64 (0 : Int))))]) [] = Bool.true) ∧ ∃ (y_3 : DivAt), ((↑y_3.q : Int) * x10 + (↑y_3.r : Int) = dV h l y ∧ y_3.r < (4294967296 : Nat) ∧ (x18 + x13) / shY y ≤ (↑y_3.q : Int) ∧ y_3.q ≤ (4294967297 : Nat)) ∧ h = h ∧ l = l ∧ shY y = shY y ∧ x4 = x4 ∧ x10 = x10 ∧ x11 = x11 ∧ shU h l y = shU h l y ∧ shL l y = shL l y ∧ x12 = x12 ∧ x13 = x13 ∧ (↑y_2.q : Int) = dq1 h l y ∧ Go.IntKind.u64.wrap (Go.IntKind.u64.wrap (Go.IntKind.u64.wrap (Go.IntKind.u64.wrap x14 + x12) - Go.IntKind.u64.wrap ((↑y_2.q : Int) * shY y)) - Go.IntKind.u64.wrap (Go.IntKind.u64.wrap ((Go.IntKind.u64.wrap (Go.IntKind.u64.wrap (Go.IntKind.u64.wrap x14 + x12) - Go.IntKind.u64.wrap ((↑y_2.q : Int) * shY y))).tdiv x10) * x10)) = (↑y_3.r : Int) ∧ Go.IntKind.u64.wrap (Go.IntKind.u64.wrap (Go.IntKind.u64.wrap x14 + x12) - Go.IntKind.u64.wrap ((↑y_2.q : Int) * shY y)) = dV h l y ∧ Go.IntKind.u64.wrap ((Go.IntKind.u64.wrap (Go.IntKind.u64.wrap (Go.IntKind.u64.wrap x14 + x12) - Go.IntKind.u64.wrap ((↑y_2.q : Int) * shY y))).tdiv x10) = (↑y_3.q : Int) ∧ ∀ (y_4 : DivAt), (↑y_4.q : Int) * x10 + (↑y_4.r : Int) = dV h l y ∧ y_4.r < (4294967296 : Nat) ∧ (x18 + x13) / shY y ≤ (↑y_4.q : Int) ∧ y_4.q ≤ (4294967297 : Nat) → ((!Decidable.decide ((↑y_4.q : Int) ≥ (4294967296 : Int))) = Bool.true → (!Decidable.decide ((↑y_4.q : Int) ≥ (4294967296 : Int))) = Bool.true) ∧ ((!Decidable.decide ((↑y_4.q : Int) ≥ (4294967296 : Int))) = Bool.true → (!Decidable.decide ((↑y_4.q : Int) ≥ (4294967296 : Int))) = Bool.true) ∧ ((!Decidable.decide ((↑y_4.q : Int) ≥ (4294967296 : Int))) = Bool.true → (!Decidable.decide ((↑y_4.q : Int) ≥ (4294967296 : Int))) = Bool.true) ∧ ((!Decidable.decide ((↑y_4.q : Int) ≥ (4294967296 : Int))) = Bool.true → (!Decidable.decide ((↑y_4.q : Int) ≥ (4294967296 : Int))) = Bool.true) ∧ ((!Decidable.decide ((↑y_4.q : Int) ≥ (4294967296 : Int))) = Bool.true → (!Decidable.decide ((↑y_4.q : Int) ≥ (4294967296 : Int))) = Bool.true) ∧ ((!Decidable.decide ((↑y_4.q : Int) ≥ (4294967296 : Int))) = Bool.true → (!Decidable.decide ((↑y_4.q : Int) ≥ (4294967296 : Int))) = Bool.true) ∧ ((!Decidable.decide ((↑y_4.q : Int) ≥ (4294967296 : Int))) = Bool.true → (!Decidable.decide ((↑y_4.q : Int) ≥ (4294967296 : Int))) = Bool.true) ∧ (Decidable.decide ((↑y_4.q : Int) ≥ (4294967296 : Int)) = Bool.false → (!Decidable.decide ((↑y_4.q : Int) ≥ (4294967296 : Int))) = Bool.true) ∧ ((Decidable.decide ((↑y_4.q : Int) ≥ (4294967296 : Int)) || Decidable.decide (Go.IntKind.u64.wrap ((↑y_4.q : Int) * x11) > Go.IntKind.u64.wrap (Go.IntKind.u64.wrap ((4294967296 : Int) * (↑y_4.r : Int)) + x13))) = Bool.true → (Decidable.decide (Go.IntKind.u64.wrap ((↑y_4.r : Int) + x10) ≥ (4294967296 : Int)) = Bool.true → (0 : Int) ≤ x4 ∧ Go.IntKind.u64.wrap (Go.IntKind.u64.wrap (dq1 h l y * (4294967296 : Int)) + Go.IntKind.u64.wrap ((↑y_4.q : Int) - (1 : Int))) = x2 ∧ (Go.IntKind.u64.wrap (Go.IntKind.u64.wrap (Go.IntKind.u64.wrap x18 + x13) - Go.IntKind.u64.wrap (Go.IntKind.u64.wrap ((↑y_4.q : Int) - (1 : Int)) * shY y))).fdiv x19 = x3) ∧ (Decidable.decide (Go.IntKind.u64.wrap ((↑y_4.r : Int) + x10) ≥ (4294967296 : Int)) = Bool.false → ∃ (y' : DivAt), ((↑y'.q : Int) * x10 + (↑y'.r : Int) = dV h l y ∧ y'.r < (4294967296 : Nat) ∧ (x18 + x13) / shY y ≤ (↑y'.q : Int) ∧ y'.q ≤ (4294967297 : Nat)) ∧ h = h ∧ l = l ∧ shY y = shY y ∧ x4 = x4 ∧ x10 = x10 ∧ x11 = x11 ∧ shU h l y = shU h l y ∧ shL l y = shL l y ∧ x12 = x12 ∧ x13 = x13 ∧ dq1 h l y = dq1 h l y ∧ Go.IntKind.u64.wrap ((↑y_4.r : Int) + x10) = (↑y'.r : Int) ∧ dV h l y = dV h l y ∧ Go.IntKind.u64.wrap ((↑y_4.q : Int) - (1 : Int)) = (↑y'.q : Int) ∧ y'.q < y_4.q)) ∧ ((Decidable.decide ((↑y_4.q : Int) ≥ (4294967296 : Int)) || Decidable.decide (Go.IntKind.u64.wrap ((↑y_4.q : Int) * x11) > Go.IntKind.u64.wrap (Go.IntKind.u64.wrap ((4294967296 : Int) * (↑y_4.r : Int)) + x13))) = Bool.false → (0 : Int) ≤ x4 ∧ Go.IntKind.u64.wrap (Go.IntKind.u64.wrap (dq1 h l y * (4294967296 : Int)) + (↑y_4.q : Int)) = x2 ∧ (Go.IntKind.u64.wrap (Go.IntKind.u64.wrap (Go.IntKind.u64.wrap x18 + x13) - Go.IntKind.u64.wrap ((↑y_4.q : Int) * shY y))).fdiv x19 = x3)))))) := by kernel_rfl
-- END VC

end Go.Proofs.Ytbjdchpncbgpnaa
end

section
/-
  Quotients: reckoned by the kernel. (Laid by program.)
-/
namespace Go.Proofs.Ytbjdchpncbgpnaa
open Go.Sx
set_option maxRecDepth 100000
end Go.Proofs.Ytbjdchpncbgpnaa
end

section
/-
  Texts of numbers: reckoned by the kernel. (Laid by program.)
-/
namespace Go.Proofs.Ytbjdchpncbgpnaa
open Go.Sx
set_option maxRecDepth 100000
def splitG (a : Nat) (n : Int) : SV := .tup [sU (a % M256 / n.toNat), sI .u64 ((a % M256 % n.toNat : Nat) : Int)]
def splitC (_ : Nat) (n : Int) : List Prop := [1 ≤ n ∧ n < 18446744073709551616]
def cxSplit : Cx := [(74, specWWW divC divG)]
/-- The row of digits after k rounds. -/
def showF (n k : Nat) (j : Nat) : Int := if 78 - k ≤ j then ((48 + n / 10 ^ (77 - j) % 10 : Nat) : Int) else 0
/-- The text of a number of m digits. -/
def textOf (n m : Nat) : ByteArray := bytesI ((List.range m).map fun j => ((48 + n / 10 ^ (m - 1 - j) % 10 : Nat) : Int))
def lenD : Nat → Nat → Nat
  | 0, _ => 1
  | f + 1, n => if n / 10 = 0 then 1 else lenD f (n / 10) + 1
def showB (n : Nat) : ByteArray := textOf n (lenD 78 n)
def showG (a : Nat) : SV := .one (sStr (showB (a % M256)))
def cxShow : Cx := [(47, specUIC splitC splitG)]
def invShow (n : Nat) : Inv where
  X := Nat
  tm k := slotsAt 24 [(0, .one (sU n)), (1, .one (.sc (.ptr 0 0))), (2, .one (sStr ⟨#[]⟩)), (3, .one (.sc (.ptr 1 0))), (4, .one (sI .i64 ((78 - k : Nat) : Int)))]
  ob k := [.cells 24 [.u (n % M256 / 10 ^ k)] 0, .cells 59 [.f .u8 78 (showF (n % M256) k)] 0]
  holds k := k ≤ 77 ∧ (k = 0 ∨ n % M256 / 10 ^ k ≠ 0)
  less k := 78 - k
def byteAt (s : ByteArray) (j : Nat) : Nat := (s.data.getD j 0).toNat
-- VC vc_split HASH d031d0ef9a4ff770
theorem vc_split (a : Nat) (n : Int) :
    Owes Try.prog cxSplit [] 100 Try.f47 [sU a, sI .u64 n] (splitG a n) =
    (let x1 : Int := (0 : Int) + Go.Sx.limb a (3 : Nat); let x2 : Int := x1 % n; let x3 : Int := x2 * (18446744073709551616 : Int) + Go.Sx.limb a (2 : Nat); let x4 : Int := x3 % n; let x5 : Int := x4 * (18446744073709551616 : Int) + Go.Sx.limb a (1 : Nat); let x6 : Int := x5 % n; let x7 : Int := x6 * (18446744073709551616 : Int) + Go.Sx.limb a (0 : Nat); let x8 : Int := x7 / n; let x9 : Int := x5 / n; let x10 : Int := x3 / n; let x11 : Int := x1 / n; let x12 : Nat := a % Go.Sx.M256; ((0 : Int) ≤ (0 : Int) ∧ (0 : Int) < (18446744073709551616 : Int)) ∧ ((0 : Int) ≤ Go.Sx.limb a (3 : Nat) ∧ Go.Sx.limb a (3 : Nat) < (18446744073709551616 : Int)) ∧ ((0 : Int) ≤ n ∧ n < (18446744073709551616 : Int)) ∧ (0 : Int) < n ∧ ((0 : Int) ≤ x2 ∧ x2 < (18446744073709551616 : Int)) ∧ ((0 : Int) ≤ Go.Sx.limb a (2 : Nat) ∧ Go.Sx.limb a (2 : Nat) < (18446744073709551616 : Int)) ∧ ((0 : Int) ≤ n ∧ n < (18446744073709551616 : Int)) ∧ x2 < n ∧ ((0 : Int) ≤ x4 ∧ x4 < (18446744073709551616 : Int)) ∧ ((0 : Int) ≤ Go.Sx.limb a (1 : Nat) ∧ Go.Sx.limb a (1 : Nat) < (18446744073709551616 : Int)) ∧ ((0 : Int) ≤ n ∧ n < (18446744073709551616 : Int)) ∧ x4 < n ∧ ((0 : Int) ≤ x6 ∧ x6 < (18446744073709551616 : Int)) ∧ ((0 : Int) ≤ Go.Sx.limb a (0 : Nat) ∧ Go.Sx.limb a (0 : Nat) < (18446744073709551616 : Int)) ∧ ((0 : Int) ≤ n ∧ n < (18446744073709551616 : Int)) ∧ x6 < n ∧ (((0 : Int) ≤ x8 ∧ x8 < (18446744073709551616 : Int)) ∧ ((0 : Int) ≤ x9 ∧ x9 < (18446744073709551616 : Int)) ∧ ((0 : Int) ≤ x10 ∧ x10 < (18446744073709551616 : Int)) ∧ ((0 : Int) ≤ x11 ∧ x11 < (18446744073709551616 : Int)) ∧ Go.Sx.join x8 x9 x10 x11 % Go.Sx.M256 = x12 / n.toNat % Go.Sx.M256 ∧ True) ∧ x7 % n = (↑(x12 % n.toNat) : Int)) := by kernel_rfl
-- END VC
-- VC vc_Show HASH beb6d44561db43c5
theorem vc_Show (a : Nat) :
    Owes Try.prog cxShow [(3, .inv (invShow a))] 400 Try.f19 [sU a] (showG a) =
    (let x1 : Nat := a % Go.Sx.M256; (∀ (y : Nat), Go.Sx.closedB (Go.Sx.slotsAt (24 : Nat) [((0 : Nat), Go.Sx.SV.one (Go.Sx.sU a)), ((1 : Nat), Go.Sx.SV.one (Go.Sx.SA.sc (Go.Sx.SC.ptr (0 : Nat) (0 : Nat)))), ((2 : Nat), Go.Sx.SV.one (Go.Sx.sStr (ByteArray.mk #[]))), ((3 : Nat), Go.Sx.SV.one (Go.Sx.SA.sc (Go.Sx.SC.ptr (1 : Nat) (0 : Nat)))), ((4 : Nat), Go.Sx.SV.one (Go.Sx.sI Go.IntKind.i64 (↑((78 : Nat) - y) : Int)))]) [Go.Sx.SO.cells (24 : Go.TypeId) [Go.Sx.SK.u (x1 / (10 : Nat) ^ y)] (0 : Nat), Go.Sx.SO.cells (74 : Go.TypeId) [Go.Sx.SK.f Go.IntKind.u8 (78 : Nat) (showF x1 y)] (0 : Nat)] = Bool.true) ∧ ∃ (y : Nat), (y ≤ (77 : Nat) ∧ (y = (0 : Nat) ∨ x1 / (10 : Nat) ^ y ≠ (0 : Nat))) ∧ x1 = x1 ∧ (ByteArray.mk #[]) = (ByteArray.mk #[]) ∧ (78 : Int) = (↑((78 : Nat) - y) : Int) ∧ x1 = x1 / (10 : Nat) ^ y % Go.Sx.M256 ∧ (0 : Nat) = (0 : Nat) ∧ ((0 : Int) = showF x1 y (0 : Nat) ∧ (0 : Int) = showF x1 y (1 : Nat) ∧ (0 : Int) = showF x1 y (2 : Nat) ∧ (0 : Int) = showF x1 y (3 : Nat) ∧ (0 : Int) = showF x1 y (4 : Nat) ∧ (0 : Int) = showF x1 y (5 : Nat) ∧ (0 : Int) = showF x1 y (6 : Nat) ∧ (0 : Int) = showF x1 y (7 : Nat) ∧ (0 : Int) = showF x1 y (8 : Nat) ∧ (0 : Int) = showF x1 y (9 : Nat) ∧ (0 : Int) = showF x1 y (10 : Nat) ∧ (0 : Int) = showF x1 y (11 : Nat) ∧ (0 : Int) = showF x1 y (12 : Nat) ∧ (0 : Int) = showF x1 y (13 : Nat) ∧ (0 : Int) = showF x1 y (14 : Nat) ∧ (0 : Int) = showF x1 y (15 : Nat) ∧ (0 : Int) = showF x1 y (16 : Nat) ∧ (0 : Int) = showF x1 y (17 : Nat) ∧ (0 : Int) = showF x1 y (18 : Nat) ∧ (0 : Int) = showF x1 y (19 : Nat) ∧ (0 : Int) = showF x1 y (20 : Nat) ∧ (0 : Int) = showF x1 y (21 : Nat) ∧ (0 : Int) = showF x1 y (22 : Nat) ∧ (0 : Int) = showF x1 y (23 : Nat) ∧ (0 : Int) = showF x1 y (24 : Nat) ∧ (0 : Int) = showF x1 y (25 : Nat) ∧ (0 : Int) = showF x1 y (26 : Nat) ∧ (0 : Int) = showF x1 y (27 : Nat) ∧ (0 : Int) = showF x1 y (28 : Nat) ∧ (0 : Int) = showF x1 y (29 : Nat) ∧ (0 : Int) = showF x1 y (30 : Nat) ∧ (0 : Int) = showF x1 y (31 : Nat) ∧ (0 : Int) = showF x1 y (32 : Nat) ∧ (0 : Int) = showF x1 y (33 : Nat) ∧ (0 : Int) = showF x1 y (34 : Nat) ∧ (0 : Int) = showF x1 y (35 : Nat) ∧ (0 : Int) = showF x1 y (36 : Nat) ∧ (0 : Int) = showF x1 y (37 : Nat) ∧ (0 : Int) = showF x1 y (38 : Nat) ∧ (0 : Int) = showF x1 y (39 : Nat) ∧ (0 : Int) = showF x1 y (40 : Nat) ∧ (0 : Int) = showF x1 y (41 : Nat) ∧ (0 : Int) = showF x1 y (42 : Nat) ∧ (0 : Int) = showF x1 y (43 : Nat) ∧ (0 : Int) = showF x1 y (44 : Nat) ∧ (0 : Int) = showF x1 y (45 : Nat) ∧ (0 : Int) = showF x1 y (46 : Nat) ∧ (0 : Int) = showF x1 y (47 : Nat) ∧ (0 : Int) = showF x1 y (48 : Nat) ∧ (0 : Int) = showF x1 y (49 : Nat) ∧ (0 : Int) = showF x1 y (50 : Nat) ∧ (0 : Int) = showF x1 y (51 : Nat) ∧ (0 : Int) = showF x1 y (52 : Nat) ∧ (0 : Int) = showF x1 y (53 : Nat) ∧ (0 : Int) = showF x1 y (54 : Nat) ∧ (0 : Int) = showF x1 y (55 : Nat) ∧ (0 : Int) = showF x1 y (56 : Nat) ∧ (0 : Int) = showF x1 y (57 : Nat) ∧ (0 : Int) = showF x1 y (58 : Nat) ∧ (0 : Int) = showF x1 y (59 : Nat) ∧ (0 : Int) = showF x1 y (60 : Nat) ∧ (0 : Int) = showF x1 y (61 : Nat) ∧ (0 : Int) = showF x1 y (62 : Nat) ∧ (0 : Int) = showF x1 y (63 : Nat) ∧ (0 : Int) = showF x1 y (64 : Nat) ∧ (0 : Int) = showF x1 y (65 : Nat) ∧ (0 : Int) = showF x1 y (66 : Nat) ∧ (0 : Int) = showF x1 y (67 : Nat) ∧ (0 : Int) = showF x1 y (68 : Nat) ∧ (0 : Int) = showF x1 y (69 : Nat) ∧ (0 : Int) = showF x1 y (70 : Nat) ∧ (0 : Int) = showF x1 y (71 : Nat) ∧ (0 : Int) = showF x1 y (72 : Nat) ∧ (0 : Int) = showF x1 y (73 : Nat) ∧ (0 : Int) = showF x1 y (74 : Nat) ∧ (0 : Int) = showF x1 y (75 : Nat) ∧ (0 : Int) = showF x1 y (76 : Nat) ∧ (0 : Int) = showF x1 y (77 : Nat) ∧ True) ∧ (0 : Nat) = (0 : Nat) ∧ ∀ (y : Nat), y ≤ (77 : Nat) ∧ (y = (0 : Nat) ∨ x1 / (10 : Nat) ^ y ≠ (0 : Nat)) → ((1 : Int) ≤ (10 : Int) ∧ (10 : Int) < (18446744073709551616 : Int)) ∧ ((0 : Int) ≤ Go.IntKind.i64.wrap ((↑((78 : Nat) - y) : Int) - (1 : Int)) ∧ Go.IntKind.i64.wrap ((↑((78 : Nat) - y) : Int) - (1 : Int)) < (78 : Int)) ∧ ((0 : Int) ≤ Go.IntKind.i64.wrap ((↑((78 : Nat) - y) : Int) - (1 : Int)) ∧ Go.IntKind.i64.wrap ((↑((78 : Nat) - y) : Int) - (1 : Int)) < (78 : Int)) ∧ (Go.Sx.conj [x1 / (10 : Nat) ^ y % Go.Sx.M256 / (10 : Nat) % Go.Sx.M256 == (0 : Nat)] = Bool.true → ((0 : Int) ≤ Go.IntKind.i64.wrap ((↑((78 : Nat) - y) : Int) - (1 : Int)) ∧ Go.IntKind.i64.wrap ((↑((78 : Nat) - y) : Int) - (1 : Int)) < (78 : Int)) ∧ (Go.IntKind.i64.wrap ((↑((78 : Nat) - y) : Int) - (1 : Int))).toNat ≤ (78 : Nat) ∧ Go.Sx.bytesI (List.map (fun (j : Nat) => if (Go.IntKind.i64.wrap ((↑((78 : Nat) - y) : Int) - (1 : Int))).toNat + j = (Go.IntKind.i64.wrap ((↑((78 : Nat) - y) : Int) - (1 : Int))).toNat then Go.IntKind.u8.wrap ((48 : Int) + Go.IntKind.u8.wrap (↑(x1 / (10 : Nat) ^ y % Go.Sx.M256 % (10 : Nat)) : Int)) else if (78 : Nat) - y ≤ (Go.IntKind.i64.wrap ((↑((78 : Nat) - y) : Int) - (1 : Int))).toNat + j then (↑((48 : Nat) + x1 / (10 : Nat) ^ ((77 : Nat) - ((Go.IntKind.i64.wrap ((↑((78 : Nat) - y) : Int) - (1 : Int))).toNat + j)) % (10 : Nat)) : Int) else (0 : Int)) (List.range ((78 : Nat) - (Go.IntKind.i64.wrap ((↑((78 : Nat) - y) : Int) - (1 : Int))).toNat))) = showB x1) ∧ (Go.Sx.conj [x1 / (10 : Nat) ^ y % Go.Sx.M256 / (10 : Nat) % Go.Sx.M256 == (0 : Nat)] = Bool.false → ∃ (y' : Nat), (y' ≤ (77 : Nat) ∧ (y' = (0 : Nat) ∨ x1 / (10 : Nat) ^ y' ≠ (0 : Nat))) ∧ x1 = x1 ∧ (ByteArray.mk #[]) = (ByteArray.mk #[]) ∧ Go.IntKind.i64.wrap ((↑((78 : Nat) - y) : Int) - (1 : Int)) = (↑((78 : Nat) - y') : Int) ∧ x1 / (10 : Nat) ^ y % Go.Sx.M256 / (10 : Nat) % Go.Sx.M256 = x1 / (10 : Nat) ^ y' % Go.Sx.M256 ∧ (0 : Nat) = (0 : Nat) ∧ ((∀ (j : Nat), j < (78 : Nat) → (if j = (Go.IntKind.i64.wrap ((↑((78 : Nat) - y) : Int) - (1 : Int))).toNat then Go.IntKind.u8.wrap ((48 : Int) + Go.IntKind.u8.wrap (↑(x1 / (10 : Nat) ^ y % Go.Sx.M256 % (10 : Nat)) : Int)) else if (78 : Nat) - y ≤ j then (↑((48 : Nat) + x1 / (10 : Nat) ^ ((77 : Nat) - j) % (10 : Nat)) : Int) else (0 : Int)) = showF x1 y' j) ∧ True) ∧ (0 : Nat) = (0 : Nat) ∧ (78 : Nat) - y' < (78 : Nat) - y)) := by kernel_rfl
-- END VC
end Go.Proofs.Ytbjdchpncbgpnaa
end

section
/-
  What powers of ten, and bytes, come to: reckoned by the kernel. (Laid by program.)
-/
namespace Go.Proofs.Ytbjdchpncbgpnaa
open Go.Sx
set_option maxRecDepth 100000
end Go.Proofs.Ytbjdchpncbgpnaa
end

section
/-
  Package wide's functions, each held to its card: the numbers' side.
-/
namespace Go.Proofs.Ytbjdchpncbgpnaa
open Go.Sx

theorem M256_eq : M256 = 115792089237316195423570985008687907853269984665640564039457584007913129639936 := by decide

end Go.Proofs.Ytbjdchpncbgpnaa
end

section
/-
  The laws' drawn numbers, and the laws of sums: the numbers' side.
-/
namespace Go.Proofs.Ytbjdchpncbgpnaa
open Go.Sx

end Go.Proofs.Ytbjdchpncbgpnaa
end

section
/-
  Products: the numbers' side.
-/
namespace Go.Proofs.Ytbjdchpncbgpnaa
open Go.Sx

theorem wrap_id {n : Int} (h : 0 ≤ n ∧ n < 18446744073709551616) : IntKind.u64.wrap n = n := by
  unfold IntKind.wrap
  simp [IntKind.signed, IntKind.bits]
  omega

end Go.Proofs.Ytbjdchpncbgpnaa
end

section
/-
  A number taken so often as a word says, and the product of two words: the numbers' side.
-/
namespace Go.Proofs.Ytbjdchpncbgpnaa
open Go.Sx

end Go.Proofs.Ytbjdchpncbgpnaa
end

section
/-
  The product of two words, in full.
-/
namespace Go.Proofs.Ytbjdchpncbgpnaa
open Go.Sx

theorem and_low (p : Nat) (hp : p < 18446744073709551616) : (BitVec.ofInt 64 (p : Int) &&& BitVec.ofInt 64 (4294967295 : Int)).toNat = p % 4294967296 := by
  have h1 : (BitVec.ofInt 64 (p : Int)).toNat = p := by
    rw [BitVec.toNat_ofInt]
    omega
  have h2 : (BitVec.ofInt 64 (4294967295 : Int)).toNat = 2 ^ 32 - 1 := by decide
  rw [BitVec.toNat_and, h1, h2, Nat.and_two_pow_sub_one_eq_mod]

theorem fdiv_low (p : Nat) : (p : Int).fdiv 4294967296 = ((p / 4294967296 : Nat) : Int) := by
  rw [Int.fdiv_eq_ediv_of_nonneg _ (show (0 : Int) ≤ 4294967296 by decide)]; rfl
end Go.Proofs.Ytbjdchpncbgpnaa
end

section
/-
  The laws of products: the numbers' side.
-/
namespace Go.Proofs.Ytbjdchpncbgpnaa
open Go.Sx

end Go.Proofs.Ytbjdchpncbgpnaa
end

section
/-
  A sum is taken so often as its parts are: the numbers' side.
-/
namespace Go.Proofs.Ytbjdchpncbgpnaa
open Go.Sx

theorem halves (x y z : Nat) : x * z % M256 + y * z % M256 = (x % M256 * (z % M256)) % M256 + (y % M256 * (z % M256)) % M256 := by
  rw [Nat.mul_mod x, Nat.mul_mod y]

end Go.Proofs.Ytbjdchpncbgpnaa
end

section
/-
  The cards of package wide's functions, one upon another.
-/
namespace Go.Proofs.Ytbjdchpncbgpnaa
open Go.Sx

theorem CxOK_nil : CxOK Try.prog Cx.none := fun _ h => by cases h
theorem CxOK_cons {f : Nat} {s : FSpec} {l : List (Nat × FSpec)} {gl : Globs} (h : FnOKg Try.prog gl f s) (hs : CxOK Try.prog ⟨l, gl, 0⟩) : CxOK Try.prog ⟨(f, s) :: l, gl, 0⟩ := by
  intro p hp
  rcases List.mem_cons.1 hp with rfl | hp
  · exact h
  · exact hs p hp

theorem bnd_U (n : Nat) : SA.bnd none0 (sU n) := by
  intro k hk; simp only [List.mem_singleton] at hk; subst hk; trivial
theorem bnd_I (k : IntKind) (n : Int) : SA.bnd none0 (sI k n) := trivial
theorem bnd_one {x : SA} (h : x.bnd none0) : SV.bnd none0 (.one x) := h
theorem bnd_two {x y : SA} (h : x.bnd none0) (h' : y.bnd none0) : SV.bnd none0 (.tup [x, y]) := by
  intro z hz
  simp only [List.mem_cons, List.not_mem_nil, or_false] at hz
  rcases hz with rfl | rfl
  · exact h
  · exact h'

end Go.Proofs.Ytbjdchpncbgpnaa
end

section
/-
  The cards of products.
-/
namespace Go.Proofs.Ytbjdchpncbgpnaa
open Go.Sx

end Go.Proofs.Ytbjdchpncbgpnaa
end

section
/-
  The bytes of a number: the numbers' side.
-/
namespace Go.Proofs.Ytbjdchpncbgpnaa
open Go.Sx

theorem u8_wrap (n : Nat) : IntKind.u8.wrap (n : Int) = ((n % 256 : Nat) : Int) := by
  unfold IntKind.wrap
  simp [IntKind.signed, IntKind.bits]
end Go.Proofs.Ytbjdchpncbgpnaa
end

section
/-
  How many bits a word has.
-/
namespace Go.Proofs.Ytbjdchpncbgpnaa
open Go.Sx

theorem table_len : ∀ m : Fin 256, ((lit_650f3990.data.getD m.val 0).toNat : Int) = if m.val = 0 then 0 else ((Nat.log2 m.val + 1 : Nat) : Int) := by decide +kernel
theorem log2_shift (n k : Nat) (h : 1 ≤ n / 2 ^ k) : Nat.log2 n = k + Nat.log2 (n / 2 ^ k) := by
  have hp : 0 < 2 ^ k := Nat.two_pow_pos k
  have hn : n ≠ 0 := by rintro rfl; simp at h
  have hm : n / 2 ^ k ≠ 0 := by omega
  obtain ⟨a, b⟩ := (Nat.log2_eq_iff hm).1 rfl
  rw [Nat.log2_eq_iff hn]
  rw [Nat.le_div_iff_mul_le hp] at a
  rw [Nat.div_lt_iff_lt_mul hp] at b
  refine ⟨by rw [Nat.pow_add, Nat.mul_comm]; exact a, ?_⟩
  have : 2 ^ (k + (n / 2 ^ k).log2 + 1) = 2 ^ ((n / 2 ^ k).log2 + 1) * 2 ^ k := by rw [← Nat.pow_add]; congr 1; omega
  rw [this]; exact b
theorem u8_small (m : Nat) (h : m < 256) : IntKind.u8.wrap (m : Int) = m := by rw [u8_wrap, Nat.mod_eq_of_lt h]
theorem lenN_le (n : Nat) (h : n < 18446744073709551616) : 0 ≤ lenN n ∧ lenN n ≤ 64 := by
  unfold lenN
  rw [Int.toNat_natCast]
  split
  · decide
  · rename_i h0
    have := (Nat.log2_lt h0 (k := 64)).2 (by omega)
    omega
theorem len_leaf (n k : Nat) (c : Int) (m : Nat) (hc : c = k) (hk : k ≤ 56) (hm : m = n / 2 ^ k) (h : m < 256) (h1 : k = 0 ∨ 1 ≤ m) (hn : n < 18446744073709551616) :
    (0 ≤ IntKind.u8.wrap (m : Int) ∧ (IntKind.u8.wrap (m : Int)).toNat < 256) ∧ IntKind.i64.wrap (c + IntKind.i64.wrap ((lit_650f3990.data.getD (IntKind.u8.wrap (m : Int)).toNat 0).toNat : Int)) = lenN n := by
  rw [u8_small m h, Int.toNat_natCast]
  refine ⟨⟨by omega, h⟩, ?_⟩
  have ht := table_len ⟨m, h⟩
  simp only at ht
  rw [ht]
  have hl : lenN n = c + if m = 0 then 0 else ((Nat.log2 m + 1 : Nat) : Int) := by
    unfold lenN
    rw [Int.toNat_natCast, hc]
    rcases h1 with rfl | h1
    · rw [Nat.pow_zero, Nat.div_one] at hm
      subst hm
      simp
    · have hn0 : n ≠ 0 := by rintro rfl; simp at hm; omega
      rw [if_neg hn0, if_neg (by omega), log2_shift n k (by omega), ← hm]
      omega
  have hb := lenN_le n hn
  rw [hl] at hb ⊢
  have hi : 0 ≤ (if m = 0 then 0 else ((Nat.log2 m + 1 : Nat) : Int)) := by split <;> omega
  have e1 := IntWalk.i64_in (if m = 0 then 0 else ((Nat.log2 m + 1 : Nat) : Int)) (by omega)
  rw [e1, IntWalk.i64_in _ (by omega)]
theorem fd32 (n : Nat) : (n : Int).fdiv 4294967296 = ((n / 4294967296 : Nat) : Int) := fdiv_low n
theorem fd16 (n : Nat) : (n : Int).fdiv 65536 = ((n / 65536 : Nat) : Int) := by
  rw [Int.fdiv_eq_ediv_of_nonneg _ (show (0 : Int) ≤ 65536 by decide)]; rfl
theorem fd8 (n : Nat) : (n : Int).fdiv 256 = ((n / 256 : Nat) : Int) := by
  rw [Int.fdiv_eq_ediv_of_nonneg _ (show (0 : Int) ≤ 256 by decide)]; rfl
theorem ok_Len64 : ∀ x, w64ok x → Owes Try.prog Cx.none [] 100 Try.f95 [sI .u64 x] (lenG x) := by
  intro x hx
  rw [vc_Len64]
  obtain ⟨n, rfl⟩ := Int.eq_ofNat_of_zero_le hx.1
  have hn : n < 18446744073709551616 := Int.ofNat_lt.1 hx.2
  dsimp only
  simp only [fd32, fd16, fd8, Nat.div_div_eq_div_mul, Nat.reduceMul, decide_eq_true_eq, decide_eq_false_iff_not]
  refine ⟨fun a => ⟨fun b => ⟨fun c => ?_, fun c => ?_⟩, fun b => ⟨fun c => ?_, fun c => ?_⟩⟩, fun a => ⟨fun b => ⟨fun c => ?_, fun c => ?_⟩, fun b => ⟨fun c => ?_, fun c => ?_⟩⟩⟩
  · exact len_leaf n 56 _ _ rfl (by decide) rfl (by omega) (.inr (by omega)) hn
  · exact len_leaf n 48 _ _ rfl (by decide) rfl (by omega) (.inr (by omega)) hn
  · exact len_leaf n 40 _ _ rfl (by decide) rfl (by omega) (.inr (by omega)) hn
  · exact len_leaf n 32 _ _ rfl (by decide) rfl (by omega) (.inr (by omega)) hn
  · exact len_leaf n 24 _ _ rfl (by decide) rfl (by omega) (.inr (by omega)) hn
  · exact len_leaf n 16 _ _ rfl (by decide) rfl (by omega) (.inr (by omega)) hn
  · exact len_leaf n 8 _ _ rfl (by decide) rfl (by omega) (.inr (by omega)) hn
  · exact len_leaf n 0 _ _ rfl (by decide) (by simp) (by omega) (.inl rfl) hn
theorem ok_LZ64 : ∀ x, w64ok x → Owes Try.prog cxLz [] 100 Try.f90 [sI .u64 x] (lzG x) := by
  intro x hx
  rw [vc_LZ64]
  obtain ⟨n, rfl⟩ := Int.eq_ofNat_of_zero_le hx.1
  have hb := lenN_le n (Int.ofNat_lt.1 hx.2)
  exact ⟨hx, IntWalk.i64_in _ (by omega)⟩
theorem card_Len64 : FnOK Try.prog 95 (specW lenG) :=
  FnOK_W CxOK_nil (iv := fun _ => []) (N := 100) Try.func95 (by kernel_rfl) (by kernel_rfl) (fun a => bnd_one (bnd_I _ _)) ok_Len64
theorem card_LZ64 : FnOK Try.prog 90 (specW lzG) :=
  FnOK_W (CxOK_cons card_Len64 CxOK_nil) (iv := fun _ => []) (N := 100) Try.func90 (by kernel_rfl) (by kernel_rfl) (fun a => bnd_one (bnd_I _ _)) ok_LZ64
end Go.Proofs.Ytbjdchpncbgpnaa
end

section
/-
  A quotient of two words by one, half a word at a time: the numbers' side.
-/
namespace Go.Proofs.Ytbjdchpncbgpnaa
open Go.Sx

/-! ## One digit -/
structure Dig (Y y1 y0 U w : Nat) : Prop where
  hY : Y = y1 * 4294967296 + y0
  h0 : y0 < 4294967296
  h1 : 2147483648 ≤ y1
  h1' : y1 < 4294967296
  hU : U < Y
  hw : w < 4294967296
structure DigAt (Y y1 y0 U w q r : Nat) : Prop extends Dig Y y1 y0 U w where
  hq : q * y1 + r = U
  hr : r < 4294967296
  hQ : (U * 4294967296 + w) / Y ≤ q
  hq' : q ≤ 4294967297
theorem Dig.pos {Y y1 y0 U w : Nat} (h : Dig Y y1 y0 U w) : 0 < Y := by have := h.hU; omega
theorem Dig.lt {Y y1 y0 U w : Nat} (h : Dig Y y1 y0 U w) : (U * 4294967296 + w) / Y < 4294967296 := by
  rw [Nat.div_lt_iff_lt_mul h.pos]
  have a := h.hU
  have b := h.hw
  omega
theorem Dig.start {Y y1 y0 U w : Nat} (h : Dig Y y1 y0 U w) : DigAt Y y1 y0 U w (U / y1) (U % y1) := by
  have hy := h.h1
  have hy' := h.h1'
  have hU := h.hU
  have hw := h.hw
  have hY := h.hY
  have h0 := h.h0
  have hp : 0 < y1 := by omega
  have hm := Nat.mod_lt U hp
  refine ⟨h, by rw [Nat.mul_comm]; exact Nat.div_add_mod U y1, by omega, ?_, ?_⟩
  · rw [Nat.le_div_iff_mul_le hp]
    have a := Nat.div_mul_le_self (U * 4294967296 + w) Y
    generalize (U * 4294967296 + w) / Y = Q at *
    have b : Q * Y = Q * y1 * 4294967296 + Q * y0 := by rw [hY, Nat.mul_add, Nat.mul_assoc]
    generalize Q * y1 = A at *
    generalize Q * y0 = B at *
    omega
  · have : U / y1 < 4294967298 := by
      rw [Nat.div_lt_iff_lt_mul hp]
      omega
    omega
theorem DigAt.mul {Y y1 y0 U w q r : Nat} (h : DigAt Y y1 y0 U w q r) : q * Y + r * 4294967296 = U * 4294967296 + q * y0 := by
  have hq := h.hq
  have : q * Y = q * y1 * 4294967296 + q * y0 := by rw [h.hY, Nat.mul_add, Nat.mul_assoc]
  generalize q * y1 = A at *
  omega
theorem DigAt.done {Y y1 y0 U w q r : Nat} (h : DigAt Y y1 y0 U w q r) (hc : q * y0 ≤ 4294967296 * r + w) : q = (U * 4294967296 + w) / Y := by
  have a := h.mul
  have hQ := h.hQ
  have : q ≤ (U * 4294967296 + w) / Y := by
    rw [Nat.le_div_iff_mul_le h.pos]
    omega
  exact Nat.le_antisymm this hQ
theorem DigAt.more {Y y1 y0 U w q r : Nat} (h : DigAt Y y1 y0 U w q r) (hc : 4294967296 ≤ q ∨ 4294967296 * r + w < q * y0) : (U * 4294967296 + w) / Y + 1 ≤ q := by
  rcases hc with hc | hc
  · exact Nat.le_trans h.lt hc
  · have a := h.mul
    rw [Nat.succ_le_iff, Nat.div_lt_iff_lt_mul h.pos]
    omega
theorem DigAt.pred {Y y1 y0 U w q r : Nat} (h : DigAt Y y1 y0 U w q r) (hc : 4294967296 ≤ q ∨ 4294967296 * r + w < q * y0) : (q - 1) * y1 + (r + y1) = U ∧ 1 ≤ q ∧ (U * 4294967296 + w) / Y ≤ q - 1 := by
  have a := h.more hc
  have hq := h.hq
  generalize (U * 4294967296 + w) / Y = Q at *
  obtain ⟨p, rfl⟩ : ∃ p, q = p + 1 := ⟨q - 1, by omega⟩
  rw [Nat.add_mul, Nat.one_mul] at hq
  rw [Nat.add_sub_cancel]
  refine ⟨by omega, by omega, by omega⟩
theorem DigAt.last {Y y1 y0 U w q r : Nat} (h : DigAt Y y1 y0 U w q r) (hc : 4294967296 ≤ q ∨ 4294967296 * r + w < q * y0) (hs : 4294967296 ≤ r + y1) : q - 1 = (U * 4294967296 + w) / Y := by
  obtain ⟨b, b1, b2⟩ := h.pred hc
  have c : (q - 1) * Y + (r + y1) * 4294967296 = U * 4294967296 + (q - 1) * y0 := by
    have : (q - 1) * Y = (q - 1) * y1 * 4294967296 + (q - 1) * y0 := by rw [h.hY, Nat.mul_add, Nat.mul_assoc]
    generalize (q - 1) * y1 = A at *
    omega
  have h0 := h.h0
  have hq' := h.hq'
  have d : (q - 1) * y0 ≤ 4294967296 * 4294967295 := Nat.mul_le_mul (by omega) (by omega)
  have : q - 1 ≤ (U * 4294967296 + w) / Y := by
    rw [Nat.le_div_iff_mul_le h.pos]
    generalize (q - 1) * Y = A at *
    generalize (q - 1) * y0 = B at *
    omega
  exact Nat.le_antisymm this b2
theorem DigAt.step {Y y1 y0 U w q r : Nat} (h : DigAt Y y1 y0 U w q r) (hc : 4294967296 ≤ q ∨ 4294967296 * r + w < q * y0) (hs : r + y1 < 4294967296) : DigAt Y y1 y0 U w (q - 1) (r + y1) := by
  obtain ⟨b, b1, b2⟩ := h.pred hc
  exact ⟨h.toDig, b, hs, b2, by have := h.hq'; omega⟩

/-- Two digits make the quotient. -/
theorem two_digits_of {Y U L H : Nat} (hY : 0 < Y) : (U * (H * H) + L) / Y = (U * H + L / H) / Y * H + ((U * H + L / H) % Y * H + L % H) / Y ∧ (U * (H * H) + L) % Y = ((U * H + L / H) % Y * H + L % H) % Y := by
  have e0 := Nat.div_add_mod L H
  have e : U * (H * H) + L = (U * H + L / H) * H + L % H := by
    rw [Nat.add_mul, Nat.mul_assoc, Nat.mul_comm (L / H), Nat.add_assoc, e0]
  rw [e]
  have d := Nat.div_add_mod (U * H + L / H) Y
  generalize U * H + L / H = A at *
  have e2 : A * H + L % H = (A % Y * H + L % H) + Y * (A / Y * H) := by
    have : A * H = Y * (A / Y * H) + A % Y * H := by
      conv => lhs; rw [← d]
      rw [Nat.add_mul, Nat.mul_assoc]
    omega
  rw [e2, Nat.add_mul_div_left _ _ hY, Nat.add_mul_mod_self_left]
  exact ⟨by rw [Nat.add_comm], rfl⟩
theorem two_digits {Y U L : Nat} (hY : 0 < Y) : (U * 18446744073709551616 + L) / Y = (U * 4294967296 + L / 4294967296) / Y * 4294967296 + ((U * 4294967296 + L / 4294967296) % Y * 4294967296 + L % 4294967296) / Y ∧
    (U * 18446744073709551616 + L) % Y = ((U * 4294967296 + L / 4294967296) % Y * 4294967296 + L % 4294967296) % Y := by
  have h := two_digits_of (Y := Y) (U := U) (L := L) (H := 4294967296) hY
  simp only [Nat.reduceMul] at h
  exact h

/-! ## The words moved -/
theorem len_two (y : Nat) (h0 : 0 < y) (h : y < 18446744073709551616) : ∃ s : Nat, s ≤ 63 ∧ 64 - lenN y = (s : Int) ∧ lenN y = ((64 - s : Nat) : Int) ∧ 9223372036854775808 ≤ y * 2 ^ s ∧ y * 2 ^ s < 18446744073709551616 := by
  have hy : y ≠ 0 := by omega
  have hb := (Nat.log2_lt hy (k := 64)).2 (by omega)
  obtain ⟨a, b⟩ := (Nat.log2_eq_iff hy).1 rfl
  refine ⟨63 - y.log2, by omega, ?_, ?_, ?_, ?_⟩
  · unfold lenN
    rw [Int.toNat_natCast, if_neg hy]
    omega
  · unfold lenN
    rw [Int.toNat_natCast, if_neg hy]
    omega
  · have := Nat.mul_le_mul_right (2 ^ (63 - y.log2)) a
    rw [← Nat.pow_add, show y.log2 + (63 - y.log2) = 63 by omega] at this
    exact this
  · have := Nat.mul_lt_mul_of_pos_right b (Nat.two_pow_pos (63 - y.log2))
    rw [← Nat.pow_add, show y.log2 + 1 + (63 - y.log2) = 64 by omega] at this
    exact this
theorem moved_all (h l y D E : Nat) (hDE : D * E = 18446744073709551616) (hl : l < 18446744073709551616) (hh : h < y) :
    h * D + l / E < y * D ∧ (h * 18446744073709551616 + l) * D = (h * D + l / E) * 18446744073709551616 + l * D % 18446744073709551616 ∧ l / E < D := by
  have hE : 0 < E := by rcases Nat.eq_zero_or_pos E with e | e; subst e; omega; exact e
  have hD : 0 < D := by rcases Nat.eq_zero_or_pos D with e | e; subst e; omega; exact e
  have hlE : l / E < D := by rw [Nat.div_lt_iff_lt_mul hE, hDE]; exact hl
  have e := Nat.div_add_mod l E
  have hm := Nat.mod_lt l hE
  have e2 : l * D = l / E * 18446744073709551616 + l % E * D := by
    conv => lhs; rw [← e]
    rw [Nat.add_mul, Nat.mul_comm E, Nat.mul_assoc, Nat.mul_comm E D, hDE]
  have e3 : l % E * D < 18446744073709551616 := by
    have := Nat.mul_lt_mul_of_pos_right hm hD
    rw [Nat.mul_comm E D, hDE] at this
    exact this
  refine ⟨?_, ?_, hlE⟩
  · have := Nat.mul_le_mul_right D (show h + 1 ≤ y by omega)
    rw [Nat.add_mul, Nat.one_mul] at this
    omega
  · rw [Nat.add_mul, Nat.add_mul, e2, Nat.mul_assoc, Nat.mul_comm 18446744073709551616 D, ← Nat.mul_assoc, Nat.mul_comm (l / E) 18446744073709551616, Nat.mul_add_mod, Nat.mod_eq_of_lt e3]
    omega
theorem div_moved (A y D : Nat) (hD : 0 < D) : A / y = A * D / (y * D) ∧ A % y = A * D % (y * D) / D := by
  refine ⟨(Nat.mul_div_mul_right A y hD).symm, ?_⟩
  rw [Nat.mul_mod_mul_right, Nat.mul_div_cancel _ hD]
end Go.Proofs.Ytbjdchpncbgpnaa
end

section
/-
  A quotient of two words by one: what the library's text comes to.
-/
namespace Go.Proofs.Ytbjdchpncbgpnaa
open Go.Sx

theorem wrap_mod (n : Int) : IntKind.u64.wrap n = n % 18446744073709551616 := by
  unfold IntKind.wrap
  simp [IntKind.signed, IntKind.bits]
theorem wsub {a b c v : Int} (h : a + b - c = v) (hv : 0 ≤ v ∧ v < 18446744073709551616) : IntKind.u64.wrap (IntKind.u64.wrap (IntKind.u64.wrap a + b) - IntKind.u64.wrap c) = v := by
  simp only [wrap_mod]
  omega
theorem wsub1 {a c v : Int} (h : a - c = v) (hv : 0 ≤ v ∧ v < 18446744073709551616) : IntKind.u64.wrap (a - IntKind.u64.wrap c) = v := by
  simp only [wrap_mod]
  omega
theorem dig_iff {Y y1 y0 U w q r : Nat} (H : Dig Y y1 y0 U w) : ((q : Int) * (y1 : Int) + (r : Int) = (U : Int) ∧ r < 4294967296 ∧ (((U * 4294967296 : Nat) : Int) + (w : Int)) / (Y : Int) ≤ (q : Int) ∧ q ≤ 4294967297) ↔ DigAt Y y1 y0 U w q r := by
  have e1 : (q : Int) * (y1 : Int) + (r : Int) = ((q * y1 + r : Nat) : Int) := by rw [Int.natCast_add, Int.natCast_mul]
  have e2 : (((U * 4294967296 : Nat) : Int) + (w : Int)) / (Y : Int) = (((U * 4294967296 + w) / Y : Nat) : Int) := by rw [Int.natCast_ediv, Int.natCast_add]
  rw [e1, e2]
  constructor
  · rintro ⟨a, b, c, d⟩
    exact ⟨H, Int.ofNat.inj a, b, Int.ofNat_le.1 c, d⟩
  · intro h
    exact ⟨congrArg _ h.hq, h.hr, Int.ofNat_le.2 h.hQ, h.hq'⟩
theorem cond_iff {q r w y0 : Nat} (hr : r < 4294967296) (hw : w < 4294967296) (h0 : y0 < 4294967296) :
    (decide ((q : Int) ≥ 4294967296) || decide (IntKind.u64.wrap ((q : Int) * (y0 : Int)) > IntKind.u64.wrap (IntKind.u64.wrap (4294967296 * (r : Int)) + (w : Int)))) = true ↔ 4294967296 ≤ q ∨ 4294967296 * r + w < q * y0 := by
  rw [Bool.or_eq_true, decide_eq_true_eq, decide_eq_true_eq]
  have e2 : IntKind.u64.wrap (IntKind.u64.wrap (4294967296 * (r : Int)) + (w : Int)) = 4294967296 * (r : Int) + w := by simp only [wrap_mod]; omega
  rw [e2]
  rcases Nat.lt_or_ge q 4294967296 with hq | hq
  · have hm : q * y0 ≤ 4294967295 * 4294967295 := Nat.mul_le_mul (by omega) (by omega)
    rw [← Int.natCast_mul, wrap_id ⟨Int.natCast_nonneg _, by omega⟩]
    omega
  · exact ⟨fun _ => .inl hq, fun _ => .inl (by omega)⟩

/-- What the text's words come to, as plain numbers. -/
theorem words {h l y s : Nat} (e1 : 64 - lenN y = (s : Int)) (e2 : lenN y = ((64 - s : Nat) : Int)) :
    shY y = ((y * 2 ^ s : Nat) : Int) ∧ shU h l y = ((h * 2 ^ s + l / 2 ^ (64 - s) : Nat) : Int) ∧ shL l y = ((l * 2 ^ s % 18446744073709551616 : Nat) : Int) := by
  unfold shY shU shL
  rw [e1, e2, Int.toNat_natCast, Int.toNat_natCast]
  refine ⟨?_, ?_, ?_⟩
  · rw [Int.natCast_mul, Int.natCast_pow]; rfl
  · rw [Int.natCast_add, Int.natCast_mul, Int.natCast_ediv, Int.natCast_pow, Int.natCast_pow]; rfl
  · rw [Int.natCast_emod, Int.natCast_mul, Int.natCast_pow]; rfl
theorem or_add (a b k : Nat) (hb : b < 2 ^ k) (h : a * 2 ^ k + b < 18446744073709551616) : IntKind.u64.wrap ((BitVec.ofInt 64 ((a * 2 ^ k : Nat) : Int) ||| BitVec.ofInt 64 (b : Int)).toNat : Int) = ((a * 2 ^ k + b : Nat) : Int) := by
  have b1 : (BitVec.ofInt 64 ((a * 2 ^ k : Nat) : Int)).toNat = a * 2 ^ k := by rw [BitVec.toNat_ofInt]; omega
  have b2 : (BitVec.ofInt 64 (b : Int)).toNat = b := by rw [BitVec.toNat_ofInt]; omega
  rw [BitVec.toNat_or, b1, b2, Nat.mul_comm, ← Nat.two_pow_add_eq_or_of_lt hb, wrap_id ⟨Int.natCast_nonneg _, by rw [Nat.mul_comm]; omega⟩]

theorem two_min (n : Nat) (h : n ≤ 64) : (2 : Int) ^ Min.min ((n : Int).toNat) 64 = ((2 ^ n : Nat) : Int) := by
  rw [Int.toNat_natCast, Nat.min_eq_left h, Int.natCast_pow]; rfl
theorem fdiv_nat (a b : Nat) : (a : Int).fdiv (b : Int) = ((a / b : Nat) : Int) := by
  rw [Int.fdiv_eq_ediv_of_nonneg _ (Int.natCast_nonneg _), Int.natCast_ediv]
theorem tdiv_nat (a b : Nat) : (a : Int).tdiv (b : Int) = ((a / b : Nat) : Int) := by
  rw [Int.tdiv_eq_ediv_of_nonneg (Int.natCast_nonneg _), Int.natCast_ediv]

theorem zero_case (h l y : Nat) (e : h = 0) (hl : l < 18446744073709551616) : IntKind.u64.wrap ((l : Int).tdiv (y : Int)) = (((h * 18446744073709551616 + l) / y : Nat) : Int) ∧ (l : Int).tmod (y : Int) = (((h * 18446744073709551616 + l) % y : Nat) : Int) := by
  subst e
  rw [Nat.zero_mul, Nat.zero_add, tdiv_nat, Int.tmod_eq_emod_of_nonneg (Int.natCast_nonneg _), Int.natCast_emod]
  exact ⟨wrap_id ⟨Int.natCast_nonneg _, by have := Nat.div_le_self l y; omega⟩, rfl⟩
@[irreducible] def qd (U L Y : Nat) : Nat := (U * 4294967296 + L / 4294967296) / Y
@[irreducible] def rd (U L Y : Nat) : Nat := (U * 4294967296 + L / 4294967296) % Y
@[irreducible] def qe (V L Y : Nat) : Nat := (V * 4294967296 + L % 4294967296) / Y
@[irreducible] def re (V L Y : Nat) : Nat := (V * 4294967296 + L % 4294967296) % Y
theorem two_of {Y U L : Nat} (hY : 0 < Y) : (U * 18446744073709551616 + L) / Y = qd U L Y * 4294967296 + qe (rd U L Y) L Y ∧ (U * 18446744073709551616 + L) % Y = re (rd U L Y) L Y := by
  unfold qd qe re rd
  exact two_digits hY
theorem dm_of {U L Y : Nat} (hY : 0 < Y) : Y * qd U L Y + rd U L Y = U * 4294967296 + L / 4294967296 ∧ rd U L Y < Y := by
  unfold qd rd
  exact ⟨Nat.div_add_mod _ _, Nat.mod_lt _ hY⟩
theorem dm_of2 {V L Y : Nat} (hY : 0 < Y) : Y * qe V L Y + re V L Y = V * 4294967296 + L % 4294967296 ∧ re V L Y < Y := by
  unfold qe re
  exact ⟨Nat.div_add_mod _ _, Nat.mod_lt _ hY⟩
theorem lt_of {Y y1 y0 U L : Nat} (h : Dig Y y1 y0 U (L / 4294967296)) : qd U L Y < 4294967296 := by
  unfold qd
  exact h.lt
theorem lt_of2 {Y y1 y0 V L : Nat} (h : Dig Y y1 y0 V (L % 4294967296)) : qe V L Y < 4294967296 := by
  unfold qe
  exact h.lt
theorem is_qd {U L Y q : Nat} (h : q = (U * 4294967296 + L / 4294967296) / Y) : q = qd U L Y := by
  unfold qd
  exact h
theorem is_qe {V L Y q : Nat} (h : q = (V * 4294967296 + L % 4294967296) / Y) : q = qe V L Y := by
  unfold qe
  exact h
theorem cast_two (U L Y : Nat) : ((U : Int) * 4294967296 + (L : Int) / 4294967296) / (Y : Int) = ((qd U L Y : Nat) : Int) ∧
    ((U : Int) * 4294967296 + (L : Int) / 4294967296) % (Y : Int) = ((rd U L Y : Nat) : Int) := by
  have e : (U : Int) * 4294967296 + (L : Int) / 4294967296 = ((U * 4294967296 + L / 4294967296 : Nat) : Int) := by
    rw [Int.natCast_add, Int.natCast_mul, Int.natCast_ediv]; rfl
  rw [e]
  unfold qd rd
  exact ⟨(Int.natCast_ediv _ _).symm, (Int.natCast_emod _ _).symm⟩

set_option maxRecDepth 10000 in
theorem ok_Div64 : ∀ h l y, Ok (divC h l y) → Owes Try.prog cxDiv64 (ivDiv h l y) 100 Try.f74 [sI .u64 h, sI .u64 l, sI .u64 y] (divG h l y) := by
  intro h l y hc
  obtain ⟨hh, hl, hy, hlt, _⟩ := hc
  rw [vc_Div64]
  obtain ⟨h, rfl⟩ := Int.eq_ofNat_of_zero_le hh.1
  obtain ⟨l, rfl⟩ := Int.eq_ofNat_of_zero_le hl.1
  obtain ⟨y, rfl⟩ := Int.eq_ofNat_of_zero_le hy.1
  have bh : h < 18446744073709551616 := Int.ofNat_lt.1 hh.2
  have bl : l < 18446744073709551616 := Int.ofNat_lt.1 hl.2
  have bY : y < 18446744073709551616 := Int.ofNat_lt.1 hy.2
  have hlt' : h < y := Int.ofNat_lt.1 hlt
  have hy0 : 0 < y := by omega
  obtain ⟨s, hs, e1, e2, f1, f2⟩ := len_two y hy0 bY
  obtain ⟨w1, w2, w3⟩ := words (h := h) (l := l) e1 e2
  have hDE : 2 ^ s * 2 ^ (64 - s) = 18446744073709551616 := by
    rw [← Nat.pow_add, show s + (64 - s) = 64 by omega]
  obtain ⟨m1, m2, m3⟩ := moved_all h l y (2 ^ s) (2 ^ (64 - s)) hDE bl hlt'
  obtain ⟨g1, g2⟩ := div_moved (h * 18446744073709551616 + l) y (2 ^ s) (Nat.two_pow_pos s)
  rw [m2] at g1 g2
  have hYp : 0 < y * 2 ^ s := by omega
  obtain ⟨t1, t2⟩ := two_of (Y := y * 2 ^ s) (U := h * 2 ^ s + l / 2 ^ (64 - s)) (L := l * 2 ^ s % 18446744073709551616) hYp
  rw [t1] at g1
  rw [t2] at g2
  have hor := or_add h (l / 2 ^ (64 - s)) s m3 (by omega)
  intro x1 x2 x3 x4 x5 x6 x7 x8 x9 x10 x11 x12 x13 x14 x15 x16 x17 x18 x19
  have E4 : x4 = ((s : Nat) : Int) := e1
  have E5 : x5 = ((s : Nat) : Int) := by simp only [x5, E4]; exact wrap_id ⟨Int.natCast_nonneg _, by omega⟩
  have E6 : x6 = ((64 - s : Nat) : Int) := by
    simp only [x6, E5]
    have : (64 : Int) - (s : Int) = ((64 - s : Nat) : Int) := by omega
    rw [this]; exact wrap_id ⟨Int.natCast_nonneg _, by omega⟩
  have E7 : x7 = ((2 ^ s : Nat) : Int) := by simp only [x7, E5]; exact two_min s (by omega)
  have E8 : x8 = ((y * 2 ^ s : Nat) : Int) := by
    simp only [x8, E7]
    rw [← Int.natCast_mul]; exact wrap_id ⟨Int.natCast_nonneg _, by omega⟩
  have E9 : x9 = ((y * 2 ^ s / 4294967296 : Nat) : Int) := by simp only [x9, E8]; exact fdiv_low _
  have E10 : x10 = ((y * 2 ^ s / 4294967296 : Nat) : Int) := by simp only [x10, w1]; rfl
  have E11 : x11 = ((y * 2 ^ s % 4294967296 : Nat) : Int) := by simp only [x11, w1]; rfl
  have E12 : x12 = ((l * 2 ^ s % 18446744073709551616 / 4294967296 : Nat) : Int) := by simp only [x12, w3]; rfl
  have E13 : x13 = ((l * 2 ^ s % 18446744073709551616 % 4294967296 : Nat) : Int) := by simp only [x13, w3]; rfl
  have E14 : x14 = (((h * 2 ^ s + l / 2 ^ (64 - s)) * 4294967296 : Nat) : Int) := by simp only [x14, w2]; rw [Int.natCast_mul]; rfl
  have E15 : x15 = ((h * 2 ^ s + l / 2 ^ (64 - s) : Nat) : Int) := by
    simp only [x15, E7, E6]
    rw [← Int.natCast_mul, wrap_id (n := ((h * 2 ^ s : Nat) : Int)) ⟨Int.natCast_nonneg _, Int.ofNat_lt.2 (Nat.lt_of_le_of_lt (Nat.le_add_right _ _) (Nat.lt_trans m1 f2))⟩, two_min (64 - s) (by omega), fdiv_nat]
    exact hor
  have E16 : x16 = ((l * 2 ^ s % 18446744073709551616 : Nat) : Int) := by
    simp only [x16, E7]
    rw [← Int.natCast_mul, wrap_mod]; rfl
  have E17 : x17 = (((h * 2 ^ s + l / 2 ^ (64 - s)) / (y * 2 ^ s / 4294967296) : Nat) : Int) := by
    simp only [x17, E15, E9]
    rw [tdiv_nat]
    refine wrap_id ⟨Int.natCast_nonneg _, ?_⟩
    have := Nat.div_le_self (h * 2 ^ s + l / 2 ^ (64 - s)) (y * 2 ^ s / 4294967296)
    omega
  have E18 : x18 = ((rd (h * 2 ^ s + l / 2 ^ (64 - s)) (l * 2 ^ s % 18446744073709551616) (y * 2 ^ s) * 4294967296 : Nat) : Int) := by
    simp only [x18, dV, w1, w2, w3]
    rw [(cast_two _ _ _).2, Int.natCast_mul]; rfl
  have E19 : x19 = ((2 ^ s : Nat) : Int) := by simp only [x19, E4]; exact two_min s (by omega)
  have E2 : x2 = (((h * 18446744073709551616 + l) / y : Nat) : Int) := by simp only [x2, x1]; rw [Int.natCast_ediv, Int.natCast_add, Int.natCast_mul]; rfl
  have E3 : x3 = (((h * 18446744073709551616 + l) % y : Nat) : Int) := by simp only [x3, x1]; rw [Int.natCast_emod, Int.natCast_add, Int.natCast_mul]; rfl
  have Q1 : dq1 h l y = ((qd (h * 2 ^ s + l / 2 ^ (64 - s)) (l * 2 ^ s % 18446744073709551616) (y * 2 ^ s) : Nat) : Int) := by
    simp only [dq1, w1, w2, w3]
    exact (cast_two _ _ _).1
  have V1 : dV h l y = ((rd (h * 2 ^ s + l / 2 ^ (64 - s)) (l * 2 ^ s % 18446744073709551616) (y * 2 ^ s) : Nat) : Int) := by
    simp only [dV, w1, w2, w3]
    exact (cast_two _ _ _).2
  have zero := fun e => zero_case h l y e bl
  rw [g1, g2] at zero
  rw [g1] at E2
  rw [g2] at E3
  clear_value x1 x2 x3 x4 x5 x6 x7 x8 x9 x10 x11 x12 x13 x14 x15 x16 x17 x18 x19
  rw [w1, w2, w3, Q1, V1]
  subst E2 E3 E4 E5 E6 E7 E8 E9 E10 E11 E12 E13 E14 E15 E16 E17 E18 E19
  have bL : l * 2 ^ s % 18446744073709551616 < 18446744073709551616 := Nat.mod_lt _ (by decide)
  have hD0 : 0 < 2 ^ s := Nat.two_pow_pos s
  have hRD : ∀ R : Nat, R < y * 2 ^ s → (R : Int).fdiv ((2 ^ s : Nat) : Int) = ((R / 2 ^ s : Nat) : Int) := fun R _ => fdiv_nat R _
  clear hor g1 g2 t1 t2 w1 w2 w3 Q1 V1 m2 hDE
  generalize h * 2 ^ s + l / 2 ^ (64 - s) = U at *
  generalize hLd : l * 2 ^ s % 18446744073709551616 = L at *
  generalize y * 2 ^ s = Y at *
  have A1 : Dig Y (Y / 4294967296) (Y % 4294967296) U (L / 4294967296) := ⟨by omega, by omega, by omega, by omega, m1, by omega⟩
  obtain ⟨dm1, hV⟩ := dm_of (U := U) (L := L) hYp
  have A2 : Dig Y (Y / 4294967296) (Y % 4294967296) (rd U L Y) (L % 4294967296) := ⟨by omega, by omega, by omega, by omega, hV, by omega⟩
  have lt1 := lt_of A1
  have st1 := A1.start
  have last1 := fun q => @is_qd U L Y q
  generalize qd U L Y = Q at *
  generalize rd U L Y = V at *
  have st2 := A2.start
  have lt2 := lt_of2 A2
  obtain ⟨dm2, hR⟩ := dm_of2 (V := V) (L := L) hYp
  have last2 := fun q => @is_qe V L Y q
  generalize qe V L Y = Q2 at *
  generalize re V L Y = R2 at *
  have final : ∀ q : Nat, q = Q2 → IntKind.u64.wrap (IntKind.u64.wrap ((Q : Int) * 4294967296) + (q : Int)) = ((Q * 4294967296 + Q2 : Nat) : Int) ∧
      (IntKind.u64.wrap (IntKind.u64.wrap (IntKind.u64.wrap ((V * 4294967296 : Nat) : Int) + ((L % 4294967296 : Nat) : Int)) - IntKind.u64.wrap ((q : Int) * (Y : Int)))).fdiv ((2 ^ s : Nat) : Int) = ((R2 / 2 ^ s : Nat) : Int) := by
    rintro q rfl
    refine ⟨?_, ?_⟩
    · simp only [wrap_mod]
      omega
    · rw [← hRD _ hR]
      congr 1
      refine wsub ?_ ⟨Int.natCast_nonneg _, by omega⟩
      rw [← Int.natCast_mul, Nat.mul_comm q Y]
      generalize Y * q = T at *
      omega
  have part : ∀ q : Nat, q = Q → IntKind.u64.wrap (IntKind.u64.wrap (IntKind.u64.wrap ((U * 4294967296 : Nat) : Int) + ((L / 4294967296 : Nat) : Int)) - IntKind.u64.wrap ((q : Int) * (Y : Int))) = (V : Int) := by
    rintro q rfl
    refine wsub ?_ ⟨Int.natCast_nonneg _, by omega⟩
    rw [← Int.natCast_mul, Nat.mul_comm q Y]
    generalize Y * q = T at *
    omega
  have guess2 : IntKind.u64.wrap ((V : Int).tdiv ((Y / 4294967296 : Nat) : Int)) = ((V / (Y / 4294967296) : Nat) : Int) := by
    rw [tdiv_nat]
    have := Nat.div_le_self V (Y / 4294967296)
    exact wrap_id ⟨Int.natCast_nonneg _, by omega⟩
  have rest : ∀ a : Nat, a < 18446744073709551616 → IntKind.u64.wrap ((a : Int) - IntKind.u64.wrap (((a / (Y / 4294967296) : Nat) : Int) * ((Y / 4294967296 : Nat) : Int))) = ((a % (Y / 4294967296) : Nat) : Int) := by
    intro a ha
    have hm := Nat.mod_le a (Y / 4294967296)
    refine wsub1 ?_ ⟨Int.natCast_nonneg _, by omega⟩
    rw [← Int.natCast_mul, Nat.mul_comm]
    have := Nat.div_add_mod a (Y / 4294967296)
    omega
  have low : ∀ a : Nat, a < 18446744073709551616 → IntKind.u64.wrap ((BitVec.ofInt 64 (a : Int) &&& BitVec.ofInt 64 (4294967295 : Int)).toNat : Int) = ((a % 4294967296 : Nat) : Int) := by
    intro a ha
    rw [and_low a ha]; exact wrap_id ⟨Int.natCast_nonneg _, by omega⟩
  have dec : ∀ q : Nat, 1 ≤ q → q ≤ 4294967297 → IntKind.u64.wrap ((q : Int) - 1) = ((q - 1 : Nat) : Int) := by
    intro q hq hq'
    rw [wrap_mod]; omega
  have inc : ∀ r : Nat, r < 4294967296 → IntKind.u64.wrap ((r : Int) + ((Y / 4294967296 : Nat) : Int)) = ((r + Y / 4294967296 : Nat) : Int) := by
    intro r hr
    rw [wrap_mod]; omega
  have nb : ∀ b : Bool, b = false → (!b) = true := by rintro _ rfl; rfl
  have hd1 : (Y / 4294967296 : Nat) ≠ 0 := by omega
  have h9 : ((Y / 4294967296 : Nat) : Int) ≠ 0 := by omega
  have second : ∀ (y_4 : DivAt), (↑y_4.q : Int) * ((Y / 4294967296 : Nat) : Int) + (↑y_4.r : Int) = (V : Int) ∧ y_4.r < (4294967296 : Nat) ∧ (((V * 4294967296 : Nat) : Int) + ((L % 4294967296 : Nat) : Int)) / (Y : Int) ≤ (↑y_4.q : Int) ∧ y_4.q ≤ (4294967297 : Nat) → ((!Decidable.decide ((↑y_4.q : Int) ≥ (4294967296 : Int))) = Bool.true → (!Decidable.decide ((↑y_4.q : Int) ≥ (4294967296 : Int))) = Bool.true) ∧ ((!Decidable.decide ((↑y_4.q : Int) ≥ (4294967296 : Int))) = Bool.true → (!Decidable.decide ((↑y_4.q : Int) ≥ (4294967296 : Int))) = Bool.true) ∧ ((!Decidable.decide ((↑y_4.q : Int) ≥ (4294967296 : Int))) = Bool.true → (!Decidable.decide ((↑y_4.q : Int) ≥ (4294967296 : Int))) = Bool.true) ∧ ((!Decidable.decide ((↑y_4.q : Int) ≥ (4294967296 : Int))) = Bool.true → (!Decidable.decide ((↑y_4.q : Int) ≥ (4294967296 : Int))) = Bool.true) ∧ ((!Decidable.decide ((↑y_4.q : Int) ≥ (4294967296 : Int))) = Bool.true → (!Decidable.decide ((↑y_4.q : Int) ≥ (4294967296 : Int))) = Bool.true) ∧ ((!Decidable.decide ((↑y_4.q : Int) ≥ (4294967296 : Int))) = Bool.true → (!Decidable.decide ((↑y_4.q : Int) ≥ (4294967296 : Int))) = Bool.true) ∧ ((!Decidable.decide ((↑y_4.q : Int) ≥ (4294967296 : Int))) = Bool.true → (!Decidable.decide ((↑y_4.q : Int) ≥ (4294967296 : Int))) = Bool.true) ∧ (Decidable.decide ((↑y_4.q : Int) ≥ (4294967296 : Int)) = Bool.false → (!Decidable.decide ((↑y_4.q : Int) ≥ (4294967296 : Int))) = Bool.true) ∧ ((Decidable.decide ((↑y_4.q : Int) ≥ (4294967296 : Int)) || Decidable.decide (Go.IntKind.u64.wrap ((↑y_4.q : Int) * ((Y % 4294967296 : Nat) : Int)) > Go.IntKind.u64.wrap (Go.IntKind.u64.wrap ((4294967296 : Int) * (↑y_4.r : Int)) + ((L % 4294967296 : Nat) : Int)))) = Bool.true → (Decidable.decide (Go.IntKind.u64.wrap ((↑y_4.r : Int) + ((Y / 4294967296 : Nat) : Int)) ≥ (4294967296 : Int)) = Bool.true → (0 : Int) ≤ ((s : Nat) : Int) ∧ Go.IntKind.u64.wrap (Go.IntKind.u64.wrap ((Q : Int) * (4294967296 : Int)) + Go.IntKind.u64.wrap ((↑y_4.q : Int) - (1 : Int))) = ((Q * 4294967296 + Q2 : Nat) : Int) ∧ (Go.IntKind.u64.wrap (Go.IntKind.u64.wrap (Go.IntKind.u64.wrap ((V * 4294967296 : Nat) : Int) + ((L % 4294967296 : Nat) : Int)) - Go.IntKind.u64.wrap (Go.IntKind.u64.wrap ((↑y_4.q : Int) - (1 : Int)) * (Y : Int)))).fdiv ((2 ^ s : Nat) : Int) = ((R2 / 2 ^ s : Nat) : Int)) ∧ (Decidable.decide (Go.IntKind.u64.wrap ((↑y_4.r : Int) + ((Y / 4294967296 : Nat) : Int)) ≥ (4294967296 : Int)) = Bool.false → ∃ (y' : DivAt), ((↑y'.q : Int) * ((Y / 4294967296 : Nat) : Int) + (↑y'.r : Int) = (V : Int) ∧ y'.r < (4294967296 : Nat) ∧ (((V * 4294967296 : Nat) : Int) + ((L % 4294967296 : Nat) : Int)) / (Y : Int) ≤ (↑y'.q : Int) ∧ y'.q ≤ (4294967297 : Nat)) ∧ (h : Int) = (h : Int) ∧ (l : Int) = (l : Int) ∧ (Y : Int) = (Y : Int) ∧ ((s : Nat) : Int) = ((s : Nat) : Int) ∧ ((Y / 4294967296 : Nat) : Int) = ((Y / 4294967296 : Nat) : Int) ∧ ((Y % 4294967296 : Nat) : Int) = ((Y % 4294967296 : Nat) : Int) ∧ (U : Int) = (U : Int) ∧ (L : Int) = (L : Int) ∧ ((L / 4294967296 : Nat) : Int) = ((L / 4294967296 : Nat) : Int) ∧ ((L % 4294967296 : Nat) : Int) = ((L % 4294967296 : Nat) : Int) ∧ (Q : Int) = (Q : Int) ∧ Go.IntKind.u64.wrap ((↑y_4.r : Int) + ((Y / 4294967296 : Nat) : Int)) = (↑y'.r : Int) ∧ (V : Int) = (V : Int) ∧ Go.IntKind.u64.wrap ((↑y_4.q : Int) - (1 : Int)) = (↑y'.q : Int) ∧ y'.q < y_4.q)) ∧ ((Decidable.decide ((↑y_4.q : Int) ≥ (4294967296 : Int)) || Decidable.decide (Go.IntKind.u64.wrap ((↑y_4.q : Int) * ((Y % 4294967296 : Nat) : Int)) > Go.IntKind.u64.wrap (Go.IntKind.u64.wrap ((4294967296 : Int) * (↑y_4.r : Int)) + ((L % 4294967296 : Nat) : Int)))) = Bool.false → (0 : Int) ≤ ((s : Nat) : Int) ∧ Go.IntKind.u64.wrap (Go.IntKind.u64.wrap ((Q : Int) * (4294967296 : Int)) + (↑y_4.q : Int)) = ((Q * 4294967296 + Q2 : Nat) : Int) ∧ (Go.IntKind.u64.wrap (Go.IntKind.u64.wrap (Go.IntKind.u64.wrap ((V * 4294967296 : Nat) : Int) + ((L % 4294967296 : Nat) : Int)) - Go.IntKind.u64.wrap ((↑y_4.q : Int) * (Y : Int)))).fdiv ((2 ^ s : Nat) : Int) = ((R2 / 2 ^ s : Nat) : Int)) := by
    rintro ⟨q, r⟩ i2
    have D2 : DigAt Y (Y / 4294967296) (Y % 4294967296) V (L % 4294967296) q r := (dig_iff A2).1 i2
    have hr := D2.hr
    refine ⟨id, id, id, id, id, id, id, nb _, fun hc => ⟨fun hs => ?_, fun hs => ?_⟩, fun hc => ?_⟩
    · have c := (cond_iff hr A2.hw A2.h0).1 hc
      rw [inc r hr] at hs
      have p := D2.pred c
      have e := last2 _ (D2.last c (by have := of_decide_eq_true hs; omega))
      rw [dec q p.2.1 D2.hq', e]
      exact ⟨Int.natCast_nonneg _, final _ rfl⟩
    · have c := (cond_iff hr A2.hw A2.h0).1 hc
      rw [inc r hr] at hs
      have p := D2.pred c
      refine ⟨⟨q - 1, r + Y / 4294967296⟩, (dig_iff A2).2 (D2.step c (by have := of_decide_eq_false hs; omega)), rfl, rfl, rfl, rfl, rfl, rfl, rfl, rfl, rfl, rfl, rfl, inc r hr, rfl, dec q p.2.1 D2.hq', ?_⟩
      exact Nat.sub_lt p.2.1 Nat.one_pos
    · have c : q * (Y % 4294967296) ≤ 4294967296 * r + L % 4294967296 := by
        have c := mt (cond_iff hr A2.hw A2.h0).2 (by rw [hc]; exact Bool.false_ne_true)
        exact Nat.le_of_not_lt fun x => c (.inr x)
      have e := last2 _ (D2.done c)
      rw [e]
      exact ⟨Int.natCast_nonneg _, final _ rfl⟩
  refine ⟨fun e => absurd (beq_iff_eq.1 e) (by omega), fun _ => ⟨fun e => absurd (of_decide_eq_true e) (by omega), fun _ => ⟨fun e => ?_, fun _ => ?_⟩⟩⟩
  · obtain ⟨z1, z2⟩ := zero (Int.ofNat.inj (beq_iff_eq.1 e))
    exact ⟨by omega, by omega, z1, z2⟩
  refine ⟨⟨Int.natCast_nonneg _, by omega⟩, Int.natCast_nonneg _, Int.natCast_nonneg _, Int.natCast_nonneg _, Int.natCast_nonneg _, h9, fun _ => rfl,
    ⟨U / (Y / 4294967296), U % (Y / 4294967296)⟩, (dig_iff A1).2 st1, rfl, rfl, rfl, rfl, rfl, low _ f2, rfl, rfl, fdiv_low _, low _ bL, rfl, rest _ (by omega), fun y2 i2 => ?_⟩
  obtain ⟨q, r⟩ := y2
  have D2 : DigAt Y (Y / 4294967296) (Y % 4294967296) U (L / 4294967296) q r := (dig_iff A1).1 i2
  have hr := D2.hr
  refine ⟨id, id, id, id, id, id, id, nb _, fun hc => ⟨fun hs => ?_, fun hs => ?_⟩, fun hc => ?_⟩
  rotate_left
  · have c := (cond_iff hr A1.hw A1.h0).1 hc
    rw [inc r hr] at hs
    have p := D2.pred c
    refine ⟨⟨q - 1, r + Y / 4294967296⟩, (dig_iff A1).2 (D2.step c (by have := of_decide_eq_false hs; omega)), rfl, rfl, rfl, rfl, rfl, rfl, rfl, rfl, rfl, rfl, dec q p.2.1 D2.hq', inc r hr, ?_⟩
    exact Nat.sub_lt p.2.1 Nat.one_pos
  rotate_left
  · have c := (cond_iff hr A1.hw A1.h0).1 hc
    rw [inc r hr] at hs
    have p := D2.pred c
    have e := last1 _ (D2.last c (by have := of_decide_eq_true hs; omega))
    rw [dec q p.2.1 D2.hq', e]
    exact ⟨h9, fun _ => rfl, ⟨V / (Y / 4294967296), V % (Y / 4294967296)⟩, (dig_iff A2).2 st2, rfl, rfl, rfl, rfl, rfl, rfl, rfl, rfl, rfl, rfl, rfl, (by rw [part _ rfl, guess2]; exact rest _ (by omega)), part _ rfl, (by rw [part _ rfl]; exact guess2), fun y4 i4 => second y4 i4⟩
  · have c : q * (Y % 4294967296) ≤ 4294967296 * r + L / 4294967296 := by
      have c := mt (cond_iff hr A1.hw A1.h0).2 (by rw [hc]; exact Bool.false_ne_true)
      exact Nat.le_of_not_lt fun x => c (.inr x)
    have e := last1 _ (D2.done c)
    rw [e]
    exact ⟨h9, fun _ => rfl, ⟨V / (Y / 4294967296), V % (Y / 4294967296)⟩, (dig_iff A2).2 st2, rfl, rfl, rfl, rfl, rfl, rfl, rfl, rfl, rfl, rfl, rfl, (by rw [part _ rfl, guess2]; exact rest _ (by omega)), part _ rfl, (by rw [part _ rfl]; exact guess2), fun y4 i4 => second y4 i4⟩
theorem card_Div64 : FnOK Try.prog 74 (specWWW divC divG) :=
  FnOK_WWW (CxOK_cons card_LZ64 CxOK_nil) (iv := ivDiv) (N := 100) Try.func74 (by kernel_rfl) (by kernel_rfl) (fun a b d => bnd_two (bnd_I _ _) (bnd_I _ _)) ok_Div64
end Go.Proofs.Ytbjdchpncbgpnaa
end

section
/-
  Texts of numbers: the numbers' side.
-/
namespace Go.Proofs.Ytbjdchpncbgpnaa
open Go.Sx

/-! ## A long division -/
theorem long_step {X H c N : Nat} (hN : 0 < N) : (X * H + c) / N = X / N * H + (X % N * H + c) / N ∧ (X * H + c) % N = (X % N * H + c) % N := by
  have d := Nat.div_add_mod X N
  have e : X * H + c = N * (X / N * H) + (X % N * H + c) := by
    conv => lhs; rw [← d]
    rw [Nat.add_mul, Nat.mul_assoc, Nat.add_assoc]
  rw [e, Nat.mul_add_div hN, Nat.mul_add_mod]
  exact ⟨rfl, rfl⟩
theorem long_lt {r H c N : Nat} (hN : 0 < N) (hr : r < N) (hc : c < H) : (r * H + c) / N < H := by
  rw [Nat.div_lt_iff_lt_mul hN]
  have := Nat.mul_le_mul_right H (show r + 1 ≤ N from hr)
  rw [Nat.add_mul, Nat.one_mul] at this
  rw [Nat.mul_comm H N]
  omega
theorem long_div (H c0 c1 c2 c3 N : Nat) (hN : 0 < N) :
    (((c3 * H + c2) * H + c1) * H + c0) / N = ((c3 / N * H + (c3 % N * H + c2) / N) * H + ((c3 % N * H + c2) % N * H + c1) / N) * H + (((c3 % N * H + c2) % N * H + c1) % N * H + c0) / N ∧
    (((c3 * H + c2) * H + c1) * H + c0) % N = (((c3 % N * H + c2) % N * H + c1) % N * H + c0) % N := by
  have s1 := long_step (X := c3) (H := H) (c := c2) hN
  have s2 := long_step (X := c3 * H + c2) (H := H) (c := c1) hN
  have s3 := long_step (X := (c3 * H + c2) * H + c1) (H := H) (c := c0) hN
  rw [s3.1, s3.2, s2.1, s2.2, s1.1, s1.2]
  exact ⟨rfl, rfl⟩

/-! ## Bytes told by numbers -/
theorem bytesI_data (l : List Int) : (bytesI l).data.toList = l.map fun n => UInt8.ofNat n.toNat := by
  have h : ∀ (l : List Int) (r : ByteArray), (l.foldl (fun r n => r.push (UInt8.ofNat n.toNat)) r).data.toList = r.data.toList ++ l.map fun n => UInt8.ofNat n.toNat := by
    intro l
    induction l with
    | nil => intro r; simp
    | cons a l ih =>
      intro r
      rw [List.foldl_cons, ih, List.map_cons]
      simp [ByteArray.push]
  have := h l ByteArray.empty
  rw [show (ByteArray.empty).data.toList = [] from rfl, List.nil_append] at this
  exact this
theorem size_data (s : ByteArray) : s.size = s.data.toList.length := by rw [Array.length_toList]; rfl
theorem byteAt_list (s : ByteArray) (j : Nat) : byteAt s j = (s.data.toList.getD j 0).toNat := by
  unfold byteAt
  rw [List.getD_eq_getElem?_getD, Array.getElem?_toList, ← Array.getD_eq_getD_getElem?]
theorem text_size (n m : Nat) : (textOf n m).size = m := by
  unfold textOf
  rw [size_data, bytesI_data, List.length_map, List.length_map, List.length_range]
theorem text_at {n m j : Nat} (h : j < m) : byteAt (textOf n m) j = 48 + n / 10 ^ (m - 1 - j) % 10 := by
  unfold textOf
  rw [byteAt_list, bytesI_data, List.map_map, List.getD_eq_getElem?_getD, List.getElem?_map, List.getElem?_range h, Option.map_some, Option.getD_some]
  have : n / 10 ^ (m - 1 - j) % 10 < 10 := Nat.mod_lt _ (by decide)
  show (UInt8.ofNat (Int.toNat ((48 + n / 10 ^ (m - 1 - j) % 10 : Nat) : Int))).toNat = _
  rw [Int.toNat_natCast, UInt8.toNat_ofNat']
  omega
theorem text_ext {s t : ByteArray} (h : s.size = t.size) (h' : ∀ j, j < s.size → byteAt s j = byteAt t j) : s = t := by
  have e : s.data.toList = t.data.toList := by
    rw [size_data, size_data] at h
    refine List.ext_getElem h fun j h1 h2 => ?_
    have := h' j (by rw [size_data]; exact h1)
    rw [byteAt_list, byteAt_list, List.getD_eq_getElem?_getD, List.getD_eq_getElem?_getD, List.getElem?_eq_getElem h1, List.getElem?_eq_getElem h2, Option.getD_some, Option.getD_some] at this
    exact UInt8.toNat_inj.1 this
  cases s; cases t
  simp only at e
  rw [ByteArray.mk.injEq]
  exact Array.toList_inj.1 e

/-! ## How many digits -/
theorem lenD_of : ∀ (f k n : Nat), k ≤ f → n < 10 ^ (k + 1) → (k = 0 ∨ 10 ^ k ≤ n) → lenD f n = k + 1
  | 0, k, n, h, _, _ => by rw [Nat.le_zero.1 h]; rfl
  | f + 1, k, n, h, h1, h2 => by
    unfold lenD
    rcases Nat.eq_zero_or_pos k with rfl | hk
    · rw [if_pos (by rw [Nat.pow_succ, Nat.pow_zero] at h1; omega)]
    · obtain ⟨j, rfl⟩ : ∃ j, k = j + 1 := ⟨k - 1, by omega⟩
      have hp := Nat.pow_pos (n := j) (show 0 < 10 by decide)
      have h3 : 10 ^ j * 10 ≤ n := by rw [← Nat.pow_succ]; omega
      have h4 : 10 ^ j ≤ n / 10 := by rw [Nat.le_div_iff_mul_le (by decide)]; exact h3
      rw [if_neg (by omega), lenD_of f j (n / 10) (by omega) (by rw [Nat.div_lt_iff_lt_mul (by decide), ← Nat.pow_succ]; exact h1) (.inr h4)]
theorem M256_78 : M256 < 10 ^ 78 := by rw [M256_eq]; decide
theorem div_pow_zero {n k : Nat} : n / 10 ^ k = 0 ↔ n < 10 ^ k := by
  have := Nat.pow_pos (n := k) (show 0 < 10 by decide)
  rw [Nat.div_eq_zero_iff]
  omega

/-! ## Digits of a text -/
theorem show_is {n k : Nat} (h : n < 10 ^ (k + 1)) (h' : k = 0 ∨ 10 ^ k ≤ n) (hk : k ≤ 77) : showB n = textOf n (k + 1) := by
  unfold showB
  rw [lenD_of 78 k n (by omega) h h']
end Go.Proofs.Ytbjdchpncbgpnaa
end

section
/-
  Texts of numbers: what the code owes.
-/
namespace Go.Proofs.Ytbjdchpncbgpnaa
open Go.Sx

/-! ## split -/
theorem horner64 (r c : Nat) : (r : Int) * 18446744073709551616 + (c : Int) = ((r * 18446744073709551616 + c : Nat) : Int) := by omega
theorem limb_is (a i : Nat) : ∃ c : Nat, limb a i = (c : Int) ∧ c < 18446744073709551616 := by
  refine ⟨(limb a i).toNat, (Int.toNat_of_nonneg (limb_nonneg a i)).symm, ?_⟩
  have := limb_lt a i
  have := limb_nonneg a i
  omega
theorem horner_is (a c0 c1 c2 c3 : Nat) (h0 : limb a 0 = (c0 : Int)) (h1 : limb a 1 = (c1 : Int)) (h2 : limb a 2 = (c2 : Int)) (h3 : limb a 3 = (c3 : Int)) :
    a % M256 = ((c3 * 18446744073709551616 + c2) * 18446744073709551616 + c1) * 18446744073709551616 + c0 := by
  rw [← join_limbs, h0, h1, h2, h3]
  unfold join
  simp only [Int.toNat_natCast]
  omega
theorem join_nat (q0 q1 q2 q3 : Nat) : join (q0 : Int) (q1 : Int) (q2 : Int) (q3 : Int) = ((q3 * 18446744073709551616 + q2) * 18446744073709551616 + q1) * 18446744073709551616 + q0 := by
  unfold join
  simp only [Int.toNat_natCast]
  omega
theorem nat_div (a b : Nat) : (a : Int) / (b : Int) = ((a / b : Nat) : Int) := (Int.natCast_ediv a b).symm
theorem nat_mod (a b : Nat) : (a : Int) % (b : Int) = ((a % b : Nat) : Int) := (Int.natCast_emod a b).symm
theorem word_nat {n : Nat} (h : n < 18446744073709551616) : (0 : Int) ≤ (n : Int) ∧ (n : Int) < 18446744073709551616 := by omega
theorem ok_split : ∀ (a : Nat) (n : Int), Ok (splitC a n) → Owes Try.prog cxSplit [] 100 Try.f47 [sU a, sI .u64 n] (splitG a n) := by
  intro a n hc
  obtain ⟨⟨hn, hn'⟩, _⟩ := hc
  rw [vc_split]
  obtain ⟨N, rfl⟩ := Int.eq_ofNat_of_zero_le (show 0 ≤ n by omega)
  have hN : 0 < N := by omega
  have hN' : N < 18446744073709551616 := by omega
  obtain ⟨c0, h0, b0⟩ := limb_is a 0
  obtain ⟨c1, h1, b1⟩ := limb_is a 1
  obtain ⟨c2, h2, b2⟩ := limb_is a 2
  obtain ⟨c3, h3, b3⟩ := limb_is a 3
  have hA := horner_is a c0 c1 c2 c3 h0 h1 h2 h3
  obtain ⟨d1, d2⟩ := long_div 18446744073709551616 c0 c1 c2 c3 N hN
  rw [← hA] at d1 d2
  have r3 := Nat.mod_lt c3 hN
  have r2 := Nat.mod_lt (c3 % N * 18446744073709551616 + c2) hN
  have r1 := Nat.mod_lt ((c3 % N * 18446744073709551616 + c2) % N * 18446744073709551616 + c1) hN
  have q3 : c3 / N < 18446744073709551616 := Nat.lt_of_le_of_lt (Nat.div_le_self _ _) b3
  have q2 := long_lt hN r3 b2
  have q1 := long_lt hN r2 b1
  have q0 := long_lt hN r1 b0
  intro x1 x2 x3 x4 x5 x6 x7 x8 x9 x10 x11 x12
  have E1 : x1 = (c3 : Int) := by simp only [x1, h3]; exact Int.zero_add _
  have E2 : x2 = ((c3 % N : Nat) : Int) := by simp only [x2, E1]; exact nat_mod _ _
  have E3 : x3 = ((c3 % N * 18446744073709551616 + c2 : Nat) : Int) := by simp only [x3, E2, h2]; exact horner64 _ _
  have E4 : x4 = (((c3 % N * 18446744073709551616 + c2) % N : Nat) : Int) := by simp only [x4, E3]; exact nat_mod _ _
  have E5 : x5 = (((c3 % N * 18446744073709551616 + c2) % N * 18446744073709551616 + c1 : Nat) : Int) := by simp only [x5, E4, h1]; exact horner64 _ _
  have E6 : x6 = ((((c3 % N * 18446744073709551616 + c2) % N * 18446744073709551616 + c1) % N : Nat) : Int) := by simp only [x6, E5]; exact nat_mod _ _
  have E7 : x7 = ((((c3 % N * 18446744073709551616 + c2) % N * 18446744073709551616 + c1) % N * 18446744073709551616 + c0 : Nat) : Int) := by simp only [x7, E6, h0]; exact horner64 _ _
  have E8 : x8 = (((((c3 % N * 18446744073709551616 + c2) % N * 18446744073709551616 + c1) % N * 18446744073709551616 + c0) / N : Nat) : Int) := by simp only [x8, E7]; exact nat_div _ _
  have E9 : x9 = ((((c3 % N * 18446744073709551616 + c2) % N * 18446744073709551616 + c1) / N : Nat) : Int) := by simp only [x9, E5]; exact nat_div _ _
  have E10 : x10 = (((c3 % N * 18446744073709551616 + c2) / N : Nat) : Int) := by simp only [x10, E3]; exact nat_div _ _
  have E11 : x11 = ((c3 / N : Nat) : Int) := by simp only [x11, E1]; exact nat_div _ _
  have J : join x8 x9 x10 x11 = a % M256 / N := by
    rw [E8, E9, E10, E11, join_nat, d1]
  have R : x7 % (N : Int) = ((a % M256 % N : Nat) : Int) := by rw [E7, d2]; exact nat_mod _ _
  have hw : ∀ m : Nat, m < N → (0 : Int) ≤ (m : Int) ∧ (m : Int) < 18446744073709551616 := fun m hm => word_nat (Nat.lt_trans hm hN')
  have hl : ∀ m : Nat, m < N → (m : Int) < (N : Int) := fun m hm => Int.ofNat_lt.2 hm
  refine ⟨⟨by decide, by decide⟩, ?_, word_nat hN', by omega, ?_, ?_, word_nat hN', ?_, ?_, ?_, word_nat hN', ?_, ?_, ?_, word_nat hN', ?_, ⟨?_, ?_, ?_, ?_, ?_, trivial⟩, ?_⟩
  · rw [h3]; exact word_nat b3
  · rw [E2]; exact hw _ r3
  · rw [h2]; exact word_nat b2
  · rw [E2]; exact hl _ r3
  · rw [E4]; exact hw _ r2
  · rw [h1]; exact word_nat b1
  · rw [E4]; exact hl _ r2
  · rw [E6]; exact hw _ r1
  · rw [h0]; exact word_nat b0
  · rw [E6]; exact hl _ r1
  · rw [E8]; exact word_nat q0
  · rw [E9]; exact word_nat q1
  · rw [E10]; exact word_nat q2
  · rw [E11]; exact word_nat q3
  · rw [J]; simp only [x12, Int.toNat_natCast]
  · rw [R]; simp only [x12, Int.toNat_natCast]
theorem card_split : FnOK Try.prog 47 (specUIC splitC splitG) :=
  FnOK_UIC (CxOK_cons card_Div64 CxOK_nil) (iv := fun _ _ => []) (N := 100) Try.func47 (by kernel_rfl) (by kernel_rfl) (fun a n => bnd_two (bnd_U _) (bnd_I _ _)) ok_split

/-! ## Show -/
theorem u8_nat {n : Nat} (h : n < 256) : IntKind.u8.wrap (n : Int) = (n : Int) := by
  unfold IntKind.wrap
  simp [IntKind.signed, IntKind.bits]
  omega
theorem i64_at {y : Nat} (h : y ≤ 77) : IntKind.i64.wrap (((78 - y : Nat) : Int) - 1) = ((77 - y : Nat) : Int) := by
  rw [IntWalk.i64_in _ (by omega)]
  omega
theorem digit_u8 (v : Nat) : IntKind.u8.wrap (48 + IntKind.u8.wrap ((v % 10 : Nat) : Int)) = ((48 + v % 10 : Nat) : Int) := by
  have : v % 10 < 10 := Nat.mod_lt _ (by decide)
  rw [u8_nat (by omega), show (48 : Int) + ((v % 10 : Nat) : Int) = ((48 + v % 10 : Nat) : Int) by omega, u8_nat (by omega)]
theorem div_small {n k : Nat} (h : n < M256) : n / 10 ^ k % M256 = n / 10 ^ k := Nat.mod_eq_of_lt (Nat.lt_of_le_of_lt (Nat.div_le_self _ _) h)
theorem div_small' {n k : Nat} (h : n < M256) : n / 10 ^ k / 10 % M256 = n / 10 ^ (k + 1) := by
  rw [Nat.pow_succ, ← Nat.div_div_eq_div_mul]
  exact Nat.mod_eq_of_lt (Nat.lt_of_le_of_lt (Nat.le_trans (Nat.div_le_self _ _) (Nat.div_le_self _ _)) h)
theorem ok_Show : ∀ a : Nat, Owes Try.prog cxShow [(3, .inv (invShow a))] 400 Try.f19 [sU a] (showG a) := by
  intro a
  rw [vc_Show]
  have hn : a % M256 < M256 := Nat.mod_lt _ (by rw [M256_eq]; decide)
  intro x1
  have hx : x1 < M256 := hn
  clear_value x1
  have z : ∀ j, j < 78 → (0 : Int) = showF x1 0 j := by
    intro j hj
    unfold showF
    rw [if_neg (by omega)]
  refine ⟨fun _ => rfl, 0, ⟨by decide, .inl rfl⟩, rfl, rfl, rfl, ?_, rfl, ⟨z 0 (by decide), z 1 (by decide), z 2 (by decide), z 3 (by decide), z 4 (by decide), z 5 (by decide), z 6 (by decide), z 7 (by decide), z 8 (by decide), z 9 (by decide), z 10 (by decide), z 11 (by decide), z 12 (by decide), z 13 (by decide), z 14 (by decide), z 15 (by decide), z 16 (by decide), z 17 (by decide), z 18 (by decide), z 19 (by decide), z 20 (by decide), z 21 (by decide), z 22 (by decide), z 23 (by decide), z 24 (by decide), z 25 (by decide), z 26 (by decide), z 27 (by decide), z 28 (by decide), z 29 (by decide), z 30 (by decide), z 31 (by decide), z 32 (by decide), z 33 (by decide), z 34 (by decide), z 35 (by decide), z 36 (by decide), z 37 (by decide), z 38 (by decide), z 39 (by decide), z 40 (by decide), z 41 (by decide), z 42 (by decide), z 43 (by decide), z 44 (by decide), z 45 (by decide), z 46 (by decide), z 47 (by decide), z 48 (by decide), z 49 (by decide), z 50 (by decide), z 51 (by decide), z 52 (by decide), z 53 (by decide), z 54 (by decide), z 55 (by decide), z 56 (by decide), z 57 (by decide), z 58 (by decide), z 59 (by decide), z 60 (by decide), z 61 (by decide), z 62 (by decide), z 63 (by decide), z 64 (by decide), z 65 (by decide), z 66 (by decide), z 67 (by decide), z 68 (by decide), z 69 (by decide), z 70 (by decide), z 71 (by decide), z 72 (by decide), z 73 (by decide), z 74 (by decide), z 75 (by decide), z 76 (by decide), z 77 (by decide), trivial⟩, rfl, fun y hy => ?_⟩
  · rw [div_small hx, Nat.pow_zero, Nat.div_one]
  obtain ⟨hy1, hy2⟩ := hy
  rw [i64_at hy1, div_small hx, div_small' hx]
  have hb : (0 : Int) ≤ ((77 - y : Nat) : Int) ∧ ((77 - y : Nat) : Int) < 78 := by omega
  refine ⟨by decide, hb, hb, fun hz => ⟨hb, ?_, ?_⟩, fun hz => ?_⟩
  · rw [Int.toNat_natCast]; omega
  · have h0 : x1 / 10 ^ (y + 1) = 0 := beq_iff_eq.1 hz
    rw [show_is (div_pow_zero.1 h0) (hy2.imp id fun h => Nat.le_of_not_lt fun c => h (div_pow_zero.2 c)) hy1]
    unfold textOf
    rw [Int.toNat_natCast, show 78 - (77 - y) = y + 1 by omega]
    congr 1
    refine List.map_congr_left fun j hj => ?_
    have hj := List.mem_range.1 hj
    rcases Nat.eq_zero_or_pos j with rfl | h
    · rw [if_pos (by omega), digit_u8, Nat.add_sub_cancel, Nat.sub_zero]
    · rw [if_neg (by omega), if_pos (by omega), show 77 - (77 - y + j) = y + 1 - 1 - j by omega]
  · have h0 : x1 / 10 ^ (y + 1) ≠ 0 := beq_eq_false_iff_ne.1 hz
    have hy3 : y + 1 ≤ 77 := by
      refine Nat.le_of_not_lt fun c => h0 (div_pow_zero.2 (Nat.lt_trans hx ?_))
      rw [show y + 1 = 78 by omega]
      exact M256_78
    refine ⟨y + 1, ⟨hy3, .inr h0⟩, rfl, rfl, ?_, (div_small hx).symm, rfl, ⟨fun j hj => ?_, trivial⟩, rfl, by omega⟩
    · omega
    · rw [Int.toNat_natCast]
      unfold showF
      rcases Nat.lt_trichotomy j (77 - y) with h | h | h
      · rw [if_neg (by omega), if_neg (by omega), if_neg (by omega)]
      · rw [if_pos h, if_pos (by omega), digit_u8, show 77 - j = y by omega]
      · rw [if_neg (by omega), if_pos (by omega), if_pos (by omega)]
theorem card_Show : FnOK Try.prog 19 (specU showG) :=
  FnOK_U' (CxOK_cons card_split CxOK_nil) (iv := fun a => [(3, .inv (invShow a))]) (N := 400) Try.func19 (by kernel_rfl) (by kernel_rfl) (fun _ => bnd_one trivial) ok_Show

/-! ## decimal -/
end Go.Proofs.Ytbjdchpncbgpnaa
end

section
/-
  Quotients: the small parts (a guess, the bits ahead, moves up and down).
-/
namespace Go.Proofs.Ytbjdchpncbgpnaa
open Go.Sx

/-! ## guess -/
/-! ## noughts -/
end Go.Proofs.Ytbjdchpncbgpnaa
end

section
/-
  Quotients: moves up and down.
-/
namespace Go.Proofs.Ytbjdchpncbgpnaa
open Go.Sx

end Go.Proofs.Ytbjdchpncbgpnaa
end

section
/-
  Quotients: one digit of a long division by four words.
-/
namespace Go.Proofs.Ytbjdchpncbgpnaa
open Go.Sx

/-! ## How far a guess is off -/
end Go.Proofs.Ytbjdchpncbgpnaa
end

section
/-
  Quotients: the long division, and the law.
-/
namespace Go.Proofs.Ytbjdchpncbgpnaa
open Go.Sx

end Go.Proofs.Ytbjdchpncbgpnaa
end

section
/-
  Quotients: DivMod, and the law.
-/
namespace Go.Proofs.Ytbjdchpncbgpnaa
open Go.Sx

end Go.Proofs.Ytbjdchpncbgpnaa
end

section
/-
  Laws of wide numbers, and the reference's by a modulus: reckoned by the kernel. (Laid by program.)
-/
namespace Go.Proofs.Ytbjdchpncbgpnaa
open Go Go.Sx Go.RowKit
set_option maxRecDepth 100000
end Go.Proofs.Ytbjdchpncbgpnaa
end

section
/-
  Laws of wide sums and quotients.
-/
namespace Go.Proofs.Ytbjdchpncbgpnaa
open Go Go.Sx Go.RowKit
end Go.Proofs.Ytbjdchpncbgpnaa
end

section
/-
  Texts of numbers: reading, and the laws.
-/
namespace Go.Proofs.Ytbjdchpncbgpnaa
open Go.Sx

/-! ## The laws -/
end Go.Proofs.Ytbjdchpncbgpnaa
end

section
/-
  The reference's texts of numbers: reckoned by the kernel. (Laid by program.)
-/
namespace Go.Proofs.Ytbjdchpncbgpnaa
open Go Go.Sx Go.RowKit
set_option maxRecDepth 100000
end Go.Proofs.Ytbjdchpncbgpnaa
end

section
/-
  The reference's texts of numbers; the law of what is parsed.
-/
namespace Go.Proofs.Ytbjdchpncbgpnaa
open Go Go.Sx Go.RowKit

end Go.Proofs.Ytbjdchpncbgpnaa
end

section
/-
  A power of ten: the numbers' side.
-/
namespace Go.Proofs.Ytbjdchpncbgpnaa
open Go.Sx

end Go.Proofs.Ytbjdchpncbgpnaa
end

section
/-
  The reference's decimal digits; laws of texts: reckoned by the kernel. (Laid by program.)
-/
namespace Go.Proofs.Ytbjdchpncbgpnaa
open Go Go.Sx Go.RowKit
set_option maxRecDepth 100000
def invDcm (N : Nat) : Inv where
  X := Nat × Option Addr × Nat
  tm y := slotsAt 39 [(3, .one (xsI y.2.1 (lenDg (N / 10 ^ y.1)) y.2.2 .u64 (dg (N / 10 ^ y.1)))), (4, .one (sStr (textOf N y.1)))]
  ob _ := [.dead]
  holds y := y.1 ≤ 78 ∧ (y.1 = 0 ∨ N / 10 ^ (y.1 - 1) ≠ 0)
  less y := N / 10 ^ y.1
def cxWSh : Cx := [(19, specU showG), (20, specU showG)]
-- VC vc_refDcm HASH 0e54c543da88db53
theorem vc_refDcm (a N : Nat) (r : ByteArray) :
    OwesV Try.prog .none slAll [(5, .inv (invDcm N))] 4 Try.f20 [sU a] (.one (sStr r)) =
    (let x1 : Nat := Go.Sx.vn (8 : Nat) fun (i : Nat) => Go.Sx.dg (a % Go.Sx.M256) i; let x2 : Nat := Go.Sx.lenDg x1; ∀ (a_1 : Option Go.Addr) (cap : Nat), (a_1 = Option.none → (8 : Nat) = (0 : Nat) ∧ cap = (0 : Nat)) → (8 : Nat) ≤ cap → (∀ (_ : Nat), True) ∧ (Go.Sx.dgs (8 : Nat) fun (i : Nat) => Go.Sx.intsC (Go.Sx.SC.val (Go.Value.int Go.IntKind.u64 (Go.Sx.dg (a % Go.Sx.M256) i)))) ∧ (8 : Nat) ≤ (1000 : Nat) ∧ ∀ (a : Option Go.Addr) (cap : Nat), (a = Option.none → x2 = (0 : Nat) ∧ cap = (0 : Nat)) → x2 ≤ cap → (((↑x2 : Int) == (0 : Int)) = Bool.true → (ByteArray.mk #[(48 : UInt8)]) = r) ∧ (((↑x2 : Int) == (0 : Int)) = Bool.false → (∀ (y : Nat × Option Go.Addr × Nat), Go.Sx.closedB (Go.Sx.slotsAt (39 : Nat) [((3 : Nat), Go.Sx.SV.one (Go.Sx.xsI y.snd.fst (Go.Sx.lenDg (N / (10 : Nat) ^ y.fst)) y.snd.snd Go.IntKind.u64 (Go.Sx.dg (N / (10 : Nat) ^ y.fst)))), ((4 : Nat), Go.Sx.SV.one (Go.Sx.sStr (textOf N y.fst)))]) [Go.Sx.SO.dead] = Bool.true) ∧ ∃ (y : Nat × Option Go.Addr × Nat), (y.fst ≤ (78 : Nat) ∧ (y.fst = (0 : Nat) ∨ N / (10 : Nat) ^ (y.fst - (1 : Nat)) ≠ (0 : Nat))) ∧ (a = y.snd.fst ∧ x2 = Go.Sx.lenDg (N / (10 : Nat) ^ y.fst) ∧ cap = y.snd.snd ∧ ∀ (i : Nat), i < x2 → Go.Sx.dg x1 i = Go.Sx.dg (N / (10 : Nat) ^ y.fst) i) ∧ (ByteArray.mk #[]) = textOf N y.fst ∧ ∀ (y : Nat × Option Go.Addr × Nat), y.fst ≤ (78 : Nat) ∧ (y.fst = (0 : Nat) ∨ N / (10 : Nat) ^ (y.fst - (1 : Nat)) ≠ (0 : Nat)) → (Decidable.decide ((↑(Go.Sx.lenDg (N / (10 : Nat) ^ y.fst)) : Int) > (0 : Int)) = Bool.true → (1 : Nat) ≤ (1 : Nat) ∧ ∀ (_ : Go.Addr), (∀ (_ : Nat), True) ∧ (∀ (_ : Nat), True) ∧ (Go.Sx.dgs (Go.Sx.lenDg (N / (10 : Nat) ^ y.fst)) fun (i : Nat) => Go.Sx.intsC (Go.Sx.SC.val (Go.Value.int Go.IntKind.u64 (Go.Sx.dg (N / (10 : Nat) ^ y.fst) i)))) ∧ Go.Sx.lenDg (N / (10 : Nat) ^ y.fst) ≤ (1000 : Nat) ∧ (Go.Sx.dgs (1 : Nat) fun (i : Nat) => Go.Sx.intsC (Go.Sx.SC.val (Go.Value.int (Go.IntKind.u64, (10 : Int)).fst (Go.Sx.selG [Go.Sx.SK.c (Go.Sx.SC.num Go.IntKind.u64 (10 : Int))] i)))) ∧ (1 : Nat) ≤ (900 : Nat) ∧ (10 : Nat) ≠ (0 : Nat) ∧ ∀ (a : Option Go.Addr) (cap : Nat), (a = Option.none → Go.Sx.lenDg (N / (10 : Nat) ^ y.fst) = (0 : Nat) ∧ cap = (0 : Nat)) → Go.Sx.lenDg (N / (10 : Nat) ^ y.fst) ≤ cap → ∀ (a : Option Go.Addr) (cap : Nat), (a = Option.none → Go.Sx.remL (Go.Sx.vn (Go.Sx.lenDg (N / (10 : Nat) ^ y.fst)) fun (i : Nat) => Go.Sx.dg (N / (10 : Nat) ^ y.fst) i) (10 : Nat) (Go.Sx.lenDg (N / (10 : Nat) ^ y.fst)) = (0 : Nat) ∧ cap = (0 : Nat)) → Go.Sx.remL (Go.Sx.vn (Go.Sx.lenDg (N / (10 : Nat) ^ y.fst)) fun (i : Nat) => Go.Sx.dg (N / (10 : Nat) ^ y.fst) i) (10 : Nat) (Go.Sx.lenDg (N / (10 : Nat) ^ y.fst)) ≤ cap → (∀ (_ : Nat), True) ∧ (Go.Sx.dgs (Go.Sx.remL (Go.Sx.vn (Go.Sx.lenDg (N / (10 : Nat) ^ y.fst)) fun (i : Nat) => Go.Sx.intsC (Go.Sx.SC.val (Go.Value.int Go.IntKind.u64 (Go.Sx.dg (N / (10 : Nat) ^ y.fst) i)))) (10 : Nat) (Go.Sx.lenDg (N / (10 : Nat) ^ y.fst))) fun (i : Nat) => Go.Sx.intsC (Go.Sx.SC.val (Go.Value.int Go.IntKind.u64 (Go.Sx.dg ((Go.Sx.vn (Go.Sx.lenDg (N / (10 : Nat) ^ y.fst)) fun (i : Nat) => Go.Sx.intsC (Go.Sx.SC.val (Go.Value.int Go.IntKind.u64 (Go.Sx.dg (N / (10 : Nat) ^ y.fst) i)))) % (10 : Nat)) i)))) ∧ Go.Sx.remL (Go.Sx.vn (Go.Sx.lenDg (N / (10 : Nat) ^ y.fst)) fun (i : Nat) => Go.Sx.dg (N / (10 : Nat) ^ y.fst) i) (10 : Nat) (Go.Sx.lenDg (N / (10 : Nat) ^ y.fst)) ≤ (1000 : Nat) ∧ (Go.Sx.bytesI (Go.Sx.intsL [Go.Sx.SK.c (Go.Sx.SC.val (Go.Value.int Go.IntKind.u8 (Go.IntKind.u8.wrap (Go.IntKind.u64.wrap ((48 : Int) + Go.Sx.dg (Go.Sx.vn (Go.Sx.remL (Go.Sx.vn (Go.Sx.lenDg (N / (10 : Nat) ^ y.fst)) fun (i : Nat) => Go.Sx.dg (N / (10 : Nat) ^ y.fst) i) (10 : Nat) (Go.Sx.lenDg (N / (10 : Nat) ^ y.fst))) fun (i : Nat) => Go.Sx.dg ((Go.Sx.vn (Go.Sx.lenDg (N / (10 : Nat) ^ y.fst)) fun (i : Nat) => Go.Sx.dg (N / (10 : Nat) ^ y.fst) i) % (10 : Nat)) i) (0 : Nat))))))])).size + (textOf N y.fst).size ≤ (9223372036854775807 : Nat) ∧ (∀ (_ : Nat), True) ∧ (Go.Sx.dgs (Go.Sx.lenDg (N / (10 : Nat) ^ y.fst)) fun (i : Nat) => Go.Sx.intsC (Go.Sx.SC.val (Go.Value.int Go.IntKind.u64 (Go.Sx.dg ((Go.Sx.vn (Go.Sx.lenDg (N / (10 : Nat) ^ y.fst)) fun (i : Nat) => Go.Sx.intsC (Go.Sx.SC.val (Go.Value.int Go.IntKind.u64 (Go.Sx.dg (N / (10 : Nat) ^ y.fst) i)))) / (10 : Nat)) i)))) ∧ Go.Sx.lenDg (N / (10 : Nat) ^ y.fst) ≤ (1000 : Nat) ∧ ∀ (a : Option Go.Addr) (cap : Nat), (a = Option.none → Go.Sx.lenDg (Go.Sx.vn (Go.Sx.lenDg (N / (10 : Nat) ^ y.fst)) fun (i : Nat) => Go.Sx.dg ((Go.Sx.vn (Go.Sx.lenDg (N / (10 : Nat) ^ y.fst)) fun (i : Nat) => Go.Sx.dg (N / (10 : Nat) ^ y.fst) i) / (10 : Nat)) i) = (0 : Nat) ∧ cap = (0 : Nat)) → Go.Sx.lenDg (Go.Sx.vn (Go.Sx.lenDg (N / (10 : Nat) ^ y.fst)) fun (i : Nat) => Go.Sx.dg ((Go.Sx.vn (Go.Sx.lenDg (N / (10 : Nat) ^ y.fst)) fun (i : Nat) => Go.Sx.dg (N / (10 : Nat) ^ y.fst) i) / (10 : Nat)) i) ≤ cap → ∃ (y' : Nat × Option Go.Addr × Nat), (y'.fst ≤ (78 : Nat) ∧ (y'.fst = (0 : Nat) ∨ N / (10 : Nat) ^ (y'.fst - (1 : Nat)) ≠ (0 : Nat))) ∧ (a = y'.snd.fst ∧ Go.Sx.lenDg (Go.Sx.vn (Go.Sx.lenDg (N / (10 : Nat) ^ y.fst)) fun (i : Nat) => Go.Sx.dg ((Go.Sx.vn (Go.Sx.lenDg (N / (10 : Nat) ^ y.fst)) fun (i : Nat) => Go.Sx.dg (N / (10 : Nat) ^ y.fst) i) / (10 : Nat)) i) = Go.Sx.lenDg (N / (10 : Nat) ^ y'.fst) ∧ cap = y'.snd.snd ∧ ∀ (i : Nat), i < Go.Sx.lenDg (Go.Sx.vn (Go.Sx.lenDg (N / (10 : Nat) ^ y.fst)) fun (i : Nat) => Go.Sx.dg ((Go.Sx.vn (Go.Sx.lenDg (N / (10 : Nat) ^ y.fst)) fun (i : Nat) => Go.Sx.dg (N / (10 : Nat) ^ y.fst) i) / (10 : Nat)) i) → Go.Sx.dg (Go.Sx.vn (Go.Sx.lenDg (N / (10 : Nat) ^ y.fst)) fun (i : Nat) => Go.Sx.dg ((Go.Sx.vn (Go.Sx.lenDg (N / (10 : Nat) ^ y.fst)) fun (i : Nat) => Go.Sx.dg (N / (10 : Nat) ^ y.fst) i) / (10 : Nat)) i) i = Go.Sx.dg (N / (10 : Nat) ^ y'.fst) i) ∧ Go.Sx.bytesI (Go.Sx.intsL [Go.Sx.SK.c (Go.Sx.SC.val (Go.Value.int Go.IntKind.u8 (Go.IntKind.u8.wrap (Go.IntKind.u64.wrap ((48 : Int) + Go.Sx.dg (Go.Sx.vn (Go.Sx.remL (Go.Sx.vn (Go.Sx.lenDg (N / (10 : Nat) ^ y.fst)) fun (i : Nat) => Go.Sx.dg (N / (10 : Nat) ^ y.fst) i) (10 : Nat) (Go.Sx.lenDg (N / (10 : Nat) ^ y.fst))) fun (i : Nat) => Go.Sx.dg ((Go.Sx.vn (Go.Sx.lenDg (N / (10 : Nat) ^ y.fst)) fun (i : Nat) => Go.Sx.dg (N / (10 : Nat) ^ y.fst) i) % (10 : Nat)) i) (0 : Nat))))))]) ++ textOf N y.fst = textOf N y'.fst ∧ N / (10 : Nat) ^ y'.fst < N / (10 : Nat) ^ y.fst) ∧ (Decidable.decide ((↑(Go.Sx.lenDg (N / (10 : Nat) ^ y.fst)) : Int) > (0 : Int)) = Bool.false → textOf N y.fst = r))) := by kernel_rfl
-- END VC
-- VC vc_WideShows HASH 027c19b33e2c5716
theorem vc_WideShows (a : Nat) :
    Owes Try.prog cxWSh [] 10 Try.f5 [sU a] yes =
    (((showB (a % Go.Sx.M256)).toList == (showB (a % Go.Sx.M256)).toList) = Bool.true) := by kernel_rfl
-- END VC
end Go.Proofs.Ytbjdchpncbgpnaa
end

section
/-
  The reference's powers of ten and decimal digits; laws of texts.
-/
namespace Go.Proofs.Ytbjdchpncbgpnaa
open Go Go.Sx Go.RowKit

theorem byteAt_app (s t : ByteArray) (j : Nat) : byteAt (s ++ t) j = if j < s.size then byteAt s j else byteAt t (j - s.size) := by
  unfold byteAt
  rw [ByteArray.data_append, Array.getD_eq_getD_getElem?, Array.getD_eq_getD_getElem?, Array.getD_eq_getD_getElem?, Array.getElem?_append]
  have : s.data.size = s.size := rfl
  rw [this]
  split <;> rfl
end Go.Proofs.Ytbjdchpncbgpnaa
end

section
/-
  The reference's decimal digits; the law of what is shown.
-/
namespace Go.Proofs.Ytbjdchpncbgpnaa
open Go Go.Sx Go.RowKit

theorem lenDg_zero {X : Nat} (h : lenDg X = 0) : X = 0 := by
  have := lenDg_lt X
  rw [h] at this
  simpa using this
theorem text_head {N k : Nat} {z : Int} (hz : z = ((48 + N / 10 ^ k % 10 : Nat) : Int)) : bytesI (intsL [SK.c (SC.val (Value.int IntKind.u8 z))]) ++ textOf N k = textOf N (k + 1) := by
  have e1 : (bytesI (intsL [SK.c (SC.val (Value.int IntKind.u8 z))])).size = 1 := by rw [size_data, bytesI_data]; rfl
  refine text_ext (by rw [ByteArray.size_append, e1, text_size, text_size]; omega) fun j hj => ?_
  rw [ByteArray.size_append, e1, text_size] at hj
  rw [byteAt_app, e1]
  by_cases e : j = 0
  · subst e
    rw [if_pos (by omega), byteAt_list, bytesI_data, text_at (by omega), show k + 1 - 1 - 0 = k by omega]
    have : N / 10 ^ k % 10 < 10 := Nat.mod_lt _ (by decide)
    show (UInt8.ofNat z.toNat).toNat = _
    rw [hz, Int.toNat_natCast, UInt8.toNat_ofNat']
    omega
  · rw [if_neg (by omega), text_at (by omega), text_at (by omega), show k - 1 - (j - 1) = k + 1 - 1 - j by omega]
theorem ok_refDcm (a : Nat) : OwesV Try.prog .none slAll [(5, .inv (invDcm (a % M256)))] 4 Try.f20 [sU a] (showG a) := by
  unfold showG
  rw [vc_refDcm]
  have hN := modM a
  generalize a % M256 = N at *
  intro x1 x2
  have E1 : x1 = N := vn8 hN
  have E2 : x2 = lenDg x1 := rfl
  clear_value x1
  subst E1
  have hN10 : x1 < 10 ^ 78 := Nat.lt_of_lt_of_le hN (by decide)
  have T : ∀ i : Nat, True := fun _ => trivial
  have hdiv : ∀ k, x1 / 10 ^ k < 4294967296 ^ 8 := fun k => Nat.lt_of_le_of_lt (Nat.div_le_self _ _) hN
  have hlen : ∀ k, lenDg (x1 / 10 ^ k) ≤ 8 := fun k => lenDg_le (hdiv k)
  refine fun _ _ _ _ => ⟨T, dgs_dg _ _, by decide, fun a0 c0 _ _ => ⟨fun h => ?_, fun h => ⟨fun y => rfl, (0, a0, c0), ⟨Nat.zero_le _, .inl rfl⟩, ⟨rfl, ?_, rfl, fun i _ => ?_⟩, rfl, fun ⟨k, a1, c1⟩ ⟨hk, hp⟩ => ⟨fun h1 => ?_, fun h1 => ?_⟩⟩⟩⟩
  · have h := eq_of_beq h
    have : x1 = 0 := lenDg_zero (by omega)
    subst this
    exact (text_ext (s := ByteArray.mk #[48]) (t := showB 0) rfl (fun j hj => by
      have : j = 0 := by
        have hj : j < 1 := hj
        omega
      subst this
      rfl))
  · show x2 = lenDg (x1 / 10 ^ 0)
    rw [Nat.pow_zero, Nat.div_one]
  · show dg x1 i = dg (x1 / 10 ^ 0) i
    rw [Nat.pow_zero, Nat.div_one]
  · have hk : k ≤ 78 := hk
    have h1 : ((lenDg (x1 / 10 ^ k) : Nat) : Int) > 0 := of_decide_eq_true h1
    have hne : x1 / 10 ^ k ≠ 0 := fun e => by rw [e] at h1; simp [lenDg] at h1
    have hk77 : k ≤ 77 := by
      refine Nat.le_of_not_lt fun hlt => hne (Nat.div_eq_of_lt (Nat.lt_of_lt_of_le hN10 (Nat.pow_le_pow_right (by decide) hlt)))
    have EL : vn (lenDg (x1 / 10 ^ k)) (fun i => dg (x1 / 10 ^ k) i) = x1 / 10 ^ k := vnk (lenDg_lt _)
    have R1 : remL (vn (lenDg (x1 / 10 ^ k)) fun i => dg (x1 / 10 ^ k) i) 10 (lenDg (x1 / 10 ^ k)) = 1 := by unfold remL; rw [if_pos (by decide)]
    have EQ : vn (lenDg (x1 / 10 ^ k)) (fun i => dg ((vn (lenDg (x1 / 10 ^ k)) fun i => dg (x1 / 10 ^ k) i) / 10) i) = x1 / 10 ^ (k + 1) := by
      rw [EL, vnk (Nat.lt_of_le_of_lt (Nat.div_le_self _ _) (lenDg_lt _)), Nat.div_div_eq_div_mul, Nat.pow_succ]
    have ER : IntKind.u8.wrap (IntKind.u64.wrap (48 + dg (vn (remL (vn (lenDg (x1 / 10 ^ k)) fun i => dg (x1 / 10 ^ k) i) 10 (lenDg (x1 / 10 ^ k))) fun i => dg ((vn (lenDg (x1 / 10 ^ k)) fun i => dg (x1 / 10 ^ k) i) % 10) i) 0)) = ((48 + x1 / 10 ^ k % 10 : Nat) : Int) := by
      have hm : x1 / 10 ^ k % 10 < 10 := Nat.mod_lt _ (by decide)
      rw [R1, EL, vnk (by omega)]
      unfold dg
      rw [Nat.pow_zero, Nat.div_one, Nat.mod_eq_of_lt (show x1 / 10 ^ k % 10 < 4294967296 by omega), wrap64 (by omega), IntKind.wrap_u8]
      omega
    have D1 : dgs 1 fun j => intsC (SC.val (Value.int IntKind.u64 (selG [SK.c (SC.num IntKind.u64 10)] j))) := ⟨fun j hj => by
      have : j = 0 := by omega
      subst this
      exact ⟨by decide, by decide⟩⟩
    have hl := hlen k
    refine ⟨Nat.le_refl _, fun _ => ⟨T, T, dgs_dg _ _, by show lenDg (x1 / 10 ^ k) ≤ 1000; omega, D1, by decide, by decide, fun _ _ _ _ _ _ _ _ => ⟨T, dgs_dg _ _, ?_, ?_, T, dgs_dg _ _, by show lenDg (x1 / 10 ^ k) ≤ 1000; omega, fun a2 c2 _ _ => ⟨(k + 1, a2, c2), ⟨by show k + 1 ≤ 78; omega, .inr ?_⟩, ⟨rfl, ?_, rfl, fun i _ => ?_⟩, ?_, ?_⟩⟩⟩⟩
    · show remL (vn (lenDg (x1 / 10 ^ k)) fun i => dg (x1 / 10 ^ k) i) 10 (lenDg (x1 / 10 ^ k)) ≤ 1000
      rw [R1]; decide
    · show (bytesI _).size + (textOf x1 k).size ≤ 9223372036854775807
      rw [text_size, size_data, bytesI_data, List.length_map]
      show 1 + k ≤ _
      omega
    · show x1 / 10 ^ (k + 1 - 1) ≠ 0
      rw [show k + 1 - 1 = k by omega]; exact hne
    · show lenDg (vn (lenDg (x1 / 10 ^ k)) (fun i => dg ((vn (lenDg (x1 / 10 ^ k)) fun i => dg (x1 / 10 ^ k) i) / 10) i)) = lenDg (x1 / 10 ^ (k + 1))
      rw [EQ]
    · show dg (vn (lenDg (x1 / 10 ^ k)) (fun i => dg ((vn (lenDg (x1 / 10 ^ k)) fun i => dg (x1 / 10 ^ k) i) / 10) i)) i = dg (x1 / 10 ^ (k + 1)) i
      rw [EQ]
    · exact text_head ER
    · show x1 / 10 ^ (k + 1) < x1 / 10 ^ k
      rw [Nat.pow_succ, ← Nat.div_div_eq_div_mul]
      exact Nat.div_lt_self (by omega) (by decide)
  · have h1 : ¬ ((lenDg (x1 / 10 ^ k) : Nat) : Int) > 0 := of_decide_eq_false h1
    have h0 : x1 / 10 ^ k = 0 := lenDg_zero (by omega)
    have hk : k ≤ 78 := hk
    have hx : x1 ≠ 0 := fun e => by
      have h := ne_of_beq_false h
      subst e
      exact h rfl
    have hlt : x1 < 10 ^ k := by
      rcases Nat.lt_or_ge x1 (10 ^ k) with l | g
      · exact l
      · have := Nat.div_pos g (Nat.pow_pos (by decide)); omega
    have hp : k = 0 ∨ x1 / 10 ^ (k - 1) ≠ 0 := hp
    obtain ⟨j, rfl⟩ : ∃ j, k = j + 1 := by
      rcases Nat.eq_zero_or_pos k with e | e
      · subst e; simp at hlt; omega
      · exact ⟨k - 1, by omega⟩
    have hge : j = 0 ∨ 10 ^ j ≤ x1 := by
      right
      rcases hp with e | e
      · omega
      · rw [show j + 1 - 1 = j by omega] at e
        exact Nat.le_of_not_lt fun l => e (Nat.div_eq_of_lt l)
    exact (show_is hlt hge (by omega)).symm
theorem card_refDcm : FnOK Try.prog 20 (specU showG) :=
  FnOKV_U (iv := fun a => [(5, .inv (invDcm (a % M256)))]) cx_none sl_all Try.func20 (by kernel_rfl) (by kernel_rfl) (fun _ => trivial) ok_refDcm
theorem ok_WideShows : ∀ a : Nat, Owes Try.prog cxWSh [] 10 Try.f5 [sU a] yes := by
  intro a
  rw [vc_WideShows, beq_self_eq_true]
theorem cxok_WSh : CxOK Try.prog cxWSh := CxOK_cons card_Show (CxOK_cons card_refDcm CxOK_nil)
end Go.Proofs.Ytbjdchpncbgpnaa
end
