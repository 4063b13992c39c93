/-
  Texts: V5, Wsp2, Wsp3, V7, Wsp4, V8, V9, V10, Wsp5, Leh.
-/
import Derived.Test.YtohnkglcabfpjaaDoorM1
import Derived.Test.YtohnkglcabfpjaaDoorM2
import Derived.Test.YtohnkglcabfpjaaDoorM3
import Derived.Test.YtohnkglcabfpjaaDoorM4
import Derived.Test.YtohnkglcabfpjaaDoorM5
import Derived.Test.YtohnkglcabfpjaaDoorM6
import Derived.Test.YtohnkglcabfpjaaDoorM7
section
namespace Go.Proofs.YtohnkglcabfpjaaDoor
open Go.Sx
set_option maxRecDepth 100000
def cxLz : Cx := [(70, specW lenG)]
def cxDiv64 : Cx := [(60, specW lzG)]
structure DivAt where
  q : Nat
  r : Nat
def invDiv1 (h l _ s y' y1 y0 U L w1 w0 : Int) : Inv where
  X := DivAt
  tm x := slotsAt 135 [(0, .one (sI .u64 h)), (1, .one (sI .u64 l)), (2, .one (sI .u64 y')), (8, .one (sI .u64 s)), (9, .one (sI .u64 y1)), (10, .one (sI .u64 y0)), (11, .one (sI .u64 U)), (12, .one (sI .u64 L)), (13, .one (sI .u64 w1)), (14, .one (sI .u64 w0)), (15, .one (sI .u64 x.q)), (16, .one (sI .u64 x.r)), (6, .one (.sc (.num .u64 0))), (7, .one (.sc (.num .u64 0)))]
  ob _ := []
  holds x := (x.q : Int) * y1 + x.r = U ∧ x.r < 4294967296 ∧ (U * 4294967296 + w1) / y' ≤ x.q ∧ x.q ≤ 4294967297
  less x := x.q
def invDiv2 (h l _ s y' y1 y0 U L w1 w0 q1 V : Int) : Inv where
  X := DivAt
  tm x := slotsAt 135 [(0, .one (sI .u64 h)), (1, .one (sI .u64 l)), (2, .one (sI .u64 y')), (8, .one (sI .u64 s)), (9, .one (sI .u64 y1)), (10, .one (sI .u64 y0)), (11, .one (sI .u64 U)), (12, .one (sI .u64 L)), (13, .one (sI .u64 w1)), (14, .one (sI .u64 w0)), (15, .one (sI .u64 q1)), (17, .one (sI .u64 V)), (18, .one (sI .u64 x.q)), (16, .one (sI .u64 x.r)), (6, .one (.sc (.num .u64 0))), (7, .one (.sc (.num .u64 0)))]
  ob _ := []
  holds x := (x.q : Int) * y1 + x.r = V ∧ x.r < 4294967296 ∧ (V * 4294967296 + w0) / y' ≤ x.q ∧ x.q ≤ 4294967297
  less x := x.q
def shY (y : Int) : Int := y * 2 ^ (64 - lenN y).toNat
def shU (h l y : Int) : Int := h * 2 ^ (64 - lenN y).toNat + l / 2 ^ (lenN y).toNat
def shL (l y : Int) : Int := l * 2 ^ (64 - lenN y).toNat % 18446744073709551616
def dq1 (h l y : Int) : Int := (shU h l y * 4294967296 + shL l y / 4294967296) / shY y
def dV (h l y : Int) : Int := (shU h l y * 4294967296 + shL l y / 4294967296) % shY y
def ivDiv (h l y : Int) : List (Nat × Hint) :=
  [(17, .inv (invDiv1 h l y (64 - lenN y) (shY y) (shY y / 4294967296) (shY y % 4294967296) (shU h l y) (shL l y) (shL l y / 4294967296) (shL l y % 4294967296))),
   (24, .inv (invDiv2 h l y (64 - lenN y) (shY y) (shY y / 4294967296) (shY y % 4294967296) (shU h l y) (shL l y) (shL l y / 4294967296) (shL l y % 4294967296) (dq1 h l y) (dV h l y)))]
def lit_650f3990 : ByteArray := { data := (([(0 : UInt8), (1 : UInt8), (2 : UInt8), (2 : UInt8), (3 : UInt8), (3 : UInt8), (3 : UInt8), (3 : UInt8), (4 : UInt8), (4 : UInt8), (4 : UInt8), (4 : UInt8), (4 : UInt8), (4 : UInt8), (4 : UInt8), (4 : UInt8), (5 : UInt8), (5 : UInt8), (5 : UInt8), (5 : UInt8), (5 : UInt8), (5 : UInt8), (5 : UInt8), (5 : UInt8), (5 : UInt8), (5 : UInt8), (5 : UInt8), (5 : UInt8), (5 : UInt8), (5 : UInt8), (5 : UInt8), (5 : UInt8), (6 : UInt8), (6 : UInt8), (6 : UInt8), (6 : UInt8), (6 : UInt8), (6 : UInt8), (6 : UInt8), (6 : UInt8), (6 : UInt8), (6 : UInt8), (6 : UInt8), (6 : UInt8), (6 : UInt8), (6 : UInt8), (6 : UInt8), (6 : UInt8), (6 : UInt8), (6 : UInt8), (6 : UInt8), (6 : UInt8), (6 : UInt8), (6 : UInt8), (6 : UInt8), (6 : UInt8), (6 : UInt8), (6 : UInt8), (6 : UInt8), (6 : UInt8), (6 : UInt8), (6 : UInt8), (6 : UInt8), (6 : UInt8)].append [(7 : UInt8), (7 : UInt8), (7 : UInt8), (7 : UInt8), (7 : UInt8), (7 : UInt8), (7 : UInt8), (7 : UInt8), (7 : UInt8), (7 : UInt8), (7 : UInt8), (7 : UInt8), (7 : UInt8), (7 : UInt8), (7 : UInt8), (7 : UInt8), (7 : UInt8), (7 : UInt8), (7 : UInt8), (7 : UInt8), (7 : UInt8), (7 : UInt8), (7 : UInt8), (7 : UInt8), (7 : UInt8), (7 : UInt8), (7 : UInt8), (7 : UInt8), (7 : UInt8), (7 : UInt8), (7 : UInt8), (7 : UInt8), (7 : UInt8), (7 : UInt8), (7 : UInt8), (7 : UInt8), (7 : UInt8), (7 : UInt8), (7 : UInt8), (7 : UInt8), (7 : UInt8), (7 : UInt8), (7 : UInt8), (7 : UInt8), (7 : UInt8), (7 : UInt8), (7 : UInt8), (7 : UInt8), (7 : UInt8), (7 : UInt8), (7 : UInt8), (7 : UInt8), (7 : UInt8), (7 : UInt8), (7 : UInt8), (7 : UInt8), (7 : UInt8), (7 : UInt8), (7 : UInt8), (7 : UInt8), (7 : UInt8), (7 : UInt8), (7 : UInt8), (7 : UInt8)]).append ([(8 : UInt8), (8 : UInt8), (8 : UInt8), (8 : UInt8), (8 : UInt8), (8 : UInt8), (8 : UInt8), (8 : UInt8), (8 : UInt8), (8 : UInt8), (8 : UInt8), (8 : UInt8), (8 : UInt8), (8 : UInt8), (8 : UInt8), (8 : UInt8), (8 : UInt8), (8 : UInt8), (8 : UInt8), (8 : UInt8), (8 : UInt8), (8 : UInt8), (8 : UInt8), (8 : UInt8), (8 : UInt8), (8 : UInt8), (8 : UInt8), (8 : UInt8), (8 : UInt8), (8 : UInt8), (8 : UInt8), (8 : UInt8), (8 : UInt8), (8 : UInt8), (8 : UInt8), (8 : UInt8), (8 : UInt8), (8 : UInt8), (8 : UInt8), (8 : UInt8), (8 : UInt8), (8 : UInt8), (8 : UInt8), (8 : UInt8), (8 : UInt8), (8 : UInt8), (8 : UInt8), (8 : UInt8), (8 : UInt8), (8 : UInt8), (8 : UInt8), (8 : UInt8), (8 : UInt8), (8 : UInt8), (8 : UInt8), (8 : UInt8), (8 : UInt8), (8 : UInt8), (8 : UInt8), (8 : UInt8), (8 : UInt8), (8 : UInt8), (8 : UInt8), (8 : UInt8)].append [(8 : UInt8), (8 : UInt8), (8 : UInt8), (8 : UInt8), (8 : UInt8), (8 : UInt8), (8 : UInt8), (8 : UInt8), (8 : UInt8), (8 : UInt8), (8 : UInt8), (8 : UInt8), (8 : UInt8), (8 : UInt8), (8 : UInt8), (8 : UInt8), (8 : UInt8), (8 : UInt8), (8 : UInt8), (8 : UInt8), (8 : UInt8), (8 : UInt8), (8 : UInt8), (8 : UInt8), (8 : UInt8), (8 : UInt8), (8 : UInt8), (8 : UInt8), (8 : UInt8), (8 : UInt8), (8 : UInt8), (8 : UInt8), (8 : UInt8), (8 : UInt8), (8 : UInt8), (8 : UInt8), (8 : UInt8), (8 : UInt8), (8 : UInt8), (8 : UInt8), (8 : UInt8), (8 : UInt8), (8 : UInt8), (8 : UInt8), (8 : UInt8), (8 : UInt8), (8 : UInt8), (8 : UInt8), (8 : UInt8), (8 : UInt8), (8 : UInt8), (8 : UInt8), (8 : UInt8), (8 : UInt8), (8 : UInt8), (8 : UInt8), (8 : UInt8), (8 : UInt8), (8 : UInt8), (8 : UInt8), (8 : UInt8), (8 : UInt8), (8 : UInt8), (8 : UInt8)])).toArray }
theorem vc_Len64 (x : Int) :
    Owes Tryd.prog Cx.none [] 100 Tryd.f70 [sI .u64 x] (lenG x) =
    (let x1 : Int := (x.fdiv (4294967296 : Int)).fdiv (65536 : Int); let x2 : Int := Go.IntKind.u8.wrap (x1.fdiv (256 : Int)); let x3 : Nat := x2.toNat; let x4 : Int := Go.IntKind.u8.wrap x1; let x5 : Nat := x4.toNat; let x6 : Int := Go.IntKind.u8.wrap ((x.fdiv (4294967296 : Int)).fdiv (256 : Int)); let x7 : Nat := x6.toNat; let x8 : Int := Go.IntKind.u8.wrap (x.fdiv (4294967296 : Int)); let x9 : Nat := x8.toNat; let x10 : Int := Go.IntKind.u8.wrap ((x.fdiv (65536 : Int)).fdiv (256 : Int)); let x11 : Nat := x10.toNat; let x12 : Int := Go.IntKind.u8.wrap (x.fdiv (65536 : Int)); let x13 : Nat := x12.toNat; let x14 : Int := Go.IntKind.u8.wrap (x.fdiv (256 : Int)); let x15 : Nat := x14.toNat; (Decidable.decide (x ≥ (4294967296 : Int)) = Bool.true → (Decidable.decide (x.fdiv (4294967296 : Int) ≥ (65536 : Int)) = Bool.true → (Decidable.decide (x1 ≥ (256 : Int)) = Bool.true → ((0 : Int) ≤ x2 ∧ x3 < 256) ∧ Go.IntKind.i64.wrap ((56 : Int) + Go.IntKind.i64.wrap (↑(lit_650f3990.data.getD x3 (0 : UInt8)).toNat : Int)) = lenN x) ∧ (Decidable.decide (x1 ≥ (256 : Int)) = Bool.false → ((0 : Int) ≤ x4 ∧ x5 < 256) ∧ Go.IntKind.i64.wrap ((48 : Int) + Go.IntKind.i64.wrap (↑(lit_650f3990.data.getD x5 (0 : UInt8)).toNat : Int)) = lenN x)) ∧ (Decidable.decide (x.fdiv (4294967296 : Int) ≥ (65536 : Int)) = Bool.false → (Decidable.decide (x.fdiv (4294967296 : Int) ≥ (256 : Int)) = Bool.true → ((0 : Int) ≤ x6 ∧ x7 < 256) ∧ Go.IntKind.i64.wrap ((40 : Int) + Go.IntKind.i64.wrap (↑(lit_650f3990.data.getD x7 (0 : UInt8)).toNat : Int)) = lenN x) ∧ (Decidable.decide (x.fdiv (4294967296 : Int) ≥ (256 : Int)) = Bool.false → ((0 : Int) ≤ x8 ∧ x9 < 256) ∧ Go.IntKind.i64.wrap ((32 : Int) + Go.IntKind.i64.wrap (↑(lit_650f3990.data.getD x9 (0 : UInt8)).toNat : Int)) = lenN x))) ∧ (Decidable.decide (x ≥ (4294967296 : Int)) = Bool.false → (Decidable.decide (x ≥ (65536 : Int)) = Bool.true → (Decidable.decide (x.fdiv (65536 : Int) ≥ (256 : Int)) = Bool.true → ((0 : Int) ≤ x10 ∧ x11 < 256) ∧ Go.IntKind.i64.wrap ((24 : Int) + Go.IntKind.i64.wrap (↑(lit_650f3990.data.getD x11 (0 : UInt8)).toNat : Int)) = lenN x) ∧ (Decidable.decide (x.fdiv (65536 : Int) ≥ (256 : Int)) = Bool.false → ((0 : Int) ≤ x12 ∧ x13 < 256) ∧ Go.IntKind.i64.wrap ((16 : Int) + Go.IntKind.i64.wrap (↑(lit_650f3990.data.getD x13 (0 : UInt8)).toNat : Int)) = lenN x)) ∧ (Decidable.decide (x ≥ (65536 : Int)) = Bool.false → (Decidable.decide (x ≥ (256 : Int)) = Bool.true → ((0 : Int) ≤ x14 ∧ x15 < 256) ∧ Go.IntKind.i64.wrap ((8 : Int) + Go.IntKind.i64.wrap (↑(lit_650f3990.data.getD x15 (0 : UInt8)).toNat : Int)) = lenN x) ∧ (Decidable.decide (x ≥ (256 : Int)) = Bool.false → ((0 : Int) ≤ Go.IntKind.u8.wrap x ∧ (Go.IntKind.u8.wrap x).toNat < 256) ∧ Go.IntKind.i64.wrap ((0 : Int) + Go.IntKind.i64.wrap (↑(lit_650f3990.data.getD (Go.IntKind.u8.wrap x).toNat (0 : UInt8)).toNat : Int)) = lenN x)))) := by kernel_rfl
theorem vc_LZ64 (x : Int) :
    Owes Tryd.prog cxLz [] 100 Tryd.f60 [sI .u64 x] (lzG x) =
    (let x1 : Int := (64 : Int) - lenN x; ((0 : Int) ≤ x ∧ x < (18446744073709551616 : Int)) ∧ Go.IntKind.i64.wrap x1 = x1) := by kernel_rfl
theorem vc_Div64 (h l y : Int) :
    Owes Tryd.prog cxDiv64 (ivDiv h l y) 100 Tryd.f77 [sI .u64 h, sI .u64 l, sI .u64 y] (divG h l y) =
    (let x1 : Int := h * (18446744073709551616 : Int) + l; let x2 : Int := x1 / y; let x3 : Int := x1 % y; let x4 : Int := (64 : Int) - lenN y; let x5 : Int := Go.IntKind.u64.wrap x4; let x6 : Int := Go.IntKind.u64.wrap ((64 : Int) - x5); let x7 : Int := (2 : Int) ^ Min.min x5.toNat 64; let x8 : Int := Go.IntKind.u64.wrap (y * x7); let x9 : Int := x8.fdiv (4294967296 : Int); let x10 : Int := shY y / (4294967296 : Int); let x11 : Int := shY y % (4294967296 : Int); let x12 : Int := shL l y / (4294967296 : Int); let x13 : Int := shL l y % (4294967296 : Int); let x14 : Int := shU h l y * (4294967296 : Int); let x15 : Int := Go.IntKind.u64.wrap (↑(BitVec.ofInt 64 (Go.IntKind.u64.wrap (h * x7)) ||| BitVec.ofInt 64 (l.fdiv ((2 : Int) ^ Min.min x6.toNat 64))).toNat : Int); let x16 : Int := Go.IntKind.u64.wrap (l * x7); let x17 : Int := Go.IntKind.u64.wrap (x15.tdiv x9); let x18 : Int := dV h l y * (4294967296 : Int); let x19 : Int := (2 : Int) ^ Min.min x4.toNat 64; ((y == (0 : Int)) = Bool.true → Stuck { dst := Option.some 21, op := Go.Op.load 123 (Go.Operand.global 3), type := 123, pos := "bits.go:520", after := #[], guard := Option.none }) ∧ ((y == (0 : Int)) = Bool.false → (Decidable.decide (y ≤ h) = Bool.true → Stuck { dst := Option.some 25, op := Go.Op.load 123 (Go.Operand.global 4), type := 123, pos := "bits.go:523", after := #[], guard := Option.none }) ∧ (Decidable.decide (y ≤ h) = Bool.false → ((h == (0 : Int)) = Bool.true → y ≠ (0 : Int) ∧ y ≠ (0 : Int) ∧ Go.IntKind.u64.wrap (l.tdiv y) = x2 ∧ l.tmod y = x3) ∧ ((h == (0 : Int)) = Bool.false → ((0 : Int) ≤ y ∧ y < (18446744073709551616 : Int)) ∧ (0 : Int) ≤ x5 ∧ (0 : Int) ≤ x5 ∧ (0 : Int) ≤ x6 ∧ (0 : Int) ≤ x5 ∧ x9 ≠ (0 : Int) ∧ (∀ (y_1 : DivAt), closedB (slotsAt 135 [(0, SV.one (sI Go.IntKind.u64 h)), (1, SV.one (sI Go.IntKind.u64 l)), (2, SV.one (sI Go.IntKind.u64 (shY y))), (8, SV.one (sI Go.IntKind.u64 x4)), (9, SV.one (sI Go.IntKind.u64 x10)), (10, SV.one (sI Go.IntKind.u64 x11)), (11, SV.one (sI Go.IntKind.u64 (shU h l y))), (12, SV.one (sI Go.IntKind.u64 (shL l y))), (13, SV.one (sI Go.IntKind.u64 x12)), (14, SV.one (sI Go.IntKind.u64 x13)), (15, SV.one (sI Go.IntKind.u64 (↑y_1.q : Int))), (16, SV.one (sI Go.IntKind.u64 (↑y_1.r : Int))), (6, SV.one (SA.sc (SC.num Go.IntKind.u64 (0 : Int)))), (7, SV.one (SA.sc (SC.num Go.IntKind.u64 (0 : Int))))]) [] = Bool.true) ∧ ∃ (y_1 : DivAt), ((↑y_1.q : Int) * x10 + (↑y_1.r : Int) = shU h l y ∧ y_1.r < 4294967296 ∧ (x14 + x12) / shY y ≤ (↑y_1.q : Int) ∧ y_1.q ≤ 4294967297) ∧ h = h ∧ l = l ∧ x8 = shY y ∧ x5 = x4 ∧ x9 = x10 ∧ Go.IntKind.u64.wrap (↑(BitVec.ofInt 64 x8 &&& BitVec.ofInt 64 (4294967295 : Int)).toNat : Int) = x11 ∧ x15 = shU h l y ∧ x16 = shL l y ∧ x16.fdiv (4294967296 : Int) = x12 ∧ Go.IntKind.u64.wrap (↑(BitVec.ofInt 64 x16 &&& BitVec.ofInt 64 (4294967295 : Int)).toNat : Int) = x13 ∧ x17 = (↑y_1.q : Int) ∧ Go.IntKind.u64.wrap (x15 - Go.IntKind.u64.wrap (x17 * x9)) = (↑y_1.r : Int) ∧ ∀ (y_2 : DivAt), (↑y_2.q : Int) * x10 + (↑y_2.r : Int) = shU h l y ∧ y_2.r < 4294967296 ∧ (x14 + x12) / shY y ≤ (↑y_2.q : Int) ∧ y_2.q ≤ 4294967297 → ((!Decidable.decide ((↑y_2.q : Int) ≥ (4294967296 : Int))) = Bool.true → (!Decidable.decide ((↑y_2.q : Int) ≥ (4294967296 : Int))) = Bool.true) ∧ ((!Decidable.decide ((↑y_2.q : Int) ≥ (4294967296 : Int))) = Bool.true → (!Decidable.decide ((↑y_2.q : Int) ≥ (4294967296 : Int))) = Bool.true) ∧ ((!Decidable.decide ((↑y_2.q : Int) ≥ (4294967296 : Int))) = Bool.true → (!Decidable.decide ((↑y_2.q : Int) ≥ (4294967296 : Int))) = Bool.true) ∧ ((!Decidable.decide ((↑y_2.q : Int) ≥ (4294967296 : Int))) = Bool.true → (!Decidable.decide ((↑y_2.q : Int) ≥ (4294967296 : Int))) = Bool.true) ∧ ((!Decidable.decide ((↑y_2.q : Int) ≥ (4294967296 : Int))) = Bool.true → (!Decidable.decide ((↑y_2.q : Int) ≥ (4294967296 : Int))) = Bool.true) ∧ ((!Decidable.decide ((↑y_2.q : Int) ≥ (4294967296 : Int))) = Bool.true → (!Decidable.decide ((↑y_2.q : Int) ≥ (4294967296 : Int))) = Bool.true) ∧ ((!Decidable.decide ((↑y_2.q : Int) ≥ (4294967296 : Int))) = Bool.true → (!Decidable.decide ((↑y_2.q : Int) ≥ (4294967296 : Int))) = Bool.true) ∧ (Decidable.decide ((↑y_2.q : Int) ≥ (4294967296 : Int)) = Bool.false → (!Decidable.decide ((↑y_2.q : Int) ≥ (4294967296 : Int))) = Bool.true) ∧ ((Decidable.decide ((↑y_2.q : Int) ≥ (4294967296 : Int)) || Decidable.decide (Go.IntKind.u64.wrap ((↑y_2.q : Int) * x11) > Go.IntKind.u64.wrap (Go.IntKind.u64.wrap ((4294967296 : Int) * (↑y_2.r : Int)) + x12))) = Bool.true → (Decidable.decide (Go.IntKind.u64.wrap ((↑y_2.r : Int) + x10) ≥ (4294967296 : Int)) = Bool.true → x10 ≠ (0 : Int) ∧ (∀ (y_3 : DivAt), closedB (slotsAt 135 [(0, SV.one (sI Go.IntKind.u64 h)), (1, SV.one (sI Go.IntKind.u64 l)), (2, SV.one (sI Go.IntKind.u64 (shY y))), (8, SV.one (sI Go.IntKind.u64 x4)), (9, SV.one (sI Go.IntKind.u64 x10)), (10, SV.one (sI Go.IntKind.u64 x11)), (11, SV.one (sI Go.IntKind.u64 (shU h l y))), (12, SV.one (sI Go.IntKind.u64 (shL l y))), (13, SV.one (sI Go.IntKind.u64 x12)), (14, SV.one (sI Go.IntKind.u64 x13)), (15, SV.one (sI Go.IntKind.u64 (dq1 h l y))), (17, SV.one (sI Go.IntKind.u64 (dV h l y))), (18, SV.one (sI Go.IntKind.u64 (↑y_3.q : Int))), (16, SV.one (sI Go.IntKind.u64 (↑y_3.r : Int))), (6, SV.one (SA.sc (SC.num Go.IntKind.u64 (0 : Int)))), (7, SV.one (SA.sc (SC.num Go.IntKind.u64 (0 : Int))))]) [] = Bool.true) ∧ ∃ (y_3 : DivAt), ((↑y_3.q : Int) * x10 + (↑y_3.r : Int) = dV h l y ∧ y_3.r < 4294967296 ∧ (x18 + x13) / shY y ≤ (↑y_3.q : Int) ∧ y_3.q ≤ 4294967297) ∧ h = h ∧ l = l ∧ shY y = shY y ∧ x4 = x4 ∧ x10 = x10 ∧ x11 = x11 ∧ shU h l y = shU h l y ∧ shL l y = shL l y ∧ x12 = x12 ∧ x13 = x13 ∧ Go.IntKind.u64.wrap ((↑y_2.q : Int) - (1 : Int)) = dq1 h l y ∧ Go.IntKind.u64.wrap (Go.IntKind.u64.wrap (Go.IntKind.u64.wrap (Go.IntKind.u64.wrap x14 + x12) - Go.IntKind.u64.wrap (Go.IntKind.u64.wrap ((↑y_2.q : Int) - (1 : Int)) * shY y)) - Go.IntKind.u64.wrap (Go.IntKind.u64.wrap ((Go.IntKind.u64.wrap (Go.IntKind.u64.wrap (Go.IntKind.u64.wrap x14 + x12) - Go.IntKind.u64.wrap (Go.IntKind.u64.wrap ((↑y_2.q : Int) - (1 : Int)) * shY y))).tdiv x10) * x10)) = (↑y_3.r : Int) ∧ Go.IntKind.u64.wrap (Go.IntKind.u64.wrap (Go.IntKind.u64.wrap x14 + x12) - Go.IntKind.u64.wrap (Go.IntKind.u64.wrap ((↑y_2.q : Int) - (1 : Int)) * shY y)) = dV h l y ∧ Go.IntKind.u64.wrap ((Go.IntKind.u64.wrap (Go.IntKind.u64.wrap (Go.IntKind.u64.wrap x14 + x12) - Go.IntKind.u64.wrap (Go.IntKind.u64.wrap ((↑y_2.q : Int) - (1 : Int)) * shY y))).tdiv x10) = (↑y_3.q : Int) ∧ ∀ (y_4 : DivAt), (↑y_4.q : Int) * x10 + (↑y_4.r : Int) = dV h l y ∧ y_4.r < 4294967296 ∧ (x18 + x13) / shY y ≤ (↑y_4.q : Int) ∧ y_4.q ≤ 4294967297 → ((!Decidable.decide ((↑y_4.q : Int) ≥ (4294967296 : Int))) = Bool.true → (!Decidable.decide ((↑y_4.q : Int) ≥ (4294967296 : Int))) = Bool.true) ∧ ((!Decidable.decide ((↑y_4.q : Int) ≥ (4294967296 : Int))) = Bool.true → (!Decidable.decide ((↑y_4.q : Int) ≥ (4294967296 : Int))) = Bool.true) ∧ ((!Decidable.decide ((↑y_4.q : Int) ≥ (4294967296 : Int))) = Bool.true → (!Decidable.decide ((↑y_4.q : Int) ≥ (4294967296 : Int))) = Bool.true) ∧ ((!Decidable.decide ((↑y_4.q : Int) ≥ (4294967296 : Int))) = Bool.true → (!Decidable.decide ((↑y_4.q : Int) ≥ (4294967296 : Int))) = Bool.true) ∧ ((!Decidable.decide ((↑y_4.q : Int) ≥ (4294967296 : Int))) = Bool.true → (!Decidable.decide ((↑y_4.q : Int) ≥ (4294967296 : Int))) = Bool.true) ∧ ((!Decidable.decide ((↑y_4.q : Int) ≥ (4294967296 : Int))) = Bool.true → (!Decidable.decide ((↑y_4.q : Int) ≥ (4294967296 : Int))) = Bool.true) ∧ ((!Decidable.decide ((↑y_4.q : Int) ≥ (4294967296 : Int))) = Bool.true → (!Decidable.decide ((↑y_4.q : Int) ≥ (4294967296 : Int))) = Bool.true) ∧ (Decidable.decide ((↑y_4.q : Int) ≥ (4294967296 : Int)) = Bool.false → (!Decidable.decide ((↑y_4.q : Int) ≥ (4294967296 : Int))) = Bool.true) ∧ ((Decidable.decide ((↑y_4.q : Int) ≥ (4294967296 : Int)) || Decidable.decide (Go.IntKind.u64.wrap ((↑y_4.q : Int) * x11) > Go.IntKind.u64.wrap (Go.IntKind.u64.wrap ((4294967296 : Int) * (↑y_4.r : Int)) + x13))) = Bool.true → (Decidable.decide (Go.IntKind.u64.wrap ((↑y_4.r : Int) + x10) ≥ (4294967296 : Int)) = Bool.true → (0 : Int) ≤ x4 ∧ Go.IntKind.u64.wrap (Go.IntKind.u64.wrap (dq1 h l y * (4294967296 : Int)) + Go.IntKind.u64.wrap ((↑y_4.q : Int) - (1 : Int))) = x2 ∧ (Go.IntKind.u64.wrap (Go.IntKind.u64.wrap (Go.IntKind.u64.wrap x18 + x13) - Go.IntKind.u64.wrap (Go.IntKind.u64.wrap ((↑y_4.q : Int) - (1 : Int)) * shY y))).fdiv x19 = x3) ∧ (Decidable.decide (Go.IntKind.u64.wrap ((↑y_4.r : Int) + x10) ≥ (4294967296 : Int)) = Bool.false → ∃ (y' : DivAt), ((↑y'.q : Int) * x10 + (↑y'.r : Int) = dV h l y ∧ y'.r < 4294967296 ∧ (x18 + x13) / shY y ≤ (↑y'.q : Int) ∧ y'.q ≤ 4294967297) ∧ h = h ∧ l = l ∧ shY y = shY y ∧ x4 = x4 ∧ x10 = x10 ∧ x11 = x11 ∧ shU h l y = shU h l y ∧ shL l y = shL l y ∧ x12 = x12 ∧ x13 = x13 ∧ dq1 h l y = dq1 h l y ∧ Go.IntKind.u64.wrap ((↑y_4.r : Int) + x10) = (↑y'.r : Int) ∧ dV h l y = dV h l y ∧ Go.IntKind.u64.wrap ((↑y_4.q : Int) - (1 : Int)) = (↑y'.q : Int) ∧ y'.q < y_4.q)) ∧ ((Decidable.decide ((↑y_4.q : Int) ≥ (4294967296 : Int)) || Decidable.decide (Go.IntKind.u64.wrap ((↑y_4.q : Int) * x11) > Go.IntKind.u64.wrap (Go.IntKind.u64.wrap ((4294967296 : Int) * (↑y_4.r : Int)) + x13))) = Bool.false → (0 : Int) ≤ x4 ∧ Go.IntKind.u64.wrap (Go.IntKind.u64.wrap (dq1 h l y * (4294967296 : Int)) + (↑y_4.q : Int)) = x2 ∧ (Go.IntKind.u64.wrap (Go.IntKind.u64.wrap (Go.IntKind.u64.wrap x18 + x13) - Go.IntKind.u64.wrap ((↑y_4.q : Int) * shY y))).fdiv x19 = x3)) ∧ (Decidable.decide (Go.IntKind.u64.wrap ((↑y_2.r : Int) + x10) ≥ (4294967296 : Int)) = Bool.false → ∃ (y' : DivAt), ((↑y'.q : Int) * x10 + (↑y'.r : Int) = shU h l y ∧ y'.r < 4294967296 ∧ (x14 + x12) / shY y ≤ (↑y'.q : Int) ∧ y'.q ≤ 4294967297) ∧ h = h ∧ l = l ∧ shY y = shY y ∧ x4 = x4 ∧ x10 = x10 ∧ x11 = x11 ∧ shU h l y = shU h l y ∧ shL l y = shL l y ∧ x12 = x12 ∧ x13 = x13 ∧ Go.IntKind.u64.wrap ((↑y_2.q : Int) - (1 : Int)) = (↑y'.q : Int) ∧ Go.IntKind.u64.wrap ((↑y_2.r : Int) + x10) = (↑y'.r : Int) ∧ y'.q < y_2.q)) ∧ ((Decidable.decide ((↑y_2.q : Int) ≥ (4294967296 : Int)) || Decidable.decide (Go.IntKind.u64.wrap ((↑y_2.q : Int) * x11) > Go.IntKind.u64.wrap (Go.IntKind.u64.wrap ((4294967296 : Int) * (↑y_2.r : Int)) + x12))) = Bool.false → x10 ≠ (0 : Int) ∧ (∀ (y_3 : DivAt), closedB (slotsAt 135 [(0, SV.one (sI Go.IntKind.u64 h)), (1, SV.one (sI Go.IntKind.u64 l)), (2, SV.one (sI Go.IntKind.u64 (shY y))), (8, SV.one (sI Go.IntKind.u64 x4)), (9, SV.one (sI Go.IntKind.u64 x10)), (10, SV.one (sI Go.IntKind.u64 x11)), (11, SV.one (sI Go.IntKind.u64 (shU h l y))), (12, SV.one (sI Go.IntKind.u64 (shL l y))), (13, SV.one (sI Go.IntKind.u64 x12)), (14, SV.one (sI Go.IntKind.u64 x13)), (15, SV.one (sI Go.IntKind.u64 (dq1 h l y))), (17, SV.one (sI Go.IntKind.u64 (dV h l y))), (18, SV.one (sI Go.IntKind.u64 (↑y_3.q : Int))), (16, SV.one (sI Go.IntKind.u64 (↑y_3.r : Int))), (6, SV.one (SA.sc (SC.num Go.IntKind.u64 (0 : Int)))), (7, SV.one (SA.sc (SC.num Go.IntKind.u64 (0 : Int))))]) [] = Bool.true) ∧ ∃ (y_3 : DivAt), ((↑y_3.q : Int) * x10 + (↑y_3.r : Int) = dV h l y ∧ y_3.r < 4294967296 ∧ (x18 + x13) / shY y ≤ (↑y_3.q : Int) ∧ y_3.q ≤ 4294967297) ∧ h = h ∧ l = l ∧ shY y = shY y ∧ x4 = x4 ∧ x10 = x10 ∧ x11 = x11 ∧ shU h l y = shU h l y ∧ shL l y = shL l y ∧ x12 = x12 ∧ x13 = x13 ∧ (↑y_2.q : Int) = dq1 h l y ∧ Go.IntKind.u64.wrap (Go.IntKind.u64.wrap (Go.IntKind.u64.wrap (Go.IntKind.u64.wrap x14 + x12) - Go.IntKind.u64.wrap ((↑y_2.q : Int) * shY y)) - Go.IntKind.u64.wrap (Go.IntKind.u64.wrap ((Go.IntKind.u64.wrap (Go.IntKind.u64.wrap (Go.IntKind.u64.wrap x14 + x12) - Go.IntKind.u64.wrap ((↑y_2.q : Int) * shY y))).tdiv x10) * x10)) = (↑y_3.r : Int) ∧ Go.IntKind.u64.wrap (Go.IntKind.u64.wrap (Go.IntKind.u64.wrap x14 + x12) - Go.IntKind.u64.wrap ((↑y_2.q : Int) * shY y)) = dV h l y ∧ Go.IntKind.u64.wrap ((Go.IntKind.u64.wrap (Go.IntKind.u64.wrap (Go.IntKind.u64.wrap x14 + x12) - Go.IntKind.u64.wrap ((↑y_2.q : Int) * shY y))).tdiv x10) = (↑y_3.q : Int) ∧ ∀ (y_4 : DivAt), (↑y_4.q : Int) * x10 + (↑y_4.r : Int) = dV h l y ∧ y_4.r < 4294967296 ∧ (x18 + x13) / shY y ≤ (↑y_4.q : Int) ∧ y_4.q ≤ 4294967297 → ((!Decidable.decide ((↑y_4.q : Int) ≥ (4294967296 : Int))) = Bool.true → (!Decidable.decide ((↑y_4.q : Int) ≥ (4294967296 : Int))) = Bool.true) ∧ ((!Decidable.decide ((↑y_4.q : Int) ≥ (4294967296 : Int))) = Bool.true → (!Decidable.decide ((↑y_4.q : Int) ≥ (4294967296 : Int))) = Bool.true) ∧ ((!Decidable.decide ((↑y_4.q : Int) ≥ (4294967296 : Int))) = Bool.true → (!Decidable.decide ((↑y_4.q : Int) ≥ (4294967296 : Int))) = Bool.true) ∧ ((!Decidable.decide ((↑y_4.q : Int) ≥ (4294967296 : Int))) = Bool.true → (!Decidable.decide ((↑y_4.q : Int) ≥ (4294967296 : Int))) = Bool.true) ∧ ((!Decidable.decide ((↑y_4.q : Int) ≥ (4294967296 : Int))) = Bool.true → (!Decidable.decide ((↑y_4.q : Int) ≥ (4294967296 : Int))) = Bool.true) ∧ ((!Decidable.decide ((↑y_4.q : Int) ≥ (4294967296 : Int))) = Bool.true → (!Decidable.decide ((↑y_4.q : Int) ≥ (4294967296 : Int))) = Bool.true) ∧ ((!Decidable.decide ((↑y_4.q : Int) ≥ (4294967296 : Int))) = Bool.true → (!Decidable.decide ((↑y_4.q : Int) ≥ (4294967296 : Int))) = Bool.true) ∧ (Decidable.decide ((↑y_4.q : Int) ≥ (4294967296 : Int)) = Bool.false → (!Decidable.decide ((↑y_4.q : Int) ≥ (4294967296 : Int))) = Bool.true) ∧ ((Decidable.decide ((↑y_4.q : Int) ≥ (4294967296 : Int)) || Decidable.decide (Go.IntKind.u64.wrap ((↑y_4.q : Int) * x11) > Go.IntKind.u64.wrap (Go.IntKind.u64.wrap ((4294967296 : Int) * (↑y_4.r : Int)) + x13))) = Bool.true → (Decidable.decide (Go.IntKind.u64.wrap ((↑y_4.r : Int) + x10) ≥ (4294967296 : Int)) = Bool.true → (0 : Int) ≤ x4 ∧ Go.IntKind.u64.wrap (Go.IntKind.u64.wrap (dq1 h l y * (4294967296 : Int)) + Go.IntKind.u64.wrap ((↑y_4.q : Int) - (1 : Int))) = x2 ∧ (Go.IntKind.u64.wrap (Go.IntKind.u64.wrap (Go.IntKind.u64.wrap x18 + x13) - Go.IntKind.u64.wrap (Go.IntKind.u64.wrap ((↑y_4.q : Int) - (1 : Int)) * shY y))).fdiv x19 = x3) ∧ (Decidable.decide (Go.IntKind.u64.wrap ((↑y_4.r : Int) + x10) ≥ (4294967296 : Int)) = Bool.false → ∃ (y' : DivAt), ((↑y'.q : Int) * x10 + (↑y'.r : Int) = dV h l y ∧ y'.r < 4294967296 ∧ (x18 + x13) / shY y ≤ (↑y'.q : Int) ∧ y'.q ≤ 4294967297) ∧ h = h ∧ l = l ∧ shY y = shY y ∧ x4 = x4 ∧ x10 = x10 ∧ x11 = x11 ∧ shU h l y = shU h l y ∧ shL l y = shL l y ∧ x12 = x12 ∧ x13 = x13 ∧ dq1 h l y = dq1 h l y ∧ Go.IntKind.u64.wrap ((↑y_4.r : Int) + x10) = (↑y'.r : Int) ∧ dV h l y = dV h l y ∧ Go.IntKind.u64.wrap ((↑y_4.q : Int) - (1 : Int)) = (↑y'.q : Int) ∧ y'.q < y_4.q)) ∧ ((Decidable.decide ((↑y_4.q : Int) ≥ (4294967296 : Int)) || Decidable.decide (Go.IntKind.u64.wrap ((↑y_4.q : Int) * x11) > Go.IntKind.u64.wrap (Go.IntKind.u64.wrap ((4294967296 : Int) * (↑y_4.r : Int)) + x13))) = Bool.false → (0 : Int) ≤ x4 ∧ Go.IntKind.u64.wrap (Go.IntKind.u64.wrap (dq1 h l y * (4294967296 : Int)) + (↑y_4.q : Int)) = x2 ∧ (Go.IntKind.u64.wrap (Go.IntKind.u64.wrap (Go.IntKind.u64.wrap x18 + x13) - Go.IntKind.u64.wrap ((↑y_4.q : Int) * shY y))).fdiv x19 = x3)))))) := by kernel_rfl
end Go.Proofs.YtohnkglcabfpjaaDoor
end

section
namespace Go.Sx
open Go.RowKit
end Go.Sx
end

section
namespace Go.Sx
open Go.RowKit
theorem bnd_sU (a : Nat) : SA.bnd none0 (sU a) := by
  intro k hk; simp only [List.mem_singleton] at hk; subst hk; trivial
def specUJ (c : Nat → Int → List Prop) (g : Nat → Int → SV) : FSpec := fun args =>
  match args with
  | [x, y] => match asU x, asI y with
    | some (p, a), some (.i64, n) => some (p ++ c a n, g a n)
    | _, _ => none
  | _ => none
theorem FnOK_UJ {P : Program} {cx : Cx} (hcx : CxOK P cx) {iv : Nat → Int → List (Nat × Hint)} {N : Nat} {f : Nat} {fn : Func} (hf : P.funcs[f]? = some fn) (hb : fn.body.isSome = true) (hn : (fn.name == "runtime.NumGoroutine") = false) {c : Nat → Int → List Prop} {g : Nat → Int → SV} (hg : ∀ a n, (g a n).bnd none0)
    (h : ∀ a n, Ok (c a n) → Owes P cx (iv a n) N fn [sU a, sI .i64 n] (g a n)) : FnOKg P cx.gl f (specUJ c g) := by
  refine FnOK_of hf hb hn fun args ps sv hs hp => ?_
  unfold specUJ at hs
  split at hs
  · rename_i x y
    split at hs
    · rename_i p a n ha hn'
      simp only [Option.some.injEq, Prod.mk.injEq] at hs
      obtain ⟨rfl, rfl⟩ := hs
      obtain ⟨o1, o2⟩ := Ok.append.1 hp
      refine ⟨hg a n, fun ρ w hzz hgg _ => ?_⟩
      rw [show [x, y].map (SA.conc ρ) = [sU a, sI .i64 n].map (SA.conc ρ) by simp only [List.map_cons, List.map_nil, asU_canon ha o1 ρ, asI_canon hn' ρ]]
      refine (calls_of_owes0 hcx hf hb (args := [sU a, sI .i64 n]) (by
        intro z hz
        simp only [List.mem_cons, List.not_mem_nil, or_false] at hz
        rcases hz with rfl | rfl
        · exact bnd_sU _
        · trivial) (h a n o2) ρ w hzz hgg).mono ?_
      rintro e w' ⟨v, rfl, ⟨ρ', hr⟩, hbl⟩
      exact ⟨v, rfl, rep_none0 (hg a n) hr, hbl⟩
    · cases hs
  · cases hs
def specUUC (c : Nat → Nat → List Prop) (g : Nat → Nat → SV) : FSpec := fun args =>
  match args with
  | [x, y] => match asU x, asU y with
    | some (p, a), some (q, b) => some ((p ++ q) ++ c a b, g a b)
    | _, _ => none
  | _ => none
theorem FnOK_UUC {P : Program} {cx : Cx} (hcx : CxOK P cx) {iv : Nat → Nat → List (Nat × Hint)} {N : Nat} {f : Nat} {fn : Func} (hf : P.funcs[f]? = some fn) (hb : fn.body.isSome = true) (hn : (fn.name == "runtime.NumGoroutine") = false) {c : Nat → Nat → List Prop} {g : Nat → Nat → SV} (hg : ∀ a b, (g a b).bnd none0)
    (h : ∀ a b, Ok (c a b) → Owes P cx (iv a b) N fn [sU a, sU b] (g a b)) : FnOKg P cx.gl f (specUUC c g) := by
  refine FnOK_of hf hb hn fun args ps sv hs hp => ?_
  unfold specUUC at hs
  split at hs
  · rename_i x y
    split at hs
    · rename_i p a q b ha hb'
      simp only [Option.some.injEq, Prod.mk.injEq] at hs
      obtain ⟨rfl, rfl⟩ := hs
      obtain ⟨o12, o3⟩ := Ok.append.1 hp
      obtain ⟨o1, o2⟩ := Ok.append.1 o12
      refine ⟨hg a b, fun ρ w hzz hgg _ => ?_⟩
      rw [show [x, y].map (SA.conc ρ) = [sU a, sU b].map (SA.conc ρ) by simp only [List.map_cons, List.map_nil, asU_canon ha o1 ρ, asU_canon hb' o2 ρ]]
      refine (calls_of_owes0 hcx hf hb (args := [sU a, sU b]) (by
        intro z hz
        simp only [List.mem_cons, List.not_mem_nil, or_false] at hz
        rcases hz with rfl | rfl <;> exact bnd_sU _) (h a b o3) ρ w hzz hgg).mono ?_
      rintro e w' ⟨v, rfl, ⟨ρ', hr⟩, hbl⟩
      exact ⟨v, rfl, rep_none0 (hg a b) hr, hbl⟩
    · cases hs
  · cases hs
def specUWU (c : Nat → Int → Nat → List Prop) (g : Nat → Int → Nat → SV) : FSpec := fun args =>
  match args with
  | [x, y, z] => match asU x, asI y, asU z with
    | some (p, a), some (.u64, n), some (q, b) => some ((p ++ q) ++ c a n b, g a n b)
    | _, _, _ => none
  | _ => none
theorem FnOK_UWU {P : Program} {cx : Cx} (hcx : CxOK P cx) {iv : Nat → Int → Nat → List (Nat × Hint)} {N : Nat} {f : Nat} {fn : Func} (hf : P.funcs[f]? = some fn) (hb : fn.body.isSome = true) (hn : (fn.name == "runtime.NumGoroutine") = false) {c : Nat → Int → Nat → List Prop} {g : Nat → Int → Nat → SV} (hg : ∀ a n b, (g a n b).bnd none0)
    (h : ∀ a n b, Ok (c a n b) → Owes P cx (iv a n b) N fn [sU a, sI .u64 n, sU b] (g a n b)) : FnOKg P cx.gl f (specUWU c g) := by
  refine FnOK_of hf hb hn fun args ps sv hs hp => ?_
  unfold specUWU at hs
  split at hs
  · rename_i x y z
    split at hs
    · rename_i p a n q b ha hn' hb'
      simp only [Option.some.injEq, Prod.mk.injEq] at hs
      obtain ⟨rfl, rfl⟩ := hs
      obtain ⟨o12, o3⟩ := Ok.append.1 hp
      obtain ⟨o1, o2⟩ := Ok.append.1 o12
      refine ⟨hg a n b, fun ρ w hzz hgg _ => ?_⟩
      rw [show [x, y, z].map (SA.conc ρ) = [sU a, sI .u64 n, sU b].map (SA.conc ρ) by simp only [List.map_cons, List.map_nil, asU_canon ha o1 ρ, asI_canon hn' ρ, asU_canon hb' o2 ρ]]
      refine (calls_of_owes0 hcx hf hb (args := [sU a, sI .u64 n, sU b]) (by
        intro z hz
        simp only [List.mem_cons, List.not_mem_nil, or_false] at hz
        rcases hz with rfl | rfl | rfl
        · exact bnd_sU _
        · trivial
        · exact bnd_sU _) (h a n b o3) ρ w hzz hgg).mono ?_
      rintro e w' ⟨v, rfl, ⟨ρ', hr⟩, hbl⟩
      exact ⟨v, rfl, rep_none0 (hg a n b) hr, hbl⟩
    · cases hs
  · cases hs
end Go.Sx
end

section
namespace Go.Proofs.YtohnkglcabfpjaaDoor
open Go.Sx
set_option maxRecDepth 100000
def guessC (h l y : Int) : List Prop := [w64ok h, w64ok l, w64ok y, 0 < y]
def guessN (h l y : Int) : Int := if h < y then (h * 18446744073709551616 + l) / y else 18446744073709551615
def guessG (h l y : Int) : SV := .one (sI .u64 (guessN h l y))
def cxGuess : Cx := [(77, specWWW divC divG)]
def bitsN (n : Nat) : Nat := if n = 0 then 0 else n.log2 + 1
def noughtsG (a : Nat) : SV := .one (sI .i64 ((256 - bitsN (a % M256) : Nat) : Int))
def cxNoughts : Cx := [(60, specW lzG)]
def moveC (_ : Nat) (n : Int) : List Prop := [0 ≤ n ∧ n ≤ 256]
def upG (a : Nat) (n : Int) : SV := .one (sU (a * 2 ^ n.toNat))
def downG (a : Nat) (n : Int) : SV := .one (sU (a % M256 / 2 ^ n.toNat))
def digC (r : Nat) (x : Int) (b : Nat) : List Prop := [w64ok x, r % M256 < b % M256, M256 ≤ 2 * (b % M256)]
def digR (r : Nat) (x : Int) : Nat := r % M256 * 18446744073709551616 + x.toNat
def digG (r : Nat) (x : Int) (b : Nat) : SV := .tup [sI .u64 ((digR r x / (b % M256) : Nat) : Int), sU (digR r x % (b % M256))]
def digAt (r : Nat) (x : Int) (b e : Nat) : Nat := M256 * 18446744073709551616 + digR r x % (b % M256) - e * (b % M256)
def invDig (r : Nat) (x : Int) (b : Nat) : Inv where
  X := Nat
  tm e := slotsAt 62 [(0, .one (sU r)), (1, .one (sI .u64 x)), (2, .one (sU b)), (3, .one (.sc (.ptr 0 0))), (5, .one (.sc (.ptr 1 0))), (6, .one (.sc (.num .u64 0))), (7, .one (.sc (.ptr 2 0))), (8, .one (sI .u64 ((digAt r x b e / M256 % 18446744073709551616 : Nat) : Int))), (9, .one (sI .u64 ((digR r x / (b % M256) + e : Nat) : Int)))]
  ob e := [.cells 24 [.u (digAt r x b e)] 0, .cells 24 [.u b] 0, .cells 24 [.c (.num .u64 0), .c (.num .u64 0), .c (.num .u64 0), .c (.num .u64 0)] 0]
  holds e := e ≤ 2 ∧ digR r x / (b % M256) + e < 18446744073709551616
  less e := e
def cxDig : Cx := [(83, specWWW guessC guessG), (84, specUI timesG), (65, specUU lessG), (64, specUU plusG)]
def dvC (_ b : Nat) : List Prop := [0 < b % M256]
def dvG (a b : Nat) : SV := .tup [sU (a % M256 / (b % M256)), sU (a % M256 % (b % M256))]
def cxDv : Cx := [(79, specU noughtsG), (80, specUJ moveC upG), (81, specUJ moveC downG), (82, specUWU digC digG)]
def dmG (a b : Nat) : SV := .tup [sU (if b % M256 = 0 then 0 else a % M256 / (b % M256)), sU (if b % M256 = 0 then 0 else a % M256 % (b % M256)), sI .i64 (if b % M256 = 0 then 7 else 0)]
def cxDm : Cx := [(78, specUUC dvC dvG)]
theorem vc_guess (h l y : Int) :
    Owes Tryd.prog cxGuess [] 100 Tryd.f83 [sI .u64 h, sI .u64 l, sI .u64 y] (guessG h l y) =
    ((Decidable.decide (h ≥ y) = Bool.true → (18446744073709551615 : Int) = guessN h l y) ∧ (Decidable.decide (h ≥ y) = Bool.false → ((0 : Int) ≤ h ∧ h < (18446744073709551616 : Int)) ∧ ((0 : Int) ≤ l ∧ l < (18446744073709551616 : Int)) ∧ ((0 : Int) ≤ y ∧ y < (18446744073709551616 : Int)) ∧ h < y ∧ (h * (18446744073709551616 : Int) + l) / y = guessN h l y)) := by kernel_rfl
theorem vc_noughts (a : Nat) :
    Owes Tryd.prog cxNoughts [] 100 Tryd.f79 [sU a] (noughtsG a) =
    (let x1 : Int := Go.IntKind.i64.wrap ((0 : Int) + ((64 : Int) - lenN (limb a 3))); let x2 : Int := (↑(256 - bitsN (a % M256)) : Int); let x3 : Int := Go.IntKind.i64.wrap (x1 + ((64 : Int) - lenN (limb a 2))); let x4 : Int := Go.IntKind.i64.wrap (x3 + ((64 : Int) - lenN (limb a 1))); ((0 : Int) ≤ limb a 3 ∧ limb a 3 < (18446744073709551616 : Int)) ∧ ((limb a 3 != (0 : Int)) = Bool.true → x1 = x2) ∧ ((limb a 3 != (0 : Int)) = Bool.false → ((0 : Int) ≤ limb a 2 ∧ limb a 2 < (18446744073709551616 : Int)) ∧ ((limb a 2 != (0 : Int)) = Bool.true → x3 = x2) ∧ ((limb a 2 != (0 : Int)) = Bool.false → ((0 : Int) ≤ limb a 1 ∧ limb a 1 < (18446744073709551616 : Int)) ∧ ((limb a 1 != (0 : Int)) = Bool.true → x4 = x2) ∧ ((limb a 1 != (0 : Int)) = Bool.false → ((0 : Int) ≤ limb a 0 ∧ limb a 0 < (18446744073709551616 : Int)) ∧ ((limb a 0 != (0 : Int)) = Bool.true → Go.IntKind.i64.wrap (x4 + ((64 : Int) - lenN (limb a 0))) = x2) ∧ ((limb a 0 != (0 : Int)) = Bool.false → Go.IntKind.i64.wrap (x4 + ((64 : Int) - lenN (limb a 0))) = x2))))) := by kernel_rfl
theorem vc_up (a : Nat) (n : Int) :
    Owes Tryd.prog Cx.none [(2, .split 6 4)] 100 Tryd.f80 [sU a, sI .i64 n] (upG a n) =
    (let x1 : Int := Go.IntKind.i64.wrap (n.tdiv (64 : Int)); let x2 : Int := Go.IntKind.i64.wrap ((64 : Int) - n.tmod (64 : Int)); let x3 : Int := (2 : Int) ^ Min.min (n.tmod (64 : Int)).toNat 64; let x4 : Int := Go.IntKind.u64.wrap (limb a 0 * x3); let x5 : Int := (2 : Int) ^ Min.min x2.toNat 64; let x6 : Int := Go.IntKind.u64.wrap (↑(BitVec.ofInt 64 (Go.IntKind.u64.wrap (limb a 1 * x3)) ||| BitVec.ofInt 64 ((limb a 0).fdiv x5)).toNat : Int); let x7 : Int := Go.IntKind.u64.wrap (↑(BitVec.ofInt 64 (Go.IntKind.u64.wrap (limb a 2 * x3)) ||| BitVec.ofInt 64 ((limb a 1).fdiv x5)).toNat : Int); let x8 : Int := Go.IntKind.u64.wrap (↑(BitVec.ofInt 64 (Go.IntKind.u64.wrap (limb a 3 * x3)) ||| BitVec.ofInt 64 ((limb a 2).fdiv x5)).toNat : Int); let x9 : Nat := a * 2 ^ n.toNat % M256; ((0 : Int) ≤ x1 ∧ x1 ≤ (4 : Int)) ∧ ((((x1 = (0 : Int) → (0 : Int) ≤ n.tmod (64 : Int) ∧ (0 : Int) ≤ n.tmod (64 : Int) ∧ (0 : Int) ≤ x2 ∧ (0 : Int) ≤ n.tmod (64 : Int) ∧ (0 : Int) ≤ x2 ∧ (0 : Int) ≤ n.tmod (64 : Int) ∧ (0 : Int) ≤ x2 ∧ ((0 : Int) ≤ x4 ∧ x4 < (18446744073709551616 : Int)) ∧ ((0 : Int) ≤ x6 ∧ x6 < (18446744073709551616 : Int)) ∧ ((0 : Int) ≤ x7 ∧ x7 < (18446744073709551616 : Int)) ∧ ((0 : Int) ≤ x8 ∧ x8 < (18446744073709551616 : Int)) ∧ join x4 x6 x7 x8 % M256 = x9 ∧ True) ∧ (x1 = (1 : Int) → (0 : Int) ≤ n.tmod (64 : Int) ∧ (0 : Int) ≤ n.tmod (64 : Int) ∧ (0 : Int) ≤ x2 ∧ (0 : Int) ≤ n.tmod (64 : Int) ∧ (0 : Int) ≤ x2 ∧ ((0 : Int) ≤ (0 : Int) ∧ (0 : Int) < (18446744073709551616 : Int)) ∧ ((0 : Int) ≤ x4 ∧ x4 < (18446744073709551616 : Int)) ∧ ((0 : Int) ≤ x6 ∧ x6 < (18446744073709551616 : Int)) ∧ ((0 : Int) ≤ x7 ∧ x7 < (18446744073709551616 : Int)) ∧ join (0 : Int) x4 x6 x7 % M256 = x9 ∧ True)) ∧ (x1 = (2 : Int) → (0 : Int) ≤ n.tmod (64 : Int) ∧ (0 : Int) ≤ n.tmod (64 : Int) ∧ (0 : Int) ≤ x2 ∧ ((0 : Int) ≤ (0 : Int) ∧ (0 : Int) < (18446744073709551616 : Int)) ∧ ((0 : Int) ≤ (0 : Int) ∧ (0 : Int) < (18446744073709551616 : Int)) ∧ ((0 : Int) ≤ x4 ∧ x4 < (18446744073709551616 : Int)) ∧ ((0 : Int) ≤ x6 ∧ x6 < (18446744073709551616 : Int)) ∧ join (0 : Int) (0 : Int) x4 x6 % M256 = x9 ∧ True)) ∧ (x1 = (3 : Int) → (0 : Int) ≤ n.tmod (64 : Int) ∧ ((0 : Int) ≤ (0 : Int) ∧ (0 : Int) < (18446744073709551616 : Int)) ∧ ((0 : Int) ≤ (0 : Int) ∧ (0 : Int) < (18446744073709551616 : Int)) ∧ ((0 : Int) ≤ (0 : Int) ∧ (0 : Int) < (18446744073709551616 : Int)) ∧ ((0 : Int) ≤ x4 ∧ x4 < (18446744073709551616 : Int)) ∧ join (0 : Int) (0 : Int) (0 : Int) x4 % M256 = x9 ∧ True)) ∧ (x1 = (4 : Int) → 0 = x9 ∧ True)) := by kernel_rfl
theorem vc_down (a : Nat) (n : Int) :
    Owes Tryd.prog Cx.none [(2, .split 6 4)] 100 Tryd.f81 [sU a, sI .i64 n] (downG a n) =
    (let x1 : Int := Go.IntKind.i64.wrap (n.tdiv (64 : Int)); let x2 : Int := Go.IntKind.i64.wrap ((64 : Int) - n.tmod (64 : Int)); let x3 : Int := (2 : Int) ^ Min.min (n.tmod (64 : Int)).toNat 64; let x4 : Int := (2 : Int) ^ Min.min x2.toNat 64; let x5 : Int := Go.IntKind.u64.wrap (↑(BitVec.ofInt 64 ((limb a 0).fdiv x3) ||| BitVec.ofInt 64 (Go.IntKind.u64.wrap (limb a 1 * x4))).toNat : Int); let x6 : Int := Go.IntKind.u64.wrap (↑(BitVec.ofInt 64 ((limb a 1).fdiv x3) ||| BitVec.ofInt 64 (Go.IntKind.u64.wrap (limb a 2 * x4))).toNat : Int); let x7 : Int := Go.IntKind.u64.wrap (↑(BitVec.ofInt 64 ((limb a 2).fdiv x3) ||| BitVec.ofInt 64 (Go.IntKind.u64.wrap (limb a 3 * x4))).toNat : Int); let x8 : Int := (limb a 3).fdiv x3; let x9 : Nat := a % M256 / 2 ^ n.toNat % M256; ((0 : Int) ≤ x1 ∧ x1 ≤ (4 : Int)) ∧ ((((x1 = (0 : Int) → (0 : Int) ≤ n.tmod (64 : Int) ∧ (0 : Int) ≤ x2 ∧ (0 : Int) ≤ n.tmod (64 : Int) ∧ (0 : Int) ≤ x2 ∧ (0 : Int) ≤ n.tmod (64 : Int) ∧ (0 : Int) ≤ x2 ∧ (0 : Int) ≤ n.tmod (64 : Int) ∧ ((0 : Int) ≤ x5 ∧ x5 < (18446744073709551616 : Int)) ∧ ((0 : Int) ≤ x6 ∧ x6 < (18446744073709551616 : Int)) ∧ ((0 : Int) ≤ x7 ∧ x7 < (18446744073709551616 : Int)) ∧ ((0 : Int) ≤ x8 ∧ x8 < (18446744073709551616 : Int)) ∧ join x5 x6 x7 x8 % M256 = x9 ∧ True) ∧ (x1 = (1 : Int) → (0 : Int) ≤ n.tmod (64 : Int) ∧ (0 : Int) ≤ x2 ∧ (0 : Int) ≤ n.tmod (64 : Int) ∧ (0 : Int) ≤ x2 ∧ (0 : Int) ≤ n.tmod (64 : Int) ∧ ((0 : Int) ≤ x6 ∧ x6 < (18446744073709551616 : Int)) ∧ ((0 : Int) ≤ x7 ∧ x7 < (18446744073709551616 : Int)) ∧ ((0 : Int) ≤ x8 ∧ x8 < (18446744073709551616 : Int)) ∧ ((0 : Int) ≤ (0 : Int) ∧ (0 : Int) < (18446744073709551616 : Int)) ∧ join x6 x7 x8 (0 : Int) % M256 = x9 ∧ True)) ∧ (x1 = (2 : Int) → (0 : Int) ≤ n.tmod (64 : Int) ∧ (0 : Int) ≤ x2 ∧ (0 : Int) ≤ n.tmod (64 : Int) ∧ ((0 : Int) ≤ x7 ∧ x7 < (18446744073709551616 : Int)) ∧ ((0 : Int) ≤ x8 ∧ x8 < (18446744073709551616 : Int)) ∧ ((0 : Int) ≤ (0 : Int) ∧ (0 : Int) < (18446744073709551616 : Int)) ∧ ((0 : Int) ≤ (0 : Int) ∧ (0 : Int) < (18446744073709551616 : Int)) ∧ join x7 x8 (0 : Int) (0 : Int) % M256 = x9 ∧ True)) ∧ (x1 = (3 : Int) → (0 : Int) ≤ n.tmod (64 : Int) ∧ ((0 : Int) ≤ x8 ∧ x8 < (18446744073709551616 : Int)) ∧ ((0 : Int) ≤ (0 : Int) ∧ (0 : Int) < (18446744073709551616 : Int)) ∧ ((0 : Int) ≤ (0 : Int) ∧ (0 : Int) < (18446744073709551616 : Int)) ∧ ((0 : Int) ≤ (0 : Int) ∧ (0 : Int) < (18446744073709551616 : Int)) ∧ join x8 (0 : Int) (0 : Int) (0 : Int) % M256 = x9 ∧ True)) ∧ (x1 = (4 : Int) → 0 = x9 ∧ True)) := by kernel_rfl
theorem vc_digit (r : Nat) (x : Int) (b : Nat) :
    Owes Tryd.prog cxDig [(7, .inv (invDig r x b))] 100 Tryd.f82 [sU r, sI .u64 x, sU b] (digG r x b) =
    (let x1 : Int := guessN (limb r 3) (limb r 2) (limb b 3); let x2 : Nat := b % M256; let x3 : Nat := digR r x / x2; let x4 : Nat := r % M256; let x5 : Nat := x1.toNat; let x6 : Nat := join x (limb r 0) (limb r 1) (limb r 2) % M256; let x7 : Nat := b * x5 % M256; ((0 : Int) ≤ limb r 3 ∧ limb r 3 < (18446744073709551616 : Int)) ∧ ((0 : Int) ≤ limb r 2 ∧ limb r 2 < (18446744073709551616 : Int)) ∧ ((0 : Int) ≤ limb b 3 ∧ limb b 3 < (18446744073709551616 : Int)) ∧ (0 : Int) < limb b 3 ∧ ((0 : Int) ≤ x1 ∧ x1 < (18446744073709551616 : Int)) ∧ ((0 : Int) ≤ x ∧ x < (18446744073709551616 : Int)) ∧ ((0 : Int) ≤ limb r 0 ∧ limb r 0 < (18446744073709551616 : Int)) ∧ ((0 : Int) ≤ limb r 1 ∧ limb r 1 < (18446744073709551616 : Int)) ∧ ((0 : Int) ≤ limb r 2 ∧ limb r 2 < (18446744073709551616 : Int)) ∧ (∀ (y : Nat), closedB (slotsAt 62 [(0, SV.one (sU r)), (1, SV.one (sI Go.IntKind.u64 x)), (2, SV.one (sU b)), (3, SV.one (SA.sc (SC.ptr 0 0))), (5, SV.one (SA.sc (SC.ptr 1 0))), (6, SV.one (SA.sc (SC.num Go.IntKind.u64 (0 : Int)))), (7, SV.one (SA.sc (SC.ptr 2 0))), (8, SV.one (sI Go.IntKind.u64 (↑(digAt r x b y / M256 % 18446744073709551616) : Int))), (9, SV.one (sI Go.IntKind.u64 (↑(x3 + y) : Int)))]) [SO.cells (24 : Go.TypeId) [SK.u (digAt r x b y)] 0, SO.cells (24 : Go.TypeId) [SK.u b] 0, SO.cells (24 : Go.TypeId) [SK.c (SC.num Go.IntKind.u64 (0 : Int)), SK.c (SC.num Go.IntKind.u64 (0 : Int)), SK.c (SC.num Go.IntKind.u64 (0 : Int)), SK.c (SC.num Go.IntKind.u64 (0 : Int))] 0] = Bool.true) ∧ ∃ (y : Nat), (y ≤ 2 ∧ x3 + y < 18446744073709551616) ∧ x4 = x4 ∧ x = x ∧ x2 = x2 ∧ Go.IntKind.u64.wrap (limb r 3 - Go.IntKind.u64.wrap ((↑(x2 * x5 / M256) : Int) + if x6 < x7 then (1 : Int) else (0 : Int))) = (↑(digAt r x b y / M256 % 18446744073709551616) : Int) ∧ x1 = (↑(x3 + y) : Int) ∧ (x6 + M256 - x7) % M256 = digAt r x b y % M256 ∧ 0 = 0 ∧ x2 = x2 ∧ 0 = 0 ∧ 0 = 0 ∧ ∀ (y : Nat), y ≤ 2 ∧ x3 + y < 18446744073709551616 → (((↑(digAt r x b y / M256 % 18446744073709551616) : Int) != (0 : Int)) = Bool.true → ∃ (y' : Nat), (y' ≤ 2 ∧ x3 + y' < 18446744073709551616) ∧ x4 = x4 ∧ x = x ∧ x2 = x2 ∧ Go.IntKind.u64.wrap ((↑(digAt r x b y / M256 % 18446744073709551616) : Int) + (↑((digAt r x b y % M256 + x2) / M256) : Int)) = (↑(digAt r x b y' / M256 % 18446744073709551616) : Int) ∧ Go.IntKind.u64.wrap ((↑(x3 + y) : Int) - (1 : Int)) = (↑(x3 + y') : Int) ∧ (digAt r x b y + b) % M256 = digAt r x b y' % M256 ∧ 0 = 0 ∧ x2 = x2 ∧ 0 = 0 ∧ 0 = 0 ∧ y' < y) ∧ (((↑(digAt r x b y / M256 % 18446744073709551616) : Int) != (0 : Int)) = Bool.false → (↑(x3 + y) : Int) = (↑x3 : Int) ∧ digAt r x b y % M256 = digR r x % x2 % M256 ∧ True)) := by kernel_rfl
theorem vc_divide (a b : Nat) :
    Owes Tryd.prog cxDv [] 100 Tryd.f78 [sU a, sU b] (dvG a b) =
    (let x1 : Nat := b % M256; let x2 : Int := (↑(256 - bitsN x1) : Int); let x3 : Int := Go.IntKind.i64.wrap ((256 : Int) - x2); let x4 : Nat := 2 ^ x2.toNat; let x5 : Int := limb (a * x4) 3; let x6 : Nat := a % M256; let x7 : Nat := x6 / 2 ^ x3.toNat; let x8 : Nat := b * x4 % M256; let x9 : Int := limb (a * x4) 2; let x10 : Nat := digR x7 x5; let x11 : Nat := x10 % x8; let x12 : Int := limb (a * x4) 1; let x13 : Nat := digR x11 x9; let x14 : Nat := x13 % x8; let x15 : Int := limb (a * x4) 0; let x16 : Nat := digR x14 x12; let x17 : Nat := x16 % x8; let x18 : Nat := digR x17 x15; let x19 : Int := (↑(x18 / x8) : Int); let x20 : Int := (↑(x16 / x8) : Int); let x21 : Int := (↑(x13 / x8) : Int); let x22 : Int := (↑(x10 / x8) : Int); ((0 : Int) ≤ x2 ∧ x2 ≤ (256 : Int)) ∧ ((0 : Int) ≤ x3 ∧ x3 ≤ (256 : Int)) ∧ ((0 : Int) ≤ x2 ∧ x2 ≤ (256 : Int)) ∧ ((0 : Int) ≤ x5 ∧ x5 < (18446744073709551616 : Int)) ∧ x7 % M256 < x8 ∧ M256 ≤ 2 * x8 ∧ ((0 : Int) ≤ x9 ∧ x9 < (18446744073709551616 : Int)) ∧ x11 % M256 < x8 ∧ M256 ≤ 2 * x8 ∧ ((0 : Int) ≤ x12 ∧ x12 < (18446744073709551616 : Int)) ∧ x14 % M256 < x8 ∧ M256 ≤ 2 * x8 ∧ ((0 : Int) ≤ x15 ∧ x15 < (18446744073709551616 : Int)) ∧ x17 % M256 < x8 ∧ M256 ≤ 2 * x8 ∧ ((0 : Int) ≤ x2 ∧ x2 ≤ (256 : Int)) ∧ (((0 : Int) ≤ x19 ∧ x19 < (18446744073709551616 : Int)) ∧ ((0 : Int) ≤ x20 ∧ x20 < (18446744073709551616 : Int)) ∧ ((0 : Int) ≤ x21 ∧ x21 < (18446744073709551616 : Int)) ∧ ((0 : Int) ≤ x22 ∧ x22 < (18446744073709551616 : Int)) ∧ join x19 x20 x21 x22 % M256 = x6 / x1 % M256 ∧ True) ∧ x18 % x8 % M256 / x4 % M256 = x6 % x1 % M256 ∧ True) := by kernel_rfl
theorem vc_DivMod (a b : Nat) :
    Owes Tryd.prog cxDm [] 100 Tryd.f76 [sU a, sU b] (dmG a b) =
    (let x1 : Nat := b % M256; let x2 : Nat := a % M256; let x3 : Nat := x2 / x1; let x4 : Nat := (if x1 = 0 then 0 else x3) % M256; let x5 : Nat := x2 % x1; let x6 : Nat := (if x1 = 0 then 0 else x5) % M256; let x7 : Int := if x1 = 0 then (7 : Int) else (0 : Int); (conj [x1 == 0] = Bool.true → (0 = x4 ∧ True) ∧ (0 = x6 ∧ True) ∧ (7 : Int) = x7) ∧ (conj [x1 == 0] = Bool.false → 0 < x1 ∧ (x3 % M256 = x4 ∧ True) ∧ (x5 % M256 = x6 ∧ True) ∧ (0 : Int) = x7)) := by kernel_rfl
end Go.Proofs.YtohnkglcabfpjaaDoor
end

section
namespace Go.Sx
open Go.RowKit
def specUUU (c : Nat → Nat → Nat → List Prop) (g : Nat → Nat → Nat → SV) : FSpec := fun args =>
  match args with
  | [x, y, z] => match asU x, asU y, asU z with
    | some (p, a), some (o, n), some (q, b) => some (((p ++ o) ++ q) ++ c a n b, g a n b)
    | _, _, _ => none
  | _ => none
theorem FnOK_UUU {P : Program} {cx : Cx} (hcx : CxOK P cx) {iv : Nat → Nat → Nat → List (Nat × Hint)} {N : Nat} {f : Nat} {fn : Func} (hf : P.funcs[f]? = some fn) (hb : fn.body.isSome = true) (hn : (fn.name == "runtime.NumGoroutine") = false) {c : Nat → Nat → Nat → List Prop} {g : Nat → Nat → Nat → SV} (hg : ∀ a n b, (g a n b).bnd none0)
    (h : ∀ a n b, Ok (c a n b) → Owes P cx (iv a n b) N fn [sU a, sU n, sU b] (g a n b)) : FnOKg P cx.gl f (specUUU c g) := by
  refine FnOK_of hf hb hn fun args ps sv hs hp => ?_
  unfold specUUU at hs
  split at hs
  · rename_i x y z
    split at hs
    · rename_i p a o n q b ha hn' hb'
      simp only [Option.some.injEq, Prod.mk.injEq] at hs
      obtain ⟨rfl, rfl⟩ := hs
      obtain ⟨o12, o3⟩ := Ok.append.1 hp
      obtain ⟨o1', o2⟩ := Ok.append.1 o12
      obtain ⟨o1, o4⟩ := Ok.append.1 o1'
      refine ⟨hg a n b, fun ρ w hzz hgg _ => ?_⟩
      rw [show [x, y, z].map (SA.conc ρ) = [sU a, sU n, sU b].map (SA.conc ρ) by simp only [List.map_cons, List.map_nil, asU_canon ha o1 ρ, asU_canon hn' o4 ρ, asU_canon hb' o2 ρ]]
      refine (calls_of_owes0 hcx hf hb (args := [sU a, sU n, sU b]) (by
        intro z hz
        simp only [List.mem_cons, List.not_mem_nil, or_false] at hz
        rcases hz with rfl | rfl | rfl <;> exact bnd_sU _) (h a n b o3) ρ w hzz hgg).mono ?_
      rintro e w' ⟨v, rfl, ⟨ρ', hr⟩, hbl⟩
      exact ⟨v, rfl, rep_none0 (hg a n b) hr, hbl⟩
    · cases hs
  · cases hs
end Go.Sx
end

section
namespace Go.Proofs.YtohnkglcabfpjaaDoor
open Go.Sx
set_option maxRecDepth 100000
def cxFless : Cx := [(62, specWW mul64G), (63, specAdd64), (73, specSub64)]
def flessG (a : Nat) (q : Int) (b : Nat) : SV := .tup [sU (a % M256 + M256 - b % M256 * q.toNat % M256), sI .u64 (((b % M256 * q.toNat / M256 : Nat) : Int) + if a % M256 < b % M256 * q.toNat % M256 then 1 else 0)]
def flessC (_ : Nat) (q : Int) (_ : Nat) : List Prop := [w64ok q]
def invBring (r : Nat) (x : Int) (b : Nat) : Inv where
  X := Nat
  tm e := slotsAt 48 [(0, .one (sU r)), (1, .one (sI .u64 x)), (2, .one (sU b)), (3, .one (.sc (.ptr 0 0))), (5, .one (.sc (.ptr 1 0))), (6, .one (.sc (.ptr 2 0))), (7, .one (sI .u64 ((digAt r x b e / M256 % 18446744073709551616 : Nat) : Int)))]
  ob e := [.cells 24 [.u (digAt r x b e)] 0, .cells 24 [.u b] 0, .cells 24 [.c (.num .u64 0), .c (.num .u64 0), .c (.num .u64 0), .c (.num .u64 0)] 0]
  holds e := e ≤ 2
  less e := e
def bringG (r : Nat) (x : Int) (b : Nat) : SV := .one (sU (digR r x % (b % M256)))
def cxBring : Cx := [(71, specWWW guessC guessG), (72, specUWU flessC flessG), (56, specUU addG)]
def restC (a b m : Nat) : List Prop := [a % M256 < m % M256, b % M256 < m % M256, M256 ≤ 2 * (m % M256)]
def restG (a b m : Nat) : SV := .one (sU (a % M256 * (b % M256) % (m % M256)))
def cxRest : Cx := [(54, specUU mulG), (61, specUWU digC bringG)]
def bitC (n : Int) : List Prop := [0 ≤ n ∧ n ≤ 255]
def bitG (n : Int) : SV := .one (sU (2 ^ n.toNat))
def prodC (a b m : Nat) : List Prop := [a % M256 < m % M256, b % M256 < m % M256]
def prodG (a b m : Nat) : SV := .one (sU (a % M256 * (b % M256) % (m % M256)))
def cxProd : Cx := [(52, specU noughtsG), (53, specUUU restC restG), (55, specI bitC bitG), (54, specUU mulG)]
def sumG (a b m : Nat) : SV := .one (sU ((a % M256 + b % M256) % (m % M256)))
def diffG (a b m : Nat) : SV := .one (sU ((a % M256 + m % M256 - b % M256) % (m % M256)))
def cxSum : Cx := [(56, specUU addG), (24, specUU cmpG), (57, specUU subG)]
theorem vc_fguess (h l y : Int) :
    Owes Tryd.prog cxGuess [] 100 Tryd.f71 [sI .u64 h, sI .u64 l, sI .u64 y] (guessG h l y) =
    ((Decidable.decide (h ≥ y) = Bool.true → (18446744073709551615 : Int) = guessN h l y) ∧ (Decidable.decide (h ≥ y) = Bool.false → ((0 : Int) ≤ h ∧ h < (18446744073709551616 : Int)) ∧ ((0 : Int) ≤ l ∧ l < (18446744073709551616 : Int)) ∧ ((0 : Int) ≤ y ∧ y < (18446744073709551616 : Int)) ∧ h < y ∧ (h * (18446744073709551616 : Int) + l) / y = guessN h l y)) := by kernel_rfl
theorem vc_fnoughts (a : Nat) :
    Owes Tryd.prog cxNoughts [] 100 Tryd.f52 [sU a] (noughtsG a) =
    (let x1 : Int := Go.IntKind.i64.wrap ((0 : Int) + ((64 : Int) - lenN (limb a 3))); let x2 : Int := (↑(256 - bitsN (a % M256)) : Int); let x3 : Int := Go.IntKind.i64.wrap (x1 + ((64 : Int) - lenN (limb a 2))); let x4 : Int := Go.IntKind.i64.wrap (x3 + ((64 : Int) - lenN (limb a 1))); ((0 : Int) ≤ limb a 3 ∧ limb a 3 < (18446744073709551616 : Int)) ∧ ((limb a 3 != (0 : Int)) = Bool.true → x1 = x2) ∧ ((limb a 3 != (0 : Int)) = Bool.false → ((0 : Int) ≤ limb a 2 ∧ limb a 2 < (18446744073709551616 : Int)) ∧ ((limb a 2 != (0 : Int)) = Bool.true → x3 = x2) ∧ ((limb a 2 != (0 : Int)) = Bool.false → ((0 : Int) ≤ limb a 1 ∧ limb a 1 < (18446744073709551616 : Int)) ∧ ((limb a 1 != (0 : Int)) = Bool.true → x4 = x2) ∧ ((limb a 1 != (0 : Int)) = Bool.false → ((0 : Int) ≤ limb a 0 ∧ limb a 0 < (18446744073709551616 : Int)) ∧ ((limb a 0 != (0 : Int)) = Bool.true → Go.IntKind.i64.wrap (x4 + ((64 : Int) - lenN (limb a 0))) = x2) ∧ ((limb a 0 != (0 : Int)) = Bool.false → Go.IntKind.i64.wrap (x4 + ((64 : Int) - lenN (limb a 0))) = x2))))) := by kernel_rfl
theorem vc_fless (a : Nat) (q : Int) (b : Nat) :
    Owes Tryd.prog cxFless [] 100 Tryd.f72 [sU a, sI .u64 q, sU b] (flessG a q b) =
    (let x1 : Int := limb b 0 * q; let x2 : Int := x1 % (18446744073709551616 : Int); let x3 : Int := x2 + (0 : Int) + (0 : Int); let x4 : Int := x3 % (18446744073709551616 : Int); let x5 : Int := limb b 1 * q; let x6 : Int := x5 % (18446744073709551616 : Int); let x7 : Int := limb a 0 - x4 - (0 : Int); let x8 : Int := Go.IntKind.u64.wrap (Go.IntKind.u64.wrap (x1 / (18446744073709551616 : Int) + x3 / (18446744073709551616 : Int)) + -(x7 / (18446744073709551616 : Int))); let x9 : Int := x6 + x8 + (0 : Int); let x10 : Int := x9 % (18446744073709551616 : Int); let x11 : Int := limb b 2 * q; let x12 : Int := x11 % (18446744073709551616 : Int); let x13 : Int := limb a 1 - x10 - (0 : Int); let x14 : Int := Go.IntKind.u64.wrap (Go.IntKind.u64.wrap (x5 / (18446744073709551616 : Int) + x9 / (18446744073709551616 : Int)) + -(x13 / (18446744073709551616 : Int))); let x15 : Int := x12 + x14 + (0 : Int); let x16 : Int := x15 % (18446744073709551616 : Int); let x17 : Int := limb b 3 * q; let x18 : Int := x17 % (18446744073709551616 : Int); let x19 : Int := limb a 2 - x16 - (0 : Int); let x20 : Int := Go.IntKind.u64.wrap (Go.IntKind.u64.wrap (x11 / (18446744073709551616 : Int) + x15 / (18446744073709551616 : Int)) + -(x19 / (18446744073709551616 : Int))); let x21 : Int := x18 + x20 + (0 : Int); let x22 : Int := x21 % (18446744073709551616 : Int); let x23 : Int := x7 % (18446744073709551616 : Int); let x24 : Int := x13 % (18446744073709551616 : Int); let x25 : Int := x19 % (18446744073709551616 : Int); let x26 : Int := limb a 3 - x22 - (0 : Int); let x27 : Int := x26 % (18446744073709551616 : Int); let x28 : Nat := a % M256; let x29 : Nat := b % M256 * q.toNat; let x30 : Nat := x29 % M256; ((0 : Int) ≤ limb b 0 ∧ limb b 0 < (18446744073709551616 : Int)) ∧ ((0 : Int) ≤ q ∧ q < (18446744073709551616 : Int)) ∧ (0 : Int) ≤ x2 ∧ (0 : Int) ≤ (0 : Int) ∧ ((0 : Int) ≤ (0 : Int) ∧ (0 : Int) ≤ (1 : Int)) ∧ ((0 : Int) ≤ limb a 0 ∧ limb a 0 < (18446744073709551616 : Int)) ∧ ((0 : Int) ≤ x4 ∧ x4 < (18446744073709551616 : Int)) ∧ ((0 : Int) ≤ (0 : Int) ∧ (0 : Int) ≤ (1 : Int)) ∧ ((0 : Int) ≤ limb b 1 ∧ limb b 1 < (18446744073709551616 : Int)) ∧ ((0 : Int) ≤ q ∧ q < (18446744073709551616 : Int)) ∧ (0 : Int) ≤ x6 ∧ (0 : Int) ≤ x8 ∧ ((0 : Int) ≤ (0 : Int) ∧ (0 : Int) ≤ (1 : Int)) ∧ ((0 : Int) ≤ limb a 1 ∧ limb a 1 < (18446744073709551616 : Int)) ∧ ((0 : Int) ≤ x10 ∧ x10 < (18446744073709551616 : Int)) ∧ ((0 : Int) ≤ (0 : Int) ∧ (0 : Int) ≤ (1 : Int)) ∧ ((0 : Int) ≤ limb b 2 ∧ limb b 2 < (18446744073709551616 : Int)) ∧ ((0 : Int) ≤ q ∧ q < (18446744073709551616 : Int)) ∧ (0 : Int) ≤ x12 ∧ (0 : Int) ≤ x14 ∧ ((0 : Int) ≤ (0 : Int) ∧ (0 : Int) ≤ (1 : Int)) ∧ ((0 : Int) ≤ limb a 2 ∧ limb a 2 < (18446744073709551616 : Int)) ∧ ((0 : Int) ≤ x16 ∧ x16 < (18446744073709551616 : Int)) ∧ ((0 : Int) ≤ (0 : Int) ∧ (0 : Int) ≤ (1 : Int)) ∧ ((0 : Int) ≤ limb b 3 ∧ limb b 3 < (18446744073709551616 : Int)) ∧ ((0 : Int) ≤ q ∧ q < (18446744073709551616 : Int)) ∧ (0 : Int) ≤ x18 ∧ (0 : Int) ≤ x20 ∧ ((0 : Int) ≤ (0 : Int) ∧ (0 : Int) ≤ (1 : Int)) ∧ ((0 : Int) ≤ limb a 3 ∧ limb a 3 < (18446744073709551616 : Int)) ∧ ((0 : Int) ≤ x22 ∧ x22 < (18446744073709551616 : Int)) ∧ ((0 : Int) ≤ (0 : Int) ∧ (0 : Int) ≤ (1 : Int)) ∧ (((0 : Int) ≤ x23 ∧ x23 < (18446744073709551616 : Int)) ∧ ((0 : Int) ≤ x24 ∧ x24 < (18446744073709551616 : Int)) ∧ ((0 : Int) ≤ x25 ∧ x25 < (18446744073709551616 : Int)) ∧ ((0 : Int) ≤ x27 ∧ x27 < (18446744073709551616 : Int)) ∧ join x23 x24 x25 x27 % M256 = (x28 + M256 - x30) % M256 ∧ True) ∧ Go.IntKind.u64.wrap (Go.IntKind.u64.wrap (x17 / (18446744073709551616 : Int) + x21 / (18446744073709551616 : Int)) + -(x26 / (18446744073709551616 : Int))) = (↑(x29 / M256) : Int) + if x28 < x30 then (1 : Int) else (0 : Int)) := by kernel_rfl
theorem vc_bring (r : Nat) (x : Int) (b : Nat) :
    Owes Tryd.prog cxBring [(5, .inv (invBring r x b))] 100 Tryd.f61 [sU r, sI .u64 x, sU b] (bringG r x b) =
    (let x1 : Int := guessN (limb r 3) (limb r 2) (limb b 3); let x2 : Nat := r % M256; let x3 : Nat := b % M256; let x4 : Nat := x3 * x1.toNat; let x5 : Nat := join x (limb r 0) (limb r 1) (limb r 2) % M256; let x6 : Nat := x4 % M256; ((0 : Int) ≤ limb r 3 ∧ limb r 3 < (18446744073709551616 : Int)) ∧ ((0 : Int) ≤ limb r 2 ∧ limb r 2 < (18446744073709551616 : Int)) ∧ ((0 : Int) ≤ limb b 3 ∧ limb b 3 < (18446744073709551616 : Int)) ∧ (0 : Int) < limb b 3 ∧ ((0 : Int) ≤ x ∧ x < (18446744073709551616 : Int)) ∧ ((0 : Int) ≤ limb r 0 ∧ limb r 0 < (18446744073709551616 : Int)) ∧ ((0 : Int) ≤ limb r 1 ∧ limb r 1 < (18446744073709551616 : Int)) ∧ ((0 : Int) ≤ limb r 2 ∧ limb r 2 < (18446744073709551616 : Int)) ∧ ((0 : Int) ≤ x1 ∧ x1 < (18446744073709551616 : Int)) ∧ (∀ (y : Nat), closedB (slotsAt 48 [(0, SV.one (sU r)), (1, SV.one (sI Go.IntKind.u64 x)), (2, SV.one (sU b)), (3, SV.one (SA.sc (SC.ptr 0 0))), (5, SV.one (SA.sc (SC.ptr 1 0))), (6, SV.one (SA.sc (SC.ptr 2 0))), (7, SV.one (sI Go.IntKind.u64 (↑(digAt r x b y / M256 % 18446744073709551616) : Int)))]) [SO.cells (24 : Go.TypeId) [SK.u (digAt r x b y)] 0, SO.cells (24 : Go.TypeId) [SK.u b] 0, SO.cells (24 : Go.TypeId) [SK.c (SC.num Go.IntKind.u64 (0 : Int)), SK.c (SC.num Go.IntKind.u64 (0 : Int)), SK.c (SC.num Go.IntKind.u64 (0 : Int)), SK.c (SC.num Go.IntKind.u64 (0 : Int))] 0] = Bool.true) ∧ ∃ (y : Nat), y ≤ 2 ∧ x2 = x2 ∧ x = x ∧ x3 = x3 ∧ Go.IntKind.u64.wrap (limb r 3 - ((↑(x4 / M256) : Int) + if x5 < x6 then (1 : Int) else (0 : Int))) = (↑(digAt r x b y / M256 % 18446744073709551616) : Int) ∧ (x5 + M256 - x6) % M256 = digAt r x b y % M256 ∧ 0 = 0 ∧ x3 = x3 ∧ 0 = 0 ∧ 0 = 0 ∧ ∀ (y : Nat), y ≤ 2 → (((↑(digAt r x b y / M256 % 18446744073709551616) : Int) != (0 : Int)) = Bool.true → (Decidable.decide (M256 ≤ digAt r x b y % M256 + x3) = Bool.true → ∃ (y' : Nat), y' ≤ 2 ∧ x2 = x2 ∧ x = x ∧ x3 = x3 ∧ Go.IntKind.u64.wrap ((↑(digAt r x b y / M256 % 18446744073709551616) : Int) + (1 : Int)) = (↑(digAt r x b y' / M256 % 18446744073709551616) : Int) ∧ (digAt r x b y + b) % M256 = digAt r x b y' % M256 ∧ 0 = 0 ∧ x3 = x3 ∧ 0 = 0 ∧ 0 = 0 ∧ y' < y) ∧ (Decidable.decide (M256 ≤ digAt r x b y % M256 + x3) = Bool.false → ∃ (y' : Nat), y' ≤ 2 ∧ x2 = x2 ∧ x = x ∧ x3 = x3 ∧ (↑(digAt r x b y / M256 % 18446744073709551616) : Int) = (↑(digAt r x b y' / M256 % 18446744073709551616) : Int) ∧ (digAt r x b y + b) % M256 = digAt r x b y' % M256 ∧ 0 = 0 ∧ x3 = x3 ∧ 0 = 0 ∧ 0 = 0 ∧ y' < y)) ∧ (((↑(digAt r x b y / M256 % 18446744073709551616) : Int) != (0 : Int)) = Bool.false → digAt r x b y % M256 = digR r x % x3 % M256 ∧ True)) := by kernel_rfl
theorem vc_rest (a b m : Nat) :
    Owes Tryd.prog cxRest [] 100 Tryd.f53 [sU a, sU b, sU m] (restG a b m) =
    (let x1 : Int := limb (a * b) 3; let x2 : Nat := a % M256 * (b % M256); let x3 : Nat := x2 / M256; let x4 : Nat := m % M256; let x5 : Int := limb (a * b) 2; let x6 : Nat := digR x3 x1 % x4; let x7 : Int := limb (a * b) 1; let x8 : Nat := digR x6 x5 % x4; let x9 : Int := limb (a * b) 0; let x10 : Nat := digR x8 x7 % x4; ((0 : Int) ≤ x1 ∧ x1 < (18446744073709551616 : Int)) ∧ x3 % M256 < x4 ∧ M256 ≤ 2 * x4 ∧ ((0 : Int) ≤ x5 ∧ x5 < (18446744073709551616 : Int)) ∧ x6 % M256 < x4 ∧ M256 ≤ 2 * x4 ∧ ((0 : Int) ≤ x7 ∧ x7 < (18446744073709551616 : Int)) ∧ x8 % M256 < x4 ∧ M256 ≤ 2 * x4 ∧ ((0 : Int) ≤ x9 ∧ x9 < (18446744073709551616 : Int)) ∧ x10 % M256 < x4 ∧ M256 ≤ 2 * x4 ∧ digR x10 x9 % x4 % M256 = x2 % x4 % M256 ∧ True) := by kernel_rfl
theorem vc_bit (n : Int) :
    Owes Tryd.prog Cx.none [] 100 Tryd.f55 [sI .i64 n] (bitG n) =
    (let x1 : Int := Go.IntKind.i64.wrap (n.tdiv (64 : Int)); let x2 : Nat := x1.toNat; let x3 : Int := Go.IntKind.u64.wrap ((1 : Int) * (2 : Int) ^ Min.min (n.tmod (64 : Int)).toNat 64); let x4 : Int := if 0 = x2 then x3 else (0 : Int); let x5 : Int := if 1 = x2 then x3 else (0 : Int); let x6 : Int := if 2 = x2 then x3 else (0 : Int); let x7 : Int := if 3 = x2 then x3 else (0 : Int); (0 : Int) ≤ n.tmod (64 : Int) ∧ ((0 : Int) ≤ x1 ∧ x1 < (4 : Int)) ∧ ((0 : Int) ≤ x1 ∧ x1 < (4 : Int)) ∧ ((0 : Int) ≤ x4 ∧ x4 < (18446744073709551616 : Int)) ∧ ((0 : Int) ≤ x5 ∧ x5 < (18446744073709551616 : Int)) ∧ ((0 : Int) ≤ x6 ∧ x6 < (18446744073709551616 : Int)) ∧ ((0 : Int) ≤ x7 ∧ x7 < (18446744073709551616 : Int)) ∧ join x4 x5 x6 x7 % M256 = 2 ^ n.toNat % M256 ∧ True) := by kernel_rfl
theorem vc_product (a b m : Nat) :
    Owes Tryd.prog cxProd [] 100 Tryd.f44 [sU a, sU b, sU m] (prodG a b m) =
    (let x1 : Nat := m % M256; let x2 : Int := (↑(256 - bitsN x1) : Int); let x3 : Nat := a % M256; let x4 : Nat := b % M256; let x5 : Nat := x3 * x4 % x1 % M256; let x6 : Nat := 2 ^ x2.toNat; let x7 : Nat := m * x6 % M256; let x8 : Nat := b * x6 % M256; let x9 : Int := Go.IntKind.i64.wrap ((256 : Int) - x2); ((x2 == (0 : Int)) = Bool.true → x3 < x1 ∧ x4 < x1 ∧ M256 ≤ 2 * x1 ∧ x5 = x5 ∧ True) ∧ ((x2 == (0 : Int)) = Bool.false → ((0 : Int) ≤ x2 ∧ x2 ≤ (255 : Int)) ∧ ((0 : Int) ≤ x2 ∧ x2 ≤ (255 : Int)) ∧ x3 < x7 ∧ x8 < x7 ∧ M256 ≤ 2 * x7 ∧ ((0 : Int) ≤ x9 ∧ x9 ≤ (255 : Int)) ∧ x3 * x8 % x7 % M256 * (2 ^ x9.toNat % M256) / M256 % M256 = x5 ∧ True)) := by kernel_rfl
theorem vc_sum (a b m : Nat) :
    Owes Tryd.prog cxSum [] 100 Tryd.f45 [sU a, sU b, sU m] (sumG a b m) =
    (let x1 : Nat := a % M256 + b % M256; let x2 : Bool := Decidable.decide (M256 ≤ x1); let x3 : Nat := a + b; let x4 : Int := cmpN x3 m; let x5 : Nat := x3 % M256; let x6 : Nat := m % M256; let x7 : Nat := x1 % x6 % M256; ((!x2) = Bool.true → (!x2) = Bool.true) ∧ ((!x2) = Bool.true → (!x2) = Bool.true) ∧ ((!x2) = Bool.true → (!x2) = Bool.true) ∧ (x2 = Bool.false → (!x2) = Bool.true) ∧ ((x2 || Decidable.decide (x4 ≥ (0 : Int))) = Bool.true → (x5 + M256 - x6) % M256 = x7 ∧ True) ∧ ((x2 || Decidable.decide (x4 ≥ (0 : Int))) = Bool.false → x5 = x7 ∧ True)) := by kernel_rfl
theorem vc_difference (a b m : Nat) :
    Owes Tryd.prog cxSum [] 100 Tryd.f47 [sU a, sU b, sU m] (diffG a b m) =
    (let x1 : Nat := a % M256; let x2 : Nat := b % M256; let x3 : Nat := x1 + M256 - x2; let x4 : Nat := m % M256; let x5 : Nat := (x1 + x4 - x2) % x4 % M256; (Decidable.decide (x1 < x2) = Bool.true → (x3 + m) % M256 = x5 ∧ True) ∧ (Decidable.decide (x1 < x2) = Bool.false → x3 % M256 = x5 ∧ True)) := by kernel_rfl
end Go.Proofs.YtohnkglcabfpjaaDoor
end

section
namespace Go.Proofs.YtohnkglcabfpjaaDoor
open Go.Sx
set_option maxRecDepth 100000
def fE (a b m : Nat) : Int := if m % M256 = 0 then 7 else if a % M256 < m % M256 ∧ b % M256 < m % M256 then 0 else 6
def faddG (a b m : Nat) : SV := .tup [sU (if fE a b m = 0 then (a % M256 + b % M256) % (m % M256) else 0), sI .i64 (fE a b m)]
def fsubG (a b m : Nat) : SV := .tup [sU (if fE a b m = 0 then (a % M256 + m % M256 - b % M256) % (m % M256) else 0), sI .i64 (fE a b m)]
def fmulG (a b m : Nat) : SV := .tup [sU (if fE a b m = 0 then a % M256 * (b % M256) % (m % M256) else 0), sI .i64 (fE a b m)]
def noC (_ _ _ : Nat) : List Prop := []
def cxFadd : Cx := [(24, specUU cmpG), (45, specUUU prodC sumG)]
def cxFsub : Cx := [(24, specUU cmpG), (47, specUUU prodC diffG)]
def cxFmul : Cx := [(24, specUU cmpG), (44, specUUU prodC prodG)]
theorem vc_fAdd (a b m : Nat) :
    Owes Tryd.prog cxFadd [] 100 Tryd.f39 [sU a, sU b, sU m] (faddG a b m) =
    (let x1 : Nat := m % M256; let x2 : Nat := a % M256; let x3 : Nat := b % M256; let x4 : Nat := (x2 + x3) % x1; let x5 : Nat := (if fE a b m = (0 : Int) then x4 else 0) % M256; (conj [x1 == 0] = Bool.true → (0 = x5 ∧ True) ∧ (7 : Int) = fE a b m) ∧ (conj [x1 == 0] = Bool.false → (Decidable.decide (cmpN a m ≥ (0 : Int)) = Bool.true → (0 = x5 ∧ True) ∧ (6 : Int) = fE a b m) ∧ (Decidable.decide (cmpN a m ≥ (0 : Int)) = Bool.false → (Decidable.decide (cmpN b m ≥ (0 : Int)) = Bool.true → (0 = x5 ∧ True) ∧ (6 : Int) = fE a b m) ∧ (Decidable.decide (cmpN b m ≥ (0 : Int)) = Bool.false → x2 < x1 ∧ x3 < x1 ∧ (x4 % M256 = x5 ∧ True) ∧ (0 : Int) = fE a b m)))) := by kernel_rfl
theorem vc_fSub (a b m : Nat) :
    Owes Tryd.prog cxFsub [] 100 Tryd.f41 [sU a, sU b, sU m] (fsubG a b m) =
    (let x1 : Nat := m % M256; let x2 : Nat := a % M256; let x3 : Nat := b % M256; let x4 : Nat := (x2 + x1 - x3) % x1; let x5 : Nat := (if fE a b m = (0 : Int) then x4 else 0) % M256; (conj [x1 == 0] = Bool.true → (0 = x5 ∧ True) ∧ (7 : Int) = fE a b m) ∧ (conj [x1 == 0] = Bool.false → (Decidable.decide (cmpN a m ≥ (0 : Int)) = Bool.true → (0 = x5 ∧ True) ∧ (6 : Int) = fE a b m) ∧ (Decidable.decide (cmpN a m ≥ (0 : Int)) = Bool.false → (Decidable.decide (cmpN b m ≥ (0 : Int)) = Bool.true → (0 = x5 ∧ True) ∧ (6 : Int) = fE a b m) ∧ (Decidable.decide (cmpN b m ≥ (0 : Int)) = Bool.false → x2 < x1 ∧ x3 < x1 ∧ (x4 % M256 = x5 ∧ True) ∧ (0 : Int) = fE a b m)))) := by kernel_rfl
theorem vc_fMul (a b m : Nat) :
    Owes Tryd.prog cxFmul [] 100 Tryd.f38 [sU a, sU b, sU m] (fmulG a b m) =
    (let x1 : Nat := m % M256; let x2 : Nat := a % M256; let x3 : Nat := b % M256; let x4 : Nat := x2 * x3 % x1; let x5 : Nat := (if fE a b m = (0 : Int) then x4 else 0) % M256; (conj [x1 == 0] = Bool.true → (0 = x5 ∧ True) ∧ (7 : Int) = fE a b m) ∧ (conj [x1 == 0] = Bool.false → (Decidable.decide (cmpN a m ≥ (0 : Int)) = Bool.true → (0 = x5 ∧ True) ∧ (6 : Int) = fE a b m) ∧ (Decidable.decide (cmpN a m ≥ (0 : Int)) = Bool.false → (Decidable.decide (cmpN b m ≥ (0 : Int)) = Bool.true → (0 = x5 ∧ True) ∧ (6 : Int) = fE a b m) ∧ (Decidable.decide (cmpN b m ≥ (0 : Int)) = Bool.false → x2 < x1 ∧ x3 < x1 ∧ (x4 % M256 = x5 ∧ True) ∧ (0 : Int) = fE a b m)))) := by kernel_rfl
end Go.Proofs.YtohnkglcabfpjaaDoor
end

section
namespace Go.Proofs.YtohnkglcabfpjaaDoor
open Go.Sx
set_option maxRecDepth 100000
def zeroU : List SK := [.c (.num .u64 0), .c (.num .u64 0), .c (.num .u64 0), .c (.num .u64 0)]
end Go.Proofs.YtohnkglcabfpjaaDoor
end

section
namespace Go.Sx
open Go.RowKit
inductive PK where
  | u | b | i
  | y (n : Nat)
inductive At where
  | u (n : Nat)
  | b (x : Bool)
  | i (n : Int)
  | y (n : Nat) (g : Nat → Int)
inductive AP where
  | hand
  | str (ps : List PK)
  | int (k : IntKind)
  | bit
def asBit : SC → Option Bool
  | .bit x => some x
  | .val (.bool x) => some x
  | _ => none
theorem asBit_sound {s : SC} {x : Bool} (h : asBit s = some x) (ρ : Rho) : s.conc ρ = .bool x := by
  unfold asBit at h
  split at h
  · cases h; rfl
  · cases h; rfl
  · cases h
def takeU : List SK → Option (List Prop × Nat × List SK)
  | .u n :: r => some ([], n, r)
  | .c a :: .c b :: .c c :: .c d :: r => match asU4 [a, b, c, d] with
    | some (ps, n) => some (ps, n, r)
    | none => none
  | _ => none
theorem takeU_sound {ks r : List SK} {ps : List Prop} {n : Nat} (h : takeU ks = some (ps, n, r)) (hp : Ok ps) (ρ : Rho) : concs ρ ks = concs ρ (.u n :: r) := by
  unfold takeU at h
  split at h
  · cases h; rfl
  · rename_i a b c d r'
    split at h
    · rename_i ps' n' h4
      simp only [Option.some.injEq, Prod.mk.injEq] at h
      obtain ⟨rfl, rfl, rfl⟩ := h
      have := asU4_sound h4 hp ρ
      simp only [U, List.map_cons, List.map_nil, Value.agg.injEq] at this
      have := congrArg Array.toList this
      simp only [List.cons.injEq, and_true] at this
      obtain ⟨e1, e2, e3, e4⟩ := this
      simp [concs, flat, SK.cells, e1, e2, e3, e4, show ∀ v, (SC.val v).conc ρ = v from fun _ => rfl]
    · cases h
  · cases h
def asKs : List PK → List SK → Option (List Prop × List At)
  | [], [] => some ([], [])
  | .u :: ps, ks => match takeU ks with
    | some (p, n, r) => match asKs ps r with
      | some (q, l) => some (p ++ q, .u n :: l)
      | none => none
    | none => none
  | .b :: ps, .c s :: r => match asBit s with
    | some x => match asKs ps r with
      | some (q, l) => some (q, .b x :: l)
      | none => none
    | none => none
  | .i :: ps, .c s :: r => match asI (.sc s) with
    | some (.i64, x) => match asKs ps r with
      | some (q, l) => some (q, .i x :: l)
      | none => none
    | _ => none
  | [.y n], ks => match asBy n (.agg ks) with
    | some g => some ([], [.y n g])
    | none => none
  | _, _ => none
def At.sk : At → SK
  | .u n => .u n
  | .b x => .c (.val (.bool x))
  | .i n => .c (.val (.int .i64 n))
  | .y n g => .f .u8 n g
theorem concs_app (ρ : Rho) (k : SK) {xs ys : List SK} (h : concs ρ xs = concs ρ ys) : concs ρ (k :: xs) = concs ρ (k :: ys) := by
  rw [concs_cons ρ k xs, concs_cons ρ k ys, h]
theorem asKs_sound (ρ : Rho) : ∀ {ps : List PK} {ks : List SK} {q : List Prop} {l : List At}, asKs ps ks = some (q, l) → Ok q → concs ρ ks = concs ρ (l.map At.sk)
  | [], [], q, l, h, _ => by simp only [asKs, Option.some.injEq, Prod.mk.injEq] at h; obtain ⟨_, rfl⟩ := h; rfl
  | [], _ :: _, q, l, h, _ => by simp [asKs] at h
  | .u :: ps, ks, q, l, h, hq => by
    simp only [asKs] at h
    split at h
    · rename_i p n r hu
      split at h
      · rename_i q' l' hr
        simp only [Option.some.injEq, Prod.mk.injEq] at h
        obtain ⟨rfl, rfl⟩ := h
        obtain ⟨h1, h2⟩ := Ok.append.1 hq
        rw [takeU_sound hu h1 ρ]
        exact concs_app ρ _ (asKs_sound ρ hr h2)
      · cases h
    · cases h
  | .i :: ps, [], q, l, h, _ => by simp [asKs] at h
  | .i :: ps, .u _ :: _, q, l, h, _ => by simp [asKs] at h
  | .i :: ps, .f _ _ _ :: _, q, l, h, _ => by simp [asKs] at h
  | .i :: ps, .c s :: r, q, l, h, hq => by
    simp only [asKs] at h
    split at h
    · rename_i x hx
      split at h
      · rename_i q' l' hr
        simp only [Option.some.injEq, Prod.mk.injEq] at h
        obtain ⟨rfl, rfl⟩ := h
        have ih := asKs_sound ρ hr hq
        rw [List.map_cons, concs_cons, concs_cons ρ (At.sk (.i x)), ih]
        have e : s.conc ρ = .int .i64 x := asI_sound hx ρ
        simp [concs, flat, SK.cells, At.sk, e, show ∀ v, (SC.val v).conc ρ = v from fun _ => rfl]
      · cases h
    · cases h
  | .y n :: p :: ps, ks, q, l, h, _ => by simp [asKs] at h
  | [.y n], ks, q, l, h, hq => by
    simp only [asKs] at h
    split at h
    · rename_i g hg
      simp only [Option.some.injEq, Prod.mk.injEq] at h
      obtain ⟨rfl, rfl⟩ := h
      have := asBy_sound hg ρ
      simp only [SA.conc, Value.agg.injEq] at this
      have := congrArg Array.toList this
      simpa [At.sk] using this
    · cases h
  | .b :: ps, [], q, l, h, _ => by simp [asKs] at h
  | .b :: ps, .u _ :: _, q, l, h, _ => by simp [asKs] at h
  | .b :: ps, .f _ _ _ :: _, q, l, h, _ => by simp [asKs] at h
  | .b :: ps, .c s :: r, q, l, h, hq => by
    simp only [asKs] at h
    split at h
    · rename_i x hx
      split at h
      · rename_i q' l' hr
        simp only [Option.some.injEq, Prod.mk.injEq] at h
        obtain ⟨rfl, rfl⟩ := h
        have ih := asKs_sound ρ hr hq
        rw [List.map_cons, concs_cons, concs_cons ρ (At.sk (.b x)), ih]
        have e := asBit_sound hx ρ
        simp [concs, flat, SK.cells, At.sk, e, show ∀ v, (SC.val v).conc ρ = v from fun _ => rfl]
      · cases h
    · cases h
def isPtr : SC → Bool
  | .ptr _ _ => true
  | .val (.pointer _) => true
  | _ => false
def asArg : AP → SA → Option (List Prop × List At)
  | .hand, .agg ks => match takeU ks with
    | some (p, n, [.c s]) => if isPtr s then some (p, [.u n]) else none
    | _ => none
  | .str ps, .agg ks => asKs ps ks
  | .int k, x => match asI x with
    | some (k', n) => if k' = k then some ([], [.i n]) else none
    | none => none
  | .bit, .sc s => match asBit s with
    | some x => some ([], [.b x])
    | none => none
  | _, _ => none
def mkArg : AP → List At → Option Addr → SA
  | .hand, [.u n], v => .agg [.u n, .c (.val (.pointer v))]
  | .str _, l, _ => .agg (l.map At.sk)
  | .int k, [.i n], _ => sI k n
  | .bit, [.b x], _ => sB x
  | _, _, _ => .agg []
theorem asArg_sound {ap : AP} {x : SA} {q : List Prop} {l : List At} (h : asArg ap x = some (q, l)) (hq : Ok q) (ρ : Rho) : ∃ v, x.conc ρ = (mkArg ap l v).conc ρ := by
  unfold asArg at h
  split at h
  · rename_i ks
    split at h
    · rename_i p n s hu
      split at h
      · rename_i hs
        simp only [Option.some.injEq, Prod.mk.injEq] at h
        obtain ⟨rfl, rfl⟩ := h
        obtain ⟨v, hv⟩ : ∃ v, s.conc ρ = .pointer v := by
          unfold isPtr at hs
          split at hs
          · exact ⟨_, rfl⟩
          · exact ⟨_, rfl⟩
          · cases hs
        refine ⟨v, ?_⟩
        simp only [SA.conc, mkArg, takeU_sound hu hq ρ]
        simp [concs, flat, SK.cells, hv, show ∀ v, (SC.val v).conc ρ = v from fun _ => rfl]
      · cases h
    · cases h
  · rename_i ps ks
    exact ⟨none, by simp only [SA.conc, mkArg, asKs_sound ρ h hq]⟩
  · rename_i k x'
    split at h
    · rename_i k' n hi
      split at h
      · rename_i hk
        subst hk
        simp only [Option.some.injEq, Prod.mk.injEq] at h
        obtain ⟨rfl, rfl⟩ := h
        exact ⟨none, asI_canon hi ρ⟩
      · cases h
    · cases h
  · split at h
    · rename_i b hb
      simp only [Option.some.injEq, Prod.mk.injEq] at h
      obtain ⟨rfl, rfl⟩ := h
      exact ⟨none, asBit_sound hb ρ⟩
    · cases h
  · cases h
theorem mkArg_bnd (ap : AP) (l : List At) (v : Option Addr) : (mkArg ap l v).bnd none0 := by
  unfold mkArg
  split
  · intro k hk
    simp only [List.mem_cons, List.not_mem_nil, or_false] at hk
    rcases hk with rfl | rfl <;> trivial
  · intro k hk
    simp only [List.mem_map] at hk
    obtain ⟨a, _, rfl⟩ := hk
    cases a <;> trivial
  · trivial
  · trivial
  · intro k hk
    simp at hk
def asArgs : List AP → List SA → Option (List Prop × List (List At))
  | [], [] => some ([], [])
  | ap :: sh, x :: r => match asArg ap x with
    | some (p, l) => match asArgs sh r with
      | some (q, ls) => some (p ++ q, l :: ls)
      | none => none
    | none => none
  | _, _ => none
def mkArgs : List AP → List (List At) → List (Option Addr) → List SA
  | ap :: sh, l :: ls, vs => mkArg ap l (vs.headD none) :: mkArgs sh ls vs.tail
  | _, _, _ => []
theorem asArgs_sound (ρ : Rho) : ∀ {sh : List AP} {xs : List SA} {q : List Prop} {ls : List (List At)}, asArgs sh xs = some (q, ls) → Ok q → ∃ vs, xs.map (SA.conc ρ) = (mkArgs sh ls vs).map (SA.conc ρ)
  | [], [], q, ls, h, _ => ⟨[], by simp only [asArgs, Option.some.injEq, Prod.mk.injEq] at h; obtain ⟨_, rfl⟩ := h; rfl⟩
  | [], _ :: _, q, ls, h, _ => by simp [asArgs] at h
  | _ :: _, [], q, ls, h, _ => by simp [asArgs] at h
  | ap :: sh, x :: r, q, ls, h, hq => by
    simp only [asArgs] at h
    split at h
    · rename_i p l hx
      split at h
      · rename_i q' l' hr
        simp only [Option.some.injEq, Prod.mk.injEq] at h
        obtain ⟨rfl, rfl⟩ := h
        obtain ⟨h1, h2⟩ := Ok.append.1 hq
        obtain ⟨v, hv⟩ := asArg_sound hx h1 ρ
        obtain ⟨vs, hvs⟩ := asArgs_sound ρ hr h2
        exact ⟨v :: vs, by simp only [mkArgs, List.map_cons, List.headD_cons, List.tail_cons, hv, hvs]⟩
      · cases h
    · cases h
theorem mkArgs_bnd : ∀ (sh : List AP) (ls : List (List At)) (vs : List (Option Addr)), ∀ x ∈ mkArgs sh ls vs, x.bnd none0
  | [], _, _, x, h => by simp [mkArgs] at h
  | _ :: _, [], _, x, h => by simp [mkArgs] at h
  | ap :: sh, l :: ls, vs, x, h => by
    simp only [mkArgs, List.mem_cons] at h
    rcases h with rfl | h
    · exact mkArg_bnd _ _ _
    · exact mkArgs_bnd sh ls _ x h
def specA (sh : List AP) (c : List (List At) → List Prop) (g : List (List At) → SV) : FSpec := fun args =>
  match asArgs sh args with
  | some (p, ls) => some (p ++ c ls, g ls)
  | none => none
theorem FnOK_A {P : Program} {cx : Cx} (hcx : CxOK P cx) {sh : List AP} {c : List (List At) → List Prop} {g : List (List At) → SV} {iv : List (List At) → List (Nat × Hint)} {N : Nat} {f : Nat} {fn : Func} (hf : P.funcs[f]? = some fn) (hb : fn.body.isSome = true) (hn : (fn.name == "runtime.NumGoroutine") = false) (hg : ∀ ls, (g ls).bnd none0)
    (h : ∀ ls vs, Ok (c ls) → Owes P cx (iv ls) N fn (mkArgs sh ls vs) (g ls)) : FnOKg P cx.gl f (specA sh c g) := by
  refine FnOK_of hf hb hn fun args ps sv hs hp => ?_
  unfold specA at hs
  split at hs
  · rename_i p ls ha
    simp only [Option.some.injEq, Prod.mk.injEq] at hs
    obtain ⟨rfl, rfl⟩ := hs
    obtain ⟨o1, o2⟩ := Ok.append.1 hp
    refine ⟨hg ls, fun ρ w hzz hgg _ => ?_⟩
    obtain ⟨vs, hv⟩ := asArgs_sound ρ ha o1
    rw [hv]
    refine (calls_of_owes0 hcx hf hb (mkArgs_bnd sh ls vs) (h ls vs o2) ρ w hzz hgg).mono ?_
    rintro e w' ⟨v, rfl, ⟨ρ', hr⟩, hbl⟩
    exact ⟨v, rfl, rep_none0 (hg ls) hr, hbl⟩
  · cases hs
end Go.Sx
end

section
namespace Go.Sx
def eu : Nat → Nat → Nat → Int → Int → Nat × Int
  | 0, r0, _, s0, _ => (r0, s0)
  | n + 1, r0, r1, s0, s1 => if r1 = 0 then (r0, s0) else eu n r1 (r0 % r1) s1 (s0 - ((r0 / r1 : Nat) : Int) * s1)
theorem eu_more : ∀ (n k r0 r1 : Nat) (s0 s1 : Int), r1 ≤ n → r1 ≤ k → eu n r0 r1 s0 s1 = eu k r0 r1 s0 s1
  | 0, 0, _, _, _, _, _, _ => rfl
  | 0, k + 1, r0, r1, s0, s1, h, _ => by
    have : r1 = 0 := by omega
    simp only [eu, if_pos this]
  | n + 1, 0, r0, r1, s0, s1, _, h => by
    have : r1 = 0 := by omega
    simp only [eu, if_pos this]
  | n + 1, k + 1, r0, r1, s0, s1, h, h' => by
    simp only [eu]
    by_cases e : r1 = 0
    · rw [if_pos e, if_pos e]
    · have := Nat.mod_lt r0 (Nat.pos_of_ne_zero e)
      rw [if_neg e, if_neg e, eu_more n k _ _ _ _ (by omega) (by omega)]
def euE (r0 r1 : Nat) (s0 s1 : Int) : Nat × Int := eu r1 r0 r1 s0 s1
theorem euE_zero (r0 : Nat) (s0 s1 : Int) : euE r0 0 s0 s1 = (r0, s0) := rfl
theorem euE_step {r0 r1 : Nat} (h : r1 ≠ 0) (s0 s1 : Int) : euE r0 r1 s0 s1 = euE r1 (r0 % r1) s1 (s0 - ((r0 / r1 : Nat) : Int) * s1) := by
  unfold euE
  obtain ⟨k, rfl⟩ : ∃ k, r1 = k + 1 := ⟨r1 - 1, by omega⟩
  rw [eu, if_neg h]
  have : r0 % (k + 1) < k + 1 := Nat.mod_lt r0 (Nat.succ_pos k)
  exact eu_more _ _ _ _ _ _ (by omega) (Nat.le_refl _)
theorem eu_gcd : ∀ (n r0 r1 : Nat) (s0 s1 : Int), r1 ≤ n → (eu n r0 r1 s0 s1).1 = Nat.gcd r1 r0
  | 0, r0, r1, s0, s1, h => by
    have : r1 = 0 := by omega
    subst this
    simp [eu]
  | n + 1, r0, r1, s0, s1, h => by
    simp only [eu]
    by_cases e : r1 = 0
    · subst e
      simp
    · have := Nat.mod_lt r0 (Nat.pos_of_ne_zero e)
      rw [if_neg e, eu_gcd n _ _ _ _ (by omega), Nat.gcd_rec r1 r0]
theorem euE_gcd (r0 r1 : Nat) (s0 s1 : Int) : (euE r0 r1 s0 s1).1 = Nat.gcd r1 r0 := eu_gcd _ _ _ _ _ (Nat.le_refl _)
structure EuK (m a r0 r1 : Nat) (s0 s1 : Int) : Prop where
  lt : r1 < r0
  d0 : (m : Int) ∣ (a : Int) * s0 - r0
  d1 : (m : Int) ∣ (a : Int) * s1 - r1
  sg : (s0 ≤ 0 ∧ 0 ≤ s1 ∧ (r0 : Int) * s1 - (r1 : Int) * s0 = m) ∨ (0 ≤ s0 ∧ s1 ≤ 0 ∧ (r1 : Int) * s0 - (r0 : Int) * s1 = m)
  le : s0.natAbs ≤ s1.natAbs
  tw : r1 = 0 → 2 * s0.natAbs ≤ s1.natAbs
theorem EuK.start {m a : Nat} (h : a < m) : EuK m a m a 0 1 where
  lt := h
  d0 := ⟨-1, by omega⟩
  d1 := ⟨0, by omega⟩
  sg := .inl ⟨by omega, by omega, by omega⟩
  le := by decide
  tw := fun _ => by decide
theorem EuK.step {m a r0 r1 : Nat} {s0 s1 : Int} (k : EuK m a r0 r1 s0 s1) (h : r1 ≠ 0) : EuK m a r1 (r0 % r1) s1 (s0 - ((r0 / r1 : Nat) : Int) * s1) := by
  have hr := Nat.div_add_mod r0 r1
  have hlt := Nat.mod_lt r0 (Nat.pos_of_ne_zero h)
  have hq : 1 ≤ r0 / r1 := by
    rw [Nat.le_div_iff_mul_le (Nat.pos_of_ne_zero h)]
    have := k.lt
    omega
  have hq2 : r0 % r1 = 0 → 2 ≤ r0 / r1 := by
    intro e
    have h1 := k.lt
    rcases Nat.lt_or_ge (r0 / r1) 2 with g | g
    · have : r0 / r1 = 1 := by omega
      rw [this, e] at hr
      omega
    · exact g
  have e0 : (r0 : Int) = (r1 : Int) * ((r0 / r1 : Nat) : Int) + ((r0 % r1 : Nat) : Int) := by exact_mod_cast hr.symm
  generalize r0 / r1 = q at *
  generalize r0 % r1 = r2 at *
  have hab : s0.natAbs ≤ s1.natAbs := k.le
  have hsg := k.sg
  have hz : ∀ t : Nat, t ≤ q → ∃ z : Int, (q : Int) * s1 = z ∧ (0 ≤ s1 → (t : Int) * s1 ≤ z) ∧ (s1 ≤ 0 → z ≤ (t : Int) * s1) := by
    intro t ht
    refine ⟨_, rfl, fun g => Int.mul_le_mul_of_nonneg_right (by omega) g, fun g => ?_⟩
    have := Int.mul_le_mul_of_nonneg_right (show (t : Int) ≤ q by omega) (show 0 ≤ -s1 by omega)
    rw [Int.mul_neg, Int.mul_neg] at this
    omega
  refine ⟨hlt, k.d1, ?_, ?_, ?_, ?_⟩
  · obtain ⟨u, hu⟩ := k.d0
    obtain ⟨v, hv⟩ := k.d1
    refine ⟨u - q * v, ?_⟩
    rw [Int.mul_sub (m : Int), ← Int.mul_assoc (m : Int), Int.mul_comm (m : Int) q, Int.mul_assoc (q : Int), ← hu, ← hv]
    grind
  · rcases hsg with ⟨g1, g2, g3⟩ | ⟨g1, g2, g3⟩
    · refine .inr ⟨g2, ?_, by grind⟩
      obtain ⟨z, hz1, hz2, _⟩ := hz 1 hq
      have := hz2 g2
      omega
    · refine .inl ⟨g2, ?_, by grind⟩
      obtain ⟨z, hz1, _, hz3⟩ := hz 1 hq
      have := hz3 g2
      omega
  · obtain ⟨z, hz1, hz2, hz3⟩ := hz 1 hq
    rw [hz1]
    rcases hsg with ⟨g1, g2, g3⟩ | ⟨g1, g2, g3⟩
    · have := hz2 g2; omega
    · have := hz3 g2; omega
  · intro e
    obtain ⟨z, hz1, hz2, hz3⟩ := hz 2 (hq2 e)
    rw [hz1]
    rcases hsg with ⟨g1, g2, g3⟩ | ⟨g1, g2, g3⟩
    · have := hz2 g2; omega
    · have := hz3 g2; omega
theorem EuK.half {m a r0 : Nat} {s0 s1 : Int} (k : EuK m a r0 0 s0 s1) : 2 * s0.natAbs ≤ m := by
  have h1 := k.tw rfl
  have h2 := k.lt
  have h3 : r0 * s1.natAbs = m := by
    rcases k.sg with ⟨_, g, e⟩ | ⟨_, g, e⟩
    · obtain ⟨n, rfl⟩ := Int.eq_ofNat_of_zero_le g
      simp only [Int.natAbs_natCast]
      have : ((r0 * n : Nat) : Int) = m := by rw [Int.natCast_mul]; simpa using e
      exact_mod_cast this
    · obtain ⟨n, hn⟩ := Int.eq_ofNat_of_zero_le (show 0 ≤ -s1 by omega)
      obtain rfl : s1 = -(n : Int) := by omega
      simp only [Int.natAbs_neg, Int.natAbs_natCast]
      have : ((r0 * n : Nat) : Int) = m := by rw [Int.natCast_mul]; rw [Int.mul_neg] at e; omega
      exact_mod_cast this
  have : 1 * s1.natAbs ≤ r0 * s1.natAbs := Nat.mul_le_mul_right _ h2
  omega
structure Goes (r0 r1 R0 R1 : Nat) (a b c d : Int) : Prop where
  e0 : (R0 : Int) = a * r0 + b * r1
  e1 : (R1 : Int) = c * r0 + d * r1
  gE : ∀ s0 s1, euE r0 r1 s0 s1 = euE R0 R1 (a * s0 + b * s1) (c * s0 + d * s1)
  gK : ∀ (m x : Nat) (s0 s1 : Int), EuK m x r0 r1 s0 s1 → EuK m x R0 R1 (a * s0 + b * s1) (c * s0 + d * s1)
theorem Goes.id (r0 r1 : Nat) : Goes r0 r1 r0 r1 1 0 0 1 where
  e0 := by omega
  e1 := by omega
  gE s0 s1 := by rw [show (1 : Int) * s0 + 0 * s1 = s0 by omega, show (0 : Int) * s0 + 1 * s1 = s1 by omega]
  gK m x s0 s1 k := by rw [show (1 : Int) * s0 + 0 * s1 = s0 by omega, show (0 : Int) * s0 + 1 * s1 = s1 by omega]; exact k
theorem Goes.step {r0 r1 R0 R1 : Nat} {a b c d : Int} (g : Goes r0 r1 R0 R1 a b c d) (h : R1 ≠ 0) {q : Int} (hq : ((R0 / R1 : Nat) : Int) = q) : Goes r0 r1 R1 (R0 % R1) c d (a - q * c) (b - q * d) where
  e0 := g.e1
  e1 := by
    have h1 : (R0 : Int) = (R1 : Int) * ((R0 / R1 : Nat) : Int) + ((R0 % R1 : Nat) : Int) := by exact_mod_cast (Nat.div_add_mod R0 R1).symm
    have h2 := g.e0
    have h3 := g.e1
    rw [hq] at h1
    grind
  gE s0 s1 := by
    rw [g.gE, euE_step h, hq]
    congr 1
    grind
  gK m x s0 s1 k := by
    have := (g.gK m x s0 s1 k).step h
    rw [hq] at this
    rw [show (a - q * c) * s0 + (b - q * d) * s1 = a * s0 + b * s1 - q * (c * s0 + d * s1) by grind]
    exact this
def fs : Nat → Int → Int → Int → Int → Int → Int → Int × Int × Int × Int
  | 0, _, _, a, b, c, d => (a, b, c, d)
  | n + 1, x, y, a, b, c, d => if y + c = 0 ∨ y + d = 0 then (a, b, c, d) else if (x + a) / (y + c) ≠ (x + b) / (y + d) then (a, b, c, d) else fs n y (x - (x + a) / (y + c) * y) c d (a - (x + a) / (y + c) * c) (b - (x + a) / (y + c) * d)
theorem low_side {y c d e0 e1 B t : Int} (hs : (c ≤ 0 ∧ 0 ≤ d) ∨ (0 ≤ c ∧ d ≤ 0)) (h0 : 0 ≤ e0) (h0' : e0 ≤ B) (h1 : 0 ≤ e1) (h1' : e1 ≤ B) (hc : t ≤ y + c) (hd : t ≤ y + d) : t * B ≤ y * B + c * e0 + d * e1 := by
  rcases hs with ⟨g1, g2⟩ | ⟨g1, g2⟩
  · have p1 := Int.mul_le_mul_of_nonpos_left g1 h0'
    have p2 := Int.mul_nonneg g2 h1
    have p3 := Int.mul_le_mul_of_nonneg_right hc (show 0 ≤ B by omega)
    rw [Int.add_mul] at p3
    omega
  · have p1 := Int.mul_le_mul_of_nonpos_left g2 h1'
    have p2 := Int.mul_nonneg g1 h0
    have p3 := Int.mul_le_mul_of_nonneg_right hd (show 0 ≤ B by omega)
    rw [Int.add_mul] at p3
    omega
theorem high_side {y c d e0 e1 B t : Int} (hs : (c ≤ 0 ∧ 0 ≤ d) ∨ (0 ≤ c ∧ d ≤ 0)) (h0 : 0 ≤ e0) (h0' : e0 ≤ B) (h1 : 0 ≤ e1) (h1' : e1 ≤ B) (hc : y + c ≤ t) (hd : y + d ≤ t) : y * B + c * e0 + d * e1 ≤ t * B := by
  have := low_side (y := -y) (c := -c) (d := -d) (t := -t) (by omega) h0 h0' h1 h1' (by omega) (by omega)
  rw [Int.neg_mul, Int.neg_mul, Int.neg_mul, Int.neg_mul] at this
  omega
theorem nn_of_mul {x n : Int} (hn : 0 < n) (h : 0 ≤ x * n) : 0 ≤ x := by
  rcases Int.lt_or_le x 0 with g | g
  · have := Int.mul_neg_of_neg_of_pos g hn
    omega
  · exact g
theorem pos_of_mul' {x n : Int} (hn : 0 < n) (h : 0 < x * n) : 0 < x := by
  rcases Int.lt_or_le 0 x with g | g
  · exact g
  · have := Int.mul_nonpos_of_nonpos_of_nonneg g (Int.le_of_lt hn)
    omega
theorem ring1 {r0 r1 N x0 y0 B e0 e1 c d : Int} (h0 : r0 * N = x0 * B + e0) (h1 : r1 * N = y0 * B + e1) : (c * r0 + d * r1) * N = (c * x0 + d * y0) * B + c * e0 + d * e1 := by grind
theorem ring2 {r0 r1 N x0 y0 B e0 e1 a b c d q : Int} (h0 : r0 * N = x0 * B + e0) (h1 : r1 * N = y0 * B + e1) : (a * r0 + b * r1 - q * (c * r0 + d * r1)) * N = (a * x0 + b * y0 - q * (c * x0 + d * y0)) * B + (a - q * c) * e0 + (b - q * d) * e1 := by grind
theorem ring3 {r0 r1 N x0 y0 B e0 e1 a b c d q : Int} (h0 : r0 * N = x0 * B + e0) (h1 : r1 * N = y0 * B + e1) : (a * r0 + b * r1 - q * (c * r0 + d * r1) - (c * r0 + d * r1)) * N = (a * x0 + b * y0 - q * (c * x0 + d * y0) - (c * x0 + d * y0)) * B + (a - q * c - c) * e0 + (b - q * d - d) * e1 := by grind
theorem ring4 {x y a c q u : Int} (h : (y + c) * q + u = x + a) : x - q * y + (a - q * c) = u := by grind
theorem ring5 {x0 y0 x y a b c d q : Int} (ex : x = a * x0 + b * y0) (ey : y = c * x0 + d * y0) : (c * (b - q * d) - d * (a - q * c)) * (x0 + 1) = (b - q * d) * (y + c) - d * (x - q * y + (a - q * c)) := by subst ex ey; grind
theorem ring6 {x0 y0 x y a b c d q : Int} (ex : x = a * x0 + b * y0) (ey : y = c * x0 + d * y0) : (c * (b - q * d) - d * (a - q * c)) * y0 = c * (x - q * y + (a - q * c)) - (a - q * c) * (y + c) := by subst ex ey; grind
theorem ring7 {a b c d q : Int} : c * (b - q * d) - d * (a - q * c) = -(a * d - b * c) := by grind
theorem ring8 {x0 y0 x y a b c d q : Int} (ex : x = a * x0 + b * y0) (ey : y = c * x0 + d * y0) : x - q * y = (a - q * c) * x0 + (b - q * d) * y0 := by subst ex ey; grind
structure FsK (r0 r1 : Nat) (N B x0 y0 e0 e1 W : Int) (x y a b c d : Int) : Prop where
  g : ∃ R0 R1 : Nat, Goes r0 r1 R0 R1 a b c d ∧ (R1 < r1 ∨ R1 = r1 ∧ b = 0)
  ex : x = a * x0 + b * y0
  ey : y = c * x0 + d * y0
  p1 : 1 ≤ x + a ∧ x + a ≤ W
  p2 : 1 ≤ x + b ∧ x + b ≤ W
  p3 : 0 ≤ y + c ∧ y + c ≤ W
  p4 : 0 ≤ y + d ∧ y + d ≤ W
  sg : (0 ≤ a ∧ b ≤ 0 ∧ c ≤ 0 ∧ 0 ≤ d ∧ a * d - b * c = 1) ∨ (a ≤ 0 ∧ 0 ≤ b ∧ 0 ≤ c ∧ d ≤ 0 ∧ a * d - b * c = -1)
  ba : a.natAbs ≤ W.toNat
  bb : b.natAbs ≤ W.toNat
  bc : c.natAbs ≤ W.toNat
  bd : d.natAbs ≤ W.toNat
structure FsC (r0 r1 : Nat) (N B x0 y0 e0 e1 W : Int) : Prop where
  N0 : 0 < N
  h0 : (r0 : Int) * N = x0 * B + e0
  h1 : (r1 : Int) * N = y0 * B + e1
  l0 : 0 ≤ e0 ∧ e0 < B
  l1 : 0 ≤ e1 ∧ e1 < B
  x1 : 1 ≤ x0 ∧ x0 < W
  y1 : 0 ≤ y0 ∧ y0 < W
theorem FsK.start {r0 r1 : Nat} {N B x0 y0 e0 e1 W : Int} (k : FsC r0 r1 N B x0 y0 e0 e1 W) : FsK r0 r1 N B x0 y0 e0 e1 W x0 y0 1 0 0 1 := by
  obtain ⟨_, _, _, _, _, x1, y1⟩ := k
  refine ⟨⟨r0, r1, Goes.id _ _, .inr ⟨rfl, rfl⟩⟩, by omega, by omega, by omega, by omega, by omega, by omega, .inl (by omega), ?_, ?_, ?_, ?_⟩ <;> omega
theorem sg_next {a b c d q : Int} (hq : 0 ≤ q) (sg : (0 ≤ a ∧ b ≤ 0 ∧ c ≤ 0 ∧ 0 ≤ d ∧ a * d - b * c = 1) ∨ (a ≤ 0 ∧ 0 ≤ b ∧ 0 ≤ c ∧ d ≤ 0 ∧ a * d - b * c = -1)) :
    (0 ≤ c ∧ d ≤ 0 ∧ a - q * c ≤ 0 ∧ 0 ≤ b - q * d ∧ c * (b - q * d) - d * (a - q * c) = 1) ∨ (c ≤ 0 ∧ 0 ≤ d ∧ 0 ≤ a - q * c ∧ b - q * d ≤ 0 ∧ c * (b - q * d) - d * (a - q * c) = -1) := by
  have sgc : (0 ≤ c → 0 ≤ q * c) ∧ (c ≤ 0 → q * c ≤ 0) := ⟨fun h => Int.mul_nonneg hq h, fun h => Int.mul_nonpos_of_nonneg_of_nonpos hq h⟩
  have sgd : (0 ≤ d → 0 ≤ q * d) ∧ (d ≤ 0 → q * d ≤ 0) := ⟨fun h => Int.mul_nonneg hq h, fun h => Int.mul_nonpos_of_nonneg_of_nonpos hq h⟩
  rw [ring7]
  generalize a * d - b * c = D at *
  generalize q * c = Z at *
  generalize q * d = Y at *
  rcases sg with ⟨i1, i2, i3, i4, i5⟩ | ⟨i1, i2, i3, i4, i5⟩
  · refine .inr ⟨i3, i4, ?_, ?_, ?_⟩ <;> omega
  · refine .inl ⟨i3, i4, ?_, ?_, ?_⟩ <;> omega
theorem quot_told {R0 R1 : Nat} {N B e0 e1 x' y c d c' d' q : Int} (N0 : 0 < N) (B0 : 0 < B) (l0 : 0 ≤ e0 ∧ e0 < B) (l1 : 0 ≤ e1 ∧ e1 < B)
    (s1 : (R1 : Int) * N = y * B + c * e0 + d * e1) (s2 : ((R0 : Int) - q * R1) * N = x' * B + c' * e0 + d' * e1) (s3 : ((R0 : Int) - q * R1 - R1) * N = (x' - y) * B + (c' - c) * e0 + (d' - d) * e1)
    (sg : (0 ≤ c ∧ d ≤ 0 ∧ c' ≤ 0 ∧ 0 ≤ d') ∨ (c ≤ 0 ∧ 0 ≤ d ∧ 0 ≤ c' ∧ d' ≤ 0)) (p1 : 1 ≤ y + c) (p2 : 1 ≤ y + d) (p3 : 0 ≤ x' + c') (p4 : 0 ≤ x' + d') (p5 : x' + c' < y + c) (p6 : x' + d' < y + d) :
    R1 ≠ 0 ∧ ((R0 / R1 : Nat) : Int) = q := by
  have g1 : (c ≤ 0 ∧ 0 ≤ d) ∨ (0 ≤ c ∧ d ≤ 0) := by rcases sg with h | h <;> omega
  have g2 : (c' ≤ 0 ∧ 0 ≤ d') ∨ (0 ≤ c' ∧ d' ≤ 0) := by rcases sg with h | h <;> omega
  have g3 : (c' - c ≤ 0 ∧ 0 ≤ d' - d) ∨ (0 ≤ c' - c ∧ d' - d ≤ 0) := by rcases sg with h | h <;> omega
  have z1 : 0 < (R1 : Int) := by
    refine pos_of_mul' N0 ?_
    rw [s1]
    have := low_side (y := y) (c := c) (d := d) (t := 1) g1 l0.1 (Int.le_of_lt l0.2) l1.1 (Int.le_of_lt l1.2) p1 p2
    rw [Int.one_mul] at this
    exact Int.lt_of_lt_of_le B0 this
  have z2 : 0 ≤ (R0 : Int) - q * R1 := by
    refine nn_of_mul N0 ?_
    rw [s2]
    have := low_side (y := x') (c := c') (d := d') (t := 0) g2 l0.1 (Int.le_of_lt l0.2) l1.1 (Int.le_of_lt l1.2) p3 p4
    rwa [Int.zero_mul] at this
  have z3 : (R0 : Int) - q * R1 - R1 < 0 := by
    have : 0 < -((R0 : Int) - q * R1 - R1) := by
      refine pos_of_mul' N0 ?_
      rw [Int.neg_mul, s3]
      have := high_side (y := x' - y) (c := c' - c) (d := d' - d) (t := -1) g3 l0.1 (Int.le_of_lt l0.2) l1.1 (Int.le_of_lt l1.2) (by omega) (by omega)
      rw [Int.neg_mul, Int.one_mul] at this
      omega
    omega
  refine ⟨by omega, ?_⟩
  rw [Int.natCast_ediv]
  refine Int.le_antisymm ?_ (Int.le_ediv_of_mul_le z1 (by omega))
  have := Int.ediv_lt_of_lt_mul z1 (show (R0 : Int) < (q + 1) * R1 by rw [Int.add_mul]; omega)
  omega
theorem ent_le {w u c d c' d' y0 x0 W : Int} (hw : 1 ≤ w) (hu : 0 ≤ u) (x1 : x0 + 1 ≤ W) (y1 : y0 ≤ W)
    (sg : (0 ≤ c ∧ d ≤ 0 ∧ c' ≤ 0 ∧ 0 ≤ d' ∧ c * d' - d * c' = 1) ∨ (c ≤ 0 ∧ 0 ≤ d ∧ 0 ≤ c' ∧ d' ≤ 0 ∧ c * d' - d * c' = -1))
    (f1 : (c * d' - d * c') * (x0 + 1) = d' * w - d * u) (f2 : (c * d' - d * c') * y0 = c * u - c' * w) : c'.natAbs ≤ W.toNat ∧ d'.natAbs ≤ W.toNat := by
  have big : ∀ A : Int, (0 ≤ A → A ≤ A * w) ∧ (A ≤ 0 → A * w ≤ A) := by
    intro A
    refine ⟨fun h => ?_, fun h => ?_⟩
    · have := Int.mul_le_mul_of_nonneg_left hw h
      omega
    · have := Int.mul_le_mul_of_nonpos_left h hw
      omega
  have bD := big d'
  have bC := big c'
  have sgu : ∀ A : Int, (0 ≤ A → 0 ≤ A * u) ∧ (A ≤ 0 → A * u ≤ 0) := fun A => ⟨fun h => Int.mul_nonneg h hu, fun h => Int.mul_nonpos_of_nonpos_of_nonneg h hu⟩
  have uD := sgu d
  have uC := sgu c
  clear big sgu
  rcases sg with ⟨i1, i2, i3, i4, i5⟩ | ⟨i1, i2, i3, i4, i5⟩
  · rw [i5] at f1 f2
    have a1 := uC.1 i1
    have a2 := bC.2 i3
    have a3 := uD.2 i2
    have a4 := bD.1 i4
    clear uD uC bD bC
    generalize c' * w = z1 at *
    generalize d' * w = z2 at *
    generalize c * u = z3 at *
    generalize d * u = z4 at *
    omega
  · rw [i5] at f1 f2
    have a1 := uC.2 i1
    have a2 := bC.1 i3
    have a3 := uD.1 i2
    have a4 := bD.2 i4
    clear uD uC bD bC
    generalize c' * w = z1 at *
    generalize d' * w = z2 at *
    generalize c * u = z3 at *
    generalize d * u = z4 at *
    omega
theorem FsK.step {r0 r1 : Nat} {N B x0 y0 e0 e1 W x y a b c d q : Int} (k : FsC r0 r1 N B x0 y0 e0 e1 W) (f : FsK r0 r1 N B x0 y0 e0 e1 W x y a b c d) (hc : y + c ≠ 0) (hd : y + d ≠ 0) (q1 : (x + a) / (y + c) = q) (q2 : (x + b) / (y + d) = q) :
    FsK r0 r1 N B x0 y0 e0 e1 W y (x - q * y) c d (a - q * c) (b - q * d) ∧ x - q * y + (a - q * c) < y + c := by
  obtain ⟨⟨R0, R1, g, hg⟩, ex, ey, p1, p2, p3, p4, sg, ba, bb, bc, bd⟩ := f
  obtain ⟨N0, h0, h1, l0, l1, x1, y1⟩ := k
  have hq : 0 ≤ q := by rw [← q1]; exact Int.ediv_nonneg (Int.le_trans (by decide) p1.1) p3.1
  have hw : 1 ≤ y + c := by clear sg; omega
  have hw' : 1 ≤ y + d := by clear sg; omega
  have u1 : (y + c) * q + (x + a) % (y + c) = x + a := by rw [← q1]; exact Int.mul_ediv_add_emod _ _
  have u2 : (y + d) * q + (x + b) % (y + d) = x + b := by rw [← q2]; exact Int.mul_ediv_add_emod _ _
  have v1 := Int.emod_nonneg (x + a) hc
  have v2 := Int.emod_nonneg (x + b) hd
  have w1 := Int.emod_lt_of_pos (x + a) hw
  have w2 := Int.emod_lt_of_pos (x + b) hw'
  have t1 : x - q * y + (a - q * c) = (x + a) % (y + c) := ring4 u1
  have t2 : x - q * y + (b - q * d) = (x + b) % (y + d) := ring4 u2
  rw [← t1] at v1 w1
  rw [← t2] at v2 w2
  have E0 := g.e0
  have E1 := g.e1
  have s1 : (R1 : Int) * N = y * B + c * e0 + d * e1 := by rw [E1, ey]; exact ring1 h0 h1
  have s2 : ((R0 : Int) - q * R1) * N = (x - q * y) * B + (a - q * c) * e0 + (b - q * d) * e1 := by rw [E0, E1, ex, ey]; exact ring2 h0 h1
  have s3 : ((R0 : Int) - q * R1 - R1) * N = (x - q * y - y) * B + (a - q * c - c) * e0 + (b - q * d - d) * e1 := by rw [E0, E1, ex, ey]; exact ring3 h0 h1
  have nsg := sg_next hq sg
  have nsg' : (0 ≤ c ∧ d ≤ 0 ∧ a - q * c ≤ 0 ∧ 0 ≤ b - q * d) ∨ (c ≤ 0 ∧ 0 ≤ d ∧ 0 ≤ a - q * c ∧ b - q * d ≤ 0) := nsg.imp (fun h => ⟨h.1, h.2.1, h.2.2.1, h.2.2.2.1⟩) (fun h => ⟨h.1, h.2.1, h.2.2.1, h.2.2.2.1⟩)
  obtain ⟨hR, hQ⟩ := quot_told N0 (Int.lt_of_le_of_lt l0.1 l0.2) l0 l1 s1 s2 s3 nsg' hw hw' v1 v2 w1 w2
  have hmod := Nat.mod_lt R0 (Nat.pos_of_ne_zero hR)
  obtain ⟨b1, b2⟩ := ent_le hw v1 (show x0 + 1 ≤ W by omega) (show y0 ≤ W by omega) nsg (ring5 ex ey) (ring6 ex ey)
  refine ⟨⟨⟨R1, R0 % R1, g.step hR hQ, .inl ?_⟩, ey, ring8 ex ey, ⟨hw, p3.2⟩, ⟨hw', p4.2⟩, ⟨v1, Int.le_of_lt (Int.lt_of_lt_of_le w1 p3.2)⟩, ⟨v2, Int.le_of_lt (Int.lt_of_lt_of_le w2 p4.2)⟩, ?_, bc, bd, b1, b2⟩, w1⟩
  · rcases hg with h | h
    · exact Nat.lt_trans hmod h
    · rw [← h.1]; exact hmod
  · rcases nsg with h | h
    · exact .inl h
    · exact .inr h
theorem FsK.run {r0 r1 : Nat} {N B x0 y0 e0 e1 W : Int} (k : FsC r0 r1 N B x0 y0 e0 e1 W) : ∀ (n : Nat) (x y a b c d : Int), FsK r0 r1 N B x0 y0 e0 e1 W x y a b c d →
    ∃ x' y' : Int, FsK r0 r1 N B x0 y0 e0 e1 W x' y' (fs n x y a b c d).1 (fs n x y a b c d).2.1 (fs n x y a b c d).2.2.1 (fs n x y a b c d).2.2.2
  | 0, x, y, a, b, c, d, f => ⟨x, y, f⟩
  | n + 1, x, y, a, b, c, d, f => by
    simp only [fs]
    by_cases e1 : y + c = 0 ∨ y + d = 0
    · rw [if_pos e1]; exact ⟨x, y, f⟩
    · rw [if_neg e1]
      by_cases e2 : (x + a) / (y + c) ≠ (x + b) / (y + d)
      · rw [if_pos e2]; exact ⟨x, y, f⟩
      · rw [if_neg e2]
        exact FsK.run k n _ _ _ _ _ _ (f.step k (by omega) (by omega) rfl (by omega)).1
end Go.Sx
end
