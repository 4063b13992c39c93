/-
  Texts: V2, V5, Wsp2, Wsp3, V7, V6, V4, P1, P2, P3, P4, P5, P6, P7, C1, C2, P9, P12.
-/
import Derived.Test.YtjpddnjgbgpegaaM1
import Derived.Test.YtjpddnjgbgpegaaM2
import Derived.Test.YtjpddnjgbgpegaaM3
import Derived.Test.YtjpddnjgbgpegaaM4
import Derived.Test.YtjpddnjgbgpegaaM5
import Derived.Test.YtjpddnjgbgpegaaM6
import Derived.Test.YtjpddnjgbgpegaaM7
import Derived.Test.YtjpddnjgbgpegaaM8
import Derived.Lib.Mul64
section
namespace Go.Proofs.Ytjpddnjgbgpegaa
open Go.Sx
set_option maxRecDepth 100000
def cxTimes2 : Cx := [(42, specWW mul64G), (43, specAdd64)]
def cxMul2 : Cx := [(42, specWW mul64G), (43, specAdd64)]
theorem vc_Mul64 (a b : Int) :
    Owes Try.prog Cx.none [] 100 Try.f42 [sI .u64 a, sI .u64 b] (mul64G a b) =
    (let x1 : Int := Go.IntKind.u64.wrap (↑(BitVec.ofInt 64 b &&& BitVec.ofInt 64 (4294967295 : Int)).toNat : Int); let x2 : Int := Go.IntKind.u64.wrap (Go.IntKind.u64.wrap (a.fdiv (4294967296 : Int) * x1) + (Go.IntKind.u64.wrap (Go.IntKind.u64.wrap (↑(BitVec.ofInt 64 a &&& BitVec.ofInt 64 (4294967295 : Int)).toNat : Int) * x1)).fdiv (4294967296 : Int)); let x3 : Int := a * b; Go.IntKind.u64.wrap (Go.IntKind.u64.wrap (Go.IntKind.u64.wrap (a.fdiv (4294967296 : Int) * b.fdiv (4294967296 : Int)) + x2.fdiv (4294967296 : Int)) + (Go.IntKind.u64.wrap (Go.IntKind.u64.wrap (↑(BitVec.ofInt 64 x2 &&& BitVec.ofInt 64 (4294967295 : Int)).toNat : Int) + Go.IntKind.u64.wrap (Go.IntKind.u64.wrap (↑(BitVec.ofInt 64 a &&& BitVec.ofInt 64 (4294967295 : Int)).toNat : Int) * b.fdiv (4294967296 : Int)))).fdiv (4294967296 : Int)) = x3 / (18446744073709551616 : Int) ∧ Go.IntKind.u64.wrap x3 = x3 % (18446744073709551616 : Int)) := by kernel_rfl
theorem vc_times (a : Nat) (n : Int) :
    Owes Try.prog cxTimes2 [] 100 Try.f45 [sU a, sI .u64 n] (timesG a n) =
    (let x1 : Int := limb a 0 * n; let x2 : Int := x1 % (18446744073709551616 : Int); let x3 : Int := limb a 1 * n; let x4 : Int := x3 % (18446744073709551616 : Int); let x5 : Int := x2 + (0 : Int) + (0 : Int); let x6 : Int := Go.IntKind.u64.wrap (x1 / (18446744073709551616 : Int) + x5 / (18446744073709551616 : Int)); let x7 : Int := limb a 2 * n; let x8 : Int := x7 % (18446744073709551616 : Int); let x9 : Int := x4 + x6 + (0 : Int); let x10 : Int := Go.IntKind.u64.wrap (x3 / (18446744073709551616 : Int) + x9 / (18446744073709551616 : Int)); let x11 : Int := limb a 3 * n; let x12 : Int := x11 % (18446744073709551616 : Int); let x13 : Int := x8 + x10 + (0 : Int); let x14 : Int := Go.IntKind.u64.wrap (x7 / (18446744073709551616 : Int) + x13 / (18446744073709551616 : Int)); let x15 : Int := x5 % (18446744073709551616 : Int); let x16 : Int := x9 % (18446744073709551616 : Int); let x17 : Int := x13 % (18446744073709551616 : Int); let x18 : Int := x12 + x14 + (0 : Int); let x19 : Int := x18 % (18446744073709551616 : Int); ((0 : Int) ≤ limb a 0 ∧ limb a 0 < (18446744073709551616 : Int)) ∧ ((0 : Int) ≤ n ∧ n < (18446744073709551616 : Int)) ∧ (0 : Int) ≤ x2 ∧ (0 : Int) ≤ (0 : Int) ∧ ((0 : Int) ≤ (0 : Int) ∧ (0 : Int) ≤ (1 : Int)) ∧ ((0 : Int) ≤ limb a 1 ∧ limb a 1 < (18446744073709551616 : Int)) ∧ ((0 : Int) ≤ n ∧ n < (18446744073709551616 : Int)) ∧ (0 : Int) ≤ x4 ∧ (0 : Int) ≤ x6 ∧ ((0 : Int) ≤ (0 : Int) ∧ (0 : Int) ≤ (1 : Int)) ∧ ((0 : Int) ≤ limb a 2 ∧ limb a 2 < (18446744073709551616 : Int)) ∧ ((0 : Int) ≤ n ∧ n < (18446744073709551616 : Int)) ∧ (0 : Int) ≤ x8 ∧ (0 : Int) ≤ x10 ∧ ((0 : Int) ≤ (0 : Int) ∧ (0 : Int) ≤ (1 : Int)) ∧ ((0 : Int) ≤ limb a 3 ∧ limb a 3 < (18446744073709551616 : Int)) ∧ ((0 : Int) ≤ n ∧ n < (18446744073709551616 : Int)) ∧ (0 : Int) ≤ x12 ∧ (0 : Int) ≤ x14 ∧ ((0 : Int) ≤ (0 : Int) ∧ (0 : Int) ≤ (1 : Int)) ∧ (((0 : Int) ≤ x15 ∧ x15 < (18446744073709551616 : Int)) ∧ ((0 : Int) ≤ x16 ∧ x16 < (18446744073709551616 : Int)) ∧ ((0 : Int) ≤ x17 ∧ x17 < (18446744073709551616 : Int)) ∧ ((0 : Int) ≤ x19 ∧ x19 < (18446744073709551616 : Int)) ∧ join x15 x16 x17 x19 % M256 = a * n.toNat % M256 ∧ True) ∧ Go.IntKind.u64.wrap (x11 / (18446744073709551616 : Int) + x18 / (18446744073709551616 : Int)) = (↑(a % M256 * n.toNat / M256) : Int)) := by kernel_rfl
theorem vc_Mul (a b : Nat) :
    Owes Try.prog cxMul2 [] 100 Try.f27 [sU a, sU b] (mulG a b) =
    (let x1 : Int := limb a 0 * limb b 0; let x2 : Int := x1 % (18446744073709551616 : Int); let x3 : Int := x2 + (0 : Int) + (0 : Int); let x4 : Int := x3 % (18446744073709551616 : Int); let x5 : Int := limb a 0 * limb b 1; let x6 : Int := x5 % (18446744073709551616 : Int); let x7 : Int := (0 : Int) + x4 + (0 : Int); let x8 : Int := Go.IntKind.u64.wrap (Go.IntKind.u64.wrap (x1 / (18446744073709551616 : Int) + x3 / (18446744073709551616 : Int)) + x7 / (18446744073709551616 : Int)); let x9 : Int := x6 + x8 + (0 : Int); let x10 : Int := x9 % (18446744073709551616 : Int); let x11 : Int := limb a 0 * limb b 2; let x12 : Int := x11 % (18446744073709551616 : Int); let x13 : Int := (0 : Int) + x10 + (0 : Int); let x14 : Int := Go.IntKind.u64.wrap (Go.IntKind.u64.wrap (x5 / (18446744073709551616 : Int) + x9 / (18446744073709551616 : Int)) + x13 / (18446744073709551616 : Int)); let x15 : Int := x12 + x14 + (0 : Int); let x16 : Int := x15 % (18446744073709551616 : Int); let x17 : Int := limb a 0 * limb b 3; let x18 : Int := x17 % (18446744073709551616 : Int); let x19 : Int := (0 : Int) + x16 + (0 : Int); let x20 : Int := Go.IntKind.u64.wrap (Go.IntKind.u64.wrap (x11 / (18446744073709551616 : Int) + x15 / (18446744073709551616 : Int)) + x19 / (18446744073709551616 : Int)); let x21 : Int := x18 + x20 + (0 : Int); let x22 : Int := x21 % (18446744073709551616 : Int); let x23 : Int := limb a 1 * limb b 0; let x24 : Int := x23 % (18446744073709551616 : Int); let x25 : Int := x13 % (18446744073709551616 : Int); let x26 : Int := x24 + (0 : Int) + (0 : Int); let x27 : Int := x26 % (18446744073709551616 : Int); let x28 : Int := limb a 1 * limb b 1; let x29 : Int := x28 % (18446744073709551616 : Int); let x30 : Int := x25 + x27 + (0 : Int); let x31 : Int := Go.IntKind.u64.wrap (Go.IntKind.u64.wrap (x23 / (18446744073709551616 : Int) + x26 / (18446744073709551616 : Int)) + x30 / (18446744073709551616 : Int)); let x32 : Int := x19 % (18446744073709551616 : Int); let x33 : Int := x29 + x31 + (0 : Int); let x34 : Int := x33 % (18446744073709551616 : Int); let x35 : Int := limb a 1 * limb b 2; let x36 : Int := x35 % (18446744073709551616 : Int); let x37 : Int := x32 + x34 + (0 : Int); let x38 : Int := Go.IntKind.u64.wrap (Go.IntKind.u64.wrap (x28 / (18446744073709551616 : Int) + x33 / (18446744073709551616 : Int)) + x37 / (18446744073709551616 : Int)); let x39 : Int := (0 : Int) + x22 + (0 : Int); let x40 : Int := x39 % (18446744073709551616 : Int); let x41 : Int := x36 + x38 + (0 : Int); let x42 : Int := x41 % (18446744073709551616 : Int); let x43 : Int := limb a 1 * limb b 3; let x44 : Int := x43 % (18446744073709551616 : Int); let x45 : Int := x40 + x42 + (0 : Int); let x46 : Int := Go.IntKind.u64.wrap (Go.IntKind.u64.wrap (x35 / (18446744073709551616 : Int) + x41 / (18446744073709551616 : Int)) + x45 / (18446744073709551616 : Int)); let x47 : Int := Go.IntKind.u64.wrap (Go.IntKind.u64.wrap (x17 / (18446744073709551616 : Int) + x21 / (18446744073709551616 : Int)) + x39 / (18446744073709551616 : Int)); let x48 : Int := x44 + x46 + (0 : Int); let x49 : Int := x48 % (18446744073709551616 : Int); let x50 : Int := limb a 2 * limb b 0; let x51 : Int := x50 % (18446744073709551616 : Int); let x52 : Int := x37 % (18446744073709551616 : Int); let x53 : Int := x51 + (0 : Int) + (0 : Int); let x54 : Int := x53 % (18446744073709551616 : Int); let x55 : Int := limb a 2 * limb b 1; let x56 : Int := x55 % (18446744073709551616 : Int); let x57 : Int := x52 + x54 + (0 : Int); let x58 : Int := Go.IntKind.u64.wrap (Go.IntKind.u64.wrap (x50 / (18446744073709551616 : Int) + x53 / (18446744073709551616 : Int)) + x57 / (18446744073709551616 : Int)); let x59 : Int := x45 % (18446744073709551616 : Int); let x60 : Int := x56 + x58 + (0 : Int); let x61 : Int := x60 % (18446744073709551616 : Int); let x62 : Int := limb a 2 * limb b 2; let x63 : Int := x62 % (18446744073709551616 : Int); let x64 : Int := x59 + x61 + (0 : Int); let x65 : Int := Go.IntKind.u64.wrap (Go.IntKind.u64.wrap (x55 / (18446744073709551616 : Int) + x60 / (18446744073709551616 : Int)) + x64 / (18446744073709551616 : Int)); let x66 : Int := x47 + x49 + (0 : Int); let x67 : Int := x66 % (18446744073709551616 : Int); let x68 : Int := x63 + x65 + (0 : Int); let x69 : Int := x68 % (18446744073709551616 : Int); let x70 : Int := limb a 2 * limb b 3; let x71 : Int := x70 % (18446744073709551616 : Int); let x72 : Int := x67 + x69 + (0 : Int); let x73 : Int := Go.IntKind.u64.wrap (Go.IntKind.u64.wrap (x62 / (18446744073709551616 : Int) + x68 / (18446744073709551616 : Int)) + x72 / (18446744073709551616 : Int)); let x74 : Int := Go.IntKind.u64.wrap (Go.IntKind.u64.wrap (x43 / (18446744073709551616 : Int) + x48 / (18446744073709551616 : Int)) + x66 / (18446744073709551616 : Int)); let x75 : Int := x71 + x73 + (0 : Int); let x76 : Int := x75 % (18446744073709551616 : Int); let x77 : Int := limb a 3 * limb b 0; let x78 : Int := x77 % (18446744073709551616 : Int); let x79 : Int := x64 % (18446744073709551616 : Int); let x80 : Int := x78 + (0 : Int) + (0 : Int); let x81 : Int := x80 % (18446744073709551616 : Int); let x82 : Int := limb a 3 * limb b 1; let x83 : Int := x82 % (18446744073709551616 : Int); let x84 : Int := x79 + x81 + (0 : Int); let x85 : Int := Go.IntKind.u64.wrap (Go.IntKind.u64.wrap (x77 / (18446744073709551616 : Int) + x80 / (18446744073709551616 : Int)) + x84 / (18446744073709551616 : Int)); let x86 : Int := x72 % (18446744073709551616 : Int); let x87 : Int := x83 + x85 + (0 : Int); let x88 : Int := x87 % (18446744073709551616 : Int); let x89 : Int := limb a 3 * limb b 2; let x90 : Int := x89 % (18446744073709551616 : Int); let x91 : Int := x86 + x88 + (0 : Int); let x92 : Int := Go.IntKind.u64.wrap (Go.IntKind.u64.wrap (x82 / (18446744073709551616 : Int) + x87 / (18446744073709551616 : Int)) + x91 / (18446744073709551616 : Int)); let x93 : Int := x74 + x76 + (0 : Int); let x94 : Int := x93 % (18446744073709551616 : Int); let x95 : Int := x90 + x92 + (0 : Int); let x96 : Int := x95 % (18446744073709551616 : Int); let x97 : Int := limb a 3 * limb b 3; let x98 : Int := x97 % (18446744073709551616 : Int); let x99 : Int := x94 + x96 + (0 : Int); let x100 : Int := Go.IntKind.u64.wrap (Go.IntKind.u64.wrap (x89 / (18446744073709551616 : Int) + x95 / (18446744073709551616 : Int)) + x99 / (18446744073709551616 : Int)); let x101 : Int := Go.IntKind.u64.wrap (Go.IntKind.u64.wrap (x70 / (18446744073709551616 : Int) + x75 / (18446744073709551616 : Int)) + x93 / (18446744073709551616 : Int)); let x102 : Int := x98 + x100 + (0 : Int); let x103 : Int := x102 % (18446744073709551616 : Int); let x104 : Int := x7 % (18446744073709551616 : Int); let x105 : Int := x30 % (18446744073709551616 : Int); let x106 : Int := x57 % (18446744073709551616 : Int); let x107 : Int := x84 % (18446744073709551616 : Int); let x108 : Int := x91 % (18446744073709551616 : Int); let x109 : Int := x99 % (18446744073709551616 : Int); let x110 : Int := x101 + x103 + (0 : Int); let x111 : Int := x110 % (18446744073709551616 : Int); let x112 : Int := Go.IntKind.u64.wrap (Go.IntKind.u64.wrap (x97 / (18446744073709551616 : Int) + x102 / (18446744073709551616 : Int)) + x110 / (18446744073709551616 : Int)); ((0 : Int) ≤ limb a 0 ∧ limb a 0 < (18446744073709551616 : Int)) ∧ ((0 : Int) ≤ limb b 0 ∧ limb b 0 < (18446744073709551616 : Int)) ∧ (0 : Int) ≤ x2 ∧ (0 : Int) ≤ (0 : Int) ∧ ((0 : Int) ≤ (0 : Int) ∧ (0 : Int) ≤ (1 : Int)) ∧ (0 : Int) ≤ (0 : Int) ∧ (0 : Int) ≤ x4 ∧ ((0 : Int) ≤ (0 : Int) ∧ (0 : Int) ≤ (1 : Int)) ∧ ((0 : Int) ≤ limb a 0 ∧ limb a 0 < (18446744073709551616 : Int)) ∧ ((0 : Int) ≤ limb b 1 ∧ limb b 1 < (18446744073709551616 : Int)) ∧ (0 : Int) ≤ x6 ∧ (0 : Int) ≤ x8 ∧ ((0 : Int) ≤ (0 : Int) ∧ (0 : Int) ≤ (1 : Int)) ∧ (0 : Int) ≤ (0 : Int) ∧ (0 : Int) ≤ x10 ∧ ((0 : Int) ≤ (0 : Int) ∧ (0 : Int) ≤ (1 : Int)) ∧ ((0 : Int) ≤ limb a 0 ∧ limb a 0 < (18446744073709551616 : Int)) ∧ ((0 : Int) ≤ limb b 2 ∧ limb b 2 < (18446744073709551616 : Int)) ∧ (0 : Int) ≤ x12 ∧ (0 : Int) ≤ x14 ∧ ((0 : Int) ≤ (0 : Int) ∧ (0 : Int) ≤ (1 : Int)) ∧ (0 : Int) ≤ (0 : Int) ∧ (0 : Int) ≤ x16 ∧ ((0 : Int) ≤ (0 : Int) ∧ (0 : Int) ≤ (1 : Int)) ∧ ((0 : Int) ≤ limb a 0 ∧ limb a 0 < (18446744073709551616 : Int)) ∧ ((0 : Int) ≤ limb b 3 ∧ limb b 3 < (18446744073709551616 : Int)) ∧ (0 : Int) ≤ x18 ∧ (0 : Int) ≤ x20 ∧ ((0 : Int) ≤ (0 : Int) ∧ (0 : Int) ≤ (1 : Int)) ∧ (0 : Int) ≤ (0 : Int) ∧ (0 : Int) ≤ x22 ∧ ((0 : Int) ≤ (0 : Int) ∧ (0 : Int) ≤ (1 : Int)) ∧ ((0 : Int) ≤ limb a 1 ∧ limb a 1 < (18446744073709551616 : Int)) ∧ ((0 : Int) ≤ limb b 0 ∧ limb b 0 < (18446744073709551616 : Int)) ∧ (0 : Int) ≤ x24 ∧ (0 : Int) ≤ (0 : Int) ∧ ((0 : Int) ≤ (0 : Int) ∧ (0 : Int) ≤ (1 : Int)) ∧ (0 : Int) ≤ x25 ∧ (0 : Int) ≤ x27 ∧ ((0 : Int) ≤ (0 : Int) ∧ (0 : Int) ≤ (1 : Int)) ∧ ((0 : Int) ≤ limb a 1 ∧ limb a 1 < (18446744073709551616 : Int)) ∧ ((0 : Int) ≤ limb b 1 ∧ limb b 1 < (18446744073709551616 : Int)) ∧ (0 : Int) ≤ x29 ∧ (0 : Int) ≤ x31 ∧ ((0 : Int) ≤ (0 : Int) ∧ (0 : Int) ≤ (1 : Int)) ∧ (0 : Int) ≤ x32 ∧ (0 : Int) ≤ x34 ∧ ((0 : Int) ≤ (0 : Int) ∧ (0 : Int) ≤ (1 : Int)) ∧ ((0 : Int) ≤ limb a 1 ∧ limb a 1 < (18446744073709551616 : Int)) ∧ ((0 : Int) ≤ limb b 2 ∧ limb b 2 < (18446744073709551616 : Int)) ∧ (0 : Int) ≤ x36 ∧ (0 : Int) ≤ x38 ∧ ((0 : Int) ≤ (0 : Int) ∧ (0 : Int) ≤ (1 : Int)) ∧ (0 : Int) ≤ x40 ∧ (0 : Int) ≤ x42 ∧ ((0 : Int) ≤ (0 : Int) ∧ (0 : Int) ≤ (1 : Int)) ∧ ((0 : Int) ≤ limb a 1 ∧ limb a 1 < (18446744073709551616 : Int)) ∧ ((0 : Int) ≤ limb b 3 ∧ limb b 3 < (18446744073709551616 : Int)) ∧ (0 : Int) ≤ x44 ∧ (0 : Int) ≤ x46 ∧ ((0 : Int) ≤ (0 : Int) ∧ (0 : Int) ≤ (1 : Int)) ∧ (0 : Int) ≤ x47 ∧ (0 : Int) ≤ x49 ∧ ((0 : Int) ≤ (0 : Int) ∧ (0 : Int) ≤ (1 : Int)) ∧ ((0 : Int) ≤ limb a 2 ∧ limb a 2 < (18446744073709551616 : Int)) ∧ ((0 : Int) ≤ limb b 0 ∧ limb b 0 < (18446744073709551616 : Int)) ∧ (0 : Int) ≤ x51 ∧ (0 : Int) ≤ (0 : Int) ∧ ((0 : Int) ≤ (0 : Int) ∧ (0 : Int) ≤ (1 : Int)) ∧ (0 : Int) ≤ x52 ∧ (0 : Int) ≤ x54 ∧ ((0 : Int) ≤ (0 : Int) ∧ (0 : Int) ≤ (1 : Int)) ∧ ((0 : Int) ≤ limb a 2 ∧ limb a 2 < (18446744073709551616 : Int)) ∧ ((0 : Int) ≤ limb b 1 ∧ limb b 1 < (18446744073709551616 : Int)) ∧ (0 : Int) ≤ x56 ∧ (0 : Int) ≤ x58 ∧ ((0 : Int) ≤ (0 : Int) ∧ (0 : Int) ≤ (1 : Int)) ∧ (0 : Int) ≤ x59 ∧ (0 : Int) ≤ x61 ∧ ((0 : Int) ≤ (0 : Int) ∧ (0 : Int) ≤ (1 : Int)) ∧ ((0 : Int) ≤ limb a 2 ∧ limb a 2 < (18446744073709551616 : Int)) ∧ ((0 : Int) ≤ limb b 2 ∧ limb b 2 < (18446744073709551616 : Int)) ∧ (0 : Int) ≤ x63 ∧ (0 : Int) ≤ x65 ∧ ((0 : Int) ≤ (0 : Int) ∧ (0 : Int) ≤ (1 : Int)) ∧ (0 : Int) ≤ x67 ∧ (0 : Int) ≤ x69 ∧ ((0 : Int) ≤ (0 : Int) ∧ (0 : Int) ≤ (1 : Int)) ∧ ((0 : Int) ≤ limb a 2 ∧ limb a 2 < (18446744073709551616 : Int)) ∧ ((0 : Int) ≤ limb b 3 ∧ limb b 3 < (18446744073709551616 : Int)) ∧ (0 : Int) ≤ x71 ∧ (0 : Int) ≤ x73 ∧ ((0 : Int) ≤ (0 : Int) ∧ (0 : Int) ≤ (1 : Int)) ∧ (0 : Int) ≤ x74 ∧ (0 : Int) ≤ x76 ∧ ((0 : Int) ≤ (0 : Int) ∧ (0 : Int) ≤ (1 : Int)) ∧ ((0 : Int) ≤ limb a 3 ∧ limb a 3 < (18446744073709551616 : Int)) ∧ ((0 : Int) ≤ limb b 0 ∧ limb b 0 < (18446744073709551616 : Int)) ∧ (0 : Int) ≤ x78 ∧ (0 : Int) ≤ (0 : Int) ∧ ((0 : Int) ≤ (0 : Int) ∧ (0 : Int) ≤ (1 : Int)) ∧ (0 : Int) ≤ x79 ∧ (0 : Int) ≤ x81 ∧ ((0 : Int) ≤ (0 : Int) ∧ (0 : Int) ≤ (1 : Int)) ∧ ((0 : Int) ≤ limb a 3 ∧ limb a 3 < (18446744073709551616 : Int)) ∧ ((0 : Int) ≤ limb b 1 ∧ limb b 1 < (18446744073709551616 : Int)) ∧ (0 : Int) ≤ x83 ∧ (0 : Int) ≤ x85 ∧ ((0 : Int) ≤ (0 : Int) ∧ (0 : Int) ≤ (1 : Int)) ∧ (0 : Int) ≤ x86 ∧ (0 : Int) ≤ x88 ∧ ((0 : Int) ≤ (0 : Int) ∧ (0 : Int) ≤ (1 : Int)) ∧ ((0 : Int) ≤ limb a 3 ∧ limb a 3 < (18446744073709551616 : Int)) ∧ ((0 : Int) ≤ limb b 2 ∧ limb b 2 < (18446744073709551616 : Int)) ∧ (0 : Int) ≤ x90 ∧ (0 : Int) ≤ x92 ∧ ((0 : Int) ≤ (0 : Int) ∧ (0 : Int) ≤ (1 : Int)) ∧ (0 : Int) ≤ x94 ∧ (0 : Int) ≤ x96 ∧ ((0 : Int) ≤ (0 : Int) ∧ (0 : Int) ≤ (1 : Int)) ∧ ((0 : Int) ≤ limb a 3 ∧ limb a 3 < (18446744073709551616 : Int)) ∧ ((0 : Int) ≤ limb b 3 ∧ limb b 3 < (18446744073709551616 : Int)) ∧ (0 : Int) ≤ x98 ∧ (0 : Int) ≤ x100 ∧ ((0 : Int) ≤ (0 : Int) ∧ (0 : Int) ≤ (1 : Int)) ∧ (0 : Int) ≤ x101 ∧ (0 : Int) ≤ x103 ∧ ((0 : Int) ≤ (0 : Int) ∧ (0 : Int) ≤ (1 : Int)) ∧ (((0 : Int) ≤ x104 ∧ x104 < (18446744073709551616 : Int)) ∧ ((0 : Int) ≤ x105 ∧ x105 < (18446744073709551616 : Int)) ∧ ((0 : Int) ≤ x106 ∧ x106 < (18446744073709551616 : Int)) ∧ ((0 : Int) ≤ x107 ∧ x107 < (18446744073709551616 : Int)) ∧ join x104 x105 x106 x107 % M256 = a * b % M256 ∧ True) ∧ ((0 : Int) ≤ x108 ∧ x108 < (18446744073709551616 : Int)) ∧ ((0 : Int) ≤ x109 ∧ x109 < (18446744073709551616 : Int)) ∧ ((0 : Int) ≤ x111 ∧ x111 < (18446744073709551616 : Int)) ∧ ((0 : Int) ≤ x112 ∧ x112 < (18446744073709551616 : Int)) ∧ join x108 x109 x111 x112 % M256 = a % M256 * (b % M256) / M256 % M256 ∧ True) := by kernel_rfl
end Go.Proofs.Ytjpddnjgbgpegaa
end

section
namespace Go.Proofs.Ytjpddnjgbgpegaa
open Go.Sx
set_option maxRecDepth 100000
def cxLz : Cx := [(60, specW lenG)]
def cxDiv64 : Cx := [(56, specW lzG)]
structure DivAt where
  q : Nat
  r : Nat
def invDiv1 (h l _ s y' y1 y0 U L w1 w0 : Int) : Inv where
  X := DivAt
  tm x := slotsAt 135 [(0, .one (sI .u64 h)), (1, .one (sI .u64 l)), (2, .one (sI .u64 y')), (8, .one (sI .u64 s)), (9, .one (sI .u64 y1)), (10, .one (sI .u64 y0)), (11, .one (sI .u64 U)), (12, .one (sI .u64 L)), (13, .one (sI .u64 w1)), (14, .one (sI .u64 w0)), (15, .one (sI .u64 x.q)), (16, .one (sI .u64 x.r)), (6, .one (.sc (.num .u64 0))), (7, .one (.sc (.num .u64 0)))]
  ob _ := []
  holds x := (x.q : Int) * y1 + x.r = U ∧ x.r < 4294967296 ∧ (U * 4294967296 + w1) / y' ≤ x.q ∧ x.q ≤ 4294967297
  less x := x.q
def invDiv2 (h l _ s y' y1 y0 U L w1 w0 q1 V : Int) : Inv where
  X := DivAt
  tm x := slotsAt 135 [(0, .one (sI .u64 h)), (1, .one (sI .u64 l)), (2, .one (sI .u64 y')), (8, .one (sI .u64 s)), (9, .one (sI .u64 y1)), (10, .one (sI .u64 y0)), (11, .one (sI .u64 U)), (12, .one (sI .u64 L)), (13, .one (sI .u64 w1)), (14, .one (sI .u64 w0)), (15, .one (sI .u64 q1)), (17, .one (sI .u64 V)), (18, .one (sI .u64 x.q)), (16, .one (sI .u64 x.r)), (6, .one (.sc (.num .u64 0))), (7, .one (.sc (.num .u64 0)))]
  ob _ := []
  holds x := (x.q : Int) * y1 + x.r = V ∧ x.r < 4294967296 ∧ (V * 4294967296 + w0) / y' ≤ x.q ∧ x.q ≤ 4294967297
  less x := x.q
def shY (y : Int) : Int := y * 2 ^ (64 - lenN y).toNat
def shU (h l y : Int) : Int := h * 2 ^ (64 - lenN y).toNat + l / 2 ^ (lenN y).toNat
def shL (l y : Int) : Int := l * 2 ^ (64 - lenN y).toNat % 18446744073709551616
def dq1 (h l y : Int) : Int := (shU h l y * 4294967296 + shL l y / 4294967296) / shY y
def dV (h l y : Int) : Int := (shU h l y * 4294967296 + shL l y / 4294967296) % shY y
def ivDiv (h l y : Int) : List (Nat × Hint) :=
  [(17, .inv (invDiv1 h l y (64 - lenN y) (shY y) (shY y / 4294967296) (shY y % 4294967296) (shU h l y) (shL l y) (shL l y / 4294967296) (shL l y % 4294967296))),
   (24, .inv (invDiv2 h l y (64 - lenN y) (shY y) (shY y / 4294967296) (shY y % 4294967296) (shU h l y) (shL l y) (shL l y / 4294967296) (shL l y % 4294967296) (dq1 h l y) (dV h l y)))]
def lit_650f3990 : ByteArray := { data := (([(0 : UInt8), (1 : UInt8), (2 : UInt8), (2 : UInt8), (3 : UInt8), (3 : UInt8), (3 : UInt8), (3 : UInt8), (4 : UInt8), (4 : UInt8), (4 : UInt8), (4 : UInt8), (4 : UInt8), (4 : UInt8), (4 : UInt8), (4 : UInt8), (5 : UInt8), (5 : UInt8), (5 : UInt8), (5 : UInt8), (5 : UInt8), (5 : UInt8), (5 : UInt8), (5 : UInt8), (5 : UInt8), (5 : UInt8), (5 : UInt8), (5 : UInt8), (5 : UInt8), (5 : UInt8), (5 : UInt8), (5 : UInt8), (6 : UInt8), (6 : UInt8), (6 : UInt8), (6 : UInt8), (6 : UInt8), (6 : UInt8), (6 : UInt8), (6 : UInt8), (6 : UInt8), (6 : UInt8), (6 : UInt8), (6 : UInt8), (6 : UInt8), (6 : UInt8), (6 : UInt8), (6 : UInt8), (6 : UInt8), (6 : UInt8), (6 : UInt8), (6 : UInt8), (6 : UInt8), (6 : UInt8), (6 : UInt8), (6 : UInt8), (6 : UInt8), (6 : UInt8), (6 : UInt8), (6 : UInt8), (6 : UInt8), (6 : UInt8), (6 : UInt8), (6 : UInt8)].append [(7 : UInt8), (7 : UInt8), (7 : UInt8), (7 : UInt8), (7 : UInt8), (7 : UInt8), (7 : UInt8), (7 : UInt8), (7 : UInt8), (7 : UInt8), (7 : UInt8), (7 : UInt8), (7 : UInt8), (7 : UInt8), (7 : UInt8), (7 : UInt8), (7 : UInt8), (7 : UInt8), (7 : UInt8), (7 : UInt8), (7 : UInt8), (7 : UInt8), (7 : UInt8), (7 : UInt8), (7 : UInt8), (7 : UInt8), (7 : UInt8), (7 : UInt8), (7 : UInt8), (7 : UInt8), (7 : UInt8), (7 : UInt8), (7 : UInt8), (7 : UInt8), (7 : UInt8), (7 : UInt8), (7 : UInt8), (7 : UInt8), (7 : UInt8), (7 : UInt8), (7 : UInt8), (7 : UInt8), (7 : UInt8), (7 : UInt8), (7 : UInt8), (7 : UInt8), (7 : UInt8), (7 : UInt8), (7 : UInt8), (7 : UInt8), (7 : UInt8), (7 : UInt8), (7 : UInt8), (7 : UInt8), (7 : UInt8), (7 : UInt8), (7 : UInt8), (7 : UInt8), (7 : UInt8), (7 : UInt8), (7 : UInt8), (7 : UInt8), (7 : UInt8), (7 : UInt8)]).append ([(8 : UInt8), (8 : UInt8), (8 : UInt8), (8 : UInt8), (8 : UInt8), (8 : UInt8), (8 : UInt8), (8 : UInt8), (8 : UInt8), (8 : UInt8), (8 : UInt8), (8 : UInt8), (8 : UInt8), (8 : UInt8), (8 : UInt8), (8 : UInt8), (8 : UInt8), (8 : UInt8), (8 : UInt8), (8 : UInt8), (8 : UInt8), (8 : UInt8), (8 : UInt8), (8 : UInt8), (8 : UInt8), (8 : UInt8), (8 : UInt8), (8 : UInt8), (8 : UInt8), (8 : UInt8), (8 : UInt8), (8 : UInt8), (8 : UInt8), (8 : UInt8), (8 : UInt8), (8 : UInt8), (8 : UInt8), (8 : UInt8), (8 : UInt8), (8 : UInt8), (8 : UInt8), (8 : UInt8), (8 : UInt8), (8 : UInt8), (8 : UInt8), (8 : UInt8), (8 : UInt8), (8 : UInt8), (8 : UInt8), (8 : UInt8), (8 : UInt8), (8 : UInt8), (8 : UInt8), (8 : UInt8), (8 : UInt8), (8 : UInt8), (8 : UInt8), (8 : UInt8), (8 : UInt8), (8 : UInt8), (8 : UInt8), (8 : UInt8), (8 : UInt8), (8 : UInt8)].append [(8 : UInt8), (8 : UInt8), (8 : UInt8), (8 : UInt8), (8 : UInt8), (8 : UInt8), (8 : UInt8), (8 : UInt8), (8 : UInt8), (8 : UInt8), (8 : UInt8), (8 : UInt8), (8 : UInt8), (8 : UInt8), (8 : UInt8), (8 : UInt8), (8 : UInt8), (8 : UInt8), (8 : UInt8), (8 : UInt8), (8 : UInt8), (8 : UInt8), (8 : UInt8), (8 : UInt8), (8 : UInt8), (8 : UInt8), (8 : UInt8), (8 : UInt8), (8 : UInt8), (8 : UInt8), (8 : UInt8), (8 : UInt8), (8 : UInt8), (8 : UInt8), (8 : UInt8), (8 : UInt8), (8 : UInt8), (8 : UInt8), (8 : UInt8), (8 : UInt8), (8 : UInt8), (8 : UInt8), (8 : UInt8), (8 : UInt8), (8 : UInt8), (8 : UInt8), (8 : UInt8), (8 : UInt8), (8 : UInt8), (8 : UInt8), (8 : UInt8), (8 : UInt8), (8 : UInt8), (8 : UInt8), (8 : UInt8), (8 : UInt8), (8 : UInt8), (8 : UInt8), (8 : UInt8), (8 : UInt8), (8 : UInt8), (8 : UInt8), (8 : UInt8), (8 : UInt8)])).toArray }
theorem vc_Len64 (x : Int) :
    Owes Try.prog Cx.none [] 100 Try.f60 [sI .u64 x] (lenG x) =
    (let x1 : Int := (x.fdiv (4294967296 : Int)).fdiv (65536 : Int); let x2 : Int := Go.IntKind.u8.wrap (x1.fdiv (256 : Int)); let x3 : Nat := x2.toNat; let x4 : Int := Go.IntKind.u8.wrap x1; let x5 : Nat := x4.toNat; let x6 : Int := Go.IntKind.u8.wrap ((x.fdiv (4294967296 : Int)).fdiv (256 : Int)); let x7 : Nat := x6.toNat; let x8 : Int := Go.IntKind.u8.wrap (x.fdiv (4294967296 : Int)); let x9 : Nat := x8.toNat; let x10 : Int := Go.IntKind.u8.wrap ((x.fdiv (65536 : Int)).fdiv (256 : Int)); let x11 : Nat := x10.toNat; let x12 : Int := Go.IntKind.u8.wrap (x.fdiv (65536 : Int)); let x13 : Nat := x12.toNat; let x14 : Int := Go.IntKind.u8.wrap (x.fdiv (256 : Int)); let x15 : Nat := x14.toNat; (Decidable.decide (x ≥ (4294967296 : Int)) = Bool.true → (Decidable.decide (x.fdiv (4294967296 : Int) ≥ (65536 : Int)) = Bool.true → (Decidable.decide (x1 ≥ (256 : Int)) = Bool.true → ((0 : Int) ≤ x2 ∧ x3 < 256) ∧ Go.IntKind.i64.wrap ((56 : Int) + Go.IntKind.i64.wrap (↑(lit_650f3990.data.getD x3 (0 : UInt8)).toNat : Int)) = lenN x) ∧ (Decidable.decide (x1 ≥ (256 : Int)) = Bool.false → ((0 : Int) ≤ x4 ∧ x5 < 256) ∧ Go.IntKind.i64.wrap ((48 : Int) + Go.IntKind.i64.wrap (↑(lit_650f3990.data.getD x5 (0 : UInt8)).toNat : Int)) = lenN x)) ∧ (Decidable.decide (x.fdiv (4294967296 : Int) ≥ (65536 : Int)) = Bool.false → (Decidable.decide (x.fdiv (4294967296 : Int) ≥ (256 : Int)) = Bool.true → ((0 : Int) ≤ x6 ∧ x7 < 256) ∧ Go.IntKind.i64.wrap ((40 : Int) + Go.IntKind.i64.wrap (↑(lit_650f3990.data.getD x7 (0 : UInt8)).toNat : Int)) = lenN x) ∧ (Decidable.decide (x.fdiv (4294967296 : Int) ≥ (256 : Int)) = Bool.false → ((0 : Int) ≤ x8 ∧ x9 < 256) ∧ Go.IntKind.i64.wrap ((32 : Int) + Go.IntKind.i64.wrap (↑(lit_650f3990.data.getD x9 (0 : UInt8)).toNat : Int)) = lenN x))) ∧ (Decidable.decide (x ≥ (4294967296 : Int)) = Bool.false → (Decidable.decide (x ≥ (65536 : Int)) = Bool.true → (Decidable.decide (x.fdiv (65536 : Int) ≥ (256 : Int)) = Bool.true → ((0 : Int) ≤ x10 ∧ x11 < 256) ∧ Go.IntKind.i64.wrap ((24 : Int) + Go.IntKind.i64.wrap (↑(lit_650f3990.data.getD x11 (0 : UInt8)).toNat : Int)) = lenN x) ∧ (Decidable.decide (x.fdiv (65536 : Int) ≥ (256 : Int)) = Bool.false → ((0 : Int) ≤ x12 ∧ x13 < 256) ∧ Go.IntKind.i64.wrap ((16 : Int) + Go.IntKind.i64.wrap (↑(lit_650f3990.data.getD x13 (0 : UInt8)).toNat : Int)) = lenN x)) ∧ (Decidable.decide (x ≥ (65536 : Int)) = Bool.false → (Decidable.decide (x ≥ (256 : Int)) = Bool.true → ((0 : Int) ≤ x14 ∧ x15 < 256) ∧ Go.IntKind.i64.wrap ((8 : Int) + Go.IntKind.i64.wrap (↑(lit_650f3990.data.getD x15 (0 : UInt8)).toNat : Int)) = lenN x) ∧ (Decidable.decide (x ≥ (256 : Int)) = Bool.false → ((0 : Int) ≤ Go.IntKind.u8.wrap x ∧ (Go.IntKind.u8.wrap x).toNat < 256) ∧ Go.IntKind.i64.wrap ((0 : Int) + Go.IntKind.i64.wrap (↑(lit_650f3990.data.getD (Go.IntKind.u8.wrap x).toNat (0 : UInt8)).toNat : Int)) = lenN x)))) := by kernel_rfl
theorem vc_LZ64 (x : Int) :
    Owes Try.prog cxLz [] 100 Try.f56 [sI .u64 x] (lzG x) =
    (let x1 : Int := (64 : Int) - lenN x; ((0 : Int) ≤ x ∧ x < (18446744073709551616 : Int)) ∧ Go.IntKind.i64.wrap x1 = x1) := by kernel_rfl
theorem vc_Div64 (h l y : Int) :
    Owes Try.prog cxDiv64 (ivDiv h l y) 100 Try.f61 [sI .u64 h, sI .u64 l, sI .u64 y] (divG h l y) =
    (let x1 : Int := h * (18446744073709551616 : Int) + l; let x2 : Int := x1 / y; let x3 : Int := x1 % y; let x4 : Int := (64 : Int) - lenN y; let x5 : Int := Go.IntKind.u64.wrap x4; let x6 : Int := Go.IntKind.u64.wrap ((64 : Int) - x5); let x7 : Int := (2 : Int) ^ Min.min x5.toNat 64; let x8 : Int := Go.IntKind.u64.wrap (y * x7); let x9 : Int := x8.fdiv (4294967296 : Int); let x10 : Int := shY y / (4294967296 : Int); let x11 : Int := shY y % (4294967296 : Int); let x12 : Int := shL l y / (4294967296 : Int); let x13 : Int := shL l y % (4294967296 : Int); let x14 : Int := shU h l y * (4294967296 : Int); let x15 : Int := Go.IntKind.u64.wrap (↑(BitVec.ofInt 64 (Go.IntKind.u64.wrap (h * x7)) ||| BitVec.ofInt 64 (l.fdiv ((2 : Int) ^ Min.min x6.toNat 64))).toNat : Int); let x16 : Int := Go.IntKind.u64.wrap (l * x7); let x17 : Int := Go.IntKind.u64.wrap (x15.tdiv x9); let x18 : Int := dV h l y * (4294967296 : Int); let x19 : Int := (2 : Int) ^ Min.min x4.toNat 64; ((y == (0 : Int)) = Bool.true → Stuck { dst := Option.some 21, op := Go.Op.load 90 (Go.Operand.global 0), type := 90, pos := "bits.go:520", after := #[], guard := Option.none }) ∧ ((y == (0 : Int)) = Bool.false → (Decidable.decide (y ≤ h) = Bool.true → Stuck { dst := Option.some 25, op := Go.Op.load 90 (Go.Operand.global 1), type := 90, pos := "bits.go:523", after := #[], guard := Option.none }) ∧ (Decidable.decide (y ≤ h) = Bool.false → ((h == (0 : Int)) = Bool.true → y ≠ (0 : Int) ∧ y ≠ (0 : Int) ∧ Go.IntKind.u64.wrap (l.tdiv y) = x2 ∧ l.tmod y = x3) ∧ ((h == (0 : Int)) = Bool.false → ((0 : Int) ≤ y ∧ y < (18446744073709551616 : Int)) ∧ (0 : Int) ≤ x5 ∧ (0 : Int) ≤ x5 ∧ (0 : Int) ≤ x6 ∧ (0 : Int) ≤ x5 ∧ x9 ≠ (0 : Int) ∧ (∀ (y_1 : DivAt), closedB (slotsAt 135 [(0, SV.one (sI Go.IntKind.u64 h)), (1, SV.one (sI Go.IntKind.u64 l)), (2, SV.one (sI Go.IntKind.u64 (shY y))), (8, SV.one (sI Go.IntKind.u64 x4)), (9, SV.one (sI Go.IntKind.u64 x10)), (10, SV.one (sI Go.IntKind.u64 x11)), (11, SV.one (sI Go.IntKind.u64 (shU h l y))), (12, SV.one (sI Go.IntKind.u64 (shL l y))), (13, SV.one (sI Go.IntKind.u64 x12)), (14, SV.one (sI Go.IntKind.u64 x13)), (15, SV.one (sI Go.IntKind.u64 (↑y_1.q : Int))), (16, SV.one (sI Go.IntKind.u64 (↑y_1.r : Int))), (6, SV.one (SA.sc (SC.num Go.IntKind.u64 (0 : Int)))), (7, SV.one (SA.sc (SC.num Go.IntKind.u64 (0 : Int))))]) [] = Bool.true) ∧ ∃ (y_1 : DivAt), ((↑y_1.q : Int) * x10 + (↑y_1.r : Int) = shU h l y ∧ y_1.r < 4294967296 ∧ (x14 + x12) / shY y ≤ (↑y_1.q : Int) ∧ y_1.q ≤ 4294967297) ∧ h = h ∧ l = l ∧ x8 = shY y ∧ x5 = x4 ∧ x9 = x10 ∧ Go.IntKind.u64.wrap (↑(BitVec.ofInt 64 x8 &&& BitVec.ofInt 64 (4294967295 : Int)).toNat : Int) = x11 ∧ x15 = shU h l y ∧ x16 = shL l y ∧ x16.fdiv (4294967296 : Int) = x12 ∧ Go.IntKind.u64.wrap (↑(BitVec.ofInt 64 x16 &&& BitVec.ofInt 64 (4294967295 : Int)).toNat : Int) = x13 ∧ x17 = (↑y_1.q : Int) ∧ Go.IntKind.u64.wrap (x15 - Go.IntKind.u64.wrap (x17 * x9)) = (↑y_1.r : Int) ∧ ∀ (y_2 : DivAt), (↑y_2.q : Int) * x10 + (↑y_2.r : Int) = shU h l y ∧ y_2.r < 4294967296 ∧ (x14 + x12) / shY y ≤ (↑y_2.q : Int) ∧ y_2.q ≤ 4294967297 → ((!Decidable.decide ((↑y_2.q : Int) ≥ (4294967296 : Int))) = Bool.true → (!Decidable.decide ((↑y_2.q : Int) ≥ (4294967296 : Int))) = Bool.true) ∧ ((!Decidable.decide ((↑y_2.q : Int) ≥ (4294967296 : Int))) = Bool.true → (!Decidable.decide ((↑y_2.q : Int) ≥ (4294967296 : Int))) = Bool.true) ∧ ((!Decidable.decide ((↑y_2.q : Int) ≥ (4294967296 : Int))) = Bool.true → (!Decidable.decide ((↑y_2.q : Int) ≥ (4294967296 : Int))) = Bool.true) ∧ ((!Decidable.decide ((↑y_2.q : Int) ≥ (4294967296 : Int))) = Bool.true → (!Decidable.decide ((↑y_2.q : Int) ≥ (4294967296 : Int))) = Bool.true) ∧ ((!Decidable.decide ((↑y_2.q : Int) ≥ (4294967296 : Int))) = Bool.true → (!Decidable.decide ((↑y_2.q : Int) ≥ (4294967296 : Int))) = Bool.true) ∧ ((!Decidable.decide ((↑y_2.q : Int) ≥ (4294967296 : Int))) = Bool.true → (!Decidable.decide ((↑y_2.q : Int) ≥ (4294967296 : Int))) = Bool.true) ∧ ((!Decidable.decide ((↑y_2.q : Int) ≥ (4294967296 : Int))) = Bool.true → (!Decidable.decide ((↑y_2.q : Int) ≥ (4294967296 : Int))) = Bool.true) ∧ (Decidable.decide ((↑y_2.q : Int) ≥ (4294967296 : Int)) = Bool.false → (!Decidable.decide ((↑y_2.q : Int) ≥ (4294967296 : Int))) = Bool.true) ∧ ((Decidable.decide ((↑y_2.q : Int) ≥ (4294967296 : Int)) || Decidable.decide (Go.IntKind.u64.wrap ((↑y_2.q : Int) * x11) > Go.IntKind.u64.wrap (Go.IntKind.u64.wrap ((4294967296 : Int) * (↑y_2.r : Int)) + x12))) = Bool.true → (Decidable.decide (Go.IntKind.u64.wrap ((↑y_2.r : Int) + x10) ≥ (4294967296 : Int)) = Bool.true → x10 ≠ (0 : Int) ∧ (∀ (y_3 : DivAt), closedB (slotsAt 135 [(0, SV.one (sI Go.IntKind.u64 h)), (1, SV.one (sI Go.IntKind.u64 l)), (2, SV.one (sI Go.IntKind.u64 (shY y))), (8, SV.one (sI Go.IntKind.u64 x4)), (9, SV.one (sI Go.IntKind.u64 x10)), (10, SV.one (sI Go.IntKind.u64 x11)), (11, SV.one (sI Go.IntKind.u64 (shU h l y))), (12, SV.one (sI Go.IntKind.u64 (shL l y))), (13, SV.one (sI Go.IntKind.u64 x12)), (14, SV.one (sI Go.IntKind.u64 x13)), (15, SV.one (sI Go.IntKind.u64 (dq1 h l y))), (17, SV.one (sI Go.IntKind.u64 (dV h l y))), (18, SV.one (sI Go.IntKind.u64 (↑y_3.q : Int))), (16, SV.one (sI Go.IntKind.u64 (↑y_3.r : Int))), (6, SV.one (SA.sc (SC.num Go.IntKind.u64 (0 : Int)))), (7, SV.one (SA.sc (SC.num Go.IntKind.u64 (0 : Int))))]) [] = Bool.true) ∧ ∃ (y_3 : DivAt), ((↑y_3.q : Int) * x10 + (↑y_3.r : Int) = dV h l y ∧ y_3.r < 4294967296 ∧ (x18 + x13) / shY y ≤ (↑y_3.q : Int) ∧ y_3.q ≤ 4294967297) ∧ h = h ∧ l = l ∧ shY y = shY y ∧ x4 = x4 ∧ x10 = x10 ∧ x11 = x11 ∧ shU h l y = shU h l y ∧ shL l y = shL l y ∧ x12 = x12 ∧ x13 = x13 ∧ Go.IntKind.u64.wrap ((↑y_2.q : Int) - (1 : Int)) = dq1 h l y ∧ Go.IntKind.u64.wrap (Go.IntKind.u64.wrap (Go.IntKind.u64.wrap (Go.IntKind.u64.wrap x14 + x12) - Go.IntKind.u64.wrap (Go.IntKind.u64.wrap ((↑y_2.q : Int) - (1 : Int)) * shY y)) - Go.IntKind.u64.wrap (Go.IntKind.u64.wrap ((Go.IntKind.u64.wrap (Go.IntKind.u64.wrap (Go.IntKind.u64.wrap x14 + x12) - Go.IntKind.u64.wrap (Go.IntKind.u64.wrap ((↑y_2.q : Int) - (1 : Int)) * shY y))).tdiv x10) * x10)) = (↑y_3.r : Int) ∧ Go.IntKind.u64.wrap (Go.IntKind.u64.wrap (Go.IntKind.u64.wrap x14 + x12) - Go.IntKind.u64.wrap (Go.IntKind.u64.wrap ((↑y_2.q : Int) - (1 : Int)) * shY y)) = dV h l y ∧ Go.IntKind.u64.wrap ((Go.IntKind.u64.wrap (Go.IntKind.u64.wrap (Go.IntKind.u64.wrap x14 + x12) - Go.IntKind.u64.wrap (Go.IntKind.u64.wrap ((↑y_2.q : Int) - (1 : Int)) * shY y))).tdiv x10) = (↑y_3.q : Int) ∧ ∀ (y_4 : DivAt), (↑y_4.q : Int) * x10 + (↑y_4.r : Int) = dV h l y ∧ y_4.r < 4294967296 ∧ (x18 + x13) / shY y ≤ (↑y_4.q : Int) ∧ y_4.q ≤ 4294967297 → ((!Decidable.decide ((↑y_4.q : Int) ≥ (4294967296 : Int))) = Bool.true → (!Decidable.decide ((↑y_4.q : Int) ≥ (4294967296 : Int))) = Bool.true) ∧ ((!Decidable.decide ((↑y_4.q : Int) ≥ (4294967296 : Int))) = Bool.true → (!Decidable.decide ((↑y_4.q : Int) ≥ (4294967296 : Int))) = Bool.true) ∧ ((!Decidable.decide ((↑y_4.q : Int) ≥ (4294967296 : Int))) = Bool.true → (!Decidable.decide ((↑y_4.q : Int) ≥ (4294967296 : Int))) = Bool.true) ∧ ((!Decidable.decide ((↑y_4.q : Int) ≥ (4294967296 : Int))) = Bool.true → (!Decidable.decide ((↑y_4.q : Int) ≥ (4294967296 : Int))) = Bool.true) ∧ ((!Decidable.decide ((↑y_4.q : Int) ≥ (4294967296 : Int))) = Bool.true → (!Decidable.decide ((↑y_4.q : Int) ≥ (4294967296 : Int))) = Bool.true) ∧ ((!Decidable.decide ((↑y_4.q : Int) ≥ (4294967296 : Int))) = Bool.true → (!Decidable.decide ((↑y_4.q : Int) ≥ (4294967296 : Int))) = Bool.true) ∧ ((!Decidable.decide ((↑y_4.q : Int) ≥ (4294967296 : Int))) = Bool.true → (!Decidable.decide ((↑y_4.q : Int) ≥ (4294967296 : Int))) = Bool.true) ∧ (Decidable.decide ((↑y_4.q : Int) ≥ (4294967296 : Int)) = Bool.false → (!Decidable.decide ((↑y_4.q : Int) ≥ (4294967296 : Int))) = Bool.true) ∧ ((Decidable.decide ((↑y_4.q : Int) ≥ (4294967296 : Int)) || Decidable.decide (Go.IntKind.u64.wrap ((↑y_4.q : Int) * x11) > Go.IntKind.u64.wrap (Go.IntKind.u64.wrap ((4294967296 : Int) * (↑y_4.r : Int)) + x13))) = Bool.true → (Decidable.decide (Go.IntKind.u64.wrap ((↑y_4.r : Int) + x10) ≥ (4294967296 : Int)) = Bool.true → (0 : Int) ≤ x4 ∧ Go.IntKind.u64.wrap (Go.IntKind.u64.wrap (dq1 h l y * (4294967296 : Int)) + Go.IntKind.u64.wrap ((↑y_4.q : Int) - (1 : Int))) = x2 ∧ (Go.IntKind.u64.wrap (Go.IntKind.u64.wrap (Go.IntKind.u64.wrap x18 + x13) - Go.IntKind.u64.wrap (Go.IntKind.u64.wrap ((↑y_4.q : Int) - (1 : Int)) * shY y))).fdiv x19 = x3) ∧ (Decidable.decide (Go.IntKind.u64.wrap ((↑y_4.r : Int) + x10) ≥ (4294967296 : Int)) = Bool.false → ∃ (y' : DivAt), ((↑y'.q : Int) * x10 + (↑y'.r : Int) = dV h l y ∧ y'.r < 4294967296 ∧ (x18 + x13) / shY y ≤ (↑y'.q : Int) ∧ y'.q ≤ 4294967297) ∧ h = h ∧ l = l ∧ shY y = shY y ∧ x4 = x4 ∧ x10 = x10 ∧ x11 = x11 ∧ shU h l y = shU h l y ∧ shL l y = shL l y ∧ x12 = x12 ∧ x13 = x13 ∧ dq1 h l y = dq1 h l y ∧ Go.IntKind.u64.wrap ((↑y_4.r : Int) + x10) = (↑y'.r : Int) ∧ dV h l y = dV h l y ∧ Go.IntKind.u64.wrap ((↑y_4.q : Int) - (1 : Int)) = (↑y'.q : Int) ∧ y'.q < y_4.q)) ∧ ((Decidable.decide ((↑y_4.q : Int) ≥ (4294967296 : Int)) || Decidable.decide (Go.IntKind.u64.wrap ((↑y_4.q : Int) * x11) > Go.IntKind.u64.wrap (Go.IntKind.u64.wrap ((4294967296 : Int) * (↑y_4.r : Int)) + x13))) = Bool.false → (0 : Int) ≤ x4 ∧ Go.IntKind.u64.wrap (Go.IntKind.u64.wrap (dq1 h l y * (4294967296 : Int)) + (↑y_4.q : Int)) = x2 ∧ (Go.IntKind.u64.wrap (Go.IntKind.u64.wrap (Go.IntKind.u64.wrap x18 + x13) - Go.IntKind.u64.wrap ((↑y_4.q : Int) * shY y))).fdiv x19 = x3)) ∧ (Decidable.decide (Go.IntKind.u64.wrap ((↑y_2.r : Int) + x10) ≥ (4294967296 : Int)) = Bool.false → ∃ (y' : DivAt), ((↑y'.q : Int) * x10 + (↑y'.r : Int) = shU h l y ∧ y'.r < 4294967296 ∧ (x14 + x12) / shY y ≤ (↑y'.q : Int) ∧ y'.q ≤ 4294967297) ∧ h = h ∧ l = l ∧ shY y = shY y ∧ x4 = x4 ∧ x10 = x10 ∧ x11 = x11 ∧ shU h l y = shU h l y ∧ shL l y = shL l y ∧ x12 = x12 ∧ x13 = x13 ∧ Go.IntKind.u64.wrap ((↑y_2.q : Int) - (1 : Int)) = (↑y'.q : Int) ∧ Go.IntKind.u64.wrap ((↑y_2.r : Int) + x10) = (↑y'.r : Int) ∧ y'.q < y_2.q)) ∧ ((Decidable.decide ((↑y_2.q : Int) ≥ (4294967296 : Int)) || Decidable.decide (Go.IntKind.u64.wrap ((↑y_2.q : Int) * x11) > Go.IntKind.u64.wrap (Go.IntKind.u64.wrap ((4294967296 : Int) * (↑y_2.r : Int)) + x12))) = Bool.false → x10 ≠ (0 : Int) ∧ (∀ (y_3 : DivAt), closedB (slotsAt 135 [(0, SV.one (sI Go.IntKind.u64 h)), (1, SV.one (sI Go.IntKind.u64 l)), (2, SV.one (sI Go.IntKind.u64 (shY y))), (8, SV.one (sI Go.IntKind.u64 x4)), (9, SV.one (sI Go.IntKind.u64 x10)), (10, SV.one (sI Go.IntKind.u64 x11)), (11, SV.one (sI Go.IntKind.u64 (shU h l y))), (12, SV.one (sI Go.IntKind.u64 (shL l y))), (13, SV.one (sI Go.IntKind.u64 x12)), (14, SV.one (sI Go.IntKind.u64 x13)), (15, SV.one (sI Go.IntKind.u64 (dq1 h l y))), (17, SV.one (sI Go.IntKind.u64 (dV h l y))), (18, SV.one (sI Go.IntKind.u64 (↑y_3.q : Int))), (16, SV.one (sI Go.IntKind.u64 (↑y_3.r : Int))), (6, SV.one (SA.sc (SC.num Go.IntKind.u64 (0 : Int)))), (7, SV.one (SA.sc (SC.num Go.IntKind.u64 (0 : Int))))]) [] = Bool.true) ∧ ∃ (y_3 : DivAt), ((↑y_3.q : Int) * x10 + (↑y_3.r : Int) = dV h l y ∧ y_3.r < 4294967296 ∧ (x18 + x13) / shY y ≤ (↑y_3.q : Int) ∧ y_3.q ≤ 4294967297) ∧ h = h ∧ l = l ∧ shY y = shY y ∧ x4 = x4 ∧ x10 = x10 ∧ x11 = x11 ∧ shU h l y = shU h l y ∧ shL l y = shL l y ∧ x12 = x12 ∧ x13 = x13 ∧ (↑y_2.q : Int) = dq1 h l y ∧ Go.IntKind.u64.wrap (Go.IntKind.u64.wrap (Go.IntKind.u64.wrap (Go.IntKind.u64.wrap x14 + x12) - Go.IntKind.u64.wrap ((↑y_2.q : Int) * shY y)) - Go.IntKind.u64.wrap (Go.IntKind.u64.wrap ((Go.IntKind.u64.wrap (Go.IntKind.u64.wrap (Go.IntKind.u64.wrap x14 + x12) - Go.IntKind.u64.wrap ((↑y_2.q : Int) * shY y))).tdiv x10) * x10)) = (↑y_3.r : Int) ∧ Go.IntKind.u64.wrap (Go.IntKind.u64.wrap (Go.IntKind.u64.wrap x14 + x12) - Go.IntKind.u64.wrap ((↑y_2.q : Int) * shY y)) = dV h l y ∧ Go.IntKind.u64.wrap ((Go.IntKind.u64.wrap (Go.IntKind.u64.wrap (Go.IntKind.u64.wrap x14 + x12) - Go.IntKind.u64.wrap ((↑y_2.q : Int) * shY y))).tdiv x10) = (↑y_3.q : Int) ∧ ∀ (y_4 : DivAt), (↑y_4.q : Int) * x10 + (↑y_4.r : Int) = dV h l y ∧ y_4.r < 4294967296 ∧ (x18 + x13) / shY y ≤ (↑y_4.q : Int) ∧ y_4.q ≤ 4294967297 → ((!Decidable.decide ((↑y_4.q : Int) ≥ (4294967296 : Int))) = Bool.true → (!Decidable.decide ((↑y_4.q : Int) ≥ (4294967296 : Int))) = Bool.true) ∧ ((!Decidable.decide ((↑y_4.q : Int) ≥ (4294967296 : Int))) = Bool.true → (!Decidable.decide ((↑y_4.q : Int) ≥ (4294967296 : Int))) = Bool.true) ∧ ((!Decidable.decide ((↑y_4.q : Int) ≥ (4294967296 : Int))) = Bool.true → (!Decidable.decide ((↑y_4.q : Int) ≥ (4294967296 : Int))) = Bool.true) ∧ ((!Decidable.decide ((↑y_4.q : Int) ≥ (4294967296 : Int))) = Bool.true → (!Decidable.decide ((↑y_4.q : Int) ≥ (4294967296 : Int))) = Bool.true) ∧ ((!Decidable.decide ((↑y_4.q : Int) ≥ (4294967296 : Int))) = Bool.true → (!Decidable.decide ((↑y_4.q : Int) ≥ (4294967296 : Int))) = Bool.true) ∧ ((!Decidable.decide ((↑y_4.q : Int) ≥ (4294967296 : Int))) = Bool.true → (!Decidable.decide ((↑y_4.q : Int) ≥ (4294967296 : Int))) = Bool.true) ∧ ((!Decidable.decide ((↑y_4.q : Int) ≥ (4294967296 : Int))) = Bool.true → (!Decidable.decide ((↑y_4.q : Int) ≥ (4294967296 : Int))) = Bool.true) ∧ (Decidable.decide ((↑y_4.q : Int) ≥ (4294967296 : Int)) = Bool.false → (!Decidable.decide ((↑y_4.q : Int) ≥ (4294967296 : Int))) = Bool.true) ∧ ((Decidable.decide ((↑y_4.q : Int) ≥ (4294967296 : Int)) || Decidable.decide (Go.IntKind.u64.wrap ((↑y_4.q : Int) * x11) > Go.IntKind.u64.wrap (Go.IntKind.u64.wrap ((4294967296 : Int) * (↑y_4.r : Int)) + x13))) = Bool.true → (Decidable.decide (Go.IntKind.u64.wrap ((↑y_4.r : Int) + x10) ≥ (4294967296 : Int)) = Bool.true → (0 : Int) ≤ x4 ∧ Go.IntKind.u64.wrap (Go.IntKind.u64.wrap (dq1 h l y * (4294967296 : Int)) + Go.IntKind.u64.wrap ((↑y_4.q : Int) - (1 : Int))) = x2 ∧ (Go.IntKind.u64.wrap (Go.IntKind.u64.wrap (Go.IntKind.u64.wrap x18 + x13) - Go.IntKind.u64.wrap (Go.IntKind.u64.wrap ((↑y_4.q : Int) - (1 : Int)) * shY y))).fdiv x19 = x3) ∧ (Decidable.decide (Go.IntKind.u64.wrap ((↑y_4.r : Int) + x10) ≥ (4294967296 : Int)) = Bool.false → ∃ (y' : DivAt), ((↑y'.q : Int) * x10 + (↑y'.r : Int) = dV h l y ∧ y'.r < 4294967296 ∧ (x18 + x13) / shY y ≤ (↑y'.q : Int) ∧ y'.q ≤ 4294967297) ∧ h = h ∧ l = l ∧ shY y = shY y ∧ x4 = x4 ∧ x10 = x10 ∧ x11 = x11 ∧ shU h l y = shU h l y ∧ shL l y = shL l y ∧ x12 = x12 ∧ x13 = x13 ∧ dq1 h l y = dq1 h l y ∧ Go.IntKind.u64.wrap ((↑y_4.r : Int) + x10) = (↑y'.r : Int) ∧ dV h l y = dV h l y ∧ Go.IntKind.u64.wrap ((↑y_4.q : Int) - (1 : Int)) = (↑y'.q : Int) ∧ y'.q < y_4.q)) ∧ ((Decidable.decide ((↑y_4.q : Int) ≥ (4294967296 : Int)) || Decidable.decide (Go.IntKind.u64.wrap ((↑y_4.q : Int) * x11) > Go.IntKind.u64.wrap (Go.IntKind.u64.wrap ((4294967296 : Int) * (↑y_4.r : Int)) + x13))) = Bool.false → (0 : Int) ≤ x4 ∧ Go.IntKind.u64.wrap (Go.IntKind.u64.wrap (dq1 h l y * (4294967296 : Int)) + (↑y_4.q : Int)) = x2 ∧ (Go.IntKind.u64.wrap (Go.IntKind.u64.wrap (Go.IntKind.u64.wrap x18 + x13) - Go.IntKind.u64.wrap ((↑y_4.q : Int) * shY y))).fdiv x19 = x3)))))) := by kernel_rfl
end Go.Proofs.Ytjpddnjgbgpegaa
end

section
namespace Go.Sx
open Go.RowKit
def sStr (s : ByteArray) : SA := .sc (.val (.string s))
def specS (g : ByteArray → SV) : FSpec := fun args =>
  match args with
  | [.sc (.val (.string s))] => some ([s.size < 9223372036854775808], g s)
  | _ => none
end Go.Sx
end

section
namespace Go.Sx
open Go.RowKit
theorem bnd_sU (a : Nat) : SA.bnd none0 (sU a) := by
  intro k hk; simp only [List.mem_singleton] at hk; subst hk; trivial
def specUJ (c : Nat → Int → List Prop) (g : Nat → Int → SV) : FSpec := fun args =>
  match args with
  | [x, y] => match asU x, asI y with
    | some (p, a), some (.i64, n) => some (p ++ c a n, g a n)
    | _, _ => none
  | _ => none
theorem FnOK_UJ {P : Program} {cx : Cx} (hcx : CxOK P cx) {iv : Nat → Int → List (Nat × Hint)} {N : Nat} {f : Nat} {fn : Func} (hf : P.funcs[f]? = some fn) (hb : fn.body.isSome = true) (hn : (fn.name == "runtime.NumGoroutine") = false) {c : Nat → Int → List Prop} {g : Nat → Int → SV} (hg : ∀ a n, (g a n).bnd none0)
    (h : ∀ a n, Ok (c a n) → Owes P cx (iv a n) N fn [sU a, sI .i64 n] (g a n)) : FnOKg P cx.gl f (specUJ c g) := by
  refine FnOK_of hf hb hn fun args ps sv hs hp => ?_
  unfold specUJ at hs
  split at hs
  · rename_i x y
    split at hs
    · rename_i p a n ha hn'
      simp only [Option.some.injEq, Prod.mk.injEq] at hs
      obtain ⟨rfl, rfl⟩ := hs
      obtain ⟨o1, o2⟩ := Ok.append.1 hp
      refine ⟨hg a n, fun ρ w hzz hgg _ => ?_⟩
      rw [show [x, y].map (SA.conc ρ) = [sU a, sI .i64 n].map (SA.conc ρ) by simp only [List.map_cons, List.map_nil, asU_canon ha o1 ρ, asI_canon hn' ρ]]
      refine (calls_of_owes0 hcx hf hb (args := [sU a, sI .i64 n]) (by
        intro z hz
        simp only [List.mem_cons, List.not_mem_nil, or_false] at hz
        rcases hz with rfl | rfl
        · exact bnd_sU _
        · trivial) (h a n o2) ρ w hzz hgg).mono ?_
      rintro e w' ⟨v, rfl, ⟨ρ', hr⟩, hbl⟩
      exact ⟨v, rfl, rep_none0 (hg a n) hr, hbl⟩
    · cases hs
  · cases hs
def specUUC (c : Nat → Nat → List Prop) (g : Nat → Nat → SV) : FSpec := fun args =>
  match args with
  | [x, y] => match asU x, asU y with
    | some (p, a), some (q, b) => some ((p ++ q) ++ c a b, g a b)
    | _, _ => none
  | _ => none
theorem FnOK_UUC {P : Program} {cx : Cx} (hcx : CxOK P cx) {iv : Nat → Nat → List (Nat × Hint)} {N : Nat} {f : Nat} {fn : Func} (hf : P.funcs[f]? = some fn) (hb : fn.body.isSome = true) (hn : (fn.name == "runtime.NumGoroutine") = false) {c : Nat → Nat → List Prop} {g : Nat → Nat → SV} (hg : ∀ a b, (g a b).bnd none0)
    (h : ∀ a b, Ok (c a b) → Owes P cx (iv a b) N fn [sU a, sU b] (g a b)) : FnOKg P cx.gl f (specUUC c g) := by
  refine FnOK_of hf hb hn fun args ps sv hs hp => ?_
  unfold specUUC at hs
  split at hs
  · rename_i x y
    split at hs
    · rename_i p a q b ha hb'
      simp only [Option.some.injEq, Prod.mk.injEq] at hs
      obtain ⟨rfl, rfl⟩ := hs
      obtain ⟨o12, o3⟩ := Ok.append.1 hp
      obtain ⟨o1, o2⟩ := Ok.append.1 o12
      refine ⟨hg a b, fun ρ w hzz hgg _ => ?_⟩
      rw [show [x, y].map (SA.conc ρ) = [sU a, sU b].map (SA.conc ρ) by simp only [List.map_cons, List.map_nil, asU_canon ha o1 ρ, asU_canon hb' o2 ρ]]
      refine (calls_of_owes0 hcx hf hb (args := [sU a, sU b]) (by
        intro z hz
        simp only [List.mem_cons, List.not_mem_nil, or_false] at hz
        rcases hz with rfl | rfl <;> exact bnd_sU _) (h a b o3) ρ w hzz hgg).mono ?_
      rintro e w' ⟨v, rfl, ⟨ρ', hr⟩, hbl⟩
      exact ⟨v, rfl, rep_none0 (hg a b) hr, hbl⟩
    · cases hs
  · cases hs
def specUWU (c : Nat → Int → Nat → List Prop) (g : Nat → Int → Nat → SV) : FSpec := fun args =>
  match args with
  | [x, y, z] => match asU x, asI y, asU z with
    | some (p, a), some (.u64, n), some (q, b) => some ((p ++ q) ++ c a n b, g a n b)
    | _, _, _ => none
  | _ => none
theorem FnOK_UWU {P : Program} {cx : Cx} (hcx : CxOK P cx) {iv : Nat → Int → Nat → List (Nat × Hint)} {N : Nat} {f : Nat} {fn : Func} (hf : P.funcs[f]? = some fn) (hb : fn.body.isSome = true) (hn : (fn.name == "runtime.NumGoroutine") = false) {c : Nat → Int → Nat → List Prop} {g : Nat → Int → Nat → SV} (hg : ∀ a n b, (g a n b).bnd none0)
    (h : ∀ a n b, Ok (c a n b) → Owes P cx (iv a n b) N fn [sU a, sI .u64 n, sU b] (g a n b)) : FnOKg P cx.gl f (specUWU c g) := by
  refine FnOK_of hf hb hn fun args ps sv hs hp => ?_
  unfold specUWU at hs
  split at hs
  · rename_i x y z
    split at hs
    · rename_i p a n q b ha hn' hb'
      simp only [Option.some.injEq, Prod.mk.injEq] at hs
      obtain ⟨rfl, rfl⟩ := hs
      obtain ⟨o12, o3⟩ := Ok.append.1 hp
      obtain ⟨o1, o2⟩ := Ok.append.1 o12
      refine ⟨hg a n b, fun ρ w hzz hgg _ => ?_⟩
      rw [show [x, y, z].map (SA.conc ρ) = [sU a, sI .u64 n, sU b].map (SA.conc ρ) by simp only [List.map_cons, List.map_nil, asU_canon ha o1 ρ, asI_canon hn' ρ, asU_canon hb' o2 ρ]]
      refine (calls_of_owes0 hcx hf hb (args := [sU a, sI .u64 n, sU b]) (by
        intro z hz
        simp only [List.mem_cons, List.not_mem_nil, or_false] at hz
        rcases hz with rfl | rfl | rfl
        · exact bnd_sU _
        · trivial
        · exact bnd_sU _) (h a n b o3) ρ w hzz hgg).mono ?_
      rintro e w' ⟨v, rfl, ⟨ρ', hr⟩, hbl⟩
      exact ⟨v, rfl, rep_none0 (hg a n b) hr, hbl⟩
    · cases hs
  · cases hs
end Go.Sx
end

section
namespace Go.Proofs.Ytjpddnjgbgpegaa
open Go.Sx
set_option maxRecDepth 100000
def guessC (h l y : Int) : List Prop := [w64ok h, w64ok l, w64ok y, 0 < y]
def guessN (h l y : Int) : Int := if h < y then (h * 18446744073709551616 + l) / y else 18446744073709551615
def guessG (h l y : Int) : SV := .one (sI .u64 (guessN h l y))
def cxGuess : Cx := [(61, specWWW divC divG)]
def bitsN (n : Nat) : Nat := if n = 0 then 0 else n.log2 + 1
def noughtsG (a : Nat) : SV := .one (sI .i64 ((256 - bitsN (a % M256) : Nat) : Int))
def cxNoughts : Cx := [(56, specW lzG)]
def moveC (_ : Nat) (n : Int) : List Prop := [0 ≤ n ∧ n ≤ 256]
def upG (a : Nat) (n : Int) : SV := .one (sU (a * 2 ^ n.toNat))
def downG (a : Nat) (n : Int) : SV := .one (sU (a % M256 / 2 ^ n.toNat))
def digC (r : Nat) (x : Int) (b : Nat) : List Prop := [w64ok x, r % M256 < b % M256, M256 ≤ 2 * (b % M256)]
def digR (r : Nat) (x : Int) : Nat := r % M256 * 18446744073709551616 + x.toNat
def digG (r : Nat) (x : Int) (b : Nat) : SV := .tup [sI .u64 ((digR r x / (b % M256) : Nat) : Int), sU (digR r x % (b % M256))]
def digAt (r : Nat) (x : Int) (b e : Nat) : Nat := M256 * 18446744073709551616 + digR r x % (b % M256) - e * (b % M256)
def invDig (r : Nat) (x : Int) (b : Nat) : Inv where
  X := Nat
  tm e := slotsAt 62 [(0, .one (sU r)), (1, .one (sI .u64 x)), (2, .one (sU b)), (3, .one (.sc (.ptr 0 0))), (5, .one (.sc (.ptr 1 0))), (6, .one (.sc (.num .u64 0))), (7, .one (.sc (.ptr 2 0))), (8, .one (sI .u64 ((digAt r x b e / M256 % 18446744073709551616 : Nat) : Int))), (9, .one (sI .u64 ((digR r x / (b % M256) + e : Nat) : Int)))]
  ob e := [.cells 24 [.u (digAt r x b e)] 0, .cells 24 [.u b] 0, .cells 24 [.c (.num .u64 0), .c (.num .u64 0), .c (.num .u64 0), .c (.num .u64 0)] 0]
  holds e := e ≤ 2 ∧ digR r x / (b % M256) + e < 18446744073709551616
  less e := e
def cxDig : Cx := [(57, specWWW guessC guessG), (45, specUI timesG), (58, specUU lessG), (59, specUU plusG)]
def dvC (_ b : Nat) : List Prop := [0 < b % M256]
def dvG (a b : Nat) : SV := .tup [sU (a % M256 / (b % M256)), sU (a % M256 % (b % M256))]
def cxDv : Cx := [(46, specU noughtsG), (47, specUJ moveC upG), (48, specUJ moveC downG), (49, specUWU digC digG)]
def dmG (a b : Nat) : SV := .tup [sU (if b % M256 = 0 then 0 else a % M256 / (b % M256)), sU (if b % M256 = 0 then 0 else a % M256 % (b % M256)), sI .i64 (if b % M256 = 0 then 7 else 0)]
def cxDm : Cx := [(38, specUUC dvC dvG)]
theorem vc_guess (h l y : Int) :
    Owes Try.prog cxGuess [] 100 Try.f57 [sI .u64 h, sI .u64 l, sI .u64 y] (guessG h l y) =
    ((Decidable.decide (h ≥ y) = Bool.true → (18446744073709551615 : Int) = guessN h l y) ∧ (Decidable.decide (h ≥ y) = Bool.false → ((0 : Int) ≤ h ∧ h < (18446744073709551616 : Int)) ∧ ((0 : Int) ≤ l ∧ l < (18446744073709551616 : Int)) ∧ ((0 : Int) ≤ y ∧ y < (18446744073709551616 : Int)) ∧ h < y ∧ (h * (18446744073709551616 : Int) + l) / y = guessN h l y)) := by kernel_rfl
theorem vc_noughts (a : Nat) :
    Owes Try.prog cxNoughts [] 100 Try.f46 [sU a] (noughtsG a) =
    (let x1 : Int := Go.IntKind.i64.wrap ((0 : Int) + ((64 : Int) - lenN (limb a 3))); let x2 : Int := (↑(256 - bitsN (a % M256)) : Int); let x3 : Int := Go.IntKind.i64.wrap (x1 + ((64 : Int) - lenN (limb a 2))); let x4 : Int := Go.IntKind.i64.wrap (x3 + ((64 : Int) - lenN (limb a 1))); ((0 : Int) ≤ limb a 3 ∧ limb a 3 < (18446744073709551616 : Int)) ∧ ((limb a 3 != (0 : Int)) = Bool.true → x1 = x2) ∧ ((limb a 3 != (0 : Int)) = Bool.false → ((0 : Int) ≤ limb a 2 ∧ limb a 2 < (18446744073709551616 : Int)) ∧ ((limb a 2 != (0 : Int)) = Bool.true → x3 = x2) ∧ ((limb a 2 != (0 : Int)) = Bool.false → ((0 : Int) ≤ limb a 1 ∧ limb a 1 < (18446744073709551616 : Int)) ∧ ((limb a 1 != (0 : Int)) = Bool.true → x4 = x2) ∧ ((limb a 1 != (0 : Int)) = Bool.false → ((0 : Int) ≤ limb a 0 ∧ limb a 0 < (18446744073709551616 : Int)) ∧ ((limb a 0 != (0 : Int)) = Bool.true → Go.IntKind.i64.wrap (x4 + ((64 : Int) - lenN (limb a 0))) = x2) ∧ ((limb a 0 != (0 : Int)) = Bool.false → Go.IntKind.i64.wrap (x4 + ((64 : Int) - lenN (limb a 0))) = x2))))) := by kernel_rfl
theorem vc_up (a : Nat) (n : Int) :
    Owes Try.prog Cx.none [(2, .split 6 4)] 100 Try.f47 [sU a, sI .i64 n] (upG a n) =
    (let x1 : Int := Go.IntKind.i64.wrap (n.tdiv (64 : Int)); let x2 : Int := Go.IntKind.i64.wrap ((64 : Int) - n.tmod (64 : Int)); let x3 : Int := (2 : Int) ^ Min.min (n.tmod (64 : Int)).toNat 64; let x4 : Int := Go.IntKind.u64.wrap (limb a 0 * x3); let x5 : Int := (2 : Int) ^ Min.min x2.toNat 64; let x6 : Int := Go.IntKind.u64.wrap (↑(BitVec.ofInt 64 (Go.IntKind.u64.wrap (limb a 1 * x3)) ||| BitVec.ofInt 64 ((limb a 0).fdiv x5)).toNat : Int); let x7 : Int := Go.IntKind.u64.wrap (↑(BitVec.ofInt 64 (Go.IntKind.u64.wrap (limb a 2 * x3)) ||| BitVec.ofInt 64 ((limb a 1).fdiv x5)).toNat : Int); let x8 : Int := Go.IntKind.u64.wrap (↑(BitVec.ofInt 64 (Go.IntKind.u64.wrap (limb a 3 * x3)) ||| BitVec.ofInt 64 ((limb a 2).fdiv x5)).toNat : Int); let x9 : Nat := a * 2 ^ n.toNat % M256; ((0 : Int) ≤ x1 ∧ x1 ≤ (4 : Int)) ∧ ((((x1 = (0 : Int) → (0 : Int) ≤ n.tmod (64 : Int) ∧ (0 : Int) ≤ n.tmod (64 : Int) ∧ (0 : Int) ≤ x2 ∧ (0 : Int) ≤ n.tmod (64 : Int) ∧ (0 : Int) ≤ x2 ∧ (0 : Int) ≤ n.tmod (64 : Int) ∧ (0 : Int) ≤ x2 ∧ ((0 : Int) ≤ x4 ∧ x4 < (18446744073709551616 : Int)) ∧ ((0 : Int) ≤ x6 ∧ x6 < (18446744073709551616 : Int)) ∧ ((0 : Int) ≤ x7 ∧ x7 < (18446744073709551616 : Int)) ∧ ((0 : Int) ≤ x8 ∧ x8 < (18446744073709551616 : Int)) ∧ join x4 x6 x7 x8 % M256 = x9 ∧ True) ∧ (x1 = (1 : Int) → (0 : Int) ≤ n.tmod (64 : Int) ∧ (0 : Int) ≤ n.tmod (64 : Int) ∧ (0 : Int) ≤ x2 ∧ (0 : Int) ≤ n.tmod (64 : Int) ∧ (0 : Int) ≤ x2 ∧ ((0 : Int) ≤ (0 : Int) ∧ (0 : Int) < (18446744073709551616 : Int)) ∧ ((0 : Int) ≤ x4 ∧ x4 < (18446744073709551616 : Int)) ∧ ((0 : Int) ≤ x6 ∧ x6 < (18446744073709551616 : Int)) ∧ ((0 : Int) ≤ x7 ∧ x7 < (18446744073709551616 : Int)) ∧ join (0 : Int) x4 x6 x7 % M256 = x9 ∧ True)) ∧ (x1 = (2 : Int) → (0 : Int) ≤ n.tmod (64 : Int) ∧ (0 : Int) ≤ n.tmod (64 : Int) ∧ (0 : Int) ≤ x2 ∧ ((0 : Int) ≤ (0 : Int) ∧ (0 : Int) < (18446744073709551616 : Int)) ∧ ((0 : Int) ≤ (0 : Int) ∧ (0 : Int) < (18446744073709551616 : Int)) ∧ ((0 : Int) ≤ x4 ∧ x4 < (18446744073709551616 : Int)) ∧ ((0 : Int) ≤ x6 ∧ x6 < (18446744073709551616 : Int)) ∧ join (0 : Int) (0 : Int) x4 x6 % M256 = x9 ∧ True)) ∧ (x1 = (3 : Int) → (0 : Int) ≤ n.tmod (64 : Int) ∧ ((0 : Int) ≤ (0 : Int) ∧ (0 : Int) < (18446744073709551616 : Int)) ∧ ((0 : Int) ≤ (0 : Int) ∧ (0 : Int) < (18446744073709551616 : Int)) ∧ ((0 : Int) ≤ (0 : Int) ∧ (0 : Int) < (18446744073709551616 : Int)) ∧ ((0 : Int) ≤ x4 ∧ x4 < (18446744073709551616 : Int)) ∧ join (0 : Int) (0 : Int) (0 : Int) x4 % M256 = x9 ∧ True)) ∧ (x1 = (4 : Int) → 0 = x9 ∧ True)) := by kernel_rfl
theorem vc_down (a : Nat) (n : Int) :
    Owes Try.prog Cx.none [(2, .split 6 4)] 100 Try.f48 [sU a, sI .i64 n] (downG a n) =
    (let x1 : Int := Go.IntKind.i64.wrap (n.tdiv (64 : Int)); let x2 : Int := Go.IntKind.i64.wrap ((64 : Int) - n.tmod (64 : Int)); let x3 : Int := (2 : Int) ^ Min.min (n.tmod (64 : Int)).toNat 64; let x4 : Int := (2 : Int) ^ Min.min x2.toNat 64; let x5 : Int := Go.IntKind.u64.wrap (↑(BitVec.ofInt 64 ((limb a 0).fdiv x3) ||| BitVec.ofInt 64 (Go.IntKind.u64.wrap (limb a 1 * x4))).toNat : Int); let x6 : Int := Go.IntKind.u64.wrap (↑(BitVec.ofInt 64 ((limb a 1).fdiv x3) ||| BitVec.ofInt 64 (Go.IntKind.u64.wrap (limb a 2 * x4))).toNat : Int); let x7 : Int := Go.IntKind.u64.wrap (↑(BitVec.ofInt 64 ((limb a 2).fdiv x3) ||| BitVec.ofInt 64 (Go.IntKind.u64.wrap (limb a 3 * x4))).toNat : Int); let x8 : Int := (limb a 3).fdiv x3; let x9 : Nat := a % M256 / 2 ^ n.toNat % M256; ((0 : Int) ≤ x1 ∧ x1 ≤ (4 : Int)) ∧ ((((x1 = (0 : Int) → (0 : Int) ≤ n.tmod (64 : Int) ∧ (0 : Int) ≤ x2 ∧ (0 : Int) ≤ n.tmod (64 : Int) ∧ (0 : Int) ≤ x2 ∧ (0 : Int) ≤ n.tmod (64 : Int) ∧ (0 : Int) ≤ x2 ∧ (0 : Int) ≤ n.tmod (64 : Int) ∧ ((0 : Int) ≤ x5 ∧ x5 < (18446744073709551616 : Int)) ∧ ((0 : Int) ≤ x6 ∧ x6 < (18446744073709551616 : Int)) ∧ ((0 : Int) ≤ x7 ∧ x7 < (18446744073709551616 : Int)) ∧ ((0 : Int) ≤ x8 ∧ x8 < (18446744073709551616 : Int)) ∧ join x5 x6 x7 x8 % M256 = x9 ∧ True) ∧ (x1 = (1 : Int) → (0 : Int) ≤ n.tmod (64 : Int) ∧ (0 : Int) ≤ x2 ∧ (0 : Int) ≤ n.tmod (64 : Int) ∧ (0 : Int) ≤ x2 ∧ (0 : Int) ≤ n.tmod (64 : Int) ∧ ((0 : Int) ≤ x6 ∧ x6 < (18446744073709551616 : Int)) ∧ ((0 : Int) ≤ x7 ∧ x7 < (18446744073709551616 : Int)) ∧ ((0 : Int) ≤ x8 ∧ x8 < (18446744073709551616 : Int)) ∧ ((0 : Int) ≤ (0 : Int) ∧ (0 : Int) < (18446744073709551616 : Int)) ∧ join x6 x7 x8 (0 : Int) % M256 = x9 ∧ True)) ∧ (x1 = (2 : Int) → (0 : Int) ≤ n.tmod (64 : Int) ∧ (0 : Int) ≤ x2 ∧ (0 : Int) ≤ n.tmod (64 : Int) ∧ ((0 : Int) ≤ x7 ∧ x7 < (18446744073709551616 : Int)) ∧ ((0 : Int) ≤ x8 ∧ x8 < (18446744073709551616 : Int)) ∧ ((0 : Int) ≤ (0 : Int) ∧ (0 : Int) < (18446744073709551616 : Int)) ∧ ((0 : Int) ≤ (0 : Int) ∧ (0 : Int) < (18446744073709551616 : Int)) ∧ join x7 x8 (0 : Int) (0 : Int) % M256 = x9 ∧ True)) ∧ (x1 = (3 : Int) → (0 : Int) ≤ n.tmod (64 : Int) ∧ ((0 : Int) ≤ x8 ∧ x8 < (18446744073709551616 : Int)) ∧ ((0 : Int) ≤ (0 : Int) ∧ (0 : Int) < (18446744073709551616 : Int)) ∧ ((0 : Int) ≤ (0 : Int) ∧ (0 : Int) < (18446744073709551616 : Int)) ∧ ((0 : Int) ≤ (0 : Int) ∧ (0 : Int) < (18446744073709551616 : Int)) ∧ join x8 (0 : Int) (0 : Int) (0 : Int) % M256 = x9 ∧ True)) ∧ (x1 = (4 : Int) → 0 = x9 ∧ True)) := by kernel_rfl
theorem vc_digit (r : Nat) (x : Int) (b : Nat) :
    Owes Try.prog cxDig [(7, .inv (invDig r x b))] 100 Try.f49 [sU r, sI .u64 x, sU b] (digG r x b) =
    (let x1 : Int := guessN (limb r 3) (limb r 2) (limb b 3); let x2 : Nat := b % M256; let x3 : Nat := digR r x / x2; let x4 : Nat := r % M256; let x5 : Nat := x1.toNat; let x6 : Nat := join x (limb r 0) (limb r 1) (limb r 2) % M256; let x7 : Nat := b * x5 % M256; ((0 : Int) ≤ limb r 3 ∧ limb r 3 < (18446744073709551616 : Int)) ∧ ((0 : Int) ≤ limb r 2 ∧ limb r 2 < (18446744073709551616 : Int)) ∧ ((0 : Int) ≤ limb b 3 ∧ limb b 3 < (18446744073709551616 : Int)) ∧ (0 : Int) < limb b 3 ∧ ((0 : Int) ≤ x1 ∧ x1 < (18446744073709551616 : Int)) ∧ ((0 : Int) ≤ x ∧ x < (18446744073709551616 : Int)) ∧ ((0 : Int) ≤ limb r 0 ∧ limb r 0 < (18446744073709551616 : Int)) ∧ ((0 : Int) ≤ limb r 1 ∧ limb r 1 < (18446744073709551616 : Int)) ∧ ((0 : Int) ≤ limb r 2 ∧ limb r 2 < (18446744073709551616 : Int)) ∧ (∀ (y : Nat), closedB (slotsAt 62 [(0, SV.one (sU r)), (1, SV.one (sI Go.IntKind.u64 x)), (2, SV.one (sU b)), (3, SV.one (SA.sc (SC.ptr 0 0))), (5, SV.one (SA.sc (SC.ptr 1 0))), (6, SV.one (SA.sc (SC.num Go.IntKind.u64 (0 : Int)))), (7, SV.one (SA.sc (SC.ptr 2 0))), (8, SV.one (sI Go.IntKind.u64 (↑(digAt r x b y / M256 % 18446744073709551616) : Int))), (9, SV.one (sI Go.IntKind.u64 (↑(x3 + y) : Int)))]) [SO.cells (24 : Go.TypeId) [SK.u (digAt r x b y)] 0, SO.cells (24 : Go.TypeId) [SK.u b] 0, SO.cells (24 : Go.TypeId) [SK.c (SC.num Go.IntKind.u64 (0 : Int)), SK.c (SC.num Go.IntKind.u64 (0 : Int)), SK.c (SC.num Go.IntKind.u64 (0 : Int)), SK.c (SC.num Go.IntKind.u64 (0 : Int))] 0] = Bool.true) ∧ ∃ (y : Nat), (y ≤ 2 ∧ x3 + y < 18446744073709551616) ∧ x4 = x4 ∧ x = x ∧ x2 = x2 ∧ Go.IntKind.u64.wrap (limb r 3 - Go.IntKind.u64.wrap ((↑(x2 * x5 / M256) : Int) + if x6 < x7 then (1 : Int) else (0 : Int))) = (↑(digAt r x b y / M256 % 18446744073709551616) : Int) ∧ x1 = (↑(x3 + y) : Int) ∧ (x6 + M256 - x7) % M256 = digAt r x b y % M256 ∧ 0 = 0 ∧ x2 = x2 ∧ 0 = 0 ∧ 0 = 0 ∧ ∀ (y : Nat), y ≤ 2 ∧ x3 + y < 18446744073709551616 → (((↑(digAt r x b y / M256 % 18446744073709551616) : Int) != (0 : Int)) = Bool.true → ∃ (y' : Nat), (y' ≤ 2 ∧ x3 + y' < 18446744073709551616) ∧ x4 = x4 ∧ x = x ∧ x2 = x2 ∧ Go.IntKind.u64.wrap ((↑(digAt r x b y / M256 % 18446744073709551616) : Int) + (↑((digAt r x b y % M256 + x2) / M256) : Int)) = (↑(digAt r x b y' / M256 % 18446744073709551616) : Int) ∧ Go.IntKind.u64.wrap ((↑(x3 + y) : Int) - (1 : Int)) = (↑(x3 + y') : Int) ∧ (digAt r x b y + b) % M256 = digAt r x b y' % M256 ∧ 0 = 0 ∧ x2 = x2 ∧ 0 = 0 ∧ 0 = 0 ∧ y' < y) ∧ (((↑(digAt r x b y / M256 % 18446744073709551616) : Int) != (0 : Int)) = Bool.false → (↑(x3 + y) : Int) = (↑x3 : Int) ∧ digAt r x b y % M256 = digR r x % x2 % M256 ∧ True)) := by kernel_rfl
theorem vc_divide (a b : Nat) :
    Owes Try.prog cxDv [] 100 Try.f38 [sU a, sU b] (dvG a b) =
    (let x1 : Nat := b % M256; let x2 : Int := (↑(256 - bitsN x1) : Int); let x3 : Int := Go.IntKind.i64.wrap ((256 : Int) - x2); let x4 : Nat := 2 ^ x2.toNat; let x5 : Int := limb (a * x4) 3; let x6 : Nat := a % M256; let x7 : Nat := x6 / 2 ^ x3.toNat; let x8 : Nat := b * x4 % M256; let x9 : Int := limb (a * x4) 2; let x10 : Nat := digR x7 x5; let x11 : Nat := x10 % x8; let x12 : Int := limb (a * x4) 1; let x13 : Nat := digR x11 x9; let x14 : Nat := x13 % x8; let x15 : Int := limb (a * x4) 0; let x16 : Nat := digR x14 x12; let x17 : Nat := x16 % x8; let x18 : Nat := digR x17 x15; let x19 : Int := (↑(x18 / x8) : Int); let x20 : Int := (↑(x16 / x8) : Int); let x21 : Int := (↑(x13 / x8) : Int); let x22 : Int := (↑(x10 / x8) : Int); ((0 : Int) ≤ x2 ∧ x2 ≤ (256 : Int)) ∧ ((0 : Int) ≤ x3 ∧ x3 ≤ (256 : Int)) ∧ ((0 : Int) ≤ x2 ∧ x2 ≤ (256 : Int)) ∧ ((0 : Int) ≤ x5 ∧ x5 < (18446744073709551616 : Int)) ∧ x7 % M256 < x8 ∧ M256 ≤ 2 * x8 ∧ ((0 : Int) ≤ x9 ∧ x9 < (18446744073709551616 : Int)) ∧ x11 % M256 < x8 ∧ M256 ≤ 2 * x8 ∧ ((0 : Int) ≤ x12 ∧ x12 < (18446744073709551616 : Int)) ∧ x14 % M256 < x8 ∧ M256 ≤ 2 * x8 ∧ ((0 : Int) ≤ x15 ∧ x15 < (18446744073709551616 : Int)) ∧ x17 % M256 < x8 ∧ M256 ≤ 2 * x8 ∧ ((0 : Int) ≤ x2 ∧ x2 ≤ (256 : Int)) ∧ (((0 : Int) ≤ x19 ∧ x19 < (18446744073709551616 : Int)) ∧ ((0 : Int) ≤ x20 ∧ x20 < (18446744073709551616 : Int)) ∧ ((0 : Int) ≤ x21 ∧ x21 < (18446744073709551616 : Int)) ∧ ((0 : Int) ≤ x22 ∧ x22 < (18446744073709551616 : Int)) ∧ join x19 x20 x21 x22 % M256 = x6 / x1 % M256 ∧ True) ∧ x18 % x8 % M256 / x4 % M256 = x6 % x1 % M256 ∧ True) := by kernel_rfl
theorem vc_DivMod (a b : Nat) :
    Owes Try.prog cxDm [] 100 Try.f24 [sU a, sU b] (dmG a b) =
    (let x1 : Nat := b % M256; let x2 : Nat := a % M256; let x3 : Nat := x2 / x1; let x4 : Nat := (if x1 = 0 then 0 else x3) % M256; let x5 : Nat := x2 % x1; let x6 : Nat := (if x1 = 0 then 0 else x5) % M256; let x7 : Int := if x1 = 0 then (7 : Int) else (0 : Int); (conj [x1 == 0] = Bool.true → (0 = x4 ∧ True) ∧ (0 = x6 ∧ True) ∧ (7 : Int) = x7) ∧ (conj [x1 == 0] = Bool.false → 0 < x1 ∧ (x3 % M256 = x4 ∧ True) ∧ (x5 % M256 = x6 ∧ True) ∧ (0 : Int) = x7)) := by kernel_rfl
end Go.Proofs.Ytjpddnjgbgpegaa
end

section
namespace Go.Proofs.Ytjpddnjgbgpegaa
open Go.Sx
set_option maxRecDepth 100000
def byteAt (s : ByteArray) (j : Nat) : Nat := (s.data.getD j 0).toNat
def allDig (s : ByteArray) : Nat → Bool
  | 0 => true
  | i + 1 => allDig s i && decide (48 ≤ byteAt s i ∧ byteAt s i ≤ 57)
def decB (s : ByteArray) : Bool := allDig s s.size && (decide (s.size = 1) || decide (1 < s.size ∧ byteAt s 0 ≠ 48))
def valP (s : ByteArray) : Nat → Nat
  | 0 => 0
  | i + 1 => 10 * valP s i + (byteAt s i - 48)
def parseE (s : ByteArray) : Int := if 78 < s.size then 1 else if decB s = false then 3 else if M256 ≤ valP s s.size then 6 else 0
def parseV (s : ByteArray) : Nat := if parseE s = 0 then valP s s.size else 0
def parseG (s : ByteArray) : SV := .tup [sU (parseV s), sI .i64 (parseE s)]
end Go.Proofs.Ytjpddnjgbgpegaa
end

section
namespace Go.Proofs.Ytjpddnjgbgpegaa
open Go.Sx
set_option maxRecDepth 100000
def cxTen : Cx := [(45, specUI timesG)]
def invTen (n : Int) : Inv where
  X := Nat
  tm i := slotsAt 23 [(0, .one (sI .i64 n)), (2, .one (.sc (.ptr 0 0))), (4, .one (.sc (.ptr 1 0))), (13, .one (sI .i64 n)), (14, .one (sI .i64 i))]
  ob i := [.cells 24 [.c (.num .u64 0), .c (.num .u64 0), .c (.num .u64 0), .c (.num .u64 0)] 0, .cells 24 [.u (10 ^ i)] 0]
  holds i := (i : Int) ≤ n
  less i := n.toNat - i
theorem vc_Ten (n : Int) :
    Owes Try.prog cxTen [(5, .inv (invTen n))] 100 Try.f37 [sI .i64 n] (tenG n) =
    (let x1 : Bool := Decidable.decide (n < (0 : Int)); let x2 : Nat := (if (0 : Int) ≤ n ∧ n ≤ (77 : Int) then 10 ^ n.toNat else 0) % M256; let x3 : Int := if (0 : Int) ≤ n ∧ n ≤ (77 : Int) then (0 : Int) else (6 : Int); ((!x1) = Bool.true → (!x1) = Bool.true) ∧ (x1 = Bool.false → (!x1) = Bool.true) ∧ ((x1 || Decidable.decide (n > (77 : Int))) = Bool.true → (0 = x2 ∧ True) ∧ (6 : Int) = x3) ∧ ((x1 || Decidable.decide (n > (77 : Int))) = Bool.false → (∀ (y : Nat), closedB (slotsAt 23 [(0, SV.one (sI Go.IntKind.i64 n)), (2, SV.one (SA.sc (SC.ptr 0 0))), (4, SV.one (SA.sc (SC.ptr 1 0))), (13, SV.one (sI Go.IntKind.i64 n)), (14, SV.one (sI Go.IntKind.i64 (↑y : Int)))]) [SO.cells (24 : Go.TypeId) [SK.c (SC.num Go.IntKind.u64 (0 : Int)), SK.c (SC.num Go.IntKind.u64 (0 : Int)), SK.c (SC.num Go.IntKind.u64 (0 : Int)), SK.c (SC.num Go.IntKind.u64 (0 : Int))] 0, SO.cells (24 : Go.TypeId) [SK.u (10 ^ y)] 0] = Bool.true) ∧ ∃ (y : Nat), (↑y : Int) ≤ n ∧ n = n ∧ n = n ∧ (0 : Int) = (↑y : Int) ∧ 0 = 0 ∧ (1 = 10 ^ y % M256 ∧ True) ∧ 0 = 0 ∧ ∀ (y : Nat), (↑y : Int) ≤ n → (Decidable.decide ((↑y : Int) < n) = Bool.true → ((0 : Int) ≤ (10 : Int) ∧ (10 : Int) < (18446744073709551616 : Int)) ∧ ∃ (y' : Nat), (↑y' : Int) ≤ n ∧ n = n ∧ n = n ∧ Go.IntKind.i64.wrap ((↑y : Int) + (1 : Int)) = (↑y' : Int) ∧ 0 = 0 ∧ 10 ^ y * 10 % M256 = 10 ^ y' % M256 ∧ 0 = 0 ∧ n.toNat - y' < n.toNat - y) ∧ (Decidable.decide ((↑y : Int) < n) = Bool.false → (10 ^ y % M256 = x2 ∧ True) ∧ (0 : Int) = x3))) := by kernel_rfl
end Go.Proofs.Ytjpddnjgbgpegaa
end

section
namespace Go.Proofs.Ytjpddnjgbgpegaa
open Go.Sx
theorem split4 (n : Nat) : ∃ a b c d : Nat, limb n 0 = a ∧ limb n 1 = b ∧ limb n 2 = c ∧ limb n 3 = d ∧ a < 18446744073709551616 ∧ b < 18446744073709551616 ∧ c < 18446744073709551616 ∧ d < 18446744073709551616 ∧
    n % M256 = a + 18446744073709551616 * b + 340282366920938463463374607431768211456 * c + 6277101735386680763835789423207666416102355444464034512896 * d := by
  refine ⟨n / 2 ^ (64 * 0) % 2 ^ 64, n / 2 ^ (64 * 1) % 2 ^ 64, n / 2 ^ (64 * 2) % 2 ^ 64, n / 2 ^ (64 * 3) % 2 ^ 64, rfl, rfl, rfl, rfl, Nat.mod_lt _ (by decide), Nat.mod_lt _ (by decide), Nat.mod_lt _ (by decide), Nat.mod_lt _ (by decide), ?_⟩
  rw [limbs_sum]
  simp only [Nat.mul_zero, Nat.pow_zero, Nat.div_one, Nat.mul_one, Nat.reduceMul, Nat.reducePow]
theorem M256_eq : M256 = 115792089237316195423570985008687907853269984665640564039457584007913129639936 := by decide
theorem carry_step (x y c : Nat) (hx : x < 18446744073709551616) (hy : y < 18446744073709551616) (hc : c ≤ 1) :
    ∃ s d : Nat, ((x : Int) + y + c) % 18446744073709551616 = s ∧ ((x : Int) + y + c) / 18446744073709551616 = d ∧ s < 18446744073709551616 ∧ d ≤ 1 ∧ x + y + c = s + 18446744073709551616 * d :=
  ⟨(x + y + c) % 18446744073709551616, (x + y + c) / 18446744073709551616, by omega, by omega, by omega, by omega, by omega⟩
theorem divmod_of {A S c M : Nat} (h : A = S + M * c) (hS : S < M) : A % M = S ∧ A / M = c := by
  subst h
  rw [Nat.add_mul_mod_self_left, Nat.mod_eq_of_lt hS, Nat.add_mul_div_left _ _ (by omega), Nat.div_eq_of_lt hS]
  exact ⟨rfl, by omega⟩
theorem ok_plus : ∀ a b, Owes Try.prog cxPlus [] 100 Try.f59 [sU a, sU b] (plusG a b) := by
  intro a b
  rw [vc_plus]
  have hab := Nat.add_mod a b M256
  obtain ⟨a0, a1, a2, a3, e0, e1, e2, e3, h0, h1, h2, h3, ha⟩ := split4 a
  obtain ⟨b0, b1, b2, b3, f0, f1, f2, f3, k0, k1, k2, k3, hb⟩ := split4 b
  rw [e0, e1, e2, e3, f0, f1, f2, f3]
  rw [ha, hb] at hab
  rw [ha, hb]
  obtain ⟨s0, c0, p0, q0, r0, t0, w0⟩ := carry_step a0 b0 0 h0 k0 (by omega)
  obtain ⟨s1, c1, p1, q1, r1, t1, w1⟩ := carry_step a1 b1 c0 h1 k1 t0
  obtain ⟨s2, c2, p2, q2, r2, t2, w2⟩ := carry_step a2 b2 c1 h2 k2 t1
  obtain ⟨s3, c3, p3, q3, r3, t3, w3⟩ := carry_step a3 b3 c2 h3 k3 t2
  simp only [Int.natCast_zero] at p0 q0
  obtain ⟨m1, m2⟩ := divmod_of (A := a0 + 18446744073709551616 * a1 + 340282366920938463463374607431768211456 * a2 + 6277101735386680763835789423207666416102355444464034512896 * a3 +
    (b0 + 18446744073709551616 * b1 + 340282366920938463463374607431768211456 * b2 + 6277101735386680763835789423207666416102355444464034512896 * b3))
    (S := s0 + 2 ^ 64 * s1 + 2 ^ 128 * s2 + 2 ^ 192 * s3) (c := c3) (M := M256) (by rw [M256_eq]; omega) (by rw [M256_eq]; omega)
  rw [m1] at hab
  have hS : (s0 + 2 ^ 64 * s1 + 2 ^ 128 * s2 + 2 ^ 192 * s3) % M256 = s0 + 2 ^ 64 * s1 + 2 ^ 128 * s2 + 2 ^ 192 * s3 := Nat.mod_eq_of_lt (by rw [M256_eq]; omega)
  simp only [q0, q1, q2, q3, p0, p1, p2, p3, join, Int.toNat_natCast, and_true, hab, hS, m2]
  clear ha hb hab hS m1 m2 p0 p1 p2 p3 q0 q1 q2 q3 w0 w1 w2 w3 e0 e1 e2 e3 f0 f1 f2 f3
  refine ⟨?_, ?_, ?_, ?_, ?_, ?_, ?_, ?_, ?_, ?_, ?_, ?_, ?_, ?_, ?_, ?_⟩ <;> omega
theorem borrow_step (x y c : Nat) (hx : x < 18446744073709551616) (hy : y < 18446744073709551616) (hc : c ≤ 1) :
    ∃ s d : Nat, ((x : Int) - y - c) % 18446744073709551616 = s ∧ -(((x : Int) - y - c) / 18446744073709551616) = d ∧ s < 18446744073709551616 ∧ d ≤ 1 ∧ x + 18446744073709551616 * d = s + y + c :=
  ⟨(((x : Int) - y - c) % 18446744073709551616).toNat, (-(((x : Int) - y - c) / 18446744073709551616)).toNat, by omega, by omega, by omega, by omega, by omega⟩
theorem ok_less : ∀ a b, Owes Try.prog cxLess [] 100 Try.f58 [sU a, sU b] (lessG a b) := by
  intro a b
  rw [vc_less]
  obtain ⟨a0, a1, a2, a3, e0, e1, e2, e3, h0, h1, h2, h3, ha⟩ := split4 a
  obtain ⟨b0, b1, b2, b3, f0, f1, f2, f3, k0, k1, k2, k3, hb⟩ := split4 b
  rw [e0, e1, e2, e3, f0, f1, f2, f3, ha, hb]
  obtain ⟨s0, c0, p0, q0, r0, t0, w0⟩ := borrow_step a0 b0 0 h0 k0 (by omega)
  obtain ⟨s1, c1, p1, q1, r1, t1, w1⟩ := borrow_step a1 b1 c0 h1 k1 t0
  obtain ⟨s2, c2, p2, q2, r2, t2, w2⟩ := borrow_step a2 b2 c1 h2 k2 t1
  obtain ⟨s3, c3, p3, q3, r3, t3, w3⟩ := borrow_step a3 b3 c2 h3 k3 t2
  simp only [Int.natCast_zero] at p0 q0
  have key : a0 + 18446744073709551616 * a1 + 340282366920938463463374607431768211456 * a2 + 6277101735386680763835789423207666416102355444464034512896 * a3 + M256 * c3 =
    (s0 + 2 ^ 64 * s1 + 2 ^ 128 * s2 + 2 ^ 192 * s3) + (b0 + 18446744073709551616 * b1 + 340282366920938463463374607431768211456 * b2 + 6277101735386680763835789423207666416102355444464034512896 * b3) := by
    rw [M256_eq]; omega
  simp only [q0, q1, q2, q3, p0, p1, p2, p3, join, Int.toNat_natCast, and_true]
  generalize hA : a0 + 18446744073709551616 * a1 + 340282366920938463463374607431768211456 * a2 + 6277101735386680763835789423207666416102355444464034512896 * a3 = A at *
  generalize hB : b0 + 18446744073709551616 * b1 + 340282366920938463463374607431768211456 * b2 + 6277101735386680763835789423207666416102355444464034512896 * b3 = B at *
  have hA' : A < M256 := by rw [M256_eq]; omega
  have hB' : B < M256 := by rw [M256_eq]; omega
  have hS' : s0 + 2 ^ 64 * s1 + 2 ^ 128 * s2 + 2 ^ 192 * s3 < M256 := by rw [M256_eq]; omega
  generalize s0 + 2 ^ 64 * s1 + 2 ^ 128 * s2 + 2 ^ 192 * s3 = S at *
  rw [Nat.mod_eq_of_lt hS']
  have hc3 : c3 = 0 ∨ c3 = 1 := by omega
  have fin : S = (A + M256 - B) % M256 ∧ (c3 : Int) = if A < B then 1 else 0 := by
    rcases hc3 with rfl | rfl
    · have : ¬ A < B := by omega
      rw [if_neg this]
      refine ⟨?_, rfl⟩
      rw [show A + M256 - B = S + M256 by omega, Nat.add_mod_right, Nat.mod_eq_of_lt hS']
    · have : A < B := by omega
      rw [if_pos this]
      refine ⟨?_, rfl⟩
      rw [show A + M256 - B = S by omega, Nat.mod_eq_of_lt hS']
  obtain ⟨g1, g2⟩ := fin
  rw [← g1, ← g2]
  clear ha hb hA hB key hA' hB' hS' g1 g2 p0 p1 p2 p3 q0 q1 q2 q3 w0 w1 w2 w3 e0 e1 e2 e3 f0 f1 f2 f3
  repeat' apply And.intro
  all_goals first | rfl | omega
end Go.Proofs.Ytjpddnjgbgpegaa
end

section
namespace Go.Proofs.Ytjpddnjgbgpegaa
open Go.Sx
end Go.Proofs.Ytjpddnjgbgpegaa
end

section
namespace Go.Proofs.Ytjpddnjgbgpegaa
open Go.Sx
theorem wrap_id {n : Int} (h : 0 ≤ n ∧ n < 18446744073709551616) : IntKind.u64.wrap n = n := by
  unfold IntKind.wrap
  simp [IntKind.signed, IntKind.bits]
  omega
theorem limbs_int (a : Nat) : ((a % M256 : Nat) : Int) = limb a 0 + 18446744073709551616 * limb a 1 + 340282366920938463463374607431768211456 * limb a 2 + 6277101735386680763835789423207666416102355444464034512896 * limb a 3 := by
  obtain ⟨a0, a1, a2, a3, e0, e1, e2, e3, _, _, _, _, ha⟩ := split4 a
  rw [ha, e0, e1, e2, e3]
  omega
theorem mul_fin (a b : Nat) (c0 c1 c2 c3 c4 c5 c6 c7 : Int) (h0 : 0 ≤ c0 ∧ c0 < 18446744073709551616) (h1 : 0 ≤ c1 ∧ c1 < 18446744073709551616) (h2 : 0 ≤ c2 ∧ c2 < 18446744073709551616) (h3 : 0 ≤ c3 ∧ c3 < 18446744073709551616)
    (h4 : 0 ≤ c4 ∧ c4 < 18446744073709551616) (h5 : 0 ≤ c5 ∧ c5 < 18446744073709551616) (h6 : 0 ≤ c6 ∧ c6 < 18446744073709551616) (h7 : 0 ≤ c7 ∧ c7 < 18446744073709551616)
    (h : ((a % M256 : Nat) : Int) * ((b % M256 : Nat) : Int) = c0 + 18446744073709551616 * c1 + 340282366920938463463374607431768211456 * c2 + 6277101735386680763835789423207666416102355444464034512896 * c3 + 115792089237316195423570985008687907853269984665640564039457584007913129639936 * (c4 + 18446744073709551616 * c5 + 340282366920938463463374607431768211456 * c6 + 6277101735386680763835789423207666416102355444464034512896 * c7)) :
    join c0 c1 c2 c3 % M256 = a * b % M256 ∧ join c4 c5 c6 c7 % M256 = a % M256 * (b % M256) / M256 % M256 := by
  obtain ⟨c0, rfl⟩ := Int.eq_ofNat_of_zero_le h0.1
  obtain ⟨c1, rfl⟩ := Int.eq_ofNat_of_zero_le h1.1
  obtain ⟨c2, rfl⟩ := Int.eq_ofNat_of_zero_le h2.1
  obtain ⟨c3, rfl⟩ := Int.eq_ofNat_of_zero_le h3.1
  obtain ⟨c4, rfl⟩ := Int.eq_ofNat_of_zero_le h4.1
  obtain ⟨c5, rfl⟩ := Int.eq_ofNat_of_zero_le h5.1
  obtain ⟨c6, rfl⟩ := Int.eq_ofNat_of_zero_le h6.1
  obtain ⟨c7, rfl⟩ := Int.eq_ofNat_of_zero_le h7.1
  have hm := Nat.mul_mod a b M256
  rw [← Int.natCast_mul] at h
  generalize a % M256 * (b % M256) = g at h hm
  have e : g = join c0 c1 c2 c3 + M256 * join c4 c5 c6 c7 := by
    unfold join
    rw [M256_eq]
    simp only [Int.toNat_natCast, Nat.reducePow]
    omega
  have hlt : join c0 c1 c2 c3 < M256 := join_lt (by omega) (by omega) (by omega) (by omega)
  obtain ⟨k1, k2⟩ := divmod_of e hlt
  refine ⟨by rw [hm, k1, Nat.mod_eq_of_lt hlt], by rw [k2]⟩
theorem mac (X O P : Int) (hX : 0 ≤ X ∧ X ≤ 340282366920938463426481119284349108225) (hO : 0 ≤ O ∧ O < 18446744073709551616) (hP : 0 ≤ P ∧ P < 18446744073709551616) :
    X + O + P = (P + (X % 18446744073709551616 + O + 0) % 18446744073709551616 + 0) % 18446744073709551616 +
      18446744073709551616 * IntKind.u64.wrap (IntKind.u64.wrap (X / 18446744073709551616 + (X % 18446744073709551616 + O + 0) / 18446744073709551616) + (P + (X % 18446744073709551616 + O + 0) % 18446744073709551616 + 0) / 18446744073709551616) ∧
    (0 ≤ (P + (X % 18446744073709551616 + O + 0) % 18446744073709551616 + 0) % 18446744073709551616 ∧ (P + (X % 18446744073709551616 + O + 0) % 18446744073709551616 + 0) % 18446744073709551616 < 18446744073709551616) ∧
    (0 ≤ IntKind.u64.wrap (IntKind.u64.wrap (X / 18446744073709551616 + (X % 18446744073709551616 + O + 0) / 18446744073709551616) + (P + (X % 18446744073709551616 + O + 0) % 18446744073709551616 + 0) / 18446744073709551616) ∧
     IntKind.u64.wrap (IntKind.u64.wrap (X / 18446744073709551616 + (X % 18446744073709551616 + O + 0) / 18446744073709551616) + (P + (X % 18446744073709551616 + O + 0) % 18446744073709551616 + 0) / 18446744073709551616) < 18446744073709551616) := by
  have h1 : IntKind.u64.wrap (X / 18446744073709551616 + (X % 18446744073709551616 + O + 0) / 18446744073709551616) = X / 18446744073709551616 + (X % 18446744073709551616 + O + 0) / 18446744073709551616 := wrap_id (by omega)
  rw [h1, wrap_id (by omega)]
  omega
theorem limb_mul (a b : Nat) (i j : Nat) : 0 ≤ limb a i * limb b j ∧ limb a i * limb b j ≤ 340282366920938463426481119284349108225 := by
  have h1 := limb_nonneg a i
  have h2 := limb_nonneg b j
  have h3 := limb_lt a i
  have h4 := limb_lt b j
  refine ⟨Int.mul_nonneg h1 h2, ?_⟩
  have : limb a i * limb b j ≤ 18446744073709551615 * 18446744073709551615 := Int.mul_le_mul (by omega) (by omega) h2 (by decide)
  omega
theorem mul_weigh (a b c0 c1 c2 c3 c4 c5 c6 c7 : Int) (a0 a1 a2 a3 b0 b1 b2 b3 : Int) (ha : a = a0 + 18446744073709551616 * a1 + 340282366920938463463374607431768211456 * a2 + 6277101735386680763835789423207666416102355444464034512896 * a3)
    (hb : b = b0 + 18446744073709551616 * b1 + 340282366920938463463374607431768211456 * b2 + 6277101735386680763835789423207666416102355444464034512896 * b3)
    (h : a0 * b0 + 18446744073709551616 * (a0 * b1 + a1 * b0) + 340282366920938463463374607431768211456 * (a0 * b2 + a1 * b1 + a2 * b0) + 6277101735386680763835789423207666416102355444464034512896 * (a0 * b3 + a1 * b2 + a2 * b1 + a3 * b0) +
      115792089237316195423570985008687907853269984665640564039457584007913129639936 * (a1 * b3 + a2 * b2 + a3 * b1) + 2135987035920910082395021706169552114602704522356652769947041607822219725780640550022962086936576 * (a2 * b3 + a3 * b2) + 39402006196394479212279040100143613805079739270465446667948293404245721771497210611414266254884915640806627990306816 * (a3 * b3) =
      c0 + 18446744073709551616 * c1 + 340282366920938463463374607431768211456 * c2 + 6277101735386680763835789423207666416102355444464034512896 * c3 + 115792089237316195423570985008687907853269984665640564039457584007913129639936 * c4 + 2135987035920910082395021706169552114602704522356652769947041607822219725780640550022962086936576 * c5 + 39402006196394479212279040100143613805079739270465446667948293404245721771497210611414266254884915640806627990306816 * c6 + 726838724295606890549323807888004534353641360687318060281490199180639288113397923326191050713763565560762521606266177933534601628614656 * c7) :
    a * b = c0 + 18446744073709551616 * c1 + 340282366920938463463374607431768211456 * c2 + 6277101735386680763835789423207666416102355444464034512896 * c3 + 115792089237316195423570985008687907853269984665640564039457584007913129639936 * (c4 + 18446744073709551616 * c5 + 340282366920938463463374607431768211456 * c6 + 6277101735386680763835789423207666416102355444464034512896 * c7) := by
  subst ha hb
  simp only [Int.add_mul, Int.mul_add, Int.mul_assoc] at h ⊢
  have e : ∀ (x y : Int) (k : Int), x * (k * y) = k * (x * y) := fun x y k => Int.mul_left_comm x k y
  simp only [e a0, e a1, e a2, e a3] at h ⊢
  omega
set_option maxRecDepth 100000 in
theorem ok_Mul : ∀ a b, Owes Try.prog cxMul2 [] 100 Try.f27 [sU a, sU b] (mulG a b) := by
  intro a b
  rw [vc_Mul]
  have hm := limb_mul a b
  have h01 : (0 : Int) ≤ 1 := by decide
  have hz : (0 : Int) ≤ 0 ∧ (0 : Int) < 18446744073709551616 := by decide
  have hl : ∀ n i, (0 : Int) ≤ limb n i ∧ limb n i < 18446744073709551616 := fun n i => ⟨limb_nonneg n i, limb_lt n i⟩
  intro x1 x2 x3 x4 x5 x6 x7 x8 x9 x10 x11 x12 x13 x14 x15 x16 x17 x18 x19 x20 x21 x22 x23 x24 x25 x26 x27 x28 x29 x30 x31 x32 x33 x34 x35 x36 x37 x38 x39 x40 x41 x42 x43 x44 x45 x46 x47 x48 x49 x50 x51 x52 x53 x54 x55 x56 x57 x58 x59 x60 x61 x62 x63 x64 x65 x66 x67 x68 x69 x70 x71 x72 x73 x74 x75 x76 x77 x78 x79 x80 x81 x82 x83 x84 x85 x86 x87 x88 x89 x90 x91 x92 x93 x94 x95 x96 x97 x98 x99 x100 x101 x102 x103 x104 x105 x106 x107 x108 x109 x110 x111 x112
  obtain ⟨f0_0, p0_0, r0_0⟩ : x1 + 0 + 0 = x104 + 18446744073709551616 * x8 ∧ (0 ≤ x104 ∧ x104 < 18446744073709551616) ∧ (0 ≤ x8 ∧ x8 < 18446744073709551616) := mac x1 0 0 (hm 0 0) hz hz
  obtain ⟨f0_1, p0_1, r0_1⟩ : x5 + x8 + 0 = x25 + 18446744073709551616 * x14 ∧ (0 ≤ x25 ∧ x25 < 18446744073709551616) ∧ (0 ≤ x14 ∧ x14 < 18446744073709551616) := mac x5 x8 0 (hm 0 1) r0_0 hz
  obtain ⟨f0_2, p0_2, r0_2⟩ : x11 + x14 + 0 = x32 + 18446744073709551616 * x20 ∧ (0 ≤ x32 ∧ x32 < 18446744073709551616) ∧ (0 ≤ x20 ∧ x20 < 18446744073709551616) := mac x11 x14 0 (hm 0 2) r0_1 hz
  obtain ⟨f0_3, p0_3, r0_3⟩ : x17 + x20 + 0 = x40 + 18446744073709551616 * x47 ∧ (0 ≤ x40 ∧ x40 < 18446744073709551616) ∧ (0 ≤ x47 ∧ x47 < 18446744073709551616) := mac x17 x20 0 (hm 0 3) r0_2 hz
  obtain ⟨f1_0, p1_0, r1_0⟩ : x23 + 0 + x25 = x105 + 18446744073709551616 * x31 ∧ (0 ≤ x105 ∧ x105 < 18446744073709551616) ∧ (0 ≤ x31 ∧ x31 < 18446744073709551616) := mac x23 0 x25 (hm 1 0) hz p0_1
  obtain ⟨f1_1, p1_1, r1_1⟩ : x28 + x31 + x32 = x52 + 18446744073709551616 * x38 ∧ (0 ≤ x52 ∧ x52 < 18446744073709551616) ∧ (0 ≤ x38 ∧ x38 < 18446744073709551616) := mac x28 x31 x32 (hm 1 1) r1_0 p0_2
  obtain ⟨f1_2, p1_2, r1_2⟩ : x35 + x38 + x40 = x59 + 18446744073709551616 * x46 ∧ (0 ≤ x59 ∧ x59 < 18446744073709551616) ∧ (0 ≤ x46 ∧ x46 < 18446744073709551616) := mac x35 x38 x40 (hm 1 2) r1_1 p0_3
  obtain ⟨f1_3, p1_3, r1_3⟩ : x43 + x46 + x47 = x67 + 18446744073709551616 * x74 ∧ (0 ≤ x67 ∧ x67 < 18446744073709551616) ∧ (0 ≤ x74 ∧ x74 < 18446744073709551616) := mac x43 x46 x47 (hm 1 3) r1_2 r0_3
  obtain ⟨f2_0, p2_0, r2_0⟩ : x50 + 0 + x52 = x106 + 18446744073709551616 * x58 ∧ (0 ≤ x106 ∧ x106 < 18446744073709551616) ∧ (0 ≤ x58 ∧ x58 < 18446744073709551616) := mac x50 0 x52 (hm 2 0) hz p1_1
  obtain ⟨f2_1, p2_1, r2_1⟩ : x55 + x58 + x59 = x79 + 18446744073709551616 * x65 ∧ (0 ≤ x79 ∧ x79 < 18446744073709551616) ∧ (0 ≤ x65 ∧ x65 < 18446744073709551616) := mac x55 x58 x59 (hm 2 1) r2_0 p1_2
  obtain ⟨f2_2, p2_2, r2_2⟩ : x62 + x65 + x67 = x86 + 18446744073709551616 * x73 ∧ (0 ≤ x86 ∧ x86 < 18446744073709551616) ∧ (0 ≤ x73 ∧ x73 < 18446744073709551616) := mac x62 x65 x67 (hm 2 2) r2_1 p1_3
  obtain ⟨f2_3, p2_3, r2_3⟩ : x70 + x73 + x74 = x94 + 18446744073709551616 * x101 ∧ (0 ≤ x94 ∧ x94 < 18446744073709551616) ∧ (0 ≤ x101 ∧ x101 < 18446744073709551616) := mac x70 x73 x74 (hm 2 3) r2_2 r1_3
  obtain ⟨f3_0, p3_0, r3_0⟩ : x77 + 0 + x79 = x107 + 18446744073709551616 * x85 ∧ (0 ≤ x107 ∧ x107 < 18446744073709551616) ∧ (0 ≤ x85 ∧ x85 < 18446744073709551616) := mac x77 0 x79 (hm 3 0) hz p2_1
  obtain ⟨f3_1, p3_1, r3_1⟩ : x82 + x85 + x86 = x108 + 18446744073709551616 * x92 ∧ (0 ≤ x108 ∧ x108 < 18446744073709551616) ∧ (0 ≤ x92 ∧ x92 < 18446744073709551616) := mac x82 x85 x86 (hm 3 1) r3_0 p2_2
  obtain ⟨f3_2, p3_2, r3_2⟩ : x89 + x92 + x94 = x109 + 18446744073709551616 * x100 ∧ (0 ≤ x109 ∧ x109 < 18446744073709551616) ∧ (0 ≤ x100 ∧ x100 < 18446744073709551616) := mac x89 x92 x94 (hm 3 2) r3_1 p2_3
  obtain ⟨f3_3, p3_3, r3_3⟩ : x97 + x100 + x101 = x111 + 18446744073709551616 * x112 ∧ (0 ≤ x111 ∧ x111 < 18446744073709551616) ∧ (0 ≤ x112 ∧ x112 < 18446744073709551616) := mac x97 x100 x101 (hm 3 3) r3_2 r2_3
  have n_x2 : 0 ≤ x2 := Int.emod_nonneg _ (by decide)
  have n_x4 : 0 ≤ x4 := Int.emod_nonneg _ (by decide)
  have n_x6 : 0 ≤ x6 := Int.emod_nonneg _ (by decide)
  have n_x10 : 0 ≤ x10 := Int.emod_nonneg _ (by decide)
  have n_x12 : 0 ≤ x12 := Int.emod_nonneg _ (by decide)
  have n_x16 : 0 ≤ x16 := Int.emod_nonneg _ (by decide)
  have n_x18 : 0 ≤ x18 := Int.emod_nonneg _ (by decide)
  have n_x22 : 0 ≤ x22 := Int.emod_nonneg _ (by decide)
  have n_x24 : 0 ≤ x24 := Int.emod_nonneg _ (by decide)
  have n_x25 : 0 ≤ x25 := Int.emod_nonneg _ (by decide)
  have n_x27 : 0 ≤ x27 := Int.emod_nonneg _ (by decide)
  have n_x29 : 0 ≤ x29 := Int.emod_nonneg _ (by decide)
  have n_x32 : 0 ≤ x32 := Int.emod_nonneg _ (by decide)
  have n_x34 : 0 ≤ x34 := Int.emod_nonneg _ (by decide)
  have n_x36 : 0 ≤ x36 := Int.emod_nonneg _ (by decide)
  have n_x40 : 0 ≤ x40 := Int.emod_nonneg _ (by decide)
  have n_x42 : 0 ≤ x42 := Int.emod_nonneg _ (by decide)
  have n_x44 : 0 ≤ x44 := Int.emod_nonneg _ (by decide)
  have n_x49 : 0 ≤ x49 := Int.emod_nonneg _ (by decide)
  have n_x51 : 0 ≤ x51 := Int.emod_nonneg _ (by decide)
  have n_x52 : 0 ≤ x52 := Int.emod_nonneg _ (by decide)
  have n_x54 : 0 ≤ x54 := Int.emod_nonneg _ (by decide)
  have n_x56 : 0 ≤ x56 := Int.emod_nonneg _ (by decide)
  have n_x59 : 0 ≤ x59 := Int.emod_nonneg _ (by decide)
  have n_x61 : 0 ≤ x61 := Int.emod_nonneg _ (by decide)
  have n_x63 : 0 ≤ x63 := Int.emod_nonneg _ (by decide)
  have n_x67 : 0 ≤ x67 := Int.emod_nonneg _ (by decide)
  have n_x69 : 0 ≤ x69 := Int.emod_nonneg _ (by decide)
  have n_x71 : 0 ≤ x71 := Int.emod_nonneg _ (by decide)
  have n_x76 : 0 ≤ x76 := Int.emod_nonneg _ (by decide)
  have n_x78 : 0 ≤ x78 := Int.emod_nonneg _ (by decide)
  have n_x79 : 0 ≤ x79 := Int.emod_nonneg _ (by decide)
  have n_x81 : 0 ≤ x81 := Int.emod_nonneg _ (by decide)
  have n_x83 : 0 ≤ x83 := Int.emod_nonneg _ (by decide)
  have n_x86 : 0 ≤ x86 := Int.emod_nonneg _ (by decide)
  have n_x88 : 0 ≤ x88 := Int.emod_nonneg _ (by decide)
  have n_x90 : 0 ≤ x90 := Int.emod_nonneg _ (by decide)
  have n_x94 : 0 ≤ x94 := Int.emod_nonneg _ (by decide)
  have n_x96 : 0 ≤ x96 := Int.emod_nonneg _ (by decide)
  have n_x98 : 0 ≤ x98 := Int.emod_nonneg _ (by decide)
  have n_x103 : 0 ≤ x103 := Int.emod_nonneg _ (by decide)
  have n_x104 : 0 ≤ x104 := Int.emod_nonneg _ (by decide)
  have n_x105 : 0 ≤ x105 := Int.emod_nonneg _ (by decide)
  have n_x106 : 0 ≤ x106 := Int.emod_nonneg _ (by decide)
  have n_x107 : 0 ≤ x107 := Int.emod_nonneg _ (by decide)
  have n_x108 : 0 ≤ x108 := Int.emod_nonneg _ (by decide)
  have n_x109 : 0 ≤ x109 := Int.emod_nonneg _ (by decide)
  have n_x111 : 0 ≤ x111 := Int.emod_nonneg _ (by decide)
  have g0_0 : limb a 0 * limb b 0 = x1 := rfl
  have g0_1 : limb a 0 * limb b 1 = x5 := rfl
  have g0_2 : limb a 0 * limb b 2 = x11 := rfl
  have g0_3 : limb a 0 * limb b 3 = x17 := rfl
  have g1_0 : limb a 1 * limb b 0 = x23 := rfl
  have g1_1 : limb a 1 * limb b 1 = x28 := rfl
  have g1_2 : limb a 1 * limb b 2 = x35 := rfl
  have g1_3 : limb a 1 * limb b 3 = x43 := rfl
  have g2_0 : limb a 2 * limb b 0 = x50 := rfl
  have g2_1 : limb a 2 * limb b 1 = x55 := rfl
  have g2_2 : limb a 2 * limb b 2 = x62 := rfl
  have g2_3 : limb a 2 * limb b 3 = x70 := rfl
  have g3_0 : limb a 3 * limb b 0 = x77 := rfl
  have g3_1 : limb a 3 * limb b 1 = x82 := rfl
  have g3_2 : limb a 3 * limb b 2 = x89 := rfl
  have g3_3 : limb a 3 * limb b 3 = x97 := rfl
  clear_value x112 x111 x110 x109 x108 x107 x106 x105 x104 x103 x102 x101 x100 x99 x98 x97 x96 x95 x94 x93 x92 x91 x90 x89 x88 x87 x86 x85 x84 x83 x82 x81 x80 x79 x78 x77 x76 x75 x74 x73 x72 x71 x70 x69 x68 x67 x66 x65 x64 x63 x62 x61 x60 x59 x58 x57 x56 x55 x54 x53 x52 x51 x50 x49 x48 x47 x46 x45 x44 x43 x42 x41 x40 x39 x38 x37 x36 x35 x34 x33 x32 x31 x30 x29 x28 x27 x26 x25 x24 x23 x22 x21 x20 x19 x18 x17 x16 x15 x14 x13 x12 x11 x10 x9 x8 x7 x6 x5 x4 x3 x2 x1
  have hw := mul_weigh ((a % M256 : Nat) : Int) ((b % M256 : Nat) : Int) x104 x105 x106 x107 x108 x109 x111 x112 (limb a 0) (limb a 1) (limb a 2) (limb a 3) (limb b 0) (limb b 1) (limb b 2) (limb b 3) (limbs_int a) (limbs_int b)
    (by rw [g0_0, g0_1, g0_2, g0_3, g1_0, g1_1, g1_2, g1_3, g2_0, g2_1, g2_2, g2_3, g3_0, g3_1, g3_2, g3_3]; clear hm hl n_x2 n_x4 n_x6 n_x10 n_x12 n_x16 n_x18 n_x22 n_x24 n_x25 n_x27 n_x29 n_x32 n_x34 n_x36 n_x40 n_x42 n_x44 n_x49 n_x51 n_x52 n_x54 n_x56 n_x59 n_x61 n_x63 n_x67 n_x69 n_x71 n_x76 n_x78 n_x79 n_x81 n_x83 n_x86 n_x88 n_x90 n_x94 n_x96 n_x98 n_x103 n_x104 n_x105 n_x106 n_x107 n_x108 n_x109 n_x111; omega)
  obtain ⟨q1, q2⟩ := mul_fin a b x104 x105 x106 x107 x108 x109 x111 x112 p0_0 p1_0 p2_0 p3_0 p3_1 p3_2 p3_3 r3_3 hw
  have o_x8 := r0_0.1
  have o_x14 := r0_1.1
  have o_x20 := r0_2.1
  have o_x47 := r0_3.1
  have o_x31 := r1_0.1
  have o_x38 := r1_1.1
  have o_x46 := r1_2.1
  have o_x74 := r1_3.1
  have o_x58 := r2_0.1
  have o_x65 := r2_1.1
  have o_x73 := r2_2.1
  have o_x101 := r2_3.1
  have o_x85 := r3_0.1
  have o_x92 := r3_1.1
  have o_x100 := r3_2.1
  have o_x112 := r3_3.1
  exact ⟨⟨(limb_nonneg _ _), (limb_lt _ _)⟩, ⟨(limb_nonneg _ _), (limb_lt _ _)⟩, n_x2, hz.1, ⟨hz.1, h01⟩, hz.1, n_x4, ⟨hz.1, h01⟩, ⟨(limb_nonneg _ _), (limb_lt _ _)⟩, ⟨(limb_nonneg _ _), (limb_lt _ _)⟩, n_x6, r0_0.1, ⟨hz.1, h01⟩, hz.1, n_x10, ⟨hz.1, h01⟩, ⟨(limb_nonneg _ _), (limb_lt _ _)⟩, ⟨(limb_nonneg _ _), (limb_lt _ _)⟩, n_x12, r0_1.1, ⟨hz.1, h01⟩, hz.1, n_x16, ⟨hz.1, h01⟩, ⟨(limb_nonneg _ _), (limb_lt _ _)⟩, ⟨(limb_nonneg _ _), (limb_lt _ _)⟩, n_x18, r0_2.1, ⟨hz.1, h01⟩, hz.1, n_x22, ⟨hz.1, h01⟩, ⟨(limb_nonneg _ _), (limb_lt _ _)⟩, ⟨(limb_nonneg _ _), (limb_lt _ _)⟩, n_x24, hz.1, ⟨hz.1, h01⟩, p0_1.1, n_x27, ⟨hz.1, h01⟩, ⟨(limb_nonneg _ _), (limb_lt _ _)⟩, ⟨(limb_nonneg _ _), (limb_lt _ _)⟩, n_x29, r1_0.1, ⟨hz.1, h01⟩, p0_2.1, n_x34, ⟨hz.1, h01⟩, ⟨(limb_nonneg _ _), (limb_lt _ _)⟩, ⟨(limb_nonneg _ _), (limb_lt _ _)⟩, n_x36, r1_1.1, ⟨hz.1, h01⟩, p0_3.1, n_x42, ⟨hz.1, h01⟩, ⟨(limb_nonneg _ _), (limb_lt _ _)⟩, ⟨(limb_nonneg _ _), (limb_lt _ _)⟩, n_x44, r1_2.1, ⟨hz.1, h01⟩, r0_3.1, n_x49, ⟨hz.1, h01⟩, ⟨(limb_nonneg _ _), (limb_lt _ _)⟩, ⟨(limb_nonneg _ _), (limb_lt _ _)⟩, n_x51, hz.1, ⟨hz.1, h01⟩, p1_1.1, n_x54, ⟨hz.1, h01⟩, ⟨(limb_nonneg _ _), (limb_lt _ _)⟩, ⟨(limb_nonneg _ _), (limb_lt _ _)⟩, n_x56, r2_0.1, ⟨hz.1, h01⟩, p1_2.1, n_x61, ⟨hz.1, h01⟩, ⟨(limb_nonneg _ _), (limb_lt _ _)⟩, ⟨(limb_nonneg _ _), (limb_lt _ _)⟩, n_x63, r2_1.1, ⟨hz.1, h01⟩, p1_3.1, n_x69, ⟨hz.1, h01⟩, ⟨(limb_nonneg _ _), (limb_lt _ _)⟩, ⟨(limb_nonneg _ _), (limb_lt _ _)⟩, n_x71, r2_2.1, ⟨hz.1, h01⟩, r1_3.1, n_x76, ⟨hz.1, h01⟩, ⟨(limb_nonneg _ _), (limb_lt _ _)⟩, ⟨(limb_nonneg _ _), (limb_lt _ _)⟩, n_x78, hz.1, ⟨hz.1, h01⟩, p2_1.1, n_x81, ⟨hz.1, h01⟩, ⟨(limb_nonneg _ _), (limb_lt _ _)⟩, ⟨(limb_nonneg _ _), (limb_lt _ _)⟩, n_x83, r3_0.1, ⟨hz.1, h01⟩, p2_2.1, n_x88, ⟨hz.1, h01⟩, ⟨(limb_nonneg _ _), (limb_lt _ _)⟩, ⟨(limb_nonneg _ _), (limb_lt _ _)⟩, n_x90, r3_1.1, ⟨hz.1, h01⟩, p2_3.1, n_x96, ⟨hz.1, h01⟩, ⟨(limb_nonneg _ _), (limb_lt _ _)⟩, ⟨(limb_nonneg _ _), (limb_lt _ _)⟩, n_x98, r3_2.1, ⟨hz.1, h01⟩, r2_3.1, n_x103, ⟨hz.1, h01⟩, ⟨⟨p0_0.1, p0_0.2⟩, ⟨p1_0.1, p1_0.2⟩, ⟨p2_0.1, p2_0.2⟩, ⟨p3_0.1, p3_0.2⟩, q1, trivial⟩, ⟨p3_1.1, p3_1.2⟩, ⟨p3_2.1, p3_2.2⟩, ⟨p3_3.1, p3_3.2⟩, ⟨r3_3.1, r3_3.2⟩, q2, trivial⟩
end Go.Proofs.Ytjpddnjgbgpegaa
end

section
namespace Go.Proofs.Ytjpddnjgbgpegaa
open Go.Sx
theorem times_step (l n c : Nat) (hl : l < 18446744073709551616) (hn : n < 18446744073709551616) (hc : c < 18446744073709551616) :
    ∃ s d : Nat, ((l : Int) * n % 18446744073709551616 + c + 0) % 18446744073709551616 = s ∧ IntKind.u64.wrap ((l : Int) * n / 18446744073709551616 + ((l : Int) * n % 18446744073709551616 + c + 0) / 18446744073709551616) = d ∧
      s < 18446744073709551616 ∧ d < 18446744073709551616 ∧ l * n + c = s + 18446744073709551616 * d := by
  have hm : l * n ≤ 18446744073709551615 * 18446744073709551615 := Nat.mul_le_mul (by omega) (by omega)
  have e : (l : Int) * n = ((l * n : Nat) : Int) := (Int.natCast_mul l n).symm
  rw [e]
  generalize l * n = g at *
  refine ⟨(g + c) % 18446744073709551616, (g + c) / 18446744073709551616, by omega, ?_, by omega, by omega, by omega⟩
  rw [wrap_id (by omega)]
  omega
theorem ok_times : ∀ a n, 0 ≤ n ∧ n < 18446744073709551616 → Owes Try.prog cxTimes2 [] 100 Try.f45 [sU a, sI .u64 n] (timesG a n) := by
  intro a n hn
  rw [vc_times]
  obtain ⟨q, rfl⟩ := Int.eq_ofNat_of_zero_le hn.1
  have hq : q < 18446744073709551616 := by omega
  intro x1 x2 x3 x4 x5 x6 x7 x8 x9 x10 x11 x12 x13 x14 x15 x16 x17 x18 x19
  obtain ⟨a0, a1, a2, a3, e0, e1, e2, e3, h0, h1, h2, h3, ha⟩ := split4 a
  obtain ⟨s0, d0, p0, q0, r0, t0, w0⟩ := times_step a0 q 0 h0 hq (by omega)
  obtain ⟨s1, d1, p1, q1, r1, t1, w1⟩ := times_step a1 q d0 h1 hq t0
  obtain ⟨s2, d2, p2, q2, r2, t2, w2⟩ := times_step a2 q d1 h2 hq t1
  obtain ⟨s3, d3, p3, q3, r3, t3, w3⟩ := times_step a3 q d2 h3 hq t2
  have m15 : x15 = s0 := by simp only [x15, x5, x2, x1, e0]; exact p0
  have m6 : x6 = d0 := by simp only [x6, x5, x2, x1, e0]; exact q0
  have m17 : x16 = s1 := by simp only [x16, x9, x4, x3, m6, e1]; exact p1
  have m10 : x10 = d1 := by simp only [x10, x9, x4, x3, m6, e1]; exact q1
  have m18 : x17 = s2 := by simp only [x17, x13, x8, x7, m10, e2]; exact p2
  have m14 : x14 = d2 := by simp only [x14, x13, x8, x7, m10, e2]; exact q2
  have m20 : x19 = s3 := by simp only [x19, x18, x12, x11, m14, e3]; exact p3
  have m21 : IntKind.u64.wrap (x11 / 18446744073709551616 + x18 / 18446744073709551616) = d3 := by simp only [x18, x12, x11, m14, e3]; exact q3
  have n2 : 0 ≤ x2 := Int.emod_nonneg _ (by decide)
  have n4 : 0 ≤ x4 := Int.emod_nonneg _ (by decide)
  have n8 : 0 ≤ x8 := Int.emod_nonneg _ (by decide)
  have n12 : 0 ≤ x12 := Int.emod_nonneg _ (by decide)
  clear_value x19 x18 x17 x16 x15 x14 x13 x12 x11 x10 x9 x8 x7 x6 x5 x4 x3 x2 x1
  have key : a % M256 * q = s0 + 18446744073709551616 * s1 + 340282366920938463463374607431768211456 * s2 + 6277101735386680763835789423207666416102355444464034512896 * s3 + M256 * d3 := by
    have e : a % M256 * q = a0 * q + 18446744073709551616 * (a1 * q) + 340282366920938463463374607431768211456 * (a2 * q) + 6277101735386680763835789423207666416102355444464034512896 * (a3 * q) := by
      rw [ha, Nat.add_mul, Nat.add_mul, Nat.add_mul, Nat.mul_assoc, Nat.mul_assoc, Nat.mul_assoc]
    rw [e, M256_eq]
    generalize a0 * q = g0 at *
    generalize a1 * q = g1 at *
    generalize a2 * q = g2 at *
    generalize a3 * q = g3 at *
    omega
  have hlt : s0 + 18446744073709551616 * s1 + 340282366920938463463374607431768211456 * s2 + 6277101735386680763835789423207666416102355444464034512896 * s3 < M256 := by
    rw [M256_eq]; omega
  have hmod : a * q % M256 = (a % M256 * q) % M256 := by rw [Nat.mod_mul_mod]
  rw [m21, m15, m17, m18, m20, m6, m10, m14, e0, e1, e2, e3]
  simp only [Int.toNat_natCast]
  refine ⟨by omega, by omega, n2, by omega, by omega, by omega, by omega, n4, by omega, by omega, by omega, by omega, n8, by omega, by omega, by omega, by omega, n12, by omega, by omega, ⟨by omega, by omega, by omega, by omega, ?_, trivial⟩, ?_⟩
  · rw [hmod, key, Nat.add_mul_mod_self_left]
    rfl
  · rw [key, Nat.add_mul_div_left _ _ (by rw [M256_eq]; decide), Nat.div_eq_of_lt hlt, Nat.zero_add]
end Go.Proofs.Ytjpddnjgbgpegaa
end

section
namespace Go.Proofs.Ytjpddnjgbgpegaa
open Go.Sx
theorem and_low (p : Nat) (hp : p < 18446744073709551616) : (BitVec.ofInt 64 (p : Int) &&& BitVec.ofInt 64 (4294967295 : Int)).toNat = p % 4294967296 := by
  have h1 : (BitVec.ofInt 64 (p : Int)).toNat = p := by
    rw [BitVec.toNat_ofInt]
    omega
  have h2 : (BitVec.ofInt 64 (4294967295 : Int)).toNat = 2 ^ 32 - 1 := by decide
  rw [BitVec.toNat_and, h1, h2, Nat.and_two_pow_sub_one_eq_mod]
theorem fdiv_low (p : Nat) : (p : Int).fdiv 4294967296 = ((p / 4294967296 : Nat) : Int) := by
  rw [Int.fdiv_eq_ediv_of_nonneg _ (show (0 : Int) ≤ 4294967296 by decide)]; rfl
theorem wrap_natP {n : Nat} (h : n < 18446744073709551616) : IntKind.u64.wrap (n : Int) = n := wrap_id ⟨Int.natCast_nonneg _, Int.ofNat_lt.2 h⟩
theorem ok_Mul64 : ∀ a b, w64ok a → w64ok b → Owes Try.prog Cx.none [] 100 Try.f42 [sI .u64 a, sI .u64 b] (mul64G a b) := by
  intro a b ha hb
  rw [vc_Mul64]
  obtain ⟨p, rfl⟩ := Int.eq_ofNat_of_zero_le ha.1
  obtain ⟨q, rfl⟩ := Int.eq_ofNat_of_zero_le hb.1
  have hp : p < 18446744073709551616 := Int.ofNat_lt.1 ha.2
  have hq : q < 18446744073709551616 := Int.ofNat_lt.1 hb.2
  intro x1 x2 x3
  have e1 : x1 = ((q % 4294967296 : Nat) : Int) := by simp only [x1]; rw [and_low q hq]; exact wrap_natP (by omega)
  obtain ⟨m1, m2, m3, m4⟩ := Lib.mul64_hi p q hp hq
  have e2 : x2 = (((p / 4294967296) * (q % 4294967296) + (p % 4294967296) * (q % 4294967296) / 4294967296 : Nat) : Int) := by
    simp only [x2, e1]
    rw [fdiv_low, and_low p hp, wrap_natP (show p % 4294967296 < 18446744073709551616 by omega), ← Int.natCast_mul, ← Int.natCast_mul, wrap_natP m1, fdiv_low]
    have : (p / 4294967296) * (q % 4294967296) < 18446744073709551616 := Nat.lt_of_le_of_lt (Nat.le_add_right _ _) m2
    rw [wrap_natP this, ← Int.natCast_add, wrap_natP m2]
  have e3 : x3 = ((p * q : Nat) : Int) := (Int.natCast_mul p q).symm
  have hpq : p * q / 18446744073709551616 < 18446744073709551616 := by
    have : p * q ≤ 18446744073709551615 * 18446744073709551615 := Nat.mul_le_mul (by omega) (by omega)
    omega
  clear_value x3 x2 x1
  subst e1 e2 e3
  constructor
  · rw [fdiv_low, fdiv_low, fdiv_low, and_low p hp, and_low _ m2, wrap_natP (show p % 4294967296 < 18446744073709551616 by omega), ← Int.natCast_mul, ← Int.natCast_mul]
    have k1 : (p / 4294967296) * (q / 4294967296) < 18446744073709551616 := by rw [← m4] at hpq; omega
    have k2 : (p % 4294967296) * (q / 4294967296) < 18446744073709551616 := Nat.lt_of_le_of_lt (Nat.le_add_left _ _) m3
    rw [wrap_natP k1, wrap_natP k2, wrap_natP (show _ % 4294967296 < 18446744073709551616 by omega), ← Int.natCast_add, ← Int.natCast_add, wrap_natP m3, fdiv_low]
    have k3 : (p / 4294967296) * (q / 4294967296) + ((p / 4294967296) * (q % 4294967296) + (p % 4294967296) * (q % 4294967296) / 4294967296) / 4294967296 < 18446744073709551616 := by rw [← m4] at hpq; exact Nat.lt_of_le_of_lt (Nat.le_add_right _ _) hpq
    rw [wrap_natP k3, ← Int.natCast_add, m4, wrap_natP hpq]
    rfl
  · unfold IntKind.wrap
    simp [IntKind.signed, IntKind.bits]
end Go.Proofs.Ytjpddnjgbgpegaa
end

section
namespace Go.Proofs.Ytjpddnjgbgpegaa
open Go.Sx
end Go.Proofs.Ytjpddnjgbgpegaa
end

section
namespace Go.Proofs.Ytjpddnjgbgpegaa
open Go.Sx
end Go.Proofs.Ytjpddnjgbgpegaa
end

section
namespace Go.Proofs.Ytjpddnjgbgpegaa
open Go.Sx
theorem CxOK_nil : CxOK Try.prog Cx.none := ⟨fun _ h => (by cases h), fun _ h => (by cases h)⟩
theorem CxOK_cons {f : Nat} {s : FSpec} {l : List (Nat × FSpec)} {gl : Globs} {wf : List (Nat × WSpec)} (h : FnOKg Try.prog gl f s) (hs : CxOK Try.prog ⟨l, gl, 0, wf⟩) : CxOK Try.prog ⟨(f, s) :: l, gl, 0, wf⟩ := by
  refine ⟨fun p hp => ?_, hs.2⟩
  rcases List.mem_cons.1 hp with rfl | hp
  · exact h
  · exact hs.1 p hp
theorem bnd_U (n : Nat) : SA.bnd none0 (sU n) := by
  intro k hk; simp only [List.mem_singleton] at hk; subst hk; trivial
theorem bnd_I (k : IntKind) (n : Int) : SA.bnd none0 (sI k n) := trivial
theorem bnd_one {x : SA} (h : x.bnd none0) : SV.bnd none0 (.one x) := h
theorem bnd_two {x y : SA} (h : x.bnd none0) (h' : y.bnd none0) : SV.bnd none0 (.tup [x, y]) := by
  intro z hz
  simp only [List.mem_cons, List.not_mem_nil, or_false] at hz
  rcases hz with rfl | rfl
  · exact h
  · exact h'
theorem card_Add64 : FnOK Try.prog 43 specAdd64 := FnOK_add64 Try.func43 (by kernel_rfl) (by kernel_rfl) (by kernel_rfl) (by kernel_rfl)
theorem card_Sub64 : FnOK Try.prog 62 specSub64 := FnOK_sub64 Try.func62 (by kernel_rfl) (by kernel_rfl) (by kernel_rfl) (by kernel_rfl)
theorem cxok_plus : CxOK Try.prog cxPlus := CxOK_cons card_Add64 CxOK_nil
theorem card_plus : FnOK Try.prog 59 (specUU plusG) :=
  FnOK_UU cxok_plus (iv := []) (N := 100) Try.func59 (by kernel_rfl) (by kernel_rfl) (fun a b => by unfold plusG; exact bnd_two (bnd_U _) (bnd_I _ _)) ok_plus
theorem cxok_less : CxOK Try.prog cxLess := CxOK_cons card_Sub64 CxOK_nil
theorem card_less : FnOK Try.prog 58 (specUU lessG) :=
  FnOK_UU cxok_less (iv := []) (N := 100) Try.func58 (by kernel_rfl) (by kernel_rfl) (fun a b => by unfold lessG; exact bnd_two (bnd_U _) (bnd_I _ _)) ok_less
end Go.Proofs.Ytjpddnjgbgpegaa
end

section
namespace Go.Proofs.Ytjpddnjgbgpegaa
open Go.Sx
theorem card_Mul64 : FnOK Try.prog 42 (specWW mul64G) :=
  FnOK_WW CxOK_nil (iv := []) (N := 100) Try.func42 (by kernel_rfl) (by kernel_rfl) (fun a b => by unfold mul64G; exact bnd_two (bnd_I _ _) (bnd_I _ _)) ok_Mul64
theorem cxok_times : CxOK Try.prog cxTimes2 := CxOK_cons card_Mul64 (CxOK_cons card_Add64 CxOK_nil)
theorem card_times : FnOK Try.prog 45 (specUI timesG) :=
  FnOK_UI cxok_times (iv := []) (N := 100) Try.func45 (by kernel_rfl) (by kernel_rfl) (fun a n => by unfold timesG; exact bnd_two (bnd_U _) (bnd_I _ _)) ok_times
theorem cxok_Mul : CxOK Try.prog cxMul2 := CxOK_cons card_Mul64 (CxOK_cons card_Add64 CxOK_nil)
theorem card_Mul : FnOK Try.prog 27 (specUU mulG) :=
  FnOK_UU cxok_Mul (iv := []) (N := 100) Try.func27 (by kernel_rfl) (by kernel_rfl) (fun a b => by unfold mulG; exact bnd_two (bnd_U _) (bnd_U _)) ok_Mul
end Go.Proofs.Ytjpddnjgbgpegaa
end

section
namespace Go.Proofs.Ytjpddnjgbgpegaa
open Go.Sx
theorem u8_wrap (n : Nat) : IntKind.u8.wrap (n : Int) = ((n % 256 : Nat) : Int) := by
  unfold IntKind.wrap
  simp [IntKind.signed, IntKind.bits]
end Go.Proofs.Ytjpddnjgbgpegaa
end

section
namespace Go.Proofs.Ytjpddnjgbgpegaa
open Go.Sx
theorem table_len : ∀ m : Fin 256, ((lit_650f3990.data.getD m.val 0).toNat : Int) = if m.val = 0 then 0 else ((Nat.log2 m.val + 1 : Nat) : Int) := by decide +kernel
theorem log2_shift (n k : Nat) (h : 1 ≤ n / 2 ^ k) : Nat.log2 n = k + Nat.log2 (n / 2 ^ k) := by
  have hp : 0 < 2 ^ k := Nat.two_pow_pos k
  have hn : n ≠ 0 := by rintro rfl; simp at h
  have hm : n / 2 ^ k ≠ 0 := by omega
  obtain ⟨a, b⟩ := (Nat.log2_eq_iff hm).1 rfl
  rw [Nat.log2_eq_iff hn]
  rw [Nat.le_div_iff_mul_le hp] at a
  rw [Nat.div_lt_iff_lt_mul hp] at b
  refine ⟨by rw [Nat.pow_add, Nat.mul_comm]; exact a, ?_⟩
  have : 2 ^ (k + (n / 2 ^ k).log2 + 1) = 2 ^ ((n / 2 ^ k).log2 + 1) * 2 ^ k := by rw [← Nat.pow_add]; congr 1; omega
  rw [this]; exact b
theorem u8_small (m : Nat) (h : m < 256) : IntKind.u8.wrap (m : Int) = m := by rw [u8_wrap, Nat.mod_eq_of_lt h]
theorem lenN_le (n : Nat) (h : n < 18446744073709551616) : 0 ≤ lenN n ∧ lenN n ≤ 64 := by
  unfold lenN
  rw [Int.toNat_natCast]
  split
  · decide
  · rename_i h0
    have := (Nat.log2_lt h0 (k := 64)).2 (by omega)
    omega
theorem len_leaf (n k : Nat) (c : Int) (m : Nat) (hc : c = k) (hk : k ≤ 56) (hm : m = n / 2 ^ k) (h : m < 256) (h1 : k = 0 ∨ 1 ≤ m) (hn : n < 18446744073709551616) :
    (0 ≤ IntKind.u8.wrap (m : Int) ∧ (IntKind.u8.wrap (m : Int)).toNat < 256) ∧ IntKind.i64.wrap (c + IntKind.i64.wrap ((lit_650f3990.data.getD (IntKind.u8.wrap (m : Int)).toNat 0).toNat : Int)) = lenN n := by
  rw [u8_small m h, Int.toNat_natCast]
  refine ⟨⟨by omega, h⟩, ?_⟩
  have ht := table_len ⟨m, h⟩
  simp only at ht
  rw [ht]
  have hl : lenN n = c + if m = 0 then 0 else ((Nat.log2 m + 1 : Nat) : Int) := by
    unfold lenN
    rw [Int.toNat_natCast, hc]
    rcases h1 with rfl | h1
    · rw [Nat.pow_zero, Nat.div_one] at hm
      subst hm
      simp
    · have hn0 : n ≠ 0 := by rintro rfl; simp at hm; omega
      rw [if_neg hn0, if_neg (by omega), log2_shift n k (by omega), ← hm]
      omega
  have hb := lenN_le n hn
  rw [hl] at hb ⊢
  have hi : 0 ≤ (if m = 0 then 0 else ((Nat.log2 m + 1 : Nat) : Int)) := by split <;> omega
  have e1 := IntWalk.i64_in (if m = 0 then 0 else ((Nat.log2 m + 1 : Nat) : Int)) (by omega)
  rw [e1, IntWalk.i64_in _ (by omega)]
theorem fd32 (n : Nat) : (n : Int).fdiv 4294967296 = ((n / 4294967296 : Nat) : Int) := fdiv_low n
theorem fd16 (n : Nat) : (n : Int).fdiv 65536 = ((n / 65536 : Nat) : Int) := by
  rw [Int.fdiv_eq_ediv_of_nonneg _ (show (0 : Int) ≤ 65536 by decide)]; rfl
theorem fd8 (n : Nat) : (n : Int).fdiv 256 = ((n / 256 : Nat) : Int) := by
  rw [Int.fdiv_eq_ediv_of_nonneg _ (show (0 : Int) ≤ 256 by decide)]; rfl
theorem ok_Len64 : ∀ x, w64ok x → Owes Try.prog Cx.none [] 100 Try.f60 [sI .u64 x] (lenG x) := by
  intro x hx
  rw [vc_Len64]
  obtain ⟨n, rfl⟩ := Int.eq_ofNat_of_zero_le hx.1
  have hn : n < 18446744073709551616 := Int.ofNat_lt.1 hx.2
  dsimp only
  simp only [fd32, fd16, fd8, Nat.div_div_eq_div_mul, Nat.reduceMul, decide_eq_true_eq, decide_eq_false_iff_not]
  refine ⟨fun a => ⟨fun b => ⟨fun c => ?_, fun c => ?_⟩, fun b => ⟨fun c => ?_, fun c => ?_⟩⟩, fun a => ⟨fun b => ⟨fun c => ?_, fun c => ?_⟩, fun b => ⟨fun c => ?_, fun c => ?_⟩⟩⟩
  · exact len_leaf n 56 _ _ rfl (by decide) rfl (by omega) (.inr (by omega)) hn
  · exact len_leaf n 48 _ _ rfl (by decide) rfl (by omega) (.inr (by omega)) hn
  · exact len_leaf n 40 _ _ rfl (by decide) rfl (by omega) (.inr (by omega)) hn
  · exact len_leaf n 32 _ _ rfl (by decide) rfl (by omega) (.inr (by omega)) hn
  · exact len_leaf n 24 _ _ rfl (by decide) rfl (by omega) (.inr (by omega)) hn
  · exact len_leaf n 16 _ _ rfl (by decide) rfl (by omega) (.inr (by omega)) hn
  · exact len_leaf n 8 _ _ rfl (by decide) rfl (by omega) (.inr (by omega)) hn
  · exact len_leaf n 0 _ _ rfl (by decide) (by simp) (by omega) (.inl rfl) hn
theorem ok_LZ64 : ∀ x, w64ok x → Owes Try.prog cxLz [] 100 Try.f56 [sI .u64 x] (lzG x) := by
  intro x hx
  rw [vc_LZ64]
  obtain ⟨n, rfl⟩ := Int.eq_ofNat_of_zero_le hx.1
  have hb := lenN_le n (Int.ofNat_lt.1 hx.2)
  exact ⟨hx, IntWalk.i64_in _ (by omega)⟩
theorem card_Len64 : FnOK Try.prog 60 (specW lenG) :=
  FnOK_W CxOK_nil (iv := fun _ => []) (N := 100) Try.func60 (by kernel_rfl) (by kernel_rfl) (fun a => bnd_one (bnd_I _ _)) ok_Len64
theorem card_LZ64 : FnOK Try.prog 56 (specW lzG) :=
  FnOK_W (CxOK_cons card_Len64 CxOK_nil) (iv := fun _ => []) (N := 100) Try.func56 (by kernel_rfl) (by kernel_rfl) (fun a => bnd_one (bnd_I _ _)) ok_LZ64
end Go.Proofs.Ytjpddnjgbgpegaa
end
