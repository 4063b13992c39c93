/-
  Texts: V2, V5, Wsp2, Wsp3, V7, Wsp4, V8, V9, V10, Wsp5.
-/
import Derived.Test.YtohnkglcabfpjaaM1
import Derived.Test.YtohnkglcabfpjaaM2
import Derived.Test.YtohnkglcabfpjaaM3
import Derived.Test.YtohnkglcabfpjaaM4
import Derived.Test.YtohnkglcabfpjaaM5
import Derived.Test.YtohnkglcabfpjaaM6
import Derived.Test.YtohnkglcabfpjaaM7
section
namespace Go.Proofs.Ytohnkglcabfpjaa
open Go.Sx
set_option maxRecDepth 100000
def cxTimes2 : Cx := [(88, specWW mul64G), (89, specAdd64)]
def cxMul2 : Cx := [(88, specWW mul64G), (89, specAdd64)]
theorem vc_Mul64 (a b : Int) :
    Owes Try.prog Cx.none [] 100 Try.f88 [sI .u64 a, sI .u64 b] (mul64G a b) =
    (let x1 : Int := Go.IntKind.u64.wrap (↑(BitVec.ofInt 64 b &&& BitVec.ofInt 64 (4294967295 : Int)).toNat : Int); let x2 : Int := Go.IntKind.u64.wrap (Go.IntKind.u64.wrap (a.fdiv (4294967296 : Int) * x1) + (Go.IntKind.u64.wrap (Go.IntKind.u64.wrap (↑(BitVec.ofInt 64 a &&& BitVec.ofInt 64 (4294967295 : Int)).toNat : Int) * x1)).fdiv (4294967296 : Int)); let x3 : Int := a * b; Go.IntKind.u64.wrap (Go.IntKind.u64.wrap (Go.IntKind.u64.wrap (a.fdiv (4294967296 : Int) * b.fdiv (4294967296 : Int)) + x2.fdiv (4294967296 : Int)) + (Go.IntKind.u64.wrap (Go.IntKind.u64.wrap (↑(BitVec.ofInt 64 x2 &&& BitVec.ofInt 64 (4294967295 : Int)).toNat : Int) + Go.IntKind.u64.wrap (Go.IntKind.u64.wrap (↑(BitVec.ofInt 64 a &&& BitVec.ofInt 64 (4294967295 : Int)).toNat : Int) * b.fdiv (4294967296 : Int)))).fdiv (4294967296 : Int)) = x3 / (18446744073709551616 : Int) ∧ Go.IntKind.u64.wrap x3 = x3 % (18446744073709551616 : Int)) := by kernel_rfl
theorem vc_times (a : Nat) (n : Int) :
    Owes Try.prog cxTimes2 [] 100 Try.f86 [sU a, sI .u64 n] (timesG a n) =
    (let x1 : Int := limb a 0 * n; let x2 : Int := x1 % (18446744073709551616 : Int); let x3 : Int := limb a 1 * n; let x4 : Int := x3 % (18446744073709551616 : Int); let x5 : Int := x2 + (0 : Int) + (0 : Int); let x6 : Int := Go.IntKind.u64.wrap (x1 / (18446744073709551616 : Int) + x5 / (18446744073709551616 : Int)); let x7 : Int := limb a 2 * n; let x8 : Int := x7 % (18446744073709551616 : Int); let x9 : Int := x4 + x6 + (0 : Int); let x10 : Int := Go.IntKind.u64.wrap (x3 / (18446744073709551616 : Int) + x9 / (18446744073709551616 : Int)); let x11 : Int := limb a 3 * n; let x12 : Int := x11 % (18446744073709551616 : Int); let x13 : Int := x8 + x10 + (0 : Int); let x14 : Int := Go.IntKind.u64.wrap (x7 / (18446744073709551616 : Int) + x13 / (18446744073709551616 : Int)); let x15 : Int := x5 % (18446744073709551616 : Int); let x16 : Int := x9 % (18446744073709551616 : Int); let x17 : Int := x13 % (18446744073709551616 : Int); let x18 : Int := x12 + x14 + (0 : Int); let x19 : Int := x18 % (18446744073709551616 : Int); ((0 : Int) ≤ limb a 0 ∧ limb a 0 < (18446744073709551616 : Int)) ∧ ((0 : Int) ≤ n ∧ n < (18446744073709551616 : Int)) ∧ (0 : Int) ≤ x2 ∧ (0 : Int) ≤ (0 : Int) ∧ ((0 : Int) ≤ (0 : Int) ∧ (0 : Int) ≤ (1 : Int)) ∧ ((0 : Int) ≤ limb a 1 ∧ limb a 1 < (18446744073709551616 : Int)) ∧ ((0 : Int) ≤ n ∧ n < (18446744073709551616 : Int)) ∧ (0 : Int) ≤ x4 ∧ (0 : Int) ≤ x6 ∧ ((0 : Int) ≤ (0 : Int) ∧ (0 : Int) ≤ (1 : Int)) ∧ ((0 : Int) ≤ limb a 2 ∧ limb a 2 < (18446744073709551616 : Int)) ∧ ((0 : Int) ≤ n ∧ n < (18446744073709551616 : Int)) ∧ (0 : Int) ≤ x8 ∧ (0 : Int) ≤ x10 ∧ ((0 : Int) ≤ (0 : Int) ∧ (0 : Int) ≤ (1 : Int)) ∧ ((0 : Int) ≤ limb a 3 ∧ limb a 3 < (18446744073709551616 : Int)) ∧ ((0 : Int) ≤ n ∧ n < (18446744073709551616 : Int)) ∧ (0 : Int) ≤ x12 ∧ (0 : Int) ≤ x14 ∧ ((0 : Int) ≤ (0 : Int) ∧ (0 : Int) ≤ (1 : Int)) ∧ (((0 : Int) ≤ x15 ∧ x15 < (18446744073709551616 : Int)) ∧ ((0 : Int) ≤ x16 ∧ x16 < (18446744073709551616 : Int)) ∧ ((0 : Int) ≤ x17 ∧ x17 < (18446744073709551616 : Int)) ∧ ((0 : Int) ≤ x19 ∧ x19 < (18446744073709551616 : Int)) ∧ join x15 x16 x17 x19 % M256 = a * n.toNat % M256 ∧ True) ∧ Go.IntKind.u64.wrap (x11 / (18446744073709551616 : Int) + x18 / (18446744073709551616 : Int)) = (↑(a % M256 * n.toNat / M256) : Int)) := by kernel_rfl
theorem vc_Mul (a b : Nat) :
    Owes Try.prog cxMul2 [] 100 Try.f70 [sU a, sU b] (mulG a b) =
    (let x1 : Int := limb a 0 * limb b 0; let x2 : Int := x1 % (18446744073709551616 : Int); let x3 : Int := x2 + (0 : Int) + (0 : Int); let x4 : Int := x3 % (18446744073709551616 : Int); let x5 : Int := limb a 0 * limb b 1; let x6 : Int := x5 % (18446744073709551616 : Int); let x7 : Int := (0 : Int) + x4 + (0 : Int); let x8 : Int := Go.IntKind.u64.wrap (Go.IntKind.u64.wrap (x1 / (18446744073709551616 : Int) + x3 / (18446744073709551616 : Int)) + x7 / (18446744073709551616 : Int)); let x9 : Int := x6 + x8 + (0 : Int); let x10 : Int := x9 % (18446744073709551616 : Int); let x11 : Int := limb a 0 * limb b 2; let x12 : Int := x11 % (18446744073709551616 : Int); let x13 : Int := (0 : Int) + x10 + (0 : Int); let x14 : Int := Go.IntKind.u64.wrap (Go.IntKind.u64.wrap (x5 / (18446744073709551616 : Int) + x9 / (18446744073709551616 : Int)) + x13 / (18446744073709551616 : Int)); let x15 : Int := x12 + x14 + (0 : Int); let x16 : Int := x15 % (18446744073709551616 : Int); let x17 : Int := limb a 0 * limb b 3; let x18 : Int := x17 % (18446744073709551616 : Int); let x19 : Int := (0 : Int) + x16 + (0 : Int); let x20 : Int := Go.IntKind.u64.wrap (Go.IntKind.u64.wrap (x11 / (18446744073709551616 : Int) + x15 / (18446744073709551616 : Int)) + x19 / (18446744073709551616 : Int)); let x21 : Int := x18 + x20 + (0 : Int); let x22 : Int := x21 % (18446744073709551616 : Int); let x23 : Int := limb a 1 * limb b 0; let x24 : Int := x23 % (18446744073709551616 : Int); let x25 : Int := x13 % (18446744073709551616 : Int); let x26 : Int := x24 + (0 : Int) + (0 : Int); let x27 : Int := x26 % (18446744073709551616 : Int); let x28 : Int := limb a 1 * limb b 1; let x29 : Int := x28 % (18446744073709551616 : Int); let x30 : Int := x25 + x27 + (0 : Int); let x31 : Int := Go.IntKind.u64.wrap (Go.IntKind.u64.wrap (x23 / (18446744073709551616 : Int) + x26 / (18446744073709551616 : Int)) + x30 / (18446744073709551616 : Int)); let x32 : Int := x19 % (18446744073709551616 : Int); let x33 : Int := x29 + x31 + (0 : Int); let x34 : Int := x33 % (18446744073709551616 : Int); let x35 : Int := limb a 1 * limb b 2; let x36 : Int := x35 % (18446744073709551616 : Int); let x37 : Int := x32 + x34 + (0 : Int); let x38 : Int := Go.IntKind.u64.wrap (Go.IntKind.u64.wrap (x28 / (18446744073709551616 : Int) + x33 / (18446744073709551616 : Int)) + x37 / (18446744073709551616 : Int)); let x39 : Int := (0 : Int) + x22 + (0 : Int); let x40 : Int := x39 % (18446744073709551616 : Int); let x41 : Int := x36 + x38 + (0 : Int); let x42 : Int := x41 % (18446744073709551616 : Int); let x43 : Int := limb a 1 * limb b 3; let x44 : Int := x43 % (18446744073709551616 : Int); let x45 : Int := x40 + x42 + (0 : Int); let x46 : Int := Go.IntKind.u64.wrap (Go.IntKind.u64.wrap (x35 / (18446744073709551616 : Int) + x41 / (18446744073709551616 : Int)) + x45 / (18446744073709551616 : Int)); let x47 : Int := Go.IntKind.u64.wrap (Go.IntKind.u64.wrap (x17 / (18446744073709551616 : Int) + x21 / (18446744073709551616 : Int)) + x39 / (18446744073709551616 : Int)); let x48 : Int := x44 + x46 + (0 : Int); let x49 : Int := x48 % (18446744073709551616 : Int); let x50 : Int := limb a 2 * limb b 0; let x51 : Int := x50 % (18446744073709551616 : Int); let x52 : Int := x37 % (18446744073709551616 : Int); let x53 : Int := x51 + (0 : Int) + (0 : Int); let x54 : Int := x53 % (18446744073709551616 : Int); let x55 : Int := limb a 2 * limb b 1; let x56 : Int := x55 % (18446744073709551616 : Int); let x57 : Int := x52 + x54 + (0 : Int); let x58 : Int := Go.IntKind.u64.wrap (Go.IntKind.u64.wrap (x50 / (18446744073709551616 : Int) + x53 / (18446744073709551616 : Int)) + x57 / (18446744073709551616 : Int)); let x59 : Int := x45 % (18446744073709551616 : Int); let x60 : Int := x56 + x58 + (0 : Int); let x61 : Int := x60 % (18446744073709551616 : Int); let x62 : Int := limb a 2 * limb b 2; let x63 : Int := x62 % (18446744073709551616 : Int); let x64 : Int := x59 + x61 + (0 : Int); let x65 : Int := Go.IntKind.u64.wrap (Go.IntKind.u64.wrap (x55 / (18446744073709551616 : Int) + x60 / (18446744073709551616 : Int)) + x64 / (18446744073709551616 : Int)); let x66 : Int := x47 + x49 + (0 : Int); let x67 : Int := x66 % (18446744073709551616 : Int); let x68 : Int := x63 + x65 + (0 : Int); let x69 : Int := x68 % (18446744073709551616 : Int); let x70 : Int := limb a 2 * limb b 3; let x71 : Int := x70 % (18446744073709551616 : Int); let x72 : Int := x67 + x69 + (0 : Int); let x73 : Int := Go.IntKind.u64.wrap (Go.IntKind.u64.wrap (x62 / (18446744073709551616 : Int) + x68 / (18446744073709551616 : Int)) + x72 / (18446744073709551616 : Int)); let x74 : Int := Go.IntKind.u64.wrap (Go.IntKind.u64.wrap (x43 / (18446744073709551616 : Int) + x48 / (18446744073709551616 : Int)) + x66 / (18446744073709551616 : Int)); let x75 : Int := x71 + x73 + (0 : Int); let x76 : Int := x75 % (18446744073709551616 : Int); let x77 : Int := limb a 3 * limb b 0; let x78 : Int := x77 % (18446744073709551616 : Int); let x79 : Int := x64 % (18446744073709551616 : Int); let x80 : Int := x78 + (0 : Int) + (0 : Int); let x81 : Int := x80 % (18446744073709551616 : Int); let x82 : Int := limb a 3 * limb b 1; let x83 : Int := x82 % (18446744073709551616 : Int); let x84 : Int := x79 + x81 + (0 : Int); let x85 : Int := Go.IntKind.u64.wrap (Go.IntKind.u64.wrap (x77 / (18446744073709551616 : Int) + x80 / (18446744073709551616 : Int)) + x84 / (18446744073709551616 : Int)); let x86 : Int := x72 % (18446744073709551616 : Int); let x87 : Int := x83 + x85 + (0 : Int); let x88 : Int := x87 % (18446744073709551616 : Int); let x89 : Int := limb a 3 * limb b 2; let x90 : Int := x89 % (18446744073709551616 : Int); let x91 : Int := x86 + x88 + (0 : Int); let x92 : Int := Go.IntKind.u64.wrap (Go.IntKind.u64.wrap (x82 / (18446744073709551616 : Int) + x87 / (18446744073709551616 : Int)) + x91 / (18446744073709551616 : Int)); let x93 : Int := x74 + x76 + (0 : Int); let x94 : Int := x93 % (18446744073709551616 : Int); let x95 : Int := x90 + x92 + (0 : Int); let x96 : Int := x95 % (18446744073709551616 : Int); let x97 : Int := limb a 3 * limb b 3; let x98 : Int := x97 % (18446744073709551616 : Int); let x99 : Int := x94 + x96 + (0 : Int); let x100 : Int := Go.IntKind.u64.wrap (Go.IntKind.u64.wrap (x89 / (18446744073709551616 : Int) + x95 / (18446744073709551616 : Int)) + x99 / (18446744073709551616 : Int)); let x101 : Int := Go.IntKind.u64.wrap (Go.IntKind.u64.wrap (x70 / (18446744073709551616 : Int) + x75 / (18446744073709551616 : Int)) + x93 / (18446744073709551616 : Int)); let x102 : Int := x98 + x100 + (0 : Int); let x103 : Int := x102 % (18446744073709551616 : Int); let x104 : Int := x7 % (18446744073709551616 : Int); let x105 : Int := x30 % (18446744073709551616 : Int); let x106 : Int := x57 % (18446744073709551616 : Int); let x107 : Int := x84 % (18446744073709551616 : Int); let x108 : Int := x91 % (18446744073709551616 : Int); let x109 : Int := x99 % (18446744073709551616 : Int); let x110 : Int := x101 + x103 + (0 : Int); let x111 : Int := x110 % (18446744073709551616 : Int); let x112 : Int := Go.IntKind.u64.wrap (Go.IntKind.u64.wrap (x97 / (18446744073709551616 : Int) + x102 / (18446744073709551616 : Int)) + x110 / (18446744073709551616 : Int)); ((0 : Int) ≤ limb a 0 ∧ limb a 0 < (18446744073709551616 : Int)) ∧ ((0 : Int) ≤ limb b 0 ∧ limb b 0 < (18446744073709551616 : Int)) ∧ (0 : Int) ≤ x2 ∧ (0 : Int) ≤ (0 : Int) ∧ ((0 : Int) ≤ (0 : Int) ∧ (0 : Int) ≤ (1 : Int)) ∧ (0 : Int) ≤ (0 : Int) ∧ (0 : Int) ≤ x4 ∧ ((0 : Int) ≤ (0 : Int) ∧ (0 : Int) ≤ (1 : Int)) ∧ ((0 : Int) ≤ limb a 0 ∧ limb a 0 < (18446744073709551616 : Int)) ∧ ((0 : Int) ≤ limb b 1 ∧ limb b 1 < (18446744073709551616 : Int)) ∧ (0 : Int) ≤ x6 ∧ (0 : Int) ≤ x8 ∧ ((0 : Int) ≤ (0 : Int) ∧ (0 : Int) ≤ (1 : Int)) ∧ (0 : Int) ≤ (0 : Int) ∧ (0 : Int) ≤ x10 ∧ ((0 : Int) ≤ (0 : Int) ∧ (0 : Int) ≤ (1 : Int)) ∧ ((0 : Int) ≤ limb a 0 ∧ limb a 0 < (18446744073709551616 : Int)) ∧ ((0 : Int) ≤ limb b 2 ∧ limb b 2 < (18446744073709551616 : Int)) ∧ (0 : Int) ≤ x12 ∧ (0 : Int) ≤ x14 ∧ ((0 : Int) ≤ (0 : Int) ∧ (0 : Int) ≤ (1 : Int)) ∧ (0 : Int) ≤ (0 : Int) ∧ (0 : Int) ≤ x16 ∧ ((0 : Int) ≤ (0 : Int) ∧ (0 : Int) ≤ (1 : Int)) ∧ ((0 : Int) ≤ limb a 0 ∧ limb a 0 < (18446744073709551616 : Int)) ∧ ((0 : Int) ≤ limb b 3 ∧ limb b 3 < (18446744073709551616 : Int)) ∧ (0 : Int) ≤ x18 ∧ (0 : Int) ≤ x20 ∧ ((0 : Int) ≤ (0 : Int) ∧ (0 : Int) ≤ (1 : Int)) ∧ (0 : Int) ≤ (0 : Int) ∧ (0 : Int) ≤ x22 ∧ ((0 : Int) ≤ (0 : Int) ∧ (0 : Int) ≤ (1 : Int)) ∧ ((0 : Int) ≤ limb a 1 ∧ limb a 1 < (18446744073709551616 : Int)) ∧ ((0 : Int) ≤ limb b 0 ∧ limb b 0 < (18446744073709551616 : Int)) ∧ (0 : Int) ≤ x24 ∧ (0 : Int) ≤ (0 : Int) ∧ ((0 : Int) ≤ (0 : Int) ∧ (0 : Int) ≤ (1 : Int)) ∧ (0 : Int) ≤ x25 ∧ (0 : Int) ≤ x27 ∧ ((0 : Int) ≤ (0 : Int) ∧ (0 : Int) ≤ (1 : Int)) ∧ ((0 : Int) ≤ limb a 1 ∧ limb a 1 < (18446744073709551616 : Int)) ∧ ((0 : Int) ≤ limb b 1 ∧ limb b 1 < (18446744073709551616 : Int)) ∧ (0 : Int) ≤ x29 ∧ (0 : Int) ≤ x31 ∧ ((0 : Int) ≤ (0 : Int) ∧ (0 : Int) ≤ (1 : Int)) ∧ (0 : Int) ≤ x32 ∧ (0 : Int) ≤ x34 ∧ ((0 : Int) ≤ (0 : Int) ∧ (0 : Int) ≤ (1 : Int)) ∧ ((0 : Int) ≤ limb a 1 ∧ limb a 1 < (18446744073709551616 : Int)) ∧ ((0 : Int) ≤ limb b 2 ∧ limb b 2 < (18446744073709551616 : Int)) ∧ (0 : Int) ≤ x36 ∧ (0 : Int) ≤ x38 ∧ ((0 : Int) ≤ (0 : Int) ∧ (0 : Int) ≤ (1 : Int)) ∧ (0 : Int) ≤ x40 ∧ (0 : Int) ≤ x42 ∧ ((0 : Int) ≤ (0 : Int) ∧ (0 : Int) ≤ (1 : Int)) ∧ ((0 : Int) ≤ limb a 1 ∧ limb a 1 < (18446744073709551616 : Int)) ∧ ((0 : Int) ≤ limb b 3 ∧ limb b 3 < (18446744073709551616 : Int)) ∧ (0 : Int) ≤ x44 ∧ (0 : Int) ≤ x46 ∧ ((0 : Int) ≤ (0 : Int) ∧ (0 : Int) ≤ (1 : Int)) ∧ (0 : Int) ≤ x47 ∧ (0 : Int) ≤ x49 ∧ ((0 : Int) ≤ (0 : Int) ∧ (0 : Int) ≤ (1 : Int)) ∧ ((0 : Int) ≤ limb a 2 ∧ limb a 2 < (18446744073709551616 : Int)) ∧ ((0 : Int) ≤ limb b 0 ∧ limb b 0 < (18446744073709551616 : Int)) ∧ (0 : Int) ≤ x51 ∧ (0 : Int) ≤ (0 : Int) ∧ ((0 : Int) ≤ (0 : Int) ∧ (0 : Int) ≤ (1 : Int)) ∧ (0 : Int) ≤ x52 ∧ (0 : Int) ≤ x54 ∧ ((0 : Int) ≤ (0 : Int) ∧ (0 : Int) ≤ (1 : Int)) ∧ ((0 : Int) ≤ limb a 2 ∧ limb a 2 < (18446744073709551616 : Int)) ∧ ((0 : Int) ≤ limb b 1 ∧ limb b 1 < (18446744073709551616 : Int)) ∧ (0 : Int) ≤ x56 ∧ (0 : Int) ≤ x58 ∧ ((0 : Int) ≤ (0 : Int) ∧ (0 : Int) ≤ (1 : Int)) ∧ (0 : Int) ≤ x59 ∧ (0 : Int) ≤ x61 ∧ ((0 : Int) ≤ (0 : Int) ∧ (0 : Int) ≤ (1 : Int)) ∧ ((0 : Int) ≤ limb a 2 ∧ limb a 2 < (18446744073709551616 : Int)) ∧ ((0 : Int) ≤ limb b 2 ∧ limb b 2 < (18446744073709551616 : Int)) ∧ (0 : Int) ≤ x63 ∧ (0 : Int) ≤ x65 ∧ ((0 : Int) ≤ (0 : Int) ∧ (0 : Int) ≤ (1 : Int)) ∧ (0 : Int) ≤ x67 ∧ (0 : Int) ≤ x69 ∧ ((0 : Int) ≤ (0 : Int) ∧ (0 : Int) ≤ (1 : Int)) ∧ ((0 : Int) ≤ limb a 2 ∧ limb a 2 < (18446744073709551616 : Int)) ∧ ((0 : Int) ≤ limb b 3 ∧ limb b 3 < (18446744073709551616 : Int)) ∧ (0 : Int) ≤ x71 ∧ (0 : Int) ≤ x73 ∧ ((0 : Int) ≤ (0 : Int) ∧ (0 : Int) ≤ (1 : Int)) ∧ (0 : Int) ≤ x74 ∧ (0 : Int) ≤ x76 ∧ ((0 : Int) ≤ (0 : Int) ∧ (0 : Int) ≤ (1 : Int)) ∧ ((0 : Int) ≤ limb a 3 ∧ limb a 3 < (18446744073709551616 : Int)) ∧ ((0 : Int) ≤ limb b 0 ∧ limb b 0 < (18446744073709551616 : Int)) ∧ (0 : Int) ≤ x78 ∧ (0 : Int) ≤ (0 : Int) ∧ ((0 : Int) ≤ (0 : Int) ∧ (0 : Int) ≤ (1 : Int)) ∧ (0 : Int) ≤ x79 ∧ (0 : Int) ≤ x81 ∧ ((0 : Int) ≤ (0 : Int) ∧ (0 : Int) ≤ (1 : Int)) ∧ ((0 : Int) ≤ limb a 3 ∧ limb a 3 < (18446744073709551616 : Int)) ∧ ((0 : Int) ≤ limb b 1 ∧ limb b 1 < (18446744073709551616 : Int)) ∧ (0 : Int) ≤ x83 ∧ (0 : Int) ≤ x85 ∧ ((0 : Int) ≤ (0 : Int) ∧ (0 : Int) ≤ (1 : Int)) ∧ (0 : Int) ≤ x86 ∧ (0 : Int) ≤ x88 ∧ ((0 : Int) ≤ (0 : Int) ∧ (0 : Int) ≤ (1 : Int)) ∧ ((0 : Int) ≤ limb a 3 ∧ limb a 3 < (18446744073709551616 : Int)) ∧ ((0 : Int) ≤ limb b 2 ∧ limb b 2 < (18446744073709551616 : Int)) ∧ (0 : Int) ≤ x90 ∧ (0 : Int) ≤ x92 ∧ ((0 : Int) ≤ (0 : Int) ∧ (0 : Int) ≤ (1 : Int)) ∧ (0 : Int) ≤ x94 ∧ (0 : Int) ≤ x96 ∧ ((0 : Int) ≤ (0 : Int) ∧ (0 : Int) ≤ (1 : Int)) ∧ ((0 : Int) ≤ limb a 3 ∧ limb a 3 < (18446744073709551616 : Int)) ∧ ((0 : Int) ≤ limb b 3 ∧ limb b 3 < (18446744073709551616 : Int)) ∧ (0 : Int) ≤ x98 ∧ (0 : Int) ≤ x100 ∧ ((0 : Int) ≤ (0 : Int) ∧ (0 : Int) ≤ (1 : Int)) ∧ (0 : Int) ≤ x101 ∧ (0 : Int) ≤ x103 ∧ ((0 : Int) ≤ (0 : Int) ∧ (0 : Int) ≤ (1 : Int)) ∧ (((0 : Int) ≤ x104 ∧ x104 < (18446744073709551616 : Int)) ∧ ((0 : Int) ≤ x105 ∧ x105 < (18446744073709551616 : Int)) ∧ ((0 : Int) ≤ x106 ∧ x106 < (18446744073709551616 : Int)) ∧ ((0 : Int) ≤ x107 ∧ x107 < (18446744073709551616 : Int)) ∧ join x104 x105 x106 x107 % M256 = a * b % M256 ∧ True) ∧ ((0 : Int) ≤ x108 ∧ x108 < (18446744073709551616 : Int)) ∧ ((0 : Int) ≤ x109 ∧ x109 < (18446744073709551616 : Int)) ∧ ((0 : Int) ≤ x111 ∧ x111 < (18446744073709551616 : Int)) ∧ ((0 : Int) ≤ x112 ∧ x112 < (18446744073709551616 : Int)) ∧ join x108 x109 x111 x112 % M256 = a % M256 * (b % M256) / M256 % M256 ∧ True) := by kernel_rfl
end Go.Proofs.Ytohnkglcabfpjaa
end

section
namespace Go.Proofs.Ytohnkglcabfpjaa
open Go.Sx
set_option maxRecDepth 100000
def cxLz : Cx := [(93, specW lenG)]
def cxDiv64 : Cx := [(84, specW lzG)]
structure DivAt where
  q : Nat
  r : Nat
def invDiv1 (h l _ s y' y1 y0 U L w1 w0 : Int) : Inv where
  X := DivAt
  tm x := slotsAt 135 [(0, .one (sI .u64 h)), (1, .one (sI .u64 l)), (2, .one (sI .u64 y')), (8, .one (sI .u64 s)), (9, .one (sI .u64 y1)), (10, .one (sI .u64 y0)), (11, .one (sI .u64 U)), (12, .one (sI .u64 L)), (13, .one (sI .u64 w1)), (14, .one (sI .u64 w0)), (15, .one (sI .u64 x.q)), (16, .one (sI .u64 x.r)), (6, .one (.sc (.num .u64 0))), (7, .one (.sc (.num .u64 0)))]
  ob _ := []
  holds x := (x.q : Int) * y1 + x.r = U ∧ x.r < 4294967296 ∧ (U * 4294967296 + w1) / y' ≤ x.q ∧ x.q ≤ 4294967297
  less x := x.q
def invDiv2 (h l _ s y' y1 y0 U L w1 w0 q1 V : Int) : Inv where
  X := DivAt
  tm x := slotsAt 135 [(0, .one (sI .u64 h)), (1, .one (sI .u64 l)), (2, .one (sI .u64 y')), (8, .one (sI .u64 s)), (9, .one (sI .u64 y1)), (10, .one (sI .u64 y0)), (11, .one (sI .u64 U)), (12, .one (sI .u64 L)), (13, .one (sI .u64 w1)), (14, .one (sI .u64 w0)), (15, .one (sI .u64 q1)), (17, .one (sI .u64 V)), (18, .one (sI .u64 x.q)), (16, .one (sI .u64 x.r)), (6, .one (.sc (.num .u64 0))), (7, .one (.sc (.num .u64 0)))]
  ob _ := []
  holds x := (x.q : Int) * y1 + x.r = V ∧ x.r < 4294967296 ∧ (V * 4294967296 + w0) / y' ≤ x.q ∧ x.q ≤ 4294967297
  less x := x.q
def shY (y : Int) : Int := y * 2 ^ (64 - lenN y).toNat
def shU (h l y : Int) : Int := h * 2 ^ (64 - lenN y).toNat + l / 2 ^ (lenN y).toNat
def shL (l y : Int) : Int := l * 2 ^ (64 - lenN y).toNat % 18446744073709551616
def dq1 (h l y : Int) : Int := (shU h l y * 4294967296 + shL l y / 4294967296) / shY y
def dV (h l y : Int) : Int := (shU h l y * 4294967296 + shL l y / 4294967296) % shY y
def ivDiv (h l y : Int) : List (Nat × Hint) :=
  [(17, .inv (invDiv1 h l y (64 - lenN y) (shY y) (shY y / 4294967296) (shY y % 4294967296) (shU h l y) (shL l y) (shL l y / 4294967296) (shL l y % 4294967296))),
   (24, .inv (invDiv2 h l y (64 - lenN y) (shY y) (shY y / 4294967296) (shY y % 4294967296) (shU h l y) (shL l y) (shL l y / 4294967296) (shL l y % 4294967296) (dq1 h l y) (dV h l y)))]
def lit_650f3990 : ByteArray := { data := (([(0 : UInt8), (1 : UInt8), (2 : UInt8), (2 : UInt8), (3 : UInt8), (3 : UInt8), (3 : UInt8), (3 : UInt8), (4 : UInt8), (4 : UInt8), (4 : UInt8), (4 : UInt8), (4 : UInt8), (4 : UInt8), (4 : UInt8), (4 : UInt8), (5 : UInt8), (5 : UInt8), (5 : UInt8), (5 : UInt8), (5 : UInt8), (5 : UInt8), (5 : UInt8), (5 : UInt8), (5 : UInt8), (5 : UInt8), (5 : UInt8), (5 : UInt8), (5 : UInt8), (5 : UInt8), (5 : UInt8), (5 : UInt8), (6 : UInt8), (6 : UInt8), (6 : UInt8), (6 : UInt8), (6 : UInt8), (6 : UInt8), (6 : UInt8), (6 : UInt8), (6 : UInt8), (6 : UInt8), (6 : UInt8), (6 : UInt8), (6 : UInt8), (6 : UInt8), (6 : UInt8), (6 : UInt8), (6 : UInt8), (6 : UInt8), (6 : UInt8), (6 : UInt8), (6 : UInt8), (6 : UInt8), (6 : UInt8), (6 : UInt8), (6 : UInt8), (6 : UInt8), (6 : UInt8), (6 : UInt8), (6 : UInt8), (6 : UInt8), (6 : UInt8), (6 : UInt8)].append [(7 : UInt8), (7 : UInt8), (7 : UInt8), (7 : UInt8), (7 : UInt8), (7 : UInt8), (7 : UInt8), (7 : UInt8), (7 : UInt8), (7 : UInt8), (7 : UInt8), (7 : UInt8), (7 : UInt8), (7 : UInt8), (7 : UInt8), (7 : UInt8), (7 : UInt8), (7 : UInt8), (7 : UInt8), (7 : UInt8), (7 : UInt8), (7 : UInt8), (7 : UInt8), (7 : UInt8), (7 : UInt8), (7 : UInt8), (7 : UInt8), (7 : UInt8), (7 : UInt8), (7 : UInt8), (7 : UInt8), (7 : UInt8), (7 : UInt8), (7 : UInt8), (7 : UInt8), (7 : UInt8), (7 : UInt8), (7 : UInt8), (7 : UInt8), (7 : UInt8), (7 : UInt8), (7 : UInt8), (7 : UInt8), (7 : UInt8), (7 : UInt8), (7 : UInt8), (7 : UInt8), (7 : UInt8), (7 : UInt8), (7 : UInt8), (7 : UInt8), (7 : UInt8), (7 : UInt8), (7 : UInt8), (7 : UInt8), (7 : UInt8), (7 : UInt8), (7 : UInt8), (7 : UInt8), (7 : UInt8), (7 : UInt8), (7 : UInt8), (7 : UInt8), (7 : UInt8)]).append ([(8 : UInt8), (8 : UInt8), (8 : UInt8), (8 : UInt8), (8 : UInt8), (8 : UInt8), (8 : UInt8), (8 : UInt8), (8 : UInt8), (8 : UInt8), (8 : UInt8), (8 : UInt8), (8 : UInt8), (8 : UInt8), (8 : UInt8), (8 : UInt8), (8 : UInt8), (8 : UInt8), (8 : UInt8), (8 : UInt8), (8 : UInt8), (8 : UInt8), (8 : UInt8), (8 : UInt8), (8 : UInt8), (8 : UInt8), (8 : UInt8), (8 : UInt8), (8 : UInt8), (8 : UInt8), (8 : UInt8), (8 : UInt8), (8 : UInt8), (8 : UInt8), (8 : UInt8), (8 : UInt8), (8 : UInt8), (8 : UInt8), (8 : UInt8), (8 : UInt8), (8 : UInt8), (8 : UInt8), (8 : UInt8), (8 : UInt8), (8 : UInt8), (8 : UInt8), (8 : UInt8), (8 : UInt8), (8 : UInt8), (8 : UInt8), (8 : UInt8), (8 : UInt8), (8 : UInt8), (8 : UInt8), (8 : UInt8), (8 : UInt8), (8 : UInt8), (8 : UInt8), (8 : UInt8), (8 : UInt8), (8 : UInt8), (8 : UInt8), (8 : UInt8), (8 : UInt8)].append [(8 : UInt8), (8 : UInt8), (8 : UInt8), (8 : UInt8), (8 : UInt8), (8 : UInt8), (8 : UInt8), (8 : UInt8), (8 : UInt8), (8 : UInt8), (8 : UInt8), (8 : UInt8), (8 : UInt8), (8 : UInt8), (8 : UInt8), (8 : UInt8), (8 : UInt8), (8 : UInt8), (8 : UInt8), (8 : UInt8), (8 : UInt8), (8 : UInt8), (8 : UInt8), (8 : UInt8), (8 : UInt8), (8 : UInt8), (8 : UInt8), (8 : UInt8), (8 : UInt8), (8 : UInt8), (8 : UInt8), (8 : UInt8), (8 : UInt8), (8 : UInt8), (8 : UInt8), (8 : UInt8), (8 : UInt8), (8 : UInt8), (8 : UInt8), (8 : UInt8), (8 : UInt8), (8 : UInt8), (8 : UInt8), (8 : UInt8), (8 : UInt8), (8 : UInt8), (8 : UInt8), (8 : UInt8), (8 : UInt8), (8 : UInt8), (8 : UInt8), (8 : UInt8), (8 : UInt8), (8 : UInt8), (8 : UInt8), (8 : UInt8), (8 : UInt8), (8 : UInt8), (8 : UInt8), (8 : UInt8), (8 : UInt8), (8 : UInt8), (8 : UInt8), (8 : UInt8)])).toArray }
theorem vc_Len64 (x : Int) :
    Owes Try.prog Cx.none [] 100 Try.f93 [sI .u64 x] (lenG x) =
    (let x1 : Int := (x.fdiv (4294967296 : Int)).fdiv (65536 : Int); let x2 : Int := Go.IntKind.u8.wrap (x1.fdiv (256 : Int)); let x3 : Nat := x2.toNat; let x4 : Int := Go.IntKind.u8.wrap x1; let x5 : Nat := x4.toNat; let x6 : Int := Go.IntKind.u8.wrap ((x.fdiv (4294967296 : Int)).fdiv (256 : Int)); let x7 : Nat := x6.toNat; let x8 : Int := Go.IntKind.u8.wrap (x.fdiv (4294967296 : Int)); let x9 : Nat := x8.toNat; let x10 : Int := Go.IntKind.u8.wrap ((x.fdiv (65536 : Int)).fdiv (256 : Int)); let x11 : Nat := x10.toNat; let x12 : Int := Go.IntKind.u8.wrap (x.fdiv (65536 : Int)); let x13 : Nat := x12.toNat; let x14 : Int := Go.IntKind.u8.wrap (x.fdiv (256 : Int)); let x15 : Nat := x14.toNat; (Decidable.decide (x ≥ (4294967296 : Int)) = Bool.true → (Decidable.decide (x.fdiv (4294967296 : Int) ≥ (65536 : Int)) = Bool.true → (Decidable.decide (x1 ≥ (256 : Int)) = Bool.true → ((0 : Int) ≤ x2 ∧ x3 < 256) ∧ Go.IntKind.i64.wrap ((56 : Int) + Go.IntKind.i64.wrap (↑(lit_650f3990.data.getD x3 (0 : UInt8)).toNat : Int)) = lenN x) ∧ (Decidable.decide (x1 ≥ (256 : Int)) = Bool.false → ((0 : Int) ≤ x4 ∧ x5 < 256) ∧ Go.IntKind.i64.wrap ((48 : Int) + Go.IntKind.i64.wrap (↑(lit_650f3990.data.getD x5 (0 : UInt8)).toNat : Int)) = lenN x)) ∧ (Decidable.decide (x.fdiv (4294967296 : Int) ≥ (65536 : Int)) = Bool.false → (Decidable.decide (x.fdiv (4294967296 : Int) ≥ (256 : Int)) = Bool.true → ((0 : Int) ≤ x6 ∧ x7 < 256) ∧ Go.IntKind.i64.wrap ((40 : Int) + Go.IntKind.i64.wrap (↑(lit_650f3990.data.getD x7 (0 : UInt8)).toNat : Int)) = lenN x) ∧ (Decidable.decide (x.fdiv (4294967296 : Int) ≥ (256 : Int)) = Bool.false → ((0 : Int) ≤ x8 ∧ x9 < 256) ∧ Go.IntKind.i64.wrap ((32 : Int) + Go.IntKind.i64.wrap (↑(lit_650f3990.data.getD x9 (0 : UInt8)).toNat : Int)) = lenN x))) ∧ (Decidable.decide (x ≥ (4294967296 : Int)) = Bool.false → (Decidable.decide (x ≥ (65536 : Int)) = Bool.true → (Decidable.decide (x.fdiv (65536 : Int) ≥ (256 : Int)) = Bool.true → ((0 : Int) ≤ x10 ∧ x11 < 256) ∧ Go.IntKind.i64.wrap ((24 : Int) + Go.IntKind.i64.wrap (↑(lit_650f3990.data.getD x11 (0 : UInt8)).toNat : Int)) = lenN x) ∧ (Decidable.decide (x.fdiv (65536 : Int) ≥ (256 : Int)) = Bool.false → ((0 : Int) ≤ x12 ∧ x13 < 256) ∧ Go.IntKind.i64.wrap ((16 : Int) + Go.IntKind.i64.wrap (↑(lit_650f3990.data.getD x13 (0 : UInt8)).toNat : Int)) = lenN x)) ∧ (Decidable.decide (x ≥ (65536 : Int)) = Bool.false → (Decidable.decide (x ≥ (256 : Int)) = Bool.true → ((0 : Int) ≤ x14 ∧ x15 < 256) ∧ Go.IntKind.i64.wrap ((8 : Int) + Go.IntKind.i64.wrap (↑(lit_650f3990.data.getD x15 (0 : UInt8)).toNat : Int)) = lenN x) ∧ (Decidable.decide (x ≥ (256 : Int)) = Bool.false → ((0 : Int) ≤ Go.IntKind.u8.wrap x ∧ (Go.IntKind.u8.wrap x).toNat < 256) ∧ Go.IntKind.i64.wrap ((0 : Int) + Go.IntKind.i64.wrap (↑(lit_650f3990.data.getD (Go.IntKind.u8.wrap x).toNat (0 : UInt8)).toNat : Int)) = lenN x)))) := by kernel_rfl
theorem vc_LZ64 (x : Int) :
    Owes Try.prog cxLz [] 100 Try.f84 [sI .u64 x] (lzG x) =
    (let x1 : Int := (64 : Int) - lenN x; ((0 : Int) ≤ x ∧ x < (18446744073709551616 : Int)) ∧ Go.IntKind.i64.wrap x1 = x1) := by kernel_rfl
theorem vc_Div64 (h l y : Int) :
    Owes Try.prog cxDiv64 (ivDiv h l y) 100 Try.f94 [sI .u64 h, sI .u64 l, sI .u64 y] (divG h l y) =
    (let x1 : Int := h * (18446744073709551616 : Int) + l; let x2 : Int := x1 / y; let x3 : Int := x1 % y; let x4 : Int := (64 : Int) - lenN y; let x5 : Int := Go.IntKind.u64.wrap x4; let x6 : Int := Go.IntKind.u64.wrap ((64 : Int) - x5); let x7 : Int := (2 : Int) ^ Min.min x5.toNat 64; let x8 : Int := Go.IntKind.u64.wrap (y * x7); let x9 : Int := x8.fdiv (4294967296 : Int); let x10 : Int := shY y / (4294967296 : Int); let x11 : Int := shY y % (4294967296 : Int); let x12 : Int := shL l y / (4294967296 : Int); let x13 : Int := shL l y % (4294967296 : Int); let x14 : Int := shU h l y * (4294967296 : Int); let x15 : Int := Go.IntKind.u64.wrap (↑(BitVec.ofInt 64 (Go.IntKind.u64.wrap (h * x7)) ||| BitVec.ofInt 64 (l.fdiv ((2 : Int) ^ Min.min x6.toNat 64))).toNat : Int); let x16 : Int := Go.IntKind.u64.wrap (l * x7); let x17 : Int := Go.IntKind.u64.wrap (x15.tdiv x9); let x18 : Int := dV h l y * (4294967296 : Int); let x19 : Int := (2 : Int) ^ Min.min x4.toNat 64; ((y == (0 : Int)) = Bool.true → Stuck { dst := Option.some 21, op := Go.Op.load 127 (Go.Operand.global 0), type := 127, pos := "bits.go:520", after := #[], guard := Option.none }) ∧ ((y == (0 : Int)) = Bool.false → (Decidable.decide (y ≤ h) = Bool.true → Stuck { dst := Option.some 25, op := Go.Op.load 127 (Go.Operand.global 1), type := 127, pos := "bits.go:523", after := #[], guard := Option.none }) ∧ (Decidable.decide (y ≤ h) = Bool.false → ((h == (0 : Int)) = Bool.true → y ≠ (0 : Int) ∧ y ≠ (0 : Int) ∧ Go.IntKind.u64.wrap (l.tdiv y) = x2 ∧ l.tmod y = x3) ∧ ((h == (0 : Int)) = Bool.false → ((0 : Int) ≤ y ∧ y < (18446744073709551616 : Int)) ∧ (0 : Int) ≤ x5 ∧ (0 : Int) ≤ x5 ∧ (0 : Int) ≤ x6 ∧ (0 : Int) ≤ x5 ∧ x9 ≠ (0 : Int) ∧ (∀ (y_1 : DivAt), closedB (slotsAt 135 [(0, SV.one (sI Go.IntKind.u64 h)), (1, SV.one (sI Go.IntKind.u64 l)), (2, SV.one (sI Go.IntKind.u64 (shY y))), (8, SV.one (sI Go.IntKind.u64 x4)), (9, SV.one (sI Go.IntKind.u64 x10)), (10, SV.one (sI Go.IntKind.u64 x11)), (11, SV.one (sI Go.IntKind.u64 (shU h l y))), (12, SV.one (sI Go.IntKind.u64 (shL l y))), (13, SV.one (sI Go.IntKind.u64 x12)), (14, SV.one (sI Go.IntKind.u64 x13)), (15, SV.one (sI Go.IntKind.u64 (↑y_1.q : Int))), (16, SV.one (sI Go.IntKind.u64 (↑y_1.r : Int))), (6, SV.one (SA.sc (SC.num Go.IntKind.u64 (0 : Int)))), (7, SV.one (SA.sc (SC.num Go.IntKind.u64 (0 : Int))))]) [] = Bool.true) ∧ ∃ (y_1 : DivAt), ((↑y_1.q : Int) * x10 + (↑y_1.r : Int) = shU h l y ∧ y_1.r < 4294967296 ∧ (x14 + x12) / shY y ≤ (↑y_1.q : Int) ∧ y_1.q ≤ 4294967297) ∧ h = h ∧ l = l ∧ x8 = shY y ∧ x5 = x4 ∧ x9 = x10 ∧ Go.IntKind.u64.wrap (↑(BitVec.ofInt 64 x8 &&& BitVec.ofInt 64 (4294967295 : Int)).toNat : Int) = x11 ∧ x15 = shU h l y ∧ x16 = shL l y ∧ x16.fdiv (4294967296 : Int) = x12 ∧ Go.IntKind.u64.wrap (↑(BitVec.ofInt 64 x16 &&& BitVec.ofInt 64 (4294967295 : Int)).toNat : Int) = x13 ∧ x17 = (↑y_1.q : Int) ∧ Go.IntKind.u64.wrap (x15 - Go.IntKind.u64.wrap (x17 * x9)) = (↑y_1.r : Int) ∧ ∀ (y_2 : DivAt), (↑y_2.q : Int) * x10 + (↑y_2.r : Int) = shU h l y ∧ y_2.r < 4294967296 ∧ (x14 + x12) / shY y ≤ (↑y_2.q : Int) ∧ y_2.q ≤ 4294967297 → ((!Decidable.decide ((↑y_2.q : Int) ≥ (4294967296 : Int))) = Bool.true → (!Decidable.decide ((↑y_2.q : Int) ≥ (4294967296 : Int))) = Bool.true) ∧ ((!Decidable.decide ((↑y_2.q : Int) ≥ (4294967296 : Int))) = Bool.true → (!Decidable.decide ((↑y_2.q : Int) ≥ (4294967296 : Int))) = Bool.true) ∧ ((!Decidable.decide ((↑y_2.q : Int) ≥ (4294967296 : Int))) = Bool.true → (!Decidable.decide ((↑y_2.q : Int) ≥ (4294967296 : Int))) = Bool.true) ∧ ((!Decidable.decide ((↑y_2.q : Int) ≥ (4294967296 : Int))) = Bool.true → (!Decidable.decide ((↑y_2.q : Int) ≥ (4294967296 : Int))) = Bool.true) ∧ ((!Decidable.decide ((↑y_2.q : Int) ≥ (4294967296 : Int))) = Bool.true → (!Decidable.decide ((↑y_2.q : Int) ≥ (4294967296 : Int))) = Bool.true) ∧ ((!Decidable.decide ((↑y_2.q : Int) ≥ (4294967296 : Int))) = Bool.true → (!Decidable.decide ((↑y_2.q : Int) ≥ (4294967296 : Int))) = Bool.true) ∧ ((!Decidable.decide ((↑y_2.q : Int) ≥ (4294967296 : Int))) = Bool.true → (!Decidable.decide ((↑y_2.q : Int) ≥ (4294967296 : Int))) = Bool.true) ∧ (Decidable.decide ((↑y_2.q : Int) ≥ (4294967296 : Int)) = Bool.false → (!Decidable.decide ((↑y_2.q : Int) ≥ (4294967296 : Int))) = Bool.true) ∧ ((Decidable.decide ((↑y_2.q : Int) ≥ (4294967296 : Int)) || Decidable.decide (Go.IntKind.u64.wrap ((↑y_2.q : Int) * x11) > Go.IntKind.u64.wrap (Go.IntKind.u64.wrap ((4294967296 : Int) * (↑y_2.r : Int)) + x12))) = Bool.true → (Decidable.decide (Go.IntKind.u64.wrap ((↑y_2.r : Int) + x10) ≥ (4294967296 : Int)) = Bool.true → x10 ≠ (0 : Int) ∧ (∀ (y_3 : DivAt), closedB (slotsAt 135 [(0, SV.one (sI Go.IntKind.u64 h)), (1, SV.one (sI Go.IntKind.u64 l)), (2, SV.one (sI Go.IntKind.u64 (shY y))), (8, SV.one (sI Go.IntKind.u64 x4)), (9, SV.one (sI Go.IntKind.u64 x10)), (10, SV.one (sI Go.IntKind.u64 x11)), (11, SV.one (sI Go.IntKind.u64 (shU h l y))), (12, SV.one (sI Go.IntKind.u64 (shL l y))), (13, SV.one (sI Go.IntKind.u64 x12)), (14, SV.one (sI Go.IntKind.u64 x13)), (15, SV.one (sI Go.IntKind.u64 (dq1 h l y))), (17, SV.one (sI Go.IntKind.u64 (dV h l y))), (18, SV.one (sI Go.IntKind.u64 (↑y_3.q : Int))), (16, SV.one (sI Go.IntKind.u64 (↑y_3.r : Int))), (6, SV.one (SA.sc (SC.num Go.IntKind.u64 (0 : Int)))), (7, SV.one (SA.sc (SC.num Go.IntKind.u64 (0 : Int))))]) [] = Bool.true) ∧ ∃ (y_3 : DivAt), ((↑y_3.q : Int) * x10 + (↑y_3.r : Int) = dV h l y ∧ y_3.r < 4294967296 ∧ (x18 + x13) / shY y ≤ (↑y_3.q : Int) ∧ y_3.q ≤ 4294967297) ∧ h = h ∧ l = l ∧ shY y = shY y ∧ x4 = x4 ∧ x10 = x10 ∧ x11 = x11 ∧ shU h l y = shU h l y ∧ shL l y = shL l y ∧ x12 = x12 ∧ x13 = x13 ∧ Go.IntKind.u64.wrap ((↑y_2.q : Int) - (1 : Int)) = dq1 h l y ∧ Go.IntKind.u64.wrap (Go.IntKind.u64.wrap (Go.IntKind.u64.wrap (Go.IntKind.u64.wrap x14 + x12) - Go.IntKind.u64.wrap (Go.IntKind.u64.wrap ((↑y_2.q : Int) - (1 : Int)) * shY y)) - Go.IntKind.u64.wrap (Go.IntKind.u64.wrap ((Go.IntKind.u64.wrap (Go.IntKind.u64.wrap (Go.IntKind.u64.wrap x14 + x12) - Go.IntKind.u64.wrap (Go.IntKind.u64.wrap ((↑y_2.q : Int) - (1 : Int)) * shY y))).tdiv x10) * x10)) = (↑y_3.r : Int) ∧ Go.IntKind.u64.wrap (Go.IntKind.u64.wrap (Go.IntKind.u64.wrap x14 + x12) - Go.IntKind.u64.wrap (Go.IntKind.u64.wrap ((↑y_2.q : Int) - (1 : Int)) * shY y)) = dV h l y ∧ Go.IntKind.u64.wrap ((Go.IntKind.u64.wrap (Go.IntKind.u64.wrap (Go.IntKind.u64.wrap x14 + x12) - Go.IntKind.u64.wrap (Go.IntKind.u64.wrap ((↑y_2.q : Int) - (1 : Int)) * shY y))).tdiv x10) = (↑y_3.q : Int) ∧ ∀ (y_4 : DivAt), (↑y_4.q : Int) * x10 + (↑y_4.r : Int) = dV h l y ∧ y_4.r < 4294967296 ∧ (x18 + x13) / shY y ≤ (↑y_4.q : Int) ∧ y_4.q ≤ 4294967297 → ((!Decidable.decide ((↑y_4.q : Int) ≥ (4294967296 : Int))) = Bool.true → (!Decidable.decide ((↑y_4.q : Int) ≥ (4294967296 : Int))) = Bool.true) ∧ ((!Decidable.decide ((↑y_4.q : Int) ≥ (4294967296 : Int))) = Bool.true → (!Decidable.decide ((↑y_4.q : Int) ≥ (4294967296 : Int))) = Bool.true) ∧ ((!Decidable.decide ((↑y_4.q : Int) ≥ (4294967296 : Int))) = Bool.true → (!Decidable.decide ((↑y_4.q : Int) ≥ (4294967296 : Int))) = Bool.true) ∧ ((!Decidable.decide ((↑y_4.q : Int) ≥ (4294967296 : Int))) = Bool.true → (!Decidable.decide ((↑y_4.q : Int) ≥ (4294967296 : Int))) = Bool.true) ∧ ((!Decidable.decide ((↑y_4.q : Int) ≥ (4294967296 : Int))) = Bool.true → (!Decidable.decide ((↑y_4.q : Int) ≥ (4294967296 : Int))) = Bool.true) ∧ ((!Decidable.decide ((↑y_4.q : Int) ≥ (4294967296 : Int))) = Bool.true → (!Decidable.decide ((↑y_4.q : Int) ≥ (4294967296 : Int))) = Bool.true) ∧ ((!Decidable.decide ((↑y_4.q : Int) ≥ (4294967296 : Int))) = Bool.true → (!Decidable.decide ((↑y_4.q : Int) ≥ (4294967296 : Int))) = Bool.true) ∧ (Decidable.decide ((↑y_4.q : Int) ≥ (4294967296 : Int)) = Bool.false → (!Decidable.decide ((↑y_4.q : Int) ≥ (4294967296 : Int))) = Bool.true) ∧ ((Decidable.decide ((↑y_4.q : Int) ≥ (4294967296 : Int)) || Decidable.decide (Go.IntKind.u64.wrap ((↑y_4.q : Int) * x11) > Go.IntKind.u64.wrap (Go.IntKind.u64.wrap ((4294967296 : Int) * (↑y_4.r : Int)) + x13))) = Bool.true → (Decidable.decide (Go.IntKind.u64.wrap ((↑y_4.r : Int) + x10) ≥ (4294967296 : Int)) = Bool.true → (0 : Int) ≤ x4 ∧ Go.IntKind.u64.wrap (Go.IntKind.u64.wrap (dq1 h l y * (4294967296 : Int)) + Go.IntKind.u64.wrap ((↑y_4.q : Int) - (1 : Int))) = x2 ∧ (Go.IntKind.u64.wrap (Go.IntKind.u64.wrap (Go.IntKind.u64.wrap x18 + x13) - Go.IntKind.u64.wrap (Go.IntKind.u64.wrap ((↑y_4.q : Int) - (1 : Int)) * shY y))).fdiv x19 = x3) ∧ (Decidable.decide (Go.IntKind.u64.wrap ((↑y_4.r : Int) + x10) ≥ (4294967296 : Int)) = Bool.false → ∃ (y' : DivAt), ((↑y'.q : Int) * x10 + (↑y'.r : Int) = dV h l y ∧ y'.r < 4294967296 ∧ (x18 + x13) / shY y ≤ (↑y'.q : Int) ∧ y'.q ≤ 4294967297) ∧ h = h ∧ l = l ∧ shY y = shY y ∧ x4 = x4 ∧ x10 = x10 ∧ x11 = x11 ∧ shU h l y = shU h l y ∧ shL l y = shL l y ∧ x12 = x12 ∧ x13 = x13 ∧ dq1 h l y = dq1 h l y ∧ Go.IntKind.u64.wrap ((↑y_4.r : Int) + x10) = (↑y'.r : Int) ∧ dV h l y = dV h l y ∧ Go.IntKind.u64.wrap ((↑y_4.q : Int) - (1 : Int)) = (↑y'.q : Int) ∧ y'.q < y_4.q)) ∧ ((Decidable.decide ((↑y_4.q : Int) ≥ (4294967296 : Int)) || Decidable.decide (Go.IntKind.u64.wrap ((↑y_4.q : Int) * x11) > Go.IntKind.u64.wrap (Go.IntKind.u64.wrap ((4294967296 : Int) * (↑y_4.r : Int)) + x13))) = Bool.false → (0 : Int) ≤ x4 ∧ Go.IntKind.u64.wrap (Go.IntKind.u64.wrap (dq1 h l y * (4294967296 : Int)) + (↑y_4.q : Int)) = x2 ∧ (Go.IntKind.u64.wrap (Go.IntKind.u64.wrap (Go.IntKind.u64.wrap x18 + x13) - Go.IntKind.u64.wrap ((↑y_4.q : Int) * shY y))).fdiv x19 = x3)) ∧ (Decidable.decide (Go.IntKind.u64.wrap ((↑y_2.r : Int) + x10) ≥ (4294967296 : Int)) = Bool.false → ∃ (y' : DivAt), ((↑y'.q : Int) * x10 + (↑y'.r : Int) = shU h l y ∧ y'.r < 4294967296 ∧ (x14 + x12) / shY y ≤ (↑y'.q : Int) ∧ y'.q ≤ 4294967297) ∧ h = h ∧ l = l ∧ shY y = shY y ∧ x4 = x4 ∧ x10 = x10 ∧ x11 = x11 ∧ shU h l y = shU h l y ∧ shL l y = shL l y ∧ x12 = x12 ∧ x13 = x13 ∧ Go.IntKind.u64.wrap ((↑y_2.q : Int) - (1 : Int)) = (↑y'.q : Int) ∧ Go.IntKind.u64.wrap ((↑y_2.r : Int) + x10) = (↑y'.r : Int) ∧ y'.q < y_2.q)) ∧ ((Decidable.decide ((↑y_2.q : Int) ≥ (4294967296 : Int)) || Decidable.decide (Go.IntKind.u64.wrap ((↑y_2.q : Int) * x11) > Go.IntKind.u64.wrap (Go.IntKind.u64.wrap ((4294967296 : Int) * (↑y_2.r : Int)) + x12))) = Bool.false → x10 ≠ (0 : Int) ∧ (∀ (y_3 : DivAt), closedB (slotsAt 135 [(0, SV.one (sI Go.IntKind.u64 h)), (1, SV.one (sI Go.IntKind.u64 l)), (2, SV.one (sI Go.IntKind.u64 (shY y))), (8, SV.one (sI Go.IntKind.u64 x4)), (9, SV.one (sI Go.IntKind.u64 x10)), (10, SV.one (sI Go.IntKind.u64 x11)), (11, SV.one (sI Go.IntKind.u64 (shU h l y))), (12, SV.one (sI Go.IntKind.u64 (shL l y))), (13, SV.one (sI Go.IntKind.u64 x12)), (14, SV.one (sI Go.IntKind.u64 x13)), (15, SV.one (sI Go.IntKind.u64 (dq1 h l y))), (17, SV.one (sI Go.IntKind.u64 (dV h l y))), (18, SV.one (sI Go.IntKind.u64 (↑y_3.q : Int))), (16, SV.one (sI Go.IntKind.u64 (↑y_3.r : Int))), (6, SV.one (SA.sc (SC.num Go.IntKind.u64 (0 : Int)))), (7, SV.one (SA.sc (SC.num Go.IntKind.u64 (0 : Int))))]) [] = Bool.true) ∧ ∃ (y_3 : DivAt), ((↑y_3.q : Int) * x10 + (↑y_3.r : Int) = dV h l y ∧ y_3.r < 4294967296 ∧ (x18 + x13) / shY y ≤ (↑y_3.q : Int) ∧ y_3.q ≤ 4294967297) ∧ h = h ∧ l = l ∧ shY y = shY y ∧ x4 = x4 ∧ x10 = x10 ∧ x11 = x11 ∧ shU h l y = shU h l y ∧ shL l y = shL l y ∧ x12 = x12 ∧ x13 = x13 ∧ (↑y_2.q : Int) = dq1 h l y ∧ Go.IntKind.u64.wrap (Go.IntKind.u64.wrap (Go.IntKind.u64.wrap (Go.IntKind.u64.wrap x14 + x12) - Go.IntKind.u64.wrap ((↑y_2.q : Int) * shY y)) - Go.IntKind.u64.wrap (Go.IntKind.u64.wrap ((Go.IntKind.u64.wrap (Go.IntKind.u64.wrap (Go.IntKind.u64.wrap x14 + x12) - Go.IntKind.u64.wrap ((↑y_2.q : Int) * shY y))).tdiv x10) * x10)) = (↑y_3.r : Int) ∧ Go.IntKind.u64.wrap (Go.IntKind.u64.wrap (Go.IntKind.u64.wrap x14 + x12) - Go.IntKind.u64.wrap ((↑y_2.q : Int) * shY y)) = dV h l y ∧ Go.IntKind.u64.wrap ((Go.IntKind.u64.wrap (Go.IntKind.u64.wrap (Go.IntKind.u64.wrap x14 + x12) - Go.IntKind.u64.wrap ((↑y_2.q : Int) * shY y))).tdiv x10) = (↑y_3.q : Int) ∧ ∀ (y_4 : DivAt), (↑y_4.q : Int) * x10 + (↑y_4.r : Int) = dV h l y ∧ y_4.r < 4294967296 ∧ (x18 + x13) / shY y ≤ (↑y_4.q : Int) ∧ y_4.q ≤ 4294967297 → ((!Decidable.decide ((↑y_4.q : Int) ≥ (4294967296 : Int))) = Bool.true → (!Decidable.decide ((↑y_4.q : Int) ≥ (4294967296 : Int))) = Bool.true) ∧ ((!Decidable.decide ((↑y_4.q : Int) ≥ (4294967296 : Int))) = Bool.true → (!Decidable.decide ((↑y_4.q : Int) ≥ (4294967296 : Int))) = Bool.true) ∧ ((!Decidable.decide ((↑y_4.q : Int) ≥ (4294967296 : Int))) = Bool.true → (!Decidable.decide ((↑y_4.q : Int) ≥ (4294967296 : Int))) = Bool.true) ∧ ((!Decidable.decide ((↑y_4.q : Int) ≥ (4294967296 : Int))) = Bool.true → (!Decidable.decide ((↑y_4.q : Int) ≥ (4294967296 : Int))) = Bool.true) ∧ ((!Decidable.decide ((↑y_4.q : Int) ≥ (4294967296 : Int))) = Bool.true → (!Decidable.decide ((↑y_4.q : Int) ≥ (4294967296 : Int))) = Bool.true) ∧ ((!Decidable.decide ((↑y_4.q : Int) ≥ (4294967296 : Int))) = Bool.true → (!Decidable.decide ((↑y_4.q : Int) ≥ (4294967296 : Int))) = Bool.true) ∧ ((!Decidable.decide ((↑y_4.q : Int) ≥ (4294967296 : Int))) = Bool.true → (!Decidable.decide ((↑y_4.q : Int) ≥ (4294967296 : Int))) = Bool.true) ∧ (Decidable.decide ((↑y_4.q : Int) ≥ (4294967296 : Int)) = Bool.false → (!Decidable.decide ((↑y_4.q : Int) ≥ (4294967296 : Int))) = Bool.true) ∧ ((Decidable.decide ((↑y_4.q : Int) ≥ (4294967296 : Int)) || Decidable.decide (Go.IntKind.u64.wrap ((↑y_4.q : Int) * x11) > Go.IntKind.u64.wrap (Go.IntKind.u64.wrap ((4294967296 : Int) * (↑y_4.r : Int)) + x13))) = Bool.true → (Decidable.decide (Go.IntKind.u64.wrap ((↑y_4.r : Int) + x10) ≥ (4294967296 : Int)) = Bool.true → (0 : Int) ≤ x4 ∧ Go.IntKind.u64.wrap (Go.IntKind.u64.wrap (dq1 h l y * (4294967296 : Int)) + Go.IntKind.u64.wrap ((↑y_4.q : Int) - (1 : Int))) = x2 ∧ (Go.IntKind.u64.wrap (Go.IntKind.u64.wrap (Go.IntKind.u64.wrap x18 + x13) - Go.IntKind.u64.wrap (Go.IntKind.u64.wrap ((↑y_4.q : Int) - (1 : Int)) * shY y))).fdiv x19 = x3) ∧ (Decidable.decide (Go.IntKind.u64.wrap ((↑y_4.r : Int) + x10) ≥ (4294967296 : Int)) = Bool.false → ∃ (y' : DivAt), ((↑y'.q : Int) * x10 + (↑y'.r : Int) = dV h l y ∧ y'.r < 4294967296 ∧ (x18 + x13) / shY y ≤ (↑y'.q : Int) ∧ y'.q ≤ 4294967297) ∧ h = h ∧ l = l ∧ shY y = shY y ∧ x4 = x4 ∧ x10 = x10 ∧ x11 = x11 ∧ shU h l y = shU h l y ∧ shL l y = shL l y ∧ x12 = x12 ∧ x13 = x13 ∧ dq1 h l y = dq1 h l y ∧ Go.IntKind.u64.wrap ((↑y_4.r : Int) + x10) = (↑y'.r : Int) ∧ dV h l y = dV h l y ∧ Go.IntKind.u64.wrap ((↑y_4.q : Int) - (1 : Int)) = (↑y'.q : Int) ∧ y'.q < y_4.q)) ∧ ((Decidable.decide ((↑y_4.q : Int) ≥ (4294967296 : Int)) || Decidable.decide (Go.IntKind.u64.wrap ((↑y_4.q : Int) * x11) > Go.IntKind.u64.wrap (Go.IntKind.u64.wrap ((4294967296 : Int) * (↑y_4.r : Int)) + x13))) = Bool.false → (0 : Int) ≤ x4 ∧ Go.IntKind.u64.wrap (Go.IntKind.u64.wrap (dq1 h l y * (4294967296 : Int)) + (↑y_4.q : Int)) = x2 ∧ (Go.IntKind.u64.wrap (Go.IntKind.u64.wrap (Go.IntKind.u64.wrap x18 + x13) - Go.IntKind.u64.wrap ((↑y_4.q : Int) * shY y))).fdiv x19 = x3)))))) := by kernel_rfl
end Go.Proofs.Ytohnkglcabfpjaa
end

section
namespace Go.Sx
open Go.RowKit
end Go.Sx
end

section
namespace Go.Sx
open Go.RowKit
theorem bnd_sU (a : Nat) : SA.bnd none0 (sU a) := by
  intro k hk; simp only [List.mem_singleton] at hk; subst hk; trivial
def specUJ (c : Nat → Int → List Prop) (g : Nat → Int → SV) : FSpec := fun args =>
  match args with
  | [x, y] => match asU x, asI y with
    | some (p, a), some (.i64, n) => some (p ++ c a n, g a n)
    | _, _ => none
  | _ => none
theorem FnOK_UJ {P : Program} {cx : Cx} (hcx : CxOK P cx) {iv : Nat → Int → List (Nat × Hint)} {N : Nat} {f : Nat} {fn : Func} (hf : P.funcs[f]? = some fn) (hb : fn.body.isSome = true) (hn : (fn.name == "runtime.NumGoroutine") = false) {c : Nat → Int → List Prop} {g : Nat → Int → SV} (hg : ∀ a n, (g a n).bnd none0)
    (h : ∀ a n, Ok (c a n) → Owes P cx (iv a n) N fn [sU a, sI .i64 n] (g a n)) : FnOKg P cx.gl f (specUJ c g) := by
  refine FnOK_of hf hb hn fun args ps sv hs hp => ?_
  unfold specUJ at hs
  split at hs
  · rename_i x y
    split at hs
    · rename_i p a n ha hn'
      simp only [Option.some.injEq, Prod.mk.injEq] at hs
      obtain ⟨rfl, rfl⟩ := hs
      obtain ⟨o1, o2⟩ := Ok.append.1 hp
      refine ⟨hg a n, fun ρ w hzz hgg _ => ?_⟩
      rw [show [x, y].map (SA.conc ρ) = [sU a, sI .i64 n].map (SA.conc ρ) by simp only [List.map_cons, List.map_nil, asU_canon ha o1 ρ, asI_canon hn' ρ]]
      refine (calls_of_owes0 hcx hf hb (args := [sU a, sI .i64 n]) (by
        intro z hz
        simp only [List.mem_cons, List.not_mem_nil, or_false] at hz
        rcases hz with rfl | rfl
        · exact bnd_sU _
        · trivial) (h a n o2) ρ w hzz hgg).mono ?_
      rintro e w' ⟨v, rfl, ⟨ρ', hr⟩, hbl⟩
      exact ⟨v, rfl, rep_none0 (hg a n) hr, hbl⟩
    · cases hs
  · cases hs
def specUUC (c : Nat → Nat → List Prop) (g : Nat → Nat → SV) : FSpec := fun args =>
  match args with
  | [x, y] => match asU x, asU y with
    | some (p, a), some (q, b) => some ((p ++ q) ++ c a b, g a b)
    | _, _ => none
  | _ => none
theorem FnOK_UUC {P : Program} {cx : Cx} (hcx : CxOK P cx) {iv : Nat → Nat → List (Nat × Hint)} {N : Nat} {f : Nat} {fn : Func} (hf : P.funcs[f]? = some fn) (hb : fn.body.isSome = true) (hn : (fn.name == "runtime.NumGoroutine") = false) {c : Nat → Nat → List Prop} {g : Nat → Nat → SV} (hg : ∀ a b, (g a b).bnd none0)
    (h : ∀ a b, Ok (c a b) → Owes P cx (iv a b) N fn [sU a, sU b] (g a b)) : FnOKg P cx.gl f (specUUC c g) := by
  refine FnOK_of hf hb hn fun args ps sv hs hp => ?_
  unfold specUUC at hs
  split at hs
  · rename_i x y
    split at hs
    · rename_i p a q b ha hb'
      simp only [Option.some.injEq, Prod.mk.injEq] at hs
      obtain ⟨rfl, rfl⟩ := hs
      obtain ⟨o12, o3⟩ := Ok.append.1 hp
      obtain ⟨o1, o2⟩ := Ok.append.1 o12
      refine ⟨hg a b, fun ρ w hzz hgg _ => ?_⟩
      rw [show [x, y].map (SA.conc ρ) = [sU a, sU b].map (SA.conc ρ) by simp only [List.map_cons, List.map_nil, asU_canon ha o1 ρ, asU_canon hb' o2 ρ]]
      refine (calls_of_owes0 hcx hf hb (args := [sU a, sU b]) (by
        intro z hz
        simp only [List.mem_cons, List.not_mem_nil, or_false] at hz
        rcases hz with rfl | rfl <;> exact bnd_sU _) (h a b o3) ρ w hzz hgg).mono ?_
      rintro e w' ⟨v, rfl, ⟨ρ', hr⟩, hbl⟩
      exact ⟨v, rfl, rep_none0 (hg a b) hr, hbl⟩
    · cases hs
  · cases hs
def specUWU (c : Nat → Int → Nat → List Prop) (g : Nat → Int → Nat → SV) : FSpec := fun args =>
  match args with
  | [x, y, z] => match asU x, asI y, asU z with
    | some (p, a), some (.u64, n), some (q, b) => some ((p ++ q) ++ c a n b, g a n b)
    | _, _, _ => none
  | _ => none
theorem FnOK_UWU {P : Program} {cx : Cx} (hcx : CxOK P cx) {iv : Nat → Int → Nat → List (Nat × Hint)} {N : Nat} {f : Nat} {fn : Func} (hf : P.funcs[f]? = some fn) (hb : fn.body.isSome = true) (hn : (fn.name == "runtime.NumGoroutine") = false) {c : Nat → Int → Nat → List Prop} {g : Nat → Int → Nat → SV} (hg : ∀ a n b, (g a n b).bnd none0)
    (h : ∀ a n b, Ok (c a n b) → Owes P cx (iv a n b) N fn [sU a, sI .u64 n, sU b] (g a n b)) : FnOKg P cx.gl f (specUWU c g) := by
  refine FnOK_of hf hb hn fun args ps sv hs hp => ?_
  unfold specUWU at hs
  split at hs
  · rename_i x y z
    split at hs
    · rename_i p a n q b ha hn' hb'
      simp only [Option.some.injEq, Prod.mk.injEq] at hs
      obtain ⟨rfl, rfl⟩ := hs
      obtain ⟨o12, o3⟩ := Ok.append.1 hp
      obtain ⟨o1, o2⟩ := Ok.append.1 o12
      refine ⟨hg a n b, fun ρ w hzz hgg _ => ?_⟩
      rw [show [x, y, z].map (SA.conc ρ) = [sU a, sI .u64 n, sU b].map (SA.conc ρ) by simp only [List.map_cons, List.map_nil, asU_canon ha o1 ρ, asI_canon hn' ρ, asU_canon hb' o2 ρ]]
      refine (calls_of_owes0 hcx hf hb (args := [sU a, sI .u64 n, sU b]) (by
        intro z hz
        simp only [List.mem_cons, List.not_mem_nil, or_false] at hz
        rcases hz with rfl | rfl | rfl
        · exact bnd_sU _
        · trivial
        · exact bnd_sU _) (h a n b o3) ρ w hzz hgg).mono ?_
      rintro e w' ⟨v, rfl, ⟨ρ', hr⟩, hbl⟩
      exact ⟨v, rfl, rep_none0 (hg a n b) hr, hbl⟩
    · cases hs
  · cases hs
end Go.Sx
end

section
namespace Go.Proofs.Ytohnkglcabfpjaa
open Go.Sx
set_option maxRecDepth 100000
def guessC (h l y : Int) : List Prop := [w64ok h, w64ok l, w64ok y, 0 < y]
def guessN (h l y : Int) : Int := if h < y then (h * 18446744073709551616 + l) / y else 18446744073709551615
def guessG (h l y : Int) : SV := .one (sI .u64 (guessN h l y))
def cxGuess : Cx := [(94, specWWW divC divG)]
def bitsN (n : Nat) : Nat := if n = 0 then 0 else n.log2 + 1
def noughtsG (a : Nat) : SV := .one (sI .i64 ((256 - bitsN (a % M256) : Nat) : Int))
def cxNoughts : Cx := [(84, specW lzG)]
def moveC (_ : Nat) (n : Int) : List Prop := [0 ≤ n ∧ n ≤ 256]
def upG (a : Nat) (n : Int) : SV := .one (sU (a * 2 ^ n.toNat))
def downG (a : Nat) (n : Int) : SV := .one (sU (a % M256 / 2 ^ n.toNat))
def digC (r : Nat) (x : Int) (b : Nat) : List Prop := [w64ok x, r % M256 < b % M256, M256 ≤ 2 * (b % M256)]
def digR (r : Nat) (x : Int) : Nat := r % M256 * 18446744073709551616 + x.toNat
def digG (r : Nat) (x : Int) (b : Nat) : SV := .tup [sI .u64 ((digR r x / (b % M256) : Nat) : Int), sU (digR r x % (b % M256))]
def digAt (r : Nat) (x : Int) (b e : Nat) : Nat := M256 * 18446744073709551616 + digR r x % (b % M256) - e * (b % M256)
def invDig (r : Nat) (x : Int) (b : Nat) : Inv where
  X := Nat
  tm e := slotsAt 62 [(0, .one (sU r)), (1, .one (sI .u64 x)), (2, .one (sU b)), (3, .one (.sc (.ptr 0 0))), (5, .one (.sc (.ptr 1 0))), (6, .one (.sc (.num .u64 0))), (7, .one (.sc (.ptr 2 0))), (8, .one (sI .u64 ((digAt r x b e / M256 % 18446744073709551616 : Nat) : Int))), (9, .one (sI .u64 ((digR r x / (b % M256) + e : Nat) : Int)))]
  ob e := [.cells 24 [.u (digAt r x b e)] 0, .cells 24 [.u b] 0, .cells 24 [.c (.num .u64 0), .c (.num .u64 0), .c (.num .u64 0), .c (.num .u64 0)] 0]
  holds e := e ≤ 2 ∧ digR r x / (b % M256) + e < 18446744073709551616
  less e := e
def cxDig : Cx := [(85, specWWW guessC guessG), (86, specUI timesG), (82, specUU lessG), (83, specUU plusG)]
def dvC (_ b : Nat) : List Prop := [0 < b % M256]
def dvG (a b : Nat) : SV := .tup [sU (a % M256 / (b % M256)), sU (a % M256 % (b % M256))]
def cxDv : Cx := [(64, specU noughtsG), (65, specUJ moveC upG), (66, specUJ moveC downG), (67, specUWU digC digG)]
def dmG (a b : Nat) : SV := .tup [sU (if b % M256 = 0 then 0 else a % M256 / (b % M256)), sU (if b % M256 = 0 then 0 else a % M256 % (b % M256)), sI .i64 (if b % M256 = 0 then 7 else 0)]
def cxDm : Cx := [(37, specUUC dvC dvG)]
theorem vc_guess (h l y : Int) :
    Owes Try.prog cxGuess [] 100 Try.f85 [sI .u64 h, sI .u64 l, sI .u64 y] (guessG h l y) =
    ((Decidable.decide (h ≥ y) = Bool.true → (18446744073709551615 : Int) = guessN h l y) ∧ (Decidable.decide (h ≥ y) = Bool.false → ((0 : Int) ≤ h ∧ h < (18446744073709551616 : Int)) ∧ ((0 : Int) ≤ l ∧ l < (18446744073709551616 : Int)) ∧ ((0 : Int) ≤ y ∧ y < (18446744073709551616 : Int)) ∧ h < y ∧ (h * (18446744073709551616 : Int) + l) / y = guessN h l y)) := by kernel_rfl
theorem vc_noughts (a : Nat) :
    Owes Try.prog cxNoughts [] 100 Try.f64 [sU a] (noughtsG a) =
    (let x1 : Int := Go.IntKind.i64.wrap ((0 : Int) + ((64 : Int) - lenN (limb a 3))); let x2 : Int := (↑(256 - bitsN (a % M256)) : Int); let x3 : Int := Go.IntKind.i64.wrap (x1 + ((64 : Int) - lenN (limb a 2))); let x4 : Int := Go.IntKind.i64.wrap (x3 + ((64 : Int) - lenN (limb a 1))); ((0 : Int) ≤ limb a 3 ∧ limb a 3 < (18446744073709551616 : Int)) ∧ ((limb a 3 != (0 : Int)) = Bool.true → x1 = x2) ∧ ((limb a 3 != (0 : Int)) = Bool.false → ((0 : Int) ≤ limb a 2 ∧ limb a 2 < (18446744073709551616 : Int)) ∧ ((limb a 2 != (0 : Int)) = Bool.true → x3 = x2) ∧ ((limb a 2 != (0 : Int)) = Bool.false → ((0 : Int) ≤ limb a 1 ∧ limb a 1 < (18446744073709551616 : Int)) ∧ ((limb a 1 != (0 : Int)) = Bool.true → x4 = x2) ∧ ((limb a 1 != (0 : Int)) = Bool.false → ((0 : Int) ≤ limb a 0 ∧ limb a 0 < (18446744073709551616 : Int)) ∧ ((limb a 0 != (0 : Int)) = Bool.true → Go.IntKind.i64.wrap (x4 + ((64 : Int) - lenN (limb a 0))) = x2) ∧ ((limb a 0 != (0 : Int)) = Bool.false → Go.IntKind.i64.wrap (x4 + ((64 : Int) - lenN (limb a 0))) = x2))))) := by kernel_rfl
theorem vc_up (a : Nat) (n : Int) :
    Owes Try.prog Cx.none [(2, .split 6 4)] 100 Try.f65 [sU a, sI .i64 n] (upG a n) =
    (let x1 : Int := Go.IntKind.i64.wrap (n.tdiv (64 : Int)); let x2 : Int := Go.IntKind.i64.wrap ((64 : Int) - n.tmod (64 : Int)); let x3 : Int := (2 : Int) ^ Min.min (n.tmod (64 : Int)).toNat 64; let x4 : Int := Go.IntKind.u64.wrap (limb a 0 * x3); let x5 : Int := (2 : Int) ^ Min.min x2.toNat 64; let x6 : Int := Go.IntKind.u64.wrap (↑(BitVec.ofInt 64 (Go.IntKind.u64.wrap (limb a 1 * x3)) ||| BitVec.ofInt 64 ((limb a 0).fdiv x5)).toNat : Int); let x7 : Int := Go.IntKind.u64.wrap (↑(BitVec.ofInt 64 (Go.IntKind.u64.wrap (limb a 2 * x3)) ||| BitVec.ofInt 64 ((limb a 1).fdiv x5)).toNat : Int); let x8 : Int := Go.IntKind.u64.wrap (↑(BitVec.ofInt 64 (Go.IntKind.u64.wrap (limb a 3 * x3)) ||| BitVec.ofInt 64 ((limb a 2).fdiv x5)).toNat : Int); let x9 : Nat := a * 2 ^ n.toNat % M256; ((0 : Int) ≤ x1 ∧ x1 ≤ (4 : Int)) ∧ ((((x1 = (0 : Int) → (0 : Int) ≤ n.tmod (64 : Int) ∧ (0 : Int) ≤ n.tmod (64 : Int) ∧ (0 : Int) ≤ x2 ∧ (0 : Int) ≤ n.tmod (64 : Int) ∧ (0 : Int) ≤ x2 ∧ (0 : Int) ≤ n.tmod (64 : Int) ∧ (0 : Int) ≤ x2 ∧ ((0 : Int) ≤ x4 ∧ x4 < (18446744073709551616 : Int)) ∧ ((0 : Int) ≤ x6 ∧ x6 < (18446744073709551616 : Int)) ∧ ((0 : Int) ≤ x7 ∧ x7 < (18446744073709551616 : Int)) ∧ ((0 : Int) ≤ x8 ∧ x8 < (18446744073709551616 : Int)) ∧ join x4 x6 x7 x8 % M256 = x9 ∧ True) ∧ (x1 = (1 : Int) → (0 : Int) ≤ n.tmod (64 : Int) ∧ (0 : Int) ≤ n.tmod (64 : Int) ∧ (0 : Int) ≤ x2 ∧ (0 : Int) ≤ n.tmod (64 : Int) ∧ (0 : Int) ≤ x2 ∧ ((0 : Int) ≤ (0 : Int) ∧ (0 : Int) < (18446744073709551616 : Int)) ∧ ((0 : Int) ≤ x4 ∧ x4 < (18446744073709551616 : Int)) ∧ ((0 : Int) ≤ x6 ∧ x6 < (18446744073709551616 : Int)) ∧ ((0 : Int) ≤ x7 ∧ x7 < (18446744073709551616 : Int)) ∧ join (0 : Int) x4 x6 x7 % M256 = x9 ∧ True)) ∧ (x1 = (2 : Int) → (0 : Int) ≤ n.tmod (64 : Int) ∧ (0 : Int) ≤ n.tmod (64 : Int) ∧ (0 : Int) ≤ x2 ∧ ((0 : Int) ≤ (0 : Int) ∧ (0 : Int) < (18446744073709551616 : Int)) ∧ ((0 : Int) ≤ (0 : Int) ∧ (0 : Int) < (18446744073709551616 : Int)) ∧ ((0 : Int) ≤ x4 ∧ x4 < (18446744073709551616 : Int)) ∧ ((0 : Int) ≤ x6 ∧ x6 < (18446744073709551616 : Int)) ∧ join (0 : Int) (0 : Int) x4 x6 % M256 = x9 ∧ True)) ∧ (x1 = (3 : Int) → (0 : Int) ≤ n.tmod (64 : Int) ∧ ((0 : Int) ≤ (0 : Int) ∧ (0 : Int) < (18446744073709551616 : Int)) ∧ ((0 : Int) ≤ (0 : Int) ∧ (0 : Int) < (18446744073709551616 : Int)) ∧ ((0 : Int) ≤ (0 : Int) ∧ (0 : Int) < (18446744073709551616 : Int)) ∧ ((0 : Int) ≤ x4 ∧ x4 < (18446744073709551616 : Int)) ∧ join (0 : Int) (0 : Int) (0 : Int) x4 % M256 = x9 ∧ True)) ∧ (x1 = (4 : Int) → 0 = x9 ∧ True)) := by kernel_rfl
theorem vc_down (a : Nat) (n : Int) :
    Owes Try.prog Cx.none [(2, .split 6 4)] 100 Try.f66 [sU a, sI .i64 n] (downG a n) =
    (let x1 : Int := Go.IntKind.i64.wrap (n.tdiv (64 : Int)); let x2 : Int := Go.IntKind.i64.wrap ((64 : Int) - n.tmod (64 : Int)); let x3 : Int := (2 : Int) ^ Min.min (n.tmod (64 : Int)).toNat 64; let x4 : Int := (2 : Int) ^ Min.min x2.toNat 64; let x5 : Int := Go.IntKind.u64.wrap (↑(BitVec.ofInt 64 ((limb a 0).fdiv x3) ||| BitVec.ofInt 64 (Go.IntKind.u64.wrap (limb a 1 * x4))).toNat : Int); let x6 : Int := Go.IntKind.u64.wrap (↑(BitVec.ofInt 64 ((limb a 1).fdiv x3) ||| BitVec.ofInt 64 (Go.IntKind.u64.wrap (limb a 2 * x4))).toNat : Int); let x7 : Int := Go.IntKind.u64.wrap (↑(BitVec.ofInt 64 ((limb a 2).fdiv x3) ||| BitVec.ofInt 64 (Go.IntKind.u64.wrap (limb a 3 * x4))).toNat : Int); let x8 : Int := (limb a 3).fdiv x3; let x9 : Nat := a % M256 / 2 ^ n.toNat % M256; ((0 : Int) ≤ x1 ∧ x1 ≤ (4 : Int)) ∧ ((((x1 = (0 : Int) → (0 : Int) ≤ n.tmod (64 : Int) ∧ (0 : Int) ≤ x2 ∧ (0 : Int) ≤ n.tmod (64 : Int) ∧ (0 : Int) ≤ x2 ∧ (0 : Int) ≤ n.tmod (64 : Int) ∧ (0 : Int) ≤ x2 ∧ (0 : Int) ≤ n.tmod (64 : Int) ∧ ((0 : Int) ≤ x5 ∧ x5 < (18446744073709551616 : Int)) ∧ ((0 : Int) ≤ x6 ∧ x6 < (18446744073709551616 : Int)) ∧ ((0 : Int) ≤ x7 ∧ x7 < (18446744073709551616 : Int)) ∧ ((0 : Int) ≤ x8 ∧ x8 < (18446744073709551616 : Int)) ∧ join x5 x6 x7 x8 % M256 = x9 ∧ True) ∧ (x1 = (1 : Int) → (0 : Int) ≤ n.tmod (64 : Int) ∧ (0 : Int) ≤ x2 ∧ (0 : Int) ≤ n.tmod (64 : Int) ∧ (0 : Int) ≤ x2 ∧ (0 : Int) ≤ n.tmod (64 : Int) ∧ ((0 : Int) ≤ x6 ∧ x6 < (18446744073709551616 : Int)) ∧ ((0 : Int) ≤ x7 ∧ x7 < (18446744073709551616 : Int)) ∧ ((0 : Int) ≤ x8 ∧ x8 < (18446744073709551616 : Int)) ∧ ((0 : Int) ≤ (0 : Int) ∧ (0 : Int) < (18446744073709551616 : Int)) ∧ join x6 x7 x8 (0 : Int) % M256 = x9 ∧ True)) ∧ (x1 = (2 : Int) → (0 : Int) ≤ n.tmod (64 : Int) ∧ (0 : Int) ≤ x2 ∧ (0 : Int) ≤ n.tmod (64 : Int) ∧ ((0 : Int) ≤ x7 ∧ x7 < (18446744073709551616 : Int)) ∧ ((0 : Int) ≤ x8 ∧ x8 < (18446744073709551616 : Int)) ∧ ((0 : Int) ≤ (0 : Int) ∧ (0 : Int) < (18446744073709551616 : Int)) ∧ ((0 : Int) ≤ (0 : Int) ∧ (0 : Int) < (18446744073709551616 : Int)) ∧ join x7 x8 (0 : Int) (0 : Int) % M256 = x9 ∧ True)) ∧ (x1 = (3 : Int) → (0 : Int) ≤ n.tmod (64 : Int) ∧ ((0 : Int) ≤ x8 ∧ x8 < (18446744073709551616 : Int)) ∧ ((0 : Int) ≤ (0 : Int) ∧ (0 : Int) < (18446744073709551616 : Int)) ∧ ((0 : Int) ≤ (0 : Int) ∧ (0 : Int) < (18446744073709551616 : Int)) ∧ ((0 : Int) ≤ (0 : Int) ∧ (0 : Int) < (18446744073709551616 : Int)) ∧ join x8 (0 : Int) (0 : Int) (0 : Int) % M256 = x9 ∧ True)) ∧ (x1 = (4 : Int) → 0 = x9 ∧ True)) := by kernel_rfl
theorem vc_digit (r : Nat) (x : Int) (b : Nat) :
    Owes Try.prog cxDig [(7, .inv (invDig r x b))] 100 Try.f67 [sU r, sI .u64 x, sU b] (digG r x b) =
    (let x1 : Int := guessN (limb r 3) (limb r 2) (limb b 3); let x2 : Nat := b % M256; let x3 : Nat := digR r x / x2; let x4 : Nat := r % M256; let x5 : Nat := x1.toNat; let x6 : Nat := join x (limb r 0) (limb r 1) (limb r 2) % M256; let x7 : Nat := b * x5 % M256; ((0 : Int) ≤ limb r 3 ∧ limb r 3 < (18446744073709551616 : Int)) ∧ ((0 : Int) ≤ limb r 2 ∧ limb r 2 < (18446744073709551616 : Int)) ∧ ((0 : Int) ≤ limb b 3 ∧ limb b 3 < (18446744073709551616 : Int)) ∧ (0 : Int) < limb b 3 ∧ ((0 : Int) ≤ x1 ∧ x1 < (18446744073709551616 : Int)) ∧ ((0 : Int) ≤ x ∧ x < (18446744073709551616 : Int)) ∧ ((0 : Int) ≤ limb r 0 ∧ limb r 0 < (18446744073709551616 : Int)) ∧ ((0 : Int) ≤ limb r 1 ∧ limb r 1 < (18446744073709551616 : Int)) ∧ ((0 : Int) ≤ limb r 2 ∧ limb r 2 < (18446744073709551616 : Int)) ∧ (∀ (y : Nat), closedB (slotsAt 62 [(0, SV.one (sU r)), (1, SV.one (sI Go.IntKind.u64 x)), (2, SV.one (sU b)), (3, SV.one (SA.sc (SC.ptr 0 0))), (5, SV.one (SA.sc (SC.ptr 1 0))), (6, SV.one (SA.sc (SC.num Go.IntKind.u64 (0 : Int)))), (7, SV.one (SA.sc (SC.ptr 2 0))), (8, SV.one (sI Go.IntKind.u64 (↑(digAt r x b y / M256 % 18446744073709551616) : Int))), (9, SV.one (sI Go.IntKind.u64 (↑(x3 + y) : Int)))]) [SO.cells (24 : Go.TypeId) [SK.u (digAt r x b y)] 0, SO.cells (24 : Go.TypeId) [SK.u b] 0, SO.cells (24 : Go.TypeId) [SK.c (SC.num Go.IntKind.u64 (0 : Int)), SK.c (SC.num Go.IntKind.u64 (0 : Int)), SK.c (SC.num Go.IntKind.u64 (0 : Int)), SK.c (SC.num Go.IntKind.u64 (0 : Int))] 0] = Bool.true) ∧ ∃ (y : Nat), (y ≤ 2 ∧ x3 + y < 18446744073709551616) ∧ x4 = x4 ∧ x = x ∧ x2 = x2 ∧ Go.IntKind.u64.wrap (limb r 3 - Go.IntKind.u64.wrap ((↑(x2 * x5 / M256) : Int) + if x6 < x7 then (1 : Int) else (0 : Int))) = (↑(digAt r x b y / M256 % 18446744073709551616) : Int) ∧ x1 = (↑(x3 + y) : Int) ∧ (x6 + M256 - x7) % M256 = digAt r x b y % M256 ∧ 0 = 0 ∧ x2 = x2 ∧ 0 = 0 ∧ 0 = 0 ∧ ∀ (y : Nat), y ≤ 2 ∧ x3 + y < 18446744073709551616 → (((↑(digAt r x b y / M256 % 18446744073709551616) : Int) != (0 : Int)) = Bool.true → ∃ (y' : Nat), (y' ≤ 2 ∧ x3 + y' < 18446744073709551616) ∧ x4 = x4 ∧ x = x ∧ x2 = x2 ∧ Go.IntKind.u64.wrap ((↑(digAt r x b y / M256 % 18446744073709551616) : Int) + (↑((digAt r x b y % M256 + x2) / M256) : Int)) = (↑(digAt r x b y' / M256 % 18446744073709551616) : Int) ∧ Go.IntKind.u64.wrap ((↑(x3 + y) : Int) - (1 : Int)) = (↑(x3 + y') : Int) ∧ (digAt r x b y + b) % M256 = digAt r x b y' % M256 ∧ 0 = 0 ∧ x2 = x2 ∧ 0 = 0 ∧ 0 = 0 ∧ y' < y) ∧ (((↑(digAt r x b y / M256 % 18446744073709551616) : Int) != (0 : Int)) = Bool.false → (↑(x3 + y) : Int) = (↑x3 : Int) ∧ digAt r x b y % M256 = digR r x % x2 % M256 ∧ True)) := by kernel_rfl
theorem vc_divide (a b : Nat) :
    Owes Try.prog cxDv [] 100 Try.f37 [sU a, sU b] (dvG a b) =
    (let x1 : Nat := b % M256; let x2 : Int := (↑(256 - bitsN x1) : Int); let x3 : Int := Go.IntKind.i64.wrap ((256 : Int) - x2); let x4 : Nat := 2 ^ x2.toNat; let x5 : Int := limb (a * x4) 3; let x6 : Nat := a % M256; let x7 : Nat := x6 / 2 ^ x3.toNat; let x8 : Nat := b * x4 % M256; let x9 : Int := limb (a * x4) 2; let x10 : Nat := digR x7 x5; let x11 : Nat := x10 % x8; let x12 : Int := limb (a * x4) 1; let x13 : Nat := digR x11 x9; let x14 : Nat := x13 % x8; let x15 : Int := limb (a * x4) 0; let x16 : Nat := digR x14 x12; let x17 : Nat := x16 % x8; let x18 : Nat := digR x17 x15; let x19 : Int := (↑(x18 / x8) : Int); let x20 : Int := (↑(x16 / x8) : Int); let x21 : Int := (↑(x13 / x8) : Int); let x22 : Int := (↑(x10 / x8) : Int); ((0 : Int) ≤ x2 ∧ x2 ≤ (256 : Int)) ∧ ((0 : Int) ≤ x3 ∧ x3 ≤ (256 : Int)) ∧ ((0 : Int) ≤ x2 ∧ x2 ≤ (256 : Int)) ∧ ((0 : Int) ≤ x5 ∧ x5 < (18446744073709551616 : Int)) ∧ x7 % M256 < x8 ∧ M256 ≤ 2 * x8 ∧ ((0 : Int) ≤ x9 ∧ x9 < (18446744073709551616 : Int)) ∧ x11 % M256 < x8 ∧ M256 ≤ 2 * x8 ∧ ((0 : Int) ≤ x12 ∧ x12 < (18446744073709551616 : Int)) ∧ x14 % M256 < x8 ∧ M256 ≤ 2 * x8 ∧ ((0 : Int) ≤ x15 ∧ x15 < (18446744073709551616 : Int)) ∧ x17 % M256 < x8 ∧ M256 ≤ 2 * x8 ∧ ((0 : Int) ≤ x2 ∧ x2 ≤ (256 : Int)) ∧ (((0 : Int) ≤ x19 ∧ x19 < (18446744073709551616 : Int)) ∧ ((0 : Int) ≤ x20 ∧ x20 < (18446744073709551616 : Int)) ∧ ((0 : Int) ≤ x21 ∧ x21 < (18446744073709551616 : Int)) ∧ ((0 : Int) ≤ x22 ∧ x22 < (18446744073709551616 : Int)) ∧ join x19 x20 x21 x22 % M256 = x6 / x1 % M256 ∧ True) ∧ x18 % x8 % M256 / x4 % M256 = x6 % x1 % M256 ∧ True) := by kernel_rfl
theorem vc_DivMod (a b : Nat) :
    Owes Try.prog cxDm [] 100 Try.f17 [sU a, sU b] (dmG a b) =
    (let x1 : Nat := b % M256; let x2 : Nat := a % M256; let x3 : Nat := x2 / x1; let x4 : Nat := (if x1 = 0 then 0 else x3) % M256; let x5 : Nat := x2 % x1; let x6 : Nat := (if x1 = 0 then 0 else x5) % M256; let x7 : Int := if x1 = 0 then (7 : Int) else (0 : Int); (conj [x1 == 0] = Bool.true → (0 = x4 ∧ True) ∧ (0 = x6 ∧ True) ∧ (7 : Int) = x7) ∧ (conj [x1 == 0] = Bool.false → 0 < x1 ∧ (x3 % M256 = x4 ∧ True) ∧ (x5 % M256 = x6 ∧ True) ∧ (0 : Int) = x7)) := by kernel_rfl
end Go.Proofs.Ytohnkglcabfpjaa
end

section
namespace Go.Sx
open Go.RowKit
def specUUU (c : Nat → Nat → Nat → List Prop) (g : Nat → Nat → Nat → SV) : FSpec := fun args =>
  match args with
  | [x, y, z] => match asU x, asU y, asU z with
    | some (p, a), some (o, n), some (q, b) => some (((p ++ o) ++ q) ++ c a n b, g a n b)
    | _, _, _ => none
  | _ => none
theorem FnOK_UUU {P : Program} {cx : Cx} (hcx : CxOK P cx) {iv : Nat → Nat → Nat → List (Nat × Hint)} {N : Nat} {f : Nat} {fn : Func} (hf : P.funcs[f]? = some fn) (hb : fn.body.isSome = true) (hn : (fn.name == "runtime.NumGoroutine") = false) {c : Nat → Nat → Nat → List Prop} {g : Nat → Nat → Nat → SV} (hg : ∀ a n b, (g a n b).bnd none0)
    (h : ∀ a n b, Ok (c a n b) → Owes P cx (iv a n b) N fn [sU a, sU n, sU b] (g a n b)) : FnOKg P cx.gl f (specUUU c g) := by
  refine FnOK_of hf hb hn fun args ps sv hs hp => ?_
  unfold specUUU at hs
  split at hs
  · rename_i x y z
    split at hs
    · rename_i p a o n q b ha hn' hb'
      simp only [Option.some.injEq, Prod.mk.injEq] at hs
      obtain ⟨rfl, rfl⟩ := hs
      obtain ⟨o12, o3⟩ := Ok.append.1 hp
      obtain ⟨o1', o2⟩ := Ok.append.1 o12
      obtain ⟨o1, o4⟩ := Ok.append.1 o1'
      refine ⟨hg a n b, fun ρ w hzz hgg _ => ?_⟩
      rw [show [x, y, z].map (SA.conc ρ) = [sU a, sU n, sU b].map (SA.conc ρ) by simp only [List.map_cons, List.map_nil, asU_canon ha o1 ρ, asU_canon hn' o4 ρ, asU_canon hb' o2 ρ]]
      refine (calls_of_owes0 hcx hf hb (args := [sU a, sU n, sU b]) (by
        intro z hz
        simp only [List.mem_cons, List.not_mem_nil, or_false] at hz
        rcases hz with rfl | rfl | rfl <;> exact bnd_sU _) (h a n b o3) ρ w hzz hgg).mono ?_
      rintro e w' ⟨v, rfl, ⟨ρ', hr⟩, hbl⟩
      exact ⟨v, rfl, rep_none0 (hg a n b) hr, hbl⟩
    · cases hs
  · cases hs
end Go.Sx
end

section
namespace Go.Proofs.Ytohnkglcabfpjaa
open Go.Sx
set_option maxRecDepth 100000
def cxFless : Cx := [(88, specWW mul64G), (89, specAdd64), (92, specSub64)]
def flessG (a : Nat) (q : Int) (b : Nat) : SV := .tup [sU (a % M256 + M256 - b % M256 * q.toNat % M256), sI .u64 (((b % M256 * q.toNat / M256 : Nat) : Int) + if a % M256 < b % M256 * q.toNat % M256 then 1 else 0)]
def flessC (_ : Nat) (q : Int) (_ : Nat) : List Prop := [w64ok q]
def invBring (r : Nat) (x : Int) (b : Nat) : Inv where
  X := Nat
  tm e := slotsAt 48 [(0, .one (sU r)), (1, .one (sI .u64 x)), (2, .one (sU b)), (3, .one (.sc (.ptr 0 0))), (5, .one (.sc (.ptr 1 0))), (6, .one (.sc (.ptr 2 0))), (7, .one (sI .u64 ((digAt r x b e / M256 % 18446744073709551616 : Nat) : Int)))]
  ob e := [.cells 24 [.u (digAt r x b e)] 0, .cells 24 [.u b] 0, .cells 24 [.c (.num .u64 0), .c (.num .u64 0), .c (.num .u64 0), .c (.num .u64 0)] 0]
  holds e := e ≤ 2
  less e := e
def bringG (r : Nat) (x : Int) (b : Nat) : SV := .one (sU (digR r x % (b % M256)))
def cxBring : Cx := [(95, specWWW guessC guessG), (96, specUWU flessC flessG), (63, specUU addG)]
def restC (a b m : Nat) : List Prop := [a % M256 < m % M256, b % M256 < m % M256, M256 ≤ 2 * (m % M256)]
def restG (a b m : Nat) : SV := .one (sU (a % M256 * (b % M256) % (m % M256)))
def cxRest : Cx := [(70, specUU mulG), (87, specUWU digC bringG)]
def bitC (n : Int) : List Prop := [0 ≤ n ∧ n ≤ 255]
def bitG (n : Int) : SV := .one (sU (2 ^ n.toNat))
def prodC (a b m : Nat) : List Prop := [a % M256 < m % M256, b % M256 < m % M256]
def prodG (a b m : Nat) : SV := .one (sU (a % M256 * (b % M256) % (m % M256)))
def cxProd : Cx := [(68, specU noughtsG), (69, specUUU restC restG), (71, specI bitC bitG), (70, specUU mulG)]
def sumG (a b m : Nat) : SV := .one (sU ((a % M256 + b % M256) % (m % M256)))
def diffG (a b m : Nat) : SV := .one (sU ((a % M256 + m % M256 - b % M256) % (m % M256)))
def cxSum : Cx := [(63, specUU addG), (40, specUU cmpG), (62, specUU subG)]
theorem vc_fguess (h l y : Int) :
    Owes Try.prog cxGuess [] 100 Try.f95 [sI .u64 h, sI .u64 l, sI .u64 y] (guessG h l y) =
    ((Decidable.decide (h ≥ y) = Bool.true → (18446744073709551615 : Int) = guessN h l y) ∧ (Decidable.decide (h ≥ y) = Bool.false → ((0 : Int) ≤ h ∧ h < (18446744073709551616 : Int)) ∧ ((0 : Int) ≤ l ∧ l < (18446744073709551616 : Int)) ∧ ((0 : Int) ≤ y ∧ y < (18446744073709551616 : Int)) ∧ h < y ∧ (h * (18446744073709551616 : Int) + l) / y = guessN h l y)) := by kernel_rfl
theorem vc_fnoughts (a : Nat) :
    Owes Try.prog cxNoughts [] 100 Try.f68 [sU a] (noughtsG a) =
    (let x1 : Int := Go.IntKind.i64.wrap ((0 : Int) + ((64 : Int) - lenN (limb a 3))); let x2 : Int := (↑(256 - bitsN (a % M256)) : Int); let x3 : Int := Go.IntKind.i64.wrap (x1 + ((64 : Int) - lenN (limb a 2))); let x4 : Int := Go.IntKind.i64.wrap (x3 + ((64 : Int) - lenN (limb a 1))); ((0 : Int) ≤ limb a 3 ∧ limb a 3 < (18446744073709551616 : Int)) ∧ ((limb a 3 != (0 : Int)) = Bool.true → x1 = x2) ∧ ((limb a 3 != (0 : Int)) = Bool.false → ((0 : Int) ≤ limb a 2 ∧ limb a 2 < (18446744073709551616 : Int)) ∧ ((limb a 2 != (0 : Int)) = Bool.true → x3 = x2) ∧ ((limb a 2 != (0 : Int)) = Bool.false → ((0 : Int) ≤ limb a 1 ∧ limb a 1 < (18446744073709551616 : Int)) ∧ ((limb a 1 != (0 : Int)) = Bool.true → x4 = x2) ∧ ((limb a 1 != (0 : Int)) = Bool.false → ((0 : Int) ≤ limb a 0 ∧ limb a 0 < (18446744073709551616 : Int)) ∧ ((limb a 0 != (0 : Int)) = Bool.true → Go.IntKind.i64.wrap (x4 + ((64 : Int) - lenN (limb a 0))) = x2) ∧ ((limb a 0 != (0 : Int)) = Bool.false → Go.IntKind.i64.wrap (x4 + ((64 : Int) - lenN (limb a 0))) = x2))))) := by kernel_rfl
theorem vc_fless (a : Nat) (q : Int) (b : Nat) :
    Owes Try.prog cxFless [] 100 Try.f96 [sU a, sI .u64 q, sU b] (flessG a q b) =
    (let x1 : Int := limb b 0 * q; let x2 : Int := x1 % (18446744073709551616 : Int); let x3 : Int := x2 + (0 : Int) + (0 : Int); let x4 : Int := x3 % (18446744073709551616 : Int); let x5 : Int := limb b 1 * q; let x6 : Int := x5 % (18446744073709551616 : Int); let x7 : Int := limb a 0 - x4 - (0 : Int); let x8 : Int := Go.IntKind.u64.wrap (Go.IntKind.u64.wrap (x1 / (18446744073709551616 : Int) + x3 / (18446744073709551616 : Int)) + -(x7 / (18446744073709551616 : Int))); let x9 : Int := x6 + x8 + (0 : Int); let x10 : Int := x9 % (18446744073709551616 : Int); let x11 : Int := limb b 2 * q; let x12 : Int := x11 % (18446744073709551616 : Int); let x13 : Int := limb a 1 - x10 - (0 : Int); let x14 : Int := Go.IntKind.u64.wrap (Go.IntKind.u64.wrap (x5 / (18446744073709551616 : Int) + x9 / (18446744073709551616 : Int)) + -(x13 / (18446744073709551616 : Int))); let x15 : Int := x12 + x14 + (0 : Int); let x16 : Int := x15 % (18446744073709551616 : Int); let x17 : Int := limb b 3 * q; let x18 : Int := x17 % (18446744073709551616 : Int); let x19 : Int := limb a 2 - x16 - (0 : Int); let x20 : Int := Go.IntKind.u64.wrap (Go.IntKind.u64.wrap (x11 / (18446744073709551616 : Int) + x15 / (18446744073709551616 : Int)) + -(x19 / (18446744073709551616 : Int))); let x21 : Int := x18 + x20 + (0 : Int); let x22 : Int := x21 % (18446744073709551616 : Int); let x23 : Int := x7 % (18446744073709551616 : Int); let x24 : Int := x13 % (18446744073709551616 : Int); let x25 : Int := x19 % (18446744073709551616 : Int); let x26 : Int := limb a 3 - x22 - (0 : Int); let x27 : Int := x26 % (18446744073709551616 : Int); let x28 : Nat := a % M256; let x29 : Nat := b % M256 * q.toNat; let x30 : Nat := x29 % M256; ((0 : Int) ≤ limb b 0 ∧ limb b 0 < (18446744073709551616 : Int)) ∧ ((0 : Int) ≤ q ∧ q < (18446744073709551616 : Int)) ∧ (0 : Int) ≤ x2 ∧ (0 : Int) ≤ (0 : Int) ∧ ((0 : Int) ≤ (0 : Int) ∧ (0 : Int) ≤ (1 : Int)) ∧ ((0 : Int) ≤ limb a 0 ∧ limb a 0 < (18446744073709551616 : Int)) ∧ ((0 : Int) ≤ x4 ∧ x4 < (18446744073709551616 : Int)) ∧ ((0 : Int) ≤ (0 : Int) ∧ (0 : Int) ≤ (1 : Int)) ∧ ((0 : Int) ≤ limb b 1 ∧ limb b 1 < (18446744073709551616 : Int)) ∧ ((0 : Int) ≤ q ∧ q < (18446744073709551616 : Int)) ∧ (0 : Int) ≤ x6 ∧ (0 : Int) ≤ x8 ∧ ((0 : Int) ≤ (0 : Int) ∧ (0 : Int) ≤ (1 : Int)) ∧ ((0 : Int) ≤ limb a 1 ∧ limb a 1 < (18446744073709551616 : Int)) ∧ ((0 : Int) ≤ x10 ∧ x10 < (18446744073709551616 : Int)) ∧ ((0 : Int) ≤ (0 : Int) ∧ (0 : Int) ≤ (1 : Int)) ∧ ((0 : Int) ≤ limb b 2 ∧ limb b 2 < (18446744073709551616 : Int)) ∧ ((0 : Int) ≤ q ∧ q < (18446744073709551616 : Int)) ∧ (0 : Int) ≤ x12 ∧ (0 : Int) ≤ x14 ∧ ((0 : Int) ≤ (0 : Int) ∧ (0 : Int) ≤ (1 : Int)) ∧ ((0 : Int) ≤ limb a 2 ∧ limb a 2 < (18446744073709551616 : Int)) ∧ ((0 : Int) ≤ x16 ∧ x16 < (18446744073709551616 : Int)) ∧ ((0 : Int) ≤ (0 : Int) ∧ (0 : Int) ≤ (1 : Int)) ∧ ((0 : Int) ≤ limb b 3 ∧ limb b 3 < (18446744073709551616 : Int)) ∧ ((0 : Int) ≤ q ∧ q < (18446744073709551616 : Int)) ∧ (0 : Int) ≤ x18 ∧ (0 : Int) ≤ x20 ∧ ((0 : Int) ≤ (0 : Int) ∧ (0 : Int) ≤ (1 : Int)) ∧ ((0 : Int) ≤ limb a 3 ∧ limb a 3 < (18446744073709551616 : Int)) ∧ ((0 : Int) ≤ x22 ∧ x22 < (18446744073709551616 : Int)) ∧ ((0 : Int) ≤ (0 : Int) ∧ (0 : Int) ≤ (1 : Int)) ∧ (((0 : Int) ≤ x23 ∧ x23 < (18446744073709551616 : Int)) ∧ ((0 : Int) ≤ x24 ∧ x24 < (18446744073709551616 : Int)) ∧ ((0 : Int) ≤ x25 ∧ x25 < (18446744073709551616 : Int)) ∧ ((0 : Int) ≤ x27 ∧ x27 < (18446744073709551616 : Int)) ∧ join x23 x24 x25 x27 % M256 = (x28 + M256 - x30) % M256 ∧ True) ∧ Go.IntKind.u64.wrap (Go.IntKind.u64.wrap (x17 / (18446744073709551616 : Int) + x21 / (18446744073709551616 : Int)) + -(x26 / (18446744073709551616 : Int))) = (↑(x29 / M256) : Int) + if x28 < x30 then (1 : Int) else (0 : Int)) := by kernel_rfl
theorem vc_bring (r : Nat) (x : Int) (b : Nat) :
    Owes Try.prog cxBring [(5, .inv (invBring r x b))] 100 Try.f87 [sU r, sI .u64 x, sU b] (bringG r x b) =
    (let x1 : Int := guessN (limb r 3) (limb r 2) (limb b 3); let x2 : Nat := r % M256; let x3 : Nat := b % M256; let x4 : Nat := x3 * x1.toNat; let x5 : Nat := join x (limb r 0) (limb r 1) (limb r 2) % M256; let x6 : Nat := x4 % M256; ((0 : Int) ≤ limb r 3 ∧ limb r 3 < (18446744073709551616 : Int)) ∧ ((0 : Int) ≤ limb r 2 ∧ limb r 2 < (18446744073709551616 : Int)) ∧ ((0 : Int) ≤ limb b 3 ∧ limb b 3 < (18446744073709551616 : Int)) ∧ (0 : Int) < limb b 3 ∧ ((0 : Int) ≤ x ∧ x < (18446744073709551616 : Int)) ∧ ((0 : Int) ≤ limb r 0 ∧ limb r 0 < (18446744073709551616 : Int)) ∧ ((0 : Int) ≤ limb r 1 ∧ limb r 1 < (18446744073709551616 : Int)) ∧ ((0 : Int) ≤ limb r 2 ∧ limb r 2 < (18446744073709551616 : Int)) ∧ ((0 : Int) ≤ x1 ∧ x1 < (18446744073709551616 : Int)) ∧ (∀ (y : Nat), closedB (slotsAt 48 [(0, SV.one (sU r)), (1, SV.one (sI Go.IntKind.u64 x)), (2, SV.one (sU b)), (3, SV.one (SA.sc (SC.ptr 0 0))), (5, SV.one (SA.sc (SC.ptr 1 0))), (6, SV.one (SA.sc (SC.ptr 2 0))), (7, SV.one (sI Go.IntKind.u64 (↑(digAt r x b y / M256 % 18446744073709551616) : Int)))]) [SO.cells (24 : Go.TypeId) [SK.u (digAt r x b y)] 0, SO.cells (24 : Go.TypeId) [SK.u b] 0, SO.cells (24 : Go.TypeId) [SK.c (SC.num Go.IntKind.u64 (0 : Int)), SK.c (SC.num Go.IntKind.u64 (0 : Int)), SK.c (SC.num Go.IntKind.u64 (0 : Int)), SK.c (SC.num Go.IntKind.u64 (0 : Int))] 0] = Bool.true) ∧ ∃ (y : Nat), y ≤ 2 ∧ x2 = x2 ∧ x = x ∧ x3 = x3 ∧ Go.IntKind.u64.wrap (limb r 3 - ((↑(x4 / M256) : Int) + if x5 < x6 then (1 : Int) else (0 : Int))) = (↑(digAt r x b y / M256 % 18446744073709551616) : Int) ∧ (x5 + M256 - x6) % M256 = digAt r x b y % M256 ∧ 0 = 0 ∧ x3 = x3 ∧ 0 = 0 ∧ 0 = 0 ∧ ∀ (y : Nat), y ≤ 2 → (((↑(digAt r x b y / M256 % 18446744073709551616) : Int) != (0 : Int)) = Bool.true → (Decidable.decide (M256 ≤ digAt r x b y % M256 + x3) = Bool.true → ∃ (y' : Nat), y' ≤ 2 ∧ x2 = x2 ∧ x = x ∧ x3 = x3 ∧ Go.IntKind.u64.wrap ((↑(digAt r x b y / M256 % 18446744073709551616) : Int) + (1 : Int)) = (↑(digAt r x b y' / M256 % 18446744073709551616) : Int) ∧ (digAt r x b y + b) % M256 = digAt r x b y' % M256 ∧ 0 = 0 ∧ x3 = x3 ∧ 0 = 0 ∧ 0 = 0 ∧ y' < y) ∧ (Decidable.decide (M256 ≤ digAt r x b y % M256 + x3) = Bool.false → ∃ (y' : Nat), y' ≤ 2 ∧ x2 = x2 ∧ x = x ∧ x3 = x3 ∧ (↑(digAt r x b y / M256 % 18446744073709551616) : Int) = (↑(digAt r x b y' / M256 % 18446744073709551616) : Int) ∧ (digAt r x b y + b) % M256 = digAt r x b y' % M256 ∧ 0 = 0 ∧ x3 = x3 ∧ 0 = 0 ∧ 0 = 0 ∧ y' < y)) ∧ (((↑(digAt r x b y / M256 % 18446744073709551616) : Int) != (0 : Int)) = Bool.false → digAt r x b y % M256 = digR r x % x3 % M256 ∧ True)) := by kernel_rfl
theorem vc_rest (a b m : Nat) :
    Owes Try.prog cxRest [] 100 Try.f69 [sU a, sU b, sU m] (restG a b m) =
    (let x1 : Int := limb (a * b) 3; let x2 : Nat := a % M256 * (b % M256); let x3 : Nat := x2 / M256; let x4 : Nat := m % M256; let x5 : Int := limb (a * b) 2; let x6 : Nat := digR x3 x1 % x4; let x7 : Int := limb (a * b) 1; let x8 : Nat := digR x6 x5 % x4; let x9 : Int := limb (a * b) 0; let x10 : Nat := digR x8 x7 % x4; ((0 : Int) ≤ x1 ∧ x1 < (18446744073709551616 : Int)) ∧ x3 % M256 < x4 ∧ M256 ≤ 2 * x4 ∧ ((0 : Int) ≤ x5 ∧ x5 < (18446744073709551616 : Int)) ∧ x6 % M256 < x4 ∧ M256 ≤ 2 * x4 ∧ ((0 : Int) ≤ x7 ∧ x7 < (18446744073709551616 : Int)) ∧ x8 % M256 < x4 ∧ M256 ≤ 2 * x4 ∧ ((0 : Int) ≤ x9 ∧ x9 < (18446744073709551616 : Int)) ∧ x10 % M256 < x4 ∧ M256 ≤ 2 * x4 ∧ digR x10 x9 % x4 % M256 = x2 % x4 % M256 ∧ True) := by kernel_rfl
theorem vc_bit (n : Int) :
    Owes Try.prog Cx.none [] 100 Try.f71 [sI .i64 n] (bitG n) =
    (let x1 : Int := Go.IntKind.i64.wrap (n.tdiv (64 : Int)); let x2 : Nat := x1.toNat; let x3 : Int := Go.IntKind.u64.wrap ((1 : Int) * (2 : Int) ^ Min.min (n.tmod (64 : Int)).toNat 64); let x4 : Int := if 0 = x2 then x3 else (0 : Int); let x5 : Int := if 1 = x2 then x3 else (0 : Int); let x6 : Int := if 2 = x2 then x3 else (0 : Int); let x7 : Int := if 3 = x2 then x3 else (0 : Int); (0 : Int) ≤ n.tmod (64 : Int) ∧ ((0 : Int) ≤ x1 ∧ x1 < (4 : Int)) ∧ ((0 : Int) ≤ x1 ∧ x1 < (4 : Int)) ∧ ((0 : Int) ≤ x4 ∧ x4 < (18446744073709551616 : Int)) ∧ ((0 : Int) ≤ x5 ∧ x5 < (18446744073709551616 : Int)) ∧ ((0 : Int) ≤ x6 ∧ x6 < (18446744073709551616 : Int)) ∧ ((0 : Int) ≤ x7 ∧ x7 < (18446744073709551616 : Int)) ∧ join x4 x5 x6 x7 % M256 = 2 ^ n.toNat % M256 ∧ True) := by kernel_rfl
theorem vc_product (a b m : Nat) :
    Owes Try.prog cxProd [] 100 Try.f39 [sU a, sU b, sU m] (prodG a b m) =
    (let x1 : Nat := m % M256; let x2 : Int := (↑(256 - bitsN x1) : Int); let x3 : Nat := a % M256; let x4 : Nat := b % M256; let x5 : Nat := x3 * x4 % x1 % M256; let x6 : Nat := 2 ^ x2.toNat; let x7 : Nat := m * x6 % M256; let x8 : Nat := b * x6 % M256; let x9 : Int := Go.IntKind.i64.wrap ((256 : Int) - x2); ((x2 == (0 : Int)) = Bool.true → x3 < x1 ∧ x4 < x1 ∧ M256 ≤ 2 * x1 ∧ x5 = x5 ∧ True) ∧ ((x2 == (0 : Int)) = Bool.false → ((0 : Int) ≤ x2 ∧ x2 ≤ (255 : Int)) ∧ ((0 : Int) ≤ x2 ∧ x2 ≤ (255 : Int)) ∧ x3 < x7 ∧ x8 < x7 ∧ M256 ≤ 2 * x7 ∧ ((0 : Int) ≤ x9 ∧ x9 ≤ (255 : Int)) ∧ x3 * x8 % x7 % M256 * (2 ^ x9.toNat % M256) / M256 % M256 = x5 ∧ True)) := by kernel_rfl
theorem vc_sum (a b m : Nat) :
    Owes Try.prog cxSum [] 100 Try.f38 [sU a, sU b, sU m] (sumG a b m) =
    (let x1 : Nat := a % M256 + b % M256; let x2 : Bool := Decidable.decide (M256 ≤ x1); let x3 : Nat := a + b; let x4 : Int := cmpN x3 m; let x5 : Nat := x3 % M256; let x6 : Nat := m % M256; let x7 : Nat := x1 % x6 % M256; ((!x2) = Bool.true → (!x2) = Bool.true) ∧ ((!x2) = Bool.true → (!x2) = Bool.true) ∧ ((!x2) = Bool.true → (!x2) = Bool.true) ∧ (x2 = Bool.false → (!x2) = Bool.true) ∧ ((x2 || Decidable.decide (x4 ≥ (0 : Int))) = Bool.true → (x5 + M256 - x6) % M256 = x7 ∧ True) ∧ ((x2 || Decidable.decide (x4 ≥ (0 : Int))) = Bool.false → x5 = x7 ∧ True)) := by kernel_rfl
theorem vc_difference (a b m : Nat) :
    Owes Try.prog cxSum [] 100 Try.f35 [sU a, sU b, sU m] (diffG a b m) =
    (let x1 : Nat := a % M256; let x2 : Nat := b % M256; let x3 : Nat := x1 + M256 - x2; let x4 : Nat := m % M256; let x5 : Nat := (x1 + x4 - x2) % x4 % M256; (Decidable.decide (x1 < x2) = Bool.true → (x3 + m) % M256 = x5 ∧ True) ∧ (Decidable.decide (x1 < x2) = Bool.false → x3 % M256 = x5 ∧ True)) := by kernel_rfl
end Go.Proofs.Ytohnkglcabfpjaa
end

section
namespace Go.Proofs.Ytohnkglcabfpjaa
open Go.Sx
set_option maxRecDepth 100000
def fE (a b m : Nat) : Int := if m % M256 = 0 then 7 else if a % M256 < m % M256 ∧ b % M256 < m % M256 then 0 else 6
def faddG (a b m : Nat) : SV := .tup [sU (if fE a b m = 0 then (a % M256 + b % M256) % (m % M256) else 0), sI .i64 (fE a b m)]
def fsubG (a b m : Nat) : SV := .tup [sU (if fE a b m = 0 then (a % M256 + m % M256 - b % M256) % (m % M256) else 0), sI .i64 (fE a b m)]
def fmulG (a b m : Nat) : SV := .tup [sU (if fE a b m = 0 then a % M256 * (b % M256) % (m % M256) else 0), sI .i64 (fE a b m)]
def noC (_ _ _ : Nat) : List Prop := []
def cxFadd : Cx := [(40, specUU cmpG), (38, specUUU prodC sumG)]
def cxFsub : Cx := [(40, specUU cmpG), (35, specUUU prodC diffG)]
def cxFmul : Cx := [(40, specUU cmpG), (39, specUUU prodC prodG)]
theorem vc_fAdd (a b m : Nat) :
    Owes Try.prog cxFadd [] 100 Try.f19 [sU a, sU b, sU m] (faddG a b m) =
    (let x1 : Nat := m % M256; let x2 : Nat := a % M256; let x3 : Nat := b % M256; let x4 : Nat := (x2 + x3) % x1; let x5 : Nat := (if fE a b m = (0 : Int) then x4 else 0) % M256; (conj [x1 == 0] = Bool.true → (0 = x5 ∧ True) ∧ (7 : Int) = fE a b m) ∧ (conj [x1 == 0] = Bool.false → (Decidable.decide (cmpN a m ≥ (0 : Int)) = Bool.true → (0 = x5 ∧ True) ∧ (6 : Int) = fE a b m) ∧ (Decidable.decide (cmpN a m ≥ (0 : Int)) = Bool.false → (Decidable.decide (cmpN b m ≥ (0 : Int)) = Bool.true → (0 = x5 ∧ True) ∧ (6 : Int) = fE a b m) ∧ (Decidable.decide (cmpN b m ≥ (0 : Int)) = Bool.false → x2 < x1 ∧ x3 < x1 ∧ (x4 % M256 = x5 ∧ True) ∧ (0 : Int) = fE a b m)))) := by kernel_rfl
theorem vc_fSub (a b m : Nat) :
    Owes Try.prog cxFsub [] 100 Try.f15 [sU a, sU b, sU m] (fsubG a b m) =
    (let x1 : Nat := m % M256; let x2 : Nat := a % M256; let x3 : Nat := b % M256; let x4 : Nat := (x2 + x1 - x3) % x1; let x5 : Nat := (if fE a b m = (0 : Int) then x4 else 0) % M256; (conj [x1 == 0] = Bool.true → (0 = x5 ∧ True) ∧ (7 : Int) = fE a b m) ∧ (conj [x1 == 0] = Bool.false → (Decidable.decide (cmpN a m ≥ (0 : Int)) = Bool.true → (0 = x5 ∧ True) ∧ (6 : Int) = fE a b m) ∧ (Decidable.decide (cmpN a m ≥ (0 : Int)) = Bool.false → (Decidable.decide (cmpN b m ≥ (0 : Int)) = Bool.true → (0 = x5 ∧ True) ∧ (6 : Int) = fE a b m) ∧ (Decidable.decide (cmpN b m ≥ (0 : Int)) = Bool.false → x2 < x1 ∧ x3 < x1 ∧ (x4 % M256 = x5 ∧ True) ∧ (0 : Int) = fE a b m)))) := by kernel_rfl
theorem vc_fMul (a b m : Nat) :
    Owes Try.prog cxFmul [] 100 Try.f20 [sU a, sU b, sU m] (fmulG a b m) =
    (let x1 : Nat := m % M256; let x2 : Nat := a % M256; let x3 : Nat := b % M256; let x4 : Nat := x2 * x3 % x1; let x5 : Nat := (if fE a b m = (0 : Int) then x4 else 0) % M256; (conj [x1 == 0] = Bool.true → (0 = x5 ∧ True) ∧ (7 : Int) = fE a b m) ∧ (conj [x1 == 0] = Bool.false → (Decidable.decide (cmpN a m ≥ (0 : Int)) = Bool.true → (0 = x5 ∧ True) ∧ (6 : Int) = fE a b m) ∧ (Decidable.decide (cmpN a m ≥ (0 : Int)) = Bool.false → (Decidable.decide (cmpN b m ≥ (0 : Int)) = Bool.true → (0 = x5 ∧ True) ∧ (6 : Int) = fE a b m) ∧ (Decidable.decide (cmpN b m ≥ (0 : Int)) = Bool.false → x2 < x1 ∧ x3 < x1 ∧ (x4 % M256 = x5 ∧ True) ∧ (0 : Int) = fE a b m)))) := by kernel_rfl
end Go.Proofs.Ytohnkglcabfpjaa
end

section
namespace Go.Proofs.Ytohnkglcabfpjaa
open Go.Sx
set_option maxRecDepth 100000
def powC (a _ m : Nat) : List Prop := [a % M256 < m % M256]
def powG (a x m : Nat) : SV := .one (sU ((a % M256) ^ (x % M256) % (m % M256)))
def cxPow : Cx := [(39, specUUU prodC prodG), (68, specU noughtsG)]
def zeroU : List SK := [.c (.num .u64 0), .c (.num .u64 0), .c (.num .u64 0), .c (.num .u64 0)]
def invPow (a x m : Nat) : Inv where
  X := Nat
  tm j := slotsAt 23 [(0, .one (sU x)), (1, .one (.sc (.fn 98 [.p 4 0, .p 2 0, .p 0 0]))), (2, .one (.sc (.ptr 5 0))), (4, .one (sI .i64 ((j : Int) - 1)))]
  ob j := [.cells 24 [.u a] 0, .cells 24 [.u x] 0, .cells 24 [.u m] 0, .cells 24 zeroU 0, .cells 24 [.u ((a % M256) ^ (x % M256 / 2 ^ j) % (m % M256))] 0, .cells 24 [.u x] 0]
  holds j := j ≤ 256
  less j := j
def pE (a m : Nat) : Int := if m % M256 = 0 then 7 else if a % M256 < m % M256 then 0 else 6
def fpowG (a x m : Nat) : SV := .tup [sU (if pE a m = 0 then (a % M256) ^ (x % M256) % (m % M256) else 0), sI .i64 (pE a m)]
def cxFpow : Cx := [(40, specUU cmpG), (90, specUUU powC powG)]
theorem vc_power (a x m : Nat) :
    Owes Try.prog cxPow [((97 + 1) * 100000 + 2, .inv (invPow a x m))] 100 Try.f90 [sU a, sU x, sU m] (powG a x m) =
    (let x1 : Nat := m % M256; let x2 : Nat := a % M256; let x3 : Nat := x % M256; let x4 : Nat := x2 ^ x3 % x1 % M256; (conj [1 == x1] = Bool.true → 0 = x4 ∧ True) ∧ (conj [1 == x1] = Bool.false → (∀ (y : Nat), closedB (slotsAt 23 [(0, SV.one (sU x)), (1, SV.one (SA.sc (SC.fn 98 [PV.p 4 0, PV.p 2 0, PV.p 0 0]))), (2, SV.one (SA.sc (SC.ptr 5 0))), (4, SV.one (sI Go.IntKind.i64 ((↑y : Int) - (1 : Int))))]) [SO.cells (24 : Go.TypeId) [SK.u a] 0, SO.cells (24 : Go.TypeId) [SK.u x] 0, SO.cells (24 : Go.TypeId) [SK.u m] 0, SO.cells (24 : Go.TypeId) zeroU 0, SO.cells (24 : Go.TypeId) [SK.u (x2 ^ (x3 / 2 ^ y) % x1)] 0, SO.cells (24 : Go.TypeId) [SK.u x] 0] = Bool.true) ∧ ∃ (y : Nat), y ≤ 256 ∧ x3 = x3 ∧ (98 = 98 ∧ [PV.p (match Bool.false with | Bool.true => 1 | Bool.false => ([] ++ [SO.cells 24 (toKs (sU a)) 0] ++ [SO.cells 24 (toKs (sU x)) 0] ++ [SO.cells 24 (toKs (sU m)) 0] ++ [SO.cells 24 (List.map litC (Go.Value.agg #[Go.Value.int Go.IntKind.u64 (0 : Int), Go.Value.int Go.IntKind.u64 (0 : Int), Go.Value.int Go.IntKind.u64 (0 : Int), Go.Value.int Go.IntKind.u64 (0 : Int)]).cells.toList) 0]).length) 0, PV.p (match Bool.false with | Bool.true => 2 | Bool.false => ([] ++ [SO.cells 24 (toKs (sU a)) 0] ++ [SO.cells 24 (toKs (sU x)) 0]).length) 0, PV.p 0 0] = [PV.p 4 0, PV.p 2 0, PV.p 0 0]) ∧ Go.IntKind.i64.wrap ((255 : Int) - (↑(256 - bitsN x3) : Int)) = (↑y : Int) - (1 : Int) ∧ x2 = x2 ∧ 0 = 0 ∧ x3 = x3 ∧ 0 = 0 ∧ x1 = x1 ∧ 0 = 0 ∧ 0 = 0 ∧ (1 = x2 ^ (x3 / 2 ^ y) % x1 % M256 ∧ True) ∧ 0 = 0 ∧ x3 = x3 ∧ 0 = 0 ∧ ∀ (y : Nat), y ≤ 256 → (Decidable.decide ((↑y : Int) - (1 : Int) ≥ (0 : Int)) = Bool.true → ((0 : Int) ≤ Go.IntKind.i64.wrap (((↑y : Int) - (1 : Int)).tdiv (64 : Int)) ∧ Go.IntKind.i64.wrap (((↑y : Int) - (1 : Int)).tdiv (64 : Int)) < (4 : Int)) ∧ ((0 : Int) ≤ Go.IntKind.i64.wrap (((↑y : Int) - (1 : Int)).tdiv (64 : Int)) ∧ Go.IntKind.i64.wrap (((↑y : Int) - (1 : Int)).tdiv (64 : Int)) < (4 : Int)) ∧ (0 : Int) ≤ ((↑y : Int) - (1 : Int)).tmod (64 : Int) ∧ x2 ^ (x3 / 2 ^ y) % x1 % M256 < x1 ∧ x2 ^ (x3 / 2 ^ y) % x1 % M256 < x1 ∧ ((Go.IntKind.u64.wrap (↑(BitVec.ofInt 64 ((limb x (Go.IntKind.i64.wrap (((↑y : Int) - (1 : Int)).tdiv (64 : Int))).toNat).fdiv ((2 : Int) ^ Min.min (((↑y : Int) - (1 : Int)).tmod (64 : Int)).toNat 64)) &&& BitVec.ofInt 64 (1 : Int)).toNat : Int) == (1 : Int)) = Bool.true → x2 ^ (x3 / 2 ^ y) % x1 % M256 * (x2 ^ (x3 / 2 ^ y) % x1 % M256) % x1 % M256 < x1 ∧ x2 < x1 ∧ ∃ (y' : Nat), y' ≤ 256 ∧ x3 = x3 ∧ (98 = 98 ∧ [PV.p 4 0, PV.p 2 0, PV.p 0 0] = [PV.p 4 0, PV.p 2 0, PV.p 0 0]) ∧ Go.IntKind.i64.wrap ((↑y : Int) - (1 : Int) - (1 : Int)) = (↑y' : Int) - (1 : Int) ∧ x2 = x2 ∧ 0 = 0 ∧ x3 = x3 ∧ 0 = 0 ∧ x1 = x1 ∧ 0 = 0 ∧ 0 = 0 ∧ x2 ^ (x3 / 2 ^ y) % x1 % M256 * (x2 ^ (x3 / 2 ^ y) % x1 % M256) % x1 % M256 * x2 % x1 % M256 = x2 ^ (x3 / 2 ^ y') % x1 % M256 ∧ 0 = 0 ∧ x3 = x3 ∧ 0 = 0 ∧ y' < y) ∧ ((Go.IntKind.u64.wrap (↑(BitVec.ofInt 64 ((limb x (Go.IntKind.i64.wrap (((↑y : Int) - (1 : Int)).tdiv (64 : Int))).toNat).fdiv ((2 : Int) ^ Min.min (((↑y : Int) - (1 : Int)).tmod (64 : Int)).toNat 64)) &&& BitVec.ofInt 64 (1 : Int)).toNat : Int) == (1 : Int)) = Bool.false → ∃ (y' : Nat), y' ≤ 256 ∧ x3 = x3 ∧ (98 = 98 ∧ [PV.p 4 0, PV.p 2 0, PV.p 0 0] = [PV.p 4 0, PV.p 2 0, PV.p 0 0]) ∧ Go.IntKind.i64.wrap ((↑y : Int) - (1 : Int) - (1 : Int)) = (↑y' : Int) - (1 : Int) ∧ x2 = x2 ∧ 0 = 0 ∧ x3 = x3 ∧ 0 = 0 ∧ x1 = x1 ∧ 0 = 0 ∧ 0 = 0 ∧ x2 ^ (x3 / 2 ^ y) % x1 % M256 * (x2 ^ (x3 / 2 ^ y) % x1 % M256) % x1 % M256 = x2 ^ (x3 / 2 ^ y') % x1 % M256 ∧ 0 = 0 ∧ x3 = x3 ∧ 0 = 0 ∧ y' < y)) ∧ (Decidable.decide ((↑y : Int) - (1 : Int) ≥ (0 : Int)) = Bool.false → x2 ^ (x3 / 2 ^ y) % x1 % M256 = x4 ∧ True))) := by kernel_rfl
theorem vc_fPow (a x m : Nat) :
    Owes Try.prog cxFpow [] 100 Try.f73 [sU a, sU x, sU m] (fpowG a x m) =
    (let x1 : Nat := m % M256; let x2 : Nat := a % M256; let x3 : Nat := x2 ^ (x % M256) % x1; let x4 : Nat := (if pE a m = (0 : Int) then x3 else 0) % M256; (conj [x1 == 0] = Bool.true → (0 = x4 ∧ True) ∧ (7 : Int) = pE a m) ∧ (conj [x1 == 0] = Bool.false → (Decidable.decide (cmpN a m ≥ (0 : Int)) = Bool.true → (0 = x4 ∧ True) ∧ (6 : Int) = pE a m) ∧ (Decidable.decide (cmpN a m ≥ (0 : Int)) = Bool.false → x2 < x1 ∧ (x3 % M256 = x4 ∧ True) ∧ (0 : Int) = pE a m))) := by kernel_rfl
end Go.Proofs.Ytohnkglcabfpjaa
end

section
namespace Go.Sx
open Go.RowKit
inductive PK where
  | u | b | i
  | y (n : Nat)
inductive At where
  | u (n : Nat)
  | b (x : Bool)
  | i (n : Int)
  | y (n : Nat) (g : Nat → Int)
inductive AP where
  | hand
  | str (ps : List PK)
  | int (k : IntKind)
  | bit
def asBit : SC → Option Bool
  | .bit x => some x
  | .val (.bool x) => some x
  | _ => none
theorem asBit_sound {s : SC} {x : Bool} (h : asBit s = some x) (ρ : Rho) : s.conc ρ = .bool x := by
  unfold asBit at h
  split at h
  · cases h; rfl
  · cases h; rfl
  · cases h
def takeU : List SK → Option (List Prop × Nat × List SK)
  | .u n :: r => some ([], n, r)
  | .c a :: .c b :: .c c :: .c d :: r => match asU4 [a, b, c, d] with
    | some (ps, n) => some (ps, n, r)
    | none => none
  | _ => none
theorem takeU_sound {ks r : List SK} {ps : List Prop} {n : Nat} (h : takeU ks = some (ps, n, r)) (hp : Ok ps) (ρ : Rho) : concs ρ ks = concs ρ (.u n :: r) := by
  unfold takeU at h
  split at h
  · cases h; rfl
  · rename_i a b c d r'
    split at h
    · rename_i ps' n' h4
      simp only [Option.some.injEq, Prod.mk.injEq] at h
      obtain ⟨rfl, rfl, rfl⟩ := h
      have := asU4_sound h4 hp ρ
      simp only [U, List.map_cons, List.map_nil, Value.agg.injEq] at this
      have := congrArg Array.toList this
      simp only [List.cons.injEq, and_true] at this
      obtain ⟨e1, e2, e3, e4⟩ := this
      simp [concs, flat, SK.cells, e1, e2, e3, e4, show ∀ v, (SC.val v).conc ρ = v from fun _ => rfl]
    · cases h
  · cases h
def asKs : List PK → List SK → Option (List Prop × List At)
  | [], [] => some ([], [])
  | .u :: ps, ks => match takeU ks with
    | some (p, n, r) => match asKs ps r with
      | some (q, l) => some (p ++ q, .u n :: l)
      | none => none
    | none => none
  | .b :: ps, .c s :: r => match asBit s with
    | some x => match asKs ps r with
      | some (q, l) => some (q, .b x :: l)
      | none => none
    | none => none
  | .i :: ps, .c s :: r => match asI (.sc s) with
    | some (.i64, x) => match asKs ps r with
      | some (q, l) => some (q, .i x :: l)
      | none => none
    | _ => none
  | [.y n], ks => match asBy n (.agg ks) with
    | some g => some ([], [.y n g])
    | none => none
  | _, _ => none
def At.sk : At → SK
  | .u n => .u n
  | .b x => .c (.val (.bool x))
  | .i n => .c (.val (.int .i64 n))
  | .y n g => .f .u8 n g
theorem concs_app (ρ : Rho) (k : SK) {xs ys : List SK} (h : concs ρ xs = concs ρ ys) : concs ρ (k :: xs) = concs ρ (k :: ys) := by
  rw [concs_cons ρ k xs, concs_cons ρ k ys, h]
theorem asKs_sound (ρ : Rho) : ∀ {ps : List PK} {ks : List SK} {q : List Prop} {l : List At}, asKs ps ks = some (q, l) → Ok q → concs ρ ks = concs ρ (l.map At.sk)
  | [], [], q, l, h, _ => by simp only [asKs, Option.some.injEq, Prod.mk.injEq] at h; obtain ⟨_, rfl⟩ := h; rfl
  | [], _ :: _, q, l, h, _ => by simp [asKs] at h
  | .u :: ps, ks, q, l, h, hq => by
    simp only [asKs] at h
    split at h
    · rename_i p n r hu
      split at h
      · rename_i q' l' hr
        simp only [Option.some.injEq, Prod.mk.injEq] at h
        obtain ⟨rfl, rfl⟩ := h
        obtain ⟨h1, h2⟩ := Ok.append.1 hq
        rw [takeU_sound hu h1 ρ]
        exact concs_app ρ _ (asKs_sound ρ hr h2)
      · cases h
    · cases h
  | .i :: ps, [], q, l, h, _ => by simp [asKs] at h
  | .i :: ps, .u _ :: _, q, l, h, _ => by simp [asKs] at h
  | .i :: ps, .f _ _ _ :: _, q, l, h, _ => by simp [asKs] at h
  | .i :: ps, .c s :: r, q, l, h, hq => by
    simp only [asKs] at h
    split at h
    · rename_i x hx
      split at h
      · rename_i q' l' hr
        simp only [Option.some.injEq, Prod.mk.injEq] at h
        obtain ⟨rfl, rfl⟩ := h
        have ih := asKs_sound ρ hr hq
        rw [List.map_cons, concs_cons, concs_cons ρ (At.sk (.i x)), ih]
        have e : s.conc ρ = .int .i64 x := asI_sound hx ρ
        simp [concs, flat, SK.cells, At.sk, e, show ∀ v, (SC.val v).conc ρ = v from fun _ => rfl]
      · cases h
    · cases h
  | .y n :: p :: ps, ks, q, l, h, _ => by simp [asKs] at h
  | [.y n], ks, q, l, h, hq => by
    simp only [asKs] at h
    split at h
    · rename_i g hg
      simp only [Option.some.injEq, Prod.mk.injEq] at h
      obtain ⟨rfl, rfl⟩ := h
      have := asBy_sound hg ρ
      simp only [SA.conc, Value.agg.injEq] at this
      have := congrArg Array.toList this
      simpa [At.sk] using this
    · cases h
  | .b :: ps, [], q, l, h, _ => by simp [asKs] at h
  | .b :: ps, .u _ :: _, q, l, h, _ => by simp [asKs] at h
  | .b :: ps, .f _ _ _ :: _, q, l, h, _ => by simp [asKs] at h
  | .b :: ps, .c s :: r, q, l, h, hq => by
    simp only [asKs] at h
    split at h
    · rename_i x hx
      split at h
      · rename_i q' l' hr
        simp only [Option.some.injEq, Prod.mk.injEq] at h
        obtain ⟨rfl, rfl⟩ := h
        have ih := asKs_sound ρ hr hq
        rw [List.map_cons, concs_cons, concs_cons ρ (At.sk (.b x)), ih]
        have e := asBit_sound hx ρ
        simp [concs, flat, SK.cells, At.sk, e, show ∀ v, (SC.val v).conc ρ = v from fun _ => rfl]
      · cases h
    · cases h
def isPtr : SC → Bool
  | .ptr _ _ => true
  | .val (.pointer _) => true
  | _ => false
def asArg : AP → SA → Option (List Prop × List At)
  | .hand, .agg ks => match takeU ks with
    | some (p, n, [.c s]) => if isPtr s then some (p, [.u n]) else none
    | _ => none
  | .str ps, .agg ks => asKs ps ks
  | .int k, x => match asI x with
    | some (k', n) => if k' = k then some ([], [.i n]) else none
    | none => none
  | .bit, .sc s => match asBit s with
    | some x => some ([], [.b x])
    | none => none
  | _, _ => none
def mkArg : AP → List At → Option Addr → SA
  | .hand, [.u n], v => .agg [.u n, .c (.val (.pointer v))]
  | .str _, l, _ => .agg (l.map At.sk)
  | .int k, [.i n], _ => sI k n
  | .bit, [.b x], _ => sB x
  | _, _, _ => .agg []
theorem asArg_sound {ap : AP} {x : SA} {q : List Prop} {l : List At} (h : asArg ap x = some (q, l)) (hq : Ok q) (ρ : Rho) : ∃ v, x.conc ρ = (mkArg ap l v).conc ρ := by
  unfold asArg at h
  split at h
  · rename_i ks
    split at h
    · rename_i p n s hu
      split at h
      · rename_i hs
        simp only [Option.some.injEq, Prod.mk.injEq] at h
        obtain ⟨rfl, rfl⟩ := h
        obtain ⟨v, hv⟩ : ∃ v, s.conc ρ = .pointer v := by
          unfold isPtr at hs
          split at hs
          · exact ⟨_, rfl⟩
          · exact ⟨_, rfl⟩
          · cases hs
        refine ⟨v, ?_⟩
        simp only [SA.conc, mkArg, takeU_sound hu hq ρ]
        simp [concs, flat, SK.cells, hv, show ∀ v, (SC.val v).conc ρ = v from fun _ => rfl]
      · cases h
    · cases h
  · rename_i ps ks
    exact ⟨none, by simp only [SA.conc, mkArg, asKs_sound ρ h hq]⟩
  · rename_i k x'
    split at h
    · rename_i k' n hi
      split at h
      · rename_i hk
        subst hk
        simp only [Option.some.injEq, Prod.mk.injEq] at h
        obtain ⟨rfl, rfl⟩ := h
        exact ⟨none, asI_canon hi ρ⟩
      · cases h
    · cases h
  · split at h
    · rename_i b hb
      simp only [Option.some.injEq, Prod.mk.injEq] at h
      obtain ⟨rfl, rfl⟩ := h
      exact ⟨none, asBit_sound hb ρ⟩
    · cases h
  · cases h
theorem mkArg_bnd (ap : AP) (l : List At) (v : Option Addr) : (mkArg ap l v).bnd none0 := by
  unfold mkArg
  split
  · intro k hk
    simp only [List.mem_cons, List.not_mem_nil, or_false] at hk
    rcases hk with rfl | rfl <;> trivial
  · intro k hk
    simp only [List.mem_map] at hk
    obtain ⟨a, _, rfl⟩ := hk
    cases a <;> trivial
  · trivial
  · trivial
  · intro k hk
    simp at hk
def asArgs : List AP → List SA → Option (List Prop × List (List At))
  | [], [] => some ([], [])
  | ap :: sh, x :: r => match asArg ap x with
    | some (p, l) => match asArgs sh r with
      | some (q, ls) => some (p ++ q, l :: ls)
      | none => none
    | none => none
  | _, _ => none
def mkArgs : List AP → List (List At) → List (Option Addr) → List SA
  | ap :: sh, l :: ls, vs => mkArg ap l (vs.headD none) :: mkArgs sh ls vs.tail
  | _, _, _ => []
theorem asArgs_sound (ρ : Rho) : ∀ {sh : List AP} {xs : List SA} {q : List Prop} {ls : List (List At)}, asArgs sh xs = some (q, ls) → Ok q → ∃ vs, xs.map (SA.conc ρ) = (mkArgs sh ls vs).map (SA.conc ρ)
  | [], [], q, ls, h, _ => ⟨[], by simp only [asArgs, Option.some.injEq, Prod.mk.injEq] at h; obtain ⟨_, rfl⟩ := h; rfl⟩
  | [], _ :: _, q, ls, h, _ => by simp [asArgs] at h
  | _ :: _, [], q, ls, h, _ => by simp [asArgs] at h
  | ap :: sh, x :: r, q, ls, h, hq => by
    simp only [asArgs] at h
    split at h
    · rename_i p l hx
      split at h
      · rename_i q' l' hr
        simp only [Option.some.injEq, Prod.mk.injEq] at h
        obtain ⟨rfl, rfl⟩ := h
        obtain ⟨h1, h2⟩ := Ok.append.1 hq
        obtain ⟨v, hv⟩ := asArg_sound hx h1 ρ
        obtain ⟨vs, hvs⟩ := asArgs_sound ρ hr h2
        exact ⟨v :: vs, by simp only [mkArgs, List.map_cons, List.headD_cons, List.tail_cons, hv, hvs]⟩
      · cases h
    · cases h
theorem mkArgs_bnd : ∀ (sh : List AP) (ls : List (List At)) (vs : List (Option Addr)), ∀ x ∈ mkArgs sh ls vs, x.bnd none0
  | [], _, _, x, h => by simp [mkArgs] at h
  | _ :: _, [], _, x, h => by simp [mkArgs] at h
  | ap :: sh, l :: ls, vs, x, h => by
    simp only [mkArgs, List.mem_cons] at h
    rcases h with rfl | h
    · exact mkArg_bnd _ _ _
    · exact mkArgs_bnd sh ls _ x h
def specA (sh : List AP) (c : List (List At) → List Prop) (g : List (List At) → SV) : FSpec := fun args =>
  match asArgs sh args with
  | some (p, ls) => some (p ++ c ls, g ls)
  | none => none
theorem FnOK_A {P : Program} {cx : Cx} (hcx : CxOK P cx) {sh : List AP} {c : List (List At) → List Prop} {g : List (List At) → SV} {iv : List (List At) → List (Nat × Hint)} {N : Nat} {f : Nat} {fn : Func} (hf : P.funcs[f]? = some fn) (hb : fn.body.isSome = true) (hn : (fn.name == "runtime.NumGoroutine") = false) (hg : ∀ ls, (g ls).bnd none0)
    (h : ∀ ls vs, Ok (c ls) → Owes P cx (iv ls) N fn (mkArgs sh ls vs) (g ls)) : FnOKg P cx.gl f (specA sh c g) := by
  refine FnOK_of hf hb hn fun args ps sv hs hp => ?_
  unfold specA at hs
  split at hs
  · rename_i p ls ha
    simp only [Option.some.injEq, Prod.mk.injEq] at hs
    obtain ⟨rfl, rfl⟩ := hs
    obtain ⟨o1, o2⟩ := Ok.append.1 hp
    refine ⟨hg ls, fun ρ w hzz hgg _ => ?_⟩
    obtain ⟨vs, hv⟩ := asArgs_sound ρ ha o1
    rw [hv]
    refine (calls_of_owes0 hcx hf hb (mkArgs_bnd sh ls vs) (h ls vs o2) ρ w hzz hgg).mono ?_
    rintro e w' ⟨v, rfl, ⟨ρ', hr⟩, hbl⟩
    exact ⟨v, rfl, rep_none0 (hg ls) hr, hbl⟩
  · cases hs
theorem FnOK_AX {P : Program} {gl : Globs} {cx : List (List At) → Cx} {sh : List AP} {c : List (List At) → List Prop} (hcx : ∀ ls, Ok (c ls) → CxOK P (cx ls)) (hgl : ∀ ls, (cx ls).gl = gl) {g : List (List At) → SV} {iv : List (List At) → List (Nat × Hint)} {N : Nat} {f : Nat} {fn : Func} (hf : P.funcs[f]? = some fn) (hb : fn.body.isSome = true) (hn : (fn.name == "runtime.NumGoroutine") = false) (hg : ∀ ls, (g ls).bnd none0)
    (h : ∀ ls vs, Ok (c ls) → Owes P (cx ls) (iv ls) N fn (mkArgs sh ls vs) (g ls)) : FnOKg P gl f (specA sh c g) := by
  refine FnOK_of hf hb hn fun args ps sv hs hp => ?_
  unfold specA at hs
  split at hs
  · rename_i p ls ha
    simp only [Option.some.injEq, Prod.mk.injEq] at hs
    obtain ⟨rfl, rfl⟩ := hs
    obtain ⟨o1, o2⟩ := Ok.append.1 hp
    refine ⟨hg ls, fun ρ w hzz hgg _ => ?_⟩
    obtain ⟨vs, hv⟩ := asArgs_sound ρ ha o1
    rw [hv]
    refine (calls_of_owes0 (hcx ls o2) hf hb (mkArgs_bnd sh ls vs) (h ls vs o2) ρ w hzz (by rw [hgl]; exact hgg)).mono ?_
    rintro e w' ⟨v, rfl, ⟨ρ', hr⟩, hbl⟩
    exact ⟨v, rfl, rep_none0 (hg ls) hr, hbl⟩
  · cases hs
end Go.Sx
end
