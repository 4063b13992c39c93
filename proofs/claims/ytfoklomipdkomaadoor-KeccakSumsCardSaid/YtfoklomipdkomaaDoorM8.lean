/-
  Texts: V30, P60, Wsp, Ks, V31, P61.
-/
import Derived.Test.YtfoklomipdkomaaDoorM1
import Derived.Test.YtfoklomipdkomaaDoorM2
import Derived.Test.YtfoklomipdkomaaDoorM3
import Derived.Test.YtfoklomipdkomaaDoorM4
import Derived.Test.YtfoklomipdkomaaDoorM5
import Derived.Test.YtfoklomipdkomaaDoorM6
import Derived.Test.YtfoklomipdkomaaDoorM7
import Derived.Test.YtfoklomipdkomaaDoorProg
section
/-
  Duties of package keccak: what each function comes to.
-/
namespace Go.Proofs.YtfoklomipdkomaaDoor
open Go Go.Sx Go.RowKit
def tabsK : List Tab := [⟨ "bascule/keccak.constants", 0, 44, .u64, [1, 32898, 9223372036854808714, 9223372039002292224, 32907, 2147483649, 9223372039002292353, 9223372036854808585, 138, 136, 2147516425, 2147483658, 2147516555, 9223372036854775947, 9223372036854808713, 9223372036854808579, 9223372036854808578, 9223372036854775936, 32778, 9223372039002259466, 9223372039002292353, 9223372036854808704, 2147483649, 9223372039002292232]⟩,
  ⟨ "bascule/keccak.offsets", 2, 49, .i64, [0, 1, 62, 28, 27, 36, 44, 6, 55, 20, 3, 10, 43, 25, 39, 41, 45, 15, 21, 8, 18, 2, 61, 56, 14]⟩,
  ⟨ "bascule/keccak.sources", 1, 49, .i64, [0, 6, 12, 18, 24, 3, 9, 10, 16, 22, 1, 7, 13, 19, 20, 4, 5, 11, 17, 23, 2, 8, 14, 15, 21]⟩]
def glK : Globs := tabsK.map Tab.known
def cxRot : Cx := ⟨[(22, specRotl)], glK, 0⟩
-- VC vc_rotl HASH cfc5c8e38d20a68f
theorem vc_rotl (v : BitVec 64) (k : Int) :
    Owes Tryd.prog Cx.none [] 10 Tryd.f22 [sI .u64 (lw v), sI .i64 k] (.one (sI .u64 (rotlG (lw v) k))) =
    (let x1 : Int := Go.IntKind.u64.wrap (↑(BitVec.ofInt (64 : Nat) (Go.IntKind.u64.wrap k) &&& BitVec.ofInt (64 : Nat) (63 : Int)).toNat : Int); let x2 : Int := Go.IntKind.u64.wrap ((64 : Int) - x1); (0 : Int) ≤ x1 ∧ (0 : Int) ≤ x2 ∧ Go.IntKind.u64.wrap (↑(BitVec.ofInt (64 : Nat) (Go.IntKind.u64.wrap (Go.Sx.lw v * (2 : Int) ^ Min.min x1.toNat (64 : Nat))) ||| BitVec.ofInt (64 : Nat) ((Go.Sx.lw v).fdiv ((2 : Int) ^ Min.min x2.toNat (64 : Nat)))).toNat : Int) = Go.Sx.rotlG (Go.Sx.lw v) k) := by kernel_rfl
-- END VC
-- VC vc_theta HASH 352df8b201fcc25c
theorem vc_theta (a : Nat → BitVec 64) :
    Owes Tryd.prog cxRot [] 30 Tryd.f21 [sRow .u64 25 fun i => lw (a i)] (.one (sRow .u64 25 fun i => lw (thetaB a i))) =
    (let x1 : Int := Go.IntKind.u64.wrap (↑(BitVec.ofInt (64 : Nat) (Go.IntKind.u64.wrap (↑(BitVec.ofInt (64 : Nat) (Go.IntKind.u64.wrap (↑(BitVec.ofInt (64 : Nat) (Go.IntKind.u64.wrap (↑(BitVec.ofInt (64 : Nat) (Go.Sx.lw (a (1 : Nat))) ^^^ BitVec.ofInt (64 : Nat) (Go.Sx.lw (a (6 : Nat)))).toNat : Int)) ^^^ BitVec.ofInt (64 : Nat) (Go.Sx.lw (a (11 : Nat)))).toNat : Int)) ^^^ BitVec.ofInt (64 : Nat) (Go.Sx.lw (a (16 : Nat)))).toNat : Int)) ^^^ BitVec.ofInt (64 : Nat) (Go.Sx.lw (a (21 : Nat)))).toNat : Int); let x2 : Int := Go.IntKind.u64.wrap (↑(BitVec.ofInt (64 : Nat) (Go.IntKind.u64.wrap (↑(BitVec.ofInt (64 : Nat) (Go.IntKind.u64.wrap (↑(BitVec.ofInt (64 : Nat) (Go.IntKind.u64.wrap (↑(BitVec.ofInt (64 : Nat) (Go.Sx.lw (a (2 : Nat))) ^^^ BitVec.ofInt (64 : Nat) (Go.Sx.lw (a (7 : Nat)))).toNat : Int)) ^^^ BitVec.ofInt (64 : Nat) (Go.Sx.lw (a (12 : Nat)))).toNat : Int)) ^^^ BitVec.ofInt (64 : Nat) (Go.Sx.lw (a (17 : Nat)))).toNat : Int)) ^^^ BitVec.ofInt (64 : Nat) (Go.Sx.lw (a (22 : Nat)))).toNat : Int); let x3 : Int := Go.IntKind.u64.wrap (↑(BitVec.ofInt (64 : Nat) (Go.IntKind.u64.wrap (↑(BitVec.ofInt (64 : Nat) (Go.IntKind.u64.wrap (↑(BitVec.ofInt (64 : Nat) (Go.IntKind.u64.wrap (↑(BitVec.ofInt (64 : Nat) (Go.Sx.lw (a (3 : Nat))) ^^^ BitVec.ofInt (64 : Nat) (Go.Sx.lw (a (8 : Nat)))).toNat : Int)) ^^^ BitVec.ofInt (64 : Nat) (Go.Sx.lw (a (13 : Nat)))).toNat : Int)) ^^^ BitVec.ofInt (64 : Nat) (Go.Sx.lw (a (18 : Nat)))).toNat : Int)) ^^^ BitVec.ofInt (64 : Nat) (Go.Sx.lw (a (23 : Nat)))).toNat : Int); let x4 : Int := Go.IntKind.u64.wrap (↑(BitVec.ofInt (64 : Nat) (Go.IntKind.u64.wrap (↑(BitVec.ofInt (64 : Nat) (Go.IntKind.u64.wrap (↑(BitVec.ofInt (64 : Nat) (Go.IntKind.u64.wrap (↑(BitVec.ofInt (64 : Nat) (Go.Sx.lw (a (4 : Nat))) ^^^ BitVec.ofInt (64 : Nat) (Go.Sx.lw (a (9 : Nat)))).toNat : Int)) ^^^ BitVec.ofInt (64 : Nat) (Go.Sx.lw (a (14 : Nat)))).toNat : Int)) ^^^ BitVec.ofInt (64 : Nat) (Go.Sx.lw (a (19 : Nat)))).toNat : Int)) ^^^ BitVec.ofInt (64 : Nat) (Go.Sx.lw (a (24 : Nat)))).toNat : Int); let x5 : Int := Go.IntKind.u64.wrap (↑(BitVec.ofInt (64 : Nat) (Go.IntKind.u64.wrap (↑(BitVec.ofInt (64 : Nat) (Go.IntKind.u64.wrap (↑(BitVec.ofInt (64 : Nat) (Go.IntKind.u64.wrap (↑(BitVec.ofInt (64 : Nat) (Go.Sx.lw (a (0 : Nat))) ^^^ BitVec.ofInt (64 : Nat) (Go.Sx.lw (a (5 : Nat)))).toNat : Int)) ^^^ BitVec.ofInt (64 : Nat) (Go.Sx.lw (a (10 : Nat)))).toNat : Int)) ^^^ BitVec.ofInt (64 : Nat) (Go.Sx.lw (a (15 : Nat)))).toNat : Int)) ^^^ BitVec.ofInt (64 : Nat) (Go.Sx.lw (a (20 : Nat)))).toNat : Int); ((0 : Int) ≤ x1 ∧ x1 < (18446744073709551616 : Int)) ∧ ((0 : Int) ≤ (1 : Int) ∧ (1 : Int) < (64 : Int)) ∧ ((0 : Int) ≤ x2 ∧ x2 < (18446744073709551616 : Int)) ∧ ((0 : Int) ≤ (1 : Int) ∧ (1 : Int) < (64 : Int)) ∧ ((0 : Int) ≤ x3 ∧ x3 < (18446744073709551616 : Int)) ∧ ((0 : Int) ≤ (1 : Int) ∧ (1 : Int) < (64 : Int)) ∧ ((0 : Int) ≤ x4 ∧ x4 < (18446744073709551616 : Int)) ∧ ((0 : Int) ≤ (1 : Int) ∧ (1 : Int) < (64 : Int)) ∧ ((0 : Int) ≤ x5 ∧ x5 < (18446744073709551616 : Int)) ∧ ((0 : Int) ≤ (1 : Int) ∧ (1 : Int) < (64 : Int)) ∧ Go.IntKind.u64.wrap (↑(BitVec.ofInt (64 : Nat) (Go.Sx.lw (a (0 : Nat))) ^^^ BitVec.ofInt (64 : Nat) (Go.IntKind.u64.wrap (↑(BitVec.ofInt (64 : Nat) x4 ^^^ BitVec.ofInt (64 : Nat) (Go.Sx.rotlG x1 (1 : Int))).toNat : Int))).toNat : Int) = Go.Sx.lw (Go.Sx.thetaB a (0 : Nat)) ∧ Go.IntKind.u64.wrap (↑(BitVec.ofInt (64 : Nat) (Go.Sx.lw (a (1 : Nat))) ^^^ BitVec.ofInt (64 : Nat) (Go.IntKind.u64.wrap (↑(BitVec.ofInt (64 : Nat) x5 ^^^ BitVec.ofInt (64 : Nat) (Go.Sx.rotlG x2 (1 : Int))).toNat : Int))).toNat : Int) = Go.Sx.lw (Go.Sx.thetaB a (1 : Nat)) ∧ Go.IntKind.u64.wrap (↑(BitVec.ofInt (64 : Nat) (Go.Sx.lw (a (2 : Nat))) ^^^ BitVec.ofInt (64 : Nat) (Go.IntKind.u64.wrap (↑(BitVec.ofInt (64 : Nat) x1 ^^^ BitVec.ofInt (64 : Nat) (Go.Sx.rotlG x3 (1 : Int))).toNat : Int))).toNat : Int) = Go.Sx.lw (Go.Sx.thetaB a (2 : Nat)) ∧ Go.IntKind.u64.wrap (↑(BitVec.ofInt (64 : Nat) (Go.Sx.lw (a (3 : Nat))) ^^^ BitVec.ofInt (64 : Nat) (Go.IntKind.u64.wrap (↑(BitVec.ofInt (64 : Nat) x2 ^^^ BitVec.ofInt (64 : Nat) (Go.Sx.rotlG x4 (1 : Int))).toNat : Int))).toNat : Int) = Go.Sx.lw (Go.Sx.thetaB a (3 : Nat)) ∧ Go.IntKind.u64.wrap (↑(BitVec.ofInt (64 : Nat) (Go.Sx.lw (a (4 : Nat))) ^^^ BitVec.ofInt (64 : Nat) (Go.IntKind.u64.wrap (↑(BitVec.ofInt (64 : Nat) x3 ^^^ BitVec.ofInt (64 : Nat) (Go.Sx.rotlG x5 (1 : Int))).toNat : Int))).toNat : Int) = Go.Sx.lw (Go.Sx.thetaB a (4 : Nat)) ∧ Go.IntKind.u64.wrap (↑(BitVec.ofInt (64 : Nat) (Go.Sx.lw (a (5 : Nat))) ^^^ BitVec.ofInt (64 : Nat) (Go.IntKind.u64.wrap (↑(BitVec.ofInt (64 : Nat) x4 ^^^ BitVec.ofInt (64 : Nat) (Go.Sx.rotlG x1 (1 : Int))).toNat : Int))).toNat : Int) = Go.Sx.lw (Go.Sx.thetaB a (5 : Nat)) ∧ Go.IntKind.u64.wrap (↑(BitVec.ofInt (64 : Nat) (Go.Sx.lw (a (6 : Nat))) ^^^ BitVec.ofInt (64 : Nat) (Go.IntKind.u64.wrap (↑(BitVec.ofInt (64 : Nat) x5 ^^^ BitVec.ofInt (64 : Nat) (Go.Sx.rotlG x2 (1 : Int))).toNat : Int))).toNat : Int) = Go.Sx.lw (Go.Sx.thetaB a (6 : Nat)) ∧ Go.IntKind.u64.wrap (↑(BitVec.ofInt (64 : Nat) (Go.Sx.lw (a (7 : Nat))) ^^^ BitVec.ofInt (64 : Nat) (Go.IntKind.u64.wrap (↑(BitVec.ofInt (64 : Nat) x1 ^^^ BitVec.ofInt (64 : Nat) (Go.Sx.rotlG x3 (1 : Int))).toNat : Int))).toNat : Int) = Go.Sx.lw (Go.Sx.thetaB a (7 : Nat)) ∧ Go.IntKind.u64.wrap (↑(BitVec.ofInt (64 : Nat) (Go.Sx.lw (a (8 : Nat))) ^^^ BitVec.ofInt (64 : Nat) (Go.IntKind.u64.wrap (↑(BitVec.ofInt (64 : Nat) x2 ^^^ BitVec.ofInt (64 : Nat) (Go.Sx.rotlG x4 (1 : Int))).toNat : Int))).toNat : Int) = Go.Sx.lw (Go.Sx.thetaB a (8 : Nat)) ∧ Go.IntKind.u64.wrap (↑(BitVec.ofInt (64 : Nat) (Go.Sx.lw (a (9 : Nat))) ^^^ BitVec.ofInt (64 : Nat) (Go.IntKind.u64.wrap (↑(BitVec.ofInt (64 : Nat) x3 ^^^ BitVec.ofInt (64 : Nat) (Go.Sx.rotlG x5 (1 : Int))).toNat : Int))).toNat : Int) = Go.Sx.lw (Go.Sx.thetaB a (9 : Nat)) ∧ Go.IntKind.u64.wrap (↑(BitVec.ofInt (64 : Nat) (Go.Sx.lw (a (10 : Nat))) ^^^ BitVec.ofInt (64 : Nat) (Go.IntKind.u64.wrap (↑(BitVec.ofInt (64 : Nat) x4 ^^^ BitVec.ofInt (64 : Nat) (Go.Sx.rotlG x1 (1 : Int))).toNat : Int))).toNat : Int) = Go.Sx.lw (Go.Sx.thetaB a (10 : Nat)) ∧ Go.IntKind.u64.wrap (↑(BitVec.ofInt (64 : Nat) (Go.Sx.lw (a (11 : Nat))) ^^^ BitVec.ofInt (64 : Nat) (Go.IntKind.u64.wrap (↑(BitVec.ofInt (64 : Nat) x5 ^^^ BitVec.ofInt (64 : Nat) (Go.Sx.rotlG x2 (1 : Int))).toNat : Int))).toNat : Int) = Go.Sx.lw (Go.Sx.thetaB a (11 : Nat)) ∧ Go.IntKind.u64.wrap (↑(BitVec.ofInt (64 : Nat) (Go.Sx.lw (a (12 : Nat))) ^^^ BitVec.ofInt (64 : Nat) (Go.IntKind.u64.wrap (↑(BitVec.ofInt (64 : Nat) x1 ^^^ BitVec.ofInt (64 : Nat) (Go.Sx.rotlG x3 (1 : Int))).toNat : Int))).toNat : Int) = Go.Sx.lw (Go.Sx.thetaB a (12 : Nat)) ∧ Go.IntKind.u64.wrap (↑(BitVec.ofInt (64 : Nat) (Go.Sx.lw (a (13 : Nat))) ^^^ BitVec.ofInt (64 : Nat) (Go.IntKind.u64.wrap (↑(BitVec.ofInt (64 : Nat) x2 ^^^ BitVec.ofInt (64 : Nat) (Go.Sx.rotlG x4 (1 : Int))).toNat : Int))).toNat : Int) = Go.Sx.lw (Go.Sx.thetaB a (13 : Nat)) ∧ Go.IntKind.u64.wrap (↑(BitVec.ofInt (64 : Nat) (Go.Sx.lw (a (14 : Nat))) ^^^ BitVec.ofInt (64 : Nat) (Go.IntKind.u64.wrap (↑(BitVec.ofInt (64 : Nat) x3 ^^^ BitVec.ofInt (64 : Nat) (Go.Sx.rotlG x5 (1 : Int))).toNat : Int))).toNat : Int) = Go.Sx.lw (Go.Sx.thetaB a (14 : Nat)) ∧ Go.IntKind.u64.wrap (↑(BitVec.ofInt (64 : Nat) (Go.Sx.lw (a (15 : Nat))) ^^^ BitVec.ofInt (64 : Nat) (Go.IntKind.u64.wrap (↑(BitVec.ofInt (64 : Nat) x4 ^^^ BitVec.ofInt (64 : Nat) (Go.Sx.rotlG x1 (1 : Int))).toNat : Int))).toNat : Int) = Go.Sx.lw (Go.Sx.thetaB a (15 : Nat)) ∧ Go.IntKind.u64.wrap (↑(BitVec.ofInt (64 : Nat) (Go.Sx.lw (a (16 : Nat))) ^^^ BitVec.ofInt (64 : Nat) (Go.IntKind.u64.wrap (↑(BitVec.ofInt (64 : Nat) x5 ^^^ BitVec.ofInt (64 : Nat) (Go.Sx.rotlG x2 (1 : Int))).toNat : Int))).toNat : Int) = Go.Sx.lw (Go.Sx.thetaB a (16 : Nat)) ∧ Go.IntKind.u64.wrap (↑(BitVec.ofInt (64 : Nat) (Go.Sx.lw (a (17 : Nat))) ^^^ BitVec.ofInt (64 : Nat) (Go.IntKind.u64.wrap (↑(BitVec.ofInt (64 : Nat) x1 ^^^ BitVec.ofInt (64 : Nat) (Go.Sx.rotlG x3 (1 : Int))).toNat : Int))).toNat : Int) = Go.Sx.lw (Go.Sx.thetaB a (17 : Nat)) ∧ Go.IntKind.u64.wrap (↑(BitVec.ofInt (64 : Nat) (Go.Sx.lw (a (18 : Nat))) ^^^ BitVec.ofInt (64 : Nat) (Go.IntKind.u64.wrap (↑(BitVec.ofInt (64 : Nat) x2 ^^^ BitVec.ofInt (64 : Nat) (Go.Sx.rotlG x4 (1 : Int))).toNat : Int))).toNat : Int) = Go.Sx.lw (Go.Sx.thetaB a (18 : Nat)) ∧ Go.IntKind.u64.wrap (↑(BitVec.ofInt (64 : Nat) (Go.Sx.lw (a (19 : Nat))) ^^^ BitVec.ofInt (64 : Nat) (Go.IntKind.u64.wrap (↑(BitVec.ofInt (64 : Nat) x3 ^^^ BitVec.ofInt (64 : Nat) (Go.Sx.rotlG x5 (1 : Int))).toNat : Int))).toNat : Int) = Go.Sx.lw (Go.Sx.thetaB a (19 : Nat)) ∧ Go.IntKind.u64.wrap (↑(BitVec.ofInt (64 : Nat) (Go.Sx.lw (a (20 : Nat))) ^^^ BitVec.ofInt (64 : Nat) (Go.IntKind.u64.wrap (↑(BitVec.ofInt (64 : Nat) x4 ^^^ BitVec.ofInt (64 : Nat) (Go.Sx.rotlG x1 (1 : Int))).toNat : Int))).toNat : Int) = Go.Sx.lw (Go.Sx.thetaB a (20 : Nat)) ∧ Go.IntKind.u64.wrap (↑(BitVec.ofInt (64 : Nat) (Go.Sx.lw (a (21 : Nat))) ^^^ BitVec.ofInt (64 : Nat) (Go.IntKind.u64.wrap (↑(BitVec.ofInt (64 : Nat) x5 ^^^ BitVec.ofInt (64 : Nat) (Go.Sx.rotlG x2 (1 : Int))).toNat : Int))).toNat : Int) = Go.Sx.lw (Go.Sx.thetaB a (21 : Nat)) ∧ Go.IntKind.u64.wrap (↑(BitVec.ofInt (64 : Nat) (Go.Sx.lw (a (22 : Nat))) ^^^ BitVec.ofInt (64 : Nat) (Go.IntKind.u64.wrap (↑(BitVec.ofInt (64 : Nat) x1 ^^^ BitVec.ofInt (64 : Nat) (Go.Sx.rotlG x3 (1 : Int))).toNat : Int))).toNat : Int) = Go.Sx.lw (Go.Sx.thetaB a (22 : Nat)) ∧ Go.IntKind.u64.wrap (↑(BitVec.ofInt (64 : Nat) (Go.Sx.lw (a (23 : Nat))) ^^^ BitVec.ofInt (64 : Nat) (Go.IntKind.u64.wrap (↑(BitVec.ofInt (64 : Nat) x2 ^^^ BitVec.ofInt (64 : Nat) (Go.Sx.rotlG x4 (1 : Int))).toNat : Int))).toNat : Int) = Go.Sx.lw (Go.Sx.thetaB a (23 : Nat)) ∧ Go.IntKind.u64.wrap (↑(BitVec.ofInt (64 : Nat) (Go.Sx.lw (a (24 : Nat))) ^^^ BitVec.ofInt (64 : Nat) (Go.IntKind.u64.wrap (↑(BitVec.ofInt (64 : Nat) x3 ^^^ BitVec.ofInt (64 : Nat) (Go.Sx.rotlG x5 (1 : Int))).toNat : Int))).toNat : Int) = Go.Sx.lw (Go.Sx.thetaB a (24 : Nat)) ∧ True) := by kernel_rfl
-- END VC
-- VC vc_scat HASH 7a6d3095c5df73dd
theorem vc_scat (a : Nat → BitVec 64) :
    Owes Tryd.prog cxRot [] 30 Tryd.f20 [sRow .u64 25 fun i => lw (a i)] (.one (sRow .u64 25 fun i => lw (scatB a i))) =
    (((0 : Int) ≤ Go.Sx.lw (a (0 : Nat)) ∧ Go.Sx.lw (a (0 : Nat)) < (18446744073709551616 : Int)) ∧ ((0 : Int) ≤ (0 : Int) ∧ (0 : Int) < (64 : Int)) ∧ ((0 : Int) ≤ Go.Sx.lw (a (6 : Nat)) ∧ Go.Sx.lw (a (6 : Nat)) < (18446744073709551616 : Int)) ∧ ((0 : Int) ≤ (44 : Int) ∧ (44 : Int) < (64 : Int)) ∧ ((0 : Int) ≤ Go.Sx.lw (a (12 : Nat)) ∧ Go.Sx.lw (a (12 : Nat)) < (18446744073709551616 : Int)) ∧ ((0 : Int) ≤ (43 : Int) ∧ (43 : Int) < (64 : Int)) ∧ ((0 : Int) ≤ Go.Sx.lw (a (18 : Nat)) ∧ Go.Sx.lw (a (18 : Nat)) < (18446744073709551616 : Int)) ∧ ((0 : Int) ≤ (21 : Int) ∧ (21 : Int) < (64 : Int)) ∧ ((0 : Int) ≤ Go.Sx.lw (a (24 : Nat)) ∧ Go.Sx.lw (a (24 : Nat)) < (18446744073709551616 : Int)) ∧ ((0 : Int) ≤ (14 : Int) ∧ (14 : Int) < (64 : Int)) ∧ ((0 : Int) ≤ Go.Sx.lw (a (3 : Nat)) ∧ Go.Sx.lw (a (3 : Nat)) < (18446744073709551616 : Int)) ∧ ((0 : Int) ≤ (28 : Int) ∧ (28 : Int) < (64 : Int)) ∧ ((0 : Int) ≤ Go.Sx.lw (a (9 : Nat)) ∧ Go.Sx.lw (a (9 : Nat)) < (18446744073709551616 : Int)) ∧ ((0 : Int) ≤ (20 : Int) ∧ (20 : Int) < (64 : Int)) ∧ ((0 : Int) ≤ Go.Sx.lw (a (10 : Nat)) ∧ Go.Sx.lw (a (10 : Nat)) < (18446744073709551616 : Int)) ∧ ((0 : Int) ≤ (3 : Int) ∧ (3 : Int) < (64 : Int)) ∧ ((0 : Int) ≤ Go.Sx.lw (a (16 : Nat)) ∧ Go.Sx.lw (a (16 : Nat)) < (18446744073709551616 : Int)) ∧ ((0 : Int) ≤ (45 : Int) ∧ (45 : Int) < (64 : Int)) ∧ ((0 : Int) ≤ Go.Sx.lw (a (22 : Nat)) ∧ Go.Sx.lw (a (22 : Nat)) < (18446744073709551616 : Int)) ∧ ((0 : Int) ≤ (61 : Int) ∧ (61 : Int) < (64 : Int)) ∧ ((0 : Int) ≤ Go.Sx.lw (a (1 : Nat)) ∧ Go.Sx.lw (a (1 : Nat)) < (18446744073709551616 : Int)) ∧ ((0 : Int) ≤ (1 : Int) ∧ (1 : Int) < (64 : Int)) ∧ ((0 : Int) ≤ Go.Sx.lw (a (7 : Nat)) ∧ Go.Sx.lw (a (7 : Nat)) < (18446744073709551616 : Int)) ∧ ((0 : Int) ≤ (6 : Int) ∧ (6 : Int) < (64 : Int)) ∧ ((0 : Int) ≤ Go.Sx.lw (a (13 : Nat)) ∧ Go.Sx.lw (a (13 : Nat)) < (18446744073709551616 : Int)) ∧ ((0 : Int) ≤ (25 : Int) ∧ (25 : Int) < (64 : Int)) ∧ ((0 : Int) ≤ Go.Sx.lw (a (19 : Nat)) ∧ Go.Sx.lw (a (19 : Nat)) < (18446744073709551616 : Int)) ∧ ((0 : Int) ≤ (8 : Int) ∧ (8 : Int) < (64 : Int)) ∧ ((0 : Int) ≤ Go.Sx.lw (a (20 : Nat)) ∧ Go.Sx.lw (a (20 : Nat)) < (18446744073709551616 : Int)) ∧ ((0 : Int) ≤ (18 : Int) ∧ (18 : Int) < (64 : Int)) ∧ ((0 : Int) ≤ Go.Sx.lw (a (4 : Nat)) ∧ Go.Sx.lw (a (4 : Nat)) < (18446744073709551616 : Int)) ∧ ((0 : Int) ≤ (27 : Int) ∧ (27 : Int) < (64 : Int)) ∧ ((0 : Int) ≤ Go.Sx.lw (a (5 : Nat)) ∧ Go.Sx.lw (a (5 : Nat)) < (18446744073709551616 : Int)) ∧ ((0 : Int) ≤ (36 : Int) ∧ (36 : Int) < (64 : Int)) ∧ ((0 : Int) ≤ Go.Sx.lw (a (11 : Nat)) ∧ Go.Sx.lw (a (11 : Nat)) < (18446744073709551616 : Int)) ∧ ((0 : Int) ≤ (10 : Int) ∧ (10 : Int) < (64 : Int)) ∧ ((0 : Int) ≤ Go.Sx.lw (a (17 : Nat)) ∧ Go.Sx.lw (a (17 : Nat)) < (18446744073709551616 : Int)) ∧ ((0 : Int) ≤ (15 : Int) ∧ (15 : Int) < (64 : Int)) ∧ ((0 : Int) ≤ Go.Sx.lw (a (23 : Nat)) ∧ Go.Sx.lw (a (23 : Nat)) < (18446744073709551616 : Int)) ∧ ((0 : Int) ≤ (56 : Int) ∧ (56 : Int) < (64 : Int)) ∧ ((0 : Int) ≤ Go.Sx.lw (a (2 : Nat)) ∧ Go.Sx.lw (a (2 : Nat)) < (18446744073709551616 : Int)) ∧ ((0 : Int) ≤ (62 : Int) ∧ (62 : Int) < (64 : Int)) ∧ ((0 : Int) ≤ Go.Sx.lw (a (8 : Nat)) ∧ Go.Sx.lw (a (8 : Nat)) < (18446744073709551616 : Int)) ∧ ((0 : Int) ≤ (55 : Int) ∧ (55 : Int) < (64 : Int)) ∧ ((0 : Int) ≤ Go.Sx.lw (a (14 : Nat)) ∧ Go.Sx.lw (a (14 : Nat)) < (18446744073709551616 : Int)) ∧ ((0 : Int) ≤ (39 : Int) ∧ (39 : Int) < (64 : Int)) ∧ ((0 : Int) ≤ Go.Sx.lw (a (15 : Nat)) ∧ Go.Sx.lw (a (15 : Nat)) < (18446744073709551616 : Int)) ∧ ((0 : Int) ≤ (41 : Int) ∧ (41 : Int) < (64 : Int)) ∧ ((0 : Int) ≤ Go.Sx.lw (a (21 : Nat)) ∧ Go.Sx.lw (a (21 : Nat)) < (18446744073709551616 : Int)) ∧ ((0 : Int) ≤ (2 : Int) ∧ (2 : Int) < (64 : Int)) ∧ Go.Sx.rotlG (Go.Sx.lw (a (0 : Nat))) (0 : Int) = Go.Sx.lw (Go.Sx.scatB a (0 : Nat)) ∧ Go.Sx.rotlG (Go.Sx.lw (a (6 : Nat))) (44 : Int) = Go.Sx.lw (Go.Sx.scatB a (1 : Nat)) ∧ Go.Sx.rotlG (Go.Sx.lw (a (12 : Nat))) (43 : Int) = Go.Sx.lw (Go.Sx.scatB a (2 : Nat)) ∧ Go.Sx.rotlG (Go.Sx.lw (a (18 : Nat))) (21 : Int) = Go.Sx.lw (Go.Sx.scatB a (3 : Nat)) ∧ Go.Sx.rotlG (Go.Sx.lw (a (24 : Nat))) (14 : Int) = Go.Sx.lw (Go.Sx.scatB a (4 : Nat)) ∧ Go.Sx.rotlG (Go.Sx.lw (a (3 : Nat))) (28 : Int) = Go.Sx.lw (Go.Sx.scatB a (5 : Nat)) ∧ Go.Sx.rotlG (Go.Sx.lw (a (9 : Nat))) (20 : Int) = Go.Sx.lw (Go.Sx.scatB a (6 : Nat)) ∧ Go.Sx.rotlG (Go.Sx.lw (a (10 : Nat))) (3 : Int) = Go.Sx.lw (Go.Sx.scatB a (7 : Nat)) ∧ Go.Sx.rotlG (Go.Sx.lw (a (16 : Nat))) (45 : Int) = Go.Sx.lw (Go.Sx.scatB a (8 : Nat)) ∧ Go.Sx.rotlG (Go.Sx.lw (a (22 : Nat))) (61 : Int) = Go.Sx.lw (Go.Sx.scatB a (9 : Nat)) ∧ Go.Sx.rotlG (Go.Sx.lw (a (1 : Nat))) (1 : Int) = Go.Sx.lw (Go.Sx.scatB a (10 : Nat)) ∧ Go.Sx.rotlG (Go.Sx.lw (a (7 : Nat))) (6 : Int) = Go.Sx.lw (Go.Sx.scatB a (11 : Nat)) ∧ Go.Sx.rotlG (Go.Sx.lw (a (13 : Nat))) (25 : Int) = Go.Sx.lw (Go.Sx.scatB a (12 : Nat)) ∧ Go.Sx.rotlG (Go.Sx.lw (a (19 : Nat))) (8 : Int) = Go.Sx.lw (Go.Sx.scatB a (13 : Nat)) ∧ Go.Sx.rotlG (Go.Sx.lw (a (20 : Nat))) (18 : Int) = Go.Sx.lw (Go.Sx.scatB a (14 : Nat)) ∧ Go.Sx.rotlG (Go.Sx.lw (a (4 : Nat))) (27 : Int) = Go.Sx.lw (Go.Sx.scatB a (15 : Nat)) ∧ Go.Sx.rotlG (Go.Sx.lw (a (5 : Nat))) (36 : Int) = Go.Sx.lw (Go.Sx.scatB a (16 : Nat)) ∧ Go.Sx.rotlG (Go.Sx.lw (a (11 : Nat))) (10 : Int) = Go.Sx.lw (Go.Sx.scatB a (17 : Nat)) ∧ Go.Sx.rotlG (Go.Sx.lw (a (17 : Nat))) (15 : Int) = Go.Sx.lw (Go.Sx.scatB a (18 : Nat)) ∧ Go.Sx.rotlG (Go.Sx.lw (a (23 : Nat))) (56 : Int) = Go.Sx.lw (Go.Sx.scatB a (19 : Nat)) ∧ Go.Sx.rotlG (Go.Sx.lw (a (2 : Nat))) (62 : Int) = Go.Sx.lw (Go.Sx.scatB a (20 : Nat)) ∧ Go.Sx.rotlG (Go.Sx.lw (a (8 : Nat))) (55 : Int) = Go.Sx.lw (Go.Sx.scatB a (21 : Nat)) ∧ Go.Sx.rotlG (Go.Sx.lw (a (14 : Nat))) (39 : Int) = Go.Sx.lw (Go.Sx.scatB a (22 : Nat)) ∧ Go.Sx.rotlG (Go.Sx.lw (a (15 : Nat))) (41 : Int) = Go.Sx.lw (Go.Sx.scatB a (23 : Nat)) ∧ Go.Sx.rotlG (Go.Sx.lw (a (21 : Nat))) (2 : Int) = Go.Sx.lw (Go.Sx.scatB a (24 : Nat)) ∧ True) := by kernel_rfl
-- END VC
-- VC vc_chi HASH 97ce09641fd5b38c
theorem vc_chi (a : Nat → BitVec 64) :
    Owes Tryd.prog cxRot [] 30 Tryd.f19 [sRow .u64 25 fun i => lw (a i)] (.one (sRow .u64 25 fun i => lw (chiB a i))) =
    (Go.IntKind.u64.wrap (↑(BitVec.ofInt (64 : Nat) (Go.Sx.lw (a (0 : Nat))) ^^^ BitVec.ofInt (64 : Nat) (Go.IntKind.u64.wrap (↑(BitVec.ofInt (64 : Nat) (Go.IntKind.u64.wrap (↑(BitVec.ofInt (64 : Nat) (18446744073709551615 : Int) ^^^ BitVec.ofInt (64 : Nat) (Go.Sx.lw (a (1 : Nat)))).toNat : Int)) &&& BitVec.ofInt (64 : Nat) (Go.Sx.lw (a (2 : Nat)))).toNat : Int))).toNat : Int) = Go.Sx.lw (Go.Sx.chiB a (0 : Nat)) ∧ Go.IntKind.u64.wrap (↑(BitVec.ofInt (64 : Nat) (Go.Sx.lw (a (1 : Nat))) ^^^ BitVec.ofInt (64 : Nat) (Go.IntKind.u64.wrap (↑(BitVec.ofInt (64 : Nat) (Go.IntKind.u64.wrap (↑(BitVec.ofInt (64 : Nat) (18446744073709551615 : Int) ^^^ BitVec.ofInt (64 : Nat) (Go.Sx.lw (a (2 : Nat)))).toNat : Int)) &&& BitVec.ofInt (64 : Nat) (Go.Sx.lw (a (3 : Nat)))).toNat : Int))).toNat : Int) = Go.Sx.lw (Go.Sx.chiB a (1 : Nat)) ∧ Go.IntKind.u64.wrap (↑(BitVec.ofInt (64 : Nat) (Go.Sx.lw (a (2 : Nat))) ^^^ BitVec.ofInt (64 : Nat) (Go.IntKind.u64.wrap (↑(BitVec.ofInt (64 : Nat) (Go.IntKind.u64.wrap (↑(BitVec.ofInt (64 : Nat) (18446744073709551615 : Int) ^^^ BitVec.ofInt (64 : Nat) (Go.Sx.lw (a (3 : Nat)))).toNat : Int)) &&& BitVec.ofInt (64 : Nat) (Go.Sx.lw (a (4 : Nat)))).toNat : Int))).toNat : Int) = Go.Sx.lw (Go.Sx.chiB a (2 : Nat)) ∧ Go.IntKind.u64.wrap (↑(BitVec.ofInt (64 : Nat) (Go.Sx.lw (a (3 : Nat))) ^^^ BitVec.ofInt (64 : Nat) (Go.IntKind.u64.wrap (↑(BitVec.ofInt (64 : Nat) (Go.IntKind.u64.wrap (↑(BitVec.ofInt (64 : Nat) (18446744073709551615 : Int) ^^^ BitVec.ofInt (64 : Nat) (Go.Sx.lw (a (4 : Nat)))).toNat : Int)) &&& BitVec.ofInt (64 : Nat) (Go.Sx.lw (a (0 : Nat)))).toNat : Int))).toNat : Int) = Go.Sx.lw (Go.Sx.chiB a (3 : Nat)) ∧ Go.IntKind.u64.wrap (↑(BitVec.ofInt (64 : Nat) (Go.Sx.lw (a (4 : Nat))) ^^^ BitVec.ofInt (64 : Nat) (Go.IntKind.u64.wrap (↑(BitVec.ofInt (64 : Nat) (Go.IntKind.u64.wrap (↑(BitVec.ofInt (64 : Nat) (18446744073709551615 : Int) ^^^ BitVec.ofInt (64 : Nat) (Go.Sx.lw (a (0 : Nat)))).toNat : Int)) &&& BitVec.ofInt (64 : Nat) (Go.Sx.lw (a (1 : Nat)))).toNat : Int))).toNat : Int) = Go.Sx.lw (Go.Sx.chiB a (4 : Nat)) ∧ Go.IntKind.u64.wrap (↑(BitVec.ofInt (64 : Nat) (Go.Sx.lw (a (5 : Nat))) ^^^ BitVec.ofInt (64 : Nat) (Go.IntKind.u64.wrap (↑(BitVec.ofInt (64 : Nat) (Go.IntKind.u64.wrap (↑(BitVec.ofInt (64 : Nat) (18446744073709551615 : Int) ^^^ BitVec.ofInt (64 : Nat) (Go.Sx.lw (a (6 : Nat)))).toNat : Int)) &&& BitVec.ofInt (64 : Nat) (Go.Sx.lw (a (7 : Nat)))).toNat : Int))).toNat : Int) = Go.Sx.lw (Go.Sx.chiB a (5 : Nat)) ∧ Go.IntKind.u64.wrap (↑(BitVec.ofInt (64 : Nat) (Go.Sx.lw (a (6 : Nat))) ^^^ BitVec.ofInt (64 : Nat) (Go.IntKind.u64.wrap (↑(BitVec.ofInt (64 : Nat) (Go.IntKind.u64.wrap (↑(BitVec.ofInt (64 : Nat) (18446744073709551615 : Int) ^^^ BitVec.ofInt (64 : Nat) (Go.Sx.lw (a (7 : Nat)))).toNat : Int)) &&& BitVec.ofInt (64 : Nat) (Go.Sx.lw (a (8 : Nat)))).toNat : Int))).toNat : Int) = Go.Sx.lw (Go.Sx.chiB a (6 : Nat)) ∧ Go.IntKind.u64.wrap (↑(BitVec.ofInt (64 : Nat) (Go.Sx.lw (a (7 : Nat))) ^^^ BitVec.ofInt (64 : Nat) (Go.IntKind.u64.wrap (↑(BitVec.ofInt (64 : Nat) (Go.IntKind.u64.wrap (↑(BitVec.ofInt (64 : Nat) (18446744073709551615 : Int) ^^^ BitVec.ofInt (64 : Nat) (Go.Sx.lw (a (8 : Nat)))).toNat : Int)) &&& BitVec.ofInt (64 : Nat) (Go.Sx.lw (a (9 : Nat)))).toNat : Int))).toNat : Int) = Go.Sx.lw (Go.Sx.chiB a (7 : Nat)) ∧ Go.IntKind.u64.wrap (↑(BitVec.ofInt (64 : Nat) (Go.Sx.lw (a (8 : Nat))) ^^^ BitVec.ofInt (64 : Nat) (Go.IntKind.u64.wrap (↑(BitVec.ofInt (64 : Nat) (Go.IntKind.u64.wrap (↑(BitVec.ofInt (64 : Nat) (18446744073709551615 : Int) ^^^ BitVec.ofInt (64 : Nat) (Go.Sx.lw (a (9 : Nat)))).toNat : Int)) &&& BitVec.ofInt (64 : Nat) (Go.Sx.lw (a (5 : Nat)))).toNat : Int))).toNat : Int) = Go.Sx.lw (Go.Sx.chiB a (8 : Nat)) ∧ Go.IntKind.u64.wrap (↑(BitVec.ofInt (64 : Nat) (Go.Sx.lw (a (9 : Nat))) ^^^ BitVec.ofInt (64 : Nat) (Go.IntKind.u64.wrap (↑(BitVec.ofInt (64 : Nat) (Go.IntKind.u64.wrap (↑(BitVec.ofInt (64 : Nat) (18446744073709551615 : Int) ^^^ BitVec.ofInt (64 : Nat) (Go.Sx.lw (a (5 : Nat)))).toNat : Int)) &&& BitVec.ofInt (64 : Nat) (Go.Sx.lw (a (6 : Nat)))).toNat : Int))).toNat : Int) = Go.Sx.lw (Go.Sx.chiB a (9 : Nat)) ∧ Go.IntKind.u64.wrap (↑(BitVec.ofInt (64 : Nat) (Go.Sx.lw (a (10 : Nat))) ^^^ BitVec.ofInt (64 : Nat) (Go.IntKind.u64.wrap (↑(BitVec.ofInt (64 : Nat) (Go.IntKind.u64.wrap (↑(BitVec.ofInt (64 : Nat) (18446744073709551615 : Int) ^^^ BitVec.ofInt (64 : Nat) (Go.Sx.lw (a (11 : Nat)))).toNat : Int)) &&& BitVec.ofInt (64 : Nat) (Go.Sx.lw (a (12 : Nat)))).toNat : Int))).toNat : Int) = Go.Sx.lw (Go.Sx.chiB a (10 : Nat)) ∧ Go.IntKind.u64.wrap (↑(BitVec.ofInt (64 : Nat) (Go.Sx.lw (a (11 : Nat))) ^^^ BitVec.ofInt (64 : Nat) (Go.IntKind.u64.wrap (↑(BitVec.ofInt (64 : Nat) (Go.IntKind.u64.wrap (↑(BitVec.ofInt (64 : Nat) (18446744073709551615 : Int) ^^^ BitVec.ofInt (64 : Nat) (Go.Sx.lw (a (12 : Nat)))).toNat : Int)) &&& BitVec.ofInt (64 : Nat) (Go.Sx.lw (a (13 : Nat)))).toNat : Int))).toNat : Int) = Go.Sx.lw (Go.Sx.chiB a (11 : Nat)) ∧ Go.IntKind.u64.wrap (↑(BitVec.ofInt (64 : Nat) (Go.Sx.lw (a (12 : Nat))) ^^^ BitVec.ofInt (64 : Nat) (Go.IntKind.u64.wrap (↑(BitVec.ofInt (64 : Nat) (Go.IntKind.u64.wrap (↑(BitVec.ofInt (64 : Nat) (18446744073709551615 : Int) ^^^ BitVec.ofInt (64 : Nat) (Go.Sx.lw (a (13 : Nat)))).toNat : Int)) &&& BitVec.ofInt (64 : Nat) (Go.Sx.lw (a (14 : Nat)))).toNat : Int))).toNat : Int) = Go.Sx.lw (Go.Sx.chiB a (12 : Nat)) ∧ Go.IntKind.u64.wrap (↑(BitVec.ofInt (64 : Nat) (Go.Sx.lw (a (13 : Nat))) ^^^ BitVec.ofInt (64 : Nat) (Go.IntKind.u64.wrap (↑(BitVec.ofInt (64 : Nat) (Go.IntKind.u64.wrap (↑(BitVec.ofInt (64 : Nat) (18446744073709551615 : Int) ^^^ BitVec.ofInt (64 : Nat) (Go.Sx.lw (a (14 : Nat)))).toNat : Int)) &&& BitVec.ofInt (64 : Nat) (Go.Sx.lw (a (10 : Nat)))).toNat : Int))).toNat : Int) = Go.Sx.lw (Go.Sx.chiB a (13 : Nat)) ∧ Go.IntKind.u64.wrap (↑(BitVec.ofInt (64 : Nat) (Go.Sx.lw (a (14 : Nat))) ^^^ BitVec.ofInt (64 : Nat) (Go.IntKind.u64.wrap (↑(BitVec.ofInt (64 : Nat) (Go.IntKind.u64.wrap (↑(BitVec.ofInt (64 : Nat) (18446744073709551615 : Int) ^^^ BitVec.ofInt (64 : Nat) (Go.Sx.lw (a (10 : Nat)))).toNat : Int)) &&& BitVec.ofInt (64 : Nat) (Go.Sx.lw (a (11 : Nat)))).toNat : Int))).toNat : Int) = Go.Sx.lw (Go.Sx.chiB a (14 : Nat)) ∧ Go.IntKind.u64.wrap (↑(BitVec.ofInt (64 : Nat) (Go.Sx.lw (a (15 : Nat))) ^^^ BitVec.ofInt (64 : Nat) (Go.IntKind.u64.wrap (↑(BitVec.ofInt (64 : Nat) (Go.IntKind.u64.wrap (↑(BitVec.ofInt (64 : Nat) (18446744073709551615 : Int) ^^^ BitVec.ofInt (64 : Nat) (Go.Sx.lw (a (16 : Nat)))).toNat : Int)) &&& BitVec.ofInt (64 : Nat) (Go.Sx.lw (a (17 : Nat)))).toNat : Int))).toNat : Int) = Go.Sx.lw (Go.Sx.chiB a (15 : Nat)) ∧ Go.IntKind.u64.wrap (↑(BitVec.ofInt (64 : Nat) (Go.Sx.lw (a (16 : Nat))) ^^^ BitVec.ofInt (64 : Nat) (Go.IntKind.u64.wrap (↑(BitVec.ofInt (64 : Nat) (Go.IntKind.u64.wrap (↑(BitVec.ofInt (64 : Nat) (18446744073709551615 : Int) ^^^ BitVec.ofInt (64 : Nat) (Go.Sx.lw (a (17 : Nat)))).toNat : Int)) &&& BitVec.ofInt (64 : Nat) (Go.Sx.lw (a (18 : Nat)))).toNat : Int))).toNat : Int) = Go.Sx.lw (Go.Sx.chiB a (16 : Nat)) ∧ Go.IntKind.u64.wrap (↑(BitVec.ofInt (64 : Nat) (Go.Sx.lw (a (17 : Nat))) ^^^ BitVec.ofInt (64 : Nat) (Go.IntKind.u64.wrap (↑(BitVec.ofInt (64 : Nat) (Go.IntKind.u64.wrap (↑(BitVec.ofInt (64 : Nat) (18446744073709551615 : Int) ^^^ BitVec.ofInt (64 : Nat) (Go.Sx.lw (a (18 : Nat)))).toNat : Int)) &&& BitVec.ofInt (64 : Nat) (Go.Sx.lw (a (19 : Nat)))).toNat : Int))).toNat : Int) = Go.Sx.lw (Go.Sx.chiB a (17 : Nat)) ∧ Go.IntKind.u64.wrap (↑(BitVec.ofInt (64 : Nat) (Go.Sx.lw (a (18 : Nat))) ^^^ BitVec.ofInt (64 : Nat) (Go.IntKind.u64.wrap (↑(BitVec.ofInt (64 : Nat) (Go.IntKind.u64.wrap (↑(BitVec.ofInt (64 : Nat) (18446744073709551615 : Int) ^^^ BitVec.ofInt (64 : Nat) (Go.Sx.lw (a (19 : Nat)))).toNat : Int)) &&& BitVec.ofInt (64 : Nat) (Go.Sx.lw (a (15 : Nat)))).toNat : Int))).toNat : Int) = Go.Sx.lw (Go.Sx.chiB a (18 : Nat)) ∧ Go.IntKind.u64.wrap (↑(BitVec.ofInt (64 : Nat) (Go.Sx.lw (a (19 : Nat))) ^^^ BitVec.ofInt (64 : Nat) (Go.IntKind.u64.wrap (↑(BitVec.ofInt (64 : Nat) (Go.IntKind.u64.wrap (↑(BitVec.ofInt (64 : Nat) (18446744073709551615 : Int) ^^^ BitVec.ofInt (64 : Nat) (Go.Sx.lw (a (15 : Nat)))).toNat : Int)) &&& BitVec.ofInt (64 : Nat) (Go.Sx.lw (a (16 : Nat)))).toNat : Int))).toNat : Int) = Go.Sx.lw (Go.Sx.chiB a (19 : Nat)) ∧ Go.IntKind.u64.wrap (↑(BitVec.ofInt (64 : Nat) (Go.Sx.lw (a (20 : Nat))) ^^^ BitVec.ofInt (64 : Nat) (Go.IntKind.u64.wrap (↑(BitVec.ofInt (64 : Nat) (Go.IntKind.u64.wrap (↑(BitVec.ofInt (64 : Nat) (18446744073709551615 : Int) ^^^ BitVec.ofInt (64 : Nat) (Go.Sx.lw (a (21 : Nat)))).toNat : Int)) &&& BitVec.ofInt (64 : Nat) (Go.Sx.lw (a (22 : Nat)))).toNat : Int))).toNat : Int) = Go.Sx.lw (Go.Sx.chiB a (20 : Nat)) ∧ Go.IntKind.u64.wrap (↑(BitVec.ofInt (64 : Nat) (Go.Sx.lw (a (21 : Nat))) ^^^ BitVec.ofInt (64 : Nat) (Go.IntKind.u64.wrap (↑(BitVec.ofInt (64 : Nat) (Go.IntKind.u64.wrap (↑(BitVec.ofInt (64 : Nat) (18446744073709551615 : Int) ^^^ BitVec.ofInt (64 : Nat) (Go.Sx.lw (a (22 : Nat)))).toNat : Int)) &&& BitVec.ofInt (64 : Nat) (Go.Sx.lw (a (23 : Nat)))).toNat : Int))).toNat : Int) = Go.Sx.lw (Go.Sx.chiB a (21 : Nat)) ∧ Go.IntKind.u64.wrap (↑(BitVec.ofInt (64 : Nat) (Go.Sx.lw (a (22 : Nat))) ^^^ BitVec.ofInt (64 : Nat) (Go.IntKind.u64.wrap (↑(BitVec.ofInt (64 : Nat) (Go.IntKind.u64.wrap (↑(BitVec.ofInt (64 : Nat) (18446744073709551615 : Int) ^^^ BitVec.ofInt (64 : Nat) (Go.Sx.lw (a (23 : Nat)))).toNat : Int)) &&& BitVec.ofInt (64 : Nat) (Go.Sx.lw (a (24 : Nat)))).toNat : Int))).toNat : Int) = Go.Sx.lw (Go.Sx.chiB a (22 : Nat)) ∧ Go.IntKind.u64.wrap (↑(BitVec.ofInt (64 : Nat) (Go.Sx.lw (a (23 : Nat))) ^^^ BitVec.ofInt (64 : Nat) (Go.IntKind.u64.wrap (↑(BitVec.ofInt (64 : Nat) (Go.IntKind.u64.wrap (↑(BitVec.ofInt (64 : Nat) (18446744073709551615 : Int) ^^^ BitVec.ofInt (64 : Nat) (Go.Sx.lw (a (24 : Nat)))).toNat : Int)) &&& BitVec.ofInt (64 : Nat) (Go.Sx.lw (a (20 : Nat)))).toNat : Int))).toNat : Int) = Go.Sx.lw (Go.Sx.chiB a (23 : Nat)) ∧ Go.IntKind.u64.wrap (↑(BitVec.ofInt (64 : Nat) (Go.Sx.lw (a (24 : Nat))) ^^^ BitVec.ofInt (64 : Nat) (Go.IntKind.u64.wrap (↑(BitVec.ofInt (64 : Nat) (Go.IntKind.u64.wrap (↑(BitVec.ofInt (64 : Nat) (18446744073709551615 : Int) ^^^ BitVec.ofInt (64 : Nat) (Go.Sx.lw (a (20 : Nat)))).toNat : Int)) &&& BitVec.ofInt (64 : Nat) (Go.Sx.lw (a (21 : Nat)))).toNat : Int))).toNat : Int) = Go.Sx.lw (Go.Sx.chiB a (24 : Nat)) ∧ True) := by kernel_rfl
-- END VC
end Go.Proofs.YtfoklomipdkomaaDoor
end

section
/-
  Package keccak: what its functions come to: rotation, theta, scatter, chi.
-/
namespace Go.Proofs.YtfoklomipdkomaaDoor
open Go Go.Sx Go.RowKit

theorem rotl_expr (v : BitVec 64) (k : Int) : rotlG (lw v) k = lw (v.rotateLeft k.toNat) := by
  unfold rotlG; rw [ofInt_lw]
theorem and63 {k : Int} (h : 0 ≤ k ∧ k < 64) : IntKind.u64.wrap (((BitVec.ofInt 64 (IntKind.u64.wrap k) &&& BitVec.ofInt 64 63).toNat : Nat) : Int) = k := by
  obtain ⟨n, rfl⟩ := Int.eq_ofNat_of_zero_le h.1
  have hn : n < 64 := by omega
  have e1 : IntKind.u64.wrap (n : Int) = ((n : Nat) : Int) := by rw [wrap_cast]; omega
  rw [e1]
  have e2 : (BitVec.ofInt 64 ((n : Nat) : Int) &&& BitVec.ofInt 64 63).toNat = n := by
    rw [BitVec.toNat_and, toNat_ofNat_cast, show (BitVec.ofInt 64 63).toNat = 2 ^ 6 - 1 by decide, Nat.and_two_pow_sub_one_eq_mod]
    omega
  rw [e2, e1]
theorem ok_rotl (v : BitVec 64) (k : Int) (h : 0 ≤ k ∧ k < 64) : Owes Tryd.prog Cx.none [] 10 Tryd.f22 [sI .u64 (lw v), sI .i64 k] (.one (sI .u64 (rotlG (lw v) k))) := by
  rw [vc_rotl]
  intro x1 x2
  have e1 : x1 = k := and63 h
  have e2 : x2 = 64 - k := by
    show IntKind.u64.wrap (64 - x1) = _
    rw [e1]
    obtain ⟨n, hn⟩ := Int.eq_ofNat_of_zero_le (show 0 ≤ 64 - k by omega)
    rw [hn, wrap_cast]
    omega
  rw [e1, e2]
  refine ⟨h.1, by omega, ?_⟩
  rw [rotl_expr v k, wrap_nat]
  have h1 : Min.min k.toNat 64 = k.toNat := by omega
  have h2 : Min.min (64 - k).toNat 64 = 64 - k.toNat := by omega
  rw [h1, h2, rot_eq v k.toNat (by omega)]
theorem card_rotl (gl : Globs) : FnOKg Tryd.prog gl 22 specRotl := by
  refine FnOKg.up ?_ gl
  refine FnOK_owesG (cx := Cx.none) (fun p hp => by cases hp) Tryd.func22 (by kernel_rfl) (by kernel_rfl) fun args ps sv hs hp => ?_
  unfold specRotl at hs
  split at hs
  · rename_i x y
    split at hs
    · rename_i x' k' hx hk
      simp only [Option.some.injEq, Prod.mk.injEq] at hs
      obtain ⟨rfl, rfl⟩ := hs
      obtain ⟨h1, h2, _⟩ := hp
      refine ⟨[], 10, [sI .u64 (lw (BitVec.ofInt 64 x')), sI .i64 k'], fun ρ => ?_, fun fz _ z hz => ?_, trivial, ?_⟩
      · rw [lw_of h1]
        simp only [List.map_cons, List.map_nil, asI_sound hx ρ, asI_sound hk ρ]
        rfl
      · simp only [List.mem_cons, List.not_mem_nil, or_false] at hz
        rcases hz with rfl | rfl <;> trivial
      · have := ok_rotl (BitVec.ofInt 64 x') k' h2
        rw [lw_of h1] at this ⊢
        exact this
    · cases hs
  · cases hs
theorem cxok_Rot : CxOK Tryd.prog cxRot := by
  intro p hp
  simp only [cxRot, List.mem_singleton] at hp
  subst hp
  exact card_rotl _
theorem lane_lw (v : BitVec 64) : 0 ≤ lw v ∧ lw v < 18446744073709551616 := ⟨lw_nonneg v, lw_lt v⟩
theorem not_lane (v : BitVec 64) : BitVec.ofInt 64 18446744073709551615 ^^^ v = ~~~ v := by
  rw [show BitVec.ofInt 64 18446744073709551615 = BitVec.allOnes 64 by decide, BitVec.allOnes_xor]
theorem ok_theta (a : Nat → BitVec 64) : Owes Tryd.prog cxRot [] 30 Tryd.f21 [sRow .u64 25 fun i => lw (a i)] (.one (sRow .u64 25 fun i => lw (thetaB a i))) := by
  rw [vc_theta]
  simp only [wrap_nat, ofInt_lw, rotlG, thetaB, colB, Nat.reduceAdd, Nat.reduceMod, Int.reduceToNat, lane_lw, and_self, true_and]
  simp
theorem ok_scat (a : Nat → BitVec 64) : Owes Tryd.prog cxRot [] 30 Tryd.f20 [sRow .u64 25 fun i => lw (a i)] (.one (sRow .u64 25 fun i => lw (scatB a i))) := by
  rw [vc_scat]
  simp only [ofInt_lw, rotlG, scatB, lane_lw, and_self, true_and]
  simp [srcN, offN]
theorem ok_chi (a : Nat → BitVec 64) : Owes Tryd.prog cxRot [] 30 Tryd.f19 [sRow .u64 25 fun i => lw (a i)] (.one (sRow .u64 25 fun i => lw (chiB a i))) := by
  rw [vc_chi]
  simp only [wrap_nat, ofInt_lw, not_lane, chiB, Nat.reduceAdd, Nat.reduceMod, Nat.reduceDiv, Nat.reduceMul, and_self]
theorem card_theta : FnOKg Tryd.prog glK 21 (specLanes 25 25 thetaB) := FnOK_lanes cxok_Rot Tryd.func21 (by kernel_rfl) (by kernel_rfl) ok_theta
theorem card_scat : FnOKg Tryd.prog glK 20 (specLanes 25 25 scatB) := FnOK_lanes cxok_Rot Tryd.func20 (by kernel_rfl) (by kernel_rfl) ok_scat
theorem card_chi : FnOKg Tryd.prog glK 19 (specLanes 25 25 chiB) := FnOK_lanes cxok_Rot Tryd.func19 (by kernel_rfl) (by kernel_rfl) ok_chi
end Go.Proofs.YtfoklomipdkomaaDoor
end

section
/-
  What the functions of package wide come to, as numbers (the cards that their proofs hold them to).
-/
namespace Go.Sx
open Go.RowKit

theorem asI_canon {x : SA} {k : IntKind} {n : Int} (h : asI x = some (k, n)) (ρ : Rho) : x.conc ρ = (sI k n).conc ρ := asI_sound h ρ

def i64ok (n : Int) : Prop := -9223372036854775808 ≤ n ∧ n ≤ 9223372036854775807
/-! ## Slots at a loop's head -/
def lookS : List (Nat × SV) → Nat → SV
  | [], _ => .any
  | (k, v) :: r, t => match Nat.beq k t with
    | true => v
    | false => lookS r t
/-- So many slots, of which some are told. -/
def slotsAt (n : Nat) (l : List (Nat × SV)) : List SV := (List.range n).map (lookS l)
/-- A whole number of 64 bits with a sign. -/
def specI (c : Int → List Prop) (g : Int → SV) : FSpec := fun args =>
  match args with
  | [x] => match asI x with
    | some (.i64, a) => some (c a, g a)
    | _ => none
  | _ => none
theorem FnOK_I {P : Program} {cx : Cx} (hcx : CxOK P cx) {iv : Int → List (Nat × Hint)} {N : Nat} {f : Nat} {fn : Func} (hf : P.funcs[f]? = some fn) (hb : fn.body.isSome = true) (hn : (fn.name == "runtime.NumGoroutine") = false) {c : Int → List Prop} {g : Int → SV} (hg : ∀ a, (g a).bnd none0)
    (h : ∀ a, Ok (c a) → Owes P cx (iv a) N fn [sI .i64 a] (g a)) : FnOKg P cx.gl f (specI c g) := by
  refine FnOK_of hf hb hn fun args ps sv hs hp => ?_
  unfold specI at hs
  split at hs
  · rename_i x
    split at hs
    · rename_i a ha
      simp only [Option.some.injEq, Prod.mk.injEq] at hs
      obtain ⟨rfl, rfl⟩ := hs
      refine ⟨hg a, fun ρ w hzz hgg _ => ?_⟩
      rw [show [x].map (SA.conc ρ) = [sI .i64 a].map (SA.conc ρ) by simp only [List.map_cons, List.map_nil, asI_canon ha ρ]]
      refine (calls_of_owes0 hcx hf hb (args := [sI .i64 a]) (by intro z hz; simp only [List.mem_singleton] at hz; subst hz; trivial) (h a hp) ρ w hzz hgg).mono ?_
      rintro e w' ⟨v, rfl, ⟨ρ', hr⟩, hbl⟩
      exact ⟨v, rfl, rep_none0 (hg a) hr, hbl⟩
    · cases hs
  · cases hs

/-! ## Rows of bytes -/
/-! ## Package wide -/

def yes : SV := .one (sB true)
end Go.Sx
end

section
/-
  Sponges: cards for what takes one, and bytes in a slice of any length.
-/
namespace Go.Sx
open Go.RowKit

/-- A sponge: its lanes, its held bytes, how many these are. -/
abbrev sSp (L H : Nat → Int) (N : Int) : SA := .agg [.f .u64 25 L, .f .u8 136 H, .c (.val (.int .i64 N))]
def asSp : SA → Option ((Nat → Int) × (Nat → Int) × Int)
  | .agg ks => match sub ks 0 25, sub ks 25 136, sub ks 161 1 with
    | some l, some h, some [.c c] => match asI (.sc c) with
      | some (.i64, n) => if kindAll .u64 l = true ∧ kindAll .u8 h = true ∧ (flat ks).length = 162 then some (selG l, selG h, n) else none
      | _ => none
    | _, _, _ => none
  | _ => none
theorem row_of {ks : List SK} {k : IntKind} {n : Nat} (hk : kindAll k ks = true) (hl : (flat ks).length = n) (ρ : Rho) : concs ρ ks = concs ρ [.f k n (selG ks)] := by
  rw [concs_f]
  apply List.ext_getElem?
  intro j
  rcases Nat.lt_or_ge j n with hj | hj
  · rw [selG_conc hk ρ (by omega), List.getElem?_map, List.getElem?_range hj]; rfl
  · rw [List.getElem?_eq_none (by simp only [concs, List.length_map]; omega), List.getElem?_eq_none (by simpa using hj)]
theorem asSp_canon {x : SA} {L H : Nat → Int} {N : Int} (h : asSp x = some (L, H, N)) (ρ : Rho) : x.conc ρ = (sSp L H N).conc ρ := by
  unfold asSp at h
  split at h
  · rename_i ks
    split at h
    · rename_i l hh c e1 e2 e3
      split at h
      · rename_i n hn
        split at h
        · rename_i hc
          obtain ⟨c1, c2, c3⟩ := hc
          simp only [Option.some.injEq, Prod.mk.injEq] at h
          obtain ⟨rfl, rfl, rfl⟩ := h
          obtain ⟨l1, l2⟩ := concs_sub e1 ρ
          obtain ⟨l3, l4⟩ := concs_sub e2 ρ
          obtain ⟨l5, l6⟩ := concs_sub e3 ρ
          have hlen : (concs ρ ks).length = 162 := by simp [concs, c3]
          have f1 : (flat l).length = 25 := by have := congrArg List.length l2; simp only [concs, List.length_map, List.length_take, List.length_drop] at this; omega
          have f2 : (flat hh).length = 136 := by have := congrArg List.length l4; simp only [concs, List.length_map, List.length_take, List.length_drop] at this; omega
          have hcn : concs ρ [.c c] = [.int .i64 n] := by
            have := asI_sound hn ρ
            simp only [SA.conc] at this
            simp [concs, flat, SK.cells, this]
          simp only [SA.conc]
          congr 1
          congr 1
          rw [concs_cons, concs_cons ρ (.f .u8 136 _), ← row_of c1 f1 ρ, ← row_of c2 f2 ρ]
          have e0 : concs ρ [.c (.val (.int .i64 n))] = concs ρ [.c c] := by rw [hcn]; rfl
          rw [e0, l2, l4, l6]
          have t1 : ((concs ρ ks).drop 161).take 1 = (concs ρ ks).drop 161 := List.take_of_length_le (by simp; omega)
          have t2 : ((concs ρ ks).drop 25).take 136 ++ (concs ρ ks).drop 161 = (concs ρ ks).drop 25 := by
            have := List.take_append_drop 136 ((concs ρ ks).drop 25)
            rw [List.drop_drop] at this
            exact this
          rw [t1, t2, List.drop_zero, List.take_append_drop]
        · cases h
      · cases h
    · cases h
  · cases h
/-- Of a sponge. -/
def specSp (c : (Nat → Int) → (Nat → Int) → Int → List Prop) (g : (Nat → Int) → (Nat → Int) → Int → SV) : FSpec := fun args =>
  match args with
  | [x] => match asSp x with
    | some (L, H, N) => some (c L H N, g L H N)
    | none => none
  | _ => none
theorem bnd_sSp (L H : Nat → Int) (N : Int) (n : Env) : (sSp L H N).bnd n := by
  intro k hk
  simp only [List.mem_cons, List.not_mem_nil, or_false] at hk
  rcases hk with rfl | rfl | rfl <;> trivial
theorem FnOK_Sp {P : Program} {cx : Cx} (hcx : CxOK P cx) {c : (Nat → Int) → (Nat → Int) → Int → List Prop} {g : (Nat → Int) → (Nat → Int) → Int → SV} {iv : (Nat → Int) → (Nat → Int) → Int → List (Nat × Hint)} {N : Nat} {f : Nat} {fn : Func} (hf : P.funcs[f]? = some fn) (hb : fn.body.isSome = true) (hn : (fn.name == "runtime.NumGoroutine") = false) (hg : ∀ L H N, (g L H N).bnd none0)
    (h : ∀ L H M, Ok (c L H M) → Owes P cx (iv L H M) N fn [sSp L H M] (g L H M)) : FnOKg P cx.gl f (specSp c g) := by
  refine FnOK_owesG hcx hf hb hn fun args ps sv hs hp => ?_
  unfold specSp at hs
  split at hs
  · rename_i x
    split at hs
    · rename_i L H M hx
      simp only [Option.some.injEq, Prod.mk.injEq] at hs
      obtain ⟨rfl, rfl⟩ := hs
      exact ⟨iv L H M, N, [sSp L H M], fun ρ => by rw [List.map_singleton, List.map_singleton, asSp_canon hx ρ], fun fz _ z hz => by simp only [List.mem_singleton] at hz; subst hz; exact bnd_sSp _ _ _ _, hg L H M, h L H M hp⟩
    · cases hs
  · cases hs
/-- Bytes in a slice of any length, that nobody turns. -/
abbrev sXs (a : Option Addr) (n cap : Nat) (f : Nat → Int) : SA := .sc (.xs a n cap 1 fun i _ => .val (.int .u8 (f i)))
def asBs : SA → Option (List Prop × Option Addr × Nat × Nat × (Nat → Int))
  | .sc (.xs a n cap w g) => if w = 1 then some ([∀ j, isKind .u8 (g j 0)], a, n, cap, fun j => intsC (g j 0)) else none
  | .sc (.val (.slice none 0 0)) => some ([], none, 0, 0, fun _ => 0)
  | _ => none
theorem asBs_canon {x : SA} {ps : List Prop} {a : Option Addr} {n cap : Nat} {f : Nat → Int} (h : asBs x = some (ps, a, n, cap, f)) (hp : Ok ps) : (∀ ρ, x.conc ρ = (sXs a n cap f).conc ρ) ∧ ∀ fz, x.bnd ⟨fun _ => True, fz⟩ → (sXs a n cap f).bnd ⟨fun _ => False, fz⟩ := by
  unfold asBs at h
  split at h
  · rename_i a' n' cap' w g
    split at h
    · rename_i hw
      subst hw
      simp only [Option.some.injEq, Prod.mk.injEq] at h
      obtain ⟨rfl, rfl, rfl, rfl, rfl⟩ := h
      obtain ⟨hk, _⟩ := hp
      refine ⟨fun ρ => rfl, fun fz hb => ?_⟩
      obtain ⟨k1, k2, k3⟩ := hb
      refine ⟨k1, k2, fun b hb => ⟨(k3 b hb).1, fun i hi c hc => ⟨trivial, rfl, ?_⟩⟩⟩
      have hc0 : c = 0 := by omega
      subst hc0
      have := ((k3 b hb).2 i hi 0 hc).2.2
      rw [isKind_sound (hk i) Rho.nil] at this
      exact this
    · cases h
  · simp only [Option.some.injEq, Prod.mk.injEq] at h
    obtain ⟨rfl, rfl, rfl, rfl, rfl⟩ := h
    exact ⟨fun ρ => rfl, fun fz _ => ⟨fun _ => ⟨rfl, rfl⟩, Nat.le_refl _, fun b hb => by cases hb⟩⟩
  · cases h
/-- Of a sponge and bytes. -/
def specSpB (c : (Nat → Int) → (Nat → Int) → Int → Nat → (Nat → Int) → List Prop) (g : (Nat → Int) → (Nat → Int) → Int → Nat → (Nat → Int) → SV) : FSpec := fun args =>
  match args with
  | [x, y] => match asSp x, asBs y with
    | some (L, H, N), some (ps, _, n, _, f) => some (ps ++ c L H N n f, g L H N n f)
    | _, _ => none
  | _ => none
theorem FnOK_SpB {P : Program} {cx : Cx} (hcx : CxOK P cx) {c : (Nat → Int) → (Nat → Int) → Int → Nat → (Nat → Int) → List Prop} {g : (Nat → Int) → (Nat → Int) → Int → Nat → (Nat → Int) → SV} {iv : (Nat → Int) → (Nat → Int) → Int → Option Addr → Nat → Nat → (Nat → Int) → List (Nat × Hint)} {N : Nat} {f : Nat} {fn : Func} (hf : P.funcs[f]? = some fn) (hb : fn.body.isSome = true) (hn : (fn.name == "runtime.NumGoroutine") = false) (hg : ∀ L H N n f, (g L H N n f).bnd none0)
    (h : ∀ L H M a n cap b, Ok (c L H M n b) → Owes P cx (iv L H M a n cap b) N fn [sSp L H M, sXs a n cap b] (g L H M n b)) : FnOKg P cx.gl f (specSpB c g) := by
  refine FnOK_owesG hcx hf hb hn fun args ps sv hs hp => ?_
  unfold specSpB at hs
  split at hs
  · rename_i x y
    split at hs
    · rename_i L H M ps' a n cap b hx hy
      simp only [Option.some.injEq, Prod.mk.injEq] at hs
      obtain ⟨rfl, rfl⟩ := hs
      obtain ⟨o1, o2⟩ := Ok.append.1 hp
      obtain ⟨k1, k2⟩ := asBs_canon hy o1
      refine ⟨iv L H M a n cap b, N, [sSp L H M, sXs a n cap b], fun ρ => by simp only [List.map_cons, List.map_nil, asSp_canon hx ρ, k1 ρ], fun fz ha z hz => ?_, hg L H M n b, h L H M a n cap b o2⟩
      simp only [List.mem_cons, List.not_mem_nil, or_false] at hz
      rcases hz with rfl | rfl
      · exact bnd_sSp _ _ _ _
      · exact k2 fz (ha y (by simp))
    · cases hs
  · cases hs
/-- Of bytes. -/
def specBs (c : Nat → (Nat → Int) → List Prop) (g : Nat → (Nat → Int) → SV) : FSpec := fun args =>
  match args with
  | [y] => match asBs y with
    | some (ps, _, n, _, f) => some (ps ++ c n f, g n f)
    | _ => none
  | _ => none
theorem FnOK_Bs {P : Program} {cx : Cx} (hcx : CxOK P cx) {c : Nat → (Nat → Int) → List Prop} {g : Nat → (Nat → Int) → SV} {iv : Option Addr → Nat → Nat → (Nat → Int) → List (Nat × Hint)} {N : Nat} {f : Nat} {fn : Func} (hf : P.funcs[f]? = some fn) (hb : fn.body.isSome = true) (hn : (fn.name == "runtime.NumGoroutine") = false) (hg : ∀ n f, (g n f).bnd none0)
    (h : ∀ a n cap b, Ok (c n b) → Owes P cx (iv a n cap b) N fn [sXs a n cap b] (g n b)) : FnOKg P cx.gl f (specBs c g) := by
  refine FnOK_owesG hcx hf hb hn fun args ps sv hs hp => ?_
  unfold specBs at hs
  split at hs
  · rename_i y
    split at hs
    · rename_i ps' a n cap b hy
      simp only [Option.some.injEq, Prod.mk.injEq] at hs
      obtain ⟨rfl, rfl⟩ := hs
      obtain ⟨o1, o2⟩ := Ok.append.1 hp
      obtain ⟨k1, k2⟩ := asBs_canon hy o1
      refine ⟨iv a n cap b, N, [sXs a n cap b], fun ρ => by simp only [List.map_cons, List.map_nil, k1 ρ], fun fz ha z hz => ?_, hg n b, h a n cap b o2⟩
      simp only [List.mem_singleton] at hz
      subst hz
      exact k2 fz (ha y (by simp))
    · cases hs
  · cases hs

/-- A card that says less. -/
theorem FnOKg_weak {P : Program} {gl : Globs} {f : Nat} {s s' : FSpec} (h : FnOKg P gl f s) (hs : ∀ args ps sv', s' args = some (ps, sv') → Ok ps → sv'.bnd none0 ∧ ∃ ps0 sv, s args = some (ps0, sv) ∧ Ok ps0 ∧ ∀ ρ v, sv.rep ρ v → sv'.rep ρ v) : FnOKg P gl f s' := by
  intro args ps sv' h' hp
  obtain ⟨hb, ps0, sv, h0, hp0, hr⟩ := hs args ps sv' h' hp
  refine ⟨hb, fun ρ w hz hg ha => ?_⟩
  rcases (h args ps0 sv h0 hp0).2 ρ w hz hg ha with ⟨r, hc⟩ | ⟨v, r, hv⟩
  · refine .inl ⟨r, hc.mono ?_⟩
    rintro e w' ⟨v, rfl, hv, hbl⟩
    exact ⟨v, rfl, hr ρ v hv, hbl⟩
  · exact .inr ⟨v, r, hr ρ v hv⟩

/-! ## What is soaked -/
def shB (x : Int) (k : Nat) : BitVec 64 := BitVec.ofInt 64 (IntKind.u64.wrap (IntKind.u64.wrap x * 2 ^ k))
def absB (a : Nat → BitVec 64) (H : Nat → Int) : Nat → Nat → BitVec 64
  | 0 => a
  | i + 1 => fun j => if j = i / 8 then absB a H i j ^^^ shB (H i) (i % 8 * 8) else absB a H i j
def soakB (a : Nat → BitVec 64) (H : Nat → Int) : Nat → BitVec 64 := turnB (absB a H 136)
def firstG (L : Nat → Int) (i : Nat) : Int := IntKind.u8.wrap ((L (i / 8)).fdiv (2 ^ (i % 8 * 8)))
structure Sp where
  a : Nat → BitVec 64
  H : Nat → Int
  n : Nat
/-- One byte more. -/
def pushB (s : Sp) (b : Int) : Sp :=
  if s.n + 1 = 136 then ⟨soakB s.a (fun j => if j = s.n then b else s.H j), fun _ => 0, 0⟩ else ⟨s.a, fun j => if j = s.n then b else s.H j, s.n + 1⟩
def addB (s : Sp) (f : Nat → Int) : Nat → Sp
  | 0 => s
  | p + 1 => pushB (addB s f p) (f p)
/-- What ends the bytes. -/
def pad1 (H : Nat → Int) (n : Nat) (j : Nat) : Int := if j = n then IntKind.u8.wrap (H j + 1) else H j
def padB (H : Nat → Int) (n : Nat) (j : Nat) : Int := if j = 135 then IntKind.u8.wrap (pad1 H n 135 + 128) else pad1 H n j
def endB (s : Sp) (j : Nat) : Int := firstG (fun i => lw (soakB s.a (padB s.H s.n) i)) j
def specRow (k k' : IntKind) (n m : Nat) (c : (Nat → Int) → List Prop) (F : (Nat → Int) → Nat → Int) : FSpec := fun args =>
  match args with
  | [x] => match asRow k n x with
    | some g => some (c g, .one (sRow k' m (F g)))
    | none => none
  | _ => none
theorem FnOK_row {P : Program} {cx : Cx} (hcx : CxOK P cx) {k k' : IntKind} {n m : Nat} {c : (Nat → Int) → List Prop} {F : (Nat → Int) → Nat → Int} {iv : (Nat → Int) → List (Nat × Hint)} {N : Nat} {f : Nat} {fn : Func} (hf : P.funcs[f]? = some fn) (hb : fn.body.isSome = true) (hn : (fn.name == "runtime.NumGoroutine") = false)
    (h : ∀ g, Ok (c g) → Owes P cx (iv g) N fn [sRow k n g] (.one (sRow k' m (F g)))) : FnOKg P cx.gl f (specRow k k' n m c F) := by
  refine FnOK_owesG hcx hf hb hn fun args ps sv hs hp => ?_
  unfold specRow at hs
  split at hs
  · rename_i x
    split at hs
    · rename_i g hg
      simp only [Option.some.injEq, Prod.mk.injEq] at hs
      obtain ⟨rfl, rfl⟩ := hs
      refine ⟨iv g, N, [sRow k n g], fun ρ => by rw [List.map_singleton, List.map_singleton, asRow_canon hg ρ], fun fz _ z hz => ?_, ?_, h g hp⟩
      · simp only [List.mem_singleton] at hz; subst hz; intro k hk; simp only [List.mem_singleton] at hk; subst hk; trivial
      · intro k hk; simp only [List.mem_singleton] at hk; subst hk; trivial
    · cases hs
  · cases hs
end Go.Sx
end

section
/-
  Duties of package keccak: what each function comes to, part 2.
-/
namespace Go.Proofs.YtfoklomipdkomaaDoor
open Go Go.Sx Go.RowKit
def cxKTurn : Cx := ⟨[(21, specLanes 25 25 thetaB), (20, specLanes 25 25 scatB), (19, specLanes 25 25 chiB)], glK, 0⟩
def kRow25 (a : Nat → BitVec 64) : List SK := [.f .u64 25 fun i => lw (a i)]
def rcSK : List SK := [.c (.num .u64 1), .c (.num .u64 32898), .c (.num .u64 9223372036854808714), .c (.num .u64 9223372039002292224), .c (.num .u64 32907), .c (.num .u64 2147483649), .c (.num .u64 9223372039002292353), .c (.num .u64 9223372036854808585), .c (.num .u64 138), .c (.num .u64 136), .c (.num .u64 2147516425), .c (.num .u64 2147483658), .c (.num .u64 2147516555), .c (.num .u64 9223372036854775947), .c (.num .u64 9223372036854808713), .c (.num .u64 9223372036854808579), .c (.num .u64 9223372036854808578), .c (.num .u64 9223372036854775936), .c (.num .u64 32778), .c (.num .u64 9223372039002259466), .c (.num .u64 9223372039002292353), .c (.num .u64 9223372036854808704), .c (.num .u64 2147483649), .c (.num .u64 9223372039002292232)]
def invTurn (a : Nat → BitVec 64) : Inv where
  X := Nat
  tm r := slotsAt 20 [(1, .one (.sc (.ptr 0 0))), (2, .one (.sc (.ptr 1 0))), (5, .one (.agg rcSK)), (6, .one (sI .i64 (r : Int)))]
  ob r := [.cells 23 (kRow25 (roundsB r a)) 0, .cells 23 (List.replicate 25 (.c (.num .u64 0))) 0]
  holds r := r ≤ 24
  less r := 24 - r
def mayG (H : Nat → Int) (N : Int) : Bool := decide (0 ≤ N ∧ N < 136) && (List.range (136 - N.toNat)).all fun j => H (N.toNat + j) == 0
def invMay (L H : Nat → Int) (N : Int) : Inv where
  X := Nat
  tm i := slotsAt 25 [(1, .one (.sc (.ptr 0 0))), (16, .one (.sc (.sls 0 25 N.toNat 136 (136 - N.toNat)))), (17, .one (sI .i64 ((136 - N.toNat : Nat) : Int))), (18, .one (sI .i64 (i : Int)))]
  ob _ := [.cells 26 [.f .u64 25 L, .f .u8 136 H, .c (.val (.int .i64 N))] 0]
  holds i := 0 ≤ N ∧ N < 136 ∧ i ≤ 136 - N.toNat ∧ ∀ j, j < i → H (N.toNat + j) = 0
  less i := 136 - i
def invSoak (a : Nat → BitVec 64) (H : Nat → Int) (N : Int) : Inv where
  X := Nat
  tm i := slotsAt 30 [(1, .one (.sc (.ptr 0 0))), (2, .one (.sc (.ptr 1 0))), (6, .one (.agg [.f .u8 136 H])), (7, .one (sI .i64 (i : Int)))]
  ob i := [.cells 26 [.f .u64 25 (fun j => lw (absB a H i j)), .f .u8 136 H, .c (.val (.int .i64 N))] 0, .cells 26 (List.replicate 25 (.c (.num .u64 0)) ++ List.replicate 136 (.c (.num .u8 0)) ++ [.c (.num .i64 0)]) 0]
  holds i := i ≤ 136
  less i := 136 - i
def zeroSp : List SK := [.f .u8 136 (fun _ => 0), .c (.num .i64 0)]
def invFirst (L : Nat → Int) : Inv where
  X := Nat
  tm i := slotsAt 21 [(1, .one (.sc (.ptr 0 0))), (2, .one (.sc (.ptr 1 0))), (3, .one (.sc (.ptr 2 0))), (5, .one (sI .i64 (i : Int)))]
  ob i := [.cells 23 [.f .u64 25 L] 0, .cells 33 (List.replicate 32 (.c (.num .u8 0))) 0, .cells 33 [.f .u8 32 (fun j => if j < i then firstG L j else 0)] 0]
  holds i := i ≤ 32
  less i := 32 - i
-- VC vc_Turn HASH 3d7d6344f39c43da
theorem vc_Turn (a : Nat → BitVec 64) :
    Owes Tryd.prog cxKTurn [(2, .inv (invTurn a))] 30 Tryd.f16 [sRow .u64 25 fun i => lw (a i)] (.one (sRow .u64 25 fun i => lw (turnB a i))) =
    ((∀ (y : Nat), Go.Sx.closedB (Go.Sx.slotsAt (20 : Nat) [((1 : Nat), Go.Sx.SV.one (Go.Sx.SA.sc (Go.Sx.SC.ptr (0 : Nat) (0 : Nat)))), ((2 : Nat), Go.Sx.SV.one (Go.Sx.SA.sc (Go.Sx.SC.ptr (1 : Nat) (0 : Nat)))), ((5 : Nat), Go.Sx.SV.one (Go.Sx.SA.agg rcSK)), ((6 : Nat), Go.Sx.SV.one (Go.Sx.sI Go.IntKind.i64 (↑y : Int)))]) [Go.Sx.SO.cells (23 : Go.TypeId) (kRow25 (Go.Sx.roundsB y a)) (0 : Nat), Go.Sx.SO.cells (23 : Go.TypeId) (List.replicate (25 : Nat) (Go.Sx.SK.c (Go.Sx.SC.num Go.IntKind.u64 (0 : Int)))) (0 : Nat)] = Bool.true) ∧ ∃ (y : Nat), y ≤ (24 : Nat) ∧ (0 : Int) = (↑y : Int) ∧ ((∀ (j : Nat), j < (25 : Nat) → Go.Sx.lw (a j) = Go.Sx.lw (Go.Sx.roundsB y a j)) ∧ True) ∧ (0 : Nat) = (0 : Nat) ∧ (0 : Nat) = (0 : Nat) ∧ ∀ (y : Nat), y ≤ (24 : Nat) → (Decidable.decide ((↑y : Int) < (24 : Int)) = Bool.true → ((0 : Int) ≤ (↑y : Int) ∧ (↑y : Int) < (24 : Int)) ∧ (∀ (i : Nat), i < (25 : Nat) → (0 : Int) ≤ Go.Sx.lw (Go.Sx.roundsB y a i) ∧ Go.Sx.lw (Go.Sx.roundsB y a i) < (18446744073709551616 : Int)) ∧ (∀ (i : Nat), i < (25 : Nat) → (0 : Int) ≤ Go.Sx.lw (Go.Sx.thetaB (Go.Sx.ofRow fun (i : Nat) => Go.Sx.lw (Go.Sx.roundsB y a i)) i) ∧ Go.Sx.lw (Go.Sx.thetaB (Go.Sx.ofRow fun (i : Nat) => Go.Sx.lw (Go.Sx.roundsB y a i)) i) < (18446744073709551616 : Int)) ∧ (∀ (i : Nat), i < (25 : Nat) → (0 : Int) ≤ Go.Sx.lw (Go.Sx.scatB (Go.Sx.ofRow fun (i : Nat) => Go.Sx.lw (Go.Sx.thetaB (Go.Sx.ofRow fun (i : Nat) => Go.Sx.lw (Go.Sx.roundsB y a i)) i)) i) ∧ Go.Sx.lw (Go.Sx.scatB (Go.Sx.ofRow fun (i : Nat) => Go.Sx.lw (Go.Sx.thetaB (Go.Sx.ofRow fun (i : Nat) => Go.Sx.lw (Go.Sx.roundsB y a i)) i)) i) < (18446744073709551616 : Int)) ∧ ∃ (y' : Nat), y' ≤ (24 : Nat) ∧ Go.IntKind.i64.wrap ((↑y : Int) + (1 : Int)) = (↑y' : Int) ∧ (Go.IntKind.u64.wrap (↑(BitVec.ofInt (64 : Nat) (Go.Sx.lw (Go.Sx.chiB (Go.Sx.ofRow fun (i : Nat) => Go.Sx.lw (Go.Sx.scatB (Go.Sx.ofRow fun (i : Nat) => Go.Sx.lw (Go.Sx.thetaB (Go.Sx.ofRow fun (i : Nat) => Go.Sx.lw (Go.Sx.roundsB y a i)) i)) i)) (0 : Nat))) ^^^ BitVec.ofInt (64 : Nat) ((Go.Sx.intsL [Go.Sx.SK.c (Go.Sx.SC.num Go.IntKind.u64 (1 : Int)), Go.Sx.SK.c (Go.Sx.SC.num Go.IntKind.u64 (32898 : Int)), Go.Sx.SK.c (Go.Sx.SC.num Go.IntKind.u64 (9223372036854808714 : Int)), Go.Sx.SK.c (Go.Sx.SC.num Go.IntKind.u64 (9223372039002292224 : Int)), Go.Sx.SK.c (Go.Sx.SC.num Go.IntKind.u64 (32907 : Int)), Go.Sx.SK.c (Go.Sx.SC.num Go.IntKind.u64 (2147483649 : Int)), Go.Sx.SK.c (Go.Sx.SC.num Go.IntKind.u64 (9223372039002292353 : Int)), Go.Sx.SK.c (Go.Sx.SC.num Go.IntKind.u64 (9223372036854808585 : Int)), Go.Sx.SK.c (Go.Sx.SC.num Go.IntKind.u64 (138 : Int)), Go.Sx.SK.c (Go.Sx.SC.num Go.IntKind.u64 (136 : Int)), Go.Sx.SK.c (Go.Sx.SC.num Go.IntKind.u64 (2147516425 : Int)), Go.Sx.SK.c (Go.Sx.SC.num Go.IntKind.u64 (2147483658 : Int)), Go.Sx.SK.c (Go.Sx.SC.num Go.IntKind.u64 (2147516555 : Int)), Go.Sx.SK.c (Go.Sx.SC.num Go.IntKind.u64 (9223372036854775947 : Int)), Go.Sx.SK.c (Go.Sx.SC.num Go.IntKind.u64 (9223372036854808713 : Int)), Go.Sx.SK.c (Go.Sx.SC.num Go.IntKind.u64 (9223372036854808579 : Int)), Go.Sx.SK.c (Go.Sx.SC.num Go.IntKind.u64 (9223372036854808578 : Int)), Go.Sx.SK.c (Go.Sx.SC.num Go.IntKind.u64 (9223372036854775936 : Int)), Go.Sx.SK.c (Go.Sx.SC.num Go.IntKind.u64 (32778 : Int)), Go.Sx.SK.c (Go.Sx.SC.num Go.IntKind.u64 (9223372039002259466 : Int)), Go.Sx.SK.c (Go.Sx.SC.num Go.IntKind.u64 (9223372039002292353 : Int)), Go.Sx.SK.c (Go.Sx.SC.num Go.IntKind.u64 (9223372036854808704 : Int)), Go.Sx.SK.c (Go.Sx.SC.num Go.IntKind.u64 (2147483649 : Int)), Go.Sx.SK.c (Go.Sx.SC.num Go.IntKind.u64 (9223372039002292232 : Int))]).getD (↑y : Int).toNat (0 : Int))).toNat : Int) = Go.Sx.lw (Go.Sx.roundsB y' a (0 : Nat)) ∧ Go.Sx.lw (Go.Sx.chiB (Go.Sx.ofRow fun (i : Nat) => Go.Sx.lw (Go.Sx.scatB (Go.Sx.ofRow fun (i : Nat) => Go.Sx.lw (Go.Sx.thetaB (Go.Sx.ofRow fun (i : Nat) => Go.Sx.lw (Go.Sx.roundsB y a i)) i)) i)) (1 : Nat)) = Go.Sx.lw (Go.Sx.roundsB y' a (1 : Nat)) ∧ Go.Sx.lw (Go.Sx.chiB (Go.Sx.ofRow fun (i : Nat) => Go.Sx.lw (Go.Sx.scatB (Go.Sx.ofRow fun (i : Nat) => Go.Sx.lw (Go.Sx.thetaB (Go.Sx.ofRow fun (i : Nat) => Go.Sx.lw (Go.Sx.roundsB y a i)) i)) i)) (2 : Nat)) = Go.Sx.lw (Go.Sx.roundsB y' a (2 : Nat)) ∧ Go.Sx.lw (Go.Sx.chiB (Go.Sx.ofRow fun (i : Nat) => Go.Sx.lw (Go.Sx.scatB (Go.Sx.ofRow fun (i : Nat) => Go.Sx.lw (Go.Sx.thetaB (Go.Sx.ofRow fun (i : Nat) => Go.Sx.lw (Go.Sx.roundsB y a i)) i)) i)) (3 : Nat)) = Go.Sx.lw (Go.Sx.roundsB y' a (3 : Nat)) ∧ Go.Sx.lw (Go.Sx.chiB (Go.Sx.ofRow fun (i : Nat) => Go.Sx.lw (Go.Sx.scatB (Go.Sx.ofRow fun (i : Nat) => Go.Sx.lw (Go.Sx.thetaB (Go.Sx.ofRow fun (i : Nat) => Go.Sx.lw (Go.Sx.roundsB y a i)) i)) i)) (4 : Nat)) = Go.Sx.lw (Go.Sx.roundsB y' a (4 : Nat)) ∧ Go.Sx.lw (Go.Sx.chiB (Go.Sx.ofRow fun (i : Nat) => Go.Sx.lw (Go.Sx.scatB (Go.Sx.ofRow fun (i : Nat) => Go.Sx.lw (Go.Sx.thetaB (Go.Sx.ofRow fun (i : Nat) => Go.Sx.lw (Go.Sx.roundsB y a i)) i)) i)) (5 : Nat)) = Go.Sx.lw (Go.Sx.roundsB y' a (5 : Nat)) ∧ Go.Sx.lw (Go.Sx.chiB (Go.Sx.ofRow fun (i : Nat) => Go.Sx.lw (Go.Sx.scatB (Go.Sx.ofRow fun (i : Nat) => Go.Sx.lw (Go.Sx.thetaB (Go.Sx.ofRow fun (i : Nat) => Go.Sx.lw (Go.Sx.roundsB y a i)) i)) i)) (6 : Nat)) = Go.Sx.lw (Go.Sx.roundsB y' a (6 : Nat)) ∧ Go.Sx.lw (Go.Sx.chiB (Go.Sx.ofRow fun (i : Nat) => Go.Sx.lw (Go.Sx.scatB (Go.Sx.ofRow fun (i : Nat) => Go.Sx.lw (Go.Sx.thetaB (Go.Sx.ofRow fun (i : Nat) => Go.Sx.lw (Go.Sx.roundsB y a i)) i)) i)) (7 : Nat)) = Go.Sx.lw (Go.Sx.roundsB y' a (7 : Nat)) ∧ Go.Sx.lw (Go.Sx.chiB (Go.Sx.ofRow fun (i : Nat) => Go.Sx.lw (Go.Sx.scatB (Go.Sx.ofRow fun (i : Nat) => Go.Sx.lw (Go.Sx.thetaB (Go.Sx.ofRow fun (i : Nat) => Go.Sx.lw (Go.Sx.roundsB y a i)) i)) i)) (8 : Nat)) = Go.Sx.lw (Go.Sx.roundsB y' a (8 : Nat)) ∧ Go.Sx.lw (Go.Sx.chiB (Go.Sx.ofRow fun (i : Nat) => Go.Sx.lw (Go.Sx.scatB (Go.Sx.ofRow fun (i : Nat) => Go.Sx.lw (Go.Sx.thetaB (Go.Sx.ofRow fun (i : Nat) => Go.Sx.lw (Go.Sx.roundsB y a i)) i)) i)) (9 : Nat)) = Go.Sx.lw (Go.Sx.roundsB y' a (9 : Nat)) ∧ Go.Sx.lw (Go.Sx.chiB (Go.Sx.ofRow fun (i : Nat) => Go.Sx.lw (Go.Sx.scatB (Go.Sx.ofRow fun (i : Nat) => Go.Sx.lw (Go.Sx.thetaB (Go.Sx.ofRow fun (i : Nat) => Go.Sx.lw (Go.Sx.roundsB y a i)) i)) i)) (10 : Nat)) = Go.Sx.lw (Go.Sx.roundsB y' a (10 : Nat)) ∧ Go.Sx.lw (Go.Sx.chiB (Go.Sx.ofRow fun (i : Nat) => Go.Sx.lw (Go.Sx.scatB (Go.Sx.ofRow fun (i : Nat) => Go.Sx.lw (Go.Sx.thetaB (Go.Sx.ofRow fun (i : Nat) => Go.Sx.lw (Go.Sx.roundsB y a i)) i)) i)) (11 : Nat)) = Go.Sx.lw (Go.Sx.roundsB y' a (11 : Nat)) ∧ Go.Sx.lw (Go.Sx.chiB (Go.Sx.ofRow fun (i : Nat) => Go.Sx.lw (Go.Sx.scatB (Go.Sx.ofRow fun (i : Nat) => Go.Sx.lw (Go.Sx.thetaB (Go.Sx.ofRow fun (i : Nat) => Go.Sx.lw (Go.Sx.roundsB y a i)) i)) i)) (12 : Nat)) = Go.Sx.lw (Go.Sx.roundsB y' a (12 : Nat)) ∧ Go.Sx.lw (Go.Sx.chiB (Go.Sx.ofRow fun (i : Nat) => Go.Sx.lw (Go.Sx.scatB (Go.Sx.ofRow fun (i : Nat) => Go.Sx.lw (Go.Sx.thetaB (Go.Sx.ofRow fun (i : Nat) => Go.Sx.lw (Go.Sx.roundsB y a i)) i)) i)) (13 : Nat)) = Go.Sx.lw (Go.Sx.roundsB y' a (13 : Nat)) ∧ Go.Sx.lw (Go.Sx.chiB (Go.Sx.ofRow fun (i : Nat) => Go.Sx.lw (Go.Sx.scatB (Go.Sx.ofRow fun (i : Nat) => Go.Sx.lw (Go.Sx.thetaB (Go.Sx.ofRow fun (i : Nat) => Go.Sx.lw (Go.Sx.roundsB y a i)) i)) i)) (14 : Nat)) = Go.Sx.lw (Go.Sx.roundsB y' a (14 : Nat)) ∧ Go.Sx.lw (Go.Sx.chiB (Go.Sx.ofRow fun (i : Nat) => Go.Sx.lw (Go.Sx.scatB (Go.Sx.ofRow fun (i : Nat) => Go.Sx.lw (Go.Sx.thetaB (Go.Sx.ofRow fun (i : Nat) => Go.Sx.lw (Go.Sx.roundsB y a i)) i)) i)) (15 : Nat)) = Go.Sx.lw (Go.Sx.roundsB y' a (15 : Nat)) ∧ Go.Sx.lw (Go.Sx.chiB (Go.Sx.ofRow fun (i : Nat) => Go.Sx.lw (Go.Sx.scatB (Go.Sx.ofRow fun (i : Nat) => Go.Sx.lw (Go.Sx.thetaB (Go.Sx.ofRow fun (i : Nat) => Go.Sx.lw (Go.Sx.roundsB y a i)) i)) i)) (16 : Nat)) = Go.Sx.lw (Go.Sx.roundsB y' a (16 : Nat)) ∧ Go.Sx.lw (Go.Sx.chiB (Go.Sx.ofRow fun (i : Nat) => Go.Sx.lw (Go.Sx.scatB (Go.Sx.ofRow fun (i : Nat) => Go.Sx.lw (Go.Sx.thetaB (Go.Sx.ofRow fun (i : Nat) => Go.Sx.lw (Go.Sx.roundsB y a i)) i)) i)) (17 : Nat)) = Go.Sx.lw (Go.Sx.roundsB y' a (17 : Nat)) ∧ Go.Sx.lw (Go.Sx.chiB (Go.Sx.ofRow fun (i : Nat) => Go.Sx.lw (Go.Sx.scatB (Go.Sx.ofRow fun (i : Nat) => Go.Sx.lw (Go.Sx.thetaB (Go.Sx.ofRow fun (i : Nat) => Go.Sx.lw (Go.Sx.roundsB y a i)) i)) i)) (18 : Nat)) = Go.Sx.lw (Go.Sx.roundsB y' a (18 : Nat)) ∧ Go.Sx.lw (Go.Sx.chiB (Go.Sx.ofRow fun (i : Nat) => Go.Sx.lw (Go.Sx.scatB (Go.Sx.ofRow fun (i : Nat) => Go.Sx.lw (Go.Sx.thetaB (Go.Sx.ofRow fun (i : Nat) => Go.Sx.lw (Go.Sx.roundsB y a i)) i)) i)) (19 : Nat)) = Go.Sx.lw (Go.Sx.roundsB y' a (19 : Nat)) ∧ Go.Sx.lw (Go.Sx.chiB (Go.Sx.ofRow fun (i : Nat) => Go.Sx.lw (Go.Sx.scatB (Go.Sx.ofRow fun (i : Nat) => Go.Sx.lw (Go.Sx.thetaB (Go.Sx.ofRow fun (i : Nat) => Go.Sx.lw (Go.Sx.roundsB y a i)) i)) i)) (20 : Nat)) = Go.Sx.lw (Go.Sx.roundsB y' a (20 : Nat)) ∧ Go.Sx.lw (Go.Sx.chiB (Go.Sx.ofRow fun (i : Nat) => Go.Sx.lw (Go.Sx.scatB (Go.Sx.ofRow fun (i : Nat) => Go.Sx.lw (Go.Sx.thetaB (Go.Sx.ofRow fun (i : Nat) => Go.Sx.lw (Go.Sx.roundsB y a i)) i)) i)) (21 : Nat)) = Go.Sx.lw (Go.Sx.roundsB y' a (21 : Nat)) ∧ Go.Sx.lw (Go.Sx.chiB (Go.Sx.ofRow fun (i : Nat) => Go.Sx.lw (Go.Sx.scatB (Go.Sx.ofRow fun (i : Nat) => Go.Sx.lw (Go.Sx.thetaB (Go.Sx.ofRow fun (i : Nat) => Go.Sx.lw (Go.Sx.roundsB y a i)) i)) i)) (22 : Nat)) = Go.Sx.lw (Go.Sx.roundsB y' a (22 : Nat)) ∧ Go.Sx.lw (Go.Sx.chiB (Go.Sx.ofRow fun (i : Nat) => Go.Sx.lw (Go.Sx.scatB (Go.Sx.ofRow fun (i : Nat) => Go.Sx.lw (Go.Sx.thetaB (Go.Sx.ofRow fun (i : Nat) => Go.Sx.lw (Go.Sx.roundsB y a i)) i)) i)) (23 : Nat)) = Go.Sx.lw (Go.Sx.roundsB y' a (23 : Nat)) ∧ Go.Sx.lw (Go.Sx.chiB (Go.Sx.ofRow fun (i : Nat) => Go.Sx.lw (Go.Sx.scatB (Go.Sx.ofRow fun (i : Nat) => Go.Sx.lw (Go.Sx.thetaB (Go.Sx.ofRow fun (i : Nat) => Go.Sx.lw (Go.Sx.roundsB y a i)) i)) i)) (24 : Nat)) = Go.Sx.lw (Go.Sx.roundsB y' a (24 : Nat)) ∧ True) ∧ (0 : Nat) = (0 : Nat) ∧ (0 : Nat) = (0 : Nat) ∧ (24 : Nat) - y' < (24 : Nat) - y) ∧ (Decidable.decide ((↑y : Int) < (24 : Int)) = Bool.false → (∀ (j : Nat), j < (25 : Nat) → Go.Sx.lw (Go.Sx.roundsB y a j) = Go.Sx.lw (Go.Sx.turnB a j)) ∧ True)) := by kernel_rfl
-- END VC
-- VC vc_kMay HASH d0aeb92215a9c463
theorem vc_kMay (L H : Nat → Int) (N : Int) :
    Owes Tryd.prog Cx.none [(4, .inv (invMay L H N))] 30 Tryd.f10 [sSp L H N] (.one (sB (mayG H N))) =
    (let x1 : Bool := Decidable.decide (N < (0 : Int)); let x2 : Nat := (136 : Nat) - N.toNat; let x3 : Int := (↑x2 : Int); ((!x1) = Bool.true → (!x1) = Bool.true) ∧ ((!x1) = Bool.true → (!x1) = Bool.true) ∧ (x1 = Bool.false → (!x1) = Bool.true) ∧ ((x1 || Decidable.decide (N ≥ (136 : Int))) = Bool.true → Bool.false = mayG H N) ∧ ((x1 || Decidable.decide (N ≥ (136 : Int))) = Bool.false → ((0 : Int) ≤ N ∧ N < (136 : Int)) ∧ (∀ (y : Nat), Go.Sx.closedB (Go.Sx.slotsAt (25 : Nat) [((1 : Nat), Go.Sx.SV.one (Go.Sx.SA.sc (Go.Sx.SC.ptr (0 : Nat) (0 : Nat)))), ((16 : Nat), Go.Sx.SV.one (Go.Sx.SA.sc (Go.Sx.SC.sls (0 : Nat) (25 : Nat) N.toNat (136 : Nat) x2))), ((17 : Nat), Go.Sx.SV.one (Go.Sx.sI Go.IntKind.i64 x3)), ((18 : Nat), Go.Sx.SV.one (Go.Sx.sI Go.IntKind.i64 (↑y : Int)))]) [Go.Sx.SO.cells (26 : Go.TypeId) [Go.Sx.SK.f Go.IntKind.u64 (25 : Nat) L, Go.Sx.SK.f Go.IntKind.u8 (136 : Nat) H, Go.Sx.SK.c (Go.Sx.SC.val (Go.Value.int Go.IntKind.i64 N))] (0 : Nat)] = Bool.true) ∧ ∃ (y : Nat), ((0 : Int) ≤ N ∧ N < (136 : Int) ∧ y ≤ x2 ∧ ∀ (j : Nat), j < y → H (N.toNat + j) = (0 : Int)) ∧ ((0 : Nat) = (0 : Nat) ∧ (25 : Nat) = (25 : Nat) ∧ N.toNat = N.toNat ∧ (136 : Nat) = (136 : Nat) ∧ x2 = x2) ∧ x3 = x3 ∧ (0 : Int) = (↑y : Int) ∧ ((∀ (j : Nat), j < (25 : Nat) → L j = L j) ∧ (∀ (j : Nat), j < (136 : Nat) → H j = H j) ∧ N = N ∧ True) ∧ (0 : Nat) = (0 : Nat) ∧ ∀ (y : Nat), ((0 : Int) ≤ N ∧ N < (136 : Int) ∧ y ≤ x2 ∧ ∀ (j : Nat), j < y → H (N.toNat + j) = (0 : Int)) → (Decidable.decide ((↑y : Int) < x3) = Bool.true → ((0 : Int) ≤ (↑y : Int) ∧ (↑y : Int) < x3) ∧ ((0 : Int) ≤ (↑N.toNat : Int) + (↑y : Int) ∧ (↑N.toNat : Int) + (↑y : Int) < (136 : Int)) ∧ ((H ((↑N.toNat : Int) + (↑y : Int)).toNat != (0 : Int)) = Bool.true → Bool.false = mayG H N) ∧ ((H ((↑N.toNat : Int) + (↑y : Int)).toNat != (0 : Int)) = Bool.false → ∃ (y' : Nat), ((0 : Int) ≤ N ∧ N < (136 : Int) ∧ y' ≤ x2 ∧ ∀ (j : Nat), j < y' → H (N.toNat + j) = (0 : Int)) ∧ ((0 : Nat) = (0 : Nat) ∧ (25 : Nat) = (25 : Nat) ∧ N.toNat = N.toNat ∧ (136 : Nat) = (136 : Nat) ∧ x2 = x2) ∧ x3 = x3 ∧ Go.IntKind.i64.wrap ((↑y : Int) + (1 : Int)) = (↑y' : Int) ∧ ((∀ (j : Nat), j < (25 : Nat) → L j = L j) ∧ (∀ (j : Nat), j < (136 : Nat) → H j = H j) ∧ N = N ∧ True) ∧ (0 : Nat) = (0 : Nat) ∧ (136 : Nat) - y' < (136 : Nat) - y)) ∧ (Decidable.decide ((↑y : Int) < x3) = Bool.false → Bool.true = mayG H N))) := by kernel_rfl
-- END VC
-- VC vc_soak HASH 5f39de929b3954ef
theorem vc_soak (a : Nat → BitVec 64) (H : Nat → Int) (N : Int) :
    Owes Tryd.prog ⟨[(16, specLanes 25 25 turnB)], glK, 0⟩ [(2, .inv (invSoak a H N))] 140 Tryd.f11 [sSp (fun i => lw (a i)) H N] (.one (.agg (.f .u64 25 (fun i => lw (soakB a H i)) :: zeroSp))) =
    ((∀ (y : Nat), Go.Sx.closedB (Go.Sx.slotsAt (30 : Nat) [((1 : Nat), Go.Sx.SV.one (Go.Sx.SA.sc (Go.Sx.SC.ptr (0 : Nat) (0 : Nat)))), ((2 : Nat), Go.Sx.SV.one (Go.Sx.SA.sc (Go.Sx.SC.ptr (1 : Nat) (0 : Nat)))), ((6 : Nat), Go.Sx.SV.one (Go.Sx.SA.agg [Go.Sx.SK.f Go.IntKind.u8 (136 : Nat) H])), ((7 : Nat), Go.Sx.SV.one (Go.Sx.sI Go.IntKind.i64 (↑y : Int)))]) [Go.Sx.SO.cells (26 : Go.TypeId) [Go.Sx.SK.f Go.IntKind.u64 (25 : Nat) fun (j : Nat) => Go.Sx.lw (Go.Sx.absB a H y j), Go.Sx.SK.f Go.IntKind.u8 (136 : Nat) H, Go.Sx.SK.c (Go.Sx.SC.val (Go.Value.int Go.IntKind.i64 N))] (0 : Nat), Go.Sx.SO.cells (26 : Go.TypeId) (List.replicate (25 : Nat) (Go.Sx.SK.c (Go.Sx.SC.num Go.IntKind.u64 (0 : Int))) ++ List.replicate (136 : Nat) (Go.Sx.SK.c (Go.Sx.SC.num Go.IntKind.u8 (0 : Int))) ++ [Go.Sx.SK.c (Go.Sx.SC.num Go.IntKind.i64 (0 : Int))]) (0 : Nat)] = Bool.true) ∧ ∃ (y : Nat), y ≤ (136 : Nat) ∧ ((∀ (j : Nat), j < (136 : Nat) → H j = H j) ∧ True) ∧ (0 : Int) = (↑y : Int) ∧ ((∀ (j : Nat), j < (25 : Nat) → Go.Sx.lw (a j) = Go.Sx.lw (Go.Sx.absB a H y j)) ∧ (∀ (j : Nat), j < (136 : Nat) → H j = H j) ∧ N = N ∧ True) ∧ (0 : Nat) = (0 : Nat) ∧ (0 : Nat) = (0 : Nat) ∧ ∀ (y : Nat), y ≤ (136 : Nat) → (Decidable.decide ((↑y : Int) < (136 : Int)) = Bool.true → ((0 : Int) ≤ (↑y : Int) ∧ (↑y : Int) < (136 : Int)) ∧ ((0 : Int) ≤ Go.IntKind.i64.wrap ((↑y : Int).tdiv (8 : Int)) ∧ Go.IntKind.i64.wrap ((↑y : Int).tdiv (8 : Int)) < (25 : Int)) ∧ ((0 : Int) ≤ Go.IntKind.i64.wrap ((↑y : Int).tdiv (8 : Int)) ∧ Go.IntKind.i64.wrap ((↑y : Int).tdiv (8 : Int)) < (25 : Int)) ∧ (0 : Int) ≤ Go.IntKind.i64.wrap ((↑y : Int).tmod (8 : Int) * (8 : Int)) ∧ ((0 : Int) ≤ Go.IntKind.i64.wrap ((↑y : Int).tdiv (8 : Int)) ∧ Go.IntKind.i64.wrap ((↑y : Int).tdiv (8 : Int)) < (25 : Int)) ∧ ((0 : Int) ≤ Go.IntKind.i64.wrap ((↑y : Int).tdiv (8 : Int)) ∧ Go.IntKind.i64.wrap ((↑y : Int).tdiv (8 : Int)) < (25 : Int)) ∧ ∃ (y' : Nat), y' ≤ (136 : Nat) ∧ ((∀ (j : Nat), j < (136 : Nat) → H j = H j) ∧ True) ∧ Go.IntKind.i64.wrap ((↑y : Int) + (1 : Int)) = (↑y' : Int) ∧ ((∀ (j : Nat), j < (25 : Nat) → (if j = (Go.IntKind.i64.wrap ((↑y : Int).tdiv (8 : Int))).toNat then Go.IntKind.u64.wrap (↑(BitVec.ofInt (64 : Nat) (Go.Sx.lw (Go.Sx.absB a H y (Go.IntKind.i64.wrap ((↑y : Int).tdiv (8 : Int))).toNat)) ^^^ BitVec.ofInt (64 : Nat) (Go.IntKind.u64.wrap (Go.IntKind.u64.wrap (H (↑y : Int).toNat) * (2 : Int) ^ Min.min (Go.IntKind.i64.wrap ((↑y : Int).tmod (8 : Int) * (8 : Int))).toNat (64 : Nat)))).toNat : Int) else Go.Sx.lw (Go.Sx.absB a H y j)) = Go.Sx.lw (Go.Sx.absB a H y' j)) ∧ (∀ (j : Nat), j < (136 : Nat) → H j = H j) ∧ N = N ∧ True) ∧ (0 : Nat) = (0 : Nat) ∧ (0 : Nat) = (0 : Nat) ∧ (136 : Nat) - y' < (136 : Nat) - y) ∧ (Decidable.decide ((↑y : Int) < (136 : Int)) = Bool.false → (∀ (i : Nat), i < (25 : Nat) → (0 : Int) ≤ Go.Sx.lw (Go.Sx.absB a H y i) ∧ Go.Sx.lw (Go.Sx.absB a H y i) < (18446744073709551616 : Int)) ∧ (∀ (j : Nat), j < (25 : Nat) → Go.Sx.lw (Go.Sx.turnB (Go.Sx.ofRow fun (j : Nat) => Go.Sx.lw (Go.Sx.absB a H y j)) j) = Go.Sx.lw (Go.Sx.soakB a H j)) ∧ (0 : Int) = (0 : Int) ∧ (0 : Int) = (0 : Int) ∧ (0 : Int) = (0 : Int) ∧ (0 : Int) = (0 : Int) ∧ (0 : Int) = (0 : Int) ∧ (0 : Int) = (0 : Int) ∧ (0 : Int) = (0 : Int) ∧ (0 : Int) = (0 : Int) ∧ (0 : Int) = (0 : Int) ∧ (0 : Int) = (0 : Int) ∧ (0 : Int) = (0 : Int) ∧ (0 : Int) = (0 : Int) ∧ (0 : Int) = (0 : Int) ∧ (0 : Int) = (0 : Int) ∧ (0 : Int) = (0 : Int) ∧ (0 : Int) = (0 : Int) ∧ (0 : Int) = (0 : Int) ∧ (0 : Int) = (0 : Int) ∧ (0 : Int) = (0 : Int) ∧ (0 : Int) = (0 : Int) ∧ (0 : Int) = (0 : Int) ∧ (0 : Int) = (0 : Int) ∧ (0 : Int) = (0 : Int) ∧ (0 : Int) = (0 : Int) ∧ (0 : Int) = (0 : Int) ∧ (0 : Int) = (0 : Int) ∧ (0 : Int) = (0 : Int) ∧ (0 : Int) = (0 : Int) ∧ (0 : Int) = (0 : Int) ∧ (0 : Int) = (0 : Int) ∧ (0 : Int) = (0 : Int) ∧ (0 : Int) = (0 : Int) ∧ (0 : Int) = (0 : Int) ∧ (0 : Int) = (0 : Int) ∧ (0 : Int) = (0 : Int) ∧ (0 : Int) = (0 : Int) ∧ (0 : Int) = (0 : Int) ∧ (0 : Int) = (0 : Int) ∧ (0 : Int) = (0 : Int) ∧ (0 : Int) = (0 : Int) ∧ (0 : Int) = (0 : Int) ∧ (0 : Int) = (0 : Int) ∧ (0 : Int) = (0 : Int) ∧ (0 : Int) = (0 : Int) ∧ (0 : Int) = (0 : Int) ∧ (0 : Int) = (0 : Int) ∧ (0 : Int) = (0 : Int) ∧ (0 : Int) = (0 : Int) ∧ (0 : Int) = (0 : Int) ∧ (0 : Int) = (0 : Int) ∧ (0 : Int) = (0 : Int) ∧ (0 : Int) = (0 : Int) ∧ (0 : Int) = (0 : Int) ∧ (0 : Int) = (0 : Int) ∧ (0 : Int) = (0 : Int) ∧ (0 : Int) = (0 : Int) ∧ (0 : Int) = (0 : Int) ∧ (0 : Int) = (0 : Int) ∧ (0 : Int) = (0 : Int) ∧ (0 : Int) = (0 : Int) ∧ (0 : Int) = (0 : Int) ∧ (0 : Int) = (0 : Int) ∧ (0 : Int) = (0 : Int) ∧ (0 : Int) = (0 : Int) ∧ (0 : Int) = (0 : Int) ∧ (0 : Int) = (0 : Int) ∧ (0 : Int) = (0 : Int) ∧ (0 : Int) = (0 : Int) ∧ (0 : Int) = (0 : Int) ∧ (0 : Int) = (0 : Int) ∧ (0 : Int) = (0 : Int) ∧ (0 : Int) = (0 : Int) ∧ (0 : Int) = (0 : Int) ∧ (0 : Int) = (0 : Int) ∧ (0 : Int) = (0 : Int) ∧ (0 : Int) = (0 : Int) ∧ (0 : Int) = (0 : Int) ∧ (0 : Int) = (0 : Int) ∧ (0 : Int) = (0 : Int) ∧ (0 : Int) = (0 : Int) ∧ (0 : Int) = (0 : Int) ∧ (0 : Int) = (0 : Int) ∧ (0 : Int) = (0 : Int) ∧ (0 : Int) = (0 : Int) ∧ (0 : Int) = (0 : Int) ∧ (0 : Int) = (0 : Int) ∧ (0 : Int) = (0 : Int) ∧ (0 : Int) = (0 : Int) ∧ (0 : Int) = (0 : Int) ∧ (0 : Int) = (0 : Int) ∧ (0 : Int) = (0 : Int) ∧ (0 : Int) = (0 : Int) ∧ (0 : Int) = (0 : Int) ∧ (0 : Int) = (0 : Int) ∧ (0 : Int) = (0 : Int) ∧ (0 : Int) = (0 : Int) ∧ (0 : Int) = (0 : Int) ∧ (0 : Int) = (0 : Int) ∧ (0 : Int) = (0 : Int) ∧ (0 : Int) = (0 : Int) ∧ (0 : Int) = (0 : Int) ∧ (0 : Int) = (0 : Int) ∧ (0 : Int) = (0 : Int) ∧ (0 : Int) = (0 : Int) ∧ (0 : Int) = (0 : Int) ∧ (0 : Int) = (0 : Int) ∧ (0 : Int) = (0 : Int) ∧ (0 : Int) = (0 : Int) ∧ (0 : Int) = (0 : Int) ∧ (0 : Int) = (0 : Int) ∧ (0 : Int) = (0 : Int) ∧ (0 : Int) = (0 : Int) ∧ (0 : Int) = (0 : Int) ∧ (0 : Int) = (0 : Int) ∧ (0 : Int) = (0 : Int) ∧ (0 : Int) = (0 : Int) ∧ (0 : Int) = (0 : Int) ∧ (0 : Int) = (0 : Int) ∧ (0 : Int) = (0 : Int) ∧ (0 : Int) = (0 : Int) ∧ (0 : Int) = (0 : Int) ∧ (0 : Int) = (0 : Int) ∧ (0 : Int) = (0 : Int) ∧ (0 : Int) = (0 : Int) ∧ (0 : Int) = (0 : Int) ∧ (0 : Int) = (0 : Int) ∧ (0 : Int) = (0 : Int) ∧ (0 : Int) = (0 : Int) ∧ (0 : Int) = (0 : Int) ∧ (0 : Int) = (0 : Int) ∧ (0 : Int) = (0 : Int) ∧ (0 : Int) = (0 : Int) ∧ (0 : Int) = (0 : Int) ∧ (0 : Int) = (0 : Int) ∧ (0 : Int) = (0 : Int) ∧ (0 : Int) = (0 : Int) ∧ (0 : Int) = (0 : Int) ∧ True)) := by kernel_rfl
-- END VC
-- VC vc_first HASH edaf195109ce7fa0
theorem vc_first (L : Nat → Int) :
    Owes Tryd.prog Cx.none [(3, .inv (invFirst L))] 40 Tryd.f18 [sRow .u64 25 L] (.one (sRow .u8 32 (firstG L))) =
    ((∀ (y : Nat), Go.Sx.closedB (Go.Sx.slotsAt (21 : Nat) [((1 : Nat), Go.Sx.SV.one (Go.Sx.SA.sc (Go.Sx.SC.ptr (0 : Nat) (0 : Nat)))), ((2 : Nat), Go.Sx.SV.one (Go.Sx.SA.sc (Go.Sx.SC.ptr (1 : Nat) (0 : Nat)))), ((3 : Nat), Go.Sx.SV.one (Go.Sx.SA.sc (Go.Sx.SC.ptr (2 : Nat) (0 : Nat)))), ((5 : Nat), Go.Sx.SV.one (Go.Sx.sI Go.IntKind.i64 (↑y : Int)))]) [Go.Sx.SO.cells (23 : Go.TypeId) [Go.Sx.SK.f Go.IntKind.u64 (25 : Nat) L] (0 : Nat), Go.Sx.SO.cells (33 : Go.TypeId) (List.replicate (32 : Nat) (Go.Sx.SK.c (Go.Sx.SC.num Go.IntKind.u8 (0 : Int)))) (0 : Nat), Go.Sx.SO.cells (33 : Go.TypeId) [Go.Sx.SK.f Go.IntKind.u8 (32 : Nat) fun (j : Nat) => if j < y then Go.Sx.firstG L j else (0 : Int)] (0 : Nat)] = Bool.true) ∧ ∃ (y : Nat), y ≤ (32 : Nat) ∧ (0 : Int) = (↑y : Int) ∧ ((∀ (j : Nat), j < (25 : Nat) → L j = L j) ∧ True) ∧ (0 : Nat) = (0 : Nat) ∧ (0 : Nat) = (0 : Nat) ∧ (((0 : Int) = if (0 : Nat) < y then Go.Sx.firstG L (0 : Nat) else (0 : Int)) ∧ ((0 : Int) = if (1 : Nat) < y then Go.Sx.firstG L (1 : Nat) else (0 : Int)) ∧ ((0 : Int) = if (2 : Nat) < y then Go.Sx.firstG L (2 : Nat) else (0 : Int)) ∧ ((0 : Int) = if (3 : Nat) < y then Go.Sx.firstG L (3 : Nat) else (0 : Int)) ∧ ((0 : Int) = if (4 : Nat) < y then Go.Sx.firstG L (4 : Nat) else (0 : Int)) ∧ ((0 : Int) = if (5 : Nat) < y then Go.Sx.firstG L (5 : Nat) else (0 : Int)) ∧ ((0 : Int) = if (6 : Nat) < y then Go.Sx.firstG L (6 : Nat) else (0 : Int)) ∧ ((0 : Int) = if (7 : Nat) < y then Go.Sx.firstG L (7 : Nat) else (0 : Int)) ∧ ((0 : Int) = if (8 : Nat) < y then Go.Sx.firstG L (8 : Nat) else (0 : Int)) ∧ ((0 : Int) = if (9 : Nat) < y then Go.Sx.firstG L (9 : Nat) else (0 : Int)) ∧ ((0 : Int) = if (10 : Nat) < y then Go.Sx.firstG L (10 : Nat) else (0 : Int)) ∧ ((0 : Int) = if (11 : Nat) < y then Go.Sx.firstG L (11 : Nat) else (0 : Int)) ∧ ((0 : Int) = if (12 : Nat) < y then Go.Sx.firstG L (12 : Nat) else (0 : Int)) ∧ ((0 : Int) = if (13 : Nat) < y then Go.Sx.firstG L (13 : Nat) else (0 : Int)) ∧ ((0 : Int) = if (14 : Nat) < y then Go.Sx.firstG L (14 : Nat) else (0 : Int)) ∧ ((0 : Int) = if (15 : Nat) < y then Go.Sx.firstG L (15 : Nat) else (0 : Int)) ∧ ((0 : Int) = if (16 : Nat) < y then Go.Sx.firstG L (16 : Nat) else (0 : Int)) ∧ ((0 : Int) = if (17 : Nat) < y then Go.Sx.firstG L (17 : Nat) else (0 : Int)) ∧ ((0 : Int) = if (18 : Nat) < y then Go.Sx.firstG L (18 : Nat) else (0 : Int)) ∧ ((0 : Int) = if (19 : Nat) < y then Go.Sx.firstG L (19 : Nat) else (0 : Int)) ∧ ((0 : Int) = if (20 : Nat) < y then Go.Sx.firstG L (20 : Nat) else (0 : Int)) ∧ ((0 : Int) = if (21 : Nat) < y then Go.Sx.firstG L (21 : Nat) else (0 : Int)) ∧ ((0 : Int) = if (22 : Nat) < y then Go.Sx.firstG L (22 : Nat) else (0 : Int)) ∧ ((0 : Int) = if (23 : Nat) < y then Go.Sx.firstG L (23 : Nat) else (0 : Int)) ∧ ((0 : Int) = if (24 : Nat) < y then Go.Sx.firstG L (24 : Nat) else (0 : Int)) ∧ ((0 : Int) = if (25 : Nat) < y then Go.Sx.firstG L (25 : Nat) else (0 : Int)) ∧ ((0 : Int) = if (26 : Nat) < y then Go.Sx.firstG L (26 : Nat) else (0 : Int)) ∧ ((0 : Int) = if (27 : Nat) < y then Go.Sx.firstG L (27 : Nat) else (0 : Int)) ∧ ((0 : Int) = if (28 : Nat) < y then Go.Sx.firstG L (28 : Nat) else (0 : Int)) ∧ ((0 : Int) = if (29 : Nat) < y then Go.Sx.firstG L (29 : Nat) else (0 : Int)) ∧ ((0 : Int) = if (30 : Nat) < y then Go.Sx.firstG L (30 : Nat) else (0 : Int)) ∧ ((0 : Int) = if (31 : Nat) < y then Go.Sx.firstG L (31 : Nat) else (0 : Int)) ∧ True) ∧ (0 : Nat) = (0 : Nat) ∧ ∀ (y : Nat), y ≤ (32 : Nat) → (Decidable.decide ((↑y : Int) < (32 : Int)) = Bool.true → ((0 : Int) ≤ Go.IntKind.i64.wrap ((↑y : Int).tdiv (8 : Int)) ∧ Go.IntKind.i64.wrap ((↑y : Int).tdiv (8 : Int)) < (25 : Int)) ∧ ((0 : Int) ≤ Go.IntKind.i64.wrap ((↑y : Int).tdiv (8 : Int)) ∧ Go.IntKind.i64.wrap ((↑y : Int).tdiv (8 : Int)) < (25 : Int)) ∧ (0 : Int) ≤ Go.IntKind.i64.wrap ((↑y : Int).tmod (8 : Int) * (8 : Int)) ∧ ((0 : Int) ≤ (↑y : Int) ∧ (↑y : Int) < (32 : Int)) ∧ ((0 : Int) ≤ (↑y : Int) ∧ (↑y : Int) < (32 : Int)) ∧ ∃ (y' : Nat), y' ≤ (32 : Nat) ∧ Go.IntKind.i64.wrap ((↑y : Int) + (1 : Int)) = (↑y' : Int) ∧ ((∀ (j : Nat), j < (25 : Nat) → L j = L j) ∧ True) ∧ (0 : Nat) = (0 : Nat) ∧ (0 : Nat) = (0 : Nat) ∧ ((∀ (j : Nat), j < (32 : Nat) → (if j = (↑y : Int).toNat then Go.IntKind.u8.wrap ((L (Go.IntKind.i64.wrap ((↑y : Int).tdiv (8 : Int))).toNat).fdiv ((2 : Int) ^ Min.min (Go.IntKind.i64.wrap ((↑y : Int).tmod (8 : Int) * (8 : Int))).toNat (64 : Nat))) else if j < y then Go.Sx.firstG L j else (0 : Int)) = if j < y' then Go.Sx.firstG L j else (0 : Int)) ∧ True) ∧ (0 : Nat) = (0 : Nat) ∧ (32 : Nat) - y' < (32 : Nat) - y) ∧ (Decidable.decide ((↑y : Int) < (32 : Int)) = Bool.false → (∀ (j : Nat), j < (32 : Nat) → (if j < y then Go.Sx.firstG L j else (0 : Int)) = Go.Sx.firstG L j) ∧ True)) := by kernel_rfl
-- END VC
end Go.Proofs.YtfoklomipdkomaaDoor
end

section
/-
  Package keccak: all rounds; whether a sponge may be; what soaks; the first lanes as bytes.
-/
namespace Go.Proofs.YtfoklomipdkomaaDoor
open Go Go.Sx Go.RowKit

theorem wrap_small {x : Int} (h : 0 ≤ x ∧ x < 9223372036854775808) : IntKind.i64.wrap x = x := by
  rw [IntKind.wrap_i64]; omega
theorem ofRow_lw (a : Nat → BitVec 64) : (ofRow fun i => lw (a i)) = a := by
  funext i; exact ofInt_lw _
theorem lanes_lw (n : Nat) (a : Nat → BitVec 64) : ∀ i, i < n → 0 ≤ lw (a i) ∧ lw (a i) < 18446744073709551616 := fun i _ => lane_lw (a i)
theorem rc_get : ∀ y, y < 24 → BitVec.ofInt 64 ((intsL rcSK).getD y 0) = rcN.getD y 0 := by decide +kernel
theorem ok_Turn (a : Nat → BitVec 64) : Owes Tryd.prog cxKTurn [(2, .inv (invTurn a))] 30 Tryd.f16 [sRow .u64 25 fun i => lw (a i)] (.one (sRow .u64 25 fun i => lw (turnB a i))) := by
  have hrc := rc_get
  simp only [rcSK] at hrc
  rw [vc_Turn]
  refine ⟨fun y => rfl, 0, by omega, rfl, ⟨fun j _ => rfl, trivial⟩, rfl, rfl, fun y hy => ⟨fun hlt => ?_, fun hge => ?_⟩⟩
  · have hlt : y < 24 := by have := of_decide_eq_true hlt; omega
    refine ⟨⟨by omega, by omega⟩, lanes_lw _ _, lanes_lw _ _, lanes_lw _ _, y + 1, by omega, by rw [wrap_small (by omega)]; omega, ?_, rfl, rfl, by omega⟩
    simp only [ofRow_lw, Int.toNat_natCast, hrc y hlt, ofInt_lw, wrap_nat]
    simp [roundsB, roundB]
  · have hge : ¬ y < 24 := by have := of_decide_eq_false hge; omega
    have : y = 24 := by omega
    subst this
    exact ⟨fun j _ => rfl, trivial⟩
theorem card_Turn : FnOKg Tryd.prog glK 16 (specLanes 25 25 turnB) :=
  FnOK_lanes (cx := cxKTurn) (iv := fun a => [(2, .inv (invTurn a))]) (by
    intro p hp
    simp only [cxKTurn, List.mem_cons, List.not_mem_nil, or_false] at hp
    rcases hp with rfl | rfl | rfl
    · exact card_theta
    · exact card_scat
    · exact card_chi) Tryd.func16 (by kernel_rfl) (by kernel_rfl) ok_Turn
theorem mayG_iff (H : Nat → Int) (N : Int) : mayG H N = true ↔ (0 ≤ N ∧ N < 136) ∧ ∀ j, N.toNat + j < 136 → H (N.toNat + j) = 0 := by
  simp only [mayG, Bool.and_eq_true, decide_eq_true_eq, List.all_eq_true, List.mem_range, beq_iff_eq]
  constructor
  · rintro ⟨h1, h2⟩
    exact ⟨h1, fun j hj => h2 j (by omega)⟩
  · rintro ⟨h1, h2⟩
    exact ⟨h1, fun j hj => h2 j (by omega)⟩
theorem ok_kMay (L H : Nat → Int) (N : Int) : Owes Tryd.prog Cx.none [(4, .inv (invMay L H N))] 30 Tryd.f10 [sSp L H N] (.one (sB (mayG H N))) := by
  rw [vc_kMay]
  intro x1 x2 x3
  refine ⟨id, id, fun h => by rw [h]; rfl, fun h => ?_, fun h => ?_⟩
  · have h1 : N < 0 ∨ 136 ≤ N := by simpa [x1] using h
    cases hm : mayG H N with
    | false => rfl
    | true => obtain ⟨⟨k1, k2⟩, _⟩ := (mayG_iff H N).1 hm; omega
  · have h1 : ¬ N < 0 ∧ ¬ 136 ≤ N := by simpa [x1] using h
    have e3 : x3 = ((136 - N.toNat : Nat) : Int) := rfl
    refine ⟨⟨by omega, by omega⟩, fun y => rfl, 0, ⟨by omega, by omega, by omega, fun j hj => by omega⟩, ⟨rfl, rfl, rfl, rfl, rfl⟩, rfl, rfl, ⟨fun _ _ => rfl, fun _ _ => rfl, rfl, trivial⟩, rfl, fun y hy => ⟨fun hlt => ?_, fun hge => ?_⟩⟩
    · obtain ⟨y1, y2, y3, y4⟩ := hy
      have hlt : (y : Int) < x3 := by simpa using hlt
      have e4 : ((N.toNat : Int) + (y : Int)).toNat = N.toNat + y := by omega
      rw [e4]
      refine ⟨⟨by omega, hlt⟩, ⟨by omega, by omega⟩, fun hne => ?_, fun heq => ?_⟩
      · have hne : H (N.toNat + y) ≠ 0 := by simpa using hne
        cases hm : mayG H N with
        | false => rfl
        | true => exact absurd (((mayG_iff H N).1 hm).2 y (by omega)) hne
      · have heq : H (N.toNat + y) = 0 := by simpa using heq
        refine ⟨y + 1, ⟨y1, y2, by omega, fun j hj => ?_⟩, ⟨rfl, rfl, rfl, rfl, rfl⟩, rfl, by rw [wrap_small (by omega)]; omega, ⟨fun _ _ => rfl, fun _ _ => rfl, rfl, trivial⟩, rfl, by omega⟩
        by_cases e : j = y
        · subst e; exact heq
        · exact y4 j (by omega)
    · obtain ⟨y1, y2, y3, y4⟩ := hy
      have hge : ¬ (y : Int) < x3 := by simpa using hge
      symm
      rw [mayG_iff]
      exact ⟨⟨y1, y2⟩, fun j hj => y4 j (by omega)⟩
theorem card_kMay : FnOKg Tryd.prog glK 10 (specSp (fun _ _ _ => []) fun _ H N => .one (sB (mayG H N))) :=
  FnOKg.up (FnOK_Sp (cx := Cx.none) (g := fun _ H N => .one (sB (mayG H N))) (iv := fun L H N => [(4, .inv (invMay L H N))]) (fun p hp => by cases hp) Tryd.func10 (by kernel_rfl) (by kernel_rfl) (fun _ _ _ => trivial) fun L H N _ => ok_kMay L H N) glK

theorem div8 {y : Nat} (h : y < 136) : IntKind.i64.wrap ((y : Int).tdiv 8) = ((y / 8 : Nat) : Int) := by
  have e : (y : Int).tdiv 8 = ((y / 8 : Nat) : Int) := by rw [Int.tdiv_eq_ediv_of_nonneg (by omega)]; omega
  rw [e, wrap_small (by omega)]
theorem mod8 {y : Nat} : IntKind.i64.wrap ((y : Int).tmod 8 * 8) = ((y % 8 * 8 : Nat) : Int) := by
  have e : (y : Int).tmod 8 = ((y % 8 : Nat) : Int) := by rw [Int.tmod_eq_emod_of_nonneg (by omega)]; omega
  rw [e, wrap_small (by omega)]
  omega
theorem ok_soak (a : Nat → BitVec 64) (H : Nat → Int) (N : Int) : Owes Tryd.prog ⟨[(16, specLanes 25 25 turnB)], glK, 0⟩ [(2, .inv (invSoak a H N))] 140 Tryd.f11 [sSp (fun i => lw (a i)) H N] (.one (.agg (.f .u64 25 (fun i => lw (soakB a H i)) :: zeroSp))) := by
  rw [vc_soak]
  refine ⟨fun y => rfl, 0, by omega, ⟨fun _ _ => rfl, trivial⟩, rfl, ⟨fun _ _ => rfl, fun _ _ => rfl, rfl, trivial⟩, rfl, rfl, fun y hy => ⟨fun hlt => ?_, fun hge => ?_⟩⟩
  · have hlt : (y : Int) < 136 := of_decide_eq_true hlt
    have hlt : y < 136 := by omega
    rw [div8 hlt, mod8]
    refine ⟨⟨by omega, by omega⟩, ⟨by omega, by omega⟩, ⟨by omega, by omega⟩, by omega, ⟨by omega, by omega⟩, ⟨by omega, by omega⟩, y + 1, by omega, ⟨fun _ _ => rfl, trivial⟩, by rw [wrap_small (by omega)]; omega, ⟨fun j hj => ?_, fun _ _ => rfl, rfl, trivial⟩, rfl, rfl, by omega⟩
    simp only [Int.toNat_natCast, ofInt_lw, wrap_nat, absB]
    have hm : Min.min (y % 8 * 8) 64 = y % 8 * 8 := by omega
    by_cases e : j = y / 8
    · subst e
      simp only [if_true]
      rw [hm]
      rfl
    · simp only [e, if_false]
  · have hge : ¬ (y : Int) < 136 := of_decide_eq_false hge
    have : y = 136 := by omega
    subst this
    refine ⟨lanes_lw _ _, fun j _ => ?_, ?_⟩
    · rw [ofRow_lw]; rfl
    · simp
theorem ok_first (L : Nat → Int) : Owes Tryd.prog Cx.none [(3, .inv (invFirst L))] 40 Tryd.f18 [sRow .u64 25 L] (.one (sRow .u8 32 (firstG L))) := by
  rw [vc_first]
  refine ⟨fun y => rfl, 0, by omega, rfl, ⟨fun _ _ => rfl, trivial⟩, rfl, rfl, ?_, rfl, fun y hy => ⟨fun hlt => ?_, fun hge => ?_⟩⟩
  · simp
  · have hlt : (y : Int) < 32 := of_decide_eq_true hlt
    have hlt : y < 32 := by omega
    rw [div8 (by omega), mod8]
    refine ⟨⟨by omega, by omega⟩, ⟨by omega, by omega⟩, by omega, ⟨by omega, by omega⟩, ⟨by omega, by omega⟩, y + 1, by omega, by rw [wrap_small (by omega)]; omega, ⟨fun _ _ => rfl, trivial⟩, rfl, rfl, ⟨fun j hj => ?_, trivial⟩, rfl, by omega⟩
    simp only [Int.toNat_natCast]
    have hm : Min.min (y % 8 * 8) 64 = y % 8 * 8 := by omega
    by_cases e : j = y
    · subst e
      simp only [if_true, hm, if_pos (Nat.lt_succ_self j), firstG]
    · have : j < y + 1 ↔ j < y := by omega
      simp only [e, if_false, this]
  · have hge : ¬ (y : Int) < 32 := of_decide_eq_false hge
    have : y = 32 := by omega
    subst this
    exact ⟨fun j hj => by simp [hj], trivial⟩
theorem card_first : FnOKg Tryd.prog glK 18 (specRow .u64 .u8 25 32 (fun _ => []) firstG) :=
  FnOKg.up (FnOK_row (cx := Cx.none) (iv := fun L => [(3, .inv (invFirst L))]) (fun p hp => by cases hp) Tryd.func18 (by kernel_rfl) (by kernel_rfl) fun L _ => ok_first L) glK
/-- A sponge that is soaked. -/
def soakG (L H : Nat → Int) (_ : Int) : SV := .one (.agg (.f .u64 25 (fun i => lw (soakB (ofRow L) H i)) :: zeroSp))
theorem lw_ofRow {n : Nat} {L : Nat → Int} (h : lanes n L) {i : Nat} (hi : i < n) : lw (ofRow L i) = L i := lw_of (h i hi)
theorem card_soak : FnOKg Tryd.prog glK 11 (specSp (fun L _ _ => [lanes 25 L]) soakG) := by
  refine FnOK_owesG (cx := ⟨[(16, specLanes 25 25 turnB)], glK, 0⟩) (by
    intro p hp
    simp only [List.mem_singleton] at hp
    subst hp
    exact card_Turn) Tryd.func11 (by kernel_rfl) (by kernel_rfl) fun args ps sv hs hp => ?_
  unfold specSp at hs
  split at hs
  · rename_i x
    split at hs
    · rename_i L H N hx
      simp only [Option.some.injEq, Prod.mk.injEq] at hs
      obtain ⟨rfl, rfl⟩ := hs
      obtain ⟨hl, _⟩ := hp
      refine ⟨_, _, [sSp (fun i => lw (ofRow L i)) H N], fun ρ => ?_, fun fz _ z hz => by simp only [List.mem_singleton] at hz; subst hz; exact bnd_sSp _ _ _ _, ?_, ok_soak (ofRow L) H N⟩
      · rw [List.map_singleton, List.map_singleton, asSp_canon hx ρ]
        congr 1
        simp only [SA.conc]
        rw [concs_cons, concs_cons ρ (.f .u64 25 fun i => lw (ofRow L i)), concs_f, concs_f]
        congr 3
        exact List.map_congr_left fun j hj => by rw [lw_ofRow hl (List.mem_range.1 hj)]
      · intro k hk
        simp only [zeroSp, List.mem_cons, List.not_mem_nil, or_false] at hk
        rcases hk with rfl | rfl | rfl <;> trivial
    · cases hs
  · cases hs
end Go.Proofs.YtfoklomipdkomaaDoor
end
